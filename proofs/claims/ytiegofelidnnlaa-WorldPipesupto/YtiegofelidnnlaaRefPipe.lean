/-
  The document's pipe: what it holds, and what its calls do to it.
-/
import Derived.Test.YtiegofelidnnlaaPipe2
import Derived.Test.YtiegofelidnnlaaRef
import Derived.Deep.RegionLaw
namespace Go.Proofs.Ytiegofelidnnlaa
open Go.RowKit
set_option linter.unusedVariables false

/-- append, as one step of a region that draws. -/
theorem step_app {ops : Array Oper} {o : Oper} {a : Act} {w : World} {K : Act → World → Prop} {Q : Exit → Act → World → Prop} {E : Prop}
    (hg : o.guard = none) (s x : Operand) (hop : o.op = Op.call { callee := Callee.builtin Builtin.append, args := #[s, x], argTypes := #[32, 32] })
    (v sv : Value) (xs ys : List Int) (hs : a.eval s = v) (hx : a.eval x = sv) (hv : OwnV w v xs) (hr : Rd w sv ys) (hb : xs.length + ys.length ≤ 140737488355328)
    (hK : ∀ v' w', OwnV w' v' (xs ++ ys) → Chg (fun k => v.ownBlock = some k) w w' → (v'.ownBlock = v.ownBlock ∨ v'.ownBlock = some w.heap.size) → K (a.put o.dst v') w') :
    if Region.wanted o (yielded ops a.tmps) = true then Oper.wp Try.prog o a w K Q else E := by
  have hw : Region.wanted o (yielded ops a.tmps) = true := by simp [Region.wanted, hg]
  rw [if_pos hw]
  obtain ⟨v', w', hrun, r1, r2, r3⟩ := run_app o.type w v sv xs ys hv hr hb
  unfold Oper.wp
  simp [execOp, hop, resolve, invoke, builtin, hs, hx, hrun, Result.andThen]
  exact hK v' w' r1 r2 r3

/-- The document's pipe. -/
structure PipeB (w : World) (p : Nat) (room : Int) (vf va : Value) (f a : List Int) (cl br : Bool) : Prop where
  blk : w.heap[p]? = some (.cells #[.int .i64 room, vf, va, .bool cl, .bool br] 72 (0, 0))
  fly : OwnV w vf f
  arr : OwnV w va a

theorem PipeB.lt {w : World} {p : Nat} {room : Int} {vf va : Value} {f a : List Int} {cl br : Bool} (h : PipeB w p room vf va f a cl br) : p < w.heap.size := (Array.getElem?_eq_some_iff.1 h.blk).1

theorem PipeB.cells {w : World} {p : Nat} {room : Int} {vf va : Value} {f a : List Int} {cl br : Bool} (h : PipeB w p room vf va f a cl br) :
    w.cell? ⟨p, 0, none⟩ = some (.int .i64 room) ∧ w.cell? ⟨p, 1, none⟩ = some vf ∧ w.cell? ⟨p, 2, none⟩ = some va ∧ w.cell? ⟨p, 3, none⟩ = some (.bool cl) ∧ w.cell? ⟨p, 4, none⟩ = some (.bool br) := by
  refine ⟨?_, ?_, ?_, ?_, ?_⟩
  · rw [cell_of_row w p 0 _ 72 (0, 0) h.blk]; rfl
  · rw [cell_of_row w p 1 _ 72 (0, 0) h.blk]; rfl
  · rw [cell_of_row w p 2 _ 72 (0, 0) h.blk]; rfl
  · rw [cell_of_row w p 3 _ 72 (0, 0) h.blk]; rfl
  · rw [cell_of_row w p 4 _ 72 (0, 0) h.blk]; rfl

theorem PipeB.free {w : World} {p : Nat} {room : Int} {vf va : Value} {f a : List Int} {cl br : Bool} (h : PipeB w p room vf va f a cl br) (o : Nat) : w.frozen? ⟨p, o, none⟩ = false := by
  simp [World.frozen?, h.blk]

theorem PipeB.sf {w : World} {p : Nat} {room : Int} {vf va : Value} {f a : List Int} {cl br : Bool} (h : PipeB w p room vf va f a cl br) : vf.ownBlock ≠ some p := h.fly.ne h.blk (by decide)
theorem PipeB.sa {w : World} {p : Nat} {room : Int} {vf va : Value} {f a : List Int} {cl br : Bool} (h : PipeB w p room vf va f a cl br) : va.ownBlock ≠ some p := h.arr.ne h.blk (by decide)

theorem PipeB.kept {S : Nat → Prop} {w w' : World} {p : Nat} {room : Int} {vf va : Value} {f a : List Int} {cl br : Bool} (h : PipeB w p room vf va f a cl br) (hc : Chg S w w') (h0 : ¬ S p)
    (h1 : ∀ k, vf.ownBlock = some k → ¬ S k) (h2 : ∀ k, va.ownBlock = some k → ¬ S k) : PipeB w' p room vf va f a cl br :=
  ⟨(hc.block p h.lt h0).trans h.blk, h.fly.keep (fun k e => hc.block k (h.fly.lt k e) (h1 k e)), h.arr.keep (fun k e => hc.block k (h.arr.lt k e) (h2 k e))⟩

theorem PipeB.drewN {w : World} {p : Nat} {room : Int} {vf va : Value} {f a : List Int} {cl br : Bool} (h : PipeB w p room vf va f a cl br) (n : Nat) : PipeB (w.drewN n) p room vf va f a cl br :=
  ⟨h.blk, h.fly.keep (fun _ _ => rfl), h.arr.keep (fun _ _ => rfl)⟩

theorem OwnV.len {w : World} {v : Value} {xs : List Int} (h : OwnV w v xs) : ∃ ao c, v = .slice ao xs.length c ∧ xs.length ≤ c ∧ c ≤ maxLen := by
  obtain ⟨ao, n, c, rfl, hn, hc, hm⟩ := h.rd.shape
  subst hn
  exact ⟨_, _, rfl, hc, hm⟩

theorem OwnV.drew {w : World} {v : Value} {xs : List Int} (h : OwnV w v xs) : OwnV w.drew v xs := h.keep (fun _ _ => rfl)
theorem OwnV.alloc {w : World} {v : Value} {xs : List Int} (h : OwnV w v xs) (o : Obj) : OwnV (w.alloc o) v xs := h.keep (fun k e => Below.heap_alloc _ _ _ (h.lt k e))

theorem PipeB.setFly {w : World} {p : Nat} {room : Int} {vf va : Value} {a : List Int} {cl br : Bool} (hb : w.heap[p]? = some (.cells #[.int .i64 room, vf, va, .bool cl, .bool br] 72 (0, 0))) (ha : OwnV w va a)
    {v : Value} {g : List Int} (hv : OwnV w v g) : PipeB (w.setCell ⟨p, 1, none⟩ v) p room v va g a cl br :=
  ⟨heap_setCell_at _ _ _ _ _ _ hb, hv.store (hv.ne hb (by decide)) 1 _, ha.store (ha.ne hb (by decide)) 1 _⟩

theorem PipeB.setArr {w : World} {p : Nat} {room : Int} {vf va : Value} {f : List Int} {cl br : Bool} (hb : w.heap[p]? = some (.cells #[.int .i64 room, vf, va, .bool cl, .bool br] 72 (0, 0))) (hf : OwnV w vf f)
    {v : Value} {g : List Int} (hv : OwnV w v g) : PipeB (w.setCell ⟨p, 2, none⟩ v) p room vf v f g cl br :=
  ⟨heap_setCell_at _ _ _ _ _ _ hb, hf.store (hf.ne hb (by decide)) 2 _, hv.store (hv.ne hb (by decide)) 2 _⟩

set_option maxHeartbeats 400000 in
theorem refNewPipe_no (room : Int) (w : World) (h : room < 1 ∨ 65536 < room) :
    Calls Try.prog 18 #[.int .i64 room] w fun e w' => e = .returned (.tuple #[.pointer none, .int .i64 1]) ∧ w' = w := by
  by_cases h1 : room < 1
  · go_enter Try.func18, Try.ntmps18
    go_wp2
    all_goals (go_ret2; exact ⟨rfl, rfl⟩)
  · go_enter Try.func18, Try.ntmps18
    go_wp2
    all_goals (go_ret2; exact ⟨rfl, rfl⟩)

set_option maxHeartbeats 400000 in
theorem refNewPipe_yes (room : Int) (w : World) (h1 : 1 ≤ room) (h2 : room ≤ 65536) :
    Calls Try.prog 18 #[.int .i64 room] w fun e w' => e = .returned (.tuple #[.pointer (some ⟨w.heap.size, 0, none⟩), .int .i64 0]) ∧ PipeB w' w.heap.size room (.slice none 0 0) (.slice none 0 0) [] [] false false ∧ Chg Non w w' := by
  go_enter Try.func18, Try.ntmps18
  go_wp2
  go_ret2
  exact ⟨rfl, ⟨heap_alloc_new w _, .inl ⟨rfl, rfl⟩, .inl ⟨rfl, rfl⟩⟩, (Chg.refl _ _).alloc _⟩

set_option maxHeartbeats 400000 in
theorem refClose_any (p : Nat) (room : Int) (vf va : Value) (f a : List Int) (cl br : Bool) (w : World) (h : PipeB w p room vf va f a cl br) :
    Calls Try.prog 38 #[.pointer (some ⟨p, 0, none⟩)] w fun e w' => e = .returned (.tuple #[]) ∧ PipeB w' p room vf va f a true br ∧ Chg (One p) w w' := by
  obtain ⟨c0, c1, c2, c3, c4⟩ := h.cells
  have hf := h.free
  have HH : Hid (PipeB w p room vf va f a cl br) := h
  clear h
  go_enter Try.func38, Try.ntmps38
  go_wp2
  go_end0
  have h := HH.out
  exact ⟨rfl, ⟨heap_setCell_at _ _ _ _ _ _ h.blk, h.fly.store h.sf 3 _, h.arr.store h.sa 3 _⟩, Chg.one _ _ _ _⟩

set_option maxHeartbeats 400000 in
theorem refCut_any (p : Nat) (room : Int) (vf va : Value) (f a : List Int) (cl br : Bool) (w : World) (h : PipeB w p room vf va f a cl br) :
    Calls Try.prog 37 #[.pointer (some ⟨p, 0, none⟩)] w fun e w' => e = .returned (.tuple #[]) ∧ PipeB w' p room (.slice none 0 0) va [] a true br ∧ Chg (One p) w w' := by
  obtain ⟨c0, c1, c2, c3, c4⟩ := h.cells
  have hf := h.free
  have HH : Hid (PipeB w p room vf va f a cl br) := h
  clear h
  go_enter Try.func37, Try.ntmps37
  go_wp2
  go_end0
  have h := HH.out
  have h1 : PipeB (w.setCell ⟨p, 1, none⟩ (.slice none 0 0)) p room (.slice none 0 0) va [] a cl br := PipeB.setFly h.blk h.arr (.inl ⟨rfl, rfl⟩)
  exact ⟨rfl, ⟨heap_setCell_at _ _ _ _ _ _ h1.blk, .inl ⟨rfl, rfl⟩, h1.arr.store h1.sa 3 _⟩, (Chg.one w p 1 _).trans (Chg.one _ p 3 _) (fun _ _ e => e)⟩

set_option maxHeartbeats 400000 in
theorem refBreak_any (p : Nat) (room : Int) (vf va : Value) (f a : List Int) (cl br : Bool) (w : World) (h : PipeB w p room vf va f a cl br) :
    Calls Try.prog 40 #[.pointer (some ⟨p, 0, none⟩)] w fun e w' => e = .returned (.tuple #[]) ∧ PipeB w' p room (.slice none 0 0) (.slice none 0 0) [] [] cl true ∧ Chg (One p) w w' := by
  obtain ⟨c0, c1, c2, c3, c4⟩ := h.cells
  have hf := h.free
  have HH : Hid (PipeB w p room vf va f a cl br) := h
  clear h
  go_enter Try.func40, Try.ntmps40
  go_wp2
  go_end0
  have h := HH.out
  have e1 := heap_setCell_at w p 4 (.bool true) _ _ h.blk
  have e2 := heap_setCell_at _ p 1 (.slice none 0 0) _ _ e1
  have e3 := heap_setCell_at _ p 2 (.slice none 0 0) _ _ e2
  exact ⟨rfl, ⟨e3, .inl ⟨rfl, rfl⟩, .inl ⟨rfl, rfl⟩⟩, ((Chg.one w p 4 _).trans (Chg.one _ p 1 _) (fun _ _ e => e)).trans (Chg.one _ p 2 _) (fun _ _ e => e)⟩

set_option maxHeartbeats 1000000 in
theorem refRoom_any (p : Nat) (room : Int) (vf va : Value) (f a : List Int) (cl br : Bool) (w : World) (h : PipeB w p room vf va f a cl br) (hl : f.length + a.length ≤ 281474976710656) (hr : 0 ≤ room ∧ room ≤ 65536) :
    Calls Try.prog 44 #[.pointer (some ⟨p, 0, none⟩)] w fun e w' => e = .returned (.int .i64 (roomOf room (f.length + a.length) cl br)) ∧ ∃ n, w' = w.drewN n := by
  obtain ⟨ao, ac, rfl, -⟩ := h.fly.len
  obtain ⟨bo, bc, rfl, -⟩ := h.arr.len
  obtain ⟨c0, c1, c2, c3, c4⟩ := h.cells
  clear h
  generalize f.length = F at *
  generalize a.length = A at *
  obtain ⟨hr1, hr2⟩ := hr
  have key : ∀ b : Bool, cl = b → ∀ b' : Bool, br = b' → Calls Try.prog 44 #[.pointer (some ⟨p, 0, none⟩)] w fun e w' => e = .returned (.int .i64 (roomOf room (F + A) cl br)) ∧ ∃ n, w' = w.drewN n := by
    intro b hb b' hb'
    cases b
    · cases b'
      · subst hb hb'
        by_cases hm : room - (F : Int) - A < 0
        · go_enter Try.func44, Try.ntmps44
          go_wp2_with fail
          go_quiet (fail)
          go_wp2
          all_goals (go_ret; exact ⟨ret_int (by simp [roomOf]; omega), _, rfl⟩)
        · go_enter Try.func44, Try.ntmps44
          go_wp2_with fail
          go_quiet (fail)
          go_wp2
          all_goals (go_ret; exact ⟨ret_int (by simp [roomOf]; omega), _, rfl⟩)
      · subst hb hb'
        go_enter Try.func44, Try.ntmps44
        go_wp2_with fail
        go_quiet (fail)
        go_wp2
        all_goals (go_ret; exact ⟨ret_int (by simp [roomOf]), _, rfl⟩)
    · subst hb
      go_enter Try.func44, Try.ntmps44
      go_wp2_with fail
      go_quiet (fail)
      go_wp2
      all_goals (go_ret; exact ⟨ret_int (by simp [roomOf]), _, rfl⟩)
  exact key cl rfl br rfl
end Go.Proofs.Ytiegofelidnnlaa
