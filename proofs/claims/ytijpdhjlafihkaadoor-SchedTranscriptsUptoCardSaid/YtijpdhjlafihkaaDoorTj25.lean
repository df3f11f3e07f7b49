/-
  A strings.Builder: what it holds, and what its methods do.
-/
import Derived.Test.YtijpdhjlafihkaaDoorTj14
import Derived.Lib.Builder
import Derived.Lib.AppendStr
import Derived.Lib.UnsafeStr
import Derived.Lib.Hide
import Derived.Laws.Externs
import Derived.Deep.Slices
import Derived.Shelf.RegionOpenPlain
namespace Go.Proofs.YtijpdhjlafihkaaDoor.Ap
open Go.RowKit Go.Shelf
set_option linter.unusedVariables false
set_option maxRecDepth 100000

def BS (b : Nat) (v : Value) : Nat → Prop := fun k => k = b ∨ v.ownBlock = some k

/-- A builder in block b, its buffer's value v, the bytes xs; blocks 0 and 1 (tables) are none of its own. -/
structure Bld (w : World) (b : Nat) (v : Value) (xs : List UInt8) : Prop where
  blk : ∃ p, (p = .pointer none ∨ p = .pointer (some ⟨b, 0, none⟩)) ∧ w.heap[b]? = some (.cells #[p, v] 67 (0, 0))
  own : w.ownsRow 0 5 1 v xs.length (Lib.byteCells xs)
  high : ∀ k, BS b v k → 0 ≤ k

theorem row5 {w : World} {B n : Nat} {v : Value} {xs : List Value} (h : w.ownsRow B 5 1 v n xs) : ∀ k, v.ownBlock = some k → ∃ c, w.heap[k]? = some (.cells c 5 (0, 0)) := by
  intro k hk
  rcases h.2 with ⟨rfl, _⟩ | ⟨g, cap, cur, rfl, _, hg, _⟩
  · simp [Value.ownBlock] at hk
  · simp only [Value.ownBlock, Option.some.injEq] at hk
    subst hk
    exact ⟨cur, hg⟩

theorem Bld.lt {w : World} {b : Nat} {v : Value} {xs : List UInt8} (h : Bld w b v xs) : b < w.heap.size := by
  obtain ⟨p, _, hb⟩ := h.blk
  exact (Array.getElem?_eq_some_iff.1 hb).1

theorem Bld.rowlt {w : World} {b : Nat} {v : Value} {xs : List UInt8} (h : Bld w b v xs) : ∀ k, v.ownBlock = some k → k < w.heap.size := by
  intro k hk
  obtain ⟨c, hc⟩ := row5 h.own k hk
  exact (Array.getElem?_eq_some_iff.1 hc).1

theorem Bld.slt {w : World} {b : Nat} {v : Value} {xs : List UInt8} (h : Bld w b v xs) : ∀ k, BS b v k → k < w.heap.size := by
  rintro k (rfl | e)
  · exact h.lt
  · exact h.rowlt k e

theorem Bld.ne {w : World} {b : Nat} {v : Value} {xs : List UInt8} (h : Bld w b v xs) : v.ownBlock ≠ some b := by
  intro e
  obtain ⟨c, hc⟩ := row5 h.own b e
  obtain ⟨p, _, hb⟩ := h.blk
  rw [hb] at hc
  simp at hc

theorem Bld.keep {w w' : World} {b : Nat} {v : Value} {xs : List UInt8} (h : Bld w b v xs) (hc : Chg Non w w') : Bld w' b v xs := by
  obtain ⟨p, hp, hb⟩ := h.blk
  exact ⟨⟨p, hp, by rw [hc.block b h.lt (fun x => x)]; exact hb⟩, h.own.kept (row := none) ⟨hc.os, hc.tape, hc.output, hc.size, fun k hk _ => hc.block k hk (fun x => x)⟩ (by cases v.ownBlock <;> simp), h.high⟩

theorem Bld.fresh (w : World) : Bld (w.alloc (.cells #[.pointer none, .slice none 0 0] 67)) w.heap.size (.slice none 0 0) [] :=
  ⟨⟨_, .inl rfl, heap_alloc_new w _⟩, World.ownsRow_nil _ _ _ _, fun k e => e.elim (fun x => by omega) (fun x => by simp [Value.ownBlock] at x)⟩

/-- What writing leaves: the builder's own block and its row alone may have changed. -/
structure Wrote (w : World) (b : Nat) (v : Value) (w' : World) (v' : Value) (xs : List UInt8) : Prop where
  bld : Bld w' b v' xs
  chg : Chg (BS b v) w w'
  row : ∀ k, v'.ownBlock = some k → v.ownBlock = some k ∨ w.heap.size ≤ k

theorem Wrote.trans {w w1 w2 : World} {b : Nat} {v v1 v2 : Value} {xs ys : List UInt8} (h : Wrote w b v w1 v1 xs) (k : Wrote w1 b v1 w2 v2 ys) : Wrote w b v w2 v2 ys := by
  refine ⟨k.bld, h.chg.trans k.chg (fun i hi e => ?_), fun i e => ?_⟩
  · rcases e with e | e
    · exact .inl e
    · rcases h.row i e with x | x
      · exact .inr x
      · omega
  · rcases k.row i e with x | x
    · exact h.row i x
    · have := h.chg.size; exact .inr (by omega)

theorem Wrote.refl {w : World} {b : Nat} {v : Value} {xs : List UInt8} (h : Bld w b v xs) : Wrote w b v w v xs := ⟨h, Chg.refl _ _, fun k e => .inl e⟩

/-- New memory alone ahead. -/
theorem Wrote.from {w w1 w2 : World} {b : Nat} {v v2 : Value} {xs ys : List UInt8} (h : Bld w b v xs) (hc : Chg Non w w1) (k : Wrote w1 b v w2 v2 ys) : Wrote w b v w2 v2 ys :=
  Wrote.trans ⟨h.keep hc, hc.non _, fun k e => .inl e⟩ k

theorem Wrote.then {w w1 w2 : World} {b : Nat} {v v1 : Value} {xs : List UInt8} (h : Wrote w b v w1 v1 xs) (hc : Chg Non w1 w2) : Wrote w b v w2 v1 xs :=
  h.trans ⟨h.bld.keep hc, hc.non _, fun k e => .inl e⟩

theorem Wrote.heap {w w' : World} {b : Nat} {v v' : Value} {xs : List UInt8} (h : Wrote w b v w' v' xs) {k : Nat} (hk : k < w.heap.size) (hn : ¬ BS b v k) : w'.heap[k]? = w.heap[k]? := h.chg.block k hk hn

theorem info67 : (Tryd.prog.info? 67).map (·.size) = some 2 := by kernel_rfl
theorem lies67 : liesAt Tryd.prog Tryd.prog.depth 67 (2 / Tryd.prog.cellsOf 67) 0 67 1 = true := by kernel_rfl

set_option maxHeartbeats 1000000 in
theorem copyCheck_fresh (b : Nat) (w : World) (h0 : w.cell? ⟨b, 0, none⟩ = some (.pointer none)) (hsh : w.shape? b = some (67, 2)) (hfz : w.frozen? ⟨b, 0, none⟩ = false) :
    Calls Tryd.prog 71 #[.pointer (some ⟨b, 0, none⟩)] w fun e w' => e = .returned (.tuple #[]) ∧ w' = w.setCell ⟨b, 0, none⟩ (.pointer (some ⟨b, 0, none⟩)) := by
  obtain ⟨j, hj, hjs⟩ := Option.map_eq_some_iff.1 info67
  go_enter Tryd.func71, Tryd.ntmps71
  go_wp2
  rw [Lib.run_to_unsafe w ⟨b, 0, none⟩ Tryd.underlying65 Tryd.underlying107 hj (by rw [hjs]; decide) hsh (Nat.zero_lt_succ 1)]
  simp only [Result.andThen]
  rw [Oper.upon_value]
  go_wp2
  rw [run_callFunc_extern Tryd.func76 (by kernel_rfl) (by kernel_rfl) (by kernel_rfl) (e := Extern.AbiNoEscape.same) (by kernel_rfl)]
  rw [Lib.run_noEscape]
  simp only [Result.andThen]
  rw [Oper.upon_value]
  go_wp2
  rw [Lib.run_from_unsafe w ⟨b, 0, none⟩ Tryd.underlying107 Tryd.underlying65 hj hsh lies67]
  simp only [Result.andThen]
  rw [Oper.upon_value]
  go_wp2
  go_end0
  exact ⟨rfl, rfl⟩

set_option maxHeartbeats 1000000 in
theorem copyCheck_used (b : Nat) (w : World) (h0 : w.cell? ⟨b, 0, none⟩ = some (.pointer (some ⟨b, 0, none⟩))) :
    Calls Tryd.prog 71 #[.pointer (some ⟨b, 0, none⟩)] w fun e w' => e = .returned (.tuple #[]) ∧ w' = w := by
  obtain ⟨j, hj, hjs⟩ := Option.map_eq_some_iff.1 info67
  go_enter Tryd.func71, Tryd.ntmps71
  go_wp2
  first
    | done
    | (rw [Lib.run_neq_ptr_same w ⟨b, 0, none⟩ Tryd.underlying65 hj]
       simp only [Result.andThen]
       rw [Oper.upon_value]
       go_wp2)
  go_end0
  exact ⟨rfl, rfl⟩

theorem copyCheck_any (b : Nat) (v : Value) (xs : List UInt8) (w : World) (h : Bld w b v xs) :
    Calls Tryd.prog 71 #[.pointer (some ⟨b, 0, none⟩)] w fun e w' => e = .returned (.tuple #[]) ∧ w'.heap[b]? = some (.cells #[.pointer (some ⟨b, 0, none⟩), v] 67 (0, 0)) ∧ w'.ownsRow 0 5 1 v xs.length (Lib.byteCells xs) ∧ Chg (One b) w w' := by
  obtain ⟨p, hp, hb⟩ := h.blk
  rcases hp with rfl | rfl
  · refine (copyCheck_fresh b w (by rw [Lib.cell_of_heap hb]; rfl) (by simp [World.shape?, hb]) (Lib.frozen_of_heap hb 0)).mono ?_
    rintro e w' ⟨rfl, rfl⟩
    refine ⟨rfl, by simp [World.setCell, Array.getElem?_modify, hb], ?_, Chg.setCell (S := One b) (Chg.refl _ _) (p := ⟨b, 0, none⟩) (fun _ => rfl) _⟩
    exact h.own.kept (row := some b) ⟨rfl, rfl, rfl, by simp [World.setCell], fun k _ hk => Below.heap_setCell _ _ _ _ (fun e => hk (by simp [e]))⟩ (Or.inr h.ne)
  · refine (copyCheck_used b w (by rw [Lib.cell_of_heap hb]; rfl)).mono ?_
    rintro e w' ⟨rfl, rfl⟩
    exact ⟨rfl, hb, h.own, Chg.refl _ _⟩

theorem own_put {w : World} {b : Nat} {p v v' : Value} {xs : List UInt8} (hb : w.heap[b]? = some (.cells #[p, v] 67 (0, 0))) (hp : p = .pointer none ∨ p = .pointer (some ⟨b, 0, none⟩)) (hown : w.ownsRow 0 5 1 v' xs.length (Lib.byteCells xs)) (hh : ∀ k, BS b v' k → 0 ≤ k) :
    Bld (w.setCell ⟨b, 1, none⟩ v') b v' xs := by
  refine ⟨⟨p, hp, by simp [World.setCell, Array.getElem?_modify, hb]⟩, hown.kept (row := some b) ⟨rfl, rfl, rfl, by simp [World.setCell], fun k _ hk => Below.heap_setCell _ _ _ _ (fun e => hk (by simp [e]))⟩ (Or.inr ?_), hh⟩
  intro e
  obtain ⟨c, hc⟩ := row5 hown b e
  rw [hb] at hc
  simp at hc

theorem app_str (ty : TypeId) (w : World) (v : Value) (n : Nat) (xs : List Value) (hown : w.ownsRow 0 5 1 v n xs) (s : ByteArray) (h63 : n + s.size ≤ maxLen) (hb : n + s.size ≤ 140737488355328) :
    ∃ v' w', (Builtin.append_ #[23, 9] ty #[v, .string s]).run Tryd.prog w = .ok v' w' ∧ w'.ownsRow 0 5 1 v' (n + s.size) (xs ++ Lib.strCells s) ∧ w.grownBy w' v.ownBlock ∧ (∀ k, v'.ownBlock = some k → v.ownBlock = some k ∨ w.heap.size ≤ k) := by
  obtain ⟨i0, hi, hz0, hz1, hz2⟩ := info_parts Tryd.info5
  obtain ⟨v', w', hr, h2, h3, h4⟩ := Lib.run_append_own_string (P := Tryd.prog) w 0 23 9 ty 5 i0 Tryd.underlying23 Tryd.underlying9 hi hz0 hz1 hz2 v n xs hown s h63 hb (Nat.zero_le _)
  refine ⟨v', w', hr, h2, h3, fun k hk => ?_⟩
  rcases hown.2 with ⟨rfl, rfl⟩ | ⟨g, cap, cur, rfl, hbg, hg, hnc, hcm, hcs, htake⟩
  · obtain ⟨v2, w2, hr2, g2, g3, g4⟩ := Lib.run_append_own_string (P := Tryd.prog) w w.heap.size 23 9 ty 5 i0 Tryd.underlying23 Tryd.underlying9 hi hz0 hz1 hz2 (.slice none 0 0) 0 xs ⟨hown.1, .inl ⟨rfl, rfl⟩⟩ s h63 hb (Nat.le_refl _)
    rw [hr] at hr2
    cases hr2
    rcases g2.2 with ⟨rfl, _⟩ | ⟨g, cap, cur, rfl, hbg, _⟩
    · simp [Value.ownBlock] at hk
    · simp only [Value.ownBlock, Option.some.injEq] at hk
      exact .inr (by omega)
  · by_cases hroom : n + s.size ≤ cap
    · have hcs' : cur.size = cap := by simpa using hcs
      have hr2 := Lib.run_append_room_string (P := Tryd.prog) w 23 9 ty 5 i0 Tryd.underlying23 Tryd.underlying9 hi hz1 g n cap cur hg s hroom (by omega)
      rw [hr] at hr2
      cases hr2
      exact .inl hk
    · have hxl : xs.length = n := by simpa using hown.1
      have hsm : n + s.size ≤ 9223372036854775807 := by simp only [maxLen] at h63; omega
      have hr2 := Lib.run_append_grow_string (P := Tryd.prog) w 23 9 ty 5 i0 (.int .u8 0) Tryd.underlying23 Tryd.underlying9 hi hz0 ⟨g, 0, none⟩ n cap xs (by rw [hz1]; simpa using hxl) (hown.cells (g := g) rfl) s (by omega) (by omega) (by rw [hz2]; exact growslice_fits (by omega) (by omega))
      rw [hr] at hr2
      cases hr2
      simp only [Value.ownBlock, Option.some.injEq] at hk
      exact .inr (by omega)

theorem app_one (ty : TypeId) (w : World) (v : Value) (n : Nat) (xs : List Value) (hown : w.ownsRow 0 5 1 v n xs) (a : Addr) (c : Int) (hc : w.cell? (a.add 0) = some (.int .u8 c)) (h63 : n + 1 ≤ maxLen) (hb : n + 1 ≤ 140737488355328) :
    ∃ v' w', (Builtin.append_ #[23, 23] ty #[v, .slice (some a) 1 1]).run Tryd.prog w = .ok v' w' ∧ w'.ownsRow 0 5 1 v' (n + 1) (xs ++ [.int .u8 c]) ∧ w.grownBy w' v.ownBlock ∧ (∀ k, v'.ownBlock = some k → v.ownBlock = some k ∨ w.heap.size ≤ k) := by
  obtain ⟨i0, hi, hz0, hz1, hz2⟩ := info_parts Tryd.info5
  have hnews : ∀ j u, [Value.int .u8 c][j]? = some u → w.cell? (a.add j) = some u := by
    intro j u hj
    match j, hj with
    | 0, hj => simp at hj; subst hj; exact hc
  have hone : ∀ u ∈ [Value.int .u8 c], u.oneCell' = true := by
    intro u hu; simp at hu; subst hu; rfl
  obtain ⟨v', w', hr, h2, h3, h4⟩ := run_append_own (P := Tryd.prog) w 0 23 ty 5 i0 (.int .u8 0) 1 1 Tryd.underlying23 hi hz0 hz1 hz2 rfl (by decide) v n xs hown a 1 1 [.int .u8 c] rfl hnews hone h63 (by omega) (Nat.zero_le _)
  refine ⟨v', w', hr, h2, h3, fun k hk => ?_⟩
  rcases hown.2 with ⟨rfl, rfl⟩ | ⟨g, cap, cur, rfl, hbg, hg, hnc, hcm, hcs, htake⟩
  · obtain ⟨v2, w2, hr2, g2, g3, g4⟩ := run_append_own (P := Tryd.prog) w w.heap.size 23 ty 5 i0 (.int .u8 0) 1 1 Tryd.underlying23 hi hz0 hz1 hz2 rfl (by decide) (.slice none 0 0) 0 xs ⟨hown.1, .inl ⟨rfl, rfl⟩⟩ a 1 1 [.int .u8 c] rfl hnews hone h63 (by omega) (Nat.le_refl _)
    rw [hr] at hr2
    cases hr2
    rcases g2.2 with ⟨rfl, _⟩ | ⟨g, cap, cur, rfl, hbg, _⟩
    · simp [Value.ownBlock] at hk
    · simp only [Value.ownBlock, Option.some.injEq] at hk
      exact .inr (by omega)
  · by_cases hroom : n + 1 ≤ cap
    · have hcs' : cur.size = cap := by simpa using hcs
      have hr2 := run_append_room (P := Tryd.prog) w 23 ty 5 i0 Tryd.underlying23 hi g n cap cur hg a 1 1 [.int .u8 c] (by rw [hz1]; rfl) hnews hone hroom (by rw [hz1]; simp; omega)
      rw [hr] at hr2
      cases hr2
      exact .inl hk
    · have hsm : n + 1 ≤ 9223372036854775807 := by simp only [maxLen] at h63; omega
      have hr2 := run_append_grow (P := Tryd.prog) w 23 ty 5 i0 (.int .u8 0) Tryd.underlying23 hi hz0 ⟨g, 0, none⟩ n cap xs (by rw [hz1]; exact hown.1) (hown.cells (g := g) rfl) a 1 1 [.int .u8 c] (by rw [hz1]; rfl) hnews (by omega) (by omega) (by rw [hz2]; exact growslice_fits (by omega) (by omega))
      rw [hr] at hr2
      cases hr2
      simp only [Value.ownBlock, Option.some.injEq] at hk
      exact .inr (by omega)

theorem wpList_str (w : World) {ops : Array Oper} {rest : List Oper} {o : Oper} {a : Act} {Q : Exit → Act → World → Prop}
    (hg : o.guard = none) (sl x : Operand) (hop : o.op = Op.call { callee := Callee.builtin Builtin.append, args := #[sl, x], argTypes := #[23, 9] })
    (v : Value) (n : Nat) (xs : List Value) (s : ByteArray) (hs : a.eval sl = v) (hx : a.eval x = .string s) (hown : w.ownsRow 0 5 1 v n xs) (h63 : n + s.size ≤ maxLen) (hb : n + s.size ≤ 140737488355328)
    (hK : ∀ v' w', w'.ownsRow 0 5 1 v' (n + s.size) (xs ++ Lib.strCells s) → w.grownBy w' v.ownBlock → (∀ k, v'.ownBlock = some k → v.ownBlock = some k ∨ w.heap.size ≤ k) → wpList Tryd.prog ops Q rest (a.put o.dst v') w') :
    wpList Tryd.prog ops Q (o :: rest) a w := by
  refine wpList_plain hg fun K hK' => ?_
  obtain ⟨v', w', hrun, r1, r2, r3⟩ := app_str o.type w v n xs hown s h63 hb
  unfold Oper.wp
  simp [execOp, hop, resolve, invoke, builtin, hs, hx, hrun, Result.andThen]
  exact hK' _ _ (hK v' w' r1 r2 r3)

theorem wpList_one (w : World) {ops : Array Oper} {rest : List Oper} {o : Oper} {a : Act} {Q : Exit → Act → World → Prop}
    (hg : o.guard = none) (sl x : Operand) (hop : o.op = Op.call { callee := Callee.builtin Builtin.append, args := #[sl, x], argTypes := #[23, 23] })
    (v : Value) (n : Nat) (xs : List Value) (ad : Addr) (c : Int) (hs : a.eval sl = v) (hx : a.eval x = .slice (some ad) 1 1) (hc : w.cell? (ad.add 0) = some (.int .u8 c)) (hown : w.ownsRow 0 5 1 v n xs) (h63 : n + 1 ≤ maxLen) (hb : n + 1 ≤ 140737488355328)
    (hK : ∀ v' w', w'.ownsRow 0 5 1 v' (n + 1) (xs ++ [.int .u8 c]) → w.grownBy w' v.ownBlock → (∀ k, v'.ownBlock = some k → v.ownBlock = some k ∨ w.heap.size ≤ k) → wpList Tryd.prog ops Q rest (a.put o.dst v') w') :
    wpList Tryd.prog ops Q (o :: rest) a w := by
  refine wpList_plain hg fun K hK' => ?_
  obtain ⟨v', w', hrun, r1, r2, r3⟩ := app_one o.type w v n xs hown ad c hc h63 hb
  unfold Oper.wp
  simp [execOp, hop, resolve, invoke, builtin, hs, hx, hrun, Result.andThen]
  exact hK' _ _ (hK v' w' r1 r2 r3)

set_option maxHeartbeats 2000000 in
theorem writeString_any (b : Nat) (v : Value) (xs : List UInt8) (s : ByteArray) (w : World) (h : Bld w b v xs) (hlen : xs.length + s.size ≤ 140737488355328) :
    Calls Tryd.prog 60 #[.pointer (some ⟨b, 0, none⟩), .string s] w fun e w' => e = .returned (.tuple #[.int .i64 s.size, .nilIface]) ∧ ∃ v', Wrote w b v w' v' (xs ++ s.data.toList) := by
  go_enter Tryd.func60, Tryd.ntmps60
  go_wp2_with (go_at_call 71; refine (copyCheck_any b v xs _ h).mono ?_)
  rintro e w1 ⟨rfl, hbk, hown, hc1⟩
  have c0 : w1.cell? ⟨b, 0, none⟩ = some (.pointer (some ⟨b, 0, none⟩)) := by rw [Lib.cell_of_heap hbk]; rfl
  have c1 : w1.cell? ⟨b, 1, none⟩ = some v := by rw [Lib.cell_of_heap hbk]; rfl
  go_wp2_with (at_builtin; refine wpList_str _ rfl _ _ rfl _ _ _ s rfl rfl hown ?c3 ?c4 ?_)
  case c3 => unfold maxLen; omega
  case c4 => omega
  intro v' w2 hown' hgrow hrow
  have hlt : b < w1.heap.size := (Array.getElem?_eq_some_iff.1 hbk).1
  have hne : v.ownBlock ≠ some b := h.ne
  have hb2 : w2.heap[b]? = some (.cells #[.pointer (some ⟨b, 0, none⟩), v] 67 (0, 0)) := by
    rw [hgrow.block b hlt (fun e => hne e.symm)]
    exact hbk
  have d0 : w2.cell? ⟨b, 0, none⟩ = some (.pointer (some ⟨b, 0, none⟩)) := by rw [Lib.cell_of_heap hb2]; rfl
  have d1 : w2.cell? ⟨b, 1, none⟩ = some v := by rw [Lib.cell_of_heap hb2]; rfl
  have f1 : w2.frozen? ⟨b, 1, none⟩ = false := Lib.frozen_of_heap hb2 1
  obtain ⟨ao, n', cap, rfl⟩ : ∃ ao n' cap, v' = .slice ao n' cap := by
    rcases hown'.2 with ⟨hv, _⟩ | ⟨g, cap, cur, hv, _⟩
    · exact ⟨_, _, _, hv⟩
    · exact ⟨_, _, _, hv⟩
  go_wp2
  go_ret2
  have hw : w2.ownsRow 0 5 1 (.slice ao n' cap) (xs ++ s.data.toList).length (Lib.byteCells (xs ++ s.data.toList)) := by
    rw [Lib.byteCells_append, ← Lib.strCells_eq, List.length_append]
    have : s.data.toList.length = s.size := by simp
    rw [this]
    exact hown'
  refine ⟨rfl, .slice ao n' cap, own_put hb2 (.inr rfl) hw (fun k e => ?_), ?_, fun k e => ?_⟩
  · rcases e with e | e
    · exact h.high k (.inl e)
    · rcases hrow k e with x | x
      · exact h.high k (.inr x)
      · have h2 := hc1.size
        have h3 := h.high b (.inl rfl)
        have h4 := h.lt
        have h5 : w1.heap.size ≤ k := by omega
        omega
  · refine Chg.setCell ((hc1.mono (S' := BS b v) (fun i _ e => .inl e)).trans (Chg.of_grown hgrow) (fun i _ e => .inr e)) (fun _ => .inl rfl) _
  · rcases hrow k e with x | x
    · exact .inl x
    · have := hc1.size; exact .inr (by omega)

set_option maxHeartbeats 2000000 in
theorem writeByte_any (b : Nat) (v : Value) (xs : List UInt8) (c : UInt8) (w : World) (h : Bld w b v xs) (hlen : xs.length + 1 ≤ 140737488355328) :
    Calls Tryd.prog 58 #[.pointer (some ⟨b, 0, none⟩), .int .u8 c.toNat] w fun e w' => e = .returned .nilIface ∧ ∃ v', Wrote w b v w' v' (xs ++ [c]) := by
  obtain ⟨ci, hci⟩ : ∃ ci : Int, ci = (c.toNat : Int) := ⟨_, rfl⟩
  rw [← hci]
  have HCI : Hid (ci = (c.toNat : Int)) := hci
  clear hci
  go_enter Tryd.func58, Tryd.ntmps58
  go_wp2_with (go_at_call 71; refine (copyCheck_any b v xs _ h).mono ?_)
  rintro e w1 ⟨rfl, hbk, hown, hc1⟩
  have c0 : w1.cell? ⟨b, 0, none⟩ = some (.pointer (some ⟨b, 0, none⟩)) := by rw [Lib.cell_of_heap hbk]; rfl
  have c1 : w1.cell? ⟨b, 1, none⟩ = some v := by rw [Lib.cell_of_heap hbk]; rfl
  go_wp2_with (at_builtin; refine wpList_one _ rfl _ _ rfl _ _ _ ⟨w1.heap.size, 0, none⟩ ci rfl rfl ?c1 (hown.alloc _) ?c3 ?c4 ?_)
  case c1 => simp [Addr.add]
  case c3 => unfold maxLen; omega
  case c4 => omega
  intro v' w2 hown' hgrow hrow
  have hlt : b < w1.heap.size := (Array.getElem?_eq_some_iff.1 hbk).1
  have hne : v.ownBlock ≠ some b := h.ne
  have hb2 : w2.heap[b]? = some (.cells #[.pointer (some ⟨b, 0, none⟩), v] 67 (0, 0)) := by
    rw [hgrow.block b (by simp; omega) (fun e => hne e.symm), Lib.alloc_old w1 _ b hlt]
    exact hbk
  have d0 : w2.cell? ⟨b, 0, none⟩ = some (.pointer (some ⟨b, 0, none⟩)) := by rw [Lib.cell_of_heap hb2]; rfl
  have d1 : w2.cell? ⟨b, 1, none⟩ = some v := by rw [Lib.cell_of_heap hb2]; rfl
  have f1 : w2.frozen? ⟨b, 1, none⟩ = false := Lib.frozen_of_heap hb2 1
  obtain ⟨ao, n', cap, rfl⟩ : ∃ ao n' cap, v' = .slice ao n' cap := by
    rcases hown'.2 with ⟨hv, _⟩ | ⟨g, cap, cur, hv, _⟩
    · exact ⟨_, _, _, hv⟩
    · exact ⟨_, _, _, hv⟩
  go_wp2
  go_ret
  have hw : w2.ownsRow 0 5 1 (.slice ao n' cap) (xs ++ [c]).length (Lib.byteCells (xs ++ [c])) := by
    rw [Lib.byteCells_append, List.length_append]
    rw [HCI.out] at hown'
    exact hown'
  refine ⟨rfl, .slice ao n' cap, own_put hb2 (.inr rfl) hw (fun k e => ?_), ?_, fun k e => ?_⟩
  · rcases e with e | e
    · exact h.high k (.inl e)
    · rcases hrow k e with x | x
      · exact h.high k (.inr x)
      · have h2 := hc1.size
        have h3 := h.high b (.inl rfl)
        have h4 := h.lt
        have h5 : w1.heap.size ≤ k := by omega
        omega
  · refine Chg.setCell (((hc1.mono (S' := BS b v) (fun i _ e => .inl e)).alloc _).trans (Chg.of_grown hgrow) (fun i _ e => .inr e)) (fun _ => .inl rfl) _
  · rcases hrow k e with x | x
    · exact .inl x
    · have := hc1.size
      have x2 : (w1.alloc (.cells #[.int .u8 ci] 5)).heap.size = w1.heap.size + 1 := by simp
      exact .inr (by omega)

theorem sizeByte : (Tryd.prog.info? 5).map (·.size) = some 1 := by kernel_rfl
theorem cellsByte : Tryd.prog.cellsOf 5 = 1 := by kernel_rfl

/-- A builder whose memory is new since a world. -/
structure TB (w0 w : World) (b : Nat) (v : Value) (xs : List UInt8) : Prop where
  bld : Bld w b v xs
  new : ∀ k, BS b v k → w0.heap.size ≤ k
  low : Below w0.heap.size w0 w
theorem TB.wrote {w0 w w' : World} {b : Nat} {v v' : Value} {xs ys : List UInt8} (h : TB w0 w b v xs) (k : Wrote w b v w' v' ys) : TB w0 w' b v' ys := by
  refine ⟨k.bld, fun i e => ?_, h.low.trans (k.chg.below h.low.size h.new)⟩
  rcases e with e | e
  · exact h.new i (.inl e)
  · rcases k.row i e with x | x
    · exact h.new i (.inr x)
    · have := h.low.size; omega
theorem low_non {w0 w : World} (h : Below w0.heap.size w0 w) : Chg Non w0 w := ⟨h.os, h.tape, h.output, h.size, fun k hk _ => h.block k hk⟩

set_option maxHeartbeats 4000000 in
theorem String_any (b : Nat) (v : Value) (l : List UInt8) (w0 w : World) (h : TB w0 w b v l) (h0 : l ≠ []) :
    Calls Tryd.prog 44 #[.pointer (some ⟨b, 0, none⟩)] w fun e w' => e = .returned (.string ⟨l.toArray⟩) ∧ Below w0.heap.size w0 w' := by
  obtain ⟨p, -, hbk⟩ := h.bld.blk
  have hown := h.bld.own
  have hl0 : l.length ≠ 0 := by simpa using h0
  have hnew := h.new
  have hlow := h.low
  clear h
  obtain ⟨g, cap, cur, rfl, -, hg, hnc, hcm, hcs, htake⟩ : ∃ g cap cur, v = .slice (some ⟨g, 0, none⟩) l.length cap ∧ 0 ≤ g ∧ w.heap[g]? = some (.cells cur 5 (0, 0)) ∧ l.length ≤ cap ∧ cap ≤ maxLen ∧ cur.size = cap * 1 ∧ cur.toList.take (l.length * 1) = Lib.byteCells l := by
    rcases hown.2 with ⟨_, hz⟩ | ⟨g, cap, cur, hv, r⟩
    · exact absurd hz hl0
    · exact ⟨g, cap, cur, hv, r⟩
  have c1 : w.drew.cell? ⟨b, 1, none⟩ = some (.slice (some ⟨g, 0, none⟩) l.length cap) := by
    have : w.drew.heap[b]? = some (.cells #[p, .slice (some ⟨g, 0, none⟩) l.length cap] 67 (0, 0)) := hbk
    rw [Lib.cell_of_heap this]; rfl
  have hSD : (Builtin.unsafeSliceData_ #[23] 86 #[.slice (some ⟨g, 0, none⟩) l.length cap]).run Tryd.prog w.drew = .ok (.pointer (some ⟨g, 0, none⟩)) w.drew :=
    Lib.run_unsafeSliceData_row _ _ _ _ _ _ (by omega)
  have hUS : (Builtin.unsafeString_ #[86, 3] 9 #[.pointer (some ⟨g, 0, none⟩), .int .i64 l.length]).run Tryd.prog w.drew = .ok (.string ⟨l.toArray⟩) (w.drew.freeze ⟨g, 0, none⟩ l.length) := by
    refine Lib.run_unsafeString_row w.drew 86 3 9 5 Tryd.underlying86 cellsByte g cur.size (by have hg' : w.drew.heap[g]? = some (.cells cur 5 (0, 0)) := hg; simp [World.shape?, hg']) l h0 (by omega) (by unfold maxLen at hcm; omega) ?_
    intro j x hx
    have := hown.cells (g := g) rfl j (.int .u8 x.toNat) (by simp [Lib.byteCells, hx])
    exact this
  have HBG : Hid (w0.heap.size ≤ g) := hnew g (.inr rfl)
  have HLW : Hid (Below w0.heap.size w0 w) := hlow
  have mixed : Tryd.prog.follows .mixedOrders = true := by kernel_rfl
  clear hown hg hcs htake hnew hlow hbk
  go_enter Tryd.func44, Tryd.ntmps44
  go_wp2
  go_region_o
  all_goals (go_wp2; go_ret; exact ⟨rfl, Lib.below_freeze (Below.drew HLW.out) (p := ⟨g, 0, none⟩) HBG.out _⟩)
end Go.Proofs.YtijpdhjlafihkaaDoor.Ap
