/-
  What a slice of bytes holds, what a call may have changed, and the one law on append by which all walks of this seat go.
-/
import Derived.Test.YtdhckndehijemaaProg
import Derived.WalkKit
import Derived.WalkSpells
import Derived.WalkLawsBesides
namespace Go.Proofs.Ytdhckndehijemaa
open Go.RowKit
set_option maxRecDepth 100000

/-- Below the old size only blocks of S may have changed. -/
structure Chg (S : Nat → Prop) (w w' : World) : Prop where
  os : w'.os = w.os
  tape : w'.tape = w.tape
  output : w'.output = w.output
  size : w.heap.size ≤ w'.heap.size
  block : ∀ k, k < w.heap.size → ¬ S k → w'.heap[k]? = w.heap[k]?

def Non : Nat → Prop := fun _ => False
def One (r : Nat) : Nat → Prop := fun k => k = r

theorem Chg.refl (S : Nat → Prop) (w : World) : Chg S w w := ⟨rfl, rfl, rfl, Nat.le_refl _, fun _ _ _ => rfl⟩

theorem Chg.trans {S S' : Nat → Prop} {a b c : World} (h : Chg S a b) (k : Chg S' b c) (hS : ∀ i, i < a.heap.size → S' i → S i) : Chg S a c :=
  ⟨k.os.trans h.os, k.tape.trans h.tape, k.output.trans h.output, Nat.le_trans h.size k.size, fun i hi hn =>
    (k.block i (Nat.lt_of_lt_of_le hi h.size) (fun x => hn (hS i hi x))).trans (h.block i hi hn)⟩

theorem Chg.mono {S S' : Nat → Prop} {a b : World} (h : Chg S a b) (hS : ∀ i, i < a.heap.size → S i → S' i) : Chg S' a b :=
  ⟨h.os, h.tape, h.output, h.size, fun i hi hn => h.block i hi (fun x => hn (hS i hi x))⟩

theorem Chg.drew {S : Nat → Prop} {a b : World} (h : Chg S a b) : Chg S a b.drew := ⟨h.os, h.tape, h.output, h.size, h.block⟩

theorem Chg.of_grown {w w' : World} {row : Option Nat} (h : w.grownBy w' row) : Chg (fun k => row = some k) w w' :=
  ⟨h.os, h.tape, h.output, h.size, fun k hk hn => h.block k hk (fun e => hn e.symm)⟩

theorem Chg.of_none {w w' : World} (h : w.grownBy w' none) : Chg Non w w' :=
  ⟨h.os, h.tape, h.output, h.size, fun k hk _ => h.block k hk (fun e => by cases e)⟩

theorem Chg.alloc {S : Nat → Prop} {a w : World} (h : Chg S a w) (o : Obj) : Chg S a (w.alloc o) :=
  h.trans (S' := Non) ⟨rfl, rfl, rfl, by simp, fun k hk _ => Below.heap_alloc _ _ _ hk⟩ (fun _ _ x => x.elim)

theorem Chg.setCell {S : Nat → Prop} {a w : World} (h : Chg S a w) {p : Addr} (hp : p.block < a.heap.size → S p.block) (u : Value) : Chg S a (w.setCell p u) :=
  h.trans (S' := One p.block) ⟨rfl, rfl, rfl, by simp [World.setCell], fun k _ hn => Below.heap_setCell _ _ _ _ hn⟩ (fun _ hi x => by cases x; exact hp hi)

theorem Chg.below {S : Nat → Prop} {B : Nat} {a w : World} (h : Chg S a w) (hB : B ≤ a.heap.size) (hS : ∀ k, S k → B ≤ k) : Below B a w :=
  ⟨h.os, h.tape, h.output, h.size, fun k hk => h.block k (by omega) (fun x => by have := hS k x; omega)⟩

theorem Chg.non {a w : World} (h : Chg Non a w) (S : Nat → Prop) : Chg S a w := h.mono (fun _ _ x => x.elim)

/-- A slice of bytes that can be read: xs. -/
def Rd (w : World) (v : Value) (xs : List Int) : Prop :=
  ∃ ao n c, v = .slice ao n c ∧ n = xs.length ∧ n ≤ c ∧ c ≤ maxLen ∧ (ao = none → c = 0) ∧ ∀ x, ao = some x → ∀ j u, xs[j]? = some u → w.cell? (x.add j) = some (.int .u8 u)

theorem Rd.keep {w w' : World} {v : Value} {xs : List Int} (h : Rd w v xs) (hk : ∀ k, v.ownBlock = some k → k < w.heap.size → w'.heap[k]? = w.heap[k]?) : Rd w' v xs := by
  obtain ⟨ao, n, c, rfl, hn, hc, hmx, h0, hx⟩ := h
  refine ⟨ao, n, c, rfl, hn, hc, hmx, h0, fun x e j u hj => ?_⟩
  subst e
  have h1 := hx x rfl j u hj
  have hb : (x.add j).block = x.block := by unfold Addr.add; split <;> rfl
  rw [← h1]
  apply World.cell?_of_block
  rw [hb]
  exact hk _ rfl (by have := World.block_lt_of_cell? w _ h1; rwa [hb] at this)

theorem Rd.nil (w : World) : Rd w (.slice none 0 0) [] := ⟨none, 0, 0, rfl, rfl, Nat.le_refl _, by decide, fun _ => rfl, fun _ h => by cases h⟩

/-- The same without spare room: nil where nothing is in it. -/
def Tight (w : World) (v : Value) (xs : List Int) : Prop :=
  (v = .slice none 0 0 ∧ xs = []) ∨
  ∃ x n, v = .slice (some x) n n ∧ n = xs.length ∧ 0 < n ∧ n ≤ maxLen ∧ ∀ j u, xs[j]? = some u → w.cell? (x.add j) = some (.int .u8 u)

theorem Tight.rd {w : World} {v : Value} {xs : List Int} (h : Tight w v xs) : Rd w v xs := by
  rcases h with ⟨rfl, rfl⟩ | ⟨x, n, rfl, hn, h0, hmx, hx⟩
  · exact Rd.nil w
  · exact ⟨some x, n, n, rfl, hn, Nat.le_refl _, hmx, fun e => by (cases e), fun y e => by cases e; exact hx⟩

theorem Tight.shape {w : World} {v : Value} {xs : List Int} (h : Tight w v xs) : ∃ ao n, v = .slice ao n n := by
  rcases h with ⟨rfl, rfl⟩ | ⟨x, n, rfl, hn, h0, hmx, hx⟩
  · exact ⟨_, _, rfl⟩
  · exact ⟨_, _, rfl⟩

theorem Rd.shape {w : World} {v : Value} {xs : List Int} (h : Rd w v xs) : ∃ ao n c, v = .slice ao n c ∧ n = xs.length ∧ n ≤ c ∧ c ≤ maxLen := by
  obtain ⟨ao, n, c, rfl, hn, hc, hmx, h0, hx⟩ := h
  exact ⟨_, _, _, rfl, hn, hc, hmx⟩

theorem Tight.lt {w : World} {v : Value} {xs : List Int} (h : Tight w v xs) : ∀ k, v.ownBlock = some k → k < w.heap.size := by
  intro k hk
  rcases h with ⟨rfl, rfl⟩ | ⟨x, n, rfl, hn, h0, hmx, hx⟩
  · simp [Value.ownBlock] at hk
  · simp [Value.ownBlock] at hk
    subst hk
    have h1 := hx 0 (xs[0]'(by omega)) (by simp)
    have hb : (x.add 0).block = x.block := by unfold Addr.add; split <;> rfl
    have := World.block_lt_of_cell? w _ h1
    rwa [hb] at this

theorem Tight.keep {w w' : World} {v : Value} {xs : List Int} (h : Tight w v xs) (hk : ∀ k, v.ownBlock = some k → w'.heap[k]? = w.heap[k]?) : Tight w' v xs := by
  have hr := (h.rd.keep (w' := w') (fun k e _ => hk k e))
  rcases h with h | ⟨x, n, rfl, hn, h0, hmx, hx⟩
  · exact .inl h
  · obtain ⟨ao, n', c, e, hn', hc, _, _, hx'⟩ := hr
    cases e
    exact .inr ⟨x, n, rfl, hn, h0, hmx, hx' x rfl⟩

/-- A slice of bytes in a row of our own, from a place of it on, with its spare room. -/
structure Own (w : World) (g off n cap : Nat) (xs : List Int) : Prop where
  len : xs.length = n
  le : n ≤ cap
  mx : cap ≤ maxLen
  blk : ∃ cur : Array Value, w.heap[g]? = some (.cells cur 5 (0, 0)) ∧ off + cap ≤ cur.size ∧ (cur.toList.drop off).take n = xs.map (Value.int .u8)

def OwnV (w : World) (v : Value) (xs : List Int) : Prop :=
  (v = .slice none 0 0 ∧ xs = []) ∨ ∃ g off n cap, v = .slice (some ⟨g, off, none⟩) n cap ∧ Own w g off n cap xs

theorem Own.lt {w : World} {g off n cap : Nat} {xs : List Int} (h : Own w g off n cap xs) : g < w.heap.size := by
  obtain ⟨cur, hg, _⟩ := h.blk
  exact (Array.getElem?_eq_some_iff.1 hg).1

theorem Own.cell {w : World} {g off n cap : Nat} {xs : List Int} (h : Own w g off n cap xs) : ∀ j u, xs[j]? = some u → w.cell? ⟨g, off + j, none⟩ = some (.int .u8 u) := by
  intro j u hj
  obtain ⟨cur, hg, hs, ht⟩ := h.blk
  have hlt := (List.getElem?_eq_some_iff.1 hj).1
  have e : ((cur.toList.drop off).take n)[j]? = (xs.map (Value.int .u8))[j]? := by rw [ht]
  rw [List.getElem?_take, if_pos (by have := h.len; omega), List.getElem?_drop, List.getElem?_map, hj] at e
  rw [cell_of_row w g (off + j) cur 5 (0, 0) hg]
  simpa using e

theorem Own.rd {w : World} {g off n cap : Nat} {xs : List Int} (h : Own w g off n cap xs) : Rd w (.slice (some ⟨g, off, none⟩) n cap) xs :=
  ⟨_, _, _, rfl, h.len.symm, h.le, h.mx, fun e => by (cases e), fun x e j u hj => by cases e; rw [Addr.add_lit]; exact h.cell j u hj⟩

theorem OwnV.rd {w : World} {v : Value} {xs : List Int} (h : OwnV w v xs) : Rd w v xs := by
  rcases h with ⟨rfl, rfl⟩ | ⟨g, off, n, cap, rfl, h⟩
  · exact Rd.nil w
  · exact h.rd

theorem OwnV.lt {w : World} {v : Value} {xs : List Int} (h : OwnV w v xs) : ∀ k, v.ownBlock = some k → k < w.heap.size := by
  intro k hk
  rcases h with ⟨rfl, rfl⟩ | ⟨g, off, n, cap, rfl, h⟩
  · simp [Value.ownBlock] at hk
  · simp [Value.ownBlock] at hk
    subst hk
    exact h.lt

theorem Own.keep {w w' : World} {g off n cap : Nat} {xs : List Int} (h : Own w g off n cap xs) (hk : w'.heap[g]? = w.heap[g]?) : Own w' g off n cap xs :=
  ⟨h.len, h.le, h.mx, by rw [hk]; exact h.blk⟩

theorem OwnV.keep {w w' : World} {v : Value} {xs : List Int} (h : OwnV w v xs) (hk : ∀ k, v.ownBlock = some k → w'.heap[k]? = w.heap[k]?) : OwnV w' v xs := by
  rcases h with h | ⟨g, off, n, cap, rfl, h⟩
  · exact .inl h
  · exact .inr ⟨g, off, n, cap, rfl, h.keep (hk _ rfl)⟩

theorem Try.info5 : (Try.prog.info? 5).map (fun i => (i.zero, i.size, i.bytes)) = some (some (.int .u8 0), 1, 1) := by kernel_rfl

theorem run_first (w : World) (v : Value) (xs : List Int) (h : Rd w v xs) : (Builtin.firstCells 1 xs.length v).run Try.prog w = .ok (xs.map (Value.int .u8)).toArray w := by
  obtain ⟨ao, n, c, rfl, hn, hc, hmx, h0, hx⟩ := h
  cases ao with
  | none =>
    have : xs = [] := List.eq_nil_of_length_eq_zero (by have := h0 rfl; omega)
    subst this
    simp [Builtin.firstCells]
  | some x =>
    have := run_loadCells_list (P := Try.prog) w x (xs.map (Value.int .u8)) (fun j v hj => by
      rw [List.getElem?_map] at hj
      cases hu : xs[j]? with
      | none => rw [hu] at hj; cases hj
      | some u => rw [hu] at hj; cases hj; exact hx x rfl j u hu)
    simpa [Builtin.firstCells] using this

theorem Rd.drew {w : World} {v : Value} {xs : List Int} (h : Rd w v xs) : Rd w.drew v xs := h.keep (fun _ _ _ => rfl)

/-- append that must grow, of whatever can be read: a new row. -/
theorem run_grow (ty : TypeId) (w : World) (ao : Option Addr) (c : Nat) (s : Value) (xs ys : List Int) (hv : Rd w (.slice ao xs.length c) xs) (hs : Rd w s ys) (hb : xs.length + ys.length ≤ 140737488355328)
    (hr : ¬ xs.length + ys.length ≤ c) :
    ∃ v' w', (Builtin.append_ #[23, 23] ty #[.slice ao xs.length c, s]).run Try.prog w = .ok v' w' ∧ OwnV w' v' (xs ++ ys) ∧ Chg Non w w' ∧ v'.ownBlock = some w.heap.size := by
  obtain ⟨i, hi, hz, hsz, hby⟩ := info_parts Try.info5
  have ht := Try.underlying23
  have hfsd := run_first w.drew s ys hs.drew
  have hfv := run_first w.drew _ xs hv.drew
  obtain ⟨so, m, sc, rfl, hm, hmc, hsm, hs0, hsx⟩ := hs
  subst hm
  have hge := grownCap_ge w (xs.length + ys.length) c 5
  have hcm : grownCap w (xs.length + ys.length) c 5 ≤ maxLen := grownCap_le_maxLen w (xs.length + ys.length) c 5 (by unfold maxLen; omega)
  have hfit := growslice_fits (bytes := 1) (show c < xs.length + ys.length by omega) (by simpa using hb)
  rw [← hby] at hfit
  have h63' : ¬ (9223372036854775807 < ((xs.length : Int) + (ys.length : Int))) := by omega
  have h48' : ¬ (281474976710656 < Builtin.nextslicecap (xs.length + ys.length) c * i.bytes) := by omega
  refine ⟨.slice (some ⟨w.heap.size, 0, none⟩) (xs.length + ys.length) (grownCap w (xs.length + ys.length) c 5),
    w.drew.alloc (.cells (((xs ++ ys).map (Value.int .u8)).toArray ++ Builtin.zeroCells (Value.int .u8 0).cells (grownCap w (xs.length + ys.length) c 5 - (xs.length + ys.length))) 5), ?_,
    .inr ⟨w.heap.size, 0, _, _, rfl, ⟨by simp, hge, hcm, _, heap_alloc_new w.drew _, ?_, ?_⟩⟩, ⟨rfl, rfl, rfl, by simp, fun k hk _ => Below.heap_alloc w.drew _ k hk⟩, rfl⟩
  · simp [Builtin.append_, run_underlying ht, sizeOf, typeInfo, zeroValue, hi, hz, hsz, Builtin.lenOf, hr, h63', h48', Question.forced, hfsd, hfv, newRow, grownCap]
    congr 2
    apply Array.ext'
    simp
  · simp [size_zeroCells, Value.cells]; omega
  · simp only [List.drop_zero, Array.toList_append]
    rw [List.take_append_of_le_length (by simp), List.take_of_length_le (by simp)]

/-- append of nothing. -/
theorem run_nothing (ty : TypeId) (w : World) (v s : Value) (xs : List Int) (hv : Rd w v xs) (hs : Rd w s []) :
    (Builtin.append_ #[23, 23] ty #[v, s]).run Try.prog w = .ok v w := by
  obtain ⟨i, hi, hz, hsz, hby⟩ := info_parts Try.info5
  have ht := Try.underlying23
  have hfs := run_first w s [] hs
  obtain ⟨so, m, sc, rfl, hm, hmc, hsm, hs0, hsx⟩ := hs
  subst hm
  obtain ⟨ao, n, c, rfl, hn, hnc, hvm, hv0, hvx⟩ := hv
  simp only [List.length_nil] at hfs
  cases ao <;> simp [Builtin.append_, run_underlying ht, sizeOf, typeInfo, hi, Builtin.lenOf, hsz, hfs, hnc, storeCells]

/-- append where there is room. -/
theorem run_room (ty : TypeId) (w : World) (g off n cap : Nat) (s : Value) (xs ys : List Int) (h : Own w g off n cap xs) (hs : Rd w s ys) (hr : n + ys.length ≤ cap) :
    ∃ w', (Builtin.append_ #[23, 23] ty #[.slice (some ⟨g, off, none⟩) n cap, s]).run Try.prog w = .ok (.slice (some ⟨g, off, none⟩) (n + ys.length) cap) w' ∧ Own w' g off (n + ys.length) cap (xs ++ ys) ∧ Chg (One g) w w' := by
  obtain ⟨i, hi, hz, hsz, hby⟩ := info_parts Try.info5
  have ht := Try.underlying23
  have hfs := run_first w s ys hs
  obtain ⟨so, m, sc, rfl, hm, hmc, hsm, hs0, hsx⟩ := hs
  subst hm
  have hlen := h.len
  subst hlen
  obtain ⟨cur, hg, hsz', htk⟩ := h.blk
  have hst := run_storeCells_at Try.prog g (off + xs.length) 5 (ys.map (Value.int .u8)) 0 cur w hg (by simp; omega) (ints_oneCell _ _)
  simp only [Nat.add_zero] at hst
  refine ⟨w.setRow g (cur.toList.take (off + xs.length) ++ ys.map (Value.int .u8) ++ cur.toList.drop (off + xs.length + (ys.map (Value.int .u8)).length)).toArray, ?_, ⟨by simp, hr, h.mx, _, setRow_heap w g cur _ 5 _ hg, ?_, ?_⟩, ⟨rfl, rfl, rfl, by simp [World.setRow], fun k _ hk => setRow_other w g k _ hk⟩⟩
  · simp [Builtin.append_, run_underlying ht, sizeOf, typeInfo, hi, Builtin.lenOf, hsz, hfs, hr, Addr.add_lit, hst]
  · simp; omega
  · have hd : (cur.toList.take (off + xs.length)).drop off = xs.map (Value.int .u8) := by
      rw [List.drop_take]
      simpa using htk
    rw [List.append_assoc, List.drop_append_of_le_length (by simp; omega), hd, ← List.append_assoc, ← List.map_append]
    rw [List.take_append_of_le_length (by simp), List.take_of_length_le (by simp)]

/-- append, onto a row of our own, of whatever can be read. -/
theorem run_app (ty : TypeId) (w : World) (v s : Value) (xs ys : List Int) (hv : OwnV w v xs) (hs : Rd w s ys) (hb : xs.length + ys.length ≤ 140737488355328) :
    ∃ v' w', (Builtin.append_ #[23, 23] ty #[v, s]).run Try.prog w = .ok v' w' ∧ OwnV w' v' (xs ++ ys) ∧ Chg (fun k => v.ownBlock = some k) w w' ∧
      (v'.ownBlock = v.ownBlock ∨ v'.ownBlock = some w.heap.size) := by
  have hvr := hv.rd
  obtain ⟨ao, n, c, rfl, hn, hnc, hvm, hv0, hvx⟩ := hv.rd
  subst hn
  by_cases hr : xs.length + ys.length ≤ c
  · rcases hv with ⟨e, rfl⟩ | ⟨g, off, n, cap, e, h⟩
    · cases e
      have : ys = [] := List.eq_nil_of_length_eq_zero (by simpa using hr)
      subst this
      exact ⟨.slice none 0 0, w, run_nothing ty w _ s [] hvr hs, .inl ⟨rfl, rfl⟩, Chg.refl _ _, .inl rfl⟩
    · cases e
      obtain ⟨w', h1, h2, h3⟩ := run_room ty w g off xs.length c s xs ys h hs hr
      exact ⟨_, w', h1, .inr ⟨g, off, _, c, rfl, h2⟩, h3.mono (fun k _ e => by cases e; rfl), .inl rfl⟩
  · obtain ⟨v', w', h1, h2, h3, h4⟩ := run_grow ty w ao c s xs ys hvr hs hb hr
    exact ⟨v', w', h1, h2, h3.non _, .inr h4⟩

/-- append, onto what has no spare room: nothing old is written. -/
theorem run_tight (ty : TypeId) (w : World) (v s : Value) (xs ys : List Int) (hv : Tight w v xs) (hs : Rd w s ys) (hb : xs.length + ys.length ≤ 140737488355328) :
    ∃ v' w', (Builtin.append_ #[23, 23] ty #[v, s]).run Try.prog w = .ok v' w' ∧ Rd w' v' (xs ++ ys) ∧ Chg Non w w' ∧
      (v'.ownBlock = v.ownBlock ∨ v'.ownBlock = some w.heap.size) := by
  by_cases hy : ys = []
  · subst hy
    exact ⟨v, w, run_nothing ty w v s xs hv.rd hs, by simpa using hv.rd, Chg.refl _ _, .inl rfl⟩
  · have hpos : 0 < ys.length := List.length_pos_iff.2 hy
    have hvr := hv.rd
    rcases hv with ⟨rfl, rfl⟩ | ⟨x, n, rfl, hn, h0, hmx, hx⟩
    · obtain ⟨v', w', h1, h2, h3, h4⟩ := run_grow ty w none 0 s [] ys hvr hs hb (by simpa using hy)
      exact ⟨v', w', h1, h2.rd, h3, .inr h4⟩
    · subst hn
      obtain ⟨v', w', h1, h2, h3, h4⟩ := run_grow ty w (some x) xs.length s xs ys hvr hs hb (by omega)
      exact ⟨v', w', h1, h2.rd, h3, .inr h4⟩

theorem wpList_app (w : World) {ops : Array Oper} {rest : List Oper} {o : Oper} {a : Act} {Q : Exit → Act → World → Prop}
    (hg : o.guard = none) (s x : Operand) (hop : o.op = Op.call { callee := Callee.builtin Builtin.append, args := #[s, x], argTypes := #[23, 23] })
    (v sv : Value) (xs ys : List Int) (hs : a.eval s = v) (hx : a.eval x = sv) (hv : OwnV w v xs) (hr : Rd w sv ys) (hb : xs.length + ys.length ≤ 140737488355328)
    (hK : ∀ v' w', OwnV w' v' (xs ++ ys) → Chg (fun k => v.ownBlock = some k) w w' → (v'.ownBlock = v.ownBlock ∨ v'.ownBlock = some w.heap.size) → wpList Try.prog ops Q rest (a.put o.dst v') w') :
    wpList Try.prog ops Q (o :: rest) a w := by
  refine wpList_plain hg fun K hK' => ?_
  obtain ⟨v', w', hrun, r1, r2, r3⟩ := run_app o.type w v sv xs ys hv hr hb
  unfold Oper.wp
  simp [execOp, hop, resolve, invoke, builtin, hs, hx, hrun, Result.andThen]
  exact hK' _ _ (hK v' w' r1 r2 r3)

theorem wpList_room (w : World) {ops : Array Oper} {rest : List Oper} {o : Oper} {a : Act} {Q : Exit → Act → World → Prop}
    (hg : o.guard = none) (s x : Operand) (hop : o.op = Op.call { callee := Callee.builtin Builtin.append, args := #[s, x], argTypes := #[23, 23] })
    (g off n cap : Nat) (sv : Value) (xs ys : List Int) (hs : a.eval s = .slice (some ⟨g, off, none⟩) n cap) (hx : a.eval x = sv) (hv : Own w g off n cap xs) (hr : Rd w sv ys) (m : Nat) (hm : m = ys.length) (hb : n + m ≤ cap)
    (hK : ∀ w', Own w' g off (n + m) cap (xs ++ ys) → Chg (One g) w w' → wpList Try.prog ops Q rest (a.put o.dst (.slice (some ⟨g, off, none⟩) (n + m) cap)) w') :
    wpList Try.prog ops Q (o :: rest) a w := by
  refine wpList_plain hg fun K hK' => ?_
  subst hm
  obtain ⟨w', hrun, r1, r2⟩ := run_room o.type w g off n cap sv xs ys hv hr hb
  unfold Oper.wp
  simp [execOp, hop, resolve, invoke, builtin, hs, hx, hrun, Result.andThen]
  exact hK' _ _ (hK w' r1 r2)

theorem Own.of_row {w : World} {g n cap : Nat} {base : Nat} {xs : List Int} (h : w.ownsRow base 5 1 (.slice (some ⟨g, 0, none⟩) n cap) n (xs.map (Value.int .u8))) : Own w g 0 n cap xs := by
  obtain ⟨h1, h2⟩ := h
  rcases h2 with ⟨e, _⟩ | ⟨g', cap', cur, e, hb, hh, hn, hm, hs, ht⟩
  · cases e
  · cases e
    exact ⟨by simpa using h1, hn, hm, cur, hh, by omega, by simpa using ht⟩

/-- A new slice's one cell. -/
theorem Rd.one (w : World) (b : Int) : Rd (w.alloc (.cells #[.int .u8 b] 5)) (.slice (some ⟨w.heap.size, 0, none⟩) 1 1) [b] := by
  refine ⟨_, _, _, rfl, rfl, Nat.le_refl _, by decide, fun e => by (cases e), fun x e j u hj => ?_⟩
  cases e
  match j, hj with
  | 0, hj =>
    simp at hj
    subst hj
    simp [Addr.add]

theorem wpList_tight (w : World) {ops : Array Oper} {rest : List Oper} {o : Oper} {a : Act} {Q : Exit → Act → World → Prop}
    (hg : o.guard = none) (s x : Operand) (hop : o.op = Op.call { callee := Callee.builtin Builtin.append, args := #[s, x], argTypes := #[23, 23] })
    (v sv : Value) (xs ys : List Int) (hs : a.eval s = v) (hx : a.eval x = sv) (hv : Tight w v xs) (hr : Rd w sv ys) (hb : xs.length + ys.length ≤ 140737488355328)
    (hK : ∀ v' w', Rd w' v' (xs ++ ys) → Chg Non w w' → (v'.ownBlock = v.ownBlock ∨ v'.ownBlock = some w.heap.size) → wpList Try.prog ops Q rest (a.put o.dst v') w') :
    wpList Try.prog ops Q (o :: rest) a w := by
  refine wpList_plain hg fun K hK' => ?_
  obtain ⟨v', w', hrun, r1, r2, r3⟩ := run_tight o.type w v sv xs ys hv hr hb
  unfold Oper.wp
  simp [execOp, hop, resolve, invoke, builtin, hs, hx, hrun, Result.andThen]
  exact hK' _ _ (hK v' w' r1 r2 r3)

/-- A slice of bytes made a string. -/
theorem run_str (w : World) (v : Value) (xs : List Int) (h : Rd w v xs) : (convert 23 9 v).run Try.prog w = .ok (.string (strOfNums xs)) w := by
  have hf := run_first w v xs h
  obtain ⟨ao, n, c, rfl, hn, hc, hmx, h0, hx⟩ := h
  subst hn
  cases ao with
  | none =>
    have : xs = [] := List.eq_nil_of_length_eq_zero (by have := h0 rfl; omega)
    subst this
    exact run_convert_bytes_nil w 23 5 Try.underlying23 Try.underlying5 _ _ 9 Try.underlying9
  | some x =>
    simp [Builtin.firstCells] at hf
    rw [run_convert_bytes_string w 23 9 5 _ _ _ Try.underlying23 Try.underlying5 Try.underlying9, run_bytesToString w x _ _ xs (by simpa using hf), foldl_push_bytes]
    simp [strOfNums, ByteArray.empty, ByteArray.emptyWithCapacity]
    rfl
end Go.Proofs.Ytdhckndehijemaa
