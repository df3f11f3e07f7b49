/-
  What a slice of bytes holds, what a call may have changed, and the one law on append by which all walks of this seat go.
  Blocks, boxes, round keys, streams of AES as plain functions; unlike blocks are encrypted to unlike ones.
-/
import Derived.Test.YtobglgddbhddnaaGreatProg
import Derived.WalkKit
import Derived.WalkSpells
import Derived.WalkLawsBesides
namespace Go.Proofs.YtobglgddbhddnaaGreat.Ap
open Go.RowKit
set_option maxRecDepth 100000

/-- Below the old size only blocks of S may have changed. -/
structure Chg (S : Nat → Prop) (w w' : World) : Prop where
  os : w'.os = w.os
  tape : w'.tape = w.tape
  output : w'.output = w.output
  size : w.heap.size ≤ w'.heap.size
  block : ∀ k, k < w.heap.size → ¬ S k → w'.heap[k]? = w.heap[k]?

def Non : Nat → Prop := fun _ => False
def One (r : Nat) : Nat → Prop := fun k => k = r

theorem Chg.refl (S : Nat → Prop) (w : World) : Chg S w w := ⟨rfl, rfl, rfl, Nat.le_refl _, fun _ _ _ => rfl⟩

theorem Chg.trans {S S' : Nat → Prop} {a b c : World} (h : Chg S a b) (k : Chg S' b c) (hS : ∀ i, i < a.heap.size → S' i → S i) : Chg S a c :=
  ⟨k.os.trans h.os, k.tape.trans h.tape, k.output.trans h.output, Nat.le_trans h.size k.size, fun i hi hn =>
    (k.block i (Nat.lt_of_lt_of_le hi h.size) (fun x => hn (hS i hi x))).trans (h.block i hi hn)⟩

theorem Chg.mono {S S' : Nat → Prop} {a b : World} (h : Chg S a b) (hS : ∀ i, i < a.heap.size → S i → S' i) : Chg S' a b :=
  ⟨h.os, h.tape, h.output, h.size, fun i hi hn => h.block i hi (fun x => hn (hS i hi x))⟩

theorem Chg.drew {S : Nat → Prop} {a b : World} (h : Chg S a b) : Chg S a b.drew := ⟨h.os, h.tape, h.output, h.size, h.block⟩

theorem Chg.of_grown {w w' : World} {row : Option Nat} (h : w.grownBy w' row) : Chg (fun k => row = some k) w w' :=
  ⟨h.os, h.tape, h.output, h.size, fun k hk hn => h.block k hk (fun e => hn e.symm)⟩

theorem Chg.of_none {w w' : World} (h : w.grownBy w' none) : Chg Non w w' :=
  ⟨h.os, h.tape, h.output, h.size, fun k hk _ => h.block k hk (fun e => by cases e)⟩

theorem Chg.alloc {S : Nat → Prop} {a w : World} (h : Chg S a w) (o : Obj) : Chg S a (w.alloc o) :=
  h.trans (S' := Non) ⟨rfl, rfl, rfl, by simp, fun k hk _ => Below.heap_alloc _ _ _ hk⟩ (fun _ _ x => x.elim)

theorem Chg.setCell {S : Nat → Prop} {a w : World} (h : Chg S a w) {p : Addr} (hp : p.block < a.heap.size → S p.block) (u : Value) : Chg S a (w.setCell p u) :=
  h.trans (S' := One p.block) ⟨rfl, rfl, rfl, by simp [World.setCell], fun k _ hn => Below.heap_setCell _ _ _ _ hn⟩ (fun _ hi x => by cases x; exact hp hi)

theorem Chg.below {S : Nat → Prop} {B : Nat} {a w : World} (h : Chg S a w) (hB : B ≤ a.heap.size) (hS : ∀ k, S k → B ≤ k) : Below B a w :=
  ⟨h.os, h.tape, h.output, h.size, fun k hk => h.block k (by omega) (fun x => by have := hS k x; omega)⟩

theorem Chg.non {a w : World} (h : Chg Non a w) (S : Nat → Prop) : Chg S a w := h.mono (fun _ _ x => x.elim)

/-- A slice of bytes that can be read: xs. -/
def Rd (w : World) (v : Value) (xs : List Int) : Prop :=
  ∃ ao n c, v = .slice ao n c ∧ n = xs.length ∧ n ≤ c ∧ c ≤ maxLen ∧ (ao = none → c = 0) ∧ ∀ x, ao = some x → ∀ j u, xs[j]? = some u → w.cell? (x.add j) = some (.int .u8 u)

theorem Rd.keep {w w' : World} {v : Value} {xs : List Int} (h : Rd w v xs) (hk : ∀ k, v.ownBlock = some k → k < w.heap.size → w'.heap[k]? = w.heap[k]?) : Rd w' v xs := by
  obtain ⟨ao, n, c, rfl, hn, hc, hmx, h0, hx⟩ := h
  refine ⟨ao, n, c, rfl, hn, hc, hmx, h0, fun x e j u hj => ?_⟩
  subst e
  have h1 := hx x rfl j u hj
  have hb : (x.add j).block = x.block := by unfold Addr.add; split <;> rfl
  rw [← h1]
  apply World.cell?_of_block
  rw [hb]
  exact hk _ rfl (by have := World.block_lt_of_cell? w _ h1; rwa [hb] at this)

theorem Rd.nil (w : World) : Rd w (.slice none 0 0) [] := ⟨none, 0, 0, rfl, rfl, Nat.le_refl _, by decide, fun _ => rfl, fun _ h => by cases h⟩

/-- The same without spare room: nil where nothing is in it. -/
def Tight (w : World) (v : Value) (xs : List Int) : Prop :=
  (v = .slice none 0 0 ∧ xs = []) ∨
  ∃ x n, v = .slice (some x) n n ∧ n = xs.length ∧ 0 < n ∧ n ≤ maxLen ∧ ∀ j u, xs[j]? = some u → w.cell? (x.add j) = some (.int .u8 u)

theorem Tight.rd {w : World} {v : Value} {xs : List Int} (h : Tight w v xs) : Rd w v xs := by
  rcases h with ⟨rfl, rfl⟩ | ⟨x, n, rfl, hn, h0, hmx, hx⟩
  · exact Rd.nil w
  · exact ⟨some x, n, n, rfl, hn, Nat.le_refl _, hmx, fun e => by (cases e), fun y e => by cases e; exact hx⟩

theorem Tight.shape {w : World} {v : Value} {xs : List Int} (h : Tight w v xs) : ∃ ao n, v = .slice ao n n := by
  rcases h with ⟨rfl, rfl⟩ | ⟨x, n, rfl, hn, h0, hmx, hx⟩
  · exact ⟨_, _, rfl⟩
  · exact ⟨_, _, rfl⟩

theorem Rd.shape {w : World} {v : Value} {xs : List Int} (h : Rd w v xs) : ∃ ao n c, v = .slice ao n c ∧ n = xs.length ∧ n ≤ c ∧ c ≤ maxLen := by
  obtain ⟨ao, n, c, rfl, hn, hc, hmx, h0, hx⟩ := h
  exact ⟨_, _, _, rfl, hn, hc, hmx⟩

theorem Tight.lt {w : World} {v : Value} {xs : List Int} (h : Tight w v xs) : ∀ k, v.ownBlock = some k → k < w.heap.size := by
  intro k hk
  rcases h with ⟨rfl, rfl⟩ | ⟨x, n, rfl, hn, h0, hmx, hx⟩
  · simp [Value.ownBlock] at hk
  · simp [Value.ownBlock] at hk
    subst hk
    have h1 := hx 0 (xs[0]'(by omega)) (by simp)
    have hb : (x.add 0).block = x.block := by unfold Addr.add; split <;> rfl
    have := World.block_lt_of_cell? w _ h1
    rwa [hb] at this

theorem Tight.keep {w w' : World} {v : Value} {xs : List Int} (h : Tight w v xs) (hk : ∀ k, v.ownBlock = some k → w'.heap[k]? = w.heap[k]?) : Tight w' v xs := by
  have hr := (h.rd.keep (w' := w') (fun k e _ => hk k e))
  rcases h with h | ⟨x, n, rfl, hn, h0, hmx, hx⟩
  · exact .inl h
  · obtain ⟨ao, n', c, e, hn', hc, _, _, hx'⟩ := hr
    cases e
    exact .inr ⟨x, n, rfl, hn, h0, hmx, hx' x rfl⟩

/-- A slice of bytes in a row of our own, from a place of it on, with its spare room. -/
structure Own (w : World) (g off n cap : Nat) (xs : List Int) : Prop where
  len : xs.length = n
  le : n ≤ cap
  mx : cap ≤ maxLen
  blk : ∃ cur : Array Value, w.heap[g]? = some (.cells cur 5 (0, 0)) ∧ off + cap ≤ cur.size ∧ (cur.toList.drop off).take n = xs.map (Value.int .u8)

def OwnV (w : World) (v : Value) (xs : List Int) : Prop :=
  (v = .slice none 0 0 ∧ xs = []) ∨ ∃ g off n cap, v = .slice (some ⟨g, off, none⟩) n cap ∧ Own w g off n cap xs

theorem Own.lt {w : World} {g off n cap : Nat} {xs : List Int} (h : Own w g off n cap xs) : g < w.heap.size := by
  obtain ⟨cur, hg, _⟩ := h.blk
  exact (Array.getElem?_eq_some_iff.1 hg).1

theorem Own.cell {w : World} {g off n cap : Nat} {xs : List Int} (h : Own w g off n cap xs) : ∀ j u, xs[j]? = some u → w.cell? ⟨g, off + j, none⟩ = some (.int .u8 u) := by
  intro j u hj
  obtain ⟨cur, hg, hs, ht⟩ := h.blk
  have hlt := (List.getElem?_eq_some_iff.1 hj).1
  have e : ((cur.toList.drop off).take n)[j]? = (xs.map (Value.int .u8))[j]? := by rw [ht]
  rw [List.getElem?_take, if_pos (by have := h.len; omega), List.getElem?_drop, List.getElem?_map, hj] at e
  rw [cell_of_row w g (off + j) cur 5 (0, 0) hg]
  simpa using e

theorem Own.rd {w : World} {g off n cap : Nat} {xs : List Int} (h : Own w g off n cap xs) : Rd w (.slice (some ⟨g, off, none⟩) n cap) xs :=
  ⟨_, _, _, rfl, h.len.symm, h.le, h.mx, fun e => by (cases e), fun x e j u hj => by cases e; rw [Addr.add_lit]; exact h.cell j u hj⟩

theorem OwnV.rd {w : World} {v : Value} {xs : List Int} (h : OwnV w v xs) : Rd w v xs := by
  rcases h with ⟨rfl, rfl⟩ | ⟨g, off, n, cap, rfl, h⟩
  · exact Rd.nil w
  · exact h.rd

theorem OwnV.lt {w : World} {v : Value} {xs : List Int} (h : OwnV w v xs) : ∀ k, v.ownBlock = some k → k < w.heap.size := by
  intro k hk
  rcases h with ⟨rfl, rfl⟩ | ⟨g, off, n, cap, rfl, h⟩
  · simp [Value.ownBlock] at hk
  · simp [Value.ownBlock] at hk
    subst hk
    exact h.lt

theorem Own.keep {w w' : World} {g off n cap : Nat} {xs : List Int} (h : Own w g off n cap xs) (hk : w'.heap[g]? = w.heap[g]?) : Own w' g off n cap xs :=
  ⟨h.len, h.le, h.mx, by rw [hk]; exact h.blk⟩

theorem OwnV.keep {w w' : World} {v : Value} {xs : List Int} (h : OwnV w v xs) (hk : ∀ k, v.ownBlock = some k → w'.heap[k]? = w.heap[k]?) : OwnV w' v xs := by
  rcases h with h | ⟨g, off, n, cap, rfl, h⟩
  · exact .inl h
  · exact .inr ⟨g, off, n, cap, rfl, h.keep (hk _ rfl)⟩

theorem Tryz.info5 : (Tryz.prog.info? 5).map (fun i => (i.zero, i.size, i.bytes)) = some (some (.int .u8 0), 1, 1) := by kernel_rfl

theorem run_first (w : World) (v : Value) (xs : List Int) (h : Rd w v xs) : (Builtin.firstCells 1 xs.length v).run Tryz.prog w = .ok (xs.map (Value.int .u8)).toArray w := by
  obtain ⟨ao, n, c, rfl, hn, hc, hmx, h0, hx⟩ := h
  cases ao with
  | none =>
    have : xs = [] := List.eq_nil_of_length_eq_zero (by have := h0 rfl; omega)
    subst this
    simp [Builtin.firstCells]
  | some x =>
    have := run_loadCells_list (P := Tryz.prog) w x (xs.map (Value.int .u8)) (fun j v hj => by
      rw [List.getElem?_map] at hj
      cases hu : xs[j]? with
      | none => rw [hu] at hj; cases hj
      | some u => rw [hu] at hj; cases hj; exact hx x rfl j u hu)
    simpa [Builtin.firstCells] using this

theorem Rd.drew {w : World} {v : Value} {xs : List Int} (h : Rd w v xs) : Rd w.drew v xs := h.keep (fun _ _ _ => rfl)

/-- append that must grow, of whatever can be read: a new row. -/
theorem run_grow (ty : TypeId) (w : World) (ao : Option Addr) (c : Nat) (s : Value) (xs ys : List Int) (hv : Rd w (.slice ao xs.length c) xs) (hs : Rd w s ys) (hb : xs.length + ys.length ≤ 140737488355328)
    (hr : ¬ xs.length + ys.length ≤ c) :
    ∃ v' w', (Builtin.append_ #[24, 24] ty #[.slice ao xs.length c, s]).run Tryz.prog w = .ok v' w' ∧ OwnV w' v' (xs ++ ys) ∧ Chg Non w w' ∧ v'.ownBlock = some w.heap.size := by
  obtain ⟨i, hi, hz, hsz, hby⟩ := info_parts Tryz.info5
  have ht := Tryz.underlying24
  have hfsd := run_first w.drew s ys hs.drew
  have hfv := run_first w.drew _ xs hv.drew
  obtain ⟨so, m, sc, rfl, hm, hmc, hsm, hs0, hsx⟩ := hs
  subst hm
  have hge := grownCap_ge w (xs.length + ys.length) c 5
  have hcm : grownCap w (xs.length + ys.length) c 5 ≤ maxLen := grownCap_le_maxLen w (xs.length + ys.length) c 5 (by unfold maxLen; omega)
  have hfit := growslice_fits (bytes := 1) (show c < xs.length + ys.length by omega) (by simpa using hb)
  rw [← hby] at hfit
  have h63' : ¬ (9223372036854775807 < ((xs.length : Int) + (ys.length : Int))) := by omega
  have h48' : ¬ (281474976710656 < Builtin.nextslicecap (xs.length + ys.length) c * i.bytes) := by omega
  refine ⟨.slice (some ⟨w.heap.size, 0, none⟩) (xs.length + ys.length) (grownCap w (xs.length + ys.length) c 5),
    w.drew.alloc (.cells (((xs ++ ys).map (Value.int .u8)).toArray ++ Builtin.zeroCells (Value.int .u8 0).cells (grownCap w (xs.length + ys.length) c 5 - (xs.length + ys.length))) 5), ?_,
    .inr ⟨w.heap.size, 0, _, _, rfl, ⟨by simp, hge, hcm, _, heap_alloc_new w.drew _, ?_, ?_⟩⟩, ⟨rfl, rfl, rfl, by simp, fun k hk _ => Below.heap_alloc w.drew _ k hk⟩, rfl⟩
  · simp [Builtin.append_, run_underlying ht, sizeOf, typeInfo, zeroValue, hi, hz, hsz, Builtin.lenOf, hr, h63', h48', Question.forced, hfsd, hfv, newRow, grownCap]
    congr 2
    apply Array.ext'
    simp
  · simp [size_zeroCells, Value.cells]; omega
  · simp only [List.drop_zero, Array.toList_append]
    rw [List.take_append_of_le_length (by simp), List.take_of_length_le (by simp)]

/-- append of nothing. -/
theorem run_nothing (ty : TypeId) (w : World) (v s : Value) (xs : List Int) (hv : Rd w v xs) (hs : Rd w s []) :
    (Builtin.append_ #[24, 24] ty #[v, s]).run Tryz.prog w = .ok v w := by
  obtain ⟨i, hi, hz, hsz, hby⟩ := info_parts Tryz.info5
  have ht := Tryz.underlying24
  have hfs := run_first w s [] hs
  obtain ⟨so, m, sc, rfl, hm, hmc, hsm, hs0, hsx⟩ := hs
  subst hm
  obtain ⟨ao, n, c, rfl, hn, hnc, hvm, hv0, hvx⟩ := hv
  simp only [List.length_nil] at hfs
  cases ao <;> simp [Builtin.append_, run_underlying ht, sizeOf, typeInfo, hi, Builtin.lenOf, hsz, hfs, hnc, storeCells]

/-- append where there is room. -/
theorem run_room (ty : TypeId) (w : World) (g off n cap : Nat) (s : Value) (xs ys : List Int) (h : Own w g off n cap xs) (hs : Rd w s ys) (hr : n + ys.length ≤ cap) :
    ∃ w', (Builtin.append_ #[24, 24] ty #[.slice (some ⟨g, off, none⟩) n cap, s]).run Tryz.prog w = .ok (.slice (some ⟨g, off, none⟩) (n + ys.length) cap) w' ∧ Own w' g off (n + ys.length) cap (xs ++ ys) ∧ Chg (One g) w w' := by
  obtain ⟨i, hi, hz, hsz, hby⟩ := info_parts Tryz.info5
  have ht := Tryz.underlying24
  have hfs := run_first w s ys hs
  obtain ⟨so, m, sc, rfl, hm, hmc, hsm, hs0, hsx⟩ := hs
  subst hm
  have hlen := h.len
  subst hlen
  obtain ⟨cur, hg, hsz', htk⟩ := h.blk
  have hst := run_storeCells_at Tryz.prog g (off + xs.length) 5 (ys.map (Value.int .u8)) 0 cur w hg (by simp; omega) (ints_oneCell _ _)
  simp only [Nat.add_zero] at hst
  refine ⟨w.setRow g (cur.toList.take (off + xs.length) ++ ys.map (Value.int .u8) ++ cur.toList.drop (off + xs.length + (ys.map (Value.int .u8)).length)).toArray, ?_, ⟨by simp, hr, h.mx, _, setRow_heap w g cur _ 5 _ hg, ?_, ?_⟩, ⟨rfl, rfl, rfl, by simp [World.setRow], fun k _ hk => setRow_other w g k _ hk⟩⟩
  · simp [Builtin.append_, run_underlying ht, sizeOf, typeInfo, hi, Builtin.lenOf, hsz, hfs, hr, Addr.add_lit, hst]
  · simp; omega
  · have hd : (cur.toList.take (off + xs.length)).drop off = xs.map (Value.int .u8) := by
      rw [List.drop_take]
      simpa using htk
    rw [List.append_assoc, List.drop_append_of_le_length (by simp; omega), hd, ← List.append_assoc, ← List.map_append]
    rw [List.take_append_of_le_length (by simp), List.take_of_length_le (by simp)]

/-- append, onto a row of our own, of whatever can be read. -/
theorem run_app (ty : TypeId) (w : World) (v s : Value) (xs ys : List Int) (hv : OwnV w v xs) (hs : Rd w s ys) (hb : xs.length + ys.length ≤ 140737488355328) :
    ∃ v' w', (Builtin.append_ #[24, 24] ty #[v, s]).run Tryz.prog w = .ok v' w' ∧ OwnV w' v' (xs ++ ys) ∧ Chg (fun k => v.ownBlock = some k) w w' ∧
      (v'.ownBlock = v.ownBlock ∨ v'.ownBlock = some w.heap.size) := by
  have hvr := hv.rd
  obtain ⟨ao, n, c, rfl, hn, hnc, hvm, hv0, hvx⟩ := hv.rd
  subst hn
  by_cases hr : xs.length + ys.length ≤ c
  · rcases hv with ⟨e, rfl⟩ | ⟨g, off, n, cap, e, h⟩
    · cases e
      have : ys = [] := List.eq_nil_of_length_eq_zero (by simpa using hr)
      subst this
      exact ⟨.slice none 0 0, w, run_nothing ty w _ s [] hvr hs, .inl ⟨rfl, rfl⟩, Chg.refl _ _, .inl rfl⟩
    · cases e
      obtain ⟨w', h1, h2, h3⟩ := run_room ty w g off xs.length c s xs ys h hs hr
      exact ⟨_, w', h1, .inr ⟨g, off, _, c, rfl, h2⟩, h3.mono (fun k _ e => by cases e; rfl), .inl rfl⟩
  · obtain ⟨v', w', h1, h2, h3, h4⟩ := run_grow ty w ao c s xs ys hvr hs hb hr
    exact ⟨v', w', h1, h2, h3.non _, .inr h4⟩

/-- append, onto what has no spare room: nothing old is written. -/
theorem run_tight (ty : TypeId) (w : World) (v s : Value) (xs ys : List Int) (hv : Tight w v xs) (hs : Rd w s ys) (hb : xs.length + ys.length ≤ 140737488355328) :
    ∃ v' w', (Builtin.append_ #[24, 24] ty #[v, s]).run Tryz.prog w = .ok v' w' ∧ Rd w' v' (xs ++ ys) ∧ Chg Non w w' ∧
      (v'.ownBlock = v.ownBlock ∨ v'.ownBlock = some w.heap.size) := by
  by_cases hy : ys = []
  · subst hy
    exact ⟨v, w, run_nothing ty w v s xs hv.rd hs, by simpa using hv.rd, Chg.refl _ _, .inl rfl⟩
  · have hpos : 0 < ys.length := List.length_pos_iff.2 hy
    have hvr := hv.rd
    rcases hv with ⟨rfl, rfl⟩ | ⟨x, n, rfl, hn, h0, hmx, hx⟩
    · obtain ⟨v', w', h1, h2, h3, h4⟩ := run_grow ty w none 0 s [] ys hvr hs hb (by simpa using hy)
      exact ⟨v', w', h1, h2.rd, h3, .inr h4⟩
    · subst hn
      obtain ⟨v', w', h1, h2, h3, h4⟩ := run_grow ty w (some x) xs.length s xs ys hvr hs hb (by omega)
      exact ⟨v', w', h1, h2.rd, h3, .inr h4⟩

theorem wpList_app (w : World) {ops : Array Oper} {rest : List Oper} {o : Oper} {a : Act} {Q : Exit → Act → World → Prop}
    (hg : o.guard = none) (s x : Operand) (hop : o.op = Op.call { callee := Callee.builtin Builtin.append, args := #[s, x], argTypes := #[24, 24] })
    (v sv : Value) (xs ys : List Int) (hs : a.eval s = v) (hx : a.eval x = sv) (hv : OwnV w v xs) (hr : Rd w sv ys) (hb : xs.length + ys.length ≤ 140737488355328)
    (hK : ∀ v' w', OwnV w' v' (xs ++ ys) → Chg (fun k => v.ownBlock = some k) w w' → (v'.ownBlock = v.ownBlock ∨ v'.ownBlock = some w.heap.size) → wpList Tryz.prog ops Q rest (a.put o.dst v') w') :
    wpList Tryz.prog ops Q (o :: rest) a w := by
  refine wpList_plain hg fun K hK' => ?_
  obtain ⟨v', w', hrun, r1, r2, r3⟩ := run_app o.type w v sv xs ys hv hr hb
  unfold Oper.wp
  simp [execOp, hop, resolve, invoke, builtin, hs, hx, hrun, Result.andThen]
  exact hK' _ _ (hK v' w' r1 r2 r3)

theorem wpList_room (w : World) {ops : Array Oper} {rest : List Oper} {o : Oper} {a : Act} {Q : Exit → Act → World → Prop}
    (hg : o.guard = none) (s x : Operand) (hop : o.op = Op.call { callee := Callee.builtin Builtin.append, args := #[s, x], argTypes := #[24, 24] })
    (g off n cap : Nat) (sv : Value) (xs ys : List Int) (hs : a.eval s = .slice (some ⟨g, off, none⟩) n cap) (hx : a.eval x = sv) (hv : Own w g off n cap xs) (hr : Rd w sv ys) (m : Nat) (hm : m = ys.length) (hb : n + m ≤ cap)
    (hK : ∀ w', Own w' g off (n + m) cap (xs ++ ys) → Chg (One g) w w' → wpList Tryz.prog ops Q rest (a.put o.dst (.slice (some ⟨g, off, none⟩) (n + m) cap)) w') :
    wpList Tryz.prog ops Q (o :: rest) a w := by
  refine wpList_plain hg fun K hK' => ?_
  subst hm
  obtain ⟨w', hrun, r1, r2⟩ := run_room o.type w g off n cap sv xs ys hv hr hb
  unfold Oper.wp
  simp [execOp, hop, resolve, invoke, builtin, hs, hx, hrun, Result.andThen]
  exact hK' _ _ (hK w' r1 r2)

theorem Own.of_row {w : World} {g n cap : Nat} {base : Nat} {xs : List Int} (h : w.ownsRow base 5 1 (.slice (some ⟨g, 0, none⟩) n cap) n (xs.map (Value.int .u8))) : Own w g 0 n cap xs := by
  obtain ⟨h1, h2⟩ := h
  rcases h2 with ⟨e, _⟩ | ⟨g', cap', cur, e, hb, hh, hn, hm, hs, ht⟩
  · cases e
  · cases e
    exact ⟨by simpa using h1, hn, hm, cur, hh, by omega, by simpa using ht⟩

/-- A new slice's one cell. -/
theorem Rd.one (w : World) (b : Int) : Rd (w.alloc (.cells #[.int .u8 b] 5)) (.slice (some ⟨w.heap.size, 0, none⟩) 1 1) [b] := by
  refine ⟨_, _, _, rfl, rfl, Nat.le_refl _, by decide, fun e => by (cases e), fun x e j u hj => ?_⟩
  cases e
  match j, hj with
  | 0, hj =>
    simp at hj
    subst hj
    simp [Addr.add]

theorem wpList_tight (w : World) {ops : Array Oper} {rest : List Oper} {o : Oper} {a : Act} {Q : Exit → Act → World → Prop}
    (hg : o.guard = none) (s x : Operand) (hop : o.op = Op.call { callee := Callee.builtin Builtin.append, args := #[s, x], argTypes := #[24, 24] })
    (v sv : Value) (xs ys : List Int) (hs : a.eval s = v) (hx : a.eval x = sv) (hv : Tight w v xs) (hr : Rd w sv ys) (hb : xs.length + ys.length ≤ 140737488355328)
    (hK : ∀ v' w', Rd w' v' (xs ++ ys) → Chg Non w w' → (v'.ownBlock = v.ownBlock ∨ v'.ownBlock = some w.heap.size) → wpList Tryz.prog ops Q rest (a.put o.dst v') w') :
    wpList Tryz.prog ops Q (o :: rest) a w := by
  refine wpList_plain hg fun K hK' => ?_
  obtain ⟨v', w', hrun, r1, r2, r3⟩ := run_tight o.type w v sv xs ys hv hr hb
  unfold Oper.wp
  simp [execOp, hop, resolve, invoke, builtin, hs, hx, hrun, Result.andThen]
  exact hK' _ _ (hK v' w' r1 r2 r3)

/-- A slice of bytes made a string. -/
theorem run_str (w : World) (v : Value) (xs : List Int) (h : Rd w v xs) : (convert 24 9 v).run Tryz.prog w = .ok (.string (strOfNums xs)) w := by
  have hf := run_first w v xs h
  obtain ⟨ao, n, c, rfl, hn, hc, hmx, h0, hx⟩ := h
  subst hn
  cases ao with
  | none =>
    have : xs = [] := List.eq_nil_of_length_eq_zero (by have := h0 rfl; omega)
    subst this
    exact run_convert_bytes_nil w 24 5 Tryz.underlying24 Tryz.underlying5 _ _ 9 Tryz.underlying9
  | some x =>
    simp [Builtin.firstCells] at hf
    rw [run_convert_bytes_string w 24 9 5 _ _ _ Tryz.underlying24 Tryz.underlying5 Tryz.underlying9, run_bytesToString w x _ _ xs (by simpa using hf), foldl_push_bytes]
    simp [strOfNums, ByteArray.empty, ByteArray.emptyWithCapacity]
    rfl
end Go.Proofs.YtobglgddbhddnaaGreat.Ap

namespace Go.Proofs.YtobglgddbhddnaaGreat
set_option linter.unusedVariables false

abbrev By := BitVec 8

/-! Bytes. -/
def dbl (x : By) : By := (x <<< 1) ^^^ (if x.getLsbD 7 then 0x1b#8 else 0#8)

theorem xor_cancel (x y : By) : x ^^^ (x ^^^ y) = y := by rw [← BitVec.xor_assoc, BitVec.xor_self, BitVec.zero_xor]
theorem xor_left (x y z : By) : x ^^^ (y ^^^ z) = y ^^^ (x ^^^ z) := by rw [← BitVec.xor_assoc, BitVec.xor_comm x y, BitVec.xor_assoc]

theorem dbl_xor (x y : By) : dbl (x ^^^ y) = dbl x ^^^ dbl y := by
  unfold dbl
  have h : (x ^^^ y) <<< 1 = (x <<< 1) ^^^ (y <<< 1) := BitVec.shiftLeft_xor_distrib x y 1
  rw [h, BitVec.getLsbD_xor]
  cases x.getLsbD 7 <;> cases y.getLsbD 7 <;> simp [BitVec.xor_assoc, BitVec.xor_comm, xor_left]

def bo (c : By) : By := c ^^^ c.rotateLeft 1 ^^^ c.rotateLeft 2 ^^^ c.rotateLeft 3 ^^^ c.rotateLeft 4 ^^^ 0x63#8

def sTab : List Nat := [99, 124, 119, 123, 242, 107, 111, 197, 48, 1, 103, 43, 254, 215, 171, 118, 202, 130, 201, 125, 250, 89, 71, 240, 173, 212, 162, 175, 156, 164, 114, 192,
  183, 253, 147, 38, 54, 63, 247, 204, 52, 165, 229, 241, 113, 216, 49, 21, 4, 199, 35, 195, 24, 150, 5, 154, 7, 18, 128, 226, 235, 39, 178, 117,
  9, 131, 44, 26, 27, 110, 90, 160, 82, 59, 214, 179, 41, 227, 47, 132, 83, 209, 0, 237, 32, 252, 177, 91, 106, 203, 190, 57, 74, 76, 88, 207,
  208, 239, 170, 251, 67, 77, 51, 133, 69, 249, 2, 127, 80, 60, 159, 168, 81, 163, 64, 143, 146, 157, 56, 245, 188, 182, 218, 33, 16, 255, 243, 210,
  205, 12, 19, 236, 95, 151, 68, 23, 196, 167, 126, 61, 100, 93, 25, 115, 96, 129, 79, 220, 34, 42, 144, 136, 70, 238, 184, 20, 222, 94, 11, 219,
  224, 50, 58, 10, 73, 6, 36, 92, 194, 211, 172, 98, 145, 149, 228, 121, 231, 200, 55, 109, 141, 213, 78, 169, 108, 86, 244, 234, 101, 122, 174, 8,
  186, 120, 37, 46, 28, 166, 180, 198, 232, 221, 116, 31, 75, 189, 139, 138, 112, 62, 181, 102, 72, 3, 246, 14, 97, 53, 87, 185, 134, 193, 29, 158,
  225, 248, 152, 17, 105, 217, 142, 148, 155, 30, 135, 233, 206, 85, 40, 223, 140, 161, 137, 13, 191, 230, 66, 104, 65, 153, 45, 15, 176, 84, 187, 22]
def iTab : List Nat := [82, 9, 106, 213, 48, 54, 165, 56, 191, 64, 163, 158, 129, 243, 215, 251, 124, 227, 57, 130, 155, 47, 255, 135, 52, 142, 67, 68, 196, 222, 233, 203,
  84, 123, 148, 50, 166, 194, 35, 61, 238, 76, 149, 11, 66, 250, 195, 78, 8, 46, 161, 102, 40, 217, 36, 178, 118, 91, 162, 73, 109, 139, 209, 37,
  114, 248, 246, 100, 134, 104, 152, 22, 212, 164, 92, 204, 93, 101, 182, 146, 108, 112, 72, 80, 253, 237, 185, 218, 94, 21, 70, 87, 167, 141, 157, 132,
  144, 216, 171, 0, 140, 188, 211, 10, 247, 228, 88, 5, 184, 179, 69, 6, 208, 44, 30, 143, 202, 63, 15, 2, 193, 175, 189, 3, 1, 19, 138, 107,
  58, 145, 17, 65, 79, 103, 220, 234, 151, 242, 207, 206, 240, 180, 230, 115, 150, 172, 116, 34, 231, 173, 53, 133, 226, 249, 55, 232, 28, 117, 223, 110,
  71, 241, 26, 113, 29, 41, 197, 137, 111, 183, 98, 14, 170, 24, 190, 27, 252, 86, 62, 75, 198, 210, 121, 32, 154, 219, 192, 254, 120, 205, 90, 244,
  31, 221, 168, 51, 136, 7, 199, 49, 177, 18, 16, 89, 39, 128, 236, 95, 96, 81, 127, 169, 25, 181, 74, 13, 45, 229, 122, 159, 147, 201, 156, 239,
  160, 224, 59, 77, 174, 42, 245, 176, 200, 235, 187, 60, 131, 83, 153, 97, 23, 43, 4, 126, 186, 119, 214, 38, 225, 105, 20, 99, 85, 33, 12, 125]
def pTab : List Nat := [1, 3, 5, 15, 17, 51, 85, 255, 26, 46, 114, 150, 161, 248, 19, 53, 95, 225, 56, 72, 216, 115, 149, 164, 247, 2, 6, 10, 30, 34, 102, 170,
  229, 52, 92, 228, 55, 89, 235, 38, 106, 190, 217, 112, 144, 171, 230, 49, 83, 245, 4, 12, 20, 60, 68, 204, 79, 209, 104, 184, 211, 110, 178, 205,
  76, 212, 103, 169, 224, 59, 77, 215, 98, 166, 241, 8, 24, 40, 120, 136, 131, 158, 185, 208, 107, 189, 220, 127, 129, 152, 179, 206, 73, 219, 118, 154,
  181, 196, 87, 249, 16, 48, 80, 240, 11, 29, 39, 105, 187, 214, 97, 163, 254, 25, 43, 125, 135, 146, 173, 236, 47, 113, 147, 174, 233, 32, 96, 160,
  251, 22, 58, 78, 210, 109, 183, 194, 93, 231, 50, 86, 250, 21, 63, 65, 195, 94, 226, 61, 71, 201, 64, 192, 91, 237, 44, 116, 156, 191, 218, 117,
  159, 186, 213, 100, 172, 239, 42, 126, 130, 157, 188, 223, 122, 142, 137, 128, 155, 182, 193, 88, 232, 35, 101, 175, 234, 37, 111, 177, 200, 67, 197, 84,
  252, 31, 33, 99, 165, 244, 7, 9, 27, 45, 119, 153, 176, 203, 70, 202, 69, 207, 74, 222, 121, 139, 134, 145, 168, 227, 62, 66, 198, 81, 243, 14,
  18, 54, 90, 238, 41, 123, 141, 140, 143, 138, 133, 148, 167, 242, 13, 23, 57, 75, 221, 124, 132, 151, 162, 253, 28, 36, 108, 180, 199, 82, 246]
/-- The box of a byte. -/
def sb (x : By) : By := BitVec.ofNat 8 (sTab.getD x.toNat 0)
def isb (x : By) : By := BitVec.ofNat 8 (iTab.getD x.toNat 0)
/-- The powers of x + 1. -/
def pw (i : Nat) : By := BitVec.ofNat 8 (pTab.getD i 0)

theorem all_bytes {p : By → Prop} (h : ∀ i, i < 256 → p (BitVec.ofNat 8 i)) (x : By) : p x := by
  have := h x.toNat x.isLt
  simpa using this

theorem isb_sb (x : By) : isb (sb x) = x := by
  refine all_bytes (p := fun x => isb (sb x) = x) ?_ x
  decide +kernel
theorem sb_inj {x y : By} (h : sb x = sb y) : x = y := by rw [← isb_sb x, ← isb_sb y, h]

theorem pw_zero : pw 0 = 1 := by decide +kernel
theorem pw_succ : ∀ i, i < 254 → pw (i + 1) = pw i ^^^ dbl (pw i) := by decide +kernel
theorem pw_box : ∀ i, i < 255 → sb (pw i) = bo (pw ((255 - i) % 255)) := by decide +kernel
theorem sb_zero : sb 0 = bo 0 := by decide +kernel
def lTab : List Nat := (List.range 256).map fun j => pTab.idxOf j
theorem pw_all : ∀ j, j < 256 → j ≠ 0 → ∃ i, i < 255 ∧ (pw i).toNat = j := by
  have h : ∀ j, j < 256 → j ≠ 0 → pTab.idxOf j < 255 ∧ (pw (pTab.idxOf j)).toNat = j := by decide +kernel
  exact fun j h1 h2 => ⟨_, h j h1 h2⟩

/-! Blocks. -/
def xr (a b : Nat → By) : Nat → By := fun i => a i ^^^ b i
def mv (b : Nat → By) : Nat → By := fun j => sb (b (4 * ((j / 4 + j % 4) % 4) + j % 4))
def mc (b : Nat → By) : Nat → By := fun j =>
  dbl (b (4 * (j / 4) + j % 4)) ^^^ dbl (b (4 * (j / 4) + (j % 4 + 1) % 4)) ^^^ b (4 * (j / 4) + (j % 4 + 1) % 4) ^^^ b (4 * (j / 4) + (j % 4 + 2) % 4) ^^^ b (4 * (j / 4) + (j % 4 + 3) % 4)
def rk (k : Nat → By) (i : Nat) : Nat → By := fun j => k (16 * i + j)
def rnds (k b : Nat → By) : Nat → Nat → By
  | 0 => xr b (rk k 0)
  | i + 1 => xr (mc (mv (rnds k b i))) (rk k (i + 1))
def enc (R : Nat) (k b : Nat → By) : Nat → By := xr (mv (rnds k b (R - 1))) (rk k R)

def E16 (a b : Nat → By) : Prop := ∀ i, i < 16 → a i = b i
theorem E16.refl (a : Nat → By) : E16 a a := fun _ _ => rfl
theorem E16.symm {a b : Nat → By} (h : E16 a b) : E16 b a := fun i hi => (h i hi).symm
theorem E16.trans {a b c : Nat → By} (h : E16 a b) (k : E16 b c) : E16 a c := fun i hi => (h i hi).trans (k i hi)

theorem E16.xr {a b c d : Nat → By} (h : E16 a b) (k : E16 c d) : E16 (xr a c) (xr b d) := fun i hi => by
  unfold YtobglgddbhddnaaGreat.xr; rw [h i hi, k i hi]
theorem E16.mv {a b : Nat → By} (h : E16 a b) : E16 (mv a) (mv b) := fun i hi => by
  unfold YtobglgddbhddnaaGreat.mv; rw [h _ (by omega)]
theorem E16.mc {a b : Nat → By} (h : E16 a b) : E16 (mc a) (mc b) := fun i hi => by
  unfold YtobglgddbhddnaaGreat.mc; rw [h _ (by omega), h _ (by omega), h _ (by omega), h _ (by omega)]

theorem xr_cancel (a b : Nat → By) (i : Nat) : xr (xr a b) b i = a i := by
  unfold xr; rw [BitVec.xor_assoc, BitVec.xor_self, BitVec.xor_zero]

theorem E16.of_xr {a b k : Nat → By} (h : E16 (YtobglgddbhddnaaGreat.xr a k) (YtobglgddbhddnaaGreat.xr b k)) : E16 a b := fun i hi => by
  rw [← xr_cancel a k i, ← xr_cancel b k i]
  exact (h.xr (E16.refl k)) i hi

theorem E16.of_mv {a b : Nat → By} (h : E16 (YtobglgddbhddnaaGreat.mv a) (YtobglgddbhddnaaGreat.mv b)) : E16 a b := fun i hi => by
  have := h (4 * ((i / 4 + (4 - i % 4)) % 4) + i % 4) (by omega)
  unfold YtobglgddbhddnaaGreat.mv at this
  have := sb_inj this
  have e : 4 * (((4 * ((i / 4 + (4 - i % 4)) % 4) + i % 4) / 4 + (4 * ((i / 4 + (4 - i % 4)) % 4) + i % 4) % 4) % 4) + (4 * ((i / 4 + (4 - i % 4)) % 4) + i % 4) % 4 = i := by omega
  rwa [e] at this

theorem ac10 (a0 a1 a2 a3 c0 c1 c2 : By) : (c0 ^^^ c1 ^^^ a1 ^^^ a2 ^^^ a3) ^^^ (c1 ^^^ c2 ^^^ a2 ^^^ a3 ^^^ a0) = a0 ^^^ a1 ^^^ c0 ^^^ c2 := by
  simp only [BitVec.xor_assoc, BitVec.xor_comm, xor_left, xor_cancel]
theorem ac15 (a0 a1 a2 a3 c0 c1 c2 c3 : By) : (c1 ^^^ c2 ^^^ a2 ^^^ a3 ^^^ a0) ^^^ (c2 ^^^ c3 ^^^ a3 ^^^ a0 ^^^ a1) ^^^ (c3 ^^^ c0 ^^^ a0 ^^^ a1 ^^^ a2) = a0 ^^^ c0 ^^^ c1 := by
  simp only [BitVec.xor_assoc, BitVec.xor_comm, xor_left, xor_cancel, BitVec.xor_self, BitVec.xor_zero]
theorem ac7 (a0 c0 c1 d0 d2 : By) : (c0 ^^^ c1 ^^^ d0 ^^^ d2) ^^^ (a0 ^^^ c0 ^^^ c1) = d0 ^^^ a0 ^^^ d2 := by
  simp only [BitVec.xor_assoc, BitVec.xor_comm, xor_left, xor_cancel]

/-- One byte of a column that is mixed. -/
def mx (x0 x1 x2 x3 : By) : By := dbl x0 ^^^ dbl x1 ^^^ x1 ^^^ x2 ^^^ x3
theorem mx2 (a0 a1 a2 a3 : By) : mx (mx a0 a1 a2 a3) (mx a1 a2 a3 a0) (mx a2 a3 a0 a1) (mx a3 a0 a1 a2) = dbl (dbl a0) ^^^ a0 ^^^ dbl (dbl a2) := by
  have h1 := ac10 a0 a1 a2 a3 (dbl a0) (dbl a1) (dbl a2)
  have h2 := ac15 a0 a1 a2 a3 (dbl a0) (dbl a1) (dbl a2) (dbl a3)
  have h3 := ac7 a0 (dbl a0) (dbl a1) (dbl (dbl a0)) (dbl (dbl a2))
  have e : ∀ x0 x1 x2 x3 : By, mx x0 x1 x2 x3 = dbl (x0 ^^^ x1) ^^^ (x1 ^^^ x2 ^^^ x3) := fun x0 x1 x2 x3 => by rw [dbl_xor]; simp only [mx, BitVec.xor_assoc]
  rw [e (mx a0 a1 a2 a3)]
  simp only [mx]
  rw [h1, h2]
  simp only [dbl_xor]
  exact h3

theorem mc_mx (b : Nat → By) (c r : Nat) (hr : r < 4) : mc b (4 * c + r) = mx (b (4 * c + r)) (b (4 * c + (r + 1) % 4)) (b (4 * c + (r + 2) % 4)) (b (4 * c + (r + 3) % 4)) := by
  have e1 : (4 * c + r) / 4 = c := by omega
  have e2 : (4 * c + r) % 4 = r := by omega
  unfold mc mx
  rw [e1, e2]

theorem mc_mc (b : Nat → By) (j : Nat) (hj : j < 16) : mc (mc b) j = dbl (dbl (b j)) ^^^ b j ^^^ dbl (dbl (b (4 * (j / 4) + (j % 4 + 2) % 4))) := by
  have h : ∀ c r, r < 4 → mc (mc b) (4 * c + r) = dbl (dbl (b (4 * c + r))) ^^^ b (4 * c + r) ^^^ dbl (dbl (b (4 * c + (r + 2) % 4))) := by
    intro c r hr
    rw [mc_mx (mc b) c r hr, mc_mx b c r hr, mc_mx b c _ (Nat.mod_lt _ (by omega)), mc_mx b c _ (Nat.mod_lt _ (by omega)), mc_mx b c _ (Nat.mod_lt _ (by omega)), ← mx2 _ (b (4 * c + (r + 1) % 4)) _ (b (4 * c + (r + 3) % 4))]
    have : r = 0 ∨ r = 1 ∨ r = 2 ∨ r = 3 := by omega
    rcases this with rfl | rfl | rfl | rfl <;> rfl
  have := h (j / 4) (j % 4) (by omega)
  have e : 4 * (j / 4) + j % 4 = j := by omega
  rwa [e] at this

theorem mc4 (b : Nat → By) (j : Nat) (hj : j < 16) : mc (mc (mc (mc b))) j = b j := by
  rw [mc_mc (mc (mc b)) j hj, mc_mc b j hj, mc_mc b (4 * (j / 4) + (j % 4 + 2) % 4) (by omega)]
  have e : 4 * ((4 * (j / 4) + (j % 4 + 2) % 4) / 4) + ((4 * (j / 4) + (j % 4 + 2) % 4) % 4 + 2) % 4 = j := by omega
  rw [e]
  simp only [dbl_xor]
  generalize b (4 * (j / 4) + (j % 4 + 2) % 4) = b2
  generalize b j = b0
  generalize dbl (dbl (dbl (dbl b0))) = f0
  generalize dbl (dbl (dbl (dbl b2))) = f2
  generalize dbl (dbl b0) = d0
  generalize dbl (dbl b2) = d2
  simp only [BitVec.xor_assoc, BitVec.xor_comm, xor_left, xor_cancel, BitVec.xor_self, BitVec.xor_zero]

theorem E16.of_mc {a b : Nat → By} (h : E16 (YtobglgddbhddnaaGreat.mc a) (YtobglgddbhddnaaGreat.mc b)) : E16 a b := fun i hi => by
  rw [← mc4 a i hi, ← mc4 b i hi]
  exact h.mc.mc.mc i hi

theorem E16.of_rnds {k a b : Nat → By} : ∀ i, E16 (rnds k a i) (rnds k b i) → E16 a b
  | 0, h => h.of_xr
  | i + 1, h => E16.of_rnds i h.of_xr.of_mc.of_mv

theorem E16.of_enc {R : Nat} {k a b : Nat → By} (h : E16 (enc R k a) (enc R k b)) : E16 a b := E16.of_rnds _ h.of_xr.of_mv

theorem E16.rk {k k' : Nat → By} {m i : Nat} (h : ∀ j, j < 16 * m → k j = k' j) (hi : i < m) : E16 (rk k i) (rk k' i) := fun j hj => h _ (by omega)

theorem E16.rnds {k k' a b : Nat → By} {m : Nat} (hk : ∀ j, j < 16 * m → k j = k' j) (h : E16 a b) : ∀ i, i < m → E16 (rnds k a i) (rnds k' b i)
  | 0, hi => h.xr (E16.rk hk hi)
  | i + 1, hi => ((E16.rnds hk h i (by omega)).mv.mc).xr (E16.rk hk hi)

theorem E16.enc {R : Nat} {k k' a b : Nat → By} (hk : ∀ j, j < 16 * (R + 1) → k j = k' j) (h : E16 a b) : E16 (enc R k a) (enc R k' b) :=
  ((E16.rnds hk h (R - 1) (by omega)).mv).xr (E16.rk hk (by omega))

/-! Round keys. -/
def rc : Nat → By
  | 0 => 1#8
  | m + 1 => dbl (rc m)

def tw (n : Nat) (k : Nat → By) (i r : Nat) : By :=
  if i % n = 0 then sb (k (4 * (i - 1) + (r + 1) % 4)) ^^^ (if r = 0 then rc (i / n - 1) else 0#8)
  else if n = 8 ∧ i % 8 = 4 then sb (k (4 * (i - 1) + r))
  else k (4 * (i - 1) + r)

/-- Words up to m are a key's. -/
structure Ks (n m : Nat) (key k : Nat → By) : Prop where
  lo : ∀ j, j < 4 * n → k j = key j
  hi : ∀ i, n ≤ i → i < m → ∀ r, r < 4 → k (4 * i + r) = k (4 * (i - n) + r) ^^^ tw n k i r

theorem tw_congr {n i r : Nat} {k k' : Nat → By} (hr : r < 4) (h : ∀ j, j < 4 * i → k j = k' j) (hi : 0 < i) : tw n k i r = tw n k' i r := by
  unfold tw
  rw [h _ (by omega), h _ (by omega)]

theorem Ks.unique {n m : Nat} {key key' k k' : Nat → By} (hn : 0 < n) (h : Ks n m key k) (h' : Ks n m key' k') (he : ∀ j, j < 4 * n → key j = key' j) :
    ∀ j, j < 4 * m → k j = k' j := by
  have : ∀ i, i ≤ m → ∀ j, j < 4 * i → k j = k' j := by
    intro i
    induction i with
    | zero => intro _ j hj; omega
    | succ i ih =>
      intro hi j hj
      by_cases h4 : j < 4 * i
      · exact ih (by omega) j h4
      · by_cases hin : i < n
        · rw [h.lo j (by omega), h'.lo j (by omega), he j (by omega)]
        · have e : j = 4 * i + (j - 4 * i) := by omega
          rw [e, h.hi i (by omega) (by omega) _ (by omega), h'.hi i (by omega) (by omega) _ (by omega), tw_congr (by omega) (ih (by omega)) (by omega), ih (by omega) _ (by omega)]
  exact this m (Nat.le_refl _)

theorem Ks.more {n i : Nat} {key k k' : Nat → By} (hn : 0 < n) (hi : n ≤ i) (h : Ks n i key k) (hs : ∀ j, j < 4 * i → k' j = k j) (hw : ∀ r, r < 4 → k' (4 * i + r) = k (4 * (i - n) + r) ^^^ tw n k i r) : Ks n (i + 1) key k' := by
  refine ⟨fun j hj => by rw [hs j (by omega), h.lo j hj], fun a ha hai r hr => ?_⟩
  by_cases e : a = i
  · subst e
    rw [hw r hr, hs _ (by omega), tw_congr hr hs (by omega)]
  · rw [hs _ (by omega), hs _ (by omega), h.hi a ha (by omega) r hr, tw_congr hr (k := k') (k' := k) (fun j hj => hs j (by omega)) (by omega)]

/-! Counters and streams. -/
def num4 (a : Nat → By) : Nat := (a 12).toNat * 16777216 + (a 13).toNat * 65536 + (a 14).toNat * 256 + (a 15).toNat
/-- The block whose last four bytes tell a number. -/
def put4 (a : Nat → By) (n : Nat) : Nat → By := fun j => if j < 12 then a j else BitVec.ofNat 8 (n / 256 ^ (15 - j))
def ctr (a : Nat → By) (i : Nat) : Nat → By := put4 a (num4 a + i)
/-- The bytes that are XORed to a text. -/
def pad (R : Nat) (k a : Nat → By) (i : Nat) : By := enc R k (ctr a (i / 16)) (i % 16)

theorem put4_byte (a : Nat → By) (n j : Nat) (h : 12 ≤ j) : (put4 a n j).toNat = n / 256 ^ (15 - j) % 256 := by
  have : ¬ j < 12 := by omega
  simp [put4, this]

theorem num4_put4 (a : Nat → By) (n : Nat) : num4 (put4 a n) = n % 4294967296 := by
  unfold num4
  rw [put4_byte a n 12 (by omega), put4_byte a n 13 (by omega), put4_byte a n 14 (by omega), put4_byte a n 15 (by omega)]
  simp only [Nat.reduceSub, Nat.reducePow]
  omega

theorem put4_mod (a : Nat → By) (m n : Nat) (h : m % 4294967296 = n % 4294967296) : E16 (put4 a m) (put4 a n) := by
  intro j hj
  by_cases h12 : j < 12
  · simp [put4, h12]
  · apply BitVec.eq_of_toNat_eq
    rw [put4_byte a m j (by omega), put4_byte a n j (by omega)]
    have : j = 12 ∨ j = 13 ∨ j = 14 ∨ j = 15 := by omega
    rcases this with rfl | rfl | rfl | rfl <;> simp only [Nat.reduceSub, Nat.reducePow] <;> omega

theorem ctr_ctr (a : Nat → By) (i m : Nat) : E16 (ctr (ctr a i) m) (ctr a (i + m)) := by
  intro j hj
  unfold ctr
  rw [num4_put4]
  by_cases h12 : j < 12
  · simp [put4, h12]
  · have e := put4_mod a ((num4 a + i) % 4294967296 + m) (num4 a + (i + m)) (by omega) j hj
    rw [← e]
    simp [put4, h12]

theorem ctr_zero (a : Nat → By) : E16 (ctr a 0) a := by
  intro j hj
  unfold ctr
  by_cases h12 : j < 12
  · simp [put4, h12]
  · apply BitVec.eq_of_toNat_eq
    rw [put4_byte a _ j (by omega)]
    have h0 := (a 12).isLt
    have h1 := (a 13).isLt
    have h2 := (a 14).isLt
    have h3 := (a 15).isLt
    unfold num4
    have : j = 12 ∨ j = 13 ∨ j = 14 ∨ j = 15 := by omega
    rcases this with rfl | rfl | rfl | rfl <;> simp only [Nat.reduceSub, Nat.reducePow] <;> omega

end Go.Proofs.YtobglgddbhddnaaGreat
