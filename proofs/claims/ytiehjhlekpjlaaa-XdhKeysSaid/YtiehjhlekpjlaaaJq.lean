/-
  What a slice of bytes holds, what a call may have changed, and the one law on append by which all walks of this seat go.
  Whatever many bytes as a number, the document's way.
  Whatever many bytes as a number, the program's way.
  Bytes compared; the ways back.
  Whatever many bytes as a number, the program's way: the walk.
-/
import Derived.Test.YtiehjhlekpjlaaaProg
import Derived.WalkKit
import Derived.WalkSpells
import Derived.WalkLawsBesides
import Derived.Test.YtiehjhlekpjlaaaJh
import Derived.Test.YtiehjhlekpjlaaaJl
import Derived.Test.YtiehjhlekpjlaaaJj
import Derived.Test.YtiehjhlekpjlaaaJc
import Derived.Test.YtiehjhlekpjlaaaJn
namespace Go.Proofs.Ytiehjhlekpjlaaa.Ap
open Go.RowKit

/-- Below the old size only blocks of S may have changed. -/
structure Chg (S : Nat → Prop) (w w' : World) : Prop where
  os : w'.os = w.os
  tape : w'.tape = w.tape
  output : w'.output = w.output
  size : w.heap.size ≤ w'.heap.size
  block : ∀ k, k < w.heap.size → ¬ S k → w'.heap[k]? = w.heap[k]?

def Non : Nat → Prop := fun _ => False
def One (r : Nat) : Nat → Prop := fun k => k = r

theorem Chg.refl (S : Nat → Prop) (w : World) : Chg S w w := ⟨rfl, rfl, rfl, Nat.le_refl _, fun _ _ _ => rfl⟩

theorem Chg.trans {S S' : Nat → Prop} {a b c : World} (h : Chg S a b) (k : Chg S' b c) (hS : ∀ i, i < a.heap.size → S' i → S i) : Chg S a c :=
  ⟨k.os.trans h.os, k.tape.trans h.tape, k.output.trans h.output, Nat.le_trans h.size k.size, fun i hi hn =>
    (k.block i (Nat.lt_of_lt_of_le hi h.size) (fun x => hn (hS i hi x))).trans (h.block i hi hn)⟩

theorem Chg.mono {S S' : Nat → Prop} {a b : World} (h : Chg S a b) (hS : ∀ i, i < a.heap.size → S i → S' i) : Chg S' a b :=
  ⟨h.os, h.tape, h.output, h.size, fun i hi hn => h.block i hi (fun x => hn (hS i hi x))⟩

theorem Chg.drew {S : Nat → Prop} {a b : World} (h : Chg S a b) : Chg S a b.drew := ⟨h.os, h.tape, h.output, h.size, h.block⟩

theorem Chg.of_grown {w w' : World} {row : Option Nat} (h : w.grownBy w' row) : Chg (fun k => row = some k) w w' :=
  ⟨h.os, h.tape, h.output, h.size, fun k hk hn => h.block k hk (fun e => hn e.symm)⟩

theorem Chg.of_none {w w' : World} (h : w.grownBy w' none) : Chg Non w w' :=
  ⟨h.os, h.tape, h.output, h.size, fun k hk _ => h.block k hk (fun e => by cases e)⟩

theorem Chg.alloc {S : Nat → Prop} {a w : World} (h : Chg S a w) (o : Obj) : Chg S a (w.alloc o) :=
  h.trans (S' := Non) ⟨rfl, rfl, rfl, by simp, fun k hk _ => Below.heap_alloc _ _ _ hk⟩ (fun _ _ x => x.elim)

theorem Chg.setCell {S : Nat → Prop} {a w : World} (h : Chg S a w) {p : Addr} (hp : p.block < a.heap.size → S p.block) (u : Value) : Chg S a (w.setCell p u) :=
  h.trans (S' := One p.block) ⟨rfl, rfl, rfl, by simp [World.setCell], fun k _ hn => Below.heap_setCell _ _ _ _ hn⟩ (fun _ hi x => by cases x; exact hp hi)

theorem Chg.below {S : Nat → Prop} {B : Nat} {a w : World} (h : Chg S a w) (hB : B ≤ a.heap.size) (hS : ∀ k, S k → B ≤ k) : Below B a w :=
  ⟨h.os, h.tape, h.output, h.size, fun k hk => h.block k (by omega) (fun x => by have := hS k x; omega)⟩

theorem Chg.non {a w : World} (h : Chg Non a w) (S : Nat → Prop) : Chg S a w := h.mono (fun _ _ x => x.elim)

/-- A slice of bytes that can be read: xs. -/
def Rd (w : World) (v : Value) (xs : List Int) : Prop :=
  ∃ ao n c, v = .slice ao n c ∧ n = xs.length ∧ n ≤ c ∧ c ≤ maxLen ∧ (ao = none → c = 0) ∧ ∀ x, ao = some x → ∀ j u, xs[j]? = some u → w.cell? (x.add j) = some (.int .u8 u)

theorem Rd.keep {w w' : World} {v : Value} {xs : List Int} (h : Rd w v xs) (hk : ∀ k, v.ownBlock = some k → k < w.heap.size → w'.heap[k]? = w.heap[k]?) : Rd w' v xs := by
  obtain ⟨ao, n, c, rfl, hn, hc, hmx, h0, hx⟩ := h
  refine ⟨ao, n, c, rfl, hn, hc, hmx, h0, fun x e j u hj => ?_⟩
  subst e
  have h1 := hx x rfl j u hj
  have hb : (x.add j).block = x.block := by unfold Addr.add; split <;> rfl
  rw [← h1]
  apply World.cell?_of_block
  rw [hb]
  exact hk _ rfl (by have := World.block_lt_of_cell? w _ h1; rwa [hb] at this)

theorem Rd.nil (w : World) : Rd w (.slice none 0 0) [] := ⟨none, 0, 0, rfl, rfl, Nat.le_refl _, by decide, fun _ => rfl, fun _ h => by cases h⟩

/-- The same without spare room: nil where nothing is in it. -/
def Tight (w : World) (v : Value) (xs : List Int) : Prop :=
  (v = .slice none 0 0 ∧ xs = []) ∨
  ∃ x n, v = .slice (some x) n n ∧ n = xs.length ∧ 0 < n ∧ n ≤ maxLen ∧ ∀ j u, xs[j]? = some u → w.cell? (x.add j) = some (.int .u8 u)

theorem Tight.rd {w : World} {v : Value} {xs : List Int} (h : Tight w v xs) : Rd w v xs := by
  rcases h with ⟨rfl, rfl⟩ | ⟨x, n, rfl, hn, h0, hmx, hx⟩
  · exact Rd.nil w
  · exact ⟨some x, n, n, rfl, hn, Nat.le_refl _, hmx, fun e => by (cases e), fun y e => by cases e; exact hx⟩

theorem Tight.shape {w : World} {v : Value} {xs : List Int} (h : Tight w v xs) : ∃ ao n, v = .slice ao n n := by
  rcases h with ⟨rfl, rfl⟩ | ⟨x, n, rfl, hn, h0, hmx, hx⟩
  · exact ⟨_, _, rfl⟩
  · exact ⟨_, _, rfl⟩

theorem Rd.shape {w : World} {v : Value} {xs : List Int} (h : Rd w v xs) : ∃ ao n c, v = .slice ao n c ∧ n = xs.length ∧ n ≤ c ∧ c ≤ maxLen := by
  obtain ⟨ao, n, c, rfl, hn, hc, hmx, h0, hx⟩ := h
  exact ⟨_, _, _, rfl, hn, hc, hmx⟩

theorem Tight.lt {w : World} {v : Value} {xs : List Int} (h : Tight w v xs) : ∀ k, v.ownBlock = some k → k < w.heap.size := by
  intro k hk
  rcases h with ⟨rfl, rfl⟩ | ⟨x, n, rfl, hn, h0, hmx, hx⟩
  · simp [Value.ownBlock] at hk
  · simp [Value.ownBlock] at hk
    subst hk
    have h1 := hx 0 (xs[0]'(by omega)) (by simp)
    have hb : (x.add 0).block = x.block := by unfold Addr.add; split <;> rfl
    have := World.block_lt_of_cell? w _ h1
    rwa [hb] at this

theorem Tight.keep {w w' : World} {v : Value} {xs : List Int} (h : Tight w v xs) (hk : ∀ k, v.ownBlock = some k → w'.heap[k]? = w.heap[k]?) : Tight w' v xs := by
  have hr := (h.rd.keep (w' := w') (fun k e _ => hk k e))
  rcases h with h | ⟨x, n, rfl, hn, h0, hmx, hx⟩
  · exact .inl h
  · obtain ⟨ao, n', c, e, hn', hc, _, _, hx'⟩ := hr
    cases e
    exact .inr ⟨x, n, rfl, hn, h0, hmx, hx' x rfl⟩

/-- A slice of bytes in a row of our own, from a place of it on, with its spare room. -/
structure Own (w : World) (g off n cap : Nat) (xs : List Int) : Prop where
  len : xs.length = n
  le : n ≤ cap
  mx : cap ≤ maxLen
  blk : ∃ cur : Array Value, w.heap[g]? = some (.cells cur 5 (0, 0)) ∧ off + cap ≤ cur.size ∧ (cur.toList.drop off).take n = xs.map (Value.int .u8)

def OwnV (w : World) (v : Value) (xs : List Int) : Prop :=
  (v = .slice none 0 0 ∧ xs = []) ∨ ∃ g off n cap, v = .slice (some ⟨g, off, none⟩) n cap ∧ Own w g off n cap xs

theorem Own.lt {w : World} {g off n cap : Nat} {xs : List Int} (h : Own w g off n cap xs) : g < w.heap.size := by
  obtain ⟨cur, hg, _⟩ := h.blk
  exact (Array.getElem?_eq_some_iff.1 hg).1

theorem Own.cell {w : World} {g off n cap : Nat} {xs : List Int} (h : Own w g off n cap xs) : ∀ j u, xs[j]? = some u → w.cell? ⟨g, off + j, none⟩ = some (.int .u8 u) := by
  intro j u hj
  obtain ⟨cur, hg, hs, ht⟩ := h.blk
  have hlt := (List.getElem?_eq_some_iff.1 hj).1
  have e : ((cur.toList.drop off).take n)[j]? = (xs.map (Value.int .u8))[j]? := by rw [ht]
  rw [List.getElem?_take, if_pos (by have := h.len; omega), List.getElem?_drop, List.getElem?_map, hj] at e
  rw [cell_of_row w g (off + j) cur 5 (0, 0) hg]
  simpa using e

theorem Own.rd {w : World} {g off n cap : Nat} {xs : List Int} (h : Own w g off n cap xs) : Rd w (.slice (some ⟨g, off, none⟩) n cap) xs :=
  ⟨_, _, _, rfl, h.len.symm, h.le, h.mx, fun e => by (cases e), fun x e j u hj => by cases e; rw [Addr.add_lit]; exact h.cell j u hj⟩

theorem OwnV.rd {w : World} {v : Value} {xs : List Int} (h : OwnV w v xs) : Rd w v xs := by
  rcases h with ⟨rfl, rfl⟩ | ⟨g, off, n, cap, rfl, h⟩
  · exact Rd.nil w
  · exact h.rd

theorem OwnV.lt {w : World} {v : Value} {xs : List Int} (h : OwnV w v xs) : ∀ k, v.ownBlock = some k → k < w.heap.size := by
  intro k hk
  rcases h with ⟨rfl, rfl⟩ | ⟨g, off, n, cap, rfl, h⟩
  · simp [Value.ownBlock] at hk
  · simp [Value.ownBlock] at hk
    subst hk
    exact h.lt

theorem Own.keep {w w' : World} {g off n cap : Nat} {xs : List Int} (h : Own w g off n cap xs) (hk : w'.heap[g]? = w.heap[g]?) : Own w' g off n cap xs :=
  ⟨h.len, h.le, h.mx, by rw [hk]; exact h.blk⟩

theorem OwnV.keep {w w' : World} {v : Value} {xs : List Int} (h : OwnV w v xs) (hk : ∀ k, v.ownBlock = some k → w'.heap[k]? = w.heap[k]?) : OwnV w' v xs := by
  rcases h with h | ⟨g, off, n, cap, rfl, h⟩
  · exact .inl h
  · exact .inr ⟨g, off, n, cap, rfl, h.keep (hk _ rfl)⟩

theorem Try.info5 : (Try.prog.info? 5).map (fun i => (i.zero, i.size, i.bytes)) = some (some (.int .u8 0), 1, 1) := by kernel_rfl

theorem run_first (w : World) (v : Value) (xs : List Int) (h : Rd w v xs) : (Builtin.firstCells 1 xs.length v).run Try.prog w = .ok (xs.map (Value.int .u8)).toArray w := by
  obtain ⟨ao, n, c, rfl, hn, hc, hmx, h0, hx⟩ := h
  cases ao with
  | none =>
    have : xs = [] := List.eq_nil_of_length_eq_zero (by have := h0 rfl; omega)
    subst this
    simp [Builtin.firstCells]
  | some x =>
    have := run_loadCells_list (P := Try.prog) w x (xs.map (Value.int .u8)) (fun j v hj => by
      rw [List.getElem?_map] at hj
      cases hu : xs[j]? with
      | none => rw [hu] at hj; cases hj
      | some u => rw [hu] at hj; cases hj; exact hx x rfl j u hu)
    simpa [Builtin.firstCells] using this

theorem Rd.drew {w : World} {v : Value} {xs : List Int} (h : Rd w v xs) : Rd w.drew v xs := h.keep (fun _ _ _ => rfl)

/-- append that must grow, of whatever can be read: a new row. -/
theorem run_grow (ty : TypeId) (w : World) (ao : Option Addr) (c : Nat) (s : Value) (xs ys : List Int) (hv : Rd w (.slice ao xs.length c) xs) (hs : Rd w s ys) (hb : xs.length + ys.length ≤ 140737488355328)
    (hr : ¬ xs.length + ys.length ≤ c) :
    ∃ v' w', (Builtin.append_ #[42, 42] ty #[.slice ao xs.length c, s]).run Try.prog w = .ok v' w' ∧ OwnV w' v' (xs ++ ys) ∧ Chg Non w w' ∧ v'.ownBlock = some w.heap.size := by
  obtain ⟨i, hi, hz, hsz, hby⟩ := info_parts Try.info5
  have ht := Try.underlying42
  have hfsd := run_first w.drew s ys hs.drew
  have hfv := run_first w.drew _ xs hv.drew
  obtain ⟨so, m, sc, rfl, hm, hmc, hsm, hs0, hsx⟩ := hs
  subst hm
  have hge := grownCap_ge w (xs.length + ys.length) c 5
  have hcm : grownCap w (xs.length + ys.length) c 5 ≤ maxLen := grownCap_le_maxLen w (xs.length + ys.length) c 5 (by unfold maxLen; omega)
  have hfit := growslice_fits (bytes := 1) (show c < xs.length + ys.length by omega) (by simpa using hb)
  rw [← hby] at hfit
  have h63' : ¬ (9223372036854775807 < ((xs.length : Int) + (ys.length : Int))) := by omega
  have h48' : ¬ (281474976710656 < Builtin.nextslicecap (xs.length + ys.length) c * i.bytes) := by omega
  refine ⟨.slice (some ⟨w.heap.size, 0, none⟩) (xs.length + ys.length) (grownCap w (xs.length + ys.length) c 5),
    w.drew.alloc (.cells (((xs ++ ys).map (Value.int .u8)).toArray ++ Builtin.zeroCells (Value.int .u8 0).cells (grownCap w (xs.length + ys.length) c 5 - (xs.length + ys.length))) 5), ?_,
    .inr ⟨w.heap.size, 0, _, _, rfl, ⟨by simp, hge, hcm, _, heap_alloc_new w.drew _, ?_, ?_⟩⟩, ⟨rfl, rfl, rfl, by simp, fun k hk _ => Below.heap_alloc w.drew _ k hk⟩, rfl⟩
  · simp [Builtin.append_, run_underlying ht, sizeOf, typeInfo, zeroValue, hi, hz, hsz, Builtin.lenOf, hr, h63', h48', Question.forced, hfsd, hfv, newRow, grownCap]
    congr 2
    apply Array.ext'
    simp
  · simp [size_zeroCells, Value.cells]; omega
  · simp only [List.drop_zero, Array.toList_append]
    rw [List.take_append_of_le_length (by simp), List.take_of_length_le (by simp)]

/-- append of nothing. -/
theorem run_nothing (ty : TypeId) (w : World) (v s : Value) (xs : List Int) (hv : Rd w v xs) (hs : Rd w s []) :
    (Builtin.append_ #[42, 42] ty #[v, s]).run Try.prog w = .ok v w := by
  obtain ⟨i, hi, hz, hsz, hby⟩ := info_parts Try.info5
  have ht := Try.underlying42
  have hfs := run_first w s [] hs
  obtain ⟨so, m, sc, rfl, hm, hmc, hsm, hs0, hsx⟩ := hs
  subst hm
  obtain ⟨ao, n, c, rfl, hn, hnc, hvm, hv0, hvx⟩ := hv
  simp only [List.length_nil] at hfs
  cases ao <;> simp [Builtin.append_, run_underlying ht, sizeOf, typeInfo, hi, Builtin.lenOf, hsz, hfs, hnc, storeCells]

/-- append where there is room. -/
theorem run_room (ty : TypeId) (w : World) (g off n cap : Nat) (s : Value) (xs ys : List Int) (h : Own w g off n cap xs) (hs : Rd w s ys) (hr : n + ys.length ≤ cap) :
    ∃ w', (Builtin.append_ #[42, 42] ty #[.slice (some ⟨g, off, none⟩) n cap, s]).run Try.prog w = .ok (.slice (some ⟨g, off, none⟩) (n + ys.length) cap) w' ∧ Own w' g off (n + ys.length) cap (xs ++ ys) ∧ Chg (One g) w w' := by
  obtain ⟨i, hi, hz, hsz, hby⟩ := info_parts Try.info5
  have ht := Try.underlying42
  have hfs := run_first w s ys hs
  obtain ⟨so, m, sc, rfl, hm, hmc, hsm, hs0, hsx⟩ := hs
  subst hm
  have hlen := h.len
  subst hlen
  obtain ⟨cur, hg, hsz', htk⟩ := h.blk
  have hst := run_storeCells_at Try.prog g (off + xs.length) 5 (ys.map (Value.int .u8)) 0 cur w hg (by simp; omega) (ints_oneCell _ _)
  simp only [Nat.add_zero] at hst
  refine ⟨w.setRow g (cur.toList.take (off + xs.length) ++ ys.map (Value.int .u8) ++ cur.toList.drop (off + xs.length + (ys.map (Value.int .u8)).length)).toArray, ?_, ⟨by simp, hr, h.mx, _, setRow_heap w g cur _ 5 _ hg, ?_, ?_⟩, ⟨rfl, rfl, rfl, by simp [World.setRow], fun k _ hk => setRow_other w g k _ hk⟩⟩
  · simp [Builtin.append_, run_underlying ht, sizeOf, typeInfo, hi, Builtin.lenOf, hsz, hfs, hr, Addr.add_lit, hst]
  · simp; omega
  · have hd : (cur.toList.take (off + xs.length)).drop off = xs.map (Value.int .u8) := by
      rw [List.drop_take]
      simpa using htk
    rw [List.append_assoc, List.drop_append_of_le_length (by simp; omega), hd, ← List.append_assoc, ← List.map_append]
    rw [List.take_append_of_le_length (by simp), List.take_of_length_le (by simp)]

/-- append, onto a row of our own, of whatever can be read. -/
theorem run_app (ty : TypeId) (w : World) (v s : Value) (xs ys : List Int) (hv : OwnV w v xs) (hs : Rd w s ys) (hb : xs.length + ys.length ≤ 140737488355328) :
    ∃ v' w', (Builtin.append_ #[42, 42] ty #[v, s]).run Try.prog w = .ok v' w' ∧ OwnV w' v' (xs ++ ys) ∧ Chg (fun k => v.ownBlock = some k) w w' ∧
      (v'.ownBlock = v.ownBlock ∨ v'.ownBlock = some w.heap.size) := by
  have hvr := hv.rd
  obtain ⟨ao, n, c, rfl, hn, hnc, hvm, hv0, hvx⟩ := hv.rd
  subst hn
  by_cases hr : xs.length + ys.length ≤ c
  · rcases hv with ⟨e, rfl⟩ | ⟨g, off, n, cap, e, h⟩
    · cases e
      have : ys = [] := List.eq_nil_of_length_eq_zero (by simpa using hr)
      subst this
      exact ⟨.slice none 0 0, w, run_nothing ty w _ s [] hvr hs, .inl ⟨rfl, rfl⟩, Chg.refl _ _, .inl rfl⟩
    · cases e
      obtain ⟨w', h1, h2, h3⟩ := run_room ty w g off xs.length c s xs ys h hs hr
      exact ⟨_, w', h1, .inr ⟨g, off, _, c, rfl, h2⟩, h3.mono (fun k _ e => by cases e; rfl), .inl rfl⟩
  · obtain ⟨v', w', h1, h2, h3, h4⟩ := run_grow ty w ao c s xs ys hvr hs hb hr
    exact ⟨v', w', h1, h2, h3.non _, .inr h4⟩

/-- append, onto what has no spare room: nothing old is written. -/
theorem run_tight (ty : TypeId) (w : World) (v s : Value) (xs ys : List Int) (hv : Tight w v xs) (hs : Rd w s ys) (hb : xs.length + ys.length ≤ 140737488355328) :
    ∃ v' w', (Builtin.append_ #[42, 42] ty #[v, s]).run Try.prog w = .ok v' w' ∧ Rd w' v' (xs ++ ys) ∧ Chg Non w w' ∧
      (v'.ownBlock = v.ownBlock ∨ v'.ownBlock = some w.heap.size) := by
  by_cases hy : ys = []
  · subst hy
    exact ⟨v, w, run_nothing ty w v s xs hv.rd hs, by simpa using hv.rd, Chg.refl _ _, .inl rfl⟩
  · have hpos : 0 < ys.length := List.length_pos_iff.2 hy
    have hvr := hv.rd
    rcases hv with ⟨rfl, rfl⟩ | ⟨x, n, rfl, hn, h0, hmx, hx⟩
    · obtain ⟨v', w', h1, h2, h3, h4⟩ := run_grow ty w none 0 s [] ys hvr hs hb (by simpa using hy)
      exact ⟨v', w', h1, h2.rd, h3, .inr h4⟩
    · subst hn
      obtain ⟨v', w', h1, h2, h3, h4⟩ := run_grow ty w (some x) xs.length s xs ys hvr hs hb (by omega)
      exact ⟨v', w', h1, h2.rd, h3, .inr h4⟩

theorem wpList_app (w : World) {ops : Array Oper} {rest : List Oper} {o : Oper} {a : Act} {Q : Exit → Act → World → Prop}
    (hg : o.guard = none) (s x : Operand) (hop : o.op = Op.call { callee := Callee.builtin Builtin.append, args := #[s, x], argTypes := #[42, 42] })
    (v sv : Value) (xs ys : List Int) (hs : a.eval s = v) (hx : a.eval x = sv) (hv : OwnV w v xs) (hr : Rd w sv ys) (hb : xs.length + ys.length ≤ 140737488355328)
    (hK : ∀ v' w', OwnV w' v' (xs ++ ys) → Chg (fun k => v.ownBlock = some k) w w' → (v'.ownBlock = v.ownBlock ∨ v'.ownBlock = some w.heap.size) → wpList Try.prog ops Q rest (a.put o.dst v') w') :
    wpList Try.prog ops Q (o :: rest) a w := by
  refine wpList_plain hg fun K hK' => ?_
  obtain ⟨v', w', hrun, r1, r2, r3⟩ := run_app o.type w v sv xs ys hv hr hb
  unfold Oper.wp
  simp [execOp, hop, resolve, invoke, builtin, hs, hx, hrun, Result.andThen]
  exact hK' _ _ (hK v' w' r1 r2 r3)

theorem wpList_room (w : World) {ops : Array Oper} {rest : List Oper} {o : Oper} {a : Act} {Q : Exit → Act → World → Prop}
    (hg : o.guard = none) (s x : Operand) (hop : o.op = Op.call { callee := Callee.builtin Builtin.append, args := #[s, x], argTypes := #[42, 42] })
    (g off n cap : Nat) (sv : Value) (xs ys : List Int) (hs : a.eval s = .slice (some ⟨g, off, none⟩) n cap) (hx : a.eval x = sv) (hv : Own w g off n cap xs) (hr : Rd w sv ys) (m : Nat) (hm : m = ys.length) (hb : n + m ≤ cap)
    (hK : ∀ w', Own w' g off (n + m) cap (xs ++ ys) → Chg (One g) w w' → wpList Try.prog ops Q rest (a.put o.dst (.slice (some ⟨g, off, none⟩) (n + m) cap)) w') :
    wpList Try.prog ops Q (o :: rest) a w := by
  refine wpList_plain hg fun K hK' => ?_
  subst hm
  obtain ⟨w', hrun, r1, r2⟩ := run_room o.type w g off n cap sv xs ys hv hr hb
  unfold Oper.wp
  simp [execOp, hop, resolve, invoke, builtin, hs, hx, hrun, Result.andThen]
  exact hK' _ _ (hK w' r1 r2)

theorem Own.of_row {w : World} {g n cap : Nat} {base : Nat} {xs : List Int} (h : w.ownsRow base 5 1 (.slice (some ⟨g, 0, none⟩) n cap) n (xs.map (Value.int .u8))) : Own w g 0 n cap xs := by
  obtain ⟨h1, h2⟩ := h
  rcases h2 with ⟨e, _⟩ | ⟨g', cap', cur, e, hb, hh, hn, hm, hs, ht⟩
  · cases e
  · cases e
    exact ⟨by simpa using h1, hn, hm, cur, hh, by omega, by simpa using ht⟩

/-- A new slice's one cell. -/
theorem Rd.one (w : World) (b : Int) : Rd (w.alloc (.cells #[.int .u8 b] 5)) (.slice (some ⟨w.heap.size, 0, none⟩) 1 1) [b] := by
  refine ⟨_, _, _, rfl, rfl, Nat.le_refl _, by decide, fun e => by (cases e), fun x e j u hj => ?_⟩
  cases e
  match j, hj with
  | 0, hj =>
    simp at hj
    subst hj
    simp [Addr.add]

theorem wpList_tight (w : World) {ops : Array Oper} {rest : List Oper} {o : Oper} {a : Act} {Q : Exit → Act → World → Prop}
    (hg : o.guard = none) (s x : Operand) (hop : o.op = Op.call { callee := Callee.builtin Builtin.append, args := #[s, x], argTypes := #[42, 42] })
    (v sv : Value) (xs ys : List Int) (hs : a.eval s = v) (hx : a.eval x = sv) (hv : Tight w v xs) (hr : Rd w sv ys) (hb : xs.length + ys.length ≤ 140737488355328)
    (hK : ∀ v' w', Rd w' v' (xs ++ ys) → Chg Non w w' → (v'.ownBlock = v.ownBlock ∨ v'.ownBlock = some w.heap.size) → wpList Try.prog ops Q rest (a.put o.dst v') w') :
    wpList Try.prog ops Q (o :: rest) a w := by
  refine wpList_plain hg fun K hK' => ?_
  obtain ⟨v', w', hrun, r1, r2, r3⟩ := run_tight o.type w v sv xs ys hv hr hb
  unfold Oper.wp
  simp [execOp, hop, resolve, invoke, builtin, hs, hx, hrun, Result.andThen]
  exact hK' _ _ (hK v' w' r1 r2 r3)

/-- A slice of bytes made a string. -/
theorem run_str (w : World) (v : Value) (xs : List Int) (h : Rd w v xs) : (convert 42 9 v).run Try.prog w = .ok (.string (strOfNums xs)) w := by
  have hf := run_first w v xs h
  obtain ⟨ao, n, c, rfl, hn, hc, hmx, h0, hx⟩ := h
  subst hn
  cases ao with
  | none =>
    have : xs = [] := List.eq_nil_of_length_eq_zero (by have := h0 rfl; omega)
    subst this
    exact run_convert_bytes_nil w 42 5 Try.underlying42 Try.underlying5 _ _ 9 Try.underlying9
  | some x =>
    simp [Builtin.firstCells] at hf
    rw [run_convert_bytes_string w 42 9 5 _ _ _ Try.underlying42 Try.underlying5 Try.underlying9, run_bytesToString w x _ _ xs (by simpa using hf), foldl_push_bytes]
    simp [strOfNums, ByteArray.empty, ByteArray.emptyWithCapacity]
    rfl
end Go.Proofs.Ytiehjhlekpjlaaa.Ap

namespace Go.Proofs.Ytiehjhlekpjlaaa
open Go.RowKit
set_option linter.unusedVariables false

/-- The bytes that a slice holds. -/
def Bz (w : World) (b o n : Nat) (e : Nat → Int) : Prop := ∀ j, j < n → w.cell? ⟨b, o + j, none⟩ = some (.int .u8 (e j))
theorem Bz.chg {w w' : World} {b o n : Nat} {e : Nat → Int} (h : Bz w b o n e) (k : Chg w w') : Bz w' b o n e := fun j hj => by
  have h1 := h j hj
  have hb := World.block_lt_of_cell? w _ h1
  have h2 := k.block b hb
  unfold World.cell? at h1 ⊢
  dsimp only at h1 ⊢
  rw [h2]
  exact h1
theorem md_step {f : Int} (hf : f = 1 ∨ f = 2 ∨ f = 3 ∨ f = 4) (x y : Int) : md f (md f x * 256 + y) = md f (x * 256 + y) := by
  rw [md_in hf, md_in hf, md_in hf, Int.add_emod, Int.mul_emod, Int.emod_emod_of_dvd _ (Int.dvd_refl _), ← Int.mul_emod, ← Int.add_emod]
theorem up256 (V : Int) (k : Nat) : V / 256 ^ k = V / 256 ^ (k + 1) * 256 + dg 256 V k := by
  have hp : (0 : Int) < 256 ^ k := Int.pow_pos (by decide)
  unfold dg
  rw [Int.pow_succ, ← Int.ediv_ediv_of_nonneg (by omega)]
  generalize V / 256 ^ k = y
  omega
theorem or_byte {m y : Int} (hm : 0 ≤ m) (hy : 0 ≤ y ∧ y < 256) : bits .or .u64 (dg B32 (m * 256) 0) y = dg B32 (m * 256) 0 + y := by
  have hd := dg32_b (m * 256) 0
  have e0 : dg B32 (m * 256) 0 = m * 256 % 4294967296 := by unfold dg; rw [Int.pow_zero, Int.ediv_one]
  obtain ⟨h, hh⟩ : ∃ h, dg B32 (m * 256) 0 = h * 256 := ⟨dg B32 (m * 256) 0 / 256, by omega⟩
  rw [hh] at hd ⊢
  obtain ⟨a, rfl⟩ := Int.eq_ofNat_of_zero_le (show 0 ≤ h by omega)
  obtain ⟨b, rfl⟩ := Int.eq_ofNat_of_zero_le hy.1
  have e : ((a : Int) * 256) = ((a * 256 : Nat) : Int) := by omega
  rw [e, u64_or_nat (a * 256) b (by omega) (by omega)]
  have h3 : a * 256 ||| b = a * 256 + b := by
    have := Nat.shiftLeft_add_eq_or_of_lt (i := 8) (b := b) (by omega) a
    rw [Nat.shiftLeft_eq] at this
    exact this.symm
  rw [h3]
  omega
theorem wdr_or {m y : Int} (hm : 0 ≤ m) (hy : 0 ≤ y ∧ y < 256) : upd (dg B32 (m * 256)) 0 (dg B32 (m * 256) 0 + y) = dg B32 (m * 256 + y) := by
  funext j
  unfold upd
  by_cases hj : j = 0
  · subst hj
    rw [if_pos rfl]
    unfold dg
    rw [Int.pow_zero, Int.ediv_one, Int.ediv_one]
    show m * 256 % 4294967296 + y = (m * 256 + y) % 4294967296
    omega
  · rw [if_neg hj]
    obtain ⟨k, rfl⟩ : ∃ k, j = k + 1 := ⟨j - 1, by omega⟩
    unfold dg
    have hp := pow_pos' B32_pos k
    rw [Int.pow_succ, Int.mul_comm (B32 ^ k) B32, ← Int.ediv_ediv_of_nonneg (by decide), ← Int.ediv_ediv_of_nonneg (by decide)]
    have e : m * 256 / B32 = (m * 256 + y) / B32 := by
      show m * 256 / 4294967296 = (m * 256 + y) / 4294967296
      omega
    rw [e]
theorem num_set256 : (num 0).setIfInBounds 0 (.int .u64 256) = num 256 := by kernel_rfl
theorem md_nn (f x : Int) : 0 ≤ md f x := (md_N f x).1
structure WS (w wr : World) (b6 : Nat) (x : Int) : Prop where
  chg : Chg w wr
  r4 : Ar wr w.heap.size (num 0)
  r6 : Ar wr b6 (num x)
  l6 : w.heap.size < b6
theorem WS.to {w wr u : World} {b6 : Nat} {x : Int} (h : WS w wr b6 x) (k : Chg wr u) : WS w u b6 x := ⟨h.chg.trans k, h.r4.chg k, h.r6.chg k, h.l6⟩
theorem WS.row {w wr : World} {b6 : Nat} {x : Int} (h : WS w wr b6 x) (y : Int) : WS w (wr.setRow b6 (num y)) b6 y := by
  obtain ⟨q0, q1, q2, l⟩ := h
  exact ⟨q0.setRow (by omega) _, q1.rowOther (by omega) _, q2.row _, l⟩

set_option maxRecDepth 100000 in
set_option maxHeartbeats 16000000 in
theorem wideR_any (f V : Int) (b o n c : Nat) (hV : 0 ≤ V ∧ V < 256 ^ n) (hn : n ≤ 140737488355328) (w : World) (hz0 : Bz w b o n (dg 256 V)) : Calls Try.prog 21 #[.int .i64 f, .slice (some ⟨b, o, none⟩) n c] w fun r w' => r = .returned (.agg (num (md f V))) ∧ Chg w w' := by
  have HV : Hid ((0 ≤ V ∧ V < 256 ^ n) ∧ Bz w b o n (dg 256 V)) := ⟨hV, hz0⟩
  have HIs : Hid (∀ u, Calls Try.prog 32 #[.int .i64 f] u fun r w' => r = .returned (.bool (isF f)) ∧ Chg u w') := fun u => is_any f u
  obtain ⟨bb, hbb⟩ : ∃ b, b = isF f := ⟨_, rfl⟩
  rw [← hbb] at HIs
  have HBB : Hid (bb = isF f) := hbb
  have hz := zero25.1
  clear hV hz0 hbb
  go_enter Try.func21, Try.ntmps21
  go_upto_region 1 with fail
  obtain ⟨w1, hw1⟩ : ∃ w1, w1 = w.alloc (.cells (num 0) 34) := ⟨_, rfl⟩
  have Z1 : Hid (Chg w w1 ∧ Ar w1 w.heap.size (num 0)) := by
    rw [hw1]
    exact ⟨(Chg.refl w).alloc _, Ar.new w _ _⟩
  rw [← hw1]
  clear hw1
  go_wp2_with fail
  go_at_call 32
  refine (HIs.out _).mono ?_
  rintro r w2 ⟨rfl, hc2⟩
  have Z2 : Hid (Chg w w2 ∧ Ar w2 w.heap.size (num 0)) := ⟨Z1.out.1.trans hc2, Z1.out.2.chg hc2⟩
  clear hc2 Z1
  cases bb with
  | false =>
    have hf : ¬ (f = 1 ∨ f = 2 ∨ f = 3 ∨ f = 4) := fun h => by have := (isF_iff f).2 h; rw [← HBB.out] at this; cases this
    have HE : Hid (md f V = 0) := md_out hf _
    clear hf
    obtain ⟨t, g⟩ := Z2.out.2
    go_wp2_with (first | refine wpList_store_row rfl 34 _ _ rfl _ _ rfl rfl _ _ g (szN 0) rfl (num_one 0) ?_)
    refine bp_n (x := 0) Try.results21 rfl rfl ?_ ⟨by rw [HE.out], ?_⟩
    · exact Z2.out.2.row _
    · exact Z2.out.1.setRow (by omega) _
  | true =>
    have HF : Hid (f = 1 ∨ f = 2 ∨ f = 3 ∨ f = 4) := (isF_iff f).1 HBB.out.symm
    obtain ⟨z0, hz0⟩ : ∃ z : Int, (n : Int) - 1 = z := ⟨_, rfl⟩
    have wz0 := wrap_i (x := z0) (by omega) (by omega)
    go_upto_region 5 with fail
    obtain ⟨b6, hb6⟩ : ∃ b, b = w2.heap.size := ⟨_, rfl⟩
    obtain ⟨w3, hw3⟩ : ∃ w3, w3 = w2.alloc (.cells (num 0) 34) := ⟨_, rfl⟩
    have Z3 : Hid (WS w w3 b6 (md f (V / 256 ^ n))) := by
      have e : md f (V / 256 ^ n) = 0 := by
        rw [Int.ediv_eq_zero_of_lt HV.out.1.1 HV.out.1.2, md_in HF.out]
        exact Int.zero_emod _
      rw [e, hw3, hb6]
      exact ⟨Z2.out.1.alloc _, Z2.out.2.alloc _, Ar.new w2 _ _, Z2.out.2.lt⟩
    rw [← hw3, ← hb6]
    clear hw3 hb6 Z2
    go_wp2_with fail
    go_loopw [7] (fun v wr => ∃ (z : Int), v = .int .i64 z ∧ -1 ≤ z ∧ z < n ∧ WS w wr b6 (md f (V / 256 ^ (z + 1).toNat))) (fun v wr => (intOf v + 1).toNat)
    case atStart =>
      refine ⟨z0, by first | rfl | go_num, by omega, by omega, ?_⟩
      rw [show (z0 + 1).toNat = n by omega]
      exact Z3.out
    case round =>
      clear Z3 hz0 wz0
      obtain ⟨z, rfl, hz0, hz1, hxs⟩ := hrel
      have Z : Hid (WS w wr b6 (md f (V / 256 ^ (z + 1).toNat))) := hxs
      clear hxs
      by_cases hzz : 0 ≤ z
      · obtain ⟨j, rfl⟩ : ∃ q : Nat, z = q := ⟨z.toNat, by omega⟩
        have hdz : decide ((0 : Int) ≤ (j : Int)) = true := by simp
        have lj0 : (0 : Int) ≤ (j : Int) := by omega
        have ljn : (j : Int) < n := hz1
        have ljn' : j < n := by omega
        obtain ⟨z', hz'⟩ : ∃ z' : Int, (j : Int) - 1 = z' := ⟨_, rfl⟩
        have wz := wrap_i (x := z') (by omega) (by omega)
        have HZ' : Hid (z' = (j : Int) - 1 ∧ (z' + 1).toNat = j) := ⟨hz'.symm, by omega⟩
        rw [show ((j : Int) + 1).toNat = j + 1 by omega] at Z
        obtain ⟨m, hm⟩ : ∃ m, m = md f (V / 256 ^ (j + 1)) := ⟨_, rfl⟩
        obtain ⟨y, hy⟩ : ∃ y, y = dg 256 V j := ⟨_, rfl⟩
        have hm0 : 0 ≤ m := by rw [hm]; exact md_nn f _
        have hmN : N256 m := by rw [hm]; exact md_N f _
        have hyb : 0 ≤ y ∧ y < 256 := by rw [hy]; exact dg_bound (by decide) V j
        have HM : Hid (md f (m * 256 + y) = md f (V / 256 ^ j)) := by
          show md f (m * 256 + y) = _
          rw [hm, md_step HF.out, hy, ← up256]
        rw [← hm] at Z
        have h5 : N512 (m * 256 + y) := ⟨by omega, by
          have h1 := hmN.2
          have h2 : R256 * 256 + 256 < R512 := by decide +kernel
          omega⟩
        obtain ⟨D, hD⟩ : ∃ D, D = wdr (m * 256) := ⟨_, rfl⟩
        obtain ⟨G, hG⟩ : ∃ D, D = wdr (m * 256 + y) := ⟨_, rfl⟩
        obtain ⟨X, hX⟩ : ∃ D, D = num (md f (m * 256 + y)) := ⟨_, rfl⟩
        have HK : Hid ((∀ u, Calls Try.prog 33 #[.agg (num m), .agg (num 256)] u fun r w' => r = .returned (.agg D) ∧ Chg u w') ∧ (∀ u, Calls Try.prog 34 #[.int .i64 f, .agg G] u fun r w' => r = .returned (.agg X) ∧ Chg u w')) := by
          rw [hD, hG, hX]
          exact ⟨fun u => times_any m 256 hmN ⟨by decide, by decide⟩ u, fun u => left_any f _ HF.out h5 u⟩
        have sD : (Try.prog.info? 50).map (·.size) = some D.size := by rw [hD]; exact szA _
        have lD : (arr .u64 17 zD).size = D.size := by rw [hD]; exact lenA _ _
        have oD : D.all (·.oneCell') = true := by rw [hD]; exact oneA _
        have sX : (Try.prog.info? 34).map (·.size) = some X.size := by rw [hX]; exact szN _
        have lX : (num m).size = X.size := by rw [hX]; exact lenN _ _
        have oX : X.all (·.oneCell') = true := by rw [hX]; exact num_one _
        have HSG : Hid ((Try.prog.info? 50).map (·.size) = some G.size) := by rw [hG]; exact szA _
        have HSX : Hid ((Try.prog.info? 34).map (·.size) = some X.size ∧ (num m).size = X.size ∧ X.all (·.oneCell') = true) := ⟨sX, lX, oX⟩
        have HD : Hid (D = arr .u64 17 (dg B32 (m * 256)) ∧ G = arr .u64 17 (dg B32 (m * 256 + y)) ∧ X = num (md f (V / 256 ^ j))) := ⟨hD, hG, by rw [hX, HM.out]⟩
        have hor := or_byte hm0 hyb
        have HU : Hid (upd (dg B32 (m * 256)) 0 (dg B32 (m * 256) 0 + y) = dg B32 (m * 256 + y)) := wdr_or hm0 hyb
        have wy : IntKind.u64.wrap y = y := by rw [IntKind.wrap_u64]; omega
        have HCy : Hid (w.cell? ⟨b, o + j, none⟩ = some (.int .u8 y)) := by
          show w.cell? ⟨b, o + j, none⟩ = _
          rw [hy]
          exact HV.out.2 j ljn'
        obtain ⟨d0, hd0⟩ : ∃ d, d = dg B32 (m * 256) 0 := ⟨_, rfl⟩
        obtain ⟨r, hr⟩ : ∃ r, r = d0 + y := ⟨_, rfl⟩
        rw [← hd0, ← hr] at hor
        rw [← hd0, ← hr] at HU
        have HD0 : Hid (dg B32 (m * 256) 0 = d0) := hd0.symm
        have z49 := zero49.1
        have r6 := rangeN Z.out.r6
        have i6 := infoN m
        clear hm hy hm0 hmN hyb h5 hD hG hX hd0 hr sX lX oX
        go_wp2_with (first
          | refine wpList_load_mid rfl 34 (.tmp 6) rfl _ _ rfl ((num m).toList) _ r6 Go.Proofs.Ytiehjhlekpjlaaa.u25 rfl i6 ?_)
        rw [num_set256]
        go_at_call 33
        refine (HK.out.1 _).mono ?_
        rintro r' w5 ⟨rfl, hc5⟩
        have Z5 : Hid (WS w w5 b6 m) := Z.out.to hc5
        clear hc5 r6 i6 Z
        go_upto_region 9 with (first | refine wpList_store_row rfl 50 _ _ rfl _ _ rfl rfl _ _ (heap_alloc_last w5 _) sD lD oD ?_)
        obtain ⟨b8, hb8⟩ : ∃ b, b = w5.heap.size := ⟨_, rfl⟩
        obtain ⟨w6, hw6⟩ : ∃ v, v = (w5.alloc (.cells (arr .u64 17 zD) 50)).setRow w5.heap.size D := ⟨_, rfl⟩
        have Z6 : Hid (WS w w6 b6 m ∧ Ar w6 b8 D ∧ w.heap.size < b8 ∧ b6 < b8) := by
          have kk : Chg w5 ((w5.alloc (.cells (arr .u64 17 zD) 50)).setRow w5.heap.size D) := ((Chg.refl w5).alloc _).setRow (Nat.le_refl _) _
          have l1 := Z5.out.r6.lt
          have l2 := Z5.out.r4.lt
          rw [hw6, hb8]
          exact ⟨Z5.out.to kk, (Ar.new w5 _ _).row _, l2, l1⟩
        rw [← hw6, ← hb8]
        clear hw6 hb8 Z5 sD lD oD
        have c8 : w6.cell? ⟨b8, 0, none⟩ = some (.int .u64 d0) := by
          have h := Z6.out.2.1
          rw [HD.out.1] at h
          have h2 := (h.cell 0).trans (arr_get _ _ _ (by decide))
          rw [HD0.out] at h2
          exact h2
        have f8 := Z6.out.2.1.frozen 0
        have cy : w6.cell? ⟨b, o + j, none⟩ = some (.int .u8 y) := by
          have hb := World.block_lt_of_cell? w _ HCy.out
          have h2 := Z6.out.1.chg.block b hb
          have h1 := HCy.out
          unfold World.cell? at h1 ⊢
          dsimp only at h1 ⊢
          rw [h2]
          exact h1
        dsimp only [Act.put]
        go_cut [31] from 24 to 32 (fun v wc => WS w wc b6 m ∧ Ar wc b8 G)
        case first =>
          go_region_with (fail)
          all_goals go_wp2
          all_goals
            go_meet
            obtain ⟨k0, k1, k2, k3⟩ := Z6.out
            obtain ⟨q0, q1, q2, l⟩ := k0
            refine ⟨⟨q0.drew.setCell (by dsimp only; omega) _, q1.drew.other (by dsimp only; omega) _, q2.drew.other (by dsimp only; omega) _, l⟩, ?_⟩
            rw [HD.out.1] at k1
            have hh := k1.drew.set 0 (.int .u64 r)
            rw [arr_set, HU.out, ← HD.out.2.1] at hh
            exact hh
        case rest =>
          obtain ⟨w7, hw7⟩ : ∃ v, v = wc := ⟨_, rfl⟩
          have Z7 : Hid (WS w w7 b6 m ∧ Ar w7 b8 G) := by rw [hw7]; exact hcut
          rw [← hw7]
          clear hw7 hcut Z6 c8 f8 cy
          obtain ⟨t8, g8⟩ := Z7.out.2
          have sG := HSG.out
          go_wp2_with (first | refine wpList_load_row rfl 50 _ rfl _ rfl _ _ _ _ g8 un49 rfl sG ?_)
          go_at_call 34
          refine (HK.out.2 _).mono ?_
          rintro r' w8 ⟨rfl, hc8⟩
          have Z8 : Hid (WS w w8 b6 m) := Z7.out.1.to hc8
          clear hc8 g8 Z7 sG
          obtain ⟨t6, g6⟩ := Z8.out.r6
          obtain ⟨sX, lX, oX⟩ := HSX.out
          go_wp2_with (first | refine wpList_store_row rfl 34 _ _ rfl _ _ rfl rfl _ _ g6 sX lX oX ?_)
          go_roundw
          case rel =>
            refine ⟨z', by first | rfl | go_num, by have := HZ'.out.1; omega, by have := HZ'.out.1; omega, ?_⟩
            rw [HZ'.out.2, HD.out.2.2]
            exact Z8.out.row _
          case measure =>
            simp [intOf]
            omega
      · have : z = -1 := by omega
        subst this
        rw [show ((-1 : Int) + 1).toNat = 0 from rfl, Int.pow_zero, Int.ediv_one] at Z
        have r6 := rangeN Z.out.r6
        have i6 := infoN (md f V)
        obtain ⟨t4, g4⟩ := Z.out.r4
        have sX := szN (md f V)
        have lX := lenN 0 (md f V)
        have oX := num_one (md f V)
        obtain ⟨P, hP⟩ : ∃ P, P = num (md f V) := ⟨_, rfl⟩
        have HP : Hid (P = num (md f V)) := hP
        rw [← hP] at r6 i6 sX lX oX
        clear hP
        go_wp2_with (first
          | refine wpList_load_mid rfl 34 (.tmp 6) rfl _ _ rfl (P.toList) _ r6 Go.Proofs.Ytiehjhlekpjlaaa.u25 rfl i6 ?_
          | refine wpList_store_row rfl 34 _ _ rfl _ _ rfl rfl _ _ g4 sX lX oX ?_)
        rw [HP.out]
        refine bp_n (x := md f V) Try.results21 rfl rfl ?_ ⟨rfl, Z.out.chg.setRow (by omega) _⟩
        exact Z.out.r4.row _
end Go.Proofs.Ytiehjhlekpjlaaa

namespace Go.Proofs.Ytiehjhlekpjlaaa
open Go.RowKit
set_option linter.unusedVariables false

theorem un36 : Try.prog.underlying 42 = some (.slice 5) := by kernel_rfl
theorem i5y : (Try.prog.info? 5).map (·.size) = some 1 := by kernel_rfl
/-- Bytes laid over others. -/
def ovr (o n : Nat) (x f : Nat → Int) : Nat → Int := fun j => if o ≤ j ∧ j < o + n then x (j - o) else f j
theorem ay_over (N o n : Nat) (x f : Nat → Int) (h : o + n ≤ N) :
    ((arr .u8 N f).toList.take o ++ (arr .u8 n x).toList ++ (arr .u8 N f).toList.drop (o + (arr .u8 n x).toList.length)).toArray = arr .u8 N (ovr o n x f) := by
  have hl : (arr .u8 N f).toList.length = N := by rw [Array.length_toList, arr_size]
  have hx : (arr .u8 n x).toList.length = n := by rw [Array.length_toList, arr_size]
  rw [hx]
  apply Array.ext_getElem?
  intro j
  rw [List.getElem?_toArray]
  by_cases hN : j < N
  · rw [arr_get .u8 N _ hN]
    by_cases h1 : j < o
    · rw [List.append_assoc, List.getElem?_append_left (by rw [List.length_take, hl]; omega), List.getElem?_take, if_pos h1, Array.getElem?_toList, arr_get .u8 N f hN]
      have : ¬ (o ≤ j ∧ j < o + n) := by omega
      simp [ovr, this]
    · by_cases h2 : j < o + n
      · rw [List.getElem?_append_left (by rw [List.length_append, List.length_take, hl, hx]; omega), List.getElem?_append_right (by rw [List.length_take, hl]; omega), List.length_take, hl, Nat.min_eq_left (by omega), Array.getElem?_toList, arr_get .u8 n x (by omega)]
        have : o ≤ j ∧ j < o + n := by omega
        simp [ovr, this]
      · rw [List.getElem?_append_right (by rw [List.length_append, List.length_take, hl, hx]; omega), List.length_append, List.length_take, hl, hx, Nat.min_eq_left (by omega), List.getElem?_drop, Array.getElem?_toList]
        have e : o + n + (j - (o + n)) = j := by omega
        rw [e, arr_get .u8 N f hN]
        have : ¬ (o ≤ j ∧ j < o + n) := by omega
        simp [ovr, this]
  · rw [List.getElem?_eq_none (by simp only [List.length_append, List.length_take, List.length_drop, hl, hx]; omega)]
    simp [arr, hN]

/-- copy, into a row of bytes. -/
theorem run_cpY (w : World) (g N o dl dc b s sl sc n : Nat) (f x : Nat → Int) (hd : Ar w g (arr .u8 N f)) (hs : Bz w b s n x) (hn : n = Nat.min sl dl) (hr : o + n ≤ N) :
    (Builtin.copy_ #[42, 42] 3 #[.slice (some ⟨g, o, none⟩) dl dc, .slice (some ⟨b, s, none⟩) sl sc]).run Try.prog w = .ok (.int .i64 n) (w.setRow g (arr .u8 N (ovr o n x f))) := by
  obtain ⟨t, hg⟩ := hd
  have hl : (arr .u8 n x).toList.length = n := by rw [Array.length_toList, arr_size]
  have := run_copy_row (P := Try.prog) w 42 42 3 5 g o dl dc ⟨b, s, none⟩ sl sc _ t (arr .u8 n x).toList un36 i5y hg (by rw [hl, hn]) (fun j v hv => ?_) (by rw [hl, arr_size]; omega) (fun v hv => (Array.all_eq_true_iff_forall_mem.1 (arr_one .u8 n x)) v (by simpa using hv))
  · rw [this, ay_over N o n x f hr, hl]
    rfl
  · have hadd : (⟨b, s, none⟩ : Addr).add j = ⟨b, s + j, none⟩ := by unfold Addr.add; split <;> simp_all
    have hj : j < n := by
      have := (List.getElem?_eq_some_iff.1 hv).1
      omega
    rw [Array.getElem?_toList, arr_get .u8 n x hj] at hv
    rw [hadd, hs j hj, hv]
/-- The bytes of one piece. -/
theorem piece {V : Int} {n at' l : Nat} (hV : 0 ≤ V ∧ V < 256 ^ n) (hl : l = Nat.min (n - at') 32) (ha : at' ≤ n) : byt (ovr 0 l (fun j => dg 256 V (at' + j)) zD) = byt (dg 256 (V / 256 ^ at')) := arr_congr fun j hj => by
  have hp : (0 : Int) < 256 ^ at' := Int.pow_pos (by decide)
  have e : dg 256 V (at' + j) = dg 256 (V / 256 ^ at') j := by
    unfold dg
    rw [Int.pow_add, Int.ediv_ediv_of_nonneg (by omega)]
  unfold ovr
  by_cases h : j < l
  · rw [if_pos (by omega), Nat.sub_zero]
    exact e
  · rw [if_neg (by omega), ← e]
    unfold dg
    have hn : n ≤ at' + j := by
      have : l = min (n - at') 32 := hl
      omega
    obtain ⟨k, hk⟩ : ∃ k, at' + j = n + k := ⟨at' + j - n, by omega⟩
    have h1 : (1 : Int) ≤ 256 ^ k := Int.pow_pos (by decide)
    have h2 : (256 : Int) ^ n * 1 ≤ 256 ^ n * 256 ^ k := Int.mul_le_mul_of_nonneg_left h1 (Int.le_of_lt (Int.pow_pos (by decide)))
    rw [hk, Int.pow_add, Int.ediv_eq_zero_of_lt hV.1 (by omega)]
    rfl
theorem low32b (x : Int) : val 256 32 (dg 256 x) = x % R256 := by
  rw [val_dg (by decide), show (256 : Int) ^ 32 = R256 from by decide +kernel]
theorem up32 (V : Int) (k : Nat) : V / 256 ^ (32 * k) = V / 256 ^ (32 * k) % R256 + R256 * (V / 256 ^ (32 * (k + 1))) := by
  have hp : (0 : Int) < 256 ^ (32 * k) := Int.pow_pos (by decide)
  rw [show 32 * (k + 1) = 32 * k + 32 by omega, Int.pow_add, ← Int.ediv_ediv_of_nonneg (by omega), show (256 : Int) ^ 32 = R256 from by decide +kernel]
  generalize V / 256 ^ (32 * k) = y
  have := Int.emod_add_mul_ediv y R256
  omega
theorem md_join (f x y : Int) : md f (x + R256 * md f y) = md f (x + R256 * y) := by
  by_cases hf : f = 1 ∨ f = 2 ∨ f = 3 ∨ f = 4
  · rw [md_in hf, md_in hf, md_in hf, Int.add_emod, Int.mul_emod, Int.emod_emod_of_dvd _ (Int.dvd_refl _), ← Int.mul_emod, ← Int.add_emod]
  · rw [md_out hf, md_out hf]
end Go.Proofs.Ytiehjhlekpjlaaa

namespace Go.Proofs.Ytiehjhlekpjlaaa
open Go.RowKit
set_option linter.unusedVariables false

theorem sizeB5 (w : World) : (sizeOf 5).run Try.prog w = .ok 1 w := by
  have h : (Try.prog.info? 5).map (·.size) = some 1 := by kernel_rfl
  cases hq : Try.prog.info? 5 with
  | none => simp [hq] at h
  | some i =>
    rw [hq] at h
    have h : i.size = 1 := Option.some.inj h
    simp [sizeOf, typeInfo, hq, h]
theorem undB5 : Try.prog.underlying 5 = some (.int .u8) := by kernel_rfl
theorem run_partB5 (n : Nat) (f : Nat → Int) {i : Nat} (hi : i < n) (w : World) : (part 5 (arr .u8 n f) i).run Try.prog w = .ok (.int .u8 (f i)) w := by
  simp [part, arr_get .u8 n f hi, Sem.run_bind]
theorem run_eqB {t n : Nat} (hu : Try.prog.underlying t = some (.array n 5)) (hl : List.range' [0:n].start [0:n].size [0:n].step = List.range n) (f g : Nat → Int) (d : Nat) (w : World) : (Op.equalIn (d + 2) t (.agg (arr .u8 n f)) (.agg (arr .u8 n g))).run Try.prog w = .ok ((List.range n).all fun i => f i == g i) w := by
  unfold Op.equalIn
  simp only [Sem.run_bind, run_underlying hu, Result.andThen_ok, sizeB5, Nat.mul_one]
  rw [Std.Legacy.Range.forIn_eq_forIn_range', hl]
  have hm : ∀ i ∈ List.range n, i < n := fun i hi => List.mem_range.1 hi
  generalize List.range n = l at hm
  clear hl
  induction l generalizing w with
  | nil => simp
  | cons i l ih =>
    have hi := hm i (by simp)
    simp only [List.forIn_cons, Sem.run_bind, run_partB5 n f hi, run_partB5 n g hi, Result.andThen_ok, run_equalIn_int _ d 5 .u8 .u8 _ _ undB5]
    cases hc : (f i == g i) with
    | true =>
      simp only [List.all_cons, hc, Bool.true_and, Bool.not_true, Bool.false_eq_true, if_false, Sem.run_pure, Result.andThen_ok]
      exact ih w (fun j hj => hm j (by simp [hj]))
    | false =>
      simp only [List.all_cons, hc, Bool.false_and, Bool.not_false, if_true, Sem.run_pure, Result.andThen_ok]
theorem eqB_self (d : Nat → Int) (w : World) : (Op.equalIn 10000 22 (.agg (byt d)) (.agg (byt d))).run Try.prog w = .ok true w := by
  have := run_eqB (t := 22) (n := 32) (by kernel_rfl) (by decide) d d 9998 w
  rw [show ((List.range 32).all fun i => d i == d i) = true by rw [List.all_eq_true]; exact fun i _ => beq_self_eq_true _] at this
  exact this
/-- The digits of the number of digits. -/
theorem dg_val {d : Nat → Int} (hd : ∀ i, B8 (d i)) {n i : Nat} (hi : i < n) : dg 256 (val 256 n d) i = d i := by
  obtain ⟨h0, h1⟩ := val_b hd n
  have e : val 256 n (dg 256 (val 256 n d)) = val 256 n d := by rw [val_dg (by decide), Int.emod_eq_of_lt h0 h1]
  exact val_inj (B := 256) (by decide) (fun i _ => dg_bound (by decide) _ i) (fun i _ => hd i) e i hi
theorem byt_back {d : Nat → Int} (hd : ∀ i, B8 (d i)) : byt (dg 256 (val 256 32 d)) = byt d := arr_congr fun i hi => dg_val hd hi
theorem byt_tu {d e : Nat → Int} (h : byt d = byt e) : byt (tu d) = byt (tu e) := arr_congr fun i hi => by
  have h1 := arr_get .u8 32 d (show 31 - i < 32 by omega)
  have h2 := arr_get .u8 32 e (show 31 - i < 32 by omega)
  rw [show arr .u8 32 d = arr .u8 32 e from h, h2] at h1
  have h3 := Option.some.inj h1
  injection h3 with _ h4
  exact h4.symm
theorem num_back {x : Int} (hx : N256 x) : num (val 256 32 (dg 256 x)) = num x := by
  rw [low32b, Int.emod_eq_of_lt hx.1 hx.2]
/-- There and back with the last first. -/
theorem be_back {d : Nat → Int} (hd : ∀ i, B8 (d i)) : byt (tu (dg 256 (val 256 32 (tu d)))) = byt d := by
  rw [byt_tu (byt_back (d := tu d) fun i => hd _)]
  exact tu_tu d
/-- What is behind the last byte is nothing. -/
theorem byt_cut {V : Int} {n : Nat} (hV : 0 ≤ V ∧ V < 256 ^ n) (k : Nat) (hk : k = Nat.min n 32) : byt (mixD k (dg 256 V) zD) = byt (dg 256 V) := arr_congr fun i hi => by
  unfold mixD
  by_cases h : i < k
  · rw [if_pos h]
  · rw [if_neg h]
    have hn : n ≤ i := by
      have : k = min n 32 := hk
      omega
    obtain ⟨j, hj⟩ : ∃ j, i = n + j := ⟨i - n, by omega⟩
    have h1 : (1 : Int) ≤ 256 ^ j := Int.pow_pos (by decide)
    have h2 : (256 : Int) ^ n * 1 ≤ 256 ^ n * 256 ^ j := Int.mul_le_mul_of_nonneg_left h1 (Int.le_of_lt (Int.pow_pos (by decide)))
    unfold dg
    rw [hj, Int.pow_add, Int.ediv_eq_zero_of_lt hV.1 (by omega)]
    rfl
end Go.Proofs.Ytiehjhlekpjlaaa

namespace Go.Proofs.Ytiehjhlekpjlaaa
open Go.RowKit
set_option linter.unusedVariables false

theorem join_N512 {a b : Int} (ha : N256 a) (hb : N256 b) : N512 (a + R256 * b) := by
  have hb2 := hb.2
  have h : R256 * b ≤ R256 * (R256 - 1) := Int.mul_le_mul_of_nonneg_left (by omega) (by decide)
  have e : R256 * (R256 - 1) + R256 ≤ R512 := by decide +kernel
  have h0 : 0 ≤ R256 * b := Int.mul_nonneg (by decide) hb.1
  have a0 := ha.1
  have a1 := ha.2
  exact ⟨by omega, by omega⟩
theorem addr_addY (b o p : Nat) : (⟨b, o, none⟩ : Addr).add p = ⟨b, o + p, none⟩ := by unfold Addr.add; split <;> simp_all
theorem run_sliceArrY {t n : Nat} (hu : Try.prog.underlying t = some (.array n 5)) (hn : 0 < n) (b : Nat) (w : World) : (Instr.sliceAt t (.pointer (some ⟨b, 0, none⟩)) none none none).run Try.prog w = .ok (.slice (some ⟨b, 0, none⟩) n n) w := by
  have h6 : ¬ n = 0 := by omega
  simp [go_sem, Instr.sliceAt, Instr.sliceBounds, run_underlying hu, Sem.run_bind]
theorem run_sliceLoY (b o n cap p : Nat) (hp : p ≤ n) (hn : n ≤ cap) (hc : cap ≤ 9223372036854775807) (hne : ¬ cap = p) (w : World) : (Instr.sliceAt 42 (.slice (some ⟨b, o, none⟩) n cap) (some (.int .i64 (p : Int))) none none).run Try.prog w = .ok (.slice (some ⟨b, o + p, none⟩) (n - p) (cap - p)) w := by
  have h1 : (p : Int) ≤ n := by omega
  refine (run_sliceAt_slice w 42 _ _ _ _ (by kernel_rfl)).trans ?_
  simp [Instr.slice, Instr.sliceBounds, Instr.sliceBound, run_underlying un36, asIntOf, Sem.run_bind, hp, hne, addr_addY]

end Go.Proofs.Ytiehjhlekpjlaaa
