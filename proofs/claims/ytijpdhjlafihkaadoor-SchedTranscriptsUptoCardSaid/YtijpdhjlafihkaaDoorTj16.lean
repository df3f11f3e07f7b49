/-
  A key's block, and the code of bytes under a key, as plain lists; a digest that begins with a key's block.
-/
import Derived.Test.YtijpdhjlafihkaaDoorTj15
import Derived.Deep.CutBlock
namespace Go.Proofs.YtijpdhjlafihkaaDoor
open Go.RowKit
set_option linter.unusedVariables false
set_option maxRecDepth 100000

/-- The bytes of a sum. -/
def sumL (q : Int) (xs : List Int) : List Int := (List.range (sizeOfH q)).map (sumByte q (sumSt q xs))
/-- What a key counts by: itself, or its sum. -/
def keyOf (q : Int) (key : List Int) : List Int := if blockOf q < key.length then sumL q key else key
/-- A block of the key, each byte XORed. -/
def blkF (q : Int) (key : List Int) (x : Int) (j : Nat) : Int := Go.bits .xor .u8 (gd (keyOf q key) j) x
def blkK (q : Int) (key : List Int) (x : Int) : List Int := (List.range (blockOf q)).map (blkF q key x)
/-- The code of bytes under a key. -/
def macL (q : Int) (key msg : List Int) : List Int := sumL q (blkK q key 92 ++ sumL q (blkK q key 54 ++ msg))

theorem sumL_len (q : Int) (xs : List Int) : (sumL q xs).length = sizeOfH q := by simp [sumL]
theorem keyOf_len (q : Int) (hv : Valid q) (key : List Int) : (keyOf q key).length ≤ blockOf q := by
  unfold keyOf
  split
  · rw [sumL_len]
    rcases hv with rfl | rfl | rfl <;> decide
  · omega
theorem blkK_len (q : Int) (key : List Int) (x : Int) : (blkK q key x).length = blockOf q := by simp [blkK]

/-- A block of bytes, as a slice that can be read. -/
theorem Rd.ofArr {w : World} {b n : Nat} {f : Nat → Int} (h : Ar w b (arr .u8 n f)) (hn : n ≤ 1000000) : Ap.Rd w (.slice (some ⟨b, 0, none⟩) n n) ((List.range n).map f) := by
  refine ⟨_, _, _, rfl, by simp, Nat.le_refl _, Nat.le_trans hn (by decide), (fun e => absurd e (by simp)), fun y e j u hj => ?_⟩
  injection e with e
  subst e
  have hjn : j < n := by
    rcases Nat.lt_or_ge j n with hj' | hj'
    · exact hj'
    · rw [List.getElem?_eq_none (by simpa using hj')] at hj
      cases hj
  have ha : (⟨b, 0, none⟩ : Addr).add j = ⟨b, 0 + j, none⟩ := by unfold Addr.add; split <;> simp_all
  rw [ha, Nat.zero_add]
  rw [List.getElem?_map, List.getElem?_range hjn] at hj
  simp only [Option.map_some, Option.some.injEq] at hj
  rw [← hj]
  exact (h.cell j).trans (arr_get .u8 n f hjn)
theorem Rd.sl {w : World} {v : Value} {xs : List Int} (h : Ap.Rd w v xs) (hl : xs.length < 4611686018427387904) (D : Nat) (hD : v.ownBlock ≠ some D) : Sl w D v xs := by
  rcases Rd.slA h hl with k | k | ⟨b, o, cap, k1, k2, k3, k4⟩
  · exact .inl k
  · exact .inr (.inl k)
  · refine .inr (.inr ⟨b, o, cap, k1, k2, k3, k4, fun e => hD ?_⟩)
    rw [k1, e]
    rfl
theorem size_le (q : Int) : sizeOfH q ≤ 64 := by
  unfold sizeOfH
  split
  · omega
  · split
    · omega
    · split <;> omega

theorem Cb.row {b : Nat} {v w : World} (h : Cb b v w) (c : Array Value) : Cb b v (w.setRow b c) :=
  ⟨h.os, h.tape, h.output, by simp [World.setRow]; exact h.size, fun k hk hb => (setRow_other _ _ _ _ hb).trans (h.block k hk hb)⟩
/-- copy, into a block of noughts. -/
theorem run_cpB (w : World) (Bb B : Nat) (v : Value) (ys : List Int) (hb : Ar w Bb (arr .u8 B fun _ => 0)) (hr : Ap.Rd w v ys) (hl : ys.length ≤ B) :
    ∃ w', (Builtin.copy_ #[23, 23] 3 #[.slice (some ⟨Bb, 0, none⟩) B B, v]).run Tryd.prog w = .ok (.int .i64 ys.length) w' ∧ Ar w' Bb (arr .u8 B (gd ys)) ∧ Cb Bb w w' := by
  obtain ⟨ao, n, c, rfl, hn, hc, hmx, h0, hx⟩ := hr
  cases ao with
  | none =>
    have hc0 := h0 rfl
    subst hc0
    have hn0 : n = 0 := by omega
    subst hn0
    have hy : ys = [] := List.length_eq_zero_iff.1 hn.symm
    subst hy
    refine ⟨w, run_cpNil w Bb 0 B B, ?_, (Chg.refl w).cb Bb⟩
    exact hb
  | some x =>
    obtain ⟨t, hg⟩ := hb
    have := run_copy_row (P := Tryd.prog) w 23 23 3 5 Bb 0 B B x n c _ t (ys.map (Value.int .u8)) u23 i5 hg (by rw [List.length_map, ← hn]; exact (Nat.min_eq_left (by omega)).symm) (fun j v hv => ?_) (by rw [arr_size]; simp; omega) (fun v hv => ?_)
    · have e : ((arr .u8 B fun _ => 0).toList.take 0 ++ ys.map (Value.int .u8) ++ (arr .u8 B fun _ => 0).toList.drop (0 + (ys.map (Value.int .u8)).length)).toArray = arr .u8 B (gd ys) := by
        unfold arr
        congr 1
        apply List.ext_getElem?
        intro j
        simp only [List.take_zero, List.nil_append, Nat.zero_add, List.length_map]
        by_cases hj : j < ys.length
        · rw [List.getElem?_append_left (by simpa using hj), List.getElem?_map, List.getElem?_map, List.getElem?_range (by omega), List.getElem?_eq_getElem hj]
          simp [gd, List.getD_eq_getElem?_getD, List.getElem?_eq_getElem hj]
        · rw [List.getElem?_append_right (by simp; omega), List.getElem?_drop, List.getElem?_map, List.getElem?_map]
          rw [show ys.length + (j - (ys.map (Value.int .u8)).length) = j by simp; omega]
          by_cases hjB : j < B
          · rw [List.getElem?_range hjB]
            simp [gd, List.getD_eq_getElem?_getD, List.getElem?_eq_none (show ys.length ≤ j by omega)]
          · rw [List.getElem?_eq_none (by simpa using hjB)]
            rfl
      rw [e] at this
      refine ⟨_, ?_, Ar.row ⟨t, hg⟩ _, Cb.row ((Chg.refl w).cb Bb) _⟩
      rw [this]
      simp [goInt]
    · rw [List.getElem?_map] at hv
      cases hq : ys[j]? with
      | none => rw [hq] at hv; cases hv
      | some u =>
        rw [hq] at hv
        injection hv with hv
        rw [← hv]
        exact hx x rfl j u hq
    · obtain ⟨y, _, rfl⟩ := List.mem_map.1 hv
      rfl
end Go.Proofs.YtijpdhjlafihkaaDoor
