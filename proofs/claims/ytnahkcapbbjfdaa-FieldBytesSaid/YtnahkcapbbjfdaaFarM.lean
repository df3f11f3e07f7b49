/-
  Columns of a number; how soon the ninth column is nothing. Plain.
-/
import Derived.Test.YtnahkcapbbjfdaaFoldM
import Derived.Shelf.Bits.Mul64
namespace Go.Proofs.Ytnahkcapbbjfdaa
open Go.RowKit
set_option linter.unusedVariables false

theorem B32_pos : (0 : Int) < B32 := by decide

theorem dg_even (x : Int) (m : Nat) : dg B32 x (2 * m) = dg B64 x m % 4294967296 := by
  unfold dg
  have e : B32 ^ (2 * m) = B64 ^ m := by rw [Int.pow_mul]; rfl
  rw [e]
  generalize x / B64 ^ m = y
  unfold B32 B64
  omega
theorem dg_odd (x : Int) (m : Nat) : dg B32 x (2 * m + 1) = dg B64 x m / 4294967296 := by
  unfold dg
  have e : B32 ^ (2 * m + 1) = B64 ^ m * B32 := by rw [Int.pow_succ, Int.pow_mul]; rfl
  have hp := pow_pos' B64_pos m
  rw [e, ← Int.ediv_ediv_of_nonneg (Int.le_of_lt hp)]
  generalize x / B64 ^ m = y
  unfold B32 B64
  omega

theorem mask32 {d : Int} (h : W64 d) : bits .and .u64 d 4294967295 = d % 4294967296 := by
  obtain ⟨n, rfl⟩ := Int.eq_ofNat_of_zero_le h.1
  have := h.2
  rw [Mul64.maskN n (by omega)]
  omega

/-- The columns, as far as they are laid. -/
def colr (x : Int) (i : Nat) : Nat → Int := fun j => if j < i then dg B32 x j else 0

theorem colr_step (x : Int) (i : Nat) {e : Int} (h : e = dg B32 x i) : arr .i64 16 (upd (colr x i) i e) = arr .i64 16 (colr x (i + 1)) := arr_congr fun j _ => by
  by_cases hj : j = i
  · subst hj
    rw [upd_same, h]
    simp [colr]
  · rw [upd_ne _ _ hj]
    have e1 : (j < i) ↔ (j < i + 1) := by omega
    simp only [colr, e1]

theorem val_zeros {B : Int} (n m : Nat) (d : Nat → Int) (h : ∀ j, n ≤ j → d j = 0) : val B (n + m) d = val B n d := by
  rw [val_split]
  have : val B m (fun i => d (n + i)) = val B m (fun _ => 0) := val_congr fun i _ => h _ (by omega)
  rw [this, val_zero]
  omega

theorem colr_val (x : Int) (hx : N512 x) : val B32 16 (colr x 16) = x := by
  have e : val B32 16 (colr x 16) = val B32 16 (dg B32 x) := val_congr fun i hi => by simp [colr, hi]
  rw [e, val_dg B32_pos]
  have p : B32 ^ 16 = R512 := by decide +kernel
  rw [p]
  exact Int.emod_eq_of_lt hx.1 hx.2

theorem colr_bound (x : Int) : Cb 4294967296 (colr x 16) := by
  intro i
  unfold colr
  split
  · have h : 0 ≤ dg B32 x i ∧ dg B32 x i < 4294967296 := dg_bound B32_pos x i
    omega
  · omega

/-- How far the ninth column is from nothing. -/
def Far (m : Nat) (s : Nat → Int) : Prop :=
  (m = 2 ∧ -1024 ≤ s 8 ∧ s 8 ≤ 1024) ∨ (m = 1 ∧ (s 8 = 0 ∨ (s 8 = 1 ∧ val B32 8 s < 1766847064778384329583297500742918515827483896875618958121606201292619776) ∨ (s 8 = -1 ∧ 115790322390251417039241401711187164934754157181743688420499462401711837020160 ≤ val B32 8 s))) ∨ (m = 0 ∧ s 8 = 0)

theorem val9 (s : Nat → Int) : val B32 9 s = val B32 8 s + s 8 * 115792089237316195423570985008687907853269984665640564039457584007913129639936 := by
  rw [val1]
  have : B32 ^ 8 = 115792089237316195423570985008687907853269984665640564039457584007913129639936 := by decide
  rw [this]

theorem val8b {s : Nat → Int} (h : ∀ j, j < 8 → 0 ≤ s j ∧ s j < 4294967296) : 0 ≤ val B32 8 s ∧ val B32 8 s < 115792089237316195423570985008687907853269984665640564039457584007913129639936 := by
  have := val_bound B32_pos (d := s) (n := 8) (fun i hi => h i hi)
  have e : B32 ^ 8 = 115792089237316195423570985008687907853269984665640564039457584007913129639936 := by decide
  rw [e] at this
  exact this

theorem far_start {c s : Nat → Int} (hc : Cb 1099511627776 c) (hc8 : c 8 = 0) (hs : Settled c s 8) : Far 2 s := by
  refine .inl ⟨rfl, ?_⟩
  have hv := hs.value
  have b := val8b hs.low
  rw [val9, val9, hc8] at hv
  have e : val B32 8 c = c 0 + c 1 * 4294967296 + c 2 * 18446744073709551616 + c 3 * 79228162514264337593543950336 + c 4 * 340282366920938463463374607431768211456 + c 5 * 1461501637330902918203684832716283019655932542976 + c 6 * 6277101735386680763835789423207666416102355444464034512896 + c 7 * 26959946667150639794667015087019630673637144422540572481103610249216 := by
    simp [val, B32]
  have h0 := hc 0
  have h1 := hc 1
  have h2 := hc 2
  have h3 := hc 3
  have h4 := hc 4
  have h5 := hc 5
  have h6 := hc 6
  have h7 := hc 7
  rw [e] at hv
  omega

theorem far_next {m : Nat} {s s' : Nat → Int} (hf : Far m s) (h8 : s 8 ≠ 0) (hl : ∀ j, j < 8 → 0 ≤ s j ∧ s j < 4294967296) (hs : Settled (fold s 8) s' 8) : ∃ m', m' < m ∧ Far m' s' := by
  have hv := hs.value
  have b := val8b hl
  have b' := val8b hs.low
  rw [show (8 : Nat) = 0 + 8 from rfl, fold_val s 0 9 (by omega), val9, val9, Int.pow_zero, mo2] at hv
  simp only [Nat.zero_add, Int.mul_one] at hv
  rcases hf with ⟨rfl, h1, h2⟩ | ⟨rfl, h1⟩ | ⟨rfl, h1⟩
  · refine ⟨1, by omega, .inr (.inl ⟨rfl, ?_⟩)⟩
    omega
  · refine ⟨0, by omega, .inr (.inr ⟨rfl, ?_⟩)⟩
    omega
  · exact absurd h1 h8
end Go.Proofs.Ytnahkcapbbjfdaa
