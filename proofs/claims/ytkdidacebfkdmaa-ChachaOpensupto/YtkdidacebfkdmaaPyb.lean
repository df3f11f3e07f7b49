/-
  A number's bytes, out of digits of 26 bits: plain.
-/
import Derived.Test.YtkdidacebfkdmaaPy
namespace Go.Proofs.Ytkdidacebfkdmaa
set_option linter.unusedVariables false

theorem five_of {e : Nat → Int} (hb : ∀ k, k < 5 → 0 ≤ e k ∧ e k < 67108864) : (0 ≤ e 0 ∧ e 0 < 67108864) ∧ (0 ≤ e 1 ∧ e 1 < 67108864) ∧ (0 ≤ e 2 ∧ e 2 < 67108864) ∧ (0 ≤ e 3 ∧ e 3 < 67108864) ∧ (0 ≤ e 4 ∧ e 4 < 67108864) :=
  ⟨hb 0 (by decide), hb 1 (by decide), hb 2 (by decide), hb 3 (by decide), hb 4 (by decide)⟩
theorem by_low {e : Nat → Int} (hb : ∀ k, k < 5 → 0 ≤ e k ∧ e k < 67108864) {i : Nat} (hi : i < 16) (hr : 8 * i % 26 ≤ 18) : e (8 * i / 26) / 2 ^ (8 * i % 26) % 256 = val (67108864 : Int) 5 e / 256 ^ i % 256 := by
  obtain ⟨b0, b1, b2, b3, b4⟩ := five_of hb
  rw [val5]
  clear hb
  have h : i = 0 ∨ i = 1 ∨ i = 2 ∨ i = 4 ∨ i = 5 ∨ i = 7 ∨ i = 8 ∨ i = 10 ∨ i = 11 ∨ i = 12 ∨ i = 13 ∨ i = 14 ∨ i = 15 := by omega
  clear hi hr
  rcases h with rfl | rfl | rfl | rfl | rfl | rfl | rfl | rfl | rfl | rfl | rfl | rfl | rfl <;> simp only [Nat.reduceMul, Nat.reduceMod, Nat.reduceDiv, Int.reducePow] <;> omega
theorem by_high {e : Nat → Int} (hb : ∀ k, k < 5 → 0 ≤ e k ∧ e k < 67108864) {i : Nat} (hi : i < 16) (hr : 18 < 8 * i % 26) : e (8 * i / 26) / 2 ^ (8 * i % 26) < 2 ^ (26 - 8 * i % 26) ∧ e (8 * i / 26 + 1) * 2 ^ (26 - 8 * i % 26) % 256 % 2 ^ (26 - 8 * i % 26) = 0 ∧ e (8 * i / 26) / 2 ^ (8 * i % 26) + e (8 * i / 26 + 1) * 2 ^ (26 - 8 * i % 26) % 256 = val (67108864 : Int) 5 e / 256 ^ i % 256 := by
  obtain ⟨b0, b1, b2, b3, b4⟩ := five_of hb
  rw [val5]
  clear hb
  have h : i = 3 ∨ i = 6 ∨ i = 9 := (by decide : ∀ i, i < 16 → 18 < 8 * i % 26 → i = 3 ∨ i = 6 ∨ i = 9) i hi hr
  clear hi hr
  rcases h with rfl | rfl | rfl <;> simp only [Nat.reduceMul, Nat.reduceMod, Nat.reduceDiv, Nat.reduceSub, Nat.reduceAdd, Int.reducePow] <;> omega
/-- A number's bytes. -/
def byF (v : Int) : Nat → By := fun i => BitVec.ofNat 8 (v / 256 ^ i % 256).toNat
theorem byF_num (v : Int) (i : Nat) : ((byF v i).toNat : Int) = v / 256 ^ i % 256 := by
  unfold byF
  rw [BitVec.toNat_ofNat]
  omega
end Go.Proofs.Ytkdidacebfkdmaa
