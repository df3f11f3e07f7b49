/-
  The code of a text, plain: pieces, one by one, modulo 2^130 - 5.
-/
import Derived.Test.YtkdidacebfkdmaaNum6
namespace Go.Proofs.Ytkdidacebfkdmaa
open Go.RowKit
set_option linter.unusedVariables false

/-- How many bytes the piece of this number has. -/
def pcL (n m : Nat) : Nat := min 16 (n - 16 * m)
/-- The number of a piece and a byte 1 behind it. -/
def pcN (txt : Nat → By) (n m : Nat) : Int := val 256 (pcL n m) (nmF fun j => txt (16 * m + j)) + 256 ^ pcL n m
def rK (key : Nat → By) : Int := val 256 16 (nmF (clF key))
def sK (key : Nat → By) : Int := val 256 16 (nmF fun j => key (16 + j))
/-- The sum behind so many pieces. -/
def pac (r : Int) (txt : Nat → By) (n : Nat) : Nat → Int
  | 0 => 0
  | m + 1 => (pac r txt n m + pcN txt n m) * r % (1361129467683753853853498429727072845819 : Int)
def polN (key txt : Nat → By) (n : Nat) : Int := pac (rK key) txt n ((n + 15) / 16) + sK key
/-- The code. -/
def polF (key txt : Nat → By) (n : Nat) : Nat → By := byF (polN key txt n)

theorem mk_val (f : Nat → By) {l : Nat} (hl : l ≤ 16) : ∀ k, l < k → k ≤ 17 → val 256 k (nmF (mkF f l)) = val 256 l (nmF f) + 256 ^ l := by
  intro k hk
  induction k with
  | zero => omega
  | succ k ih =>
    intro h17
    rw [val1]
    by_cases h : k = l
    · subst h
      have e1 : val 256 k (nmF (mkF f k)) = val 256 k (nmF f) := val_congr fun i hi => by unfold nmF mkF; rw [if_pos hi]
      have e2 : nmF (mkF f k) k = 1 := by unfold nmF mkF; simp
      rw [e1, e2, Int.one_mul]
    · have e2 : nmF (mkF f l) k = 0 := by unfold nmF mkF; rw [if_neg (by omega), if_neg h]; rfl
      rw [ih (by omega) (by omega), e2, Int.zero_mul, Int.add_zero]
theorem pow_le16 {l : Nat} (hl : l ≤ 16) : (256 : Int) ^ l ≤ 340282366920938463463374607431768211456 := by
  have h := Int.ofNat_le.2 (Nat.pow_le_pow_right (n := 256) (by decide) hl)
  rw [Int.natCast_pow] at h
  refine Int.le_trans h (Int.le_of_eq ?_)
  rfl
theorem piece_val (f : Nat → By) {l : Nat} (hl : l ≤ 16) : val 256 17 (nmF (mkF f l)) = val 256 l (nmF f) + 256 ^ l ∧ 0 ≤ val 256 l (nmF f) + 256 ^ l ∧ val 256 l (nmF f) + 256 ^ l < 1361129467683753853853498429727072845824 := by
  have h1 := mk_val f hl 17 (by omega) (Nat.le_refl _)
  have h2 := val_bound (B := 256) (by decide) (n := l) (d := nmF f) (fun i _ => nmF_bound f i)
  have h3 := pow_le16 hl
  have h4 : (0 : Int) < 256 ^ l := Int.pow_pos (by decide)
  exact ⟨h1, by omega, by omega⟩
theorem half_val (f : Nat → By) (h : f 16 = 0#8) : val 256 17 (nmF f) = val 256 16 (nmF f) ∧ val 256 17 (nmF f) < 1361129467683753853853498429727072845824 := by
  have e : val 256 17 (nmF f) = val 256 16 (nmF f) := by
    rw [val1]
    have : nmF f 16 = 0 := by unfold nmF; rw [h]; rfl
    rw [this, Int.zero_mul, Int.add_zero]
  have h2 := val_bound (B := 256) (by decide) (n := 16) (d := nmF f) (fun i _ => nmF_bound f i)
  have h3 : (256 : Int) ^ 16 = 340282366920938463463374607431768211456 := rfl
  rw [h3] at h2
  exact ⟨e, by omega⟩
theorem first_val (key : Nat → By) : val (67108864 : Int) 5 (noF (clF key)) = rK key ∧ ∀ i, i < 5 → 0 ≤ noF (clF key) i ∧ noF (clF key) i < 67108864 := by
  have h := half_val (clF key) (by unfold clF; rw [if_neg (by decide)])
  have h2 := noF_val h.2
  exact ⟨h2.1.trans h.1, h2.2⟩
theorem second_val (key : Nat → By) : val (67108864 : Int) 5 (noF (half key 16)) = sK key ∧ ∀ i, i < 5 → 0 ≤ noF (half key 16) i ∧ noF (half key 16) i < 67108864 := by
  have h := half_val (half key 16) (by unfold half; rw [if_neg (by decide)])
  have h2 := noF_val h.2
  refine ⟨(h2.1.trans h.1).trans (val_congr fun i hi => ?_), h2.2⟩
  unfold nmF half
  rw [if_pos hi]

/-- One piece more. -/
def nxF (r s : Nat → Int) (f : Nat → By) (l : Nat) : Nat → Int := prF (addF s (noF (mkF f l))) r
theorem nx_ok {key : Nat → By} {s : Nat → Int} {f : Nat → By} {l : Nat} (hs : Sm s) (hl : l ≤ 16) :
    (∀ i, i < 5 → 0 ≤ addF s (noF (mkF f l)) i ∧ addF s (noF (mkF f l)) i ≤ 268435456) ∧ (∀ i, i < 5 → 0 ≤ noF (clF key) i ∧ noF (clF key) i ≤ 67108864) ∧ Sm (nxF (noF (clF key)) s f l) ∧
    val (67108864 : Int) 5 (nxF (noF (clF key)) s f l) % (1361129467683753853853498429727072845819 : Int) = (val (67108864 : Int) 5 s % (1361129467683753853853498429727072845819 : Int) + (val 256 l (nmF f) + 256 ^ l)) * rK key % (1361129467683753853853498429727072845819 : Int) := by
  have hp := piece_val f hl
  have hn := noF_val (f := mkF f l) (by rw [hp.1]; exact hp.2.2)
  have hf := first_val key
  have h1 : ∀ i, i < 5 → 0 ≤ addF s (noF (mkF f l)) i ∧ addF s (noF (mkF f l)) i ≤ 268435456 := fun i hi => by
    have a1 := hs.le hi
    have a2 := hn.2 i hi
    unfold addF
    omega
  have h2 : ∀ i, i < 5 → 0 ≤ noF (clF key) i ∧ noF (clF key) i ≤ 67108864 := fun i hi => by
    have := hf.2 i hi
    omega
  refine ⟨h1, h2, prF_sm h1 h2, ?_⟩
  unfold nxF
  rw [prF_mod, hf.1]
  have e : val (67108864 : Int) 5 (addF s (noF (mkF f l))) = val (67108864 : Int) 5 s + (val 256 l (nmF f) + 256 ^ l) := by
    rw [← hp.1, ← hn.1]
    exact val_add 5 s _
  rw [e]
  conv => lhs; rw [Int.mul_emod, Int.add_emod]
  conv => rhs; rw [Int.mul_emod, Int.add_emod, Int.emod_emod]
theorem byF_mod (v : Int) {i : Nat} (hi : i < 16) : byF (v % 1361129467683753853853498429727072845824) i = byF v i := by
  apply BitVec.eq_of_toNat_eq
  have h1 := byF_num (v % 1361129467683753853853498429727072845824) i
  have h2 := byF_num v i
  have h3 : v % 1361129467683753853853498429727072845824 / 256 ^ i % 256 = v / 256 ^ i % 256 := by
    clear h1 h2
    have h : i = 0 ∨ i = 1 ∨ i = 2 ∨ i = 3 ∨ i = 4 ∨ i = 5 ∨ i = 6 ∨ i = 7 ∨ i = 8 ∨ i = 9 ∨ i = 10 ∨ i = 11 ∨ i = 12 ∨ i = 13 ∨ i = 14 ∨ i = 15 := by omega
    clear hi
    rcases h with rfl | rfl | rfl | rfl | rfl | rfl | rfl | rfl | rfl | rfl | rfl | rfl | rfl | rfl | rfl | rfl <;> simp only [Int.reducePow] <;> omega
  omega
/-- The end: what the program's last calls make. -/
theorem end_ok {key : Nat → By} {s : Nat → Int} {a : Int} (hs : Sm s) (ha : val (67108864 : Int) 5 s % (1361129467683753853853498429727072845819 : Int) = a) :
    (∀ i, i < 5 → 0 ≤ s i ∧ s i ≤ 4294967295) ∧ (∀ i, i < 5 → 0 ≤ leF s i ∧ leF s i ≤ 4294967296) ∧ (∀ i, i < 5 → 0 ≤ noF (half key 16) i ∧ noF (half key 16) i ≤ 4294967296) ∧
    (∀ i, i < 5 → 0 ≤ addF (leF s) (noF (half key 16)) i ∧ addF (leF s) (noF (half key 16)) i ≤ 4611686018427387904) ∧ ba 16 (byF (val (67108864 : Int) 5 (crD (addF (leF s) (noF (half key 16)))))) = ba 16 (byF (a + sK key)) := by
  have hl := leF_val hs
  have h2 := second_val key
  refine ⟨fun i hi => by have := hs.le hi; omega, fun i hi => by have := hl.2 i hi; omega, fun i hi => by have := h2.2 i hi; omega, fun i hi => by have a1 := hl.2 i hi; have a2 := h2.2 i hi; unfold addF; omega, ba_congr fun i hi => ?_⟩
  have hv : val (67108864 : Int) 5 (addF (leF s) (noF (half key 16))) = a + sK key := by
    rw [← ha, ← hl.1, ← h2.1]
    exact val_add 5 _ _
  have hc := cr5 (addF (leF s) (noF (half key 16)))
  have hb := crD_val (addF (leF s) (noF (half key 16)))
  have e : val (67108864 : Int) 5 (crD (addF (leF s) (noF (half key 16)))) = (a + sK key) % 1361129467683753853853498429727072845824 := by
    rw [← hv, ← hc, Int.add_mul_emod_self_right, Int.emod_eq_of_lt hb.1 hb.2]
  rw [e, byF_mod _ hi]
theorem sm_zero : Sm zI := ⟨⟨Int.le_refl _, by decide⟩, fun i _ _ => ⟨Int.le_refl _, (by decide : (0 : Int) < 67108864)⟩⟩
theorem val_zI : val (67108864 : Int) 5 zI = 0 := val_zero 5
end Go.Proofs.Ytkdidacebfkdmaa
