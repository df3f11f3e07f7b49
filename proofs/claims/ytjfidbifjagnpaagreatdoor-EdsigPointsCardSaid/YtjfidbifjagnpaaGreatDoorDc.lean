/-
A point's bytes, and the point that bytes tell: plainly.
-/
import Derived.Test.YtjfidbifjagnpaaGreatDoorJt
import Derived.Test.YtjfidbifjagnpaaGreatDoorJr
import Derived.Test.YtjfidbifjagnpaaGreatDoorJq
namespace Go.Proofs.YtjfidbifjagnpaaGreatDoor
set_option linter.unusedVariables false
set_option maxRecDepth 100000
theorem b_lo8 {b : Int} (h : B8 b) : bits .andNot .u8 b 7 = b - b % 8 ∧ bits .and .u8 b 248 = b - b % 8 := by
 have ⟨h0, h1⟩ := h
 obtain ⟨n, rfl⟩ := Int.eq_ofNat_of_zero_le h0
 have hn : n < 256 := by omega
 have := (by decide +kernel : ∀ n : Nat, n < 256 → bits .andNot .u8 (n : Int) 7 = (n : Int) - (n : Int) % 8 ∧ bits .and .u8 (n : Int) 248 = (n : Int) - (n : Int) % 8)
 exact this n hn
theorem b_hi {b : Int} (h : B8 b) : bits .andNot .u8 b 128 = b % 128 ∧ bits .and .u8 b 127 = b % 128 := by
 have ⟨h0, h1⟩ := h
 obtain ⟨n, rfl⟩ := Int.eq_ofNat_of_zero_le h0
 have hn : n < 256 := by omega
 have := (by decide +kernel : ∀ n : Nat, n < 256 → bits .andNot .u8 (n : Int) 128 = (n : Int) % 128 ∧ bits .and .u8 (n : Int) 127 = (n : Int) % 128)
 exact this n hn
theorem b_or {b : Int} (h : 0 ≤ b ∧ b < 128) : bits .or .u8 b 64 = b % 64 + 64 ∧ bits .or .u8 b 128 = b + 128 := by
 have ⟨h0, h1⟩ := h
 obtain ⟨n, rfl⟩ := Int.eq_ofNat_of_zero_le h0
 have hn : n < 128 := by omega
 have := (by decide +kernel : ∀ n : Nat, n < 128 → bits .or .u8 (n : Int) 64 = (n : Int) % 64 + 64 ∧ bits .or .u8 (n : Int) 128 = (n : Int) + 128)
 exact this n hn
theorem b_top {b : Int} (h : B8 b) : (!(bits .and .u8 b 128 == 0)) = decide (128 ≤ b) := by
 have ⟨h0, h1⟩ := h
 obtain ⟨n, rfl⟩ := Int.eq_ofNat_of_zero_le h0
 have hn : n < 256 := by omega
 have := (by decide +kernel : ∀ n : Nat, n < 256 → (!(bits .and .u8 (n : Int) 128 == 0)) = decide (128 ≤ (n : Int)))
 exact this n hn
def cu (e : Nat → Int) : Nat → Int := upd e 31 (e 31 % 128)
theorem cu_8 {e : Nat → Int} (h : ∀ i, B8 (e i)) : ∀ i, B8 (cu e i) := by
 intro i
 have h31 := h 31
 unfold cu upd
 unfold B8 at *
 split
 ·omega
 ·exact h i
def encV (P : Fin pp × Fin pp) : Int := (P.2.val : Int) + (if P.1.val % 2 = 1 then 2 ^ 255 else 0)
def encB (P : Fin pp × Fin pp) : Nat → Int := dg 256 (encV P)
theorem pp_255 : (pp : Int) ≤ 2 ^ 255 := by decide +kernel
theorem val_255 (a : Fin pp) : 0 ≤ (a.val : Int) ∧ (a.val : Int) < 2 ^ 255 := by
 have h := a.isLt
 have h2 := pp_255
 constructor
 ·omega
 ·exact Int.lt_of_lt_of_le (by omega : (a.val : Int) < (pp : Int)) h2
theorem top_lt {V : Int} (h : 0 ≤ V ∧ V < 2 ^ 255) : 0 ≤ dg 256 V 31 ∧ dg 256 V 31 < 128 ∧ dg 256 V 31 = V / 256 ^ 31 := by
 unfold dg
 have e1 : V / 256 ^ 31 < 128 := by
  refine Int.ediv_lt_of_lt_mul (by decide) ?_
  have : (128 : Int) * 256 ^ 31 = 2 ^ 255 := by decide +kernel
  rw [this]
  exact h.2
 have e0 : 0 ≤ V / 256 ^ 31 := Int.ediv_nonneg h.1 (by decide)
 generalize V / 256 ^ 31 = q at *
 omega
theorem dg_hiE {V : Int} (h : 0 ≤ V ∧ V < 2 ^ 255) : byt (upd (dg 256 V) 31 (dg 256 V 31 + 128)) = byt (dg 256 (V + 2 ^ 255)) := by
 have ht := top_lt h
 refine arr_congr fun i hi => ?_
 by_cases e : i = 31
 ·subst e
  rw [upd_same, ht.2.2]
  have e1 : (V + 2 ^ 255) / 256 ^ 31 = V / 256 ^ 31 + 128 := by
   have : (2 : Int) ^ 255 = 128 * 256 ^ 31 := by decide +kernel
   rw [this, Int.add_mul_ediv_right _ _ (by decide)]
  show _ = (V + 2 ^ 255) / 256 ^ 31 % 256
  rw [e1]
  have := ht.1
  have := ht.2.1
  rw [ht.2.2] at *
  omega
 ·rw [upd_ne _ _ e]
  unfold dg
  obtain ⟨k, hk⟩ : ∃ k, 31 = i + (k + 1) := ⟨30 - i, by omega⟩
  have e1 : (2 : Int) ^ 255 = 256 * (128 * 256 ^ k) * 256 ^ i := by
   have e2 : (2 : Int) ^ 255 = 128 * 256 ^ 31 := by decide +kernel
   rw [e2, hk, Int.pow_add, Int.pow_succ]
   generalize (256 : Int) ^ i = a
   generalize (256 : Int) ^ k = b
   rw [Int.mul_comm b 256, Int.mul_comm a, ← Int.mul_assoc 128, ← Int.mul_assoc 128, Int.mul_comm 128 256, Int.mul_assoc 256 128]
  rw [e1, Int.add_mul_ediv_right _ _ (Int.ne_of_gt (Int.pow_pos (by decide))), Int.add_mul_emod_self_left]
theorem odd_dg (a : Fin pp) : (dg 2 (a.val : Int) 0 == 1) = decide (a.val % 2 = 1) := by
 have e : dg 2 (a.val : Int) 0 = ((a.val % 2 : Nat) : Int) := by
  unfold dg
  rw [Int.pow_zero, Int.ediv_one]
  omega
 rw [e]
 rcases Nat.mod_two_eq_zero_or_one a.val with h | h <;> rw [h] <;> rfl
theorem enc_0 {P : Fin pp × Fin pp} (h : ¬ P.1.val % 2 = 1) : byt (dg 256 (P.2.val : Int)) = byt (encB P) := by
 unfold encB encV
 rw [if_neg h, Int.add_zero]
theorem enc_1 {P : Fin pp × Fin pp} (h : P.1.val % 2 = 1) : byt (upd (dg 256 (P.2.val : Int)) 31 (bits .or .u8 (dg 256 (P.2.val : Int) 31) 128)) = byt (encB P) := by
 have ht := top_lt (val_255 P.2)
 rw [(b_or ⟨ht.1, ht.2.1⟩).2, dg_hiE (val_255 P.2)]
 unfold encB encV
 rw [if_pos h]
def od (e : Nat → Int) : Bool := decide (128 ≤ e 31)
def yOf (e : Nat → Int) : Int := val 256 32 (cu e)
def dS (y : Int) : Int := md 1 (md 1 (md 1 (y * y) - 1) * md 1 (md 1 (1 + md 1 ((dN : Int) * md 1 (y * y))) ^ ((mo 1 - 2) % R256).toNat))
def rX (y : Int) : Int := rtN 1 (dS y)
def isX (y : Int) : Bool := rtB 1 (dS y)
def xBit (y : Int) (o : Bool) : Int := if o then md 1 (0 - rX y) else rX y
def xOf (e : Nat → Int) : Int := xBit (yOf e) (od e)
def wi (y : Int) (o : Bool) : Bool := isX y && !(o && decide (rX y = 0))
def tell (e : Nat → Int) : Bool := decide (yOf e < mo 1) && wi (yOf e) (od e)
theorem yOf_N {e : Nat → Int} (h : ∀ i, B8 (e i)) : N256 (yOf e) := N_val (cu_8 h)
theorem rX_N (y : Int) : N256 (rX y) := rtN_N _ _
theorem xBit_N (y : Int) (o : Bool) : N256 (xBit y o) := by unfold xBit; split; exact md_N _ _; exact rX_N y
end Go.Proofs.YtjfidbifjagnpaaGreatDoor
