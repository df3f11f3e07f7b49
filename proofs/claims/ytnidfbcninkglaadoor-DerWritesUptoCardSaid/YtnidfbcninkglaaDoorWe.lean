/-
  Decimals, plainly: one way to write a number.
-/
import Derived.Test.YtnidfbcninkglaaDoorOx
namespace Go.Proofs.YtnidfbcninkglaaDoor
set_option linter.unusedVariables false
set_option maxRecDepth 100000

def isDg (b : UInt8) : Bool := decide (48 ≤ b.toNat) && decide (b.toNat ≤ 57)
def valF (n : Nat) (l : List UInt8) : Nat := l.foldl (fun n b => 10 * n + (b.toNat - 48)) n
def valD (l : List UInt8) : Nat := valF 0 l
/-- Digits, no nought ahead. -/
def canD (l : List UInt8) : Bool := !l.isEmpty && l.all isDg && (decide (l.length = 1) || !(l.head? == some 48))
def dgt (n : Nat) : UInt8 := UInt8.ofNat (48 + n)
theorem valD_snoc (l : List UInt8) (b : UInt8) : valD (l ++ [b]) = 10 * valD l + (b.toNat - 48) := by simp [valD, valF]
theorem valF_ge : ∀ (l : List UInt8) (n : Nat), n ≤ valF n l
  | [], n => Nat.le_refl _
  | b :: l, n => by
    have := valF_ge l (10 * n + (b.toNat - 48))
    show n ≤ valF (10 * n + (b.toNat - 48)) l
    omega
theorem dgt_nat {n : Nat} (h : n < 10) : (dgt n).toNat = 48 + n := by unfold dgt; simp; omega
theorem dgt_is {n : Nat} (h : n < 10) : isDg (dgt n) = true := by unfold isDg; rw [dgt_nat h]; simp; omega
theorem dgt_of {b : UInt8} (h : isDg b = true) : dgt (b.toNat - 48) = b := by
  unfold isDg at h
  simp at h
  unfold dgt
  rw [show 48 + (b.toNat - 48) = b.toNat by omega]
  simp
theorem dec_small {n : Nat} (h : n < 10) : Lib.decDigits n = [dgt n] := Lib.decDigits_one h
theorem dec_great {n : Nat} (h : ¬ n < 10) : Lib.decDigits n = Lib.decDigits (n / 10) ++ [dgt (n % 10)] := by rw [Lib.decDigits, dif_neg h]; rfl
theorem dec_val (n : Nat) : valD (Lib.decDigits n) = n := by
  induction n using Nat.strongRecOn with
  | _ n ih =>
    by_cases h : n < 10
    · rw [dec_small h]
      show 10 * 0 + ((dgt n).toNat - 48) = n
      rw [dgt_nat h]
      omega
    · rw [dec_great h, valD_snoc, ih (n / 10) (by omega), dgt_nat (by omega)]
      omega
theorem dec_ne (n : Nat) : Lib.decDigits n ≠ [] := by
  by_cases h : n < 10
  · rw [dec_small h]; simp
  · rw [dec_great h]; simp
theorem dec_all (n : Nat) : (Lib.decDigits n).all isDg = true := by
  induction n using Nat.strongRecOn with
  | _ n ih =>
    by_cases h : n < 10
    · rw [dec_small h]
      simp [dgt_is h]
    · rw [dec_great h, List.all_append, ih (n / 10) (by omega)]
      simp [dgt_is (show n % 10 < 10 by omega)]
theorem dec_head (n : Nat) (h : 0 < n) : (Lib.decDigits n).head? ≠ some 48 := by
  induction n using Nat.strongRecOn with
  | _ n ih =>
    by_cases h10 : n < 10
    · rw [dec_small h10]
      intro e
      have e2 : dgt n = 48 := by simpa using e
      have := congrArg UInt8.toNat e2
      rw [dgt_nat h10] at this
      have h48 : (48 : UInt8).toNat = 48 := rfl
      omega
    · have hi := ih (n / 10) (by omega) (by omega)
      rw [dec_great h10]
      cases hd : Lib.decDigits (n / 10) with
      | nil => exact absurd hd (dec_ne _)
      | cons a b => rw [hd] at hi; simpa using hi
theorem dec_can (n : Nat) : canD (Lib.decDigits n) = true := by
  unfold canD
  rw [dec_all]
  by_cases h : n = 0
  · subst h
    rw [dec_small (by omega)]
    rfl
  · have h1 := dec_head n (by omega)
    have h2 := dec_ne n
    simp [h1, h2]
theorem val_pos {b : UInt8} {l : List UInt8} (h : isDg b = true) (h2 : b ≠ 48) : 1 ≤ valD (b :: l) := by
  have := valF_ge l (10 * 0 + (b.toNat - 48))
  have h3 : valD (b :: l) = valF (10 * 0 + (b.toNat - 48)) l := rfl
  unfold isDg at h
  simp at h
  have h4 : b.toNat ≠ 48 := fun e => h2 (UInt8.toNat_inj.1 e)
  omega
theorem dec_back (n : Nat) : ∀ (l : List UInt8), l.length = n → canD l = true → Lib.decDigits (valD l) = l := by
  induction n with
  | zero => intro l hl hc; rw [List.eq_nil_of_length_eq_zero hl] at hc; cases hc
  | succ n ih =>
    intro l hl hc
    have hne : l ≠ [] := by rintro rfl; cases hl
    have hs := (List.dropLast_concat_getLast hne).symm
    obtain ⟨m, hm⟩ : ∃ m, m = l.dropLast := ⟨_, rfl⟩
    obtain ⟨b, hb⟩ : ∃ b, b = l.getLast hne := ⟨_, rfl⟩
    rw [← hm, ← hb] at hs
    clear hm hb
    subst hs
    have hml : m.length = n := by simpa using hl
    unfold canD at hc
    simp only [Bool.and_eq_true, List.all_append, Bool.or_eq_true, decide_eq_true_eq, Bool.not_eq_true'] at hc
    obtain ⟨⟨-, h1, h2⟩, h3⟩ := hc
    have hbd : isDg b = true := by simpa using h2
    have hb2 : 48 ≤ b.toNat ∧ b.toNat ≤ 57 := by unfold isDg at hbd; simpa using hbd
    rw [valD_snoc]
    cases m with
    | nil =>
      show Lib.decDigits (10 * 0 + (b.toNat - 48)) = _
      rw [dec_small (by omega), show 10 * 0 + (b.toNat - 48) = b.toNat - 48 by omega, dgt_of hbd]
      rfl
    | cons a r =>
      have ha : isDg a = true := by rw [List.all_cons] at h1; exact (Bool.and_eq_true _ _ ▸ h1).1
      have ha48 : a ≠ 48 := by
        rcases h3 with h3 | h3
        · simp at h3
        · intro e
          rw [e] at h3
          simp at h3
      have hv := val_pos (l := r) ha ha48
      have hc2 : canD (a :: r) = true := by
        unfold canD
        rw [h1]
        simp [ha48]
      rw [dec_great (by omega), show (10 * valD (a :: r) + (b.toNat - 48)) / 10 = valD (a :: r) by omega, ih _ hml hc2, show (10 * valD (a :: r) + (b.toNat - 48)) % 10 = b.toNat - 48 by omega, dgt_of hbd]
theorem dec_nodot (n : Nat) : ∀ b ∈ Lib.decDigits n, b ≠ 46 := fun b hb e => by
  have := List.all_eq_true.1 (dec_all n) b hb
  rw [e] at this
  cases this
end Go.Proofs.YtnidfbcninkglaaDoor
