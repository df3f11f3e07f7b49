/-
  Columns brought down: what becomes of their value, and of their bounds. Plain.
-/
import Derived.Test.YtnahkcapbbjfdaaLow
namespace Go.Proofs.Ytnahkcapbbjfdaa
open Go.RowKit
set_option linter.unusedVariables false

theorem mo2 : mo 2 = 115792089210356248762697446949407573530086143415290314195533631308867097853951 := rfl

theorem fold_eq (c : Nat → Int) (q : Nat) : fold c (q + 8) = upd (upd (upd (upd (upd c (q + 8) 0) (q + 7) (c (q + 7) + c (q + 8))) (q + 6) (c (q + 6) - c (q + 8))) (q + 3) (c (q + 3) - c (q + 8))) q (c q + c (q + 8)) := by
  have e1 : q + 8 - 1 = q + 7 := by omega
  have e2 : q + 8 - 2 = q + 6 := by omega
  have e3 : q + 8 - 5 = q + 3 := by omega
  have e4 : q + 8 - 8 = q := by omega
  unfold fold
  rw [e1, e2, e3, e4]
  simp [upd]

theorem fold_val (c : Nat → Int) (q n : Nat) (h : q + 8 < n) : val B32 n (fold c (q + 8)) = val B32 n c - c (q + 8) * B32 ^ q * mo 2 := by
  rw [fold_eq]
  rw [val_upd_in _ _ (by omega), val_upd_in _ _ (by omega), val_upd_in _ _ (by omega), val_upd_in _ _ (by omega), val_upd_in _ _ (by omega)]
  rw [upd_ne _ _ (show q ≠ q + 3 by omega), upd_ne _ _ (show q ≠ q + 6 by omega), upd_ne _ _ (show q ≠ q + 7 by omega), upd_ne _ _ (show q ≠ q + 8 by omega)]
  rw [upd_ne _ _ (show q + 3 ≠ q + 6 by omega), upd_ne _ _ (show q + 3 ≠ q + 7 by omega), upd_ne _ _ (show q + 3 ≠ q + 8 by omega)]
  rw [upd_ne _ _ (show q + 6 ≠ q + 7 by omega), upd_ne _ _ (show q + 6 ≠ q + 8 by omega), upd_ne _ _ (show q + 7 ≠ q + 8 by omega)]
  rw [Int.pow_add B32 q 8, Int.pow_add B32 q 7, Int.pow_add B32 q 6, Int.pow_add B32 q 3, mo2]
  have p3 : B32 ^ 3 = 79228162514264337593543950336 := by decide
  have p6 : B32 ^ 6 = 6277101735386680763835789423207666416102355444464034512896 := by decide
  have p7 : B32 ^ 7 = 26959946667150639794667015087019630673637144422540572481103610249216 := by decide
  have p8 : B32 ^ 8 = 115792089237316195423570985008687907853269984665640564039457584007913129639936 := by decide
  rw [p3, p6, p7, p8]
  generalize B32 ^ q = P
  grind

theorem fold_high (c : Nat → Int) (q j : Nat) (hj : q + 8 < j) : fold c (q + 8) j = c j := by
  rw [fold_eq, upd_ne _ _ (by omega), upd_ne _ _ (by omega), upd_ne _ _ (by omega), upd_ne _ _ (by omega), upd_ne _ _ (by omega)]
theorem fold_zero (c : Nat → Int) (q : Nat) : fold c (q + 8) (q + 8) = 0 := by
  rw [fold_eq, upd_ne _ _ (by omega), upd_ne _ _ (by omega), upd_ne _ _ (by omega), upd_ne _ _ (by omega), upd_same]

theorem fold_bound {m : Int} {c : Nat → Int} (h : Cb m c) (q : Nat) : Cb (2 * m) (fold c (q + 8)) := by
  have hv := h (q + 8)
  intro j
  rw [fold_eq]
  unfold upd
  have h0 := h j
  have h1 := h q
  have h2 := h (q + 3)
  have h3 := h (q + 6)
  have h4 := h (q + 7)
  repeat' split
  all_goals omega
end Go.Proofs.Ytnahkcapbbjfdaa
