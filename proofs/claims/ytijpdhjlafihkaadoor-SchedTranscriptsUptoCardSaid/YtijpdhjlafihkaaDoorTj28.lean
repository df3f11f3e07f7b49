/-
  Keys made of a key, as plain lists.
-/
import Derived.Test.YtijpdhjlafihkaaDoorTj19
namespace Go.Proofs.YtijpdhjlafihkaaDoor
open Go.RowKit
set_option linter.unusedVariables false
set_option maxRecDepth 100000

/-- What a turn makes, and all that turns have made. -/
def tL (q : Int) (key info : List Int) : Nat → List Int
  | 0 => []
  | i + 1 => macL q key (tL q key info i ++ info ++ [IntKind.u8.wrap ((i + 1 : Nat) : Int)])
def aL (q : Int) (key info : List Int) : Nat → List Int
  | 0 => []
  | i + 1 => aL q key info i ++ tL q key info (i + 1)
def expL (q : Int) (key info : List Int) (n : Nat) : List Int := (aL q key info 255).take n

theorem macL_len (q : Int) (key msg : List Int) : (macL q key msg).length = sizeOfH q := sumL_len q _
theorem tL_len (q : Int) (key info : List Int) (i : Nat) : (tL q key info (i + 1)).length = sizeOfH q := macL_len q _ _
theorem aL_len (q : Int) (key info : List Int) (i : Nat) : (aL q key info i).length = sizeOfH q * i := by
  induction i with
  | zero => rfl
  | succ i ih => rw [aL, List.length_append, ih, tL_len, Nat.mul_succ]
theorem aL_pre (q : Int) (key info : List Int) (i j : Nat) : ∃ l, aL q key info (i + j) = aL q key info i ++ l := by
  induction j with
  | zero => exact ⟨[], by simp⟩
  | succ j ih =>
    obtain ⟨l, h⟩ := ih
    exact ⟨l ++ tL q key info (i + j + 1), by rw [← Nat.add_assoc, aL, h, List.append_assoc]⟩
theorem aL_take (q : Int) (key info : List Int) (i r : Nat) (hi : i < 255) (hr : r ≤ sizeOfH q) : expL q key info (sizeOfH q * i + r) = aL q key info i ++ (tL q key info (i + 1)).take r := by
  obtain ⟨l, h⟩ := aL_pre q key info (i + 1) (254 - i)
  have e : i + 1 + (254 - i) = 255 := by omega
  rw [e, show aL q key info (i + 1) = aL q key info i ++ tL q key info (i + 1) from rfl] at h
  rw [expL, h, List.append_assoc, ← aL_len q key info i, List.take_length_add_append, List.take_append_of_le_length (by rw [tL_len]; exact hr)]
theorem expL_at (q : Int) (key info : List Int) (i : Nat) (hi : i ≤ 255) : expL q key info (sizeOfH q * i) = aL q key info i := by
  obtain ⟨l, h⟩ := aL_pre q key info i (255 - i)
  have e : i + (255 - i) = 255 := by omega
  rw [e] at h
  rw [expL, h, ← aL_len q key info i, List.take_left']
  rfl
theorem expL_len (q : Int) (key info : List Int) (n : Nat) (hn : n ≤ 255 * sizeOfH q) : (expL q key info n).length = n := by
  rw [expL, List.length_take, aL_len]
  have : sizeOfH q * 255 = 255 * sizeOfH q := Nat.mul_comm _ _
  omega
theorem expL_take (q : Int) (key info : List Int) (n k : Nat) (hk : k ≤ n) : (expL q key info n).take k = expL q key info k := by
  rw [expL, expL, List.take_take, Nat.min_eq_left hk]
/-- One turn more. -/
theorem expL_more (q : Int) (key info : List Int) (n i : Nat) (hi : i < 255) (hS : sizeOfH q * i < n) : expL q key info (min (sizeOfH q * i) n) ++ (tL q key info (i + 1)).take (min (sizeOfH q) (n - sizeOfH q * i)) = expL q key info (min (sizeOfH q * (i + 1)) n) := by
  rw [Nat.min_eq_left (by omega), expL_at q key info i (by omega)]
  have e : min (sizeOfH q * (i + 1)) n = sizeOfH q * i + min (sizeOfH q) (n - sizeOfH q * i) := by
    rw [Nat.mul_succ]
    omega
  rw [e, aL_take q key info i _ hi (by omega)]
end Go.Proofs.YtijpdhjlafihkaaDoor
