/-
  What is a word and what stands as it is in a text: the program's isSmall, isDigit, inWord, isWord, isPlain, and the document's letter, Word, plain.
-/
import Derived.Test.YtlhcadfcgibkdaaDoorBase
import Derived.BigQuiet
namespace Go.Proofs.YtlhcadfcgibkdaaDoor
open Go.RowKit
set_option linter.unusedVariables false

theorem ret_int {k : IntKind} {a b : Int} (h : a = b) : Ending.returned (.int k a) = .returned (.int k b) := by rw [h]
theorem ret_bool {a b : Bool} (h : a = b) : Ending.returned (.bool a) = .returned (.bool b) := by rw [h]

def small (r : Int) : Bool := decide (97 ≤ r ∧ r ≤ 122)
def digit (r : Int) : Bool := decide (48 ≤ r ∧ r ≤ 57)
def letter (r : Int) : Bool := decide (97 ≤ r ∧ r ≤ 122 ∨ 48 ≤ r ∧ r ≤ 57 ∨ r = 45 ∨ r = 95)
def plainB (r : Int) : Bool := decide (32 ≤ r ∧ r < 127)
def isWd (l : List UInt8) : Bool := decide (1 ≤ l.length) && decide (l.length ≤ 32) && small ((l.headD 0).toNat) && l.all (fun c => letter c.toNat)

set_option maxHeartbeats 1000000 in
theorem isSmall_any (r : Int) (w : World) : Calls Tryd.prog 55 #[.int .u8 r] w fun e w' => e = .returned (.bool (small r)) ∧ w' = w := by
  by_cases h1 : 97 ≤ r <;> by_cases h2 : r ≤ 122
  all_goals
    go_enter Tryd.func55, Tryd.ntmps55
    go_wp2
  all_goals (go_ret; exact ⟨ret_bool (by rw [Bool.eq_iff_iff]; unfold small; simp; try omega), rfl⟩)

set_option maxHeartbeats 1000000 in
theorem isDigit_any (r : Int) (w : World) : Calls Tryd.prog 69 #[.int .u8 r] w fun e w' => e = .returned (.bool (digit r)) ∧ w' = w := by
  by_cases h1 : 48 ≤ r <;> by_cases h2 : r ≤ 57
  all_goals
    go_enter Tryd.func69, Tryd.ntmps69
    go_wp2
  all_goals (go_ret; exact ⟨ret_bool (by rw [Bool.eq_iff_iff]; unfold digit; simp; try omega), rfl⟩)

set_option maxHeartbeats 1000000 in
theorem isPlain_any (r : Int) (w : World) : Calls Tryd.prog 83 #[.int .u8 r] w fun e w' => e = .returned (.bool (plainB r)) ∧ w' = w := by
  by_cases h1 : 32 ≤ r <;> by_cases h2 : r < 127
  all_goals
    go_enter Tryd.func83, Tryd.ntmps83
    go_wp2
  all_goals (go_ret; exact ⟨ret_bool (by rw [Bool.eq_iff_iff]; unfold plainB; simp; try omega), rfl⟩)

set_option maxHeartbeats 1000000 in
theorem inWord_any (r : Int) (w : World) : Calls Tryd.prog 56 #[.int .u8 r] w fun e w' => e = .returned (.bool (letter r)) ∧ w' = w := by
  cases hs : small r <;> cases hd : digit r
  all_goals
    go_enter Tryd.func56, Tryd.ntmps56
    go_wp2_with fail
    refine (isSmall_any _ _).mono ?_
    rintro e w' ⟨rfl, rfl⟩
    rw [hs]
    go_wp2_with fail
    try (refine (isDigit_any _ _).mono ?_; rintro e w' ⟨rfl, rfl⟩; rw [hd]; go_wp2_with fail)
  all_goals (go_ret; exact ⟨ret_bool (by rw [Bool.eq_iff_iff]; unfold letter; unfold small at hs; unfold digit at hd; simp at hs hd ⊢; try omega), rfl⟩)

set_option maxHeartbeats 1000000 in
theorem letter_any (r : Int) (w : World) : Calls Tryd.prog 45 #[.int .u8 r] w fun e w' => e = .returned (.bool (letter r)) ∧ w' = w := by
  by_cases h1 : 97 ≤ r <;> by_cases h2 : r ≤ 122 <;> by_cases h3 : 48 ≤ r <;> by_cases h4 : r ≤ 57
  all_goals
    go_enter Tryd.func45, Tryd.ntmps45
    go_wp2
  all_goals (go_ret; exact ⟨ret_bool (by rw [Bool.eq_iff_iff]; unfold letter; first | (simp only [decide_eq_true_eq, Bool.or_eq_true, beq_iff_eq, true_iff]; omega) | simp), rfl⟩)

def plainR (r : Int) : Bool := decide (32 ≤ r ∧ r < 127 ∧ r ≠ 34 ∧ r ≠ 92)

set_option maxHeartbeats 1000000 in
theorem plain_any (r : Int) (w : World) : Calls Tryd.prog 47 #[.int .u8 r] w fun e w' => e = .returned (.bool (plainR r)) ∧ w' = w := by
  by_cases h1 : 32 ≤ r <;> by_cases h2 : r < 127 <;> by_cases h3 : r = 34
  all_goals
    try subst h3
    go_enter Tryd.func47, Tryd.ntmps47
    go_wp2
  all_goals (go_ret; exact ⟨ret_bool (by rw [Bool.eq_iff_iff]; unfold plainR; first | (simp; done) | (simp; omega)), rfl⟩)
end Go.Proofs.YtlhcadfcgibkdaaDoor
