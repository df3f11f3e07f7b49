/-
  Expand, where it may not be.
-/
import Derived.Test.YtijpdhjlafihkaaDoorExp
namespace Go.Proofs.YtijpdhjlafihkaaDoor
open Go.RowKit
set_option linter.unusedVariables false
set_option maxRecDepth 100000

set_option maxRecDepth 100000 in
set_option maxHeartbeats 4000000 in
theorem expand_none (q n : Int) (vk vi : Value) (w : World) (h : ¬ Valid q ∨ n < 0 ∨ 255 * (sizeOfH q : Int) < n) :
    Calls Tryd.prog 29 #[.int .i64 q, vk, vi, .int .i64 n] w fun r w' => r = .returned (.tuple #[.slice none 0 0, .int .i64 1]) ∧ w' = w := by
  obtain ⟨S, hS⟩ : ∃ S, S = sizeOfH q := ⟨_, rfl⟩
  have HSz : Hid (∀ u, Calls Tryd.prog 20 #[.int .i64 q] u fun r w' => r = .returned (.int .i64 S) ∧ w' = u) := by
    intro u
    rw [hS]
    exact size_any q u
  have hS64 : S ≤ 64 := by rw [hS]; exact size_le q
  obtain ⟨M, hM⟩ : ∃ M : Nat, 255 * (S : Int) = M := ⟨255 * S, by omega⟩
  have wM := wrap_i (x := (M : Int)) (by omega) (by omega)
  by_cases hS0 : S = 0
  · subst hS0
    clear h hS hM wM
    go_enter Tryd.func29, Tryd.ntmps29
    go_wp2_with (go_at_call 20; (refine (HSz.out _).mono ?_; rintro r' w5 ⟨rfl, hw5⟩; rw [hw5]; clear hw5 w5))
    go_ret2
    exact ⟨rfl, rfl⟩
  · have hSb : ((S : Int) == 0) = false := by simp; omega
    have hSi : ¬ (S : Int) = 0 := by omega
    have hv : Valid q := by
      unfold Valid
      by_cases h1 : q = 1
      · exact .inl h1
      · by_cases h2 : q = 2
        · exact .inr (.inl h2)
        · by_cases h3 : q = 3
          · exact .inr (.inr h3)
          · exfalso
            apply hS0
            rw [hS, sizeOfH, if_neg h1, if_neg h2, if_neg h3]
    rw [← hS] at h
    by_cases hn : n < 0
    · have hnd : decide (n < 0) = true := by simp [hn]
      clear h hS hv
      go_enter Tryd.func29, Tryd.ntmps29
      go_wp2_with (go_at_call 20; (refine (HSz.out _).mono ?_; rintro r' w5 ⟨rfl, hw5⟩; rw [hw5]; clear hw5 w5))
      go_ret2
      exact ⟨rfl, rfl⟩
    · have hnM : (M : Int) < n := by
        rcases h with h | h | h
        · exact absurd hv h
        · exact absurd h hn
        · omega
      have hnd : decide (n < 0) = false := decide_eq_false hn
      have hnd2 : decide ((M : Int) < n) = true := by simp [hnM]
      clear h hS hv
      go_enter Tryd.func29, Tryd.ntmps29
      go_wp2_with (go_at_call 20; (refine (HSz.out _).mono ?_; rintro r' w5 ⟨rfl, hw5⟩; rw [hw5]; clear hw5 w5))
      go_ret2
      exact ⟨rfl, rfl⟩
end Go.Proofs.YtijpdhjlafihkaaDoor
