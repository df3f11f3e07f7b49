/-
  The law's plain facts.
-/
import Derived.Test.YtnidfbcninkglaaDoorWq
import Derived.Test.YtnidfbcninkglaaDoorWb
import Derived.Test.YtnidfbcninkglaaDoorWg
namespace Go.Proofs.YtnidfbcninkglaaDoor
open Go.RowKit
set_option linter.unusedVariables false
set_option maxRecDepth 100000

theorem encL_drop {t : Int} {b : List Int} (h : b.length < 128) : ∃ L, encL t b = t :: L :: b := by
  unfold encL lenB
  rw [if_pos h]
  exact ⟨_, rfl⟩
/-- What is written of a number: its item, and what Num tells of its body. -/
theorem pnL_is {xs : List Int} (hb : Byt xs) (h : pnL xs ≠ []) : ∃ L ys, pnL xs = 2 :: L :: ys ∧ Byt ys ∧ numE ys = 0 ∧ ys ≠ [] ∧ ys.length ≤ 33 ∧ ∃ z r, numR ys = z :: r ∧ r.length ≤ 33 ∧ (r ≠ [] → z ≠ 0) := by
  have h33 : (pnB xs).length ≤ 33 := by
    by_cases h33 : (pnB xs).length ≤ 33
    · exact h33
    · exact absurd (by unfold pnL; rw [if_neg h33]) h
  obtain ⟨L, hL⟩ := encL_drop (t := 2) (b := pnB xs) (by omega)
  refine ⟨L, pnB xs, by unfold pnL; rw [if_pos h33]; exact hL, pnB_byt hb, by rw [pnB_put hb, if_pos h33], ?_, h33, ?_⟩
  · unfold pnB
    split
    · simp
    · split <;> simp
  · have hok : numOk (pnB xs) = true := by rw [pnB_ok hb]; simpa using h33
    unfold numR
    rw [if_pos hok]
    unfold pnB at h33 ⊢
    split
    · exact ⟨0, [], rfl, by simp, fun q => absurd rfl q⟩
    · rename_i x r hs
      rw [hs] at h33
      dsimp only at h33
      have hx := strip_head hs
      split
      · rename_i h128
        rw [if_pos h128] at h33
        simp at h33
        exact ⟨x, r, by simp [numV], by omega, fun _ => hx⟩
      · rename_i h128
        rw [if_neg h128] at h33
        simp at h33
        match r, hs, h33 with
        | [], hs, h33 => exact ⟨x, [], rfl, by simp, fun q => absurd rfl q⟩
        | y :: t, hs, h33 => exact ⟨x, y :: t, by simp [numV, hx], by simp at h33 ⊢; omega, fun _ => hx⟩
/-- What is written of a text: its item, and what OID tells of its body. -/
theorem poP_body {s : List UInt8} (h : poP s ≠ []) : ∃ L ys, poP s = 6 :: L :: ys ∧ Byt ys ∧ ys ≠ [] ∧ ys.length ≤ 102 ∧ oidE ys = 0 ∧ oidS ys = s := by
  have hq := poP_eq s
  by_cases hc : oidE (bodP s) = 0 ∧ oidS (bodP s) = s
  · rw [if_pos hc] at hq
    have hl := bodP_len s
    obtain ⟨L, hL⟩ := encL_drop (t := 6) (b := bodP s) (by omega)
    have hput : putL 6 (bodP s) = encL 6 (bodP s) := by unfold putL; rw [if_pos ⟨by omega, by omega⟩]
    refine ⟨L, bodP s, by rw [hq, hput, hL], bodP_byt s, ?_, hl, hc.1, hc.2⟩
    intro e
    have := hc.1
    rw [e, oidE_none (by rfl)] at this
    cases this
  · rw [if_neg hc] at hq
    exact absurd hq h
end Go.Proofs.YtnidfbcninkglaaDoor
