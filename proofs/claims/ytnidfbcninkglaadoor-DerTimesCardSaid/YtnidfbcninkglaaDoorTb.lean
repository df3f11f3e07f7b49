/-
  A time written, read again: plainly.
-/
import Derived.Test.YtnidfbcninkglaaDoorTi5
namespace Go.Proofs.YtnidfbcninkglaaDoor
open Go.RowKit
set_option linter.unusedVariables false
set_option maxRecDepth 100000

theorem twoI_dg (a : Int) : twoI (48 + a / 10) (48 + a % 10) = a := by unfold twoI; omega
theorem isDg1 {a : Int} (h0 : 0 ≤ a) (h1 : a ≤ 99) : isDg (48 + a / 10) = true := by simp [isDg]; omega
theorem isDg2 {a : Int} : isDg (48 + a % 10) = true := by simp [isDg]; omega
theorem ok_text (a b c d e f g : Int) (a0 : 0 ≤ a) (a1 : a ≤ 99) (b0 : 0 ≤ b) (b1 : b ≤ 99) (c0 : 0 ≤ c) (c1 : c ≤ 99) (d0 : 0 ≤ d) (d1 : d ≤ 99) (e0 : 0 ≤ e) (e1 : e ≤ 99) (f0 : 0 ≤ f) (f1 : f ≤ 99) (g0 : 0 ≤ g) (g1 : g ≤ 99) :
    timL [48 + a / 10, 48 + a % 10, 48 + b / 10, 48 + b % 10, 48 + c / 10, 48 + c % 10, 48 + d / 10, 48 + d % 10, 48 + e / 10, 48 + e % 10, 48 + f / 10, 48 + f % 10, 48 + g / 10, 48 + g % 10, 90] =
      if rightB (100 * a + b) c d e f g then (secT (100 * a + b) c d e f g, 0) else (0, 144) := by
  have ok : okT [48 + a / 10, 48 + a % 10, 48 + b / 10, 48 + b % 10, 48 + c / 10, 48 + c % 10, 48 + d / 10, 48 + d % 10, 48 + e / 10, 48 + e % 10, 48 + f / 10, 48 + f % 10, 48 + g / 10, 48 + g % 10, 90] = true := by
    simp [okT, isDg1 a0 a1, isDg1 b0 b1, isDg1 c0 c1, isDg1 d0 d1, isDg1 e0 e1, isDg1 f0 f1, isDg1 g0 g1, isDg2]
  rw [timL_eq, ok, twoI_dg, twoI_dg, twoI_dg, twoI_dg, twoI_dg, twoI_dg, twoI_dg]
  rfl
theorem tim_text {n y m d r t : Int} (h : Cal n y m d) (r0 : 0 ≤ r) (r1 : r < 86400) (ht : t = n * 86400 + r - 62135596800) : timL (textL y m d r) = (t, 0) := by
  obtain ⟨h1, h2, h3, h4, h5, h6, h7⟩ := h
  have hd := dim_bd y m
  have := ok_text (y / 100) (y % 100) m d (r / 3600) (r / 60 % 60) (r % 60) (by omega) (by omega) (by omega) (by omega) (by omega) (by omega) (by omega) (by omega) (by omega) (by omega) (by omega) (by omega) (by omega) (by omega)
  have e : 100 * (y / 100) + y % 100 = y := by omega
  rw [e] at this
  have hr : rightB y m d (r / 3600) (r / 60 % 60) (r % 60) = true := by
    simp only [rightB, Bool.and_eq_true, decide_eq_true_eq]
    omega
  rw [hr] at this
  refine this.trans ?_
  show (_, _) = _
  congr 1
  unfold secT
  omega
theorem lng_short {y m d r : Int} (h1 : 1950 ≤ y) (h2 : y ≤ 2049) : lng 23 ((textL y m d r).drop 2) = textL y m d r := by
  unfold lng
  rw [if_pos ⟨rfl, rfl⟩]
  by_cases h : y < 2000
  · rw [if_neg (show ¬ ((textL y m d r).drop 2).headD 0 < 53 by show ¬ 48 + y % 100 / 10 < 53; omega)]
    show _ = (48 + y / 100 / 10) :: (48 + y / 100 % 10) :: (textL y m d r).drop 2
    rw [show y / 100 = 19 by omega]
    rfl
  · rw [if_pos (show ((textL y m d r).drop 2).headD 0 < 53 by show 48 + y % 100 / 10 < 53; omega)]
    show _ = (48 + y / 100 / 10) :: (48 + y / 100 % 10) :: (textL y m d r).drop 2
    rw [show y / 100 = 20 by omega]
    rfl
/-- What a time is written as, read again. -/
theorem PutT.back {t : Int} {l : List Int} (h : PutT t l) : (l = [] ∧ (t < -62135596800 ∨ 253402300799 < t)) ∨ ∃ g n body, l = g :: n :: body ∧ 13 ≤ body.length ∧ body.length ≤ 15 ∧ tim g body = (t, 0) := by
  unfold PutT at h
  by_cases hc : t < -62135596800 ∨ 253402300799 < t
  · rw [if_pos hc] at h
    exact .inl ⟨h, hc⟩
  · rw [if_neg hc] at h
    obtain ⟨y, m, d, hcal, rfl⟩ := h
    have ht := tim_text (t := t) hcal (r := (t + 62135596800) % 86400) (by omega) (by omega) (by omega)
    generalize (t + 62135596800) % 86400 = r at ht ⊢
    by_cases hs : 1950 ≤ y ∧ y ≤ 2049
    · rw [if_pos hs]
      refine .inr ⟨23, 13, (textL y m d r).drop 2, rfl, (by show 13 ≤ 13; omega), (by show 13 ≤ 15; omega), ?_⟩
      unfold tim
      rw [lng_short hs.1 hs.2]
      exact ht
    · rw [if_neg hs]
      refine .inr ⟨24, 15, textL y m d r, rfl, (by show 13 ≤ 15; omega), (by show 15 ≤ 15; omega), ?_⟩
      unfold tim lng
      rw [if_neg (by rintro ⟨h, -⟩; cases h), if_pos ⟨rfl, rfl⟩]
      exact ht
end Go.Proofs.YtnidfbcninkglaaDoor
