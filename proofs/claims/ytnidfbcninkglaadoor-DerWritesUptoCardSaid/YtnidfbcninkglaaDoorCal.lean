/-
  The calendar, plainly.
-/
import Derived.Test.YtnidfbcninkglaaDoorPl
namespace Go.Proofs.YtnidfbcninkglaaDoor
set_option linter.unusedVariables false
set_option maxRecDepth 100000

def lpI (y : Int) : Int := if y % 4 = 0 ∧ (y % 100 ≠ 0 ∨ y % 400 = 0) then 1 else 0
theorem lpI_01 (y : Int) : lpI y = 0 ∨ lpI y = 1 := by unfold lpI; split <;> simp
def dimI (y m : Int) : Int := if m = 2 then 28 + lpI y else if m = 4 ∨ m = 6 ∨ m = 9 ∨ m = 11 then 30 else 31
def dby (y : Int) : Int := 365 * (y - 1) + (y - 1) / 4 - (y - 1) / 100 + (y - 1) / 400
theorem dby_succ (y : Int) (h : 1 ≤ y) : dby (y + 1) = dby y + 365 + lpI y := by
  unfold dby lpI
  split <;> omega
theorem dby_mono (a b : Int) (h0 : 1 ≤ a) (h : a ≤ b) : dby a ≤ dby b := by unfold dby; omega
theorem dby_bd (a : Int) (h0 : 1 ≤ a) (h : a ≤ 10000) : 0 ≤ dby a ∧ dby a ≤ 3652059 := by unfold dby; omega
theorem dby_guess (n : Int) (h : 0 ≤ n) : dby (1 + n / 366) ≤ n := by unfold dby; omega
/-- The days of a year ahead of a month. -/
def cum (y m : Int) : Int := if m ≤ 1 then 0 else if m = 2 then 31 else if m = 3 then 59 + lpI y else if m = 4 then 90 + lpI y else if m = 5 then 120 + lpI y else if m = 6 then 151 + lpI y else if m = 7 then 181 + lpI y
  else if m = 8 then 212 + lpI y else if m = 9 then 243 + lpI y else if m = 10 then 273 + lpI y else if m = 11 then 304 + lpI y else if m = 12 then 334 + lpI y else 365 + lpI y
theorem twelve {m : Int} (h0 : 1 ≤ m) (h1 : m ≤ 12) : m = 1 ∨ m = 2 ∨ m = 3 ∨ m = 4 ∨ m = 5 ∨ m = 6 ∨ m = 7 ∨ m = 8 ∨ m = 9 ∨ m = 10 ∨ m = 11 ∨ m = 12 := by omega
theorem cum_succ (y m : Int) (h0 : 1 ≤ m) (h1 : m ≤ 12) : cum y (m + 1) = cum y m + dimI y m := by
  rcases twelve h0 h1 with rfl | rfl | rfl | rfl | rfl | rfl | rfl | rfl | rfl | rfl | rfl | rfl
  all_goals
    simp [cum, dimI]
    try omega
theorem dim_bd (y m : Int) : 28 ≤ dimI y m ∧ dimI y m ≤ 31 := by
  have := lpI_01 y
  unfold dimI
  repeat' split
  all_goals omega
theorem cum_13 (y : Int) : cum y 13 = 365 + lpI y := by simp [cum]
theorem cum_mono' (y a : Int) (h0 : 1 ≤ a) (k : Nat) : a + k ≤ 13 → cum y a ≤ cum y (a + k) := by
  induction k with
  | zero => intro _; simp
  | succ k ih =>
    intro h
    have e : a + ((k + 1 : Nat) : Int) = (a + k) + 1 := by omega
    rw [e, cum_succ y (a + k) (by omega) (by omega)]
    have := ih (by omega)
    have := dim_bd y (a + k)
    omega
theorem cum_mono (y a b : Int) (h0 : 1 ≤ a) (h : a ≤ b) (h1 : b ≤ 13) : cum y a ≤ cum y b := by
  obtain ⟨k, hk⟩ := Int.eq_ofNat_of_zero_le (show 0 ≤ b - a by omega)
  have := cum_mono' y a h0 k (by omega)
  rwa [show a + (k : Int) = b by omega] at this
theorem cum_bd (y m : Int) (h0 : 1 ≤ m) (h1 : m ≤ 13) : 0 ≤ cum y m ∧ cum y m ≤ 366 := by
  have a := cum_mono y 1 m (by omega) h0 h1
  have b := cum_mono y m 13 h0 h1 (by omega)
  have c : cum y 1 = 0 := rfl
  have := lpI_01 y
  rw [cum_13] at b
  omega

/-- A day, by its number (the first of the year 1 is 0). -/
def Cal (n y m d : Int) : Prop := 1 ≤ y ∧ y ≤ 9999 ∧ 1 ≤ m ∧ m ≤ 12 ∧ 1 ≤ d ∧ d ≤ dimI y m ∧ n = dby y + cum y m + d - 1

theorem Cal.year {n y m d : Int} (h : Cal n y m d) : dby y ≤ n ∧ n < dby (y + 1) := by
  obtain ⟨h1, h2, h3, h4, h5, h6, h7⟩ := h
  have a := cum_bd y m h3 (by omega)
  have b := cum_succ y m h3 h4
  have c := cum_mono y (m + 1) 13 (by omega) (by omega) (by omega)
  rw [cum_13] at c
  rw [dby_succ y h1]
  omega
theorem Cal.month {n y m d : Int} (h : Cal n y m d) : cum y m ≤ n - dby y ∧ n - dby y < cum y (m + 1) := by
  obtain ⟨h1, h2, h3, h4, h5, h6, h7⟩ := h
  rw [cum_succ y m h3 h4]
  omega
theorem Cal.unique {n y m d y' m' d' : Int} (h : Cal n y m d) (k : Cal n y' m' d') : y = y' ∧ m = m' ∧ d = d' := by
  have hy : y = y' := by
    have a := h.year
    have b := k.year
    obtain ⟨h1, h2, _⟩ := h
    obtain ⟨k1, k2, _⟩ := k
    rcases Int.lt_trichotomy y y' with e | e | e
    · have := dby_mono (y + 1) y' (by omega) (by omega); omega
    · exact e
    · have := dby_mono (y' + 1) y (by omega) (by omega); omega
  subst hy
  have hm : m = m' := by
    have a := h.month
    have b := k.month
    obtain ⟨_, _, h3, h4, _⟩ := h
    obtain ⟨_, _, k3, k4, _⟩ := k
    rcases Int.lt_trichotomy m m' with e | e | e
    · have := cum_mono y (m + 1) m' (by omega) (by omega) (by omega); omega
    · exact e
    · have := cum_mono y (m' + 1) m (by omega) (by omega) (by omega); omega
  subst hm
  refine ⟨rfl, rfl, ?_⟩
  obtain ⟨_, _, _, _, _, _, h7⟩ := h
  obtain ⟨_, _, _, _, _, _, k7⟩ := k
  omega

def dg2 (n : Int) : List Int := [48 + n / 10, 48 + n % 10]
def textL (y m d r : Int) : List Int := dg2 (y / 100) ++ (dg2 (y % 100) ++ (dg2 m ++ (dg2 d ++ (dg2 (r / 3600) ++ (dg2 (r / 60 % 60) ++ (dg2 (r % 60) ++ [90]))))))
theorem textL_len (y m d r : Int) : (textL y m d r).length = 15 := rfl
/-- What a time is written as. -/
def PutT (t : Int) (l : List Int) : Prop :=
  if t < -62135596800 ∨ 253402300799 < t then l = []
  else ∃ y m d, Cal ((t + 62135596800) / 86400) y m d ∧ l = if 1950 ≤ y ∧ y ≤ 2049 then encL 23 ((textL y m d ((t + 62135596800) % 86400)).drop 2) else encL 24 (textL y m d ((t + 62135596800) % 86400))
theorem PutT.unique {t : Int} {l l' : List Int} (h : PutT t l) (k : PutT t l') : l = l' := by
  unfold PutT at h k
  by_cases hc : t < -62135596800 ∨ 253402300799 < t
  · rw [if_pos hc] at h k
    rw [h, k]
  · rw [if_neg hc] at h k
    obtain ⟨y, m, d, h1, h2⟩ := h
    obtain ⟨y', m', d', k1, k2⟩ := k
    obtain ⟨rfl, rfl, rfl⟩ := h1.unique k1
    rw [h2, k2]
end Go.Proofs.YtnidfbcninkglaaDoor
