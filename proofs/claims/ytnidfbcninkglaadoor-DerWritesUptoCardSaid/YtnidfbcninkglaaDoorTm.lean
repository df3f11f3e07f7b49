/-
  The calendar's calls, the program's.
-/
import Derived.Test.YtnidfbcninkglaaDoorCal
import Derived.Test.YtnidfbcninkglaaDoorPu
namespace Go.Proofs.YtnidfbcninkglaaDoor
open Go.RowKit
set_option linter.unusedVariables false
set_option maxRecDepth 100000

set_option maxHeartbeats 800000 in
theorem isLeap_any (y : Int) (h0 : 0 ≤ y) (w : World) : Calls Tryd.prog 85 #[.int .i64 y] w fun e w' => e = .returned (.bool (lpI y == 1)) ∧ w' = w := by
  by_cases h1 : y % 4 = 0
  · by_cases h2 : y % 100 = 0
    · by_cases h3 : y % 400 = 0
      · have E : (lpI y == 1) = true := by simp [lpI, h1, h3]
        rw [E]
        clear E
        go_enter Tryd.func85, Tryd.ntmps85
        go_wp2
        go_ret
        exact ⟨rfl, rfl⟩
      · have E : (lpI y == 1) = false := by simp [lpI, h1, h2, h3]
        have h3' : (y % 400 == 0) = false := by simpa using h3
        rw [E]
        clear E
        go_enter Tryd.func85, Tryd.ntmps85
        go_wp2
        go_ret
        exact ⟨rfl, rfl⟩
    · have E : (lpI y == 1) = true := by simp [lpI, h1, h2]
      have h2' : (y % 100 == 0) = false := by simpa using h2
      have h2'' : (y % 100 != 0) = true := by simpa using h2
      rw [E]
      clear E
      go_enter Tryd.func85, Tryd.ntmps85
      go_wp2
      go_ret
      exact ⟨rfl, rfl⟩
  · have E : (lpI y == 1) = false := by simp [lpI, h1]
    have h1' : (y % 4 == 0) = false := by simpa using h1
    rw [E]
    clear E
    go_enter Tryd.func85, Tryd.ntmps85
    go_wp2
    go_ret
    exact ⟨rfl, rfl⟩

set_option maxHeartbeats 1600000 in
theorem daysIn_any (y m : Int) (h0 : 0 ≤ y) (w : World) : Calls Tryd.prog 68 #[.int .i64 y, .int .i64 m] w fun e w' => e = .returned (.int .i64 (dimI y m)) ∧ w' = w := by
  by_cases h2 : m = 2
  · subst h2
    rcases lpI_01 y with hl | hl
    all_goals
      have E : dimI y 2 = 28 + lpI y := by simp [dimI]
      rw [E, hl]
      clear E
      go_enter Tryd.func68, Tryd.ntmps68
      go_wp2_with (go_at_call 85; refine (isLeap_any y h0 _).mono ?_; rintro e w9 ⟨rfl, hw9⟩; obtain rfl := hw9.symm; rw [hl])
      go_ret
      exact ⟨rfl, rfl⟩
  · have i2 : (m == 2) = false := by simpa using h2
    by_cases h4 : m = 4 ∨ m = 6 ∨ m = 9 ∨ m = 11
    · have E : dimI y m = 30 := by simp [dimI, h2, h4]
      rw [E]
      clear E i2 h2
      rcases h4 with rfl | rfl | rfl | rfl
      all_goals
        go_enter Tryd.func68, Tryd.ntmps68
        go_wp2
        go_ret
        exact ⟨rfl, rfl⟩
    · have E : dimI y m = 31 := by simp [dimI, h2, h4]
      have i4 : (m == 4) = false := by simp; omega
      have i6 : (m == 6) = false := by simp; omega
      have i9 : (m == 9) = false := by simp; omega
      have i11 : (m == 11) = false := by simp; omega
      rw [E]
      clear E h4 h2
      go_enter Tryd.func68, Tryd.ntmps68
      go_wp2
      go_ret
      exact ⟨rfl, rfl⟩

set_option maxHeartbeats 800000 in
theorem daysAhead_any (y : Int) (h0 : 1 ≤ y) (h1 : y ≤ 10000) (w : World) : Calls Tryd.prog 69 #[.int .i64 y] w fun e w' => e = .returned (.int .i64 (dby y)) ∧ w' = w := by
  go_enter Tryd.func69, Tryd.ntmps69
  go_wp2
  go_ret
  exact ⟨ret_int (by unfold dby; omega), rfl⟩

def shortB (y : Int) : Bool := decide (1950 ≤ y) && decide (y ≤ 2049)
set_option maxHeartbeats 800000 in
theorem short_any (y : Int) (w : World) : Calls Tryd.prog 54 #[.int .i64 y] w fun e w' => e = .returned (.bool (shortB y)) ∧ w' = w := by
  by_cases h1 : 1950 ≤ y
  · have d1 : decide (1950 ≤ y) = true := by simpa using h1
    go_enter Tryd.func54, Tryd.ntmps54
    go_wp2
    go_ret
    exact ⟨ret_bool (by unfold shortB; rw [d1]; simp), rfl⟩
  · have d1 : decide (1950 ≤ y) = false := by simpa using h1
    go_enter Tryd.func54, Tryd.ntmps54
    go_wp2
    go_ret
    exact ⟨ret_bool (by unfold shortB; rw [d1]; rfl), rfl⟩

def mom (y m d r : Int) : Value := .agg #[.int .i64 y, .int .i64 m, .int .i64 d, .int .i64 (r / 3600), .int .i64 (r / 60 % 60), .int .i64 (r % 60)]

set_option maxHeartbeats 3200000 in
theorem momentAt_any (t : Int) (h0 : -62135596800 ≤ t) (h1 : t ≤ 253402300799) (w : World) :
    Calls Tryd.prog 52 #[.int .i64 t] w fun e w' => ∃ y m d, e = .returned (mom y m d ((t + 62135596800) % 86400)) ∧ Cal ((t + 62135596800) / 86400) y m d ∧ Chg Non w w' := by
  obtain ⟨N, hN⟩ : ∃ N, N = (t + 62135596800) / 86400 := ⟨_, rfl⟩
  obtain ⟨r, hr⟩ : ∃ r, r = (t + 62135596800) % 86400 := ⟨_, rfl⟩
  have hN0 : 0 ≤ N := by omega
  have hN1 : N ≤ 3652058 := by omega
  have hr0 : 0 ≤ r := by omega
  have hr1 : r < 86400 := by omega
  rw [← hN, ← hr]
  have q1 : (t + 62135596800) / 86400 = N := hN.symm
  have q2 : (t + 62135596800) % 86400 = r := hr.symm
  have hg := dby_guess N hN0
  have HG : Hid (dby (1 + N / 366) ≤ N) := hg
  clear hN hr hg
  go_enter Tryd.func52, Tryd.ntmps52
  go_wp2
  simp only [q1, q2]
  clear q1 q2
  go_loop [5] (fun x => ∃ y : Int, 1 ≤ y ∧ y ≤ 9999 ∧ Hid (dby y ≤ N) ∧ x = .int .i64 y) (fun x => (9999 - intOf x).toNat)
  case atStart => exact ⟨_, by omega, by omega, HG, rfl⟩
  case round =>
    obtain ⟨y, hy1, hy2, hy3, rfl⟩ := hrel
    obtain ⟨D, hD⟩ : ∃ D, D = dby (y + 1) := ⟨_, rfl⟩
    have hDb := dby_bd (y + 1) (by omega) (by omega)
    have HC : Hid (∀ u, Calls Tryd.prog 69 #[.int .i64 (y + 1)] u fun e w' => e = .returned (.int .i64 D) ∧ w' = u) := fun u => by rw [hD]; exact daysAhead_any (y + 1) (by omega) (by omega) u
    have HD : Hid (D = dby (y + 1)) := hD
    rw [← hD] at hDb
    clear hD
    by_cases hc : D ≤ N
    · have hy9 : y < 9999 := by
        have h9 := HD.out
        by_cases e : y = 9999
        · subst e
          have : dby (9999 + 1) = 3652059 := by decide
          omega
        · omega
      have d1 : decide (D ≤ N) = true := by simpa using hc
      have HY : Hid (dby (y + 1) ≤ N) := by show _ ≤ _; rw [← HD.out]; exact hc
      clear hc
      go_wp2_with (go_at_call 69; refine (HC.out _).mono ?_; rintro e w9 ⟨rfl, hw9⟩; obtain rfl := hw9.symm)
      go_round
      case rel => exact ⟨y + 1, by omega, by omega, HY, rfl⟩
      case measure => simp [intOf]; omega
    · have d1 : decide (D ≤ N) = false := by simpa using hc
      obtain ⟨B, hB⟩ : ∃ B, B = dby y := ⟨_, rfl⟩
      have hBb := dby_bd y (by omega) (by omega)
      have HC2 : Hid (∀ u, Calls Tryd.prog 69 #[.int .i64 y] u fun e w' => e = .returned (.int .i64 B) ∧ w' = u) := fun u => by rw [hB]; exact daysAhead_any y (by omega) (by omega) u
      have HB : Hid (B = dby y) := hB
      have hs := dby_succ y hy1
      rw [← hB] at hBb hs
      have hBN : B ≤ N := by rw [hB]; exact hy3.out
      have hlp := lpI_01 y
      have HX : Hid (N - B < 365 + lpI y) := by show _ < _; have := HD.out; omega
      have hX2 : N - B < 366 := by have := HX.out; omega
      clear hB hs hlp hc
      go_wp2_with (first | (go_at_call 69; refine (HC.out _).mono ?_; clear HC; rintro e w9 ⟨rfl, hw9⟩; obtain rfl := hw9.symm) | (go_at_call 69; refine (HC2.out _).mono ?_; rintro e w9 ⟨rfl, hw9⟩; obtain rfl := hw9.symm))
      go_loop [3, 6] (fun x k => ∃ m c : Int, 1 ≤ m ∧ m ≤ 12 ∧ k = .int .i64 m ∧ Hid (c = cum y m) ∧ 0 ≤ c ∧ c ≤ N - B ∧ x = .int .i64 (N - B - c)) (fun _ k => (12 - intOf k).toNat)
      case atStart => exact ⟨1, 0, by omega, by omega, rfl, (rfl : (0 : Int) = cum y 1), by omega, by omega, by simp⟩
      case round =>
        obtain ⟨m, c, hm1, hm2, rfl, hcum, hc0, hc1, rfl⟩ := hrel
        obtain ⟨K, hK⟩ : ∃ K, K = dimI y m := ⟨_, rfl⟩
        have hKb := dim_bd y m
        have HC3 : Hid (∀ u, Calls Tryd.prog 68 #[.int .i64 y, .int .i64 m] u fun e w' => e = .returned (.int .i64 K) ∧ w' = u) := fun u => by rw [hK]; exact daysIn_any y m (by omega) u
        have HK : Hid (K = dimI y m) := hK
        have hcs := cum_succ y m hm1 hm2
        have HCS : Hid (cum y (m + 1) = c + K) := by show _ = _; rw [hcs, ← hcum.out, HK.out]
        rw [← hK] at hKb
        clear hK hcs
        by_cases hd : K ≤ N - B - c
        · have hm12 : m < 12 := by
            by_cases e : m = 12
            · subst e
              have h5 := HCS.out
              have h6 := HX.out
              have h7 : cum y (12 + 1) = 365 + lpI y := cum_13 y
              omega
            · omega
          have d2 : decide (K ≤ N - B - c) = true := by simpa using hd
          obtain ⟨c', hc'⟩ : ∃ c', c' = c + K := ⟨_, rfl⟩
          have HC' : Hid (c' = cum y (m + 1)) := by show _ = _; rw [HCS.out, hc']
          have HE : Hid (N - B - c - K = N - B - c') := by show _ = _; omega
          have hc'0 : 0 ≤ c' := by omega
          have hc'1 : c' ≤ N - B := by omega
          clear hc'
          go_wp2_with (go_at_call 68; refine (HC3.out _).mono ?_; rintro e w9 ⟨rfl, hw9⟩; obtain rfl := hw9.symm)
          go_round
          case rel => exact ⟨m + 1, c', by omega, by omega, rfl, HC', hc'0, hc'1, by rw [HE.out]⟩
          case measure => simp [intOf]; omega
        · have d2 : decide (K ≤ N - B - c) = false := by simpa using hd
          have HCAL : Hid (Cal N y m (N - B - c + 1)) := by
            refine ⟨hy1, hy2, hm1, hm2, by omega, ?_, ?_⟩
            · rw [← HK.out]; omega
            · rw [← HB.out, ← hcum.out]; omega
          clear hd
          go_wp2_with (go_at_call 68; refine (HC3.out _).mono ?_; rintro e w9 ⟨rfl, hw9⟩; obtain rfl := hw9.symm)
          refine bodyPost_ret (v := mom y m (N - B - c + 1) r) ?_ rfl ⟨y, m, N - B - c + 1, rfl, HCAL.out, ?_⟩
          · simp [results, Tryd.results52, go_sem, mom]
          · exact (Chg.refl _ _).alloc _
end Go.Proofs.YtnidfbcninkglaaDoor
