/-
  The calendar's calls, the document's; its Put.
-/
import Derived.Test.YtnidfbcninkglaaDoorTm
namespace Go.Proofs.YtnidfbcninkglaaDoor
open Go.RowKit
set_option linter.unusedVariables false
set_option maxRecDepth 100000

set_option maxHeartbeats 800000 in
theorem leap_any (y : Int) (h0 : 0 ≤ y) (w : World) : Calls Tryd.prog 70 #[.int .i64 y] w fun e w' => e = .returned (.bool (lpI y == 1)) ∧ w' = w := by
  by_cases h1 : y % 4 = 0
  · by_cases h2 : y % 100 = 0
    · by_cases h3 : y % 400 = 0
      · have E : (lpI y == 1) = true := by simp [lpI, h1, h3]
        rw [E]
        clear E
        go_enter Tryd.func70, Tryd.ntmps70
        go_wp2
        go_ret
        exact ⟨rfl, rfl⟩
      · have E : (lpI y == 1) = false := by simp [lpI, h1, h2, h3]
        have h3' : (y % 400 == 0) = false := by simpa using h3
        rw [E]
        clear E
        go_enter Tryd.func70, Tryd.ntmps70
        go_wp2
        go_ret
        exact ⟨rfl, rfl⟩
    · have E : (lpI y == 1) = true := by simp [lpI, h1, h2]
      have h2' : (y % 100 == 0) = false := by simpa using h2
      have h2'' : (y % 100 != 0) = true := by simpa using h2
      rw [E]
      clear E
      go_enter Tryd.func70, Tryd.ntmps70
      go_wp2
      go_ret
      exact ⟨rfl, rfl⟩
  · have E : (lpI y == 1) = false := by simp [lpI, h1]
    have h1' : (y % 4 == 0) = false := by simpa using h1
    have h3' : (y % 400 == 0) = false := by simp; omega
    rw [E]
    clear E
    go_enter Tryd.func70, Tryd.ntmps70
    go_wp2
    go_ret
    exact ⟨rfl, rfl⟩

set_option maxHeartbeats 1600000 in
theorem month_any (y m : Int) (h0 : 0 ≤ y) (w : World) : Calls Tryd.prog 50 #[.int .i64 y, .int .i64 m] w fun e w' => e = .returned (.int .i64 (dimI y m)) ∧ w' = w := by
  by_cases h2 : m = 2
  · subst h2
    rcases lpI_01 y with hl | hl
    all_goals
      have E : dimI y 2 = 28 + lpI y := by simp [dimI]
      rw [E, hl]
      clear E
      go_enter Tryd.func50, Tryd.ntmps50
      go_wp2_with (go_at_call 70; refine (leap_any y h0 _).mono ?_; rintro e w9 ⟨rfl, hw9⟩; obtain rfl := hw9.symm; rw [hl])
      go_ret
      exact ⟨rfl, rfl⟩
  · have i2 : (m == 2) = false := by simpa using h2
    by_cases h4 : m = 4 ∨ m = 6 ∨ m = 9 ∨ m = 11
    · have E : dimI y m = 30 := by simp [dimI, h2, h4]
      rw [E]
      clear E i2 h2
      rcases h4 with rfl | rfl | rfl | rfl
      all_goals
        go_enter Tryd.func50, Tryd.ntmps50
        go_wp2
        go_ret
        exact ⟨rfl, rfl⟩
    · have E : dimI y m = 31 := by simp [dimI, h2, h4]
      have i4 : (m == 4) = false := by simp; omega
      have i6 : (m == 6) = false := by simp; omega
      have i9 : (m == 9) = false := by simp; omega
      have i11 : (m == 11) = false := by simp; omega
      rw [E]
      clear E h4 h2
      go_enter Tryd.func50, Tryd.ntmps50
      go_wp2
      go_ret
      exact ⟨rfl, rfl⟩

theorem dby_1970 : dby 1970 = 719162 := by decide

set_option maxHeartbeats 1600000 in
theorem days_any (y : Int) (h0 : 1 ≤ y) (h1 : y ≤ 10000) (w : World) : Calls Tryd.prog 51 #[.int .i64 y] w fun e w' => e = .returned (.int .i64 (dby y - 719162)) ∧ w' = w := by
  obtain ⟨R, hR⟩ : ∃ R, R = dby y - 719162 := ⟨_, rfl⟩
  have HR : Hid (R = dby y - 719162) := hR
  rw [← hR]
  clear hR
  by_cases hy : 1970 ≤ y
  · go_enter Tryd.func51, Tryd.ntmps51
    go_wp2
    go_loop [3, 4] (fun n x => ∃ z d : Int, 1970 ≤ z ∧ z ≤ y ∧ x = .int .i64 z ∧ n = .int .i64 d ∧ Hid (d = dby z - 719162) ∧ 0 ≤ d ∧ d ≤ 3652059) (fun _ x => (y - intOf x).toNat)
    case atStart => exact ⟨1970, 0, by omega, hy, rfl, rfl, (by rw [dby_1970]; rfl : (0 : Int) = dby 1970 - 719162), by omega, by omega⟩
    case round =>
      obtain ⟨z, d, hz1, hz2, rfl, rfl, hd, hd0, hd1⟩ := hrel
      by_cases hlt : z < y
      · have hs := dby_succ z (by omega)
        have hb := dby_bd (z + 1) (by omega) (by omega)
        rcases lpI_01 z with hl | hl
        · have HD : Hid (d + 365 = dby (z + 1) - 719162) := by show _ = _; rw [hs, hl, hd.out]; omega
          have hD2 : d + 365 ≤ 3652059 := by have := HD.out; omega
          clear hs hb
          go_wp2_with (go_at_call 70; refine (leap_any z (by omega) _).mono ?_; rintro e w9 ⟨rfl, hw9⟩; obtain rfl := hw9.symm; rw [hl])
          go_round
          case rel => exact ⟨z + 1, d + 365, by omega, by omega, rfl, rfl, HD, by omega, hD2⟩
          case measure => simp [intOf]; omega
        · have HD : Hid (d + 365 + 1 = dby (z + 1) - 719162) := by show _ = _; rw [hs, hl, hd.out]; omega
          have hD2 : d + 365 + 1 ≤ 3652059 := by have := HD.out; omega
          clear hs hb
          go_wp2_with (go_at_call 70; refine (leap_any z (by omega) _).mono ?_; rintro e w9 ⟨rfl, hw9⟩; obtain rfl := hw9.symm; rw [hl])
          go_round
          case rel => exact ⟨z + 1, d + 365 + 1, by omega, by omega, rfl, rfl, HD, by omega, hD2⟩
          case measure => simp [intOf]; omega
      · have hzy : z = y := by omega
        subst hzy
        have HE : Hid (R = d) := HR.out.trans hd.out.symm
        clear hlt
        go_wp2
        go_loop [3, 5] (fun n x => n = .int .i64 d ∧ x = .int .i64 z) (fun _ _ => 0)
        case atStart => exact ⟨rfl, rfl⟩
        case round =>
          obtain ⟨rfl, rfl⟩ := hrel
          go_wp2
          go_ret
          exact ⟨by rw [HE.out]; rfl, rfl⟩
  · go_enter Tryd.func51, Tryd.ntmps51
    go_wp2
    go_loop [3, 4] (fun n x => n = .int .i64 0 ∧ x = .int .i64 1970) (fun _ _ => 0)
    case atStart => exact ⟨rfl, rfl⟩
    case round =>
      obtain ⟨rfl, rfl⟩ := hrel
      go_wp2
      go_loop [3, 5] (fun n x => ∃ z d : Int, y ≤ z ∧ z ≤ 1970 ∧ x = .int .i64 z ∧ n = .int .i64 d ∧ Hid (d = dby y - dby z) ∧ d ≤ 0 ∧ -719162 ≤ d) (fun _ x => (1970 - intOf x).toNat)
      case atStart => exact ⟨y, 0, by omega, by omega, rfl, rfl, (by omega : (0 : Int) = dby y - dby y), by omega, by omega⟩
      case round =>
        obtain ⟨z, d, hz1, hz2, rfl, rfl, hd, hd0, hd1⟩ := hrel
        by_cases hlt : z < 1970
        · have hs := dby_succ z (by omega)
          have hm := dby_mono (z + 1) 1970 (by omega) (by omega)
          have hb := dby_bd y h0 h1
          rw [dby_1970] at hm
          rcases lpI_01 z with hl | hl
          · have HD : Hid (d - 365 = dby y - dby (z + 1)) := by show _ = _; rw [hs, hl, hd.out]; omega
            have hD2 : -719162 ≤ d - 365 := by have := HD.out; omega
            clear hs hb hm
            go_wp2_with (go_at_call 70; refine (leap_any z (by omega) _).mono ?_; rintro e w9 ⟨rfl, hw9⟩; obtain rfl := hw9.symm; rw [hl])
            go_round
            case rel => exact ⟨z + 1, d - 365, by omega, by omega, rfl, rfl, HD, by omega, hD2⟩
            case measure => simp [intOf]; omega
          · have HD : Hid (d - 365 - 1 = dby y - dby (z + 1)) := by show _ = _; rw [hs, hl, hd.out]; omega
            have hD2 : -719162 ≤ d - 365 - 1 := by have := HD.out; omega
            clear hs hb hm
            go_wp2_with (go_at_call 70; refine (leap_any z (by omega) _).mono ?_; rintro e w9 ⟨rfl, hw9⟩; obtain rfl := hw9.symm; rw [hl])
            go_round
            case rel => exact ⟨z + 1, d - 365 - 1, by omega, by omega, rfl, rfl, HD, by omega, hD2⟩
            case measure => simp [intOf]; omega
        · have hzy : z = 1970 := by omega
          subst hzy
          have HE : Hid (R = d) := by show _ = _; rw [HR.out, hd.out, dby_1970]
          clear hlt
          go_wp2
          go_ret
          exact ⟨by rw [HE.out]; rfl, rfl⟩
end Go.Proofs.YtnidfbcninkglaaDoor
