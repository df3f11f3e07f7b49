/-
  Is a moment right; its seconds.
-/
import Derived.Test.YtnidfbcninkglaaDoorTm
namespace Go.Proofs.YtnidfbcninkglaaDoor
open Go.RowKit
set_option linter.unusedVariables false
set_option maxRecDepth 100000

def rightB (y m d h i s : Int) : Bool := decide (1 ≤ y) && (decide (1 ≤ m) && (decide (m ≤ 12) && (decide (1 ≤ d) && (decide (d ≤ dimI y m) && (decide (h ≤ 23) && (decide (i ≤ 59) && decide (s ≤ 59)))))))
def momV (y m d h i s : Int) : Value := .agg #[.int .i64 y, .int .i64 m, .int .i64 d, .int .i64 h, .int .i64 i, .int .i64 s]

set_option maxHeartbeats 6400000 in
theorem right_any (y m d h i s : Int) (hy : 0 ≤ y) (w : World) :
    Calls Tryd.prog 48 #[momV y m d h i s] w fun e w' => e = .returned (.bool (rightB y m d h i s)) ∧ Chg Non w w' := by
  unfold momV
  obtain ⟨K, hK⟩ : ∃ K, K = dimI y m := ⟨_, rfl⟩
  have HC : Hid (∀ u, Calls Tryd.prog 68 #[.int .i64 y, .int .i64 m] u fun e w' => e = .returned (.int .i64 K) ∧ w' = u) := fun u => by rw [hK]; exact daysIn_any y m hy u
  unfold rightB
  rw [← hK]
  clear hK

  by_cases c0 : 1 ≤ y
  rotate_left
  · have d0 : decide (1 ≤ y) = false := by simpa using c0
    rw [d0]
    go_enter Tryd.func48, Tryd.ntmps48
    go_wp2
    go_quiet ((go_at_call 68; exact Calls.quiet_of_same (HC.out _)))
    go_wp2
    go_ret
    exact ⟨rfl, ((Chg.refl _ _).alloc _).drewN _⟩
  have d0 : decide (1 ≤ y) = true := by simpa using c0
  by_cases c1 : 1 ≤ m
  rotate_left
  · have d1 : decide (1 ≤ m) = false := by simpa using c1
    rw [d0, d1]
    go_enter Tryd.func48, Tryd.ntmps48
    go_wp2
    go_quiet ((go_at_call 68; exact Calls.quiet_of_same (HC.out _)))
    go_wp2
    go_ret
    exact ⟨rfl, ((Chg.refl _ _).alloc _).drewN _⟩
  have d1 : decide (1 ≤ m) = true := by simpa using c1
  by_cases c2 : m ≤ 12
  rotate_left
  · have d2 : decide (m ≤ 12) = false := by simpa using c2
    rw [d0, d1, d2]
    go_enter Tryd.func48, Tryd.ntmps48
    go_wp2
    go_quiet ((go_at_call 68; exact Calls.quiet_of_same (HC.out _)))
    go_wp2
    go_ret
    exact ⟨rfl, ((Chg.refl _ _).alloc _).drewN _⟩
  have d2 : decide (m ≤ 12) = true := by simpa using c2
  by_cases c3 : 1 ≤ d
  rotate_left
  · have d3 : decide (1 ≤ d) = false := by simpa using c3
    rw [d0, d1, d2, d3]
    go_enter Tryd.func48, Tryd.ntmps48
    go_wp2
    go_quiet ((go_at_call 68; exact Calls.quiet_of_same (HC.out _)))
    go_wp2
    go_ret
    exact ⟨rfl, ((Chg.refl _ _).alloc _).drewN _⟩
  have d3 : decide (1 ≤ d) = true := by simpa using c3
  by_cases c4 : d ≤ K
  rotate_left
  · have d4 : decide (d ≤ K) = false := by simpa using c4
    rw [d0, d1, d2, d3, d4]
    go_enter Tryd.func48, Tryd.ntmps48
    go_wp2
    go_quiet ((go_at_call 68; exact Calls.quiet_of_same (HC.out _)))
    go_wp2
    go_ret
    exact ⟨rfl, ((Chg.refl _ _).alloc _).drewN _⟩
  have d4 : decide (d ≤ K) = true := by simpa using c4
  by_cases c5 : h ≤ 23
  rotate_left
  · have d5 : decide (h ≤ 23) = false := by simpa using c5
    rw [d0, d1, d2, d3, d4, d5]
    go_enter Tryd.func48, Tryd.ntmps48
    go_wp2
    go_quiet ((go_at_call 68; exact Calls.quiet_of_same (HC.out _)))
    go_wp2
    go_ret
    exact ⟨rfl, ((Chg.refl _ _).alloc _).drewN _⟩
  have d5 : decide (h ≤ 23) = true := by simpa using c5
  by_cases c6 : i ≤ 59
  rotate_left
  · have d6 : decide (i ≤ 59) = false := by simpa using c6
    rw [d0, d1, d2, d3, d4, d5, d6]
    go_enter Tryd.func48, Tryd.ntmps48
    go_wp2
    go_quiet ((go_at_call 68; exact Calls.quiet_of_same (HC.out _)))
    go_wp2
    go_ret
    exact ⟨rfl, ((Chg.refl _ _).alloc _).drewN _⟩
  have d6 : decide (i ≤ 59) = true := by simpa using c6
  by_cases c7 : s ≤ 59
  rotate_left
  · have d7 : decide (s ≤ 59) = false := by simpa using c7
    rw [d0, d1, d2, d3, d4, d5, d6, d7]
    go_enter Tryd.func48, Tryd.ntmps48
    go_wp2
    go_quiet ((go_at_call 68; exact Calls.quiet_of_same (HC.out _)))
    go_wp2
    go_ret
    exact ⟨rfl, ((Chg.refl _ _).alloc _).drewN _⟩
  have d7 : decide (s ≤ 59) = true := by simpa using c7
  rw [d0, d1, d2, d3, d4, d5, d6, d7]
  go_enter Tryd.func48, Tryd.ntmps48
  go_wp2
  go_quiet ((go_at_call 68; exact Calls.quiet_of_same (HC.out _)))
  go_wp2
  go_ret
  exact ⟨rfl, ((Chg.refl _ _).alloc _).drewN _⟩


def secT (y m d h i s : Int) : Int := -62135596800 + (dby y + cum y m + d - 1) * 86400 + (3600 * h + 60 * i + s)

set_option maxHeartbeats 3200000 in
theorem seconds_any (y m d h i s : Int) (hy0 : 1 ≤ y) (hy1 : y ≤ 9999) (hm0 : 1 ≤ m) (hm1 : m ≤ 12) (hd0 : 1 ≤ d) (hd1 : d ≤ 31) (hh0 : 0 ≤ h) (hh1 : h ≤ 23) (hi0 : 0 ≤ i) (hi1 : i ≤ 59) (hs0 : 0 ≤ s) (hs1 : s ≤ 59) (w : World) :
    Calls Tryd.prog 49 #[momV y m d h i s] w fun e w' => e = .returned (.int .i64 (secT y m d h i s)) ∧ Chg Non w w' := by
  unfold momV
  obtain ⟨B, hB⟩ : ∃ B, B = dby y := ⟨_, rfl⟩
  have hBb := dby_bd y hy0 (by omega)
  have HC : Hid (∀ u, Calls Tryd.prog 69 #[.int .i64 y] u fun e w' => e = .returned (.int .i64 B) ∧ w' = u) := fun u => by rw [hB]; exact daysAhead_any y hy0 (by omega) u
  have HB : Hid (B = dby y) := hB
  rw [← hB] at hBb
  obtain ⟨hB0, hB1⟩ := hBb
  clear hB
  go_enter Tryd.func49, Tryd.ntmps49
  go_wp2
  go_quiet ((go_at_call 69; exact Calls.quiet_of_same (HC.out _)))
  go_wp2
  go_loop [3, 4] (fun n x => ∃ k c : Int, 1 ≤ k ∧ k ≤ m ∧ x = .int .i64 k ∧ n = .int .i64 (B + d - 1 + c) ∧ Hid (c = cum y k) ∧ 0 ≤ c ∧ c ≤ 366) (fun _ x => (m - intOf x).toNat)
  case atStart => exact ⟨1, 0, by omega, by omega, rfl, by simp, (rfl : (0 : Int) = cum y 1), by omega, by omega⟩
  case round =>
    obtain ⟨k, c, hk0, hk1, rfl, rfl, hc, hc0, hc1⟩ := hrel
    by_cases hlt : k < m
    · obtain ⟨K, hK⟩ : ∃ K, K = dimI y k := ⟨_, rfl⟩
      have HC3 : Hid (∀ u, Calls Tryd.prog 68 #[.int .i64 y, .int .i64 k] u fun e w' => e = .returned (.int .i64 K) ∧ w' = u) := fun u => by rw [hK]; exact daysIn_any y k (by omega) u
      have hcs := cum_succ y k hk0 (by omega)
      have hcb := cum_bd y (k + 1) (by omega) (by omega)
      have HCS : Hid (c + K = cum y (k + 1)) := by show _ = _; rw [hcs, ← hc.out, hK]
      have hcK0 : 0 ≤ c + K := by have := HCS.out; omega
      have hcK1 : c + K ≤ 366 := by have := HCS.out; omega
      have hKb := dim_bd y k
      rw [← hK] at hKb
      obtain ⟨hKb0, hKb1⟩ := hKb
      clear hK hcs hcb
      go_wp2_with (go_at_call 68; refine (HC3.out _).mono ?_; rintro e w9 ⟨rfl, hw9⟩; obtain rfl := hw9.symm)
      go_round
      case rel => exact ⟨k + 1, c + K, by omega, by omega, rfl, by congr 1; omega, HCS, hcK0, hcK1⟩
      case measure => simp [intOf]; omega
    · have hkm : k = m := by omega
      subst hkm
      clear hlt
      go_wp2
      go_ret
      refine ⟨ret_int ?_, ((Chg.refl _ _).alloc _).drewN _⟩
      unfold secT
      rw [← HB.out, ← hc.out]
      omega
end Go.Proofs.YtnidfbcninkglaaDoor
