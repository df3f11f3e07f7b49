/-
  A product of two digits with two digits beside it: two digits hold it.
-/
import Derived.Test.YtnahkcapbbjfdaaBase
import Derived.Shelf.Bits.Mul64
namespace Go.Proofs.Ytnahkcapbbjfdaa
open Go.RowKit
set_option linter.unusedVariables false

set_option maxHeartbeats 1000000 in
theorem mul64_nat (x y : Nat) (hx : x < 18446744073709551616) (hy : y < 18446744073709551616) (w : World) :
    Calls Try.prog 85 #[.int .u64 x, .int .u64 y] w fun e w' => e = .returned (.tuple #[.int .u64 ((x * y / 18446744073709551616 : Nat) : Int), .int .u64 ((x * y % 18446744073709551616 : Nat) : Int)]) ∧ w' = w := by
  obtain ⟨bd, bt, bw, hhi⟩ := Lib.mul64_hi x y hx hy
  have p0 := Lib.half_mul_le (a := x / 4294967296) (b := y / 4294967296) (by omega) (by omega)
  have p1 := Lib.half_mul_le (a := x / 4294967296) (b := y % 4294967296) (by omega) (by omega)
  have p2 := Lib.half_mul_le (a := x % 4294967296) (b := y / 4294967296) (by omega) (by omega)
  have q0 : x / 4294967296 * (y / 4294967296) < 18446744073709551616 := by omega
  have q1 : x / 4294967296 * (y % 4294967296) < 18446744073709551616 := by omega
  have q2 : x % 4294967296 * (y / 4294967296) < 18446744073709551616 := by omega
  have q3 : x / 4294967296 * (y / 4294967296) + (x / 4294967296 * (y % 4294967296) + x % 4294967296 * (y % 4294967296) / 4294967296) / 4294967296 < 18446744073709551616 := by omega
  have q4 : x / 4294967296 * (y / 4294967296) + (x / 4294967296 * (y % 4294967296) + x % 4294967296 * (y % 4294967296) / 4294967296) / 4294967296 + ((x / 4294967296 * (y % 4294967296) + x % 4294967296 * (y % 4294967296) / 4294967296) % 4294967296 + x % 4294967296 * (y / 4294967296)) / 4294967296 < 18446744073709551616 := by omega
  go_enter Try.func85, Try.ntmps85
  go_wp2
  simp only [Mul64.maskN x hx, Mul64.maskN y hy, Mul64.divN, Mul64.mulN, Mul64.addN, Mul64.wrapN _ bd, Mul64.wrapN _ q1, Mul64.wrapN _ bt, Mul64.maskN _ bt, Mul64.wrapN _ q2, Mul64.wrapN _ bw, Mul64.wrapN _ q0, Mul64.wrapN _ q3, Mul64.wrapN _ q4, Mul64.wrapM (x * y)]
  rw [hhi]
  go_ret2
  exact ⟨rfl, rfl⟩

theorem mul64_any (x y : Int) (hx : W64 x) (hy : W64 y) (w : World) :
    Calls Try.prog 85 #[.int .u64 x, .int .u64 y] w fun e w' => e = .returned (.tuple #[.int .u64 (x * y / 18446744073709551616), .int .u64 (x * y % 18446744073709551616)]) ∧ w' = w := by
  obtain ⟨x, rfl⟩ := Int.eq_ofNat_of_zero_le hx.1
  obtain ⟨y, rfl⟩ := Int.eq_ofNat_of_zero_le hy.1
  have h1 := hx.2
  have h2 := hy.2
  refine (mul64_nat x y (by omega) (by omega) w).mono ?_
  rintro e w' ⟨rfl, rfl⟩
  exact ⟨by simp, rfl⟩

theorem w64_mul {x y : Int} (hx : W64 x) (hy : W64 y) : 0 ≤ x * y ∧ x * y ≤ 18446744073709551615 * 18446744073709551615 :=
  ⟨Int.mul_nonneg hx.1 hy.1, Int.mul_le_mul (by have := hx.2; omega) (by have := hy.2; omega) hy.1 (by decide)⟩

set_option maxHeartbeats 1000000 in
theorem step_any (x y c d : Int) (hx : W64 x) (hy : W64 y) (hc : W64 c) (hd : W64 d) (w : World) :
    Calls Try.prog 72 #[.int .u64 x, .int .u64 y, .int .u64 c, .int .u64 d] w fun r w' => ∃ lo hi, r = .returned (.tuple #[.int .u64 lo, .int .u64 hi]) ∧ w' = w ∧ W64 lo ∧ W64 hi ∧ lo + hi * 18446744073709551616 = x * y + c + d := by
  have HP : Hid (0 ≤ x * y ∧ x * y ≤ 18446744073709551615 * 18446744073709551615) := w64_mul hx hy
  obtain ⟨hc1, hc2⟩ := hc
  obtain ⟨hd1, hd2⟩ := hd
  go_enter Try.func72, Try.ntmps72
  go_wp2_with fail
  refine (mul64_any x y hx hy _).mono ?_
  rintro e w1 ⟨rfl, rfl⟩
  obtain ⟨h, hh⟩ : ∃ h, h = x * y / 18446744073709551616 := ⟨_, rfl⟩
  obtain ⟨l, hl⟩ : ∃ h, h = x * y % 18446744073709551616 := ⟨_, rfl⟩
  rw [← hh, ← hl]
  obtain ⟨p1, p2⟩ := HP.out
  have hlh : l + h * 18446744073709551616 = x * y := by omega
  have hl0 : 0 ≤ l := by omega
  have hl1 : l < 18446744073709551616 := by omega
  have hh0 : 0 ≤ h := by omega
  have HH : Hid (l + h * 18446744073709551616 = x * y) := hlh
  have hb : l + h * 18446744073709551616 ≤ 340282366920938463426481119284349108225 := by omega
  clear hlh hh hl p1 p2
  obtain ⟨l1, hl1'⟩ : ∃ h, h = (l + c) % 18446744073709551616 := ⟨_, rfl⟩
  obtain ⟨o1, ho1⟩ : ∃ h, h = (l + c) / 18446744073709551616 := ⟨_, rfl⟩
  obtain ⟨l2, hl2'⟩ : ∃ h, h = (l1 + d) % 18446744073709551616 := ⟨_, rfl⟩
  obtain ⟨o2, ho2⟩ : ∃ h, h = (l1 + d) / 18446744073709551616 := ⟨_, rfl⟩
  have e1 := run_add64 l c 0 hl0 hc1 (by omega) (by omega)
  have e2 := run_add64 l1 d 0 (by omega) hd1 (by omega) (by omega)
  simp only [Int.add_zero, ← hl1', ← ho1] at e1
  simp only [Int.add_zero, ← hl2', ← ho2] at e2
  have k1 : IntKind.u64.wrap (h + o1) = h + o1 := by rw [IntKind.wrap_u64]; omega
  have k2 : IntKind.u64.wrap (h + o1 + o2) = h + o1 + o2 := by rw [IntKind.wrap_u64]; omega
  have HE : Hid (l1 = (l + c) % 18446744073709551616 ∧ o1 = (l + c) / 18446744073709551616 ∧ l2 = (l1 + d) % 18446744073709551616 ∧ o2 = (l1 + d) / 18446744073709551616) := ⟨hl1', ho1, hl2', ho2⟩
  clear hl1' ho1 hl2' ho2
  go_wp2
  obtain ⟨g1, g2, g3, g4⟩ := HE.out
  have gh := HH.out
  go_ret2
  refine ⟨l2, h + o1 + o2, rfl, rfl, ⟨by omega, by omega⟩, ⟨by omega, by omega⟩, by omega⟩
end Go.Proofs.Ytnahkcapbbjfdaa
