/-
  Bytes doubled, turned, and their boxes: the small functions of both.
-/
import Derived.Test.YtobglgddbhddnaaBase
namespace Go.Proofs.Ytobglgddbhddnaa
open Go.RowKit
set_option linter.unusedVariables false

theorem ret8 {a b : Int} (h : a = b) : Ending.returned (Value.int .u8 a) = Ending.returned (Value.int .u8 b) := by rw [h]

theorem dbl_num (x : By) : Go.bits .xor .u8 ((x.toNat : Int) * 2 % 256) ((x.toNat : Int) / 128 * 27) = ((dbl x).toNat : Int) := by
  revert x
  refine all_bytes ?_
  decide +kernel
theorem dbl_num1 (x : By) (h : ((x.toNat : Int) / 128 == 1) = true) : Go.bits .xor .u8 ((x.toNat : Int) * 2 % 256) 27 = ((dbl x).toNat : Int) := by
  revert x
  refine all_bytes ?_
  decide +kernel
theorem dbl_num0 (x : By) (h : ((x.toNat : Int) / 128 == 1) = false) : (x.toNat : Int) * 2 % 256 = ((dbl x).toNat : Int) := by
  revert x
  refine all_bytes ?_
  decide +kernel

set_option maxRecDepth 100000 in
theorem double_any (x : By) (w : World) : Calls Try.prog 45 #[.int .u8 (x.toNat : Int)] w fun r w' => r = .returned (.int .u8 ((dbl x).toNat : Int)) ∧ w' = w := by
  go_enter Try.func45, Try.ntmps45
  go_wp2
  go_ret
  exact ⟨ret8 (dbl_num x), rfl⟩

/-! Turned. -/
theorem rot_num1 (x : By) : Go.bits .or .u8 ((x.toNat : Int) * 2 % 256) ((x.toNat : Int) / 128) = ((x.rotateLeft 1).toNat : Int) := by
  revert x
  refine all_bytes ?_
  decide +kernel
theorem rot_num2 (x : By) : Go.bits .or .u8 ((x.toNat : Int) * 4 % 256) ((x.toNat : Int) / 64) = ((x.rotateLeft 2).toNat : Int) := by
  revert x
  refine all_bytes ?_
  decide +kernel
theorem rot_num3 (x : By) : Go.bits .or .u8 ((x.toNat : Int) * 8 % 256) ((x.toNat : Int) / 32) = ((x.rotateLeft 3).toNat : Int) := by
  revert x
  refine all_bytes ?_
  decide +kernel
theorem rot_num4 (x : By) : Go.bits .or .u8 ((x.toNat : Int) * 16 % 256) ((x.toNat : Int) / 16) = ((x.rotateLeft 4).toNat : Int) := by
  revert x
  refine all_bytes ?_
  decide +kernel

set_option maxRecDepth 100000 in
theorem rot1_any (x : By) (w : World) : Calls Try.prog 65 #[.int .u8 (x.toNat : Int), .int .i64 1] w fun r w' => r = .returned (.int .u8 ((x.rotateLeft 1).toNat : Int)) ∧ w' = w := by
  have h : Go.bits .and .u64 1 7 = 1 := by decide
  go_enter Try.func65, Try.ntmps65
  go_wp2
  go_ret
  exact ⟨ret8 (rot_num1 x), rfl⟩
set_option maxRecDepth 100000 in
theorem rot2_any (x : By) (w : World) : Calls Try.prog 65 #[.int .u8 (x.toNat : Int), .int .i64 2] w fun r w' => r = .returned (.int .u8 ((x.rotateLeft 2).toNat : Int)) ∧ w' = w := by
  have h : Go.bits .and .u64 2 7 = 2 := by decide
  go_enter Try.func65, Try.ntmps65
  go_wp2
  go_ret
  exact ⟨ret8 (rot_num2 x), rfl⟩
set_option maxRecDepth 100000 in
theorem rot3_any (x : By) (w : World) : Calls Try.prog 65 #[.int .u8 (x.toNat : Int), .int .i64 3] w fun r w' => r = .returned (.int .u8 ((x.rotateLeft 3).toNat : Int)) ∧ w' = w := by
  have h : Go.bits .and .u64 3 7 = 3 := by decide
  go_enter Try.func65, Try.ntmps65
  go_wp2
  go_ret
  exact ⟨ret8 (rot_num3 x), rfl⟩
set_option maxRecDepth 100000 in
theorem rot4_any (x : By) (w : World) : Calls Try.prog 65 #[.int .u8 (x.toNat : Int), .int .i64 4] w fun r w' => r = .returned (.int .u8 ((x.rotateLeft 4).toNat : Int)) ∧ w' = w := by
  have h : Go.bits .and .u64 4 7 = 4 := by decide
  go_enter Try.func65, Try.ntmps65
  go_wp2
  go_ret
  exact ⟨ret8 (rot_num4 x), rfl⟩

theorem bo_num (x : By) : Go.bits .xor .u8 (Go.bits .xor .u8 (Go.bits .xor .u8 (Go.bits .xor .u8 (Go.bits .xor .u8 (x.toNat : Int) ((x.rotateLeft 1).toNat : Int)) ((x.rotateLeft 2).toNat : Int)) ((x.rotateLeft 3).toNat : Int)) ((x.rotateLeft 4).toNat : Int)) 99 = ((bo x).toNat : Int) := by
  rw [xorB, xorB, xorB, xorB]
  exact xorB _ 0x63#8

set_option maxRecDepth 100000 in
theorem boxOf_any (x : By) (w : World) : Calls Try.prog 46 #[.int .u8 (x.toNat : Int)] w fun r w' => r = .returned (.int .u8 ((bo x).toNat : Int)) ∧ w' = w := by
  go_enter Try.func46, Try.ntmps46
  go_wp2_with (first | (go_at_call_of 65 (Value.int .i64 1); refine (rot1_any x _).mono ?_; rintro r w1 ⟨rfl, hw1⟩; rw [hw1]) | (go_at_call_of 65 (Value.int .i64 2); refine (rot2_any x _).mono ?_; rintro r w1 ⟨rfl, hw1⟩; rw [hw1]) | (go_at_call_of 65 (Value.int .i64 3); refine (rot3_any x _).mono ?_; rintro r w1 ⟨rfl, hw1⟩; rw [hw1]) | (go_at_call_of 65 (Value.int .i64 4); refine (rot4_any x _).mono ?_; rintro r w1 ⟨rfl, hw1⟩; rw [hw1]))
  go_ret
  exact ⟨ret8 (bo_num x), rfl⟩

theorem rot_numN (x : By) (n q : Nat) (h0 : 0 < n) (h : n ≤ 4) (hq : (8 : Int) - n = q) : Go.bits .or .u8 (IntKind.u8.wrap ((x.toNat : Int) * 2 ^ n)) ((x.toNat : Int) / 2 ^ q) = ((x.rotateLeft n).toNat : Int) := by
  have h1 := rot_num1 x
  have h2 := rot_num2 x
  have h3 := rot_num3 x
  have h4 := rot_num4 x
  have : n = 1 ∧ q = 7 ∨ n = 2 ∧ q = 6 ∨ n = 3 ∧ q = 5 ∨ n = 4 ∧ q = 4 := by omega
  rw [IntKind.wrap_u8]
  rcases this with ⟨rfl, rfl⟩ | ⟨rfl, rfl⟩ | ⟨rfl, rfl⟩ | ⟨rfl, rfl⟩
  · exact h1
  · exact h2
  · exact h3
  · exact h4

end Go.Proofs.Ytobglgddbhddnaa
