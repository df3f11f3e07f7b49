/-
  Words of 32 bits: as cells, as Go reckons them; turned.
-/
import Derived.Test.YtkdidacebfkdmaaApB
namespace Go.Proofs.Ytkdidacebfkdmaa
open Go.RowKit
set_option linter.unusedVariables false

def wa (n : Nat) (f : Nat → Wd) : Array Value := arr .u32 n fun i => ((f i).toNat : Int)
theorem wa_size (n : Nat) (f : Nat → Wd) : (wa n f).size = n := arr_size _ _ _
theorem wa_get (n : Nat) (f : Nat → Wd) {i : Nat} (h : i < n) : (wa n f)[i]? = some (.int .u32 ((f i).toNat : Int)) := arr_get _ _ _ h
theorem wa_set (n : Nat) (f : Nat → Wd) (i : Nat) (x : Wd) : (wa n f).setIfInBounds i (.int .u32 (x.toNat : Int)) = wa n (updW f i x) := by
  unfold wa
  rw [arr_set]
  congr 1
  funext j
  unfold upd updW
  split <;> rfl
theorem wa_congr {n : Nat} {f g : Nat → Wd} (h : EqN n f g) : wa n f = wa n g := by
  apply Array.ext_getElem?
  intro j
  by_cases hj : j < n
  · rw [wa_get _ _ hj, wa_get _ _ hj, h j hj]
  · simp [wa, arr, hj]
theorem wa_one (n : Nat) (f : Nat → Wd) : (wa n f).all (·.oneCell') = true := arr_one _ _ _
def zW : Nat → Wd := fun _ => 0#32
theorem zero42 : (∀ w, (zeroValue 42).run Try.prog w = .ok (.agg (wa 16 zW)) w) ∧ (Try.prog.info? 42).map (·.size) = some 16 := zero_of_info (by kernel_rfl)
theorem und42 : Try.prog.underlying 42 = some (.array 16 23) := by kernel_rfl
theorem i42 : (Try.prog.info? 42).map (·.size) = some 16 := by kernel_rfl
theorem szW (f : Nat → Wd) : (Try.prog.info? 42).map (·.size) = some (wa 16 f).size := by rw [wa_size]; exact i42
theorem lenW (n : Nat) (f g : Nat → Wd) : (wa n f).size = (wa n g).size := by rw [wa_size, wa_size]

theorem nmXor (x y : Wd) : ∃ z : Wd, Hid (z = x ^^^ y) ∧ Go.bits .xor .u32 (x.toNat : Int) (y.toNat : Int) = (z.toNat : Int) := ⟨_, rfl, by rw [u32_xor_nat _ _ x.isLt y.isLt, BitVec.toNat_xor]⟩
theorem nmOr (x y : Wd) : ∃ z : Wd, Hid (z = x ||| y) ∧ Go.bits .or .u32 (x.toNat : Int) (y.toNat : Int) = (z.toNat : Int) := ⟨_, rfl, by rw [u32_or_nat _ _ x.isLt y.isLt, BitVec.toNat_or]⟩
theorem nmAdd (x y : Wd) : ∃ z : Wd, Hid (z = x + y) ∧ IntKind.u32.wrap ((x.toNat : Int) + (y.toNat : Int)) = (z.toNat : Int) := ⟨_, rfl, by rw [BitVec.toNat_add, IntKind.wrap_u32]; omega⟩
theorem rot_num (x : Wd) (k : Nat) (h0 : 0 < k) (h : k < 32) : Go.bits .or .u32 ((x.toNat : Int) * 2 ^ k % 4294967296) ((x.toNat : Int) / 2 ^ (32 - k)) = ((x.rotateLeft k).toNat : Int) := by
  have e : x.rotateLeft k = x <<< k ||| x >>> (32 - k) := by
    unfold BitVec.rotateLeft BitVec.rotateLeftAux
    rw [Nat.mod_eq_of_lt h]
  have e1 : (x.toNat : Int) * 2 ^ k % 4294967296 = ((x <<< k).toNat : Int) := by
    rw [BitVec.toNat_shiftLeft, Nat.shiftLeft_eq]
    simp
  have e2 : (x.toNat : Int) / 2 ^ (32 - k) = ((x >>> (32 - k)).toNat : Int) := by
    rw [BitVec.toNat_ushiftRight, Nat.shiftRight_eq_div_pow]
    simp
  rw [e1, e2, u32_or_nat _ _ (BitVec.isLt _) (BitVec.isLt _), e, BitVec.toNat_or]

theorem ret32 {a b : Int} (h : a = b) : Ending.returned (Value.int .u32 a) = Ending.returned (Value.int .u32 b) := by rw [h]

set_option maxRecDepth 100000 in
theorem rot16_any (x : Wd) (w : World) : Calls Try.prog 37 #[.int .u32 (x.toNat : Int), .int .i64 16] w fun r w' => r = .returned (.int .u32 ((x.rotateLeft 16).toNat : Int)) ∧ w' = w := by
  have h : Go.bits .and .u64 16 31 = 16 := by decide
  go_enter Try.func37, Try.ntmps37
  go_wp2
  go_ret
  exact ⟨ret32 (rot_num x 16 (by decide) (by decide)), rfl⟩
set_option maxRecDepth 100000 in
theorem rot12_any (x : Wd) (w : World) : Calls Try.prog 37 #[.int .u32 (x.toNat : Int), .int .i64 12] w fun r w' => r = .returned (.int .u32 ((x.rotateLeft 12).toNat : Int)) ∧ w' = w := by
  have h : Go.bits .and .u64 12 31 = 12 := by decide
  go_enter Try.func37, Try.ntmps37
  go_wp2
  go_ret
  exact ⟨ret32 (rot_num x 12 (by decide) (by decide)), rfl⟩
set_option maxRecDepth 100000 in
theorem rot8_any (x : Wd) (w : World) : Calls Try.prog 37 #[.int .u32 (x.toNat : Int), .int .i64 8] w fun r w' => r = .returned (.int .u32 ((x.rotateLeft 8).toNat : Int)) ∧ w' = w := by
  have h : Go.bits .and .u64 8 31 = 8 := by decide
  go_enter Try.func37, Try.ntmps37
  go_wp2
  go_ret
  exact ⟨ret32 (rot_num x 8 (by decide) (by decide)), rfl⟩
set_option maxRecDepth 100000 in
theorem rot7_any (x : Wd) (w : World) : Calls Try.prog 37 #[.int .u32 (x.toNat : Int), .int .i64 7] w fun r w' => r = .returned (.int .u32 ((x.rotateLeft 7).toNat : Int)) ∧ w' = w := by
  have h : Go.bits .and .u64 7 31 = 7 := by decide
  go_enter Try.func37, Try.ntmps37
  go_wp2
  go_ret
  exact ⟨ret32 (rot_num x 7 (by decide) (by decide)), rfl⟩
theorem rot_numN (x : Wd) (n q : Nat) (h0 : 0 < n) (h : n < 32) (hq : (32 : Int) - n = q) : Go.bits .or .u32 (IntKind.u32.wrap ((x.toNat : Int) * 2 ^ n)) ((x.toNat : Int) / 2 ^ q) = ((x.rotateLeft n).toNat : Int) := by
  have e : q = 32 - n := by omega
  rw [IntKind.wrap_u32, e]
  exact rot_num x n h0 h
set_option maxRecDepth 100000 in
theorem left_any (x : Wd) (n : Nat) (w : World) (h0 : 0 < n) (h : n < 32) : Calls Try.prog 38 #[.int .u32 (x.toNat : Int), .int .i64 n] w fun r w' => r = .returned (.int .u32 ((x.rotateLeft n).toNat : Int)) ∧ ∃ m, w' = w.drewN m := by
  obtain ⟨q, hq⟩ : ∃ q : Nat, (32 : Int) - n = q := ⟨32 - n, by omega⟩
  have e3 := wrap_i (x := q) (by omega) (by omega)
  have l1 : (n : Int) < 32 := by omega
  have l2 : (q : Int) < 32 := by omega
  have l3 : n < 64 := by omega
  have l4 : q < 64 := by omega
  have HR : Hid (Go.bits .or .u32 (IntKind.u32.wrap ((x.toNat : Int) * 2 ^ n)) ((x.toNat : Int) / 2 ^ q) = ((x.rotateLeft n).toNat : Int)) := rot_numN x n q h0 h hq
  clear h0 h
  go_enter Try.func38, Try.ntmps38
  go_wp2_with fail
  go_quiet (fail)
  all_goals go_wp2
  all_goals
    go_ret
    exact ⟨ret32 HR.out, nq, rfl⟩
end Go.Proofs.Ytkdidacebfkdmaa
