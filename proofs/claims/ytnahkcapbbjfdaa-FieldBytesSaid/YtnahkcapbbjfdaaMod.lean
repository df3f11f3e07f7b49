/-
  The moduli, and the quotients' numbers, as the program tells them.
-/
import Derived.Test.YtnahkcapbbjfdaaNum
import Derived.Test.YtnahkcapbbjfdaaBase2
namespace Go.Proofs.Ytnahkcapbbjfdaa
open Go.RowKit
set_option linter.unusedVariables false

/-- The modulus of a field; 0 of none. -/
def mo (f : Int) : Int :=
  if f = 1 then 57896044618658097711785492504343953926634992332820282019728792003956564819949
  else if f = 2 then 115792089210356248762697446949407573530086143415290314195533631308867097853951
  else if f = 3 then 115792089210356248762697446949407573529996955224135760342422259061068512044369
  else if f = 4 then 7237005577332262213973186563042994240857116359379907606001950938285454250989
  else 0

theorem num_0 : num 0 = #[.int .u64 0, .int .u64 0, .int .u64 0, .int .u64 0] := by kernel_rfl
theorem num_1 : num (mo 1) = #[.int .u64 0xffffffffffffffed, .int .u64 0xffffffffffffffff, .int .u64 0xffffffffffffffff, .int .u64 0x7fffffffffffffff] := by kernel_rfl
theorem num_2 : num (mo 2) = #[.int .u64 0xffffffffffffffff, .int .u64 0x00000000ffffffff, .int .u64 0, .int .u64 0xffffffff00000001] := by kernel_rfl
theorem num_3 : num (mo 3) = #[.int .u64 0xf3b9cac2fc632551, .int .u64 0xbce6faada7179e84, .int .u64 0xffffffffffffffff, .int .u64 0xffffffff00000000] := by kernel_rfl
theorem num_4 : num (mo 4) = #[.int .u64 0x5812631a5cf5d3ed, .int .u64 0x14def9dea2f79cd6, .int .u64 0, .int .u64 0x1000000000000000] := by kernel_rfl

theorem mo_N (f : Int) : N256 (mo f) := by
  unfold mo N256
  repeat' split
  all_goals exact ⟨by decide, by decide⟩

theorem prime1_any (w : World) : Calls Try.prog 50 #[] w fun r w' => r = .returned (.agg (num (mo 1))) ∧ Chg w w' := by
  rw [num_1]
  go_enter Try.func50, Try.ntmps50
  go_wp2
  refine bp_c (n := 4) Try.results50 rfl rfl (Ar.new w _ 25) u25 i25 rfl ⟨rfl, (Chg.refl w).alloc _⟩

theorem prime2_any (w : World) : Calls Try.prog 51 #[] w fun r w' => r = .returned (.agg (num (mo 2))) ∧ Chg w w' := by
  rw [num_2]
  go_enter Try.func51, Try.ntmps51
  go_wp2
  refine bp_c (n := 4) Try.results51 rfl rfl (Ar.new w _ 25) u25 i25 rfl ⟨rfl, (Chg.refl w).alloc _⟩

theorem order3_any (w : World) : Calls Try.prog 52 #[.agg #[]] w fun r w' => r = .returned (.agg (num (mo 3))) ∧ Chg w w' := by
  rw [num_3]
  go_enter Try.func52, Try.ntmps52
  go_wp2
  refine bp_c (n := 4) Try.results52 rfl rfl ?_ u25 i25 rfl ⟨rfl, ((Chg.refl w).alloc _).alloc _⟩
  exact Ar.new1 _ _ _ _

theorem order4_any (w : World) : Calls Try.prog 53 #[.agg #[]] w fun r w' => r = .returned (.agg (num (mo 4))) ∧ Chg w w' := by
  rw [num_4]
  go_enter Try.func53, Try.ntmps53
  go_wp2
  refine bp_c (n := 4) Try.results53 rfl rfl ?_ u25 i25 rfl ⟨rfl, ((Chg.refl w).alloc _).alloc _⟩
  exact Ar.new1 _ _ _ _

end Go.Proofs.Ytnahkcapbbjfdaa
