/-
  The live question.
-/
import Derived.Test.YtnahkcapbbjfdaaRoot
import Derived.Test.YtnahkcapbbjfdaaRtp
namespace Go.Proofs.Ytnahkcapbbjfdaa
open Go.RowKit
set_option linter.unusedVariables false

theorem pw_lit (b n p v : Nat) {x M : Int} {e : Nat} (hx : x = b) (hM : M = p) (he : e = n) (hn : n < 2 ^ 256) (hv : pm 256 b n p = v) : x ^ e % M = v := by
  subst hx hM he
  rw [← hv, pm_eq _ _ _ _ hn]
  push_cast
  rfl
def p255 : Nat := 57896044618658097711785492504343953926634992332820282019728792003956564819949
theorem moP1 : mo 1 = (p255 : Int) := by decide +kernel
theorem pw4 : (4 : Int) ^ e255.toNat % mo 1 = (39362322753415011913614158609977084030892133031847780325488042146247659569504 : Nat) :=
  pw_lit 4 7237005577332262213973186563042994240829374041602535252466099000494570602494 p255 _ rfl moP1 (by decide +kernel) (by decide +kernel) (by decide +kernel)
theorem pw2 : (2 : Int) ^ (mo 1 - 2).toNat % mo 1 = (28948022309329048855892746252171976963317496166410141009864396001978282409975 : Nat) :=
  pw_lit 2 57896044618658097711785492504343953926634992332820282019728792003956564819947 p255 _ rfl moP1 (by decide +kernel) (by decide +kernel) (by decide +kernel)
theorem mr4 : mr1 4 = 57896044618658097711785492504343953926634992332820282019728792003956564819947 := by
  unfold mr1
  rw [pw4, moP1]
  decide +kernel
theorem root4 : rootN 1 4 (mr1 4) = 2 ∧ decide (mr1 4 * mr1 4 % mo 1 = 4 % mo 1) = true := by
  rw [mr4, moP1]
  unfold rootN
  rw [moP1]
  decide +kernel
theorem num_set4 : (num 0).setIfInBounds 0 (.int .u64 4) = num 4 := by kernel_rfl
theorem N4 : N256 4 := ⟨by decide, by decide⟩
def h2 : Int := 28948022309329048855892746252171976963317496166410141009864396001978282409975
theorem num_h2 : ((((num 0).setIfInBounds 0 (.int .u64 18446744073709551607)).setIfInBounds 1 (.int .u64 18446744073709551615)).setIfInBounds 2 (.int .u64 18446744073709551615)).setIfInBounds 3 (.int .u64 4611686018427387903) = num h2 := by kernel_rfl
theorem N_h2 : N256 h2 := by constructor <;> decide +kernel
theorem num_two : num 2 = #[.int .u64 2, .int .u64 0, .int .u64 0, .int .u64 0] := by kernel_rfl

set_option maxRecDepth 100000 in
set_option maxHeartbeats 8000000 in
theorem head_any (w : World) : Calls Try.prog 9 #[] w fun r w' => r = .returned (.bool true) ∧ Chg w w' := by
  have hz := zero25.1
  have HK : Hid ((∀ W, Calls Try.prog 27 #[.int .i64 1, .agg (num 4)] W fun r w' => r = .returned (.tuple #[.agg (num 2), .bool true]) ∧ Chg W w') ∧ (∀ W, Calls Try.prog 26 #[.int .i64 1, .agg (num 2)] W fun r w' => r = .returned (.agg (num h2)) ∧ Chg W w')) := by
    refine ⟨fun W => ?_, fun W => ?_⟩
    · have := root1_any 4 N4 W
      rw [root4.1, root4.2] at this
      exact this
    · have := inv_any 1 2 (.inl rfl) N2 W
      rw [pw2] at this
      exact this
  go_enter Try.func9, Try.ntmps9
  go_wp2_with fail
  rw [num_set4]
  go_at_call 27
  refine (HK.out.1 _).mono ?_
  rintro r w1 ⟨rfl, hc1⟩
  have Z1 : Hid (Chg w w1) := hc1
  clear hc1
  go_upto_region 2 with (first | refine wpList_store_row rfl 25 _ _ rfl _ _ rfl rfl _ _ (heap_alloc_last w1 _) (szN 2) (lenN 0 2) (num_one 2) ?_)
  obtain ⟨b, hb⟩ : ∃ b, b = w1.heap.size := ⟨_, rfl⟩
  obtain ⟨w2, hw2⟩ : ∃ w4, w4 = (w1.alloc (.cells (num 0) 25)).setRow w1.heap.size (num 2) := ⟨_, rfl⟩
  have Z2 : Hid (Chg w w2 ∧ Ar w2 b (num 2)) := by
    have q := Z1.out.size
    rw [hw2, hb]
    exact ⟨(Z1.out.alloc _).setRow (by omega) _, (Ar.new w1 _ _).row _⟩
  rw [← hw2, ← hb]
  clear hw2 hb Z1
  go_wp2_with fail
  rw [num_set2]
  go_at_call 26
  refine (HK.out.2 _).mono ?_
  rintro r w3 ⟨rfl, hc3⟩
  have Z3 : Hid (Chg w w3 ∧ Ar w3 b (num 2)) := ⟨Z2.out.1.trans hc3, Z2.out.2.chg hc3⟩
  clear hc3 Z2
  obtain ⟨x0, x1, x2, x3⟩ := Ar.four (d := dg B64 2) Z3.out.2
  rw [show dg B64 2 0 = 2 by decide +kernel] at x0
  rw [show dg B64 2 1 = 0 by decide +kernel] at x1
  rw [show dg B64 2 2 = 0 by decide +kernel] at x2
  rw [show dg B64 2 3 = 0 by decide +kernel] at x3
  have e1 : ∀ u, (Op.equalIn 10000 25 (.agg (num h2)) (.agg (((((num 0).setIfInBounds 0 (.int .u64 18446744073709551607)).setIfInBounds 1 (.int .u64 18446744073709551615)).setIfInBounds 2 (.int .u64 18446744073709551615)).setIfInBounds 3 (.int .u64 4611686018427387903)))).run Try.prog u = .ok true u := fun u => by
    rw [num_h2, run_eqNum N_h2 N_h2, decide_eq_true rfl]
  have e2 : ∀ u, (Op.equalIn 10000 25 (.agg #[.int .u64 2, .int .u64 0, .int .u64 0, .int .u64 0]) (.agg ((num 0).setIfInBounds 0 (.int .u64 2)))).run Try.prog u = .ok true u := fun u => by
    rw [num_set2, ← num_two, run_eqNum N2 N2, decide_eq_true rfl]
  go_wp2_with fail
  go_ret
  exact ⟨rfl, Z3.out.1⟩
end Go.Proofs.Ytnahkcapbbjfdaa
