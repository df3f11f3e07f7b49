/-
  The live question of the locks: head.
-/
import Derived.Test.YtobglgddbhddnaaSe
import Derived.Test.YtobglgddbhddnaaGdp
namespace Go.Proofs.Ytobglgddbhddnaa
open Go.RowKit
set_option linter.unusedVariables false

theorem nb_zero : nb 0 = 0 := rfl
theorem lens_zero : lens 0 0 = 0#128 := by decide +kernel
theorem ghash_nil (h ta tx : Nat → By) (j : Nat) (hj : j < 16) : ghash h ta 0 tx 0 j = 0#8 := by
  unfold ghash
  rw [nb_zero, lens_zero]
  show byt (pr (0#128 ^^^ 0#128) (pol h)) j = 0#8
  rw [BitVec.xor_self, pr_zero_left]
  have : ∀ j, j < 16 → byt 0#128 j = 0#8 := by decide +kernel
  exact this j hj
theorem head_tag {k : Nat → By} (hk : Ks 4 44 zB k) (ta tx : Nat → By) : nums 16 (sealF 10 k zB ta 0 tx 0) = nums 16 gAns := by
  refine nums_congr fun j hj => ?_
  rw [sealF, if_neg (by omega), tagF, xr, Nat.sub_zero, ghash_nil _ _ _ _ hj, BitVec.zero_xor, ← gEnc (k := k) hk j hj]
  refine E16.enc (fun _ _ => rfl) (fun i hi => ?_) j hj
  unfold ctrB gBlk zB
  by_cases h1 : i = 15
  · rw [if_neg (by omega), if_pos h1]
  · rw [if_neg h1]
    split <;> rfl

end Go.Proofs.Ytobglgddbhddnaa
