/-
  The live question of the locks: head.
-/
import Derived.Test.YtfnibmfmjglmlaaSe
import Derived.Test.YtfnibmfmjglmlaaGdp
namespace Go.Proofs.Ytfnibmfmjglmlaa
open Go.RowKit
set_option linter.unusedVariables false

theorem nb_zero : nb 0 = 0 := rfl
theorem lens_zero : lens 0 0 = 0#128 := by decide +kernel
theorem ghash_nil (h ta tx : Nat → By) (j : Nat) (hj : j < 16) : ghash h ta 0 tx 0 j = 0#8 := by
  unfold ghash
  rw [nb_zero, lens_zero]
  show byt (pr (0#128 ^^^ 0#128) (pol h)) j = 0#8
  rw [BitVec.xor_self, pr_zero_left]
  have : ∀ j, j < 16 → byt 0#128 j = 0#8 := by decide +kernel
  exact this j hj
theorem head_tag {k : Nat → By} (hk : Ks 4 44 zB k) (ta tx : Nat → By) : nums 16 (sealF 10 k zB ta 0 tx 0) = nums 16 gAns := by
  refine nums_congr fun j hj => ?_
  rw [sealF, if_neg (by omega), tagF, xr, Nat.sub_zero, ghash_nil _ _ _ _ hj, BitVec.zero_xor, ← gEnc (k := k) hk j hj]
  refine E16.enc (fun _ _ => rfl) (fun i hi => ?_) j hj
  unfold ctrB gBlk zB
  by_cases h1 : i = 15
  · rw [if_neg (by omega), if_pos h1]
  · rw [if_neg h1]
    split <;> rfl

set_option maxRecDepth 100000 in
set_option maxHeartbeats 4000000 in
theorem ghead_any (w : World) : Calls Try.prog 14 #[] w fun r w' => r = .returned (.bool true) ∧ Chg w w' := by
  have hz := zero38.1
  have hmk : ∀ u, (Instr.makeSlice 22 (.int .i64 16) (.int .i64 16)).run Try.prog u = .ok (.slice (some ⟨u.heap.size, 0, none⟩) 16 16) (u.alloc (.cells (ba 16 zB) 5)) := mk22 16 (by decide)
  go_enter Try.func14, Try.ntmps14
  go_wp2_with fail
  obtain ⟨w1, hw1⟩ : ∃ w1, w1 = w.alloc (.cells (ba 16 zB) 5) := ⟨_, rfl⟩
  have Z1 : Hid (Chg w w1 ∧ Bs w1 w.heap.size 0 16 zB) := by
    rw [hw1]
    exact ⟨(Chg.refl w).alloc _, Ar.bs (Ar.new w _ _)⟩
  rw [← hw1]
  clear hw1
  go_at_call 20
  refine (seal_any w.heap.size 0 16 16 4 10 zB zB zB zB 0 0 (.slice none 0 0) (.slice none 0 0) w1 Z1.out.2 rfl (.inl rfl) rfl (Nat.le_refl _) (by decide) (Ap.Rd.nil w1) (Ap.Rd.nil w1) (by decide) (by decide)).mono ?_
  rintro r w2 ⟨k, v, rfl, ho, hks⟩
  obtain ⟨ao, m, c, rfl, hm, -⟩ := ho.own.rd.shape
  have hr := ho.own.rd
  rw [show 0 + 16 = 16 from rfl, head_tag hks] at hr
  have Z2 : Hid (Chg w w2 ∧ Ap.Rd w2 (.slice ao m c) (nums 16 gAns)) := ⟨Z1.out.1.trans ho.chg, hr⟩
  have hstr := Ap.run_str w2 _ _ hr
  clear ho hks hm hr Z1
  have heq : ((strOfNums (nums 16 gAns)).toList == [88, 226, 252, 206, 250, 126, 48, 97, 54, 127, 29, 87, 164, 231, 69, 90]) = true := by decide +kernel
  go_wp2
  go_ret
  exact ⟨rfl, Z2.out.1⟩
end Go.Proofs.Ytfnibmfmjglmlaa
