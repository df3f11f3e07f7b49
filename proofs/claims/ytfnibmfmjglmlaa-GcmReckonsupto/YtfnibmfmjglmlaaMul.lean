/-
  The product of two blocks: Mul.
-/
import Derived.Test.YtfnibmfmjglmlaaPk
import Derived.Test.YtfnibmfmjglmlaaKey
namespace Go.Proofs.Ytfnibmfmjglmlaa
open Go.RowKit
set_option linter.unusedVariables false

/-- The product of two blocks. -/
def mulB (x y : Nat → By) : Nat → By := byt (pr (pol x) (pol y))

set_option maxRecDepth 100000 in
set_option maxHeartbeats 4000000 in
theorem mul_any (x y : Nat → By) (w : World) : Calls Try.prog 15 #[.agg (ba 16 x), .agg (ba 16 y)] w fun r w' => r = .returned (.agg (ba 16 (mulB x y))) ∧ Chg w w' := by
  have hsA := ba_size 16 x
  have hsB := ba_size 16 y
  obtain ⟨A, hA⟩ : ∃ A, A = ba 16 x := ⟨_, rfl⟩
  obtain ⟨B, hB⟩ : ∃ B, B = ba 16 y := ⟨_, rfl⟩
  have HAB : Hid (A = ba 16 x ∧ B = ba 16 y) := ⟨hA, hB⟩
  rw [← hA] at hsA ⊢
  rw [← hB] at hsB ⊢
  clear hA hB
  have hz := zero32.1
  go_enter Try.func15, Try.ntmps15
  go_upto_region 1 with fail
  obtain ⟨w2, hw2⟩ : ∃ w2, w2 = ((w.alloc (.cells A 23)).alloc (.cells B 23)).alloc (.cells (ba 16 zB) 23) := ⟨_, rfl⟩
  have Z : Hid (Chg w w2 ∧ Ar w2 w.heap.size (ba 16 x) ∧ Ar w2 (w.heap.size + 1) (ba 16 y) ∧ Ar w2 (w.heap.size + 1 + 1) (ba 16 zB)) := by
    rw [hw2, HAB.out.1, HAB.out.2]
    exact ⟨(((Chg.refl w).alloc _).alloc _).alloc _, ((Ar.new w _ _).alloc _).alloc _, (Ar.new1 w _ _ _).alloc _, Ar.new2 w _ _ _ _⟩
  rw [← hw2]
  clear hw2 hz hsA hsB
  go_cut [] from 5 to 11 (fun wc => Chg w wc ∧ Ar wc (w.heap.size + 1 + 1) (ba 16 (mulB x y)))
  case first =>
    refine wp_region_vals 6 (fun j => match j with
      | 0 => .agg (ba 16 x)
      | 1 => .agg (pv (pol x))
      | 2 => .agg (ba 16 y)
      | 3 => .agg (pv (pol y))
      | 4 => .agg (pv (pr (pol x) (pol y)))
      | _ => .agg (ba 16 (byt (pr (pol x) (pol y))))) (by kernel_rfl) (by kernel_rfl) (by kernel_rfl) (by kernel_rfl) (by kernel_rfl) (by kernel_rfl) ?_ ?_
    · intro i o a u hi ho hf hg hc
      have hcs : i = 0 ∨ i = 1 ∨ i = 2 ∨ i = 3 ∨ i = 4 ∨ i = 5 := by omega
      rcases hcs with rfl | rfl | rfl | rfl | rfl | rfl
      · injection ho with ho
        subst ho
        have e1 : a.eval (.tmp 2) = .pointer (some ⟨w.heap.size, 0, none⟩) := hf 2 (by kernel_rfl)
        exact wp_load_mid 23 (.tmp 2) rfl _ _ e1 (bl (x)) _ (rangeB (Ar.chg (w := w2.drew) Z.out.2.1 hc)) und32 rfl (bl_info _) ⟨rfl, Chg.refl _⟩
      · injection ho with ho
        subst ho
        have e1 : a.eval (.tmp 5) = .agg (ba 16 x) := hg 0 (by kernel_rfl) (by decide)
        exact op_go 34 Try.f34 #[.tmp 5] #[23] rfl Try.func34 (by kernel_rfl) (by kernel_rfl) (by simp [e1]) (polyOf_any x _)
      · injection ho with ho
        subst ho
        have e1 : a.eval (.tmp 3) = .pointer (some ⟨w.heap.size + 1, 0, none⟩) := hf 3 (by kernel_rfl)
        exact wp_load_mid 23 (.tmp 3) rfl _ _ e1 (bl (y)) _ (rangeB (Ar.chg (w := w2.drew) Z.out.2.2.1 hc)) und32 rfl (bl_info _) ⟨rfl, Chg.refl _⟩
      · injection ho with ho
        subst ho
        have e1 : a.eval (.tmp 7) = .agg (ba 16 y) := hg 2 (by kernel_rfl) (by decide)
        exact op_go 34 Try.f34 #[.tmp 7] #[23] rfl Try.func34 (by kernel_rfl) (by kernel_rfl) (by simp [e1]) (polyOf_any y _)
      · injection ho with ho
        subst ho
        have e1 : a.eval (.tmp 6) = .agg (pv (pol x)) := hg 1 (by kernel_rfl) (by decide)
        have e2 : a.eval (.tmp 8) = .agg (pv (pol y)) := hg 3 (by kernel_rfl) (by decide)
        exact op_go 33 Try.f33 #[.tmp 6, .tmp 8] #[65, 65] rfl Try.func33 (by kernel_rfl) (by kernel_rfl) (by simp [e1, e2]) (product_any _ _ _)
      · injection ho with ho
        subst ho
        have e1 : a.eval (.tmp 9) = .agg (pv (pr (pol x) (pol y))) := hg 4 (by kernel_rfl) (by decide)
        exact op_go 32 Try.f32 #[.tmp 9] #[65] rfl Try.func32 (by kernel_rfl) (by kernel_rfl) (by simp [e1]) (blockOf_any _ _)
    · intro o u ho hc
      injection ho with ho
      subst ho
      have k := Ar.chg (w := w2.drew) Z.out.2.2.2 hc
      refine wp_store_mid 23 (.tmp 4) (.tmp 10) rfl _ _ (ba 16 (byt (pr (pol x) (pol y)))) rfl rfl (by rw [ba_size]; exact thereB k) (by rw [ba_size]; exact i32) (ba_one _ _) ?_
      rw [show (ba 16 (byt (pr (pol x) (pol y)))).toList = bl (byt (pr (pol x) (pol y))) from rfl, setRow_of k _]
      go_wp2_with fail
      go_meet
      exact ⟨(Z.out.1.drew.trans hc).setRow (by omega) _, k.row _⟩
  case rest =>
    obtain ⟨h1, h2⟩ := hcut
    go_wp2
    exact bp_c (n := 16) (c := ba 16 (mulB x y)) Try.results15 rfl rfl h2 und32 i32 (ba_size _ _) ⟨rfl, h1⟩
end Go.Proofs.Ytfnibmfmjglmlaa
