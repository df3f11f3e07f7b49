/-
  Products are a field's: GcmField walked.
-/
import Derived.Test.YtfnibmfmjglmlaaGh
import Derived.Test.YtfnibmfmjglmlaaEqa
import Derived.Test.YtfnibmfmjglmlaaRgo
namespace Go.Proofs.Ytfnibmfmjglmlaa
open Go.RowKit
set_option linter.unusedVariables false

theorem pol_mul (x y : Nat → By) : pol (mulB x y) = pr (pol x) (pol y) := pol_byt _
theorem eqB_pol {x y : Nat → By} (h : pol x = pol y) : eqB x y = true := (eqB_iff x y).2 (pol_inj h)
theorem pol_eqB {x y : Nat → By} (h : eqB x y = true) : pol x = pol y := pol_congr ((eqB_iff x y).1 h)
def oneB : Nat → By := updB zB 0 128#8
theorem pol_one : pol oneB = one := by decide +kernel
theorem pol_zero : pol zB = 0#128 := by decide +kernel
theorem field_none {x y : Nat → By} (h : eqB (mulB x y) zB = true) : eqB x zB = true ∨ eqB y zB = true := by
  have h1 := pol_eqB h
  rw [pol_mul, pol_zero] at h1
  rcases no_divisors h1 with h2 | h2
  · exact .inl (eqB_pol (by rw [h2, pol_zero]))
  · exact .inr (eqB_pol (by rw [h2, pol_zero]))

theorem wpList_load23G {ops : Array Oper} {rest : List Oper} {o : Oper} {a : Act} {w : World} {Q : Exit → Act → World → Prop} (hgd : Region.wanted o (yielded ops a.tmps) = true) (x : Operand) (ho : o.op = .load 23 x)
    (g : Nat) (hx : a.eval x = .pointer (some ⟨g, 0, none⟩)) (t : TypeId) (f : Nat → By) (fr : Nat × Nat) (hg : w.heap[g]? = some (.cells (ba 16 f) t fr))
    (h : wpList Try.prog ops Q rest (a.put o.dst (.agg (ba 16 f))) w) : wpList Try.prog ops Q (o :: rest) a w :=
  BigFrame.wpList_want hgd fun _ hK => wp_load_row 23 x ho g hx t (ba 16 f) fr _ hg und32 rfl (szB f zero32.2) (hK _ _ h)

set_option maxRecDepth 100000 in
set_option maxHeartbeats 8000000 in
theorem field_walk (x y z : Nat → By) (w : World) : Calls Try.prog 5 #[.agg (ba 16 x), .agg (ba 16 y), .agg (ba 16 z)] w fun r w' => r = .returned (.bool true) ∧ Chg w w' := by
  have hcm : eqB (mulB x y) (mulB y x) = true := eqB_pol (by rw [pol_mul, pol_mul, pr_comm])
  have has : eqB (mulB (mulB x y) z) (mulB x (mulB y z)) = true := eqB_pol (by rw [pol_mul, pol_mul, pol_mul, pol_mul, pr_assoc])
  have hds : eqB (mulB (xr x y) z) (xr (mulB x z) (mulB y z)) = true := eqB_pol (by rw [pol_mul, pol_xr, pol_xr, pol_mul, pol_mul, pr_xor_left])
  have hone : eqB (mulB x oneB) x = true := eqB_pol (by rw [pol_mul, pol_one, pr_one])
  have HF : Hid (eqB (mulB x y) zB = true → eqB x zB = true ∨ eqB y zB = true) := field_none
  have hset : (ba 16 zB).setIfInBounds 0 (.int .u8 128) = ba 16 oneB := ba_set 16 zB 0 128#8
  have hne : ¬ ba 16 zB = #[] := fun h => by
    have := congrArg Array.size h
    rw [ba_size] at this
    cases this
  have hsX := ba_size 16 x
  have hsY := ba_size 16 y
  have hsZ := ba_size 16 z
  have hszX := szB x zero32.2
  have hszY := szB y zero32.2
  obtain ⟨X, hX⟩ : ∃ X, X = ba 16 x := ⟨_, rfl⟩
  obtain ⟨Y, hY⟩ : ∃ Y, Y = ba 16 y := ⟨_, rfl⟩
  obtain ⟨Zz, hZ⟩ : ∃ Zz, Zz = ba 16 z := ⟨_, rfl⟩
  have HE : Hid (X = ba 16 x ∧ Y = ba 16 y ∧ Zz = ba 16 z) := ⟨hX, hY, hZ⟩
  have HM : Hid (∀ u, Calls Try.prog 15 #[.agg X, .agg Y] u fun r w' => r = .returned (.agg (ba 16 (mulB x y))) ∧ Chg u w') := by
    rw [hX, hY]
    exact mul_any x y
  rw [← hX] at hsX hszX ⊢
  rw [← hY] at hsY hszY ⊢
  rw [← hZ] at hsZ ⊢
  have hz := zero32.1
  clear hX hY hZ
  go_enter Try.func5, Try.ntmps5
  go_upto_region 1 with fail
  obtain ⟨w0, hw0⟩ : ∃ w0, w0 = ((w.alloc (.cells X 23)).alloc (.cells Y 23)).alloc (.cells Zz 23) := ⟨_, rfl⟩
  have Z0 : Hid (Chg w w0 ∧ Ar w0 w.heap.size X ∧ Ar w0 (w.heap.size + 1) Y ∧ Ar w0 (w.heap.size + 1 + 1) Zz) := by
    rw [hw0]
    exact ⟨(((Chg.refl w).alloc _).alloc _).alloc _, ((Ar.new w _ _).alloc _).alloc _, (Ar.new1 w _ _ _).alloc _, Ar.new2 w _ _ _ _⟩
  rw [← hw0]
  clear hw0 hsX hsY hsZ
  go_wp2_with fail
  go_at_call 14
  refine (ghead_any _).mono ?_
  rintro r wb ⟨rfl, hcb⟩
  have Zb : Hid (Chg w wb ∧ Ar wb w.heap.size X ∧ Ar wb (w.heap.size + 1) Y ∧ Ar wb (w.heap.size + 1 + 1) Zz) := by
    obtain ⟨k0, k1, k2, k3⟩ := Z0.out
    exact ⟨k0.trans hcb, k1.chg hcb, k2.chg hcb, k3.chg hcb⟩
  clear hcb Z0
  obtain ⟨tx, gx⟩ := Zb.out.2.1
  obtain ⟨ty, gy⟩ := Zb.out.2.2.1
  go_wp2_with (first | refine wpList_load_row rfl 23 _ rfl _ rfl _ _ _ _ gx und32 rfl hszX ?_ | refine wpList_load_row rfl 23 _ rfl _ rfl _ _ _ _ gy und32 rfl hszY ?_)
  go_at_call 15
  refine (HM.out _).mono ?_
  rintro r wd ⟨rfl, hcd⟩
  have Zd : Hid (Chg w wd ∧ Ar wd w.heap.size X ∧ Ar wd (w.heap.size + 1) Y ∧ Ar wd (w.heap.size + 1 + 1) Zz) := by
    obtain ⟨k0, k1, k2, k3⟩ := Zb.out
    exact ⟨k0.trans hcd, k1.chg hcd, k2.chg hcd, k3.chg hcd⟩
  clear hcd Zb gx gy HM hszX hszY
  have hsm := szB (mulB x y) zero32.2
  have hlm := lenB 16 zB (mulB x y)
  have hom := ba_one 16 (mulB x y)
  go_upto_region 3 with (first | refine wpList_store_row rfl 23 _ _ rfl _ _ rfl rfl _ _ (heap_alloc_last wd _) hsm hlm hom ?_)
  obtain ⟨Bm, hBm⟩ : ∃ Bm, Bm = wd.heap.size := ⟨_, rfl⟩
  obtain ⟨w2, hw2⟩ : ∃ w2, w2 = (wd.alloc (.cells (ba 16 zB) 23)).setRow wd.heap.size (ba 16 (mulB x y)) := ⟨_, rfl⟩
  have Z : Hid (Chg w w2 ∧ Ar w2 w.heap.size (ba 16 x) ∧ Ar w2 (w.heap.size + 1) (ba 16 y) ∧ Ar w2 (w.heap.size + 1 + 1) (ba 16 z) ∧ Ar w2 Bm (ba 16 (mulB x y))) := by
    obtain ⟨k0, k1, k2, k3⟩ := Zd.out
    have e1 := k3.lt
    rw [hw2, hBm, ← HE.out.1, ← HE.out.2.1, ← HE.out.2.2]
    exact ⟨(k0.alloc _).setRow k0.size _, (k1.alloc _).rowOther (by omega) _, (k2.alloc _).rowOther (by omega) _, (k3.alloc _).rowOther (by omega) _, (Ar.new wd _ _).row _⟩
  rw [← hw2, ← hBm]
  clear hw2 hBm Zd hsm hlm hom
  dsimp only [Act.put]
  go_cut [9] from 17 to 22 (fun v wc => v = .bool true ∧ Chg w2 wc)
  case first =>
    refine wp_region_vals 5 (fun j => match j with
      | 0 => .agg (ba 16 (mulB x y))
      | 1 => .agg (ba 16 y)
      | 2 => .agg (ba 16 x)
      | 3 => .agg (ba 16 (mulB y x))
      | _ => .bool true) (by kernel_rfl) (by kernel_rfl) (by kernel_rfl) (by kernel_rfl) (by kernel_rfl) (by kernel_rfl) ?_ ?_
    · intro i o a u hi ho hf hg hc
      have hcs : i = 0 ∨ i = 1 ∨ i = 2 ∨ i = 3 ∨ i = 4 := by omega
      rcases hcs with rfl | rfl | rfl | rfl | rfl
      · injection ho with ho
        subst ho
        have e1 : a.eval (.tmp 8) = .pointer (some ⟨Bm, 0, none⟩) := hf 8 (by kernel_rfl)
        exact wp_load_mid 23 (.tmp 8) rfl _ _ e1 (bl (mulB x y)) _ (rangeB (Ar.chg (w := w2.drew) Z.out.2.2.2.2 hc)) und32 rfl (bl_info _) ⟨rfl, Chg.refl _⟩
      · injection ho with ho
        subst ho
        have e1 : a.eval (.tmp 4) = .pointer (some ⟨w.heap.size + 1, 0, none⟩) := hf 4 (by kernel_rfl)
        exact wp_load_mid 23 (.tmp 4) rfl _ _ e1 (bl (y)) _ (rangeB (Ar.chg (w := w2.drew) Z.out.2.2.1 hc)) und32 rfl (bl_info _) ⟨rfl, Chg.refl _⟩
      · injection ho with ho
        subst ho
        have e1 : a.eval (.tmp 3) = .pointer (some ⟨w.heap.size, 0, none⟩) := hf 3 (by kernel_rfl)
        exact wp_load_mid 23 (.tmp 3) rfl _ _ e1 (bl (x)) _ (rangeB (Ar.chg (w := w2.drew) Z.out.2.1 hc)) und32 rfl (bl_info _) ⟨rfl, Chg.refl _⟩
      · injection ho with ho
        subst ho
        have e1 : a.eval (.tmp 18) = .agg (ba 16 y) := hg 1 (by kernel_rfl) (by decide)
        have e2 : a.eval (.tmp 19) = .agg (ba 16 x) := hg 2 (by kernel_rfl) (by decide)
        exact op_go 15 Try.f15 #[.tmp 18, .tmp 19] #[23, 23] rfl Try.func15 (by kernel_rfl) (by kernel_rfl) (by simp [e1, e2]) (mul_any y x _)
      · injection ho with ho
        subst ho
        have e1 : a.eval (.tmp 17) = .agg (ba 16 (mulB x y)) := hg 0 (by kernel_rfl) (by decide)
        have e2 : a.eval (.tmp 20) = .agg (ba 16 (mulB y x)) := hg 3 (by kernel_rfl) (by decide)
        exact op_val (by revert e1 e2; generalize a.eval = ρ; intro e1 e2; simp [go_sem, execOp, e1, e2, run_eqB, hcm]) (Chg.refl _)
    · intro o u ho hc
      injection ho with ho
      subst ho
      refine op_val1 (v := .bool true) rfl ?_
      go_wp2_with fail
      go_meet
      exact ⟨rfl, (Chg.refl w2).drew.trans hc⟩
  case rest =>
    obtain ⟨rfl, hc3⟩ := hcut
    obtain ⟨w3, hw3⟩ : ∃ w3, w3 = wc := ⟨_, rfl⟩
    have Z3 : Hid (Chg w w3 ∧ Ar w3 w.heap.size (ba 16 x) ∧ Ar w3 (w.heap.size + 1) (ba 16 y) ∧ Ar w3 (w.heap.size + 1 + 1) (ba 16 z) ∧ Ar w3 Bm (ba 16 (mulB x y))) := by
      obtain ⟨k0, k1, k2, k3, k4⟩ := Z.out
      rw [hw3]
      exact ⟨k0.trans hc3, k1.chg hc3, k2.chg hc3, k3.chg hc3, k4.chg hc3⟩
    rw [← hw3]
    clear hw3 hc3 Z
    go_upto_region 4 with fail
    go_cut [10] from 22 to 31 (fun v wc => v = .bool true ∧ Chg w3 wc)
    case first =>
      refine wp_region_vals 9 (fun j => match j with
        | 0 => .agg (ba 16 (mulB x y))
        | 1 => .agg (ba 16 z)
        | 2 => .agg (ba 16 (mulB (mulB x y) z))
        | 3 => .agg (ba 16 x)
        | 4 => .agg (ba 16 y)
        | 5 => .agg (ba 16 z)
        | 6 => .agg (ba 16 (mulB y z))
        | 7 => .agg (ba 16 (mulB x (mulB y z)))
        | _ => .bool true) (by kernel_rfl) (by kernel_rfl) (by kernel_rfl) (by kernel_rfl) (by kernel_rfl) (by kernel_rfl) ?_ ?_
      · intro i o a u hi ho hf hg hc
        have hcs : i = 0 ∨ i = 1 ∨ i = 2 ∨ i = 3 ∨ i = 4 ∨ i = 5 ∨ i = 6 ∨ i = 7 ∨ i = 8 := by omega
        rcases hcs with rfl | rfl | rfl | rfl | rfl | rfl | rfl | rfl | rfl
        · injection ho with ho
          subst ho
          have e1 : a.eval (.tmp 8) = .pointer (some ⟨Bm, 0, none⟩) := hf 8 (by kernel_rfl)
          exact wp_load_mid 23 (.tmp 8) rfl _ _ e1 (bl (mulB x y)) _ (rangeB (Ar.chg (w := w3.drew) Z3.out.2.2.2.2 hc)) und32 rfl (bl_info _) ⟨rfl, Chg.refl _⟩
        · injection ho with ho
          subst ho
          have e1 : a.eval (.tmp 5) = .pointer (some ⟨w.heap.size + 1 + 1, 0, none⟩) := hf 5 (by kernel_rfl)
          exact wp_load_mid 23 (.tmp 5) rfl _ _ e1 (bl (z)) _ (rangeB (Ar.chg (w := w3.drew) Z3.out.2.2.2.1 hc)) und32 rfl (bl_info _) ⟨rfl, Chg.refl _⟩
        · injection ho with ho
          subst ho
          have e1 : a.eval (.tmp 22) = .agg (ba 16 (mulB x y)) := hg 0 (by kernel_rfl) (by decide)
          have e2 : a.eval (.tmp 23) = .agg (ba 16 z) := hg 1 (by kernel_rfl) (by decide)
          exact op_go 15 Try.f15 #[.tmp 22, .tmp 23] #[23, 23] rfl Try.func15 (by kernel_rfl) (by kernel_rfl) (by simp [e1, e2]) (mul_any _ _ _)
        · injection ho with ho
          subst ho
          have e1 : a.eval (.tmp 3) = .pointer (some ⟨w.heap.size, 0, none⟩) := hf 3 (by kernel_rfl)
          exact wp_load_mid 23 (.tmp 3) rfl _ _ e1 (bl (x)) _ (rangeB (Ar.chg (w := w3.drew) Z3.out.2.1 hc)) und32 rfl (bl_info _) ⟨rfl, Chg.refl _⟩
        · injection ho with ho
          subst ho
          have e1 : a.eval (.tmp 4) = .pointer (some ⟨w.heap.size + 1, 0, none⟩) := hf 4 (by kernel_rfl)
          exact wp_load_mid 23 (.tmp 4) rfl _ _ e1 (bl (y)) _ (rangeB (Ar.chg (w := w3.drew) Z3.out.2.2.1 hc)) und32 rfl (bl_info _) ⟨rfl, Chg.refl _⟩
        · injection ho with ho
          subst ho
          have e1 : a.eval (.tmp 5) = .pointer (some ⟨w.heap.size + 1 + 1, 0, none⟩) := hf 5 (by kernel_rfl)
          exact wp_load_mid 23 (.tmp 5) rfl _ _ e1 (bl (z)) _ (rangeB (Ar.chg (w := w3.drew) Z3.out.2.2.2.1 hc)) und32 rfl (bl_info _) ⟨rfl, Chg.refl _⟩
        · injection ho with ho
          subst ho
          have e1 : a.eval (.tmp 26) = .agg (ba 16 y) := hg 4 (by kernel_rfl) (by decide)
          have e2 : a.eval (.tmp 27) = .agg (ba 16 z) := hg 5 (by kernel_rfl) (by decide)
          exact op_go 15 Try.f15 #[.tmp 26, .tmp 27] #[23, 23] rfl Try.func15 (by kernel_rfl) (by kernel_rfl) (by simp [e1, e2]) (mul_any _ _ _)
        · injection ho with ho
          subst ho
          have e1 : a.eval (.tmp 25) = .agg (ba 16 x) := hg 3 (by kernel_rfl) (by decide)
          have e2 : a.eval (.tmp 28) = .agg (ba 16 (mulB y z)) := hg 6 (by kernel_rfl) (by decide)
          exact op_go 15 Try.f15 #[.tmp 25, .tmp 28] #[23, 23] rfl Try.func15 (by kernel_rfl) (by kernel_rfl) (by simp [e1, e2]) (mul_any _ _ _)
        · injection ho with ho
          subst ho
          have e1 : a.eval (.tmp 24) = .agg (ba 16 (mulB (mulB x y) z)) := hg 2 (by kernel_rfl) (by decide)
          have e2 : a.eval (.tmp 29) = .agg (ba 16 (mulB x (mulB y z))) := hg 7 (by kernel_rfl) (by decide)
          exact op_val (by revert e1 e2; generalize a.eval = ρ; intro e1 e2; simp [go_sem, execOp, e1, e2, run_eqB, has]) (Chg.refl _)
      · intro o u ho hc
        injection ho with ho
        subst ho
        refine op_val1 (v := .bool true) rfl ?_
        go_wp2_with fail
        go_meet
        exact ⟨rfl, (Chg.refl w3).drew.trans hc⟩
    case rest =>
      obtain ⟨rfl, hc4⟩ := hcut
      obtain ⟨w4, hw4⟩ : ∃ w4, w4 = wc := ⟨_, rfl⟩
      have Z4 : Hid (Chg w w4 ∧ Ar w4 w.heap.size (ba 16 x) ∧ Ar w4 (w.heap.size + 1) (ba 16 y) ∧ Ar w4 (w.heap.size + 1 + 1) (ba 16 z) ∧ Ar w4 Bm (ba 16 (mulB x y))) := by
        obtain ⟨k0, k1, k2, k3, k4⟩ := Z3.out
        rw [hw4]
        exact ⟨k0.trans hc4, k1.chg hc4, k2.chg hc4, k3.chg hc4, k4.chg hc4⟩
      rw [← hw4]
      clear hw4 hc4 Z3
      go_upto_region 5 with fail
      go_cut [11] from 31 to 44 (fun v wc => v = .bool true ∧ Chg w4 wc)
      case first =>
        refine wp_region_vals 13 (fun j => match j with
          | 0 => .agg (ba 16 x)
          | 1 => .agg (ba 16 y)
          | 2 => .agg (ba 16 (xr x y))
          | 3 => .agg (ba 16 z)
          | 4 => .agg (ba 16 (mulB (xr x y) z))
          | 5 => .agg (ba 16 x)
          | 6 => .agg (ba 16 z)
          | 7 => .agg (ba 16 (mulB x z))
          | 8 => .agg (ba 16 y)
          | 9 => .agg (ba 16 z)
          | 10 => .agg (ba 16 (mulB y z))
          | 11 => .agg (ba 16 (xr (mulB x z) (mulB y z)))
          | _ => .bool true) (by kernel_rfl) (by kernel_rfl) (by kernel_rfl) (by kernel_rfl) (by kernel_rfl) (by kernel_rfl) ?_ ?_
        · intro i o a u hi ho hf hg hc
          have hcs : i = 0 ∨ i = 1 ∨ i = 2 ∨ i = 3 ∨ i = 4 ∨ i = 5 ∨ i = 6 ∨ i = 7 ∨ i = 8 ∨ i = 9 ∨ i = 10 ∨ i = 11 ∨ i = 12 := by omega
          rcases hcs with rfl | rfl | rfl | rfl | rfl | rfl | rfl | rfl | rfl | rfl | rfl | rfl | rfl
          · injection ho with ho
            subst ho
            have e1 : a.eval (.tmp 3) = .pointer (some ⟨w.heap.size, 0, none⟩) := hf 3 (by kernel_rfl)
            exact wp_load_mid 23 (.tmp 3) rfl _ _ e1 (bl (x)) _ (rangeB (Ar.chg (w := w4.drew) Z4.out.2.1 hc)) und32 rfl (bl_info _) ⟨rfl, Chg.refl _⟩
          · injection ho with ho
            subst ho
            have e1 : a.eval (.tmp 4) = .pointer (some ⟨w.heap.size + 1, 0, none⟩) := hf 4 (by kernel_rfl)
            exact wp_load_mid 23 (.tmp 4) rfl _ _ e1 (bl (y)) _ (rangeB (Ar.chg (w := w4.drew) Z4.out.2.2.1 hc)) und32 rfl (bl_info _) ⟨rfl, Chg.refl _⟩
          · injection ho with ho
            subst ho
            have e1 : a.eval (.tmp 31) = .agg (ba 16 x) := hg 0 (by kernel_rfl) (by decide)
            have e2 : a.eval (.tmp 32) = .agg (ba 16 y) := hg 1 (by kernel_rfl) (by decide)
            exact op_go 19 Try.f19 #[.tmp 31, .tmp 32] #[23, 23] rfl Try.func19 (by kernel_rfl) (by kernel_rfl) (by simp [e1, e2]) (with_any _ _ _)
          · injection ho with ho
            subst ho
            have e1 : a.eval (.tmp 5) = .pointer (some ⟨w.heap.size + 1 + 1, 0, none⟩) := hf 5 (by kernel_rfl)
            exact wp_load_mid 23 (.tmp 5) rfl _ _ e1 (bl (z)) _ (rangeB (Ar.chg (w := w4.drew) Z4.out.2.2.2.1 hc)) und32 rfl (bl_info _) ⟨rfl, Chg.refl _⟩
          · injection ho with ho
            subst ho
            have e1 : a.eval (.tmp 33) = .agg (ba 16 (xr x y)) := hg 2 (by kernel_rfl) (by decide)
            have e2 : a.eval (.tmp 34) = .agg (ba 16 z) := hg 3 (by kernel_rfl) (by decide)
            exact op_go 15 Try.f15 #[.tmp 33, .tmp 34] #[23, 23] rfl Try.func15 (by kernel_rfl) (by kernel_rfl) (by simp [e1, e2]) (mul_any _ _ _)
          · injection ho with ho
            subst ho
            have e1 : a.eval (.tmp 3) = .pointer (some ⟨w.heap.size, 0, none⟩) := hf 3 (by kernel_rfl)
            exact wp_load_mid 23 (.tmp 3) rfl _ _ e1 (bl (x)) _ (rangeB (Ar.chg (w := w4.drew) Z4.out.2.1 hc)) und32 rfl (bl_info _) ⟨rfl, Chg.refl _⟩
          · injection ho with ho
            subst ho
            have e1 : a.eval (.tmp 5) = .pointer (some ⟨w.heap.size + 1 + 1, 0, none⟩) := hf 5 (by kernel_rfl)
            exact wp_load_mid 23 (.tmp 5) rfl _ _ e1 (bl (z)) _ (rangeB (Ar.chg (w := w4.drew) Z4.out.2.2.2.1 hc)) und32 rfl (bl_info _) ⟨rfl, Chg.refl _⟩
          · injection ho with ho
            subst ho
            have e1 : a.eval (.tmp 36) = .agg (ba 16 x) := hg 5 (by kernel_rfl) (by decide)
            have e2 : a.eval (.tmp 37) = .agg (ba 16 z) := hg 6 (by kernel_rfl) (by decide)
            exact op_go 15 Try.f15 #[.tmp 36, .tmp 37] #[23, 23] rfl Try.func15 (by kernel_rfl) (by kernel_rfl) (by simp [e1, e2]) (mul_any _ _ _)
          · injection ho with ho
            subst ho
            have e1 : a.eval (.tmp 4) = .pointer (some ⟨w.heap.size + 1, 0, none⟩) := hf 4 (by kernel_rfl)
            exact wp_load_mid 23 (.tmp 4) rfl _ _ e1 (bl (y)) _ (rangeB (Ar.chg (w := w4.drew) Z4.out.2.2.1 hc)) und32 rfl (bl_info _) ⟨rfl, Chg.refl _⟩
          · injection ho with ho
            subst ho
            have e1 : a.eval (.tmp 5) = .pointer (some ⟨w.heap.size + 1 + 1, 0, none⟩) := hf 5 (by kernel_rfl)
            exact wp_load_mid 23 (.tmp 5) rfl _ _ e1 (bl (z)) _ (rangeB (Ar.chg (w := w4.drew) Z4.out.2.2.2.1 hc)) und32 rfl (bl_info _) ⟨rfl, Chg.refl _⟩
          · injection ho with ho
            subst ho
            have e1 : a.eval (.tmp 39) = .agg (ba 16 y) := hg 8 (by kernel_rfl) (by decide)
            have e2 : a.eval (.tmp 40) = .agg (ba 16 z) := hg 9 (by kernel_rfl) (by decide)
            exact op_go 15 Try.f15 #[.tmp 39, .tmp 40] #[23, 23] rfl Try.func15 (by kernel_rfl) (by kernel_rfl) (by simp [e1, e2]) (mul_any _ _ _)
          · injection ho with ho
            subst ho
            have e1 : a.eval (.tmp 38) = .agg (ba 16 (mulB x z)) := hg 7 (by kernel_rfl) (by decide)
            have e2 : a.eval (.tmp 41) = .agg (ba 16 (mulB y z)) := hg 10 (by kernel_rfl) (by decide)
            exact op_go 19 Try.f19 #[.tmp 38, .tmp 41] #[23, 23] rfl Try.func19 (by kernel_rfl) (by kernel_rfl) (by simp [e1, e2]) (with_any _ _ _)
          · injection ho with ho
            subst ho
            have e1 : a.eval (.tmp 35) = .agg (ba 16 (mulB (xr x y) z)) := hg 4 (by kernel_rfl) (by decide)
            have e2 : a.eval (.tmp 42) = .agg (ba 16 (xr (mulB x z) (mulB y z))) := hg 11 (by kernel_rfl) (by decide)
            exact op_val (by revert e1 e2; generalize a.eval = ρ; intro e1 e2; simp [go_sem, execOp, e1, e2, run_eqB, hds]) (Chg.refl _)
        · intro o u ho hc
          injection ho with ho
          subst ho
          refine op_val1 (v := .bool true) rfl ?_
          go_wp2_with fail
          go_meet
          exact ⟨rfl, (Chg.refl w4).drew.trans hc⟩
      case rest =>
        obtain ⟨rfl, hc5⟩ := hcut
        obtain ⟨w5, hw5⟩ : ∃ w5, w5 = wc := ⟨_, rfl⟩
        have Z5 : Hid (Chg w w5 ∧ Ar w5 w.heap.size (ba 16 x) ∧ Ar w5 (w.heap.size + 1) (ba 16 y) ∧ Ar w5 (w.heap.size + 1 + 1) (ba 16 z) ∧ Ar w5 Bm (ba 16 (mulB x y))) := by
          obtain ⟨k0, k1, k2, k3, k4⟩ := Z4.out
          rw [hw5]
          exact ⟨k0.trans hc5, k1.chg hc5, k2.chg hc5, k3.chg hc5, k4.chg hc5⟩
        rw [← hw5]
        clear hw5 hc5 Z4
        go_upto_region 6 with fail
        go_cut [12] from 44 to 57 (fun v wc => v = .bool false ∧ wc = w5)
        case first =>
          obtain ⟨t1, g1⟩ := Z5.out.2.1
          obtain ⟨t2, g2⟩ := Z5.out.2.2.1
          obtain ⟨t3, g3⟩ := Z5.out.2.2.2.2
          have s1 := szB x zero32.2
          have s2 := szB y zero32.2
          have s3 := szB (mulB x y) zero32.2
          have q3 : ∀ u, (Op.equalIn 10000 23 (.agg (ba 16 (mulB x y))) (.agg (ba 16 zB))).run Try.prog u = .ok (eqB (mulB x y) zB) u := run_eqB _ _
          have q1 : ∀ u, (Op.equalIn 10000 23 (.agg (ba 16 x)) (.agg (ba 16 zB))).run Try.prog u = .ok (eqB x zB) u := run_eqB _ _
          have q2 : ∀ u, (Op.equalIn 10000 23 (.agg (ba 16 y)) (.agg (ba 16 zB))).run Try.prog u = .ok (eqB y zB) u := run_eqB _ _
          cases h3 : eqB (mulB x y) zB with
          | false =>
            rw [h3] at q3
            go_wp2_with (first | refine wpList_load_row rfl 23 _ rfl _ rfl _ _ _ _ g3 und32 rfl s3 ?_)
            all_goals go_meet
            all_goals exact ⟨rfl, rfl⟩
          | true =>
            rw [h3] at q3
            rcases HF.out h3 with h1 | h1
            · rw [h1] at q1
              go_wp2_with (first | refine wpList_load_row rfl 23 _ rfl _ rfl _ _ _ _ g3 und32 rfl s3 ?_ | refine wpList_load23G (by rfl) _ rfl _ rfl _ _ _ g1 ?_)
              all_goals go_meet
              all_goals exact ⟨rfl, rfl⟩
            · rw [h1] at q2
              cases h2 : eqB x zB with
              | false =>
                rw [h2] at q1
                go_wp2_with (first | refine wpList_load_row rfl 23 _ rfl _ rfl _ _ _ _ g3 und32 rfl s3 ?_ | refine wpList_load23G (by rfl) _ rfl _ rfl _ _ _ g1 ?_ | refine wpList_load23G (by rfl) _ rfl _ rfl _ _ _ g2 ?_)
                all_goals go_meet
                all_goals exact ⟨rfl, rfl⟩
              | true =>
                rw [h2] at q1
                go_wp2_with (first | refine wpList_load_row rfl 23 _ rfl _ rfl _ _ _ _ g3 und32 rfl s3 ?_ | refine wpList_load23G (by rfl) _ rfl _ rfl _ _ _ g1 ?_)
                all_goals go_meet
                all_goals exact ⟨rfl, rfl⟩
        case rest =>
          obtain ⟨rfl, hwc⟩ := hcut
          rw [hwc]
          obtain ⟨w6, hw6⟩ : ∃ w6, w6 = w5 := ⟨_, rfl⟩
          have Z6 : Hid (Chg w w6 ∧ Ar w6 w.heap.size (ba 16 x)) := by rw [hw6]; exact ⟨Z5.out.1, Z5.out.2.1⟩
          rw [← hw6]
          clear hw6 Z5 hwc
          go_upto_region 7 with fail
          refine wp_region_good 21 (fun j v wg => match j with
            | 0 => v = .bool true
            | 1 => v = .bool true
            | 2 => v = .bool true
            | 3 => v = .bool true
            | 4 => v = .bool true
            | 5 => v = .bool true
            | 6 => v = .bool true
            | 7 => v = .bool true
            | 8 => v = .bool true
            | 9 => v = .bool true
            | 10 => v = .bool true
            | 11 => v = .bool false
            | 12 => v = .bool true
            | 13 => v = .bool true
            | 14 => v = .bool true
            | 15 => v = .agg (ba 16 x)
            | 16 => v = .agg (ba 16 oneB)
            | 17 => v = .agg (ba 16 (mulB x oneB))
            | 18 => v = .agg (ba 16 x)
            | 19 => v = .bool true
            | 20 => v = .bool true
            | _ => True) (by kernel_rfl) (by kernel_rfl) (by kernel_rfl) (by kernel_rfl) (by kernel_rfl) ?_ ?_ ?_
          · intro j v u1 u2 h hc
            match j, h with
            | 0, h => exact h
            | 1, h => exact h
            | 2, h => exact h
            | 3, h => exact h
            | 4, h => exact h
            | 5, h => exact h
            | 6, h => exact h
            | 7, h => exact h
            | 8, h => exact h
            | 9, h => exact h
            | 10, h => exact h
            | 11, h => exact h
            | 12, h => exact h
            | 13, h => exact h
            | 14, h => exact h
            | 15, h => exact h
            | 16, h => exact h
            | 17, h => exact h
            | 18, h => exact h
            | 19, h => exact h
            | 20, h => exact h
            | _ + 21, h => exact trivial
          · intro i o ac u hi ho hsz hf hg hc
            have hcs : i = 0 ∨ i = 1 ∨ i = 2 ∨ i = 3 ∨ i = 4 ∨ i = 5 ∨ i = 6 ∨ i = 7 ∨ i = 8 ∨ i = 9 ∨ i = 10 ∨ i = 11 ∨ i = 12 ∨ i = 13 ∨ i = 14 ∨ i = 15 ∨ i = 16 ∨ i = 17 ∨ i = 18 ∨ i = 19 ∨ i = 20 := by omega
            rcases hcs with rfl | rfl | rfl | rfl | rfl | rfl | rfl | rfl | rfl | rfl | rfl | rfl | rfl | rfl | rfl | rfl | rfl | rfl | rfl | rfl | rfl
            · injection ho with ho
              subst ho
              refine .inl ⟨wanted_none rfl, ?_⟩
              have e1 : ac.eval (.tmp 7) = .bool true := hf 7 (by kernel_rfl)
              exact opG_val (by simp [execOp, e1]) rfl (Chg.refl _)
            · injection ho with ho
              subst ho
              refine .inl ⟨wanted_none rfl, ?_⟩
              have e1 : ac.eval (.tmp 57) = .bool true := hg 0 (by kernel_rfl) (by decide)
              exact opG_val (by simp [execOp, e1]) rfl (Chg.refl _)
            · injection ho with ho
              subst ho
              refine .inl ⟨wanted_by (T := _) (by kernel_rfl) hsz rfl (by decide : 1 < 21) rfl (hg 1 (by kernel_rfl) (by decide)), ?_⟩
              have e1 : ac.eval (.tmp 9) = .bool true := hf 9 (by kernel_rfl)
              exact opG_val (by simp [execOp, e1]) rfl (Chg.refl _)
            · injection ho with ho
              subst ho
              refine .inl ⟨wanted_none rfl, ?_⟩
              have e1 : ac.eval (.tmp 58) = .bool true := hg 1 (by kernel_rfl) (by decide)
              have e2 : ac.eval (.tmp 59) = .bool true := hg 2 (by kernel_rfl) (by decide)
              have e3 : ac.eval (.const (.bool false)) = .bool false := rfl
              exact opG_val (by revert e1 e2 e3; generalize ac.eval = ρ; intro e1 e2 e3; simp [go_sem, execOp, e1, e2, e3]) rfl (Chg.refl _)
            · injection ho with ho
              subst ho
              refine .inl ⟨wanted_none rfl, ?_⟩
              have e1 : ac.eval (.tmp 60) = .bool true := hg 3 (by kernel_rfl) (by decide)
              exact opG_val (by simp [execOp, e1]) rfl (Chg.refl _)
            · injection ho with ho
              subst ho
              refine .inl ⟨wanted_by (T := _) (by kernel_rfl) hsz rfl (by decide : 4 < 21) rfl (hg 4 (by kernel_rfl) (by decide)), ?_⟩
              have e1 : ac.eval (.tmp 10) = .bool true := hf 10 (by kernel_rfl)
              exact opG_val (by simp [execOp, e1]) rfl (Chg.refl _)
            · injection ho with ho
              subst ho
              refine .inl ⟨wanted_none rfl, ?_⟩
              have e1 : ac.eval (.tmp 61) = .bool true := hg 4 (by kernel_rfl) (by decide)
              have e2 : ac.eval (.tmp 62) = .bool true := hg 5 (by kernel_rfl) (by decide)
              have e3 : ac.eval (.const (.bool false)) = .bool false := rfl
              exact opG_val (by revert e1 e2 e3; generalize ac.eval = ρ; intro e1 e2 e3; simp [go_sem, execOp, e1, e2, e3]) rfl (Chg.refl _)
            · injection ho with ho
              subst ho
              refine .inl ⟨wanted_none rfl, ?_⟩
              have e1 : ac.eval (.tmp 63) = .bool true := hg 6 (by kernel_rfl) (by decide)
              exact opG_val (by simp [execOp, e1]) rfl (Chg.refl _)
            · injection ho with ho
              subst ho
              refine .inl ⟨wanted_by (T := _) (by kernel_rfl) hsz rfl (by decide : 7 < 21) rfl (hg 7 (by kernel_rfl) (by decide)), ?_⟩
              have e1 : ac.eval (.tmp 11) = .bool true := hf 11 (by kernel_rfl)
              exact opG_val (by simp [execOp, e1]) rfl (Chg.refl _)
            · injection ho with ho
              subst ho
              refine .inl ⟨wanted_none rfl, ?_⟩
              have e1 : ac.eval (.tmp 64) = .bool true := hg 7 (by kernel_rfl) (by decide)
              have e2 : ac.eval (.tmp 65) = .bool true := hg 8 (by kernel_rfl) (by decide)
              have e3 : ac.eval (.const (.bool false)) = .bool false := rfl
              exact opG_val (by revert e1 e2 e3; generalize ac.eval = ρ; intro e1 e2 e3; simp [go_sem, execOp, e1, e2, e3]) rfl (Chg.refl _)
            · injection ho with ho
              subst ho
              refine .inl ⟨wanted_none rfl, ?_⟩
              have e1 : ac.eval (.tmp 66) = .bool true := hg 9 (by kernel_rfl) (by decide)
              exact opG_val (by simp [execOp, e1]) rfl (Chg.refl _)
            · injection ho with ho
              subst ho
              refine .inl ⟨wanted_by (T := _) (by kernel_rfl) hsz rfl (by decide : 10 < 21) rfl (hg 10 (by kernel_rfl) (by decide)), ?_⟩
              have e1 : ac.eval (.tmp 12) = .bool false := hf 12 (by kernel_rfl)
              exact opG_val (by simp [execOp, e1]) rfl (Chg.refl _)
            · injection ho with ho
              subst ho
              refine .inl ⟨wanted_by (T := _) (by kernel_rfl) hsz rfl (by decide : 10 < 21) rfl (hg 10 (by kernel_rfl) (by decide)), ?_⟩
              have e1 : ac.eval (.tmp 68) = .bool false := hg 11 (by kernel_rfl) (by decide)
              exact opG_val (by revert e1; generalize ac.eval = ρ; intro e1; simp [go_sem, execOp, e1]) rfl (Chg.refl _)
            · injection ho with ho
              subst ho
              refine .inl ⟨wanted_none rfl, ?_⟩
              have e1 : ac.eval (.tmp 67) = .bool true := hg 10 (by kernel_rfl) (by decide)
              have e2 : ac.eval (.tmp 69) = .bool true := hg 12 (by kernel_rfl) (by decide)
              have e3 : ac.eval (.const (.bool false)) = .bool false := rfl
              exact opG_val (by revert e1 e2 e3; generalize ac.eval = ρ; intro e1 e2 e3; simp [go_sem, execOp, e1, e2, e3]) rfl (Chg.refl _)
            · injection ho with ho
              subst ho
              refine .inl ⟨wanted_none rfl, ?_⟩
              have e1 : ac.eval (.tmp 70) = .bool true := hg 13 (by kernel_rfl) (by decide)
              exact opG_val (by simp [execOp, e1]) rfl (Chg.refl _)
            · injection ho with ho
              subst ho
              refine .inl ⟨wanted_by (T := _) (by kernel_rfl) hsz rfl (by decide : 14 < 21) rfl (hg 14 (by kernel_rfl) (by decide)), ?_⟩
              have e1 : ac.eval (.tmp 3) = .pointer (some ⟨w.heap.size, 0, none⟩) := hf 3 (by kernel_rfl)
              exact wp_load_mid 23 (.tmp 3) rfl _ _ e1 (bl (x)) _ (rangeB (Ar.chg (w := w6.drew) Z6.out.2 hc)) und32 rfl (bl_info _) ⟨_, rfl, rfl, Chg.refl _⟩
            · injection ho with ho
              subst ho
              refine .inl ⟨wanted_by (T := _) (by kernel_rfl) hsz rfl (by decide : 14 < 21) rfl (hg 14 (by kernel_rfl) (by decide)), ?_⟩
              have e1 : ac.eval (.const (.int .u8 128)) = .int .u8 128 := rfl
              exact opG_val (by revert e1; generalize ac.eval = ρ; intro e1; simp [go_sem, execOp, e1, hz, hset, hne]) rfl (Chg.refl _)
            · injection ho with ho
              subst ho
              refine .inl ⟨wanted_by (T := _) (by kernel_rfl) hsz rfl (by decide : 14 < 21) rfl (hg 14 (by kernel_rfl) (by decide)), ?_⟩
              have e1 : ac.eval (.tmp 72) = .agg (ba 16 x) := hg 15 (by kernel_rfl) (by decide)
              have e2 : ac.eval (.tmp 73) = .agg (ba 16 oneB) := hg 16 (by kernel_rfl) (by decide)
              refine opG_go 15 Try.f15 #[.tmp 72, .tmp 73] #[23, 23] rfl Try.func15 (by kernel_rfl) (by kernel_rfl) (by simp [e1, e2]) (Calls.mono (mul_any x oneB _) ?_)
              rintro r u2 ⟨rfl, hc2⟩
              exact ⟨_, rfl, rfl, hc2⟩
            · injection ho with ho
              subst ho
              refine .inl ⟨wanted_by (T := _) (by kernel_rfl) hsz rfl (by decide : 14 < 21) rfl (hg 14 (by kernel_rfl) (by decide)), ?_⟩
              have e1 : ac.eval (.tmp 3) = .pointer (some ⟨w.heap.size, 0, none⟩) := hf 3 (by kernel_rfl)
              exact wp_load_mid 23 (.tmp 3) rfl _ _ e1 (bl (x)) _ (rangeB (Ar.chg (w := w6.drew) Z6.out.2 hc)) und32 rfl (bl_info _) ⟨_, rfl, rfl, Chg.refl _⟩
            · injection ho with ho
              subst ho
              refine .inl ⟨wanted_by (T := _) (by kernel_rfl) hsz rfl (by decide : 14 < 21) rfl (hg 14 (by kernel_rfl) (by decide)), ?_⟩
              have e1 : ac.eval (.tmp 74) = .agg (ba 16 (mulB x oneB)) := hg 17 (by kernel_rfl) (by decide)
              have e2 : ac.eval (.tmp 75) = .agg (ba 16 x) := hg 18 (by kernel_rfl) (by decide)
              exact opG_val (by revert e1 e2; generalize ac.eval = ρ; intro e1 e2; simp [go_sem, execOp, e1, e2, run_eqB, hone]) rfl (Chg.refl _)
            · injection ho with ho
              subst ho
              refine .inl ⟨wanted_none rfl, ?_⟩
              have e1 : ac.eval (.tmp 71) = .bool true := hg 14 (by kernel_rfl) (by decide)
              have e2 : ac.eval (.tmp 76) = .bool true := hg 19 (by kernel_rfl) (by decide)
              have e3 : ac.eval (.const (.bool false)) = .bool false := rfl
              exact opG_val (by revert e1 e2 e3; generalize ac.eval = ρ; intro e1 e2 e3; simp [go_sem, execOp, e1, e2, e3]) rfl (Chg.refl _)
          · intro o u V ho hV hc
            injection ho with ho
            subst ho
            refine ⟨rfl, ?_⟩
            have q57 : V 0 = .bool true := hV 0 (by decide)
            have q58 : V 1 = .bool true := hV 1 (by decide)
            have q59 : V 2 = .bool true := hV 2 (by decide)
            have q60 : V 3 = .bool true := hV 3 (by decide)
            have q61 : V 4 = .bool true := hV 4 (by decide)
            have q62 : V 5 = .bool true := hV 5 (by decide)
            have q63 : V 6 = .bool true := hV 6 (by decide)
            have q64 : V 7 = .bool true := hV 7 (by decide)
            have q65 : V 8 = .bool true := hV 8 (by decide)
            have q66 : V 9 = .bool true := hV 9 (by decide)
            have q67 : V 10 = .bool true := hV 10 (by decide)
            have q68 : V 11 = .bool false := hV 11 (by decide)
            have q69 : V 12 = .bool true := hV 12 (by decide)
            have q70 : V 13 = .bool true := hV 13 (by decide)
            have q71 : V 14 = .bool true := hV 14 (by decide)
            have q72 : V 15 = .agg (ba 16 x) := hV 15 (by decide)
            have q73 : V 16 = .agg (ba 16 oneB) := hV 16 (by decide)
            have q74 : V 17 = .agg (ba 16 (mulB x oneB)) := hV 17 (by decide)
            have q75 : V 18 = .agg (ba 16 x) := hV 18 (by decide)
            have q76 : V 19 = .bool true := hV 19 (by decide)
            have q77 : V 20 = .bool true := hV 20 (by decide)
            refine op_val1 (v := .bool true) (by rw [← q77]; rfl) ?_
            go_wp2_with fail
            go_ret
            exact ⟨rfl, Z6.out.1.drew.trans hc⟩
end Go.Proofs.Ytfnibmfmjglmlaa
