/-
  Points as three numbers and back, twice a point; does a point lie on the curve? The document.
-/
import Derived.Test.YtbdgmkejmfjobaaPo
namespace Go.Proofs.Ytbdgmkejmfjobaa
open Go.RowKit
set_option linter.unusedVariables false
set_option maxRecDepth 100000
set_option maxHeartbeats 16000000 in
theorem ofS_t  (w : World) : Calls Try.prog 30 #[.agg (pt true 0 0)] w fun r w' => r = .returned (.agg (q3 1 1 0)) ∧ Chg w w' := by
 have hz0 := zeroTh.1
 have hsA0 := pt_size true 0 0
 obtain ⟨A0, hA0⟩ : ∃ zz0, zz0 = pt true 0 0 := ⟨_, rfl⟩
 have HA0 : Hid (A0 = pt true 0 0) := hA0
 rw [← hA0] at hsA0 ⊢
 clear hA0
 go_enter Try.func30, Try.ntmps30
 go_upto_region 1 with fail
 obtain ⟨w1, hw1⟩ : ∃ w1, w1 = (w.alloc (.cells A0 26)).alloc (.cells (q3 0 0 0) 54) := ⟨_, rfl⟩
 have Z1 : Hid (Chg w w1 ∧ Ar w1 w.heap.size (pt true 0 0) ∧ Ar w1 (w.heap.size + 1) (q3 0 0 0)) := by
  have hnew0 := Ar.new w (pt true 0 0) 26
  have hnew1 := Ar.new (w.alloc (.cells (pt true 0 0) 26)) (q3 0 0 0) 54
  rw [World.size_alloc] at hnew1
  rw [hw1, HA0.out]
  exact ⟨(((Chg.refl w).alloc _).alloc _), ((hnew0).alloc _), (hnew1)⟩
 rw [← hw1]
 clear hw1 hz0 hsA0 HA0
 go_cut [4] from 3 to 4 (fun v4 wc => v4 = .bool true ∧ Chg w wc ∧ Ar wc (w.heap.size + 1) (q3 0 0 0))
 case first =>
  refine regP 2 (fun j v wg => match j with
   | 0 => v = .pointer (some ⟨w.heap.size, 0, none⟩)
   | 1 => v = .bool true
   | _ => True) (by decide) (by kernel_rfl) ?_ ?_ ?_
  ·intro j v u1 u2 h hc; exact h
  ·intro i o ac u hi ho hsz hf hg hc
   have hcs : i = 0 ∨ i = 1 := by omega
   rcases hcs with rfl | rfl <;> (injection ho with ho; subst ho; refine .inl ⟨wanted_none rfl, ?_⟩)
   ·have e1 : ac.eval (.tmp 1) = .pointer (some ⟨w.heap.size, 0, none⟩) := hf 1 (by kernel_rfl)
    exact opG_val (by revert e1; generalize ac.eval = ρ; intro e1; simp [go_sem, execOp, e1]) rfl (Chg.refl _)
   ·have c1 := cellPtZ (Z1.out.2.1.chg hc)
    have e1 : ac.eval (.tmp 3) = .pointer (some ⟨w.heap.size, 0, none⟩) := hg 0 (by decide) (by decide)
    exact opG_val (by revert e1; generalize ac.eval = ρ; intro e1; simp [go_sem, execOp, e1, c1]) rfl (Chg.refl _)
  ·intro u V hV hc
   have q4 : V 1 = .bool true := hV 1 (by decide)
   go_wp2_with fail
   go_meet
   exact ⟨q4, (Z1.out.1.trans hc), (Z1.out.2.2.chg hc)⟩
 obtain ⟨rfl, hz⟩ := hcut
 obtain ⟨w2, hw2⟩ : ∃ zz0, zz0 = wc := ⟨_, rfl⟩
 rw [← hw2] at hz ⊢
 have Z2 : Hid _ := hz
 clear hw2 hz Z1
 go_upto_region 2 with fail
 go_cut [] from 5 to 7 (fun wc => Chg w wc ∧ Ar wc (w.heap.size + 1) (q3 1 1 0))
 case first =>
  refine regP 3 (fun j v wg => match j with
   | 0 => v = .agg (num 1)
   | 1 => v = .agg (num 1)
   | 2 => v = .agg (q3 1 1 0)
   | _ => True) (by decide) (by kernel_rfl) ?_ ?_ ?_
  ·intro j v u1 u2 h hc; exact h
  ·intro i o ac u hi ho hsz hf hg hc
   have hcs : i = 0 ∨ i = 1 ∨ i = 2 := by omega
   rcases hcs with rfl | rfl | rfl <;> (injection ho with ho; subst ho; refine .inl ⟨wanted_none rfl, ?_⟩)
   ·exact opG_built _ [(0, .int .u64 1)] rfl (by kernel_rfl) (by kernel_rfl) rfl
   ·exact opG_built _ [(0, .int .u64 1)] rfl (by kernel_rfl) (by kernel_rfl) rfl
   ·have e1 : ac.eval (.tmp 5) = .agg (num 1) := hg 0 (by decide) (by decide)
    have e2 : ac.eval (.tmp 6) = .agg (num 1) := hg 1 (by decide) (by decide)
    exact opG_built _ [(0, .agg (num 1)), (1, .agg (num 1))] rfl (by simp [e1, e2]) (by kernel_rfl) rfl
  ·intro u V hV hc
   have q7 : V 2 = .agg (q3 1 1 0) := hV 2 (by decide)
   have hres0 := (Z2.out.2.chg hc)
   refine wpList_store_mid rfl 54 (.tmp 2) (.tmp 7) rfl (w.heap.size + 1) 0 (q3 1 1 0) (by rfl) (Eq.trans (by rfl) q7) (by rw [q3_size]; exact nms_there hres0 0 3 (by omega)) (szTh _ _ _) (q3_one _ _ _) ?_
   rw [setRowTh hres0 _ _ _]
   have k0_c : Chg w (u.setRow (w.heap.size + 1) (q3 1 1 0)) := ((Z2.out.1.trans hc).setRow (by omega) _)
   have k0_B2 := hres0.row (q3 1 1 0)
   generalize (u.setRow (w.heap.size + 1) (q3 1 1 0)) = u10 at k0_c k0_B2 ⊢
   go_wp2_with fail
   go_meet
   exact ⟨k0_c, k0_B2⟩
 have hz := hcut
 obtain ⟨w3, hw3⟩ : ∃ zz0, zz0 = wc := ⟨_, rfl⟩
 rw [← hw3] at hz ⊢
 have Z3 : Hid _ := hz
 clear hw3 hz Z2
 go_wp2_with fail
 exact bp_Th Try.results30 rfl rfl Z3.out.2 ⟨rfl, Z3.out.1⟩
set_option maxHeartbeats 16000000 in
theorem ofS_f (x y : Int) (hx : N256 x) (hy : N256 y) (w : World) : Calls Try.prog 30 #[.agg (pt false x y)] w fun r w' => r = .returned (.agg (q3 x y 1)) ∧ Chg w w' := by
 have HN : Hid (N256 x ∧ N256 y) := ⟨hx, hy⟩
 clear hx hy
 have hz0 := zeroTh.1
 have hsA0 := pt_size false x y
 obtain ⟨A0, hA0⟩ : ∃ zz0, zz0 = pt false x y := ⟨_, rfl⟩
 have HA0 : Hid (A0 = pt false x y) := hA0
 rw [← hA0] at hsA0 ⊢
 clear hA0
 go_enter Try.func30, Try.ntmps30
 go_upto_region 1 with fail
 obtain ⟨w1, hw1⟩ : ∃ w1, w1 = (w.alloc (.cells A0 26)).alloc (.cells (q3 0 0 0) 54) := ⟨_, rfl⟩
 have Z1 : Hid (Chg w w1 ∧ Ar w1 w.heap.size (pt false x y) ∧ Ar w1 (w.heap.size + 1) (q3 0 0 0)) := by
  have hnew0 := Ar.new w (pt false x y) 26
  have hnew1 := Ar.new (w.alloc (.cells (pt false x y) 26)) (q3 0 0 0) 54
  rw [World.size_alloc] at hnew1
  rw [hw1, HA0.out]
  exact ⟨(((Chg.refl w).alloc _).alloc _), ((hnew0).alloc _), (hnew1)⟩
 rw [← hw1]
 clear hw1 hz0 hsA0 HA0
 go_cut [4] from 3 to 4 (fun v4 wc => v4 = .bool false ∧ Chg w wc ∧ Ar wc w.heap.size (pt false x y) ∧ Ar wc (w.heap.size + 1) (q3 0 0 0))
 case first =>
  refine regP 2 (fun j v wg => match j with
   | 0 => v = .pointer (some ⟨w.heap.size, 0, none⟩)
   | 1 => v = .bool false
   | _ => True) (by decide) (by kernel_rfl) ?_ ?_ ?_
  ·intro j v u1 u2 h hc; exact h
  ·intro i o ac u hi ho hsz hf hg hc
   have hcs : i = 0 ∨ i = 1 := by omega
   rcases hcs with rfl | rfl <;> (injection ho with ho; subst ho; refine .inl ⟨wanted_none rfl, ?_⟩)
   ·have e1 : ac.eval (.tmp 1) = .pointer (some ⟨w.heap.size, 0, none⟩) := hf 1 (by kernel_rfl)
    exact opG_val (by revert e1; generalize ac.eval = ρ; intro e1; simp [go_sem, execOp, e1]) rfl (Chg.refl _)
   ·have c1 := cellPtZ (Z1.out.2.1.chg hc)
    have e1 : ac.eval (.tmp 3) = .pointer (some ⟨w.heap.size, 0, none⟩) := hg 0 (by decide) (by decide)
    exact opG_val (by revert e1; generalize ac.eval = ρ; intro e1; simp [go_sem, execOp, e1, c1]) rfl (Chg.refl _)
  ·intro u V hV hc
   have q4 : V 1 = .bool false := hV 1 (by decide)
   go_wp2_with fail
   go_meet
   exact ⟨q4, (Z1.out.1.trans hc), (Z1.out.2.1.chg hc), (Z1.out.2.2.chg hc)⟩
 obtain ⟨rfl, hz⟩ := hcut
 obtain ⟨w2, hw2⟩ : ∃ zz0, zz0 = wc := ⟨_, rfl⟩
 rw [← hw2] at hz ⊢
 have Z2 : Hid _ := hz
 clear hw2 hz Z1
 go_upto_region 3 with fail
 go_cut [] from 8 to 13 (fun wc => Chg w wc ∧ Ar wc (w.heap.size + 1) (q3 x y 1))
 case first =>
  refine regP 6 (fun j v wg => match j with
   | 0 => v = .pointer (some ⟨w.heap.size, 1, none⟩)
   | 1 => v = .agg (num x)
   | 2 => v = .pointer (some ⟨w.heap.size, 5, none⟩)
   | 3 => v = .agg (num y)
   | 4 => v = .agg (num 1)
   | 5 => v = .agg (q3 x y 1)
   | _ => True) (by decide) (by kernel_rfl) ?_ ?_ ?_
  ·intro j v u1 u2 h hc; exact h
  ·intro i o ac u hi ho hsz hf hg hc
   have hcs : i = 0 ∨ i = 1 ∨ i = 2 ∨ i = 3 ∨ i = 4 ∨ i = 5 := by omega
   rcases hcs with rfl | rfl | rfl | rfl | rfl | rfl <;> (injection ho with ho; subst ho; refine .inl ⟨wanted_none rfl, ?_⟩)
   ·have e1 : ac.eval (.tmp 1) = .pointer (some ⟨w.heap.size, 0, none⟩) := hf 1 (by kernel_rfl)
    exact opG_val (by revert e1; generalize ac.eval = ρ; intro e1; simp [go_sem, execOp, e1]) rfl (Chg.refl _)
   ·exact ldN rfl (hg 0 (by decide) (by decide)) (rangePtX (Z2.out.2.1.chg hc)) rfl
   ·have e1 : ac.eval (.tmp 1) = .pointer (some ⟨w.heap.size, 0, none⟩) := hf 1 (by kernel_rfl)
    exact opG_val (by revert e1; generalize ac.eval = ρ; intro e1; simp [go_sem, execOp, e1]) rfl (Chg.refl _)
   ·exact ldN rfl (hg 2 (by decide) (by decide)) (rangePtY (Z2.out.2.1.chg hc)) rfl
   ·exact opG_built _ [(0, .int .u64 1)] rfl (by kernel_rfl) (by kernel_rfl) rfl
   ·have e1 : ac.eval (.tmp 9) = .agg (num x) := hg 1 (by decide) (by decide)
    have e2 : ac.eval (.tmp 11) = .agg (num y) := hg 3 (by decide) (by decide)
    have e3 : ac.eval (.tmp 12) = .agg (num 1) := hg 4 (by decide) (by decide)
    exact opG_built _ [(0, .agg (num x)), (1, .agg (num y)), (2, .agg (num 1))] rfl (by simp [e1, e2, e3]) (builtTh _ _ _) rfl
  ·intro u V hV hc
   have q13 : V 5 = .agg (q3 x y 1) := hV 5 (by decide)
   have hres0 := (Z2.out.2.2.chg hc)
   refine wpList_store_mid rfl 54 (.tmp 2) (.tmp 13) rfl (w.heap.size + 1) 0 (q3 x y 1) (by rfl) (Eq.trans (by rfl) q13) (by rw [q3_size]; exact nms_there hres0 0 3 (by omega)) (szTh _ _ _) (q3_one _ _ _) ?_
   rw [setRowTh hres0 _ _ _]
   have k0_c : Chg w (u.setRow (w.heap.size + 1) (q3 x y 1)) := ((Z2.out.1.trans hc).setRow (by omega) _)
   have k0_B2 := hres0.row (q3 x y 1)
   generalize (u.setRow (w.heap.size + 1) (q3 x y 1)) = u10 at k0_c k0_B2 ⊢
   go_wp2_with fail
   go_meet
   exact ⟨k0_c, k0_B2⟩
 have hz := hcut
 obtain ⟨w3, hw3⟩ : ∃ zz0, zz0 = wc := ⟨_, rfl⟩
 rw [← hw3] at hz ⊢
 have Z3 : Hid _ := hz
 clear hw3 hz Z2
 go_wp2_with fail
 exact bp_Th Try.results30 rfl rfl Z3.out.2 ⟨rfl, Z3.out.1⟩
theorem ofS_any (z : Bool) (x y : Int) (hx : N256 x) (hy : N256 y) (h : onR z x y = true) (w : World) : Calls Try.prog 30 #[.agg (pt z x y)] w fun r w' => ∃ X Y Z, r = .returned (.agg (q3 X Y Z)) ∧ JQ X Y Z (toP z x y) ∧ Chg w w' := by
 cases z with
 | true =>
  obtain ⟨rfl, rfl⟩ := onR_t h
  exact (ofS_t w).mono fun r w' hq => ⟨_, _, _, hq.1, JQ.zero, hq.2⟩
 | false => exact (ofS_f x y hx hy w).mono fun r w' hq => ⟨_, _, _, hq.1, JQ.at hx hy h, hq.2⟩
set_option maxHeartbeats 16000000 in
theorem backS_z (x y z : Int) (P : PQt) (h : JQ x y z P) (hd : decide (z = 0) = true) (w : World) : Calls Try.prog 28 #[.agg (q3 x y z)] w fun r w' => r = .returned (.agg (pt true 0 0)) ∧ Chg w w' := by
 have H1 : Hid (JQ x y z P) := h
 have HD : Hid (decide (z = 0) = true) := hd
 clear h hd
 have hz0 := zeroPt.1
 have hsA0 := q3_size x y z
 obtain ⟨A0, hA0⟩ : ∃ zz0, zz0 = q3 x y z := ⟨_, rfl⟩
 have HA0 : Hid (A0 = q3 x y z) := hA0
 rw [← hA0] at hsA0 ⊢
 clear hA0
 go_enter Try.func28, Try.ntmps28
 go_upto_region 1 with fail
 obtain ⟨w1, hw1⟩ : ∃ w1, w1 = (w.alloc (.cells A0 54)).alloc (.cells (pt false 0 0) 26) := ⟨_, rfl⟩
 have Z1 : Hid (Chg w w1 ∧ Ar w1 w.heap.size (q3 x y z) ∧ Ar w1 (w.heap.size + 1) (pt false 0 0)) := by
  have hnew0 := Ar.new w (q3 x y z) 54
  have hnew1 := Ar.new (w.alloc (.cells (q3 x y z) 54)) (pt false 0 0) 26
  rw [World.size_alloc] at hnew1
  rw [hw1, HA0.out]
  exact ⟨(((Chg.refl w).alloc _).alloc _), ((hnew0).alloc _), (hnew1)⟩
 rw [← hw1]
 clear hw1 hz0 hsA0 HA0
 go_cut [8] from 5 to 8 (fun v8 wc => v8 = .bool true ∧ Chg w wc ∧ Ar wc (w.heap.size + 1) (pt false 0 0))
 case first =>
  refine regP 4 (fun j v wg => match j with
   | 0 => v = .pointer (some ⟨w.heap.size, 8, none⟩)
   | 1 => v = .agg (num z)
   | 2 => v = .agg (num 0)
   | 3 => v = .bool true
   | _ => True) (by decide) (by kernel_rfl) ?_ ?_ ?_
  ·intro j v u1 u2 h hc; exact h
  ·intro i o ac u hi ho hsz hf hg hc
   have hcs : i = 0 ∨ i = 1 ∨ i = 2 ∨ i = 3 := by omega
   rcases hcs with rfl | rfl | rfl | rfl <;> (injection ho with ho; subst ho; refine .inl ⟨wanted_none rfl, ?_⟩)
   ·have e1 : ac.eval (.tmp 1) = .pointer (some ⟨w.heap.size, 0, none⟩) := hf 1 (by kernel_rfl)
    exact opG_val (by revert e1; generalize ac.eval = ρ; intro e1; simp [go_sem, execOp, e1]) rfl (Chg.refl _)
   ·exact ldN rfl (hg 0 (by decide) (by decide)) (rangeq3F2 (Z1.out.2.1.chg hc)) rfl
   ·exact opG_built _ [] rfl (by kernel_rfl) (by kernel_rfl) rfl
   ·have e1 : ac.eval (.tmp 6) = .agg (num z) := hg 1 (by decide) (by decide)
    have e2 : ac.eval (.tmp 7) = .agg (num 0) := hg 2 (by decide) (by decide)
    exact opG_val (by revert e1 e2; generalize ac.eval = ρ; intro e1 e2; simp [go_sem, execOp, e1, e2, run_eqNum (H1.out.nz) n0P, HD.out]) rfl (Chg.refl _)
  ·intro u V hV hc
   have q8 : V 3 = .bool true := hV 3 (by decide)
   go_wp2_with fail
   go_meet
   exact ⟨q8, (Z1.out.1.trans hc), (Z1.out.2.2.chg hc)⟩
 obtain ⟨rfl, hz⟩ := hcut
 obtain ⟨w2, hw2⟩ : ∃ zz0, zz0 = wc := ⟨_, rfl⟩
 rw [← hw2] at hz ⊢
 have Z2 : Hid _ := hz
 clear hw2 hz Z1
 go_upto_region 2 with fail
 go_cut [] from 9 to 9 (fun wc => Chg w wc ∧ Ar wc (w.heap.size + 1) (pt true 0 0))
 case first =>
  refine regP 1 (fun j v wg => match j with
   | 0 => v = .agg (pt true 0 0)
   | _ => True) (by decide) (by kernel_rfl) ?_ ?_ ?_
  ·intro j v u1 u2 h hc; exact h
  ·intro i o ac u hi ho hsz hf hg hc
   have hcs : i = 0 := by omega
   rcases hcs with rfl <;> (injection ho with ho; subst ho; refine .inl ⟨wanted_none rfl, ?_⟩)
   ·exact opG_built _ [(0, .bool true)] rfl (by kernel_rfl) builtPtZ rfl
  ·intro u V hV hc
   have q9 : V 0 = .agg (pt true 0 0) := hV 0 (by decide)
   have hres0 := (Z2.out.2.chg hc)
   refine wpList_store_mid rfl 26 (.tmp 2) (.tmp 9) rfl (w.heap.size + 1) 0 (pt true 0 0) (by rfl) (Eq.trans (by rfl) q9) (by rw [pt_size]; exact pt_there hres0) (szPt _ _ _) (pt_one _ _ _) ?_
   rw [setRowPt hres0 _ _ _]
   have k0_c : Chg w (u.setRow (w.heap.size + 1) (pt true 0 0)) := ((Z2.out.1.trans hc).setRow (by omega) _)
   have k0_B2 := hres0.row (pt true 0 0)
   generalize (u.setRow (w.heap.size + 1) (pt true 0 0)) = u10 at k0_c k0_B2 ⊢
   go_wp2_with fail
   go_meet
   exact ⟨k0_c, k0_B2⟩
 have hz := hcut
 obtain ⟨w3, hw3⟩ : ∃ zz0, zz0 = wc := ⟨_, rfl⟩
 rw [← hw3] at hz ⊢
 have Z3 : Hid _ := hz
 clear hw3 hz Z2
 go_wp2_with fail
 exact bp_Pt Try.results28 rfl rfl Z3.out.2 ⟨rfl, Z3.out.1⟩
set_option maxHeartbeats 16000000 in
theorem backS_n (x y z : Int) (P : PQt) (h : JQ x y z P) (hd : decide (z = 0) = false) (w : World) : Calls Try.prog 28 #[.agg (q3 x y z)] w fun r w' => r = .returned (.agg (pt (zP P) (xP P) (yP P))) ∧ Chg w w' := by
 have H1 : Hid (JQ x y z P) := h
 have HD : Hid (decide (z = 0) = false) := hd
 clear h hd
 have HB : Hid (∀ i ii, i = md 2 (z ^ ((mo 2 - 2) % R256).toNat) → ii = md 2 (i * i) → zP P = false ∧ md 2 (x * ii) = xP P ∧ md 2 (y * md 2 (ii * i)) = yP P) := fun i ii hi hii => H1.out.back (of_decide_eq_false HD.out) hi hii
 have hz0 := zeroPt.1
 have hsA0 := q3_size x y z
 obtain ⟨A0, hA0⟩ : ∃ zz0, zz0 = q3 x y z := ⟨_, rfl⟩
 have HA0 : Hid (A0 = q3 x y z) := hA0
 rw [← hA0] at hsA0 ⊢
 clear hA0
 go_enter Try.func28, Try.ntmps28
 go_upto_region 1 with fail
 obtain ⟨w1, hw1⟩ : ∃ w1, w1 = (w.alloc (.cells A0 54)).alloc (.cells (pt false 0 0) 26) := ⟨_, rfl⟩
 have Z1 : Hid (Chg w w1 ∧ Ar w1 w.heap.size (q3 x y z) ∧ Ar w1 (w.heap.size + 1) (pt false 0 0)) := by
  have hnew0 := Ar.new w (q3 x y z) 54
  have hnew1 := Ar.new (w.alloc (.cells (q3 x y z) 54)) (pt false 0 0) 26
  rw [World.size_alloc] at hnew1
  rw [hw1, HA0.out]
  exact ⟨(((Chg.refl w).alloc _).alloc _), ((hnew0).alloc _), (hnew1)⟩
 rw [← hw1]
 clear hw1 hz0 hsA0 HA0
 go_cut [8] from 5 to 8 (fun v8 wc => v8 = .bool false ∧ Chg w wc ∧ Ar wc w.heap.size (q3 x y z) ∧ Ar wc (w.heap.size + 1) (pt false 0 0))
 case first =>
  refine regP 4 (fun j v wg => match j with
   | 0 => v = .pointer (some ⟨w.heap.size, 8, none⟩)
   | 1 => v = .agg (num z)
   | 2 => v = .agg (num 0)
   | 3 => v = .bool false
   | _ => True) (by decide) (by kernel_rfl) ?_ ?_ ?_
  ·intro j v u1 u2 h hc; exact h
  ·intro i o ac u hi ho hsz hf hg hc
   have hcs : i = 0 ∨ i = 1 ∨ i = 2 ∨ i = 3 := by omega
   rcases hcs with rfl | rfl | rfl | rfl <;> (injection ho with ho; subst ho; refine .inl ⟨wanted_none rfl, ?_⟩)
   ·have e1 : ac.eval (.tmp 1) = .pointer (some ⟨w.heap.size, 0, none⟩) := hf 1 (by kernel_rfl)
    exact opG_val (by revert e1; generalize ac.eval = ρ; intro e1; simp [go_sem, execOp, e1]) rfl (Chg.refl _)
   ·exact ldN rfl (hg 0 (by decide) (by decide)) (rangeq3F2 (Z1.out.2.1.chg hc)) rfl
   ·exact opG_built _ [] rfl (by kernel_rfl) (by kernel_rfl) rfl
   ·have e1 : ac.eval (.tmp 6) = .agg (num z) := hg 1 (by decide) (by decide)
    have e2 : ac.eval (.tmp 7) = .agg (num 0) := hg 2 (by decide) (by decide)
    exact opG_val (by revert e1 e2; generalize ac.eval = ρ; intro e1 e2; simp [go_sem, execOp, e1, e2, run_eqNum (H1.out.nz) n0P, HD.out]) rfl (Chg.refl _)
  ·intro u V hV hc
   have q8 : V 3 = .bool false := hV 3 (by decide)
   go_wp2_with fail
   go_meet
   exact ⟨q8, (Z1.out.1.trans hc), (Z1.out.2.1.chg hc), (Z1.out.2.2.chg hc)⟩
 obtain ⟨rfl, hz⟩ := hcut
 obtain ⟨w2, hw2⟩ : ∃ zz0, zz0 = wc := ⟨_, rfl⟩
 rw [← hw2] at hz ⊢
 have Z2 : Hid _ := hz
 clear hw2 hz Z1
 go_upto_region 3 with fail
 go_cut [3] from 3 to 12 (fun v3 wc => ∃ b3, v3 = .pointer (some ⟨b3, 0, none⟩) ∧ w.heap.size + 1 ≠ b3 ∧ Chg w wc ∧ Ar wc w.heap.size (q3 x y z) ∧ Ar wc (w.heap.size + 1) (pt false 0 0) ∧ Ar wc b3 (num (md 2 (z ^ ((mo 2 - 2) % R256).toNat))))
 case first =>
  refine regP 4 (fun j v wg => match j with
   | 0 => v = .pointer (some ⟨w.heap.size, 8, none⟩)
   | 1 => v = .agg (num z)
   | 2 => v = .agg (num (md 2 (z ^ ((mo 2 - 2) % R256).toNat)))
   | 3 => ∃ b, v = .pointer (some ⟨b, 0, none⟩) ∧ Ar wg b (num 0) ∧ w2.heap.size ≤ b
   | _ => True) (by decide) (by kernel_rfl) ?_ ?_ ?_
  ·intro j v u1 u2 h hc
   match j, h with
   | 0, h => exact h
   | 1, h => exact h
   | 2, h => exact h
   | 3, h => (obtain ⟨b, h1, h2, h3⟩ := h; exact ⟨b, h1, h2.chg hc, h3⟩)
   | _ + 4, h => exact trivial
  ·intro i o ac u hi ho hsz hf hg hc
   have hcs : i = 0 ∨ i = 1 ∨ i = 2 ∨ i = 3 := by omega
   rcases hcs with rfl | rfl | rfl | rfl <;> (injection ho with ho; subst ho; refine .inl ⟨wanted_none rfl, ?_⟩)
   ·have e1 : ac.eval (.tmp 1) = .pointer (some ⟨w.heap.size, 0, none⟩) := hf 1 (by kernel_rfl)
    exact opG_val (by revert e1; generalize ac.eval = ρ; intro e1; simp [go_sem, execOp, e1]) rfl (Chg.refl _)
   ·exact ldN rfl (hg 0 (by decide) (by decide)) (rangeq3F2 (Z2.out.2.1.chg hc)) rfl
   ·have e1 : ac.eval (.const (.int .i64 2)) = .int .i64 2 := rfl
    have e2 : ac.eval (.tmp 11) = .agg (num z) := hg 1 (by decide) (by decide)
    refine opG_go 55 Try.f55 #[.const (.int .i64 2), .tmp 11] #[35, 24] rfl Try.func55 (by kernel_rfl) (by kernel_rfl) (by simp [e1, e2]) (Calls.mono (invR_any 2 z (H1.out.nz) _) ?_)
    rintro r u2 ⟨rfl, hc2⟩
    exact ⟨_, rfl, rfl, hc2⟩
   ·exact opG_val (v := .pointer (some ⟨u.heap.size, 0, none⟩)) (w' := u.alloc (.cells (num 0) 24)) (by generalize ac.eval = ρ; simp [go_sem, execOp, zero25.1]) ⟨_, rfl, Ar.new _ _ _, hc.size⟩ ((Chg.refl _).alloc _)
  ·intro u V hV hc
   have q12 : V 2 = .agg (num (md 2 (z ^ ((mo 2 - 2) % R256).toNat))) := hV 2 (by decide)
   obtain ⟨b3, q3, r3, s3⟩ := hV 3 (by decide)
   have lw3 : w.heap.size ≤ b3 := Nat.le_trans Z2.out.1.size s3
   have hres0 := r3
   refine wpList_store_mid rfl 24 (.tmp 3) (.tmp 12) rfl b3 0 (num (md 2 (z ^ ((mo 2 - 2) % R256).toNat))) (Eq.trans (by rfl) q3) (Eq.trans (by rfl) q12) (by rw [num_size]; exact thereN hres0) (szN _) (num_one _) ?_
   rw [setRowN hres0 _]
   have k0_c : Chg w (u.setRow b3 (num (md 2 (z ^ ((mo 2 - 2) % R256).toNat)))) := ((Z2.out.1.trans hc).setRow lw3 _)
   have k0_B1 := (Z2.out.2.1.chg hc).rowOther (Z2.out.2.1.apart s3) (num (md 2 (z ^ ((mo 2 - 2) % R256).toNat)))
   have k0_B2 := (Z2.out.2.2.chg hc).rowOther (Z2.out.2.2.apart s3) (num (md 2 (z ^ ((mo 2 - 2) % R256).toNat)))
   have k0_B3 := hres0.row (num (md 2 (z ^ ((mo 2 - 2) % R256).toNat)))
   generalize (u.setRow b3 (num (md 2 (z ^ ((mo 2 - 2) % R256).toNat)))) = u10 at k0_c k0_B1 k0_B2 k0_B3 ⊢
   go_wp2_with fail
   go_meet
   exact ⟨b3, q3, Z2.out.2.2.apart s3, k0_c, k0_B1, k0_B2, k0_B3⟩
 obtain ⟨b3, rfl, of0, hz⟩ := hcut
 obtain ⟨w3, hw3⟩ : ∃ zz0, zz0 = wc := ⟨_, rfl⟩
 rw [← hw3] at hz ⊢
 have Z3 : Hid _ := hz
 have O3_0 : Hid _ := of0
 clear hw3 hz of0 Z2
 obtain ⟨e3x3, he3x3⟩ : ∃ zz0, zz0 = md 2 (z ^ ((mo 2 - 2) % R256).toNat) := ⟨_, rfl⟩
 have Ee3x3 : Hid (e3x3 = md 2 (z ^ ((mo 2 - 2) % R256).toNat)) := he3x3
 have Ne3x3 : Hid (N256 e3x3) := by show N256 e3x3; rw [he3x3]; exact md_N _ _
 rw [← he3x3] at Z3
 clear he3x3
 go_upto_region 4 with fail
 go_cut [4] from 4 to 15 (fun v4 wc => ∃ b4, v4 = .pointer (some ⟨b4, 0, none⟩) ∧ w.heap.size + 1 ≠ b4 ∧ Chg w wc ∧ Ar wc w.heap.size (q3 x y z) ∧ Ar wc (w.heap.size + 1) (pt false 0 0) ∧ Ar wc b3 (num e3x3) ∧ Ar wc b4 (num (md 2 (e3x3 * e3x3))))
 case first =>
  refine regP 4 (fun j v wg => match j with
   | 0 => v = .agg (num e3x3)
   | 1 => v = .agg (num e3x3)
   | 2 => v = .agg (num (md 2 (e3x3 * e3x3)))
   | 3 => ∃ b, v = .pointer (some ⟨b, 0, none⟩) ∧ Ar wg b (num 0) ∧ w3.heap.size ≤ b
   | _ => True) (by decide) (by kernel_rfl) ?_ ?_ ?_
  ·intro j v u1 u2 h hc
   match j, h with
   | 0, h => exact h
   | 1, h => exact h
   | 2, h => exact h
   | 3, h => (obtain ⟨b, h1, h2, h3⟩ := h; exact ⟨b, h1, h2.chg hc, h3⟩)
   | _ + 4, h => exact trivial
  ·intro i o ac u hi ho hsz hf hg hc
   have hcs : i = 0 ∨ i = 1 ∨ i = 2 ∨ i = 3 := by omega
   rcases hcs with rfl | rfl | rfl | rfl <;> (injection ho with ho; subst ho; refine .inl ⟨wanted_none rfl, ?_⟩)
   ·exact ldN rfl (hf 3 (by kernel_rfl)) (rangeAp (Z3.out.2.2.2.chg hc)) rfl
   ·exact ldN rfl (hf 3 (by kernel_rfl)) (rangeAp (Z3.out.2.2.2.chg hc)) rfl
   ·exact dM (.tmp 13) (.tmp 14) rfl (hg 0 (by decide) (by decide)) (hg 1 (by decide) (by decide)) (Ne3x3.out) (Ne3x3.out) fun _ _ => rfl
   ·exact opG_val (v := .pointer (some ⟨u.heap.size, 0, none⟩)) (w' := u.alloc (.cells (num 0) 24)) (by generalize ac.eval = ρ; simp [go_sem, execOp, zero25.1]) ⟨_, rfl, Ar.new _ _ _, hc.size⟩ ((Chg.refl _).alloc _)
  ·intro u V hV hc
   have q15 : V 2 = .agg (num (md 2 (e3x3 * e3x3))) := hV 2 (by decide)
   obtain ⟨b4, q4, r4, s4⟩ := hV 3 (by decide)
   have lw4 : w.heap.size ≤ b4 := Nat.le_trans Z3.out.1.size s4
   have hres0 := r4
   refine wpList_store_mid rfl 24 (.tmp 4) (.tmp 15) rfl b4 0 (num (md 2 (e3x3 * e3x3))) (Eq.trans (by rfl) q4) (Eq.trans (by rfl) q15) (by rw [num_size]; exact thereN hres0) (szN _) (num_one _) ?_
   rw [setRowN hres0 _]
   have k0_c : Chg w (u.setRow b4 (num (md 2 (e3x3 * e3x3)))) := ((Z3.out.1.trans hc).setRow lw4 _)
   have k0_B1 := (Z3.out.2.1.chg hc).rowOther (Z3.out.2.1.apart s4) (num (md 2 (e3x3 * e3x3)))
   have k0_B2 := (Z3.out.2.2.1.chg hc).rowOther (Z3.out.2.2.1.apart s4) (num (md 2 (e3x3 * e3x3)))
   have k0_B3 := (Z3.out.2.2.2.chg hc).rowOther (Z3.out.2.2.2.apart s4) (num (md 2 (e3x3 * e3x3)))
   have k0_B4 := hres0.row (num (md 2 (e3x3 * e3x3)))
   generalize (u.setRow b4 (num (md 2 (e3x3 * e3x3)))) = u10 at k0_c k0_B1 k0_B2 k0_B3 k0_B4 ⊢
   go_wp2_with fail
   go_meet
   exact ⟨b4, q4, Z3.out.2.2.1.apart s4, k0_c, k0_B1, k0_B2, k0_B3, k0_B4⟩
 obtain ⟨b4, rfl, of0, hz⟩ := hcut
 obtain ⟨w4, hw4⟩ : ∃ zz0, zz0 = wc := ⟨_, rfl⟩
 rw [← hw4] at hz ⊢
 have Z4 : Hid _ := hz
 have O4_0 : Hid _ := of0
 clear hw4 hz of0 Z3
 obtain ⟨e4x4, he4x4⟩ : ∃ zz0, zz0 = md 2 (e3x3 * e3x3) := ⟨_, rfl⟩
 have Ee4x4 : Hid (e4x4 = md 2 (e3x3 * e3x3)) := he4x4
 have Ne4x4 : Hid (N256 e4x4) := by show N256 e4x4; rw [he4x4]; exact md_N _ _
 rw [← he4x4] at Z4
 clear he4x4
 go_upto_region 5 with fail
 go_cut [] from 16 to 26 (fun wc => Chg w wc ∧ Ar wc (w.heap.size + 1) (pt false (md 2 (x * e4x4)) (md 2 (y * (md 2 (e4x4 * e3x3))))))
 case first =>
  refine regM 11 (fun j => false) (fun j v wg => match j with
   | 0 => v = .pointer (some ⟨w.heap.size, 0, none⟩)
   | 1 => v = .agg (num x)
   | 2 => v = .agg (num e4x4)
   | 3 => v = .agg (num (md 2 (x * e4x4)))
   | 4 => v = .pointer (some ⟨w.heap.size, 4, none⟩)
   | 5 => v = .agg (num y)
   | 6 => v = .agg (num e4x4)
   | 7 => v = .agg (num e3x3)
   | 8 => v = .agg (num (md 2 (e4x4 * e3x3)))
   | 9 => v = .agg (num (md 2 (y * (md 2 (e4x4 * e3x3)))))
   | 10 => v = .agg (pt false (md 2 (x * e4x4)) (md 2 (y * (md 2 (e4x4 * e3x3)))))
   | _ => True) (by kernel_rfl) (by decide) (by kernel_rfl) (by kernel_rfl) (by kernel_rfl) (by kernel_rfl) ?_ ?_ ?_ ?_
  ·intro j v u1 u2 h hc; exact h
  ·intro j v u hj ha h
   cases ha
  ·intro i o ac u hi ho hsz hf hg hc
   have hcs : i = 0 ∨ i = 1 ∨ i = 2 ∨ i = 3 ∨ i = 4 ∨ i = 5 ∨ i = 6 ∨ i = 7 ∨ i = 8 ∨ i = 9 ∨ i = 10 := by omega
   rcases hcs with rfl | rfl | rfl | rfl | rfl | rfl | rfl | rfl | rfl | rfl | rfl <;> (injection ho with ho; subst ho; refine ⟨wanted_none rfl, ?_⟩)
   ·have e1 : ac.eval (.tmp 1) = .pointer (some ⟨w.heap.size, 0, none⟩) := hf 1 (by kernel_rfl)
    exact opG_val (by revert e1; generalize ac.eval = ρ; intro e1; simp [go_sem, execOp, e1]) ⟨rfl, fun h => by cases h⟩ (Chg.refl _)
   ·exact ldN rfl (hg 0 (by kernel_rfl) (by decide)) (rangeq3F0 (Z4.out.2.1.chg hc)) ⟨rfl, fun h => by cases h⟩
   ·exact ldN rfl (hf 4 (by kernel_rfl)) (rangeAp (Z4.out.2.2.2.2.chg hc)) ⟨rfl, fun h => by cases h⟩
   ·exact dM (.tmp 17) (.tmp 18) rfl (hg 1 (by kernel_rfl) (by decide)) (hg 2 (by kernel_rfl) (by decide)) (H1.out.nx) (Ne4x4.out) fun _ _ => ⟨rfl, fun h => by cases h⟩
   ·have e1 : ac.eval (.tmp 1) = .pointer (some ⟨w.heap.size, 0, none⟩) := hf 1 (by kernel_rfl)
    exact opG_val (by revert e1; generalize ac.eval = ρ; intro e1; simp [go_sem, execOp, e1]) ⟨rfl, fun h => by cases h⟩ (Chg.refl _)
   ·exact ldN rfl (hg 4 (by kernel_rfl) (by decide)) (rangeq3F1 (Z4.out.2.1.chg hc)) ⟨rfl, fun h => by cases h⟩
   ·exact ldN rfl (hf 4 (by kernel_rfl)) (rangeAp (Z4.out.2.2.2.2.chg hc)) ⟨rfl, fun h => by cases h⟩
   ·exact ldN rfl (hf 3 (by kernel_rfl)) (rangeAp (Z4.out.2.2.2.1.chg hc)) ⟨rfl, fun h => by cases h⟩
   ·exact dM (.tmp 22) (.tmp 23) rfl (hg 6 (by kernel_rfl) (by decide)) (hg 7 (by kernel_rfl) (by decide)) (Ne4x4.out) (Ne3x3.out) fun _ _ => ⟨rfl, fun h => by cases h⟩
   ·exact dM (.tmp 21) (.tmp 24) rfl (hg 5 (by kernel_rfl) (by decide)) (hg 8 (by kernel_rfl) (by decide)) (H1.out.ny) (md_N _ _) fun _ _ => ⟨rfl, fun h => by cases h⟩
   ·have e1 : ac.eval (.tmp 19) = .agg (num (md 2 (x * e4x4))) := hg 3 (by kernel_rfl) (by decide)
    have e2 : ac.eval (.tmp 25) = .agg (num (md 2 (y * (md 2 (e4x4 * e3x3))))) := hg 9 (by kernel_rfl) (by decide)
    exact opG_built _ [(1, .agg (num (md 2 (x * e4x4)))), (2, .agg (num (md 2 (y * (md 2 (e4x4 * e3x3))))))] rfl (by simp [e1, e2]) (builtPt _ _) ⟨rfl, fun h => by cases h⟩
  ·intro u V hV hap hc
   have q26 : V 10 = .agg (pt false (md 2 (x * e4x4)) (md 2 (y * (md 2 (e4x4 * e3x3))))) := hV 10 (by decide)
   have ordO3_0 := O3_0.out
   have ordO4_0 := O4_0.out
   have hres0 := (Z4.out.2.2.1.chg hc)
   refine tail_cons rfl rfl ?_
   refine wp_store_mid 26 (.tmp 2) (.tmp 26) rfl (w.heap.size + 1) 0 (pt false (md 2 (x * e4x4)) (md 2 (y * (md 2 (e4x4 * e3x3))))) (by rfl) (Eq.trans (by rfl) q26) (by rw [pt_size]; exact pt_there hres0) (szPt _ _ _) (pt_one _ _ _) ?_
   rw [setRowPt hres0 _ _ _]
   have k0_c : Chg w (u.setRow (w.heap.size + 1) (pt false (md 2 (x * e4x4)) (md 2 (y * (md 2 (e4x4 * e3x3)))))) := ((Z4.out.1.trans hc).setRow (by omega) _)
   have k0_B2 := hres0.row (pt false (md 2 (x * e4x4)) (md 2 (y * (md 2 (e4x4 * e3x3)))))
   generalize (u.setRow (w.heap.size + 1) (pt false (md 2 (x * e4x4)) (md 2 (y * (md 2 (e4x4 * e3x3)))))) = u10 at k0_c k0_B2 ⊢
   refine tail_nil rfl ?_
   go_wp2_with fail
   go_meet
   exact ⟨k0_c, k0_B2⟩
 have hz := hcut
 obtain ⟨w5, hw5⟩ : ∃ zz0, zz0 = wc := ⟨_, rfl⟩
 rw [← hw5] at hz ⊢
 have Z5 : Hid _ := hz
 clear hw5 hz Z4
 have hb := HB.out _ _ Ee3x3.out Ee4x4.out
 have Z9 := Z5.out
 rw [← hb.1, hb.2.1, hb.2.2] at Z9
 have Z8 : Hid _ := Z9
 clear Z9 hb Z5
 go_wp2_with fail
 exact bp_Pt Try.results28 rfl rfl Z8.out.2 ⟨rfl, Z8.out.1⟩
theorem backS_any (x y z : Int) (P : PQt) (h : JQ x y z P) (w : World) : Calls Try.prog 28 #[.agg (q3 x y z)] w fun r w' => r = .returned (.agg (pt (zP P) (xP P) (yP P))) ∧ Chg w w' := by
 cases hd : decide (z = 0) with
 | true =>
  have e := h.none.1 (of_decide_eq_true hd)
  have k := backS_z x y z P h hd w
  rw [e]
  exact k
 | false => exact backS_n x y z P h hd w
set_option maxHeartbeats 16000000 in
theorem twiceS_z (x y z : Int) (P : PQt) (h : JQ x y z P) (hd : decide (z = 0) = true) (w : World) : Calls Try.prog 56 #[.agg (q3 x y z)] w fun r w' => r = .returned (.agg (q3 1 1 0)) ∧ Chg w w' := by
 have H1 : Hid (JQ x y z P) := h
 have HD : Hid (decide (z = 0) = true) := hd
 clear h hd
 have hz0 := zeroTh.1
 have hsA0 := q3_size x y z
 obtain ⟨A0, hA0⟩ : ∃ zz0, zz0 = q3 x y z := ⟨_, rfl⟩
 have HA0 : Hid (A0 = q3 x y z) := hA0
 rw [← hA0] at hsA0 ⊢
 clear hA0
 go_enter Try.func56, Try.ntmps56
 go_upto_region 1 with fail
 obtain ⟨w1, hw1⟩ : ∃ w1, w1 = (w.alloc (.cells A0 54)).alloc (.cells (q3 0 0 0) 54) := ⟨_, rfl⟩
 have Z1 : Hid (Chg w w1 ∧ Ar w1 w.heap.size (q3 x y z) ∧ Ar w1 (w.heap.size + 1) (q3 0 0 0)) := by
  have hnew0 := Ar.new w (q3 x y z) 54
  have hnew1 := Ar.new (w.alloc (.cells (q3 x y z) 54)) (q3 0 0 0) 54
  rw [World.size_alloc] at hnew1
  rw [hw1, HA0.out]
  exact ⟨(((Chg.refl w).alloc _).alloc _), ((hnew0).alloc _), (hnew1)⟩
 rw [← hw1]
 clear hw1 hz0 hsA0 HA0
 go_cut [18] from 9 to 18 (fun v18 wc => v18 = .bool true ∧ Chg w wc ∧ Ar wc (w.heap.size + 1) (q3 0 0 0))
 case first =>
  refine regP 10 (fun j v wg => match j with
   | 0 => v = .pointer (some ⟨w.heap.size, 8, none⟩)
   | 1 => v = .agg (num z)
   | 2 => v = .agg (num 0)
   | 3 => v = .bool true
   | 4 => v = .bool true
   | 5 => v = undef
   | 6 => v = undef
   | 7 => v = undef
   | 8 => v = undef
   | 9 => v = .bool true
   | _ => True) (by decide) (by kernel_rfl) ?_ ?_ ?_
  ·intro j v u1 u2 h hc; exact h
  ·intro i o ac u hi ho hsz hf hg hc
   have hcs : i = 0 ∨ i = 1 ∨ i = 2 ∨ i = 3 ∨ i = 4 ∨ i = 5 ∨ i = 6 ∨ i = 7 ∨ i = 8 ∨ i = 9 := by omega
   rcases hcs with rfl | rfl | rfl | rfl | rfl | rfl | rfl | rfl | rfl | rfl <;> (injection ho with ho; subst ho)
   ·refine .inl ⟨wanted_none rfl, ?_⟩
    have e1 : ac.eval (.tmp 1) = .pointer (some ⟨w.heap.size, 0, none⟩) := hf 1 (by kernel_rfl)
    exact opG_val (by revert e1; generalize ac.eval = ρ; intro e1; simp [go_sem, execOp, e1]) rfl (Chg.refl _)
   ·refine .inl ⟨wanted_none rfl, ?_⟩
    exact ldN rfl (hg 0 (by decide) (by decide)) (rangeq3F2 (Z1.out.2.1.chg hc)) rfl
   ·refine .inl ⟨wanted_none rfl, ?_⟩
    exact opG_built _ [] rfl (by kernel_rfl) (by kernel_rfl) rfl
   ·refine .inl ⟨wanted_none rfl, ?_⟩
    have e1 : ac.eval (.tmp 10) = .agg (num z) := hg 1 (by decide) (by decide)
    have e2 : ac.eval (.tmp 11) = .agg (num 0) := hg 2 (by decide) (by decide)
    exact opG_val (by revert e1 e2; generalize ac.eval = ρ; intro e1 e2; simp [go_sem, execOp, e1, e2, run_eqNum (H1.out.nz) n0P, HD.out]) rfl (Chg.refl _)
   ·refine .inl ⟨wanted_none rfl, ?_⟩
    have e1 : ac.eval (.tmp 12) = .bool true := hg 3 (by decide) (by decide)
    exact opG_val (by simp [execOp, e1]) rfl (Chg.refl _)
   ·exact .inr ⟨wanted_not (T := _) (by kernel_rfl) hsz rfl (by decide : 4 < 10) rfl rfl (hg 4 (by decide) (by decide)), rfl⟩
   ·exact .inr ⟨wanted_not (T := _) (by kernel_rfl) hsz rfl (by decide : 4 < 10) rfl rfl (hg 4 (by decide) (by decide)), rfl⟩
   ·exact .inr ⟨wanted_not (T := _) (by kernel_rfl) hsz rfl (by decide : 4 < 10) rfl rfl (hg 4 (by decide) (by decide)), rfl⟩
   ·exact .inr ⟨wanted_not (T := _) (by kernel_rfl) hsz rfl (by decide : 4 < 10) rfl rfl (hg 4 (by decide) (by decide)), rfl⟩
   ·refine .inl ⟨wanted_none rfl, ?_⟩
    have e1 : ac.eval (.tmp 13) = .bool true := hg 4 (by decide) (by decide)
    have e2 : ac.eval (.const (.bool true)) = .bool true := rfl
    have e3 : ac.eval (.tmp 17) = undef := hg 8 (by decide) (by decide)
    exact opG_val (by revert e1 e2 e3; generalize ac.eval = ρ; intro e1 e2 e3; simp [go_sem, execOp, e1, e2, e3]) rfl (Chg.refl _)
  ·intro u V hV hc
   have q18 : V 9 = .bool true := hV 9 (by decide)
   go_wp2_with fail
   go_meet
   exact ⟨q18, (Z1.out.1.trans hc), (Z1.out.2.2.chg hc)⟩
 obtain ⟨rfl, hz⟩ := hcut
 obtain ⟨w2, hw2⟩ : ∃ zz0, zz0 = wc := ⟨_, rfl⟩
 rw [← hw2] at hz ⊢
 have Z2 : Hid _ := hz
 clear hw2 hz Z1
 go_upto_region 2 with fail
 go_cut [] from 19 to 21 (fun wc => Chg w wc ∧ Ar wc (w.heap.size + 1) (q3 1 1 0))
 case first =>
  refine regP 3 (fun j v wg => match j with
   | 0 => v = .agg (num 1)
   | 1 => v = .agg (num 1)
   | 2 => v = .agg (q3 1 1 0)
   | _ => True) (by decide) (by kernel_rfl) ?_ ?_ ?_
  ·intro j v u1 u2 h hc; exact h
  ·intro i o ac u hi ho hsz hf hg hc
   have hcs : i = 0 ∨ i = 1 ∨ i = 2 := by omega
   rcases hcs with rfl | rfl | rfl <;> (injection ho with ho; subst ho; refine .inl ⟨wanted_none rfl, ?_⟩)
   ·exact opG_built _ [(0, .int .u64 1)] rfl (by kernel_rfl) (by kernel_rfl) rfl
   ·exact opG_built _ [(0, .int .u64 1)] rfl (by kernel_rfl) (by kernel_rfl) rfl
   ·have e1 : ac.eval (.tmp 19) = .agg (num 1) := hg 0 (by decide) (by decide)
    have e2 : ac.eval (.tmp 20) = .agg (num 1) := hg 1 (by decide) (by decide)
    exact opG_built _ [(0, .agg (num 1)), (1, .agg (num 1))] rfl (by simp [e1, e2]) (by kernel_rfl) rfl
  ·intro u V hV hc
   have q21 : V 2 = .agg (q3 1 1 0) := hV 2 (by decide)
   have hres0 := (Z2.out.2.chg hc)
   refine wpList_store_mid rfl 54 (.tmp 2) (.tmp 21) rfl (w.heap.size + 1) 0 (q3 1 1 0) (by rfl) (Eq.trans (by rfl) q21) (by rw [q3_size]; exact nms_there hres0 0 3 (by omega)) (szTh _ _ _) (q3_one _ _ _) ?_
   rw [setRowTh hres0 _ _ _]
   have k0_c : Chg w (u.setRow (w.heap.size + 1) (q3 1 1 0)) := ((Z2.out.1.trans hc).setRow (by omega) _)
   have k0_B2 := hres0.row (q3 1 1 0)
   generalize (u.setRow (w.heap.size + 1) (q3 1 1 0)) = u10 at k0_c k0_B2 ⊢
   go_wp2_with fail
   go_meet
   exact ⟨k0_c, k0_B2⟩
 have hz := hcut
 obtain ⟨w3, hw3⟩ : ∃ zz0, zz0 = wc := ⟨_, rfl⟩
 rw [← hw3] at hz ⊢
 have Z3 : Hid _ := hz
 clear hw3 hz Z2
 go_wp2_with fail
 exact bp_Th Try.results56 rfl rfl Z3.out.2 ⟨rfl, Z3.out.1⟩
set_option maxHeartbeats 16000000 in
theorem twiceS_y (x y z : Int) (P : PQt) (h : JQ x y z P) (hd : decide (z = 0) = false) (hy : decide (y = 0) = true) (w : World) : Calls Try.prog 56 #[.agg (q3 x y z)] w fun r w' => r = .returned (.agg (q3 1 1 0)) ∧ Chg w w' := by
 have H1 : Hid (JQ x y z P) := h
 have HD : Hid (decide (z = 0) = false) := hd
 clear h hd
 have HY : Hid (decide (y = 0) = true) := hy
 clear hy
 have hz0 := zeroTh.1
 have hsA0 := q3_size x y z
 obtain ⟨A0, hA0⟩ : ∃ zz0, zz0 = q3 x y z := ⟨_, rfl⟩
 have HA0 : Hid (A0 = q3 x y z) := hA0
 rw [← hA0] at hsA0 ⊢
 clear hA0
 go_enter Try.func56, Try.ntmps56
 go_upto_region 1 with fail
 obtain ⟨w1, hw1⟩ : ∃ w1, w1 = (w.alloc (.cells A0 54)).alloc (.cells (q3 0 0 0) 54) := ⟨_, rfl⟩
 have Z1 : Hid (Chg w w1 ∧ Ar w1 w.heap.size (q3 x y z) ∧ Ar w1 (w.heap.size + 1) (q3 0 0 0)) := by
  have hnew0 := Ar.new w (q3 x y z) 54
  have hnew1 := Ar.new (w.alloc (.cells (q3 x y z) 54)) (q3 0 0 0) 54
  rw [World.size_alloc] at hnew1
  rw [hw1, HA0.out]
  exact ⟨(((Chg.refl w).alloc _).alloc _), ((hnew0).alloc _), (hnew1)⟩
 rw [← hw1]
 clear hw1 hz0 hsA0 HA0
 go_cut [18] from 9 to 18 (fun v18 wc => v18 = .bool true ∧ Chg w wc ∧ Ar wc (w.heap.size + 1) (q3 0 0 0))
 case first =>
  refine regP 10 (fun j v wg => match j with
   | 0 => v = .pointer (some ⟨w.heap.size, 8, none⟩)
   | 1 => v = .agg (num z)
   | 2 => v = .agg (num 0)
   | 3 => v = .bool false
   | 4 => v = .bool false
   | 5 => v = .pointer (some ⟨w.heap.size, 4, none⟩)
   | 6 => v = .agg (num y)
   | 7 => v = .agg (num 0)
   | 8 => v = .bool true
   | 9 => v = .bool true
   | _ => True) (by decide) (by kernel_rfl) ?_ ?_ ?_
  ·intro j v u1 u2 h hc; exact h
  ·intro i o ac u hi ho hsz hf hg hc
   have hcs : i = 0 ∨ i = 1 ∨ i = 2 ∨ i = 3 ∨ i = 4 ∨ i = 5 ∨ i = 6 ∨ i = 7 ∨ i = 8 ∨ i = 9 := by omega
   rcases hcs with rfl | rfl | rfl | rfl | rfl | rfl | rfl | rfl | rfl | rfl <;> (injection ho with ho; subst ho)
   ·refine .inl ⟨wanted_none rfl, ?_⟩
    have e1 : ac.eval (.tmp 1) = .pointer (some ⟨w.heap.size, 0, none⟩) := hf 1 (by kernel_rfl)
    exact opG_val (by revert e1; generalize ac.eval = ρ; intro e1; simp [go_sem, execOp, e1]) rfl (Chg.refl _)
   ·refine .inl ⟨wanted_none rfl, ?_⟩
    exact ldN rfl (hg 0 (by decide) (by decide)) (rangeq3F2 (Z1.out.2.1.chg hc)) rfl
   ·refine .inl ⟨wanted_none rfl, ?_⟩
    exact opG_built _ [] rfl (by kernel_rfl) (by kernel_rfl) rfl
   ·refine .inl ⟨wanted_none rfl, ?_⟩
    have e1 : ac.eval (.tmp 10) = .agg (num z) := hg 1 (by decide) (by decide)
    have e2 : ac.eval (.tmp 11) = .agg (num 0) := hg 2 (by decide) (by decide)
    exact opG_val (by revert e1 e2; generalize ac.eval = ρ; intro e1 e2; simp [go_sem, execOp, e1, e2, run_eqNum (H1.out.nz) n0P, HD.out]) rfl (Chg.refl _)
   ·refine .inl ⟨wanted_none rfl, ?_⟩
    have e1 : ac.eval (.tmp 12) = .bool false := hg 3 (by decide) (by decide)
    exact opG_val (by simp [execOp, e1]) rfl (Chg.refl _)
   ·refine .inl ⟨wanted_by (T := _) (by kernel_rfl) hsz rfl (by decide : 4 < 10) rfl (hg 4 (by decide) (by decide)), ?_⟩
    have e1 : ac.eval (.tmp 1) = .pointer (some ⟨w.heap.size, 0, none⟩) := hf 1 (by kernel_rfl)
    exact opG_val (by revert e1; generalize ac.eval = ρ; intro e1; simp [go_sem, execOp, e1]) rfl (Chg.refl _)
   ·refine .inl ⟨wanted_by (T := _) (by kernel_rfl) hsz rfl (by decide : 4 < 10) rfl (hg 4 (by decide) (by decide)), ?_⟩
    exact ldN rfl (hg 5 (by decide) (by decide)) (rangeq3F1 (Z1.out.2.1.chg hc)) rfl
   ·refine .inl ⟨wanted_by (T := _) (by kernel_rfl) hsz rfl (by decide : 4 < 10) rfl (hg 4 (by decide) (by decide)), ?_⟩
    exact opG_built _ [] rfl (by kernel_rfl) (by kernel_rfl) rfl
   ·refine .inl ⟨wanted_by (T := _) (by kernel_rfl) hsz rfl (by decide : 4 < 10) rfl (hg 4 (by decide) (by decide)), ?_⟩
    have e1 : ac.eval (.tmp 15) = .agg (num y) := hg 6 (by decide) (by decide)
    have e2 : ac.eval (.tmp 16) = .agg (num 0) := hg 7 (by decide) (by decide)
    exact opG_val (by revert e1 e2; generalize ac.eval = ρ; intro e1 e2; simp [go_sem, execOp, e1, e2, run_eqNum (H1.out.ny) n0P, HY.out]) rfl (Chg.refl _)
   ·refine .inl ⟨wanted_none rfl, ?_⟩
    have e1 : ac.eval (.tmp 13) = .bool false := hg 4 (by decide) (by decide)
    have e2 : ac.eval (.const (.bool true)) = .bool true := rfl
    have e3 : ac.eval (.tmp 17) = .bool true := hg 8 (by decide) (by decide)
    exact opG_val (by revert e1 e2 e3; generalize ac.eval = ρ; intro e1 e2 e3; simp [go_sem, execOp, e1, e2, e3]) rfl (Chg.refl _)
  ·intro u V hV hc
   have q18 : V 9 = .bool true := hV 9 (by decide)
   go_wp2_with fail
   go_meet
   exact ⟨q18, (Z1.out.1.trans hc), (Z1.out.2.2.chg hc)⟩
 obtain ⟨rfl, hz⟩ := hcut
 obtain ⟨w2, hw2⟩ : ∃ zz0, zz0 = wc := ⟨_, rfl⟩
 rw [← hw2] at hz ⊢
 have Z2 : Hid _ := hz
 clear hw2 hz Z1
 go_upto_region 2 with fail
 go_cut [] from 19 to 21 (fun wc => Chg w wc ∧ Ar wc (w.heap.size + 1) (q3 1 1 0))
 case first =>
  refine regP 3 (fun j v wg => match j with
   | 0 => v = .agg (num 1)
   | 1 => v = .agg (num 1)
   | 2 => v = .agg (q3 1 1 0)
   | _ => True) (by decide) (by kernel_rfl) ?_ ?_ ?_
  ·intro j v u1 u2 h hc; exact h
  ·intro i o ac u hi ho hsz hf hg hc
   have hcs : i = 0 ∨ i = 1 ∨ i = 2 := by omega
   rcases hcs with rfl | rfl | rfl <;> (injection ho with ho; subst ho; refine .inl ⟨wanted_none rfl, ?_⟩)
   ·exact opG_built _ [(0, .int .u64 1)] rfl (by kernel_rfl) (by kernel_rfl) rfl
   ·exact opG_built _ [(0, .int .u64 1)] rfl (by kernel_rfl) (by kernel_rfl) rfl
   ·have e1 : ac.eval (.tmp 19) = .agg (num 1) := hg 0 (by decide) (by decide)
    have e2 : ac.eval (.tmp 20) = .agg (num 1) := hg 1 (by decide) (by decide)
    exact opG_built _ [(0, .agg (num 1)), (1, .agg (num 1))] rfl (by simp [e1, e2]) (by kernel_rfl) rfl
  ·intro u V hV hc
   have q21 : V 2 = .agg (q3 1 1 0) := hV 2 (by decide)
   have hres0 := (Z2.out.2.chg hc)
   refine wpList_store_mid rfl 54 (.tmp 2) (.tmp 21) rfl (w.heap.size + 1) 0 (q3 1 1 0) (by rfl) (Eq.trans (by rfl) q21) (by rw [q3_size]; exact nms_there hres0 0 3 (by omega)) (szTh _ _ _) (q3_one _ _ _) ?_
   rw [setRowTh hres0 _ _ _]
   have k0_c : Chg w (u.setRow (w.heap.size + 1) (q3 1 1 0)) := ((Z2.out.1.trans hc).setRow (by omega) _)
   have k0_B2 := hres0.row (q3 1 1 0)
   generalize (u.setRow (w.heap.size + 1) (q3 1 1 0)) = u10 at k0_c k0_B2 ⊢
   go_wp2_with fail
   go_meet
   exact ⟨k0_c, k0_B2⟩
 have hz := hcut
 obtain ⟨w3, hw3⟩ : ∃ zz0, zz0 = wc := ⟨_, rfl⟩
 rw [← hw3] at hz ⊢
 have Z3 : Hid _ := hz
 clear hw3 hz Z2
 go_wp2_with fail
 exact bp_Th Try.results56 rfl rfl Z3.out.2 ⟨rfl, Z3.out.1⟩
set_option maxHeartbeats 16000000 in
theorem twiceS_n (x y z : Int) (P : PQt) (h : JQ x y z P) (hd : decide (z = 0) = false) (hy : decide (y = 0) = false) (w : World) : Calls Try.prog 56 #[.agg (q3 x y z)] w fun r w' => ∃ X Y Z, r = .returned (.agg (q3 X Y Z)) ∧ JQ X Y Z (AW P P) ∧ Chg w w' := by
 have H1 : Hid (JQ x y z P) := h
 have HD : Hid (decide (z = 0) = false) := hd
 clear h hd
 have HY : Hid (decide (y = 0) = false) := hy
 clear hy
 have hz0 := zeroTh.1
 have hsA0 := q3_size x y z
 obtain ⟨A0, hA0⟩ : ∃ zz0, zz0 = q3 x y z := ⟨_, rfl⟩
 have HA0 : Hid (A0 = q3 x y z) := hA0
 rw [← hA0] at hsA0 ⊢
 clear hA0
 go_enter Try.func56, Try.ntmps56
 go_upto_region 1 with fail
 obtain ⟨w1, hw1⟩ : ∃ w1, w1 = (w.alloc (.cells A0 54)).alloc (.cells (q3 0 0 0) 54) := ⟨_, rfl⟩
 have Z1 : Hid (Chg w w1 ∧ Ar w1 w.heap.size (q3 x y z) ∧ Ar w1 (w.heap.size + 1) (q3 0 0 0)) := by
  have hnew0 := Ar.new w (q3 x y z) 54
  have hnew1 := Ar.new (w.alloc (.cells (q3 x y z) 54)) (q3 0 0 0) 54
  rw [World.size_alloc] at hnew1
  rw [hw1, HA0.out]
  exact ⟨(((Chg.refl w).alloc _).alloc _), ((hnew0).alloc _), (hnew1)⟩
 rw [← hw1]
 clear hw1 hz0 hsA0 HA0
 go_cut [18] from 9 to 18 (fun v18 wc => v18 = .bool false ∧ Chg w wc ∧ Ar wc w.heap.size (q3 x y z) ∧ Ar wc (w.heap.size + 1) (q3 0 0 0))
 case first =>
  refine regP 10 (fun j v wg => match j with
   | 0 => v = .pointer (some ⟨w.heap.size, 8, none⟩)
   | 1 => v = .agg (num z)
   | 2 => v = .agg (num 0)
   | 3 => v = .bool false
   | 4 => v = .bool false
   | 5 => v = .pointer (some ⟨w.heap.size, 4, none⟩)
   | 6 => v = .agg (num y)
   | 7 => v = .agg (num 0)
   | 8 => v = .bool false
   | 9 => v = .bool false
   | _ => True) (by decide) (by kernel_rfl) ?_ ?_ ?_
  ·intro j v u1 u2 h hc; exact h
  ·intro i o ac u hi ho hsz hf hg hc
   have hcs : i = 0 ∨ i = 1 ∨ i = 2 ∨ i = 3 ∨ i = 4 ∨ i = 5 ∨ i = 6 ∨ i = 7 ∨ i = 8 ∨ i = 9 := by omega
   rcases hcs with rfl | rfl | rfl | rfl | rfl | rfl | rfl | rfl | rfl | rfl <;> (injection ho with ho; subst ho)
   ·refine .inl ⟨wanted_none rfl, ?_⟩
    have e1 : ac.eval (.tmp 1) = .pointer (some ⟨w.heap.size, 0, none⟩) := hf 1 (by kernel_rfl)
    exact opG_val (by revert e1; generalize ac.eval = ρ; intro e1; simp [go_sem, execOp, e1]) rfl (Chg.refl _)
   ·refine .inl ⟨wanted_none rfl, ?_⟩
    exact ldN rfl (hg 0 (by decide) (by decide)) (rangeq3F2 (Z1.out.2.1.chg hc)) rfl
   ·refine .inl ⟨wanted_none rfl, ?_⟩
    exact opG_built _ [] rfl (by kernel_rfl) (by kernel_rfl) rfl
   ·refine .inl ⟨wanted_none rfl, ?_⟩
    have e1 : ac.eval (.tmp 10) = .agg (num z) := hg 1 (by decide) (by decide)
    have e2 : ac.eval (.tmp 11) = .agg (num 0) := hg 2 (by decide) (by decide)
    exact opG_val (by revert e1 e2; generalize ac.eval = ρ; intro e1 e2; simp [go_sem, execOp, e1, e2, run_eqNum (H1.out.nz) n0P, HD.out]) rfl (Chg.refl _)
   ·refine .inl ⟨wanted_none rfl, ?_⟩
    have e1 : ac.eval (.tmp 12) = .bool false := hg 3 (by decide) (by decide)
    exact opG_val (by simp [execOp, e1]) rfl (Chg.refl _)
   ·refine .inl ⟨wanted_by (T := _) (by kernel_rfl) hsz rfl (by decide : 4 < 10) rfl (hg 4 (by decide) (by decide)), ?_⟩
    have e1 : ac.eval (.tmp 1) = .pointer (some ⟨w.heap.size, 0, none⟩) := hf 1 (by kernel_rfl)
    exact opG_val (by revert e1; generalize ac.eval = ρ; intro e1; simp [go_sem, execOp, e1]) rfl (Chg.refl _)
   ·refine .inl ⟨wanted_by (T := _) (by kernel_rfl) hsz rfl (by decide : 4 < 10) rfl (hg 4 (by decide) (by decide)), ?_⟩
    exact ldN rfl (hg 5 (by decide) (by decide)) (rangeq3F1 (Z1.out.2.1.chg hc)) rfl
   ·refine .inl ⟨wanted_by (T := _) (by kernel_rfl) hsz rfl (by decide : 4 < 10) rfl (hg 4 (by decide) (by decide)), ?_⟩
    exact opG_built _ [] rfl (by kernel_rfl) (by kernel_rfl) rfl
   ·refine .inl ⟨wanted_by (T := _) (by kernel_rfl) hsz rfl (by decide : 4 < 10) rfl (hg 4 (by decide) (by decide)), ?_⟩
    have e1 : ac.eval (.tmp 15) = .agg (num y) := hg 6 (by decide) (by decide)
    have e2 : ac.eval (.tmp 16) = .agg (num 0) := hg 7 (by decide) (by decide)
    exact opG_val (by revert e1 e2; generalize ac.eval = ρ; intro e1 e2; simp [go_sem, execOp, e1, e2, run_eqNum (H1.out.ny) n0P, HY.out]) rfl (Chg.refl _)
   ·refine .inl ⟨wanted_none rfl, ?_⟩
    have e1 : ac.eval (.tmp 13) = .bool false := hg 4 (by decide) (by decide)
    have e2 : ac.eval (.const (.bool true)) = .bool true := rfl
    have e3 : ac.eval (.tmp 17) = .bool false := hg 8 (by decide) (by decide)
    exact opG_val (by revert e1 e2 e3; generalize ac.eval = ρ; intro e1 e2 e3; simp [go_sem, execOp, e1, e2, e3]) rfl (Chg.refl _)
  ·intro u V hV hc
   have q18 : V 9 = .bool false := hV 9 (by decide)
   go_wp2_with fail
   go_meet
   exact ⟨q18, (Z1.out.1.trans hc), (Z1.out.2.1.chg hc), (Z1.out.2.2.chg hc)⟩
 obtain ⟨rfl, hz⟩ := hcut
 obtain ⟨w2, hw2⟩ : ∃ zz0, zz0 = wc := ⟨_, rfl⟩
 rw [← hw2] at hz ⊢
 have Z2 : Hid _ := hz
 clear hw2 hz Z1
 go_upto_region 3 with fail
 go_cut [3] from 3 to 26 (fun v3 wc => ∃ b3, v3 = .pointer (some ⟨b3, 0, none⟩) ∧ w.heap.size + 1 ≠ b3 ∧ Chg w wc ∧ Ar wc w.heap.size (q3 x y z) ∧ Ar wc (w.heap.size + 1) (q3 0 0 0) ∧ Ar wc b3 (num (md 2 (z * z))))
 case first =>
  refine regP 6 (fun j v wg => match j with
   | 0 => v = .pointer (some ⟨w.heap.size, 8, none⟩)
   | 1 => v = .agg (num z)
   | 2 => v = .pointer (some ⟨w.heap.size, 8, none⟩)
   | 3 => v = .agg (num z)
   | 4 => v = .agg (num (md 2 (z * z)))
   | 5 => ∃ b, v = .pointer (some ⟨b, 0, none⟩) ∧ Ar wg b (num 0) ∧ w2.heap.size ≤ b
   | _ => True) (by decide) (by kernel_rfl) ?_ ?_ ?_
  ·intro j v u1 u2 h hc
   match j, h with
   | 0, h => exact h
   | 1, h => exact h
   | 2, h => exact h
   | 3, h => exact h
   | 4, h => exact h
   | 5, h => (obtain ⟨b, h1, h2, h3⟩ := h; exact ⟨b, h1, h2.chg hc, h3⟩)
   | _ + 6, h => exact trivial
  ·intro i o ac u hi ho hsz hf hg hc
   have hcs : i = 0 ∨ i = 1 ∨ i = 2 ∨ i = 3 ∨ i = 4 ∨ i = 5 := by omega
   rcases hcs with rfl | rfl | rfl | rfl | rfl | rfl <;> (injection ho with ho; subst ho; refine .inl ⟨wanted_none rfl, ?_⟩)
   ·have e1 : ac.eval (.tmp 1) = .pointer (some ⟨w.heap.size, 0, none⟩) := hf 1 (by kernel_rfl)
    exact opG_val (by revert e1; generalize ac.eval = ρ; intro e1; simp [go_sem, execOp, e1]) rfl (Chg.refl _)
   ·exact ldN rfl (hg 0 (by decide) (by decide)) (rangeq3F2 (Z2.out.2.1.chg hc)) rfl
   ·have e1 : ac.eval (.tmp 1) = .pointer (some ⟨w.heap.size, 0, none⟩) := hf 1 (by kernel_rfl)
    exact opG_val (by revert e1; generalize ac.eval = ρ; intro e1; simp [go_sem, execOp, e1]) rfl (Chg.refl _)
   ·exact ldN rfl (hg 2 (by decide) (by decide)) (rangeq3F2 (Z2.out.2.1.chg hc)) rfl
   ·exact dM (.tmp 23) (.tmp 25) rfl (hg 1 (by decide) (by decide)) (hg 3 (by decide) (by decide)) (H1.out.nz) (H1.out.nz) fun _ _ => rfl
   ·exact opG_val (v := .pointer (some ⟨u.heap.size, 0, none⟩)) (w' := u.alloc (.cells (num 0) 24)) (by generalize ac.eval = ρ; simp [go_sem, execOp, zero25.1]) ⟨_, rfl, Ar.new _ _ _, hc.size⟩ ((Chg.refl _).alloc _)
  ·intro u V hV hc
   have q26 : V 4 = .agg (num (md 2 (z * z))) := hV 4 (by decide)
   obtain ⟨b3, q3, r3, s3⟩ := hV 5 (by decide)
   have lw3 : w.heap.size ≤ b3 := Nat.le_trans Z2.out.1.size s3
   have hres0 := r3
   refine wpList_store_mid rfl 24 (.tmp 3) (.tmp 26) rfl b3 0 (num (md 2 (z * z))) (Eq.trans (by rfl) q3) (Eq.trans (by rfl) q26) (by rw [num_size]; exact thereN hres0) (szN _) (num_one _) ?_
   rw [setRowN hres0 _]
   have k0_c : Chg w (u.setRow b3 (num (md 2 (z * z)))) := ((Z2.out.1.trans hc).setRow lw3 _)
   have k0_B1 := (Z2.out.2.1.chg hc).rowOther (Z2.out.2.1.apart s3) (num (md 2 (z * z)))
   have k0_B2 := (Z2.out.2.2.chg hc).rowOther (Z2.out.2.2.apart s3) (num (md 2 (z * z)))
   have k0_B3 := hres0.row (num (md 2 (z * z)))
   generalize (u.setRow b3 (num (md 2 (z * z)))) = u10 at k0_c k0_B1 k0_B2 k0_B3 ⊢
   go_wp2_with fail
   go_meet
   exact ⟨b3, q3, Z2.out.2.2.apart s3, k0_c, k0_B1, k0_B2, k0_B3⟩
 obtain ⟨b3, rfl, of0, hz⟩ := hcut
 obtain ⟨w3, hw3⟩ : ∃ zz0, zz0 = wc := ⟨_, rfl⟩
 rw [← hw3] at hz ⊢
 have Z3 : Hid _ := hz
 have O3_0 : Hid _ := of0
 clear hw3 hz of0 Z2
 obtain ⟨e3x3, he3x3⟩ : ∃ zz0, zz0 = md 2 (z * z) := ⟨_, rfl⟩
 have Ee3x3 : Hid (e3x3 = md 2 (z * z)) := he3x3
 have Ne3x3 : Hid (N256 e3x3) := by show N256 e3x3; rw [he3x3]; exact md_N _ _
 rw [← he3x3] at Z3
 clear he3x3
 go_upto_region 4 with fail
 go_cut [4] from 4 to 37 (fun v4 wc => ∃ b4, v4 = .pointer (some ⟨b4, 0, none⟩) ∧ w.heap.size + 1 ≠ b4 ∧ Chg w wc ∧ Ar wc w.heap.size (q3 x y z) ∧ Ar wc (w.heap.size + 1) (q3 0 0 0) ∧ Ar wc b4 (num (md 2 (3 * (md 2 ((md 2 (x - e3x3)) * (md 2 (x + e3x3))))))))
 case first =>
  refine regM 12 (fun j => j == 11) (fun j v wg => match j with
   | 0 => v = .agg (num 3)
   | 1 => v = .pointer (some ⟨w.heap.size, 0, none⟩)
   | 2 => v = .agg (num x)
   | 3 => v = .agg (num e3x3)
   | 4 => v = .agg (num (md 2 (x - e3x3)))
   | 5 => v = .pointer (some ⟨w.heap.size, 0, none⟩)
   | 6 => v = .agg (num x)
   | 7 => v = .agg (num e3x3)
   | 8 => v = .agg (num (md 2 (x + e3x3)))
   | 9 => v = .agg (num (md 2 ((md 2 (x - e3x3)) * (md 2 (x + e3x3)))))
   | 10 => v = .agg (num (md 2 (3 * (md 2 ((md 2 (x - e3x3)) * (md 2 (x + e3x3)))))))
   | 11 => ∃ b, v = .pointer (some ⟨b, 0, none⟩) ∧ Ar wg b (num 0) ∧ w3.heap.size ≤ b
   | _ => True) (by kernel_rfl) (by decide) (by kernel_rfl) (by kernel_rfl) (by kernel_rfl) (by kernel_rfl) ?_ ?_ ?_ ?_
  ·intro j v u1 u2 h hc
   match j, h with
   | 0, h => exact h
   | 1, h => exact h
   | 2, h => exact h
   | 3, h => exact h
   | 4, h => exact h
   | 5, h => exact h
   | 6, h => exact h
   | 7, h => exact h
   | 8, h => exact h
   | 9, h => exact h
   | 10, h => exact h
   | 11, h => (obtain ⟨b, h1, h2, h3⟩ := h; exact ⟨b, h1, h2.chg hc, h3⟩)
   | _ + 12, h => exact trivial
  ·intro j v u hj ha h
   have hcs : j = 11 := by simpa [or_assoc] using ha
   rcases hcs with rfl
   ·obtain ⟨b, h1, h2, h3⟩ := h; exact ⟨b, h1, h2.lt⟩
  ·intro i o ac u hi ho hsz hf hg hc
   have hcs : i = 0 ∨ i = 1 ∨ i = 2 ∨ i = 3 ∨ i = 4 ∨ i = 5 ∨ i = 6 ∨ i = 7 ∨ i = 8 ∨ i = 9 ∨ i = 10 ∨ i = 11 := by omega
   rcases hcs with rfl | rfl | rfl | rfl | rfl | rfl | rfl | rfl | rfl | rfl | rfl | rfl <;> (injection ho with ho; subst ho; refine ⟨wanted_none rfl, ?_⟩)
   ·exact opG_built _ [(0, .int .u64 3)] rfl (by kernel_rfl) (by kernel_rfl) ⟨rfl, fun h => by cases h⟩
   ·have e1 : ac.eval (.tmp 1) = .pointer (some ⟨w.heap.size, 0, none⟩) := hf 1 (by kernel_rfl)
    exact opG_val (by revert e1; generalize ac.eval = ρ; intro e1; simp [go_sem, execOp, e1]) ⟨rfl, fun h => by cases h⟩ (Chg.refl _)
   ·exact ldN rfl (hg 1 (by kernel_rfl) (by decide)) (rangeq3F0 (Z3.out.2.1.chg hc)) ⟨rfl, fun h => by cases h⟩
   ·exact ldN rfl (hf 3 (by kernel_rfl)) (rangeAp (Z3.out.2.2.2.chg hc)) ⟨rfl, fun h => by cases h⟩
   ·exact dS (.tmp 29) (.tmp 30) rfl (hg 2 (by kernel_rfl) (by decide)) (hg 3 (by kernel_rfl) (by decide)) (H1.out.nx) (Ne3x3.out) fun _ _ => ⟨rfl, fun h => by cases h⟩
   ·have e1 : ac.eval (.tmp 1) = .pointer (some ⟨w.heap.size, 0, none⟩) := hf 1 (by kernel_rfl)
    exact opG_val (by revert e1; generalize ac.eval = ρ; intro e1; simp [go_sem, execOp, e1]) ⟨rfl, fun h => by cases h⟩ (Chg.refl _)
   ·exact ldN rfl (hg 5 (by kernel_rfl) (by decide)) (rangeq3F0 (Z3.out.2.1.chg hc)) ⟨rfl, fun h => by cases h⟩
   ·exact ldN rfl (hf 3 (by kernel_rfl)) (rangeAp (Z3.out.2.2.2.chg hc)) ⟨rfl, fun h => by cases h⟩
   ·exact dA (.tmp 33) (.tmp 34) rfl (hg 6 (by kernel_rfl) (by decide)) (hg 7 (by kernel_rfl) (by decide)) (H1.out.nx) (Ne3x3.out) fun _ _ => ⟨rfl, fun h => by cases h⟩
   ·exact dM (.tmp 31) (.tmp 35) rfl (hg 4 (by kernel_rfl) (by decide)) (hg 8 (by kernel_rfl) (by decide)) (md_N _ _) (md_N _ _) fun _ _ => ⟨rfl, fun h => by cases h⟩
   ·exact dM (.tmp 27) (.tmp 36) rfl (hg 0 (by kernel_rfl) (by decide)) (hg 9 (by kernel_rfl) (by decide)) ((⟨by decide, by decide⟩ : N256 3)) (md_N _ _) fun _ _ => ⟨rfl, fun h => by cases h⟩
   ·exact opG_val (v := .pointer (some ⟨u.heap.size, 0, none⟩)) (w' := u.alloc (.cells (num 0) 24)) (by generalize ac.eval = ρ; simp [go_sem, execOp, zero25.1]) ⟨⟨_, rfl, Ar.new _ _ _, hc.size⟩, fun _ => rfl⟩ ((Chg.refl _).alloc _)
  ·intro u V hV hap hc
   have q37 : V 10 = .agg (num (md 2 (3 * (md 2 ((md 2 (x - e3x3)) * (md 2 (x + e3x3))))))) := hV 10 (by decide)
   obtain ⟨b4, q4, r4, s4⟩ := hV 11 (by decide)
   have lw4 : w.heap.size ≤ b4 := Nat.le_trans Z3.out.1.size s4
   have hres0 := r4
   refine tail_cons rfl rfl ?_
   refine wp_store_mid 24 (.tmp 4) (.tmp 37) rfl b4 0 (num (md 2 (3 * (md 2 ((md 2 (x - e3x3)) * (md 2 (x + e3x3))))))) (Eq.trans (by rfl) q4) (Eq.trans (by rfl) q37) (by rw [num_size]; exact thereN hres0) (szN _) (num_one _) ?_
   rw [setRowN hres0 _]
   have k0_c : Chg w (u.setRow b4 (num (md 2 (3 * (md 2 ((md 2 (x - e3x3)) * (md 2 (x + e3x3)))))))) := ((Z3.out.1.trans hc).setRow lw4 _)
   have k0_B1 := (Z3.out.2.1.chg hc).rowOther (Z3.out.2.1.apart s4) (num (md 2 (3 * (md 2 ((md 2 (x - e3x3)) * (md 2 (x + e3x3)))))))
   have k0_B2 := (Z3.out.2.2.1.chg hc).rowOther (Z3.out.2.2.1.apart s4) (num (md 2 (3 * (md 2 ((md 2 (x - e3x3)) * (md 2 (x + e3x3)))))))
   have k0_B4 := hres0.row (num (md 2 (3 * (md 2 ((md 2 (x - e3x3)) * (md 2 (x + e3x3)))))))
   generalize (u.setRow b4 (num (md 2 (3 * (md 2 ((md 2 (x - e3x3)) * (md 2 (x + e3x3)))))))) = u10 at k0_c k0_B1 k0_B2 k0_B4 ⊢
   refine tail_nil rfl ?_
   go_wp2_with fail
   go_meet
   exact ⟨b4, q4, Z3.out.2.2.1.apart s4, k0_c, k0_B1, k0_B2, k0_B4⟩
 obtain ⟨b4, rfl, of0, hz⟩ := hcut
 obtain ⟨w4, hw4⟩ : ∃ zz0, zz0 = wc := ⟨_, rfl⟩
 rw [← hw4] at hz ⊢
 have Z4 : Hid _ := hz
 have O4_0 : Hid _ := of0
 clear hw4 hz of0 Z3
 obtain ⟨e4x4, he4x4⟩ : ∃ zz0, zz0 = md 2 (3 * (md 2 ((md 2 (x - e3x3)) * (md 2 (x + e3x3))))) := ⟨_, rfl⟩
 have Ee4x4 : Hid (e4x4 = md 2 (3 * (md 2 ((md 2 (x - e3x3)) * (md 2 (x + e3x3)))))) := he4x4
 have Ne4x4 : Hid (N256 e4x4) := by show N256 e4x4; rw [he4x4]; exact md_N _ _
 rw [← he4x4] at Z4
 clear he4x4
 go_upto_region 5 with fail
 go_cut [5] from 5 to 42 (fun v5 wc => ∃ b5, v5 = .pointer (some ⟨b5, 0, none⟩) ∧ w.heap.size + 1 ≠ b5 ∧ Chg w wc ∧ Ar wc w.heap.size (q3 x y z) ∧ Ar wc (w.heap.size + 1) (q3 0 0 0) ∧ Ar wc b4 (num e4x4) ∧ Ar wc b5 (num (md 2 (y * y))))
 case first =>
  refine regP 6 (fun j v wg => match j with
   | 0 => v = .pointer (some ⟨w.heap.size, 4, none⟩)
   | 1 => v = .agg (num y)
   | 2 => v = .pointer (some ⟨w.heap.size, 4, none⟩)
   | 3 => v = .agg (num y)
   | 4 => v = .agg (num (md 2 (y * y)))
   | 5 => ∃ b, v = .pointer (some ⟨b, 0, none⟩) ∧ Ar wg b (num 0) ∧ w4.heap.size ≤ b
   | _ => True) (by decide) (by kernel_rfl) ?_ ?_ ?_
  ·intro j v u1 u2 h hc
   match j, h with
   | 0, h => exact h
   | 1, h => exact h
   | 2, h => exact h
   | 3, h => exact h
   | 4, h => exact h
   | 5, h => (obtain ⟨b, h1, h2, h3⟩ := h; exact ⟨b, h1, h2.chg hc, h3⟩)
   | _ + 6, h => exact trivial
  ·intro i o ac u hi ho hsz hf hg hc
   have hcs : i = 0 ∨ i = 1 ∨ i = 2 ∨ i = 3 ∨ i = 4 ∨ i = 5 := by omega
   rcases hcs with rfl | rfl | rfl | rfl | rfl | rfl <;> (injection ho with ho; subst ho; refine .inl ⟨wanted_none rfl, ?_⟩)
   ·have e1 : ac.eval (.tmp 1) = .pointer (some ⟨w.heap.size, 0, none⟩) := hf 1 (by kernel_rfl)
    exact opG_val (by revert e1; generalize ac.eval = ρ; intro e1; simp [go_sem, execOp, e1]) rfl (Chg.refl _)
   ·exact ldN rfl (hg 0 (by decide) (by decide)) (rangeq3F1 (Z4.out.2.1.chg hc)) rfl
   ·have e1 : ac.eval (.tmp 1) = .pointer (some ⟨w.heap.size, 0, none⟩) := hf 1 (by kernel_rfl)
    exact opG_val (by revert e1; generalize ac.eval = ρ; intro e1; simp [go_sem, execOp, e1]) rfl (Chg.refl _)
   ·exact ldN rfl (hg 2 (by decide) (by decide)) (rangeq3F1 (Z4.out.2.1.chg hc)) rfl
   ·exact dM (.tmp 39) (.tmp 41) rfl (hg 1 (by decide) (by decide)) (hg 3 (by decide) (by decide)) (H1.out.ny) (H1.out.ny) fun _ _ => rfl
   ·exact opG_val (v := .pointer (some ⟨u.heap.size, 0, none⟩)) (w' := u.alloc (.cells (num 0) 24)) (by generalize ac.eval = ρ; simp [go_sem, execOp, zero25.1]) ⟨_, rfl, Ar.new _ _ _, hc.size⟩ ((Chg.refl _).alloc _)
  ·intro u V hV hc
   have q42 : V 4 = .agg (num (md 2 (y * y))) := hV 4 (by decide)
   obtain ⟨b5, q5, r5, s5⟩ := hV 5 (by decide)
   have lw5 : w.heap.size ≤ b5 := Nat.le_trans Z4.out.1.size s5
   have hres0 := r5
   refine wpList_store_mid rfl 24 (.tmp 5) (.tmp 42) rfl b5 0 (num (md 2 (y * y))) (Eq.trans (by rfl) q5) (Eq.trans (by rfl) q42) (by rw [num_size]; exact thereN hres0) (szN _) (num_one _) ?_
   rw [setRowN hres0 _]
   have k0_c : Chg w (u.setRow b5 (num (md 2 (y * y)))) := ((Z4.out.1.trans hc).setRow lw5 _)
   have k0_B1 := (Z4.out.2.1.chg hc).rowOther (Z4.out.2.1.apart s5) (num (md 2 (y * y)))
   have k0_B2 := (Z4.out.2.2.1.chg hc).rowOther (Z4.out.2.2.1.apart s5) (num (md 2 (y * y)))
   have k0_B4 := (Z4.out.2.2.2.chg hc).rowOther (Z4.out.2.2.2.apart s5) (num (md 2 (y * y)))
   have k0_B5 := hres0.row (num (md 2 (y * y)))
   generalize (u.setRow b5 (num (md 2 (y * y)))) = u10 at k0_c k0_B1 k0_B2 k0_B4 k0_B5 ⊢
   go_wp2_with fail
   go_meet
   exact ⟨b5, q5, Z4.out.2.2.1.apart s5, k0_c, k0_B1, k0_B2, k0_B4, k0_B5⟩
 obtain ⟨b5, rfl, of0, hz⟩ := hcut
 obtain ⟨w5, hw5⟩ : ∃ zz0, zz0 = wc := ⟨_, rfl⟩
 rw [← hw5] at hz ⊢
 have Z5 : Hid _ := hz
 have O5_0 : Hid _ := of0
 clear hw5 hz of0 Z4
 obtain ⟨e5x5, he5x5⟩ : ∃ zz0, zz0 = md 2 (y * y) := ⟨_, rfl⟩
 have Ee5x5 : Hid (e5x5 = md 2 (y * y)) := he5x5
 have Ne5x5 : Hid (N256 e5x5) := by show N256 e5x5; rw [he5x5]; exact md_N _ _
 rw [← he5x5] at Z5
 clear he5x5
 go_upto_region 6 with fail
 go_cut [6] from 6 to 48 (fun v6 wc => ∃ b6, v6 = .pointer (some ⟨b6, 0, none⟩) ∧ w.heap.size + 1 ≠ b6 ∧ Chg w wc ∧ Ar wc w.heap.size (q3 x y z) ∧ Ar wc (w.heap.size + 1) (q3 0 0 0) ∧ Ar wc b4 (num e4x4) ∧ Ar wc b5 (num e5x5) ∧ Ar wc b6 (num (md 2 (4 * (md 2 (x * e5x5))))))
 case first =>
  refine regP 7 (fun j v wg => match j with
   | 0 => v = .agg (num 4)
   | 1 => v = .pointer (some ⟨w.heap.size, 0, none⟩)
   | 2 => v = .agg (num x)
   | 3 => v = .agg (num e5x5)
   | 4 => v = .agg (num (md 2 (x * e5x5)))
   | 5 => v = .agg (num (md 2 (4 * (md 2 (x * e5x5)))))
   | 6 => ∃ b, v = .pointer (some ⟨b, 0, none⟩) ∧ Ar wg b (num 0) ∧ w5.heap.size ≤ b
   | _ => True) (by decide) (by kernel_rfl) ?_ ?_ ?_
  ·intro j v u1 u2 h hc
   match j, h with
   | 0, h => exact h
   | 1, h => exact h
   | 2, h => exact h
   | 3, h => exact h
   | 4, h => exact h
   | 5, h => exact h
   | 6, h => (obtain ⟨b, h1, h2, h3⟩ := h; exact ⟨b, h1, h2.chg hc, h3⟩)
   | _ + 7, h => exact trivial
  ·intro i o ac u hi ho hsz hf hg hc
   have hcs : i = 0 ∨ i = 1 ∨ i = 2 ∨ i = 3 ∨ i = 4 ∨ i = 5 ∨ i = 6 := by omega
   rcases hcs with rfl | rfl | rfl | rfl | rfl | rfl | rfl <;> (injection ho with ho; subst ho; refine .inl ⟨wanted_none rfl, ?_⟩)
   ·exact opG_built _ [(0, .int .u64 4)] rfl (by kernel_rfl) (by kernel_rfl) rfl
   ·have e1 : ac.eval (.tmp 1) = .pointer (some ⟨w.heap.size, 0, none⟩) := hf 1 (by kernel_rfl)
    exact opG_val (by revert e1; generalize ac.eval = ρ; intro e1; simp [go_sem, execOp, e1]) rfl (Chg.refl _)
   ·exact ldN rfl (hg 1 (by decide) (by decide)) (rangeq3F0 (Z5.out.2.1.chg hc)) rfl
   ·exact ldN rfl (hf 5 (by kernel_rfl)) (rangeAp (Z5.out.2.2.2.2.chg hc)) rfl
   ·exact dM (.tmp 45) (.tmp 46) rfl (hg 2 (by decide) (by decide)) (hg 3 (by decide) (by decide)) (H1.out.nx) (Ne5x5.out) fun _ _ => rfl
   ·exact dM (.tmp 43) (.tmp 47) rfl (hg 0 (by decide) (by decide)) (hg 4 (by decide) (by decide)) ((⟨by decide, by decide⟩ : N256 4)) (md_N _ _) fun _ _ => rfl
   ·exact opG_val (v := .pointer (some ⟨u.heap.size, 0, none⟩)) (w' := u.alloc (.cells (num 0) 24)) (by generalize ac.eval = ρ; simp [go_sem, execOp, zero25.1]) ⟨_, rfl, Ar.new _ _ _, hc.size⟩ ((Chg.refl _).alloc _)
  ·intro u V hV hc
   have q48 : V 5 = .agg (num (md 2 (4 * (md 2 (x * e5x5))))) := hV 5 (by decide)
   obtain ⟨b6, q6, r6, s6⟩ := hV 6 (by decide)
   have lw6 : w.heap.size ≤ b6 := Nat.le_trans Z5.out.1.size s6
   have hres0 := r6
   refine wpList_store_mid rfl 24 (.tmp 6) (.tmp 48) rfl b6 0 (num (md 2 (4 * (md 2 (x * e5x5))))) (Eq.trans (by rfl) q6) (Eq.trans (by rfl) q48) (by rw [num_size]; exact thereN hres0) (szN _) (num_one _) ?_
   rw [setRowN hres0 _]
   have k0_c : Chg w (u.setRow b6 (num (md 2 (4 * (md 2 (x * e5x5)))))) := ((Z5.out.1.trans hc).setRow lw6 _)
   have k0_B1 := (Z5.out.2.1.chg hc).rowOther (Z5.out.2.1.apart s6) (num (md 2 (4 * (md 2 (x * e5x5)))))
   have k0_B2 := (Z5.out.2.2.1.chg hc).rowOther (Z5.out.2.2.1.apart s6) (num (md 2 (4 * (md 2 (x * e5x5)))))
   have k0_B4 := (Z5.out.2.2.2.1.chg hc).rowOther (Z5.out.2.2.2.1.apart s6) (num (md 2 (4 * (md 2 (x * e5x5)))))
   have k0_B5 := (Z5.out.2.2.2.2.chg hc).rowOther (Z5.out.2.2.2.2.apart s6) (num (md 2 (4 * (md 2 (x * e5x5)))))
   have k0_B6 := hres0.row (num (md 2 (4 * (md 2 (x * e5x5)))))
   generalize (u.setRow b6 (num (md 2 (4 * (md 2 (x * e5x5)))))) = u10 at k0_c k0_B1 k0_B2 k0_B4 k0_B5 k0_B6 ⊢
   go_wp2_with fail
   go_meet
   exact ⟨b6, q6, Z5.out.2.2.1.apart s6, k0_c, k0_B1, k0_B2, k0_B4, k0_B5, k0_B6⟩
 obtain ⟨b6, rfl, of0, hz⟩ := hcut
 obtain ⟨w6, hw6⟩ : ∃ zz0, zz0 = wc := ⟨_, rfl⟩
 rw [← hw6] at hz ⊢
 have Z6 : Hid _ := hz
 have O6_0 : Hid _ := of0
 clear hw6 hz of0 Z5
 obtain ⟨e6x6, he6x6⟩ : ∃ zz0, zz0 = md 2 (4 * (md 2 (x * e5x5))) := ⟨_, rfl⟩
 have Ee6x6 : Hid (e6x6 = md 2 (4 * (md 2 (x * e5x5)))) := he6x6
 have Ne6x6 : Hid (N256 e6x6) := by show N256 e6x6; rw [he6x6]; exact md_N _ _
 rw [← he6x6] at Z6
 clear he6x6
 go_upto_region 7 with fail
 go_cut [7] from 7 to 55 (fun v7 wc => ∃ b7, v7 = .pointer (some ⟨b7, 0, none⟩) ∧ w.heap.size + 1 ≠ b7 ∧ Chg w wc ∧ Ar wc w.heap.size (q3 x y z) ∧ Ar wc (w.heap.size + 1) (q3 0 0 0) ∧ Ar wc b4 (num e4x4) ∧ Ar wc b5 (num e5x5) ∧ Ar wc b6 (num e6x6) ∧ Ar wc b7 (num (md 2 ((md 2 (e4x4 * e4x4)) - (md 2 (e6x6 + e6x6))))))
 case first =>
  refine regM 8 (fun j => j == 7) (fun j v wg => match j with
   | 0 => v = .agg (num e4x4)
   | 1 => v = .agg (num e4x4)
   | 2 => v = .agg (num (md 2 (e4x4 * e4x4)))
   | 3 => v = .agg (num e6x6)
   | 4 => v = .agg (num e6x6)
   | 5 => v = .agg (num (md 2 (e6x6 + e6x6)))
   | 6 => v = .agg (num (md 2 ((md 2 (e4x4 * e4x4)) - (md 2 (e6x6 + e6x6)))))
   | 7 => ∃ b, v = .pointer (some ⟨b, 0, none⟩) ∧ Ar wg b (num 0) ∧ w6.heap.size ≤ b
   | _ => True) (by kernel_rfl) (by decide) (by kernel_rfl) (by kernel_rfl) (by kernel_rfl) (by kernel_rfl) ?_ ?_ ?_ ?_
  ·intro j v u1 u2 h hc
   match j, h with
   | 0, h => exact h
   | 1, h => exact h
   | 2, h => exact h
   | 3, h => exact h
   | 4, h => exact h
   | 5, h => exact h
   | 6, h => exact h
   | 7, h => (obtain ⟨b, h1, h2, h3⟩ := h; exact ⟨b, h1, h2.chg hc, h3⟩)
   | _ + 8, h => exact trivial
  ·intro j v u hj ha h
   have hcs : j = 7 := by simpa [or_assoc] using ha
   rcases hcs with rfl
   ·obtain ⟨b, h1, h2, h3⟩ := h; exact ⟨b, h1, h2.lt⟩
  ·intro i o ac u hi ho hsz hf hg hc
   have hcs : i = 0 ∨ i = 1 ∨ i = 2 ∨ i = 3 ∨ i = 4 ∨ i = 5 ∨ i = 6 ∨ i = 7 := by omega
   rcases hcs with rfl | rfl | rfl | rfl | rfl | rfl | rfl | rfl <;> (injection ho with ho; subst ho; refine ⟨wanted_none rfl, ?_⟩)
   ·exact ldN rfl (hf 4 (by kernel_rfl)) (rangeAp (Z6.out.2.2.2.1.chg hc)) ⟨rfl, fun h => by cases h⟩
   ·exact ldN rfl (hf 4 (by kernel_rfl)) (rangeAp (Z6.out.2.2.2.1.chg hc)) ⟨rfl, fun h => by cases h⟩
   ·exact dM (.tmp 49) (.tmp 50) rfl (hg 0 (by kernel_rfl) (by decide)) (hg 1 (by kernel_rfl) (by decide)) (Ne4x4.out) (Ne4x4.out) fun _ _ => ⟨rfl, fun h => by cases h⟩
   ·exact ldN rfl (hf 6 (by kernel_rfl)) (rangeAp (Z6.out.2.2.2.2.2.chg hc)) ⟨rfl, fun h => by cases h⟩
   ·exact ldN rfl (hf 6 (by kernel_rfl)) (rangeAp (Z6.out.2.2.2.2.2.chg hc)) ⟨rfl, fun h => by cases h⟩
   ·exact dA (.tmp 52) (.tmp 53) rfl (hg 3 (by kernel_rfl) (by decide)) (hg 4 (by kernel_rfl) (by decide)) (Ne6x6.out) (Ne6x6.out) fun _ _ => ⟨rfl, fun h => by cases h⟩
   ·exact dS (.tmp 51) (.tmp 54) rfl (hg 2 (by kernel_rfl) (by decide)) (hg 5 (by kernel_rfl) (by decide)) (md_N _ _) (md_N _ _) fun _ _ => ⟨rfl, fun h => by cases h⟩
   ·exact opG_val (v := .pointer (some ⟨u.heap.size, 0, none⟩)) (w' := u.alloc (.cells (num 0) 24)) (by generalize ac.eval = ρ; simp [go_sem, execOp, zero25.1]) ⟨⟨_, rfl, Ar.new _ _ _, hc.size⟩, fun _ => rfl⟩ ((Chg.refl _).alloc _)
  ·intro u V hV hap hc
   have q55 : V 6 = .agg (num (md 2 ((md 2 (e4x4 * e4x4)) - (md 2 (e6x6 + e6x6))))) := hV 6 (by decide)
   obtain ⟨b7, q7, r7, s7⟩ := hV 7 (by decide)
   have lw7 : w.heap.size ≤ b7 := Nat.le_trans Z6.out.1.size s7
   have hres0 := r7
   refine tail_cons rfl rfl ?_
   refine wp_store_mid 24 (.tmp 7) (.tmp 55) rfl b7 0 (num (md 2 ((md 2 (e4x4 * e4x4)) - (md 2 (e6x6 + e6x6))))) (Eq.trans (by rfl) q7) (Eq.trans (by rfl) q55) (by rw [num_size]; exact thereN hres0) (szN _) (num_one _) ?_
   rw [setRowN hres0 _]
   have k0_c : Chg w (u.setRow b7 (num (md 2 ((md 2 (e4x4 * e4x4)) - (md 2 (e6x6 + e6x6)))))) := ((Z6.out.1.trans hc).setRow lw7 _)
   have k0_B1 := (Z6.out.2.1.chg hc).rowOther (Z6.out.2.1.apart s7) (num (md 2 ((md 2 (e4x4 * e4x4)) - (md 2 (e6x6 + e6x6)))))
   have k0_B2 := (Z6.out.2.2.1.chg hc).rowOther (Z6.out.2.2.1.apart s7) (num (md 2 ((md 2 (e4x4 * e4x4)) - (md 2 (e6x6 + e6x6)))))
   have k0_B4 := (Z6.out.2.2.2.1.chg hc).rowOther (Z6.out.2.2.2.1.apart s7) (num (md 2 ((md 2 (e4x4 * e4x4)) - (md 2 (e6x6 + e6x6)))))
   have k0_B5 := (Z6.out.2.2.2.2.1.chg hc).rowOther (Z6.out.2.2.2.2.1.apart s7) (num (md 2 ((md 2 (e4x4 * e4x4)) - (md 2 (e6x6 + e6x6)))))
   have k0_B6 := (Z6.out.2.2.2.2.2.chg hc).rowOther (Z6.out.2.2.2.2.2.apart s7) (num (md 2 ((md 2 (e4x4 * e4x4)) - (md 2 (e6x6 + e6x6)))))
   have k0_B7 := hres0.row (num (md 2 ((md 2 (e4x4 * e4x4)) - (md 2 (e6x6 + e6x6)))))
   generalize (u.setRow b7 (num (md 2 ((md 2 (e4x4 * e4x4)) - (md 2 (e6x6 + e6x6)))))) = u10 at k0_c k0_B1 k0_B2 k0_B4 k0_B5 k0_B6 k0_B7 ⊢
   refine tail_nil rfl ?_
   go_wp2_with fail
   go_meet
   exact ⟨b7, q7, Z6.out.2.2.1.apart s7, k0_c, k0_B1, k0_B2, k0_B4, k0_B5, k0_B6, k0_B7⟩
 obtain ⟨b7, rfl, of0, hz⟩ := hcut
 obtain ⟨w7, hw7⟩ : ∃ zz0, zz0 = wc := ⟨_, rfl⟩
 rw [← hw7] at hz ⊢
 have Z7 : Hid _ := hz
 have O7_0 : Hid _ := of0
 clear hw7 hz of0 Z6
 obtain ⟨e7x7, he7x7⟩ : ∃ zz0, zz0 = md 2 ((md 2 (e4x4 * e4x4)) - (md 2 (e6x6 + e6x6))) := ⟨_, rfl⟩
 have Ee7x7 : Hid (e7x7 = md 2 ((md 2 (e4x4 * e4x4)) - (md 2 (e6x6 + e6x6)))) := he7x7
 have Ne7x7 : Hid (N256 e7x7) := by show N256 e7x7; rw [he7x7]; exact md_N _ _
 rw [← he7x7] at Z7
 clear he7x7
 go_upto_region 8 with fail
 go_cut [8] from 8 to 66 (fun v8 wc => ∃ b8, v8 = .pointer (some ⟨b8, 0, none⟩) ∧ w.heap.size + 1 ≠ b8 ∧ Chg w wc ∧ Ar wc w.heap.size (q3 x y z) ∧ Ar wc (w.heap.size + 1) (q3 0 0 0) ∧ Ar wc b7 (num e7x7) ∧ Ar wc b8 (num (md 2 ((md 2 (e4x4 * (md 2 (e6x6 - e7x7)))) - (md 2 (8 * (md 2 (e5x5 * e5x5))))))))
 case first =>
  refine regM 12 (fun j => j == 11) (fun j v wg => match j with
   | 0 => v = .agg (num e4x4)
   | 1 => v = .agg (num e6x6)
   | 2 => v = .agg (num e7x7)
   | 3 => v = .agg (num (md 2 (e6x6 - e7x7)))
   | 4 => v = .agg (num (md 2 (e4x4 * (md 2 (e6x6 - e7x7)))))
   | 5 => v = .agg (num 8)
   | 6 => v = .agg (num e5x5)
   | 7 => v = .agg (num e5x5)
   | 8 => v = .agg (num (md 2 (e5x5 * e5x5)))
   | 9 => v = .agg (num (md 2 (8 * (md 2 (e5x5 * e5x5)))))
   | 10 => v = .agg (num (md 2 ((md 2 (e4x4 * (md 2 (e6x6 - e7x7)))) - (md 2 (8 * (md 2 (e5x5 * e5x5)))))))
   | 11 => ∃ b, v = .pointer (some ⟨b, 0, none⟩) ∧ Ar wg b (num 0) ∧ w7.heap.size ≤ b
   | _ => True) (by kernel_rfl) (by decide) (by kernel_rfl) (by kernel_rfl) (by kernel_rfl) (by kernel_rfl) ?_ ?_ ?_ ?_
  ·intro j v u1 u2 h hc
   match j, h with
   | 0, h => exact h
   | 1, h => exact h
   | 2, h => exact h
   | 3, h => exact h
   | 4, h => exact h
   | 5, h => exact h
   | 6, h => exact h
   | 7, h => exact h
   | 8, h => exact h
   | 9, h => exact h
   | 10, h => exact h
   | 11, h => (obtain ⟨b, h1, h2, h3⟩ := h; exact ⟨b, h1, h2.chg hc, h3⟩)
   | _ + 12, h => exact trivial
  ·intro j v u hj ha h
   have hcs : j = 11 := by simpa [or_assoc] using ha
   rcases hcs with rfl
   ·obtain ⟨b, h1, h2, h3⟩ := h; exact ⟨b, h1, h2.lt⟩
  ·intro i o ac u hi ho hsz hf hg hc
   have hcs : i = 0 ∨ i = 1 ∨ i = 2 ∨ i = 3 ∨ i = 4 ∨ i = 5 ∨ i = 6 ∨ i = 7 ∨ i = 8 ∨ i = 9 ∨ i = 10 ∨ i = 11 := by omega
   rcases hcs with rfl | rfl | rfl | rfl | rfl | rfl | rfl | rfl | rfl | rfl | rfl | rfl <;> (injection ho with ho; subst ho; refine ⟨wanted_none rfl, ?_⟩)
   ·exact ldN rfl (hf 4 (by kernel_rfl)) (rangeAp (Z7.out.2.2.2.1.chg hc)) ⟨rfl, fun h => by cases h⟩
   ·exact ldN rfl (hf 6 (by kernel_rfl)) (rangeAp (Z7.out.2.2.2.2.2.1.chg hc)) ⟨rfl, fun h => by cases h⟩
   ·exact ldN rfl (hf 7 (by kernel_rfl)) (rangeAp (Z7.out.2.2.2.2.2.2.chg hc)) ⟨rfl, fun h => by cases h⟩
   ·exact dS (.tmp 57) (.tmp 58) rfl (hg 1 (by kernel_rfl) (by decide)) (hg 2 (by kernel_rfl) (by decide)) (Ne6x6.out) (Ne7x7.out) fun _ _ => ⟨rfl, fun h => by cases h⟩
   ·exact dM (.tmp 56) (.tmp 59) rfl (hg 0 (by kernel_rfl) (by decide)) (hg 3 (by kernel_rfl) (by decide)) (Ne4x4.out) (md_N _ _) fun _ _ => ⟨rfl, fun h => by cases h⟩
   ·exact opG_built _ [(0, .int .u64 8)] rfl (by kernel_rfl) (by kernel_rfl) ⟨rfl, fun h => by cases h⟩
   ·exact ldN rfl (hf 5 (by kernel_rfl)) (rangeAp (Z7.out.2.2.2.2.1.chg hc)) ⟨rfl, fun h => by cases h⟩
   ·exact ldN rfl (hf 5 (by kernel_rfl)) (rangeAp (Z7.out.2.2.2.2.1.chg hc)) ⟨rfl, fun h => by cases h⟩
   ·exact dM (.tmp 62) (.tmp 63) rfl (hg 6 (by kernel_rfl) (by decide)) (hg 7 (by kernel_rfl) (by decide)) (Ne5x5.out) (Ne5x5.out) fun _ _ => ⟨rfl, fun h => by cases h⟩
   ·exact dM (.tmp 61) (.tmp 64) rfl (hg 5 (by kernel_rfl) (by decide)) (hg 8 (by kernel_rfl) (by decide)) ((⟨by decide, by decide⟩ : N256 8)) (md_N _ _) fun _ _ => ⟨rfl, fun h => by cases h⟩
   ·exact dS (.tmp 60) (.tmp 65) rfl (hg 4 (by kernel_rfl) (by decide)) (hg 9 (by kernel_rfl) (by decide)) (md_N _ _) (md_N _ _) fun _ _ => ⟨rfl, fun h => by cases h⟩
   ·exact opG_val (v := .pointer (some ⟨u.heap.size, 0, none⟩)) (w' := u.alloc (.cells (num 0) 24)) (by generalize ac.eval = ρ; simp [go_sem, execOp, zero25.1]) ⟨⟨_, rfl, Ar.new _ _ _, hc.size⟩, fun _ => rfl⟩ ((Chg.refl _).alloc _)
  ·intro u V hV hap hc
   have q66 : V 10 = .agg (num (md 2 ((md 2 (e4x4 * (md 2 (e6x6 - e7x7)))) - (md 2 (8 * (md 2 (e5x5 * e5x5))))))) := hV 10 (by decide)
   obtain ⟨b8, q8, r8, s8⟩ := hV 11 (by decide)
   have lw8 : w.heap.size ≤ b8 := Nat.le_trans Z7.out.1.size s8
   have hres0 := r8
   refine tail_cons rfl rfl ?_
   refine wp_store_mid 24 (.tmp 8) (.tmp 66) rfl b8 0 (num (md 2 ((md 2 (e4x4 * (md 2 (e6x6 - e7x7)))) - (md 2 (8 * (md 2 (e5x5 * e5x5))))))) (Eq.trans (by rfl) q8) (Eq.trans (by rfl) q66) (by rw [num_size]; exact thereN hres0) (szN _) (num_one _) ?_
   rw [setRowN hres0 _]
   have k0_c : Chg w (u.setRow b8 (num (md 2 ((md 2 (e4x4 * (md 2 (e6x6 - e7x7)))) - (md 2 (8 * (md 2 (e5x5 * e5x5)))))))) := ((Z7.out.1.trans hc).setRow lw8 _)
   have k0_B1 := (Z7.out.2.1.chg hc).rowOther (Z7.out.2.1.apart s8) (num (md 2 ((md 2 (e4x4 * (md 2 (e6x6 - e7x7)))) - (md 2 (8 * (md 2 (e5x5 * e5x5)))))))
   have k0_B2 := (Z7.out.2.2.1.chg hc).rowOther (Z7.out.2.2.1.apart s8) (num (md 2 ((md 2 (e4x4 * (md 2 (e6x6 - e7x7)))) - (md 2 (8 * (md 2 (e5x5 * e5x5)))))))
   have k0_B7 := (Z7.out.2.2.2.2.2.2.chg hc).rowOther (Z7.out.2.2.2.2.2.2.apart s8) (num (md 2 ((md 2 (e4x4 * (md 2 (e6x6 - e7x7)))) - (md 2 (8 * (md 2 (e5x5 * e5x5)))))))
   have k0_B8 := hres0.row (num (md 2 ((md 2 (e4x4 * (md 2 (e6x6 - e7x7)))) - (md 2 (8 * (md 2 (e5x5 * e5x5)))))))
   generalize (u.setRow b8 (num (md 2 ((md 2 (e4x4 * (md 2 (e6x6 - e7x7)))) - (md 2 (8 * (md 2 (e5x5 * e5x5)))))))) = u10 at k0_c k0_B1 k0_B2 k0_B7 k0_B8 ⊢
   refine tail_nil rfl ?_
   go_wp2_with fail
   go_meet
   exact ⟨b8, q8, Z7.out.2.2.1.apart s8, k0_c, k0_B1, k0_B2, k0_B7, k0_B8⟩
 obtain ⟨b8, rfl, of0, hz⟩ := hcut
 obtain ⟨w8, hw8⟩ : ∃ zz0, zz0 = wc := ⟨_, rfl⟩
 rw [← hw8] at hz ⊢
 have Z8 : Hid _ := hz
 have O8_0 : Hid _ := of0
 clear hw8 hz of0 Z7
 obtain ⟨e8x8, he8x8⟩ : ∃ zz0, zz0 = md 2 ((md 2 (e4x4 * (md 2 (e6x6 - e7x7)))) - (md 2 (8 * (md 2 (e5x5 * e5x5))))) := ⟨_, rfl⟩
 have Ee8x8 : Hid (e8x8 = md 2 ((md 2 (e4x4 * (md 2 (e6x6 - e7x7)))) - (md 2 (8 * (md 2 (e5x5 * e5x5)))))) := he8x8
 have Ne8x8 : Hid (N256 e8x8) := by show N256 e8x8; rw [he8x8]; exact md_N _ _
 rw [← he8x8] at Z8
 clear he8x8
 go_upto_region 9 with fail
 go_cut [] from 67 to 76 (fun wc => Chg w wc ∧ Ar wc (w.heap.size + 1) (q3 e7x7 e8x8 (md 2 (2 * (md 2 (y * z))))))
 case first =>
  refine regM 10 (fun j => false) (fun j v wg => match j with
   | 0 => v = .agg (num e7x7)
   | 1 => v = .agg (num e8x8)
   | 2 => v = .agg (num 2)
   | 3 => v = .pointer (some ⟨w.heap.size, 4, none⟩)
   | 4 => v = .agg (num y)
   | 5 => v = .pointer (some ⟨w.heap.size, 8, none⟩)
   | 6 => v = .agg (num z)
   | 7 => v = .agg (num (md 2 (y * z)))
   | 8 => v = .agg (num (md 2 (2 * (md 2 (y * z)))))
   | 9 => v = .agg (q3 e7x7 e8x8 (md 2 (2 * (md 2 (y * z)))))
   | _ => True) (by kernel_rfl) (by decide) (by kernel_rfl) (by kernel_rfl) (by kernel_rfl) (by kernel_rfl) ?_ ?_ ?_ ?_
  ·intro j v u1 u2 h hc; exact h
  ·intro j v u hj ha h
   cases ha
  ·intro i o ac u hi ho hsz hf hg hc
   have hcs : i = 0 ∨ i = 1 ∨ i = 2 ∨ i = 3 ∨ i = 4 ∨ i = 5 ∨ i = 6 ∨ i = 7 ∨ i = 8 ∨ i = 9 := by omega
   rcases hcs with rfl | rfl | rfl | rfl | rfl | rfl | rfl | rfl | rfl | rfl <;> (injection ho with ho; subst ho; refine ⟨wanted_none rfl, ?_⟩)
   ·exact ldN rfl (hf 7 (by kernel_rfl)) (rangeAp (Z8.out.2.2.2.1.chg hc)) ⟨rfl, fun h => by cases h⟩
   ·exact ldN rfl (hf 8 (by kernel_rfl)) (rangeAp (Z8.out.2.2.2.2.chg hc)) ⟨rfl, fun h => by cases h⟩
   ·exact opG_built _ [(0, .int .u64 2)] rfl (by kernel_rfl) (by kernel_rfl) ⟨rfl, fun h => by cases h⟩
   ·have e1 : ac.eval (.tmp 1) = .pointer (some ⟨w.heap.size, 0, none⟩) := hf 1 (by kernel_rfl)
    exact opG_val (by revert e1; generalize ac.eval = ρ; intro e1; simp [go_sem, execOp, e1]) ⟨rfl, fun h => by cases h⟩ (Chg.refl _)
   ·exact ldN rfl (hg 3 (by kernel_rfl) (by decide)) (rangeq3F1 (Z8.out.2.1.chg hc)) ⟨rfl, fun h => by cases h⟩
   ·have e1 : ac.eval (.tmp 1) = .pointer (some ⟨w.heap.size, 0, none⟩) := hf 1 (by kernel_rfl)
    exact opG_val (by revert e1; generalize ac.eval = ρ; intro e1; simp [go_sem, execOp, e1]) ⟨rfl, fun h => by cases h⟩ (Chg.refl _)
   ·exact ldN rfl (hg 5 (by kernel_rfl) (by decide)) (rangeq3F2 (Z8.out.2.1.chg hc)) ⟨rfl, fun h => by cases h⟩
   ·exact dM (.tmp 71) (.tmp 73) rfl (hg 4 (by kernel_rfl) (by decide)) (hg 6 (by kernel_rfl) (by decide)) (H1.out.ny) (H1.out.nz) fun _ _ => ⟨rfl, fun h => by cases h⟩
   ·exact dM (.tmp 69) (.tmp 74) rfl (hg 2 (by kernel_rfl) (by decide)) (hg 7 (by kernel_rfl) (by decide)) ((⟨by decide, by decide⟩ : N256 2)) (md_N _ _) fun _ _ => ⟨rfl, fun h => by cases h⟩
   ·have e1 : ac.eval (.tmp 67) = .agg (num e7x7) := hg 0 (by kernel_rfl) (by decide)
    have e2 : ac.eval (.tmp 68) = .agg (num e8x8) := hg 1 (by kernel_rfl) (by decide)
    have e3 : ac.eval (.tmp 75) = .agg (num (md 2 (2 * (md 2 (y * z))))) := hg 8 (by kernel_rfl) (by decide)
    exact opG_built _ [(0, .agg (num e7x7)), (1, .agg (num e8x8)), (2, .agg (num (md 2 (2 * (md 2 (y * z))))))] rfl (by simp [e1, e2, e3]) (builtTh _ _ _) ⟨rfl, fun h => by cases h⟩
  ·intro u V hV hap hc
   have q76 : V 9 = .agg (q3 e7x7 e8x8 (md 2 (2 * (md 2 (y * z))))) := hV 9 (by decide)
   have ordO3_0 := O3_0.out
   have ordO4_0 := O4_0.out
   have ordO5_0 := O5_0.out
   have ordO6_0 := O6_0.out
   have ordO7_0 := O7_0.out
   have ordO8_0 := O8_0.out
   have hres0 := (Z8.out.2.2.1.chg hc)
   refine tail_cons rfl rfl ?_
   refine wp_store_mid 54 (.tmp 2) (.tmp 76) rfl (w.heap.size + 1) 0 (q3 e7x7 e8x8 (md 2 (2 * (md 2 (y * z))))) (by rfl) (Eq.trans (by rfl) q76) (by rw [q3_size]; exact nms_there hres0 0 3 (by omega)) (szTh _ _ _) (q3_one _ _ _) ?_
   rw [setRowTh hres0 _ _ _]
   have k0_c : Chg w (u.setRow (w.heap.size + 1) (q3 e7x7 e8x8 (md 2 (2 * (md 2 (y * z)))))) := ((Z8.out.1.trans hc).setRow (by omega) _)
   have k0_B2 := hres0.row (q3 e7x7 e8x8 (md 2 (2 * (md 2 (y * z)))))
   generalize (u.setRow (w.heap.size + 1) (q3 e7x7 e8x8 (md 2 (2 * (md 2 (y * z)))))) = u10 at k0_c k0_B2 ⊢
   refine tail_nil rfl ?_
   go_wp2_with fail
   go_meet
   exact ⟨k0_c, k0_B2⟩
 have hz := hcut
 obtain ⟨w9, hw9⟩ : ∃ zz0, zz0 = wc := ⟨_, rfl⟩
 rw [← hw9] at hz ⊢
 have Z9 : Hid _ := hz
 clear hw9 hz Z8
 go_wp2_with fail
 exact bp_Th Try.results56 rfl rfl Z9.out.2 ⟨_, _, _, rfl, JQ.twice H1.out (of_decide_eq_false HD.out) (of_decide_eq_false HY.out) Ee3x3.out Ee4x4.out Ee5x5.out Ee6x6.out Ee7x7.out Ee8x8.out, Z9.out.1⟩
theorem twiceS_any (x y z : Int) (P : PQt) (h : JQ x y z P) (w : World) : Calls Try.prog 56 #[.agg (q3 x y z)] w fun r w' => ∃ X Y Z, r = .returned (.agg (q3 X Y Z)) ∧ JQ X Y Z (AW P P) ∧ Chg w w' := by
 cases hd : decide (z = 0) with
 | true => exact (twiceS_z x y z P h hd w).mono fun r w' hq => ⟨_, _, _, hq.1, h.twice0 (.inl (of_decide_eq_true hd)), hq.2⟩
 | false =>
  cases hy : decide (y = 0) with
  | true => exact (twiceS_y x y z P h hd hy w).mono fun r w' hq => ⟨_, _, _, hq.1, h.twice0 (.inr (of_decide_eq_true hy)), hq.2⟩
  | false => exact twiceS_n x y z P h hd hy w
end Go.Proofs.Ytbdgmkejmfjobaa
