/-
  Points as three numbers and back; does a point lie on the curve? The program.
-/
import Derived.Test.YtbdgmkejmfjobaaTh
namespace Go.Proofs.Ytbdgmkejmfjobaa
open Go.RowKit
set_option linter.unusedVariables false
set_option maxRecDepth 100000
theorem eqPt_f (x y : Int) : eqPt false x y true 0 0 = false := rfl
theorem eqPt_t (x y : Int) : eqPt true x y true 0 0 = onR true x y := by simp [eqPt, onR]
theorem rightL_any {f a : Int} {b : Bool} (ha : N256 a) (h : decide (a < mo f) = b) (w : World) : Calls Try.prog 33 #[.int .i64 f, .agg (num a)] w fun r w' => r = .returned (.bool b) ∧ Chg w w' := by
 rw [← h]
 exact right_any f a ha w
theorem lessL_any {a b : Int} {c : Bool} (ha : N256 a) (hb : N256 b) (h : decide (a < b) = c) (w : World) : Calls Try.prog 36 #[.agg (num a), .agg (num b)] w fun r w' => r = .returned (.bool c) ∧ Chg w w' := by
 rw [← h]
 exact less_any a b ha hb w
set_option maxHeartbeats 16000000 in
theorem ofQ_t  (w : World) : Calls Try.prog 25 #[.agg (pt true 0 0)] w fun r w' => r = .returned (.agg (q3 0 1 0)) ∧ Chg w w' := by
 have hz0 := zeroTr.1
 have hsA0 := pt_size true 0 0
 obtain ⟨A0, hA0⟩ : ∃ zz0, zz0 = pt true 0 0 := ⟨_, rfl⟩
 have HA0 : Hid (A0 = pt true 0 0) := hA0
 rw [← hA0] at hsA0 ⊢
 clear hA0
 go_enter Try.func25, Try.ntmps25
 go_upto_region 1 with fail
 obtain ⟨w1, hw1⟩ : ∃ w1, w1 = (w.alloc (.cells A0 26)).alloc (.cells (q3 0 0 0) 49) := ⟨_, rfl⟩
 have Z1 : Hid (Chg w w1 ∧ Ar w1 w.heap.size (pt true 0 0) ∧ Ar w1 (w.heap.size + 1) (q3 0 0 0)) := by
  have hnew0 := Ar.new w (pt true 0 0) 26
  have hnew1 := Ar.new (w.alloc (.cells (pt true 0 0) 26)) (q3 0 0 0) 49
  rw [World.size_alloc] at hnew1
  rw [hw1, HA0.out]
  exact ⟨(((Chg.refl w).alloc _).alloc _), ((hnew0).alloc _), (hnew1)⟩
 rw [← hw1]
 clear hw1 hz0 hsA0 HA0
 go_cut [5] from 3 to 5 (fun v5 wc => v5 = .bool true ∧ Chg w wc ∧ Ar wc (w.heap.size + 1) (q3 0 0 0))
 case first =>
  refine regN 3 (fun j v wg => match j with
   | 0 => v = .agg (pt true 0 0)
   | 1 => v = .agg (pt true 0 0)
   | 2 => v = .bool true
   | _ => True) (by kernel_rfl) (by kernel_rfl) (by kernel_rfl) (by kernel_rfl) ?_ ?_ ?_
  ·intro j v u1 u2 h hc; exact h
  ·intro i o ac u hi ho hsz hf hg hc
   have hcs : i = 0 ∨ i = 1 ∨ i = 2 := by omega
   rcases hcs with rfl | rfl | rfl <;> (injection ho with ho; subst ho; refine .inl ⟨wanted_none rfl, ?_⟩)
   ·have e1 : ac.eval (.tmp 1) = .pointer (some ⟨w.heap.size, 0, none⟩) := hf 1 (by kernel_rfl)
    exact wp_load_mid 26 (.tmp 1) rfl _ _ e1 ((pt true 0 0).toList) _ (rangeAp (Z1.out.2.1.chg hc)) Try.underlying26 rfl (infoPt _ _ _) ⟨_, rfl, rfl, Chg.refl _⟩
   ·refine opG_go 24 Try.f24 #[] #[] rfl Try.func24 (by kernel_rfl) (by kernel_rfl) (by simp []) (Calls.mono (zeroQ_any _) ?_)
    rintro r u2 ⟨rfl, hc2⟩
    exact ⟨_, rfl, rfl, hc2⟩
   ·have e1 : ac.eval (.tmp 3) = .agg (pt true 0 0) := hg 0 (by kernel_rfl) (by decide)
    have e2 : ac.eval (.tmp 4) = .agg (pt true 0 0) := hg 1 (by kernel_rfl) (by decide)
    exact opG_val (by revert e1 e2; generalize ac.eval = ρ; intro e1 e2; simp [go_sem, execOp, e1, e2, run_eqPt n0P n0P n0P n0P, eqPt_self]) rfl (Chg.refl _)
  ·intro u V hV hc
   have q5 : V 2 = .bool true := hV 2 (by decide)
   go_wp2_with fail
   go_meet
   exact ⟨q5, (Z1.out.1.trans hc), (Z1.out.2.2.chg hc)⟩
 obtain ⟨rfl, hz⟩ := hcut
 obtain ⟨w2, hw2⟩ : ∃ zz0, zz0 = wc := ⟨_, rfl⟩
 rw [← hw2] at hz ⊢
 have Z2 : Hid _ := hz
 clear hw2 hz Z1
 go_upto_region 2 with fail
 go_cut [] from 6 to 7 (fun wc => Chg w wc ∧ Ar wc (w.heap.size + 1) (q3 0 1 0))
 case first =>
  refine regP 2 (fun j v wg => match j with
   | 0 => v = .agg (num 1)
   | 1 => v = .agg (q3 0 1 0)
   | _ => True) (by decide) (by kernel_rfl) ?_ ?_ ?_
  ·intro j v u1 u2 h hc; exact h
  ·intro i o ac u hi ho hsz hf hg hc
   have hcs : i = 0 ∨ i = 1 := by omega
   rcases hcs with rfl | rfl <;> (injection ho with ho; subst ho; refine .inl ⟨wanted_none rfl, ?_⟩)
   ·exact opG_built _ [(0, .int .u64 1)] rfl (by kernel_rfl) (by kernel_rfl) rfl
   ·have e1 : ac.eval (.tmp 6) = .agg (num 1) := hg 0 (by decide) (by decide)
    exact opG_built _ [(1, .agg (num 1))] rfl (by simp [e1]) (by kernel_rfl) rfl
  ·intro u V hV hc
   have q7 : V 1 = .agg (q3 0 1 0) := hV 1 (by decide)
   have hres0 := (Z2.out.2.chg hc)
   refine wpList_store_mid rfl 49 (.tmp 2) (.tmp 7) rfl (w.heap.size + 1) 0 (q3 0 1 0) (by rfl) (Eq.trans (by rfl) q7) (by rw [q3_size]; exact nms_there hres0 0 3 (by omega)) (szTr _ _ _) (q3_one _ _ _) ?_
   rw [setRowTr hres0 _ _ _]
   have k0_c : Chg w (u.setRow (w.heap.size + 1) (q3 0 1 0)) := ((Z2.out.1.trans hc).setRow (by omega) _)
   have k0_B2 := hres0.row (q3 0 1 0)
   generalize (u.setRow (w.heap.size + 1) (q3 0 1 0)) = u10 at k0_c k0_B2 ⊢
   go_wp2_with fail
   go_meet
   exact ⟨k0_c, k0_B2⟩
 have hz := hcut
 obtain ⟨w3, hw3⟩ : ∃ zz0, zz0 = wc := ⟨_, rfl⟩
 rw [← hw3] at hz ⊢
 have Z3 : Hid _ := hz
 clear hw3 hz Z2
 go_wp2_with fail
 exact bp_Tr Try.results25 rfl rfl Z3.out.2 ⟨rfl, Z3.out.1⟩
set_option maxHeartbeats 16000000 in
theorem ofQ_f (x y : Int) (hx : N256 x) (hy : N256 y) (w : World) : Calls Try.prog 25 #[.agg (pt false x y)] w fun r w' => r = .returned (.agg (q3 x y 1)) ∧ Chg w w' := by
 have HN : Hid (N256 x ∧ N256 y) := ⟨hx, hy⟩
 clear hx hy
 have hz0 := zeroTr.1
 have hsA0 := pt_size false x y
 obtain ⟨A0, hA0⟩ : ∃ zz0, zz0 = pt false x y := ⟨_, rfl⟩
 have HA0 : Hid (A0 = pt false x y) := hA0
 rw [← hA0] at hsA0 ⊢
 clear hA0
 go_enter Try.func25, Try.ntmps25
 go_upto_region 1 with fail
 obtain ⟨w1, hw1⟩ : ∃ w1, w1 = (w.alloc (.cells A0 26)).alloc (.cells (q3 0 0 0) 49) := ⟨_, rfl⟩
 have Z1 : Hid (Chg w w1 ∧ Ar w1 w.heap.size (pt false x y) ∧ Ar w1 (w.heap.size + 1) (q3 0 0 0)) := by
  have hnew0 := Ar.new w (pt false x y) 26
  have hnew1 := Ar.new (w.alloc (.cells (pt false x y) 26)) (q3 0 0 0) 49
  rw [World.size_alloc] at hnew1
  rw [hw1, HA0.out]
  exact ⟨(((Chg.refl w).alloc _).alloc _), ((hnew0).alloc _), (hnew1)⟩
 rw [← hw1]
 clear hw1 hz0 hsA0 HA0
 go_cut [5] from 3 to 5 (fun v5 wc => v5 = .bool false ∧ Chg w wc ∧ Ar wc w.heap.size (pt false x y) ∧ Ar wc (w.heap.size + 1) (q3 0 0 0))
 case first =>
  refine regN 3 (fun j v wg => match j with
   | 0 => v = .agg (pt false x y)
   | 1 => v = .agg (pt true 0 0)
   | 2 => v = .bool false
   | _ => True) (by kernel_rfl) (by kernel_rfl) (by kernel_rfl) (by kernel_rfl) ?_ ?_ ?_
  ·intro j v u1 u2 h hc; exact h
  ·intro i o ac u hi ho hsz hf hg hc
   have hcs : i = 0 ∨ i = 1 ∨ i = 2 := by omega
   rcases hcs with rfl | rfl | rfl <;> (injection ho with ho; subst ho; refine .inl ⟨wanted_none rfl, ?_⟩)
   ·have e1 : ac.eval (.tmp 1) = .pointer (some ⟨w.heap.size, 0, none⟩) := hf 1 (by kernel_rfl)
    exact wp_load_mid 26 (.tmp 1) rfl _ _ e1 ((pt false x y).toList) _ (rangeAp (Z1.out.2.1.chg hc)) Try.underlying26 rfl (infoPt _ _ _) ⟨_, rfl, rfl, Chg.refl _⟩
   ·refine opG_go 24 Try.f24 #[] #[] rfl Try.func24 (by kernel_rfl) (by kernel_rfl) (by simp []) (Calls.mono (zeroQ_any _) ?_)
    rintro r u2 ⟨rfl, hc2⟩
    exact ⟨_, rfl, rfl, hc2⟩
   ·have e1 : ac.eval (.tmp 3) = .agg (pt false x y) := hg 0 (by kernel_rfl) (by decide)
    have e2 : ac.eval (.tmp 4) = .agg (pt true 0 0) := hg 1 (by kernel_rfl) (by decide)
    exact opG_val (by revert e1 e2; generalize ac.eval = ρ; intro e1 e2; simp [go_sem, execOp, e1, e2, run_eqPt HN.out.1 HN.out.2 n0P n0P, eqPt_f]) rfl (Chg.refl _)
  ·intro u V hV hc
   have q5 : V 2 = .bool false := hV 2 (by decide)
   go_wp2_with fail
   go_meet
   exact ⟨q5, (Z1.out.1.trans hc), (Z1.out.2.1.chg hc), (Z1.out.2.2.chg hc)⟩
 obtain ⟨rfl, hz⟩ := hcut
 obtain ⟨w2, hw2⟩ : ∃ zz0, zz0 = wc := ⟨_, rfl⟩
 rw [← hw2] at hz ⊢
 have Z2 : Hid _ := hz
 clear hw2 hz Z1
 go_upto_region 3 with fail
 go_cut [] from 8 to 13 (fun wc => Chg w wc ∧ Ar wc (w.heap.size + 1) (q3 x y 1))
 case first =>
  refine regP 6 (fun j v wg => match j with
   | 0 => v = .pointer (some ⟨w.heap.size, 1, none⟩)
   | 1 => v = .agg (num x)
   | 2 => v = .pointer (some ⟨w.heap.size, 5, none⟩)
   | 3 => v = .agg (num y)
   | 4 => v = .agg (num 1)
   | 5 => v = .agg (q3 x y 1)
   | _ => True) (by decide) (by kernel_rfl) ?_ ?_ ?_
  ·intro j v u1 u2 h hc; exact h
  ·intro i o ac u hi ho hsz hf hg hc
   have hcs : i = 0 ∨ i = 1 ∨ i = 2 ∨ i = 3 ∨ i = 4 ∨ i = 5 := by omega
   rcases hcs with rfl | rfl | rfl | rfl | rfl | rfl <;> (injection ho with ho; subst ho; refine .inl ⟨wanted_none rfl, ?_⟩)
   ·have e1 : ac.eval (.tmp 1) = .pointer (some ⟨w.heap.size, 0, none⟩) := hf 1 (by kernel_rfl)
    exact opG_val (by revert e1; generalize ac.eval = ρ; intro e1; simp [go_sem, execOp, e1]) rfl (Chg.refl _)
   ·exact ldN rfl (hg 0 (by decide) (by decide)) (rangePtX (Z2.out.2.1.chg hc)) rfl
   ·have e1 : ac.eval (.tmp 1) = .pointer (some ⟨w.heap.size, 0, none⟩) := hf 1 (by kernel_rfl)
    exact opG_val (by revert e1; generalize ac.eval = ρ; intro e1; simp [go_sem, execOp, e1]) rfl (Chg.refl _)
   ·exact ldN rfl (hg 2 (by decide) (by decide)) (rangePtY (Z2.out.2.1.chg hc)) rfl
   ·exact opG_built _ [(0, .int .u64 1)] rfl (by kernel_rfl) (by kernel_rfl) rfl
   ·have e1 : ac.eval (.tmp 9) = .agg (num x) := hg 1 (by decide) (by decide)
    have e2 : ac.eval (.tmp 11) = .agg (num y) := hg 3 (by decide) (by decide)
    have e3 : ac.eval (.tmp 12) = .agg (num 1) := hg 4 (by decide) (by decide)
    exact opG_built _ [(0, .agg (num x)), (1, .agg (num y)), (2, .agg (num 1))] rfl (by simp [e1, e2, e3]) (builtTr _ _ _) rfl
  ·intro u V hV hc
   have q13 : V 5 = .agg (q3 x y 1) := hV 5 (by decide)
   have hres0 := (Z2.out.2.2.chg hc)
   refine wpList_store_mid rfl 49 (.tmp 2) (.tmp 13) rfl (w.heap.size + 1) 0 (q3 x y 1) (by rfl) (Eq.trans (by rfl) q13) (by rw [q3_size]; exact nms_there hres0 0 3 (by omega)) (szTr _ _ _) (q3_one _ _ _) ?_
   rw [setRowTr hres0 _ _ _]
   have k0_c : Chg w (u.setRow (w.heap.size + 1) (q3 x y 1)) := ((Z2.out.1.trans hc).setRow (by omega) _)
   have k0_B2 := hres0.row (q3 x y 1)
   generalize (u.setRow (w.heap.size + 1) (q3 x y 1)) = u10 at k0_c k0_B2 ⊢
   go_wp2_with fail
   go_meet
   exact ⟨k0_c, k0_B2⟩
 have hz := hcut
 obtain ⟨w3, hw3⟩ : ∃ zz0, zz0 = wc := ⟨_, rfl⟩
 rw [← hw3] at hz ⊢
 have Z3 : Hid _ := hz
 clear hw3 hz Z2
 go_wp2_with fail
 exact bp_Tr Try.results25 rfl rfl Z3.out.2 ⟨rfl, Z3.out.1⟩
theorem ofQ_any (z : Bool) (x y : Int) (hx : N256 x) (hy : N256 y) (h : onR z x y = true) (w : World) : Calls Try.prog 25 #[.agg (pt z x y)] w fun r w' => ∃ X Y Z, r = .returned (.agg (q3 X Y Z)) ∧ TQ X Y Z (toP z x y) ∧ Chg w w' := by
 cases z with
 | true =>
  obtain ⟨rfl, rfl⟩ := onR_t h
  exact (ofQ_t w).mono fun r w' hq => ⟨_, _, _, hq.1, TQ.zero, hq.2⟩
 | false => exact (ofQ_f x y hx hy w).mono fun r w' hq => ⟨_, _, _, hq.1, TQ.at hx hy h, hq.2⟩
set_option maxHeartbeats 16000000 in
theorem pointQ_z (x y z : Int) (P : PQt) (h : TQ x y z P) (hd : decide (z = 0) = true) (w : World) : Calls Try.prog 27 #[.agg (q3 x y z)] w fun r w' => r = .returned (.agg (pt true 0 0)) ∧ Chg w w' := by
 have H1 : Hid (TQ x y z P) := h
 have HD : Hid (decide (z = 0) = true) := hd
 clear h hd
 have hz0 := zeroPt.1
 have hsA0 := q3_size x y z
 obtain ⟨A0, hA0⟩ : ∃ zz0, zz0 = q3 x y z := ⟨_, rfl⟩
 have HA0 : Hid (A0 = q3 x y z) := hA0
 rw [← hA0] at hsA0 ⊢
 clear hA0
 go_enter Try.func27, Try.ntmps27
 go_upto_region 1 with fail
 obtain ⟨w1, hw1⟩ : ∃ w1, w1 = (w.alloc (.cells A0 49)).alloc (.cells (pt false 0 0) 26) := ⟨_, rfl⟩
 have Z1 : Hid (Chg w w1 ∧ Ar w1 w.heap.size (q3 x y z) ∧ Ar w1 (w.heap.size + 1) (pt false 0 0)) := by
  have hnew0 := Ar.new w (q3 x y z) 49
  have hnew1 := Ar.new (w.alloc (.cells (q3 x y z) 49)) (pt false 0 0) 26
  rw [World.size_alloc] at hnew1
  rw [hw1, HA0.out]
  exact ⟨(((Chg.refl w).alloc _).alloc _), ((hnew0).alloc _), (hnew1)⟩
 rw [← hw1]
 clear hw1 hz0 hsA0 HA0
 go_cut [7] from 4 to 7 (fun v7 wc => v7 = .bool true ∧ Chg w wc ∧ Ar wc (w.heap.size + 1) (pt false 0 0))
 case first =>
  refine regP 4 (fun j v wg => match j with
   | 0 => v = .pointer (some ⟨w.heap.size, 8, none⟩)
   | 1 => v = .agg (num z)
   | 2 => v = .agg (num 0)
   | 3 => v = .bool true
   | _ => True) (by decide) (by kernel_rfl) ?_ ?_ ?_
  ·intro j v u1 u2 h hc; exact h
  ·intro i o ac u hi ho hsz hf hg hc
   have hcs : i = 0 ∨ i = 1 ∨ i = 2 ∨ i = 3 := by omega
   rcases hcs with rfl | rfl | rfl | rfl <;> (injection ho with ho; subst ho; refine .inl ⟨wanted_none rfl, ?_⟩)
   ·have e1 : ac.eval (.tmp 1) = .pointer (some ⟨w.heap.size, 0, none⟩) := hf 1 (by kernel_rfl)
    exact opG_val (by revert e1; generalize ac.eval = ρ; intro e1; simp [go_sem, execOp, e1]) rfl (Chg.refl _)
   ·exact ldN rfl (hg 0 (by decide) (by decide)) (rangeq3F2 (Z1.out.2.1.chg hc)) rfl
   ·exact opG_built _ [] rfl (by kernel_rfl) (by kernel_rfl) rfl
   ·have e1 : ac.eval (.tmp 5) = .agg (num z) := hg 1 (by decide) (by decide)
    have e2 : ac.eval (.tmp 6) = .agg (num 0) := hg 2 (by decide) (by decide)
    exact opG_val (by revert e1 e2; generalize ac.eval = ρ; intro e1 e2; simp [go_sem, execOp, e1, e2, run_eqNum (H1.out.nz) n0P, HD.out]) rfl (Chg.refl _)
  ·intro u V hV hc
   have q7 : V 3 = .bool true := hV 3 (by decide)
   go_wp2_with fail
   go_meet
   exact ⟨q7, (Z1.out.1.trans hc), (Z1.out.2.2.chg hc)⟩
 obtain ⟨rfl, hz⟩ := hcut
 obtain ⟨w2, hw2⟩ : ∃ zz0, zz0 = wc := ⟨_, rfl⟩
 rw [← hw2] at hz ⊢
 have Z2 : Hid _ := hz
 clear hw2 hz Z1
 go_upto_region 2 with fail
 go_cut [] from 8 to 8 (fun wc => Chg w wc ∧ Ar wc (w.heap.size + 1) (pt true 0 0))
 case first =>
  refine regP 1 (fun j v wg => match j with
   | 0 => v = .agg (pt true 0 0)
   | _ => True) (by decide) (by kernel_rfl) ?_ ?_ ?_
  ·intro j v u1 u2 h hc; exact h
  ·intro i o ac u hi ho hsz hf hg hc
   have hcs : i = 0 := by omega
   rcases hcs with rfl <;> (injection ho with ho; subst ho; refine .inl ⟨wanted_none rfl, ?_⟩)
   ·refine opG_go 24 Try.f24 #[] #[] rfl Try.func24 (by kernel_rfl) (by kernel_rfl) (by simp []) (Calls.mono (zeroQ_any _) ?_)
    rintro r u2 ⟨rfl, hc2⟩
    exact ⟨_, rfl, rfl, hc2⟩
  ·intro u V hV hc
   have q8 : V 0 = .agg (pt true 0 0) := hV 0 (by decide)
   have hres0 := (Z2.out.2.chg hc)
   refine wpList_store_mid rfl 26 (.tmp 2) (.tmp 8) rfl (w.heap.size + 1) 0 (pt true 0 0) (by rfl) (Eq.trans (by rfl) q8) (by rw [pt_size]; exact pt_there hres0) (szPt _ _ _) (pt_one _ _ _) ?_
   rw [setRowPt hres0 _ _ _]
   have k0_c : Chg w (u.setRow (w.heap.size + 1) (pt true 0 0)) := ((Z2.out.1.trans hc).setRow (by omega) _)
   have k0_B2 := hres0.row (pt true 0 0)
   generalize (u.setRow (w.heap.size + 1) (pt true 0 0)) = u10 at k0_c k0_B2 ⊢
   go_wp2_with fail
   go_meet
   exact ⟨k0_c, k0_B2⟩
 have hz := hcut
 obtain ⟨w3, hw3⟩ : ∃ zz0, zz0 = wc := ⟨_, rfl⟩
 rw [← hw3] at hz ⊢
 have Z3 : Hid _ := hz
 clear hw3 hz Z2
 go_wp2_with fail
 exact bp_Pt Try.results27 rfl rfl Z3.out.2 ⟨rfl, Z3.out.1⟩
set_option maxHeartbeats 16000000 in
theorem pointQ_n (x y z : Int) (P : PQt) (h : TQ x y z P) (hd : decide (z = 0) = false) (w : World) : Calls Try.prog 27 #[.agg (q3 x y z)] w fun r w' => r = .returned (.agg (pt (zP P) (xP P) (yP P))) ∧ Chg w w' := by
 have H1 : Hid (TQ x y z P) := h
 have HD : Hid (decide (z = 0) = false) := hd
 clear h hd
 have HB : Hid (∀ i, i = md 2 (z ^ ((mo 2 - 2) % R256).toNat) → zP P = false ∧ md 2 (x * i) = xP P ∧ md 2 (y * i) = yP P) := fun i hi => H1.out.back (of_decide_eq_false HD.out) hi
 have hz0 := zeroPt.1
 have hsA0 := q3_size x y z
 obtain ⟨A0, hA0⟩ : ∃ zz0, zz0 = q3 x y z := ⟨_, rfl⟩
 have HA0 : Hid (A0 = q3 x y z) := hA0
 rw [← hA0] at hsA0 ⊢
 clear hA0
 go_enter Try.func27, Try.ntmps27
 go_upto_region 1 with fail
 obtain ⟨w1, hw1⟩ : ∃ w1, w1 = (w.alloc (.cells A0 49)).alloc (.cells (pt false 0 0) 26) := ⟨_, rfl⟩
 have Z1 : Hid (Chg w w1 ∧ Ar w1 w.heap.size (q3 x y z) ∧ Ar w1 (w.heap.size + 1) (pt false 0 0)) := by
  have hnew0 := Ar.new w (q3 x y z) 49
  have hnew1 := Ar.new (w.alloc (.cells (q3 x y z) 49)) (pt false 0 0) 26
  rw [World.size_alloc] at hnew1
  rw [hw1, HA0.out]
  exact ⟨(((Chg.refl w).alloc _).alloc _), ((hnew0).alloc _), (hnew1)⟩
 rw [← hw1]
 clear hw1 hz0 hsA0 HA0
 go_cut [7] from 4 to 7 (fun v7 wc => v7 = .bool false ∧ Chg w wc ∧ Ar wc w.heap.size (q3 x y z) ∧ Ar wc (w.heap.size + 1) (pt false 0 0))
 case first =>
  refine regP 4 (fun j v wg => match j with
   | 0 => v = .pointer (some ⟨w.heap.size, 8, none⟩)
   | 1 => v = .agg (num z)
   | 2 => v = .agg (num 0)
   | 3 => v = .bool false
   | _ => True) (by decide) (by kernel_rfl) ?_ ?_ ?_
  ·intro j v u1 u2 h hc; exact h
  ·intro i o ac u hi ho hsz hf hg hc
   have hcs : i = 0 ∨ i = 1 ∨ i = 2 ∨ i = 3 := by omega
   rcases hcs with rfl | rfl | rfl | rfl <;> (injection ho with ho; subst ho; refine .inl ⟨wanted_none rfl, ?_⟩)
   ·have e1 : ac.eval (.tmp 1) = .pointer (some ⟨w.heap.size, 0, none⟩) := hf 1 (by kernel_rfl)
    exact opG_val (by revert e1; generalize ac.eval = ρ; intro e1; simp [go_sem, execOp, e1]) rfl (Chg.refl _)
   ·exact ldN rfl (hg 0 (by decide) (by decide)) (rangeq3F2 (Z1.out.2.1.chg hc)) rfl
   ·exact opG_built _ [] rfl (by kernel_rfl) (by kernel_rfl) rfl
   ·have e1 : ac.eval (.tmp 5) = .agg (num z) := hg 1 (by decide) (by decide)
    have e2 : ac.eval (.tmp 6) = .agg (num 0) := hg 2 (by decide) (by decide)
    exact opG_val (by revert e1 e2; generalize ac.eval = ρ; intro e1 e2; simp [go_sem, execOp, e1, e2, run_eqNum (H1.out.nz) n0P, HD.out]) rfl (Chg.refl _)
  ·intro u V hV hc
   have q7 : V 3 = .bool false := hV 3 (by decide)
   go_wp2_with fail
   go_meet
   exact ⟨q7, (Z1.out.1.trans hc), (Z1.out.2.1.chg hc), (Z1.out.2.2.chg hc)⟩
 obtain ⟨rfl, hz⟩ := hcut
 obtain ⟨w2, hw2⟩ : ∃ zz0, zz0 = wc := ⟨_, rfl⟩
 rw [← hw2] at hz ⊢
 have Z2 : Hid _ := hz
 clear hw2 hz Z1
 go_upto_region 3 with fail
 go_cut [3] from 3 to 11 (fun v3 wc => ∃ b3, v3 = .pointer (some ⟨b3, 0, none⟩) ∧ w.heap.size + 1 ≠ b3 ∧ Chg w wc ∧ Ar wc w.heap.size (q3 x y z) ∧ Ar wc (w.heap.size + 1) (pt false 0 0) ∧ Ar wc b3 (num (md 2 (z ^ ((mo 2 - 2) % R256).toNat))))
 case first =>
  refine regP 4 (fun j v wg => match j with
   | 0 => v = .pointer (some ⟨w.heap.size, 8, none⟩)
   | 1 => v = .agg (num z)
   | 2 => v = .agg (num (md 2 (z ^ ((mo 2 - 2) % R256).toNat)))
   | 3 => ∃ b, v = .pointer (some ⟨b, 0, none⟩) ∧ Ar wg b (num 0) ∧ w2.heap.size ≤ b
   | _ => True) (by decide) (by kernel_rfl) ?_ ?_ ?_
  ·intro j v u1 u2 h hc
   match j, h with
   | 0, h => exact h
   | 1, h => exact h
   | 2, h => exact h
   | 3, h => (obtain ⟨b, h1, h2, h3⟩ := h; exact ⟨b, h1, h2.chg hc, h3⟩)
   | _ + 4, h => exact trivial
  ·intro i o ac u hi ho hsz hf hg hc
   have hcs : i = 0 ∨ i = 1 ∨ i = 2 ∨ i = 3 := by omega
   rcases hcs with rfl | rfl | rfl | rfl <;> (injection ho with ho; subst ho; refine .inl ⟨wanted_none rfl, ?_⟩)
   ·have e1 : ac.eval (.tmp 1) = .pointer (some ⟨w.heap.size, 0, none⟩) := hf 1 (by kernel_rfl)
    exact opG_val (by revert e1; generalize ac.eval = ρ; intro e1; simp [go_sem, execOp, e1]) rfl (Chg.refl _)
   ·exact ldN rfl (hg 0 (by decide) (by decide)) (rangeq3F2 (Z2.out.2.1.chg hc)) rfl
   ·have e1 : ac.eval (.const (.int .i64 2)) = .int .i64 2 := rfl
    have e2 : ac.eval (.tmp 10) = .agg (num z) := hg 1 (by decide) (by decide)
    refine opG_go 54 Try.f54 #[.const (.int .i64 2), .tmp 10] #[35, 24] rfl Try.func54 (by kernel_rfl) (by kernel_rfl) (by simp [e1, e2]) (Calls.mono (invM_any 2 z (H1.out.nz) _) ?_)
    rintro r u2 ⟨rfl, hc2⟩
    exact ⟨_, rfl, rfl, hc2⟩
   ·exact opG_val (v := .pointer (some ⟨u.heap.size, 0, none⟩)) (w' := u.alloc (.cells (num 0) 24)) (by generalize ac.eval = ρ; simp [go_sem, execOp, zero25.1]) ⟨_, rfl, Ar.new _ _ _, hc.size⟩ ((Chg.refl _).alloc _)
  ·intro u V hV hc
   have q11 : V 2 = .agg (num (md 2 (z ^ ((mo 2 - 2) % R256).toNat))) := hV 2 (by decide)
   obtain ⟨b3, q3, r3, s3⟩ := hV 3 (by decide)
   have lw3 : w.heap.size ≤ b3 := Nat.le_trans Z2.out.1.size s3
   have hres0 := r3
   refine wpList_store_mid rfl 24 (.tmp 3) (.tmp 11) rfl b3 0 (num (md 2 (z ^ ((mo 2 - 2) % R256).toNat))) (Eq.trans (by rfl) q3) (Eq.trans (by rfl) q11) (by rw [num_size]; exact thereN hres0) (szN _) (num_one _) ?_
   rw [setRowN hres0 _]
   have k0_c : Chg w (u.setRow b3 (num (md 2 (z ^ ((mo 2 - 2) % R256).toNat)))) := ((Z2.out.1.trans hc).setRow lw3 _)
   have k0_B1 := (Z2.out.2.1.chg hc).rowOther (Z2.out.2.1.apart s3) (num (md 2 (z ^ ((mo 2 - 2) % R256).toNat)))
   have k0_B2 := (Z2.out.2.2.chg hc).rowOther (Z2.out.2.2.apart s3) (num (md 2 (z ^ ((mo 2 - 2) % R256).toNat)))
   have k0_B3 := hres0.row (num (md 2 (z ^ ((mo 2 - 2) % R256).toNat)))
   generalize (u.setRow b3 (num (md 2 (z ^ ((mo 2 - 2) % R256).toNat)))) = u10 at k0_c k0_B1 k0_B2 k0_B3 ⊢
   go_wp2_with fail
   go_meet
   exact ⟨b3, q3, Z2.out.2.2.apart s3, k0_c, k0_B1, k0_B2, k0_B3⟩
 obtain ⟨b3, rfl, of0, hz⟩ := hcut
 obtain ⟨w3, hw3⟩ : ∃ zz0, zz0 = wc := ⟨_, rfl⟩
 rw [← hw3] at hz ⊢
 have Z3 : Hid _ := hz
 have O3_0 : Hid _ := of0
 clear hw3 hz of0 Z2
 obtain ⟨e3x3, he3x3⟩ : ∃ zz0, zz0 = md 2 (z ^ ((mo 2 - 2) % R256).toNat) := ⟨_, rfl⟩
 have Ee3x3 : Hid (e3x3 = md 2 (z ^ ((mo 2 - 2) % R256).toNat)) := he3x3
 have Ne3x3 : Hid (N256 e3x3) := by show N256 e3x3; rw [he3x3]; exact md_N _ _
 rw [← he3x3] at Z3
 clear he3x3
 go_upto_region 4 with fail
 go_cut [] from 12 to 20 (fun wc => Chg w wc ∧ Ar wc (w.heap.size + 1) (pt false (md 2 (x * e3x3)) (md 2 (y * e3x3))))
 case first =>
  refine regM 9 (fun j => false) (fun j v wg => match j with
   | 0 => v = .pointer (some ⟨w.heap.size, 0, none⟩)
   | 1 => v = .agg (num x)
   | 2 => v = .agg (num e3x3)
   | 3 => v = .agg (num (md 2 (x * e3x3)))
   | 4 => v = .pointer (some ⟨w.heap.size, 4, none⟩)
   | 5 => v = .agg (num y)
   | 6 => v = .agg (num e3x3)
   | 7 => v = .agg (num (md 2 (y * e3x3)))
   | 8 => v = .agg (pt false (md 2 (x * e3x3)) (md 2 (y * e3x3)))
   | _ => True) (by kernel_rfl) (by decide) (by kernel_rfl) (by kernel_rfl) (by kernel_rfl) (by kernel_rfl) ?_ ?_ ?_ ?_
  ·intro j v u1 u2 h hc; exact h
  ·intro j v u hj ha h
   cases ha
  ·intro i o ac u hi ho hsz hf hg hc
   have hcs : i = 0 ∨ i = 1 ∨ i = 2 ∨ i = 3 ∨ i = 4 ∨ i = 5 ∨ i = 6 ∨ i = 7 ∨ i = 8 := by omega
   rcases hcs with rfl | rfl | rfl | rfl | rfl | rfl | rfl | rfl | rfl <;> (injection ho with ho; subst ho; refine ⟨wanted_none rfl, ?_⟩)
   ·have e1 : ac.eval (.tmp 1) = .pointer (some ⟨w.heap.size, 0, none⟩) := hf 1 (by kernel_rfl)
    exact opG_val (by revert e1; generalize ac.eval = ρ; intro e1; simp [go_sem, execOp, e1]) ⟨rfl, fun h => by cases h⟩ (Chg.refl _)
   ·exact ldN rfl (hg 0 (by kernel_rfl) (by decide)) (rangeq3F0 (Z3.out.2.1.chg hc)) ⟨rfl, fun h => by cases h⟩
   ·exact ldN rfl (hf 3 (by kernel_rfl)) (rangeAp (Z3.out.2.2.2.chg hc)) ⟨rfl, fun h => by cases h⟩
   ·exact oM (.tmp 13) (.tmp 14) rfl (hg 1 (by kernel_rfl) (by decide)) (hg 2 (by kernel_rfl) (by decide)) (H1.out.nx) (Ne3x3.out) fun _ _ => ⟨rfl, fun h => by cases h⟩
   ·have e1 : ac.eval (.tmp 1) = .pointer (some ⟨w.heap.size, 0, none⟩) := hf 1 (by kernel_rfl)
    exact opG_val (by revert e1; generalize ac.eval = ρ; intro e1; simp [go_sem, execOp, e1]) ⟨rfl, fun h => by cases h⟩ (Chg.refl _)
   ·exact ldN rfl (hg 4 (by kernel_rfl) (by decide)) (rangeq3F1 (Z3.out.2.1.chg hc)) ⟨rfl, fun h => by cases h⟩
   ·exact ldN rfl (hf 3 (by kernel_rfl)) (rangeAp (Z3.out.2.2.2.chg hc)) ⟨rfl, fun h => by cases h⟩
   ·exact oM (.tmp 17) (.tmp 18) rfl (hg 5 (by kernel_rfl) (by decide)) (hg 6 (by kernel_rfl) (by decide)) (H1.out.ny) (Ne3x3.out) fun _ _ => ⟨rfl, fun h => by cases h⟩
   ·have e1 : ac.eval (.tmp 15) = .agg (num (md 2 (x * e3x3))) := hg 3 (by kernel_rfl) (by decide)
    have e2 : ac.eval (.tmp 19) = .agg (num (md 2 (y * e3x3))) := hg 7 (by kernel_rfl) (by decide)
    exact opG_built _ [(1, .agg (num (md 2 (x * e3x3)))), (2, .agg (num (md 2 (y * e3x3))))] rfl (by simp [e1, e2]) (builtPt _ _) ⟨rfl, fun h => by cases h⟩
  ·intro u V hV hap hc
   have q20 : V 8 = .agg (pt false (md 2 (x * e3x3)) (md 2 (y * e3x3))) := hV 8 (by decide)
   have ordO3_0 := O3_0.out
   have hres0 := (Z3.out.2.2.1.chg hc)
   refine tail_cons rfl rfl ?_
   refine wp_store_mid 26 (.tmp 2) (.tmp 20) rfl (w.heap.size + 1) 0 (pt false (md 2 (x * e3x3)) (md 2 (y * e3x3))) (by rfl) (Eq.trans (by rfl) q20) (by rw [pt_size]; exact pt_there hres0) (szPt _ _ _) (pt_one _ _ _) ?_
   rw [setRowPt hres0 _ _ _]
   have k0_c : Chg w (u.setRow (w.heap.size + 1) (pt false (md 2 (x * e3x3)) (md 2 (y * e3x3)))) := ((Z3.out.1.trans hc).setRow (by omega) _)
   have k0_B2 := hres0.row (pt false (md 2 (x * e3x3)) (md 2 (y * e3x3)))
   generalize (u.setRow (w.heap.size + 1) (pt false (md 2 (x * e3x3)) (md 2 (y * e3x3)))) = u10 at k0_c k0_B2 ⊢
   refine tail_nil rfl ?_
   go_wp2_with fail
   go_meet
   exact ⟨k0_c, k0_B2⟩
 have hz := hcut
 obtain ⟨w4, hw4⟩ : ∃ zz0, zz0 = wc := ⟨_, rfl⟩
 rw [← hw4] at hz ⊢
 have Z4 : Hid _ := hz
 clear hw4 hz Z3
 have hb := HB.out _ Ee3x3.out
 have Z9 := Z4.out
 rw [← hb.1, hb.2.1, hb.2.2] at Z9
 have Z8 : Hid _ := Z9
 clear Z9 hb Z4
 go_wp2_with fail
 exact bp_Pt Try.results27 rfl rfl Z8.out.2 ⟨rfl, Z8.out.1⟩
theorem pointQ_any (x y z : Int) (P : PQt) (h : TQ x y z P) (w : World) : Calls Try.prog 27 #[.agg (q3 x y z)] w fun r w' => r = .returned (.agg (pt (zP P) (xP P) (yP P))) ∧ Chg w w' := by
 cases hd : decide (z = 0) with
 | true =>
  have e := h.none.1 (of_decide_eq_true hd)
  have k := pointQ_z x y z P h hd w
  rw [e]
  exact k
 | false => exact pointQ_n x y z P h hd w
set_option maxHeartbeats 16000000 in
theorem onQ_t (x y : Int) (hx : N256 x) (hy : N256 y) (w : World) : Calls Try.prog 13 #[.agg (pt true x y)] w fun r w' => r = .returned (.bool (onR true x y)) ∧ Chg w w' := by
 have HN : Hid (N256 x ∧ N256 y) := ⟨hx, hy⟩
 clear hx hy
 have hsA0 := pt_size true x y
 obtain ⟨A0, hA0⟩ : ∃ zz0, zz0 = pt true x y := ⟨_, rfl⟩
 have HA0 : Hid (A0 = pt true x y) := hA0
 rw [← hA0] at hsA0 ⊢
 clear hA0
 go_enter Try.func13, Try.ntmps13
 go_upto_region 1 with fail
 obtain ⟨w1, hw1⟩ : ∃ w1, w1 = w.alloc (.cells A0 26) := ⟨_, rfl⟩
 have Z1 : Hid (Chg w w1 ∧ Ar w1 w.heap.size (pt true x y)) := by
  have hnew0 := Ar.new w (pt true x y) 26
  rw [hw1, HA0.out]
  exact ⟨((Chg.refl w).alloc _), (hnew0)⟩
 rw [← hw1]
 clear hw1 hsA0 HA0
 go_cut [4] from 3 to 4 (fun v4 wc => v4 = .bool true ∧ Chg w wc ∧ Ar wc w.heap.size (pt true x y))
 case first =>
  refine regP 2 (fun j v wg => match j with
   | 0 => v = .pointer (some ⟨w.heap.size, 0, none⟩)
   | 1 => v = .bool true
   | _ => True) (by decide) (by kernel_rfl) ?_ ?_ ?_
  ·intro j v u1 u2 h hc; exact h
  ·intro i o ac u hi ho hsz hf hg hc
   have hcs : i = 0 ∨ i = 1 := by omega
   rcases hcs with rfl | rfl <;> (injection ho with ho; subst ho; refine .inl ⟨wanted_none rfl, ?_⟩)
   ·have e1 : ac.eval (.tmp 1) = .pointer (some ⟨w.heap.size, 0, none⟩) := hf 1 (by kernel_rfl)
    exact opG_val (by revert e1; generalize ac.eval = ρ; intro e1; simp [go_sem, execOp, e1]) rfl (Chg.refl _)
   ·have c1 := cellPtZ (Z1.out.2.chg hc)
    have e1 : ac.eval (.tmp 3) = .pointer (some ⟨w.heap.size, 0, none⟩) := hg 0 (by decide) (by decide)
    exact opG_val (by revert e1; generalize ac.eval = ρ; intro e1; simp [go_sem, execOp, e1, c1]) rfl (Chg.refl _)
  ·intro u V hV hc
   have q4 : V 1 = .bool true := hV 1 (by decide)
   go_wp2_with fail
   go_meet
   exact ⟨q4, (Z1.out.1.trans hc), (Z1.out.2.chg hc)⟩
 obtain ⟨rfl, hz⟩ := hcut
 obtain ⟨w2, hw2⟩ : ∃ zz0, zz0 = wc := ⟨_, rfl⟩
 rw [← hw2] at hz ⊢
 have Z2 : Hid _ := hz
 clear hw2 hz Z1
 go_upto_region 2 with fail
 go_cut [2] from 2 to 7 (fun v2 wc => v2 = .bool (eqPt true x y true 0 0) ∧ Chg w wc)
 case first =>
  refine regN 4 (fun j v wg => match j with
   | 0 => v = .agg (pt true x y)
   | 1 => v = .agg (pt true 0 0)
   | 2 => v = .bool (eqPt true x y true 0 0)
   | 3 => v = .bool (eqPt true x y true 0 0)
   | _ => True) (by kernel_rfl) (by kernel_rfl) (by kernel_rfl) (by kernel_rfl) ?_ ?_ ?_
  ·intro j v u1 u2 h hc; exact h
  ·intro i o ac u hi ho hsz hf hg hc
   have hcs : i = 0 ∨ i = 1 ∨ i = 2 ∨ i = 3 := by omega
   rcases hcs with rfl | rfl | rfl | rfl <;> (injection ho with ho; subst ho; refine .inl ⟨wanted_none rfl, ?_⟩)
   ·have e1 : ac.eval (.tmp 1) = .pointer (some ⟨w.heap.size, 0, none⟩) := hf 1 (by kernel_rfl)
    exact wp_load_mid 26 (.tmp 1) rfl _ _ e1 ((pt true x y).toList) _ (rangeAp (Z2.out.2.chg hc)) Try.underlying26 rfl (infoPt _ _ _) ⟨_, rfl, rfl, Chg.refl _⟩
   ·refine opG_go 24 Try.f24 #[] #[] rfl Try.func24 (by kernel_rfl) (by kernel_rfl) (by simp []) (Calls.mono (zeroQ_any _) ?_)
    rintro r u2 ⟨rfl, hc2⟩
    exact ⟨_, rfl, rfl, hc2⟩
   ·have e1 : ac.eval (.tmp 5) = .agg (pt true x y) := hg 0 (by kernel_rfl) (by decide)
    have e2 : ac.eval (.tmp 6) = .agg (pt true 0 0) := hg 1 (by kernel_rfl) (by decide)
    exact opG_val (by revert e1 e2; generalize ac.eval = ρ; intro e1 e2; simp [go_sem, execOp, e1, e2, run_eqPt (HN.out.1) (HN.out.2) n0P (n0P)]) rfl (Chg.refl _)
   ·have e1 : ac.eval (.tmp 7) = .bool (eqPt true x y true 0 0) := hg 2 (by kernel_rfl) (by decide)
    exact opG_val (by simp [execOp, e1]) rfl (Chg.refl _)
  ·intro u V hV hc
   have q2 : V 3 = .bool (eqPt true x y true 0 0) := hV 3 (by decide)
   go_wp2_with fail
   go_meet
   exact ⟨q2, (Z2.out.1.trans hc)⟩
 obtain ⟨rfl, hz⟩ := hcut
 obtain ⟨w3, hw3⟩ : ∃ zz0, zz0 = wc := ⟨_, rfl⟩
 rw [← hw3] at hz ⊢
 have Z3 : Hid _ := hz
 clear hw3 hz Z2
 go_wp2_with fail
 go_ret
 exact ⟨by rw [eqPt_t]; rfl, Z3.out⟩
set_option maxHeartbeats 16000000 in
theorem onQ_f1 (x y : Int) (hx : N256 x) (hy : N256 y) (hx' : decide (x < mo 2) = false) (w : World) : Calls Try.prog 13 #[.agg (pt false x y)] w fun r w' => r = .returned (.bool (onR false x y)) ∧ Chg w w' := by
 have HN : Hid (N256 x ∧ N256 y) := ⟨hx, hy⟩
 clear hx hy
 have HX : Hid (decide (x < mo 2) = false) := hx'
 clear hx'
 have hsA0 := pt_size false x y
 obtain ⟨A0, hA0⟩ : ∃ zz0, zz0 = pt false x y := ⟨_, rfl⟩
 have HA0 : Hid (A0 = pt false x y) := hA0
 rw [← hA0] at hsA0 ⊢
 clear hA0
 go_enter Try.func13, Try.ntmps13
 go_upto_region 1 with fail
 obtain ⟨w1, hw1⟩ : ∃ w1, w1 = w.alloc (.cells A0 26) := ⟨_, rfl⟩
 have Z1 : Hid (Chg w w1 ∧ Ar w1 w.heap.size (pt false x y)) := by
  have hnew0 := Ar.new w (pt false x y) 26
  rw [hw1, HA0.out]
  exact ⟨((Chg.refl w).alloc _), (hnew0)⟩
 rw [← hw1]
 clear hw1 hsA0 HA0
 go_cut [4] from 3 to 4 (fun v4 wc => v4 = .bool false ∧ Chg w wc ∧ Ar wc w.heap.size (pt false x y))
 case first =>
  refine regP 2 (fun j v wg => match j with
   | 0 => v = .pointer (some ⟨w.heap.size, 0, none⟩)
   | 1 => v = .bool false
   | _ => True) (by decide) (by kernel_rfl) ?_ ?_ ?_
  ·intro j v u1 u2 h hc; exact h
  ·intro i o ac u hi ho hsz hf hg hc
   have hcs : i = 0 ∨ i = 1 := by omega
   rcases hcs with rfl | rfl <;> (injection ho with ho; subst ho; refine .inl ⟨wanted_none rfl, ?_⟩)
   ·have e1 : ac.eval (.tmp 1) = .pointer (some ⟨w.heap.size, 0, none⟩) := hf 1 (by kernel_rfl)
    exact opG_val (by revert e1; generalize ac.eval = ρ; intro e1; simp [go_sem, execOp, e1]) rfl (Chg.refl _)
   ·have c1 := cellPtZ (Z1.out.2.chg hc)
    have e1 : ac.eval (.tmp 3) = .pointer (some ⟨w.heap.size, 0, none⟩) := hg 0 (by decide) (by decide)
    exact opG_val (by revert e1; generalize ac.eval = ρ; intro e1; simp [go_sem, execOp, e1, c1]) rfl (Chg.refl _)
  ·intro u V hV hc
   have q4 : V 1 = .bool false := hV 1 (by decide)
   go_wp2_with fail
   go_meet
   exact ⟨q4, (Z1.out.1.trans hc), (Z1.out.2.chg hc)⟩
 obtain ⟨rfl, hz⟩ := hcut
 obtain ⟨w2, hw2⟩ : ∃ zz0, zz0 = wc := ⟨_, rfl⟩
 rw [← hw2] at hz ⊢
 have Z2 : Hid _ := hz
 clear hw2 hz Z1
 go_upto_region 3 with fail
 go_cut [2] from 2 to 26 (fun v2 wc => v2 = .bool false ∧ Chg w wc)
 case first =>
  refine regN 20 (fun j v wg => match j with
   | 0 => v = .pointer (some ⟨w.heap.size, 1, none⟩)
   | 1 => v = .agg (num x)
   | 2 => v = .bool false
   | 3 => v = .bool false
   | 4 => v = undef
   | 5 => v = undef
   | 6 => v = undef
   | 7 => v = .bool false
   | 8 => v = .bool false
   | 9 => v = undef
   | 10 => v = undef
   | 11 => v = undef
   | 12 => v = undef
   | 13 => v = undef
   | 14 => v = undef
   | 15 => v = undef
   | 16 => v = undef
   | 17 => v = undef
   | 18 => v = .bool false
   | 19 => v = .bool false
   | _ => True) (by kernel_rfl) (by kernel_rfl) (by kernel_rfl) (by kernel_rfl) ?_ ?_ ?_
  ·intro j v u1 u2 h hc; exact h
  ·intro i o ac u hi ho hsz hf hg hc
   have hcs : i = 0 ∨ i = 1 ∨ i = 2 ∨ i = 3 ∨ i = 4 ∨ i = 5 ∨ i = 6 ∨ i = 7 ∨ i = 8 ∨ i = 9 ∨ i = 10 ∨ i = 11 ∨ i = 12 ∨ i = 13 ∨ i = 14 ∨ i = 15 ∨ i = 16 ∨ i = 17 ∨ i = 18 ∨ i = 19 := by omega
   rcases hcs with rfl | rfl | rfl | rfl | rfl | rfl | rfl | rfl | rfl | rfl | rfl | rfl | rfl | rfl | rfl | rfl | rfl | rfl | rfl | rfl <;> (injection ho with ho; subst ho)
   ·refine .inl ⟨wanted_none rfl, ?_⟩
    have e1 : ac.eval (.tmp 1) = .pointer (some ⟨w.heap.size, 0, none⟩) := hf 1 (by kernel_rfl)
    exact opG_val (by revert e1; generalize ac.eval = ρ; intro e1; simp [go_sem, execOp, e1]) rfl (Chg.refl _)
   ·refine .inl ⟨wanted_none rfl, ?_⟩
    exact ldN rfl (hg 0 (by kernel_rfl) (by decide)) (rangePtX (Z2.out.2.chg hc)) rfl
   ·refine .inl ⟨wanted_none rfl, ?_⟩
    have e1 : ac.eval (.const (.int .i64 2)) = .int .i64 2 := rfl
    have e2 : ac.eval (.tmp 9) = .agg (num x) := hg 1 (by kernel_rfl) (by decide)
    refine opG_go 33 Try.f33 #[.const (.int .i64 2), .tmp 9] #[35, 24] rfl Try.func33 (by kernel_rfl) (by kernel_rfl) (by simp [e1, e2]) (Calls.mono (rightL_any (HN.out.1) HX.out _) ?_)
    rintro r u2 ⟨rfl, hc2⟩
    exact ⟨_, rfl, rfl, hc2⟩
   ·refine .inl ⟨wanted_none rfl, ?_⟩
    have e1 : ac.eval (.tmp 10) = .bool false := hg 2 (by kernel_rfl) (by decide)
    exact opG_val (by simp [execOp, e1]) rfl (Chg.refl _)
   ·exact .inr ⟨wanted_not (T := _) (by kernel_rfl) hsz rfl (by decide : 3 < 20) rfl rfl (hg 3 (by kernel_rfl) (by decide)), rfl⟩
   ·exact .inr ⟨wanted_not (T := _) (by kernel_rfl) hsz rfl (by decide : 3 < 20) rfl rfl (hg 3 (by kernel_rfl) (by decide)), rfl⟩
   ·exact .inr ⟨wanted_not (T := _) (by kernel_rfl) hsz rfl (by decide : 3 < 20) rfl rfl (hg 3 (by kernel_rfl) (by decide)), rfl⟩
   ·refine .inl ⟨wanted_none rfl, ?_⟩
    have e1 : ac.eval (.tmp 11) = .bool false := hg 3 (by kernel_rfl) (by decide)
    have e2 : ac.eval (.tmp 14) = undef := hg 6 (by kernel_rfl) (by decide)
    have e3 : ac.eval (.const (.bool false)) = .bool false := rfl
    exact opG_val (by revert e1 e2 e3; generalize ac.eval = ρ; intro e1 e2 e3; simp [go_sem, execOp, e1, e2, e3]) rfl (Chg.refl _)
   ·refine .inl ⟨wanted_none rfl, ?_⟩
    have e1 : ac.eval (.tmp 15) = .bool false := hg 7 (by kernel_rfl) (by decide)
    exact opG_val (by simp [execOp, e1]) rfl (Chg.refl _)
   ·exact .inr ⟨wanted_not (T := _) (by kernel_rfl) hsz rfl (by decide : 8 < 20) rfl rfl (hg 8 (by kernel_rfl) (by decide)), rfl⟩
   ·exact .inr ⟨wanted_not (T := _) (by kernel_rfl) hsz rfl (by decide : 8 < 20) rfl rfl (hg 8 (by kernel_rfl) (by decide)), rfl⟩
   ·exact .inr ⟨wanted_not (T := _) (by kernel_rfl) hsz rfl (by decide : 8 < 20) rfl rfl (hg 8 (by kernel_rfl) (by decide)), rfl⟩
   ·exact .inr ⟨wanted_not (T := _) (by kernel_rfl) hsz rfl (by decide : 8 < 20) rfl rfl (hg 8 (by kernel_rfl) (by decide)), rfl⟩
   ·exact .inr ⟨wanted_not (T := _) (by kernel_rfl) hsz rfl (by decide : 8 < 20) rfl rfl (hg 8 (by kernel_rfl) (by decide)), rfl⟩
   ·exact .inr ⟨wanted_not (T := _) (by kernel_rfl) hsz rfl (by decide : 8 < 20) rfl rfl (hg 8 (by kernel_rfl) (by decide)), rfl⟩
   ·exact .inr ⟨wanted_not (T := _) (by kernel_rfl) hsz rfl (by decide : 8 < 20) rfl rfl (hg 8 (by kernel_rfl) (by decide)), rfl⟩
   ·exact .inr ⟨wanted_not (T := _) (by kernel_rfl) hsz rfl (by decide : 8 < 20) rfl rfl (hg 8 (by kernel_rfl) (by decide)), rfl⟩
   ·exact .inr ⟨wanted_not (T := _) (by kernel_rfl) hsz rfl (by decide : 8 < 20) rfl rfl (hg 8 (by kernel_rfl) (by decide)), rfl⟩
   ·refine .inl ⟨wanted_none rfl, ?_⟩
    have e1 : ac.eval (.tmp 16) = .bool false := hg 8 (by kernel_rfl) (by decide)
    have e2 : ac.eval (.tmp 25) = undef := hg 17 (by kernel_rfl) (by decide)
    have e3 : ac.eval (.const (.bool false)) = .bool false := rfl
    exact opG_val (by revert e1 e2 e3; generalize ac.eval = ρ; intro e1 e2 e3; simp [go_sem, execOp, e1, e2, e3]) rfl (Chg.refl _)
   ·refine .inl ⟨wanted_none rfl, ?_⟩
    have e1 : ac.eval (.tmp 26) = .bool false := hg 18 (by kernel_rfl) (by decide)
    exact opG_val (by simp [execOp, e1]) rfl (Chg.refl _)
  ·intro u V hV hc
   have q2 : V 19 = .bool false := hV 19 (by decide)
   go_wp2_with fail
   go_meet
   exact ⟨q2, (Z2.out.1.trans hc)⟩
 obtain ⟨rfl, hz⟩ := hcut
 obtain ⟨w3, hw3⟩ : ∃ zz0, zz0 = wc := ⟨_, rfl⟩
 rw [← hw3] at hz ⊢
 have Z3 : Hid _ := hz
 clear hw3 hz Z2
 go_wp2_with fail
 go_ret
 exact ⟨by simp [onR, HX.out], Z3.out⟩
set_option maxHeartbeats 16000000 in
theorem onQ_f2 (x y : Int) (hx : N256 x) (hy : N256 y) (hx' : decide (x < mo 2) = true) (hy' : decide (y < mo 2) = false) (w : World) : Calls Try.prog 13 #[.agg (pt false x y)] w fun r w' => r = .returned (.bool (onR false x y)) ∧ Chg w w' := by
 have HN : Hid (N256 x ∧ N256 y) := ⟨hx, hy⟩
 clear hx hy
 have HX : Hid (decide (x < mo 2) = true) := hx'
 clear hx'
 have HY : Hid (decide (y < mo 2) = false) := hy'
 clear hy'
 have hsA0 := pt_size false x y
 obtain ⟨A0, hA0⟩ : ∃ zz0, zz0 = pt false x y := ⟨_, rfl⟩
 have HA0 : Hid (A0 = pt false x y) := hA0
 rw [← hA0] at hsA0 ⊢
 clear hA0
 go_enter Try.func13, Try.ntmps13
 go_upto_region 1 with fail
 obtain ⟨w1, hw1⟩ : ∃ w1, w1 = w.alloc (.cells A0 26) := ⟨_, rfl⟩
 have Z1 : Hid (Chg w w1 ∧ Ar w1 w.heap.size (pt false x y)) := by
  have hnew0 := Ar.new w (pt false x y) 26
  rw [hw1, HA0.out]
  exact ⟨((Chg.refl w).alloc _), (hnew0)⟩
 rw [← hw1]
 clear hw1 hsA0 HA0
 go_cut [4] from 3 to 4 (fun v4 wc => v4 = .bool false ∧ Chg w wc ∧ Ar wc w.heap.size (pt false x y))
 case first =>
  refine regP 2 (fun j v wg => match j with
   | 0 => v = .pointer (some ⟨w.heap.size, 0, none⟩)
   | 1 => v = .bool false
   | _ => True) (by decide) (by kernel_rfl) ?_ ?_ ?_
  ·intro j v u1 u2 h hc; exact h
  ·intro i o ac u hi ho hsz hf hg hc
   have hcs : i = 0 ∨ i = 1 := by omega
   rcases hcs with rfl | rfl <;> (injection ho with ho; subst ho; refine .inl ⟨wanted_none rfl, ?_⟩)
   ·have e1 : ac.eval (.tmp 1) = .pointer (some ⟨w.heap.size, 0, none⟩) := hf 1 (by kernel_rfl)
    exact opG_val (by revert e1; generalize ac.eval = ρ; intro e1; simp [go_sem, execOp, e1]) rfl (Chg.refl _)
   ·have c1 := cellPtZ (Z1.out.2.chg hc)
    have e1 : ac.eval (.tmp 3) = .pointer (some ⟨w.heap.size, 0, none⟩) := hg 0 (by decide) (by decide)
    exact opG_val (by revert e1; generalize ac.eval = ρ; intro e1; simp [go_sem, execOp, e1, c1]) rfl (Chg.refl _)
  ·intro u V hV hc
   have q4 : V 1 = .bool false := hV 1 (by decide)
   go_wp2_with fail
   go_meet
   exact ⟨q4, (Z1.out.1.trans hc), (Z1.out.2.chg hc)⟩
 obtain ⟨rfl, hz⟩ := hcut
 obtain ⟨w2, hw2⟩ : ∃ zz0, zz0 = wc := ⟨_, rfl⟩
 rw [← hw2] at hz ⊢
 have Z2 : Hid _ := hz
 clear hw2 hz Z1
 go_upto_region 3 with fail
 go_cut [2] from 2 to 26 (fun v2 wc => v2 = .bool false ∧ Chg w wc)
 case first =>
  refine regN 20 (fun j v wg => match j with
   | 0 => v = .pointer (some ⟨w.heap.size, 1, none⟩)
   | 1 => v = .agg (num x)
   | 2 => v = .bool true
   | 3 => v = .bool true
   | 4 => v = .pointer (some ⟨w.heap.size, 5, none⟩)
   | 5 => v = .agg (num y)
   | 6 => v = .bool false
   | 7 => v = .bool false
   | 8 => v = .bool false
   | 9 => v = undef
   | 10 => v = undef
   | 11 => v = undef
   | 12 => v = undef
   | 13 => v = undef
   | 14 => v = undef
   | 15 => v = undef
   | 16 => v = undef
   | 17 => v = undef
   | 18 => v = .bool false
   | 19 => v = .bool false
   | _ => True) (by kernel_rfl) (by kernel_rfl) (by kernel_rfl) (by kernel_rfl) ?_ ?_ ?_
  ·intro j v u1 u2 h hc; exact h
  ·intro i o ac u hi ho hsz hf hg hc
   have hcs : i = 0 ∨ i = 1 ∨ i = 2 ∨ i = 3 ∨ i = 4 ∨ i = 5 ∨ i = 6 ∨ i = 7 ∨ i = 8 ∨ i = 9 ∨ i = 10 ∨ i = 11 ∨ i = 12 ∨ i = 13 ∨ i = 14 ∨ i = 15 ∨ i = 16 ∨ i = 17 ∨ i = 18 ∨ i = 19 := by omega
   rcases hcs with rfl | rfl | rfl | rfl | rfl | rfl | rfl | rfl | rfl | rfl | rfl | rfl | rfl | rfl | rfl | rfl | rfl | rfl | rfl | rfl <;> (injection ho with ho; subst ho)
   ·refine .inl ⟨wanted_none rfl, ?_⟩
    have e1 : ac.eval (.tmp 1) = .pointer (some ⟨w.heap.size, 0, none⟩) := hf 1 (by kernel_rfl)
    exact opG_val (by revert e1; generalize ac.eval = ρ; intro e1; simp [go_sem, execOp, e1]) rfl (Chg.refl _)
   ·refine .inl ⟨wanted_none rfl, ?_⟩
    exact ldN rfl (hg 0 (by kernel_rfl) (by decide)) (rangePtX (Z2.out.2.chg hc)) rfl
   ·refine .inl ⟨wanted_none rfl, ?_⟩
    have e1 : ac.eval (.const (.int .i64 2)) = .int .i64 2 := rfl
    have e2 : ac.eval (.tmp 9) = .agg (num x) := hg 1 (by kernel_rfl) (by decide)
    refine opG_go 33 Try.f33 #[.const (.int .i64 2), .tmp 9] #[35, 24] rfl Try.func33 (by kernel_rfl) (by kernel_rfl) (by simp [e1, e2]) (Calls.mono (rightL_any (HN.out.1) HX.out _) ?_)
    rintro r u2 ⟨rfl, hc2⟩
    exact ⟨_, rfl, rfl, hc2⟩
   ·refine .inl ⟨wanted_none rfl, ?_⟩
    have e1 : ac.eval (.tmp 10) = .bool true := hg 2 (by kernel_rfl) (by decide)
    exact opG_val (by simp [execOp, e1]) rfl (Chg.refl _)
   ·refine .inl ⟨wanted_by (T := _) (by kernel_rfl) hsz rfl (by decide : 3 < 20) rfl (hg 3 (by kernel_rfl) (by decide)), ?_⟩
    have e1 : ac.eval (.tmp 1) = .pointer (some ⟨w.heap.size, 0, none⟩) := hf 1 (by kernel_rfl)
    exact opG_val (by revert e1; generalize ac.eval = ρ; intro e1; simp [go_sem, execOp, e1]) rfl (Chg.refl _)
   ·refine .inl ⟨wanted_by (T := _) (by kernel_rfl) hsz rfl (by decide : 3 < 20) rfl (hg 3 (by kernel_rfl) (by decide)), ?_⟩
    exact ldN rfl (hg 4 (by kernel_rfl) (by decide)) (rangePtY (Z2.out.2.chg hc)) rfl
   ·refine .inl ⟨wanted_by (T := _) (by kernel_rfl) hsz rfl (by decide : 3 < 20) rfl (hg 3 (by kernel_rfl) (by decide)), ?_⟩
    have e1 : ac.eval (.const (.int .i64 2)) = .int .i64 2 := rfl
    have e2 : ac.eval (.tmp 13) = .agg (num y) := hg 5 (by kernel_rfl) (by decide)
    refine opG_go 33 Try.f33 #[.const (.int .i64 2), .tmp 13] #[35, 24] rfl Try.func33 (by kernel_rfl) (by kernel_rfl) (by simp [e1, e2]) (Calls.mono (rightL_any (HN.out.2) HY.out _) ?_)
    rintro r u2 ⟨rfl, hc2⟩
    exact ⟨_, rfl, rfl, hc2⟩
   ·refine .inl ⟨wanted_none rfl, ?_⟩
    have e1 : ac.eval (.tmp 11) = .bool true := hg 3 (by kernel_rfl) (by decide)
    have e2 : ac.eval (.tmp 14) = .bool false := hg 6 (by kernel_rfl) (by decide)
    have e3 : ac.eval (.const (.bool false)) = .bool false := rfl
    exact opG_val (by revert e1 e2 e3; generalize ac.eval = ρ; intro e1 e2 e3; simp [go_sem, execOp, e1, e2, e3]) rfl (Chg.refl _)
   ·refine .inl ⟨wanted_none rfl, ?_⟩
    have e1 : ac.eval (.tmp 15) = .bool false := hg 7 (by kernel_rfl) (by decide)
    exact opG_val (by simp [execOp, e1]) rfl (Chg.refl _)
   ·exact .inr ⟨wanted_not (T := _) (by kernel_rfl) hsz rfl (by decide : 8 < 20) rfl rfl (hg 8 (by kernel_rfl) (by decide)), rfl⟩
   ·exact .inr ⟨wanted_not (T := _) (by kernel_rfl) hsz rfl (by decide : 8 < 20) rfl rfl (hg 8 (by kernel_rfl) (by decide)), rfl⟩
   ·exact .inr ⟨wanted_not (T := _) (by kernel_rfl) hsz rfl (by decide : 8 < 20) rfl rfl (hg 8 (by kernel_rfl) (by decide)), rfl⟩
   ·exact .inr ⟨wanted_not (T := _) (by kernel_rfl) hsz rfl (by decide : 8 < 20) rfl rfl (hg 8 (by kernel_rfl) (by decide)), rfl⟩
   ·exact .inr ⟨wanted_not (T := _) (by kernel_rfl) hsz rfl (by decide : 8 < 20) rfl rfl (hg 8 (by kernel_rfl) (by decide)), rfl⟩
   ·exact .inr ⟨wanted_not (T := _) (by kernel_rfl) hsz rfl (by decide : 8 < 20) rfl rfl (hg 8 (by kernel_rfl) (by decide)), rfl⟩
   ·exact .inr ⟨wanted_not (T := _) (by kernel_rfl) hsz rfl (by decide : 8 < 20) rfl rfl (hg 8 (by kernel_rfl) (by decide)), rfl⟩
   ·exact .inr ⟨wanted_not (T := _) (by kernel_rfl) hsz rfl (by decide : 8 < 20) rfl rfl (hg 8 (by kernel_rfl) (by decide)), rfl⟩
   ·exact .inr ⟨wanted_not (T := _) (by kernel_rfl) hsz rfl (by decide : 8 < 20) rfl rfl (hg 8 (by kernel_rfl) (by decide)), rfl⟩
   ·refine .inl ⟨wanted_none rfl, ?_⟩
    have e1 : ac.eval (.tmp 16) = .bool false := hg 8 (by kernel_rfl) (by decide)
    have e2 : ac.eval (.tmp 25) = undef := hg 17 (by kernel_rfl) (by decide)
    have e3 : ac.eval (.const (.bool false)) = .bool false := rfl
    exact opG_val (by revert e1 e2 e3; generalize ac.eval = ρ; intro e1 e2 e3; simp [go_sem, execOp, e1, e2, e3]) rfl (Chg.refl _)
   ·refine .inl ⟨wanted_none rfl, ?_⟩
    have e1 : ac.eval (.tmp 26) = .bool false := hg 18 (by kernel_rfl) (by decide)
    exact opG_val (by simp [execOp, e1]) rfl (Chg.refl _)
  ·intro u V hV hc
   have q2 : V 19 = .bool false := hV 19 (by decide)
   go_wp2_with fail
   go_meet
   exact ⟨q2, (Z2.out.1.trans hc)⟩
 obtain ⟨rfl, hz⟩ := hcut
 obtain ⟨w3, hw3⟩ : ∃ zz0, zz0 = wc := ⟨_, rfl⟩
 rw [← hw3] at hz ⊢
 have Z3 : Hid _ := hz
 clear hw3 hz Z2
 go_wp2_with fail
 go_ret
 exact ⟨by simp [onR, HX.out, HY.out], Z3.out⟩
set_option maxHeartbeats 16000000 in
theorem onQ_f3 (x y : Int) (hx : N256 x) (hy : N256 y) (hx' : decide (x < mo 2) = true) (hy' : decide (y < mo 2) = true) (w : World) : Calls Try.prog 13 #[.agg (pt false x y)] w fun r w' => r = .returned (.bool (onR false x y)) ∧ Chg w w' := by
 have HN : Hid (N256 x ∧ N256 y) := ⟨hx, hy⟩
 clear hx hy
 have HX : Hid (decide (x < mo 2) = true) := hx'
 clear hx'
 have HY : Hid (decide (y < mo 2) = true) := hy'
 clear hy'
 have hsA0 := pt_size false x y
 obtain ⟨A0, hA0⟩ : ∃ zz0, zz0 = pt false x y := ⟨_, rfl⟩
 have HA0 : Hid (A0 = pt false x y) := hA0
 rw [← hA0] at hsA0 ⊢
 clear hA0
 go_enter Try.func13, Try.ntmps13
 go_upto_region 1 with fail
 obtain ⟨w1, hw1⟩ : ∃ w1, w1 = w.alloc (.cells A0 26) := ⟨_, rfl⟩
 have Z1 : Hid (Chg w w1 ∧ Ar w1 w.heap.size (pt false x y)) := by
  have hnew0 := Ar.new w (pt false x y) 26
  rw [hw1, HA0.out]
  exact ⟨((Chg.refl w).alloc _), (hnew0)⟩
 rw [← hw1]
 clear hw1 hsA0 HA0
 go_cut [4] from 3 to 4 (fun v4 wc => v4 = .bool false ∧ Chg w wc ∧ Ar wc w.heap.size (pt false x y))
 case first =>
  refine regP 2 (fun j v wg => match j with
   | 0 => v = .pointer (some ⟨w.heap.size, 0, none⟩)
   | 1 => v = .bool false
   | _ => True) (by decide) (by kernel_rfl) ?_ ?_ ?_
  ·intro j v u1 u2 h hc; exact h
  ·intro i o ac u hi ho hsz hf hg hc
   have hcs : i = 0 ∨ i = 1 := by omega
   rcases hcs with rfl | rfl <;> (injection ho with ho; subst ho; refine .inl ⟨wanted_none rfl, ?_⟩)
   ·have e1 : ac.eval (.tmp 1) = .pointer (some ⟨w.heap.size, 0, none⟩) := hf 1 (by kernel_rfl)
    exact opG_val (by revert e1; generalize ac.eval = ρ; intro e1; simp [go_sem, execOp, e1]) rfl (Chg.refl _)
   ·have c1 := cellPtZ (Z1.out.2.chg hc)
    have e1 : ac.eval (.tmp 3) = .pointer (some ⟨w.heap.size, 0, none⟩) := hg 0 (by decide) (by decide)
    exact opG_val (by revert e1; generalize ac.eval = ρ; intro e1; simp [go_sem, execOp, e1, c1]) rfl (Chg.refl _)
  ·intro u V hV hc
   have q4 : V 1 = .bool false := hV 1 (by decide)
   go_wp2_with fail
   go_meet
   exact ⟨q4, (Z1.out.1.trans hc), (Z1.out.2.chg hc)⟩
 obtain ⟨rfl, hz⟩ := hcut
 obtain ⟨w2, hw2⟩ : ∃ zz0, zz0 = wc := ⟨_, rfl⟩
 rw [← hw2] at hz ⊢
 have Z2 : Hid _ := hz
 clear hw2 hz Z1
 go_upto_region 3 with fail
 go_cut [2] from 2 to 26 (fun v2 wc => v2 = .bool (decide (md 2 (y * y) = sqv x)) ∧ Chg w wc)
 case first =>
  refine regN 20 (fun j v wg => match j with
   | 0 => v = .pointer (some ⟨w.heap.size, 1, none⟩)
   | 1 => v = .agg (num x)
   | 2 => v = .bool true
   | 3 => v = .bool true
   | 4 => v = .pointer (some ⟨w.heap.size, 5, none⟩)
   | 5 => v = .agg (num y)
   | 6 => v = .bool true
   | 7 => v = .bool true
   | 8 => v = .bool true
   | 9 => v = .pointer (some ⟨w.heap.size, 5, none⟩)
   | 10 => v = .agg (num y)
   | 11 => v = .pointer (some ⟨w.heap.size, 5, none⟩)
   | 12 => v = .agg (num y)
   | 13 => v = .agg (num (md 2 (y * y)))
   | 14 => v = .pointer (some ⟨w.heap.size, 1, none⟩)
   | 15 => v = .agg (num x)
   | 16 => v = .agg (num (sqv x))
   | 17 => v = .bool (decide (md 2 (y * y) = sqv x))
   | 18 => v = .bool (decide (md 2 (y * y) = sqv x))
   | 19 => v = .bool (decide (md 2 (y * y) = sqv x))
   | _ => True) (by kernel_rfl) (by kernel_rfl) (by kernel_rfl) (by kernel_rfl) ?_ ?_ ?_
  ·intro j v u1 u2 h hc; exact h
  ·intro i o ac u hi ho hsz hf hg hc
   have hcs : i = 0 ∨ i = 1 ∨ i = 2 ∨ i = 3 ∨ i = 4 ∨ i = 5 ∨ i = 6 ∨ i = 7 ∨ i = 8 ∨ i = 9 ∨ i = 10 ∨ i = 11 ∨ i = 12 ∨ i = 13 ∨ i = 14 ∨ i = 15 ∨ i = 16 ∨ i = 17 ∨ i = 18 ∨ i = 19 := by omega
   rcases hcs with rfl | rfl | rfl | rfl | rfl | rfl | rfl | rfl | rfl | rfl | rfl | rfl | rfl | rfl | rfl | rfl | rfl | rfl | rfl | rfl <;> (injection ho with ho; subst ho)
   ·refine .inl ⟨wanted_none rfl, ?_⟩
    have e1 : ac.eval (.tmp 1) = .pointer (some ⟨w.heap.size, 0, none⟩) := hf 1 (by kernel_rfl)
    exact opG_val (by revert e1; generalize ac.eval = ρ; intro e1; simp [go_sem, execOp, e1]) rfl (Chg.refl _)
   ·refine .inl ⟨wanted_none rfl, ?_⟩
    exact ldN rfl (hg 0 (by kernel_rfl) (by decide)) (rangePtX (Z2.out.2.chg hc)) rfl
   ·refine .inl ⟨wanted_none rfl, ?_⟩
    have e1 : ac.eval (.const (.int .i64 2)) = .int .i64 2 := rfl
    have e2 : ac.eval (.tmp 9) = .agg (num x) := hg 1 (by kernel_rfl) (by decide)
    refine opG_go 33 Try.f33 #[.const (.int .i64 2), .tmp 9] #[35, 24] rfl Try.func33 (by kernel_rfl) (by kernel_rfl) (by simp [e1, e2]) (Calls.mono (rightL_any (HN.out.1) HX.out _) ?_)
    rintro r u2 ⟨rfl, hc2⟩
    exact ⟨_, rfl, rfl, hc2⟩
   ·refine .inl ⟨wanted_none rfl, ?_⟩
    have e1 : ac.eval (.tmp 10) = .bool true := hg 2 (by kernel_rfl) (by decide)
    exact opG_val (by simp [execOp, e1]) rfl (Chg.refl _)
   ·refine .inl ⟨wanted_by (T := _) (by kernel_rfl) hsz rfl (by decide : 3 < 20) rfl (hg 3 (by kernel_rfl) (by decide)), ?_⟩
    have e1 : ac.eval (.tmp 1) = .pointer (some ⟨w.heap.size, 0, none⟩) := hf 1 (by kernel_rfl)
    exact opG_val (by revert e1; generalize ac.eval = ρ; intro e1; simp [go_sem, execOp, e1]) rfl (Chg.refl _)
   ·refine .inl ⟨wanted_by (T := _) (by kernel_rfl) hsz rfl (by decide : 3 < 20) rfl (hg 3 (by kernel_rfl) (by decide)), ?_⟩
    exact ldN rfl (hg 4 (by kernel_rfl) (by decide)) (rangePtY (Z2.out.2.chg hc)) rfl
   ·refine .inl ⟨wanted_by (T := _) (by kernel_rfl) hsz rfl (by decide : 3 < 20) rfl (hg 3 (by kernel_rfl) (by decide)), ?_⟩
    have e1 : ac.eval (.const (.int .i64 2)) = .int .i64 2 := rfl
    have e2 : ac.eval (.tmp 13) = .agg (num y) := hg 5 (by kernel_rfl) (by decide)
    refine opG_go 33 Try.f33 #[.const (.int .i64 2), .tmp 13] #[35, 24] rfl Try.func33 (by kernel_rfl) (by kernel_rfl) (by simp [e1, e2]) (Calls.mono (rightL_any (HN.out.2) HY.out _) ?_)
    rintro r u2 ⟨rfl, hc2⟩
    exact ⟨_, rfl, rfl, hc2⟩
   ·refine .inl ⟨wanted_none rfl, ?_⟩
    have e1 : ac.eval (.tmp 11) = .bool true := hg 3 (by kernel_rfl) (by decide)
    have e2 : ac.eval (.tmp 14) = .bool true := hg 6 (by kernel_rfl) (by decide)
    have e3 : ac.eval (.const (.bool false)) = .bool false := rfl
    exact opG_val (by revert e1 e2 e3; generalize ac.eval = ρ; intro e1 e2 e3; simp [go_sem, execOp, e1, e2, e3]) rfl (Chg.refl _)
   ·refine .inl ⟨wanted_none rfl, ?_⟩
    have e1 : ac.eval (.tmp 15) = .bool true := hg 7 (by kernel_rfl) (by decide)
    exact opG_val (by simp [execOp, e1]) rfl (Chg.refl _)
   ·refine .inl ⟨wanted_by (T := _) (by kernel_rfl) hsz rfl (by decide : 8 < 20) rfl (hg 8 (by kernel_rfl) (by decide)), ?_⟩
    have e1 : ac.eval (.tmp 1) = .pointer (some ⟨w.heap.size, 0, none⟩) := hf 1 (by kernel_rfl)
    exact opG_val (by revert e1; generalize ac.eval = ρ; intro e1; simp [go_sem, execOp, e1]) rfl (Chg.refl _)
   ·refine .inl ⟨wanted_by (T := _) (by kernel_rfl) hsz rfl (by decide : 8 < 20) rfl (hg 8 (by kernel_rfl) (by decide)), ?_⟩
    exact ldN rfl (hg 9 (by kernel_rfl) (by decide)) (rangePtY (Z2.out.2.chg hc)) rfl
   ·refine .inl ⟨wanted_by (T := _) (by kernel_rfl) hsz rfl (by decide : 8 < 20) rfl (hg 8 (by kernel_rfl) (by decide)), ?_⟩
    have e1 : ac.eval (.tmp 1) = .pointer (some ⟨w.heap.size, 0, none⟩) := hf 1 (by kernel_rfl)
    exact opG_val (by revert e1; generalize ac.eval = ρ; intro e1; simp [go_sem, execOp, e1]) rfl (Chg.refl _)
   ·refine .inl ⟨wanted_by (T := _) (by kernel_rfl) hsz rfl (by decide : 8 < 20) rfl (hg 8 (by kernel_rfl) (by decide)), ?_⟩
    exact ldN rfl (hg 11 (by kernel_rfl) (by decide)) (rangePtY (Z2.out.2.chg hc)) rfl
   ·refine .inl ⟨wanted_by (T := _) (by kernel_rfl) hsz rfl (by decide : 8 < 20) rfl (hg 8 (by kernel_rfl) (by decide)), ?_⟩
    exact oM (.tmp 18) (.tmp 20) rfl (hg 10 (by kernel_rfl) (by decide)) (hg 12 (by kernel_rfl) (by decide)) (HN.out.2) (HN.out.2) fun _ _ => rfl
   ·refine .inl ⟨wanted_by (T := _) (by kernel_rfl) hsz rfl (by decide : 8 < 20) rfl (hg 8 (by kernel_rfl) (by decide)), ?_⟩
    have e1 : ac.eval (.tmp 1) = .pointer (some ⟨w.heap.size, 0, none⟩) := hf 1 (by kernel_rfl)
    exact opG_val (by revert e1; generalize ac.eval = ρ; intro e1; simp [go_sem, execOp, e1]) rfl (Chg.refl _)
   ·refine .inl ⟨wanted_by (T := _) (by kernel_rfl) hsz rfl (by decide : 8 < 20) rfl (hg 8 (by kernel_rfl) (by decide)), ?_⟩
    exact ldN rfl (hg 14 (by kernel_rfl) (by decide)) (rangePtX (Z2.out.2.chg hc)) rfl
   ·refine .inl ⟨wanted_by (T := _) (by kernel_rfl) hsz rfl (by decide : 8 < 20) rfl (hg 8 (by kernel_rfl) (by decide)), ?_⟩
    have e1 : ac.eval (.tmp 23) = .agg (num x) := hg 15 (by kernel_rfl) (by decide)
    refine opG_go 35 Try.f35 #[.tmp 23] #[24] rfl Try.func35 (by kernel_rfl) (by kernel_rfl) (by simp [e1]) (Calls.mono (squareQ_any x (HN.out.1) _) ?_)
    rintro r u2 ⟨rfl, hc2⟩
    exact ⟨_, rfl, rfl, hc2⟩
   ·refine .inl ⟨wanted_by (T := _) (by kernel_rfl) hsz rfl (by decide : 8 < 20) rfl (hg 8 (by kernel_rfl) (by decide)), ?_⟩
    have e1 : ac.eval (.tmp 21) = .agg (num (md 2 (y * y))) := hg 13 (by kernel_rfl) (by decide)
    have e2 : ac.eval (.tmp 24) = .agg (num (sqv x)) := hg 16 (by kernel_rfl) (by decide)
    exact opG_val (by revert e1 e2; generalize ac.eval = ρ; intro e1 e2; simp [go_sem, execOp, e1, e2, run_eqNum (md_N _ _) (sqv_N _)]) rfl (Chg.refl _)
   ·refine .inl ⟨wanted_none rfl, ?_⟩
    have e1 : ac.eval (.tmp 16) = .bool true := hg 8 (by kernel_rfl) (by decide)
    have e2 : ac.eval (.tmp 25) = .bool (decide (md 2 (y * y) = sqv x)) := hg 17 (by kernel_rfl) (by decide)
    have e3 : ac.eval (.const (.bool false)) = .bool false := rfl
    exact opG_val (by revert e1 e2 e3; generalize ac.eval = ρ; intro e1 e2 e3; simp [go_sem, execOp, e1, e2, e3]) rfl (Chg.refl _)
   ·refine .inl ⟨wanted_none rfl, ?_⟩
    have e1 : ac.eval (.tmp 26) = .bool (decide (md 2 (y * y) = sqv x)) := hg 18 (by kernel_rfl) (by decide)
    exact opG_val (by simp [execOp, e1]) rfl (Chg.refl _)
  ·intro u V hV hc
   have q2 : V 19 = .bool (decide (md 2 (y * y) = sqv x)) := hV 19 (by decide)
   go_wp2_with fail
   go_meet
   exact ⟨q2, (Z2.out.1.trans hc)⟩
 obtain ⟨rfl, hz⟩ := hcut
 obtain ⟨w3, hw3⟩ : ∃ zz0, zz0 = wc := ⟨_, rfl⟩
 rw [← hw3] at hz ⊢
 have Z3 : Hid _ := hz
 clear hw3 hz Z2
 go_wp2_with fail
 go_ret
 exact ⟨by simp [onR, HX.out, HY.out], Z3.out⟩
theorem onQ_any (z : Bool) (x y : Int) (hx : N256 x) (hy : N256 y) (w : World) : Calls Try.prog 13 #[.agg (pt z x y)] w fun r w' => r = .returned (.bool (onR z x y)) ∧ Chg w w' := by
 cases z with
 | true => exact onQ_t x y hx hy w
 | false =>
  cases h1 : decide (x < mo 2) with
  | false => exact onQ_f1 x y hx hy h1 w
  | true =>
   cases h2 : decide (y < mo 2) with
   | false => exact onQ_f2 x y hx hy h1 h2 w
   | true => exact onQ_f3 x y hx hy h1 h2 w
end Go.Proofs.Ytbdgmkejmfjobaa
