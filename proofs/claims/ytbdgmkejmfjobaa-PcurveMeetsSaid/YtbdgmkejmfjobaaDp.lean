/-
  Two points together: the document.
-/
import Derived.Test.YtbdgmkejmfjobaaDt
namespace Go.Proofs.Ytbdgmkejmfjobaa
open Go.RowKit
set_option linter.unusedVariables false
set_option maxRecDepth 100000
set_option maxHeartbeats 16000000 in
theorem plusS_1 (x y z x' y' z' : Int) (P Q : PQt) (h1 : JQ x y z P) (h2 : JQ x' y' z' Q) (hd : decide (z = 0) = true) (B : Array Value) (hB : q3 x' y' z' = B) (w : World) : Calls Try.prog 29 #[.agg (q3 x y z), .agg (q3 x' y' z')] w fun r w' => r = .returned (.agg B) ∧ Chg w w' := by
 have H1 : Hid (JQ x y z P) := h1
 have H2 : Hid (JQ x' y' z' Q) := h2
 have HD : Hid (decide (z = 0) = true) := hd
 clear h1 h2 hd
 have HB : Hid (q3 x' y' z' = B) := hB
 clear hB
 have hz0 := zeroTh.1
 have hsA0 := q3_size x y z
 obtain ⟨A0, hA0⟩ : ∃ zz0, zz0 = q3 x y z := ⟨_, rfl⟩
 have HA0 : Hid (A0 = q3 x y z) := hA0
 have hsA1 := q3_size x' y' z'
 obtain ⟨A1, hA1⟩ : ∃ zz0, zz0 = q3 x' y' z' := ⟨_, rfl⟩
 have HA1 : Hid (A1 = q3 x' y' z') := hA1
 rw [← hA0] at hsA0 ⊢
 rw [← hA1] at hsA1 ⊢
 clear hA0 hA1
 go_enter Try.func29, Try.ntmps29
 go_upto_region 1 with fail
 obtain ⟨w1, hw1⟩ : ∃ w1, w1 = ((w.alloc (.cells A0 54)).alloc (.cells A1 54)).alloc (.cells (q3 0 0 0) 54) := ⟨_, rfl⟩
 have Z1 : Hid (Chg w w1 ∧ Ar w1 w.heap.size (q3 x y z) ∧ Ar w1 (w.heap.size + 1) (q3 x' y' z') ∧ Ar w1 (w.heap.size + 1 + 1) (q3 0 0 0)) := by
  have hnew0 := Ar.new w (q3 x y z) 54
  have hnew1 := Ar.new (w.alloc (.cells (q3 x y z) 54)) (q3 x' y' z') 54
  rw [World.size_alloc] at hnew1
  have hnew2 := Ar.new ((w.alloc (.cells (q3 x y z) 54)).alloc (.cells (q3 x' y' z') 54)) (q3 0 0 0) 54
  rw [World.size_alloc, World.size_alloc] at hnew2
  rw [hw1, HA0.out, HA1.out]
  exact ⟨((((Chg.refl w).alloc _).alloc _).alloc _), (((hnew0).alloc _).alloc _), ((hnew1).alloc _), (hnew2)⟩
 rw [← hw1]
 clear hw1 hz0 hsA0 hsA1 HA0 HA1
 go_cut [21] from 18 to 21 (fun v21 wc => v21 = .bool true ∧ Chg w wc ∧ Ar wc (w.heap.size + 1) (q3 x' y' z') ∧ Ar wc (w.heap.size + 1 + 1) (q3 0 0 0))
 case first =>
  refine regP 4 (fun j v wg => match j with
   | 0 => v = .pointer (some ⟨w.heap.size, 8, none⟩)
   | 1 => v = .agg (num z)
   | 2 => v = .agg (num 0)
   | 3 => v = .bool true
   | _ => True) (by decide) (by kernel_rfl) ?_ ?_ ?_
  ·intro j v u1 u2 h hc; exact h
  ·intro i o ac u hi ho hsz hf hg hc
   have hcs : i = 0 ∨ i = 1 ∨ i = 2 ∨ i = 3 := by omega
   rcases hcs with rfl | rfl | rfl | rfl <;> (injection ho with ho; subst ho; refine .inl ⟨wanted_none rfl, ?_⟩)
   ·have e1 : ac.eval (.tmp 2) = .pointer (some ⟨w.heap.size, 0, none⟩) := hf 2 (by kernel_rfl)
    exact opG_val (by revert e1; generalize ac.eval = ρ; intro e1; simp [go_sem, execOp, e1]) rfl (Chg.refl _)
   ·exact ldN rfl (hg 0 (by decide) (by decide)) (rangeq3F2 (Z1.out.2.1.chg hc)) rfl
   ·exact opG_built _ [] rfl (by kernel_rfl) (by kernel_rfl) rfl
   ·have e1 : ac.eval (.tmp 19) = .agg (num z) := hg 1 (by decide) (by decide)
    have e2 : ac.eval (.tmp 20) = .agg (num 0) := hg 2 (by decide) (by decide)
    exact opG_val (by revert e1 e2; generalize ac.eval = ρ; intro e1 e2; simp [go_sem, execOp, e1, e2, run_eqNum (H1.out.nz) n0P, HD.out]) rfl (Chg.refl _)
  ·intro u V hV hc
   have q21 : V 3 = .bool true := hV 3 (by decide)
   go_wp2_with fail
   go_meet
   exact ⟨q21, (Z1.out.1.trans hc), (Z1.out.2.2.1.chg hc), (Z1.out.2.2.2.chg hc)⟩
 obtain ⟨rfl, hz⟩ := hcut
 obtain ⟨w2, hw2⟩ : ∃ zz0, zz0 = wc := ⟨_, rfl⟩
 rw [← hw2] at hz ⊢
 have Z2 : Hid _ := hz
 clear hw2 hz Z1
 go_upto_region 2 with fail
 go_cut [] from 22 to 22 (fun wc => Chg w wc ∧ Ar wc (w.heap.size + 1 + 1) (q3 x' y' z'))
 case first =>
  refine regP 1 (fun j v wg => match j with
   | 0 => v = .agg (q3 x' y' z')
   | _ => True) (by decide) (by kernel_rfl) ?_ ?_ ?_
  ·intro j v u1 u2 h hc; exact h
  ·intro i o ac u hi ho hsz hf hg hc
   have hcs : i = 0 := by omega
   rcases hcs with rfl <;> (injection ho with ho; subst ho; refine .inl ⟨wanted_none rfl, ?_⟩)
   ·have e1 : ac.eval (.tmp 3) = .pointer (some ⟨w.heap.size + 1, 0, none⟩) := hf 3 (by kernel_rfl)
    exact wp_load_mid 54 (.tmp 3) rfl _ _ e1 ((q3 x' y' z').toList) _ (rangeAp (Z2.out.2.1.chg hc)) Try.underlying54 rfl (infoTh _ _ _) ⟨_, rfl, rfl, Chg.refl _⟩
  ·intro u V hV hc
   have q22 : V 0 = .agg (q3 x' y' z') := hV 0 (by decide)
   have hres0 := (Z2.out.2.2.chg hc)
   refine wpList_store_mid rfl 54 (.tmp 4) (.tmp 22) rfl (w.heap.size + 1 + 1) 0 (q3 x' y' z') (by rfl) (Eq.trans (by rfl) q22) (by rw [q3_size]; exact nms_there hres0 0 3 (by omega)) (szTh _ _ _) (q3_one _ _ _) ?_
   rw [setRowTh hres0 _ _ _]
   have k0_c : Chg w (u.setRow (w.heap.size + 1 + 1) (q3 x' y' z')) := ((Z2.out.1.trans hc).setRow (by omega) _)
   have k0_B4 := hres0.row (q3 x' y' z')
   generalize (u.setRow (w.heap.size + 1 + 1) (q3 x' y' z')) = u10 at k0_c k0_B4 ⊢
   go_wp2_with fail
   go_meet
   exact ⟨k0_c, k0_B4⟩
 have hz := hcut
 obtain ⟨w3, hw3⟩ : ∃ zz0, zz0 = wc := ⟨_, rfl⟩
 rw [← hw3] at hz ⊢
 have Z3 : Hid _ := hz
 clear hw3 hz Z2
 go_wp2_with fail
 exact bp_Th Try.results29 rfl rfl Z3.out.2 ⟨by rw [HB.out], Z3.out.1⟩
set_option maxHeartbeats 16000000 in
theorem plusS_2 (x y z x' y' z' : Int) (P Q : PQt) (h1 : JQ x y z P) (h2 : JQ x' y' z' Q) (hd : decide (z = 0) = false) (hd' : decide (z' = 0) = true) (B : Array Value) (hB : q3 x y z = B) (w : World) : Calls Try.prog 29 #[.agg (q3 x y z), .agg (q3 x' y' z')] w fun r w' => r = .returned (.agg B) ∧ Chg w w' := by
 have H1 : Hid (JQ x y z P) := h1
 have H2 : Hid (JQ x' y' z' Q) := h2
 have HD : Hid (decide (z = 0) = false) := hd
 clear h1 h2 hd
 have HE : Hid (decide (z' = 0) = true) := hd'
 clear hd'
 have HB : Hid (q3 x y z = B) := hB
 clear hB
 have hz0 := zeroTh.1
 have hsA0 := q3_size x y z
 obtain ⟨A0, hA0⟩ : ∃ zz0, zz0 = q3 x y z := ⟨_, rfl⟩
 have HA0 : Hid (A0 = q3 x y z) := hA0
 have hsA1 := q3_size x' y' z'
 obtain ⟨A1, hA1⟩ : ∃ zz0, zz0 = q3 x' y' z' := ⟨_, rfl⟩
 have HA1 : Hid (A1 = q3 x' y' z') := hA1
 rw [← hA0] at hsA0 ⊢
 rw [← hA1] at hsA1 ⊢
 clear hA0 hA1
 go_enter Try.func29, Try.ntmps29
 go_upto_region 1 with fail
 obtain ⟨w1, hw1⟩ : ∃ w1, w1 = ((w.alloc (.cells A0 54)).alloc (.cells A1 54)).alloc (.cells (q3 0 0 0) 54) := ⟨_, rfl⟩
 have Z1 : Hid (Chg w w1 ∧ Ar w1 w.heap.size (q3 x y z) ∧ Ar w1 (w.heap.size + 1) (q3 x' y' z') ∧ Ar w1 (w.heap.size + 1 + 1) (q3 0 0 0)) := by
  have hnew0 := Ar.new w (q3 x y z) 54
  have hnew1 := Ar.new (w.alloc (.cells (q3 x y z) 54)) (q3 x' y' z') 54
  rw [World.size_alloc] at hnew1
  have hnew2 := Ar.new ((w.alloc (.cells (q3 x y z) 54)).alloc (.cells (q3 x' y' z') 54)) (q3 0 0 0) 54
  rw [World.size_alloc, World.size_alloc] at hnew2
  rw [hw1, HA0.out, HA1.out]
  exact ⟨((((Chg.refl w).alloc _).alloc _).alloc _), (((hnew0).alloc _).alloc _), ((hnew1).alloc _), (hnew2)⟩
 rw [← hw1]
 clear hw1 hz0 hsA0 hsA1 HA0 HA1
 go_cut [21] from 18 to 21 (fun v21 wc => v21 = .bool false ∧ Chg w wc ∧ Ar wc w.heap.size (q3 x y z) ∧ Ar wc (w.heap.size + 1) (q3 x' y' z') ∧ Ar wc (w.heap.size + 1 + 1) (q3 0 0 0))
 case first =>
  refine regP 4 (fun j v wg => match j with
   | 0 => v = .pointer (some ⟨w.heap.size, 8, none⟩)
   | 1 => v = .agg (num z)
   | 2 => v = .agg (num 0)
   | 3 => v = .bool false
   | _ => True) (by decide) (by kernel_rfl) ?_ ?_ ?_
  ·intro j v u1 u2 h hc; exact h
  ·intro i o ac u hi ho hsz hf hg hc
   have hcs : i = 0 ∨ i = 1 ∨ i = 2 ∨ i = 3 := by omega
   rcases hcs with rfl | rfl | rfl | rfl <;> (injection ho with ho; subst ho; refine .inl ⟨wanted_none rfl, ?_⟩)
   ·have e1 : ac.eval (.tmp 2) = .pointer (some ⟨w.heap.size, 0, none⟩) := hf 2 (by kernel_rfl)
    exact opG_val (by revert e1; generalize ac.eval = ρ; intro e1; simp [go_sem, execOp, e1]) rfl (Chg.refl _)
   ·exact ldN rfl (hg 0 (by decide) (by decide)) (rangeq3F2 (Z1.out.2.1.chg hc)) rfl
   ·exact opG_built _ [] rfl (by kernel_rfl) (by kernel_rfl) rfl
   ·have e1 : ac.eval (.tmp 19) = .agg (num z) := hg 1 (by decide) (by decide)
    have e2 : ac.eval (.tmp 20) = .agg (num 0) := hg 2 (by decide) (by decide)
    exact opG_val (by revert e1 e2; generalize ac.eval = ρ; intro e1 e2; simp [go_sem, execOp, e1, e2, run_eqNum (H1.out.nz) n0P, HD.out]) rfl (Chg.refl _)
  ·intro u V hV hc
   have q21 : V 3 = .bool false := hV 3 (by decide)
   go_wp2_with fail
   go_meet
   exact ⟨q21, (Z1.out.1.trans hc), (Z1.out.2.1.chg hc), (Z1.out.2.2.1.chg hc), (Z1.out.2.2.2.chg hc)⟩
 obtain ⟨rfl, hz⟩ := hcut
 obtain ⟨w2, hw2⟩ : ∃ zz0, zz0 = wc := ⟨_, rfl⟩
 rw [← hw2] at hz ⊢
 have Z2 : Hid _ := hz
 clear hw2 hz Z1
 go_upto_region 3 with fail
 go_cut [26] from 23 to 26 (fun v26 wc => v26 = .bool true ∧ Chg w wc ∧ Ar wc w.heap.size (q3 x y z) ∧ Ar wc (w.heap.size + 1 + 1) (q3 0 0 0))
 case first =>
  refine regP 4 (fun j v wg => match j with
   | 0 => v = .pointer (some ⟨w.heap.size + 1, 8, none⟩)
   | 1 => v = .agg (num z')
   | 2 => v = .agg (num 0)
   | 3 => v = .bool true
   | _ => True) (by decide) (by kernel_rfl) ?_ ?_ ?_
  ·intro j v u1 u2 h hc; exact h
  ·intro i o ac u hi ho hsz hf hg hc
   have hcs : i = 0 ∨ i = 1 ∨ i = 2 ∨ i = 3 := by omega
   rcases hcs with rfl | rfl | rfl | rfl <;> (injection ho with ho; subst ho; refine .inl ⟨wanted_none rfl, ?_⟩)
   ·have e1 : ac.eval (.tmp 3) = .pointer (some ⟨w.heap.size + 1, 0, none⟩) := hf 3 (by kernel_rfl)
    exact opG_val (by revert e1; generalize ac.eval = ρ; intro e1; simp [go_sem, execOp, e1]) rfl (Chg.refl _)
   ·exact ldN rfl (hg 0 (by decide) (by decide)) (rangeq3F2 (Z2.out.2.2.1.chg hc)) rfl
   ·exact opG_built _ [] rfl (by kernel_rfl) (by kernel_rfl) rfl
   ·have e1 : ac.eval (.tmp 24) = .agg (num z') := hg 1 (by decide) (by decide)
    have e2 : ac.eval (.tmp 25) = .agg (num 0) := hg 2 (by decide) (by decide)
    exact opG_val (by revert e1 e2; generalize ac.eval = ρ; intro e1 e2; simp [go_sem, execOp, e1, e2, run_eqNum (H2.out.nz) n0P, HE.out]) rfl (Chg.refl _)
  ·intro u V hV hc
   have q26 : V 3 = .bool true := hV 3 (by decide)
   go_wp2_with fail
   go_meet
   exact ⟨q26, (Z2.out.1.trans hc), (Z2.out.2.1.chg hc), (Z2.out.2.2.2.chg hc)⟩
 obtain ⟨rfl, hz⟩ := hcut
 obtain ⟨w3, hw3⟩ : ∃ zz0, zz0 = wc := ⟨_, rfl⟩
 rw [← hw3] at hz ⊢
 have Z3 : Hid _ := hz
 clear hw3 hz Z2
 go_upto_region 4 with fail
 go_cut [] from 27 to 27 (fun wc => Chg w wc ∧ Ar wc (w.heap.size + 1 + 1) (q3 x y z))
 case first =>
  refine regP 1 (fun j v wg => match j with
   | 0 => v = .agg (q3 x y z)
   | _ => True) (by decide) (by kernel_rfl) ?_ ?_ ?_
  ·intro j v u1 u2 h hc; exact h
  ·intro i o ac u hi ho hsz hf hg hc
   have hcs : i = 0 := by omega
   rcases hcs with rfl <;> (injection ho with ho; subst ho; refine .inl ⟨wanted_none rfl, ?_⟩)
   ·have e1 : ac.eval (.tmp 2) = .pointer (some ⟨w.heap.size, 0, none⟩) := hf 2 (by kernel_rfl)
    exact wp_load_mid 54 (.tmp 2) rfl _ _ e1 ((q3 x y z).toList) _ (rangeAp (Z3.out.2.1.chg hc)) Try.underlying54 rfl (infoTh _ _ _) ⟨_, rfl, rfl, Chg.refl _⟩
  ·intro u V hV hc
   have q27 : V 0 = .agg (q3 x y z) := hV 0 (by decide)
   have hres0 := (Z3.out.2.2.chg hc)
   refine wpList_store_mid rfl 54 (.tmp 4) (.tmp 27) rfl (w.heap.size + 1 + 1) 0 (q3 x y z) (by rfl) (Eq.trans (by rfl) q27) (by rw [q3_size]; exact nms_there hres0 0 3 (by omega)) (szTh _ _ _) (q3_one _ _ _) ?_
   rw [setRowTh hres0 _ _ _]
   have k0_c : Chg w (u.setRow (w.heap.size + 1 + 1) (q3 x y z)) := ((Z3.out.1.trans hc).setRow (by omega) _)
   have k0_B4 := hres0.row (q3 x y z)
   generalize (u.setRow (w.heap.size + 1 + 1) (q3 x y z)) = u10 at k0_c k0_B4 ⊢
   go_wp2_with fail
   go_meet
   exact ⟨k0_c, k0_B4⟩
 have hz := hcut
 obtain ⟨w4, hw4⟩ : ∃ zz0, zz0 = wc := ⟨_, rfl⟩
 rw [← hw4] at hz ⊢
 have Z4 : Hid _ := hz
 clear hw4 hz Z3
 go_wp2_with fail
 exact bp_Th Try.results29 rfl rfl Z4.out.2 ⟨by rw [HB.out], Z4.out.1⟩
set_option maxHeartbeats 16000000 in
theorem plusS_3 (x y z x' y' z' : Int) (P Q : PQt) (h1 : JQ x y z P) (h2 : JQ x' y' z' Q) (hd : decide (z = 0) = false) (hd' : decide (z' = 0) = false) (w : World) : Calls Try.prog 29 #[.agg (q3 x y z), .agg (q3 x' y' z')] w fun r w' => ∃ X Y Z, r = .returned (.agg (q3 X Y Z)) ∧ JQ X Y Z (AW P Q) ∧ Chg w w' := by
 have H1 : Hid (JQ x y z P) := h1
 have H2 : Hid (JQ x' y' z' Q) := h2
 have HD : Hid (decide (z = 0) = false) := hd
 clear h1 h2 hd
 have HE : Hid (decide (z' = 0) = false) := hd'
 clear hd'
 have hz0 := zeroTh.1
 have hsA0 := q3_size x y z
 obtain ⟨A0, hA0⟩ : ∃ zz0, zz0 = q3 x y z := ⟨_, rfl⟩
 have HA0 : Hid (A0 = q3 x y z) := hA0
 have hsA1 := q3_size x' y' z'
 obtain ⟨A1, hA1⟩ : ∃ zz0, zz0 = q3 x' y' z' := ⟨_, rfl⟩
 have HA1 : Hid (A1 = q3 x' y' z') := hA1
 rw [← hA0] at hsA0 ⊢
 rw [← hA1] at hsA1 ⊢
 clear hA0 hA1
 go_enter Try.func29, Try.ntmps29
 go_upto_region 1 with fail
 obtain ⟨w1, hw1⟩ : ∃ w1, w1 = ((w.alloc (.cells A0 54)).alloc (.cells A1 54)).alloc (.cells (q3 0 0 0) 54) := ⟨_, rfl⟩
 have Z1 : Hid (Chg w w1 ∧ Ar w1 w.heap.size (q3 x y z) ∧ Ar w1 (w.heap.size + 1) (q3 x' y' z') ∧ Ar w1 (w.heap.size + 1 + 1) (q3 0 0 0)) := by
  have hnew0 := Ar.new w (q3 x y z) 54
  have hnew1 := Ar.new (w.alloc (.cells (q3 x y z) 54)) (q3 x' y' z') 54
  rw [World.size_alloc] at hnew1
  have hnew2 := Ar.new ((w.alloc (.cells (q3 x y z) 54)).alloc (.cells (q3 x' y' z') 54)) (q3 0 0 0) 54
  rw [World.size_alloc, World.size_alloc] at hnew2
  rw [hw1, HA0.out, HA1.out]
  exact ⟨((((Chg.refl w).alloc _).alloc _).alloc _), (((hnew0).alloc _).alloc _), ((hnew1).alloc _), (hnew2)⟩
 rw [← hw1]
 clear hw1 hz0 hsA0 hsA1 HA0 HA1
 go_cut [21] from 18 to 21 (fun v21 wc => v21 = .bool false ∧ Chg w wc ∧ Ar wc w.heap.size (q3 x y z) ∧ Ar wc (w.heap.size + 1) (q3 x' y' z') ∧ Ar wc (w.heap.size + 1 + 1) (q3 0 0 0))
 case first =>
  refine regP 4 (fun j v wg => match j with
   | 0 => v = .pointer (some ⟨w.heap.size, 8, none⟩)
   | 1 => v = .agg (num z)
   | 2 => v = .agg (num 0)
   | 3 => v = .bool false
   | _ => True) (by decide) (by kernel_rfl) ?_ ?_ ?_
  ·intro j v u1 u2 h hc; exact h
  ·intro i o ac u hi ho hsz hf hg hc
   have hcs : i = 0 ∨ i = 1 ∨ i = 2 ∨ i = 3 := by omega
   rcases hcs with rfl | rfl | rfl | rfl <;> (injection ho with ho; subst ho; refine .inl ⟨wanted_none rfl, ?_⟩)
   ·have e1 : ac.eval (.tmp 2) = .pointer (some ⟨w.heap.size, 0, none⟩) := hf 2 (by kernel_rfl)
    exact opG_val (by revert e1; generalize ac.eval = ρ; intro e1; simp [go_sem, execOp, e1]) rfl (Chg.refl _)
   ·exact ldN rfl (hg 0 (by decide) (by decide)) (rangeq3F2 (Z1.out.2.1.chg hc)) rfl
   ·exact opG_built _ [] rfl (by kernel_rfl) (by kernel_rfl) rfl
   ·have e1 : ac.eval (.tmp 19) = .agg (num z) := hg 1 (by decide) (by decide)
    have e2 : ac.eval (.tmp 20) = .agg (num 0) := hg 2 (by decide) (by decide)
    exact opG_val (by revert e1 e2; generalize ac.eval = ρ; intro e1 e2; simp [go_sem, execOp, e1, e2, run_eqNum (H1.out.nz) n0P, HD.out]) rfl (Chg.refl _)
  ·intro u V hV hc
   have q21 : V 3 = .bool false := hV 3 (by decide)
   go_wp2_with fail
   go_meet
   exact ⟨q21, (Z1.out.1.trans hc), (Z1.out.2.1.chg hc), (Z1.out.2.2.1.chg hc), (Z1.out.2.2.2.chg hc)⟩
 obtain ⟨rfl, hz⟩ := hcut
 obtain ⟨w2, hw2⟩ : ∃ zz0, zz0 = wc := ⟨_, rfl⟩
 rw [← hw2] at hz ⊢
 have Z2 : Hid _ := hz
 clear hw2 hz Z1
 go_upto_region 3 with fail
 go_cut [26] from 23 to 26 (fun v26 wc => v26 = .bool false ∧ Chg w wc ∧ Ar wc w.heap.size (q3 x y z) ∧ Ar wc (w.heap.size + 1) (q3 x' y' z') ∧ Ar wc (w.heap.size + 1 + 1) (q3 0 0 0))
 case first =>
  refine regP 4 (fun j v wg => match j with
   | 0 => v = .pointer (some ⟨w.heap.size + 1, 8, none⟩)
   | 1 => v = .agg (num z')
   | 2 => v = .agg (num 0)
   | 3 => v = .bool false
   | _ => True) (by decide) (by kernel_rfl) ?_ ?_ ?_
  ·intro j v u1 u2 h hc; exact h
  ·intro i o ac u hi ho hsz hf hg hc
   have hcs : i = 0 ∨ i = 1 ∨ i = 2 ∨ i = 3 := by omega
   rcases hcs with rfl | rfl | rfl | rfl <;> (injection ho with ho; subst ho; refine .inl ⟨wanted_none rfl, ?_⟩)
   ·have e1 : ac.eval (.tmp 3) = .pointer (some ⟨w.heap.size + 1, 0, none⟩) := hf 3 (by kernel_rfl)
    exact opG_val (by revert e1; generalize ac.eval = ρ; intro e1; simp [go_sem, execOp, e1]) rfl (Chg.refl _)
   ·exact ldN rfl (hg 0 (by decide) (by decide)) (rangeq3F2 (Z2.out.2.2.1.chg hc)) rfl
   ·exact opG_built _ [] rfl (by kernel_rfl) (by kernel_rfl) rfl
   ·have e1 : ac.eval (.tmp 24) = .agg (num z') := hg 1 (by decide) (by decide)
    have e2 : ac.eval (.tmp 25) = .agg (num 0) := hg 2 (by decide) (by decide)
    exact opG_val (by revert e1 e2; generalize ac.eval = ρ; intro e1 e2; simp [go_sem, execOp, e1, e2, run_eqNum (H2.out.nz) n0P, HE.out]) rfl (Chg.refl _)
  ·intro u V hV hc
   have q26 : V 3 = .bool false := hV 3 (by decide)
   go_wp2_with fail
   go_meet
   exact ⟨q26, (Z2.out.1.trans hc), (Z2.out.2.1.chg hc), (Z2.out.2.2.1.chg hc), (Z2.out.2.2.2.chg hc)⟩
 obtain ⟨rfl, hz⟩ := hcut
 obtain ⟨w3, hw3⟩ : ∃ zz0, zz0 = wc := ⟨_, rfl⟩
 rw [← hw3] at hz ⊢
 have Z3 : Hid _ := hz
 clear hw3 hz Z2
 go_upto_region 5 with fail
 go_cut [5] from 5 to 32 (fun v5 wc => ∃ b5, v5 = .pointer (some ⟨b5, 0, none⟩) ∧ w.heap.size + 1 + 1 ≠ b5 ∧ Chg w wc ∧ Ar wc w.heap.size (q3 x y z) ∧ Ar wc (w.heap.size + 1) (q3 x' y' z') ∧ Ar wc (w.heap.size + 1 + 1) (q3 0 0 0) ∧ Ar wc b5 (num (md 2 (z * z))))
 case first =>
  refine regP 6 (fun j v wg => match j with
   | 0 => v = .pointer (some ⟨w.heap.size, 8, none⟩)
   | 1 => v = .agg (num z)
   | 2 => v = .pointer (some ⟨w.heap.size, 8, none⟩)
   | 3 => v = .agg (num z)
   | 4 => v = .agg (num (md 2 (z * z)))
   | 5 => ∃ b, v = .pointer (some ⟨b, 0, none⟩) ∧ Ar wg b (num 0) ∧ w3.heap.size ≤ b
   | _ => True) (by decide) (by kernel_rfl) ?_ ?_ ?_
  ·intro j v u1 u2 h hc
   match j, h with
   | 0, h => exact h
   | 1, h => exact h
   | 2, h => exact h
   | 3, h => exact h
   | 4, h => exact h
   | 5, h => (obtain ⟨b, h1, h2, h3⟩ := h; exact ⟨b, h1, h2.chg hc, h3⟩)
   | _ + 6, h => exact trivial
  ·intro i o ac u hi ho hsz hf hg hc
   have hcs : i = 0 ∨ i = 1 ∨ i = 2 ∨ i = 3 ∨ i = 4 ∨ i = 5 := by omega
   rcases hcs with rfl | rfl | rfl | rfl | rfl | rfl <;> (injection ho with ho; subst ho; refine .inl ⟨wanted_none rfl, ?_⟩)
   ·have e1 : ac.eval (.tmp 2) = .pointer (some ⟨w.heap.size, 0, none⟩) := hf 2 (by kernel_rfl)
    exact opG_val (by revert e1; generalize ac.eval = ρ; intro e1; simp [go_sem, execOp, e1]) rfl (Chg.refl _)
   ·exact ldN rfl (hg 0 (by decide) (by decide)) (rangeq3F2 (Z3.out.2.1.chg hc)) rfl
   ·have e1 : ac.eval (.tmp 2) = .pointer (some ⟨w.heap.size, 0, none⟩) := hf 2 (by kernel_rfl)
    exact opG_val (by revert e1; generalize ac.eval = ρ; intro e1; simp [go_sem, execOp, e1]) rfl (Chg.refl _)
   ·exact ldN rfl (hg 2 (by decide) (by decide)) (rangeq3F2 (Z3.out.2.1.chg hc)) rfl
   ·exact dM (.tmp 29) (.tmp 31) rfl (hg 1 (by decide) (by decide)) (hg 3 (by decide) (by decide)) (H1.out.nz) (H1.out.nz) fun _ _ => rfl
   ·exact opG_val (v := .pointer (some ⟨u.heap.size, 0, none⟩)) (w' := u.alloc (.cells (num 0) 24)) (by generalize ac.eval = ρ; simp [go_sem, execOp, zero25.1]) ⟨_, rfl, Ar.new _ _ _, hc.size⟩ ((Chg.refl _).alloc _)
  ·intro u V hV hc
   have q32 : V 4 = .agg (num (md 2 (z * z))) := hV 4 (by decide)
   obtain ⟨b5, q5, r5, s5⟩ := hV 5 (by decide)
   have lw5 : w.heap.size ≤ b5 := Nat.le_trans Z3.out.1.size s5
   have hres0 := r5
   refine wpList_store_mid rfl 24 (.tmp 5) (.tmp 32) rfl b5 0 (num (md 2 (z * z))) (Eq.trans (by rfl) q5) (Eq.trans (by rfl) q32) (by rw [num_size]; exact thereN hres0) (szN _) (num_one _) ?_
   rw [setRowN hres0 _]
   have k0_c : Chg w (u.setRow b5 (num (md 2 (z * z)))) := ((Z3.out.1.trans hc).setRow lw5 _)
   have k0_B2 := (Z3.out.2.1.chg hc).rowOther (Z3.out.2.1.apart s5) (num (md 2 (z * z)))
   have k0_B3 := (Z3.out.2.2.1.chg hc).rowOther (Z3.out.2.2.1.apart s5) (num (md 2 (z * z)))
   have k0_B4 := (Z3.out.2.2.2.chg hc).rowOther (Z3.out.2.2.2.apart s5) (num (md 2 (z * z)))
   have k0_B5 := hres0.row (num (md 2 (z * z)))
   generalize (u.setRow b5 (num (md 2 (z * z)))) = u10 at k0_c k0_B2 k0_B3 k0_B4 k0_B5 ⊢
   go_wp2_with fail
   go_meet
   exact ⟨b5, q5, Z3.out.2.2.2.apart s5, k0_c, k0_B2, k0_B3, k0_B4, k0_B5⟩
 obtain ⟨b5, rfl, of0, hz⟩ := hcut
 obtain ⟨w4, hw4⟩ : ∃ zz0, zz0 = wc := ⟨_, rfl⟩
 rw [← hw4] at hz ⊢
 have Z4 : Hid _ := hz
 have O4_0 : Hid _ := of0
 clear hw4 hz of0 Z3
 obtain ⟨e5x4, he5x4⟩ : ∃ zz0, zz0 = md 2 (z * z) := ⟨_, rfl⟩
 have Ee5x4 : Hid (e5x4 = md 2 (z * z)) := he5x4
 have Ne5x4 : Hid (N256 e5x4) := by show N256 e5x4; rw [he5x4]; exact md_N _ _
 rw [← he5x4] at Z4
 clear he5x4
 go_upto_region 6 with fail
 go_cut [6] from 6 to 37 (fun v6 wc => ∃ b6, v6 = .pointer (some ⟨b6, 0, none⟩) ∧ w.heap.size + 1 + 1 ≠ b6 ∧ Chg w wc ∧ Ar wc w.heap.size (q3 x y z) ∧ Ar wc (w.heap.size + 1) (q3 x' y' z') ∧ Ar wc (w.heap.size + 1 + 1) (q3 0 0 0) ∧ Ar wc b5 (num e5x4) ∧ Ar wc b6 (num (md 2 (z' * z'))))
 case first =>
  refine regP 6 (fun j v wg => match j with
   | 0 => v = .pointer (some ⟨w.heap.size + 1, 8, none⟩)
   | 1 => v = .agg (num z')
   | 2 => v = .pointer (some ⟨w.heap.size + 1, 8, none⟩)
   | 3 => v = .agg (num z')
   | 4 => v = .agg (num (md 2 (z' * z')))
   | 5 => ∃ b, v = .pointer (some ⟨b, 0, none⟩) ∧ Ar wg b (num 0) ∧ w4.heap.size ≤ b
   | _ => True) (by decide) (by kernel_rfl) ?_ ?_ ?_
  ·intro j v u1 u2 h hc
   match j, h with
   | 0, h => exact h
   | 1, h => exact h
   | 2, h => exact h
   | 3, h => exact h
   | 4, h => exact h
   | 5, h => (obtain ⟨b, h1, h2, h3⟩ := h; exact ⟨b, h1, h2.chg hc, h3⟩)
   | _ + 6, h => exact trivial
  ·intro i o ac u hi ho hsz hf hg hc
   have hcs : i = 0 ∨ i = 1 ∨ i = 2 ∨ i = 3 ∨ i = 4 ∨ i = 5 := by omega
   rcases hcs with rfl | rfl | rfl | rfl | rfl | rfl <;> (injection ho with ho; subst ho; refine .inl ⟨wanted_none rfl, ?_⟩)
   ·have e1 : ac.eval (.tmp 3) = .pointer (some ⟨w.heap.size + 1, 0, none⟩) := hf 3 (by kernel_rfl)
    exact opG_val (by revert e1; generalize ac.eval = ρ; intro e1; simp [go_sem, execOp, e1]) rfl (Chg.refl _)
   ·exact ldN rfl (hg 0 (by decide) (by decide)) (rangeq3F2 (Z4.out.2.2.1.chg hc)) rfl
   ·have e1 : ac.eval (.tmp 3) = .pointer (some ⟨w.heap.size + 1, 0, none⟩) := hf 3 (by kernel_rfl)
    exact opG_val (by revert e1; generalize ac.eval = ρ; intro e1; simp [go_sem, execOp, e1]) rfl (Chg.refl _)
   ·exact ldN rfl (hg 2 (by decide) (by decide)) (rangeq3F2 (Z4.out.2.2.1.chg hc)) rfl
   ·exact dM (.tmp 34) (.tmp 36) rfl (hg 1 (by decide) (by decide)) (hg 3 (by decide) (by decide)) (H2.out.nz) (H2.out.nz) fun _ _ => rfl
   ·exact opG_val (v := .pointer (some ⟨u.heap.size, 0, none⟩)) (w' := u.alloc (.cells (num 0) 24)) (by generalize ac.eval = ρ; simp [go_sem, execOp, zero25.1]) ⟨_, rfl, Ar.new _ _ _, hc.size⟩ ((Chg.refl _).alloc _)
  ·intro u V hV hc
   have q37 : V 4 = .agg (num (md 2 (z' * z'))) := hV 4 (by decide)
   obtain ⟨b6, q6, r6, s6⟩ := hV 5 (by decide)
   have lw6 : w.heap.size ≤ b6 := Nat.le_trans Z4.out.1.size s6
   have hres0 := r6
   refine wpList_store_mid rfl 24 (.tmp 6) (.tmp 37) rfl b6 0 (num (md 2 (z' * z'))) (Eq.trans (by rfl) q6) (Eq.trans (by rfl) q37) (by rw [num_size]; exact thereN hres0) (szN _) (num_one _) ?_
   rw [setRowN hres0 _]
   have k0_c : Chg w (u.setRow b6 (num (md 2 (z' * z')))) := ((Z4.out.1.trans hc).setRow lw6 _)
   have k0_B2 := (Z4.out.2.1.chg hc).rowOther (Z4.out.2.1.apart s6) (num (md 2 (z' * z')))
   have k0_B3 := (Z4.out.2.2.1.chg hc).rowOther (Z4.out.2.2.1.apart s6) (num (md 2 (z' * z')))
   have k0_B4 := (Z4.out.2.2.2.1.chg hc).rowOther (Z4.out.2.2.2.1.apart s6) (num (md 2 (z' * z')))
   have k0_B5 := (Z4.out.2.2.2.2.chg hc).rowOther (Z4.out.2.2.2.2.apart s6) (num (md 2 (z' * z')))
   have k0_B6 := hres0.row (num (md 2 (z' * z')))
   generalize (u.setRow b6 (num (md 2 (z' * z')))) = u10 at k0_c k0_B2 k0_B3 k0_B4 k0_B5 k0_B6 ⊢
   go_wp2_with fail
   go_meet
   exact ⟨b6, q6, Z4.out.2.2.2.1.apart s6, k0_c, k0_B2, k0_B3, k0_B4, k0_B5, k0_B6⟩
 obtain ⟨b6, rfl, of0, hz⟩ := hcut
 obtain ⟨w5, hw5⟩ : ∃ zz0, zz0 = wc := ⟨_, rfl⟩
 rw [← hw5] at hz ⊢
 have Z5 : Hid _ := hz
 have O5_0 : Hid _ := of0
 clear hw5 hz of0 Z4
 obtain ⟨e6x5, he6x5⟩ : ∃ zz0, zz0 = md 2 (z' * z') := ⟨_, rfl⟩
 have Ee6x5 : Hid (e6x5 = md 2 (z' * z')) := he6x5
 have Ne6x5 : Hid (N256 e6x5) := by show N256 e6x5; rw [he6x5]; exact md_N _ _
 rw [← he6x5] at Z5
 clear he6x5
 go_upto_region 7 with fail
 go_cut [7] from 7 to 41 (fun v7 wc => ∃ b7, v7 = .pointer (some ⟨b7, 0, none⟩) ∧ w.heap.size + 1 + 1 ≠ b7 ∧ Chg w wc ∧ Ar wc w.heap.size (q3 x y z) ∧ Ar wc (w.heap.size + 1) (q3 x' y' z') ∧ Ar wc (w.heap.size + 1 + 1) (q3 0 0 0) ∧ Ar wc b5 (num e5x4) ∧ Ar wc b6 (num e6x5) ∧ Ar wc b7 (num (md 2 (x * e6x5))))
 case first =>
  refine regP 5 (fun j v wg => match j with
   | 0 => v = .pointer (some ⟨w.heap.size, 0, none⟩)
   | 1 => v = .agg (num x)
   | 2 => v = .agg (num e6x5)
   | 3 => v = .agg (num (md 2 (x * e6x5)))
   | 4 => ∃ b, v = .pointer (some ⟨b, 0, none⟩) ∧ Ar wg b (num 0) ∧ w5.heap.size ≤ b
   | _ => True) (by decide) (by kernel_rfl) ?_ ?_ ?_
  ·intro j v u1 u2 h hc
   match j, h with
   | 0, h => exact h
   | 1, h => exact h
   | 2, h => exact h
   | 3, h => exact h
   | 4, h => (obtain ⟨b, h1, h2, h3⟩ := h; exact ⟨b, h1, h2.chg hc, h3⟩)
   | _ + 5, h => exact trivial
  ·intro i o ac u hi ho hsz hf hg hc
   have hcs : i = 0 ∨ i = 1 ∨ i = 2 ∨ i = 3 ∨ i = 4 := by omega
   rcases hcs with rfl | rfl | rfl | rfl | rfl <;> (injection ho with ho; subst ho; refine .inl ⟨wanted_none rfl, ?_⟩)
   ·have e1 : ac.eval (.tmp 2) = .pointer (some ⟨w.heap.size, 0, none⟩) := hf 2 (by kernel_rfl)
    exact opG_val (by revert e1; generalize ac.eval = ρ; intro e1; simp [go_sem, execOp, e1]) rfl (Chg.refl _)
   ·exact ldN rfl (hg 0 (by decide) (by decide)) (rangeq3F0 (Z5.out.2.1.chg hc)) rfl
   ·exact ldN rfl (hf 6 (by kernel_rfl)) (rangeAp (Z5.out.2.2.2.2.2.chg hc)) rfl
   ·exact dM (.tmp 39) (.tmp 40) rfl (hg 1 (by decide) (by decide)) (hg 2 (by decide) (by decide)) (H1.out.nx) (Ne6x5.out) fun _ _ => rfl
   ·exact opG_val (v := .pointer (some ⟨u.heap.size, 0, none⟩)) (w' := u.alloc (.cells (num 0) 24)) (by generalize ac.eval = ρ; simp [go_sem, execOp, zero25.1]) ⟨_, rfl, Ar.new _ _ _, hc.size⟩ ((Chg.refl _).alloc _)
  ·intro u V hV hc
   have q41 : V 3 = .agg (num (md 2 (x * e6x5))) := hV 3 (by decide)
   obtain ⟨b7, q7, r7, s7⟩ := hV 4 (by decide)
   have lw7 : w.heap.size ≤ b7 := Nat.le_trans Z5.out.1.size s7
   have hres0 := r7
   refine wpList_store_mid rfl 24 (.tmp 7) (.tmp 41) rfl b7 0 (num (md 2 (x * e6x5))) (Eq.trans (by rfl) q7) (Eq.trans (by rfl) q41) (by rw [num_size]; exact thereN hres0) (szN _) (num_one _) ?_
   rw [setRowN hres0 _]
   have k0_c : Chg w (u.setRow b7 (num (md 2 (x * e6x5)))) := ((Z5.out.1.trans hc).setRow lw7 _)
   have k0_B2 := (Z5.out.2.1.chg hc).rowOther (Z5.out.2.1.apart s7) (num (md 2 (x * e6x5)))
   have k0_B3 := (Z5.out.2.2.1.chg hc).rowOther (Z5.out.2.2.1.apart s7) (num (md 2 (x * e6x5)))
   have k0_B4 := (Z5.out.2.2.2.1.chg hc).rowOther (Z5.out.2.2.2.1.apart s7) (num (md 2 (x * e6x5)))
   have k0_B5 := (Z5.out.2.2.2.2.1.chg hc).rowOther (Z5.out.2.2.2.2.1.apart s7) (num (md 2 (x * e6x5)))
   have k0_B6 := (Z5.out.2.2.2.2.2.chg hc).rowOther (Z5.out.2.2.2.2.2.apart s7) (num (md 2 (x * e6x5)))
   have k0_B7 := hres0.row (num (md 2 (x * e6x5)))
   generalize (u.setRow b7 (num (md 2 (x * e6x5)))) = u10 at k0_c k0_B2 k0_B3 k0_B4 k0_B5 k0_B6 k0_B7 ⊢
   go_wp2_with fail
   go_meet
   exact ⟨b7, q7, Z5.out.2.2.2.1.apart s7, k0_c, k0_B2, k0_B3, k0_B4, k0_B5, k0_B6, k0_B7⟩
 obtain ⟨b7, rfl, of0, hz⟩ := hcut
 obtain ⟨w6, hw6⟩ : ∃ zz0, zz0 = wc := ⟨_, rfl⟩
 rw [← hw6] at hz ⊢
 have Z6 : Hid _ := hz
 have O6_0 : Hid _ := of0
 clear hw6 hz of0 Z5
 obtain ⟨e7x6, he7x6⟩ : ∃ zz0, zz0 = md 2 (x * e6x5) := ⟨_, rfl⟩
 have Ee7x6 : Hid (e7x6 = md 2 (x * e6x5)) := he7x6
 have Ne7x6 : Hid (N256 e7x6) := by show N256 e7x6; rw [he7x6]; exact md_N _ _
 rw [← he7x6] at Z6
 clear he7x6
 go_upto_region 8 with fail
 go_cut [8] from 8 to 45 (fun v8 wc => ∃ b8, v8 = .pointer (some ⟨b8, 0, none⟩) ∧ w.heap.size + 1 + 1 ≠ b8 ∧ Chg w wc ∧ Ar wc w.heap.size (q3 x y z) ∧ Ar wc (w.heap.size + 1) (q3 x' y' z') ∧ Ar wc (w.heap.size + 1 + 1) (q3 0 0 0) ∧ Ar wc b5 (num e5x4) ∧ Ar wc b6 (num e6x5) ∧ Ar wc b7 (num e7x6) ∧ Ar wc b8 (num (md 2 (x' * e5x4))))
 case first =>
  refine regP 5 (fun j v wg => match j with
   | 0 => v = .pointer (some ⟨w.heap.size + 1, 0, none⟩)
   | 1 => v = .agg (num x')
   | 2 => v = .agg (num e5x4)
   | 3 => v = .agg (num (md 2 (x' * e5x4)))
   | 4 => ∃ b, v = .pointer (some ⟨b, 0, none⟩) ∧ Ar wg b (num 0) ∧ w6.heap.size ≤ b
   | _ => True) (by decide) (by kernel_rfl) ?_ ?_ ?_
  ·intro j v u1 u2 h hc
   match j, h with
   | 0, h => exact h
   | 1, h => exact h
   | 2, h => exact h
   | 3, h => exact h
   | 4, h => (obtain ⟨b, h1, h2, h3⟩ := h; exact ⟨b, h1, h2.chg hc, h3⟩)
   | _ + 5, h => exact trivial
  ·intro i o ac u hi ho hsz hf hg hc
   have hcs : i = 0 ∨ i = 1 ∨ i = 2 ∨ i = 3 ∨ i = 4 := by omega
   rcases hcs with rfl | rfl | rfl | rfl | rfl <;> (injection ho with ho; subst ho; refine .inl ⟨wanted_none rfl, ?_⟩)
   ·have e1 : ac.eval (.tmp 3) = .pointer (some ⟨w.heap.size + 1, 0, none⟩) := hf 3 (by kernel_rfl)
    exact opG_val (by revert e1; generalize ac.eval = ρ; intro e1; simp [go_sem, execOp, e1]) rfl (Chg.refl _)
   ·exact ldN rfl (hg 0 (by decide) (by decide)) (rangeq3F0 (Z6.out.2.2.1.chg hc)) rfl
   ·exact ldN rfl (hf 5 (by kernel_rfl)) (rangeAp (Z6.out.2.2.2.2.1.chg hc)) rfl
   ·exact dM (.tmp 43) (.tmp 44) rfl (hg 1 (by decide) (by decide)) (hg 2 (by decide) (by decide)) (H2.out.nx) (Ne5x4.out) fun _ _ => rfl
   ·exact opG_val (v := .pointer (some ⟨u.heap.size, 0, none⟩)) (w' := u.alloc (.cells (num 0) 24)) (by generalize ac.eval = ρ; simp [go_sem, execOp, zero25.1]) ⟨_, rfl, Ar.new _ _ _, hc.size⟩ ((Chg.refl _).alloc _)
  ·intro u V hV hc
   have q45 : V 3 = .agg (num (md 2 (x' * e5x4))) := hV 3 (by decide)
   obtain ⟨b8, q8, r8, s8⟩ := hV 4 (by decide)
   have lw8 : w.heap.size ≤ b8 := Nat.le_trans Z6.out.1.size s8
   have hres0 := r8
   refine wpList_store_mid rfl 24 (.tmp 8) (.tmp 45) rfl b8 0 (num (md 2 (x' * e5x4))) (Eq.trans (by rfl) q8) (Eq.trans (by rfl) q45) (by rw [num_size]; exact thereN hres0) (szN _) (num_one _) ?_
   rw [setRowN hres0 _]
   have k0_c : Chg w (u.setRow b8 (num (md 2 (x' * e5x4)))) := ((Z6.out.1.trans hc).setRow lw8 _)
   have k0_B2 := (Z6.out.2.1.chg hc).rowOther (Z6.out.2.1.apart s8) (num (md 2 (x' * e5x4)))
   have k0_B3 := (Z6.out.2.2.1.chg hc).rowOther (Z6.out.2.2.1.apart s8) (num (md 2 (x' * e5x4)))
   have k0_B4 := (Z6.out.2.2.2.1.chg hc).rowOther (Z6.out.2.2.2.1.apart s8) (num (md 2 (x' * e5x4)))
   have k0_B5 := (Z6.out.2.2.2.2.1.chg hc).rowOther (Z6.out.2.2.2.2.1.apart s8) (num (md 2 (x' * e5x4)))
   have k0_B6 := (Z6.out.2.2.2.2.2.1.chg hc).rowOther (Z6.out.2.2.2.2.2.1.apart s8) (num (md 2 (x' * e5x4)))
   have k0_B7 := (Z6.out.2.2.2.2.2.2.chg hc).rowOther (Z6.out.2.2.2.2.2.2.apart s8) (num (md 2 (x' * e5x4)))
   have k0_B8 := hres0.row (num (md 2 (x' * e5x4)))
   generalize (u.setRow b8 (num (md 2 (x' * e5x4)))) = u10 at k0_c k0_B2 k0_B3 k0_B4 k0_B5 k0_B6 k0_B7 k0_B8 ⊢
   go_wp2_with fail
   go_meet
   exact ⟨b8, q8, Z6.out.2.2.2.1.apart s8, k0_c, k0_B2, k0_B3, k0_B4, k0_B5, k0_B6, k0_B7, k0_B8⟩
 obtain ⟨b8, rfl, of0, hz⟩ := hcut
 obtain ⟨w7, hw7⟩ : ∃ zz0, zz0 = wc := ⟨_, rfl⟩
 rw [← hw7] at hz ⊢
 have Z7 : Hid _ := hz
 have O7_0 : Hid _ := of0
 clear hw7 hz of0 Z6
 obtain ⟨e8x7, he8x7⟩ : ∃ zz0, zz0 = md 2 (x' * e5x4) := ⟨_, rfl⟩
 have Ee8x7 : Hid (e8x7 = md 2 (x' * e5x4)) := he8x7
 have Ne8x7 : Hid (N256 e8x7) := by show N256 e8x7; rw [he8x7]; exact md_N _ _
 rw [← he8x7] at Z7
 clear he8x7
 go_upto_region 9 with fail
 go_cut [9] from 9 to 52 (fun v9 wc => ∃ b9, v9 = .pointer (some ⟨b9, 0, none⟩) ∧ w.heap.size + 1 + 1 ≠ b9 ∧ Chg w wc ∧ Ar wc w.heap.size (q3 x y z) ∧ Ar wc (w.heap.size + 1) (q3 x' y' z') ∧ Ar wc (w.heap.size + 1 + 1) (q3 0 0 0) ∧ Ar wc b5 (num e5x4) ∧ Ar wc b7 (num e7x6) ∧ Ar wc b8 (num e8x7) ∧ Ar wc b9 (num (md 2 (y * (md 2 (e6x5 * z'))))))
 case first =>
  refine regM 8 (fun j => j == 7) (fun j v wg => match j with
   | 0 => v = .pointer (some ⟨w.heap.size, 4, none⟩)
   | 1 => v = .agg (num y)
   | 2 => v = .agg (num e6x5)
   | 3 => v = .pointer (some ⟨w.heap.size + 1, 8, none⟩)
   | 4 => v = .agg (num z')
   | 5 => v = .agg (num (md 2 (e6x5 * z')))
   | 6 => v = .agg (num (md 2 (y * (md 2 (e6x5 * z')))))
   | 7 => ∃ b, v = .pointer (some ⟨b, 0, none⟩) ∧ Ar wg b (num 0) ∧ w7.heap.size ≤ b
   | _ => True) (by kernel_rfl) (by decide) (by kernel_rfl) (by kernel_rfl) (by kernel_rfl) (by kernel_rfl) ?_ ?_ ?_ ?_
  ·intro j v u1 u2 h hc
   match j, h with
   | 0, h => exact h
   | 1, h => exact h
   | 2, h => exact h
   | 3, h => exact h
   | 4, h => exact h
   | 5, h => exact h
   | 6, h => exact h
   | 7, h => (obtain ⟨b, h1, h2, h3⟩ := h; exact ⟨b, h1, h2.chg hc, h3⟩)
   | _ + 8, h => exact trivial
  ·intro j v u hj ha h
   have hcs : j = 7 := by simpa [or_assoc] using ha
   rcases hcs with rfl
   ·obtain ⟨b, h1, h2, h3⟩ := h; exact ⟨b, h1, h2.lt⟩
  ·intro i o ac u hi ho hsz hf hg hc
   have hcs : i = 0 ∨ i = 1 ∨ i = 2 ∨ i = 3 ∨ i = 4 ∨ i = 5 ∨ i = 6 ∨ i = 7 := by omega
   rcases hcs with rfl | rfl | rfl | rfl | rfl | rfl | rfl | rfl <;> (injection ho with ho; subst ho; refine ⟨wanted_none rfl, ?_⟩)
   ·have e1 : ac.eval (.tmp 2) = .pointer (some ⟨w.heap.size, 0, none⟩) := hf 2 (by kernel_rfl)
    exact opG_val (by revert e1; generalize ac.eval = ρ; intro e1; simp [go_sem, execOp, e1]) ⟨rfl, fun h => by cases h⟩ (Chg.refl _)
   ·exact ldN rfl (hg 0 (by kernel_rfl) (by decide)) (rangeq3F1 (Z7.out.2.1.chg hc)) ⟨rfl, fun h => by cases h⟩
   ·exact ldN rfl (hf 6 (by kernel_rfl)) (rangeAp (Z7.out.2.2.2.2.2.1.chg hc)) ⟨rfl, fun h => by cases h⟩
   ·have e1 : ac.eval (.tmp 3) = .pointer (some ⟨w.heap.size + 1, 0, none⟩) := hf 3 (by kernel_rfl)
    exact opG_val (by revert e1; generalize ac.eval = ρ; intro e1; simp [go_sem, execOp, e1]) ⟨rfl, fun h => by cases h⟩ (Chg.refl _)
   ·exact ldN rfl (hg 3 (by kernel_rfl) (by decide)) (rangeq3F2 (Z7.out.2.2.1.chg hc)) ⟨rfl, fun h => by cases h⟩
   ·exact dM (.tmp 48) (.tmp 50) rfl (hg 2 (by kernel_rfl) (by decide)) (hg 4 (by kernel_rfl) (by decide)) (Ne6x5.out) (H2.out.nz) fun _ _ => ⟨rfl, fun h => by cases h⟩
   ·exact dM (.tmp 47) (.tmp 51) rfl (hg 1 (by kernel_rfl) (by decide)) (hg 5 (by kernel_rfl) (by decide)) (H1.out.ny) (md_N _ _) fun _ _ => ⟨rfl, fun h => by cases h⟩
   ·exact opG_val (v := .pointer (some ⟨u.heap.size, 0, none⟩)) (w' := u.alloc (.cells (num 0) 24)) (by generalize ac.eval = ρ; simp [go_sem, execOp, zero25.1]) ⟨⟨_, rfl, Ar.new _ _ _, hc.size⟩, fun _ => rfl⟩ ((Chg.refl _).alloc _)
  ·intro u V hV hap hc
   have q52 : V 6 = .agg (num (md 2 (y * (md 2 (e6x5 * z'))))) := hV 6 (by decide)
   obtain ⟨b9, q9, r9, s9⟩ := hV 7 (by decide)
   have lw9 : w.heap.size ≤ b9 := Nat.le_trans Z7.out.1.size s9
   have hres0 := r9
   refine tail_cons rfl rfl ?_
   refine wp_store_mid 24 (.tmp 9) (.tmp 52) rfl b9 0 (num (md 2 (y * (md 2 (e6x5 * z'))))) (Eq.trans (by rfl) q9) (Eq.trans (by rfl) q52) (by rw [num_size]; exact thereN hres0) (szN _) (num_one _) ?_
   rw [setRowN hres0 _]
   have k0_c : Chg w (u.setRow b9 (num (md 2 (y * (md 2 (e6x5 * z')))))) := ((Z7.out.1.trans hc).setRow lw9 _)
   have k0_B2 := (Z7.out.2.1.chg hc).rowOther (Z7.out.2.1.apart s9) (num (md 2 (y * (md 2 (e6x5 * z')))))
   have k0_B3 := (Z7.out.2.2.1.chg hc).rowOther (Z7.out.2.2.1.apart s9) (num (md 2 (y * (md 2 (e6x5 * z')))))
   have k0_B4 := (Z7.out.2.2.2.1.chg hc).rowOther (Z7.out.2.2.2.1.apart s9) (num (md 2 (y * (md 2 (e6x5 * z')))))
   have k0_B5 := (Z7.out.2.2.2.2.1.chg hc).rowOther (Z7.out.2.2.2.2.1.apart s9) (num (md 2 (y * (md 2 (e6x5 * z')))))
   have k0_B7 := (Z7.out.2.2.2.2.2.2.1.chg hc).rowOther (Z7.out.2.2.2.2.2.2.1.apart s9) (num (md 2 (y * (md 2 (e6x5 * z')))))
   have k0_B8 := (Z7.out.2.2.2.2.2.2.2.chg hc).rowOther (Z7.out.2.2.2.2.2.2.2.apart s9) (num (md 2 (y * (md 2 (e6x5 * z')))))
   have k0_B9 := hres0.row (num (md 2 (y * (md 2 (e6x5 * z')))))
   generalize (u.setRow b9 (num (md 2 (y * (md 2 (e6x5 * z')))))) = u10 at k0_c k0_B2 k0_B3 k0_B4 k0_B5 k0_B7 k0_B8 k0_B9 ⊢
   refine tail_nil rfl ?_
   go_wp2_with fail
   go_meet
   exact ⟨b9, q9, Z7.out.2.2.2.1.apart s9, k0_c, k0_B2, k0_B3, k0_B4, k0_B5, k0_B7, k0_B8, k0_B9⟩
 obtain ⟨b9, rfl, of0, hz⟩ := hcut
 obtain ⟨w8, hw8⟩ : ∃ zz0, zz0 = wc := ⟨_, rfl⟩
 rw [← hw8] at hz ⊢
 have Z8 : Hid _ := hz
 have O8_0 : Hid _ := of0
 clear hw8 hz of0 Z7
 obtain ⟨e9x8, he9x8⟩ : ∃ zz0, zz0 = md 2 (y * (md 2 (e6x5 * z'))) := ⟨_, rfl⟩
 have Ee9x8 : Hid (e9x8 = md 2 (y * (md 2 (e6x5 * z')))) := he9x8
 have Ne9x8 : Hid (N256 e9x8) := by show N256 e9x8; rw [he9x8]; exact md_N _ _
 rw [← he9x8] at Z8
 clear he9x8
 go_upto_region 10 with fail
 go_cut [10] from 10 to 59 (fun v10 wc => ∃ b10, v10 = .pointer (some ⟨b10, 0, none⟩) ∧ w.heap.size + 1 + 1 ≠ b10 ∧ Chg w wc ∧ Ar wc w.heap.size (q3 x y z) ∧ Ar wc (w.heap.size + 1) (q3 x' y' z') ∧ Ar wc (w.heap.size + 1 + 1) (q3 0 0 0) ∧ Ar wc b7 (num e7x6) ∧ Ar wc b8 (num e8x7) ∧ Ar wc b9 (num e9x8) ∧ Ar wc b10 (num (md 2 (y' * (md 2 (e5x4 * z))))))
 case first =>
  refine regM 8 (fun j => j == 7) (fun j v wg => match j with
   | 0 => v = .pointer (some ⟨w.heap.size + 1, 4, none⟩)
   | 1 => v = .agg (num y')
   | 2 => v = .agg (num e5x4)
   | 3 => v = .pointer (some ⟨w.heap.size, 8, none⟩)
   | 4 => v = .agg (num z)
   | 5 => v = .agg (num (md 2 (e5x4 * z)))
   | 6 => v = .agg (num (md 2 (y' * (md 2 (e5x4 * z)))))
   | 7 => ∃ b, v = .pointer (some ⟨b, 0, none⟩) ∧ Ar wg b (num 0) ∧ w8.heap.size ≤ b
   | _ => True) (by kernel_rfl) (by decide) (by kernel_rfl) (by kernel_rfl) (by kernel_rfl) (by kernel_rfl) ?_ ?_ ?_ ?_
  ·intro j v u1 u2 h hc
   match j, h with
   | 0, h => exact h
   | 1, h => exact h
   | 2, h => exact h
   | 3, h => exact h
   | 4, h => exact h
   | 5, h => exact h
   | 6, h => exact h
   | 7, h => (obtain ⟨b, h1, h2, h3⟩ := h; exact ⟨b, h1, h2.chg hc, h3⟩)
   | _ + 8, h => exact trivial
  ·intro j v u hj ha h
   have hcs : j = 7 := by simpa [or_assoc] using ha
   rcases hcs with rfl
   ·obtain ⟨b, h1, h2, h3⟩ := h; exact ⟨b, h1, h2.lt⟩
  ·intro i o ac u hi ho hsz hf hg hc
   have hcs : i = 0 ∨ i = 1 ∨ i = 2 ∨ i = 3 ∨ i = 4 ∨ i = 5 ∨ i = 6 ∨ i = 7 := by omega
   rcases hcs with rfl | rfl | rfl | rfl | rfl | rfl | rfl | rfl <;> (injection ho with ho; subst ho; refine ⟨wanted_none rfl, ?_⟩)
   ·have e1 : ac.eval (.tmp 3) = .pointer (some ⟨w.heap.size + 1, 0, none⟩) := hf 3 (by kernel_rfl)
    exact opG_val (by revert e1; generalize ac.eval = ρ; intro e1; simp [go_sem, execOp, e1]) ⟨rfl, fun h => by cases h⟩ (Chg.refl _)
   ·exact ldN rfl (hg 0 (by kernel_rfl) (by decide)) (rangeq3F1 (Z8.out.2.2.1.chg hc)) ⟨rfl, fun h => by cases h⟩
   ·exact ldN rfl (hf 5 (by kernel_rfl)) (rangeAp (Z8.out.2.2.2.2.1.chg hc)) ⟨rfl, fun h => by cases h⟩
   ·have e1 : ac.eval (.tmp 2) = .pointer (some ⟨w.heap.size, 0, none⟩) := hf 2 (by kernel_rfl)
    exact opG_val (by revert e1; generalize ac.eval = ρ; intro e1; simp [go_sem, execOp, e1]) ⟨rfl, fun h => by cases h⟩ (Chg.refl _)
   ·exact ldN rfl (hg 3 (by kernel_rfl) (by decide)) (rangeq3F2 (Z8.out.2.1.chg hc)) ⟨rfl, fun h => by cases h⟩
   ·exact dM (.tmp 55) (.tmp 57) rfl (hg 2 (by kernel_rfl) (by decide)) (hg 4 (by kernel_rfl) (by decide)) (Ne5x4.out) (H1.out.nz) fun _ _ => ⟨rfl, fun h => by cases h⟩
   ·exact dM (.tmp 54) (.tmp 58) rfl (hg 1 (by kernel_rfl) (by decide)) (hg 5 (by kernel_rfl) (by decide)) (H2.out.ny) (md_N _ _) fun _ _ => ⟨rfl, fun h => by cases h⟩
   ·exact opG_val (v := .pointer (some ⟨u.heap.size, 0, none⟩)) (w' := u.alloc (.cells (num 0) 24)) (by generalize ac.eval = ρ; simp [go_sem, execOp, zero25.1]) ⟨⟨_, rfl, Ar.new _ _ _, hc.size⟩, fun _ => rfl⟩ ((Chg.refl _).alloc _)
  ·intro u V hV hap hc
   have q59 : V 6 = .agg (num (md 2 (y' * (md 2 (e5x4 * z))))) := hV 6 (by decide)
   obtain ⟨b10, q10, r10, s10⟩ := hV 7 (by decide)
   have lw10 : w.heap.size ≤ b10 := Nat.le_trans Z8.out.1.size s10
   have hres0 := r10
   refine tail_cons rfl rfl ?_
   refine wp_store_mid 24 (.tmp 10) (.tmp 59) rfl b10 0 (num (md 2 (y' * (md 2 (e5x4 * z))))) (Eq.trans (by rfl) q10) (Eq.trans (by rfl) q59) (by rw [num_size]; exact thereN hres0) (szN _) (num_one _) ?_
   rw [setRowN hres0 _]
   have k0_c : Chg w (u.setRow b10 (num (md 2 (y' * (md 2 (e5x4 * z)))))) := ((Z8.out.1.trans hc).setRow lw10 _)
   have k0_B2 := (Z8.out.2.1.chg hc).rowOther (Z8.out.2.1.apart s10) (num (md 2 (y' * (md 2 (e5x4 * z)))))
   have k0_B3 := (Z8.out.2.2.1.chg hc).rowOther (Z8.out.2.2.1.apart s10) (num (md 2 (y' * (md 2 (e5x4 * z)))))
   have k0_B4 := (Z8.out.2.2.2.1.chg hc).rowOther (Z8.out.2.2.2.1.apart s10) (num (md 2 (y' * (md 2 (e5x4 * z)))))
   have k0_B7 := (Z8.out.2.2.2.2.2.1.chg hc).rowOther (Z8.out.2.2.2.2.2.1.apart s10) (num (md 2 (y' * (md 2 (e5x4 * z)))))
   have k0_B8 := (Z8.out.2.2.2.2.2.2.1.chg hc).rowOther (Z8.out.2.2.2.2.2.2.1.apart s10) (num (md 2 (y' * (md 2 (e5x4 * z)))))
   have k0_B9 := (Z8.out.2.2.2.2.2.2.2.chg hc).rowOther (Z8.out.2.2.2.2.2.2.2.apart s10) (num (md 2 (y' * (md 2 (e5x4 * z)))))
   have k0_B10 := hres0.row (num (md 2 (y' * (md 2 (e5x4 * z)))))
   generalize (u.setRow b10 (num (md 2 (y' * (md 2 (e5x4 * z)))))) = u10 at k0_c k0_B2 k0_B3 k0_B4 k0_B7 k0_B8 k0_B9 k0_B10 ⊢
   refine tail_nil rfl ?_
   go_wp2_with fail
   go_meet
   exact ⟨b10, q10, Z8.out.2.2.2.1.apart s10, k0_c, k0_B2, k0_B3, k0_B4, k0_B7, k0_B8, k0_B9, k0_B10⟩
 obtain ⟨b10, rfl, of0, hz⟩ := hcut
 obtain ⟨w9, hw9⟩ : ∃ zz0, zz0 = wc := ⟨_, rfl⟩
 rw [← hw9] at hz ⊢
 have Z9 : Hid _ := hz
 have O9_0 : Hid _ := of0
 clear hw9 hz of0 Z8
 obtain ⟨e10x9, he10x9⟩ : ∃ zz0, zz0 = md 2 (y' * (md 2 (e5x4 * z))) := ⟨_, rfl⟩
 have Ee10x9 : Hid (e10x9 = md 2 (y' * (md 2 (e5x4 * z)))) := he10x9
 have Ne10x9 : Hid (N256 e10x9) := by show N256 e10x9; rw [he10x9]; exact md_N _ _
 rw [← he10x9] at Z9
 clear he10x9
 obtain ⟨bu, hbu⟩ : ∃ bu, decide (e7x6 = e8x7) = bu := ⟨_, rfl⟩
 have HU : Hid (decide (e7x6 = e8x7) = bu) := hbu
 clear hbu
 cases bu
 case false =>
  go_upto_region 11 with fail
  go_cut [62] from 60 to 62 (fun v62 wc => v62 = .bool false ∧ Chg w wc ∧ Ar wc w.heap.size (q3 x y z) ∧ Ar wc (w.heap.size + 1) (q3 x' y' z') ∧ Ar wc (w.heap.size + 1 + 1) (q3 0 0 0) ∧ Ar wc b7 (num e7x6) ∧ Ar wc b8 (num e8x7) ∧ Ar wc b9 (num e9x8) ∧ Ar wc b10 (num e10x9))
  case first =>
   refine regP 3 (fun j v wg => match j with
    | 0 => v = .agg (num e7x6)
    | 1 => v = .agg (num e8x7)
    | 2 => v = .bool false
    | _ => True) (by decide) (by kernel_rfl) ?_ ?_ ?_
   ·intro j v u1 u2 h hc; exact h
   ·intro i o ac u hi ho hsz hf hg hc
    have hcs : i = 0 ∨ i = 1 ∨ i = 2 := by omega
    rcases hcs with rfl | rfl | rfl <;> (injection ho with ho; subst ho; refine .inl ⟨wanted_none rfl, ?_⟩)
    ·exact ldN rfl (hf 7 (by kernel_rfl)) (rangeAp (Z9.out.2.2.2.2.1.chg hc)) rfl
    ·exact ldN rfl (hf 8 (by kernel_rfl)) (rangeAp (Z9.out.2.2.2.2.2.1.chg hc)) rfl
    ·have e1 : ac.eval (.tmp 60) = .agg (num e7x6) := hg 0 (by decide) (by decide)
     have e2 : ac.eval (.tmp 61) = .agg (num e8x7) := hg 1 (by decide) (by decide)
     exact opG_val (by revert e1 e2; generalize ac.eval = ρ; intro e1 e2; simp [go_sem, execOp, e1, e2, run_eqNum (Ne7x6.out) (Ne8x7.out), HU.out]) rfl (Chg.refl _)
   ·intro u V hV hc
    have q62 : V 2 = .bool false := hV 2 (by decide)
    go_wp2_with fail
    go_meet
    exact ⟨q62, (Z9.out.1.trans hc), (Z9.out.2.1.chg hc), (Z9.out.2.2.1.chg hc), (Z9.out.2.2.2.1.chg hc), (Z9.out.2.2.2.2.1.chg hc), (Z9.out.2.2.2.2.2.1.chg hc), (Z9.out.2.2.2.2.2.2.1.chg hc), (Z9.out.2.2.2.2.2.2.2.chg hc)⟩
  obtain ⟨rfl, hz⟩ := hcut
  obtain ⟨w10, hw10⟩ : ∃ zz0, zz0 = wc := ⟨_, rfl⟩
  rw [← hw10] at hz ⊢
  have Z10 : Hid _ := hz
  clear hw10 hz Z9
  go_upto_region 15 with fail
  go_cut [11] from 11 to 73 (fun v11 wc => ∃ b11, v11 = .pointer (some ⟨b11, 0, none⟩) ∧ w.heap.size + 1 + 1 ≠ b11 ∧ Chg w wc ∧ Ar wc w.heap.size (q3 x y z) ∧ Ar wc (w.heap.size + 1) (q3 x' y' z') ∧ Ar wc (w.heap.size + 1 + 1) (q3 0 0 0) ∧ Ar wc b7 (num e7x6) ∧ Ar wc b9 (num e9x8) ∧ Ar wc b10 (num e10x9) ∧ Ar wc b11 (num (md 2 (e8x7 - e7x6))))
  case first =>
   refine regP 4 (fun j v wg => match j with
    | 0 => v = .agg (num e8x7)
    | 1 => v = .agg (num e7x6)
    | 2 => v = .agg (num (md 2 (e8x7 - e7x6)))
    | 3 => ∃ b, v = .pointer (some ⟨b, 0, none⟩) ∧ Ar wg b (num 0) ∧ w10.heap.size ≤ b
    | _ => True) (by decide) (by kernel_rfl) ?_ ?_ ?_
   ·intro j v u1 u2 h hc
    match j, h with
    | 0, h => exact h
    | 1, h => exact h
    | 2, h => exact h
    | 3, h => (obtain ⟨b, h1, h2, h3⟩ := h; exact ⟨b, h1, h2.chg hc, h3⟩)
    | _ + 4, h => exact trivial
   ·intro i o ac u hi ho hsz hf hg hc
    have hcs : i = 0 ∨ i = 1 ∨ i = 2 ∨ i = 3 := by omega
    rcases hcs with rfl | rfl | rfl | rfl <;> (injection ho with ho; subst ho; refine .inl ⟨wanted_none rfl, ?_⟩)
    ·exact ldN rfl (hf 8 (by kernel_rfl)) (rangeAp (Z10.out.2.2.2.2.2.1.chg hc)) rfl
    ·exact ldN rfl (hf 7 (by kernel_rfl)) (rangeAp (Z10.out.2.2.2.2.1.chg hc)) rfl
    ·exact dS (.tmp 71) (.tmp 72) rfl (hg 0 (by decide) (by decide)) (hg 1 (by decide) (by decide)) (Ne8x7.out) (Ne7x6.out) fun _ _ => rfl
    ·exact opG_val (v := .pointer (some ⟨u.heap.size, 0, none⟩)) (w' := u.alloc (.cells (num 0) 24)) (by generalize ac.eval = ρ; simp [go_sem, execOp, zero25.1]) ⟨_, rfl, Ar.new _ _ _, hc.size⟩ ((Chg.refl _).alloc _)
   ·intro u V hV hc
    have q73 : V 2 = .agg (num (md 2 (e8x7 - e7x6))) := hV 2 (by decide)
    obtain ⟨b11, q11, r11, s11⟩ := hV 3 (by decide)
    have lw11 : w.heap.size ≤ b11 := Nat.le_trans Z10.out.1.size s11
    have hres0 := r11
    refine wpList_store_mid rfl 24 (.tmp 11) (.tmp 73) rfl b11 0 (num (md 2 (e8x7 - e7x6))) (Eq.trans (by rfl) q11) (Eq.trans (by rfl) q73) (by rw [num_size]; exact thereN hres0) (szN _) (num_one _) ?_
    rw [setRowN hres0 _]
    have k0_c : Chg w (u.setRow b11 (num (md 2 (e8x7 - e7x6)))) := ((Z10.out.1.trans hc).setRow lw11 _)
    have k0_B2 := (Z10.out.2.1.chg hc).rowOther (Z10.out.2.1.apart s11) (num (md 2 (e8x7 - e7x6)))
    have k0_B3 := (Z10.out.2.2.1.chg hc).rowOther (Z10.out.2.2.1.apart s11) (num (md 2 (e8x7 - e7x6)))
    have k0_B4 := (Z10.out.2.2.2.1.chg hc).rowOther (Z10.out.2.2.2.1.apart s11) (num (md 2 (e8x7 - e7x6)))
    have k0_B7 := (Z10.out.2.2.2.2.1.chg hc).rowOther (Z10.out.2.2.2.2.1.apart s11) (num (md 2 (e8x7 - e7x6)))
    have k0_B9 := (Z10.out.2.2.2.2.2.2.1.chg hc).rowOther (Z10.out.2.2.2.2.2.2.1.apart s11) (num (md 2 (e8x7 - e7x6)))
    have k0_B10 := (Z10.out.2.2.2.2.2.2.2.chg hc).rowOther (Z10.out.2.2.2.2.2.2.2.apart s11) (num (md 2 (e8x7 - e7x6)))
    have k0_B11 := hres0.row (num (md 2 (e8x7 - e7x6)))
    generalize (u.setRow b11 (num (md 2 (e8x7 - e7x6)))) = u10 at k0_c k0_B2 k0_B3 k0_B4 k0_B7 k0_B9 k0_B10 k0_B11 ⊢
    go_wp2_with fail
    go_meet
    exact ⟨b11, q11, Z10.out.2.2.2.1.apart s11, k0_c, k0_B2, k0_B3, k0_B4, k0_B7, k0_B9, k0_B10, k0_B11⟩
  obtain ⟨b11, rfl, of0, hz⟩ := hcut
  obtain ⟨w11, hw11⟩ : ∃ zz0, zz0 = wc := ⟨_, rfl⟩
  rw [← hw11] at hz ⊢
  have Z11 : Hid _ := hz
  have O11_0 : Hid _ := of0
  clear hw11 hz of0 Z10
  obtain ⟨e11x11, he11x11⟩ : ∃ zz0, zz0 = md 2 (e8x7 - e7x6) := ⟨_, rfl⟩
  have Ee11x11 : Hid (e11x11 = md 2 (e8x7 - e7x6)) := he11x11
  have Ne11x11 : Hid (N256 e11x11) := by show N256 e11x11; rw [he11x11]; exact md_N _ _
  rw [← he11x11] at Z11
  clear he11x11
  go_upto_region 16 with fail
  go_cut [12] from 12 to 76 (fun v12 wc => ∃ b12, v12 = .pointer (some ⟨b12, 0, none⟩) ∧ w.heap.size + 1 + 1 ≠ b12 ∧ Chg w wc ∧ Ar wc w.heap.size (q3 x y z) ∧ Ar wc (w.heap.size + 1) (q3 x' y' z') ∧ Ar wc (w.heap.size + 1 + 1) (q3 0 0 0) ∧ Ar wc b7 (num e7x6) ∧ Ar wc b9 (num e9x8) ∧ Ar wc b11 (num e11x11) ∧ Ar wc b12 (num (md 2 (e10x9 - e9x8))))
  case first =>
   refine regP 4 (fun j v wg => match j with
    | 0 => v = .agg (num e10x9)
    | 1 => v = .agg (num e9x8)
    | 2 => v = .agg (num (md 2 (e10x9 - e9x8)))
    | 3 => ∃ b, v = .pointer (some ⟨b, 0, none⟩) ∧ Ar wg b (num 0) ∧ w11.heap.size ≤ b
    | _ => True) (by decide) (by kernel_rfl) ?_ ?_ ?_
   ·intro j v u1 u2 h hc
    match j, h with
    | 0, h => exact h
    | 1, h => exact h
    | 2, h => exact h
    | 3, h => (obtain ⟨b, h1, h2, h3⟩ := h; exact ⟨b, h1, h2.chg hc, h3⟩)
    | _ + 4, h => exact trivial
   ·intro i o ac u hi ho hsz hf hg hc
    have hcs : i = 0 ∨ i = 1 ∨ i = 2 ∨ i = 3 := by omega
    rcases hcs with rfl | rfl | rfl | rfl <;> (injection ho with ho; subst ho; refine .inl ⟨wanted_none rfl, ?_⟩)
    ·exact ldN rfl (hf 10 (by kernel_rfl)) (rangeAp (Z11.out.2.2.2.2.2.2.1.chg hc)) rfl
    ·exact ldN rfl (hf 9 (by kernel_rfl)) (rangeAp (Z11.out.2.2.2.2.2.1.chg hc)) rfl
    ·exact dS (.tmp 74) (.tmp 75) rfl (hg 0 (by decide) (by decide)) (hg 1 (by decide) (by decide)) (Ne10x9.out) (Ne9x8.out) fun _ _ => rfl
    ·exact opG_val (v := .pointer (some ⟨u.heap.size, 0, none⟩)) (w' := u.alloc (.cells (num 0) 24)) (by generalize ac.eval = ρ; simp [go_sem, execOp, zero25.1]) ⟨_, rfl, Ar.new _ _ _, hc.size⟩ ((Chg.refl _).alloc _)
   ·intro u V hV hc
    have q76 : V 2 = .agg (num (md 2 (e10x9 - e9x8))) := hV 2 (by decide)
    obtain ⟨b12, q12, r12, s12⟩ := hV 3 (by decide)
    have lw12 : w.heap.size ≤ b12 := Nat.le_trans Z11.out.1.size s12
    have hres0 := r12
    refine wpList_store_mid rfl 24 (.tmp 12) (.tmp 76) rfl b12 0 (num (md 2 (e10x9 - e9x8))) (Eq.trans (by rfl) q12) (Eq.trans (by rfl) q76) (by rw [num_size]; exact thereN hres0) (szN _) (num_one _) ?_
    rw [setRowN hres0 _]
    have k0_c : Chg w (u.setRow b12 (num (md 2 (e10x9 - e9x8)))) := ((Z11.out.1.trans hc).setRow lw12 _)
    have k0_B2 := (Z11.out.2.1.chg hc).rowOther (Z11.out.2.1.apart s12) (num (md 2 (e10x9 - e9x8)))
    have k0_B3 := (Z11.out.2.2.1.chg hc).rowOther (Z11.out.2.2.1.apart s12) (num (md 2 (e10x9 - e9x8)))
    have k0_B4 := (Z11.out.2.2.2.1.chg hc).rowOther (Z11.out.2.2.2.1.apart s12) (num (md 2 (e10x9 - e9x8)))
    have k0_B7 := (Z11.out.2.2.2.2.1.chg hc).rowOther (Z11.out.2.2.2.2.1.apart s12) (num (md 2 (e10x9 - e9x8)))
    have k0_B9 := (Z11.out.2.2.2.2.2.1.chg hc).rowOther (Z11.out.2.2.2.2.2.1.apart s12) (num (md 2 (e10x9 - e9x8)))
    have k0_B11 := (Z11.out.2.2.2.2.2.2.2.chg hc).rowOther (Z11.out.2.2.2.2.2.2.2.apart s12) (num (md 2 (e10x9 - e9x8)))
    have k0_B12 := hres0.row (num (md 2 (e10x9 - e9x8)))
    generalize (u.setRow b12 (num (md 2 (e10x9 - e9x8)))) = u10 at k0_c k0_B2 k0_B3 k0_B4 k0_B7 k0_B9 k0_B11 k0_B12 ⊢
    go_wp2_with fail
    go_meet
    exact ⟨b12, q12, Z11.out.2.2.2.1.apart s12, k0_c, k0_B2, k0_B3, k0_B4, k0_B7, k0_B9, k0_B11, k0_B12⟩
  obtain ⟨b12, rfl, of0, hz⟩ := hcut
  obtain ⟨w12, hw12⟩ : ∃ zz0, zz0 = wc := ⟨_, rfl⟩
  rw [← hw12] at hz ⊢
  have Z12 : Hid _ := hz
  have O12_0 : Hid _ := of0
  clear hw12 hz of0 Z11
  obtain ⟨e12x12, he12x12⟩ : ∃ zz0, zz0 = md 2 (e10x9 - e9x8) := ⟨_, rfl⟩
  have Ee12x12 : Hid (e12x12 = md 2 (e10x9 - e9x8)) := he12x12
  have Ne12x12 : Hid (N256 e12x12) := by show N256 e12x12; rw [he12x12]; exact md_N _ _
  rw [← he12x12] at Z12
  clear he12x12
  go_upto_region 17 with fail
  go_cut [13] from 13 to 79 (fun v13 wc => ∃ b13, v13 = .pointer (some ⟨b13, 0, none⟩) ∧ w.heap.size + 1 + 1 ≠ b13 ∧ Chg w wc ∧ Ar wc w.heap.size (q3 x y z) ∧ Ar wc (w.heap.size + 1) (q3 x' y' z') ∧ Ar wc (w.heap.size + 1 + 1) (q3 0 0 0) ∧ Ar wc b7 (num e7x6) ∧ Ar wc b9 (num e9x8) ∧ Ar wc b11 (num e11x11) ∧ Ar wc b12 (num e12x12) ∧ Ar wc b13 (num (md 2 (e11x11 * e11x11))))
  case first =>
   refine regP 4 (fun j v wg => match j with
    | 0 => v = .agg (num e11x11)
    | 1 => v = .agg (num e11x11)
    | 2 => v = .agg (num (md 2 (e11x11 * e11x11)))
    | 3 => ∃ b, v = .pointer (some ⟨b, 0, none⟩) ∧ Ar wg b (num 0) ∧ w12.heap.size ≤ b
    | _ => True) (by decide) (by kernel_rfl) ?_ ?_ ?_
   ·intro j v u1 u2 h hc
    match j, h with
    | 0, h => exact h
    | 1, h => exact h
    | 2, h => exact h
    | 3, h => (obtain ⟨b, h1, h2, h3⟩ := h; exact ⟨b, h1, h2.chg hc, h3⟩)
    | _ + 4, h => exact trivial
   ·intro i o ac u hi ho hsz hf hg hc
    have hcs : i = 0 ∨ i = 1 ∨ i = 2 ∨ i = 3 := by omega
    rcases hcs with rfl | rfl | rfl | rfl <;> (injection ho with ho; subst ho; refine .inl ⟨wanted_none rfl, ?_⟩)
    ·exact ldN rfl (hf 11 (by kernel_rfl)) (rangeAp (Z12.out.2.2.2.2.2.2.1.chg hc)) rfl
    ·exact ldN rfl (hf 11 (by kernel_rfl)) (rangeAp (Z12.out.2.2.2.2.2.2.1.chg hc)) rfl
    ·exact dM (.tmp 77) (.tmp 78) rfl (hg 0 (by decide) (by decide)) (hg 1 (by decide) (by decide)) (Ne11x11.out) (Ne11x11.out) fun _ _ => rfl
    ·exact opG_val (v := .pointer (some ⟨u.heap.size, 0, none⟩)) (w' := u.alloc (.cells (num 0) 24)) (by generalize ac.eval = ρ; simp [go_sem, execOp, zero25.1]) ⟨_, rfl, Ar.new _ _ _, hc.size⟩ ((Chg.refl _).alloc _)
   ·intro u V hV hc
    have q79 : V 2 = .agg (num (md 2 (e11x11 * e11x11))) := hV 2 (by decide)
    obtain ⟨b13, q13, r13, s13⟩ := hV 3 (by decide)
    have lw13 : w.heap.size ≤ b13 := Nat.le_trans Z12.out.1.size s13
    have hres0 := r13
    refine wpList_store_mid rfl 24 (.tmp 13) (.tmp 79) rfl b13 0 (num (md 2 (e11x11 * e11x11))) (Eq.trans (by rfl) q13) (Eq.trans (by rfl) q79) (by rw [num_size]; exact thereN hres0) (szN _) (num_one _) ?_
    rw [setRowN hres0 _]
    have k0_c : Chg w (u.setRow b13 (num (md 2 (e11x11 * e11x11)))) := ((Z12.out.1.trans hc).setRow lw13 _)
    have k0_B2 := (Z12.out.2.1.chg hc).rowOther (Z12.out.2.1.apart s13) (num (md 2 (e11x11 * e11x11)))
    have k0_B3 := (Z12.out.2.2.1.chg hc).rowOther (Z12.out.2.2.1.apart s13) (num (md 2 (e11x11 * e11x11)))
    have k0_B4 := (Z12.out.2.2.2.1.chg hc).rowOther (Z12.out.2.2.2.1.apart s13) (num (md 2 (e11x11 * e11x11)))
    have k0_B7 := (Z12.out.2.2.2.2.1.chg hc).rowOther (Z12.out.2.2.2.2.1.apart s13) (num (md 2 (e11x11 * e11x11)))
    have k0_B9 := (Z12.out.2.2.2.2.2.1.chg hc).rowOther (Z12.out.2.2.2.2.2.1.apart s13) (num (md 2 (e11x11 * e11x11)))
    have k0_B11 := (Z12.out.2.2.2.2.2.2.1.chg hc).rowOther (Z12.out.2.2.2.2.2.2.1.apart s13) (num (md 2 (e11x11 * e11x11)))
    have k0_B12 := (Z12.out.2.2.2.2.2.2.2.chg hc).rowOther (Z12.out.2.2.2.2.2.2.2.apart s13) (num (md 2 (e11x11 * e11x11)))
    have k0_B13 := hres0.row (num (md 2 (e11x11 * e11x11)))
    generalize (u.setRow b13 (num (md 2 (e11x11 * e11x11)))) = u10 at k0_c k0_B2 k0_B3 k0_B4 k0_B7 k0_B9 k0_B11 k0_B12 k0_B13 ⊢
    go_wp2_with fail
    go_meet
    exact ⟨b13, q13, Z12.out.2.2.2.1.apart s13, k0_c, k0_B2, k0_B3, k0_B4, k0_B7, k0_B9, k0_B11, k0_B12, k0_B13⟩
  obtain ⟨b13, rfl, of0, hz⟩ := hcut
  obtain ⟨w13, hw13⟩ : ∃ zz0, zz0 = wc := ⟨_, rfl⟩
  rw [← hw13] at hz ⊢
  have Z13 : Hid _ := hz
  have O13_0 : Hid _ := of0
  clear hw13 hz of0 Z12
  obtain ⟨e13x13, he13x13⟩ : ∃ zz0, zz0 = md 2 (e11x11 * e11x11) := ⟨_, rfl⟩
  have Ee13x13 : Hid (e13x13 = md 2 (e11x11 * e11x11)) := he13x13
  have Ne13x13 : Hid (N256 e13x13) := by show N256 e13x13; rw [he13x13]; exact md_N _ _
  rw [← he13x13] at Z13
  clear he13x13
  go_upto_region 18 with fail
  go_cut [14] from 14 to 82 (fun v14 wc => ∃ b14, v14 = .pointer (some ⟨b14, 0, none⟩) ∧ w.heap.size + 1 + 1 ≠ b14 ∧ Chg w wc ∧ Ar wc w.heap.size (q3 x y z) ∧ Ar wc (w.heap.size + 1) (q3 x' y' z') ∧ Ar wc (w.heap.size + 1 + 1) (q3 0 0 0) ∧ Ar wc b7 (num e7x6) ∧ Ar wc b9 (num e9x8) ∧ Ar wc b11 (num e11x11) ∧ Ar wc b12 (num e12x12) ∧ Ar wc b13 (num e13x13) ∧ Ar wc b14 (num (md 2 (e13x13 * e11x11))))
  case first =>
   refine regP 4 (fun j v wg => match j with
    | 0 => v = .agg (num e13x13)
    | 1 => v = .agg (num e11x11)
    | 2 => v = .agg (num (md 2 (e13x13 * e11x11)))
    | 3 => ∃ b, v = .pointer (some ⟨b, 0, none⟩) ∧ Ar wg b (num 0) ∧ w13.heap.size ≤ b
    | _ => True) (by decide) (by kernel_rfl) ?_ ?_ ?_
   ·intro j v u1 u2 h hc
    match j, h with
    | 0, h => exact h
    | 1, h => exact h
    | 2, h => exact h
    | 3, h => (obtain ⟨b, h1, h2, h3⟩ := h; exact ⟨b, h1, h2.chg hc, h3⟩)
    | _ + 4, h => exact trivial
   ·intro i o ac u hi ho hsz hf hg hc
    have hcs : i = 0 ∨ i = 1 ∨ i = 2 ∨ i = 3 := by omega
    rcases hcs with rfl | rfl | rfl | rfl <;> (injection ho with ho; subst ho; refine .inl ⟨wanted_none rfl, ?_⟩)
    ·exact ldN rfl (hf 13 (by kernel_rfl)) (rangeAp (Z13.out.2.2.2.2.2.2.2.2.chg hc)) rfl
    ·exact ldN rfl (hf 11 (by kernel_rfl)) (rangeAp (Z13.out.2.2.2.2.2.2.1.chg hc)) rfl
    ·exact dM (.tmp 80) (.tmp 81) rfl (hg 0 (by decide) (by decide)) (hg 1 (by decide) (by decide)) (Ne13x13.out) (Ne11x11.out) fun _ _ => rfl
    ·exact opG_val (v := .pointer (some ⟨u.heap.size, 0, none⟩)) (w' := u.alloc (.cells (num 0) 24)) (by generalize ac.eval = ρ; simp [go_sem, execOp, zero25.1]) ⟨_, rfl, Ar.new _ _ _, hc.size⟩ ((Chg.refl _).alloc _)
   ·intro u V hV hc
    have q82 : V 2 = .agg (num (md 2 (e13x13 * e11x11))) := hV 2 (by decide)
    obtain ⟨b14, q14, r14, s14⟩ := hV 3 (by decide)
    have lw14 : w.heap.size ≤ b14 := Nat.le_trans Z13.out.1.size s14
    have hres0 := r14
    refine wpList_store_mid rfl 24 (.tmp 14) (.tmp 82) rfl b14 0 (num (md 2 (e13x13 * e11x11))) (Eq.trans (by rfl) q14) (Eq.trans (by rfl) q82) (by rw [num_size]; exact thereN hres0) (szN _) (num_one _) ?_
    rw [setRowN hres0 _]
    have k0_c : Chg w (u.setRow b14 (num (md 2 (e13x13 * e11x11)))) := ((Z13.out.1.trans hc).setRow lw14 _)
    have k0_B2 := (Z13.out.2.1.chg hc).rowOther (Z13.out.2.1.apart s14) (num (md 2 (e13x13 * e11x11)))
    have k0_B3 := (Z13.out.2.2.1.chg hc).rowOther (Z13.out.2.2.1.apart s14) (num (md 2 (e13x13 * e11x11)))
    have k0_B4 := (Z13.out.2.2.2.1.chg hc).rowOther (Z13.out.2.2.2.1.apart s14) (num (md 2 (e13x13 * e11x11)))
    have k0_B7 := (Z13.out.2.2.2.2.1.chg hc).rowOther (Z13.out.2.2.2.2.1.apart s14) (num (md 2 (e13x13 * e11x11)))
    have k0_B9 := (Z13.out.2.2.2.2.2.1.chg hc).rowOther (Z13.out.2.2.2.2.2.1.apart s14) (num (md 2 (e13x13 * e11x11)))
    have k0_B11 := (Z13.out.2.2.2.2.2.2.1.chg hc).rowOther (Z13.out.2.2.2.2.2.2.1.apart s14) (num (md 2 (e13x13 * e11x11)))
    have k0_B12 := (Z13.out.2.2.2.2.2.2.2.1.chg hc).rowOther (Z13.out.2.2.2.2.2.2.2.1.apart s14) (num (md 2 (e13x13 * e11x11)))
    have k0_B13 := (Z13.out.2.2.2.2.2.2.2.2.chg hc).rowOther (Z13.out.2.2.2.2.2.2.2.2.apart s14) (num (md 2 (e13x13 * e11x11)))
    have k0_B14 := hres0.row (num (md 2 (e13x13 * e11x11)))
    generalize (u.setRow b14 (num (md 2 (e13x13 * e11x11)))) = u10 at k0_c k0_B2 k0_B3 k0_B4 k0_B7 k0_B9 k0_B11 k0_B12 k0_B13 k0_B14 ⊢
    go_wp2_with fail
    go_meet
    exact ⟨b14, q14, Z13.out.2.2.2.1.apart s14, k0_c, k0_B2, k0_B3, k0_B4, k0_B7, k0_B9, k0_B11, k0_B12, k0_B13, k0_B14⟩
  obtain ⟨b14, rfl, of0, hz⟩ := hcut
  obtain ⟨w14, hw14⟩ : ∃ zz0, zz0 = wc := ⟨_, rfl⟩
  rw [← hw14] at hz ⊢
  have Z14 : Hid _ := hz
  have O14_0 : Hid _ := of0
  clear hw14 hz of0 Z13
  obtain ⟨e14x14, he14x14⟩ : ∃ zz0, zz0 = md 2 (e13x13 * e11x11) := ⟨_, rfl⟩
  have Ee14x14 : Hid (e14x14 = md 2 (e13x13 * e11x11)) := he14x14
  have Ne14x14 : Hid (N256 e14x14) := by show N256 e14x14; rw [he14x14]; exact md_N _ _
  rw [← he14x14] at Z14
  clear he14x14
  go_upto_region 19 with fail
  go_cut [15] from 15 to 85 (fun v15 wc => ∃ b15, v15 = .pointer (some ⟨b15, 0, none⟩) ∧ w.heap.size + 1 + 1 ≠ b15 ∧ Chg w wc ∧ Ar wc w.heap.size (q3 x y z) ∧ Ar wc (w.heap.size + 1) (q3 x' y' z') ∧ Ar wc (w.heap.size + 1 + 1) (q3 0 0 0) ∧ Ar wc b9 (num e9x8) ∧ Ar wc b11 (num e11x11) ∧ Ar wc b12 (num e12x12) ∧ Ar wc b14 (num e14x14) ∧ Ar wc b15 (num (md 2 (e7x6 * e13x13))))
  case first =>
   refine regP 4 (fun j v wg => match j with
    | 0 => v = .agg (num e7x6)
    | 1 => v = .agg (num e13x13)
    | 2 => v = .agg (num (md 2 (e7x6 * e13x13)))
    | 3 => ∃ b, v = .pointer (some ⟨b, 0, none⟩) ∧ Ar wg b (num 0) ∧ w14.heap.size ≤ b
    | _ => True) (by decide) (by kernel_rfl) ?_ ?_ ?_
   ·intro j v u1 u2 h hc
    match j, h with
    | 0, h => exact h
    | 1, h => exact h
    | 2, h => exact h
    | 3, h => (obtain ⟨b, h1, h2, h3⟩ := h; exact ⟨b, h1, h2.chg hc, h3⟩)
    | _ + 4, h => exact trivial
   ·intro i o ac u hi ho hsz hf hg hc
    have hcs : i = 0 ∨ i = 1 ∨ i = 2 ∨ i = 3 := by omega
    rcases hcs with rfl | rfl | rfl | rfl <;> (injection ho with ho; subst ho; refine .inl ⟨wanted_none rfl, ?_⟩)
    ·exact ldN rfl (hf 7 (by kernel_rfl)) (rangeAp (Z14.out.2.2.2.2.1.chg hc)) rfl
    ·exact ldN rfl (hf 13 (by kernel_rfl)) (rangeAp (Z14.out.2.2.2.2.2.2.2.2.1.chg hc)) rfl
    ·exact dM (.tmp 83) (.tmp 84) rfl (hg 0 (by decide) (by decide)) (hg 1 (by decide) (by decide)) (Ne7x6.out) (Ne13x13.out) fun _ _ => rfl
    ·exact opG_val (v := .pointer (some ⟨u.heap.size, 0, none⟩)) (w' := u.alloc (.cells (num 0) 24)) (by generalize ac.eval = ρ; simp [go_sem, execOp, zero25.1]) ⟨_, rfl, Ar.new _ _ _, hc.size⟩ ((Chg.refl _).alloc _)
   ·intro u V hV hc
    have q85 : V 2 = .agg (num (md 2 (e7x6 * e13x13))) := hV 2 (by decide)
    obtain ⟨b15, q15, r15, s15⟩ := hV 3 (by decide)
    have lw15 : w.heap.size ≤ b15 := Nat.le_trans Z14.out.1.size s15
    have hres0 := r15
    refine wpList_store_mid rfl 24 (.tmp 15) (.tmp 85) rfl b15 0 (num (md 2 (e7x6 * e13x13))) (Eq.trans (by rfl) q15) (Eq.trans (by rfl) q85) (by rw [num_size]; exact thereN hres0) (szN _) (num_one _) ?_
    rw [setRowN hres0 _]
    have k0_c : Chg w (u.setRow b15 (num (md 2 (e7x6 * e13x13)))) := ((Z14.out.1.trans hc).setRow lw15 _)
    have k0_B2 := (Z14.out.2.1.chg hc).rowOther (Z14.out.2.1.apart s15) (num (md 2 (e7x6 * e13x13)))
    have k0_B3 := (Z14.out.2.2.1.chg hc).rowOther (Z14.out.2.2.1.apart s15) (num (md 2 (e7x6 * e13x13)))
    have k0_B4 := (Z14.out.2.2.2.1.chg hc).rowOther (Z14.out.2.2.2.1.apart s15) (num (md 2 (e7x6 * e13x13)))
    have k0_B9 := (Z14.out.2.2.2.2.2.1.chg hc).rowOther (Z14.out.2.2.2.2.2.1.apart s15) (num (md 2 (e7x6 * e13x13)))
    have k0_B11 := (Z14.out.2.2.2.2.2.2.1.chg hc).rowOther (Z14.out.2.2.2.2.2.2.1.apart s15) (num (md 2 (e7x6 * e13x13)))
    have k0_B12 := (Z14.out.2.2.2.2.2.2.2.1.chg hc).rowOther (Z14.out.2.2.2.2.2.2.2.1.apart s15) (num (md 2 (e7x6 * e13x13)))
    have k0_B14 := (Z14.out.2.2.2.2.2.2.2.2.2.chg hc).rowOther (Z14.out.2.2.2.2.2.2.2.2.2.apart s15) (num (md 2 (e7x6 * e13x13)))
    have k0_B15 := hres0.row (num (md 2 (e7x6 * e13x13)))
    generalize (u.setRow b15 (num (md 2 (e7x6 * e13x13)))) = u10 at k0_c k0_B2 k0_B3 k0_B4 k0_B9 k0_B11 k0_B12 k0_B14 k0_B15 ⊢
    go_wp2_with fail
    go_meet
    exact ⟨b15, q15, Z14.out.2.2.2.1.apart s15, k0_c, k0_B2, k0_B3, k0_B4, k0_B9, k0_B11, k0_B12, k0_B14, k0_B15⟩
  obtain ⟨b15, rfl, of0, hz⟩ := hcut
  obtain ⟨w15, hw15⟩ : ∃ zz0, zz0 = wc := ⟨_, rfl⟩
  rw [← hw15] at hz ⊢
  have Z15 : Hid _ := hz
  have O15_0 : Hid _ := of0
  clear hw15 hz of0 Z14
  obtain ⟨e15x15, he15x15⟩ : ∃ zz0, zz0 = md 2 (e7x6 * e13x13) := ⟨_, rfl⟩
  have Ee15x15 : Hid (e15x15 = md 2 (e7x6 * e13x13)) := he15x15
  have Ne15x15 : Hid (N256 e15x15) := by show N256 e15x15; rw [he15x15]; exact md_N _ _
  rw [← he15x15] at Z15
  clear he15x15
  go_upto_region 20 with fail
  go_cut [16] from 16 to 94 (fun v16 wc => ∃ b16, v16 = .pointer (some ⟨b16, 0, none⟩) ∧ w.heap.size + 1 + 1 ≠ b16 ∧ Chg w wc ∧ Ar wc w.heap.size (q3 x y z) ∧ Ar wc (w.heap.size + 1) (q3 x' y' z') ∧ Ar wc (w.heap.size + 1 + 1) (q3 0 0 0) ∧ Ar wc b9 (num e9x8) ∧ Ar wc b11 (num e11x11) ∧ Ar wc b12 (num e12x12) ∧ Ar wc b14 (num e14x14) ∧ Ar wc b15 (num e15x15) ∧ Ar wc b16 (num (md 2 ((md 2 ((md 2 (e12x12 * e12x12)) - e14x14)) - (md 2 (e15x15 + e15x15))))))
  case first =>
   refine regM 10 (fun j => j == 9) (fun j v wg => match j with
    | 0 => v = .agg (num e12x12)
    | 1 => v = .agg (num e12x12)
    | 2 => v = .agg (num (md 2 (e12x12 * e12x12)))
    | 3 => v = .agg (num e14x14)
    | 4 => v = .agg (num (md 2 ((md 2 (e12x12 * e12x12)) - e14x14)))
    | 5 => v = .agg (num e15x15)
    | 6 => v = .agg (num e15x15)
    | 7 => v = .agg (num (md 2 (e15x15 + e15x15)))
    | 8 => v = .agg (num (md 2 ((md 2 ((md 2 (e12x12 * e12x12)) - e14x14)) - (md 2 (e15x15 + e15x15)))))
    | 9 => ∃ b, v = .pointer (some ⟨b, 0, none⟩) ∧ Ar wg b (num 0) ∧ w15.heap.size ≤ b
    | _ => True) (by kernel_rfl) (by decide) (by kernel_rfl) (by kernel_rfl) (by kernel_rfl) (by kernel_rfl) ?_ ?_ ?_ ?_
   ·intro j v u1 u2 h hc
    match j, h with
    | 0, h => exact h
    | 1, h => exact h
    | 2, h => exact h
    | 3, h => exact h
    | 4, h => exact h
    | 5, h => exact h
    | 6, h => exact h
    | 7, h => exact h
    | 8, h => exact h
    | 9, h => (obtain ⟨b, h1, h2, h3⟩ := h; exact ⟨b, h1, h2.chg hc, h3⟩)
    | _ + 10, h => exact trivial
   ·intro j v u hj ha h
    have hcs : j = 9 := by simpa [or_assoc] using ha
    rcases hcs with rfl
    ·obtain ⟨b, h1, h2, h3⟩ := h; exact ⟨b, h1, h2.lt⟩
   ·intro i o ac u hi ho hsz hf hg hc
    have hcs : i = 0 ∨ i = 1 ∨ i = 2 ∨ i = 3 ∨ i = 4 ∨ i = 5 ∨ i = 6 ∨ i = 7 ∨ i = 8 ∨ i = 9 := by omega
    rcases hcs with rfl | rfl | rfl | rfl | rfl | rfl | rfl | rfl | rfl | rfl <;> (injection ho with ho; subst ho; refine ⟨wanted_none rfl, ?_⟩)
    ·exact ldN rfl (hf 12 (by kernel_rfl)) (rangeAp (Z15.out.2.2.2.2.2.2.1.chg hc)) ⟨rfl, fun h => by cases h⟩
    ·exact ldN rfl (hf 12 (by kernel_rfl)) (rangeAp (Z15.out.2.2.2.2.2.2.1.chg hc)) ⟨rfl, fun h => by cases h⟩
    ·exact dM (.tmp 86) (.tmp 87) rfl (hg 0 (by kernel_rfl) (by decide)) (hg 1 (by kernel_rfl) (by decide)) (Ne12x12.out) (Ne12x12.out) fun _ _ => ⟨rfl, fun h => by cases h⟩
    ·exact ldN rfl (hf 14 (by kernel_rfl)) (rangeAp (Z15.out.2.2.2.2.2.2.2.1.chg hc)) ⟨rfl, fun h => by cases h⟩
    ·exact dS (.tmp 88) (.tmp 89) rfl (hg 2 (by kernel_rfl) (by decide)) (hg 3 (by kernel_rfl) (by decide)) (md_N _ _) (Ne14x14.out) fun _ _ => ⟨rfl, fun h => by cases h⟩
    ·exact ldN rfl (hf 15 (by kernel_rfl)) (rangeAp (Z15.out.2.2.2.2.2.2.2.2.chg hc)) ⟨rfl, fun h => by cases h⟩
    ·exact ldN rfl (hf 15 (by kernel_rfl)) (rangeAp (Z15.out.2.2.2.2.2.2.2.2.chg hc)) ⟨rfl, fun h => by cases h⟩
    ·exact dA (.tmp 91) (.tmp 92) rfl (hg 5 (by kernel_rfl) (by decide)) (hg 6 (by kernel_rfl) (by decide)) (Ne15x15.out) (Ne15x15.out) fun _ _ => ⟨rfl, fun h => by cases h⟩
    ·exact dS (.tmp 90) (.tmp 93) rfl (hg 4 (by kernel_rfl) (by decide)) (hg 7 (by kernel_rfl) (by decide)) (md_N _ _) (md_N _ _) fun _ _ => ⟨rfl, fun h => by cases h⟩
    ·exact opG_val (v := .pointer (some ⟨u.heap.size, 0, none⟩)) (w' := u.alloc (.cells (num 0) 24)) (by generalize ac.eval = ρ; simp [go_sem, execOp, zero25.1]) ⟨⟨_, rfl, Ar.new _ _ _, hc.size⟩, fun _ => rfl⟩ ((Chg.refl _).alloc _)
   ·intro u V hV hap hc
    have q94 : V 8 = .agg (num (md 2 ((md 2 ((md 2 (e12x12 * e12x12)) - e14x14)) - (md 2 (e15x15 + e15x15))))) := hV 8 (by decide)
    obtain ⟨b16, q16, r16, s16⟩ := hV 9 (by decide)
    have lw16 : w.heap.size ≤ b16 := Nat.le_trans Z15.out.1.size s16
    have hres0 := r16
    refine tail_cons rfl rfl ?_
    refine wp_store_mid 24 (.tmp 16) (.tmp 94) rfl b16 0 (num (md 2 ((md 2 ((md 2 (e12x12 * e12x12)) - e14x14)) - (md 2 (e15x15 + e15x15))))) (Eq.trans (by rfl) q16) (Eq.trans (by rfl) q94) (by rw [num_size]; exact thereN hres0) (szN _) (num_one _) ?_
    rw [setRowN hres0 _]
    have k0_c : Chg w (u.setRow b16 (num (md 2 ((md 2 ((md 2 (e12x12 * e12x12)) - e14x14)) - (md 2 (e15x15 + e15x15)))))) := ((Z15.out.1.trans hc).setRow lw16 _)
    have k0_B2 := (Z15.out.2.1.chg hc).rowOther (Z15.out.2.1.apart s16) (num (md 2 ((md 2 ((md 2 (e12x12 * e12x12)) - e14x14)) - (md 2 (e15x15 + e15x15)))))
    have k0_B3 := (Z15.out.2.2.1.chg hc).rowOther (Z15.out.2.2.1.apart s16) (num (md 2 ((md 2 ((md 2 (e12x12 * e12x12)) - e14x14)) - (md 2 (e15x15 + e15x15)))))
    have k0_B4 := (Z15.out.2.2.2.1.chg hc).rowOther (Z15.out.2.2.2.1.apart s16) (num (md 2 ((md 2 ((md 2 (e12x12 * e12x12)) - e14x14)) - (md 2 (e15x15 + e15x15)))))
    have k0_B9 := (Z15.out.2.2.2.2.1.chg hc).rowOther (Z15.out.2.2.2.2.1.apart s16) (num (md 2 ((md 2 ((md 2 (e12x12 * e12x12)) - e14x14)) - (md 2 (e15x15 + e15x15)))))
    have k0_B11 := (Z15.out.2.2.2.2.2.1.chg hc).rowOther (Z15.out.2.2.2.2.2.1.apart s16) (num (md 2 ((md 2 ((md 2 (e12x12 * e12x12)) - e14x14)) - (md 2 (e15x15 + e15x15)))))
    have k0_B12 := (Z15.out.2.2.2.2.2.2.1.chg hc).rowOther (Z15.out.2.2.2.2.2.2.1.apart s16) (num (md 2 ((md 2 ((md 2 (e12x12 * e12x12)) - e14x14)) - (md 2 (e15x15 + e15x15)))))
    have k0_B14 := (Z15.out.2.2.2.2.2.2.2.1.chg hc).rowOther (Z15.out.2.2.2.2.2.2.2.1.apart s16) (num (md 2 ((md 2 ((md 2 (e12x12 * e12x12)) - e14x14)) - (md 2 (e15x15 + e15x15)))))
    have k0_B15 := (Z15.out.2.2.2.2.2.2.2.2.chg hc).rowOther (Z15.out.2.2.2.2.2.2.2.2.apart s16) (num (md 2 ((md 2 ((md 2 (e12x12 * e12x12)) - e14x14)) - (md 2 (e15x15 + e15x15)))))
    have k0_B16 := hres0.row (num (md 2 ((md 2 ((md 2 (e12x12 * e12x12)) - e14x14)) - (md 2 (e15x15 + e15x15)))))
    generalize (u.setRow b16 (num (md 2 ((md 2 ((md 2 (e12x12 * e12x12)) - e14x14)) - (md 2 (e15x15 + e15x15)))))) = u10 at k0_c k0_B2 k0_B3 k0_B4 k0_B9 k0_B11 k0_B12 k0_B14 k0_B15 k0_B16 ⊢
    refine tail_nil rfl ?_
    go_wp2_with fail
    go_meet
    exact ⟨b16, q16, Z15.out.2.2.2.1.apart s16, k0_c, k0_B2, k0_B3, k0_B4, k0_B9, k0_B11, k0_B12, k0_B14, k0_B15, k0_B16⟩
  obtain ⟨b16, rfl, of0, hz⟩ := hcut
  obtain ⟨w16, hw16⟩ : ∃ zz0, zz0 = wc := ⟨_, rfl⟩
  rw [← hw16] at hz ⊢
  have Z16 : Hid _ := hz
  have O16_0 : Hid _ := of0
  clear hw16 hz of0 Z15
  obtain ⟨e16x16, he16x16⟩ : ∃ zz0, zz0 = md 2 ((md 2 ((md 2 (e12x12 * e12x12)) - e14x14)) - (md 2 (e15x15 + e15x15))) := ⟨_, rfl⟩
  have Ee16x16 : Hid (e16x16 = md 2 ((md 2 ((md 2 (e12x12 * e12x12)) - e14x14)) - (md 2 (e15x15 + e15x15)))) := he16x16
  have Ne16x16 : Hid (N256 e16x16) := by show N256 e16x16; rw [he16x16]; exact md_N _ _
  rw [← he16x16] at Z16
  clear he16x16
  go_upto_region 21 with fail
  go_cut [17] from 17 to 103 (fun v17 wc => ∃ b17, v17 = .pointer (some ⟨b17, 0, none⟩) ∧ w.heap.size + 1 + 1 ≠ b17 ∧ Chg w wc ∧ Ar wc w.heap.size (q3 x y z) ∧ Ar wc (w.heap.size + 1) (q3 x' y' z') ∧ Ar wc (w.heap.size + 1 + 1) (q3 0 0 0) ∧ Ar wc b11 (num e11x11) ∧ Ar wc b16 (num e16x16) ∧ Ar wc b17 (num (md 2 ((md 2 (e12x12 * (md 2 (e15x15 - e16x16)))) - (md 2 (e9x8 * e14x14))))))
  case first =>
   refine regM 10 (fun j => j == 9) (fun j v wg => match j with
    | 0 => v = .agg (num e12x12)
    | 1 => v = .agg (num e15x15)
    | 2 => v = .agg (num e16x16)
    | 3 => v = .agg (num (md 2 (e15x15 - e16x16)))
    | 4 => v = .agg (num (md 2 (e12x12 * (md 2 (e15x15 - e16x16)))))
    | 5 => v = .agg (num e9x8)
    | 6 => v = .agg (num e14x14)
    | 7 => v = .agg (num (md 2 (e9x8 * e14x14)))
    | 8 => v = .agg (num (md 2 ((md 2 (e12x12 * (md 2 (e15x15 - e16x16)))) - (md 2 (e9x8 * e14x14)))))
    | 9 => ∃ b, v = .pointer (some ⟨b, 0, none⟩) ∧ Ar wg b (num 0) ∧ w16.heap.size ≤ b
    | _ => True) (by kernel_rfl) (by decide) (by kernel_rfl) (by kernel_rfl) (by kernel_rfl) (by kernel_rfl) ?_ ?_ ?_ ?_
   ·intro j v u1 u2 h hc
    match j, h with
    | 0, h => exact h
    | 1, h => exact h
    | 2, h => exact h
    | 3, h => exact h
    | 4, h => exact h
    | 5, h => exact h
    | 6, h => exact h
    | 7, h => exact h
    | 8, h => exact h
    | 9, h => (obtain ⟨b, h1, h2, h3⟩ := h; exact ⟨b, h1, h2.chg hc, h3⟩)
    | _ + 10, h => exact trivial
   ·intro j v u hj ha h
    have hcs : j = 9 := by simpa [or_assoc] using ha
    rcases hcs with rfl
    ·obtain ⟨b, h1, h2, h3⟩ := h; exact ⟨b, h1, h2.lt⟩
   ·intro i o ac u hi ho hsz hf hg hc
    have hcs : i = 0 ∨ i = 1 ∨ i = 2 ∨ i = 3 ∨ i = 4 ∨ i = 5 ∨ i = 6 ∨ i = 7 ∨ i = 8 ∨ i = 9 := by omega
    rcases hcs with rfl | rfl | rfl | rfl | rfl | rfl | rfl | rfl | rfl | rfl <;> (injection ho with ho; subst ho; refine ⟨wanted_none rfl, ?_⟩)
    ·exact ldN rfl (hf 12 (by kernel_rfl)) (rangeAp (Z16.out.2.2.2.2.2.2.1.chg hc)) ⟨rfl, fun h => by cases h⟩
    ·exact ldN rfl (hf 15 (by kernel_rfl)) (rangeAp (Z16.out.2.2.2.2.2.2.2.2.1.chg hc)) ⟨rfl, fun h => by cases h⟩
    ·exact ldN rfl (hf 16 (by kernel_rfl)) (rangeAp (Z16.out.2.2.2.2.2.2.2.2.2.chg hc)) ⟨rfl, fun h => by cases h⟩
    ·exact dS (.tmp 96) (.tmp 97) rfl (hg 1 (by kernel_rfl) (by decide)) (hg 2 (by kernel_rfl) (by decide)) (Ne15x15.out) (Ne16x16.out) fun _ _ => ⟨rfl, fun h => by cases h⟩
    ·exact dM (.tmp 95) (.tmp 98) rfl (hg 0 (by kernel_rfl) (by decide)) (hg 3 (by kernel_rfl) (by decide)) (Ne12x12.out) (md_N _ _) fun _ _ => ⟨rfl, fun h => by cases h⟩
    ·exact ldN rfl (hf 9 (by kernel_rfl)) (rangeAp (Z16.out.2.2.2.2.1.chg hc)) ⟨rfl, fun h => by cases h⟩
    ·exact ldN rfl (hf 14 (by kernel_rfl)) (rangeAp (Z16.out.2.2.2.2.2.2.2.1.chg hc)) ⟨rfl, fun h => by cases h⟩
    ·exact dM (.tmp 100) (.tmp 101) rfl (hg 5 (by kernel_rfl) (by decide)) (hg 6 (by kernel_rfl) (by decide)) (Ne9x8.out) (Ne14x14.out) fun _ _ => ⟨rfl, fun h => by cases h⟩
    ·exact dS (.tmp 99) (.tmp 102) rfl (hg 4 (by kernel_rfl) (by decide)) (hg 7 (by kernel_rfl) (by decide)) (md_N _ _) (md_N _ _) fun _ _ => ⟨rfl, fun h => by cases h⟩
    ·exact opG_val (v := .pointer (some ⟨u.heap.size, 0, none⟩)) (w' := u.alloc (.cells (num 0) 24)) (by generalize ac.eval = ρ; simp [go_sem, execOp, zero25.1]) ⟨⟨_, rfl, Ar.new _ _ _, hc.size⟩, fun _ => rfl⟩ ((Chg.refl _).alloc _)
   ·intro u V hV hap hc
    have q103 : V 8 = .agg (num (md 2 ((md 2 (e12x12 * (md 2 (e15x15 - e16x16)))) - (md 2 (e9x8 * e14x14))))) := hV 8 (by decide)
    obtain ⟨b17, q17, r17, s17⟩ := hV 9 (by decide)
    have lw17 : w.heap.size ≤ b17 := Nat.le_trans Z16.out.1.size s17
    have hres0 := r17
    refine tail_cons rfl rfl ?_
    refine wp_store_mid 24 (.tmp 17) (.tmp 103) rfl b17 0 (num (md 2 ((md 2 (e12x12 * (md 2 (e15x15 - e16x16)))) - (md 2 (e9x8 * e14x14))))) (Eq.trans (by rfl) q17) (Eq.trans (by rfl) q103) (by rw [num_size]; exact thereN hres0) (szN _) (num_one _) ?_
    rw [setRowN hres0 _]
    have k0_c : Chg w (u.setRow b17 (num (md 2 ((md 2 (e12x12 * (md 2 (e15x15 - e16x16)))) - (md 2 (e9x8 * e14x14)))))) := ((Z16.out.1.trans hc).setRow lw17 _)
    have k0_B2 := (Z16.out.2.1.chg hc).rowOther (Z16.out.2.1.apart s17) (num (md 2 ((md 2 (e12x12 * (md 2 (e15x15 - e16x16)))) - (md 2 (e9x8 * e14x14)))))
    have k0_B3 := (Z16.out.2.2.1.chg hc).rowOther (Z16.out.2.2.1.apart s17) (num (md 2 ((md 2 (e12x12 * (md 2 (e15x15 - e16x16)))) - (md 2 (e9x8 * e14x14)))))
    have k0_B4 := (Z16.out.2.2.2.1.chg hc).rowOther (Z16.out.2.2.2.1.apart s17) (num (md 2 ((md 2 (e12x12 * (md 2 (e15x15 - e16x16)))) - (md 2 (e9x8 * e14x14)))))
    have k0_B11 := (Z16.out.2.2.2.2.2.1.chg hc).rowOther (Z16.out.2.2.2.2.2.1.apart s17) (num (md 2 ((md 2 (e12x12 * (md 2 (e15x15 - e16x16)))) - (md 2 (e9x8 * e14x14)))))
    have k0_B16 := (Z16.out.2.2.2.2.2.2.2.2.2.chg hc).rowOther (Z16.out.2.2.2.2.2.2.2.2.2.apart s17) (num (md 2 ((md 2 (e12x12 * (md 2 (e15x15 - e16x16)))) - (md 2 (e9x8 * e14x14)))))
    have k0_B17 := hres0.row (num (md 2 ((md 2 (e12x12 * (md 2 (e15x15 - e16x16)))) - (md 2 (e9x8 * e14x14)))))
    generalize (u.setRow b17 (num (md 2 ((md 2 (e12x12 * (md 2 (e15x15 - e16x16)))) - (md 2 (e9x8 * e14x14)))))) = u10 at k0_c k0_B2 k0_B3 k0_B4 k0_B11 k0_B16 k0_B17 ⊢
    refine tail_nil rfl ?_
    go_wp2_with fail
    go_meet
    exact ⟨b17, q17, Z16.out.2.2.2.1.apart s17, k0_c, k0_B2, k0_B3, k0_B4, k0_B11, k0_B16, k0_B17⟩
  obtain ⟨b17, rfl, of0, hz⟩ := hcut
  obtain ⟨w17, hw17⟩ : ∃ zz0, zz0 = wc := ⟨_, rfl⟩
  rw [← hw17] at hz ⊢
  have Z17 : Hid _ := hz
  have O17_0 : Hid _ := of0
  clear hw17 hz of0 Z16
  obtain ⟨e17x17, he17x17⟩ : ∃ zz0, zz0 = md 2 ((md 2 (e12x12 * (md 2 (e15x15 - e16x16)))) - (md 2 (e9x8 * e14x14))) := ⟨_, rfl⟩
  have Ee17x17 : Hid (e17x17 = md 2 ((md 2 (e12x12 * (md 2 (e15x15 - e16x16)))) - (md 2 (e9x8 * e14x14)))) := he17x17
  have Ne17x17 : Hid (N256 e17x17) := by show N256 e17x17; rw [he17x17]; exact md_N _ _
  rw [← he17x17] at Z17
  clear he17x17
  go_upto_region 22 with fail
  go_cut [] from 104 to 113 (fun wc => Chg w wc ∧ Ar wc (w.heap.size + 1 + 1) (q3 e16x16 e17x17 (md 2 (e11x11 * (md 2 (z * z'))))))
  case first =>
   refine regM 10 (fun j => false) (fun j v wg => match j with
    | 0 => v = .agg (num e16x16)
    | 1 => v = .agg (num e17x17)
    | 2 => v = .agg (num e11x11)
    | 3 => v = .pointer (some ⟨w.heap.size, 8, none⟩)
    | 4 => v = .agg (num z)
    | 5 => v = .pointer (some ⟨w.heap.size + 1, 8, none⟩)
    | 6 => v = .agg (num z')
    | 7 => v = .agg (num (md 2 (z * z')))
    | 8 => v = .agg (num (md 2 (e11x11 * (md 2 (z * z')))))
    | 9 => v = .agg (q3 e16x16 e17x17 (md 2 (e11x11 * (md 2 (z * z')))))
    | _ => True) (by kernel_rfl) (by decide) (by kernel_rfl) (by kernel_rfl) (by kernel_rfl) (by kernel_rfl) ?_ ?_ ?_ ?_
   ·intro j v u1 u2 h hc; exact h
   ·intro j v u hj ha h
    cases ha
   ·intro i o ac u hi ho hsz hf hg hc
    have hcs : i = 0 ∨ i = 1 ∨ i = 2 ∨ i = 3 ∨ i = 4 ∨ i = 5 ∨ i = 6 ∨ i = 7 ∨ i = 8 ∨ i = 9 := by omega
    rcases hcs with rfl | rfl | rfl | rfl | rfl | rfl | rfl | rfl | rfl | rfl <;> (injection ho with ho; subst ho; refine ⟨wanted_none rfl, ?_⟩)
    ·exact ldN rfl (hf 16 (by kernel_rfl)) (rangeAp (Z17.out.2.2.2.2.2.1.chg hc)) ⟨rfl, fun h => by cases h⟩
    ·exact ldN rfl (hf 17 (by kernel_rfl)) (rangeAp (Z17.out.2.2.2.2.2.2.chg hc)) ⟨rfl, fun h => by cases h⟩
    ·exact ldN rfl (hf 11 (by kernel_rfl)) (rangeAp (Z17.out.2.2.2.2.1.chg hc)) ⟨rfl, fun h => by cases h⟩
    ·have e1 : ac.eval (.tmp 2) = .pointer (some ⟨w.heap.size, 0, none⟩) := hf 2 (by kernel_rfl)
     exact opG_val (by revert e1; generalize ac.eval = ρ; intro e1; simp [go_sem, execOp, e1]) ⟨rfl, fun h => by cases h⟩ (Chg.refl _)
    ·exact ldN rfl (hg 3 (by kernel_rfl) (by decide)) (rangeq3F2 (Z17.out.2.1.chg hc)) ⟨rfl, fun h => by cases h⟩
    ·have e1 : ac.eval (.tmp 3) = .pointer (some ⟨w.heap.size + 1, 0, none⟩) := hf 3 (by kernel_rfl)
     exact opG_val (by revert e1; generalize ac.eval = ρ; intro e1; simp [go_sem, execOp, e1]) ⟨rfl, fun h => by cases h⟩ (Chg.refl _)
    ·exact ldN rfl (hg 5 (by kernel_rfl) (by decide)) (rangeq3F2 (Z17.out.2.2.1.chg hc)) ⟨rfl, fun h => by cases h⟩
    ·exact dM (.tmp 108) (.tmp 110) rfl (hg 4 (by kernel_rfl) (by decide)) (hg 6 (by kernel_rfl) (by decide)) (H1.out.nz) (H2.out.nz) fun _ _ => ⟨rfl, fun h => by cases h⟩
    ·exact dM (.tmp 106) (.tmp 111) rfl (hg 2 (by kernel_rfl) (by decide)) (hg 7 (by kernel_rfl) (by decide)) (Ne11x11.out) (md_N _ _) fun _ _ => ⟨rfl, fun h => by cases h⟩
    ·have e1 : ac.eval (.tmp 104) = .agg (num e16x16) := hg 0 (by kernel_rfl) (by decide)
     have e2 : ac.eval (.tmp 105) = .agg (num e17x17) := hg 1 (by kernel_rfl) (by decide)
     have e3 : ac.eval (.tmp 112) = .agg (num (md 2 (e11x11 * (md 2 (z * z'))))) := hg 8 (by kernel_rfl) (by decide)
     exact opG_built _ [(0, .agg (num e16x16)), (1, .agg (num e17x17)), (2, .agg (num (md 2 (e11x11 * (md 2 (z * z'))))))] rfl (by simp [e1, e2, e3]) (builtTh _ _ _) ⟨rfl, fun h => by cases h⟩
   ·intro u V hV hap hc
    have q113 : V 9 = .agg (q3 e16x16 e17x17 (md 2 (e11x11 * (md 2 (z * z'))))) := hV 9 (by decide)
    have ordO4_0 := O4_0.out
    have ordO5_0 := O5_0.out
    have ordO6_0 := O6_0.out
    have ordO7_0 := O7_0.out
    have ordO8_0 := O8_0.out
    have ordO9_0 := O9_0.out
    have ordO11_0 := O11_0.out
    have ordO12_0 := O12_0.out
    have ordO13_0 := O13_0.out
    have ordO14_0 := O14_0.out
    have ordO15_0 := O15_0.out
    have ordO16_0 := O16_0.out
    have ordO17_0 := O17_0.out
    have hres0 := (Z17.out.2.2.2.1.chg hc)
    refine tail_cons rfl rfl ?_
    refine wp_store_mid 54 (.tmp 4) (.tmp 113) rfl (w.heap.size + 1 + 1) 0 (q3 e16x16 e17x17 (md 2 (e11x11 * (md 2 (z * z'))))) (by rfl) (Eq.trans (by rfl) q113) (by rw [q3_size]; exact nms_there hres0 0 3 (by omega)) (szTh _ _ _) (q3_one _ _ _) ?_
    rw [setRowTh hres0 _ _ _]
    have k0_c : Chg w (u.setRow (w.heap.size + 1 + 1) (q3 e16x16 e17x17 (md 2 (e11x11 * (md 2 (z * z')))))) := ((Z17.out.1.trans hc).setRow (by omega) _)
    have k0_B4 := hres0.row (q3 e16x16 e17x17 (md 2 (e11x11 * (md 2 (z * z')))))
    generalize (u.setRow (w.heap.size + 1 + 1) (q3 e16x16 e17x17 (md 2 (e11x11 * (md 2 (z * z')))))) = u10 at k0_c k0_B4 ⊢
    refine tail_nil rfl ?_
    go_wp2_with fail
    go_meet
    exact ⟨k0_c, k0_B4⟩
  have hz := hcut
  obtain ⟨w18, hw18⟩ : ∃ zz0, zz0 = wc := ⟨_, rfl⟩
  rw [← hw18] at hz ⊢
  have Z18 : Hid _ := hz
  clear hw18 hz Z17
  go_wp2_with fail
  exact bp_Th Try.results29 rfl rfl Z18.out.2 ⟨_, _, _, rfl, JQ.plus H1.out H2.out (of_decide_eq_false HD.out) (of_decide_eq_false HE.out) Ee5x4.out Ee6x5.out Ee7x6.out Ee8x7.out Ee9x8.out Ee10x9.out (of_decide_eq_false HU.out) Ee11x11.out Ee12x12.out Ee13x13.out Ee14x14.out Ee15x15.out Ee16x16.out Ee17x17.out, Z18.out.1⟩
 case true =>
  obtain ⟨bs, hbs⟩ : ∃ bs, decide (e9x8 = e10x9) = bs := ⟨_, rfl⟩
  have HS : Hid (decide (e9x8 = e10x9) = bs) := hbs
  clear hbs
  go_upto_region 11 with fail
  go_cut [62] from 60 to 62 (fun v62 wc => v62 = .bool true ∧ Chg w wc ∧ Ar wc w.heap.size (q3 x y z) ∧ Ar wc (w.heap.size + 1 + 1) (q3 0 0 0) ∧ Ar wc b9 (num e9x8) ∧ Ar wc b10 (num e10x9))
  case first =>
   refine regP 3 (fun j v wg => match j with
    | 0 => v = .agg (num e7x6)
    | 1 => v = .agg (num e8x7)
    | 2 => v = .bool true
    | _ => True) (by decide) (by kernel_rfl) ?_ ?_ ?_
   ·intro j v u1 u2 h hc; exact h
   ·intro i o ac u hi ho hsz hf hg hc
    have hcs : i = 0 ∨ i = 1 ∨ i = 2 := by omega
    rcases hcs with rfl | rfl | rfl <;> (injection ho with ho; subst ho; refine .inl ⟨wanted_none rfl, ?_⟩)
    ·exact ldN rfl (hf 7 (by kernel_rfl)) (rangeAp (Z9.out.2.2.2.2.1.chg hc)) rfl
    ·exact ldN rfl (hf 8 (by kernel_rfl)) (rangeAp (Z9.out.2.2.2.2.2.1.chg hc)) rfl
    ·have e1 : ac.eval (.tmp 60) = .agg (num e7x6) := hg 0 (by decide) (by decide)
     have e2 : ac.eval (.tmp 61) = .agg (num e8x7) := hg 1 (by decide) (by decide)
     exact opG_val (by revert e1 e2; generalize ac.eval = ρ; intro e1 e2; simp [go_sem, execOp, e1, e2, run_eqNum (Ne7x6.out) (Ne8x7.out), HU.out]) rfl (Chg.refl _)
   ·intro u V hV hc
    have q62 : V 2 = .bool true := hV 2 (by decide)
    go_wp2_with fail
    go_meet
    exact ⟨q62, (Z9.out.1.trans hc), (Z9.out.2.1.chg hc), (Z9.out.2.2.2.1.chg hc), (Z9.out.2.2.2.2.2.2.1.chg hc), (Z9.out.2.2.2.2.2.2.2.chg hc)⟩
  obtain ⟨rfl, hz⟩ := hcut
  obtain ⟨w10, hw10⟩ : ∃ zz0, zz0 = wc := ⟨_, rfl⟩
  rw [← hw10] at hz ⊢
  have Z10 : Hid _ := hz
  clear hw10 hz Z9
  have HK : Hid _ := JQ.plus0 H1.out H2.out (of_decide_eq_false HD.out) (of_decide_eq_false HE.out) Ee5x4.out Ee6x5.out Ee7x6.out Ee8x7.out Ee9x8.out Ee10x9.out (of_decide_eq_true HU.out)
  cases bs
  case false =>
   go_upto_region 12 with fail
   go_cut [65] from 63 to 65 (fun v65 wc => v65 = .bool true ∧ Chg w wc ∧ Ar wc (w.heap.size + 1 + 1) (q3 0 0 0))
   case first =>
    refine regP 3 (fun j v wg => match j with
     | 0 => v = .agg (num e9x8)
     | 1 => v = .agg (num e10x9)
     | 2 => v = .bool true
     | _ => True) (by decide) (by kernel_rfl) ?_ ?_ ?_
    ·intro j v u1 u2 h hc; exact h
    ·intro i o ac u hi ho hsz hf hg hc
     have hcs : i = 0 ∨ i = 1 ∨ i = 2 := by omega
     rcases hcs with rfl | rfl | rfl <;> (injection ho with ho; subst ho; refine .inl ⟨wanted_none rfl, ?_⟩)
     ·exact ldN rfl (hf 9 (by kernel_rfl)) (rangeAp (Z10.out.2.2.2.1.chg hc)) rfl
     ·exact ldN rfl (hf 10 (by kernel_rfl)) (rangeAp (Z10.out.2.2.2.2.chg hc)) rfl
     ·have e1 : ac.eval (.tmp 63) = .agg (num e9x8) := hg 0 (by decide) (by decide)
      have e2 : ac.eval (.tmp 64) = .agg (num e10x9) := hg 1 (by decide) (by decide)
      exact opG_val (by revert e1 e2; generalize ac.eval = ρ; intro e1 e2; simp [go_sem, execOp, e1, e2, run_eqNum (Ne9x8.out) (Ne10x9.out), HS.out]) rfl (Chg.refl _)
    ·intro u V hV hc
     have q65 : V 2 = .bool true := hV 2 (by decide)
     go_wp2_with fail
     go_meet
     exact ⟨q65, (Z10.out.1.trans hc), (Z10.out.2.2.1.chg hc)⟩
   obtain ⟨rfl, hz⟩ := hcut
   obtain ⟨w11, hw11⟩ : ∃ zz0, zz0 = wc := ⟨_, rfl⟩
   rw [← hw11] at hz ⊢
   have Z11 : Hid _ := hz
   clear hw11 hz Z10
   go_upto_region 13 with fail
   go_cut [] from 66 to 68 (fun wc => Chg w wc ∧ Ar wc (w.heap.size + 1 + 1) (q3 1 1 0))
   case first =>
    refine regP 3 (fun j v wg => match j with
     | 0 => v = .agg (num 1)
     | 1 => v = .agg (num 1)
     | 2 => v = .agg (q3 1 1 0)
     | _ => True) (by decide) (by kernel_rfl) ?_ ?_ ?_
    ·intro j v u1 u2 h hc; exact h
    ·intro i o ac u hi ho hsz hf hg hc
     have hcs : i = 0 ∨ i = 1 ∨ i = 2 := by omega
     rcases hcs with rfl | rfl | rfl <;> (injection ho with ho; subst ho; refine .inl ⟨wanted_none rfl, ?_⟩)
     ·exact opG_built _ [(0, .int .u64 1)] rfl (by kernel_rfl) (by kernel_rfl) rfl
     ·exact opG_built _ [(0, .int .u64 1)] rfl (by kernel_rfl) (by kernel_rfl) rfl
     ·have e1 : ac.eval (.tmp 66) = .agg (num 1) := hg 0 (by decide) (by decide)
      have e2 : ac.eval (.tmp 67) = .agg (num 1) := hg 1 (by decide) (by decide)
      exact opG_built _ [(0, .agg (num 1)), (1, .agg (num 1))] rfl (by simp [e1, e2]) (by kernel_rfl) rfl
    ·intro u V hV hc
     have q68 : V 2 = .agg (q3 1 1 0) := hV 2 (by decide)
     have ordO4_0 := O4_0.out
     have ordO5_0 := O5_0.out
     have ordO6_0 := O6_0.out
     have ordO7_0 := O7_0.out
     have ordO8_0 := O8_0.out
     have ordO9_0 := O9_0.out
     have hres0 := (Z11.out.2.chg hc)
     refine wpList_store_mid rfl 54 (.tmp 4) (.tmp 68) rfl (w.heap.size + 1 + 1) 0 (q3 1 1 0) (by rfl) (Eq.trans (by rfl) q68) (by rw [q3_size]; exact nms_there hres0 0 3 (by omega)) (szTh _ _ _) (q3_one _ _ _) ?_
     rw [setRowTh hres0 _ _ _]
     have k0_c : Chg w (u.setRow (w.heap.size + 1 + 1) (q3 1 1 0)) := ((Z11.out.1.trans hc).setRow (by omega) _)
     have k0_B4 := hres0.row (q3 1 1 0)
     generalize (u.setRow (w.heap.size + 1 + 1) (q3 1 1 0)) = u10 at k0_c k0_B4 ⊢
     go_wp2_with fail
     go_meet
     exact ⟨k0_c, k0_B4⟩
   have hz := hcut
   obtain ⟨w12, hw12⟩ : ∃ zz0, zz0 = wc := ⟨_, rfl⟩
   rw [← hw12] at hz ⊢
   have Z12 : Hid _ := hz
   clear hw12 hz Z11
   go_wp2_with fail
   exact bp_Th Try.results29 rfl rfl Z12.out.2 ⟨_, _, _, rfl, HK.out.2 (of_decide_eq_false HS.out), Z12.out.1⟩
  case true =>
   go_upto_region 12 with fail
   go_cut [65] from 63 to 65 (fun v65 wc => v65 = .bool false ∧ Chg w wc ∧ Ar wc w.heap.size (q3 x y z) ∧ Ar wc (w.heap.size + 1 + 1) (q3 0 0 0))
   case first =>
    refine regP 3 (fun j v wg => match j with
     | 0 => v = .agg (num e9x8)
     | 1 => v = .agg (num e10x9)
     | 2 => v = .bool false
     | _ => True) (by decide) (by kernel_rfl) ?_ ?_ ?_
    ·intro j v u1 u2 h hc; exact h
    ·intro i o ac u hi ho hsz hf hg hc
     have hcs : i = 0 ∨ i = 1 ∨ i = 2 := by omega
     rcases hcs with rfl | rfl | rfl <;> (injection ho with ho; subst ho; refine .inl ⟨wanted_none rfl, ?_⟩)
     ·exact ldN rfl (hf 9 (by kernel_rfl)) (rangeAp (Z10.out.2.2.2.1.chg hc)) rfl
     ·exact ldN rfl (hf 10 (by kernel_rfl)) (rangeAp (Z10.out.2.2.2.2.chg hc)) rfl
     ·have e1 : ac.eval (.tmp 63) = .agg (num e9x8) := hg 0 (by decide) (by decide)
      have e2 : ac.eval (.tmp 64) = .agg (num e10x9) := hg 1 (by decide) (by decide)
      exact opG_val (by revert e1 e2; generalize ac.eval = ρ; intro e1 e2; simp [go_sem, execOp, e1, e2, run_eqNum (Ne9x8.out) (Ne10x9.out), HS.out]) rfl (Chg.refl _)
    ·intro u V hV hc
     have q65 : V 2 = .bool false := hV 2 (by decide)
     go_wp2_with fail
     go_meet
     exact ⟨q65, (Z10.out.1.trans hc), (Z10.out.2.1.chg hc), (Z10.out.2.2.1.chg hc)⟩
   obtain ⟨rfl, hz⟩ := hcut
   obtain ⟨w11, hw11⟩ : ∃ zz0, zz0 = wc := ⟨_, rfl⟩
   rw [← hw11] at hz ⊢
   have Z11 : Hid _ := hz
   clear hw11 hz Z10
   go_upto_region 14 with fail
   go_cut [] from 69 to 70 (fun wc => ∃ x70 y70 z70, JQ x70 y70 z70 (AW P P) ∧ Chg w wc ∧ Ar wc (w.heap.size + 1 + 1) (q3 x70 y70 z70))
   case first =>
    refine regP 2 (fun j v wg => match j with
     | 0 => v = .agg (q3 x y z)
     | 1 => ∃ xa ya za, v = .agg (q3 xa ya za) ∧ JQ xa ya za (AW P P)
     | _ => True) (by decide) (by kernel_rfl) ?_ ?_ ?_
    ·intro j v u1 u2 h hc; exact h
    ·intro i o ac u hi ho hsz hf hg hc
     have hcs : i = 0 ∨ i = 1 := by omega
     rcases hcs with rfl | rfl <;> (injection ho with ho; subst ho; refine .inl ⟨wanted_none rfl, ?_⟩)
     ·have e1 : ac.eval (.tmp 2) = .pointer (some ⟨w.heap.size, 0, none⟩) := hf 2 (by kernel_rfl)
      exact wp_load_mid 54 (.tmp 2) rfl _ _ e1 ((q3 x y z).toList) _ (rangeAp (Z11.out.2.1.chg hc)) Try.underlying54 rfl (infoTh _ _ _) ⟨_, rfl, rfl, Chg.refl _⟩
     ·have e1 : ac.eval (.tmp 69) = .agg (q3 x y z) := hg 0 (by decide) (by decide)
      refine opG_go 56 Try.f56 #[.tmp 69] #[54] rfl Try.func56 (by kernel_rfl) (by kernel_rfl) (by simp [e1]) (Calls.mono (twiceS_any _ _ _ P H1.out _) ?_)
      rintro r u2 ⟨x70, y70, z70, rfl, m70, hc2⟩
      exact ⟨_, rfl, ⟨x70, y70, z70, rfl, m70⟩, hc2⟩
    ·intro u V hV hc
     obtain ⟨x70, y70, z70, q70, m70⟩ := hV 1 (by decide)
     have ordO4_0 := O4_0.out
     have ordO5_0 := O5_0.out
     have ordO6_0 := O6_0.out
     have ordO7_0 := O7_0.out
     have ordO8_0 := O8_0.out
     have ordO9_0 := O9_0.out
     have hres0 := (Z11.out.2.2.chg hc)
     refine wpList_store_mid rfl 54 (.tmp 4) (.tmp 70) rfl (w.heap.size + 1 + 1) 0 (q3 x70 y70 z70) (by rfl) (Eq.trans (by rfl) q70) (by rw [q3_size]; exact nms_there hres0 0 3 (by omega)) (szTh _ _ _) (q3_one _ _ _) ?_
     rw [setRowTh hres0 _ _ _]
     have k0_c : Chg w (u.setRow (w.heap.size + 1 + 1) (q3 x70 y70 z70)) := ((Z11.out.1.trans hc).setRow (by omega) _)
     have k0_B4 := hres0.row (q3 x70 y70 z70)
     generalize (u.setRow (w.heap.size + 1 + 1) (q3 x70 y70 z70)) = u10 at k0_c k0_B4 ⊢
     go_wp2_with fail
     go_meet
     exact ⟨x70, y70, z70, m70, k0_c, k0_B4⟩
   obtain ⟨x70, y70, z70, m70, hz⟩ := hcut
   obtain ⟨w12, hw12⟩ : ∃ zz0, zz0 = wc := ⟨_, rfl⟩
   rw [← hw12] at hz ⊢
   have Z12 : Hid _ := hz
   have Mm70 : Hid _ := m70
   clear hw12 hz m70 Z11
   have hk := HK.out.1 (of_decide_eq_true HS.out)
   have HM : Hid (JQ x70 y70 z70 (AW P Q)) := by show JQ x70 y70 z70 (AW P Q); rw [← hk]; exact Mm70.out
   clear hk
   go_wp2_with fail
   exact bp_Th Try.results29 rfl rfl Z12.out.2 ⟨_, _, _, rfl, HM.out, Z12.out.1⟩
theorem plusS_any (x y z x' y' z' : Int) (P Q : PQt) (h1 : JQ x y z P) (h2 : JQ x' y' z' Q) (w : World) : Calls Try.prog 29 #[.agg (q3 x y z), .agg (q3 x' y' z')] w fun r w' => ∃ X Y Z, r = .returned (.agg (q3 X Y Z)) ∧ JQ X Y Z (AW P Q) ∧ Chg w w' := by
 cases hd : decide (z = 0) with
 | true =>
  have e : AW P Q = Q := by rw [h1.none.1 (of_decide_eq_true hd)]; rfl
  exact (plusS_1 x y z x' y' z' P Q h1 h2 hd _ rfl w).mono fun r w' hq => ⟨_, _, _, hq.1, by rw [e]; exact h2, hq.2⟩
 | false =>
  cases hd' : decide (z' = 0) with
  | true =>
   have e : AW P Q = P := by rw [h2.none.1 (of_decide_eq_true hd')]; exact wad_none P
   exact (plusS_2 x y z x' y' z' P Q h1 h2 hd hd' _ rfl w).mono fun r w' hq => ⟨_, _, _, hq.1, by rw [e]; exact h1, hq.2⟩
  | false => exact plusS_3 x y z x' y' z' P Q h1 h2 hd hd' w
end Go.Proofs.Ytbdgmkejmfjobaa
