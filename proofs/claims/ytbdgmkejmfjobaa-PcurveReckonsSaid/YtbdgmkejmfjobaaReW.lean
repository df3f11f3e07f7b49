/-
  PcurveReckons walked.
-/
import Derived.Test.YtbdgmkejmfjobaaGp
namespace Go.Proofs.Ytbdgmkejmfjobaa
open Go.RowKit
set_option linter.unusedVariables false
set_option maxRecDepth 100000
set_option maxHeartbeats 16000000 in
theorem reckons_walk (z : Bool) (x y : Int) (z' : Bool) (x' y' n : Int) (hx : N256 x) (hy : N256 y) (hx' : N256 x') (hy' : N256 y') (hn : N256 n) (w : World) : Calls Try.prog 3 #[.agg (pt z x y), .agg (pt z' x' y'), .agg (num n)] w fun r w' => r = .returned (.bool true) ∧ Chg w w' := by
 have HN : Hid (N256 x ∧ N256 y ∧ N256 x' ∧ N256 y' ∧ N256 n) := ⟨hx, hy, hx', hy', hn⟩
 obtain ⟨S, hS⟩ : ∃ S, addR z x y z' x' y' = S := ⟨_, rfl⟩
 obtain ⟨M, hM⟩ : ∃ M, mulR n z x y = M := ⟨_, rfl⟩
 obtain ⟨b, hb⟩ : ∃ b, onR z x y = b := ⟨_, rfl⟩
 have HS : Hid (addR z x y z' x' y' = S) := hS
 have HM : Hid (mulR n z x y = M) := hM
 have HB : Hid (onR z x y = b) := hb
 clear hx hy hx' hy' hn hS hM hb
 have hsA0 := pt_size z x y
 obtain ⟨A0, hA0⟩ : ∃ zz0, zz0 = pt z x y := ⟨_, rfl⟩
 have HA0 : Hid (A0 = pt z x y) := hA0
 have hsA1 := pt_size z' x' y'
 obtain ⟨A1, hA1⟩ : ∃ zz0, zz0 = pt z' x' y' := ⟨_, rfl⟩
 have HA1 : Hid (A1 = pt z' x' y') := hA1
 have hsA2 := num_size n
 obtain ⟨A2, hA2⟩ : ∃ zz0, zz0 = num n := ⟨_, rfl⟩
 have HA2 : Hid (A2 = num n) := hA2
 rw [← hA0] at hsA0 ⊢
 rw [← hA1] at hsA1 ⊢
 rw [← hA2] at hsA2 ⊢
 clear hA0 hA1 hA2
 go_enter Try.func3, Try.ntmps3
 go_upto_region 1 with fail
 obtain ⟨w1, hw1⟩ : ∃ w1, w1 = ((w.alloc (.cells A0 26)).alloc (.cells A1 26)).alloc (.cells A2 24) := ⟨_, rfl⟩
 have Z1 : Hid (Chg w w1 ∧ Ar w1 w.heap.size (pt z x y) ∧ Ar w1 (w.heap.size + 1) (pt z' x' y') ∧ Ar w1 (w.heap.size + 1 + 1) (num n)) := by
  have hnew0 := Ar.new w (pt z x y) 26
  have hnew1 := Ar.new (w.alloc (.cells (pt z x y) 26)) (pt z' x' y') 26
  rw [World.size_alloc] at hnew1
  have hnew2 := Ar.new ((w.alloc (.cells (pt z x y) 26)).alloc (.cells (pt z' x' y') 26)) (num n) 24
  rw [World.size_alloc, World.size_alloc] at hnew2
  rw [hw1, HA0.out, HA1.out, HA2.out]
  exact ⟨((((Chg.refl w).alloc _).alloc _).alloc _), (((hnew0).alloc _).alloc _), ((hnew1).alloc _), (hnew2)⟩
 rw [← hw1]
 clear hw1 hsA0 hsA1 hsA2 HA0 HA1 HA2
 go_cut [7] from 7 to 10 (fun v7 wc => v7 = .bool true ∧ Chg w wc ∧ Ar wc w.heap.size (pt z x y) ∧ Ar wc (w.heap.size + 1) (pt z' x' y') ∧ Ar wc (w.heap.size + 1 + 1) (num n))
 case first =>
  refine regP 2 (fun j v wg => match j with
   | 0 => v = .bool true
   | 1 => v = .bool true
   | _ => True) (by decide) (by kernel_rfl) ?_ ?_ ?_
  ·intro j v u1 u2 h hc; exact h
  ·intro i o ac u hi ho hsz hf hg hc
   have hcs : i = 0 ∨ i = 1 := by omega
   rcases hcs with rfl | rfl <;> (injection ho with ho; subst ho; refine .inl ⟨wanted_none rfl, ?_⟩)
   ·refine opG_go 8 Try.f8 #[] #[] rfl Try.func8 (by kernel_rfl) (by kernel_rfl) (by simp []) (Calls.mono (headQ_any _) ?_)
    rintro r u2 ⟨rfl, hc2⟩
    exact ⟨_, rfl, rfl, hc2⟩
   ·have e1 : ac.eval (.tmp 10) = .bool true := hg 0 (by decide) (by decide)
    exact opG_val (by simp [execOp, e1]) rfl (Chg.refl _)
  ·intro u V hV hc
   have q7 : V 1 = .bool true := hV 1 (by decide)
   go_wp2_with fail
   go_meet
   exact ⟨q7, (Z1.out.1.trans hc), (Z1.out.2.1.chg hc), (Z1.out.2.2.1.chg hc), (Z1.out.2.2.2.chg hc)⟩
 obtain ⟨rfl, hz⟩ := hcut
 obtain ⟨w2, hw2⟩ : ∃ zz0, zz0 = wc := ⟨_, rfl⟩
 rw [← hw2] at hz ⊢
 have Z2 : Hid _ := hz
 clear hw2 hz Z1
 go_upto_region 2 with fail
 go_cut [8] from 8 to 17 (fun v8 wc => v8 = .bool true ∧ Chg w wc ∧ Ar wc w.heap.size (pt z x y) ∧ Ar wc (w.heap.size + 1 + 1) (num n))
 case first =>
  refine regN 8 (fun j v wg => match j with
   | 0 => v = .agg (pt z x y)
   | 1 => v = .agg (pt z' x' y')
   | 2 => v = .agg (pt (zP S) (xP S) (yP S))
   | 3 => v = .agg (pt z x y)
   | 4 => v = .agg (pt z' x' y')
   | 5 => v = .agg (pt (zP S) (xP S) (yP S))
   | 6 => v = .bool true
   | 7 => v = .bool true
   | _ => True) (by kernel_rfl) (by kernel_rfl) (by kernel_rfl) (by kernel_rfl) ?_ ?_ ?_
  ·intro j v u1 u2 h hc; exact h
  ·intro i o ac u hi ho hsz hf hg hc
   have hcs : i = 0 ∨ i = 1 ∨ i = 2 ∨ i = 3 ∨ i = 4 ∨ i = 5 ∨ i = 6 ∨ i = 7 := by omega
   rcases hcs with rfl | rfl | rfl | rfl | rfl | rfl | rfl | rfl <;> (injection ho with ho; subst ho; refine .inl ⟨wanted_none rfl, ?_⟩)
   ·have e1 : ac.eval (.tmp 3) = .pointer (some ⟨w.heap.size, 0, none⟩) := hf 3 (by kernel_rfl)
    exact wp_load_mid 26 (.tmp 3) rfl _ _ e1 ((pt z x y).toList) _ (rangeAp (Z2.out.2.1.chg hc)) Try.underlying26 rfl (infoPt _ _ _) ⟨_, rfl, rfl, Chg.refl _⟩
   ·have e1 : ac.eval (.tmp 4) = .pointer (some ⟨w.heap.size + 1, 0, none⟩) := hf 4 (by kernel_rfl)
    exact wp_load_mid 26 (.tmp 4) rfl _ _ e1 ((pt z' x' y').toList) _ (rangeAp (Z2.out.2.2.1.chg hc)) Try.underlying26 rfl (infoPt _ _ _) ⟨_, rfl, rfl, Chg.refl _⟩
   ·have e1 : ac.eval (.tmp 11) = .agg (pt z x y) := hg 0 (by kernel_rfl) (by decide)
    have e2 : ac.eval (.tmp 12) = .agg (pt z' x' y') := hg 1 (by kernel_rfl) (by decide)
    refine opG_go 9 Try.f9 #[.tmp 11, .tmp 12] #[26, 26] rfl Try.func9 (by kernel_rfl) (by kernel_rfl) (by simp [e1, e2]) (Calls.mono (padQ_any _ _ _ _ _ _ HN.out.1 HN.out.2.1 HN.out.2.2.1 HN.out.2.2.2.1 S HS.out _) ?_)
    rintro r u2 ⟨rfl, hc2⟩
    exact ⟨_, rfl, rfl, hc2⟩
   ·have e1 : ac.eval (.tmp 3) = .pointer (some ⟨w.heap.size, 0, none⟩) := hf 3 (by kernel_rfl)
    exact wp_load_mid 26 (.tmp 3) rfl _ _ e1 ((pt z x y).toList) _ (rangeAp (Z2.out.2.1.chg hc)) Try.underlying26 rfl (infoPt _ _ _) ⟨_, rfl, rfl, Chg.refl _⟩
   ·have e1 : ac.eval (.tmp 4) = .pointer (some ⟨w.heap.size + 1, 0, none⟩) := hf 4 (by kernel_rfl)
    exact wp_load_mid 26 (.tmp 4) rfl _ _ e1 ((pt z' x' y').toList) _ (rangeAp (Z2.out.2.2.1.chg hc)) Try.underlying26 rfl (infoPt _ _ _) ⟨_, rfl, rfl, Chg.refl _⟩
   ·have e1 : ac.eval (.tmp 14) = .agg (pt z x y) := hg 3 (by kernel_rfl) (by decide)
    have e2 : ac.eval (.tmp 15) = .agg (pt z' x' y') := hg 4 (by kernel_rfl) (by decide)
    refine opG_go 10 Try.f10 #[.tmp 14, .tmp 15] #[26, 26] rfl Try.func10 (by kernel_rfl) (by kernel_rfl) (by simp [e1, e2]) (Calls.mono (padS_any _ _ _ _ _ _ HN.out.1 HN.out.2.1 HN.out.2.2.1 HN.out.2.2.2.1 S HS.out _) ?_)
    rintro r u2 ⟨rfl, hc2⟩
    exact ⟨_, rfl, rfl, hc2⟩
   ·have e1 : ac.eval (.tmp 13) = .agg (pt (zP S) (xP S) (yP S)) := hg 2 (by kernel_rfl) (by decide)
    have e2 : ac.eval (.tmp 16) = .agg (pt (zP S) (xP S) (yP S)) := hg 5 (by kernel_rfl) (by decide)
    exact opG_val (by revert e1 e2; generalize ac.eval = ρ; intro e1 e2; simp [go_sem, execOp, e1, e2, run_eqPt (xP_N _) (yP_N _) (xP_N _) (yP_N _), eqPt_self]) rfl (Chg.refl _)
   ·have e1 : ac.eval (.tmp 17) = .bool true := hg 6 (by kernel_rfl) (by decide)
    exact opG_val (by simp [execOp, e1]) rfl (Chg.refl _)
  ·intro u V hV hc
   have q8 : V 7 = .bool true := hV 7 (by decide)
   go_wp2_with fail
   go_meet
   exact ⟨q8, (Z2.out.1.trans hc), (Z2.out.2.1.chg hc), (Z2.out.2.2.2.chg hc)⟩
 obtain ⟨rfl, hz⟩ := hcut
 obtain ⟨w3, hw3⟩ : ∃ zz0, zz0 = wc := ⟨_, rfl⟩
 rw [← hw3] at hz ⊢
 have Z3 : Hid _ := hz
 clear hw3 hz Z2
 go_upto_region 3 with fail
 go_cut [9] from 9 to 24 (fun v9 wc => v9 = .bool true ∧ Chg w wc ∧ Ar wc w.heap.size (pt z x y))
 case first =>
  refine regN 8 (fun j v wg => match j with
   | 0 => v = .agg (num n)
   | 1 => v = .agg (pt z x y)
   | 2 => v = .agg (pt (zP M) (xP M) (yP M))
   | 3 => v = .agg (num n)
   | 4 => v = .agg (pt z x y)
   | 5 => v = .agg (pt (zP M) (xP M) (yP M))
   | 6 => v = .bool true
   | 7 => v = .bool true
   | _ => True) (by kernel_rfl) (by kernel_rfl) (by kernel_rfl) (by kernel_rfl) ?_ ?_ ?_
  ·intro j v u1 u2 h hc; exact h
  ·intro i o ac u hi ho hsz hf hg hc
   have hcs : i = 0 ∨ i = 1 ∨ i = 2 ∨ i = 3 ∨ i = 4 ∨ i = 5 ∨ i = 6 ∨ i = 7 := by omega
   rcases hcs with rfl | rfl | rfl | rfl | rfl | rfl | rfl | rfl <;> (injection ho with ho; subst ho; refine .inl ⟨wanted_none rfl, ?_⟩)
   ·exact ldN rfl (hf 5 (by kernel_rfl)) (rangeAp (Z3.out.2.2.chg hc)) rfl
   ·have e1 : ac.eval (.tmp 3) = .pointer (some ⟨w.heap.size, 0, none⟩) := hf 3 (by kernel_rfl)
    exact wp_load_mid 26 (.tmp 3) rfl _ _ e1 ((pt z x y).toList) _ (rangeAp (Z3.out.2.1.chg hc)) Try.underlying26 rfl (infoPt _ _ _) ⟨_, rfl, rfl, Chg.refl _⟩
   ·have e1 : ac.eval (.tmp 18) = .agg (num n) := hg 0 (by kernel_rfl) (by decide)
    have e2 : ac.eval (.tmp 19) = .agg (pt z x y) := hg 1 (by kernel_rfl) (by decide)
    refine opG_go 11 Try.f11 #[.tmp 18, .tmp 19] #[24, 26] rfl Try.func11 (by kernel_rfl) (by kernel_rfl) (by simp [e1, e2]) (Calls.mono (multQ_any _ _ _ _ HN.out.2.2.2.2 HN.out.1 HN.out.2.1 M HM.out _) ?_)
    rintro r u2 ⟨rfl, hc2⟩
    exact ⟨_, rfl, rfl, hc2⟩
   ·exact ldN rfl (hf 5 (by kernel_rfl)) (rangeAp (Z3.out.2.2.chg hc)) rfl
   ·have e1 : ac.eval (.tmp 3) = .pointer (some ⟨w.heap.size, 0, none⟩) := hf 3 (by kernel_rfl)
    exact wp_load_mid 26 (.tmp 3) rfl _ _ e1 ((pt z x y).toList) _ (rangeAp (Z3.out.2.1.chg hc)) Try.underlying26 rfl (infoPt _ _ _) ⟨_, rfl, rfl, Chg.refl _⟩
   ·have e1 : ac.eval (.tmp 21) = .agg (num n) := hg 3 (by kernel_rfl) (by decide)
    have e2 : ac.eval (.tmp 22) = .agg (pt z x y) := hg 4 (by kernel_rfl) (by decide)
    refine opG_go 12 Try.f12 #[.tmp 21, .tmp 22] #[24, 26] rfl Try.func12 (by kernel_rfl) (by kernel_rfl) (by simp [e1, e2]) (Calls.mono (multS_any _ _ _ _ HN.out.2.2.2.2 HN.out.1 HN.out.2.1 M HM.out _) ?_)
    rintro r u2 ⟨rfl, hc2⟩
    exact ⟨_, rfl, rfl, hc2⟩
   ·have e1 : ac.eval (.tmp 20) = .agg (pt (zP M) (xP M) (yP M)) := hg 2 (by kernel_rfl) (by decide)
    have e2 : ac.eval (.tmp 23) = .agg (pt (zP M) (xP M) (yP M)) := hg 5 (by kernel_rfl) (by decide)
    exact opG_val (by revert e1 e2; generalize ac.eval = ρ; intro e1 e2; simp [go_sem, execOp, e1, e2, run_eqPt (xP_N _) (yP_N _) (xP_N _) (yP_N _), eqPt_self]) rfl (Chg.refl _)
   ·have e1 : ac.eval (.tmp 24) = .bool true := hg 6 (by kernel_rfl) (by decide)
    exact opG_val (by simp [execOp, e1]) rfl (Chg.refl _)
  ·intro u V hV hc
   have q9 : V 7 = .bool true := hV 7 (by decide)
   go_wp2_with fail
   go_meet
   exact ⟨q9, (Z3.out.1.trans hc), (Z3.out.2.1.chg hc)⟩
 obtain ⟨rfl, hz⟩ := hcut
 obtain ⟨w4, hw4⟩ : ∃ zz0, zz0 = wc := ⟨_, rfl⟩
 rw [← hw4] at hz ⊢
 have Z4 : Hid _ := hz
 clear hw4 hz Z3
 go_upto_region 4 with fail
 go_cut [6] from 6 to 43 (fun v6 wc => v6 = .bool true ∧ Chg w wc)
 case first =>
  refine regN 20 (fun j v wg => match j with
   | 0 => v = .bool true
   | 1 => v = .bool true
   | 2 => v = .bool true
   | 3 => v = .bool true
   | 4 => v = .bool true
   | 5 => v = .bool true
   | 6 => v = .bool true
   | 7 => v = .bool true
   | 8 => v = .agg (pt z x y)
   | 9 => v = .bool b
   | 10 => v = .agg (pt z x y)
   | 11 => v = .bool b
   | 12 => v = .bool true
   | 13 => v = .bool true
   | 14 => v = .bool true
   | 15 => v = .agg (pt false gX gY)
   | 16 => v = .agg (pt false gX gY)
   | 17 => v = .bool true
   | 18 => v = .bool true
   | 19 => v = .bool true
   | _ => True) (by kernel_rfl) (by kernel_rfl) (by kernel_rfl) (by kernel_rfl) ?_ ?_ ?_
  ·intro j v u1 u2 h hc; exact h
  ·intro i o ac u hi ho hsz hf hg hc
   have hcs : i = 0 ∨ i = 1 ∨ i = 2 ∨ i = 3 ∨ i = 4 ∨ i = 5 ∨ i = 6 ∨ i = 7 ∨ i = 8 ∨ i = 9 ∨ i = 10 ∨ i = 11 ∨ i = 12 ∨ i = 13 ∨ i = 14 ∨ i = 15 ∨ i = 16 ∨ i = 17 ∨ i = 18 ∨ i = 19 := by omega
   rcases hcs with rfl | rfl | rfl | rfl | rfl | rfl | rfl | rfl | rfl | rfl | rfl | rfl | rfl | rfl | rfl | rfl | rfl | rfl | rfl | rfl <;> (injection ho with ho; subst ho)
   ·refine .inl ⟨wanted_none rfl, ?_⟩
    have e1 : ac.eval (.tmp 7) = .bool true := hf 7 (by kernel_rfl)
    exact opG_val (by simp [execOp, e1]) rfl (Chg.refl _)
   ·refine .inl ⟨wanted_none rfl, ?_⟩
    have e1 : ac.eval (.tmp 25) = .bool true := hg 0 (by kernel_rfl) (by decide)
    exact opG_val (by simp [execOp, e1]) rfl (Chg.refl _)
   ·refine .inl ⟨wanted_by (T := _) (by kernel_rfl) hsz rfl (by decide : 1 < 20) rfl (hg 1 (by kernel_rfl) (by decide)), ?_⟩
    have e1 : ac.eval (.tmp 8) = .bool true := hf 8 (by kernel_rfl)
    exact opG_val (by simp [execOp, e1]) rfl (Chg.refl _)
   ·refine .inl ⟨wanted_none rfl, ?_⟩
    have e1 : ac.eval (.tmp 26) = .bool true := hg 1 (by kernel_rfl) (by decide)
    have e2 : ac.eval (.tmp 27) = .bool true := hg 2 (by kernel_rfl) (by decide)
    have e3 : ac.eval (.const (.bool false)) = .bool false := rfl
    exact opG_val (by revert e1 e2 e3; generalize ac.eval = ρ; intro e1 e2 e3; simp [go_sem, execOp, e1, e2, e3]) rfl (Chg.refl _)
   ·refine .inl ⟨wanted_none rfl, ?_⟩
    have e1 : ac.eval (.tmp 28) = .bool true := hg 3 (by kernel_rfl) (by decide)
    exact opG_val (by simp [execOp, e1]) rfl (Chg.refl _)
   ·refine .inl ⟨wanted_by (T := _) (by kernel_rfl) hsz rfl (by decide : 4 < 20) rfl (hg 4 (by kernel_rfl) (by decide)), ?_⟩
    have e1 : ac.eval (.tmp 9) = .bool true := hf 9 (by kernel_rfl)
    exact opG_val (by simp [execOp, e1]) rfl (Chg.refl _)
   ·refine .inl ⟨wanted_none rfl, ?_⟩
    have e1 : ac.eval (.tmp 29) = .bool true := hg 4 (by kernel_rfl) (by decide)
    have e2 : ac.eval (.tmp 30) = .bool true := hg 5 (by kernel_rfl) (by decide)
    have e3 : ac.eval (.const (.bool false)) = .bool false := rfl
    exact opG_val (by revert e1 e2 e3; generalize ac.eval = ρ; intro e1 e2 e3; simp [go_sem, execOp, e1, e2, e3]) rfl (Chg.refl _)
   ·refine .inl ⟨wanted_none rfl, ?_⟩
    have e1 : ac.eval (.tmp 31) = .bool true := hg 6 (by kernel_rfl) (by decide)
    exact opG_val (by simp [execOp, e1]) rfl (Chg.refl _)
   ·refine .inl ⟨wanted_by (T := _) (by kernel_rfl) hsz rfl (by decide : 7 < 20) rfl (hg 7 (by kernel_rfl) (by decide)), ?_⟩
    have e1 : ac.eval (.tmp 3) = .pointer (some ⟨w.heap.size, 0, none⟩) := hf 3 (by kernel_rfl)
    exact wp_load_mid 26 (.tmp 3) rfl _ _ e1 ((pt z x y).toList) _ (rangeAp (Z4.out.2.chg hc)) Try.underlying26 rfl (infoPt _ _ _) ⟨_, rfl, rfl, Chg.refl _⟩
   ·refine .inl ⟨wanted_by (T := _) (by kernel_rfl) hsz rfl (by decide : 7 < 20) rfl (hg 7 (by kernel_rfl) (by decide)), ?_⟩
    have e1 : ac.eval (.tmp 33) = .agg (pt z x y) := hg 8 (by kernel_rfl) (by decide)
    refine opG_go 13 Try.f13 #[.tmp 33] #[26] rfl Try.func13 (by kernel_rfl) (by kernel_rfl) (by simp [e1]) (Calls.mono (onQL_any HN.out.1 HN.out.2.1 HB.out _) ?_)
    rintro r u2 ⟨rfl, hc2⟩
    exact ⟨_, rfl, rfl, hc2⟩
   ·refine .inl ⟨wanted_by (T := _) (by kernel_rfl) hsz rfl (by decide : 7 < 20) rfl (hg 7 (by kernel_rfl) (by decide)), ?_⟩
    have e1 : ac.eval (.tmp 3) = .pointer (some ⟨w.heap.size, 0, none⟩) := hf 3 (by kernel_rfl)
    exact wp_load_mid 26 (.tmp 3) rfl _ _ e1 ((pt z x y).toList) _ (rangeAp (Z4.out.2.chg hc)) Try.underlying26 rfl (infoPt _ _ _) ⟨_, rfl, rfl, Chg.refl _⟩
   ·refine .inl ⟨wanted_by (T := _) (by kernel_rfl) hsz rfl (by decide : 7 < 20) rfl (hg 7 (by kernel_rfl) (by decide)), ?_⟩
    have e1 : ac.eval (.tmp 35) = .agg (pt z x y) := hg 10 (by kernel_rfl) (by decide)
    refine opG_go 14 Try.f14 #[.tmp 35] #[26] rfl Try.func14 (by kernel_rfl) (by kernel_rfl) (by simp [e1]) (Calls.mono (onSL_any HN.out.1 HN.out.2.1 HB.out _) ?_)
    rintro r u2 ⟨rfl, hc2⟩
    exact ⟨_, rfl, rfl, hc2⟩
   ·refine .inl ⟨wanted_by (T := _) (by kernel_rfl) hsz rfl (by decide : 7 < 20) rfl (hg 7 (by kernel_rfl) (by decide)), ?_⟩
    have e1 : ac.eval (.tmp 34) = .bool b := hg 9 (by kernel_rfl) (by decide)
    have e2 : ac.eval (.tmp 36) = .bool b := hg 11 (by kernel_rfl) (by decide)
    exact opG_val (by revert e1 e2; generalize ac.eval = ρ; intro e1 e2; simp [go_sem, execOp, e1, e2]) rfl (Chg.refl _)
   ·refine .inl ⟨wanted_none rfl, ?_⟩
    have e1 : ac.eval (.tmp 32) = .bool true := hg 7 (by kernel_rfl) (by decide)
    have e2 : ac.eval (.tmp 37) = .bool true := hg 12 (by kernel_rfl) (by decide)
    have e3 : ac.eval (.const (.bool false)) = .bool false := rfl
    exact opG_val (by revert e1 e2 e3; generalize ac.eval = ρ; intro e1 e2 e3; simp [go_sem, execOp, e1, e2, e3]) rfl (Chg.refl _)
   ·refine .inl ⟨wanted_none rfl, ?_⟩
    have e1 : ac.eval (.tmp 38) = .bool true := hg 13 (by kernel_rfl) (by decide)
    exact opG_val (by simp [execOp, e1]) rfl (Chg.refl _)
   ·refine .inl ⟨wanted_by (T := _) (by kernel_rfl) hsz rfl (by decide : 14 < 20) rfl (hg 14 (by kernel_rfl) (by decide)), ?_⟩
    refine opG_go 15 Try.f15 #[] #[] rfl Try.func15 (by kernel_rfl) (by kernel_rfl) (by simp []) (Calls.mono (baseQ_any _) ?_)
    rintro r u2 ⟨rfl, hc2⟩
    exact ⟨_, rfl, rfl, hc2⟩
   ·refine .inl ⟨wanted_by (T := _) (by kernel_rfl) hsz rfl (by decide : 14 < 20) rfl (hg 14 (by kernel_rfl) (by decide)), ?_⟩
    refine opG_go 16 Try.f16 #[] #[] rfl Try.func16 (by kernel_rfl) (by kernel_rfl) (by simp []) (Calls.mono (baseS_any _) ?_)
    rintro r u2 ⟨rfl, hc2⟩
    exact ⟨_, rfl, rfl, hc2⟩
   ·refine .inl ⟨wanted_by (T := _) (by kernel_rfl) hsz rfl (by decide : 14 < 20) rfl (hg 14 (by kernel_rfl) (by decide)), ?_⟩
    have e1 : ac.eval (.tmp 40) = .agg (pt false gX gY) := hg 15 (by kernel_rfl) (by decide)
    have e2 : ac.eval (.tmp 41) = .agg (pt false gX gY) := hg 16 (by kernel_rfl) (by decide)
    exact opG_val (by revert e1 e2; generalize ac.eval = ρ; intro e1 e2; simp [go_sem, execOp, e1, e2, run_eqPt N_gX N_gY N_gX N_gY, eqPt_self]) rfl (Chg.refl _)
   ·refine .inl ⟨wanted_none rfl, ?_⟩
    have e1 : ac.eval (.tmp 39) = .bool true := hg 14 (by kernel_rfl) (by decide)
    have e2 : ac.eval (.tmp 42) = .bool true := hg 17 (by kernel_rfl) (by decide)
    have e3 : ac.eval (.const (.bool false)) = .bool false := rfl
    exact opG_val (by revert e1 e2 e3; generalize ac.eval = ρ; intro e1 e2 e3; simp [go_sem, execOp, e1, e2, e3]) rfl (Chg.refl _)
   ·refine .inl ⟨wanted_none rfl, ?_⟩
    have e1 : ac.eval (.tmp 43) = .bool true := hg 18 (by kernel_rfl) (by decide)
    exact opG_val (by simp [execOp, e1]) rfl (Chg.refl _)
  ·intro u V hV hc
   have q6 : V 19 = .bool true := hV 19 (by decide)
   go_wp2_with fail
   go_meet
   exact ⟨q6, (Z4.out.1.trans hc)⟩
 obtain ⟨rfl, hz⟩ := hcut
 obtain ⟨w5, hw5⟩ : ∃ zz0, zz0 = wc := ⟨_, rfl⟩
 rw [← hw5] at hz ⊢
 have Z5 : Hid _ := hz
 clear hw5 hz Z4
 go_wp2_with fail
 go_ret
 exact ⟨rfl, Z5.out⟩
end Go.Proofs.Ytbdgmkejmfjobaa
