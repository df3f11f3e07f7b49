/-
  Does a point lie on the curve? The document.
-/
import Derived.Test.YtbdgmkejmfjobaaPo
namespace Go.Proofs.Ytbdgmkejmfjobaa
open Go.RowKit
set_option linter.unusedVariables false
set_option maxRecDepth 100000
set_option maxHeartbeats 16000000 in
theorem onS_t0 (x y : Int) (hx : N256 x) (hy : N256 y) (hd : decide (x = 0) = true) (w : World) : Calls Try.prog 14 #[.agg (pt true x y)] w fun r w' => r = .returned (.bool (onR true x y)) ∧ Chg w w' := by
 have HN : Hid (N256 x ∧ N256 y) := ⟨hx, hy⟩
 clear hx hy
 have HD : Hid (decide (x = 0) = true) := hd
 clear hd
 have hsA0 := pt_size true x y
 obtain ⟨A0, hA0⟩ : ∃ zz0, zz0 = pt true x y := ⟨_, rfl⟩
 have HA0 : Hid (A0 = pt true x y) := hA0
 rw [← hA0] at hsA0 ⊢
 clear hA0
 go_enter Try.func14, Try.ntmps14
 go_upto_region 1 with fail
 obtain ⟨w1, hw1⟩ : ∃ w1, w1 = w.alloc (.cells A0 26) := ⟨_, rfl⟩
 have Z1 : Hid (Chg w w1 ∧ Ar w1 w.heap.size (pt true x y)) := by
  have hnew0 := Ar.new w (pt true x y) 26
  rw [hw1, HA0.out]
  exact ⟨((Chg.refl w).alloc _), (hnew0)⟩
 rw [← hw1]
 clear hw1 hsA0 HA0
 go_cut [9] from 8 to 9 (fun v9 wc => v9 = .bool true ∧ Chg w wc ∧ Ar wc w.heap.size (pt true x y))
 case first =>
  refine regP 2 (fun j v wg => match j with
   | 0 => v = .pointer (some ⟨w.heap.size, 0, none⟩)
   | 1 => v = .bool true
   | _ => True) (by decide) (by kernel_rfl) ?_ ?_ ?_
  ·intro j v u1 u2 h hc; exact h
  ·intro i o ac u hi ho hsz hf hg hc
   have hcs : i = 0 ∨ i = 1 := by omega
   rcases hcs with rfl | rfl <;> (injection ho with ho; subst ho; refine .inl ⟨wanted_none rfl, ?_⟩)
   ·have e1 : ac.eval (.tmp 1) = .pointer (some ⟨w.heap.size, 0, none⟩) := hf 1 (by kernel_rfl)
    exact opG_val (by revert e1; generalize ac.eval = ρ; intro e1; simp [go_sem, execOp, e1]) rfl (Chg.refl _)
   ·have c1 := cellPtZ (Z1.out.2.chg hc)
    have e1 : ac.eval (.tmp 8) = .pointer (some ⟨w.heap.size, 0, none⟩) := hg 0 (by decide) (by decide)
    exact opG_val (by revert e1; generalize ac.eval = ρ; intro e1; simp [go_sem, execOp, e1, c1]) rfl (Chg.refl _)
  ·intro u V hV hc
   have q9 : V 1 = .bool true := hV 1 (by decide)
   go_wp2_with fail
   go_meet
   exact ⟨q9, (Z1.out.1.trans hc), (Z1.out.2.chg hc)⟩
 obtain ⟨rfl, hz⟩ := hcut
 obtain ⟨w2, hw2⟩ : ∃ zz0, zz0 = wc := ⟨_, rfl⟩
 rw [← hw2] at hz ⊢
 have Z2 : Hid _ := hz
 clear hw2 hz Z1
 go_upto_region 2 with fail
 go_cut [2] from 2 to 19 (fun v2 wc => v2 = .bool (decide (y = 0)) ∧ Chg w wc)
 case first =>
  refine regP 11 (fun j v wg => match j with
   | 0 => v = .pointer (some ⟨w.heap.size, 1, none⟩)
   | 1 => v = .agg (num x)
   | 2 => v = .agg (num 0)
   | 3 => v = .bool true
   | 4 => v = .bool true
   | 5 => v = .pointer (some ⟨w.heap.size, 5, none⟩)
   | 6 => v = .agg (num y)
   | 7 => v = .agg (num 0)
   | 8 => v = .bool (decide (y = 0))
   | 9 => v = .bool (decide (y = 0))
   | 10 => v = .bool (decide (y = 0))
   | _ => True) (by decide) (by kernel_rfl) ?_ ?_ ?_
  ·intro j v u1 u2 h hc; exact h
  ·intro i o ac u hi ho hsz hf hg hc
   have hcs : i = 0 ∨ i = 1 ∨ i = 2 ∨ i = 3 ∨ i = 4 ∨ i = 5 ∨ i = 6 ∨ i = 7 ∨ i = 8 ∨ i = 9 ∨ i = 10 := by omega
   rcases hcs with rfl | rfl | rfl | rfl | rfl | rfl | rfl | rfl | rfl | rfl | rfl <;> (injection ho with ho; subst ho)
   ·refine .inl ⟨wanted_none rfl, ?_⟩
    have e1 : ac.eval (.tmp 1) = .pointer (some ⟨w.heap.size, 0, none⟩) := hf 1 (by kernel_rfl)
    exact opG_val (by revert e1; generalize ac.eval = ρ; intro e1; simp [go_sem, execOp, e1]) rfl (Chg.refl _)
   ·refine .inl ⟨wanted_none rfl, ?_⟩
    exact ldN rfl (hg 0 (by decide) (by decide)) (rangePtX (Z2.out.2.chg hc)) rfl
   ·refine .inl ⟨wanted_none rfl, ?_⟩
    exact opG_built _ [] rfl (by kernel_rfl) (by kernel_rfl) rfl
   ·refine .inl ⟨wanted_none rfl, ?_⟩
    have e1 : ac.eval (.tmp 11) = .agg (num x) := hg 1 (by decide) (by decide)
    have e2 : ac.eval (.tmp 12) = .agg (num 0) := hg 2 (by decide) (by decide)
    exact opG_val (by revert e1 e2; generalize ac.eval = ρ; intro e1 e2; simp [go_sem, execOp, e1, e2, run_eqNum (HN.out.1) n0P, HD.out]) rfl (Chg.refl _)
   ·refine .inl ⟨wanted_none rfl, ?_⟩
    have e1 : ac.eval (.tmp 13) = .bool true := hg 3 (by decide) (by decide)
    exact opG_val (by simp [execOp, e1]) rfl (Chg.refl _)
   ·refine .inl ⟨wanted_by (T := _) (by kernel_rfl) hsz rfl (by decide : 4 < 11) rfl (hg 4 (by decide) (by decide)), ?_⟩
    have e1 : ac.eval (.tmp 1) = .pointer (some ⟨w.heap.size, 0, none⟩) := hf 1 (by kernel_rfl)
    exact opG_val (by revert e1; generalize ac.eval = ρ; intro e1; simp [go_sem, execOp, e1]) rfl (Chg.refl _)
   ·refine .inl ⟨wanted_by (T := _) (by kernel_rfl) hsz rfl (by decide : 4 < 11) rfl (hg 4 (by decide) (by decide)), ?_⟩
    exact ldN rfl (hg 5 (by decide) (by decide)) (rangePtY (Z2.out.2.chg hc)) rfl
   ·refine .inl ⟨wanted_by (T := _) (by kernel_rfl) hsz rfl (by decide : 4 < 11) rfl (hg 4 (by decide) (by decide)), ?_⟩
    exact opG_built _ [] rfl (by kernel_rfl) (by kernel_rfl) rfl
   ·refine .inl ⟨wanted_by (T := _) (by kernel_rfl) hsz rfl (by decide : 4 < 11) rfl (hg 4 (by decide) (by decide)), ?_⟩
    have e1 : ac.eval (.tmp 16) = .agg (num y) := hg 6 (by decide) (by decide)
    have e2 : ac.eval (.tmp 17) = .agg (num 0) := hg 7 (by decide) (by decide)
    exact opG_val (by revert e1 e2; generalize ac.eval = ρ; intro e1 e2; simp [go_sem, execOp, e1, e2, run_eqNum (HN.out.2) ((⟨by decide, by decide⟩ : N256 0))]) rfl (Chg.refl _)
   ·refine .inl ⟨wanted_none rfl, ?_⟩
    have e1 : ac.eval (.tmp 14) = .bool true := hg 4 (by decide) (by decide)
    have e2 : ac.eval (.tmp 18) = .bool (decide (y = 0)) := hg 8 (by decide) (by decide)
    have e3 : ac.eval (.const (.bool false)) = .bool false := rfl
    exact opG_val (by revert e1 e2 e3; generalize ac.eval = ρ; intro e1 e2 e3; simp [go_sem, execOp, e1, e2, e3]) rfl (Chg.refl _)
   ·refine .inl ⟨wanted_none rfl, ?_⟩
    have e1 : ac.eval (.tmp 19) = .bool (decide (y = 0)) := hg 9 (by decide) (by decide)
    exact opG_val (by simp [execOp, e1]) rfl (Chg.refl _)
  ·intro u V hV hc
   have q2 : V 10 = .bool (decide (y = 0)) := hV 10 (by decide)
   go_wp2_with fail
   go_meet
   exact ⟨q2, (Z2.out.1.trans hc)⟩
 obtain ⟨rfl, hz⟩ := hcut
 obtain ⟨w3, hw3⟩ : ∃ zz0, zz0 = wc := ⟨_, rfl⟩
 rw [← hw3] at hz ⊢
 have Z3 : Hid _ := hz
 clear hw3 hz Z2
 go_wp2_with fail
 go_ret
 exact ⟨by simp [onR, HD.out], Z3.out⟩
set_option maxHeartbeats 16000000 in
theorem onS_t1 (x y : Int) (hx : N256 x) (hy : N256 y) (hd : decide (x = 0) = false) (w : World) : Calls Try.prog 14 #[.agg (pt true x y)] w fun r w' => r = .returned (.bool (onR true x y)) ∧ Chg w w' := by
 have HN : Hid (N256 x ∧ N256 y) := ⟨hx, hy⟩
 clear hx hy
 have HD : Hid (decide (x = 0) = false) := hd
 clear hd
 have hsA0 := pt_size true x y
 obtain ⟨A0, hA0⟩ : ∃ zz0, zz0 = pt true x y := ⟨_, rfl⟩
 have HA0 : Hid (A0 = pt true x y) := hA0
 rw [← hA0] at hsA0 ⊢
 clear hA0
 go_enter Try.func14, Try.ntmps14
 go_upto_region 1 with fail
 obtain ⟨w1, hw1⟩ : ∃ w1, w1 = w.alloc (.cells A0 26) := ⟨_, rfl⟩
 have Z1 : Hid (Chg w w1 ∧ Ar w1 w.heap.size (pt true x y)) := by
  have hnew0 := Ar.new w (pt true x y) 26
  rw [hw1, HA0.out]
  exact ⟨((Chg.refl w).alloc _), (hnew0)⟩
 rw [← hw1]
 clear hw1 hsA0 HA0
 go_cut [9] from 8 to 9 (fun v9 wc => v9 = .bool true ∧ Chg w wc ∧ Ar wc w.heap.size (pt true x y))
 case first =>
  refine regP 2 (fun j v wg => match j with
   | 0 => v = .pointer (some ⟨w.heap.size, 0, none⟩)
   | 1 => v = .bool true
   | _ => True) (by decide) (by kernel_rfl) ?_ ?_ ?_
  ·intro j v u1 u2 h hc; exact h
  ·intro i o ac u hi ho hsz hf hg hc
   have hcs : i = 0 ∨ i = 1 := by omega
   rcases hcs with rfl | rfl <;> (injection ho with ho; subst ho; refine .inl ⟨wanted_none rfl, ?_⟩)
   ·have e1 : ac.eval (.tmp 1) = .pointer (some ⟨w.heap.size, 0, none⟩) := hf 1 (by kernel_rfl)
    exact opG_val (by revert e1; generalize ac.eval = ρ; intro e1; simp [go_sem, execOp, e1]) rfl (Chg.refl _)
   ·have c1 := cellPtZ (Z1.out.2.chg hc)
    have e1 : ac.eval (.tmp 8) = .pointer (some ⟨w.heap.size, 0, none⟩) := hg 0 (by decide) (by decide)
    exact opG_val (by revert e1; generalize ac.eval = ρ; intro e1; simp [go_sem, execOp, e1, c1]) rfl (Chg.refl _)
  ·intro u V hV hc
   have q9 : V 1 = .bool true := hV 1 (by decide)
   go_wp2_with fail
   go_meet
   exact ⟨q9, (Z1.out.1.trans hc), (Z1.out.2.chg hc)⟩
 obtain ⟨rfl, hz⟩ := hcut
 obtain ⟨w2, hw2⟩ : ∃ zz0, zz0 = wc := ⟨_, rfl⟩
 rw [← hw2] at hz ⊢
 have Z2 : Hid _ := hz
 clear hw2 hz Z1
 go_upto_region 2 with fail
 go_cut [2] from 2 to 19 (fun v2 wc => v2 = .bool false ∧ Chg w wc)
 case first =>
  refine regP 11 (fun j v wg => match j with
   | 0 => v = .pointer (some ⟨w.heap.size, 1, none⟩)
   | 1 => v = .agg (num x)
   | 2 => v = .agg (num 0)
   | 3 => v = .bool false
   | 4 => v = .bool false
   | 5 => v = undef
   | 6 => v = undef
   | 7 => v = undef
   | 8 => v = undef
   | 9 => v = .bool false
   | 10 => v = .bool false
   | _ => True) (by decide) (by kernel_rfl) ?_ ?_ ?_
  ·intro j v u1 u2 h hc; exact h
  ·intro i o ac u hi ho hsz hf hg hc
   have hcs : i = 0 ∨ i = 1 ∨ i = 2 ∨ i = 3 ∨ i = 4 ∨ i = 5 ∨ i = 6 ∨ i = 7 ∨ i = 8 ∨ i = 9 ∨ i = 10 := by omega
   rcases hcs with rfl | rfl | rfl | rfl | rfl | rfl | rfl | rfl | rfl | rfl | rfl <;> (injection ho with ho; subst ho)
   ·refine .inl ⟨wanted_none rfl, ?_⟩
    have e1 : ac.eval (.tmp 1) = .pointer (some ⟨w.heap.size, 0, none⟩) := hf 1 (by kernel_rfl)
    exact opG_val (by revert e1; generalize ac.eval = ρ; intro e1; simp [go_sem, execOp, e1]) rfl (Chg.refl _)
   ·refine .inl ⟨wanted_none rfl, ?_⟩
    exact ldN rfl (hg 0 (by decide) (by decide)) (rangePtX (Z2.out.2.chg hc)) rfl
   ·refine .inl ⟨wanted_none rfl, ?_⟩
    exact opG_built _ [] rfl (by kernel_rfl) (by kernel_rfl) rfl
   ·refine .inl ⟨wanted_none rfl, ?_⟩
    have e1 : ac.eval (.tmp 11) = .agg (num x) := hg 1 (by decide) (by decide)
    have e2 : ac.eval (.tmp 12) = .agg (num 0) := hg 2 (by decide) (by decide)
    exact opG_val (by revert e1 e2; generalize ac.eval = ρ; intro e1 e2; simp [go_sem, execOp, e1, e2, run_eqNum (HN.out.1) n0P, HD.out]) rfl (Chg.refl _)
   ·refine .inl ⟨wanted_none rfl, ?_⟩
    have e1 : ac.eval (.tmp 13) = .bool false := hg 3 (by decide) (by decide)
    exact opG_val (by simp [execOp, e1]) rfl (Chg.refl _)
   ·exact .inr ⟨wanted_not (T := _) (by kernel_rfl) hsz rfl (by decide : 4 < 11) rfl rfl (hg 4 (by decide) (by decide)), rfl⟩
   ·exact .inr ⟨wanted_not (T := _) (by kernel_rfl) hsz rfl (by decide : 4 < 11) rfl rfl (hg 4 (by decide) (by decide)), rfl⟩
   ·exact .inr ⟨wanted_not (T := _) (by kernel_rfl) hsz rfl (by decide : 4 < 11) rfl rfl (hg 4 (by decide) (by decide)), rfl⟩
   ·exact .inr ⟨wanted_not (T := _) (by kernel_rfl) hsz rfl (by decide : 4 < 11) rfl rfl (hg 4 (by decide) (by decide)), rfl⟩
   ·refine .inl ⟨wanted_none rfl, ?_⟩
    have e1 : ac.eval (.tmp 14) = .bool false := hg 4 (by decide) (by decide)
    have e2 : ac.eval (.tmp 18) = undef := hg 8 (by decide) (by decide)
    have e3 : ac.eval (.const (.bool false)) = .bool false := rfl
    exact opG_val (by revert e1 e2 e3; generalize ac.eval = ρ; intro e1 e2 e3; simp [go_sem, execOp, e1, e2, e3]) rfl (Chg.refl _)
   ·refine .inl ⟨wanted_none rfl, ?_⟩
    have e1 : ac.eval (.tmp 19) = .bool false := hg 9 (by decide) (by decide)
    exact opG_val (by simp [execOp, e1]) rfl (Chg.refl _)
  ·intro u V hV hc
   have q2 : V 10 = .bool false := hV 10 (by decide)
   go_wp2_with fail
   go_meet
   exact ⟨q2, (Z2.out.1.trans hc)⟩
 obtain ⟨rfl, hz⟩ := hcut
 obtain ⟨w3, hw3⟩ : ∃ zz0, zz0 = wc := ⟨_, rfl⟩
 rw [← hw3] at hz ⊢
 have Z3 : Hid _ := hz
 clear hw3 hz Z2
 go_wp2_with fail
 go_ret
 exact ⟨by simp [onR, HD.out], Z3.out⟩
set_option maxHeartbeats 16000000 in
theorem onS_f (x y : Int) (hx : N256 x) (hy : N256 y) (w : World) : Calls Try.prog 14 #[.agg (pt false x y)] w fun r w' => r = .returned (.bool (onR false x y)) ∧ Chg w w' := by
 have HN : Hid (N256 x ∧ N256 y) := ⟨hx, hy⟩
 clear hx hy
 obtain ⟨b1, hb1⟩ : ∃ b1, decide (x < mo 2) = b1 := ⟨_, rfl⟩
 obtain ⟨b2, hb2⟩ : ∃ b2, decide (y < mo 2) = b2 := ⟨_, rfl⟩
 have HX : Hid (decide (x < mo 2) = b1) := hb1
 have HY : Hid (decide (y < mo 2) = b2) := hb2
 clear hb1 hb2
 have hsA0 := pt_size false x y
 obtain ⟨A0, hA0⟩ : ∃ zz0, zz0 = pt false x y := ⟨_, rfl⟩
 have HA0 : Hid (A0 = pt false x y) := hA0
 rw [← hA0] at hsA0 ⊢
 clear hA0
 go_enter Try.func14, Try.ntmps14
 go_upto_region 1 with fail
 obtain ⟨w1, hw1⟩ : ∃ w1, w1 = w.alloc (.cells A0 26) := ⟨_, rfl⟩
 have Z1 : Hid (Chg w w1 ∧ Ar w1 w.heap.size (pt false x y)) := by
  have hnew0 := Ar.new w (pt false x y) 26
  rw [hw1, HA0.out]
  exact ⟨((Chg.refl w).alloc _), (hnew0)⟩
 rw [← hw1]
 clear hw1 hsA0 HA0
 go_cut [9] from 8 to 9 (fun v9 wc => v9 = .bool false ∧ Chg w wc ∧ Ar wc w.heap.size (pt false x y))
 case first =>
  refine regP 2 (fun j v wg => match j with
   | 0 => v = .pointer (some ⟨w.heap.size, 0, none⟩)
   | 1 => v = .bool false
   | _ => True) (by decide) (by kernel_rfl) ?_ ?_ ?_
  ·intro j v u1 u2 h hc; exact h
  ·intro i o ac u hi ho hsz hf hg hc
   have hcs : i = 0 ∨ i = 1 := by omega
   rcases hcs with rfl | rfl <;> (injection ho with ho; subst ho; refine .inl ⟨wanted_none rfl, ?_⟩)
   ·have e1 : ac.eval (.tmp 1) = .pointer (some ⟨w.heap.size, 0, none⟩) := hf 1 (by kernel_rfl)
    exact opG_val (by revert e1; generalize ac.eval = ρ; intro e1; simp [go_sem, execOp, e1]) rfl (Chg.refl _)
   ·have c1 := cellPtZ (Z1.out.2.chg hc)
    have e1 : ac.eval (.tmp 8) = .pointer (some ⟨w.heap.size, 0, none⟩) := hg 0 (by decide) (by decide)
    exact opG_val (by revert e1; generalize ac.eval = ρ; intro e1; simp [go_sem, execOp, e1, c1]) rfl (Chg.refl _)
  ·intro u V hV hc
   have q9 : V 1 = .bool false := hV 1 (by decide)
   go_wp2_with fail
   go_meet
   exact ⟨q9, (Z1.out.1.trans hc), (Z1.out.2.chg hc)⟩
 obtain ⟨rfl, hz⟩ := hcut
 obtain ⟨w2, hw2⟩ : ∃ zz0, zz0 = wc := ⟨_, rfl⟩
 rw [← hw2] at hz ⊢
 have Z2 : Hid _ := hz
 clear hw2 hz Z1
 go_upto_region 3 with fail
 go_cut [3] from 3 to 20 (fun v3 wc => ∃ b3, v3 = .pointer (some ⟨b3, 0, none⟩) ∧ Chg w wc ∧ Ar wc w.heap.size (pt false x y) ∧ Ar wc b3 (num (mo 2)))
 case first =>
  refine regP 2 (fun j v wg => match j with
   | 0 => v = .agg (num (mo 2))
   | 1 => ∃ b, v = .pointer (some ⟨b, 0, none⟩) ∧ Ar wg b (num 0) ∧ w2.heap.size ≤ b
   | _ => True) (by decide) (by kernel_rfl) ?_ ?_ ?_
  ·intro j v u1 u2 h hc
   match j, h with
   | 0, h => exact h
   | 1, h => (obtain ⟨b, h1, h2, h3⟩ := h; exact ⟨b, h1, h2.chg hc, h3⟩)
   | _ + 2, h => exact trivial
  ·intro i o ac u hi ho hsz hf hg hc
   have hcs : i = 0 ∨ i = 1 := by omega
   rcases hcs with rfl | rfl <;> (injection ho with ho; subst ho; refine .inl ⟨wanted_none rfl, ?_⟩)
   ·have e1 : ac.eval (.const (.int .i64 2)) = .int .i64 2 := rfl
    refine opG_go 20 Try.f20 #[.const (.int .i64 2)] #[35] rfl Try.func20 (by kernel_rfl) (by kernel_rfl) (by simp [e1]) (Calls.mono (modulusR_any 2 _) ?_)
    rintro r u2 ⟨rfl, hc2⟩
    exact ⟨_, rfl, rfl, hc2⟩
   ·exact opG_val (v := .pointer (some ⟨u.heap.size, 0, none⟩)) (w' := u.alloc (.cells (num 0) 24)) (by generalize ac.eval = ρ; simp [go_sem, execOp, zero25.1]) ⟨_, rfl, Ar.new _ _ _, hc.size⟩ ((Chg.refl _).alloc _)
  ·intro u V hV hc
   have q20 : V 0 = .agg (num (mo 2)) := hV 0 (by decide)
   obtain ⟨b3, q3, r3, s3⟩ := hV 1 (by decide)
   have lw3 : w.heap.size ≤ b3 := Nat.le_trans Z2.out.1.size s3
   have hres0 := r3
   refine wpList_store_mid rfl 24 (.tmp 3) (.tmp 20) rfl b3 0 (num (mo 2)) (Eq.trans (by rfl) q3) (Eq.trans (by rfl) q20) (by rw [num_size]; exact thereN hres0) (szN _) (num_one _) ?_
   rw [setRowN hres0 _]
   have k0_c : Chg w (u.setRow b3 (num (mo 2))) := ((Z2.out.1.trans hc).setRow lw3 _)
   have k0_B1 := (Z2.out.2.chg hc).rowOther (Z2.out.2.apart s3) (num (mo 2))
   have k0_B3 := hres0.row (num (mo 2))
   generalize (u.setRow b3 (num (mo 2))) = u10 at k0_c k0_B1 k0_B3 ⊢
   go_wp2_with fail
   go_meet
   exact ⟨b3, q3, k0_c, k0_B1, k0_B3⟩
 obtain ⟨b3, rfl, hz⟩ := hcut
 obtain ⟨w3, hw3⟩ : ∃ zz0, zz0 = wc := ⟨_, rfl⟩
 rw [← hw3] at hz ⊢
 have Z3 : Hid _ := hz
 clear hw3 hz Z2
 go_upto_region 4 with fail
 go_cut [4] from 4 to 24 (fun v4 wc => v4 = .bool b1 ∧ Chg w wc ∧ Ar wc w.heap.size (pt false x y) ∧ Ar wc b3 (num (mo 2)))
 case first =>
  refine regP 5 (fun j v wg => match j with
   | 0 => v = .pointer (some ⟨w.heap.size, 1, none⟩)
   | 1 => v = .agg (num x)
   | 2 => v = .agg (num (mo 2))
   | 3 => v = .bool b1
   | 4 => v = .bool b1
   | _ => True) (by decide) (by kernel_rfl) ?_ ?_ ?_
  ·intro j v u1 u2 h hc; exact h
  ·intro i o ac u hi ho hsz hf hg hc
   have hcs : i = 0 ∨ i = 1 ∨ i = 2 ∨ i = 3 ∨ i = 4 := by omega
   rcases hcs with rfl | rfl | rfl | rfl | rfl <;> (injection ho with ho; subst ho; refine .inl ⟨wanted_none rfl, ?_⟩)
   ·have e1 : ac.eval (.tmp 1) = .pointer (some ⟨w.heap.size, 0, none⟩) := hf 1 (by kernel_rfl)
    exact opG_val (by revert e1; generalize ac.eval = ρ; intro e1; simp [go_sem, execOp, e1]) rfl (Chg.refl _)
   ·exact ldN rfl (hg 0 (by decide) (by decide)) (rangePtX (Z3.out.2.1.chg hc)) rfl
   ·exact ldN rfl (hf 3 (by kernel_rfl)) (rangeAp (Z3.out.2.2.chg hc)) rfl
   ·have e1 : ac.eval (.tmp 22) = .agg (num x) := hg 1 (by decide) (by decide)
    have e2 : ac.eval (.tmp 23) = .agg (num (mo 2)) := hg 2 (by decide) (by decide)
    refine opG_go 36 Try.f36 #[.tmp 22, .tmp 23] #[24, 24] rfl Try.func36 (by kernel_rfl) (by kernel_rfl) (by simp [e1, e2]) (Calls.mono (lessL_any (HN.out.1) mo_N2 HX.out _) ?_)
    rintro r u2 ⟨rfl, hc2⟩
    exact ⟨_, rfl, rfl, hc2⟩
   ·have e1 : ac.eval (.tmp 24) = .bool b1 := hg 3 (by decide) (by decide)
    exact opG_val (by simp [execOp, e1]) rfl (Chg.refl _)
  ·intro u V hV hc
   have q4 : V 4 = .bool b1 := hV 4 (by decide)
   go_wp2_with fail
   go_meet
   exact ⟨q4, (Z3.out.1.trans hc), (Z3.out.2.1.chg hc), (Z3.out.2.2.chg hc)⟩
 obtain ⟨rfl, hz⟩ := hcut
 obtain ⟨w4, hw4⟩ : ∃ zz0, zz0 = wc := ⟨_, rfl⟩
 rw [← hw4] at hz ⊢
 have Z4 : Hid _ := hz
 clear hw4 hz Z3
 go_upto_region 5 with fail
 go_cut [5] from 5 to 28 (fun v5 wc => v5 = .bool b2 ∧ Chg w wc ∧ Ar wc w.heap.size (pt false x y))
 case first =>
  refine regP 5 (fun j v wg => match j with
   | 0 => v = .pointer (some ⟨w.heap.size, 5, none⟩)
   | 1 => v = .agg (num y)
   | 2 => v = .agg (num (mo 2))
   | 3 => v = .bool b2
   | 4 => v = .bool b2
   | _ => True) (by decide) (by kernel_rfl) ?_ ?_ ?_
  ·intro j v u1 u2 h hc; exact h
  ·intro i o ac u hi ho hsz hf hg hc
   have hcs : i = 0 ∨ i = 1 ∨ i = 2 ∨ i = 3 ∨ i = 4 := by omega
   rcases hcs with rfl | rfl | rfl | rfl | rfl <;> (injection ho with ho; subst ho; refine .inl ⟨wanted_none rfl, ?_⟩)
   ·have e1 : ac.eval (.tmp 1) = .pointer (some ⟨w.heap.size, 0, none⟩) := hf 1 (by kernel_rfl)
    exact opG_val (by revert e1; generalize ac.eval = ρ; intro e1; simp [go_sem, execOp, e1]) rfl (Chg.refl _)
   ·exact ldN rfl (hg 0 (by decide) (by decide)) (rangePtY (Z4.out.2.1.chg hc)) rfl
   ·exact ldN rfl (hf 3 (by kernel_rfl)) (rangeAp (Z4.out.2.2.chg hc)) rfl
   ·have e1 : ac.eval (.tmp 26) = .agg (num y) := hg 1 (by decide) (by decide)
    have e2 : ac.eval (.tmp 27) = .agg (num (mo 2)) := hg 2 (by decide) (by decide)
    refine opG_go 36 Try.f36 #[.tmp 26, .tmp 27] #[24, 24] rfl Try.func36 (by kernel_rfl) (by kernel_rfl) (by simp [e1, e2]) (Calls.mono (lessL_any (HN.out.2) mo_N2 HY.out _) ?_)
    rintro r u2 ⟨rfl, hc2⟩
    exact ⟨_, rfl, rfl, hc2⟩
   ·have e1 : ac.eval (.tmp 28) = .bool b2 := hg 3 (by decide) (by decide)
    exact opG_val (by simp [execOp, e1]) rfl (Chg.refl _)
  ·intro u V hV hc
   have q5 : V 4 = .bool b2 := hV 4 (by decide)
   go_wp2_with fail
   go_meet
   exact ⟨q5, (Z4.out.1.trans hc), (Z4.out.2.1.chg hc)⟩
 obtain ⟨rfl, hz⟩ := hcut
 obtain ⟨w5, hw5⟩ : ∃ zz0, zz0 = wc := ⟨_, rfl⟩
 rw [← hw5] at hz ⊢
 have Z5 : Hid _ := hz
 clear hw5 hz Z4
 go_upto_region 6 with fail
 go_cut [6] from 6 to 29 (fun v6 wc => ∃ b6, v6 = .pointer (some ⟨b6, 0, none⟩) ∧ Chg w wc ∧ Ar wc w.heap.size (pt false x y) ∧ Ar wc b6 (num bQ))
 case first =>
  refine regP 2 (fun j v wg => match j with
   | 0 => v = .agg (num bQ)
   | 1 => ∃ b, v = .pointer (some ⟨b, 0, none⟩) ∧ Ar wg b (num 0) ∧ w5.heap.size ≤ b
   | _ => True) (by decide) (by kernel_rfl) ?_ ?_ ?_
  ·intro j v u1 u2 h hc
   match j, h with
   | 0, h => exact h
   | 1, h => (obtain ⟨b, h1, h2, h3⟩ := h; exact ⟨b, h1, h2.chg hc, h3⟩)
   | _ + 2, h => exact trivial
  ·intro i o ac u hi ho hsz hf hg hc
   have hcs : i = 0 ∨ i = 1 := by omega
   rcases hcs with rfl | rfl <;> (injection ho with ho; subst ho; refine .inl ⟨wanted_none rfl, ?_⟩)
   ·exact opG_built _ [(0, .int .u64 4309448131093880907), (1, .int .u64 7285987128567378166), (2, .int .u64 12964664127075681980), (3, .int .u64 6540974713487397863)] rfl (by kernel_rfl) (by kernel_rfl) rfl
   ·exact opG_val (v := .pointer (some ⟨u.heap.size, 0, none⟩)) (w' := u.alloc (.cells (num 0) 24)) (by generalize ac.eval = ρ; simp [go_sem, execOp, zero25.1]) ⟨_, rfl, Ar.new _ _ _, hc.size⟩ ((Chg.refl _).alloc _)
  ·intro u V hV hc
   have q29 : V 0 = .agg (num bQ) := hV 0 (by decide)
   obtain ⟨b6, q6, r6, s6⟩ := hV 1 (by decide)
   have lw6 : w.heap.size ≤ b6 := Nat.le_trans Z5.out.1.size s6
   have hres0 := r6
   refine wpList_store_mid rfl 24 (.tmp 6) (.tmp 29) rfl b6 0 (num bQ) (Eq.trans (by rfl) q6) (Eq.trans (by rfl) q29) (by rw [num_size]; exact thereN hres0) (szN _) (num_one _) ?_
   rw [setRowN hres0 _]
   have k0_c : Chg w (u.setRow b6 (num bQ)) := ((Z5.out.1.trans hc).setRow lw6 _)
   have k0_B1 := (Z5.out.2.chg hc).rowOther (Z5.out.2.apart s6) (num bQ)
   have k0_B6 := hres0.row (num bQ)
   generalize (u.setRow b6 (num bQ)) = u10 at k0_c k0_B1 k0_B6 ⊢
   go_wp2_with fail
   go_meet
   exact ⟨b6, q6, k0_c, k0_B1, k0_B6⟩
 obtain ⟨b6, rfl, hz⟩ := hcut
 obtain ⟨w6, hw6⟩ : ∃ zz0, zz0 = wc := ⟨_, rfl⟩
 rw [← hw6] at hz ⊢
 have Z6 : Hid _ := hz
 clear hw6 hz Z5
 go_upto_region 7 with fail
 go_cut [7] from 7 to 44 (fun v7 wc => ∃ b7, v7 = .pointer (some ⟨b7, 0, none⟩) ∧ Chg w wc ∧ Ar wc w.heap.size (pt false x y) ∧ Ar wc b7 (num (md 2 ((md 2 ((md 2 (x * (md 2 (x * x)))) - (md 2 (3 * x)))) + bQ))))
 case first =>
  refine regM 16 (fun j => j == 15) (fun j v wg => match j with
   | 0 => v = .pointer (some ⟨w.heap.size, 1, none⟩)
   | 1 => v = .agg (num x)
   | 2 => v = .pointer (some ⟨w.heap.size, 1, none⟩)
   | 3 => v = .agg (num x)
   | 4 => v = .pointer (some ⟨w.heap.size, 1, none⟩)
   | 5 => v = .agg (num x)
   | 6 => v = .agg (num (md 2 (x * x)))
   | 7 => v = .agg (num (md 2 (x * (md 2 (x * x)))))
   | 8 => v = .agg (num 3)
   | 9 => v = .pointer (some ⟨w.heap.size, 1, none⟩)
   | 10 => v = .agg (num x)
   | 11 => v = .agg (num (md 2 (3 * x)))
   | 12 => v = .agg (num (md 2 ((md 2 (x * (md 2 (x * x)))) - (md 2 (3 * x)))))
   | 13 => v = .agg (num bQ)
   | 14 => v = .agg (num (md 2 ((md 2 ((md 2 (x * (md 2 (x * x)))) - (md 2 (3 * x)))) + bQ)))
   | 15 => ∃ b, v = .pointer (some ⟨b, 0, none⟩) ∧ Ar wg b (num 0) ∧ w6.heap.size ≤ b
   | _ => True) (by kernel_rfl) (by decide) (by kernel_rfl) (by kernel_rfl) (by kernel_rfl) (by kernel_rfl) ?_ ?_ ?_ ?_
  ·intro j v u1 u2 h hc
   match j, h with
   | 0, h => exact h
   | 1, h => exact h
   | 2, h => exact h
   | 3, h => exact h
   | 4, h => exact h
   | 5, h => exact h
   | 6, h => exact h
   | 7, h => exact h
   | 8, h => exact h
   | 9, h => exact h
   | 10, h => exact h
   | 11, h => exact h
   | 12, h => exact h
   | 13, h => exact h
   | 14, h => exact h
   | 15, h => (obtain ⟨b, h1, h2, h3⟩ := h; exact ⟨b, h1, h2.chg hc, h3⟩)
   | _ + 16, h => exact trivial
  ·intro j v u hj ha h
   have hcs : j = 15 := by simpa [or_assoc] using ha
   rcases hcs with rfl
   ·obtain ⟨b, h1, h2, h3⟩ := h; exact ⟨b, h1, h2.lt⟩
  ·intro i o ac u hi ho hsz hf hg hc
   have hcs : i = 0 ∨ i = 1 ∨ i = 2 ∨ i = 3 ∨ i = 4 ∨ i = 5 ∨ i = 6 ∨ i = 7 ∨ i = 8 ∨ i = 9 ∨ i = 10 ∨ i = 11 ∨ i = 12 ∨ i = 13 ∨ i = 14 ∨ i = 15 := by omega
   rcases hcs with rfl | rfl | rfl | rfl | rfl | rfl | rfl | rfl | rfl | rfl | rfl | rfl | rfl | rfl | rfl | rfl <;> (injection ho with ho; subst ho; refine ⟨wanted_none rfl, ?_⟩)
   ·have e1 : ac.eval (.tmp 1) = .pointer (some ⟨w.heap.size, 0, none⟩) := hf 1 (by kernel_rfl)
    exact opG_val (by revert e1; generalize ac.eval = ρ; intro e1; simp [go_sem, execOp, e1]) ⟨rfl, fun h => by cases h⟩ (Chg.refl _)
   ·exact ldN rfl (hg 0 (by kernel_rfl) (by decide)) (rangePtX (Z6.out.2.1.chg hc)) ⟨rfl, fun h => by cases h⟩
   ·have e1 : ac.eval (.tmp 1) = .pointer (some ⟨w.heap.size, 0, none⟩) := hf 1 (by kernel_rfl)
    exact opG_val (by revert e1; generalize ac.eval = ρ; intro e1; simp [go_sem, execOp, e1]) ⟨rfl, fun h => by cases h⟩ (Chg.refl _)
   ·exact ldN rfl (hg 2 (by kernel_rfl) (by decide)) (rangePtX (Z6.out.2.1.chg hc)) ⟨rfl, fun h => by cases h⟩
   ·have e1 : ac.eval (.tmp 1) = .pointer (some ⟨w.heap.size, 0, none⟩) := hf 1 (by kernel_rfl)
    exact opG_val (by revert e1; generalize ac.eval = ρ; intro e1; simp [go_sem, execOp, e1]) ⟨rfl, fun h => by cases h⟩ (Chg.refl _)
   ·exact ldN rfl (hg 4 (by kernel_rfl) (by decide)) (rangePtX (Z6.out.2.1.chg hc)) ⟨rfl, fun h => by cases h⟩
   ·exact dM (.tmp 33) (.tmp 35) rfl (hg 3 (by kernel_rfl) (by decide)) (hg 5 (by kernel_rfl) (by decide)) (HN.out.1) (HN.out.1) fun _ _ => ⟨rfl, fun h => by cases h⟩
   ·exact dM (.tmp 31) (.tmp 36) rfl (hg 1 (by kernel_rfl) (by decide)) (hg 6 (by kernel_rfl) (by decide)) (HN.out.1) (md_N _ _) fun _ _ => ⟨rfl, fun h => by cases h⟩
   ·exact opG_built _ [(0, .int .u64 3)] rfl (by kernel_rfl) (by kernel_rfl) ⟨rfl, fun h => by cases h⟩
   ·have e1 : ac.eval (.tmp 1) = .pointer (some ⟨w.heap.size, 0, none⟩) := hf 1 (by kernel_rfl)
    exact opG_val (by revert e1; generalize ac.eval = ρ; intro e1; simp [go_sem, execOp, e1]) ⟨rfl, fun h => by cases h⟩ (Chg.refl _)
   ·exact ldN rfl (hg 9 (by kernel_rfl) (by decide)) (rangePtX (Z6.out.2.1.chg hc)) ⟨rfl, fun h => by cases h⟩
   ·exact dM (.tmp 38) (.tmp 40) rfl (hg 8 (by kernel_rfl) (by decide)) (hg 10 (by kernel_rfl) (by decide)) ((⟨by decide, by decide⟩ : N256 3)) (HN.out.1) fun _ _ => ⟨rfl, fun h => by cases h⟩
   ·exact dS (.tmp 37) (.tmp 41) rfl (hg 7 (by kernel_rfl) (by decide)) (hg 11 (by kernel_rfl) (by decide)) (md_N _ _) (md_N _ _) fun _ _ => ⟨rfl, fun h => by cases h⟩
   ·exact ldN rfl (hf 6 (by kernel_rfl)) (rangeAp (Z6.out.2.2.chg hc)) ⟨rfl, fun h => by cases h⟩
   ·exact dA (.tmp 42) (.tmp 43) rfl (hg 12 (by kernel_rfl) (by decide)) (hg 13 (by kernel_rfl) (by decide)) (md_N _ _) N_bQ fun _ _ => ⟨rfl, fun h => by cases h⟩
   ·exact opG_val (v := .pointer (some ⟨u.heap.size, 0, none⟩)) (w' := u.alloc (.cells (num 0) 24)) (by generalize ac.eval = ρ; simp [go_sem, execOp, zero25.1]) ⟨⟨_, rfl, Ar.new _ _ _, hc.size⟩, fun _ => rfl⟩ ((Chg.refl _).alloc _)
  ·intro u V hV hap hc
   have q44 : V 14 = .agg (num (md 2 ((md 2 ((md 2 (x * (md 2 (x * x)))) - (md 2 (3 * x)))) + bQ))) := hV 14 (by decide)
   obtain ⟨b7, q7, r7, s7⟩ := hV 15 (by decide)
   have lw7 : w.heap.size ≤ b7 := Nat.le_trans Z6.out.1.size s7
   have hres0 := r7
   refine tail_cons rfl rfl ?_
   refine wp_store_mid 24 (.tmp 7) (.tmp 44) rfl b7 0 (num (md 2 ((md 2 ((md 2 (x * (md 2 (x * x)))) - (md 2 (3 * x)))) + bQ))) (Eq.trans (by rfl) q7) (Eq.trans (by rfl) q44) (by rw [num_size]; exact thereN hres0) (szN _) (num_one _) ?_
   rw [setRowN hres0 _]
   have k0_c : Chg w (u.setRow b7 (num (md 2 ((md 2 ((md 2 (x * (md 2 (x * x)))) - (md 2 (3 * x)))) + bQ)))) := ((Z6.out.1.trans hc).setRow lw7 _)
   have k0_B1 := (Z6.out.2.1.chg hc).rowOther (Z6.out.2.1.apart s7) (num (md 2 ((md 2 ((md 2 (x * (md 2 (x * x)))) - (md 2 (3 * x)))) + bQ)))
   have k0_B7 := hres0.row (num (md 2 ((md 2 ((md 2 (x * (md 2 (x * x)))) - (md 2 (3 * x)))) + bQ)))
   generalize (u.setRow b7 (num (md 2 ((md 2 ((md 2 (x * (md 2 (x * x)))) - (md 2 (3 * x)))) + bQ)))) = u10 at k0_c k0_B1 k0_B7 ⊢
   refine tail_nil rfl ?_
   go_wp2_with fail
   go_meet
   exact ⟨b7, q7, k0_c, k0_B1, k0_B7⟩
 obtain ⟨b7, rfl, hz⟩ := hcut
 obtain ⟨w7, hw7⟩ : ∃ zz0, zz0 = wc := ⟨_, rfl⟩
 rw [← hw7] at hz ⊢
 have Z7 : Hid _ := hz
 clear hw7 hz Z6
 obtain ⟨e7x7, he7x7⟩ : ∃ zz0, zz0 = md 2 ((md 2 ((md 2 (x * (md 2 (x * x)))) - (md 2 (3 * x)))) + bQ) := ⟨_, rfl⟩
 have Ee7x7 : Hid (e7x7 = md 2 ((md 2 ((md 2 (x * (md 2 (x * x)))) - (md 2 (3 * x)))) + bQ)) := he7x7
 have Ne7x7 : Hid (N256 e7x7) := by show N256 e7x7; rw [he7x7]; exact md_N _ _
 rw [← he7x7] at Z7
 clear he7x7
 have HS : Hid (e7x7 = sqv x) := by
  show e7x7 = sqv x
  rw [Ee7x7.out, thr_md]
  rfl
 cases b1
 case false =>
  go_upto_region 8 with fail
  go_cut [2] from 2 to 57 (fun v2 wc => v2 = .bool false ∧ Chg w wc)
  case first =>
   refine regN 14 (fun j v wg => match j with
    | 0 => v = .bool false
    | 1 => v = .bool false
    | 2 => v = undef
    | 3 => v = .bool false
    | 4 => v = .bool false
    | 5 => v = undef
    | 6 => v = undef
    | 7 => v = undef
    | 8 => v = undef
    | 9 => v = undef
    | 10 => v = undef
    | 11 => v = undef
    | 12 => v = .bool false
    | 13 => v = .bool false
    | _ => True) (by kernel_rfl) (by kernel_rfl) (by kernel_rfl) (by kernel_rfl) ?_ ?_ ?_
   ·intro j v u1 u2 h hc; exact h
   ·intro i o ac u hi ho hsz hf hg hc
    have hcs : i = 0 ∨ i = 1 ∨ i = 2 ∨ i = 3 ∨ i = 4 ∨ i = 5 ∨ i = 6 ∨ i = 7 ∨ i = 8 ∨ i = 9 ∨ i = 10 ∨ i = 11 ∨ i = 12 ∨ i = 13 := by omega
    rcases hcs with rfl | rfl | rfl | rfl | rfl | rfl | rfl | rfl | rfl | rfl | rfl | rfl | rfl | rfl <;> (injection ho with ho; subst ho)
    ·refine .inl ⟨wanted_none rfl, ?_⟩
     have e1 : ac.eval (.tmp 4) = .bool false := hf 4 (by kernel_rfl)
     exact opG_val (by simp [execOp, e1]) rfl (Chg.refl _)
    ·refine .inl ⟨wanted_none rfl, ?_⟩
     have e1 : ac.eval (.tmp 45) = .bool false := hg 0 (by kernel_rfl) (by decide)
     exact opG_val (by simp [execOp, e1]) rfl (Chg.refl _)
    ·exact .inr ⟨wanted_not (T := _) (by kernel_rfl) hsz rfl (by decide : 1 < 14) rfl rfl (hg 1 (by kernel_rfl) (by decide)), rfl⟩
    ·refine .inl ⟨wanted_none rfl, ?_⟩
     have e1 : ac.eval (.tmp 46) = .bool false := hg 1 (by kernel_rfl) (by decide)
     have e2 : ac.eval (.tmp 47) = undef := hg 2 (by kernel_rfl) (by decide)
     have e3 : ac.eval (.const (.bool false)) = .bool false := rfl
     exact opG_val (by revert e1 e2 e3; generalize ac.eval = ρ; intro e1 e2 e3; simp [go_sem, execOp, e1, e2, e3]) rfl (Chg.refl _)
    ·refine .inl ⟨wanted_none rfl, ?_⟩
     have e1 : ac.eval (.tmp 48) = .bool false := hg 3 (by kernel_rfl) (by decide)
     exact opG_val (by simp [execOp, e1]) rfl (Chg.refl _)
    ·exact .inr ⟨wanted_not (T := _) (by kernel_rfl) hsz rfl (by decide : 4 < 14) rfl rfl (hg 4 (by kernel_rfl) (by decide)), rfl⟩
    ·exact .inr ⟨wanted_not (T := _) (by kernel_rfl) hsz rfl (by decide : 4 < 14) rfl rfl (hg 4 (by kernel_rfl) (by decide)), rfl⟩
    ·exact .inr ⟨wanted_not (T := _) (by kernel_rfl) hsz rfl (by decide : 4 < 14) rfl rfl (hg 4 (by kernel_rfl) (by decide)), rfl⟩
    ·exact .inr ⟨wanted_not (T := _) (by kernel_rfl) hsz rfl (by decide : 4 < 14) rfl rfl (hg 4 (by kernel_rfl) (by decide)), rfl⟩
    ·exact .inr ⟨wanted_not (T := _) (by kernel_rfl) hsz rfl (by decide : 4 < 14) rfl rfl (hg 4 (by kernel_rfl) (by decide)), rfl⟩
    ·exact .inr ⟨wanted_not (T := _) (by kernel_rfl) hsz rfl (by decide : 4 < 14) rfl rfl (hg 4 (by kernel_rfl) (by decide)), rfl⟩
    ·exact .inr ⟨wanted_not (T := _) (by kernel_rfl) hsz rfl (by decide : 4 < 14) rfl rfl (hg 4 (by kernel_rfl) (by decide)), rfl⟩
    ·refine .inl ⟨wanted_none rfl, ?_⟩
     have e1 : ac.eval (.tmp 49) = .bool false := hg 4 (by kernel_rfl) (by decide)
     have e2 : ac.eval (.tmp 56) = undef := hg 11 (by kernel_rfl) (by decide)
     have e3 : ac.eval (.const (.bool false)) = .bool false := rfl
     exact opG_val (by revert e1 e2 e3; generalize ac.eval = ρ; intro e1 e2 e3; simp [go_sem, execOp, e1, e2, e3]) rfl (Chg.refl _)
    ·refine .inl ⟨wanted_none rfl, ?_⟩
     have e1 : ac.eval (.tmp 57) = .bool false := hg 12 (by kernel_rfl) (by decide)
     exact opG_val (by simp [execOp, e1]) rfl (Chg.refl _)
   ·intro u V hV hc
    have q2 : V 13 = .bool false := hV 13 (by decide)
    go_wp2_with fail
    go_meet
    exact ⟨q2, (Z7.out.1.trans hc)⟩
  obtain ⟨rfl, hz⟩ := hcut
  obtain ⟨w8, hw8⟩ : ∃ zz0, zz0 = wc := ⟨_, rfl⟩
  rw [← hw8] at hz ⊢
  have Z8 : Hid _ := hz
  clear hw8 hz Z7
  go_wp2_with fail
  go_ret
  exact ⟨by simp [onR, HX.out], Z8.out⟩
 case true =>
  cases b2
  case false =>
   go_upto_region 8 with fail
   go_cut [2] from 2 to 57 (fun v2 wc => v2 = .bool false ∧ Chg w wc)
   case first =>
    refine regN 14 (fun j v wg => match j with
     | 0 => v = .bool true
     | 1 => v = .bool true
     | 2 => v = .bool false
     | 3 => v = .bool false
     | 4 => v = .bool false
     | 5 => v = undef
     | 6 => v = undef
     | 7 => v = undef
     | 8 => v = undef
     | 9 => v = undef
     | 10 => v = undef
     | 11 => v = undef
     | 12 => v = .bool false
     | 13 => v = .bool false
     | _ => True) (by kernel_rfl) (by kernel_rfl) (by kernel_rfl) (by kernel_rfl) ?_ ?_ ?_
    ·intro j v u1 u2 h hc; exact h
    ·intro i o ac u hi ho hsz hf hg hc
     have hcs : i = 0 ∨ i = 1 ∨ i = 2 ∨ i = 3 ∨ i = 4 ∨ i = 5 ∨ i = 6 ∨ i = 7 ∨ i = 8 ∨ i = 9 ∨ i = 10 ∨ i = 11 ∨ i = 12 ∨ i = 13 := by omega
     rcases hcs with rfl | rfl | rfl | rfl | rfl | rfl | rfl | rfl | rfl | rfl | rfl | rfl | rfl | rfl <;> (injection ho with ho; subst ho)
     ·refine .inl ⟨wanted_none rfl, ?_⟩
      have e1 : ac.eval (.tmp 4) = .bool true := hf 4 (by kernel_rfl)
      exact opG_val (by simp [execOp, e1]) rfl (Chg.refl _)
     ·refine .inl ⟨wanted_none rfl, ?_⟩
      have e1 : ac.eval (.tmp 45) = .bool true := hg 0 (by kernel_rfl) (by decide)
      exact opG_val (by simp [execOp, e1]) rfl (Chg.refl _)
     ·refine .inl ⟨wanted_by (T := _) (by kernel_rfl) hsz rfl (by decide : 1 < 14) rfl (hg 1 (by kernel_rfl) (by decide)), ?_⟩
      have e1 : ac.eval (.tmp 5) = .bool false := hf 5 (by kernel_rfl)
      exact opG_val (by simp [execOp, e1]) rfl (Chg.refl _)
     ·refine .inl ⟨wanted_none rfl, ?_⟩
      have e1 : ac.eval (.tmp 46) = .bool true := hg 1 (by kernel_rfl) (by decide)
      have e2 : ac.eval (.tmp 47) = .bool false := hg 2 (by kernel_rfl) (by decide)
      have e3 : ac.eval (.const (.bool false)) = .bool false := rfl
      exact opG_val (by revert e1 e2 e3; generalize ac.eval = ρ; intro e1 e2 e3; simp [go_sem, execOp, e1, e2, e3]) rfl (Chg.refl _)
     ·refine .inl ⟨wanted_none rfl, ?_⟩
      have e1 : ac.eval (.tmp 48) = .bool false := hg 3 (by kernel_rfl) (by decide)
      exact opG_val (by simp [execOp, e1]) rfl (Chg.refl _)
     ·exact .inr ⟨wanted_not (T := _) (by kernel_rfl) hsz rfl (by decide : 4 < 14) rfl rfl (hg 4 (by kernel_rfl) (by decide)), rfl⟩
     ·exact .inr ⟨wanted_not (T := _) (by kernel_rfl) hsz rfl (by decide : 4 < 14) rfl rfl (hg 4 (by kernel_rfl) (by decide)), rfl⟩
     ·exact .inr ⟨wanted_not (T := _) (by kernel_rfl) hsz rfl (by decide : 4 < 14) rfl rfl (hg 4 (by kernel_rfl) (by decide)), rfl⟩
     ·exact .inr ⟨wanted_not (T := _) (by kernel_rfl) hsz rfl (by decide : 4 < 14) rfl rfl (hg 4 (by kernel_rfl) (by decide)), rfl⟩
     ·exact .inr ⟨wanted_not (T := _) (by kernel_rfl) hsz rfl (by decide : 4 < 14) rfl rfl (hg 4 (by kernel_rfl) (by decide)), rfl⟩
     ·exact .inr ⟨wanted_not (T := _) (by kernel_rfl) hsz rfl (by decide : 4 < 14) rfl rfl (hg 4 (by kernel_rfl) (by decide)), rfl⟩
     ·exact .inr ⟨wanted_not (T := _) (by kernel_rfl) hsz rfl (by decide : 4 < 14) rfl rfl (hg 4 (by kernel_rfl) (by decide)), rfl⟩
     ·refine .inl ⟨wanted_none rfl, ?_⟩
      have e1 : ac.eval (.tmp 49) = .bool false := hg 4 (by kernel_rfl) (by decide)
      have e2 : ac.eval (.tmp 56) = undef := hg 11 (by kernel_rfl) (by decide)
      have e3 : ac.eval (.const (.bool false)) = .bool false := rfl
      exact opG_val (by revert e1 e2 e3; generalize ac.eval = ρ; intro e1 e2 e3; simp [go_sem, execOp, e1, e2, e3]) rfl (Chg.refl _)
     ·refine .inl ⟨wanted_none rfl, ?_⟩
      have e1 : ac.eval (.tmp 57) = .bool false := hg 12 (by kernel_rfl) (by decide)
      exact opG_val (by simp [execOp, e1]) rfl (Chg.refl _)
    ·intro u V hV hc
     have q2 : V 13 = .bool false := hV 13 (by decide)
     go_wp2_with fail
     go_meet
     exact ⟨q2, (Z7.out.1.trans hc)⟩
   obtain ⟨rfl, hz⟩ := hcut
   obtain ⟨w8, hw8⟩ : ∃ zz0, zz0 = wc := ⟨_, rfl⟩
   rw [← hw8] at hz ⊢
   have Z8 : Hid _ := hz
   clear hw8 hz Z7
   go_wp2_with fail
   go_ret
   exact ⟨by simp [onR, HX.out, HY.out], Z8.out⟩
  case true =>
   go_upto_region 8 with fail
   go_cut [2] from 2 to 57 (fun v2 wc => v2 = .bool (decide (md 2 (y * y) = e7x7)) ∧ Chg w wc)
   case first =>
    refine regN 14 (fun j v wg => match j with
     | 0 => v = .bool true
     | 1 => v = .bool true
     | 2 => v = .bool true
     | 3 => v = .bool true
     | 4 => v = .bool true
     | 5 => v = .pointer (some ⟨w.heap.size, 5, none⟩)
     | 6 => v = .agg (num y)
     | 7 => v = .pointer (some ⟨w.heap.size, 5, none⟩)
     | 8 => v = .agg (num y)
     | 9 => v = .agg (num (md 2 (y * y)))
     | 10 => v = .agg (num e7x7)
     | 11 => v = .bool (decide (md 2 (y * y) = e7x7))
     | 12 => v = .bool (decide (md 2 (y * y) = e7x7))
     | 13 => v = .bool (decide (md 2 (y * y) = e7x7))
     | _ => True) (by kernel_rfl) (by kernel_rfl) (by kernel_rfl) (by kernel_rfl) ?_ ?_ ?_
    ·intro j v u1 u2 h hc; exact h
    ·intro i o ac u hi ho hsz hf hg hc
     have hcs : i = 0 ∨ i = 1 ∨ i = 2 ∨ i = 3 ∨ i = 4 ∨ i = 5 ∨ i = 6 ∨ i = 7 ∨ i = 8 ∨ i = 9 ∨ i = 10 ∨ i = 11 ∨ i = 12 ∨ i = 13 := by omega
     rcases hcs with rfl | rfl | rfl | rfl | rfl | rfl | rfl | rfl | rfl | rfl | rfl | rfl | rfl | rfl <;> (injection ho with ho; subst ho)
     ·refine .inl ⟨wanted_none rfl, ?_⟩
      have e1 : ac.eval (.tmp 4) = .bool true := hf 4 (by kernel_rfl)
      exact opG_val (by simp [execOp, e1]) rfl (Chg.refl _)
     ·refine .inl ⟨wanted_none rfl, ?_⟩
      have e1 : ac.eval (.tmp 45) = .bool true := hg 0 (by kernel_rfl) (by decide)
      exact opG_val (by simp [execOp, e1]) rfl (Chg.refl _)
     ·refine .inl ⟨wanted_by (T := _) (by kernel_rfl) hsz rfl (by decide : 1 < 14) rfl (hg 1 (by kernel_rfl) (by decide)), ?_⟩
      have e1 : ac.eval (.tmp 5) = .bool true := hf 5 (by kernel_rfl)
      exact opG_val (by simp [execOp, e1]) rfl (Chg.refl _)
     ·refine .inl ⟨wanted_none rfl, ?_⟩
      have e1 : ac.eval (.tmp 46) = .bool true := hg 1 (by kernel_rfl) (by decide)
      have e2 : ac.eval (.tmp 47) = .bool true := hg 2 (by kernel_rfl) (by decide)
      have e3 : ac.eval (.const (.bool false)) = .bool false := rfl
      exact opG_val (by revert e1 e2 e3; generalize ac.eval = ρ; intro e1 e2 e3; simp [go_sem, execOp, e1, e2, e3]) rfl (Chg.refl _)
     ·refine .inl ⟨wanted_none rfl, ?_⟩
      have e1 : ac.eval (.tmp 48) = .bool true := hg 3 (by kernel_rfl) (by decide)
      exact opG_val (by simp [execOp, e1]) rfl (Chg.refl _)
     ·refine .inl ⟨wanted_by (T := _) (by kernel_rfl) hsz rfl (by decide : 4 < 14) rfl (hg 4 (by kernel_rfl) (by decide)), ?_⟩
      have e1 : ac.eval (.tmp 1) = .pointer (some ⟨w.heap.size, 0, none⟩) := hf 1 (by kernel_rfl)
      exact opG_val (by revert e1; generalize ac.eval = ρ; intro e1; simp [go_sem, execOp, e1]) rfl (Chg.refl _)
     ·refine .inl ⟨wanted_by (T := _) (by kernel_rfl) hsz rfl (by decide : 4 < 14) rfl (hg 4 (by kernel_rfl) (by decide)), ?_⟩
      exact ldN rfl (hg 5 (by kernel_rfl) (by decide)) (rangePtY (Z7.out.2.1.chg hc)) rfl
     ·refine .inl ⟨wanted_by (T := _) (by kernel_rfl) hsz rfl (by decide : 4 < 14) rfl (hg 4 (by kernel_rfl) (by decide)), ?_⟩
      have e1 : ac.eval (.tmp 1) = .pointer (some ⟨w.heap.size, 0, none⟩) := hf 1 (by kernel_rfl)
      exact opG_val (by revert e1; generalize ac.eval = ρ; intro e1; simp [go_sem, execOp, e1]) rfl (Chg.refl _)
     ·refine .inl ⟨wanted_by (T := _) (by kernel_rfl) hsz rfl (by decide : 4 < 14) rfl (hg 4 (by kernel_rfl) (by decide)), ?_⟩
      exact ldN rfl (hg 7 (by kernel_rfl) (by decide)) (rangePtY (Z7.out.2.1.chg hc)) rfl
     ·refine .inl ⟨wanted_by (T := _) (by kernel_rfl) hsz rfl (by decide : 4 < 14) rfl (hg 4 (by kernel_rfl) (by decide)), ?_⟩
      exact dM (.tmp 51) (.tmp 53) rfl (hg 6 (by kernel_rfl) (by decide)) (hg 8 (by kernel_rfl) (by decide)) (HN.out.2) (HN.out.2) fun _ _ => rfl
     ·refine .inl ⟨wanted_by (T := _) (by kernel_rfl) hsz rfl (by decide : 4 < 14) rfl (hg 4 (by kernel_rfl) (by decide)), ?_⟩
      exact ldN rfl (hf 7 (by kernel_rfl)) (rangeAp (Z7.out.2.2.chg hc)) rfl
     ·refine .inl ⟨wanted_by (T := _) (by kernel_rfl) hsz rfl (by decide : 4 < 14) rfl (hg 4 (by kernel_rfl) (by decide)), ?_⟩
      have e1 : ac.eval (.tmp 54) = .agg (num (md 2 (y * y))) := hg 9 (by kernel_rfl) (by decide)
      have e2 : ac.eval (.tmp 55) = .agg (num e7x7) := hg 10 (by kernel_rfl) (by decide)
      exact opG_val (by revert e1 e2; generalize ac.eval = ρ; intro e1 e2; simp [go_sem, execOp, e1, e2, run_eqNum (md_N _ _) (Ne7x7.out)]) rfl (Chg.refl _)
     ·refine .inl ⟨wanted_none rfl, ?_⟩
      have e1 : ac.eval (.tmp 49) = .bool true := hg 4 (by kernel_rfl) (by decide)
      have e2 : ac.eval (.tmp 56) = .bool (decide (md 2 (y * y) = e7x7)) := hg 11 (by kernel_rfl) (by decide)
      have e3 : ac.eval (.const (.bool false)) = .bool false := rfl
      exact opG_val (by revert e1 e2 e3; generalize ac.eval = ρ; intro e1 e2 e3; simp [go_sem, execOp, e1, e2, e3]) rfl (Chg.refl _)
     ·refine .inl ⟨wanted_none rfl, ?_⟩
      have e1 : ac.eval (.tmp 57) = .bool (decide (md 2 (y * y) = e7x7)) := hg 12 (by kernel_rfl) (by decide)
      exact opG_val (by simp [execOp, e1]) rfl (Chg.refl _)
    ·intro u V hV hc
     have q2 : V 13 = .bool (decide (md 2 (y * y) = e7x7)) := hV 13 (by decide)
     go_wp2_with fail
     go_meet
     exact ⟨q2, (Z7.out.1.trans hc)⟩
   obtain ⟨rfl, hz⟩ := hcut
   obtain ⟨w8, hw8⟩ : ∃ zz0, zz0 = wc := ⟨_, rfl⟩
   rw [← hw8] at hz ⊢
   have Z8 : Hid _ := hz
   clear hw8 hz Z7
   go_wp2_with fail
   go_ret
   exact ⟨by rw [HS.out]; simp [onR, HX.out, HY.out], Z8.out⟩
theorem onS_any (z : Bool) (x y : Int) (hx : N256 x) (hy : N256 y) (w : World) : Calls Try.prog 14 #[.agg (pt z x y)] w fun r w' => r = .returned (.bool (onR z x y)) ∧ Chg w w' := by
 cases z with
 | true =>
  cases h1 : decide (x = 0) with
  | true => exact onS_t0 x y hx hy h1 w
  | false => exact onS_t1 x y hx hy h1 w
 | false => exact onS_f x y hx hy w
end Go.Proofs.Ytbdgmkejmfjobaa
