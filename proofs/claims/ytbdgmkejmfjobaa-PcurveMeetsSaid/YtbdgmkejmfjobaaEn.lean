/-
  Which numbers and points may be; a point as bytes; the live question.
-/
import Derived.Test.YtbdgmkejmfjobaaAm
import Derived.Test.YtbdgmkejmfjobaaAp
import Derived.Test.YtbdgmkejmfjobaaJq
namespace Go.Proofs.Ytbdgmkejmfjobaa
open Go.RowKit
set_option linter.unusedVariables false
set_option maxRecDepth 100000
theorem thereY {w : World} {b : Nat} {d : Nat → Int} (h : Ar w b (byt d)) : w.there b 0 32 := fun j hj => by
 rw [Nat.zero_add, h.cell]
 refine ⟨?_, h.frozen j⟩
 unfold byt
 rw [arr_get _ _ _ hj]
 rfl
theorem setRowY {w : World} {b : Nat} {d : Nat → Int} (h : Ar w b (byt d)) (e : Nat → Int) : w.setCells b 0 (byt e).toList = w.setRow b (byt e) := by
 have h1 := run_storeVar_mid (P := Try.prog) w b 0 40 (byt e) (by rw [byt_size]; exact thereY h) (szY e) (oneY e)
 obtain ⟨t, h⟩ := h
 have h2 := run_storeVar_row (P := Try.prog) w b t 40 _ (byt e) h (szY e) (by rw [byt_size, byt_size]) (oneY e)
 rw [h1] at h2
 injection h2
theorem Chg.ap {w0 w w' : World} {S : Nat → Prop} (h : Chg w0 w) (k : Ap.Chg S w w') (hS : ∀ i, S i → w0.heap.size ≤ i) : Chg w0 w' :=
 ⟨k.os.trans h.os, k.tape.trans h.tape, k.output.trans h.output, Nat.le_trans h.size k.size, fun i hi =>
  (k.block i (Nat.lt_of_lt_of_le hi h.size) (fun e => by have := hS i e; omega)).trans (h.block i hi)⟩
theorem Ar.ap {w w' : World} {b : Nat} {c : Array Value} {S : Nat → Prop} (h : Ar w b c) (k : Ap.Chg S w w') (hn : ¬ S b) : Ar w' b c := by
 have hl := h.lt
 obtain ⟨t, h⟩ := h
 exact ⟨t, (k.block b hl hn).trans h⟩
def cnt (d : Int) : Bool := !decide (d = 0) && decide (d < mo 3)
def tell (z : Bool) (x y : Int) : Bool := !eqPt z x y true 0 0 && onR z x y
theorem tell_eq (z : Bool) (x y : Int) : tell z x y = (onR z x y && !z) := by
 unfold tell
 cases z with
 | true => rw [eqPt_t]; cases onR true x y <;> rfl
 | false => rw [eqPt_f]; cases onR false x y <;> rfl
set_option maxHeartbeats 16000000 in
theorem cntQ_t (d : Int) (hd : N256 d) (h : decide (d = 0) = true) (w : World) : Calls Try.prog 45 #[.agg (num d)] w fun r w' => r = .returned (.bool (cnt d)) ∧ Chg w w' := by
 have HN : Hid (N256 d) := hd
 have HD : Hid (decide (d = 0) = true) := h
 clear hd h
 have hsA0 := num_size d
 obtain ⟨A0, hA0⟩ : ∃ zz0, zz0 = num d := ⟨_, rfl⟩
 have HA0 : Hid (A0 = num d) := hA0
 rw [← hA0] at hsA0 ⊢
 clear hA0
 go_enter Try.func45, Try.ntmps45
 go_upto_region 1 with fail
 obtain ⟨w1, hw1⟩ : ∃ w1, w1 = w.alloc (.cells A0 24) := ⟨_, rfl⟩
 have Z1 : Hid (Chg w w1 ∧ Ar w1 w.heap.size (num d)) := by
  have hnew0 := Ar.new w (num d) 24
  rw [hw1, HA0.out]
  exact ⟨((Chg.refl w).alloc _), (hnew0)⟩
 rw [← hw1]
 clear hw1 hsA0 HA0
 go_cut [2] from 2 to 9 (fun v2 wc => v2 = .bool false ∧ Chg w wc)
 case first =>
  refine regP 8 (fun j v wg => match j with
   | 0 => v = .agg (num d)
   | 1 => v = .agg (num 0)
   | 2 => v = .bool false
   | 3 => v = .bool false
   | 4 => v = undef
   | 5 => v = undef
   | 6 => v = .bool false
   | 7 => v = .bool false
   | _ => True) (by decide) (by kernel_rfl) ?_ ?_ ?_
  ·intro j v u1 u2 h hc; exact h
  ·intro i o ac u hi ho hsz hf hg hc
   have hcs : i = 0 ∨ i = 1 ∨ i = 2 ∨ i = 3 ∨ i = 4 ∨ i = 5 ∨ i = 6 ∨ i = 7 := by omega
   rcases hcs with rfl | rfl | rfl | rfl | rfl | rfl | rfl | rfl <;> (injection ho with ho; subst ho)
   ·refine .inl ⟨wanted_none rfl, ?_⟩
    exact ldN rfl (hf 1 (by kernel_rfl)) (rangeAp (Z1.out.2.chg hc)) rfl
   ·refine .inl ⟨wanted_none rfl, ?_⟩
    exact opG_built _ [] rfl (by kernel_rfl) (by kernel_rfl) rfl
   ·refine .inl ⟨wanted_none rfl, ?_⟩
    have e1 : ac.eval (.tmp 3) = .agg (num d) := hg 0 (by decide) (by decide)
    have e2 : ac.eval (.tmp 4) = .agg (num 0) := hg 1 (by decide) (by decide)
    exact opG_val (by revert e1 e2; generalize ac.eval = ρ; intro e1 e2; simp [go_sem, execOp, e1, e2, run_eqNum HN.out n0P, HD.out]) rfl (Chg.refl _)
   ·refine .inl ⟨wanted_none rfl, ?_⟩
    have e1 : ac.eval (.tmp 5) = .bool false := hg 2 (by decide) (by decide)
    exact opG_val (by simp [execOp, e1]) rfl (Chg.refl _)
   ·exact .inr ⟨wanted_not (T := _) (by kernel_rfl) hsz rfl (by decide : 3 < 8) rfl rfl (hg 3 (by decide) (by decide)), rfl⟩
   ·exact .inr ⟨wanted_not (T := _) (by kernel_rfl) hsz rfl (by decide : 3 < 8) rfl rfl (hg 3 (by decide) (by decide)), rfl⟩
   ·refine .inl ⟨wanted_none rfl, ?_⟩
    have e1 : ac.eval (.tmp 6) = .bool false := hg 3 (by decide) (by decide)
    have e2 : ac.eval (.tmp 8) = undef := hg 5 (by decide) (by decide)
    have e3 : ac.eval (.const (.bool false)) = .bool false := rfl
    exact opG_val (by revert e1 e2 e3; generalize ac.eval = ρ; intro e1 e2 e3; simp [go_sem, execOp, e1, e2, e3]) rfl (Chg.refl _)
   ·refine .inl ⟨wanted_none rfl, ?_⟩
    have e1 : ac.eval (.tmp 9) = .bool false := hg 6 (by decide) (by decide)
    exact opG_val (by simp [execOp, e1]) rfl (Chg.refl _)
  ·intro u V hV hc
   have q2 : V 7 = .bool false := hV 7 (by decide)
   go_wp2_with fail
   go_meet
   exact ⟨q2, (Z1.out.1.trans hc)⟩
 obtain ⟨rfl, hz⟩ := hcut
 obtain ⟨w2, hw2⟩ : ∃ zz0, zz0 = wc := ⟨_, rfl⟩
 rw [← hw2] at hz ⊢
 have Z2 : Hid _ := hz
 clear hw2 hz Z1
 go_wp2_with fail
 go_ret
 exact ⟨by simp [cnt, HD.out], Z2.out⟩
set_option maxHeartbeats 16000000 in
theorem cntQ_f (d : Int) (hd : N256 d) (h : decide (d = 0) = false) (w : World) : Calls Try.prog 45 #[.agg (num d)] w fun r w' => r = .returned (.bool (cnt d)) ∧ Chg w w' := by
 have HN : Hid (N256 d) := hd
 have HD : Hid (decide (d = 0) = false) := h
 clear hd h
 have hsA0 := num_size d
 obtain ⟨A0, hA0⟩ : ∃ zz0, zz0 = num d := ⟨_, rfl⟩
 have HA0 : Hid (A0 = num d) := hA0
 rw [← hA0] at hsA0 ⊢
 clear hA0
 go_enter Try.func45, Try.ntmps45
 go_upto_region 1 with fail
 obtain ⟨w1, hw1⟩ : ∃ w1, w1 = w.alloc (.cells A0 24) := ⟨_, rfl⟩
 have Z1 : Hid (Chg w w1 ∧ Ar w1 w.heap.size (num d)) := by
  have hnew0 := Ar.new w (num d) 24
  rw [hw1, HA0.out]
  exact ⟨((Chg.refl w).alloc _), (hnew0)⟩
 rw [← hw1]
 clear hw1 hsA0 HA0
 go_cut [2] from 2 to 9 (fun v2 wc => v2 = .bool (decide (d < mo 3)) ∧ Chg w wc)
 case first =>
  refine regP 8 (fun j v wg => match j with
   | 0 => v = .agg (num d)
   | 1 => v = .agg (num 0)
   | 2 => v = .bool true
   | 3 => v = .bool true
   | 4 => v = .agg (num d)
   | 5 => v = .bool (decide (d < mo 3))
   | 6 => v = .bool (decide (d < mo 3))
   | 7 => v = .bool (decide (d < mo 3))
   | _ => True) (by decide) (by kernel_rfl) ?_ ?_ ?_
  ·intro j v u1 u2 h hc; exact h
  ·intro i o ac u hi ho hsz hf hg hc
   have hcs : i = 0 ∨ i = 1 ∨ i = 2 ∨ i = 3 ∨ i = 4 ∨ i = 5 ∨ i = 6 ∨ i = 7 := by omega
   rcases hcs with rfl | rfl | rfl | rfl | rfl | rfl | rfl | rfl <;> (injection ho with ho; subst ho)
   ·refine .inl ⟨wanted_none rfl, ?_⟩
    exact ldN rfl (hf 1 (by kernel_rfl)) (rangeAp (Z1.out.2.chg hc)) rfl
   ·refine .inl ⟨wanted_none rfl, ?_⟩
    exact opG_built _ [] rfl (by kernel_rfl) (by kernel_rfl) rfl
   ·refine .inl ⟨wanted_none rfl, ?_⟩
    have e1 : ac.eval (.tmp 3) = .agg (num d) := hg 0 (by decide) (by decide)
    have e2 : ac.eval (.tmp 4) = .agg (num 0) := hg 1 (by decide) (by decide)
    exact opG_val (by revert e1 e2; generalize ac.eval = ρ; intro e1 e2; simp [go_sem, execOp, e1, e2, run_eqNum HN.out n0P, HD.out]) rfl (Chg.refl _)
   ·refine .inl ⟨wanted_none rfl, ?_⟩
    have e1 : ac.eval (.tmp 5) = .bool true := hg 2 (by decide) (by decide)
    exact opG_val (by simp [execOp, e1]) rfl (Chg.refl _)
   ·refine .inl ⟨wanted_by (T := _) (by kernel_rfl) hsz rfl (by decide : 3 < 8) rfl (hg 3 (by decide) (by decide)), ?_⟩
    exact ldN rfl (hf 1 (by kernel_rfl)) (rangeAp (Z1.out.2.chg hc)) rfl
   ·refine .inl ⟨wanted_by (T := _) (by kernel_rfl) hsz rfl (by decide : 3 < 8) rfl (hg 3 (by decide) (by decide)), ?_⟩
    have e1 : ac.eval (.const (.int .i64 3)) = .int .i64 3 := rfl
    have e2 : ac.eval (.tmp 7) = .agg (num d) := hg 4 (by decide) (by decide)
    refine opG_go 33 Try.f33 #[.const (.int .i64 3), .tmp 7] #[35, 24] rfl Try.func33 (by kernel_rfl) (by kernel_rfl) (by simp [e1, e2]) (Calls.mono (right_any 3 d (HN.out) _) ?_)
    rintro r u2 ⟨rfl, hc2⟩
    exact ⟨_, rfl, rfl, hc2⟩
   ·refine .inl ⟨wanted_none rfl, ?_⟩
    have e1 : ac.eval (.tmp 6) = .bool true := hg 3 (by decide) (by decide)
    have e2 : ac.eval (.tmp 8) = .bool (decide (d < mo 3)) := hg 5 (by decide) (by decide)
    have e3 : ac.eval (.const (.bool false)) = .bool false := rfl
    exact opG_val (by revert e1 e2 e3; generalize ac.eval = ρ; intro e1 e2 e3; simp [go_sem, execOp, e1, e2, e3]) rfl (Chg.refl _)
   ·refine .inl ⟨wanted_none rfl, ?_⟩
    have e1 : ac.eval (.tmp 9) = .bool (decide (d < mo 3)) := hg 6 (by decide) (by decide)
    exact opG_val (by simp [execOp, e1]) rfl (Chg.refl _)
  ·intro u V hV hc
   have q2 : V 7 = .bool (decide (d < mo 3)) := hV 7 (by decide)
   go_wp2_with fail
   go_meet
   exact ⟨q2, (Z1.out.1.trans hc)⟩
 obtain ⟨rfl, hz⟩ := hcut
 obtain ⟨w2, hw2⟩ : ∃ zz0, zz0 = wc := ⟨_, rfl⟩
 rw [← hw2] at hz ⊢
 have Z2 : Hid _ := hz
 clear hw2 hz Z1
 go_wp2_with fail
 go_ret
 exact ⟨by simp [cnt, HD.out], Z2.out⟩
theorem cntQ_any {d : Int} {b : Bool} (hd : N256 d) (h : cnt d = b) (w : World) : Calls Try.prog 45 #[.agg (num d)] w fun r w' => r = .returned (.bool b) ∧ Chg w w' := by
 rw [← h]
 cases h : decide (d = 0) with
 | true => exact cntQ_t d hd h w
 | false => exact cntQ_f d hd h w
set_option maxHeartbeats 16000000 in
theorem cntS_t (d : Int) (hd : N256 d) (h : decide (d = 0) = true) (w : World) : Calls Try.prog 48 #[.agg (num d)] w fun r w' => r = .returned (.bool (cnt d)) ∧ Chg w w' := by
 have HN : Hid (N256 d) := hd
 have HD : Hid (decide (d = 0) = true) := h
 clear hd h
 have hsA0 := num_size d
 obtain ⟨A0, hA0⟩ : ∃ zz0, zz0 = num d := ⟨_, rfl⟩
 have HA0 : Hid (A0 = num d) := hA0
 rw [← hA0] at hsA0 ⊢
 clear hA0
 go_enter Try.func48, Try.ntmps48
 go_upto_region 1 with fail
 obtain ⟨w1, hw1⟩ : ∃ w1, w1 = w.alloc (.cells A0 24) := ⟨_, rfl⟩
 have Z1 : Hid (Chg w w1 ∧ Ar w1 w.heap.size (num d)) := by
  have hnew0 := Ar.new w (num d) 24
  rw [hw1, HA0.out]
  exact ⟨((Chg.refl w).alloc _), (hnew0)⟩
 rw [← hw1]
 clear hw1 hsA0 HA0
 go_cut [2] from 2 to 10 (fun v2 wc => v2 = .bool false ∧ Chg w wc)
 case first =>
  refine regN 9 (fun j v wg => match j with
   | 0 => v = .agg (num d)
   | 1 => v = .agg (num 0)
   | 2 => v = .bool false
   | 3 => v = .bool false
   | 4 => v = undef
   | 5 => v = undef
   | 6 => v = undef
   | 7 => v = .bool false
   | 8 => v = .bool false
   | _ => True) (by kernel_rfl) (by kernel_rfl) (by kernel_rfl) (by kernel_rfl) ?_ ?_ ?_
  ·intro j v u1 u2 h hc; exact h
  ·intro i o ac u hi ho hsz hf hg hc
   have hcs : i = 0 ∨ i = 1 ∨ i = 2 ∨ i = 3 ∨ i = 4 ∨ i = 5 ∨ i = 6 ∨ i = 7 ∨ i = 8 := by omega
   rcases hcs with rfl | rfl | rfl | rfl | rfl | rfl | rfl | rfl | rfl <;> (injection ho with ho; subst ho)
   ·refine .inl ⟨wanted_none rfl, ?_⟩
    exact ldN rfl (hf 1 (by kernel_rfl)) (rangeAp (Z1.out.2.chg hc)) rfl
   ·refine .inl ⟨wanted_none rfl, ?_⟩
    exact opG_built _ [] rfl (by kernel_rfl) (by kernel_rfl) rfl
   ·refine .inl ⟨wanted_none rfl, ?_⟩
    have e1 : ac.eval (.tmp 3) = .agg (num d) := hg 0 (by kernel_rfl) (by decide)
    have e2 : ac.eval (.tmp 4) = .agg (num 0) := hg 1 (by kernel_rfl) (by decide)
    exact opG_val (by revert e1 e2; generalize ac.eval = ρ; intro e1 e2; simp [go_sem, execOp, e1, e2, run_eqNum HN.out n0P, HD.out]) rfl (Chg.refl _)
   ·refine .inl ⟨wanted_none rfl, ?_⟩
    have e1 : ac.eval (.tmp 5) = .bool false := hg 2 (by kernel_rfl) (by decide)
    exact opG_val (by simp [execOp, e1]) rfl (Chg.refl _)
   ·exact .inr ⟨wanted_not (T := _) (by kernel_rfl) hsz rfl (by decide : 3 < 9) rfl rfl (hg 3 (by kernel_rfl) (by decide)), rfl⟩
   ·exact .inr ⟨wanted_not (T := _) (by kernel_rfl) hsz rfl (by decide : 3 < 9) rfl rfl (hg 3 (by kernel_rfl) (by decide)), rfl⟩
   ·exact .inr ⟨wanted_not (T := _) (by kernel_rfl) hsz rfl (by decide : 3 < 9) rfl rfl (hg 3 (by kernel_rfl) (by decide)), rfl⟩
   ·refine .inl ⟨wanted_none rfl, ?_⟩
    have e1 : ac.eval (.tmp 6) = .bool false := hg 3 (by kernel_rfl) (by decide)
    have e2 : ac.eval (.tmp 9) = undef := hg 6 (by kernel_rfl) (by decide)
    have e3 : ac.eval (.const (.bool false)) = .bool false := rfl
    exact opG_val (by revert e1 e2 e3; generalize ac.eval = ρ; intro e1 e2 e3; simp [go_sem, execOp, e1, e2, e3]) rfl (Chg.refl _)
   ·refine .inl ⟨wanted_none rfl, ?_⟩
    have e1 : ac.eval (.tmp 10) = .bool false := hg 7 (by kernel_rfl) (by decide)
    exact opG_val (by simp [execOp, e1]) rfl (Chg.refl _)
  ·intro u V hV hc
   have q2 : V 8 = .bool false := hV 8 (by decide)
   go_wp2_with fail
   go_meet
   exact ⟨q2, (Z1.out.1.trans hc)⟩
 obtain ⟨rfl, hz⟩ := hcut
 obtain ⟨w2, hw2⟩ : ∃ zz0, zz0 = wc := ⟨_, rfl⟩
 rw [← hw2] at hz ⊢
 have Z2 : Hid _ := hz
 clear hw2 hz Z1
 go_wp2_with fail
 go_ret
 exact ⟨by simp [cnt, HD.out], Z2.out⟩
set_option maxHeartbeats 16000000 in
theorem cntS_f (d : Int) (hd : N256 d) (h : decide (d = 0) = false) (w : World) : Calls Try.prog 48 #[.agg (num d)] w fun r w' => r = .returned (.bool (cnt d)) ∧ Chg w w' := by
 have HN : Hid (N256 d) := hd
 have HD : Hid (decide (d = 0) = false) := h
 clear hd h
 have hsA0 := num_size d
 obtain ⟨A0, hA0⟩ : ∃ zz0, zz0 = num d := ⟨_, rfl⟩
 have HA0 : Hid (A0 = num d) := hA0
 rw [← hA0] at hsA0 ⊢
 clear hA0
 go_enter Try.func48, Try.ntmps48
 go_upto_region 1 with fail
 obtain ⟨w1, hw1⟩ : ∃ w1, w1 = w.alloc (.cells A0 24) := ⟨_, rfl⟩
 have Z1 : Hid (Chg w w1 ∧ Ar w1 w.heap.size (num d)) := by
  have hnew0 := Ar.new w (num d) 24
  rw [hw1, HA0.out]
  exact ⟨((Chg.refl w).alloc _), (hnew0)⟩
 rw [← hw1]
 clear hw1 hsA0 HA0
 go_cut [2] from 2 to 10 (fun v2 wc => v2 = .bool (decide (d < mo 3)) ∧ Chg w wc)
 case first =>
  refine regN 9 (fun j v wg => match j with
   | 0 => v = .agg (num d)
   | 1 => v = .agg (num 0)
   | 2 => v = .bool true
   | 3 => v = .bool true
   | 4 => v = .agg (num d)
   | 5 => v = .agg (num (mo 3))
   | 6 => v = .bool (decide (d < mo 3))
   | 7 => v = .bool (decide (d < mo 3))
   | 8 => v = .bool (decide (d < mo 3))
   | _ => True) (by kernel_rfl) (by kernel_rfl) (by kernel_rfl) (by kernel_rfl) ?_ ?_ ?_
  ·intro j v u1 u2 h hc; exact h
  ·intro i o ac u hi ho hsz hf hg hc
   have hcs : i = 0 ∨ i = 1 ∨ i = 2 ∨ i = 3 ∨ i = 4 ∨ i = 5 ∨ i = 6 ∨ i = 7 ∨ i = 8 := by omega
   rcases hcs with rfl | rfl | rfl | rfl | rfl | rfl | rfl | rfl | rfl <;> (injection ho with ho; subst ho)
   ·refine .inl ⟨wanted_none rfl, ?_⟩
    exact ldN rfl (hf 1 (by kernel_rfl)) (rangeAp (Z1.out.2.chg hc)) rfl
   ·refine .inl ⟨wanted_none rfl, ?_⟩
    exact opG_built _ [] rfl (by kernel_rfl) (by kernel_rfl) rfl
   ·refine .inl ⟨wanted_none rfl, ?_⟩
    have e1 : ac.eval (.tmp 3) = .agg (num d) := hg 0 (by kernel_rfl) (by decide)
    have e2 : ac.eval (.tmp 4) = .agg (num 0) := hg 1 (by kernel_rfl) (by decide)
    exact opG_val (by revert e1 e2; generalize ac.eval = ρ; intro e1 e2; simp [go_sem, execOp, e1, e2, run_eqNum HN.out n0P, HD.out]) rfl (Chg.refl _)
   ·refine .inl ⟨wanted_none rfl, ?_⟩
    have e1 : ac.eval (.tmp 5) = .bool true := hg 2 (by kernel_rfl) (by decide)
    exact opG_val (by simp [execOp, e1]) rfl (Chg.refl _)
   ·refine .inl ⟨wanted_by (T := _) (by kernel_rfl) hsz rfl (by decide : 3 < 9) rfl (hg 3 (by kernel_rfl) (by decide)), ?_⟩
    exact ldN rfl (hf 1 (by kernel_rfl)) (rangeAp (Z1.out.2.chg hc)) rfl
   ·refine .inl ⟨wanted_by (T := _) (by kernel_rfl) hsz rfl (by decide : 3 < 9) rfl (hg 3 (by kernel_rfl) (by decide)), ?_⟩
    have e1 : ac.eval (.const (.int .i64 3)) = .int .i64 3 := rfl
    refine opG_go 20 Try.f20 #[.const (.int .i64 3)] #[35] rfl Try.func20 (by kernel_rfl) (by kernel_rfl) (by simp [e1]) (Calls.mono (modulusR_any 3 _) ?_)
    rintro r u2 ⟨rfl, hc2⟩
    exact ⟨_, rfl, rfl, hc2⟩
   ·refine .inl ⟨wanted_by (T := _) (by kernel_rfl) hsz rfl (by decide : 3 < 9) rfl (hg 3 (by kernel_rfl) (by decide)), ?_⟩
    have e1 : ac.eval (.tmp 7) = .agg (num d) := hg 4 (by kernel_rfl) (by decide)
    have e2 : ac.eval (.tmp 8) = .agg (num (mo 3)) := hg 5 (by kernel_rfl) (by decide)
    refine opG_go 36 Try.f36 #[.tmp 7, .tmp 8] #[24, 24] rfl Try.func36 (by kernel_rfl) (by kernel_rfl) (by simp [e1, e2]) (Calls.mono (less_any d (mo 3) (HN.out) mo_N3 _) ?_)
    rintro r u2 ⟨rfl, hc2⟩
    exact ⟨_, rfl, rfl, hc2⟩
   ·refine .inl ⟨wanted_none rfl, ?_⟩
    have e1 : ac.eval (.tmp 6) = .bool true := hg 3 (by kernel_rfl) (by decide)
    have e2 : ac.eval (.tmp 9) = .bool (decide (d < mo 3)) := hg 6 (by kernel_rfl) (by decide)
    have e3 : ac.eval (.const (.bool false)) = .bool false := rfl
    exact opG_val (by revert e1 e2 e3; generalize ac.eval = ρ; intro e1 e2 e3; simp [go_sem, execOp, e1, e2, e3]) rfl (Chg.refl _)
   ·refine .inl ⟨wanted_none rfl, ?_⟩
    have e1 : ac.eval (.tmp 10) = .bool (decide (d < mo 3)) := hg 7 (by kernel_rfl) (by decide)
    exact opG_val (by simp [execOp, e1]) rfl (Chg.refl _)
  ·intro u V hV hc
   have q2 : V 8 = .bool (decide (d < mo 3)) := hV 8 (by decide)
   go_wp2_with fail
   go_meet
   exact ⟨q2, (Z1.out.1.trans hc)⟩
 obtain ⟨rfl, hz⟩ := hcut
 obtain ⟨w2, hw2⟩ : ∃ zz0, zz0 = wc := ⟨_, rfl⟩
 rw [← hw2] at hz ⊢
 have Z2 : Hid _ := hz
 clear hw2 hz Z1
 go_wp2_with fail
 go_ret
 exact ⟨by simp [cnt, HD.out], Z2.out⟩
theorem cntS_any {d : Int} {b : Bool} (hd : N256 d) (h : cnt d = b) (w : World) : Calls Try.prog 48 #[.agg (num d)] w fun r w' => r = .returned (.bool b) ∧ Chg w w' := by
 rw [← h]
 cases h : decide (d = 0) with
 | true => exact cntS_t d hd h w
 | false => exact cntS_f d hd h w
set_option maxHeartbeats 16000000 in
theorem tell_t (z : Bool) (x y : Int) (hx : N256 x) (hy : N256 y) (h : eqPt z x y true 0 0 = true) (w : World) : Calls Try.prog 46 #[.agg (pt z x y)] w fun r w' => r = .returned (.bool (tell z x y)) ∧ Chg w w' := by
 have HN : Hid (N256 x ∧ N256 y) := ⟨hx, hy⟩
 have HD : Hid (eqPt z x y true 0 0 = true) := h
 clear hx hy h
 have hsA0 := pt_size z x y
 obtain ⟨A0, hA0⟩ : ∃ zz0, zz0 = pt z x y := ⟨_, rfl⟩
 have HA0 : Hid (A0 = pt z x y) := hA0
 rw [← hA0] at hsA0 ⊢
 clear hA0
 go_enter Try.func46, Try.ntmps46
 go_upto_region 1 with fail
 obtain ⟨w1, hw1⟩ : ∃ w1, w1 = w.alloc (.cells A0 26) := ⟨_, rfl⟩
 have Z1 : Hid (Chg w w1 ∧ Ar w1 w.heap.size (pt z x y)) := by
  have hnew0 := Ar.new w (pt z x y) 26
  rw [hw1, HA0.out]
  exact ⟨((Chg.refl w).alloc _), (hnew0)⟩
 rw [← hw1]
 clear hw1 hsA0 HA0
 go_cut [2] from 2 to 9 (fun v2 wc => v2 = .bool false ∧ Chg w wc)
 case first =>
  refine regN 8 (fun j v wg => match j with
   | 0 => v = .agg (pt z x y)
   | 1 => v = .agg (pt true 0 0)
   | 2 => v = .bool false
   | 3 => v = .bool false
   | 4 => v = undef
   | 5 => v = undef
   | 6 => v = .bool false
   | 7 => v = .bool false
   | _ => True) (by kernel_rfl) (by kernel_rfl) (by kernel_rfl) (by kernel_rfl) ?_ ?_ ?_
  ·intro j v u1 u2 h hc; exact h
  ·intro i o ac u hi ho hsz hf hg hc
   have hcs : i = 0 ∨ i = 1 ∨ i = 2 ∨ i = 3 ∨ i = 4 ∨ i = 5 ∨ i = 6 ∨ i = 7 := by omega
   rcases hcs with rfl | rfl | rfl | rfl | rfl | rfl | rfl | rfl <;> (injection ho with ho; subst ho)
   ·refine .inl ⟨wanted_none rfl, ?_⟩
    have e1 : ac.eval (.tmp 1) = .pointer (some ⟨w.heap.size, 0, none⟩) := hf 1 (by kernel_rfl)
    exact wp_load_mid 26 (.tmp 1) rfl _ _ e1 ((pt z x y).toList) _ (rangeAp (Z1.out.2.chg hc)) Try.underlying26 rfl (infoPt _ _ _) ⟨_, rfl, rfl, Chg.refl _⟩
   ·refine .inl ⟨wanted_none rfl, ?_⟩
    refine opG_go 24 Try.f24 #[] #[] rfl Try.func24 (by kernel_rfl) (by kernel_rfl) (by simp []) (Calls.mono (zeroQ_any _) ?_)
    rintro r u2 ⟨rfl, hc2⟩
    exact ⟨_, rfl, rfl, hc2⟩
   ·refine .inl ⟨wanted_none rfl, ?_⟩
    have e1 : ac.eval (.tmp 3) = .agg (pt z x y) := hg 0 (by kernel_rfl) (by decide)
    have e2 : ac.eval (.tmp 4) = .agg (pt true 0 0) := hg 1 (by kernel_rfl) (by decide)
    exact opG_val (by revert e1 e2; generalize ac.eval = ρ; intro e1 e2; simp [go_sem, execOp, e1, e2, run_eqPt HN.out.1 HN.out.2 n0P n0P, HD.out]) rfl (Chg.refl _)
   ·refine .inl ⟨wanted_none rfl, ?_⟩
    have e1 : ac.eval (.tmp 5) = .bool false := hg 2 (by kernel_rfl) (by decide)
    exact opG_val (by simp [execOp, e1]) rfl (Chg.refl _)
   ·exact .inr ⟨wanted_not (T := _) (by kernel_rfl) hsz rfl (by decide : 3 < 8) rfl rfl (hg 3 (by kernel_rfl) (by decide)), rfl⟩
   ·exact .inr ⟨wanted_not (T := _) (by kernel_rfl) hsz rfl (by decide : 3 < 8) rfl rfl (hg 3 (by kernel_rfl) (by decide)), rfl⟩
   ·refine .inl ⟨wanted_none rfl, ?_⟩
    have e1 : ac.eval (.tmp 6) = .bool false := hg 3 (by kernel_rfl) (by decide)
    have e2 : ac.eval (.tmp 8) = undef := hg 5 (by kernel_rfl) (by decide)
    have e3 : ac.eval (.const (.bool false)) = .bool false := rfl
    exact opG_val (by revert e1 e2 e3; generalize ac.eval = ρ; intro e1 e2 e3; simp [go_sem, execOp, e1, e2, e3]) rfl (Chg.refl _)
   ·refine .inl ⟨wanted_none rfl, ?_⟩
    have e1 : ac.eval (.tmp 9) = .bool false := hg 6 (by kernel_rfl) (by decide)
    exact opG_val (by simp [execOp, e1]) rfl (Chg.refl _)
  ·intro u V hV hc
   have q2 : V 7 = .bool false := hV 7 (by decide)
   go_wp2_with fail
   go_meet
   exact ⟨q2, (Z1.out.1.trans hc)⟩
 obtain ⟨rfl, hz⟩ := hcut
 obtain ⟨w2, hw2⟩ : ∃ zz0, zz0 = wc := ⟨_, rfl⟩
 rw [← hw2] at hz ⊢
 have Z2 : Hid _ := hz
 clear hw2 hz Z1
 go_wp2_with fail
 go_ret
 exact ⟨by simp [tell, HD.out], Z2.out⟩
set_option maxHeartbeats 16000000 in
theorem tell_f (z : Bool) (x y : Int) (hx : N256 x) (hy : N256 y) (h : eqPt z x y true 0 0 = false) (w : World) : Calls Try.prog 46 #[.agg (pt z x y)] w fun r w' => r = .returned (.bool (tell z x y)) ∧ Chg w w' := by
 have HN : Hid (N256 x ∧ N256 y) := ⟨hx, hy⟩
 have HD : Hid (eqPt z x y true 0 0 = false) := h
 clear hx hy h
 have hsA0 := pt_size z x y
 obtain ⟨A0, hA0⟩ : ∃ zz0, zz0 = pt z x y := ⟨_, rfl⟩
 have HA0 : Hid (A0 = pt z x y) := hA0
 rw [← hA0] at hsA0 ⊢
 clear hA0
 go_enter Try.func46, Try.ntmps46
 go_upto_region 1 with fail
 obtain ⟨w1, hw1⟩ : ∃ w1, w1 = w.alloc (.cells A0 26) := ⟨_, rfl⟩
 have Z1 : Hid (Chg w w1 ∧ Ar w1 w.heap.size (pt z x y)) := by
  have hnew0 := Ar.new w (pt z x y) 26
  rw [hw1, HA0.out]
  exact ⟨((Chg.refl w).alloc _), (hnew0)⟩
 rw [← hw1]
 clear hw1 hsA0 HA0
 go_cut [2] from 2 to 9 (fun v2 wc => v2 = .bool (onR z x y) ∧ Chg w wc)
 case first =>
  refine regN 8 (fun j v wg => match j with
   | 0 => v = .agg (pt z x y)
   | 1 => v = .agg (pt true 0 0)
   | 2 => v = .bool true
   | 3 => v = .bool true
   | 4 => v = .agg (pt z x y)
   | 5 => v = .bool (onR z x y)
   | 6 => v = .bool (onR z x y)
   | 7 => v = .bool (onR z x y)
   | _ => True) (by kernel_rfl) (by kernel_rfl) (by kernel_rfl) (by kernel_rfl) ?_ ?_ ?_
  ·intro j v u1 u2 h hc; exact h
  ·intro i o ac u hi ho hsz hf hg hc
   have hcs : i = 0 ∨ i = 1 ∨ i = 2 ∨ i = 3 ∨ i = 4 ∨ i = 5 ∨ i = 6 ∨ i = 7 := by omega
   rcases hcs with rfl | rfl | rfl | rfl | rfl | rfl | rfl | rfl <;> (injection ho with ho; subst ho)
   ·refine .inl ⟨wanted_none rfl, ?_⟩
    have e1 : ac.eval (.tmp 1) = .pointer (some ⟨w.heap.size, 0, none⟩) := hf 1 (by kernel_rfl)
    exact wp_load_mid 26 (.tmp 1) rfl _ _ e1 ((pt z x y).toList) _ (rangeAp (Z1.out.2.chg hc)) Try.underlying26 rfl (infoPt _ _ _) ⟨_, rfl, rfl, Chg.refl _⟩
   ·refine .inl ⟨wanted_none rfl, ?_⟩
    refine opG_go 24 Try.f24 #[] #[] rfl Try.func24 (by kernel_rfl) (by kernel_rfl) (by simp []) (Calls.mono (zeroQ_any _) ?_)
    rintro r u2 ⟨rfl, hc2⟩
    exact ⟨_, rfl, rfl, hc2⟩
   ·refine .inl ⟨wanted_none rfl, ?_⟩
    have e1 : ac.eval (.tmp 3) = .agg (pt z x y) := hg 0 (by kernel_rfl) (by decide)
    have e2 : ac.eval (.tmp 4) = .agg (pt true 0 0) := hg 1 (by kernel_rfl) (by decide)
    exact opG_val (by revert e1 e2; generalize ac.eval = ρ; intro e1 e2; simp [go_sem, execOp, e1, e2, run_eqPt HN.out.1 HN.out.2 n0P n0P, HD.out]) rfl (Chg.refl _)
   ·refine .inl ⟨wanted_none rfl, ?_⟩
    have e1 : ac.eval (.tmp 5) = .bool true := hg 2 (by kernel_rfl) (by decide)
    exact opG_val (by simp [execOp, e1]) rfl (Chg.refl _)
   ·refine .inl ⟨wanted_by (T := _) (by kernel_rfl) hsz rfl (by decide : 3 < 8) rfl (hg 3 (by kernel_rfl) (by decide)), ?_⟩
    have e1 : ac.eval (.tmp 1) = .pointer (some ⟨w.heap.size, 0, none⟩) := hf 1 (by kernel_rfl)
    exact wp_load_mid 26 (.tmp 1) rfl _ _ e1 ((pt z x y).toList) _ (rangeAp (Z1.out.2.chg hc)) Try.underlying26 rfl (infoPt _ _ _) ⟨_, rfl, rfl, Chg.refl _⟩
   ·refine .inl ⟨wanted_by (T := _) (by kernel_rfl) hsz rfl (by decide : 3 < 8) rfl (hg 3 (by kernel_rfl) (by decide)), ?_⟩
    have e1 : ac.eval (.tmp 7) = .agg (pt z x y) := hg 4 (by kernel_rfl) (by decide)
    refine opG_go 13 Try.f13 #[.tmp 7] #[26] rfl Try.func13 (by kernel_rfl) (by kernel_rfl) (by simp [e1]) (Calls.mono (onQ_any z x y HN.out.1 HN.out.2 _) ?_)
    rintro r u2 ⟨rfl, hc2⟩
    exact ⟨_, rfl, rfl, hc2⟩
   ·refine .inl ⟨wanted_none rfl, ?_⟩
    have e1 : ac.eval (.tmp 6) = .bool true := hg 3 (by kernel_rfl) (by decide)
    have e2 : ac.eval (.tmp 8) = .bool (onR z x y) := hg 5 (by kernel_rfl) (by decide)
    have e3 : ac.eval (.const (.bool false)) = .bool false := rfl
    exact opG_val (by revert e1 e2 e3; generalize ac.eval = ρ; intro e1 e2 e3; simp [go_sem, execOp, e1, e2, e3]) rfl (Chg.refl _)
   ·refine .inl ⟨wanted_none rfl, ?_⟩
    have e1 : ac.eval (.tmp 9) = .bool (onR z x y) := hg 6 (by kernel_rfl) (by decide)
    exact opG_val (by simp [execOp, e1]) rfl (Chg.refl _)
  ·intro u V hV hc
   have q2 : V 7 = .bool (onR z x y) := hV 7 (by decide)
   go_wp2_with fail
   go_meet
   exact ⟨q2, (Z1.out.1.trans hc)⟩
 obtain ⟨rfl, hz⟩ := hcut
 obtain ⟨w2, hw2⟩ : ∃ zz0, zz0 = wc := ⟨_, rfl⟩
 rw [← hw2] at hz ⊢
 have Z2 : Hid _ := hz
 clear hw2 hz Z1
 go_wp2_with fail
 go_ret
 exact ⟨by simp [tell, HD.out], Z2.out⟩
theorem tellQ_any {z : Bool} {x y : Int} {b : Bool} (hx : N256 x) (hy : N256 y) (h : tell z x y = b) (w : World) : Calls Try.prog 46 #[.agg (pt z x y)] w fun r w' => r = .returned (.bool b) ∧ Chg w w' := by
 rw [← h]
 cases h : eqPt z x y true 0 0 with
 | true => exact tell_t z x y hx hy h w
 | false => exact tell_f z x y hx hy h w
def bl (f : Nat → Int) : List Int := (List.range 32).map f
theorem bl_len (f : Nat → Int) : (bl f).length = 32 := by simp [bl]
theorem bl_get (f : Nat → Int) {i : Nat} (h : i < 32) : (bl f)[i]? = some (f i) := by simp [bl, h]
def encL (x y : Int) : List Int := ([4] ++ bl (tu (dg 256 x))) ++ bl (tu (dg 256 y))
theorem encL_len (x y : Int) : (encL x y).length = 65 := by simp [encL, bl_len]
theorem Ar.rdY {w : World} {b : Nat} {f : Nat → Int} (h : Ar w b (byt f)) : Ap.Rd w (.slice (some ⟨b, 0, none⟩) 32 32) (bl f) := by
 refine ⟨_, _, _, rfl, (bl_len f).symm, Nat.le_refl _, by decide, fun e => (by cases e), fun x e j u hj => ?_⟩
 cases e
 have hj' : j < 32 := by have := (List.getElem?_eq_some_iff.1 hj).1; rw [bl_len] at this; exact this
 rw [bl_get f hj'] at hj
 have := h.cell j
 rw [byt, arr_get _ _ _ hj', Option.some.inj hj] at this
 have e : (⟨b, 0, none⟩ : Addr).add j = ⟨b, j, none⟩ := by
  unfold Addr.add
  by_cases h0 : j = 0
  ·subst h0; rfl
  ·simp [h0]
 rw [e]
 exact this
theorem u46 : Try.prog.underlying 46 = some (.slice 5) := by kernel_rfl
theorem mk65 (w : World) : (Instr.makeSlice 46 (.int .i64 0) (.int .i64 65)).run Try.prog w = .ok (.slice (some ⟨w.heap.size, 0, none⟩) 0 65) (w.alloc (.cells (arr .u8 65 zD) 5)) := by
 have hi : (Try.prog.info? 5).map (fun i => (i.zero, i.size, i.bytes)) = some (some (.int .u8 0), 1, 1) := by kernel_rfl
 cases hq : Try.prog.info? 5 with
 | none => rw [hq] at hi; cases hi
 | some i =>
  rw [hq] at hi
  have hi := Option.some.inj hi
  have h1 : i.zero = some (.int .u8 0) := congrArg (·.1) hi
  have h2 : i.size = 1 := congrArg (·.2.1) hi
  have h3 : i.bytes = 1 := congrArg (·.2.2) hi
  have := run_make (P := Try.prog) w 46 5 i _ u46 hq h1 .i64 .i64 0 65 (by omega) (by omega) (by rw [h3]; omega) (by omega)
  rw [this, h2]
  have e : madeCells (Value.int .u8 0).cells ((65 : Int).toNat * 1) = arr .u8 65 zD := by
   apply Array.ext_getElem?
   intro j
   by_cases hj : j < 65
   ·simp [madeCells, arr, zD, Value.cells, hj, Nat.mod_one]
   ·simp [madeCells, arr, zD, Value.cells, hj]
  rw [e]
  simp
theorem slY (b : Nat) (w : World) : (Instr.sliceAt 40 (.pointer (some ⟨b, 0, none⟩)) none none none).run Try.prog w = .ok (.slice (some ⟨b, 0, none⟩) 32 32) w := by
 simp [go_sem, Instr.sliceAt, Instr.sliceBounds, run_underlying un37, Sem.run_bind]
set_option maxHeartbeats 16000000 in
theorem encQ_n (z : Bool) (x y : Int) (hx : N256 x) (hy : N256 y) (h : tell z x y = false) (w : World) : Calls Try.prog 23 #[.agg (pt z x y)] w fun r w' => r = .returned (.slice none 0 0) ∧ Chg w w' := by
 have HN : Hid (N256 x ∧ N256 y) := ⟨hx, hy⟩
 have HD : Hid (tell z x y = false) := h
 clear hx hy h
 have hsA0 := pt_size z x y
 obtain ⟨A0, hA0⟩ : ∃ zz0, zz0 = pt z x y := ⟨_, rfl⟩
 have HA0 : Hid (A0 = pt z x y) := hA0
 rw [← hA0] at hsA0 ⊢
 clear hA0
 go_enter Try.func23, Try.ntmps23
 go_upto_region 1 with fail
 obtain ⟨w1, hw1⟩ : ∃ w1, w1 = w.alloc (.cells A0 26) := ⟨_, rfl⟩
 have Z1 : Hid (Chg w w1 ∧ Ar w1 w.heap.size (pt z x y)) := by
  have hnew0 := Ar.new w (pt z x y) 26
  rw [hw1, HA0.out]
  exact ⟨((Chg.refl w).alloc _), (hnew0)⟩
 rw [← hw1]
 clear hw1 hsA0 HA0
 go_cut [8] from 6 to 8 (fun v8 wc => v8 = .bool true ∧ Chg w wc)
 case first =>
  refine regP 3 (fun j v wg => match j with
   | 0 => v = .agg (pt z x y)
   | 1 => v = .bool false
   | 2 => v = .bool true
   | _ => True) (by decide) (by kernel_rfl) ?_ ?_ ?_
  ·intro j v u1 u2 h hc; exact h
  ·intro i o ac u hi ho hsz hf hg hc
   have hcs : i = 0 ∨ i = 1 ∨ i = 2 := by omega
   rcases hcs with rfl | rfl | rfl <;> (injection ho with ho; subst ho; refine .inl ⟨wanted_none rfl, ?_⟩)
   ·have e1 : ac.eval (.tmp 1) = .pointer (some ⟨w.heap.size, 0, none⟩) := hf 1 (by kernel_rfl)
    exact wp_load_mid 26 (.tmp 1) rfl _ _ e1 ((pt z x y).toList) _ (rangeAp (Z1.out.2.chg hc)) Try.underlying26 rfl (infoPt _ _ _) ⟨_, rfl, rfl, Chg.refl _⟩
   ·have e1 : ac.eval (.tmp 6) = .agg (pt z x y) := hg 0 (by decide) (by decide)
    refine opG_go 46 Try.f46 #[.tmp 6] #[26] rfl Try.func46 (by kernel_rfl) (by kernel_rfl) (by simp [e1]) (Calls.mono (tellQ_any HN.out.1 HN.out.2 HD.out _) ?_)
    rintro r u2 ⟨rfl, hc2⟩
    exact ⟨_, rfl, rfl, hc2⟩
   ·have e1 : ac.eval (.tmp 7) = .bool false := hg 1 (by decide) (by decide)
    exact opG_val (by revert e1; generalize ac.eval = ρ; intro e1; simp [go_sem, execOp, e1]) rfl (Chg.refl _)
  ·intro u V hV hc
   have q8 : V 2 = .bool true := hV 2 (by decide)
   go_wp2_with fail
   go_meet
   exact ⟨q8, (Z1.out.1.trans hc)⟩
 obtain ⟨rfl, hz⟩ := hcut
 obtain ⟨w2, hw2⟩ : ∃ zz0, zz0 = wc := ⟨_, rfl⟩
 rw [← hw2] at hz ⊢
 have Z2 : Hid _ := hz
 clear hw2 hz Z1
 go_wp2_with fail
 go_ret
 exact ⟨rfl, Z2.out⟩
set_option maxHeartbeats 16000000 in
theorem encQ_y (z : Bool) (x y : Int) (hx : N256 x) (hy : N256 y) (h : tell z x y = true) (w : World) : Calls Try.prog 23 #[.agg (pt z x y)] w fun r w' => ∃ g, r = .returned (.slice (some ⟨g, 0, none⟩) 65 65) ∧ (Ap.Own w' g 0 65 65 (encL x y) ∧ w.heap.size ≤ g) ∧ Chg w w' := by
 have HN : Hid (N256 x ∧ N256 y) := ⟨hx, hy⟩
 have HD : Hid (tell z x y = true) := h
 clear hx hy h
 have hsA0 := pt_size z x y
 obtain ⟨A0, hA0⟩ : ∃ zz0, zz0 = pt z x y := ⟨_, rfl⟩
 have HA0 : Hid (A0 = pt z x y) := hA0
 rw [← hA0] at hsA0 ⊢
 clear hA0
 go_enter Try.func23, Try.ntmps23
 go_upto_region 1 with fail
 obtain ⟨w1, hw1⟩ : ∃ w1, w1 = w.alloc (.cells A0 26) := ⟨_, rfl⟩
 have Z1 : Hid (Chg w w1 ∧ Ar w1 w.heap.size (pt z x y)) := by
  have hnew0 := Ar.new w (pt z x y) 26
  rw [hw1, HA0.out]
  exact ⟨((Chg.refl w).alloc _), (hnew0)⟩
 rw [← hw1]
 clear hw1 hsA0 HA0
 go_cut [8] from 6 to 8 (fun v8 wc => v8 = .bool false ∧ Chg w wc ∧ Ar wc w.heap.size (pt z x y))
 case first =>
  refine regP 3 (fun j v wg => match j with
   | 0 => v = .agg (pt z x y)
   | 1 => v = .bool true
   | 2 => v = .bool false
   | _ => True) (by decide) (by kernel_rfl) ?_ ?_ ?_
  ·intro j v u1 u2 h hc; exact h
  ·intro i o ac u hi ho hsz hf hg hc
   have hcs : i = 0 ∨ i = 1 ∨ i = 2 := by omega
   rcases hcs with rfl | rfl | rfl <;> (injection ho with ho; subst ho; refine .inl ⟨wanted_none rfl, ?_⟩)
   ·have e1 : ac.eval (.tmp 1) = .pointer (some ⟨w.heap.size, 0, none⟩) := hf 1 (by kernel_rfl)
    exact wp_load_mid 26 (.tmp 1) rfl _ _ e1 ((pt z x y).toList) _ (rangeAp (Z1.out.2.chg hc)) Try.underlying26 rfl (infoPt _ _ _) ⟨_, rfl, rfl, Chg.refl _⟩
   ·have e1 : ac.eval (.tmp 6) = .agg (pt z x y) := hg 0 (by decide) (by decide)
    refine opG_go 46 Try.f46 #[.tmp 6] #[26] rfl Try.func46 (by kernel_rfl) (by kernel_rfl) (by simp [e1]) (Calls.mono (tellQ_any HN.out.1 HN.out.2 HD.out _) ?_)
    rintro r u2 ⟨rfl, hc2⟩
    exact ⟨_, rfl, rfl, hc2⟩
   ·have e1 : ac.eval (.tmp 7) = .bool true := hg 1 (by decide) (by decide)
    exact opG_val (by revert e1; generalize ac.eval = ρ; intro e1; simp [go_sem, execOp, e1]) rfl (Chg.refl _)
  ·intro u V hV hc
   have q8 : V 2 = .bool false := hV 2 (by decide)
   go_wp2_with fail
   go_meet
   exact ⟨q8, (Z1.out.1.trans hc), (Z1.out.2.chg hc)⟩
 obtain ⟨rfl, hz⟩ := hcut
 obtain ⟨w2, hw2⟩ : ∃ zz0, zz0 = wc := ⟨_, rfl⟩
 rw [← hw2] at hz ⊢
 have Z2 : Hid _ := hz
 clear hw2 hz Z1
 go_upto_region 3 with fail
 go_cut [3, 4] from 3 to 14 (fun v3 v4 wc => ∃ b3 b4, v3 = .pointer (some ⟨b3, 0, none⟩) ∧ v4 = .pointer (some ⟨b4, 0, none⟩) ∧ Chg w wc ∧ Ar wc b3 (byt (tu (dg 256 x))) ∧ Ar wc b4 (byt (tu (dg 256 y))))
 case first =>
  refine regM 8 (fun j => j == 6 || j == 7) (fun j v wg => match j with
   | 0 => v = .pointer (some ⟨w.heap.size, 1, none⟩)
   | 1 => v = .agg (num x)
   | 2 => v = .agg (byt (tu (dg 256 x)))
   | 3 => v = .pointer (some ⟨w.heap.size, 5, none⟩)
   | 4 => v = .agg (num y)
   | 5 => v = .agg (byt (tu (dg 256 y)))
   | 6 => ∃ b, v = .pointer (some ⟨b, 0, none⟩) ∧ Ar wg b (byt zD) ∧ w2.heap.size ≤ b
   | 7 => ∃ b, v = .pointer (some ⟨b, 0, none⟩) ∧ Ar wg b (byt zD) ∧ w2.heap.size ≤ b
   | _ => True) (by kernel_rfl) (by decide) (by kernel_rfl) (by kernel_rfl) (by kernel_rfl) (by kernel_rfl) ?_ ?_ ?_ ?_
  ·intro j v u1 u2 h hc
   match j, h with
   | 0, h => exact h
   | 1, h => exact h
   | 2, h => exact h
   | 3, h => exact h
   | 4, h => exact h
   | 5, h => exact h
   | 6, h => (obtain ⟨b, h1, h2, h3⟩ := h; exact ⟨b, h1, h2.chg hc, h3⟩)
   | 7, h => (obtain ⟨b, h1, h2, h3⟩ := h; exact ⟨b, h1, h2.chg hc, h3⟩)
   | _ + 8, h => exact trivial
  ·intro j v u hj ha h
   have hcs : j = 6 ∨ j = 7 := by simpa [or_assoc] using ha
   rcases hcs with rfl | rfl
   ·obtain ⟨b, h1, h2, h3⟩ := h; exact ⟨b, h1, h2.lt⟩
   ·obtain ⟨b, h1, h2, h3⟩ := h; exact ⟨b, h1, h2.lt⟩
  ·intro i o ac u hi ho hsz hf hg hc
   have hcs : i = 0 ∨ i = 1 ∨ i = 2 ∨ i = 3 ∨ i = 4 ∨ i = 5 ∨ i = 6 ∨ i = 7 := by omega
   rcases hcs with rfl | rfl | rfl | rfl | rfl | rfl | rfl | rfl <;> (injection ho with ho; subst ho; refine ⟨wanted_none rfl, ?_⟩)
   ·have e1 : ac.eval (.tmp 1) = .pointer (some ⟨w.heap.size, 0, none⟩) := hf 1 (by kernel_rfl)
    exact opG_val (by revert e1; generalize ac.eval = ρ; intro e1; simp [go_sem, execOp, e1]) ⟨rfl, fun h => by cases h⟩ (Chg.refl _)
   ·exact ldN rfl (hg 0 (by kernel_rfl) (by decide)) (rangePtX (Z2.out.2.chg hc)) ⟨rfl, fun h => by cases h⟩
   ·have e1 : ac.eval (.tmp 10) = .agg (num x) := hg 1 (by kernel_rfl) (by decide)
    refine opG_go 47 Try.f47 #[.tmp 10] #[24] rfl Try.func47 (by kernel_rfl) (by kernel_rfl) (by simp [e1]) (Calls.mono (toBE_any x _) ?_)
    rintro r u2 ⟨rfl, hc2⟩
    exact ⟨_, rfl, ⟨rfl, fun h => by cases h⟩, hc2⟩
   ·have e1 : ac.eval (.tmp 1) = .pointer (some ⟨w.heap.size, 0, none⟩) := hf 1 (by kernel_rfl)
    exact opG_val (by revert e1; generalize ac.eval = ρ; intro e1; simp [go_sem, execOp, e1]) ⟨rfl, fun h => by cases h⟩ (Chg.refl _)
   ·exact ldN rfl (hg 3 (by kernel_rfl) (by decide)) (rangePtY (Z2.out.2.chg hc)) ⟨rfl, fun h => by cases h⟩
   ·have e1 : ac.eval (.tmp 13) = .agg (num y) := hg 4 (by kernel_rfl) (by decide)
    refine opG_go 47 Try.f47 #[.tmp 13] #[24] rfl Try.func47 (by kernel_rfl) (by kernel_rfl) (by simp [e1]) (Calls.mono (toBE_any y _) ?_)
    rintro r u2 ⟨rfl, hc2⟩
    exact ⟨_, rfl, ⟨rfl, fun h => by cases h⟩, hc2⟩
   ·exact opG_val (v := .pointer (some ⟨u.heap.size, 0, none⟩)) (w' := u.alloc (.cells (byt zD) 40)) (by generalize ac.eval = ρ; simp [go_sem, execOp, zero37.1]) ⟨⟨_, rfl, Ar.new _ _ _, hc.size⟩, fun _ => rfl⟩ ((Chg.refl _).alloc _)
   ·exact opG_val (v := .pointer (some ⟨u.heap.size, 0, none⟩)) (w' := u.alloc (.cells (byt zD) 40)) (by generalize ac.eval = ρ; simp [go_sem, execOp, zero37.1]) ⟨⟨_, rfl, Ar.new _ _ _, hc.size⟩, fun _ => rfl⟩ ((Chg.refl _).alloc _)
  ·intro u V hV hap hc
   have q11 : V 2 = .agg (byt (tu (dg 256 x))) := hV 2 (by decide)
   have q14 : V 5 = .agg (byt (tu (dg 256 y))) := hV 5 (by decide)
   obtain ⟨b3, q3, r3, s3⟩ := hV 6 (by decide)
   obtain ⟨b4, q4, r4, s4⟩ := hV 7 (by decide)
   have lw3 : w.heap.size ≤ b3 := Nat.le_trans Z2.out.1.size s3
   have lw4 : w.heap.size ≤ b4 := Nat.le_trans Z2.out.1.size s4
   have hne3_4 : b3 ≠ b4 := by
    have := hap 6 7 (by decide) (by decide) rfl rfl (by decide)
    rw [q3, q4] at this
    intro e; exact this (by rw [e])
   have hres0 := r3
   refine tail_cons rfl rfl ?_
   refine wp_store_mid 40 (.tmp 3) (.tmp 11) rfl b3 0 (byt (tu (dg 256 x))) (Eq.trans (by rfl) q3) (Eq.trans (by rfl) q11) (by rw [byt_size]; exact thereY hres0) (szY _) (oneY _) ?_
   rw [setRowY hres0 _]
   have k0_c : Chg w (u.setRow b3 (byt (tu (dg 256 x)))) := ((Z2.out.1.trans hc).setRow lw3 _)
   have k0_B3 := hres0.row (byt (tu (dg 256 x)))
   have k0_B4 := r4.rowOther (hne3_4.symm) (byt (tu (dg 256 x)))
   generalize (u.setRow b3 (byt (tu (dg 256 x)))) = u10 at k0_c k0_B3 k0_B4 ⊢
   have hres1 := k0_B4
   refine tail_cons rfl rfl ?_
   refine wp_store_mid 40 (.tmp 4) (.tmp 14) rfl b4 0 (byt (tu (dg 256 y))) (Eq.trans (by rfl) q4) (Eq.trans (by rfl) q14) (by rw [byt_size]; exact thereY hres1) (szY _) (oneY _) ?_
   rw [setRowY hres1 _]
   have k1_c : Chg w (u10.setRow b4 (byt (tu (dg 256 y)))) := (k0_c.setRow lw4 _)
   have k1_B3 := k0_B3.rowOther hne3_4 (byt (tu (dg 256 y)))
   have k1_B4 := hres1.row (byt (tu (dg 256 y)))
   generalize (u10.setRow b4 (byt (tu (dg 256 y)))) = u11 at k1_c k1_B3 k1_B4 ⊢
   refine tail_nil rfl ?_
   go_wp2_with fail
   go_meet
   exact ⟨b3, b4, q3, q4, k1_c, k1_B3, k1_B4⟩
 obtain ⟨b3, b4, rfl, rfl, hz⟩ := hcut
 obtain ⟨w3, hw3⟩ : ∃ zz0, zz0 = wc := ⟨_, rfl⟩
 rw [← hw3] at hz ⊢
 have Z3 : Hid _ := hz
 clear hw3 hz Z2
 have hmk := mk65
 go_upto_region 5 with fail
 obtain ⟨g, hg⟩ : ∃ g, g = w3.heap.size := ⟨_, rfl⟩
 obtain ⟨w7, hw7⟩ : ∃ zz0, zz0 = w3.alloc (.cells (arr .u8 65 zD) 5) := ⟨_, rfl⟩
 have Y7 : Hid (Chg w w7 ∧ Ar w7 b3 (byt (tu (dg 256 x))) ∧ Ar w7 b4 (byt (tu (dg 256 y))) ∧ b3 ≠ g ∧ b4 ≠ g ∧ w.heap.size ≤ g ∧ g < w7.heap.size) := by
  rw [hw7, hg]
  exact ⟨Z3.out.1.alloc _, Z3.out.2.1.alloc _, Z3.out.2.2.alloc _, Z3.out.2.1.apart (Nat.le_refl _), Z3.out.2.2.apart (Nat.le_refl _), Z3.out.1.size, by simp⟩
 have o7 : Ap.Own w7 g 0 0 65 [] := by
  rw [hw7, hg]
  exact ⟨rfl, by decide, by decide, _, heap_alloc_last _ _, by rw [arr_size]; decide, by simp⟩
 rw [← hw7, ← hg]
 clear hw7 hg hmk Z3
 have o8 : Ap.Own (w7.alloc (.cells #[.int .u8 4] 5)) g 0 0 65 [] := o7.keep (Below.heap_alloc _ _ _ o7.lt)
 clear o7
 go_wp2_with (first | refine Ap.wpList_room (w7.alloc (.cells #[.int .u8 4] 5)) rfl _ _ rfl g 0 0 65 _ [] [4] rfl rfl o8 (Ap.Rd.one w7 4) 1 rfl (by decide) ?_)
 intro w8 o9 c9
 have Y8 : Hid (Chg w w8 ∧ Ar w8 b3 (byt (tu (dg 256 x))) ∧ Ar w8 b4 (byt (tu (dg 256 y))) ∧ b3 ≠ g ∧ b4 ≠ g ∧ w.heap.size ≤ g) :=
  ⟨(Y7.out.1.alloc _).ap c9 (fun i e => by rw [show i = g from e]; exact Y7.out.2.2.2.2.2.1), (Y7.out.2.1.alloc _).ap c9 (fun e => Y7.out.2.2.2.1 e), (Y7.out.2.2.1.alloc _).ap c9 (fun e => Y7.out.2.2.2.2.1 e), Y7.out.2.2.2.1, Y7.out.2.2.2.2.1, Y7.out.2.2.2.2.2.1⟩
 clear o8 c9 Y7
 have hsl := slY
 have hr8 := Y8.out.2.1.rdY
 go_wp2_with (first | refine Ap.wpList_room w8 rfl _ _ rfl g 0 1 65 _ _ _ rfl rfl o9 hr8 32 (by rw [bl_len]) (by decide) ?_)
 intro w9 o10 c10
 have Y9 : Hid (Chg w w9 ∧ Ar w9 b4 (byt (tu (dg 256 y))) ∧ b4 ≠ g ∧ w.heap.size ≤ g) :=
  ⟨Y8.out.1.ap c10 (fun i e => by rw [show i = g from e]; exact Y8.out.2.2.2.2.2), Y8.out.2.2.1.ap c10 (fun e => Y8.out.2.2.2.2.1 e), Y8.out.2.2.2.2.1, Y8.out.2.2.2.2.2⟩
 clear o9 c10 hr8 Y8
 have hr9 := Y9.out.2.1.rdY
 go_wp2_with (first | refine Ap.wpList_room w9 rfl _ _ rfl g 0 33 65 _ _ _ rfl rfl o10 hr9 32 (by rw [bl_len]) (by decide) ?_)
 intro w10 o11 c11
 have Y10 : Hid (Chg w w10) := Y9.out.1.ap c11 (fun i e => by rw [show i = g from e]; exact Y9.out.2.2.2)
 have H11 : Hid (Ap.Own w10 g 0 65 65 (encL x y) ∧ w.heap.size ≤ g) := ⟨o11, Y9.out.2.2.2⟩
 clear o10 o11 c11 hr9 Y9
 go_wp2_with fail
 go_ret
 exact ⟨g, rfl, H11.out, Y10.out⟩
def hdP : PQt := some (fq g2X, fq g2Y)
theorem mulR_2 : mulR 2 false gX gY = hdP := by rw [mulR_g]; exact mw_2
theorem xP_2 : xP hdP = g2X := by
 show ((fq g2X).val : Int) = g2X
 rw [show ((fq g2X).val : Int) = g2X % (pq : Int) from fi_val g2X]
 decide +kernel
theorem on_2 : ONW hdP := by
 have := on_G.mu 2
 rw [mw_2] at this
 exact this
theorem tell_2 : tell (zP hdP) (xP hdP) (yP hdP) = true := by
 rw [tell_eq, onR_P on_2]
 rfl
theorem hd_bytes (y : Int) : (encL g2X y)[0]? = some 4 ∧ (encL g2X y)[1]? = some 124 ∧ (encL g2X y)[2]? = some 242 ∧ (encL g2X y)[32]? = some 120 := by
 have e1 : tu (dg 256 g2X) 0 = 124 := by decide +kernel
 have e2 : tu (dg 256 g2X) 1 = 242 := by decide +kernel
 have e3 : tu (dg 256 g2X) 31 = 120 := by decide +kernel
 refine ⟨rfl, ?_, ?_, ?_⟩
 ·rw [encL, List.getElem?_append_left (by simp [bl_len]), List.getElem?_append_right (by simp)]
  show (bl (tu (dg 256 g2X)))[0]? = _
  rw [bl_get _ (by decide), e1]
 ·rw [encL, List.getElem?_append_left (by simp [bl_len]), List.getElem?_append_right (by simp)]
  show (bl (tu (dg 256 g2X)))[1]? = _
  rw [bl_get _ (by decide), e2]
 ·rw [encL, List.getElem?_append_left (by simp [bl_len]), List.getElem?_append_right (by simp)]
  show (bl (tu (dg 256 g2X)))[31]? = _
  rw [bl_get _ (by decide), e3]
def EncA (w u : World) (g : Nat) : Prop := Ap.Own u g 0 65 65 (encL g2X (yP hdP)) ∧ w.heap.size ≤ g
theorem EncA.chg {w u v : World} {g : Nat} (h : EncA w u g) (c : Chg u v) : EncA w v g := ⟨h.1.keep (c.block g h.1.lt), h.2⟩
theorem N_2 : N256 2 := ⟨by decide, by decide⟩
set_option maxHeartbeats 16000000 in
theorem headQ_any (w : World) : Calls Try.prog 8 #[] w fun r w' => r = .returned (.bool true) ∧ Chg w w' := by
 go_enter Try.func8, Try.ntmps8
 go_upto_region 1 with fail
 have Z1 : Hid (Chg w w) := Chg.refl w
 go_cut [1] from 1 to 5 (fun v1 wc => ∃ g1, v1 = .slice (some ⟨g1, 0, none⟩) 65 65 ∧ EncA w wc g1 ∧ Chg w wc)
 case first =>
  refine regP 5 (fun j v wg => match j with
   | 0 => v = .agg (num 2)
   | 1 => v = .agg (pt false gX gY)
   | 2 => v = .agg (pt (zP hdP) (xP hdP) (yP hdP))
   | 3 => ∃ g, v = .slice (some ⟨g, 0, none⟩) 65 65 ∧ EncA w wg g
   | 4 => ∃ g, v = .slice (some ⟨g, 0, none⟩) 65 65 ∧ EncA w wg g
   | _ => True) (by decide) (by kernel_rfl) ?_ ?_ ?_
  ·intro j v u1 u2 h hc
   match j, h with
   | 0, h => exact h
   | 1, h => exact h
   | 2, h => exact h
   | 3, h => (obtain ⟨g, h1, h2⟩ := h; exact ⟨g, h1, h2.chg hc⟩)
   | 4, h => (obtain ⟨g, h1, h2⟩ := h; exact ⟨g, h1, h2.chg hc⟩)
   | _ + 5, h => exact trivial
  ·intro i o ac u hi ho hsz hf hg hc
   have hcs : i = 0 ∨ i = 1 ∨ i = 2 ∨ i = 3 ∨ i = 4 := by omega
   rcases hcs with rfl | rfl | rfl | rfl | rfl <;> (injection ho with ho; subst ho; refine .inl ⟨wanted_none rfl, ?_⟩)
   ·exact opG_built _ [(0, .int .u64 2)] rfl (by kernel_rfl) (by kernel_rfl) rfl
   ·refine opG_go 15 Try.f15 #[] #[] rfl Try.func15 (by kernel_rfl) (by kernel_rfl) (by simp []) (Calls.mono (baseQ_any _) ?_)
    rintro r u2 ⟨rfl, hc2⟩
    exact ⟨_, rfl, rfl, hc2⟩
   ·have e1 : ac.eval (.tmp 2) = .agg (num 2) := hg 0 (by decide) (by decide)
    have e2 : ac.eval (.tmp 3) = .agg (pt false gX gY) := hg 1 (by decide) (by decide)
    refine opG_go 11 Try.f11 #[.tmp 2, .tmp 3] #[24, 26] rfl Try.func11 (by kernel_rfl) (by kernel_rfl) (by simp [e1, e2]) (Calls.mono (multQ_any _ _ _ _ N_2 N_gX N_gY _ mulR_2 _) ?_)
    rintro r u2 ⟨rfl, hc2⟩
    exact ⟨_, rfl, rfl, hc2⟩
   ·have e1 : ac.eval (.tmp 4) = .agg (pt (zP hdP) (xP hdP) (yP hdP)) := hg 2 (by decide) (by decide)
    refine opG_go 23 Try.f23 #[.tmp 4] #[26] rfl Try.func23 (by kernel_rfl) (by kernel_rfl) (by simp [e1]) (Calls.mono (encQ_y _ _ _ (xP_N _) (yP_N _) tell_2 _) ?_)
    rintro r u2 ⟨g5, rfl, m5, hc2⟩; rw [xP_2] at m5
    exact ⟨_, rfl, ⟨g5, rfl, m5.1, Nat.le_trans hc.size m5.2⟩, hc2⟩
   ·obtain ⟨g5, e10, m5⟩ := hg 3 (by decide) (by decide)
    have e1 : ac.eval (.tmp 5) = .slice (some ⟨g5, 0, none⟩) 65 65 := e10
    exact opG_val (by simp [execOp, e1]) ⟨_, rfl, m5⟩ (Chg.refl _)
  ·intro u V hV hc
   obtain ⟨g5, q5, m5⟩ := hV 3 (by decide)
   obtain ⟨g1, q1, m1⟩ := hV 4 (by decide)
   go_wp2_with fail
   go_meet
   exact ⟨g1, q1, m1, (Z1.out.trans hc)⟩
 obtain ⟨g1, rfl, m1, hz⟩ := hcut
 obtain ⟨w2, hw2⟩ : ∃ zz0, zz0 = wc := ⟨_, rfl⟩
 rw [← hw2] at hz m1 ⊢
 have Z2 : Hid _ := hz
 have Mm1 : Hid _ := m1
 clear hw2 hz m1 Z1
 have hb := hd_bytes (yP hdP)
 have c0 := (Mm1.out.1.cell 0 _ hb.1)
 have c1 := (Mm1.out.1.cell 1 _ hb.2.1)
 have c2 := (Mm1.out.1.cell 2 _ hb.2.2.1)
 have c32 := (Mm1.out.1.cell 32 _ hb.2.2.2)
 clear hb
 go_wp2_with fail
 go_at_call 15
 refine (baseQ_any _).mono ?_
 rintro r w3 ⟨rfl, hc3⟩
 have Z3 : Hid (Chg w w3) := Z2.out.trans hc3
 clear hc3
 go_wp2_with fail
 go_at_call 13
 refine (onQL_any N_gX N_gY on_gR _).mono ?_
 rintro r w4 ⟨rfl, hc4⟩
 have Z4 : Hid (Chg w w4) := Z3.out.trans hc4
 clear hc4
 go_wp2_with fail
 go_ret
 exact ⟨rfl, Z4.out⟩
end Go.Proofs.Ytbdgmkejmfjobaa
