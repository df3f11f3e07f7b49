/-
  Sums and multiples of points that are handed in: the program, the document.
-/
import Derived.Test.YtbdgmkejmfjobaaJt
import Derived.Test.YtbdgmkejmfjobaaDs
namespace Go.Proofs.Ytbdgmkejmfjobaa
open Go.RowKit
set_option linter.unusedVariables false
set_option maxRecDepth 100000
def addR (z : Bool) (x y : Int) (z' : Bool) (x' y' : Int) : PQt := if onR z x y && onR z' x' y' then AW (toP z x y) (toP z' x' y') else none
def mulR (n : Int) (z : Bool) (x y : Int) : PQt := if onR z x y then MW (toP z x y) n.toNat else none
theorem onQL_any {z : Bool} {x y : Int} {b : Bool} (hx : N256 x) (hy : N256 y) (h : onR z x y = b) (w : World) : Calls Try.prog 13 #[.agg (pt z x y)] w fun r w' => r = .returned (.bool b) ∧ Chg w w' := by
 rw [← h]
 exact onQ_any z x y hx hy w
theorem onSL_any {z : Bool} {x y : Int} {b : Bool} (hx : N256 x) (hy : N256 y) (h : onR z x y = b) (w : World) : Calls Try.prog 14 #[.agg (pt z x y)] w fun r w' => r = .returned (.bool b) ∧ Chg w w' := by
 rw [← h]
 exact onS_any z x y hx hy w
set_option maxHeartbeats 16000000 in
theorem padQ_1 (z : Bool) (x y : Int) (z' : Bool) (x' y' : Int) (hx : N256 x) (hy : N256 y) (hx' : N256 x') (hy' : N256 y') (h1 : onR z x y = false) (w : World) : Calls Try.prog 9 #[.agg (pt z x y), .agg (pt z' x' y')] w fun r w' => r = .returned (.agg (pt true 0 0)) ∧ Chg w w' := by
 have HN : Hid (N256 x ∧ N256 y ∧ N256 x' ∧ N256 y') := ⟨hx, hy, hx', hy'⟩
 clear hx hy hx' hy'
 have H1 : Hid (onR z x y = false) := h1
 clear h1
 have hz0 := zeroPt.1
 have hsA0 := pt_size z x y
 obtain ⟨A0, hA0⟩ : ∃ zz0, zz0 = pt z x y := ⟨_, rfl⟩
 have HA0 : Hid (A0 = pt z x y) := hA0
 have hsA1 := pt_size z' x' y'
 obtain ⟨A1, hA1⟩ : ∃ zz0, zz0 = pt z' x' y' := ⟨_, rfl⟩
 have HA1 : Hid (A1 = pt z' x' y') := hA1
 rw [← hA0] at hsA0 ⊢
 rw [← hA1] at hsA1 ⊢
 clear hA0 hA1
 go_enter Try.func9, Try.ntmps9
 go_upto_region 1 with fail
 obtain ⟨w1, hw1⟩ : ∃ w1, w1 = ((w.alloc (.cells A0 26)).alloc (.cells A1 26)).alloc (.cells (pt false 0 0) 26) := ⟨_, rfl⟩
 have Z1 : Hid (Chg w w1 ∧ Ar w1 w.heap.size (pt z x y) ∧ Ar w1 (w.heap.size + 1) (pt z' x' y') ∧ Ar w1 (w.heap.size + 1 + 1) (pt false 0 0)) := by
  have hnew0 := Ar.new w (pt z x y) 26
  have hnew1 := Ar.new (w.alloc (.cells (pt z x y) 26)) (pt z' x' y') 26
  rw [World.size_alloc] at hnew1
  have hnew2 := Ar.new ((w.alloc (.cells (pt z x y) 26)).alloc (.cells (pt z' x' y') 26)) (pt false 0 0) 26
  rw [World.size_alloc, World.size_alloc] at hnew2
  rw [hw1, HA0.out, HA1.out]
  exact ⟨((((Chg.refl w).alloc _).alloc _).alloc _), (((hnew0).alloc _).alloc _), ((hnew1).alloc _), (hnew2)⟩
 rw [← hw1]
 clear hw1 hz0 hsA0 hsA1 HA0 HA1
 go_cut [12] from 5 to 12 (fun v12 wc => v12 = .bool true ∧ Chg w wc ∧ Ar wc (w.heap.size + 1 + 1) (pt false 0 0))
 case first =>
  refine regP 8 (fun j v wg => match j with
   | 0 => v = .agg (pt z x y)
   | 1 => v = .bool false
   | 2 => v = .bool true
   | 3 => v = .bool true
   | 4 => v = undef
   | 5 => v = undef
   | 6 => v = undef
   | 7 => v = .bool true
   | _ => True) (by decide) (by kernel_rfl) ?_ ?_ ?_
  ·intro j v u1 u2 h hc; exact h
  ·intro i o ac u hi ho hsz hf hg hc
   have hcs : i = 0 ∨ i = 1 ∨ i = 2 ∨ i = 3 ∨ i = 4 ∨ i = 5 ∨ i = 6 ∨ i = 7 := by omega
   rcases hcs with rfl | rfl | rfl | rfl | rfl | rfl | rfl | rfl <;> (injection ho with ho; subst ho)
   ·refine .inl ⟨wanted_none rfl, ?_⟩
    have e1 : ac.eval (.tmp 2) = .pointer (some ⟨w.heap.size, 0, none⟩) := hf 2 (by kernel_rfl)
    exact wp_load_mid 26 (.tmp 2) rfl _ _ e1 ((pt z x y).toList) _ (rangeAp (Z1.out.2.1.chg hc)) Try.underlying26 rfl (infoPt _ _ _) ⟨_, rfl, rfl, Chg.refl _⟩
   ·refine .inl ⟨wanted_none rfl, ?_⟩
    have e1 : ac.eval (.tmp 5) = .agg (pt z x y) := hg 0 (by decide) (by decide)
    refine opG_go 13 Try.f13 #[.tmp 5] #[26] rfl Try.func13 (by kernel_rfl) (by kernel_rfl) (by simp [e1]) (Calls.mono (onQL_any (HN.out.1) (HN.out.2.1) H1.out _) ?_)
    rintro r u2 ⟨rfl, hc2⟩
    exact ⟨_, rfl, rfl, hc2⟩
   ·refine .inl ⟨wanted_none rfl, ?_⟩
    have e1 : ac.eval (.tmp 6) = .bool false := hg 1 (by decide) (by decide)
    exact opG_val (by revert e1; generalize ac.eval = ρ; intro e1; simp [go_sem, execOp, e1]) rfl (Chg.refl _)
   ·refine .inl ⟨wanted_none rfl, ?_⟩
    have e1 : ac.eval (.tmp 7) = .bool true := hg 2 (by decide) (by decide)
    exact opG_val (by simp [execOp, e1]) rfl (Chg.refl _)
   ·exact .inr ⟨wanted_not (T := _) (by kernel_rfl) hsz rfl (by decide : 3 < 8) rfl rfl (hg 3 (by decide) (by decide)), rfl⟩
   ·exact .inr ⟨wanted_not (T := _) (by kernel_rfl) hsz rfl (by decide : 3 < 8) rfl rfl (hg 3 (by decide) (by decide)), rfl⟩
   ·exact .inr ⟨wanted_not (T := _) (by kernel_rfl) hsz rfl (by decide : 3 < 8) rfl rfl (hg 3 (by decide) (by decide)), rfl⟩
   ·refine .inl ⟨wanted_none rfl, ?_⟩
    have e1 : ac.eval (.tmp 8) = .bool true := hg 3 (by decide) (by decide)
    have e2 : ac.eval (.const (.bool true)) = .bool true := rfl
    have e3 : ac.eval (.tmp 11) = undef := hg 6 (by decide) (by decide)
    exact opG_val (by revert e1 e2 e3; generalize ac.eval = ρ; intro e1 e2 e3; simp [go_sem, execOp, e1, e2, e3]) rfl (Chg.refl _)
  ·intro u V hV hc
   have q12 : V 7 = .bool true := hV 7 (by decide)
   go_wp2_with fail
   go_meet
   exact ⟨q12, (Z1.out.1.trans hc), (Z1.out.2.2.2.chg hc)⟩
 obtain ⟨rfl, hz⟩ := hcut
 obtain ⟨w2, hw2⟩ : ∃ zz0, zz0 = wc := ⟨_, rfl⟩
 rw [← hw2] at hz ⊢
 have Z2 : Hid _ := hz
 clear hw2 hz Z1
 go_upto_region 2 with fail
 go_cut [] from 13 to 13 (fun wc => Chg w wc ∧ Ar wc (w.heap.size + 1 + 1) (pt true 0 0))
 case first =>
  refine regP 1 (fun j v wg => match j with
   | 0 => v = .agg (pt true 0 0)
   | _ => True) (by decide) (by kernel_rfl) ?_ ?_ ?_
  ·intro j v u1 u2 h hc; exact h
  ·intro i o ac u hi ho hsz hf hg hc
   have hcs : i = 0 := by omega
   rcases hcs with rfl <;> (injection ho with ho; subst ho; refine .inl ⟨wanted_none rfl, ?_⟩)
   ·refine opG_go 24 Try.f24 #[] #[] rfl Try.func24 (by kernel_rfl) (by kernel_rfl) (by simp []) (Calls.mono (zeroQ_any _) ?_)
    rintro r u2 ⟨rfl, hc2⟩
    exact ⟨_, rfl, rfl, hc2⟩
  ·intro u V hV hc
   have q13 : V 0 = .agg (pt true 0 0) := hV 0 (by decide)
   have hres0 := (Z2.out.2.chg hc)
   refine wpList_store_mid rfl 26 (.tmp 4) (.tmp 13) rfl (w.heap.size + 1 + 1) 0 (pt true 0 0) (by rfl) (Eq.trans (by rfl) q13) (by rw [pt_size]; exact pt_there hres0) (szPt _ _ _) (pt_one _ _ _) ?_
   rw [setRowPt hres0 _ _ _]
   have k0_c : Chg w (u.setRow (w.heap.size + 1 + 1) (pt true 0 0)) := ((Z2.out.1.trans hc).setRow (by omega) _)
   have k0_B4 := hres0.row (pt true 0 0)
   generalize (u.setRow (w.heap.size + 1 + 1) (pt true 0 0)) = u10 at k0_c k0_B4 ⊢
   go_wp2_with fail
   go_meet
   exact ⟨k0_c, k0_B4⟩
 have hz := hcut
 obtain ⟨w3, hw3⟩ : ∃ zz0, zz0 = wc := ⟨_, rfl⟩
 rw [← hw3] at hz ⊢
 have Z3 : Hid _ := hz
 clear hw3 hz Z2
 go_wp2_with fail
 exact bp_Pt Try.results9 rfl rfl Z3.out.2 ⟨rfl, Z3.out.1⟩
set_option maxHeartbeats 16000000 in
theorem padQ_2 (z : Bool) (x y : Int) (z' : Bool) (x' y' : Int) (hx : N256 x) (hy : N256 y) (hx' : N256 x') (hy' : N256 y') (h1 : onR z x y = true) (h2 : onR z' x' y' = false) (w : World) : Calls Try.prog 9 #[.agg (pt z x y), .agg (pt z' x' y')] w fun r w' => r = .returned (.agg (pt true 0 0)) ∧ Chg w w' := by
 have HN : Hid (N256 x ∧ N256 y ∧ N256 x' ∧ N256 y') := ⟨hx, hy, hx', hy'⟩
 clear hx hy hx' hy'
 have H1 : Hid (onR z x y = true) := h1
 clear h1
 have H2 : Hid (onR z' x' y' = false) := h2
 clear h2
 have hz0 := zeroPt.1
 have hsA0 := pt_size z x y
 obtain ⟨A0, hA0⟩ : ∃ zz0, zz0 = pt z x y := ⟨_, rfl⟩
 have HA0 : Hid (A0 = pt z x y) := hA0
 have hsA1 := pt_size z' x' y'
 obtain ⟨A1, hA1⟩ : ∃ zz0, zz0 = pt z' x' y' := ⟨_, rfl⟩
 have HA1 : Hid (A1 = pt z' x' y') := hA1
 rw [← hA0] at hsA0 ⊢
 rw [← hA1] at hsA1 ⊢
 clear hA0 hA1
 go_enter Try.func9, Try.ntmps9
 go_upto_region 1 with fail
 obtain ⟨w1, hw1⟩ : ∃ w1, w1 = ((w.alloc (.cells A0 26)).alloc (.cells A1 26)).alloc (.cells (pt false 0 0) 26) := ⟨_, rfl⟩
 have Z1 : Hid (Chg w w1 ∧ Ar w1 w.heap.size (pt z x y) ∧ Ar w1 (w.heap.size + 1) (pt z' x' y') ∧ Ar w1 (w.heap.size + 1 + 1) (pt false 0 0)) := by
  have hnew0 := Ar.new w (pt z x y) 26
  have hnew1 := Ar.new (w.alloc (.cells (pt z x y) 26)) (pt z' x' y') 26
  rw [World.size_alloc] at hnew1
  have hnew2 := Ar.new ((w.alloc (.cells (pt z x y) 26)).alloc (.cells (pt z' x' y') 26)) (pt false 0 0) 26
  rw [World.size_alloc, World.size_alloc] at hnew2
  rw [hw1, HA0.out, HA1.out]
  exact ⟨((((Chg.refl w).alloc _).alloc _).alloc _), (((hnew0).alloc _).alloc _), ((hnew1).alloc _), (hnew2)⟩
 rw [← hw1]
 clear hw1 hz0 hsA0 hsA1 HA0 HA1
 go_cut [12] from 5 to 12 (fun v12 wc => v12 = .bool true ∧ Chg w wc ∧ Ar wc (w.heap.size + 1 + 1) (pt false 0 0))
 case first =>
  refine regP 8 (fun j v wg => match j with
   | 0 => v = .agg (pt z x y)
   | 1 => v = .bool true
   | 2 => v = .bool false
   | 3 => v = .bool false
   | 4 => v = .agg (pt z' x' y')
   | 5 => v = .bool false
   | 6 => v = .bool true
   | 7 => v = .bool true
   | _ => True) (by decide) (by kernel_rfl) ?_ ?_ ?_
  ·intro j v u1 u2 h hc; exact h
  ·intro i o ac u hi ho hsz hf hg hc
   have hcs : i = 0 ∨ i = 1 ∨ i = 2 ∨ i = 3 ∨ i = 4 ∨ i = 5 ∨ i = 6 ∨ i = 7 := by omega
   rcases hcs with rfl | rfl | rfl | rfl | rfl | rfl | rfl | rfl <;> (injection ho with ho; subst ho)
   ·refine .inl ⟨wanted_none rfl, ?_⟩
    have e1 : ac.eval (.tmp 2) = .pointer (some ⟨w.heap.size, 0, none⟩) := hf 2 (by kernel_rfl)
    exact wp_load_mid 26 (.tmp 2) rfl _ _ e1 ((pt z x y).toList) _ (rangeAp (Z1.out.2.1.chg hc)) Try.underlying26 rfl (infoPt _ _ _) ⟨_, rfl, rfl, Chg.refl _⟩
   ·refine .inl ⟨wanted_none rfl, ?_⟩
    have e1 : ac.eval (.tmp 5) = .agg (pt z x y) := hg 0 (by decide) (by decide)
    refine opG_go 13 Try.f13 #[.tmp 5] #[26] rfl Try.func13 (by kernel_rfl) (by kernel_rfl) (by simp [e1]) (Calls.mono (onQL_any (HN.out.1) (HN.out.2.1) H1.out _) ?_)
    rintro r u2 ⟨rfl, hc2⟩
    exact ⟨_, rfl, rfl, hc2⟩
   ·refine .inl ⟨wanted_none rfl, ?_⟩
    have e1 : ac.eval (.tmp 6) = .bool true := hg 1 (by decide) (by decide)
    exact opG_val (by revert e1; generalize ac.eval = ρ; intro e1; simp [go_sem, execOp, e1]) rfl (Chg.refl _)
   ·refine .inl ⟨wanted_none rfl, ?_⟩
    have e1 : ac.eval (.tmp 7) = .bool false := hg 2 (by decide) (by decide)
    exact opG_val (by simp [execOp, e1]) rfl (Chg.refl _)
   ·refine .inl ⟨wanted_by (T := _) (by kernel_rfl) hsz rfl (by decide : 3 < 8) rfl (hg 3 (by decide) (by decide)), ?_⟩
    have e1 : ac.eval (.tmp 3) = .pointer (some ⟨w.heap.size + 1, 0, none⟩) := hf 3 (by kernel_rfl)
    exact wp_load_mid 26 (.tmp 3) rfl _ _ e1 ((pt z' x' y').toList) _ (rangeAp (Z1.out.2.2.1.chg hc)) Try.underlying26 rfl (infoPt _ _ _) ⟨_, rfl, rfl, Chg.refl _⟩
   ·refine .inl ⟨wanted_by (T := _) (by kernel_rfl) hsz rfl (by decide : 3 < 8) rfl (hg 3 (by decide) (by decide)), ?_⟩
    have e1 : ac.eval (.tmp 9) = .agg (pt z' x' y') := hg 4 (by decide) (by decide)
    refine opG_go 13 Try.f13 #[.tmp 9] #[26] rfl Try.func13 (by kernel_rfl) (by kernel_rfl) (by simp [e1]) (Calls.mono (onQL_any (HN.out.2.2.1) (HN.out.2.2.2) H2.out _) ?_)
    rintro r u2 ⟨rfl, hc2⟩
    exact ⟨_, rfl, rfl, hc2⟩
   ·refine .inl ⟨wanted_by (T := _) (by kernel_rfl) hsz rfl (by decide : 3 < 8) rfl (hg 3 (by decide) (by decide)), ?_⟩
    have e1 : ac.eval (.tmp 10) = .bool false := hg 5 (by decide) (by decide)
    exact opG_val (by revert e1; generalize ac.eval = ρ; intro e1; simp [go_sem, execOp, e1]) rfl (Chg.refl _)
   ·refine .inl ⟨wanted_none rfl, ?_⟩
    have e1 : ac.eval (.tmp 8) = .bool false := hg 3 (by decide) (by decide)
    have e2 : ac.eval (.const (.bool true)) = .bool true := rfl
    have e3 : ac.eval (.tmp 11) = .bool true := hg 6 (by decide) (by decide)
    exact opG_val (by revert e1 e2 e3; generalize ac.eval = ρ; intro e1 e2 e3; simp [go_sem, execOp, e1, e2, e3]) rfl (Chg.refl _)
  ·intro u V hV hc
   have q12 : V 7 = .bool true := hV 7 (by decide)
   go_wp2_with fail
   go_meet
   exact ⟨q12, (Z1.out.1.trans hc), (Z1.out.2.2.2.chg hc)⟩
 obtain ⟨rfl, hz⟩ := hcut
 obtain ⟨w2, hw2⟩ : ∃ zz0, zz0 = wc := ⟨_, rfl⟩
 rw [← hw2] at hz ⊢
 have Z2 : Hid _ := hz
 clear hw2 hz Z1
 go_upto_region 2 with fail
 go_cut [] from 13 to 13 (fun wc => Chg w wc ∧ Ar wc (w.heap.size + 1 + 1) (pt true 0 0))
 case first =>
  refine regP 1 (fun j v wg => match j with
   | 0 => v = .agg (pt true 0 0)
   | _ => True) (by decide) (by kernel_rfl) ?_ ?_ ?_
  ·intro j v u1 u2 h hc; exact h
  ·intro i o ac u hi ho hsz hf hg hc
   have hcs : i = 0 := by omega
   rcases hcs with rfl <;> (injection ho with ho; subst ho; refine .inl ⟨wanted_none rfl, ?_⟩)
   ·refine opG_go 24 Try.f24 #[] #[] rfl Try.func24 (by kernel_rfl) (by kernel_rfl) (by simp []) (Calls.mono (zeroQ_any _) ?_)
    rintro r u2 ⟨rfl, hc2⟩
    exact ⟨_, rfl, rfl, hc2⟩
  ·intro u V hV hc
   have q13 : V 0 = .agg (pt true 0 0) := hV 0 (by decide)
   have hres0 := (Z2.out.2.chg hc)
   refine wpList_store_mid rfl 26 (.tmp 4) (.tmp 13) rfl (w.heap.size + 1 + 1) 0 (pt true 0 0) (by rfl) (Eq.trans (by rfl) q13) (by rw [pt_size]; exact pt_there hres0) (szPt _ _ _) (pt_one _ _ _) ?_
   rw [setRowPt hres0 _ _ _]
   have k0_c : Chg w (u.setRow (w.heap.size + 1 + 1) (pt true 0 0)) := ((Z2.out.1.trans hc).setRow (by omega) _)
   have k0_B4 := hres0.row (pt true 0 0)
   generalize (u.setRow (w.heap.size + 1 + 1) (pt true 0 0)) = u10 at k0_c k0_B4 ⊢
   go_wp2_with fail
   go_meet
   exact ⟨k0_c, k0_B4⟩
 have hz := hcut
 obtain ⟨w3, hw3⟩ : ∃ zz0, zz0 = wc := ⟨_, rfl⟩
 rw [← hw3] at hz ⊢
 have Z3 : Hid _ := hz
 clear hw3 hz Z2
 go_wp2_with fail
 exact bp_Pt Try.results9 rfl rfl Z3.out.2 ⟨rfl, Z3.out.1⟩
set_option maxHeartbeats 16000000 in
theorem padQ_3 (z : Bool) (x y : Int) (z' : Bool) (x' y' : Int) (hx : N256 x) (hy : N256 y) (hx' : N256 x') (hy' : N256 y') (h1 : onR z x y = true) (h2 : onR z' x' y' = true) (w : World) : Calls Try.prog 9 #[.agg (pt z x y), .agg (pt z' x' y')] w fun r w' => r = .returned (.agg (pt (zP (AW (toP z x y) (toP z' x' y'))) (xP (AW (toP z x y) (toP z' x' y'))) (yP (AW (toP z x y) (toP z' x' y'))))) ∧ Chg w w' := by
 have HN : Hid (N256 x ∧ N256 y ∧ N256 x' ∧ N256 y') := ⟨hx, hy, hx', hy'⟩
 clear hx hy hx' hy'
 have H1 : Hid (onR z x y = true) := h1
 clear h1
 have H2 : Hid (onR z' x' y' = true) := h2
 clear h2
 have hz0 := zeroPt.1
 have hsA0 := pt_size z x y
 obtain ⟨A0, hA0⟩ : ∃ zz0, zz0 = pt z x y := ⟨_, rfl⟩
 have HA0 : Hid (A0 = pt z x y) := hA0
 have hsA1 := pt_size z' x' y'
 obtain ⟨A1, hA1⟩ : ∃ zz0, zz0 = pt z' x' y' := ⟨_, rfl⟩
 have HA1 : Hid (A1 = pt z' x' y') := hA1
 rw [← hA0] at hsA0 ⊢
 rw [← hA1] at hsA1 ⊢
 clear hA0 hA1
 go_enter Try.func9, Try.ntmps9
 go_upto_region 1 with fail
 obtain ⟨w1, hw1⟩ : ∃ w1, w1 = ((w.alloc (.cells A0 26)).alloc (.cells A1 26)).alloc (.cells (pt false 0 0) 26) := ⟨_, rfl⟩
 have Z1 : Hid (Chg w w1 ∧ Ar w1 w.heap.size (pt z x y) ∧ Ar w1 (w.heap.size + 1) (pt z' x' y') ∧ Ar w1 (w.heap.size + 1 + 1) (pt false 0 0)) := by
  have hnew0 := Ar.new w (pt z x y) 26
  have hnew1 := Ar.new (w.alloc (.cells (pt z x y) 26)) (pt z' x' y') 26
  rw [World.size_alloc] at hnew1
  have hnew2 := Ar.new ((w.alloc (.cells (pt z x y) 26)).alloc (.cells (pt z' x' y') 26)) (pt false 0 0) 26
  rw [World.size_alloc, World.size_alloc] at hnew2
  rw [hw1, HA0.out, HA1.out]
  exact ⟨((((Chg.refl w).alloc _).alloc _).alloc _), (((hnew0).alloc _).alloc _), ((hnew1).alloc _), (hnew2)⟩
 rw [← hw1]
 clear hw1 hz0 hsA0 hsA1 HA0 HA1
 go_cut [12] from 5 to 12 (fun v12 wc => v12 = .bool false ∧ Chg w wc ∧ Ar wc w.heap.size (pt z x y) ∧ Ar wc (w.heap.size + 1) (pt z' x' y') ∧ Ar wc (w.heap.size + 1 + 1) (pt false 0 0))
 case first =>
  refine regP 8 (fun j v wg => match j with
   | 0 => v = .agg (pt z x y)
   | 1 => v = .bool true
   | 2 => v = .bool false
   | 3 => v = .bool false
   | 4 => v = .agg (pt z' x' y')
   | 5 => v = .bool true
   | 6 => v = .bool false
   | 7 => v = .bool false
   | _ => True) (by decide) (by kernel_rfl) ?_ ?_ ?_
  ·intro j v u1 u2 h hc; exact h
  ·intro i o ac u hi ho hsz hf hg hc
   have hcs : i = 0 ∨ i = 1 ∨ i = 2 ∨ i = 3 ∨ i = 4 ∨ i = 5 ∨ i = 6 ∨ i = 7 := by omega
   rcases hcs with rfl | rfl | rfl | rfl | rfl | rfl | rfl | rfl <;> (injection ho with ho; subst ho)
   ·refine .inl ⟨wanted_none rfl, ?_⟩
    have e1 : ac.eval (.tmp 2) = .pointer (some ⟨w.heap.size, 0, none⟩) := hf 2 (by kernel_rfl)
    exact wp_load_mid 26 (.tmp 2) rfl _ _ e1 ((pt z x y).toList) _ (rangeAp (Z1.out.2.1.chg hc)) Try.underlying26 rfl (infoPt _ _ _) ⟨_, rfl, rfl, Chg.refl _⟩
   ·refine .inl ⟨wanted_none rfl, ?_⟩
    have e1 : ac.eval (.tmp 5) = .agg (pt z x y) := hg 0 (by decide) (by decide)
    refine opG_go 13 Try.f13 #[.tmp 5] #[26] rfl Try.func13 (by kernel_rfl) (by kernel_rfl) (by simp [e1]) (Calls.mono (onQL_any (HN.out.1) (HN.out.2.1) H1.out _) ?_)
    rintro r u2 ⟨rfl, hc2⟩
    exact ⟨_, rfl, rfl, hc2⟩
   ·refine .inl ⟨wanted_none rfl, ?_⟩
    have e1 : ac.eval (.tmp 6) = .bool true := hg 1 (by decide) (by decide)
    exact opG_val (by revert e1; generalize ac.eval = ρ; intro e1; simp [go_sem, execOp, e1]) rfl (Chg.refl _)
   ·refine .inl ⟨wanted_none rfl, ?_⟩
    have e1 : ac.eval (.tmp 7) = .bool false := hg 2 (by decide) (by decide)
    exact opG_val (by simp [execOp, e1]) rfl (Chg.refl _)
   ·refine .inl ⟨wanted_by (T := _) (by kernel_rfl) hsz rfl (by decide : 3 < 8) rfl (hg 3 (by decide) (by decide)), ?_⟩
    have e1 : ac.eval (.tmp 3) = .pointer (some ⟨w.heap.size + 1, 0, none⟩) := hf 3 (by kernel_rfl)
    exact wp_load_mid 26 (.tmp 3) rfl _ _ e1 ((pt z' x' y').toList) _ (rangeAp (Z1.out.2.2.1.chg hc)) Try.underlying26 rfl (infoPt _ _ _) ⟨_, rfl, rfl, Chg.refl _⟩
   ·refine .inl ⟨wanted_by (T := _) (by kernel_rfl) hsz rfl (by decide : 3 < 8) rfl (hg 3 (by decide) (by decide)), ?_⟩
    have e1 : ac.eval (.tmp 9) = .agg (pt z' x' y') := hg 4 (by decide) (by decide)
    refine opG_go 13 Try.f13 #[.tmp 9] #[26] rfl Try.func13 (by kernel_rfl) (by kernel_rfl) (by simp [e1]) (Calls.mono (onQL_any (HN.out.2.2.1) (HN.out.2.2.2) H2.out _) ?_)
    rintro r u2 ⟨rfl, hc2⟩
    exact ⟨_, rfl, rfl, hc2⟩
   ·refine .inl ⟨wanted_by (T := _) (by kernel_rfl) hsz rfl (by decide : 3 < 8) rfl (hg 3 (by decide) (by decide)), ?_⟩
    have e1 : ac.eval (.tmp 10) = .bool true := hg 5 (by decide) (by decide)
    exact opG_val (by revert e1; generalize ac.eval = ρ; intro e1; simp [go_sem, execOp, e1]) rfl (Chg.refl _)
   ·refine .inl ⟨wanted_none rfl, ?_⟩
    have e1 : ac.eval (.tmp 8) = .bool false := hg 3 (by decide) (by decide)
    have e2 : ac.eval (.const (.bool true)) = .bool true := rfl
    have e3 : ac.eval (.tmp 11) = .bool false := hg 6 (by decide) (by decide)
    exact opG_val (by revert e1 e2 e3; generalize ac.eval = ρ; intro e1 e2 e3; simp [go_sem, execOp, e1, e2, e3]) rfl (Chg.refl _)
  ·intro u V hV hc
   have q12 : V 7 = .bool false := hV 7 (by decide)
   go_wp2_with fail
   go_meet
   exact ⟨q12, (Z1.out.1.trans hc), (Z1.out.2.1.chg hc), (Z1.out.2.2.1.chg hc), (Z1.out.2.2.2.chg hc)⟩
 obtain ⟨rfl, hz⟩ := hcut
 obtain ⟨w2, hw2⟩ : ∃ zz0, zz0 = wc := ⟨_, rfl⟩
 rw [← hw2] at hz ⊢
 have Z2 : Hid _ := hz
 clear hw2 hz Z1
 go_upto_region 3 with fail
 go_cut [] from 14 to 19 (fun wc => Chg w wc ∧ Ar wc (w.heap.size + 1 + 1) (pt (zP (AW (toP z x y) (toP z' x' y'))) (xP (AW (toP z x y) (toP z' x' y'))) (yP (AW (toP z x y) (toP z' x' y')))))
 case first =>
  refine regM 6 (fun j => false) (fun j v wg => match j with
   | 0 => v = .agg (pt z x y)
   | 1 => ∃ xa ya za, v = .agg (q3 xa ya za) ∧ TQ xa ya za (toP z x y)
   | 2 => v = .agg (pt z' x' y')
   | 3 => ∃ xa ya za, v = .agg (q3 xa ya za) ∧ TQ xa ya za (toP z' x' y')
   | 4 => ∃ xa ya za, v = .agg (q3 xa ya za) ∧ TQ xa ya za (AW (toP z x y) (toP z' x' y'))
   | 5 => v = .agg (pt (zP (AW (toP z x y) (toP z' x' y'))) (xP (AW (toP z x y) (toP z' x' y'))) (yP (AW (toP z x y) (toP z' x' y'))))
   | _ => True) (by kernel_rfl) (by decide) (by kernel_rfl) (by kernel_rfl) (by kernel_rfl) (by kernel_rfl) ?_ ?_ ?_ ?_
  ·intro j v u1 u2 h hc; exact h
  ·intro j v u hj ha h
   cases ha
  ·intro i o ac u hi ho hsz hf hg hc
   have hcs : i = 0 ∨ i = 1 ∨ i = 2 ∨ i = 3 ∨ i = 4 ∨ i = 5 := by omega
   rcases hcs with rfl | rfl | rfl | rfl | rfl | rfl <;> (injection ho with ho; subst ho; refine ⟨wanted_none rfl, ?_⟩)
   ·have e1 : ac.eval (.tmp 2) = .pointer (some ⟨w.heap.size, 0, none⟩) := hf 2 (by kernel_rfl)
    exact wp_load_mid 26 (.tmp 2) rfl _ _ e1 ((pt z x y).toList) _ (rangeAp (Z2.out.2.1.chg hc)) Try.underlying26 rfl (infoPt _ _ _) ⟨_, rfl, ⟨rfl, fun h => by cases h⟩, Chg.refl _⟩
   ·have e1 : ac.eval (.tmp 14) = .agg (pt z x y) := hg 0 (by kernel_rfl) (by decide)
    refine opG_go 25 Try.f25 #[.tmp 14] #[26] rfl Try.func25 (by kernel_rfl) (by kernel_rfl) (by simp [e1]) (Calls.mono (ofQ_any _ _ _ (HN.out.1) (HN.out.2.1) H1.out _) ?_)
    rintro r u2 ⟨x15, y15, z15, rfl, m15, hc2⟩
    exact ⟨_, rfl, ⟨⟨x15, y15, z15, rfl, m15⟩, fun h => by cases h⟩, hc2⟩
   ·have e1 : ac.eval (.tmp 3) = .pointer (some ⟨w.heap.size + 1, 0, none⟩) := hf 3 (by kernel_rfl)
    exact wp_load_mid 26 (.tmp 3) rfl _ _ e1 ((pt z' x' y').toList) _ (rangeAp (Z2.out.2.2.1.chg hc)) Try.underlying26 rfl (infoPt _ _ _) ⟨_, rfl, ⟨rfl, fun h => by cases h⟩, Chg.refl _⟩
   ·have e1 : ac.eval (.tmp 16) = .agg (pt z' x' y') := hg 2 (by kernel_rfl) (by decide)
    refine opG_go 25 Try.f25 #[.tmp 16] #[26] rfl Try.func25 (by kernel_rfl) (by kernel_rfl) (by simp [e1]) (Calls.mono (ofQ_any _ _ _ (HN.out.2.2.1) (HN.out.2.2.2) H2.out _) ?_)
    rintro r u2 ⟨x17, y17, z17, rfl, m17, hc2⟩
    exact ⟨_, rfl, ⟨⟨x17, y17, z17, rfl, m17⟩, fun h => by cases h⟩, hc2⟩
   ·obtain ⟨x15, y15, z15, e10, m15⟩ := hg 1 (by kernel_rfl) (by decide)
    have e1 : ac.eval (.tmp 15) = .agg (q3 x15 y15 z15) := e10
    obtain ⟨x17, y17, z17, e20, m17⟩ := hg 3 (by kernel_rfl) (by decide)
    have e2 : ac.eval (.tmp 17) = .agg (q3 x17 y17 z17) := e20
    refine opG_go 26 Try.f26 #[.tmp 15, .tmp 17] #[49, 49] rfl Try.func26 (by kernel_rfl) (by kernel_rfl) (by simp [e1, e2]) (Calls.mono (plusQ_any _ _ _ _ _ _ _ _ m15 m17 _) ?_)
    rintro r u2 ⟨x18, y18, z18, rfl, m18, hc2⟩
    exact ⟨_, rfl, ⟨⟨x18, y18, z18, rfl, m18⟩, fun h => by cases h⟩, hc2⟩
   ·obtain ⟨x18, y18, z18, e10, m18⟩ := hg 4 (by kernel_rfl) (by decide)
    have e1 : ac.eval (.tmp 18) = .agg (q3 x18 y18 z18) := e10
    refine opG_go 27 Try.f27 #[.tmp 18] #[49] rfl Try.func27 (by kernel_rfl) (by kernel_rfl) (by simp [e1]) (Calls.mono (pointQ_any _ _ _ _ m18 _) ?_)
    rintro r u2 ⟨rfl, hc2⟩
    exact ⟨_, rfl, ⟨rfl, fun h => by cases h⟩, hc2⟩
  ·intro u V hV hap hc
   obtain ⟨x15, y15, z15, q15, m15⟩ := hV 1 (by decide)
   obtain ⟨x17, y17, z17, q17, m17⟩ := hV 3 (by decide)
   obtain ⟨x18, y18, z18, q18, m18⟩ := hV 4 (by decide)
   have q19 : V 5 = .agg (pt (zP (AW (toP z x y) (toP z' x' y'))) (xP (AW (toP z x y) (toP z' x' y'))) (yP (AW (toP z x y) (toP z' x' y')))) := hV 5 (by decide)
   have hres0 := (Z2.out.2.2.2.chg hc)
   refine tail_cons rfl rfl ?_
   refine wp_store_mid 26 (.tmp 4) (.tmp 19) rfl (w.heap.size + 1 + 1) 0 (pt (zP (AW (toP z x y) (toP z' x' y'))) (xP (AW (toP z x y) (toP z' x' y'))) (yP (AW (toP z x y) (toP z' x' y')))) (by rfl) (Eq.trans (by rfl) q19) (by rw [pt_size]; exact pt_there hres0) (szPt _ _ _) (pt_one _ _ _) ?_
   rw [setRowPt hres0 _ _ _]
   have k0_c : Chg w (u.setRow (w.heap.size + 1 + 1) (pt (zP (AW (toP z x y) (toP z' x' y'))) (xP (AW (toP z x y) (toP z' x' y'))) (yP (AW (toP z x y) (toP z' x' y'))))) := ((Z2.out.1.trans hc).setRow (by omega) _)
   have k0_B4 := hres0.row (pt (zP (AW (toP z x y) (toP z' x' y'))) (xP (AW (toP z x y) (toP z' x' y'))) (yP (AW (toP z x y) (toP z' x' y'))))
   generalize (u.setRow (w.heap.size + 1 + 1) (pt (zP (AW (toP z x y) (toP z' x' y'))) (xP (AW (toP z x y) (toP z' x' y'))) (yP (AW (toP z x y) (toP z' x' y'))))) = u10 at k0_c k0_B4 ⊢
   refine tail_nil rfl ?_
   go_wp2_with fail
   go_meet
   exact ⟨k0_c, k0_B4⟩
 have hz := hcut
 obtain ⟨w3, hw3⟩ : ∃ zz0, zz0 = wc := ⟨_, rfl⟩
 rw [← hw3] at hz ⊢
 have Z3 : Hid _ := hz
 clear hw3 hz Z2
 go_wp2_with fail
 exact bp_Pt Try.results9 rfl rfl Z3.out.2 ⟨rfl, Z3.out.1⟩
theorem padQ_any (z : Bool) (x y : Int) (z' : Bool) (x' y' : Int) (hx : N256 x) (hy : N256 y) (hx' : N256 x') (hy' : N256 y') (S : PQt) (hS : addR z x y z' x' y' = S) (w : World) : Calls Try.prog 9 #[.agg (pt z x y), .agg (pt z' x' y')] w fun r w' => r = .returned (.agg (pt (zP S) (xP S) (yP S))) ∧ Chg w w' := by
 rw [← hS]
 unfold addR
 cases h1 : onR z x y with
 | false => exact padQ_1 z x y z' x' y' hx hy hx' hy' h1 w
 | true =>
  cases h2 : onR z' x' y' with
  | false => exact padQ_2 z x y z' x' y' hx hy hx' hy' h1 h2 w
  | true => exact padQ_3 z x y z' x' y' hx hy hx' hy' h1 h2 w
set_option maxHeartbeats 16000000 in
theorem padS_1 (z : Bool) (x y : Int) (z' : Bool) (x' y' : Int) (hx : N256 x) (hy : N256 y) (hx' : N256 x') (hy' : N256 y') {b : Bool} (h1 : onR z x y = false) (h2 : onR z' x' y' = b) (w : World) : Calls Try.prog 10 #[.agg (pt z x y), .agg (pt z' x' y')] w fun r w' => r = .returned (.agg (pt true 0 0)) ∧ Chg w w' := by
 have HN : Hid (N256 x ∧ N256 y ∧ N256 x' ∧ N256 y') := ⟨hx, hy, hx', hy'⟩
 clear hx hy hx' hy'
 have H1 : Hid (onR z x y = false) := h1
 clear h1
 have H2 : Hid (onR z' x' y' = b) := h2
 clear h2
 have hz0 := zeroPt.1
 have hsA0 := pt_size z x y
 obtain ⟨A0, hA0⟩ : ∃ zz0, zz0 = pt z x y := ⟨_, rfl⟩
 have HA0 : Hid (A0 = pt z x y) := hA0
 have hsA1 := pt_size z' x' y'
 obtain ⟨A1, hA1⟩ : ∃ zz0, zz0 = pt z' x' y' := ⟨_, rfl⟩
 have HA1 : Hid (A1 = pt z' x' y') := hA1
 rw [← hA0] at hsA0 ⊢
 rw [← hA1] at hsA1 ⊢
 clear hA0 hA1
 go_enter Try.func10, Try.ntmps10
 go_upto_region 1 with fail
 obtain ⟨w1, hw1⟩ : ∃ w1, w1 = ((w.alloc (.cells A0 26)).alloc (.cells A1 26)).alloc (.cells (pt false 0 0) 26) := ⟨_, rfl⟩
 have Z1 : Hid (Chg w w1 ∧ Ar w1 w.heap.size (pt z x y) ∧ Ar w1 (w.heap.size + 1) (pt z' x' y') ∧ Ar w1 (w.heap.size + 1 + 1) (pt false 0 0)) := by
  have hnew0 := Ar.new w (pt z x y) 26
  have hnew1 := Ar.new (w.alloc (.cells (pt z x y) 26)) (pt z' x' y') 26
  rw [World.size_alloc] at hnew1
  have hnew2 := Ar.new ((w.alloc (.cells (pt z x y) 26)).alloc (.cells (pt z' x' y') 26)) (pt false 0 0) 26
  rw [World.size_alloc, World.size_alloc] at hnew2
  rw [hw1, HA0.out, HA1.out]
  exact ⟨((((Chg.refl w).alloc _).alloc _).alloc _), (((hnew0).alloc _).alloc _), ((hnew1).alloc _), (hnew2)⟩
 rw [← hw1]
 clear hw1 hz0 hsA0 hsA1 HA0 HA1
 go_cut [5] from 5 to 8 (fun v5 wc => v5 = .bool false ∧ Chg w wc ∧ Ar wc w.heap.size (pt z x y) ∧ Ar wc (w.heap.size + 1) (pt z' x' y') ∧ Ar wc (w.heap.size + 1 + 1) (pt false 0 0))
 case first =>
  refine regP 3 (fun j v wg => match j with
   | 0 => v = .agg (pt z x y)
   | 1 => v = .bool false
   | 2 => v = .bool false
   | _ => True) (by decide) (by kernel_rfl) ?_ ?_ ?_
  ·intro j v u1 u2 h hc; exact h
  ·intro i o ac u hi ho hsz hf hg hc
   have hcs : i = 0 ∨ i = 1 ∨ i = 2 := by omega
   rcases hcs with rfl | rfl | rfl <;> (injection ho with ho; subst ho; refine .inl ⟨wanted_none rfl, ?_⟩)
   ·have e1 : ac.eval (.tmp 2) = .pointer (some ⟨w.heap.size, 0, none⟩) := hf 2 (by kernel_rfl)
    exact wp_load_mid 26 (.tmp 2) rfl _ _ e1 ((pt z x y).toList) _ (rangeAp (Z1.out.2.1.chg hc)) Try.underlying26 rfl (infoPt _ _ _) ⟨_, rfl, rfl, Chg.refl _⟩
   ·have e1 : ac.eval (.tmp 7) = .agg (pt z x y) := hg 0 (by decide) (by decide)
    refine opG_go 14 Try.f14 #[.tmp 7] #[26] rfl Try.func14 (by kernel_rfl) (by kernel_rfl) (by simp [e1]) (Calls.mono (onSL_any (HN.out.1) (HN.out.2.1) H1.out _) ?_)
    rintro r u2 ⟨rfl, hc2⟩
    exact ⟨_, rfl, rfl, hc2⟩
   ·have e1 : ac.eval (.tmp 8) = .bool false := hg 1 (by decide) (by decide)
    exact opG_val (by simp [execOp, e1]) rfl (Chg.refl _)
  ·intro u V hV hc
   have q5 : V 2 = .bool false := hV 2 (by decide)
   go_wp2_with fail
   go_meet
   exact ⟨q5, (Z1.out.1.trans hc), (Z1.out.2.1.chg hc), (Z1.out.2.2.1.chg hc), (Z1.out.2.2.2.chg hc)⟩
 obtain ⟨rfl, hz⟩ := hcut
 obtain ⟨w2, hw2⟩ : ∃ zz0, zz0 = wc := ⟨_, rfl⟩
 rw [← hw2] at hz ⊢
 have Z2 : Hid _ := hz
 clear hw2 hz Z1
 go_upto_region 2 with fail
 go_cut [6] from 6 to 10 (fun v6 wc => v6 = .bool b ∧ Chg w wc ∧ Ar wc w.heap.size (pt z x y) ∧ Ar wc (w.heap.size + 1) (pt z' x' y') ∧ Ar wc (w.heap.size + 1 + 1) (pt false 0 0))
 case first =>
  refine regP 3 (fun j v wg => match j with
   | 0 => v = .agg (pt z' x' y')
   | 1 => v = .bool b
   | 2 => v = .bool b
   | _ => True) (by decide) (by kernel_rfl) ?_ ?_ ?_
  ·intro j v u1 u2 h hc; exact h
  ·intro i o ac u hi ho hsz hf hg hc
   have hcs : i = 0 ∨ i = 1 ∨ i = 2 := by omega
   rcases hcs with rfl | rfl | rfl <;> (injection ho with ho; subst ho; refine .inl ⟨wanted_none rfl, ?_⟩)
   ·have e1 : ac.eval (.tmp 3) = .pointer (some ⟨w.heap.size + 1, 0, none⟩) := hf 3 (by kernel_rfl)
    exact wp_load_mid 26 (.tmp 3) rfl _ _ e1 ((pt z' x' y').toList) _ (rangeAp (Z2.out.2.2.1.chg hc)) Try.underlying26 rfl (infoPt _ _ _) ⟨_, rfl, rfl, Chg.refl _⟩
   ·have e1 : ac.eval (.tmp 9) = .agg (pt z' x' y') := hg 0 (by decide) (by decide)
    refine opG_go 14 Try.f14 #[.tmp 9] #[26] rfl Try.func14 (by kernel_rfl) (by kernel_rfl) (by simp [e1]) (Calls.mono (onSL_any (HN.out.2.2.1) (HN.out.2.2.2) H2.out _) ?_)
    rintro r u2 ⟨rfl, hc2⟩
    exact ⟨_, rfl, rfl, hc2⟩
   ·have e1 : ac.eval (.tmp 10) = .bool b := hg 1 (by decide) (by decide)
    exact opG_val (by simp [execOp, e1]) rfl (Chg.refl _)
  ·intro u V hV hc
   have q6 : V 2 = .bool b := hV 2 (by decide)
   go_wp2_with fail
   go_meet
   exact ⟨q6, (Z2.out.1.trans hc), (Z2.out.2.1.chg hc), (Z2.out.2.2.1.chg hc), (Z2.out.2.2.2.chg hc)⟩
 obtain ⟨rfl, hz⟩ := hcut
 obtain ⟨w3, hw3⟩ : ∃ zz0, zz0 = wc := ⟨_, rfl⟩
 rw [← hw3] at hz ⊢
 have Z3 : Hid _ := hz
 clear hw3 hz Z2
 go_upto_region 3 with fail
 go_cut [16] from 11 to 16 (fun v16 wc => v16 = .bool true ∧ Chg w wc ∧ Ar wc (w.heap.size + 1 + 1) (pt false 0 0))
 case first =>
  refine regP 6 (fun j v wg => match j with
   | 0 => v = .bool false
   | 1 => v = .bool true
   | 2 => v = .bool true
   | 3 => v = undef
   | 4 => v = undef
   | 5 => v = .bool true
   | _ => True) (by decide) (by kernel_rfl) ?_ ?_ ?_
  ·intro j v u1 u2 h hc; exact h
  ·intro i o ac u hi ho hsz hf hg hc
   have hcs : i = 0 ∨ i = 1 ∨ i = 2 ∨ i = 3 ∨ i = 4 ∨ i = 5 := by omega
   rcases hcs with rfl | rfl | rfl | rfl | rfl | rfl <;> (injection ho with ho; subst ho)
   ·refine .inl ⟨wanted_none rfl, ?_⟩
    have e1 : ac.eval (.tmp 5) = .bool false := hf 5 (by kernel_rfl)
    exact opG_val (by simp [execOp, e1]) rfl (Chg.refl _)
   ·refine .inl ⟨wanted_none rfl, ?_⟩
    have e1 : ac.eval (.tmp 11) = .bool false := hg 0 (by decide) (by decide)
    exact opG_val (by revert e1; generalize ac.eval = ρ; intro e1; simp [go_sem, execOp, e1]) rfl (Chg.refl _)
   ·refine .inl ⟨wanted_none rfl, ?_⟩
    have e1 : ac.eval (.tmp 12) = .bool true := hg 1 (by decide) (by decide)
    exact opG_val (by simp [execOp, e1]) rfl (Chg.refl _)
   ·exact .inr ⟨wanted_not (T := _) (by kernel_rfl) hsz rfl (by decide : 2 < 6) rfl rfl (hg 2 (by decide) (by decide)), rfl⟩
   ·exact .inr ⟨wanted_not (T := _) (by kernel_rfl) hsz rfl (by decide : 2 < 6) rfl rfl (hg 2 (by decide) (by decide)), rfl⟩
   ·refine .inl ⟨wanted_none rfl, ?_⟩
    have e1 : ac.eval (.tmp 13) = .bool true := hg 2 (by decide) (by decide)
    have e2 : ac.eval (.const (.bool true)) = .bool true := rfl
    have e3 : ac.eval (.tmp 15) = undef := hg 4 (by decide) (by decide)
    exact opG_val (by revert e1 e2 e3; generalize ac.eval = ρ; intro e1 e2 e3; simp [go_sem, execOp, e1, e2, e3]) rfl (Chg.refl _)
  ·intro u V hV hc
   have q16 : V 5 = .bool true := hV 5 (by decide)
   go_wp2_with fail
   go_meet
   exact ⟨q16, (Z3.out.1.trans hc), (Z3.out.2.2.2.chg hc)⟩
 obtain ⟨rfl, hz⟩ := hcut
 obtain ⟨w4, hw4⟩ : ∃ zz0, zz0 = wc := ⟨_, rfl⟩
 rw [← hw4] at hz ⊢
 have Z4 : Hid _ := hz
 clear hw4 hz Z3
 go_upto_region 4 with fail
 go_cut [] from 17 to 17 (fun wc => Chg w wc ∧ Ar wc (w.heap.size + 1 + 1) (pt true 0 0))
 case first =>
  refine regP 1 (fun j v wg => match j with
   | 0 => v = .agg (pt true 0 0)
   | _ => True) (by decide) (by kernel_rfl) ?_ ?_ ?_
  ·intro j v u1 u2 h hc; exact h
  ·intro i o ac u hi ho hsz hf hg hc
   have hcs : i = 0 := by omega
   rcases hcs with rfl <;> (injection ho with ho; subst ho; refine .inl ⟨wanted_none rfl, ?_⟩)
   ·exact opG_built _ [(0, .bool true)] rfl (by kernel_rfl) builtPtZ rfl
  ·intro u V hV hc
   have q17 : V 0 = .agg (pt true 0 0) := hV 0 (by decide)
   have hres0 := (Z4.out.2.chg hc)
   refine wpList_store_mid rfl 26 (.tmp 4) (.tmp 17) rfl (w.heap.size + 1 + 1) 0 (pt true 0 0) (by rfl) (Eq.trans (by rfl) q17) (by rw [pt_size]; exact pt_there hres0) (szPt _ _ _) (pt_one _ _ _) ?_
   rw [setRowPt hres0 _ _ _]
   have k0_c : Chg w (u.setRow (w.heap.size + 1 + 1) (pt true 0 0)) := ((Z4.out.1.trans hc).setRow (by omega) _)
   have k0_B4 := hres0.row (pt true 0 0)
   generalize (u.setRow (w.heap.size + 1 + 1) (pt true 0 0)) = u10 at k0_c k0_B4 ⊢
   go_wp2_with fail
   go_meet
   exact ⟨k0_c, k0_B4⟩
 have hz := hcut
 obtain ⟨w5, hw5⟩ : ∃ zz0, zz0 = wc := ⟨_, rfl⟩
 rw [← hw5] at hz ⊢
 have Z5 : Hid _ := hz
 clear hw5 hz Z4
 go_wp2_with fail
 exact bp_Pt Try.results10 rfl rfl Z5.out.2 ⟨rfl, Z5.out.1⟩
set_option maxHeartbeats 16000000 in
theorem padS_2 (z : Bool) (x y : Int) (z' : Bool) (x' y' : Int) (hx : N256 x) (hy : N256 y) (hx' : N256 x') (hy' : N256 y') (h1 : onR z x y = true) (h2 : onR z' x' y' = false) (w : World) : Calls Try.prog 10 #[.agg (pt z x y), .agg (pt z' x' y')] w fun r w' => r = .returned (.agg (pt true 0 0)) ∧ Chg w w' := by
 have HN : Hid (N256 x ∧ N256 y ∧ N256 x' ∧ N256 y') := ⟨hx, hy, hx', hy'⟩
 clear hx hy hx' hy'
 have H1 : Hid (onR z x y = true) := h1
 clear h1
 have H2 : Hid (onR z' x' y' = false) := h2
 clear h2
 have hz0 := zeroPt.1
 have hsA0 := pt_size z x y
 obtain ⟨A0, hA0⟩ : ∃ zz0, zz0 = pt z x y := ⟨_, rfl⟩
 have HA0 : Hid (A0 = pt z x y) := hA0
 have hsA1 := pt_size z' x' y'
 obtain ⟨A1, hA1⟩ : ∃ zz0, zz0 = pt z' x' y' := ⟨_, rfl⟩
 have HA1 : Hid (A1 = pt z' x' y') := hA1
 rw [← hA0] at hsA0 ⊢
 rw [← hA1] at hsA1 ⊢
 clear hA0 hA1
 go_enter Try.func10, Try.ntmps10
 go_upto_region 1 with fail
 obtain ⟨w1, hw1⟩ : ∃ w1, w1 = ((w.alloc (.cells A0 26)).alloc (.cells A1 26)).alloc (.cells (pt false 0 0) 26) := ⟨_, rfl⟩
 have Z1 : Hid (Chg w w1 ∧ Ar w1 w.heap.size (pt z x y) ∧ Ar w1 (w.heap.size + 1) (pt z' x' y') ∧ Ar w1 (w.heap.size + 1 + 1) (pt false 0 0)) := by
  have hnew0 := Ar.new w (pt z x y) 26
  have hnew1 := Ar.new (w.alloc (.cells (pt z x y) 26)) (pt z' x' y') 26
  rw [World.size_alloc] at hnew1
  have hnew2 := Ar.new ((w.alloc (.cells (pt z x y) 26)).alloc (.cells (pt z' x' y') 26)) (pt false 0 0) 26
  rw [World.size_alloc, World.size_alloc] at hnew2
  rw [hw1, HA0.out, HA1.out]
  exact ⟨((((Chg.refl w).alloc _).alloc _).alloc _), (((hnew0).alloc _).alloc _), ((hnew1).alloc _), (hnew2)⟩
 rw [← hw1]
 clear hw1 hz0 hsA0 hsA1 HA0 HA1
 go_cut [5] from 5 to 8 (fun v5 wc => v5 = .bool true ∧ Chg w wc ∧ Ar wc w.heap.size (pt z x y) ∧ Ar wc (w.heap.size + 1) (pt z' x' y') ∧ Ar wc (w.heap.size + 1 + 1) (pt false 0 0))
 case first =>
  refine regP 3 (fun j v wg => match j with
   | 0 => v = .agg (pt z x y)
   | 1 => v = .bool true
   | 2 => v = .bool true
   | _ => True) (by decide) (by kernel_rfl) ?_ ?_ ?_
  ·intro j v u1 u2 h hc; exact h
  ·intro i o ac u hi ho hsz hf hg hc
   have hcs : i = 0 ∨ i = 1 ∨ i = 2 := by omega
   rcases hcs with rfl | rfl | rfl <;> (injection ho with ho; subst ho; refine .inl ⟨wanted_none rfl, ?_⟩)
   ·have e1 : ac.eval (.tmp 2) = .pointer (some ⟨w.heap.size, 0, none⟩) := hf 2 (by kernel_rfl)
    exact wp_load_mid 26 (.tmp 2) rfl _ _ e1 ((pt z x y).toList) _ (rangeAp (Z1.out.2.1.chg hc)) Try.underlying26 rfl (infoPt _ _ _) ⟨_, rfl, rfl, Chg.refl _⟩
   ·have e1 : ac.eval (.tmp 7) = .agg (pt z x y) := hg 0 (by decide) (by decide)
    refine opG_go 14 Try.f14 #[.tmp 7] #[26] rfl Try.func14 (by kernel_rfl) (by kernel_rfl) (by simp [e1]) (Calls.mono (onSL_any (HN.out.1) (HN.out.2.1) H1.out _) ?_)
    rintro r u2 ⟨rfl, hc2⟩
    exact ⟨_, rfl, rfl, hc2⟩
   ·have e1 : ac.eval (.tmp 8) = .bool true := hg 1 (by decide) (by decide)
    exact opG_val (by simp [execOp, e1]) rfl (Chg.refl _)
  ·intro u V hV hc
   have q5 : V 2 = .bool true := hV 2 (by decide)
   go_wp2_with fail
   go_meet
   exact ⟨q5, (Z1.out.1.trans hc), (Z1.out.2.1.chg hc), (Z1.out.2.2.1.chg hc), (Z1.out.2.2.2.chg hc)⟩
 obtain ⟨rfl, hz⟩ := hcut
 obtain ⟨w2, hw2⟩ : ∃ zz0, zz0 = wc := ⟨_, rfl⟩
 rw [← hw2] at hz ⊢
 have Z2 : Hid _ := hz
 clear hw2 hz Z1
 go_upto_region 2 with fail
 go_cut [6] from 6 to 10 (fun v6 wc => v6 = .bool false ∧ Chg w wc ∧ Ar wc w.heap.size (pt z x y) ∧ Ar wc (w.heap.size + 1) (pt z' x' y') ∧ Ar wc (w.heap.size + 1 + 1) (pt false 0 0))
 case first =>
  refine regP 3 (fun j v wg => match j with
   | 0 => v = .agg (pt z' x' y')
   | 1 => v = .bool false
   | 2 => v = .bool false
   | _ => True) (by decide) (by kernel_rfl) ?_ ?_ ?_
  ·intro j v u1 u2 h hc; exact h
  ·intro i o ac u hi ho hsz hf hg hc
   have hcs : i = 0 ∨ i = 1 ∨ i = 2 := by omega
   rcases hcs with rfl | rfl | rfl <;> (injection ho with ho; subst ho; refine .inl ⟨wanted_none rfl, ?_⟩)
   ·have e1 : ac.eval (.tmp 3) = .pointer (some ⟨w.heap.size + 1, 0, none⟩) := hf 3 (by kernel_rfl)
    exact wp_load_mid 26 (.tmp 3) rfl _ _ e1 ((pt z' x' y').toList) _ (rangeAp (Z2.out.2.2.1.chg hc)) Try.underlying26 rfl (infoPt _ _ _) ⟨_, rfl, rfl, Chg.refl _⟩
   ·have e1 : ac.eval (.tmp 9) = .agg (pt z' x' y') := hg 0 (by decide) (by decide)
    refine opG_go 14 Try.f14 #[.tmp 9] #[26] rfl Try.func14 (by kernel_rfl) (by kernel_rfl) (by simp [e1]) (Calls.mono (onSL_any (HN.out.2.2.1) (HN.out.2.2.2) H2.out _) ?_)
    rintro r u2 ⟨rfl, hc2⟩
    exact ⟨_, rfl, rfl, hc2⟩
   ·have e1 : ac.eval (.tmp 10) = .bool false := hg 1 (by decide) (by decide)
    exact opG_val (by simp [execOp, e1]) rfl (Chg.refl _)
  ·intro u V hV hc
   have q6 : V 2 = .bool false := hV 2 (by decide)
   go_wp2_with fail
   go_meet
   exact ⟨q6, (Z2.out.1.trans hc), (Z2.out.2.1.chg hc), (Z2.out.2.2.1.chg hc), (Z2.out.2.2.2.chg hc)⟩
 obtain ⟨rfl, hz⟩ := hcut
 obtain ⟨w3, hw3⟩ : ∃ zz0, zz0 = wc := ⟨_, rfl⟩
 rw [← hw3] at hz ⊢
 have Z3 : Hid _ := hz
 clear hw3 hz Z2
 go_upto_region 3 with fail
 go_cut [16] from 11 to 16 (fun v16 wc => v16 = .bool true ∧ Chg w wc ∧ Ar wc (w.heap.size + 1 + 1) (pt false 0 0))
 case first =>
  refine regP 6 (fun j v wg => match j with
   | 0 => v = .bool true
   | 1 => v = .bool false
   | 2 => v = .bool false
   | 3 => v = .bool false
   | 4 => v = .bool true
   | 5 => v = .bool true
   | _ => True) (by decide) (by kernel_rfl) ?_ ?_ ?_
  ·intro j v u1 u2 h hc; exact h
  ·intro i o ac u hi ho hsz hf hg hc
   have hcs : i = 0 ∨ i = 1 ∨ i = 2 ∨ i = 3 ∨ i = 4 ∨ i = 5 := by omega
   rcases hcs with rfl | rfl | rfl | rfl | rfl | rfl <;> (injection ho with ho; subst ho)
   ·refine .inl ⟨wanted_none rfl, ?_⟩
    have e1 : ac.eval (.tmp 5) = .bool true := hf 5 (by kernel_rfl)
    exact opG_val (by simp [execOp, e1]) rfl (Chg.refl _)
   ·refine .inl ⟨wanted_none rfl, ?_⟩
    have e1 : ac.eval (.tmp 11) = .bool true := hg 0 (by decide) (by decide)
    exact opG_val (by revert e1; generalize ac.eval = ρ; intro e1; simp [go_sem, execOp, e1]) rfl (Chg.refl _)
   ·refine .inl ⟨wanted_none rfl, ?_⟩
    have e1 : ac.eval (.tmp 12) = .bool false := hg 1 (by decide) (by decide)
    exact opG_val (by simp [execOp, e1]) rfl (Chg.refl _)
   ·refine .inl ⟨wanted_by (T := _) (by kernel_rfl) hsz rfl (by decide : 2 < 6) rfl (hg 2 (by decide) (by decide)), ?_⟩
    have e1 : ac.eval (.tmp 6) = .bool false := hf 6 (by kernel_rfl)
    exact opG_val (by simp [execOp, e1]) rfl (Chg.refl _)
   ·refine .inl ⟨wanted_by (T := _) (by kernel_rfl) hsz rfl (by decide : 2 < 6) rfl (hg 2 (by decide) (by decide)), ?_⟩
    have e1 : ac.eval (.tmp 14) = .bool false := hg 3 (by decide) (by decide)
    exact opG_val (by revert e1; generalize ac.eval = ρ; intro e1; simp [go_sem, execOp, e1]) rfl (Chg.refl _)
   ·refine .inl ⟨wanted_none rfl, ?_⟩
    have e1 : ac.eval (.tmp 13) = .bool false := hg 2 (by decide) (by decide)
    have e2 : ac.eval (.const (.bool true)) = .bool true := rfl
    have e3 : ac.eval (.tmp 15) = .bool true := hg 4 (by decide) (by decide)
    exact opG_val (by revert e1 e2 e3; generalize ac.eval = ρ; intro e1 e2 e3; simp [go_sem, execOp, e1, e2, e3]) rfl (Chg.refl _)
  ·intro u V hV hc
   have q16 : V 5 = .bool true := hV 5 (by decide)
   go_wp2_with fail
   go_meet
   exact ⟨q16, (Z3.out.1.trans hc), (Z3.out.2.2.2.chg hc)⟩
 obtain ⟨rfl, hz⟩ := hcut
 obtain ⟨w4, hw4⟩ : ∃ zz0, zz0 = wc := ⟨_, rfl⟩
 rw [← hw4] at hz ⊢
 have Z4 : Hid _ := hz
 clear hw4 hz Z3
 go_upto_region 4 with fail
 go_cut [] from 17 to 17 (fun wc => Chg w wc ∧ Ar wc (w.heap.size + 1 + 1) (pt true 0 0))
 case first =>
  refine regP 1 (fun j v wg => match j with
   | 0 => v = .agg (pt true 0 0)
   | _ => True) (by decide) (by kernel_rfl) ?_ ?_ ?_
  ·intro j v u1 u2 h hc; exact h
  ·intro i o ac u hi ho hsz hf hg hc
   have hcs : i = 0 := by omega
   rcases hcs with rfl <;> (injection ho with ho; subst ho; refine .inl ⟨wanted_none rfl, ?_⟩)
   ·exact opG_built _ [(0, .bool true)] rfl (by kernel_rfl) builtPtZ rfl
  ·intro u V hV hc
   have q17 : V 0 = .agg (pt true 0 0) := hV 0 (by decide)
   have hres0 := (Z4.out.2.chg hc)
   refine wpList_store_mid rfl 26 (.tmp 4) (.tmp 17) rfl (w.heap.size + 1 + 1) 0 (pt true 0 0) (by rfl) (Eq.trans (by rfl) q17) (by rw [pt_size]; exact pt_there hres0) (szPt _ _ _) (pt_one _ _ _) ?_
   rw [setRowPt hres0 _ _ _]
   have k0_c : Chg w (u.setRow (w.heap.size + 1 + 1) (pt true 0 0)) := ((Z4.out.1.trans hc).setRow (by omega) _)
   have k0_B4 := hres0.row (pt true 0 0)
   generalize (u.setRow (w.heap.size + 1 + 1) (pt true 0 0)) = u10 at k0_c k0_B4 ⊢
   go_wp2_with fail
   go_meet
   exact ⟨k0_c, k0_B4⟩
 have hz := hcut
 obtain ⟨w5, hw5⟩ : ∃ zz0, zz0 = wc := ⟨_, rfl⟩
 rw [← hw5] at hz ⊢
 have Z5 : Hid _ := hz
 clear hw5 hz Z4
 go_wp2_with fail
 exact bp_Pt Try.results10 rfl rfl Z5.out.2 ⟨rfl, Z5.out.1⟩
set_option maxHeartbeats 16000000 in
theorem padS_3 (z : Bool) (x y : Int) (z' : Bool) (x' y' : Int) (hx : N256 x) (hy : N256 y) (hx' : N256 x') (hy' : N256 y') (h1 : onR z x y = true) (h2 : onR z' x' y' = true) (w : World) : Calls Try.prog 10 #[.agg (pt z x y), .agg (pt z' x' y')] w fun r w' => r = .returned (.agg (pt (zP (AW (toP z x y) (toP z' x' y'))) (xP (AW (toP z x y) (toP z' x' y'))) (yP (AW (toP z x y) (toP z' x' y'))))) ∧ Chg w w' := by
 have HN : Hid (N256 x ∧ N256 y ∧ N256 x' ∧ N256 y') := ⟨hx, hy, hx', hy'⟩
 clear hx hy hx' hy'
 have H1 : Hid (onR z x y = true) := h1
 clear h1
 have H2 : Hid (onR z' x' y' = true) := h2
 clear h2
 have hz0 := zeroPt.1
 have hsA0 := pt_size z x y
 obtain ⟨A0, hA0⟩ : ∃ zz0, zz0 = pt z x y := ⟨_, rfl⟩
 have HA0 : Hid (A0 = pt z x y) := hA0
 have hsA1 := pt_size z' x' y'
 obtain ⟨A1, hA1⟩ : ∃ zz0, zz0 = pt z' x' y' := ⟨_, rfl⟩
 have HA1 : Hid (A1 = pt z' x' y') := hA1
 rw [← hA0] at hsA0 ⊢
 rw [← hA1] at hsA1 ⊢
 clear hA0 hA1
 go_enter Try.func10, Try.ntmps10
 go_upto_region 1 with fail
 obtain ⟨w1, hw1⟩ : ∃ w1, w1 = ((w.alloc (.cells A0 26)).alloc (.cells A1 26)).alloc (.cells (pt false 0 0) 26) := ⟨_, rfl⟩
 have Z1 : Hid (Chg w w1 ∧ Ar w1 w.heap.size (pt z x y) ∧ Ar w1 (w.heap.size + 1) (pt z' x' y') ∧ Ar w1 (w.heap.size + 1 + 1) (pt false 0 0)) := by
  have hnew0 := Ar.new w (pt z x y) 26
  have hnew1 := Ar.new (w.alloc (.cells (pt z x y) 26)) (pt z' x' y') 26
  rw [World.size_alloc] at hnew1
  have hnew2 := Ar.new ((w.alloc (.cells (pt z x y) 26)).alloc (.cells (pt z' x' y') 26)) (pt false 0 0) 26
  rw [World.size_alloc, World.size_alloc] at hnew2
  rw [hw1, HA0.out, HA1.out]
  exact ⟨((((Chg.refl w).alloc _).alloc _).alloc _), (((hnew0).alloc _).alloc _), ((hnew1).alloc _), (hnew2)⟩
 rw [← hw1]
 clear hw1 hz0 hsA0 hsA1 HA0 HA1
 go_cut [5] from 5 to 8 (fun v5 wc => v5 = .bool true ∧ Chg w wc ∧ Ar wc w.heap.size (pt z x y) ∧ Ar wc (w.heap.size + 1) (pt z' x' y') ∧ Ar wc (w.heap.size + 1 + 1) (pt false 0 0))
 case first =>
  refine regP 3 (fun j v wg => match j with
   | 0 => v = .agg (pt z x y)
   | 1 => v = .bool true
   | 2 => v = .bool true
   | _ => True) (by decide) (by kernel_rfl) ?_ ?_ ?_
  ·intro j v u1 u2 h hc; exact h
  ·intro i o ac u hi ho hsz hf hg hc
   have hcs : i = 0 ∨ i = 1 ∨ i = 2 := by omega
   rcases hcs with rfl | rfl | rfl <;> (injection ho with ho; subst ho; refine .inl ⟨wanted_none rfl, ?_⟩)
   ·have e1 : ac.eval (.tmp 2) = .pointer (some ⟨w.heap.size, 0, none⟩) := hf 2 (by kernel_rfl)
    exact wp_load_mid 26 (.tmp 2) rfl _ _ e1 ((pt z x y).toList) _ (rangeAp (Z1.out.2.1.chg hc)) Try.underlying26 rfl (infoPt _ _ _) ⟨_, rfl, rfl, Chg.refl _⟩
   ·have e1 : ac.eval (.tmp 7) = .agg (pt z x y) := hg 0 (by decide) (by decide)
    refine opG_go 14 Try.f14 #[.tmp 7] #[26] rfl Try.func14 (by kernel_rfl) (by kernel_rfl) (by simp [e1]) (Calls.mono (onSL_any (HN.out.1) (HN.out.2.1) H1.out _) ?_)
    rintro r u2 ⟨rfl, hc2⟩
    exact ⟨_, rfl, rfl, hc2⟩
   ·have e1 : ac.eval (.tmp 8) = .bool true := hg 1 (by decide) (by decide)
    exact opG_val (by simp [execOp, e1]) rfl (Chg.refl _)
  ·intro u V hV hc
   have q5 : V 2 = .bool true := hV 2 (by decide)
   go_wp2_with fail
   go_meet
   exact ⟨q5, (Z1.out.1.trans hc), (Z1.out.2.1.chg hc), (Z1.out.2.2.1.chg hc), (Z1.out.2.2.2.chg hc)⟩
 obtain ⟨rfl, hz⟩ := hcut
 obtain ⟨w2, hw2⟩ : ∃ zz0, zz0 = wc := ⟨_, rfl⟩
 rw [← hw2] at hz ⊢
 have Z2 : Hid _ := hz
 clear hw2 hz Z1
 go_upto_region 2 with fail
 go_cut [6] from 6 to 10 (fun v6 wc => v6 = .bool true ∧ Chg w wc ∧ Ar wc w.heap.size (pt z x y) ∧ Ar wc (w.heap.size + 1) (pt z' x' y') ∧ Ar wc (w.heap.size + 1 + 1) (pt false 0 0))
 case first =>
  refine regP 3 (fun j v wg => match j with
   | 0 => v = .agg (pt z' x' y')
   | 1 => v = .bool true
   | 2 => v = .bool true
   | _ => True) (by decide) (by kernel_rfl) ?_ ?_ ?_
  ·intro j v u1 u2 h hc; exact h
  ·intro i o ac u hi ho hsz hf hg hc
   have hcs : i = 0 ∨ i = 1 ∨ i = 2 := by omega
   rcases hcs with rfl | rfl | rfl <;> (injection ho with ho; subst ho; refine .inl ⟨wanted_none rfl, ?_⟩)
   ·have e1 : ac.eval (.tmp 3) = .pointer (some ⟨w.heap.size + 1, 0, none⟩) := hf 3 (by kernel_rfl)
    exact wp_load_mid 26 (.tmp 3) rfl _ _ e1 ((pt z' x' y').toList) _ (rangeAp (Z2.out.2.2.1.chg hc)) Try.underlying26 rfl (infoPt _ _ _) ⟨_, rfl, rfl, Chg.refl _⟩
   ·have e1 : ac.eval (.tmp 9) = .agg (pt z' x' y') := hg 0 (by decide) (by decide)
    refine opG_go 14 Try.f14 #[.tmp 9] #[26] rfl Try.func14 (by kernel_rfl) (by kernel_rfl) (by simp [e1]) (Calls.mono (onSL_any (HN.out.2.2.1) (HN.out.2.2.2) H2.out _) ?_)
    rintro r u2 ⟨rfl, hc2⟩
    exact ⟨_, rfl, rfl, hc2⟩
   ·have e1 : ac.eval (.tmp 10) = .bool true := hg 1 (by decide) (by decide)
    exact opG_val (by simp [execOp, e1]) rfl (Chg.refl _)
  ·intro u V hV hc
   have q6 : V 2 = .bool true := hV 2 (by decide)
   go_wp2_with fail
   go_meet
   exact ⟨q6, (Z2.out.1.trans hc), (Z2.out.2.1.chg hc), (Z2.out.2.2.1.chg hc), (Z2.out.2.2.2.chg hc)⟩
 obtain ⟨rfl, hz⟩ := hcut
 obtain ⟨w3, hw3⟩ : ∃ zz0, zz0 = wc := ⟨_, rfl⟩
 rw [← hw3] at hz ⊢
 have Z3 : Hid _ := hz
 clear hw3 hz Z2
 go_upto_region 3 with fail
 go_cut [16] from 11 to 16 (fun v16 wc => v16 = .bool false ∧ Chg w wc ∧ Ar wc w.heap.size (pt z x y) ∧ Ar wc (w.heap.size + 1) (pt z' x' y') ∧ Ar wc (w.heap.size + 1 + 1) (pt false 0 0))
 case first =>
  refine regP 6 (fun j v wg => match j with
   | 0 => v = .bool true
   | 1 => v = .bool false
   | 2 => v = .bool false
   | 3 => v = .bool true
   | 4 => v = .bool false
   | 5 => v = .bool false
   | _ => True) (by decide) (by kernel_rfl) ?_ ?_ ?_
  ·intro j v u1 u2 h hc; exact h
  ·intro i o ac u hi ho hsz hf hg hc
   have hcs : i = 0 ∨ i = 1 ∨ i = 2 ∨ i = 3 ∨ i = 4 ∨ i = 5 := by omega
   rcases hcs with rfl | rfl | rfl | rfl | rfl | rfl <;> (injection ho with ho; subst ho)
   ·refine .inl ⟨wanted_none rfl, ?_⟩
    have e1 : ac.eval (.tmp 5) = .bool true := hf 5 (by kernel_rfl)
    exact opG_val (by simp [execOp, e1]) rfl (Chg.refl _)
   ·refine .inl ⟨wanted_none rfl, ?_⟩
    have e1 : ac.eval (.tmp 11) = .bool true := hg 0 (by decide) (by decide)
    exact opG_val (by revert e1; generalize ac.eval = ρ; intro e1; simp [go_sem, execOp, e1]) rfl (Chg.refl _)
   ·refine .inl ⟨wanted_none rfl, ?_⟩
    have e1 : ac.eval (.tmp 12) = .bool false := hg 1 (by decide) (by decide)
    exact opG_val (by simp [execOp, e1]) rfl (Chg.refl _)
   ·refine .inl ⟨wanted_by (T := _) (by kernel_rfl) hsz rfl (by decide : 2 < 6) rfl (hg 2 (by decide) (by decide)), ?_⟩
    have e1 : ac.eval (.tmp 6) = .bool true := hf 6 (by kernel_rfl)
    exact opG_val (by simp [execOp, e1]) rfl (Chg.refl _)
   ·refine .inl ⟨wanted_by (T := _) (by kernel_rfl) hsz rfl (by decide : 2 < 6) rfl (hg 2 (by decide) (by decide)), ?_⟩
    have e1 : ac.eval (.tmp 14) = .bool true := hg 3 (by decide) (by decide)
    exact opG_val (by revert e1; generalize ac.eval = ρ; intro e1; simp [go_sem, execOp, e1]) rfl (Chg.refl _)
   ·refine .inl ⟨wanted_none rfl, ?_⟩
    have e1 : ac.eval (.tmp 13) = .bool false := hg 2 (by decide) (by decide)
    have e2 : ac.eval (.const (.bool true)) = .bool true := rfl
    have e3 : ac.eval (.tmp 15) = .bool false := hg 4 (by decide) (by decide)
    exact opG_val (by revert e1 e2 e3; generalize ac.eval = ρ; intro e1 e2 e3; simp [go_sem, execOp, e1, e2, e3]) rfl (Chg.refl _)
  ·intro u V hV hc
   have q16 : V 5 = .bool false := hV 5 (by decide)
   go_wp2_with fail
   go_meet
   exact ⟨q16, (Z3.out.1.trans hc), (Z3.out.2.1.chg hc), (Z3.out.2.2.1.chg hc), (Z3.out.2.2.2.chg hc)⟩
 obtain ⟨rfl, hz⟩ := hcut
 obtain ⟨w4, hw4⟩ : ∃ zz0, zz0 = wc := ⟨_, rfl⟩
 rw [← hw4] at hz ⊢
 have Z4 : Hid _ := hz
 clear hw4 hz Z3
 go_upto_region 5 with fail
 go_cut [] from 18 to 23 (fun wc => Chg w wc ∧ Ar wc (w.heap.size + 1 + 1) (pt (zP (AW (toP z x y) (toP z' x' y'))) (xP (AW (toP z x y) (toP z' x' y'))) (yP (AW (toP z x y) (toP z' x' y')))))
 case first =>
  refine regM 6 (fun j => false) (fun j v wg => match j with
   | 0 => v = .agg (pt z x y)
   | 1 => ∃ xa ya za, v = .agg (q3 xa ya za) ∧ JQ xa ya za (toP z x y)
   | 2 => v = .agg (pt z' x' y')
   | 3 => ∃ xa ya za, v = .agg (q3 xa ya za) ∧ JQ xa ya za (toP z' x' y')
   | 4 => ∃ xa ya za, v = .agg (q3 xa ya za) ∧ JQ xa ya za (AW (toP z x y) (toP z' x' y'))
   | 5 => v = .agg (pt (zP (AW (toP z x y) (toP z' x' y'))) (xP (AW (toP z x y) (toP z' x' y'))) (yP (AW (toP z x y) (toP z' x' y'))))
   | _ => True) (by kernel_rfl) (by decide) (by kernel_rfl) (by kernel_rfl) (by kernel_rfl) (by kernel_rfl) ?_ ?_ ?_ ?_
  ·intro j v u1 u2 h hc; exact h
  ·intro j v u hj ha h
   cases ha
  ·intro i o ac u hi ho hsz hf hg hc
   have hcs : i = 0 ∨ i = 1 ∨ i = 2 ∨ i = 3 ∨ i = 4 ∨ i = 5 := by omega
   rcases hcs with rfl | rfl | rfl | rfl | rfl | rfl <;> (injection ho with ho; subst ho; refine ⟨wanted_none rfl, ?_⟩)
   ·have e1 : ac.eval (.tmp 2) = .pointer (some ⟨w.heap.size, 0, none⟩) := hf 2 (by kernel_rfl)
    exact wp_load_mid 26 (.tmp 2) rfl _ _ e1 ((pt z x y).toList) _ (rangeAp (Z4.out.2.1.chg hc)) Try.underlying26 rfl (infoPt _ _ _) ⟨_, rfl, ⟨rfl, fun h => by cases h⟩, Chg.refl _⟩
   ·have e1 : ac.eval (.tmp 18) = .agg (pt z x y) := hg 0 (by kernel_rfl) (by decide)
    refine opG_go 30 Try.f30 #[.tmp 18] #[26] rfl Try.func30 (by kernel_rfl) (by kernel_rfl) (by simp [e1]) (Calls.mono (ofS_any _ _ _ (HN.out.1) (HN.out.2.1) H1.out _) ?_)
    rintro r u2 ⟨x19, y19, z19, rfl, m19, hc2⟩
    exact ⟨_, rfl, ⟨⟨x19, y19, z19, rfl, m19⟩, fun h => by cases h⟩, hc2⟩
   ·have e1 : ac.eval (.tmp 3) = .pointer (some ⟨w.heap.size + 1, 0, none⟩) := hf 3 (by kernel_rfl)
    exact wp_load_mid 26 (.tmp 3) rfl _ _ e1 ((pt z' x' y').toList) _ (rangeAp (Z4.out.2.2.1.chg hc)) Try.underlying26 rfl (infoPt _ _ _) ⟨_, rfl, ⟨rfl, fun h => by cases h⟩, Chg.refl _⟩
   ·have e1 : ac.eval (.tmp 20) = .agg (pt z' x' y') := hg 2 (by kernel_rfl) (by decide)
    refine opG_go 30 Try.f30 #[.tmp 20] #[26] rfl Try.func30 (by kernel_rfl) (by kernel_rfl) (by simp [e1]) (Calls.mono (ofS_any _ _ _ (HN.out.2.2.1) (HN.out.2.2.2) H2.out _) ?_)
    rintro r u2 ⟨x21, y21, z21, rfl, m21, hc2⟩
    exact ⟨_, rfl, ⟨⟨x21, y21, z21, rfl, m21⟩, fun h => by cases h⟩, hc2⟩
   ·obtain ⟨x19, y19, z19, e10, m19⟩ := hg 1 (by kernel_rfl) (by decide)
    have e1 : ac.eval (.tmp 19) = .agg (q3 x19 y19 z19) := e10
    obtain ⟨x21, y21, z21, e20, m21⟩ := hg 3 (by kernel_rfl) (by decide)
    have e2 : ac.eval (.tmp 21) = .agg (q3 x21 y21 z21) := e20
    refine opG_go 29 Try.f29 #[.tmp 19, .tmp 21] #[54, 54] rfl Try.func29 (by kernel_rfl) (by kernel_rfl) (by simp [e1, e2]) (Calls.mono (plusS_any _ _ _ _ _ _ _ _ m19 m21 _) ?_)
    rintro r u2 ⟨x22, y22, z22, rfl, m22, hc2⟩
    exact ⟨_, rfl, ⟨⟨x22, y22, z22, rfl, m22⟩, fun h => by cases h⟩, hc2⟩
   ·obtain ⟨x22, y22, z22, e10, m22⟩ := hg 4 (by kernel_rfl) (by decide)
    have e1 : ac.eval (.tmp 22) = .agg (q3 x22 y22 z22) := e10
    refine opG_go 28 Try.f28 #[.tmp 22] #[54] rfl Try.func28 (by kernel_rfl) (by kernel_rfl) (by simp [e1]) (Calls.mono (backS_any _ _ _ _ m22 _) ?_)
    rintro r u2 ⟨rfl, hc2⟩
    exact ⟨_, rfl, ⟨rfl, fun h => by cases h⟩, hc2⟩
  ·intro u V hV hap hc
   obtain ⟨x19, y19, z19, q19, m19⟩ := hV 1 (by decide)
   obtain ⟨x21, y21, z21, q21, m21⟩ := hV 3 (by decide)
   obtain ⟨x22, y22, z22, q22, m22⟩ := hV 4 (by decide)
   have q23 : V 5 = .agg (pt (zP (AW (toP z x y) (toP z' x' y'))) (xP (AW (toP z x y) (toP z' x' y'))) (yP (AW (toP z x y) (toP z' x' y')))) := hV 5 (by decide)
   have hres0 := (Z4.out.2.2.2.chg hc)
   refine tail_cons rfl rfl ?_
   refine wp_store_mid 26 (.tmp 4) (.tmp 23) rfl (w.heap.size + 1 + 1) 0 (pt (zP (AW (toP z x y) (toP z' x' y'))) (xP (AW (toP z x y) (toP z' x' y'))) (yP (AW (toP z x y) (toP z' x' y')))) (by rfl) (Eq.trans (by rfl) q23) (by rw [pt_size]; exact pt_there hres0) (szPt _ _ _) (pt_one _ _ _) ?_
   rw [setRowPt hres0 _ _ _]
   have k0_c : Chg w (u.setRow (w.heap.size + 1 + 1) (pt (zP (AW (toP z x y) (toP z' x' y'))) (xP (AW (toP z x y) (toP z' x' y'))) (yP (AW (toP z x y) (toP z' x' y'))))) := ((Z4.out.1.trans hc).setRow (by omega) _)
   have k0_B4 := hres0.row (pt (zP (AW (toP z x y) (toP z' x' y'))) (xP (AW (toP z x y) (toP z' x' y'))) (yP (AW (toP z x y) (toP z' x' y'))))
   generalize (u.setRow (w.heap.size + 1 + 1) (pt (zP (AW (toP z x y) (toP z' x' y'))) (xP (AW (toP z x y) (toP z' x' y'))) (yP (AW (toP z x y) (toP z' x' y'))))) = u10 at k0_c k0_B4 ⊢
   refine tail_nil rfl ?_
   go_wp2_with fail
   go_meet
   exact ⟨k0_c, k0_B4⟩
 have hz := hcut
 obtain ⟨w5, hw5⟩ : ∃ zz0, zz0 = wc := ⟨_, rfl⟩
 rw [← hw5] at hz ⊢
 have Z5 : Hid _ := hz
 clear hw5 hz Z4
 go_wp2_with fail
 exact bp_Pt Try.results10 rfl rfl Z5.out.2 ⟨rfl, Z5.out.1⟩
theorem padS_any (z : Bool) (x y : Int) (z' : Bool) (x' y' : Int) (hx : N256 x) (hy : N256 y) (hx' : N256 x') (hy' : N256 y') (S : PQt) (hS : addR z x y z' x' y' = S) (w : World) : Calls Try.prog 10 #[.agg (pt z x y), .agg (pt z' x' y')] w fun r w' => r = .returned (.agg (pt (zP S) (xP S) (yP S))) ∧ Chg w w' := by
 rw [← hS]
 unfold addR
 cases h1 : onR z x y with
 | false => exact padS_1 z x y z' x' y' hx hy hx' hy' h1 rfl w
 | true =>
  cases h2 : onR z' x' y' with
  | false => exact padS_2 z x y z' x' y' hx hy hx' hy' h1 h2 w
  | true => exact padS_3 z x y z' x' y' hx hy hx' hy' h1 h2 w
set_option maxHeartbeats 16000000 in
theorem multQ_1 (n : Int) (z : Bool) (x y : Int) (hn : N256 n) (hx : N256 x) (hy : N256 y) (h1 : onR z x y = false) (w : World) : Calls Try.prog 11 #[.agg (num n), .agg (pt z x y)] w fun r w' => r = .returned (.agg (pt true 0 0)) ∧ Chg w w' := by
 have HN : Hid (N256 n ∧ N256 x ∧ N256 y) := ⟨hn, hx, hy⟩
 clear hn hx hy
 have H1 : Hid (onR z x y = false) := h1
 clear h1
 have hz0 := zeroPt.1
 have hsA0 := num_size n
 obtain ⟨A0, hA0⟩ : ∃ zz0, zz0 = num n := ⟨_, rfl⟩
 have HA0 : Hid (A0 = num n) := hA0
 have hsA1 := pt_size z x y
 obtain ⟨A1, hA1⟩ : ∃ zz0, zz0 = pt z x y := ⟨_, rfl⟩
 have HA1 : Hid (A1 = pt z x y) := hA1
 rw [← hA0] at hsA0 ⊢
 rw [← hA1] at hsA1 ⊢
 clear hA0 hA1
 go_enter Try.func11, Try.ntmps11
 go_upto_region 1 with fail
 obtain ⟨w1, hw1⟩ : ∃ w1, w1 = ((w.alloc (.cells A0 24)).alloc (.cells A1 26)).alloc (.cells (pt false 0 0) 26) := ⟨_, rfl⟩
 have Z1 : Hid (Chg w w1 ∧ Ar w1 w.heap.size (num n) ∧ Ar w1 (w.heap.size + 1) (pt z x y) ∧ Ar w1 (w.heap.size + 1 + 1) (pt false 0 0)) := by
  have hnew0 := Ar.new w (num n) 24
  have hnew1 := Ar.new (w.alloc (.cells (num n) 24)) (pt z x y) 26
  rw [World.size_alloc] at hnew1
  have hnew2 := Ar.new ((w.alloc (.cells (num n) 24)).alloc (.cells (pt z x y) 26)) (pt false 0 0) 26
  rw [World.size_alloc, World.size_alloc] at hnew2
  rw [hw1, HA0.out, HA1.out]
  exact ⟨((((Chg.refl w).alloc _).alloc _).alloc _), (((hnew0).alloc _).alloc _), ((hnew1).alloc _), (hnew2)⟩
 rw [← hw1]
 clear hw1 hz0 hsA0 hsA1 HA0 HA1
 go_cut [7] from 5 to 7 (fun v7 wc => v7 = .bool true ∧ Chg w wc ∧ Ar wc (w.heap.size + 1 + 1) (pt false 0 0))
 case first =>
  refine regP 3 (fun j v wg => match j with
   | 0 => v = .agg (pt z x y)
   | 1 => v = .bool false
   | 2 => v = .bool true
   | _ => True) (by decide) (by kernel_rfl) ?_ ?_ ?_
  ·intro j v u1 u2 h hc; exact h
  ·intro i o ac u hi ho hsz hf hg hc
   have hcs : i = 0 ∨ i = 1 ∨ i = 2 := by omega
   rcases hcs with rfl | rfl | rfl <;> (injection ho with ho; subst ho; refine .inl ⟨wanted_none rfl, ?_⟩)
   ·have e1 : ac.eval (.tmp 3) = .pointer (some ⟨w.heap.size + 1, 0, none⟩) := hf 3 (by kernel_rfl)
    exact wp_load_mid 26 (.tmp 3) rfl _ _ e1 ((pt z x y).toList) _ (rangeAp (Z1.out.2.2.1.chg hc)) Try.underlying26 rfl (infoPt _ _ _) ⟨_, rfl, rfl, Chg.refl _⟩
   ·have e1 : ac.eval (.tmp 5) = .agg (pt z x y) := hg 0 (by decide) (by decide)
    refine opG_go 13 Try.f13 #[.tmp 5] #[26] rfl Try.func13 (by kernel_rfl) (by kernel_rfl) (by simp [e1]) (Calls.mono (onQL_any (HN.out.2.1) (HN.out.2.2) H1.out _) ?_)
    rintro r u2 ⟨rfl, hc2⟩
    exact ⟨_, rfl, rfl, hc2⟩
   ·have e1 : ac.eval (.tmp 6) = .bool false := hg 1 (by decide) (by decide)
    exact opG_val (by revert e1; generalize ac.eval = ρ; intro e1; simp [go_sem, execOp, e1]) rfl (Chg.refl _)
  ·intro u V hV hc
   have q7 : V 2 = .bool true := hV 2 (by decide)
   go_wp2_with fail
   go_meet
   exact ⟨q7, (Z1.out.1.trans hc), (Z1.out.2.2.2.chg hc)⟩
 obtain ⟨rfl, hz⟩ := hcut
 obtain ⟨w2, hw2⟩ : ∃ zz0, zz0 = wc := ⟨_, rfl⟩
 rw [← hw2] at hz ⊢
 have Z2 : Hid _ := hz
 clear hw2 hz Z1
 go_upto_region 2 with fail
 go_cut [] from 8 to 8 (fun wc => Chg w wc ∧ Ar wc (w.heap.size + 1 + 1) (pt true 0 0))
 case first =>
  refine regP 1 (fun j v wg => match j with
   | 0 => v = .agg (pt true 0 0)
   | _ => True) (by decide) (by kernel_rfl) ?_ ?_ ?_
  ·intro j v u1 u2 h hc; exact h
  ·intro i o ac u hi ho hsz hf hg hc
   have hcs : i = 0 := by omega
   rcases hcs with rfl <;> (injection ho with ho; subst ho; refine .inl ⟨wanted_none rfl, ?_⟩)
   ·refine opG_go 24 Try.f24 #[] #[] rfl Try.func24 (by kernel_rfl) (by kernel_rfl) (by simp []) (Calls.mono (zeroQ_any _) ?_)
    rintro r u2 ⟨rfl, hc2⟩
    exact ⟨_, rfl, rfl, hc2⟩
  ·intro u V hV hc
   have q8 : V 0 = .agg (pt true 0 0) := hV 0 (by decide)
   have hres0 := (Z2.out.2.chg hc)
   refine wpList_store_mid rfl 26 (.tmp 4) (.tmp 8) rfl (w.heap.size + 1 + 1) 0 (pt true 0 0) (by rfl) (Eq.trans (by rfl) q8) (by rw [pt_size]; exact pt_there hres0) (szPt _ _ _) (pt_one _ _ _) ?_
   rw [setRowPt hres0 _ _ _]
   have k0_c : Chg w (u.setRow (w.heap.size + 1 + 1) (pt true 0 0)) := ((Z2.out.1.trans hc).setRow (by omega) _)
   have k0_B4 := hres0.row (pt true 0 0)
   generalize (u.setRow (w.heap.size + 1 + 1) (pt true 0 0)) = u10 at k0_c k0_B4 ⊢
   go_wp2_with fail
   go_meet
   exact ⟨k0_c, k0_B4⟩
 have hz := hcut
 obtain ⟨w3, hw3⟩ : ∃ zz0, zz0 = wc := ⟨_, rfl⟩
 rw [← hw3] at hz ⊢
 have Z3 : Hid _ := hz
 clear hw3 hz Z2
 go_wp2_with fail
 exact bp_Pt Try.results11 rfl rfl Z3.out.2 ⟨rfl, Z3.out.1⟩
set_option maxHeartbeats 16000000 in
theorem multQ_2 (n : Int) (z : Bool) (x y : Int) (hn : N256 n) (hx : N256 x) (hy : N256 y) (h1 : onR z x y = true) (w : World) : Calls Try.prog 11 #[.agg (num n), .agg (pt z x y)] w fun r w' => r = .returned (.agg (pt (zP (MW (toP z x y) n.toNat)) (xP (MW (toP z x y) n.toNat)) (yP (MW (toP z x y) n.toNat)))) ∧ Chg w w' := by
 have HN : Hid (N256 n ∧ N256 x ∧ N256 y) := ⟨hn, hx, hy⟩
 clear hn hx hy
 have H1 : Hid (onR z x y = true) := h1
 clear h1
 have hz0 := zeroPt.1
 have hsA0 := num_size n
 obtain ⟨A0, hA0⟩ : ∃ zz0, zz0 = num n := ⟨_, rfl⟩
 have HA0 : Hid (A0 = num n) := hA0
 have hsA1 := pt_size z x y
 obtain ⟨A1, hA1⟩ : ∃ zz0, zz0 = pt z x y := ⟨_, rfl⟩
 have HA1 : Hid (A1 = pt z x y) := hA1
 rw [← hA0] at hsA0 ⊢
 rw [← hA1] at hsA1 ⊢
 clear hA0 hA1
 go_enter Try.func11, Try.ntmps11
 go_upto_region 1 with fail
 obtain ⟨w1, hw1⟩ : ∃ w1, w1 = ((w.alloc (.cells A0 24)).alloc (.cells A1 26)).alloc (.cells (pt false 0 0) 26) := ⟨_, rfl⟩
 have Z1 : Hid (Chg w w1 ∧ Ar w1 w.heap.size (num n) ∧ Ar w1 (w.heap.size + 1) (pt z x y) ∧ Ar w1 (w.heap.size + 1 + 1) (pt false 0 0)) := by
  have hnew0 := Ar.new w (num n) 24
  have hnew1 := Ar.new (w.alloc (.cells (num n) 24)) (pt z x y) 26
  rw [World.size_alloc] at hnew1
  have hnew2 := Ar.new ((w.alloc (.cells (num n) 24)).alloc (.cells (pt z x y) 26)) (pt false 0 0) 26
  rw [World.size_alloc, World.size_alloc] at hnew2
  rw [hw1, HA0.out, HA1.out]
  exact ⟨((((Chg.refl w).alloc _).alloc _).alloc _), (((hnew0).alloc _).alloc _), ((hnew1).alloc _), (hnew2)⟩
 rw [← hw1]
 clear hw1 hz0 hsA0 hsA1 HA0 HA1
 go_cut [7] from 5 to 7 (fun v7 wc => v7 = .bool false ∧ Chg w wc ∧ Ar wc w.heap.size (num n) ∧ Ar wc (w.heap.size + 1) (pt z x y) ∧ Ar wc (w.heap.size + 1 + 1) (pt false 0 0))
 case first =>
  refine regP 3 (fun j v wg => match j with
   | 0 => v = .agg (pt z x y)
   | 1 => v = .bool true
   | 2 => v = .bool false
   | _ => True) (by decide) (by kernel_rfl) ?_ ?_ ?_
  ·intro j v u1 u2 h hc; exact h
  ·intro i o ac u hi ho hsz hf hg hc
   have hcs : i = 0 ∨ i = 1 ∨ i = 2 := by omega
   rcases hcs with rfl | rfl | rfl <;> (injection ho with ho; subst ho; refine .inl ⟨wanted_none rfl, ?_⟩)
   ·have e1 : ac.eval (.tmp 3) = .pointer (some ⟨w.heap.size + 1, 0, none⟩) := hf 3 (by kernel_rfl)
    exact wp_load_mid 26 (.tmp 3) rfl _ _ e1 ((pt z x y).toList) _ (rangeAp (Z1.out.2.2.1.chg hc)) Try.underlying26 rfl (infoPt _ _ _) ⟨_, rfl, rfl, Chg.refl _⟩
   ·have e1 : ac.eval (.tmp 5) = .agg (pt z x y) := hg 0 (by decide) (by decide)
    refine opG_go 13 Try.f13 #[.tmp 5] #[26] rfl Try.func13 (by kernel_rfl) (by kernel_rfl) (by simp [e1]) (Calls.mono (onQL_any (HN.out.2.1) (HN.out.2.2) H1.out _) ?_)
    rintro r u2 ⟨rfl, hc2⟩
    exact ⟨_, rfl, rfl, hc2⟩
   ·have e1 : ac.eval (.tmp 6) = .bool true := hg 1 (by decide) (by decide)
    exact opG_val (by revert e1; generalize ac.eval = ρ; intro e1; simp [go_sem, execOp, e1]) rfl (Chg.refl _)
  ·intro u V hV hc
   have q7 : V 2 = .bool false := hV 2 (by decide)
   go_wp2_with fail
   go_meet
   exact ⟨q7, (Z1.out.1.trans hc), (Z1.out.2.1.chg hc), (Z1.out.2.2.1.chg hc), (Z1.out.2.2.2.chg hc)⟩
 obtain ⟨rfl, hz⟩ := hcut
 obtain ⟨w2, hw2⟩ : ∃ zz0, zz0 = wc := ⟨_, rfl⟩
 rw [← hw2] at hz ⊢
 have Z2 : Hid _ := hz
 clear hw2 hz Z1
 go_upto_region 3 with fail
 go_cut [] from 9 to 13 (fun wc => Chg w wc ∧ Ar wc (w.heap.size + 1 + 1) (pt (zP (MW (toP z x y) (n).toNat)) (xP (MW (toP z x y) (n).toNat)) (yP (MW (toP z x y) (n).toNat))))
 case first =>
  refine regM 5 (fun j => false) (fun j v wg => match j with
   | 0 => v = .agg (pt z x y)
   | 1 => ∃ xa ya za, v = .agg (q3 xa ya za) ∧ TQ xa ya za (toP z x y)
   | 2 => v = .agg (num n)
   | 3 => ∃ xa ya za, v = .agg (q3 xa ya za) ∧ TQ xa ya za (MW (toP z x y) (n).toNat)
   | 4 => v = .agg (pt (zP (MW (toP z x y) (n).toNat)) (xP (MW (toP z x y) (n).toNat)) (yP (MW (toP z x y) (n).toNat)))
   | _ => True) (by kernel_rfl) (by decide) (by kernel_rfl) (by kernel_rfl) (by kernel_rfl) (by kernel_rfl) ?_ ?_ ?_ ?_
  ·intro j v u1 u2 h hc; exact h
  ·intro j v u hj ha h
   cases ha
  ·intro i o ac u hi ho hsz hf hg hc
   have hcs : i = 0 ∨ i = 1 ∨ i = 2 ∨ i = 3 ∨ i = 4 := by omega
   rcases hcs with rfl | rfl | rfl | rfl | rfl <;> (injection ho with ho; subst ho; refine ⟨wanted_none rfl, ?_⟩)
   ·have e1 : ac.eval (.tmp 3) = .pointer (some ⟨w.heap.size + 1, 0, none⟩) := hf 3 (by kernel_rfl)
    exact wp_load_mid 26 (.tmp 3) rfl _ _ e1 ((pt z x y).toList) _ (rangeAp (Z2.out.2.2.1.chg hc)) Try.underlying26 rfl (infoPt _ _ _) ⟨_, rfl, ⟨rfl, fun h => by cases h⟩, Chg.refl _⟩
   ·have e1 : ac.eval (.tmp 9) = .agg (pt z x y) := hg 0 (by kernel_rfl) (by decide)
    refine opG_go 25 Try.f25 #[.tmp 9] #[26] rfl Try.func25 (by kernel_rfl) (by kernel_rfl) (by simp [e1]) (Calls.mono (ofQ_any _ _ _ (HN.out.2.1) (HN.out.2.2) H1.out _) ?_)
    rintro r u2 ⟨x10, y10, z10, rfl, m10, hc2⟩
    exact ⟨_, rfl, ⟨⟨x10, y10, z10, rfl, m10⟩, fun h => by cases h⟩, hc2⟩
   ·exact ldN rfl (hf 2 (by kernel_rfl)) (rangeAp (Z2.out.2.1.chg hc)) ⟨rfl, fun h => by cases h⟩
   ·obtain ⟨x10, y10, z10, e10, m10⟩ := hg 1 (by kernel_rfl) (by decide)
    have e1 : ac.eval (.tmp 10) = .agg (q3 x10 y10 z10) := e10
    have e2 : ac.eval (.tmp 11) = .agg (num n) := hg 2 (by kernel_rfl) (by decide)
    refine opG_go 31 Try.f31 #[.tmp 10, .tmp 11] #[49, 24] rfl Try.func31 (by kernel_rfl) (by kernel_rfl) (by simp [e1, e2]) (Calls.mono (timesQ_any _ _ _ _ _ (HN.out.1) m10 _) ?_)
    rintro r u2 ⟨x12, y12, z12, rfl, m12, hc2⟩
    exact ⟨_, rfl, ⟨⟨x12, y12, z12, rfl, m12⟩, fun h => by cases h⟩, hc2⟩
   ·obtain ⟨x12, y12, z12, e10, m12⟩ := hg 3 (by kernel_rfl) (by decide)
    have e1 : ac.eval (.tmp 12) = .agg (q3 x12 y12 z12) := e10
    refine opG_go 27 Try.f27 #[.tmp 12] #[49] rfl Try.func27 (by kernel_rfl) (by kernel_rfl) (by simp [e1]) (Calls.mono (pointQ_any _ _ _ _ m12 _) ?_)
    rintro r u2 ⟨rfl, hc2⟩
    exact ⟨_, rfl, ⟨rfl, fun h => by cases h⟩, hc2⟩
  ·intro u V hV hap hc
   obtain ⟨x10, y10, z10, q10, m10⟩ := hV 1 (by decide)
   obtain ⟨x12, y12, z12, q12, m12⟩ := hV 3 (by decide)
   have q13 : V 4 = .agg (pt (zP (MW (toP z x y) (n).toNat)) (xP (MW (toP z x y) (n).toNat)) (yP (MW (toP z x y) (n).toNat))) := hV 4 (by decide)
   have hres0 := (Z2.out.2.2.2.chg hc)
   refine tail_cons rfl rfl ?_
   refine wp_store_mid 26 (.tmp 4) (.tmp 13) rfl (w.heap.size + 1 + 1) 0 (pt (zP (MW (toP z x y) (n).toNat)) (xP (MW (toP z x y) (n).toNat)) (yP (MW (toP z x y) (n).toNat))) (by rfl) (Eq.trans (by rfl) q13) (by rw [pt_size]; exact pt_there hres0) (szPt _ _ _) (pt_one _ _ _) ?_
   rw [setRowPt hres0 _ _ _]
   have k0_c : Chg w (u.setRow (w.heap.size + 1 + 1) (pt (zP (MW (toP z x y) (n).toNat)) (xP (MW (toP z x y) (n).toNat)) (yP (MW (toP z x y) (n).toNat)))) := ((Z2.out.1.trans hc).setRow (by omega) _)
   have k0_B4 := hres0.row (pt (zP (MW (toP z x y) (n).toNat)) (xP (MW (toP z x y) (n).toNat)) (yP (MW (toP z x y) (n).toNat)))
   generalize (u.setRow (w.heap.size + 1 + 1) (pt (zP (MW (toP z x y) (n).toNat)) (xP (MW (toP z x y) (n).toNat)) (yP (MW (toP z x y) (n).toNat)))) = u10 at k0_c k0_B4 ⊢
   refine tail_nil rfl ?_
   go_wp2_with fail
   go_meet
   exact ⟨k0_c, k0_B4⟩
 have hz := hcut
 obtain ⟨w3, hw3⟩ : ∃ zz0, zz0 = wc := ⟨_, rfl⟩
 rw [← hw3] at hz ⊢
 have Z3 : Hid _ := hz
 clear hw3 hz Z2
 go_wp2_with fail
 exact bp_Pt Try.results11 rfl rfl Z3.out.2 ⟨rfl, Z3.out.1⟩
theorem multQ_any (n : Int) (z : Bool) (x y : Int) (hn : N256 n) (hx : N256 x) (hy : N256 y) (S : PQt) (hS : mulR n z x y = S) (w : World) : Calls Try.prog 11 #[.agg (num n), .agg (pt z x y)] w fun r w' => r = .returned (.agg (pt (zP S) (xP S) (yP S))) ∧ Chg w w' := by
 rw [← hS]
 unfold mulR
 cases h1 : onR z x y with
 | false => exact multQ_1 n z x y hn hx hy h1 w
 | true => exact multQ_2 n z x y hn hx hy h1 w
set_option maxHeartbeats 16000000 in
theorem multS_1 (n : Int) (z : Bool) (x y : Int) (hn : N256 n) (hx : N256 x) (hy : N256 y) (h1 : onR z x y = false) (w : World) : Calls Try.prog 12 #[.agg (num n), .agg (pt z x y)] w fun r w' => r = .returned (.agg (pt true 0 0)) ∧ Chg w w' := by
 have HN : Hid (N256 n ∧ N256 x ∧ N256 y) := ⟨hn, hx, hy⟩
 clear hn hx hy
 have H1 : Hid (onR z x y = false) := h1
 clear h1
 have hz0 := zeroPt.1
 have hsA0 := num_size n
 obtain ⟨A0, hA0⟩ : ∃ zz0, zz0 = num n := ⟨_, rfl⟩
 have HA0 : Hid (A0 = num n) := hA0
 have hsA1 := pt_size z x y
 obtain ⟨A1, hA1⟩ : ∃ zz0, zz0 = pt z x y := ⟨_, rfl⟩
 have HA1 : Hid (A1 = pt z x y) := hA1
 rw [← hA0] at hsA0 ⊢
 rw [← hA1] at hsA1 ⊢
 clear hA0 hA1
 go_enter Try.func12, Try.ntmps12
 go_upto_region 1 with fail
 obtain ⟨w1, hw1⟩ : ∃ w1, w1 = ((w.alloc (.cells A0 24)).alloc (.cells A1 26)).alloc (.cells (pt false 0 0) 26) := ⟨_, rfl⟩
 have Z1 : Hid (Chg w w1 ∧ Ar w1 w.heap.size (num n) ∧ Ar w1 (w.heap.size + 1) (pt z x y) ∧ Ar w1 (w.heap.size + 1 + 1) (pt false 0 0)) := by
  have hnew0 := Ar.new w (num n) 24
  have hnew1 := Ar.new (w.alloc (.cells (num n) 24)) (pt z x y) 26
  rw [World.size_alloc] at hnew1
  have hnew2 := Ar.new ((w.alloc (.cells (num n) 24)).alloc (.cells (pt z x y) 26)) (pt false 0 0) 26
  rw [World.size_alloc, World.size_alloc] at hnew2
  rw [hw1, HA0.out, HA1.out]
  exact ⟨((((Chg.refl w).alloc _).alloc _).alloc _), (((hnew0).alloc _).alloc _), ((hnew1).alloc _), (hnew2)⟩
 rw [← hw1]
 clear hw1 hz0 hsA0 hsA1 HA0 HA1
 go_cut [5] from 5 to 7 (fun v5 wc => v5 = .bool false ∧ Chg w wc ∧ Ar wc w.heap.size (num n) ∧ Ar wc (w.heap.size + 1) (pt z x y) ∧ Ar wc (w.heap.size + 1 + 1) (pt false 0 0))
 case first =>
  refine regP 3 (fun j v wg => match j with
   | 0 => v = .agg (pt z x y)
   | 1 => v = .bool false
   | 2 => v = .bool false
   | _ => True) (by decide) (by kernel_rfl) ?_ ?_ ?_
  ·intro j v u1 u2 h hc; exact h
  ·intro i o ac u hi ho hsz hf hg hc
   have hcs : i = 0 ∨ i = 1 ∨ i = 2 := by omega
   rcases hcs with rfl | rfl | rfl <;> (injection ho with ho; subst ho; refine .inl ⟨wanted_none rfl, ?_⟩)
   ·have e1 : ac.eval (.tmp 3) = .pointer (some ⟨w.heap.size + 1, 0, none⟩) := hf 3 (by kernel_rfl)
    exact wp_load_mid 26 (.tmp 3) rfl _ _ e1 ((pt z x y).toList) _ (rangeAp (Z1.out.2.2.1.chg hc)) Try.underlying26 rfl (infoPt _ _ _) ⟨_, rfl, rfl, Chg.refl _⟩
   ·have e1 : ac.eval (.tmp 6) = .agg (pt z x y) := hg 0 (by decide) (by decide)
    refine opG_go 14 Try.f14 #[.tmp 6] #[26] rfl Try.func14 (by kernel_rfl) (by kernel_rfl) (by simp [e1]) (Calls.mono (onSL_any (HN.out.2.1) (HN.out.2.2) H1.out _) ?_)
    rintro r u2 ⟨rfl, hc2⟩
    exact ⟨_, rfl, rfl, hc2⟩
   ·have e1 : ac.eval (.tmp 7) = .bool false := hg 1 (by decide) (by decide)
    exact opG_val (by simp [execOp, e1]) rfl (Chg.refl _)
  ·intro u V hV hc
   have q5 : V 2 = .bool false := hV 2 (by decide)
   go_wp2_with fail
   go_meet
   exact ⟨q5, (Z1.out.1.trans hc), (Z1.out.2.1.chg hc), (Z1.out.2.2.1.chg hc), (Z1.out.2.2.2.chg hc)⟩
 obtain ⟨rfl, hz⟩ := hcut
 obtain ⟨w2, hw2⟩ : ∃ zz0, zz0 = wc := ⟨_, rfl⟩
 rw [← hw2] at hz ⊢
 have Z2 : Hid _ := hz
 clear hw2 hz Z1
 go_upto_region 2 with fail
 go_cut [9] from 8 to 9 (fun v9 wc => v9 = .bool true ∧ Chg w wc ∧ Ar wc (w.heap.size + 1 + 1) (pt false 0 0))
 case first =>
  refine regP 2 (fun j v wg => match j with
   | 0 => v = .bool false
   | 1 => v = .bool true
   | _ => True) (by decide) (by kernel_rfl) ?_ ?_ ?_
  ·intro j v u1 u2 h hc; exact h
  ·intro i o ac u hi ho hsz hf hg hc
   have hcs : i = 0 ∨ i = 1 := by omega
   rcases hcs with rfl | rfl <;> (injection ho with ho; subst ho; refine .inl ⟨wanted_none rfl, ?_⟩)
   ·have e1 : ac.eval (.tmp 5) = .bool false := hf 5 (by kernel_rfl)
    exact opG_val (by simp [execOp, e1]) rfl (Chg.refl _)
   ·have e1 : ac.eval (.tmp 8) = .bool false := hg 0 (by decide) (by decide)
    exact opG_val (by revert e1; generalize ac.eval = ρ; intro e1; simp [go_sem, execOp, e1]) rfl (Chg.refl _)
  ·intro u V hV hc
   have q9 : V 1 = .bool true := hV 1 (by decide)
   go_wp2_with fail
   go_meet
   exact ⟨q9, (Z2.out.1.trans hc), (Z2.out.2.2.2.chg hc)⟩
 obtain ⟨rfl, hz⟩ := hcut
 obtain ⟨w3, hw3⟩ : ∃ zz0, zz0 = wc := ⟨_, rfl⟩
 rw [← hw3] at hz ⊢
 have Z3 : Hid _ := hz
 clear hw3 hz Z2
 go_upto_region 3 with fail
 go_cut [] from 10 to 10 (fun wc => Chg w wc ∧ Ar wc (w.heap.size + 1 + 1) (pt true 0 0))
 case first =>
  refine regP 1 (fun j v wg => match j with
   | 0 => v = .agg (pt true 0 0)
   | _ => True) (by decide) (by kernel_rfl) ?_ ?_ ?_
  ·intro j v u1 u2 h hc; exact h
  ·intro i o ac u hi ho hsz hf hg hc
   have hcs : i = 0 := by omega
   rcases hcs with rfl <;> (injection ho with ho; subst ho; refine .inl ⟨wanted_none rfl, ?_⟩)
   ·exact opG_built _ [(0, .bool true)] rfl (by kernel_rfl) builtPtZ rfl
  ·intro u V hV hc
   have q10 : V 0 = .agg (pt true 0 0) := hV 0 (by decide)
   have hres0 := (Z3.out.2.chg hc)
   refine wpList_store_mid rfl 26 (.tmp 4) (.tmp 10) rfl (w.heap.size + 1 + 1) 0 (pt true 0 0) (by rfl) (Eq.trans (by rfl) q10) (by rw [pt_size]; exact pt_there hres0) (szPt _ _ _) (pt_one _ _ _) ?_
   rw [setRowPt hres0 _ _ _]
   have k0_c : Chg w (u.setRow (w.heap.size + 1 + 1) (pt true 0 0)) := ((Z3.out.1.trans hc).setRow (by omega) _)
   have k0_B4 := hres0.row (pt true 0 0)
   generalize (u.setRow (w.heap.size + 1 + 1) (pt true 0 0)) = u10 at k0_c k0_B4 ⊢
   go_wp2_with fail
   go_meet
   exact ⟨k0_c, k0_B4⟩
 have hz := hcut
 obtain ⟨w4, hw4⟩ : ∃ zz0, zz0 = wc := ⟨_, rfl⟩
 rw [← hw4] at hz ⊢
 have Z4 : Hid _ := hz
 clear hw4 hz Z3
 go_wp2_with fail
 exact bp_Pt Try.results12 rfl rfl Z4.out.2 ⟨rfl, Z4.out.1⟩
set_option maxHeartbeats 16000000 in
theorem multS_2 (n : Int) (z : Bool) (x y : Int) (hn : N256 n) (hx : N256 x) (hy : N256 y) (h1 : onR z x y = true) (w : World) : Calls Try.prog 12 #[.agg (num n), .agg (pt z x y)] w fun r w' => r = .returned (.agg (pt (zP (MW (toP z x y) n.toNat)) (xP (MW (toP z x y) n.toNat)) (yP (MW (toP z x y) n.toNat)))) ∧ Chg w w' := by
 have HN : Hid (N256 n ∧ N256 x ∧ N256 y) := ⟨hn, hx, hy⟩
 clear hn hx hy
 have H1 : Hid (onR z x y = true) := h1
 clear h1
 have hz0 := zeroPt.1
 have hsA0 := num_size n
 obtain ⟨A0, hA0⟩ : ∃ zz0, zz0 = num n := ⟨_, rfl⟩
 have HA0 : Hid (A0 = num n) := hA0
 have hsA1 := pt_size z x y
 obtain ⟨A1, hA1⟩ : ∃ zz0, zz0 = pt z x y := ⟨_, rfl⟩
 have HA1 : Hid (A1 = pt z x y) := hA1
 rw [← hA0] at hsA0 ⊢
 rw [← hA1] at hsA1 ⊢
 clear hA0 hA1
 go_enter Try.func12, Try.ntmps12
 go_upto_region 1 with fail
 obtain ⟨w1, hw1⟩ : ∃ w1, w1 = ((w.alloc (.cells A0 24)).alloc (.cells A1 26)).alloc (.cells (pt false 0 0) 26) := ⟨_, rfl⟩
 have Z1 : Hid (Chg w w1 ∧ Ar w1 w.heap.size (num n) ∧ Ar w1 (w.heap.size + 1) (pt z x y) ∧ Ar w1 (w.heap.size + 1 + 1) (pt false 0 0)) := by
  have hnew0 := Ar.new w (num n) 24
  have hnew1 := Ar.new (w.alloc (.cells (num n) 24)) (pt z x y) 26
  rw [World.size_alloc] at hnew1
  have hnew2 := Ar.new ((w.alloc (.cells (num n) 24)).alloc (.cells (pt z x y) 26)) (pt false 0 0) 26
  rw [World.size_alloc, World.size_alloc] at hnew2
  rw [hw1, HA0.out, HA1.out]
  exact ⟨((((Chg.refl w).alloc _).alloc _).alloc _), (((hnew0).alloc _).alloc _), ((hnew1).alloc _), (hnew2)⟩
 rw [← hw1]
 clear hw1 hz0 hsA0 hsA1 HA0 HA1
 go_cut [5] from 5 to 7 (fun v5 wc => v5 = .bool true ∧ Chg w wc ∧ Ar wc w.heap.size (num n) ∧ Ar wc (w.heap.size + 1) (pt z x y) ∧ Ar wc (w.heap.size + 1 + 1) (pt false 0 0))
 case first =>
  refine regP 3 (fun j v wg => match j with
   | 0 => v = .agg (pt z x y)
   | 1 => v = .bool true
   | 2 => v = .bool true
   | _ => True) (by decide) (by kernel_rfl) ?_ ?_ ?_
  ·intro j v u1 u2 h hc; exact h
  ·intro i o ac u hi ho hsz hf hg hc
   have hcs : i = 0 ∨ i = 1 ∨ i = 2 := by omega
   rcases hcs with rfl | rfl | rfl <;> (injection ho with ho; subst ho; refine .inl ⟨wanted_none rfl, ?_⟩)
   ·have e1 : ac.eval (.tmp 3) = .pointer (some ⟨w.heap.size + 1, 0, none⟩) := hf 3 (by kernel_rfl)
    exact wp_load_mid 26 (.tmp 3) rfl _ _ e1 ((pt z x y).toList) _ (rangeAp (Z1.out.2.2.1.chg hc)) Try.underlying26 rfl (infoPt _ _ _) ⟨_, rfl, rfl, Chg.refl _⟩
   ·have e1 : ac.eval (.tmp 6) = .agg (pt z x y) := hg 0 (by decide) (by decide)
    refine opG_go 14 Try.f14 #[.tmp 6] #[26] rfl Try.func14 (by kernel_rfl) (by kernel_rfl) (by simp [e1]) (Calls.mono (onSL_any (HN.out.2.1) (HN.out.2.2) H1.out _) ?_)
    rintro r u2 ⟨rfl, hc2⟩
    exact ⟨_, rfl, rfl, hc2⟩
   ·have e1 : ac.eval (.tmp 7) = .bool true := hg 1 (by decide) (by decide)
    exact opG_val (by simp [execOp, e1]) rfl (Chg.refl _)
  ·intro u V hV hc
   have q5 : V 2 = .bool true := hV 2 (by decide)
   go_wp2_with fail
   go_meet
   exact ⟨q5, (Z1.out.1.trans hc), (Z1.out.2.1.chg hc), (Z1.out.2.2.1.chg hc), (Z1.out.2.2.2.chg hc)⟩
 obtain ⟨rfl, hz⟩ := hcut
 obtain ⟨w2, hw2⟩ : ∃ zz0, zz0 = wc := ⟨_, rfl⟩
 rw [← hw2] at hz ⊢
 have Z2 : Hid _ := hz
 clear hw2 hz Z1
 go_upto_region 2 with fail
 go_cut [9] from 8 to 9 (fun v9 wc => v9 = .bool false ∧ Chg w wc ∧ Ar wc w.heap.size (num n) ∧ Ar wc (w.heap.size + 1) (pt z x y) ∧ Ar wc (w.heap.size + 1 + 1) (pt false 0 0))
 case first =>
  refine regP 2 (fun j v wg => match j with
   | 0 => v = .bool true
   | 1 => v = .bool false
   | _ => True) (by decide) (by kernel_rfl) ?_ ?_ ?_
  ·intro j v u1 u2 h hc; exact h
  ·intro i o ac u hi ho hsz hf hg hc
   have hcs : i = 0 ∨ i = 1 := by omega
   rcases hcs with rfl | rfl <;> (injection ho with ho; subst ho; refine .inl ⟨wanted_none rfl, ?_⟩)
   ·have e1 : ac.eval (.tmp 5) = .bool true := hf 5 (by kernel_rfl)
    exact opG_val (by simp [execOp, e1]) rfl (Chg.refl _)
   ·have e1 : ac.eval (.tmp 8) = .bool true := hg 0 (by decide) (by decide)
    exact opG_val (by revert e1; generalize ac.eval = ρ; intro e1; simp [go_sem, execOp, e1]) rfl (Chg.refl _)
  ·intro u V hV hc
   have q9 : V 1 = .bool false := hV 1 (by decide)
   go_wp2_with fail
   go_meet
   exact ⟨q9, (Z2.out.1.trans hc), (Z2.out.2.1.chg hc), (Z2.out.2.2.1.chg hc), (Z2.out.2.2.2.chg hc)⟩
 obtain ⟨rfl, hz⟩ := hcut
 obtain ⟨w3, hw3⟩ : ∃ zz0, zz0 = wc := ⟨_, rfl⟩
 rw [← hw3] at hz ⊢
 have Z3 : Hid _ := hz
 clear hw3 hz Z2
 go_upto_region 4 with fail
 go_cut [] from 11 to 15 (fun wc => Chg w wc ∧ Ar wc (w.heap.size + 1 + 1) (pt (zP (MW (toP z x y) (n).toNat)) (xP (MW (toP z x y) (n).toNat)) (yP (MW (toP z x y) (n).toNat))))
 case first =>
  refine regM 5 (fun j => false) (fun j v wg => match j with
   | 0 => v = .agg (num n)
   | 1 => v = .agg (pt z x y)
   | 2 => ∃ xa ya za, v = .agg (q3 xa ya za) ∧ JQ xa ya za (toP z x y)
   | 3 => ∃ xa ya za, v = .agg (q3 xa ya za) ∧ JQ xa ya za (MW (toP z x y) (n).toNat)
   | 4 => v = .agg (pt (zP (MW (toP z x y) (n).toNat)) (xP (MW (toP z x y) (n).toNat)) (yP (MW (toP z x y) (n).toNat)))
   | _ => True) (by kernel_rfl) (by decide) (by kernel_rfl) (by kernel_rfl) (by kernel_rfl) (by kernel_rfl) ?_ ?_ ?_ ?_
  ·intro j v u1 u2 h hc; exact h
  ·intro j v u hj ha h
   cases ha
  ·intro i o ac u hi ho hsz hf hg hc
   have hcs : i = 0 ∨ i = 1 ∨ i = 2 ∨ i = 3 ∨ i = 4 := by omega
   rcases hcs with rfl | rfl | rfl | rfl | rfl <;> (injection ho with ho; subst ho; refine ⟨wanted_none rfl, ?_⟩)
   ·exact ldN rfl (hf 2 (by kernel_rfl)) (rangeAp (Z3.out.2.1.chg hc)) ⟨rfl, fun h => by cases h⟩
   ·have e1 : ac.eval (.tmp 3) = .pointer (some ⟨w.heap.size + 1, 0, none⟩) := hf 3 (by kernel_rfl)
    exact wp_load_mid 26 (.tmp 3) rfl _ _ e1 ((pt z x y).toList) _ (rangeAp (Z3.out.2.2.1.chg hc)) Try.underlying26 rfl (infoPt _ _ _) ⟨_, rfl, ⟨rfl, fun h => by cases h⟩, Chg.refl _⟩
   ·have e1 : ac.eval (.tmp 12) = .agg (pt z x y) := hg 1 (by kernel_rfl) (by decide)
    refine opG_go 30 Try.f30 #[.tmp 12] #[26] rfl Try.func30 (by kernel_rfl) (by kernel_rfl) (by simp [e1]) (Calls.mono (ofS_any _ _ _ (HN.out.2.1) (HN.out.2.2) H1.out _) ?_)
    rintro r u2 ⟨x13, y13, z13, rfl, m13, hc2⟩
    exact ⟨_, rfl, ⟨⟨x13, y13, z13, rfl, m13⟩, fun h => by cases h⟩, hc2⟩
   ·have e1 : ac.eval (.tmp 11) = .agg (num n) := hg 0 (by kernel_rfl) (by decide)
    obtain ⟨x13, y13, z13, e20, m13⟩ := hg 2 (by kernel_rfl) (by decide)
    have e2 : ac.eval (.tmp 13) = .agg (q3 x13 y13 z13) := e20
    refine opG_go 32 Try.f32 #[.tmp 11, .tmp 13] #[24, 54] rfl Try.func32 (by kernel_rfl) (by kernel_rfl) (by simp [e1, e2]) (Calls.mono (manyS_any _ _ _ _ _ (HN.out.1) m13 _) ?_)
    rintro r u2 ⟨x14, y14, z14, rfl, m14, hc2⟩
    exact ⟨_, rfl, ⟨⟨x14, y14, z14, rfl, m14⟩, fun h => by cases h⟩, hc2⟩
   ·obtain ⟨x14, y14, z14, e10, m14⟩ := hg 3 (by kernel_rfl) (by decide)
    have e1 : ac.eval (.tmp 14) = .agg (q3 x14 y14 z14) := e10
    refine opG_go 28 Try.f28 #[.tmp 14] #[54] rfl Try.func28 (by kernel_rfl) (by kernel_rfl) (by simp [e1]) (Calls.mono (backS_any _ _ _ _ m14 _) ?_)
    rintro r u2 ⟨rfl, hc2⟩
    exact ⟨_, rfl, ⟨rfl, fun h => by cases h⟩, hc2⟩
  ·intro u V hV hap hc
   obtain ⟨x13, y13, z13, q13, m13⟩ := hV 2 (by decide)
   obtain ⟨x14, y14, z14, q14, m14⟩ := hV 3 (by decide)
   have q15 : V 4 = .agg (pt (zP (MW (toP z x y) (n).toNat)) (xP (MW (toP z x y) (n).toNat)) (yP (MW (toP z x y) (n).toNat))) := hV 4 (by decide)
   have hres0 := (Z3.out.2.2.2.chg hc)
   refine tail_cons rfl rfl ?_
   refine wp_store_mid 26 (.tmp 4) (.tmp 15) rfl (w.heap.size + 1 + 1) 0 (pt (zP (MW (toP z x y) (n).toNat)) (xP (MW (toP z x y) (n).toNat)) (yP (MW (toP z x y) (n).toNat))) (by rfl) (Eq.trans (by rfl) q15) (by rw [pt_size]; exact pt_there hres0) (szPt _ _ _) (pt_one _ _ _) ?_
   rw [setRowPt hres0 _ _ _]
   have k0_c : Chg w (u.setRow (w.heap.size + 1 + 1) (pt (zP (MW (toP z x y) (n).toNat)) (xP (MW (toP z x y) (n).toNat)) (yP (MW (toP z x y) (n).toNat)))) := ((Z3.out.1.trans hc).setRow (by omega) _)
   have k0_B4 := hres0.row (pt (zP (MW (toP z x y) (n).toNat)) (xP (MW (toP z x y) (n).toNat)) (yP (MW (toP z x y) (n).toNat)))
   generalize (u.setRow (w.heap.size + 1 + 1) (pt (zP (MW (toP z x y) (n).toNat)) (xP (MW (toP z x y) (n).toNat)) (yP (MW (toP z x y) (n).toNat)))) = u10 at k0_c k0_B4 ⊢
   refine tail_nil rfl ?_
   go_wp2_with fail
   go_meet
   exact ⟨k0_c, k0_B4⟩
 have hz := hcut
 obtain ⟨w4, hw4⟩ : ∃ zz0, zz0 = wc := ⟨_, rfl⟩
 rw [← hw4] at hz ⊢
 have Z4 : Hid _ := hz
 clear hw4 hz Z3
 go_wp2_with fail
 exact bp_Pt Try.results12 rfl rfl Z4.out.2 ⟨rfl, Z4.out.1⟩
theorem multS_any (n : Int) (z : Bool) (x y : Int) (hn : N256 n) (hx : N256 x) (hy : N256 y) (S : PQt) (hS : mulR n z x y = S) (w : World) : Calls Try.prog 12 #[.agg (num n), .agg (pt z x y)] w fun r w' => r = .returned (.agg (pt (zP S) (xP S) (yP S))) ∧ Chg w w' := by
 rw [← hS]
 unfold mulR
 cases h1 : onR z x y with
 | false => exact multS_1 n z x y hn hx hy h1 w
 | true => exact multS_2 n z x y hn hx hy h1 w
theorem on_gR : onR false gX gY = true := by decide +kernel
theorem toP_g : toP false gX gY = GW := rfl
theorem mulR_g (n : Int) : mulR n false gX gY = MW GW n.toNat := by unfold mulR; rw [on_gR]; rfl
set_option maxHeartbeats 16000000 in
theorem pointS_any (n : Int) (hn : N256 n) (w : World) : Calls Try.prog 17 #[.agg (num n)] w fun r w' => r = .returned (.agg (pt (zP (MW GW n.toNat)) (xP (MW GW n.toNat)) (yP (MW GW n.toNat)))) ∧ Chg w w' := by
 have HN : Hid (N256 n) := hn
 clear hn
 have hz0 := zeroPt.1
 have hsA0 := num_size n
 obtain ⟨A0, hA0⟩ : ∃ zz0, zz0 = num n := ⟨_, rfl⟩
 have HA0 : Hid (A0 = num n) := hA0
 rw [← hA0] at hsA0 ⊢
 clear hA0
 go_enter Try.func17, Try.ntmps17
 go_upto_region 1 with fail
 obtain ⟨w1, hw1⟩ : ∃ w1, w1 = (w.alloc (.cells A0 24)).alloc (.cells (pt false 0 0) 26) := ⟨_, rfl⟩
 have Z1 : Hid (Chg w w1 ∧ Ar w1 w.heap.size (num n) ∧ Ar w1 (w.heap.size + 1) (pt false 0 0)) := by
  have hnew0 := Ar.new w (num n) 24
  have hnew1 := Ar.new (w.alloc (.cells (num n) 24)) (pt false 0 0) 26
  rw [World.size_alloc] at hnew1
  rw [hw1, HA0.out]
  exact ⟨(((Chg.refl w).alloc _).alloc _), ((hnew0).alloc _), (hnew1)⟩
 rw [← hw1]
 clear hw1 hz0 hsA0 HA0
 go_cut [] from 3 to 5 (fun wc => Chg w wc ∧ Ar wc (w.heap.size + 1) (pt (zP (MW GW n.toNat)) (xP (MW GW n.toNat)) (yP (MW GW n.toNat))))
 case first =>
  refine regM 3 (fun j => false) (fun j v wg => match j with
   | 0 => v = .agg (num n)
   | 1 => v = .agg (pt false gX gY)
   | 2 => v = .agg (pt (zP (MW GW n.toNat)) (xP (MW GW n.toNat)) (yP (MW GW n.toNat)))
   | _ => True) (by kernel_rfl) (by decide) (by kernel_rfl) (by kernel_rfl) (by kernel_rfl) (by kernel_rfl) ?_ ?_ ?_ ?_
  ·intro j v u1 u2 h hc; exact h
  ·intro j v u hj ha h
   cases ha
  ·intro i o ac u hi ho hsz hf hg hc
   have hcs : i = 0 ∨ i = 1 ∨ i = 2 := by omega
   rcases hcs with rfl | rfl | rfl <;> (injection ho with ho; subst ho; refine ⟨wanted_none rfl, ?_⟩)
   ·exact ldN rfl (hf 1 (by kernel_rfl)) (rangeAp (Z1.out.2.1.chg hc)) ⟨rfl, fun h => by cases h⟩
   ·refine opG_go 16 Try.f16 #[] #[] rfl Try.func16 (by kernel_rfl) (by kernel_rfl) (by simp []) (Calls.mono (baseS_any _) ?_)
    rintro r u2 ⟨rfl, hc2⟩
    exact ⟨_, rfl, ⟨rfl, fun h => by cases h⟩, hc2⟩
   ·have e1 : ac.eval (.tmp 3) = .agg (num n) := hg 0 (by kernel_rfl) (by decide)
    have e2 : ac.eval (.tmp 4) = .agg (pt false gX gY) := hg 1 (by kernel_rfl) (by decide)
    refine opG_go 12 Try.f12 #[.tmp 3, .tmp 4] #[24, 26] rfl Try.func12 (by kernel_rfl) (by kernel_rfl) (by simp [e1, e2]) (Calls.mono (multS_any _ _ _ _ HN.out N_gX N_gY _ (mulR_g _) _) ?_)
    rintro r u2 ⟨rfl, hc2⟩
    exact ⟨_, rfl, ⟨rfl, fun h => by cases h⟩, hc2⟩
  ·intro u V hV hap hc
   have q5 : V 2 = .agg (pt (zP (MW GW n.toNat)) (xP (MW GW n.toNat)) (yP (MW GW n.toNat))) := hV 2 (by decide)
   have hres0 := (Z1.out.2.2.chg hc)
   refine tail_cons rfl rfl ?_
   refine wp_store_mid 26 (.tmp 2) (.tmp 5) rfl (w.heap.size + 1) 0 (pt (zP (MW GW n.toNat)) (xP (MW GW n.toNat)) (yP (MW GW n.toNat))) (by rfl) (Eq.trans (by rfl) q5) (by rw [pt_size]; exact pt_there hres0) (szPt _ _ _) (pt_one _ _ _) ?_
   rw [setRowPt hres0 _ _ _]
   have k0_c : Chg w (u.setRow (w.heap.size + 1) (pt (zP (MW GW n.toNat)) (xP (MW GW n.toNat)) (yP (MW GW n.toNat)))) := ((Z1.out.1.trans hc).setRow (by omega) _)
   have k0_B2 := hres0.row (pt (zP (MW GW n.toNat)) (xP (MW GW n.toNat)) (yP (MW GW n.toNat)))
   generalize (u.setRow (w.heap.size + 1) (pt (zP (MW GW n.toNat)) (xP (MW GW n.toNat)) (yP (MW GW n.toNat)))) = u10 at k0_c k0_B2 ⊢
   refine tail_nil rfl ?_
   go_wp2_with fail
   go_meet
   exact ⟨k0_c, k0_B2⟩
 have hz := hcut
 obtain ⟨w2, hw2⟩ : ∃ zz0, zz0 = wc := ⟨_, rfl⟩
 rw [← hw2] at hz ⊢
 have Z2 : Hid _ := hz
 clear hw2 hz Z1
 go_wp2_with fail
 exact bp_Pt Try.results17 rfl rfl Z2.out.2 ⟨rfl, Z2.out.1⟩
end Go.Proofs.Ytbdgmkejmfjobaa
