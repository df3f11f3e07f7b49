/-
  PcurveAdds walked.
-/
import Derived.Test.YtbdgmkejmfjobaaFs
namespace Go.Proofs.Ytbdgmkejmfjobaa
open Go.RowKit
set_option linter.unusedVariables false
set_option maxRecDepth 100000
set_option maxHeartbeats 16000000 in
theorem adds_walk (k l h : Int) (hk : N256 k) (hl : N256 l) (h0 : 0 ≤ h) (h1 : h < 256) (w : World) : Calls Try.prog 4 #[.agg (num k), .agg (num l), .int .u8 h] w fun r w' => r = .returned (.bool true) ∧ Chg w w' := by
 have HN : Hid (N256 k ∧ N256 l) := ⟨hk, hl⟩
 obtain ⟨A, hA⟩ : ∃ A, MW GW k.toNat = A := ⟨_, rfl⟩
 obtain ⟨B, hB⟩ : ∃ B, MW GW l.toNat = B := ⟨_, rfl⟩
 have oA : ONW A := by rw [← hA]; exact on_G.mu _
 have oB : ONW B := by rw [← hB]; exact on_G.mu _
 have HO : Hid (ONW A ∧ ONW B) := ⟨oA, oB⟩
 have HA : Hid (MW GW k.toNat = A) := hA
 have HB : Hid (MW GW l.toNat = B) := hB
 obtain ⟨hv, hh⟩ : ∃ hv, bits .and .u8 h 3 = hv := ⟨_, rfl⟩
 have HV : Hid (hv = 0 ∨ hv = 1 ∨ hv = 2 ∨ hv = 3) := by
  obtain ⟨m, rfl⟩ := Int.eq_ofNat_of_zero_le h0
  rw [← hh]
  exact (by decide +kernel : ∀ m : Nat, m < 256 → bits .and .u8 (m : Int) 3 = 0 ∨ bits .and .u8 (m : Int) 3 = 1 ∨ bits .and .u8 (m : Int) 3 = 2 ∨ bits .and .u8 (m : Int) 3 = 3) m (by omega)
 obtain ⟨bz, hbz⟩ : ∃ bz, zP A = bz := ⟨_, rfl⟩
 have HZ : Hid (zP A = bz) := hbz
 clear hk hl hA hB oA oB h0 h1 hbz
 have hsA0 := num_size k
 obtain ⟨A0, hA0⟩ : ∃ zz0, zz0 = num k := ⟨_, rfl⟩
 have HA0 : Hid (A0 = num k) := hA0
 have hsA1 := num_size l
 obtain ⟨A1, hA1⟩ : ∃ zz0, zz0 = num l := ⟨_, rfl⟩
 have HA1 : Hid (A1 = num l) := hA1
 rw [← hA0] at hsA0 ⊢
 rw [← hA1] at hsA1 ⊢
 clear hA0 hA1
 go_enter Try.func4, Try.ntmps4
 go_upto_region 1 with fail
 obtain ⟨w1, hw1⟩ : ∃ w1, w1 = (w.alloc (.cells A0 24)).alloc (.cells A1 24) := ⟨_, rfl⟩
 have Z1 : Hid (Chg w w1 ∧ Ar w1 w.heap.size (num k) ∧ Ar w1 (w.heap.size + 1) (num l)) := by
  have hnew0 := Ar.new w (num k) 24
  have hnew1 := Ar.new (w.alloc (.cells (num k) 24)) (num l) 24
  rw [World.size_alloc] at hnew1
  rw [hw1, HA0.out, HA1.out]
  exact ⟨(((Chg.refl w).alloc _).alloc _), ((hnew0).alloc _), (hnew1)⟩
 rw [← hw1]
 clear hw1 hsA0 hsA1 HA0 HA1
 go_cut [7] from 7 to 10 (fun v7 wc => v7 = .bool true ∧ Chg w wc ∧ Ar wc w.heap.size (num k) ∧ Ar wc (w.heap.size + 1) (num l))
 case first =>
  refine regP 2 (fun j v wg => match j with
   | 0 => v = .bool true
   | 1 => v = .bool true
   | _ => True) (by decide) (by kernel_rfl) ?_ ?_ ?_
  ·intro j v u1 u2 h hc; exact h
  ·intro i o ac u hi ho hsz hf hg hc
   have hcs : i = 0 ∨ i = 1 := by omega
   rcases hcs with rfl | rfl <;> (injection ho with ho; subst ho; refine .inl ⟨wanted_none rfl, ?_⟩)
   ·refine opG_go 8 Try.f8 #[] #[] rfl Try.func8 (by kernel_rfl) (by kernel_rfl) (by simp []) (Calls.mono (headQ_any _) ?_)
    rintro r u2 ⟨rfl, hc2⟩
    exact ⟨_, rfl, rfl, hc2⟩
   ·have e1 : ac.eval (.tmp 10) = .bool true := hg 0 (by decide) (by decide)
    exact opG_val (by simp [execOp, e1]) rfl (Chg.refl _)
  ·intro u V hV hc
   have q7 : V 1 = .bool true := hV 1 (by decide)
   go_wp2_with fail
   go_meet
   exact ⟨q7, (Z1.out.1.trans hc), (Z1.out.2.1.chg hc), (Z1.out.2.2.chg hc)⟩
 obtain ⟨rfl, hz⟩ := hcut
 obtain ⟨w2, hw2⟩ : ∃ zz0, zz0 = wc := ⟨_, rfl⟩
 rw [← hw2] at hz ⊢
 have Z2 : Hid _ := hz
 clear hw2 hz Z1
 go_upto_region 2 with fail
 go_cut [8] from 8 to 12 (fun v8 wc => ∃ b8, v8 = .pointer (some ⟨b8, 0, none⟩) ∧ Chg w wc ∧ Ar wc (w.heap.size + 1) (num l) ∧ Ar wc b8 (pt (zP A) (xP A) (yP A)))
 case first =>
  refine regP 3 (fun j v wg => match j with
   | 0 => v = .agg (num k)
   | 1 => v = .agg (pt (zP A) (xP A) (yP A))
   | 2 => ∃ b, v = .pointer (some ⟨b, 0, none⟩) ∧ Ar wg b (pt false 0 0) ∧ w2.heap.size ≤ b
   | _ => True) (by decide) (by kernel_rfl) ?_ ?_ ?_
  ·intro j v u1 u2 h hc
   match j, h with
   | 0, h => exact h
   | 1, h => exact h
   | 2, h => (obtain ⟨b, h1, h2, h3⟩ := h; exact ⟨b, h1, h2.chg hc, h3⟩)
   | _ + 3, h => exact trivial
  ·intro i o ac u hi ho hsz hf hg hc
   have hcs : i = 0 ∨ i = 1 ∨ i = 2 := by omega
   rcases hcs with rfl | rfl | rfl <;> (injection ho with ho; subst ho; refine .inl ⟨wanted_none rfl, ?_⟩)
   ·exact ldN rfl (hf 3 (by kernel_rfl)) (rangeAp (Z2.out.2.1.chg hc)) rfl
   ·have e1 : ac.eval (.tmp 11) = .agg (num k) := hg 0 (by decide) (by decide)
    refine opG_go 17 Try.f17 #[.tmp 11] #[24] rfl Try.func17 (by kernel_rfl) (by kernel_rfl) (by simp [e1]) (Calls.mono ((pointS_any _ (HN.out.1) _).mono (fun r w' hq => by rw [HA.out] at hq; exact hq)) ?_)
    rintro r u2 ⟨rfl, hc2⟩
    exact ⟨_, rfl, rfl, hc2⟩
   ·exact opG_val (v := .pointer (some ⟨u.heap.size, 0, none⟩)) (w' := u.alloc (.cells (pt false 0 0) 26)) (by generalize ac.eval = ρ; simp [go_sem, execOp, zeroPt.1]) ⟨_, rfl, Ar.new _ _ _, hc.size⟩ ((Chg.refl _).alloc _)
  ·intro u V hV hc
   have q12 : V 1 = .agg (pt (zP A) (xP A) (yP A)) := hV 1 (by decide)
   obtain ⟨b8, q8, r8, s8⟩ := hV 2 (by decide)
   have lw8 : w.heap.size ≤ b8 := Nat.le_trans Z2.out.1.size s8
   have hres0 := r8
   refine wpList_store_mid rfl 26 (.tmp 8) (.tmp 12) rfl b8 0 (pt (zP A) (xP A) (yP A)) (Eq.trans (by rfl) q8) (Eq.trans (by rfl) q12) (by rw [pt_size]; exact pt_there hres0) (szPt _ _ _) (pt_one _ _ _) ?_
   rw [setRowPt hres0 _ _ _]
   have k0_c : Chg w (u.setRow b8 (pt (zP A) (xP A) (yP A))) := ((Z2.out.1.trans hc).setRow lw8 _)
   have k0_B4 := (Z2.out.2.2.chg hc).rowOther (Z2.out.2.2.apart s8) (pt (zP A) (xP A) (yP A))
   have k0_B8 := hres0.row (pt (zP A) (xP A) (yP A))
   generalize (u.setRow b8 (pt (zP A) (xP A) (yP A))) = u10 at k0_c k0_B4 k0_B8 ⊢
   go_wp2_with fail
   go_meet
   exact ⟨b8, q8, k0_c, k0_B4, k0_B8⟩
 obtain ⟨b8, rfl, hz⟩ := hcut
 obtain ⟨w3, hw3⟩ : ∃ zz0, zz0 = wc := ⟨_, rfl⟩
 rw [← hw3] at hz ⊢
 have Z3 : Hid _ := hz
 clear hw3 hz Z2
 go_upto_region 3 with fail
 go_cut [9] from 9 to 14 (fun v9 wc => ∃ b9, v9 = .pointer (some ⟨b9, 0, none⟩) ∧ b8 ≠ b9 ∧ w.heap.size ≤ b9 ∧ Chg w wc ∧ Ar wc b8 (pt (zP A) (xP A) (yP A)) ∧ Ar wc b9 (pt (zP B) (xP B) (yP B)))
 case first =>
  refine regP 3 (fun j v wg => match j with
   | 0 => v = .agg (num l)
   | 1 => v = .agg (pt (zP B) (xP B) (yP B))
   | 2 => ∃ b, v = .pointer (some ⟨b, 0, none⟩) ∧ Ar wg b (pt false 0 0) ∧ w3.heap.size ≤ b
   | _ => True) (by decide) (by kernel_rfl) ?_ ?_ ?_
  ·intro j v u1 u2 h hc
   match j, h with
   | 0, h => exact h
   | 1, h => exact h
   | 2, h => (obtain ⟨b, h1, h2, h3⟩ := h; exact ⟨b, h1, h2.chg hc, h3⟩)
   | _ + 3, h => exact trivial
  ·intro i o ac u hi ho hsz hf hg hc
   have hcs : i = 0 ∨ i = 1 ∨ i = 2 := by omega
   rcases hcs with rfl | rfl | rfl <;> (injection ho with ho; subst ho; refine .inl ⟨wanted_none rfl, ?_⟩)
   ·exact ldN rfl (hf 4 (by kernel_rfl)) (rangeAp (Z3.out.2.1.chg hc)) rfl
   ·have e1 : ac.eval (.tmp 13) = .agg (num l) := hg 0 (by decide) (by decide)
    refine opG_go 17 Try.f17 #[.tmp 13] #[24] rfl Try.func17 (by kernel_rfl) (by kernel_rfl) (by simp [e1]) (Calls.mono ((pointS_any _ (HN.out.2) _).mono (fun r w' hq => by rw [HB.out] at hq; exact hq)) ?_)
    rintro r u2 ⟨rfl, hc2⟩
    exact ⟨_, rfl, rfl, hc2⟩
   ·exact opG_val (v := .pointer (some ⟨u.heap.size, 0, none⟩)) (w' := u.alloc (.cells (pt false 0 0) 26)) (by generalize ac.eval = ρ; simp [go_sem, execOp, zeroPt.1]) ⟨_, rfl, Ar.new _ _ _, hc.size⟩ ((Chg.refl _).alloc _)
  ·intro u V hV hc
   have q14 : V 1 = .agg (pt (zP B) (xP B) (yP B)) := hV 1 (by decide)
   obtain ⟨b9, q9, r9, s9⟩ := hV 2 (by decide)
   have lw9 : w.heap.size ≤ b9 := Nat.le_trans Z3.out.1.size s9
   have hres0 := r9
   refine wpList_store_mid rfl 26 (.tmp 9) (.tmp 14) rfl b9 0 (pt (zP B) (xP B) (yP B)) (Eq.trans (by rfl) q9) (Eq.trans (by rfl) q14) (by rw [pt_size]; exact pt_there hres0) (szPt _ _ _) (pt_one _ _ _) ?_
   rw [setRowPt hres0 _ _ _]
   have k0_c : Chg w (u.setRow b9 (pt (zP B) (xP B) (yP B))) := ((Z3.out.1.trans hc).setRow lw9 _)
   have k0_B8 := (Z3.out.2.2.chg hc).rowOther (Z3.out.2.2.apart s9) (pt (zP B) (xP B) (yP B))
   have k0_B9 := hres0.row (pt (zP B) (xP B) (yP B))
   generalize (u.setRow b9 (pt (zP B) (xP B) (yP B))) = u10 at k0_c k0_B8 k0_B9 ⊢
   go_wp2_with fail
   go_meet
   exact ⟨b9, q9, Z3.out.2.2.apart s9, lw9, k0_c, k0_B8, k0_B9⟩
 obtain ⟨b9, rfl, of0, of1, hz⟩ := hcut
 obtain ⟨w4, hw4⟩ : ∃ zz0, zz0 = wc := ⟨_, rfl⟩
 rw [← hw4] at hz ⊢
 have Z4 : Hid _ := hz
 have O4_0 : Hid _ := of0
 have O4_1 : Hid _ := of1
 clear hw4 hz of0 of1 Z3
 go_upto_block 0 with fail
 go_cut [] from 17 to 32 (fun wc => ∃ X, ONW X ∧ Chg w wc ∧ Ar wc b8 (pt (zP A) (xP A) (yP A)) ∧ Ar wc b9 (pt (zP X) (xP X) (yP X)))
 case first =>
  rcases HV.out with rfl | rfl | rfl | rfl
  ·go_wp2_with fail
   go_meet
   exact ⟨B, HO.out.2, Z4.out⟩
  ·skip
   go_upto_region 6 with fail
   refine regP 1 (fun j v wg => match j with
    | 0 => v = .agg (pt (zP A) (xP A) (yP A))
    | _ => True) (by decide) (by kernel_rfl) ?_ ?_ ?_
   ·intro j v u1 u2 h hc; exact h
   ·intro i o ac u hi ho hsz hf hg hc
    have hcs : i = 0 := by omega
    rcases hcs with rfl <;> (injection ho with ho; subst ho; refine .inl ⟨wanted_none rfl, ?_⟩)
    ·have e1 : ac.eval (.tmp 8) = .pointer (some ⟨b8, 0, none⟩) := hf 8 (by kernel_rfl)
     exact wp_load_mid 26 (.tmp 8) rfl _ _ e1 ((pt (zP A) (xP A) (yP A)).toList) _ (rangeAp (Z4.out.2.1.chg hc)) Try.underlying26 rfl (infoPt _ _ _) ⟨_, rfl, rfl, Chg.refl _⟩
   ·intro u V hV hc
    have q19 : V 0 = .agg (pt (zP A) (xP A) (yP A)) := hV 0 (by decide)
    have ordO4_0 := O4_0.out
    have ordO4_1 := O4_1.out
    have hres0 := (Z4.out.2.2.chg hc)
    refine wpList_store_mid rfl 26 (.tmp 9) (.tmp 19) rfl b9 0 (pt (zP A) (xP A) (yP A)) (by rfl) (Eq.trans (by rfl) q19) (by rw [pt_size]; exact pt_there hres0) (szPt _ _ _) (pt_one _ _ _) ?_
    rw [setRowPt hres0 _ _ _]
    have k0_c : Chg w (u.setRow b9 (pt (zP A) (xP A) (yP A))) := ((Z4.out.1.trans hc).setRow (by omega) _)
    have k0_B8 := (Z4.out.2.1.chg hc).rowOther (by omega) (pt (zP A) (xP A) (yP A))
    have k0_B9 := hres0.row (pt (zP A) (xP A) (yP A))
    generalize (u.setRow b9 (pt (zP A) (xP A) (yP A))) = u10 at k0_c k0_B8 k0_B9 ⊢
    go_wp2_with fail
    go_meet
    exact ⟨A, HO.out.1, k0_c, k0_B8, k0_B9⟩
  ·cases bz
   case false =>
    go_upto_region 8 with fail
    go_cut [] from 22 to 22 (fun wc => Chg w wc ∧ Ar wc b8 (pt (zP A) (xP A) (yP A)) ∧ Ar wc b9 (pt (zP A) (xP A) (yP A)))
    case first =>
     refine regP 1 (fun j v wg => match j with
      | 0 => v = .agg (pt (zP A) (xP A) (yP A))
      | _ => True) (by decide) (by kernel_rfl) ?_ ?_ ?_
     ·intro j v u1 u2 h hc; exact h
     ·intro i o ac u hi ho hsz hf hg hc
      have hcs : i = 0 := by omega
      rcases hcs with rfl <;> (injection ho with ho; subst ho; refine .inl ⟨wanted_none rfl, ?_⟩)
      ·have e1 : ac.eval (.tmp 8) = .pointer (some ⟨b8, 0, none⟩) := hf 8 (by kernel_rfl)
       exact wp_load_mid 26 (.tmp 8) rfl _ _ e1 ((pt (zP A) (xP A) (yP A)).toList) _ (rangeAp (Z4.out.2.1.chg hc)) Try.underlying26 rfl (infoPt _ _ _) ⟨_, rfl, rfl, Chg.refl _⟩
     ·intro u V hV hc
      have q22 : V 0 = .agg (pt (zP A) (xP A) (yP A)) := hV 0 (by decide)
      have ordO4_0 := O4_0.out
      have ordO4_1 := O4_1.out
      have hres0 := (Z4.out.2.2.chg hc)
      refine wpList_store_mid rfl 26 (.tmp 9) (.tmp 22) rfl b9 0 (pt (zP A) (xP A) (yP A)) (by rfl) (Eq.trans (by rfl) q22) (by rw [pt_size]; exact pt_there hres0) (szPt _ _ _) (pt_one _ _ _) ?_
      rw [setRowPt hres0 _ _ _]
      have k0_c : Chg w (u.setRow b9 (pt (zP A) (xP A) (yP A))) := ((Z4.out.1.trans hc).setRow (by omega) _)
      have k0_B8 := (Z4.out.2.1.chg hc).rowOther (by omega) (pt (zP A) (xP A) (yP A))
      have k0_B9 := hres0.row (pt (zP A) (xP A) (yP A))
      generalize (u.setRow b9 (pt (zP A) (xP A) (yP A))) = u10 at k0_c k0_B8 k0_B9 ⊢
      go_wp2_with fail
      go_meet
      exact ⟨k0_c, k0_B8, k0_B9⟩
    have hz := hcut
    obtain ⟨w5, hw5⟩ : ∃ zz0, zz0 = wc := ⟨_, rfl⟩
    rw [← hw5] at hz ⊢
    have Z5 : Hid _ := hz
    clear hw5 hz Z4
    go_upto_region 9 with fail
    go_cut [25] from 23 to 25 (fun v25 wc => v25 = .bool true ∧ Chg w wc ∧ Ar wc b8 (pt (zP A) (xP A) (yP A)) ∧ Ar wc b9 (pt (zP A) (xP A) (yP A)))
    case first =>
     refine regP 3 (fun j v wg => match j with
      | 0 => v = .pointer (some ⟨b9, 0, none⟩)
      | 1 => v = .bool false
      | 2 => v = .bool true
      | _ => True) (by decide) (by kernel_rfl) ?_ ?_ ?_
     ·intro j v u1 u2 h hc; exact h
     ·intro i o ac u hi ho hsz hf hg hc
      have hcs : i = 0 ∨ i = 1 ∨ i = 2 := by omega
      rcases hcs with rfl | rfl | rfl <;> (injection ho with ho; subst ho; refine .inl ⟨wanted_none rfl, ?_⟩)
      ·have e1 : ac.eval (.tmp 9) = .pointer (some ⟨b9, 0, none⟩) := hf 9 (by kernel_rfl)
       exact opG_val (by revert e1; generalize ac.eval = ρ; intro e1; simp [go_sem, execOp, e1]) rfl (Chg.refl _)
      ·have e1 : ac.eval (.tmp 23) = .pointer (some ⟨b9, 0, none⟩) := hg 0 (by decide) (by decide)
       have c1 := cellPtZ (Z5.out.2.2.chg hc)
       exact opG_val (by revert e1; generalize ac.eval = ρ; intro e1; simp [go_sem, execOp, e1, c1, HZ.out]) rfl (Chg.refl _)
      ·have e1 : ac.eval (.tmp 24) = .bool false := hg 1 (by decide) (by decide)
       exact opG_val (by revert e1; generalize ac.eval = ρ; intro e1; simp [go_sem, execOp, e1]) rfl (Chg.refl _)
     ·intro u V hV hc
      have q25 : V 2 = .bool true := hV 2 (by decide)
      go_wp2_with fail
      go_meet
      exact ⟨q25, (Z5.out.1.trans hc), (Z5.out.2.1.chg hc), (Z5.out.2.2.chg hc)⟩
    obtain ⟨rfl, hz⟩ := hcut
    obtain ⟨w6, hw6⟩ : ∃ zz0, zz0 = wc := ⟨_, rfl⟩
    rw [← hw6] at hz ⊢
    have Z6 : Hid _ := hz
    clear hw6 hz Z5
    have HY : Hid _ := NG_y HZ.out
    go_upto_region 10 with fail
    refine regP 4 (fun j v wg => match j with
     | 0 => v = .pointer (some ⟨b9, 5, none⟩)
     | 1 => v = .agg (num (yP A))
     | 2 => v = .agg (num (md 2 (0 - (yP A))))
     | 3 => v = .pointer (some ⟨b9, 5, none⟩)
     | _ => True) (by decide) (by kernel_rfl) ?_ ?_ ?_
    ·intro j v u1 u2 h hc; exact h
    ·intro i o ac u hi ho hsz hf hg hc
     have hcs : i = 0 ∨ i = 1 ∨ i = 2 ∨ i = 3 := by omega
     rcases hcs with rfl | rfl | rfl | rfl <;> (injection ho with ho; subst ho; refine .inl ⟨wanted_none rfl, ?_⟩)
     ·have e1 : ac.eval (.tmp 9) = .pointer (some ⟨b9, 0, none⟩) := hf 9 (by kernel_rfl)
      exact opG_val (by revert e1; generalize ac.eval = ρ; intro e1; simp [go_sem, execOp, e1]) rfl (Chg.refl _)
     ·exact ldN rfl (hg 0 (by decide) (by decide)) (rangePtY (Z6.out.2.2.chg hc)) rfl
     ·have e1 : ac.eval (.const (.int .i64 2)) = .int .i64 2 := rfl
      have e2 : ac.eval (.tmp 27) = .agg (num (yP A)) := hg 1 (by decide) (by decide)
      refine opG_go 18 Try.f18 #[.const (.int .i64 2), .tmp 27] #[35, 24] rfl Try.func18 (by kernel_rfl) (by kernel_rfl) (by simp [e1, e2]) (Calls.mono (negR_any 2 (yP A) (yP_N _) _) ?_)
      rintro r u2 ⟨rfl, hc2⟩
      exact ⟨_, rfl, rfl, hc2⟩
     ·have e1 : ac.eval (.tmp 9) = .pointer (some ⟨b9, 0, none⟩) := hf 9 (by kernel_rfl)
      exact opG_val (by revert e1; generalize ac.eval = ρ; intro e1; simp [go_sem, execOp, e1]) rfl (Chg.refl _)
    ·intro u V hV hc
     have q28 : V 2 = .agg (num (md 2 (0 - (yP A)))) := hV 2 (by decide)
     have q29 : V 3 = .pointer (some ⟨b9, 5, none⟩) := hV 3 (by decide)
     have ordO4_0 := O4_0.out
     have ordO4_1 := O4_1.out
     have hres0 := (Z6.out.2.2.chg hc)
     refine wpList_store_mid rfl 24 (.tmp 29) (.tmp 28) rfl b9 5 (num (md 2 (0 - (yP A)))) (Eq.trans (by rfl) q29) (Eq.trans (by rfl) q28) (by rw [num_size]; exact pt_thereY hres0) (szN _) (num_one _) ?_
     have k0_c : Chg w (u.setCells b9 5 (num (md 2 (0 - (yP A)))).toList) := Chg.cells (by omega) _ 5 (Z6.out.1.trans hc)
     have k0_B8 := Ar.cellsOther (by omega) (num (md 2 (0 - (yP A)))).toList 5 (Z6.out.2.1.chg hc)
     have k0_B9 := hres0.putY (md 2 (0 - (yP A)))
     generalize (u.setCells b9 5 (num (md 2 (0 - (yP A)))).toList) = u10 at k0_c k0_B8 k0_B9 ⊢
     go_wp2_with fail
     go_meet
     rw [HY.out] at k0_B9
     exact ⟨NG A, NG_on HO.out.1, k0_c, k0_B8, k0_B9⟩
   case true =>
    go_upto_region 8 with fail
    go_cut [] from 22 to 22 (fun wc => Chg w wc ∧ Ar wc b8 (pt (zP A) (xP A) (yP A)) ∧ Ar wc b9 (pt (zP A) (xP A) (yP A)))
    case first =>
     refine regP 1 (fun j v wg => match j with
      | 0 => v = .agg (pt (zP A) (xP A) (yP A))
      | _ => True) (by decide) (by kernel_rfl) ?_ ?_ ?_
     ·intro j v u1 u2 h hc; exact h
     ·intro i o ac u hi ho hsz hf hg hc
      have hcs : i = 0 := by omega
      rcases hcs with rfl <;> (injection ho with ho; subst ho; refine .inl ⟨wanted_none rfl, ?_⟩)
      ·have e1 : ac.eval (.tmp 8) = .pointer (some ⟨b8, 0, none⟩) := hf 8 (by kernel_rfl)
       exact wp_load_mid 26 (.tmp 8) rfl _ _ e1 ((pt (zP A) (xP A) (yP A)).toList) _ (rangeAp (Z4.out.2.1.chg hc)) Try.underlying26 rfl (infoPt _ _ _) ⟨_, rfl, rfl, Chg.refl _⟩
     ·intro u V hV hc
      have q22 : V 0 = .agg (pt (zP A) (xP A) (yP A)) := hV 0 (by decide)
      have ordO4_0 := O4_0.out
      have ordO4_1 := O4_1.out
      have hres0 := (Z4.out.2.2.chg hc)
      refine wpList_store_mid rfl 26 (.tmp 9) (.tmp 22) rfl b9 0 (pt (zP A) (xP A) (yP A)) (by rfl) (Eq.trans (by rfl) q22) (by rw [pt_size]; exact pt_there hres0) (szPt _ _ _) (pt_one _ _ _) ?_
      rw [setRowPt hres0 _ _ _]
      have k0_c : Chg w (u.setRow b9 (pt (zP A) (xP A) (yP A))) := ((Z4.out.1.trans hc).setRow (by omega) _)
      have k0_B8 := (Z4.out.2.1.chg hc).rowOther (by omega) (pt (zP A) (xP A) (yP A))
      have k0_B9 := hres0.row (pt (zP A) (xP A) (yP A))
      generalize (u.setRow b9 (pt (zP A) (xP A) (yP A))) = u10 at k0_c k0_B8 k0_B9 ⊢
      go_wp2_with fail
      go_meet
      exact ⟨k0_c, k0_B8, k0_B9⟩
    have hz := hcut
    obtain ⟨w5, hw5⟩ : ∃ zz0, zz0 = wc := ⟨_, rfl⟩
    rw [← hw5] at hz ⊢
    have Z5 : Hid _ := hz
    clear hw5 hz Z4
    go_upto_region 9 with fail
    go_cut [25] from 23 to 25 (fun v25 wc => v25 = .bool false ∧ Chg w wc ∧ Ar wc b8 (pt (zP A) (xP A) (yP A)) ∧ Ar wc b9 (pt (zP A) (xP A) (yP A)))
    case first =>
     refine regP 3 (fun j v wg => match j with
      | 0 => v = .pointer (some ⟨b9, 0, none⟩)
      | 1 => v = .bool true
      | 2 => v = .bool false
      | _ => True) (by decide) (by kernel_rfl) ?_ ?_ ?_
     ·intro j v u1 u2 h hc; exact h
     ·intro i o ac u hi ho hsz hf hg hc
      have hcs : i = 0 ∨ i = 1 ∨ i = 2 := by omega
      rcases hcs with rfl | rfl | rfl <;> (injection ho with ho; subst ho; refine .inl ⟨wanted_none rfl, ?_⟩)
      ·have e1 : ac.eval (.tmp 9) = .pointer (some ⟨b9, 0, none⟩) := hf 9 (by kernel_rfl)
       exact opG_val (by revert e1; generalize ac.eval = ρ; intro e1; simp [go_sem, execOp, e1]) rfl (Chg.refl _)
      ·have e1 : ac.eval (.tmp 23) = .pointer (some ⟨b9, 0, none⟩) := hg 0 (by decide) (by decide)
       have c1 := cellPtZ (Z5.out.2.2.chg hc)
       exact opG_val (by revert e1; generalize ac.eval = ρ; intro e1; simp [go_sem, execOp, e1, c1, HZ.out]) rfl (Chg.refl _)
      ·have e1 : ac.eval (.tmp 24) = .bool true := hg 1 (by decide) (by decide)
       exact opG_val (by revert e1; generalize ac.eval = ρ; intro e1; simp [go_sem, execOp, e1]) rfl (Chg.refl _)
     ·intro u V hV hc
      have q25 : V 2 = .bool false := hV 2 (by decide)
      go_wp2_with fail
      go_meet
      exact ⟨q25, (Z5.out.1.trans hc), (Z5.out.2.1.chg hc), (Z5.out.2.2.chg hc)⟩
    obtain ⟨rfl, hz⟩ := hcut
    obtain ⟨w6, hw6⟩ : ∃ zz0, zz0 = wc := ⟨_, rfl⟩
    rw [← hw6] at hz ⊢
    have Z6 : Hid _ := hz
    clear hw6 hz Z5
    go_wp2_with fail
    go_meet
    exact ⟨A, HO.out.1, Z6.out⟩
  ·skip
   go_upto_region 12 with fail
   refine regP 1 (fun j v wg => match j with
    | 0 => v = .agg (pt true 0 0)
    | _ => True) (by decide) (by kernel_rfl) ?_ ?_ ?_
   ·intro j v u1 u2 h hc; exact h
   ·intro i o ac u hi ho hsz hf hg hc
    have hcs : i = 0 := by omega
    rcases hcs with rfl <;> (injection ho with ho; subst ho; refine .inl ⟨wanted_none rfl, ?_⟩)
    ·exact opG_built _ [(0, .bool true)] rfl (by kernel_rfl) builtPtZ rfl
   ·intro u V hV hc
    have q32 : V 0 = .agg (pt true 0 0) := hV 0 (by decide)
    have ordO4_0 := O4_0.out
    have ordO4_1 := O4_1.out
    have hres0 := (Z4.out.2.2.chg hc)
    refine wpList_store_mid rfl 26 (.tmp 9) (.tmp 32) rfl b9 0 (pt true 0 0) (by rfl) (Eq.trans (by rfl) q32) (by rw [pt_size]; exact pt_there hres0) (szPt _ _ _) (pt_one _ _ _) ?_
    rw [setRowPt hres0 _ _ _]
    have k0_c : Chg w (u.setRow b9 (pt true 0 0)) := ((Z4.out.1.trans hc).setRow (by omega) _)
    have k0_B8 := (Z4.out.2.1.chg hc).rowOther (by omega) (pt true 0 0)
    have k0_B9 := hres0.row (pt true 0 0)
    generalize (u.setRow b9 (pt true 0 0)) = u10 at k0_c k0_B8 k0_B9 ⊢
    go_wp2_with fail
    go_meet
    exact ⟨none, trivial, k0_c, k0_B8, k0_B9⟩
 obtain ⟨X, oX, hz⟩ := hcut
 obtain ⟨w9, hw9⟩ : ∃ zz0, zz0 = wc := ⟨_, rfl⟩
 rw [← hw9] at hz ⊢
 have ZZ : Hid _ := hz
 have HX : Hid (ONW X) := oX
 obtain ⟨S, hS⟩ : ∃ S, AW A X = S := ⟨_, rfl⟩
 have HS1 : Hid (AW A X = S) := hS
 have HS2 : Hid (AW X A = S) := by show AW X A = S; rw [AW_comm oX HO.out.1, hS]
 clear hw9 hz oX hS Z4
 go_upto_region 13 with fail
 go_cut [6] from 6 to 51 (fun v6 wc => v6 = .bool true ∧ Chg w wc)
 case first =>
  refine regN 20 (fun j v wg => match j with
   | 0 => v = .bool true
   | 1 => v = .bool true
   | 2 => v = .agg (pt (zP A) (xP A) (yP A))
   | 3 => v = .agg (pt (zP X) (xP X) (yP X))
   | 4 => v = .agg (pt (zP S) (xP S) (yP S))
   | 5 => v = .agg (pt (zP A) (xP A) (yP A))
   | 6 => v = .agg (pt (zP X) (xP X) (yP X))
   | 7 => v = .agg (pt (zP S) (xP S) (yP S))
   | 8 => v = .bool true
   | 9 => v = .bool true
   | 10 => v = .bool true
   | 11 => v = .agg (pt (zP X) (xP X) (yP X))
   | 12 => v = .agg (pt (zP A) (xP A) (yP A))
   | 13 => v = .agg (pt (zP S) (xP S) (yP S))
   | 14 => v = .agg (pt (zP X) (xP X) (yP X))
   | 15 => v = .agg (pt (zP A) (xP A) (yP A))
   | 16 => v = .agg (pt (zP S) (xP S) (yP S))
   | 17 => v = .bool true
   | 18 => v = .bool true
   | 19 => v = .bool true
   | _ => True) (by kernel_rfl) (by kernel_rfl) (by kernel_rfl) (by kernel_rfl) ?_ ?_ ?_
  ·intro j v u1 u2 h hc; exact h
  ·intro i o ac u hi ho hsz hf hg hc
   have hcs : i = 0 ∨ i = 1 ∨ i = 2 ∨ i = 3 ∨ i = 4 ∨ i = 5 ∨ i = 6 ∨ i = 7 ∨ i = 8 ∨ i = 9 ∨ i = 10 ∨ i = 11 ∨ i = 12 ∨ i = 13 ∨ i = 14 ∨ i = 15 ∨ i = 16 ∨ i = 17 ∨ i = 18 ∨ i = 19 := by omega
   rcases hcs with rfl | rfl | rfl | rfl | rfl | rfl | rfl | rfl | rfl | rfl | rfl | rfl | rfl | rfl | rfl | rfl | rfl | rfl | rfl | rfl <;> (injection ho with ho; subst ho)
   ·refine .inl ⟨wanted_none rfl, ?_⟩
    have e1 : ac.eval (.tmp 7) = .bool true := hf 7 (by kernel_rfl)
    exact opG_val (by simp [execOp, e1]) rfl (Chg.refl _)
   ·refine .inl ⟨wanted_none rfl, ?_⟩
    have e1 : ac.eval (.tmp 33) = .bool true := hg 0 (by kernel_rfl) (by decide)
    exact opG_val (by simp [execOp, e1]) rfl (Chg.refl _)
   ·refine .inl ⟨wanted_by (T := _) (by kernel_rfl) hsz rfl (by decide : 1 < 20) rfl (hg 1 (by kernel_rfl) (by decide)), ?_⟩
    have e1 : ac.eval (.tmp 8) = .pointer (some ⟨b8, 0, none⟩) := hf 8 (by kernel_rfl)
    exact wp_load_mid 26 (.tmp 8) rfl _ _ e1 ((pt (zP A) (xP A) (yP A)).toList) _ (rangeAp (ZZ.out.2.1.chg hc)) Try.underlying26 rfl (infoPt _ _ _) ⟨_, rfl, rfl, Chg.refl _⟩
   ·refine .inl ⟨wanted_by (T := _) (by kernel_rfl) hsz rfl (by decide : 1 < 20) rfl (hg 1 (by kernel_rfl) (by decide)), ?_⟩
    have e1 : ac.eval (.tmp 9) = .pointer (some ⟨b9, 0, none⟩) := hf 9 (by kernel_rfl)
    exact wp_load_mid 26 (.tmp 9) rfl _ _ e1 ((pt (zP X) (xP X) (yP X)).toList) _ (rangeAp (ZZ.out.2.2.chg hc)) Try.underlying26 rfl (infoPt _ _ _) ⟨_, rfl, rfl, Chg.refl _⟩
   ·refine .inl ⟨wanted_by (T := _) (by kernel_rfl) hsz rfl (by decide : 1 < 20) rfl (hg 1 (by kernel_rfl) (by decide)), ?_⟩
    have e1 : ac.eval (.tmp 35) = .agg (pt (zP A) (xP A) (yP A)) := hg 2 (by kernel_rfl) (by decide)
    have e2 : ac.eval (.tmp 36) = .agg (pt (zP X) (xP X) (yP X)) := hg 3 (by kernel_rfl) (by decide)
    refine opG_go 9 Try.f9 #[.tmp 35, .tmp 36] #[26, 26] rfl Try.func9 (by kernel_rfl) (by kernel_rfl) (by simp [e1, e2]) (Calls.mono (padQP_any HO.out.1 HX.out HS1.out _) ?_)
    rintro r u2 ⟨rfl, hc2⟩
    exact ⟨_, rfl, rfl, hc2⟩
   ·refine .inl ⟨wanted_by (T := _) (by kernel_rfl) hsz rfl (by decide : 1 < 20) rfl (hg 1 (by kernel_rfl) (by decide)), ?_⟩
    have e1 : ac.eval (.tmp 8) = .pointer (some ⟨b8, 0, none⟩) := hf 8 (by kernel_rfl)
    exact wp_load_mid 26 (.tmp 8) rfl _ _ e1 ((pt (zP A) (xP A) (yP A)).toList) _ (rangeAp (ZZ.out.2.1.chg hc)) Try.underlying26 rfl (infoPt _ _ _) ⟨_, rfl, rfl, Chg.refl _⟩
   ·refine .inl ⟨wanted_by (T := _) (by kernel_rfl) hsz rfl (by decide : 1 < 20) rfl (hg 1 (by kernel_rfl) (by decide)), ?_⟩
    have e1 : ac.eval (.tmp 9) = .pointer (some ⟨b9, 0, none⟩) := hf 9 (by kernel_rfl)
    exact wp_load_mid 26 (.tmp 9) rfl _ _ e1 ((pt (zP X) (xP X) (yP X)).toList) _ (rangeAp (ZZ.out.2.2.chg hc)) Try.underlying26 rfl (infoPt _ _ _) ⟨_, rfl, rfl, Chg.refl _⟩
   ·refine .inl ⟨wanted_by (T := _) (by kernel_rfl) hsz rfl (by decide : 1 < 20) rfl (hg 1 (by kernel_rfl) (by decide)), ?_⟩
    have e1 : ac.eval (.tmp 38) = .agg (pt (zP A) (xP A) (yP A)) := hg 5 (by kernel_rfl) (by decide)
    have e2 : ac.eval (.tmp 39) = .agg (pt (zP X) (xP X) (yP X)) := hg 6 (by kernel_rfl) (by decide)
    refine opG_go 10 Try.f10 #[.tmp 38, .tmp 39] #[26, 26] rfl Try.func10 (by kernel_rfl) (by kernel_rfl) (by simp [e1, e2]) (Calls.mono (padSP_any HO.out.1 HX.out HS1.out _) ?_)
    rintro r u2 ⟨rfl, hc2⟩
    exact ⟨_, rfl, rfl, hc2⟩
   ·refine .inl ⟨wanted_by (T := _) (by kernel_rfl) hsz rfl (by decide : 1 < 20) rfl (hg 1 (by kernel_rfl) (by decide)), ?_⟩
    have e1 : ac.eval (.tmp 37) = .agg (pt (zP S) (xP S) (yP S)) := hg 4 (by kernel_rfl) (by decide)
    have e2 : ac.eval (.tmp 40) = .agg (pt (zP S) (xP S) (yP S)) := hg 7 (by kernel_rfl) (by decide)
    exact opG_val (by revert e1 e2; generalize ac.eval = ρ; intro e1 e2; simp [go_sem, execOp, e1, e2, run_eqPt (xP_N _) (yP_N _) (xP_N _) (yP_N _), eqPt_self]) rfl (Chg.refl _)
   ·refine .inl ⟨wanted_none rfl, ?_⟩
    have e1 : ac.eval (.tmp 34) = .bool true := hg 1 (by kernel_rfl) (by decide)
    have e2 : ac.eval (.tmp 41) = .bool true := hg 8 (by kernel_rfl) (by decide)
    have e3 : ac.eval (.const (.bool false)) = .bool false := rfl
    exact opG_val (by revert e1 e2 e3; generalize ac.eval = ρ; intro e1 e2 e3; simp [go_sem, execOp, e1, e2, e3]) rfl (Chg.refl _)
   ·refine .inl ⟨wanted_none rfl, ?_⟩
    have e1 : ac.eval (.tmp 42) = .bool true := hg 9 (by kernel_rfl) (by decide)
    exact opG_val (by simp [execOp, e1]) rfl (Chg.refl _)
   ·refine .inl ⟨wanted_by (T := _) (by kernel_rfl) hsz rfl (by decide : 10 < 20) rfl (hg 10 (by kernel_rfl) (by decide)), ?_⟩
    have e1 : ac.eval (.tmp 9) = .pointer (some ⟨b9, 0, none⟩) := hf 9 (by kernel_rfl)
    exact wp_load_mid 26 (.tmp 9) rfl _ _ e1 ((pt (zP X) (xP X) (yP X)).toList) _ (rangeAp (ZZ.out.2.2.chg hc)) Try.underlying26 rfl (infoPt _ _ _) ⟨_, rfl, rfl, Chg.refl _⟩
   ·refine .inl ⟨wanted_by (T := _) (by kernel_rfl) hsz rfl (by decide : 10 < 20) rfl (hg 10 (by kernel_rfl) (by decide)), ?_⟩
    have e1 : ac.eval (.tmp 8) = .pointer (some ⟨b8, 0, none⟩) := hf 8 (by kernel_rfl)
    exact wp_load_mid 26 (.tmp 8) rfl _ _ e1 ((pt (zP A) (xP A) (yP A)).toList) _ (rangeAp (ZZ.out.2.1.chg hc)) Try.underlying26 rfl (infoPt _ _ _) ⟨_, rfl, rfl, Chg.refl _⟩
   ·refine .inl ⟨wanted_by (T := _) (by kernel_rfl) hsz rfl (by decide : 10 < 20) rfl (hg 10 (by kernel_rfl) (by decide)), ?_⟩
    have e1 : ac.eval (.tmp 44) = .agg (pt (zP X) (xP X) (yP X)) := hg 11 (by kernel_rfl) (by decide)
    have e2 : ac.eval (.tmp 45) = .agg (pt (zP A) (xP A) (yP A)) := hg 12 (by kernel_rfl) (by decide)
    refine opG_go 9 Try.f9 #[.tmp 44, .tmp 45] #[26, 26] rfl Try.func9 (by kernel_rfl) (by kernel_rfl) (by simp [e1, e2]) (Calls.mono (padQP_any HX.out HO.out.1 HS2.out _) ?_)
    rintro r u2 ⟨rfl, hc2⟩
    exact ⟨_, rfl, rfl, hc2⟩
   ·refine .inl ⟨wanted_by (T := _) (by kernel_rfl) hsz rfl (by decide : 10 < 20) rfl (hg 10 (by kernel_rfl) (by decide)), ?_⟩
    have e1 : ac.eval (.tmp 9) = .pointer (some ⟨b9, 0, none⟩) := hf 9 (by kernel_rfl)
    exact wp_load_mid 26 (.tmp 9) rfl _ _ e1 ((pt (zP X) (xP X) (yP X)).toList) _ (rangeAp (ZZ.out.2.2.chg hc)) Try.underlying26 rfl (infoPt _ _ _) ⟨_, rfl, rfl, Chg.refl _⟩
   ·refine .inl ⟨wanted_by (T := _) (by kernel_rfl) hsz rfl (by decide : 10 < 20) rfl (hg 10 (by kernel_rfl) (by decide)), ?_⟩
    have e1 : ac.eval (.tmp 8) = .pointer (some ⟨b8, 0, none⟩) := hf 8 (by kernel_rfl)
    exact wp_load_mid 26 (.tmp 8) rfl _ _ e1 ((pt (zP A) (xP A) (yP A)).toList) _ (rangeAp (ZZ.out.2.1.chg hc)) Try.underlying26 rfl (infoPt _ _ _) ⟨_, rfl, rfl, Chg.refl _⟩
   ·refine .inl ⟨wanted_by (T := _) (by kernel_rfl) hsz rfl (by decide : 10 < 20) rfl (hg 10 (by kernel_rfl) (by decide)), ?_⟩
    have e1 : ac.eval (.tmp 47) = .agg (pt (zP X) (xP X) (yP X)) := hg 14 (by kernel_rfl) (by decide)
    have e2 : ac.eval (.tmp 48) = .agg (pt (zP A) (xP A) (yP A)) := hg 15 (by kernel_rfl) (by decide)
    refine opG_go 10 Try.f10 #[.tmp 47, .tmp 48] #[26, 26] rfl Try.func10 (by kernel_rfl) (by kernel_rfl) (by simp [e1, e2]) (Calls.mono (padSP_any HX.out HO.out.1 HS2.out _) ?_)
    rintro r u2 ⟨rfl, hc2⟩
    exact ⟨_, rfl, rfl, hc2⟩
   ·refine .inl ⟨wanted_by (T := _) (by kernel_rfl) hsz rfl (by decide : 10 < 20) rfl (hg 10 (by kernel_rfl) (by decide)), ?_⟩
    have e1 : ac.eval (.tmp 46) = .agg (pt (zP S) (xP S) (yP S)) := hg 13 (by kernel_rfl) (by decide)
    have e2 : ac.eval (.tmp 49) = .agg (pt (zP S) (xP S) (yP S)) := hg 16 (by kernel_rfl) (by decide)
    exact opG_val (by revert e1 e2; generalize ac.eval = ρ; intro e1 e2; simp [go_sem, execOp, e1, e2, run_eqPt (xP_N _) (yP_N _) (xP_N _) (yP_N _), eqPt_self]) rfl (Chg.refl _)
   ·refine .inl ⟨wanted_none rfl, ?_⟩
    have e1 : ac.eval (.tmp 43) = .bool true := hg 10 (by kernel_rfl) (by decide)
    have e2 : ac.eval (.tmp 50) = .bool true := hg 17 (by kernel_rfl) (by decide)
    have e3 : ac.eval (.const (.bool false)) = .bool false := rfl
    exact opG_val (by revert e1 e2 e3; generalize ac.eval = ρ; intro e1 e2 e3; simp [go_sem, execOp, e1, e2, e3]) rfl (Chg.refl _)
   ·refine .inl ⟨wanted_none rfl, ?_⟩
    have e1 : ac.eval (.tmp 51) = .bool true := hg 18 (by kernel_rfl) (by decide)
    exact opG_val (by simp [execOp, e1]) rfl (Chg.refl _)
  ·intro u V hV hc
   have q6 : V 19 = .bool true := hV 19 (by decide)
   go_wp2_with fail
   go_meet
   exact ⟨q6, (ZZ.out.1.trans hc)⟩
 obtain ⟨rfl, hz⟩ := hcut
 obtain ⟨w10, hw10⟩ : ∃ zz0, zz0 = wc := ⟨_, rfl⟩
 rw [← hw10] at hz ⊢
 have Z10 : Hid _ := hz
 clear hw10 hz ZZ
 go_wp2_with fail
 go_ret
 exact ⟨rfl, Z10.out⟩
end Go.Proofs.Ytbdgmkejmfjobaa
