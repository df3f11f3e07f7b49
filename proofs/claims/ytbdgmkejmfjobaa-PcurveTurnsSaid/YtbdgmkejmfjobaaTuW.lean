/-
  PcurveTurns walked.
-/
import Derived.Test.YtbdgmkejmfjobaaFs
namespace Go.Proofs.Ytbdgmkejmfjobaa
open Go.RowKit
set_option linter.unusedVariables false
set_option maxRecDepth 100000
set_option maxHeartbeats 16000000 in
theorem turns_walk (k l : Int) (hk : N256 k) (hl : N256 l) (w : World) : Calls Try.prog 7 #[.agg (num k), .agg (num l)] w fun r w' => r = .returned (.bool true) ∧ Chg w w' := by
 have HN : Hid (N256 k ∧ N256 l) := ⟨hk, hl⟩
 obtain ⟨A, hA⟩ : ∃ A, MW GW k.toNat = A := ⟨_, rfl⟩
 obtain ⟨B, hB⟩ : ∃ B, MW GW l.toNat = B := ⟨_, rfl⟩
 obtain ⟨S, hS⟩ : ∃ S, MW B k.toNat = S := ⟨_, rfl⟩
 obtain ⟨M, hM⟩ : ∃ M, NG S = M := ⟨_, rfl⟩
 have oA : ONW A := by rw [← hA]; exact on_G.mu _
 have oB : ONW B := by rw [← hB]; exact on_G.mu _
 have oS : ONW S := by rw [← hS]; exact oB.mu _
 have HO : Hid (ONW A ∧ ONW B ∧ ONW S ∧ ONW M) := ⟨oA, oB, oS, by rw [← hM]; exact NG_on oS⟩
 have HA : Hid (MW GW k.toNat = A) := hA
 have HB : Hid (MW GW l.toNat = B) := hB
 have HS1 : Hid (MW B k.toNat = S) := hS
 have HS2 : Hid (MW A l.toNat = S) := by show MW A l.toNat = S; rw [← hS, ← hA, ← hB, MW_turn]
 have HNo : Hid (AW S M = none) := by show AW S M = none; rw [← hM]; exact NG_add S
 obtain ⟨bz, hbz⟩ : ∃ bz, zP S = bz := ⟨_, rfl⟩
 have HZ : Hid (zP S = bz) := hbz
 have HM : Hid (NG S = M) := hM
 clear hk hl hA hB hS oA oB oS hM hbz
 have hsA0 := num_size k
 obtain ⟨A0, hA0⟩ : ∃ zz0, zz0 = num k := ⟨_, rfl⟩
 have HA0 : Hid (A0 = num k) := hA0
 have hsA1 := num_size l
 obtain ⟨A1, hA1⟩ : ∃ zz0, zz0 = num l := ⟨_, rfl⟩
 have HA1 : Hid (A1 = num l) := hA1
 rw [← hA0] at hsA0 ⊢
 rw [← hA1] at hsA1 ⊢
 clear hA0 hA1
 go_enter Try.func7, Try.ntmps7
 go_upto_region 1 with fail
 obtain ⟨w1, hw1⟩ : ∃ w1, w1 = (w.alloc (.cells A0 24)).alloc (.cells A1 24) := ⟨_, rfl⟩
 have Z1 : Hid (Chg w w1 ∧ Ar w1 w.heap.size (num k) ∧ Ar w1 (w.heap.size + 1) (num l)) := by
  have hnew0 := Ar.new w (num k) 24
  have hnew1 := Ar.new (w.alloc (.cells (num k) 24)) (num l) 24
  rw [World.size_alloc] at hnew1
  rw [hw1, HA0.out, HA1.out]
  exact ⟨(((Chg.refl w).alloc _).alloc _), ((hnew0).alloc _), (hnew1)⟩
 rw [← hw1]
 clear hw1 hsA0 hsA1 HA0 HA1
 go_cut [5] from 5 to 9 (fun v5 wc => v5 = .bool true ∧ Chg w wc ∧ Ar wc w.heap.size (num k) ∧ Ar wc (w.heap.size + 1) (num l))
 case first =>
  refine regP 2 (fun j v wg => match j with
   | 0 => v = .bool true
   | 1 => v = .bool true
   | _ => True) (by decide) (by kernel_rfl) ?_ ?_ ?_
  ·intro j v u1 u2 h hc; exact h
  ·intro i o ac u hi ho hsz hf hg hc
   have hcs : i = 0 ∨ i = 1 := by omega
   rcases hcs with rfl | rfl <;> (injection ho with ho; subst ho; refine .inl ⟨wanted_none rfl, ?_⟩)
   ·refine opG_go 8 Try.f8 #[] #[] rfl Try.func8 (by kernel_rfl) (by kernel_rfl) (by simp []) (Calls.mono (headQ_any _) ?_)
    rintro r u2 ⟨rfl, hc2⟩
    exact ⟨_, rfl, rfl, hc2⟩
   ·have e1 : ac.eval (.tmp 9) = .bool true := hg 0 (by decide) (by decide)
    exact opG_val (by simp [execOp, e1]) rfl (Chg.refl _)
  ·intro u V hV hc
   have q5 : V 1 = .bool true := hV 1 (by decide)
   go_wp2_with fail
   go_meet
   exact ⟨q5, (Z1.out.1.trans hc), (Z1.out.2.1.chg hc), (Z1.out.2.2.chg hc)⟩
 obtain ⟨rfl, hz⟩ := hcut
 obtain ⟨w2, hw2⟩ : ∃ zz0, zz0 = wc := ⟨_, rfl⟩
 rw [← hw2] at hz ⊢
 have Z2 : Hid _ := hz
 clear hw2 hz Z1
 go_upto_region 2 with fail
 go_cut [6] from 6 to 14 (fun v6 wc => ∃ b6, v6 = .pointer (some ⟨b6, 0, none⟩) ∧ Chg w wc ∧ Ar wc w.heap.size (num k) ∧ Ar wc (w.heap.size + 1) (num l) ∧ Ar wc b6 (pt (zP S) (xP S) (yP S)))
 case first =>
  refine regM 6 (fun j => j == 5) (fun j v wg => match j with
   | 0 => v = .agg (num k)
   | 1 => v = .agg (num l)
   | 2 => v = .agg (pt false gX gY)
   | 3 => v = .agg (pt (zP B) (xP B) (yP B))
   | 4 => v = .agg (pt (zP S) (xP S) (yP S))
   | 5 => ∃ b, v = .pointer (some ⟨b, 0, none⟩) ∧ Ar wg b (pt false 0 0) ∧ w2.heap.size ≤ b
   | _ => True) (by kernel_rfl) (by decide) (by kernel_rfl) (by kernel_rfl) (by kernel_rfl) (by kernel_rfl) ?_ ?_ ?_ ?_
  ·intro j v u1 u2 h hc
   match j, h with
   | 0, h => exact h
   | 1, h => exact h
   | 2, h => exact h
   | 3, h => exact h
   | 4, h => exact h
   | 5, h => (obtain ⟨b, h1, h2, h3⟩ := h; exact ⟨b, h1, h2.chg hc, h3⟩)
   | _ + 6, h => exact trivial
  ·intro j v u hj ha h
   have hcs : j = 5 := by simpa [or_assoc] using ha
   rcases hcs with rfl
   ·obtain ⟨b, h1, h2, h3⟩ := h; exact ⟨b, h1, h2.lt⟩
  ·intro i o ac u hi ho hsz hf hg hc
   have hcs : i = 0 ∨ i = 1 ∨ i = 2 ∨ i = 3 ∨ i = 4 ∨ i = 5 := by omega
   rcases hcs with rfl | rfl | rfl | rfl | rfl | rfl <;> (injection ho with ho; subst ho; refine ⟨wanted_none rfl, ?_⟩)
   ·exact ldN rfl (hf 2 (by kernel_rfl)) (rangeAp (Z2.out.2.1.chg hc)) ⟨rfl, fun h => by cases h⟩
   ·exact ldN rfl (hf 3 (by kernel_rfl)) (rangeAp (Z2.out.2.2.chg hc)) ⟨rfl, fun h => by cases h⟩
   ·refine opG_go 15 Try.f15 #[] #[] rfl Try.func15 (by kernel_rfl) (by kernel_rfl) (by simp []) (Calls.mono (baseQ_any _) ?_)
    rintro r u2 ⟨rfl, hc2⟩
    exact ⟨_, rfl, ⟨rfl, fun h => by cases h⟩, hc2⟩
   ·have e1 : ac.eval (.tmp 11) = .agg (num l) := hg 1 (by kernel_rfl) (by decide)
    have e2 : ac.eval (.tmp 12) = .agg (pt false gX gY) := hg 2 (by kernel_rfl) (by decide)
    refine opG_go 11 Try.f11 #[.tmp 11, .tmp 12] #[24, 26] rfl Try.func11 (by kernel_rfl) (by kernel_rfl) (by simp [e1, e2]) (Calls.mono (multQG_any (HN.out.2) HB.out _) ?_)
    rintro r u2 ⟨rfl, hc2⟩
    exact ⟨_, rfl, ⟨rfl, fun h => by cases h⟩, hc2⟩
   ·have e1 : ac.eval (.tmp 10) = .agg (num k) := hg 0 (by kernel_rfl) (by decide)
    have e2 : ac.eval (.tmp 13) = .agg (pt (zP B) (xP B) (yP B)) := hg 3 (by kernel_rfl) (by decide)
    refine opG_go 11 Try.f11 #[.tmp 10, .tmp 13] #[24, 26] rfl Try.func11 (by kernel_rfl) (by kernel_rfl) (by simp [e1, e2]) (Calls.mono (multQP_any HO.out.2.1 (HN.out.1) HS1.out _) ?_)
    rintro r u2 ⟨rfl, hc2⟩
    exact ⟨_, rfl, ⟨rfl, fun h => by cases h⟩, hc2⟩
   ·exact opG_val (v := .pointer (some ⟨u.heap.size, 0, none⟩)) (w' := u.alloc (.cells (pt false 0 0) 26)) (by generalize ac.eval = ρ; simp [go_sem, execOp, zeroPt.1]) ⟨⟨_, rfl, Ar.new _ _ _, hc.size⟩, fun _ => rfl⟩ ((Chg.refl _).alloc _)
  ·intro u V hV hap hc
   have q14 : V 4 = .agg (pt (zP S) (xP S) (yP S)) := hV 4 (by decide)
   obtain ⟨b6, q6, r6, s6⟩ := hV 5 (by decide)
   have lw6 : w.heap.size ≤ b6 := Nat.le_trans Z2.out.1.size s6
   have hres0 := r6
   refine tail_cons rfl rfl ?_
   refine wp_store_mid 26 (.tmp 6) (.tmp 14) rfl b6 0 (pt (zP S) (xP S) (yP S)) (Eq.trans (by rfl) q6) (Eq.trans (by rfl) q14) (by rw [pt_size]; exact pt_there hres0) (szPt _ _ _) (pt_one _ _ _) ?_
   rw [setRowPt hres0 _ _ _]
   have k0_c : Chg w (u.setRow b6 (pt (zP S) (xP S) (yP S))) := ((Z2.out.1.trans hc).setRow lw6 _)
   have k0_B2 := (Z2.out.2.1.chg hc).rowOther (Z2.out.2.1.apart s6) (pt (zP S) (xP S) (yP S))
   have k0_B3 := (Z2.out.2.2.chg hc).rowOther (Z2.out.2.2.apart s6) (pt (zP S) (xP S) (yP S))
   have k0_B6 := hres0.row (pt (zP S) (xP S) (yP S))
   generalize (u.setRow b6 (pt (zP S) (xP S) (yP S))) = u10 at k0_c k0_B2 k0_B3 k0_B6 ⊢
   refine tail_nil rfl ?_
   go_wp2_with fail
   go_meet
   exact ⟨b6, q6, k0_c, k0_B2, k0_B3, k0_B6⟩
 obtain ⟨b6, rfl, hz⟩ := hcut
 obtain ⟨w3, hw3⟩ : ∃ zz0, zz0 = wc := ⟨_, rfl⟩
 rw [← hw3] at hz ⊢
 have Z3 : Hid _ := hz
 clear hw3 hz Z2
 go_upto_region 3 with fail
 go_cut [7] from 7 to 19 (fun v7 wc => ∃ b7, v7 = .pointer (some ⟨b7, 0, none⟩) ∧ Chg w wc ∧ Ar wc b6 (pt (zP S) (xP S) (yP S)) ∧ Ar wc b7 (pt (zP S) (xP S) (yP S)))
 case first =>
  refine regM 6 (fun j => j == 5) (fun j v wg => match j with
   | 0 => v = .agg (num l)
   | 1 => v = .agg (num k)
   | 2 => v = .agg (pt false gX gY)
   | 3 => v = .agg (pt (zP A) (xP A) (yP A))
   | 4 => v = .agg (pt (zP S) (xP S) (yP S))
   | 5 => ∃ b, v = .pointer (some ⟨b, 0, none⟩) ∧ Ar wg b (pt false 0 0) ∧ w3.heap.size ≤ b
   | _ => True) (by kernel_rfl) (by decide) (by kernel_rfl) (by kernel_rfl) (by kernel_rfl) (by kernel_rfl) ?_ ?_ ?_ ?_
  ·intro j v u1 u2 h hc
   match j, h with
   | 0, h => exact h
   | 1, h => exact h
   | 2, h => exact h
   | 3, h => exact h
   | 4, h => exact h
   | 5, h => (obtain ⟨b, h1, h2, h3⟩ := h; exact ⟨b, h1, h2.chg hc, h3⟩)
   | _ + 6, h => exact trivial
  ·intro j v u hj ha h
   have hcs : j = 5 := by simpa [or_assoc] using ha
   rcases hcs with rfl
   ·obtain ⟨b, h1, h2, h3⟩ := h; exact ⟨b, h1, h2.lt⟩
  ·intro i o ac u hi ho hsz hf hg hc
   have hcs : i = 0 ∨ i = 1 ∨ i = 2 ∨ i = 3 ∨ i = 4 ∨ i = 5 := by omega
   rcases hcs with rfl | rfl | rfl | rfl | rfl | rfl <;> (injection ho with ho; subst ho; refine ⟨wanted_none rfl, ?_⟩)
   ·exact ldN rfl (hf 3 (by kernel_rfl)) (rangeAp (Z3.out.2.2.1.chg hc)) ⟨rfl, fun h => by cases h⟩
   ·exact ldN rfl (hf 2 (by kernel_rfl)) (rangeAp (Z3.out.2.1.chg hc)) ⟨rfl, fun h => by cases h⟩
   ·refine opG_go 15 Try.f15 #[] #[] rfl Try.func15 (by kernel_rfl) (by kernel_rfl) (by simp []) (Calls.mono (baseQ_any _) ?_)
    rintro r u2 ⟨rfl, hc2⟩
    exact ⟨_, rfl, ⟨rfl, fun h => by cases h⟩, hc2⟩
   ·have e1 : ac.eval (.tmp 16) = .agg (num k) := hg 1 (by kernel_rfl) (by decide)
    have e2 : ac.eval (.tmp 17) = .agg (pt false gX gY) := hg 2 (by kernel_rfl) (by decide)
    refine opG_go 11 Try.f11 #[.tmp 16, .tmp 17] #[24, 26] rfl Try.func11 (by kernel_rfl) (by kernel_rfl) (by simp [e1, e2]) (Calls.mono (multQG_any (HN.out.1) HA.out _) ?_)
    rintro r u2 ⟨rfl, hc2⟩
    exact ⟨_, rfl, ⟨rfl, fun h => by cases h⟩, hc2⟩
   ·have e1 : ac.eval (.tmp 15) = .agg (num l) := hg 0 (by kernel_rfl) (by decide)
    have e2 : ac.eval (.tmp 18) = .agg (pt (zP A) (xP A) (yP A)) := hg 3 (by kernel_rfl) (by decide)
    refine opG_go 11 Try.f11 #[.tmp 15, .tmp 18] #[24, 26] rfl Try.func11 (by kernel_rfl) (by kernel_rfl) (by simp [e1, e2]) (Calls.mono (multQP_any HO.out.1 (HN.out.2) HS2.out _) ?_)
    rintro r u2 ⟨rfl, hc2⟩
    exact ⟨_, rfl, ⟨rfl, fun h => by cases h⟩, hc2⟩
   ·exact opG_val (v := .pointer (some ⟨u.heap.size, 0, none⟩)) (w' := u.alloc (.cells (pt false 0 0) 26)) (by generalize ac.eval = ρ; simp [go_sem, execOp, zeroPt.1]) ⟨⟨_, rfl, Ar.new _ _ _, hc.size⟩, fun _ => rfl⟩ ((Chg.refl _).alloc _)
  ·intro u V hV hap hc
   have q19 : V 4 = .agg (pt (zP S) (xP S) (yP S)) := hV 4 (by decide)
   obtain ⟨b7, q7, r7, s7⟩ := hV 5 (by decide)
   have lw7 : w.heap.size ≤ b7 := Nat.le_trans Z3.out.1.size s7
   have hres0 := r7
   refine tail_cons rfl rfl ?_
   refine wp_store_mid 26 (.tmp 7) (.tmp 19) rfl b7 0 (pt (zP S) (xP S) (yP S)) (Eq.trans (by rfl) q7) (Eq.trans (by rfl) q19) (by rw [pt_size]; exact pt_there hres0) (szPt _ _ _) (pt_one _ _ _) ?_
   rw [setRowPt hres0 _ _ _]
   have k0_c : Chg w (u.setRow b7 (pt (zP S) (xP S) (yP S))) := ((Z3.out.1.trans hc).setRow lw7 _)
   have k0_B6 := (Z3.out.2.2.2.chg hc).rowOther (Z3.out.2.2.2.apart s7) (pt (zP S) (xP S) (yP S))
   have k0_B7 := hres0.row (pt (zP S) (xP S) (yP S))
   generalize (u.setRow b7 (pt (zP S) (xP S) (yP S))) = u10 at k0_c k0_B6 k0_B7 ⊢
   refine tail_nil rfl ?_
   go_wp2_with fail
   go_meet
   exact ⟨b7, q7, k0_c, k0_B6, k0_B7⟩
 obtain ⟨b7, rfl, hz⟩ := hcut
 obtain ⟨w4, hw4⟩ : ∃ zz0, zz0 = wc := ⟨_, rfl⟩
 rw [← hw4] at hz ⊢
 have Z4 : Hid _ := hz
 clear hw4 hz Z3
 go_upto_region 4 with fail
 go_cut [8] from 8 to 20 (fun v8 wc => ∃ b8, v8 = .pointer (some ⟨b8, 0, none⟩) ∧ b6 ≠ b8 ∧ b7 ≠ b8 ∧ w.heap.size ≤ b8 ∧ Chg w wc ∧ Ar wc b6 (pt (zP S) (xP S) (yP S)) ∧ Ar wc b7 (pt (zP S) (xP S) (yP S)) ∧ Ar wc b8 (pt (zP S) (xP S) (yP S)))
 case first =>
  refine regP 2 (fun j v wg => match j with
   | 0 => v = .agg (pt (zP S) (xP S) (yP S))
   | 1 => ∃ b, v = .pointer (some ⟨b, 0, none⟩) ∧ Ar wg b (pt false 0 0) ∧ w4.heap.size ≤ b
   | _ => True) (by decide) (by kernel_rfl) ?_ ?_ ?_
  ·intro j v u1 u2 h hc
   match j, h with
   | 0, h => exact h
   | 1, h => (obtain ⟨b, h1, h2, h3⟩ := h; exact ⟨b, h1, h2.chg hc, h3⟩)
   | _ + 2, h => exact trivial
  ·intro i o ac u hi ho hsz hf hg hc
   have hcs : i = 0 ∨ i = 1 := by omega
   rcases hcs with rfl | rfl <;> (injection ho with ho; subst ho; refine .inl ⟨wanted_none rfl, ?_⟩)
   ·have e1 : ac.eval (.tmp 6) = .pointer (some ⟨b6, 0, none⟩) := hf 6 (by kernel_rfl)
    exact wp_load_mid 26 (.tmp 6) rfl _ _ e1 ((pt (zP S) (xP S) (yP S)).toList) _ (rangeAp (Z4.out.2.1.chg hc)) Try.underlying26 rfl (infoPt _ _ _) ⟨_, rfl, rfl, Chg.refl _⟩
   ·exact opG_val (v := .pointer (some ⟨u.heap.size, 0, none⟩)) (w' := u.alloc (.cells (pt false 0 0) 26)) (by generalize ac.eval = ρ; simp [go_sem, execOp, zeroPt.1]) ⟨_, rfl, Ar.new _ _ _, hc.size⟩ ((Chg.refl _).alloc _)
  ·intro u V hV hc
   have q20 : V 0 = .agg (pt (zP S) (xP S) (yP S)) := hV 0 (by decide)
   obtain ⟨b8, q8, r8, s8⟩ := hV 1 (by decide)
   have lw8 : w.heap.size ≤ b8 := Nat.le_trans Z4.out.1.size s8
   have hres0 := r8
   refine wpList_store_mid rfl 26 (.tmp 8) (.tmp 20) rfl b8 0 (pt (zP S) (xP S) (yP S)) (Eq.trans (by rfl) q8) (Eq.trans (by rfl) q20) (by rw [pt_size]; exact pt_there hres0) (szPt _ _ _) (pt_one _ _ _) ?_
   rw [setRowPt hres0 _ _ _]
   have k0_c : Chg w (u.setRow b8 (pt (zP S) (xP S) (yP S))) := ((Z4.out.1.trans hc).setRow lw8 _)
   have k0_B6 := (Z4.out.2.1.chg hc).rowOther (Z4.out.2.1.apart s8) (pt (zP S) (xP S) (yP S))
   have k0_B7 := (Z4.out.2.2.chg hc).rowOther (Z4.out.2.2.apart s8) (pt (zP S) (xP S) (yP S))
   have k0_B8 := hres0.row (pt (zP S) (xP S) (yP S))
   generalize (u.setRow b8 (pt (zP S) (xP S) (yP S))) = u10 at k0_c k0_B6 k0_B7 k0_B8 ⊢
   go_wp2_with fail
   go_meet
   exact ⟨b8, q8, Z4.out.2.1.apart s8, Z4.out.2.2.apart s8, lw8, k0_c, k0_B6, k0_B7, k0_B8⟩
 obtain ⟨b8, rfl, of0, of1, of2, hz⟩ := hcut
 obtain ⟨w5, hw5⟩ : ∃ zz0, zz0 = wc := ⟨_, rfl⟩
 rw [← hw5] at hz ⊢
 have Z5 : Hid _ := hz
 have O5_0 : Hid _ := of0
 have O5_1 : Hid _ := of1
 have O5_2 : Hid _ := of2
 clear hw5 hz of0 of1 of2 Z4
 cases bz
 case false =>
  go_upto_region 5 with fail
  go_cut [23] from 21 to 23 (fun v23 wc => v23 = .bool true ∧ Chg w wc ∧ Ar wc b6 (pt (zP S) (xP S) (yP S)) ∧ Ar wc b7 (pt (zP S) (xP S) (yP S)) ∧ Ar wc b8 (pt (zP S) (xP S) (yP S)))
  case first =>
   refine regP 3 (fun j v wg => match j with
    | 0 => v = .pointer (some ⟨b8, 0, none⟩)
    | 1 => v = .bool false
    | 2 => v = .bool true
    | _ => True) (by decide) (by kernel_rfl) ?_ ?_ ?_
   ·intro j v u1 u2 h hc; exact h
   ·intro i o ac u hi ho hsz hf hg hc
    have hcs : i = 0 ∨ i = 1 ∨ i = 2 := by omega
    rcases hcs with rfl | rfl | rfl <;> (injection ho with ho; subst ho; refine .inl ⟨wanted_none rfl, ?_⟩)
    ·have e1 : ac.eval (.tmp 8) = .pointer (some ⟨b8, 0, none⟩) := hf 8 (by kernel_rfl)
     exact opG_val (by revert e1; generalize ac.eval = ρ; intro e1; simp [go_sem, execOp, e1]) rfl (Chg.refl _)
    ·have e1 : ac.eval (.tmp 21) = .pointer (some ⟨b8, 0, none⟩) := hg 0 (by decide) (by decide)
     have c1 := cellPtZ (Z5.out.2.2.2.chg hc)
     exact opG_val (by revert e1; generalize ac.eval = ρ; intro e1; simp [go_sem, execOp, e1, c1, HZ.out]) rfl (Chg.refl _)
    ·have e1 : ac.eval (.tmp 22) = .bool false := hg 1 (by decide) (by decide)
     exact opG_val (by revert e1; generalize ac.eval = ρ; intro e1; simp [go_sem, execOp, e1]) rfl (Chg.refl _)
   ·intro u V hV hc
    have q23 : V 2 = .bool true := hV 2 (by decide)
    go_wp2_with fail
    go_meet
    exact ⟨q23, (Z5.out.1.trans hc), (Z5.out.2.1.chg hc), (Z5.out.2.2.1.chg hc), (Z5.out.2.2.2.chg hc)⟩
  obtain ⟨rfl, hz⟩ := hcut
  obtain ⟨w6, hw6⟩ : ∃ zz0, zz0 = wc := ⟨_, rfl⟩
  rw [← hw6] at hz ⊢
  have Z6 : Hid _ := hz
  clear hw6 hz Z5
  go_upto_if 23 with fail
  go_cut [] from 24 to 27 (fun wc => Chg w wc ∧ Ar wc b6 (pt (zP S) (xP S) (yP S)) ∧ Ar wc b7 (pt (zP S) (xP S) (yP S)) ∧ Ar wc b8 (pt (zP M) (xP M) (yP M)))
  case first =>
   have HY : Hid _ := NG_y HZ.out
   rw [HM.out] at HY
   go_upto_region 6 with fail
   refine regP 4 (fun j v wg => match j with
    | 0 => v = .pointer (some ⟨b8, 5, none⟩)
    | 1 => v = .agg (num (yP S))
    | 2 => v = .agg (num (md 2 (0 - (yP S))))
    | 3 => v = .pointer (some ⟨b8, 5, none⟩)
    | _ => True) (by decide) (by kernel_rfl) ?_ ?_ ?_
   ·intro j v u1 u2 h hc; exact h
   ·intro i o ac u hi ho hsz hf hg hc
    have hcs : i = 0 ∨ i = 1 ∨ i = 2 ∨ i = 3 := by omega
    rcases hcs with rfl | rfl | rfl | rfl <;> (injection ho with ho; subst ho; refine .inl ⟨wanted_none rfl, ?_⟩)
    ·have e1 : ac.eval (.tmp 8) = .pointer (some ⟨b8, 0, none⟩) := hf 8 (by kernel_rfl)
     exact opG_val (by revert e1; generalize ac.eval = ρ; intro e1; simp [go_sem, execOp, e1]) rfl (Chg.refl _)
    ·exact ldN rfl (hg 0 (by decide) (by decide)) (rangePtY (Z6.out.2.2.2.chg hc)) rfl
    ·have e1 : ac.eval (.const (.int .i64 2)) = .int .i64 2 := rfl
     have e2 : ac.eval (.tmp 25) = .agg (num (yP S)) := hg 1 (by decide) (by decide)
     refine opG_go 18 Try.f18 #[.const (.int .i64 2), .tmp 25] #[35, 24] rfl Try.func18 (by kernel_rfl) (by kernel_rfl) (by simp [e1, e2]) (Calls.mono (negR_any 2 (yP S) (yP_N _) _) ?_)
     rintro r u2 ⟨rfl, hc2⟩
     exact ⟨_, rfl, rfl, hc2⟩
    ·have e1 : ac.eval (.tmp 8) = .pointer (some ⟨b8, 0, none⟩) := hf 8 (by kernel_rfl)
     exact opG_val (by revert e1; generalize ac.eval = ρ; intro e1; simp [go_sem, execOp, e1]) rfl (Chg.refl _)
   ·intro u V hV hc
    have q26 : V 2 = .agg (num (md 2 (0 - (yP S)))) := hV 2 (by decide)
    have q27 : V 3 = .pointer (some ⟨b8, 5, none⟩) := hV 3 (by decide)
    have ordO5_0 := O5_0.out
    have ordO5_1 := O5_1.out
    have ordO5_2 := O5_2.out
    have hres0 := (Z6.out.2.2.2.chg hc)
    refine wpList_store_mid rfl 24 (.tmp 27) (.tmp 26) rfl b8 5 (num (md 2 (0 - (yP S)))) (Eq.trans (by rfl) q27) (Eq.trans (by rfl) q26) (by rw [num_size]; exact pt_thereY hres0) (szN _) (num_one _) ?_
    have k0_c : Chg w (u.setCells b8 5 (num (md 2 (0 - (yP S)))).toList) := Chg.cells (by omega) _ 5 (Z6.out.1.trans hc)
    have k0_B6 := Ar.cellsOther (by omega) (num (md 2 (0 - (yP S)))).toList 5 (Z6.out.2.1.chg hc)
    have k0_B7 := Ar.cellsOther (by omega) (num (md 2 (0 - (yP S)))).toList 5 (Z6.out.2.2.1.chg hc)
    have k0_B8 := hres0.putY (md 2 (0 - (yP S)))
    generalize (u.setCells b8 5 (num (md 2 (0 - (yP S)))).toList) = u10 at k0_c k0_B6 k0_B7 k0_B8 ⊢
    go_wp2_with fail
    go_meet
    rw [HY.out] at k0_B8
    exact ⟨k0_c, k0_B6, k0_B7, k0_B8⟩
  obtain ⟨w9, hw9⟩ : ∃ zz0, zz0 = wc := ⟨_, rfl⟩
  rw [← hw9] at hcut ⊢
  have ZZ : Hid _ := hcut
  clear hw9 hcut Z6
  go_upto_region 7 with fail
  go_cut [4] from 4 to 48 (fun v4 wc => v4 = .bool true ∧ Chg w wc)
  case first =>
   refine regP 22 (fun j v wg => match j with
    | 0 => v = .bool true
    | 1 => v = .bool true
    | 2 => v = .agg (pt (zP S) (xP S) (yP S))
    | 3 => v = .agg (pt (zP S) (xP S) (yP S))
    | 4 => v = .bool true
    | 5 => v = .bool true
    | 6 => v = .bool true
    | 7 => v = .agg (pt (zP S) (xP S) (yP S))
    | 8 => v = .bool true
    | 9 => v = .bool true
    | 10 => v = .bool true
    | 11 => v = .agg (pt (zP M) (xP M) (yP M))
    | 12 => v = .bool true
    | 13 => v = .bool true
    | 14 => v = .bool true
    | 15 => v = .agg (pt (zP S) (xP S) (yP S))
    | 16 => v = .agg (pt (zP M) (xP M) (yP M))
    | 17 => v = .agg (pt true 0 0)
    | 18 => v = .agg (pt true 0 0)
    | 19 => v = .bool true
    | 20 => v = .bool true
    | 21 => v = .bool true
    | _ => True) (by decide) (by kernel_rfl) ?_ ?_ ?_
   ·intro j v u1 u2 h hc; exact h
   ·intro i o ac u hi ho hsz hf hg hc
    have hcs : i = 0 ∨ i = 1 ∨ i = 2 ∨ i = 3 ∨ i = 4 ∨ i = 5 ∨ i = 6 ∨ i = 7 ∨ i = 8 ∨ i = 9 ∨ i = 10 ∨ i = 11 ∨ i = 12 ∨ i = 13 ∨ i = 14 ∨ i = 15 ∨ i = 16 ∨ i = 17 ∨ i = 18 ∨ i = 19 ∨ i = 20 ∨ i = 21 := by omega
    rcases hcs with rfl | rfl | rfl | rfl | rfl | rfl | rfl | rfl | rfl | rfl | rfl | rfl | rfl | rfl | rfl | rfl | rfl | rfl | rfl | rfl | rfl | rfl <;> (injection ho with ho; subst ho)
    ·refine .inl ⟨wanted_none rfl, ?_⟩
     have e1 : ac.eval (.tmp 5) = .bool true := hf 5 (by kernel_rfl)
     exact opG_val (by simp [execOp, e1]) rfl (Chg.refl _)
    ·refine .inl ⟨wanted_none rfl, ?_⟩
     have e1 : ac.eval (.tmp 28) = .bool true := hg 0 (by decide) (by decide)
     exact opG_val (by simp [execOp, e1]) rfl (Chg.refl _)
    ·refine .inl ⟨wanted_by (T := _) (by kernel_rfl) hsz rfl (by decide : 1 < 22) rfl (hg 1 (by decide) (by decide)), ?_⟩
     have e1 : ac.eval (.tmp 6) = .pointer (some ⟨b6, 0, none⟩) := hf 6 (by kernel_rfl)
     exact wp_load_mid 26 (.tmp 6) rfl _ _ e1 ((pt (zP S) (xP S) (yP S)).toList) _ (rangeAp (ZZ.out.2.1.chg hc)) Try.underlying26 rfl (infoPt _ _ _) ⟨_, rfl, rfl, Chg.refl _⟩
    ·refine .inl ⟨wanted_by (T := _) (by kernel_rfl) hsz rfl (by decide : 1 < 22) rfl (hg 1 (by decide) (by decide)), ?_⟩
     have e1 : ac.eval (.tmp 7) = .pointer (some ⟨b7, 0, none⟩) := hf 7 (by kernel_rfl)
     exact wp_load_mid 26 (.tmp 7) rfl _ _ e1 ((pt (zP S) (xP S) (yP S)).toList) _ (rangeAp (ZZ.out.2.2.1.chg hc)) Try.underlying26 rfl (infoPt _ _ _) ⟨_, rfl, rfl, Chg.refl _⟩
    ·refine .inl ⟨wanted_by (T := _) (by kernel_rfl) hsz rfl (by decide : 1 < 22) rfl (hg 1 (by decide) (by decide)), ?_⟩
     have e1 : ac.eval (.tmp 30) = .agg (pt (zP S) (xP S) (yP S)) := hg 2 (by decide) (by decide)
     have e2 : ac.eval (.tmp 31) = .agg (pt (zP S) (xP S) (yP S)) := hg 3 (by decide) (by decide)
     exact opG_val (by revert e1 e2; generalize ac.eval = ρ; intro e1 e2; simp [go_sem, execOp, e1, e2, run_eqPt (xP_N _) (yP_N _) (xP_N _) (yP_N _), eqPt_self]) rfl (Chg.refl _)
    ·refine .inl ⟨wanted_none rfl, ?_⟩
     have e1 : ac.eval (.tmp 29) = .bool true := hg 1 (by decide) (by decide)
     have e2 : ac.eval (.tmp 32) = .bool true := hg 4 (by decide) (by decide)
     have e3 : ac.eval (.const (.bool false)) = .bool false := rfl
     exact opG_val (by revert e1 e2 e3; generalize ac.eval = ρ; intro e1 e2 e3; simp [go_sem, execOp, e1, e2, e3]) rfl (Chg.refl _)
    ·refine .inl ⟨wanted_none rfl, ?_⟩
     have e1 : ac.eval (.tmp 33) = .bool true := hg 5 (by decide) (by decide)
     exact opG_val (by simp [execOp, e1]) rfl (Chg.refl _)
    ·refine .inl ⟨wanted_by (T := _) (by kernel_rfl) hsz rfl (by decide : 6 < 22) rfl (hg 6 (by decide) (by decide)), ?_⟩
     have e1 : ac.eval (.tmp 6) = .pointer (some ⟨b6, 0, none⟩) := hf 6 (by kernel_rfl)
     exact wp_load_mid 26 (.tmp 6) rfl _ _ e1 ((pt (zP S) (xP S) (yP S)).toList) _ (rangeAp (ZZ.out.2.1.chg hc)) Try.underlying26 rfl (infoPt _ _ _) ⟨_, rfl, rfl, Chg.refl _⟩
    ·refine .inl ⟨wanted_by (T := _) (by kernel_rfl) hsz rfl (by decide : 6 < 22) rfl (hg 6 (by decide) (by decide)), ?_⟩
     have e1 : ac.eval (.tmp 35) = .agg (pt (zP S) (xP S) (yP S)) := hg 7 (by decide) (by decide)
     refine opG_go 13 Try.f13 #[.tmp 35] #[26] rfl Try.func13 (by kernel_rfl) (by kernel_rfl) (by simp [e1]) (Calls.mono (onQL_any (xP_N _) (yP_N _) (onR_P HO.out.2.2.1) _) ?_)
     rintro r u2 ⟨rfl, hc2⟩
     exact ⟨_, rfl, rfl, hc2⟩
    ·refine .inl ⟨wanted_none rfl, ?_⟩
     have e1 : ac.eval (.tmp 34) = .bool true := hg 6 (by decide) (by decide)
     have e2 : ac.eval (.tmp 36) = .bool true := hg 8 (by decide) (by decide)
     have e3 : ac.eval (.const (.bool false)) = .bool false := rfl
     exact opG_val (by revert e1 e2 e3; generalize ac.eval = ρ; intro e1 e2 e3; simp [go_sem, execOp, e1, e2, e3]) rfl (Chg.refl _)
    ·refine .inl ⟨wanted_none rfl, ?_⟩
     have e1 : ac.eval (.tmp 37) = .bool true := hg 9 (by decide) (by decide)
     exact opG_val (by simp [execOp, e1]) rfl (Chg.refl _)
    ·refine .inl ⟨wanted_by (T := _) (by kernel_rfl) hsz rfl (by decide : 10 < 22) rfl (hg 10 (by decide) (by decide)), ?_⟩
     have e1 : ac.eval (.tmp 8) = .pointer (some ⟨b8, 0, none⟩) := hf 8 (by kernel_rfl)
     exact wp_load_mid 26 (.tmp 8) rfl _ _ e1 ((pt (zP M) (xP M) (yP M)).toList) _ (rangeAp (ZZ.out.2.2.2.chg hc)) Try.underlying26 rfl (infoPt _ _ _) ⟨_, rfl, rfl, Chg.refl _⟩
    ·refine .inl ⟨wanted_by (T := _) (by kernel_rfl) hsz rfl (by decide : 10 < 22) rfl (hg 10 (by decide) (by decide)), ?_⟩
     have e1 : ac.eval (.tmp 39) = .agg (pt (zP M) (xP M) (yP M)) := hg 11 (by decide) (by decide)
     refine opG_go 13 Try.f13 #[.tmp 39] #[26] rfl Try.func13 (by kernel_rfl) (by kernel_rfl) (by simp [e1]) (Calls.mono (onQL_any (xP_N _) (yP_N _) (onR_P HO.out.2.2.2) _) ?_)
     rintro r u2 ⟨rfl, hc2⟩
     exact ⟨_, rfl, rfl, hc2⟩
    ·refine .inl ⟨wanted_none rfl, ?_⟩
     have e1 : ac.eval (.tmp 38) = .bool true := hg 10 (by decide) (by decide)
     have e2 : ac.eval (.tmp 40) = .bool true := hg 12 (by decide) (by decide)
     have e3 : ac.eval (.const (.bool false)) = .bool false := rfl
     exact opG_val (by revert e1 e2 e3; generalize ac.eval = ρ; intro e1 e2 e3; simp [go_sem, execOp, e1, e2, e3]) rfl (Chg.refl _)
    ·refine .inl ⟨wanted_none rfl, ?_⟩
     have e1 : ac.eval (.tmp 41) = .bool true := hg 13 (by decide) (by decide)
     exact opG_val (by simp [execOp, e1]) rfl (Chg.refl _)
    ·refine .inl ⟨wanted_by (T := _) (by kernel_rfl) hsz rfl (by decide : 14 < 22) rfl (hg 14 (by decide) (by decide)), ?_⟩
     have e1 : ac.eval (.tmp 6) = .pointer (some ⟨b6, 0, none⟩) := hf 6 (by kernel_rfl)
     exact wp_load_mid 26 (.tmp 6) rfl _ _ e1 ((pt (zP S) (xP S) (yP S)).toList) _ (rangeAp (ZZ.out.2.1.chg hc)) Try.underlying26 rfl (infoPt _ _ _) ⟨_, rfl, rfl, Chg.refl _⟩
    ·refine .inl ⟨wanted_by (T := _) (by kernel_rfl) hsz rfl (by decide : 14 < 22) rfl (hg 14 (by decide) (by decide)), ?_⟩
     have e1 : ac.eval (.tmp 8) = .pointer (some ⟨b8, 0, none⟩) := hf 8 (by kernel_rfl)
     exact wp_load_mid 26 (.tmp 8) rfl _ _ e1 ((pt (zP M) (xP M) (yP M)).toList) _ (rangeAp (ZZ.out.2.2.2.chg hc)) Try.underlying26 rfl (infoPt _ _ _) ⟨_, rfl, rfl, Chg.refl _⟩
    ·refine .inl ⟨wanted_by (T := _) (by kernel_rfl) hsz rfl (by decide : 14 < 22) rfl (hg 14 (by decide) (by decide)), ?_⟩
     have e1 : ac.eval (.tmp 43) = .agg (pt (zP S) (xP S) (yP S)) := hg 15 (by decide) (by decide)
     have e2 : ac.eval (.tmp 44) = .agg (pt (zP M) (xP M) (yP M)) := hg 16 (by decide) (by decide)
     refine opG_go 9 Try.f9 #[.tmp 43, .tmp 44] #[26, 26] rfl Try.func9 (by kernel_rfl) (by kernel_rfl) (by simp [e1, e2]) (Calls.mono (padQP_any HO.out.2.2.1 HO.out.2.2.2 HNo.out _) ?_)
     rintro r u2 ⟨rfl, hc2⟩
     exact ⟨_, rfl, rfl, hc2⟩
    ·refine .inl ⟨wanted_by (T := _) (by kernel_rfl) hsz rfl (by decide : 14 < 22) rfl (hg 14 (by decide) (by decide)), ?_⟩
     exact opG_built _ [(0, .bool true)] rfl (by kernel_rfl) builtPtZ rfl
    ·refine .inl ⟨wanted_by (T := _) (by kernel_rfl) hsz rfl (by decide : 14 < 22) rfl (hg 14 (by decide) (by decide)), ?_⟩
     have e1 : ac.eval (.tmp 45) = .agg (pt true 0 0) := hg 17 (by decide) (by decide)
     have e2 : ac.eval (.tmp 46) = .agg (pt true 0 0) := hg 18 (by decide) (by decide)
     exact opG_val (by revert e1 e2; generalize ac.eval = ρ; intro e1 e2; simp [go_sem, execOp, e1, e2, run_eqPt n0P n0P n0P n0P, eqPt_self]) rfl (Chg.refl _)
    ·refine .inl ⟨wanted_none rfl, ?_⟩
     have e1 : ac.eval (.tmp 42) = .bool true := hg 14 (by decide) (by decide)
     have e2 : ac.eval (.tmp 47) = .bool true := hg 19 (by decide) (by decide)
     have e3 : ac.eval (.const (.bool false)) = .bool false := rfl
     exact opG_val (by revert e1 e2 e3; generalize ac.eval = ρ; intro e1 e2 e3; simp [go_sem, execOp, e1, e2, e3]) rfl (Chg.refl _)
    ·refine .inl ⟨wanted_none rfl, ?_⟩
     have e1 : ac.eval (.tmp 48) = .bool true := hg 20 (by decide) (by decide)
     exact opG_val (by simp [execOp, e1]) rfl (Chg.refl _)
   ·intro u V hV hc
    have q4 : V 21 = .bool true := hV 21 (by decide)
    go_wp2_with fail
    go_meet
    exact ⟨q4, (ZZ.out.1.trans hc)⟩
  obtain ⟨rfl, hz⟩ := hcut
  obtain ⟨w10, hw10⟩ : ∃ zz0, zz0 = wc := ⟨_, rfl⟩
  rw [← hw10] at hz ⊢
  have Z10 : Hid _ := hz
  clear hw10 hz ZZ
  go_wp2_with fail
  go_ret
  exact ⟨rfl, Z10.out⟩
 case true =>
  go_upto_region 5 with fail
  go_cut [23] from 21 to 23 (fun v23 wc => v23 = .bool false ∧ Chg w wc ∧ Ar wc b6 (pt (zP S) (xP S) (yP S)) ∧ Ar wc b7 (pt (zP S) (xP S) (yP S)) ∧ Ar wc b8 (pt (zP S) (xP S) (yP S)))
  case first =>
   refine regP 3 (fun j v wg => match j with
    | 0 => v = .pointer (some ⟨b8, 0, none⟩)
    | 1 => v = .bool true
    | 2 => v = .bool false
    | _ => True) (by decide) (by kernel_rfl) ?_ ?_ ?_
   ·intro j v u1 u2 h hc; exact h
   ·intro i o ac u hi ho hsz hf hg hc
    have hcs : i = 0 ∨ i = 1 ∨ i = 2 := by omega
    rcases hcs with rfl | rfl | rfl <;> (injection ho with ho; subst ho; refine .inl ⟨wanted_none rfl, ?_⟩)
    ·have e1 : ac.eval (.tmp 8) = .pointer (some ⟨b8, 0, none⟩) := hf 8 (by kernel_rfl)
     exact opG_val (by revert e1; generalize ac.eval = ρ; intro e1; simp [go_sem, execOp, e1]) rfl (Chg.refl _)
    ·have e1 : ac.eval (.tmp 21) = .pointer (some ⟨b8, 0, none⟩) := hg 0 (by decide) (by decide)
     have c1 := cellPtZ (Z5.out.2.2.2.chg hc)
     exact opG_val (by revert e1; generalize ac.eval = ρ; intro e1; simp [go_sem, execOp, e1, c1, HZ.out]) rfl (Chg.refl _)
    ·have e1 : ac.eval (.tmp 22) = .bool true := hg 1 (by decide) (by decide)
     exact opG_val (by revert e1; generalize ac.eval = ρ; intro e1; simp [go_sem, execOp, e1]) rfl (Chg.refl _)
   ·intro u V hV hc
    have q23 : V 2 = .bool false := hV 2 (by decide)
    go_wp2_with fail
    go_meet
    exact ⟨q23, (Z5.out.1.trans hc), (Z5.out.2.1.chg hc), (Z5.out.2.2.1.chg hc), (Z5.out.2.2.2.chg hc)⟩
  obtain ⟨rfl, hz⟩ := hcut
  obtain ⟨w6, hw6⟩ : ∃ zz0, zz0 = wc := ⟨_, rfl⟩
  rw [← hw6] at hz ⊢
  have Z6 : Hid _ := hz
  clear hw6 hz Z5
  have HY : Hid _ := NG_z HZ.out
  rw [HM.out] at HY
  have Y9 := Z6.out
  have Y8 := Z6.out.2.2.2
  rw [HY.out] at Y8
  have ZZ : Hid (Chg w w6 ∧ Ar w6 b6 (pt (zP S) (xP S) (yP S)) ∧ Ar w6 b7 (pt (zP S) (xP S) (yP S)) ∧ Ar w6 b8 (pt (zP M) (xP M) (yP M))) := ⟨Z6.out.1, Z6.out.2.1, Z6.out.2.2.1, Y8⟩
  clear Y8 Y9 Z6
  go_upto_region 7 with fail
  go_cut [4] from 4 to 48 (fun v4 wc => v4 = .bool true ∧ Chg w wc)
  case first =>
   refine regP 22 (fun j v wg => match j with
    | 0 => v = .bool true
    | 1 => v = .bool true
    | 2 => v = .agg (pt (zP S) (xP S) (yP S))
    | 3 => v = .agg (pt (zP S) (xP S) (yP S))
    | 4 => v = .bool true
    | 5 => v = .bool true
    | 6 => v = .bool true
    | 7 => v = .agg (pt (zP S) (xP S) (yP S))
    | 8 => v = .bool true
    | 9 => v = .bool true
    | 10 => v = .bool true
    | 11 => v = .agg (pt (zP M) (xP M) (yP M))
    | 12 => v = .bool true
    | 13 => v = .bool true
    | 14 => v = .bool true
    | 15 => v = .agg (pt (zP S) (xP S) (yP S))
    | 16 => v = .agg (pt (zP M) (xP M) (yP M))
    | 17 => v = .agg (pt true 0 0)
    | 18 => v = .agg (pt true 0 0)
    | 19 => v = .bool true
    | 20 => v = .bool true
    | 21 => v = .bool true
    | _ => True) (by decide) (by kernel_rfl) ?_ ?_ ?_
   ·intro j v u1 u2 h hc; exact h
   ·intro i o ac u hi ho hsz hf hg hc
    have hcs : i = 0 ∨ i = 1 ∨ i = 2 ∨ i = 3 ∨ i = 4 ∨ i = 5 ∨ i = 6 ∨ i = 7 ∨ i = 8 ∨ i = 9 ∨ i = 10 ∨ i = 11 ∨ i = 12 ∨ i = 13 ∨ i = 14 ∨ i = 15 ∨ i = 16 ∨ i = 17 ∨ i = 18 ∨ i = 19 ∨ i = 20 ∨ i = 21 := by omega
    rcases hcs with rfl | rfl | rfl | rfl | rfl | rfl | rfl | rfl | rfl | rfl | rfl | rfl | rfl | rfl | rfl | rfl | rfl | rfl | rfl | rfl | rfl | rfl <;> (injection ho with ho; subst ho)
    ·refine .inl ⟨wanted_none rfl, ?_⟩
     have e1 : ac.eval (.tmp 5) = .bool true := hf 5 (by kernel_rfl)
     exact opG_val (by simp [execOp, e1]) rfl (Chg.refl _)
    ·refine .inl ⟨wanted_none rfl, ?_⟩
     have e1 : ac.eval (.tmp 28) = .bool true := hg 0 (by decide) (by decide)
     exact opG_val (by simp [execOp, e1]) rfl (Chg.refl _)
    ·refine .inl ⟨wanted_by (T := _) (by kernel_rfl) hsz rfl (by decide : 1 < 22) rfl (hg 1 (by decide) (by decide)), ?_⟩
     have e1 : ac.eval (.tmp 6) = .pointer (some ⟨b6, 0, none⟩) := hf 6 (by kernel_rfl)
     exact wp_load_mid 26 (.tmp 6) rfl _ _ e1 ((pt (zP S) (xP S) (yP S)).toList) _ (rangeAp (ZZ.out.2.1.chg hc)) Try.underlying26 rfl (infoPt _ _ _) ⟨_, rfl, rfl, Chg.refl _⟩
    ·refine .inl ⟨wanted_by (T := _) (by kernel_rfl) hsz rfl (by decide : 1 < 22) rfl (hg 1 (by decide) (by decide)), ?_⟩
     have e1 : ac.eval (.tmp 7) = .pointer (some ⟨b7, 0, none⟩) := hf 7 (by kernel_rfl)
     exact wp_load_mid 26 (.tmp 7) rfl _ _ e1 ((pt (zP S) (xP S) (yP S)).toList) _ (rangeAp (ZZ.out.2.2.1.chg hc)) Try.underlying26 rfl (infoPt _ _ _) ⟨_, rfl, rfl, Chg.refl _⟩
    ·refine .inl ⟨wanted_by (T := _) (by kernel_rfl) hsz rfl (by decide : 1 < 22) rfl (hg 1 (by decide) (by decide)), ?_⟩
     have e1 : ac.eval (.tmp 30) = .agg (pt (zP S) (xP S) (yP S)) := hg 2 (by decide) (by decide)
     have e2 : ac.eval (.tmp 31) = .agg (pt (zP S) (xP S) (yP S)) := hg 3 (by decide) (by decide)
     exact opG_val (by revert e1 e2; generalize ac.eval = ρ; intro e1 e2; simp [go_sem, execOp, e1, e2, run_eqPt (xP_N _) (yP_N _) (xP_N _) (yP_N _), eqPt_self]) rfl (Chg.refl _)
    ·refine .inl ⟨wanted_none rfl, ?_⟩
     have e1 : ac.eval (.tmp 29) = .bool true := hg 1 (by decide) (by decide)
     have e2 : ac.eval (.tmp 32) = .bool true := hg 4 (by decide) (by decide)
     have e3 : ac.eval (.const (.bool false)) = .bool false := rfl
     exact opG_val (by revert e1 e2 e3; generalize ac.eval = ρ; intro e1 e2 e3; simp [go_sem, execOp, e1, e2, e3]) rfl (Chg.refl _)
    ·refine .inl ⟨wanted_none rfl, ?_⟩
     have e1 : ac.eval (.tmp 33) = .bool true := hg 5 (by decide) (by decide)
     exact opG_val (by simp [execOp, e1]) rfl (Chg.refl _)
    ·refine .inl ⟨wanted_by (T := _) (by kernel_rfl) hsz rfl (by decide : 6 < 22) rfl (hg 6 (by decide) (by decide)), ?_⟩
     have e1 : ac.eval (.tmp 6) = .pointer (some ⟨b6, 0, none⟩) := hf 6 (by kernel_rfl)
     exact wp_load_mid 26 (.tmp 6) rfl _ _ e1 ((pt (zP S) (xP S) (yP S)).toList) _ (rangeAp (ZZ.out.2.1.chg hc)) Try.underlying26 rfl (infoPt _ _ _) ⟨_, rfl, rfl, Chg.refl _⟩
    ·refine .inl ⟨wanted_by (T := _) (by kernel_rfl) hsz rfl (by decide : 6 < 22) rfl (hg 6 (by decide) (by decide)), ?_⟩
     have e1 : ac.eval (.tmp 35) = .agg (pt (zP S) (xP S) (yP S)) := hg 7 (by decide) (by decide)
     refine opG_go 13 Try.f13 #[.tmp 35] #[26] rfl Try.func13 (by kernel_rfl) (by kernel_rfl) (by simp [e1]) (Calls.mono (onQL_any (xP_N _) (yP_N _) (onR_P HO.out.2.2.1) _) ?_)
     rintro r u2 ⟨rfl, hc2⟩
     exact ⟨_, rfl, rfl, hc2⟩
    ·refine .inl ⟨wanted_none rfl, ?_⟩
     have e1 : ac.eval (.tmp 34) = .bool true := hg 6 (by decide) (by decide)
     have e2 : ac.eval (.tmp 36) = .bool true := hg 8 (by decide) (by decide)
     have e3 : ac.eval (.const (.bool false)) = .bool false := rfl
     exact opG_val (by revert e1 e2 e3; generalize ac.eval = ρ; intro e1 e2 e3; simp [go_sem, execOp, e1, e2, e3]) rfl (Chg.refl _)
    ·refine .inl ⟨wanted_none rfl, ?_⟩
     have e1 : ac.eval (.tmp 37) = .bool true := hg 9 (by decide) (by decide)
     exact opG_val (by simp [execOp, e1]) rfl (Chg.refl _)
    ·refine .inl ⟨wanted_by (T := _) (by kernel_rfl) hsz rfl (by decide : 10 < 22) rfl (hg 10 (by decide) (by decide)), ?_⟩
     have e1 : ac.eval (.tmp 8) = .pointer (some ⟨b8, 0, none⟩) := hf 8 (by kernel_rfl)
     exact wp_load_mid 26 (.tmp 8) rfl _ _ e1 ((pt (zP M) (xP M) (yP M)).toList) _ (rangeAp (ZZ.out.2.2.2.chg hc)) Try.underlying26 rfl (infoPt _ _ _) ⟨_, rfl, rfl, Chg.refl _⟩
    ·refine .inl ⟨wanted_by (T := _) (by kernel_rfl) hsz rfl (by decide : 10 < 22) rfl (hg 10 (by decide) (by decide)), ?_⟩
     have e1 : ac.eval (.tmp 39) = .agg (pt (zP M) (xP M) (yP M)) := hg 11 (by decide) (by decide)
     refine opG_go 13 Try.f13 #[.tmp 39] #[26] rfl Try.func13 (by kernel_rfl) (by kernel_rfl) (by simp [e1]) (Calls.mono (onQL_any (xP_N _) (yP_N _) (onR_P HO.out.2.2.2) _) ?_)
     rintro r u2 ⟨rfl, hc2⟩
     exact ⟨_, rfl, rfl, hc2⟩
    ·refine .inl ⟨wanted_none rfl, ?_⟩
     have e1 : ac.eval (.tmp 38) = .bool true := hg 10 (by decide) (by decide)
     have e2 : ac.eval (.tmp 40) = .bool true := hg 12 (by decide) (by decide)
     have e3 : ac.eval (.const (.bool false)) = .bool false := rfl
     exact opG_val (by revert e1 e2 e3; generalize ac.eval = ρ; intro e1 e2 e3; simp [go_sem, execOp, e1, e2, e3]) rfl (Chg.refl _)
    ·refine .inl ⟨wanted_none rfl, ?_⟩
     have e1 : ac.eval (.tmp 41) = .bool true := hg 13 (by decide) (by decide)
     exact opG_val (by simp [execOp, e1]) rfl (Chg.refl _)
    ·refine .inl ⟨wanted_by (T := _) (by kernel_rfl) hsz rfl (by decide : 14 < 22) rfl (hg 14 (by decide) (by decide)), ?_⟩
     have e1 : ac.eval (.tmp 6) = .pointer (some ⟨b6, 0, none⟩) := hf 6 (by kernel_rfl)
     exact wp_load_mid 26 (.tmp 6) rfl _ _ e1 ((pt (zP S) (xP S) (yP S)).toList) _ (rangeAp (ZZ.out.2.1.chg hc)) Try.underlying26 rfl (infoPt _ _ _) ⟨_, rfl, rfl, Chg.refl _⟩
    ·refine .inl ⟨wanted_by (T := _) (by kernel_rfl) hsz rfl (by decide : 14 < 22) rfl (hg 14 (by decide) (by decide)), ?_⟩
     have e1 : ac.eval (.tmp 8) = .pointer (some ⟨b8, 0, none⟩) := hf 8 (by kernel_rfl)
     exact wp_load_mid 26 (.tmp 8) rfl _ _ e1 ((pt (zP M) (xP M) (yP M)).toList) _ (rangeAp (ZZ.out.2.2.2.chg hc)) Try.underlying26 rfl (infoPt _ _ _) ⟨_, rfl, rfl, Chg.refl _⟩
    ·refine .inl ⟨wanted_by (T := _) (by kernel_rfl) hsz rfl (by decide : 14 < 22) rfl (hg 14 (by decide) (by decide)), ?_⟩
     have e1 : ac.eval (.tmp 43) = .agg (pt (zP S) (xP S) (yP S)) := hg 15 (by decide) (by decide)
     have e2 : ac.eval (.tmp 44) = .agg (pt (zP M) (xP M) (yP M)) := hg 16 (by decide) (by decide)
     refine opG_go 9 Try.f9 #[.tmp 43, .tmp 44] #[26, 26] rfl Try.func9 (by kernel_rfl) (by kernel_rfl) (by simp [e1, e2]) (Calls.mono (padQP_any HO.out.2.2.1 HO.out.2.2.2 HNo.out _) ?_)
     rintro r u2 ⟨rfl, hc2⟩
     exact ⟨_, rfl, rfl, hc2⟩
    ·refine .inl ⟨wanted_by (T := _) (by kernel_rfl) hsz rfl (by decide : 14 < 22) rfl (hg 14 (by decide) (by decide)), ?_⟩
     exact opG_built _ [(0, .bool true)] rfl (by kernel_rfl) builtPtZ rfl
    ·refine .inl ⟨wanted_by (T := _) (by kernel_rfl) hsz rfl (by decide : 14 < 22) rfl (hg 14 (by decide) (by decide)), ?_⟩
     have e1 : ac.eval (.tmp 45) = .agg (pt true 0 0) := hg 17 (by decide) (by decide)
     have e2 : ac.eval (.tmp 46) = .agg (pt true 0 0) := hg 18 (by decide) (by decide)
     exact opG_val (by revert e1 e2; generalize ac.eval = ρ; intro e1 e2; simp [go_sem, execOp, e1, e2, run_eqPt n0P n0P n0P n0P, eqPt_self]) rfl (Chg.refl _)
    ·refine .inl ⟨wanted_none rfl, ?_⟩
     have e1 : ac.eval (.tmp 42) = .bool true := hg 14 (by decide) (by decide)
     have e2 : ac.eval (.tmp 47) = .bool true := hg 19 (by decide) (by decide)
     have e3 : ac.eval (.const (.bool false)) = .bool false := rfl
     exact opG_val (by revert e1 e2 e3; generalize ac.eval = ρ; intro e1 e2 e3; simp [go_sem, execOp, e1, e2, e3]) rfl (Chg.refl _)
    ·refine .inl ⟨wanted_none rfl, ?_⟩
     have e1 : ac.eval (.tmp 48) = .bool true := hg 20 (by decide) (by decide)
     exact opG_val (by simp [execOp, e1]) rfl (Chg.refl _)
   ·intro u V hV hc
    have q4 : V 21 = .bool true := hV 21 (by decide)
    go_wp2_with fail
    go_meet
    exact ⟨q4, (ZZ.out.1.trans hc)⟩
  obtain ⟨rfl, hz⟩ := hcut
  obtain ⟨w7, hw7⟩ : ∃ zz0, zz0 = wc := ⟨_, rfl⟩
  rw [← hw7] at hz ⊢
  have Z7 : Hid _ := hz
  clear hw7 hz ZZ
  go_wp2_with fail
  go_ret
  exact ⟨rfl, Z7.out⟩
end Go.Proofs.Ytbdgmkejmfjobaa
