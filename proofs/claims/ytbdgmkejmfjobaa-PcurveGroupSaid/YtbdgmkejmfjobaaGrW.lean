/-
  PcurveGroup walked.
-/
import Derived.Test.YtbdgmkejmfjobaaGp
namespace Go.Proofs.Ytbdgmkejmfjobaa
open Go.RowKit
set_option linter.unusedVariables false
set_option maxRecDepth 100000
set_option maxHeartbeats 16000000 in
theorem group_walk (k l m : Int) (hk : N256 k) (hl : N256 l) (hm : N256 m) (w : World) : Calls Try.prog 5 #[.agg (num k), .agg (num l), .agg (num m)] w fun r w' => r = .returned (.bool true) ∧ Chg w w' := by
 have HN : Hid (N256 k ∧ N256 l ∧ N256 m) := ⟨hk, hl, hm⟩
 obtain ⟨A, hA⟩ : ∃ A, MW GW k.toNat = A := ⟨_, rfl⟩
 obtain ⟨B, hB⟩ : ∃ B, MW GW l.toNat = B := ⟨_, rfl⟩
 obtain ⟨E, hE⟩ : ∃ E, MW GW m.toNat = E := ⟨_, rfl⟩
 have oA : ONW A := by rw [← hA]; exact on_G.mu _
 have oB : ONW B := by rw [← hB]; exact on_G.mu _
 have oE : ONW E := by rw [← hE]; exact on_G.mu _
 obtain ⟨AB, hAB⟩ : ∃ AB, AW A B = AB := ⟨_, rfl⟩
 obtain ⟨BE, hBE⟩ : ∃ BE, AW B E = BE := ⟨_, rfl⟩
 obtain ⟨S, hS⟩ : ∃ S, AW AB E = S := ⟨_, rfl⟩
 have HO : Hid (ONW A ∧ ONW B ∧ ONW E ∧ ONW AB ∧ ONW BE) := ⟨oA, oB, oE, by rw [← hAB]; exact oA.ad oB, by rw [← hBE]; exact oB.ad oE⟩
 have HA : Hid (MW GW k.toNat = A) := hA
 have HB : Hid (MW GW l.toNat = B) := hB
 have HE : Hid (MW GW m.toNat = E) := hE
 have HAB : Hid (AW A B = AB) := hAB
 have HBA : Hid (AW B A = AB) := by show AW B A = AB; rw [AW_comm oB oA, hAB]
 have HBE : Hid (AW B E = BE) := hBE
 have HS1 : Hid (AW AB E = S) := hS
 have HS2 : Hid (AW A BE = S) := by show AW A BE = S; rw [← hBE, ← AW_assoc oA oB oE, hAB, hS]
 have HSM : Hid (MW GW (md 3 (k + l)).toNat = AB) := by show MW GW (md 3 (k + l)).toNat = AB; rw [MW_sum hk.1 hl.1, hA, hB, hAB]
 have HNO : Hid (MW A (mo 3).toNat = none) := by show MW A (mo 3).toNat = none; rw [← hA]; exact MW_ord _
 clear hk hl hm hA hB hE oA oB oE hAB hBE hS
 have hsA0 := num_size k
 obtain ⟨A0, hA0⟩ : ∃ zz0, zz0 = num k := ⟨_, rfl⟩
 have HA0 : Hid (A0 = num k) := hA0
 have hsA1 := num_size l
 obtain ⟨A1, hA1⟩ : ∃ zz0, zz0 = num l := ⟨_, rfl⟩
 have HA1 : Hid (A1 = num l) := hA1
 have hsA2 := num_size m
 obtain ⟨A2, hA2⟩ : ∃ zz0, zz0 = num m := ⟨_, rfl⟩
 have HA2 : Hid (A2 = num m) := hA2
 rw [← hA0] at hsA0 ⊢
 rw [← hA1] at hsA1 ⊢
 rw [← hA2] at hsA2 ⊢
 clear hA0 hA1 hA2
 go_enter Try.func5, Try.ntmps5
 go_upto_region 1 with fail
 obtain ⟨w1, hw1⟩ : ∃ w1, w1 = ((w.alloc (.cells A0 24)).alloc (.cells A1 24)).alloc (.cells A2 24) := ⟨_, rfl⟩
 have Z1 : Hid (Chg w w1 ∧ Ar w1 w.heap.size (num k) ∧ Ar w1 (w.heap.size + 1) (num l) ∧ Ar w1 (w.heap.size + 1 + 1) (num m)) := by
  have hnew0 := Ar.new w (num k) 24
  have hnew1 := Ar.new (w.alloc (.cells (num k) 24)) (num l) 24
  rw [World.size_alloc] at hnew1
  have hnew2 := Ar.new ((w.alloc (.cells (num k) 24)).alloc (.cells (num l) 24)) (num m) 24
  rw [World.size_alloc, World.size_alloc] at hnew2
  rw [hw1, HA0.out, HA1.out, HA2.out]
  exact ⟨((((Chg.refl w).alloc _).alloc _).alloc _), (((hnew0).alloc _).alloc _), ((hnew1).alloc _), (hnew2)⟩
 rw [← hw1]
 clear hw1 hsA0 hsA1 hsA2 HA0 HA1 HA2
 go_cut [7] from 7 to 15 (fun v7 wc => v7 = .bool true ∧ Chg w wc ∧ Ar wc w.heap.size (num k) ∧ Ar wc (w.heap.size + 1) (num l) ∧ Ar wc (w.heap.size + 1 + 1) (num m))
 case first =>
  refine regP 2 (fun j v wg => match j with
   | 0 => v = .bool true
   | 1 => v = .bool true
   | _ => True) (by decide) (by kernel_rfl) ?_ ?_ ?_
  ·intro j v u1 u2 h hc; exact h
  ·intro i o ac u hi ho hsz hf hg hc
   have hcs : i = 0 ∨ i = 1 := by omega
   rcases hcs with rfl | rfl <;> (injection ho with ho; subst ho; refine .inl ⟨wanted_none rfl, ?_⟩)
   ·refine opG_go 8 Try.f8 #[] #[] rfl Try.func8 (by kernel_rfl) (by kernel_rfl) (by simp []) (Calls.mono (headQ_any _) ?_)
    rintro r u2 ⟨rfl, hc2⟩
    exact ⟨_, rfl, rfl, hc2⟩
   ·have e1 : ac.eval (.tmp 15) = .bool true := hg 0 (by decide) (by decide)
    exact opG_val (by simp [execOp, e1]) rfl (Chg.refl _)
  ·intro u V hV hc
   have q7 : V 1 = .bool true := hV 1 (by decide)
   go_wp2_with fail
   go_meet
   exact ⟨q7, (Z1.out.1.trans hc), (Z1.out.2.1.chg hc), (Z1.out.2.2.1.chg hc), (Z1.out.2.2.2.chg hc)⟩
 obtain ⟨rfl, hz⟩ := hcut
 obtain ⟨w2, hw2⟩ : ∃ zz0, zz0 = wc := ⟨_, rfl⟩
 rw [← hw2] at hz ⊢
 have Z2 : Hid _ := hz
 clear hw2 hz Z1
 go_upto_region 2 with fail
 go_cut [8] from 8 to 18 (fun v8 wc => ∃ b8, v8 = .pointer (some ⟨b8, 0, none⟩) ∧ Chg w wc ∧ Ar wc w.heap.size (num k) ∧ Ar wc (w.heap.size + 1) (num l) ∧ Ar wc (w.heap.size + 1 + 1) (num m) ∧ Ar wc b8 (pt (zP A) (xP A) (yP A)))
 case first =>
  refine regM 4 (fun j => j == 3) (fun j v wg => match j with
   | 0 => v = .agg (num k)
   | 1 => v = .agg (pt false gX gY)
   | 2 => v = .agg (pt (zP A) (xP A) (yP A))
   | 3 => ∃ b, v = .pointer (some ⟨b, 0, none⟩) ∧ Ar wg b (pt false 0 0) ∧ w2.heap.size ≤ b
   | _ => True) (by kernel_rfl) (by decide) (by kernel_rfl) (by kernel_rfl) (by kernel_rfl) (by kernel_rfl) ?_ ?_ ?_ ?_
  ·intro j v u1 u2 h hc
   match j, h with
   | 0, h => exact h
   | 1, h => exact h
   | 2, h => exact h
   | 3, h => (obtain ⟨b, h1, h2, h3⟩ := h; exact ⟨b, h1, h2.chg hc, h3⟩)
   | _ + 4, h => exact trivial
  ·intro j v u hj ha h
   have hcs : j = 3 := by simpa [or_assoc] using ha
   rcases hcs with rfl
   ·obtain ⟨b, h1, h2, h3⟩ := h; exact ⟨b, h1, h2.lt⟩
  ·intro i o ac u hi ho hsz hf hg hc
   have hcs : i = 0 ∨ i = 1 ∨ i = 2 ∨ i = 3 := by omega
   rcases hcs with rfl | rfl | rfl | rfl <;> (injection ho with ho; subst ho; refine ⟨wanted_none rfl, ?_⟩)
   ·exact ldN rfl (hf 3 (by kernel_rfl)) (rangeAp (Z2.out.2.1.chg hc)) ⟨rfl, fun h => by cases h⟩
   ·refine opG_go 15 Try.f15 #[] #[] rfl Try.func15 (by kernel_rfl) (by kernel_rfl) (by simp []) (Calls.mono (baseQ_any _) ?_)
    rintro r u2 ⟨rfl, hc2⟩
    exact ⟨_, rfl, ⟨rfl, fun h => by cases h⟩, hc2⟩
   ·have e1 : ac.eval (.tmp 16) = .agg (num k) := hg 0 (by kernel_rfl) (by decide)
    have e2 : ac.eval (.tmp 17) = .agg (pt false gX gY) := hg 1 (by kernel_rfl) (by decide)
    refine opG_go 11 Try.f11 #[.tmp 16, .tmp 17] #[24, 26] rfl Try.func11 (by kernel_rfl) (by kernel_rfl) (by simp [e1, e2]) (Calls.mono (multQG_any (HN.out.1) HA.out _) ?_)
    rintro r u2 ⟨rfl, hc2⟩
    exact ⟨_, rfl, ⟨rfl, fun h => by cases h⟩, hc2⟩
   ·exact opG_val (v := .pointer (some ⟨u.heap.size, 0, none⟩)) (w' := u.alloc (.cells (pt false 0 0) 26)) (by generalize ac.eval = ρ; simp [go_sem, execOp, zeroPt.1]) ⟨⟨_, rfl, Ar.new _ _ _, hc.size⟩, fun _ => rfl⟩ ((Chg.refl _).alloc _)
  ·intro u V hV hap hc
   have q18 : V 2 = .agg (pt (zP A) (xP A) (yP A)) := hV 2 (by decide)
   obtain ⟨b8, q8, r8, s8⟩ := hV 3 (by decide)
   have lw8 : w.heap.size ≤ b8 := Nat.le_trans Z2.out.1.size s8
   have hres0 := r8
   refine tail_cons rfl rfl ?_
   refine wp_store_mid 26 (.tmp 8) (.tmp 18) rfl b8 0 (pt (zP A) (xP A) (yP A)) (Eq.trans (by rfl) q8) (Eq.trans (by rfl) q18) (by rw [pt_size]; exact pt_there hres0) (szPt _ _ _) (pt_one _ _ _) ?_
   rw [setRowPt hres0 _ _ _]
   have k0_c : Chg w (u.setRow b8 (pt (zP A) (xP A) (yP A))) := ((Z2.out.1.trans hc).setRow lw8 _)
   have k0_B3 := (Z2.out.2.1.chg hc).rowOther (Z2.out.2.1.apart s8) (pt (zP A) (xP A) (yP A))
   have k0_B4 := (Z2.out.2.2.1.chg hc).rowOther (Z2.out.2.2.1.apart s8) (pt (zP A) (xP A) (yP A))
   have k0_B5 := (Z2.out.2.2.2.chg hc).rowOther (Z2.out.2.2.2.apart s8) (pt (zP A) (xP A) (yP A))
   have k0_B8 := hres0.row (pt (zP A) (xP A) (yP A))
   generalize (u.setRow b8 (pt (zP A) (xP A) (yP A))) = u10 at k0_c k0_B3 k0_B4 k0_B5 k0_B8 ⊢
   refine tail_nil rfl ?_
   go_wp2_with fail
   go_meet
   exact ⟨b8, q8, k0_c, k0_B3, k0_B4, k0_B5, k0_B8⟩
 obtain ⟨b8, rfl, hz⟩ := hcut
 obtain ⟨w3, hw3⟩ : ∃ zz0, zz0 = wc := ⟨_, rfl⟩
 rw [← hw3] at hz ⊢
 have Z3 : Hid _ := hz
 clear hw3 hz Z2
 go_upto_region 3 with fail
 go_cut [9] from 9 to 21 (fun v9 wc => ∃ b9, v9 = .pointer (some ⟨b9, 0, none⟩) ∧ Chg w wc ∧ Ar wc w.heap.size (num k) ∧ Ar wc (w.heap.size + 1) (num l) ∧ Ar wc (w.heap.size + 1 + 1) (num m) ∧ Ar wc b8 (pt (zP A) (xP A) (yP A)) ∧ Ar wc b9 (pt (zP B) (xP B) (yP B)))
 case first =>
  refine regM 4 (fun j => j == 3) (fun j v wg => match j with
   | 0 => v = .agg (num l)
   | 1 => v = .agg (pt false gX gY)
   | 2 => v = .agg (pt (zP B) (xP B) (yP B))
   | 3 => ∃ b, v = .pointer (some ⟨b, 0, none⟩) ∧ Ar wg b (pt false 0 0) ∧ w3.heap.size ≤ b
   | _ => True) (by kernel_rfl) (by decide) (by kernel_rfl) (by kernel_rfl) (by kernel_rfl) (by kernel_rfl) ?_ ?_ ?_ ?_
  ·intro j v u1 u2 h hc
   match j, h with
   | 0, h => exact h
   | 1, h => exact h
   | 2, h => exact h
   | 3, h => (obtain ⟨b, h1, h2, h3⟩ := h; exact ⟨b, h1, h2.chg hc, h3⟩)
   | _ + 4, h => exact trivial
  ·intro j v u hj ha h
   have hcs : j = 3 := by simpa [or_assoc] using ha
   rcases hcs with rfl
   ·obtain ⟨b, h1, h2, h3⟩ := h; exact ⟨b, h1, h2.lt⟩
  ·intro i o ac u hi ho hsz hf hg hc
   have hcs : i = 0 ∨ i = 1 ∨ i = 2 ∨ i = 3 := by omega
   rcases hcs with rfl | rfl | rfl | rfl <;> (injection ho with ho; subst ho; refine ⟨wanted_none rfl, ?_⟩)
   ·exact ldN rfl (hf 4 (by kernel_rfl)) (rangeAp (Z3.out.2.2.1.chg hc)) ⟨rfl, fun h => by cases h⟩
   ·refine opG_go 15 Try.f15 #[] #[] rfl Try.func15 (by kernel_rfl) (by kernel_rfl) (by simp []) (Calls.mono (baseQ_any _) ?_)
    rintro r u2 ⟨rfl, hc2⟩
    exact ⟨_, rfl, ⟨rfl, fun h => by cases h⟩, hc2⟩
   ·have e1 : ac.eval (.tmp 19) = .agg (num l) := hg 0 (by kernel_rfl) (by decide)
    have e2 : ac.eval (.tmp 20) = .agg (pt false gX gY) := hg 1 (by kernel_rfl) (by decide)
    refine opG_go 11 Try.f11 #[.tmp 19, .tmp 20] #[24, 26] rfl Try.func11 (by kernel_rfl) (by kernel_rfl) (by simp [e1, e2]) (Calls.mono (multQG_any (HN.out.2.1) HB.out _) ?_)
    rintro r u2 ⟨rfl, hc2⟩
    exact ⟨_, rfl, ⟨rfl, fun h => by cases h⟩, hc2⟩
   ·exact opG_val (v := .pointer (some ⟨u.heap.size, 0, none⟩)) (w' := u.alloc (.cells (pt false 0 0) 26)) (by generalize ac.eval = ρ; simp [go_sem, execOp, zeroPt.1]) ⟨⟨_, rfl, Ar.new _ _ _, hc.size⟩, fun _ => rfl⟩ ((Chg.refl _).alloc _)
  ·intro u V hV hap hc
   have q21 : V 2 = .agg (pt (zP B) (xP B) (yP B)) := hV 2 (by decide)
   obtain ⟨b9, q9, r9, s9⟩ := hV 3 (by decide)
   have lw9 : w.heap.size ≤ b9 := Nat.le_trans Z3.out.1.size s9
   have hres0 := r9
   refine tail_cons rfl rfl ?_
   refine wp_store_mid 26 (.tmp 9) (.tmp 21) rfl b9 0 (pt (zP B) (xP B) (yP B)) (Eq.trans (by rfl) q9) (Eq.trans (by rfl) q21) (by rw [pt_size]; exact pt_there hres0) (szPt _ _ _) (pt_one _ _ _) ?_
   rw [setRowPt hres0 _ _ _]
   have k0_c : Chg w (u.setRow b9 (pt (zP B) (xP B) (yP B))) := ((Z3.out.1.trans hc).setRow lw9 _)
   have k0_B3 := (Z3.out.2.1.chg hc).rowOther (Z3.out.2.1.apart s9) (pt (zP B) (xP B) (yP B))
   have k0_B4 := (Z3.out.2.2.1.chg hc).rowOther (Z3.out.2.2.1.apart s9) (pt (zP B) (xP B) (yP B))
   have k0_B5 := (Z3.out.2.2.2.1.chg hc).rowOther (Z3.out.2.2.2.1.apart s9) (pt (zP B) (xP B) (yP B))
   have k0_B8 := (Z3.out.2.2.2.2.chg hc).rowOther (Z3.out.2.2.2.2.apart s9) (pt (zP B) (xP B) (yP B))
   have k0_B9 := hres0.row (pt (zP B) (xP B) (yP B))
   generalize (u.setRow b9 (pt (zP B) (xP B) (yP B))) = u10 at k0_c k0_B3 k0_B4 k0_B5 k0_B8 k0_B9 ⊢
   refine tail_nil rfl ?_
   go_wp2_with fail
   go_meet
   exact ⟨b9, q9, k0_c, k0_B3, k0_B4, k0_B5, k0_B8, k0_B9⟩
 obtain ⟨b9, rfl, hz⟩ := hcut
 obtain ⟨w4, hw4⟩ : ∃ zz0, zz0 = wc := ⟨_, rfl⟩
 rw [← hw4] at hz ⊢
 have Z4 : Hid _ := hz
 clear hw4 hz Z3
 go_upto_region 4 with fail
 go_cut [10] from 10 to 24 (fun v10 wc => ∃ b10, v10 = .pointer (some ⟨b10, 0, none⟩) ∧ Chg w wc ∧ Ar wc w.heap.size (num k) ∧ Ar wc (w.heap.size + 1) (num l) ∧ Ar wc b8 (pt (zP A) (xP A) (yP A)) ∧ Ar wc b9 (pt (zP B) (xP B) (yP B)) ∧ Ar wc b10 (pt (zP E) (xP E) (yP E)))
 case first =>
  refine regM 4 (fun j => j == 3) (fun j v wg => match j with
   | 0 => v = .agg (num m)
   | 1 => v = .agg (pt false gX gY)
   | 2 => v = .agg (pt (zP E) (xP E) (yP E))
   | 3 => ∃ b, v = .pointer (some ⟨b, 0, none⟩) ∧ Ar wg b (pt false 0 0) ∧ w4.heap.size ≤ b
   | _ => True) (by kernel_rfl) (by decide) (by kernel_rfl) (by kernel_rfl) (by kernel_rfl) (by kernel_rfl) ?_ ?_ ?_ ?_
  ·intro j v u1 u2 h hc
   match j, h with
   | 0, h => exact h
   | 1, h => exact h
   | 2, h => exact h
   | 3, h => (obtain ⟨b, h1, h2, h3⟩ := h; exact ⟨b, h1, h2.chg hc, h3⟩)
   | _ + 4, h => exact trivial
  ·intro j v u hj ha h
   have hcs : j = 3 := by simpa [or_assoc] using ha
   rcases hcs with rfl
   ·obtain ⟨b, h1, h2, h3⟩ := h; exact ⟨b, h1, h2.lt⟩
  ·intro i o ac u hi ho hsz hf hg hc
   have hcs : i = 0 ∨ i = 1 ∨ i = 2 ∨ i = 3 := by omega
   rcases hcs with rfl | rfl | rfl | rfl <;> (injection ho with ho; subst ho; refine ⟨wanted_none rfl, ?_⟩)
   ·exact ldN rfl (hf 5 (by kernel_rfl)) (rangeAp (Z4.out.2.2.2.1.chg hc)) ⟨rfl, fun h => by cases h⟩
   ·refine opG_go 15 Try.f15 #[] #[] rfl Try.func15 (by kernel_rfl) (by kernel_rfl) (by simp []) (Calls.mono (baseQ_any _) ?_)
    rintro r u2 ⟨rfl, hc2⟩
    exact ⟨_, rfl, ⟨rfl, fun h => by cases h⟩, hc2⟩
   ·have e1 : ac.eval (.tmp 22) = .agg (num m) := hg 0 (by kernel_rfl) (by decide)
    have e2 : ac.eval (.tmp 23) = .agg (pt false gX gY) := hg 1 (by kernel_rfl) (by decide)
    refine opG_go 11 Try.f11 #[.tmp 22, .tmp 23] #[24, 26] rfl Try.func11 (by kernel_rfl) (by kernel_rfl) (by simp [e1, e2]) (Calls.mono (multQG_any (HN.out.2.2) HE.out _) ?_)
    rintro r u2 ⟨rfl, hc2⟩
    exact ⟨_, rfl, ⟨rfl, fun h => by cases h⟩, hc2⟩
   ·exact opG_val (v := .pointer (some ⟨u.heap.size, 0, none⟩)) (w' := u.alloc (.cells (pt false 0 0) 26)) (by generalize ac.eval = ρ; simp [go_sem, execOp, zeroPt.1]) ⟨⟨_, rfl, Ar.new _ _ _, hc.size⟩, fun _ => rfl⟩ ((Chg.refl _).alloc _)
  ·intro u V hV hap hc
   have q24 : V 2 = .agg (pt (zP E) (xP E) (yP E)) := hV 2 (by decide)
   obtain ⟨b10, q10, r10, s10⟩ := hV 3 (by decide)
   have lw10 : w.heap.size ≤ b10 := Nat.le_trans Z4.out.1.size s10
   have hres0 := r10
   refine tail_cons rfl rfl ?_
   refine wp_store_mid 26 (.tmp 10) (.tmp 24) rfl b10 0 (pt (zP E) (xP E) (yP E)) (Eq.trans (by rfl) q10) (Eq.trans (by rfl) q24) (by rw [pt_size]; exact pt_there hres0) (szPt _ _ _) (pt_one _ _ _) ?_
   rw [setRowPt hres0 _ _ _]
   have k0_c : Chg w (u.setRow b10 (pt (zP E) (xP E) (yP E))) := ((Z4.out.1.trans hc).setRow lw10 _)
   have k0_B3 := (Z4.out.2.1.chg hc).rowOther (Z4.out.2.1.apart s10) (pt (zP E) (xP E) (yP E))
   have k0_B4 := (Z4.out.2.2.1.chg hc).rowOther (Z4.out.2.2.1.apart s10) (pt (zP E) (xP E) (yP E))
   have k0_B8 := (Z4.out.2.2.2.2.1.chg hc).rowOther (Z4.out.2.2.2.2.1.apart s10) (pt (zP E) (xP E) (yP E))
   have k0_B9 := (Z4.out.2.2.2.2.2.chg hc).rowOther (Z4.out.2.2.2.2.2.apart s10) (pt (zP E) (xP E) (yP E))
   have k0_B10 := hres0.row (pt (zP E) (xP E) (yP E))
   generalize (u.setRow b10 (pt (zP E) (xP E) (yP E))) = u10 at k0_c k0_B3 k0_B4 k0_B8 k0_B9 k0_B10 ⊢
   refine tail_nil rfl ?_
   go_wp2_with fail
   go_meet
   exact ⟨b10, q10, k0_c, k0_B3, k0_B4, k0_B8, k0_B9, k0_B10⟩
 obtain ⟨b10, rfl, hz⟩ := hcut
 obtain ⟨w5, hw5⟩ : ∃ zz0, zz0 = wc := ⟨_, rfl⟩
 rw [← hw5] at hz ⊢
 have Z5 : Hid _ := hz
 clear hw5 hz Z4
 go_upto_region 5 with fail
 go_cut [11] from 11 to 35 (fun v11 wc => v11 = .bool true ∧ Chg w wc ∧ Ar wc w.heap.size (num k) ∧ Ar wc (w.heap.size + 1) (num l) ∧ Ar wc b8 (pt (zP A) (xP A) (yP A)) ∧ Ar wc b9 (pt (zP B) (xP B) (yP B)))
 case first =>
  refine regN 12 (fun j v wg => match j with
   | 0 => v = .agg (pt (zP A) (xP A) (yP A))
   | 1 => v = .agg (pt (zP B) (xP B) (yP B))
   | 2 => v = .agg (pt (zP AB) (xP AB) (yP AB))
   | 3 => v = .agg (pt (zP E) (xP E) (yP E))
   | 4 => v = .agg (pt (zP S) (xP S) (yP S))
   | 5 => v = .agg (pt (zP A) (xP A) (yP A))
   | 6 => v = .agg (pt (zP B) (xP B) (yP B))
   | 7 => v = .agg (pt (zP E) (xP E) (yP E))
   | 8 => v = .agg (pt (zP BE) (xP BE) (yP BE))
   | 9 => v = .agg (pt (zP S) (xP S) (yP S))
   | 10 => v = .bool true
   | 11 => v = .bool true
   | _ => True) (by kernel_rfl) (by kernel_rfl) (by kernel_rfl) (by kernel_rfl) ?_ ?_ ?_
  ·intro j v u1 u2 h hc; exact h
  ·intro i o ac u hi ho hsz hf hg hc
   have hcs : i = 0 ∨ i = 1 ∨ i = 2 ∨ i = 3 ∨ i = 4 ∨ i = 5 ∨ i = 6 ∨ i = 7 ∨ i = 8 ∨ i = 9 ∨ i = 10 ∨ i = 11 := by omega
   rcases hcs with rfl | rfl | rfl | rfl | rfl | rfl | rfl | rfl | rfl | rfl | rfl | rfl <;> (injection ho with ho; subst ho; refine .inl ⟨wanted_none rfl, ?_⟩)
   ·have e1 : ac.eval (.tmp 8) = .pointer (some ⟨b8, 0, none⟩) := hf 8 (by kernel_rfl)
    exact wp_load_mid 26 (.tmp 8) rfl _ _ e1 ((pt (zP A) (xP A) (yP A)).toList) _ (rangeAp (Z5.out.2.2.2.1.chg hc)) Try.underlying26 rfl (infoPt _ _ _) ⟨_, rfl, rfl, Chg.refl _⟩
   ·have e1 : ac.eval (.tmp 9) = .pointer (some ⟨b9, 0, none⟩) := hf 9 (by kernel_rfl)
    exact wp_load_mid 26 (.tmp 9) rfl _ _ e1 ((pt (zP B) (xP B) (yP B)).toList) _ (rangeAp (Z5.out.2.2.2.2.1.chg hc)) Try.underlying26 rfl (infoPt _ _ _) ⟨_, rfl, rfl, Chg.refl _⟩
   ·have e1 : ac.eval (.tmp 25) = .agg (pt (zP A) (xP A) (yP A)) := hg 0 (by kernel_rfl) (by decide)
    have e2 : ac.eval (.tmp 26) = .agg (pt (zP B) (xP B) (yP B)) := hg 1 (by kernel_rfl) (by decide)
    refine opG_go 9 Try.f9 #[.tmp 25, .tmp 26] #[26, 26] rfl Try.func9 (by kernel_rfl) (by kernel_rfl) (by simp [e1, e2]) (Calls.mono (padQP_any HO.out.1 HO.out.2.1 HAB.out _) ?_)
    rintro r u2 ⟨rfl, hc2⟩
    exact ⟨_, rfl, rfl, hc2⟩
   ·have e1 : ac.eval (.tmp 10) = .pointer (some ⟨b10, 0, none⟩) := hf 10 (by kernel_rfl)
    exact wp_load_mid 26 (.tmp 10) rfl _ _ e1 ((pt (zP E) (xP E) (yP E)).toList) _ (rangeAp (Z5.out.2.2.2.2.2.chg hc)) Try.underlying26 rfl (infoPt _ _ _) ⟨_, rfl, rfl, Chg.refl _⟩
   ·have e1 : ac.eval (.tmp 27) = .agg (pt (zP AB) (xP AB) (yP AB)) := hg 2 (by kernel_rfl) (by decide)
    have e2 : ac.eval (.tmp 28) = .agg (pt (zP E) (xP E) (yP E)) := hg 3 (by kernel_rfl) (by decide)
    refine opG_go 9 Try.f9 #[.tmp 27, .tmp 28] #[26, 26] rfl Try.func9 (by kernel_rfl) (by kernel_rfl) (by simp [e1, e2]) (Calls.mono (padQP_any HO.out.2.2.2.1 HO.out.2.2.1 HS1.out _) ?_)
    rintro r u2 ⟨rfl, hc2⟩
    exact ⟨_, rfl, rfl, hc2⟩
   ·have e1 : ac.eval (.tmp 8) = .pointer (some ⟨b8, 0, none⟩) := hf 8 (by kernel_rfl)
    exact wp_load_mid 26 (.tmp 8) rfl _ _ e1 ((pt (zP A) (xP A) (yP A)).toList) _ (rangeAp (Z5.out.2.2.2.1.chg hc)) Try.underlying26 rfl (infoPt _ _ _) ⟨_, rfl, rfl, Chg.refl _⟩
   ·have e1 : ac.eval (.tmp 9) = .pointer (some ⟨b9, 0, none⟩) := hf 9 (by kernel_rfl)
    exact wp_load_mid 26 (.tmp 9) rfl _ _ e1 ((pt (zP B) (xP B) (yP B)).toList) _ (rangeAp (Z5.out.2.2.2.2.1.chg hc)) Try.underlying26 rfl (infoPt _ _ _) ⟨_, rfl, rfl, Chg.refl _⟩
   ·have e1 : ac.eval (.tmp 10) = .pointer (some ⟨b10, 0, none⟩) := hf 10 (by kernel_rfl)
    exact wp_load_mid 26 (.tmp 10) rfl _ _ e1 ((pt (zP E) (xP E) (yP E)).toList) _ (rangeAp (Z5.out.2.2.2.2.2.chg hc)) Try.underlying26 rfl (infoPt _ _ _) ⟨_, rfl, rfl, Chg.refl _⟩
   ·have e1 : ac.eval (.tmp 31) = .agg (pt (zP B) (xP B) (yP B)) := hg 6 (by kernel_rfl) (by decide)
    have e2 : ac.eval (.tmp 32) = .agg (pt (zP E) (xP E) (yP E)) := hg 7 (by kernel_rfl) (by decide)
    refine opG_go 9 Try.f9 #[.tmp 31, .tmp 32] #[26, 26] rfl Try.func9 (by kernel_rfl) (by kernel_rfl) (by simp [e1, e2]) (Calls.mono (padQP_any HO.out.2.1 HO.out.2.2.1 HBE.out _) ?_)
    rintro r u2 ⟨rfl, hc2⟩
    exact ⟨_, rfl, rfl, hc2⟩
   ·have e1 : ac.eval (.tmp 30) = .agg (pt (zP A) (xP A) (yP A)) := hg 5 (by kernel_rfl) (by decide)
    have e2 : ac.eval (.tmp 33) = .agg (pt (zP BE) (xP BE) (yP BE)) := hg 8 (by kernel_rfl) (by decide)
    refine opG_go 9 Try.f9 #[.tmp 30, .tmp 33] #[26, 26] rfl Try.func9 (by kernel_rfl) (by kernel_rfl) (by simp [e1, e2]) (Calls.mono (padQP_any HO.out.1 HO.out.2.2.2.2 HS2.out _) ?_)
    rintro r u2 ⟨rfl, hc2⟩
    exact ⟨_, rfl, rfl, hc2⟩
   ·have e1 : ac.eval (.tmp 29) = .agg (pt (zP S) (xP S) (yP S)) := hg 4 (by kernel_rfl) (by decide)
    have e2 : ac.eval (.tmp 34) = .agg (pt (zP S) (xP S) (yP S)) := hg 9 (by kernel_rfl) (by decide)
    exact opG_val (by revert e1 e2; generalize ac.eval = ρ; intro e1 e2; simp [go_sem, execOp, e1, e2, run_eqPt (xP_N _) (yP_N _) (xP_N _) (yP_N _), eqPt_self]) rfl (Chg.refl _)
   ·have e1 : ac.eval (.tmp 35) = .bool true := hg 10 (by kernel_rfl) (by decide)
    exact opG_val (by simp [execOp, e1]) rfl (Chg.refl _)
  ·intro u V hV hc
   have q11 : V 11 = .bool true := hV 11 (by decide)
   go_wp2_with fail
   go_meet
   exact ⟨q11, (Z5.out.1.trans hc), (Z5.out.2.1.chg hc), (Z5.out.2.2.1.chg hc), (Z5.out.2.2.2.1.chg hc), (Z5.out.2.2.2.2.1.chg hc)⟩
 obtain ⟨rfl, hz⟩ := hcut
 obtain ⟨w6, hw6⟩ : ∃ zz0, zz0 = wc := ⟨_, rfl⟩
 rw [← hw6] at hz ⊢
 have Z6 : Hid _ := hz
 clear hw6 hz Z5
 go_upto_region 6 with fail
 go_cut [12] from 12 to 42 (fun v12 wc => v12 = .bool true ∧ Chg w wc ∧ Ar wc w.heap.size (num k) ∧ Ar wc (w.heap.size + 1) (num l) ∧ Ar wc b8 (pt (zP A) (xP A) (yP A)) ∧ Ar wc b9 (pt (zP B) (xP B) (yP B)))
 case first =>
  refine regN 8 (fun j v wg => match j with
   | 0 => v = .agg (pt (zP A) (xP A) (yP A))
   | 1 => v = .agg (pt (zP B) (xP B) (yP B))
   | 2 => v = .agg (pt (zP AB) (xP AB) (yP AB))
   | 3 => v = .agg (pt (zP B) (xP B) (yP B))
   | 4 => v = .agg (pt (zP A) (xP A) (yP A))
   | 5 => v = .agg (pt (zP AB) (xP AB) (yP AB))
   | 6 => v = .bool true
   | 7 => v = .bool true
   | _ => True) (by kernel_rfl) (by kernel_rfl) (by kernel_rfl) (by kernel_rfl) ?_ ?_ ?_
  ·intro j v u1 u2 h hc; exact h
  ·intro i o ac u hi ho hsz hf hg hc
   have hcs : i = 0 ∨ i = 1 ∨ i = 2 ∨ i = 3 ∨ i = 4 ∨ i = 5 ∨ i = 6 ∨ i = 7 := by omega
   rcases hcs with rfl | rfl | rfl | rfl | rfl | rfl | rfl | rfl <;> (injection ho with ho; subst ho; refine .inl ⟨wanted_none rfl, ?_⟩)
   ·have e1 : ac.eval (.tmp 8) = .pointer (some ⟨b8, 0, none⟩) := hf 8 (by kernel_rfl)
    exact wp_load_mid 26 (.tmp 8) rfl _ _ e1 ((pt (zP A) (xP A) (yP A)).toList) _ (rangeAp (Z6.out.2.2.2.1.chg hc)) Try.underlying26 rfl (infoPt _ _ _) ⟨_, rfl, rfl, Chg.refl _⟩
   ·have e1 : ac.eval (.tmp 9) = .pointer (some ⟨b9, 0, none⟩) := hf 9 (by kernel_rfl)
    exact wp_load_mid 26 (.tmp 9) rfl _ _ e1 ((pt (zP B) (xP B) (yP B)).toList) _ (rangeAp (Z6.out.2.2.2.2.chg hc)) Try.underlying26 rfl (infoPt _ _ _) ⟨_, rfl, rfl, Chg.refl _⟩
   ·have e1 : ac.eval (.tmp 36) = .agg (pt (zP A) (xP A) (yP A)) := hg 0 (by kernel_rfl) (by decide)
    have e2 : ac.eval (.tmp 37) = .agg (pt (zP B) (xP B) (yP B)) := hg 1 (by kernel_rfl) (by decide)
    refine opG_go 9 Try.f9 #[.tmp 36, .tmp 37] #[26, 26] rfl Try.func9 (by kernel_rfl) (by kernel_rfl) (by simp [e1, e2]) (Calls.mono (padQP_any HO.out.1 HO.out.2.1 HAB.out _) ?_)
    rintro r u2 ⟨rfl, hc2⟩
    exact ⟨_, rfl, rfl, hc2⟩
   ·have e1 : ac.eval (.tmp 9) = .pointer (some ⟨b9, 0, none⟩) := hf 9 (by kernel_rfl)
    exact wp_load_mid 26 (.tmp 9) rfl _ _ e1 ((pt (zP B) (xP B) (yP B)).toList) _ (rangeAp (Z6.out.2.2.2.2.chg hc)) Try.underlying26 rfl (infoPt _ _ _) ⟨_, rfl, rfl, Chg.refl _⟩
   ·have e1 : ac.eval (.tmp 8) = .pointer (some ⟨b8, 0, none⟩) := hf 8 (by kernel_rfl)
    exact wp_load_mid 26 (.tmp 8) rfl _ _ e1 ((pt (zP A) (xP A) (yP A)).toList) _ (rangeAp (Z6.out.2.2.2.1.chg hc)) Try.underlying26 rfl (infoPt _ _ _) ⟨_, rfl, rfl, Chg.refl _⟩
   ·have e1 : ac.eval (.tmp 39) = .agg (pt (zP B) (xP B) (yP B)) := hg 3 (by kernel_rfl) (by decide)
    have e2 : ac.eval (.tmp 40) = .agg (pt (zP A) (xP A) (yP A)) := hg 4 (by kernel_rfl) (by decide)
    refine opG_go 9 Try.f9 #[.tmp 39, .tmp 40] #[26, 26] rfl Try.func9 (by kernel_rfl) (by kernel_rfl) (by simp [e1, e2]) (Calls.mono (padQP_any HO.out.2.1 HO.out.1 HBA.out _) ?_)
    rintro r u2 ⟨rfl, hc2⟩
    exact ⟨_, rfl, rfl, hc2⟩
   ·have e1 : ac.eval (.tmp 38) = .agg (pt (zP AB) (xP AB) (yP AB)) := hg 2 (by kernel_rfl) (by decide)
    have e2 : ac.eval (.tmp 41) = .agg (pt (zP AB) (xP AB) (yP AB)) := hg 5 (by kernel_rfl) (by decide)
    exact opG_val (by revert e1 e2; generalize ac.eval = ρ; intro e1 e2; simp [go_sem, execOp, e1, e2, run_eqPt (xP_N _) (yP_N _) (xP_N _) (yP_N _), eqPt_self]) rfl (Chg.refl _)
   ·have e1 : ac.eval (.tmp 42) = .bool true := hg 6 (by kernel_rfl) (by decide)
    exact opG_val (by simp [execOp, e1]) rfl (Chg.refl _)
  ·intro u V hV hc
   have q12 : V 7 = .bool true := hV 7 (by decide)
   go_wp2_with fail
   go_meet
   exact ⟨q12, (Z6.out.1.trans hc), (Z6.out.2.1.chg hc), (Z6.out.2.2.1.chg hc), (Z6.out.2.2.2.1.chg hc), (Z6.out.2.2.2.2.chg hc)⟩
 obtain ⟨rfl, hz⟩ := hcut
 obtain ⟨w7, hw7⟩ : ∃ zz0, zz0 = wc := ⟨_, rfl⟩
 rw [← hw7] at hz ⊢
 have Z7 : Hid _ := hz
 clear hw7 hz Z6
 go_upto_region 7 with fail
 go_cut [13] from 13 to 47 (fun v13 wc => ∃ b13, v13 = .pointer (some ⟨b13, 0, none⟩) ∧ Chg w wc ∧ Ar wc b8 (pt (zP A) (xP A) (yP A)) ∧ Ar wc b9 (pt (zP B) (xP B) (yP B)) ∧ Ar wc b13 (pt (zP AB) (xP AB) (yP AB)))
 case first =>
  refine regP 6 (fun j v wg => match j with
   | 0 => v = .agg (num k)
   | 1 => v = .agg (num l)
   | 2 => v = .agg (num (md 3 (k + l)))
   | 3 => v = .agg (pt false gX gY)
   | 4 => v = .agg (pt (zP AB) (xP AB) (yP AB))
   | 5 => ∃ b, v = .pointer (some ⟨b, 0, none⟩) ∧ Ar wg b (pt false 0 0) ∧ w7.heap.size ≤ b
   | _ => True) (by decide) (by kernel_rfl) ?_ ?_ ?_
  ·intro j v u1 u2 h hc
   match j, h with
   | 0, h => exact h
   | 1, h => exact h
   | 2, h => exact h
   | 3, h => exact h
   | 4, h => exact h
   | 5, h => (obtain ⟨b, h1, h2, h3⟩ := h; exact ⟨b, h1, h2.chg hc, h3⟩)
   | _ + 6, h => exact trivial
  ·intro i o ac u hi ho hsz hf hg hc
   have hcs : i = 0 ∨ i = 1 ∨ i = 2 ∨ i = 3 ∨ i = 4 ∨ i = 5 := by omega
   rcases hcs with rfl | rfl | rfl | rfl | rfl | rfl <;> (injection ho with ho; subst ho; refine .inl ⟨wanted_none rfl, ?_⟩)
   ·exact ldN rfl (hf 3 (by kernel_rfl)) (rangeAp (Z7.out.2.1.chg hc)) rfl
   ·exact ldN rfl (hf 4 (by kernel_rfl)) (rangeAp (Z7.out.2.2.1.chg hc)) rfl
   ·have e1 : ac.eval (.const (.int .i64 3)) = .int .i64 3 := rfl
    have e2 : ac.eval (.tmp 43) = .agg (num k) := hg 0 (by decide) (by decide)
    have e3 : ac.eval (.tmp 44) = .agg (num l) := hg 1 (by decide) (by decide)
    refine opG_go 19 Try.f19 #[.const (.int .i64 3), .tmp 43, .tmp 44] #[35, 24, 24] rfl Try.func19 (by kernel_rfl) (by kernel_rfl) (by simp [e1, e2, e3]) (Calls.mono (addR_any 3 k l (HN.out.1) (HN.out.2.1) _) ?_)
    rintro r u2 ⟨rfl, hc2⟩
    exact ⟨_, rfl, rfl, hc2⟩
   ·refine opG_go 15 Try.f15 #[] #[] rfl Try.func15 (by kernel_rfl) (by kernel_rfl) (by simp []) (Calls.mono (baseQ_any _) ?_)
    rintro r u2 ⟨rfl, hc2⟩
    exact ⟨_, rfl, rfl, hc2⟩
   ·have e1 : ac.eval (.tmp 45) = .agg (num (md 3 (k + l))) := hg 2 (by decide) (by decide)
    have e2 : ac.eval (.tmp 46) = .agg (pt false gX gY) := hg 3 (by decide) (by decide)
    refine opG_go 11 Try.f11 #[.tmp 45, .tmp 46] #[24, 26] rfl Try.func11 (by kernel_rfl) (by kernel_rfl) (by simp [e1, e2]) (Calls.mono (multQG_any (md_N _ _) HSM.out _) ?_)
    rintro r u2 ⟨rfl, hc2⟩
    exact ⟨_, rfl, rfl, hc2⟩
   ·exact opG_val (v := .pointer (some ⟨u.heap.size, 0, none⟩)) (w' := u.alloc (.cells (pt false 0 0) 26)) (by generalize ac.eval = ρ; simp [go_sem, execOp, zeroPt.1]) ⟨_, rfl, Ar.new _ _ _, hc.size⟩ ((Chg.refl _).alloc _)
  ·intro u V hV hc
   have q47 : V 4 = .agg (pt (zP AB) (xP AB) (yP AB)) := hV 4 (by decide)
   obtain ⟨b13, q13, r13, s13⟩ := hV 5 (by decide)
   have lw13 : w.heap.size ≤ b13 := Nat.le_trans Z7.out.1.size s13
   have hres0 := r13
   refine wpList_store_mid rfl 26 (.tmp 13) (.tmp 47) rfl b13 0 (pt (zP AB) (xP AB) (yP AB)) (Eq.trans (by rfl) q13) (Eq.trans (by rfl) q47) (by rw [pt_size]; exact pt_there hres0) (szPt _ _ _) (pt_one _ _ _) ?_
   rw [setRowPt hres0 _ _ _]
   have k0_c : Chg w (u.setRow b13 (pt (zP AB) (xP AB) (yP AB))) := ((Z7.out.1.trans hc).setRow lw13 _)
   have k0_B8 := (Z7.out.2.2.2.1.chg hc).rowOther (Z7.out.2.2.2.1.apart s13) (pt (zP AB) (xP AB) (yP AB))
   have k0_B9 := (Z7.out.2.2.2.2.chg hc).rowOther (Z7.out.2.2.2.2.apart s13) (pt (zP AB) (xP AB) (yP AB))
   have k0_B13 := hres0.row (pt (zP AB) (xP AB) (yP AB))
   generalize (u.setRow b13 (pt (zP AB) (xP AB) (yP AB))) = u10 at k0_c k0_B8 k0_B9 k0_B13 ⊢
   go_wp2_with fail
   go_meet
   exact ⟨b13, q13, k0_c, k0_B8, k0_B9, k0_B13⟩
 obtain ⟨b13, rfl, hz⟩ := hcut
 obtain ⟨w8, hw8⟩ : ∃ zz0, zz0 = wc := ⟨_, rfl⟩
 rw [← hw8] at hz ⊢
 have Z8 : Hid _ := hz
 clear hw8 hz Z7
 go_upto_region 8 with fail
 go_cut [14] from 14 to 50 (fun v14 wc => ∃ b14, v14 = .pointer (some ⟨b14, 0, none⟩) ∧ Chg w wc ∧ Ar wc b8 (pt (zP A) (xP A) (yP A)) ∧ Ar wc b9 (pt (zP B) (xP B) (yP B)) ∧ Ar wc b13 (pt (zP AB) (xP AB) (yP AB)) ∧ Ar wc b14 (pt true 0 0))
 case first =>
  refine regM 4 (fun j => j == 3) (fun j v wg => match j with
   | 0 => v = .agg (num (mo 3))
   | 1 => v = .agg (pt (zP A) (xP A) (yP A))
   | 2 => v = .agg (pt true 0 0)
   | 3 => ∃ b, v = .pointer (some ⟨b, 0, none⟩) ∧ Ar wg b (pt false 0 0) ∧ w8.heap.size ≤ b
   | _ => True) (by kernel_rfl) (by decide) (by kernel_rfl) (by kernel_rfl) (by kernel_rfl) (by kernel_rfl) ?_ ?_ ?_ ?_
  ·intro j v u1 u2 h hc
   match j, h with
   | 0, h => exact h
   | 1, h => exact h
   | 2, h => exact h
   | 3, h => (obtain ⟨b, h1, h2, h3⟩ := h; exact ⟨b, h1, h2.chg hc, h3⟩)
   | _ + 4, h => exact trivial
  ·intro j v u hj ha h
   have hcs : j = 3 := by simpa [or_assoc] using ha
   rcases hcs with rfl
   ·obtain ⟨b, h1, h2, h3⟩ := h; exact ⟨b, h1, h2.lt⟩
  ·intro i o ac u hi ho hsz hf hg hc
   have hcs : i = 0 ∨ i = 1 ∨ i = 2 ∨ i = 3 := by omega
   rcases hcs with rfl | rfl | rfl | rfl <;> (injection ho with ho; subst ho; refine ⟨wanted_none rfl, ?_⟩)
   ·have e1 : ac.eval (.const (.int .i64 3)) = .int .i64 3 := rfl
    refine opG_go 20 Try.f20 #[.const (.int .i64 3)] #[35] rfl Try.func20 (by kernel_rfl) (by kernel_rfl) (by simp [e1]) (Calls.mono (modulusR_any 3 _) ?_)
    rintro r u2 ⟨rfl, hc2⟩
    exact ⟨_, rfl, ⟨rfl, fun h => by cases h⟩, hc2⟩
   ·have e1 : ac.eval (.tmp 8) = .pointer (some ⟨b8, 0, none⟩) := hf 8 (by kernel_rfl)
    exact wp_load_mid 26 (.tmp 8) rfl _ _ e1 ((pt (zP A) (xP A) (yP A)).toList) _ (rangeAp (Z8.out.2.1.chg hc)) Try.underlying26 rfl (infoPt _ _ _) ⟨_, rfl, ⟨rfl, fun h => by cases h⟩, Chg.refl _⟩
   ·have e1 : ac.eval (.tmp 48) = .agg (num (mo 3)) := hg 0 (by kernel_rfl) (by decide)
    have e2 : ac.eval (.tmp 49) = .agg (pt (zP A) (xP A) (yP A)) := hg 1 (by kernel_rfl) (by decide)
    refine opG_go 11 Try.f11 #[.tmp 48, .tmp 49] #[24, 26] rfl Try.func11 (by kernel_rfl) (by kernel_rfl) (by simp [e1, e2]) (Calls.mono (multQP_any HO.out.1 mo_N3 HNO.out _) ?_)
    rintro r u2 ⟨rfl, hc2⟩
    exact ⟨_, rfl, ⟨rfl, fun h => by cases h⟩, hc2⟩
   ·exact opG_val (v := .pointer (some ⟨u.heap.size, 0, none⟩)) (w' := u.alloc (.cells (pt false 0 0) 26)) (by generalize ac.eval = ρ; simp [go_sem, execOp, zeroPt.1]) ⟨⟨_, rfl, Ar.new _ _ _, hc.size⟩, fun _ => rfl⟩ ((Chg.refl _).alloc _)
  ·intro u V hV hap hc
   have q50 : V 2 = .agg (pt true 0 0) := hV 2 (by decide)
   obtain ⟨b14, q14, r14, s14⟩ := hV 3 (by decide)
   have lw14 : w.heap.size ≤ b14 := Nat.le_trans Z8.out.1.size s14
   have hres0 := r14
   refine tail_cons rfl rfl ?_
   refine wp_store_mid 26 (.tmp 14) (.tmp 50) rfl b14 0 (pt true 0 0) (Eq.trans (by rfl) q14) (Eq.trans (by rfl) q50) (by rw [pt_size]; exact pt_there hres0) (szPt _ _ _) (pt_one _ _ _) ?_
   rw [setRowPt hres0 _ _ _]
   have k0_c : Chg w (u.setRow b14 (pt true 0 0)) := ((Z8.out.1.trans hc).setRow lw14 _)
   have k0_B8 := (Z8.out.2.1.chg hc).rowOther (Z8.out.2.1.apart s14) (pt true 0 0)
   have k0_B9 := (Z8.out.2.2.1.chg hc).rowOther (Z8.out.2.2.1.apart s14) (pt true 0 0)
   have k0_B13 := (Z8.out.2.2.2.chg hc).rowOther (Z8.out.2.2.2.apart s14) (pt true 0 0)
   have k0_B14 := hres0.row (pt true 0 0)
   generalize (u.setRow b14 (pt true 0 0)) = u10 at k0_c k0_B8 k0_B9 k0_B13 k0_B14 ⊢
   refine tail_nil rfl ?_
   go_wp2_with fail
   go_meet
   exact ⟨b14, q14, k0_c, k0_B8, k0_B9, k0_B13, k0_B14⟩
 obtain ⟨b14, rfl, hz⟩ := hcut
 obtain ⟨w9, hw9⟩ : ∃ zz0, zz0 = wc := ⟨_, rfl⟩
 rw [← hw9] at hz ⊢
 have Z9 : Hid _ := hz
 clear hw9 hz Z8
 go_upto_region 9 with fail
 go_cut [6] from 6 to 69 (fun v6 wc => v6 = .bool true ∧ Chg w wc)
 case first =>
  refine regN 20 (fun j v wg => match j with
   | 0 => v = .bool true
   | 1 => v = .bool true
   | 2 => v = .bool true
   | 3 => v = .bool true
   | 4 => v = .bool true
   | 5 => v = .bool true
   | 6 => v = .bool true
   | 7 => v = .bool true
   | 8 => v = .agg (pt (zP AB) (xP AB) (yP AB))
   | 9 => v = .agg (pt (zP A) (xP A) (yP A))
   | 10 => v = .agg (pt (zP B) (xP B) (yP B))
   | 11 => v = .agg (pt (zP AB) (xP AB) (yP AB))
   | 12 => v = .bool true
   | 13 => v = .bool true
   | 14 => v = .bool true
   | 15 => v = .agg (pt true 0 0)
   | 16 => v = .agg (pt true 0 0)
   | 17 => v = .bool true
   | 18 => v = .bool true
   | 19 => v = .bool true
   | _ => True) (by kernel_rfl) (by kernel_rfl) (by kernel_rfl) (by kernel_rfl) ?_ ?_ ?_
  ·intro j v u1 u2 h hc; exact h
  ·intro i o ac u hi ho hsz hf hg hc
   have hcs : i = 0 ∨ i = 1 ∨ i = 2 ∨ i = 3 ∨ i = 4 ∨ i = 5 ∨ i = 6 ∨ i = 7 ∨ i = 8 ∨ i = 9 ∨ i = 10 ∨ i = 11 ∨ i = 12 ∨ i = 13 ∨ i = 14 ∨ i = 15 ∨ i = 16 ∨ i = 17 ∨ i = 18 ∨ i = 19 := by omega
   rcases hcs with rfl | rfl | rfl | rfl | rfl | rfl | rfl | rfl | rfl | rfl | rfl | rfl | rfl | rfl | rfl | rfl | rfl | rfl | rfl | rfl <;> (injection ho with ho; subst ho)
   ·refine .inl ⟨wanted_none rfl, ?_⟩
    have e1 : ac.eval (.tmp 7) = .bool true := hf 7 (by kernel_rfl)
    exact opG_val (by simp [execOp, e1]) rfl (Chg.refl _)
   ·refine .inl ⟨wanted_none rfl, ?_⟩
    have e1 : ac.eval (.tmp 51) = .bool true := hg 0 (by kernel_rfl) (by decide)
    exact opG_val (by simp [execOp, e1]) rfl (Chg.refl _)
   ·refine .inl ⟨wanted_by (T := _) (by kernel_rfl) hsz rfl (by decide : 1 < 20) rfl (hg 1 (by kernel_rfl) (by decide)), ?_⟩
    have e1 : ac.eval (.tmp 11) = .bool true := hf 11 (by kernel_rfl)
    exact opG_val (by simp [execOp, e1]) rfl (Chg.refl _)
   ·refine .inl ⟨wanted_none rfl, ?_⟩
    have e1 : ac.eval (.tmp 52) = .bool true := hg 1 (by kernel_rfl) (by decide)
    have e2 : ac.eval (.tmp 53) = .bool true := hg 2 (by kernel_rfl) (by decide)
    have e3 : ac.eval (.const (.bool false)) = .bool false := rfl
    exact opG_val (by revert e1 e2 e3; generalize ac.eval = ρ; intro e1 e2 e3; simp [go_sem, execOp, e1, e2, e3]) rfl (Chg.refl _)
   ·refine .inl ⟨wanted_none rfl, ?_⟩
    have e1 : ac.eval (.tmp 54) = .bool true := hg 3 (by kernel_rfl) (by decide)
    exact opG_val (by simp [execOp, e1]) rfl (Chg.refl _)
   ·refine .inl ⟨wanted_by (T := _) (by kernel_rfl) hsz rfl (by decide : 4 < 20) rfl (hg 4 (by kernel_rfl) (by decide)), ?_⟩
    have e1 : ac.eval (.tmp 12) = .bool true := hf 12 (by kernel_rfl)
    exact opG_val (by simp [execOp, e1]) rfl (Chg.refl _)
   ·refine .inl ⟨wanted_none rfl, ?_⟩
    have e1 : ac.eval (.tmp 55) = .bool true := hg 4 (by kernel_rfl) (by decide)
    have e2 : ac.eval (.tmp 56) = .bool true := hg 5 (by kernel_rfl) (by decide)
    have e3 : ac.eval (.const (.bool false)) = .bool false := rfl
    exact opG_val (by revert e1 e2 e3; generalize ac.eval = ρ; intro e1 e2 e3; simp [go_sem, execOp, e1, e2, e3]) rfl (Chg.refl _)
   ·refine .inl ⟨wanted_none rfl, ?_⟩
    have e1 : ac.eval (.tmp 57) = .bool true := hg 6 (by kernel_rfl) (by decide)
    exact opG_val (by simp [execOp, e1]) rfl (Chg.refl _)
   ·refine .inl ⟨wanted_by (T := _) (by kernel_rfl) hsz rfl (by decide : 7 < 20) rfl (hg 7 (by kernel_rfl) (by decide)), ?_⟩
    have e1 : ac.eval (.tmp 13) = .pointer (some ⟨b13, 0, none⟩) := hf 13 (by kernel_rfl)
    exact wp_load_mid 26 (.tmp 13) rfl _ _ e1 ((pt (zP AB) (xP AB) (yP AB)).toList) _ (rangeAp (Z9.out.2.2.2.1.chg hc)) Try.underlying26 rfl (infoPt _ _ _) ⟨_, rfl, rfl, Chg.refl _⟩
   ·refine .inl ⟨wanted_by (T := _) (by kernel_rfl) hsz rfl (by decide : 7 < 20) rfl (hg 7 (by kernel_rfl) (by decide)), ?_⟩
    have e1 : ac.eval (.tmp 8) = .pointer (some ⟨b8, 0, none⟩) := hf 8 (by kernel_rfl)
    exact wp_load_mid 26 (.tmp 8) rfl _ _ e1 ((pt (zP A) (xP A) (yP A)).toList) _ (rangeAp (Z9.out.2.1.chg hc)) Try.underlying26 rfl (infoPt _ _ _) ⟨_, rfl, rfl, Chg.refl _⟩
   ·refine .inl ⟨wanted_by (T := _) (by kernel_rfl) hsz rfl (by decide : 7 < 20) rfl (hg 7 (by kernel_rfl) (by decide)), ?_⟩
    have e1 : ac.eval (.tmp 9) = .pointer (some ⟨b9, 0, none⟩) := hf 9 (by kernel_rfl)
    exact wp_load_mid 26 (.tmp 9) rfl _ _ e1 ((pt (zP B) (xP B) (yP B)).toList) _ (rangeAp (Z9.out.2.2.1.chg hc)) Try.underlying26 rfl (infoPt _ _ _) ⟨_, rfl, rfl, Chg.refl _⟩
   ·refine .inl ⟨wanted_by (T := _) (by kernel_rfl) hsz rfl (by decide : 7 < 20) rfl (hg 7 (by kernel_rfl) (by decide)), ?_⟩
    have e1 : ac.eval (.tmp 60) = .agg (pt (zP A) (xP A) (yP A)) := hg 9 (by kernel_rfl) (by decide)
    have e2 : ac.eval (.tmp 61) = .agg (pt (zP B) (xP B) (yP B)) := hg 10 (by kernel_rfl) (by decide)
    refine opG_go 9 Try.f9 #[.tmp 60, .tmp 61] #[26, 26] rfl Try.func9 (by kernel_rfl) (by kernel_rfl) (by simp [e1, e2]) (Calls.mono (padQP_any HO.out.1 HO.out.2.1 HAB.out _) ?_)
    rintro r u2 ⟨rfl, hc2⟩
    exact ⟨_, rfl, rfl, hc2⟩
   ·refine .inl ⟨wanted_by (T := _) (by kernel_rfl) hsz rfl (by decide : 7 < 20) rfl (hg 7 (by kernel_rfl) (by decide)), ?_⟩
    have e1 : ac.eval (.tmp 59) = .agg (pt (zP AB) (xP AB) (yP AB)) := hg 8 (by kernel_rfl) (by decide)
    have e2 : ac.eval (.tmp 62) = .agg (pt (zP AB) (xP AB) (yP AB)) := hg 11 (by kernel_rfl) (by decide)
    exact opG_val (by revert e1 e2; generalize ac.eval = ρ; intro e1 e2; simp [go_sem, execOp, e1, e2, run_eqPt (xP_N _) (yP_N _) (xP_N _) (yP_N _), eqPt_self]) rfl (Chg.refl _)
   ·refine .inl ⟨wanted_none rfl, ?_⟩
    have e1 : ac.eval (.tmp 58) = .bool true := hg 7 (by kernel_rfl) (by decide)
    have e2 : ac.eval (.tmp 63) = .bool true := hg 12 (by kernel_rfl) (by decide)
    have e3 : ac.eval (.const (.bool false)) = .bool false := rfl
    exact opG_val (by revert e1 e2 e3; generalize ac.eval = ρ; intro e1 e2 e3; simp [go_sem, execOp, e1, e2, e3]) rfl (Chg.refl _)
   ·refine .inl ⟨wanted_none rfl, ?_⟩
    have e1 : ac.eval (.tmp 64) = .bool true := hg 13 (by kernel_rfl) (by decide)
    exact opG_val (by simp [execOp, e1]) rfl (Chg.refl _)
   ·refine .inl ⟨wanted_by (T := _) (by kernel_rfl) hsz rfl (by decide : 14 < 20) rfl (hg 14 (by kernel_rfl) (by decide)), ?_⟩
    have e1 : ac.eval (.tmp 14) = .pointer (some ⟨b14, 0, none⟩) := hf 14 (by kernel_rfl)
    exact wp_load_mid 26 (.tmp 14) rfl _ _ e1 ((pt true 0 0).toList) _ (rangeAp (Z9.out.2.2.2.2.chg hc)) Try.underlying26 rfl (infoPt _ _ _) ⟨_, rfl, rfl, Chg.refl _⟩
   ·refine .inl ⟨wanted_by (T := _) (by kernel_rfl) hsz rfl (by decide : 14 < 20) rfl (hg 14 (by kernel_rfl) (by decide)), ?_⟩
    exact opG_built _ [(0, .bool true)] rfl (by kernel_rfl) builtPtZ rfl
   ·refine .inl ⟨wanted_by (T := _) (by kernel_rfl) hsz rfl (by decide : 14 < 20) rfl (hg 14 (by kernel_rfl) (by decide)), ?_⟩
    have e1 : ac.eval (.tmp 66) = .agg (pt true 0 0) := hg 15 (by kernel_rfl) (by decide)
    have e2 : ac.eval (.tmp 67) = .agg (pt true 0 0) := hg 16 (by kernel_rfl) (by decide)
    exact opG_val (by revert e1 e2; generalize ac.eval = ρ; intro e1 e2; simp [go_sem, execOp, e1, e2, run_eqPt n0P n0P n0P n0P, eqPt_self]) rfl (Chg.refl _)
   ·refine .inl ⟨wanted_none rfl, ?_⟩
    have e1 : ac.eval (.tmp 65) = .bool true := hg 14 (by kernel_rfl) (by decide)
    have e2 : ac.eval (.tmp 68) = .bool true := hg 17 (by kernel_rfl) (by decide)
    have e3 : ac.eval (.const (.bool false)) = .bool false := rfl
    exact opG_val (by revert e1 e2 e3; generalize ac.eval = ρ; intro e1 e2 e3; simp [go_sem, execOp, e1, e2, e3]) rfl (Chg.refl _)
   ·refine .inl ⟨wanted_none rfl, ?_⟩
    have e1 : ac.eval (.tmp 69) = .bool true := hg 18 (by kernel_rfl) (by decide)
    exact opG_val (by simp [execOp, e1]) rfl (Chg.refl _)
  ·intro u V hV hc
   have q6 : V 19 = .bool true := hV 19 (by decide)
   go_wp2_with fail
   go_meet
   exact ⟨q6, (Z9.out.1.trans hc)⟩
 obtain ⟨rfl, hz⟩ := hcut
 obtain ⟨w10, hw10⟩ : ∃ zz0, zz0 = wc := ⟨_, rfl⟩
 rw [← hw10] at hz ⊢
 have Z10 : Hid _ := hz
 clear hw10 hz Z9
 go_wp2_with fail
 go_ret
 exact ⟨rfl, Z10.out⟩
end Go.Proofs.Ytbdgmkejmfjobaa
