/-
  PcurveMeets walked.
-/
import Derived.Test.YtbdgmkejmfjobaaSd
namespace Go.Proofs.Ytbdgmkejmfjobaa
open Go.RowKit
set_option linter.unusedVariables false
set_option maxRecDepth 100000
theorem sh_meet {A B : PQt} (d e : Int) (oA : ONW A) (oB : ONW B) (hA : MW GW d.toNat = A) (hB : MW GW e.toNat = B) (h1 : shE d (zP B) (xP B) (yP B) = 0) (h2 : shE e (zP A) (xP A) (yP A) = 0) : shB d (zP B) (xP B) (yP B) = shB e (zP A) (xP A) (yP A) := by
 unfold shE at h1 h2
 unfold shB
 cases c1 : cnt d with
 | false => rw [c1] at h1; cases h1
 | true =>
  cases c2 : cnt e with
  | false => rw [c2] at h2; cases h2
  | true =>
   cases t1 : tell (zP B) (xP B) (yP B) with
   | false => rw [c1, t1] at h1; cases h1
   | true =>
    cases t2 : tell (zP A) (xP A) (yP A) with
    | false => rw [c2, t2] at h2; cases h2
    | true => rw [mulR_P oB, mulR_P oA, ← hA, ← hB, MW_turn]
set_option maxHeartbeats 16000000 in
theorem meets_walk (d e : Int) (z : Bool) (x y : Int) (hd : N256 d) (he : N256 e) (hx : N256 x) (hy : N256 y) (w : World) : Calls Try.prog 6 #[.agg (num d), .agg (num e), .agg (pt z x y)] w fun r w' => r = .returned (.bool true) ∧ Chg w w' := by
 have HN : Hid (N256 d ∧ N256 e ∧ N256 x ∧ N256 y) := ⟨hd, he, hx, hy⟩
 obtain ⟨A, hA⟩ : ∃ A, MW GW d.toNat = A := ⟨_, rfl⟩
 obtain ⟨B, hB⟩ : ∃ B, MW GW e.toNat = B := ⟨_, rfl⟩
 have oA : ONW A := by rw [← hA]; exact on_G.mu _
 have oB : ONW B := by rw [← hB]; exact on_G.mu _
 obtain ⟨f1, hf1⟩ : ∃ f1, shB d (zP B) (xP B) (yP B) = f1 := ⟨_, rfl⟩
 obtain ⟨er1, her1⟩ : ∃ er1, shE d (zP B) (xP B) (yP B) = er1 := ⟨_, rfl⟩
 obtain ⟨f2, hf2⟩ : ∃ f2, shB e (zP A) (xP A) (yP A) = f2 := ⟨_, rfl⟩
 obtain ⟨er2, her2⟩ : ∃ er2, shE e (zP A) (xP A) (yP A) = er2 := ⟨_, rfl⟩
 obtain ⟨f3, hf3⟩ : ∃ f3, shB d z x y = f3 := ⟨_, rfl⟩
 obtain ⟨er3, her3⟩ : ∃ er3, shE d z x y = er3 := ⟨_, rfl⟩
 have HE : Hid ((er1 = 0 → er2 = 0 → f1 = f2)) := by
  show er1 = 0 → er2 = 0 → f1 = f2
  rw [← her1, ← her2, ← hf1, ← hf2]
  exact sh_meet d e oA oB hA hB
 have HA : Hid (MW GW d.toNat = A) := hA
 have HB : Hid (MW GW e.toNat = B) := hB
 have HF1 : Hid (shB d (zP B) (xP B) (yP B) = f1 ∧ shE d (zP B) (xP B) (yP B) = er1) := ⟨hf1, her1⟩
 have HF2 : Hid (shB e (zP A) (xP A) (yP A) = f2 ∧ shE e (zP A) (xP A) (yP A) = er2) := ⟨hf2, her2⟩
 have HF3 : Hid (shB d z x y = f3 ∧ shE d z x y = er3) := ⟨hf3, her3⟩
 obtain ⟨b1, hb1⟩ : ∃ b1, decide (er1 = 0) = b1 := ⟨_, rfl⟩
 obtain ⟨b2, hb2⟩ : ∃ b2, decide (er2 = 0) = b2 := ⟨_, rfl⟩
 have HB1 : Hid (decide (er1 = 0) = b1) := hb1
 have HB2 : Hid (decide (er2 = 0) = b2) := hb2
 clear hd he hx hy hA hB oA oB hf1 hf2 hf3 her1 her2 her3 hb1 hb2
 have hsA0 := num_size d
 obtain ⟨A0, hA0⟩ : ∃ zz0, zz0 = num d := ⟨_, rfl⟩
 have HA0 : Hid (A0 = num d) := hA0
 have hsA1 := num_size e
 obtain ⟨A1, hA1⟩ : ∃ zz0, zz0 = num e := ⟨_, rfl⟩
 have HA1 : Hid (A1 = num e) := hA1
 have hsA2 := pt_size z x y
 obtain ⟨A2, hA2⟩ : ∃ zz0, zz0 = pt z x y := ⟨_, rfl⟩
 have HA2 : Hid (A2 = pt z x y) := hA2
 rw [← hA0] at hsA0 ⊢
 rw [← hA1] at hsA1 ⊢
 rw [← hA2] at hsA2 ⊢
 clear hA0 hA1 hA2
 go_enter Try.func6, Try.ntmps6
 go_upto_region 1 with fail
 obtain ⟨w1, hw1⟩ : ∃ w1, w1 = ((w.alloc (.cells A0 24)).alloc (.cells A1 24)).alloc (.cells A2 26) := ⟨_, rfl⟩
 have Z1 : Hid (Chg w w1 ∧ Ar w1 w.heap.size (num d) ∧ Ar w1 (w.heap.size + 1) (num e) ∧ Ar w1 (w.heap.size + 1 + 1) (pt z x y)) := by
  have hnew0 := Ar.new w (num d) 24
  have hnew1 := Ar.new (w.alloc (.cells (num d) 24)) (num e) 24
  rw [World.size_alloc] at hnew1
  have hnew2 := Ar.new ((w.alloc (.cells (num d) 24)).alloc (.cells (num e) 24)) (pt z x y) 26
  rw [World.size_alloc, World.size_alloc] at hnew2
  rw [hw1, HA0.out, HA1.out, HA2.out]
  exact ⟨((((Chg.refl w).alloc _).alloc _).alloc _), (((hnew0).alloc _).alloc _), ((hnew1).alloc _), (hnew2)⟩
 rw [← hw1]
 clear hw1 hsA0 hsA1 hsA2 HA0 HA1 HA2
 go_cut [7] from 7 to 19 (fun v7 wc => v7 = .bool true ∧ Chg w wc ∧ Ar wc w.heap.size (num d) ∧ Ar wc (w.heap.size + 1) (num e) ∧ Ar wc (w.heap.size + 1 + 1) (pt z x y))
 case first =>
  refine regP 2 (fun j v wg => match j with
   | 0 => v = .bool true
   | 1 => v = .bool true
   | _ => True) (by decide) (by kernel_rfl) ?_ ?_ ?_
  ·intro j v u1 u2 h hc; exact h
  ·intro i o ac u hi ho hsz hf hg hc
   have hcs : i = 0 ∨ i = 1 := by omega
   rcases hcs with rfl | rfl <;> (injection ho with ho; subst ho; refine .inl ⟨wanted_none rfl, ?_⟩)
   ·refine opG_go 8 Try.f8 #[] #[] rfl Try.func8 (by kernel_rfl) (by kernel_rfl) (by simp []) (Calls.mono (headQ_any _) ?_)
    rintro r u2 ⟨rfl, hc2⟩
    exact ⟨_, rfl, rfl, hc2⟩
   ·have e1 : ac.eval (.tmp 19) = .bool true := hg 0 (by decide) (by decide)
    exact opG_val (by simp [execOp, e1]) rfl (Chg.refl _)
  ·intro u V hV hc
   have q7 : V 1 = .bool true := hV 1 (by decide)
   go_wp2_with fail
   go_meet
   exact ⟨q7, (Z1.out.1.trans hc), (Z1.out.2.1.chg hc), (Z1.out.2.2.1.chg hc), (Z1.out.2.2.2.chg hc)⟩
 obtain ⟨rfl, hz⟩ := hcut
 obtain ⟨w2, hw2⟩ : ∃ zz0, zz0 = wc := ⟨_, rfl⟩
 rw [← hw2] at hz ⊢
 have Z2 : Hid _ := hz
 clear hw2 hz Z1
 go_upto_region 2 with fail
 go_cut [8, 9] from 8 to 27 (fun v8 v9 wc => ∃ b8, v8 = .pointer (some ⟨b8, 0, none⟩) ∧ v9 = .int .i64 er1 ∧ Chg w wc ∧ Ar wc w.heap.size (num d) ∧ Ar wc (w.heap.size + 1) (num e) ∧ Ar wc (w.heap.size + 1 + 1) (pt z x y) ∧ Ar wc b8 (byt f1))
 case first =>
  refine wp_region_store 9 (fun j v fl wg => match j with
   | 0 => v = .agg (num d)
   | 1 => v = .agg (num e)
   | 2 => v = .agg (pt false gX gY)
   | 3 => v = .agg (pt (zP B) (xP B) (yP B))
   | 4 => v = .tuple #[.agg (byt f1), .int .i64 er1]
   | 5 => v = .tuple #[.agg (byt f1), .int .i64 er1]
   | 6 => v = .agg (byt f1)
   | 7 => v = .int .i64 er1
   | 8 => ∃ b, v = .pointer (some ⟨b, 0, none⟩) ∧ w2.heap.size ≤ b ∧ (fl = true → Ar wg b (byt f1)) ∧ (fl = false → Ar wg b (byt zD))
   | 10 => v = .int .i64 er1
   | _ => True) (fun _ u => Chg w2.drew u) (by kernel_rfl) (by decide) (by kernel_rfl) (by kernel_rfl) (by kernel_rfl) ?_ ?_ ?_ ?_ ?_ ?_
  ·intro j v fl u1 u2 h hc
   match j, h with
   | 0, h => exact h
   | 1, h => exact h
   | 2, h => exact h
   | 3, h => exact h
   | 4, h => exact h
   | 5, h => exact h
   | 6, h => exact h
   | 7, h => exact h
   | 8, h => (obtain ⟨b, h1, h2, h3, h4⟩ := h; exact ⟨b, h1, h2, fun e => (h3 e).chg hc, fun e => (h4 e).chg hc⟩)
   | 9, h => exact trivial
   | 10, h => exact h
   | _ + 11, h => exact trivial
  ·intro fl u u' h k
   exact h.trans k
  ·intro i o' ac u fl hi his ho hfl hf hg hB
   have hi' : i < 11 := hi
   have hcs : i = 0 ∨ i = 1 ∨ i = 2 ∨ i = 3 ∨ i = 4 ∨ i = 5 ∨ i = 6 ∨ i = 7 ∨ i = 8 ∨ i = 10 := by omega
   rcases hcs with rfl | rfl | rfl | rfl | rfl | rfl | rfl | rfl | rfl | rfl
   ·injection ho with ho
    subst ho
    have e1 : ac.eval (.tmp 3) = .pointer (some ⟨w.heap.size, 0, none⟩) := hf 3 (by kernel_rfl)
    exact wp_load_mid 24 (.tmp 3) rfl _ _ e1 ((num d).toList) _ (rangeAp (Ar.chg (w := w2.drew) Z2.out.2.1.drew hB)) undNum rfl (infoN _) ⟨_, rfl, rfl, Chg.refl _⟩
   ·injection ho with ho
    subst ho
    have e1 : ac.eval (.tmp 4) = .pointer (some ⟨w.heap.size + 1, 0, none⟩) := hf 4 (by kernel_rfl)
    exact wp_load_mid 24 (.tmp 4) rfl _ _ e1 ((num e).toList) _ (rangeAp (Ar.chg (w := w2.drew) Z2.out.2.2.1.drew hB)) undNum rfl (infoN _) ⟨_, rfl, rfl, Chg.refl _⟩
   ·injection ho with ho
    subst ho
    refine opG_go 15 Try.f15 #[] #[] rfl Try.func15 (by kernel_rfl) (by kernel_rfl) (by simp []) (Calls.mono (baseQ_any _) ?_)
    rintro r u2 ⟨rfl, hc2⟩
    exact ⟨_, rfl, rfl, hc2⟩
   ·injection ho with ho
    subst ho
    have e1 : ac.eval (.tmp 22) = .agg (num e) := hg 1 (by kernel_rfl) (by decide) (by decide)
    have e2 : ac.eval (.tmp 23) = .agg (pt false gX gY) := hg 2 (by kernel_rfl) (by decide) (by decide)
    refine opG_go 11 Try.f11 #[.tmp 22, .tmp 23] #[24, 26] rfl Try.func11 (by kernel_rfl) (by kernel_rfl) (by simp [e1, e2]) (Calls.mono (multQG_any (HN.out.2.1) HB.out _) ?_)
    rintro r u2 ⟨rfl, hc2⟩
    exact ⟨_, rfl, rfl, hc2⟩
   ·injection ho with ho
    subst ho
    have e1 : ac.eval (.tmp 21) = .agg (num d) := hg 0 (by kernel_rfl) (by decide) (by decide)
    have e2 : ac.eval (.tmp 24) = .agg (pt (zP B) (xP B) (yP B)) := hg 3 (by kernel_rfl) (by decide) (by decide)
    refine opG_go 21 Try.f21 #[.tmp 21, .tmp 24] #[24, 26] rfl Try.func21 (by kernel_rfl) (by kernel_rfl) (by simp [e1, e2]) (Calls.mono (shQ_any (HN.out.1) (xP_N _) (yP_N _) HF1.out.1 HF1.out.2 _) ?_)
    rintro r u2 ⟨rfl, hc2⟩
    exact ⟨_, rfl, rfl, hc2⟩
   ·injection ho with ho
    subst ho
    have e1 : ac.eval (.tmp 25) = .tuple #[.agg (byt f1), .int .i64 er1] := hg 4 (by kernel_rfl) (by decide) (by decide)
    exact opG_val (by simp [execOp, e1]) rfl (Chg.refl _)
   ·injection ho with ho
    subst ho
    have e1 : ac.eval (.tmp 20) = .tuple #[.agg (byt f1), .int .i64 er1] := hg 5 (by kernel_rfl) (by decide) (by decide)
    exact opG_val (by revert e1; generalize ac.eval = ρ; intro e1; simp [go_sem, execOp, e1]) rfl (Chg.refl _)
   ·injection ho with ho
    subst ho
    have e1 : ac.eval (.tmp 20) = .tuple #[.agg (byt f1), .int .i64 er1] := hg 5 (by kernel_rfl) (by decide) (by decide)
    exact opG_val (by revert e1; generalize ac.eval = ρ; intro e1; simp [go_sem, execOp, e1]) rfl (Chg.refl _)
   ·injection ho with ho
    subst ho
    refine opG_val (v := .pointer (some ⟨u.heap.size, 0, none⟩)) (w' := u.alloc (.cells (byt zD) 40)) (by simp [go_sem, execOp, zero37.1]) ⟨_, rfl, hB.size, ?_, ?_⟩ ((Chg.refl _).alloc _)
    ·intro e
     rw [hfl (by kernel_rfl)] at e
     cases e
    ·intro _; exact Ar.new _ _ _
   ·injection ho with ho
    subst ho
    have e1 : ac.eval (.tmp 27) = .int .i64 er1 := hg 7 (by kernel_rfl) (by decide) (by decide)
    exact opG_val (by simp [execOp, e1]) rfl (Chg.refl _)
  ·intro o' ac u ho hf hg hB
   injection ho with ho
   subst ho
   obtain ⟨b, e1, h1, h2, h3⟩ := hg 8 (by kernel_rfl) (by decide) (by decide)
   have e2 : ac.eval (.tmp 26) = .agg (byt f1) := hg 6 (by kernel_rfl) (by decide) (by decide)
   refine wp_store_mid 40 (.tmp 8) (.tmp 26) rfl b 0 (byt f1) e1 e2 (by rw [byt_size]; exact thereY ((h3 rfl))) (szY _) (oneY _) ⟨rfl, ?_, ?_⟩
   ·rw [setRowY ((h3 rfl)) _]
    exact Chg.setRow hB h1 _
   ·intro j hj hjs h
    rw [setRowY ((h3 rfl)) _]
    have hj' : j < 11 := hj
    have hcs : j = 0 ∨ j = 1 ∨ j = 2 ∨ j = 3 ∨ j = 4 ∨ j = 5 ∨ j = 6 ∨ j = 7 ∨ j = 8 ∨ j = 10 := by omega
    rcases hcs with rfl | rfl | rfl | rfl | rfl | rfl | rfl | rfl | rfl | rfl
    ·exact h
    ·exact h
    ·exact h
    ·exact h
    ·exact h
    ·exact h
    ·exact h
    ·exact h
    ·exact ⟨b, e1, h1, fun _ => (h3 rfl).row _, fun e => nomatch e⟩
    ·exact h
  ·exact Chg.refl _
  ·intro u V hV hB
   have qas : V 10 = .int .i64 er1 := hV 10 (by decide) (by decide)
   obtain ⟨b, qb, h1, h2, h3⟩ := hV 8 (by decide) (by decide)
   have hcu : Chg w2 u := (Chg.refl w2).drew.trans hB
   have h2r := h2 rfl
   clear h2 h3
   go_wp2_with fail
   go_meet
   exact ⟨b, qb, qas, Z2.out.1.trans hcu, Z2.out.2.1.chg hcu, Z2.out.2.2.1.chg hcu, Z2.out.2.2.2.chg hcu, h2r⟩
 obtain ⟨b8, rfl, rfl, hz⟩ := hcut
 obtain ⟨w3, hw3⟩ : ∃ zz0, zz0 = wc := ⟨_, rfl⟩
 rw [← hw3] at hz ⊢
 have Z3 : Hid _ := hz
 clear hw3 hz Z2
 go_upto_region 3 with fail
 go_cut [10, 11] from 10 to 35 (fun v10 v11 wc => ∃ b10, v10 = .pointer (some ⟨b10, 0, none⟩) ∧ v11 = .int .i64 er2 ∧ Chg w wc ∧ Ar wc w.heap.size (num d) ∧ Ar wc (w.heap.size + 1) (num e) ∧ Ar wc (w.heap.size + 1 + 1) (pt z x y) ∧ Ar wc b8 (byt f1) ∧ Ar wc b10 (byt f2))
 case first =>
  refine wp_region_store 9 (fun j v fl wg => match j with
   | 0 => v = .agg (num e)
   | 1 => v = .agg (num d)
   | 2 => v = .agg (pt false gX gY)
   | 3 => v = .agg (pt (zP A) (xP A) (yP A))
   | 4 => v = .tuple #[.agg (byt f2), .int .i64 er2]
   | 5 => v = .tuple #[.agg (byt f2), .int .i64 er2]
   | 6 => v = .agg (byt f2)
   | 7 => v = .int .i64 er2
   | 8 => ∃ b, v = .pointer (some ⟨b, 0, none⟩) ∧ w3.heap.size ≤ b ∧ (fl = true → Ar wg b (byt f2)) ∧ (fl = false → Ar wg b (byt zD))
   | 10 => v = .int .i64 er2
   | _ => True) (fun _ u => Chg w3.drew u) (by kernel_rfl) (by decide) (by kernel_rfl) (by kernel_rfl) (by kernel_rfl) ?_ ?_ ?_ ?_ ?_ ?_
  ·intro j v fl u1 u2 h hc
   match j, h with
   | 0, h => exact h
   | 1, h => exact h
   | 2, h => exact h
   | 3, h => exact h
   | 4, h => exact h
   | 5, h => exact h
   | 6, h => exact h
   | 7, h => exact h
   | 8, h => (obtain ⟨b, h1, h2, h3, h4⟩ := h; exact ⟨b, h1, h2, fun e => (h3 e).chg hc, fun e => (h4 e).chg hc⟩)
   | 9, h => exact trivial
   | 10, h => exact h
   | _ + 11, h => exact trivial
  ·intro fl u u' h k
   exact h.trans k
  ·intro i o' ac u fl hi his ho hfl hf hg hB
   have hi' : i < 11 := hi
   have hcs : i = 0 ∨ i = 1 ∨ i = 2 ∨ i = 3 ∨ i = 4 ∨ i = 5 ∨ i = 6 ∨ i = 7 ∨ i = 8 ∨ i = 10 := by omega
   rcases hcs with rfl | rfl | rfl | rfl | rfl | rfl | rfl | rfl | rfl | rfl
   ·injection ho with ho
    subst ho
    have e1 : ac.eval (.tmp 4) = .pointer (some ⟨w.heap.size + 1, 0, none⟩) := hf 4 (by kernel_rfl)
    exact wp_load_mid 24 (.tmp 4) rfl _ _ e1 ((num e).toList) _ (rangeAp (Ar.chg (w := w3.drew) Z3.out.2.2.1.drew hB)) undNum rfl (infoN _) ⟨_, rfl, rfl, Chg.refl _⟩
   ·injection ho with ho
    subst ho
    have e1 : ac.eval (.tmp 3) = .pointer (some ⟨w.heap.size, 0, none⟩) := hf 3 (by kernel_rfl)
    exact wp_load_mid 24 (.tmp 3) rfl _ _ e1 ((num d).toList) _ (rangeAp (Ar.chg (w := w3.drew) Z3.out.2.1.drew hB)) undNum rfl (infoN _) ⟨_, rfl, rfl, Chg.refl _⟩
   ·injection ho with ho
    subst ho
    refine opG_go 15 Try.f15 #[] #[] rfl Try.func15 (by kernel_rfl) (by kernel_rfl) (by simp []) (Calls.mono (baseQ_any _) ?_)
    rintro r u2 ⟨rfl, hc2⟩
    exact ⟨_, rfl, rfl, hc2⟩
   ·injection ho with ho
    subst ho
    have e1 : ac.eval (.tmp 30) = .agg (num d) := hg 1 (by kernel_rfl) (by decide) (by decide)
    have e2 : ac.eval (.tmp 31) = .agg (pt false gX gY) := hg 2 (by kernel_rfl) (by decide) (by decide)
    refine opG_go 11 Try.f11 #[.tmp 30, .tmp 31] #[24, 26] rfl Try.func11 (by kernel_rfl) (by kernel_rfl) (by simp [e1, e2]) (Calls.mono (multQG_any (HN.out.1) HA.out _) ?_)
    rintro r u2 ⟨rfl, hc2⟩
    exact ⟨_, rfl, rfl, hc2⟩
   ·injection ho with ho
    subst ho
    have e1 : ac.eval (.tmp 29) = .agg (num e) := hg 0 (by kernel_rfl) (by decide) (by decide)
    have e2 : ac.eval (.tmp 32) = .agg (pt (zP A) (xP A) (yP A)) := hg 3 (by kernel_rfl) (by decide) (by decide)
    refine opG_go 21 Try.f21 #[.tmp 29, .tmp 32] #[24, 26] rfl Try.func21 (by kernel_rfl) (by kernel_rfl) (by simp [e1, e2]) (Calls.mono (shQ_any (HN.out.2.1) (xP_N _) (yP_N _) HF2.out.1 HF2.out.2 _) ?_)
    rintro r u2 ⟨rfl, hc2⟩
    exact ⟨_, rfl, rfl, hc2⟩
   ·injection ho with ho
    subst ho
    have e1 : ac.eval (.tmp 33) = .tuple #[.agg (byt f2), .int .i64 er2] := hg 4 (by kernel_rfl) (by decide) (by decide)
    exact opG_val (by simp [execOp, e1]) rfl (Chg.refl _)
   ·injection ho with ho
    subst ho
    have e1 : ac.eval (.tmp 28) = .tuple #[.agg (byt f2), .int .i64 er2] := hg 5 (by kernel_rfl) (by decide) (by decide)
    exact opG_val (by revert e1; generalize ac.eval = ρ; intro e1; simp [go_sem, execOp, e1]) rfl (Chg.refl _)
   ·injection ho with ho
    subst ho
    have e1 : ac.eval (.tmp 28) = .tuple #[.agg (byt f2), .int .i64 er2] := hg 5 (by kernel_rfl) (by decide) (by decide)
    exact opG_val (by revert e1; generalize ac.eval = ρ; intro e1; simp [go_sem, execOp, e1]) rfl (Chg.refl _)
   ·injection ho with ho
    subst ho
    refine opG_val (v := .pointer (some ⟨u.heap.size, 0, none⟩)) (w' := u.alloc (.cells (byt zD) 40)) (by simp [go_sem, execOp, zero37.1]) ⟨_, rfl, hB.size, ?_, ?_⟩ ((Chg.refl _).alloc _)
    ·intro e
     rw [hfl (by kernel_rfl)] at e
     cases e
    ·intro _; exact Ar.new _ _ _
   ·injection ho with ho
    subst ho
    have e1 : ac.eval (.tmp 35) = .int .i64 er2 := hg 7 (by kernel_rfl) (by decide) (by decide)
    exact opG_val (by simp [execOp, e1]) rfl (Chg.refl _)
  ·intro o' ac u ho hf hg hB
   injection ho with ho
   subst ho
   obtain ⟨b, e1, h1, h2, h3⟩ := hg 8 (by kernel_rfl) (by decide) (by decide)
   have e2 : ac.eval (.tmp 34) = .agg (byt f2) := hg 6 (by kernel_rfl) (by decide) (by decide)
   refine wp_store_mid 40 (.tmp 10) (.tmp 34) rfl b 0 (byt f2) e1 e2 (by rw [byt_size]; exact thereY ((h3 rfl))) (szY _) (oneY _) ⟨rfl, ?_, ?_⟩
   ·rw [setRowY ((h3 rfl)) _]
    exact Chg.setRow hB h1 _
   ·intro j hj hjs h
    rw [setRowY ((h3 rfl)) _]
    have hj' : j < 11 := hj
    have hcs : j = 0 ∨ j = 1 ∨ j = 2 ∨ j = 3 ∨ j = 4 ∨ j = 5 ∨ j = 6 ∨ j = 7 ∨ j = 8 ∨ j = 10 := by omega
    rcases hcs with rfl | rfl | rfl | rfl | rfl | rfl | rfl | rfl | rfl | rfl
    ·exact h
    ·exact h
    ·exact h
    ·exact h
    ·exact h
    ·exact h
    ·exact h
    ·exact h
    ·exact ⟨b, e1, h1, fun _ => (h3 rfl).row _, fun e => nomatch e⟩
    ·exact h
  ·exact Chg.refl _
  ·intro u V hV hB
   have qas : V 10 = .int .i64 er2 := hV 10 (by decide) (by decide)
   obtain ⟨b, qb, h1, h2, h3⟩ := hV 8 (by decide) (by decide)
   have hcu : Chg w3 u := (Chg.refl w3).drew.trans hB
   have h2r := h2 rfl
   clear h2 h3
   go_wp2_with fail
   go_meet
   exact ⟨b, qb, qas, Z3.out.1.trans hcu, Z3.out.2.1.chg hcu, Z3.out.2.2.1.chg hcu, Z3.out.2.2.2.1.chg hcu, Z3.out.2.2.2.2.chg hcu, h2r⟩
 obtain ⟨b10, rfl, rfl, hz⟩ := hcut
 obtain ⟨w4, hw4⟩ : ∃ zz0, zz0 = wc := ⟨_, rfl⟩
 rw [← hw4] at hz ⊢
 have Z4 : Hid _ := hz
 clear hw4 hz Z3
 go_upto_region 4 with fail
 go_cut [12, 13] from 12 to 41 (fun v12 v13 wc => ∃ b12, v12 = .pointer (some ⟨b12, 0, none⟩) ∧ v13 = .int .i64 er3 ∧ Chg w wc ∧ Ar wc w.heap.size (num d) ∧ Ar wc (w.heap.size + 1) (num e) ∧ Ar wc (w.heap.size + 1 + 1) (pt z x y) ∧ Ar wc b8 (byt f1) ∧ Ar wc b10 (byt f2) ∧ Ar wc b12 (byt f3))
 case first =>
  refine regP 7 (fun j v wg => match j with
   | 0 => v = .agg (num d)
   | 1 => v = .agg (pt z x y)
   | 2 => v = .tuple #[.agg (byt f3), .int .i64 er3]
   | 3 => v = .tuple #[.agg (byt f3), .int .i64 er3]
   | 4 => v = .agg (byt f3)
   | 5 => v = .int .i64 er3
   | 6 => ∃ b, v = .pointer (some ⟨b, 0, none⟩) ∧ Ar wg b (byt zD) ∧ w4.heap.size ≤ b
   | _ => True) (by decide) (by kernel_rfl) ?_ ?_ ?_
  ·intro j v u1 u2 h hc
   match j, h with
   | 0, h => exact h
   | 1, h => exact h
   | 2, h => exact h
   | 3, h => exact h
   | 4, h => exact h
   | 5, h => exact h
   | 6, h => (obtain ⟨b, h1, h2, h3⟩ := h; exact ⟨b, h1, h2.chg hc, h3⟩)
   | _ + 7, h => exact trivial
  ·intro i o ac u hi ho hsz hf hg hc
   have hcs : i = 0 ∨ i = 1 ∨ i = 2 ∨ i = 3 ∨ i = 4 ∨ i = 5 ∨ i = 6 := by omega
   rcases hcs with rfl | rfl | rfl | rfl | rfl | rfl | rfl <;> (injection ho with ho; subst ho; refine .inl ⟨wanted_none rfl, ?_⟩)
   ·exact ldN rfl (hf 3 (by kernel_rfl)) (rangeAp (Z4.out.2.1.chg hc)) rfl
   ·have e1 : ac.eval (.tmp 5) = .pointer (some ⟨w.heap.size + 1 + 1, 0, none⟩) := hf 5 (by kernel_rfl)
    exact wp_load_mid 26 (.tmp 5) rfl _ _ e1 ((pt z x y).toList) _ (rangeAp (Z4.out.2.2.2.1.chg hc)) Try.underlying26 rfl (infoPt _ _ _) ⟨_, rfl, rfl, Chg.refl _⟩
   ·have e1 : ac.eval (.tmp 37) = .agg (num d) := hg 0 (by decide) (by decide)
    have e2 : ac.eval (.tmp 38) = .agg (pt z x y) := hg 1 (by decide) (by decide)
    refine opG_go 21 Try.f21 #[.tmp 37, .tmp 38] #[24, 26] rfl Try.func21 (by kernel_rfl) (by kernel_rfl) (by simp [e1, e2]) (Calls.mono (shQ_any (HN.out.1) (HN.out.2.2.1) (HN.out.2.2.2) HF3.out.1 HF3.out.2 _) ?_)
    rintro r u2 ⟨rfl, hc2⟩
    exact ⟨_, rfl, rfl, hc2⟩
   ·have e1 : ac.eval (.tmp 39) = .tuple #[.agg (byt f3), .int .i64 er3] := hg 2 (by decide) (by decide)
    exact opG_val (by simp [execOp, e1]) rfl (Chg.refl _)
   ·have e1 : ac.eval (.tmp 36) = .tuple #[.agg (byt f3), .int .i64 er3] := hg 3 (by decide) (by decide)
    exact opG_val (by revert e1; generalize ac.eval = ρ; intro e1; simp [go_sem, execOp, e1]) rfl (Chg.refl _)
   ·have e1 : ac.eval (.tmp 36) = .tuple #[.agg (byt f3), .int .i64 er3] := hg 3 (by decide) (by decide)
    exact opG_val (by revert e1; generalize ac.eval = ρ; intro e1; simp [go_sem, execOp, e1]) rfl (Chg.refl _)
   ·exact opG_val (v := .pointer (some ⟨u.heap.size, 0, none⟩)) (w' := u.alloc (.cells (byt zD) 40)) (by generalize ac.eval = ρ; simp [go_sem, execOp, zero37.1]) ⟨_, rfl, Ar.new _ _ _, hc.size⟩ ((Chg.refl _).alloc _)
  ·intro u V hV hc
   have q40 : V 4 = .agg (byt f3) := hV 4 (by decide)
   have q41 : V 5 = .int .i64 er3 := hV 5 (by decide)
   obtain ⟨b12, q12, r12, s12⟩ := hV 6 (by decide)
   have lw12 : w.heap.size ≤ b12 := Nat.le_trans Z4.out.1.size s12
   have hres0 := r12
   refine wpList_store_mid rfl 40 (.tmp 12) (.tmp 40) rfl b12 0 (byt f3) (Eq.trans (by rfl) q12) (Eq.trans (by rfl) q40) (by rw [byt_size]; exact thereY hres0) (szY _) (oneY _) ?_
   rw [setRowY hres0 _]
   have k0_c : Chg w (u.setRow b12 (byt f3)) := ((Z4.out.1.trans hc).setRow lw12 _)
   have k0_B3 := (Z4.out.2.1.chg hc).rowOther (Z4.out.2.1.apart s12) (byt f3)
   have k0_B4 := (Z4.out.2.2.1.chg hc).rowOther (Z4.out.2.2.1.apart s12) (byt f3)
   have k0_B5 := (Z4.out.2.2.2.1.chg hc).rowOther (Z4.out.2.2.2.1.apart s12) (byt f3)
   have k0_B8 := (Z4.out.2.2.2.2.1.chg hc).rowOther (Z4.out.2.2.2.2.1.apart s12) (byt f3)
   have k0_B10 := (Z4.out.2.2.2.2.2.chg hc).rowOther (Z4.out.2.2.2.2.2.apart s12) (byt f3)
   have k0_B12 := hres0.row (byt f3)
   generalize (u.setRow b12 (byt f3)) = u10 at k0_c k0_B3 k0_B4 k0_B5 k0_B8 k0_B10 k0_B12 ⊢
   go_wp2_with fail
   go_meet
   exact ⟨b12, q12, q41, k0_c, k0_B3, k0_B4, k0_B5, k0_B8, k0_B10, k0_B12⟩
 obtain ⟨b12, rfl, rfl, hz⟩ := hcut
 obtain ⟨w5, hw5⟩ : ∃ zz0, zz0 = wc := ⟨_, rfl⟩
 rw [← hw5] at hz ⊢
 have Z5 : Hid _ := hz
 clear hw5 hz Z4
 go_upto_region 5 with fail
 go_cut [14, 15] from 14 to 47 (fun v14 v15 wc => ∃ b14, v14 = .pointer (some ⟨b14, 0, none⟩) ∧ v15 = .int .i64 er3 ∧ Chg w wc ∧ Ar wc w.heap.size (num d) ∧ Ar wc (w.heap.size + 1) (num e) ∧ Ar wc b8 (byt f1) ∧ Ar wc b10 (byt f2) ∧ Ar wc b12 (byt f3) ∧ Ar wc b14 (byt f3))
 case first =>
  refine regP 7 (fun j v wg => match j with
   | 0 => v = .agg (num d)
   | 1 => v = .agg (pt z x y)
   | 2 => v = .tuple #[.agg (byt f3), .int .i64 er3]
   | 3 => v = .tuple #[.agg (byt f3), .int .i64 er3]
   | 4 => v = .agg (byt f3)
   | 5 => v = .int .i64 er3
   | 6 => ∃ b, v = .pointer (some ⟨b, 0, none⟩) ∧ Ar wg b (byt zD) ∧ w5.heap.size ≤ b
   | _ => True) (by decide) (by kernel_rfl) ?_ ?_ ?_
  ·intro j v u1 u2 h hc
   match j, h with
   | 0, h => exact h
   | 1, h => exact h
   | 2, h => exact h
   | 3, h => exact h
   | 4, h => exact h
   | 5, h => exact h
   | 6, h => (obtain ⟨b, h1, h2, h3⟩ := h; exact ⟨b, h1, h2.chg hc, h3⟩)
   | _ + 7, h => exact trivial
  ·intro i o ac u hi ho hsz hf hg hc
   have hcs : i = 0 ∨ i = 1 ∨ i = 2 ∨ i = 3 ∨ i = 4 ∨ i = 5 ∨ i = 6 := by omega
   rcases hcs with rfl | rfl | rfl | rfl | rfl | rfl | rfl <;> (injection ho with ho; subst ho; refine .inl ⟨wanted_none rfl, ?_⟩)
   ·exact ldN rfl (hf 3 (by kernel_rfl)) (rangeAp (Z5.out.2.1.chg hc)) rfl
   ·have e1 : ac.eval (.tmp 5) = .pointer (some ⟨w.heap.size + 1 + 1, 0, none⟩) := hf 5 (by kernel_rfl)
    exact wp_load_mid 26 (.tmp 5) rfl _ _ e1 ((pt z x y).toList) _ (rangeAp (Z5.out.2.2.2.1.chg hc)) Try.underlying26 rfl (infoPt _ _ _) ⟨_, rfl, rfl, Chg.refl _⟩
   ·have e1 : ac.eval (.tmp 43) = .agg (num d) := hg 0 (by decide) (by decide)
    have e2 : ac.eval (.tmp 44) = .agg (pt z x y) := hg 1 (by decide) (by decide)
    refine opG_go 22 Try.f22 #[.tmp 43, .tmp 44] #[24, 26] rfl Try.func22 (by kernel_rfl) (by kernel_rfl) (by simp [e1, e2]) (Calls.mono (shS_any (HN.out.1) (HN.out.2.2.1) (HN.out.2.2.2) HF3.out.1 HF3.out.2 _) ?_)
    rintro r u2 ⟨rfl, hc2⟩
    exact ⟨_, rfl, rfl, hc2⟩
   ·have e1 : ac.eval (.tmp 45) = .tuple #[.agg (byt f3), .int .i64 er3] := hg 2 (by decide) (by decide)
    exact opG_val (by simp [execOp, e1]) rfl (Chg.refl _)
   ·have e1 : ac.eval (.tmp 42) = .tuple #[.agg (byt f3), .int .i64 er3] := hg 3 (by decide) (by decide)
    exact opG_val (by revert e1; generalize ac.eval = ρ; intro e1; simp [go_sem, execOp, e1]) rfl (Chg.refl _)
   ·have e1 : ac.eval (.tmp 42) = .tuple #[.agg (byt f3), .int .i64 er3] := hg 3 (by decide) (by decide)
    exact opG_val (by revert e1; generalize ac.eval = ρ; intro e1; simp [go_sem, execOp, e1]) rfl (Chg.refl _)
   ·exact opG_val (v := .pointer (some ⟨u.heap.size, 0, none⟩)) (w' := u.alloc (.cells (byt zD) 40)) (by generalize ac.eval = ρ; simp [go_sem, execOp, zero37.1]) ⟨_, rfl, Ar.new _ _ _, hc.size⟩ ((Chg.refl _).alloc _)
  ·intro u V hV hc
   have q46 : V 4 = .agg (byt f3) := hV 4 (by decide)
   have q47 : V 5 = .int .i64 er3 := hV 5 (by decide)
   obtain ⟨b14, q14, r14, s14⟩ := hV 6 (by decide)
   have lw14 : w.heap.size ≤ b14 := Nat.le_trans Z5.out.1.size s14
   have hres0 := r14
   refine wpList_store_mid rfl 40 (.tmp 14) (.tmp 46) rfl b14 0 (byt f3) (Eq.trans (by rfl) q14) (Eq.trans (by rfl) q46) (by rw [byt_size]; exact thereY hres0) (szY _) (oneY _) ?_
   rw [setRowY hres0 _]
   have k0_c : Chg w (u.setRow b14 (byt f3)) := ((Z5.out.1.trans hc).setRow lw14 _)
   have k0_B3 := (Z5.out.2.1.chg hc).rowOther (Z5.out.2.1.apart s14) (byt f3)
   have k0_B4 := (Z5.out.2.2.1.chg hc).rowOther (Z5.out.2.2.1.apart s14) (byt f3)
   have k0_B8 := (Z5.out.2.2.2.2.1.chg hc).rowOther (Z5.out.2.2.2.2.1.apart s14) (byt f3)
   have k0_B10 := (Z5.out.2.2.2.2.2.1.chg hc).rowOther (Z5.out.2.2.2.2.2.1.apart s14) (byt f3)
   have k0_B12 := (Z5.out.2.2.2.2.2.2.chg hc).rowOther (Z5.out.2.2.2.2.2.2.apart s14) (byt f3)
   have k0_B14 := hres0.row (byt f3)
   generalize (u.setRow b14 (byt f3)) = u10 at k0_c k0_B3 k0_B4 k0_B8 k0_B10 k0_B12 k0_B14 ⊢
   go_wp2_with fail
   go_meet
   exact ⟨b14, q14, q47, k0_c, k0_B3, k0_B4, k0_B8, k0_B10, k0_B12, k0_B14⟩
 obtain ⟨b14, rfl, rfl, hz⟩ := hcut
 obtain ⟨w6, hw6⟩ : ∃ zz0, zz0 = wc := ⟨_, rfl⟩
 rw [← hw6] at hz ⊢
 have Z6 : Hid _ := hz
 clear hw6 hz Z5
 go_upto_region 6 with fail
 go_cut [16] from 16 to 58 (fun v16 wc => v16 = .bool true ∧ Chg w wc ∧ Ar wc w.heap.size (num d) ∧ Ar wc (w.heap.size + 1) (num e) ∧ Ar wc b8 (byt f1) ∧ Ar wc b10 (byt f2) ∧ Ar wc b12 (byt f3) ∧ Ar wc b14 (byt f3))
 case first =>
  cases b1
  case false =>
   have n1 : ¬ er1 = 0 := of_decide_eq_false HB1.out
   have N1 : Hid (¬ er1 = 0) := n1
   clear n1
   refine regP 12 (fun j v wg => match j with
    | 0 => v = .int .i64 er1
    | 1 => v = .bool true
    | 2 => v = .bool true
    | 3 => v = undef
    | 4 => v = undef
    | 5 => v = .bool true
    | 6 => v = .bool true
    | 7 => v = undef
    | 8 => v = undef
    | 9 => v = undef
    | 10 => v = .bool true
    | 11 => v = .bool true
    | _ => True) (by decide) (by kernel_rfl) ?_ ?_ ?_
   ·intro j v u1 u2 h hc; exact h
   ·intro i o ac u hi ho hsz hf hg hc
    have hcs : i = 0 ∨ i = 1 ∨ i = 2 ∨ i = 3 ∨ i = 4 ∨ i = 5 ∨ i = 6 ∨ i = 7 ∨ i = 8 ∨ i = 9 ∨ i = 10 ∨ i = 11 := by omega
    rcases hcs with rfl | rfl | rfl | rfl | rfl | rfl | rfl | rfl | rfl | rfl | rfl | rfl <;> (injection ho with ho; subst ho)
    ·refine .inl ⟨wanted_none rfl, ?_⟩
     have e1 : ac.eval (.tmp 9) = .int .i64 er1 := hf 9 (by kernel_rfl)
     exact opG_val (by simp [execOp, e1]) rfl (Chg.refl _)
    ·refine .inl ⟨wanted_none rfl, ?_⟩
     have e1 : ac.eval (.tmp 48) = .int .i64 er1 := hg 0 (by decide) (by decide)
     have e2 : ac.eval (.const (.int .i64 0)) = .int .i64 0 := rfl
     exact opG_val (by revert e1 e2; generalize ac.eval = ρ; intro e1 e2; simp [go_sem, execOp, e1, e2, eq_false N1.out]) rfl (Chg.refl _)
    ·refine .inl ⟨wanted_none rfl, ?_⟩
     have e1 : ac.eval (.tmp 49) = .bool true := hg 1 (by decide) (by decide)
     exact opG_val (by simp [execOp, e1]) rfl (Chg.refl _)
    ·exact .inr ⟨wanted_not (T := _) (by kernel_rfl) hsz rfl (by decide : 2 < 12) rfl rfl (hg 2 (by decide) (by decide)), rfl⟩
    ·exact .inr ⟨wanted_not (T := _) (by kernel_rfl) hsz rfl (by decide : 2 < 12) rfl rfl (hg 2 (by decide) (by decide)), rfl⟩
    ·refine .inl ⟨wanted_none rfl, ?_⟩
     have e1 : ac.eval (.tmp 50) = .bool true := hg 2 (by decide) (by decide)
     have e2 : ac.eval (.const (.bool true)) = .bool true := rfl
     have e3 : ac.eval (.tmp 52) = undef := hg 4 (by decide) (by decide)
     exact opG_val (by revert e1 e2 e3; generalize ac.eval = ρ; intro e1 e2 e3; simp [go_sem, execOp, e1, e2, e3]) rfl (Chg.refl _)
    ·refine .inl ⟨wanted_none rfl, ?_⟩
     have e1 : ac.eval (.tmp 53) = .bool true := hg 5 (by decide) (by decide)
     exact opG_val (by simp [execOp, e1]) rfl (Chg.refl _)
    ·exact .inr ⟨wanted_not (T := _) (by kernel_rfl) hsz rfl (by decide : 6 < 12) rfl rfl (hg 6 (by decide) (by decide)), rfl⟩
    ·exact .inr ⟨wanted_not (T := _) (by kernel_rfl) hsz rfl (by decide : 6 < 12) rfl rfl (hg 6 (by decide) (by decide)), rfl⟩
    ·exact .inr ⟨wanted_not (T := _) (by kernel_rfl) hsz rfl (by decide : 6 < 12) rfl rfl (hg 6 (by decide) (by decide)), rfl⟩
    ·refine .inl ⟨wanted_none rfl, ?_⟩
     have e1 : ac.eval (.tmp 54) = .bool true := hg 6 (by decide) (by decide)
     have e2 : ac.eval (.const (.bool true)) = .bool true := rfl
     have e3 : ac.eval (.tmp 57) = undef := hg 9 (by decide) (by decide)
     exact opG_val (by revert e1 e2 e3; generalize ac.eval = ρ; intro e1 e2 e3; simp [go_sem, execOp, e1, e2, e3]) rfl (Chg.refl _)
    ·refine .inl ⟨wanted_none rfl, ?_⟩
     have e1 : ac.eval (.tmp 58) = .bool true := hg 10 (by decide) (by decide)
     exact opG_val (by simp [execOp, e1]) rfl (Chg.refl _)
   ·intro u V hV hc
    have q16 : V 11 = .bool true := hV 11 (by decide)
    go_wp2_with fail
    go_meet
    exact ⟨q16, (Z6.out.1.trans hc), (Z6.out.2.1.chg hc), (Z6.out.2.2.1.chg hc), (Z6.out.2.2.2.1.chg hc), (Z6.out.2.2.2.2.1.chg hc), (Z6.out.2.2.2.2.2.1.chg hc), (Z6.out.2.2.2.2.2.2.chg hc)⟩
  case true =>
   cases b2
   case false =>
    have n1 : er1 = 0 := of_decide_eq_true HB1.out
    have N1 : Hid (er1 = 0) := n1
    clear n1
    have n2 : ¬ er2 = 0 := of_decide_eq_false HB2.out
    have N2 : Hid (¬ er2 = 0) := n2
    clear n2
    refine regP 12 (fun j v wg => match j with
     | 0 => v = .int .i64 er1
     | 1 => v = .bool false
     | 2 => v = .bool false
     | 3 => v = .int .i64 er2
     | 4 => v = .bool true
     | 5 => v = .bool true
     | 6 => v = .bool true
     | 7 => v = undef
     | 8 => v = undef
     | 9 => v = undef
     | 10 => v = .bool true
     | 11 => v = .bool true
     | _ => True) (by decide) (by kernel_rfl) ?_ ?_ ?_
    ·intro j v u1 u2 h hc; exact h
    ·intro i o ac u hi ho hsz hf hg hc
     have hcs : i = 0 ∨ i = 1 ∨ i = 2 ∨ i = 3 ∨ i = 4 ∨ i = 5 ∨ i = 6 ∨ i = 7 ∨ i = 8 ∨ i = 9 ∨ i = 10 ∨ i = 11 := by omega
     rcases hcs with rfl | rfl | rfl | rfl | rfl | rfl | rfl | rfl | rfl | rfl | rfl | rfl <;> (injection ho with ho; subst ho)
     ·refine .inl ⟨wanted_none rfl, ?_⟩
      have e1 : ac.eval (.tmp 9) = .int .i64 er1 := hf 9 (by kernel_rfl)
      exact opG_val (by simp [execOp, e1]) rfl (Chg.refl _)
     ·refine .inl ⟨wanted_none rfl, ?_⟩
      have e1 : ac.eval (.tmp 48) = .int .i64 er1 := hg 0 (by decide) (by decide)
      have e2 : ac.eval (.const (.int .i64 0)) = .int .i64 0 := rfl
      exact opG_val (by revert e1 e2; generalize ac.eval = ρ; intro e1 e2; simp [go_sem, execOp, e1, e2, N1.out]) rfl (Chg.refl _)
     ·refine .inl ⟨wanted_none rfl, ?_⟩
      have e1 : ac.eval (.tmp 49) = .bool false := hg 1 (by decide) (by decide)
      exact opG_val (by simp [execOp, e1]) rfl (Chg.refl _)
     ·refine .inl ⟨wanted_by (T := _) (by kernel_rfl) hsz rfl (by decide : 2 < 12) rfl (hg 2 (by decide) (by decide)), ?_⟩
      have e1 : ac.eval (.tmp 11) = .int .i64 er2 := hf 11 (by kernel_rfl)
      exact opG_val (by simp [execOp, e1]) rfl (Chg.refl _)
     ·refine .inl ⟨wanted_by (T := _) (by kernel_rfl) hsz rfl (by decide : 2 < 12) rfl (hg 2 (by decide) (by decide)), ?_⟩
      have e1 : ac.eval (.tmp 51) = .int .i64 er2 := hg 3 (by decide) (by decide)
      have e2 : ac.eval (.const (.int .i64 0)) = .int .i64 0 := rfl
      exact opG_val (by revert e1 e2; generalize ac.eval = ρ; intro e1 e2; simp [go_sem, execOp, e1, e2, eq_false N2.out]) rfl (Chg.refl _)
     ·refine .inl ⟨wanted_none rfl, ?_⟩
      have e1 : ac.eval (.tmp 50) = .bool false := hg 2 (by decide) (by decide)
      have e2 : ac.eval (.const (.bool true)) = .bool true := rfl
      have e3 : ac.eval (.tmp 52) = .bool true := hg 4 (by decide) (by decide)
      exact opG_val (by revert e1 e2 e3; generalize ac.eval = ρ; intro e1 e2 e3; simp [go_sem, execOp, e1, e2, e3]) rfl (Chg.refl _)
     ·refine .inl ⟨wanted_none rfl, ?_⟩
      have e1 : ac.eval (.tmp 53) = .bool true := hg 5 (by decide) (by decide)
      exact opG_val (by simp [execOp, e1]) rfl (Chg.refl _)
     ·exact .inr ⟨wanted_not (T := _) (by kernel_rfl) hsz rfl (by decide : 6 < 12) rfl rfl (hg 6 (by decide) (by decide)), rfl⟩
     ·exact .inr ⟨wanted_not (T := _) (by kernel_rfl) hsz rfl (by decide : 6 < 12) rfl rfl (hg 6 (by decide) (by decide)), rfl⟩
     ·exact .inr ⟨wanted_not (T := _) (by kernel_rfl) hsz rfl (by decide : 6 < 12) rfl rfl (hg 6 (by decide) (by decide)), rfl⟩
     ·refine .inl ⟨wanted_none rfl, ?_⟩
      have e1 : ac.eval (.tmp 54) = .bool true := hg 6 (by decide) (by decide)
      have e2 : ac.eval (.const (.bool true)) = .bool true := rfl
      have e3 : ac.eval (.tmp 57) = undef := hg 9 (by decide) (by decide)
      exact opG_val (by revert e1 e2 e3; generalize ac.eval = ρ; intro e1 e2 e3; simp [go_sem, execOp, e1, e2, e3]) rfl (Chg.refl _)
     ·refine .inl ⟨wanted_none rfl, ?_⟩
      have e1 : ac.eval (.tmp 58) = .bool true := hg 10 (by decide) (by decide)
      exact opG_val (by simp [execOp, e1]) rfl (Chg.refl _)
    ·intro u V hV hc
     have q16 : V 11 = .bool true := hV 11 (by decide)
     go_wp2_with fail
     go_meet
     exact ⟨q16, (Z6.out.1.trans hc), (Z6.out.2.1.chg hc), (Z6.out.2.2.1.chg hc), (Z6.out.2.2.2.1.chg hc), (Z6.out.2.2.2.2.1.chg hc), (Z6.out.2.2.2.2.2.1.chg hc), (Z6.out.2.2.2.2.2.2.chg hc)⟩
   case true =>
    have n1 : er1 = 0 := of_decide_eq_true HB1.out
    have N1 : Hid (er1 = 0) := n1
    clear n1
    have n2 : er2 = 0 := of_decide_eq_true HB2.out
    have N2 : Hid (er2 = 0) := n2
    clear n2
    have NE : Hid _ := HE.out N1.out N2.out
    refine regP 12 (fun j v wg => match j with
     | 0 => v = .int .i64 er1
     | 1 => v = .bool false
     | 2 => v = .bool false
     | 3 => v = .int .i64 er2
     | 4 => v = .bool false
     | 5 => v = .bool false
     | 6 => v = .bool false
     | 7 => v = .agg (byt f1)
     | 8 => v = .agg (byt f2)
     | 9 => v = .bool true
     | 10 => v = .bool true
     | 11 => v = .bool true
     | _ => True) (by decide) (by kernel_rfl) ?_ ?_ ?_
    ·intro j v u1 u2 h hc; exact h
    ·intro i o ac u hi ho hsz hf hg hc
     have hcs : i = 0 ∨ i = 1 ∨ i = 2 ∨ i = 3 ∨ i = 4 ∨ i = 5 ∨ i = 6 ∨ i = 7 ∨ i = 8 ∨ i = 9 ∨ i = 10 ∨ i = 11 := by omega
     rcases hcs with rfl | rfl | rfl | rfl | rfl | rfl | rfl | rfl | rfl | rfl | rfl | rfl <;> (injection ho with ho; subst ho)
     ·refine .inl ⟨wanted_none rfl, ?_⟩
      have e1 : ac.eval (.tmp 9) = .int .i64 er1 := hf 9 (by kernel_rfl)
      exact opG_val (by simp [execOp, e1]) rfl (Chg.refl _)
     ·refine .inl ⟨wanted_none rfl, ?_⟩
      have e1 : ac.eval (.tmp 48) = .int .i64 er1 := hg 0 (by decide) (by decide)
      have e2 : ac.eval (.const (.int .i64 0)) = .int .i64 0 := rfl
      exact opG_val (by revert e1 e2; generalize ac.eval = ρ; intro e1 e2; simp [go_sem, execOp, e1, e2, N1.out]) rfl (Chg.refl _)
     ·refine .inl ⟨wanted_none rfl, ?_⟩
      have e1 : ac.eval (.tmp 49) = .bool false := hg 1 (by decide) (by decide)
      exact opG_val (by simp [execOp, e1]) rfl (Chg.refl _)
     ·refine .inl ⟨wanted_by (T := _) (by kernel_rfl) hsz rfl (by decide : 2 < 12) rfl (hg 2 (by decide) (by decide)), ?_⟩
      have e1 : ac.eval (.tmp 11) = .int .i64 er2 := hf 11 (by kernel_rfl)
      exact opG_val (by simp [execOp, e1]) rfl (Chg.refl _)
     ·refine .inl ⟨wanted_by (T := _) (by kernel_rfl) hsz rfl (by decide : 2 < 12) rfl (hg 2 (by decide) (by decide)), ?_⟩
      have e1 : ac.eval (.tmp 51) = .int .i64 er2 := hg 3 (by decide) (by decide)
      have e2 : ac.eval (.const (.int .i64 0)) = .int .i64 0 := rfl
      exact opG_val (by revert e1 e2; generalize ac.eval = ρ; intro e1 e2; simp [go_sem, execOp, e1, e2, N2.out]) rfl (Chg.refl _)
     ·refine .inl ⟨wanted_none rfl, ?_⟩
      have e1 : ac.eval (.tmp 50) = .bool false := hg 2 (by decide) (by decide)
      have e2 : ac.eval (.const (.bool true)) = .bool true := rfl
      have e3 : ac.eval (.tmp 52) = .bool false := hg 4 (by decide) (by decide)
      exact opG_val (by revert e1 e2 e3; generalize ac.eval = ρ; intro e1 e2 e3; simp [go_sem, execOp, e1, e2, e3]) rfl (Chg.refl _)
     ·refine .inl ⟨wanted_none rfl, ?_⟩
      have e1 : ac.eval (.tmp 53) = .bool false := hg 5 (by decide) (by decide)
      exact opG_val (by simp [execOp, e1]) rfl (Chg.refl _)
     ·refine .inl ⟨wanted_by (T := _) (by kernel_rfl) hsz rfl (by decide : 6 < 12) rfl (hg 6 (by decide) (by decide)), ?_⟩
      have e1 : ac.eval (.tmp 8) = .pointer (some ⟨b8, 0, none⟩) := hf 8 (by kernel_rfl)
      exact wp_load_mid 40 (.tmp 8) rfl _ _ e1 ((byt f1).toList) _ (rangeAp (Z6.out.2.2.2.1.chg hc)) un37 rfl (infoY _) ⟨_, rfl, rfl, Chg.refl _⟩
     ·refine .inl ⟨wanted_by (T := _) (by kernel_rfl) hsz rfl (by decide : 6 < 12) rfl (hg 6 (by decide) (by decide)), ?_⟩
      have e1 : ac.eval (.tmp 10) = .pointer (some ⟨b10, 0, none⟩) := hf 10 (by kernel_rfl)
      exact wp_load_mid 40 (.tmp 10) rfl _ _ e1 ((byt f2).toList) _ (rangeAp (Z6.out.2.2.2.2.1.chg hc)) un37 rfl (infoY _) ⟨_, rfl, rfl, Chg.refl _⟩
     ·refine .inl ⟨wanted_by (T := _) (by kernel_rfl) hsz rfl (by decide : 6 < 12) rfl (hg 6 (by decide) (by decide)), ?_⟩
      have e1 : ac.eval (.tmp 55) = .agg (byt f1) := hg 7 (by decide) (by decide)
      have e2 : ac.eval (.tmp 56) = .agg (byt f2) := hg 8 (by decide) (by decide)
      exact opG_val (by revert e1 e2; generalize ac.eval = ρ; intro e1 e2; simp [go_sem, execOp, e1, e2, run_eqBy, NE.out, eqBy_self]) rfl (Chg.refl _)
     ·refine .inl ⟨wanted_none rfl, ?_⟩
      have e1 : ac.eval (.tmp 54) = .bool false := hg 6 (by decide) (by decide)
      have e2 : ac.eval (.const (.bool true)) = .bool true := rfl
      have e3 : ac.eval (.tmp 57) = .bool true := hg 9 (by decide) (by decide)
      exact opG_val (by revert e1 e2 e3; generalize ac.eval = ρ; intro e1 e2 e3; simp [go_sem, execOp, e1, e2, e3]) rfl (Chg.refl _)
     ·refine .inl ⟨wanted_none rfl, ?_⟩
      have e1 : ac.eval (.tmp 58) = .bool true := hg 10 (by decide) (by decide)
      exact opG_val (by simp [execOp, e1]) rfl (Chg.refl _)
    ·intro u V hV hc
     have q16 : V 11 = .bool true := hV 11 (by decide)
     go_wp2_with fail
     go_meet
     exact ⟨q16, (Z6.out.1.trans hc), (Z6.out.2.1.chg hc), (Z6.out.2.2.1.chg hc), (Z6.out.2.2.2.1.chg hc), (Z6.out.2.2.2.2.1.chg hc), (Z6.out.2.2.2.2.2.1.chg hc), (Z6.out.2.2.2.2.2.2.chg hc)⟩
 obtain ⟨rfl, hz⟩ := hcut
 obtain ⟨w19, hw19⟩ : ∃ zz0, zz0 = wc := ⟨_, rfl⟩
 rw [← hw19] at hz ⊢
 have ZZ : Hid _ := hz
 clear hw19 hz Z6
 go_upto_region 7 with fail
 go_cut [17, 18] from 17 to 65 (fun v17 v18 wc => ∃ b17, v17 = .pointer (some ⟨b17, 0, none⟩) ∧ v18 = .int .i64 er1 ∧ Chg w wc ∧ Ar wc b8 (byt f1) ∧ Ar wc b12 (byt f3) ∧ Ar wc b14 (byt f3) ∧ Ar wc b17 (byt f1))
 case first =>
  refine wp_region_store 8 (fun j v fl wg => match j with
   | 0 => v = .agg (num d)
   | 1 => v = .agg (num e)
   | 2 => v = .agg (pt (zP B) (xP B) (yP B))
   | 3 => v = .tuple #[.agg (byt f1), .int .i64 er1]
   | 4 => v = .tuple #[.agg (byt f1), .int .i64 er1]
   | 5 => v = .agg (byt f1)
   | 6 => v = .int .i64 er1
   | 7 => ∃ b, v = .pointer (some ⟨b, 0, none⟩) ∧ w19.heap.size ≤ b ∧ (fl = true → Ar wg b (byt f1)) ∧ (fl = false → Ar wg b (byt zD))
   | 9 => v = .int .i64 er1
   | _ => True) (fun _ u => Chg w19.drew u) (by kernel_rfl) (by decide) (by kernel_rfl) (by kernel_rfl) (by kernel_rfl) ?_ ?_ ?_ ?_ ?_ ?_
  ·intro j v fl u1 u2 h hc
   match j, h with
   | 0, h => exact h
   | 1, h => exact h
   | 2, h => exact h
   | 3, h => exact h
   | 4, h => exact h
   | 5, h => exact h
   | 6, h => exact h
   | 7, h => (obtain ⟨b, h1, h2, h3, h4⟩ := h; exact ⟨b, h1, h2, fun e => (h3 e).chg hc, fun e => (h4 e).chg hc⟩)
   | 8, h => exact trivial
   | 9, h => exact h
   | _ + 10, h => exact trivial
  ·intro fl u u' h k
   exact h.trans k
  ·intro i o' ac u fl hi his ho hfl hf hg hB
   have hi' : i < 10 := hi
   have hcs : i = 0 ∨ i = 1 ∨ i = 2 ∨ i = 3 ∨ i = 4 ∨ i = 5 ∨ i = 6 ∨ i = 7 ∨ i = 9 := by omega
   rcases hcs with rfl | rfl | rfl | rfl | rfl | rfl | rfl | rfl | rfl
   ·injection ho with ho
    subst ho
    have e1 : ac.eval (.tmp 3) = .pointer (some ⟨w.heap.size, 0, none⟩) := hf 3 (by kernel_rfl)
    exact wp_load_mid 24 (.tmp 3) rfl _ _ e1 ((num d).toList) _ (rangeAp (Ar.chg (w := w19.drew) ZZ.out.2.1.drew hB)) undNum rfl (infoN _) ⟨_, rfl, rfl, Chg.refl _⟩
   ·injection ho with ho
    subst ho
    have e1 : ac.eval (.tmp 4) = .pointer (some ⟨w.heap.size + 1, 0, none⟩) := hf 4 (by kernel_rfl)
    exact wp_load_mid 24 (.tmp 4) rfl _ _ e1 ((num e).toList) _ (rangeAp (Ar.chg (w := w19.drew) ZZ.out.2.2.1.drew hB)) undNum rfl (infoN _) ⟨_, rfl, rfl, Chg.refl _⟩
   ·injection ho with ho
    subst ho
    have e1 : ac.eval (.tmp 61) = .agg (num e) := hg 1 (by kernel_rfl) (by decide) (by decide)
    refine opG_go 17 Try.f17 #[.tmp 61] #[24] rfl Try.func17 (by kernel_rfl) (by kernel_rfl) (by simp [e1]) (Calls.mono ((pointS_any _ (HN.out.2.1) _).mono (fun r w' hq => by rw [HB.out] at hq; exact hq)) ?_)
    rintro r u2 ⟨rfl, hc2⟩
    exact ⟨_, rfl, rfl, hc2⟩
   ·injection ho with ho
    subst ho
    have e1 : ac.eval (.tmp 60) = .agg (num d) := hg 0 (by kernel_rfl) (by decide) (by decide)
    have e2 : ac.eval (.tmp 62) = .agg (pt (zP B) (xP B) (yP B)) := hg 2 (by kernel_rfl) (by decide) (by decide)
    refine opG_go 22 Try.f22 #[.tmp 60, .tmp 62] #[24, 26] rfl Try.func22 (by kernel_rfl) (by kernel_rfl) (by simp [e1, e2]) (Calls.mono (shS_any (HN.out.1) (xP_N _) (yP_N _) HF1.out.1 HF1.out.2 _) ?_)
    rintro r u2 ⟨rfl, hc2⟩
    exact ⟨_, rfl, rfl, hc2⟩
   ·injection ho with ho
    subst ho
    have e1 : ac.eval (.tmp 63) = .tuple #[.agg (byt f1), .int .i64 er1] := hg 3 (by kernel_rfl) (by decide) (by decide)
    exact opG_val (by simp [execOp, e1]) rfl (Chg.refl _)
   ·injection ho with ho
    subst ho
    have e1 : ac.eval (.tmp 59) = .tuple #[.agg (byt f1), .int .i64 er1] := hg 4 (by kernel_rfl) (by decide) (by decide)
    exact opG_val (by revert e1; generalize ac.eval = ρ; intro e1; simp [go_sem, execOp, e1]) rfl (Chg.refl _)
   ·injection ho with ho
    subst ho
    have e1 : ac.eval (.tmp 59) = .tuple #[.agg (byt f1), .int .i64 er1] := hg 4 (by kernel_rfl) (by decide) (by decide)
    exact opG_val (by revert e1; generalize ac.eval = ρ; intro e1; simp [go_sem, execOp, e1]) rfl (Chg.refl _)
   ·injection ho with ho
    subst ho
    refine opG_val (v := .pointer (some ⟨u.heap.size, 0, none⟩)) (w' := u.alloc (.cells (byt zD) 40)) (by simp [go_sem, execOp, zero37.1]) ⟨_, rfl, hB.size, ?_, ?_⟩ ((Chg.refl _).alloc _)
    ·intro e
     rw [hfl (by kernel_rfl)] at e
     cases e
    ·intro _; exact Ar.new _ _ _
   ·injection ho with ho
    subst ho
    have e1 : ac.eval (.tmp 65) = .int .i64 er1 := hg 6 (by kernel_rfl) (by decide) (by decide)
    exact opG_val (by simp [execOp, e1]) rfl (Chg.refl _)
  ·intro o' ac u ho hf hg hB
   injection ho with ho
   subst ho
   obtain ⟨b, e1, h1, h2, h3⟩ := hg 7 (by kernel_rfl) (by decide) (by decide)
   have e2 : ac.eval (.tmp 64) = .agg (byt f1) := hg 5 (by kernel_rfl) (by decide) (by decide)
   refine wp_store_mid 40 (.tmp 17) (.tmp 64) rfl b 0 (byt f1) e1 e2 (by rw [byt_size]; exact thereY ((h3 rfl))) (szY _) (oneY _) ⟨rfl, ?_, ?_⟩
   ·rw [setRowY ((h3 rfl)) _]
    exact Chg.setRow hB h1 _
   ·intro j hj hjs h
    rw [setRowY ((h3 rfl)) _]
    have hj' : j < 10 := hj
    have hcs : j = 0 ∨ j = 1 ∨ j = 2 ∨ j = 3 ∨ j = 4 ∨ j = 5 ∨ j = 6 ∨ j = 7 ∨ j = 9 := by omega
    rcases hcs with rfl | rfl | rfl | rfl | rfl | rfl | rfl | rfl | rfl
    ·exact h
    ·exact h
    ·exact h
    ·exact h
    ·exact h
    ·exact h
    ·exact h
    ·exact ⟨b, e1, h1, fun _ => (h3 rfl).row _, fun e => nomatch e⟩
    ·exact h
  ·exact Chg.refl _
  ·intro u V hV hB
   have qas : V 9 = .int .i64 er1 := hV 9 (by decide) (by decide)
   obtain ⟨b, qb, h1, h2, h3⟩ := hV 7 (by decide) (by decide)
   have hcu : Chg w19 u := (Chg.refl w19).drew.trans hB
   have h2r := h2 rfl
   clear h2 h3
   go_wp2_with fail
   go_meet
   exact ⟨b, qb, qas, ZZ.out.1.trans hcu, ZZ.out.2.2.2.1.chg hcu, ZZ.out.2.2.2.2.2.1.chg hcu, ZZ.out.2.2.2.2.2.2.chg hcu, h2r⟩
 obtain ⟨b17, rfl, rfl, hz⟩ := hcut
 obtain ⟨w20, hw20⟩ : ∃ zz0, zz0 = wc := ⟨_, rfl⟩
 rw [← hw20] at hz ⊢
 have Z20 : Hid _ := hz
 clear hw20 hz ZZ
 go_upto_region 8 with fail
 go_cut [6] from 6 to 89 (fun v6 wc => v6 = .bool true ∧ Chg w wc)
 case first =>
  refine regP 25 (fun j v wg => match j with
   | 0 => v = .bool true
   | 1 => v = .bool true
   | 2 => v = .bool true
   | 3 => v = .bool true
   | 4 => v = .bool true
   | 5 => v = .agg (byt f3)
   | 6 => v = .agg (byt f3)
   | 7 => v = .bool true
   | 8 => v = .bool true
   | 9 => v = .bool true
   | 10 => v = .int .i64 er3
   | 11 => v = .int .i64 er3
   | 12 => v = .bool true
   | 13 => v = .bool true
   | 14 => v = .bool true
   | 15 => v = .agg (byt f1)
   | 16 => v = .agg (byt f1)
   | 17 => v = .bool true
   | 18 => v = .bool true
   | 19 => v = .bool true
   | 20 => v = .int .i64 er1
   | 21 => v = .int .i64 er1
   | 22 => v = .bool true
   | 23 => v = .bool true
   | 24 => v = .bool true
   | _ => True) (by decide) (by kernel_rfl) ?_ ?_ ?_
  ·intro j v u1 u2 h hc; exact h
  ·intro i o ac u hi ho hsz hf hg hc
   have hcs : i = 0 ∨ i = 1 ∨ i = 2 ∨ i = 3 ∨ i = 4 ∨ i = 5 ∨ i = 6 ∨ i = 7 ∨ i = 8 ∨ i = 9 ∨ i = 10 ∨ i = 11 ∨ i = 12 ∨ i = 13 ∨ i = 14 ∨ i = 15 ∨ i = 16 ∨ i = 17 ∨ i = 18 ∨ i = 19 ∨ i = 20 ∨ i = 21 ∨ i = 22 ∨ i = 23 ∨ i = 24 := by omega
   rcases hcs with rfl | rfl | rfl | rfl | rfl | rfl | rfl | rfl | rfl | rfl | rfl | rfl | rfl | rfl | rfl | rfl | rfl | rfl | rfl | rfl | rfl | rfl | rfl | rfl | rfl <;> (injection ho with ho; subst ho)
   ·refine .inl ⟨wanted_none rfl, ?_⟩
    have e1 : ac.eval (.tmp 7) = .bool true := hf 7 (by kernel_rfl)
    exact opG_val (by simp [execOp, e1]) rfl (Chg.refl _)
   ·refine .inl ⟨wanted_none rfl, ?_⟩
    have e1 : ac.eval (.tmp 66) = .bool true := hg 0 (by decide) (by decide)
    exact opG_val (by simp [execOp, e1]) rfl (Chg.refl _)
   ·refine .inl ⟨wanted_by (T := _) (by kernel_rfl) hsz rfl (by decide : 1 < 25) rfl (hg 1 (by decide) (by decide)), ?_⟩
    have e1 : ac.eval (.tmp 16) = .bool true := hf 16 (by kernel_rfl)
    exact opG_val (by simp [execOp, e1]) rfl (Chg.refl _)
   ·refine .inl ⟨wanted_none rfl, ?_⟩
    have e1 : ac.eval (.tmp 67) = .bool true := hg 1 (by decide) (by decide)
    have e2 : ac.eval (.tmp 68) = .bool true := hg 2 (by decide) (by decide)
    have e3 : ac.eval (.const (.bool false)) = .bool false := rfl
    exact opG_val (by revert e1 e2 e3; generalize ac.eval = ρ; intro e1 e2 e3; simp [go_sem, execOp, e1, e2, e3]) rfl (Chg.refl _)
   ·refine .inl ⟨wanted_none rfl, ?_⟩
    have e1 : ac.eval (.tmp 69) = .bool true := hg 3 (by decide) (by decide)
    exact opG_val (by simp [execOp, e1]) rfl (Chg.refl _)
   ·refine .inl ⟨wanted_by (T := _) (by kernel_rfl) hsz rfl (by decide : 4 < 25) rfl (hg 4 (by decide) (by decide)), ?_⟩
    have e1 : ac.eval (.tmp 12) = .pointer (some ⟨b12, 0, none⟩) := hf 12 (by kernel_rfl)
    exact wp_load_mid 40 (.tmp 12) rfl _ _ e1 ((byt f3).toList) _ (rangeAp (Z20.out.2.2.1.chg hc)) un37 rfl (infoY _) ⟨_, rfl, rfl, Chg.refl _⟩
   ·refine .inl ⟨wanted_by (T := _) (by kernel_rfl) hsz rfl (by decide : 4 < 25) rfl (hg 4 (by decide) (by decide)), ?_⟩
    have e1 : ac.eval (.tmp 14) = .pointer (some ⟨b14, 0, none⟩) := hf 14 (by kernel_rfl)
    exact wp_load_mid 40 (.tmp 14) rfl _ _ e1 ((byt f3).toList) _ (rangeAp (Z20.out.2.2.2.1.chg hc)) un37 rfl (infoY _) ⟨_, rfl, rfl, Chg.refl _⟩
   ·refine .inl ⟨wanted_by (T := _) (by kernel_rfl) hsz rfl (by decide : 4 < 25) rfl (hg 4 (by decide) (by decide)), ?_⟩
    have e1 : ac.eval (.tmp 71) = .agg (byt f3) := hg 5 (by decide) (by decide)
    have e2 : ac.eval (.tmp 72) = .agg (byt f3) := hg 6 (by decide) (by decide)
    exact opG_val (by revert e1 e2; generalize ac.eval = ρ; intro e1 e2; simp [go_sem, execOp, e1, e2, run_eqBy, eqBy_self]) rfl (Chg.refl _)
   ·refine .inl ⟨wanted_none rfl, ?_⟩
    have e1 : ac.eval (.tmp 70) = .bool true := hg 4 (by decide) (by decide)
    have e2 : ac.eval (.tmp 73) = .bool true := hg 7 (by decide) (by decide)
    have e3 : ac.eval (.const (.bool false)) = .bool false := rfl
    exact opG_val (by revert e1 e2 e3; generalize ac.eval = ρ; intro e1 e2 e3; simp [go_sem, execOp, e1, e2, e3]) rfl (Chg.refl _)
   ·refine .inl ⟨wanted_none rfl, ?_⟩
    have e1 : ac.eval (.tmp 74) = .bool true := hg 8 (by decide) (by decide)
    exact opG_val (by simp [execOp, e1]) rfl (Chg.refl _)
   ·refine .inl ⟨wanted_by (T := _) (by kernel_rfl) hsz rfl (by decide : 9 < 25) rfl (hg 9 (by decide) (by decide)), ?_⟩
    have e1 : ac.eval (.tmp 13) = .int .i64 er3 := hf 13 (by kernel_rfl)
    exact opG_val (by simp [execOp, e1]) rfl (Chg.refl _)
   ·refine .inl ⟨wanted_by (T := _) (by kernel_rfl) hsz rfl (by decide : 9 < 25) rfl (hg 9 (by decide) (by decide)), ?_⟩
    have e1 : ac.eval (.tmp 15) = .int .i64 er3 := hf 15 (by kernel_rfl)
    exact opG_val (by simp [execOp, e1]) rfl (Chg.refl _)
   ·refine .inl ⟨wanted_by (T := _) (by kernel_rfl) hsz rfl (by decide : 9 < 25) rfl (hg 9 (by decide) (by decide)), ?_⟩
    have e1 : ac.eval (.tmp 76) = .int .i64 er3 := hg 10 (by decide) (by decide)
    have e2 : ac.eval (.tmp 77) = .int .i64 er3 := hg 11 (by decide) (by decide)
    exact opG_val (by revert e1 e2; generalize ac.eval = ρ; intro e1 e2; simp [go_sem, execOp, e1, e2]) rfl (Chg.refl _)
   ·refine .inl ⟨wanted_none rfl, ?_⟩
    have e1 : ac.eval (.tmp 75) = .bool true := hg 9 (by decide) (by decide)
    have e2 : ac.eval (.tmp 78) = .bool true := hg 12 (by decide) (by decide)
    have e3 : ac.eval (.const (.bool false)) = .bool false := rfl
    exact opG_val (by revert e1 e2 e3; generalize ac.eval = ρ; intro e1 e2 e3; simp [go_sem, execOp, e1, e2, e3]) rfl (Chg.refl _)
   ·refine .inl ⟨wanted_none rfl, ?_⟩
    have e1 : ac.eval (.tmp 79) = .bool true := hg 13 (by decide) (by decide)
    exact opG_val (by simp [execOp, e1]) rfl (Chg.refl _)
   ·refine .inl ⟨wanted_by (T := _) (by kernel_rfl) hsz rfl (by decide : 14 < 25) rfl (hg 14 (by decide) (by decide)), ?_⟩
    have e1 : ac.eval (.tmp 8) = .pointer (some ⟨b8, 0, none⟩) := hf 8 (by kernel_rfl)
    exact wp_load_mid 40 (.tmp 8) rfl _ _ e1 ((byt f1).toList) _ (rangeAp (Z20.out.2.1.chg hc)) un37 rfl (infoY _) ⟨_, rfl, rfl, Chg.refl _⟩
   ·refine .inl ⟨wanted_by (T := _) (by kernel_rfl) hsz rfl (by decide : 14 < 25) rfl (hg 14 (by decide) (by decide)), ?_⟩
    have e1 : ac.eval (.tmp 17) = .pointer (some ⟨b17, 0, none⟩) := hf 17 (by kernel_rfl)
    exact wp_load_mid 40 (.tmp 17) rfl _ _ e1 ((byt f1).toList) _ (rangeAp (Z20.out.2.2.2.2.chg hc)) un37 rfl (infoY _) ⟨_, rfl, rfl, Chg.refl _⟩
   ·refine .inl ⟨wanted_by (T := _) (by kernel_rfl) hsz rfl (by decide : 14 < 25) rfl (hg 14 (by decide) (by decide)), ?_⟩
    have e1 : ac.eval (.tmp 81) = .agg (byt f1) := hg 15 (by decide) (by decide)
    have e2 : ac.eval (.tmp 82) = .agg (byt f1) := hg 16 (by decide) (by decide)
    exact opG_val (by revert e1 e2; generalize ac.eval = ρ; intro e1 e2; simp [go_sem, execOp, e1, e2, run_eqBy, eqBy_self]) rfl (Chg.refl _)
   ·refine .inl ⟨wanted_none rfl, ?_⟩
    have e1 : ac.eval (.tmp 80) = .bool true := hg 14 (by decide) (by decide)
    have e2 : ac.eval (.tmp 83) = .bool true := hg 17 (by decide) (by decide)
    have e3 : ac.eval (.const (.bool false)) = .bool false := rfl
    exact opG_val (by revert e1 e2 e3; generalize ac.eval = ρ; intro e1 e2 e3; simp [go_sem, execOp, e1, e2, e3]) rfl (Chg.refl _)
   ·refine .inl ⟨wanted_none rfl, ?_⟩
    have e1 : ac.eval (.tmp 84) = .bool true := hg 18 (by decide) (by decide)
    exact opG_val (by simp [execOp, e1]) rfl (Chg.refl _)
   ·refine .inl ⟨wanted_by (T := _) (by kernel_rfl) hsz rfl (by decide : 19 < 25) rfl (hg 19 (by decide) (by decide)), ?_⟩
    have e1 : ac.eval (.tmp 9) = .int .i64 er1 := hf 9 (by kernel_rfl)
    exact opG_val (by simp [execOp, e1]) rfl (Chg.refl _)
   ·refine .inl ⟨wanted_by (T := _) (by kernel_rfl) hsz rfl (by decide : 19 < 25) rfl (hg 19 (by decide) (by decide)), ?_⟩
    have e1 : ac.eval (.tmp 18) = .int .i64 er1 := hf 18 (by kernel_rfl)
    exact opG_val (by simp [execOp, e1]) rfl (Chg.refl _)
   ·refine .inl ⟨wanted_by (T := _) (by kernel_rfl) hsz rfl (by decide : 19 < 25) rfl (hg 19 (by decide) (by decide)), ?_⟩
    have e1 : ac.eval (.tmp 86) = .int .i64 er1 := hg 20 (by decide) (by decide)
    have e2 : ac.eval (.tmp 87) = .int .i64 er1 := hg 21 (by decide) (by decide)
    exact opG_val (by revert e1 e2; generalize ac.eval = ρ; intro e1 e2; simp [go_sem, execOp, e1, e2]) rfl (Chg.refl _)
   ·refine .inl ⟨wanted_none rfl, ?_⟩
    have e1 : ac.eval (.tmp 85) = .bool true := hg 19 (by decide) (by decide)
    have e2 : ac.eval (.tmp 88) = .bool true := hg 22 (by decide) (by decide)
    have e3 : ac.eval (.const (.bool false)) = .bool false := rfl
    exact opG_val (by revert e1 e2 e3; generalize ac.eval = ρ; intro e1 e2 e3; simp [go_sem, execOp, e1, e2, e3]) rfl (Chg.refl _)
   ·refine .inl ⟨wanted_none rfl, ?_⟩
    have e1 : ac.eval (.tmp 89) = .bool true := hg 23 (by decide) (by decide)
    exact opG_val (by simp [execOp, e1]) rfl (Chg.refl _)
  ·intro u V hV hc
   have q6 : V 24 = .bool true := hV 24 (by decide)
   go_wp2_with fail
   go_meet
   exact ⟨q6, (Z20.out.1.trans hc)⟩
 obtain ⟨rfl, hz⟩ := hcut
 obtain ⟨w21, hw21⟩ : ∃ zz0, zz0 = wc := ⟨_, rfl⟩
 rw [← hw21] at hz ⊢
 have Z21 : Hid _ := hz
 clear hw21 hz Z20
 go_wp2_with fail
 go_ret
 exact ⟨rfl, Z21.out⟩
end Go.Proofs.Ytbdgmkejmfjobaa
