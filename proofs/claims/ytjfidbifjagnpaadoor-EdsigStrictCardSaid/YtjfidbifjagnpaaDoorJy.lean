/-
  A signature is its own: plainly.
  EdsigOwn walked.
-/
import Derived.Test.YtjfidbifjagnpaaDoorVe
namespace Go.Proofs.YtjfidbifjagnpaaDoor
set_option linter.unusedVariables false
set_option maxRecDepth 100000
theorem MU_nil : ∀ q : Nat, MU (0, 1) q = (0, 1)
 | 0 => rfl
 | q + 1 => by rw [MU_succ ON.zero, MU_nil q]; exact ad_zero eF _
theorem MU_L : MU PB lN = (0, 1) := by
 have := mu_L
 rw [aC_1] at this
 exact this
theorem MU_mod (n : Nat) : MU PB (n % lN) = MU PB n := by
 have e : MU PB n = AD (MU PB (lN * (n / lN))) (MU PB (n % lN)) := by rw [← MU_add PB_on, Nat.div_add_mod]
 rw [e, ← MU_mul PB_on, MU_L, MU_nil]
 exact (ad_zero eF _).symm
theorem mo_4 : mo 4 = (lN : Int) := by decide +kernel
theorem md4_nat (x : Int) (hx : 0 ≤ x) : (md 4 x).toNat = x.toNat % lN := by
 rw [md_in (.inr (.inr (.inr rfl))), mo_4]
 obtain ⟨m, rfl⟩ := Int.eq_ofNat_of_zero_le hx
 rw [← Int.natCast_emod, Int.toNat_natCast, Int.toNat_natCast]
theorem tell_congr {f g : Nat → Int} (h : ∀ i, i < 32 → f i = g i) : tell f = tell g ∧ tP f = tP g := by
 have hy : yOf f = yOf g := val_congr fun i hi => by
  unfold cu upd
  rw [h 31 (by omega), h i hi]
 have ho : od f = od g := by unfold od; rw [h 31 (by omega)]
 unfold tell tP xOf
 rw [hy, ho]
 exact ⟨rfl, rfl⟩
theorem sg_lo (e : Nat → Int) (xs : List Int) {i : Nat} (h : i < 32) : sg e xs i = RB e xs i := by unfold sg jn; rw [if_pos h]
theorem SN_b (e : Nat → Int) (xs : List Int) : 0 ≤ SN e xs ∧ SN e xs < mo 4 := by
 unfold SN
 rw [md_in (.inr (.inr (.inr rfl)))]
 have hp : (0 : Int) < mo 4 := by decide +kernel
 exact ⟨Int.emod_nonneg _ (by omega), Int.emod_lt_of_pos _ hp⟩
theorem sV_sg (e : Nat → Int) (xs : List Int) : sV (sg e xs) = SN e xs := by
 have h := SN_b e xs
 have hm : mo 4 ≤ R256 := by decide +kernel
 have e1 : sV (sg e xs) = val 256 32 (dg 256 (SN e xs)) := val_congr fun i hi => by
  show sg e xs (32 + i) = _
  unfold sg jn
  rw [if_neg (by omega), Nat.add_sub_cancel_left]
 rw [e1, low32b]
 exact Int.emod_eq_of_lt h.1 (Int.lt_of_lt_of_le h.2 hm)
theorem tell_pK (e : Nat → Int) : tell (pK e) = true ∧ tP (pK e) = MU PB (sK e).toNat := tell_enc (PB_on.mu _)
theorem own_ok (e : Nat → Int) (xs : List Int) : vOK (pK e) xs (sg e xs) = true := by
 have hA := tell_pK e
 have hR : tell (RB e xs) = true ∧ tP (RB e xs) = MU PB (rN e xs).toNat := tell_enc (PB_on.mu _)
 have hc := tell_congr (f := sg e xs) (g := RB e xs) (fun i hi => sg_lo e xs hi)
 have hk : kN (sg e xs) (pK e) xs = kN (RB e xs) (pK e) xs := by unfold kN; rw [ls_congr (fun i hi => sg_lo e xs hi)]
 have hb := SN_b e xs
 have h1 : (tell (pK e) && (tell (sg e xs) && decide (sV (sg e xs) < mo 4))) = true := by
  rw [hA.1, hc.1, hR.1, sV_sg, decide_eq_true hb.2]
  rfl
 rw [vOK_1 h1, decide_eq_true_eq, sV_sg, hc.2, hR.2, hA.2, hk, MU_mul PB_on, ← MU_add PB_on]
 have hr := (rN_N e xs).1
 have ha := (sK_N e).1
 have hk0 := (kN_N (RB e xs) (pK e) xs).1
 have m0 : 0 ≤ md 4 (kN (RB e xs) (pK e) xs * sK e) := (md_N _ _).1
 unfold SN
 rw [md4_nat _ (by omega), MU_mod, Int.toNat_add hr m0, md4_nat _ (Int.mul_nonneg hk0 ha), Int.toNat_mul hk0 ha]
 rw [MU_add PB_on, MU_mod, ← MU_add PB_on, Nat.mul_comm]
theorem tell_own (e : Nat → Int) : tell (pK e) = true := (tell_pK e).1
theorem strict_no {A : Nat → Int} {xs : List Int} {f : Nat → Int} (h : ¬ sV f < mo 4) : vOK A xs f = false := vOK_0 (by rw [decide_eq_false h, Bool.and_false, Bool.and_false])
end Go.Proofs.YtjfidbifjagnpaaDoor
namespace Go.Proofs.YtjfidbifjagnpaaDoor
open Go.RowKit
set_option linter.unusedVariables false
set_option maxRecDepth 100000
set_option maxHeartbeats 16000000 in
theorem own_walk (e : Nat → Int) (v : Value) (xs : List Int) (w : World) (ht : Sha.Tabs w) (hx : Sha.SlA w v xs) : Calls Tryd.prog 3 #[.agg (byt e), v] w fun r w' => r = .returned (.bool true) ∧ Chg w w' := by
 obtain ⟨p, n, cap, rfl⟩ := SlA_shape hx
 have HT : Hid (Sha.Tabs w) := ht
 have HX : Hid (Sha.SlA w (.slice p n cap) xs) := hx
 have hsA := byt_size e
 obtain ⟨A, hA⟩ : ∃ A, A = byt e := ⟨_, rfl⟩
 have HA : Hid (A = byt e) := hA
 rw [← hA] at hsA ⊢
 clear hA ht hx
 go_enter Tryd.func3, Tryd.ntmps3
 go_upto_region 1 with fail
 obtain ⟨w1, hw1⟩ : ∃ w1, w1 = w.alloc (.cells A 22) := ⟨_, rfl⟩
 have Z1 : Hid (Chg w w1 ∧ Ar w1 w.heap.size (byt e)) := by
  have hnew0 := Ar.new w (byt e) 22
  rw [hw1, HA.out]
  exact ⟨((Chg.refl w).alloc _), (hnew0)⟩
 rw [← hw1]
 clear hw1
 clear hsA HA
 have HH : Hid (∀ W, Sha.Tabs W → Calls Tryd.prog 5 #[] W fun r w' => r = .returned (.bool true) ∧ Chg W w') := fun W h => head_any W h
 go_upto_region 2 with (go_at_call 5; (refine (HH.out _ (HT.out.chg (toS Z1.out.1))).mono ?_; rintro r w2 ⟨rfl, hc2⟩))
 have Z2 : Hid (Chg w w2 ∧ Ar w2 w.heap.size (byt e)) := ⟨Z1.out.1.trans hc2, Z1.out.2.chg hc2⟩
 clear hc2 Z1 HH
 go_cut [4] from 4 to 16 (fun v4 wc => v4 = .bool true ∧ Chg w2 wc)
 case first =>
  refine regA 10 (fun j v wg => match j with
   | 0 => v = .bool true
   | 1 => v = .bool true
   | 2 => v = .agg (byt e)
   | 3 => v = .agg (byt (pK e))
   | 4 => v = .slice p n cap
   | 5 => v = .agg (byt e)
   | 6 => v = .slice p n cap
   | 7 => v = .agg (b64 (sg e xs))
   | 8 => v = .bool true
   | 9 => v = .bool true
   | _ => True) (by kernel_rfl) (by kernel_rfl) (by kernel_rfl) (by kernel_rfl) (by kernel_rfl) ?_ ?_ ?_
  ·intro j v u1 u2 h hc
   match j, h with
   | 0, h => exact h
   | 1, h => exact h
   | 2, h => exact h
   | 3, h => exact h
   | 4, h => exact h
   | 5, h => exact h
   | 6, h => exact h
   | 7, h => exact h
   | 8, h => exact h
   | 9, h => exact h
   | _ + 10, h => exact trivial
  ·intro i o ac u hi ho hsz hf hg hc
   have hcs : i = 0 ∨ i = 1 ∨ i = 2 ∨ i = 3 ∨ i = 4 ∨ i = 5 ∨ i = 6 ∨ i = 7 ∨ i = 8 ∨ i = 9 := by omega
   rcases hcs with rfl | rfl | rfl | rfl | rfl | rfl | rfl | rfl | rfl | rfl
   ·injection ho with ho
    subst ho
    refine .inl ⟨wanted_none rfl, ?_⟩
    have e1 : ac.eval (.tmp 5) = .bool true := hf 5 (by kernel_rfl)
    exact opG_val (by simp [execOp, e1]) rfl (Chg.refl _)
   ·injection ho with ho
    subst ho
    refine .inl ⟨wanted_none rfl, ?_⟩
    have e1 : ac.eval (.tmp 7) = .bool true := hg 0 (by kernel_rfl) (by decide)
    exact opG_val (by simp [execOp, e1]) rfl (Chg.refl _)
   ·injection ho with ho
    subst ho
    refine .inl ⟨wanted_by (T := _) (by kernel_rfl) hsz rfl (by decide : 1 < 10) rfl (hg 1 (by kernel_rfl) (by decide)), ?_⟩
    have e1 : ac.eval (.tmp 2) = .pointer (some ⟨w.heap.size, 0, none⟩) := hf 2 (by kernel_rfl)
    exact wp_load_mid 22 (.tmp 2) rfl _ _ e1 ((byt e).toList) _ (rangeAp (Z2.out.2.chg hc)) un37 rfl (infoY _) ⟨_, rfl, rfl, Chg.refl _⟩
   ·injection ho with ho
    subst ho
    refine .inl ⟨wanted_by (T := _) (by kernel_rfl) hsz rfl (by decide : 1 < 10) rfl (hg 1 (by kernel_rfl) (by decide)), ?_⟩
    have e1 : ac.eval (.tmp 9) = .agg (byt e) := hg 2 (by kernel_rfl) (by decide)
    refine opG_go 7 Tryd.f7 #[.tmp 9] #[22] rfl Tryd.func7 (by kernel_rfl) (by kernel_rfl) (by simp [e1]) (Calls.mono (publicE_any e _ (HT.out.chg (toS (Z2.out.1.trans hc)))) ?_)
    rintro r u2 ⟨rfl, hc2⟩
    exact ⟨_, rfl, rfl, hc2⟩
   ·injection ho with ho
    subst ho
    refine .inl ⟨wanted_by (T := _) (by kernel_rfl) hsz rfl (by decide : 1 < 10) rfl (hg 1 (by kernel_rfl) (by decide)), ?_⟩
    have e1 : ac.eval (.tmp 1) = .slice p n cap := hf 1 (by kernel_rfl)
    exact opG_val (by simp [execOp, e1]) rfl (Chg.refl _)
   ·injection ho with ho
    subst ho
    refine .inl ⟨wanted_by (T := _) (by kernel_rfl) hsz rfl (by decide : 1 < 10) rfl (hg 1 (by kernel_rfl) (by decide)), ?_⟩
    have e1 : ac.eval (.tmp 2) = .pointer (some ⟨w.heap.size, 0, none⟩) := hf 2 (by kernel_rfl)
    exact wp_load_mid 22 (.tmp 2) rfl _ _ e1 ((byt e).toList) _ (rangeAp (Z2.out.2.chg hc)) un37 rfl (infoY _) ⟨_, rfl, rfl, Chg.refl _⟩
   ·injection ho with ho
    subst ho
    refine .inl ⟨wanted_by (T := _) (by kernel_rfl) hsz rfl (by decide : 1 < 10) rfl (hg 1 (by kernel_rfl) (by decide)), ?_⟩
    have e1 : ac.eval (.tmp 1) = .slice p n cap := hf 1 (by kernel_rfl)
    exact opG_val (by simp [execOp, e1]) rfl (Chg.refl _)
   ·injection ho with ho
    subst ho
    refine .inl ⟨wanted_by (T := _) (by kernel_rfl) hsz rfl (by decide : 1 < 10) rfl (hg 1 (by kernel_rfl) (by decide)), ?_⟩
    have e1 : ac.eval (.tmp 12) = .agg (byt e) := hg 5 (by kernel_rfl) (by decide)
    have e2 : ac.eval (.tmp 13) = .slice p n cap := hg 6 (by kernel_rfl) (by decide)
    refine opG_go 8 Tryd.f8 #[.tmp 12, .tmp 13] #[22, 23] rfl Tryd.func8 (by kernel_rfl) (by kernel_rfl) (by simp [e1, e2]) (Calls.mono (signE_any e _ xs _ (HT.out.chg (toS (Z2.out.1.trans hc))) (HX.out.chg (toS (Z2.out.1.trans hc)))) ?_)
    rintro r u2 ⟨rfl, hc2⟩
    exact ⟨_, rfl, rfl, hc2⟩
   ·injection ho with ho
    subst ho
    refine .inl ⟨wanted_by (T := _) (by kernel_rfl) hsz rfl (by decide : 1 < 10) rfl (hg 1 (by kernel_rfl) (by decide)), ?_⟩
    have e1 : ac.eval (.tmp 10) = .agg (byt (pK e)) := hg 3 (by kernel_rfl) (by decide)
    have e2 : ac.eval (.tmp 11) = .slice p n cap := hg 4 (by kernel_rfl) (by decide)
    have e3 : ac.eval (.tmp 14) = .agg (b64 (sg e xs)) := hg 7 (by kernel_rfl) (by decide)
    refine opG_go 6 Tryd.f6 #[.tmp 10, .tmp 11, .tmp 14] #[22, 23, 27] rfl Tryd.func6 (by kernel_rfl) (by kernel_rfl) (by simp [e1, e2, e3]) (Calls.mono ((verifyE_any (pK e) (pK_8 e) _ xs (sg e xs) (sg_8 e xs) _ (HT.out.chg (toS (Z2.out.1.trans hc))) (HX.out.chg (toS (Z2.out.1.trans hc)))).mono (fun r_ w_ h => by rw [own_ok] at h; exact h)) ?_)
    rintro r u2 ⟨rfl, hc2⟩
    exact ⟨_, rfl, rfl, hc2⟩
   ·injection ho with ho
    subst ho
    refine .inl ⟨wanted_none rfl, ?_⟩
    have e1 : ac.eval (.tmp 8) = .bool true := hg 1 (by kernel_rfl) (by decide)
    have e2 : ac.eval (.tmp 15) = .bool true := hg 8 (by kernel_rfl) (by decide)
    have e3 : ac.eval (.const (.bool false)) = .bool false := rfl
    exact opG_val (by revert e1 e2 e3; generalize ac.eval = ρ; intro e1 e2 e3; simp [go_sem, execOp, e1, e2, e3]) rfl (Chg.refl _)
  ·intro o u V ho hV hc
   injection ho with ho
   subst ho
   refine ⟨rfl, ?_⟩
   have q7 : V 0 = .bool true := hV 0 (by decide)
   have q8 : V 1 = .bool true := hV 1 (by decide)
   have q9 : V 2 = .agg (byt e) := hV 2 (by decide)
   have q10 : V 3 = .agg (byt (pK e)) := hV 3 (by decide)
   have q11 : V 4 = .slice p n cap := hV 4 (by decide)
   have q12 : V 5 = .agg (byt e) := hV 5 (by decide)
   have q13 : V 6 = .slice p n cap := hV 6 (by decide)
   have q14 : V 7 = .agg (b64 (sg e xs)) := hV 7 (by decide)
   have q15 : V 8 = .bool true := hV 8 (by decide)
   have q16 : V 9 = .bool true := hV 9 (by decide)
   refine op_asg (.tmp 16) (.bool true) rfl (Eq.trans (by rfl) q16) ?_
   go_wp2_with fail
   go_meet
   exact ⟨rfl, hc⟩
 obtain ⟨rfl, hcc⟩ := hcut
 have Z5 : Hid (Chg w wc) := Z2.out.1.trans hcc
 clear hcc
 go_wp2_with fail
 go_ret
 exact ⟨rfl, Z5.out⟩
end Go.Proofs.YtjfidbifjagnpaaDoor
