/-
  Whether bytes tell a point: the program, the document.
  EdsigStrict walked.
-/
import Derived.Test.YtjfidbifjagnpaaDoorJy
import Derived.Test.YtjfidbifjagnpaaDoorJg
import Derived.Test.YtjfidbifjagnpaaDoorJh
import Derived.Test.YtjfidbifjagnpaaDoorDe
import Derived.Test.YtjfidbifjagnpaaDoorJx
namespace Go.Proofs.YtjfidbifjagnpaaDoor
open Go.RowKit
set_option linter.unusedVariables false
set_option maxRecDepth 100000
set_option maxHeartbeats 8000000 in
theorem pointE_any (e : Nat → Int) (he : ∀ i, B8 (e i)) (w : World) : Calls Tryd.prog 13 #[.agg (byt e)] w fun r w' => r = .returned (.bool (tell e)) ∧ Chg w w' := by
 have HE : Hid (∀ i, B8 (e i)) := he
 have hsA := byt_size e
 obtain ⟨A, hA⟩ : ∃ A, A = byt e := ⟨_, rfl⟩
 have HA : Hid (A = byt e) := hA
 rw [← hA] at hsA ⊢
 clear hA he
 go_enter Tryd.func13, Tryd.ntmps13
 go_upto_region 1 with fail
 obtain ⟨w1, hw1⟩ : ∃ w1, w1 = w.alloc (.cells A 22) := ⟨_, rfl⟩
 have Z1 : Hid (Chg w w1 ∧ Ar w1 w.heap.size (byt e)) := by
  have hnew0 := Ar.new w (byt e) 22
  rw [hw1, HA.out]
  exact ⟨((Chg.refl w).alloc _), (hnew0)⟩
 rw [← hw1]
 clear hw1
 clear hsA HA
 go_cut [3, 4] from 3 to 9 (fun v3 v4 wc => ∃ b3, v3 = .pointer (some ⟨b3, 0, none⟩) ∧ v4 = .bool (tell e) ∧ w1.heap.size ≤ b3 ∧ Ar wc b3 (q4 (tx e) (ty e) (tz e) (tt e)) ∧ Chg w1 wc)
 case first =>
  refine regL 6 (fun j v wg => match j with
   | 0 => v = .agg (byt e)
   | 1 => v = .tuple #[.agg (q4 (tx e) (ty e) (tz e) (tt e)), .bool (tell e)]
   | 2 => v = .tuple #[.agg (q4 (tx e) (ty e) (tz e) (tt e)), .bool (tell e)]
   | 3 => v = .agg (q4 (tx e) (ty e) (tz e) (tt e))
   | 4 => v = .bool (tell e)
   | 5 => ∃ b, v = .pointer (some ⟨b, 0, none⟩) ∧ Ar wg b (q4 0 0 0 0) ∧ w1.heap.size ≤ b
   | _ => True) (by decide) (by kernel_rfl) ?_ ?_ ?_
  ·intro j v u1 u2 h hc
   match j, h with
   | 0, h => exact h
   | 1, h => exact h
   | 2, h => exact h
   | 3, h => exact h
   | 4, h => exact h
   | 5, h => (obtain ⟨b, h1, h2, h3⟩ := h; exact ⟨b, h1, h2.chg hc, h3⟩)
   | _ + 6, h => exact trivial
  ·intro i o ac u hi ho hsz hf hg hc
   have hcs : i = 0 ∨ i = 1 ∨ i = 2 ∨ i = 3 ∨ i = 4 ∨ i = 5 := by omega
   rcases hcs with rfl | rfl | rfl | rfl | rfl | rfl
   ·injection ho with ho
    subst ho
    refine .inl ⟨wanted_none rfl, ?_⟩
    have e1 : ac.eval (.tmp 1) = .pointer (some ⟨w.heap.size, 0, none⟩) := hf 1 (by kernel_rfl)
    exact wp_load_mid 22 (.tmp 1) rfl _ _ e1 ((byt e).toList) _ (rangeAp (Z1.out.2.chg hc)) un37 rfl (infoY _) ⟨_, rfl, rfl, Chg.refl _⟩
   ·injection ho with ho
    subst ho
    refine .inl ⟨wanted_none rfl, ?_⟩
    have e1 : ac.eval (.tmp 6) = .agg (byt e) := hg 0 (by decide) (by decide)
    refine opG_go 15 Tryd.f15 #[.tmp 6] #[22] rfl Tryd.func15 (by kernel_rfl) (by kernel_rfl) (by simp [e1]) (Calls.mono (decodeE_any e HE.out _) ?_)
    rintro r u2 ⟨rfl, hc2⟩
    exact ⟨_, rfl, rfl, hc2⟩
   ·injection ho with ho
    subst ho
    refine .inl ⟨wanted_none rfl, ?_⟩
    have e1 : ac.eval (.tmp 7) = .tuple #[.agg (q4 (tx e) (ty e) (tz e) (tt e)), .bool (tell e)] := hg 1 (by decide) (by decide)
    exact opG_val (by simp [execOp, e1]) rfl (Chg.refl _)
   ·injection ho with ho
    subst ho
    refine .inl ⟨wanted_none rfl, ?_⟩
    have e1 : ac.eval (.tmp 5) = .tuple #[.agg (q4 (tx e) (ty e) (tz e) (tt e)), .bool (tell e)] := hg 2 (by decide) (by decide)
    exact opG_val (by revert e1; generalize ac.eval = ρ; intro e1; simp [go_sem, execOp, e1]) rfl (Chg.refl _)
   ·injection ho with ho
    subst ho
    refine .inl ⟨wanted_none rfl, ?_⟩
    have e1 : ac.eval (.tmp 5) = .tuple #[.agg (q4 (tx e) (ty e) (tz e) (tt e)), .bool (tell e)] := hg 2 (by decide) (by decide)
    exact opG_val (by revert e1; generalize ac.eval = ρ; intro e1; simp [go_sem, execOp, e1]) rfl (Chg.refl _)
   ·injection ho with ho
    subst ho
    refine .inl ⟨wanted_none rfl, ?_⟩
    exact opG_val (v := .pointer (some ⟨u.heap.size, 0, none⟩)) (w' := u.alloc (.cells (q4 0 0 0 0) 44)) (by generalize ac.eval = ρ; simp [go_sem, execOp, zeroP4.1]) ⟨_, rfl, Ar.new _ _ _, hc.size⟩ ((Chg.refl _).alloc _)
  ·intro u V hV hc
   have q6 : V 0 = .agg (byt e) := hV 0 (by decide)
   have q7 : V 1 = .tuple #[.agg (q4 (tx e) (ty e) (tz e) (tt e)), .bool (tell e)] := hV 1 (by decide)
   have q5 : V 2 = .tuple #[.agg (q4 (tx e) (ty e) (tz e) (tt e)), .bool (tell e)] := hV 2 (by decide)
   have q8 : V 3 = .agg (q4 (tx e) (ty e) (tz e) (tt e)) := hV 3 (by decide)
   have q9 : V 4 = .bool (tell e) := hV 4 (by decide)
   obtain ⟨b3, q3, r3, s3⟩ := hV 5 (by decide)
   refine wpList_store_mid rfl 44 (.tmp 3) (.tmp 8) rfl b3 0 (q4 (tx e) (ty e) (tz e) (tt e)) (Eq.trans (by rfl) q3) (Eq.trans (by rfl) q8) (by rw [q4_size]; exact nms_there r3 0 4 (by omega)) (szP4 _ _ _ _) (q4_one _ _ _ _) ?_
   rw [show u.setCells b3 0 (q4 (tx e) (ty e) (tz e) (tt e)).toList = u.setRow b3 (q4 (tx e) (ty e) (tz e) (tt e)) from setRowP4 r3 _ _ _ _]
   go_wp2_with fail
   go_meet
   exact ⟨b3, q3, q9, s3, r3.row _, hc.setRow s3 _⟩
 obtain ⟨b3, rfl, rfl, l3, ha3, hcc⟩ := hcut
 obtain ⟨w2, hw2⟩ : ∃ zz0, zz0 = wc := ⟨_, rfl⟩
 rw [← hw2] at hcc ha3 ⊢
 clear hw2
 have O3 : Hid (w.heap.size < b3) := Nat.lt_of_lt_of_le (Z1.out.2.lt) l3
 have Z2 : Hid (Chg w w2 ∧ Ar w2 w.heap.size (byt e) ∧ Ar w2 b3 (q4 (tx e) (ty e) (tz e) (tt e))) := ⟨Z1.out.1.trans hcc, Z1.out.2.chg hcc, ha3⟩
 clear hcc ha3 l3 Z1
 go_wp2_with fail
 go_ret
 exact ⟨rfl, Z2.out.1⟩
end Go.Proofs.YtjfidbifjagnpaaDoor
namespace Go.Proofs.YtjfidbifjagnpaaDoor
open Go.RowKit
set_option linter.unusedVariables false
set_option maxRecDepth 100000
def mx3 (i : Nat) (g f : Nat → Int) : Nat → Int := fun j => if 32 ≤ j ∧ j < 32 + i then g (j - 32) else f j
theorem mx3_0 (g f : Nat → Int) : mx3 0 g f = f := by funext j; unfold mx3; rw [if_neg (by omega)]
theorem mx3_up (i : Nat) (g f : Nat → Int) : upd (mx3 i g f) (32 + i) (g i) = mx3 (i + 1) g f := by
 funext j
 unfold upd mx3
 by_cases h : j = 32 + i
 ·rw [if_pos h, if_pos (by omega), h, Nat.add_sub_cancel_left]
 ·rw [if_neg h]
  by_cases h2 : 32 ≤ j ∧ j < 32 + i
  ·rw [if_pos h2, if_pos (by omega)]
  ·rw [if_neg h2, if_neg (by omega)]
theorem mx3_8 {i : Nat} {g f : Nat → Int} (hg : ∀ i, B8 (g i)) (hf : ∀ i, B8 (f i)) : ∀ j, B8 (mx3 i g f j) := fun j => by
 unfold mx3
 split
 ·exact hg _
 ·exact hf j
theorem sV_mx3 {x : Int} (hx : N256 x) (f : Nat → Int) : sV (mx3 32 (dg 256 x) f) = x := by
 have e1 : sV (mx3 32 (dg 256 x) f) = val 256 32 (dg 256 x) := val_congr fun i hi => by
  show mx3 32 (dg 256 x) f (32 + i) = _
  unfold mx3
  rw [if_pos (by omega), Nat.add_sub_cancel_left]
 rw [e1, low32b]
 exact Int.emod_eq_of_lt hx.1 hx.2
theorem mixS_upd (i : Nat) (s d : Nat → Int) : upd (mixD i s d) i (s i) = mixD (i + 1) s d := by rw [mixD_upd, upd_self]
theorem plus_L {e : Nat → Int} {xs : List Int} {i : Nat} (h : i ≤ 7) : N256 (SN e xs + i * mo 4) ∧ (SN e xs + i * mo 4 + mo 4) % R256 = SN e xs + ((i + 1 : Nat) : Int) * mo 4 ∧ (SN e xs + i * mo 4 + mo 4) / R256 = 0 := by
 have hb := SN_b e xs
 have hm : 9 * mo 4 < R256 := by decide +kernel
 have h0 : (0 : Int) < mo 4 := by decide +kernel
 have e1 : SN e xs + i * mo 4 + mo 4 = SN e xs + ((i + 1 : Nat) : Int) * mo 4 := by
  have : ((i + 1 : Nat) : Int) = (i : Int) + 1 := by omega
  rw [this, Int.add_mul, Int.one_mul, Int.add_assoc]
 have h1 : (i : Int) * mo 4 ≤ 7 * mo 4 := Int.mul_le_mul_of_nonneg_right (by omega) (by omega)
 have h2 : 0 ≤ (i : Int) * mo 4 := Int.mul_nonneg (by omega) (by omega)
 rw [← e1]
 generalize (i : Int) * mo 4 = P at *
 generalize mo 4 = M at *
 unfold N256
 refine ⟨⟨by omega, by omega⟩, Int.emod_eq_of_lt (by omega) (by omega), Int.ediv_eq_zero_of_lt (by omega) (by omega)⟩
theorem SN_0 (e : Nat → Int) (xs : List Int) : SN e xs + ((0 : Nat) : Int) * mo 4 = SN e xs := by
 show SN e xs + 0 * mo 4 = SN e xs
 rw [Int.zero_mul, Int.add_zero]
theorem N_mo4 : N256 (mo 4) := ⟨by decide +kernel, by decide +kernel⟩
theorem strict_1 {e : Nat → Int} {xs : List Int} {i : Nat} (h : i ≤ 7) : N256 (SN e xs + ((i + 1 : Nat) : Int) * mo 4) ∧ ¬ SN e xs + ((i + 1 : Nat) : Int) * mo 4 < mo 4 := by
 have hb := SN_b e xs
 have hm : 9 * mo 4 < R256 := by decide +kernel
 have h0 : (0 : Int) < mo 4 := by decide +kernel
 have h1 : ((i + 1 : Nat) : Int) * mo 4 ≤ 8 * mo 4 := Int.mul_le_mul_of_nonneg_right (by omega) (by omega)
 have h2 : 1 * mo 4 ≤ ((i + 1 : Nat) : Int) * mo 4 := Int.mul_le_mul_of_nonneg_right (by omega) (by omega)
 generalize ((i + 1 : Nat) : Int) * mo 4 = P at *
 generalize mo 4 = M at *
 unfold N256
 refine ⟨⟨by omega, by omega⟩, by omega⟩
set_option maxHeartbeats 16000000 in
theorem strict_walk (e : Nat → Int) (v : Value) (xs : List Int) (m : Int) (hm : B8 m) (w : World) (ht : Sha.Tabs w) (hx : Sha.SlA w v xs) : Calls Tryd.prog 4 #[.agg (byt e), v, .int .u8 m] w fun r w' => r = .returned (.bool true) ∧ Chg w w' := by
 obtain ⟨p, n, cap, rfl⟩ := SlA_shape hx
 have HT : Hid (Sha.Tabs w) := ht
 have HX : Hid (Sha.SlA w (.slice p n cap) xs) := hx
 have hz := zero37.1
 have hsA := byt_size e
 obtain ⟨mm, hmm⟩ : ∃ mm : Nat, (m : Int).tmod 8 = mm := ⟨(m % 8).toNat, by have := hm.1; have := hm.2; rw [Int.tmod_eq_emod_of_nonneg (by omega)]; omega⟩
 have hmm7 : mm ≤ 7 := by have := hm.1; rw [Int.tmod_eq_emod_of_nonneg (by omega)] at hmm; omega
 have wm1 : IntKind.u8.wrap (mm : Int) = mm := by rw [IntKind.wrap_u8]; omega
 have wm2 : IntKind.i64.wrap (mm : Int) = mm := wrap_e (by omega) (by omega)
 have HM : Hid (mm ≤ 7) := hmm7
 obtain ⟨A, hA⟩ : ∃ A, A = byt e := ⟨_, rfl⟩
 have HA : Hid (A = byt e) := hA
 rw [← hA] at hsA ⊢
 clear hA ht hx hm hmm7
 go_enter Tryd.func4, Tryd.ntmps4
 go_upto_region 1 with fail
 obtain ⟨w1, hw1⟩ : ∃ w1, w1 = w.alloc (.cells A 22) := ⟨_, rfl⟩
 have Z1 : Hid (Chg w w1 ∧ Ar w1 w.heap.size (byt e)) := by
  have hnew0 := Ar.new w (byt e) 22
  rw [hw1, HA.out]
  exact ⟨((Chg.refl w).alloc _), (hnew0)⟩
 rw [← hw1]
 clear hw1
 clear hsA HA
 have HV1 : Hid (∀ W, Chg w W → Calls Tryd.prog 6 #[.agg (byt (pK e)), .slice p n cap, .agg (b64 (sg e xs))] W fun r w' => r = .returned (.bool true) ∧ Chg W w') := fun W hW => (verifyE_any (pK e) (pK_8 e) _ xs (sg e xs) (sg_8 e xs) W (HT.out.chg (toS hW)) (HX.out.chg (toS hW))).mono (fun r_ w_ h => by rw [own_ok] at h; exact h)
 have HV2 : Hid (∀ f : Nat → Int, (∀ i, B8 (f i)) → vOK (pK e) xs f = false → ∀ W, Chg w W → Calls Tryd.prog 6 #[.agg (byt (pK e)), .slice p n cap, .agg (b64 f)] W fun r w' => r = .returned (.bool false) ∧ Chg W w') := fun f hf hno W hW => (verifyE_any (pK e) (pK_8 e) _ xs f hf W (HT.out.chg (toS hW)) (HX.out.chg (toS hW))).mono (fun r_ w_ h => by rw [hno] at h; exact h)
 have HV3 : Hid (∀ W, Calls Tryd.prog 13 #[.agg (byt (pK e))] W fun r w' => r = .returned (.bool true) ∧ Chg W w') := fun W => (pointE_any (pK e) (pK_8 e) W).mono (fun r_ w_ h => by rw [tell_own] at h; exact h)
 have HH : Hid (∀ W, Sha.Tabs W → Calls Tryd.prog 5 #[] W fun r w' => r = .returned (.bool true) ∧ Chg W w') := fun W h => head_any W h
 go_upto_region 2 with (go_at_call 5; (refine (HH.out _ (HT.out.chg (toS Z1.out.1))).mono ?_; rintro r w2 ⟨rfl, hc2⟩))
 have Z2 : Hid (Chg w w2 ∧ Ar w2 w.heap.size (byt e)) := ⟨Z1.out.1.trans hc2, Z1.out.2.chg hc2⟩
 clear hc2 Z1 HH
 go_cut [8] from 8 to 21 (fun v8 wc => ∃ b8, v8 = .pointer (some ⟨b8, 0, none⟩) ∧ w2.heap.size ≤ b8 ∧ Ar wc b8 (byt (pK e)) ∧ Chg w2 wc)
 case first =>
  refine regS 3 (fun j v wg => match j with
   | 0 => v = .agg (byt e)
   | 1 => v = .agg (byt (pK e))
   | 2 => ∃ b, v = .pointer (some ⟨b, 0, none⟩) ∧ Ar wg b (byt zD) ∧ w2.heap.size ≤ b
   | _ => True) (by kernel_rfl) (by kernel_rfl) ?_ ?_ ?_
  ·intro j v u1 u2 h hc
   match j, h with
   | 0, h => exact h
   | 1, h => exact h
   | 2, h => (obtain ⟨b, h1, h2, h3⟩ := h; exact ⟨b, h1, h2.chg hc, h3⟩)
   | _ + 3, h => exact trivial
  ·intro i o ac u hi ho hsz hf hg hc
   have hcs : i = 0 ∨ i = 1 ∨ i = 2 := by omega
   rcases hcs with rfl | rfl | rfl
   ·injection ho with ho
    subst ho
    refine .inl ⟨wanted_none rfl, ?_⟩
    have e1 : ac.eval (.tmp 3) = .pointer (some ⟨w.heap.size, 0, none⟩) := hf 3 (by kernel_rfl)
    exact wp_load_mid 22 (.tmp 3) rfl _ _ e1 ((byt e).toList) _ (rangeAp (Z2.out.2.chg hc)) un37 rfl (infoY _) ⟨_, rfl, rfl, Chg.refl _⟩
   ·injection ho with ho
    subst ho
    refine .inl ⟨wanted_none rfl, ?_⟩
    have e1 : ac.eval (.tmp 20) = .agg (byt e) := hg 0 (by decide) (by decide)
    refine opG_go 7 Tryd.f7 #[.tmp 20] #[22] rfl Tryd.func7 (by kernel_rfl) (by kernel_rfl) (by simp [e1]) (Calls.mono (publicE_any e _ (HT.out.chg (toS (Z2.out.1.trans hc)))) ?_)
    rintro r u2 ⟨rfl, hc2⟩
    exact ⟨_, rfl, rfl, hc2⟩
   ·injection ho with ho
    subst ho
    refine .inl ⟨wanted_none rfl, ?_⟩
    exact opG_val (v := .pointer (some ⟨u.heap.size, 0, none⟩)) (w' := u.alloc (.cells (byt zD) 22)) (by generalize ac.eval = ρ; simp [go_sem, execOp, zero37.1]) ⟨_, rfl, Ar.new _ _ _, hc.size⟩ ((Chg.refl _).alloc _)
  ·intro o u V ho hV hc
   injection ho with ho
   subst ho
   refine ⟨rfl, ?_⟩
   have q20 : V 0 = .agg (byt e) := hV 0 (by decide)
   have q21 : V 1 = .agg (byt (pK e)) := hV 1 (by decide)
   obtain ⟨b8, q8, r8, s8⟩ := hV 2 (by decide)
   refine wp_store_mid 22 (.tmp 8) (.tmp 21) rfl b8 0 (byt (pK e)) (Eq.trans (by rfl) q8) (Eq.trans (by rfl) q21) (by rw [byt_size]; exact thereY r8) (szY _) (oneY _) ?_
   rw [show u.setCells b8 0 (byt (pK e)).toList = u.setRow b8 (byt (pK e)) from setRowY r8 _]
   go_wp2_with fail
   go_meet
   exact ⟨b8, q8, s8, r8.row _, hc.setRow s8 _⟩
 obtain ⟨b8, rfl, l8, ha8, hcc⟩ := hcut
 obtain ⟨w3, hw3⟩ : ∃ zz0, zz0 = wc := ⟨_, rfl⟩
 rw [← hw3] at hcc ha8 ⊢
 clear hw3
 have O8 : Hid (w.heap.size < b8) := Nat.lt_of_lt_of_le (Z2.out.2.lt) l8
 have Z3 : Hid (Chg w w3 ∧ Ar w3 w.heap.size (byt e) ∧ Ar w3 b8 (byt (pK e))) := ⟨Z2.out.1.trans hcc, Z2.out.2.chg hcc, ha8⟩
 clear hcc ha8 l8 Z2
 go_upto_region 3 with fail
 go_cut [9] from 9 to 24 (fun v9 wc => ∃ b9, v9 = .pointer (some ⟨b9, 0, none⟩) ∧ w3.heap.size ≤ b9 ∧ Ar wc b9 (b64 (sg e xs)) ∧ Chg w3 wc)
 case first =>
  refine regS 4 (fun j v wg => match j with
   | 0 => v = .agg (byt e)
   | 1 => v = .slice p n cap
   | 2 => v = .agg (b64 (sg e xs))
   | 3 => ∃ b, v = .pointer (some ⟨b, 0, none⟩) ∧ Ar wg b (b64 zD) ∧ w3.heap.size ≤ b
   | _ => True) (by kernel_rfl) (by kernel_rfl) ?_ ?_ ?_
  ·intro j v u1 u2 h hc
   match j, h with
   | 0, h => exact h
   | 1, h => exact h
   | 2, h => exact h
   | 3, h => (obtain ⟨b, h1, h2, h3⟩ := h; exact ⟨b, h1, h2.chg hc, h3⟩)
   | _ + 4, h => exact trivial
  ·intro i o ac u hi ho hsz hf hg hc
   have hcs : i = 0 ∨ i = 1 ∨ i = 2 ∨ i = 3 := by omega
   rcases hcs with rfl | rfl | rfl | rfl
   ·injection ho with ho
    subst ho
    refine .inl ⟨wanted_none rfl, ?_⟩
    have e1 : ac.eval (.tmp 3) = .pointer (some ⟨w.heap.size, 0, none⟩) := hf 3 (by kernel_rfl)
    exact wp_load_mid 22 (.tmp 3) rfl _ _ e1 ((byt e).toList) _ (rangeAp (Z3.out.2.1.chg hc)) un37 rfl (infoY _) ⟨_, rfl, rfl, Chg.refl _⟩
   ·injection ho with ho
    subst ho
    refine .inl ⟨wanted_none rfl, ?_⟩
    have e1 : ac.eval (.tmp 1) = .slice p n cap := hf 1 (by kernel_rfl)
    exact opG_val (by simp [execOp, e1]) rfl (Chg.refl _)
   ·injection ho with ho
    subst ho
    refine .inl ⟨wanted_none rfl, ?_⟩
    have e1 : ac.eval (.tmp 22) = .agg (byt e) := hg 0 (by decide) (by decide)
    have e2 : ac.eval (.tmp 23) = .slice p n cap := hg 1 (by decide) (by decide)
    refine opG_go 8 Tryd.f8 #[.tmp 22, .tmp 23] #[22, 23] rfl Tryd.func8 (by kernel_rfl) (by kernel_rfl) (by simp [e1, e2]) (Calls.mono (signE_any e _ xs _ (HT.out.chg (toS (Z3.out.1.trans hc))) (HX.out.chg (toS (Z3.out.1.trans hc)))) ?_)
    rintro r u2 ⟨rfl, hc2⟩
    exact ⟨_, rfl, rfl, hc2⟩
   ·injection ho with ho
    subst ho
    refine .inl ⟨wanted_none rfl, ?_⟩
    exact opG_val (v := .pointer (some ⟨u.heap.size, 0, none⟩)) (w' := u.alloc (.cells (b64 zD) 27)) (by generalize ac.eval = ρ; simp [go_sem, execOp, zeroB.1]) ⟨_, rfl, Ar.new _ _ _, hc.size⟩ ((Chg.refl _).alloc _)
  ·intro o u V ho hV hc
   injection ho with ho
   subst ho
   refine ⟨rfl, ?_⟩
   have q22 : V 0 = .agg (byt e) := hV 0 (by decide)
   have q23 : V 1 = .slice p n cap := hV 1 (by decide)
   have q24 : V 2 = .agg (b64 (sg e xs)) := hV 2 (by decide)
   obtain ⟨b9, q9, r9, s9⟩ := hV 3 (by decide)
   refine wp_store_mid 27 (.tmp 9) (.tmp 24) rfl b9 0 (b64 (sg e xs)) (Eq.trans (by rfl) q9) (Eq.trans (by rfl) q24) (by rw [b64_size]; exact thereB r9) (szB _) (oneB _) ?_
   rw [show u.setCells b9 0 (b64 (sg e xs)).toList = u.setRow b9 (b64 (sg e xs)) from setRowB r9 _]
   go_wp2_with fail
   go_meet
   exact ⟨b9, q9, s9, r9.row _, hc.setRow s9 _⟩
 obtain ⟨b9, rfl, l9, ha9, hcc⟩ := hcut
 obtain ⟨w4, hw4⟩ : ∃ zz0, zz0 = wc := ⟨_, rfl⟩
 rw [← hw4] at hcc ha9 ⊢
 clear hw4
 have O9 : Hid (w.heap.size < b9 ∧ b8 < b9) := ⟨Nat.lt_of_lt_of_le (Z3.out.2.1.lt) l9, Nat.lt_of_lt_of_le (Z3.out.2.2.lt) l9⟩
 have Z4 : Hid (Chg w w4 ∧ Ar w4 w.heap.size (byt e) ∧ Ar w4 b8 (byt (pK e)) ∧ Ar w4 b9 (b64 (sg e xs))) := ⟨Z3.out.1.trans hcc, Z3.out.2.1.chg hcc, Z3.out.2.2.chg hcc, ha9⟩
 clear hcc ha9 l9 Z3
 go_upto_region 5 with fail
 obtain ⟨w5, hw5⟩ : ∃ zz0, zz0 = w4.alloc (.cells (byt zD) 22) := ⟨_, rfl⟩
 obtain ⟨b10, hb10⟩ : ∃ zz0, zz0 = w4.heap.size := ⟨_, rfl⟩
 have O10 : Hid (w.heap.size < b10 ∧ b8 < b10 ∧ b9 < b10) := ⟨by rw [hb10]; exact Z4.out.2.1.lt, by rw [hb10]; exact Z4.out.2.2.1.lt, by rw [hb10]; exact Z4.out.2.2.2.lt⟩
 have Z5 : Hid (Chg w w5 ∧ Ar w5 w.heap.size (byt e) ∧ Ar w5 b8 (byt (pK e)) ∧ Ar w5 b9 (b64 (sg e xs)) ∧ Ar w5 b10 (byt (mixD 0 (fun j => sg e xs (32 + j)) zD))) := by
  rw [hw5, hb10, mixD_zero]
  exact ⟨Z4.out.1.alloc _, Z4.out.2.1.alloc _, Z4.out.2.2.1.alloc _, Z4.out.2.2.2.alloc _, Ar.new _ _ _⟩
 rw [← hw5, ← hb10]
 clear hw5 hb10 hz Z4
 go_wp2_with fail
 go_loopw [11] (fun v wr => ∃ (i : Nat), v = .int .i64 i ∧ i ≤ 32 ∧ (Chg w wr ∧ Ar wr w.heap.size (byt e) ∧ Ar wr b8 (byt (pK e)) ∧ Ar wr b9 (b64 (sg e xs)) ∧ Ar wr b10 (byt (mixD i (fun j => sg e xs (32 + j)) zD)))) (fun v wr => 32 - (intOf v).toNat)
 case atStart => exact ⟨0, rfl, by omega, Z5.out⟩
 case round =>
  clear Z5
  obtain ⟨i, rfl, hi, hz⟩ := hrel
  have Z6 : Hid (Chg w wr ∧ Ar wr w.heap.size (byt e) ∧ Ar wr b8 (byt (pK e)) ∧ Ar wr b9 (b64 (sg e xs)) ∧ Ar wr b10 (byt (mixD i (fun j => sg e xs (32 + j)) zD))) := hz
  by_cases h32 : i < 32
  ·have hdi : decide ((i : Int) < 32) = true := by simp; omega
   have li : (i : Int) < 32 := by omega
   have li0 : 0 ≤ (i : Int) := by omega
   obtain ⟨k, hk⟩ : ∃ k : Nat, (32 : Int) + (i : Int) = k := ⟨32 + i, by omega⟩
   have hk' : k = 32 + i := by omega
   have wk := wrap_e (x := (k : Int)) (by omega) (by omega)
   have lk : (k : Int) < 64 := by omega
   have lk0 : 0 ≤ (k : Int) := by omega
   obtain ⟨i1, hi1⟩ : ∃ i1 : Nat, (i : Int) + 1 = i1 := ⟨i + 1, by omega⟩
   have hi1' : i1 = i + 1 := by omega
   have wi1 := wrap_e (x := (i1 : Int)) (by omega) (by omega)
   obtain ⟨d, hd⟩ : ∃ zz0, zz0 = sg e xs (32 + i) := ⟨_, rfl⟩
   have c9 : wr.cell? ⟨b9, k, none⟩ = some (.int .u8 d) := by
    rw [hd, hk']
    exact (Z6.out.2.2.2.1.cell (32 + i)).trans (arr_get _ _ _ (by omega))
   have f10 := Z6.out.2.2.2.2.frozen i
   have c10 := (Z6.out.2.2.2.2.cell i).trans (arr_get .u8 32 _ h32)
   have HI : Hid (i1 = i + 1 ∧ i < 32 ∧ d = sg e xs (32 + i)) := ⟨hi1', h32, hd⟩
   clear hz hk' hi1' h32 hd hi
   go_wp2_with fail
   go_roundw
   case rel =>
    have ordO8 := O8.out
    have ordO9 := O9.out
    have ordO10 := O10.out
    have q := HI.out
    refine ⟨i1, by first | rfl | go_num, by omega, Z6.out.1.setCell (by show w.heap.size ≤ b10; omega) _, Z6.out.2.1.other (by show _ ≠ b10; omega) _, Z6.out.2.2.1.other (by show _ ≠ b10; omega) _, Z6.out.2.2.2.1.other (by show _ ≠ b10; omega) _, ?_⟩
    rw [q.1, ← mixS_upd]
    unfold byt
    rw [← arr_set, ← q.2.2]
    exact Z6.out.2.2.2.2.set i _
   case measure =>
    have q := HI.out
    simp only [intOf]
    omega
  ·have e32 : i = 32 := by omega
   subst e32
   have hd32 : decide (((32 : Nat) : Int) < 32) = false := by decide
   clear hz hi h32
   obtain ⟨w6, hw6⟩ : ∃ zz0, zz0 = wr := ⟨_, rfl⟩
   rw [← hw6] at Z6 ⊢
   clear hw6
   have Zo : Hid (Chg w w6 ∧ Ar w6 w.heap.size (byt e) ∧ Ar w6 b8 (byt (pK e)) ∧ Ar w6 b9 (b64 (sg e xs)) ∧ Ar w6 b10 (byt (fun j => sg e xs (32 + j)))) := by
    have := Z6.out
    rw [show byt (mixD 32 (fun j => sg e xs (32 + j)) zD) = byt (fun j => sg e xs (32 + j)) from mixY_all _ _] at this
    exact this
   clear Z6
   go_upto_region 9 with fail
   go_cut [12] from 12 to 36 (fun v12 wc => ∃ b12, v12 = .pointer (some ⟨b12, 0, none⟩) ∧ w6.heap.size ≤ b12 ∧ Ar wc b12 (num (SN e xs + ((0 : Nat) : Int) * mo 4)) ∧ Chg w6 wc)
   case first =>
    refine regS 3 (fun j v wg => match j with
     | 0 => v = .agg (byt (fun j => sg e xs (32 + j)))
     | 1 => v = .agg (num (SN e xs + ((0 : Nat) : Int) * mo 4))
     | 2 => ∃ b, v = .pointer (some ⟨b, 0, none⟩) ∧ Ar wg b (num 0) ∧ w6.heap.size ≤ b
     | _ => True) (by kernel_rfl) (by kernel_rfl) ?_ ?_ ?_
    ·intro j v u1 u2 h hc
     match j, h with
     | 0, h => exact h
     | 1, h => exact h
     | 2, h => (obtain ⟨b, h1, h2, h3⟩ := h; exact ⟨b, h1, h2.chg hc, h3⟩)
     | _ + 3, h => exact trivial
    ·intro i o ac u hi ho hsz hf hg hc
     have hcs : i = 0 ∨ i = 1 ∨ i = 2 := by omega
     rcases hcs with rfl | rfl | rfl
     ·injection ho with ho
      subst ho
      refine .inl ⟨wanted_none rfl, ?_⟩
      have e1 : ac.eval (.tmp 10) = .pointer (some ⟨b10, 0, none⟩) := hf 10 (by kernel_rfl)
      exact wp_load_mid 22 (.tmp 10) rfl _ _ e1 ((byt (fun j => sg e xs (32 + j))).toList) _ (rangeAp (Zo.out.2.2.2.2.chg hc)) un37 rfl (infoY _) ⟨_, rfl, rfl, Chg.refl _⟩
     ·injection ho with ho
      subst ho
      refine .inl ⟨wanted_none rfl, ?_⟩
      have e1 : ac.eval (.tmp 35) = .agg (byt (fun j => sg e xs (32 + j))) := hg 0 (by decide) (by decide)
      refine opG_go 9 Tryd.f9 #[.tmp 35] #[22] rfl Tryd.func9 (by kernel_rfl) (by kernel_rfl) (by simp [e1]) (Calls.mono ((fromLER_any (fun j => sg e xs (32 + j)) (fun i => sg_8 e xs _) _).mono (fun r_ w_ h => by rw [show val 256 32 (fun j => sg e xs (32 + j)) = SN e xs from sV_sg e xs, ← SN_0 e xs] at h; exact h)) ?_)
      rintro r u2 ⟨rfl, hc2⟩
      exact ⟨_, rfl, rfl, hc2⟩
     ·injection ho with ho
      subst ho
      refine .inl ⟨wanted_none rfl, ?_⟩
      exact opG_val (v := .pointer (some ⟨u.heap.size, 0, none⟩)) (w' := u.alloc (.cells (num 0) 32)) (by generalize ac.eval = ρ; simp [go_sem, execOp, zero25.1]) ⟨_, rfl, Ar.new _ _ _, hc.size⟩ ((Chg.refl _).alloc _)
    ·intro o u V ho hV hc
     injection ho with ho
     subst ho
     refine ⟨rfl, ?_⟩
     have q35 : V 0 = .agg (byt (fun j => sg e xs (32 + j))) := hV 0 (by decide)
     have q36 : V 1 = .agg (num (SN e xs + ((0 : Nat) : Int) * mo 4)) := hV 1 (by decide)
     obtain ⟨b12, q12, r12, s12⟩ := hV 2 (by decide)
     refine wp_store_mid 32 (.tmp 12) (.tmp 36) rfl b12 0 (num (SN e xs + ((0 : Nat) : Int) * mo 4)) (Eq.trans (by rfl) q12) (Eq.trans (by rfl) q36) (by rw [num_size]; exact thereN r12) (szN _) (num_one _) ?_
     rw [show u.setCells b12 0 (num (SN e xs + ((0 : Nat) : Int) * mo 4)).toList = u.setRow b12 (num (SN e xs + ((0 : Nat) : Int) * mo 4)) from setRowN r12 _]
     go_wp2_with fail
     go_meet
     exact ⟨b12, q12, s12, r12.row _, hc.setRow s12 _⟩
   obtain ⟨b12, rfl, l12, ha12, hcc⟩ := hcut
   obtain ⟨w7, hw7⟩ : ∃ zz0, zz0 = wc := ⟨_, rfl⟩
   rw [← hw7] at hcc ha12 ⊢
   clear hw7
   have O12 : Hid (w.heap.size < b12 ∧ b8 < b12 ∧ b9 < b12 ∧ b10 < b12) := ⟨Nat.lt_of_lt_of_le (Zo.out.2.1.lt) l12, Nat.lt_of_lt_of_le (Zo.out.2.2.1.lt) l12, Nat.lt_of_lt_of_le (Zo.out.2.2.2.1.lt) l12, Nat.lt_of_lt_of_le (Zo.out.2.2.2.2.lt) l12⟩
   have Z7 : Hid (Chg w w7 ∧ Ar w7 w.heap.size (byt e) ∧ Ar w7 b8 (byt (pK e)) ∧ Ar w7 b9 (b64 (sg e xs)) ∧ Ar w7 b10 (byt (fun j => sg e xs (32 + j))) ∧ Ar w7 b12 (num (SN e xs + ((0 : Nat) : Int) * mo 4))) := ⟨Zo.out.1.trans hcc, Zo.out.2.1.chg hcc, Zo.out.2.2.1.chg hcc, Zo.out.2.2.2.1.chg hcc, Zo.out.2.2.2.2.chg hcc, ha12⟩
   clear hcc ha12 l12 Zo
   go_wp2_with fail
   go_loopw [13, 14] (fun v13 v14 wr => ∃ (i : Nat), v13 = .int .u64 0 ∧ v14 = .int .i64 i ∧ i ≤ mm + 1 ∧ (Chg w wr ∧ Ar wr w.heap.size (byt e) ∧ Ar wr b8 (byt (pK e)) ∧ Ar wr b9 (b64 (sg e xs)) ∧ Ar wr b10 (byt (fun j => sg e xs (32 + j))) ∧ Ar wr b12 (num (SN e xs + (i : Int) * mo 4)))) (fun v13 v14 wr => 8 - (intOf v14).toNat)
   case atStart => exact ⟨0, rfl, rfl, by omega, Z7.out⟩
   case round =>
    clear Z7
    obtain ⟨i, rfl, rfl, hi, hz⟩ := hrel
    obtain ⟨w8, hw8⟩ : ∃ zz0, zz0 = wr := ⟨_, rfl⟩
    rw [← hw8] at hz ⊢
    clear hw8
    have Z8 : Hid (Chg w w8 ∧ Ar w8 w.heap.size (byt e) ∧ Ar w8 b8 (byt (pK e)) ∧ Ar w8 b9 (b64 (sg e xs)) ∧ Ar w8 b10 (byt (fun j => sg e xs (32 + j))) ∧ Ar w8 b12 (num (SN e xs + (i : Int) * mo 4))) := hz
    clear hz
    by_cases hle : i ≤ mm
    ·have hdi : decide ((i : Int) ≤ (mm : Int)) = true := by simp; omega
     obtain ⟨i1, hi1⟩ : ∃ i1 : Nat, (i : Int) + 1 = i1 := ⟨i + 1, by omega⟩
     have hi1' : i1 = i + 1 := by omega
     have hm7 := HM.out
     have wi1 := wrap_e (x := (i1 : Int)) (by omega) (by omega)
     have HI : Hid (i1 = i + 1 ∧ i ≤ mm) := ⟨hi1', hle⟩
     have HP : Hid (N256 (SN e xs + (i : Int) * mo 4) ∧ (SN e xs + (i : Int) * mo 4 + mo 4) % R256 = SN e xs + (i1 : Int) * mo 4 ∧ (SN e xs + (i : Int) * mo 4 + mo 4) / R256 = 0) := by
      have k := plus_L (e := e) (xs := xs) (i := i) (by omega)
      rw [← hi1'] at k
      exact k
     have hdn : decide (i ≤ mm) = true := by simp; omega
     clear hi1' hi hm7
     go_upto_block 3 with fail
     go_cut [13, 14, 16, 17, 18, 19, 20, 21, 22, 23, 24, 25, 26, 27, 28, 29, 30, 31, 32, 33, 34, 35, 36] from 13 to 52 (fun v13 v14 v16 v17 v18 v19 v20 v21 v22 v23 v24 v25 v26 v27 v28 v29 v30 v31 v32 v33 v34 v35 v36 wc => (v16 = u16 ∧ v17 = u17 ∧ v18 = u18 ∧ v19 = u19 ∧ v20 = u20 ∧ v21 = u21 ∧ v22 = u22 ∧ v23 = u23 ∧ v24 = u24 ∧ v25 = u25 ∧ v26 = u26 ∧ v27 = u27 ∧ v28 = u28 ∧ v29 = u29 ∧ v30 = u30 ∧ v31 = u31 ∧ v32 = u32 ∧ v33 = u33 ∧ v34 = u34 ∧ v35 = u35 ∧ v36 = u36) ∧ v13 = .int .u64 0 ∧ v14 = .int .i64 (i : Int) ∧ (Chg w wc ∧ Ar wc w.heap.size (byt e) ∧ Ar wc b8 (byt (pK e)) ∧ Ar wc b9 (b64 (sg e xs)) ∧ Ar wc b10 (byt (fun j => sg e xs (32 + j))) ∧ Ar wc b12 (num (SN e xs + (i1 : Int) * mo 4))))
     case first =>
      go_upto_region 15 with fail
      go_cut [15, 16, 17, 18, 19, 20, 21, 22, 23, 24, 25, 26, 27, 28, 29, 30, 31, 32, 33, 34, 35, 36] from 15 to 49 (fun v15 v16 v17 v18 v19 v20 v21 v22 v23 v24 v25 v26 v27 v28 v29 v30 v31 v32 v33 v34 v35 v36 wc => (v16 = u16 ∧ v17 = u17 ∧ v18 = u18 ∧ v19 = u19 ∧ v20 = u20 ∧ v21 = u21 ∧ v22 = u22 ∧ v23 = u23 ∧ v24 = u24 ∧ v25 = u25 ∧ v26 = u26 ∧ v27 = u27 ∧ v28 = u28 ∧ v29 = u29 ∧ v30 = u30 ∧ v31 = u31 ∧ v32 = u32 ∧ v33 = u33 ∧ v34 = u34 ∧ v35 = u35 ∧ v36 = u36) ∧ v15 = .int .u64 0 ∧ Chg w wc ∧ Ar wc w.heap.size (byt e) ∧ Ar wc b8 (byt (pK e)) ∧ Ar wc b9 (b64 (sg e xs)) ∧ Ar wc b10 (byt (fun j => sg e xs (32 + j))) ∧ Ar wc b12 (num (SN e xs + (i1 : Int) * mo 4)))
      case first =>
       refine wp_region_store 6 (fun j v fl wg => match j with
        | 0 => v = .agg (num (SN e xs + (i : Int) * mo 4))
        | 1 => v = .agg (num (mo 4))
        | 2 => v = .tuple #[.agg (num (SN e xs + (i1 : Int) * mo 4)), .int .u64 0]
        | 3 => v = .tuple #[.agg (num (SN e xs + (i1 : Int) * mo 4)), .int .u64 0]
        | 4 => v = .agg (num (SN e xs + (i1 : Int) * mo 4))
        | 5 => v = .int .u64 0
        | 7 => v = .int .u64 0
        | _ => True) (fun fl u => Chg w u ∧ Ar u w.heap.size (byt e) ∧ Ar u b8 (byt (pK e)) ∧ Ar u b9 (b64 (sg e xs)) ∧ Ar u b10 (byt (fun j => sg e xs (32 + j))) ∧ Ar u b12 (if fl then num (SN e xs + (i1 : Int) * mo 4) else num (SN e xs + (i : Int) * mo 4))) (by kernel_rfl) (by decide) (by kernel_rfl) (by kernel_rfl) (by kernel_rfl) ?_ ?_ ?_ ?_ ?_ ?_
       ·intro j v fl u1 u2 h hc
        match j, h with
        | 0, h => exact h
        | 1, h => exact h
        | 2, h => exact h
        | 3, h => exact h
        | 4, h => exact h
        | 5, h => exact h
        | 6, h => exact trivial
        | 7, h => exact h
        | _ + 8, h => exact trivial
       ·intro fl u u' h k
        exact ⟨h.1.trans k, h.2.1.chg k, h.2.2.1.chg k, h.2.2.2.1.chg k, h.2.2.2.2.1.chg k, h.2.2.2.2.2.chg k⟩
       ·intro i o' ac u fl hi his ho hfl hf hg hB
        have hi' : i < 8 := hi
        have hcs : i = 0 ∨ i = 1 ∨ i = 2 ∨ i = 3 ∨ i = 4 ∨ i = 5 ∨ i = 7 := by omega
        rcases hcs with rfl | rfl | rfl | rfl | rfl | rfl | rfl
        ·injection ho with ho
         subst ho
         have e1 : ac.eval (.tmp 12) = .pointer (some ⟨b12, 0, none⟩) := hf 12 (by kernel_rfl)
         have hr1 : Ar u b12 (num (SN e xs + (i : Int) * mo 4)) := by
          have h := hB.2.2.2.2.2
          rw [hfl (by kernel_rfl)] at h
          exact h
         exact wp_load_mid 32 (.tmp 12) rfl _ _ e1 ((num (SN e xs + (i : Int) * mo 4)).toList) _ (rangeAp hr1) undNum rfl (infoN _) ⟨_, rfl, rfl, Chg.refl _⟩
        ·injection ho with ho
         subst ho
         have e1 : ac.eval (.const (.int .i64 4)) = .int .i64 4 := rfl
         refine opG_go 11 Tryd.f11 #[.const (.int .i64 4)] #[37] rfl Tryd.func11 (by kernel_rfl) (by kernel_rfl) (by simp [e1]) (Calls.mono (modulusR_any 4 _) ?_)
         rintro r u2 ⟨rfl, hc2⟩
         exact ⟨_, rfl, rfl, hc2⟩
        ·injection ho with ho
         subst ho
         have e1 : ac.eval (.tmp 45) = .agg (num (SN e xs + (i : Int) * mo 4)) := hg 0 (by kernel_rfl) (by decide) (by decide)
         have e2 : ac.eval (.tmp 46) = .agg (num (mo 4)) := hg 1 (by kernel_rfl) (by decide) (by decide)
         refine opG_go 10 Tryd.f10 #[.tmp 45, .tmp 46] #[32, 32] rfl Tryd.func10 (by kernel_rfl) (by kernel_rfl) (by simp [e1, e2]) (Calls.mono ((plusR_any _ _ HP.out.1 N_mo4 _).mono (fun r_ w_ h => by rw [HP.out.2.1, HP.out.2.2] at h; exact h)) ?_)
         rintro r u2 ⟨rfl, hc2⟩
         exact ⟨_, rfl, rfl, hc2⟩
        ·injection ho with ho
         subst ho
         have e1 : ac.eval (.tmp 47) = .tuple #[.agg (num (SN e xs + (i1 : Int) * mo 4)), .int .u64 0] := hg 2 (by kernel_rfl) (by decide) (by decide)
         exact opG_val (by simp [execOp, e1]) rfl (Chg.refl _)
        ·injection ho with ho
         subst ho
         have e1 : ac.eval (.tmp 44) = .tuple #[.agg (num (SN e xs + (i1 : Int) * mo 4)), .int .u64 0] := hg 3 (by kernel_rfl) (by decide) (by decide)
         exact opG_val (by revert e1; generalize ac.eval = ρ; intro e1; simp [go_sem, execOp, e1]) rfl (Chg.refl _)
        ·injection ho with ho
         subst ho
         have e1 : ac.eval (.tmp 44) = .tuple #[.agg (num (SN e xs + (i1 : Int) * mo 4)), .int .u64 0] := hg 3 (by kernel_rfl) (by decide) (by decide)
         exact opG_val (by revert e1; generalize ac.eval = ρ; intro e1; simp [go_sem, execOp, e1]) rfl (Chg.refl _)
        ·injection ho with ho
         subst ho
         have e1 : ac.eval (.tmp 49) = .int .u64 0 := hg 5 (by kernel_rfl) (by decide) (by decide)
         exact opG_val (by simp [execOp, e1]) rfl (Chg.refl _)
       ·intro o' ac u ho hf hg hB
        injection ho with ho
        subst ho
        have e1 : ac.eval (.tmp 12) = .pointer (some ⟨b12, 0, none⟩) := hf 12 (by kernel_rfl)
        have hres : Ar u b12 (num (SN e xs + (i : Int) * mo 4)) := hB.2.2.2.2.2
        have e2 : ac.eval (.tmp 48) = .agg (num (SN e xs + (i1 : Int) * mo 4)) := hg 4 (by kernel_rfl) (by decide) (by decide)
        refine wp_store_mid 32 (.tmp 12) (.tmp 48) rfl b12 0 (num (SN e xs + (i1 : Int) * mo 4)) e1 e2 (by rw [num_size]; exact thereN hres) (szN _) (num_one _) ⟨rfl, ?_, ?_⟩
        ·rw [show u.setCells b12 0 (num (SN e xs + (i1 : Int) * mo 4)).toList = u.setRow b12 (num (SN e xs + (i1 : Int) * mo 4)) from setRowN hres _]
         have ordO8 := O8.out
         have ordO9 := O9.out
         have ordO10 := O10.out
         have ordO12 := O12.out
         exact ⟨hB.1.setRow (by omega) _, hB.2.1.rowOther (by omega) _, hB.2.2.1.rowOther (by omega) _, hB.2.2.2.1.rowOther (by omega) _, hB.2.2.2.2.1.rowOther (by omega) _, hres.row _⟩
        ·intro j hj hjs h
         have hj' : j < 8 := hj
         have hcs : j = 0 ∨ j = 1 ∨ j = 2 ∨ j = 3 ∨ j = 4 ∨ j = 5 ∨ j = 7 := by omega
         rcases hcs with rfl | rfl | rfl | rfl | rfl | rfl | rfl
         ·exact h
         ·exact h
         ·exact h
         ·exact h
         ·exact h
         ·exact h
         ·exact h
       ·exact ⟨Z8.out.1.drew, Z8.out.2.1.drew, Z8.out.2.2.1.drew, Z8.out.2.2.2.1.drew, Z8.out.2.2.2.2.1.drew, Z8.out.2.2.2.2.2.drew⟩
       ·intro u V hV hB
        have qas : V 7 = .int .u64 0 := hV 7 (by decide) (by decide)
        have q8 : Hid (Chg w u ∧ Ar u w.heap.size (byt e) ∧ Ar u b8 (byt (pK e)) ∧ Ar u b9 (b64 (sg e xs)) ∧ Ar u b10 (byt (fun j => sg e xs (32 + j))) ∧ Ar u b12 (num (SN e xs + (i1 : Int) * mo 4))) := hB
        clear hV hB
        go_wp2_with fail
        go_meet
        exact ⟨⟨rfl, rfl, rfl, rfl, rfl, rfl, rfl, rfl, rfl, rfl, rfl, rfl, rfl, rfl, rfl, rfl, rfl, rfl, rfl, rfl, rfl⟩, qas, q8.out⟩
      obtain ⟨⟨rfl, rfl, rfl, rfl, rfl, rfl, rfl, rfl, rfl, rfl, rfl, rfl, rfl, rfl, rfl, rfl, rfl, rfl, rfl, rfl, rfl⟩, rfl, hcc⟩ := hcut
      obtain ⟨w9, hw9⟩ : ∃ zz0, zz0 = wc := ⟨_, rfl⟩
      rw [← hw9] at hcc ⊢
      have Z9 : Hid (Chg w w9 ∧ Ar w9 w.heap.size (byt e) ∧ Ar w9 b8 (byt (pK e)) ∧ Ar w9 b9 (b64 (sg e xs)) ∧ Ar w9 b10 (byt (fun j => sg e xs (32 + j))) ∧ Ar w9 b12 (num (SN e xs + (i1 : Int) * mo 4))) := hcc
      clear hw9 hcc Z8
      go_wp2_with fail
      go_meet
      exact ⟨⟨rfl, rfl, rfl, rfl, rfl, rfl, rfl, rfl, rfl, rfl, rfl, rfl, rfl, rfl, rfl, rfl, rfl, rfl, rfl, rfl, rfl⟩, rfl, rfl, Z9.out⟩
     clear Z8
     obtain ⟨⟨rfl, rfl, rfl, rfl, rfl, rfl, rfl, rfl, rfl, rfl, rfl, rfl, rfl, rfl, rfl, rfl, rfl, rfl, rfl, rfl, rfl⟩, rfl, rfl, hcc⟩ := hcut
     have Z9 : Hid (Chg w wc ∧ Ar wc w.heap.size (byt e) ∧ Ar wc b8 (byt (pK e)) ∧ Ar wc b9 (b64 (sg e xs)) ∧ Ar wc b10 (byt (fun j => sg e xs (32 + j))) ∧ Ar wc b12 (num (SN e xs + (i1 : Int) * mo 4))) := hcc
     clear hcc
     go_wp2_with fail
     refine ⟨⟨i1, rfl, by first | rfl | go_num, by have := HI.out; omega, Z9.out⟩, ?_⟩
     have := HI.out
     have := HM.out
     simp only [intOf]
     omega
    ·have e1 : i = mm + 1 := by omega
     subst e1
     have hdi : decide (((mm + 1 : Nat) : Int) ≤ (mm : Int)) = false := by simp; omega
     have HS : Hid (N256 (SN e xs + ((mm + 1 : Nat) : Int) * mo 4) ∧ ¬ SN e xs + ((mm + 1 : Nat) : Int) * mo 4 < mo 4) := strict_1 HM.out
     obtain ⟨N, hN⟩ : ∃ zz0, zz0 = SN e xs + ((mm + 1 : Nat) : Int) * mo 4 := ⟨_, rfl⟩
     obtain ⟨iz, hiz⟩ : ∃ iz : Int, iz = ((mm + 1 : Nat) : Int) := ⟨_, rfl⟩
     rw [← hN] at HS
     clear hi hle
     have Zp : Hid (Chg w w8 ∧ Ar w8 w.heap.size (byt e) ∧ Ar w8 b8 (byt (pK e)) ∧ Ar w8 b9 (b64 (sg e xs)) ∧ Ar w8 b10 (byt (fun j => sg e xs (32 + j))) ∧ Ar w8 b12 (num N)) := by
      rw [hN]
      exact Z8.out
     clear Z8 hN
     rw [← hiz] at hdi ⊢
     clear hiz
     go_upto_region 17 with fail
     go_cut [16] from 16 to 54 (fun v16 wc => ∃ b16, v16 = .pointer (some ⟨b16, 0, none⟩) ∧ w8.heap.size ≤ b16 ∧ Ar wc b16 (byt (dg 256 N)) ∧ Chg w8 wc)
     case first =>
      refine regS 3 (fun j v wg => match j with
       | 0 => v = .agg (num N)
       | 1 => v = .agg (byt (dg 256 N))
       | 2 => ∃ b, v = .pointer (some ⟨b, 0, none⟩) ∧ Ar wg b (byt zD) ∧ w8.heap.size ≤ b
       | _ => True) (by kernel_rfl) (by kernel_rfl) ?_ ?_ ?_
      ·intro j v u1 u2 h hc
       match j, h with
       | 0, h => exact h
       | 1, h => exact h
       | 2, h => (obtain ⟨b, h1, h2, h3⟩ := h; exact ⟨b, h1, h2.chg hc, h3⟩)
       | _ + 3, h => exact trivial
      ·intro i o ac u hi ho hsz hf hg hc
       have hcs : i = 0 ∨ i = 1 ∨ i = 2 := by omega
       rcases hcs with rfl | rfl | rfl
       ·injection ho with ho
        subst ho
        refine .inl ⟨wanted_none rfl, ?_⟩
        have e1 : ac.eval (.tmp 12) = .pointer (some ⟨b12, 0, none⟩) := hf 12 (by kernel_rfl)
        exact wp_load_mid 32 (.tmp 12) rfl _ _ e1 ((num N).toList) _ (rangeAp (Zp.out.2.2.2.2.2.chg hc)) undNum rfl (infoN _) ⟨_, rfl, rfl, Chg.refl _⟩
       ·injection ho with ho
        subst ho
        refine .inl ⟨wanted_none rfl, ?_⟩
        have e1 : ac.eval (.tmp 53) = .agg (num N) := hg 0 (by decide) (by decide)
        refine opG_go 12 Tryd.f12 #[.tmp 53] #[32] rfl Tryd.func12 (by kernel_rfl) (by kernel_rfl) (by simp [e1]) (Calls.mono (toLER_any N _) ?_)
        rintro r u2 ⟨rfl, hc2⟩
        exact ⟨_, rfl, rfl, hc2⟩
       ·injection ho with ho
        subst ho
        refine .inl ⟨wanted_none rfl, ?_⟩
        exact opG_val (v := .pointer (some ⟨u.heap.size, 0, none⟩)) (w' := u.alloc (.cells (byt zD) 22)) (by generalize ac.eval = ρ; simp [go_sem, execOp, zero37.1]) ⟨_, rfl, Ar.new _ _ _, hc.size⟩ ((Chg.refl _).alloc _)
      ·intro o u V ho hV hc
       injection ho with ho
       subst ho
       refine ⟨rfl, ?_⟩
       have q53 : V 0 = .agg (num N) := hV 0 (by decide)
       have q54 : V 1 = .agg (byt (dg 256 N)) := hV 1 (by decide)
       obtain ⟨b16, q16, r16, s16⟩ := hV 2 (by decide)
       refine wp_store_mid 22 (.tmp 16) (.tmp 54) rfl b16 0 (byt (dg 256 N)) (Eq.trans (by rfl) q16) (Eq.trans (by rfl) q54) (by rw [byt_size]; exact thereY r16) (szY _) (oneY _) ?_
       rw [show u.setCells b16 0 (byt (dg 256 N)).toList = u.setRow b16 (byt (dg 256 N)) from setRowY r16 _]
       go_wp2_with fail
       go_meet
       exact ⟨b16, q16, s16, r16.row _, hc.setRow s16 _⟩
     obtain ⟨b16, rfl, l16, ha16, hcc⟩ := hcut
     obtain ⟨w9, hw9⟩ : ∃ zz0, zz0 = wc := ⟨_, rfl⟩
     rw [← hw9] at hcc ha16 ⊢
     clear hw9
     have O16 : Hid (w.heap.size < b16 ∧ b8 < b16 ∧ b9 < b16 ∧ b10 < b16 ∧ b12 < b16) := ⟨Nat.lt_of_lt_of_le (Zp.out.2.1.lt) l16, Nat.lt_of_lt_of_le (Zp.out.2.2.1.lt) l16, Nat.lt_of_lt_of_le (Zp.out.2.2.2.1.lt) l16, Nat.lt_of_lt_of_le (Zp.out.2.2.2.2.1.lt) l16, Nat.lt_of_lt_of_le (Zp.out.2.2.2.2.2.lt) l16⟩
     have Z9 : Hid (Chg w w9 ∧ Ar w9 w.heap.size (byt e) ∧ Ar w9 b8 (byt (pK e)) ∧ Ar w9 b9 (b64 (sg e xs)) ∧ Ar w9 b10 (byt (fun j => sg e xs (32 + j))) ∧ Ar w9 b12 (num N) ∧ Ar w9 b16 (byt (dg 256 N))) := ⟨Zp.out.1.trans hcc, Zp.out.2.1.chg hcc, Zp.out.2.2.1.chg hcc, Zp.out.2.2.2.1.chg hcc, Zp.out.2.2.2.2.1.chg hcc, Zp.out.2.2.2.2.2.chg hcc, ha16⟩
     clear hcc ha16 l16 Zp
     go_upto_region 18 with fail
     go_cut [17] from 17 to 55 (fun v17 wc => ∃ b17, v17 = .pointer (some ⟨b17, 0, none⟩) ∧ w9.heap.size ≤ b17 ∧ Ar wc b17 (b64 (sg e xs)) ∧ Chg w9 wc)
     case first =>
      refine regS 2 (fun j v wg => match j with
       | 0 => v = .agg (b64 (sg e xs))
       | 1 => ∃ b, v = .pointer (some ⟨b, 0, none⟩) ∧ Ar wg b (b64 zD) ∧ w9.heap.size ≤ b
       | _ => True) (by kernel_rfl) (by kernel_rfl) ?_ ?_ ?_
      ·intro j v u1 u2 h hc
       match j, h with
       | 0, h => exact h
       | 1, h => (obtain ⟨b, h1, h2, h3⟩ := h; exact ⟨b, h1, h2.chg hc, h3⟩)
       | _ + 2, h => exact trivial
      ·intro i o ac u hi ho hsz hf hg hc
       have hcs : i = 0 ∨ i = 1 := by omega
       rcases hcs with rfl | rfl
       ·injection ho with ho
        subst ho
        refine .inl ⟨wanted_none rfl, ?_⟩
        have e1 : ac.eval (.tmp 9) = .pointer (some ⟨b9, 0, none⟩) := hf 9 (by kernel_rfl)
        exact wp_load_mid 27 (.tmp 9) rfl _ _ e1 ((b64 (sg e xs)).toList) _ (rangeAp (Z9.out.2.2.2.1.chg hc)) unB rfl (infoB _) ⟨_, rfl, rfl, Chg.refl _⟩
       ·injection ho with ho
        subst ho
        refine .inl ⟨wanted_none rfl, ?_⟩
        exact opG_val (v := .pointer (some ⟨u.heap.size, 0, none⟩)) (w' := u.alloc (.cells (b64 zD) 27)) (by generalize ac.eval = ρ; simp [go_sem, execOp, zeroB.1]) ⟨_, rfl, Ar.new _ _ _, hc.size⟩ ((Chg.refl _).alloc _)
      ·intro o u V ho hV hc
       injection ho with ho
       subst ho
       refine ⟨rfl, ?_⟩
       have q55 : V 0 = .agg (b64 (sg e xs)) := hV 0 (by decide)
       obtain ⟨b17, q17, r17, s17⟩ := hV 1 (by decide)
       refine wp_store_mid 27 (.tmp 17) (.tmp 55) rfl b17 0 (b64 (sg e xs)) (Eq.trans (by rfl) q17) (Eq.trans (by rfl) q55) (by rw [b64_size]; exact thereB r17) (szB _) (oneB _) ?_
       rw [show u.setCells b17 0 (b64 (sg e xs)).toList = u.setRow b17 (b64 (sg e xs)) from setRowB r17 _]
       go_wp2_with fail
       go_meet
       exact ⟨b17, q17, s17, r17.row _, hc.setRow s17 _⟩
     obtain ⟨b17, rfl, l17, ha17, hcc⟩ := hcut
     obtain ⟨w10, hw10⟩ : ∃ zz0, zz0 = wc := ⟨_, rfl⟩
     rw [← hw10] at hcc ha17 ⊢
     clear hw10
     have O17 : Hid (w.heap.size < b17 ∧ b8 < b17 ∧ b9 < b17 ∧ b10 < b17 ∧ b12 < b17 ∧ b16 < b17) := ⟨Nat.lt_of_lt_of_le (Z9.out.2.1.lt) l17, Nat.lt_of_lt_of_le (Z9.out.2.2.1.lt) l17, Nat.lt_of_lt_of_le (Z9.out.2.2.2.1.lt) l17, Nat.lt_of_lt_of_le (Z9.out.2.2.2.2.1.lt) l17, Nat.lt_of_lt_of_le (Z9.out.2.2.2.2.2.1.lt) l17, Nat.lt_of_lt_of_le (Z9.out.2.2.2.2.2.2.lt) l17⟩
     have Z10 : Hid (Chg w w10 ∧ Ar w10 w.heap.size (byt e) ∧ Ar w10 b8 (byt (pK e)) ∧ Ar w10 b9 (b64 (sg e xs)) ∧ Ar w10 b10 (byt (fun j => sg e xs (32 + j))) ∧ Ar w10 b12 (num N) ∧ Ar w10 b16 (byt (dg 256 N)) ∧ Ar w10 b17 (b64 (sg e xs))) := ⟨Z9.out.1.trans hcc, Z9.out.2.1.chg hcc, Z9.out.2.2.1.chg hcc, Z9.out.2.2.2.1.chg hcc, Z9.out.2.2.2.2.1.chg hcc, Z9.out.2.2.2.2.2.1.chg hcc, Z9.out.2.2.2.2.2.2.chg hcc, ha17⟩
     clear hcc ha17 l17 Z9
     go_wp2_with fail
     go_loopw [18] (fun v wr => ∃ (i : Nat), v = .int .i64 i ∧ i ≤ 32 ∧ (Chg w wr ∧ Ar wr w.heap.size (byt e) ∧ Ar wr b8 (byt (pK e)) ∧ Ar wr b9 (b64 (sg e xs)) ∧ Ar wr b10 (byt (fun j => sg e xs (32 + j))) ∧ Ar wr b12 (num N) ∧ Ar wr b16 (byt (dg 256 N)) ∧ Ar wr b17 (b64 (mx3 i (dg 256 N) (sg e xs))))) (fun v wr => 32 - (intOf v).toNat)
     case atStart => exact ⟨0, rfl, by omega, by rw [mx3_0]; exact Z10.out⟩
     case round =>
      clear Z10
      obtain ⟨i, rfl, hi, hz⟩ := hrel
      have Z6 : Hid (Chg w wr ∧ Ar wr w.heap.size (byt e) ∧ Ar wr b8 (byt (pK e)) ∧ Ar wr b9 (b64 (sg e xs)) ∧ Ar wr b10 (byt (fun j => sg e xs (32 + j))) ∧ Ar wr b12 (num N) ∧ Ar wr b16 (byt (dg 256 N)) ∧ Ar wr b17 (b64 (mx3 i (dg 256 N) (sg e xs)))) := hz
      by_cases h32 : i < 32
      ·have hdi3 : decide ((i : Int) < 32) = true := by simp; omega
       have li : (i : Int) < 32 := by omega
       have li0 : 0 ≤ (i : Int) := by omega
       obtain ⟨k, hk⟩ : ∃ k : Nat, (32 : Int) + (i : Int) = k := ⟨32 + i, by omega⟩
       have hk' : k = 32 + i := by omega
       have wk := wrap_e (x := (k : Int)) (by omega) (by omega)
       have lk : (k : Int) < 64 := by omega
       have lk0 : 0 ≤ (k : Int) := by omega
       obtain ⟨i1, hi1⟩ : ∃ i1 : Nat, (i : Int) + 1 = i1 := ⟨i + 1, by omega⟩
       have hi1' : i1 = i + 1 := by omega
       have wi1 := wrap_e (x := (i1 : Int)) (by omega) (by omega)
       obtain ⟨d, hd⟩ : ∃ zz0, zz0 = dg 256 N i := ⟨_, rfl⟩
       have c16 : wr.cell? ⟨b16, i, none⟩ = some (.int .u8 d) := by
        rw [hd]
        exact (Z6.out.2.2.2.2.2.2.1.cell i).trans (arr_get _ _ _ h32)
       have f17 := Z6.out.2.2.2.2.2.2.2.frozen k
       have c17 := (Z6.out.2.2.2.2.2.2.2.cell k).trans (arr_get .u8 64 _ (by omega))
       have HI : Hid (i1 = i + 1 ∧ i < 32 ∧ d = dg 256 N i ∧ k = 32 + i) := ⟨hi1', h32, hd, hk'⟩
       clear hz hk' hi1' h32 hd hi
       go_wp2_with fail
       go_roundw
       case rel =>
        have ordO8 := O8.out
        have ordO9 := O9.out
        have ordO10 := O10.out
        have ordO12 := O12.out
        have ordO16 := O16.out
        have ordO17 := O17.out
        have q := HI.out
        refine ⟨i1, by first | rfl | go_num, by omega, Z6.out.1.setCell (by show w.heap.size ≤ b17; omega) _, Z6.out.2.1.other (by show _ ≠ b17; omega) _, Z6.out.2.2.1.other (by show _ ≠ b17; omega) _, Z6.out.2.2.2.1.other (by show _ ≠ b17; omega) _, Z6.out.2.2.2.2.1.other (by show _ ≠ b17; omega) _, Z6.out.2.2.2.2.2.1.other (by show _ ≠ b17; omega) _, Z6.out.2.2.2.2.2.2.1.other (by show _ ≠ b17; omega) _, ?_⟩
        rw [q.1, ← mx3_up]
        unfold b64
        rw [← arr_set, ← q.2.2.1, ← q.2.2.2]
        exact Z6.out.2.2.2.2.2.2.2.set k _
       case measure =>
        have q := HI.out
        simp only [intOf]
        omega
      ·have e32 : i = 32 := by omega
       subst e32
       have hd32 : decide (((32 : Nat) : Int) < 32) = false := by decide
       clear hz hi h32
       obtain ⟨w12, hw12⟩ : ∃ zz0, zz0 = wr := ⟨_, rfl⟩
       rw [← hw12] at Z6 ⊢
       clear hw12
       have HNO : Hid (vOK (pK e) xs (mx3 32 (dg 256 N) (sg e xs)) = false) := strict_no (A := pK e) (xs := xs) (f := mx3 32 (dg 256 N) (sg e xs)) (by have h := HS.out.2; rw [sV_mx3 HS.out.1 (sg e xs)]; omega)
       have HN2 : Hid (∀ W, Chg w W → Calls Tryd.prog 6 #[.agg (byt (pK e)), .slice p n cap, .agg (b64 (mx3 32 (dg 256 N) (sg e xs)))] W fun r w' => r = .returned (.bool false) ∧ Chg W w') := HV2.out _ (mx3_8 (fun i => dg_bound (B := 256) (by decide) _ i) (sg_8 e xs)) HNO.out
       go_upto_region 23 with fail
       go_cut [6] from 6 to 87 (fun v6 wc => v6 = .bool true ∧ Chg w12 wc)
       case first =>
        refine regS 22 (fun j v wg => match j with
         | 0 => v = .bool true
         | 1 => v = .bool true
         | 2 => v = .agg (byt (pK e))
         | 3 => v = .slice p n cap
         | 4 => v = .agg (b64 (sg e xs))
         | 5 => v = .bool true
         | 6 => v = .bool true
         | 7 => v = .bool true
         | 8 => v = .int .u64 0
         | 9 => v = .bool true
         | 10 => v = .bool true
         | 11 => v = .bool true
         | 12 => v = .agg (byt (pK e))
         | 13 => v = .slice p n cap
         | 14 => v = .agg (b64 (mx3 32 (dg 256 N) (sg e xs)))
         | 15 => v = .bool false
         | 16 => v = .bool true
         | 17 => v = .bool true
         | 18 => v = .bool true
         | 19 => v = .agg (byt (pK e))
         | 20 => v = .bool true
         | 21 => v = .bool true
         | _ => True) (by kernel_rfl) (by kernel_rfl) ?_ ?_ ?_
        ·intro j v u1 u2 h hc
         match j, h with
         | 0, h => exact h
         | 1, h => exact h
         | 2, h => exact h
         | 3, h => exact h
         | 4, h => exact h
         | 5, h => exact h
         | 6, h => exact h
         | 7, h => exact h
         | 8, h => exact h
         | 9, h => exact h
         | 10, h => exact h
         | 11, h => exact h
         | 12, h => exact h
         | 13, h => exact h
         | 14, h => exact h
         | 15, h => exact h
         | 16, h => exact h
         | 17, h => exact h
         | 18, h => exact h
         | 19, h => exact h
         | 20, h => exact h
         | 21, h => exact h
         | _ + 22, h => exact trivial
        ·intro i o ac u hi ho hsz hf hg hc
         have hcs : i = 0 ∨ i = 1 ∨ i = 2 ∨ i = 3 ∨ i = 4 ∨ i = 5 ∨ i = 6 ∨ i = 7 ∨ i = 8 ∨ i = 9 ∨ i = 10 ∨ i = 11 ∨ i = 12 ∨ i = 13 ∨ i = 14 ∨ i = 15 ∨ i = 16 ∨ i = 17 ∨ i = 18 ∨ i = 19 ∨ i = 20 ∨ i = 21 := by omega
         rcases hcs with rfl | rfl | rfl | rfl | rfl | rfl | rfl | rfl | rfl | rfl | rfl | rfl | rfl | rfl | rfl | rfl | rfl | rfl | rfl | rfl | rfl | rfl
         ·injection ho with ho
          subst ho
          refine .inl ⟨wanted_none rfl, ?_⟩
          have e1 : ac.eval (.tmp 7) = .bool true := hf 7 (by kernel_rfl)
          exact opG_val (by simp [execOp, e1]) rfl (Chg.refl _)
         ·injection ho with ho
          subst ho
          refine .inl ⟨wanted_none rfl, ?_⟩
          have e1 : ac.eval (.tmp 66) = .bool true := hg 0 (by decide) (by decide)
          exact opG_val (by simp [execOp, e1]) rfl (Chg.refl _)
         ·injection ho with ho
          subst ho
          refine .inl ⟨wanted_by (T := _) (by kernel_rfl) hsz rfl (by decide : 1 < 22) rfl (hg 1 (by decide) (by decide)), ?_⟩
          have e1 : ac.eval (.tmp 8) = .pointer (some ⟨b8, 0, none⟩) := hf 8 (by kernel_rfl)
          exact wp_load_mid 22 (.tmp 8) rfl _ _ e1 ((byt (pK e)).toList) _ (rangeAp (Z6.out.2.2.1.chg hc)) un37 rfl (infoY _) ⟨_, rfl, rfl, Chg.refl _⟩
         ·injection ho with ho
          subst ho
          refine .inl ⟨wanted_by (T := _) (by kernel_rfl) hsz rfl (by decide : 1 < 22) rfl (hg 1 (by decide) (by decide)), ?_⟩
          have e1 : ac.eval (.tmp 1) = .slice p n cap := hf 1 (by kernel_rfl)
          exact opG_val (by simp [execOp, e1]) rfl (Chg.refl _)
         ·injection ho with ho
          subst ho
          refine .inl ⟨wanted_by (T := _) (by kernel_rfl) hsz rfl (by decide : 1 < 22) rfl (hg 1 (by decide) (by decide)), ?_⟩
          have e1 : ac.eval (.tmp 9) = .pointer (some ⟨b9, 0, none⟩) := hf 9 (by kernel_rfl)
          exact wp_load_mid 27 (.tmp 9) rfl _ _ e1 ((b64 (sg e xs)).toList) _ (rangeAp (Z6.out.2.2.2.1.chg hc)) unB rfl (infoB _) ⟨_, rfl, rfl, Chg.refl _⟩
         ·injection ho with ho
          subst ho
          refine .inl ⟨wanted_by (T := _) (by kernel_rfl) hsz rfl (by decide : 1 < 22) rfl (hg 1 (by decide) (by decide)), ?_⟩
          have e1 : ac.eval (.tmp 68) = .agg (byt (pK e)) := hg 2 (by decide) (by decide)
          have e2 : ac.eval (.tmp 69) = .slice p n cap := hg 3 (by decide) (by decide)
          have e3 : ac.eval (.tmp 70) = .agg (b64 (sg e xs)) := hg 4 (by decide) (by decide)
          refine opG_go 6 Tryd.f6 #[.tmp 68, .tmp 69, .tmp 70] #[22, 23, 27] rfl Tryd.func6 (by kernel_rfl) (by kernel_rfl) (by simp [e1, e2, e3]) (Calls.mono (HV1.out _ (Z6.out.1.trans hc)) ?_)
          rintro r u2 ⟨rfl, hc2⟩
          exact ⟨_, rfl, rfl, hc2⟩
         ·injection ho with ho
          subst ho
          refine .inl ⟨wanted_none rfl, ?_⟩
          have e1 : ac.eval (.tmp 67) = .bool true := hg 1 (by decide) (by decide)
          have e2 : ac.eval (.tmp 71) = .bool true := hg 5 (by decide) (by decide)
          have e3 : ac.eval (.const (.bool false)) = .bool false := rfl
          exact opG_val (by revert e1 e2 e3; generalize ac.eval = ρ; intro e1 e2 e3; simp [go_sem, execOp, e1, e2, e3]) rfl (Chg.refl _)
         ·injection ho with ho
          subst ho
          refine .inl ⟨wanted_none rfl, ?_⟩
          have e1 : ac.eval (.tmp 72) = .bool true := hg 6 (by decide) (by decide)
          exact opG_val (by simp [execOp, e1]) rfl (Chg.refl _)
         ·injection ho with ho
          subst ho
          refine .inl ⟨wanted_by (T := _) (by kernel_rfl) hsz rfl (by decide : 7 < 22) rfl (hg 7 (by decide) (by decide)), ?_⟩
          have e1 : ac.eval (.tmp 13) = .int .u64 0 := hf 13 (by kernel_rfl)
          exact opG_val (by simp [execOp, e1]) rfl (Chg.refl _)
         ·injection ho with ho
          subst ho
          refine .inl ⟨wanted_by (T := _) (by kernel_rfl) hsz rfl (by decide : 7 < 22) rfl (hg 7 (by decide) (by decide)), ?_⟩
          have e1 : ac.eval (.tmp 74) = .int .u64 0 := hg 8 (by decide) (by decide)
          have e2 : ac.eval (.const (.int .u64 0)) = .int .u64 0 := rfl
          exact opG_val (by revert e1 e2; generalize ac.eval = ρ; intro e1 e2; simp [go_sem, execOp, e1, e2]) rfl (Chg.refl _)
         ·injection ho with ho
          subst ho
          refine .inl ⟨wanted_none rfl, ?_⟩
          have e1 : ac.eval (.tmp 73) = .bool true := hg 7 (by decide) (by decide)
          have e2 : ac.eval (.tmp 75) = .bool true := hg 9 (by decide) (by decide)
          have e3 : ac.eval (.const (.bool false)) = .bool false := rfl
          exact opG_val (by revert e1 e2 e3; generalize ac.eval = ρ; intro e1 e2 e3; simp [go_sem, execOp, e1, e2, e3]) rfl (Chg.refl _)
         ·injection ho with ho
          subst ho
          refine .inl ⟨wanted_none rfl, ?_⟩
          have e1 : ac.eval (.tmp 76) = .bool true := hg 10 (by decide) (by decide)
          exact opG_val (by simp [execOp, e1]) rfl (Chg.refl _)
         ·injection ho with ho
          subst ho
          refine .inl ⟨wanted_by (T := _) (by kernel_rfl) hsz rfl (by decide : 11 < 22) rfl (hg 11 (by decide) (by decide)), ?_⟩
          have e1 : ac.eval (.tmp 8) = .pointer (some ⟨b8, 0, none⟩) := hf 8 (by kernel_rfl)
          exact wp_load_mid 22 (.tmp 8) rfl _ _ e1 ((byt (pK e)).toList) _ (rangeAp (Z6.out.2.2.1.chg hc)) un37 rfl (infoY _) ⟨_, rfl, rfl, Chg.refl _⟩
         ·injection ho with ho
          subst ho
          refine .inl ⟨wanted_by (T := _) (by kernel_rfl) hsz rfl (by decide : 11 < 22) rfl (hg 11 (by decide) (by decide)), ?_⟩
          have e1 : ac.eval (.tmp 1) = .slice p n cap := hf 1 (by kernel_rfl)
          exact opG_val (by simp [execOp, e1]) rfl (Chg.refl _)
         ·injection ho with ho
          subst ho
          refine .inl ⟨wanted_by (T := _) (by kernel_rfl) hsz rfl (by decide : 11 < 22) rfl (hg 11 (by decide) (by decide)), ?_⟩
          have e1 : ac.eval (.tmp 17) = .pointer (some ⟨b17, 0, none⟩) := hf 17 (by kernel_rfl)
          exact wp_load_mid 27 (.tmp 17) rfl _ _ e1 ((b64 (mx3 32 (dg 256 N) (sg e xs))).toList) _ (rangeAp (Z6.out.2.2.2.2.2.2.2.chg hc)) unB rfl (infoB _) ⟨_, rfl, rfl, Chg.refl _⟩
         ·injection ho with ho
          subst ho
          refine .inl ⟨wanted_by (T := _) (by kernel_rfl) hsz rfl (by decide : 11 < 22) rfl (hg 11 (by decide) (by decide)), ?_⟩
          have e1 : ac.eval (.tmp 78) = .agg (byt (pK e)) := hg 12 (by decide) (by decide)
          have e2 : ac.eval (.tmp 79) = .slice p n cap := hg 13 (by decide) (by decide)
          have e3 : ac.eval (.tmp 80) = .agg (b64 (mx3 32 (dg 256 N) (sg e xs))) := hg 14 (by decide) (by decide)
          refine opG_go 6 Tryd.f6 #[.tmp 78, .tmp 79, .tmp 80] #[22, 23, 27] rfl Tryd.func6 (by kernel_rfl) (by kernel_rfl) (by simp [e1, e2, e3]) (Calls.mono (HN2.out _ (Z6.out.1.trans hc)) ?_)
          rintro r u2 ⟨rfl, hc2⟩
          exact ⟨_, rfl, rfl, hc2⟩
         ·injection ho with ho
          subst ho
          refine .inl ⟨wanted_by (T := _) (by kernel_rfl) hsz rfl (by decide : 11 < 22) rfl (hg 11 (by decide) (by decide)), ?_⟩
          have e1 : ac.eval (.tmp 81) = .bool false := hg 15 (by decide) (by decide)
          exact opG_val (by revert e1; generalize ac.eval = ρ; intro e1; simp [go_sem, execOp, e1]) rfl (Chg.refl _)
         ·injection ho with ho
          subst ho
          refine .inl ⟨wanted_none rfl, ?_⟩
          have e1 : ac.eval (.tmp 77) = .bool true := hg 11 (by decide) (by decide)
          have e2 : ac.eval (.tmp 82) = .bool true := hg 16 (by decide) (by decide)
          have e3 : ac.eval (.const (.bool false)) = .bool false := rfl
          exact opG_val (by revert e1 e2 e3; generalize ac.eval = ρ; intro e1 e2 e3; simp [go_sem, execOp, e1, e2, e3]) rfl (Chg.refl _)
         ·injection ho with ho
          subst ho
          refine .inl ⟨wanted_none rfl, ?_⟩
          have e1 : ac.eval (.tmp 83) = .bool true := hg 17 (by decide) (by decide)
          exact opG_val (by simp [execOp, e1]) rfl (Chg.refl _)
         ·injection ho with ho
          subst ho
          refine .inl ⟨wanted_by (T := _) (by kernel_rfl) hsz rfl (by decide : 18 < 22) rfl (hg 18 (by decide) (by decide)), ?_⟩
          have e1 : ac.eval (.tmp 8) = .pointer (some ⟨b8, 0, none⟩) := hf 8 (by kernel_rfl)
          exact wp_load_mid 22 (.tmp 8) rfl _ _ e1 ((byt (pK e)).toList) _ (rangeAp (Z6.out.2.2.1.chg hc)) un37 rfl (infoY _) ⟨_, rfl, rfl, Chg.refl _⟩
         ·injection ho with ho
          subst ho
          refine .inl ⟨wanted_by (T := _) (by kernel_rfl) hsz rfl (by decide : 18 < 22) rfl (hg 18 (by decide) (by decide)), ?_⟩
          have e1 : ac.eval (.tmp 85) = .agg (byt (pK e)) := hg 19 (by decide) (by decide)
          refine opG_go 13 Tryd.f13 #[.tmp 85] #[22] rfl Tryd.func13 (by kernel_rfl) (by kernel_rfl) (by simp [e1]) (Calls.mono (HV3.out _) ?_)
          rintro r u2 ⟨rfl, hc2⟩
          exact ⟨_, rfl, rfl, hc2⟩
         ·injection ho with ho
          subst ho
          refine .inl ⟨wanted_none rfl, ?_⟩
          have e1 : ac.eval (.tmp 84) = .bool true := hg 18 (by decide) (by decide)
          have e2 : ac.eval (.tmp 86) = .bool true := hg 20 (by decide) (by decide)
          have e3 : ac.eval (.const (.bool false)) = .bool false := rfl
          exact opG_val (by revert e1 e2 e3; generalize ac.eval = ρ; intro e1 e2 e3; simp [go_sem, execOp, e1, e2, e3]) rfl (Chg.refl _)
        ·intro o u V ho hV hc
         injection ho with ho
         subst ho
         refine ⟨rfl, ?_⟩
         have q66 : V 0 = .bool true := hV 0 (by decide)
         have q67 : V 1 = .bool true := hV 1 (by decide)
         have q68 : V 2 = .agg (byt (pK e)) := hV 2 (by decide)
         have q69 : V 3 = .slice p n cap := hV 3 (by decide)
         have q70 : V 4 = .agg (b64 (sg e xs)) := hV 4 (by decide)
         have q71 : V 5 = .bool true := hV 5 (by decide)
         have q72 : V 6 = .bool true := hV 6 (by decide)
         have q73 : V 7 = .bool true := hV 7 (by decide)
         have q74 : V 8 = .int .u64 0 := hV 8 (by decide)
         have q75 : V 9 = .bool true := hV 9 (by decide)
         have q76 : V 10 = .bool true := hV 10 (by decide)
         have q77 : V 11 = .bool true := hV 11 (by decide)
         have q78 : V 12 = .agg (byt (pK e)) := hV 12 (by decide)
         have q79 : V 13 = .slice p n cap := hV 13 (by decide)
         have q80 : V 14 = .agg (b64 (mx3 32 (dg 256 N) (sg e xs))) := hV 14 (by decide)
         have q81 : V 15 = .bool false := hV 15 (by decide)
         have q82 : V 16 = .bool true := hV 16 (by decide)
         have q83 : V 17 = .bool true := hV 17 (by decide)
         have q84 : V 18 = .bool true := hV 18 (by decide)
         have q85 : V 19 = .agg (byt (pK e)) := hV 19 (by decide)
         have q86 : V 20 = .bool true := hV 20 (by decide)
         have q87 : V 21 = .bool true := hV 21 (by decide)
         refine op_asg (.tmp 87) (.bool true) rfl (Eq.trans (by rfl) q87) ?_
         go_wp2_with fail
         go_meet
         exact ⟨rfl, hc⟩
       obtain ⟨rfl, hcc⟩ := hcut
       have Z15 : Hid (Chg w wc) := Z6.out.1.trans hcc
       clear hcc
       go_wp2_with fail
       go_ret
       exact ⟨rfl, Z15.out⟩
end Go.Proofs.YtjfidbifjagnpaaDoor
