/-
EdsigPoints walked.
-/
import Derived.Test.YtjfidbifjagnpaaGreatDoorJz
import Derived.Test.YtjfidbifjagnpaaGreatDoorHd
namespace Go.Proofs.YtjfidbifjagnpaaGreatDoor
open Go.RowKit
set_option linter.unusedVariables false
set_option maxRecDepth 100000
theorem x_topE {b l : Int} (hb : B8 b) (hl : B8 l) : B8 (bits .xor .u8 b (bits .and .u8 l 128)) := by
 have ⟨h0, h1⟩ := hb
 have ⟨g0, g1⟩ := hl
 obtain ⟨n, rfl⟩ := Int.eq_ofNat_of_zero_le h0
 obtain ⟨m, rfl⟩ := Int.eq_ofNat_of_zero_le g0
 have hn : n < 256 := by omega
 have hm : m < 256 := by omega
 have e : bits .and .u8 (m : Int) 128 = 0 ∨ bits .and .u8 (m : Int) 128 = 128 := (by decide +kernel : ∀ m : Nat, m < 256 → bits .and .u8 (m : Int) 128 = 0 ∨ bits .and .u8 (m : Int) 128 = 128) m hm
 unfold B8
 rcases e with e | e <;> rw [e]
 ·exact (by decide +kernel : ∀ n : Nat, n < 256 → 0 ≤ bits .xor .u8 (n : Int) 0 ∧ bits .xor .u8 (n : Int) 0 < 256) n hn
 ·exact (by decide +kernel : ∀ n : Nat, n < 256 → 0 ≤ bits .xor .u8 (n : Int) 128 ∧ bits .xor .u8 (n : Int) 128 < 256) n hn
theorem upd_8 {e : Nat → Int} (he : ∀ i, B8 (e i)) {k : Nat} {x : Int} (hx : B8 x) : ∀ i, B8 (upd e k x i) := fun i => by
 unfold upd
 split
 ·exact hx
 ·exact he i
set_option maxHeartbeats 16000000 in
theorem lawP_any (e : Nat → Int) (he : ∀ i, B8 (e i)) (h : Int) (hh : B8 h) (w : World) (ht : Sha.Tabs w) : Calls Tryz.prog 5 #[.agg (byt e), .int .u8 h] w fun r w' => r = .returned (.bool true) ∧ Chg w w' := by
 have HT : Hid (Sha.Tabs w) := ht
 have HE : Hid (∀ i, B8 (e i)) := he
 have hz := zero37.1
 have hsA := byt_size e
 obtain ⟨d, hd⟩ : ∃ zz0, zz0 = e 31 := ⟨_, rfl⟩
 obtain ⟨m, hm⟩ : ∃ zz0, bits .and .u8 h 128 = zz0 := ⟨_, rfl⟩
 obtain ⟨x, hx⟩ : ∃ zz0, bits .xor .u8 d m = zz0 := ⟨_, rfl⟩
 have HX : Hid (d = e 31 ∧ B8 x) := ⟨hd, by rw [← hx, ← hm, hd]; exact x_topE (he 31) hh⟩
 obtain ⟨A, hA⟩ : ∃ A, A = byt e := ⟨_, rfl⟩
 have HA : Hid (A = byt e) := hA
 rw [← hA] at hsA ⊢
 clear hA he hh ht hd
 go_enter Tryz.func5, Tryz.ntmps5
 go_upto_region 1 with fail
 obtain ⟨w1, hw1⟩ : ∃ w1, w1 = w.alloc (.cells A 22) := ⟨_, rfl⟩
 have Z1 : Hid (Chg w w1 ∧ Ar w1 w.heap.size (byt e)) := by
  have hnew0 := Ar.new w (byt e) 22
  rw [hw1, HA.out]
  exact ⟨((Chg.refl w).alloc _), (hnew0)⟩
 rw [← hw1]
 clear hw1
 clear hsA HA
 have HH : Hid (∀ W, Sha.Tabs W → Calls Tryz.prog 6 #[] W fun r w' => r = .returned (.bool true) ∧ Chg W w') := fun W h => head_any W h
 go_upto_region 2 with (go_at_call 6; (refine (HH.out _ (HT.out.chg (toS Z1.out.1))).mono ?_; rintro r w2 ⟨rfl, hc2⟩))
 have Z2 : Hid (Chg w w2 ∧ Ar w2 w.heap.size (byt e)) := ⟨Z1.out.1.trans hc2, Z1.out.2.chg hc2⟩
 clear hc2 Z1 HH hz
 have O2 : Hid (w.heap.size < w.heap.size + 1) := Nat.lt_succ_self _
 go_cut [6] from 6 to 8 (fun v6 wc => ∃ b6, v6 = .pointer (some ⟨b6, 0, none⟩) ∧ w2.heap.size ≤ b6 ∧ Ar wc b6 (byt e) ∧ Chg w2 wc)
 case first =>
  refine regS 2 (fun j v wg => match j with
   | 0 => v = .agg (byt e)
   | 1 => ∃ b, v = .pointer (some ⟨b, 0, none⟩) ∧ Ar wg b (byt zD) ∧ w2.heap.size ≤ b
   | _ => True) (by kernel_rfl) (by kernel_rfl) ?_ ?_ ?_
  ·intro j v u1 u2 h hc
   match j, h with
   | 0, h => exact h
   | 1, h => (obtain ⟨b, h1, h2, h3⟩ := h; exact ⟨b, h1, h2.chg hc, h3⟩)
   | _ + 2, h => exact trivial
  ·intro i o ac u hi ho hsz hf hg hc
   have hcs : i = 0 ∨ i = 1 := by omega
   rcases hcs with rfl | rfl
   ·injection ho with ho
    subst ho
    refine .inl ⟨wanted_none rfl, ?_⟩
    have e1 : ac.eval (.tmp 2) = .pointer (some ⟨w.heap.size, 0, none⟩) := hf 2 (by kernel_rfl)
    exact wp_load_mid 22 (.tmp 2) rfl _ _ e1 ((byt e).toList) _ (rangeAp (Z2.out.2.chg hc)) un37 rfl (infoY _) ⟨_, rfl, rfl, Chg.refl _⟩
   ·injection ho with ho
    subst ho
    refine .inl ⟨wanted_none rfl, ?_⟩
    exact opG_val (v := .pointer (some ⟨u.heap.size, 0, none⟩)) (w' := u.alloc (.cells (byt zD) 22)) (by generalize ac.eval = ρ; simp [go_sem, execOp, zero37.1]) ⟨_, rfl, Ar.new _ _ _, hc.size⟩ ((Chg.refl _).alloc _)
  ·intro o u V ho hV hc
   injection ho with ho
   subst ho
   refine ⟨rfl, ?_⟩
   have q8 : V 0 = .agg (byt e) := hV 0 (by decide)
   obtain ⟨b6, q6, r6, s6⟩ := hV 1 (by decide)
   refine wp_store_mid 22 (.tmp 6) (.tmp 8) rfl b6 0 (byt e) (Eq.trans (by rfl) q6) (Eq.trans (by rfl) q8) (by rw [byt_size]; exact thereY r6) (szY _) (oneY _) ?_
   rw [show u.setCells b6 0 (byt e).toList = u.setRow b6 (byt e) from setRowY r6 _]
   go_wp2_with fail
   go_meet
   exact ⟨b6, q6, s6, r6.row _, hc.setRow s6 _⟩
 obtain ⟨b6, rfl, l6, ha6, hcc⟩ := hcut
 obtain ⟨w3, hw3⟩ : ∃ zz0, zz0 = wc := ⟨_, rfl⟩
 rw [← hw3] at hcc ha6 ⊢
 clear hw3
 have O6 : Hid (w.heap.size < b6) := Nat.lt_of_lt_of_le (Z2.out.2.lt) l6
 have Z3 : Hid (Chg w w3 ∧ Ar w3 w.heap.size (byt e) ∧ Ar w3 b6 (byt e)) := ⟨Z2.out.1.trans hcc, Z2.out.2.chg hcc, ha6⟩
 clear hcc ha6 l6 Z2
 have c31 : w3.cell? ⟨b6, 31, none⟩ = some (.int .u8 d) := by
  rw [HX.out.1]
  exact (Z3.out.2.2.cell 31).trans (arr_get _ _ _ (by decide))
 have f31 := Z3.out.2.2.frozen 31
 go_upto_region 4 with fail
 obtain ⟨w4, hw4⟩ : ∃ zz0, zz0 = w3.setCell ⟨b6, 31, none⟩ (.int .u8 x) := ⟨_, rfl⟩
 have HC : Hid (∀ i, B8 (upd e 31 x i)) := upd_8 HE.out HX.out.2
 obtain ⟨e2, he2⟩ : ∃ zz0, zz0 = upd e 31 x := ⟨_, rfl⟩
 have Z4 : Hid (Chg w w4 ∧ Ar w4 w.heap.size (byt e) ∧ Ar w4 b6 (byt e2)) := by
  have o6 := O6.out
  rw [hw4, he2]
  refine ⟨Z3.out.1.setCell (by show w.heap.size ≤ b6; omega) _, Z3.out.2.1.other (by show _ ≠ b6; omega) _, ?_⟩
  unfold byt
  rw [← arr_set]
  exact Z3.out.2.2.set 31 _
 rw [← he2] at HC
 rw [← hw4]
 clear hw4 he2 c31 f31 Z3 hm hx
 go_cut [4] from 4 to 29 (fun v4 wc => v4 = .bool true ∧ Chg w4 wc)
 case first =>
  refine regA 15 (fun j v wg => match j with
   | 0 => v = .bool true
   | 1 => v = .bool true
   | 2 => v = .agg (byt e)
   | 3 => v = .bool (tell e)
   | 4 => v = .agg (byt e)
   | 5 => v = .bool (tell e)
   | 6 => v = .bool true
   | 7 => v = .bool true
   | 8 => v = .bool true
   | 9 => v = .agg (byt e2)
   | 10 => v = .bool (tell e2)
   | 11 => v = .agg (byt e2)
   | 12 => v = .bool (tell e2)
   | 13 => v = .bool true
   | 14 => v = .bool true
   | _ => True) (by kernel_rfl) (by kernel_rfl) (by kernel_rfl) (by kernel_rfl) (by kernel_rfl) ?_ ?_ ?_
  ·intro j v u1 u2 h hc
   match j, h with
   | 0, h => exact h
   | 1, h => exact h
   | 2, h => exact h
   | 3, h => exact h
   | 4, h => exact h
   | 5, h => exact h
   | 6, h => exact h
   | 7, h => exact h
   | 8, h => exact h
   | 9, h => exact h
   | 10, h => exact h
   | 11, h => exact h
   | 12, h => exact h
   | 13, h => exact h
   | 14, h => exact h
   | _ + 15, h => exact trivial
  ·intro i o ac u hi ho hsz hf hg hc
   have hcs : i = 0 ∨ i = 1 ∨ i = 2 ∨ i = 3 ∨ i = 4 ∨ i = 5 ∨ i = 6 ∨ i = 7 ∨ i = 8 ∨ i = 9 ∨ i = 10 ∨ i = 11 ∨ i = 12 ∨ i = 13 ∨ i = 14 := by omega
   rcases hcs with rfl | rfl | rfl | rfl | rfl | rfl | rfl | rfl | rfl | rfl | rfl | rfl | rfl | rfl | rfl
   ·injection ho with ho
    subst ho
    refine .inl ⟨wanted_none rfl, ?_⟩
    have e1 : ac.eval (.tmp 5) = .bool true := hf 5 (by kernel_rfl)
    exact opG_val (by simp [execOp, e1]) rfl (Chg.refl _)
   ·injection ho with ho
    subst ho
    refine .inl ⟨wanted_none rfl, ?_⟩
    have e1 : ac.eval (.tmp 15) = .bool true := hg 0 (by kernel_rfl) (by decide)
    exact opG_val (by simp [execOp, e1]) rfl (Chg.refl _)
   ·injection ho with ho
    subst ho
    refine .inl ⟨wanted_by (T := _) (by kernel_rfl) hsz rfl (by decide : 1 < 15) rfl (hg 1 (by kernel_rfl) (by decide)), ?_⟩
    have e1 : ac.eval (.tmp 2) = .pointer (some ⟨w.heap.size, 0, none⟩) := hf 2 (by kernel_rfl)
    exact wp_load_mid 22 (.tmp 2) rfl _ _ e1 ((byt e).toList) _ (rangeAp (Z4.out.2.1.chg hc)) un37 rfl (infoY _) ⟨_, rfl, rfl, Chg.refl _⟩
   ·injection ho with ho
    subst ho
    refine .inl ⟨wanted_by (T := _) (by kernel_rfl) hsz rfl (by decide : 1 < 15) rfl (hg 1 (by kernel_rfl) (by decide)), ?_⟩
    have e1 : ac.eval (.tmp 17) = .agg (byt e) := hg 2 (by kernel_rfl) (by decide)
    refine opG_go 13 Tryz.f13 #[.tmp 17] #[22] rfl Tryz.func13 (by kernel_rfl) (by kernel_rfl) (by simp [e1]) (Calls.mono (pointE_any _ HE.out _) ?_)
    rintro r u2 ⟨rfl, hc2⟩
    exact ⟨_, rfl, rfl, hc2⟩
   ·injection ho with ho
    subst ho
    refine .inl ⟨wanted_by (T := _) (by kernel_rfl) hsz rfl (by decide : 1 < 15) rfl (hg 1 (by kernel_rfl) (by decide)), ?_⟩
    have e1 : ac.eval (.tmp 2) = .pointer (some ⟨w.heap.size, 0, none⟩) := hf 2 (by kernel_rfl)
    exact wp_load_mid 22 (.tmp 2) rfl _ _ e1 ((byt e).toList) _ (rangeAp (Z4.out.2.1.chg hc)) un37 rfl (infoY _) ⟨_, rfl, rfl, Chg.refl _⟩
   ·injection ho with ho
    subst ho
    refine .inl ⟨wanted_by (T := _) (by kernel_rfl) hsz rfl (by decide : 1 < 15) rfl (hg 1 (by kernel_rfl) (by decide)), ?_⟩
    have e1 : ac.eval (.tmp 19) = .agg (byt e) := hg 4 (by kernel_rfl) (by decide)
    refine opG_go 14 Tryz.f14 #[.tmp 19] #[22] rfl Tryz.func14 (by kernel_rfl) (by kernel_rfl) (by simp [e1]) (Calls.mono (isPointF_any _ HE.out _) ?_)
    rintro r u2 ⟨rfl, hc2⟩
    exact ⟨_, rfl, rfl, hc2⟩
   ·injection ho with ho
    subst ho
    refine .inl ⟨wanted_by (T := _) (by kernel_rfl) hsz rfl (by decide : 1 < 15) rfl (hg 1 (by kernel_rfl) (by decide)), ?_⟩
    have e1 : ac.eval (.tmp 18) = .bool (tell e) := hg 3 (by kernel_rfl) (by decide)
    have e2 : ac.eval (.tmp 20) = .bool (tell e) := hg 5 (by kernel_rfl) (by decide)
    exact opG_val (by revert e1 e2; generalize ac.eval = ρ; intro e1 e2; simp [go_sem, execOp, e1, e2]) rfl (Chg.refl _)
   ·injection ho with ho
    subst ho
    refine .inl ⟨wanted_none rfl, ?_⟩
    have e1 : ac.eval (.tmp 16) = .bool true := hg 1 (by kernel_rfl) (by decide)
    have e2 : ac.eval (.tmp 21) = .bool true := hg 6 (by kernel_rfl) (by decide)
    have e3 : ac.eval (.const (.bool false)) = .bool false := rfl
    exact opG_val (by revert e1 e2 e3; generalize ac.eval = ρ; intro e1 e2 e3; simp [go_sem, execOp, e1, e2, e3]) rfl (Chg.refl _)
   ·injection ho with ho
    subst ho
    refine .inl ⟨wanted_none rfl, ?_⟩
    have e1 : ac.eval (.tmp 22) = .bool true := hg 7 (by kernel_rfl) (by decide)
    exact opG_val (by simp [execOp, e1]) rfl (Chg.refl _)
   ·injection ho with ho
    subst ho
    refine .inl ⟨wanted_by (T := _) (by kernel_rfl) hsz rfl (by decide : 8 < 15) rfl (hg 8 (by kernel_rfl) (by decide)), ?_⟩
    have e1 : ac.eval (.tmp 6) = .pointer (some ⟨b6, 0, none⟩) := hf 6 (by kernel_rfl)
    exact wp_load_mid 22 (.tmp 6) rfl _ _ e1 ((byt e2).toList) _ (rangeAp (Z4.out.2.2.chg hc)) un37 rfl (infoY _) ⟨_, rfl, rfl, Chg.refl _⟩
   ·injection ho with ho
    subst ho
    refine .inl ⟨wanted_by (T := _) (by kernel_rfl) hsz rfl (by decide : 8 < 15) rfl (hg 8 (by kernel_rfl) (by decide)), ?_⟩
    have e1 : ac.eval (.tmp 24) = .agg (byt e2) := hg 9 (by kernel_rfl) (by decide)
    refine opG_go 13 Tryz.f13 #[.tmp 24] #[22] rfl Tryz.func13 (by kernel_rfl) (by kernel_rfl) (by simp [e1]) (Calls.mono (pointE_any _ HC.out _) ?_)
    rintro r u2 ⟨rfl, hc2⟩
    exact ⟨_, rfl, rfl, hc2⟩
   ·injection ho with ho
    subst ho
    refine .inl ⟨wanted_by (T := _) (by kernel_rfl) hsz rfl (by decide : 8 < 15) rfl (hg 8 (by kernel_rfl) (by decide)), ?_⟩
    have e1 : ac.eval (.tmp 6) = .pointer (some ⟨b6, 0, none⟩) := hf 6 (by kernel_rfl)
    exact wp_load_mid 22 (.tmp 6) rfl _ _ e1 ((byt e2).toList) _ (rangeAp (Z4.out.2.2.chg hc)) un37 rfl (infoY _) ⟨_, rfl, rfl, Chg.refl _⟩
   ·injection ho with ho
    subst ho
    refine .inl ⟨wanted_by (T := _) (by kernel_rfl) hsz rfl (by decide : 8 < 15) rfl (hg 8 (by kernel_rfl) (by decide)), ?_⟩
    have e1 : ac.eval (.tmp 26) = .agg (byt e2) := hg 11 (by kernel_rfl) (by decide)
    refine opG_go 14 Tryz.f14 #[.tmp 26] #[22] rfl Tryz.func14 (by kernel_rfl) (by kernel_rfl) (by simp [e1]) (Calls.mono (isPointF_any _ HC.out _) ?_)
    rintro r u2 ⟨rfl, hc2⟩
    exact ⟨_, rfl, rfl, hc2⟩
   ·injection ho with ho
    subst ho
    refine .inl ⟨wanted_by (T := _) (by kernel_rfl) hsz rfl (by decide : 8 < 15) rfl (hg 8 (by kernel_rfl) (by decide)), ?_⟩
    have e1 : ac.eval (.tmp 25) = .bool (tell e2) := hg 10 (by kernel_rfl) (by decide)
    have e2 : ac.eval (.tmp 27) = .bool (tell e2) := hg 12 (by kernel_rfl) (by decide)
    exact opG_val (by revert e1 e2; generalize ac.eval = ρ; intro e1 e2; simp [go_sem, execOp, e1, e2]) rfl (Chg.refl _)
   ·injection ho with ho
    subst ho
    refine .inl ⟨wanted_none rfl, ?_⟩
    have e1 : ac.eval (.tmp 23) = .bool true := hg 8 (by kernel_rfl) (by decide)
    have e2 : ac.eval (.tmp 28) = .bool true := hg 13 (by kernel_rfl) (by decide)
    have e3 : ac.eval (.const (.bool false)) = .bool false := rfl
    exact opG_val (by revert e1 e2 e3; generalize ac.eval = ρ; intro e1 e2 e3; simp [go_sem, execOp, e1, e2, e3]) rfl (Chg.refl _)
  ·intro o u V ho hV hc
   injection ho with ho
   subst ho
   refine ⟨rfl, ?_⟩
   have q15 : V 0 = .bool true := hV 0 (by decide)
   have q16 : V 1 = .bool true := hV 1 (by decide)
   have q17 : V 2 = .agg (byt e) := hV 2 (by decide)
   have q18 : V 3 = .bool (tell e) := hV 3 (by decide)
   have q19 : V 4 = .agg (byt e) := hV 4 (by decide)
   have q20 : V 5 = .bool (tell e) := hV 5 (by decide)
   have q21 : V 6 = .bool true := hV 6 (by decide)
   have q22 : V 7 = .bool true := hV 7 (by decide)
   have q23 : V 8 = .bool true := hV 8 (by decide)
   have q24 : V 9 = .agg (byt e2) := hV 9 (by decide)
   have q25 : V 10 = .bool (tell e2) := hV 10 (by decide)
   have q26 : V 11 = .agg (byt e2) := hV 11 (by decide)
   have q27 : V 12 = .bool (tell e2) := hV 12 (by decide)
   have q28 : V 13 = .bool true := hV 13 (by decide)
   have q29 : V 14 = .bool true := hV 14 (by decide)
   refine op_asg (.tmp 29) (.bool true) rfl (Eq.trans (by rfl) q29) ?_
   go_wp2_with fail
   go_meet
   exact ⟨rfl, hc⟩
 obtain ⟨rfl, hcc⟩ := hcut
 have Z5 : Hid (Chg w wc) := Z4.out.1.trans hcc
 clear hcc
 go_wp2_with fail
 go_ret
 exact ⟨rfl, Z5.out⟩
end Go.Proofs.YtjfidbifjagnpaaGreatDoor
