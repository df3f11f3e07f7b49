/-
  Texts signed: the program.
-/
import Derived.Test.YtjfidbifjagnpaaDoorPb
import Derived.Test.YtjfidbifjagnpaaDoorHd
namespace Go.Proofs.YtjfidbifjagnpaaDoor
open Go.RowKit
set_option linter.unusedVariables false
set_option maxRecDepth 100000
theorem SlA_shape {w : World} {v : Value} {xs : List Int} (h : Sha.SlA w v xs) : ∃ p n cap, v = .slice p n cap := by
 rcases h with ⟨e1, e2⟩ | ⟨a, cap, e1, e2⟩ | ⟨b, o, cap, e1, _⟩
 ·exact ⟨_, _, _, e1⟩
 ·exact ⟨_, _, _, e1⟩
 ·exact ⟨_, _, _, e1⟩
def rN (e : Nat → Int) (xs : List Int) : Int := kW [ls 32 (sH e), xs].flatten
def RB (e : Nat → Int) (xs : List Int) : Nat → Int := encB (MU PB (rN e xs).toNat)
def kN (R A : Nat → Int) (xs : List Int) : Int := kW [ls 32 R, ls 32 A, xs].flatten
def SN (e : Nat → Int) (xs : List Int) : Int := md 4 (rN e xs + md 4 (kN (RB e xs) (pK e) xs * sK e))
def sg (e : Nat → Int) (xs : List Int) : Nat → Int := jn (RB e xs) (dg 256 (SN e xs))
theorem rN_N (e : Nat → Int) (xs : List Int) : N256 (rN e xs) := kW_N _
theorem kN_N (R A : Nat → Int) (xs : List Int) : N256 (kN R A xs) := kW_N _
theorem RB_8 (e : Nat → Int) (xs : List Int) : ∀ i, B8 (RB e xs i) := encB_8 _
theorem sg_8 (e : Nat → Int) (xs : List Int) : ∀ i, B8 (sg e xs i) := jn_8 (RB_8 e xs) (fun i => dg_bound (by decide) _ i)
set_option maxHeartbeats 16000000 in
theorem signE_any (e : Nat → Int) (v : Value) (xs : List Int) (w : World) (ht : Sha.Tabs w) (hx : Sha.SlA w v xs) : Calls Tryd.prog 8 #[.agg (byt e), v] w fun r w' => r = .returned (.agg (b64 (sg e xs))) ∧ Chg w w' := by
 obtain ⟨p, n, cap, rfl⟩ := SlA_shape hx
 have HT : Hid (Sha.Tabs w) := ht
 have HX : Hid (Sha.SlA w (.slice p n cap) xs) := hx
 have hz := zeroB.1
 have hsA := byt_size e
 obtain ⟨A, hA⟩ : ∃ A, A = byt e := ⟨_, rfl⟩
 have HA : Hid (A = byt e) := hA
 rw [← hA] at hsA ⊢
 clear hA ht hx
 go_enter Tryd.func8, Tryd.ntmps8
 go_upto_region 1 with fail
 obtain ⟨w1, hw1⟩ : ∃ w1, w1 = (w.alloc (.cells A 22)).alloc (.cells (b64 zD) 27) := ⟨_, rfl⟩
 have Z1 : Hid (Chg w w1 ∧ Ar w1 w.heap.size (byt e) ∧ Ar w1 (w.heap.size + 1) (b64 zD)) := by
  have hnew0 := Ar.new w (byt e) 22
  have hnew1 := Ar.new (w.alloc (.cells (byt e) 22)) (b64 zD) 27
  rw [World.size_alloc] at hnew1
  rw [hw1, HA.out]
  exact ⟨(((Chg.refl w).alloc _).alloc _), ((hnew0).alloc _), (hnew1)⟩
 rw [← hw1]
 clear hw1
 clear hsA hz HA
 go_cut [5, 6] from 5 to 16 (fun v5 v6 wc => ∃ b5 b6, v5 = .pointer (some ⟨b5, 0, none⟩) ∧ v6 = .pointer (some ⟨b6, 0, none⟩) ∧ w1.heap.size ≤ b5 ∧ w1.heap.size ≤ b6 ∧ b5 ≠ b6 ∧ Ar wc b5 (num (sK e)) ∧ Ar wc b6 (byt (sH e)) ∧ Chg w1 wc)
 case first =>
  refine regL 6 (fun j v wg => match j with
   | 0 => v = .agg (byt e)
   | 1 => v = .tuple #[.agg (num (sK e)), .agg (byt (sH e))]
   | 2 => v = .tuple #[.agg (num (sK e)), .agg (byt (sH e))]
   | 3 => v = .agg (num (sK e))
   | 4 => v = .agg (byt (sH e))
   | 5 => ∃ b, v = .pointer (some ⟨b, 0, none⟩) ∧ Ar wg b (num 0) ∧ w1.heap.size ≤ b
   | _ => True) (by decide) (by kernel_rfl) ?_ ?_ ?_
  ·intro j v u1 u2 h hc
   match j, h with
   | 0, h => exact h
   | 1, h => exact h
   | 2, h => exact h
   | 3, h => exact h
   | 4, h => exact h
   | 5, h => (obtain ⟨b, h1, h2, h3⟩ := h; exact ⟨b, h1, h2.chg hc, h3⟩)
   | _ + 6, h => exact trivial
  ·intro i o ac u hi ho hsz hf hg hc
   have hcs : i = 0 ∨ i = 1 ∨ i = 2 ∨ i = 3 ∨ i = 4 ∨ i = 5 := by omega
   rcases hcs with rfl | rfl | rfl | rfl | rfl | rfl
   ·injection ho with ho
    subst ho
    refine .inl ⟨wanted_none rfl, ?_⟩
    have e1 : ac.eval (.tmp 2) = .pointer (some ⟨w.heap.size, 0, none⟩) := hf 2 (by kernel_rfl)
    exact wp_load_mid 22 (.tmp 2) rfl _ _ e1 ((byt e).toList) _ (rangeAp (Z1.out.2.1.chg hc)) un37 rfl (infoY _) ⟨_, rfl, rfl, Chg.refl _⟩
   ·injection ho with ho
    subst ho
    refine .inl ⟨wanted_none rfl, ?_⟩
    have e1 : ac.eval (.tmp 13) = .agg (byt e) := hg 0 (by decide) (by decide)
    refine opG_go 23 Tryd.f23 #[.tmp 13] #[22] rfl Tryd.func23 (by kernel_rfl) (by kernel_rfl) (by simp [e1]) (Calls.mono (spreadE_any e _ (HT.out.chg (toS (Z1.out.1.trans hc)))) ?_)
    rintro r u2 ⟨rfl, hc2⟩
    exact ⟨_, rfl, rfl, hc2⟩
   ·injection ho with ho
    subst ho
    refine .inl ⟨wanted_none rfl, ?_⟩
    have e1 : ac.eval (.tmp 14) = .tuple #[.agg (num (sK e)), .agg (byt (sH e))] := hg 1 (by decide) (by decide)
    exact opG_val (by simp [execOp, e1]) rfl (Chg.refl _)
   ·injection ho with ho
    subst ho
    refine .inl ⟨wanted_none rfl, ?_⟩
    have e1 : ac.eval (.tmp 12) = .tuple #[.agg (num (sK e)), .agg (byt (sH e))] := hg 2 (by decide) (by decide)
    exact opG_val (by revert e1; generalize ac.eval = ρ; intro e1; simp [go_sem, execOp, e1]) rfl (Chg.refl _)
   ·injection ho with ho
    subst ho
    refine .inl ⟨wanted_none rfl, ?_⟩
    have e1 : ac.eval (.tmp 12) = .tuple #[.agg (num (sK e)), .agg (byt (sH e))] := hg 2 (by decide) (by decide)
    exact opG_val (by revert e1; generalize ac.eval = ρ; intro e1; simp [go_sem, execOp, e1]) rfl (Chg.refl _)
   ·injection ho with ho
    subst ho
    refine .inl ⟨wanted_none rfl, ?_⟩
    exact opG_val (v := .pointer (some ⟨u.heap.size, 0, none⟩)) (w' := u.alloc (.cells (num 0) 32)) (by generalize ac.eval = ρ; simp [go_sem, execOp, zero25.1]) ⟨_, rfl, Ar.new _ _ _, hc.size⟩ ((Chg.refl _).alloc _)
  ·intro u V hV hc
   have q13 : V 0 = .agg (byt e) := hV 0 (by decide)
   have q14 : V 1 = .tuple #[.agg (num (sK e)), .agg (byt (sH e))] := hV 1 (by decide)
   have q12 : V 2 = .tuple #[.agg (num (sK e)), .agg (byt (sH e))] := hV 2 (by decide)
   have q15 : V 3 = .agg (num (sK e)) := hV 3 (by decide)
   have q16 : V 4 = .agg (byt (sH e)) := hV 4 (by decide)
   obtain ⟨b5, q5, r5, s5⟩ := hV 5 (by decide)
   refine wpList_al rfl 22 (byt zD) rfl zero37.1 ?_
   have hlt := r5.lt
   have hne : b5 ≠ u.heap.size := by omega
   have hsz : w1.heap.size ≤ u.heap.size := hc.size
   have ra := r5.alloc (.cells (byt zD) 22)
   have rb := Ar.new u (byt zD) 22
   have hcu := hc.alloc (.cells (byt zD) 22)
   obtain ⟨b6, hb6⟩ : ∃ zz0, zz0 = u.heap.size := ⟨_, rfl⟩
   rw [← hb6] at hne hsz rb ⊢
   obtain ⟨uu, huu⟩ : ∃ zz0, zz0 = u.alloc (.cells (byt zD) 22) := ⟨_, rfl⟩
   rw [← huu] at ra rb hcu ⊢
   clear huu hb6
   refine wpList_store_mid rfl 32 (.tmp 5) (.tmp 15) rfl b5 0 (num (sK e)) (Eq.trans (by rfl) q5) (Eq.trans (by rfl) q15) (by rw [num_size]; exact thereN ra) (szN _) (num_one _) ?_
   rw [show uu.setCells b5 0 (num (sK e)).toList = uu.setRow b5 (num (sK e)) from setRowN ra _]
   have rb' := rb.rowOther hne.symm (num (sK e))
   refine wpList_store_mid rfl 22 (.tmp 6) (.tmp 16) rfl b6 0 (byt (sH e)) (by rfl) (Eq.trans (by rfl) q16) (by rw [byt_size]; exact thereY rb') (szY _) (oneY _) ?_
   rw [show (uu.setRow b5 (num (sK e))).setCells b6 0 (byt (sH e)).toList = (uu.setRow b5 (num (sK e))).setRow b6 (byt (sH e)) from setRowY rb' _]
   go_wp2_with fail
   go_meet
   exact ⟨b5, b6, q5, rfl, s5, hsz, hne, (ra.row _).rowOther hne _, rb'.row _, (hcu.setRow s5 _).setRow hsz _⟩
 obtain ⟨b5, b6, rfl, rfl, l5, l6, hne, ha5, ha6, hcc⟩ := hcut
 obtain ⟨w2, hw2⟩ : ∃ zz0, zz0 = wc := ⟨_, rfl⟩
 rw [← hw2] at hcc ha5 ha6 ⊢
 clear hw2
 have O5 : Hid (b5 ≠ b6 ∧ w.heap.size < b5 ∧ w.heap.size < b6 ∧ w.heap.size + 1 < b5 ∧ w.heap.size + 1 < b6) := ⟨hne, Nat.lt_of_lt_of_le (Z1.out.2.1.lt) l5, Nat.lt_of_lt_of_le (Z1.out.2.1.lt) l6, Nat.lt_of_lt_of_le (Z1.out.2.2.lt) l5, Nat.lt_of_lt_of_le (Z1.out.2.2.lt) l6⟩
 have Z2 : Hid (Chg w w2 ∧ Ar w2 w.heap.size (byt e) ∧ Ar w2 (w.heap.size + 1) (b64 zD) ∧ Ar w2 b5 (num (sK e)) ∧ Ar w2 b6 (byt (sH e))) := ⟨Z1.out.1.trans hcc, Z1.out.2.1.chg hcc, Z1.out.2.2.chg hcc, ha5, ha6⟩
 clear hcc hne ha5 ha6 l5 l6 Z1
 go_upto_region 2 with fail
 go_cut [7] from 7 to 20 (fun v7 wc => ∃ b7, v7 = .pointer (some ⟨b7, 0, none⟩) ∧ w2.heap.size ≤ b7 ∧ Ar wc b7 (byt (encB (MU PB (sK e).toNat))) ∧ Chg w2 wc)
 case first =>
  refine regA 5 (fun j v wg => match j with
   | 0 => v = .agg (q4 bX bY 1 (md 1 (bX * bY)))
   | 1 => v = .agg (num (sK e))
   | 2 => ∃ x y z t, v = .agg (q4 x y z t) ∧ PT x y z t (MU PB (sK e).toNat)
   | 3 => v = .agg (byt (encB (MU PB (sK e).toNat)))
   | 4 => ∃ b, v = .pointer (some ⟨b, 0, none⟩) ∧ Ar wg b (byt zD) ∧ w2.heap.size ≤ b
   | _ => True) (by kernel_rfl) (by kernel_rfl) (by kernel_rfl) (by kernel_rfl) (by kernel_rfl) ?_ ?_ ?_
  ·intro j v u1 u2 h hc
   match j, h with
   | 0, h => exact h
   | 1, h => exact h
   | 2, h => exact h
   | 3, h => exact h
   | 4, h => (obtain ⟨b, h1, h2, h3⟩ := h; exact ⟨b, h1, h2.chg hc, h3⟩)
   | _ + 5, h => exact trivial
  ·intro i o ac u hi ho hsz hf hg hc
   have hcs : i = 0 ∨ i = 1 ∨ i = 2 ∨ i = 3 ∨ i = 4 := by omega
   rcases hcs with rfl | rfl | rfl | rfl | rfl
   ·injection ho with ho
    subst ho
    refine .inl ⟨wanted_none rfl, ?_⟩
    refine opG_go 19 Tryd.f19 #[] #[] rfl Tryd.func19 (by kernel_rfl) (by kernel_rfl) (by simp []) (Calls.mono (baseE_any _) ?_)
    rintro r u2 ⟨rfl, hc2⟩
    exact ⟨_, rfl, rfl, hc2⟩
   ·injection ho with ho
    subst ho
    refine .inl ⟨wanted_none rfl, ?_⟩
    have e1 : ac.eval (.tmp 5) = .pointer (some ⟨b5, 0, none⟩) := hf 5 (by kernel_rfl)
    exact wp_load_mid 32 (.tmp 5) rfl _ _ e1 ((num (sK e)).toList) _ (rangeAp (Z2.out.2.2.2.1.chg hc)) undNum rfl (infoN _) ⟨_, rfl, rfl, Chg.refl _⟩
   ·injection ho with ho
    subst ho
    refine .inl ⟨wanted_none rfl, ?_⟩
    have e1 : ac.eval (.tmp 17) = .agg (q4 bX bY 1 (md 1 (bX * bY))) := hg 0 (by kernel_rfl) (by decide)
    have e2 : ac.eval (.tmp 18) = .agg (num (sK e)) := hg 1 (by kernel_rfl) (by decide)
    refine opG_go 20 Tryd.f20 #[.tmp 17, .tmp 18] #[44, 32] rfl Tryd.func20 (by kernel_rfl) (by kernel_rfl) (by simp [e1, e2]) (Calls.mono (timesE_any _ _ _ _ (sK e) PB PT_B (sK_N e) _) ?_)
    rintro r u2 ⟨x19, y19, z19, t19, rfl, m19, hc2⟩
    exact ⟨_, rfl, ⟨x19, y19, z19, t19, rfl, m19⟩, hc2⟩
   ·injection ho with ho
    subst ho
    refine .inl ⟨wanted_none rfl, ?_⟩
    obtain ⟨x19, y19, z19, t19, e10, m19⟩ := hg 2 (by kernel_rfl) (by decide)
    have e1 : ac.eval (.tmp 19) = .agg (q4 x19 y19 z19 t19) := e10
    refine opG_go 24 Tryd.f24 #[.tmp 19] #[44] rfl Tryd.func24 (by kernel_rfl) (by kernel_rfl) (by simp [e1]) (Calls.mono (bytesE_any _ _ _ _ _ m19 _) ?_)
    rintro r u2 ⟨rfl, hc2⟩
    exact ⟨_, rfl, rfl, hc2⟩
   ·injection ho with ho
    subst ho
    refine .inl ⟨wanted_none rfl, ?_⟩
    exact opG_val (v := .pointer (some ⟨u.heap.size, 0, none⟩)) (w' := u.alloc (.cells (byt zD) 22)) (by generalize ac.eval = ρ; simp [go_sem, execOp, zero37.1]) ⟨_, rfl, Ar.new _ _ _, hc.size⟩ ((Chg.refl _).alloc _)
  ·intro o u V ho hV hc
   injection ho with ho
   subst ho
   refine ⟨rfl, ?_⟩
   have q17 : V 0 = .agg (q4 bX bY 1 (md 1 (bX * bY))) := hV 0 (by decide)
   have q18 : V 1 = .agg (num (sK e)) := hV 1 (by decide)
   obtain ⟨x19, y19, z19, t19, q19, m19⟩ := hV 2 (by decide)
   have q20 : V 3 = .agg (byt (encB (MU PB (sK e).toNat))) := hV 3 (by decide)
   obtain ⟨b7, q7, r7, s7⟩ := hV 4 (by decide)
   refine wp_store_mid 22 (.tmp 7) (.tmp 20) rfl b7 0 (byt (encB (MU PB (sK e).toNat))) (Eq.trans (by rfl) q7) (Eq.trans (by rfl) q20) (by rw [byt_size]; exact thereY r7) (szY _) (oneY _) ?_
   rw [show u.setCells b7 0 (byt (encB (MU PB (sK e).toNat))).toList = u.setRow b7 (byt (encB (MU PB (sK e).toNat))) from setRowY r7 _]
   go_wp2_with fail
   go_meet
   exact ⟨b7, q7, s7, r7.row _, hc.setRow s7 _⟩
 obtain ⟨b7, rfl, l7, ha7, hcc⟩ := hcut
 obtain ⟨w3, hw3⟩ : ∃ zz0, zz0 = wc := ⟨_, rfl⟩
 rw [← hw3] at hcc ha7 ⊢
 clear hw3
 have O7 : Hid (w.heap.size < b7 ∧ w.heap.size + 1 < b7 ∧ b5 < b7 ∧ b6 < b7) := ⟨Nat.lt_of_lt_of_le (Z2.out.2.1.lt) l7, Nat.lt_of_lt_of_le (Z2.out.2.2.1.lt) l7, Nat.lt_of_lt_of_le (Z2.out.2.2.2.1.lt) l7, Nat.lt_of_lt_of_le (Z2.out.2.2.2.2.lt) l7⟩
 have Z3 : Hid (Chg w w3 ∧ Ar w3 w.heap.size (byt e) ∧ Ar w3 (w.heap.size + 1) (b64 zD) ∧ Ar w3 b5 (num (sK e)) ∧ Ar w3 b6 (byt (sH e)) ∧ Ar w3 b7 (byt (encB (MU PB (sK e).toNat)))) := ⟨Z2.out.1.trans hcc, Z2.out.2.1.chg hcc, Z2.out.2.2.1.chg hcc, Z2.out.2.2.2.1.chg hcc, Z2.out.2.2.2.2.chg hcc, ha7⟩
 clear hcc ha7 l7 Z2
 go_upto_region 3 with fail
 go_cut [8] from 8 to 24 (fun v8 wc => ∃ b8, v8 = .pointer (some ⟨b8, 0, none⟩) ∧ w3.heap.size ≤ b8 ∧ Ar wc b8 (num (rN e xs)) ∧ Chg w3 wc)
 case first =>
  refine regS 5 (fun j v wg => match j with
   | 0 => v = .slice (some ⟨b6, 0, none⟩) 32 32
   | 1 => v = .slice p n cap
   | 2 => ∃ b, v = .slice (some ⟨b, 0, none⟩) 2 2 ∧ Sha.Pt wg (.slice (some ⟨b, 0, none⟩) 2 2) [ls 32 (sH e), xs]
   | 3 => v = .agg (num (rN e xs))
   | 4 => ∃ b, v = .pointer (some ⟨b, 0, none⟩) ∧ Ar wg b (num 0) ∧ w3.heap.size ≤ b
   | _ => True) (by kernel_rfl) (by kernel_rfl) ?_ ?_ ?_
  ·intro j v u1 u2 h hc
   match j, h with
   | 0, h => exact h
   | 1, h => exact h
   | 2, h => (obtain ⟨b, h1, h2⟩ := h; exact ⟨b, h1, h2.chg (toS hc)⟩)
   | 3, h => exact h
   | 4, h => (obtain ⟨b, h1, h2, h3⟩ := h; exact ⟨b, h1, h2.chg hc, h3⟩)
   | _ + 5, h => exact trivial
  ·intro i o ac u hi ho hsz hf hg hc
   have hcs : i = 0 ∨ i = 1 ∨ i = 2 ∨ i = 3 ∨ i = 4 := by omega
   rcases hcs with rfl | rfl | rfl | rfl | rfl
   ·injection ho with ho
    subst ho
    refine .inl ⟨wanted_none rfl, ?_⟩
    have e1 : ac.eval (.tmp 6) = .pointer (some ⟨b6, 0, none⟩) := hf 6 (by kernel_rfl)
    exact opG_val (by simp [execOp, e1, slY]) rfl (Chg.refl _)
   ·injection ho with ho
    subst ho
    refine .inl ⟨wanted_none rfl, ?_⟩
    have e1 : ac.eval (.tmp 1) = .slice p n cap := hf 1 (by kernel_rfl)
    exact opG_val (by simp [execOp, e1]) rfl (Chg.refl _)
   ·injection ho with ho
    subst ho
    refine .inl ⟨wanted_none rfl, ?_⟩
    have e1 : ac.eval (.tmp 21) = .slice (some ⟨b6, 0, none⟩) 32 32 := hg 0 (by decide) (by decide)
    have e2 : ac.eval (.tmp 22) = .slice p n cap := hg 1 (by decide) (by decide)
    exact opG_bs2 (.tmp 21) (.tmp 22) rfl e1 e2 ⟨_, _, _, rfl⟩ ⟨_, _, _, rfl⟩ ⟨_, rfl, Sha.Pt.made2 (Sha.Chg.refl _) (SlA_0 (Z3.out.2.2.2.2.1.chg hc)) (HX.out.chg (toS (Z3.out.1.trans hc))) _⟩
   ·injection ho with ho
    subst ho
    refine .inl ⟨wanted_none rfl, ?_⟩
    obtain ⟨b23, e10, r23⟩ := hg 2 (by decide) (by decide)
    have e1 : ac.eval (.tmp 23) = .slice (some ⟨b23, 0, none⟩) 2 2 := e10
    refine opG_go 18 Tryd.f18 #[.tmp 23] #[63] rfl Tryd.func18 (by kernel_rfl) (by kernel_rfl) (by simp [e1]) (Calls.mono (reckonE_any _ _ _ (HT.out.chg (toS (Z3.out.1.trans hc))) r23) ?_)
    rintro r u2 ⟨rfl, hc2⟩
    exact ⟨_, rfl, rfl, hc2⟩
   ·injection ho with ho
    subst ho
    refine .inl ⟨wanted_none rfl, ?_⟩
    exact opG_val (v := .pointer (some ⟨u.heap.size, 0, none⟩)) (w' := u.alloc (.cells (num 0) 32)) (by generalize ac.eval = ρ; simp [go_sem, execOp, zero25.1]) ⟨_, rfl, Ar.new _ _ _, hc.size⟩ ((Chg.refl _).alloc _)
  ·intro o u V ho hV hc
   injection ho with ho
   subst ho
   refine ⟨rfl, ?_⟩
   have q21 : V 0 = .slice (some ⟨b6, 0, none⟩) 32 32 := hV 0 (by decide)
   have q22 : V 1 = .slice p n cap := hV 1 (by decide)
   obtain ⟨b23, q23, r23⟩ := hV 2 (by decide)
   have q24 : V 3 = .agg (num (rN e xs)) := hV 3 (by decide)
   obtain ⟨b8, q8, r8, s8⟩ := hV 4 (by decide)
   refine wp_store_mid 32 (.tmp 8) (.tmp 24) rfl b8 0 (num (rN e xs)) (Eq.trans (by rfl) q8) (Eq.trans (by rfl) q24) (by rw [num_size]; exact thereN r8) (szN _) (num_one _) ?_
   rw [show u.setCells b8 0 (num (rN e xs)).toList = u.setRow b8 (num (rN e xs)) from setRowN r8 _]
   go_wp2_with fail
   go_meet
   exact ⟨b8, q8, s8, r8.row _, hc.setRow s8 _⟩
 obtain ⟨b8, rfl, l8, ha8, hcc⟩ := hcut
 obtain ⟨w4, hw4⟩ : ∃ zz0, zz0 = wc := ⟨_, rfl⟩
 rw [← hw4] at hcc ha8 ⊢
 clear hw4
 have O8 : Hid (w.heap.size < b8 ∧ w.heap.size + 1 < b8 ∧ b5 < b8 ∧ b6 < b8 ∧ b7 < b8) := ⟨Nat.lt_of_lt_of_le (Z3.out.2.1.lt) l8, Nat.lt_of_lt_of_le (Z3.out.2.2.1.lt) l8, Nat.lt_of_lt_of_le (Z3.out.2.2.2.1.lt) l8, Nat.lt_of_lt_of_le (Z3.out.2.2.2.2.1.lt) l8, Nat.lt_of_lt_of_le (Z3.out.2.2.2.2.2.lt) l8⟩
 have Z4 : Hid (Chg w w4 ∧ Ar w4 w.heap.size (byt e) ∧ Ar w4 (w.heap.size + 1) (b64 zD) ∧ Ar w4 b5 (num (sK e)) ∧ Ar w4 b6 (byt (sH e)) ∧ Ar w4 b7 (byt (encB (MU PB (sK e).toNat))) ∧ Ar w4 b8 (num (rN e xs))) := ⟨Z3.out.1.trans hcc, Z3.out.2.1.chg hcc, Z3.out.2.2.1.chg hcc, Z3.out.2.2.2.1.chg hcc, Z3.out.2.2.2.2.1.chg hcc, Z3.out.2.2.2.2.2.chg hcc, ha8⟩
 clear hcc ha8 l8 Z3
 go_upto_region 4 with fail
 go_cut [9] from 9 to 28 (fun v9 wc => ∃ b9, v9 = .pointer (some ⟨b9, 0, none⟩) ∧ w4.heap.size ≤ b9 ∧ Ar wc b9 (byt (encB (MU PB (rN e xs).toNat))) ∧ Chg w4 wc)
 case first =>
  refine regA 5 (fun j v wg => match j with
   | 0 => v = .agg (q4 bX bY 1 (md 1 (bX * bY)))
   | 1 => v = .agg (num (rN e xs))
   | 2 => ∃ x y z t, v = .agg (q4 x y z t) ∧ PT x y z t (MU PB (rN e xs).toNat)
   | 3 => v = .agg (byt (encB (MU PB (rN e xs).toNat)))
   | 4 => ∃ b, v = .pointer (some ⟨b, 0, none⟩) ∧ Ar wg b (byt zD) ∧ w4.heap.size ≤ b
   | _ => True) (by kernel_rfl) (by kernel_rfl) (by kernel_rfl) (by kernel_rfl) (by kernel_rfl) ?_ ?_ ?_
  ·intro j v u1 u2 h hc
   match j, h with
   | 0, h => exact h
   | 1, h => exact h
   | 2, h => exact h
   | 3, h => exact h
   | 4, h => (obtain ⟨b, h1, h2, h3⟩ := h; exact ⟨b, h1, h2.chg hc, h3⟩)
   | _ + 5, h => exact trivial
  ·intro i o ac u hi ho hsz hf hg hc
   have hcs : i = 0 ∨ i = 1 ∨ i = 2 ∨ i = 3 ∨ i = 4 := by omega
   rcases hcs with rfl | rfl | rfl | rfl | rfl
   ·injection ho with ho
    subst ho
    refine .inl ⟨wanted_none rfl, ?_⟩
    refine opG_go 19 Tryd.f19 #[] #[] rfl Tryd.func19 (by kernel_rfl) (by kernel_rfl) (by simp []) (Calls.mono (baseE_any _) ?_)
    rintro r u2 ⟨rfl, hc2⟩
    exact ⟨_, rfl, rfl, hc2⟩
   ·injection ho with ho
    subst ho
    refine .inl ⟨wanted_none rfl, ?_⟩
    have e1 : ac.eval (.tmp 8) = .pointer (some ⟨b8, 0, none⟩) := hf 8 (by kernel_rfl)
    exact wp_load_mid 32 (.tmp 8) rfl _ _ e1 ((num (rN e xs)).toList) _ (rangeAp (Z4.out.2.2.2.2.2.2.chg hc)) undNum rfl (infoN _) ⟨_, rfl, rfl, Chg.refl _⟩
   ·injection ho with ho
    subst ho
    refine .inl ⟨wanted_none rfl, ?_⟩
    have e1 : ac.eval (.tmp 25) = .agg (q4 bX bY 1 (md 1 (bX * bY))) := hg 0 (by kernel_rfl) (by decide)
    have e2 : ac.eval (.tmp 26) = .agg (num (rN e xs)) := hg 1 (by kernel_rfl) (by decide)
    refine opG_go 20 Tryd.f20 #[.tmp 25, .tmp 26] #[44, 32] rfl Tryd.func20 (by kernel_rfl) (by kernel_rfl) (by simp [e1, e2]) (Calls.mono (timesE_any _ _ _ _ (rN e xs) PB PT_B (rN_N e xs) _) ?_)
    rintro r u2 ⟨x27, y27, z27, t27, rfl, m27, hc2⟩
    exact ⟨_, rfl, ⟨x27, y27, z27, t27, rfl, m27⟩, hc2⟩
   ·injection ho with ho
    subst ho
    refine .inl ⟨wanted_none rfl, ?_⟩
    obtain ⟨x27, y27, z27, t27, e10, m27⟩ := hg 2 (by kernel_rfl) (by decide)
    have e1 : ac.eval (.tmp 27) = .agg (q4 x27 y27 z27 t27) := e10
    refine opG_go 24 Tryd.f24 #[.tmp 27] #[44] rfl Tryd.func24 (by kernel_rfl) (by kernel_rfl) (by simp [e1]) (Calls.mono (bytesE_any _ _ _ _ _ m27 _) ?_)
    rintro r u2 ⟨rfl, hc2⟩
    exact ⟨_, rfl, rfl, hc2⟩
   ·injection ho with ho
    subst ho
    refine .inl ⟨wanted_none rfl, ?_⟩
    exact opG_val (v := .pointer (some ⟨u.heap.size, 0, none⟩)) (w' := u.alloc (.cells (byt zD) 22)) (by generalize ac.eval = ρ; simp [go_sem, execOp, zero37.1]) ⟨_, rfl, Ar.new _ _ _, hc.size⟩ ((Chg.refl _).alloc _)
  ·intro o u V ho hV hc
   injection ho with ho
   subst ho
   refine ⟨rfl, ?_⟩
   have q25 : V 0 = .agg (q4 bX bY 1 (md 1 (bX * bY))) := hV 0 (by decide)
   have q26 : V 1 = .agg (num (rN e xs)) := hV 1 (by decide)
   obtain ⟨x27, y27, z27, t27, q27, m27⟩ := hV 2 (by decide)
   have q28 : V 3 = .agg (byt (encB (MU PB (rN e xs).toNat))) := hV 3 (by decide)
   obtain ⟨b9, q9, r9, s9⟩ := hV 4 (by decide)
   refine wp_store_mid 22 (.tmp 9) (.tmp 28) rfl b9 0 (byt (encB (MU PB (rN e xs).toNat))) (Eq.trans (by rfl) q9) (Eq.trans (by rfl) q28) (by rw [byt_size]; exact thereY r9) (szY _) (oneY _) ?_
   rw [show u.setCells b9 0 (byt (encB (MU PB (rN e xs).toNat))).toList = u.setRow b9 (byt (encB (MU PB (rN e xs).toNat))) from setRowY r9 _]
   go_wp2_with fail
   go_meet
   exact ⟨b9, q9, s9, r9.row _, hc.setRow s9 _⟩
 obtain ⟨b9, rfl, l9, ha9, hcc⟩ := hcut
 obtain ⟨w5, hw5⟩ : ∃ zz0, zz0 = wc := ⟨_, rfl⟩
 rw [← hw5] at hcc ha9 ⊢
 clear hw5
 have O9 : Hid (w.heap.size < b9 ∧ w.heap.size + 1 < b9 ∧ b5 < b9 ∧ b6 < b9 ∧ b7 < b9 ∧ b8 < b9) := ⟨Nat.lt_of_lt_of_le (Z4.out.2.1.lt) l9, Nat.lt_of_lt_of_le (Z4.out.2.2.1.lt) l9, Nat.lt_of_lt_of_le (Z4.out.2.2.2.1.lt) l9, Nat.lt_of_lt_of_le (Z4.out.2.2.2.2.1.lt) l9, Nat.lt_of_lt_of_le (Z4.out.2.2.2.2.2.1.lt) l9, Nat.lt_of_lt_of_le (Z4.out.2.2.2.2.2.2.lt) l9⟩
 have Z5 : Hid (Chg w w5 ∧ Ar w5 w.heap.size (byt e) ∧ Ar w5 (w.heap.size + 1) (b64 zD) ∧ Ar w5 b5 (num (sK e)) ∧ Ar w5 b6 (byt (sH e)) ∧ Ar w5 b7 (byt (encB (MU PB (sK e).toNat))) ∧ Ar w5 b8 (num (rN e xs)) ∧ Ar w5 b9 (byt (encB (MU PB (rN e xs).toNat)))) := ⟨Z4.out.1.trans hcc, Z4.out.2.1.chg hcc, Z4.out.2.2.1.chg hcc, Z4.out.2.2.2.1.chg hcc, Z4.out.2.2.2.2.1.chg hcc, Z4.out.2.2.2.2.2.1.chg hcc, Z4.out.2.2.2.2.2.2.chg hcc, ha9⟩
 clear hcc ha9 l9 Z4
 go_upto_region 5 with fail
 go_cut [10] from 10 to 33 (fun v10 wc => ∃ b10, v10 = .pointer (some ⟨b10, 0, none⟩) ∧ w5.heap.size ≤ b10 ∧ Ar wc b10 (num (kN (RB e xs) (pK e) xs)) ∧ Chg w5 wc)
 case first =>
  refine regA 6 (fun j v wg => match j with
   | 0 => v = .slice (some ⟨b9, 0, none⟩) 32 32
   | 1 => v = .slice (some ⟨b7, 0, none⟩) 32 32
   | 2 => v = .slice p n cap
   | 3 => ∃ b, v = .slice (some ⟨b, 0, none⟩) 3 3 ∧ Sha.Pt wg (.slice (some ⟨b, 0, none⟩) 3 3) [ls 32 (RB e xs), ls 32 (pK e), xs]
   | 4 => v = .agg (num (kN (RB e xs) (pK e) xs))
   | 5 => ∃ b, v = .pointer (some ⟨b, 0, none⟩) ∧ Ar wg b (num 0) ∧ w5.heap.size ≤ b
   | _ => True) (by kernel_rfl) (by kernel_rfl) (by kernel_rfl) (by kernel_rfl) (by kernel_rfl) ?_ ?_ ?_
  ·intro j v u1 u2 h hc
   match j, h with
   | 0, h => exact h
   | 1, h => exact h
   | 2, h => exact h
   | 3, h => (obtain ⟨b, h1, h2⟩ := h; exact ⟨b, h1, h2.chg (toS hc)⟩)
   | 4, h => exact h
   | 5, h => (obtain ⟨b, h1, h2, h3⟩ := h; exact ⟨b, h1, h2.chg hc, h3⟩)
   | _ + 6, h => exact trivial
  ·intro i o ac u hi ho hsz hf hg hc
   have hcs : i = 0 ∨ i = 1 ∨ i = 2 ∨ i = 3 ∨ i = 4 ∨ i = 5 := by omega
   rcases hcs with rfl | rfl | rfl | rfl | rfl | rfl
   ·injection ho with ho
    subst ho
    refine .inl ⟨wanted_none rfl, ?_⟩
    have e1 : ac.eval (.tmp 9) = .pointer (some ⟨b9, 0, none⟩) := hf 9 (by kernel_rfl)
    exact opG_val (by simp [execOp, e1, slY]) rfl (Chg.refl _)
   ·injection ho with ho
    subst ho
    refine .inl ⟨wanted_none rfl, ?_⟩
    have e1 : ac.eval (.tmp 7) = .pointer (some ⟨b7, 0, none⟩) := hf 7 (by kernel_rfl)
    exact opG_val (by simp [execOp, e1, slY]) rfl (Chg.refl _)
   ·injection ho with ho
    subst ho
    refine .inl ⟨wanted_none rfl, ?_⟩
    have e1 : ac.eval (.tmp 1) = .slice p n cap := hf 1 (by kernel_rfl)
    exact opG_val (by simp [execOp, e1]) rfl (Chg.refl _)
   ·injection ho with ho
    subst ho
    refine .inl ⟨wanted_none rfl, ?_⟩
    have e1 : ac.eval (.tmp 29) = .slice (some ⟨b9, 0, none⟩) 32 32 := hg 0 (by kernel_rfl) (by decide)
    have e2 : ac.eval (.tmp 30) = .slice (some ⟨b7, 0, none⟩) 32 32 := hg 1 (by kernel_rfl) (by decide)
    have e3 : ac.eval (.tmp 31) = .slice p n cap := hg 2 (by kernel_rfl) (by decide)
    exact opG_bs3 (.tmp 29) (.tmp 30) (.tmp 31) rfl e1 e2 e3 ⟨_, _, _, rfl⟩ ⟨_, _, _, rfl⟩ ⟨_, _, _, rfl⟩ ⟨_, rfl, Sha.Pt.made3 (Sha.Chg.refl _) (SlA_0 (Z5.out.2.2.2.2.2.2.2.chg hc)) (SlA_0 (Z5.out.2.2.2.2.2.1.chg hc)) (HX.out.chg (toS (Z5.out.1.trans hc))) _⟩
   ·injection ho with ho
    subst ho
    refine .inl ⟨wanted_none rfl, ?_⟩
    obtain ⟨b32, e10, r32⟩ := hg 3 (by kernel_rfl) (by decide)
    have e1 : ac.eval (.tmp 32) = .slice (some ⟨b32, 0, none⟩) 3 3 := e10
    refine opG_go 18 Tryd.f18 #[.tmp 32] #[63] rfl Tryd.func18 (by kernel_rfl) (by kernel_rfl) (by simp [e1]) (Calls.mono (reckonE_any _ _ _ (HT.out.chg (toS (Z5.out.1.trans hc))) r32) ?_)
    rintro r u2 ⟨rfl, hc2⟩
    exact ⟨_, rfl, rfl, hc2⟩
   ·injection ho with ho
    subst ho
    refine .inl ⟨wanted_none rfl, ?_⟩
    exact opG_val (v := .pointer (some ⟨u.heap.size, 0, none⟩)) (w' := u.alloc (.cells (num 0) 32)) (by generalize ac.eval = ρ; simp [go_sem, execOp, zero25.1]) ⟨_, rfl, Ar.new _ _ _, hc.size⟩ ((Chg.refl _).alloc _)
  ·intro o u V ho hV hc
   injection ho with ho
   subst ho
   refine ⟨rfl, ?_⟩
   have q29 : V 0 = .slice (some ⟨b9, 0, none⟩) 32 32 := hV 0 (by decide)
   have q30 : V 1 = .slice (some ⟨b7, 0, none⟩) 32 32 := hV 1 (by decide)
   have q31 : V 2 = .slice p n cap := hV 2 (by decide)
   obtain ⟨b32, q32, r32⟩ := hV 3 (by decide)
   have q33 : V 4 = .agg (num (kN (RB e xs) (pK e) xs)) := hV 4 (by decide)
   obtain ⟨b10, q10, r10, s10⟩ := hV 5 (by decide)
   refine wp_store_mid 32 (.tmp 10) (.tmp 33) rfl b10 0 (num (kN (RB e xs) (pK e) xs)) (Eq.trans (by rfl) q10) (Eq.trans (by rfl) q33) (by rw [num_size]; exact thereN r10) (szN _) (num_one _) ?_
   rw [show u.setCells b10 0 (num (kN (RB e xs) (pK e) xs)).toList = u.setRow b10 (num (kN (RB e xs) (pK e) xs)) from setRowN r10 _]
   go_wp2_with fail
   go_meet
   exact ⟨b10, q10, s10, r10.row _, hc.setRow s10 _⟩
 obtain ⟨b10, rfl, l10, ha10, hcc⟩ := hcut
 obtain ⟨w6, hw6⟩ : ∃ zz0, zz0 = wc := ⟨_, rfl⟩
 rw [← hw6] at hcc ha10 ⊢
 clear hw6
 have O10 : Hid (w.heap.size < b10 ∧ w.heap.size + 1 < b10 ∧ b5 < b10 ∧ b6 < b10 ∧ b7 < b10 ∧ b8 < b10 ∧ b9 < b10) := ⟨Nat.lt_of_lt_of_le (Z5.out.2.1.lt) l10, Nat.lt_of_lt_of_le (Z5.out.2.2.1.lt) l10, Nat.lt_of_lt_of_le (Z5.out.2.2.2.1.lt) l10, Nat.lt_of_lt_of_le (Z5.out.2.2.2.2.1.lt) l10, Nat.lt_of_lt_of_le (Z5.out.2.2.2.2.2.1.lt) l10, Nat.lt_of_lt_of_le (Z5.out.2.2.2.2.2.2.1.lt) l10, Nat.lt_of_lt_of_le (Z5.out.2.2.2.2.2.2.2.lt) l10⟩
 have Z6 : Hid (Chg w w6 ∧ Ar w6 w.heap.size (byt e) ∧ Ar w6 (w.heap.size + 1) (b64 zD) ∧ Ar w6 b5 (num (sK e)) ∧ Ar w6 b6 (byt (sH e)) ∧ Ar w6 b7 (byt (pK e)) ∧ Ar w6 b8 (num (rN e xs)) ∧ Ar w6 b9 (byt (RB e xs)) ∧ Ar w6 b10 (num (kN (RB e xs) (pK e) xs))) := ⟨Z5.out.1.trans hcc, Z5.out.2.1.chg hcc, Z5.out.2.2.1.chg hcc, Z5.out.2.2.2.1.chg hcc, Z5.out.2.2.2.2.1.chg hcc, Z5.out.2.2.2.2.2.1.chg hcc, Z5.out.2.2.2.2.2.2.1.chg hcc, Z5.out.2.2.2.2.2.2.2.chg hcc, ha10⟩
 clear hcc ha10 l10 Z5
 go_upto_region 6 with fail
 go_cut [11] from 11 to 38 (fun v11 wc => ∃ b11, v11 = .pointer (some ⟨b11, 0, none⟩) ∧ w6.heap.size ≤ b11 ∧ Ar wc b11 (num (md 4 ((rN e xs) + (md 4 ((kN (RB e xs) (pK e) xs) * (sK e)))))) ∧ Chg w6 wc)
 case first =>
  refine regA 6 (fun j v wg => match j with
   | 0 => v = .agg (num (rN e xs))
   | 1 => v = .agg (num (kN (RB e xs) (pK e) xs))
   | 2 => v = .agg (num (sK e))
   | 3 => v = .agg (num (md 4 ((kN (RB e xs) (pK e) xs) * (sK e))))
   | 4 => v = .agg (num (md 4 ((rN e xs) + (md 4 ((kN (RB e xs) (pK e) xs) * (sK e))))))
   | 5 => ∃ b, v = .pointer (some ⟨b, 0, none⟩) ∧ Ar wg b (num 0) ∧ w6.heap.size ≤ b
   | _ => True) (by kernel_rfl) (by kernel_rfl) (by kernel_rfl) (by kernel_rfl) (by kernel_rfl) ?_ ?_ ?_
  ·intro j v u1 u2 h hc
   match j, h with
   | 0, h => exact h
   | 1, h => exact h
   | 2, h => exact h
   | 3, h => exact h
   | 4, h => exact h
   | 5, h => (obtain ⟨b, h1, h2, h3⟩ := h; exact ⟨b, h1, h2.chg hc, h3⟩)
   | _ + 6, h => exact trivial
  ·intro i o ac u hi ho hsz hf hg hc
   have hcs : i = 0 ∨ i = 1 ∨ i = 2 ∨ i = 3 ∨ i = 4 ∨ i = 5 := by omega
   rcases hcs with rfl | rfl | rfl | rfl | rfl | rfl
   ·injection ho with ho
    subst ho
    refine .inl ⟨wanted_none rfl, ?_⟩
    have e1 : ac.eval (.tmp 8) = .pointer (some ⟨b8, 0, none⟩) := hf 8 (by kernel_rfl)
    exact wp_load_mid 32 (.tmp 8) rfl _ _ e1 ((num (rN e xs)).toList) _ (rangeAp (Z6.out.2.2.2.2.2.2.1.chg hc)) undNum rfl (infoN _) ⟨_, rfl, rfl, Chg.refl _⟩
   ·injection ho with ho
    subst ho
    refine .inl ⟨wanted_none rfl, ?_⟩
    have e1 : ac.eval (.tmp 10) = .pointer (some ⟨b10, 0, none⟩) := hf 10 (by kernel_rfl)
    exact wp_load_mid 32 (.tmp 10) rfl _ _ e1 ((num (kN (RB e xs) (pK e) xs)).toList) _ (rangeAp (Z6.out.2.2.2.2.2.2.2.2.chg hc)) undNum rfl (infoN _) ⟨_, rfl, rfl, Chg.refl _⟩
   ·injection ho with ho
    subst ho
    refine .inl ⟨wanted_none rfl, ?_⟩
    have e1 : ac.eval (.tmp 5) = .pointer (some ⟨b5, 0, none⟩) := hf 5 (by kernel_rfl)
    exact wp_load_mid 32 (.tmp 5) rfl _ _ e1 ((num (sK e)).toList) _ (rangeAp (Z6.out.2.2.2.1.chg hc)) undNum rfl (infoN _) ⟨_, rfl, rfl, Chg.refl _⟩
   ·injection ho with ho
    subst ho
    refine .inl ⟨wanted_none rfl, ?_⟩
    have e1 : ac.eval (.const (.int .i64 4)) = .int .i64 4 := rfl
    have e2 : ac.eval (.tmp 35) = .agg (num (kN (RB e xs) (pK e) xs)) := hg 1 (by kernel_rfl) (by decide)
    have e3 : ac.eval (.tmp 36) = .agg (num (sK e)) := hg 2 (by kernel_rfl) (by decide)
    refine opG_go 26 Tryd.f26 #[.const (.int .i64 4), .tmp 35, .tmp 36] #[37, 32, 32] rfl Tryd.func26 (by kernel_rfl) (by kernel_rfl) (by simp [e1, e2, e3]) (Calls.mono (mulM_any 4 (kN (RB e xs) (pK e) xs) (sK e) (kN_N _ _ _) (sK_N e) _) ?_)
    rintro r u2 ⟨rfl, hc2⟩
    exact ⟨_, rfl, rfl, hc2⟩
   ·injection ho with ho
    subst ho
    refine .inl ⟨wanted_none rfl, ?_⟩
    have e1 : ac.eval (.const (.int .i64 4)) = .int .i64 4 := rfl
    have e2 : ac.eval (.tmp 34) = .agg (num (rN e xs)) := hg 0 (by kernel_rfl) (by decide)
    have e3 : ac.eval (.tmp 37) = .agg (num (md 4 ((kN (RB e xs) (pK e) xs) * (sK e)))) := hg 3 (by kernel_rfl) (by decide)
    refine opG_go 25 Tryd.f25 #[.const (.int .i64 4), .tmp 34, .tmp 37] #[37, 32, 32] rfl Tryd.func25 (by kernel_rfl) (by kernel_rfl) (by simp [e1, e2, e3]) (Calls.mono (addM_any 4 (rN e xs) (md 4 ((kN (RB e xs) (pK e) xs) * (sK e))) (rN_N e xs) (md_N _ _) _) ?_)
    rintro r u2 ⟨rfl, hc2⟩
    exact ⟨_, rfl, rfl, hc2⟩
   ·injection ho with ho
    subst ho
    refine .inl ⟨wanted_none rfl, ?_⟩
    exact opG_val (v := .pointer (some ⟨u.heap.size, 0, none⟩)) (w' := u.alloc (.cells (num 0) 32)) (by generalize ac.eval = ρ; simp [go_sem, execOp, zero25.1]) ⟨_, rfl, Ar.new _ _ _, hc.size⟩ ((Chg.refl _).alloc _)
  ·intro o u V ho hV hc
   injection ho with ho
   subst ho
   refine ⟨rfl, ?_⟩
   have q34 : V 0 = .agg (num (rN e xs)) := hV 0 (by decide)
   have q35 : V 1 = .agg (num (kN (RB e xs) (pK e) xs)) := hV 1 (by decide)
   have q36 : V 2 = .agg (num (sK e)) := hV 2 (by decide)
   have q37 : V 3 = .agg (num (md 4 ((kN (RB e xs) (pK e) xs) * (sK e)))) := hV 3 (by decide)
   have q38 : V 4 = .agg (num (md 4 ((rN e xs) + (md 4 ((kN (RB e xs) (pK e) xs) * (sK e)))))) := hV 4 (by decide)
   obtain ⟨b11, q11, r11, s11⟩ := hV 5 (by decide)
   refine wp_store_mid 32 (.tmp 11) (.tmp 38) rfl b11 0 (num (md 4 ((rN e xs) + (md 4 ((kN (RB e xs) (pK e) xs) * (sK e)))))) (Eq.trans (by rfl) q11) (Eq.trans (by rfl) q38) (by rw [num_size]; exact thereN r11) (szN _) (num_one _) ?_
   rw [show u.setCells b11 0 (num (md 4 ((rN e xs) + (md 4 ((kN (RB e xs) (pK e) xs) * (sK e)))))).toList = u.setRow b11 (num (md 4 ((rN e xs) + (md 4 ((kN (RB e xs) (pK e) xs) * (sK e)))))) from setRowN r11 _]
   go_wp2_with fail
   go_meet
   exact ⟨b11, q11, s11, r11.row _, hc.setRow s11 _⟩
 obtain ⟨b11, rfl, l11, ha11, hcc⟩ := hcut
 obtain ⟨w7, hw7⟩ : ∃ zz0, zz0 = wc := ⟨_, rfl⟩
 rw [← hw7] at hcc ha11 ⊢
 clear hw7
 have O11 : Hid (w.heap.size < b11 ∧ w.heap.size + 1 < b11 ∧ b5 < b11 ∧ b6 < b11 ∧ b7 < b11 ∧ b8 < b11 ∧ b9 < b11 ∧ b10 < b11) := ⟨Nat.lt_of_lt_of_le (Z6.out.2.1.lt) l11, Nat.lt_of_lt_of_le (Z6.out.2.2.1.lt) l11, Nat.lt_of_lt_of_le (Z6.out.2.2.2.1.lt) l11, Nat.lt_of_lt_of_le (Z6.out.2.2.2.2.1.lt) l11, Nat.lt_of_lt_of_le (Z6.out.2.2.2.2.2.1.lt) l11, Nat.lt_of_lt_of_le (Z6.out.2.2.2.2.2.2.1.lt) l11, Nat.lt_of_lt_of_le (Z6.out.2.2.2.2.2.2.2.1.lt) l11, Nat.lt_of_lt_of_le (Z6.out.2.2.2.2.2.2.2.2.lt) l11⟩
 have Z7 : Hid (Chg w w7 ∧ Ar w7 w.heap.size (byt e) ∧ Ar w7 (w.heap.size + 1) (b64 zD) ∧ Ar w7 b5 (num (sK e)) ∧ Ar w7 b6 (byt (sH e)) ∧ Ar w7 b7 (byt (pK e)) ∧ Ar w7 b8 (num (rN e xs)) ∧ Ar w7 b9 (byt (RB e xs)) ∧ Ar w7 b10 (num (kN (RB e xs) (pK e) xs)) ∧ Ar w7 b11 (num (md 4 ((rN e xs) + (md 4 ((kN (RB e xs) (pK e) xs) * (sK e))))))) := ⟨Z6.out.1.trans hcc, Z6.out.2.1.chg hcc, Z6.out.2.2.1.chg hcc, Z6.out.2.2.2.1.chg hcc, Z6.out.2.2.2.2.1.chg hcc, Z6.out.2.2.2.2.2.1.chg hcc, Z6.out.2.2.2.2.2.2.1.chg hcc, Z6.out.2.2.2.2.2.2.2.1.chg hcc, Z6.out.2.2.2.2.2.2.2.2.chg hcc, ha11⟩
 clear hcc ha11 l11 Z6
 go_upto_region 7 with fail
 go_cut [] from 39 to 42 (fun wc => ∃ u, Chg w7 u ∧ wc = u.setRow (w.heap.size + 1) (b64 (sg e xs)))
 case first =>
  refine regA 4 (fun j v wg => match j with
   | 0 => v = .agg (byt (RB e xs))
   | 1 => v = .agg (num (SN e xs))
   | 2 => v = .agg (byt (dg 256 (SN e xs)))
   | 3 => v = .agg (b64 (sg e xs))
   | _ => True) (by kernel_rfl) (by kernel_rfl) (by kernel_rfl) (by kernel_rfl) (by kernel_rfl) ?_ ?_ ?_
  ·intro j v u1 u2 h hc
   match j, h with
   | 0, h => exact h
   | 1, h => exact h
   | 2, h => exact h
   | 3, h => exact h
   | _ + 4, h => exact trivial
  ·intro i o ac u hi ho hsz hf hg hc
   have hcs : i = 0 ∨ i = 1 ∨ i = 2 ∨ i = 3 := by omega
   rcases hcs with rfl | rfl | rfl | rfl
   ·injection ho with ho
    subst ho
    refine .inl ⟨wanted_none rfl, ?_⟩
    have e1 : ac.eval (.tmp 9) = .pointer (some ⟨b9, 0, none⟩) := hf 9 (by kernel_rfl)
    exact wp_load_mid 22 (.tmp 9) rfl _ _ e1 ((byt (RB e xs)).toList) _ (rangeAp (Z7.out.2.2.2.2.2.2.2.1.chg hc)) un37 rfl (infoY _) ⟨_, rfl, rfl, Chg.refl _⟩
   ·injection ho with ho
    subst ho
    refine .inl ⟨wanted_none rfl, ?_⟩
    have e1 : ac.eval (.tmp 11) = .pointer (some ⟨b11, 0, none⟩) := hf 11 (by kernel_rfl)
    exact wp_load_mid 32 (.tmp 11) rfl _ _ e1 ((num (SN e xs)).toList) _ (rangeAp (Z7.out.2.2.2.2.2.2.2.2.2.chg hc)) undNum rfl (infoN _) ⟨_, rfl, rfl, Chg.refl _⟩
   ·injection ho with ho
    subst ho
    refine .inl ⟨wanted_none rfl, ?_⟩
    have e1 : ac.eval (.tmp 40) = .agg (num (SN e xs)) := hg 1 (by kernel_rfl) (by decide)
    refine opG_go 28 Tryd.f28 #[.tmp 40] #[32] rfl Tryd.func28 (by kernel_rfl) (by kernel_rfl) (by simp [e1]) (Calls.mono (toLE_any (SN e xs) _) ?_)
    rintro r u2 ⟨rfl, hc2⟩
    exact ⟨_, rfl, rfl, hc2⟩
   ·injection ho with ho
    subst ho
    refine .inl ⟨wanted_none rfl, ?_⟩
    have e1 : ac.eval (.tmp 39) = .agg (byt (RB e xs)) := hg 0 (by kernel_rfl) (by decide)
    have e2 : ac.eval (.tmp 41) = .agg (byt (dg 256 (SN e xs))) := hg 2 (by kernel_rfl) (by decide)
    refine opG_go 27 Tryd.f27 #[.tmp 39, .tmp 41] #[22, 22] rfl Tryd.func27 (by kernel_rfl) (by kernel_rfl) (by simp [e1, e2]) (Calls.mono (joinE_any (RB e xs) (dg 256 (SN e xs)) _) ?_)
    rintro r u2 ⟨rfl, hc2⟩
    exact ⟨_, rfl, rfl, hc2⟩
  ·intro o u V ho hV hc
   injection ho with ho
   subst ho
   refine ⟨rfl, ?_⟩
   have q39 : V 0 = .agg (byt (RB e xs)) := hV 0 (by decide)
   have q40 : V 1 = .agg (num (SN e xs)) := hV 1 (by decide)
   have q41 : V 2 = .agg (byt (dg 256 (SN e xs))) := hV 2 (by decide)
   have q42 : V 3 = .agg (b64 (sg e xs)) := hV 3 (by decide)
   have hres := Z7.out.2.2.1.chg hc
   refine wp_store_mid 27 (.tmp 4) (.tmp 42) rfl (w.heap.size + 1) 0 (b64 (sg e xs)) (by rfl) (Eq.trans (by rfl) q42) (by rw [b64_size]; exact thereB hres) (szB _) (oneB _) ?_
   rw [show u.setCells (w.heap.size + 1) 0 (b64 (sg e xs)).toList = u.setRow (w.heap.size + 1) (b64 (sg e xs)) from setRowB hres _]
   go_wp2_with fail
   go_meet
   exact ⟨u, hc, rfl⟩
 obtain ⟨u, hcc, rfl⟩ := hcut
 obtain ⟨w8, hw8⟩ : ∃ zz0, zz0 = u.setRow (w.heap.size + 1) (b64 (sg e xs)) := ⟨_, rfl⟩
 have Z8 : Hid (Chg w w8 ∧ Ar w8 w.heap.size (byt e) ∧ Ar w8 (w.heap.size + 1) (b64 (sg e xs)) ∧ Ar w8 b5 (num (sK e)) ∧ Ar w8 b6 (byt (sH e)) ∧ Ar w8 b7 (byt (pK e)) ∧ Ar w8 b8 (num (rN e xs)) ∧ Ar w8 b9 (byt (RB e xs)) ∧ Ar w8 b10 (num (kN (RB e xs) (pK e) xs)) ∧ Ar w8 b11 (num (SN e xs))) := by
  have ordO5 := O5.out
  have ordO7 := O7.out
  have ordO8 := O8.out
  have ordO9 := O9.out
  have ordO10 := O10.out
  have ordO11 := O11.out
  rw [hw8]
  exact ⟨(Z7.out.1.trans hcc).setRow (by omega) _, (Z7.out.2.1.chg hcc).rowOther (by omega) _, (Z7.out.2.2.1.chg hcc).row _, (Z7.out.2.2.2.1.chg hcc).rowOther (by omega) _, (Z7.out.2.2.2.2.1.chg hcc).rowOther (by omega) _, (Z7.out.2.2.2.2.2.1.chg hcc).rowOther (by omega) _, (Z7.out.2.2.2.2.2.2.1.chg hcc).rowOther (by omega) _, (Z7.out.2.2.2.2.2.2.2.1.chg hcc).rowOther (by omega) _, (Z7.out.2.2.2.2.2.2.2.2.1.chg hcc).rowOther (by omega) _, (Z7.out.2.2.2.2.2.2.2.2.2.chg hcc).rowOther (by omega) _⟩
 rw [← hw8]
 clear hw8 hcc Z7 u
 go_wp2_with fail
 exact bp_B Tryd.results8 rfl rfl Z8.out.2.2.1 ⟨rfl, Z8.out.1⟩
end Go.Proofs.YtjfidbifjagnpaaDoor
