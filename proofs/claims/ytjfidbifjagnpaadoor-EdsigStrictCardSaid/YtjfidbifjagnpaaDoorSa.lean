/-
  Whether two points are the same: the program, the document.
-/
import Derived.Test.YtjfidbifjagnpaaDoorDe
namespace Go.Proofs.YtjfidbifjagnpaaDoor
open Go.RowKit
set_option linter.unusedVariables false
set_option maxRecDepth 100000
theorem md_iff {a b : Int} : md 1 a = md 1 b ↔ fz a = fz b := by
 constructor
 ·intro h; rw [← fz_md a, ← fz_md b, h]
 ·intro h; rw [md_fz h, md_fz (a := fz b) rfl]
theorem op_asg {o : Oper} {a : Act} {w : World} {K : Act → World → Prop} {Q : Exit → Act → World → Prop} (x : Operand) (v : Value) (ho : o.op = .assign x) (hx : a.eval x = v) (hK : K (a.put o.dst v) w) : o.wp Tryd.prog a w K Q := by
 refine op_val1 (v := v) ?_ hK
 simp [execOp, ho, hx]
theorem same_dec {x y z x' y' z' : Int} {P Q : Fin pp × Fin pp} (h1 : R3 (fz x) (fz y) (fz z) P) (h2 : R3 (fz x') (fz y') (fz z') Q) : (decide (md 1 (x * z') = md 1 (x' * z)) && decide (md 1 (y * z') = md 1 (y' * z))) = decide (P = Q) := by
 have k := same_cross eF h1 h2
 rw [Bool.eq_iff_iff, Bool.and_eq_true, decide_eq_true_eq, decide_eq_true_eq, decide_eq_true_eq, md_iff, md_iff, fz_mul, fz_mul, fz_mul, fz_mul]
 exact k
set_option maxHeartbeats 16000000 in
theorem sameE_any (x y z t x' y' z' t' : Int) (P Q : Fin pp × Fin pp) (h1 : PT x y z t P) (h2 : PT x' y' z' t' Q) (w : World) : Calls Tryd.prog 21 #[.agg (q4 x y z t), .agg (q4 x' y' z' t')] w fun r w' => r = .returned (.bool (decide (P = Q))) ∧ Chg w w' := by
 have H1 : Hid (PT x y z t P) := h1
 have H2 : Hid (PT x' y' z' t' Q) := h2
 have HS := same_dec h1.r.r3 h2.r.r3
 have hsA := q4_size x y z t
 have hsB := q4_size x' y' z' t'
 obtain ⟨A, hA⟩ : ∃ A, A = q4 x y z t := ⟨_, rfl⟩
 obtain ⟨B, hB⟩ : ∃ B, B = q4 x' y' z' t' := ⟨_, rfl⟩
 have HA : Hid (A = q4 x y z t) := hA
 have HB : Hid (B = q4 x' y' z' t') := hB
 rw [← hA] at hsA ⊢
 rw [← hB] at hsB ⊢
 obtain ⟨bs, hbs⟩ : ∃ zz0, zz0 = decide (P = Q) := ⟨_, rfl⟩
 rw [← hbs] at HS ⊢
 obtain ⟨c1, hc1⟩ : ∃ zz0, zz0 = decide (md 1 (x * z') = md 1 (x' * z)) := ⟨_, rfl⟩
 obtain ⟨c2, hc2⟩ : ∃ zz0, zz0 = decide (md 1 (y * z') = md 1 (y' * z)) := ⟨_, rfl⟩
 rw [← hc1, ← hc2] at HS
 have HC : Hid (decide (md 1 (x * z') = md 1 (x' * z)) = c1 ∧ decide (md 1 (y * z') = md 1 (y' * z)) = c2 ∧ (c1 && c2) = bs) := ⟨hc1.symm, hc2.symm, HS⟩
 clear hA hB h1 h2 HS hc1 hc2 hbs
 go_enter Tryd.func21, Tryd.ntmps21
 go_upto_region 1 with fail
 obtain ⟨w1, hw1⟩ : ∃ w1, w1 = (w.alloc (.cells A 44)).alloc (.cells B 44) := ⟨_, rfl⟩
 have Z1 : Hid (Chg w w1 ∧ Ar w1 w.heap.size (q4 x y z t) ∧ Ar w1 (w.heap.size + 1) (q4 x' y' z' t')) := by
  have hnew0 := Ar.new w (q4 x y z t) 44
  have hnew1 := Ar.new (w.alloc (.cells (q4 x y z t) 44)) (q4 x' y' z' t') 44
  rw [World.size_alloc] at hnew1
  rw [hw1, HA.out, HB.out]
  exact ⟨(((Chg.refl w).alloc _).alloc _), ((hnew0).alloc _), (hnew1)⟩
 rw [← hw1]
 clear hw1
 clear hsA hsB HA HB
 go_cut [4] from 4 to 28 (fun v4 wc => v4 = .bool bs ∧ Chg w1 wc)
 case first =>
  cases c1
  ·have hb : bs = false := by rw [← HC.out.2.2]; rfl
   refine regA 24 (fun j v wg => match j with
    | 0 => v = .pointer (some ⟨w.heap.size, 0, none⟩)
    | 1 => v = .agg (num x)
    | 2 => v = .pointer (some ⟨w.heap.size + 1, 8, none⟩)
    | 3 => v = .agg (num z')
    | 4 => v = .agg (num (md 1 (x * z')))
    | 5 => v = .pointer (some ⟨w.heap.size + 1, 0, none⟩)
    | 6 => v = .agg (num x')
    | 7 => v = .pointer (some ⟨w.heap.size, 8, none⟩)
    | 8 => v = .agg (num z)
    | 9 => v = .agg (num (md 1 (x' * z)))
    | 10 => v = .bool false
    | 11 => v = .bool false
    | 12 => v = undef
    | 13 => v = undef
    | 14 => v = undef
    | 15 => v = undef
    | 16 => v = undef
    | 17 => v = undef
    | 18 => v = undef
    | 19 => v = undef
    | 20 => v = undef
    | 21 => v = undef
    | 22 => v = undef
    | 23 => v = .bool false
    | _ => True) (by kernel_rfl) (by kernel_rfl) (by kernel_rfl) (by kernel_rfl) (by kernel_rfl) ?_ ?_ ?_
   ·intro j v u1 u2 h hc
    match j, h with
    | 0, h => exact h
    | 1, h => exact h
    | 2, h => exact h
    | 3, h => exact h
    | 4, h => exact h
    | 5, h => exact h
    | 6, h => exact h
    | 7, h => exact h
    | 8, h => exact h
    | 9, h => exact h
    | 10, h => exact h
    | 11, h => exact h
    | 12, h => exact h
    | 13, h => exact h
    | 14, h => exact h
    | 15, h => exact h
    | 16, h => exact h
    | 17, h => exact h
    | 18, h => exact h
    | 19, h => exact h
    | 20, h => exact h
    | 21, h => exact h
    | 22, h => exact h
    | 23, h => exact h
    | _ + 24, h => exact trivial
   ·intro i o ac u hi ho hsz hf hg hc
    have hcs : i = 0 ∨ i = 1 ∨ i = 2 ∨ i = 3 ∨ i = 4 ∨ i = 5 ∨ i = 6 ∨ i = 7 ∨ i = 8 ∨ i = 9 ∨ i = 10 ∨ i = 11 ∨ i = 12 ∨ i = 13 ∨ i = 14 ∨ i = 15 ∨ i = 16 ∨ i = 17 ∨ i = 18 ∨ i = 19 ∨ i = 20 ∨ i = 21 ∨ i = 22 ∨ i = 23 := by omega
    rcases hcs with rfl | rfl | rfl | rfl | rfl | rfl | rfl | rfl | rfl | rfl | rfl | rfl | rfl | rfl | rfl | rfl | rfl | rfl | rfl | rfl | rfl | rfl | rfl | rfl
    ·injection ho with ho
     subst ho
     refine .inl ⟨wanted_none rfl, ?_⟩
     have e1 : ac.eval (.tmp 2) = .pointer (some ⟨w.heap.size, 0, none⟩) := hf 2 (by kernel_rfl)
     exact opG_val (by revert e1; generalize ac.eval = ρ; intro e1; simp [go_sem, execOp, e1]) rfl (Chg.refl _)
    ·injection ho with ho
     subst ho
     refine .inl ⟨wanted_none rfl, ?_⟩
     have e1 : ac.eval (.tmp 5) = .pointer (some ⟨w.heap.size, 0, none⟩) := hg 0 (by kernel_rfl) (by decide)
     exact wp_load_mid 32 (.tmp 5) rfl _ _ e1 ((num x).toList) _ (rangeq4F0 (Z1.out.2.1.chg hc)) undNum rfl (infoN _) ⟨_, rfl, rfl, Chg.refl _⟩
    ·injection ho with ho
     subst ho
     refine .inl ⟨wanted_none rfl, ?_⟩
     have e1 : ac.eval (.tmp 3) = .pointer (some ⟨w.heap.size + 1, 0, none⟩) := hf 3 (by kernel_rfl)
     exact opG_val (by revert e1; generalize ac.eval = ρ; intro e1; simp [go_sem, execOp, e1]) rfl (Chg.refl _)
    ·injection ho with ho
     subst ho
     refine .inl ⟨wanted_none rfl, ?_⟩
     have e1 : ac.eval (.tmp 7) = .pointer (some ⟨w.heap.size + 1, 8, none⟩) := hg 2 (by kernel_rfl) (by decide)
     exact wp_load_mid 32 (.tmp 7) rfl _ _ e1 ((num z').toList) _ (rangeq4F2 (Z1.out.2.2.chg hc)) undNum rfl (infoN _) ⟨_, rfl, rfl, Chg.refl _⟩
    ·injection ho with ho
     subst ho
     refine .inl ⟨wanted_none rfl, ?_⟩
     have e1 : ac.eval (.tmp 6) = .agg (num x) := hg 1 (by kernel_rfl) (by decide)
     have e2 : ac.eval (.tmp 8) = .agg (num z') := hg 3 (by kernel_rfl) (by decide)
     refine opG_go 39 Tryd.f39 #[.tmp 6, .tmp 8] #[32, 32] rfl Tryd.func39 (by kernel_rfl) (by kernel_rfl) (by simp [e1, e2]) (Calls.mono (mulE_any x z' (H1.out.nx) (H2.out.nz) _) ?_)
     rintro r u2 ⟨rfl, hc2⟩
     exact ⟨_, rfl, rfl, hc2⟩
    ·injection ho with ho
     subst ho
     refine .inl ⟨wanted_none rfl, ?_⟩
     have e1 : ac.eval (.tmp 3) = .pointer (some ⟨w.heap.size + 1, 0, none⟩) := hf 3 (by kernel_rfl)
     exact opG_val (by revert e1; generalize ac.eval = ρ; intro e1; simp [go_sem, execOp, e1]) rfl (Chg.refl _)
    ·injection ho with ho
     subst ho
     refine .inl ⟨wanted_none rfl, ?_⟩
     have e1 : ac.eval (.tmp 10) = .pointer (some ⟨w.heap.size + 1, 0, none⟩) := hg 5 (by kernel_rfl) (by decide)
     exact wp_load_mid 32 (.tmp 10) rfl _ _ e1 ((num x').toList) _ (rangeq4F0 (Z1.out.2.2.chg hc)) undNum rfl (infoN _) ⟨_, rfl, rfl, Chg.refl _⟩
    ·injection ho with ho
     subst ho
     refine .inl ⟨wanted_none rfl, ?_⟩
     have e1 : ac.eval (.tmp 2) = .pointer (some ⟨w.heap.size, 0, none⟩) := hf 2 (by kernel_rfl)
     exact opG_val (by revert e1; generalize ac.eval = ρ; intro e1; simp [go_sem, execOp, e1]) rfl (Chg.refl _)
    ·injection ho with ho
     subst ho
     refine .inl ⟨wanted_none rfl, ?_⟩
     have e1 : ac.eval (.tmp 12) = .pointer (some ⟨w.heap.size, 8, none⟩) := hg 7 (by kernel_rfl) (by decide)
     exact wp_load_mid 32 (.tmp 12) rfl _ _ e1 ((num z).toList) _ (rangeq4F2 (Z1.out.2.1.chg hc)) undNum rfl (infoN _) ⟨_, rfl, rfl, Chg.refl _⟩
    ·injection ho with ho
     subst ho
     refine .inl ⟨wanted_none rfl, ?_⟩
     have e1 : ac.eval (.tmp 11) = .agg (num x') := hg 6 (by kernel_rfl) (by decide)
     have e2 : ac.eval (.tmp 13) = .agg (num z) := hg 8 (by kernel_rfl) (by decide)
     refine opG_go 39 Tryd.f39 #[.tmp 11, .tmp 13] #[32, 32] rfl Tryd.func39 (by kernel_rfl) (by kernel_rfl) (by simp [e1, e2]) (Calls.mono (mulE_any x' z (H2.out.nx) (H1.out.nz) _) ?_)
     rintro r u2 ⟨rfl, hc2⟩
     exact ⟨_, rfl, rfl, hc2⟩
    ·injection ho with ho
     subst ho
     refine .inl ⟨wanted_none rfl, ?_⟩
     have e1 : ac.eval (.tmp 9) = .agg (num (md 1 (x * z'))) := hg 4 (by kernel_rfl) (by decide)
     have e2 : ac.eval (.tmp 14) = .agg (num (md 1 (x' * z))) := hg 9 (by kernel_rfl) (by decide)
     exact opG_val (by revert e1 e2; generalize ac.eval = ρ; intro e1 e2; simp [go_sem, execOp, e1, e2, run_eqNum (md_N _ _) (md_N _ _), HC.out.1]) rfl (Chg.refl _)
    ·injection ho with ho
     subst ho
     refine .inl ⟨wanted_none rfl, ?_⟩
     have e1 : ac.eval (.tmp 15) = .bool false := hg 10 (by kernel_rfl) (by decide)
     exact opG_val (by simp [execOp, e1]) rfl (Chg.refl _)
    ·injection ho with ho
     subst ho
     exact .inr ⟨wanted_not (T := _) (by kernel_rfl) hsz rfl (by decide : 11 < 24) rfl rfl (hg 11 (by kernel_rfl) (by decide)), rfl⟩
    ·injection ho with ho
     subst ho
     exact .inr ⟨wanted_not (T := _) (by kernel_rfl) hsz rfl (by decide : 11 < 24) rfl rfl (hg 11 (by kernel_rfl) (by decide)), rfl⟩
    ·injection ho with ho
     subst ho
     exact .inr ⟨wanted_not (T := _) (by kernel_rfl) hsz rfl (by decide : 11 < 24) rfl rfl (hg 11 (by kernel_rfl) (by decide)), rfl⟩
    ·injection ho with ho
     subst ho
     exact .inr ⟨wanted_not (T := _) (by kernel_rfl) hsz rfl (by decide : 11 < 24) rfl rfl (hg 11 (by kernel_rfl) (by decide)), rfl⟩
    ·injection ho with ho
     subst ho
     exact .inr ⟨wanted_not (T := _) (by kernel_rfl) hsz rfl (by decide : 11 < 24) rfl rfl (hg 11 (by kernel_rfl) (by decide)), rfl⟩
    ·injection ho with ho
     subst ho
     exact .inr ⟨wanted_not (T := _) (by kernel_rfl) hsz rfl (by decide : 11 < 24) rfl rfl (hg 11 (by kernel_rfl) (by decide)), rfl⟩
    ·injection ho with ho
     subst ho
     exact .inr ⟨wanted_not (T := _) (by kernel_rfl) hsz rfl (by decide : 11 < 24) rfl rfl (hg 11 (by kernel_rfl) (by decide)), rfl⟩
    ·injection ho with ho
     subst ho
     exact .inr ⟨wanted_not (T := _) (by kernel_rfl) hsz rfl (by decide : 11 < 24) rfl rfl (hg 11 (by kernel_rfl) (by decide)), rfl⟩
    ·injection ho with ho
     subst ho
     exact .inr ⟨wanted_not (T := _) (by kernel_rfl) hsz rfl (by decide : 11 < 24) rfl rfl (hg 11 (by kernel_rfl) (by decide)), rfl⟩
    ·injection ho with ho
     subst ho
     exact .inr ⟨wanted_not (T := _) (by kernel_rfl) hsz rfl (by decide : 11 < 24) rfl rfl (hg 11 (by kernel_rfl) (by decide)), rfl⟩
    ·injection ho with ho
     subst ho
     exact .inr ⟨wanted_not (T := _) (by kernel_rfl) hsz rfl (by decide : 11 < 24) rfl rfl (hg 11 (by kernel_rfl) (by decide)), rfl⟩
    ·injection ho with ho
     subst ho
     refine .inl ⟨wanted_none rfl, ?_⟩
     have e1 : ac.eval (.tmp 16) = .bool false := hg 11 (by kernel_rfl) (by decide)
     have e2 : ac.eval (.tmp 27) = undef := hg 22 (by kernel_rfl) (by decide)
     have e3 : ac.eval (.const (.bool false)) = .bool false := rfl
     exact opG_val (by revert e1 e2 e3; generalize ac.eval = ρ; intro e1 e2 e3; simp [go_sem, execOp, e1, e2, e3]) rfl (Chg.refl _)
   ·intro o u V ho hV hc
    injection ho with ho
    subst ho
    refine ⟨rfl, ?_⟩
    have q5 : V 0 = .pointer (some ⟨w.heap.size, 0, none⟩) := hV 0 (by decide)
    have q6 : V 1 = .agg (num x) := hV 1 (by decide)
    have q7 : V 2 = .pointer (some ⟨w.heap.size + 1, 8, none⟩) := hV 2 (by decide)
    have q8 : V 3 = .agg (num z') := hV 3 (by decide)
    have q9 : V 4 = .agg (num (md 1 (x * z'))) := hV 4 (by decide)
    have q10 : V 5 = .pointer (some ⟨w.heap.size + 1, 0, none⟩) := hV 5 (by decide)
    have q11 : V 6 = .agg (num x') := hV 6 (by decide)
    have q12 : V 7 = .pointer (some ⟨w.heap.size, 8, none⟩) := hV 7 (by decide)
    have q13 : V 8 = .agg (num z) := hV 8 (by decide)
    have q14 : V 9 = .agg (num (md 1 (x' * z))) := hV 9 (by decide)
    have q15 : V 10 = .bool false := hV 10 (by decide)
    have q16 : V 11 = .bool false := hV 11 (by decide)
    have q17 : V 12 = undef := hV 12 (by decide)
    have q18 : V 13 = undef := hV 13 (by decide)
    have q19 : V 14 = undef := hV 14 (by decide)
    have q20 : V 15 = undef := hV 15 (by decide)
    have q21 : V 16 = undef := hV 16 (by decide)
    have q22 : V 17 = undef := hV 17 (by decide)
    have q23 : V 18 = undef := hV 18 (by decide)
    have q24 : V 19 = undef := hV 19 (by decide)
    have q25 : V 20 = undef := hV 20 (by decide)
    have q26 : V 21 = undef := hV 21 (by decide)
    have q27 : V 22 = undef := hV 22 (by decide)
    have q28 : V 23 = .bool false := hV 23 (by decide)
    refine op_asg (.tmp 28) (.bool false) rfl (Eq.trans (by rfl) q28) ?_
    go_wp2_with fail
    go_meet
    exact ⟨by rw [hb], hc⟩
  ·have hb : bs = c2 := by rw [← HC.out.2.2]; rfl
   refine regA 24 (fun j v wg => match j with
    | 0 => v = .pointer (some ⟨w.heap.size, 0, none⟩)
    | 1 => v = .agg (num x)
    | 2 => v = .pointer (some ⟨w.heap.size + 1, 8, none⟩)
    | 3 => v = .agg (num z')
    | 4 => v = .agg (num (md 1 (x * z')))
    | 5 => v = .pointer (some ⟨w.heap.size + 1, 0, none⟩)
    | 6 => v = .agg (num x')
    | 7 => v = .pointer (some ⟨w.heap.size, 8, none⟩)
    | 8 => v = .agg (num z)
    | 9 => v = .agg (num (md 1 (x' * z)))
    | 10 => v = .bool true
    | 11 => v = .bool true
    | 12 => v = .pointer (some ⟨w.heap.size, 4, none⟩)
    | 13 => v = .agg (num y)
    | 14 => v = .pointer (some ⟨w.heap.size + 1, 8, none⟩)
    | 15 => v = .agg (num z')
    | 16 => v = .agg (num (md 1 (y * z')))
    | 17 => v = .pointer (some ⟨w.heap.size + 1, 4, none⟩)
    | 18 => v = .agg (num y')
    | 19 => v = .pointer (some ⟨w.heap.size, 8, none⟩)
    | 20 => v = .agg (num z)
    | 21 => v = .agg (num (md 1 (y' * z)))
    | 22 => v = .bool c2
    | 23 => v = .bool c2
    | _ => True) (by kernel_rfl) (by kernel_rfl) (by kernel_rfl) (by kernel_rfl) (by kernel_rfl) ?_ ?_ ?_
   ·intro j v u1 u2 h hc
    match j, h with
    | 0, h => exact h
    | 1, h => exact h
    | 2, h => exact h
    | 3, h => exact h
    | 4, h => exact h
    | 5, h => exact h
    | 6, h => exact h
    | 7, h => exact h
    | 8, h => exact h
    | 9, h => exact h
    | 10, h => exact h
    | 11, h => exact h
    | 12, h => exact h
    | 13, h => exact h
    | 14, h => exact h
    | 15, h => exact h
    | 16, h => exact h
    | 17, h => exact h
    | 18, h => exact h
    | 19, h => exact h
    | 20, h => exact h
    | 21, h => exact h
    | 22, h => exact h
    | 23, h => exact h
    | _ + 24, h => exact trivial
   ·intro i o ac u hi ho hsz hf hg hc
    have hcs : i = 0 ∨ i = 1 ∨ i = 2 ∨ i = 3 ∨ i = 4 ∨ i = 5 ∨ i = 6 ∨ i = 7 ∨ i = 8 ∨ i = 9 ∨ i = 10 ∨ i = 11 ∨ i = 12 ∨ i = 13 ∨ i = 14 ∨ i = 15 ∨ i = 16 ∨ i = 17 ∨ i = 18 ∨ i = 19 ∨ i = 20 ∨ i = 21 ∨ i = 22 ∨ i = 23 := by omega
    rcases hcs with rfl | rfl | rfl | rfl | rfl | rfl | rfl | rfl | rfl | rfl | rfl | rfl | rfl | rfl | rfl | rfl | rfl | rfl | rfl | rfl | rfl | rfl | rfl | rfl
    ·injection ho with ho
     subst ho
     refine .inl ⟨wanted_none rfl, ?_⟩
     have e1 : ac.eval (.tmp 2) = .pointer (some ⟨w.heap.size, 0, none⟩) := hf 2 (by kernel_rfl)
     exact opG_val (by revert e1; generalize ac.eval = ρ; intro e1; simp [go_sem, execOp, e1]) rfl (Chg.refl _)
    ·injection ho with ho
     subst ho
     refine .inl ⟨wanted_none rfl, ?_⟩
     have e1 : ac.eval (.tmp 5) = .pointer (some ⟨w.heap.size, 0, none⟩) := hg 0 (by kernel_rfl) (by decide)
     exact wp_load_mid 32 (.tmp 5) rfl _ _ e1 ((num x).toList) _ (rangeq4F0 (Z1.out.2.1.chg hc)) undNum rfl (infoN _) ⟨_, rfl, rfl, Chg.refl _⟩
    ·injection ho with ho
     subst ho
     refine .inl ⟨wanted_none rfl, ?_⟩
     have e1 : ac.eval (.tmp 3) = .pointer (some ⟨w.heap.size + 1, 0, none⟩) := hf 3 (by kernel_rfl)
     exact opG_val (by revert e1; generalize ac.eval = ρ; intro e1; simp [go_sem, execOp, e1]) rfl (Chg.refl _)
    ·injection ho with ho
     subst ho
     refine .inl ⟨wanted_none rfl, ?_⟩
     have e1 : ac.eval (.tmp 7) = .pointer (some ⟨w.heap.size + 1, 8, none⟩) := hg 2 (by kernel_rfl) (by decide)
     exact wp_load_mid 32 (.tmp 7) rfl _ _ e1 ((num z').toList) _ (rangeq4F2 (Z1.out.2.2.chg hc)) undNum rfl (infoN _) ⟨_, rfl, rfl, Chg.refl _⟩
    ·injection ho with ho
     subst ho
     refine .inl ⟨wanted_none rfl, ?_⟩
     have e1 : ac.eval (.tmp 6) = .agg (num x) := hg 1 (by kernel_rfl) (by decide)
     have e2 : ac.eval (.tmp 8) = .agg (num z') := hg 3 (by kernel_rfl) (by decide)
     refine opG_go 39 Tryd.f39 #[.tmp 6, .tmp 8] #[32, 32] rfl Tryd.func39 (by kernel_rfl) (by kernel_rfl) (by simp [e1, e2]) (Calls.mono (mulE_any x z' (H1.out.nx) (H2.out.nz) _) ?_)
     rintro r u2 ⟨rfl, hc2⟩
     exact ⟨_, rfl, rfl, hc2⟩
    ·injection ho with ho
     subst ho
     refine .inl ⟨wanted_none rfl, ?_⟩
     have e1 : ac.eval (.tmp 3) = .pointer (some ⟨w.heap.size + 1, 0, none⟩) := hf 3 (by kernel_rfl)
     exact opG_val (by revert e1; generalize ac.eval = ρ; intro e1; simp [go_sem, execOp, e1]) rfl (Chg.refl _)
    ·injection ho with ho
     subst ho
     refine .inl ⟨wanted_none rfl, ?_⟩
     have e1 : ac.eval (.tmp 10) = .pointer (some ⟨w.heap.size + 1, 0, none⟩) := hg 5 (by kernel_rfl) (by decide)
     exact wp_load_mid 32 (.tmp 10) rfl _ _ e1 ((num x').toList) _ (rangeq4F0 (Z1.out.2.2.chg hc)) undNum rfl (infoN _) ⟨_, rfl, rfl, Chg.refl _⟩
    ·injection ho with ho
     subst ho
     refine .inl ⟨wanted_none rfl, ?_⟩
     have e1 : ac.eval (.tmp 2) = .pointer (some ⟨w.heap.size, 0, none⟩) := hf 2 (by kernel_rfl)
     exact opG_val (by revert e1; generalize ac.eval = ρ; intro e1; simp [go_sem, execOp, e1]) rfl (Chg.refl _)
    ·injection ho with ho
     subst ho
     refine .inl ⟨wanted_none rfl, ?_⟩
     have e1 : ac.eval (.tmp 12) = .pointer (some ⟨w.heap.size, 8, none⟩) := hg 7 (by kernel_rfl) (by decide)
     exact wp_load_mid 32 (.tmp 12) rfl _ _ e1 ((num z).toList) _ (rangeq4F2 (Z1.out.2.1.chg hc)) undNum rfl (infoN _) ⟨_, rfl, rfl, Chg.refl _⟩
    ·injection ho with ho
     subst ho
     refine .inl ⟨wanted_none rfl, ?_⟩
     have e1 : ac.eval (.tmp 11) = .agg (num x') := hg 6 (by kernel_rfl) (by decide)
     have e2 : ac.eval (.tmp 13) = .agg (num z) := hg 8 (by kernel_rfl) (by decide)
     refine opG_go 39 Tryd.f39 #[.tmp 11, .tmp 13] #[32, 32] rfl Tryd.func39 (by kernel_rfl) (by kernel_rfl) (by simp [e1, e2]) (Calls.mono (mulE_any x' z (H2.out.nx) (H1.out.nz) _) ?_)
     rintro r u2 ⟨rfl, hc2⟩
     exact ⟨_, rfl, rfl, hc2⟩
    ·injection ho with ho
     subst ho
     refine .inl ⟨wanted_none rfl, ?_⟩
     have e1 : ac.eval (.tmp 9) = .agg (num (md 1 (x * z'))) := hg 4 (by kernel_rfl) (by decide)
     have e2 : ac.eval (.tmp 14) = .agg (num (md 1 (x' * z))) := hg 9 (by kernel_rfl) (by decide)
     exact opG_val (by revert e1 e2; generalize ac.eval = ρ; intro e1 e2; simp [go_sem, execOp, e1, e2, run_eqNum (md_N _ _) (md_N _ _), HC.out.1]) rfl (Chg.refl _)
    ·injection ho with ho
     subst ho
     refine .inl ⟨wanted_none rfl, ?_⟩
     have e1 : ac.eval (.tmp 15) = .bool true := hg 10 (by kernel_rfl) (by decide)
     exact opG_val (by simp [execOp, e1]) rfl (Chg.refl _)
    ·injection ho with ho
     subst ho
     refine .inl ⟨wanted_by (T := _) (by kernel_rfl) hsz rfl (by decide : 11 < 24) rfl (hg 11 (by kernel_rfl) (by decide)), ?_⟩
     have e1 : ac.eval (.tmp 2) = .pointer (some ⟨w.heap.size, 0, none⟩) := hf 2 (by kernel_rfl)
     exact opG_val (by revert e1; generalize ac.eval = ρ; intro e1; simp [go_sem, execOp, e1]) rfl (Chg.refl _)
    ·injection ho with ho
     subst ho
     refine .inl ⟨wanted_by (T := _) (by kernel_rfl) hsz rfl (by decide : 11 < 24) rfl (hg 11 (by kernel_rfl) (by decide)), ?_⟩
     have e1 : ac.eval (.tmp 17) = .pointer (some ⟨w.heap.size, 4, none⟩) := hg 12 (by kernel_rfl) (by decide)
     exact wp_load_mid 32 (.tmp 17) rfl _ _ e1 ((num y).toList) _ (rangeq4F1 (Z1.out.2.1.chg hc)) undNum rfl (infoN _) ⟨_, rfl, rfl, Chg.refl _⟩
    ·injection ho with ho
     subst ho
     refine .inl ⟨wanted_by (T := _) (by kernel_rfl) hsz rfl (by decide : 11 < 24) rfl (hg 11 (by kernel_rfl) (by decide)), ?_⟩
     have e1 : ac.eval (.tmp 3) = .pointer (some ⟨w.heap.size + 1, 0, none⟩) := hf 3 (by kernel_rfl)
     exact opG_val (by revert e1; generalize ac.eval = ρ; intro e1; simp [go_sem, execOp, e1]) rfl (Chg.refl _)
    ·injection ho with ho
     subst ho
     refine .inl ⟨wanted_by (T := _) (by kernel_rfl) hsz rfl (by decide : 11 < 24) rfl (hg 11 (by kernel_rfl) (by decide)), ?_⟩
     have e1 : ac.eval (.tmp 19) = .pointer (some ⟨w.heap.size + 1, 8, none⟩) := hg 14 (by kernel_rfl) (by decide)
     exact wp_load_mid 32 (.tmp 19) rfl _ _ e1 ((num z').toList) _ (rangeq4F2 (Z1.out.2.2.chg hc)) undNum rfl (infoN _) ⟨_, rfl, rfl, Chg.refl _⟩
    ·injection ho with ho
     subst ho
     refine .inl ⟨wanted_by (T := _) (by kernel_rfl) hsz rfl (by decide : 11 < 24) rfl (hg 11 (by kernel_rfl) (by decide)), ?_⟩
     have e1 : ac.eval (.tmp 18) = .agg (num y) := hg 13 (by kernel_rfl) (by decide)
     have e2 : ac.eval (.tmp 20) = .agg (num z') := hg 15 (by kernel_rfl) (by decide)
     refine opG_go 39 Tryd.f39 #[.tmp 18, .tmp 20] #[32, 32] rfl Tryd.func39 (by kernel_rfl) (by kernel_rfl) (by simp [e1, e2]) (Calls.mono (mulE_any y z' (H1.out.ny) (H2.out.nz) _) ?_)
     rintro r u2 ⟨rfl, hc2⟩
     exact ⟨_, rfl, rfl, hc2⟩
    ·injection ho with ho
     subst ho
     refine .inl ⟨wanted_by (T := _) (by kernel_rfl) hsz rfl (by decide : 11 < 24) rfl (hg 11 (by kernel_rfl) (by decide)), ?_⟩
     have e1 : ac.eval (.tmp 3) = .pointer (some ⟨w.heap.size + 1, 0, none⟩) := hf 3 (by kernel_rfl)
     exact opG_val (by revert e1; generalize ac.eval = ρ; intro e1; simp [go_sem, execOp, e1]) rfl (Chg.refl _)
    ·injection ho with ho
     subst ho
     refine .inl ⟨wanted_by (T := _) (by kernel_rfl) hsz rfl (by decide : 11 < 24) rfl (hg 11 (by kernel_rfl) (by decide)), ?_⟩
     have e1 : ac.eval (.tmp 22) = .pointer (some ⟨w.heap.size + 1, 4, none⟩) := hg 17 (by kernel_rfl) (by decide)
     exact wp_load_mid 32 (.tmp 22) rfl _ _ e1 ((num y').toList) _ (rangeq4F1 (Z1.out.2.2.chg hc)) undNum rfl (infoN _) ⟨_, rfl, rfl, Chg.refl _⟩
    ·injection ho with ho
     subst ho
     refine .inl ⟨wanted_by (T := _) (by kernel_rfl) hsz rfl (by decide : 11 < 24) rfl (hg 11 (by kernel_rfl) (by decide)), ?_⟩
     have e1 : ac.eval (.tmp 2) = .pointer (some ⟨w.heap.size, 0, none⟩) := hf 2 (by kernel_rfl)
     exact opG_val (by revert e1; generalize ac.eval = ρ; intro e1; simp [go_sem, execOp, e1]) rfl (Chg.refl _)
    ·injection ho with ho
     subst ho
     refine .inl ⟨wanted_by (T := _) (by kernel_rfl) hsz rfl (by decide : 11 < 24) rfl (hg 11 (by kernel_rfl) (by decide)), ?_⟩
     have e1 : ac.eval (.tmp 24) = .pointer (some ⟨w.heap.size, 8, none⟩) := hg 19 (by kernel_rfl) (by decide)
     exact wp_load_mid 32 (.tmp 24) rfl _ _ e1 ((num z).toList) _ (rangeq4F2 (Z1.out.2.1.chg hc)) undNum rfl (infoN _) ⟨_, rfl, rfl, Chg.refl _⟩
    ·injection ho with ho
     subst ho
     refine .inl ⟨wanted_by (T := _) (by kernel_rfl) hsz rfl (by decide : 11 < 24) rfl (hg 11 (by kernel_rfl) (by decide)), ?_⟩
     have e1 : ac.eval (.tmp 23) = .agg (num y') := hg 18 (by kernel_rfl) (by decide)
     have e2 : ac.eval (.tmp 25) = .agg (num z) := hg 20 (by kernel_rfl) (by decide)
     refine opG_go 39 Tryd.f39 #[.tmp 23, .tmp 25] #[32, 32] rfl Tryd.func39 (by kernel_rfl) (by kernel_rfl) (by simp [e1, e2]) (Calls.mono (mulE_any y' z (H2.out.ny) (H1.out.nz) _) ?_)
     rintro r u2 ⟨rfl, hc2⟩
     exact ⟨_, rfl, rfl, hc2⟩
    ·injection ho with ho
     subst ho
     refine .inl ⟨wanted_by (T := _) (by kernel_rfl) hsz rfl (by decide : 11 < 24) rfl (hg 11 (by kernel_rfl) (by decide)), ?_⟩
     have e1 : ac.eval (.tmp 21) = .agg (num (md 1 (y * z'))) := hg 16 (by kernel_rfl) (by decide)
     have e2 : ac.eval (.tmp 26) = .agg (num (md 1 (y' * z))) := hg 21 (by kernel_rfl) (by decide)
     exact opG_val (by revert e1 e2; generalize ac.eval = ρ; intro e1 e2; simp [go_sem, execOp, e1, e2, run_eqNum (md_N _ _) (md_N _ _), HC.out.2.1]) rfl (Chg.refl _)
    ·injection ho with ho
     subst ho
     refine .inl ⟨wanted_none rfl, ?_⟩
     have e1 : ac.eval (.tmp 16) = .bool true := hg 11 (by kernel_rfl) (by decide)
     have e2 : ac.eval (.tmp 27) = .bool c2 := hg 22 (by kernel_rfl) (by decide)
     have e3 : ac.eval (.const (.bool false)) = .bool false := rfl
     exact opG_val (by revert e1 e2 e3; generalize ac.eval = ρ; intro e1 e2 e3; simp [go_sem, execOp, e1, e2, e3]) rfl (Chg.refl _)
   ·intro o u V ho hV hc
    injection ho with ho
    subst ho
    refine ⟨rfl, ?_⟩
    have q5 : V 0 = .pointer (some ⟨w.heap.size, 0, none⟩) := hV 0 (by decide)
    have q6 : V 1 = .agg (num x) := hV 1 (by decide)
    have q7 : V 2 = .pointer (some ⟨w.heap.size + 1, 8, none⟩) := hV 2 (by decide)
    have q8 : V 3 = .agg (num z') := hV 3 (by decide)
    have q9 : V 4 = .agg (num (md 1 (x * z'))) := hV 4 (by decide)
    have q10 : V 5 = .pointer (some ⟨w.heap.size + 1, 0, none⟩) := hV 5 (by decide)
    have q11 : V 6 = .agg (num x') := hV 6 (by decide)
    have q12 : V 7 = .pointer (some ⟨w.heap.size, 8, none⟩) := hV 7 (by decide)
    have q13 : V 8 = .agg (num z) := hV 8 (by decide)
    have q14 : V 9 = .agg (num (md 1 (x' * z))) := hV 9 (by decide)
    have q15 : V 10 = .bool true := hV 10 (by decide)
    have q16 : V 11 = .bool true := hV 11 (by decide)
    have q17 : V 12 = .pointer (some ⟨w.heap.size, 4, none⟩) := hV 12 (by decide)
    have q18 : V 13 = .agg (num y) := hV 13 (by decide)
    have q19 : V 14 = .pointer (some ⟨w.heap.size + 1, 8, none⟩) := hV 14 (by decide)
    have q20 : V 15 = .agg (num z') := hV 15 (by decide)
    have q21 : V 16 = .agg (num (md 1 (y * z'))) := hV 16 (by decide)
    have q22 : V 17 = .pointer (some ⟨w.heap.size + 1, 4, none⟩) := hV 17 (by decide)
    have q23 : V 18 = .agg (num y') := hV 18 (by decide)
    have q24 : V 19 = .pointer (some ⟨w.heap.size, 8, none⟩) := hV 19 (by decide)
    have q25 : V 20 = .agg (num z) := hV 20 (by decide)
    have q26 : V 21 = .agg (num (md 1 (y' * z))) := hV 21 (by decide)
    have q27 : V 22 = .bool c2 := hV 22 (by decide)
    have q28 : V 23 = .bool c2 := hV 23 (by decide)
    refine op_asg (.tmp 28) (.bool c2) rfl (Eq.trans (by rfl) q28) ?_
    go_wp2_with fail
    go_meet
    exact ⟨by rw [hb], hc⟩
 obtain ⟨rfl, hcc⟩ := hcut
 have Z2 : Hid (Chg w wc) := Z1.out.1.trans hcc
 clear hcc
 go_wp2_with fail
 go_ret
 exact ⟨rfl, Z2.out⟩
end Go.Proofs.YtjfidbifjagnpaaDoor
