/-
  Two points together: the program.
-/
import Derived.Test.YtjfidbifjagnpaaDoorJu
namespace Go.Proofs.YtjfidbifjagnpaaDoor
open Go.RowKit
set_option linter.unusedVariables false
set_option maxRecDepth 100000
set_option maxHeartbeats 16000000 in
theorem plusE_any (x y z t x' y' z' t' : Int) (P Q : Fin pp × Fin pp) (h1 : PT x y z t P) (h2 : PT x' y' z' t' Q) (w : World) : Calls Tryd.prog 22 #[.agg (q4 x y z t), .agg (q4 x' y' z' t')] w fun r w' => ∃ X Y Z T, r = .returned (.agg (q4 X Y Z T)) ∧ PT X Y Z T (AD P Q) ∧ Chg w w' := by
 have H1 : Hid (PT x y z t P) := h1
 have H2 : Hid (PT x' y' z' t' Q) := h2
 have hz := zeroP4.1
 have hz2 := zero25.1
 have hsA := q4_size x y z t
 have hsB := q4_size x' y' z' t'
 obtain ⟨A, hA⟩ : ∃ A, A = q4 x y z t := ⟨_, rfl⟩
 obtain ⟨B, hB⟩ : ∃ B, B = q4 x' y' z' t' := ⟨_, rfl⟩
 have HA : Hid (A = q4 x y z t) := hA
 have HB : Hid (B = q4 x' y' z' t') := hB
 rw [← hA] at hsA ⊢
 rw [← hB] at hsB ⊢
 clear hA hB h1 h2
 go_enter Tryd.func22, Tryd.ntmps22
 go_upto_region 1 with fail
 obtain ⟨w1, hw1⟩ : ∃ w1, w1 = ((w.alloc (.cells A 44)).alloc (.cells B 44)).alloc (.cells (q4 0 0 0 0) 44) := ⟨_, rfl⟩
 have Z1 : Hid (Chg w w1 ∧ Ar w1 w.heap.size (q4 x y z t) ∧ Ar w1 (w.heap.size + 1) (q4 x' y' z' t') ∧ Ar w1 (w.heap.size + 1 + 1) (q4 0 0 0 0)) := by
  have hnew0 := Ar.new w (q4 x y z t) 44
  have hnew1 := Ar.new (w.alloc (.cells (q4 x y z t) 44)) (q4 x' y' z' t') 44
  rw [World.size_alloc] at hnew1
  have hnew2 := Ar.new ((w.alloc (.cells (q4 x y z t) 44)).alloc (.cells (q4 x' y' z' t') 44)) (q4 0 0 0 0) 44
  rw [World.size_alloc, World.size_alloc] at hnew2
  rw [hw1, HA.out, HB.out]
  exact ⟨((((Chg.refl w).alloc _).alloc _).alloc _), (((hnew0).alloc _).alloc _), ((hnew1).alloc _), (hnew2)⟩
 rw [← hw1]
 clear hw1
 clear hsA hsB hz hz2 HA HB
 go_cut [5] from 5 to 23 (fun v5 wc => ∃ b5, v5 = .pointer (some ⟨b5, 0, none⟩) ∧ w1.heap.size ≤ b5 ∧ Ar wc b5 (num (md 1 ((md 1 (y - x)) * (md 1 (y' - x'))))) ∧ Chg w1 wc)
 case first =>
  refine regA 12 (fun j v wg => match j with
   | 0 => v = .pointer (some ⟨w.heap.size, 4, none⟩)
   | 1 => v = .agg (num y)
   | 2 => v = .pointer (some ⟨w.heap.size, 0, none⟩)
   | 3 => v = .agg (num x)
   | 4 => v = .agg (num (md 1 (y - x)))
   | 5 => v = .pointer (some ⟨w.heap.size + 1, 4, none⟩)
   | 6 => v = .agg (num y')
   | 7 => v = .pointer (some ⟨w.heap.size + 1, 0, none⟩)
   | 8 => v = .agg (num x')
   | 9 => v = .agg (num (md 1 (y' - x')))
   | 10 => v = .agg (num (md 1 ((md 1 (y - x)) * (md 1 (y' - x')))))
   | 11 => ∃ b, v = .pointer (some ⟨b, 0, none⟩) ∧ Ar wg b (num 0) ∧ w1.heap.size ≤ b
   | _ => True) (by kernel_rfl) (by kernel_rfl) (by kernel_rfl) (by kernel_rfl) (by kernel_rfl) ?_ ?_ ?_
  ·intro j v u1 u2 h hc
   match j, h with
   | 0, h => exact h
   | 1, h => exact h
   | 2, h => exact h
   | 3, h => exact h
   | 4, h => exact h
   | 5, h => exact h
   | 6, h => exact h
   | 7, h => exact h
   | 8, h => exact h
   | 9, h => exact h
   | 10, h => exact h
   | 11, h => (obtain ⟨b, h1, h2, h3⟩ := h; exact ⟨b, h1, h2.chg hc, h3⟩)
   | _ + 12, h => exact trivial
  ·intro i o ac u hi ho hsz hf hg hc
   have hcs : i = 0 ∨ i = 1 ∨ i = 2 ∨ i = 3 ∨ i = 4 ∨ i = 5 ∨ i = 6 ∨ i = 7 ∨ i = 8 ∨ i = 9 ∨ i = 10 ∨ i = 11 := by omega
   rcases hcs with rfl | rfl | rfl | rfl | rfl | rfl | rfl | rfl | rfl | rfl | rfl | rfl
   ·injection ho with ho
    subst ho
    refine .inl ⟨wanted_none rfl, ?_⟩
    have e1 : ac.eval (.tmp 2) = .pointer (some ⟨w.heap.size, 0, none⟩) := hf 2 (by kernel_rfl)
    exact opG_val (by revert e1; generalize ac.eval = ρ; intro e1; simp [go_sem, execOp, e1]) rfl (Chg.refl _)
   ·injection ho with ho
    subst ho
    refine .inl ⟨wanted_none rfl, ?_⟩
    have e1 : ac.eval (.tmp 13) = .pointer (some ⟨w.heap.size, 4, none⟩) := hg 0 (by kernel_rfl) (by decide)
    exact wp_load_mid 32 (.tmp 13) rfl _ _ e1 ((num y).toList) _ (rangeq4F1 (Z1.out.2.1.chg hc)) undNum rfl (infoN _) ⟨_, rfl, rfl, Chg.refl _⟩
   ·injection ho with ho
    subst ho
    refine .inl ⟨wanted_none rfl, ?_⟩
    have e1 : ac.eval (.tmp 2) = .pointer (some ⟨w.heap.size, 0, none⟩) := hf 2 (by kernel_rfl)
    exact opG_val (by revert e1; generalize ac.eval = ρ; intro e1; simp [go_sem, execOp, e1]) rfl (Chg.refl _)
   ·injection ho with ho
    subst ho
    refine .inl ⟨wanted_none rfl, ?_⟩
    have e1 : ac.eval (.tmp 15) = .pointer (some ⟨w.heap.size, 0, none⟩) := hg 2 (by kernel_rfl) (by decide)
    exact wp_load_mid 32 (.tmp 15) rfl _ _ e1 ((num x).toList) _ (rangeq4F0 (Z1.out.2.1.chg hc)) undNum rfl (infoN _) ⟨_, rfl, rfl, Chg.refl _⟩
   ·injection ho with ho
    subst ho
    refine .inl ⟨wanted_none rfl, ?_⟩
    have e1 : ac.eval (.tmp 14) = .agg (num y) := hg 1 (by kernel_rfl) (by decide)
    have e2 : ac.eval (.tmp 16) = .agg (num x) := hg 3 (by kernel_rfl) (by decide)
    refine opG_go 40 Tryd.f40 #[.tmp 14, .tmp 16] #[32, 32] rfl Tryd.func40 (by kernel_rfl) (by kernel_rfl) (by simp [e1, e2]) (Calls.mono (subE_any y x (H1.out.ny) (H1.out.nx) _) ?_)
    rintro r u2 ⟨rfl, hc2⟩
    exact ⟨_, rfl, rfl, hc2⟩
   ·injection ho with ho
    subst ho
    refine .inl ⟨wanted_none rfl, ?_⟩
    have e1 : ac.eval (.tmp 3) = .pointer (some ⟨w.heap.size + 1, 0, none⟩) := hf 3 (by kernel_rfl)
    exact opG_val (by revert e1; generalize ac.eval = ρ; intro e1; simp [go_sem, execOp, e1]) rfl (Chg.refl _)
   ·injection ho with ho
    subst ho
    refine .inl ⟨wanted_none rfl, ?_⟩
    have e1 : ac.eval (.tmp 18) = .pointer (some ⟨w.heap.size + 1, 4, none⟩) := hg 5 (by kernel_rfl) (by decide)
    exact wp_load_mid 32 (.tmp 18) rfl _ _ e1 ((num y').toList) _ (rangeq4F1 (Z1.out.2.2.1.chg hc)) undNum rfl (infoN _) ⟨_, rfl, rfl, Chg.refl _⟩
   ·injection ho with ho
    subst ho
    refine .inl ⟨wanted_none rfl, ?_⟩
    have e1 : ac.eval (.tmp 3) = .pointer (some ⟨w.heap.size + 1, 0, none⟩) := hf 3 (by kernel_rfl)
    exact opG_val (by revert e1; generalize ac.eval = ρ; intro e1; simp [go_sem, execOp, e1]) rfl (Chg.refl _)
   ·injection ho with ho
    subst ho
    refine .inl ⟨wanted_none rfl, ?_⟩
    have e1 : ac.eval (.tmp 20) = .pointer (some ⟨w.heap.size + 1, 0, none⟩) := hg 7 (by kernel_rfl) (by decide)
    exact wp_load_mid 32 (.tmp 20) rfl _ _ e1 ((num x').toList) _ (rangeq4F0 (Z1.out.2.2.1.chg hc)) undNum rfl (infoN _) ⟨_, rfl, rfl, Chg.refl _⟩
   ·injection ho with ho
    subst ho
    refine .inl ⟨wanted_none rfl, ?_⟩
    have e1 : ac.eval (.tmp 19) = .agg (num y') := hg 6 (by kernel_rfl) (by decide)
    have e2 : ac.eval (.tmp 21) = .agg (num x') := hg 8 (by kernel_rfl) (by decide)
    refine opG_go 40 Tryd.f40 #[.tmp 19, .tmp 21] #[32, 32] rfl Tryd.func40 (by kernel_rfl) (by kernel_rfl) (by simp [e1, e2]) (Calls.mono (subE_any y' x' (H2.out.ny) (H2.out.nx) _) ?_)
    rintro r u2 ⟨rfl, hc2⟩
    exact ⟨_, rfl, rfl, hc2⟩
   ·injection ho with ho
    subst ho
    refine .inl ⟨wanted_none rfl, ?_⟩
    have e1 : ac.eval (.tmp 17) = .agg (num (md 1 (y - x))) := hg 4 (by kernel_rfl) (by decide)
    have e2 : ac.eval (.tmp 22) = .agg (num (md 1 (y' - x'))) := hg 9 (by kernel_rfl) (by decide)
    refine opG_go 39 Tryd.f39 #[.tmp 17, .tmp 22] #[32, 32] rfl Tryd.func39 (by kernel_rfl) (by kernel_rfl) (by simp [e1, e2]) (Calls.mono (mulE_any (md 1 (y - x)) (md 1 (y' - x')) (md_N _ _) (md_N _ _) _) ?_)
    rintro r u2 ⟨rfl, hc2⟩
    exact ⟨_, rfl, rfl, hc2⟩
   ·injection ho with ho
    subst ho
    refine .inl ⟨wanted_none rfl, ?_⟩
    exact opG_val (v := .pointer (some ⟨u.heap.size, 0, none⟩)) (w' := u.alloc (.cells (num 0) 32)) (by generalize ac.eval = ρ; simp [go_sem, execOp, zero25.1]) ⟨_, rfl, Ar.new _ _ _, hc.size⟩ ((Chg.refl _).alloc _)
  ·intro o u V ho hV hc
   injection ho with ho
   subst ho
   refine ⟨rfl, ?_⟩
   have q13 : V 0 = .pointer (some ⟨w.heap.size, 4, none⟩) := hV 0 (by decide)
   have q14 : V 1 = .agg (num y) := hV 1 (by decide)
   have q15 : V 2 = .pointer (some ⟨w.heap.size, 0, none⟩) := hV 2 (by decide)
   have q16 : V 3 = .agg (num x) := hV 3 (by decide)
   have q17 : V 4 = .agg (num (md 1 (y - x))) := hV 4 (by decide)
   have q18 : V 5 = .pointer (some ⟨w.heap.size + 1, 4, none⟩) := hV 5 (by decide)
   have q19 : V 6 = .agg (num y') := hV 6 (by decide)
   have q20 : V 7 = .pointer (some ⟨w.heap.size + 1, 0, none⟩) := hV 7 (by decide)
   have q21 : V 8 = .agg (num x') := hV 8 (by decide)
   have q22 : V 9 = .agg (num (md 1 (y' - x'))) := hV 9 (by decide)
   have q23 : V 10 = .agg (num (md 1 ((md 1 (y - x)) * (md 1 (y' - x'))))) := hV 10 (by decide)
   obtain ⟨b5, q5, r5, s5⟩ := hV 11 (by decide)
   refine wp_store_mid 32 (.tmp 5) (.tmp 23) rfl b5 0 (num (md 1 ((md 1 (y - x)) * (md 1 (y' - x'))))) (Eq.trans (by rfl) q5) (Eq.trans (by rfl) q23) (by rw [num_size]; exact thereN r5) (szN _) (num_one _) ?_
   rw [show u.setCells b5 0 (num (md 1 ((md 1 (y - x)) * (md 1 (y' - x'))))).toList = u.setRow b5 (num (md 1 ((md 1 (y - x)) * (md 1 (y' - x'))))) from setRowN r5 _]
   go_wp2_with fail
   go_meet
   exact ⟨b5, q5, s5, r5.row _, hc.setRow s5 _⟩
 obtain ⟨b5, rfl, l5, ha5, hcc⟩ := hcut
 obtain ⟨w2, hw2⟩ : ∃ zz0, zz0 = wc := ⟨_, rfl⟩
 rw [← hw2] at hcc ha5 ⊢
 clear hw2
 have O5 : Hid (w.heap.size + 1 + 1 < b5) := Nat.lt_of_lt_of_le (Z1.out.2.2.2.lt) l5
 have Z2 : Hid (Chg w w2 ∧ Ar w2 w.heap.size (q4 x y z t) ∧ Ar w2 (w.heap.size + 1) (q4 x' y' z' t') ∧ Ar w2 (w.heap.size + 1 + 1) (q4 0 0 0 0) ∧ Ar w2 b5 (num (md 1 ((md 1 (y - x)) * (md 1 (y' - x')))))) := ⟨Z1.out.1.trans hcc, Z1.out.2.1.chg hcc, Z1.out.2.2.1.chg hcc, Z1.out.2.2.2.chg hcc, ha5⟩
 clear hcc ha5 l5 Z1
 obtain ⟨e5x2, he5x2⟩ : ∃ zz0, zz0 = md 1 ((md 1 (y - x)) * (md 1 (y' - x'))) := ⟨_, rfl⟩
 have Ee5x2 : Hid (e5x2 = md 1 ((md 1 (y - x)) * (md 1 (y' - x')))) := he5x2
 have Ne5x2 : Hid (N256 e5x2) := by show N256 e5x2; rw [he5x2]; exact md_N _ _
 have Ze5x2 : Hid (Chg w w2 ∧ Ar w2 w.heap.size (q4 x y z t) ∧ Ar w2 (w.heap.size + 1) (q4 x' y' z' t') ∧ Ar w2 (w.heap.size + 1 + 1) (q4 0 0 0 0) ∧ Ar w2 b5 (num e5x2)) := by rw [he5x2]; exact Z2.out
 clear he5x2 Z2
 go_upto_region 2 with fail
 go_cut [6] from 6 to 34 (fun v6 wc => ∃ b6, v6 = .pointer (some ⟨b6, 0, none⟩) ∧ w2.heap.size ≤ b6 ∧ Ar wc b6 (num (md 1 ((md 1 (y + x)) * (md 1 (y' + x'))))) ∧ Chg w2 wc)
 case first =>
  refine regA 12 (fun j v wg => match j with
   | 0 => v = .pointer (some ⟨w.heap.size, 4, none⟩)
   | 1 => v = .agg (num y)
   | 2 => v = .pointer (some ⟨w.heap.size, 0, none⟩)
   | 3 => v = .agg (num x)
   | 4 => v = .agg (num (md 1 (y + x)))
   | 5 => v = .pointer (some ⟨w.heap.size + 1, 4, none⟩)
   | 6 => v = .agg (num y')
   | 7 => v = .pointer (some ⟨w.heap.size + 1, 0, none⟩)
   | 8 => v = .agg (num x')
   | 9 => v = .agg (num (md 1 (y' + x')))
   | 10 => v = .agg (num (md 1 ((md 1 (y + x)) * (md 1 (y' + x')))))
   | 11 => ∃ b, v = .pointer (some ⟨b, 0, none⟩) ∧ Ar wg b (num 0) ∧ w2.heap.size ≤ b
   | _ => True) (by kernel_rfl) (by kernel_rfl) (by kernel_rfl) (by kernel_rfl) (by kernel_rfl) ?_ ?_ ?_
  ·intro j v u1 u2 h hc
   match j, h with
   | 0, h => exact h
   | 1, h => exact h
   | 2, h => exact h
   | 3, h => exact h
   | 4, h => exact h
   | 5, h => exact h
   | 6, h => exact h
   | 7, h => exact h
   | 8, h => exact h
   | 9, h => exact h
   | 10, h => exact h
   | 11, h => (obtain ⟨b, h1, h2, h3⟩ := h; exact ⟨b, h1, h2.chg hc, h3⟩)
   | _ + 12, h => exact trivial
  ·intro i o ac u hi ho hsz hf hg hc
   have hcs : i = 0 ∨ i = 1 ∨ i = 2 ∨ i = 3 ∨ i = 4 ∨ i = 5 ∨ i = 6 ∨ i = 7 ∨ i = 8 ∨ i = 9 ∨ i = 10 ∨ i = 11 := by omega
   rcases hcs with rfl | rfl | rfl | rfl | rfl | rfl | rfl | rfl | rfl | rfl | rfl | rfl
   ·injection ho with ho
    subst ho
    refine .inl ⟨wanted_none rfl, ?_⟩
    have e1 : ac.eval (.tmp 2) = .pointer (some ⟨w.heap.size, 0, none⟩) := hf 2 (by kernel_rfl)
    exact opG_val (by revert e1; generalize ac.eval = ρ; intro e1; simp [go_sem, execOp, e1]) rfl (Chg.refl _)
   ·injection ho with ho
    subst ho
    refine .inl ⟨wanted_none rfl, ?_⟩
    have e1 : ac.eval (.tmp 24) = .pointer (some ⟨w.heap.size, 4, none⟩) := hg 0 (by kernel_rfl) (by decide)
    exact wp_load_mid 32 (.tmp 24) rfl _ _ e1 ((num y).toList) _ (rangeq4F1 (Ze5x2.out.2.1.chg hc)) undNum rfl (infoN _) ⟨_, rfl, rfl, Chg.refl _⟩
   ·injection ho with ho
    subst ho
    refine .inl ⟨wanted_none rfl, ?_⟩
    have e1 : ac.eval (.tmp 2) = .pointer (some ⟨w.heap.size, 0, none⟩) := hf 2 (by kernel_rfl)
    exact opG_val (by revert e1; generalize ac.eval = ρ; intro e1; simp [go_sem, execOp, e1]) rfl (Chg.refl _)
   ·injection ho with ho
    subst ho
    refine .inl ⟨wanted_none rfl, ?_⟩
    have e1 : ac.eval (.tmp 26) = .pointer (some ⟨w.heap.size, 0, none⟩) := hg 2 (by kernel_rfl) (by decide)
    exact wp_load_mid 32 (.tmp 26) rfl _ _ e1 ((num x).toList) _ (rangeq4F0 (Ze5x2.out.2.1.chg hc)) undNum rfl (infoN _) ⟨_, rfl, rfl, Chg.refl _⟩
   ·injection ho with ho
    subst ho
    refine .inl ⟨wanted_none rfl, ?_⟩
    have e1 : ac.eval (.tmp 25) = .agg (num y) := hg 1 (by kernel_rfl) (by decide)
    have e2 : ac.eval (.tmp 27) = .agg (num x) := hg 3 (by kernel_rfl) (by decide)
    refine opG_go 41 Tryd.f41 #[.tmp 25, .tmp 27] #[32, 32] rfl Tryd.func41 (by kernel_rfl) (by kernel_rfl) (by simp [e1, e2]) (Calls.mono (addE_any y x (H1.out.ny) (H1.out.nx) _) ?_)
    rintro r u2 ⟨rfl, hc2⟩
    exact ⟨_, rfl, rfl, hc2⟩
   ·injection ho with ho
    subst ho
    refine .inl ⟨wanted_none rfl, ?_⟩
    have e1 : ac.eval (.tmp 3) = .pointer (some ⟨w.heap.size + 1, 0, none⟩) := hf 3 (by kernel_rfl)
    exact opG_val (by revert e1; generalize ac.eval = ρ; intro e1; simp [go_sem, execOp, e1]) rfl (Chg.refl _)
   ·injection ho with ho
    subst ho
    refine .inl ⟨wanted_none rfl, ?_⟩
    have e1 : ac.eval (.tmp 29) = .pointer (some ⟨w.heap.size + 1, 4, none⟩) := hg 5 (by kernel_rfl) (by decide)
    exact wp_load_mid 32 (.tmp 29) rfl _ _ e1 ((num y').toList) _ (rangeq4F1 (Ze5x2.out.2.2.1.chg hc)) undNum rfl (infoN _) ⟨_, rfl, rfl, Chg.refl _⟩
   ·injection ho with ho
    subst ho
    refine .inl ⟨wanted_none rfl, ?_⟩
    have e1 : ac.eval (.tmp 3) = .pointer (some ⟨w.heap.size + 1, 0, none⟩) := hf 3 (by kernel_rfl)
    exact opG_val (by revert e1; generalize ac.eval = ρ; intro e1; simp [go_sem, execOp, e1]) rfl (Chg.refl _)
   ·injection ho with ho
    subst ho
    refine .inl ⟨wanted_none rfl, ?_⟩
    have e1 : ac.eval (.tmp 31) = .pointer (some ⟨w.heap.size + 1, 0, none⟩) := hg 7 (by kernel_rfl) (by decide)
    exact wp_load_mid 32 (.tmp 31) rfl _ _ e1 ((num x').toList) _ (rangeq4F0 (Ze5x2.out.2.2.1.chg hc)) undNum rfl (infoN _) ⟨_, rfl, rfl, Chg.refl _⟩
   ·injection ho with ho
    subst ho
    refine .inl ⟨wanted_none rfl, ?_⟩
    have e1 : ac.eval (.tmp 30) = .agg (num y') := hg 6 (by kernel_rfl) (by decide)
    have e2 : ac.eval (.tmp 32) = .agg (num x') := hg 8 (by kernel_rfl) (by decide)
    refine opG_go 41 Tryd.f41 #[.tmp 30, .tmp 32] #[32, 32] rfl Tryd.func41 (by kernel_rfl) (by kernel_rfl) (by simp [e1, e2]) (Calls.mono (addE_any y' x' (H2.out.ny) (H2.out.nx) _) ?_)
    rintro r u2 ⟨rfl, hc2⟩
    exact ⟨_, rfl, rfl, hc2⟩
   ·injection ho with ho
    subst ho
    refine .inl ⟨wanted_none rfl, ?_⟩
    have e1 : ac.eval (.tmp 28) = .agg (num (md 1 (y + x))) := hg 4 (by kernel_rfl) (by decide)
    have e2 : ac.eval (.tmp 33) = .agg (num (md 1 (y' + x'))) := hg 9 (by kernel_rfl) (by decide)
    refine opG_go 39 Tryd.f39 #[.tmp 28, .tmp 33] #[32, 32] rfl Tryd.func39 (by kernel_rfl) (by kernel_rfl) (by simp [e1, e2]) (Calls.mono (mulE_any (md 1 (y + x)) (md 1 (y' + x')) (md_N _ _) (md_N _ _) _) ?_)
    rintro r u2 ⟨rfl, hc2⟩
    exact ⟨_, rfl, rfl, hc2⟩
   ·injection ho with ho
    subst ho
    refine .inl ⟨wanted_none rfl, ?_⟩
    exact opG_val (v := .pointer (some ⟨u.heap.size, 0, none⟩)) (w' := u.alloc (.cells (num 0) 32)) (by generalize ac.eval = ρ; simp [go_sem, execOp, zero25.1]) ⟨_, rfl, Ar.new _ _ _, hc.size⟩ ((Chg.refl _).alloc _)
  ·intro o u V ho hV hc
   injection ho with ho
   subst ho
   refine ⟨rfl, ?_⟩
   have q24 : V 0 = .pointer (some ⟨w.heap.size, 4, none⟩) := hV 0 (by decide)
   have q25 : V 1 = .agg (num y) := hV 1 (by decide)
   have q26 : V 2 = .pointer (some ⟨w.heap.size, 0, none⟩) := hV 2 (by decide)
   have q27 : V 3 = .agg (num x) := hV 3 (by decide)
   have q28 : V 4 = .agg (num (md 1 (y + x))) := hV 4 (by decide)
   have q29 : V 5 = .pointer (some ⟨w.heap.size + 1, 4, none⟩) := hV 5 (by decide)
   have q30 : V 6 = .agg (num y') := hV 6 (by decide)
   have q31 : V 7 = .pointer (some ⟨w.heap.size + 1, 0, none⟩) := hV 7 (by decide)
   have q32 : V 8 = .agg (num x') := hV 8 (by decide)
   have q33 : V 9 = .agg (num (md 1 (y' + x'))) := hV 9 (by decide)
   have q34 : V 10 = .agg (num (md 1 ((md 1 (y + x)) * (md 1 (y' + x'))))) := hV 10 (by decide)
   obtain ⟨b6, q6, r6, s6⟩ := hV 11 (by decide)
   refine wp_store_mid 32 (.tmp 6) (.tmp 34) rfl b6 0 (num (md 1 ((md 1 (y + x)) * (md 1 (y' + x'))))) (Eq.trans (by rfl) q6) (Eq.trans (by rfl) q34) (by rw [num_size]; exact thereN r6) (szN _) (num_one _) ?_
   rw [show u.setCells b6 0 (num (md 1 ((md 1 (y + x)) * (md 1 (y' + x'))))).toList = u.setRow b6 (num (md 1 ((md 1 (y + x)) * (md 1 (y' + x'))))) from setRowN r6 _]
   go_wp2_with fail
   go_meet
   exact ⟨b6, q6, s6, r6.row _, hc.setRow s6 _⟩
 obtain ⟨b6, rfl, l6, ha6, hcc⟩ := hcut
 obtain ⟨w3, hw3⟩ : ∃ zz0, zz0 = wc := ⟨_, rfl⟩
 rw [← hw3] at hcc ha6 ⊢
 clear hw3
 have O6 : Hid (b5 < b6) := Nat.lt_of_lt_of_le (Ze5x2.out.2.2.2.2.lt) l6
 have Z3 : Hid (Chg w w3 ∧ Ar w3 w.heap.size (q4 x y z t) ∧ Ar w3 (w.heap.size + 1) (q4 x' y' z' t') ∧ Ar w3 (w.heap.size + 1 + 1) (q4 0 0 0 0) ∧ Ar w3 b5 (num e5x2) ∧ Ar w3 b6 (num (md 1 ((md 1 (y + x)) * (md 1 (y' + x')))))) := ⟨Ze5x2.out.1.trans hcc, Ze5x2.out.2.1.chg hcc, Ze5x2.out.2.2.1.chg hcc, Ze5x2.out.2.2.2.1.chg hcc, Ze5x2.out.2.2.2.2.chg hcc, ha6⟩
 clear hcc ha6 l6 Ze5x2
 obtain ⟨e6x3, he6x3⟩ : ∃ zz0, zz0 = md 1 ((md 1 (y + x)) * (md 1 (y' + x'))) := ⟨_, rfl⟩
 have Ee6x3 : Hid (e6x3 = md 1 ((md 1 (y + x)) * (md 1 (y' + x')))) := he6x3
 have Ne6x3 : Hid (N256 e6x3) := by show N256 e6x3; rw [he6x3]; exact md_N _ _
 have Ze6x3 : Hid (Chg w w3 ∧ Ar w3 w.heap.size (q4 x y z t) ∧ Ar w3 (w.heap.size + 1) (q4 x' y' z' t') ∧ Ar w3 (w.heap.size + 1 + 1) (q4 0 0 0 0) ∧ Ar w3 b5 (num e5x2) ∧ Ar w3 b6 (num e6x3)) := by rw [he6x3]; exact Z3.out
 clear he6x3 Z3
 go_upto_region 3 with fail
 go_cut [7] from 7 to 39 (fun v7 wc => ∃ b7, v7 = .pointer (some ⟨b7, 0, none⟩) ∧ w3.heap.size ≤ b7 ∧ Ar wc b7 (num (md 1 (z * z'))) ∧ Chg w3 wc)
 case first =>
  refine regS 6 (fun j v wg => match j with
   | 0 => v = .pointer (some ⟨w.heap.size, 8, none⟩)
   | 1 => v = .agg (num z)
   | 2 => v = .pointer (some ⟨w.heap.size + 1, 8, none⟩)
   | 3 => v = .agg (num z')
   | 4 => v = .agg (num (md 1 (z * z')))
   | 5 => ∃ b, v = .pointer (some ⟨b, 0, none⟩) ∧ Ar wg b (num 0) ∧ w3.heap.size ≤ b
   | _ => True) (by kernel_rfl) (by kernel_rfl) ?_ ?_ ?_
  ·intro j v u1 u2 h hc
   match j, h with
   | 0, h => exact h
   | 1, h => exact h
   | 2, h => exact h
   | 3, h => exact h
   | 4, h => exact h
   | 5, h => (obtain ⟨b, h1, h2, h3⟩ := h; exact ⟨b, h1, h2.chg hc, h3⟩)
   | _ + 6, h => exact trivial
  ·intro i o ac u hi ho hsz hf hg hc
   have hcs : i = 0 ∨ i = 1 ∨ i = 2 ∨ i = 3 ∨ i = 4 ∨ i = 5 := by omega
   rcases hcs with rfl | rfl | rfl | rfl | rfl | rfl
   ·injection ho with ho
    subst ho
    refine .inl ⟨wanted_none rfl, ?_⟩
    have e1 : ac.eval (.tmp 2) = .pointer (some ⟨w.heap.size, 0, none⟩) := hf 2 (by kernel_rfl)
    exact opG_val (by revert e1; generalize ac.eval = ρ; intro e1; simp [go_sem, execOp, e1]) rfl (Chg.refl _)
   ·injection ho with ho
    subst ho
    refine .inl ⟨wanted_none rfl, ?_⟩
    have e1 : ac.eval (.tmp 35) = .pointer (some ⟨w.heap.size, 8, none⟩) := hg 0 (by decide) (by decide)
    exact wp_load_mid 32 (.tmp 35) rfl _ _ e1 ((num z).toList) _ (rangeq4F2 (Ze6x3.out.2.1.chg hc)) undNum rfl (infoN _) ⟨_, rfl, rfl, Chg.refl _⟩
   ·injection ho with ho
    subst ho
    refine .inl ⟨wanted_none rfl, ?_⟩
    have e1 : ac.eval (.tmp 3) = .pointer (some ⟨w.heap.size + 1, 0, none⟩) := hf 3 (by kernel_rfl)
    exact opG_val (by revert e1; generalize ac.eval = ρ; intro e1; simp [go_sem, execOp, e1]) rfl (Chg.refl _)
   ·injection ho with ho
    subst ho
    refine .inl ⟨wanted_none rfl, ?_⟩
    have e1 : ac.eval (.tmp 37) = .pointer (some ⟨w.heap.size + 1, 8, none⟩) := hg 2 (by decide) (by decide)
    exact wp_load_mid 32 (.tmp 37) rfl _ _ e1 ((num z').toList) _ (rangeq4F2 (Ze6x3.out.2.2.1.chg hc)) undNum rfl (infoN _) ⟨_, rfl, rfl, Chg.refl _⟩
   ·injection ho with ho
    subst ho
    refine .inl ⟨wanted_none rfl, ?_⟩
    have e1 : ac.eval (.tmp 36) = .agg (num z) := hg 1 (by decide) (by decide)
    have e2 : ac.eval (.tmp 38) = .agg (num z') := hg 3 (by decide) (by decide)
    refine opG_go 39 Tryd.f39 #[.tmp 36, .tmp 38] #[32, 32] rfl Tryd.func39 (by kernel_rfl) (by kernel_rfl) (by simp [e1, e2]) (Calls.mono (mulE_any z z' (H1.out.nz) (H2.out.nz) _) ?_)
    rintro r u2 ⟨rfl, hc2⟩
    exact ⟨_, rfl, rfl, hc2⟩
   ·injection ho with ho
    subst ho
    refine .inl ⟨wanted_none rfl, ?_⟩
    exact opG_val (v := .pointer (some ⟨u.heap.size, 0, none⟩)) (w' := u.alloc (.cells (num 0) 32)) (by generalize ac.eval = ρ; simp [go_sem, execOp, zero25.1]) ⟨_, rfl, Ar.new _ _ _, hc.size⟩ ((Chg.refl _).alloc _)
  ·intro o u V ho hV hc
   injection ho with ho
   subst ho
   refine ⟨rfl, ?_⟩
   have q35 : V 0 = .pointer (some ⟨w.heap.size, 8, none⟩) := hV 0 (by decide)
   have q36 : V 1 = .agg (num z) := hV 1 (by decide)
   have q37 : V 2 = .pointer (some ⟨w.heap.size + 1, 8, none⟩) := hV 2 (by decide)
   have q38 : V 3 = .agg (num z') := hV 3 (by decide)
   have q39 : V 4 = .agg (num (md 1 (z * z'))) := hV 4 (by decide)
   obtain ⟨b7, q7, r7, s7⟩ := hV 5 (by decide)
   refine wp_store_mid 32 (.tmp 7) (.tmp 39) rfl b7 0 (num (md 1 (z * z'))) (Eq.trans (by rfl) q7) (Eq.trans (by rfl) q39) (by rw [num_size]; exact thereN r7) (szN _) (num_one _) ?_
   rw [show u.setCells b7 0 (num (md 1 (z * z'))).toList = u.setRow b7 (num (md 1 (z * z'))) from setRowN r7 _]
   go_wp2_with fail
   go_meet
   exact ⟨b7, q7, s7, r7.row _, hc.setRow s7 _⟩
 obtain ⟨b7, rfl, l7, ha7, hcc⟩ := hcut
 obtain ⟨w4, hw4⟩ : ∃ zz0, zz0 = wc := ⟨_, rfl⟩
 rw [← hw4] at hcc ha7 ⊢
 clear hw4
 have O7 : Hid (b6 < b7) := Nat.lt_of_lt_of_le (Ze6x3.out.2.2.2.2.2.lt) l7
 have Z4 : Hid (Chg w w4 ∧ Ar w4 w.heap.size (q4 x y z t) ∧ Ar w4 (w.heap.size + 1) (q4 x' y' z' t') ∧ Ar w4 (w.heap.size + 1 + 1) (q4 0 0 0 0) ∧ Ar w4 b5 (num e5x2) ∧ Ar w4 b6 (num e6x3) ∧ Ar w4 b7 (num (md 1 (z * z')))) := ⟨Ze6x3.out.1.trans hcc, Ze6x3.out.2.1.chg hcc, Ze6x3.out.2.2.1.chg hcc, Ze6x3.out.2.2.2.1.chg hcc, Ze6x3.out.2.2.2.2.1.chg hcc, Ze6x3.out.2.2.2.2.2.chg hcc, ha7⟩
 clear hcc ha7 l7 Ze6x3
 obtain ⟨e7x4, he7x4⟩ : ∃ zz0, zz0 = md 1 (z * z') := ⟨_, rfl⟩
 have Ee7x4 : Hid (e7x4 = md 1 (z * z')) := he7x4
 have Ne7x4 : Hid (N256 e7x4) := by show N256 e7x4; rw [he7x4]; exact md_N _ _
 have Ze7x4 : Hid (Chg w w4 ∧ Ar w4 w.heap.size (q4 x y z t) ∧ Ar w4 (w.heap.size + 1) (q4 x' y' z' t') ∧ Ar w4 (w.heap.size + 1 + 1) (q4 0 0 0 0) ∧ Ar w4 b5 (num e5x2) ∧ Ar w4 b6 (num e6x3) ∧ Ar w4 b7 (num e7x4)) := by rw [he7x4]; exact Z4.out
 clear he7x4 Z4
 go_upto_region 4 with fail
 go_cut [] from 40 to 42 (fun wc => ∃ u, Chg w4 u ∧ wc = u.setRow b7 (num (md 1 (e7x4 + e7x4))))
 case first =>
  refine regS 3 (fun j v wg => match j with
   | 0 => v = .agg (num e7x4)
   | 1 => v = .agg (num e7x4)
   | 2 => v = .agg (num (md 1 (e7x4 + e7x4)))
   | _ => True) (by kernel_rfl) (by kernel_rfl) ?_ ?_ ?_
  ·intro j v u1 u2 h hc
   match j, h with
   | 0, h => exact h
   | 1, h => exact h
   | 2, h => exact h
   | _ + 3, h => exact trivial
  ·intro i o ac u hi ho hsz hf hg hc
   have hcs : i = 0 ∨ i = 1 ∨ i = 2 := by omega
   rcases hcs with rfl | rfl | rfl
   ·injection ho with ho
    subst ho
    refine .inl ⟨wanted_none rfl, ?_⟩
    have e1 : ac.eval (.tmp 7) = .pointer (some ⟨b7, 0, none⟩) := hf 7 (by kernel_rfl)
    exact wp_load_mid 32 (.tmp 7) rfl _ _ e1 ((num e7x4).toList) _ (rangeAp (Ze7x4.out.2.2.2.2.2.2.chg hc)) undNum rfl (infoN _) ⟨_, rfl, rfl, Chg.refl _⟩
   ·injection ho with ho
    subst ho
    refine .inl ⟨wanted_none rfl, ?_⟩
    have e1 : ac.eval (.tmp 7) = .pointer (some ⟨b7, 0, none⟩) := hf 7 (by kernel_rfl)
    exact wp_load_mid 32 (.tmp 7) rfl _ _ e1 ((num e7x4).toList) _ (rangeAp (Ze7x4.out.2.2.2.2.2.2.chg hc)) undNum rfl (infoN _) ⟨_, rfl, rfl, Chg.refl _⟩
   ·injection ho with ho
    subst ho
    refine .inl ⟨wanted_none rfl, ?_⟩
    have e1 : ac.eval (.tmp 40) = .agg (num e7x4) := hg 0 (by decide) (by decide)
    have e2 : ac.eval (.tmp 41) = .agg (num e7x4) := hg 1 (by decide) (by decide)
    refine opG_go 41 Tryd.f41 #[.tmp 40, .tmp 41] #[32, 32] rfl Tryd.func41 (by kernel_rfl) (by kernel_rfl) (by simp [e1, e2]) (Calls.mono (addE_any e7x4 e7x4 (Ne7x4.out) (Ne7x4.out) _) ?_)
    rintro r u2 ⟨rfl, hc2⟩
    exact ⟨_, rfl, rfl, hc2⟩
  ·intro o u V ho hV hc
   injection ho with ho
   subst ho
   refine ⟨rfl, ?_⟩
   have q40 : V 0 = .agg (num e7x4) := hV 0 (by decide)
   have q41 : V 1 = .agg (num e7x4) := hV 1 (by decide)
   have q42 : V 2 = .agg (num (md 1 (e7x4 + e7x4))) := hV 2 (by decide)
   have hres := Ze7x4.out.2.2.2.2.2.2.chg hc
   refine wp_store_mid 32 (.tmp 7) (.tmp 42) rfl b7 0 (num (md 1 (e7x4 + e7x4))) (by rfl) (Eq.trans (by rfl) q42) (by rw [num_size]; exact thereN hres) (szN _) (num_one _) ?_
   rw [show u.setCells b7 0 (num (md 1 (e7x4 + e7x4))).toList = u.setRow b7 (num (md 1 (e7x4 + e7x4))) from setRowN hres _]
   go_wp2_with fail
   go_meet
   exact ⟨u, hc, rfl⟩
 obtain ⟨u, hcc, rfl⟩ := hcut
 obtain ⟨w5, hw5⟩ : ∃ zz0, zz0 = u.setRow b7 (num (md 1 (e7x4 + e7x4))) := ⟨_, rfl⟩
 have Z5 : Hid (Chg w w5 ∧ Ar w5 w.heap.size (q4 x y z t) ∧ Ar w5 (w.heap.size + 1) (q4 x' y' z' t') ∧ Ar w5 (w.heap.size + 1 + 1) (q4 0 0 0 0) ∧ Ar w5 b5 (num e5x2) ∧ Ar w5 b6 (num e6x3) ∧ Ar w5 b7 (num (md 1 (e7x4 + e7x4)))) := by
  have ordO5 := O5.out
  have ordO6 := O6.out
  have ordO7 := O7.out
  rw [hw5]
  exact ⟨(Ze7x4.out.1.trans hcc).setRow (by omega) _, (Ze7x4.out.2.1.chg hcc).rowOther (by omega) _, (Ze7x4.out.2.2.1.chg hcc).rowOther (by omega) _, (Ze7x4.out.2.2.2.1.chg hcc).rowOther (by omega) _, (Ze7x4.out.2.2.2.2.1.chg hcc).rowOther (by omega) _, (Ze7x4.out.2.2.2.2.2.1.chg hcc).rowOther (by omega) _, (Ze7x4.out.2.2.2.2.2.2.chg hcc).row _⟩
 rw [← hw5]
 clear hw5 hcc Ze7x4 u
 obtain ⟨e7x5, he7x5⟩ : ∃ zz0, zz0 = md 1 (e7x4 + e7x4) := ⟨_, rfl⟩
 have Ee7x5 : Hid (e7x5 = md 1 (e7x4 + e7x4)) := he7x5
 have Ne7x5 : Hid (N256 e7x5) := by show N256 e7x5; rw [he7x5]; exact md_N _ _
 have Ze7x5 : Hid (Chg w w5 ∧ Ar w5 w.heap.size (q4 x y z t) ∧ Ar w5 (w.heap.size + 1) (q4 x' y' z' t') ∧ Ar w5 (w.heap.size + 1 + 1) (q4 0 0 0 0) ∧ Ar w5 b5 (num e5x2) ∧ Ar w5 b6 (num e6x3) ∧ Ar w5 b7 (num e7x5)) := by rw [he7x5]; exact Z5.out
 clear he7x5 Z5
 go_upto_region 5 with fail
 go_cut [8] from 8 to 49 (fun v8 wc => ∃ b8, v8 = .pointer (some ⟨b8, 0, none⟩) ∧ w5.heap.size ≤ b8 ∧ Ar wc b8 (num (md 1 (((dN : Int)) * (md 1 (t * t'))))) ∧ Chg w5 wc)
 case first =>
  refine regA 8 (fun j v wg => match j with
   | 0 => v = .agg (num ((dN : Int)))
   | 1 => v = .pointer (some ⟨w.heap.size, 12, none⟩)
   | 2 => v = .agg (num t)
   | 3 => v = .pointer (some ⟨w.heap.size + 1, 12, none⟩)
   | 4 => v = .agg (num t')
   | 5 => v = .agg (num (md 1 (t * t')))
   | 6 => v = .agg (num (md 1 (((dN : Int)) * (md 1 (t * t')))))
   | 7 => ∃ b, v = .pointer (some ⟨b, 0, none⟩) ∧ Ar wg b (num 0) ∧ w5.heap.size ≤ b
   | _ => True) (by kernel_rfl) (by kernel_rfl) (by kernel_rfl) (by kernel_rfl) (by kernel_rfl) ?_ ?_ ?_
  ·intro j v u1 u2 h hc
   match j, h with
   | 0, h => exact h
   | 1, h => exact h
   | 2, h => exact h
   | 3, h => exact h
   | 4, h => exact h
   | 5, h => exact h
   | 6, h => exact h
   | 7, h => (obtain ⟨b, h1, h2, h3⟩ := h; exact ⟨b, h1, h2.chg hc, h3⟩)
   | _ + 8, h => exact trivial
  ·intro i o ac u hi ho hsz hf hg hc
   have hcs : i = 0 ∨ i = 1 ∨ i = 2 ∨ i = 3 ∨ i = 4 ∨ i = 5 ∨ i = 6 ∨ i = 7 := by omega
   rcases hcs with rfl | rfl | rfl | rfl | rfl | rfl | rfl | rfl
   ·injection ho with ho
    subst ho
    refine .inl ⟨wanted_none rfl, ?_⟩
    refine opG_go 42 Tryd.f42 #[] #[] rfl Tryd.func42 (by kernel_rfl) (by kernel_rfl) (by simp []) (Calls.mono (curveE_any _) ?_)
    rintro r u2 ⟨rfl, hc2⟩
    exact ⟨_, rfl, rfl, hc2⟩
   ·injection ho with ho
    subst ho
    refine .inl ⟨wanted_none rfl, ?_⟩
    have e1 : ac.eval (.tmp 2) = .pointer (some ⟨w.heap.size, 0, none⟩) := hf 2 (by kernel_rfl)
    exact opG_val (by revert e1; generalize ac.eval = ρ; intro e1; simp [go_sem, execOp, e1]) rfl (Chg.refl _)
   ·injection ho with ho
    subst ho
    refine .inl ⟨wanted_none rfl, ?_⟩
    have e1 : ac.eval (.tmp 44) = .pointer (some ⟨w.heap.size, 12, none⟩) := hg 1 (by kernel_rfl) (by decide)
    exact wp_load_mid 32 (.tmp 44) rfl _ _ e1 ((num t).toList) _ (rangeq4F3 (Ze7x5.out.2.1.chg hc)) undNum rfl (infoN _) ⟨_, rfl, rfl, Chg.refl _⟩
   ·injection ho with ho
    subst ho
    refine .inl ⟨wanted_none rfl, ?_⟩
    have e1 : ac.eval (.tmp 3) = .pointer (some ⟨w.heap.size + 1, 0, none⟩) := hf 3 (by kernel_rfl)
    exact opG_val (by revert e1; generalize ac.eval = ρ; intro e1; simp [go_sem, execOp, e1]) rfl (Chg.refl _)
   ·injection ho with ho
    subst ho
    refine .inl ⟨wanted_none rfl, ?_⟩
    have e1 : ac.eval (.tmp 46) = .pointer (some ⟨w.heap.size + 1, 12, none⟩) := hg 3 (by kernel_rfl) (by decide)
    exact wp_load_mid 32 (.tmp 46) rfl _ _ e1 ((num t').toList) _ (rangeq4F3 (Ze7x5.out.2.2.1.chg hc)) undNum rfl (infoN _) ⟨_, rfl, rfl, Chg.refl _⟩
   ·injection ho with ho
    subst ho
    refine .inl ⟨wanted_none rfl, ?_⟩
    have e1 : ac.eval (.tmp 45) = .agg (num t) := hg 2 (by kernel_rfl) (by decide)
    have e2 : ac.eval (.tmp 47) = .agg (num t') := hg 4 (by kernel_rfl) (by decide)
    refine opG_go 39 Tryd.f39 #[.tmp 45, .tmp 47] #[32, 32] rfl Tryd.func39 (by kernel_rfl) (by kernel_rfl) (by simp [e1, e2]) (Calls.mono (mulE_any t t' (H1.out.nt) (H2.out.nt) _) ?_)
    rintro r u2 ⟨rfl, hc2⟩
    exact ⟨_, rfl, rfl, hc2⟩
   ·injection ho with ho
    subst ho
    refine .inl ⟨wanted_none rfl, ?_⟩
    have e1 : ac.eval (.tmp 43) = .agg (num ((dN : Int))) := hg 0 (by kernel_rfl) (by decide)
    have e2 : ac.eval (.tmp 48) = .agg (num (md 1 (t * t'))) := hg 5 (by kernel_rfl) (by decide)
    refine opG_go 39 Tryd.f39 #[.tmp 43, .tmp 48] #[32, 32] rfl Tryd.func39 (by kernel_rfl) (by kernel_rfl) (by simp [e1, e2]) (Calls.mono (mulE_any ((dN : Int)) (md 1 (t * t')) N_dN (md_N _ _) _) ?_)
    rintro r u2 ⟨rfl, hc2⟩
    exact ⟨_, rfl, rfl, hc2⟩
   ·injection ho with ho
    subst ho
    refine .inl ⟨wanted_none rfl, ?_⟩
    exact opG_val (v := .pointer (some ⟨u.heap.size, 0, none⟩)) (w' := u.alloc (.cells (num 0) 32)) (by generalize ac.eval = ρ; simp [go_sem, execOp, zero25.1]) ⟨_, rfl, Ar.new _ _ _, hc.size⟩ ((Chg.refl _).alloc _)
  ·intro o u V ho hV hc
   injection ho with ho
   subst ho
   refine ⟨rfl, ?_⟩
   have q43 : V 0 = .agg (num ((dN : Int))) := hV 0 (by decide)
   have q44 : V 1 = .pointer (some ⟨w.heap.size, 12, none⟩) := hV 1 (by decide)
   have q45 : V 2 = .agg (num t) := hV 2 (by decide)
   have q46 : V 3 = .pointer (some ⟨w.heap.size + 1, 12, none⟩) := hV 3 (by decide)
   have q47 : V 4 = .agg (num t') := hV 4 (by decide)
   have q48 : V 5 = .agg (num (md 1 (t * t'))) := hV 5 (by decide)
   have q49 : V 6 = .agg (num (md 1 (((dN : Int)) * (md 1 (t * t'))))) := hV 6 (by decide)
   obtain ⟨b8, q8, r8, s8⟩ := hV 7 (by decide)
   refine wp_store_mid 32 (.tmp 8) (.tmp 49) rfl b8 0 (num (md 1 (((dN : Int)) * (md 1 (t * t'))))) (Eq.trans (by rfl) q8) (Eq.trans (by rfl) q49) (by rw [num_size]; exact thereN r8) (szN _) (num_one _) ?_
   rw [show u.setCells b8 0 (num (md 1 (((dN : Int)) * (md 1 (t * t'))))).toList = u.setRow b8 (num (md 1 (((dN : Int)) * (md 1 (t * t'))))) from setRowN r8 _]
   go_wp2_with fail
   go_meet
   exact ⟨b8, q8, s8, r8.row _, hc.setRow s8 _⟩
 obtain ⟨b8, rfl, l8, ha8, hcc⟩ := hcut
 obtain ⟨w6, hw6⟩ : ∃ zz0, zz0 = wc := ⟨_, rfl⟩
 rw [← hw6] at hcc ha8 ⊢
 clear hw6
 have O8 : Hid (b7 < b8) := Nat.lt_of_lt_of_le (Ze7x5.out.2.2.2.2.2.2.lt) l8
 have Z6 : Hid (Chg w w6 ∧ Ar w6 w.heap.size (q4 x y z t) ∧ Ar w6 (w.heap.size + 1) (q4 x' y' z' t') ∧ Ar w6 (w.heap.size + 1 + 1) (q4 0 0 0 0) ∧ Ar w6 b5 (num e5x2) ∧ Ar w6 b6 (num e6x3) ∧ Ar w6 b7 (num e7x5) ∧ Ar w6 b8 (num (md 1 (((dN : Int)) * (md 1 (t * t')))))) := ⟨Ze7x5.out.1.trans hcc, Ze7x5.out.2.1.chg hcc, Ze7x5.out.2.2.1.chg hcc, Ze7x5.out.2.2.2.1.chg hcc, Ze7x5.out.2.2.2.2.1.chg hcc, Ze7x5.out.2.2.2.2.2.1.chg hcc, Ze7x5.out.2.2.2.2.2.2.chg hcc, ha8⟩
 clear hcc ha8 l8 Ze7x5
 obtain ⟨e8x6, he8x6⟩ : ∃ zz0, zz0 = md 1 (((dN : Int)) * (md 1 (t * t'))) := ⟨_, rfl⟩
 have Ee8x6 : Hid (e8x6 = md 1 (((dN : Int)) * (md 1 (t * t')))) := he8x6
 have Ne8x6 : Hid (N256 e8x6) := by show N256 e8x6; rw [he8x6]; exact md_N _ _
 have Ze8x6 : Hid (Chg w w6 ∧ Ar w6 w.heap.size (q4 x y z t) ∧ Ar w6 (w.heap.size + 1) (q4 x' y' z' t') ∧ Ar w6 (w.heap.size + 1 + 1) (q4 0 0 0 0) ∧ Ar w6 b5 (num e5x2) ∧ Ar w6 b6 (num e6x3) ∧ Ar w6 b7 (num e7x5) ∧ Ar w6 b8 (num e8x6)) := by rw [he8x6]; exact Z6.out
 clear he8x6 Z6
 go_upto_region 6 with fail
 go_cut [] from 50 to 52 (fun wc => ∃ u, Chg w6 u ∧ wc = u.setRow b8 (num (md 1 (e8x6 + e8x6))))
 case first =>
  refine regS 3 (fun j v wg => match j with
   | 0 => v = .agg (num e8x6)
   | 1 => v = .agg (num e8x6)
   | 2 => v = .agg (num (md 1 (e8x6 + e8x6)))
   | _ => True) (by kernel_rfl) (by kernel_rfl) ?_ ?_ ?_
  ·intro j v u1 u2 h hc
   match j, h with
   | 0, h => exact h
   | 1, h => exact h
   | 2, h => exact h
   | _ + 3, h => exact trivial
  ·intro i o ac u hi ho hsz hf hg hc
   have hcs : i = 0 ∨ i = 1 ∨ i = 2 := by omega
   rcases hcs with rfl | rfl | rfl
   ·injection ho with ho
    subst ho
    refine .inl ⟨wanted_none rfl, ?_⟩
    have e1 : ac.eval (.tmp 8) = .pointer (some ⟨b8, 0, none⟩) := hf 8 (by kernel_rfl)
    exact wp_load_mid 32 (.tmp 8) rfl _ _ e1 ((num e8x6).toList) _ (rangeAp (Ze8x6.out.2.2.2.2.2.2.2.chg hc)) undNum rfl (infoN _) ⟨_, rfl, rfl, Chg.refl _⟩
   ·injection ho with ho
    subst ho
    refine .inl ⟨wanted_none rfl, ?_⟩
    have e1 : ac.eval (.tmp 8) = .pointer (some ⟨b8, 0, none⟩) := hf 8 (by kernel_rfl)
    exact wp_load_mid 32 (.tmp 8) rfl _ _ e1 ((num e8x6).toList) _ (rangeAp (Ze8x6.out.2.2.2.2.2.2.2.chg hc)) undNum rfl (infoN _) ⟨_, rfl, rfl, Chg.refl _⟩
   ·injection ho with ho
    subst ho
    refine .inl ⟨wanted_none rfl, ?_⟩
    have e1 : ac.eval (.tmp 50) = .agg (num e8x6) := hg 0 (by decide) (by decide)
    have e2 : ac.eval (.tmp 51) = .agg (num e8x6) := hg 1 (by decide) (by decide)
    refine opG_go 41 Tryd.f41 #[.tmp 50, .tmp 51] #[32, 32] rfl Tryd.func41 (by kernel_rfl) (by kernel_rfl) (by simp [e1, e2]) (Calls.mono (addE_any e8x6 e8x6 (Ne8x6.out) (Ne8x6.out) _) ?_)
    rintro r u2 ⟨rfl, hc2⟩
    exact ⟨_, rfl, rfl, hc2⟩
  ·intro o u V ho hV hc
   injection ho with ho
   subst ho
   refine ⟨rfl, ?_⟩
   have q50 : V 0 = .agg (num e8x6) := hV 0 (by decide)
   have q51 : V 1 = .agg (num e8x6) := hV 1 (by decide)
   have q52 : V 2 = .agg (num (md 1 (e8x6 + e8x6))) := hV 2 (by decide)
   have hres := Ze8x6.out.2.2.2.2.2.2.2.chg hc
   refine wp_store_mid 32 (.tmp 8) (.tmp 52) rfl b8 0 (num (md 1 (e8x6 + e8x6))) (by rfl) (Eq.trans (by rfl) q52) (by rw [num_size]; exact thereN hres) (szN _) (num_one _) ?_
   rw [show u.setCells b8 0 (num (md 1 (e8x6 + e8x6))).toList = u.setRow b8 (num (md 1 (e8x6 + e8x6))) from setRowN hres _]
   go_wp2_with fail
   go_meet
   exact ⟨u, hc, rfl⟩
 obtain ⟨u, hcc, rfl⟩ := hcut
 obtain ⟨w7, hw7⟩ : ∃ zz0, zz0 = u.setRow b8 (num (md 1 (e8x6 + e8x6))) := ⟨_, rfl⟩
 have Z7 : Hid (Chg w w7 ∧ Ar w7 w.heap.size (q4 x y z t) ∧ Ar w7 (w.heap.size + 1) (q4 x' y' z' t') ∧ Ar w7 (w.heap.size + 1 + 1) (q4 0 0 0 0) ∧ Ar w7 b5 (num e5x2) ∧ Ar w7 b6 (num e6x3) ∧ Ar w7 b7 (num e7x5) ∧ Ar w7 b8 (num (md 1 (e8x6 + e8x6)))) := by
  have ordO5 := O5.out
  have ordO6 := O6.out
  have ordO7 := O7.out
  have ordO8 := O8.out
  rw [hw7]
  exact ⟨(Ze8x6.out.1.trans hcc).setRow (by omega) _, (Ze8x6.out.2.1.chg hcc).rowOther (by omega) _, (Ze8x6.out.2.2.1.chg hcc).rowOther (by omega) _, (Ze8x6.out.2.2.2.1.chg hcc).rowOther (by omega) _, (Ze8x6.out.2.2.2.2.1.chg hcc).rowOther (by omega) _, (Ze8x6.out.2.2.2.2.2.1.chg hcc).rowOther (by omega) _, (Ze8x6.out.2.2.2.2.2.2.1.chg hcc).rowOther (by omega) _, (Ze8x6.out.2.2.2.2.2.2.2.chg hcc).row _⟩
 rw [← hw7]
 clear hw7 hcc Ze8x6 u
 obtain ⟨e8x7, he8x7⟩ : ∃ zz0, zz0 = md 1 (e8x6 + e8x6) := ⟨_, rfl⟩
 have Ee8x7 : Hid (e8x7 = md 1 (e8x6 + e8x6)) := he8x7
 have Ne8x7 : Hid (N256 e8x7) := by show N256 e8x7; rw [he8x7]; exact md_N _ _
 have Ze8x7 : Hid (Chg w w7 ∧ Ar w7 w.heap.size (q4 x y z t) ∧ Ar w7 (w.heap.size + 1) (q4 x' y' z' t') ∧ Ar w7 (w.heap.size + 1 + 1) (q4 0 0 0 0) ∧ Ar w7 b5 (num e5x2) ∧ Ar w7 b6 (num e6x3) ∧ Ar w7 b7 (num e7x5) ∧ Ar w7 b8 (num e8x7)) := by rw [he8x7]; exact Z7.out
 clear he8x7 Z7
 go_upto_region 7 with fail
 go_cut [9, 10] from 9 to 58 (fun v9 v10 wc => ∃ b9 b10, v9 = .pointer (some ⟨b9, 0, none⟩) ∧ v10 = .pointer (some ⟨b10, 0, none⟩) ∧ w7.heap.size ≤ b9 ∧ w7.heap.size ≤ b10 ∧ b9 ≠ b10 ∧ Ar wc b9 (num (md 1 (e6x3 - e5x2))) ∧ Ar wc b10 (num (md 1 (e7x5 + e8x7))) ∧ Chg w7 wc)
 case first =>
  refine regT 8 (fun j => j == 6 || j == 7) (fun j v wg => match j with
   | 0 => v = .agg (num e6x3)
   | 1 => v = .agg (num e5x2)
   | 2 => v = .agg (num (md 1 (e6x3 - e5x2)))
   | 3 => v = .agg (num e7x5)
   | 4 => v = .agg (num e8x7)
   | 5 => v = .agg (num (md 1 (e7x5 + e8x7)))
   | 6 => ∃ b, v = .pointer (some ⟨b, 0, none⟩) ∧ Ar wg b (num 0) ∧ w7.heap.size ≤ b
   | 7 => ∃ b, v = .pointer (some ⟨b, 0, none⟩) ∧ Ar wg b (num 0) ∧ w7.heap.size ≤ b
   | _ => True) (by kernel_rfl) (by kernel_rfl) (by kernel_rfl) (by kernel_rfl) (by kernel_rfl) (by kernel_rfl) ?_ ?_ ?_ ?_
  ·intro j v u1 u2 h hc
   match j, h with
   | 0, h => exact h
   | 1, h => exact h
   | 2, h => exact h
   | 3, h => exact h
   | 4, h => exact h
   | 5, h => exact h
   | 6, h => (obtain ⟨b, h1, h2, h3⟩ := h; exact ⟨b, h1, h2.chg hc, h3⟩)
   | 7, h => (obtain ⟨b, h1, h2, h3⟩ := h; exact ⟨b, h1, h2.chg hc, h3⟩)
   | _ + 8, h => exact trivial
  ·intro j v u hj ha h
   have hcs : j = 6 ∨ j = 7 := by simpa using ha
   rcases hcs with rfl | rfl
   ·obtain ⟨b, h1, h2, h3⟩ := h; exact ⟨b, h1, h2.lt⟩
   ·obtain ⟨b, h1, h2, h3⟩ := h; exact ⟨b, h1, h2.lt⟩
  ·intro i o ac u hi ho hsz hf hg hc
   have hcs : i = 0 ∨ i = 1 ∨ i = 2 ∨ i = 3 ∨ i = 4 ∨ i = 5 ∨ i = 6 ∨ i = 7 := by omega
   rcases hcs with rfl | rfl | rfl | rfl | rfl | rfl | rfl | rfl
   ·injection ho with ho
    subst ho
    refine ⟨wanted_none rfl, ?_⟩
    have e1 : ac.eval (.tmp 6) = .pointer (some ⟨b6, 0, none⟩) := hf 6 (by kernel_rfl)
    exact wp_load_mid 32 (.tmp 6) rfl _ _ e1 ((num e6x3).toList) _ (rangeAp (Ze8x7.out.2.2.2.2.2.1.chg hc)) undNum rfl (infoN _) ⟨_, rfl, ⟨rfl, fun h => by cases h⟩, Chg.refl _⟩
   ·injection ho with ho
    subst ho
    refine ⟨wanted_none rfl, ?_⟩
    have e1 : ac.eval (.tmp 5) = .pointer (some ⟨b5, 0, none⟩) := hf 5 (by kernel_rfl)
    exact wp_load_mid 32 (.tmp 5) rfl _ _ e1 ((num e5x2).toList) _ (rangeAp (Ze8x7.out.2.2.2.2.1.chg hc)) undNum rfl (infoN _) ⟨_, rfl, ⟨rfl, fun h => by cases h⟩, Chg.refl _⟩
   ·injection ho with ho
    subst ho
    refine ⟨wanted_none rfl, ?_⟩
    have e1 : ac.eval (.tmp 53) = .agg (num e6x3) := hg 0 (by kernel_rfl) (by decide)
    have e2 : ac.eval (.tmp 54) = .agg (num e5x2) := hg 1 (by kernel_rfl) (by decide)
    refine opG_go 40 Tryd.f40 #[.tmp 53, .tmp 54] #[32, 32] rfl Tryd.func40 (by kernel_rfl) (by kernel_rfl) (by simp [e1, e2]) (Calls.mono (subE_any e6x3 e5x2 (Ne6x3.out) (Ne5x2.out) _) ?_)
    rintro r u2 ⟨rfl, hc2⟩
    exact ⟨_, rfl, ⟨rfl, fun h => by cases h⟩, hc2⟩
   ·injection ho with ho
    subst ho
    refine ⟨wanted_none rfl, ?_⟩
    have e1 : ac.eval (.tmp 7) = .pointer (some ⟨b7, 0, none⟩) := hf 7 (by kernel_rfl)
    exact wp_load_mid 32 (.tmp 7) rfl _ _ e1 ((num e7x5).toList) _ (rangeAp (Ze8x7.out.2.2.2.2.2.2.1.chg hc)) undNum rfl (infoN _) ⟨_, rfl, ⟨rfl, fun h => by cases h⟩, Chg.refl _⟩
   ·injection ho with ho
    subst ho
    refine ⟨wanted_none rfl, ?_⟩
    have e1 : ac.eval (.tmp 8) = .pointer (some ⟨b8, 0, none⟩) := hf 8 (by kernel_rfl)
    exact wp_load_mid 32 (.tmp 8) rfl _ _ e1 ((num e8x7).toList) _ (rangeAp (Ze8x7.out.2.2.2.2.2.2.2.chg hc)) undNum rfl (infoN _) ⟨_, rfl, ⟨rfl, fun h => by cases h⟩, Chg.refl _⟩
   ·injection ho with ho
    subst ho
    refine ⟨wanted_none rfl, ?_⟩
    have e1 : ac.eval (.tmp 56) = .agg (num e7x5) := hg 3 (by kernel_rfl) (by decide)
    have e2 : ac.eval (.tmp 57) = .agg (num e8x7) := hg 4 (by kernel_rfl) (by decide)
    refine opG_go 41 Tryd.f41 #[.tmp 56, .tmp 57] #[32, 32] rfl Tryd.func41 (by kernel_rfl) (by kernel_rfl) (by simp [e1, e2]) (Calls.mono (addE_any e7x5 e8x7 (Ne7x5.out) (Ne8x7.out) _) ?_)
    rintro r u2 ⟨rfl, hc2⟩
    exact ⟨_, rfl, ⟨rfl, fun h => by cases h⟩, hc2⟩
   ·injection ho with ho
    subst ho
    refine ⟨wanted_none rfl, ?_⟩
    exact opG_val (v := .pointer (some ⟨u.heap.size, 0, none⟩)) (w' := u.alloc (.cells (num 0) 32)) (by generalize ac.eval = ρ; simp [go_sem, execOp, zero25.1]) ⟨⟨_, rfl, Ar.new _ _ _, hc.size⟩, fun _ => rfl⟩ ((Chg.refl _).alloc _)
   ·injection ho with ho
    subst ho
    refine ⟨wanted_none rfl, ?_⟩
    exact opG_val (v := .pointer (some ⟨u.heap.size, 0, none⟩)) (w' := u.alloc (.cells (num 0) 32)) (by generalize ac.eval = ρ; simp [go_sem, execOp, zero25.1]) ⟨⟨_, rfl, Ar.new _ _ _, hc.size⟩, fun _ => rfl⟩ ((Chg.refl _).alloc _)
  ·intro o o2 u V ho ho2 hV hap hc
   injection ho with ho
   subst ho
   injection ho2 with ho2
   subst ho2
   refine ⟨rfl, rfl, ?_⟩
   have q53 : V 0 = .agg (num e6x3) := hV 0 (by decide)
   have q54 : V 1 = .agg (num e5x2) := hV 1 (by decide)
   have q55 : V 2 = .agg (num (md 1 (e6x3 - e5x2))) := hV 2 (by decide)
   have q56 : V 3 = .agg (num e7x5) := hV 3 (by decide)
   have q57 : V 4 = .agg (num e8x7) := hV 4 (by decide)
   have q58 : V 5 = .agg (num (md 1 (e7x5 + e8x7))) := hV 5 (by decide)
   obtain ⟨b9, q9, r9, s9⟩ := hV 6 (by decide)
   obtain ⟨b10, q10, r10, s10⟩ := hV 7 (by decide)
   have hne : b9 ≠ b10 := by
    have := hap 6 7 (by decide) (by decide) rfl rfl (by decide)
    rw [q9, q10] at this
    intro e; exact this (by rw [e])
   refine wp_store_mid 32 (.tmp 9) (.tmp 55) rfl b9 0 (num (md 1 (e6x3 - e5x2))) (Eq.trans (by rfl) q9) (Eq.trans (by rfl) q55) (by rw [num_size]; exact thereN r9) (szN _) (num_one _) ?_
   rw [show u.setCells b9 0 (num (md 1 (e6x3 - e5x2))).toList = u.setRow b9 (num (md 1 (e6x3 - e5x2))) from setRowN r9 _]
   have r10' := r10.rowOther hne.symm (num (md 1 (e6x3 - e5x2)))
   refine wp_store_mid 32 (.tmp 10) (.tmp 58) rfl b10 0 (num (md 1 (e7x5 + e8x7))) (Eq.trans (by rfl) q10) (Eq.trans (by rfl) q58) (by rw [num_size]; exact thereN r10') (szN _) (num_one _) ?_
   rw [show (u.setRow b9 (num (md 1 (e6x3 - e5x2)))).setCells b10 0 (num (md 1 (e7x5 + e8x7))).toList = (u.setRow b9 (num (md 1 (e6x3 - e5x2)))).setRow b10 (num (md 1 (e7x5 + e8x7))) from setRowN r10' _]
   go_wp2_with fail
   go_meet
   exact ⟨b9, b10, q9, q10, s9, s10, hne, (r9.row _).rowOther hne _, r10'.row _, (hc.setRow s9 _).setRow s10 _⟩
 obtain ⟨b9, b10, rfl, rfl, l9, l10, hne, ha9, ha10, hcc⟩ := hcut
 obtain ⟨w8, hw8⟩ : ∃ zz0, zz0 = wc := ⟨_, rfl⟩
 rw [← hw8] at hcc ha9 ha10 ⊢
 clear hw8
 have O9 : Hid (b9 ≠ b10 ∧ w.heap.size < b9 ∧ w.heap.size < b10 ∧ w.heap.size + 1 < b9 ∧ w.heap.size + 1 < b10 ∧ w.heap.size + 1 + 1 < b9 ∧ w.heap.size + 1 + 1 < b10 ∧ b5 < b9 ∧ b5 < b10 ∧ b6 < b9 ∧ b6 < b10 ∧ b7 < b9 ∧ b7 < b10 ∧ b8 < b9 ∧ b8 < b10) := ⟨hne, Nat.lt_of_lt_of_le (Ze8x7.out.2.1.lt) l9, Nat.lt_of_lt_of_le (Ze8x7.out.2.1.lt) l10, Nat.lt_of_lt_of_le (Ze8x7.out.2.2.1.lt) l9, Nat.lt_of_lt_of_le (Ze8x7.out.2.2.1.lt) l10, Nat.lt_of_lt_of_le (Ze8x7.out.2.2.2.1.lt) l9, Nat.lt_of_lt_of_le (Ze8x7.out.2.2.2.1.lt) l10, Nat.lt_of_lt_of_le (Ze8x7.out.2.2.2.2.1.lt) l9, Nat.lt_of_lt_of_le (Ze8x7.out.2.2.2.2.1.lt) l10, Nat.lt_of_lt_of_le (Ze8x7.out.2.2.2.2.2.1.lt) l9, Nat.lt_of_lt_of_le (Ze8x7.out.2.2.2.2.2.1.lt) l10, Nat.lt_of_lt_of_le (Ze8x7.out.2.2.2.2.2.2.1.lt) l9, Nat.lt_of_lt_of_le (Ze8x7.out.2.2.2.2.2.2.1.lt) l10, Nat.lt_of_lt_of_le (Ze8x7.out.2.2.2.2.2.2.2.lt) l9, Nat.lt_of_lt_of_le (Ze8x7.out.2.2.2.2.2.2.2.lt) l10⟩
 have Z8 : Hid (Chg w w8 ∧ Ar w8 w.heap.size (q4 x y z t) ∧ Ar w8 (w.heap.size + 1) (q4 x' y' z' t') ∧ Ar w8 (w.heap.size + 1 + 1) (q4 0 0 0 0) ∧ Ar w8 b5 (num e5x2) ∧ Ar w8 b6 (num e6x3) ∧ Ar w8 b7 (num e7x5) ∧ Ar w8 b8 (num e8x7) ∧ Ar w8 b9 (num (md 1 (e6x3 - e5x2))) ∧ Ar w8 b10 (num (md 1 (e7x5 + e8x7)))) := ⟨Ze8x7.out.1.trans hcc, Ze8x7.out.2.1.chg hcc, Ze8x7.out.2.2.1.chg hcc, Ze8x7.out.2.2.2.1.chg hcc, Ze8x7.out.2.2.2.2.1.chg hcc, Ze8x7.out.2.2.2.2.2.1.chg hcc, Ze8x7.out.2.2.2.2.2.2.1.chg hcc, Ze8x7.out.2.2.2.2.2.2.2.chg hcc, ha9, ha10⟩
 clear hcc hne ha9 ha10 l9 l10 Ze8x7
 obtain ⟨e9x8, he9x8⟩ : ∃ zz0, zz0 = md 1 (e6x3 - e5x2) := ⟨_, rfl⟩
 have Ee9x8 : Hid (e9x8 = md 1 (e6x3 - e5x2)) := he9x8
 have Ne9x8 : Hid (N256 e9x8) := by show N256 e9x8; rw [he9x8]; exact md_N _ _
 have Ze9x8 : Hid (Chg w w8 ∧ Ar w8 w.heap.size (q4 x y z t) ∧ Ar w8 (w.heap.size + 1) (q4 x' y' z' t') ∧ Ar w8 (w.heap.size + 1 + 1) (q4 0 0 0 0) ∧ Ar w8 b5 (num e5x2) ∧ Ar w8 b6 (num e6x3) ∧ Ar w8 b7 (num e7x5) ∧ Ar w8 b8 (num e8x7) ∧ Ar w8 b9 (num e9x8) ∧ Ar w8 b10 (num (md 1 (e7x5 + e8x7)))) := by rw [he9x8]; exact Z8.out
 clear he9x8 Z8
 obtain ⟨e10x8, he10x8⟩ : ∃ zz0, zz0 = md 1 (e7x5 + e8x7) := ⟨_, rfl⟩
 have Ee10x8 : Hid (e10x8 = md 1 (e7x5 + e8x7)) := he10x8
 have Ne10x8 : Hid (N256 e10x8) := by show N256 e10x8; rw [he10x8]; exact md_N _ _
 have Ze10x8 : Hid (Chg w w8 ∧ Ar w8 w.heap.size (q4 x y z t) ∧ Ar w8 (w.heap.size + 1) (q4 x' y' z' t') ∧ Ar w8 (w.heap.size + 1 + 1) (q4 0 0 0 0) ∧ Ar w8 b5 (num e5x2) ∧ Ar w8 b6 (num e6x3) ∧ Ar w8 b7 (num e7x5) ∧ Ar w8 b8 (num e8x7) ∧ Ar w8 b9 (num e9x8) ∧ Ar w8 b10 (num e10x8)) := by rw [he10x8]; exact Ze9x8.out
 clear he10x8 Ze9x8
 go_upto_region 8 with fail
 go_cut [11, 12] from 11 to 64 (fun v11 v12 wc => ∃ b11 b12, v11 = .pointer (some ⟨b11, 0, none⟩) ∧ v12 = .pointer (some ⟨b12, 0, none⟩) ∧ w8.heap.size ≤ b11 ∧ w8.heap.size ≤ b12 ∧ b11 ≠ b12 ∧ Ar wc b11 (num (md 1 (e6x3 + e5x2))) ∧ Ar wc b12 (num (md 1 (e7x5 - e8x7))) ∧ Chg w8 wc)
 case first =>
  refine regT 8 (fun j => j == 6 || j == 7) (fun j v wg => match j with
   | 0 => v = .agg (num e6x3)
   | 1 => v = .agg (num e5x2)
   | 2 => v = .agg (num (md 1 (e6x3 + e5x2)))
   | 3 => v = .agg (num e7x5)
   | 4 => v = .agg (num e8x7)
   | 5 => v = .agg (num (md 1 (e7x5 - e8x7)))
   | 6 => ∃ b, v = .pointer (some ⟨b, 0, none⟩) ∧ Ar wg b (num 0) ∧ w8.heap.size ≤ b
   | 7 => ∃ b, v = .pointer (some ⟨b, 0, none⟩) ∧ Ar wg b (num 0) ∧ w8.heap.size ≤ b
   | _ => True) (by kernel_rfl) (by kernel_rfl) (by kernel_rfl) (by kernel_rfl) (by kernel_rfl) (by kernel_rfl) ?_ ?_ ?_ ?_
  ·intro j v u1 u2 h hc
   match j, h with
   | 0, h => exact h
   | 1, h => exact h
   | 2, h => exact h
   | 3, h => exact h
   | 4, h => exact h
   | 5, h => exact h
   | 6, h => (obtain ⟨b, h1, h2, h3⟩ := h; exact ⟨b, h1, h2.chg hc, h3⟩)
   | 7, h => (obtain ⟨b, h1, h2, h3⟩ := h; exact ⟨b, h1, h2.chg hc, h3⟩)
   | _ + 8, h => exact trivial
  ·intro j v u hj ha h
   have hcs : j = 6 ∨ j = 7 := by simpa using ha
   rcases hcs with rfl | rfl
   ·obtain ⟨b, h1, h2, h3⟩ := h; exact ⟨b, h1, h2.lt⟩
   ·obtain ⟨b, h1, h2, h3⟩ := h; exact ⟨b, h1, h2.lt⟩
  ·intro i o ac u hi ho hsz hf hg hc
   have hcs : i = 0 ∨ i = 1 ∨ i = 2 ∨ i = 3 ∨ i = 4 ∨ i = 5 ∨ i = 6 ∨ i = 7 := by omega
   rcases hcs with rfl | rfl | rfl | rfl | rfl | rfl | rfl | rfl
   ·injection ho with ho
    subst ho
    refine ⟨wanted_none rfl, ?_⟩
    have e1 : ac.eval (.tmp 6) = .pointer (some ⟨b6, 0, none⟩) := hf 6 (by kernel_rfl)
    exact wp_load_mid 32 (.tmp 6) rfl _ _ e1 ((num e6x3).toList) _ (rangeAp (Ze10x8.out.2.2.2.2.2.1.chg hc)) undNum rfl (infoN _) ⟨_, rfl, ⟨rfl, fun h => by cases h⟩, Chg.refl _⟩
   ·injection ho with ho
    subst ho
    refine ⟨wanted_none rfl, ?_⟩
    have e1 : ac.eval (.tmp 5) = .pointer (some ⟨b5, 0, none⟩) := hf 5 (by kernel_rfl)
    exact wp_load_mid 32 (.tmp 5) rfl _ _ e1 ((num e5x2).toList) _ (rangeAp (Ze10x8.out.2.2.2.2.1.chg hc)) undNum rfl (infoN _) ⟨_, rfl, ⟨rfl, fun h => by cases h⟩, Chg.refl _⟩
   ·injection ho with ho
    subst ho
    refine ⟨wanted_none rfl, ?_⟩
    have e1 : ac.eval (.tmp 59) = .agg (num e6x3) := hg 0 (by kernel_rfl) (by decide)
    have e2 : ac.eval (.tmp 60) = .agg (num e5x2) := hg 1 (by kernel_rfl) (by decide)
    refine opG_go 41 Tryd.f41 #[.tmp 59, .tmp 60] #[32, 32] rfl Tryd.func41 (by kernel_rfl) (by kernel_rfl) (by simp [e1, e2]) (Calls.mono (addE_any e6x3 e5x2 (Ne6x3.out) (Ne5x2.out) _) ?_)
    rintro r u2 ⟨rfl, hc2⟩
    exact ⟨_, rfl, ⟨rfl, fun h => by cases h⟩, hc2⟩
   ·injection ho with ho
    subst ho
    refine ⟨wanted_none rfl, ?_⟩
    have e1 : ac.eval (.tmp 7) = .pointer (some ⟨b7, 0, none⟩) := hf 7 (by kernel_rfl)
    exact wp_load_mid 32 (.tmp 7) rfl _ _ e1 ((num e7x5).toList) _ (rangeAp (Ze10x8.out.2.2.2.2.2.2.1.chg hc)) undNum rfl (infoN _) ⟨_, rfl, ⟨rfl, fun h => by cases h⟩, Chg.refl _⟩
   ·injection ho with ho
    subst ho
    refine ⟨wanted_none rfl, ?_⟩
    have e1 : ac.eval (.tmp 8) = .pointer (some ⟨b8, 0, none⟩) := hf 8 (by kernel_rfl)
    exact wp_load_mid 32 (.tmp 8) rfl _ _ e1 ((num e8x7).toList) _ (rangeAp (Ze10x8.out.2.2.2.2.2.2.2.1.chg hc)) undNum rfl (infoN _) ⟨_, rfl, ⟨rfl, fun h => by cases h⟩, Chg.refl _⟩
   ·injection ho with ho
    subst ho
    refine ⟨wanted_none rfl, ?_⟩
    have e1 : ac.eval (.tmp 62) = .agg (num e7x5) := hg 3 (by kernel_rfl) (by decide)
    have e2 : ac.eval (.tmp 63) = .agg (num e8x7) := hg 4 (by kernel_rfl) (by decide)
    refine opG_go 40 Tryd.f40 #[.tmp 62, .tmp 63] #[32, 32] rfl Tryd.func40 (by kernel_rfl) (by kernel_rfl) (by simp [e1, e2]) (Calls.mono (subE_any e7x5 e8x7 (Ne7x5.out) (Ne8x7.out) _) ?_)
    rintro r u2 ⟨rfl, hc2⟩
    exact ⟨_, rfl, ⟨rfl, fun h => by cases h⟩, hc2⟩
   ·injection ho with ho
    subst ho
    refine ⟨wanted_none rfl, ?_⟩
    exact opG_val (v := .pointer (some ⟨u.heap.size, 0, none⟩)) (w' := u.alloc (.cells (num 0) 32)) (by generalize ac.eval = ρ; simp [go_sem, execOp, zero25.1]) ⟨⟨_, rfl, Ar.new _ _ _, hc.size⟩, fun _ => rfl⟩ ((Chg.refl _).alloc _)
   ·injection ho with ho
    subst ho
    refine ⟨wanted_none rfl, ?_⟩
    exact opG_val (v := .pointer (some ⟨u.heap.size, 0, none⟩)) (w' := u.alloc (.cells (num 0) 32)) (by generalize ac.eval = ρ; simp [go_sem, execOp, zero25.1]) ⟨⟨_, rfl, Ar.new _ _ _, hc.size⟩, fun _ => rfl⟩ ((Chg.refl _).alloc _)
  ·intro o o2 u V ho ho2 hV hap hc
   injection ho with ho
   subst ho
   injection ho2 with ho2
   subst ho2
   refine ⟨rfl, rfl, ?_⟩
   have q59 : V 0 = .agg (num e6x3) := hV 0 (by decide)
   have q60 : V 1 = .agg (num e5x2) := hV 1 (by decide)
   have q61 : V 2 = .agg (num (md 1 (e6x3 + e5x2))) := hV 2 (by decide)
   have q62 : V 3 = .agg (num e7x5) := hV 3 (by decide)
   have q63 : V 4 = .agg (num e8x7) := hV 4 (by decide)
   have q64 : V 5 = .agg (num (md 1 (e7x5 - e8x7))) := hV 5 (by decide)
   obtain ⟨b11, q11, r11, s11⟩ := hV 6 (by decide)
   obtain ⟨b12, q12, r12, s12⟩ := hV 7 (by decide)
   have hne : b11 ≠ b12 := by
    have := hap 6 7 (by decide) (by decide) rfl rfl (by decide)
    rw [q11, q12] at this
    intro e; exact this (by rw [e])
   refine wp_store_mid 32 (.tmp 11) (.tmp 61) rfl b11 0 (num (md 1 (e6x3 + e5x2))) (Eq.trans (by rfl) q11) (Eq.trans (by rfl) q61) (by rw [num_size]; exact thereN r11) (szN _) (num_one _) ?_
   rw [show u.setCells b11 0 (num (md 1 (e6x3 + e5x2))).toList = u.setRow b11 (num (md 1 (e6x3 + e5x2))) from setRowN r11 _]
   have r12' := r12.rowOther hne.symm (num (md 1 (e6x3 + e5x2)))
   refine wp_store_mid 32 (.tmp 12) (.tmp 64) rfl b12 0 (num (md 1 (e7x5 - e8x7))) (Eq.trans (by rfl) q12) (Eq.trans (by rfl) q64) (by rw [num_size]; exact thereN r12') (szN _) (num_one _) ?_
   rw [show (u.setRow b11 (num (md 1 (e6x3 + e5x2)))).setCells b12 0 (num (md 1 (e7x5 - e8x7))).toList = (u.setRow b11 (num (md 1 (e6x3 + e5x2)))).setRow b12 (num (md 1 (e7x5 - e8x7))) from setRowN r12' _]
   go_wp2_with fail
   go_meet
   exact ⟨b11, b12, q11, q12, s11, s12, hne, (r11.row _).rowOther hne _, r12'.row _, (hc.setRow s11 _).setRow s12 _⟩
 obtain ⟨b11, b12, rfl, rfl, l11, l12, hne, ha11, ha12, hcc⟩ := hcut
 obtain ⟨w9, hw9⟩ : ∃ zz0, zz0 = wc := ⟨_, rfl⟩
 rw [← hw9] at hcc ha11 ha12 ⊢
 clear hw9
 have O11 : Hid (b11 ≠ b12 ∧ w.heap.size < b11 ∧ w.heap.size < b12 ∧ w.heap.size + 1 < b11 ∧ w.heap.size + 1 < b12 ∧ w.heap.size + 1 + 1 < b11 ∧ w.heap.size + 1 + 1 < b12 ∧ b5 < b11 ∧ b5 < b12 ∧ b6 < b11 ∧ b6 < b12 ∧ b7 < b11 ∧ b7 < b12 ∧ b8 < b11 ∧ b8 < b12 ∧ b9 < b11 ∧ b9 < b12 ∧ b10 < b11 ∧ b10 < b12) := ⟨hne, Nat.lt_of_lt_of_le (Ze10x8.out.2.1.lt) l11, Nat.lt_of_lt_of_le (Ze10x8.out.2.1.lt) l12, Nat.lt_of_lt_of_le (Ze10x8.out.2.2.1.lt) l11, Nat.lt_of_lt_of_le (Ze10x8.out.2.2.1.lt) l12, Nat.lt_of_lt_of_le (Ze10x8.out.2.2.2.1.lt) l11, Nat.lt_of_lt_of_le (Ze10x8.out.2.2.2.1.lt) l12, Nat.lt_of_lt_of_le (Ze10x8.out.2.2.2.2.1.lt) l11, Nat.lt_of_lt_of_le (Ze10x8.out.2.2.2.2.1.lt) l12, Nat.lt_of_lt_of_le (Ze10x8.out.2.2.2.2.2.1.lt) l11, Nat.lt_of_lt_of_le (Ze10x8.out.2.2.2.2.2.1.lt) l12, Nat.lt_of_lt_of_le (Ze10x8.out.2.2.2.2.2.2.1.lt) l11, Nat.lt_of_lt_of_le (Ze10x8.out.2.2.2.2.2.2.1.lt) l12, Nat.lt_of_lt_of_le (Ze10x8.out.2.2.2.2.2.2.2.1.lt) l11, Nat.lt_of_lt_of_le (Ze10x8.out.2.2.2.2.2.2.2.1.lt) l12, Nat.lt_of_lt_of_le (Ze10x8.out.2.2.2.2.2.2.2.2.1.lt) l11, Nat.lt_of_lt_of_le (Ze10x8.out.2.2.2.2.2.2.2.2.1.lt) l12, Nat.lt_of_lt_of_le (Ze10x8.out.2.2.2.2.2.2.2.2.2.lt) l11, Nat.lt_of_lt_of_le (Ze10x8.out.2.2.2.2.2.2.2.2.2.lt) l12⟩
 have Z9 : Hid (Chg w w9 ∧ Ar w9 w.heap.size (q4 x y z t) ∧ Ar w9 (w.heap.size + 1) (q4 x' y' z' t') ∧ Ar w9 (w.heap.size + 1 + 1) (q4 0 0 0 0) ∧ Ar w9 b5 (num e5x2) ∧ Ar w9 b6 (num e6x3) ∧ Ar w9 b7 (num e7x5) ∧ Ar w9 b8 (num e8x7) ∧ Ar w9 b9 (num e9x8) ∧ Ar w9 b10 (num e10x8) ∧ Ar w9 b11 (num (md 1 (e6x3 + e5x2))) ∧ Ar w9 b12 (num (md 1 (e7x5 - e8x7)))) := ⟨Ze10x8.out.1.trans hcc, Ze10x8.out.2.1.chg hcc, Ze10x8.out.2.2.1.chg hcc, Ze10x8.out.2.2.2.1.chg hcc, Ze10x8.out.2.2.2.2.1.chg hcc, Ze10x8.out.2.2.2.2.2.1.chg hcc, Ze10x8.out.2.2.2.2.2.2.1.chg hcc, Ze10x8.out.2.2.2.2.2.2.2.1.chg hcc, Ze10x8.out.2.2.2.2.2.2.2.2.1.chg hcc, Ze10x8.out.2.2.2.2.2.2.2.2.2.chg hcc, ha11, ha12⟩
 clear hcc hne ha11 ha12 l11 l12 Ze10x8
 obtain ⟨e11x9, he11x9⟩ : ∃ zz0, zz0 = md 1 (e6x3 + e5x2) := ⟨_, rfl⟩
 have Ee11x9 : Hid (e11x9 = md 1 (e6x3 + e5x2)) := he11x9
 have Ne11x9 : Hid (N256 e11x9) := by show N256 e11x9; rw [he11x9]; exact md_N _ _
 have Ze11x9 : Hid (Chg w w9 ∧ Ar w9 w.heap.size (q4 x y z t) ∧ Ar w9 (w.heap.size + 1) (q4 x' y' z' t') ∧ Ar w9 (w.heap.size + 1 + 1) (q4 0 0 0 0) ∧ Ar w9 b5 (num e5x2) ∧ Ar w9 b6 (num e6x3) ∧ Ar w9 b7 (num e7x5) ∧ Ar w9 b8 (num e8x7) ∧ Ar w9 b9 (num e9x8) ∧ Ar w9 b10 (num e10x8) ∧ Ar w9 b11 (num e11x9) ∧ Ar w9 b12 (num (md 1 (e7x5 - e8x7)))) := by rw [he11x9]; exact Z9.out
 clear he11x9 Z9
 obtain ⟨e12x9, he12x9⟩ : ∃ zz0, zz0 = md 1 (e7x5 - e8x7) := ⟨_, rfl⟩
 have Ee12x9 : Hid (e12x9 = md 1 (e7x5 - e8x7)) := he12x9
 have Ne12x9 : Hid (N256 e12x9) := by show N256 e12x9; rw [he12x9]; exact md_N _ _
 have Ze12x9 : Hid (Chg w w9 ∧ Ar w9 w.heap.size (q4 x y z t) ∧ Ar w9 (w.heap.size + 1) (q4 x' y' z' t') ∧ Ar w9 (w.heap.size + 1 + 1) (q4 0 0 0 0) ∧ Ar w9 b5 (num e5x2) ∧ Ar w9 b6 (num e6x3) ∧ Ar w9 b7 (num e7x5) ∧ Ar w9 b8 (num e8x7) ∧ Ar w9 b9 (num e9x8) ∧ Ar w9 b10 (num e10x8) ∧ Ar w9 b11 (num e11x9) ∧ Ar w9 b12 (num e12x9)) := by rw [he12x9]; exact Ze11x9.out
 clear he12x9 Ze11x9
 go_upto_region 9 with fail
 go_cut [] from 65 to 77 (fun wc => ∃ u, Chg w9 u ∧ wc = u.setRow (w.heap.size + 1 + 1) (q4 (md 1 (e9x8 * e12x9)) (md 1 (e11x9 * e10x8)) (md 1 (e10x8 * e12x9)) (md 1 (e9x8 * e11x9))))
 case first =>
  refine regA 13 (fun j v wg => match j with
   | 0 => v = .agg (num e9x8)
   | 1 => v = .agg (num e12x9)
   | 2 => v = .agg (num (md 1 (e9x8 * e12x9)))
   | 3 => v = .agg (num e11x9)
   | 4 => v = .agg (num e10x8)
   | 5 => v = .agg (num (md 1 (e11x9 * e10x8)))
   | 6 => v = .agg (num e10x8)
   | 7 => v = .agg (num e12x9)
   | 8 => v = .agg (num (md 1 (e10x8 * e12x9)))
   | 9 => v = .agg (num e9x8)
   | 10 => v = .agg (num e11x9)
   | 11 => v = .agg (num (md 1 (e9x8 * e11x9)))
   | 12 => v = .agg (q4 (md 1 (e9x8 * e12x9)) (md 1 (e11x9 * e10x8)) (md 1 (e10x8 * e12x9)) (md 1 (e9x8 * e11x9)))
   | _ => True) (by kernel_rfl) (by kernel_rfl) (by kernel_rfl) (by kernel_rfl) (by kernel_rfl) ?_ ?_ ?_
  ·intro j v u1 u2 h hc
   match j, h with
   | 0, h => exact h
   | 1, h => exact h
   | 2, h => exact h
   | 3, h => exact h
   | 4, h => exact h
   | 5, h => exact h
   | 6, h => exact h
   | 7, h => exact h
   | 8, h => exact h
   | 9, h => exact h
   | 10, h => exact h
   | 11, h => exact h
   | 12, h => exact h
   | _ + 13, h => exact trivial
  ·intro i o ac u hi ho hsz hf hg hc
   have hcs : i = 0 ∨ i = 1 ∨ i = 2 ∨ i = 3 ∨ i = 4 ∨ i = 5 ∨ i = 6 ∨ i = 7 ∨ i = 8 ∨ i = 9 ∨ i = 10 ∨ i = 11 ∨ i = 12 := by omega
   rcases hcs with rfl | rfl | rfl | rfl | rfl | rfl | rfl | rfl | rfl | rfl | rfl | rfl | rfl
   ·injection ho with ho
    subst ho
    refine .inl ⟨wanted_none rfl, ?_⟩
    have e1 : ac.eval (.tmp 9) = .pointer (some ⟨b9, 0, none⟩) := hf 9 (by kernel_rfl)
    exact wp_load_mid 32 (.tmp 9) rfl _ _ e1 ((num e9x8).toList) _ (rangeAp (Ze12x9.out.2.2.2.2.2.2.2.2.1.chg hc)) undNum rfl (infoN _) ⟨_, rfl, rfl, Chg.refl _⟩
   ·injection ho with ho
    subst ho
    refine .inl ⟨wanted_none rfl, ?_⟩
    have e1 : ac.eval (.tmp 12) = .pointer (some ⟨b12, 0, none⟩) := hf 12 (by kernel_rfl)
    exact wp_load_mid 32 (.tmp 12) rfl _ _ e1 ((num e12x9).toList) _ (rangeAp (Ze12x9.out.2.2.2.2.2.2.2.2.2.2.2.chg hc)) undNum rfl (infoN _) ⟨_, rfl, rfl, Chg.refl _⟩
   ·injection ho with ho
    subst ho
    refine .inl ⟨wanted_none rfl, ?_⟩
    have e1 : ac.eval (.tmp 65) = .agg (num e9x8) := hg 0 (by kernel_rfl) (by decide)
    have e2 : ac.eval (.tmp 66) = .agg (num e12x9) := hg 1 (by kernel_rfl) (by decide)
    refine opG_go 39 Tryd.f39 #[.tmp 65, .tmp 66] #[32, 32] rfl Tryd.func39 (by kernel_rfl) (by kernel_rfl) (by simp [e1, e2]) (Calls.mono (mulE_any e9x8 e12x9 (Ne9x8.out) (Ne12x9.out) _) ?_)
    rintro r u2 ⟨rfl, hc2⟩
    exact ⟨_, rfl, rfl, hc2⟩
   ·injection ho with ho
    subst ho
    refine .inl ⟨wanted_none rfl, ?_⟩
    have e1 : ac.eval (.tmp 11) = .pointer (some ⟨b11, 0, none⟩) := hf 11 (by kernel_rfl)
    exact wp_load_mid 32 (.tmp 11) rfl _ _ e1 ((num e11x9).toList) _ (rangeAp (Ze12x9.out.2.2.2.2.2.2.2.2.2.2.1.chg hc)) undNum rfl (infoN _) ⟨_, rfl, rfl, Chg.refl _⟩
   ·injection ho with ho
    subst ho
    refine .inl ⟨wanted_none rfl, ?_⟩
    have e1 : ac.eval (.tmp 10) = .pointer (some ⟨b10, 0, none⟩) := hf 10 (by kernel_rfl)
    exact wp_load_mid 32 (.tmp 10) rfl _ _ e1 ((num e10x8).toList) _ (rangeAp (Ze12x9.out.2.2.2.2.2.2.2.2.2.1.chg hc)) undNum rfl (infoN _) ⟨_, rfl, rfl, Chg.refl _⟩
   ·injection ho with ho
    subst ho
    refine .inl ⟨wanted_none rfl, ?_⟩
    have e1 : ac.eval (.tmp 68) = .agg (num e11x9) := hg 3 (by kernel_rfl) (by decide)
    have e2 : ac.eval (.tmp 69) = .agg (num e10x8) := hg 4 (by kernel_rfl) (by decide)
    refine opG_go 39 Tryd.f39 #[.tmp 68, .tmp 69] #[32, 32] rfl Tryd.func39 (by kernel_rfl) (by kernel_rfl) (by simp [e1, e2]) (Calls.mono (mulE_any e11x9 e10x8 (Ne11x9.out) (Ne10x8.out) _) ?_)
    rintro r u2 ⟨rfl, hc2⟩
    exact ⟨_, rfl, rfl, hc2⟩
   ·injection ho with ho
    subst ho
    refine .inl ⟨wanted_none rfl, ?_⟩
    have e1 : ac.eval (.tmp 10) = .pointer (some ⟨b10, 0, none⟩) := hf 10 (by kernel_rfl)
    exact wp_load_mid 32 (.tmp 10) rfl _ _ e1 ((num e10x8).toList) _ (rangeAp (Ze12x9.out.2.2.2.2.2.2.2.2.2.1.chg hc)) undNum rfl (infoN _) ⟨_, rfl, rfl, Chg.refl _⟩
   ·injection ho with ho
    subst ho
    refine .inl ⟨wanted_none rfl, ?_⟩
    have e1 : ac.eval (.tmp 12) = .pointer (some ⟨b12, 0, none⟩) := hf 12 (by kernel_rfl)
    exact wp_load_mid 32 (.tmp 12) rfl _ _ e1 ((num e12x9).toList) _ (rangeAp (Ze12x9.out.2.2.2.2.2.2.2.2.2.2.2.chg hc)) undNum rfl (infoN _) ⟨_, rfl, rfl, Chg.refl _⟩
   ·injection ho with ho
    subst ho
    refine .inl ⟨wanted_none rfl, ?_⟩
    have e1 : ac.eval (.tmp 71) = .agg (num e10x8) := hg 6 (by kernel_rfl) (by decide)
    have e2 : ac.eval (.tmp 72) = .agg (num e12x9) := hg 7 (by kernel_rfl) (by decide)
    refine opG_go 39 Tryd.f39 #[.tmp 71, .tmp 72] #[32, 32] rfl Tryd.func39 (by kernel_rfl) (by kernel_rfl) (by simp [e1, e2]) (Calls.mono (mulE_any e10x8 e12x9 (Ne10x8.out) (Ne12x9.out) _) ?_)
    rintro r u2 ⟨rfl, hc2⟩
    exact ⟨_, rfl, rfl, hc2⟩
   ·injection ho with ho
    subst ho
    refine .inl ⟨wanted_none rfl, ?_⟩
    have e1 : ac.eval (.tmp 9) = .pointer (some ⟨b9, 0, none⟩) := hf 9 (by kernel_rfl)
    exact wp_load_mid 32 (.tmp 9) rfl _ _ e1 ((num e9x8).toList) _ (rangeAp (Ze12x9.out.2.2.2.2.2.2.2.2.1.chg hc)) undNum rfl (infoN _) ⟨_, rfl, rfl, Chg.refl _⟩
   ·injection ho with ho
    subst ho
    refine .inl ⟨wanted_none rfl, ?_⟩
    have e1 : ac.eval (.tmp 11) = .pointer (some ⟨b11, 0, none⟩) := hf 11 (by kernel_rfl)
    exact wp_load_mid 32 (.tmp 11) rfl _ _ e1 ((num e11x9).toList) _ (rangeAp (Ze12x9.out.2.2.2.2.2.2.2.2.2.2.1.chg hc)) undNum rfl (infoN _) ⟨_, rfl, rfl, Chg.refl _⟩
   ·injection ho with ho
    subst ho
    refine .inl ⟨wanted_none rfl, ?_⟩
    have e1 : ac.eval (.tmp 74) = .agg (num e9x8) := hg 9 (by kernel_rfl) (by decide)
    have e2 : ac.eval (.tmp 75) = .agg (num e11x9) := hg 10 (by kernel_rfl) (by decide)
    refine opG_go 39 Tryd.f39 #[.tmp 74, .tmp 75] #[32, 32] rfl Tryd.func39 (by kernel_rfl) (by kernel_rfl) (by simp [e1, e2]) (Calls.mono (mulE_any e9x8 e11x9 (Ne9x8.out) (Ne11x9.out) _) ?_)
    rintro r u2 ⟨rfl, hc2⟩
    exact ⟨_, rfl, rfl, hc2⟩
   ·injection ho with ho
    subst ho
    refine .inl ⟨wanted_none rfl, ?_⟩
    have e1 : ac.eval (.tmp 67) = .agg (num (md 1 (e9x8 * e12x9))) := hg 2 (by kernel_rfl) (by decide)
    have e2 : ac.eval (.tmp 70) = .agg (num (md 1 (e11x9 * e10x8))) := hg 5 (by kernel_rfl) (by decide)
    have e3 : ac.eval (.tmp 73) = .agg (num (md 1 (e10x8 * e12x9))) := hg 8 (by kernel_rfl) (by decide)
    have e4 : ac.eval (.tmp 76) = .agg (num (md 1 (e9x8 * e11x9))) := hg 11 (by kernel_rfl) (by decide)
    exact opG_P4 (.tmp 67) (.tmp 70) (.tmp 73) (.tmp 76) rfl e1 e2 e3 e4 rfl
  ·intro o u V ho hV hc
   injection ho with ho
   subst ho
   refine ⟨rfl, ?_⟩
   have q65 : V 0 = .agg (num e9x8) := hV 0 (by decide)
   have q66 : V 1 = .agg (num e12x9) := hV 1 (by decide)
   have q67 : V 2 = .agg (num (md 1 (e9x8 * e12x9))) := hV 2 (by decide)
   have q68 : V 3 = .agg (num e11x9) := hV 3 (by decide)
   have q69 : V 4 = .agg (num e10x8) := hV 4 (by decide)
   have q70 : V 5 = .agg (num (md 1 (e11x9 * e10x8))) := hV 5 (by decide)
   have q71 : V 6 = .agg (num e10x8) := hV 6 (by decide)
   have q72 : V 7 = .agg (num e12x9) := hV 7 (by decide)
   have q73 : V 8 = .agg (num (md 1 (e10x8 * e12x9))) := hV 8 (by decide)
   have q74 : V 9 = .agg (num e9x8) := hV 9 (by decide)
   have q75 : V 10 = .agg (num e11x9) := hV 10 (by decide)
   have q76 : V 11 = .agg (num (md 1 (e9x8 * e11x9))) := hV 11 (by decide)
   have q77 : V 12 = .agg (q4 (md 1 (e9x8 * e12x9)) (md 1 (e11x9 * e10x8)) (md 1 (e10x8 * e12x9)) (md 1 (e9x8 * e11x9))) := hV 12 (by decide)
   have hres := Ze12x9.out.2.2.2.1.chg hc
   refine wp_store_mid 44 (.tmp 4) (.tmp 77) rfl (w.heap.size + 1 + 1) 0 (q4 (md 1 (e9x8 * e12x9)) (md 1 (e11x9 * e10x8)) (md 1 (e10x8 * e12x9)) (md 1 (e9x8 * e11x9))) (by rfl) (Eq.trans (by rfl) q77) (by rw [q4_size]; exact nms_there hres 0 4 (by omega)) (szP4 _ _ _ _) (q4_one _ _ _ _) ?_
   rw [show u.setCells (w.heap.size + 1 + 1) 0 (q4 (md 1 (e9x8 * e12x9)) (md 1 (e11x9 * e10x8)) (md 1 (e10x8 * e12x9)) (md 1 (e9x8 * e11x9))).toList = u.setRow (w.heap.size + 1 + 1) (q4 (md 1 (e9x8 * e12x9)) (md 1 (e11x9 * e10x8)) (md 1 (e10x8 * e12x9)) (md 1 (e9x8 * e11x9))) from setRowP4 hres _ _ _ _]
   go_wp2_with fail
   go_meet
   exact ⟨u, hc, rfl⟩
 obtain ⟨u, hcc, rfl⟩ := hcut
 obtain ⟨w10, hw10⟩ : ∃ zz0, zz0 = u.setRow (w.heap.size + 1 + 1) (q4 (md 1 (e9x8 * e12x9)) (md 1 (e11x9 * e10x8)) (md 1 (e10x8 * e12x9)) (md 1 (e9x8 * e11x9))) := ⟨_, rfl⟩
 have Z10 : Hid (Chg w w10 ∧ Ar w10 w.heap.size (q4 x y z t) ∧ Ar w10 (w.heap.size + 1) (q4 x' y' z' t') ∧ Ar w10 (w.heap.size + 1 + 1) (q4 (md 1 (e9x8 * e12x9)) (md 1 (e11x9 * e10x8)) (md 1 (e10x8 * e12x9)) (md 1 (e9x8 * e11x9))) ∧ Ar w10 b5 (num e5x2) ∧ Ar w10 b6 (num e6x3) ∧ Ar w10 b7 (num e7x5) ∧ Ar w10 b8 (num e8x7) ∧ Ar w10 b9 (num e9x8) ∧ Ar w10 b10 (num e10x8) ∧ Ar w10 b11 (num e11x9) ∧ Ar w10 b12 (num e12x9)) := by
  have ordO5 := O5.out
  have ordO6 := O6.out
  have ordO7 := O7.out
  have ordO8 := O8.out
  have ordO9 := O9.out
  have ordO11 := O11.out
  rw [hw10]
  exact ⟨(Ze12x9.out.1.trans hcc).setRow (by omega) _, (Ze12x9.out.2.1.chg hcc).rowOther (by omega) _, (Ze12x9.out.2.2.1.chg hcc).rowOther (by omega) _, (Ze12x9.out.2.2.2.1.chg hcc).row _, (Ze12x9.out.2.2.2.2.1.chg hcc).rowOther (by omega) _, (Ze12x9.out.2.2.2.2.2.1.chg hcc).rowOther (by omega) _, (Ze12x9.out.2.2.2.2.2.2.1.chg hcc).rowOther (by omega) _, (Ze12x9.out.2.2.2.2.2.2.2.1.chg hcc).rowOther (by omega) _, (Ze12x9.out.2.2.2.2.2.2.2.2.1.chg hcc).rowOther (by omega) _, (Ze12x9.out.2.2.2.2.2.2.2.2.2.1.chg hcc).rowOther (by omega) _, (Ze12x9.out.2.2.2.2.2.2.2.2.2.2.1.chg hcc).rowOther (by omega) _, (Ze12x9.out.2.2.2.2.2.2.2.2.2.2.2.chg hcc).rowOther (by omega) _⟩
 rw [← hw10]
 clear hw10 hcc Ze12x9 u
 go_wp2_with fail
 exact bp_4 Tryd.results22 rfl rfl Z10.out.2.2.2.1 ⟨_, _, _, _, rfl, PT.plus H1.out H2.out Ee5x2.out Ee6x3.out Ee7x4.out Ee7x5.out Ee8x6.out Ee8x7.out Ee9x8.out Ee10x8.out Ee11x9.out Ee12x9.out, Z10.out.1⟩
end Go.Proofs.YtjfidbifjagnpaaDoor
