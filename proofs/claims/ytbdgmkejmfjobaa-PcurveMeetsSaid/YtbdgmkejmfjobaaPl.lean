/-
  Two points together, by one formula: the program.
-/
import Derived.Test.YtbdgmkejmfjobaaTh
namespace Go.Proofs.Ytbdgmkejmfjobaa
open Go.RowKit
set_option linter.unusedVariables false
set_option maxRecDepth 100000
set_option maxHeartbeats 16000000 in
theorem plusQ_any (x y z x' y' z' : Int) (P Q : PQt) (h1 : TQ x y z P) (h2 : TQ x' y' z' Q) (w : World) : Calls Try.prog 26 #[.agg (q3 x y z), .agg (q3 x' y' z')] w fun r w' => ∃ X Y Z, r = .returned (.agg (q3 X Y Z)) ∧ TQ X Y Z (AW P Q) ∧ Chg w w' := by
 have H1 : Hid (TQ x y z P) := h1
 have H2 : Hid (TQ x' y' z' Q) := h2
 clear h1 h2
 have hz0 := zeroTr.1
 have hsA0 := q3_size x y z
 obtain ⟨A0, hA0⟩ : ∃ zz0, zz0 = q3 x y z := ⟨_, rfl⟩
 have HA0 : Hid (A0 = q3 x y z) := hA0
 have hsA1 := q3_size x' y' z'
 obtain ⟨A1, hA1⟩ : ∃ zz0, zz0 = q3 x' y' z' := ⟨_, rfl⟩
 have HA1 : Hid (A1 = q3 x' y' z') := hA1
 rw [← hA0] at hsA0 ⊢
 rw [← hA1] at hsA1 ⊢
 clear hA0 hA1
 go_enter Try.func26, Try.ntmps26
 go_upto_region 1 with fail
 obtain ⟨w1, hw1⟩ : ∃ w1, w1 = ((w.alloc (.cells A0 49)).alloc (.cells A1 49)).alloc (.cells (q3 0 0 0) 49) := ⟨_, rfl⟩
 have Z1 : Hid (Chg w w1 ∧ Ar w1 w.heap.size (q3 x y z) ∧ Ar w1 (w.heap.size + 1) (q3 x' y' z') ∧ Ar w1 (w.heap.size + 1 + 1) (q3 0 0 0)) := by
  have hnew0 := Ar.new w (q3 x y z) 49
  have hnew1 := Ar.new (w.alloc (.cells (q3 x y z) 49)) (q3 x' y' z') 49
  rw [World.size_alloc] at hnew1
  have hnew2 := Ar.new ((w.alloc (.cells (q3 x y z) 49)).alloc (.cells (q3 x' y' z') 49)) (q3 0 0 0) 49
  rw [World.size_alloc, World.size_alloc] at hnew2
  rw [hw1, HA0.out, HA1.out]
  exact ⟨((((Chg.refl w).alloc _).alloc _).alloc _), (((hnew0).alloc _).alloc _), ((hnew1).alloc _), (hnew2)⟩
 rw [← hw1]
 clear hw1 hz0 hsA0 hsA1 HA0 HA1
 go_cut [5, 6, 7] from 5 to 30 (fun v5 v6 v7 wc => ∃ b5 b6 b7, v5 = .pointer (some ⟨b5, 0, none⟩) ∧ v6 = .pointer (some ⟨b6, 0, none⟩) ∧ v7 = .pointer (some ⟨b7, 0, none⟩) ∧ w.heap.size + 1 + 1 ≠ b5 ∧ w.heap.size + 1 + 1 ≠ b6 ∧ w.heap.size + 1 + 1 ≠ b7 ∧ Chg w wc ∧ Ar wc w.heap.size (q3 x y z) ∧ Ar wc (w.heap.size + 1) (q3 x' y' z') ∧ Ar wc (w.heap.size + 1 + 1) (q3 0 0 0) ∧ Ar wc b5 (num (md 2 (x * x'))) ∧ Ar wc b6 (num (md 2 (y * y'))) ∧ Ar wc b7 (num (md 2 (z * z'))))
 case first =>
  refine regM 18 (fun j => j == 15 || j == 16 || j == 17) (fun j v wg => match j with
   | 0 => v = .pointer (some ⟨w.heap.size, 0, none⟩)
   | 1 => v = .agg (num x)
   | 2 => v = .pointer (some ⟨w.heap.size + 1, 0, none⟩)
   | 3 => v = .agg (num x')
   | 4 => v = .agg (num (md 2 (x * x')))
   | 5 => v = .pointer (some ⟨w.heap.size, 4, none⟩)
   | 6 => v = .agg (num y)
   | 7 => v = .pointer (some ⟨w.heap.size + 1, 4, none⟩)
   | 8 => v = .agg (num y')
   | 9 => v = .agg (num (md 2 (y * y')))
   | 10 => v = .pointer (some ⟨w.heap.size, 8, none⟩)
   | 11 => v = .agg (num z)
   | 12 => v = .pointer (some ⟨w.heap.size + 1, 8, none⟩)
   | 13 => v = .agg (num z')
   | 14 => v = .agg (num (md 2 (z * z')))
   | 15 => ∃ b, v = .pointer (some ⟨b, 0, none⟩) ∧ Ar wg b (num 0) ∧ w1.heap.size ≤ b
   | 16 => ∃ b, v = .pointer (some ⟨b, 0, none⟩) ∧ Ar wg b (num 0) ∧ w1.heap.size ≤ b
   | 17 => ∃ b, v = .pointer (some ⟨b, 0, none⟩) ∧ Ar wg b (num 0) ∧ w1.heap.size ≤ b
   | _ => True) (by kernel_rfl) (by decide) (by kernel_rfl) (by kernel_rfl) (by kernel_rfl) (by kernel_rfl) ?_ ?_ ?_ ?_
  ·intro j v u1 u2 h hc
   match j, h with
   | 0, h => exact h
   | 1, h => exact h
   | 2, h => exact h
   | 3, h => exact h
   | 4, h => exact h
   | 5, h => exact h
   | 6, h => exact h
   | 7, h => exact h
   | 8, h => exact h
   | 9, h => exact h
   | 10, h => exact h
   | 11, h => exact h
   | 12, h => exact h
   | 13, h => exact h
   | 14, h => exact h
   | 15, h => (obtain ⟨b, h1, h2, h3⟩ := h; exact ⟨b, h1, h2.chg hc, h3⟩)
   | 16, h => (obtain ⟨b, h1, h2, h3⟩ := h; exact ⟨b, h1, h2.chg hc, h3⟩)
   | 17, h => (obtain ⟨b, h1, h2, h3⟩ := h; exact ⟨b, h1, h2.chg hc, h3⟩)
   | _ + 18, h => exact trivial
  ·intro j v u hj ha h
   have hcs : j = 15 ∨ j = 16 ∨ j = 17 := by simpa [or_assoc] using ha
   rcases hcs with rfl | rfl | rfl
   ·obtain ⟨b, h1, h2, h3⟩ := h; exact ⟨b, h1, h2.lt⟩
   ·obtain ⟨b, h1, h2, h3⟩ := h; exact ⟨b, h1, h2.lt⟩
   ·obtain ⟨b, h1, h2, h3⟩ := h; exact ⟨b, h1, h2.lt⟩
  ·intro i o ac u hi ho hsz hf hg hc
   have hcs : i = 0 ∨ i = 1 ∨ i = 2 ∨ i = 3 ∨ i = 4 ∨ i = 5 ∨ i = 6 ∨ i = 7 ∨ i = 8 ∨ i = 9 ∨ i = 10 ∨ i = 11 ∨ i = 12 ∨ i = 13 ∨ i = 14 ∨ i = 15 ∨ i = 16 ∨ i = 17 := by omega
   rcases hcs with rfl | rfl | rfl | rfl | rfl | rfl | rfl | rfl | rfl | rfl | rfl | rfl | rfl | rfl | rfl | rfl | rfl | rfl <;> (injection ho with ho; subst ho; refine ⟨wanted_none rfl, ?_⟩)
   ·have e1 : ac.eval (.tmp 2) = .pointer (some ⟨w.heap.size, 0, none⟩) := hf 2 (by kernel_rfl)
    exact opG_val (by revert e1; generalize ac.eval = ρ; intro e1; simp [go_sem, execOp, e1]) ⟨rfl, fun h => by cases h⟩ (Chg.refl _)
   ·exact ldN rfl (hg 0 (by kernel_rfl) (by decide)) (rangeq3F0 (Z1.out.2.1.chg hc)) ⟨rfl, fun h => by cases h⟩
   ·have e1 : ac.eval (.tmp 3) = .pointer (some ⟨w.heap.size + 1, 0, none⟩) := hf 3 (by kernel_rfl)
    exact opG_val (by revert e1; generalize ac.eval = ρ; intro e1; simp [go_sem, execOp, e1]) ⟨rfl, fun h => by cases h⟩ (Chg.refl _)
   ·exact ldN rfl (hg 2 (by kernel_rfl) (by decide)) (rangeq3F0 (Z1.out.2.2.1.chg hc)) ⟨rfl, fun h => by cases h⟩
   ·exact oM (.tmp 17) (.tmp 19) rfl (hg 1 (by kernel_rfl) (by decide)) (hg 3 (by kernel_rfl) (by decide)) (H1.out.nx) (H2.out.nx) fun _ _ => ⟨rfl, fun h => by cases h⟩
   ·have e1 : ac.eval (.tmp 2) = .pointer (some ⟨w.heap.size, 0, none⟩) := hf 2 (by kernel_rfl)
    exact opG_val (by revert e1; generalize ac.eval = ρ; intro e1; simp [go_sem, execOp, e1]) ⟨rfl, fun h => by cases h⟩ (Chg.refl _)
   ·exact ldN rfl (hg 5 (by kernel_rfl) (by decide)) (rangeq3F1 (Z1.out.2.1.chg hc)) ⟨rfl, fun h => by cases h⟩
   ·have e1 : ac.eval (.tmp 3) = .pointer (some ⟨w.heap.size + 1, 0, none⟩) := hf 3 (by kernel_rfl)
    exact opG_val (by revert e1; generalize ac.eval = ρ; intro e1; simp [go_sem, execOp, e1]) ⟨rfl, fun h => by cases h⟩ (Chg.refl _)
   ·exact ldN rfl (hg 7 (by kernel_rfl) (by decide)) (rangeq3F1 (Z1.out.2.2.1.chg hc)) ⟨rfl, fun h => by cases h⟩
   ·exact oM (.tmp 22) (.tmp 24) rfl (hg 6 (by kernel_rfl) (by decide)) (hg 8 (by kernel_rfl) (by decide)) (H1.out.ny) (H2.out.ny) fun _ _ => ⟨rfl, fun h => by cases h⟩
   ·have e1 : ac.eval (.tmp 2) = .pointer (some ⟨w.heap.size, 0, none⟩) := hf 2 (by kernel_rfl)
    exact opG_val (by revert e1; generalize ac.eval = ρ; intro e1; simp [go_sem, execOp, e1]) ⟨rfl, fun h => by cases h⟩ (Chg.refl _)
   ·exact ldN rfl (hg 10 (by kernel_rfl) (by decide)) (rangeq3F2 (Z1.out.2.1.chg hc)) ⟨rfl, fun h => by cases h⟩
   ·have e1 : ac.eval (.tmp 3) = .pointer (some ⟨w.heap.size + 1, 0, none⟩) := hf 3 (by kernel_rfl)
    exact opG_val (by revert e1; generalize ac.eval = ρ; intro e1; simp [go_sem, execOp, e1]) ⟨rfl, fun h => by cases h⟩ (Chg.refl _)
   ·exact ldN rfl (hg 12 (by kernel_rfl) (by decide)) (rangeq3F2 (Z1.out.2.2.1.chg hc)) ⟨rfl, fun h => by cases h⟩
   ·exact oM (.tmp 27) (.tmp 29) rfl (hg 11 (by kernel_rfl) (by decide)) (hg 13 (by kernel_rfl) (by decide)) (H1.out.nz) (H2.out.nz) fun _ _ => ⟨rfl, fun h => by cases h⟩
   ·exact opG_val (v := .pointer (some ⟨u.heap.size, 0, none⟩)) (w' := u.alloc (.cells (num 0) 24)) (by generalize ac.eval = ρ; simp [go_sem, execOp, zero25.1]) ⟨⟨_, rfl, Ar.new _ _ _, hc.size⟩, fun _ => rfl⟩ ((Chg.refl _).alloc _)
   ·exact opG_val (v := .pointer (some ⟨u.heap.size, 0, none⟩)) (w' := u.alloc (.cells (num 0) 24)) (by generalize ac.eval = ρ; simp [go_sem, execOp, zero25.1]) ⟨⟨_, rfl, Ar.new _ _ _, hc.size⟩, fun _ => rfl⟩ ((Chg.refl _).alloc _)
   ·exact opG_val (v := .pointer (some ⟨u.heap.size, 0, none⟩)) (w' := u.alloc (.cells (num 0) 24)) (by generalize ac.eval = ρ; simp [go_sem, execOp, zero25.1]) ⟨⟨_, rfl, Ar.new _ _ _, hc.size⟩, fun _ => rfl⟩ ((Chg.refl _).alloc _)
  ·intro u V hV hap hc
   have q20 : V 4 = .agg (num (md 2 (x * x'))) := hV 4 (by decide)
   have q25 : V 9 = .agg (num (md 2 (y * y'))) := hV 9 (by decide)
   have q30 : V 14 = .agg (num (md 2 (z * z'))) := hV 14 (by decide)
   obtain ⟨b5, q5, r5, s5⟩ := hV 15 (by decide)
   obtain ⟨b6, q6, r6, s6⟩ := hV 16 (by decide)
   obtain ⟨b7, q7, r7, s7⟩ := hV 17 (by decide)
   have lw5 : w.heap.size ≤ b5 := Nat.le_trans Z1.out.1.size s5
   have lw6 : w.heap.size ≤ b6 := Nat.le_trans Z1.out.1.size s6
   have lw7 : w.heap.size ≤ b7 := Nat.le_trans Z1.out.1.size s7
   have hne5_6 : b5 ≠ b6 := by
    have := hap 15 16 (by decide) (by decide) rfl rfl (by decide)
    rw [q5, q6] at this
    intro e; exact this (by rw [e])
   have hne5_7 : b5 ≠ b7 := by
    have := hap 15 17 (by decide) (by decide) rfl rfl (by decide)
    rw [q5, q7] at this
    intro e; exact this (by rw [e])
   have hne6_7 : b6 ≠ b7 := by
    have := hap 16 17 (by decide) (by decide) rfl rfl (by decide)
    rw [q6, q7] at this
    intro e; exact this (by rw [e])
   have hres0 := r5
   refine tail_cons rfl rfl ?_
   refine wp_store_mid 24 (.tmp 5) (.tmp 20) rfl b5 0 (num (md 2 (x * x'))) (Eq.trans (by rfl) q5) (Eq.trans (by rfl) q20) (by rw [num_size]; exact thereN hres0) (szN _) (num_one _) ?_
   rw [setRowN hres0 _]
   have k0_c : Chg w (u.setRow b5 (num (md 2 (x * x')))) := ((Z1.out.1.trans hc).setRow lw5 _)
   have k0_B2 := (Z1.out.2.1.chg hc).rowOther (Z1.out.2.1.apart s5) (num (md 2 (x * x')))
   have k0_B3 := (Z1.out.2.2.1.chg hc).rowOther (Z1.out.2.2.1.apart s5) (num (md 2 (x * x')))
   have k0_B4 := (Z1.out.2.2.2.chg hc).rowOther (Z1.out.2.2.2.apart s5) (num (md 2 (x * x')))
   have k0_B5 := hres0.row (num (md 2 (x * x')))
   have k0_B6 := r6.rowOther (hne5_6.symm) (num (md 2 (x * x')))
   have k0_B7 := r7.rowOther (hne5_7.symm) (num (md 2 (x * x')))
   generalize (u.setRow b5 (num (md 2 (x * x')))) = u10 at k0_c k0_B2 k0_B3 k0_B4 k0_B5 k0_B6 k0_B7 ⊢
   have hres1 := k0_B6
   refine tail_cons rfl rfl ?_
   refine wp_store_mid 24 (.tmp 6) (.tmp 25) rfl b6 0 (num (md 2 (y * y'))) (Eq.trans (by rfl) q6) (Eq.trans (by rfl) q25) (by rw [num_size]; exact thereN hres1) (szN _) (num_one _) ?_
   rw [setRowN hres1 _]
   have k1_c : Chg w (u10.setRow b6 (num (md 2 (y * y')))) := (k0_c.setRow lw6 _)
   have k1_B2 := k0_B2.rowOther (Z1.out.2.1.apart s6) (num (md 2 (y * y')))
   have k1_B3 := k0_B3.rowOther (Z1.out.2.2.1.apart s6) (num (md 2 (y * y')))
   have k1_B4 := k0_B4.rowOther (Z1.out.2.2.2.apart s6) (num (md 2 (y * y')))
   have k1_B5 := k0_B5.rowOther hne5_6 (num (md 2 (y * y')))
   have k1_B6 := hres1.row (num (md 2 (y * y')))
   have k1_B7 := k0_B7.rowOther (hne6_7.symm) (num (md 2 (y * y')))
   generalize (u10.setRow b6 (num (md 2 (y * y')))) = u11 at k1_c k1_B2 k1_B3 k1_B4 k1_B5 k1_B6 k1_B7 ⊢
   have hres2 := k1_B7
   refine tail_cons rfl rfl ?_
   refine wp_store_mid 24 (.tmp 7) (.tmp 30) rfl b7 0 (num (md 2 (z * z'))) (Eq.trans (by rfl) q7) (Eq.trans (by rfl) q30) (by rw [num_size]; exact thereN hres2) (szN _) (num_one _) ?_
   rw [setRowN hres2 _]
   have k2_c : Chg w (u11.setRow b7 (num (md 2 (z * z')))) := (k1_c.setRow lw7 _)
   have k2_B2 := k1_B2.rowOther (Z1.out.2.1.apart s7) (num (md 2 (z * z')))
   have k2_B3 := k1_B3.rowOther (Z1.out.2.2.1.apart s7) (num (md 2 (z * z')))
   have k2_B4 := k1_B4.rowOther (Z1.out.2.2.2.apart s7) (num (md 2 (z * z')))
   have k2_B5 := k1_B5.rowOther hne5_7 (num (md 2 (z * z')))
   have k2_B6 := k1_B6.rowOther hne6_7 (num (md 2 (z * z')))
   have k2_B7 := hres2.row (num (md 2 (z * z')))
   generalize (u11.setRow b7 (num (md 2 (z * z')))) = u12 at k2_c k2_B2 k2_B3 k2_B4 k2_B5 k2_B6 k2_B7 ⊢
   refine tail_nil rfl ?_
   go_wp2_with fail
   go_meet
   exact ⟨b5, b6, b7, q5, q6, q7, Z1.out.2.2.2.apart s5, Z1.out.2.2.2.apart s6, Z1.out.2.2.2.apart s7, k2_c, k2_B2, k2_B3, k2_B4, k2_B5, k2_B6, k2_B7⟩
 obtain ⟨b5, b6, b7, rfl, rfl, rfl, of0, of1, of2, hz⟩ := hcut
 obtain ⟨w2, hw2⟩ : ∃ zz0, zz0 = wc := ⟨_, rfl⟩
 rw [← hw2] at hz ⊢
 have Z2 : Hid _ := hz
 have O2_0 : Hid _ := of0
 have O2_1 : Hid _ := of1
 have O2_2 : Hid _ := of2
 clear hw2 hz of0 of1 of2 Z1
 obtain ⟨e5x2, he5x2⟩ : ∃ zz0, zz0 = md 2 (x * x') := ⟨_, rfl⟩
 have Ee5x2 : Hid (e5x2 = md 2 (x * x')) := he5x2
 have Ne5x2 : Hid (N256 e5x2) := by show N256 e5x2; rw [he5x2]; exact md_N _ _
 rw [← he5x2] at Z2
 clear he5x2
 obtain ⟨e6x2, he6x2⟩ : ∃ zz0, zz0 = md 2 (y * y') := ⟨_, rfl⟩
 have Ee6x2 : Hid (e6x2 = md 2 (y * y')) := he6x2
 have Ne6x2 : Hid (N256 e6x2) := by show N256 e6x2; rw [he6x2]; exact md_N _ _
 rw [← he6x2] at Z2
 clear he6x2
 obtain ⟨e7x2, he7x2⟩ : ∃ zz0, zz0 = md 2 (z * z') := ⟨_, rfl⟩
 have Ee7x2 : Hid (e7x2 = md 2 (z * z')) := he7x2
 have Ne7x2 : Hid (N256 e7x2) := by show N256 e7x2; rw [he7x2]; exact md_N _ _
 rw [← he7x2] at Z2
 clear he7x2
 go_upto_region 2 with fail
 go_cut [8] from 8 to 41 (fun v8 wc => ∃ b8, v8 = .pointer (some ⟨b8, 0, none⟩) ∧ w.heap.size + 1 + 1 ≠ b8 ∧ Chg w wc ∧ Ar wc w.heap.size (q3 x y z) ∧ Ar wc (w.heap.size + 1) (q3 x' y' z') ∧ Ar wc (w.heap.size + 1 + 1) (q3 0 0 0) ∧ Ar wc b5 (num e5x2) ∧ Ar wc b6 (num e6x2) ∧ Ar wc b7 (num e7x2) ∧ Ar wc b8 (num (md 2 ((md 2 (x * y')) + (md 2 (y * x'))))))
 case first =>
  refine regM 12 (fun j => j == 11) (fun j v wg => match j with
   | 0 => v = .pointer (some ⟨w.heap.size, 0, none⟩)
   | 1 => v = .agg (num x)
   | 2 => v = .pointer (some ⟨w.heap.size + 1, 4, none⟩)
   | 3 => v = .agg (num y')
   | 4 => v = .agg (num (md 2 (x * y')))
   | 5 => v = .pointer (some ⟨w.heap.size, 4, none⟩)
   | 6 => v = .agg (num y)
   | 7 => v = .pointer (some ⟨w.heap.size + 1, 0, none⟩)
   | 8 => v = .agg (num x')
   | 9 => v = .agg (num (md 2 (y * x')))
   | 10 => v = .agg (num (md 2 ((md 2 (x * y')) + (md 2 (y * x')))))
   | 11 => ∃ b, v = .pointer (some ⟨b, 0, none⟩) ∧ Ar wg b (num 0) ∧ w2.heap.size ≤ b
   | _ => True) (by kernel_rfl) (by decide) (by kernel_rfl) (by kernel_rfl) (by kernel_rfl) (by kernel_rfl) ?_ ?_ ?_ ?_
  ·intro j v u1 u2 h hc
   match j, h with
   | 0, h => exact h
   | 1, h => exact h
   | 2, h => exact h
   | 3, h => exact h
   | 4, h => exact h
   | 5, h => exact h
   | 6, h => exact h
   | 7, h => exact h
   | 8, h => exact h
   | 9, h => exact h
   | 10, h => exact h
   | 11, h => (obtain ⟨b, h1, h2, h3⟩ := h; exact ⟨b, h1, h2.chg hc, h3⟩)
   | _ + 12, h => exact trivial
  ·intro j v u hj ha h
   have hcs : j = 11 := by simpa [or_assoc] using ha
   rcases hcs with rfl
   ·obtain ⟨b, h1, h2, h3⟩ := h; exact ⟨b, h1, h2.lt⟩
  ·intro i o ac u hi ho hsz hf hg hc
   have hcs : i = 0 ∨ i = 1 ∨ i = 2 ∨ i = 3 ∨ i = 4 ∨ i = 5 ∨ i = 6 ∨ i = 7 ∨ i = 8 ∨ i = 9 ∨ i = 10 ∨ i = 11 := by omega
   rcases hcs with rfl | rfl | rfl | rfl | rfl | rfl | rfl | rfl | rfl | rfl | rfl | rfl <;> (injection ho with ho; subst ho; refine ⟨wanted_none rfl, ?_⟩)
   ·have e1 : ac.eval (.tmp 2) = .pointer (some ⟨w.heap.size, 0, none⟩) := hf 2 (by kernel_rfl)
    exact opG_val (by revert e1; generalize ac.eval = ρ; intro e1; simp [go_sem, execOp, e1]) ⟨rfl, fun h => by cases h⟩ (Chg.refl _)
   ·exact ldN rfl (hg 0 (by kernel_rfl) (by decide)) (rangeq3F0 (Z2.out.2.1.chg hc)) ⟨rfl, fun h => by cases h⟩
   ·have e1 : ac.eval (.tmp 3) = .pointer (some ⟨w.heap.size + 1, 0, none⟩) := hf 3 (by kernel_rfl)
    exact opG_val (by revert e1; generalize ac.eval = ρ; intro e1; simp [go_sem, execOp, e1]) ⟨rfl, fun h => by cases h⟩ (Chg.refl _)
   ·exact ldN rfl (hg 2 (by kernel_rfl) (by decide)) (rangeq3F1 (Z2.out.2.2.1.chg hc)) ⟨rfl, fun h => by cases h⟩
   ·exact oM (.tmp 32) (.tmp 34) rfl (hg 1 (by kernel_rfl) (by decide)) (hg 3 (by kernel_rfl) (by decide)) (H1.out.nx) (H2.out.ny) fun _ _ => ⟨rfl, fun h => by cases h⟩
   ·have e1 : ac.eval (.tmp 2) = .pointer (some ⟨w.heap.size, 0, none⟩) := hf 2 (by kernel_rfl)
    exact opG_val (by revert e1; generalize ac.eval = ρ; intro e1; simp [go_sem, execOp, e1]) ⟨rfl, fun h => by cases h⟩ (Chg.refl _)
   ·exact ldN rfl (hg 5 (by kernel_rfl) (by decide)) (rangeq3F1 (Z2.out.2.1.chg hc)) ⟨rfl, fun h => by cases h⟩
   ·have e1 : ac.eval (.tmp 3) = .pointer (some ⟨w.heap.size + 1, 0, none⟩) := hf 3 (by kernel_rfl)
    exact opG_val (by revert e1; generalize ac.eval = ρ; intro e1; simp [go_sem, execOp, e1]) ⟨rfl, fun h => by cases h⟩ (Chg.refl _)
   ·exact ldN rfl (hg 7 (by kernel_rfl) (by decide)) (rangeq3F0 (Z2.out.2.2.1.chg hc)) ⟨rfl, fun h => by cases h⟩
   ·exact oM (.tmp 37) (.tmp 39) rfl (hg 6 (by kernel_rfl) (by decide)) (hg 8 (by kernel_rfl) (by decide)) (H1.out.ny) (H2.out.nx) fun _ _ => ⟨rfl, fun h => by cases h⟩
   ·exact oA (.tmp 35) (.tmp 40) rfl (hg 4 (by kernel_rfl) (by decide)) (hg 9 (by kernel_rfl) (by decide)) (md_N _ _) (md_N _ _) fun _ _ => ⟨rfl, fun h => by cases h⟩
   ·exact opG_val (v := .pointer (some ⟨u.heap.size, 0, none⟩)) (w' := u.alloc (.cells (num 0) 24)) (by generalize ac.eval = ρ; simp [go_sem, execOp, zero25.1]) ⟨⟨_, rfl, Ar.new _ _ _, hc.size⟩, fun _ => rfl⟩ ((Chg.refl _).alloc _)
  ·intro u V hV hap hc
   have q41 : V 10 = .agg (num (md 2 ((md 2 (x * y')) + (md 2 (y * x'))))) := hV 10 (by decide)
   obtain ⟨b8, q8, r8, s8⟩ := hV 11 (by decide)
   have lw8 : w.heap.size ≤ b8 := Nat.le_trans Z2.out.1.size s8
   have hres0 := r8
   refine tail_cons rfl rfl ?_
   refine wp_store_mid 24 (.tmp 8) (.tmp 41) rfl b8 0 (num (md 2 ((md 2 (x * y')) + (md 2 (y * x'))))) (Eq.trans (by rfl) q8) (Eq.trans (by rfl) q41) (by rw [num_size]; exact thereN hres0) (szN _) (num_one _) ?_
   rw [setRowN hres0 _]
   have k0_c : Chg w (u.setRow b8 (num (md 2 ((md 2 (x * y')) + (md 2 (y * x')))))) := ((Z2.out.1.trans hc).setRow lw8 _)
   have k0_B2 := (Z2.out.2.1.chg hc).rowOther (Z2.out.2.1.apart s8) (num (md 2 ((md 2 (x * y')) + (md 2 (y * x')))))
   have k0_B3 := (Z2.out.2.2.1.chg hc).rowOther (Z2.out.2.2.1.apart s8) (num (md 2 ((md 2 (x * y')) + (md 2 (y * x')))))
   have k0_B4 := (Z2.out.2.2.2.1.chg hc).rowOther (Z2.out.2.2.2.1.apart s8) (num (md 2 ((md 2 (x * y')) + (md 2 (y * x')))))
   have k0_B5 := (Z2.out.2.2.2.2.1.chg hc).rowOther (Z2.out.2.2.2.2.1.apart s8) (num (md 2 ((md 2 (x * y')) + (md 2 (y * x')))))
   have k0_B6 := (Z2.out.2.2.2.2.2.1.chg hc).rowOther (Z2.out.2.2.2.2.2.1.apart s8) (num (md 2 ((md 2 (x * y')) + (md 2 (y * x')))))
   have k0_B7 := (Z2.out.2.2.2.2.2.2.chg hc).rowOther (Z2.out.2.2.2.2.2.2.apart s8) (num (md 2 ((md 2 (x * y')) + (md 2 (y * x')))))
   have k0_B8 := hres0.row (num (md 2 ((md 2 (x * y')) + (md 2 (y * x')))))
   generalize (u.setRow b8 (num (md 2 ((md 2 (x * y')) + (md 2 (y * x')))))) = u10 at k0_c k0_B2 k0_B3 k0_B4 k0_B5 k0_B6 k0_B7 k0_B8 ⊢
   refine tail_nil rfl ?_
   go_wp2_with fail
   go_meet
   exact ⟨b8, q8, Z2.out.2.2.2.1.apart s8, k0_c, k0_B2, k0_B3, k0_B4, k0_B5, k0_B6, k0_B7, k0_B8⟩
 obtain ⟨b8, rfl, of0, hz⟩ := hcut
 obtain ⟨w3, hw3⟩ : ∃ zz0, zz0 = wc := ⟨_, rfl⟩
 rw [← hw3] at hz ⊢
 have Z3 : Hid _ := hz
 have O3_0 : Hid _ := of0
 clear hw3 hz of0 Z2
 obtain ⟨e8x3, he8x3⟩ : ∃ zz0, zz0 = md 2 ((md 2 (x * y')) + (md 2 (y * x'))) := ⟨_, rfl⟩
 have Ee8x3 : Hid (e8x3 = md 2 ((md 2 (x * y')) + (md 2 (y * x')))) := he8x3
 have Ne8x3 : Hid (N256 e8x3) := by show N256 e8x3; rw [he8x3]; exact md_N _ _
 rw [← he8x3] at Z3
 clear he8x3
 go_upto_region 3 with fail
 go_cut [9] from 9 to 52 (fun v9 wc => ∃ b9, v9 = .pointer (some ⟨b9, 0, none⟩) ∧ w.heap.size + 1 + 1 ≠ b9 ∧ Chg w wc ∧ Ar wc w.heap.size (q3 x y z) ∧ Ar wc (w.heap.size + 1) (q3 x' y' z') ∧ Ar wc (w.heap.size + 1 + 1) (q3 0 0 0) ∧ Ar wc b5 (num e5x2) ∧ Ar wc b6 (num e6x2) ∧ Ar wc b7 (num e7x2) ∧ Ar wc b8 (num e8x3) ∧ Ar wc b9 (num (md 2 ((md 2 (y * z')) + (md 2 (z * y'))))))
 case first =>
  refine regM 12 (fun j => j == 11) (fun j v wg => match j with
   | 0 => v = .pointer (some ⟨w.heap.size, 4, none⟩)
   | 1 => v = .agg (num y)
   | 2 => v = .pointer (some ⟨w.heap.size + 1, 8, none⟩)
   | 3 => v = .agg (num z')
   | 4 => v = .agg (num (md 2 (y * z')))
   | 5 => v = .pointer (some ⟨w.heap.size, 8, none⟩)
   | 6 => v = .agg (num z)
   | 7 => v = .pointer (some ⟨w.heap.size + 1, 4, none⟩)
   | 8 => v = .agg (num y')
   | 9 => v = .agg (num (md 2 (z * y')))
   | 10 => v = .agg (num (md 2 ((md 2 (y * z')) + (md 2 (z * y')))))
   | 11 => ∃ b, v = .pointer (some ⟨b, 0, none⟩) ∧ Ar wg b (num 0) ∧ w3.heap.size ≤ b
   | _ => True) (by kernel_rfl) (by decide) (by kernel_rfl) (by kernel_rfl) (by kernel_rfl) (by kernel_rfl) ?_ ?_ ?_ ?_
  ·intro j v u1 u2 h hc
   match j, h with
   | 0, h => exact h
   | 1, h => exact h
   | 2, h => exact h
   | 3, h => exact h
   | 4, h => exact h
   | 5, h => exact h
   | 6, h => exact h
   | 7, h => exact h
   | 8, h => exact h
   | 9, h => exact h
   | 10, h => exact h
   | 11, h => (obtain ⟨b, h1, h2, h3⟩ := h; exact ⟨b, h1, h2.chg hc, h3⟩)
   | _ + 12, h => exact trivial
  ·intro j v u hj ha h
   have hcs : j = 11 := by simpa [or_assoc] using ha
   rcases hcs with rfl
   ·obtain ⟨b, h1, h2, h3⟩ := h; exact ⟨b, h1, h2.lt⟩
  ·intro i o ac u hi ho hsz hf hg hc
   have hcs : i = 0 ∨ i = 1 ∨ i = 2 ∨ i = 3 ∨ i = 4 ∨ i = 5 ∨ i = 6 ∨ i = 7 ∨ i = 8 ∨ i = 9 ∨ i = 10 ∨ i = 11 := by omega
   rcases hcs with rfl | rfl | rfl | rfl | rfl | rfl | rfl | rfl | rfl | rfl | rfl | rfl <;> (injection ho with ho; subst ho; refine ⟨wanted_none rfl, ?_⟩)
   ·have e1 : ac.eval (.tmp 2) = .pointer (some ⟨w.heap.size, 0, none⟩) := hf 2 (by kernel_rfl)
    exact opG_val (by revert e1; generalize ac.eval = ρ; intro e1; simp [go_sem, execOp, e1]) ⟨rfl, fun h => by cases h⟩ (Chg.refl _)
   ·exact ldN rfl (hg 0 (by kernel_rfl) (by decide)) (rangeq3F1 (Z3.out.2.1.chg hc)) ⟨rfl, fun h => by cases h⟩
   ·have e1 : ac.eval (.tmp 3) = .pointer (some ⟨w.heap.size + 1, 0, none⟩) := hf 3 (by kernel_rfl)
    exact opG_val (by revert e1; generalize ac.eval = ρ; intro e1; simp [go_sem, execOp, e1]) ⟨rfl, fun h => by cases h⟩ (Chg.refl _)
   ·exact ldN rfl (hg 2 (by kernel_rfl) (by decide)) (rangeq3F2 (Z3.out.2.2.1.chg hc)) ⟨rfl, fun h => by cases h⟩
   ·exact oM (.tmp 43) (.tmp 45) rfl (hg 1 (by kernel_rfl) (by decide)) (hg 3 (by kernel_rfl) (by decide)) (H1.out.ny) (H2.out.nz) fun _ _ => ⟨rfl, fun h => by cases h⟩
   ·have e1 : ac.eval (.tmp 2) = .pointer (some ⟨w.heap.size, 0, none⟩) := hf 2 (by kernel_rfl)
    exact opG_val (by revert e1; generalize ac.eval = ρ; intro e1; simp [go_sem, execOp, e1]) ⟨rfl, fun h => by cases h⟩ (Chg.refl _)
   ·exact ldN rfl (hg 5 (by kernel_rfl) (by decide)) (rangeq3F2 (Z3.out.2.1.chg hc)) ⟨rfl, fun h => by cases h⟩
   ·have e1 : ac.eval (.tmp 3) = .pointer (some ⟨w.heap.size + 1, 0, none⟩) := hf 3 (by kernel_rfl)
    exact opG_val (by revert e1; generalize ac.eval = ρ; intro e1; simp [go_sem, execOp, e1]) ⟨rfl, fun h => by cases h⟩ (Chg.refl _)
   ·exact ldN rfl (hg 7 (by kernel_rfl) (by decide)) (rangeq3F1 (Z3.out.2.2.1.chg hc)) ⟨rfl, fun h => by cases h⟩
   ·exact oM (.tmp 48) (.tmp 50) rfl (hg 6 (by kernel_rfl) (by decide)) (hg 8 (by kernel_rfl) (by decide)) (H1.out.nz) (H2.out.ny) fun _ _ => ⟨rfl, fun h => by cases h⟩
   ·exact oA (.tmp 46) (.tmp 51) rfl (hg 4 (by kernel_rfl) (by decide)) (hg 9 (by kernel_rfl) (by decide)) (md_N _ _) (md_N _ _) fun _ _ => ⟨rfl, fun h => by cases h⟩
   ·exact opG_val (v := .pointer (some ⟨u.heap.size, 0, none⟩)) (w' := u.alloc (.cells (num 0) 24)) (by generalize ac.eval = ρ; simp [go_sem, execOp, zero25.1]) ⟨⟨_, rfl, Ar.new _ _ _, hc.size⟩, fun _ => rfl⟩ ((Chg.refl _).alloc _)
  ·intro u V hV hap hc
   have q52 : V 10 = .agg (num (md 2 ((md 2 (y * z')) + (md 2 (z * y'))))) := hV 10 (by decide)
   obtain ⟨b9, q9, r9, s9⟩ := hV 11 (by decide)
   have lw9 : w.heap.size ≤ b9 := Nat.le_trans Z3.out.1.size s9
   have hres0 := r9
   refine tail_cons rfl rfl ?_
   refine wp_store_mid 24 (.tmp 9) (.tmp 52) rfl b9 0 (num (md 2 ((md 2 (y * z')) + (md 2 (z * y'))))) (Eq.trans (by rfl) q9) (Eq.trans (by rfl) q52) (by rw [num_size]; exact thereN hres0) (szN _) (num_one _) ?_
   rw [setRowN hres0 _]
   have k0_c : Chg w (u.setRow b9 (num (md 2 ((md 2 (y * z')) + (md 2 (z * y')))))) := ((Z3.out.1.trans hc).setRow lw9 _)
   have k0_B2 := (Z3.out.2.1.chg hc).rowOther (Z3.out.2.1.apart s9) (num (md 2 ((md 2 (y * z')) + (md 2 (z * y')))))
   have k0_B3 := (Z3.out.2.2.1.chg hc).rowOther (Z3.out.2.2.1.apart s9) (num (md 2 ((md 2 (y * z')) + (md 2 (z * y')))))
   have k0_B4 := (Z3.out.2.2.2.1.chg hc).rowOther (Z3.out.2.2.2.1.apart s9) (num (md 2 ((md 2 (y * z')) + (md 2 (z * y')))))
   have k0_B5 := (Z3.out.2.2.2.2.1.chg hc).rowOther (Z3.out.2.2.2.2.1.apart s9) (num (md 2 ((md 2 (y * z')) + (md 2 (z * y')))))
   have k0_B6 := (Z3.out.2.2.2.2.2.1.chg hc).rowOther (Z3.out.2.2.2.2.2.1.apart s9) (num (md 2 ((md 2 (y * z')) + (md 2 (z * y')))))
   have k0_B7 := (Z3.out.2.2.2.2.2.2.1.chg hc).rowOther (Z3.out.2.2.2.2.2.2.1.apart s9) (num (md 2 ((md 2 (y * z')) + (md 2 (z * y')))))
   have k0_B8 := (Z3.out.2.2.2.2.2.2.2.chg hc).rowOther (Z3.out.2.2.2.2.2.2.2.apart s9) (num (md 2 ((md 2 (y * z')) + (md 2 (z * y')))))
   have k0_B9 := hres0.row (num (md 2 ((md 2 (y * z')) + (md 2 (z * y')))))
   generalize (u.setRow b9 (num (md 2 ((md 2 (y * z')) + (md 2 (z * y')))))) = u10 at k0_c k0_B2 k0_B3 k0_B4 k0_B5 k0_B6 k0_B7 k0_B8 k0_B9 ⊢
   refine tail_nil rfl ?_
   go_wp2_with fail
   go_meet
   exact ⟨b9, q9, Z3.out.2.2.2.1.apart s9, k0_c, k0_B2, k0_B3, k0_B4, k0_B5, k0_B6, k0_B7, k0_B8, k0_B9⟩
 obtain ⟨b9, rfl, of0, hz⟩ := hcut
 obtain ⟨w4, hw4⟩ : ∃ zz0, zz0 = wc := ⟨_, rfl⟩
 rw [← hw4] at hz ⊢
 have Z4 : Hid _ := hz
 have O4_0 : Hid _ := of0
 clear hw4 hz of0 Z3
 obtain ⟨e9x4, he9x4⟩ : ∃ zz0, zz0 = md 2 ((md 2 (y * z')) + (md 2 (z * y'))) := ⟨_, rfl⟩
 have Ee9x4 : Hid (e9x4 = md 2 ((md 2 (y * z')) + (md 2 (z * y')))) := he9x4
 have Ne9x4 : Hid (N256 e9x4) := by show N256 e9x4; rw [he9x4]; exact md_N _ _
 rw [← he9x4] at Z4
 clear he9x4
 go_upto_region 4 with fail
 go_cut [10] from 10 to 63 (fun v10 wc => ∃ b10, v10 = .pointer (some ⟨b10, 0, none⟩) ∧ w.heap.size + 1 + 1 ≠ b10 ∧ Chg w wc ∧ Ar wc (w.heap.size + 1 + 1) (q3 0 0 0) ∧ Ar wc b5 (num e5x2) ∧ Ar wc b6 (num e6x2) ∧ Ar wc b7 (num e7x2) ∧ Ar wc b8 (num e8x3) ∧ Ar wc b9 (num e9x4) ∧ Ar wc b10 (num (md 2 ((md 2 (x * z')) + (md 2 (z * x'))))))
 case first =>
  refine regM 12 (fun j => j == 11) (fun j v wg => match j with
   | 0 => v = .pointer (some ⟨w.heap.size, 0, none⟩)
   | 1 => v = .agg (num x)
   | 2 => v = .pointer (some ⟨w.heap.size + 1, 8, none⟩)
   | 3 => v = .agg (num z')
   | 4 => v = .agg (num (md 2 (x * z')))
   | 5 => v = .pointer (some ⟨w.heap.size, 8, none⟩)
   | 6 => v = .agg (num z)
   | 7 => v = .pointer (some ⟨w.heap.size + 1, 0, none⟩)
   | 8 => v = .agg (num x')
   | 9 => v = .agg (num (md 2 (z * x')))
   | 10 => v = .agg (num (md 2 ((md 2 (x * z')) + (md 2 (z * x')))))
   | 11 => ∃ b, v = .pointer (some ⟨b, 0, none⟩) ∧ Ar wg b (num 0) ∧ w4.heap.size ≤ b
   | _ => True) (by kernel_rfl) (by decide) (by kernel_rfl) (by kernel_rfl) (by kernel_rfl) (by kernel_rfl) ?_ ?_ ?_ ?_
  ·intro j v u1 u2 h hc
   match j, h with
   | 0, h => exact h
   | 1, h => exact h
   | 2, h => exact h
   | 3, h => exact h
   | 4, h => exact h
   | 5, h => exact h
   | 6, h => exact h
   | 7, h => exact h
   | 8, h => exact h
   | 9, h => exact h
   | 10, h => exact h
   | 11, h => (obtain ⟨b, h1, h2, h3⟩ := h; exact ⟨b, h1, h2.chg hc, h3⟩)
   | _ + 12, h => exact trivial
  ·intro j v u hj ha h
   have hcs : j = 11 := by simpa [or_assoc] using ha
   rcases hcs with rfl
   ·obtain ⟨b, h1, h2, h3⟩ := h; exact ⟨b, h1, h2.lt⟩
  ·intro i o ac u hi ho hsz hf hg hc
   have hcs : i = 0 ∨ i = 1 ∨ i = 2 ∨ i = 3 ∨ i = 4 ∨ i = 5 ∨ i = 6 ∨ i = 7 ∨ i = 8 ∨ i = 9 ∨ i = 10 ∨ i = 11 := by omega
   rcases hcs with rfl | rfl | rfl | rfl | rfl | rfl | rfl | rfl | rfl | rfl | rfl | rfl <;> (injection ho with ho; subst ho; refine ⟨wanted_none rfl, ?_⟩)
   ·have e1 : ac.eval (.tmp 2) = .pointer (some ⟨w.heap.size, 0, none⟩) := hf 2 (by kernel_rfl)
    exact opG_val (by revert e1; generalize ac.eval = ρ; intro e1; simp [go_sem, execOp, e1]) ⟨rfl, fun h => by cases h⟩ (Chg.refl _)
   ·exact ldN rfl (hg 0 (by kernel_rfl) (by decide)) (rangeq3F0 (Z4.out.2.1.chg hc)) ⟨rfl, fun h => by cases h⟩
   ·have e1 : ac.eval (.tmp 3) = .pointer (some ⟨w.heap.size + 1, 0, none⟩) := hf 3 (by kernel_rfl)
    exact opG_val (by revert e1; generalize ac.eval = ρ; intro e1; simp [go_sem, execOp, e1]) ⟨rfl, fun h => by cases h⟩ (Chg.refl _)
   ·exact ldN rfl (hg 2 (by kernel_rfl) (by decide)) (rangeq3F2 (Z4.out.2.2.1.chg hc)) ⟨rfl, fun h => by cases h⟩
   ·exact oM (.tmp 54) (.tmp 56) rfl (hg 1 (by kernel_rfl) (by decide)) (hg 3 (by kernel_rfl) (by decide)) (H1.out.nx) (H2.out.nz) fun _ _ => ⟨rfl, fun h => by cases h⟩
   ·have e1 : ac.eval (.tmp 2) = .pointer (some ⟨w.heap.size, 0, none⟩) := hf 2 (by kernel_rfl)
    exact opG_val (by revert e1; generalize ac.eval = ρ; intro e1; simp [go_sem, execOp, e1]) ⟨rfl, fun h => by cases h⟩ (Chg.refl _)
   ·exact ldN rfl (hg 5 (by kernel_rfl) (by decide)) (rangeq3F2 (Z4.out.2.1.chg hc)) ⟨rfl, fun h => by cases h⟩
   ·have e1 : ac.eval (.tmp 3) = .pointer (some ⟨w.heap.size + 1, 0, none⟩) := hf 3 (by kernel_rfl)
    exact opG_val (by revert e1; generalize ac.eval = ρ; intro e1; simp [go_sem, execOp, e1]) ⟨rfl, fun h => by cases h⟩ (Chg.refl _)
   ·exact ldN rfl (hg 7 (by kernel_rfl) (by decide)) (rangeq3F0 (Z4.out.2.2.1.chg hc)) ⟨rfl, fun h => by cases h⟩
   ·exact oM (.tmp 59) (.tmp 61) rfl (hg 6 (by kernel_rfl) (by decide)) (hg 8 (by kernel_rfl) (by decide)) (H1.out.nz) (H2.out.nx) fun _ _ => ⟨rfl, fun h => by cases h⟩
   ·exact oA (.tmp 57) (.tmp 62) rfl (hg 4 (by kernel_rfl) (by decide)) (hg 9 (by kernel_rfl) (by decide)) (md_N _ _) (md_N _ _) fun _ _ => ⟨rfl, fun h => by cases h⟩
   ·exact opG_val (v := .pointer (some ⟨u.heap.size, 0, none⟩)) (w' := u.alloc (.cells (num 0) 24)) (by generalize ac.eval = ρ; simp [go_sem, execOp, zero25.1]) ⟨⟨_, rfl, Ar.new _ _ _, hc.size⟩, fun _ => rfl⟩ ((Chg.refl _).alloc _)
  ·intro u V hV hap hc
   have q63 : V 10 = .agg (num (md 2 ((md 2 (x * z')) + (md 2 (z * x'))))) := hV 10 (by decide)
   obtain ⟨b10, q10, r10, s10⟩ := hV 11 (by decide)
   have lw10 : w.heap.size ≤ b10 := Nat.le_trans Z4.out.1.size s10
   have hres0 := r10
   refine tail_cons rfl rfl ?_
   refine wp_store_mid 24 (.tmp 10) (.tmp 63) rfl b10 0 (num (md 2 ((md 2 (x * z')) + (md 2 (z * x'))))) (Eq.trans (by rfl) q10) (Eq.trans (by rfl) q63) (by rw [num_size]; exact thereN hres0) (szN _) (num_one _) ?_
   rw [setRowN hres0 _]
   have k0_c : Chg w (u.setRow b10 (num (md 2 ((md 2 (x * z')) + (md 2 (z * x')))))) := ((Z4.out.1.trans hc).setRow lw10 _)
   have k0_B4 := (Z4.out.2.2.2.1.chg hc).rowOther (Z4.out.2.2.2.1.apart s10) (num (md 2 ((md 2 (x * z')) + (md 2 (z * x')))))
   have k0_B5 := (Z4.out.2.2.2.2.1.chg hc).rowOther (Z4.out.2.2.2.2.1.apart s10) (num (md 2 ((md 2 (x * z')) + (md 2 (z * x')))))
   have k0_B6 := (Z4.out.2.2.2.2.2.1.chg hc).rowOther (Z4.out.2.2.2.2.2.1.apart s10) (num (md 2 ((md 2 (x * z')) + (md 2 (z * x')))))
   have k0_B7 := (Z4.out.2.2.2.2.2.2.1.chg hc).rowOther (Z4.out.2.2.2.2.2.2.1.apart s10) (num (md 2 ((md 2 (x * z')) + (md 2 (z * x')))))
   have k0_B8 := (Z4.out.2.2.2.2.2.2.2.1.chg hc).rowOther (Z4.out.2.2.2.2.2.2.2.1.apart s10) (num (md 2 ((md 2 (x * z')) + (md 2 (z * x')))))
   have k0_B9 := (Z4.out.2.2.2.2.2.2.2.2.chg hc).rowOther (Z4.out.2.2.2.2.2.2.2.2.apart s10) (num (md 2 ((md 2 (x * z')) + (md 2 (z * x')))))
   have k0_B10 := hres0.row (num (md 2 ((md 2 (x * z')) + (md 2 (z * x')))))
   generalize (u.setRow b10 (num (md 2 ((md 2 (x * z')) + (md 2 (z * x')))))) = u10 at k0_c k0_B4 k0_B5 k0_B6 k0_B7 k0_B8 k0_B9 k0_B10 ⊢
   refine tail_nil rfl ?_
   go_wp2_with fail
   go_meet
   exact ⟨b10, q10, Z4.out.2.2.2.1.apart s10, k0_c, k0_B4, k0_B5, k0_B6, k0_B7, k0_B8, k0_B9, k0_B10⟩
 obtain ⟨b10, rfl, of0, hz⟩ := hcut
 obtain ⟨w5, hw5⟩ : ∃ zz0, zz0 = wc := ⟨_, rfl⟩
 rw [← hw5] at hz ⊢
 have Z5 : Hid _ := hz
 have O5_0 : Hid _ := of0
 clear hw5 hz of0 Z4
 obtain ⟨e10x5, he10x5⟩ : ∃ zz0, zz0 = md 2 ((md 2 (x * z')) + (md 2 (z * x'))) := ⟨_, rfl⟩
 have Ee10x5 : Hid (e10x5 = md 2 ((md 2 (x * z')) + (md 2 (z * x')))) := he10x5
 have Ne10x5 : Hid (N256 e10x5) := by show N256 e10x5; rw [he10x5]; exact md_N _ _
 rw [← he10x5] at Z5
 clear he10x5
 go_upto_region 5 with fail
 go_cut [11] from 11 to 69 (fun v11 wc => ∃ b11, v11 = .pointer (some ⟨b11, 0, none⟩) ∧ w.heap.size + 1 + 1 ≠ b11 ∧ Chg w wc ∧ Ar wc (w.heap.size + 1 + 1) (q3 0 0 0) ∧ Ar wc b5 (num e5x2) ∧ Ar wc b6 (num e6x2) ∧ Ar wc b7 (num e7x2) ∧ Ar wc b8 (num e8x3) ∧ Ar wc b9 (num e9x4) ∧ Ar wc b10 (num e10x5) ∧ Ar wc b11 (num (thr (md 2 (e10x5 - (md 2 (bQ * e7x2)))))))
 case first =>
  refine regM 7 (fun j => j == 6) (fun j v wg => match j with
   | 0 => v = .agg (num e10x5)
   | 1 => v = .agg (num bQ)
   | 2 => v = .agg (num e7x2)
   | 3 => v = .agg (num (md 2 (bQ * e7x2)))
   | 4 => v = .agg (num (md 2 (e10x5 - (md 2 (bQ * e7x2)))))
   | 5 => v = .agg (num (thr (md 2 (e10x5 - (md 2 (bQ * e7x2))))))
   | 6 => ∃ b, v = .pointer (some ⟨b, 0, none⟩) ∧ Ar wg b (num 0) ∧ w5.heap.size ≤ b
   | _ => True) (by kernel_rfl) (by decide) (by kernel_rfl) (by kernel_rfl) (by kernel_rfl) (by kernel_rfl) ?_ ?_ ?_ ?_
  ·intro j v u1 u2 h hc
   match j, h with
   | 0, h => exact h
   | 1, h => exact h
   | 2, h => exact h
   | 3, h => exact h
   | 4, h => exact h
   | 5, h => exact h
   | 6, h => (obtain ⟨b, h1, h2, h3⟩ := h; exact ⟨b, h1, h2.chg hc, h3⟩)
   | _ + 7, h => exact trivial
  ·intro j v u hj ha h
   have hcs : j = 6 := by simpa [or_assoc] using ha
   rcases hcs with rfl
   ·obtain ⟨b, h1, h2, h3⟩ := h; exact ⟨b, h1, h2.lt⟩
  ·intro i o ac u hi ho hsz hf hg hc
   have hcs : i = 0 ∨ i = 1 ∨ i = 2 ∨ i = 3 ∨ i = 4 ∨ i = 5 ∨ i = 6 := by omega
   rcases hcs with rfl | rfl | rfl | rfl | rfl | rfl | rfl <;> (injection ho with ho; subst ho; refine ⟨wanted_none rfl, ?_⟩)
   ·exact ldN rfl (hf 10 (by kernel_rfl)) (rangeAp (Z5.out.2.2.2.2.2.2.2.chg hc)) ⟨rfl, fun h => by cases h⟩
   ·refine opG_go 53 Try.f53 #[] #[] rfl Try.func53 (by kernel_rfl) (by kernel_rfl) (by simp []) (Calls.mono (curveQ_any _) ?_)
    rintro r u2 ⟨rfl, hc2⟩
    exact ⟨_, rfl, ⟨rfl, fun h => by cases h⟩, hc2⟩
   ·exact ldN rfl (hf 7 (by kernel_rfl)) (rangeAp (Z5.out.2.2.2.2.1.chg hc)) ⟨rfl, fun h => by cases h⟩
   ·exact oM (.tmp 65) (.tmp 66) rfl (hg 1 (by kernel_rfl) (by decide)) (hg 2 (by kernel_rfl) (by decide)) N_bQ (Ne7x2.out) fun _ _ => ⟨rfl, fun h => by cases h⟩
   ·exact oS (.tmp 64) (.tmp 67) rfl (hg 0 (by kernel_rfl) (by decide)) (hg 3 (by kernel_rfl) (by decide)) (Ne10x5.out) (md_N _ _) fun _ _ => ⟨rfl, fun h => by cases h⟩
   ·have e1 : ac.eval (.tmp 68) = .agg (num (md 2 (e10x5 - (md 2 (bQ * e7x2))))) := hg 4 (by kernel_rfl) (by decide)
    refine opG_go 51 Try.f51 #[.tmp 68] #[24] rfl Try.func51 (by kernel_rfl) (by kernel_rfl) (by simp [e1]) (Calls.mono (thriceQ_any (md 2 (e10x5 - (md 2 (bQ * e7x2)))) (md_N _ _) _) ?_)
    rintro r u2 ⟨rfl, hc2⟩
    exact ⟨_, rfl, ⟨rfl, fun h => by cases h⟩, hc2⟩
   ·exact opG_val (v := .pointer (some ⟨u.heap.size, 0, none⟩)) (w' := u.alloc (.cells (num 0) 24)) (by generalize ac.eval = ρ; simp [go_sem, execOp, zero25.1]) ⟨⟨_, rfl, Ar.new _ _ _, hc.size⟩, fun _ => rfl⟩ ((Chg.refl _).alloc _)
  ·intro u V hV hap hc
   have q69 : V 5 = .agg (num (thr (md 2 (e10x5 - (md 2 (bQ * e7x2)))))) := hV 5 (by decide)
   obtain ⟨b11, q11, r11, s11⟩ := hV 6 (by decide)
   have lw11 : w.heap.size ≤ b11 := Nat.le_trans Z5.out.1.size s11
   have hres0 := r11
   refine tail_cons rfl rfl ?_
   refine wp_store_mid 24 (.tmp 11) (.tmp 69) rfl b11 0 (num (thr (md 2 (e10x5 - (md 2 (bQ * e7x2)))))) (Eq.trans (by rfl) q11) (Eq.trans (by rfl) q69) (by rw [num_size]; exact thereN hres0) (szN _) (num_one _) ?_
   rw [setRowN hres0 _]
   have k0_c : Chg w (u.setRow b11 (num (thr (md 2 (e10x5 - (md 2 (bQ * e7x2))))))) := ((Z5.out.1.trans hc).setRow lw11 _)
   have k0_B4 := (Z5.out.2.1.chg hc).rowOther (Z5.out.2.1.apart s11) (num (thr (md 2 (e10x5 - (md 2 (bQ * e7x2))))))
   have k0_B5 := (Z5.out.2.2.1.chg hc).rowOther (Z5.out.2.2.1.apart s11) (num (thr (md 2 (e10x5 - (md 2 (bQ * e7x2))))))
   have k0_B6 := (Z5.out.2.2.2.1.chg hc).rowOther (Z5.out.2.2.2.1.apart s11) (num (thr (md 2 (e10x5 - (md 2 (bQ * e7x2))))))
   have k0_B7 := (Z5.out.2.2.2.2.1.chg hc).rowOther (Z5.out.2.2.2.2.1.apart s11) (num (thr (md 2 (e10x5 - (md 2 (bQ * e7x2))))))
   have k0_B8 := (Z5.out.2.2.2.2.2.1.chg hc).rowOther (Z5.out.2.2.2.2.2.1.apart s11) (num (thr (md 2 (e10x5 - (md 2 (bQ * e7x2))))))
   have k0_B9 := (Z5.out.2.2.2.2.2.2.1.chg hc).rowOther (Z5.out.2.2.2.2.2.2.1.apart s11) (num (thr (md 2 (e10x5 - (md 2 (bQ * e7x2))))))
   have k0_B10 := (Z5.out.2.2.2.2.2.2.2.chg hc).rowOther (Z5.out.2.2.2.2.2.2.2.apart s11) (num (thr (md 2 (e10x5 - (md 2 (bQ * e7x2))))))
   have k0_B11 := hres0.row (num (thr (md 2 (e10x5 - (md 2 (bQ * e7x2))))))
   generalize (u.setRow b11 (num (thr (md 2 (e10x5 - (md 2 (bQ * e7x2))))))) = u10 at k0_c k0_B4 k0_B5 k0_B6 k0_B7 k0_B8 k0_B9 k0_B10 k0_B11 ⊢
   refine tail_nil rfl ?_
   go_wp2_with fail
   go_meet
   exact ⟨b11, q11, Z5.out.2.1.apart s11, k0_c, k0_B4, k0_B5, k0_B6, k0_B7, k0_B8, k0_B9, k0_B10, k0_B11⟩
 obtain ⟨b11, rfl, of0, hz⟩ := hcut
 obtain ⟨w6, hw6⟩ : ∃ zz0, zz0 = wc := ⟨_, rfl⟩
 rw [← hw6] at hz ⊢
 have Z6 : Hid _ := hz
 have O6_0 : Hid _ := of0
 clear hw6 hz of0 Z5
 obtain ⟨e11x6, he11x6⟩ : ∃ zz0, zz0 = thr (md 2 (e10x5 - (md 2 (bQ * e7x2)))) := ⟨_, rfl⟩
 have Ee11x6 : Hid (e11x6 = thr (md 2 (e10x5 - (md 2 (bQ * e7x2))))) := he11x6
 have Ne11x6 : Hid (N256 e11x6) := by show N256 e11x6; rw [he11x6]; exact thr_N _
 rw [← he11x6] at Z6
 clear he11x6
 go_upto_region 6 with fail
 go_cut [12] from 12 to 78 (fun v12 wc => ∃ b12, v12 = .pointer (some ⟨b12, 0, none⟩) ∧ w.heap.size + 1 + 1 ≠ b12 ∧ Chg w wc ∧ Ar wc (w.heap.size + 1 + 1) (q3 0 0 0) ∧ Ar wc b5 (num e5x2) ∧ Ar wc b6 (num e6x2) ∧ Ar wc b7 (num e7x2) ∧ Ar wc b8 (num e8x3) ∧ Ar wc b9 (num e9x4) ∧ Ar wc b11 (num e11x6) ∧ Ar wc b12 (num (thr (md 2 ((md 2 (bQ * e10x5)) - (md 2 (e5x2 + (thr e7x2))))))))
 case first =>
  refine regM 10 (fun j => j == 9) (fun j v wg => match j with
   | 0 => v = .agg (num bQ)
   | 1 => v = .agg (num e10x5)
   | 2 => v = .agg (num (md 2 (bQ * e10x5)))
   | 3 => v = .agg (num e5x2)
   | 4 => v = .agg (num e7x2)
   | 5 => v = .agg (num (thr e7x2))
   | 6 => v = .agg (num (md 2 (e5x2 + (thr e7x2))))
   | 7 => v = .agg (num (md 2 ((md 2 (bQ * e10x5)) - (md 2 (e5x2 + (thr e7x2))))))
   | 8 => v = .agg (num (thr (md 2 ((md 2 (bQ * e10x5)) - (md 2 (e5x2 + (thr e7x2)))))))
   | 9 => ∃ b, v = .pointer (some ⟨b, 0, none⟩) ∧ Ar wg b (num 0) ∧ w6.heap.size ≤ b
   | _ => True) (by kernel_rfl) (by decide) (by kernel_rfl) (by kernel_rfl) (by kernel_rfl) (by kernel_rfl) ?_ ?_ ?_ ?_
  ·intro j v u1 u2 h hc
   match j, h with
   | 0, h => exact h
   | 1, h => exact h
   | 2, h => exact h
   | 3, h => exact h
   | 4, h => exact h
   | 5, h => exact h
   | 6, h => exact h
   | 7, h => exact h
   | 8, h => exact h
   | 9, h => (obtain ⟨b, h1, h2, h3⟩ := h; exact ⟨b, h1, h2.chg hc, h3⟩)
   | _ + 10, h => exact trivial
  ·intro j v u hj ha h
   have hcs : j = 9 := by simpa [or_assoc] using ha
   rcases hcs with rfl
   ·obtain ⟨b, h1, h2, h3⟩ := h; exact ⟨b, h1, h2.lt⟩
  ·intro i o ac u hi ho hsz hf hg hc
   have hcs : i = 0 ∨ i = 1 ∨ i = 2 ∨ i = 3 ∨ i = 4 ∨ i = 5 ∨ i = 6 ∨ i = 7 ∨ i = 8 ∨ i = 9 := by omega
   rcases hcs with rfl | rfl | rfl | rfl | rfl | rfl | rfl | rfl | rfl | rfl <;> (injection ho with ho; subst ho; refine ⟨wanted_none rfl, ?_⟩)
   ·refine opG_go 53 Try.f53 #[] #[] rfl Try.func53 (by kernel_rfl) (by kernel_rfl) (by simp []) (Calls.mono (curveQ_any _) ?_)
    rintro r u2 ⟨rfl, hc2⟩
    exact ⟨_, rfl, ⟨rfl, fun h => by cases h⟩, hc2⟩
   ·exact ldN rfl (hf 10 (by kernel_rfl)) (rangeAp (Z6.out.2.2.2.2.2.2.2.1.chg hc)) ⟨rfl, fun h => by cases h⟩
   ·exact oM (.tmp 70) (.tmp 71) rfl (hg 0 (by kernel_rfl) (by decide)) (hg 1 (by kernel_rfl) (by decide)) N_bQ (Ne10x5.out) fun _ _ => ⟨rfl, fun h => by cases h⟩
   ·exact ldN rfl (hf 5 (by kernel_rfl)) (rangeAp (Z6.out.2.2.1.chg hc)) ⟨rfl, fun h => by cases h⟩
   ·exact ldN rfl (hf 7 (by kernel_rfl)) (rangeAp (Z6.out.2.2.2.2.1.chg hc)) ⟨rfl, fun h => by cases h⟩
   ·have e1 : ac.eval (.tmp 74) = .agg (num e7x2) := hg 4 (by kernel_rfl) (by decide)
    refine opG_go 51 Try.f51 #[.tmp 74] #[24] rfl Try.func51 (by kernel_rfl) (by kernel_rfl) (by simp [e1]) (Calls.mono (thriceQ_any e7x2 (Ne7x2.out) _) ?_)
    rintro r u2 ⟨rfl, hc2⟩
    exact ⟨_, rfl, ⟨rfl, fun h => by cases h⟩, hc2⟩
   ·exact oA (.tmp 73) (.tmp 75) rfl (hg 3 (by kernel_rfl) (by decide)) (hg 5 (by kernel_rfl) (by decide)) (Ne5x2.out) (thr_N _) fun _ _ => ⟨rfl, fun h => by cases h⟩
   ·exact oS (.tmp 72) (.tmp 76) rfl (hg 2 (by kernel_rfl) (by decide)) (hg 6 (by kernel_rfl) (by decide)) (md_N _ _) (md_N _ _) fun _ _ => ⟨rfl, fun h => by cases h⟩
   ·have e1 : ac.eval (.tmp 77) = .agg (num (md 2 ((md 2 (bQ * e10x5)) - (md 2 (e5x2 + (thr e7x2)))))) := hg 7 (by kernel_rfl) (by decide)
    refine opG_go 51 Try.f51 #[.tmp 77] #[24] rfl Try.func51 (by kernel_rfl) (by kernel_rfl) (by simp [e1]) (Calls.mono (thriceQ_any (md 2 ((md 2 (bQ * e10x5)) - (md 2 (e5x2 + (thr e7x2))))) (md_N _ _) _) ?_)
    rintro r u2 ⟨rfl, hc2⟩
    exact ⟨_, rfl, ⟨rfl, fun h => by cases h⟩, hc2⟩
   ·exact opG_val (v := .pointer (some ⟨u.heap.size, 0, none⟩)) (w' := u.alloc (.cells (num 0) 24)) (by generalize ac.eval = ρ; simp [go_sem, execOp, zero25.1]) ⟨⟨_, rfl, Ar.new _ _ _, hc.size⟩, fun _ => rfl⟩ ((Chg.refl _).alloc _)
  ·intro u V hV hap hc
   have q78 : V 8 = .agg (num (thr (md 2 ((md 2 (bQ * e10x5)) - (md 2 (e5x2 + (thr e7x2))))))) := hV 8 (by decide)
   obtain ⟨b12, q12, r12, s12⟩ := hV 9 (by decide)
   have lw12 : w.heap.size ≤ b12 := Nat.le_trans Z6.out.1.size s12
   have hres0 := r12
   refine tail_cons rfl rfl ?_
   refine wp_store_mid 24 (.tmp 12) (.tmp 78) rfl b12 0 (num (thr (md 2 ((md 2 (bQ * e10x5)) - (md 2 (e5x2 + (thr e7x2))))))) (Eq.trans (by rfl) q12) (Eq.trans (by rfl) q78) (by rw [num_size]; exact thereN hres0) (szN _) (num_one _) ?_
   rw [setRowN hres0 _]
   have k0_c : Chg w (u.setRow b12 (num (thr (md 2 ((md 2 (bQ * e10x5)) - (md 2 (e5x2 + (thr e7x2)))))))) := ((Z6.out.1.trans hc).setRow lw12 _)
   have k0_B4 := (Z6.out.2.1.chg hc).rowOther (Z6.out.2.1.apart s12) (num (thr (md 2 ((md 2 (bQ * e10x5)) - (md 2 (e5x2 + (thr e7x2)))))))
   have k0_B5 := (Z6.out.2.2.1.chg hc).rowOther (Z6.out.2.2.1.apart s12) (num (thr (md 2 ((md 2 (bQ * e10x5)) - (md 2 (e5x2 + (thr e7x2)))))))
   have k0_B6 := (Z6.out.2.2.2.1.chg hc).rowOther (Z6.out.2.2.2.1.apart s12) (num (thr (md 2 ((md 2 (bQ * e10x5)) - (md 2 (e5x2 + (thr e7x2)))))))
   have k0_B7 := (Z6.out.2.2.2.2.1.chg hc).rowOther (Z6.out.2.2.2.2.1.apart s12) (num (thr (md 2 ((md 2 (bQ * e10x5)) - (md 2 (e5x2 + (thr e7x2)))))))
   have k0_B8 := (Z6.out.2.2.2.2.2.1.chg hc).rowOther (Z6.out.2.2.2.2.2.1.apart s12) (num (thr (md 2 ((md 2 (bQ * e10x5)) - (md 2 (e5x2 + (thr e7x2)))))))
   have k0_B9 := (Z6.out.2.2.2.2.2.2.1.chg hc).rowOther (Z6.out.2.2.2.2.2.2.1.apart s12) (num (thr (md 2 ((md 2 (bQ * e10x5)) - (md 2 (e5x2 + (thr e7x2)))))))
   have k0_B11 := (Z6.out.2.2.2.2.2.2.2.2.chg hc).rowOther (Z6.out.2.2.2.2.2.2.2.2.apart s12) (num (thr (md 2 ((md 2 (bQ * e10x5)) - (md 2 (e5x2 + (thr e7x2)))))))
   have k0_B12 := hres0.row (num (thr (md 2 ((md 2 (bQ * e10x5)) - (md 2 (e5x2 + (thr e7x2)))))))
   generalize (u.setRow b12 (num (thr (md 2 ((md 2 (bQ * e10x5)) - (md 2 (e5x2 + (thr e7x2)))))))) = u10 at k0_c k0_B4 k0_B5 k0_B6 k0_B7 k0_B8 k0_B9 k0_B11 k0_B12 ⊢
   refine tail_nil rfl ?_
   go_wp2_with fail
   go_meet
   exact ⟨b12, q12, Z6.out.2.1.apart s12, k0_c, k0_B4, k0_B5, k0_B6, k0_B7, k0_B8, k0_B9, k0_B11, k0_B12⟩
 obtain ⟨b12, rfl, of0, hz⟩ := hcut
 obtain ⟨w7, hw7⟩ : ∃ zz0, zz0 = wc := ⟨_, rfl⟩
 rw [← hw7] at hz ⊢
 have Z7 : Hid _ := hz
 have O7_0 : Hid _ := of0
 clear hw7 hz of0 Z6
 obtain ⟨e12x7, he12x7⟩ : ∃ zz0, zz0 = thr (md 2 ((md 2 (bQ * e10x5)) - (md 2 (e5x2 + (thr e7x2))))) := ⟨_, rfl⟩
 have Ee12x7 : Hid (e12x7 = thr (md 2 ((md 2 (bQ * e10x5)) - (md 2 (e5x2 + (thr e7x2)))))) := he12x7
 have Ne12x7 : Hid (N256 e12x7) := by show N256 e12x7; rw [he12x7]; exact thr_N _
 rw [← he12x7] at Z7
 clear he12x7
 go_upto_region 7 with fail
 go_cut [13] from 13 to 82 (fun v13 wc => ∃ b13, v13 = .pointer (some ⟨b13, 0, none⟩) ∧ w.heap.size + 1 + 1 ≠ b13 ∧ Chg w wc ∧ Ar wc (w.heap.size + 1 + 1) (q3 0 0 0) ∧ Ar wc b6 (num e6x2) ∧ Ar wc b8 (num e8x3) ∧ Ar wc b9 (num e9x4) ∧ Ar wc b11 (num e11x6) ∧ Ar wc b12 (num e12x7) ∧ Ar wc b13 (num (thr (md 2 (e5x2 - e7x2)))))
 case first =>
  refine regP 5 (fun j v wg => match j with
   | 0 => v = .agg (num e5x2)
   | 1 => v = .agg (num e7x2)
   | 2 => v = .agg (num (md 2 (e5x2 - e7x2)))
   | 3 => v = .agg (num (thr (md 2 (e5x2 - e7x2))))
   | 4 => ∃ b, v = .pointer (some ⟨b, 0, none⟩) ∧ Ar wg b (num 0) ∧ w7.heap.size ≤ b
   | _ => True) (by decide) (by kernel_rfl) ?_ ?_ ?_
  ·intro j v u1 u2 h hc
   match j, h with
   | 0, h => exact h
   | 1, h => exact h
   | 2, h => exact h
   | 3, h => exact h
   | 4, h => (obtain ⟨b, h1, h2, h3⟩ := h; exact ⟨b, h1, h2.chg hc, h3⟩)
   | _ + 5, h => exact trivial
  ·intro i o ac u hi ho hsz hf hg hc
   have hcs : i = 0 ∨ i = 1 ∨ i = 2 ∨ i = 3 ∨ i = 4 := by omega
   rcases hcs with rfl | rfl | rfl | rfl | rfl <;> (injection ho with ho; subst ho; refine .inl ⟨wanted_none rfl, ?_⟩)
   ·exact ldN rfl (hf 5 (by kernel_rfl)) (rangeAp (Z7.out.2.2.1.chg hc)) rfl
   ·exact ldN rfl (hf 7 (by kernel_rfl)) (rangeAp (Z7.out.2.2.2.2.1.chg hc)) rfl
   ·exact oS (.tmp 79) (.tmp 80) rfl (hg 0 (by decide) (by decide)) (hg 1 (by decide) (by decide)) (Ne5x2.out) (Ne7x2.out) fun _ _ => rfl
   ·have e1 : ac.eval (.tmp 81) = .agg (num (md 2 (e5x2 - e7x2))) := hg 2 (by decide) (by decide)
    refine opG_go 51 Try.f51 #[.tmp 81] #[24] rfl Try.func51 (by kernel_rfl) (by kernel_rfl) (by simp [e1]) (Calls.mono (thriceQ_any (md 2 (e5x2 - e7x2)) (md_N _ _) _) ?_)
    rintro r u2 ⟨rfl, hc2⟩
    exact ⟨_, rfl, rfl, hc2⟩
   ·exact opG_val (v := .pointer (some ⟨u.heap.size, 0, none⟩)) (w' := u.alloc (.cells (num 0) 24)) (by generalize ac.eval = ρ; simp [go_sem, execOp, zero25.1]) ⟨_, rfl, Ar.new _ _ _, hc.size⟩ ((Chg.refl _).alloc _)
  ·intro u V hV hc
   have q82 : V 3 = .agg (num (thr (md 2 (e5x2 - e7x2)))) := hV 3 (by decide)
   obtain ⟨b13, q13, r13, s13⟩ := hV 4 (by decide)
   have lw13 : w.heap.size ≤ b13 := Nat.le_trans Z7.out.1.size s13
   have hres0 := r13
   refine wpList_store_mid rfl 24 (.tmp 13) (.tmp 82) rfl b13 0 (num (thr (md 2 (e5x2 - e7x2)))) (Eq.trans (by rfl) q13) (Eq.trans (by rfl) q82) (by rw [num_size]; exact thereN hres0) (szN _) (num_one _) ?_
   rw [setRowN hres0 _]
   have k0_c : Chg w (u.setRow b13 (num (thr (md 2 (e5x2 - e7x2))))) := ((Z7.out.1.trans hc).setRow lw13 _)
   have k0_B4 := (Z7.out.2.1.chg hc).rowOther (Z7.out.2.1.apart s13) (num (thr (md 2 (e5x2 - e7x2))))
   have k0_B6 := (Z7.out.2.2.2.1.chg hc).rowOther (Z7.out.2.2.2.1.apart s13) (num (thr (md 2 (e5x2 - e7x2))))
   have k0_B8 := (Z7.out.2.2.2.2.2.1.chg hc).rowOther (Z7.out.2.2.2.2.2.1.apart s13) (num (thr (md 2 (e5x2 - e7x2))))
   have k0_B9 := (Z7.out.2.2.2.2.2.2.1.chg hc).rowOther (Z7.out.2.2.2.2.2.2.1.apart s13) (num (thr (md 2 (e5x2 - e7x2))))
   have k0_B11 := (Z7.out.2.2.2.2.2.2.2.1.chg hc).rowOther (Z7.out.2.2.2.2.2.2.2.1.apart s13) (num (thr (md 2 (e5x2 - e7x2))))
   have k0_B12 := (Z7.out.2.2.2.2.2.2.2.2.chg hc).rowOther (Z7.out.2.2.2.2.2.2.2.2.apart s13) (num (thr (md 2 (e5x2 - e7x2))))
   have k0_B13 := hres0.row (num (thr (md 2 (e5x2 - e7x2))))
   generalize (u.setRow b13 (num (thr (md 2 (e5x2 - e7x2))))) = u10 at k0_c k0_B4 k0_B6 k0_B8 k0_B9 k0_B11 k0_B12 k0_B13 ⊢
   go_wp2_with fail
   go_meet
   exact ⟨b13, q13, Z7.out.2.1.apart s13, k0_c, k0_B4, k0_B6, k0_B8, k0_B9, k0_B11, k0_B12, k0_B13⟩
 obtain ⟨b13, rfl, of0, hz⟩ := hcut
 obtain ⟨w8, hw8⟩ : ∃ zz0, zz0 = wc := ⟨_, rfl⟩
 rw [← hw8] at hz ⊢
 have Z8 : Hid _ := hz
 have O8_0 : Hid _ := of0
 clear hw8 hz of0 Z7
 obtain ⟨e13x8, he13x8⟩ : ∃ zz0, zz0 = thr (md 2 (e5x2 - e7x2)) := ⟨_, rfl⟩
 have Ee13x8 : Hid (e13x8 = thr (md 2 (e5x2 - e7x2))) := he13x8
 have Ne13x8 : Hid (N256 e13x8) := by show N256 e13x8; rw [he13x8]; exact thr_N _
 rw [← he13x8] at Z8
 clear he13x8
 go_upto_region 8 with fail
 go_cut [14, 15] from 14 to 88 (fun v14 v15 wc => ∃ b14 b15, v14 = .pointer (some ⟨b14, 0, none⟩) ∧ v15 = .pointer (some ⟨b15, 0, none⟩) ∧ w.heap.size + 1 + 1 ≠ b14 ∧ w.heap.size + 1 + 1 ≠ b15 ∧ Chg w wc ∧ Ar wc (w.heap.size + 1 + 1) (q3 0 0 0) ∧ Ar wc b8 (num e8x3) ∧ Ar wc b9 (num e9x4) ∧ Ar wc b12 (num e12x7) ∧ Ar wc b13 (num e13x8) ∧ Ar wc b14 (num (md 2 (e6x2 - e11x6))) ∧ Ar wc b15 (num (md 2 (e6x2 + e11x6))))
 case first =>
  refine regM 8 (fun j => j == 6 || j == 7) (fun j v wg => match j with
   | 0 => v = .agg (num e6x2)
   | 1 => v = .agg (num e11x6)
   | 2 => v = .agg (num (md 2 (e6x2 - e11x6)))
   | 3 => v = .agg (num e6x2)
   | 4 => v = .agg (num e11x6)
   | 5 => v = .agg (num (md 2 (e6x2 + e11x6)))
   | 6 => ∃ b, v = .pointer (some ⟨b, 0, none⟩) ∧ Ar wg b (num 0) ∧ w8.heap.size ≤ b
   | 7 => ∃ b, v = .pointer (some ⟨b, 0, none⟩) ∧ Ar wg b (num 0) ∧ w8.heap.size ≤ b
   | _ => True) (by kernel_rfl) (by decide) (by kernel_rfl) (by kernel_rfl) (by kernel_rfl) (by kernel_rfl) ?_ ?_ ?_ ?_
  ·intro j v u1 u2 h hc
   match j, h with
   | 0, h => exact h
   | 1, h => exact h
   | 2, h => exact h
   | 3, h => exact h
   | 4, h => exact h
   | 5, h => exact h
   | 6, h => (obtain ⟨b, h1, h2, h3⟩ := h; exact ⟨b, h1, h2.chg hc, h3⟩)
   | 7, h => (obtain ⟨b, h1, h2, h3⟩ := h; exact ⟨b, h1, h2.chg hc, h3⟩)
   | _ + 8, h => exact trivial
  ·intro j v u hj ha h
   have hcs : j = 6 ∨ j = 7 := by simpa [or_assoc] using ha
   rcases hcs with rfl | rfl
   ·obtain ⟨b, h1, h2, h3⟩ := h; exact ⟨b, h1, h2.lt⟩
   ·obtain ⟨b, h1, h2, h3⟩ := h; exact ⟨b, h1, h2.lt⟩
  ·intro i o ac u hi ho hsz hf hg hc
   have hcs : i = 0 ∨ i = 1 ∨ i = 2 ∨ i = 3 ∨ i = 4 ∨ i = 5 ∨ i = 6 ∨ i = 7 := by omega
   rcases hcs with rfl | rfl | rfl | rfl | rfl | rfl | rfl | rfl <;> (injection ho with ho; subst ho; refine ⟨wanted_none rfl, ?_⟩)
   ·exact ldN rfl (hf 6 (by kernel_rfl)) (rangeAp (Z8.out.2.2.1.chg hc)) ⟨rfl, fun h => by cases h⟩
   ·exact ldN rfl (hf 11 (by kernel_rfl)) (rangeAp (Z8.out.2.2.2.2.2.1.chg hc)) ⟨rfl, fun h => by cases h⟩
   ·exact oS (.tmp 83) (.tmp 84) rfl (hg 0 (by kernel_rfl) (by decide)) (hg 1 (by kernel_rfl) (by decide)) (Ne6x2.out) (Ne11x6.out) fun _ _ => ⟨rfl, fun h => by cases h⟩
   ·exact ldN rfl (hf 6 (by kernel_rfl)) (rangeAp (Z8.out.2.2.1.chg hc)) ⟨rfl, fun h => by cases h⟩
   ·exact ldN rfl (hf 11 (by kernel_rfl)) (rangeAp (Z8.out.2.2.2.2.2.1.chg hc)) ⟨rfl, fun h => by cases h⟩
   ·exact oA (.tmp 86) (.tmp 87) rfl (hg 3 (by kernel_rfl) (by decide)) (hg 4 (by kernel_rfl) (by decide)) (Ne6x2.out) (Ne11x6.out) fun _ _ => ⟨rfl, fun h => by cases h⟩
   ·exact opG_val (v := .pointer (some ⟨u.heap.size, 0, none⟩)) (w' := u.alloc (.cells (num 0) 24)) (by generalize ac.eval = ρ; simp [go_sem, execOp, zero25.1]) ⟨⟨_, rfl, Ar.new _ _ _, hc.size⟩, fun _ => rfl⟩ ((Chg.refl _).alloc _)
   ·exact opG_val (v := .pointer (some ⟨u.heap.size, 0, none⟩)) (w' := u.alloc (.cells (num 0) 24)) (by generalize ac.eval = ρ; simp [go_sem, execOp, zero25.1]) ⟨⟨_, rfl, Ar.new _ _ _, hc.size⟩, fun _ => rfl⟩ ((Chg.refl _).alloc _)
  ·intro u V hV hap hc
   have q85 : V 2 = .agg (num (md 2 (e6x2 - e11x6))) := hV 2 (by decide)
   have q88 : V 5 = .agg (num (md 2 (e6x2 + e11x6))) := hV 5 (by decide)
   obtain ⟨b14, q14, r14, s14⟩ := hV 6 (by decide)
   obtain ⟨b15, q15, r15, s15⟩ := hV 7 (by decide)
   have lw14 : w.heap.size ≤ b14 := Nat.le_trans Z8.out.1.size s14
   have lw15 : w.heap.size ≤ b15 := Nat.le_trans Z8.out.1.size s15
   have hne14_15 : b14 ≠ b15 := by
    have := hap 6 7 (by decide) (by decide) rfl rfl (by decide)
    rw [q14, q15] at this
    intro e; exact this (by rw [e])
   have hres0 := r14
   refine tail_cons rfl rfl ?_
   refine wp_store_mid 24 (.tmp 14) (.tmp 85) rfl b14 0 (num (md 2 (e6x2 - e11x6))) (Eq.trans (by rfl) q14) (Eq.trans (by rfl) q85) (by rw [num_size]; exact thereN hres0) (szN _) (num_one _) ?_
   rw [setRowN hres0 _]
   have k0_c : Chg w (u.setRow b14 (num (md 2 (e6x2 - e11x6)))) := ((Z8.out.1.trans hc).setRow lw14 _)
   have k0_B4 := (Z8.out.2.1.chg hc).rowOther (Z8.out.2.1.apart s14) (num (md 2 (e6x2 - e11x6)))
   have k0_B8 := (Z8.out.2.2.2.1.chg hc).rowOther (Z8.out.2.2.2.1.apart s14) (num (md 2 (e6x2 - e11x6)))
   have k0_B9 := (Z8.out.2.2.2.2.1.chg hc).rowOther (Z8.out.2.2.2.2.1.apart s14) (num (md 2 (e6x2 - e11x6)))
   have k0_B12 := (Z8.out.2.2.2.2.2.2.1.chg hc).rowOther (Z8.out.2.2.2.2.2.2.1.apart s14) (num (md 2 (e6x2 - e11x6)))
   have k0_B13 := (Z8.out.2.2.2.2.2.2.2.chg hc).rowOther (Z8.out.2.2.2.2.2.2.2.apart s14) (num (md 2 (e6x2 - e11x6)))
   have k0_B14 := hres0.row (num (md 2 (e6x2 - e11x6)))
   have k0_B15 := r15.rowOther (hne14_15.symm) (num (md 2 (e6x2 - e11x6)))
   generalize (u.setRow b14 (num (md 2 (e6x2 - e11x6)))) = u10 at k0_c k0_B4 k0_B8 k0_B9 k0_B12 k0_B13 k0_B14 k0_B15 ⊢
   have hres1 := k0_B15
   refine tail_cons rfl rfl ?_
   refine wp_store_mid 24 (.tmp 15) (.tmp 88) rfl b15 0 (num (md 2 (e6x2 + e11x6))) (Eq.trans (by rfl) q15) (Eq.trans (by rfl) q88) (by rw [num_size]; exact thereN hres1) (szN _) (num_one _) ?_
   rw [setRowN hres1 _]
   have k1_c : Chg w (u10.setRow b15 (num (md 2 (e6x2 + e11x6)))) := (k0_c.setRow lw15 _)
   have k1_B4 := k0_B4.rowOther (Z8.out.2.1.apart s15) (num (md 2 (e6x2 + e11x6)))
   have k1_B8 := k0_B8.rowOther (Z8.out.2.2.2.1.apart s15) (num (md 2 (e6x2 + e11x6)))
   have k1_B9 := k0_B9.rowOther (Z8.out.2.2.2.2.1.apart s15) (num (md 2 (e6x2 + e11x6)))
   have k1_B12 := k0_B12.rowOther (Z8.out.2.2.2.2.2.2.1.apart s15) (num (md 2 (e6x2 + e11x6)))
   have k1_B13 := k0_B13.rowOther (Z8.out.2.2.2.2.2.2.2.apart s15) (num (md 2 (e6x2 + e11x6)))
   have k1_B14 := k0_B14.rowOther hne14_15 (num (md 2 (e6x2 + e11x6)))
   have k1_B15 := hres1.row (num (md 2 (e6x2 + e11x6)))
   generalize (u10.setRow b15 (num (md 2 (e6x2 + e11x6)))) = u11 at k1_c k1_B4 k1_B8 k1_B9 k1_B12 k1_B13 k1_B14 k1_B15 ⊢
   refine tail_nil rfl ?_
   go_wp2_with fail
   go_meet
   exact ⟨b14, b15, q14, q15, Z8.out.2.1.apart s14, Z8.out.2.1.apart s15, k1_c, k1_B4, k1_B8, k1_B9, k1_B12, k1_B13, k1_B14, k1_B15⟩
 obtain ⟨b14, b15, rfl, rfl, of0, of1, hz⟩ := hcut
 obtain ⟨w9, hw9⟩ : ∃ zz0, zz0 = wc := ⟨_, rfl⟩
 rw [← hw9] at hz ⊢
 have Z9 : Hid _ := hz
 have O9_0 : Hid _ := of0
 have O9_1 : Hid _ := of1
 clear hw9 hz of0 of1 Z8
 obtain ⟨e14x9, he14x9⟩ : ∃ zz0, zz0 = md 2 (e6x2 - e11x6) := ⟨_, rfl⟩
 have Ee14x9 : Hid (e14x9 = md 2 (e6x2 - e11x6)) := he14x9
 have Ne14x9 : Hid (N256 e14x9) := by show N256 e14x9; rw [he14x9]; exact md_N _ _
 rw [← he14x9] at Z9
 clear he14x9
 obtain ⟨e15x9, he15x9⟩ : ∃ zz0, zz0 = md 2 (e6x2 + e11x6) := ⟨_, rfl⟩
 have Ee15x9 : Hid (e15x9 = md 2 (e6x2 + e11x6)) := he15x9
 have Ne15x9 : Hid (N256 e15x9) := by show N256 e15x9; rw [he15x9]; exact md_N _ _
 rw [← he15x9] at Z9
 clear he15x9
 go_upto_region 9 with fail
 go_cut [] from 89 to 110 (fun wc => Chg w wc ∧ Ar wc (w.heap.size + 1 + 1) (q3 (md 2 ((md 2 (e8x3 * e15x9)) - (md 2 (e9x4 * e12x7)))) (md 2 ((md 2 (e14x9 * e15x9)) + (md 2 (e12x7 * e13x8)))) (md 2 ((md 2 (e9x4 * e14x9)) + (md 2 (e8x3 * e13x8))))))
 case first =>
  refine regM 22 (fun j => false) (fun j v wg => match j with
   | 0 => v = .agg (num e8x3)
   | 1 => v = .agg (num e15x9)
   | 2 => v = .agg (num (md 2 (e8x3 * e15x9)))
   | 3 => v = .agg (num e9x4)
   | 4 => v = .agg (num e12x7)
   | 5 => v = .agg (num (md 2 (e9x4 * e12x7)))
   | 6 => v = .agg (num (md 2 ((md 2 (e8x3 * e15x9)) - (md 2 (e9x4 * e12x7)))))
   | 7 => v = .agg (num e14x9)
   | 8 => v = .agg (num e15x9)
   | 9 => v = .agg (num (md 2 (e14x9 * e15x9)))
   | 10 => v = .agg (num e12x7)
   | 11 => v = .agg (num e13x8)
   | 12 => v = .agg (num (md 2 (e12x7 * e13x8)))
   | 13 => v = .agg (num (md 2 ((md 2 (e14x9 * e15x9)) + (md 2 (e12x7 * e13x8)))))
   | 14 => v = .agg (num e9x4)
   | 15 => v = .agg (num e14x9)
   | 16 => v = .agg (num (md 2 (e9x4 * e14x9)))
   | 17 => v = .agg (num e8x3)
   | 18 => v = .agg (num e13x8)
   | 19 => v = .agg (num (md 2 (e8x3 * e13x8)))
   | 20 => v = .agg (num (md 2 ((md 2 (e9x4 * e14x9)) + (md 2 (e8x3 * e13x8)))))
   | 21 => v = .agg (q3 (md 2 ((md 2 (e8x3 * e15x9)) - (md 2 (e9x4 * e12x7)))) (md 2 ((md 2 (e14x9 * e15x9)) + (md 2 (e12x7 * e13x8)))) (md 2 ((md 2 (e9x4 * e14x9)) + (md 2 (e8x3 * e13x8)))))
   | _ => True) (by kernel_rfl) (by decide) (by kernel_rfl) (by kernel_rfl) (by kernel_rfl) (by kernel_rfl) ?_ ?_ ?_ ?_
  ·intro j v u1 u2 h hc; exact h
  ·intro j v u hj ha h
   cases ha
  ·intro i o ac u hi ho hsz hf hg hc
   have hcs : i = 0 ∨ i = 1 ∨ i = 2 ∨ i = 3 ∨ i = 4 ∨ i = 5 ∨ i = 6 ∨ i = 7 ∨ i = 8 ∨ i = 9 ∨ i = 10 ∨ i = 11 ∨ i = 12 ∨ i = 13 ∨ i = 14 ∨ i = 15 ∨ i = 16 ∨ i = 17 ∨ i = 18 ∨ i = 19 ∨ i = 20 ∨ i = 21 := by omega
   rcases hcs with rfl | rfl | rfl | rfl | rfl | rfl | rfl | rfl | rfl | rfl | rfl | rfl | rfl | rfl | rfl | rfl | rfl | rfl | rfl | rfl | rfl | rfl <;> (injection ho with ho; subst ho; refine ⟨wanted_none rfl, ?_⟩)
   ·exact ldN rfl (hf 8 (by kernel_rfl)) (rangeAp (Z9.out.2.2.1.chg hc)) ⟨rfl, fun h => by cases h⟩
   ·exact ldN rfl (hf 15 (by kernel_rfl)) (rangeAp (Z9.out.2.2.2.2.2.2.2.chg hc)) ⟨rfl, fun h => by cases h⟩
   ·exact oM (.tmp 89) (.tmp 90) rfl (hg 0 (by kernel_rfl) (by decide)) (hg 1 (by kernel_rfl) (by decide)) (Ne8x3.out) (Ne15x9.out) fun _ _ => ⟨rfl, fun h => by cases h⟩
   ·exact ldN rfl (hf 9 (by kernel_rfl)) (rangeAp (Z9.out.2.2.2.1.chg hc)) ⟨rfl, fun h => by cases h⟩
   ·exact ldN rfl (hf 12 (by kernel_rfl)) (rangeAp (Z9.out.2.2.2.2.1.chg hc)) ⟨rfl, fun h => by cases h⟩
   ·exact oM (.tmp 92) (.tmp 93) rfl (hg 3 (by kernel_rfl) (by decide)) (hg 4 (by kernel_rfl) (by decide)) (Ne9x4.out) (Ne12x7.out) fun _ _ => ⟨rfl, fun h => by cases h⟩
   ·exact oS (.tmp 91) (.tmp 94) rfl (hg 2 (by kernel_rfl) (by decide)) (hg 5 (by kernel_rfl) (by decide)) (md_N _ _) (md_N _ _) fun _ _ => ⟨rfl, fun h => by cases h⟩
   ·exact ldN rfl (hf 14 (by kernel_rfl)) (rangeAp (Z9.out.2.2.2.2.2.2.1.chg hc)) ⟨rfl, fun h => by cases h⟩
   ·exact ldN rfl (hf 15 (by kernel_rfl)) (rangeAp (Z9.out.2.2.2.2.2.2.2.chg hc)) ⟨rfl, fun h => by cases h⟩
   ·exact oM (.tmp 96) (.tmp 97) rfl (hg 7 (by kernel_rfl) (by decide)) (hg 8 (by kernel_rfl) (by decide)) (Ne14x9.out) (Ne15x9.out) fun _ _ => ⟨rfl, fun h => by cases h⟩
   ·exact ldN rfl (hf 12 (by kernel_rfl)) (rangeAp (Z9.out.2.2.2.2.1.chg hc)) ⟨rfl, fun h => by cases h⟩
   ·exact ldN rfl (hf 13 (by kernel_rfl)) (rangeAp (Z9.out.2.2.2.2.2.1.chg hc)) ⟨rfl, fun h => by cases h⟩
   ·exact oM (.tmp 99) (.tmp 100) rfl (hg 10 (by kernel_rfl) (by decide)) (hg 11 (by kernel_rfl) (by decide)) (Ne12x7.out) (Ne13x8.out) fun _ _ => ⟨rfl, fun h => by cases h⟩
   ·exact oA (.tmp 98) (.tmp 101) rfl (hg 9 (by kernel_rfl) (by decide)) (hg 12 (by kernel_rfl) (by decide)) (md_N _ _) (md_N _ _) fun _ _ => ⟨rfl, fun h => by cases h⟩
   ·exact ldN rfl (hf 9 (by kernel_rfl)) (rangeAp (Z9.out.2.2.2.1.chg hc)) ⟨rfl, fun h => by cases h⟩
   ·exact ldN rfl (hf 14 (by kernel_rfl)) (rangeAp (Z9.out.2.2.2.2.2.2.1.chg hc)) ⟨rfl, fun h => by cases h⟩
   ·exact oM (.tmp 103) (.tmp 104) rfl (hg 14 (by kernel_rfl) (by decide)) (hg 15 (by kernel_rfl) (by decide)) (Ne9x4.out) (Ne14x9.out) fun _ _ => ⟨rfl, fun h => by cases h⟩
   ·exact ldN rfl (hf 8 (by kernel_rfl)) (rangeAp (Z9.out.2.2.1.chg hc)) ⟨rfl, fun h => by cases h⟩
   ·exact ldN rfl (hf 13 (by kernel_rfl)) (rangeAp (Z9.out.2.2.2.2.2.1.chg hc)) ⟨rfl, fun h => by cases h⟩
   ·exact oM (.tmp 106) (.tmp 107) rfl (hg 17 (by kernel_rfl) (by decide)) (hg 18 (by kernel_rfl) (by decide)) (Ne8x3.out) (Ne13x8.out) fun _ _ => ⟨rfl, fun h => by cases h⟩
   ·exact oA (.tmp 105) (.tmp 108) rfl (hg 16 (by kernel_rfl) (by decide)) (hg 19 (by kernel_rfl) (by decide)) (md_N _ _) (md_N _ _) fun _ _ => ⟨rfl, fun h => by cases h⟩
   ·have e1 : ac.eval (.tmp 95) = .agg (num (md 2 ((md 2 (e8x3 * e15x9)) - (md 2 (e9x4 * e12x7))))) := hg 6 (by kernel_rfl) (by decide)
    have e2 : ac.eval (.tmp 102) = .agg (num (md 2 ((md 2 (e14x9 * e15x9)) + (md 2 (e12x7 * e13x8))))) := hg 13 (by kernel_rfl) (by decide)
    have e3 : ac.eval (.tmp 109) = .agg (num (md 2 ((md 2 (e9x4 * e14x9)) + (md 2 (e8x3 * e13x8))))) := hg 20 (by kernel_rfl) (by decide)
    exact opG_built _ [(0, .agg (num (md 2 ((md 2 (e8x3 * e15x9)) - (md 2 (e9x4 * e12x7)))))), (1, .agg (num (md 2 ((md 2 (e14x9 * e15x9)) + (md 2 (e12x7 * e13x8)))))), (2, .agg (num (md 2 ((md 2 (e9x4 * e14x9)) + (md 2 (e8x3 * e13x8))))))] rfl (by simp [e1, e2, e3]) (builtTr _ _ _) ⟨rfl, fun h => by cases h⟩
  ·intro u V hV hap hc
   have q110 : V 21 = .agg (q3 (md 2 ((md 2 (e8x3 * e15x9)) - (md 2 (e9x4 * e12x7)))) (md 2 ((md 2 (e14x9 * e15x9)) + (md 2 (e12x7 * e13x8)))) (md 2 ((md 2 (e9x4 * e14x9)) + (md 2 (e8x3 * e13x8))))) := hV 21 (by decide)
   have ordO2_0 := O2_0.out
   have ordO2_1 := O2_1.out
   have ordO2_2 := O2_2.out
   have ordO3_0 := O3_0.out
   have ordO4_0 := O4_0.out
   have ordO5_0 := O5_0.out
   have ordO6_0 := O6_0.out
   have ordO7_0 := O7_0.out
   have ordO8_0 := O8_0.out
   have ordO9_0 := O9_0.out
   have ordO9_1 := O9_1.out
   have hres0 := (Z9.out.2.1.chg hc)
   refine tail_cons rfl rfl ?_
   refine wp_store_mid 49 (.tmp 4) (.tmp 110) rfl (w.heap.size + 1 + 1) 0 (q3 (md 2 ((md 2 (e8x3 * e15x9)) - (md 2 (e9x4 * e12x7)))) (md 2 ((md 2 (e14x9 * e15x9)) + (md 2 (e12x7 * e13x8)))) (md 2 ((md 2 (e9x4 * e14x9)) + (md 2 (e8x3 * e13x8))))) (by rfl) (Eq.trans (by rfl) q110) (by rw [q3_size]; exact nms_there hres0 0 3 (by omega)) (szTr _ _ _) (q3_one _ _ _) ?_
   rw [setRowTr hres0 _ _ _]
   have k0_c : Chg w (u.setRow (w.heap.size + 1 + 1) (q3 (md 2 ((md 2 (e8x3 * e15x9)) - (md 2 (e9x4 * e12x7)))) (md 2 ((md 2 (e14x9 * e15x9)) + (md 2 (e12x7 * e13x8)))) (md 2 ((md 2 (e9x4 * e14x9)) + (md 2 (e8x3 * e13x8)))))) := ((Z9.out.1.trans hc).setRow (by omega) _)
   have k0_B4 := hres0.row (q3 (md 2 ((md 2 (e8x3 * e15x9)) - (md 2 (e9x4 * e12x7)))) (md 2 ((md 2 (e14x9 * e15x9)) + (md 2 (e12x7 * e13x8)))) (md 2 ((md 2 (e9x4 * e14x9)) + (md 2 (e8x3 * e13x8)))))
   generalize (u.setRow (w.heap.size + 1 + 1) (q3 (md 2 ((md 2 (e8x3 * e15x9)) - (md 2 (e9x4 * e12x7)))) (md 2 ((md 2 (e14x9 * e15x9)) + (md 2 (e12x7 * e13x8)))) (md 2 ((md 2 (e9x4 * e14x9)) + (md 2 (e8x3 * e13x8)))))) = u10 at k0_c k0_B4 ⊢
   refine tail_nil rfl ?_
   go_wp2_with fail
   go_meet
   exact ⟨k0_c, k0_B4⟩
 have hz := hcut
 obtain ⟨w10, hw10⟩ : ∃ zz0, zz0 = wc := ⟨_, rfl⟩
 rw [← hw10] at hz ⊢
 have Z10 : Hid _ := hz
 clear hw10 hz Z9
 go_wp2_with fail
 exact bp_Tr Try.results26 rfl rfl Z10.out.2 ⟨_, _, _, rfl, TQ.plus H1.out H2.out Ee5x2.out Ee6x2.out Ee7x2.out Ee8x3.out Ee9x4.out Ee10x5.out Ee11x6.out Ee12x7.out Ee13x8.out Ee14x9.out Ee15x9.out, Z10.out.1⟩
end Go.Proofs.Ytbdgmkejmfjobaa
