/-
  The x that a y has: the program.
-/
import Derived.Test.YtjfidbifjagnpaaDoorBy
namespace Go.Proofs.YtjfidbifjagnpaaDoor
open Go.RowKit
set_option linter.unusedVariables false
set_option maxRecDepth 100000
set_option maxHeartbeats 8000000 in
theorem evenX_any (y : Int) (hy : N256 y) (w : World) : Calls Tryd.prog 29 #[.agg (num y)] w fun r w' => r = .returned (.tuple #[.agg (num (rX y)), .bool (isX y)]) ∧ Chg w w' := by
 have HN : Hid (N256 y) := hy
 have hz := zero25.1
 have hsA := num_size y
 obtain ⟨A, hA⟩ : ∃ A, A = num y := ⟨_, rfl⟩
 have HA : Hid (A = num y) := hA
 rw [← hA] at hsA ⊢
 clear hA hy
 go_enter Tryd.func29, Tryd.ntmps29
 go_upto_region 1 with fail
 obtain ⟨w1, hw1⟩ : ∃ w1, w1 = (w.alloc (.cells A 32)).alloc (.cells (num 0) 32) := ⟨_, rfl⟩
 have Z1 : Hid (Chg w w1 ∧ Ar w1 w.heap.size (num y) ∧ Ar w1 (w.heap.size + 1) (num 0)) := by
  have hnew0 := Ar.new w (num y) 32
  have hnew1 := Ar.new (w.alloc (.cells (num y) 32)) (num 0) 32
  rw [World.size_alloc] at hnew1
  rw [hw1, HA.out]
  exact ⟨(((Chg.refl w).alloc _).alloc _), ((hnew0).alloc _), (hnew1)⟩
 rw [← hw1]
 clear hw1
 clear hsA hz HA
 go_cut [4] from 4 to 8 (fun v4 wc => ∃ b4, v4 = .pointer (some ⟨b4, 0, none⟩) ∧ w1.heap.size ≤ b4 ∧ Ar wc b4 (num 1) ∧ Chg w1 wc)
 case first =>
  refine regS 2 (fun j v wg => match j with
   | 0 => v = .agg (num 1)
   | 1 => ∃ b, v = .pointer (some ⟨b, 0, none⟩) ∧ Ar wg b (num 0) ∧ w1.heap.size ≤ b
   | _ => True) (by kernel_rfl) (by kernel_rfl) ?_ ?_ ?_
  ·intro j v u1 u2 h hc
   match j, h with
   | 0, h => exact h
   | 1, h => (obtain ⟨b, h1, h2, h3⟩ := h; exact ⟨b, h1, h2.chg hc, h3⟩)
   | _ + 2, h => exact trivial
  ·intro i o ac u hi ho hsz hf hg hc
   have hcs : i = 0 ∨ i = 1 := by omega
   rcases hcs with rfl | rfl
   ·injection ho with ho
    subst ho
    refine .inl ⟨wanted_none rfl, ?_⟩
    exact opG_lit _ rfl (built_1_op ac) rfl
   ·injection ho with ho
    subst ho
    refine .inl ⟨wanted_none rfl, ?_⟩
    exact opG_val (v := .pointer (some ⟨u.heap.size, 0, none⟩)) (w' := u.alloc (.cells (num 0) 32)) (by generalize ac.eval = ρ; simp [go_sem, execOp, zero25.1]) ⟨_, rfl, Ar.new _ _ _, hc.size⟩ ((Chg.refl _).alloc _)
  ·intro o u V ho hV hc
   injection ho with ho
   subst ho
   refine ⟨rfl, ?_⟩
   have q8 : V 0 = .agg (num 1) := hV 0 (by decide)
   obtain ⟨b4, q4, r4, s4⟩ := hV 1 (by decide)
   refine wp_store_mid 32 (.tmp 4) (.tmp 8) rfl b4 0 (num 1) (Eq.trans (by rfl) q4) (Eq.trans (by rfl) q8) (by rw [num_size]; exact thereN r4) (szN _) (num_one _) ?_
   rw [show u.setCells b4 0 (num 1).toList = u.setRow b4 (num 1) from setRowN r4 _]
   go_wp2_with fail
   go_meet
   exact ⟨b4, q4, s4, r4.row _, hc.setRow s4 _⟩
 obtain ⟨b4, rfl, l4, ha4, hcc⟩ := hcut
 obtain ⟨w2, hw2⟩ : ∃ zz0, zz0 = wc := ⟨_, rfl⟩
 rw [← hw2] at hcc ha4 ⊢
 clear hw2
 have O4 : Hid (w.heap.size < b4 ∧ w.heap.size + 1 < b4) := ⟨Nat.lt_of_lt_of_le (Z1.out.2.1.lt) l4, Nat.lt_of_lt_of_le (Z1.out.2.2.lt) l4⟩
 have Z2 : Hid (Chg w w2 ∧ Ar w2 w.heap.size (num y) ∧ Ar w2 (w.heap.size + 1) (num 0) ∧ Ar w2 b4 (num 1)) := ⟨Z1.out.1.trans hcc, Z1.out.2.1.chg hcc, Z1.out.2.2.chg hcc, ha4⟩
 clear hcc ha4 l4 Z1
 go_upto_region 2 with fail
 go_cut [5] from 5 to 11 (fun v5 wc => ∃ b5, v5 = .pointer (some ⟨b5, 0, none⟩) ∧ w2.heap.size ≤ b5 ∧ Ar wc b5 (num (md 1 (y * y))) ∧ Chg w2 wc)
 case first =>
  refine regS 4 (fun j v wg => match j with
   | 0 => v = .agg (num y)
   | 1 => v = .agg (num y)
   | 2 => v = .agg (num (md 1 (y * y)))
   | 3 => ∃ b, v = .pointer (some ⟨b, 0, none⟩) ∧ Ar wg b (num 0) ∧ w2.heap.size ≤ b
   | _ => True) (by kernel_rfl) (by kernel_rfl) ?_ ?_ ?_
  ·intro j v u1 u2 h hc
   match j, h with
   | 0, h => exact h
   | 1, h => exact h
   | 2, h => exact h
   | 3, h => (obtain ⟨b, h1, h2, h3⟩ := h; exact ⟨b, h1, h2.chg hc, h3⟩)
   | _ + 4, h => exact trivial
  ·intro i o ac u hi ho hsz hf hg hc
   have hcs : i = 0 ∨ i = 1 ∨ i = 2 ∨ i = 3 := by omega
   rcases hcs with rfl | rfl | rfl | rfl
   ·injection ho with ho
    subst ho
    refine .inl ⟨wanted_none rfl, ?_⟩
    have e1 : ac.eval (.tmp 1) = .pointer (some ⟨w.heap.size, 0, none⟩) := hf 1 (by kernel_rfl)
    exact wp_load_mid 32 (.tmp 1) rfl _ _ e1 ((num y).toList) _ (rangeAp (Z2.out.2.1.chg hc)) undNum rfl (infoN _) ⟨_, rfl, rfl, Chg.refl _⟩
   ·injection ho with ho
    subst ho
    refine .inl ⟨wanted_none rfl, ?_⟩
    have e1 : ac.eval (.tmp 1) = .pointer (some ⟨w.heap.size, 0, none⟩) := hf 1 (by kernel_rfl)
    exact wp_load_mid 32 (.tmp 1) rfl _ _ e1 ((num y).toList) _ (rangeAp (Z2.out.2.1.chg hc)) undNum rfl (infoN _) ⟨_, rfl, rfl, Chg.refl _⟩
   ·injection ho with ho
    subst ho
    refine .inl ⟨wanted_none rfl, ?_⟩
    have e1 : ac.eval (.tmp 9) = .agg (num y) := hg 0 (by decide) (by decide)
    have e2 : ac.eval (.tmp 10) = .agg (num y) := hg 1 (by decide) (by decide)
    refine opG_go 39 Tryd.f39 #[.tmp 9, .tmp 10] #[32, 32] rfl Tryd.func39 (by kernel_rfl) (by kernel_rfl) (by simp [e1, e2]) (Calls.mono (mulE_any y y (HN.out) (HN.out) _) ?_)
    rintro r u2 ⟨rfl, hc2⟩
    exact ⟨_, rfl, rfl, hc2⟩
   ·injection ho with ho
    subst ho
    refine .inl ⟨wanted_none rfl, ?_⟩
    exact opG_val (v := .pointer (some ⟨u.heap.size, 0, none⟩)) (w' := u.alloc (.cells (num 0) 32)) (by generalize ac.eval = ρ; simp [go_sem, execOp, zero25.1]) ⟨_, rfl, Ar.new _ _ _, hc.size⟩ ((Chg.refl _).alloc _)
  ·intro o u V ho hV hc
   injection ho with ho
   subst ho
   refine ⟨rfl, ?_⟩
   have q9 : V 0 = .agg (num y) := hV 0 (by decide)
   have q10 : V 1 = .agg (num y) := hV 1 (by decide)
   have q11 : V 2 = .agg (num (md 1 (y * y))) := hV 2 (by decide)
   obtain ⟨b5, q5, r5, s5⟩ := hV 3 (by decide)
   refine wp_store_mid 32 (.tmp 5) (.tmp 11) rfl b5 0 (num (md 1 (y * y))) (Eq.trans (by rfl) q5) (Eq.trans (by rfl) q11) (by rw [num_size]; exact thereN r5) (szN _) (num_one _) ?_
   rw [show u.setCells b5 0 (num (md 1 (y * y))).toList = u.setRow b5 (num (md 1 (y * y))) from setRowN r5 _]
   go_wp2_with fail
   go_meet
   exact ⟨b5, q5, s5, r5.row _, hc.setRow s5 _⟩
 obtain ⟨b5, rfl, l5, ha5, hcc⟩ := hcut
 obtain ⟨w3, hw3⟩ : ∃ zz0, zz0 = wc := ⟨_, rfl⟩
 rw [← hw3] at hcc ha5 ⊢
 clear hw3
 have O5 : Hid (w.heap.size < b5 ∧ w.heap.size + 1 < b5 ∧ b4 < b5) := ⟨Nat.lt_of_lt_of_le (Z2.out.2.1.lt) l5, Nat.lt_of_lt_of_le (Z2.out.2.2.1.lt) l5, Nat.lt_of_lt_of_le (Z2.out.2.2.2.lt) l5⟩
 have Z3 : Hid (Chg w w3 ∧ Ar w3 w.heap.size (num y) ∧ Ar w3 (w.heap.size + 1) (num 0) ∧ Ar w3 b4 (num 1) ∧ Ar w3 b5 (num (md 1 (y * y)))) := ⟨Z2.out.1.trans hcc, Z2.out.2.1.chg hcc, Z2.out.2.2.1.chg hcc, Z2.out.2.2.2.chg hcc, ha5⟩
 clear hcc ha5 l5 Z2
 obtain ⟨e5x3, he5x3⟩ : ∃ zz0, zz0 = md 1 (y * y) := ⟨_, rfl⟩
 have Ee5x3 : Hid (e5x3 = md 1 (y * y)) := he5x3
 have Ne5x3 : Hid (N256 e5x3) := by show N256 e5x3; rw [he5x3]; exact md_N _ _
 have Ze5x3 : Hid (Chg w w3 ∧ Ar w3 w.heap.size (num y) ∧ Ar w3 (w.heap.size + 1) (num 0) ∧ Ar w3 b4 (num 1) ∧ Ar w3 b5 (num e5x3)) := by rw [he5x3]; exact Z3.out
 clear he5x3 Z3
 go_upto_region 3 with fail
 go_cut [6, 7] from 6 to 19 (fun v6 v7 wc => ∃ b6 b7, v6 = .pointer (some ⟨b6, 0, none⟩) ∧ v7 = .pointer (some ⟨b7, 0, none⟩) ∧ w3.heap.size ≤ b6 ∧ w3.heap.size ≤ b7 ∧ b6 ≠ b7 ∧ Ar wc b6 (num (md 1 (e5x3 - 1))) ∧ Ar wc b7 (num (md 1 (1 + (md 1 (((dN : Int)) * e5x3))))) ∧ Chg w3 wc)
 case first =>
  refine regT 10 (fun j => j == 8 || j == 9) (fun j v wg => match j with
   | 0 => v = .agg (num e5x3)
   | 1 => v = .agg (num 1)
   | 2 => v = .agg (num (md 1 (e5x3 - 1)))
   | 3 => v = .agg (num 1)
   | 4 => v = .agg (num ((dN : Int)))
   | 5 => v = .agg (num e5x3)
   | 6 => v = .agg (num (md 1 (((dN : Int)) * e5x3)))
   | 7 => v = .agg (num (md 1 (1 + (md 1 (((dN : Int)) * e5x3)))))
   | 8 => ∃ b, v = .pointer (some ⟨b, 0, none⟩) ∧ Ar wg b (num 0) ∧ w3.heap.size ≤ b
   | 9 => ∃ b, v = .pointer (some ⟨b, 0, none⟩) ∧ Ar wg b (num 0) ∧ w3.heap.size ≤ b
   | _ => True) (by kernel_rfl) (by kernel_rfl) (by kernel_rfl) (by kernel_rfl) (by kernel_rfl) (by kernel_rfl) ?_ ?_ ?_ ?_
  ·intro j v u1 u2 h hc
   match j, h with
   | 0, h => exact h
   | 1, h => exact h
   | 2, h => exact h
   | 3, h => exact h
   | 4, h => exact h
   | 5, h => exact h
   | 6, h => exact h
   | 7, h => exact h
   | 8, h => (obtain ⟨b, h1, h2, h3⟩ := h; exact ⟨b, h1, h2.chg hc, h3⟩)
   | 9, h => (obtain ⟨b, h1, h2, h3⟩ := h; exact ⟨b, h1, h2.chg hc, h3⟩)
   | _ + 10, h => exact trivial
  ·intro j v u hj ha h
   have hcs : j = 8 ∨ j = 9 := by simpa using ha
   rcases hcs with rfl | rfl
   ·obtain ⟨b, h1, h2, h3⟩ := h; exact ⟨b, h1, h2.lt⟩
   ·obtain ⟨b, h1, h2, h3⟩ := h; exact ⟨b, h1, h2.lt⟩
  ·intro i o ac u hi ho hsz hf hg hc
   have hcs : i = 0 ∨ i = 1 ∨ i = 2 ∨ i = 3 ∨ i = 4 ∨ i = 5 ∨ i = 6 ∨ i = 7 ∨ i = 8 ∨ i = 9 := by omega
   rcases hcs with rfl | rfl | rfl | rfl | rfl | rfl | rfl | rfl | rfl | rfl
   ·injection ho with ho
    subst ho
    refine ⟨wanted_none rfl, ?_⟩
    have e1 : ac.eval (.tmp 5) = .pointer (some ⟨b5, 0, none⟩) := hf 5 (by kernel_rfl)
    exact wp_load_mid 32 (.tmp 5) rfl _ _ e1 ((num e5x3).toList) _ (rangeAp (Ze5x3.out.2.2.2.2.chg hc)) undNum rfl (infoN _) ⟨_, rfl, ⟨rfl, fun h => by cases h⟩, Chg.refl _⟩
   ·injection ho with ho
    subst ho
    refine ⟨wanted_none rfl, ?_⟩
    have e1 : ac.eval (.tmp 4) = .pointer (some ⟨b4, 0, none⟩) := hf 4 (by kernel_rfl)
    exact wp_load_mid 32 (.tmp 4) rfl _ _ e1 ((num 1).toList) _ (rangeAp (Ze5x3.out.2.2.2.1.chg hc)) undNum rfl (infoN _) ⟨_, rfl, ⟨rfl, fun h => by cases h⟩, Chg.refl _⟩
   ·injection ho with ho
    subst ho
    refine ⟨wanted_none rfl, ?_⟩
    have e1 : ac.eval (.tmp 12) = .agg (num e5x3) := hg 0 (by kernel_rfl) (by decide)
    have e2 : ac.eval (.tmp 13) = .agg (num 1) := hg 1 (by kernel_rfl) (by decide)
    refine opG_go 40 Tryd.f40 #[.tmp 12, .tmp 13] #[32, 32] rfl Tryd.func40 (by kernel_rfl) (by kernel_rfl) (by simp [e1, e2]) (Calls.mono (subE_any e5x3 1 (Ne5x3.out) n1E _) ?_)
    rintro r u2 ⟨rfl, hc2⟩
    exact ⟨_, rfl, ⟨rfl, fun h => by cases h⟩, hc2⟩
   ·injection ho with ho
    subst ho
    refine ⟨wanted_none rfl, ?_⟩
    have e1 : ac.eval (.tmp 4) = .pointer (some ⟨b4, 0, none⟩) := hf 4 (by kernel_rfl)
    exact wp_load_mid 32 (.tmp 4) rfl _ _ e1 ((num 1).toList) _ (rangeAp (Ze5x3.out.2.2.2.1.chg hc)) undNum rfl (infoN _) ⟨_, rfl, ⟨rfl, fun h => by cases h⟩, Chg.refl _⟩
   ·injection ho with ho
    subst ho
    refine ⟨wanted_none rfl, ?_⟩
    refine opG_go 42 Tryd.f42 #[] #[] rfl Tryd.func42 (by kernel_rfl) (by kernel_rfl) (by simp []) (Calls.mono (curveE_any _) ?_)
    rintro r u2 ⟨rfl, hc2⟩
    exact ⟨_, rfl, ⟨rfl, fun h => by cases h⟩, hc2⟩
   ·injection ho with ho
    subst ho
    refine ⟨wanted_none rfl, ?_⟩
    have e1 : ac.eval (.tmp 5) = .pointer (some ⟨b5, 0, none⟩) := hf 5 (by kernel_rfl)
    exact wp_load_mid 32 (.tmp 5) rfl _ _ e1 ((num e5x3).toList) _ (rangeAp (Ze5x3.out.2.2.2.2.chg hc)) undNum rfl (infoN _) ⟨_, rfl, ⟨rfl, fun h => by cases h⟩, Chg.refl _⟩
   ·injection ho with ho
    subst ho
    refine ⟨wanted_none rfl, ?_⟩
    have e1 : ac.eval (.tmp 16) = .agg (num ((dN : Int))) := hg 4 (by kernel_rfl) (by decide)
    have e2 : ac.eval (.tmp 17) = .agg (num e5x3) := hg 5 (by kernel_rfl) (by decide)
    refine opG_go 39 Tryd.f39 #[.tmp 16, .tmp 17] #[32, 32] rfl Tryd.func39 (by kernel_rfl) (by kernel_rfl) (by simp [e1, e2]) (Calls.mono (mulE_any ((dN : Int)) e5x3 N_dN (Ne5x3.out) _) ?_)
    rintro r u2 ⟨rfl, hc2⟩
    exact ⟨_, rfl, ⟨rfl, fun h => by cases h⟩, hc2⟩
   ·injection ho with ho
    subst ho
    refine ⟨wanted_none rfl, ?_⟩
    have e1 : ac.eval (.tmp 15) = .agg (num 1) := hg 3 (by kernel_rfl) (by decide)
    have e2 : ac.eval (.tmp 18) = .agg (num (md 1 (((dN : Int)) * e5x3))) := hg 6 (by kernel_rfl) (by decide)
    refine opG_go 41 Tryd.f41 #[.tmp 15, .tmp 18] #[32, 32] rfl Tryd.func41 (by kernel_rfl) (by kernel_rfl) (by simp [e1, e2]) (Calls.mono (addE_any 1 (md 1 (((dN : Int)) * e5x3)) n1E (md_N _ _) _) ?_)
    rintro r u2 ⟨rfl, hc2⟩
    exact ⟨_, rfl, ⟨rfl, fun h => by cases h⟩, hc2⟩
   ·injection ho with ho
    subst ho
    refine ⟨wanted_none rfl, ?_⟩
    exact opG_val (v := .pointer (some ⟨u.heap.size, 0, none⟩)) (w' := u.alloc (.cells (num 0) 32)) (by generalize ac.eval = ρ; simp [go_sem, execOp, zero25.1]) ⟨⟨_, rfl, Ar.new _ _ _, hc.size⟩, fun _ => rfl⟩ ((Chg.refl _).alloc _)
   ·injection ho with ho
    subst ho
    refine ⟨wanted_none rfl, ?_⟩
    exact opG_val (v := .pointer (some ⟨u.heap.size, 0, none⟩)) (w' := u.alloc (.cells (num 0) 32)) (by generalize ac.eval = ρ; simp [go_sem, execOp, zero25.1]) ⟨⟨_, rfl, Ar.new _ _ _, hc.size⟩, fun _ => rfl⟩ ((Chg.refl _).alloc _)
  ·intro o o2 u V ho ho2 hV hap hc
   injection ho with ho
   subst ho
   injection ho2 with ho2
   subst ho2
   refine ⟨rfl, rfl, ?_⟩
   have q12 : V 0 = .agg (num e5x3) := hV 0 (by decide)
   have q13 : V 1 = .agg (num 1) := hV 1 (by decide)
   have q14 : V 2 = .agg (num (md 1 (e5x3 - 1))) := hV 2 (by decide)
   have q15 : V 3 = .agg (num 1) := hV 3 (by decide)
   have q16 : V 4 = .agg (num ((dN : Int))) := hV 4 (by decide)
   have q17 : V 5 = .agg (num e5x3) := hV 5 (by decide)
   have q18 : V 6 = .agg (num (md 1 (((dN : Int)) * e5x3))) := hV 6 (by decide)
   have q19 : V 7 = .agg (num (md 1 (1 + (md 1 (((dN : Int)) * e5x3))))) := hV 7 (by decide)
   obtain ⟨b6, q6, r6, s6⟩ := hV 8 (by decide)
   obtain ⟨b7, q7, r7, s7⟩ := hV 9 (by decide)
   have hne : b6 ≠ b7 := by
    have := hap 8 9 (by decide) (by decide) rfl rfl (by decide)
    rw [q6, q7] at this
    intro e; exact this (by rw [e])
   refine wp_store_mid 32 (.tmp 6) (.tmp 14) rfl b6 0 (num (md 1 (e5x3 - 1))) (Eq.trans (by rfl) q6) (Eq.trans (by rfl) q14) (by rw [num_size]; exact thereN r6) (szN _) (num_one _) ?_
   rw [show u.setCells b6 0 (num (md 1 (e5x3 - 1))).toList = u.setRow b6 (num (md 1 (e5x3 - 1))) from setRowN r6 _]
   have r7' := r7.rowOther hne.symm (num (md 1 (e5x3 - 1)))
   refine wp_store_mid 32 (.tmp 7) (.tmp 19) rfl b7 0 (num (md 1 (1 + (md 1 (((dN : Int)) * e5x3))))) (Eq.trans (by rfl) q7) (Eq.trans (by rfl) q19) (by rw [num_size]; exact thereN r7') (szN _) (num_one _) ?_
   rw [show (u.setRow b6 (num (md 1 (e5x3 - 1)))).setCells b7 0 (num (md 1 (1 + (md 1 (((dN : Int)) * e5x3))))).toList = (u.setRow b6 (num (md 1 (e5x3 - 1)))).setRow b7 (num (md 1 (1 + (md 1 (((dN : Int)) * e5x3))))) from setRowN r7' _]
   go_wp2_with fail
   go_meet
   exact ⟨b6, b7, q6, q7, s6, s7, hne, (r6.row _).rowOther hne _, r7'.row _, (hc.setRow s6 _).setRow s7 _⟩
 obtain ⟨b6, b7, rfl, rfl, l6, l7, hne, ha6, ha7, hcc⟩ := hcut
 obtain ⟨w4, hw4⟩ : ∃ zz0, zz0 = wc := ⟨_, rfl⟩
 rw [← hw4] at hcc ha6 ha7 ⊢
 clear hw4
 have O6 : Hid (b6 ≠ b7 ∧ w.heap.size < b6 ∧ w.heap.size < b7 ∧ w.heap.size + 1 < b6 ∧ w.heap.size + 1 < b7 ∧ b4 < b6 ∧ b4 < b7 ∧ b5 < b6 ∧ b5 < b7) := ⟨hne, Nat.lt_of_lt_of_le (Ze5x3.out.2.1.lt) l6, Nat.lt_of_lt_of_le (Ze5x3.out.2.1.lt) l7, Nat.lt_of_lt_of_le (Ze5x3.out.2.2.1.lt) l6, Nat.lt_of_lt_of_le (Ze5x3.out.2.2.1.lt) l7, Nat.lt_of_lt_of_le (Ze5x3.out.2.2.2.1.lt) l6, Nat.lt_of_lt_of_le (Ze5x3.out.2.2.2.1.lt) l7, Nat.lt_of_lt_of_le (Ze5x3.out.2.2.2.2.lt) l6, Nat.lt_of_lt_of_le (Ze5x3.out.2.2.2.2.lt) l7⟩
 have Z4 : Hid (Chg w w4 ∧ Ar w4 w.heap.size (num y) ∧ Ar w4 (w.heap.size + 1) (num 0) ∧ Ar w4 b4 (num 1) ∧ Ar w4 b5 (num e5x3) ∧ Ar w4 b6 (num (md 1 (e5x3 - 1))) ∧ Ar w4 b7 (num (md 1 (1 + (md 1 (((dN : Int)) * e5x3)))))) := ⟨Ze5x3.out.1.trans hcc, Ze5x3.out.2.1.chg hcc, Ze5x3.out.2.2.1.chg hcc, Ze5x3.out.2.2.2.1.chg hcc, Ze5x3.out.2.2.2.2.chg hcc, ha6, ha7⟩
 clear hcc hne ha6 ha7 l6 l7 Ze5x3
 obtain ⟨e6x4, he6x4⟩ : ∃ zz0, zz0 = md 1 (e5x3 - 1) := ⟨_, rfl⟩
 have Ee6x4 : Hid (e6x4 = md 1 (e5x3 - 1)) := he6x4
 have Ne6x4 : Hid (N256 e6x4) := by show N256 e6x4; rw [he6x4]; exact md_N _ _
 have Ze6x4 : Hid (Chg w w4 ∧ Ar w4 w.heap.size (num y) ∧ Ar w4 (w.heap.size + 1) (num 0) ∧ Ar w4 b4 (num 1) ∧ Ar w4 b5 (num e5x3) ∧ Ar w4 b6 (num e6x4) ∧ Ar w4 b7 (num (md 1 (1 + (md 1 (((dN : Int)) * e5x3)))))) := by rw [he6x4]; exact Z4.out
 clear he6x4 Z4
 obtain ⟨e7x4, he7x4⟩ : ∃ zz0, zz0 = md 1 (1 + (md 1 (((dN : Int)) * e5x3))) := ⟨_, rfl⟩
 have Ee7x4 : Hid (e7x4 = md 1 (1 + (md 1 (((dN : Int)) * e5x3)))) := he7x4
 have Ne7x4 : Hid (N256 e7x4) := by show N256 e7x4; rw [he7x4]; exact md_N _ _
 have Ze7x4 : Hid (Chg w w4 ∧ Ar w4 w.heap.size (num y) ∧ Ar w4 (w.heap.size + 1) (num 0) ∧ Ar w4 b4 (num 1) ∧ Ar w4 b5 (num e5x3) ∧ Ar w4 b6 (num e6x4) ∧ Ar w4 b7 (num e7x4)) := by rw [he7x4]; exact Ze6x4.out
 clear he7x4 Ze6x4
 go_upto_region 4 with fail
 go_cut [3] from 3 to 26 (fun v3 wc => v3 = .bool (rtB 1 (md 1 (e6x4 * md 1 (e7x4 ^ ((mo 1 - 2) % R256).toNat)))) ∧ Chg w wc ∧ Ar wc w.heap.size (num y) ∧ Ar wc (w.heap.size + 1) (num (rtN 1 (md 1 (e6x4 * md 1 (e7x4 ^ ((mo 1 - 2) % R256).toNat))))) ∧ Ar wc b4 (num 1) ∧ Ar wc b5 (num e5x3) ∧ Ar wc b6 (num e6x4) ∧ Ar wc b7 (num e7x4))
 case first =>
  refine wp_region_store 7 (fun j v fl wg => match j with
   | 0 => v = .agg (num e6x4)
   | 1 => v = .agg (num e7x4)
   | 2 => v = .agg (num (md 1 (e7x4 ^ ((mo 1 - 2) % R256).toNat)))
   | 3 => v = .agg (num (md 1 (e6x4 * (md 1 (e7x4 ^ ((mo 1 - 2) % R256).toNat)))))
   | 4 => v = .tuple #[.agg (num (rtN 1 (md 1 (e6x4 * md 1 (e7x4 ^ ((mo 1 - 2) % R256).toNat))))), .bool (rtB 1 (md 1 (e6x4 * md 1 (e7x4 ^ ((mo 1 - 2) % R256).toNat))))]
   | 5 => v = .agg (num (rtN 1 (md 1 (e6x4 * md 1 (e7x4 ^ ((mo 1 - 2) % R256).toNat)))))
   | 6 => v = .bool (rtB 1 (md 1 (e6x4 * md 1 (e7x4 ^ ((mo 1 - 2) % R256).toNat))))
   | 8 => v = .bool (rtB 1 (md 1 (e6x4 * md 1 (e7x4 ^ ((mo 1 - 2) % R256).toNat))))
   | _ => True) (fun fl u => Chg w u ∧ Ar u w.heap.size (num y) ∧ Ar u (w.heap.size + 1) (if fl then num (rtN 1 (md 1 (e6x4 * md 1 (e7x4 ^ ((mo 1 - 2) % R256).toNat)))) else num 0) ∧ Ar u b4 (num 1) ∧ Ar u b5 (num e5x3) ∧ Ar u b6 (num e6x4) ∧ Ar u b7 (num e7x4)) (by kernel_rfl) (by decide) (by kernel_rfl) (by kernel_rfl) (by kernel_rfl) ?_ ?_ ?_ ?_ ?_ ?_
  ·intro j v fl u1 u2 h hc
   match j, h with
   | 0, h => exact h
   | 1, h => exact h
   | 2, h => exact h
   | 3, h => exact h
   | 4, h => exact h
   | 5, h => exact h
   | 6, h => exact h
   | 7, h => exact trivial
   | 8, h => exact h
   | _ + 9, h => exact trivial
  ·intro fl u u' h k
   exact ⟨h.1.trans k, h.2.1.chg k, h.2.2.1.chg k, h.2.2.2.1.chg k, h.2.2.2.2.1.chg k, h.2.2.2.2.2.1.chg k, h.2.2.2.2.2.2.chg k⟩
  ·intro i o' ac u fl hi his ho hfl hf hg hB
   have hi' : i < 9 := hi
   have hcs : i = 0 ∨ i = 1 ∨ i = 2 ∨ i = 3 ∨ i = 4 ∨ i = 5 ∨ i = 6 ∨ i = 8 := by omega
   rcases hcs with rfl | rfl | rfl | rfl | rfl | rfl | rfl | rfl
   ·injection ho with ho
    subst ho
    have e1 : ac.eval (.tmp 6) = .pointer (some ⟨b6, 0, none⟩) := hf 6 (by kernel_rfl)
    exact wp_load_mid 32 (.tmp 6) rfl _ _ e1 ((num e6x4).toList) _ (rangeAp (hB.2.2.2.2.2.1)) undNum rfl (infoN _) ⟨_, rfl, rfl, Chg.refl _⟩
   ·injection ho with ho
    subst ho
    have e1 : ac.eval (.tmp 7) = .pointer (some ⟨b7, 0, none⟩) := hf 7 (by kernel_rfl)
    exact wp_load_mid 32 (.tmp 7) rfl _ _ e1 ((num e7x4).toList) _ (rangeAp (hB.2.2.2.2.2.2)) undNum rfl (infoN _) ⟨_, rfl, rfl, Chg.refl _⟩
   ·injection ho with ho
    subst ho
    have e1 : ac.eval (.const (.int .i64 1)) = .int .i64 1 := rfl
    have e2 : ac.eval (.tmp 21) = .agg (num e7x4) := hg 1 (by kernel_rfl) (by decide) (by decide)
    refine opG_go 43 Tryd.f43 #[.const (.int .i64 1), .tmp 21] #[37, 32] rfl Tryd.func43 (by kernel_rfl) (by kernel_rfl) (by simp [e1, e2]) (Calls.mono (invM_any 1 e7x4 (Ne7x4.out) _) ?_)
    rintro r u2 ⟨rfl, hc2⟩
    exact ⟨_, rfl, rfl, hc2⟩
   ·injection ho with ho
    subst ho
    have e1 : ac.eval (.tmp 20) = .agg (num e6x4) := hg 0 (by kernel_rfl) (by decide) (by decide)
    have e2 : ac.eval (.tmp 22) = .agg (num (md 1 (e7x4 ^ ((mo 1 - 2) % R256).toNat))) := hg 2 (by kernel_rfl) (by decide) (by decide)
    refine opG_go 39 Tryd.f39 #[.tmp 20, .tmp 22] #[32, 32] rfl Tryd.func39 (by kernel_rfl) (by kernel_rfl) (by simp [e1, e2]) (Calls.mono (mulE_any e6x4 (md 1 (e7x4 ^ ((mo 1 - 2) % R256).toNat)) (Ne6x4.out) (md_N _ _) _) ?_)
    rintro r u2 ⟨rfl, hc2⟩
    exact ⟨_, rfl, rfl, hc2⟩
   ·injection ho with ho
    subst ho
    have e1 : ac.eval (.const (.int .i64 1)) = .int .i64 1 := rfl
    have e2 : ac.eval (.tmp 23) = .agg (num (md 1 (e6x4 * (md 1 (e7x4 ^ ((mo 1 - 2) % R256).toNat))))) := hg 3 (by kernel_rfl) (by decide) (by decide)
    refine opG_go 50 Tryd.f50 #[.const (.int .i64 1), .tmp 23] #[37, 32] rfl Tryd.func50 (by kernel_rfl) (by kernel_rfl) (by simp [e1, e2]) (Calls.mono (rootP_any 1 (md 1 (e6x4 * md 1 (e7x4 ^ ((mo 1 - 2) % R256).toNat))) (md_N _ _) _) ?_)
    rintro r u2 ⟨rfl, hc2⟩
    exact ⟨_, rfl, rfl, hc2⟩
   ·injection ho with ho
    subst ho
    have e1 : ac.eval (.tmp 24) = .tuple #[.agg (num (rtN 1 (md 1 (e6x4 * md 1 (e7x4 ^ ((mo 1 - 2) % R256).toNat))))), .bool (rtB 1 (md 1 (e6x4 * md 1 (e7x4 ^ ((mo 1 - 2) % R256).toNat))))] := hg 4 (by kernel_rfl) (by decide) (by decide)
    exact opG_val (by revert e1; generalize ac.eval = ρ; intro e1; simp [go_sem, execOp, e1]) rfl (Chg.refl _)
   ·injection ho with ho
    subst ho
    have e1 : ac.eval (.tmp 24) = .tuple #[.agg (num (rtN 1 (md 1 (e6x4 * md 1 (e7x4 ^ ((mo 1 - 2) % R256).toNat))))), .bool (rtB 1 (md 1 (e6x4 * md 1 (e7x4 ^ ((mo 1 - 2) % R256).toNat))))] := hg 4 (by kernel_rfl) (by decide) (by decide)
    exact opG_val (by revert e1; generalize ac.eval = ρ; intro e1; simp [go_sem, execOp, e1]) rfl (Chg.refl _)
   ·injection ho with ho
    subst ho
    have e1 : ac.eval (.tmp 26) = .bool (rtB 1 (md 1 (e6x4 * md 1 (e7x4 ^ ((mo 1 - 2) % R256).toNat)))) := hg 6 (by kernel_rfl) (by decide) (by decide)
    exact opG_val (by simp [execOp, e1]) rfl (Chg.refl _)
  ·intro o' ac u ho hf hg hB
   injection ho with ho
   subst ho
   have e1 : ac.eval (.tmp 2) = .pointer (some ⟨w.heap.size + 1, 0, none⟩) := hf 2 (by kernel_rfl)
   have hres : Ar u (w.heap.size + 1) (num 0) := hB.2.2.1
   have e2 : ac.eval (.tmp 25) = .agg (num (rtN 1 (md 1 (e6x4 * md 1 (e7x4 ^ ((mo 1 - 2) % R256).toNat))))) := hg 5 (by kernel_rfl) (by decide) (by decide)
   refine wp_store_mid 32 (.tmp 2) (.tmp 25) rfl (w.heap.size + 1) 0 (num (rtN 1 (md 1 (e6x4 * md 1 (e7x4 ^ ((mo 1 - 2) % R256).toNat))))) e1 e2 (by rw [num_size]; exact thereN hres) (szN _) (num_one _) ⟨rfl, ?_, ?_⟩
   ·rw [show u.setCells (w.heap.size + 1) 0 (num (rtN 1 (md 1 (e6x4 * md 1 (e7x4 ^ ((mo 1 - 2) % R256).toNat))))).toList = u.setRow (w.heap.size + 1) (num (rtN 1 (md 1 (e6x4 * md 1 (e7x4 ^ ((mo 1 - 2) % R256).toNat))))) from setRowN hres _]
    have ordO4 := O4.out
    have ordO5 := O5.out
    have ordO6 := O6.out
    exact ⟨hB.1.setRow (by omega) _, hB.2.1.rowOther (by omega) _, hres.row _, hB.2.2.2.1.rowOther (by omega) _, hB.2.2.2.2.1.rowOther (by omega) _, hB.2.2.2.2.2.1.rowOther (by omega) _, hB.2.2.2.2.2.2.rowOther (by omega) _⟩
   ·intro j hj hjs h
    have hj' : j < 9 := hj
    have hcs : j = 0 ∨ j = 1 ∨ j = 2 ∨ j = 3 ∨ j = 4 ∨ j = 5 ∨ j = 6 ∨ j = 8 := by omega
    rcases hcs with rfl | rfl | rfl | rfl | rfl | rfl | rfl | rfl
    ·exact h
    ·exact h
    ·exact h
    ·exact h
    ·exact h
    ·exact h
    ·exact h
    ·exact h
  ·exact ⟨Ze7x4.out.1.drew, Ze7x4.out.2.1.drew, Ze7x4.out.2.2.1.drew, Ze7x4.out.2.2.2.1.drew, Ze7x4.out.2.2.2.2.1.drew, Ze7x4.out.2.2.2.2.2.1.drew, Ze7x4.out.2.2.2.2.2.2.drew⟩
  ·intro u V hV hB
   have qas : V 8 = .bool (rtB 1 (md 1 (e6x4 * md 1 (e7x4 ^ ((mo 1 - 2) % R256).toNat)))) := hV 8 (by decide) (by decide)
   have q8 : Hid (Chg w u ∧ Ar u w.heap.size (num y) ∧ Ar u (w.heap.size + 1) (num (rtN 1 (md 1 (e6x4 * md 1 (e7x4 ^ ((mo 1 - 2) % R256).toNat))))) ∧ Ar u b4 (num 1) ∧ Ar u b5 (num e5x3) ∧ Ar u b6 (num e6x4) ∧ Ar u b7 (num e7x4)) := hB
   clear hV hB
   go_wp2_with fail
   go_meet
   exact ⟨qas, q8.out⟩
 obtain ⟨rfl, hcc⟩ := hcut
 obtain ⟨w5, hw5⟩ : ∃ zz0, zz0 = wc := ⟨_, rfl⟩
 rw [← hw5] at hcc ⊢
 have Z5 : Hid (Chg w w5 ∧ Ar w5 w.heap.size (num y) ∧ Ar w5 (w.heap.size + 1) (num (rtN 1 (md 1 (e6x4 * md 1 (e7x4 ^ ((mo 1 - 2) % R256).toNat))))) ∧ Ar w5 b4 (num 1) ∧ Ar w5 b5 (num e5x3) ∧ Ar w5 b6 (num e6x4) ∧ Ar w5 b7 (num e7x4)) := hcc
 clear hw5 hcc Ze7x4
 have ES : md 1 (e6x4 * md 1 (e7x4 ^ ((mo 1 - 2) % R256).toNat)) = dS y := by
  rw [Ee6x4.out, Ee7x4.out, Ee5x3.out]
  rfl
 rw [ES]
 go_wp2_with fail
 have k := Z5.out.2.2.1
 rw [ES] at k
 exact bp_ct (n := 4) Tryd.results29 rfl rfl rfl k undNum Go.Proofs.YtjfidbifjagnpaaDoor.i25 (num_size _) ⟨rfl, Z5.out.1⟩
end Go.Proofs.YtjfidbifjagnpaaDoor
