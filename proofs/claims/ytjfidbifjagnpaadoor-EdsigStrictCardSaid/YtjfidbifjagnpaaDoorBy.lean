/-
  A point's bytes: the program, the document; the document's curve number.
-/
import Derived.Test.YtjfidbifjagnpaaDoorDc
import Derived.Test.YtjfidbifjagnpaaDoorJu
import Derived.Test.YtjfidbifjagnpaaDoorTm
import Derived.Test.YtjfidbifjagnpaaDoorJj
import Derived.Test.YtjfidbifjagnpaaDoorJh
namespace Go.Proofs.YtjfidbifjagnpaaDoor
open Go.RowKit
set_option linter.unusedVariables false
set_option maxRecDepth 100000
theorem thereY {w : World} {b : Nat} {d : Nat → Int} (h : Ar w b (byt d)) : w.there b 0 32 := fun j hj => by
 rw [Nat.zero_add, h.cell]
 refine ⟨?_, h.frozen j⟩
 unfold byt
 rw [arr_get _ _ _ hj]
 rfl
theorem setRowY {w : World} {b : Nat} {d : Nat → Int} (h : Ar w b (byt d)) (e : Nat → Int) : w.setCells b 0 (byt e).toList = w.setRow b (byt e) := by
 have h1 := run_storeVar_mid (P := Tryd.prog) w b 0 22 (byt e) (by rw [byt_size]; exact thereY h) (szY e) (oneY e)
 obtain ⟨t, h⟩ := h
 have h2 := run_storeVar_row (P := Tryd.prog) w b t 22 _ (byt e) h (szY e) (lenY d e) (oneY e)
 rw [h1] at h2
 injection h2
theorem Ar.loadYe {w : World} {b : Nat} {d : Nat → Int} (h : Ar w b (byt d)) : (Go.loadVar 22 ⟨b, 0, none⟩).run Tryd.prog w = .ok (.agg (byt d)) w := by
 obtain ⟨g, h⟩ := h
 exact run_loadVar_row w b g 22 _ (0, 0) _ h Tryd.underlying22 rfl (szY d)
theorem bp_Y {fn : Func} {R : Ending → World → Prop} {a : Act} {w : World} {p b : Nat} {d : Nat → Int} (h : fn.results = #[.cell p 22]) (hd : a.defers = []) (hp : a.tmps.getD p undef = .pointer (some ⟨b, 0, none⟩)) (ha : Ar w b (byt d)) (hR : R (.returned (.agg (byt d))) w) : bodyPost Tryd.prog fn R .ret a w := by
 refine bodyPost_ret (v := .agg (byt d)) ?_ hd hR
 rw [Array.getD_eq_getD_getElem?] at hp
 simp only [results, h]
 simp [hp, asAddr, ha.loadYe]
theorem low_bit (m : Int) : bits .and .u64 (dg B64 m 0) 1 = dg 2 m 0 := by
 rw [low1 (dg_w m 0)]
 have := dg_bit m 0 0 (by decide)
 rw [Int.pow_zero, Int.ediv_one] at this
 exact this
set_option maxHeartbeats 4000000 in
theorem oddE_any (x : Int) (w : World) : Calls Tryd.prog 44 #[.agg (num x)] w fun r w' => r = .returned (.bool (dg 2 x 0 == 1)) ∧ Chg w w' := by
 have hsA := num_size x
 obtain ⟨A, hA⟩ : ∃ A, A = num x := ⟨_, rfl⟩
 have HA : Hid (A = num x) := hA
 rw [← hA] at hsA ⊢
 have em := low_bit x
 obtain ⟨d, hd⟩ : ∃ d, d = dg B64 x 0 := ⟨_, rfl⟩
 obtain ⟨y, hy⟩ : ∃ y, y = dg 2 x 0 := ⟨_, rfl⟩
 rw [← hd, ← hy] at em
 rw [← hy]
 have HD : Hid (d = dg B64 x 0) := hd
 clear hA hd hy
 go_enter Tryd.func44, Tryd.ntmps44
 go_upto_region 1 with fail
 obtain ⟨w1, hw1⟩ : ∃ w1, w1 = w.alloc (.cells A 32) := ⟨_, rfl⟩
 have Z : Hid (Chg w w1 ∧ Ar w1 w.heap.size (num x)) := by
  rw [hw1, HA.out]
  exact ⟨(Chg.refl w).alloc _, Ar.new w _ _⟩
 have c1 : w1.cell? ⟨w.heap.size, 0, none⟩ = some (.int .u64 d) := by
  rw [HD.out]
  exact (Z.out.2.cell 0).trans (arr_get _ _ _ (by decide))
 rw [← hw1]
 clear hw1 hsA
 go_wp2_with fail
 go_ret
 exact ⟨rfl, Z.out.1⟩
set_option maxHeartbeats 8000000 in
theorem bytesE_any (x y z t : Int) (P : Fin pp × Fin pp) (h : PT x y z t P) (w : World) : Calls Tryd.prog 24 #[.agg (q4 x y z t)] w fun r w' => r = .returned (.agg (byt (encB P))) ∧ Chg w w' := by
 have H1 : Hid (PT x y z t P) := h
 have hz := zero37.1
 have hsA := q4_size x y z t
 obtain ⟨A, hA⟩ : ∃ A, A = q4 x y z t := ⟨_, rfl⟩
 have HA : Hid (A = q4 x y z t) := hA
 rw [← hA] at hsA ⊢
 clear hA h
 go_enter Tryd.func24, Tryd.ntmps24
 go_upto_region 1 with fail
 obtain ⟨w1, hw1⟩ : ∃ w1, w1 = (w.alloc (.cells A 44)).alloc (.cells (byt zD) 22) := ⟨_, rfl⟩
 have Z1 : Hid (Chg w w1 ∧ Ar w1 w.heap.size (q4 x y z t) ∧ Ar w1 (w.heap.size + 1) (byt zD)) := by
  have hnew0 := Ar.new w (q4 x y z t) 44
  have hnew1 := Ar.new (w.alloc (.cells (q4 x y z t) 44)) (byt zD) 22
  rw [World.size_alloc] at hnew1
  rw [hw1, HA.out]
  exact ⟨(((Chg.refl w).alloc _).alloc _), ((hnew0).alloc _), (hnew1)⟩
 rw [← hw1]
 clear hw1
 clear hsA hz HA
 go_cut [3] from 3 to 9 (fun v3 wc => ∃ b3, v3 = .pointer (some ⟨b3, 0, none⟩) ∧ w1.heap.size ≤ b3 ∧ Ar wc b3 (num (md 1 (z ^ ((mo 1 - 2) % R256).toNat))) ∧ Chg w1 wc)
 case first =>
  refine regS 4 (fun j v wg => match j with
   | 0 => v = .pointer (some ⟨w.heap.size, 8, none⟩)
   | 1 => v = .agg (num z)
   | 2 => v = .agg (num (md 1 (z ^ ((mo 1 - 2) % R256).toNat)))
   | 3 => ∃ b, v = .pointer (some ⟨b, 0, none⟩) ∧ Ar wg b (num 0) ∧ w1.heap.size ≤ b
   | _ => True) (by kernel_rfl) (by kernel_rfl) ?_ ?_ ?_
  ·intro j v u1 u2 h hc
   match j, h with
   | 0, h => exact h
   | 1, h => exact h
   | 2, h => exact h
   | 3, h => (obtain ⟨b, h1, h2, h3⟩ := h; exact ⟨b, h1, h2.chg hc, h3⟩)
   | _ + 4, h => exact trivial
  ·intro i o ac u hi ho hsz hf hg hc
   have hcs : i = 0 ∨ i = 1 ∨ i = 2 ∨ i = 3 := by omega
   rcases hcs with rfl | rfl | rfl | rfl
   ·injection ho with ho
    subst ho
    refine .inl ⟨wanted_none rfl, ?_⟩
    have e1 : ac.eval (.tmp 1) = .pointer (some ⟨w.heap.size, 0, none⟩) := hf 1 (by kernel_rfl)
    exact opG_val (by revert e1; generalize ac.eval = ρ; intro e1; simp [go_sem, execOp, e1]) rfl (Chg.refl _)
   ·injection ho with ho
    subst ho
    refine .inl ⟨wanted_none rfl, ?_⟩
    have e1 : ac.eval (.tmp 7) = .pointer (some ⟨w.heap.size, 8, none⟩) := hg 0 (by decide) (by decide)
    exact wp_load_mid 32 (.tmp 7) rfl _ _ e1 ((num z).toList) _ (rangeq4F2 (Z1.out.2.1.chg hc)) undNum rfl (infoN _) ⟨_, rfl, rfl, Chg.refl _⟩
   ·injection ho with ho
    subst ho
    refine .inl ⟨wanted_none rfl, ?_⟩
    have e1 : ac.eval (.const (.int .i64 1)) = .int .i64 1 := rfl
    have e2 : ac.eval (.tmp 8) = .agg (num z) := hg 1 (by decide) (by decide)
    refine opG_go 43 Tryd.f43 #[.const (.int .i64 1), .tmp 8] #[37, 32] rfl Tryd.func43 (by kernel_rfl) (by kernel_rfl) (by simp [e1, e2]) (Calls.mono (invM_any 1 z (H1.out.nz) _) ?_)
    rintro r u2 ⟨rfl, hc2⟩
    exact ⟨_, rfl, rfl, hc2⟩
   ·injection ho with ho
    subst ho
    refine .inl ⟨wanted_none rfl, ?_⟩
    exact opG_val (v := .pointer (some ⟨u.heap.size, 0, none⟩)) (w' := u.alloc (.cells (num 0) 32)) (by generalize ac.eval = ρ; simp [go_sem, execOp, zero25.1]) ⟨_, rfl, Ar.new _ _ _, hc.size⟩ ((Chg.refl _).alloc _)
  ·intro o u V ho hV hc
   injection ho with ho
   subst ho
   refine ⟨rfl, ?_⟩
   have q7 : V 0 = .pointer (some ⟨w.heap.size, 8, none⟩) := hV 0 (by decide)
   have q8 : V 1 = .agg (num z) := hV 1 (by decide)
   have q9 : V 2 = .agg (num (md 1 (z ^ ((mo 1 - 2) % R256).toNat))) := hV 2 (by decide)
   obtain ⟨b3, q3, r3, s3⟩ := hV 3 (by decide)
   refine wp_store_mid 32 (.tmp 3) (.tmp 9) rfl b3 0 (num (md 1 (z ^ ((mo 1 - 2) % R256).toNat))) (Eq.trans (by rfl) q3) (Eq.trans (by rfl) q9) (by rw [num_size]; exact thereN r3) (szN _) (num_one _) ?_
   rw [show u.setCells b3 0 (num (md 1 (z ^ ((mo 1 - 2) % R256).toNat))).toList = u.setRow b3 (num (md 1 (z ^ ((mo 1 - 2) % R256).toNat))) from setRowN r3 _]
   go_wp2_with fail
   go_meet
   exact ⟨b3, q3, s3, r3.row _, hc.setRow s3 _⟩
 obtain ⟨b3, rfl, l3, ha3, hcc⟩ := hcut
 obtain ⟨w2, hw2⟩ : ∃ zz0, zz0 = wc := ⟨_, rfl⟩
 rw [← hw2] at hcc ha3 ⊢
 clear hw2
 have O3 : Hid (w.heap.size < b3 ∧ w.heap.size + 1 < b3) := ⟨Nat.lt_of_lt_of_le (Z1.out.2.1.lt) l3, Nat.lt_of_lt_of_le (Z1.out.2.2.lt) l3⟩
 have Z2 : Hid (Chg w w2 ∧ Ar w2 w.heap.size (q4 x y z t) ∧ Ar w2 (w.heap.size + 1) (byt zD) ∧ Ar w2 b3 (num (md 1 (z ^ ((mo 1 - 2) % R256).toNat)))) := ⟨Z1.out.1.trans hcc, Z1.out.2.1.chg hcc, Z1.out.2.2.chg hcc, ha3⟩
 clear hcc ha3 l3 Z1
 obtain ⟨e3x2, he3x2⟩ : ∃ zz0, zz0 = md 1 (z ^ ((mo 1 - 2) % R256).toNat) := ⟨_, rfl⟩
 have Ee3x2 : Hid (e3x2 = md 1 (z ^ ((mo 1 - 2) % R256).toNat)) := he3x2
 have Ne3x2 : Hid (N256 e3x2) := by show N256 e3x2; rw [he3x2]; exact md_N _ _
 have Ze3x2 : Hid (Chg w w2 ∧ Ar w2 w.heap.size (q4 x y z t) ∧ Ar w2 (w.heap.size + 1) (byt zD) ∧ Ar w2 b3 (num e3x2)) := by rw [he3x2]; exact Z2.out
 clear he3x2 Z2
 go_upto_region 2 with fail
 go_cut [4, 5] from 4 to 17 (fun v4 v5 wc => ∃ b4 b5, v4 = .pointer (some ⟨b4, 0, none⟩) ∧ v5 = .pointer (some ⟨b5, 0, none⟩) ∧ w2.heap.size ≤ b4 ∧ w2.heap.size ≤ b5 ∧ b4 ≠ b5 ∧ Ar wc b4 (num (md 1 (x * e3x2))) ∧ Ar wc b5 (num (md 1 (y * e3x2))) ∧ Chg w2 wc)
 case first =>
  refine regT 10 (fun j => j == 8 || j == 9) (fun j v wg => match j with
   | 0 => v = .pointer (some ⟨w.heap.size, 0, none⟩)
   | 1 => v = .agg (num x)
   | 2 => v = .agg (num e3x2)
   | 3 => v = .agg (num (md 1 (x * e3x2)))
   | 4 => v = .pointer (some ⟨w.heap.size, 4, none⟩)
   | 5 => v = .agg (num y)
   | 6 => v = .agg (num e3x2)
   | 7 => v = .agg (num (md 1 (y * e3x2)))
   | 8 => ∃ b, v = .pointer (some ⟨b, 0, none⟩) ∧ Ar wg b (num 0) ∧ w2.heap.size ≤ b
   | 9 => ∃ b, v = .pointer (some ⟨b, 0, none⟩) ∧ Ar wg b (num 0) ∧ w2.heap.size ≤ b
   | _ => True) (by kernel_rfl) (by kernel_rfl) (by kernel_rfl) (by kernel_rfl) (by kernel_rfl) (by kernel_rfl) ?_ ?_ ?_ ?_
  ·intro j v u1 u2 h hc
   match j, h with
   | 0, h => exact h
   | 1, h => exact h
   | 2, h => exact h
   | 3, h => exact h
   | 4, h => exact h
   | 5, h => exact h
   | 6, h => exact h
   | 7, h => exact h
   | 8, h => (obtain ⟨b, h1, h2, h3⟩ := h; exact ⟨b, h1, h2.chg hc, h3⟩)
   | 9, h => (obtain ⟨b, h1, h2, h3⟩ := h; exact ⟨b, h1, h2.chg hc, h3⟩)
   | _ + 10, h => exact trivial
  ·intro j v u hj ha h
   have hcs : j = 8 ∨ j = 9 := by simpa using ha
   rcases hcs with rfl | rfl
   ·obtain ⟨b, h1, h2, h3⟩ := h; exact ⟨b, h1, h2.lt⟩
   ·obtain ⟨b, h1, h2, h3⟩ := h; exact ⟨b, h1, h2.lt⟩
  ·intro i o ac u hi ho hsz hf hg hc
   have hcs : i = 0 ∨ i = 1 ∨ i = 2 ∨ i = 3 ∨ i = 4 ∨ i = 5 ∨ i = 6 ∨ i = 7 ∨ i = 8 ∨ i = 9 := by omega
   rcases hcs with rfl | rfl | rfl | rfl | rfl | rfl | rfl | rfl | rfl | rfl
   ·injection ho with ho
    subst ho
    refine ⟨wanted_none rfl, ?_⟩
    have e1 : ac.eval (.tmp 1) = .pointer (some ⟨w.heap.size, 0, none⟩) := hf 1 (by kernel_rfl)
    exact opG_val (by revert e1; generalize ac.eval = ρ; intro e1; simp [go_sem, execOp, e1]) ⟨rfl, fun h => by cases h⟩ (Chg.refl _)
   ·injection ho with ho
    subst ho
    refine ⟨wanted_none rfl, ?_⟩
    have e1 : ac.eval (.tmp 10) = .pointer (some ⟨w.heap.size, 0, none⟩) := hg 0 (by kernel_rfl) (by decide)
    exact wp_load_mid 32 (.tmp 10) rfl _ _ e1 ((num x).toList) _ (rangeq4F0 (Ze3x2.out.2.1.chg hc)) undNum rfl (infoN _) ⟨_, rfl, ⟨rfl, fun h => by cases h⟩, Chg.refl _⟩
   ·injection ho with ho
    subst ho
    refine ⟨wanted_none rfl, ?_⟩
    have e1 : ac.eval (.tmp 3) = .pointer (some ⟨b3, 0, none⟩) := hf 3 (by kernel_rfl)
    exact wp_load_mid 32 (.tmp 3) rfl _ _ e1 ((num e3x2).toList) _ (rangeAp (Ze3x2.out.2.2.2.chg hc)) undNum rfl (infoN _) ⟨_, rfl, ⟨rfl, fun h => by cases h⟩, Chg.refl _⟩
   ·injection ho with ho
    subst ho
    refine ⟨wanted_none rfl, ?_⟩
    have e1 : ac.eval (.tmp 11) = .agg (num x) := hg 1 (by kernel_rfl) (by decide)
    have e2 : ac.eval (.tmp 12) = .agg (num e3x2) := hg 2 (by kernel_rfl) (by decide)
    refine opG_go 39 Tryd.f39 #[.tmp 11, .tmp 12] #[32, 32] rfl Tryd.func39 (by kernel_rfl) (by kernel_rfl) (by simp [e1, e2]) (Calls.mono (mulE_any x e3x2 (H1.out.nx) (Ne3x2.out) _) ?_)
    rintro r u2 ⟨rfl, hc2⟩
    exact ⟨_, rfl, ⟨rfl, fun h => by cases h⟩, hc2⟩
   ·injection ho with ho
    subst ho
    refine ⟨wanted_none rfl, ?_⟩
    have e1 : ac.eval (.tmp 1) = .pointer (some ⟨w.heap.size, 0, none⟩) := hf 1 (by kernel_rfl)
    exact opG_val (by revert e1; generalize ac.eval = ρ; intro e1; simp [go_sem, execOp, e1]) ⟨rfl, fun h => by cases h⟩ (Chg.refl _)
   ·injection ho with ho
    subst ho
    refine ⟨wanted_none rfl, ?_⟩
    have e1 : ac.eval (.tmp 14) = .pointer (some ⟨w.heap.size, 4, none⟩) := hg 4 (by kernel_rfl) (by decide)
    exact wp_load_mid 32 (.tmp 14) rfl _ _ e1 ((num y).toList) _ (rangeq4F1 (Ze3x2.out.2.1.chg hc)) undNum rfl (infoN _) ⟨_, rfl, ⟨rfl, fun h => by cases h⟩, Chg.refl _⟩
   ·injection ho with ho
    subst ho
    refine ⟨wanted_none rfl, ?_⟩
    have e1 : ac.eval (.tmp 3) = .pointer (some ⟨b3, 0, none⟩) := hf 3 (by kernel_rfl)
    exact wp_load_mid 32 (.tmp 3) rfl _ _ e1 ((num e3x2).toList) _ (rangeAp (Ze3x2.out.2.2.2.chg hc)) undNum rfl (infoN _) ⟨_, rfl, ⟨rfl, fun h => by cases h⟩, Chg.refl _⟩
   ·injection ho with ho
    subst ho
    refine ⟨wanted_none rfl, ?_⟩
    have e1 : ac.eval (.tmp 15) = .agg (num y) := hg 5 (by kernel_rfl) (by decide)
    have e2 : ac.eval (.tmp 16) = .agg (num e3x2) := hg 6 (by kernel_rfl) (by decide)
    refine opG_go 39 Tryd.f39 #[.tmp 15, .tmp 16] #[32, 32] rfl Tryd.func39 (by kernel_rfl) (by kernel_rfl) (by simp [e1, e2]) (Calls.mono (mulE_any y e3x2 (H1.out.ny) (Ne3x2.out) _) ?_)
    rintro r u2 ⟨rfl, hc2⟩
    exact ⟨_, rfl, ⟨rfl, fun h => by cases h⟩, hc2⟩
   ·injection ho with ho
    subst ho
    refine ⟨wanted_none rfl, ?_⟩
    exact opG_val (v := .pointer (some ⟨u.heap.size, 0, none⟩)) (w' := u.alloc (.cells (num 0) 32)) (by generalize ac.eval = ρ; simp [go_sem, execOp, zero25.1]) ⟨⟨_, rfl, Ar.new _ _ _, hc.size⟩, fun _ => rfl⟩ ((Chg.refl _).alloc _)
   ·injection ho with ho
    subst ho
    refine ⟨wanted_none rfl, ?_⟩
    exact opG_val (v := .pointer (some ⟨u.heap.size, 0, none⟩)) (w' := u.alloc (.cells (num 0) 32)) (by generalize ac.eval = ρ; simp [go_sem, execOp, zero25.1]) ⟨⟨_, rfl, Ar.new _ _ _, hc.size⟩, fun _ => rfl⟩ ((Chg.refl _).alloc _)
  ·intro o o2 u V ho ho2 hV hap hc
   injection ho with ho
   subst ho
   injection ho2 with ho2
   subst ho2
   refine ⟨rfl, rfl, ?_⟩
   have q10 : V 0 = .pointer (some ⟨w.heap.size, 0, none⟩) := hV 0 (by decide)
   have q11 : V 1 = .agg (num x) := hV 1 (by decide)
   have q12 : V 2 = .agg (num e3x2) := hV 2 (by decide)
   have q13 : V 3 = .agg (num (md 1 (x * e3x2))) := hV 3 (by decide)
   have q14 : V 4 = .pointer (some ⟨w.heap.size, 4, none⟩) := hV 4 (by decide)
   have q15 : V 5 = .agg (num y) := hV 5 (by decide)
   have q16 : V 6 = .agg (num e3x2) := hV 6 (by decide)
   have q17 : V 7 = .agg (num (md 1 (y * e3x2))) := hV 7 (by decide)
   obtain ⟨b4, q4, r4, s4⟩ := hV 8 (by decide)
   obtain ⟨b5, q5, r5, s5⟩ := hV 9 (by decide)
   have hne : b4 ≠ b5 := by
    have := hap 8 9 (by decide) (by decide) rfl rfl (by decide)
    rw [q4, q5] at this
    intro e; exact this (by rw [e])
   refine wp_store_mid 32 (.tmp 4) (.tmp 13) rfl b4 0 (num (md 1 (x * e3x2))) (Eq.trans (by rfl) q4) (Eq.trans (by rfl) q13) (by rw [num_size]; exact thereN r4) (szN _) (num_one _) ?_
   rw [show u.setCells b4 0 (num (md 1 (x * e3x2))).toList = u.setRow b4 (num (md 1 (x * e3x2))) from setRowN r4 _]
   have r5' := r5.rowOther hne.symm (num (md 1 (x * e3x2)))
   refine wp_store_mid 32 (.tmp 5) (.tmp 17) rfl b5 0 (num (md 1 (y * e3x2))) (Eq.trans (by rfl) q5) (Eq.trans (by rfl) q17) (by rw [num_size]; exact thereN r5') (szN _) (num_one _) ?_
   rw [show (u.setRow b4 (num (md 1 (x * e3x2)))).setCells b5 0 (num (md 1 (y * e3x2))).toList = (u.setRow b4 (num (md 1 (x * e3x2)))).setRow b5 (num (md 1 (y * e3x2))) from setRowN r5' _]
   go_wp2_with fail
   go_meet
   exact ⟨b4, b5, q4, q5, s4, s5, hne, (r4.row _).rowOther hne _, r5'.row _, (hc.setRow s4 _).setRow s5 _⟩
 obtain ⟨b4, b5, rfl, rfl, l4, l5, hne, ha4, ha5, hcc⟩ := hcut
 obtain ⟨w3, hw3⟩ : ∃ zz0, zz0 = wc := ⟨_, rfl⟩
 rw [← hw3] at hcc ha4 ha5 ⊢
 clear hw3
 have O4 : Hid (b4 ≠ b5 ∧ w.heap.size < b4 ∧ w.heap.size < b5 ∧ w.heap.size + 1 < b4 ∧ w.heap.size + 1 < b5 ∧ b3 < b4 ∧ b3 < b5) := ⟨hne, Nat.lt_of_lt_of_le (Ze3x2.out.2.1.lt) l4, Nat.lt_of_lt_of_le (Ze3x2.out.2.1.lt) l5, Nat.lt_of_lt_of_le (Ze3x2.out.2.2.1.lt) l4, Nat.lt_of_lt_of_le (Ze3x2.out.2.2.1.lt) l5, Nat.lt_of_lt_of_le (Ze3x2.out.2.2.2.lt) l4, Nat.lt_of_lt_of_le (Ze3x2.out.2.2.2.lt) l5⟩
 have Z3 : Hid (Chg w w3 ∧ Ar w3 w.heap.size (q4 x y z t) ∧ Ar w3 (w.heap.size + 1) (byt zD) ∧ Ar w3 b3 (num e3x2) ∧ Ar w3 b4 (num (md 1 (x * e3x2))) ∧ Ar w3 b5 (num (md 1 (y * e3x2)))) := ⟨Ze3x2.out.1.trans hcc, Ze3x2.out.2.1.chg hcc, Ze3x2.out.2.2.1.chg hcc, Ze3x2.out.2.2.2.chg hcc, ha4, ha5⟩
 clear hcc hne ha4 ha5 l4 l5 Ze3x2
 obtain ⟨e4x3, he4x3⟩ : ∃ zz0, zz0 = md 1 (x * e3x2) := ⟨_, rfl⟩
 have Ee4x3 : Hid (e4x3 = md 1 (x * e3x2)) := he4x3
 have Ne4x3 : Hid (N256 e4x3) := by show N256 e4x3; rw [he4x3]; exact md_N _ _
 have Ze4x3 : Hid (Chg w w3 ∧ Ar w3 w.heap.size (q4 x y z t) ∧ Ar w3 (w.heap.size + 1) (byt zD) ∧ Ar w3 b3 (num e3x2) ∧ Ar w3 b4 (num e4x3) ∧ Ar w3 b5 (num (md 1 (y * e3x2)))) := by rw [he4x3]; exact Z3.out
 clear he4x3 Z3
 obtain ⟨e5x3, he5x3⟩ : ∃ zz0, zz0 = md 1 (y * e3x2) := ⟨_, rfl⟩
 have Ee5x3 : Hid (e5x3 = md 1 (y * e3x2)) := he5x3
 have Ne5x3 : Hid (N256 e5x3) := by show N256 e5x3; rw [he5x3]; exact md_N _ _
 have Ze5x3 : Hid (Chg w w3 ∧ Ar w3 w.heap.size (q4 x y z t) ∧ Ar w3 (w.heap.size + 1) (byt zD) ∧ Ar w3 b3 (num e3x2) ∧ Ar w3 b4 (num e4x3) ∧ Ar w3 b5 (num e5x3)) := by rw [he5x3]; exact Ze4x3.out
 clear he5x3 Ze4x3
 go_upto_region 3 with fail
 go_cut [6] from 6 to 19 (fun v6 wc => ∃ b6, v6 = .pointer (some ⟨b6, 0, none⟩) ∧ w3.heap.size ≤ b6 ∧ Ar wc b6 (byt (dg 256 e5x3)) ∧ Chg w3 wc)
 case first =>
  refine regS 3 (fun j v wg => match j with
   | 0 => v = .agg (num e5x3)
   | 1 => v = .agg (byt (dg 256 e5x3))
   | 2 => ∃ b, v = .pointer (some ⟨b, 0, none⟩) ∧ Ar wg b (byt zD) ∧ w3.heap.size ≤ b
   | _ => True) (by kernel_rfl) (by kernel_rfl) ?_ ?_ ?_
  ·intro j v u1 u2 h hc
   match j, h with
   | 0, h => exact h
   | 1, h => exact h
   | 2, h => (obtain ⟨b, h1, h2, h3⟩ := h; exact ⟨b, h1, h2.chg hc, h3⟩)
   | _ + 3, h => exact trivial
  ·intro i o ac u hi ho hsz hf hg hc
   have hcs : i = 0 ∨ i = 1 ∨ i = 2 := by omega
   rcases hcs with rfl | rfl | rfl
   ·injection ho with ho
    subst ho
    refine .inl ⟨wanted_none rfl, ?_⟩
    have e1 : ac.eval (.tmp 5) = .pointer (some ⟨b5, 0, none⟩) := hf 5 (by kernel_rfl)
    exact wp_load_mid 32 (.tmp 5) rfl _ _ e1 ((num e5x3).toList) _ (rangeAp (Ze5x3.out.2.2.2.2.2.chg hc)) undNum rfl (infoN _) ⟨_, rfl, rfl, Chg.refl _⟩
   ·injection ho with ho
    subst ho
    refine .inl ⟨wanted_none rfl, ?_⟩
    have e1 : ac.eval (.tmp 18) = .agg (num e5x3) := hg 0 (by decide) (by decide)
    refine opG_go 28 Tryd.f28 #[.tmp 18] #[32] rfl Tryd.func28 (by kernel_rfl) (by kernel_rfl) (by simp [e1]) (Calls.mono (toLE_any e5x3 _) ?_)
    rintro r u2 ⟨rfl, hc2⟩
    exact ⟨_, rfl, rfl, hc2⟩
   ·injection ho with ho
    subst ho
    refine .inl ⟨wanted_none rfl, ?_⟩
    exact opG_val (v := .pointer (some ⟨u.heap.size, 0, none⟩)) (w' := u.alloc (.cells (byt zD) 22)) (by generalize ac.eval = ρ; simp [go_sem, execOp, zero37.1]) ⟨_, rfl, Ar.new _ _ _, hc.size⟩ ((Chg.refl _).alloc _)
  ·intro o u V ho hV hc
   injection ho with ho
   subst ho
   refine ⟨rfl, ?_⟩
   have q18 : V 0 = .agg (num e5x3) := hV 0 (by decide)
   have q19 : V 1 = .agg (byt (dg 256 e5x3)) := hV 1 (by decide)
   obtain ⟨b6, q6, r6, s6⟩ := hV 2 (by decide)
   refine wp_store_mid 22 (.tmp 6) (.tmp 19) rfl b6 0 (byt (dg 256 e5x3)) (Eq.trans (by rfl) q6) (Eq.trans (by rfl) q19) (by rw [byt_size]; exact thereY r6) (szY _) (oneY _) ?_
   rw [show u.setCells b6 0 (byt (dg 256 e5x3)).toList = u.setRow b6 (byt (dg 256 e5x3)) from setRowY r6 _]
   go_wp2_with fail
   go_meet
   exact ⟨b6, q6, s6, r6.row _, hc.setRow s6 _⟩
 obtain ⟨b6, rfl, l6, ha6, hcc⟩ := hcut
 obtain ⟨w4, hw4⟩ : ∃ zz0, zz0 = wc := ⟨_, rfl⟩
 rw [← hw4] at hcc ha6 ⊢
 clear hw4
 have O6 : Hid (w.heap.size < b6 ∧ w.heap.size + 1 < b6 ∧ b3 < b6 ∧ b4 < b6 ∧ b5 < b6) := ⟨Nat.lt_of_lt_of_le (Ze5x3.out.2.1.lt) l6, Nat.lt_of_lt_of_le (Ze5x3.out.2.2.1.lt) l6, Nat.lt_of_lt_of_le (Ze5x3.out.2.2.2.1.lt) l6, Nat.lt_of_lt_of_le (Ze5x3.out.2.2.2.2.1.lt) l6, Nat.lt_of_lt_of_le (Ze5x3.out.2.2.2.2.2.lt) l6⟩
 have Z4 : Hid (Chg w w4 ∧ Ar w4 w.heap.size (q4 x y z t) ∧ Ar w4 (w.heap.size + 1) (byt zD) ∧ Ar w4 b3 (num e3x2) ∧ Ar w4 b4 (num e4x3) ∧ Ar w4 b5 (num e5x3) ∧ Ar w4 b6 (byt (dg 256 e5x3))) := ⟨Ze5x3.out.1.trans hcc, Ze5x3.out.2.1.chg hcc, Ze5x3.out.2.2.1.chg hcc, Ze5x3.out.2.2.2.1.chg hcc, Ze5x3.out.2.2.2.2.1.chg hcc, Ze5x3.out.2.2.2.2.2.chg hcc, ha6⟩
 clear hcc ha6 l6 Ze5x3
 have Y : Hid (e4x3 = ((P.1).val : Int) ∧ e5x3 = ((P.2).val : Int)) := by
  have k := R3.div eF H1.out.r.r3
  show e4x3 = ((P.1).val : Int) ∧ e5x3 = ((P.2).val : Int)
  rw [Ee4x3.out, Ee5x3.out]
  exact ⟨md_fz (by rw [fz_mul, Ee3x2.out, fz_md, fz_iv]; exact k.1), md_fz (by rw [fz_mul, Ee3x2.out, fz_md, fz_iv]; exact k.2)⟩
 obtain ⟨bb, hbb⟩ : ∃ bb : Bool, (dg 2 e4x3 0 == 1) = bb := ⟨_, rfl⟩
 have HBB : Hid (decide ((P.1).val % 2 = 1) = bb) := by rw [← odd_dg, ← Y.out.1]; exact hbb
 have r4 := rangeAp Z4.out.2.2.2.2.1
 have i4 := infoN e4x3
 have HO : Hid (∀ W, Calls Tryd.prog 44 #[.agg (num e4x3)] W fun r w' => r = .returned (.bool bb) ∧ Chg W w') := fun W => by rw [← hbb]; exact oddE_any _ W
 obtain ⟨X4, hX4⟩ : ∃ zz0, zz0 = num e4x3 := ⟨_, rfl⟩
 rw [← hX4] at r4 i4 HO
 clear hbb hX4
 go_upto_if 21 with (first | refine wpList_load_mid rfl 32 (.tmp 4) rfl _ _ rfl (X4.toList) _ r4 undNum rfl i4 ?_ | (go_at_call 44; (refine (HO.out _).mono ?_; rintro r wq ⟨rfl, hcq⟩)))
 have Zq : Hid (Chg w wq ∧ Ar wq w.heap.size (q4 x y z t) ∧ Ar wq (w.heap.size + 1) (byt zD) ∧ Ar wq b3 (num e3x2) ∧ Ar wq b4 (num e4x3) ∧ Ar wq b5 (num e5x3) ∧ Ar wq b6 (byt (dg 256 e5x3))) := ⟨Z4.out.1.trans hcq, Z4.out.2.1.chg hcq, Z4.out.2.2.1.chg hcq, Z4.out.2.2.2.1.chg hcq, Z4.out.2.2.2.2.1.chg hcq, Z4.out.2.2.2.2.2.1.chg hcq, Z4.out.2.2.2.2.2.2.chg hcq⟩
 clear Z4 hcq r4 i4 HO
 have yb := top_lt (val_255 P.2)
 have c31 : wq.cell? ⟨b6, 31, none⟩ = some (.int .u8 (dg 256 ((P.2).val : Int) 31)) := by
  rw [← Y.out.2]
  exact (Zq.out.2.2.2.2.2.2.cell 31).trans (arr_get _ _ _ (by decide))
 have f31 := Zq.out.2.2.2.2.2.2.frozen 31
 obtain ⟨d31, hd31⟩ : ∃ zz0, zz0 = dg 256 ((P.2).val : Int) 31 := ⟨_, rfl⟩
 rw [← hd31] at c31
 have HD31 : Hid (d31 = dg 256 ((P.2).val : Int) 31) := hd31
 clear hd31 yb
 go_cut [] from 22 to 25 (fun wc => Chg w wc ∧ Ar wc w.heap.size (q4 x y z t) ∧ Ar wc (w.heap.size + 1) (byt zD) ∧ Ar wc b3 (num e3x2) ∧ Ar wc b4 (num e4x3) ∧ Ar wc b5 (num e5x3) ∧ Ar wc b6 (byt (encB P)))
 case first =>
  cases bb
  ·go_wp2_with fail
   go_meet
   exact ⟨Zq.out.1, Zq.out.2.1, Zq.out.2.2.1, Zq.out.2.2.2.1, Zq.out.2.2.2.2.1, Zq.out.2.2.2.2.2.1, (by rw [← enc_0 (of_decide_eq_false HBB.out), ← Y.out.2]; exact Zq.out.2.2.2.2.2.2)⟩
  ·go_wp2_with fail
   go_meet
   have ordO3 := O3.out
   have ordO4 := O4.out
   have ordO6 := O6.out
   exact ⟨Zq.out.1.setCell (by show w.heap.size ≤ b6; omega) _, Zq.out.2.1.other (by show _ ≠ b6; omega) _, Zq.out.2.2.1.other (by show _ ≠ b6; omega) _, Zq.out.2.2.2.1.other (by show _ ≠ b6; omega) _, Zq.out.2.2.2.2.1.other (by show _ ≠ b6; omega) _, Zq.out.2.2.2.2.2.1.other (by show _ ≠ b6; omega) _, (by rw [← enc_1 (of_decide_eq_true HBB.out), ← HD31.out, ← Y.out.2, byt, ← arr_set]; exact Zq.out.2.2.2.2.2.2.set 31 _)⟩
 obtain ⟨w5, hw5⟩ : ∃ zz0, zz0 = wc := ⟨_, rfl⟩
 rw [← hw5] at hcut ⊢
 have Z5 : Hid (Chg w w5 ∧ Ar w5 w.heap.size (q4 x y z t) ∧ Ar w5 (w.heap.size + 1) (byt zD) ∧ Ar w5 b3 (num e3x2) ∧ Ar w5 b4 (num e4x3) ∧ Ar w5 b5 (num e5x3) ∧ Ar w5 b6 (byt (encB P))) := hcut
 clear hw5 hcut Zq c31 f31
 go_upto_region 6 with fail
 go_cut [] from 26 to 26 (fun wc => ∃ u, Chg w5 u ∧ wc = u.setRow (w.heap.size + 1) (byt (encB P)))
 case first =>
  refine regS 1 (fun j v wg => match j with
   | 0 => v = .agg (byt (encB P))
   | _ => True) (by kernel_rfl) (by kernel_rfl) ?_ ?_ ?_
  ·intro j v u1 u2 h hc
   match j, h with
   | 0, h => exact h
   | _ + 1, h => exact trivial
  ·intro i o ac u hi ho hsz hf hg hc
   have hcs : i = 0 := by omega
   rcases hcs with rfl
   ·injection ho with ho
    subst ho
    refine .inl ⟨wanted_none rfl, ?_⟩
    have e1 : ac.eval (.tmp 6) = .pointer (some ⟨b6, 0, none⟩) := hf 6 (by kernel_rfl)
    exact wp_load_mid 22 (.tmp 6) rfl _ _ e1 ((byt (encB P)).toList) _ (rangeAp (Z5.out.2.2.2.2.2.2.chg hc)) un37 rfl (infoY _) ⟨_, rfl, rfl, Chg.refl _⟩
  ·intro o u V ho hV hc
   injection ho with ho
   subst ho
   refine ⟨rfl, ?_⟩
   have q26 : V 0 = .agg (byt (encB P)) := hV 0 (by decide)
   have hres := Z5.out.2.2.1.chg hc
   refine wp_store_mid 22 (.tmp 2) (.tmp 26) rfl (w.heap.size + 1) 0 (byt (encB P)) (by rfl) (Eq.trans (by rfl) q26) (by rw [byt_size]; exact thereY hres) (szY _) (oneY _) ?_
   rw [show u.setCells (w.heap.size + 1) 0 (byt (encB P)).toList = u.setRow (w.heap.size + 1) (byt (encB P)) from setRowY hres _]
   go_wp2_with fail
   go_meet
   exact ⟨u, hc, rfl⟩
 obtain ⟨u, hcc, rfl⟩ := hcut
 obtain ⟨w6, hw6⟩ : ∃ zz0, zz0 = u.setRow (w.heap.size + 1) (byt (encB P)) := ⟨_, rfl⟩
 have Z6 : Hid (Chg w w6 ∧ Ar w6 w.heap.size (q4 x y z t) ∧ Ar w6 (w.heap.size + 1) (byt (encB P)) ∧ Ar w6 b3 (num e3x2) ∧ Ar w6 b4 (num e4x3) ∧ Ar w6 b5 (num e5x3) ∧ Ar w6 b6 (byt (encB P))) := by
  have ordO3 := O3.out
  have ordO4 := O4.out
  have ordO6 := O6.out
  rw [hw6]
  exact ⟨(Z5.out.1.trans hcc).setRow (by omega) _, (Z5.out.2.1.chg hcc).rowOther (by omega) _, (Z5.out.2.2.1.chg hcc).row _, (Z5.out.2.2.2.1.chg hcc).rowOther (by omega) _, (Z5.out.2.2.2.2.1.chg hcc).rowOther (by omega) _, (Z5.out.2.2.2.2.2.1.chg hcc).rowOther (by omega) _, (Z5.out.2.2.2.2.2.2.chg hcc).rowOther (by omega) _⟩
 rw [← hw6]
 clear hw6 hcc Z5 u
 go_wp2_with fail
 exact bp_Y Tryd.results24 rfl rfl Z6.out.2.2.1 ⟨rfl, Z6.out.1⟩
end Go.Proofs.YtjfidbifjagnpaaDoor
