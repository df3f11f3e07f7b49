/-
  One step of the ladder, as the program takes it.
-/
import Derived.Test.YtiehjhlekpjlaaaJo
import Derived.Test.YtiehjhlekpjlaaaJc
namespace Go.Proofs.Ytiehjhlekpjlaaa
open Go.RowKit
set_option linter.unusedVariables false

theorem run_c12 (w : World) : (Instr.build 34 #[(0, .int .u64 121665)]).run Try.prog w = .ok (.agg (num 121665)) w := run_build w 34 _ _ (by kernel_rfl)

/-- What lies in memory while a step goes on. -/
structure SM (w wr : World) (x t b t' b' : Int) (p q p' q' : Int) : Prop where
  chg : Chg w wr
  a3 : Ar wr w.heap.size (num x)
  a4 : Ar wr (w.heap.size + 1) (quo t b)
  a5 : Ar wr (w.heap.size + 1 + 1) (quo t' b')
  a6 : Ar wr (w.heap.size + 1 + 1 + 1) (quo p q)
  a7 : Ar wr (w.heap.size + 1 + 1 + 1 + 1) (quo p' q')
theorem SM.to {w wr u : World} {x t b t' b' p q p' q' : Int} (h : SM w wr x t b t' b' p q p' q') (k : Chg wr u) : SM w u x t b t' b' p q p' q' := ⟨h.chg.trans k, h.a3.chg k, h.a4.chg k, h.a5.chg k, h.a6.chg k, h.a7.chg k⟩

set_option maxRecDepth 100000 in
set_option maxHeartbeats 16000000 in
theorem stepX_any (x t b t' b' : Int) (hx : N256 x) (ht : N256 t) (hb : N256 b) (ht' : N256 t') (hb' : N256 b') (w : World) : Calls Try.prog 28 #[.agg (num x), .agg (quo t b), .agg (quo t' b')] w fun r w' => r = .returned (.tuple #[.agg (quo (i2t t b) (i2b t b)), .agg (quo (iBt t b t' b') (iBb x t b t' b'))]) ∧ Chg w w' := by
  have HN : Hid (N256 x ∧ N256 t ∧ N256 b ∧ N256 t' ∧ N256 b') := ⟨hx, ht, hb, ht', hb'⟩
  have hz := zero25.1
  have hz6 := zero36.1
  have hsX := num_size x
  have hsA := quo_size t b
  have hsB := quo_size t' b'
  obtain ⟨X, hX⟩ : ∃ X, X = num x := ⟨_, rfl⟩
  obtain ⟨A, hA⟩ : ∃ A, A = quo t b := ⟨_, rfl⟩
  obtain ⟨B, hB⟩ : ∃ B, B = quo t' b' := ⟨_, rfl⟩
  have HA : Hid (X = num x ∧ A = quo t b ∧ B = quo t' b') := ⟨hX, hA, hB⟩
  rw [← hX] at hsX ⊢
  rw [← hA] at hsA ⊢
  rw [← hB] at hsB ⊢
  clear hX hA hB hx ht hb ht' hb'
  go_enter Try.func28, Try.ntmps28
  go_upto_region 1 with fail
  obtain ⟨w1, hw1⟩ : ∃ w1, w1 = ((((w.alloc (.cells X 34)).alloc (.cells A 36)).alloc (.cells B 36)).alloc (.cells (quo 0 0) 36)).alloc (.cells (quo 0 0) 36) := ⟨_, rfl⟩
  have Z1 : Hid (SM w w1 x t b t' b' 0 0 0 0) := by
    rw [hw1, HA.out.1, HA.out.2.1, HA.out.2.2]
    refine ⟨(((((Chg.refl w).alloc _).alloc _).alloc _).alloc _).alloc _, ((((Ar.new w _ _).alloc _).alloc _).alloc _).alloc _, (((Ar.new1 w _ _ _).alloc _).alloc _).alloc _, ((Ar.new2 w _ _ _ _).alloc _).alloc _, (Ar.new3 w _ _ _ _ _).alloc _, ?_⟩
    have := Ar.new3 (w.alloc (.cells (num x) 34)) (.cells (quo t b) 36) (.cells (quo t' b') 36) (.cells (quo 0 0) 36) (quo 0 0) 36
    rw [World.size_alloc] at this
    exact this
  rw [← hw1]
  clear hw1 hsX hsA hsB hz hz6 HA
  go_cut [8, 9] from 8 to 24 (fun v8 v9 wc => ∃ b8 b9, v8 = .pointer (some ⟨b8, 0, none⟩) ∧ v9 = .pointer (some ⟨b9, 0, none⟩) ∧ w1.heap.size ≤ b8 ∧ w1.heap.size ≤ b9 ∧ Ar wc b8 (num (sS t b)) ∧ Ar wc b9 (num (sD t b)) ∧ Chg w1 wc)
  case first =>
    refine wp_region_two 12 (fun j => j == 10 || j == 11) (fun j v wg => match j with
      | 0 => v = .pointer (some ⟨w.heap.size + 1, 0, none⟩)
      | 1 => v = .agg (num (t))
      | 2 => v = .pointer (some ⟨w.heap.size + 1, 4, none⟩)
      | 3 => v = .agg (num (b))
      | 4 => v = .agg (num (sS t b))
      | 5 => v = .pointer (some ⟨w.heap.size + 1, 0, none⟩)
      | 6 => v = .agg (num (t))
      | 7 => v = .pointer (some ⟨w.heap.size + 1, 4, none⟩)
      | 8 => v = .agg (num (b))
      | 9 => v = .agg (num (sD t b))
      | 10 => ∃ b, v = .pointer (some ⟨b, 0, none⟩) ∧ Ar wg b (num 0) ∧ w1.heap.size ≤ b
      | 11 => ∃ b, v = .pointer (some ⟨b, 0, none⟩) ∧ Ar wg b (num 0) ∧ w1.heap.size ≤ b
      | _ => True) (by kernel_rfl) (by kernel_rfl) (by kernel_rfl) (by kernel_rfl) (by kernel_rfl) (by kernel_rfl) ?_ ?_ ?_ ?_
    · intro j v u1 u2 h hc
      match j, h with
      | 0, h => exact h
      | 1, h => exact h
      | 2, h => exact h
      | 3, h => exact h
      | 4, h => exact h
      | 5, h => exact h
      | 6, h => exact h
      | 7, h => exact h
      | 8, h => exact h
      | 9, h => exact h
      | 10, h => (obtain ⟨b, h1, h2, h3⟩ := h; exact ⟨b, h1, h2.chg hc, h3⟩)
      | 11, h => (obtain ⟨b, h1, h2, h3⟩ := h; exact ⟨b, h1, h2.chg hc, h3⟩)
      | _ + 12, h => exact trivial
    · intro j v u hj ha h
      have hcs : j = 10 ∨ j = 11 := by simpa using ha
      rcases hcs with rfl | rfl
      · obtain ⟨b, h1, h2, h3⟩ := h; exact ⟨b, h1, h2.lt⟩
      · obtain ⟨b, h1, h2, h3⟩ := h; exact ⟨b, h1, h2.lt⟩
    · intro i o ac u hi ho hsz hf hg hc
      have hcs : i = 0 ∨ i = 1 ∨ i = 2 ∨ i = 3 ∨ i = 4 ∨ i = 5 ∨ i = 6 ∨ i = 7 ∨ i = 8 ∨ i = 9 ∨ i = 10 ∨ i = 11 := by omega
      rcases hcs with rfl | rfl | rfl | rfl | rfl | rfl | rfl | rfl | rfl | rfl | rfl | rfl
      · injection ho with ho
        subst ho
        refine ⟨wanted_none rfl, ?_⟩
        have e1 : ac.eval (.tmp 4) = .pointer (some ⟨w.heap.size + 1, 0, none⟩) := hf 4 (by kernel_rfl)
        exact opG_val (by revert e1; generalize ac.eval = ρ; intro e1; simp [go_sem, execOp, e1]) ⟨rfl, fun h => by cases h⟩ (Chg.refl _)
      · injection ho with ho
        subst ho
        refine ⟨wanted_none rfl, ?_⟩
        have e1 : ac.eval (.tmp 15) = .pointer (some ⟨w.heap.size + 1, 0, none⟩) := hg 0 (by kernel_rfl) (by decide)
        exact wp_load_mid 34 (.tmp 15) rfl _ _ e1 ((num t).toList) _ (rangeQ0 (Ar.chg (w := w1.drew) Z1.out.a4.drew hc)) Go.Proofs.Ytiehjhlekpjlaaa.u25 rfl (infoN _) ⟨_, rfl, ⟨rfl, fun h => by cases h⟩, Chg.refl _⟩
      · injection ho with ho
        subst ho
        refine ⟨wanted_none rfl, ?_⟩
        have e1 : ac.eval (.tmp 4) = .pointer (some ⟨w.heap.size + 1, 0, none⟩) := hf 4 (by kernel_rfl)
        exact opG_val (by revert e1; generalize ac.eval = ρ; intro e1; simp [go_sem, execOp, e1]) ⟨rfl, fun h => by cases h⟩ (Chg.refl _)
      · injection ho with ho
        subst ho
        refine ⟨wanted_none rfl, ?_⟩
        have e1 : ac.eval (.tmp 17) = .pointer (some ⟨w.heap.size + 1, 4, none⟩) := hg 2 (by kernel_rfl) (by decide)
        exact wp_load_mid 34 (.tmp 17) rfl _ _ e1 ((num b).toList) _ (rangeQ1 (Ar.chg (w := w1.drew) Z1.out.a4.drew hc)) Go.Proofs.Ytiehjhlekpjlaaa.u25 rfl (infoN _) ⟨_, rfl, ⟨rfl, fun h => by cases h⟩, Chg.refl _⟩
      · injection ho with ho
        subst ho
        refine ⟨wanted_none rfl, ?_⟩
        have e1 : ac.eval (.tmp 16) = .agg (num (t)) := hg 1 (by kernel_rfl) (by decide)
        have e2 : ac.eval (.tmp 18) = .agg (num (b)) := hg 3 (by kernel_rfl) (by decide)
        refine opG_go 41 Try.f41 #[.tmp 16, .tmp 18] #[34, 34] rfl Try.func41 (by kernel_rfl) (by kernel_rfl) (by simp [e1, e2]) (Calls.mono (addX_any t b HN.out.2.1 HN.out.2.2.1 _) ?_)
        rintro r u2 ⟨rfl, hc2⟩
        exact ⟨_, rfl, ⟨rfl, fun h => by cases h⟩, hc2⟩
      · injection ho with ho
        subst ho
        refine ⟨wanted_none rfl, ?_⟩
        have e1 : ac.eval (.tmp 4) = .pointer (some ⟨w.heap.size + 1, 0, none⟩) := hf 4 (by kernel_rfl)
        exact opG_val (by revert e1; generalize ac.eval = ρ; intro e1; simp [go_sem, execOp, e1]) ⟨rfl, fun h => by cases h⟩ (Chg.refl _)
      · injection ho with ho
        subst ho
        refine ⟨wanted_none rfl, ?_⟩
        have e1 : ac.eval (.tmp 20) = .pointer (some ⟨w.heap.size + 1, 0, none⟩) := hg 5 (by kernel_rfl) (by decide)
        exact wp_load_mid 34 (.tmp 20) rfl _ _ e1 ((num t).toList) _ (rangeQ0 (Ar.chg (w := w1.drew) Z1.out.a4.drew hc)) Go.Proofs.Ytiehjhlekpjlaaa.u25 rfl (infoN _) ⟨_, rfl, ⟨rfl, fun h => by cases h⟩, Chg.refl _⟩
      · injection ho with ho
        subst ho
        refine ⟨wanted_none rfl, ?_⟩
        have e1 : ac.eval (.tmp 4) = .pointer (some ⟨w.heap.size + 1, 0, none⟩) := hf 4 (by kernel_rfl)
        exact opG_val (by revert e1; generalize ac.eval = ρ; intro e1; simp [go_sem, execOp, e1]) ⟨rfl, fun h => by cases h⟩ (Chg.refl _)
      · injection ho with ho
        subst ho
        refine ⟨wanted_none rfl, ?_⟩
        have e1 : ac.eval (.tmp 22) = .pointer (some ⟨w.heap.size + 1, 4, none⟩) := hg 7 (by kernel_rfl) (by decide)
        exact wp_load_mid 34 (.tmp 22) rfl _ _ e1 ((num b).toList) _ (rangeQ1 (Ar.chg (w := w1.drew) Z1.out.a4.drew hc)) Go.Proofs.Ytiehjhlekpjlaaa.u25 rfl (infoN _) ⟨_, rfl, ⟨rfl, fun h => by cases h⟩, Chg.refl _⟩
      · injection ho with ho
        subst ho
        refine ⟨wanted_none rfl, ?_⟩
        have e1 : ac.eval (.tmp 21) = .agg (num (t)) := hg 6 (by kernel_rfl) (by decide)
        have e2 : ac.eval (.tmp 23) = .agg (num (b)) := hg 8 (by kernel_rfl) (by decide)
        refine opG_go 42 Try.f42 #[.tmp 21, .tmp 23] #[34, 34] rfl Try.func42 (by kernel_rfl) (by kernel_rfl) (by simp [e1, e2]) (Calls.mono (subX_any t b HN.out.2.1 HN.out.2.2.1 _) ?_)
        rintro r u2 ⟨rfl, hc2⟩
        exact ⟨_, rfl, ⟨rfl, fun h => by cases h⟩, hc2⟩
      · injection ho with ho
        subst ho
        refine ⟨wanted_none rfl, ?_⟩
        exact opG_val (v := .pointer (some ⟨u.heap.size, 0, none⟩)) (w' := u.alloc (.cells (num 0) 34)) (by generalize ac.eval = ρ; simp [go_sem, execOp, zero25.1]) ⟨⟨_, rfl, Ar.new _ _ _, hc.size⟩, fun _ => rfl⟩ ((Chg.refl _).alloc _)
      · injection ho with ho
        subst ho
        refine ⟨wanted_none rfl, ?_⟩
        exact opG_val (v := .pointer (some ⟨u.heap.size, 0, none⟩)) (w' := u.alloc (.cells (num 0) 34)) (by generalize ac.eval = ρ; simp [go_sem, execOp, zero25.1]) ⟨⟨_, rfl, Ar.new _ _ _, hc.size⟩, fun _ => rfl⟩ ((Chg.refl _).alloc _)
    · intro o o2 u V ho ho2 hV hap hc
      injection ho with ho
      subst ho
      injection ho2 with ho2
      subst ho2
      refine ⟨rfl, rfl, ?_⟩
      have q15 : V 0 = .pointer (some ⟨w.heap.size + 1, 0, none⟩) := hV 0 (by decide)
      have q16 : V 1 = .agg (num (t)) := hV 1 (by decide)
      have q17 : V 2 = .pointer (some ⟨w.heap.size + 1, 4, none⟩) := hV 2 (by decide)
      have q18 : V 3 = .agg (num (b)) := hV 3 (by decide)
      have q19 : V 4 = .agg (num (sS t b)) := hV 4 (by decide)
      have q20 : V 5 = .pointer (some ⟨w.heap.size + 1, 0, none⟩) := hV 5 (by decide)
      have q21 : V 6 = .agg (num (t)) := hV 6 (by decide)
      have q22 : V 7 = .pointer (some ⟨w.heap.size + 1, 4, none⟩) := hV 7 (by decide)
      have q23 : V 8 = .agg (num (b)) := hV 8 (by decide)
      have q24 : V 9 = .agg (num (sD t b)) := hV 9 (by decide)
      obtain ⟨b8, q8, r8, s8⟩ := hV 10 (by decide)
      obtain ⟨b9, q9, r9, s9⟩ := hV 11 (by decide)
      have hne : b8 ≠ b9 := by
        have := hap 10 11 (by decide) (by decide) rfl rfl (by decide)
        rw [q8, q9] at this
        intro e; exact this (by rw [e])
      refine wp_store_mid 34 (.tmp 8) (.tmp 19) rfl b8 0 (num (sS t b)) (Eq.trans (by rfl) q8) (Eq.trans (by rfl) q19) (by rw [num_size]; exact thereN r8) (szN _) (num_one _) ?_
      rw [show u.setCells b8 0 (num (sS t b)).toList = u.setRow b8 (num (sS t b)) from setRowN r8 _]
      have r9' := r9.rowOther hne.symm (num (sS t b))
      refine wp_store_mid 34 (.tmp 9) (.tmp 24) rfl b9 0 (num (sD t b)) (Eq.trans (by rfl) q9) (Eq.trans (by rfl) q24) (by rw [num_size]; exact thereN r9') (szN _) (num_one _) ?_
      rw [show (u.setRow b8 (num (sS t b))).setCells b9 0 (num (sD t b)).toList = (u.setRow b8 (num (sS t b))).setRow b9 (num (sD t b)) from setRowN r9' _]
      go_wp2_with fail
      go_meet
      exact ⟨b8, b9, q8, q9, s8, s9, (r8.row _).rowOther hne _, r9'.row _, ((Chg.refl w1).drew.trans hc).setRow s8 _ |>.setRow s9 _⟩
  case rest =>
    obtain ⟨b8, b9, rfl, rfl, l8, l9, ha8, ha9, hcc⟩ := hcut
    obtain ⟨w2, hw2⟩ : ∃ w2, w2 = wc := ⟨_, rfl⟩
    have Z2 : Hid (SM w w2 x t b t' b' 0 0 0 0 ∧ Ar w2 b8 (num (sS t b)) ∧ Ar w2 b9 (num (sD t b)) ∧ w.heap.size + 1 + 1 + 1 + 1 < b8 ∧ w.heap.size + 1 + 1 + 1 + 1 < b9) := by
      rw [hw2]
      exact ⟨Z1.out.to hcc, ha8, ha9, Nat.lt_of_lt_of_le Z1.out.a7.lt l8, Nat.lt_of_lt_of_le Z1.out.a7.lt l9⟩
    rw [← hw2]
    clear hw2 hcc ha8 ha9 l8 l9 Z1
    go_upto_region 2 with fail
    go_cut [10, 11] from 10 to 28 (fun v10 v11 wc => ∃ b10 b11, v10 = .pointer (some ⟨b10, 0, none⟩) ∧ v11 = .pointer (some ⟨b11, 0, none⟩) ∧ w2.heap.size ≤ b10 ∧ w2.heap.size ≤ b11 ∧ Ar wc b10 (num (sP t b)) ∧ Ar wc b11 (num (sQ t b)) ∧ Chg w2 wc)
    case first =>
      refine wp_region_two 6 (fun j => j == 4 || j == 5) (fun j v wg => match j with
        | 0 => v = .agg (num (sS t b))
        | 1 => v = .agg (num (sP t b))
        | 2 => v = .agg (num (sD t b))
        | 3 => v = .agg (num (sQ t b))
        | 4 => ∃ b, v = .pointer (some ⟨b, 0, none⟩) ∧ Ar wg b (num 0) ∧ w2.heap.size ≤ b
        | 5 => ∃ b, v = .pointer (some ⟨b, 0, none⟩) ∧ Ar wg b (num 0) ∧ w2.heap.size ≤ b
        | _ => True) (by kernel_rfl) (by kernel_rfl) (by kernel_rfl) (by kernel_rfl) (by kernel_rfl) (by kernel_rfl) ?_ ?_ ?_ ?_
      · intro j v u1 u2 h hc
        match j, h with
        | 0, h => exact h
        | 1, h => exact h
        | 2, h => exact h
        | 3, h => exact h
        | 4, h => (obtain ⟨b, h1, h2, h3⟩ := h; exact ⟨b, h1, h2.chg hc, h3⟩)
        | 5, h => (obtain ⟨b, h1, h2, h3⟩ := h; exact ⟨b, h1, h2.chg hc, h3⟩)
        | _ + 6, h => exact trivial
      · intro j v u hj ha h
        have hcs : j = 4 ∨ j = 5 := by simpa using ha
        rcases hcs with rfl | rfl
        · obtain ⟨b, h1, h2, h3⟩ := h; exact ⟨b, h1, h2.lt⟩
        · obtain ⟨b, h1, h2, h3⟩ := h; exact ⟨b, h1, h2.lt⟩
      · intro i o ac u hi ho hsz hf hg hc
        have hcs : i = 0 ∨ i = 1 ∨ i = 2 ∨ i = 3 ∨ i = 4 ∨ i = 5 := by omega
        rcases hcs with rfl | rfl | rfl | rfl | rfl | rfl
        · injection ho with ho
          subst ho
          refine ⟨wanted_none rfl, ?_⟩
          have e1 : ac.eval (.tmp 8) = .pointer (some ⟨b8, 0, none⟩) := hf 8 (by kernel_rfl)
          exact wp_load_mid 34 (.tmp 8) rfl _ _ e1 ((num (sS t b)).toList) _ (rangeN (Ar.chg (w := w2.drew) Z2.out.2.1.drew hc)) Go.Proofs.Ytiehjhlekpjlaaa.u25 rfl (infoN _) ⟨_, rfl, ⟨rfl, fun h => by cases h⟩, Chg.refl _⟩
        · injection ho with ho
          subst ho
          refine ⟨wanted_none rfl, ?_⟩
          have e1 : ac.eval (.tmp 25) = .agg (num (sS t b)) := hg 0 (by kernel_rfl) (by decide)
          refine opG_go 43 Try.f43 #[.tmp 25] #[34] rfl Try.func43 (by kernel_rfl) (by kernel_rfl) (by simp [e1]) (Calls.mono (sqX_any (sS t b) (md_N _ _) _) ?_)
          rintro r u2 ⟨rfl, hc2⟩
          exact ⟨_, rfl, ⟨rfl, fun h => by cases h⟩, hc2⟩
        · injection ho with ho
          subst ho
          refine ⟨wanted_none rfl, ?_⟩
          have e1 : ac.eval (.tmp 9) = .pointer (some ⟨b9, 0, none⟩) := hf 9 (by kernel_rfl)
          exact wp_load_mid 34 (.tmp 9) rfl _ _ e1 ((num (sD t b)).toList) _ (rangeN (Ar.chg (w := w2.drew) Z2.out.2.2.1.drew hc)) Go.Proofs.Ytiehjhlekpjlaaa.u25 rfl (infoN _) ⟨_, rfl, ⟨rfl, fun h => by cases h⟩, Chg.refl _⟩
        · injection ho with ho
          subst ho
          refine ⟨wanted_none rfl, ?_⟩
          have e1 : ac.eval (.tmp 27) = .agg (num (sD t b)) := hg 2 (by kernel_rfl) (by decide)
          refine opG_go 43 Try.f43 #[.tmp 27] #[34] rfl Try.func43 (by kernel_rfl) (by kernel_rfl) (by simp [e1]) (Calls.mono (sqX_any (sD t b) (md_N _ _) _) ?_)
          rintro r u2 ⟨rfl, hc2⟩
          exact ⟨_, rfl, ⟨rfl, fun h => by cases h⟩, hc2⟩
        · injection ho with ho
          subst ho
          refine ⟨wanted_none rfl, ?_⟩
          exact opG_val (v := .pointer (some ⟨u.heap.size, 0, none⟩)) (w' := u.alloc (.cells (num 0) 34)) (by generalize ac.eval = ρ; simp [go_sem, execOp, zero25.1]) ⟨⟨_, rfl, Ar.new _ _ _, hc.size⟩, fun _ => rfl⟩ ((Chg.refl _).alloc _)
        · injection ho with ho
          subst ho
          refine ⟨wanted_none rfl, ?_⟩
          exact opG_val (v := .pointer (some ⟨u.heap.size, 0, none⟩)) (w' := u.alloc (.cells (num 0) 34)) (by generalize ac.eval = ρ; simp [go_sem, execOp, zero25.1]) ⟨⟨_, rfl, Ar.new _ _ _, hc.size⟩, fun _ => rfl⟩ ((Chg.refl _).alloc _)
      · intro o o2 u V ho ho2 hV hap hc
        injection ho with ho
        subst ho
        injection ho2 with ho2
        subst ho2
        refine ⟨rfl, rfl, ?_⟩
        have q25 : V 0 = .agg (num (sS t b)) := hV 0 (by decide)
        have q26 : V 1 = .agg (num (sP t b)) := hV 1 (by decide)
        have q27 : V 2 = .agg (num (sD t b)) := hV 2 (by decide)
        have q28 : V 3 = .agg (num (sQ t b)) := hV 3 (by decide)
        obtain ⟨b10, q10, r10, s10⟩ := hV 4 (by decide)
        obtain ⟨b11, q11, r11, s11⟩ := hV 5 (by decide)
        have hne : b10 ≠ b11 := by
          have := hap 4 5 (by decide) (by decide) rfl rfl (by decide)
          rw [q10, q11] at this
          intro e; exact this (by rw [e])
        refine wp_store_mid 34 (.tmp 10) (.tmp 26) rfl b10 0 (num (sP t b)) (Eq.trans (by rfl) q10) (Eq.trans (by rfl) q26) (by rw [num_size]; exact thereN r10) (szN _) (num_one _) ?_
        rw [show u.setCells b10 0 (num (sP t b)).toList = u.setRow b10 (num (sP t b)) from setRowN r10 _]
        have r11' := r11.rowOther hne.symm (num (sP t b))
        refine wp_store_mid 34 (.tmp 11) (.tmp 28) rfl b11 0 (num (sQ t b)) (Eq.trans (by rfl) q11) (Eq.trans (by rfl) q28) (by rw [num_size]; exact thereN r11') (szN _) (num_one _) ?_
        rw [show (u.setRow b10 (num (sP t b))).setCells b11 0 (num (sQ t b)).toList = (u.setRow b10 (num (sP t b))).setRow b11 (num (sQ t b)) from setRowN r11' _]
        go_wp2_with fail
        go_meet
        exact ⟨b10, b11, q10, q11, s10, s11, (r10.row _).rowOther hne _, r11'.row _, ((Chg.refl w2).drew.trans hc).setRow s10 _ |>.setRow s11 _⟩
    case rest =>
      obtain ⟨b10, b11, rfl, rfl, l10, l11, ha10, ha11, hcc⟩ := hcut
      obtain ⟨w3, hw3⟩ : ∃ w3, w3 = wc := ⟨_, rfl⟩
      have Z3 : Hid (SM w w3 x t b t' b' 0 0 0 0 ∧ Ar w3 b8 (num (sS t b)) ∧ Ar w3 b9 (num (sD t b)) ∧ Ar w3 b10 (num (sP t b)) ∧ Ar w3 b11 (num (sQ t b)) ∧ w.heap.size + 1 + 1 + 1 + 1 < b8 ∧ w.heap.size + 1 + 1 + 1 + 1 < b9 ∧ w.heap.size + 1 + 1 + 1 + 1 < b10 ∧ w.heap.size + 1 + 1 + 1 + 1 < b11) := by
        rw [hw3]
        exact ⟨Z2.out.1.to hcc, Z2.out.2.1.chg hcc, Z2.out.2.2.1.chg hcc, ha10, ha11, Z2.out.2.2.2.1, Z2.out.2.2.2.2, Nat.lt_of_lt_of_le Z2.out.1.a7.lt l10, Nat.lt_of_lt_of_le Z2.out.1.a7.lt l11⟩
      rw [← hw3]
      clear hw3 hcc ha10 ha11 l10 l11 Z2
      have r1 := rangeN Z3.out.2.2.2.1
      have r2 := rangeN Z3.out.2.2.2.2.1
      have i1 := infoN (sP t b)
      have i2 := infoN (sQ t b)
      have hz := zero25.1
      have s1 := szN (sE t b)
      have l1 := lenN 0 (sE t b)
      have o1 := num_one (sE t b)
      have HKe : Hid (∀ W, Calls Try.prog 42 #[.agg (num (sP t b)), .agg (num (sQ t b))] W fun r w' => r = .returned (.agg (num (sE t b))) ∧ Chg W w') := fun W => subX_any _ _ (md_N _ _) (md_N _ _) W
      obtain ⟨PA, hPA⟩ : ∃ A, A = num (sP t b) := ⟨_, rfl⟩
      obtain ⟨QA, hQA⟩ : ∃ A, A = num (sQ t b) := ⟨_, rfl⟩
      obtain ⟨EA, hEA⟩ : ∃ A, A = num (sE t b) := ⟨_, rfl⟩
      have HE : Hid (PA = num (sP t b) ∧ QA = num (sQ t b) ∧ EA = num (sE t b)) := ⟨hPA, hQA, hEA⟩
      rw [← hPA] at r1 i1 HKe
      rw [← hQA] at r2 i2 HKe
      rw [← hEA] at s1 l1 o1 HKe
      clear hPA hQA hEA
      go_wp2_with (first
        | refine wpList_load_mid rfl 34 (.tmp 10) rfl _ _ rfl (PA.toList) _ r1 Go.Proofs.Ytiehjhlekpjlaaa.u25 rfl i1 ?_
        | refine wpList_load_mid rfl 34 (.tmp 11) rfl _ _ rfl (QA.toList) _ r2 Go.Proofs.Ytiehjhlekpjlaaa.u25 rfl i2 ?_)
      go_at_call 42
      refine (HKe.out _).mono ?_
      rintro r w3a ⟨rfl, hc3⟩
      have g := heap_alloc_last w3a (.cells (num 0) 34)
      clear r1 r2
      go_upto_region 4 with (first | refine wpList_store_row rfl 34 _ _ rfl _ _ rfl rfl _ _ g s1 l1 o1 ?_)
      obtain ⟨w4, hw4⟩ : ∃ w4, w4 = (w3a.alloc (.cells (num 0) 34)).setRow w3a.heap.size EA := ⟨_, rfl⟩
      have hcc : Chg w3 w4 := by rw [hw4]; exact (hc3.alloc _).setRow hc3.size _
      have ha12 : Ar w4 w3a.heap.size (num (sE t b)) := by rw [hw4, ← HE.out.2.2]; exact (Ar.new _ _ _).row _
      have l12 : w3.heap.size ≤ w3a.heap.size := hc3.size
      rw [← hw4]
      obtain ⟨b12, hb12⟩ : ∃ b12, b12 = w3a.heap.size := ⟨_, rfl⟩
      rw [← hb12] at ha12 l12 ⊢
      have Z4 : Hid (SM w w4 x t b t' b' 0 0 0 0 ∧ Ar w4 b8 (num (sS t b)) ∧ Ar w4 b9 (num (sD t b)) ∧ Ar w4 b10 (num (sP t b)) ∧ Ar w4 b11 (num (sQ t b)) ∧ Ar w4 b12 (num (sE t b)) ∧ w.heap.size + 1 + 1 + 1 + 1 < b8 ∧ w.heap.size + 1 + 1 + 1 + 1 < b9 ∧ w.heap.size + 1 + 1 + 1 + 1 < b10 ∧ w.heap.size + 1 + 1 + 1 + 1 < b11 ∧ w.heap.size + 1 + 1 + 1 + 1 < b12) := ⟨Z3.out.1.to hcc, Z3.out.2.1.chg hcc, Z3.out.2.2.1.chg hcc, Z3.out.2.2.2.1.chg hcc, Z3.out.2.2.2.2.1.chg hcc, ha12, Z3.out.2.2.2.2.2.1, Z3.out.2.2.2.2.2.2.1, Z3.out.2.2.2.2.2.2.2.1, Z3.out.2.2.2.2.2.2.2.2, Nat.lt_of_lt_of_le Z3.out.1.a7.lt l12⟩
      clear hw4 hcc ha12 l12 hb12 hc3 g Z3 HE HKe s1 l1 o1 hz i1 i2
      dsimp only [Act.put]
      go_cut [13] from 13 to 38 (fun v13 wc => ∃ b13, v13 = .pointer (some ⟨b13, 0, none⟩) ∧ w4.heap.size ≤ b13 ∧ Ar wc b13 (num (sV t b t' b')) ∧ Chg w4 wc)
      case first =>
        refine wp_region_good 8 (fun j v wg => match j with
          | 0 => v = .pointer (some ⟨w.heap.size + 1 + 1, 0, none⟩)
          | 1 => v = .agg (num (t'))
          | 2 => v = .pointer (some ⟨w.heap.size + 1 + 1, 4, none⟩)
          | 3 => v = .agg (num (b'))
          | 4 => v = .agg (num (md 1 (t' - b')))
          | 5 => v = .agg (num (sS t b))
          | 6 => v = .agg (num (sV t b t' b'))
          | 7 => ∃ b, v = .pointer (some ⟨b, 0, none⟩) ∧ Ar wg b (num 0) ∧ w4.heap.size ≤ b
          | _ => True) (by kernel_rfl) (by kernel_rfl) (by kernel_rfl) (by kernel_rfl) (by kernel_rfl) ?_ ?_ ?_
        · intro j v u1 u2 h hc
          match j, h with
          | 0, h => exact h
          | 1, h => exact h
          | 2, h => exact h
          | 3, h => exact h
          | 4, h => exact h
          | 5, h => exact h
          | 6, h => exact h
          | 7, h => (obtain ⟨b, h1, h2, h3⟩ := h; exact ⟨b, h1, h2.chg hc, h3⟩)
          | _ + 8, h => exact trivial
        · intro i o ac u hi ho hsz hf hg hc
          have hcs : i = 0 ∨ i = 1 ∨ i = 2 ∨ i = 3 ∨ i = 4 ∨ i = 5 ∨ i = 6 ∨ i = 7 := by omega
          rcases hcs with rfl | rfl | rfl | rfl | rfl | rfl | rfl | rfl
          · injection ho with ho
            subst ho
            refine .inl ⟨wanted_none rfl, ?_⟩
            have e1 : ac.eval (.tmp 5) = .pointer (some ⟨w.heap.size + 1 + 1, 0, none⟩) := hf 5 (by kernel_rfl)
            exact opG_val (by revert e1; generalize ac.eval = ρ; intro e1; simp [go_sem, execOp, e1]) rfl (Chg.refl _)
          · injection ho with ho
            subst ho
            refine .inl ⟨wanted_none rfl, ?_⟩
            have e1 : ac.eval (.tmp 32) = .pointer (some ⟨w.heap.size + 1 + 1, 0, none⟩) := hg 0 (by kernel_rfl) (by decide)
            exact wp_load_mid 34 (.tmp 32) rfl _ _ e1 ((num t').toList) _ (rangeQ0 (Ar.chg (w := w4.drew) Z4.out.1.a5.drew hc)) Go.Proofs.Ytiehjhlekpjlaaa.u25 rfl (infoN _) ⟨_, rfl, rfl, Chg.refl _⟩
          · injection ho with ho
            subst ho
            refine .inl ⟨wanted_none rfl, ?_⟩
            have e1 : ac.eval (.tmp 5) = .pointer (some ⟨w.heap.size + 1 + 1, 0, none⟩) := hf 5 (by kernel_rfl)
            exact opG_val (by revert e1; generalize ac.eval = ρ; intro e1; simp [go_sem, execOp, e1]) rfl (Chg.refl _)
          · injection ho with ho
            subst ho
            refine .inl ⟨wanted_none rfl, ?_⟩
            have e1 : ac.eval (.tmp 34) = .pointer (some ⟨w.heap.size + 1 + 1, 4, none⟩) := hg 2 (by kernel_rfl) (by decide)
            exact wp_load_mid 34 (.tmp 34) rfl _ _ e1 ((num b').toList) _ (rangeQ1 (Ar.chg (w := w4.drew) Z4.out.1.a5.drew hc)) Go.Proofs.Ytiehjhlekpjlaaa.u25 rfl (infoN _) ⟨_, rfl, rfl, Chg.refl _⟩
          · injection ho with ho
            subst ho
            refine .inl ⟨wanted_none rfl, ?_⟩
            have e1 : ac.eval (.tmp 33) = .agg (num (t')) := hg 1 (by kernel_rfl) (by decide)
            have e2 : ac.eval (.tmp 35) = .agg (num (b')) := hg 3 (by kernel_rfl) (by decide)
            refine opG_go 42 Try.f42 #[.tmp 33, .tmp 35] #[34, 34] rfl Try.func42 (by kernel_rfl) (by kernel_rfl) (by simp [e1, e2]) (Calls.mono (subX_any t' b' HN.out.2.2.2.1 HN.out.2.2.2.2 _) ?_)
            rintro r u2 ⟨rfl, hc2⟩
            exact ⟨_, rfl, rfl, hc2⟩
          · injection ho with ho
            subst ho
            refine .inl ⟨wanted_none rfl, ?_⟩
            have e1 : ac.eval (.tmp 8) = .pointer (some ⟨b8, 0, none⟩) := hf 8 (by kernel_rfl)
            exact wp_load_mid 34 (.tmp 8) rfl _ _ e1 ((num (sS t b)).toList) _ (rangeN (Ar.chg (w := w4.drew) Z4.out.2.1.drew hc)) Go.Proofs.Ytiehjhlekpjlaaa.u25 rfl (infoN _) ⟨_, rfl, rfl, Chg.refl _⟩
          · injection ho with ho
            subst ho
            refine .inl ⟨wanted_none rfl, ?_⟩
            have e1 : ac.eval (.tmp 36) = .agg (num (md 1 (t' - b'))) := hg 4 (by kernel_rfl) (by decide)
            have e2 : ac.eval (.tmp 37) = .agg (num (sS t b)) := hg 5 (by kernel_rfl) (by decide)
            refine opG_go 30 Try.f30 #[.tmp 36, .tmp 37] #[34, 34] rfl Try.func30 (by kernel_rfl) (by kernel_rfl) (by simp [e1, e2]) (Calls.mono (mulX_any (md 1 (t' - b')) (sS t b) (md_N _ _) (md_N _ _) _) ?_)
            rintro r u2 ⟨rfl, hc2⟩
            exact ⟨_, rfl, rfl, hc2⟩
          · injection ho with ho
            subst ho
            refine .inl ⟨wanted_none rfl, ?_⟩
            exact opG_val (v := .pointer (some ⟨u.heap.size, 0, none⟩)) (w' := u.alloc (.cells (num 0) 34)) (by generalize ac.eval = ρ; simp [go_sem, execOp, zero25.1]) ⟨_, rfl, Ar.new _ _ _, hc.size⟩ ((Chg.refl _).alloc _)
        · intro o u V ho hV hc
          injection ho with ho
          subst ho
          refine ⟨rfl, ?_⟩
          have q32 : V 0 = .pointer (some ⟨w.heap.size + 1 + 1, 0, none⟩) := hV 0 (by decide)
          have q33 : V 1 = .agg (num (t')) := hV 1 (by decide)
          have q34 : V 2 = .pointer (some ⟨w.heap.size + 1 + 1, 4, none⟩) := hV 2 (by decide)
          have q35 : V 3 = .agg (num (b')) := hV 3 (by decide)
          have q36 : V 4 = .agg (num (md 1 (t' - b'))) := hV 4 (by decide)
          have q37 : V 5 = .agg (num (sS t b)) := hV 5 (by decide)
          have q38 : V 6 = .agg (num (sV t b t' b')) := hV 6 (by decide)
          obtain ⟨b13, q13, r13, s13⟩ := hV 7 (by decide)
          refine wp_store_mid 34 (.tmp 13) (.tmp 38) rfl b13 0 (num (sV t b t' b')) (Eq.trans (by rfl) q13) (Eq.trans (by rfl) q38) (by rw [num_size]; exact thereN r13) (szN _) (num_one _) ?_
          rw [show u.setCells b13 0 (num (sV t b t' b')).toList = u.setRow b13 (num (sV t b t' b')) from setRowN r13 _]
          go_wp2_with fail
          go_meet
          exact ⟨b13, q13, s13, r13.row _, ((Chg.refl w4).drew.trans hc).setRow s13 _⟩
      case rest =>
        obtain ⟨b13, rfl, l13, ha13, hcc⟩ := hcut
        obtain ⟨w5, hw5⟩ : ∃ w5, w5 = wc := ⟨_, rfl⟩
        have Z5 : Hid (SM w w5 x t b t' b' 0 0 0 0 ∧ Ar w5 b9 (num (sD t b)) ∧ Ar w5 b10 (num (sP t b)) ∧ Ar w5 b11 (num (sQ t b)) ∧ Ar w5 b12 (num (sE t b)) ∧ Ar w5 b13 (num (sV t b t' b')) ∧ w.heap.size + 1 + 1 + 1 + 1 < b10 ∧ w.heap.size + 1 + 1 + 1 + 1 < b11 ∧ w.heap.size + 1 + 1 + 1 + 1 < b12 ∧ w.heap.size + 1 + 1 + 1 + 1 < b13) := by
          rw [hw5]
          exact ⟨Z4.out.1.to hcc, Z4.out.2.2.1.chg hcc, Z4.out.2.2.2.1.chg hcc, Z4.out.2.2.2.2.1.chg hcc, Z4.out.2.2.2.2.2.1.chg hcc, ha13, Z4.out.2.2.2.2.2.2.2.2.1, Z4.out.2.2.2.2.2.2.2.2.2.1, Z4.out.2.2.2.2.2.2.2.2.2.2, Nat.lt_of_lt_of_le Z4.out.1.a7.lt l13⟩
        rw [← hw5]
        clear hw5 hcc ha13 l13 Z4
        go_upto_region 5 with fail
        go_cut [14] from 14 to 45 (fun v14 wc => ∃ b14, v14 = .pointer (some ⟨b14, 0, none⟩) ∧ w5.heap.size ≤ b14 ∧ Ar wc b14 (num (sW t b t' b')) ∧ Chg w5 wc)
        case first =>
          refine wp_region_good 8 (fun j v wg => match j with
            | 0 => v = .pointer (some ⟨w.heap.size + 1 + 1, 0, none⟩)
            | 1 => v = .agg (num (t'))
            | 2 => v = .pointer (some ⟨w.heap.size + 1 + 1, 4, none⟩)
            | 3 => v = .agg (num (b'))
            | 4 => v = .agg (num (md 1 (t' + b')))
            | 5 => v = .agg (num (sD t b))
            | 6 => v = .agg (num (sW t b t' b'))
            | 7 => ∃ b, v = .pointer (some ⟨b, 0, none⟩) ∧ Ar wg b (num 0) ∧ w5.heap.size ≤ b
            | _ => True) (by kernel_rfl) (by kernel_rfl) (by kernel_rfl) (by kernel_rfl) (by kernel_rfl) ?_ ?_ ?_
          · intro j v u1 u2 h hc
            match j, h with
            | 0, h => exact h
            | 1, h => exact h
            | 2, h => exact h
            | 3, h => exact h
            | 4, h => exact h
            | 5, h => exact h
            | 6, h => exact h
            | 7, h => (obtain ⟨b, h1, h2, h3⟩ := h; exact ⟨b, h1, h2.chg hc, h3⟩)
            | _ + 8, h => exact trivial
          · intro i o ac u hi ho hsz hf hg hc
            have hcs : i = 0 ∨ i = 1 ∨ i = 2 ∨ i = 3 ∨ i = 4 ∨ i = 5 ∨ i = 6 ∨ i = 7 := by omega
            rcases hcs with rfl | rfl | rfl | rfl | rfl | rfl | rfl | rfl
            · injection ho with ho
              subst ho
              refine .inl ⟨wanted_none rfl, ?_⟩
              have e1 : ac.eval (.tmp 5) = .pointer (some ⟨w.heap.size + 1 + 1, 0, none⟩) := hf 5 (by kernel_rfl)
              exact opG_val (by revert e1; generalize ac.eval = ρ; intro e1; simp [go_sem, execOp, e1]) rfl (Chg.refl _)
            · injection ho with ho
              subst ho
              refine .inl ⟨wanted_none rfl, ?_⟩
              have e1 : ac.eval (.tmp 39) = .pointer (some ⟨w.heap.size + 1 + 1, 0, none⟩) := hg 0 (by kernel_rfl) (by decide)
              exact wp_load_mid 34 (.tmp 39) rfl _ _ e1 ((num t').toList) _ (rangeQ0 (Ar.chg (w := w5.drew) Z5.out.1.a5.drew hc)) Go.Proofs.Ytiehjhlekpjlaaa.u25 rfl (infoN _) ⟨_, rfl, rfl, Chg.refl _⟩
            · injection ho with ho
              subst ho
              refine .inl ⟨wanted_none rfl, ?_⟩
              have e1 : ac.eval (.tmp 5) = .pointer (some ⟨w.heap.size + 1 + 1, 0, none⟩) := hf 5 (by kernel_rfl)
              exact opG_val (by revert e1; generalize ac.eval = ρ; intro e1; simp [go_sem, execOp, e1]) rfl (Chg.refl _)
            · injection ho with ho
              subst ho
              refine .inl ⟨wanted_none rfl, ?_⟩
              have e1 : ac.eval (.tmp 41) = .pointer (some ⟨w.heap.size + 1 + 1, 4, none⟩) := hg 2 (by kernel_rfl) (by decide)
              exact wp_load_mid 34 (.tmp 41) rfl _ _ e1 ((num b').toList) _ (rangeQ1 (Ar.chg (w := w5.drew) Z5.out.1.a5.drew hc)) Go.Proofs.Ytiehjhlekpjlaaa.u25 rfl (infoN _) ⟨_, rfl, rfl, Chg.refl _⟩
            · injection ho with ho
              subst ho
              refine .inl ⟨wanted_none rfl, ?_⟩
              have e1 : ac.eval (.tmp 40) = .agg (num (t')) := hg 1 (by kernel_rfl) (by decide)
              have e2 : ac.eval (.tmp 42) = .agg (num (b')) := hg 3 (by kernel_rfl) (by decide)
              refine opG_go 41 Try.f41 #[.tmp 40, .tmp 42] #[34, 34] rfl Try.func41 (by kernel_rfl) (by kernel_rfl) (by simp [e1, e2]) (Calls.mono (addX_any t' b' HN.out.2.2.2.1 HN.out.2.2.2.2 _) ?_)
              rintro r u2 ⟨rfl, hc2⟩
              exact ⟨_, rfl, rfl, hc2⟩
            · injection ho with ho
              subst ho
              refine .inl ⟨wanted_none rfl, ?_⟩
              have e1 : ac.eval (.tmp 9) = .pointer (some ⟨b9, 0, none⟩) := hf 9 (by kernel_rfl)
              exact wp_load_mid 34 (.tmp 9) rfl _ _ e1 ((num (sD t b)).toList) _ (rangeN (Ar.chg (w := w5.drew) Z5.out.2.1.drew hc)) Go.Proofs.Ytiehjhlekpjlaaa.u25 rfl (infoN _) ⟨_, rfl, rfl, Chg.refl _⟩
            · injection ho with ho
              subst ho
              refine .inl ⟨wanted_none rfl, ?_⟩
              have e1 : ac.eval (.tmp 43) = .agg (num (md 1 (t' + b'))) := hg 4 (by kernel_rfl) (by decide)
              have e2 : ac.eval (.tmp 44) = .agg (num (sD t b)) := hg 5 (by kernel_rfl) (by decide)
              refine opG_go 30 Try.f30 #[.tmp 43, .tmp 44] #[34, 34] rfl Try.func30 (by kernel_rfl) (by kernel_rfl) (by simp [e1, e2]) (Calls.mono (mulX_any (md 1 (t' + b')) (sD t b) (md_N _ _) (md_N _ _) _) ?_)
              rintro r u2 ⟨rfl, hc2⟩
              exact ⟨_, rfl, rfl, hc2⟩
            · injection ho with ho
              subst ho
              refine .inl ⟨wanted_none rfl, ?_⟩
              exact opG_val (v := .pointer (some ⟨u.heap.size, 0, none⟩)) (w' := u.alloc (.cells (num 0) 34)) (by generalize ac.eval = ρ; simp [go_sem, execOp, zero25.1]) ⟨_, rfl, Ar.new _ _ _, hc.size⟩ ((Chg.refl _).alloc _)
          · intro o u V ho hV hc
            injection ho with ho
            subst ho
            refine ⟨rfl, ?_⟩
            have q39 : V 0 = .pointer (some ⟨w.heap.size + 1 + 1, 0, none⟩) := hV 0 (by decide)
            have q40 : V 1 = .agg (num (t')) := hV 1 (by decide)
            have q41 : V 2 = .pointer (some ⟨w.heap.size + 1 + 1, 4, none⟩) := hV 2 (by decide)
            have q42 : V 3 = .agg (num (b')) := hV 3 (by decide)
            have q43 : V 4 = .agg (num (md 1 (t' + b'))) := hV 4 (by decide)
            have q44 : V 5 = .agg (num (sD t b)) := hV 5 (by decide)
            have q45 : V 6 = .agg (num (sW t b t' b')) := hV 6 (by decide)
            obtain ⟨b14, q14, r14, s14⟩ := hV 7 (by decide)
            refine wp_store_mid 34 (.tmp 14) (.tmp 45) rfl b14 0 (num (sW t b t' b')) (Eq.trans (by rfl) q14) (Eq.trans (by rfl) q45) (by rw [num_size]; exact thereN r14) (szN _) (num_one _) ?_
            rw [show u.setCells b14 0 (num (sW t b t' b')).toList = u.setRow b14 (num (sW t b t' b')) from setRowN r14 _]
            go_wp2_with fail
            go_meet
            exact ⟨b14, q14, s14, r14.row _, ((Chg.refl w5).drew.trans hc).setRow s14 _⟩
        case rest =>
          obtain ⟨b14, rfl, l14, ha14, hcc⟩ := hcut
          obtain ⟨w6, hw6⟩ : ∃ w6, w6 = wc := ⟨_, rfl⟩
          have Z6 : Hid (SM w w6 x t b t' b' 0 0 0 0 ∧ Ar w6 b10 (num (sP t b)) ∧ Ar w6 b11 (num (sQ t b)) ∧ Ar w6 b12 (num (sE t b)) ∧ Ar w6 b13 (num (sV t b t' b')) ∧ Ar w6 b14 (num (sW t b t' b')) ∧ w.heap.size + 1 + 1 + 1 + 1 < b13 ∧ w.heap.size + 1 + 1 + 1 + 1 < b14) := by
            rw [hw6]
            exact ⟨Z5.out.1.to hcc, Z5.out.2.2.1.chg hcc, Z5.out.2.2.2.1.chg hcc, Z5.out.2.2.2.2.1.chg hcc, Z5.out.2.2.2.2.2.1.chg hcc, ha14, Z5.out.2.2.2.2.2.2.2.2.2, Nat.lt_of_lt_of_le Z5.out.1.a7.lt l14⟩
          rw [← hw6]
          clear hw6 hcc ha14 l14 Z5
          go_upto_region 6 with fail
          go_cut [] from 46 to 56 (fun wc => ∃ u, Chg w6 u ∧ wc = u.setRow (w.heap.size + 1 + 1 + 1) (quo (i2t t b) (i2b t b)))
          case first =>
            refine wp_region_good 11 (fun j v wg => match j with
              | 0 => v = .agg (num (sP t b))
              | 1 => v = .agg (num (sQ t b))
              | 2 => v = .agg (num (i2t t b))
              | 3 => v = .agg (num (sE t b))
              | 4 => v = .agg (num (sP t b))
              | 5 => v = .agg (num (121665))
              | 6 => v = .agg (num (sE t b))
              | 7 => v = .agg (num (md 1 (121665 * sE t b)))
              | 8 => v = .agg (num (md 1 (sP t b + md 1 (121665 * sE t b))))
              | 9 => v = .agg (num (i2b t b))
              | 10 => v = .agg (quo (i2t t b) (i2b t b))
              | _ => True) (by kernel_rfl) (by kernel_rfl) (by kernel_rfl) (by kernel_rfl) (by kernel_rfl) ?_ ?_ ?_
            · intro j v u1 u2 h hc
              match j, h with
              | 0, h => exact h
              | 1, h => exact h
              | 2, h => exact h
              | 3, h => exact h
              | 4, h => exact h
              | 5, h => exact h
              | 6, h => exact h
              | 7, h => exact h
              | 8, h => exact h
              | 9, h => exact h
              | 10, h => exact h
              | _ + 11, h => exact trivial
            · intro i o ac u hi ho hsz hf hg hc
              have hcs : i = 0 ∨ i = 1 ∨ i = 2 ∨ i = 3 ∨ i = 4 ∨ i = 5 ∨ i = 6 ∨ i = 7 ∨ i = 8 ∨ i = 9 ∨ i = 10 := by omega
              rcases hcs with rfl | rfl | rfl | rfl | rfl | rfl | rfl | rfl | rfl | rfl | rfl
              · injection ho with ho
                subst ho
                refine .inl ⟨wanted_none rfl, ?_⟩
                have e1 : ac.eval (.tmp 10) = .pointer (some ⟨b10, 0, none⟩) := hf 10 (by kernel_rfl)
                exact wp_load_mid 34 (.tmp 10) rfl _ _ e1 ((num (sP t b)).toList) _ (rangeN (Ar.chg (w := w6.drew) Z6.out.2.1.drew hc)) Go.Proofs.Ytiehjhlekpjlaaa.u25 rfl (infoN _) ⟨_, rfl, rfl, Chg.refl _⟩
              · injection ho with ho
                subst ho
                refine .inl ⟨wanted_none rfl, ?_⟩
                have e1 : ac.eval (.tmp 11) = .pointer (some ⟨b11, 0, none⟩) := hf 11 (by kernel_rfl)
                exact wp_load_mid 34 (.tmp 11) rfl _ _ e1 ((num (sQ t b)).toList) _ (rangeN (Ar.chg (w := w6.drew) Z6.out.2.2.1.drew hc)) Go.Proofs.Ytiehjhlekpjlaaa.u25 rfl (infoN _) ⟨_, rfl, rfl, Chg.refl _⟩
              · injection ho with ho
                subst ho
                refine .inl ⟨wanted_none rfl, ?_⟩
                have e1 : ac.eval (.tmp 46) = .agg (num (sP t b)) := hg 0 (by kernel_rfl) (by decide)
                have e2 : ac.eval (.tmp 47) = .agg (num (sQ t b)) := hg 1 (by kernel_rfl) (by decide)
                refine opG_go 30 Try.f30 #[.tmp 46, .tmp 47] #[34, 34] rfl Try.func30 (by kernel_rfl) (by kernel_rfl) (by simp [e1, e2]) (Calls.mono (mulX_any (sP t b) (sQ t b) (md_N _ _) (md_N _ _) _) ?_)
                rintro r u2 ⟨rfl, hc2⟩
                exact ⟨_, rfl, rfl, hc2⟩
              · injection ho with ho
                subst ho
                refine .inl ⟨wanted_none rfl, ?_⟩
                have e1 : ac.eval (.tmp 12) = .pointer (some ⟨b12, 0, none⟩) := hf 12 (by kernel_rfl)
                exact wp_load_mid 34 (.tmp 12) rfl _ _ e1 ((num (sE t b)).toList) _ (rangeN (Ar.chg (w := w6.drew) Z6.out.2.2.2.1.drew hc)) Go.Proofs.Ytiehjhlekpjlaaa.u25 rfl (infoN _) ⟨_, rfl, rfl, Chg.refl _⟩
              · injection ho with ho
                subst ho
                refine .inl ⟨wanted_none rfl, ?_⟩
                have e1 : ac.eval (.tmp 10) = .pointer (some ⟨b10, 0, none⟩) := hf 10 (by kernel_rfl)
                exact wp_load_mid 34 (.tmp 10) rfl _ _ e1 ((num (sP t b)).toList) _ (rangeN (Ar.chg (w := w6.drew) Z6.out.2.1.drew hc)) Go.Proofs.Ytiehjhlekpjlaaa.u25 rfl (infoN _) ⟨_, rfl, rfl, Chg.refl _⟩
              · injection ho with ho
                subst ho
                refine .inl ⟨wanted_none rfl, ?_⟩
                have e1 : ac.eval (.const (.int .u64 121665)) = .int .u64 121665 := rfl
                exact opG_val (by revert e1; generalize ac.eval = ρ; intro e1; simp [go_sem, execOp, e1, zero25.1, num_set12, num_ne0y]) rfl (Chg.refl _)
              · injection ho with ho
                subst ho
                refine .inl ⟨wanted_none rfl, ?_⟩
                have e1 : ac.eval (.tmp 12) = .pointer (some ⟨b12, 0, none⟩) := hf 12 (by kernel_rfl)
                exact wp_load_mid 34 (.tmp 12) rfl _ _ e1 ((num (sE t b)).toList) _ (rangeN (Ar.chg (w := w6.drew) Z6.out.2.2.2.1.drew hc)) Go.Proofs.Ytiehjhlekpjlaaa.u25 rfl (infoN _) ⟨_, rfl, rfl, Chg.refl _⟩
              · injection ho with ho
                subst ho
                refine .inl ⟨wanted_none rfl, ?_⟩
                have e1 : ac.eval (.tmp 51) = .agg (num (121665)) := hg 5 (by kernel_rfl) (by decide)
                have e2 : ac.eval (.tmp 52) = .agg (num (sE t b)) := hg 6 (by kernel_rfl) (by decide)
                refine opG_go 30 Try.f30 #[.tmp 51, .tmp 52] #[34, 34] rfl Try.func30 (by kernel_rfl) (by kernel_rfl) (by simp [e1, e2]) (Calls.mono (mulX_any 121665 (sE t b) N_12 (md_N _ _) _) ?_)
                rintro r u2 ⟨rfl, hc2⟩
                exact ⟨_, rfl, rfl, hc2⟩
              · injection ho with ho
                subst ho
                refine .inl ⟨wanted_none rfl, ?_⟩
                have e1 : ac.eval (.tmp 50) = .agg (num (sP t b)) := hg 4 (by kernel_rfl) (by decide)
                have e2 : ac.eval (.tmp 53) = .agg (num (md 1 (121665 * sE t b))) := hg 7 (by kernel_rfl) (by decide)
                refine opG_go 41 Try.f41 #[.tmp 50, .tmp 53] #[34, 34] rfl Try.func41 (by kernel_rfl) (by kernel_rfl) (by simp [e1, e2]) (Calls.mono (addX_any (sP t b) (md 1 (121665 * sE t b)) (md_N _ _) (md_N _ _) _) ?_)
                rintro r u2 ⟨rfl, hc2⟩
                exact ⟨_, rfl, rfl, hc2⟩
              · injection ho with ho
                subst ho
                refine .inl ⟨wanted_none rfl, ?_⟩
                have e1 : ac.eval (.tmp 49) = .agg (num (sE t b)) := hg 3 (by kernel_rfl) (by decide)
                have e2 : ac.eval (.tmp 54) = .agg (num (md 1 (sP t b + md 1 (121665 * sE t b)))) := hg 8 (by kernel_rfl) (by decide)
                refine opG_go 30 Try.f30 #[.tmp 49, .tmp 54] #[34, 34] rfl Try.func30 (by kernel_rfl) (by kernel_rfl) (by simp [e1, e2]) (Calls.mono (mulX_any (sE t b) (md 1 (sP t b + md 1 (121665 * sE t b))) (md_N _ _) (md_N _ _) _) ?_)
                rintro r u2 ⟨rfl, hc2⟩
                exact ⟨_, rfl, rfl, hc2⟩
              · injection ho with ho
                subst ho
                refine .inl ⟨wanted_none rfl, ?_⟩
                have e1 : ac.eval (.tmp 48) = .agg (num (i2t t b)) := hg 2 (by kernel_rfl) (by decide)
                have e2 : ac.eval (.tmp 55) = .agg (num (i2b t b)) := hg 9 (by kernel_rfl) (by decide)
                exact opG_quo (.tmp 48) (.tmp 55) rfl e1 e2 rfl
            · intro o u V ho hV hc
              injection ho with ho
              subst ho
              refine ⟨rfl, ?_⟩
              have q46 : V 0 = .agg (num (sP t b)) := hV 0 (by decide)
              have q47 : V 1 = .agg (num (sQ t b)) := hV 1 (by decide)
              have q48 : V 2 = .agg (num (i2t t b)) := hV 2 (by decide)
              have q49 : V 3 = .agg (num (sE t b)) := hV 3 (by decide)
              have q50 : V 4 = .agg (num (sP t b)) := hV 4 (by decide)
              have q51 : V 5 = .agg (num (121665)) := hV 5 (by decide)
              have q52 : V 6 = .agg (num (sE t b)) := hV 6 (by decide)
              have q53 : V 7 = .agg (num (md 1 (121665 * sE t b))) := hV 7 (by decide)
              have q54 : V 8 = .agg (num (md 1 (sP t b + md 1 (121665 * sE t b)))) := hV 8 (by decide)
              have q55 : V 9 = .agg (num (i2b t b)) := hV 9 (by decide)
              have q56 : V 10 = .agg (quo (i2t t b) (i2b t b)) := hV 10 (by decide)
              have hres := Ar.chg (w := w6.drew) Z6.out.1.a6.drew hc
              refine wp_store_mid 36 (.tmp 6) (.tmp 56) rfl (w.heap.size + 1 + 1 + 1) 0 (quo (i2t t b) (i2b t b)) (by rfl) (Eq.trans (by rfl) q56) (by rw [quo_size]; exact thereQ hres) (szQ _ _) (quo_one _ _) ?_
              rw [show u.setCells (w.heap.size + 1 + 1 + 1) 0 (quo (i2t t b) (i2b t b)).toList = u.setRow (w.heap.size + 1 + 1 + 1) (quo (i2t t b) (i2b t b)) from setRowQ hres _ _]
              go_wp2_with fail
              go_meet
              exact ⟨u, (Chg.refl w6).drew.trans hc, rfl⟩
          case rest =>
            obtain ⟨u, hcc, rfl⟩ := hcut
            obtain ⟨w7, hw7⟩ : ∃ w7, w7 = u.setRow (w.heap.size + 1 + 1 + 1) (quo (i2t t b) (i2b t b)) := ⟨_, rfl⟩
            have Z7 : Hid (SM w w7 x t b t' b' (i2t t b) (i2b t b) 0 0 ∧ Ar w7 b13 (num (sV t b t' b')) ∧ Ar w7 b14 (num (sW t b t' b')) ∧ w.heap.size + 1 + 1 + 1 + 1 < b13 ∧ w.heap.size + 1 + 1 + 1 + 1 < b14) := by
              have S := Z6.out.1.to hcc
              have g13 := Z6.out.2.2.2.2.2.2.1
              have g14 := Z6.out.2.2.2.2.2.2.2
              rw [hw7]
              exact ⟨⟨S.chg.setRow (by omega) _, S.a3.rowOther (by omega) _, S.a4.rowOther (by omega) _, S.a5.rowOther (by omega) _, S.a6.row _, S.a7.rowOther (by omega) _⟩, (Z6.out.2.2.2.2.1.chg hcc).rowOther (by omega) _, (Z6.out.2.2.2.2.2.1.chg hcc).rowOther (by omega) _, g13, g14⟩
            rw [← hw7]
            clear hw7 hcc Z6 u
            go_upto_region 7 with fail
            go_cut [] from 57 to 67 (fun wc => ∃ u, Chg w7 u ∧ wc = u.setRow (w.heap.size + 1 + 1 + 1 + 1) (quo (iBt t b t' b') (iBb x t b t' b')))
            case first =>
              refine wp_region_good 11 (fun j v wg => match j with
                | 0 => v = .agg (num (sV t b t' b'))
                | 1 => v = .agg (num (sW t b t' b'))
                | 2 => v = .agg (num (md 1 (sV t b t' b' + sW t b t' b')))
                | 3 => v = .agg (num (iBt t b t' b'))
                | 4 => v = .agg (num (x))
                | 5 => v = .agg (num (sV t b t' b'))
                | 6 => v = .agg (num (sW t b t' b'))
                | 7 => v = .agg (num (md 1 (sV t b t' b' - sW t b t' b')))
                | 8 => v = .agg (num (md 1 (md 1 (sV t b t' b' - sW t b t' b') * md 1 (sV t b t' b' - sW t b t' b'))))
                | 9 => v = .agg (num (iBb x t b t' b'))
                | 10 => v = .agg (quo (iBt t b t' b') (iBb x t b t' b'))
                | _ => True) (by kernel_rfl) (by kernel_rfl) (by kernel_rfl) (by kernel_rfl) (by kernel_rfl) ?_ ?_ ?_
              · intro j v u1 u2 h hc
                match j, h with
                | 0, h => exact h
                | 1, h => exact h
                | 2, h => exact h
                | 3, h => exact h
                | 4, h => exact h
                | 5, h => exact h
                | 6, h => exact h
                | 7, h => exact h
                | 8, h => exact h
                | 9, h => exact h
                | 10, h => exact h
                | _ + 11, h => exact trivial
              · intro i o ac u hi ho hsz hf hg hc
                have hcs : i = 0 ∨ i = 1 ∨ i = 2 ∨ i = 3 ∨ i = 4 ∨ i = 5 ∨ i = 6 ∨ i = 7 ∨ i = 8 ∨ i = 9 ∨ i = 10 := by omega
                rcases hcs with rfl | rfl | rfl | rfl | rfl | rfl | rfl | rfl | rfl | rfl | rfl
                · injection ho with ho
                  subst ho
                  refine .inl ⟨wanted_none rfl, ?_⟩
                  have e1 : ac.eval (.tmp 13) = .pointer (some ⟨b13, 0, none⟩) := hf 13 (by kernel_rfl)
                  exact wp_load_mid 34 (.tmp 13) rfl _ _ e1 ((num (sV t b t' b')).toList) _ (rangeN (Ar.chg (w := w7.drew) Z7.out.2.1.drew hc)) Go.Proofs.Ytiehjhlekpjlaaa.u25 rfl (infoN _) ⟨_, rfl, rfl, Chg.refl _⟩
                · injection ho with ho
                  subst ho
                  refine .inl ⟨wanted_none rfl, ?_⟩
                  have e1 : ac.eval (.tmp 14) = .pointer (some ⟨b14, 0, none⟩) := hf 14 (by kernel_rfl)
                  exact wp_load_mid 34 (.tmp 14) rfl _ _ e1 ((num (sW t b t' b')).toList) _ (rangeN (Ar.chg (w := w7.drew) Z7.out.2.2.1.drew hc)) Go.Proofs.Ytiehjhlekpjlaaa.u25 rfl (infoN _) ⟨_, rfl, rfl, Chg.refl _⟩
                · injection ho with ho
                  subst ho
                  refine .inl ⟨wanted_none rfl, ?_⟩
                  have e1 : ac.eval (.tmp 57) = .agg (num (sV t b t' b')) := hg 0 (by kernel_rfl) (by decide)
                  have e2 : ac.eval (.tmp 58) = .agg (num (sW t b t' b')) := hg 1 (by kernel_rfl) (by decide)
                  refine opG_go 41 Try.f41 #[.tmp 57, .tmp 58] #[34, 34] rfl Try.func41 (by kernel_rfl) (by kernel_rfl) (by simp [e1, e2]) (Calls.mono (addX_any (sV t b t' b') (sW t b t' b') (md_N _ _) (md_N _ _) _) ?_)
                  rintro r u2 ⟨rfl, hc2⟩
                  exact ⟨_, rfl, rfl, hc2⟩
                · injection ho with ho
                  subst ho
                  refine .inl ⟨wanted_none rfl, ?_⟩
                  have e1 : ac.eval (.tmp 59) = .agg (num (md 1 (sV t b t' b' + sW t b t' b'))) := hg 2 (by kernel_rfl) (by decide)
                  refine opG_go 43 Try.f43 #[.tmp 59] #[34] rfl Try.func43 (by kernel_rfl) (by kernel_rfl) (by simp [e1]) (Calls.mono (sqX_any (md 1 (sV t b t' b' + sW t b t' b')) (md_N _ _) _) ?_)
                  rintro r u2 ⟨rfl, hc2⟩
                  exact ⟨_, rfl, rfl, hc2⟩
                · injection ho with ho
                  subst ho
                  refine .inl ⟨wanted_none rfl, ?_⟩
                  have e1 : ac.eval (.tmp 3) = .pointer (some ⟨w.heap.size, 0, none⟩) := hf 3 (by kernel_rfl)
                  exact wp_load_mid 34 (.tmp 3) rfl _ _ e1 ((num (x)).toList) _ (rangeN (Ar.chg (w := w7.drew) Z7.out.1.a3.drew hc)) Go.Proofs.Ytiehjhlekpjlaaa.u25 rfl (infoN _) ⟨_, rfl, rfl, Chg.refl _⟩
                · injection ho with ho
                  subst ho
                  refine .inl ⟨wanted_none rfl, ?_⟩
                  have e1 : ac.eval (.tmp 13) = .pointer (some ⟨b13, 0, none⟩) := hf 13 (by kernel_rfl)
                  exact wp_load_mid 34 (.tmp 13) rfl _ _ e1 ((num (sV t b t' b')).toList) _ (rangeN (Ar.chg (w := w7.drew) Z7.out.2.1.drew hc)) Go.Proofs.Ytiehjhlekpjlaaa.u25 rfl (infoN _) ⟨_, rfl, rfl, Chg.refl _⟩
                · injection ho with ho
                  subst ho
                  refine .inl ⟨wanted_none rfl, ?_⟩
                  have e1 : ac.eval (.tmp 14) = .pointer (some ⟨b14, 0, none⟩) := hf 14 (by kernel_rfl)
                  exact wp_load_mid 34 (.tmp 14) rfl _ _ e1 ((num (sW t b t' b')).toList) _ (rangeN (Ar.chg (w := w7.drew) Z7.out.2.2.1.drew hc)) Go.Proofs.Ytiehjhlekpjlaaa.u25 rfl (infoN _) ⟨_, rfl, rfl, Chg.refl _⟩
                · injection ho with ho
                  subst ho
                  refine .inl ⟨wanted_none rfl, ?_⟩
                  have e1 : ac.eval (.tmp 62) = .agg (num (sV t b t' b')) := hg 5 (by kernel_rfl) (by decide)
                  have e2 : ac.eval (.tmp 63) = .agg (num (sW t b t' b')) := hg 6 (by kernel_rfl) (by decide)
                  refine opG_go 42 Try.f42 #[.tmp 62, .tmp 63] #[34, 34] rfl Try.func42 (by kernel_rfl) (by kernel_rfl) (by simp [e1, e2]) (Calls.mono (subX_any (sV t b t' b') (sW t b t' b') (md_N _ _) (md_N _ _) _) ?_)
                  rintro r u2 ⟨rfl, hc2⟩
                  exact ⟨_, rfl, rfl, hc2⟩
                · injection ho with ho
                  subst ho
                  refine .inl ⟨wanted_none rfl, ?_⟩
                  have e1 : ac.eval (.tmp 64) = .agg (num (md 1 (sV t b t' b' - sW t b t' b'))) := hg 7 (by kernel_rfl) (by decide)
                  refine opG_go 43 Try.f43 #[.tmp 64] #[34] rfl Try.func43 (by kernel_rfl) (by kernel_rfl) (by simp [e1]) (Calls.mono (sqX_any (md 1 (sV t b t' b' - sW t b t' b')) (md_N _ _) _) ?_)
                  rintro r u2 ⟨rfl, hc2⟩
                  exact ⟨_, rfl, rfl, hc2⟩
                · injection ho with ho
                  subst ho
                  refine .inl ⟨wanted_none rfl, ?_⟩
                  have e1 : ac.eval (.tmp 61) = .agg (num (x)) := hg 4 (by kernel_rfl) (by decide)
                  have e2 : ac.eval (.tmp 65) = .agg (num (md 1 (md 1 (sV t b t' b' - sW t b t' b') * md 1 (sV t b t' b' - sW t b t' b')))) := hg 8 (by kernel_rfl) (by decide)
                  refine opG_go 30 Try.f30 #[.tmp 61, .tmp 65] #[34, 34] rfl Try.func30 (by kernel_rfl) (by kernel_rfl) (by simp [e1, e2]) (Calls.mono (mulX_any x (md 1 (md 1 (sV t b t' b' - sW t b t' b') * md 1 (sV t b t' b' - sW t b t' b'))) HN.out.1 (md_N _ _) _) ?_)
                  rintro r u2 ⟨rfl, hc2⟩
                  exact ⟨_, rfl, rfl, hc2⟩
                · injection ho with ho
                  subst ho
                  refine .inl ⟨wanted_none rfl, ?_⟩
                  have e1 : ac.eval (.tmp 60) = .agg (num (iBt t b t' b')) := hg 3 (by kernel_rfl) (by decide)
                  have e2 : ac.eval (.tmp 66) = .agg (num (iBb x t b t' b')) := hg 9 (by kernel_rfl) (by decide)
                  exact opG_quo (.tmp 60) (.tmp 66) rfl e1 e2 rfl
              · intro o u V ho hV hc
                injection ho with ho
                subst ho
                refine ⟨rfl, ?_⟩
                have q57 : V 0 = .agg (num (sV t b t' b')) := hV 0 (by decide)
                have q58 : V 1 = .agg (num (sW t b t' b')) := hV 1 (by decide)
                have q59 : V 2 = .agg (num (md 1 (sV t b t' b' + sW t b t' b'))) := hV 2 (by decide)
                have q60 : V 3 = .agg (num (iBt t b t' b')) := hV 3 (by decide)
                have q61 : V 4 = .agg (num (x)) := hV 4 (by decide)
                have q62 : V 5 = .agg (num (sV t b t' b')) := hV 5 (by decide)
                have q63 : V 6 = .agg (num (sW t b t' b')) := hV 6 (by decide)
                have q64 : V 7 = .agg (num (md 1 (sV t b t' b' - sW t b t' b'))) := hV 7 (by decide)
                have q65 : V 8 = .agg (num (md 1 (md 1 (sV t b t' b' - sW t b t' b') * md 1 (sV t b t' b' - sW t b t' b')))) := hV 8 (by decide)
                have q66 : V 9 = .agg (num (iBb x t b t' b')) := hV 9 (by decide)
                have q67 : V 10 = .agg (quo (iBt t b t' b') (iBb x t b t' b')) := hV 10 (by decide)
                have hres := Ar.chg (w := w7.drew) Z7.out.1.a7.drew hc
                refine wp_store_mid 36 (.tmp 7) (.tmp 67) rfl (w.heap.size + 1 + 1 + 1 + 1) 0 (quo (iBt t b t' b') (iBb x t b t' b')) (by rfl) (Eq.trans (by rfl) q67) (by rw [quo_size]; exact thereQ hres) (szQ _ _) (quo_one _ _) ?_
                rw [show u.setCells (w.heap.size + 1 + 1 + 1 + 1) 0 (quo (iBt t b t' b') (iBb x t b t' b')).toList = u.setRow (w.heap.size + 1 + 1 + 1 + 1) (quo (iBt t b t' b') (iBb x t b t' b')) from setRowQ hres _ _]
                go_wp2_with fail
                go_meet
                exact ⟨u, (Chg.refl w7).drew.trans hc, rfl⟩
            case rest =>
              obtain ⟨u, hcc, rfl⟩ := hcut
              obtain ⟨w8, hw8⟩ : ∃ w8, w8 = u.setRow (w.heap.size + 1 + 1 + 1 + 1) (quo (iBt t b t' b') (iBb x t b t' b')) := ⟨_, rfl⟩
              have Z8 : Hid (SM w w8 x t b t' b' (i2t t b) (i2b t b) (iBt t b t' b') (iBb x t b t' b')) := by
                have S := Z7.out.1.to hcc
                rw [hw8]
                exact ⟨S.chg.setRow (by omega) _, S.a3.rowOther (by omega) _, S.a4.rowOther (by omega) _, S.a5.rowOther (by omega) _, S.a6.rowOther (by omega) _, S.a7.row _⟩
              rw [← hw8]
              clear hw8 hcc Z7 u
              go_upto_region 8 with fail
              refine wp_region_invC (by kernel_rfl) (fun l a wr => SM w wr x t b t' b' (i2t t b) (i2b t b) (iBt t b t' b') (iBb x t b t' b') ∧ a.defers = [] ∧ a.tmps.size = 70 ∧ a.tmps.getD 6 undef = .pointer (some ⟨w.heap.size + 1 + 1 + 1, 0, none⟩) ∧ a.tmps.getD 7 undef = .pointer (some ⟨w.heap.size + 1 + 1 + 1 + 1, 0, none⟩) ∧ (l.getD 0 false = true → a.tmps.getD 68 undef = .agg (quo (i2t t b) (i2b t b))) ∧ (l.getD 1 false = true → a.tmps.getD 69 undef = .agg (quo (iBt t b t' b') (iBb x t b t' b')))) (by kernel_rfl) ?_ ?_ ⟨Z8.out.to (Chg.refl _).drew, rfl, rfl, rfl, rfl, (fun h => by cases h), (fun h => by cases h)⟩
              · intro l a wr i hI hi hls hli hdep
                obtain ⟨S, hdf, hsz, h6, h7, h0, h1⟩ := hI
                have hi' : i < 4 := hi
                have hl4 : l.size = 4 := hls
                have hcs : i = 0 ∨ i = 1 ∨ i = 2 ∨ i = 3 := by omega
                rcases hcs with rfl | rfl | rfl | rfl
                · refine .inl ?_
                  refine wp_load_mid 36 (.tmp 6) rfl _ _ h6 ((quo (i2t t b) (i2b t b)).toList) _ (rangeQ S.a6) Try.underlying36 rfl (infoQ _ _) ⟨S, hdf, ?_, ?_, ?_, ?_, ?_⟩
                  · simp [Act.put, hsz]
                  · show (a.tmps.setIfInBounds 68 _).getD 6 undef = _
                    rw [getD_set _ _ _ _ (by rw [hsz]; decide), if_neg (by decide)]; exact h6
                  · show (a.tmps.setIfInBounds 68 _).getD 7 undef = _
                    rw [getD_set _ _ _ _ (by rw [hsz]; decide), if_neg (by decide)]; exact h7
                  · intro _
                    show (a.tmps.setIfInBounds 68 _).getD 68 undef = _
                    rw [getD_set _ _ _ _ (by rw [hsz]; decide), if_pos rfl]
                  · intro hx
                    rw [getB_set _ _ _ _ (by decide)] at hx
                    show (a.tmps.setIfInBounds 68 _).getD 69 undef = _
                    rw [getD_set _ _ _ _ (by rw [hsz]; decide), if_neg (by decide)]; exact h1 hx
                · refine .inl ?_
                  refine wp_load_mid 36 (.tmp 7) rfl _ _ h7 ((quo (iBt t b t' b') (iBb x t b t' b')).toList) _ (rangeQ S.a7) Try.underlying36 rfl (infoQ _ _) ⟨S, hdf, ?_, ?_, ?_, ?_, ?_⟩
                  · simp [Act.put, hsz]
                  · show (a.tmps.setIfInBounds 69 _).getD 6 undef = _
                    rw [getD_set _ _ _ _ (by rw [hsz]; decide), if_neg (by decide)]; exact h6
                  · show (a.tmps.setIfInBounds 69 _).getD 7 undef = _
                    rw [getD_set _ _ _ _ (by rw [hsz]; decide), if_neg (by decide)]; exact h7
                  · intro hx
                    rw [getB_set _ _ _ _ (by decide)] at hx
                    show (a.tmps.setIfInBounds 69 _).getD 68 undef = _
                    rw [getD_set _ _ _ _ (by rw [hsz]; decide), if_neg (by decide)]; exact h0 hx
                  · intro _
                    show (a.tmps.setIfInBounds 69 _).getD 69 undef = _
                    rw [getD_set _ _ _ _ (by rw [hsz]; decide), if_pos rfl]
                · have e68 := h0 (hdep 0 (by kernel_rfl))
                  refine .inl ?_
                  refine wp_store_mid 36 (.tmp 6) (.tmp 68) rfl _ 0 (quo (i2t t b) (i2b t b)) h6 e68 (by rw [quo_size]; exact thereQ S.a6) (szQ _ _) (quo_one _ _) ?_
                  rw [show wr.setCells (w.heap.size + 1 + 1 + 1) 0 (quo (i2t t b) (i2b t b)).toList = wr.setRow (w.heap.size + 1 + 1 + 1) (quo (i2t t b) (i2b t b)) from setRowQ S.a6 _ _]
                  refine ⟨⟨S.chg.setRow (by omega) _, S.a3.rowOther (by omega) _, S.a4.rowOther (by omega) _, S.a5.rowOther (by omega) _, S.a6.row _, S.a7.rowOther (by omega) _⟩, hdf, hsz, h6, h7, ?_, ?_⟩
                  · intro hx; rw [getB_set _ _ _ _ (by decide)] at hx; exact h0 hx
                  · intro hx; rw [getB_set _ _ _ _ (by decide)] at hx; exact h1 hx
                · have e69 := h1 (hdep 1 (by kernel_rfl))
                  refine .inl ?_
                  refine wp_store_mid 36 (.tmp 7) (.tmp 69) rfl _ 0 (quo (iBt t b t' b') (iBb x t b t' b')) h7 e69 (by rw [quo_size]; exact thereQ S.a7) (szQ _ _) (quo_one _ _) ?_
                  rw [show wr.setCells (w.heap.size + 1 + 1 + 1 + 1) 0 (quo (iBt t b t' b') (iBb x t b t' b')).toList = wr.setRow (w.heap.size + 1 + 1 + 1 + 1) (quo (iBt t b t' b') (iBb x t b t' b')) from setRowQ S.a7 _ _]
                  refine ⟨⟨S.chg.setRow (by omega) _, S.a3.rowOther (by omega) _, S.a4.rowOther (by omega) _, S.a5.rowOther (by omega) _, S.a6.rowOther (by omega) _, S.a7.row _⟩, hdf, hsz, h6, h7, ?_, ?_⟩
                  · intro hx; rw [getB_set _ _ _ _ (by decide)] at hx; exact h0 hx
                  · intro hx; rw [getB_set _ _ _ _ (by decide)] at hx; exact h1 hx
              · intro l a wr hI _
                obtain ⟨S, hdf, hsz, h6, h7, h0, h1⟩ := hI
                go_wp2_with fail
                exact bp_qq Try.results28 hdf h6 h7 S.a6 S.a7 ⟨rfl, S.chg⟩
end Go.Proofs.Ytiehjhlekpjlaaa
