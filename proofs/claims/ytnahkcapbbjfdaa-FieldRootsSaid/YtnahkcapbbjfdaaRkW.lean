/-
  Sums, differences, products are the document's: the law, walked.
-/
import Derived.Test.YtnahkcapbbjfdaaJc
import Derived.Test.YtnahkcapbbjfdaaLw
namespace Go.Proofs.Ytnahkcapbbjfdaa
open Go.RowKit
set_option linter.unusedVariables false

theorem op_asg {o : Oper} {a : Act} {w : World} {K : Act → World → Prop} {Q : Exit → Act → World → Prop} (x : Operand) (v : Value) (ho : o.op = .assign x) (hx : a.eval x = v) (hK : K (a.put o.dst v) w) : o.wp Try.prog a w K Q := by
  unfold Oper.wp
  rw [show (execOp a.eval o).run Try.prog w = .ok (.value v) w by simp [execOp, ho, hx], Oper.upon_value]
  exact hK

set_option maxRecDepth 100000 in
set_option maxHeartbeats 16000000 in
theorem reckons_walk (f a b : Int) (ha : N256 a) (hb : N256 b) (w : World) : Calls Try.prog 3 #[.int .i64 f, .agg (num a), .agg (num b)] w fun r w' => r = .returned (.bool true) ∧ Chg w w' := by
  have HAB : Hid (N256 a ∧ N256 b) := ⟨ha, hb⟩
  have hsA := num_size a
  have hsB := num_size b
  obtain ⟨A, hA⟩ : ∃ A, A = num a := ⟨_, rfl⟩
  obtain ⟨B, hB⟩ : ∃ B, B = num b := ⟨_, rfl⟩
  have HA : Hid (A = num a ∧ B = num b) := ⟨hA, hB⟩
  rw [← hA] at hsA ⊢
  rw [← hB] at hsB ⊢
  clear hA hB ha hb
  go_enter Try.func3, Try.ntmps3
  go_upto_region 1 with fail
  obtain ⟨w0, hw0⟩ : ∃ w0, w0 = (w.alloc (.cells A 25)).alloc (.cells B 25) := ⟨_, rfl⟩
  have Z0 : Hid (Chg w w0 ∧ Ar w0 w.heap.size (num a) ∧ Ar w0 (w.heap.size + 1) (num b)) := by
    rw [hw0, HA.out.1, HA.out.2]
    exact ⟨((Chg.refl w).alloc _).alloc _, (Ar.new w _ _).alloc _, Ar.new1 w _ _ _⟩
  rw [← hw0]
  clear hw0 hsA hsB HA
  go_wp2_with fail
  go_at_call 9
  refine (head_any _).mono ?_
  rintro r w1 ⟨rfl, hc1⟩
  have Z1 : Hid (Chg w w1 ∧ Ar w1 w.heap.size (num a) ∧ Ar w1 (w.heap.size + 1) (num b)) := ⟨Z0.out.1.trans hc1, Z0.out.2.1.chg hc1, Z0.out.2.2.chg hc1⟩
  clear hc1 Z0
  go_upto_region 2 with fail
  go_cut [8] from 14 to 23 (fun v wc => v = .bool true ∧ Chg w1 wc)
  case first =>
      refine wp_region_good 9 (fun j v wg => match j with
        | 0 => v = .int .i64 f
        | 1 => v = .agg (num a)
        | 2 => v = .agg (num b)
        | 3 => v = .agg (num (md f (a + b)))
        | 4 => v = .int .i64 f
        | 5 => v = .agg (num a)
        | 6 => v = .agg (num b)
        | 7 => v = .agg (num (md f (a + b)))
        | 8 => v = .bool true
        | _ => True) (by kernel_rfl) (by kernel_rfl) (by kernel_rfl) (by kernel_rfl) (by kernel_rfl) ?_ ?_ ?_
      · intro j v u1 u2 h hc
        match j, h with
        | 0, h => exact h
        | 1, h => exact h
        | 2, h => exact h
        | 3, h => exact h
        | 4, h => exact h
        | 5, h => exact h
        | 6, h => exact h
        | 7, h => exact h
        | 8, h => exact h
        | _ + 9, h => exact trivial
      · intro i o ac u hi ho hsz hf hg hc
        have hcs : i = 0 ∨ i = 1 ∨ i = 2 ∨ i = 3 ∨ i = 4 ∨ i = 5 ∨ i = 6 ∨ i = 7 ∨ i = 8 := by omega
        rcases hcs with rfl | rfl | rfl | rfl | rfl | rfl | rfl | rfl | rfl
        · injection ho with ho
          subst ho
          refine .inl ⟨wanted_none rfl, ?_⟩
          have e1 : ac.eval (.tmp 0) = .int .i64 f := hf 0 (by kernel_rfl)
          exact opG_val (by simp [execOp, e1]) rfl (Chg.refl _)
        · injection ho with ho
          subst ho
          refine .inl ⟨wanted_none rfl, ?_⟩
          have e1 : ac.eval (.tmp 4) = .pointer (some ⟨w.heap.size, 0, none⟩) := hf 4 (by kernel_rfl)
          exact wp_load_mid 25 (.tmp 4) rfl _ _ e1 ((num a).toList) _ (rangeN (Ar.chg (w := w1.drew) Z1.out.2.1 hc)) Go.Proofs.Ytnahkcapbbjfdaa.u25 rfl (infoN _) ⟨_, rfl, rfl, Chg.refl _⟩
        · injection ho with ho
          subst ho
          refine .inl ⟨wanted_none rfl, ?_⟩
          have e1 : ac.eval (.tmp 5) = .pointer (some ⟨w.heap.size + 1, 0, none⟩) := hf 5 (by kernel_rfl)
          exact wp_load_mid 25 (.tmp 5) rfl _ _ e1 ((num b).toList) _ (rangeN (Ar.chg (w := w1.drew) Z1.out.2.2 hc)) Go.Proofs.Ytnahkcapbbjfdaa.u25 rfl (infoN _) ⟨_, rfl, rfl, Chg.refl _⟩
        · injection ho with ho
          subst ho
          refine .inl ⟨wanted_none rfl, ?_⟩
          have e1 : ac.eval (.tmp 14) = .int .i64 f := hg 0 (by kernel_rfl) (by decide)
          have e2 : ac.eval (.tmp 15) = .agg (num a) := hg 1 (by kernel_rfl) (by decide)
          have e3 : ac.eval (.tmp 16) = .agg (num b) := hg 2 (by kernel_rfl) (by decide)
          refine opG_go 10 Try.f10 #[.tmp 14, .tmp 15, .tmp 16] #[22, 25, 25] rfl Try.func10 (by kernel_rfl) (by kernel_rfl) (by simp [e1, e2, e3]) (Calls.mono (addM_any f a b HAB.out.1 HAB.out.2 _) ?_)
          rintro r u2 ⟨rfl, hc2⟩
          exact ⟨_, rfl, rfl, hc2⟩
        · injection ho with ho
          subst ho
          refine .inl ⟨wanted_none rfl, ?_⟩
          have e1 : ac.eval (.tmp 0) = .int .i64 f := hf 0 (by kernel_rfl)
          exact opG_val (by simp [execOp, e1]) rfl (Chg.refl _)
        · injection ho with ho
          subst ho
          refine .inl ⟨wanted_none rfl, ?_⟩
          have e1 : ac.eval (.tmp 4) = .pointer (some ⟨w.heap.size, 0, none⟩) := hf 4 (by kernel_rfl)
          exact wp_load_mid 25 (.tmp 4) rfl _ _ e1 ((num a).toList) _ (rangeN (Ar.chg (w := w1.drew) Z1.out.2.1 hc)) Go.Proofs.Ytnahkcapbbjfdaa.u25 rfl (infoN _) ⟨_, rfl, rfl, Chg.refl _⟩
        · injection ho with ho
          subst ho
          refine .inl ⟨wanted_none rfl, ?_⟩
          have e1 : ac.eval (.tmp 5) = .pointer (some ⟨w.heap.size + 1, 0, none⟩) := hf 5 (by kernel_rfl)
          exact wp_load_mid 25 (.tmp 5) rfl _ _ e1 ((num b).toList) _ (rangeN (Ar.chg (w := w1.drew) Z1.out.2.2 hc)) Go.Proofs.Ytnahkcapbbjfdaa.u25 rfl (infoN _) ⟨_, rfl, rfl, Chg.refl _⟩
        · injection ho with ho
          subst ho
          refine .inl ⟨wanted_none rfl, ?_⟩
          have e1 : ac.eval (.tmp 18) = .int .i64 f := hg 4 (by kernel_rfl) (by decide)
          have e2 : ac.eval (.tmp 19) = .agg (num a) := hg 5 (by kernel_rfl) (by decide)
          have e3 : ac.eval (.tmp 20) = .agg (num b) := hg 6 (by kernel_rfl) (by decide)
          refine opG_go 11 Try.f11 #[.tmp 18, .tmp 19, .tmp 20] #[22, 25, 25] rfl Try.func11 (by kernel_rfl) (by kernel_rfl) (by simp [e1, e2, e3]) (Calls.mono (addR_any f a b HAB.out.1 HAB.out.2 _) ?_)
          rintro r u2 ⟨rfl, hc2⟩
          exact ⟨_, rfl, rfl, hc2⟩
        · injection ho with ho
          subst ho
          refine .inl ⟨wanted_none rfl, ?_⟩
          have e1 : ac.eval (.tmp 17) = .agg (num (md f (a + b))) := hg 3 (by kernel_rfl) (by decide)
          have e2 : ac.eval (.tmp 21) = .agg (num (md f (a + b))) := hg 7 (by kernel_rfl) (by decide)
          exact opG_val (by revert e1 e2; generalize ac.eval = ρ; intro e1 e2; simp [go_sem, execOp, e1, e2, eq_self (md_N f (a + b))]) rfl (Chg.refl _)
      · intro o u V ho hV hc
        injection ho with ho
        subst ho
        refine ⟨rfl, ?_⟩
        have q14 : V 0 = .int .i64 f := hV 0 (by decide)
        have q15 : V 1 = .agg (num a) := hV 1 (by decide)
        have q16 : V 2 = .agg (num b) := hV 2 (by decide)
        have q17 : V 3 = .agg (num (md f (a + b))) := hV 3 (by decide)
        have q18 : V 4 = .int .i64 f := hV 4 (by decide)
        have q19 : V 5 = .agg (num a) := hV 5 (by decide)
        have q20 : V 6 = .agg (num b) := hV 6 (by decide)
        have q21 : V 7 = .agg (num (md f (a + b))) := hV 7 (by decide)
        have q22 : V 8 = .bool true := hV 8 (by decide)
        refine op_asg (.tmp 22) (.bool true) rfl (Eq.trans (by rfl) q22) ?_
        go_wp2_with fail
        go_meet
        exact ⟨rfl, (Chg.refl w1).drew.trans hc⟩
  case rest =>
    obtain ⟨rfl, hcc⟩ := hcut
    obtain ⟨w2, hw2⟩ : ∃ w2, w2 = wc := ⟨_, rfl⟩
    have Z2 : Hid (Chg w w2 ∧ Ar w2 w.heap.size (num a) ∧ Ar w2 (w.heap.size + 1) (num b)) := by
      rw [hw2]
      exact ⟨Z1.out.1.trans hcc, Z1.out.2.1.chg hcc, Z1.out.2.2.chg hcc⟩
    rw [← hw2]
    clear hw2 hcc Z1
    go_upto_region 3 with fail
    go_cut [9] from 23 to 32 (fun v wc => v = .bool true ∧ Chg w2 wc)
    case first =>
        refine wp_region_good 9 (fun j v wg => match j with
          | 0 => v = .int .i64 f
          | 1 => v = .agg (num a)
          | 2 => v = .agg (num b)
          | 3 => v = .agg (num (md f (a - b)))
          | 4 => v = .int .i64 f
          | 5 => v = .agg (num a)
          | 6 => v = .agg (num b)
          | 7 => v = .agg (num (md f (a - b)))
          | 8 => v = .bool true
          | _ => True) (by kernel_rfl) (by kernel_rfl) (by kernel_rfl) (by kernel_rfl) (by kernel_rfl) ?_ ?_ ?_
        · intro j v u1 u2 h hc
          match j, h with
          | 0, h => exact h
          | 1, h => exact h
          | 2, h => exact h
          | 3, h => exact h
          | 4, h => exact h
          | 5, h => exact h
          | 6, h => exact h
          | 7, h => exact h
          | 8, h => exact h
          | _ + 9, h => exact trivial
        · intro i o ac u hi ho hsz hf hg hc
          have hcs : i = 0 ∨ i = 1 ∨ i = 2 ∨ i = 3 ∨ i = 4 ∨ i = 5 ∨ i = 6 ∨ i = 7 ∨ i = 8 := by omega
          rcases hcs with rfl | rfl | rfl | rfl | rfl | rfl | rfl | rfl | rfl
          · injection ho with ho
            subst ho
            refine .inl ⟨wanted_none rfl, ?_⟩
            have e1 : ac.eval (.tmp 0) = .int .i64 f := hf 0 (by kernel_rfl)
            exact opG_val (by simp [execOp, e1]) rfl (Chg.refl _)
          · injection ho with ho
            subst ho
            refine .inl ⟨wanted_none rfl, ?_⟩
            have e1 : ac.eval (.tmp 4) = .pointer (some ⟨w.heap.size, 0, none⟩) := hf 4 (by kernel_rfl)
            exact wp_load_mid 25 (.tmp 4) rfl _ _ e1 ((num a).toList) _ (rangeN (Ar.chg (w := w2.drew) Z2.out.2.1 hc)) Go.Proofs.Ytnahkcapbbjfdaa.u25 rfl (infoN _) ⟨_, rfl, rfl, Chg.refl _⟩
          · injection ho with ho
            subst ho
            refine .inl ⟨wanted_none rfl, ?_⟩
            have e1 : ac.eval (.tmp 5) = .pointer (some ⟨w.heap.size + 1, 0, none⟩) := hf 5 (by kernel_rfl)
            exact wp_load_mid 25 (.tmp 5) rfl _ _ e1 ((num b).toList) _ (rangeN (Ar.chg (w := w2.drew) Z2.out.2.2 hc)) Go.Proofs.Ytnahkcapbbjfdaa.u25 rfl (infoN _) ⟨_, rfl, rfl, Chg.refl _⟩
          · injection ho with ho
            subst ho
            refine .inl ⟨wanted_none rfl, ?_⟩
            have e1 : ac.eval (.tmp 23) = .int .i64 f := hg 0 (by kernel_rfl) (by decide)
            have e2 : ac.eval (.tmp 24) = .agg (num a) := hg 1 (by kernel_rfl) (by decide)
            have e3 : ac.eval (.tmp 25) = .agg (num b) := hg 2 (by kernel_rfl) (by decide)
            refine opG_go 12 Try.f12 #[.tmp 23, .tmp 24, .tmp 25] #[22, 25, 25] rfl Try.func12 (by kernel_rfl) (by kernel_rfl) (by simp [e1, e2, e3]) (Calls.mono (subM_any f a b HAB.out.1 HAB.out.2 _) ?_)
            rintro r u2 ⟨rfl, hc2⟩
            exact ⟨_, rfl, rfl, hc2⟩
          · injection ho with ho
            subst ho
            refine .inl ⟨wanted_none rfl, ?_⟩
            have e1 : ac.eval (.tmp 0) = .int .i64 f := hf 0 (by kernel_rfl)
            exact opG_val (by simp [execOp, e1]) rfl (Chg.refl _)
          · injection ho with ho
            subst ho
            refine .inl ⟨wanted_none rfl, ?_⟩
            have e1 : ac.eval (.tmp 4) = .pointer (some ⟨w.heap.size, 0, none⟩) := hf 4 (by kernel_rfl)
            exact wp_load_mid 25 (.tmp 4) rfl _ _ e1 ((num a).toList) _ (rangeN (Ar.chg (w := w2.drew) Z2.out.2.1 hc)) Go.Proofs.Ytnahkcapbbjfdaa.u25 rfl (infoN _) ⟨_, rfl, rfl, Chg.refl _⟩
          · injection ho with ho
            subst ho
            refine .inl ⟨wanted_none rfl, ?_⟩
            have e1 : ac.eval (.tmp 5) = .pointer (some ⟨w.heap.size + 1, 0, none⟩) := hf 5 (by kernel_rfl)
            exact wp_load_mid 25 (.tmp 5) rfl _ _ e1 ((num b).toList) _ (rangeN (Ar.chg (w := w2.drew) Z2.out.2.2 hc)) Go.Proofs.Ytnahkcapbbjfdaa.u25 rfl (infoN _) ⟨_, rfl, rfl, Chg.refl _⟩
          · injection ho with ho
            subst ho
            refine .inl ⟨wanted_none rfl, ?_⟩
            have e1 : ac.eval (.tmp 27) = .int .i64 f := hg 4 (by kernel_rfl) (by decide)
            have e2 : ac.eval (.tmp 28) = .agg (num a) := hg 5 (by kernel_rfl) (by decide)
            have e3 : ac.eval (.tmp 29) = .agg (num b) := hg 6 (by kernel_rfl) (by decide)
            refine opG_go 13 Try.f13 #[.tmp 27, .tmp 28, .tmp 29] #[22, 25, 25] rfl Try.func13 (by kernel_rfl) (by kernel_rfl) (by simp [e1, e2, e3]) (Calls.mono (subR_any f a b HAB.out.1 HAB.out.2 _) ?_)
            rintro r u2 ⟨rfl, hc2⟩
            exact ⟨_, rfl, rfl, hc2⟩
          · injection ho with ho
            subst ho
            refine .inl ⟨wanted_none rfl, ?_⟩
            have e1 : ac.eval (.tmp 26) = .agg (num (md f (a - b))) := hg 3 (by kernel_rfl) (by decide)
            have e2 : ac.eval (.tmp 30) = .agg (num (md f (a - b))) := hg 7 (by kernel_rfl) (by decide)
            exact opG_val (by revert e1 e2; generalize ac.eval = ρ; intro e1 e2; simp [go_sem, execOp, e1, e2, eq_self (md_N f (a - b))]) rfl (Chg.refl _)
        · intro o u V ho hV hc
          injection ho with ho
          subst ho
          refine ⟨rfl, ?_⟩
          have q23 : V 0 = .int .i64 f := hV 0 (by decide)
          have q24 : V 1 = .agg (num a) := hV 1 (by decide)
          have q25 : V 2 = .agg (num b) := hV 2 (by decide)
          have q26 : V 3 = .agg (num (md f (a - b))) := hV 3 (by decide)
          have q27 : V 4 = .int .i64 f := hV 4 (by decide)
          have q28 : V 5 = .agg (num a) := hV 5 (by decide)
          have q29 : V 6 = .agg (num b) := hV 6 (by decide)
          have q30 : V 7 = .agg (num (md f (a - b))) := hV 7 (by decide)
          have q31 : V 8 = .bool true := hV 8 (by decide)
          refine op_asg (.tmp 31) (.bool true) rfl (Eq.trans (by rfl) q31) ?_
          go_wp2_with fail
          go_meet
          exact ⟨rfl, (Chg.refl w2).drew.trans hc⟩
    case rest =>
      obtain ⟨rfl, hcc⟩ := hcut
      obtain ⟨w3, hw3⟩ : ∃ w3, w3 = wc := ⟨_, rfl⟩
      have Z3 : Hid (Chg w w3 ∧ Ar w3 w.heap.size (num a) ∧ Ar w3 (w.heap.size + 1) (num b)) := by
        rw [hw3]
        exact ⟨Z2.out.1.trans hcc, Z2.out.2.1.chg hcc, Z2.out.2.2.chg hcc⟩
      rw [← hw3]
      clear hw3 hcc Z2
      go_upto_region 4 with fail
      go_cut [10] from 32 to 41 (fun v wc => v = .bool true ∧ Chg w3 wc)
      case first =>
          refine wp_region_good 9 (fun j v wg => match j with
            | 0 => v = .int .i64 f
            | 1 => v = .agg (num a)
            | 2 => v = .agg (num b)
            | 3 => v = .agg (num (md f (a * b)))
            | 4 => v = .int .i64 f
            | 5 => v = .agg (num a)
            | 6 => v = .agg (num b)
            | 7 => v = .agg (num (md f (a * b)))
            | 8 => v = .bool true
            | _ => True) (by kernel_rfl) (by kernel_rfl) (by kernel_rfl) (by kernel_rfl) (by kernel_rfl) ?_ ?_ ?_
          · intro j v u1 u2 h hc
            match j, h with
            | 0, h => exact h
            | 1, h => exact h
            | 2, h => exact h
            | 3, h => exact h
            | 4, h => exact h
            | 5, h => exact h
            | 6, h => exact h
            | 7, h => exact h
            | 8, h => exact h
            | _ + 9, h => exact trivial
          · intro i o ac u hi ho hsz hf hg hc
            have hcs : i = 0 ∨ i = 1 ∨ i = 2 ∨ i = 3 ∨ i = 4 ∨ i = 5 ∨ i = 6 ∨ i = 7 ∨ i = 8 := by omega
            rcases hcs with rfl | rfl | rfl | rfl | rfl | rfl | rfl | rfl | rfl
            · injection ho with ho
              subst ho
              refine .inl ⟨wanted_none rfl, ?_⟩
              have e1 : ac.eval (.tmp 0) = .int .i64 f := hf 0 (by kernel_rfl)
              exact opG_val (by simp [execOp, e1]) rfl (Chg.refl _)
            · injection ho with ho
              subst ho
              refine .inl ⟨wanted_none rfl, ?_⟩
              have e1 : ac.eval (.tmp 4) = .pointer (some ⟨w.heap.size, 0, none⟩) := hf 4 (by kernel_rfl)
              exact wp_load_mid 25 (.tmp 4) rfl _ _ e1 ((num a).toList) _ (rangeN (Ar.chg (w := w3.drew) Z3.out.2.1 hc)) Go.Proofs.Ytnahkcapbbjfdaa.u25 rfl (infoN _) ⟨_, rfl, rfl, Chg.refl _⟩
            · injection ho with ho
              subst ho
              refine .inl ⟨wanted_none rfl, ?_⟩
              have e1 : ac.eval (.tmp 5) = .pointer (some ⟨w.heap.size + 1, 0, none⟩) := hf 5 (by kernel_rfl)
              exact wp_load_mid 25 (.tmp 5) rfl _ _ e1 ((num b).toList) _ (rangeN (Ar.chg (w := w3.drew) Z3.out.2.2 hc)) Go.Proofs.Ytnahkcapbbjfdaa.u25 rfl (infoN _) ⟨_, rfl, rfl, Chg.refl _⟩
            · injection ho with ho
              subst ho
              refine .inl ⟨wanted_none rfl, ?_⟩
              have e1 : ac.eval (.tmp 32) = .int .i64 f := hg 0 (by kernel_rfl) (by decide)
              have e2 : ac.eval (.tmp 33) = .agg (num a) := hg 1 (by kernel_rfl) (by decide)
              have e3 : ac.eval (.tmp 34) = .agg (num b) := hg 2 (by kernel_rfl) (by decide)
              refine opG_go 14 Try.f14 #[.tmp 32, .tmp 33, .tmp 34] #[22, 25, 25] rfl Try.func14 (by kernel_rfl) (by kernel_rfl) (by simp [e1, e2, e3]) (Calls.mono (mulM_any f a b HAB.out.1 HAB.out.2 _) ?_)
              rintro r u2 ⟨rfl, hc2⟩
              exact ⟨_, rfl, rfl, hc2⟩
            · injection ho with ho
              subst ho
              refine .inl ⟨wanted_none rfl, ?_⟩
              have e1 : ac.eval (.tmp 0) = .int .i64 f := hf 0 (by kernel_rfl)
              exact opG_val (by simp [execOp, e1]) rfl (Chg.refl _)
            · injection ho with ho
              subst ho
              refine .inl ⟨wanted_none rfl, ?_⟩
              have e1 : ac.eval (.tmp 4) = .pointer (some ⟨w.heap.size, 0, none⟩) := hf 4 (by kernel_rfl)
              exact wp_load_mid 25 (.tmp 4) rfl _ _ e1 ((num a).toList) _ (rangeN (Ar.chg (w := w3.drew) Z3.out.2.1 hc)) Go.Proofs.Ytnahkcapbbjfdaa.u25 rfl (infoN _) ⟨_, rfl, rfl, Chg.refl _⟩
            · injection ho with ho
              subst ho
              refine .inl ⟨wanted_none rfl, ?_⟩
              have e1 : ac.eval (.tmp 5) = .pointer (some ⟨w.heap.size + 1, 0, none⟩) := hf 5 (by kernel_rfl)
              exact wp_load_mid 25 (.tmp 5) rfl _ _ e1 ((num b).toList) _ (rangeN (Ar.chg (w := w3.drew) Z3.out.2.2 hc)) Go.Proofs.Ytnahkcapbbjfdaa.u25 rfl (infoN _) ⟨_, rfl, rfl, Chg.refl _⟩
            · injection ho with ho
              subst ho
              refine .inl ⟨wanted_none rfl, ?_⟩
              have e1 : ac.eval (.tmp 36) = .int .i64 f := hg 4 (by kernel_rfl) (by decide)
              have e2 : ac.eval (.tmp 37) = .agg (num a) := hg 5 (by kernel_rfl) (by decide)
              have e3 : ac.eval (.tmp 38) = .agg (num b) := hg 6 (by kernel_rfl) (by decide)
              refine opG_go 15 Try.f15 #[.tmp 36, .tmp 37, .tmp 38] #[22, 25, 25] rfl Try.func15 (by kernel_rfl) (by kernel_rfl) (by simp [e1, e2, e3]) (Calls.mono (mulR_any f a b HAB.out.1 HAB.out.2 _) ?_)
              rintro r u2 ⟨rfl, hc2⟩
              exact ⟨_, rfl, rfl, hc2⟩
            · injection ho with ho
              subst ho
              refine .inl ⟨wanted_none rfl, ?_⟩
              have e1 : ac.eval (.tmp 35) = .agg (num (md f (a * b))) := hg 3 (by kernel_rfl) (by decide)
              have e2 : ac.eval (.tmp 39) = .agg (num (md f (a * b))) := hg 7 (by kernel_rfl) (by decide)
              exact opG_val (by revert e1 e2; generalize ac.eval = ρ; intro e1 e2; simp [go_sem, execOp, e1, e2, eq_self (md_N f (a * b))]) rfl (Chg.refl _)
          · intro o u V ho hV hc
            injection ho with ho
            subst ho
            refine ⟨rfl, ?_⟩
            have q32 : V 0 = .int .i64 f := hV 0 (by decide)
            have q33 : V 1 = .agg (num a) := hV 1 (by decide)
            have q34 : V 2 = .agg (num b) := hV 2 (by decide)
            have q35 : V 3 = .agg (num (md f (a * b))) := hV 3 (by decide)
            have q36 : V 4 = .int .i64 f := hV 4 (by decide)
            have q37 : V 5 = .agg (num a) := hV 5 (by decide)
            have q38 : V 6 = .agg (num b) := hV 6 (by decide)
            have q39 : V 7 = .agg (num (md f (a * b))) := hV 7 (by decide)
            have q40 : V 8 = .bool true := hV 8 (by decide)
            refine op_asg (.tmp 40) (.bool true) rfl (Eq.trans (by rfl) q40) ?_
            go_wp2_with fail
            go_meet
            exact ⟨rfl, (Chg.refl w3).drew.trans hc⟩
      case rest =>
        obtain ⟨rfl, hcc⟩ := hcut
        obtain ⟨w4, hw4⟩ : ∃ w4, w4 = wc := ⟨_, rfl⟩
        have Z4 : Hid (Chg w w4 ∧ Ar w4 w.heap.size (num a) ∧ Ar w4 (w.heap.size + 1) (num b)) := by
          rw [hw4]
          exact ⟨Z3.out.1.trans hcc, Z3.out.2.1.chg hcc, Z3.out.2.2.chg hcc⟩
        rw [← hw4]
        clear hw4 hcc Z3
        go_upto_region 5 with fail
        go_cut [11] from 41 to 48 (fun v wc => v = .bool true ∧ Chg w4 wc)
        case first =>
            refine wp_region_good 7 (fun j v wg => match j with
              | 0 => v = .int .i64 f
              | 1 => v = .agg (num a)
              | 2 => v = .agg (num (md f (0 - a)))
              | 3 => v = .int .i64 f
              | 4 => v = .agg (num a)
              | 5 => v = .agg (num (md f (0 - a)))
              | 6 => v = .bool true
              | _ => True) (by kernel_rfl) (by kernel_rfl) (by kernel_rfl) (by kernel_rfl) (by kernel_rfl) ?_ ?_ ?_
            · intro j v u1 u2 h hc
              match j, h with
              | 0, h => exact h
              | 1, h => exact h
              | 2, h => exact h
              | 3, h => exact h
              | 4, h => exact h
              | 5, h => exact h
              | 6, h => exact h
              | _ + 7, h => exact trivial
            · intro i o ac u hi ho hsz hf hg hc
              have hcs : i = 0 ∨ i = 1 ∨ i = 2 ∨ i = 3 ∨ i = 4 ∨ i = 5 ∨ i = 6 := by omega
              rcases hcs with rfl | rfl | rfl | rfl | rfl | rfl | rfl
              · injection ho with ho
                subst ho
                refine .inl ⟨wanted_none rfl, ?_⟩
                have e1 : ac.eval (.tmp 0) = .int .i64 f := hf 0 (by kernel_rfl)
                exact opG_val (by simp [execOp, e1]) rfl (Chg.refl _)
              · injection ho with ho
                subst ho
                refine .inl ⟨wanted_none rfl, ?_⟩
                have e1 : ac.eval (.tmp 4) = .pointer (some ⟨w.heap.size, 0, none⟩) := hf 4 (by kernel_rfl)
                exact wp_load_mid 25 (.tmp 4) rfl _ _ e1 ((num a).toList) _ (rangeN (Ar.chg (w := w4.drew) Z4.out.2.1 hc)) Go.Proofs.Ytnahkcapbbjfdaa.u25 rfl (infoN _) ⟨_, rfl, rfl, Chg.refl _⟩
              · injection ho with ho
                subst ho
                refine .inl ⟨wanted_none rfl, ?_⟩
                have e1 : ac.eval (.tmp 41) = .int .i64 f := hg 0 (by kernel_rfl) (by decide)
                have e2 : ac.eval (.tmp 42) = .agg (num a) := hg 1 (by kernel_rfl) (by decide)
                refine opG_go 16 Try.f16 #[.tmp 41, .tmp 42] #[22, 25] rfl Try.func16 (by kernel_rfl) (by kernel_rfl) (by simp [e1, e2]) (Calls.mono (negM_any f a HAB.out.1 _) ?_)
                rintro r u2 ⟨rfl, hc2⟩
                exact ⟨_, rfl, rfl, hc2⟩
              · injection ho with ho
                subst ho
                refine .inl ⟨wanted_none rfl, ?_⟩
                have e1 : ac.eval (.tmp 0) = .int .i64 f := hf 0 (by kernel_rfl)
                exact opG_val (by simp [execOp, e1]) rfl (Chg.refl _)
              · injection ho with ho
                subst ho
                refine .inl ⟨wanted_none rfl, ?_⟩
                have e1 : ac.eval (.tmp 4) = .pointer (some ⟨w.heap.size, 0, none⟩) := hf 4 (by kernel_rfl)
                exact wp_load_mid 25 (.tmp 4) rfl _ _ e1 ((num a).toList) _ (rangeN (Ar.chg (w := w4.drew) Z4.out.2.1 hc)) Go.Proofs.Ytnahkcapbbjfdaa.u25 rfl (infoN _) ⟨_, rfl, rfl, Chg.refl _⟩
              · injection ho with ho
                subst ho
                refine .inl ⟨wanted_none rfl, ?_⟩
                have e1 : ac.eval (.tmp 44) = .int .i64 f := hg 3 (by kernel_rfl) (by decide)
                have e2 : ac.eval (.tmp 45) = .agg (num a) := hg 4 (by kernel_rfl) (by decide)
                refine opG_go 17 Try.f17 #[.tmp 44, .tmp 45] #[22, 25] rfl Try.func17 (by kernel_rfl) (by kernel_rfl) (by simp [e1, e2]) (Calls.mono (negR_any f a HAB.out.1 _) ?_)
                rintro r u2 ⟨rfl, hc2⟩
                exact ⟨_, rfl, rfl, hc2⟩
              · injection ho with ho
                subst ho
                refine .inl ⟨wanted_none rfl, ?_⟩
                have e1 : ac.eval (.tmp 43) = .agg (num (md f (0 - a))) := hg 2 (by kernel_rfl) (by decide)
                have e2 : ac.eval (.tmp 46) = .agg (num (md f (0 - a))) := hg 5 (by kernel_rfl) (by decide)
                exact opG_val (by revert e1 e2; generalize ac.eval = ρ; intro e1 e2; simp [go_sem, execOp, e1, e2, eq_self (md_N f (-a))]) rfl (Chg.refl _)
            · intro o u V ho hV hc
              injection ho with ho
              subst ho
              refine ⟨rfl, ?_⟩
              have q41 : V 0 = .int .i64 f := hV 0 (by decide)
              have q42 : V 1 = .agg (num a) := hV 1 (by decide)
              have q43 : V 2 = .agg (num (md f (0 - a))) := hV 2 (by decide)
              have q44 : V 3 = .int .i64 f := hV 3 (by decide)
              have q45 : V 4 = .agg (num a) := hV 4 (by decide)
              have q46 : V 5 = .agg (num (md f (0 - a))) := hV 5 (by decide)
              have q47 : V 6 = .bool true := hV 6 (by decide)
              refine op_asg (.tmp 47) (.bool true) rfl (Eq.trans (by rfl) q47) ?_
              go_wp2_with fail
              go_meet
              exact ⟨rfl, (Chg.refl w4).drew.trans hc⟩
        case rest =>
          obtain ⟨rfl, hcc⟩ := hcut
          obtain ⟨w5, hw5⟩ : ∃ w5, w5 = wc := ⟨_, rfl⟩
          have Z5 : Hid (Chg w w5 ∧ Ar w5 w.heap.size (num a) ∧ Ar w5 (w.heap.size + 1) (num b)) := by
            rw [hw5]
            exact ⟨Z4.out.1.trans hcc, Z4.out.2.1.chg hcc, Z4.out.2.2.chg hcc⟩
          rw [← hw5]
          clear hw5 hcc Z4
          go_upto_region 6 with fail
          go_cut [12] from 48 to 63 (fun v wc => v = .bool true ∧ Chg w5 wc)
          case first =>
              refine wp_region_good 15 (fun j v wg => match j with
                | 0 => v = .int .i64 f
                | 1 => v = .agg (num (mo f))
                | 2 => v = .int .i64 f
                | 3 => v = .agg (num (mo f))
                | 4 => v = .bool true
                | 5 => v = .bool true
                | 6 => v = .int .i64 f
                | 7 => v = .agg (num a)
                | 8 => v = .bool (decide (a < mo f))
                | 9 => v = .agg (num a)
                | 10 => v = .int .i64 f
                | 11 => v = .agg (num (mo f))
                | 12 => v = .bool (decide (a < mo f))
                | 13 => v = .bool true
                | 14 => v = .bool true
                | _ => True) (by kernel_rfl) (by kernel_rfl) (by kernel_rfl) (by kernel_rfl) (by kernel_rfl) ?_ ?_ ?_
              · intro j v u1 u2 h hc
                match j, h with
                | 0, h => exact h
                | 1, h => exact h
                | 2, h => exact h
                | 3, h => exact h
                | 4, h => exact h
                | 5, h => exact h
                | 6, h => exact h
                | 7, h => exact h
                | 8, h => exact h
                | 9, h => exact h
                | 10, h => exact h
                | 11, h => exact h
                | 12, h => exact h
                | 13, h => exact h
                | 14, h => exact h
                | _ + 15, h => exact trivial
              · intro i o ac u hi ho hsz hf hg hc
                have hcs : i = 0 ∨ i = 1 ∨ i = 2 ∨ i = 3 ∨ i = 4 ∨ i = 5 ∨ i = 6 ∨ i = 7 ∨ i = 8 ∨ i = 9 ∨ i = 10 ∨ i = 11 ∨ i = 12 ∨ i = 13 ∨ i = 14 := by omega
                rcases hcs with rfl | rfl | rfl | rfl | rfl | rfl | rfl | rfl | rfl | rfl | rfl | rfl | rfl | rfl | rfl
                · injection ho with ho
                  subst ho
                  refine .inl ⟨wanted_none rfl, ?_⟩
                  have e1 : ac.eval (.tmp 0) = .int .i64 f := hf 0 (by kernel_rfl)
                  exact opG_val (by simp [execOp, e1]) rfl (Chg.refl _)
                · injection ho with ho
                  subst ho
                  refine .inl ⟨wanted_none rfl, ?_⟩
                  have e1 : ac.eval (.tmp 48) = .int .i64 f := hg 0 (by kernel_rfl) (by decide)
                  refine opG_go 18 Try.f18 #[.tmp 48] #[22] rfl Try.func18 (by kernel_rfl) (by kernel_rfl) (by simp [e1]) (Calls.mono (modulus_any f _) ?_)
                  rintro r u2 ⟨rfl, hc2⟩
                  exact ⟨_, rfl, rfl, hc2⟩
                · injection ho with ho
                  subst ho
                  refine .inl ⟨wanted_none rfl, ?_⟩
                  have e1 : ac.eval (.tmp 0) = .int .i64 f := hf 0 (by kernel_rfl)
                  exact opG_val (by simp [execOp, e1]) rfl (Chg.refl _)
                · injection ho with ho
                  subst ho
                  refine .inl ⟨wanted_none rfl, ?_⟩
                  have e1 : ac.eval (.tmp 50) = .int .i64 f := hg 2 (by kernel_rfl) (by decide)
                  refine opG_go 19 Try.f19 #[.tmp 50] #[22] rfl Try.func19 (by kernel_rfl) (by kernel_rfl) (by simp [e1]) (Calls.mono (modulusR_any f _) ?_)
                  rintro r u2 ⟨rfl, hc2⟩
                  exact ⟨_, rfl, rfl, hc2⟩
                · injection ho with ho
                  subst ho
                  refine .inl ⟨wanted_none rfl, ?_⟩
                  have e1 : ac.eval (.tmp 49) = .agg (num (mo f)) := hg 1 (by kernel_rfl) (by decide)
                  have e2 : ac.eval (.tmp 51) = .agg (num (mo f)) := hg 3 (by kernel_rfl) (by decide)
                  exact opG_val (by revert e1 e2; generalize ac.eval = ρ; intro e1 e2; simp [go_sem, execOp, e1, e2, eq_self (mo_N f)]) rfl (Chg.refl _)
                · injection ho with ho
                  subst ho
                  refine .inl ⟨wanted_none rfl, ?_⟩
                  have e1 : ac.eval (.tmp 52) = .bool true := hg 4 (by kernel_rfl) (by decide)
                  exact opG_val (by simp [execOp, e1]) rfl (Chg.refl _)
                · injection ho with ho
                  subst ho
                  refine .inl ⟨wanted_by (T := _) (by kernel_rfl) hsz rfl (by decide : 5 < 15) rfl (hg 5 (by kernel_rfl) (by decide)), ?_⟩
                  have e1 : ac.eval (.tmp 0) = .int .i64 f := hf 0 (by kernel_rfl)
                  exact opG_val (by simp [execOp, e1]) rfl (Chg.refl _)
                · injection ho with ho
                  subst ho
                  refine .inl ⟨wanted_by (T := _) (by kernel_rfl) hsz rfl (by decide : 5 < 15) rfl (hg 5 (by kernel_rfl) (by decide)), ?_⟩
                  have e1 : ac.eval (.tmp 4) = .pointer (some ⟨w.heap.size, 0, none⟩) := hf 4 (by kernel_rfl)
                  exact wp_load_mid 25 (.tmp 4) rfl _ _ e1 ((num a).toList) _ (rangeN (Ar.chg (w := w5.drew) Z5.out.2.1 hc)) Go.Proofs.Ytnahkcapbbjfdaa.u25 rfl (infoN _) ⟨_, rfl, rfl, Chg.refl _⟩
                · injection ho with ho
                  subst ho
                  refine .inl ⟨wanted_by (T := _) (by kernel_rfl) hsz rfl (by decide : 5 < 15) rfl (hg 5 (by kernel_rfl) (by decide)), ?_⟩
                  have e1 : ac.eval (.tmp 54) = .int .i64 f := hg 6 (by kernel_rfl) (by decide)
                  have e2 : ac.eval (.tmp 55) = .agg (num a) := hg 7 (by kernel_rfl) (by decide)
                  refine opG_go 20 Try.f20 #[.tmp 54, .tmp 55] #[22, 25] rfl Try.func20 (by kernel_rfl) (by kernel_rfl) (by simp [e1, e2]) (Calls.mono (right_any f a HAB.out.1 _) ?_)
                  rintro r u2 ⟨rfl, hc2⟩
                  exact ⟨_, rfl, rfl, hc2⟩
                · injection ho with ho
                  subst ho
                  refine .inl ⟨wanted_by (T := _) (by kernel_rfl) hsz rfl (by decide : 5 < 15) rfl (hg 5 (by kernel_rfl) (by decide)), ?_⟩
                  have e1 : ac.eval (.tmp 4) = .pointer (some ⟨w.heap.size, 0, none⟩) := hf 4 (by kernel_rfl)
                  exact wp_load_mid 25 (.tmp 4) rfl _ _ e1 ((num a).toList) _ (rangeN (Ar.chg (w := w5.drew) Z5.out.2.1 hc)) Go.Proofs.Ytnahkcapbbjfdaa.u25 rfl (infoN _) ⟨_, rfl, rfl, Chg.refl _⟩
                · injection ho with ho
                  subst ho
                  refine .inl ⟨wanted_by (T := _) (by kernel_rfl) hsz rfl (by decide : 5 < 15) rfl (hg 5 (by kernel_rfl) (by decide)), ?_⟩
                  have e1 : ac.eval (.tmp 0) = .int .i64 f := hf 0 (by kernel_rfl)
                  exact opG_val (by simp [execOp, e1]) rfl (Chg.refl _)
                · injection ho with ho
                  subst ho
                  refine .inl ⟨wanted_by (T := _) (by kernel_rfl) hsz rfl (by decide : 5 < 15) rfl (hg 5 (by kernel_rfl) (by decide)), ?_⟩
                  have e1 : ac.eval (.tmp 58) = .int .i64 f := hg 10 (by kernel_rfl) (by decide)
                  refine opG_go 19 Try.f19 #[.tmp 58] #[22] rfl Try.func19 (by kernel_rfl) (by kernel_rfl) (by simp [e1]) (Calls.mono (modulusR_any f _) ?_)
                  rintro r u2 ⟨rfl, hc2⟩
                  exact ⟨_, rfl, rfl, hc2⟩
                · injection ho with ho
                  subst ho
                  refine .inl ⟨wanted_by (T := _) (by kernel_rfl) hsz rfl (by decide : 5 < 15) rfl (hg 5 (by kernel_rfl) (by decide)), ?_⟩
                  have e1 : ac.eval (.tmp 57) = .agg (num a) := hg 9 (by kernel_rfl) (by decide)
                  have e2 : ac.eval (.tmp 59) = .agg (num (mo f)) := hg 11 (by kernel_rfl) (by decide)
                  refine opG_go 21 Try.f21 #[.tmp 57, .tmp 59] #[25, 25] rfl Try.func21 (by kernel_rfl) (by kernel_rfl) (by simp [e1, e2]) (Calls.mono (less_any a (mo f) HAB.out.1 (mo_N f) _) ?_)
                  rintro r u2 ⟨rfl, hc2⟩
                  exact ⟨_, rfl, rfl, hc2⟩
                · injection ho with ho
                  subst ho
                  refine .inl ⟨wanted_by (T := _) (by kernel_rfl) hsz rfl (by decide : 5 < 15) rfl (hg 5 (by kernel_rfl) (by decide)), ?_⟩
                  have e1 : ac.eval (.tmp 56) = .bool (decide (a < mo f)) := hg 8 (by kernel_rfl) (by decide)
                  have e2 : ac.eval (.tmp 60) = .bool (decide (a < mo f)) := hg 12 (by kernel_rfl) (by decide)
                  exact opG_val (by revert e1 e2; generalize ac.eval = ρ; intro e1 e2; simp [go_sem, execOp, e1, e2]) rfl (Chg.refl _)
                · injection ho with ho
                  subst ho
                  refine .inl ⟨wanted_none rfl, ?_⟩
                  have e1 : ac.eval (.tmp 53) = .bool true := hg 5 (by kernel_rfl) (by decide)
                  have e2 : ac.eval (.tmp 61) = .bool true := hg 13 (by kernel_rfl) (by decide)
                  have e3 : ac.eval (.const (.bool false)) = .bool false := rfl
                  exact opG_val (by revert e1 e2 e3; generalize ac.eval = ρ; intro e1 e2 e3; simp [go_sem, execOp, e1, e2, e3]) rfl (Chg.refl _)
              · intro o u V ho hV hc
                injection ho with ho
                subst ho
                refine ⟨rfl, ?_⟩
                have q48 : V 0 = .int .i64 f := hV 0 (by decide)
                have q49 : V 1 = .agg (num (mo f)) := hV 1 (by decide)
                have q50 : V 2 = .int .i64 f := hV 2 (by decide)
                have q51 : V 3 = .agg (num (mo f)) := hV 3 (by decide)
                have q52 : V 4 = .bool true := hV 4 (by decide)
                have q53 : V 5 = .bool true := hV 5 (by decide)
                have q54 : V 6 = .int .i64 f := hV 6 (by decide)
                have q55 : V 7 = .agg (num a) := hV 7 (by decide)
                have q56 : V 8 = .bool (decide (a < mo f)) := hV 8 (by decide)
                have q57 : V 9 = .agg (num a) := hV 9 (by decide)
                have q58 : V 10 = .int .i64 f := hV 10 (by decide)
                have q59 : V 11 = .agg (num (mo f)) := hV 11 (by decide)
                have q60 : V 12 = .bool (decide (a < mo f)) := hV 12 (by decide)
                have q61 : V 13 = .bool true := hV 13 (by decide)
                have q62 : V 14 = .bool true := hV 14 (by decide)
                refine op_asg (.tmp 62) (.bool true) rfl (Eq.trans (by rfl) q62) ?_
                go_wp2_with fail
                go_meet
                exact ⟨rfl, (Chg.refl w5).drew.trans hc⟩
          case rest =>
            obtain ⟨rfl, hcc⟩ := hcut
            obtain ⟨w6, hw6⟩ : ∃ w6, w6 = wc := ⟨_, rfl⟩
            have Z6 : Hid (Chg w w6 ∧ Ar w6 w.heap.size (num a) ∧ Ar w6 (w.heap.size + 1) (num b)) := by
              rw [hw6]
              exact ⟨Z5.out.1.trans hcc, Z5.out.2.1.chg hcc, Z5.out.2.2.chg hcc⟩
            rw [← hw6]
            clear hw6 hcc Z5
            go_wp2_with fail
            go_ret
            exact ⟨rfl, Z6.out.1⟩
end Go.Proofs.Ytnahkcapbbjfdaa
