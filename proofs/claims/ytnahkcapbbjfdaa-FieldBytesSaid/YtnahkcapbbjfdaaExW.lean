/-
  Powers of sums, and of the modulus less 1: FieldExps walked.
-/
import Derived.Test.YtnahkcapbbjfdaaExl
namespace Go.Proofs.Ytnahkcapbbjfdaa
open Go.RowKit
set_option linter.unusedVariables false

/-- What stands at the law's sums. -/
structure EX (w wr : World) (b1 b2 b3 : Nat) (A X Y S : Array Value) : Prop where
  chg : Chg w wr
  a5 : Ar wr w.heap.size A
  a1 : Ar wr b1 X
  a2 : Ar wr b2 Y
  a3 : Ar wr b3 S
theorem EX.to {w wr u : World} {b1 b2 b3 : Nat} {A X Y S : Array Value} (h : EX w wr b1 b2 b3 A X Y S) (k : Chg wr u) : EX w u b1 b2 b3 A X Y S := ⟨h.chg.trans k, h.a5.chg k, h.a1.chg k, h.a2.chg k, h.a3.chg k⟩
theorem new_row (w1 : World) (X : Array Value) : Ar ((w1.alloc (.cells (num 0) 25)).setRow w1.heap.size X) w1.heap.size X := (Ar.new w1 _ _).row _
theorem old_row {w1 : World} {b : Nat} {c : Array Value} (h : Ar w1 b c) (X : Array Value) : Ar ((w1.alloc (.cells (num 0) 25)).setRow w1.heap.size X) b c := (h.alloc _).rowOther (by have := h.lt; omega) _
theorem chg_row {w w1 : World} (h : Chg w w1) (X : Array Value) : Chg w ((w1.alloc (.cells (num 0) 25)).setRow w1.heap.size X) := (h.alloc _).setRow h.size _
theorem num_lit1 : num 1 = #[.int .u64 1, .int .u64 0, .int .u64 0, .int .u64 0] := by kernel_rfl
theorem N0 : N256 0 := ⟨by decide, by decide⟩

set_option maxRecDepth 100000 in
set_option maxHeartbeats 8000000 in
theorem exps_walk (k a x y : Int) (hk0 : -9223372036854775808 ≤ k) (hk1 : k < 9223372036854775808) (ha : N256 a) (hx : W64 x) (hy : W64 y) (w : World) :
    Calls Try.prog 8 #[.int .i64 k, .agg (num a), .int .u64 x, .int .u64 y] w fun r w' => r = .returned (.bool true) ∧ Chg w w' := by
  have hz := zero25.1
  have hsA := num_size a
  have HN : Hid (N256 a ∧ (-9223372036854775808 ≤ k ∧ k < 9223372036854775808)) := ⟨ha, hk0, hk1⟩
  obtain ⟨p, hp⟩ : ∃ p, x / 2 = p := ⟨_, rfl⟩
  obtain ⟨q, hq⟩ : ∃ q, y / 2 = q := ⟨_, rfl⟩
  have hB : B64 = 18446744073709551616 := rfl
  have hp1 : 0 ≤ p ∧ p < 9223372036854775808 := by have := hx.1; have := hx.2; omega
  have hq1 : 0 ≤ q ∧ q < 9223372036854775808 := by have := hy.1; have := hy.2; omega
  obtain ⟨s, hs⟩ : ∃ s, p + q = s := ⟨_, rfl⟩
  have wp : IntKind.u64.wrap p = p := by rw [IntKind.wrap_u64]; omega
  have wq : IntKind.u64.wrap q = q := by rw [IntKind.wrap_u64]; omega
  have ws : IntKind.u64.wrap s = s := by rw [IntKind.wrap_u64]; omega
  have e1 := num_setX (x := p) hp1.1 (by omega)
  have e2 := num_setX (x := q) hq1.1 (by omega)
  have e3 := num_setX (x := s) (by omega) (by omega)
  have np : N256 p := N_of64 hp1.1 (by omega)
  have nq : N256 q := N_of64 hq1.1 (by omega)
  have ns : N256 s := N_of64 (by omega) (by omega)
  have HP : Hid (N256 p ∧ N256 q ∧ N256 s ∧ p + q = s ∧ 0 ≤ p ∧ 0 ≤ q) := ⟨np, nq, ns, hs, hp1.1, hq1.1⟩
  obtain ⟨A, hA⟩ : ∃ A, A = num a := ⟨_, rfl⟩
  obtain ⟨X, hX⟩ : ∃ X, X = num p := ⟨_, rfl⟩
  obtain ⟨Y, hY⟩ : ∃ Y, Y = num q := ⟨_, rfl⟩
  obtain ⟨S, hS⟩ : ∃ S, S = num s := ⟨_, rfl⟩
  have HA : Hid (A = num a ∧ X = num p ∧ Y = num q ∧ S = num s) := ⟨hA, hX, hY, hS⟩
  have HL : Hid ((num 0).setIfInBounds 0 (.int .u64 p) = X ∧ (num 0).setIfInBounds 0 (.int .u64 q) = Y ∧ (num 0).setIfInBounds 0 (.int .u64 s) = S) := by
    rw [hX, hY, hS]
    exact ⟨e1, e2, e3⟩
  have HSz : Hid (((Try.prog.info? 25).map (·.size) = some X.size ∧ (num 0).size = X.size ∧ X.all (·.oneCell') = true) ∧ ((Try.prog.info? 25).map (·.size) = some Y.size ∧ (num 0).size = Y.size ∧ Y.all (·.oneCell') = true) ∧ ((Try.prog.info? 25).map (·.size) = some S.size ∧ (num 0).size = S.size ∧ S.all (·.oneCell') = true)) := by
    rw [hX, hY, hS]
    exact ⟨⟨szN _, lenN _ _, num_one _⟩, ⟨szN _, lenN _ _, num_one _⟩, szN _, lenN _ _, num_one _⟩
  have HI : Hid ((Try.prog.info? 25).map (·.size) = some A.toList.length ∧ (Try.prog.info? 25).map (·.size) = some X.toList.length ∧ (Try.prog.info? 25).map (·.size) = some Y.toList.length ∧ (Try.prog.info? 25).map (·.size) = some S.toList.length) := by
    rw [hA, hX, hY, hS]
    exact ⟨infoN _, infoN _, infoN _, infoN _⟩
  rw [← hA] at hsA ⊢
  clear hA hX hY hS e1 e2 e3 np nq ns ha hk0 hk1 hp1 hq1 hx hy hB
  go_enter Try.func8, Try.ntmps8
  go_wp2_with fail
  go_at_call 9
  refine (head_any _).mono ?_
  rintro r w1 ⟨rfl, hc1⟩
  have Z1 : Hid (Chg w w1 ∧ Ar w1 w.heap.size A) := ⟨((Chg.refl w).alloc _).trans hc1, (Ar.new w _ _).chg hc1⟩
  clear hc1 hsA
  go_wp2_with fail
  go_at_call 39
  refine (fields_any k HN.out.2.1 HN.out.2.2 _).mono ?_
  rintro r w2 ⟨f, rfl, hf, hc2⟩
  have HF : Hid (f = 1 ∨ f = 2 ∨ f = 3 ∨ f = 4) := hf
  have Z2 : Hid (Chg w w2 ∧ Ar w2 w.heap.size A) := ⟨Z1.out.1.trans hc2, Z1.out.2.chg hc2⟩
  clear hf hc2 Z1
  go_upto_region 4 with (first | (rw [HL.out.1]; refine wpList_store_row rfl 25 _ _ rfl _ _ rfl rfl _ _ (heap_alloc_last w2 _) HSz.out.1.1 HSz.out.1.2.1 HSz.out.1.2.2 ?_))
  obtain ⟨b1, hb1⟩ : ∃ b, b = w2.heap.size := ⟨_, rfl⟩
  obtain ⟨w3, hw3⟩ : ∃ w3, w3 = (w2.alloc (.cells (num 0) 25)).setRow w2.heap.size X := ⟨_, rfl⟩
  have Z3 : Hid (Chg w w3 ∧ Ar w3 w.heap.size A ∧ Ar w3 b1 X) := by
    rw [hw3, hb1]
    exact ⟨chg_row Z2.out.1 X, old_row Z2.out.2 X, new_row w2 X⟩
  rw [← hw3, ← hb1]
  clear hw3 hb1 Z2
  go_upto_region 5 with (first | (rw [HL.out.2.1]; refine wpList_store_row rfl 25 _ _ rfl _ _ rfl rfl _ _ (heap_alloc_last w3 _) HSz.out.2.1.1 HSz.out.2.1.2.1 HSz.out.2.1.2.2 ?_))
  obtain ⟨b2, hb2⟩ : ∃ b, b = w3.heap.size := ⟨_, rfl⟩
  obtain ⟨w4, hw4⟩ : ∃ w4, w4 = (w3.alloc (.cells (num 0) 25)).setRow w3.heap.size Y := ⟨_, rfl⟩
  have Z4 : Hid (Chg w w4 ∧ Ar w4 w.heap.size A ∧ Ar w4 b1 X ∧ Ar w4 b2 Y) := by
    rw [hw4, hb2]
    exact ⟨chg_row Z3.out.1 Y, old_row Z3.out.2.1 Y, old_row Z3.out.2.2 Y, new_row w3 Y⟩
  rw [← hw4, ← hb2]
  clear hw4 hb2 Z3
  go_upto_region 6 with (first | (rw [HL.out.2.2]; refine wpList_store_row rfl 25 _ _ rfl _ _ rfl rfl _ _ (heap_alloc_last w4 _) HSz.out.2.2.1 HSz.out.2.2.2.1 HSz.out.2.2.2.2 ?_))
  obtain ⟨b3, hb3⟩ : ∃ b, b = w4.heap.size := ⟨_, rfl⟩
  obtain ⟨w6, hw6⟩ : ∃ w6, w6 = (w4.alloc (.cells (num 0) 25)).setRow w4.heap.size S := ⟨_, rfl⟩
  have Z6 : Hid (EX w w6 b1 b2 b3 A X Y S) := by
    rw [hw6, hb3]
    exact ⟨chg_row Z4.out.1 S, old_row Z4.out.2.1 S, old_row Z4.out.2.2.1 S, old_row Z4.out.2.2.2 S, new_row w4 S⟩
  rw [← hw6, ← hb3]
  clear hw6 hb3 Z4
  obtain ⟨PX, hPX⟩ : ∃ P, P = num (a ^ p.toNat % mo f) := ⟨_, rfl⟩
  obtain ⟨PY, hPY⟩ : ∃ P, P = num (a ^ q.toNat % mo f) := ⟨_, rfl⟩
  obtain ⟨PS, hPS⟩ : ∃ P, P = num (a ^ s.toNat % mo f) := ⟨_, rfl⟩
  have HK : Hid ((∀ W, Calls Try.prog 22 #[.int .i64 f, .agg A, .agg X] W fun r w' => r = .returned (.agg PX) ∧ Chg W w') ∧ (∀ W, Calls Try.prog 22 #[.int .i64 f, .agg A, .agg Y] W fun r w' => r = .returned (.agg PY) ∧ Chg W w') ∧ (∀ W, Calls Try.prog 22 #[.int .i64 f, .agg A, .agg S] W fun r w' => r = .returned (.agg PS) ∧ Chg W w') ∧ (∀ W, Calls Try.prog 14 #[.int .i64 f, .agg PX, .agg PY] W fun r w' => r = .returned (.agg PS) ∧ Chg W w')) := by
    obtain ⟨c1, c2, c3, c4⟩ := HA.out
    obtain ⟨d1, d2, d3, d4, d5, d6⟩ := HP.out
    rw [c1, c2, c3, c4, hPX, hPY, hPS]
    refine ⟨fun W => exp_any f a p HF.out HN.out.1 d1 W, fun W => exp_any f a q HF.out HN.out.1 d2 W, fun W => exp_any f a s HF.out HN.out.1 d3 W, fun W => ?_⟩
    have := mul_any f (a ^ p.toNat % mo f) (a ^ q.toNat % mo f) HF.out (N_mod HF.out _) (N_mod HF.out _) W
    rw [pw_add a (mo f) p q d5 d6, d4] at this
    exact this
  have HEq : Hid (∀ u, (Op.equalIn 10000 25 (.agg PS) (.agg PS)).run Try.prog u = .ok true u) := fun u => by
    rw [hPS, run_eqNum (N_mod HF.out _) (N_mod HF.out _), decide_eq_true rfl]
  clear hPX hPY hPS
  try dsimp only [Act.put]
  go_cut [14] from 33 to 47 (fun v wc => v = .bool true ∧ Chg w6 wc)
  case first =>
    refine wp_region_good 15 (fun j v wg => match j with
      | 0 => v = .int .i64 f
      | 1 => v = .int .i64 f
      | 2 => v = .agg A
      | 3 => v = .agg X
      | 4 => v = .agg PX
      | 5 => v = .int .i64 f
      | 6 => v = .agg A
      | 7 => v = .agg Y
      | 8 => v = .agg PY
      | 9 => v = .agg PS
      | 10 => v = .int .i64 f
      | 11 => v = .agg A
      | 12 => v = .agg S
      | 13 => v = .agg PS
      | 14 => v = .bool true
      | _ => True) (by kernel_rfl) (by kernel_rfl) (by kernel_rfl) (by kernel_rfl) (by kernel_rfl) ?_ ?_ ?_
    · intro j v u1 u2 h hc
      match j, h with
      | 0, h => exact h
      | 1, h => exact h
      | 2, h => exact h
      | 3, h => exact h
      | 4, h => exact h
      | 5, h => exact h
      | 6, h => exact h
      | 7, h => exact h
      | 8, h => exact h
      | 9, h => exact h
      | 10, h => exact h
      | 11, h => exact h
      | 12, h => exact h
      | 13, h => exact h
      | 14, h => exact h
      | _ + 15, h => exact trivial
    · intro i o ac u hi ho hsz hf hg hc
      have hcs : i = 0 ∨ i = 1 ∨ i = 2 ∨ i = 3 ∨ i = 4 ∨ i = 5 ∨ i = 6 ∨ i = 7 ∨ i = 8 ∨ i = 9 ∨ i = 10 ∨ i = 11 ∨ i = 12 ∨ i = 13 ∨ i = 14 := by omega
      rcases hcs with rfl | rfl | rfl | rfl | rfl | rfl | rfl | rfl | rfl | rfl | rfl | rfl | rfl | rfl | rfl
      · injection ho with ho
        subst ho
        refine .inl ⟨wanted_none rfl, ?_⟩
        have e1 : ac.eval (.tmp 10) = .int .i64 f := hf 10 (by kernel_rfl)
        exact opG_val (by simp [execOp, e1]) rfl (Chg.refl _)
      · injection ho with ho
        subst ho
        refine .inl ⟨wanted_none rfl, ?_⟩
        have e1 : ac.eval (.tmp 10) = .int .i64 f := hf 10 (by kernel_rfl)
        exact opG_val (by simp [execOp, e1]) rfl (Chg.refl _)
      · injection ho with ho
        subst ho
        refine .inl ⟨wanted_none rfl, ?_⟩
        have e1 : ac.eval (.tmp 5) = .pointer (some ⟨w.heap.size, 0, none⟩) := hf 5 (by kernel_rfl)
        exact wp_load_mid 25 (.tmp 5) rfl _ _ e1 (A.toList) _ (rangeA (Ar.chg (w := w6.drew) Z6.out.a5 hc)) Go.Proofs.Ytnahkcapbbjfdaa.u25 rfl (HI.out.1) ⟨_, rfl, rfl, Chg.refl _⟩
      · injection ho with ho
        subst ho
        refine .inl ⟨wanted_none rfl, ?_⟩
        have e1 : ac.eval (.tmp 11) = .pointer (some ⟨b1, 0, none⟩) := hf 11 (by kernel_rfl)
        exact wp_load_mid 25 (.tmp 11) rfl _ _ e1 (X.toList) _ (rangeA (Ar.chg (w := w6.drew) Z6.out.a1 hc)) Go.Proofs.Ytnahkcapbbjfdaa.u25 rfl (HI.out.2.1) ⟨_, rfl, rfl, Chg.refl _⟩
      · injection ho with ho
        subst ho
        refine .inl ⟨wanted_none rfl, ?_⟩
        have e1 : ac.eval (.tmp 34) = .int .i64 f := hg 1 (by kernel_rfl) (by decide)
        have e2 : ac.eval (.tmp 35) = .agg A := hg 2 (by kernel_rfl) (by decide)
        have e3 : ac.eval (.tmp 36) = .agg X := hg 3 (by kernel_rfl) (by decide)
        refine opG_go 22 Try.f22 #[.tmp 34, .tmp 35, .tmp 36] #[22, 25, 25] rfl Try.func22 (by kernel_rfl) (by kernel_rfl) (by simp [e1, e2, e3]) (Calls.mono (HK.out.1 _) ?_)
        rintro e u2 ⟨rfl, hc2⟩
        exact ⟨_, rfl, rfl, hc2⟩
      · injection ho with ho
        subst ho
        refine .inl ⟨wanted_none rfl, ?_⟩
        have e1 : ac.eval (.tmp 10) = .int .i64 f := hf 10 (by kernel_rfl)
        exact opG_val (by simp [execOp, e1]) rfl (Chg.refl _)
      · injection ho with ho
        subst ho
        refine .inl ⟨wanted_none rfl, ?_⟩
        have e1 : ac.eval (.tmp 5) = .pointer (some ⟨w.heap.size, 0, none⟩) := hf 5 (by kernel_rfl)
        exact wp_load_mid 25 (.tmp 5) rfl _ _ e1 (A.toList) _ (rangeA (Ar.chg (w := w6.drew) Z6.out.a5 hc)) Go.Proofs.Ytnahkcapbbjfdaa.u25 rfl (HI.out.1) ⟨_, rfl, rfl, Chg.refl _⟩
      · injection ho with ho
        subst ho
        refine .inl ⟨wanted_none rfl, ?_⟩
        have e1 : ac.eval (.tmp 12) = .pointer (some ⟨b2, 0, none⟩) := hf 12 (by kernel_rfl)
        exact wp_load_mid 25 (.tmp 12) rfl _ _ e1 (Y.toList) _ (rangeA (Ar.chg (w := w6.drew) Z6.out.a2 hc)) Go.Proofs.Ytnahkcapbbjfdaa.u25 rfl (HI.out.2.2.1) ⟨_, rfl, rfl, Chg.refl _⟩
      · injection ho with ho
        subst ho
        refine .inl ⟨wanted_none rfl, ?_⟩
        have e1 : ac.eval (.tmp 38) = .int .i64 f := hg 5 (by kernel_rfl) (by decide)
        have e2 : ac.eval (.tmp 39) = .agg A := hg 6 (by kernel_rfl) (by decide)
        have e3 : ac.eval (.tmp 40) = .agg Y := hg 7 (by kernel_rfl) (by decide)
        refine opG_go 22 Try.f22 #[.tmp 38, .tmp 39, .tmp 40] #[22, 25, 25] rfl Try.func22 (by kernel_rfl) (by kernel_rfl) (by simp [e1, e2, e3]) (Calls.mono (HK.out.2.1 _) ?_)
        rintro e u2 ⟨rfl, hc2⟩
        exact ⟨_, rfl, rfl, hc2⟩
      · injection ho with ho
        subst ho
        refine .inl ⟨wanted_none rfl, ?_⟩
        have e1 : ac.eval (.tmp 33) = .int .i64 f := hg 0 (by kernel_rfl) (by decide)
        have e2 : ac.eval (.tmp 37) = .agg PX := hg 4 (by kernel_rfl) (by decide)
        have e3 : ac.eval (.tmp 41) = .agg PY := hg 8 (by kernel_rfl) (by decide)
        refine opG_go 14 Try.f14 #[.tmp 33, .tmp 37, .tmp 41] #[22, 25, 25] rfl Try.func14 (by kernel_rfl) (by kernel_rfl) (by simp [e1, e2, e3]) (Calls.mono (HK.out.2.2.2 _) ?_)
        rintro e u2 ⟨rfl, hc2⟩
        exact ⟨_, rfl, rfl, hc2⟩
      · injection ho with ho
        subst ho
        refine .inl ⟨wanted_none rfl, ?_⟩
        have e1 : ac.eval (.tmp 10) = .int .i64 f := hf 10 (by kernel_rfl)
        exact opG_val (by simp [execOp, e1]) rfl (Chg.refl _)
      · injection ho with ho
        subst ho
        refine .inl ⟨wanted_none rfl, ?_⟩
        have e1 : ac.eval (.tmp 5) = .pointer (some ⟨w.heap.size, 0, none⟩) := hf 5 (by kernel_rfl)
        exact wp_load_mid 25 (.tmp 5) rfl _ _ e1 (A.toList) _ (rangeA (Ar.chg (w := w6.drew) Z6.out.a5 hc)) Go.Proofs.Ytnahkcapbbjfdaa.u25 rfl (HI.out.1) ⟨_, rfl, rfl, Chg.refl _⟩
      · injection ho with ho
        subst ho
        refine .inl ⟨wanted_none rfl, ?_⟩
        have e1 : ac.eval (.tmp 13) = .pointer (some ⟨b3, 0, none⟩) := hf 13 (by kernel_rfl)
        exact wp_load_mid 25 (.tmp 13) rfl _ _ e1 (S.toList) _ (rangeA (Ar.chg (w := w6.drew) Z6.out.a3 hc)) Go.Proofs.Ytnahkcapbbjfdaa.u25 rfl (HI.out.2.2.2) ⟨_, rfl, rfl, Chg.refl _⟩
      · injection ho with ho
        subst ho
        refine .inl ⟨wanted_none rfl, ?_⟩
        have e1 : ac.eval (.tmp 43) = .int .i64 f := hg 10 (by kernel_rfl) (by decide)
        have e2 : ac.eval (.tmp 44) = .agg A := hg 11 (by kernel_rfl) (by decide)
        have e3 : ac.eval (.tmp 45) = .agg S := hg 12 (by kernel_rfl) (by decide)
        refine opG_go 22 Try.f22 #[.tmp 43, .tmp 44, .tmp 45] #[22, 25, 25] rfl Try.func22 (by kernel_rfl) (by kernel_rfl) (by simp [e1, e2, e3]) (Calls.mono (HK.out.2.2.1 _) ?_)
        rintro e u2 ⟨rfl, hc2⟩
        exact ⟨_, rfl, rfl, hc2⟩
      · injection ho with ho
        subst ho
        refine .inl ⟨wanted_none rfl, ?_⟩
        have e1 : ac.eval (.tmp 42) = .agg PS := hg 9 (by kernel_rfl) (by decide)
        have e2 : ac.eval (.tmp 46) = .agg PS := hg 13 (by kernel_rfl) (by decide)
        exact opG_val (by revert e1 e2; generalize ac.eval = ρ; intro e1 e2; simp [go_sem, execOp, e1, e2, HEq.out]) rfl (Chg.refl _)
    · intro o u V ho hV hc
      injection ho with ho
      subst ho
      refine ⟨rfl, ?_⟩
      have q33 : V 0 = .int .i64 f := hV 0 (by decide)
      have q34 : V 1 = .int .i64 f := hV 1 (by decide)
      have q35 : V 2 = .agg A := hV 2 (by decide)
      have q36 : V 3 = .agg X := hV 3 (by decide)
      have q37 : V 4 = .agg PX := hV 4 (by decide)
      have q38 : V 5 = .int .i64 f := hV 5 (by decide)
      have q39 : V 6 = .agg A := hV 6 (by decide)
      have q40 : V 7 = .agg Y := hV 7 (by decide)
      have q41 : V 8 = .agg PY := hV 8 (by decide)
      have q42 : V 9 = .agg PS := hV 9 (by decide)
      have q43 : V 10 = .int .i64 f := hV 10 (by decide)
      have q44 : V 11 = .agg A := hV 11 (by decide)
      have q45 : V 12 = .agg S := hV 12 (by decide)
      have q46 : V 13 = .agg PS := hV 13 (by decide)
      have q47 : V 14 = .bool true := hV 14 (by decide)
      refine op_val1 (v := .bool true) (by rw [← q47]; rfl) ?_
      go_wp2_with fail
      go_meet
      exact ⟨rfl, (Chg.refl w6).drew.trans hc⟩
  case rest =>
    obtain ⟨rfl, c6⟩ := hcut
    obtain ⟨w7, hw7⟩ : ∃ w7, w7 = wc := ⟨_, rfl⟩
    have Z7 : Hid (Chg w w7 ∧ Ar w7 w.heap.size A) := by
      rw [hw7]
      exact ⟨Z6.out.chg.trans c6, Z6.out.a5.chg c6⟩
    rw [← hw7]
    clear hw7 c6 Z6 HK HEq
    clear PX PY PS
    obtain ⟨d, e, hd, he, hw, hl, hl2⟩ := mo_dec HF.out
    obtain ⟨M, hM⟩ : ∃ M, M = num (mo f) := ⟨_, rfl⟩
    obtain ⟨M1, hM1⟩ : ∃ M, M = num (mo f - 1) := ⟨_, rfl⟩
    obtain ⟨L, hL⟩ : ∃ L, L = num (a ^ (mo f - 1).toNat % mo f) := ⟨_, rfl⟩
    have HM : Hid (M = num (mo f) ∧ M1 = num (mo f - 1) ∧ dg B64 (mo f) 0 = d ∧ M.setIfInBounds 0 (.int .u64 e) = M1) := ⟨hM, hM1, hd, by rw [hM, hM1]; exact hl⟩
    have HK : Hid ((∀ W, Calls Try.prog 18 #[.int .i64 f] W fun r w' => r = .returned (.agg M) ∧ Chg W w') ∧ (∀ W, Calls Try.prog 22 #[.int .i64 f, .agg A, .agg M1] W fun r w' => r = .returned (.agg L) ∧ Chg W w') ∧ (∀ W, Calls Try.prog 14 #[.int .i64 f, .agg A, .agg (num 1)] W fun r w' => r = .returned (.agg (num (a % mo f))) ∧ Chg W w')) := by
      rw [hM, hM1, hL, HA.out.1]
      refine ⟨fun W => modulus_any f W, fun W => exp_any f a (mo f - 1) HF.out HN.out.1 hl2 W, fun W => ?_⟩
      have := mul_any f a 1 HF.out HN.out.1 N1 W
      rwa [Int.mul_one] at this
    have HS2 : Hid (((Try.prog.info? 25).map (·.size) = some M.size ∧ (num 0).size = M.size ∧ M.all (·.oneCell') = true) ∧ ((Try.prog.info? 25).map (·.size) = some L.size ∧ (num 0).size = L.size ∧ L.all (·.oneCell') = true)) := by
      rw [hM, hL]
      exact ⟨⟨szN _, lenN _ _, num_one _⟩, szN _, lenN _ _, num_one _⟩
    have HI2 : Hid ((Try.prog.info? 25).map (·.size) = some M1.toList.length) := by
      rw [hM1]
      exact infoN _
    have HLast : Hid (L = num (a ^ (mo f - 1).toNat % mo f)) := hL
    clear hd hM hM1 hL hl hl2
    go_wp2_with fail
    go_at_call 18
    refine (HK.out.1 _).mono ?_
    rintro r w8 ⟨rfl, hc8⟩
    have Z8 : Hid (Chg w w8 ∧ Ar w8 w.heap.size A) := ⟨Z7.out.1.trans hc8, Z7.out.2.chg hc8⟩
    clear hc8 Z7
    go_upto_region 8 with (first | refine wpList_store_row rfl 25 _ _ rfl _ _ rfl rfl _ _ (heap_alloc_last w8 _) HS2.out.1.1 HS2.out.1.2.1 HS2.out.1.2.2 ?_)
    obtain ⟨b5, hb5⟩ : ∃ b, b = w8.heap.size := ⟨_, rfl⟩
    obtain ⟨w9, hw9⟩ : ∃ w9, w9 = (w8.alloc (.cells (num 0) 25)).setRow w8.heap.size M := ⟨_, rfl⟩
    have Z9 : Hid (Chg w w9 ∧ Ar w9 w.heap.size A ∧ Ar w9 b5 M ∧ w.heap.size < b5) := by
      have := Z8.out.2.lt
      rw [hw9, hb5]
      exact ⟨chg_row Z8.out.1 M, old_row Z8.out.2 M, new_row w8 M, this⟩
    rw [← hw9, ← hb5]
    clear hw9 hb5 Z8
    have c0 : w9.cell? ⟨b5, 0, none⟩ = some (.int .u64 d) := by
      rw [← HM.out.2.2.1]
      have h := Z9.out.2.2.1
      rw [HM.out.1] at h
      exact (h.cell 0).trans (arr_get _ _ _ (by decide))
    have f0 := Z9.out.2.2.1.frozen 0
    go_upto_region 9 with fail
    obtain ⟨w10, hw10⟩ : ∃ w10, w10 = w9.setCell ⟨b5, 0, none⟩ (.int .u64 e) := ⟨_, rfl⟩
    have Z10 : Hid (Chg w w10 ∧ Ar w10 w.heap.size A ∧ Ar w10 b5 M1) := by
      obtain ⟨q1, q2, q3, q4⟩ := Z9.out
      rw [hw10, ← HM.out.2.2.2]
      exact ⟨q1.setCell (by dsimp only; omega) _, q2.other (by dsimp only; omega) _, q3.set 0 _⟩
    rw [← hw10]
    clear hw10 c0 f0 Z9
    have r5 := rangeA Z10.out.2.1
    have r15 := rangeA Z10.out.2.2
    have iA := HI.out.1
    have iM := HI2.out
    go_wp2_with (first
      | refine wpList_load_mid rfl 25 (.tmp 5) rfl _ _ rfl (A.toList) _ r5 Go.Proofs.Ytnahkcapbbjfdaa.u25 rfl iA ?_
      | refine wpList_load_mid rfl 25 (.tmp 15) rfl _ _ rfl (M1.toList) _ r15 Go.Proofs.Ytnahkcapbbjfdaa.u25 rfl iM ?_)
    go_at_call 22
    refine (HK.out.2.1 _).mono ?_
    rintro r w11 ⟨rfl, hc11⟩
    have Z11 : Hid (Chg w w11 ∧ Ar w11 w.heap.size A) := ⟨Z10.out.1.trans hc11, Z10.out.2.1.chg hc11⟩
    clear hc11 Z10 r5 r15 iA iM
    go_upto_region 10 with (first | refine wpList_store_row rfl 25 _ _ rfl _ _ rfl rfl _ _ (heap_alloc_last w11 _) HS2.out.2.1 HS2.out.2.2.1 HS2.out.2.2.2 ?_)
    obtain ⟨b6, hb6⟩ : ∃ b, b = w11.heap.size := ⟨_, rfl⟩
    obtain ⟨w12, hw12⟩ : ∃ w12, w12 = (w11.alloc (.cells (num 0) 25)).setRow w11.heap.size L := ⟨_, rfl⟩
    have Z12 : Hid (Chg w w12 ∧ Ar w12 w.heap.size A ∧ Ar w12 b6 L) := by
      rw [hw12, hb6]
      exact ⟨chg_row Z11.out.1 L, old_row Z11.out.2 L, new_row w11 L⟩
    rw [← hw12, ← hb6]
    clear hw12 hb6 Z11
    have r5 := rangeA Z12.out.2.1
    have iA := HI.out.1
    go_wp2_with (first
      | refine wpList_load_mid rfl 25 (.tmp 5) rfl _ _ rfl (A.toList) _ r5 Go.Proofs.Ytnahkcapbbjfdaa.u25 rfl iA ?_)
    rw [num_set1]
    go_at_call 14
    refine (HK.out.2.2 _).mono ?_
    rintro r w13 ⟨rfl, hc13⟩
    have Z13 : Hid (Chg w w13 ∧ Ar w13 b6 L) := ⟨Z12.out.1.trans hc13, Z12.out.2.2.chg hc13⟩
    clear hc13 Z12 r5 iA
    have hq2 := fun u => run_eqNum (x := a % mo f) (y := 0) (N_mod HF.out _) N0 u
    by_cases h0 : a % mo f = 0
    · have hL0 : L = num 0 := by rw [HLast.out, last_none HF.out h0]
      have h3 := Z13.out.2
      rw [hL0] at h3
      obtain ⟨x0, x1, x2, x3⟩ := Ar.four (d := dg B64 0) h3
      rw [show dg B64 0 0 = 0 by decide +kernel] at x0
      rw [show dg B64 0 1 = 0 by decide +kernel] at x1
      rw [show dg B64 0 2 = 0 by decide +kernel] at x2
      rw [show dg B64 0 3 = 0 by decide +kernel] at x3
      have g1 : ∀ u, (Op.equalIn 10000 25 (.agg #[.int .u64 0, .int .u64 0, .int .u64 0, .int .u64 0]) (.agg (num 0))).run Try.prog u = .ok true u := fun u => by
        rw [← num_0, run_eqNum N0 N0, decide_eq_true rfl]
      rw [h0] at hq2 ⊢
      have hq3 : ∀ u, (Op.equalIn 10000 25 (.agg (num 0)) (.agg (num 0))).run Try.prog u = .ok true u := fun u => by rw [hq2 u, decide_eq_true rfl]
      clear h3 hq2 h0 hL0
      go_wp2_with fail
      go_ret
      exact ⟨rfl, Z13.out.1⟩
    · have hL0 : L = num 1 := by rw [HLast.out, last_one HF.out HN.out.1.1 h0]
      have h3 := Z13.out.2
      rw [hL0] at h3
      obtain ⟨x0, x1, x2, x3⟩ := Ar.four (d := dg B64 1) h3
      rw [show dg B64 1 0 = 1 by decide +kernel] at x0
      rw [show dg B64 1 1 = 0 by decide +kernel] at x1
      rw [show dg B64 1 2 = 0 by decide +kernel] at x2
      rw [show dg B64 1 3 = 0 by decide +kernel] at x3
      have g1 : ∀ u, (Op.equalIn 10000 25 (.agg #[.int .u64 1, .int .u64 0, .int .u64 0, .int .u64 0]) (.agg ((num 0).setIfInBounds 0 (.int .u64 1)))).run Try.prog u = .ok true u := fun u => by
        rw [num_set1, ← num_lit1, run_eqNum N1 N1, decide_eq_true rfl]
      obtain ⟨R, hR⟩ : ∃ R, R = num (a % mo f) := ⟨_, rfl⟩
      have hq3 : ∀ u, (Op.equalIn 10000 25 (.agg R) (.agg (num 0))).run Try.prog u = .ok false u := fun u => by rw [hR, hq2 u, decide_eq_false h0]
      rw [← hR]
      clear h3 hq2 h0 hL0 hR
      go_wp2_with fail
      go_ret
      exact ⟨rfl, Z13.out.1⟩
end Go.Proofs.Ytnahkcapbbjfdaa
