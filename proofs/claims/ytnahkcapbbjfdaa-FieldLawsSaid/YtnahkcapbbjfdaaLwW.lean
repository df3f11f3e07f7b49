/-
  It is a field: FieldLaws walked.
-/
import Derived.Test.YtnahkcapbbjfdaaLw
namespace Go.Proofs.Ytnahkcapbbjfdaa
open Go.RowKit
set_option linter.unusedVariables false

theorem num_ne0 : (num 0 = #[]) = False := by
  refine eq_false fun h => ?_
  have := congrArg Array.size h
  rw [num_size] at this
  cases this

set_option maxRecDepth 100000 in
set_option maxHeartbeats 8000000 in
theorem laws_walk (k a b c : Int) (hk0 : -9223372036854775808 ≤ k) (hk1 : k < 9223372036854775808) (ha : N256 a) (hb : N256 b) (hc : N256 c) (w : World) :
    Calls Try.prog 7 #[.int .i64 k, .agg (num a), .agg (num b), .agg (num c)] w fun r w' => r = .returned (.bool true) ∧ Chg w w' := by
  have hz := zero25.1
  have hsA := num_size a
  have hsB := num_size b
  have hsC := num_size c
  have HN : Hid ((N256 a ∧ N256 b ∧ N256 c) ∧ (-9223372036854775808 ≤ k ∧ k < 9223372036854775808)) := ⟨⟨ha, hb, hc⟩, hk0, hk1⟩
  obtain ⟨A, hA⟩ : ∃ A, A = num a := ⟨_, rfl⟩
  obtain ⟨B, hB⟩ : ∃ A, A = num b := ⟨_, rfl⟩
  obtain ⟨C, hC⟩ : ∃ A, A = num c := ⟨_, rfl⟩
  have HA : Hid (A = num a ∧ B = num b ∧ C = num c) := ⟨hA, hB, hC⟩
  rw [← hA] at hsA ⊢
  rw [← hB] at hsB ⊢
  rw [← hC] at hsC ⊢
  clear hA hB hC ha hb hc hk0 hk1
  go_enter Try.func7, Try.ntmps7
  go_wp2_with fail
  go_at_call 9
  refine (head_any _).mono ?_
  rintro r w1 ⟨rfl, hc1⟩
  have Z1 : Hid (Chg w w1 ∧ Ar w1 w.heap.size A ∧ Ar w1 (w.heap.size + 1) B ∧ Ar w1 (w.heap.size + 1 + 1) C) :=
    ⟨((((Chg.refl w).alloc _).alloc _).alloc _).trans hc1, (((Ar.new w _ _).alloc _).alloc _).chg hc1, ((Ar.new1 w _ _ _).alloc _).chg hc1, (Ar.new2 w _ _ _ _).chg hc1⟩
  clear hc1 hsA hsB hsC
  go_wp2_with fail
  go_at_call 39
  refine (fields_any k HN.out.2.1 HN.out.2.2 _).mono ?_
  rintro r w2 ⟨f, rfl, hf, hc2⟩
  have HF : Hid (f = 1 ∨ f = 2 ∨ f = 3 ∨ f = 4) := hf
  have Z2 : Hid (Chg w w2 ∧ Ar w2 w.heap.size A ∧ Ar w2 (w.heap.size + 1) B ∧ Ar w2 (w.heap.size + 1 + 1) C) := ⟨Z1.out.1.trans hc2, Z1.out.2.1.chg hc2, Z1.out.2.2.1.chg hc2, Z1.out.2.2.2.chg hc2⟩
  clear hf hc2 Z1
  obtain ⟨AB, hAB⟩ : ∃ A, A = num ((a + b) % mo f) := ⟨_, rfl⟩
  obtain ⟨ABC, hABC⟩ : ∃ A, A = num ((a + b + c) % mo f) := ⟨_, rfl⟩
  obtain ⟨BC, hBC⟩ : ∃ A, A = num ((b + c) % mo f) := ⟨_, rfl⟩
  obtain ⟨MM, hMM⟩ : ∃ A, A = num (a * b % mo f) := ⟨_, rfl⟩
  obtain ⟨MMC, hMMC⟩ : ∃ A, A = num (a * b * c % mo f) := ⟨_, rfl⟩
  obtain ⟨BM, hBM⟩ : ∃ A, A = num (b * c % mo f) := ⟨_, rfl⟩
  obtain ⟨SH, hSH⟩ : ∃ A, A = num ((a + b) * c % mo f) := ⟨_, rfl⟩
  obtain ⟨AC, hAC⟩ : ∃ A, A = num (a * c % mo f) := ⟨_, rfl⟩
  obtain ⟨AR, hAR⟩ : ∃ A, A = num (a % mo f) := ⟨_, rfl⟩
  obtain ⟨IV, hIV⟩ : ∃ A, A = num (a ^ (mo f - 2).toNat % mo f) := ⟨_, rfl⟩
  obtain ⟨one, hone⟩ : ∃ one, one = (if a % mo f = 0 then (0 : Int) else 1) := ⟨_, rfl⟩
  have HK : Hid (LK f A B C AB ABC BC MM MMC BM SH AC AR IV one) := by
    rw [HA.out.1, HA.out.2.1, HA.out.2.2, hAB, hABC, hBC, hMM, hMMC, hBM, hSH, hAC, hAR, hIV, hone]
    exact law_calls HF.out HN.out.1.1 HN.out.1.2.1 HN.out.1.2.2
  have HQ : Hid (LQ AB ABC MM MMC SH AR) := by
    rw [hAB, hABC, hMM, hMMC, hSH, hAR]
    have N : ∀ x, N256 (x % mo f) := N_mod HF.out
    exact ⟨eq_self (N _), eq_self (N _), eq_self (N _), eq_self (N _), eq_self (N _), eq_self (N _)⟩
  have HI : Hid ((Try.prog.info? 25).map (·.size) = some A.toList.length ∧ (Try.prog.info? 25).map (·.size) = some B.toList.length ∧ (Try.prog.info? 25).map (·.size) = some C.toList.length ∧ (Try.prog.info? 25).map (·.size) = some AB.toList.length ∧ (Try.prog.info? 25).map (·.size) = some MM.toList.length) := by
    rw [HA.out.1, HA.out.2.1, HA.out.2.2, hAB, hMM]
    exact ⟨infoN _, infoN _, infoN _, infoN _, infoN _⟩
  have HSz : Hid (((Try.prog.info? 25).map (·.size) = some AB.size ∧ (num 0).size = AB.size ∧ AB.all (·.oneCell') = true) ∧ ((Try.prog.info? 25).map (·.size) = some MM.size ∧ (num 0).size = MM.size ∧ MM.all (·.oneCell') = true)) := by
    rw [hAB, hMM]
    exact ⟨⟨szN _, lenN _ _, num_one _⟩, szN _, lenN _ _, num_one _⟩
  have HE : Hid (MM = num (a * b % mo f) ∧ AR = num (a % mo f) ∧ one = (if a % mo f = 0 then (0 : Int) else 1)) := ⟨hMM, hAR, hone⟩
  clear hone hAB hABC hBC hMM hMMC hBM hSH hAC hAR hIV
  have r5 := rangeA Z2.out.2.1
  have r6 := rangeA Z2.out.2.2.1
  have iA := HI.out.1
  have iB := HI.out.2.1
  go_wp2_with (first
    | refine wpList_load_mid rfl 25 (.tmp 5) rfl _ _ rfl (A.toList) _ r5 Go.Proofs.Ytnahkcapbbjfdaa.u25 rfl iA ?_
    | refine wpList_load_mid rfl 25 (.tmp 6) rfl _ _ rfl (B.toList) _ r6 Go.Proofs.Ytnahkcapbbjfdaa.u25 rfl iB ?_)
  go_at_call 10
  refine (HK.out.ab0 _).mono ?_
  rintro r w3 ⟨rfl, hc3⟩
  have Z3 : Hid (Chg w w3 ∧ Ar w3 w.heap.size A ∧ Ar w3 (w.heap.size + 1) B ∧ Ar w3 (w.heap.size + 1 + 1) C) := ⟨Z2.out.1.trans hc3, Z2.out.2.1.chg hc3, Z2.out.2.2.1.chg hc3, Z2.out.2.2.2.chg hc3⟩
  clear hc3 Z2 r5 r6 iA iB
  go_upto_region 4 with (first | refine wpList_store_row rfl 25 _ _ rfl _ _ rfl rfl _ _ (heap_alloc_last w3 _) HSz.out.1.1 HSz.out.1.2.1 HSz.out.1.2.2 ?_)
  obtain ⟨b1, hb1⟩ : ∃ b, b = w3.heap.size := ⟨_, rfl⟩
  obtain ⟨w4, hw4⟩ : ∃ w4, w4 = (w3.alloc (.cells (num 0) 25)).setRow w3.heap.size AB := ⟨_, rfl⟩
  have Z4 : Hid (L1 w w4 b1 A B C AB) := by
    rw [hw4, hb1]
    exact ⟨chg_row Z3.out.1 AB, old_row Z3.out.2.1 AB, old_row Z3.out.2.2.1 AB, old_row Z3.out.2.2.2 AB, new_row w3 AB⟩
  rw [← hw4, ← hb1]
  clear hw4 hb1 Z3
  try dsimp only [Act.put]
  go_cut [12] from 27 to 46 (fun v wc => v = .bool true ∧ Chg w4 wc)
  case first =>
    refine wp_region_good 20 (fun j v wg => match j with
      | 0 => v = .agg AB
      | 1 => v = .int .i64 f
      | 2 => v = .agg B
      | 3 => v = .agg A
      | 4 => v = .agg AB
      | 5 => v = .bool true
      | 6 => v = .bool true
      | 7 => v = .int .i64 f
      | 8 => v = .agg AB
      | 9 => v = .agg C
      | 10 => v = .agg ABC
      | 11 => v = .int .i64 f
      | 12 => v = .agg A
      | 13 => v = .int .i64 f
      | 14 => v = .agg B
      | 15 => v = .agg C
      | 16 => v = .agg BC
      | 17 => v = .agg ABC
      | 18 => v = .bool true
      | 19 => v = .bool true
      | _ => True) (by kernel_rfl) (by kernel_rfl) (by kernel_rfl) (by kernel_rfl) (by kernel_rfl) ?_ ?_ ?_
    · intro j v u1 u2 h hc
      match j, h with
      | 0, h => exact h
      | 1, h => exact h
      | 2, h => exact h
      | 3, h => exact h
      | 4, h => exact h
      | 5, h => exact h
      | 6, h => exact h
      | 7, h => exact h
      | 8, h => exact h
      | 9, h => exact h
      | 10, h => exact h
      | 11, h => exact h
      | 12, h => exact h
      | 13, h => exact h
      | 14, h => exact h
      | 15, h => exact h
      | 16, h => exact h
      | 17, h => exact h
      | 18, h => exact h
      | 19, h => exact h
      | _ + 20, h => exact trivial
    · intro i o ac u hi ho hsz hf hg hc
      have hcs : i = 0 ∨ i = 1 ∨ i = 2 ∨ i = 3 ∨ i = 4 ∨ i = 5 ∨ i = 6 ∨ i = 7 ∨ i = 8 ∨ i = 9 ∨ i = 10 ∨ i = 11 ∨ i = 12 ∨ i = 13 ∨ i = 14 ∨ i = 15 ∨ i = 16 ∨ i = 17 ∨ i = 18 ∨ i = 19 := by omega
      rcases hcs with rfl | rfl | rfl | rfl | rfl | rfl | rfl | rfl | rfl | rfl | rfl | rfl | rfl | rfl | rfl | rfl | rfl | rfl | rfl | rfl
      · injection ho with ho
        subst ho
        refine .inl ⟨wanted_none rfl, ?_⟩
        have e1 : ac.eval (.tmp 11) = .pointer (some ⟨b1, 0, none⟩) := hf 11 (by kernel_rfl)
        exact wp_load_mid 25 (.tmp 11) rfl _ _ e1 (AB.toList) _ (rangeA (Ar.chg (w := w4.drew) Z4.out.ab hc)) Go.Proofs.Ytnahkcapbbjfdaa.u25 rfl (HI.out.2.2.2.1) ⟨_, rfl, rfl, Chg.refl _⟩
      · injection ho with ho
        subst ho
        refine .inl ⟨wanted_none rfl, ?_⟩
        have e1 : ac.eval (.tmp 10) = .int .i64 f := hf 10 (by kernel_rfl)
        exact opG_val (by simp [execOp, e1]) rfl (Chg.refl _)
      · injection ho with ho
        subst ho
        refine .inl ⟨wanted_none rfl, ?_⟩
        have e1 : ac.eval (.tmp 6) = .pointer (some ⟨w.heap.size + 1, 0, none⟩) := hf 6 (by kernel_rfl)
        exact wp_load_mid 25 (.tmp 6) rfl _ _ e1 (B.toList) _ (rangeA (Ar.chg (w := w4.drew) Z4.out.b hc)) Go.Proofs.Ytnahkcapbbjfdaa.u25 rfl (HI.out.2.1) ⟨_, rfl, rfl, Chg.refl _⟩
      · injection ho with ho
        subst ho
        refine .inl ⟨wanted_none rfl, ?_⟩
        have e1 : ac.eval (.tmp 5) = .pointer (some ⟨w.heap.size, 0, none⟩) := hf 5 (by kernel_rfl)
        exact wp_load_mid 25 (.tmp 5) rfl _ _ e1 (A.toList) _ (rangeA (Ar.chg (w := w4.drew) Z4.out.a hc)) Go.Proofs.Ytnahkcapbbjfdaa.u25 rfl (HI.out.1) ⟨_, rfl, rfl, Chg.refl _⟩
      · injection ho with ho
        subst ho
        refine .inl ⟨wanted_none rfl, ?_⟩
        have e1 : ac.eval (.tmp 28) = .int .i64 f := hg 1 (by kernel_rfl) (by decide)
        have e2 : ac.eval (.tmp 29) = .agg B := hg 2 (by kernel_rfl) (by decide)
        have e3 : ac.eval (.tmp 30) = .agg A := hg 3 (by kernel_rfl) (by decide)
        refine opG_go 10 Try.f10 #[.tmp 28, .tmp 29, .tmp 30] #[22, 25, 25] rfl Try.func10 (by kernel_rfl) (by kernel_rfl) (by simp [e1, e2, e3]) (Calls.mono (HK.out.add1 _) ?_)
        rintro e u2 ⟨rfl, hc2⟩
        exact ⟨_, rfl, rfl, hc2⟩
      · injection ho with ho
        subst ho
        refine .inl ⟨wanted_none rfl, ?_⟩
        have e1 : ac.eval (.tmp 27) = .agg AB := hg 0 (by kernel_rfl) (by decide)
        have e2 : ac.eval (.tmp 31) = .agg AB := hg 4 (by kernel_rfl) (by decide)
        exact opG_val (by revert e1 e2; generalize ac.eval = ρ; intro e1 e2; simp [go_sem, execOp, e1, e2, HQ.out.ab]) rfl (Chg.refl _)
      · injection ho with ho
        subst ho
        refine .inl ⟨wanted_none rfl, ?_⟩
        have e1 : ac.eval (.tmp 32) = .bool true := hg 5 (by kernel_rfl) (by decide)
        exact opG_val (by simp [execOp, e1]) rfl (Chg.refl _)
      · injection ho with ho
        subst ho
        refine .inl ⟨wanted_by (T := _) (by kernel_rfl) hsz rfl (by decide : 6 < 20) rfl (hg 6 (by kernel_rfl) (by decide)), ?_⟩
        have e1 : ac.eval (.tmp 10) = .int .i64 f := hf 10 (by kernel_rfl)
        exact opG_val (by simp [execOp, e1]) rfl (Chg.refl _)
      · injection ho with ho
        subst ho
        refine .inl ⟨wanted_by (T := _) (by kernel_rfl) hsz rfl (by decide : 6 < 20) rfl (hg 6 (by kernel_rfl) (by decide)), ?_⟩
        have e1 : ac.eval (.tmp 11) = .pointer (some ⟨b1, 0, none⟩) := hf 11 (by kernel_rfl)
        exact wp_load_mid 25 (.tmp 11) rfl _ _ e1 (AB.toList) _ (rangeA (Ar.chg (w := w4.drew) Z4.out.ab hc)) Go.Proofs.Ytnahkcapbbjfdaa.u25 rfl (HI.out.2.2.2.1) ⟨_, rfl, rfl, Chg.refl _⟩
      · injection ho with ho
        subst ho
        refine .inl ⟨wanted_by (T := _) (by kernel_rfl) hsz rfl (by decide : 6 < 20) rfl (hg 6 (by kernel_rfl) (by decide)), ?_⟩
        have e1 : ac.eval (.tmp 7) = .pointer (some ⟨w.heap.size + 1 + 1, 0, none⟩) := hf 7 (by kernel_rfl)
        exact wp_load_mid 25 (.tmp 7) rfl _ _ e1 (C.toList) _ (rangeA (Ar.chg (w := w4.drew) Z4.out.c hc)) Go.Proofs.Ytnahkcapbbjfdaa.u25 rfl (HI.out.2.2.1) ⟨_, rfl, rfl, Chg.refl _⟩
      · injection ho with ho
        subst ho
        refine .inl ⟨wanted_by (T := _) (by kernel_rfl) hsz rfl (by decide : 6 < 20) rfl (hg 6 (by kernel_rfl) (by decide)), ?_⟩
        have e1 : ac.eval (.tmp 34) = .int .i64 f := hg 7 (by kernel_rfl) (by decide)
        have e2 : ac.eval (.tmp 35) = .agg AB := hg 8 (by kernel_rfl) (by decide)
        have e3 : ac.eval (.tmp 36) = .agg C := hg 9 (by kernel_rfl) (by decide)
        refine opG_go 10 Try.f10 #[.tmp 34, .tmp 35, .tmp 36] #[22, 25, 25] rfl Try.func10 (by kernel_rfl) (by kernel_rfl) (by simp [e1, e2, e3]) (Calls.mono (HK.out.add2 _) ?_)
        rintro e u2 ⟨rfl, hc2⟩
        exact ⟨_, rfl, rfl, hc2⟩
      · injection ho with ho
        subst ho
        refine .inl ⟨wanted_by (T := _) (by kernel_rfl) hsz rfl (by decide : 6 < 20) rfl (hg 6 (by kernel_rfl) (by decide)), ?_⟩
        have e1 : ac.eval (.tmp 10) = .int .i64 f := hf 10 (by kernel_rfl)
        exact opG_val (by simp [execOp, e1]) rfl (Chg.refl _)
      · injection ho with ho
        subst ho
        refine .inl ⟨wanted_by (T := _) (by kernel_rfl) hsz rfl (by decide : 6 < 20) rfl (hg 6 (by kernel_rfl) (by decide)), ?_⟩
        have e1 : ac.eval (.tmp 5) = .pointer (some ⟨w.heap.size, 0, none⟩) := hf 5 (by kernel_rfl)
        exact wp_load_mid 25 (.tmp 5) rfl _ _ e1 (A.toList) _ (rangeA (Ar.chg (w := w4.drew) Z4.out.a hc)) Go.Proofs.Ytnahkcapbbjfdaa.u25 rfl (HI.out.1) ⟨_, rfl, rfl, Chg.refl _⟩
      · injection ho with ho
        subst ho
        refine .inl ⟨wanted_by (T := _) (by kernel_rfl) hsz rfl (by decide : 6 < 20) rfl (hg 6 (by kernel_rfl) (by decide)), ?_⟩
        have e1 : ac.eval (.tmp 10) = .int .i64 f := hf 10 (by kernel_rfl)
        exact opG_val (by simp [execOp, e1]) rfl (Chg.refl _)
      · injection ho with ho
        subst ho
        refine .inl ⟨wanted_by (T := _) (by kernel_rfl) hsz rfl (by decide : 6 < 20) rfl (hg 6 (by kernel_rfl) (by decide)), ?_⟩
        have e1 : ac.eval (.tmp 6) = .pointer (some ⟨w.heap.size + 1, 0, none⟩) := hf 6 (by kernel_rfl)
        exact wp_load_mid 25 (.tmp 6) rfl _ _ e1 (B.toList) _ (rangeA (Ar.chg (w := w4.drew) Z4.out.b hc)) Go.Proofs.Ytnahkcapbbjfdaa.u25 rfl (HI.out.2.1) ⟨_, rfl, rfl, Chg.refl _⟩
      · injection ho with ho
        subst ho
        refine .inl ⟨wanted_by (T := _) (by kernel_rfl) hsz rfl (by decide : 6 < 20) rfl (hg 6 (by kernel_rfl) (by decide)), ?_⟩
        have e1 : ac.eval (.tmp 7) = .pointer (some ⟨w.heap.size + 1 + 1, 0, none⟩) := hf 7 (by kernel_rfl)
        exact wp_load_mid 25 (.tmp 7) rfl _ _ e1 (C.toList) _ (rangeA (Ar.chg (w := w4.drew) Z4.out.c hc)) Go.Proofs.Ytnahkcapbbjfdaa.u25 rfl (HI.out.2.2.1) ⟨_, rfl, rfl, Chg.refl _⟩
      · injection ho with ho
        subst ho
        refine .inl ⟨wanted_by (T := _) (by kernel_rfl) hsz rfl (by decide : 6 < 20) rfl (hg 6 (by kernel_rfl) (by decide)), ?_⟩
        have e1 : ac.eval (.tmp 40) = .int .i64 f := hg 13 (by kernel_rfl) (by decide)
        have e2 : ac.eval (.tmp 41) = .agg B := hg 14 (by kernel_rfl) (by decide)
        have e3 : ac.eval (.tmp 42) = .agg C := hg 15 (by kernel_rfl) (by decide)
        refine opG_go 10 Try.f10 #[.tmp 40, .tmp 41, .tmp 42] #[22, 25, 25] rfl Try.func10 (by kernel_rfl) (by kernel_rfl) (by simp [e1, e2, e3]) (Calls.mono (HK.out.add3 _) ?_)
        rintro e u2 ⟨rfl, hc2⟩
        exact ⟨_, rfl, rfl, hc2⟩
      · injection ho with ho
        subst ho
        refine .inl ⟨wanted_by (T := _) (by kernel_rfl) hsz rfl (by decide : 6 < 20) rfl (hg 6 (by kernel_rfl) (by decide)), ?_⟩
        have e1 : ac.eval (.tmp 38) = .int .i64 f := hg 11 (by kernel_rfl) (by decide)
        have e2 : ac.eval (.tmp 39) = .agg A := hg 12 (by kernel_rfl) (by decide)
        have e3 : ac.eval (.tmp 43) = .agg BC := hg 16 (by kernel_rfl) (by decide)
        refine opG_go 10 Try.f10 #[.tmp 38, .tmp 39, .tmp 43] #[22, 25, 25] rfl Try.func10 (by kernel_rfl) (by kernel_rfl) (by simp [e1, e2, e3]) (Calls.mono (HK.out.add4 _) ?_)
        rintro e u2 ⟨rfl, hc2⟩
        exact ⟨_, rfl, rfl, hc2⟩
      · injection ho with ho
        subst ho
        refine .inl ⟨wanted_by (T := _) (by kernel_rfl) hsz rfl (by decide : 6 < 20) rfl (hg 6 (by kernel_rfl) (by decide)), ?_⟩
        have e1 : ac.eval (.tmp 37) = .agg ABC := hg 10 (by kernel_rfl) (by decide)
        have e2 : ac.eval (.tmp 44) = .agg ABC := hg 17 (by kernel_rfl) (by decide)
        exact opG_val (by revert e1 e2; generalize ac.eval = ρ; intro e1 e2; simp [go_sem, execOp, e1, e2, HQ.out.abc]) rfl (Chg.refl _)
      · injection ho with ho
        subst ho
        refine .inl ⟨wanted_none rfl, ?_⟩
        have e1 : ac.eval (.tmp 33) = .bool true := hg 6 (by kernel_rfl) (by decide)
        have e2 : ac.eval (.tmp 45) = .bool true := hg 18 (by kernel_rfl) (by decide)
        have e3 : ac.eval (.const (.bool false)) = .bool false := rfl
        exact opG_val (by revert e1 e2 e3; generalize ac.eval = ρ; intro e1 e2 e3; simp [go_sem, execOp, e1, e2, e3]) rfl (Chg.refl _)
    · intro o u V ho hV hc
      injection ho with ho
      subst ho
      refine ⟨rfl, ?_⟩
      have q27 : V 0 = .agg AB := hV 0 (by decide)
      have q28 : V 1 = .int .i64 f := hV 1 (by decide)
      have q29 : V 2 = .agg B := hV 2 (by decide)
      have q30 : V 3 = .agg A := hV 3 (by decide)
      have q31 : V 4 = .agg AB := hV 4 (by decide)
      have q32 : V 5 = .bool true := hV 5 (by decide)
      have q33 : V 6 = .bool true := hV 6 (by decide)
      have q34 : V 7 = .int .i64 f := hV 7 (by decide)
      have q35 : V 8 = .agg AB := hV 8 (by decide)
      have q36 : V 9 = .agg C := hV 9 (by decide)
      have q37 : V 10 = .agg ABC := hV 10 (by decide)
      have q38 : V 11 = .int .i64 f := hV 11 (by decide)
      have q39 : V 12 = .agg A := hV 12 (by decide)
      have q40 : V 13 = .int .i64 f := hV 13 (by decide)
      have q41 : V 14 = .agg B := hV 14 (by decide)
      have q42 : V 15 = .agg C := hV 15 (by decide)
      have q43 : V 16 = .agg BC := hV 16 (by decide)
      have q44 : V 17 = .agg ABC := hV 17 (by decide)
      have q45 : V 18 = .bool true := hV 18 (by decide)
      have q46 : V 19 = .bool true := hV 19 (by decide)
      refine op_val1 (v := .bool true) (by rw [← q46]; rfl) ?_
      go_wp2_with fail
      go_meet
      exact ⟨rfl, (Chg.refl w4).drew.trans hc⟩
  obtain ⟨rfl, cc⟩ := hcut
  obtain ⟨w5, hw5⟩ : ∃ w', w' = wc := ⟨_, rfl⟩
  have Z5 : Hid (L1 w w5 b1 A B C AB) := by rw [hw5]; exact Z4.out.to cc
  rw [← hw5]
  clear hw5 cc Z4
  have r5 := rangeA Z5.out.a
  have r6 := rangeA Z5.out.b
  have iA := HI.out.1
  have iB := HI.out.2.1
  go_wp2_with (first
    | refine wpList_load_mid rfl 25 (.tmp 5) rfl _ _ rfl (A.toList) _ r5 Go.Proofs.Ytnahkcapbbjfdaa.u25 rfl iA ?_
    | refine wpList_load_mid rfl 25 (.tmp 6) rfl _ _ rfl (B.toList) _ r6 Go.Proofs.Ytnahkcapbbjfdaa.u25 rfl iB ?_)
  go_at_call 14
  refine (HK.out.mm0 _).mono ?_
  rintro r w5b ⟨rfl, hc5⟩
  have Z5b : Hid (L1 w w5b b1 A B C AB) := Z5.out.to hc5
  clear hc5 Z5 r5 r6 iA iB
  go_upto_region 6 with (first | refine wpList_store_row rfl 25 _ _ rfl _ _ rfl rfl _ _ (heap_alloc_last w5b _) HSz.out.2.1 HSz.out.2.2.1 HSz.out.2.2.2 ?_)
  obtain ⟨b2, hb2⟩ : ∃ b, b = w5b.heap.size := ⟨_, rfl⟩
  obtain ⟨w6, hw6⟩ : ∃ w6, w6 = (w5b.alloc (.cells (num 0) 25)).setRow w5b.heap.size MM := ⟨_, rfl⟩
  have Z6 : Hid (L2 w w6 b1 b2 A B C AB MM) := by
    obtain ⟨q0, q1, q2, q3, q4⟩ := Z5b.out
    rw [hw6, hb2]
    exact ⟨chg_row q0 MM, old_row q1 MM, old_row q2 MM, old_row q3 MM, old_row q4 MM, new_row w5b MM⟩
  rw [← hw6, ← hb2]
  clear hw6 hb2 Z5b
  try dsimp only [Act.put]
  go_cut [14] from 51 to 70 (fun v wc => v = .bool true ∧ Chg w6 wc)
  case first =>
    refine wp_region_good 20 (fun j v wg => match j with
      | 0 => v = .agg MM
      | 1 => v = .int .i64 f
      | 2 => v = .agg B
      | 3 => v = .agg A
      | 4 => v = .agg MM
      | 5 => v = .bool true
      | 6 => v = .bool true
      | 7 => v = .int .i64 f
      | 8 => v = .agg MM
      | 9 => v = .agg C
      | 10 => v = .agg MMC
      | 11 => v = .int .i64 f
      | 12 => v = .agg A
      | 13 => v = .int .i64 f
      | 14 => v = .agg B
      | 15 => v = .agg C
      | 16 => v = .agg BM
      | 17 => v = .agg MMC
      | 18 => v = .bool true
      | 19 => v = .bool true
      | _ => True) (by kernel_rfl) (by kernel_rfl) (by kernel_rfl) (by kernel_rfl) (by kernel_rfl) ?_ ?_ ?_
    · intro j v u1 u2 h hc
      match j, h with
      | 0, h => exact h
      | 1, h => exact h
      | 2, h => exact h
      | 3, h => exact h
      | 4, h => exact h
      | 5, h => exact h
      | 6, h => exact h
      | 7, h => exact h
      | 8, h => exact h
      | 9, h => exact h
      | 10, h => exact h
      | 11, h => exact h
      | 12, h => exact h
      | 13, h => exact h
      | 14, h => exact h
      | 15, h => exact h
      | 16, h => exact h
      | 17, h => exact h
      | 18, h => exact h
      | 19, h => exact h
      | _ + 20, h => exact trivial
    · intro i o ac u hi ho hsz hf hg hc
      have hcs : i = 0 ∨ i = 1 ∨ i = 2 ∨ i = 3 ∨ i = 4 ∨ i = 5 ∨ i = 6 ∨ i = 7 ∨ i = 8 ∨ i = 9 ∨ i = 10 ∨ i = 11 ∨ i = 12 ∨ i = 13 ∨ i = 14 ∨ i = 15 ∨ i = 16 ∨ i = 17 ∨ i = 18 ∨ i = 19 := by omega
      rcases hcs with rfl | rfl | rfl | rfl | rfl | rfl | rfl | rfl | rfl | rfl | rfl | rfl | rfl | rfl | rfl | rfl | rfl | rfl | rfl | rfl
      · injection ho with ho
        subst ho
        refine .inl ⟨wanted_none rfl, ?_⟩
        have e1 : ac.eval (.tmp 13) = .pointer (some ⟨b2, 0, none⟩) := hf 13 (by kernel_rfl)
        exact wp_load_mid 25 (.tmp 13) rfl _ _ e1 (MM.toList) _ (rangeA (Ar.chg (w := w6.drew) Z6.out.mm hc)) Go.Proofs.Ytnahkcapbbjfdaa.u25 rfl (HI.out.2.2.2.2) ⟨_, rfl, rfl, Chg.refl _⟩
      · injection ho with ho
        subst ho
        refine .inl ⟨wanted_none rfl, ?_⟩
        have e1 : ac.eval (.tmp 10) = .int .i64 f := hf 10 (by kernel_rfl)
        exact opG_val (by simp [execOp, e1]) rfl (Chg.refl _)
      · injection ho with ho
        subst ho
        refine .inl ⟨wanted_none rfl, ?_⟩
        have e1 : ac.eval (.tmp 6) = .pointer (some ⟨w.heap.size + 1, 0, none⟩) := hf 6 (by kernel_rfl)
        exact wp_load_mid 25 (.tmp 6) rfl _ _ e1 (B.toList) _ (rangeA (Ar.chg (w := w6.drew) Z6.out.b hc)) Go.Proofs.Ytnahkcapbbjfdaa.u25 rfl (HI.out.2.1) ⟨_, rfl, rfl, Chg.refl _⟩
      · injection ho with ho
        subst ho
        refine .inl ⟨wanted_none rfl, ?_⟩
        have e1 : ac.eval (.tmp 5) = .pointer (some ⟨w.heap.size, 0, none⟩) := hf 5 (by kernel_rfl)
        exact wp_load_mid 25 (.tmp 5) rfl _ _ e1 (A.toList) _ (rangeA (Ar.chg (w := w6.drew) Z6.out.a hc)) Go.Proofs.Ytnahkcapbbjfdaa.u25 rfl (HI.out.1) ⟨_, rfl, rfl, Chg.refl _⟩
      · injection ho with ho
        subst ho
        refine .inl ⟨wanted_none rfl, ?_⟩
        have e1 : ac.eval (.tmp 52) = .int .i64 f := hg 1 (by kernel_rfl) (by decide)
        have e2 : ac.eval (.tmp 53) = .agg B := hg 2 (by kernel_rfl) (by decide)
        have e3 : ac.eval (.tmp 54) = .agg A := hg 3 (by kernel_rfl) (by decide)
        refine opG_go 14 Try.f14 #[.tmp 52, .tmp 53, .tmp 54] #[22, 25, 25] rfl Try.func14 (by kernel_rfl) (by kernel_rfl) (by simp [e1, e2, e3]) (Calls.mono (HK.out.mul1 _) ?_)
        rintro e u2 ⟨rfl, hc2⟩
        exact ⟨_, rfl, rfl, hc2⟩
      · injection ho with ho
        subst ho
        refine .inl ⟨wanted_none rfl, ?_⟩
        have e1 : ac.eval (.tmp 51) = .agg MM := hg 0 (by kernel_rfl) (by decide)
        have e2 : ac.eval (.tmp 55) = .agg MM := hg 4 (by kernel_rfl) (by decide)
        exact opG_val (by revert e1 e2; generalize ac.eval = ρ; intro e1 e2; simp [go_sem, execOp, e1, e2, HQ.out.mm]) rfl (Chg.refl _)
      · injection ho with ho
        subst ho
        refine .inl ⟨wanted_none rfl, ?_⟩
        have e1 : ac.eval (.tmp 56) = .bool true := hg 5 (by kernel_rfl) (by decide)
        exact opG_val (by simp [execOp, e1]) rfl (Chg.refl _)
      · injection ho with ho
        subst ho
        refine .inl ⟨wanted_by (T := _) (by kernel_rfl) hsz rfl (by decide : 6 < 20) rfl (hg 6 (by kernel_rfl) (by decide)), ?_⟩
        have e1 : ac.eval (.tmp 10) = .int .i64 f := hf 10 (by kernel_rfl)
        exact opG_val (by simp [execOp, e1]) rfl (Chg.refl _)
      · injection ho with ho
        subst ho
        refine .inl ⟨wanted_by (T := _) (by kernel_rfl) hsz rfl (by decide : 6 < 20) rfl (hg 6 (by kernel_rfl) (by decide)), ?_⟩
        have e1 : ac.eval (.tmp 13) = .pointer (some ⟨b2, 0, none⟩) := hf 13 (by kernel_rfl)
        exact wp_load_mid 25 (.tmp 13) rfl _ _ e1 (MM.toList) _ (rangeA (Ar.chg (w := w6.drew) Z6.out.mm hc)) Go.Proofs.Ytnahkcapbbjfdaa.u25 rfl (HI.out.2.2.2.2) ⟨_, rfl, rfl, Chg.refl _⟩
      · injection ho with ho
        subst ho
        refine .inl ⟨wanted_by (T := _) (by kernel_rfl) hsz rfl (by decide : 6 < 20) rfl (hg 6 (by kernel_rfl) (by decide)), ?_⟩
        have e1 : ac.eval (.tmp 7) = .pointer (some ⟨w.heap.size + 1 + 1, 0, none⟩) := hf 7 (by kernel_rfl)
        exact wp_load_mid 25 (.tmp 7) rfl _ _ e1 (C.toList) _ (rangeA (Ar.chg (w := w6.drew) Z6.out.c hc)) Go.Proofs.Ytnahkcapbbjfdaa.u25 rfl (HI.out.2.2.1) ⟨_, rfl, rfl, Chg.refl _⟩
      · injection ho with ho
        subst ho
        refine .inl ⟨wanted_by (T := _) (by kernel_rfl) hsz rfl (by decide : 6 < 20) rfl (hg 6 (by kernel_rfl) (by decide)), ?_⟩
        have e1 : ac.eval (.tmp 58) = .int .i64 f := hg 7 (by kernel_rfl) (by decide)
        have e2 : ac.eval (.tmp 59) = .agg MM := hg 8 (by kernel_rfl) (by decide)
        have e3 : ac.eval (.tmp 60) = .agg C := hg 9 (by kernel_rfl) (by decide)
        refine opG_go 14 Try.f14 #[.tmp 58, .tmp 59, .tmp 60] #[22, 25, 25] rfl Try.func14 (by kernel_rfl) (by kernel_rfl) (by simp [e1, e2, e3]) (Calls.mono (HK.out.mul2 _) ?_)
        rintro e u2 ⟨rfl, hc2⟩
        exact ⟨_, rfl, rfl, hc2⟩
      · injection ho with ho
        subst ho
        refine .inl ⟨wanted_by (T := _) (by kernel_rfl) hsz rfl (by decide : 6 < 20) rfl (hg 6 (by kernel_rfl) (by decide)), ?_⟩
        have e1 : ac.eval (.tmp 10) = .int .i64 f := hf 10 (by kernel_rfl)
        exact opG_val (by simp [execOp, e1]) rfl (Chg.refl _)
      · injection ho with ho
        subst ho
        refine .inl ⟨wanted_by (T := _) (by kernel_rfl) hsz rfl (by decide : 6 < 20) rfl (hg 6 (by kernel_rfl) (by decide)), ?_⟩
        have e1 : ac.eval (.tmp 5) = .pointer (some ⟨w.heap.size, 0, none⟩) := hf 5 (by kernel_rfl)
        exact wp_load_mid 25 (.tmp 5) rfl _ _ e1 (A.toList) _ (rangeA (Ar.chg (w := w6.drew) Z6.out.a hc)) Go.Proofs.Ytnahkcapbbjfdaa.u25 rfl (HI.out.1) ⟨_, rfl, rfl, Chg.refl _⟩
      · injection ho with ho
        subst ho
        refine .inl ⟨wanted_by (T := _) (by kernel_rfl) hsz rfl (by decide : 6 < 20) rfl (hg 6 (by kernel_rfl) (by decide)), ?_⟩
        have e1 : ac.eval (.tmp 10) = .int .i64 f := hf 10 (by kernel_rfl)
        exact opG_val (by simp [execOp, e1]) rfl (Chg.refl _)
      · injection ho with ho
        subst ho
        refine .inl ⟨wanted_by (T := _) (by kernel_rfl) hsz rfl (by decide : 6 < 20) rfl (hg 6 (by kernel_rfl) (by decide)), ?_⟩
        have e1 : ac.eval (.tmp 6) = .pointer (some ⟨w.heap.size + 1, 0, none⟩) := hf 6 (by kernel_rfl)
        exact wp_load_mid 25 (.tmp 6) rfl _ _ e1 (B.toList) _ (rangeA (Ar.chg (w := w6.drew) Z6.out.b hc)) Go.Proofs.Ytnahkcapbbjfdaa.u25 rfl (HI.out.2.1) ⟨_, rfl, rfl, Chg.refl _⟩
      · injection ho with ho
        subst ho
        refine .inl ⟨wanted_by (T := _) (by kernel_rfl) hsz rfl (by decide : 6 < 20) rfl (hg 6 (by kernel_rfl) (by decide)), ?_⟩
        have e1 : ac.eval (.tmp 7) = .pointer (some ⟨w.heap.size + 1 + 1, 0, none⟩) := hf 7 (by kernel_rfl)
        exact wp_load_mid 25 (.tmp 7) rfl _ _ e1 (C.toList) _ (rangeA (Ar.chg (w := w6.drew) Z6.out.c hc)) Go.Proofs.Ytnahkcapbbjfdaa.u25 rfl (HI.out.2.2.1) ⟨_, rfl, rfl, Chg.refl _⟩
      · injection ho with ho
        subst ho
        refine .inl ⟨wanted_by (T := _) (by kernel_rfl) hsz rfl (by decide : 6 < 20) rfl (hg 6 (by kernel_rfl) (by decide)), ?_⟩
        have e1 : ac.eval (.tmp 64) = .int .i64 f := hg 13 (by kernel_rfl) (by decide)
        have e2 : ac.eval (.tmp 65) = .agg B := hg 14 (by kernel_rfl) (by decide)
        have e3 : ac.eval (.tmp 66) = .agg C := hg 15 (by kernel_rfl) (by decide)
        refine opG_go 14 Try.f14 #[.tmp 64, .tmp 65, .tmp 66] #[22, 25, 25] rfl Try.func14 (by kernel_rfl) (by kernel_rfl) (by simp [e1, e2, e3]) (Calls.mono (HK.out.mul3 _) ?_)
        rintro e u2 ⟨rfl, hc2⟩
        exact ⟨_, rfl, rfl, hc2⟩
      · injection ho with ho
        subst ho
        refine .inl ⟨wanted_by (T := _) (by kernel_rfl) hsz rfl (by decide : 6 < 20) rfl (hg 6 (by kernel_rfl) (by decide)), ?_⟩
        have e1 : ac.eval (.tmp 62) = .int .i64 f := hg 11 (by kernel_rfl) (by decide)
        have e2 : ac.eval (.tmp 63) = .agg A := hg 12 (by kernel_rfl) (by decide)
        have e3 : ac.eval (.tmp 67) = .agg BM := hg 16 (by kernel_rfl) (by decide)
        refine opG_go 14 Try.f14 #[.tmp 62, .tmp 63, .tmp 67] #[22, 25, 25] rfl Try.func14 (by kernel_rfl) (by kernel_rfl) (by simp [e1, e2, e3]) (Calls.mono (HK.out.mul4 _) ?_)
        rintro e u2 ⟨rfl, hc2⟩
        exact ⟨_, rfl, rfl, hc2⟩
      · injection ho with ho
        subst ho
        refine .inl ⟨wanted_by (T := _) (by kernel_rfl) hsz rfl (by decide : 6 < 20) rfl (hg 6 (by kernel_rfl) (by decide)), ?_⟩
        have e1 : ac.eval (.tmp 61) = .agg MMC := hg 10 (by kernel_rfl) (by decide)
        have e2 : ac.eval (.tmp 68) = .agg MMC := hg 17 (by kernel_rfl) (by decide)
        exact opG_val (by revert e1 e2; generalize ac.eval = ρ; intro e1 e2; simp [go_sem, execOp, e1, e2, HQ.out.mmc]) rfl (Chg.refl _)
      · injection ho with ho
        subst ho
        refine .inl ⟨wanted_none rfl, ?_⟩
        have e1 : ac.eval (.tmp 57) = .bool true := hg 6 (by kernel_rfl) (by decide)
        have e2 : ac.eval (.tmp 69) = .bool true := hg 18 (by kernel_rfl) (by decide)
        have e3 : ac.eval (.const (.bool false)) = .bool false := rfl
        exact opG_val (by revert e1 e2 e3; generalize ac.eval = ρ; intro e1 e2 e3; simp [go_sem, execOp, e1, e2, e3]) rfl (Chg.refl _)
    · intro o u V ho hV hc
      injection ho with ho
      subst ho
      refine ⟨rfl, ?_⟩
      have q51 : V 0 = .agg MM := hV 0 (by decide)
      have q52 : V 1 = .int .i64 f := hV 1 (by decide)
      have q53 : V 2 = .agg B := hV 2 (by decide)
      have q54 : V 3 = .agg A := hV 3 (by decide)
      have q55 : V 4 = .agg MM := hV 4 (by decide)
      have q56 : V 5 = .bool true := hV 5 (by decide)
      have q57 : V 6 = .bool true := hV 6 (by decide)
      have q58 : V 7 = .int .i64 f := hV 7 (by decide)
      have q59 : V 8 = .agg MM := hV 8 (by decide)
      have q60 : V 9 = .agg C := hV 9 (by decide)
      have q61 : V 10 = .agg MMC := hV 10 (by decide)
      have q62 : V 11 = .int .i64 f := hV 11 (by decide)
      have q63 : V 12 = .agg A := hV 12 (by decide)
      have q64 : V 13 = .int .i64 f := hV 13 (by decide)
      have q65 : V 14 = .agg B := hV 14 (by decide)
      have q66 : V 15 = .agg C := hV 15 (by decide)
      have q67 : V 16 = .agg BM := hV 16 (by decide)
      have q68 : V 17 = .agg MMC := hV 17 (by decide)
      have q69 : V 18 = .bool true := hV 18 (by decide)
      have q70 : V 19 = .bool true := hV 19 (by decide)
      refine op_val1 (v := .bool true) (by rw [← q70]; rfl) ?_
      go_wp2_with fail
      go_meet
      exact ⟨rfl, (Chg.refl w6).drew.trans hc⟩
  obtain ⟨rfl, cc⟩ := hcut
  obtain ⟨w7, hnw⟩ : ∃ u, u = wc := ⟨_, rfl⟩
  have Z7 : Hid (L2 w w7 b1 b2 A B C AB MM) := by rw [hnw]; exact Z6.out.to cc
  rw [← hnw]
  clear hnw cc Z6
  go_upto_region 7 with fail
  try dsimp only [Act.put]
  go_cut [15] from 71 to 85 (fun v wc => v = .bool true ∧ Chg w7 wc)
  case first =>
    refine wp_region_good 15 (fun j v wg => match j with
      | 0 => v = .int .i64 f
      | 1 => v = .agg AB
      | 2 => v = .agg C
      | 3 => v = .agg SH
      | 4 => v = .int .i64 f
      | 5 => v = .int .i64 f
      | 6 => v = .agg A
      | 7 => v = .agg C
      | 8 => v = .agg AC
      | 9 => v = .int .i64 f
      | 10 => v = .agg B
      | 11 => v = .agg C
      | 12 => v = .agg BM
      | 13 => v = .agg SH
      | 14 => v = .bool true
      | _ => True) (by kernel_rfl) (by kernel_rfl) (by kernel_rfl) (by kernel_rfl) (by kernel_rfl) ?_ ?_ ?_
    · intro j v u1 u2 h hc
      match j, h with
      | 0, h => exact h
      | 1, h => exact h
      | 2, h => exact h
      | 3, h => exact h
      | 4, h => exact h
      | 5, h => exact h
      | 6, h => exact h
      | 7, h => exact h
      | 8, h => exact h
      | 9, h => exact h
      | 10, h => exact h
      | 11, h => exact h
      | 12, h => exact h
      | 13, h => exact h
      | 14, h => exact h
      | _ + 15, h => exact trivial
    · intro i o ac u hi ho hsz hf hg hc
      have hcs : i = 0 ∨ i = 1 ∨ i = 2 ∨ i = 3 ∨ i = 4 ∨ i = 5 ∨ i = 6 ∨ i = 7 ∨ i = 8 ∨ i = 9 ∨ i = 10 ∨ i = 11 ∨ i = 12 ∨ i = 13 ∨ i = 14 := by omega
      rcases hcs with rfl | rfl | rfl | rfl | rfl | rfl | rfl | rfl | rfl | rfl | rfl | rfl | rfl | rfl | rfl
      · injection ho with ho
        subst ho
        refine .inl ⟨wanted_none rfl, ?_⟩
        have e1 : ac.eval (.tmp 10) = .int .i64 f := hf 10 (by kernel_rfl)
        exact opG_val (by simp [execOp, e1]) rfl (Chg.refl _)
      · injection ho with ho
        subst ho
        refine .inl ⟨wanted_none rfl, ?_⟩
        have e1 : ac.eval (.tmp 11) = .pointer (some ⟨b1, 0, none⟩) := hf 11 (by kernel_rfl)
        exact wp_load_mid 25 (.tmp 11) rfl _ _ e1 (AB.toList) _ (rangeA (Ar.chg (w := w7.drew) Z7.out.ab hc)) Go.Proofs.Ytnahkcapbbjfdaa.u25 rfl (HI.out.2.2.2.1) ⟨_, rfl, rfl, Chg.refl _⟩
      · injection ho with ho
        subst ho
        refine .inl ⟨wanted_none rfl, ?_⟩
        have e1 : ac.eval (.tmp 7) = .pointer (some ⟨w.heap.size + 1 + 1, 0, none⟩) := hf 7 (by kernel_rfl)
        exact wp_load_mid 25 (.tmp 7) rfl _ _ e1 (C.toList) _ (rangeA (Ar.chg (w := w7.drew) Z7.out.c hc)) Go.Proofs.Ytnahkcapbbjfdaa.u25 rfl (HI.out.2.2.1) ⟨_, rfl, rfl, Chg.refl _⟩
      · injection ho with ho
        subst ho
        refine .inl ⟨wanted_none rfl, ?_⟩
        have e1 : ac.eval (.tmp 71) = .int .i64 f := hg 0 (by kernel_rfl) (by decide)
        have e2 : ac.eval (.tmp 72) = .agg AB := hg 1 (by kernel_rfl) (by decide)
        have e3 : ac.eval (.tmp 73) = .agg C := hg 2 (by kernel_rfl) (by decide)
        refine opG_go 14 Try.f14 #[.tmp 71, .tmp 72, .tmp 73] #[22, 25, 25] rfl Try.func14 (by kernel_rfl) (by kernel_rfl) (by simp [e1, e2, e3]) (Calls.mono (HK.out.sh1 _) ?_)
        rintro e u2 ⟨rfl, hc2⟩
        exact ⟨_, rfl, rfl, hc2⟩
      · injection ho with ho
        subst ho
        refine .inl ⟨wanted_none rfl, ?_⟩
        have e1 : ac.eval (.tmp 10) = .int .i64 f := hf 10 (by kernel_rfl)
        exact opG_val (by simp [execOp, e1]) rfl (Chg.refl _)
      · injection ho with ho
        subst ho
        refine .inl ⟨wanted_none rfl, ?_⟩
        have e1 : ac.eval (.tmp 10) = .int .i64 f := hf 10 (by kernel_rfl)
        exact opG_val (by simp [execOp, e1]) rfl (Chg.refl _)
      · injection ho with ho
        subst ho
        refine .inl ⟨wanted_none rfl, ?_⟩
        have e1 : ac.eval (.tmp 5) = .pointer (some ⟨w.heap.size, 0, none⟩) := hf 5 (by kernel_rfl)
        exact wp_load_mid 25 (.tmp 5) rfl _ _ e1 (A.toList) _ (rangeA (Ar.chg (w := w7.drew) Z7.out.a hc)) Go.Proofs.Ytnahkcapbbjfdaa.u25 rfl (HI.out.1) ⟨_, rfl, rfl, Chg.refl _⟩
      · injection ho with ho
        subst ho
        refine .inl ⟨wanted_none rfl, ?_⟩
        have e1 : ac.eval (.tmp 7) = .pointer (some ⟨w.heap.size + 1 + 1, 0, none⟩) := hf 7 (by kernel_rfl)
        exact wp_load_mid 25 (.tmp 7) rfl _ _ e1 (C.toList) _ (rangeA (Ar.chg (w := w7.drew) Z7.out.c hc)) Go.Proofs.Ytnahkcapbbjfdaa.u25 rfl (HI.out.2.2.1) ⟨_, rfl, rfl, Chg.refl _⟩
      · injection ho with ho
        subst ho
        refine .inl ⟨wanted_none rfl, ?_⟩
        have e1 : ac.eval (.tmp 76) = .int .i64 f := hg 5 (by kernel_rfl) (by decide)
        have e2 : ac.eval (.tmp 77) = .agg A := hg 6 (by kernel_rfl) (by decide)
        have e3 : ac.eval (.tmp 78) = .agg C := hg 7 (by kernel_rfl) (by decide)
        refine opG_go 14 Try.f14 #[.tmp 76, .tmp 77, .tmp 78] #[22, 25, 25] rfl Try.func14 (by kernel_rfl) (by kernel_rfl) (by simp [e1, e2, e3]) (Calls.mono (HK.out.sh2 _) ?_)
        rintro e u2 ⟨rfl, hc2⟩
        exact ⟨_, rfl, rfl, hc2⟩
      · injection ho with ho
        subst ho
        refine .inl ⟨wanted_none rfl, ?_⟩
        have e1 : ac.eval (.tmp 10) = .int .i64 f := hf 10 (by kernel_rfl)
        exact opG_val (by simp [execOp, e1]) rfl (Chg.refl _)
      · injection ho with ho
        subst ho
        refine .inl ⟨wanted_none rfl, ?_⟩
        have e1 : ac.eval (.tmp 6) = .pointer (some ⟨w.heap.size + 1, 0, none⟩) := hf 6 (by kernel_rfl)
        exact wp_load_mid 25 (.tmp 6) rfl _ _ e1 (B.toList) _ (rangeA (Ar.chg (w := w7.drew) Z7.out.b hc)) Go.Proofs.Ytnahkcapbbjfdaa.u25 rfl (HI.out.2.1) ⟨_, rfl, rfl, Chg.refl _⟩
      · injection ho with ho
        subst ho
        refine .inl ⟨wanted_none rfl, ?_⟩
        have e1 : ac.eval (.tmp 7) = .pointer (some ⟨w.heap.size + 1 + 1, 0, none⟩) := hf 7 (by kernel_rfl)
        exact wp_load_mid 25 (.tmp 7) rfl _ _ e1 (C.toList) _ (rangeA (Ar.chg (w := w7.drew) Z7.out.c hc)) Go.Proofs.Ytnahkcapbbjfdaa.u25 rfl (HI.out.2.2.1) ⟨_, rfl, rfl, Chg.refl _⟩
      · injection ho with ho
        subst ho
        refine .inl ⟨wanted_none rfl, ?_⟩
        have e1 : ac.eval (.tmp 80) = .int .i64 f := hg 9 (by kernel_rfl) (by decide)
        have e2 : ac.eval (.tmp 81) = .agg B := hg 10 (by kernel_rfl) (by decide)
        have e3 : ac.eval (.tmp 82) = .agg C := hg 11 (by kernel_rfl) (by decide)
        refine opG_go 14 Try.f14 #[.tmp 80, .tmp 81, .tmp 82] #[22, 25, 25] rfl Try.func14 (by kernel_rfl) (by kernel_rfl) (by simp [e1, e2, e3]) (Calls.mono (HK.out.mul3 _) ?_)
        rintro e u2 ⟨rfl, hc2⟩
        exact ⟨_, rfl, rfl, hc2⟩
      · injection ho with ho
        subst ho
        refine .inl ⟨wanted_none rfl, ?_⟩
        have e1 : ac.eval (.tmp 75) = .int .i64 f := hg 4 (by kernel_rfl) (by decide)
        have e2 : ac.eval (.tmp 79) = .agg AC := hg 8 (by kernel_rfl) (by decide)
        have e3 : ac.eval (.tmp 83) = .agg BM := hg 12 (by kernel_rfl) (by decide)
        refine opG_go 10 Try.f10 #[.tmp 75, .tmp 79, .tmp 83] #[22, 25, 25] rfl Try.func10 (by kernel_rfl) (by kernel_rfl) (by simp [e1, e2, e3]) (Calls.mono (HK.out.sh3 _) ?_)
        rintro e u2 ⟨rfl, hc2⟩
        exact ⟨_, rfl, rfl, hc2⟩
      · injection ho with ho
        subst ho
        refine .inl ⟨wanted_none rfl, ?_⟩
        have e1 : ac.eval (.tmp 74) = .agg SH := hg 3 (by kernel_rfl) (by decide)
        have e2 : ac.eval (.tmp 84) = .agg SH := hg 13 (by kernel_rfl) (by decide)
        exact opG_val (by revert e1 e2; generalize ac.eval = ρ; intro e1 e2; simp [go_sem, execOp, e1, e2, HQ.out.sh]) rfl (Chg.refl _)
    · intro o u V ho hV hc
      injection ho with ho
      subst ho
      refine ⟨rfl, ?_⟩
      have q71 : V 0 = .int .i64 f := hV 0 (by decide)
      have q72 : V 1 = .agg AB := hV 1 (by decide)
      have q73 : V 2 = .agg C := hV 2 (by decide)
      have q74 : V 3 = .agg SH := hV 3 (by decide)
      have q75 : V 4 = .int .i64 f := hV 4 (by decide)
      have q76 : V 5 = .int .i64 f := hV 5 (by decide)
      have q77 : V 6 = .agg A := hV 6 (by decide)
      have q78 : V 7 = .agg C := hV 7 (by decide)
      have q79 : V 8 = .agg AC := hV 8 (by decide)
      have q80 : V 9 = .int .i64 f := hV 9 (by decide)
      have q81 : V 10 = .agg B := hV 10 (by decide)
      have q82 : V 11 = .agg C := hV 11 (by decide)
      have q83 : V 12 = .agg BM := hV 12 (by decide)
      have q84 : V 13 = .agg SH := hV 13 (by decide)
      have q85 : V 14 = .bool true := hV 14 (by decide)
      refine op_val1 (v := .bool true) (by rw [← q85]; rfl) ?_
      go_wp2_with fail
      go_meet
      exact ⟨rfl, (Chg.refl w7).drew.trans hc⟩
  obtain ⟨rfl, cc⟩ := hcut
  obtain ⟨w8, hnw⟩ : ∃ u, u = wc := ⟨_, rfl⟩
  have Z8 : Hid (L2 w w8 b1 b2 A B C AB MM) := by rw [hnw]; exact Z7.out.to cc
  rw [← hnw]
  clear hnw cc Z7
  go_upto_region 8 with fail
  try dsimp only [Act.put]
  go_cut [16] from 86 to 94 (fun v wc => v = .bool true ∧ Chg w8 wc)
  case first =>
    refine wp_region_good 9 (fun j v wg => match j with
      | 0 => v = .int .i64 f
      | 1 => v = .agg AB
      | 2 => v = .agg B
      | 3 => v = .agg AR
      | 4 => v = .int .i64 f
      | 5 => v = .agg A
      | 6 => v = .agg (num 1)
      | 7 => v = .agg AR
      | 8 => v = .bool true
      | _ => True) (by kernel_rfl) (by kernel_rfl) (by kernel_rfl) (by kernel_rfl) (by kernel_rfl) ?_ ?_ ?_
    · intro j v u1 u2 h hc
      match j, h with
      | 0, h => exact h
      | 1, h => exact h
      | 2, h => exact h
      | 3, h => exact h
      | 4, h => exact h
      | 5, h => exact h
      | 6, h => exact h
      | 7, h => exact h
      | 8, h => exact h
      | _ + 9, h => exact trivial
    · intro i o ac u hi ho hsz hf hg hc
      have hcs : i = 0 ∨ i = 1 ∨ i = 2 ∨ i = 3 ∨ i = 4 ∨ i = 5 ∨ i = 6 ∨ i = 7 ∨ i = 8 := by omega
      rcases hcs with rfl | rfl | rfl | rfl | rfl | rfl | rfl | rfl | rfl
      · injection ho with ho
        subst ho
        refine .inl ⟨wanted_none rfl, ?_⟩
        have e1 : ac.eval (.tmp 10) = .int .i64 f := hf 10 (by kernel_rfl)
        exact opG_val (by simp [execOp, e1]) rfl (Chg.refl _)
      · injection ho with ho
        subst ho
        refine .inl ⟨wanted_none rfl, ?_⟩
        have e1 : ac.eval (.tmp 11) = .pointer (some ⟨b1, 0, none⟩) := hf 11 (by kernel_rfl)
        exact wp_load_mid 25 (.tmp 11) rfl _ _ e1 (AB.toList) _ (rangeA (Ar.chg (w := w8.drew) Z8.out.ab hc)) Go.Proofs.Ytnahkcapbbjfdaa.u25 rfl (HI.out.2.2.2.1) ⟨_, rfl, rfl, Chg.refl _⟩
      · injection ho with ho
        subst ho
        refine .inl ⟨wanted_none rfl, ?_⟩
        have e1 : ac.eval (.tmp 6) = .pointer (some ⟨w.heap.size + 1, 0, none⟩) := hf 6 (by kernel_rfl)
        exact wp_load_mid 25 (.tmp 6) rfl _ _ e1 (B.toList) _ (rangeA (Ar.chg (w := w8.drew) Z8.out.b hc)) Go.Proofs.Ytnahkcapbbjfdaa.u25 rfl (HI.out.2.1) ⟨_, rfl, rfl, Chg.refl _⟩
      · injection ho with ho
        subst ho
        refine .inl ⟨wanted_none rfl, ?_⟩
        have e1 : ac.eval (.tmp 86) = .int .i64 f := hg 0 (by kernel_rfl) (by decide)
        have e2 : ac.eval (.tmp 87) = .agg AB := hg 1 (by kernel_rfl) (by decide)
        have e3 : ac.eval (.tmp 88) = .agg B := hg 2 (by kernel_rfl) (by decide)
        refine opG_go 12 Try.f12 #[.tmp 86, .tmp 87, .tmp 88] #[22, 25, 25] rfl Try.func12 (by kernel_rfl) (by kernel_rfl) (by simp [e1, e2, e3]) (Calls.mono (HK.out.sub1 _) ?_)
        rintro e u2 ⟨rfl, hc2⟩
        exact ⟨_, rfl, rfl, hc2⟩
      · injection ho with ho
        subst ho
        refine .inl ⟨wanted_none rfl, ?_⟩
        have e1 : ac.eval (.tmp 10) = .int .i64 f := hf 10 (by kernel_rfl)
        exact opG_val (by simp [execOp, e1]) rfl (Chg.refl _)
      · injection ho with ho
        subst ho
        refine .inl ⟨wanted_none rfl, ?_⟩
        have e1 : ac.eval (.tmp 5) = .pointer (some ⟨w.heap.size, 0, none⟩) := hf 5 (by kernel_rfl)
        exact wp_load_mid 25 (.tmp 5) rfl _ _ e1 (A.toList) _ (rangeA (Ar.chg (w := w8.drew) Z8.out.a hc)) Go.Proofs.Ytnahkcapbbjfdaa.u25 rfl (HI.out.1) ⟨_, rfl, rfl, Chg.refl _⟩
      · injection ho with ho
        subst ho
        refine .inl ⟨wanted_none rfl, ?_⟩
        have e1 : ac.eval (.const (.int .u64 1)) = .int .u64 1 := rfl
        exact opG_val (by revert e1; generalize ac.eval = ρ; intro e1; simp [go_sem, execOp, e1, zero25.1, num_set1, num_ne0]) rfl (Chg.refl _)
      · injection ho with ho
        subst ho
        refine .inl ⟨wanted_none rfl, ?_⟩
        have e1 : ac.eval (.tmp 90) = .int .i64 f := hg 4 (by kernel_rfl) (by decide)
        have e2 : ac.eval (.tmp 91) = .agg A := hg 5 (by kernel_rfl) (by decide)
        have e3 : ac.eval (.tmp 92) = .agg (num 1) := hg 6 (by kernel_rfl) (by decide)
        refine opG_go 14 Try.f14 #[.tmp 90, .tmp 91, .tmp 92] #[22, 25, 25] rfl Try.func14 (by kernel_rfl) (by kernel_rfl) (by simp [e1, e2, e3]) (Calls.mono (HK.out.one1 _) ?_)
        rintro e u2 ⟨rfl, hc2⟩
        exact ⟨_, rfl, rfl, hc2⟩
      · injection ho with ho
        subst ho
        refine .inl ⟨wanted_none rfl, ?_⟩
        have e1 : ac.eval (.tmp 89) = .agg AR := hg 3 (by kernel_rfl) (by decide)
        have e2 : ac.eval (.tmp 93) = .agg AR := hg 7 (by kernel_rfl) (by decide)
        exact opG_val (by revert e1 e2; generalize ac.eval = ρ; intro e1 e2; simp [go_sem, execOp, e1, e2, HQ.out.ar]) rfl (Chg.refl _)
    · intro o u V ho hV hc
      injection ho with ho
      subst ho
      refine ⟨rfl, ?_⟩
      have q86 : V 0 = .int .i64 f := hV 0 (by decide)
      have q87 : V 1 = .agg AB := hV 1 (by decide)
      have q88 : V 2 = .agg B := hV 2 (by decide)
      have q89 : V 3 = .agg AR := hV 3 (by decide)
      have q90 : V 4 = .int .i64 f := hV 4 (by decide)
      have q91 : V 5 = .agg A := hV 5 (by decide)
      have q92 : V 6 = .agg (num 1) := hV 6 (by decide)
      have q93 : V 7 = .agg AR := hV 7 (by decide)
      have q94 : V 8 = .bool true := hV 8 (by decide)
      refine op_val1 (v := .bool true) (by rw [← q94]; rfl) ?_
      go_wp2_with fail
      go_meet
      exact ⟨rfl, (Chg.refl w8).drew.trans hc⟩
  obtain ⟨rfl, cc⟩ := hcut
  obtain ⟨w9, hnw⟩ : ∃ u, u = wc := ⟨_, rfl⟩
  have Z9 : Hid (L2 w w9 b1 b2 A B C AB MM) := by rw [hnw]; exact Z8.out.to cc
  rw [← hnw]
  clear hnw cc Z8
  have r5 := rangeA Z9.out.a
  have iA := HI.out.1
  go_wp2_with (first
    | refine wpList_load_mid rfl 25 (.tmp 5) rfl _ _ rfl (A.toList) _ r5 Go.Proofs.Ytnahkcapbbjfdaa.u25 rfl iA ?_)
  rw [num_set1]
  go_at_call 14
  refine (HK.out.one1 _).mono ?_
  rintro r w9b ⟨rfl, hc9⟩
  have Z9b : Hid (L2 w w9b b1 b2 A B C AB MM) := Z9.out.to hc9
  clear hc9 Z9 r5 iA
  obtain ⟨nb, hnb⟩ : ∃ nb, decide (a % mo f = 0) = nb := ⟨_, rfl⟩
  have HB : Hid (decide (a % mo f = 0) = nb) := hnb
  have hq3 : ∀ u, (Op.equalIn 10000 25 (.agg AR) (.agg (num 0))).run Try.prog u = .ok nb u := fun u => by
    rw [HE.out.2.1, run_eqNum (N_mod HF.out _) N0, hnb]
  clear hnb
  go_upto_region 10 with fail
  obtain ⟨w10, hw10⟩ : ∃ w', w' = w9b := ⟨_, rfl⟩
  have Z10 : Hid (L2 w w10 b1 b2 A B C AB MM) := by rw [hw10]; exact Z9b.out
  rw [← hw10]
  clear hw10 Z9b hq3
  try dsimp only [Act.put]
  go_cut [18] from 101 to 106 (fun v wc => ∃ b3, v = .pointer (some ⟨b3, 0, none⟩) ∧ Chg w10 wc ∧ Ar wc b3 (num one))
  case first =>
    refine wp_region_good 7 (fun j v wg => match j with
      | 0 => v = .int .i64 f
      | 1 => v = .agg A
      | 2 => v = .int .i64 f
      | 3 => v = .agg A
      | 4 => v = .agg IV
      | 5 => v = .agg (num one)
      | 6 => ∃ bx, v = .pointer (some ⟨bx, 0, none⟩) ∧ Ar wg bx (num 0) ∧ w10.heap.size ≤ bx
      | _ => True) (by kernel_rfl) (by kernel_rfl) (by kernel_rfl) (by kernel_rfl) (by kernel_rfl) ?_ ?_ ?_
    · intro j v u1 u2 h hc
      match j, h with
      | 0, h => exact h
      | 1, h => exact h
      | 2, h => exact h
      | 3, h => exact h
      | 4, h => exact h
      | 5, h => exact h
      | 6, h => (obtain ⟨bx, h1, h2, h3⟩ := h; exact ⟨bx, h1, h2.chg hc, h3⟩)
      | _ + 7, h => exact trivial
    · intro i o ac u hi ho hsz hf hg hc
      have hcs : i = 0 ∨ i = 1 ∨ i = 2 ∨ i = 3 ∨ i = 4 ∨ i = 5 ∨ i = 6 := by omega
      rcases hcs with rfl | rfl | rfl | rfl | rfl | rfl | rfl
      · injection ho with ho
        subst ho
        refine .inl ⟨wanted_none rfl, ?_⟩
        have e1 : ac.eval (.tmp 10) = .int .i64 f := hf 10 (by kernel_rfl)
        exact opG_val (by simp [execOp, e1]) rfl (Chg.refl _)
      · injection ho with ho
        subst ho
        refine .inl ⟨wanted_none rfl, ?_⟩
        have e1 : ac.eval (.tmp 5) = .pointer (some ⟨w.heap.size, 0, none⟩) := hf 5 (by kernel_rfl)
        exact wp_load_mid 25 (.tmp 5) rfl _ _ e1 (A.toList) _ (rangeA (Ar.chg (w := w10.drew) Z10.out.a hc)) Go.Proofs.Ytnahkcapbbjfdaa.u25 rfl (HI.out.1) ⟨_, rfl, rfl, Chg.refl _⟩
      · injection ho with ho
        subst ho
        refine .inl ⟨wanted_none rfl, ?_⟩
        have e1 : ac.eval (.tmp 10) = .int .i64 f := hf 10 (by kernel_rfl)
        exact opG_val (by simp [execOp, e1]) rfl (Chg.refl _)
      · injection ho with ho
        subst ho
        refine .inl ⟨wanted_none rfl, ?_⟩
        have e1 : ac.eval (.tmp 5) = .pointer (some ⟨w.heap.size, 0, none⟩) := hf 5 (by kernel_rfl)
        exact wp_load_mid 25 (.tmp 5) rfl _ _ e1 (A.toList) _ (rangeA (Ar.chg (w := w10.drew) Z10.out.a hc)) Go.Proofs.Ytnahkcapbbjfdaa.u25 rfl (HI.out.1) ⟨_, rfl, rfl, Chg.refl _⟩
      · injection ho with ho
        subst ho
        refine .inl ⟨wanted_none rfl, ?_⟩
        have e1 : ac.eval (.tmp 103) = .int .i64 f := hg 2 (by kernel_rfl) (by decide)
        have e2 : ac.eval (.tmp 104) = .agg A := hg 3 (by kernel_rfl) (by decide)
        refine opG_go 26 Try.f26 #[.tmp 103, .tmp 104] #[22, 25] rfl Try.func26 (by kernel_rfl) (by kernel_rfl) (by simp [e1, e2]) (Calls.mono (HK.out.inv1 _) ?_)
        rintro e u2 ⟨rfl, hc2⟩
        exact ⟨_, rfl, rfl, hc2⟩
      · injection ho with ho
        subst ho
        refine .inl ⟨wanted_none rfl, ?_⟩
        have e1 : ac.eval (.tmp 101) = .int .i64 f := hg 0 (by kernel_rfl) (by decide)
        have e2 : ac.eval (.tmp 102) = .agg A := hg 1 (by kernel_rfl) (by decide)
        have e3 : ac.eval (.tmp 105) = .agg IV := hg 4 (by kernel_rfl) (by decide)
        refine opG_go 14 Try.f14 #[.tmp 101, .tmp 102, .tmp 105] #[22, 25, 25] rfl Try.func14 (by kernel_rfl) (by kernel_rfl) (by simp [e1, e2, e3]) (Calls.mono (HK.out.inv2 _) ?_)
        rintro e u2 ⟨rfl, hc2⟩
        exact ⟨_, rfl, rfl, hc2⟩
      · injection ho with ho
        subst ho
        refine .inl ⟨wanted_none rfl, ?_⟩
        exact opG_val (v := .pointer (some ⟨u.heap.size, 0, none⟩)) (w' := u.alloc (.cells (num 0) 25)) (by generalize ac.eval = ρ; simp [go_sem, execOp, zero25.1]) ⟨_, rfl, Ar.new _ _ _, (show w10.heap.size ≤ u.heap.size from hc.size)⟩ ((Chg.refl _).alloc _)
    · intro o u V ho hV hc
      injection ho with ho
      subst ho
      refine ⟨rfl, ?_⟩
      have q101 : V 0 = .int .i64 f := hV 0 (by decide)
      have q102 : V 1 = .agg A := hV 1 (by decide)
      have q103 : V 2 = .int .i64 f := hV 2 (by decide)
      have q104 : V 3 = .agg A := hV 3 (by decide)
      have q105 : V 4 = .agg IV := hV 4 (by decide)
      have q106 : V 5 = .agg (num one) := hV 5 (by decide)
      obtain ⟨bx, q18, ⟨xb, xl⟩⟩ := hV 6 (by decide)
      refine wp_store_mid 25 (.tmp 18) (.tmp 106) rfl bx 0 (num one) (Eq.trans (by rfl) q18) (Eq.trans (by rfl) q106) (by rw [num_size]; exact thereN xb) (szN _) (num_one _) ?_
      rw [setRowN xb]
      go_wp2_with fail
      go_meet
      exact ⟨bx, q18, ((Chg.refl w10).drew.trans hc).setRow xl _, xb.row _⟩
  obtain ⟨b3, rfl, cc, ca⟩ := hcut
  obtain ⟨w11, hw11⟩ : ∃ w', w' = wc := ⟨_, rfl⟩
  have Z11 : Hid (L2 w w11 b1 b2 A B C AB MM ∧ Ar w11 b3 (num one)) := by rw [hw11]; exact ⟨Z10.out.to cc, ca⟩
  rw [← hw11]
  clear hw11 cc ca Z10
  have r11 := rangeA Z11.out.1.ab
  have iAB := HI.out.2.2.2.1
  go_wp2_with (first
    | refine wpList_load_mid rfl 25 (.tmp 11) rfl _ _ rfl (AB.toList) _ r11 Go.Proofs.Ytnahkcapbbjfdaa.u25 rfl iAB ?_)
  go_at_call 20
  refine (HK.out.rig1 _).mono ?_
  rintro r w12 ⟨rfl, hc12⟩
  have Z12 : Hid (L2 w w12 b1 b2 A B C AB MM ∧ Ar w12 b3 (num one)) := ⟨Z11.out.1.to hc12, Z11.out.2.chg hc12⟩
  clear hc12 Z11 r11 iAB
  have hmm := Z12.out.1.mm
  rw [HE.out.1] at hmm
  obtain ⟨x0, x1, x2, x3⟩ := Ar.four (d := dg B64 (a * b % mo f)) hmm
  obtain ⟨m0, hm0⟩ : ∃ m, m = dg B64 (a * b % mo f) 0 := ⟨_, rfl⟩
  obtain ⟨m1, hm1⟩ : ∃ m, m = dg B64 (a * b % mo f) 1 := ⟨_, rfl⟩
  obtain ⟨m2, hm2⟩ : ∃ m, m = dg B64 (a * b % mo f) 2 := ⟨_, rfl⟩
  obtain ⟨m3, hm3⟩ : ∃ m, m = dg B64 (a * b % mo f) 3 := ⟨_, rfl⟩
  have HR : Hid (∀ W, Calls Try.prog 20 #[.int .i64 f, .agg #[.int .u64 m0, .int .u64 m1, .int .u64 m2, .int .u64 m3]] W fun r w' => r = .returned (.bool true) ∧ Chg W w') := by
    have := HK.out.rig2
    rw [HE.out.1] at this
    rw [hm0, hm1, hm2, hm3]
    exact this
  rw [← hm0] at x0
  rw [← hm1] at x1
  rw [← hm2] at x2
  rw [← hm3] at x3
  clear hm0 hm1 hm2 hm3 hmm
  go_wp2_with fail
  go_at_call 20
  refine (HR.out _).mono ?_
  rintro r w13 ⟨rfl, hc13⟩
  have Z13 : Hid (Chg w w13 ∧ Ar w13 b3 (num one)) := ⟨Z12.out.1.chg.trans hc13, Z12.out.2.chg hc13⟩
  clear hc13 Z12 x0 x1 x2 x3
  cases nb with
  | true =>
    have ho : one = 0 := by rw [HE.out.2.2, if_pos (of_decide_eq_true HB.out)]
    have h3 := Z13.out.2
    rw [ho] at h3
    obtain ⟨x0, x1, x2, x3⟩ := Ar.four (d := dg B64 0) h3
    rw [show dg B64 0 0 = 0 by decide +kernel] at x0
    rw [show dg B64 0 1 = 0 by decide +kernel] at x1
    rw [show dg B64 0 2 = 0 by decide +kernel] at x2
    rw [show dg B64 0 3 = 0 by decide +kernel] at x3
    have g1 : ∀ u, (Op.equalIn 10000 25 (.agg #[.int .u64 0, .int .u64 0, .int .u64 0, .int .u64 0]) (.agg (num 0))).run Try.prog u = .ok true u := fun u => by
      rw [← num_0]
      exact eq_self N0 u
    clear h3 ho
    go_wp2_with fail
    go_ret
    exact ⟨rfl, Z13.out.1⟩
  | false =>
    have ho : one = 1 := by rw [HE.out.2.2, if_neg (of_decide_eq_false HB.out)]
    have h3 := Z13.out.2
    rw [ho] at h3
    obtain ⟨x0, x1, x2, x3⟩ := Ar.four (d := dg B64 1) h3
    rw [show dg B64 1 0 = 1 by decide +kernel] at x0
    rw [show dg B64 1 1 = 0 by decide +kernel] at x1
    rw [show dg B64 1 2 = 0 by decide +kernel] at x2
    rw [show dg B64 1 3 = 0 by decide +kernel] at x3
    have g1 : ∀ u, (Op.equalIn 10000 25 (.agg #[.int .u64 1, .int .u64 0, .int .u64 0, .int .u64 0]) (.agg ((num 0).setIfInBounds 0 (.int .u64 1)))).run Try.prog u = .ok true u := fun u => by
      rw [num_set1, ← num_lit1]
      exact eq_self N1 u
    clear h3 ho
    go_wp2_with fail
    go_ret
    exact ⟨rfl, Z13.out.1⟩
end Go.Proofs.Ytnahkcapbbjfdaa
