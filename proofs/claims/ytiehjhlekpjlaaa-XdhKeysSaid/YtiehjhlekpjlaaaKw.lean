/-
  Public keys and secrets are the document's; nothing comes of a point of low order: the law, walked.
-/
import Derived.Test.YtiehjhlekpjlaaaTw
import Derived.Test.YtiehjhlekpjlaaaDp
import Derived.Test.YtiehjhlekpjlaaaEw
namespace Go.Proofs.Ytiehjhlekpjlaaa
open Go.RowKit
set_option linter.unusedVariables false

set_option maxRecDepth 100000 in
set_option maxHeartbeats 8000000 in
theorem keys_walk (k x : Nat → Int) (hk : ∀ i, B8 (k i)) (hx : ∀ i, B8 (x i)) (w : World) : Calls Try.prog 4 #[.agg (byt k), .agg (byt x)] w fun r w' => r = .returned (.bool true) ∧ Chg w w' := by
  have HC : Hid (∃ (d e : Nat → Int) (bb : Bool), (∀ W, Calls Try.prog 11 #[.agg (byt k), .agg (byt x)] W fun r w' => r = .returned (.tuple #[.agg (byt d), .bool bb]) ∧ Chg W w') ∧ (∀ W, Calls Try.prog 12 #[.agg (byt k), .agg (byt x)] W fun r w' => r = .returned (.tuple #[.agg (byt d), .bool bb]) ∧ Chg W w') ∧ (∀ W, Calls Try.prog 11 #[.agg (byt k), .agg (byt zD)] W fun r w' => r = .returned (.tuple #[.agg (byt zD), .bool false]) ∧ Chg W w') ∧ (∀ W, Calls Try.prog 11 #[.agg (byt k), .agg (byt by1)] W fun r w' => r = .returned (.tuple #[.agg (byt zD), .bool false]) ∧ Chg W w') ∧ (∀ W, Calls Try.prog 13 #[.agg (byt k)] W fun r w' => r = .returned (.agg (byt e)) ∧ Chg W w') ∧ (∀ W, Calls Try.prog 14 #[.agg (byt k)] W fun r w' => r = .returned (.agg (byt e)) ∧ Chg W w')) := by
    refine ⟨mB k x, mB k by9, isB (mB k x), fun W => sharedX_any k x hk hx W, fun W => sharedY_any k x hk hx W, fun W => ?_, fun W => ?_, fun W => publicX_any k hk W, fun W => publicY_any k hk W⟩
    · have := sharedX_any k zD hk zD_8 W
      rw [mB_zero, isB_zD] at this
      exact this
    · have := sharedX_any k by1 hk by1_8 W
      rw [mB_one hk, isB_zD] at this
      exact this
  obtain ⟨d, e, bb, k1, k2, k3, k4, k5, k6⟩ := HC.out
  have hz := zero37.1
  have sd := szY d
  have ld := lenY zD d
  have od := oneY d
  have s0 := szY zD
  have o0 := oneY zD
  have iK := infoY k
  have iX := infoY x
  have LB : ∀ {ops : Array Oper} {rest : List Oper} {o : Oper} {a : Act} {w : World} {Q : Exit → Act → World → Prop}, o.guard = none → o.op = .build 22 #[(0, .const (.int .u8 1))] → wpList Try.prog ops Q rest (a.put o.dst (.agg (byt by1))) w → wpList Try.prog ops Q (o :: rest) a w := fun h1 h2 h3 => wpList_bytes h1 1 by1 built1 h2 h3
  obtain ⟨Z00, hZ00⟩ : ∃ A, A = byt zD := ⟨_, rfl⟩
  have HZ00 : Hid (Z00 = byt zD) := hZ00
  obtain ⟨D, hD⟩ : ∃ A, A = byt d := ⟨_, rfl⟩
  have HD : Hid (D = byt d) := hD
  obtain ⟨O1, hO1⟩ : ∃ A, A = byt by1 := ⟨_, rfl⟩
  obtain ⟨A, hA⟩ : ∃ A, A = byt k := ⟨_, rfl⟩
  obtain ⟨B, hB⟩ : ∃ A, A = byt x := ⟨_, rfl⟩
  have HA : Hid (A = byt k ∧ B = byt x) := ⟨hA, hB⟩
  have hsA := byt_size k
  have hsB := byt_size x
  rw [← hZ00] at hz ld k3 k4 s0 o0
  rw [← hD] at sd ld od k1 k2
  rw [← hO1] at k4 LB
  rw [← hA] at hsA iK k1 k2 k3 k4 ⊢
  rw [← hB] at hsB iX k1 k2 ⊢
  have K1 : Hid (∀ W, Calls Try.prog 11 #[.agg A, .agg B] W fun r w' => r = .returned (.tuple #[.agg D, .bool bb]) ∧ Chg W w') := k1
  have K2 : Hid (∀ W, Calls Try.prog 12 #[.agg A, .agg B] W fun r w' => r = .returned (.tuple #[.agg D, .bool bb]) ∧ Chg W w') := k2
  have K3 : Hid (∀ W, Calls Try.prog 11 #[.agg A, .agg Z00] W fun r w' => r = .returned (.tuple #[.agg Z00, .bool false]) ∧ Chg W w') := k3
  have K4 : Hid (∀ W, Calls Try.prog 11 #[.agg A, .agg O1] W fun r w' => r = .returned (.tuple #[.agg Z00, .bool false]) ∧ Chg W w') := k4
  have K5 : Hid (∀ W, Calls Try.prog 13 #[.agg (byt k)] W fun r w' => r = .returned (.agg (byt e)) ∧ Chg W w') := k5
  have K6 : Hid (∀ W, Calls Try.prog 14 #[.agg (byt k)] W fun r w' => r = .returned (.agg (byt e)) ∧ Chg W w') := k6
  clear k1 k2 k3 k4 k5 k6 HC hk hx hZ00 hD hO1 hA hB
  go_enter Try.func4, Try.ntmps4
  go_upto_region 1 with fail
  obtain ⟨w0, hw0⟩ : ∃ w0, w0 = (w.alloc (.cells A 22)).alloc (.cells B 22) := ⟨_, rfl⟩
  have Z0 : Hid (Chg w w0 ∧ Ar w0 w.heap.size A ∧ Ar w0 (w.heap.size + 1) B) := by
    rw [hw0]
    exact ⟨((Chg.refl w).alloc _).alloc _, (Ar.new w _ _).alloc _, Ar.new1 w _ _ _⟩
  rw [← hw0]
  clear hw0 hsA hsB
  go_wp2_with fail
  go_at_call 8
  refine (head_any _).mono ?_
  rintro r w1 ⟨rfl, hc1⟩
  have Z1 : Hid (Chg w w1 ∧ Ar w1 w.heap.size A ∧ Ar w1 (w.heap.size + 1) B) := ⟨Z0.out.1.trans hc1, Z0.out.2.1.chg hc1, Z0.out.2.2.chg hc1⟩
  clear hc1 Z0
  have r1 := rangeA Z1.out.2.1
  have r2 := rangeA Z1.out.2.2
  go_wp2_with (first | refine wpList_load_mid rfl 22 (.tmp 2) rfl _ _ rfl (A.toList) _ r1 un37 rfl iK ?_ | refine wpList_load_mid rfl 22 (.tmp 3) rfl _ _ rfl (B.toList) _ r2 un37 rfl iX ?_)
  go_at_call 11
  refine (K1.out _).mono ?_
  rintro r v1 ⟨rfl, hc1⟩
  have g1 := heap_alloc_last v1 (.cells Z00 22)
  clear r1 r2
  go_upto_region 3 with (first | refine wpList_store_row rfl 22 _ _ rfl _ _ rfl rfl _ _ g1 sd ld od ?_)
  obtain ⟨w2, hw2⟩ : ∃ w, w = (v1.alloc (.cells Z00 22)).setRow v1.heap.size D := ⟨_, rfl⟩
  obtain ⟨b6, hb6⟩ : ∃ b, b = v1.heap.size := ⟨_, rfl⟩
  have Z2 : Hid (Chg w w2 ∧ Ar w2 w.heap.size A ∧ Ar w2 (w.heap.size + 1) B ∧ Ar w2 b6 D) := by
    have hc : Chg w1 w2 := by rw [hw2]; exact (hc1.alloc _).setRow hc1.size _
    exact ⟨Z1.out.1.trans hc, Z1.out.2.1.chg hc, Z1.out.2.2.chg hc, by rw [hw2, hb6]; exact (Ar.new _ _ _).row _⟩
  rw [← hw2]
  rw [← hb6]
  clear hw2 hb6 g1 hc1 Z1
  have r1 := rangeA Z2.out.2.1
  have r2 := rangeA Z2.out.2.2.1
  go_wp2_with (first | refine wpList_load_mid rfl 22 (.tmp 2) rfl _ _ rfl (A.toList) _ r1 un37 rfl iK ?_ | refine wpList_load_mid rfl 22 (.tmp 3) rfl _ _ rfl (B.toList) _ r2 un37 rfl iX ?_)
  go_at_call 12
  refine (K2.out _).mono ?_
  rintro r v2 ⟨rfl, hc2⟩
  have g1 := heap_alloc_last v2 (.cells Z00 22)
  clear r1 r2
  go_upto_region 4 with (first | refine wpList_store_row rfl 22 _ _ rfl _ _ rfl rfl _ _ g1 sd ld od ?_)
  obtain ⟨w3, hw3⟩ : ∃ w, w = (v2.alloc (.cells Z00 22)).setRow v2.heap.size D := ⟨_, rfl⟩
  obtain ⟨b8, hb8⟩ : ∃ b, b = v2.heap.size := ⟨_, rfl⟩
  have Z3 : Hid (Chg w w3 ∧ Ar w3 w.heap.size A ∧ Ar w3 (w.heap.size + 1) B ∧ Ar w3 b6 D ∧ Ar w3 b8 D) := by
    have hc : Chg w2 w3 := by rw [hw3]; exact (hc2.alloc _).setRow hc2.size _
    exact ⟨Z2.out.1.trans hc, Z2.out.2.1.chg hc, Z2.out.2.2.1.chg hc, Z2.out.2.2.2.chg hc, by rw [hw3, hb8]; exact (Ar.new _ _ _).row _⟩
  rw [← hw3]
  rw [← hb8]
  clear hw3 hb8 g1 hc2 Z2
  have r1 := rangeA Z3.out.2.1
  go_wp2_with (first | refine wpList_load_mid rfl 22 (.tmp 2) rfl _ _ rfl (A.toList) _ r1 un37 rfl iK ?_)
  go_at_call 11
  refine (K3.out _).mono ?_
  rintro r v3 ⟨rfl, hc3⟩
  have g1 := heap_alloc_last v3 (.cells Z00 22)
  clear r1
  go_upto_region 5 with (first | refine wpList_store_row rfl 22 _ _ rfl _ _ rfl rfl _ _ g1 s0 rfl o0 ?_)
  obtain ⟨w4, hw4⟩ : ∃ w, w = (v3.alloc (.cells Z00 22)).setRow v3.heap.size Z00 := ⟨_, rfl⟩
  obtain ⟨b10, hb10⟩ : ∃ b, b = v3.heap.size := ⟨_, rfl⟩
  have Z4 : Hid (Chg w w4 ∧ Ar w4 w.heap.size A ∧ Ar w4 (w.heap.size + 1) B ∧ Ar w4 b6 D ∧ Ar w4 b8 D) := by
    have hc : Chg w3 w4 := by rw [hw4]; exact (hc3.alloc _).setRow hc3.size _
    exact ⟨Z3.out.1.trans hc, Z3.out.2.1.chg hc, Z3.out.2.2.1.chg hc, Z3.out.2.2.2.1.chg hc, Z3.out.2.2.2.2.chg hc⟩
  rw [← hw4]
  rw [← hb10]
  clear hw4 hb10 g1 hc3 Z3
  have r1 := rangeA Z4.out.2.1
  go_wp2_with (first | refine wpList_load_mid rfl 22 (.tmp 2) rfl _ _ rfl (A.toList) _ r1 un37 rfl iK ?_ | refine LB rfl rfl ?_)
  go_at_call 11
  refine (K4.out _).mono ?_
  rintro r v4 ⟨rfl, hc4⟩
  have g1 := heap_alloc_last v4 (.cells Z00 22)
  clear r1
  go_upto_region 6 with (first | refine wpList_store_row rfl 22 _ _ rfl _ _ rfl rfl _ _ g1 s0 rfl o0 ?_)
  obtain ⟨w5, hw5⟩ : ∃ w, w = (v4.alloc (.cells Z00 22)).setRow v4.heap.size Z00 := ⟨_, rfl⟩
  obtain ⟨b12, hb12⟩ : ∃ b, b = v4.heap.size := ⟨_, rfl⟩
  have Z5 : Hid (Chg w w5 ∧ Ar w5 w.heap.size A ∧ Ar w5 (w.heap.size + 1) B ∧ Ar w5 b6 D ∧ Ar w5 b8 D) := by
    have hc : Chg w4 w5 := by rw [hw5]; exact (hc4.alloc _).setRow hc4.size _
    exact ⟨Z4.out.1.trans hc, Z4.out.2.1.chg hc, Z4.out.2.2.1.chg hc, Z4.out.2.2.2.1.chg hc, Z4.out.2.2.2.2.chg hc⟩
  rw [← hw5]
  rw [← hb12]
  clear hw5 hb12 g1 hc4 Z4
  have Z6 : Hid (Chg w w5 ∧ Ar w5 w.heap.size (byt k) ∧ Ar w5 b6 (byt d) ∧ Ar w5 b8 (byt d)) := by
    have q := Z5.out
    rw [HA.out.1, HD.out] at q
    exact ⟨q.1, q.2.1, q.2.2.2.1, q.2.2.2.2⟩
  clear Z5 hz sd ld od s0 o0 iK iX LB K1 K2 K3 K4 HA HD HZ00
  refine wp_region_good 26 (fun j v wg => match j with
    | 0 => v = .bool true
    | 1 => v = .bool true
    | 2 => v = .agg (byt d)
    | 3 => v = .agg (byt d)
    | 4 => v = .bool true
    | 5 => v = .bool true
    | 6 => v = .bool true
    | 7 => v = .bool bb
    | 8 => v = .bool bb
    | 9 => v = .bool true
    | 10 => v = .bool true
    | 11 => v = .bool true
    | 12 => v = .bool false
    | 13 => v = .bool true
    | 14 => v = .bool true
    | 15 => v = .bool true
    | 16 => v = .bool false
    | 17 => v = .bool true
    | 18 => v = .bool true
    | 19 => v = .bool true
    | 20 => v = .agg (byt k)
    | 21 => v = .agg (byt e)
    | 22 => v = .agg (byt k)
    | 23 => v = .agg (byt e)
    | 24 => v = .bool true
    | 25 => v = .bool true
    | _ => True) (by kernel_rfl) (by kernel_rfl) (by kernel_rfl) (by kernel_rfl) (by kernel_rfl) ?_ ?_ ?_
  · intro j v u1 u2 h hc
    match j, h with
    | 0, h => exact h
    | 1, h => exact h
    | 2, h => exact h
    | 3, h => exact h
    | 4, h => exact h
    | 5, h => exact h
    | 6, h => exact h
    | 7, h => exact h
    | 8, h => exact h
    | 9, h => exact h
    | 10, h => exact h
    | 11, h => exact h
    | 12, h => exact h
    | 13, h => exact h
    | 14, h => exact h
    | 15, h => exact h
    | 16, h => exact h
    | 17, h => exact h
    | 18, h => exact h
    | 19, h => exact h
    | 20, h => exact h
    | 21, h => exact h
    | 22, h => exact h
    | 23, h => exact h
    | 24, h => exact h
    | 25, h => exact h
    | _ + 26, h => exact trivial
  · intro i o ac u hi ho hsz hf hg hc
    have hcs : i = 0 ∨ i = 1 ∨ i = 2 ∨ i = 3 ∨ i = 4 ∨ i = 5 ∨ i = 6 ∨ i = 7 ∨ i = 8 ∨ i = 9 ∨ i = 10 ∨ i = 11 ∨ i = 12 ∨ i = 13 ∨ i = 14 ∨ i = 15 ∨ i = 16 ∨ i = 17 ∨ i = 18 ∨ i = 19 ∨ i = 20 ∨ i = 21 ∨ i = 22 ∨ i = 23 ∨ i = 24 ∨ i = 25 := by omega
    rcases hcs with rfl | rfl | rfl | rfl | rfl | rfl | rfl | rfl | rfl | rfl | rfl | rfl | rfl | rfl | rfl | rfl | rfl | rfl | rfl | rfl | rfl | rfl | rfl | rfl | rfl | rfl
    · injection ho with ho
      subst ho
      refine .inl ⟨wanted_none rfl, ?_⟩
      have e1 : ac.eval (.tmp 5) = .bool true := hf 5 (by kernel_rfl)
      exact opG_val (by simp [execOp, e1]) rfl (Chg.refl _)
    · injection ho with ho
      subst ho
      refine .inl ⟨wanted_none rfl, ?_⟩
      have e1 : ac.eval (.tmp 39) = .bool true := hg 0 (by kernel_rfl) (by decide)
      exact opG_val (by simp [execOp, e1]) rfl (Chg.refl _)
    · injection ho with ho
      subst ho
      refine .inl ⟨wanted_by (T := _) (by kernel_rfl) hsz rfl (by decide : 1 < 26) rfl (hg 1 (by kernel_rfl) (by decide)), ?_⟩
      have e1 : ac.eval (.tmp 6) = .pointer (some ⟨b6, 0, none⟩) := hf 6 (by kernel_rfl)
      exact wp_load_mid 22 (.tmp 6) rfl _ _ e1 ((byt d).toList) _ (rangeY (Ar.chg (w := w5.drew) Z6.out.2.2.1.drew hc)) un37 rfl (infoY _) ⟨_, rfl, rfl, Chg.refl _⟩
    · injection ho with ho
      subst ho
      refine .inl ⟨wanted_by (T := _) (by kernel_rfl) hsz rfl (by decide : 1 < 26) rfl (hg 1 (by kernel_rfl) (by decide)), ?_⟩
      have e1 : ac.eval (.tmp 8) = .pointer (some ⟨b8, 0, none⟩) := hf 8 (by kernel_rfl)
      exact wp_load_mid 22 (.tmp 8) rfl _ _ e1 ((byt d).toList) _ (rangeY (Ar.chg (w := w5.drew) Z6.out.2.2.2.drew hc)) un37 rfl (infoY _) ⟨_, rfl, rfl, Chg.refl _⟩
    · injection ho with ho
      subst ho
      refine .inl ⟨wanted_by (T := _) (by kernel_rfl) hsz rfl (by decide : 1 < 26) rfl (hg 1 (by kernel_rfl) (by decide)), ?_⟩
      have e1 : ac.eval (.tmp 41) = .agg (byt d) := hg 2 (by kernel_rfl) (by decide)
      have e2 : ac.eval (.tmp 42) = .agg (byt d) := hg 3 (by kernel_rfl) (by decide)
      exact opG_val (by revert e1 e2; generalize ac.eval = ρ; intro e1 e2; simp [go_sem, execOp, e1, e2, eqB_self]) rfl (Chg.refl _)
    · injection ho with ho
      subst ho
      refine .inl ⟨wanted_none rfl, ?_⟩
      have e1 : ac.eval (.tmp 40) = .bool true := hg 1 (by kernel_rfl) (by decide)
      have e2 : ac.eval (.tmp 43) = .bool true := hg 4 (by kernel_rfl) (by decide)
      have e3 : ac.eval (.const (.bool false)) = .bool false := rfl
      exact opG_val (by revert e1 e2 e3; generalize ac.eval = ρ; intro e1 e2 e3; simp [go_sem, execOp, e1, e2, e3]) rfl (Chg.refl _)
    · injection ho with ho
      subst ho
      refine .inl ⟨wanted_none rfl, ?_⟩
      have e1 : ac.eval (.tmp 44) = .bool true := hg 5 (by kernel_rfl) (by decide)
      exact opG_val (by simp [execOp, e1]) rfl (Chg.refl _)
    · injection ho with ho
      subst ho
      refine .inl ⟨wanted_by (T := _) (by kernel_rfl) hsz rfl (by decide : 6 < 26) rfl (hg 6 (by kernel_rfl) (by decide)), ?_⟩
      have e1 : ac.eval (.tmp 7) = .bool bb := hf 7 (by kernel_rfl)
      exact opG_val (by simp [execOp, e1]) rfl (Chg.refl _)
    · injection ho with ho
      subst ho
      refine .inl ⟨wanted_by (T := _) (by kernel_rfl) hsz rfl (by decide : 6 < 26) rfl (hg 6 (by kernel_rfl) (by decide)), ?_⟩
      have e1 : ac.eval (.tmp 9) = .bool bb := hf 9 (by kernel_rfl)
      exact opG_val (by simp [execOp, e1]) rfl (Chg.refl _)
    · injection ho with ho
      subst ho
      refine .inl ⟨wanted_by (T := _) (by kernel_rfl) hsz rfl (by decide : 6 < 26) rfl (hg 6 (by kernel_rfl) (by decide)), ?_⟩
      have e1 : ac.eval (.tmp 46) = .bool bb := hg 7 (by kernel_rfl) (by decide)
      have e2 : ac.eval (.tmp 47) = .bool bb := hg 8 (by kernel_rfl) (by decide)
      exact opG_val (by revert e1 e2; generalize ac.eval = ρ; intro e1 e2; simp [go_sem, execOp, e1, e2]) rfl (Chg.refl _)
    · injection ho with ho
      subst ho
      refine .inl ⟨wanted_none rfl, ?_⟩
      have e1 : ac.eval (.tmp 45) = .bool true := hg 6 (by kernel_rfl) (by decide)
      have e2 : ac.eval (.tmp 48) = .bool true := hg 9 (by kernel_rfl) (by decide)
      have e3 : ac.eval (.const (.bool false)) = .bool false := rfl
      exact opG_val (by revert e1 e2 e3; generalize ac.eval = ρ; intro e1 e2 e3; simp [go_sem, execOp, e1, e2, e3]) rfl (Chg.refl _)
    · injection ho with ho
      subst ho
      refine .inl ⟨wanted_none rfl, ?_⟩
      have e1 : ac.eval (.tmp 49) = .bool true := hg 10 (by kernel_rfl) (by decide)
      exact opG_val (by simp [execOp, e1]) rfl (Chg.refl _)
    · injection ho with ho
      subst ho
      refine .inl ⟨wanted_by (T := _) (by kernel_rfl) hsz rfl (by decide : 11 < 26) rfl (hg 11 (by kernel_rfl) (by decide)), ?_⟩
      have e1 : ac.eval (.tmp 11) = .bool false := hf 11 (by kernel_rfl)
      exact opG_val (by simp [execOp, e1]) rfl (Chg.refl _)
    · injection ho with ho
      subst ho
      refine .inl ⟨wanted_by (T := _) (by kernel_rfl) hsz rfl (by decide : 11 < 26) rfl (hg 11 (by kernel_rfl) (by decide)), ?_⟩
      have e1 : ac.eval (.tmp 51) = .bool false := hg 12 (by kernel_rfl) (by decide)
      exact opG_val (by revert e1; generalize ac.eval = ρ; intro e1; simp [go_sem, execOp, e1]) rfl (Chg.refl _)
    · injection ho with ho
      subst ho
      refine .inl ⟨wanted_none rfl, ?_⟩
      have e1 : ac.eval (.tmp 50) = .bool true := hg 11 (by kernel_rfl) (by decide)
      have e2 : ac.eval (.tmp 52) = .bool true := hg 13 (by kernel_rfl) (by decide)
      have e3 : ac.eval (.const (.bool false)) = .bool false := rfl
      exact opG_val (by revert e1 e2 e3; generalize ac.eval = ρ; intro e1 e2 e3; simp [go_sem, execOp, e1, e2, e3]) rfl (Chg.refl _)
    · injection ho with ho
      subst ho
      refine .inl ⟨wanted_none rfl, ?_⟩
      have e1 : ac.eval (.tmp 53) = .bool true := hg 14 (by kernel_rfl) (by decide)
      exact opG_val (by simp [execOp, e1]) rfl (Chg.refl _)
    · injection ho with ho
      subst ho
      refine .inl ⟨wanted_by (T := _) (by kernel_rfl) hsz rfl (by decide : 15 < 26) rfl (hg 15 (by kernel_rfl) (by decide)), ?_⟩
      have e1 : ac.eval (.tmp 13) = .bool false := hf 13 (by kernel_rfl)
      exact opG_val (by simp [execOp, e1]) rfl (Chg.refl _)
    · injection ho with ho
      subst ho
      refine .inl ⟨wanted_by (T := _) (by kernel_rfl) hsz rfl (by decide : 15 < 26) rfl (hg 15 (by kernel_rfl) (by decide)), ?_⟩
      have e1 : ac.eval (.tmp 55) = .bool false := hg 16 (by kernel_rfl) (by decide)
      exact opG_val (by revert e1; generalize ac.eval = ρ; intro e1; simp [go_sem, execOp, e1]) rfl (Chg.refl _)
    · injection ho with ho
      subst ho
      refine .inl ⟨wanted_none rfl, ?_⟩
      have e1 : ac.eval (.tmp 54) = .bool true := hg 15 (by kernel_rfl) (by decide)
      have e2 : ac.eval (.tmp 56) = .bool true := hg 17 (by kernel_rfl) (by decide)
      have e3 : ac.eval (.const (.bool false)) = .bool false := rfl
      exact opG_val (by revert e1 e2 e3; generalize ac.eval = ρ; intro e1 e2 e3; simp [go_sem, execOp, e1, e2, e3]) rfl (Chg.refl _)
    · injection ho with ho
      subst ho
      refine .inl ⟨wanted_none rfl, ?_⟩
      have e1 : ac.eval (.tmp 57) = .bool true := hg 18 (by kernel_rfl) (by decide)
      exact opG_val (by simp [execOp, e1]) rfl (Chg.refl _)
    · injection ho with ho
      subst ho
      refine .inl ⟨wanted_by (T := _) (by kernel_rfl) hsz rfl (by decide : 19 < 26) rfl (hg 19 (by kernel_rfl) (by decide)), ?_⟩
      have e1 : ac.eval (.tmp 2) = .pointer (some ⟨w.heap.size, 0, none⟩) := hf 2 (by kernel_rfl)
      exact wp_load_mid 22 (.tmp 2) rfl _ _ e1 ((byt k).toList) _ (rangeY (Ar.chg (w := w5.drew) Z6.out.2.1.drew hc)) un37 rfl (infoY _) ⟨_, rfl, rfl, Chg.refl _⟩
    · injection ho with ho
      subst ho
      refine .inl ⟨wanted_by (T := _) (by kernel_rfl) hsz rfl (by decide : 19 < 26) rfl (hg 19 (by kernel_rfl) (by decide)), ?_⟩
      have e1 : ac.eval (.tmp 59) = .agg (byt k) := hg 20 (by kernel_rfl) (by decide)
      refine opG_go 13 Try.f13 #[.tmp 59] #[22] rfl Try.func13 (by kernel_rfl) (by kernel_rfl) (by simp [e1]) (Calls.mono (K5.out _) ?_)
      rintro r u2 ⟨rfl, hc2⟩
      exact ⟨_, rfl, rfl, hc2⟩
    · injection ho with ho
      subst ho
      refine .inl ⟨wanted_by (T := _) (by kernel_rfl) hsz rfl (by decide : 19 < 26) rfl (hg 19 (by kernel_rfl) (by decide)), ?_⟩
      have e1 : ac.eval (.tmp 2) = .pointer (some ⟨w.heap.size, 0, none⟩) := hf 2 (by kernel_rfl)
      exact wp_load_mid 22 (.tmp 2) rfl _ _ e1 ((byt k).toList) _ (rangeY (Ar.chg (w := w5.drew) Z6.out.2.1.drew hc)) un37 rfl (infoY _) ⟨_, rfl, rfl, Chg.refl _⟩
    · injection ho with ho
      subst ho
      refine .inl ⟨wanted_by (T := _) (by kernel_rfl) hsz rfl (by decide : 19 < 26) rfl (hg 19 (by kernel_rfl) (by decide)), ?_⟩
      have e1 : ac.eval (.tmp 61) = .agg (byt k) := hg 22 (by kernel_rfl) (by decide)
      refine opG_go 14 Try.f14 #[.tmp 61] #[22] rfl Try.func14 (by kernel_rfl) (by kernel_rfl) (by simp [e1]) (Calls.mono (K6.out _) ?_)
      rintro r u2 ⟨rfl, hc2⟩
      exact ⟨_, rfl, rfl, hc2⟩
    · injection ho with ho
      subst ho
      refine .inl ⟨wanted_by (T := _) (by kernel_rfl) hsz rfl (by decide : 19 < 26) rfl (hg 19 (by kernel_rfl) (by decide)), ?_⟩
      have e1 : ac.eval (.tmp 60) = .agg (byt e) := hg 21 (by kernel_rfl) (by decide)
      have e2 : ac.eval (.tmp 62) = .agg (byt e) := hg 23 (by kernel_rfl) (by decide)
      exact opG_val (by revert e1 e2; generalize ac.eval = ρ; intro e1 e2; simp [go_sem, execOp, e1, e2, eqB_self]) rfl (Chg.refl _)
    · injection ho with ho
      subst ho
      refine .inl ⟨wanted_none rfl, ?_⟩
      have e1 : ac.eval (.tmp 58) = .bool true := hg 19 (by kernel_rfl) (by decide)
      have e2 : ac.eval (.tmp 63) = .bool true := hg 24 (by kernel_rfl) (by decide)
      have e3 : ac.eval (.const (.bool false)) = .bool false := rfl
      exact opG_val (by revert e1 e2 e3; generalize ac.eval = ρ; intro e1 e2 e3; simp [go_sem, execOp, e1, e2, e3]) rfl (Chg.refl _)
  · intro o u V ho hV hc
    injection ho with ho
    subst ho
    refine ⟨rfl, ?_⟩
    have q39 : V 0 = .bool true := hV 0 (by decide)
    have q40 : V 1 = .bool true := hV 1 (by decide)
    have q41 : V 2 = .agg (byt d) := hV 2 (by decide)
    have q42 : V 3 = .agg (byt d) := hV 3 (by decide)
    have q43 : V 4 = .bool true := hV 4 (by decide)
    have q44 : V 5 = .bool true := hV 5 (by decide)
    have q45 : V 6 = .bool true := hV 6 (by decide)
    have q46 : V 7 = .bool bb := hV 7 (by decide)
    have q47 : V 8 = .bool bb := hV 8 (by decide)
    have q48 : V 9 = .bool true := hV 9 (by decide)
    have q49 : V 10 = .bool true := hV 10 (by decide)
    have q50 : V 11 = .bool true := hV 11 (by decide)
    have q51 : V 12 = .bool false := hV 12 (by decide)
    have q52 : V 13 = .bool true := hV 13 (by decide)
    have q53 : V 14 = .bool true := hV 14 (by decide)
    have q54 : V 15 = .bool true := hV 15 (by decide)
    have q55 : V 16 = .bool false := hV 16 (by decide)
    have q56 : V 17 = .bool true := hV 17 (by decide)
    have q57 : V 18 = .bool true := hV 18 (by decide)
    have q58 : V 19 = .bool true := hV 19 (by decide)
    have q59 : V 20 = .agg (byt k) := hV 20 (by decide)
    have q60 : V 21 = .agg (byt e) := hV 21 (by decide)
    have q61 : V 22 = .agg (byt k) := hV 22 (by decide)
    have q62 : V 23 = .agg (byt e) := hV 23 (by decide)
    have q63 : V 24 = .bool true := hV 24 (by decide)
    have q64 : V 25 = .bool true := hV 25 (by decide)
    refine op_asg (.tmp 64) (.bool true) rfl (Eq.trans (by rfl) q64) ?_
    have hcu : Hid (Chg w u) := (Z6.out.1.drew).trans hc
    go_wp2_with fail
    go_ret
    exact ⟨rfl, hcu.out⟩
end Go.Proofs.Ytiehjhlekpjlaaa
