/-
  Bits that are not named change nothing: the law, walked.
-/
import Derived.Test.YtiehjhlekpjlaaaTw
namespace Go.Proofs.Ytiehjhlekpjlaaa
open Go.RowKit
set_option linter.unusedVariables false

set_option maxRecDepth 100000 in
set_option maxHeartbeats 8000000 in
theorem bits_walk (k x : Nat → Int) (l h : Int) (hk : ∀ i, B8 (k i)) (hx : ∀ i, B8 (x i)) (hl : B8 l) (hh : B8 h) (w : World) : Calls Try.prog 6 #[.agg (byt k), .agg (byt x), .int .u8 l, .int .u8 h] w fun r w' => r = .returned (.bool true) ∧ Chg w w' := by
  have HC : Hid (∃ d : Nat → Int, (∀ W, Calls Try.prog 9 #[.agg (byt k), .agg (byt x)] W fun r w' => r = .returned (.agg (byt d)) ∧ Chg W w') ∧ (∀ W, Calls Try.prog 9 #[.agg (byt (jB k l h)), .agg (byt (vB x h))] W fun r w' => r = .returned (.agg (byt d)) ∧ Chg W w')) := by
    refine ⟨mB k x, fun W => multX_any k x hk hx W, fun W => ?_⟩
    rw [← mB_bits hk hx hl hh]
    exact multX_any _ _ (jB_8 hk hl hh) (vB_8 hx hh) W
  obtain ⟨d, k1, k2⟩ := HC.out
  have K1 : Hid (∀ W, Calls Try.prog 9 #[.agg (byt k), .agg (byt x)] W fun r w' => r = .returned (.agg (byt d)) ∧ Chg W w') := k1
  have K2 : Hid (∀ W, Calls Try.prog 9 #[.agg (byt (jB k l h)), .agg (byt (vB x h))] W fun r w' => r = .returned (.agg (byt d)) ∧ Chg W w') := k2
  clear k1 k2 HC hk hx hl hh
  have iK := infoY k
  have iX := infoY x
  have sK := szY k
  have sX := szY x
  have lK := lenY zD k
  have lX := lenY zD x
  have oK := oneY k
  have oX := oneY x
  have hz := zero37.1
  obtain ⟨Z00, hZ00⟩ : ∃ A, A = byt zD := ⟨_, rfl⟩
  rw [← hZ00] at hz lK lX
  clear hZ00
  have hsA := byt_size k
  have hsB := byt_size x
  obtain ⟨A, hA⟩ : ∃ A, A = byt k := ⟨_, rfl⟩
  obtain ⟨B, hB⟩ : ∃ A, A = byt x := ⟨_, rfl⟩
  have HA : Hid (A = byt k ∧ B = byt x) := ⟨hA, hB⟩
  rw [← hA] at hsA iK sK lK oK ⊢
  rw [← hB] at hsB iX sX lX oX ⊢
  clear hA hB
  obtain ⟨k0, hk0⟩ : ∃ d, d = k 0 := ⟨_, rfl⟩
  obtain ⟨k31, hk31⟩ : ∃ d, d = k 31 := ⟨_, rfl⟩
  obtain ⟨x31, hx31⟩ : ∃ d, d = x 31 := ⟨_, rfl⟩
  obtain ⟨m0, hm0⟩ : ∃ m, bits .and .u8 l 7 = m := ⟨_, rfl⟩
  obtain ⟨m1, hm1⟩ : ∃ m, bits .and .u8 h 192 = m := ⟨_, rfl⟩
  obtain ⟨m2, hm2⟩ : ∃ m, bits .and .u8 h 128 = m := ⟨_, rfl⟩
  obtain ⟨y0, hy0⟩ : ∃ m, bits .xor .u8 k0 m0 = m := ⟨_, rfl⟩
  obtain ⟨y1, hy1⟩ : ∃ m, bits .xor .u8 k31 m1 = m := ⟨_, rfl⟩
  obtain ⟨y2, hy2⟩ : ∃ m, bits .xor .u8 x31 m2 = m := ⟨_, rfl⟩
  have HF : Hid (k0 = k 0 ∧ k31 = k 31 ∧ x31 = x 31 ∧ y0 = bits .xor .u8 (k 0) (bits .and .u8 l 7) ∧ y1 = bits .xor .u8 (k 31) (bits .and .u8 h 192) ∧ y2 = bits .xor .u8 (x 31) (bits .and .u8 h 128)) := by
    refine ⟨hk0, hk31, hx31, ?_, ?_, ?_⟩
    · rw [← hy0, ← hm0, hk0]
    · rw [← hy1, ← hm1, hk31]
    · rw [← hy2, ← hm2, hx31]
  clear hk0 hk31 hx31
  go_enter Try.func6, Try.ntmps6
  go_upto_region 1 with fail
  obtain ⟨w0, hw0⟩ : ∃ w0, w0 = (w.alloc (.cells A 22)).alloc (.cells B 22) := ⟨_, rfl⟩
  have Z0 : Hid (Chg w w0 ∧ Ar w0 w.heap.size A ∧ Ar w0 (w.heap.size + 1) B) := by
    rw [hw0]
    exact ⟨((Chg.refl w).alloc _).alloc _, (Ar.new w _ _).alloc _, Ar.new1 w _ _ _⟩
  rw [← hw0]
  clear hw0 hsA hsB
  go_wp2_with fail
  go_at_call 8
  refine (head_any _).mono ?_
  rintro r w1 ⟨rfl, hc1⟩
  have Z1 : Hid (Chg w w1 ∧ Ar w1 w.heap.size A ∧ Ar w1 (w.heap.size + 1) B) := ⟨Z0.out.1.trans hc1, Z0.out.2.1.chg hc1, Z0.out.2.2.chg hc1⟩
  clear hc1 Z0
  have r1 := rangeA Z1.out.2.1
  have g1 := heap_alloc_last w1 (.cells Z00 22)
  go_upto_region 3 with (first
    | refine wpList_load_mid rfl 22 (.tmp 4) rfl _ _ rfl (A.toList) _ r1 un37 rfl iK ?_
    | refine wpList_store_row rfl 22 _ _ rfl _ _ rfl rfl _ _ g1 sK lK oK ?_)
  obtain ⟨w2, hw2⟩ : ∃ w2, w2 = (w1.alloc (.cells Z00 22)).setRow w1.heap.size A := ⟨_, rfl⟩
  obtain ⟨b10, hb10⟩ : ∃ b, b = w1.heap.size := ⟨_, rfl⟩
  have Z2 : Hid (Chg w w2 ∧ Ar w2 w.heap.size (byt k) ∧ Ar w2 (w.heap.size + 1) B ∧ Ar w2 b10 (byt k) ∧ w.heap.size + 1 < b10) := by
    have hc : Chg w1 w2 := by rw [hw2]; exact ((Chg.refl w1).alloc _).setRow (Nat.le_refl _) _
    refine ⟨Z1.out.1.trans hc, ?_, Z1.out.2.2.chg hc, ?_, ?_⟩
    · rw [← HA.out.1]; exact Z1.out.2.1.chg hc
    · rw [hw2, hb10, ← HA.out.1]; exact (Ar.new w1 _ _).row _
    · rw [hb10]; exact Z1.out.2.2.lt
  rw [← hw2]
  rw [← hb10]
  clear hw2 hb10 g1 r1 Z1
  dsimp only [Act.put]
  have c0 : w2.cell? ⟨b10, 0, none⟩ = some (.int .u8 k0) := by rw [HF.out.1]; exact (Z2.out.2.2.2.1.cell 0).trans (arr_get _ _ _ (by decide))
  have z0 := Z2.out.2.2.2.1.frozen 0
  go_upto_region 4 with fail
  obtain ⟨w3, hw3⟩ : ∃ w3, w3 = w2.setCell ⟨b10, 0, none⟩ (.int .u8 y0) := ⟨_, rfl⟩
  have Z3 : Hid (Chg w w3 ∧ Ar w3 w.heap.size (byt k) ∧ Ar w3 (w.heap.size + 1) B ∧ Ar w3 b10 (byt (upd k 0 (bits .xor .u8 (k 0) (bits .and .u8 l 7)))) ∧ w.heap.size + 1 < b10) := by
    obtain ⟨q0, q1, q2, q3, q4⟩ := Z2.out
    rw [hw3, HF.out.2.2.2.1]
    refine ⟨q0.setCell (by dsimp only; omega) _, q1.other (by dsimp only; omega) _, q2.other (by dsimp only; omega) _, ?_, q4⟩
    have := q3.set 0 (.int .u8 (bits .xor .u8 (k 0) (bits .and .u8 l 7)))
    rw [show byt k = arr .u8 32 k from rfl, arr_set] at this
    exact this
  rw [← hw3]
  clear hw3 c0 z0 Z2 hy0 hm0
  have c1 : w3.cell? ⟨b10, 31, none⟩ = some (.int .u8 k31) := by rw [HF.out.2.1]; exact (Z3.out.2.2.2.1.cell 31).trans (arr_get _ _ _ (by decide))
  have z1 := Z3.out.2.2.2.1.frozen 31
  go_upto_region 5 with fail
  obtain ⟨w4, hw4⟩ : ∃ w4, w4 = w3.setCell ⟨b10, 31, none⟩ (.int .u8 y1) := ⟨_, rfl⟩
  have Z4 : Hid (Chg w w4 ∧ Ar w4 w.heap.size (byt k) ∧ Ar w4 (w.heap.size + 1) B ∧ Ar w4 b10 (byt (jB k l h)) ∧ w.heap.size + 1 < b10) := by
    obtain ⟨q0, q1, q2, q3, q4⟩ := Z3.out
    rw [hw4, HF.out.2.2.2.2.1]
    refine ⟨q0.setCell (by dsimp only; omega) _, q1.other (by dsimp only; omega) _, q2.other (by dsimp only; omega) _, ?_, q4⟩
    have := q3.set 31 (.int .u8 (bits .xor .u8 (k 31) (bits .and .u8 h 192)))
    rw [show byt (upd k 0 (bits .xor .u8 (k 0) (bits .and .u8 l 7))) = arr .u8 32 (upd k 0 (bits .xor .u8 (k 0) (bits .and .u8 l 7))) from rfl, arr_set] at this
    exact this
  rw [← hw4]
  clear hw4 c1 z1 Z3 hy1 hm1
  have r1 := rangeA Z4.out.2.2.1
  have g1 := heap_alloc_last w4 (.cells Z00 22)
  go_upto_region 6 with (first
    | refine wpList_load_mid rfl 22 (.tmp 5) rfl _ _ rfl (B.toList) _ r1 un37 rfl iX ?_
    | refine wpList_store_row rfl 22 _ _ rfl _ _ rfl rfl _ _ g1 sX lX oX ?_)
  obtain ⟨w5, hw5⟩ : ∃ w5, w5 = (w4.alloc (.cells Z00 22)).setRow w4.heap.size B := ⟨_, rfl⟩
  obtain ⟨b11, hb11⟩ : ∃ b, b = w4.heap.size := ⟨_, rfl⟩
  have Z5 : Hid (Chg w w5 ∧ Ar w5 w.heap.size (byt k) ∧ Ar w5 (w.heap.size + 1) (byt x) ∧ Ar w5 b10 (byt (jB k l h)) ∧ Ar w5 b11 (byt x) ∧ w.heap.size + 1 < b10 ∧ b10 < b11) := by
    obtain ⟨q0, q1, q2, q3, q4⟩ := Z4.out
    have hc : Chg w4 w5 := by rw [hw5]; exact ((Chg.refl w4).alloc _).setRow (Nat.le_refl _) _
    refine ⟨q0.trans hc, q1.chg hc, ?_, q3.chg hc, ?_, q4, ?_⟩
    · rw [← HA.out.2]; exact q2.chg hc
    · rw [hw5, hb11, ← HA.out.2]; exact (Ar.new w4 _ _).row _
    · rw [hb11]; exact q3.lt
  rw [← hw5]
  rw [← hb11]
  clear hw5 hb11 g1 r1 Z4
  dsimp only [Act.put]
  have c2 : w5.cell? ⟨b11, 31, none⟩ = some (.int .u8 x31) := by rw [HF.out.2.2.1]; exact (Z5.out.2.2.2.2.1.cell 31).trans (arr_get _ _ _ (by decide))
  have z2 := Z5.out.2.2.2.2.1.frozen 31
  go_upto_region 7 with fail
  obtain ⟨w6, hw6⟩ : ∃ w6, w6 = w5.setCell ⟨b11, 31, none⟩ (.int .u8 y2) := ⟨_, rfl⟩
  have Z6 : Hid (Chg w w6 ∧ Ar w6 w.heap.size (byt k) ∧ Ar w6 (w.heap.size + 1) (byt x) ∧ Ar w6 b10 (byt (jB k l h)) ∧ Ar w6 b11 (byt (vB x h))) := by
    obtain ⟨q0, q1, q2, q3, q4, q5, q6⟩ := Z5.out
    rw [hw6, HF.out.2.2.2.2.2]
    refine ⟨q0.setCell (by dsimp only; omega) _, q1.other (by dsimp only; omega) _, q2.other (by dsimp only; omega) _, q3.other (by dsimp only; omega) _, ?_⟩
    have := q4.set 31 (.int .u8 (bits .xor .u8 (x 31) (bits .and .u8 h 128)))
    rw [show byt x = arr .u8 32 x from rfl, arr_set] at this
    exact this
  rw [← hw6]
  clear hw6 c2 z2 Z5 hy2 hm2 HF iK iX sK sX lK lX oK oX hz HA
  obtain ⟨jj, hj⟩ : ∃ j, j = jB k l h := ⟨_, rfl⟩
  obtain ⟨xx, hv⟩ : ∃ v, v = vB x h := ⟨_, rfl⟩
  rw [← hj, ← hv] at K2 Z6
  clear hj hv
  refine wp_region_good 10 (fun j v wg => match j with
    | 0 => v = .bool true
    | 1 => v = .bool true
    | 2 => v = .agg (byt k)
    | 3 => v = .agg (byt x)
    | 4 => v = .agg (byt d)
    | 5 => v = .agg (byt jj)
    | 6 => v = .agg (byt xx)
    | 7 => v = .agg (byt d)
    | 8 => v = .bool true
    | 9 => v = .bool true
    | _ => True) (by kernel_rfl) (by kernel_rfl) (by kernel_rfl) (by kernel_rfl) (by kernel_rfl) ?_ ?_ ?_
  · intro j v u1 u2 h hc
    match j, h with
    | 0, h => exact h
    | 1, h => exact h
    | 2, h => exact h
    | 3, h => exact h
    | 4, h => exact h
    | 5, h => exact h
    | 6, h => exact h
    | 7, h => exact h
    | 8, h => exact h
    | 9, h => exact h
    | _ + 10, h => exact trivial
  · intro i o ac u hi ho hsz hf hg hc
    have hcs : i = 0 ∨ i = 1 ∨ i = 2 ∨ i = 3 ∨ i = 4 ∨ i = 5 ∨ i = 6 ∨ i = 7 ∨ i = 8 ∨ i = 9 := by omega
    rcases hcs with rfl | rfl | rfl | rfl | rfl | rfl | rfl | rfl | rfl | rfl
    · injection ho with ho
      subst ho
      refine .inl ⟨wanted_none rfl, ?_⟩
      have e1 : ac.eval (.tmp 9) = .bool true := hf 9 (by kernel_rfl)
      exact opG_val (by simp [execOp, e1]) rfl (Chg.refl _)
    · injection ho with ho
      subst ho
      refine .inl ⟨wanted_none rfl, ?_⟩
      have e1 : ac.eval (.tmp 33) = .bool true := hg 0 (by kernel_rfl) (by decide)
      exact opG_val (by simp [execOp, e1]) rfl (Chg.refl _)
    · injection ho with ho
      subst ho
      refine .inl ⟨wanted_by (T := _) (by kernel_rfl) hsz rfl (by decide : 1 < 10) rfl (hg 1 (by kernel_rfl) (by decide)), ?_⟩
      have e1 : ac.eval (.tmp 4) = .pointer (some ⟨w.heap.size, 0, none⟩) := hf 4 (by kernel_rfl)
      exact wp_load_mid 22 (.tmp 4) rfl _ _ e1 ((byt k).toList) _ (rangeY (Ar.chg (w := w6.drew) Z6.out.2.1.drew hc)) un37 rfl (infoY _) ⟨_, rfl, rfl, Chg.refl _⟩
    · injection ho with ho
      subst ho
      refine .inl ⟨wanted_by (T := _) (by kernel_rfl) hsz rfl (by decide : 1 < 10) rfl (hg 1 (by kernel_rfl) (by decide)), ?_⟩
      have e1 : ac.eval (.tmp 5) = .pointer (some ⟨w.heap.size + 1, 0, none⟩) := hf 5 (by kernel_rfl)
      exact wp_load_mid 22 (.tmp 5) rfl _ _ e1 ((byt x).toList) _ (rangeY (Ar.chg (w := w6.drew) Z6.out.2.2.1.drew hc)) un37 rfl (infoY _) ⟨_, rfl, rfl, Chg.refl _⟩
    · injection ho with ho
      subst ho
      refine .inl ⟨wanted_by (T := _) (by kernel_rfl) hsz rfl (by decide : 1 < 10) rfl (hg 1 (by kernel_rfl) (by decide)), ?_⟩
      have e1 : ac.eval (.tmp 35) = .agg (byt k) := hg 2 (by kernel_rfl) (by decide)
      have e2 : ac.eval (.tmp 36) = .agg (byt x) := hg 3 (by kernel_rfl) (by decide)
      refine opG_go 9 Try.f9 #[.tmp 35, .tmp 36] #[22, 22] rfl Try.func9 (by kernel_rfl) (by kernel_rfl) (by simp [e1, e2]) (Calls.mono (K1.out _) ?_)
      rintro r u2 ⟨rfl, hc2⟩
      exact ⟨_, rfl, rfl, hc2⟩
    · injection ho with ho
      subst ho
      refine .inl ⟨wanted_by (T := _) (by kernel_rfl) hsz rfl (by decide : 1 < 10) rfl (hg 1 (by kernel_rfl) (by decide)), ?_⟩
      have e1 : ac.eval (.tmp 10) = .pointer (some ⟨b10, 0, none⟩) := hf 10 (by kernel_rfl)
      exact wp_load_mid 22 (.tmp 10) rfl _ _ e1 ((byt jj).toList) _ (rangeY (Ar.chg (w := w6.drew) Z6.out.2.2.2.1.drew hc)) un37 rfl (infoY _) ⟨_, rfl, rfl, Chg.refl _⟩
    · injection ho with ho
      subst ho
      refine .inl ⟨wanted_by (T := _) (by kernel_rfl) hsz rfl (by decide : 1 < 10) rfl (hg 1 (by kernel_rfl) (by decide)), ?_⟩
      have e1 : ac.eval (.tmp 11) = .pointer (some ⟨b11, 0, none⟩) := hf 11 (by kernel_rfl)
      exact wp_load_mid 22 (.tmp 11) rfl _ _ e1 ((byt xx).toList) _ (rangeY (Ar.chg (w := w6.drew) Z6.out.2.2.2.2.drew hc)) un37 rfl (infoY _) ⟨_, rfl, rfl, Chg.refl _⟩
    · injection ho with ho
      subst ho
      refine .inl ⟨wanted_by (T := _) (by kernel_rfl) hsz rfl (by decide : 1 < 10) rfl (hg 1 (by kernel_rfl) (by decide)), ?_⟩
      have e1 : ac.eval (.tmp 38) = .agg (byt jj) := hg 5 (by kernel_rfl) (by decide)
      have e2 : ac.eval (.tmp 39) = .agg (byt xx) := hg 6 (by kernel_rfl) (by decide)
      refine opG_go 9 Try.f9 #[.tmp 38, .tmp 39] #[22, 22] rfl Try.func9 (by kernel_rfl) (by kernel_rfl) (by simp [e1, e2]) (Calls.mono (K2.out _) ?_)
      rintro r u2 ⟨rfl, hc2⟩
      exact ⟨_, rfl, rfl, hc2⟩
    · injection ho with ho
      subst ho
      refine .inl ⟨wanted_by (T := _) (by kernel_rfl) hsz rfl (by decide : 1 < 10) rfl (hg 1 (by kernel_rfl) (by decide)), ?_⟩
      have e1 : ac.eval (.tmp 37) = .agg (byt d) := hg 4 (by kernel_rfl) (by decide)
      have e2 : ac.eval (.tmp 40) = .agg (byt d) := hg 7 (by kernel_rfl) (by decide)
      exact opG_val (by revert e1 e2; generalize ac.eval = ρ; intro e1 e2; simp [go_sem, execOp, e1, e2, eqB_self]) rfl (Chg.refl _)
    · injection ho with ho
      subst ho
      refine .inl ⟨wanted_none rfl, ?_⟩
      have e1 : ac.eval (.tmp 34) = .bool true := hg 1 (by kernel_rfl) (by decide)
      have e2 : ac.eval (.tmp 41) = .bool true := hg 8 (by kernel_rfl) (by decide)
      have e3 : ac.eval (.const (.bool false)) = .bool false := rfl
      exact opG_val (by revert e1 e2 e3; generalize ac.eval = ρ; intro e1 e2 e3; simp [go_sem, execOp, e1, e2, e3]) rfl (Chg.refl _)
  · intro o u V ho hV hc
    injection ho with ho
    subst ho
    refine ⟨rfl, ?_⟩
    have q33 : V 0 = .bool true := hV 0 (by decide)
    have q34 : V 1 = .bool true := hV 1 (by decide)
    have q35 : V 2 = .agg (byt k) := hV 2 (by decide)
    have q36 : V 3 = .agg (byt x) := hV 3 (by decide)
    have q37 : V 4 = .agg (byt d) := hV 4 (by decide)
    have q38 : V 5 = .agg (byt jj) := hV 5 (by decide)
    have q39 : V 6 = .agg (byt xx) := hV 6 (by decide)
    have q40 : V 7 = .agg (byt d) := hV 7 (by decide)
    have q41 : V 8 = .bool true := hV 8 (by decide)
    have q42 : V 9 = .bool true := hV 9 (by decide)
    refine op_asg (.tmp 42) (.bool true) rfl (Eq.trans (by rfl) q42) ?_
    have hcu : Hid (Chg w u) := (Z6.out.1.drew).trans hc
    go_wp2_with fail
    go_ret
    exact ⟨rfl, hcu.out⟩
end Go.Proofs.Ytiehjhlekpjlaaa
