/-
  Public keys and secrets, as the document answers them.
-/
import Derived.Test.YtiehjhlekpjlaaaDm
namespace Go.Proofs.Ytiehjhlekpjlaaa
open Go.RowKit
set_option linter.unusedVariables false

set_option maxRecDepth 100000 in
set_option maxHeartbeats 8000000 in
theorem publicY_any (e : Nat → Int) (he : ∀ i, B8 (e i)) (w : World) : Calls Try.prog 14 #[.agg (byt e)] w fun r w' => r = .returned (.agg (byt (mB e by9))) ∧ Chg w w' := by
  have HN : Hid (∀ i, B8 (e i)) := he
  have hz := zero37.1
  have hsA := byt_size e
  have iA := infoY e
  have s1 := szY (mB e by9)
  have l1 := lenY zD (mB e by9)
  have o1 := oneY (mB e by9)
  have k := fun W => multY_any e by9 he by9_8 W
  obtain ⟨A, hA⟩ : ∃ A, A = byt e := ⟨_, rfl⟩
  obtain ⟨Z0, hZ0⟩ : ∃ A, A = byt zD := ⟨_, rfl⟩
  obtain ⟨M, hM⟩ : ∃ A, A = byt (mB e by9) := ⟨_, rfl⟩
  have HA : Hid (A = byt e ∧ Z0 = byt zD ∧ M = byt (mB e by9)) := ⟨hA, hZ0, hM⟩
  rw [← hA] at hsA iA k ⊢
  rw [← hZ0] at hz l1
  rw [← hM] at s1 l1 o1 k ⊢
  have HK : Hid (∀ W, Calls Try.prog 10 #[.agg A, .agg (byt by9)] W fun r w' => r = .returned (.agg M) ∧ Chg W w') := k
  clear hA hZ0 hM he k
  go_enter Try.func14, Try.ntmps14
  go_upto_region 1 with fail
  obtain ⟨w1, hw1⟩ : ∃ w1, w1 = (w.alloc (.cells A 22)).alloc (.cells Z0 22) := ⟨_, rfl⟩
  have Z1 : Hid (Chg w w1 ∧ Ar w1 w.heap.size A ∧ Ar w1 (w.heap.size + 1) Z0) := by
    rw [hw1]
    exact ⟨((Chg.refl w).alloc _).alloc _, (Ar.new w _ _).alloc _, Ar.new1 w _ _ _⟩
  rw [← hw1]
  clear hw1 hsA hz
  have r1 := rangeA Z1.out.2.1
  go_wp2_with (first
    | refine wpList_load_mid rfl 22 (.tmp 1) rfl _ _ rfl (A.toList) _ r1 un37 rfl iA ?_
    | refine wpList_bytes rfl 9 by9 built9 rfl ?_)
  go_at_call 10
  refine (HK.out _).mono ?_
  rintro r w2 ⟨rfl, hc2⟩
  have Z2 : Hid (Chg w w2 ∧ Ar w2 (w.heap.size + 1) Z0) := ⟨Z1.out.1.trans hc2, Z1.out.2.2.chg hc2⟩
  obtain ⟨t, g⟩ := Z2.out.2
  clear hc2 r1 Z1
  go_wp2_with (first | refine wpList_store_row rfl 22 _ _ rfl _ _ rfl rfl _ _ g s1 l1 o1 ?_)
  exact bp_c (n := 32) (c := M) Try.results14 rfl rfl (Z2.out.2.row _) un37 zero37.2 (by rw [HA.out.2.2]; exact byt_size _) ⟨rfl, Z2.out.1.setRow (by omega) _⟩

set_option maxRecDepth 100000 in
set_option maxHeartbeats 8000000 in
theorem sharedY_any (e g : Nat → Int) (he : ∀ i, B8 (e i)) (hg : ∀ i, B8 (g i)) (w : World) : Calls Try.prog 12 #[.agg (byt e), .agg (byt g)] w fun r w' => r = .returned (.tuple #[.agg (byt (mB e g)), .bool (isB (mB e g))]) ∧ Chg w w' := by
  obtain ⟨d, hd⟩ : ∃ d, d = mB e g := ⟨_, rfl⟩
  have k := fun W => multY_any e g he hg W
  rw [← hd] at k ⊢
  clear hd
  have hz := zero37.1
  have hsA := byt_size e
  have hsB := byt_size g
  have iA := infoY e
  have iB := infoY g
  have s1 := szY d
  have l1 := lenY zD d
  have o1 := oneY d
  obtain ⟨A, hA⟩ : ∃ A, A = byt e := ⟨_, rfl⟩
  obtain ⟨B, hB⟩ : ∃ A, A = byt g := ⟨_, rfl⟩
  obtain ⟨Z0, hZ0⟩ : ∃ A, A = byt zD := ⟨_, rfl⟩
  obtain ⟨M, hM⟩ : ∃ A, A = byt d := ⟨_, rfl⟩
  have HA : Hid (A = byt e ∧ B = byt g ∧ Z0 = byt zD ∧ M = byt d) := ⟨hA, hB, hZ0, hM⟩
  rw [← hA] at hsA iA k ⊢
  rw [← hB] at hsB iB k ⊢
  rw [← hZ0] at hz l1
  rw [← hM] at s1 l1 o1 k ⊢
  have HK : Hid (∀ W, Calls Try.prog 10 #[.agg A, .agg B] W fun r w' => r = .returned (.agg M) ∧ Chg W w') := k
  clear hA hB hZ0 hM he hg k
  go_enter Try.func12, Try.ntmps12
  go_upto_region 1 with fail
  obtain ⟨w1, hw1⟩ : ∃ w1, w1 = ((w.alloc (.cells A 22)).alloc (.cells B 22)).alloc (.cells Z0 22) := ⟨_, rfl⟩
  have Z1 : Hid (Chg w w1 ∧ Ar w1 w.heap.size A ∧ Ar w1 (w.heap.size + 1) B ∧ Ar w1 (w.heap.size + 1 + 1) Z0) := by
    rw [hw1]
    exact ⟨(((Chg.refl w).alloc _).alloc _).alloc _, ((Ar.new w _ _).alloc _).alloc _, (Ar.new1 w _ _ _).alloc _, Ar.new2 w _ _ _ _⟩
  rw [← hw1]
  clear hw1 hsA hsB
  have r1 := rangeA Z1.out.2.1
  have r2 := rangeA Z1.out.2.2.1
  go_wp2_with (first
    | refine wpList_load_mid rfl 22 (.tmp 2) rfl _ _ rfl (A.toList) _ r1 un37 rfl iA ?_
    | refine wpList_load_mid rfl 22 (.tmp 3) rfl _ _ rfl (B.toList) _ r2 un37 rfl iB ?_)
  go_at_call 10
  refine (HK.out _).mono ?_
  rintro r w2 ⟨rfl, hc2⟩
  have Z2 : Hid (Chg w w2 ∧ Ar w2 (w.heap.size + 1 + 1) Z0) := ⟨Z1.out.1.trans hc2, Z1.out.2.2.2.chg hc2⟩
  have g2 := heap_alloc_last w2 (.cells Z0 22)
  clear hc2 r1 r2 Z1 HK
  go_upto_region 2 with (first | refine wpList_store_row rfl 22 _ _ rfl _ _ rfl rfl _ _ g2 s1 l1 o1 ?_)
  obtain ⟨w3, hw3⟩ : ∃ w3, w3 = (w2.alloc (.cells Z0 22)).setRow w2.heap.size M := ⟨_, rfl⟩
  obtain ⟨b6, hb6⟩ : ∃ b6, b6 = w2.heap.size := ⟨_, rfl⟩
  have Z3 : Hid (Chg w w3 ∧ Ar w3 (w.heap.size + 1 + 1) (byt zD) ∧ Ar w3 b6 (byt d) ∧ w.heap.size + 1 + 1 < b6) := by
    have hc : Chg w2 w3 := by rw [hw3]; exact ((Chg.refl w2).alloc _).setRow (Nat.le_refl _) _
    refine ⟨Z2.out.1.trans hc, by rw [← HA.out.2.2.1]; exact Z2.out.2.chg hc, ?_, by rw [hb6]; exact Z2.out.2.lt⟩
    rw [hw3, hb6, ← HA.out.2.2.2]
    exact (Ar.new w2 _ _).row _
  rw [← hw3]
  rw [← hb6]
  clear hw3 hb6 g2 Z2 hz s1 l1 o1
  dsimp only [Act.put]
  refine wp_region_store 4 (fun j v fl wg => match j with
    | 0 => v = .agg (byt d)
    | 1 => v = .agg (byt d)
    | 2 => v = .agg (byt zD)
    | 3 => v = .bool (isB d)
    | 5 => v = .bool (isB d)
    | _ => True) (fun fl u => Chg w u ∧ Ar u b6 (byt d) ∧ (fl = true → Ar u (w.heap.size + 1 + 1) (byt d)) ∧ (fl = false → Ar u (w.heap.size + 1 + 1) (byt zD))) (by kernel_rfl) (by decide) (by kernel_rfl) (by kernel_rfl) (by kernel_rfl) ?_ ?_ ?_ ?_ ?_ ?_
  · intro j v fl u1 u2 h hc
    match j, h with
    | 0, h => exact h
    | 1, h => exact h
    | 2, h => exact h
    | 3, h => exact h
    | 4, h => exact trivial
    | 5, h => exact h
    | _ + 6, h => exact trivial
  · intro fl u u' h k
    exact ⟨h.1.trans k, h.2.1.chg k, fun e => (h.2.2.1 e).chg k, fun e => (h.2.2.2 e).chg k⟩
  · intro i o' ac u fl hi his ho hfl hf hg hc
    have hi' : i < 6 := hi
    have hcs : i = 0 ∨ i = 1 ∨ i = 2 ∨ i = 3 ∨ i = 5 := by omega
    rcases hcs with rfl | rfl | rfl | rfl | rfl
    · injection ho with ho
      subst ho
      have e1 : ac.eval (.tmp 6) = .pointer (some ⟨b6, 0, none⟩) := hf 6 (by kernel_rfl)
      exact wp_load_mid 22 (.tmp 6) rfl _ _ e1 ((byt d).toList) _ (rangeY hc.2.1) un37 rfl (infoY _) ⟨_, rfl, rfl, Chg.refl _⟩
    · injection ho with ho
      subst ho
      have e1 : ac.eval (.tmp 6) = .pointer (some ⟨b6, 0, none⟩) := hf 6 (by kernel_rfl)
      exact wp_load_mid 22 (.tmp 6) rfl _ _ e1 ((byt d).toList) _ (rangeY hc.2.1) un37 rfl (infoY _) ⟨_, rfl, rfl, Chg.refl _⟩
    · injection ho with ho
      subst ho
      exact opG_val (by generalize ac.eval = ρ; simp [go_sem, execOp, zero37.1]) rfl (Chg.refl _)
    · injection ho with ho
      subst ho
      have e1 : ac.eval (.tmp 11) = .agg (byt d) := hg 1 (by kernel_rfl) (by decide) (by decide)
      have e2 : ac.eval (.tmp 12) = .agg (byt zD) := hg 2 (by kernel_rfl) (by decide) (by decide)
      exact opG_val (by revert e1 e2; generalize ac.eval = ρ; intro e1 e2; simp [go_sem, execOp, e1, e2, run_neB, isB]) rfl (Chg.refl _)
    · injection ho with ho
      subst ho
      have e1 : ac.eval (.tmp 13) = .bool (isB d) := hg 3 (by kernel_rfl) (by decide) (by decide)
      exact opG_val (by simp [execOp, e1]) rfl (Chg.refl _)
  · intro o' ac u ho hf hg hc
    injection ho with ho
    subst ho
    have e1 : ac.eval (.tmp 4) = .pointer (some ⟨w.heap.size + 1 + 1, 0, none⟩) := hf 4 (by kernel_rfl)
    have e2 : ac.eval (.tmp 10) = .agg (byt d) := hg 0 (by kernel_rfl) (by decide) (by decide)
    have A4 := hc.2.2.2 rfl
    have hlt := Z3.out.2.2.2
    refine wp_store_mid 22 (.tmp 4) (.tmp 10) rfl _ 0 (byt d) e1 e2 (by rw [byt_size]; exact thereY A4) (szY _) (oneY _) ⟨rfl, ?_, ?_⟩
    · rw [setRowY A4]
      exact ⟨hc.1.setRow (by omega) _, hc.2.1.rowOther (by omega) _, (fun _ => A4.row _), (fun e => nomatch e)⟩
    · intro j hj hjs h
      have hj' : j < 6 := hj
      have hcs : j = 0 ∨ j = 1 ∨ j = 2 ∨ j = 3 ∨ j = 5 := by omega
      rcases hcs with rfl | rfl | rfl | rfl | rfl
      · exact h
      · exact h
      · exact h
      · exact h
      · exact h
  · exact ⟨Z3.out.1.drew, Z3.out.2.2.1.drew, (fun e => nomatch e), (fun _ => Z3.out.2.1.drew)⟩
  · intro u V hV hB
    have q5 : V 5 = .bool (isB d) := hV 5 (by decide) (by decide)
    have A4 := hB.2.2.1 rfl
    have hcu := hB.1
    clear hV hB
    go_wp2_with fail
    exact bp_ct (n := 32) (c := byt d) Try.results12 rfl (by rfl) (Eq.trans (by rfl) q5) A4 un37 zero37.2 (byt_size _) ⟨by rw [HA.out.2.2.2], hcu⟩

end Go.Proofs.Ytiehjhlekpjlaaa
