/-
  Two that know each other's public keys have the same secret: the law, walked.
-/
import Derived.Test.YtiehjhlekpjlaaaTw
import Derived.Test.YtiehjhlekpjlaaaJc
namespace Go.Proofs.Ytiehjhlekpjlaaa
open Go.RowKit
set_option linter.unusedVariables false

theorem wpList_load22G {ops : Array Oper} {rest : List Oper} {o : Oper} {a : Act} {w : World} {Q : Exit → Act → World → Prop} (hgd : Region.wanted o (yielded ops a.tmps) = true) (x : Operand) (hop : o.op = .load 22 x) (b : Nat) (hx : a.eval x = .pointer (some ⟨b, 0, none⟩)) (t : TypeId) (c : Array Value)
    (hg : w.heap[b]? = some (.cells c t (0, 0))) (hi : (Try.prog.info? 22).map (·.size) = some c.size) (hK : wpList Try.prog ops Q rest (a.put o.dst (.agg c)) w) : wpList Try.prog ops Q (o :: rest) a w :=
  BigFrame.wpList_want hgd fun _ hK' => wp_load_row 22 x hop b hx t c (0, 0) _ hg un37 rfl hi (hK' _ _ hK)

set_option maxRecDepth 100000 in
set_option maxHeartbeats 8000000 in
theorem meets_walk (k l : Nat → Int) (hk : ∀ i, B8 (k i)) (hl : ∀ i, B8 (l i)) (w : World) : Calls Try.prog 5 #[.agg (byt k), .agg (byt l)] w fun r w' => r = .returned (.bool true) ∧ Chg w w' := by
  have HC : Hid (∃ (d1 d2 d3 : Nat → Int) (bb : Bool), (∀ W, Calls Try.prog 13 #[.agg (byt l)] W fun r w' => r = .returned (.agg (byt d1)) ∧ Chg W w') ∧ (∀ W, Calls Try.prog 11 #[.agg (byt k), .agg (byt d1)] W fun r w' => r = .returned (.tuple #[.agg (byt d3), .bool bb]) ∧ Chg W w') ∧ (∀ W, Calls Try.prog 13 #[.agg (byt k)] W fun r w' => r = .returned (.agg (byt d2)) ∧ Chg W w') ∧ (∀ W, Calls Try.prog 11 #[.agg (byt l), .agg (byt d2)] W fun r w' => r = .returned (.tuple #[.agg (byt d3), .bool bb]) ∧ Chg W w')) := by
    refine ⟨mB l by9, mB k by9, mB k (mB l by9), _, fun W => publicX_any l hl W, fun W => sharedX_any k _ hk (mB_8 _ _) W, fun W => publicX_any k hk W, fun W => ?_⟩
    rw [mB_turn by9 hk hl]
    exact sharedX_any l _ hl (mB_8 _ _) W
  obtain ⟨d1, d2, d3, bb, k1, k2, k3, k4⟩ := HC.out
  have K1 : Hid (∀ W, Calls Try.prog 13 #[.agg (byt l)] W fun r w' => r = .returned (.agg (byt d1)) ∧ Chg W w') := k1
  have K2 : Hid (∀ W, Calls Try.prog 11 #[.agg (byt k), .agg (byt d1)] W fun r w' => r = .returned (.tuple #[.agg (byt d3), .bool bb]) ∧ Chg W w') := k2
  have K3 : Hid (∀ W, Calls Try.prog 13 #[.agg (byt k)] W fun r w' => r = .returned (.agg (byt d2)) ∧ Chg W w') := k3
  have K4 : Hid (∀ W, Calls Try.prog 11 #[.agg (byt l), .agg (byt d2)] W fun r w' => r = .returned (.tuple #[.agg (byt d3), .bool bb]) ∧ Chg W w') := k4
  clear k1 k2 k3 k4 HC hk hl
  have hsA := byt_size k
  have hsB := byt_size l
  obtain ⟨A, hA⟩ : ∃ A, A = byt k := ⟨_, rfl⟩
  obtain ⟨B, hB⟩ : ∃ A, A = byt l := ⟨_, rfl⟩
  have HA : Hid (A = byt k ∧ B = byt l) := ⟨hA, hB⟩
  rw [← hA] at hsA ⊢
  rw [← hB] at hsB ⊢
  clear hA hB
  go_enter Try.func5, Try.ntmps5
  go_upto_region 1 with fail
  obtain ⟨w0, hw0⟩ : ∃ w0, w0 = (w.alloc (.cells A 22)).alloc (.cells B 22) := ⟨_, rfl⟩
  have Z0 : Hid (Chg w w0 ∧ Ar w0 w.heap.size (byt k) ∧ Ar w0 (w.heap.size + 1) (byt l)) := by
    rw [hw0, HA.out.1, HA.out.2]
    exact ⟨((Chg.refl w).alloc _).alloc _, (Ar.new w _ _).alloc _, Ar.new1 w _ _ _⟩
  rw [← hw0]
  clear hw0 hsA hsB HA
  go_wp2_with fail
  go_at_call 8
  refine (head_any _).mono ?_
  rintro r w1 ⟨rfl, hc1⟩
  have Z1 : Hid (Chg w w1 ∧ Ar w1 w.heap.size (byt k) ∧ Ar w1 (w.heap.size + 1) (byt l)) := ⟨Z0.out.1.trans hc1, Z0.out.2.1.chg hc1, Z0.out.2.2.chg hc1⟩
  clear hc1 Z0
  go_upto_region 2 with fail
  go_cut [6, 7] from 6 to 17 (fun va vb wc => ∃ b, va = .pointer (some ⟨b, 0, none⟩) ∧ vb = .bool bb ∧ Ar wc b (byt d3) ∧ Chg w1 wc)
  case first =>
    refine wp_region_store 8 (fun j v fl wg => match j with
      | 0 => v = .agg (byt k)
      | 1 => v = .agg (byt l)
      | 2 => v = .agg (byt d1)
      | 3 => v = .tuple #[.agg (byt d3), .bool bb]
      | 4 => v = .tuple #[.agg (byt d3), .bool bb]
      | 5 => v = .agg (byt d3)
      | 6 => v = .bool bb
      | 7 => ∃ b, v = .pointer (some ⟨b, 0, none⟩) ∧ w1.heap.size ≤ b ∧ (fl = true → Ar wg b (byt d3)) ∧ (fl = false → Ar wg b (byt zD))
      | 9 => v = .bool bb
      | _ => True) (fun _ u => Chg w1.drew u) (by kernel_rfl) (by decide) (by kernel_rfl) (by kernel_rfl) (by kernel_rfl) ?_ ?_ ?_ ?_ ?_ ?_
    · intro j v fl u1 u2 h hc
      match j, h with
      | 0, h => exact h
      | 1, h => exact h
      | 2, h => exact h
      | 3, h => exact h
      | 4, h => exact h
      | 5, h => exact h
      | 6, h => exact h
      | 7, h => (obtain ⟨b, h1, h2, h3, h4⟩ := h; exact ⟨b, h1, h2, fun e => (h3 e).chg hc, fun e => (h4 e).chg hc⟩)
      | 8, h => exact trivial
      | 9, h => exact h
      | _ + 10, h => exact trivial
    · intro fl u u' h k
      exact h.trans k
    · intro i o' ac u fl hi his ho hfl hf hg hc
      have hi' : i < 10 := hi
      have hcs : i = 0 ∨ i = 1 ∨ i = 2 ∨ i = 3 ∨ i = 4 ∨ i = 5 ∨ i = 6 ∨ i = 7 ∨ i = 9 := by omega
      rcases hcs with rfl | rfl | rfl | rfl | rfl | rfl | rfl | rfl | rfl
      · injection ho with ho
        subst ho
        have e1 : ac.eval (.tmp 2) = .pointer (some ⟨w.heap.size, 0, none⟩) := hf 2 (by kernel_rfl)
        exact wp_load_mid 22 (.tmp 2) rfl _ _ e1 ((byt k).toList) _ (rangeY (Ar.chg (w := w1.drew) Z1.out.2.1.drew hc)) un37 rfl (infoY _) ⟨_, rfl, rfl, Chg.refl _⟩
      · injection ho with ho
        subst ho
        have e1 : ac.eval (.tmp 3) = .pointer (some ⟨w.heap.size + 1, 0, none⟩) := hf 3 (by kernel_rfl)
        exact wp_load_mid 22 (.tmp 3) rfl _ _ e1 ((byt l).toList) _ (rangeY (Ar.chg (w := w1.drew) Z1.out.2.2.drew hc)) un37 rfl (infoY _) ⟨_, rfl, rfl, Chg.refl _⟩
      · injection ho with ho
        subst ho
        have e1 : ac.eval (.tmp 13) = .agg (byt l) := hg 1 (by kernel_rfl) (by decide) (by decide)
        refine opG_go 13 Try.f13 #[.tmp 13] #[22] rfl Try.func13 (by kernel_rfl) (by kernel_rfl) (by simp [e1]) (Calls.mono (K1.out _) ?_)
        rintro e u2 ⟨rfl, hc2⟩
        exact ⟨_, rfl, rfl, hc2⟩
      · injection ho with ho
        subst ho
        have e1 : ac.eval (.tmp 12) = .agg (byt k) := hg 0 (by kernel_rfl) (by decide) (by decide)
        have e2 : ac.eval (.tmp 14) = .agg (byt d1) := hg 2 (by kernel_rfl) (by decide) (by decide)
        refine opG_go 11 Try.f11 #[.tmp 12, .tmp 14] #[22, 22] rfl Try.func11 (by kernel_rfl) (by kernel_rfl) (by simp [e1, e2]) (Calls.mono (K2.out _) ?_)
        rintro e u2 ⟨rfl, hc2⟩
        exact ⟨_, rfl, rfl, hc2⟩
      · injection ho with ho
        subst ho
        have e1 : ac.eval (.tmp 15) = .tuple #[.agg (byt d3), .bool bb] := hg 3 (by kernel_rfl) (by decide) (by decide)
        exact opG_val (by simp [execOp, e1]) rfl (Chg.refl _)
      · injection ho with ho
        subst ho
        have e1 : ac.eval (.tmp 11) = .tuple #[.agg (byt d3), .bool bb] := hg 4 (by kernel_rfl) (by decide) (by decide)
        exact opG_val (by revert e1; generalize ac.eval = ρ; intro e1; simp [go_sem, execOp, e1]) rfl (Chg.refl _)
      · injection ho with ho
        subst ho
        have e1 : ac.eval (.tmp 11) = .tuple #[.agg (byt d3), .bool bb] := hg 4 (by kernel_rfl) (by decide) (by decide)
        exact opG_val (by revert e1; generalize ac.eval = ρ; intro e1; simp [go_sem, execOp, e1]) rfl (Chg.refl _)
      · injection ho with ho
        subst ho
        refine opG_val (v := .pointer (some ⟨u.heap.size, 0, none⟩)) (w' := u.alloc (.cells (byt zD) 22)) (by simp [go_sem, execOp, zero37.1]) ⟨_, rfl, hc.size, ?_, ?_⟩ ((Chg.refl _).alloc _)
        · intro e
          rw [hfl (by kernel_rfl)] at e
          cases e
        · intro _; exact Ar.new _ _ _
      · injection ho with ho
        subst ho
        have e1 : ac.eval (.tmp 17) = .bool bb := hg 6 (by kernel_rfl) (by decide) (by decide)
        exact opG_val (by simp [execOp, e1]) rfl (Chg.refl _)
    · intro o' ac u ho hf hg hc
      injection ho with ho
      subst ho
      obtain ⟨b, e1, h1, h2, h3⟩ := hg 7 (by kernel_rfl) (by decide) (by decide)
      have e2 : ac.eval (.tmp 16) = .agg (byt d3) := hg 5 (by kernel_rfl) (by decide) (by decide)
      refine wp_store_mid 22 (.tmp 6) (.tmp 16) rfl b 0 (byt d3) e1 e2 (by rw [byt_size]; exact thereY (h3 rfl)) (szY _) (oneY _) ⟨rfl, ?_, ?_⟩
      · rw [setRowY (h3 rfl)]
        exact Chg.setRow hc h1 _
      · intro j hj hjs h
        rw [setRowY (h3 rfl)]
        have hj' : j < 10 := hj
        have hcs : j = 0 ∨ j = 1 ∨ j = 2 ∨ j = 3 ∨ j = 4 ∨ j = 5 ∨ j = 6 ∨ j = 7 ∨ j = 9 := by omega
        rcases hcs with rfl | rfl | rfl | rfl | rfl | rfl | rfl | rfl | rfl
        · exact h
        · exact h
        · exact h
        · exact h
        · exact h
        · exact h
        · exact h
        · exact ⟨b, e1, h1, (fun _ => (h3 rfl).row _), (fun e => nomatch e)⟩
        · exact h
    · exact Chg.refl _
    · intro u V hV hB
      obtain ⟨b, q6, h1, h2, h3⟩ := hV 7 (by decide) (by decide)
      have q7 : V 9 = .bool bb := hV 9 (by decide) (by decide)
      have q8 : Hid (Ar u b (byt d3) ∧ Chg w1 u) := ⟨h2 rfl, (Chg.refl w1).drew.trans hB⟩
      clear h1 h2 h3 hV hB
      go_wp2_with fail
      go_meet
      exact ⟨b, q6, q7, q8.out⟩
  case rest =>
    obtain ⟨b6, rfl, rfl, ha, hcc⟩ := hcut
    obtain ⟨w2, hw2⟩ : ∃ w2, w2 = wc := ⟨_, rfl⟩
    rw [← hw2] at ha hcc ⊢
    have Z2 : Hid (Chg w w2 ∧ Ar w2 w.heap.size (byt k) ∧ Ar w2 (w.heap.size + 1) (byt l) ∧ Ar w2 b6 (byt d3)) := ⟨Z1.out.1.trans hcc, Z1.out.2.1.chg hcc, Z1.out.2.2.chg hcc, ha⟩
    clear hw2 ha hcc Z1
    go_upto_region 3 with fail
    go_cut [8, 9] from 8 to 24 (fun va vb wc => ∃ b, va = .pointer (some ⟨b, 0, none⟩) ∧ vb = .bool bb ∧ Ar wc b (byt d3) ∧ Chg w2 wc)
    case first =>
      refine wp_region_store 8 (fun j v fl wg => match j with
        | 0 => v = .agg (byt l)
        | 1 => v = .agg (byt k)
        | 2 => v = .agg (byt d2)
        | 3 => v = .tuple #[.agg (byt d3), .bool bb]
        | 4 => v = .tuple #[.agg (byt d3), .bool bb]
        | 5 => v = .agg (byt d3)
        | 6 => v = .bool bb
        | 7 => ∃ b, v = .pointer (some ⟨b, 0, none⟩) ∧ w2.heap.size ≤ b ∧ (fl = true → Ar wg b (byt d3)) ∧ (fl = false → Ar wg b (byt zD))
        | 9 => v = .bool bb
        | _ => True) (fun _ u => Chg w2.drew u) (by kernel_rfl) (by decide) (by kernel_rfl) (by kernel_rfl) (by kernel_rfl) ?_ ?_ ?_ ?_ ?_ ?_
      · intro j v fl u1 u2 h hc
        match j, h with
        | 0, h => exact h
        | 1, h => exact h
        | 2, h => exact h
        | 3, h => exact h
        | 4, h => exact h
        | 5, h => exact h
        | 6, h => exact h
        | 7, h => (obtain ⟨b, h1, h2, h3, h4⟩ := h; exact ⟨b, h1, h2, fun e => (h3 e).chg hc, fun e => (h4 e).chg hc⟩)
        | 8, h => exact trivial
        | 9, h => exact h
        | _ + 10, h => exact trivial
      · intro fl u u' h k
        exact h.trans k
      · intro i o' ac u fl hi his ho hfl hf hg hc
        have hi' : i < 10 := hi
        have hcs : i = 0 ∨ i = 1 ∨ i = 2 ∨ i = 3 ∨ i = 4 ∨ i = 5 ∨ i = 6 ∨ i = 7 ∨ i = 9 := by omega
        rcases hcs with rfl | rfl | rfl | rfl | rfl | rfl | rfl | rfl | rfl
        · injection ho with ho
          subst ho
          have e1 : ac.eval (.tmp 3) = .pointer (some ⟨w.heap.size + 1, 0, none⟩) := hf 3 (by kernel_rfl)
          exact wp_load_mid 22 (.tmp 3) rfl _ _ e1 ((byt l).toList) _ (rangeY (Ar.chg (w := w2.drew) Z2.out.2.2.1.drew hc)) un37 rfl (infoY _) ⟨_, rfl, rfl, Chg.refl _⟩
        · injection ho with ho
          subst ho
          have e1 : ac.eval (.tmp 2) = .pointer (some ⟨w.heap.size, 0, none⟩) := hf 2 (by kernel_rfl)
          exact wp_load_mid 22 (.tmp 2) rfl _ _ e1 ((byt k).toList) _ (rangeY (Ar.chg (w := w2.drew) Z2.out.2.1.drew hc)) un37 rfl (infoY _) ⟨_, rfl, rfl, Chg.refl _⟩
        · injection ho with ho
          subst ho
          have e1 : ac.eval (.tmp 20) = .agg (byt k) := hg 1 (by kernel_rfl) (by decide) (by decide)
          refine opG_go 13 Try.f13 #[.tmp 20] #[22] rfl Try.func13 (by kernel_rfl) (by kernel_rfl) (by simp [e1]) (Calls.mono (K3.out _) ?_)
          rintro e u2 ⟨rfl, hc2⟩
          exact ⟨_, rfl, rfl, hc2⟩
        · injection ho with ho
          subst ho
          have e1 : ac.eval (.tmp 19) = .agg (byt l) := hg 0 (by kernel_rfl) (by decide) (by decide)
          have e2 : ac.eval (.tmp 21) = .agg (byt d2) := hg 2 (by kernel_rfl) (by decide) (by decide)
          refine opG_go 11 Try.f11 #[.tmp 19, .tmp 21] #[22, 22] rfl Try.func11 (by kernel_rfl) (by kernel_rfl) (by simp [e1, e2]) (Calls.mono (K4.out _) ?_)
          rintro e u2 ⟨rfl, hc2⟩
          exact ⟨_, rfl, rfl, hc2⟩
        · injection ho with ho
          subst ho
          have e1 : ac.eval (.tmp 22) = .tuple #[.agg (byt d3), .bool bb] := hg 3 (by kernel_rfl) (by decide) (by decide)
          exact opG_val (by simp [execOp, e1]) rfl (Chg.refl _)
        · injection ho with ho
          subst ho
          have e1 : ac.eval (.tmp 18) = .tuple #[.agg (byt d3), .bool bb] := hg 4 (by kernel_rfl) (by decide) (by decide)
          exact opG_val (by revert e1; generalize ac.eval = ρ; intro e1; simp [go_sem, execOp, e1]) rfl (Chg.refl _)
        · injection ho with ho
          subst ho
          have e1 : ac.eval (.tmp 18) = .tuple #[.agg (byt d3), .bool bb] := hg 4 (by kernel_rfl) (by decide) (by decide)
          exact opG_val (by revert e1; generalize ac.eval = ρ; intro e1; simp [go_sem, execOp, e1]) rfl (Chg.refl _)
        · injection ho with ho
          subst ho
          refine opG_val (v := .pointer (some ⟨u.heap.size, 0, none⟩)) (w' := u.alloc (.cells (byt zD) 22)) (by simp [go_sem, execOp, zero37.1]) ⟨_, rfl, hc.size, ?_, ?_⟩ ((Chg.refl _).alloc _)
          · intro e
            rw [hfl (by kernel_rfl)] at e
            cases e
          · intro _; exact Ar.new _ _ _
        · injection ho with ho
          subst ho
          have e1 : ac.eval (.tmp 24) = .bool bb := hg 6 (by kernel_rfl) (by decide) (by decide)
          exact opG_val (by simp [execOp, e1]) rfl (Chg.refl _)
      · intro o' ac u ho hf hg hc
        injection ho with ho
        subst ho
        obtain ⟨b, e1, h1, h2, h3⟩ := hg 7 (by kernel_rfl) (by decide) (by decide)
        have e2 : ac.eval (.tmp 23) = .agg (byt d3) := hg 5 (by kernel_rfl) (by decide) (by decide)
        refine wp_store_mid 22 (.tmp 8) (.tmp 23) rfl b 0 (byt d3) e1 e2 (by rw [byt_size]; exact thereY (h3 rfl)) (szY _) (oneY _) ⟨rfl, ?_, ?_⟩
        · rw [setRowY (h3 rfl)]
          exact Chg.setRow hc h1 _
        · intro j hj hjs h
          rw [setRowY (h3 rfl)]
          have hj' : j < 10 := hj
          have hcs : j = 0 ∨ j = 1 ∨ j = 2 ∨ j = 3 ∨ j = 4 ∨ j = 5 ∨ j = 6 ∨ j = 7 ∨ j = 9 := by omega
          rcases hcs with rfl | rfl | rfl | rfl | rfl | rfl | rfl | rfl | rfl
          · exact h
          · exact h
          · exact h
          · exact h
          · exact h
          · exact h
          · exact h
          · exact ⟨b, e1, h1, (fun _ => (h3 rfl).row _), (fun e => nomatch e)⟩
          · exact h
      · exact Chg.refl _
      · intro u V hV hB
        obtain ⟨b, q6, h1, h2, h3⟩ := hV 7 (by decide) (by decide)
        have q7 : V 9 = .bool bb := hV 9 (by decide) (by decide)
        have q8 : Hid (Ar u b (byt d3) ∧ Chg w2 u) := ⟨h2 rfl, (Chg.refl w2).drew.trans hB⟩
        clear h1 h2 h3 hV hB
        go_wp2_with fail
        go_meet
        exact ⟨b, q6, q7, q8.out⟩
    case rest =>
      obtain ⟨b8, rfl, rfl, ha, hcc⟩ := hcut
      obtain ⟨w3, hw3⟩ : ∃ w3, w3 = wc := ⟨_, rfl⟩
      rw [← hw3] at ha hcc ⊢
      have Z3 : Hid (Chg w w3 ∧ Ar w3 b6 (byt d3) ∧ Ar w3 b8 (byt d3)) := ⟨Z2.out.1.trans hcc, Z2.out.2.2.2.chg hcc, ha⟩
      clear hw3 ha hcc Z2
      obtain ⟨t6, g6⟩ := Z3.out.2.1
      obtain ⟨t8, g8⟩ := Z3.out.2.2
      have s3 := szY d3
      have eq3 := eqB_self d3
      obtain ⟨D3, hD3⟩ : ∃ D, D = byt d3 := ⟨_, rfl⟩
      rw [← hD3] at g6 g8 s3 eq3
      clear hD3
      go_wp2_with (first | refine wpList_load22G (by rfl) _ rfl _ rfl _ _ g6 s3 ?_ | refine wpList_load22G (by rfl) _ rfl _ rfl _ _ g8 s3 ?_)
      go_ret
      exact ⟨by simp, Z3.out.1⟩
end Go.Proofs.Ytiehjhlekpjlaaa
