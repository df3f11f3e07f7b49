/-
  A point's x, so many times, is the document's: the law, walked.
-/
import Derived.Test.YtiehjhlekpjlaaaTw
import Derived.Test.YtiehjhlekpjlaaaDm
namespace Go.Proofs.Ytiehjhlekpjlaaa
open Go.RowKit
set_option linter.unusedVariables false

set_option maxRecDepth 100000 in
set_option maxHeartbeats 8000000 in
theorem mults_walk (k x : Nat → Int) (hk : ∀ i, B8 (k i)) (hx : ∀ i, B8 (x i)) (w : World) : Calls Try.prog 3 #[.agg (byt k), .agg (byt x)] w fun r w' => r = .returned (.bool true) ∧ Chg w w' := by
  have HC : Hid (∃ d : Nat → Int, (∀ W, Calls Try.prog 9 #[.agg (byt k), .agg (byt x)] W fun r w' => r = .returned (.agg (byt d)) ∧ Chg W w') ∧ (∀ W, Calls Try.prog 10 #[.agg (byt k), .agg (byt x)] W fun r w' => r = .returned (.agg (byt d)) ∧ Chg W w')) := ⟨mB k x, fun W => multX_any k x hk hx W, fun W => multY_any k x hk hx W⟩
  obtain ⟨d, k1, k2⟩ := HC.out
  have K1 : Hid (∀ W, Calls Try.prog 9 #[.agg (byt k), .agg (byt x)] W fun r w' => r = .returned (.agg (byt d)) ∧ Chg W w') := k1
  have K2 : Hid (∀ W, Calls Try.prog 10 #[.agg (byt k), .agg (byt x)] W fun r w' => r = .returned (.agg (byt d)) ∧ Chg W w') := k2
  clear k1 k2 HC hk hx
  have hsA := byt_size k
  have hsB := byt_size x
  obtain ⟨A, hA⟩ : ∃ A, A = byt k := ⟨_, rfl⟩
  obtain ⟨B, hB⟩ : ∃ A, A = byt x := ⟨_, rfl⟩
  have HA : Hid (A = byt k ∧ B = byt x) := ⟨hA, hB⟩
  rw [← hA] at hsA ⊢
  rw [← hB] at hsB ⊢
  clear hA hB
  go_enter Try.func3, Try.ntmps3
  go_upto_region 1 with fail
  obtain ⟨w0, hw0⟩ : ∃ w0, w0 = (w.alloc (.cells A 22)).alloc (.cells B 22) := ⟨_, rfl⟩
  have Z0 : Hid (Chg w w0 ∧ Ar w0 w.heap.size (byt k) ∧ Ar w0 (w.heap.size + 1) (byt x)) := by
    rw [hw0, HA.out.1, HA.out.2]
    exact ⟨((Chg.refl w).alloc _).alloc _, (Ar.new w _ _).alloc _, Ar.new1 w _ _ _⟩
  rw [← hw0]
  clear hw0 hsA hsB HA
  go_wp2_with fail
  go_at_call 8
  refine (head_any _).mono ?_
  rintro r w1 ⟨rfl, hc1⟩
  have Z1 : Hid (Chg w w1 ∧ Ar w1 w.heap.size (byt k) ∧ Ar w1 (w.heap.size + 1) (byt x)) := ⟨Z0.out.1.trans hc1, Z0.out.2.1.chg hc1, Z0.out.2.2.chg hc1⟩
  clear hc1 Z0
  go_upto_region 2 with fail
  refine wp_region_good 10 (fun j v wg => match j with
    | 0 => v = .bool true
    | 1 => v = .bool true
    | 2 => v = .agg (byt k)
    | 3 => v = .agg (byt x)
    | 4 => v = .agg (byt d)
    | 5 => v = .agg (byt k)
    | 6 => v = .agg (byt x)
    | 7 => v = .agg (byt d)
    | 8 => v = .bool true
    | 9 => v = .bool true
    | _ => True) (by kernel_rfl) (by kernel_rfl) (by kernel_rfl) (by kernel_rfl) (by kernel_rfl) ?_ ?_ ?_
  · intro j v u1 u2 h hc
    match j, h with
    | 0, h => exact h
    | 1, h => exact h
    | 2, h => exact h
    | 3, h => exact h
    | 4, h => exact h
    | 5, h => exact h
    | 6, h => exact h
    | 7, h => exact h
    | 8, h => exact h
    | 9, h => exact h
    | _ + 10, h => exact trivial
  · intro i o ac u hi ho hsz hf hg hc
    have hcs : i = 0 ∨ i = 1 ∨ i = 2 ∨ i = 3 ∨ i = 4 ∨ i = 5 ∨ i = 6 ∨ i = 7 ∨ i = 8 ∨ i = 9 := by omega
    rcases hcs with rfl | rfl | rfl | rfl | rfl | rfl | rfl | rfl | rfl | rfl
    · injection ho with ho
      subst ho
      refine .inl ⟨wanted_none rfl, ?_⟩
      have e1 : ac.eval (.tmp 5) = .bool true := hf 5 (by kernel_rfl)
      exact opG_val (by simp [execOp, e1]) rfl (Chg.refl _)
    · injection ho with ho
      subst ho
      refine .inl ⟨wanted_none rfl, ?_⟩
      have e1 : ac.eval (.tmp 7) = .bool true := hg 0 (by kernel_rfl) (by decide)
      exact opG_val (by simp [execOp, e1]) rfl (Chg.refl _)
    · injection ho with ho
      subst ho
      refine .inl ⟨wanted_by (T := _) (by kernel_rfl) hsz rfl (by decide : 1 < 10) rfl (hg 1 (by kernel_rfl) (by decide)), ?_⟩
      have e1 : ac.eval (.tmp 2) = .pointer (some ⟨w.heap.size, 0, none⟩) := hf 2 (by kernel_rfl)
      exact wp_load_mid 22 (.tmp 2) rfl _ _ e1 ((byt k).toList) _ (rangeY (Ar.chg (w := w1.drew) Z1.out.2.1.drew hc)) un37 rfl (infoY _) ⟨_, rfl, rfl, Chg.refl _⟩
    · injection ho with ho
      subst ho
      refine .inl ⟨wanted_by (T := _) (by kernel_rfl) hsz rfl (by decide : 1 < 10) rfl (hg 1 (by kernel_rfl) (by decide)), ?_⟩
      have e1 : ac.eval (.tmp 3) = .pointer (some ⟨w.heap.size + 1, 0, none⟩) := hf 3 (by kernel_rfl)
      exact wp_load_mid 22 (.tmp 3) rfl _ _ e1 ((byt x).toList) _ (rangeY (Ar.chg (w := w1.drew) Z1.out.2.2.drew hc)) un37 rfl (infoY _) ⟨_, rfl, rfl, Chg.refl _⟩
    · injection ho with ho
      subst ho
      refine .inl ⟨wanted_by (T := _) (by kernel_rfl) hsz rfl (by decide : 1 < 10) rfl (hg 1 (by kernel_rfl) (by decide)), ?_⟩
      have e1 : ac.eval (.tmp 9) = .agg (byt k) := hg 2 (by kernel_rfl) (by decide)
      have e2 : ac.eval (.tmp 10) = .agg (byt x) := hg 3 (by kernel_rfl) (by decide)
      refine opG_go 9 Try.f9 #[.tmp 9, .tmp 10] #[22, 22] rfl Try.func9 (by kernel_rfl) (by kernel_rfl) (by simp [e1, e2]) (Calls.mono (K1.out _) ?_)
      rintro r u2 ⟨rfl, hc2⟩
      exact ⟨_, rfl, rfl, hc2⟩
    · injection ho with ho
      subst ho
      refine .inl ⟨wanted_by (T := _) (by kernel_rfl) hsz rfl (by decide : 1 < 10) rfl (hg 1 (by kernel_rfl) (by decide)), ?_⟩
      have e1 : ac.eval (.tmp 2) = .pointer (some ⟨w.heap.size, 0, none⟩) := hf 2 (by kernel_rfl)
      exact wp_load_mid 22 (.tmp 2) rfl _ _ e1 ((byt k).toList) _ (rangeY (Ar.chg (w := w1.drew) Z1.out.2.1.drew hc)) un37 rfl (infoY _) ⟨_, rfl, rfl, Chg.refl _⟩
    · injection ho with ho
      subst ho
      refine .inl ⟨wanted_by (T := _) (by kernel_rfl) hsz rfl (by decide : 1 < 10) rfl (hg 1 (by kernel_rfl) (by decide)), ?_⟩
      have e1 : ac.eval (.tmp 3) = .pointer (some ⟨w.heap.size + 1, 0, none⟩) := hf 3 (by kernel_rfl)
      exact wp_load_mid 22 (.tmp 3) rfl _ _ e1 ((byt x).toList) _ (rangeY (Ar.chg (w := w1.drew) Z1.out.2.2.drew hc)) un37 rfl (infoY _) ⟨_, rfl, rfl, Chg.refl _⟩
    · injection ho with ho
      subst ho
      refine .inl ⟨wanted_by (T := _) (by kernel_rfl) hsz rfl (by decide : 1 < 10) rfl (hg 1 (by kernel_rfl) (by decide)), ?_⟩
      have e1 : ac.eval (.tmp 12) = .agg (byt k) := hg 5 (by kernel_rfl) (by decide)
      have e2 : ac.eval (.tmp 13) = .agg (byt x) := hg 6 (by kernel_rfl) (by decide)
      refine opG_go 10 Try.f10 #[.tmp 12, .tmp 13] #[22, 22] rfl Try.func10 (by kernel_rfl) (by kernel_rfl) (by simp [e1, e2]) (Calls.mono (K2.out _) ?_)
      rintro r u2 ⟨rfl, hc2⟩
      exact ⟨_, rfl, rfl, hc2⟩
    · injection ho with ho
      subst ho
      refine .inl ⟨wanted_by (T := _) (by kernel_rfl) hsz rfl (by decide : 1 < 10) rfl (hg 1 (by kernel_rfl) (by decide)), ?_⟩
      have e1 : ac.eval (.tmp 11) = .agg (byt d) := hg 4 (by kernel_rfl) (by decide)
      have e2 : ac.eval (.tmp 14) = .agg (byt d) := hg 7 (by kernel_rfl) (by decide)
      exact opG_val (by revert e1 e2; generalize ac.eval = ρ; intro e1 e2; simp [go_sem, execOp, e1, e2, eqB_self]) rfl (Chg.refl _)
    · injection ho with ho
      subst ho
      refine .inl ⟨wanted_none rfl, ?_⟩
      have e1 : ac.eval (.tmp 8) = .bool true := hg 1 (by kernel_rfl) (by decide)
      have e2 : ac.eval (.tmp 15) = .bool true := hg 8 (by kernel_rfl) (by decide)
      have e3 : ac.eval (.const (.bool false)) = .bool false := rfl
      exact opG_val (by revert e1 e2 e3; generalize ac.eval = ρ; intro e1 e2 e3; simp [go_sem, execOp, e1, e2, e3]) rfl (Chg.refl _)
  · intro o u V ho hV hc
    injection ho with ho
    subst ho
    refine ⟨rfl, ?_⟩
    have q7 : V 0 = .bool true := hV 0 (by decide)
    have q8 : V 1 = .bool true := hV 1 (by decide)
    have q9 : V 2 = .agg (byt k) := hV 2 (by decide)
    have q10 : V 3 = .agg (byt x) := hV 3 (by decide)
    have q11 : V 4 = .agg (byt d) := hV 4 (by decide)
    have q12 : V 5 = .agg (byt k) := hV 5 (by decide)
    have q13 : V 6 = .agg (byt x) := hV 6 (by decide)
    have q14 : V 7 = .agg (byt d) := hV 7 (by decide)
    have q15 : V 8 = .bool true := hV 8 (by decide)
    have q16 : V 9 = .bool true := hV 9 (by decide)
    refine op_asg (.tmp 16) (.bool true) rfl (Eq.trans (by rfl) q16) ?_
    have hcu : Hid (Chg w u) := (Z1.out.1.drew).trans hc
    go_wp2_with fail
    go_ret
    exact ⟨rfl, hcu.out⟩
end Go.Proofs.Ytiehjhlekpjlaaa
