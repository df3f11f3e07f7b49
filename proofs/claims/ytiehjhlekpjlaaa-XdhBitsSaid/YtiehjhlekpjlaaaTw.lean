/-
  So many times, and so many times again, is the same the other way round: the law, walked.
-/
import Derived.Test.YtiehjhlekpjlaaaJp
import Derived.Test.YtiehjhlekpjlaaaJr
namespace Go.Proofs.Ytiehjhlekpjlaaa
open Go.RowKit
set_option linter.unusedVariables false

theorem op_asg {o : Oper} {a : Act} {w : World} {K : Act → World → Prop} {Q : Exit → Act → World → Prop} (x : Operand) (v : Value) (ho : o.op = .assign x) (hx : a.eval x = v) (hK : K (a.put o.dst v) w) : o.wp Try.prog a w K Q := by
  unfold Oper.wp
  rw [show (execOp a.eval o).run Try.prog w = .ok (.value v) w by simp [execOp, ho, hx], Oper.upon_value]
  exact hK

set_option maxRecDepth 100000 in
set_option maxHeartbeats 8000000 in
theorem turns_walk (k l x : Nat → Int) (hk : ∀ i, B8 (k i)) (hl : ∀ i, B8 (l i)) (hx : ∀ i, B8 (x i)) (w : World) : Calls Try.prog 7 #[.agg (byt k), .agg (byt l), .agg (byt x)] w fun r w' => r = .returned (.bool true) ∧ Chg w w' := by
  have HC : Hid (∃ d1 d2 d3 : Nat → Int, (∀ W, Calls Try.prog 9 #[.agg (byt l), .agg (byt x)] W fun r w' => r = .returned (.agg (byt d1)) ∧ Chg W w') ∧ (∀ W, Calls Try.prog 9 #[.agg (byt k), .agg (byt d1)] W fun r w' => r = .returned (.agg (byt d3)) ∧ Chg W w') ∧ (∀ W, Calls Try.prog 9 #[.agg (byt k), .agg (byt x)] W fun r w' => r = .returned (.agg (byt d2)) ∧ Chg W w') ∧ (∀ W, Calls Try.prog 9 #[.agg (byt l), .agg (byt d2)] W fun r w' => r = .returned (.agg (byt d3)) ∧ Chg W w')) := by
    refine ⟨mB l x, mB k x, mB k (mB l x), fun W => multX_any l x hl hx W, fun W => multX_any k _ hk (mB_8 _ _) W, fun W => multX_any k x hk hx W, fun W => ?_⟩
    rw [mB_turn x hk hl]
    exact multX_any l _ hl (mB_8 _ _) W
  obtain ⟨d1, d2, d3, k1, k2, k3, k4⟩ := HC.out
  have K1 : Hid (∀ W, Calls Try.prog 9 #[.agg (byt l), .agg (byt x)] W fun r w' => r = .returned (.agg (byt d1)) ∧ Chg W w') := k1
  have K2 : Hid (∀ W, Calls Try.prog 9 #[.agg (byt k), .agg (byt d1)] W fun r w' => r = .returned (.agg (byt d3)) ∧ Chg W w') := k2
  have K3 : Hid (∀ W, Calls Try.prog 9 #[.agg (byt k), .agg (byt x)] W fun r w' => r = .returned (.agg (byt d2)) ∧ Chg W w') := k3
  have K4 : Hid (∀ W, Calls Try.prog 9 #[.agg (byt l), .agg (byt d2)] W fun r w' => r = .returned (.agg (byt d3)) ∧ Chg W w') := k4
  clear k1 k2 k3 k4 HC hk hl hx
  have hsA := byt_size k
  have hsB := byt_size l
  have hsC := byt_size x
  obtain ⟨A, hA⟩ : ∃ A, A = byt k := ⟨_, rfl⟩
  obtain ⟨B, hB⟩ : ∃ A, A = byt l := ⟨_, rfl⟩
  obtain ⟨C, hC⟩ : ∃ A, A = byt x := ⟨_, rfl⟩
  have HA : Hid (A = byt k ∧ B = byt l ∧ C = byt x) := ⟨hA, hB, hC⟩
  rw [← hA] at hsA ⊢
  rw [← hB] at hsB ⊢
  rw [← hC] at hsC ⊢
  clear hA hB hC
  go_enter Try.func7, Try.ntmps7
  go_upto_region 1 with fail
  obtain ⟨w0, hw0⟩ : ∃ w0, w0 = ((w.alloc (.cells A 22)).alloc (.cells B 22)).alloc (.cells C 22) := ⟨_, rfl⟩
  have Z0 : Hid (Chg w w0 ∧ Ar w0 w.heap.size (byt k) ∧ Ar w0 (w.heap.size + 1) (byt l) ∧ Ar w0 (w.heap.size + 1 + 1) (byt x)) := by
    rw [hw0, HA.out.1, HA.out.2.1, HA.out.2.2]
    exact ⟨(((Chg.refl w).alloc _).alloc _).alloc _, ((Ar.new w _ _).alloc _).alloc _, (Ar.new1 w _ _ _).alloc _, Ar.new2 w _ _ _ _⟩
  rw [← hw0]
  clear hw0 hsA hsB hsC HA
  go_wp2_with fail
  go_at_call 8
  refine (head_any _).mono ?_
  rintro r w1 ⟨rfl, hc1⟩
  have Z1 : Hid (Chg w w1 ∧ Ar w1 w.heap.size (byt k) ∧ Ar w1 (w.heap.size + 1) (byt l) ∧ Ar w1 (w.heap.size + 1 + 1) (byt x)) := ⟨Z0.out.1.trans hc1, Z0.out.2.1.chg hc1, Z0.out.2.2.1.chg hc1, Z0.out.2.2.2.chg hc1⟩
  clear hc1 Z0
  go_upto_region 2 with fail
  refine wp_region_good 14 (fun j v wg => match j with
    | 0 => v = .bool true
    | 1 => v = .bool true
    | 2 => v = .agg (byt k)
    | 3 => v = .agg (byt l)
    | 4 => v = .agg (byt x)
    | 5 => v = .agg (byt d1)
    | 6 => v = .agg (byt d3)
    | 7 => v = .agg (byt l)
    | 8 => v = .agg (byt k)
    | 9 => v = .agg (byt x)
    | 10 => v = .agg (byt d2)
    | 11 => v = .agg (byt d3)
    | 12 => v = .bool true
    | 13 => v = .bool true
    | _ => True) (by kernel_rfl) (by kernel_rfl) (by kernel_rfl) (by kernel_rfl) (by kernel_rfl) ?_ ?_ ?_
  · intro j v u1 u2 h hc
    match j, h with
    | 0, h => exact h
    | 1, h => exact h
    | 2, h => exact h
    | 3, h => exact h
    | 4, h => exact h
    | 5, h => exact h
    | 6, h => exact h
    | 7, h => exact h
    | 8, h => exact h
    | 9, h => exact h
    | 10, h => exact h
    | 11, h => exact h
    | 12, h => exact h
    | 13, h => exact h
    | _ + 14, h => exact trivial
  · intro i o ac u hi ho hsz hf hg hc
    have hcs : i = 0 ∨ i = 1 ∨ i = 2 ∨ i = 3 ∨ i = 4 ∨ i = 5 ∨ i = 6 ∨ i = 7 ∨ i = 8 ∨ i = 9 ∨ i = 10 ∨ i = 11 ∨ i = 12 ∨ i = 13 := by omega
    rcases hcs with rfl | rfl | rfl | rfl | rfl | rfl | rfl | rfl | rfl | rfl | rfl | rfl | rfl | rfl
    · injection ho with ho
      subst ho
      refine .inl ⟨wanted_none rfl, ?_⟩
      have e1 : ac.eval (.tmp 7) = .bool true := hf 7 (by kernel_rfl)
      exact opG_val (by simp [execOp, e1]) rfl (Chg.refl _)
    · injection ho with ho
      subst ho
      refine .inl ⟨wanted_none rfl, ?_⟩
      have e1 : ac.eval (.tmp 9) = .bool true := hg 0 (by kernel_rfl) (by decide)
      exact opG_val (by simp [execOp, e1]) rfl (Chg.refl _)
    · injection ho with ho
      subst ho
      refine .inl ⟨wanted_by (T := _) (by kernel_rfl) hsz rfl (by decide : 1 < 14) rfl (hg 1 (by kernel_rfl) (by decide)), ?_⟩
      have e1 : ac.eval (.tmp 3) = .pointer (some ⟨w.heap.size, 0, none⟩) := hf 3 (by kernel_rfl)
      exact wp_load_mid 22 (.tmp 3) rfl _ _ e1 ((byt k).toList) _ (rangeY (Ar.chg (w := w1.drew) Z1.out.2.1.drew hc)) un37 rfl (infoY _) ⟨_, rfl, rfl, Chg.refl _⟩
    · injection ho with ho
      subst ho
      refine .inl ⟨wanted_by (T := _) (by kernel_rfl) hsz rfl (by decide : 1 < 14) rfl (hg 1 (by kernel_rfl) (by decide)), ?_⟩
      have e1 : ac.eval (.tmp 4) = .pointer (some ⟨w.heap.size + 1, 0, none⟩) := hf 4 (by kernel_rfl)
      exact wp_load_mid 22 (.tmp 4) rfl _ _ e1 ((byt l).toList) _ (rangeY (Ar.chg (w := w1.drew) Z1.out.2.2.1.drew hc)) un37 rfl (infoY _) ⟨_, rfl, rfl, Chg.refl _⟩
    · injection ho with ho
      subst ho
      refine .inl ⟨wanted_by (T := _) (by kernel_rfl) hsz rfl (by decide : 1 < 14) rfl (hg 1 (by kernel_rfl) (by decide)), ?_⟩
      have e1 : ac.eval (.tmp 5) = .pointer (some ⟨w.heap.size + 1 + 1, 0, none⟩) := hf 5 (by kernel_rfl)
      exact wp_load_mid 22 (.tmp 5) rfl _ _ e1 ((byt x).toList) _ (rangeY (Ar.chg (w := w1.drew) Z1.out.2.2.2.drew hc)) un37 rfl (infoY _) ⟨_, rfl, rfl, Chg.refl _⟩
    · injection ho with ho
      subst ho
      refine .inl ⟨wanted_by (T := _) (by kernel_rfl) hsz rfl (by decide : 1 < 14) rfl (hg 1 (by kernel_rfl) (by decide)), ?_⟩
      have e1 : ac.eval (.tmp 12) = .agg (byt l) := hg 3 (by kernel_rfl) (by decide)
      have e2 : ac.eval (.tmp 13) = .agg (byt x) := hg 4 (by kernel_rfl) (by decide)
      refine opG_go 9 Try.f9 #[.tmp 12, .tmp 13] #[22, 22] rfl Try.func9 (by kernel_rfl) (by kernel_rfl) (by simp [e1, e2]) (Calls.mono (K1.out _) ?_)
      rintro r u2 ⟨rfl, hc2⟩
      exact ⟨_, rfl, rfl, hc2⟩
    · injection ho with ho
      subst ho
      refine .inl ⟨wanted_by (T := _) (by kernel_rfl) hsz rfl (by decide : 1 < 14) rfl (hg 1 (by kernel_rfl) (by decide)), ?_⟩
      have e1 : ac.eval (.tmp 11) = .agg (byt k) := hg 2 (by kernel_rfl) (by decide)
      have e2 : ac.eval (.tmp 14) = .agg (byt d1) := hg 5 (by kernel_rfl) (by decide)
      refine opG_go 9 Try.f9 #[.tmp 11, .tmp 14] #[22, 22] rfl Try.func9 (by kernel_rfl) (by kernel_rfl) (by simp [e1, e2]) (Calls.mono (K2.out _) ?_)
      rintro r u2 ⟨rfl, hc2⟩
      exact ⟨_, rfl, rfl, hc2⟩
    · injection ho with ho
      subst ho
      refine .inl ⟨wanted_by (T := _) (by kernel_rfl) hsz rfl (by decide : 1 < 14) rfl (hg 1 (by kernel_rfl) (by decide)), ?_⟩
      have e1 : ac.eval (.tmp 4) = .pointer (some ⟨w.heap.size + 1, 0, none⟩) := hf 4 (by kernel_rfl)
      exact wp_load_mid 22 (.tmp 4) rfl _ _ e1 ((byt l).toList) _ (rangeY (Ar.chg (w := w1.drew) Z1.out.2.2.1.drew hc)) un37 rfl (infoY _) ⟨_, rfl, rfl, Chg.refl _⟩
    · injection ho with ho
      subst ho
      refine .inl ⟨wanted_by (T := _) (by kernel_rfl) hsz rfl (by decide : 1 < 14) rfl (hg 1 (by kernel_rfl) (by decide)), ?_⟩
      have e1 : ac.eval (.tmp 3) = .pointer (some ⟨w.heap.size, 0, none⟩) := hf 3 (by kernel_rfl)
      exact wp_load_mid 22 (.tmp 3) rfl _ _ e1 ((byt k).toList) _ (rangeY (Ar.chg (w := w1.drew) Z1.out.2.1.drew hc)) un37 rfl (infoY _) ⟨_, rfl, rfl, Chg.refl _⟩
    · injection ho with ho
      subst ho
      refine .inl ⟨wanted_by (T := _) (by kernel_rfl) hsz rfl (by decide : 1 < 14) rfl (hg 1 (by kernel_rfl) (by decide)), ?_⟩
      have e1 : ac.eval (.tmp 5) = .pointer (some ⟨w.heap.size + 1 + 1, 0, none⟩) := hf 5 (by kernel_rfl)
      exact wp_load_mid 22 (.tmp 5) rfl _ _ e1 ((byt x).toList) _ (rangeY (Ar.chg (w := w1.drew) Z1.out.2.2.2.drew hc)) un37 rfl (infoY _) ⟨_, rfl, rfl, Chg.refl _⟩
    · injection ho with ho
      subst ho
      refine .inl ⟨wanted_by (T := _) (by kernel_rfl) hsz rfl (by decide : 1 < 14) rfl (hg 1 (by kernel_rfl) (by decide)), ?_⟩
      have e1 : ac.eval (.tmp 17) = .agg (byt k) := hg 8 (by kernel_rfl) (by decide)
      have e2 : ac.eval (.tmp 18) = .agg (byt x) := hg 9 (by kernel_rfl) (by decide)
      refine opG_go 9 Try.f9 #[.tmp 17, .tmp 18] #[22, 22] rfl Try.func9 (by kernel_rfl) (by kernel_rfl) (by simp [e1, e2]) (Calls.mono (K3.out _) ?_)
      rintro r u2 ⟨rfl, hc2⟩
      exact ⟨_, rfl, rfl, hc2⟩
    · injection ho with ho
      subst ho
      refine .inl ⟨wanted_by (T := _) (by kernel_rfl) hsz rfl (by decide : 1 < 14) rfl (hg 1 (by kernel_rfl) (by decide)), ?_⟩
      have e1 : ac.eval (.tmp 16) = .agg (byt l) := hg 7 (by kernel_rfl) (by decide)
      have e2 : ac.eval (.tmp 19) = .agg (byt d2) := hg 10 (by kernel_rfl) (by decide)
      refine opG_go 9 Try.f9 #[.tmp 16, .tmp 19] #[22, 22] rfl Try.func9 (by kernel_rfl) (by kernel_rfl) (by simp [e1, e2]) (Calls.mono (K4.out _) ?_)
      rintro r u2 ⟨rfl, hc2⟩
      exact ⟨_, rfl, rfl, hc2⟩
    · injection ho with ho
      subst ho
      refine .inl ⟨wanted_by (T := _) (by kernel_rfl) hsz rfl (by decide : 1 < 14) rfl (hg 1 (by kernel_rfl) (by decide)), ?_⟩
      have e1 : ac.eval (.tmp 15) = .agg (byt d3) := hg 6 (by kernel_rfl) (by decide)
      have e2 : ac.eval (.tmp 20) = .agg (byt d3) := hg 11 (by kernel_rfl) (by decide)
      exact opG_val (by revert e1 e2; generalize ac.eval = ρ; intro e1 e2; simp [go_sem, execOp, e1, e2, eqB_self]) rfl (Chg.refl _)
    · injection ho with ho
      subst ho
      refine .inl ⟨wanted_none rfl, ?_⟩
      have e1 : ac.eval (.tmp 10) = .bool true := hg 1 (by kernel_rfl) (by decide)
      have e2 : ac.eval (.tmp 21) = .bool true := hg 12 (by kernel_rfl) (by decide)
      have e3 : ac.eval (.const (.bool false)) = .bool false := rfl
      exact opG_val (by revert e1 e2 e3; generalize ac.eval = ρ; intro e1 e2 e3; simp [go_sem, execOp, e1, e2, e3]) rfl (Chg.refl _)
  · intro o u V ho hV hc
    injection ho with ho
    subst ho
    refine ⟨rfl, ?_⟩
    have q9 : V 0 = .bool true := hV 0 (by decide)
    have q10 : V 1 = .bool true := hV 1 (by decide)
    have q11 : V 2 = .agg (byt k) := hV 2 (by decide)
    have q12 : V 3 = .agg (byt l) := hV 3 (by decide)
    have q13 : V 4 = .agg (byt x) := hV 4 (by decide)
    have q14 : V 5 = .agg (byt d1) := hV 5 (by decide)
    have q15 : V 6 = .agg (byt d3) := hV 6 (by decide)
    have q16 : V 7 = .agg (byt l) := hV 7 (by decide)
    have q17 : V 8 = .agg (byt k) := hV 8 (by decide)
    have q18 : V 9 = .agg (byt x) := hV 9 (by decide)
    have q19 : V 10 = .agg (byt d2) := hV 10 (by decide)
    have q20 : V 11 = .agg (byt d3) := hV 11 (by decide)
    have q21 : V 12 = .bool true := hV 12 (by decide)
    have q22 : V 13 = .bool true := hV 13 (by decide)
    refine op_asg (.tmp 22) (.bool true) rfl (Eq.trans (by rfl) q22) ?_
    have hcu : Hid (Chg w u) := (Z1.out.1.drew).trans hc
    go_wp2_with fail
    go_ret
    exact ⟨rfl, hcu.out⟩
end Go.Proofs.Ytiehjhlekpjlaaa
