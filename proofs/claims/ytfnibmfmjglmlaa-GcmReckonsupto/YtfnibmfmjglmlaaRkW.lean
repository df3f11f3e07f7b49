/-
  Products and hashes are the document's: GcmReckons walked.
-/
import Derived.Test.YtfnibmfmjglmlaaRHs
import Derived.Test.YtfnibmfmjglmlaaFiW
namespace Go.Proofs.Ytfnibmfmjglmlaa
open Go.RowKit
set_option linter.unusedVariables false

theorem eqB_self (f : Nat → By) : eqB f f = true := (eqB_iff f f).2 (E16.refl f)

set_option maxRecDepth 100000 in
set_option maxHeartbeats 8000000 in
theorem reckons_walk (x y ta tx : Nat → By) (na nx ca cx : Nat) (ao xo : Option Addr) (w : World) (hva : Ap.Rd w (.slice ao na ca) (nums na ta)) (hvx : Ap.Rd w (.slice xo nx cx) (nums nx tx)) (hT : 16 * (nb na + nb nx + 1) ≤ 140737488355328) (hna : na ≤ 140737488351232) (hnx : nx ≤ 140737488351232) :
    Calls Try.prog 4 #[.agg (ba 16 x), .agg (ba 16 y), .slice ao na ca, .slice xo nx cx] w fun r w' => r = .returned (.bool true) ∧ Chg w w' := by
  have HX : Hid (Ap.Rd w (.slice ao na ca) (nums na ta) ∧ Ap.Rd w (.slice xo nx cx) (nums nx tx) ∧ 16 * (nb na + nb nx + 1) ≤ 140737488355328 ∧ na ≤ 140737488351232 ∧ nx ≤ 140737488351232) := ⟨hva, hvx, hT, hna, hnx⟩
  clear hva hvx hT hna hnx
  have hsX := ba_size 16 x
  have hsY := ba_size 16 y
  obtain ⟨X, hX⟩ : ∃ X, X = ba 16 x := ⟨_, rfl⟩
  obtain ⟨Y, hY⟩ : ∃ Y, Y = ba 16 y := ⟨_, rfl⟩
  have HE : Hid (X = ba 16 x ∧ Y = ba 16 y) := ⟨hX, hY⟩
  rw [← hX] at hsX ⊢
  rw [← hY] at hsY ⊢
  clear hX hY
  go_enter Try.func4, Try.ntmps4
  go_upto_region 1 with fail
  obtain ⟨w1, hw1⟩ : ∃ w1, w1 = (w.alloc (.cells X 23)).alloc (.cells Y 23) := ⟨_, rfl⟩
  have Z1 : Hid (Chg w w1 ∧ Ar w1 w.heap.size (ba 16 x) ∧ Ar w1 (w.heap.size + 1) (ba 16 y)) := by
    rw [hw1, HE.out.1, HE.out.2]
    exact ⟨((Chg.refl w).alloc _).alloc _, (Ar.new w _ _).alloc _, Ar.new1 w _ _ _⟩
  rw [← hw1]
  clear hw1 hsX hsY
  go_wp2_with fail
  go_at_call 14
  refine (ghead_any _).mono ?_
  rintro r w2 ⟨rfl, hc2⟩
  have Z : Hid (Chg w w2 ∧ Ar w2 w.heap.size (ba 16 x) ∧ Ar w2 (w.heap.size + 1) (ba 16 y)) := ⟨Z1.out.1.trans hc2, Z1.out.2.1.chg hc2, Z1.out.2.2.chg hc2⟩
  clear hc2 Z1
  go_upto_region 2 with fail
  refine wp_region_good 21 (fun j v wg => match j with
    | 0 => v = .bool true
    | 1 => v = .bool true
    | 2 => v = .agg (ba 16 x)
    | 3 => v = .agg (ba 16 y)
    | 4 => v = .agg (ba 16 (mulB x y))
    | 5 => v = .agg (ba 16 x)
    | 6 => v = .agg (ba 16 y)
    | 7 => v = .agg (ba 16 (mulB x y))
    | 8 => v = .bool true
    | 9 => v = .bool true
    | 10 => v = .bool true
    | 11 => v = .agg (ba 16 x)
    | 12 => v = .slice ao na ca
    | 13 => v = .slice xo nx cx
    | 14 => v = .agg (ba 16 (ghash x ta na tx nx))
    | 15 => v = .agg (ba 16 x)
    | 16 => v = .slice ao na ca
    | 17 => v = .slice xo nx cx
    | 18 => v = .agg (ba 16 (ghash x ta na tx nx))
    | 19 => v = .bool true
    | 20 => v = .bool true
    | _ => True) (by kernel_rfl) (by kernel_rfl) (by kernel_rfl) (by kernel_rfl) (by kernel_rfl) ?_ ?_ ?_
  · intro j v u1 u2 h hc
    match j, h with
    | 0, h => exact h
    | 1, h => exact h
    | 2, h => exact h
    | 3, h => exact h
    | 4, h => exact h
    | 5, h => exact h
    | 6, h => exact h
    | 7, h => exact h
    | 8, h => exact h
    | 9, h => exact h
    | 10, h => exact h
    | 11, h => exact h
    | 12, h => exact h
    | 13, h => exact h
    | 14, h => exact h
    | 15, h => exact h
    | 16, h => exact h
    | 17, h => exact h
    | 18, h => exact h
    | 19, h => exact h
    | 20, h => exact h
    | _ + 21, h => exact trivial
  · intro i o ac u hi ho hsz hf hg hc
    have hcs : i = 0 ∨ i = 1 ∨ i = 2 ∨ i = 3 ∨ i = 4 ∨ i = 5 ∨ i = 6 ∨ i = 7 ∨ i = 8 ∨ i = 9 ∨ i = 10 ∨ i = 11 ∨ i = 12 ∨ i = 13 ∨ i = 14 ∨ i = 15 ∨ i = 16 ∨ i = 17 ∨ i = 18 ∨ i = 19 ∨ i = 20 := by omega
    rcases hcs with rfl | rfl | rfl | rfl | rfl | rfl | rfl | rfl | rfl | rfl | rfl | rfl | rfl | rfl | rfl | rfl | rfl | rfl | rfl | rfl | rfl
    · injection ho with ho
      subst ho
      refine .inl ⟨wanted_none rfl, ?_⟩
      have e1 : ac.eval (.tmp 9) = .bool true := hf 9 (by kernel_rfl)
      exact opG_val (by simp [execOp, e1]) rfl (Chg.refl _)
    · injection ho with ho
      subst ho
      refine .inl ⟨wanted_none rfl, ?_⟩
      have e1 : ac.eval (.tmp 11) = .bool true := hg 0 (by kernel_rfl) (by decide)
      exact opG_val (by simp [execOp, e1]) rfl (Chg.refl _)
    · injection ho with ho
      subst ho
      refine .inl ⟨wanted_by (T := _) (by kernel_rfl) hsz rfl (by decide : 1 < 21) rfl (hg 1 (by kernel_rfl) (by decide)), ?_⟩
      have e1 : ac.eval (.tmp 4) = .pointer (some ⟨w.heap.size, 0, none⟩) := hf 4 (by kernel_rfl)
      exact wp_load_mid 23 (.tmp 4) rfl _ _ e1 (bl (x)) _ (rangeB (Ar.chg (w := w2.drew) Z.out.2.1 hc)) und32 rfl (bl_info _) ⟨_, rfl, rfl, Chg.refl _⟩
    · injection ho with ho
      subst ho
      refine .inl ⟨wanted_by (T := _) (by kernel_rfl) hsz rfl (by decide : 1 < 21) rfl (hg 1 (by kernel_rfl) (by decide)), ?_⟩
      have e1 : ac.eval (.tmp 5) = .pointer (some ⟨w.heap.size + 1, 0, none⟩) := hf 5 (by kernel_rfl)
      exact wp_load_mid 23 (.tmp 5) rfl _ _ e1 (bl (y)) _ (rangeB (Ar.chg (w := w2.drew) Z.out.2.2 hc)) und32 rfl (bl_info _) ⟨_, rfl, rfl, Chg.refl _⟩
    · injection ho with ho
      subst ho
      refine .inl ⟨wanted_by (T := _) (by kernel_rfl) hsz rfl (by decide : 1 < 21) rfl (hg 1 (by kernel_rfl) (by decide)), ?_⟩
      have e1 : ac.eval (.tmp 13) = .agg (ba 16 x) := hg 2 (by kernel_rfl) (by decide)
      have e2 : ac.eval (.tmp 14) = .agg (ba 16 y) := hg 3 (by kernel_rfl) (by decide)
      refine opG_go 15 Try.f15 #[.tmp 13, .tmp 14] #[23, 23] rfl Try.func15 (by kernel_rfl) (by kernel_rfl) (by simp [e1, e2]) (Calls.mono (mul_any x y _) ?_)
      rintro r u2 ⟨rfl, hc2⟩
      exact ⟨_, rfl, rfl, hc2⟩
    · injection ho with ho
      subst ho
      refine .inl ⟨wanted_by (T := _) (by kernel_rfl) hsz rfl (by decide : 1 < 21) rfl (hg 1 (by kernel_rfl) (by decide)), ?_⟩
      have e1 : ac.eval (.tmp 4) = .pointer (some ⟨w.heap.size, 0, none⟩) := hf 4 (by kernel_rfl)
      exact wp_load_mid 23 (.tmp 4) rfl _ _ e1 (bl (x)) _ (rangeB (Ar.chg (w := w2.drew) Z.out.2.1 hc)) und32 rfl (bl_info _) ⟨_, rfl, rfl, Chg.refl _⟩
    · injection ho with ho
      subst ho
      refine .inl ⟨wanted_by (T := _) (by kernel_rfl) hsz rfl (by decide : 1 < 21) rfl (hg 1 (by kernel_rfl) (by decide)), ?_⟩
      have e1 : ac.eval (.tmp 5) = .pointer (some ⟨w.heap.size + 1, 0, none⟩) := hf 5 (by kernel_rfl)
      exact wp_load_mid 23 (.tmp 5) rfl _ _ e1 (bl (y)) _ (rangeB (Ar.chg (w := w2.drew) Z.out.2.2 hc)) und32 rfl (bl_info _) ⟨_, rfl, rfl, Chg.refl _⟩
    · injection ho with ho
      subst ho
      refine .inl ⟨wanted_by (T := _) (by kernel_rfl) hsz rfl (by decide : 1 < 21) rfl (hg 1 (by kernel_rfl) (by decide)), ?_⟩
      have e1 : ac.eval (.tmp 16) = .agg (ba 16 x) := hg 5 (by kernel_rfl) (by decide)
      have e2 : ac.eval (.tmp 17) = .agg (ba 16 y) := hg 6 (by kernel_rfl) (by decide)
      refine opG_go 16 Try.f16 #[.tmp 16, .tmp 17] #[23, 23] rfl Try.func16 (by kernel_rfl) (by kernel_rfl) (by simp [e1, e2]) (Calls.mono (refMul_any x y _) ?_)
      rintro r u2 ⟨rfl, hc2⟩
      exact ⟨_, rfl, rfl, hc2⟩
    · injection ho with ho
      subst ho
      refine .inl ⟨wanted_by (T := _) (by kernel_rfl) hsz rfl (by decide : 1 < 21) rfl (hg 1 (by kernel_rfl) (by decide)), ?_⟩
      have e1 : ac.eval (.tmp 15) = .agg (ba 16 (mulB x y)) := hg 4 (by kernel_rfl) (by decide)
      have e2 : ac.eval (.tmp 18) = .agg (ba 16 (mulB x y)) := hg 7 (by kernel_rfl) (by decide)
      exact opG_val (by revert e1 e2; generalize ac.eval = ρ; intro e1 e2; simp [go_sem, execOp, e1, e2, run_eqB, eqB_self]) rfl (Chg.refl _)
    · injection ho with ho
      subst ho
      refine .inl ⟨wanted_none rfl, ?_⟩
      have e1 : ac.eval (.tmp 12) = .bool true := hg 1 (by kernel_rfl) (by decide)
      have e2 : ac.eval (.tmp 19) = .bool true := hg 8 (by kernel_rfl) (by decide)
      have e3 : ac.eval (.const (.bool false)) = .bool false := rfl
      exact opG_val (by revert e1 e2 e3; generalize ac.eval = ρ; intro e1 e2 e3; simp [go_sem, execOp, e1, e2, e3]) rfl (Chg.refl _)
    · injection ho with ho
      subst ho
      refine .inl ⟨wanted_none rfl, ?_⟩
      have e1 : ac.eval (.tmp 20) = .bool true := hg 9 (by kernel_rfl) (by decide)
      exact opG_val (by simp [execOp, e1]) rfl (Chg.refl _)
    · injection ho with ho
      subst ho
      refine .inl ⟨wanted_by (T := _) (by kernel_rfl) hsz rfl (by decide : 10 < 21) rfl (hg 10 (by kernel_rfl) (by decide)), ?_⟩
      have e1 : ac.eval (.tmp 4) = .pointer (some ⟨w.heap.size, 0, none⟩) := hf 4 (by kernel_rfl)
      exact wp_load_mid 23 (.tmp 4) rfl _ _ e1 (bl (x)) _ (rangeB (Ar.chg (w := w2.drew) Z.out.2.1 hc)) und32 rfl (bl_info _) ⟨_, rfl, rfl, Chg.refl _⟩
    · injection ho with ho
      subst ho
      refine .inl ⟨wanted_by (T := _) (by kernel_rfl) hsz rfl (by decide : 10 < 21) rfl (hg 10 (by kernel_rfl) (by decide)), ?_⟩
      have e1 : ac.eval (.tmp 2) = .slice ao na ca := hf 2 (by kernel_rfl)
      exact opG_val (by simp [execOp, e1]) rfl (Chg.refl _)
    · injection ho with ho
      subst ho
      refine .inl ⟨wanted_by (T := _) (by kernel_rfl) hsz rfl (by decide : 10 < 21) rfl (hg 10 (by kernel_rfl) (by decide)), ?_⟩
      have e1 : ac.eval (.tmp 3) = .slice xo nx cx := hf 3 (by kernel_rfl)
      exact opG_val (by simp [execOp, e1]) rfl (Chg.refl _)
    · injection ho with ho
      subst ho
      refine .inl ⟨wanted_by (T := _) (by kernel_rfl) hsz rfl (by decide : 10 < 21) rfl (hg 10 (by kernel_rfl) (by decide)), ?_⟩
      have e1 : ac.eval (.tmp 22) = .agg (ba 16 x) := hg 11 (by kernel_rfl) (by decide)
      have e2 : ac.eval (.tmp 23) = .slice ao na ca := hg 12 (by kernel_rfl) (by decide)
      have e3 : ac.eval (.tmp 24) = .slice xo nx cx := hg 13 (by kernel_rfl) (by decide)
      refine opG_go 17 Try.f17 #[.tmp 22, .tmp 23, .tmp 24] #[23, 22, 22] rfl Try.func17 (by kernel_rfl) (by kernel_rfl) (by simp [e1, e2, e3]) (Calls.mono (hash_any x ta tx na nx _ _ _ (Rd.chg HX.out.1 (Z.out.1.drew.trans hc)) (Rd.chg HX.out.2.1 (Z.out.1.drew.trans hc)) HX.out.2.2.2.1 HX.out.2.2.2.2) ?_)
      rintro r u2 ⟨rfl, hc2⟩
      exact ⟨_, rfl, rfl, hc2⟩
    · injection ho with ho
      subst ho
      refine .inl ⟨wanted_by (T := _) (by kernel_rfl) hsz rfl (by decide : 10 < 21) rfl (hg 10 (by kernel_rfl) (by decide)), ?_⟩
      have e1 : ac.eval (.tmp 4) = .pointer (some ⟨w.heap.size, 0, none⟩) := hf 4 (by kernel_rfl)
      exact wp_load_mid 23 (.tmp 4) rfl _ _ e1 (bl (x)) _ (rangeB (Ar.chg (w := w2.drew) Z.out.2.1 hc)) und32 rfl (bl_info _) ⟨_, rfl, rfl, Chg.refl _⟩
    · injection ho with ho
      subst ho
      refine .inl ⟨wanted_by (T := _) (by kernel_rfl) hsz rfl (by decide : 10 < 21) rfl (hg 10 (by kernel_rfl) (by decide)), ?_⟩
      have e1 : ac.eval (.tmp 2) = .slice ao na ca := hf 2 (by kernel_rfl)
      exact opG_val (by simp [execOp, e1]) rfl (Chg.refl _)
    · injection ho with ho
      subst ho
      refine .inl ⟨wanted_by (T := _) (by kernel_rfl) hsz rfl (by decide : 10 < 21) rfl (hg 10 (by kernel_rfl) (by decide)), ?_⟩
      have e1 : ac.eval (.tmp 3) = .slice xo nx cx := hf 3 (by kernel_rfl)
      exact opG_val (by simp [execOp, e1]) rfl (Chg.refl _)
    · injection ho with ho
      subst ho
      refine .inl ⟨wanted_by (T := _) (by kernel_rfl) hsz rfl (by decide : 10 < 21) rfl (hg 10 (by kernel_rfl) (by decide)), ?_⟩
      have e1 : ac.eval (.tmp 26) = .agg (ba 16 x) := hg 15 (by kernel_rfl) (by decide)
      have e2 : ac.eval (.tmp 27) = .slice ao na ca := hg 16 (by kernel_rfl) (by decide)
      have e3 : ac.eval (.tmp 28) = .slice xo nx cx := hg 17 (by kernel_rfl) (by decide)
      refine opG_go 18 Try.f18 #[.tmp 26, .tmp 27, .tmp 28] #[23, 22, 22] rfl Try.func18 (by kernel_rfl) (by kernel_rfl) (by simp [e1, e2, e3]) (Calls.mono (refHash_any x ta tx na nx ca cx ao xo _ (Rd.chg HX.out.1 (Z.out.1.drew.trans hc)) (Rd.chg HX.out.2.1 (Z.out.1.drew.trans hc)) HX.out.2.2.1 HX.out.2.2.2.1 HX.out.2.2.2.2) ?_)
      rintro r u2 ⟨rfl, hc2⟩
      exact ⟨_, rfl, rfl, hc2⟩
    · injection ho with ho
      subst ho
      refine .inl ⟨wanted_by (T := _) (by kernel_rfl) hsz rfl (by decide : 10 < 21) rfl (hg 10 (by kernel_rfl) (by decide)), ?_⟩
      have e1 : ac.eval (.tmp 25) = .agg (ba 16 (ghash x ta na tx nx)) := hg 14 (by kernel_rfl) (by decide)
      have e2 : ac.eval (.tmp 29) = .agg (ba 16 (ghash x ta na tx nx)) := hg 18 (by kernel_rfl) (by decide)
      exact opG_val (by revert e1 e2; generalize ac.eval = ρ; intro e1 e2; simp [go_sem, execOp, e1, e2, run_eqB, eqB_self]) rfl (Chg.refl _)
    · injection ho with ho
      subst ho
      refine .inl ⟨wanted_none rfl, ?_⟩
      have e1 : ac.eval (.tmp 21) = .bool true := hg 10 (by kernel_rfl) (by decide)
      have e2 : ac.eval (.tmp 30) = .bool true := hg 19 (by kernel_rfl) (by decide)
      have e3 : ac.eval (.const (.bool false)) = .bool false := rfl
      exact opG_val (by revert e1 e2 e3; generalize ac.eval = ρ; intro e1 e2 e3; simp [go_sem, execOp, e1, e2, e3]) rfl (Chg.refl _)
  · intro o u V ho hV hc
    injection ho with ho
    subst ho
    refine ⟨rfl, ?_⟩
    have q11 : V 0 = .bool true := hV 0 (by decide)
    have q12 : V 1 = .bool true := hV 1 (by decide)
    have q13 : V 2 = .agg (ba 16 x) := hV 2 (by decide)
    have q14 : V 3 = .agg (ba 16 y) := hV 3 (by decide)
    have q15 : V 4 = .agg (ba 16 (mulB x y)) := hV 4 (by decide)
    have q16 : V 5 = .agg (ba 16 x) := hV 5 (by decide)
    have q17 : V 6 = .agg (ba 16 y) := hV 6 (by decide)
    have q18 : V 7 = .agg (ba 16 (mulB x y)) := hV 7 (by decide)
    have q19 : V 8 = .bool true := hV 8 (by decide)
    have q20 : V 9 = .bool true := hV 9 (by decide)
    have q21 : V 10 = .bool true := hV 10 (by decide)
    have q22 : V 11 = .agg (ba 16 x) := hV 11 (by decide)
    have q23 : V 12 = .slice ao na ca := hV 12 (by decide)
    have q24 : V 13 = .slice xo nx cx := hV 13 (by decide)
    have q25 : V 14 = .agg (ba 16 (ghash x ta na tx nx)) := hV 14 (by decide)
    have q26 : V 15 = .agg (ba 16 x) := hV 15 (by decide)
    have q27 : V 16 = .slice ao na ca := hV 16 (by decide)
    have q28 : V 17 = .slice xo nx cx := hV 17 (by decide)
    have q29 : V 18 = .agg (ba 16 (ghash x ta na tx nx)) := hV 18 (by decide)
    have q30 : V 19 = .bool true := hV 19 (by decide)
    have q31 : V 20 = .bool true := hV 20 (by decide)
    refine op_val1 (v := .bool true) (by rw [← q31]; rfl) ?_
    go_wp2_with fail
    go_ret
    exact ⟨rfl, Z.out.1.drew.trans hc⟩

theorem reckons_any (x y ta tx : Nat → By) (na nx : Nat) (va vx : Value) (w : World) (hva : Ap.Rd w va (nums na ta)) (hvx : Ap.Rd w vx (nums nx tx)) (hna : na ≤ 1048576) (hnx : nx ≤ 1048576) :
    Calls Try.prog 4 #[.agg (ba 16 x), .agg (ba 16 y), va, vx] w fun r w' => r = .returned (.bool true) ∧ Chg w w' := by
  obtain ⟨ao, m0, c0, rfl, hm0, -⟩ := hva.shape
  obtain ⟨a1, m1, c1, rfl, hm1, -⟩ := hvx.shape
  rw [nums_len] at hm0 hm1
  subst hm0 hm1
  exact reckons_walk x y ta tx m0 m1 c0 c1 ao a1 w hva hvx (by unfold nb; omega) (by omega) (by omega)
end Go.Proofs.Ytfnibmfmjglmlaa
