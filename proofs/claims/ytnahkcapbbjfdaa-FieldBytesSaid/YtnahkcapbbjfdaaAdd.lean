/-
  Sums in a field.
-/
import Derived.Test.YtnahkcapbbjfdaaRst
namespace Go.Proofs.Ytnahkcapbbjfdaa
open Go.RowKit
set_option linter.unusedVariables false

theorem mo_pos4 {f : Int} (hf : f = 1 ∨ f = 2 ∨ f = 3 ∨ f = 4) : 0 < mo f ∧ mo f < R256 := by
  rcases hf with rfl | rfl | rfl | rfl
  · rw [mo1]; unfold R256; omega
  · rw [mo2]; unfold R256; omega
  · rw [mo3]; unfold R256; omega
  · rw [mo4]; unfold R256; omega
theorem mod_N {f : Int} (hf : f = 1 ∨ f = 2 ∨ f = 3 ∨ f = 4) (a : Int) : N256 (a % mo f) := by
  obtain ⟨h1, h2⟩ := mo_pos4 hf
  have := Int.emod_nonneg a (show mo f ≠ 0 by omega)
  have := Int.emod_lt_of_pos a h1
  exact ⟨by omega, by omega⟩
theorem add_lt {f a b L o : Int} (hf : f = 1 ∨ f = 2 ∨ f = 3 ∨ f = 4) (hL : L = (a % mo f + b % mo f) % R256) (ho : o = (a % mo f + b % mo f) / R256) (h0 : o = 0) (hl : L < mo f) : L = (a + b) % mo f := by
  obtain ⟨h1, h2⟩ := mo_pos4 hf
  have k1 := Int.emod_nonneg a (show mo f ≠ 0 by omega)
  have k2 := Int.emod_nonneg b (show mo f ≠ 0 by omega)
  have e : L = a % mo f + b % mo f := by unfold R256 at *; omega
  rw [Int.add_emod, ← e, Int.emod_eq_of_lt (by omega) hl]
theorem add_ge {f a b L o v : Int} (hf : f = 1 ∨ f = 2 ∨ f = 3 ∨ f = 4) (hL : L = (a % mo f + b % mo f) % R256) (ho : o = (a % mo f + b % mo f) / R256) (hg : ¬ (o = 0 ∧ L < mo f)) (hv : v = (L - mo f) % R256) : v = (a + b) % mo f := by
  obtain ⟨h1, h2⟩ := mo_pos4 hf
  have k1 := Int.emod_nonneg a (show mo f ≠ 0 by omega)
  have k2 := Int.emod_nonneg b (show mo f ≠ 0 by omega)
  have k3 := Int.emod_lt_of_pos a h1
  have k4 := Int.emod_lt_of_pos b h1
  have e : v = a % mo f + b % mo f - mo f ∧ 0 ≤ a % mo f + b % mo f - mo f := by
    generalize a % mo f = p at *
    generalize b % mo f = q at *
    generalize mo f = m at *
    unfold R256 at *
    omega
  have e2 : (a + b) % mo f = (a % mo f + b % mo f - mo f) % mo f := by
    rw [Int.sub_emod, Int.emod_self, Int.sub_zero, Int.emod_emod, Int.add_emod]
  rw [e2, ← e.1, Int.emod_eq_of_lt (by omega) (by omega)]

set_option maxRecDepth 100000 in
set_option maxHeartbeats 8000000 in
theorem add_any (f a b : Int) (hf : f = 1 ∨ f = 2 ∨ f = 3 ∨ f = 4) (ha : N256 a) (hb : N256 b) (w : World) : Calls Try.prog 10 #[.int .i64 f, .agg (num a), .agg (num b)] w fun r w' => r = .returned (.agg (num ((a + b) % mo f))) ∧ Chg w w' := by
  have HF : Hid (f = 1 ∨ f = 2 ∨ f = 3 ∨ f = 4) := hf
  have HN : Hid (N256 a ∧ N256 b) := ⟨ha, hb⟩
  have hz := zero25.1
  have hsA := num_size a
  have hsB := num_size b
  obtain ⟨A, hA⟩ : ∃ A, A = num a := ⟨_, rfl⟩
  obtain ⟨B, hB⟩ : ∃ B, B = num b := ⟨_, rfl⟩
  have HA : Hid (A = num a ∧ B = num b) := ⟨hA, hB⟩
  rw [← hA] at hsA ⊢
  rw [← hB] at hsB ⊢
  obtain ⟨L, hL⟩ : ∃ L, L = (a % mo f + b % mo f) % R256 := ⟨_, rfl⟩
  obtain ⟨o, hoo⟩ : ∃ o, o = (a % mo f + b % mo f) / R256 := ⟨_, rfl⟩
  have HL : Hid (L = (a % mo f + b % mo f) % R256 ∧ o = (a % mo f + b % mo f) / R256) := ⟨hL, hoo⟩
  have HLN : Hid (N256 L) := by
    show N256 L
    rw [hL]
    exact N256_mod _
  clear hA hB ha hb hf hL hoo
  go_enter Try.func10, Try.ntmps10
  go_upto_region 1 with fail
  obtain ⟨w1, hw1⟩ : ∃ w1, w1 = ((w.alloc (.cells A 25)).alloc (.cells B 25)).alloc (.cells (num 0) 25) := ⟨_, rfl⟩
  have Z1 : Hid (Chg w w1 ∧ Ar w1 w.heap.size (num a) ∧ Ar w1 (w.heap.size + 1) (num b) ∧ Ar w1 (w.heap.size + 1 + 1) (num 0)) := by
    rw [hw1, HA.out.1, HA.out.2]
    exact ⟨(((Chg.refl w).alloc _).alloc _).alloc _, ((Ar.new w _ _).alloc _).alloc _, (Ar.new1 w _ _ _).alloc _, Ar.new2 w _ _ _ _⟩
  rw [← hw1]
  clear hw1 hsA hsB hz
  go_cut [7, 8] from 7 to 18 (fun v6 v7 wc => ∃ b, v6 = .pointer (some ⟨b, 0, none⟩) ∧ v7 = .int .u64 o ∧ w1.heap.size ≤ b ∧ Ar wc b (num L) ∧ Chg w1 wc)
  case first =>
    refine wp_region_store 11 (fun j v fl wg => match j with
      | 0 => v = .int .i64 f
      | 1 => v = .agg (num a)
      | 2 => v = .agg (num (a % mo f))
      | 3 => v = .int .i64 f
      | 4 => v = .agg (num b)
      | 5 => v = .agg (num (b % mo f))
      | 6 => v = .tuple #[.agg (num L), .int .u64 o]
      | 7 => v = .tuple #[.agg (num L), .int .u64 o]
      | 8 => v = .agg (num L)
      | 9 => v = .int .u64 o
      | 10 => ∃ b, v = .pointer (some ⟨b, 0, none⟩) ∧ w1.heap.size ≤ b ∧ (fl = true → Ar wg b (num L)) ∧ (fl = false → Ar wg b (num 0))
      | 12 => v = .int .u64 o
      | _ => True) (fun _ u => Chg w1.drew u) (by kernel_rfl) (by decide) (by kernel_rfl) (by kernel_rfl) (by kernel_rfl) ?_ ?_ ?_ ?_ ?_ ?_
    · intro j v fl u1 u2 h hc
      match j, h with
      | 0, h => exact h
      | 1, h => exact h
      | 2, h => exact h
      | 3, h => exact h
      | 4, h => exact h
      | 5, h => exact h
      | 6, h => exact h
      | 7, h => exact h
      | 8, h => exact h
      | 9, h => exact h
      | 10, h => (obtain ⟨b, h1, h2, h3, h4⟩ := h; exact ⟨b, h1, h2, fun e => (h3 e).chg hc, fun e => (h4 e).chg hc⟩)
      | 11, h => exact trivial
      | 12, h => exact h
      | _ + 13, h => exact trivial
    · intro fl u u' h k
      exact h.trans k
    · intro i o' ac u fl hi his ho hfl hf hg hc
      have hi' : i < 13 := hi
      have hcs : i = 0 ∨ i = 1 ∨ i = 2 ∨ i = 3 ∨ i = 4 ∨ i = 5 ∨ i = 6 ∨ i = 7 ∨ i = 8 ∨ i = 9 ∨ i = 10 ∨ i = 12 := by omega
      rcases hcs with rfl | rfl | rfl | rfl | rfl | rfl | rfl | rfl | rfl | rfl | rfl | rfl
      · injection ho with ho
        subst ho
        have e1 : ac.eval (.tmp 0) = .int .i64 f := hf 0 (by kernel_rfl)
        exact opG_val (by simp [execOp, e1]) rfl (Chg.refl _)
      · injection ho with ho
        subst ho
        have e1 : ac.eval (.tmp 4) = .pointer (some ⟨w.heap.size, 0, none⟩) := hf 4 (by kernel_rfl)
        exact wp_load_mid 25 (.tmp 4) rfl _ _ e1 ((num a).toList) _ (rangeN (Ar.chg (w := w1.drew) Z1.out.2.1.drew hc)) u25 rfl (infoN _) ⟨_, rfl, rfl, Chg.refl _⟩
      · injection ho with ho
        subst ho
        have e1 : ac.eval (.tmp 10) = .int .i64 f := hg 0 (by kernel_rfl) (by decide) (by decide)
        have e2 : ac.eval (.tmp 11) = .agg (num a) := hg 1 (by kernel_rfl) (by decide) (by decide)
        refine opG_go 41 Try.f41 #[.tmp 10, .tmp 11] #[22, 25] rfl Try.func41 (by kernel_rfl) (by kernel_rfl) (by simp [e1, e2]) (Calls.mono (rest_any f a HF.out HN.out.1 _) ?_)
        rintro e u2 ⟨rfl, hc2⟩
        exact ⟨_, rfl, rfl, hc2⟩
      · injection ho with ho
        subst ho
        have e1 : ac.eval (.tmp 0) = .int .i64 f := hf 0 (by kernel_rfl)
        exact opG_val (by simp [execOp, e1]) rfl (Chg.refl _)
      · injection ho with ho
        subst ho
        have e1 : ac.eval (.tmp 5) = .pointer (some ⟨w.heap.size + 1, 0, none⟩) := hf 5 (by kernel_rfl)
        exact wp_load_mid 25 (.tmp 5) rfl _ _ e1 ((num b).toList) _ (rangeN (Ar.chg (w := w1.drew) Z1.out.2.2.1.drew hc)) u25 rfl (infoN _) ⟨_, rfl, rfl, Chg.refl _⟩
      · injection ho with ho
        subst ho
        have e1 : ac.eval (.tmp 13) = .int .i64 f := hg 3 (by kernel_rfl) (by decide) (by decide)
        have e2 : ac.eval (.tmp 14) = .agg (num b) := hg 4 (by kernel_rfl) (by decide) (by decide)
        refine opG_go 41 Try.f41 #[.tmp 13, .tmp 14] #[22, 25] rfl Try.func41 (by kernel_rfl) (by kernel_rfl) (by simp [e1, e2]) (Calls.mono (rest_any f b HF.out HN.out.2 _) ?_)
        rintro e u2 ⟨rfl, hc2⟩
        exact ⟨_, rfl, rfl, hc2⟩
      · injection ho with ho
        subst ho
        have e1 : ac.eval (.tmp 12) = .agg (num (a % mo f)) := hg 2 (by kernel_rfl) (by decide) (by decide)
        have e2 : ac.eval (.tmp 15) = .agg (num (b % mo f)) := hg 5 (by kernel_rfl) (by decide) (by decide)
        refine opG_go 40 Try.f40 #[.tmp 12, .tmp 15] #[25, 25] rfl Try.func40 (by kernel_rfl) (by kernel_rfl) (by simp [e1, e2]) (Calls.mono (plus_num _ _ (mod_N HF.out a) (mod_N HF.out b) _) ?_)
        rintro e u2 ⟨rfl, hc2⟩
        exact ⟨_, rfl, by show Value.tuple _ = Value.tuple _; rw [HL.out.1, HL.out.2], hc2⟩
      · injection ho with ho
        subst ho
        have e1 : ac.eval (.tmp 16) = .tuple #[.agg (num L), .int .u64 o] := hg 6 (by kernel_rfl) (by decide) (by decide)
        exact opG_val (by simp [execOp, e1]) rfl (Chg.refl _)
      · injection ho with ho
        subst ho
        have e1 : ac.eval (.tmp 9) = .tuple #[.agg (num L), .int .u64 o] := hg 7 (by kernel_rfl) (by decide) (by decide)
        exact opG_val (by revert e1; generalize ac.eval = ρ; intro e1; simp [go_sem, execOp, e1]) rfl (Chg.refl _)
      · injection ho with ho
        subst ho
        have e1 : ac.eval (.tmp 9) = .tuple #[.agg (num L), .int .u64 o] := hg 7 (by kernel_rfl) (by decide) (by decide)
        exact opG_val (by revert e1; generalize ac.eval = ρ; intro e1; simp [go_sem, execOp, e1]) rfl (Chg.refl _)
      · injection ho with ho
        subst ho
        refine opG_val (v := .pointer (some ⟨u.heap.size, 0, none⟩)) (w' := u.alloc (.cells (num 0) 25)) (by simp [go_sem, execOp, zero25.1]) ⟨_, rfl, hc.size, ?_, ?_⟩ ((Chg.refl _).alloc _)
        · intro e
          rw [hfl (by kernel_rfl)] at e
          cases e
        · intro _; exact Ar.new _ _ _
      · injection ho with ho
        subst ho
        have e1 : ac.eval (.tmp 18) = .int .u64 o := hg 9 (by kernel_rfl) (by decide) (by decide)
        exact opG_val (by simp [execOp, e1]) rfl (Chg.refl _)
    · intro o' ac u ho hf hg hc
      injection ho with ho
      subst ho
      obtain ⟨b, e1, h1, h2, h3⟩ := hg 10 (by kernel_rfl) (by decide) (by decide)
      have e2 : ac.eval (.tmp 17) = .agg (num L) := hg 8 (by kernel_rfl) (by decide) (by decide)
      refine wp_store_mid 25 (.tmp 7) (.tmp 17) rfl b 0 (num L) e1 e2 (by rw [num_size]; exact thereN (h3 rfl)) (szN _) (num_one _) ⟨rfl, ?_, ?_⟩
      · rw [setRowN (h3 rfl)]
        exact Chg.setRow hc h1 _
      · intro j hj hjs h
        rw [setRowN (h3 rfl)]
        have hj' : j < 13 := hj
        have hcs : j = 0 ∨ j = 1 ∨ j = 2 ∨ j = 3 ∨ j = 4 ∨ j = 5 ∨ j = 6 ∨ j = 7 ∨ j = 8 ∨ j = 9 ∨ j = 10 ∨ j = 12 := by omega
        rcases hcs with rfl | rfl | rfl | rfl | rfl | rfl | rfl | rfl | rfl | rfl | rfl | rfl
        · exact h
        · exact h
        · exact h
        · exact h
        · exact h
        · exact h
        · exact h
        · exact h
        · exact h
        · exact h
        · exact ⟨b, e1, h1, fun _ => (h3 rfl).row _, fun e => nomatch e⟩
        · exact h
    · exact Chg.refl _
    · intro u V hV hB
      obtain ⟨b, q6, h1, h2, h3⟩ := hV 10 (by decide) (by decide)
      have q7 : V 12 = .int .u64 o := hV 12 (by decide) (by decide)
      have q8 : Hid (w1.heap.size ≤ b ∧ Ar u b (num L) ∧ Chg w1 u) := ⟨h1, h2 rfl, (Chg.refl w1).drew.trans hB⟩
      clear h1 h2 h3 hV hB
      go_wp2_with fail
      go_meet
      exact ⟨b, q6, q7, q8.out⟩
  case rest =>
    obtain ⟨p, rfl, rfl, hb, hap, hc⟩ := hcut
    obtain ⟨w2, hw2⟩ : ∃ w2, w2 = wc := ⟨_, rfl⟩
    subst hw2
    have Z2 : Hid (Chg w w2 ∧ Ar w2 (w.heap.size + 1 + 1) (num 0) ∧ Ar w2 p (num L) ∧ w.heap.size + 1 + 1 < p) := by
      obtain ⟨q0, q1, q2, q3⟩ := Z1.out
      have := q3.lt
      exact ⟨q0.trans hc, q3.chg hc, hap, by omega⟩
    clear hb hap hc Z1
    obtain ⟨x0, x1, x2, x3⟩ := Ar.four (d := dg B64 L) Z2.out.2.2.1
    go_upto_region 2 with fail
    go_cut [25] from 19 to 25 (fun v wc => v = .bool (decide (o = 0 ∧ L < mo f)) ∧ Chg w2 wc)
    case first =>
      by_cases h0 : o = 0
      · subst h0
        go_wp2_with fail
        go_at_call 20
        refine (right_any f L HLN.out _).mono ?_
        rintro r w3 ⟨rfl, hc3⟩
        have HC3 : Hid (Chg w2 w3) := hc3
        clear hc3
        go_wp2_with fail
        go_meet
        exact ⟨by simp, HC3.out⟩
      · have hd : (o == 0) = false := by simpa using h0
        go_wp2_with fail
        go_meet
        exact ⟨by simp [h0], Chg.refl _⟩
    case rest =>
      obtain ⟨rfl, hcc⟩ := hcut
      obtain ⟨w3, hw3⟩ : ∃ w3, w3 = wc := ⟨_, rfl⟩
      subst hw3
      have Z : Hid (Chg w w3 ∧ Ar w3 (w.heap.size + 1 + 1) (num 0) ∧ Ar w3 p (num L) ∧ w.heap.size + 1 + 1 < p) := by
        obtain ⟨q0, q1, q2, q3⟩ := Z2.out
        exact ⟨q0.trans hcc, q1.chg hcc, q2.chg hcc, q3⟩
      clear x0 x1 x2 x3 Z2 hcc
      obtain ⟨x0, x1, x2, x3⟩ := Ar.four (d := dg B64 L) Z.out.2.2.1
      by_cases hs : o = 0 ∧ L < mo f
      · have HS : Hid (o = 0 ∧ L < mo f) := hs
        have hd : decide (o = 0 ∧ L < mo f) = true := by simp [hs]
        obtain ⟨s0, s1, s2, s3⟩ := Ar.four (d := dg B64 0) Z.out.2.1
        obtain ⟨t0, t1, t2, t3⟩ := Z.out.2.1.free4
        rw [hd]
        clear hs hd
        go_wp2
        have hn := Z.out.2.2.2
        have e : L = (a + b) % mo f := add_lt HF.out HL.out.1 HL.out.2 HS.out.1 HS.out.2
        refine bp_n (x := L) Try.results10 rfl rfl ?_ ⟨by rw [e], ?_⟩
        · exact Z.out.2.1.nput L
        · exact Z.out.1.nput (by omega) L
      · have HG : Hid (¬ (o = 0 ∧ L < mo f)) := hs
        have hd : decide (o = 0 ∧ L < mo f) = false := by simp; simpa using hs
        rw [hd]
        clear hs hd
        go_wp2_with fail
        obtain ⟨v, hv⟩ : ∃ v, v = (L - mo f) % R256 := ⟨_, rfl⟩
        obtain ⟨c, hcv⟩ : ∃ c, c = bor L (mo f) := ⟨_, rfl⟩
        have k := fun W => minus_num L (mo f) HLN.out (mo_N f) W
        rw [← hv, ← hcv, num4 v] at k
        have HK : Hid (∀ W, Calls Try.prog 42 #[.agg (num L), .agg (num (mo f))] W fun r w' => r = .returned (.tuple #[.agg #[.int .u64 (dg B64 v 0), .int .u64 (dg B64 v 1), .int .u64 (dg B64 v 2), .int .u64 (dg B64 v 3)], .int .u64 c]) ∧ Chg W w') := k
        have Hv : Hid (v = (L - mo f) % R256) := hv
        clear k hv hcv
        go_region_with (first
          | (go_at_call 18; refine (modulus_any f _).mono ?_; rintro r w6 ⟨rfl, hc6⟩; obtain ⟨z0, z1, z2, z3⟩ := Ar.four (d := dg B64 L) (Z.out.2.2.1.drew.chg hc6); have HC6 : Hid (Chg w3.drew w6) := hc6; clear hc6)
          | (go_at_call 42; refine (HK.out _).mono ?_; rintro r w7 ⟨rfl, hc7⟩; have HC7 : Hid (Chg w3.drew w7) := HC6.out.trans hc7; clear hc7; obtain ⟨y0, y1, y2, y3⟩ := Ar.four (d := dg B64 L) (Z.out.2.2.1.drew.chg HC7.out); obtain ⟨g0, g1, g2, g3⟩ := (Z.out.2.2.1.drew.chg HC7.out).free4))
        all_goals
          obtain ⟨s0, s1, s2, s3⟩ := Ar.four (d := dg B64 0) (Z.out.2.1.drew.chg HC7.out)
          obtain ⟨t0, t1, t2, t3⟩ := (Z.out.2.1.drew.chg HC7.out).free4
          have hne : ¬ p = w.heap.size + 1 + 1 := fun h => by
            have := Z.out.2.2.2
            omega
          have hne' : ¬ w.heap.size + 1 + 1 = p := fun h => by
            have := Z.out.2.2.2
            omega
          go_wp2
          have hn := Z.out.2.2.2
          have e : v = (a + b) % mo f := add_ge HF.out HL.out.1 HL.out.2 HG.out Hv.out
          refine bp_n (x := v) Try.results10 rfl rfl ?_ ⟨by rw [e], ?_⟩
          · exact ((Z.out.2.1.drew.chg HC7.out).nput_other hne' v).nput v
          · exact ((Z.out.1.drew.trans HC7.out).nput (by omega) v).nput (by omega) v
end Go.Proofs.Ytnahkcapbbjfdaa
