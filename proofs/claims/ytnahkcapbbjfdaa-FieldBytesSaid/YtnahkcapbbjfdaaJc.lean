/-
  Of no field every rest is 0: what a number leaves, of whatever field; products, rests.
  Sums, differences, opposites, of whatever field.
  The document's sums, differences, products, of whatever field.
  The document's differences and opposites, of whatever field.
-/
import Derived.Test.YtnahkcapbbjfdaaExp
import Derived.Test.YtnahkcapbbjfdaaJa
import Derived.Test.YtnahkcapbbjfdaaJb
namespace Go.Proofs.Ytnahkcapbbjfdaa
open Go.RowKit
set_option linter.unusedVariables false

/-- What a number leaves; 0 of no field. -/
def md (f x : Int) : Int := if f = 1 ∨ f = 2 ∨ f = 3 ∨ f = 4 then x % mo f else 0
theorem md_in {f : Int} (hf : f = 1 ∨ f = 2 ∨ f = 3 ∨ f = 4) (x : Int) : md f x = x % mo f := if_pos hf
theorem md_out {f : Int} (hf : ¬ (f = 1 ∨ f = 2 ∨ f = 3 ∨ f = 4)) (x : Int) : md f x = 0 := if_neg hf
theorem mo_out {f : Int} (hf : ¬ (f = 1 ∨ f = 2 ∨ f = 3 ∨ f = 4)) : mo f = 0 := by
  unfold mo
  rw [if_neg (fun h => hf (.inl h)), if_neg (fun h => hf (.inr (.inl h))), if_neg (fun h => hf (.inr (.inr (.inl h)))), if_neg (fun h => hf (.inr (.inr (.inr h))))]
theorem md_N (f x : Int) : N256 (md f x) := by
  by_cases hf : f = 1 ∨ f = 2 ∨ f = 3 ∨ f = 4
  · rw [md_in hf]; exact N_mod hf x
  · rw [md_out hf]; exact ⟨by decide, by decide⟩
theorem md_lt {f a : Int} (ha : 0 ≤ a) (h : a < mo f) : a = md f a := by
  by_cases hf : f = 1 ∨ f = 2 ∨ f = 3 ∨ f = 4
  · rw [md_in hf, Int.emod_eq_of_lt ha h]
  · rw [mo_out hf] at h; omega
theorem isF_iff (f : Int) : isF f = true ↔ (f = 1 ∨ f = 2 ∨ f = 3 ∨ f = 4) := by
  unfold isF
  simp only [Bool.and_eq_true, decide_eq_true_eq]
  omega
set_option maxRecDepth 100000 in
set_option maxHeartbeats 8000000 in
theorem reduceM_any (f x : Int) (hx : N512 x) (w : World) : Calls Try.prog 47 #[.int .i64 f, .agg (wid x)] w fun r w' => r = .returned (.agg (num (md f x))) ∧ Chg w w' := by
  by_cases hf : f = 1 ∨ f = 2 ∨ f = 3 ∨ f = 4
  · rw [md_in hf]
    exact reduce_any f x hf hx w
  · rw [md_out hf]
    have e1 : (f == 1) = false := by simp; omega
    have e2 : (f == 2) = false := by simp; omega
    have e3 : (f == 3) = false := by simp; omega
    have e4 : (f == 4) = false := by simp; omega
    have hz := zero25.1
    have hsA := wid_size x
    obtain ⟨A, hA⟩ : ∃ A, A = wid x := ⟨_, rfl⟩
    rw [← hA] at hsA ⊢
    have s1 := szN 0
    have l1 := lenN 0 0
    have o1 := num_one 0
    obtain ⟨Z0, hZ0⟩ : ∃ Z, Z = num 0 := ⟨_, rfl⟩
    have HZ : Hid (Z0 = num 0) := hZ0
    rw [← hZ0] at hz s1 l1 o1 ⊢
    clear hA hf hx hZ0
    go_enter Try.func47, Try.ntmps47
    go_upto_region 1 with fail
    obtain ⟨w2, hw2⟩ : ∃ w2, w2 = (w.alloc (.cells A 55)).alloc (.cells Z0 25) := ⟨_, rfl⟩
    have Z2 : Hid (Chg w w2 ∧ Ar w2 (w.heap.size + 1) Z0) := by
      rw [hw2]
      exact ⟨((Chg.refl w).alloc _).alloc _, Ar.new1 w _ _ _⟩
    rw [← hw2]
    clear hw2 hsA
    obtain ⟨t, g⟩ := Z2.out.2
    go_wp2_with (first | refine wpList_store_row rfl 25 _ _ rfl _ _ rfl rfl _ _ g s1 l1 o1 ?_)
    refine bp_n (x := 0) Try.results47 rfl rfl ?_ ⟨by rw [HZ.out], ?_⟩
    · rw [← HZ.out]
      exact Z2.out.2.row _
    · exact Z2.out.1.setRow (by omega) _

set_option maxRecDepth 100000 in
set_option maxHeartbeats 8000000 in
theorem mulM_any (f a b : Int) (ha : N256 a) (hb : N256 b) (w : World) : Calls Try.prog 14 #[.int .i64 f, .agg (num a), .agg (num b)] w fun r w' => r = .returned (.agg (num (md f (a * b)))) ∧ Chg w w' := by
  have HN : Hid (N256 a ∧ N256 b) := ⟨ha, hb⟩
  have hz := zero25.1
  have hsA := num_size a
  have hsB := num_size b
  have iA := infoN a
  have iB := infoN b
  obtain ⟨A, hA⟩ : ∃ A, A = num a := ⟨_, rfl⟩
  obtain ⟨B, hB⟩ : ∃ B, B = num b := ⟨_, rfl⟩
  have HA : Hid (A = num a ∧ B = num b) := ⟨hA, hB⟩
  rw [← hA] at hsA iA ⊢
  rw [← hB] at hsB iB ⊢
  clear hA hB ha hb
  go_enter Try.func14, Try.ntmps14
  go_upto_region 1 with fail
  obtain ⟨w1, hw1⟩ : ∃ w1, w1 = ((w.alloc (.cells A 25)).alloc (.cells B 25)).alloc (.cells (num 0) 25) := ⟨_, rfl⟩
  have Z : Hid (Chg w w1 ∧ Ar w1 w.heap.size A ∧ Ar w1 (w.heap.size + 1) B ∧ Ar w1 (w.heap.size + 1 + 1) (num 0)) := by
    rw [hw1]
    exact ⟨(((Chg.refl w).alloc _).alloc _).alloc _, ((Ar.new w _ _).alloc _).alloc _, (Ar.new1 w _ _ _).alloc _, Ar.new2 w _ _ _ _⟩
  rw [← hw1]
  clear hw1 hsA hsB hz
  have r1 := rangeA Z.out.2.1
  have r2 := rangeA Z.out.2.2.1
  go_wp2_with (first
    | refine wpList_load_mid rfl 25 (.tmp 4) rfl _ _ rfl (A.toList) _ r1 u25 rfl iA ?_
    | refine wpList_load_mid rfl 25 (.tmp 5) rfl _ _ rfl (B.toList) _ r2 u25 rfl iB ?_)
  go_at_call 48
  have k := fun W => product_num a b HN.out.1 HN.out.2 W
  rw [← HA.out.1, ← HA.out.2] at k
  refine (k _).mono ?_
  rintro r w2 ⟨hr, hc2⟩
  have Z2 : Hid (Chg w w2 ∧ Ar w2 (w.heap.size + 1 + 1) (num 0)) := ⟨Z.out.1.trans hc2, Z.out.2.2.2.chg hc2⟩
  have k2 := fun W => reduceM_any f (a * b) (mul_N512 HN.out.1 HN.out.2) W
  obtain ⟨C, hC⟩ : ∃ C, C = wid (a * b) := ⟨_, rfl⟩
  rw [← hC] at hr k2
  subst hr
  obtain ⟨M, hM⟩ : ∃ M, M = num (md f (a * b)) := ⟨_, rfl⟩
  have HM : Hid (M = num (md f (a * b))) := hM
  rw [← hM] at k2
  have HK : Hid (∀ W, Calls Try.prog 47 #[.int .i64 f, .agg C] W fun r w' => r = .returned (.agg M) ∧ Chg W w') := k2
  have s1 : (Try.prog.info? 25).map (·.size) = some M.size := by rw [hM]; exact szN _
  have l1 : (num 0).size = M.size := by rw [hM]; exact lenN _ _
  have o1 : M.all (·.oneCell') = true := by rw [hM]; exact num_one _
  clear hc2 hC hM k k2 r1 r2 Z
  go_wp2_with fail
  go_at_call 47
  refine (HK.out _).mono ?_
  rintro r w3 ⟨rfl, hc3⟩
  have Z3 : Hid (Chg w w3 ∧ Ar w3 (w.heap.size + 1 + 1) (num 0)) := ⟨Z2.out.1.trans hc3, Z2.out.2.chg hc3⟩
  obtain ⟨t, g⟩ := Z3.out.2
  clear hc3
  go_wp2_with (first | refine wpList_store_row rfl 25 _ _ rfl _ _ rfl rfl _ _ g s1 l1 o1 ?_)
  rw [HM.out]
  refine bp_n (x := md f (a * b)) Try.results14 rfl rfl ?_ ⟨rfl, Z3.out.1.setRow (by omega) _⟩
  exact Z3.out.2.row _

set_option maxRecDepth 100000 in
set_option maxHeartbeats 8000000 in
theorem restM_any (f a : Int) (ha : N256 a) (w : World) : Calls Try.prog 41 #[.int .i64 f, .agg (num a)] w fun r w' => r = .returned (.agg (num (md f a))) ∧ Chg w w' := by
  have HN : Hid (N256 a) := ha
  have hz := zero25.1
  have hsA := num_size a
  have iA := infoN a
  have s2 := szN a
  have l2 := lenN 0 a
  have o2 := num_one a
  have k1 := fun W => right_any f a ha W
  have k3 := fun W => join_num a 0 ha ⟨by decide, by decide⟩ W
  have k4 := fun W => reduceM_any f (a + R256 * 0) (by rw [Int.mul_zero, Int.add_zero]; exact N512_of ha) W
  rw [Int.mul_zero, Int.add_zero] at k3 k4
  obtain ⟨A, hA⟩ : ∃ A, A = num a := ⟨_, rfl⟩
  obtain ⟨C, hC⟩ : ∃ C, C = wid a := ⟨_, rfl⟩
  obtain ⟨M, hM⟩ : ∃ M, M = num (md f a) := ⟨_, rfl⟩
  have HA : Hid (A = num a ∧ M = num (md f a)) := ⟨hA, hM⟩
  rw [← hA] at hsA iA k1 k3 s2 l2 o2 ⊢
  rw [← hC] at k3 k4
  rw [← hM] at k4
  have s1 : (Try.prog.info? 25).map (·.size) = some M.size := by rw [hM]; exact szN _
  have l1 : (num 0).size = M.size := by rw [hM]; exact lenN _ _
  have o1 : M.all (·.oneCell') = true := by rw [hM]; exact num_one _
  have HK : Hid ((∀ W, Calls Try.prog 20 #[.int .i64 f, .agg A] W fun r w' => r = .returned (.bool (decide (a < mo f))) ∧ Chg W w') ∧ (∀ W, Calls Try.prog 60 #[.agg A, .agg (num 0)] W fun r w' => r = .returned (.agg C) ∧ Chg W w') ∧ (∀ W, Calls Try.prog 47 #[.int .i64 f, .agg C] W fun r w' => r = .returned (.agg M) ∧ Chg W w')) := ⟨k1, k3, k4⟩
  clear hA ha hC hM k1 k3 k4
  go_enter Try.func41, Try.ntmps41
  go_upto_region 1 with fail
  obtain ⟨w1, hw1⟩ : ∃ w1, w1 = (w.alloc (.cells A 25)).alloc (.cells (num 0) 25) := ⟨_, rfl⟩
  have Z : Hid (Chg w w1 ∧ Ar w1 w.heap.size A ∧ Ar w1 (w.heap.size + 1) (num 0)) := by
    rw [hw1]
    exact ⟨((Chg.refl w).alloc _).alloc _, (Ar.new w _ _).alloc _, Ar.new1 w _ _ _⟩
  rw [← hw1]
  clear hw1 hsA
  have r1 := rangeA Z.out.2.1
  go_wp2_with (first
    | refine wpList_load_mid rfl 25 (.tmp 3) rfl _ _ rfl (A.toList) _ r1 u25 rfl iA ?_)
  go_at_call 20
  refine (HK.out.1 _).mono ?_
  rintro r w2 ⟨rfl, hc2⟩
  have Z2 : Hid (Chg w w2 ∧ Ar w2 w.heap.size A ∧ Ar w2 (w.heap.size + 1) (num 0)) := ⟨Z.out.1.trans hc2, Z.out.2.1.chg hc2, Z.out.2.2.chg hc2⟩
  clear hc2 r1 Z
  have r2 := rangeA Z2.out.2.1
  by_cases hlt : a < mo f
  · have hd : decide (a < mo f) = true := by simp [hlt]
    have HL : Hid (a < mo f) := hlt
    clear hlt
    obtain ⟨t, g⟩ := Z2.out.2.2
    go_wp2_with (first
      | refine wpList_load_mid rfl 25 (.tmp 3) rfl _ _ rfl (A.toList) _ r2 u25 rfl iA ?_
      | refine wpList_store_row rfl 25 _ _ rfl _ _ rfl rfl _ _ g s2 l2 o2 ?_)
    have e : a = md f a := md_lt HN.out.1 HL.out
    have eA : A = num (md f a) := by rw [← e]; exact HA.out.1
    refine bp_n (x := md f a) Try.results41 rfl rfl ?_ ⟨rfl, Z2.out.1.setRow (by omega) _⟩
    rw [← eA]
    exact Z2.out.2.2.row _
  · have hd : decide (a < mo f) = false := by simp; omega
    clear hlt
    go_wp2_with (first
      | refine wpList_load_mid rfl 25 (.tmp 3) rfl _ _ rfl (A.toList) _ r2 u25 rfl iA ?_)
    go_at_call 60
    refine (HK.out.2.1 _).mono ?_
    rintro r w3 ⟨rfl, hc3⟩
    have Z3 : Hid (Chg w w3 ∧ Ar w3 (w.heap.size + 1) (num 0)) := ⟨Z2.out.1.trans hc3, Z2.out.2.2.chg hc3⟩
    clear hc3 r2 Z2
    go_wp2_with fail
    go_at_call 47
    refine (HK.out.2.2 _).mono ?_
    rintro r w4 ⟨rfl, hc4⟩
    have Z4 : Hid (Chg w w4 ∧ Ar w4 (w.heap.size + 1) (num 0)) := ⟨Z3.out.1.trans hc4, Z3.out.2.chg hc4⟩
    obtain ⟨t, g⟩ := Z4.out.2
    clear hc4 Z3
    go_wp2_with (first | refine wpList_store_row rfl 25 _ _ rfl _ _ rfl rfl _ _ g s1 l1 o1 ?_)
    rw [HA.out.2]
    refine bp_n (x := md f a) Try.results41 rfl rfl ?_ ⟨rfl, Z4.out.1.setRow (by omega) _⟩
    exact Z4.out.2.row _
end Go.Proofs.Ytnahkcapbbjfdaa

namespace Go.Proofs.Ytnahkcapbbjfdaa
open Go.RowKit
set_option linter.unusedVariables false

theorem addM_lt {f a b L o : Int} (hL : L = (md f a + md f b) % R256) (ho : o = (md f a + md f b) / R256) (h0 : o = 0) (hl : L < mo f) : L = md f (a + b) := by
  by_cases hf : f = 1 ∨ f = 2 ∨ f = 3 ∨ f = 4
  · rw [md_in hf, md_in hf] at hL ho
    rw [md_in hf]
    exact add_lt hf hL ho h0 hl
  · rw [md_out hf, md_out hf] at hL
    rw [mo_out hf] at hl
    have : L = 0 := hL
    omega
theorem addM_ge {f a b L o v : Int} (hL : L = (md f a + md f b) % R256) (ho : o = (md f a + md f b) / R256) (hg : ¬ (o = 0 ∧ L < mo f)) (hv : v = (L - mo f) % R256) : v = md f (a + b) := by
  by_cases hf : f = 1 ∨ f = 2 ∨ f = 3 ∨ f = 4
  · rw [md_in hf, md_in hf] at hL ho
    rw [md_in hf]
    exact add_ge hf hL ho hg hv
  · rw [md_out hf, md_out hf] at hL
    rw [mo_out hf, show L = 0 from hL] at hv
    rw [md_out hf]
    exact hv
theorem subM_lt {f a b L o : Int} (hL : L = (md f a - md f b) % R256) (ho : o = bor (md f a) (md f b)) (h0 : ¬ o = 1) : L = md f (a - b) := by
  by_cases hf : f = 1 ∨ f = 2 ∨ f = 3 ∨ f = 4
  · rw [md_in hf, md_in hf] at hL ho
    rw [md_in hf]
    exact sub_lt hf hL ho h0
  · rw [md_out hf, md_out hf] at hL
    rw [md_out hf]
    exact hL
theorem subM_ge {f a b L o v : Int} (hL : L = (md f a - md f b) % R256) (ho : o = bor (md f a) (md f b)) (hg : o = 1) (hv : v = (L + mo f) % R256) : v = md f (a - b) := by
  by_cases hf : f = 1 ∨ f = 2 ∨ f = 3 ∨ f = 4
  · rw [md_in hf, md_in hf] at hL ho
    rw [md_in hf]
    exact sub_ge hf hL ho hg hv
  · rw [md_out hf, md_out hf] at ho
    rw [hg] at ho
    exact absurd ho (by decide)
set_option maxRecDepth 100000 in
set_option maxHeartbeats 8000000 in
theorem addM_any (f a b : Int) (ha : N256 a) (hb : N256 b) (w : World) : Calls Try.prog 10 #[.int .i64 f, .agg (num a), .agg (num b)] w fun r w' => r = .returned (.agg (num (md f (a + b)))) ∧ Chg w w' := by
  have HN : Hid (N256 a ∧ N256 b) := ⟨ha, hb⟩
  have hz := zero25.1
  have hsA := num_size a
  have hsB := num_size b
  obtain ⟨A, hA⟩ : ∃ A, A = num a := ⟨_, rfl⟩
  obtain ⟨B, hB⟩ : ∃ B, B = num b := ⟨_, rfl⟩
  have HA : Hid (A = num a ∧ B = num b) := ⟨hA, hB⟩
  rw [← hA] at hsA ⊢
  rw [← hB] at hsB ⊢
  obtain ⟨L, hL⟩ : ∃ L, L = (md f a + md f b) % R256 := ⟨_, rfl⟩
  obtain ⟨o, hoo⟩ : ∃ o, o = (md f a + md f b) / R256 := ⟨_, rfl⟩
  have HL : Hid (L = (md f a + md f b) % R256 ∧ o = (md f a + md f b) / R256) := ⟨hL, hoo⟩
  have HLN : Hid (N256 L) := by
    show N256 L
    rw [hL]
    exact N256_mod _
  clear hA hB ha hb hL hoo
  go_enter Try.func10, Try.ntmps10
  go_upto_region 1 with fail
  obtain ⟨w1, hw1⟩ : ∃ w1, w1 = ((w.alloc (.cells A 25)).alloc (.cells B 25)).alloc (.cells (num 0) 25) := ⟨_, rfl⟩
  have Z1 : Hid (Chg w w1 ∧ Ar w1 w.heap.size (num a) ∧ Ar w1 (w.heap.size + 1) (num b) ∧ Ar w1 (w.heap.size + 1 + 1) (num 0)) := by
    rw [hw1, HA.out.1, HA.out.2]
    exact ⟨(((Chg.refl w).alloc _).alloc _).alloc _, ((Ar.new w _ _).alloc _).alloc _, (Ar.new1 w _ _ _).alloc _, Ar.new2 w _ _ _ _⟩
  rw [← hw1]
  clear hw1 hsA hsB hz
  go_cut [7, 8] from 7 to 18 (fun v6 v7 wc => ∃ b, v6 = .pointer (some ⟨b, 0, none⟩) ∧ v7 = .int .u64 o ∧ w1.heap.size ≤ b ∧ Ar wc b (num L) ∧ Chg w1 wc)
  case first =>
    refine wp_region_store 11 (fun j v fl wg => match j with
      | 0 => v = .int .i64 f
      | 1 => v = .agg (num a)
      | 2 => v = .agg (num (md f a))
      | 3 => v = .int .i64 f
      | 4 => v = .agg (num b)
      | 5 => v = .agg (num (md f b))
      | 6 => v = .tuple #[.agg (num L), .int .u64 o]
      | 7 => v = .tuple #[.agg (num L), .int .u64 o]
      | 8 => v = .agg (num L)
      | 9 => v = .int .u64 o
      | 10 => ∃ b, v = .pointer (some ⟨b, 0, none⟩) ∧ w1.heap.size ≤ b ∧ (fl = true → Ar wg b (num L)) ∧ (fl = false → Ar wg b (num 0))
      | 12 => v = .int .u64 o
      | _ => True) (fun _ u => Chg w1.drew u) (by kernel_rfl) (by decide) (by kernel_rfl) (by kernel_rfl) (by kernel_rfl) ?_ ?_ ?_ ?_ ?_ ?_
    · intro j v fl u1 u2 h hc
      match j, h with
      | 0, h => exact h
      | 1, h => exact h
      | 2, h => exact h
      | 3, h => exact h
      | 4, h => exact h
      | 5, h => exact h
      | 6, h => exact h
      | 7, h => exact h
      | 8, h => exact h
      | 9, h => exact h
      | 10, h => (obtain ⟨b, h1, h2, h3, h4⟩ := h; exact ⟨b, h1, h2, fun e => (h3 e).chg hc, fun e => (h4 e).chg hc⟩)
      | 11, h => exact trivial
      | 12, h => exact h
      | _ + 13, h => exact trivial
    · intro fl u u' h k
      exact h.trans k
    · intro i o' ac u fl hi his ho hfl hf hg hc
      have hi' : i < 13 := hi
      have hcs : i = 0 ∨ i = 1 ∨ i = 2 ∨ i = 3 ∨ i = 4 ∨ i = 5 ∨ i = 6 ∨ i = 7 ∨ i = 8 ∨ i = 9 ∨ i = 10 ∨ i = 12 := by omega
      rcases hcs with rfl | rfl | rfl | rfl | rfl | rfl | rfl | rfl | rfl | rfl | rfl | rfl
      · injection ho with ho
        subst ho
        have e1 : ac.eval (.tmp 0) = .int .i64 f := hf 0 (by kernel_rfl)
        exact opG_val (by simp [execOp, e1]) rfl (Chg.refl _)
      · injection ho with ho
        subst ho
        have e1 : ac.eval (.tmp 4) = .pointer (some ⟨w.heap.size, 0, none⟩) := hf 4 (by kernel_rfl)
        exact wp_load_mid 25 (.tmp 4) rfl _ _ e1 ((num a).toList) _ (rangeN (Ar.chg (w := w1.drew) Z1.out.2.1.drew hc)) u25 rfl (infoN _) ⟨_, rfl, rfl, Chg.refl _⟩
      · injection ho with ho
        subst ho
        have e1 : ac.eval (.tmp 10) = .int .i64 f := hg 0 (by kernel_rfl) (by decide) (by decide)
        have e2 : ac.eval (.tmp 11) = .agg (num a) := hg 1 (by kernel_rfl) (by decide) (by decide)
        refine opG_go 41 Try.f41 #[.tmp 10, .tmp 11] #[22, 25] rfl Try.func41 (by kernel_rfl) (by kernel_rfl) (by simp [e1, e2]) (Calls.mono (restM_any f a HN.out.1 _) ?_)
        rintro e u2 ⟨rfl, hc2⟩
        exact ⟨_, rfl, rfl, hc2⟩
      · injection ho with ho
        subst ho
        have e1 : ac.eval (.tmp 0) = .int .i64 f := hf 0 (by kernel_rfl)
        exact opG_val (by simp [execOp, e1]) rfl (Chg.refl _)
      · injection ho with ho
        subst ho
        have e1 : ac.eval (.tmp 5) = .pointer (some ⟨w.heap.size + 1, 0, none⟩) := hf 5 (by kernel_rfl)
        exact wp_load_mid 25 (.tmp 5) rfl _ _ e1 ((num b).toList) _ (rangeN (Ar.chg (w := w1.drew) Z1.out.2.2.1.drew hc)) u25 rfl (infoN _) ⟨_, rfl, rfl, Chg.refl _⟩
      · injection ho with ho
        subst ho
        have e1 : ac.eval (.tmp 13) = .int .i64 f := hg 3 (by kernel_rfl) (by decide) (by decide)
        have e2 : ac.eval (.tmp 14) = .agg (num b) := hg 4 (by kernel_rfl) (by decide) (by decide)
        refine opG_go 41 Try.f41 #[.tmp 13, .tmp 14] #[22, 25] rfl Try.func41 (by kernel_rfl) (by kernel_rfl) (by simp [e1, e2]) (Calls.mono (restM_any f b HN.out.2 _) ?_)
        rintro e u2 ⟨rfl, hc2⟩
        exact ⟨_, rfl, rfl, hc2⟩
      · injection ho with ho
        subst ho
        have e1 : ac.eval (.tmp 12) = .agg (num (md f a)) := hg 2 (by kernel_rfl) (by decide) (by decide)
        have e2 : ac.eval (.tmp 15) = .agg (num (md f b)) := hg 5 (by kernel_rfl) (by decide) (by decide)
        refine opG_go 40 Try.f40 #[.tmp 12, .tmp 15] #[25, 25] rfl Try.func40 (by kernel_rfl) (by kernel_rfl) (by simp [e1, e2]) (Calls.mono (plus_num _ _ (md_N f a) (md_N f b) _) ?_)
        rintro e u2 ⟨rfl, hc2⟩
        exact ⟨_, rfl, by show Value.tuple _ = Value.tuple _; rw [HL.out.1, HL.out.2], hc2⟩
      · injection ho with ho
        subst ho
        have e1 : ac.eval (.tmp 16) = .tuple #[.agg (num L), .int .u64 o] := hg 6 (by kernel_rfl) (by decide) (by decide)
        exact opG_val (by simp [execOp, e1]) rfl (Chg.refl _)
      · injection ho with ho
        subst ho
        have e1 : ac.eval (.tmp 9) = .tuple #[.agg (num L), .int .u64 o] := hg 7 (by kernel_rfl) (by decide) (by decide)
        exact opG_val (by revert e1; generalize ac.eval = ρ; intro e1; simp [go_sem, execOp, e1]) rfl (Chg.refl _)
      · injection ho with ho
        subst ho
        have e1 : ac.eval (.tmp 9) = .tuple #[.agg (num L), .int .u64 o] := hg 7 (by kernel_rfl) (by decide) (by decide)
        exact opG_val (by revert e1; generalize ac.eval = ρ; intro e1; simp [go_sem, execOp, e1]) rfl (Chg.refl _)
      · injection ho with ho
        subst ho
        refine opG_val (v := .pointer (some ⟨u.heap.size, 0, none⟩)) (w' := u.alloc (.cells (num 0) 25)) (by simp [go_sem, execOp, zero25.1]) ⟨_, rfl, hc.size, ?_, ?_⟩ ((Chg.refl _).alloc _)
        · intro e
          rw [hfl (by kernel_rfl)] at e
          cases e
        · intro _; exact Ar.new _ _ _
      · injection ho with ho
        subst ho
        have e1 : ac.eval (.tmp 18) = .int .u64 o := hg 9 (by kernel_rfl) (by decide) (by decide)
        exact opG_val (by simp [execOp, e1]) rfl (Chg.refl _)
    · intro o' ac u ho hf hg hc
      injection ho with ho
      subst ho
      obtain ⟨b, e1, h1, h2, h3⟩ := hg 10 (by kernel_rfl) (by decide) (by decide)
      have e2 : ac.eval (.tmp 17) = .agg (num L) := hg 8 (by kernel_rfl) (by decide) (by decide)
      refine wp_store_mid 25 (.tmp 7) (.tmp 17) rfl b 0 (num L) e1 e2 (by rw [num_size]; exact thereN (h3 rfl)) (szN _) (num_one _) ⟨rfl, ?_, ?_⟩
      · rw [setRowN (h3 rfl)]
        exact Chg.setRow hc h1 _
      · intro j hj hjs h
        rw [setRowN (h3 rfl)]
        have hj' : j < 13 := hj
        have hcs : j = 0 ∨ j = 1 ∨ j = 2 ∨ j = 3 ∨ j = 4 ∨ j = 5 ∨ j = 6 ∨ j = 7 ∨ j = 8 ∨ j = 9 ∨ j = 10 ∨ j = 12 := by omega
        rcases hcs with rfl | rfl | rfl | rfl | rfl | rfl | rfl | rfl | rfl | rfl | rfl | rfl
        · exact h
        · exact h
        · exact h
        · exact h
        · exact h
        · exact h
        · exact h
        · exact h
        · exact h
        · exact h
        · exact ⟨b, e1, h1, fun _ => (h3 rfl).row _, fun e => nomatch e⟩
        · exact h
    · exact Chg.refl _
    · intro u V hV hB
      obtain ⟨b, q6, h1, h2, h3⟩ := hV 10 (by decide) (by decide)
      have q7 : V 12 = .int .u64 o := hV 12 (by decide) (by decide)
      have q8 : Hid (w1.heap.size ≤ b ∧ Ar u b (num L) ∧ Chg w1 u) := ⟨h1, h2 rfl, (Chg.refl w1).drew.trans hB⟩
      clear h1 h2 h3 hV hB
      go_wp2_with fail
      go_meet
      exact ⟨b, q6, q7, q8.out⟩
  case rest =>
    obtain ⟨p, rfl, rfl, hb, hap, hc⟩ := hcut
    obtain ⟨w2, hw2⟩ : ∃ w2, w2 = wc := ⟨_, rfl⟩
    subst hw2
    have Z2 : Hid (Chg w w2 ∧ Ar w2 (w.heap.size + 1 + 1) (num 0) ∧ Ar w2 p (num L) ∧ w.heap.size + 1 + 1 < p) := by
      obtain ⟨q0, q1, q2, q3⟩ := Z1.out
      have := q3.lt
      exact ⟨q0.trans hc, q3.chg hc, hap, by omega⟩
    clear hb hap hc Z1
    obtain ⟨x0, x1, x2, x3⟩ := Ar.four (d := dg B64 L) Z2.out.2.2.1
    go_upto_region 2 with fail
    go_cut [25] from 19 to 25 (fun v wc => v = .bool (decide (o = 0 ∧ L < mo f)) ∧ Chg w2 wc)
    case first =>
      by_cases h0 : o = 0
      · subst h0
        go_wp2_with fail
        go_at_call 20
        refine (right_any f L HLN.out _).mono ?_
        rintro r w3 ⟨rfl, hc3⟩
        have HC3 : Hid (Chg w2 w3) := hc3
        clear hc3
        go_wp2_with fail
        go_meet
        exact ⟨by simp, HC3.out⟩
      · have hd : (o == 0) = false := by simpa using h0
        go_wp2_with fail
        go_meet
        exact ⟨by simp [h0], Chg.refl _⟩
    case rest =>
      obtain ⟨rfl, hcc⟩ := hcut
      obtain ⟨w3, hw3⟩ : ∃ w3, w3 = wc := ⟨_, rfl⟩
      subst hw3
      have Z : Hid (Chg w w3 ∧ Ar w3 (w.heap.size + 1 + 1) (num 0) ∧ Ar w3 p (num L) ∧ w.heap.size + 1 + 1 < p) := by
        obtain ⟨q0, q1, q2, q3⟩ := Z2.out
        exact ⟨q0.trans hcc, q1.chg hcc, q2.chg hcc, q3⟩
      clear x0 x1 x2 x3 Z2 hcc
      obtain ⟨x0, x1, x2, x3⟩ := Ar.four (d := dg B64 L) Z.out.2.2.1
      by_cases hs : o = 0 ∧ L < mo f
      · have HS : Hid (o = 0 ∧ L < mo f) := hs
        have hd : decide (o = 0 ∧ L < mo f) = true := by simp [hs]
        obtain ⟨s0, s1, s2, s3⟩ := Ar.four (d := dg B64 0) Z.out.2.1
        obtain ⟨t0, t1, t2, t3⟩ := Z.out.2.1.free4
        rw [hd]
        clear hs hd
        go_wp2
        have hn := Z.out.2.2.2
        have e : L = md f (a + b) := addM_lt HL.out.1 HL.out.2 HS.out.1 HS.out.2
        refine bp_n (x := L) Try.results10 rfl rfl ?_ ⟨by rw [e], ?_⟩
        · exact Z.out.2.1.nput L
        · exact Z.out.1.nput (by omega) L
      · have HG : Hid (¬ (o = 0 ∧ L < mo f)) := hs
        have hd : decide (o = 0 ∧ L < mo f) = false := by simp; simpa using hs
        rw [hd]
        clear hs hd
        go_wp2_with fail
        obtain ⟨v, hv⟩ : ∃ v, v = (L - mo f) % R256 := ⟨_, rfl⟩
        obtain ⟨c, hcv⟩ : ∃ c, c = bor L (mo f) := ⟨_, rfl⟩
        have k := fun W => minus_num L (mo f) HLN.out (mo_N f) W
        rw [← hv, ← hcv, num4 v] at k
        have HK : Hid (∀ W, Calls Try.prog 42 #[.agg (num L), .agg (num (mo f))] W fun r w' => r = .returned (.tuple #[.agg #[.int .u64 (dg B64 v 0), .int .u64 (dg B64 v 1), .int .u64 (dg B64 v 2), .int .u64 (dg B64 v 3)], .int .u64 c]) ∧ Chg W w') := k
        have Hv : Hid (v = (L - mo f) % R256) := hv
        clear k hv hcv
        go_region_with (first
          | (go_at_call 18; refine (modulus_any f _).mono ?_; rintro r w6 ⟨rfl, hc6⟩; obtain ⟨z0, z1, z2, z3⟩ := Ar.four (d := dg B64 L) (Z.out.2.2.1.drew.chg hc6); have HC6 : Hid (Chg w3.drew w6) := hc6; clear hc6)
          | (go_at_call 42; refine (HK.out _).mono ?_; rintro r w7 ⟨rfl, hc7⟩; have HC7 : Hid (Chg w3.drew w7) := HC6.out.trans hc7; clear hc7; obtain ⟨y0, y1, y2, y3⟩ := Ar.four (d := dg B64 L) (Z.out.2.2.1.drew.chg HC7.out); obtain ⟨g0, g1, g2, g3⟩ := (Z.out.2.2.1.drew.chg HC7.out).free4))
        all_goals
          obtain ⟨s0, s1, s2, s3⟩ := Ar.four (d := dg B64 0) (Z.out.2.1.drew.chg HC7.out)
          obtain ⟨t0, t1, t2, t3⟩ := (Z.out.2.1.drew.chg HC7.out).free4
          have hne : ¬ p = w.heap.size + 1 + 1 := fun h => by
            have := Z.out.2.2.2
            omega
          have hne' : ¬ w.heap.size + 1 + 1 = p := fun h => by
            have := Z.out.2.2.2
            omega
          go_wp2
          have hn := Z.out.2.2.2
          have e : v = md f (a + b) := addM_ge HL.out.1 HL.out.2 HG.out Hv.out
          refine bp_n (x := v) Try.results10 rfl rfl ?_ ⟨by rw [e], ?_⟩
          · exact ((Z.out.2.1.drew.chg HC7.out).nput_other hne' v).nput v
          · exact ((Z.out.1.drew.trans HC7.out).nput (by omega) v).nput (by omega) v
set_option maxRecDepth 100000 in
set_option maxHeartbeats 8000000 in
theorem subM_any (f a b : Int) (ha : N256 a) (hb : N256 b) (w : World) : Calls Try.prog 12 #[.int .i64 f, .agg (num a), .agg (num b)] w fun r w' => r = .returned (.agg (num (md f (a - b)))) ∧ Chg w w' := by
  have HN : Hid (N256 a ∧ N256 b) := ⟨ha, hb⟩
  have hz := zero25.1
  have hsA := num_size a
  have hsB := num_size b
  obtain ⟨A, hA⟩ : ∃ A, A = num a := ⟨_, rfl⟩
  obtain ⟨B, hB⟩ : ∃ B, B = num b := ⟨_, rfl⟩
  have HA : Hid (A = num a ∧ B = num b) := ⟨hA, hB⟩
  rw [← hA] at hsA ⊢
  rw [← hB] at hsB ⊢
  obtain ⟨L, hL⟩ : ∃ L, L = (md f a - md f b) % R256 := ⟨_, rfl⟩
  obtain ⟨o, hoo⟩ : ∃ o, o = bor (md f a) (md f b) := ⟨_, rfl⟩
  have HL : Hid (L = (md f a - md f b) % R256 ∧ o = bor (md f a) (md f b)) := ⟨hL, hoo⟩
  have HLN : Hid (N256 L) := by
    show N256 L
    rw [hL]
    exact N256_mod _
  clear hA hB ha hb hL hoo
  go_enter Try.func12, Try.ntmps12
  go_upto_region 1 with fail
  obtain ⟨w1, hw1⟩ : ∃ w1, w1 = ((w.alloc (.cells A 25)).alloc (.cells B 25)).alloc (.cells (num 0) 25) := ⟨_, rfl⟩
  have Z1 : Hid (Chg w w1 ∧ Ar w1 w.heap.size (num a) ∧ Ar w1 (w.heap.size + 1) (num b) ∧ Ar w1 (w.heap.size + 1 + 1) (num 0)) := by
    rw [hw1, HA.out.1, HA.out.2]
    exact ⟨(((Chg.refl w).alloc _).alloc _).alloc _, ((Ar.new w _ _).alloc _).alloc _, (Ar.new1 w _ _ _).alloc _, Ar.new2 w _ _ _ _⟩
  rw [← hw1]
  clear hw1 hsA hsB hz
  go_cut [7, 8] from 7 to 18 (fun v6 v7 wc => ∃ b, v6 = .pointer (some ⟨b, 0, none⟩) ∧ v7 = .int .u64 o ∧ w1.heap.size ≤ b ∧ Ar wc b (num L) ∧ Chg w1 wc)
  case first =>
    refine wp_region_store 11 (fun j v fl wg => match j with
      | 0 => v = .int .i64 f
      | 1 => v = .agg (num a)
      | 2 => v = .agg (num (md f a))
      | 3 => v = .int .i64 f
      | 4 => v = .agg (num b)
      | 5 => v = .agg (num (md f b))
      | 6 => v = .tuple #[.agg (num L), .int .u64 o]
      | 7 => v = .tuple #[.agg (num L), .int .u64 o]
      | 8 => v = .agg (num L)
      | 9 => v = .int .u64 o
      | 10 => ∃ b, v = .pointer (some ⟨b, 0, none⟩) ∧ w1.heap.size ≤ b ∧ (fl = true → Ar wg b (num L)) ∧ (fl = false → Ar wg b (num 0))
      | 12 => v = .int .u64 o
      | _ => True) (fun _ u => Chg w1.drew u) (by kernel_rfl) (by decide) (by kernel_rfl) (by kernel_rfl) (by kernel_rfl) ?_ ?_ ?_ ?_ ?_ ?_
    · intro j v fl u1 u2 h hc
      match j, h with
      | 0, h => exact h
      | 1, h => exact h
      | 2, h => exact h
      | 3, h => exact h
      | 4, h => exact h
      | 5, h => exact h
      | 6, h => exact h
      | 7, h => exact h
      | 8, h => exact h
      | 9, h => exact h
      | 10, h => (obtain ⟨b, h1, h2, h3, h4⟩ := h; exact ⟨b, h1, h2, fun e => (h3 e).chg hc, fun e => (h4 e).chg hc⟩)
      | 11, h => exact trivial
      | 12, h => exact h
      | _ + 13, h => exact trivial
    · intro fl u u' h k
      exact h.trans k
    · intro i o' ac u fl hi his ho hfl hf hg hc
      have hi' : i < 13 := hi
      have hcs : i = 0 ∨ i = 1 ∨ i = 2 ∨ i = 3 ∨ i = 4 ∨ i = 5 ∨ i = 6 ∨ i = 7 ∨ i = 8 ∨ i = 9 ∨ i = 10 ∨ i = 12 := by omega
      rcases hcs with rfl | rfl | rfl | rfl | rfl | rfl | rfl | rfl | rfl | rfl | rfl | rfl
      · injection ho with ho
        subst ho
        have e1 : ac.eval (.tmp 0) = .int .i64 f := hf 0 (by kernel_rfl)
        exact opG_val (by simp [execOp, e1]) rfl (Chg.refl _)
      · injection ho with ho
        subst ho
        have e1 : ac.eval (.tmp 4) = .pointer (some ⟨w.heap.size, 0, none⟩) := hf 4 (by kernel_rfl)
        exact wp_load_mid 25 (.tmp 4) rfl _ _ e1 ((num a).toList) _ (rangeN (Ar.chg (w := w1.drew) Z1.out.2.1.drew hc)) u25 rfl (infoN _) ⟨_, rfl, rfl, Chg.refl _⟩
      · injection ho with ho
        subst ho
        have e1 : ac.eval (.tmp 10) = .int .i64 f := hg 0 (by kernel_rfl) (by decide) (by decide)
        have e2 : ac.eval (.tmp 11) = .agg (num a) := hg 1 (by kernel_rfl) (by decide) (by decide)
        refine opG_go 41 Try.f41 #[.tmp 10, .tmp 11] #[22, 25] rfl Try.func41 (by kernel_rfl) (by kernel_rfl) (by simp [e1, e2]) (Calls.mono (restM_any f a HN.out.1 _) ?_)
        rintro e u2 ⟨rfl, hc2⟩
        exact ⟨_, rfl, rfl, hc2⟩
      · injection ho with ho
        subst ho
        have e1 : ac.eval (.tmp 0) = .int .i64 f := hf 0 (by kernel_rfl)
        exact opG_val (by simp [execOp, e1]) rfl (Chg.refl _)
      · injection ho with ho
        subst ho
        have e1 : ac.eval (.tmp 5) = .pointer (some ⟨w.heap.size + 1, 0, none⟩) := hf 5 (by kernel_rfl)
        exact wp_load_mid 25 (.tmp 5) rfl _ _ e1 ((num b).toList) _ (rangeN (Ar.chg (w := w1.drew) Z1.out.2.2.1.drew hc)) u25 rfl (infoN _) ⟨_, rfl, rfl, Chg.refl _⟩
      · injection ho with ho
        subst ho
        have e1 : ac.eval (.tmp 13) = .int .i64 f := hg 3 (by kernel_rfl) (by decide) (by decide)
        have e2 : ac.eval (.tmp 14) = .agg (num b) := hg 4 (by kernel_rfl) (by decide) (by decide)
        refine opG_go 41 Try.f41 #[.tmp 13, .tmp 14] #[22, 25] rfl Try.func41 (by kernel_rfl) (by kernel_rfl) (by simp [e1, e2]) (Calls.mono (restM_any f b HN.out.2 _) ?_)
        rintro e u2 ⟨rfl, hc2⟩
        exact ⟨_, rfl, rfl, hc2⟩
      · injection ho with ho
        subst ho
        have e1 : ac.eval (.tmp 12) = .agg (num (md f a)) := hg 2 (by kernel_rfl) (by decide) (by decide)
        have e2 : ac.eval (.tmp 15) = .agg (num (md f b)) := hg 5 (by kernel_rfl) (by decide) (by decide)
        refine opG_go 42 Try.f42 #[.tmp 12, .tmp 15] #[25, 25] rfl Try.func42 (by kernel_rfl) (by kernel_rfl) (by simp [e1, e2]) (Calls.mono (minus_num _ _ (md_N f a) (md_N f b) _) ?_)
        rintro e u2 ⟨rfl, hc2⟩
        exact ⟨_, rfl, by show Value.tuple _ = Value.tuple _; rw [HL.out.1, HL.out.2], hc2⟩
      · injection ho with ho
        subst ho
        have e1 : ac.eval (.tmp 16) = .tuple #[.agg (num L), .int .u64 o] := hg 6 (by kernel_rfl) (by decide) (by decide)
        exact opG_val (by simp [execOp, e1]) rfl (Chg.refl _)
      · injection ho with ho
        subst ho
        have e1 : ac.eval (.tmp 9) = .tuple #[.agg (num L), .int .u64 o] := hg 7 (by kernel_rfl) (by decide) (by decide)
        exact opG_val (by revert e1; generalize ac.eval = ρ; intro e1; simp [go_sem, execOp, e1]) rfl (Chg.refl _)
      · injection ho with ho
        subst ho
        have e1 : ac.eval (.tmp 9) = .tuple #[.agg (num L), .int .u64 o] := hg 7 (by kernel_rfl) (by decide) (by decide)
        exact opG_val (by revert e1; generalize ac.eval = ρ; intro e1; simp [go_sem, execOp, e1]) rfl (Chg.refl _)
      · injection ho with ho
        subst ho
        refine opG_val (v := .pointer (some ⟨u.heap.size, 0, none⟩)) (w' := u.alloc (.cells (num 0) 25)) (by simp [go_sem, execOp, zero25.1]) ⟨_, rfl, hc.size, ?_, ?_⟩ ((Chg.refl _).alloc _)
        · intro e
          rw [hfl (by kernel_rfl)] at e
          cases e
        · intro _; exact Ar.new _ _ _
      · injection ho with ho
        subst ho
        have e1 : ac.eval (.tmp 18) = .int .u64 o := hg 9 (by kernel_rfl) (by decide) (by decide)
        exact opG_val (by simp [execOp, e1]) rfl (Chg.refl _)
    · intro o' ac u ho hf hg hc
      injection ho with ho
      subst ho
      obtain ⟨b, e1, h1, h2, h3⟩ := hg 10 (by kernel_rfl) (by decide) (by decide)
      have e2 : ac.eval (.tmp 17) = .agg (num L) := hg 8 (by kernel_rfl) (by decide) (by decide)
      refine wp_store_mid 25 (.tmp 7) (.tmp 17) rfl b 0 (num L) e1 e2 (by rw [num_size]; exact thereN (h3 rfl)) (szN _) (num_one _) ⟨rfl, ?_, ?_⟩
      · rw [setRowN (h3 rfl)]
        exact Chg.setRow hc h1 _
      · intro j hj hjs h
        rw [setRowN (h3 rfl)]
        have hj' : j < 13 := hj
        have hcs : j = 0 ∨ j = 1 ∨ j = 2 ∨ j = 3 ∨ j = 4 ∨ j = 5 ∨ j = 6 ∨ j = 7 ∨ j = 8 ∨ j = 9 ∨ j = 10 ∨ j = 12 := by omega
        rcases hcs with rfl | rfl | rfl | rfl | rfl | rfl | rfl | rfl | rfl | rfl | rfl | rfl
        · exact h
        · exact h
        · exact h
        · exact h
        · exact h
        · exact h
        · exact h
        · exact h
        · exact h
        · exact h
        · exact ⟨b, e1, h1, fun _ => (h3 rfl).row _, fun e => nomatch e⟩
        · exact h
    · exact Chg.refl _
    · intro u V hV hB
      obtain ⟨b, q6, h1, h2, h3⟩ := hV 10 (by decide) (by decide)
      have q7 : V 12 = .int .u64 o := hV 12 (by decide) (by decide)
      have q8 : Hid (w1.heap.size ≤ b ∧ Ar u b (num L) ∧ Chg w1 u) := ⟨h1, h2 rfl, (Chg.refl w1).drew.trans hB⟩
      clear h1 h2 h3 hV hB
      go_wp2_with fail
      go_meet
      exact ⟨b, q6, q7, q8.out⟩
  case rest =>
    obtain ⟨p, rfl, rfl, hb, hap, hc⟩ := hcut
    obtain ⟨w2, hw2⟩ : ∃ w2, w2 = wc := ⟨_, rfl⟩
    subst hw2
    have Z2 : Hid (Chg w w2 ∧ Ar w2 (w.heap.size + 1 + 1) (num 0) ∧ Ar w2 p (num L) ∧ w.heap.size + 1 + 1 < p) := by
      obtain ⟨q0, q1, q2, q3⟩ := Z1.out
      have := q3.lt
      exact ⟨q0.trans hc, q3.chg hc, hap, by omega⟩
    clear hb hap hc Z1
    obtain ⟨w3, hw3⟩ : ∃ w3, w3 = w2 := ⟨_, rfl⟩
    subst hw3
    have Z : Hid (Chg w w3 ∧ Ar w3 (w.heap.size + 1 + 1) (num 0) ∧ Ar w3 p (num L) ∧ w.heap.size + 1 + 1 < p) := Z2.out
    clear Z2
    obtain ⟨x0, x1, x2, x3⟩ := Ar.four (d := dg B64 L) Z.out.2.2.1
    by_cases hs : o = 1
    · have HG : Hid (o = 1) := hs
      have hd : (o == 1) = true := by simpa using hs
      clear hs
      go_wp2_with fail
      obtain ⟨v, hv⟩ : ∃ v, v = (L + mo f) % R256 := ⟨_, rfl⟩
      obtain ⟨c, hcv⟩ : ∃ c, c = (L + mo f) / R256 := ⟨_, rfl⟩
      have k := fun W => plus_num L (mo f) HLN.out (mo_N f) W
      rw [← hv, ← hcv, num4 v] at k
      have HK : Hid (∀ W, Calls Try.prog 40 #[.agg (num L), .agg (num (mo f))] W fun r w' => r = .returned (.tuple #[.agg #[.int .u64 (dg B64 v 0), .int .u64 (dg B64 v 1), .int .u64 (dg B64 v 2), .int .u64 (dg B64 v 3)], .int .u64 c]) ∧ Chg W w') := k
      have Hv : Hid (v = (L + mo f) % R256) := hv
      clear k hv hcv
      go_region_with (first
        | (go_at_call 18; refine (modulus_any f _).mono ?_; rintro r w6 ⟨rfl, hc6⟩; obtain ⟨z0, z1, z2, z3⟩ := Ar.four (d := dg B64 L) (Z.out.2.2.1.drew.chg hc6); have HC6 : Hid (Chg w3.drew w6) := hc6; clear hc6)
        | (go_at_call 40; refine (HK.out _).mono ?_; rintro r w7 ⟨rfl, hc7⟩; have HC7 : Hid (Chg w3.drew w7) := HC6.out.trans hc7; clear hc7; obtain ⟨y0, y1, y2, y3⟩ := Ar.four (d := dg B64 L) (Z.out.2.2.1.drew.chg HC7.out); obtain ⟨g0, g1, g2, g3⟩ := (Z.out.2.2.1.drew.chg HC7.out).free4))
      all_goals
        obtain ⟨s0, s1, s2, s3⟩ := Ar.four (d := dg B64 0) (Z.out.2.1.drew.chg HC7.out)
        obtain ⟨t0, t1, t2, t3⟩ := (Z.out.2.1.drew.chg HC7.out).free4
        have hne : ¬ p = w.heap.size + 1 + 1 := fun h => by
          have := Z.out.2.2.2
          omega
        have hne' : ¬ w.heap.size + 1 + 1 = p := fun h => by
          have := Z.out.2.2.2
          omega
        go_wp2
        have hn := Z.out.2.2.2
        have e : v = md f (a - b) := subM_ge HL.out.1 HL.out.2 HG.out Hv.out
        refine bp_n (x := v) Try.results12 rfl rfl ?_ ⟨by rw [e], ?_⟩
        · exact ((Z.out.2.1.drew.chg HC7.out).nput_other hne' v).nput v
        · exact ((Z.out.1.drew.trans HC7.out).nput (by omega) v).nput (by omega) v
    · have HS : Hid (¬ o = 1) := hs
      have hd : (o == 1) = false := by simpa using hs
      obtain ⟨s0, s1, s2, s3⟩ := Ar.four (d := dg B64 0) Z.out.2.1
      obtain ⟨t0, t1, t2, t3⟩ := Z.out.2.1.free4
      clear hs
      go_wp2
      have hn := Z.out.2.2.2
      have e : L = md f (a - b) := subM_lt HL.out.1 HL.out.2 HS.out
      refine bp_n (x := L) Try.results12 rfl rfl ?_ ⟨by rw [e], ?_⟩
      · exact Z.out.2.1.nput L
      · exact Z.out.1.nput (by omega) L

set_option maxRecDepth 100000 in
set_option maxHeartbeats 8000000 in
theorem negM_any (f a : Int) (ha : N256 a) (w : World) : Calls Try.prog 16 #[.int .i64 f, .agg (num a)] w fun r w' => r = .returned (.agg (num (md f (0 - a)))) ∧ Chg w w' := by
  have hz := zero25.1
  have hsA := num_size a
  have iA := infoN a
  have k := fun W => subM_any f 0 a ⟨by decide, by decide⟩ ha W
  obtain ⟨A, hA⟩ : ∃ A, A = num a := ⟨_, rfl⟩
  obtain ⟨M, hM⟩ : ∃ M, M = num (md f (0 - a)) := ⟨_, rfl⟩
  have HM : Hid (M = num (md f (0 - a))) := hM
  rw [← hA] at hsA iA k ⊢
  rw [← hM] at k
  have HK : Hid (∀ W, Calls Try.prog 12 #[.int .i64 f, .agg (num 0), .agg A] W fun r w' => r = .returned (.agg M) ∧ Chg W w') := k
  have s1 : (Try.prog.info? 25).map (·.size) = some M.size := by rw [hM]; exact szN _
  have l1 : (num 0).size = M.size := by rw [hM]; exact lenN _ _
  have o1 : M.all (·.oneCell') = true := by rw [hM]; exact num_one _
  clear hA ha hM k
  go_enter Try.func16, Try.ntmps16
  go_upto_region 1 with fail
  obtain ⟨w1, hw1⟩ : ∃ w1, w1 = (w.alloc (.cells A 25)).alloc (.cells (num 0) 25) := ⟨_, rfl⟩
  have Z : Hid (Chg w w1 ∧ Ar w1 w.heap.size A ∧ Ar w1 (w.heap.size + 1) (num 0)) := by
    rw [hw1]
    exact ⟨((Chg.refl w).alloc _).alloc _, (Ar.new w _ _).alloc _, Ar.new1 w _ _ _⟩
  rw [← hw1]
  clear hw1 hsA
  have r1 := rangeA Z.out.2.1
  go_wp2_with (first
    | refine wpList_load_mid rfl 25 (.tmp 3) rfl _ _ rfl (A.toList) _ r1 u25 rfl iA ?_)
  go_at_call 12
  refine (HK.out _).mono ?_
  rintro r w2 ⟨rfl, hc2⟩
  have Z2 : Hid (Chg w w2 ∧ Ar w2 (w.heap.size + 1) (num 0)) := ⟨Z.out.1.trans hc2, Z.out.2.2.chg hc2⟩
  obtain ⟨t, g⟩ := Z2.out.2
  clear hc2 r1 Z
  go_wp2_with (first | refine wpList_store_row rfl 25 _ _ rfl _ _ rfl rfl _ _ g s1 l1 o1 ?_)
  rw [HM.out]
  refine bp_n (x := md f (0 - a)) Try.results16 rfl rfl ?_ ⟨rfl, Z2.out.1.setRow (by omega) _⟩
  exact Z2.out.2.row _
end Go.Proofs.Ytnahkcapbbjfdaa

namespace Go.Proofs.Ytnahkcapbbjfdaa
open Go.RowKit
set_option linter.unusedVariables false

set_option maxRecDepth 100000 in
set_option maxHeartbeats 8000000 in
theorem left4_any (x : Int) (hx : N512 x) (w : World) : Calls Try.prog 45 #[.int .i64 4, .agg (wdr x)] w fun r w' => r = .returned (.agg (num (x % mo 4))) ∧ Chg w w' := by
  have hsA := wdr_size x
  obtain ⟨A, hA⟩ : ∃ A, A = wdr x := ⟨_, rfl⟩
  obtain ⟨M, hM⟩ : ∃ M, M = num (mo 4) := ⟨_, rfl⟩
  obtain ⟨ANS, hANS⟩ : ∃ A, A = num (x % mo 4) := ⟨_, rfl⟩
  obtain ⟨Z0, hZ0⟩ : ∃ Z, Z = num 0 := ⟨_, rfl⟩
  have HANS : Hid (ANS = num (x % mo 4)) := hANS
  have HMo : Hid (∀ u, Calls Try.prog 19 #[.int .i64 4] u fun r w' => r = .returned (.agg M) ∧ Chg u w') := fun u => by rw [hM]; exact modulusR_any 4 u
  have HSl : Hid (∀ u, Calls Try.prog 65 #[.agg M, .agg A] u fun r w' => r = .returned (.agg ANS) ∧ Chg u w') := fun u => by rw [hM, hA, hANS]; exact slowly_any x hx u
  have hz := zero25.1
  have sM := szN (mo 4)
  have lM := lenN 0 (mo 4)
  have oM := num_one (mo 4)
  have sA := szA (dg B32 x)
  have sR := szN (x % mo 4)
  have lR := lenN 0 (x % mo 4)
  have oR := num_one (x % mo 4)
  rw [show arr .u64 17 (dg B32 x) = A from hA.symm] at sA
  rw [← hA] at hsA ⊢
  rw [← hM] at sM lM oM
  rw [← hANS] at sR lR oR ⊢
  rw [← hZ0] at hz lM lR
  clear hA hM hANS hZ0 hx
  go_enter Try.func45, Try.ntmps45
  go_wp2_with fail
  obtain ⟨w2, hw2⟩ : ∃ w2, w2 = (w.alloc (.cells A 49)).alloc (.cells Z0 25) := ⟨_, rfl⟩
  have Z2 : Hid (Chg w w2 ∧ Ar w2 w.heap.size A ∧ Ar w2 (w.heap.size + 1) Z0) := by
    rw [hw2]
    exact ⟨((Chg.refl w).alloc _).alloc _, (Ar.new w _ _).alloc _, Ar.new1 w _ _ _⟩
  rw [← hw2]
  clear hw2 hsA
  go_at_call 19
  refine (HMo.out _).mono ?_
  rintro r w3 ⟨rfl, hc3⟩
  have Z3 : Hid (Chg w w3 ∧ Ar w3 w.heap.size A ∧ Ar w3 (w.heap.size + 1) Z0) := ⟨Z2.out.1.trans hc3, Z2.out.2.1.chg hc3, Z2.out.2.2.chg hc3⟩
  clear hc3 Z2
  go_upto_region 2 with (first | refine wpList_store_row rfl 25 _ _ rfl _ _ rfl rfl _ _ (heap_alloc_last w3 _) sM lM oM ?_)
  obtain ⟨b5, hb5⟩ : ∃ b, b = w3.heap.size := ⟨_, rfl⟩
  obtain ⟨w4, hw4⟩ : ∃ w4, w4 = (w3.alloc (.cells Z0 25)).setRow w3.heap.size M := ⟨_, rfl⟩
  have Z4 : Hid (Chg w w4 ∧ Ar w4 w.heap.size A ∧ Ar w4 (w.heap.size + 1) Z0 ∧ Ar w4 b5 M) := by
    have hl := Z3.out.2.2.lt
    have h1 := Z3.out.1.size
    rw [hw4, hb5]
    exact ⟨(Z3.out.1.alloc _).setRow h1 _, (Z3.out.2.1.alloc _).rowOther (by omega) _, (Z3.out.2.2.alloc _).rowOther (by omega) _, (Ar.new w3 _ _).row _⟩
  rw [← hw4, ← hb5]
  clear hw4 hb5 Z3
  obtain ⟨t1, g1⟩ := Z4.out.2.1
  obtain ⟨t2, g2⟩ := Z4.out.2.2.2
  go_wp2_with (first | refine wpList_load_row rfl 49 _ rfl _ rfl _ _ _ _ g1 un49 rfl sA ?_ | refine wpList_load_row rfl 25 _ rfl _ rfl _ _ _ _ g2 Go.Proofs.Ytnahkcapbbjfdaa.u25 rfl sM ?_)
  go_at_call 65
  refine (HSl.out _).mono ?_
  rintro r w5 ⟨rfl, hc5⟩
  have Z5 : Hid (Chg w w5 ∧ Ar w5 (w.heap.size + 1) Z0) := ⟨Z4.out.1.trans hc5, Z4.out.2.2.1.chg hc5⟩
  clear hc5 g1 g2 Z4
  obtain ⟨t3, g3⟩ := Z5.out.2
  go_wp2_with (first | refine wpList_store_row rfl 25 _ _ rfl _ _ rfl rfl _ _ g3 sR lR oR ?_)
  refine bp_n (x := x % mo 4) Try.results45 rfl rfl ?_ ⟨by rw [HANS.out], ?_⟩
  · rw [← HANS.out]
    exact Z5.out.2.row _
  · exact Z5.out.1.setRow (by omega) _
theorem left_any (f x : Int) (hf : f = 1 ∨ f = 2 ∨ f = 3 ∨ f = 4) (hx : N512 x) (w : World) : Calls Try.prog 45 #[.int .i64 f, .agg (wdr x)] w fun r w' => r = .returned (.agg (num (md f x))) ∧ Chg w w' := by
  rw [md_in hf]
  have h5 : 0 ≤ x ∧ x < R544 := ⟨hx.1, Int.lt_trans hx.2 (by decide)⟩
  rcases hf with rfl | rfl | rfl | rfl
  · exact leftF_any 1 x (by omega) h5 w
  · exact leftF_any 2 x (by omega) h5 w
  · exact leftF_any 3 x (by omega) h5 w
  · exact left4_any x hx w

set_option maxRecDepth 100000 in
set_option maxHeartbeats 8000000 in
theorem mulR_any (f a b : Int) (ha : N256 a) (hb : N256 b) (w : World) : Calls Try.prog 15 #[.int .i64 f, .agg (num a), .agg (num b)] w fun r w' => r = .returned (.agg (num (md f (a * b)))) ∧ Chg w w' := by
  have HIs : Hid (∀ u, Calls Try.prog 24 #[.int .i64 f] u fun r w' => r = .returned (.bool (isF f)) ∧ Chg u w') := fun u => is_any f u
  have hz := zero25.1
  have hsA := num_size a
  have hsB := num_size b
  obtain ⟨A, hA⟩ : ∃ A, A = num a := ⟨_, rfl⟩
  obtain ⟨B, hB⟩ : ∃ B, B = num b := ⟨_, rfl⟩
  obtain ⟨ANS, hANS⟩ : ∃ A, A = num (md f (a * b)) := ⟨_, rfl⟩
  have HANS : Hid (ANS = num (md f (a * b))) := hANS
  obtain ⟨Z0, hZ0⟩ : ∃ Z, Z = num 0 := ⟨_, rfl⟩
  have HZ : Hid (Z0 = num 0 ∧ A = num a ∧ B = num b) := ⟨hZ0, hA, hB⟩
  have HAB : Hid (N256 a ∧ N256 b) := ⟨ha, hb⟩
  have sA := szN a
  have sB := szN b
  have sR := szN (md f (a * b))
  have lR := lenN 0 (md f (a * b))
  have oR := num_one (md f (a * b))
  have s0 := szN 0
  have l0 := lenN 0 0
  have o0 := num_one 0
  rw [← hA] at hsA sA ⊢
  rw [← hB] at hsB sB ⊢
  rw [← hANS] at sR lR oR ⊢
  rw [← hZ0] at hz lR s0 l0 o0
  obtain ⟨bb, hbb⟩ : ∃ b, b = isF f := ⟨_, rfl⟩
  rw [← hbb] at HIs
  have HBB : Hid (bb = isF f) := hbb
  clear hA hB hANS hZ0 hbb ha hb
  go_enter Try.func15, Try.ntmps15
  go_wp2_with fail
  obtain ⟨w1, hw1⟩ : ∃ w1, w1 = ((w.alloc (.cells A 25)).alloc (.cells B 25)).alloc (.cells Z0 25) := ⟨_, rfl⟩
  have Z1 : Hid (Chg w w1 ∧ Ar w1 w.heap.size A ∧ Ar w1 (w.heap.size + 1) B ∧ Ar w1 (w.heap.size + 1 + 1) Z0) := by
    rw [hw1]
    exact ⟨(((Chg.refl w).alloc _).alloc _).alloc _, ((Ar.new w _ _).alloc _).alloc _, (Ar.new1 w _ _ _).alloc _, Ar.new2 w _ _ _ _⟩
  rw [← hw1]
  clear hw1 hsA hsB
  go_at_call 24
  refine (HIs.out _).mono ?_
  rintro r w2 ⟨rfl, hc2⟩
  have Z2 : Hid (Chg w w2 ∧ Ar w2 w.heap.size A ∧ Ar w2 (w.heap.size + 1) B ∧ Ar w2 (w.heap.size + 1 + 1) Z0) := ⟨Z1.out.1.trans hc2, Z1.out.2.1.chg hc2, Z1.out.2.2.1.chg hc2, Z1.out.2.2.2.chg hc2⟩
  clear hc2 Z1
  cases bb with
  | false =>
    have hf : ¬ (f = 1 ∨ f = 2 ∨ f = 3 ∨ f = 4) := fun h => by have := (isF_iff f).2 h; rw [← HBB.out] at this; cases this
    have HE : Hid (ANS = num 0) := by show ANS = num 0; rw [HANS.out, md_out hf]
    clear hf sA sB sR lR oR
    obtain ⟨t, g⟩ := Z2.out.2.2.2
    go_wp2_with (first | refine wpList_store_row rfl 25 _ _ rfl _ _ rfl rfl _ _ g s0 rfl o0 ?_)
    refine bp_n (x := 0) Try.results15 rfl rfl ?_ ⟨by rw [HE.out], ?_⟩
    · rw [← HZ.out.1]
      exact Z2.out.2.2.2.row _
    · exact Z2.out.1.setRow (by omega) _
  | true =>
    have hf : f = 1 ∨ f = 2 ∨ f = 3 ∨ f = 4 := (isF_iff f).1 HBB.out.symm
    obtain ⟨P, hP⟩ : ∃ P, P = wdr (a * b) := ⟨_, rfl⟩
    have HT : Hid (∀ u, Calls Try.prog 49 #[.agg A, .agg B] u fun r w' => r = .returned (.agg P) ∧ Chg u w') := fun u => by rw [HZ.out.2.1, HZ.out.2.2, hP]; exact times_any a b HAB.out.1 HAB.out.2 u
    have HL : Hid (∀ u, Calls Try.prog 45 #[.int .i64 f, .agg P] u fun r w' => r = .returned (.agg ANS) ∧ Chg u w') := fun u => by rw [hP, HANS.out]; exact left_any f (a * b) hf (mul_N512 HAB.out.1 HAB.out.2) u
    clear hP hf
    obtain ⟨t1, g1⟩ := Z2.out.2.1
    obtain ⟨t2, g2⟩ := Z2.out.2.2.1
    go_wp2_with (first | refine wpList_load_row rfl 25 _ rfl _ rfl _ _ _ _ g1 Go.Proofs.Ytnahkcapbbjfdaa.u25 rfl sA ?_ | refine wpList_load_row rfl 25 _ rfl _ rfl _ _ _ _ g2 Go.Proofs.Ytnahkcapbbjfdaa.u25 rfl sB ?_ | (go_at_call 49; refine (HT.out _).mono ?_; rintro r w3 ⟨rfl, hc3⟩) | (go_at_call 45; refine (HL.out _).mono ?_; rintro r w4 ⟨rfl, hc4⟩; obtain ⟨t3, g3⟩ := (Z2.out.2.2.2.chg hc3).chg hc4) | refine wpList_store_row rfl 25 _ _ rfl _ _ rfl rfl _ _ g3 sR lR oR ?_)
    refine bp_n (x := md f (a * b)) Try.results15 rfl rfl ?_ ⟨by rw [HANS.out], ?_⟩
    · rw [← HANS.out]
      exact ((Z2.out.2.2.2.chg hc3).chg hc4).row _
    · exact ((Z2.out.1.trans hc3).trans hc4).setRow (by omega) _

set_option maxRecDepth 100000 in
set_option maxHeartbeats 8000000 in
theorem addR_any (f a b : Int) (ha : N256 a) (hb : N256 b) (w : World) : Calls Try.prog 11 #[.int .i64 f, .agg (num a), .agg (num b)] w fun r w' => r = .returned (.agg (num (md f (a + b)))) ∧ Chg w w' := by
  have HIs : Hid (∀ u, Calls Try.prog 24 #[.int .i64 f] u fun r w' => r = .returned (.bool (isF f)) ∧ Chg u w') := fun u => is_any f u
  have hz := zero25.1
  have hsA := num_size a
  have hsB := num_size b
  obtain ⟨A, hA⟩ : ∃ A, A = num a := ⟨_, rfl⟩
  obtain ⟨B, hB⟩ : ∃ B, B = num b := ⟨_, rfl⟩
  obtain ⟨ANS, hANS⟩ : ∃ A, A = num (md f (a + b)) := ⟨_, rfl⟩
  have HANS : Hid (ANS = num (md f (a + b))) := hANS
  obtain ⟨Z0, hZ0⟩ : ∃ Z, Z = num 0 := ⟨_, rfl⟩
  have HZ : Hid (Z0 = num 0 ∧ A = num a ∧ B = num b) := ⟨hZ0, hA, hB⟩
  have HAB : Hid (N256 a ∧ N256 b) := ⟨ha, hb⟩
  have sA := szN a
  have sB := szN b
  have sR := szN (md f (a + b))
  have lR := lenN 0 (md f (a + b))
  have oR := num_one (md f (a + b))
  have s0 := szN 0
  have l0 := lenN 0 0
  have o0 := num_one 0
  rw [← hA] at hsA sA ⊢
  rw [← hB] at hsB sB ⊢
  rw [← hANS] at sR lR oR ⊢
  rw [← hZ0] at hz lR s0 l0 o0
  obtain ⟨bb, hbb⟩ : ∃ b, b = isF f := ⟨_, rfl⟩
  rw [← hbb] at HIs
  have HBB : Hid (bb = isF f) := hbb
  clear hA hB hANS hZ0 hbb ha hb
  go_enter Try.func11, Try.ntmps11
  go_wp2_with fail
  obtain ⟨w1, hw1⟩ : ∃ w1, w1 = ((w.alloc (.cells A 25)).alloc (.cells B 25)).alloc (.cells Z0 25) := ⟨_, rfl⟩
  have Z1 : Hid (Chg w w1 ∧ Ar w1 w.heap.size A ∧ Ar w1 (w.heap.size + 1) B ∧ Ar w1 (w.heap.size + 1 + 1) Z0) := by
    rw [hw1]
    exact ⟨(((Chg.refl w).alloc _).alloc _).alloc _, ((Ar.new w _ _).alloc _).alloc _, (Ar.new1 w _ _ _).alloc _, Ar.new2 w _ _ _ _⟩
  rw [← hw1]
  clear hw1 hsA hsB
  go_at_call 24
  refine (HIs.out _).mono ?_
  rintro r w2 ⟨rfl, hc2⟩
  have Z2 : Hid (Chg w w2 ∧ Ar w2 w.heap.size A ∧ Ar w2 (w.heap.size + 1) B ∧ Ar w2 (w.heap.size + 1 + 1) Z0) := ⟨Z1.out.1.trans hc2, Z1.out.2.1.chg hc2, Z1.out.2.2.1.chg hc2, Z1.out.2.2.2.chg hc2⟩
  clear hc2 Z1
  cases bb with
  | false =>
    have hf : ¬ (f = 1 ∨ f = 2 ∨ f = 3 ∨ f = 4) := fun h => by have := (isF_iff f).2 h; rw [← HBB.out] at this; cases this
    have HE : Hid (ANS = num 0) := by show ANS = num 0; rw [HANS.out, md_out hf]
    clear hf sA sB sR lR oR
    obtain ⟨t, g⟩ := Z2.out.2.2.2
    go_wp2_with (first | refine wpList_store_row rfl 25 _ _ rfl _ _ rfl rfl _ _ g s0 rfl o0 ?_)
    refine bp_n (x := 0) Try.results11 rfl rfl ?_ ⟨by rw [HE.out], ?_⟩
    · rw [← HZ.out.1]
      exact Z2.out.2.2.2.row _
    · exact Z2.out.1.setRow (by omega) _
  | true =>
    have hf : f = 1 ∨ f = 2 ∨ f = 3 ∨ f = 4 := (isF_iff f).1 HBB.out.symm
    obtain ⟨S, hS⟩ : ∃ S, S = num ((a + b) % R256) := ⟨_, rfl⟩
    obtain ⟨c, hc⟩ : ∃ c, c = (a + b) / R256 := ⟨_, rfl⟩
    obtain ⟨P, hP⟩ : ∃ P, P = wdr ((a + b) % R256) := ⟨_, rfl⟩
    obtain ⟨Zd, hZd⟩ : ∃ Z, Z = arr .u64 17 zD := ⟨_, rfl⟩
    have hcb : 0 ≤ c ∧ c ≤ 1 := by
      have h1 := HAB.out.1
      have h2 := HAB.out.2
      have h3 : a + b < 2 * R256 := by have := h1.2; have := h2.2; omega
      have h4 : 0 ≤ a + b := by have := h1.1; have := h2.1; omega
      rw [hc]
      exact ⟨Int.ediv_nonneg h4 (by decide), by
        have : (a + b) / R256 < 2 := Int.ediv_lt_of_lt_mul (by decide) h3
        omega⟩
    have eAll : arr .u64 17 (upd (dg B32 ((a + b) % R256)) 8 c) = wdr (a + b) := by
      have hD : D32 (upd (dg B32 ((a + b) % R256)) 8 c) := (D32.dg _).upd 8 (by omega)
      rw [arr_wdr hD]
      congr 1
      have h4 : 0 ≤ (a + b) % R256 ∧ (a + b) % R256 < R544 := ⟨Int.emod_nonneg _ (by decide), Int.lt_trans (Int.emod_lt_of_pos _ (by decide)) (by decide)⟩
      rw [val_upd_in _ _ (by decide), val17 _ h4.1 h4.2, dg_none (N_modR _) (by decide), hc, show B32 ^ 8 = R256 by decide]
      have := Int.emod_add_mul_ediv (a + b) R256
      rw [Int.sub_zero, Int.mul_comm]
      exact this
    obtain ⟨Q, hQ⟩ : ∃ Q, Q = arr .u64 17 (upd (dg B32 ((a + b) % R256)) 8 c) := ⟨_, rfl⟩
    have HPl : Hid (∀ u, Calls Try.prog 43 #[.agg A, .agg B] u fun r w' => r = .returned (.tuple #[.agg S, .int .u64 c]) ∧ Chg u w') := fun u => by rw [HZ.out.2.1, HZ.out.2.2, hS, hc]; exact plusR_any a b HAB.out.1 HAB.out.2 u
    have HDg : Hid (∀ u, Calls Try.prog 44 #[.agg S] u fun r w' => r = .returned (.agg P) ∧ Chg u w') := fun u => by rw [hS, hP]; exact digits_any _ (N_modR _) u
    have HL : Hid (∀ u, Calls Try.prog 45 #[.int .i64 f, .agg Q] u fun r w' => r = .returned (.agg ANS) ∧ Chg u w') := fun u => by
      rw [hQ, eAll, HANS.out]
      refine left_any f (a + b) hf ⟨?_, ?_⟩ u
      · have := HAB.out.1.1; have := HAB.out.2.1; omega
      · have h1 := HAB.out.1.2; have h2 := HAB.out.2.2
        have h3 : 2 * R256 < R512 := by decide
        omega
    have HPQ : Hid (P.setIfInBounds 8 (.int .u64 c) = Q) := by
      show _ = Q
      rw [hP, hQ]
      exact arr_set .u64 17 _ 8 c
    have sS := szN ((a + b) % R256)
    have lS := lenN 0 ((a + b) % R256)
    have oS := num_one ((a + b) % R256)
    have sP := szA (dg B32 ((a + b) % R256))
    have lP := lenA zD (dg B32 ((a + b) % R256))
    have oP := oneA (dg B32 ((a + b) % R256))
    have sQ := szA (upd (dg B32 ((a + b) % R256)) 8 c)
    have cP : P[8]? = some (.int .u64 (dg B32 ((a + b) % R256) 8)) := by rw [hP]; exact arr_get _ _ _ (by decide)
    have hz9 := zero49.1
    rw [← hS] at sS lS oS
    rw [show arr .u64 17 (dg B32 ((a + b) % R256)) = P from hP.symm] at sP lP oP
    rw [← hQ] at sQ
    rw [← hZd] at hz9 lP
    rw [← HZ.out.1] at lS
    clear hP hf hS hc hcb eAll hQ hZd
    obtain ⟨t1, g1⟩ := Z2.out.2.1
    obtain ⟨t2, g2⟩ := Z2.out.2.2.1
    go_wp2_with (first | refine wpList_load_row rfl 25 _ rfl _ rfl _ _ _ _ g1 Go.Proofs.Ytnahkcapbbjfdaa.u25 rfl sA ?_ | refine wpList_load_row rfl 25 _ rfl _ rfl _ _ _ _ g2 Go.Proofs.Ytnahkcapbbjfdaa.u25 rfl sB ?_)
    go_at_call 43
    refine (HPl.out _).mono ?_
    rintro r w3 ⟨rfl, hc3⟩
    have Z3 : Hid (Chg w w3 ∧ Ar w3 (w.heap.size + 1 + 1) Z0) := ⟨Z2.out.1.trans hc3, Z2.out.2.2.2.chg hc3⟩
    clear hc3 g1 g2 Z2
    go_upto_region 5 with (first | refine wpList_store_row rfl 25 _ _ rfl _ _ rfl rfl _ _ (heap_alloc_last w3 _) sS lS oS ?_)
    obtain ⟨b8, hb8⟩ : ∃ b, b = w3.heap.size := ⟨_, rfl⟩
    obtain ⟨w4, hw4⟩ : ∃ w4, w4 = (w3.alloc (.cells Z0 25)).setRow w3.heap.size S := ⟨_, rfl⟩
    have Z4 : Hid (Chg w w4 ∧ Ar w4 (w.heap.size + 1 + 1) Z0 ∧ Ar w4 b8 S) := by
      have hl := Z3.out.2.lt
      have h1 := Z3.out.1.size
      rw [hw4, hb8]
      exact ⟨(Z3.out.1.alloc _).setRow h1 _, (Z3.out.2.alloc _).rowOther (by omega) _, (Ar.new w3 _ _).row _⟩
    rw [← hw4, ← hb8]
    clear hw4 hb8 Z3
    obtain ⟨t1, g1⟩ := Z4.out.2.2
    go_wp2_with (first | refine wpList_load_row rfl 25 _ rfl _ rfl _ _ _ _ g1 Go.Proofs.Ytnahkcapbbjfdaa.u25 rfl sS ?_)
    go_at_call 44
    refine (HDg.out _).mono ?_
    rintro r w5 ⟨rfl, hc5⟩
    have Z5 : Hid (Chg w w5 ∧ Ar w5 (w.heap.size + 1 + 1) Z0) := ⟨Z4.out.1.trans hc5, Z4.out.2.1.chg hc5⟩
    clear hc5 g1 Z4
    go_upto_region 6 with (first | refine wpList_store_row rfl 49 _ _ rfl _ _ rfl rfl _ _ (heap_alloc_last w5 _) sP lP oP ?_)
    obtain ⟨b10, hb10⟩ : ∃ b, b = w5.heap.size := ⟨_, rfl⟩
    obtain ⟨w6, hw6⟩ : ∃ w6, w6 = (w5.alloc (.cells Zd 49)).setRow w5.heap.size P := ⟨_, rfl⟩
    have Z6 : Hid ((Chg w w6 ∧ Ar w6 (w.heap.size + 1 + 1) Z0 ∧ Ar w6 b10 P) ∧ w.heap.size + 2 < b10) := by
      have hl := Z5.out.2.lt
      have h1 := Z5.out.1.size
      rw [hw6, hb10]
      exact ⟨⟨(Z5.out.1.alloc _).setRow h1 _, (Z5.out.2.alloc _).rowOther (by omega) _, (Ar.new w5 _ _).row _⟩, by omega⟩
    rw [← hw6, ← hb10]
    clear hw6 hb10 Z5
    have c8 := (Z6.out.1.2.2.cell 8).trans cP
    have f8 := Z6.out.1.2.2.frozen 8
    go_upto_region 7 with fail
    obtain ⟨w7, hw7⟩ : ∃ w7, w7 = w6.setCell ⟨b10, 8, none⟩ (.int .u64 c) := ⟨_, rfl⟩
    have Z7 : Hid (Chg w w7 ∧ Ar w7 (w.heap.size + 1 + 1) Z0 ∧ Ar w7 b10 Q) := by
      have h2 := Z6.out.2
      rw [hw7, ← HPQ.out]
      exact ⟨Z6.out.1.1.setCell (by dsimp only; omega) _, Z6.out.1.2.1.other (by dsimp only; omega) _, Z6.out.1.2.2.set 8 _⟩
    rw [← hw7]
    clear hw7 c8 f8 Z6
    obtain ⟨t1, g1⟩ := Z7.out.2.2
    go_wp2_with (first | refine wpList_load_row rfl 49 _ rfl _ rfl _ _ _ _ g1 un49 rfl sQ ?_)
    go_at_call 45
    refine (HL.out _).mono ?_
    rintro r w8 ⟨rfl, hc8⟩
    have Z8 : Hid (Chg w w8 ∧ Ar w8 (w.heap.size + 1 + 1) Z0) := ⟨Z7.out.1.trans hc8, Z7.out.2.1.chg hc8⟩
    clear hc8 g1 Z7
    obtain ⟨t3, g3⟩ := Z8.out.2
    go_wp2_with (first | refine wpList_store_row rfl 25 _ _ rfl _ _ rfl rfl _ _ g3 sR lR oR ?_)
    refine bp_n (x := md f (a + b)) Try.results11 rfl rfl ?_ ⟨by rw [HANS.out], ?_⟩
    · rw [← HANS.out]
      exact Z8.out.2.row _
    · exact Z8.out.1.setRow (by omega) _

end Go.Proofs.Ytnahkcapbbjfdaa

namespace Go.Proofs.Ytnahkcapbbjfdaa
open Go.RowKit
set_option linter.unusedVariables false

theorem subR_lt {f a b : Int} (hf : f = 1 ∨ f = 2 ∨ f = 3 ∨ f = 4) (h : md f a < md f b) : (mo f - (md f b - md f a) % R256) % R256 = md f (a - b) := by
  obtain ⟨hp, hr⟩ := mo_pos4 hf
  have h3 : (a - b) % mo f = (a % mo f - b % mo f) % mo f := Int.sub_emod a b (mo f)
  rw [md_in hf, md_in hf] at h ⊢
  rw [md_in hf, h3]
  have ha := Int.emod_lt_of_pos a hp
  have hb := Int.emod_lt_of_pos b hp
  have ha0 := Int.emod_nonneg a (show mo f ≠ 0 by omega)
  have hb0 := Int.emod_nonneg b (show mo f ≠ 0 by omega)
  clear h3
  generalize a % mo f = X at *
  generalize b % mo f = Y at *
  have e1 : (Y - X) % R256 = Y - X := Int.emod_eq_of_lt (by omega) (by omega)
  rw [e1]
  have e2 : (mo f - (Y - X)) % R256 = mo f - (Y - X) := Int.emod_eq_of_lt (by omega) (by omega)
  have e3 : (X - Y) % mo f = (X - Y + mo f) % mo f := by rw [Int.add_emod_right]
  have e4 : (X - Y + mo f) % mo f = X - Y + mo f := Int.emod_eq_of_lt (by omega) (by omega)
  rw [e2, e3, e4]
  omega
theorem subR_ge {f a b : Int} (hf : f = 1 ∨ f = 2 ∨ f = 3 ∨ f = 4) (h : ¬ md f a < md f b) : (md f a - md f b) % R256 = md f (a - b) := by
  obtain ⟨hp, hr⟩ := mo_pos4 hf
  have h3 : (a - b) % mo f = (a % mo f - b % mo f) % mo f := Int.sub_emod a b (mo f)
  rw [md_in hf, md_in hf] at h ⊢
  rw [md_in hf, h3]
  have ha := Int.emod_lt_of_pos a hp
  have hb := Int.emod_lt_of_pos b hp
  have ha0 := Int.emod_nonneg a (show mo f ≠ 0 by omega)
  have hb0 := Int.emod_nonneg b (show mo f ≠ 0 by omega)
  clear h3
  generalize a % mo f = X at *
  generalize b % mo f = Y at *
  have e1 : (X - Y) % R256 = X - Y := Int.emod_eq_of_lt (by omega) (by omega)
  have e2 : (X - Y) % mo f = X - Y := Int.emod_eq_of_lt (by omega) (by omega)
  rw [e1, e2]

set_option maxRecDepth 100000 in
set_option maxHeartbeats 8000000 in
theorem subR_any (f a b : Int) (ha : N256 a) (hb : N256 b) (w : World) : Calls Try.prog 13 #[.int .i64 f, .agg (num a), .agg (num b)] w fun r w' => r = .returned (.agg (num (md f (a - b)))) ∧ Chg w w' := by
  have HIs : Hid (∀ u, Calls Try.prog 24 #[.int .i64 f] u fun r w' => r = .returned (.bool (isF f)) ∧ Chg u w') := fun u => is_any f u
  have hz := zero25.1
  have hsA := num_size a
  have hsB := num_size b
  obtain ⟨A, hA⟩ : ∃ A, A = num a := ⟨_, rfl⟩
  obtain ⟨B, hB⟩ : ∃ B, B = num b := ⟨_, rfl⟩
  obtain ⟨ANS, hANS⟩ : ∃ A, A = num (md f (a - b)) := ⟨_, rfl⟩
  have HANS : Hid (ANS = num (md f (a - b))) := hANS
  obtain ⟨Z0, hZ0⟩ : ∃ Z, Z = num 0 := ⟨_, rfl⟩
  have HZ : Hid (Z0 = num 0 ∧ A = num a ∧ B = num b) := ⟨hZ0, hA, hB⟩
  have HAB : Hid (N256 a ∧ N256 b) := ⟨ha, hb⟩
  have sA := szN a
  have sB := szN b
  have sR := szN (md f (a - b))
  have lR := lenN 0 (md f (a - b))
  have oR := num_one (md f (a - b))
  have s0 := szN 0
  have l0 := lenN 0 0
  have o0 := num_one 0
  rw [← hA] at hsA sA ⊢
  rw [← hB] at hsB sB ⊢
  rw [← hANS] at sR lR oR ⊢
  rw [← hZ0] at hz lR s0 l0 o0
  obtain ⟨bb, hbb⟩ : ∃ b, b = isF f := ⟨_, rfl⟩
  rw [← hbb] at HIs
  have HBB : Hid (bb = isF f) := hbb
  clear hA hB hANS hZ0 hbb ha hb
  go_enter Try.func13, Try.ntmps13
  go_wp2_with fail
  obtain ⟨w1, hw1⟩ : ∃ w1, w1 = ((w.alloc (.cells A 25)).alloc (.cells B 25)).alloc (.cells Z0 25) := ⟨_, rfl⟩
  have Z1 : Hid (Chg w w1 ∧ Ar w1 w.heap.size A ∧ Ar w1 (w.heap.size + 1) B ∧ Ar w1 (w.heap.size + 1 + 1) Z0) := by
    rw [hw1]
    exact ⟨(((Chg.refl w).alloc _).alloc _).alloc _, ((Ar.new w _ _).alloc _).alloc _, (Ar.new1 w _ _ _).alloc _, Ar.new2 w _ _ _ _⟩
  rw [← hw1]
  clear hw1 hsA hsB
  go_at_call 24
  refine (HIs.out _).mono ?_
  rintro r w2 ⟨rfl, hc2⟩
  have Z2 : Hid (Chg w w2 ∧ Ar w2 w.heap.size A ∧ Ar w2 (w.heap.size + 1) B ∧ Ar w2 (w.heap.size + 1 + 1) Z0) := ⟨Z1.out.1.trans hc2, Z1.out.2.1.chg hc2, Z1.out.2.2.1.chg hc2, Z1.out.2.2.2.chg hc2⟩
  clear hc2 Z1
  cases bb with
  | false =>
    have hf : ¬ (f = 1 ∨ f = 2 ∨ f = 3 ∨ f = 4) := fun h => by have := (isF_iff f).2 h; rw [← HBB.out] at this; cases this
    have HE : Hid (ANS = num 0) := by show ANS = num 0; rw [HANS.out, md_out hf]
    clear hf sA sB sR lR oR
    obtain ⟨t, g⟩ := Z2.out.2.2.2
    go_wp2_with (first | refine wpList_store_row rfl 25 _ _ rfl _ _ rfl rfl _ _ g s0 rfl o0 ?_)
    refine bp_n (x := 0) Try.results13 rfl rfl ?_ ⟨by rw [HE.out], ?_⟩
    · rw [← HZ.out.1]
      exact Z2.out.2.2.2.row _
    · exact Z2.out.1.setRow (by omega) _
  | true =>
    have hf : f = 1 ∨ f = 2 ∨ f = 3 ∨ f = 4 := (isF_iff f).1 HBB.out.symm
    obtain ⟨DA, hDA⟩ : ∃ P, P = wdr a := ⟨_, rfl⟩
    obtain ⟨DB, hDB⟩ : ∃ P, P = wdr b := ⟨_, rfl⟩
    obtain ⟨X, hX⟩ : ∃ P, P = num (md f a) := ⟨_, rfl⟩
    obtain ⟨Y, hY⟩ : ∃ P, P = num (md f b) := ⟨_, rfl⟩
    have HXY : Hid (X = num (md f a) ∧ Y = num (md f b) ∧ (f = 1 ∨ f = 2 ∨ f = 3 ∨ f = 4)) := ⟨hX, hY, hf⟩
    have HD1 : Hid (∀ u, Calls Try.prog 44 #[.agg A] u fun r w' => r = .returned (.agg DA) ∧ Chg u w') := fun u => by rw [HZ.out.2.1, hDA]; exact digits_any a HAB.out.1 u
    have HD2 : Hid (∀ u, Calls Try.prog 44 #[.agg B] u fun r w' => r = .returned (.agg DB) ∧ Chg u w') := fun u => by rw [HZ.out.2.2, hDB]; exact digits_any b HAB.out.2 u
    have HL1 : Hid (∀ u, Calls Try.prog 45 #[.int .i64 f, .agg DA] u fun r w' => r = .returned (.agg X) ∧ Chg u w') := fun u => by rw [hDA, hX]; exact left_any f a hf (N512_of HAB.out.1) u
    have HL2 : Hid (∀ u, Calls Try.prog 45 #[.int .i64 f, .agg DB] u fun r w' => r = .returned (.agg Y) ∧ Chg u w') := fun u => by rw [hDB, hY]; exact left_any f b hf (N512_of HAB.out.2) u
    have HLe : Hid (∀ u, Calls Try.prog 21 #[.agg X, .agg Y] u fun r w' => r = .returned (.bool (decide (md f a < md f b))) ∧ Chg u w') := fun u => by rw [hX, hY]; exact less_any _ _ (md_N f a) (md_N f b) u
    have sX := szN (md f a)
    have lX := lenN 0 (md f a)
    have oX := num_one (md f a)
    have sY := szN (md f b)
    have lY := lenN 0 (md f b)
    have oY := num_one (md f b)
    rw [← hX] at sX lX oX
    rw [← hY] at sY lY oY
    rw [← HZ.out.1] at lX lY
    clear hX hY hDA hDB hf
    obtain ⟨t1, g1⟩ := Z2.out.2.1
    go_wp2_with (first | refine wpList_load_row rfl 25 _ rfl _ rfl _ _ _ _ g1 Go.Proofs.Ytnahkcapbbjfdaa.u25 rfl sA ?_ | (go_at_call 44; refine (HD1.out _).mono ?_; rintro r w3 ⟨rfl, hc3⟩))
    go_at_call 45
    refine (HL1.out _).mono ?_
    rintro r w4 ⟨rfl, hc4⟩
    have Z4 : Hid (Chg w w4 ∧ Ar w4 (w.heap.size + 1) B ∧ Ar w4 (w.heap.size + 1 + 1) Z0) := by
      have hc := hc3.trans hc4
      exact ⟨Z2.out.1.trans hc, Z2.out.2.2.1.chg hc, Z2.out.2.2.2.chg hc⟩
    clear hc3 hc4 g1 Z2
    go_upto_region 5 with (first | refine wpList_store_row rfl 25 _ _ rfl _ _ rfl rfl _ _ (heap_alloc_last w4 _) sX lX oX ?_)
    obtain ⟨b8, hb8⟩ : ∃ b, b = w4.heap.size := ⟨_, rfl⟩
    obtain ⟨w5, hw5⟩ : ∃ w5, w5 = (w4.alloc (.cells Z0 25)).setRow w4.heap.size X := ⟨_, rfl⟩
    have Z5 : Hid (Chg w w5 ∧ Ar w5 (w.heap.size + 1) B ∧ Ar w5 (w.heap.size + 1 + 1) Z0 ∧ Ar w5 b8 X ∧ w.heap.size + 2 < b8) := by
      have hl := Z4.out.2.2.lt
      have h1 := Z4.out.1.size
      rw [hw5, hb8]
      exact ⟨(Z4.out.1.alloc _).setRow h1 _, (Z4.out.2.1.alloc _).rowOther (by omega) _, (Z4.out.2.2.alloc _).rowOther (by omega) _, (Ar.new w4 _ _).row _, by omega⟩
    rw [← hw5, ← hb8]
    clear hw5 hb8 Z4
    obtain ⟨t1, g1⟩ := Z5.out.2.1
    go_wp2_with (first | refine wpList_load_row rfl 25 _ rfl _ rfl _ _ _ _ g1 Go.Proofs.Ytnahkcapbbjfdaa.u25 rfl sB ?_ | (go_at_call 44; refine (HD2.out _).mono ?_; rintro r w3 ⟨rfl, hc3⟩))
    go_at_call 45
    refine (HL2.out _).mono ?_
    rintro r w6 ⟨rfl, hc4⟩
    have Z6 : Hid (Chg w w6 ∧ Ar w6 (w.heap.size + 1 + 1) Z0 ∧ Ar w6 b8 X ∧ w.heap.size + 2 < b8) := by
      have hc := hc3.trans hc4
      exact ⟨Z5.out.1.trans hc, Z5.out.2.2.1.chg hc, Z5.out.2.2.2.1.chg hc, Z5.out.2.2.2.2⟩
    clear hc3 hc4 g1 Z5
    go_upto_region 6 with (first | refine wpList_store_row rfl 25 _ _ rfl _ _ rfl rfl _ _ (heap_alloc_last w6 _) sY lY oY ?_)
    obtain ⟨b9, hb9⟩ : ∃ b, b = w6.heap.size := ⟨_, rfl⟩
    obtain ⟨w7, hw7⟩ : ∃ w7, w7 = (w6.alloc (.cells Z0 25)).setRow w6.heap.size Y := ⟨_, rfl⟩
    have Z7 : Hid (Chg w w7 ∧ Ar w7 (w.heap.size + 1 + 1) Z0 ∧ Ar w7 b8 X ∧ Ar w7 b9 Y) := by
      have hl := Z6.out.2.2.1.lt
      have h1 := Z6.out.1.size
      have h2 := Z6.out.2.2.2
      rw [hw7, hb9]
      exact ⟨(Z6.out.1.alloc _).setRow h1 _, (Z6.out.2.1.alloc _).rowOther (by omega) _, (Z6.out.2.2.1.alloc _).rowOther (by omega) _, (Ar.new w6 _ _).row _⟩
    rw [← hw7, ← hb9]
    clear hw7 hb9 Z6
    obtain ⟨t1, g1⟩ := Z7.out.2.2.1
    obtain ⟨t2, g2⟩ := Z7.out.2.2.2
    go_wp2_with (first | refine wpList_load_row rfl 25 _ rfl _ rfl _ _ _ _ g1 Go.Proofs.Ytnahkcapbbjfdaa.u25 rfl sX ?_ | refine wpList_load_row rfl 25 _ rfl _ rfl _ _ _ _ g2 Go.Proofs.Ytnahkcapbbjfdaa.u25 rfl sY ?_)
    go_at_call 21
    refine (HLe.out _).mono ?_
    rintro r w8 ⟨rfl, hc8⟩
    have Z8 : Hid (Chg w w8 ∧ Ar w8 (w.heap.size + 1 + 1) Z0 ∧ Ar w8 b8 X ∧ Ar w8 b9 Y) := ⟨Z7.out.1.trans hc8, Z7.out.2.1.chg hc8, Z7.out.2.2.1.chg hc8, Z7.out.2.2.2.chg hc8⟩
    clear hc8 g1 g2 Z7
    by_cases hlt : md f a < md f b
    · have hd : decide (md f a < md f b) = true := by simp [hlt]
      obtain ⟨M, hM⟩ : ∃ M, M = num (mo f) := ⟨_, rfl⟩
      obtain ⟨D, hD⟩ : ∃ D, D = num ((md f b - md f a) % R256) := ⟨_, rfl⟩
      have HMo : Hid (∀ u, Calls Try.prog 19 #[.int .i64 f] u fun r w' => r = .returned (.agg M) ∧ Chg u w') := fun u => by rw [hM]; exact modulusR_any f u
      have HM1 : Hid (∀ u, Calls Try.prog 46 #[.agg Y, .agg X] u fun r w' => r = .returned (.agg D) ∧ Chg u w') := fun u => by rw [HXY.out.1, HXY.out.2.1, hD]; exact minusR_any _ _ (md_N f b) (md_N f a) u
      have HM2 : Hid (∀ u, Calls Try.prog 46 #[.agg M, .agg D] u fun r w' => r = .returned (.agg ANS) ∧ Chg u w') := fun u => by rw [hM, hD, HANS.out, ← subR_lt HXY.out.2.2 hlt]; exact minusR_any _ _ (mo_N f) (N_modR _) u
      have iX : (Try.prog.info? 25).map (·.size) = some X.toList.length := by rw [Array.length_toList]; exact sX
      have iY : (Try.prog.info? 25).map (·.size) = some Y.toList.length := by rw [Array.length_toList]; exact sY
      rw [hd]
      clear hlt hd hM hD
      go_upto_region 7 with fail
      refine wp_region_good 6 (fun j v wg => match j with
        | 0 => v = .int .i64 f
        | 1 => v = .agg M
        | 2 => v = .agg Y
        | 3 => v = .agg X
        | 4 => v = .agg D
        | 5 => v = .agg ANS
        | _ => True) (by kernel_rfl) (by kernel_rfl) (by kernel_rfl) (by kernel_rfl) (by kernel_rfl) ?_ ?_ ?_
      · intro j v u1 u2 h hc
        match j, h with
        | 0, h => exact h
        | 1, h => exact h
        | 2, h => exact h
        | 3, h => exact h
        | 4, h => exact h
        | 5, h => exact h
        | _ + 6, h => exact trivial
      · intro i o ac u hi ho hsz hf hg hc
        have hcs : i = 0 ∨ i = 1 ∨ i = 2 ∨ i = 3 ∨ i = 4 ∨ i = 5 := by omega
        rcases hcs with rfl | rfl | rfl | rfl | rfl | rfl
        · injection ho with ho
          subst ho
          refine .inl ⟨wanted_none rfl, ?_⟩
          have e1 : ac.eval (.tmp 0) = .int .i64 f := hf 0 (by kernel_rfl)
          exact opG_val (by simp [execOp, e1]) rfl (Chg.refl _)
        · injection ho with ho
          subst ho
          refine .inl ⟨wanted_none rfl, ?_⟩
          have e1 : ac.eval (.tmp 26) = .int .i64 f := hg 0 (by kernel_rfl) (by decide)
          refine opG_go 19 Try.f19 #[.tmp 26] #[22] rfl Try.func19 (by kernel_rfl) (by kernel_rfl) (by simp [e1]) (Calls.mono (HMo.out _) ?_)
          rintro r u2 ⟨rfl, hc2⟩
          exact ⟨_, rfl, rfl, hc2⟩
        · injection ho with ho
          subst ho
          refine .inl ⟨wanted_none rfl, ?_⟩
          have e1 : ac.eval (.tmp 9) = .pointer (some ⟨b9, 0, none⟩) := hf 9 (by kernel_rfl)
          exact wp_load_mid 25 (.tmp 9) rfl _ _ e1 ((Y).toList) _ (rangeA (Ar.chg (w := w8.drew) Z8.out.2.2.2 hc)) Go.Proofs.Ytnahkcapbbjfdaa.u25 rfl (iY) ⟨_, rfl, rfl, Chg.refl _⟩
        · injection ho with ho
          subst ho
          refine .inl ⟨wanted_none rfl, ?_⟩
          have e1 : ac.eval (.tmp 8) = .pointer (some ⟨b8, 0, none⟩) := hf 8 (by kernel_rfl)
          exact wp_load_mid 25 (.tmp 8) rfl _ _ e1 ((X).toList) _ (rangeA (Ar.chg (w := w8.drew) Z8.out.2.2.1 hc)) Go.Proofs.Ytnahkcapbbjfdaa.u25 rfl (iX) ⟨_, rfl, rfl, Chg.refl _⟩
        · injection ho with ho
          subst ho
          refine .inl ⟨wanted_none rfl, ?_⟩
          have e1 : ac.eval (.tmp 28) = .agg Y := hg 2 (by kernel_rfl) (by decide)
          have e2 : ac.eval (.tmp 29) = .agg X := hg 3 (by kernel_rfl) (by decide)
          refine opG_go 46 Try.f46 #[.tmp 28, .tmp 29] #[25, 25] rfl Try.func46 (by kernel_rfl) (by kernel_rfl) (by simp [e1, e2]) (Calls.mono (HM1.out _) ?_)
          rintro r u2 ⟨rfl, hc2⟩
          exact ⟨_, rfl, rfl, hc2⟩
        · injection ho with ho
          subst ho
          refine .inl ⟨wanted_none rfl, ?_⟩
          have e1 : ac.eval (.tmp 27) = .agg M := hg 1 (by kernel_rfl) (by decide)
          have e2 : ac.eval (.tmp 30) = .agg D := hg 4 (by kernel_rfl) (by decide)
          refine opG_go 46 Try.f46 #[.tmp 27, .tmp 30] #[25, 25] rfl Try.func46 (by kernel_rfl) (by kernel_rfl) (by simp [e1, e2]) (Calls.mono (HM2.out _) ?_)
          rintro r u2 ⟨rfl, hc2⟩
          exact ⟨_, rfl, rfl, hc2⟩
      · intro o u V ho hV hc
        injection ho with ho
        subst ho
        refine ⟨rfl, ?_⟩
        have q26 : V 0 = .int .i64 f := hV 0 (by decide)
        have q27 : V 1 = .agg M := hV 1 (by decide)
        have q28 : V 2 = .agg Y := hV 2 (by decide)
        have q29 : V 3 = .agg X := hV 3 (by decide)
        have q30 : V 4 = .agg D := hV 4 (by decide)
        have q31 : V 5 = .agg ANS := hV 5 (by decide)
        have hres := Ar.chg (w := w8.drew) Z8.out.2.1 hc
        refine wp_store_mid 25 (.tmp 6) (.tmp 31) rfl (w.heap.size + 1 + 1) 0 ANS (by rfl) (Eq.trans (by rfl) q31) (by rw [HANS.out, num_size]; rw [HZ.out.1] at hres; exact thereN hres) sR oR ?_
        rw [show u.setCells (w.heap.size + 1 + 1) 0 ANS.toList = u.setRow (w.heap.size + 1 + 1) ANS by rw [HANS.out]; rw [HZ.out.1] at hres; exact setRowN hres _]
        go_wp2_with fail
        refine bp_n (x := md f (a - b)) Try.results13 rfl (by rfl) ?_ ⟨by rw [HANS.out], ?_⟩
        · rw [← HANS.out]
          exact hres.row _
        · exact (Z8.out.1.drew.trans hc).setRow (by omega) _
    · have hd : decide (md f a < md f b) = false := by simp [hlt]
      have HM2 : Hid (∀ u, Calls Try.prog 46 #[.agg X, .agg Y] u fun r w' => r = .returned (.agg ANS) ∧ Chg u w') := fun u => by rw [HXY.out.1, HXY.out.2.1, HANS.out, ← subR_ge HXY.out.2.2 hlt]; exact minusR_any _ _ (md_N f a) (md_N f b) u
      rw [hd]
      clear hlt hd
      obtain ⟨t1, g1⟩ := Z8.out.2.2.1
      obtain ⟨t2, g2⟩ := Z8.out.2.2.2
      go_wp2_with (first | refine wpList_load_row rfl 25 _ rfl _ rfl _ _ _ _ g1 Go.Proofs.Ytnahkcapbbjfdaa.u25 rfl sX ?_ | refine wpList_load_row rfl 25 _ rfl _ rfl _ _ _ _ g2 Go.Proofs.Ytnahkcapbbjfdaa.u25 rfl sY ?_)
      go_at_call 46
      refine (HM2.out _).mono ?_
      rintro r w9 ⟨rfl, hc9⟩
      obtain ⟨t3, g3⟩ := Z8.out.2.1.chg hc9
      go_wp2_with (first | refine wpList_store_row rfl 25 _ _ rfl _ _ rfl rfl _ _ g3 sR lR oR ?_)
      refine bp_n (x := md f (a - b)) Try.results13 rfl rfl ?_ ⟨by rw [HANS.out], ?_⟩
      · rw [← HANS.out]
        exact (Z8.out.2.1.chg hc9).row _
      · exact (Z8.out.1.trans hc9).setRow (by omega) _

set_option maxRecDepth 100000 in
set_option maxHeartbeats 8000000 in
theorem negR_any (f a : Int) (ha : N256 a) (w : World) : Calls Try.prog 17 #[.int .i64 f, .agg (num a)] w fun r w' => r = .returned (.agg (num (md f (0 - a)))) ∧ Chg w w' := by
  have hz := zero25.1
  have hsA := num_size a
  obtain ⟨A, hA⟩ : ∃ A, A = num a := ⟨_, rfl⟩
  obtain ⟨ANS, hANS⟩ : ∃ A, A = num (md f (0 - a)) := ⟨_, rfl⟩
  have HANS : Hid (ANS = num (md f (0 - a))) := hANS
  obtain ⟨Z0, hZ0⟩ : ∃ Z, Z = num 0 := ⟨_, rfl⟩
  have HS : Hid (∀ u, Calls Try.prog 13 #[.int .i64 f, .agg Z0, .agg A] u fun r w' => r = .returned (.agg ANS) ∧ Chg u w') := fun u => by rw [hA, hANS, hZ0]; exact subR_any f 0 a ⟨by decide, by decide⟩ ha u
  have sA := szN a
  have sR := szN (md f (0 - a))
  have lR := lenN 0 (md f (0 - a))
  have oR := num_one (md f (0 - a))
  have iA : (Try.prog.info? 25).map (·.size) = some (num a).toList.length := infoN a
  rw [← hA] at hsA sA iA ⊢
  rw [← hANS] at sR lR oR ⊢
  rw [← hZ0] at hz lR
  have HSz : Hid ((Try.prog.info? 25).map (·.size) = some A.size ∧ (Try.prog.info? 25).map (·.size) = some ANS.size) := ⟨sA, sR⟩
  clear hA hANS hZ0 ha sA sR
  go_enter Try.func17, Try.ntmps17
  go_upto_region 1 with fail
  obtain ⟨w2, hw2⟩ : ∃ w2, w2 = (w.alloc (.cells A 25)).alloc (.cells Z0 25) := ⟨_, rfl⟩
  have Z2 : Hid (Chg w w2 ∧ Ar w2 w.heap.size A ∧ Ar w2 (w.heap.size + 1) Z0) := by
    rw [hw2]
    exact ⟨((Chg.refl w).alloc _).alloc _, (Ar.new w _ _).alloc _, Ar.new1 w _ _ _⟩
  rw [← hw2]
  clear hw2 hsA
  have r1 := rangeA Z2.out.2.1
  go_wp2_with (first | refine wpList_load_mid rfl 25 (.tmp 3) rfl _ _ rfl (A.toList) _ r1 Go.Proofs.Ytnahkcapbbjfdaa.u25 rfl iA ?_)
  go_at_call 13
  refine (HS.out _).mono ?_
  rintro r w3 ⟨rfl, hc3⟩
  obtain ⟨t3, g3⟩ := Z2.out.2.2.chg hc3
  have sR := HSz.out.2
  go_wp2_with (first | refine wpList_store_row rfl 25 _ _ rfl _ _ rfl rfl _ _ g3 sR lR oR ?_)
  refine bp_n (x := md f (0 - a)) Try.results17 rfl rfl ?_ ⟨by rw [HANS.out], ?_⟩
  · rw [← HANS.out]
    exact (Z2.out.2.2.chg hc3).row _
  · exact (Z2.out.1.trans hc3).setRow (by omega) _
end Go.Proofs.Ytnahkcapbbjfdaa
