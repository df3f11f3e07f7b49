/-
  Of no field every rest is 0: what a number leaves, of whatever field; products, rests.
  Sums, differences, opposites, of whatever field.
  Powers and inverses, of whatever field.
-/
import Derived.Test.YtbdgmkejmfjobaaJi
import Derived.Test.YtbdgmkejmfjobaaJg
namespace Go.Proofs.Ytbdgmkejmfjobaa
set_option maxRecDepth 100000
open Go.RowKit
set_option linter.unusedVariables false
def md (f x : Int) : Int := if f = 1 ∨ f = 2 ∨ f = 3 ∨ f = 4 then x % mo f else 0
theorem md_in {f : Int} (hf : f = 1 ∨ f = 2 ∨ f = 3 ∨ f = 4) (x : Int) : md f x = x % mo f := if_pos hf
theorem md_out {f : Int} (hf : ¬ (f = 1 ∨ f = 2 ∨ f = 3 ∨ f = 4)) (x : Int) : md f x = 0 := if_neg hf
theorem mo_out {f : Int} (hf : ¬ (f = 1 ∨ f = 2 ∨ f = 3 ∨ f = 4)) : mo f = 0 := by
 unfold mo
 rw [if_neg (fun h => hf (.inl h)), if_neg (fun h => hf (.inr (.inl h))), if_neg (fun h => hf (.inr (.inr (.inl h)))), if_neg (fun h => hf (.inr (.inr (.inr h))))]
theorem md_N (f x : Int) : N256 (md f x) := by
 by_cases hf : f = 1 ∨ f = 2 ∨ f = 3 ∨ f = 4
 ·rw [md_in hf]; exact N_mod hf x
 ·rw [md_out hf]; exact ⟨by decide, by decide⟩
theorem md_lt {f a : Int} (ha : 0 ≤ a) (h : a < mo f) : a = md f a := by
 by_cases hf : f = 1 ∨ f = 2 ∨ f = 3 ∨ f = 4
 ·rw [md_in hf, Int.emod_eq_of_lt ha h]
 ·rw [mo_out hf] at h; omega
theorem isF_iff (f : Int) : isF f = true ↔ (f = 1 ∨ f = 2 ∨ f = 3 ∨ f = 4) := by
 unfold isF
 simp only [Bool.and_eq_true, decide_eq_true_eq]
 omega
set_option maxHeartbeats 8000000 in
theorem reduceM_any (f x : Int) (hx : N512 x) (w : World) : Calls Try.prog 80 #[.int .i64 f, .agg (wid x)] w fun r w' => r = .returned (.agg (num (md f x))) ∧ Chg w w' := by
 by_cases hf : f = 1 ∨ f = 2 ∨ f = 3 ∨ f = 4
 ·rw [md_in hf]
  exact reduce_any f x hf hx w
 ·rw [md_out hf]
  have e1 : (f == 1) = false := by simp; omega
  have e2 : (f == 2) = false := by simp; omega
  have e3 : (f == 3) = false := by simp; omega
  have e4 : (f == 4) = false := by simp; omega
  have hz := zero25.1
  have hsA := wid_size x
  obtain ⟨A, hA⟩ : ∃ A, A = wid x := ⟨_, rfl⟩
  rw [← hA] at hsA ⊢
  have s1 := szN 0
  have l1 := lenN 0 0
  have o1 := num_one 0
  obtain ⟨Z0, hZ0⟩ : ∃ Z, Z = num 0 := ⟨_, rfl⟩
  have HZ : Hid (Z0 = num 0) := hZ0
  rw [← hZ0] at hz s1 l1 o1 ⊢
  clear hA hf hx hZ0
  go_enter Try.func80, Try.ntmps80
  go_upto_region 1 with fail
  obtain ⟨w2, hw2⟩ : ∃ w2, w2 = (w.alloc (.cells A 86)).alloc (.cells Z0 24) := ⟨_, rfl⟩
  have Z2 : Hid (Chg w w2 ∧ Ar w2 (w.heap.size + 1) Z0) := by
   rw [hw2]
   exact ⟨((Chg.refl w).alloc _).alloc _, Ar.new1 w _ _ _⟩
  rw [← hw2]
  clear hw2 hsA
  obtain ⟨t, g⟩ := Z2.out.2
  go_wp2_with (first | refine wpList_store_row rfl 24 _ _ rfl _ _ rfl rfl _ _ g s1 l1 o1 ?_)
  refine bp_n (x := 0) Try.results80 rfl rfl ?_ ⟨by rw [HZ.out], ?_⟩
  ·rw [← HZ.out]
   exact Z2.out.2.row _
  ·exact Z2.out.1.setRow (by omega) _
set_option maxHeartbeats 8000000 in
theorem mulM_any (f a b : Int) (ha : N256 a) (hb : N256 b) (w : World) : Calls Try.prog 60 #[.int .i64 f, .agg (num a), .agg (num b)] w fun r w' => r = .returned (.agg (num (md f (a * b)))) ∧ Chg w w' := by
 have HN : Hid (N256 a ∧ N256 b) := ⟨ha, hb⟩
 have hz := zero25.1
 have hsA := num_size a
 have hsB := num_size b
 have iA := infoN a
 have iB := infoN b
 obtain ⟨A, hA⟩ : ∃ A, A = num a := ⟨_, rfl⟩
 obtain ⟨B, hB⟩ : ∃ B, B = num b := ⟨_, rfl⟩
 have HA : Hid (A = num a ∧ B = num b) := ⟨hA, hB⟩
 rw [← hA] at hsA iA ⊢
 rw [← hB] at hsB iB ⊢
 clear hA hB ha hb
 go_enter Try.func60, Try.ntmps60
 go_upto_region 1 with fail
 obtain ⟨w1, hw1⟩ : ∃ w1, w1 = ((w.alloc (.cells A 24)).alloc (.cells B 24)).alloc (.cells (num 0) 24) := ⟨_, rfl⟩
 have Z : Hid (Chg w w1 ∧ Ar w1 w.heap.size A ∧ Ar w1 (w.heap.size + 1) B ∧ Ar w1 (w.heap.size + 1 + 1) (num 0)) := by
  rw [hw1]
  exact ⟨(((Chg.refl w).alloc _).alloc _).alloc _, ((Ar.new w _ _).alloc _).alloc _, (Ar.new1 w _ _ _).alloc _, Ar.new2 w _ _ _ _⟩
 rw [← hw1]
 clear hw1 hsA hsB hz
 have r1 := rangeA Z.out.2.1
 have r2 := rangeA Z.out.2.2.1
 go_wp2_with (first
  | refine wpList_load_mid rfl 24 (.tmp 4) rfl _ _ rfl (A.toList) _ r1 u25 rfl iA ?_
  | refine wpList_load_mid rfl 24 (.tmp 5) rfl _ _ rfl (B.toList) _ r2 u25 rfl iB ?_)
 go_at_call 81
 have k := fun W => product_num a b HN.out.1 HN.out.2 W
 rw [← HA.out.1, ← HA.out.2] at k
 refine (k _).mono ?_
 rintro r w2 ⟨hr, hc2⟩
 have Z2 : Hid (Chg w w2 ∧ Ar w2 (w.heap.size + 1 + 1) (num 0)) := ⟨Z.out.1.trans hc2, Z.out.2.2.2.chg hc2⟩
 have k2 := fun W => reduceM_any f (a * b) (mul_N512 HN.out.1 HN.out.2) W
 obtain ⟨C, hC⟩ : ∃ C, C = wid (a * b) := ⟨_, rfl⟩
 rw [← hC] at hr k2
 subst hr
 obtain ⟨M, hM⟩ : ∃ M, M = num (md f (a * b)) := ⟨_, rfl⟩
 have HM : Hid (M = num (md f (a * b))) := hM
 rw [← hM] at k2
 have HK : Hid (∀ W, Calls Try.prog 80 #[.int .i64 f, .agg C] W fun r w' => r = .returned (.agg M) ∧ Chg W w') := k2
 have s1 : (Try.prog.info? 24).map (·.size) = some M.size := by rw [hM]; exact szN _
 have l1 : (num 0).size = M.size := by rw [hM]; exact lenN _ _
 have o1 : M.all (·.oneCell') = true := by rw [hM]; exact num_one _
 clear hc2 hC hM k k2 r1 r2 Z
 go_wp2_with fail
 go_at_call 80
 refine (HK.out _).mono ?_
 rintro r w3 ⟨rfl, hc3⟩
 have Z3 : Hid (Chg w w3 ∧ Ar w3 (w.heap.size + 1 + 1) (num 0)) := ⟨Z2.out.1.trans hc3, Z2.out.2.chg hc3⟩
 obtain ⟨t, g⟩ := Z3.out.2
 clear hc3
 go_wp2_with (first | refine wpList_store_row rfl 24 _ _ rfl _ _ rfl rfl _ _ g s1 l1 o1 ?_)
 rw [HM.out]
 refine bp_n (x := md f (a * b)) Try.results60 rfl rfl ?_ ⟨rfl, Z3.out.1.setRow (by omega) _⟩
 exact Z3.out.2.row _
set_option maxHeartbeats 8000000 in
theorem restM_any (f a : Int) (ha : N256 a) (w : World) : Calls Try.prog 86 #[.int .i64 f, .agg (num a)] w fun r w' => r = .returned (.agg (num (md f a))) ∧ Chg w w' := by
 have HN : Hid (N256 a) := ha
 have hz := zero25.1
 have hsA := num_size a
 have iA := infoN a
 have s2 := szN a
 have l2 := lenN 0 a
 have o2 := num_one a
 have k1 := fun W => right_any f a ha W
 have k3 := fun W => join_num a 0 ha ⟨by decide, by decide⟩ W
 have k4 := fun W => reduceM_any f (a + R256 * 0) (by rw [Int.mul_zero, Int.add_zero]; exact N512_of ha) W
 rw [Int.mul_zero, Int.add_zero] at k3 k4
 obtain ⟨A, hA⟩ : ∃ A, A = num a := ⟨_, rfl⟩
 obtain ⟨C, hC⟩ : ∃ C, C = wid a := ⟨_, rfl⟩
 obtain ⟨M, hM⟩ : ∃ M, M = num (md f a) := ⟨_, rfl⟩
 have HA : Hid (A = num a ∧ M = num (md f a)) := ⟨hA, hM⟩
 rw [← hA] at hsA iA k1 k3 s2 l2 o2 ⊢
 rw [← hC] at k3 k4
 rw [← hM] at k4
 have s1 : (Try.prog.info? 24).map (·.size) = some M.size := by rw [hM]; exact szN _
 have l1 : (num 0).size = M.size := by rw [hM]; exact lenN _ _
 have o1 : M.all (·.oneCell') = true := by rw [hM]; exact num_one _
 have HK : Hid ((∀ W, Calls Try.prog 33 #[.int .i64 f, .agg A] W fun r w' => r = .returned (.bool (decide (a < mo f))) ∧ Chg W w') ∧ (∀ W, Calls Try.prog 96 #[.agg A, .agg (num 0)] W fun r w' => r = .returned (.agg C) ∧ Chg W w') ∧ (∀ W, Calls Try.prog 80 #[.int .i64 f, .agg C] W fun r w' => r = .returned (.agg M) ∧ Chg W w')) := ⟨k1, k3, k4⟩
 clear hA ha hC hM k1 k3 k4
 go_enter Try.func86, Try.ntmps86
 go_upto_region 1 with fail
 obtain ⟨w1, hw1⟩ : ∃ w1, w1 = (w.alloc (.cells A 24)).alloc (.cells (num 0) 24) := ⟨_, rfl⟩
 have Z : Hid (Chg w w1 ∧ Ar w1 w.heap.size A ∧ Ar w1 (w.heap.size + 1) (num 0)) := by
  rw [hw1]
  exact ⟨((Chg.refl w).alloc _).alloc _, (Ar.new w _ _).alloc _, Ar.new1 w _ _ _⟩
 rw [← hw1]
 clear hw1 hsA
 have r1 := rangeA Z.out.2.1
 go_wp2_with (first
  | refine wpList_load_mid rfl 24 (.tmp 3) rfl _ _ rfl (A.toList) _ r1 u25 rfl iA ?_)
 go_at_call 33
 refine (HK.out.1 _).mono ?_
 rintro r w2 ⟨rfl, hc2⟩
 have Z2 : Hid (Chg w w2 ∧ Ar w2 w.heap.size A ∧ Ar w2 (w.heap.size + 1) (num 0)) := ⟨Z.out.1.trans hc2, Z.out.2.1.chg hc2, Z.out.2.2.chg hc2⟩
 clear hc2 r1 Z
 have r2 := rangeA Z2.out.2.1
 by_cases hlt : a < mo f
 ·have hd : decide (a < mo f) = true := by simp [hlt]
  have HL : Hid (a < mo f) := hlt
  clear hlt
  obtain ⟨t, g⟩ := Z2.out.2.2
  go_wp2_with (first
   | refine wpList_load_mid rfl 24 (.tmp 3) rfl _ _ rfl (A.toList) _ r2 u25 rfl iA ?_
   | refine wpList_store_row rfl 24 _ _ rfl _ _ rfl rfl _ _ g s2 l2 o2 ?_)
  have e : a = md f a := md_lt HN.out.1 HL.out
  have eA : A = num (md f a) := by rw [← e]; exact HA.out.1
  refine bp_n (x := md f a) Try.results86 rfl rfl ?_ ⟨rfl, Z2.out.1.setRow (by omega) _⟩
  rw [← eA]
  exact Z2.out.2.2.row _
 ·have hd : decide (a < mo f) = false := by simp; omega
  clear hlt
  go_wp2_with (first
   | refine wpList_load_mid rfl 24 (.tmp 3) rfl _ _ rfl (A.toList) _ r2 u25 rfl iA ?_)
  go_at_call 96
  refine (HK.out.2.1 _).mono ?_
  rintro r w3 ⟨rfl, hc3⟩
  have Z3 : Hid (Chg w w3 ∧ Ar w3 (w.heap.size + 1) (num 0)) := ⟨Z2.out.1.trans hc3, Z2.out.2.2.chg hc3⟩
  clear hc3 r2 Z2
  go_wp2_with fail
  go_at_call 80
  refine (HK.out.2.2 _).mono ?_
  rintro r w4 ⟨rfl, hc4⟩
  have Z4 : Hid (Chg w w4 ∧ Ar w4 (w.heap.size + 1) (num 0)) := ⟨Z3.out.1.trans hc4, Z3.out.2.chg hc4⟩
  obtain ⟨t, g⟩ := Z4.out.2
  clear hc4 Z3
  go_wp2_with (first | refine wpList_store_row rfl 24 _ _ rfl _ _ rfl rfl _ _ g s1 l1 o1 ?_)
  rw [HA.out.2]
  refine bp_n (x := md f a) Try.results86 rfl rfl ?_ ⟨rfl, Z4.out.1.setRow (by omega) _⟩
  exact Z4.out.2.row _
end Go.Proofs.Ytbdgmkejmfjobaa

namespace Go.Proofs.Ytbdgmkejmfjobaa
set_option maxRecDepth 100000
open Go.RowKit
set_option linter.unusedVariables false
theorem addM_lt {f a b L o : Int} (hL : L = (md f a + md f b) % R256) (ho : o = (md f a + md f b) / R256) (h0 : o = 0) (hl : L < mo f) : L = md f (a + b) := by
 by_cases hf : f = 1 ∨ f = 2 ∨ f = 3 ∨ f = 4
 ·rw [md_in hf, md_in hf] at hL ho
  rw [md_in hf]
  exact add_lt hf hL ho h0 hl
 ·rw [md_out hf, md_out hf] at hL
  rw [mo_out hf] at hl
  have : L = 0 := hL
  omega
theorem addM_ge {f a b L o v : Int} (hL : L = (md f a + md f b) % R256) (ho : o = (md f a + md f b) / R256) (hg : ¬ (o = 0 ∧ L < mo f)) (hv : v = (L - mo f) % R256) : v = md f (a + b) := by
 by_cases hf : f = 1 ∨ f = 2 ∨ f = 3 ∨ f = 4
 ·rw [md_in hf, md_in hf] at hL ho
  rw [md_in hf]
  exact add_ge hf hL ho hg hv
 ·rw [md_out hf, md_out hf] at hL
  rw [mo_out hf, show L = 0 from hL] at hv
  rw [md_out hf]
  exact hv
theorem subM_lt {f a b L o : Int} (hL : L = (md f a - md f b) % R256) (ho : o = bor (md f a) (md f b)) (h0 : ¬ o = 1) : L = md f (a - b) := by
 by_cases hf : f = 1 ∨ f = 2 ∨ f = 3 ∨ f = 4
 ·rw [md_in hf, md_in hf] at hL ho
  rw [md_in hf]
  exact sub_lt hf hL ho h0
 ·rw [md_out hf, md_out hf] at hL
  rw [md_out hf]
  exact hL
theorem subM_ge {f a b L o v : Int} (hL : L = (md f a - md f b) % R256) (ho : o = bor (md f a) (md f b)) (hg : o = 1) (hv : v = (L + mo f) % R256) : v = md f (a - b) := by
 by_cases hf : f = 1 ∨ f = 2 ∨ f = 3 ∨ f = 4
 ·rw [md_in hf, md_in hf] at hL ho
  rw [md_in hf]
  exact sub_ge hf hL ho hg hv
 ·rw [md_out hf, md_out hf] at ho
  rw [hg] at ho
  exact absurd ho (by decide)
set_option maxHeartbeats 8000000 in
theorem addM_any (f a b : Int) (ha : N256 a) (hb : N256 b) (w : World) : Calls Try.prog 70 #[.int .i64 f, .agg (num a), .agg (num b)] w fun r w' => r = .returned (.agg (num (md f (a + b)))) ∧ Chg w w' := by
 have HN : Hid (N256 a ∧ N256 b) := ⟨ha, hb⟩
 have hz := zero25.1
 have hsA := num_size a
 have hsB := num_size b
 obtain ⟨A, hA⟩ : ∃ A, A = num a := ⟨_, rfl⟩
 obtain ⟨B, hB⟩ : ∃ B, B = num b := ⟨_, rfl⟩
 have HA : Hid (A = num a ∧ B = num b) := ⟨hA, hB⟩
 rw [← hA] at hsA ⊢
 rw [← hB] at hsB ⊢
 obtain ⟨L, hL⟩ : ∃ L, L = (md f a + md f b) % R256 := ⟨_, rfl⟩
 obtain ⟨o, hoo⟩ : ∃ o, o = (md f a + md f b) / R256 := ⟨_, rfl⟩
 have HL : Hid (L = (md f a + md f b) % R256 ∧ o = (md f a + md f b) / R256) := ⟨hL, hoo⟩
 have HLN : Hid (N256 L) := by
  show N256 L
  rw [hL]
  exact N256_mod _
 clear hA hB ha hb hL hoo
 go_enter Try.func70, Try.ntmps70
 go_upto_region 1 with fail
 obtain ⟨w1, hw1⟩ : ∃ w1, w1 = ((w.alloc (.cells A 24)).alloc (.cells B 24)).alloc (.cells (num 0) 24) := ⟨_, rfl⟩
 have Z1 : Hid (Chg w w1 ∧ Ar w1 w.heap.size (num a) ∧ Ar w1 (w.heap.size + 1) (num b) ∧ Ar w1 (w.heap.size + 1 + 1) (num 0)) := by
  rw [hw1, HA.out.1, HA.out.2]
  exact ⟨(((Chg.refl w).alloc _).alloc _).alloc _, ((Ar.new w _ _).alloc _).alloc _, (Ar.new1 w _ _ _).alloc _, Ar.new2 w _ _ _ _⟩
 rw [← hw1]
 clear hw1 hsA hsB hz
 go_cut [7, 8] from 7 to 18 (fun v6 v7 wc => ∃ b, v6 = .pointer (some ⟨b, 0, none⟩) ∧ v7 = .int .u64 o ∧ w1.heap.size ≤ b ∧ Ar wc b (num L) ∧ Chg w1 wc)
 case first =>
  refine wp_region_store 11 (fun j v fl wg => match j with
   | 0 => v = .int .i64 f
   | 1 => v = .agg (num a)
   | 2 => v = .agg (num (md f a))
   | 3 => v = .int .i64 f
   | 4 => v = .agg (num b)
   | 5 => v = .agg (num (md f b))
   | 6 => v = .tuple #[.agg (num L), .int .u64 o]
   | 7 => v = .tuple #[.agg (num L), .int .u64 o]
   | 8 => v = .agg (num L)
   | 9 => v = .int .u64 o
   | 10 => ∃ b, v = .pointer (some ⟨b, 0, none⟩) ∧ w1.heap.size ≤ b ∧ (fl = true → Ar wg b (num L)) ∧ (fl = false → Ar wg b (num 0))
   | 12 => v = .int .u64 o
   | _ => True) (fun _ u => Chg w1.drew u) (by kernel_rfl) (by decide) (by kernel_rfl) (by kernel_rfl) (by kernel_rfl) ?_ ?_ ?_ ?_ ?_ ?_
  ·intro j v fl u1 u2 h hc
   match j, h with
   | 0, h => exact h
   | 1, h => exact h
   | 2, h => exact h
   | 3, h => exact h
   | 4, h => exact h
   | 5, h => exact h
   | 6, h => exact h
   | 7, h => exact h
   | 8, h => exact h
   | 9, h => exact h
   | 10, h => (obtain ⟨b, h1, h2, h3, h4⟩ := h; exact ⟨b, h1, h2, fun e => (h3 e).chg hc, fun e => (h4 e).chg hc⟩)
   | 11, h => exact trivial
   | 12, h => exact h
   | _ + 13, h => exact trivial
  ·intro fl u u' h k
   exact h.trans k
  ·intro i o' ac u fl hi his ho hfl hf hg hc
   have hi' : i < 13 := hi
   have hcs : i = 0 ∨ i = 1 ∨ i = 2 ∨ i = 3 ∨ i = 4 ∨ i = 5 ∨ i = 6 ∨ i = 7 ∨ i = 8 ∨ i = 9 ∨ i = 10 ∨ i = 12 := by omega
   rcases hcs with rfl | rfl | rfl | rfl | rfl | rfl | rfl | rfl | rfl | rfl | rfl | rfl
   ·injection ho with ho
    subst ho
    have e1 : ac.eval (.tmp 0) = .int .i64 f := hf 0 (by kernel_rfl)
    exact opG_val (by simp [execOp, e1]) rfl (Chg.refl _)
   ·injection ho with ho
    subst ho
    have e1 : ac.eval (.tmp 4) = .pointer (some ⟨w.heap.size, 0, none⟩) := hf 4 (by kernel_rfl)
    exact wp_load_mid 24 (.tmp 4) rfl _ _ e1 ((num a).toList) _ (rangeN (Ar.chg (w := w1.drew) Z1.out.2.1.drew hc)) u25 rfl (infoN _) ⟨_, rfl, rfl, Chg.refl _⟩
   ·injection ho with ho
    subst ho
    have e1 : ac.eval (.tmp 10) = .int .i64 f := hg 0 (by kernel_rfl) (by decide) (by decide)
    have e2 : ac.eval (.tmp 11) = .agg (num a) := hg 1 (by kernel_rfl) (by decide) (by decide)
    refine opG_go 86 Try.f86 #[.tmp 10, .tmp 11] #[35, 24] rfl Try.func86 (by kernel_rfl) (by kernel_rfl) (by simp [e1, e2]) (Calls.mono (restM_any f a HN.out.1 _) ?_)
    rintro e u2 ⟨rfl, hc2⟩
    exact ⟨_, rfl, rfl, hc2⟩
   ·injection ho with ho
    subst ho
    have e1 : ac.eval (.tmp 0) = .int .i64 f := hf 0 (by kernel_rfl)
    exact opG_val (by simp [execOp, e1]) rfl (Chg.refl _)
   ·injection ho with ho
    subst ho
    have e1 : ac.eval (.tmp 5) = .pointer (some ⟨w.heap.size + 1, 0, none⟩) := hf 5 (by kernel_rfl)
    exact wp_load_mid 24 (.tmp 5) rfl _ _ e1 ((num b).toList) _ (rangeN (Ar.chg (w := w1.drew) Z1.out.2.2.1.drew hc)) u25 rfl (infoN _) ⟨_, rfl, rfl, Chg.refl _⟩
   ·injection ho with ho
    subst ho
    have e1 : ac.eval (.tmp 13) = .int .i64 f := hg 3 (by kernel_rfl) (by decide) (by decide)
    have e2 : ac.eval (.tmp 14) = .agg (num b) := hg 4 (by kernel_rfl) (by decide) (by decide)
    refine opG_go 86 Try.f86 #[.tmp 13, .tmp 14] #[35, 24] rfl Try.func86 (by kernel_rfl) (by kernel_rfl) (by simp [e1, e2]) (Calls.mono (restM_any f b HN.out.2 _) ?_)
    rintro e u2 ⟨rfl, hc2⟩
    exact ⟨_, rfl, rfl, hc2⟩
   ·injection ho with ho
    subst ho
    have e1 : ac.eval (.tmp 12) = .agg (num (md f a)) := hg 2 (by kernel_rfl) (by decide) (by decide)
    have e2 : ac.eval (.tmp 15) = .agg (num (md f b)) := hg 5 (by kernel_rfl) (by decide) (by decide)
    refine opG_go 85 Try.f85 #[.tmp 12, .tmp 15] #[24, 24] rfl Try.func85 (by kernel_rfl) (by kernel_rfl) (by simp [e1, e2]) (Calls.mono (plus_num _ _ (md_N f a) (md_N f b) _) ?_)
    rintro e u2 ⟨rfl, hc2⟩
    exact ⟨_, rfl, by show Value.tuple _ = Value.tuple _; rw [HL.out.1, HL.out.2], hc2⟩
   ·injection ho with ho
    subst ho
    have e1 : ac.eval (.tmp 16) = .tuple #[.agg (num L), .int .u64 o] := hg 6 (by kernel_rfl) (by decide) (by decide)
    exact opG_val (by simp [execOp, e1]) rfl (Chg.refl _)
   ·injection ho with ho
    subst ho
    have e1 : ac.eval (.tmp 9) = .tuple #[.agg (num L), .int .u64 o] := hg 7 (by kernel_rfl) (by decide) (by decide)
    exact opG_val (by revert e1; generalize ac.eval = ρ; intro e1; simp [go_sem, execOp, e1]) rfl (Chg.refl _)
   ·injection ho with ho
    subst ho
    have e1 : ac.eval (.tmp 9) = .tuple #[.agg (num L), .int .u64 o] := hg 7 (by kernel_rfl) (by decide) (by decide)
    exact opG_val (by revert e1; generalize ac.eval = ρ; intro e1; simp [go_sem, execOp, e1]) rfl (Chg.refl _)
   ·injection ho with ho
    subst ho
    refine opG_val (v := .pointer (some ⟨u.heap.size, 0, none⟩)) (w' := u.alloc (.cells (num 0) 24)) (by simp [go_sem, execOp, zero25.1]) ⟨_, rfl, hc.size, ?_, ?_⟩ ((Chg.refl _).alloc _)
    ·intro e
     rw [hfl (by kernel_rfl)] at e
     cases e
    ·intro _; exact Ar.new _ _ _
   ·injection ho with ho
    subst ho
    have e1 : ac.eval (.tmp 18) = .int .u64 o := hg 9 (by kernel_rfl) (by decide) (by decide)
    exact opG_val (by simp [execOp, e1]) rfl (Chg.refl _)
  ·intro o' ac u ho hf hg hc
   injection ho with ho
   subst ho
   obtain ⟨b, e1, h1, h2, h3⟩ := hg 10 (by kernel_rfl) (by decide) (by decide)
   have e2 : ac.eval (.tmp 17) = .agg (num L) := hg 8 (by kernel_rfl) (by decide) (by decide)
   refine wp_store_mid 24 (.tmp 7) (.tmp 17) rfl b 0 (num L) e1 e2 (by rw [num_size]; exact thereN (h3 rfl)) (szN _) (num_one _) ⟨rfl, ?_, ?_⟩
   ·rw [setRowN (h3 rfl)]
    exact Chg.setRow hc h1 _
   ·intro j hj hjs h
    rw [setRowN (h3 rfl)]
    have hj' : j < 13 := hj
    have hcs : j = 0 ∨ j = 1 ∨ j = 2 ∨ j = 3 ∨ j = 4 ∨ j = 5 ∨ j = 6 ∨ j = 7 ∨ j = 8 ∨ j = 9 ∨ j = 10 ∨ j = 12 := by omega
    rcases hcs with rfl | rfl | rfl | rfl | rfl | rfl | rfl | rfl | rfl | rfl | rfl | rfl
    ·exact h
    ·exact h
    ·exact h
    ·exact h
    ·exact h
    ·exact h
    ·exact h
    ·exact h
    ·exact h
    ·exact h
    ·exact ⟨b, e1, h1, fun _ => (h3 rfl).row _, fun e => nomatch e⟩
    ·exact h
  ·exact Chg.refl _
  ·intro u V hV hB
   obtain ⟨b, q6, h1, h2, h3⟩ := hV 10 (by decide) (by decide)
   have q7 : V 12 = .int .u64 o := hV 12 (by decide) (by decide)
   have q8 : Hid (w1.heap.size ≤ b ∧ Ar u b (num L) ∧ Chg w1 u) := ⟨h1, h2 rfl, (Chg.refl w1).drew.trans hB⟩
   clear h1 h2 h3 hV hB
   go_wp2_with fail
   go_meet
   exact ⟨b, q6, q7, q8.out⟩
 obtain ⟨p, rfl, rfl, hb, hap, hc⟩ := hcut
 obtain ⟨w2, hw2⟩ : ∃ w2, w2 = wc := ⟨_, rfl⟩
 subst hw2
 have Z2 : Hid (Chg w w2 ∧ Ar w2 (w.heap.size + 1 + 1) (num 0) ∧ Ar w2 p (num L) ∧ w.heap.size + 1 + 1 < p) := by
  obtain ⟨q0, q1, q2, q3⟩ := Z1.out
  have := q3.lt
  exact ⟨q0.trans hc, q3.chg hc, hap, by omega⟩
 clear hb hap hc Z1
 obtain ⟨x0, x1, x2, x3⟩ := Ar.four (d := dg B64 L) Z2.out.2.2.1
 go_upto_region 2 with fail
 go_cut [25] from 19 to 25 (fun v wc => v = .bool (decide (o = 0 ∧ L < mo f)) ∧ Chg w2 wc)
 case first =>
  by_cases h0 : o = 0
  ·subst h0
   go_wp2_with fail
   go_at_call 33
   refine (right_any f L HLN.out _).mono ?_
   rintro r w3 ⟨rfl, hc3⟩
   have HC3 : Hid (Chg w2 w3) := hc3
   clear hc3
   go_wp2_with fail
   go_meet
   exact ⟨by simp, HC3.out⟩
  ·have hd : (o == 0) = false := by simpa using h0
   go_wp2_with fail
   go_meet
   exact ⟨by simp [h0], Chg.refl _⟩
 obtain ⟨rfl, hcc⟩ := hcut
 obtain ⟨w3, hw3⟩ : ∃ w3, w3 = wc := ⟨_, rfl⟩
 subst hw3
 have Z : Hid (Chg w w3 ∧ Ar w3 (w.heap.size + 1 + 1) (num 0) ∧ Ar w3 p (num L) ∧ w.heap.size + 1 + 1 < p) := by
  obtain ⟨q0, q1, q2, q3⟩ := Z2.out
  exact ⟨q0.trans hcc, q1.chg hcc, q2.chg hcc, q3⟩
 clear x0 x1 x2 x3 Z2 hcc
 obtain ⟨x0, x1, x2, x3⟩ := Ar.four (d := dg B64 L) Z.out.2.2.1
 by_cases hs : o = 0 ∧ L < mo f
 ·have HS : Hid (o = 0 ∧ L < mo f) := hs
  have hd : decide (o = 0 ∧ L < mo f) = true := by simp [hs]
  obtain ⟨s0, s1, s2, s3⟩ := Ar.four (d := dg B64 0) Z.out.2.1
  obtain ⟨t0, t1, t2, t3⟩ := Z.out.2.1.free4
  rw [hd]
  clear hs hd
  go_wp2
  have hn := Z.out.2.2.2
  have e : L = md f (a + b) := addM_lt HL.out.1 HL.out.2 HS.out.1 HS.out.2
  refine bp_n (x := L) Try.results70 rfl rfl ?_ ⟨by rw [e], ?_⟩
  ·exact Z.out.2.1.nput L
  ·exact Z.out.1.nput (by omega) L
 ·have HG : Hid (¬ (o = 0 ∧ L < mo f)) := hs
  have hd : decide (o = 0 ∧ L < mo f) = false := by simp; simpa using hs
  rw [hd]
  clear hs hd
  go_wp2_with fail
  obtain ⟨v, hv⟩ : ∃ v, v = (L - mo f) % R256 := ⟨_, rfl⟩
  obtain ⟨c, hcv⟩ : ∃ c, c = bor L (mo f) := ⟨_, rfl⟩
  have k := fun W => minus_num L (mo f) HLN.out (mo_N f) W
  rw [← hv, ← hcv, num4 v] at k
  have HK : Hid (∀ W, Calls Try.prog 72 #[.agg (num L), .agg (num (mo f))] W fun r w' => r = .returned (.tuple #[.agg #[.int .u64 (dg B64 v 0), .int .u64 (dg B64 v 1), .int .u64 (dg B64 v 2), .int .u64 (dg B64 v 3)], .int .u64 c]) ∧ Chg W w') := k
  have Hv : Hid (v = (L - mo f) % R256) := hv
  clear k hv hcv
  go_region_with (first
   | (go_at_call 59; refine (modulus_any f _).mono ?_; rintro r w6 ⟨rfl, hc6⟩; obtain ⟨z0, z1, z2, z3⟩ := Ar.four (d := dg B64 L) (Z.out.2.2.1.drew.chg hc6); have HC6 : Hid (Chg w3.drew w6) := hc6; clear hc6)
   | (go_at_call 72; refine (HK.out _).mono ?_; rintro r w7 ⟨rfl, hc7⟩; have HC7 : Hid (Chg w3.drew w7) := HC6.out.trans hc7; clear hc7; obtain ⟨y0, y1, y2, y3⟩ := Ar.four (d := dg B64 L) (Z.out.2.2.1.drew.chg HC7.out); obtain ⟨g0, g1, g2, g3⟩ := (Z.out.2.2.1.drew.chg HC7.out).free4))
  all_goals
   obtain ⟨s0, s1, s2, s3⟩ := Ar.four (d := dg B64 0) (Z.out.2.1.drew.chg HC7.out)
   obtain ⟨t0, t1, t2, t3⟩ := (Z.out.2.1.drew.chg HC7.out).free4
   have hne : ¬ p = w.heap.size + 1 + 1 := fun h => by
    have := Z.out.2.2.2
    omega
   have hne' : ¬ w.heap.size + 1 + 1 = p := fun h => by
    have := Z.out.2.2.2
    omega
   go_wp2
   have hn := Z.out.2.2.2
   have e : v = md f (a + b) := addM_ge HL.out.1 HL.out.2 HG.out Hv.out
   refine bp_n (x := v) Try.results70 rfl rfl ?_ ⟨by rw [e], ?_⟩
   ·exact ((Z.out.2.1.drew.chg HC7.out).nput_other hne' v).nput v
   ·exact ((Z.out.1.drew.trans HC7.out).nput (by omega) v).nput (by omega) v
set_option maxHeartbeats 8000000 in
theorem subM_any (f a b : Int) (ha : N256 a) (hb : N256 b) (w : World) : Calls Try.prog 71 #[.int .i64 f, .agg (num a), .agg (num b)] w fun r w' => r = .returned (.agg (num (md f (a - b)))) ∧ Chg w w' := by
 have HN : Hid (N256 a ∧ N256 b) := ⟨ha, hb⟩
 have hz := zero25.1
 have hsA := num_size a
 have hsB := num_size b
 obtain ⟨A, hA⟩ : ∃ A, A = num a := ⟨_, rfl⟩
 obtain ⟨B, hB⟩ : ∃ B, B = num b := ⟨_, rfl⟩
 have HA : Hid (A = num a ∧ B = num b) := ⟨hA, hB⟩
 rw [← hA] at hsA ⊢
 rw [← hB] at hsB ⊢
 obtain ⟨L, hL⟩ : ∃ L, L = (md f a - md f b) % R256 := ⟨_, rfl⟩
 obtain ⟨o, hoo⟩ : ∃ o, o = bor (md f a) (md f b) := ⟨_, rfl⟩
 have HL : Hid (L = (md f a - md f b) % R256 ∧ o = bor (md f a) (md f b)) := ⟨hL, hoo⟩
 have HLN : Hid (N256 L) := by
  show N256 L
  rw [hL]
  exact N256_mod _
 clear hA hB ha hb hL hoo
 go_enter Try.func71, Try.ntmps71
 go_upto_region 1 with fail
 obtain ⟨w1, hw1⟩ : ∃ w1, w1 = ((w.alloc (.cells A 24)).alloc (.cells B 24)).alloc (.cells (num 0) 24) := ⟨_, rfl⟩
 have Z1 : Hid (Chg w w1 ∧ Ar w1 w.heap.size (num a) ∧ Ar w1 (w.heap.size + 1) (num b) ∧ Ar w1 (w.heap.size + 1 + 1) (num 0)) := by
  rw [hw1, HA.out.1, HA.out.2]
  exact ⟨(((Chg.refl w).alloc _).alloc _).alloc _, ((Ar.new w _ _).alloc _).alloc _, (Ar.new1 w _ _ _).alloc _, Ar.new2 w _ _ _ _⟩
 rw [← hw1]
 clear hw1 hsA hsB hz
 go_cut [7, 8] from 7 to 18 (fun v6 v7 wc => ∃ b, v6 = .pointer (some ⟨b, 0, none⟩) ∧ v7 = .int .u64 o ∧ w1.heap.size ≤ b ∧ Ar wc b (num L) ∧ Chg w1 wc)
 case first =>
  refine wp_region_store 11 (fun j v fl wg => match j with
   | 0 => v = .int .i64 f
   | 1 => v = .agg (num a)
   | 2 => v = .agg (num (md f a))
   | 3 => v = .int .i64 f
   | 4 => v = .agg (num b)
   | 5 => v = .agg (num (md f b))
   | 6 => v = .tuple #[.agg (num L), .int .u64 o]
   | 7 => v = .tuple #[.agg (num L), .int .u64 o]
   | 8 => v = .agg (num L)
   | 9 => v = .int .u64 o
   | 10 => ∃ b, v = .pointer (some ⟨b, 0, none⟩) ∧ w1.heap.size ≤ b ∧ (fl = true → Ar wg b (num L)) ∧ (fl = false → Ar wg b (num 0))
   | 12 => v = .int .u64 o
   | _ => True) (fun _ u => Chg w1.drew u) (by kernel_rfl) (by decide) (by kernel_rfl) (by kernel_rfl) (by kernel_rfl) ?_ ?_ ?_ ?_ ?_ ?_
  ·intro j v fl u1 u2 h hc
   match j, h with
   | 0, h => exact h
   | 1, h => exact h
   | 2, h => exact h
   | 3, h => exact h
   | 4, h => exact h
   | 5, h => exact h
   | 6, h => exact h
   | 7, h => exact h
   | 8, h => exact h
   | 9, h => exact h
   | 10, h => (obtain ⟨b, h1, h2, h3, h4⟩ := h; exact ⟨b, h1, h2, fun e => (h3 e).chg hc, fun e => (h4 e).chg hc⟩)
   | 11, h => exact trivial
   | 12, h => exact h
   | _ + 13, h => exact trivial
  ·intro fl u u' h k
   exact h.trans k
  ·intro i o' ac u fl hi his ho hfl hf hg hc
   have hi' : i < 13 := hi
   have hcs : i = 0 ∨ i = 1 ∨ i = 2 ∨ i = 3 ∨ i = 4 ∨ i = 5 ∨ i = 6 ∨ i = 7 ∨ i = 8 ∨ i = 9 ∨ i = 10 ∨ i = 12 := by omega
   rcases hcs with rfl | rfl | rfl | rfl | rfl | rfl | rfl | rfl | rfl | rfl | rfl | rfl
   ·injection ho with ho
    subst ho
    have e1 : ac.eval (.tmp 0) = .int .i64 f := hf 0 (by kernel_rfl)
    exact opG_val (by simp [execOp, e1]) rfl (Chg.refl _)
   ·injection ho with ho
    subst ho
    have e1 : ac.eval (.tmp 4) = .pointer (some ⟨w.heap.size, 0, none⟩) := hf 4 (by kernel_rfl)
    exact wp_load_mid 24 (.tmp 4) rfl _ _ e1 ((num a).toList) _ (rangeN (Ar.chg (w := w1.drew) Z1.out.2.1.drew hc)) u25 rfl (infoN _) ⟨_, rfl, rfl, Chg.refl _⟩
   ·injection ho with ho
    subst ho
    have e1 : ac.eval (.tmp 10) = .int .i64 f := hg 0 (by kernel_rfl) (by decide) (by decide)
    have e2 : ac.eval (.tmp 11) = .agg (num a) := hg 1 (by kernel_rfl) (by decide) (by decide)
    refine opG_go 86 Try.f86 #[.tmp 10, .tmp 11] #[35, 24] rfl Try.func86 (by kernel_rfl) (by kernel_rfl) (by simp [e1, e2]) (Calls.mono (restM_any f a HN.out.1 _) ?_)
    rintro e u2 ⟨rfl, hc2⟩
    exact ⟨_, rfl, rfl, hc2⟩
   ·injection ho with ho
    subst ho
    have e1 : ac.eval (.tmp 0) = .int .i64 f := hf 0 (by kernel_rfl)
    exact opG_val (by simp [execOp, e1]) rfl (Chg.refl _)
   ·injection ho with ho
    subst ho
    have e1 : ac.eval (.tmp 5) = .pointer (some ⟨w.heap.size + 1, 0, none⟩) := hf 5 (by kernel_rfl)
    exact wp_load_mid 24 (.tmp 5) rfl _ _ e1 ((num b).toList) _ (rangeN (Ar.chg (w := w1.drew) Z1.out.2.2.1.drew hc)) u25 rfl (infoN _) ⟨_, rfl, rfl, Chg.refl _⟩
   ·injection ho with ho
    subst ho
    have e1 : ac.eval (.tmp 13) = .int .i64 f := hg 3 (by kernel_rfl) (by decide) (by decide)
    have e2 : ac.eval (.tmp 14) = .agg (num b) := hg 4 (by kernel_rfl) (by decide) (by decide)
    refine opG_go 86 Try.f86 #[.tmp 13, .tmp 14] #[35, 24] rfl Try.func86 (by kernel_rfl) (by kernel_rfl) (by simp [e1, e2]) (Calls.mono (restM_any f b HN.out.2 _) ?_)
    rintro e u2 ⟨rfl, hc2⟩
    exact ⟨_, rfl, rfl, hc2⟩
   ·injection ho with ho
    subst ho
    have e1 : ac.eval (.tmp 12) = .agg (num (md f a)) := hg 2 (by kernel_rfl) (by decide) (by decide)
    have e2 : ac.eval (.tmp 15) = .agg (num (md f b)) := hg 5 (by kernel_rfl) (by decide) (by decide)
    refine opG_go 72 Try.f72 #[.tmp 12, .tmp 15] #[24, 24] rfl Try.func72 (by kernel_rfl) (by kernel_rfl) (by simp [e1, e2]) (Calls.mono (minus_num _ _ (md_N f a) (md_N f b) _) ?_)
    rintro e u2 ⟨rfl, hc2⟩
    exact ⟨_, rfl, by show Value.tuple _ = Value.tuple _; rw [HL.out.1, HL.out.2], hc2⟩
   ·injection ho with ho
    subst ho
    have e1 : ac.eval (.tmp 16) = .tuple #[.agg (num L), .int .u64 o] := hg 6 (by kernel_rfl) (by decide) (by decide)
    exact opG_val (by simp [execOp, e1]) rfl (Chg.refl _)
   ·injection ho with ho
    subst ho
    have e1 : ac.eval (.tmp 9) = .tuple #[.agg (num L), .int .u64 o] := hg 7 (by kernel_rfl) (by decide) (by decide)
    exact opG_val (by revert e1; generalize ac.eval = ρ; intro e1; simp [go_sem, execOp, e1]) rfl (Chg.refl _)
   ·injection ho with ho
    subst ho
    have e1 : ac.eval (.tmp 9) = .tuple #[.agg (num L), .int .u64 o] := hg 7 (by kernel_rfl) (by decide) (by decide)
    exact opG_val (by revert e1; generalize ac.eval = ρ; intro e1; simp [go_sem, execOp, e1]) rfl (Chg.refl _)
   ·injection ho with ho
    subst ho
    refine opG_val (v := .pointer (some ⟨u.heap.size, 0, none⟩)) (w' := u.alloc (.cells (num 0) 24)) (by simp [go_sem, execOp, zero25.1]) ⟨_, rfl, hc.size, ?_, ?_⟩ ((Chg.refl _).alloc _)
    ·intro e
     rw [hfl (by kernel_rfl)] at e
     cases e
    ·intro _; exact Ar.new _ _ _
   ·injection ho with ho
    subst ho
    have e1 : ac.eval (.tmp 18) = .int .u64 o := hg 9 (by kernel_rfl) (by decide) (by decide)
    exact opG_val (by simp [execOp, e1]) rfl (Chg.refl _)
  ·intro o' ac u ho hf hg hc
   injection ho with ho
   subst ho
   obtain ⟨b, e1, h1, h2, h3⟩ := hg 10 (by kernel_rfl) (by decide) (by decide)
   have e2 : ac.eval (.tmp 17) = .agg (num L) := hg 8 (by kernel_rfl) (by decide) (by decide)
   refine wp_store_mid 24 (.tmp 7) (.tmp 17) rfl b 0 (num L) e1 e2 (by rw [num_size]; exact thereN (h3 rfl)) (szN _) (num_one _) ⟨rfl, ?_, ?_⟩
   ·rw [setRowN (h3 rfl)]
    exact Chg.setRow hc h1 _
   ·intro j hj hjs h
    rw [setRowN (h3 rfl)]
    have hj' : j < 13 := hj
    have hcs : j = 0 ∨ j = 1 ∨ j = 2 ∨ j = 3 ∨ j = 4 ∨ j = 5 ∨ j = 6 ∨ j = 7 ∨ j = 8 ∨ j = 9 ∨ j = 10 ∨ j = 12 := by omega
    rcases hcs with rfl | rfl | rfl | rfl | rfl | rfl | rfl | rfl | rfl | rfl | rfl | rfl
    ·exact h
    ·exact h
    ·exact h
    ·exact h
    ·exact h
    ·exact h
    ·exact h
    ·exact h
    ·exact h
    ·exact h
    ·exact ⟨b, e1, h1, fun _ => (h3 rfl).row _, fun e => nomatch e⟩
    ·exact h
  ·exact Chg.refl _
  ·intro u V hV hB
   obtain ⟨b, q6, h1, h2, h3⟩ := hV 10 (by decide) (by decide)
   have q7 : V 12 = .int .u64 o := hV 12 (by decide) (by decide)
   have q8 : Hid (w1.heap.size ≤ b ∧ Ar u b (num L) ∧ Chg w1 u) := ⟨h1, h2 rfl, (Chg.refl w1).drew.trans hB⟩
   clear h1 h2 h3 hV hB
   go_wp2_with fail
   go_meet
   exact ⟨b, q6, q7, q8.out⟩
 obtain ⟨p, rfl, rfl, hb, hap, hc⟩ := hcut
 obtain ⟨w2, hw2⟩ : ∃ w2, w2 = wc := ⟨_, rfl⟩
 subst hw2
 have Z2 : Hid (Chg w w2 ∧ Ar w2 (w.heap.size + 1 + 1) (num 0) ∧ Ar w2 p (num L) ∧ w.heap.size + 1 + 1 < p) := by
  obtain ⟨q0, q1, q2, q3⟩ := Z1.out
  have := q3.lt
  exact ⟨q0.trans hc, q3.chg hc, hap, by omega⟩
 clear hb hap hc Z1
 obtain ⟨w3, hw3⟩ : ∃ w3, w3 = w2 := ⟨_, rfl⟩
 subst hw3
 have Z : Hid (Chg w w3 ∧ Ar w3 (w.heap.size + 1 + 1) (num 0) ∧ Ar w3 p (num L) ∧ w.heap.size + 1 + 1 < p) := Z2.out
 clear Z2
 obtain ⟨x0, x1, x2, x3⟩ := Ar.four (d := dg B64 L) Z.out.2.2.1
 by_cases hs : o = 1
 ·have HG : Hid (o = 1) := hs
  have hd : (o == 1) = true := by simpa using hs
  clear hs
  go_wp2_with fail
  obtain ⟨v, hv⟩ : ∃ v, v = (L + mo f) % R256 := ⟨_, rfl⟩
  obtain ⟨c, hcv⟩ : ∃ c, c = (L + mo f) / R256 := ⟨_, rfl⟩
  have k := fun W => plus_num L (mo f) HLN.out (mo_N f) W
  rw [← hv, ← hcv, num4 v] at k
  have HK : Hid (∀ W, Calls Try.prog 85 #[.agg (num L), .agg (num (mo f))] W fun r w' => r = .returned (.tuple #[.agg #[.int .u64 (dg B64 v 0), .int .u64 (dg B64 v 1), .int .u64 (dg B64 v 2), .int .u64 (dg B64 v 3)], .int .u64 c]) ∧ Chg W w') := k
  have Hv : Hid (v = (L + mo f) % R256) := hv
  clear k hv hcv
  go_region_with (first
   | (go_at_call 59; refine (modulus_any f _).mono ?_; rintro r w6 ⟨rfl, hc6⟩; obtain ⟨z0, z1, z2, z3⟩ := Ar.four (d := dg B64 L) (Z.out.2.2.1.drew.chg hc6); have HC6 : Hid (Chg w3.drew w6) := hc6; clear hc6)
   | (go_at_call 85; refine (HK.out _).mono ?_; rintro r w7 ⟨rfl, hc7⟩; have HC7 : Hid (Chg w3.drew w7) := HC6.out.trans hc7; clear hc7; obtain ⟨y0, y1, y2, y3⟩ := Ar.four (d := dg B64 L) (Z.out.2.2.1.drew.chg HC7.out); obtain ⟨g0, g1, g2, g3⟩ := (Z.out.2.2.1.drew.chg HC7.out).free4))
  all_goals
   obtain ⟨s0, s1, s2, s3⟩ := Ar.four (d := dg B64 0) (Z.out.2.1.drew.chg HC7.out)
   obtain ⟨t0, t1, t2, t3⟩ := (Z.out.2.1.drew.chg HC7.out).free4
   have hne : ¬ p = w.heap.size + 1 + 1 := fun h => by
    have := Z.out.2.2.2
    omega
   have hne' : ¬ w.heap.size + 1 + 1 = p := fun h => by
    have := Z.out.2.2.2
    omega
   go_wp2
   have hn := Z.out.2.2.2
   have e : v = md f (a - b) := subM_ge HL.out.1 HL.out.2 HG.out Hv.out
   refine bp_n (x := v) Try.results71 rfl rfl ?_ ⟨by rw [e], ?_⟩
   ·exact ((Z.out.2.1.drew.chg HC7.out).nput_other hne' v).nput v
   ·exact ((Z.out.1.drew.trans HC7.out).nput (by omega) v).nput (by omega) v
 ·have HS : Hid (¬ o = 1) := hs
  have hd : (o == 1) = false := by simpa using hs
  obtain ⟨s0, s1, s2, s3⟩ := Ar.four (d := dg B64 0) Z.out.2.1
  obtain ⟨t0, t1, t2, t3⟩ := Z.out.2.1.free4
  clear hs
  go_wp2
  have hn := Z.out.2.2.2
  have e : L = md f (a - b) := subM_lt HL.out.1 HL.out.2 HS.out
  refine bp_n (x := L) Try.results71 rfl rfl ?_ ⟨by rw [e], ?_⟩
  ·exact Z.out.2.1.nput L
  ·exact Z.out.1.nput (by omega) L
end Go.Proofs.Ytbdgmkejmfjobaa

namespace Go.Proofs.Ytbdgmkejmfjobaa
set_option maxRecDepth 100000
open Go.RowKit
set_option linter.unusedVariables false
theorem mw_sq (f a : Int) (t : Nat) : md f (md f (a ^ t) * md f (a ^ t)) = md f (a ^ (2 * t)) := by
 by_cases hf : f = 1 ∨ f = 2 ∨ f = 3 ∨ f = 4
 ·rw [md_in hf, md_in hf, md_in hf]
  exact pw_sq a _ t
 ·rw [md_out hf, md_out hf]
theorem mw_one (f a : Int) (t : Nat) : md f (md f (a ^ t) * a) = md f (a ^ (t + 1)) := by
 by_cases hf : f = 1 ∨ f = 2 ∨ f = 3 ∨ f = 4
 ·rw [md_in hf, md_in hf, md_in hf]
  exact pw_one a _ t
 ·rw [md_out hf, md_out hf]
set_option maxHeartbeats 8000000 in
theorem expM_any (f a e : Int) (ha : N256 a) (he : N256 e) (w : World) : Calls Try.prog 73 #[.int .i64 f, .agg (num a), .agg (num e)] w fun r w' => r = .returned (.agg (num (md f (a ^ e.toNat)))) ∧ Chg w w' := by
 have HN : Hid (N256 a ∧ N256 e ∧ True) := ⟨ha, he, trivial⟩
 have hz := zero25.1
 have hsA := num_size a
 have hsE := num_size e
 have iA := infoN a
 have iE := infoN e
 obtain ⟨A, hA⟩ : ∃ A, A = num a := ⟨_, rfl⟩
 obtain ⟨E, hE⟩ : ∃ E, E = num e := ⟨_, rfl⟩
 have HA : Hid (A = num a ∧ E = num e) := ⟨hA, hE⟩
 rw [← hA] at hsA iA ⊢
 rw [← hE] at hsE iE ⊢
 clear hA hE ha he
 go_enter Try.func73, Try.ntmps73
 go_upto_region 1 with fail
 obtain ⟨w1, hw1⟩ : ∃ w1, w1 = ((w.alloc (.cells A 24)).alloc (.cells E 24)).alloc (.cells (num 0) 24) := ⟨_, rfl⟩
 have Z : Hid (Chg w w1 ∧ Ar w1 w.heap.size A ∧ Ar w1 (w.heap.size + 1) E ∧ Ar w1 (w.heap.size + 1 + 1) (num 0)) := by
  rw [hw1]
  exact ⟨(((Chg.refl w).alloc _).alloc _).alloc _, ((Ar.new w _ _).alloc _).alloc _, (Ar.new1 w _ _ _).alloc _, Ar.new2 w _ _ _ _⟩
 rw [← hw1]
 clear hw1 hsA hsE
 go_wp2_with fail
 rw [num_set1]
 go_at_call 86
 refine (restM_any f 1 N1 _).mono ?_
 rintro r w2 ⟨rfl, hc2⟩
 obtain ⟨P0, hP⟩ : ∃ P0, P0 = num (md f 1) := ⟨_, rfl⟩
 have HP : Hid (P0 = num (md f 1)) := hP
 have s1 : (Try.prog.info? 24).map (·.size) = some P0.size := by rw [hP]; exact szN _
 have l1 : (num 0).size = P0.size := by rw [hP]; exact lenN _ _
 have o1 : P0.all (·.oneCell') = true := by rw [hP]; exact num_one _
 rw [← hP]
 clear hP
 go_upto_region 2 with (first | refine wpList_store_row rfl 24 _ _ rfl _ _ rfl rfl _ _ (heap_alloc_last w2 _) s1 l1 o1 ?_)
 obtain ⟨b, hb⟩ : ∃ b, b = w2.heap.size := ⟨_, rfl⟩
 obtain ⟨w3, hw3⟩ : ∃ w3, w3 = (w2.alloc (.cells (num 0) 24)).setRow w2.heap.size P0 := ⟨_, rfl⟩
 have HB : Hid (w.heap.size + 2 < b) := by
  have h1 := Z.out.2.2.2.lt
  have h2 := hc2.size
  show w.heap.size + 2 < b
  omega
 have Z3 : Hid (XS w w3 b A E P0) := by
  have hx : XS w (w2.alloc (.cells (num 0) 24)) w2.heap.size A E (num 0) := by
   have q := Z.out
   exact ⟨(q.1.trans hc2).alloc _, (q.2.1.chg hc2).alloc _, (q.2.2.1.chg hc2).alloc _, (q.2.2.2.chg hc2).alloc _, Ar.new w2 _ _⟩
  have := HB.out
  rw [hw3, hb]
  exact hx.row (by omega) P0
 rw [← hw3, ← hb]
 clear hw3 hb hc2 Z s1 l1 o1
 have r5 := rangeA Z3.out.at1
 go_wp2_with (first
  | refine wpList_load_mid rfl 24 (.tmp 5) rfl _ _ rfl (E.toList) _ r5 undNum rfl iE ?_)
 go_at_call 88
 have kl := fun W => length_any e HN.out.2.1 W
 rw [← HA.out.2] at kl
 refine (kl _).mono ?_
 rintro r w4 ⟨n, rfl, hn, hen, hc4⟩
 have HE : Hid (e < 2 ^ n ∧ n ≤ 256) := ⟨hen, hn⟩
 have Z4 : Hid (XS w w4 b A E (num (md f (a ^ up e (n - 0))))) := by
  have h := Z3.out.to hc4
  rw [HP.out] at h
  rw [Nat.sub_zero, up_none HN.out.2.1.1 hen, Int.pow_zero]
  exact h
 clear kl hen hc4 Z3 r5 HP
 go_wp2_with fail
 go_loopw [16] (fun v wr => ∃ (i : Nat), v = .int .i64 i ∧ i ≤ n ∧ XS w wr b A E (num (md f (a ^ up e (n - i))))) (fun v wr => n - (intOf v).toNat)
 case atStart => exact ⟨0, rfl, by omega, Z4.out⟩
 case round =>
  clear Z4
  obtain ⟨i, rfl, hi, hxs⟩ := hrel
  have Z : Hid (XS w wr b A E (num (md f (a ^ up e (n - i))))) := hxs
  clear hxs
  by_cases hlt : i < n
  ·have hd : decide ((i : Int) < n) = true := by simp; omega
   have li : (i : Int) < n := by omega
   obtain ⟨n1, hn1⟩ : ∃ n1 : Nat, (n : Int) - 1 = n1 := ⟨n - 1, by omega⟩
   have wn1 := wrap_i (x := (n1 : Int)) (by omega) (by omega)
   obtain ⟨j, hj⟩ : ∃ j : Nat, (n1 : Int) - i = j := ⟨n1 - i, by omega⟩
   have wj := wrap_i (x := (j : Int)) (by omega) (by omega)
   have HJ : Hid (n - i = j + 1 ∧ n - (i + 1) = j ∧ j < 256) := ⟨by omega, by omega, by omega⟩
   obtain ⟨t, ht⟩ : ∃ t, t = up e (n - i) := ⟨_, rfl⟩
   have HT : Hid ((up e j : Int) = 2 * t + dg 2 e j) := by
    show (up e j : Int) = 2 * t + dg 2 e j
    rw [ht, HJ.out.1]
    exact up_next HN.out.2.1.1 j
   rw [← ht] at Z
   clear ht
   obtain ⟨P, hP⟩ : ∃ P, P = num (md f (a ^ t)) := ⟨_, rfl⟩
   obtain ⟨P2, hP2⟩ : ∃ P, P = num (md f (a ^ (2 * t))) := ⟨_, rfl⟩
   obtain ⟨P3, hP3⟩ : ∃ P, P = num (md f (a ^ (2 * t + 1))) := ⟨_, rfl⟩
   have HP : Hid (P2 = num (md f (a ^ (2 * t))) ∧ P3 = num (md f (a ^ (2 * t + 1)))) := ⟨hP2, hP3⟩
   have K : Hid ((∀ W, Calls Try.prog 60 #[.int .i64 f, .agg P, .agg P] W fun r w' => r = .returned (.agg P2) ∧ Chg W w') ∧ (∀ W, Calls Try.prog 60 #[.int .i64 f, .agg P2, .agg A] W fun r w' => r = .returned (.agg P3) ∧ Chg W w')) := by
    rw [hP, hP2, hP3, HA.out.1, ← mw_sq f a t, ← mw_one f a (2 * t), ← mw_sq f a t]
    exact ⟨fun W => mulM_any f _ _ (md_N f _) (md_N f _) W, fun W => mulM_any f _ _ (md_N f _) HN.out.1 W⟩
   have kb := fun W => bit_any e j HJ.out.2.2 W
   rw [← HA.out.2] at kb
   obtain ⟨bb, hbb⟩ : ∃ bb, bb = (dg 2 e j == 1) := ⟨_, rfl⟩
   rw [← hbb] at kb
   have KB : Hid (∀ W, Calls Try.prog 89 #[.agg E, .int .i64 j] W fun r w' => r = .returned (.bool bb) ∧ Chg W w') := kb
   have HBb : Hid (bb = (dg 2 e j == 1)) := hbb
   have iP : (Try.prog.info? 24).map (·.size) = some P.toList.length := by rw [hP]; exact infoN _
   have iP2 : (Try.prog.info? 24).map (·.size) = some P2.toList.length := by rw [hP2]; exact infoN _
   have s2 : (Try.prog.info? 24).map (·.size) = some P2.size := by rw [hP2]; exact szN _
   have l2 : P.size = P2.size := by rw [hP, hP2]; exact lenN _ _
   have o2 : P2.all (·.oneCell') = true := by rw [hP2]; exact num_one _
   have s3 : (Try.prog.info? 24).map (·.size) = some P3.size := by rw [hP3]; exact szN _
   have l3 : P2.size = P3.size := by rw [hP2, hP3]; exact lenN _ _
   have o3 : P3.all (·.oneCell') = true := by rw [hP3]; exact num_one _
   rw [← hP] at Z
   clear hP hP2 hP3 kb hbb
   have r7 := rangeA Z.out.pow
   go_wp2_with (first
    | refine wpList_load_mid rfl 24 (.tmp 7) rfl _ _ rfl (P.toList) _ r7 undNum rfl iP ?_)
   go_at_call 60
   refine (K.out.1 _).mono ?_
   rintro r w5 ⟨rfl, hc5⟩
   have Z5 : Hid (XS w w5 b A E P) := Z.out.to hc5
   obtain ⟨t7, g7⟩ := Z5.out.pow
   clear hc5 r7 Z
   go_upto_region 7 with (first | refine wpList_store_row rfl 24 _ _ rfl _ _ rfl rfl _ _ g7 s2 l2 o2 ?_)
   obtain ⟨w6, hw6⟩ : ∃ w6, w6 = w5.setRow b P2 := ⟨_, rfl⟩
   have Z6 : Hid (XS w w6 b A E P2) := by rw [hw6]; exact Z5.out.row HB.out P2
   rw [← hw6]
   clear hw6 g7 Z5 s2 l2 o2
   have r5 := rangeA Z6.out.at1
   go_wp2_with (first
    | refine wpList_load_mid rfl 24 (.tmp 5) rfl _ _ rfl (E.toList) _ r5 undNum rfl iE ?_)
   go_at_call 89
   refine (KB.out _).mono ?_
   rintro r w7 ⟨rfl, hc7⟩
   have Z7 : Hid (XS w w7 b A E P2) := Z6.out.to hc7
   clear hc7 r5 Z6
   have hbd := dg_bound (B := 2) (by decide) e j
   cases bb with
   | true =>
    have r7 := rangeA Z7.out.pow
    have r4 := rangeA Z7.out.at0
    go_wp2_with (first
     | refine wpList_load_mid rfl 24 (.tmp 7) rfl _ _ rfl (P2.toList) _ r7 undNum rfl iP2 ?_
     | refine wpList_load_mid rfl 24 (.tmp 4) rfl _ _ rfl (A.toList) _ r4 undNum rfl iA ?_)
    go_at_call 60
    refine (K.out.2 _).mono ?_
    rintro r w8 ⟨rfl, hc8⟩
    have Z8 : Hid (XS w w8 b A E P2) := Z7.out.to hc8
    obtain ⟨t7, g7⟩ := Z8.out.pow
    clear hc8 r7 r4 Z7
    go_wp2_with (first | refine wpList_store_row rfl 24 _ _ rfl _ _ rfl rfl _ _ g7 s3 l3 o3 ?_)
    go_roundw
    case rel =>
     refine ⟨i + 1, by go_num, by omega, ?_⟩
     have h1 : dg 2 e j = 1 := by have := HBb.out; simpa using this.symm
     have h2 : up e j = 2 * t + 1 := by have := HT.out; omega
     rw [HJ.out.2.1, h2, ← HP.out.2]
     exact Z8.out.row HB.out P3
    case measure => simp [intOf]; omega
   | false =>
    go_wp2_with fail
    go_roundw
    case rel =>
     refine ⟨i + 1, by go_num, by omega, ?_⟩
     have h1 : ¬ dg 2 e j = 1 := by have := HBb.out; simpa using this.symm
     have h2 : up e j = 2 * t := by have := HT.out; omega
     rw [HJ.out.2.1, h2, ← HP.out.1]
     exact Z7.out
    case measure => simp [intOf]; omega
  ·have : i = n := by omega
   subst this
   rw [Nat.sub_self, up_all] at Z
   obtain ⟨P, hP⟩ : ∃ P, P = num (md f (a ^ e.toNat)) := ⟨_, rfl⟩
   have HP : Hid (P = num (md f (a ^ e.toNat))) := hP
   have iP : (Try.prog.info? 24).map (·.size) = some P.toList.length := by rw [hP]; exact infoN _
   have s1 : (Try.prog.info? 24).map (·.size) = some P.size := by rw [hP]; exact szN _
   have l1 : (num 0).size = P.size := by rw [hP]; exact lenN _ _
   have o1 : P.all (·.oneCell') = true := by rw [hP]; exact num_one _
   rw [← hP] at Z
   clear hP
   have r7 := rangeA Z.out.pow
   obtain ⟨t6, g6⟩ := Z.out.at2
   go_wp2_with (first
    | refine wpList_load_mid rfl 24 (.tmp 7) rfl _ _ rfl (P.toList) _ r7 undNum rfl iP ?_
    | refine wpList_store_row rfl 24 _ _ rfl _ _ rfl rfl _ _ g6 s1 l1 o1 ?_)
   rw [HP.out]
   refine bp_n (x := md f (a ^ e.toNat)) Try.results73 rfl rfl ?_ ⟨rfl, Z.out.chg.setRow (by omega) _⟩
   exact Z.out.at2.row _
set_option maxHeartbeats 8000000 in
theorem invM_any (f a : Int) (ha : N256 a) (w : World) : Calls Try.prog 54 #[.int .i64 f, .agg (num a)] w fun r w' => r = .returned (.agg (num (md f (a ^ ((mo f - 2) % R256).toNat)))) ∧ Chg w w' := by
 have HN : Hid (N256 a ∧ True) := ⟨ha, trivial⟩
 have hz := zero25.1
 have hsA := num_size a
 have iA := infoN a
 have iL := infoN ((mo f - 2) % R256)
 have k1 := fun W => modulus_any f W
 have k2 := fun W => minus_num (mo f) 2 (mo_N f) N2 W
 have k3 := fun W => expM_any f a ((mo f - 2) % R256) ha (N_modR _) W
 have sL := szN ((mo f - 2) % R256)
 have lL := lenN 0 ((mo f - 2) % R256)
 have oL := num_one ((mo f - 2) % R256)
 obtain ⟨A, hA⟩ : ∃ A, A = num a := ⟨_, rfl⟩
 obtain ⟨M, hM⟩ : ∃ M, M = num (mo f) := ⟨_, rfl⟩
 obtain ⟨L, hL⟩ : ∃ L, L = num ((mo f - 2) % R256) := ⟨_, rfl⟩
 obtain ⟨o, ho⟩ : ∃ o, o = bor (mo f) 2 := ⟨_, rfl⟩
 obtain ⟨X, hX⟩ : ∃ X, X = num (md f (a ^ ((mo f - 2) % R256).toNat)) := ⟨_, rfl⟩
 have HXe : Hid (X = num (md f (a ^ ((mo f - 2) % R256).toNat))) := hX
 have sX : (Try.prog.info? 24).map (·.size) = some X.size := by rw [hX]; exact szN _
 have lX : (num 0).size = X.size := by rw [hX]; exact lenN _ _
 have oX : X.all (·.oneCell') = true := by rw [hX]; exact num_one _
 rw [← hA] at hsA iA k3 ⊢
 rw [← hM] at k1 k2
 rw [← hL] at iL k2 k3 sL lL oL
 rw [← ho] at k2
 rw [← hX] at k3
 have HK : Hid ((∀ W, Calls Try.prog 59 #[.int .i64 f] W fun r w' => r = .returned (.agg M) ∧ Chg W w') ∧ (∀ W, Calls Try.prog 72 #[.agg M, .agg (num 2)] W fun r w' => r = .returned (.tuple #[.agg L, .int .u64 o]) ∧ Chg W w') ∧ (∀ W, Calls Try.prog 73 #[.int .i64 f, .agg A, .agg L] W fun r w' => r = .returned (.agg X) ∧ Chg W w')) := ⟨k1, k2, k3⟩
 have HSz : Hid (((Try.prog.info? 24).map (·.size) = some L.size ∧ (num 0).size = L.size ∧ L.all (·.oneCell') = true) ∧ (Try.prog.info? 24).map (·.size) = some X.size ∧ (num 0).size = X.size ∧ X.all (·.oneCell') = true) := ⟨⟨sL, lL, oL⟩, sX, lX, oX⟩
 have HI : Hid ((Try.prog.info? 24).map (·.size) = some A.toList.length ∧ (Try.prog.info? 24).map (·.size) = some L.toList.length) := ⟨iA, iL⟩
 clear hA hM hL ho hX k1 k2 k3 ha sL lL oL sX lX oX iA iL
 go_enter Try.func54, Try.ntmps54
 go_upto_region 1 with fail
 obtain ⟨w1, hw1⟩ : ∃ w1, w1 = (w.alloc (.cells A 24)).alloc (.cells (num 0) 24) := ⟨_, rfl⟩
 have Z : Hid (Chg w w1 ∧ Ar w1 w.heap.size A ∧ Ar w1 (w.heap.size + 1) (num 0)) := by
  rw [hw1]
  exact ⟨((Chg.refl w).alloc _).alloc _, (Ar.new w _ _).alloc _, Ar.new1 w _ _ _⟩
 rw [← hw1]
 clear hw1 hsA
 go_wp2_with fail
 go_at_call 59
 refine (HK.out.1 _).mono ?_
 rintro r w2 ⟨rfl, hc2⟩
 have Z2 : Hid (Chg w w2 ∧ Ar w2 w.heap.size A ∧ Ar w2 (w.heap.size + 1) (num 0)) := ⟨Z.out.1.trans hc2, Z.out.2.1.chg hc2, Z.out.2.2.chg hc2⟩
 clear hc2 Z
 go_wp2_with fail
 rw [num_set2]
 go_at_call 72
 refine (HK.out.2.1 _).mono ?_
 rintro r w3 ⟨rfl, hc3⟩
 have Z3 : Hid (Chg w w3 ∧ Ar w3 w.heap.size A ∧ Ar w3 (w.heap.size + 1) (num 0)) := ⟨Z2.out.1.trans hc3, Z2.out.2.1.chg hc3, Z2.out.2.2.chg hc3⟩
 clear hc3 Z2
 obtain ⟨sL, lL, oL⟩ := HSz.out.1
 go_upto_region 2 with (first | refine wpList_store_row rfl 24 _ _ rfl _ _ rfl rfl _ _ (heap_alloc_last w3 _) sL lL oL ?_)
 obtain ⟨b, hb⟩ : ∃ b, b = w3.heap.size := ⟨_, rfl⟩
 obtain ⟨w4, hw4⟩ : ∃ w4, w4 = (w3.alloc (.cells (num 0) 24)).setRow w3.heap.size L := ⟨_, rfl⟩
 have Z4 : Hid (Chg w w4 ∧ Ar w4 w.heap.size A ∧ Ar w4 (w.heap.size + 1) (num 0) ∧ Ar w4 b L) := by
  have q := Z3.out
  have q1 := q.2.2.lt
  rw [hw4, hb]
  exact ⟨(q.1.alloc _).setRow (by omega) _, (q.2.1.alloc _).rowOther (by omega) _, (q.2.2.alloc _).rowOther (by omega) _, (Ar.new w3 _ _).row _⟩
 rw [← hw4, ← hb]
 clear hw4 hb Z3 sL lL oL
 obtain ⟨iA, iL⟩ := HI.out
 have r3 := rangeA Z4.out.2.1
 have r5 := rangeA Z4.out.2.2.2
 go_wp2_with (first
  | refine wpList_load_mid rfl 24 (.tmp 3) rfl _ _ rfl (A.toList) _ r3 u25 rfl iA ?_
  | refine wpList_load_mid rfl 24 (.tmp 5) rfl _ _ rfl (L.toList) _ r5 u25 rfl iL ?_)
 go_at_call 73
 refine (HK.out.2.2 _).mono ?_
 rintro r w5 ⟨rfl, hc5⟩
 have Z5 : Hid (Chg w w5 ∧ Ar w5 (w.heap.size + 1) (num 0)) := ⟨Z4.out.1.trans hc5, Z4.out.2.2.1.chg hc5⟩
 clear hc5 r3 r5 Z4 iA iL
 obtain ⟨sX, lX, oX⟩ := HSz.out.2
 obtain ⟨t, g⟩ := Z5.out.2
 go_wp2_with (first | refine wpList_store_row rfl 24 _ _ rfl _ _ rfl rfl _ _ g sX lX oX ?_)
 rw [HXe.out]
 refine bp_n (x := md f (a ^ ((mo f - 2) % R256).toNat)) Try.results54 rfl rfl ?_ ⟨rfl, Z5.out.1.setRow (by omega) _⟩
 exact Z5.out.2.row _
end Go.Proofs.Ytbdgmkejmfjobaa
