/-
  What a number of eight digits leaves in a field.
  What a number leaves in a field; products.
  Sums in a field.
  Differences in a field.
  A number's bits.
-/
import Derived.Test.YtbdgmkejmfjobaaOrd4
import Derived.Test.YtbdgmkejmfjobaaSm
namespace Go.Proofs.Ytbdgmkejmfjobaa
set_option maxRecDepth 100000
open Go.RowKit
set_option linter.unusedVariables false
set_option maxHeartbeats 8000000 in
theorem reduce_any (f x : Int) (hf : f = 1 ∨ f = 2 ∨ f = 3 ∨ f = 4) (hx : N512 x) (w : World) : Calls Try.prog 80 #[.int .i64 f, .agg (wid x)] w fun r w' => r = .returned (.agg (num (x % mo f))) ∧ Chg w w' := by
 have HX : Hid (N512 x) := hx
 have hz := zero25.1
 have hsA := wid_size x
 obtain ⟨A, hA⟩ : ∃ A, A = wid x := ⟨_, rfl⟩
 have HA : Hid (A = wid x) := hA
 rw [← hA] at hsA ⊢
 clear hA hx
 go_enter Try.func80, Try.ntmps80
 go_upto_region 1 with fail
 obtain ⟨w1, hw1⟩ : ∃ w1, w1 = (w.alloc (.cells A 86)).alloc (.cells (num 0) 24) := ⟨_, rfl⟩
 have Z : Hid (Chg w w1 ∧ Ar w1 w.heap.size (wid x) ∧ Ar w1 (w.heap.size + 1) (num 0)) := by
  rw [hw1, HA.out]
  exact ⟨((Chg.refl w).alloc _).alloc _, (Ar.new w _ _).alloc _, Ar.new1 w _ _ _⟩
 rw [← hw1]
 clear hw1 hsA hz
 rcases hf with rfl | rfl | rfl | rfl
 ·have r1 := rangeW Z.out.2.1
  go_wp2_with (first
   | refine wpList_load_mid rfl 86 _ rfl _ _ rfl ((wid x).toList) _ r1 und55 rfl (infoW _) ?_)
  go_at_call 90
  refine (red1_any x HX.out _).mono ?_
  rintro r w2 ⟨rfl, hc2⟩
  have Z2 : Hid (Chg w w2 ∧ Ar w2 (w.heap.size + 1) (num 0)) := ⟨Z.out.1.trans hc2, Z.out.2.2.chg hc2⟩
  obtain ⟨M, hM⟩ : ∃ M, M = num (x % mo 1) := ⟨_, rfl⟩
  have HM : Hid (M = num (x % mo 1)) := hM
  have s1 : (Try.prog.info? 24).map (·.size) = some M.size := by rw [hM]; exact szN _
  have l1 : (num 0).size = M.size := by rw [hM]; exact lenN _ _
  have o1 : M.all (·.oneCell') = true := by rw [hM]; exact num_one _
  obtain ⟨t, g⟩ := Z2.out.2
  rw [← hM]
  clear hc2 hM r1
  go_wp2_with (first | refine wpList_store_row rfl 24 _ _ rfl _ _ rfl rfl _ _ g s1 l1 o1 ?_)
  refine bp_n (x := x % mo 1) Try.results80 rfl rfl ?_ ⟨rfl, Z2.out.1.setRow (by omega) _⟩
  rw [← HM.out]
  exact Z2.out.2.row _
 ·have r1 := rangeW Z.out.2.1
  go_wp2_with (first
   | refine wpList_load_mid rfl 86 _ rfl _ _ rfl ((wid x).toList) _ r1 und55 rfl (infoW _) ?_)
  go_at_call 91
  refine (red2_any x HX.out _).mono ?_
  rintro r w2 ⟨rfl, hc2⟩
  have Z2 : Hid (Chg w w2 ∧ Ar w2 (w.heap.size + 1) (num 0)) := ⟨Z.out.1.trans hc2, Z.out.2.2.chg hc2⟩
  obtain ⟨M, hM⟩ : ∃ M, M = num (x % mo 2) := ⟨_, rfl⟩
  have HM : Hid (M = num (x % mo 2)) := hM
  have s1 : (Try.prog.info? 24).map (·.size) = some M.size := by rw [hM]; exact szN _
  have l1 : (num 0).size = M.size := by rw [hM]; exact lenN _ _
  have o1 : M.all (·.oneCell') = true := by rw [hM]; exact num_one _
  obtain ⟨t, g⟩ := Z2.out.2
  rw [← hM]
  clear hc2 hM r1
  go_wp2_with (first | refine wpList_store_row rfl 24 _ _ rfl _ _ rfl rfl _ _ g s1 l1 o1 ?_)
  refine bp_n (x := x % mo 2) Try.results80 rfl rfl ?_ ⟨rfl, Z2.out.1.setRow (by omega) _⟩
  rw [← HM.out]
  exact Z2.out.2.row _
 ·have r1 := rangeW Z.out.2.1
  go_wp2_with (first
   | refine wpList_load_mid rfl 86 _ rfl _ _ rfl ((wid x).toList) _ r1 und55 rfl (infoW _) ?_)
  go_at_call 92
  refine (ord3_any x HX.out _).mono ?_
  rintro r w2 ⟨rfl, hc2⟩
  have Z2 : Hid (Chg w w2 ∧ Ar w2 (w.heap.size + 1) (num 0)) := ⟨Z.out.1.trans hc2, Z.out.2.2.chg hc2⟩
  obtain ⟨M, hM⟩ : ∃ M, M = num (x % mo 3) := ⟨_, rfl⟩
  have HM : Hid (M = num (x % mo 3)) := hM
  have s1 : (Try.prog.info? 24).map (·.size) = some M.size := by rw [hM]; exact szN _
  have l1 : (num 0).size = M.size := by rw [hM]; exact lenN _ _
  have o1 : M.all (·.oneCell') = true := by rw [hM]; exact num_one _
  obtain ⟨t, g⟩ := Z2.out.2
  rw [← hM]
  clear hc2 hM r1
  go_wp2_with (first | refine wpList_store_row rfl 24 _ _ rfl _ _ rfl rfl _ _ g s1 l1 o1 ?_)
  refine bp_n (x := x % mo 3) Try.results80 rfl rfl ?_ ⟨rfl, Z2.out.1.setRow (by omega) _⟩
  rw [← HM.out]
  exact Z2.out.2.row _
 ·have r1 := rangeW Z.out.2.1
  go_wp2_with (first
   | refine wpList_load_mid rfl 86 _ rfl _ _ rfl ((wid x).toList) _ r1 und55 rfl (infoW _) ?_)
  go_at_call 93
  refine (ord4_any x HX.out _).mono ?_
  rintro r w2 ⟨rfl, hc2⟩
  have Z2 : Hid (Chg w w2 ∧ Ar w2 (w.heap.size + 1) (num 0)) := ⟨Z.out.1.trans hc2, Z.out.2.2.chg hc2⟩
  obtain ⟨M, hM⟩ : ∃ M, M = num (x % mo 4) := ⟨_, rfl⟩
  have HM : Hid (M = num (x % mo 4)) := hM
  have s1 : (Try.prog.info? 24).map (·.size) = some M.size := by rw [hM]; exact szN _
  have l1 : (num 0).size = M.size := by rw [hM]; exact lenN _ _
  have o1 : M.all (·.oneCell') = true := by rw [hM]; exact num_one _
  obtain ⟨t, g⟩ := Z2.out.2
  rw [← hM]
  clear hc2 hM r1
  go_wp2_with (first | refine wpList_store_row rfl 24 _ _ rfl _ _ rfl rfl _ _ g s1 l1 o1 ?_)
  refine bp_n (x := x % mo 4) Try.results80 rfl rfl ?_ ⟨rfl, Z2.out.1.setRow (by omega) _⟩
  rw [← HM.out]
  exact Z2.out.2.row _
end Go.Proofs.Ytbdgmkejmfjobaa

namespace Go.Proofs.Ytbdgmkejmfjobaa
set_option maxRecDepth 100000
open Go.RowKit
set_option linter.unusedVariables false
theorem rangeA {w : World} {b : Nat} {A : Array Value} (h : Ar w b A) : w.rangeAt b 0 A.toList := by
 intro j v hv
 rw [Nat.zero_add, h.cell]
 simpa using hv
theorem N512_of {a : Int} (h : N256 a) : N512 a := ⟨h.1, Int.lt_trans h.2 (by decide)⟩
set_option maxHeartbeats 8000000 in
theorem mul_any (f a b : Int) (hf : f = 1 ∨ f = 2 ∨ f = 3 ∨ f = 4) (ha : N256 a) (hb : N256 b) (w : World) : Calls Try.prog 60 #[.int .i64 f, .agg (num a), .agg (num b)] w fun r w' => r = .returned (.agg (num (a * b % mo f))) ∧ Chg w w' := by
 have HN : Hid (N256 a ∧ N256 b ∧ (f = 1 ∨ f = 2 ∨ f = 3 ∨ f = 4)) := ⟨ha, hb, hf⟩
 have hz := zero25.1
 have hsA := num_size a
 have hsB := num_size b
 have iA := infoN a
 have iB := infoN b
 obtain ⟨A, hA⟩ : ∃ A, A = num a := ⟨_, rfl⟩
 obtain ⟨B, hB⟩ : ∃ B, B = num b := ⟨_, rfl⟩
 have HA : Hid (A = num a ∧ B = num b) := ⟨hA, hB⟩
 rw [← hA] at hsA iA ⊢
 rw [← hB] at hsB iB ⊢
 clear hA hB ha hb hf
 go_enter Try.func60, Try.ntmps60
 go_upto_region 1 with fail
 obtain ⟨w1, hw1⟩ : ∃ w1, w1 = ((w.alloc (.cells A 24)).alloc (.cells B 24)).alloc (.cells (num 0) 24) := ⟨_, rfl⟩
 have Z : Hid (Chg w w1 ∧ Ar w1 w.heap.size A ∧ Ar w1 (w.heap.size + 1) B ∧ Ar w1 (w.heap.size + 1 + 1) (num 0)) := by
  rw [hw1]
  exact ⟨(((Chg.refl w).alloc _).alloc _).alloc _, ((Ar.new w _ _).alloc _).alloc _, (Ar.new1 w _ _ _).alloc _, Ar.new2 w _ _ _ _⟩
 rw [← hw1]
 clear hw1 hsA hsB hz
 have r1 := rangeA Z.out.2.1
 have r2 := rangeA Z.out.2.2.1
 go_wp2_with (first
  | refine wpList_load_mid rfl 24 (.tmp 4) rfl _ _ rfl (A.toList) _ r1 u25 rfl iA ?_
  | refine wpList_load_mid rfl 24 (.tmp 5) rfl _ _ rfl (B.toList) _ r2 u25 rfl iB ?_)
 go_at_call 81
 have k := fun W => product_num a b HN.out.1 HN.out.2.1 W
 rw [← HA.out.1, ← HA.out.2] at k
 refine (k _).mono ?_
 rintro r w2 ⟨hr, hc2⟩
 have Z2 : Hid (Chg w w2 ∧ Ar w2 (w.heap.size + 1 + 1) (num 0)) := ⟨Z.out.1.trans hc2, Z.out.2.2.2.chg hc2⟩
 have k2 := fun W => reduce_any f (a * b) HN.out.2.2 (mul_N512 HN.out.1 HN.out.2.1) W
 obtain ⟨C, hC⟩ : ∃ C, C = wid (a * b) := ⟨_, rfl⟩
 rw [← hC] at hr k2
 subst hr
 obtain ⟨M, hM⟩ : ∃ M, M = num (a * b % mo f) := ⟨_, rfl⟩
 have HM : Hid (M = num (a * b % mo f)) := hM
 rw [← hM] at k2
 have HK : Hid (∀ W, Calls Try.prog 80 #[.int .i64 f, .agg C] W fun r w' => r = .returned (.agg M) ∧ Chg W w') := k2
 have s1 : (Try.prog.info? 24).map (·.size) = some M.size := by rw [hM]; exact szN _
 have l1 : (num 0).size = M.size := by rw [hM]; exact lenN _ _
 have o1 : M.all (·.oneCell') = true := by rw [hM]; exact num_one _
 clear hc2 hC hM k k2 r1 r2 Z
 go_wp2_with fail
 go_at_call 80
 refine (HK.out _).mono ?_
 rintro r w3 ⟨rfl, hc3⟩
 have Z3 : Hid (Chg w w3 ∧ Ar w3 (w.heap.size + 1 + 1) (num 0)) := ⟨Z2.out.1.trans hc3, Z2.out.2.chg hc3⟩
 obtain ⟨t, g⟩ := Z3.out.2
 clear hc3
 go_wp2_with (first | refine wpList_store_row rfl 24 _ _ rfl _ _ rfl rfl _ _ g s1 l1 o1 ?_)
 rw [HM.out]
 refine bp_n (x := a * b % mo f) Try.results60 rfl rfl ?_ ⟨rfl, Z3.out.1.setRow (by omega) _⟩
 exact Z3.out.2.row _
set_option maxHeartbeats 8000000 in
theorem rest_any (f a : Int) (hf : f = 1 ∨ f = 2 ∨ f = 3 ∨ f = 4) (ha : N256 a) (w : World) : Calls Try.prog 86 #[.int .i64 f, .agg (num a)] w fun r w' => r = .returned (.agg (num (a % mo f))) ∧ Chg w w' := by
 have HN : Hid (N256 a ∧ (f = 1 ∨ f = 2 ∨ f = 3 ∨ f = 4)) := ⟨ha, hf⟩
 have hz := zero25.1
 have hsA := num_size a
 have iA := infoN a
 have s2 := szN a
 have l2 := lenN 0 a
 have o2 := num_one a
 have k1 := fun W => right_any f a ha W
 have k3 := fun W => join_num a 0 ha ⟨by decide, by decide⟩ W
 have k4 := fun W => reduce_any f (a + R256 * 0) hf (by rw [Int.mul_zero, Int.add_zero]; exact N512_of ha) W
 rw [Int.mul_zero, Int.add_zero] at k3 k4
 obtain ⟨A, hA⟩ : ∃ A, A = num a := ⟨_, rfl⟩
 obtain ⟨C, hC⟩ : ∃ C, C = wid a := ⟨_, rfl⟩
 obtain ⟨M, hM⟩ : ∃ M, M = num (a % mo f) := ⟨_, rfl⟩
 have HA : Hid (A = num a ∧ M = num (a % mo f)) := ⟨hA, hM⟩
 rw [← hA] at hsA iA k1 k3 s2 l2 o2 ⊢
 rw [← hC] at k3 k4
 rw [← hM] at k4
 have s1 : (Try.prog.info? 24).map (·.size) = some M.size := by rw [hM]; exact szN _
 have l1 : (num 0).size = M.size := by rw [hM]; exact lenN _ _
 have o1 : M.all (·.oneCell') = true := by rw [hM]; exact num_one _
 have HK : Hid ((∀ W, Calls Try.prog 33 #[.int .i64 f, .agg A] W fun r w' => r = .returned (.bool (decide (a < mo f))) ∧ Chg W w') ∧ (∀ W, Calls Try.prog 96 #[.agg A, .agg (num 0)] W fun r w' => r = .returned (.agg C) ∧ Chg W w') ∧ (∀ W, Calls Try.prog 80 #[.int .i64 f, .agg C] W fun r w' => r = .returned (.agg M) ∧ Chg W w')) := ⟨k1, k3, k4⟩
 clear hA ha hf hC hM k1 k3 k4
 go_enter Try.func86, Try.ntmps86
 go_upto_region 1 with fail
 obtain ⟨w1, hw1⟩ : ∃ w1, w1 = (w.alloc (.cells A 24)).alloc (.cells (num 0) 24) := ⟨_, rfl⟩
 have Z : Hid (Chg w w1 ∧ Ar w1 w.heap.size A ∧ Ar w1 (w.heap.size + 1) (num 0)) := by
  rw [hw1]
  exact ⟨((Chg.refl w).alloc _).alloc _, (Ar.new w _ _).alloc _, Ar.new1 w _ _ _⟩
 rw [← hw1]
 clear hw1 hsA
 have r1 := rangeA Z.out.2.1
 go_wp2_with (first
  | refine wpList_load_mid rfl 24 (.tmp 3) rfl _ _ rfl (A.toList) _ r1 u25 rfl iA ?_)
 go_at_call 33
 refine (HK.out.1 _).mono ?_
 rintro r w2 ⟨rfl, hc2⟩
 have Z2 : Hid (Chg w w2 ∧ Ar w2 w.heap.size A ∧ Ar w2 (w.heap.size + 1) (num 0)) := ⟨Z.out.1.trans hc2, Z.out.2.1.chg hc2, Z.out.2.2.chg hc2⟩
 clear hc2 r1 Z
 have r2 := rangeA Z2.out.2.1
 by_cases hlt : a < mo f
 ·have hd : decide (a < mo f) = true := by simp [hlt]
  have HL : Hid (a < mo f) := hlt
  clear hlt
  obtain ⟨t, g⟩ := Z2.out.2.2
  go_wp2_with (first
   | refine wpList_load_mid rfl 24 (.tmp 3) rfl _ _ rfl (A.toList) _ r2 u25 rfl iA ?_
   | refine wpList_store_row rfl 24 _ _ rfl _ _ rfl rfl _ _ g s2 l2 o2 ?_)
  have e : a = a % mo f := (Int.emod_eq_of_lt HN.out.1.1 HL.out).symm
  have eA : A = num (a % mo f) := by rw [← e]; exact HA.out.1
  refine bp_n (x := a % mo f) Try.results86 rfl rfl ?_ ⟨rfl, Z2.out.1.setRow (by omega) _⟩
  rw [← eA]
  exact Z2.out.2.2.row _
 ·have hd : decide (a < mo f) = false := by simp; omega
  clear hlt
  go_wp2_with (first
   | refine wpList_load_mid rfl 24 (.tmp 3) rfl _ _ rfl (A.toList) _ r2 u25 rfl iA ?_)
  go_at_call 96
  refine (HK.out.2.1 _).mono ?_
  rintro r w3 ⟨rfl, hc3⟩
  have Z3 : Hid (Chg w w3 ∧ Ar w3 (w.heap.size + 1) (num 0)) := ⟨Z2.out.1.trans hc3, Z2.out.2.2.chg hc3⟩
  clear hc3 r2 Z2
  go_wp2_with fail
  go_at_call 80
  refine (HK.out.2.2 _).mono ?_
  rintro r w4 ⟨rfl, hc4⟩
  have Z4 : Hid (Chg w w4 ∧ Ar w4 (w.heap.size + 1) (num 0)) := ⟨Z3.out.1.trans hc4, Z3.out.2.chg hc4⟩
  obtain ⟨t, g⟩ := Z4.out.2
  clear hc4 Z3
  go_wp2_with (first | refine wpList_store_row rfl 24 _ _ rfl _ _ rfl rfl _ _ g s1 l1 o1 ?_)
  rw [HA.out.2]
  refine bp_n (x := a % mo f) Try.results86 rfl rfl ?_ ⟨rfl, Z4.out.1.setRow (by omega) _⟩
  exact Z4.out.2.row _
end Go.Proofs.Ytbdgmkejmfjobaa

namespace Go.Proofs.Ytbdgmkejmfjobaa
set_option maxRecDepth 100000
open Go.RowKit
set_option linter.unusedVariables false
theorem mo_pos4 {f : Int} (hf : f = 1 ∨ f = 2 ∨ f = 3 ∨ f = 4) : 0 < mo f ∧ mo f < R256 := by
 rcases hf with rfl | rfl | rfl | rfl
 ·rw [mo1]; unfold R256; omega
 ·rw [mo2]; unfold R256; omega
 ·rw [mo3]; unfold R256; omega
 ·rw [mo4]; unfold R256; omega
theorem mod_N {f : Int} (hf : f = 1 ∨ f = 2 ∨ f = 3 ∨ f = 4) (a : Int) : N256 (a % mo f) := by
 obtain ⟨h1, h2⟩ := mo_pos4 hf
 have := Int.emod_nonneg a (show mo f ≠ 0 by omega)
 have := Int.emod_lt_of_pos a h1
 exact ⟨by omega, by omega⟩
theorem add_lt {f a b L o : Int} (hf : f = 1 ∨ f = 2 ∨ f = 3 ∨ f = 4) (hL : L = (a % mo f + b % mo f) % R256) (ho : o = (a % mo f + b % mo f) / R256) (h0 : o = 0) (hl : L < mo f) : L = (a + b) % mo f := by
 obtain ⟨h1, h2⟩ := mo_pos4 hf
 have k1 := Int.emod_nonneg a (show mo f ≠ 0 by omega)
 have k2 := Int.emod_nonneg b (show mo f ≠ 0 by omega)
 have e : L = a % mo f + b % mo f := by unfold R256 at *; omega
 rw [Int.add_emod, ← e, Int.emod_eq_of_lt (by omega) hl]
theorem add_ge {f a b L o v : Int} (hf : f = 1 ∨ f = 2 ∨ f = 3 ∨ f = 4) (hL : L = (a % mo f + b % mo f) % R256) (ho : o = (a % mo f + b % mo f) / R256) (hg : ¬ (o = 0 ∧ L < mo f)) (hv : v = (L - mo f) % R256) : v = (a + b) % mo f := by
 obtain ⟨h1, h2⟩ := mo_pos4 hf
 have k1 := Int.emod_nonneg a (show mo f ≠ 0 by omega)
 have k2 := Int.emod_nonneg b (show mo f ≠ 0 by omega)
 have k3 := Int.emod_lt_of_pos a h1
 have k4 := Int.emod_lt_of_pos b h1
 have e : v = a % mo f + b % mo f - mo f ∧ 0 ≤ a % mo f + b % mo f - mo f := by
  generalize a % mo f = p at *
  generalize b % mo f = q at *
  generalize mo f = m at *
  unfold R256 at *
  omega
 have e2 : (a + b) % mo f = (a % mo f + b % mo f - mo f) % mo f := by
  rw [Int.sub_emod, Int.emod_self, Int.sub_zero, Int.emod_emod, Int.add_emod]
 rw [e2, ← e.1, Int.emod_eq_of_lt (by omega) (by omega)]
set_option maxHeartbeats 8000000 in
theorem add_any (f a b : Int) (hf : f = 1 ∨ f = 2 ∨ f = 3 ∨ f = 4) (ha : N256 a) (hb : N256 b) (w : World) : Calls Try.prog 70 #[.int .i64 f, .agg (num a), .agg (num b)] w fun r w' => r = .returned (.agg (num ((a + b) % mo f))) ∧ Chg w w' := by
 have HF : Hid (f = 1 ∨ f = 2 ∨ f = 3 ∨ f = 4) := hf
 have HN : Hid (N256 a ∧ N256 b) := ⟨ha, hb⟩
 have hz := zero25.1
 have hsA := num_size a
 have hsB := num_size b
 obtain ⟨A, hA⟩ : ∃ A, A = num a := ⟨_, rfl⟩
 obtain ⟨B, hB⟩ : ∃ B, B = num b := ⟨_, rfl⟩
 have HA : Hid (A = num a ∧ B = num b) := ⟨hA, hB⟩
 rw [← hA] at hsA ⊢
 rw [← hB] at hsB ⊢
 obtain ⟨L, hL⟩ : ∃ L, L = (a % mo f + b % mo f) % R256 := ⟨_, rfl⟩
 obtain ⟨o, hoo⟩ : ∃ o, o = (a % mo f + b % mo f) / R256 := ⟨_, rfl⟩
 have HL : Hid (L = (a % mo f + b % mo f) % R256 ∧ o = (a % mo f + b % mo f) / R256) := ⟨hL, hoo⟩
 have HLN : Hid (N256 L) := by
  show N256 L
  rw [hL]
  exact N256_mod _
 clear hA hB ha hb hf hL hoo
 go_enter Try.func70, Try.ntmps70
 go_upto_region 1 with fail
 obtain ⟨w1, hw1⟩ : ∃ w1, w1 = ((w.alloc (.cells A 24)).alloc (.cells B 24)).alloc (.cells (num 0) 24) := ⟨_, rfl⟩
 have Z1 : Hid (Chg w w1 ∧ Ar w1 w.heap.size (num a) ∧ Ar w1 (w.heap.size + 1) (num b) ∧ Ar w1 (w.heap.size + 1 + 1) (num 0)) := by
  rw [hw1, HA.out.1, HA.out.2]
  exact ⟨(((Chg.refl w).alloc _).alloc _).alloc _, ((Ar.new w _ _).alloc _).alloc _, (Ar.new1 w _ _ _).alloc _, Ar.new2 w _ _ _ _⟩
 rw [← hw1]
 clear hw1 hsA hsB hz
 go_cut [7, 8] from 7 to 18 (fun v6 v7 wc => ∃ b, v6 = .pointer (some ⟨b, 0, none⟩) ∧ v7 = .int .u64 o ∧ w1.heap.size ≤ b ∧ Ar wc b (num L) ∧ Chg w1 wc)
 case first =>
  refine wp_region_store 11 (fun j v fl wg => match j with
   | 0 => v = .int .i64 f
   | 1 => v = .agg (num a)
   | 2 => v = .agg (num (a % mo f))
   | 3 => v = .int .i64 f
   | 4 => v = .agg (num b)
   | 5 => v = .agg (num (b % mo f))
   | 6 => v = .tuple #[.agg (num L), .int .u64 o]
   | 7 => v = .tuple #[.agg (num L), .int .u64 o]
   | 8 => v = .agg (num L)
   | 9 => v = .int .u64 o
   | 10 => ∃ b, v = .pointer (some ⟨b, 0, none⟩) ∧ w1.heap.size ≤ b ∧ (fl = true → Ar wg b (num L)) ∧ (fl = false → Ar wg b (num 0))
   | 12 => v = .int .u64 o
   | _ => True) (fun _ u => Chg w1.drew u) (by kernel_rfl) (by decide) (by kernel_rfl) (by kernel_rfl) (by kernel_rfl) ?_ ?_ ?_ ?_ ?_ ?_
  ·intro j v fl u1 u2 h hc
   match j, h with
   | 0, h => exact h
   | 1, h => exact h
   | 2, h => exact h
   | 3, h => exact h
   | 4, h => exact h
   | 5, h => exact h
   | 6, h => exact h
   | 7, h => exact h
   | 8, h => exact h
   | 9, h => exact h
   | 10, h => (obtain ⟨b, h1, h2, h3, h4⟩ := h; exact ⟨b, h1, h2, fun e => (h3 e).chg hc, fun e => (h4 e).chg hc⟩)
   | 11, h => exact trivial
   | 12, h => exact h
   | _ + 13, h => exact trivial
  ·intro fl u u' h k
   exact h.trans k
  ·intro i o' ac u fl hi his ho hfl hf hg hc
   have hi' : i < 13 := hi
   have hcs : i = 0 ∨ i = 1 ∨ i = 2 ∨ i = 3 ∨ i = 4 ∨ i = 5 ∨ i = 6 ∨ i = 7 ∨ i = 8 ∨ i = 9 ∨ i = 10 ∨ i = 12 := by omega
   rcases hcs with rfl | rfl | rfl | rfl | rfl | rfl | rfl | rfl | rfl | rfl | rfl | rfl
   ·injection ho with ho
    subst ho
    have e1 : ac.eval (.tmp 0) = .int .i64 f := hf 0 (by kernel_rfl)
    exact opG_val (by simp [execOp, e1]) rfl (Chg.refl _)
   ·injection ho with ho
    subst ho
    have e1 : ac.eval (.tmp 4) = .pointer (some ⟨w.heap.size, 0, none⟩) := hf 4 (by kernel_rfl)
    exact wp_load_mid 24 (.tmp 4) rfl _ _ e1 ((num a).toList) _ (rangeN (Ar.chg (w := w1.drew) Z1.out.2.1.drew hc)) u25 rfl (infoN _) ⟨_, rfl, rfl, Chg.refl _⟩
   ·injection ho with ho
    subst ho
    have e1 : ac.eval (.tmp 10) = .int .i64 f := hg 0 (by kernel_rfl) (by decide) (by decide)
    have e2 : ac.eval (.tmp 11) = .agg (num a) := hg 1 (by kernel_rfl) (by decide) (by decide)
    refine opG_go 86 Try.f86 #[.tmp 10, .tmp 11] #[35, 24] rfl Try.func86 (by kernel_rfl) (by kernel_rfl) (by simp [e1, e2]) (Calls.mono (rest_any f a HF.out HN.out.1 _) ?_)
    rintro e u2 ⟨rfl, hc2⟩
    exact ⟨_, rfl, rfl, hc2⟩
   ·injection ho with ho
    subst ho
    have e1 : ac.eval (.tmp 0) = .int .i64 f := hf 0 (by kernel_rfl)
    exact opG_val (by simp [execOp, e1]) rfl (Chg.refl _)
   ·injection ho with ho
    subst ho
    have e1 : ac.eval (.tmp 5) = .pointer (some ⟨w.heap.size + 1, 0, none⟩) := hf 5 (by kernel_rfl)
    exact wp_load_mid 24 (.tmp 5) rfl _ _ e1 ((num b).toList) _ (rangeN (Ar.chg (w := w1.drew) Z1.out.2.2.1.drew hc)) u25 rfl (infoN _) ⟨_, rfl, rfl, Chg.refl _⟩
   ·injection ho with ho
    subst ho
    have e1 : ac.eval (.tmp 13) = .int .i64 f := hg 3 (by kernel_rfl) (by decide) (by decide)
    have e2 : ac.eval (.tmp 14) = .agg (num b) := hg 4 (by kernel_rfl) (by decide) (by decide)
    refine opG_go 86 Try.f86 #[.tmp 13, .tmp 14] #[35, 24] rfl Try.func86 (by kernel_rfl) (by kernel_rfl) (by simp [e1, e2]) (Calls.mono (rest_any f b HF.out HN.out.2 _) ?_)
    rintro e u2 ⟨rfl, hc2⟩
    exact ⟨_, rfl, rfl, hc2⟩
   ·injection ho with ho
    subst ho
    have e1 : ac.eval (.tmp 12) = .agg (num (a % mo f)) := hg 2 (by kernel_rfl) (by decide) (by decide)
    have e2 : ac.eval (.tmp 15) = .agg (num (b % mo f)) := hg 5 (by kernel_rfl) (by decide) (by decide)
    refine opG_go 85 Try.f85 #[.tmp 12, .tmp 15] #[24, 24] rfl Try.func85 (by kernel_rfl) (by kernel_rfl) (by simp [e1, e2]) (Calls.mono (plus_num _ _ (mod_N HF.out a) (mod_N HF.out b) _) ?_)
    rintro e u2 ⟨rfl, hc2⟩
    exact ⟨_, rfl, by show Value.tuple _ = Value.tuple _; rw [HL.out.1, HL.out.2], hc2⟩
   ·injection ho with ho
    subst ho
    have e1 : ac.eval (.tmp 16) = .tuple #[.agg (num L), .int .u64 o] := hg 6 (by kernel_rfl) (by decide) (by decide)
    exact opG_val (by simp [execOp, e1]) rfl (Chg.refl _)
   ·injection ho with ho
    subst ho
    have e1 : ac.eval (.tmp 9) = .tuple #[.agg (num L), .int .u64 o] := hg 7 (by kernel_rfl) (by decide) (by decide)
    exact opG_val (by revert e1; generalize ac.eval = ρ; intro e1; simp [go_sem, execOp, e1]) rfl (Chg.refl _)
   ·injection ho with ho
    subst ho
    have e1 : ac.eval (.tmp 9) = .tuple #[.agg (num L), .int .u64 o] := hg 7 (by kernel_rfl) (by decide) (by decide)
    exact opG_val (by revert e1; generalize ac.eval = ρ; intro e1; simp [go_sem, execOp, e1]) rfl (Chg.refl _)
   ·injection ho with ho
    subst ho
    refine opG_val (v := .pointer (some ⟨u.heap.size, 0, none⟩)) (w' := u.alloc (.cells (num 0) 24)) (by simp [go_sem, execOp, zero25.1]) ⟨_, rfl, hc.size, ?_, ?_⟩ ((Chg.refl _).alloc _)
    ·intro e
     rw [hfl (by kernel_rfl)] at e
     cases e
    ·intro _; exact Ar.new _ _ _
   ·injection ho with ho
    subst ho
    have e1 : ac.eval (.tmp 18) = .int .u64 o := hg 9 (by kernel_rfl) (by decide) (by decide)
    exact opG_val (by simp [execOp, e1]) rfl (Chg.refl _)
  ·intro o' ac u ho hf hg hc
   injection ho with ho
   subst ho
   obtain ⟨b, e1, h1, h2, h3⟩ := hg 10 (by kernel_rfl) (by decide) (by decide)
   have e2 : ac.eval (.tmp 17) = .agg (num L) := hg 8 (by kernel_rfl) (by decide) (by decide)
   refine wp_store_mid 24 (.tmp 7) (.tmp 17) rfl b 0 (num L) e1 e2 (by rw [num_size]; exact thereN (h3 rfl)) (szN _) (num_one _) ⟨rfl, ?_, ?_⟩
   ·rw [setRowN (h3 rfl)]
    exact Chg.setRow hc h1 _
   ·intro j hj hjs h
    rw [setRowN (h3 rfl)]
    have hj' : j < 13 := hj
    have hcs : j = 0 ∨ j = 1 ∨ j = 2 ∨ j = 3 ∨ j = 4 ∨ j = 5 ∨ j = 6 ∨ j = 7 ∨ j = 8 ∨ j = 9 ∨ j = 10 ∨ j = 12 := by omega
    rcases hcs with rfl | rfl | rfl | rfl | rfl | rfl | rfl | rfl | rfl | rfl | rfl | rfl
    ·exact h
    ·exact h
    ·exact h
    ·exact h
    ·exact h
    ·exact h
    ·exact h
    ·exact h
    ·exact h
    ·exact h
    ·exact ⟨b, e1, h1, fun _ => (h3 rfl).row _, fun e => nomatch e⟩
    ·exact h
  ·exact Chg.refl _
  ·intro u V hV hB
   obtain ⟨b, q6, h1, h2, h3⟩ := hV 10 (by decide) (by decide)
   have q7 : V 12 = .int .u64 o := hV 12 (by decide) (by decide)
   have q8 : Hid (w1.heap.size ≤ b ∧ Ar u b (num L) ∧ Chg w1 u) := ⟨h1, h2 rfl, (Chg.refl w1).drew.trans hB⟩
   clear h1 h2 h3 hV hB
   go_wp2_with fail
   go_meet
   exact ⟨b, q6, q7, q8.out⟩
 obtain ⟨p, rfl, rfl, hb, hap, hc⟩ := hcut
 obtain ⟨w2, hw2⟩ : ∃ w2, w2 = wc := ⟨_, rfl⟩
 subst hw2
 have Z2 : Hid (Chg w w2 ∧ Ar w2 (w.heap.size + 1 + 1) (num 0) ∧ Ar w2 p (num L) ∧ w.heap.size + 1 + 1 < p) := by
  obtain ⟨q0, q1, q2, q3⟩ := Z1.out
  have := q3.lt
  exact ⟨q0.trans hc, q3.chg hc, hap, by omega⟩
 clear hb hap hc Z1
 obtain ⟨x0, x1, x2, x3⟩ := Ar.four (d := dg B64 L) Z2.out.2.2.1
 go_upto_region 2 with fail
 go_cut [25] from 19 to 25 (fun v wc => v = .bool (decide (o = 0 ∧ L < mo f)) ∧ Chg w2 wc)
 case first =>
  by_cases h0 : o = 0
  ·subst h0
   go_wp2_with fail
   go_at_call 33
   refine (right_any f L HLN.out _).mono ?_
   rintro r w3 ⟨rfl, hc3⟩
   have HC3 : Hid (Chg w2 w3) := hc3
   clear hc3
   go_wp2_with fail
   go_meet
   exact ⟨by simp, HC3.out⟩
  ·have hd : (o == 0) = false := by simpa using h0
   go_wp2_with fail
   go_meet
   exact ⟨by simp [h0], Chg.refl _⟩
 obtain ⟨rfl, hcc⟩ := hcut
 obtain ⟨w3, hw3⟩ : ∃ w3, w3 = wc := ⟨_, rfl⟩
 subst hw3
 have Z : Hid (Chg w w3 ∧ Ar w3 (w.heap.size + 1 + 1) (num 0) ∧ Ar w3 p (num L) ∧ w.heap.size + 1 + 1 < p) := by
  obtain ⟨q0, q1, q2, q3⟩ := Z2.out
  exact ⟨q0.trans hcc, q1.chg hcc, q2.chg hcc, q3⟩
 clear x0 x1 x2 x3 Z2 hcc
 obtain ⟨x0, x1, x2, x3⟩ := Ar.four (d := dg B64 L) Z.out.2.2.1
 by_cases hs : o = 0 ∧ L < mo f
 ·have HS : Hid (o = 0 ∧ L < mo f) := hs
  have hd : decide (o = 0 ∧ L < mo f) = true := by simp [hs]
  obtain ⟨s0, s1, s2, s3⟩ := Ar.four (d := dg B64 0) Z.out.2.1
  obtain ⟨t0, t1, t2, t3⟩ := Z.out.2.1.free4
  rw [hd]
  clear hs hd
  go_wp2
  have hn := Z.out.2.2.2
  have e : L = (a + b) % mo f := add_lt HF.out HL.out.1 HL.out.2 HS.out.1 HS.out.2
  refine bp_n (x := L) Try.results70 rfl rfl ?_ ⟨by rw [e], ?_⟩
  ·exact Z.out.2.1.nput L
  ·exact Z.out.1.nput (by omega) L
 ·have HG : Hid (¬ (o = 0 ∧ L < mo f)) := hs
  have hd : decide (o = 0 ∧ L < mo f) = false := by simp; simpa using hs
  rw [hd]
  clear hs hd
  go_wp2_with fail
  obtain ⟨v, hv⟩ : ∃ v, v = (L - mo f) % R256 := ⟨_, rfl⟩
  obtain ⟨c, hcv⟩ : ∃ c, c = bor L (mo f) := ⟨_, rfl⟩
  have k := fun W => minus_num L (mo f) HLN.out (mo_N f) W
  rw [← hv, ← hcv, num4 v] at k
  have HK : Hid (∀ W, Calls Try.prog 72 #[.agg (num L), .agg (num (mo f))] W fun r w' => r = .returned (.tuple #[.agg #[.int .u64 (dg B64 v 0), .int .u64 (dg B64 v 1), .int .u64 (dg B64 v 2), .int .u64 (dg B64 v 3)], .int .u64 c]) ∧ Chg W w') := k
  have Hv : Hid (v = (L - mo f) % R256) := hv
  clear k hv hcv
  go_region_with (first
   | (go_at_call 59; refine (modulus_any f _).mono ?_; rintro r w6 ⟨rfl, hc6⟩; obtain ⟨z0, z1, z2, z3⟩ := Ar.four (d := dg B64 L) (Z.out.2.2.1.drew.chg hc6); have HC6 : Hid (Chg w3.drew w6) := hc6; clear hc6)
   | (go_at_call 72; refine (HK.out _).mono ?_; rintro r w7 ⟨rfl, hc7⟩; have HC7 : Hid (Chg w3.drew w7) := HC6.out.trans hc7; clear hc7; obtain ⟨y0, y1, y2, y3⟩ := Ar.four (d := dg B64 L) (Z.out.2.2.1.drew.chg HC7.out); obtain ⟨g0, g1, g2, g3⟩ := (Z.out.2.2.1.drew.chg HC7.out).free4))
  all_goals
   obtain ⟨s0, s1, s2, s3⟩ := Ar.four (d := dg B64 0) (Z.out.2.1.drew.chg HC7.out)
   obtain ⟨t0, t1, t2, t3⟩ := (Z.out.2.1.drew.chg HC7.out).free4
   have hne : ¬ p = w.heap.size + 1 + 1 := fun h => by
    have := Z.out.2.2.2
    omega
   have hne' : ¬ w.heap.size + 1 + 1 = p := fun h => by
    have := Z.out.2.2.2
    omega
   go_wp2
   have hn := Z.out.2.2.2
   have e : v = (a + b) % mo f := add_ge HF.out HL.out.1 HL.out.2 HG.out Hv.out
   refine bp_n (x := v) Try.results70 rfl rfl ?_ ⟨by rw [e], ?_⟩
   ·exact ((Z.out.2.1.drew.chg HC7.out).nput_other hne' v).nput v
   ·exact ((Z.out.1.drew.trans HC7.out).nput (by omega) v).nput (by omega) v
end Go.Proofs.Ytbdgmkejmfjobaa

namespace Go.Proofs.Ytbdgmkejmfjobaa
set_option maxRecDepth 100000
open Go.RowKit
set_option linter.unusedVariables false
theorem sub_lt {f a b L o : Int} (hf : f = 1 ∨ f = 2 ∨ f = 3 ∨ f = 4) (hL : L = (a % mo f - b % mo f) % R256) (ho : o = bor (a % mo f) (b % mo f)) (h0 : ¬ o = 1) : L = (a - b) % mo f := by
 obtain ⟨h1, h2⟩ := mo_pos4 hf
 have k1 := Int.emod_nonneg a (show mo f ≠ 0 by omega)
 have k2 := Int.emod_nonneg b (show mo f ≠ 0 by omega)
 have k3 := Int.emod_lt_of_pos a h1
 have k4 := Int.emod_lt_of_pos b h1
 have hge : ¬ a % mo f < b % mo f := fun h => h0 (by rw [ho]; unfold bor; rw [if_pos h])
 have e : L = a % mo f - b % mo f := by unfold R256 at *; omega
 rw [Int.sub_emod, ← e, Int.emod_eq_of_lt (by omega) (by omega)]
theorem sub_ge {f a b L o v : Int} (hf : f = 1 ∨ f = 2 ∨ f = 3 ∨ f = 4) (hL : L = (a % mo f - b % mo f) % R256) (ho : o = bor (a % mo f) (b % mo f)) (hg : o = 1) (hv : v = (L + mo f) % R256) : v = (a - b) % mo f := by
 obtain ⟨h1, h2⟩ := mo_pos4 hf
 have k1 := Int.emod_nonneg a (show mo f ≠ 0 by omega)
 have k2 := Int.emod_nonneg b (show mo f ≠ 0 by omega)
 have k3 := Int.emod_lt_of_pos a h1
 have k4 := Int.emod_lt_of_pos b h1
 have hlt : a % mo f < b % mo f := by
  refine Decidable.byContradiction fun h => ?_
  rw [ho] at hg
  unfold bor at hg
  rw [if_neg h] at hg
  cases hg
 have e : v = a % mo f - b % mo f + mo f := by
  generalize a % mo f = p at *
  generalize b % mo f = q at *
  generalize mo f = m at *
  unfold R256 at *
  omega
 have e2 : (a - b) % mo f = (a % mo f - b % mo f + mo f) % mo f := by
  rw [Int.add_emod_right, Int.sub_emod]
 rw [e2, ← e, Int.emod_eq_of_lt (by omega) (by omega)]
set_option maxHeartbeats 8000000 in
theorem sub_any (f a b : Int) (hf : f = 1 ∨ f = 2 ∨ f = 3 ∨ f = 4) (ha : N256 a) (hb : N256 b) (w : World) : Calls Try.prog 71 #[.int .i64 f, .agg (num a), .agg (num b)] w fun r w' => r = .returned (.agg (num ((a - b) % mo f))) ∧ Chg w w' := by
 have HF : Hid (f = 1 ∨ f = 2 ∨ f = 3 ∨ f = 4) := hf
 have HN : Hid (N256 a ∧ N256 b) := ⟨ha, hb⟩
 have hz := zero25.1
 have hsA := num_size a
 have hsB := num_size b
 obtain ⟨A, hA⟩ : ∃ A, A = num a := ⟨_, rfl⟩
 obtain ⟨B, hB⟩ : ∃ B, B = num b := ⟨_, rfl⟩
 have HA : Hid (A = num a ∧ B = num b) := ⟨hA, hB⟩
 rw [← hA] at hsA ⊢
 rw [← hB] at hsB ⊢
 obtain ⟨L, hL⟩ : ∃ L, L = (a % mo f - b % mo f) % R256 := ⟨_, rfl⟩
 obtain ⟨o, hoo⟩ : ∃ o, o = bor (a % mo f) (b % mo f) := ⟨_, rfl⟩
 have HL : Hid (L = (a % mo f - b % mo f) % R256 ∧ o = bor (a % mo f) (b % mo f)) := ⟨hL, hoo⟩
 have HLN : Hid (N256 L) := by
  show N256 L
  rw [hL]
  exact N256_mod _
 clear hA hB ha hb hf hL hoo
 go_enter Try.func71, Try.ntmps71
 go_upto_region 1 with fail
 obtain ⟨w1, hw1⟩ : ∃ w1, w1 = ((w.alloc (.cells A 24)).alloc (.cells B 24)).alloc (.cells (num 0) 24) := ⟨_, rfl⟩
 have Z1 : Hid (Chg w w1 ∧ Ar w1 w.heap.size (num a) ∧ Ar w1 (w.heap.size + 1) (num b) ∧ Ar w1 (w.heap.size + 1 + 1) (num 0)) := by
  rw [hw1, HA.out.1, HA.out.2]
  exact ⟨(((Chg.refl w).alloc _).alloc _).alloc _, ((Ar.new w _ _).alloc _).alloc _, (Ar.new1 w _ _ _).alloc _, Ar.new2 w _ _ _ _⟩
 rw [← hw1]
 clear hw1 hsA hsB hz
 go_cut [7, 8] from 7 to 18 (fun v6 v7 wc => ∃ b, v6 = .pointer (some ⟨b, 0, none⟩) ∧ v7 = .int .u64 o ∧ w1.heap.size ≤ b ∧ Ar wc b (num L) ∧ Chg w1 wc)
 case first =>
  refine wp_region_store 11 (fun j v fl wg => match j with
   | 0 => v = .int .i64 f
   | 1 => v = .agg (num a)
   | 2 => v = .agg (num (a % mo f))
   | 3 => v = .int .i64 f
   | 4 => v = .agg (num b)
   | 5 => v = .agg (num (b % mo f))
   | 6 => v = .tuple #[.agg (num L), .int .u64 o]
   | 7 => v = .tuple #[.agg (num L), .int .u64 o]
   | 8 => v = .agg (num L)
   | 9 => v = .int .u64 o
   | 10 => ∃ b, v = .pointer (some ⟨b, 0, none⟩) ∧ w1.heap.size ≤ b ∧ (fl = true → Ar wg b (num L)) ∧ (fl = false → Ar wg b (num 0))
   | 12 => v = .int .u64 o
   | _ => True) (fun _ u => Chg w1.drew u) (by kernel_rfl) (by decide) (by kernel_rfl) (by kernel_rfl) (by kernel_rfl) ?_ ?_ ?_ ?_ ?_ ?_
  ·intro j v fl u1 u2 h hc
   match j, h with
   | 0, h => exact h
   | 1, h => exact h
   | 2, h => exact h
   | 3, h => exact h
   | 4, h => exact h
   | 5, h => exact h
   | 6, h => exact h
   | 7, h => exact h
   | 8, h => exact h
   | 9, h => exact h
   | 10, h => (obtain ⟨b, h1, h2, h3, h4⟩ := h; exact ⟨b, h1, h2, fun e => (h3 e).chg hc, fun e => (h4 e).chg hc⟩)
   | 11, h => exact trivial
   | 12, h => exact h
   | _ + 13, h => exact trivial
  ·intro fl u u' h k
   exact h.trans k
  ·intro i o' ac u fl hi his ho hfl hf hg hc
   have hi' : i < 13 := hi
   have hcs : i = 0 ∨ i = 1 ∨ i = 2 ∨ i = 3 ∨ i = 4 ∨ i = 5 ∨ i = 6 ∨ i = 7 ∨ i = 8 ∨ i = 9 ∨ i = 10 ∨ i = 12 := by omega
   rcases hcs with rfl | rfl | rfl | rfl | rfl | rfl | rfl | rfl | rfl | rfl | rfl | rfl
   ·injection ho with ho
    subst ho
    have e1 : ac.eval (.tmp 0) = .int .i64 f := hf 0 (by kernel_rfl)
    exact opG_val (by simp [execOp, e1]) rfl (Chg.refl _)
   ·injection ho with ho
    subst ho
    have e1 : ac.eval (.tmp 4) = .pointer (some ⟨w.heap.size, 0, none⟩) := hf 4 (by kernel_rfl)
    exact wp_load_mid 24 (.tmp 4) rfl _ _ e1 ((num a).toList) _ (rangeN (Ar.chg (w := w1.drew) Z1.out.2.1.drew hc)) u25 rfl (infoN _) ⟨_, rfl, rfl, Chg.refl _⟩
   ·injection ho with ho
    subst ho
    have e1 : ac.eval (.tmp 10) = .int .i64 f := hg 0 (by kernel_rfl) (by decide) (by decide)
    have e2 : ac.eval (.tmp 11) = .agg (num a) := hg 1 (by kernel_rfl) (by decide) (by decide)
    refine opG_go 86 Try.f86 #[.tmp 10, .tmp 11] #[35, 24] rfl Try.func86 (by kernel_rfl) (by kernel_rfl) (by simp [e1, e2]) (Calls.mono (rest_any f a HF.out HN.out.1 _) ?_)
    rintro e u2 ⟨rfl, hc2⟩
    exact ⟨_, rfl, rfl, hc2⟩
   ·injection ho with ho
    subst ho
    have e1 : ac.eval (.tmp 0) = .int .i64 f := hf 0 (by kernel_rfl)
    exact opG_val (by simp [execOp, e1]) rfl (Chg.refl _)
   ·injection ho with ho
    subst ho
    have e1 : ac.eval (.tmp 5) = .pointer (some ⟨w.heap.size + 1, 0, none⟩) := hf 5 (by kernel_rfl)
    exact wp_load_mid 24 (.tmp 5) rfl _ _ e1 ((num b).toList) _ (rangeN (Ar.chg (w := w1.drew) Z1.out.2.2.1.drew hc)) u25 rfl (infoN _) ⟨_, rfl, rfl, Chg.refl _⟩
   ·injection ho with ho
    subst ho
    have e1 : ac.eval (.tmp 13) = .int .i64 f := hg 3 (by kernel_rfl) (by decide) (by decide)
    have e2 : ac.eval (.tmp 14) = .agg (num b) := hg 4 (by kernel_rfl) (by decide) (by decide)
    refine opG_go 86 Try.f86 #[.tmp 13, .tmp 14] #[35, 24] rfl Try.func86 (by kernel_rfl) (by kernel_rfl) (by simp [e1, e2]) (Calls.mono (rest_any f b HF.out HN.out.2 _) ?_)
    rintro e u2 ⟨rfl, hc2⟩
    exact ⟨_, rfl, rfl, hc2⟩
   ·injection ho with ho
    subst ho
    have e1 : ac.eval (.tmp 12) = .agg (num (a % mo f)) := hg 2 (by kernel_rfl) (by decide) (by decide)
    have e2 : ac.eval (.tmp 15) = .agg (num (b % mo f)) := hg 5 (by kernel_rfl) (by decide) (by decide)
    refine opG_go 72 Try.f72 #[.tmp 12, .tmp 15] #[24, 24] rfl Try.func72 (by kernel_rfl) (by kernel_rfl) (by simp [e1, e2]) (Calls.mono (minus_num _ _ (mod_N HF.out a) (mod_N HF.out b) _) ?_)
    rintro e u2 ⟨rfl, hc2⟩
    exact ⟨_, rfl, by show Value.tuple _ = Value.tuple _; rw [HL.out.1, HL.out.2], hc2⟩
   ·injection ho with ho
    subst ho
    have e1 : ac.eval (.tmp 16) = .tuple #[.agg (num L), .int .u64 o] := hg 6 (by kernel_rfl) (by decide) (by decide)
    exact opG_val (by simp [execOp, e1]) rfl (Chg.refl _)
   ·injection ho with ho
    subst ho
    have e1 : ac.eval (.tmp 9) = .tuple #[.agg (num L), .int .u64 o] := hg 7 (by kernel_rfl) (by decide) (by decide)
    exact opG_val (by revert e1; generalize ac.eval = ρ; intro e1; simp [go_sem, execOp, e1]) rfl (Chg.refl _)
   ·injection ho with ho
    subst ho
    have e1 : ac.eval (.tmp 9) = .tuple #[.agg (num L), .int .u64 o] := hg 7 (by kernel_rfl) (by decide) (by decide)
    exact opG_val (by revert e1; generalize ac.eval = ρ; intro e1; simp [go_sem, execOp, e1]) rfl (Chg.refl _)
   ·injection ho with ho
    subst ho
    refine opG_val (v := .pointer (some ⟨u.heap.size, 0, none⟩)) (w' := u.alloc (.cells (num 0) 24)) (by simp [go_sem, execOp, zero25.1]) ⟨_, rfl, hc.size, ?_, ?_⟩ ((Chg.refl _).alloc _)
    ·intro e
     rw [hfl (by kernel_rfl)] at e
     cases e
    ·intro _; exact Ar.new _ _ _
   ·injection ho with ho
    subst ho
    have e1 : ac.eval (.tmp 18) = .int .u64 o := hg 9 (by kernel_rfl) (by decide) (by decide)
    exact opG_val (by simp [execOp, e1]) rfl (Chg.refl _)
  ·intro o' ac u ho hf hg hc
   injection ho with ho
   subst ho
   obtain ⟨b, e1, h1, h2, h3⟩ := hg 10 (by kernel_rfl) (by decide) (by decide)
   have e2 : ac.eval (.tmp 17) = .agg (num L) := hg 8 (by kernel_rfl) (by decide) (by decide)
   refine wp_store_mid 24 (.tmp 7) (.tmp 17) rfl b 0 (num L) e1 e2 (by rw [num_size]; exact thereN (h3 rfl)) (szN _) (num_one _) ⟨rfl, ?_, ?_⟩
   ·rw [setRowN (h3 rfl)]
    exact Chg.setRow hc h1 _
   ·intro j hj hjs h
    rw [setRowN (h3 rfl)]
    have hj' : j < 13 := hj
    have hcs : j = 0 ∨ j = 1 ∨ j = 2 ∨ j = 3 ∨ j = 4 ∨ j = 5 ∨ j = 6 ∨ j = 7 ∨ j = 8 ∨ j = 9 ∨ j = 10 ∨ j = 12 := by omega
    rcases hcs with rfl | rfl | rfl | rfl | rfl | rfl | rfl | rfl | rfl | rfl | rfl | rfl
    ·exact h
    ·exact h
    ·exact h
    ·exact h
    ·exact h
    ·exact h
    ·exact h
    ·exact h
    ·exact h
    ·exact h
    ·exact ⟨b, e1, h1, fun _ => (h3 rfl).row _, fun e => nomatch e⟩
    ·exact h
  ·exact Chg.refl _
  ·intro u V hV hB
   obtain ⟨b, q6, h1, h2, h3⟩ := hV 10 (by decide) (by decide)
   have q7 : V 12 = .int .u64 o := hV 12 (by decide) (by decide)
   have q8 : Hid (w1.heap.size ≤ b ∧ Ar u b (num L) ∧ Chg w1 u) := ⟨h1, h2 rfl, (Chg.refl w1).drew.trans hB⟩
   clear h1 h2 h3 hV hB
   go_wp2_with fail
   go_meet
   exact ⟨b, q6, q7, q8.out⟩
 obtain ⟨p, rfl, rfl, hb, hap, hc⟩ := hcut
 obtain ⟨w2, hw2⟩ : ∃ w2, w2 = wc := ⟨_, rfl⟩
 subst hw2
 have Z2 : Hid (Chg w w2 ∧ Ar w2 (w.heap.size + 1 + 1) (num 0) ∧ Ar w2 p (num L) ∧ w.heap.size + 1 + 1 < p) := by
  obtain ⟨q0, q1, q2, q3⟩ := Z1.out
  have := q3.lt
  exact ⟨q0.trans hc, q3.chg hc, hap, by omega⟩
 clear hb hap hc Z1
 obtain ⟨w3, hw3⟩ : ∃ w3, w3 = w2 := ⟨_, rfl⟩
 subst hw3
 have Z : Hid (Chg w w3 ∧ Ar w3 (w.heap.size + 1 + 1) (num 0) ∧ Ar w3 p (num L) ∧ w.heap.size + 1 + 1 < p) := Z2.out
 clear Z2
 obtain ⟨x0, x1, x2, x3⟩ := Ar.four (d := dg B64 L) Z.out.2.2.1
 by_cases hs : o = 1
 ·have HG : Hid (o = 1) := hs
  have hd : (o == 1) = true := by simpa using hs
  clear hs
  go_wp2_with fail
  obtain ⟨v, hv⟩ : ∃ v, v = (L + mo f) % R256 := ⟨_, rfl⟩
  obtain ⟨c, hcv⟩ : ∃ c, c = (L + mo f) / R256 := ⟨_, rfl⟩
  have k := fun W => plus_num L (mo f) HLN.out (mo_N f) W
  rw [← hv, ← hcv, num4 v] at k
  have HK : Hid (∀ W, Calls Try.prog 85 #[.agg (num L), .agg (num (mo f))] W fun r w' => r = .returned (.tuple #[.agg #[.int .u64 (dg B64 v 0), .int .u64 (dg B64 v 1), .int .u64 (dg B64 v 2), .int .u64 (dg B64 v 3)], .int .u64 c]) ∧ Chg W w') := k
  have Hv : Hid (v = (L + mo f) % R256) := hv
  clear k hv hcv
  go_region_with (first
   | (go_at_call 59; refine (modulus_any f _).mono ?_; rintro r w6 ⟨rfl, hc6⟩; obtain ⟨z0, z1, z2, z3⟩ := Ar.four (d := dg B64 L) (Z.out.2.2.1.drew.chg hc6); have HC6 : Hid (Chg w3.drew w6) := hc6; clear hc6)
   | (go_at_call 85; refine (HK.out _).mono ?_; rintro r w7 ⟨rfl, hc7⟩; have HC7 : Hid (Chg w3.drew w7) := HC6.out.trans hc7; clear hc7; obtain ⟨y0, y1, y2, y3⟩ := Ar.four (d := dg B64 L) (Z.out.2.2.1.drew.chg HC7.out); obtain ⟨g0, g1, g2, g3⟩ := (Z.out.2.2.1.drew.chg HC7.out).free4))
  all_goals
   obtain ⟨s0, s1, s2, s3⟩ := Ar.four (d := dg B64 0) (Z.out.2.1.drew.chg HC7.out)
   obtain ⟨t0, t1, t2, t3⟩ := (Z.out.2.1.drew.chg HC7.out).free4
   have hne : ¬ p = w.heap.size + 1 + 1 := fun h => by
    have := Z.out.2.2.2
    omega
   have hne' : ¬ w.heap.size + 1 + 1 = p := fun h => by
    have := Z.out.2.2.2
    omega
   go_wp2
   have hn := Z.out.2.2.2
   have e : v = (a - b) % mo f := sub_ge HF.out HL.out.1 HL.out.2 HG.out Hv.out
   refine bp_n (x := v) Try.results71 rfl rfl ?_ ⟨by rw [e], ?_⟩
   ·exact ((Z.out.2.1.drew.chg HC7.out).nput_other hne' v).nput v
   ·exact ((Z.out.1.drew.trans HC7.out).nput (by omega) v).nput (by omega) v
 ·have HS : Hid (¬ o = 1) := hs
  have hd : (o == 1) = false := by simpa using hs
  obtain ⟨s0, s1, s2, s3⟩ := Ar.four (d := dg B64 0) Z.out.2.1
  obtain ⟨t0, t1, t2, t3⟩ := Z.out.2.1.free4
  clear hs
  go_wp2
  have hn := Z.out.2.2.2
  have e : L = (a - b) % mo f := sub_lt HF.out HL.out.1 HL.out.2 HS.out
  refine bp_n (x := L) Try.results71 rfl rfl ?_ ⟨by rw [e], ?_⟩
  ·exact Z.out.2.1.nput L
  ·exact Z.out.1.nput (by omega) L
end Go.Proofs.Ytbdgmkejmfjobaa

namespace Go.Proofs.Ytbdgmkejmfjobaa
set_option maxRecDepth 100000
open Go.RowKit
set_option linter.unusedVariables false
theorem low1 {d : Int} (h : W64 d) : bits .and .u64 d 1 = d % 2 := by
 obtain ⟨n, rfl⟩ := Int.eq_ofNat_of_zero_le h.1
 have hn := h.2
 have hm : (BitVec.ofInt 64 1).toNat = 1 := by decide
 show IntKind.u64.wrap ((BitVec.ofInt 64 n &&& BitVec.ofInt 64 1).toNat : Nat) = _
 rw [BitVec.toNat_and, BitVec.toNat_ofInt, hm, Nat.and_one_is_mod, IntKind.wrap_u64]
 omega
theorem dg_bit (x : Int) (q t : Nat) (ht : t < 64) : dg B64 x q / 2 ^ t % 2 = dg 2 x (64 * q + t) := by
 unfold dg
 have e1 : (2 : Int) ^ (64 * q + t) = B64 ^ q * 2 ^ t := by rw [Int.pow_add, Int.pow_mul]; rfl
 rw [e1, ← Int.ediv_ediv_of_nonneg (Int.le_of_lt (pow_pos' B64_pos q))]
 generalize x / B64 ^ q = y
 obtain ⟨k, hk⟩ : ∃ k : Nat, 64 = t + (k + 1) := ⟨63 - t, by omega⟩
 have e2 : B64 = 2 ^ t * (2 * 2 ^ k) := by
  have : (2 : Int) ^ 64 = 2 ^ t * (2 * 2 ^ k) := by rw [hk, Int.pow_add, Int.pow_succ, Int.mul_comm (2 ^ k) 2]
  rw [← this]
  rfl
 have hp : (0 : Int) < 2 ^ t := Int.pow_pos (by decide)
 rw [e2]
 generalize (2 : Int) ^ t = c at *
 generalize (2 : Int) ^ k = m
 have hy : y = y % (c * (2 * m)) + c * (2 * m * (y / (c * (2 * m)))) := by
  have := Int.emod_add_mul_ediv y (c * (2 * m))
  rw [Int.mul_assoc c (2 * m)] at this
  exact this.symm
 generalize y % (c * (2 * m)) = r at *
 generalize y / (c * (2 * m)) = s at *
 rw [hy, Int.add_mul_ediv_left _ _ (by omega), Int.mul_assoc 2 m s, Int.add_mul_emod_self_left]
set_option maxHeartbeats 8000000 in
theorem bit_any (x : Int) (i : Nat) (hi : i < 256) (w : World) : Calls Try.prog 89 #[.agg (num x), .int .i64 i] w fun r w' => r = .returned (.bool (dg 2 x i == 1)) ∧ Chg w w' := by
 have hsA := num_size x
 obtain ⟨A, hA⟩ : ∃ A, A = num x := ⟨_, rfl⟩
 have HA : Hid (A = num x) := hA
 rw [← hA] at hsA ⊢
 obtain ⟨q, hq⟩ : ∃ q : Nat, (i : Int).tdiv 64 = q := ⟨i / 64, by rw [Int.tdiv_eq_ediv_of_nonneg (by omega)]; omega⟩
 obtain ⟨t, ht⟩ : ∃ t : Nat, (i : Int).tmod 64 = t := ⟨i % 64, by rw [Int.tmod_eq_emod_of_nonneg (by omega)]; omega⟩
 have hq' : q = i / 64 := by rw [Int.tdiv_eq_ediv_of_nonneg (by omega)] at hq; omega
 have ht' : t = i % 64 := by rw [Int.tmod_eq_emod_of_nonneg (by omega)] at ht; omega
 have wq := wrap_i (x := (q : Int)) (by omega) (by omega)
 have wt := wrap_i (x := (t : Int)) (by omega) (by omega)
 have lt : ¬ (t : Int) < 0 := by omega
 have lt64 : t < 64 := by omega
 have lq : (q : Int) < 4 := by omega
 have lq' : q < 4 := by omega
 have hdw : W64 (dg B64 x q) := dg_w x q
 have hsw : W64 (dg B64 x q / 2 ^ t) := by
  have ⟨h0, h1⟩ := hdw
  have hp : (0 : Int) < 2 ^ t := Int.pow_pos (by decide)
  exact ⟨Int.ediv_nonneg h0 (by omega), Int.lt_of_le_of_lt (Int.ediv_le_self _ h0) h1⟩
 have em := low1 hsw
 rw [dg_bit x q t lt64] at em
 have ei : 64 * q + t = i := by omega
 rw [ei] at em
 obtain ⟨d, hd⟩ : ∃ d, d = dg B64 x q := ⟨_, rfl⟩
 obtain ⟨y, hy⟩ : ∃ y, y = dg 2 x i := ⟨_, rfl⟩
 rw [← hd, ← hy] at em
 rw [← hy]
 have HD : Hid (d = dg B64 x q) := hd
 clear hA hq' ht' hdw hsw ei hd hy
 go_enter Try.func89, Try.ntmps89
 go_upto_region 1 with fail
 obtain ⟨w1, hw1⟩ : ∃ w1, w1 = w.alloc (.cells A 24) := ⟨_, rfl⟩
 have Z : Hid (Chg w w1 ∧ Ar w1 w.heap.size (num x)) := by
  rw [hw1, HA.out]
  exact ⟨(Chg.refl w).alloc _, Ar.new w _ _⟩
 have c1 : w1.cell? ⟨w.heap.size, q, none⟩ = some (.int .u64 d) := by
  rw [HD.out]
  exact (Z.out.2.cell q).trans (arr_get _ _ _ lq')
 rw [← hw1]
 clear hw1 hsA
 go_wp2_with fail
 go_ret
 exact ⟨rfl, Z.out.1⟩
end Go.Proofs.Ytbdgmkejmfjobaa
