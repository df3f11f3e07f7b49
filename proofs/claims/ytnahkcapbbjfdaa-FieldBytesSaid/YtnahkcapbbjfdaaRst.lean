/-
  What a number leaves in a field; products.
-/
import Derived.Test.YtnahkcapbbjfdaaRdc
namespace Go.Proofs.Ytnahkcapbbjfdaa
open Go.RowKit
set_option linter.unusedVariables false

theorem rangeA {w : World} {b : Nat} {A : Array Value} (h : Ar w b A) : w.rangeAt b 0 A.toList := by
  intro j v hv
  rw [Nat.zero_add, h.cell]
  simpa using hv
theorem N512_of {a : Int} (h : N256 a) : N512 a := ⟨h.1, Int.lt_trans h.2 (by decide)⟩

set_option maxRecDepth 100000 in
set_option maxHeartbeats 8000000 in
theorem mul_any (f a b : Int) (hf : f = 1 ∨ f = 2 ∨ f = 3 ∨ f = 4) (ha : N256 a) (hb : N256 b) (w : World) : Calls Try.prog 14 #[.int .i64 f, .agg (num a), .agg (num b)] w fun r w' => r = .returned (.agg (num (a * b % mo f))) ∧ Chg w w' := by
  have HN : Hid (N256 a ∧ N256 b ∧ (f = 1 ∨ f = 2 ∨ f = 3 ∨ f = 4)) := ⟨ha, hb, hf⟩
  have hz := zero25.1
  have hsA := num_size a
  have hsB := num_size b
  have iA := infoN a
  have iB := infoN b
  obtain ⟨A, hA⟩ : ∃ A, A = num a := ⟨_, rfl⟩
  obtain ⟨B, hB⟩ : ∃ B, B = num b := ⟨_, rfl⟩
  have HA : Hid (A = num a ∧ B = num b) := ⟨hA, hB⟩
  rw [← hA] at hsA iA ⊢
  rw [← hB] at hsB iB ⊢
  clear hA hB ha hb hf
  go_enter Try.func14, Try.ntmps14
  go_upto_region 1 with fail
  obtain ⟨w1, hw1⟩ : ∃ w1, w1 = ((w.alloc (.cells A 25)).alloc (.cells B 25)).alloc (.cells (num 0) 25) := ⟨_, rfl⟩
  have Z : Hid (Chg w w1 ∧ Ar w1 w.heap.size A ∧ Ar w1 (w.heap.size + 1) B ∧ Ar w1 (w.heap.size + 1 + 1) (num 0)) := by
    rw [hw1]
    exact ⟨(((Chg.refl w).alloc _).alloc _).alloc _, ((Ar.new w _ _).alloc _).alloc _, (Ar.new1 w _ _ _).alloc _, Ar.new2 w _ _ _ _⟩
  rw [← hw1]
  clear hw1 hsA hsB hz
  have r1 := rangeA Z.out.2.1
  have r2 := rangeA Z.out.2.2.1
  go_wp2_with (first
    | refine wpList_load_mid rfl 25 (.tmp 4) rfl _ _ rfl (A.toList) _ r1 u25 rfl iA ?_
    | refine wpList_load_mid rfl 25 (.tmp 5) rfl _ _ rfl (B.toList) _ r2 u25 rfl iB ?_)
  go_at_call 48
  have k := fun W => product_num a b HN.out.1 HN.out.2.1 W
  rw [← HA.out.1, ← HA.out.2] at k
  refine (k _).mono ?_
  rintro r w2 ⟨hr, hc2⟩
  have Z2 : Hid (Chg w w2 ∧ Ar w2 (w.heap.size + 1 + 1) (num 0)) := ⟨Z.out.1.trans hc2, Z.out.2.2.2.chg hc2⟩
  have k2 := fun W => reduce_any f (a * b) HN.out.2.2 (mul_N512 HN.out.1 HN.out.2.1) W
  obtain ⟨C, hC⟩ : ∃ C, C = wid (a * b) := ⟨_, rfl⟩
  rw [← hC] at hr k2
  subst hr
  obtain ⟨M, hM⟩ : ∃ M, M = num (a * b % mo f) := ⟨_, rfl⟩
  have HM : Hid (M = num (a * b % mo f)) := hM
  rw [← hM] at k2
  have HK : Hid (∀ W, Calls Try.prog 47 #[.int .i64 f, .agg C] W fun r w' => r = .returned (.agg M) ∧ Chg W w') := k2
  have s1 : (Try.prog.info? 25).map (·.size) = some M.size := by rw [hM]; exact szN _
  have l1 : (num 0).size = M.size := by rw [hM]; exact lenN _ _
  have o1 : M.all (·.oneCell') = true := by rw [hM]; exact num_one _
  clear hc2 hC hM k k2 r1 r2 Z
  go_wp2_with fail
  go_at_call 47
  refine (HK.out _).mono ?_
  rintro r w3 ⟨rfl, hc3⟩
  have Z3 : Hid (Chg w w3 ∧ Ar w3 (w.heap.size + 1 + 1) (num 0)) := ⟨Z2.out.1.trans hc3, Z2.out.2.chg hc3⟩
  obtain ⟨t, g⟩ := Z3.out.2
  clear hc3
  go_wp2_with (first | refine wpList_store_row rfl 25 _ _ rfl _ _ rfl rfl _ _ g s1 l1 o1 ?_)
  rw [HM.out]
  refine bp_n (x := a * b % mo f) Try.results14 rfl rfl ?_ ⟨rfl, Z3.out.1.setRow (by omega) _⟩
  exact Z3.out.2.row _

set_option maxRecDepth 100000 in
set_option maxHeartbeats 8000000 in
theorem rest_any (f a : Int) (hf : f = 1 ∨ f = 2 ∨ f = 3 ∨ f = 4) (ha : N256 a) (w : World) : Calls Try.prog 41 #[.int .i64 f, .agg (num a)] w fun r w' => r = .returned (.agg (num (a % mo f))) ∧ Chg w w' := by
  have HN : Hid (N256 a ∧ (f = 1 ∨ f = 2 ∨ f = 3 ∨ f = 4)) := ⟨ha, hf⟩
  have hz := zero25.1
  have hsA := num_size a
  have iA := infoN a
  have s2 := szN a
  have l2 := lenN 0 a
  have o2 := num_one a
  have k1 := fun W => right_any f a ha W
  have k3 := fun W => join_num a 0 ha ⟨by decide, by decide⟩ W
  have k4 := fun W => reduce_any f (a + R256 * 0) hf (by rw [Int.mul_zero, Int.add_zero]; exact N512_of ha) W
  rw [Int.mul_zero, Int.add_zero] at k3 k4
  obtain ⟨A, hA⟩ : ∃ A, A = num a := ⟨_, rfl⟩
  obtain ⟨C, hC⟩ : ∃ C, C = wid a := ⟨_, rfl⟩
  obtain ⟨M, hM⟩ : ∃ M, M = num (a % mo f) := ⟨_, rfl⟩
  have HA : Hid (A = num a ∧ M = num (a % mo f)) := ⟨hA, hM⟩
  rw [← hA] at hsA iA k1 k3 s2 l2 o2 ⊢
  rw [← hC] at k3 k4
  rw [← hM] at k4
  have s1 : (Try.prog.info? 25).map (·.size) = some M.size := by rw [hM]; exact szN _
  have l1 : (num 0).size = M.size := by rw [hM]; exact lenN _ _
  have o1 : M.all (·.oneCell') = true := by rw [hM]; exact num_one _
  have HK : Hid ((∀ W, Calls Try.prog 20 #[.int .i64 f, .agg A] W fun r w' => r = .returned (.bool (decide (a < mo f))) ∧ Chg W w') ∧ (∀ W, Calls Try.prog 60 #[.agg A, .agg (num 0)] W fun r w' => r = .returned (.agg C) ∧ Chg W w') ∧ (∀ W, Calls Try.prog 47 #[.int .i64 f, .agg C] W fun r w' => r = .returned (.agg M) ∧ Chg W w')) := ⟨k1, k3, k4⟩
  clear hA ha hf hC hM k1 k3 k4
  go_enter Try.func41, Try.ntmps41
  go_upto_region 1 with fail
  obtain ⟨w1, hw1⟩ : ∃ w1, w1 = (w.alloc (.cells A 25)).alloc (.cells (num 0) 25) := ⟨_, rfl⟩
  have Z : Hid (Chg w w1 ∧ Ar w1 w.heap.size A ∧ Ar w1 (w.heap.size + 1) (num 0)) := by
    rw [hw1]
    exact ⟨((Chg.refl w).alloc _).alloc _, (Ar.new w _ _).alloc _, Ar.new1 w _ _ _⟩
  rw [← hw1]
  clear hw1 hsA
  have r1 := rangeA Z.out.2.1
  go_wp2_with (first
    | refine wpList_load_mid rfl 25 (.tmp 3) rfl _ _ rfl (A.toList) _ r1 u25 rfl iA ?_)
  go_at_call 20
  refine (HK.out.1 _).mono ?_
  rintro r w2 ⟨rfl, hc2⟩
  have Z2 : Hid (Chg w w2 ∧ Ar w2 w.heap.size A ∧ Ar w2 (w.heap.size + 1) (num 0)) := ⟨Z.out.1.trans hc2, Z.out.2.1.chg hc2, Z.out.2.2.chg hc2⟩
  clear hc2 r1 Z
  have r2 := rangeA Z2.out.2.1
  by_cases hlt : a < mo f
  · have hd : decide (a < mo f) = true := by simp [hlt]
    have HL : Hid (a < mo f) := hlt
    clear hlt
    obtain ⟨t, g⟩ := Z2.out.2.2
    go_wp2_with (first
      | refine wpList_load_mid rfl 25 (.tmp 3) rfl _ _ rfl (A.toList) _ r2 u25 rfl iA ?_
      | refine wpList_store_row rfl 25 _ _ rfl _ _ rfl rfl _ _ g s2 l2 o2 ?_)
    have e : a = a % mo f := (Int.emod_eq_of_lt HN.out.1.1 HL.out).symm
    have eA : A = num (a % mo f) := by rw [← e]; exact HA.out.1
    refine bp_n (x := a % mo f) Try.results41 rfl rfl ?_ ⟨rfl, Z2.out.1.setRow (by omega) _⟩
    rw [← eA]
    exact Z2.out.2.2.row _
  · have hd : decide (a < mo f) = false := by simp; omega
    clear hlt
    go_wp2_with (first
      | refine wpList_load_mid rfl 25 (.tmp 3) rfl _ _ rfl (A.toList) _ r2 u25 rfl iA ?_)
    go_at_call 60
    refine (HK.out.2.1 _).mono ?_
    rintro r w3 ⟨rfl, hc3⟩
    have Z3 : Hid (Chg w w3 ∧ Ar w3 (w.heap.size + 1) (num 0)) := ⟨Z2.out.1.trans hc3, Z2.out.2.2.chg hc3⟩
    clear hc3 r2 Z2
    go_wp2_with fail
    go_at_call 47
    refine (HK.out.2.2 _).mono ?_
    rintro r w4 ⟨rfl, hc4⟩
    have Z4 : Hid (Chg w w4 ∧ Ar w4 (w.heap.size + 1) (num 0)) := ⟨Z3.out.1.trans hc4, Z3.out.2.chg hc4⟩
    obtain ⟨t, g⟩ := Z4.out.2
    clear hc4 Z3
    go_wp2_with (first | refine wpList_store_row rfl 25 _ _ rfl _ _ rfl rfl _ _ g s1 l1 o1 ?_)
    rw [HA.out.2]
    refine bp_n (x := a % mo f) Try.results41 rfl rfl ?_ ⟨rfl, Z4.out.1.setRow (by omega) _⟩
    exact Z4.out.2.row _
end Go.Proofs.Ytnahkcapbbjfdaa
