/-
  The field's sums, differences, products, as the document calls them.
-/
import Derived.Test.YtiehjhlekpjlaaaJo
import Derived.Test.YtiehjhlekpjlaaaJl
namespace Go.Proofs.Ytiehjhlekpjlaaa
open Go.RowKit
set_option linter.unusedVariables false

set_option maxRecDepth 100000 in
set_option maxHeartbeats 4000000 in
theorem addY_any (a b : Int) (ha : N256 a) (hb : N256 b) (w : World) : Calls Try.prog 22 #[.agg (num a), .agg (num b)] w fun r w' => r = .returned (.agg (num (md 1 (a + b)))) ∧ Chg w w' := by
  have hz := zero25.1
  have hsA := num_size a
  have hsB := num_size b
  have iA := infoN a
  have iB := infoN b
  have s1 := szN (md 1 (a + b))
  have l1 := lenN 0 (md 1 (a + b))
  have o1 := num_one (md 1 (a + b))
  have k := fun W => addR_any 1 a b ha hb W
  obtain ⟨A, hA⟩ : ∃ A, A = num a := ⟨_, rfl⟩
  obtain ⟨B, hB⟩ : ∃ B, B = num b := ⟨_, rfl⟩
  obtain ⟨M, hM⟩ : ∃ M, M = num (md 1 (a + b)) := ⟨_, rfl⟩
  have HM : Hid (M = num (md 1 (a + b))) := hM
  rw [← hA] at hsA iA k ⊢
  rw [← hB] at hsB iB k ⊢
  rw [← hM] at s1 l1 o1 k ⊢
  have HK : Hid (∀ W, Calls Try.prog 35 #[.int .i64 1, .agg A, .agg B] W fun r w' => r = .returned (.agg M) ∧ Chg W w') := k
  clear hA hB hM k ha hb
  go_enter Try.func22, Try.ntmps22
  go_upto_region 1 with fail
  obtain ⟨w1, hw1⟩ : ∃ w1, w1 = ((w.alloc (.cells A 34)).alloc (.cells B 34)).alloc (.cells (num 0) 34) := ⟨_, rfl⟩
  have Z : Hid (Chg w w1 ∧ Ar w1 w.heap.size A ∧ Ar w1 (w.heap.size + 1) B ∧ Ar w1 (w.heap.size + 1 + 1) (num 0)) := by
    rw [hw1]
    exact ⟨(((Chg.refl w).alloc _).alloc _).alloc _, ((Ar.new w _ _).alloc _).alloc _, (Ar.new1 w _ _ _).alloc _, Ar.new2 w _ _ _ _⟩
  rw [← hw1]
  clear hw1 hsA hsB hz
  have r1 := rangeA Z.out.2.1
  have r2 := rangeA Z.out.2.2.1
  go_wp2_with (first
    | refine wpList_load_mid rfl 34 (.tmp 2) rfl _ _ rfl (A.toList) _ r1 u25 rfl iA ?_
    | refine wpList_load_mid rfl 34 (.tmp 3) rfl _ _ rfl (B.toList) _ r2 u25 rfl iB ?_)
  go_at_call 35
  refine (HK.out _).mono ?_
  rintro r w2 ⟨rfl, hc2⟩
  have Z2 : Hid (Chg w w2 ∧ Ar w2 (w.heap.size + 1 + 1) (num 0)) := ⟨Z.out.1.trans hc2, Z.out.2.2.2.chg hc2⟩
  obtain ⟨t, g⟩ := Z2.out.2
  clear hc2 r1 r2 Z
  go_wp2_with (first | refine wpList_store_row rfl 34 _ _ rfl _ _ rfl rfl _ _ g s1 l1 o1 ?_)
  rw [HM.out]
  refine bp_n (x := md 1 (a + b)) Try.results22 rfl rfl ?_ ⟨rfl, Z2.out.1.setRow (by omega) _⟩
  exact Z2.out.2.row _

set_option maxRecDepth 100000 in
set_option maxHeartbeats 4000000 in
theorem subY_any (a b : Int) (ha : N256 a) (hb : N256 b) (w : World) : Calls Try.prog 23 #[.agg (num a), .agg (num b)] w fun r w' => r = .returned (.agg (num (md 1 (a - b)))) ∧ Chg w w' := by
  have hz := zero25.1
  have hsA := num_size a
  have hsB := num_size b
  have iA := infoN a
  have iB := infoN b
  have s1 := szN (md 1 (a - b))
  have l1 := lenN 0 (md 1 (a - b))
  have o1 := num_one (md 1 (a - b))
  have k := fun W => subR_any 1 a b ha hb W
  obtain ⟨A, hA⟩ : ∃ A, A = num a := ⟨_, rfl⟩
  obtain ⟨B, hB⟩ : ∃ B, B = num b := ⟨_, rfl⟩
  obtain ⟨M, hM⟩ : ∃ M, M = num (md 1 (a - b)) := ⟨_, rfl⟩
  have HM : Hid (M = num (md 1 (a - b))) := hM
  rw [← hA] at hsA iA k ⊢
  rw [← hB] at hsB iB k ⊢
  rw [← hM] at s1 l1 o1 k ⊢
  have HK : Hid (∀ W, Calls Try.prog 36 #[.int .i64 1, .agg A, .agg B] W fun r w' => r = .returned (.agg M) ∧ Chg W w') := k
  clear hA hB hM k ha hb
  go_enter Try.func23, Try.ntmps23
  go_upto_region 1 with fail
  obtain ⟨w1, hw1⟩ : ∃ w1, w1 = ((w.alloc (.cells A 34)).alloc (.cells B 34)).alloc (.cells (num 0) 34) := ⟨_, rfl⟩
  have Z : Hid (Chg w w1 ∧ Ar w1 w.heap.size A ∧ Ar w1 (w.heap.size + 1) B ∧ Ar w1 (w.heap.size + 1 + 1) (num 0)) := by
    rw [hw1]
    exact ⟨(((Chg.refl w).alloc _).alloc _).alloc _, ((Ar.new w _ _).alloc _).alloc _, (Ar.new1 w _ _ _).alloc _, Ar.new2 w _ _ _ _⟩
  rw [← hw1]
  clear hw1 hsA hsB hz
  have r1 := rangeA Z.out.2.1
  have r2 := rangeA Z.out.2.2.1
  go_wp2_with (first
    | refine wpList_load_mid rfl 34 (.tmp 2) rfl _ _ rfl (A.toList) _ r1 u25 rfl iA ?_
    | refine wpList_load_mid rfl 34 (.tmp 3) rfl _ _ rfl (B.toList) _ r2 u25 rfl iB ?_)
  go_at_call 36
  refine (HK.out _).mono ?_
  rintro r w2 ⟨rfl, hc2⟩
  have Z2 : Hid (Chg w w2 ∧ Ar w2 (w.heap.size + 1 + 1) (num 0)) := ⟨Z.out.1.trans hc2, Z.out.2.2.2.chg hc2⟩
  obtain ⟨t, g⟩ := Z2.out.2
  clear hc2 r1 r2 Z
  go_wp2_with (first | refine wpList_store_row rfl 34 _ _ rfl _ _ rfl rfl _ _ g s1 l1 o1 ?_)
  rw [HM.out]
  refine bp_n (x := md 1 (a - b)) Try.results23 rfl rfl ?_ ⟨rfl, Z2.out.1.setRow (by omega) _⟩
  exact Z2.out.2.row _

set_option maxRecDepth 100000 in
set_option maxHeartbeats 4000000 in
theorem mulY_any (a b : Int) (ha : N256 a) (hb : N256 b) (w : World) : Calls Try.prog 24 #[.agg (num a), .agg (num b)] w fun r w' => r = .returned (.agg (num (md 1 (a * b)))) ∧ Chg w w' := by
  have hz := zero25.1
  have hsA := num_size a
  have hsB := num_size b
  have iA := infoN a
  have iB := infoN b
  have s1 := szN (md 1 (a * b))
  have l1 := lenN 0 (md 1 (a * b))
  have o1 := num_one (md 1 (a * b))
  have k := fun W => mulR_any 1 a b ha hb W
  obtain ⟨A, hA⟩ : ∃ A, A = num a := ⟨_, rfl⟩
  obtain ⟨B, hB⟩ : ∃ B, B = num b := ⟨_, rfl⟩
  obtain ⟨M, hM⟩ : ∃ M, M = num (md 1 (a * b)) := ⟨_, rfl⟩
  have HM : Hid (M = num (md 1 (a * b))) := hM
  rw [← hA] at hsA iA k ⊢
  rw [← hB] at hsB iB k ⊢
  rw [← hM] at s1 l1 o1 k ⊢
  have HK : Hid (∀ W, Calls Try.prog 37 #[.int .i64 1, .agg A, .agg B] W fun r w' => r = .returned (.agg M) ∧ Chg W w') := k
  clear hA hB hM k ha hb
  go_enter Try.func24, Try.ntmps24
  go_upto_region 1 with fail
  obtain ⟨w1, hw1⟩ : ∃ w1, w1 = ((w.alloc (.cells A 34)).alloc (.cells B 34)).alloc (.cells (num 0) 34) := ⟨_, rfl⟩
  have Z : Hid (Chg w w1 ∧ Ar w1 w.heap.size A ∧ Ar w1 (w.heap.size + 1) B ∧ Ar w1 (w.heap.size + 1 + 1) (num 0)) := by
    rw [hw1]
    exact ⟨(((Chg.refl w).alloc _).alloc _).alloc _, ((Ar.new w _ _).alloc _).alloc _, (Ar.new1 w _ _ _).alloc _, Ar.new2 w _ _ _ _⟩
  rw [← hw1]
  clear hw1 hsA hsB hz
  have r1 := rangeA Z.out.2.1
  have r2 := rangeA Z.out.2.2.1
  go_wp2_with (first
    | refine wpList_load_mid rfl 34 (.tmp 2) rfl _ _ rfl (A.toList) _ r1 u25 rfl iA ?_
    | refine wpList_load_mid rfl 34 (.tmp 3) rfl _ _ rfl (B.toList) _ r2 u25 rfl iB ?_)
  go_at_call 37
  refine (HK.out _).mono ?_
  rintro r w2 ⟨rfl, hc2⟩
  have Z2 : Hid (Chg w w2 ∧ Ar w2 (w.heap.size + 1 + 1) (num 0)) := ⟨Z.out.1.trans hc2, Z.out.2.2.2.chg hc2⟩
  obtain ⟨t, g⟩ := Z2.out.2
  clear hc2 r1 r2 Z
  go_wp2_with (first | refine wpList_store_row rfl 34 _ _ rfl _ _ rfl rfl _ _ g s1 l1 o1 ?_)
  rw [HM.out]
  refine bp_n (x := md 1 (a * b)) Try.results24 rfl rfl ?_ ⟨rfl, Z2.out.1.setRow (by omega) _⟩
  exact Z2.out.2.row _

end Go.Proofs.Ytiehjhlekpjlaaa
