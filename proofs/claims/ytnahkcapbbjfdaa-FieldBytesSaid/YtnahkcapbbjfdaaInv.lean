/-
  Inverses; what may be a root modulo P-256's prime.
-/
import Derived.Test.YtnahkcapbbjfdaaExp
namespace Go.Proofs.Ytnahkcapbbjfdaa
open Go.RowKit
set_option linter.unusedVariables false

theorem num_set2 : (num 0).setIfInBounds 0 (.int .u64 2) = num 2 := by kernel_rfl
theorem N2 : N256 2 := ⟨by decide, by decide⟩
theorem mo_less {f : Int} (hf : f = 1 ∨ f = 2 ∨ f = 3 ∨ f = 4) : (mo f - 2) % R256 = mo f - 2 ∧ N256 (mo f - 2) := by
  rcases hf with rfl | rfl | rfl | rfl <;> exact ⟨by decide +kernel, by constructor <;> decide +kernel⟩

set_option maxRecDepth 100000 in
set_option maxHeartbeats 8000000 in
theorem inv_any (f a : Int) (hf : f = 1 ∨ f = 2 ∨ f = 3 ∨ f = 4) (ha : N256 a) (w : World) : Calls Try.prog 26 #[.int .i64 f, .agg (num a)] w fun r w' => r = .returned (.agg (num (a ^ (mo f - 2).toNat % mo f))) ∧ Chg w w' := by
  have HN : Hid (N256 a ∧ (f = 1 ∨ f = 2 ∨ f = 3 ∨ f = 4)) := ⟨ha, hf⟩
  have hz := zero25.1
  have hsA := num_size a
  have iA := infoN a
  have iL := infoN (mo f - 2)
  have k1 := fun W => modulus_any f W
  have k2 := fun W => minus_num (mo f) 2 (mo_N f) N2 W
  have k3 := fun W => exp_any f a (mo f - 2) hf ha (mo_less hf).2 W
  rw [(mo_less hf).1] at k2
  have sL := szN (mo f - 2)
  have lL := lenN 0 (mo f - 2)
  have oL := num_one (mo f - 2)
  obtain ⟨A, hA⟩ : ∃ A, A = num a := ⟨_, rfl⟩
  obtain ⟨M, hM⟩ : ∃ M, M = num (mo f) := ⟨_, rfl⟩
  obtain ⟨L, hL⟩ : ∃ L, L = num (mo f - 2) := ⟨_, rfl⟩
  obtain ⟨o, ho⟩ : ∃ o, o = bor (mo f) 2 := ⟨_, rfl⟩
  obtain ⟨X, hX⟩ : ∃ X, X = num (a ^ (mo f - 2).toNat % mo f) := ⟨_, rfl⟩
  have HXe : Hid (X = num (a ^ (mo f - 2).toNat % mo f)) := hX
  have sX : (Try.prog.info? 25).map (·.size) = some X.size := by rw [hX]; exact szN _
  have lX : (num 0).size = X.size := by rw [hX]; exact lenN _ _
  have oX : X.all (·.oneCell') = true := by rw [hX]; exact num_one _
  rw [← hA] at hsA iA k3 ⊢
  rw [← hM] at k1 k2
  rw [← hL] at iL k2 k3 sL lL oL
  rw [← ho] at k2
  rw [← hX] at k3
  have HK : Hid ((∀ W, Calls Try.prog 18 #[.int .i64 f] W fun r w' => r = .returned (.agg M) ∧ Chg W w') ∧ (∀ W, Calls Try.prog 42 #[.agg M, .agg (num 2)] W fun r w' => r = .returned (.tuple #[.agg L, .int .u64 o]) ∧ Chg W w') ∧ (∀ W, Calls Try.prog 22 #[.int .i64 f, .agg A, .agg L] W fun r w' => r = .returned (.agg X) ∧ Chg W w')) := ⟨k1, k2, k3⟩
  have HSz : Hid (((Try.prog.info? 25).map (·.size) = some L.size ∧ (num 0).size = L.size ∧ L.all (·.oneCell') = true) ∧ (Try.prog.info? 25).map (·.size) = some X.size ∧ (num 0).size = X.size ∧ X.all (·.oneCell') = true) := ⟨⟨sL, lL, oL⟩, sX, lX, oX⟩
  have HI : Hid ((Try.prog.info? 25).map (·.size) = some A.toList.length ∧ (Try.prog.info? 25).map (·.size) = some L.toList.length) := ⟨iA, iL⟩
  clear hA hM hL ho hX k1 k2 k3 ha hf sL lL oL sX lX oX iA iL
  go_enter Try.func26, Try.ntmps26
  go_upto_region 1 with fail
  obtain ⟨w1, hw1⟩ : ∃ w1, w1 = (w.alloc (.cells A 25)).alloc (.cells (num 0) 25) := ⟨_, rfl⟩
  have Z : Hid (Chg w w1 ∧ Ar w1 w.heap.size A ∧ Ar w1 (w.heap.size + 1) (num 0)) := by
    rw [hw1]
    exact ⟨((Chg.refl w).alloc _).alloc _, (Ar.new w _ _).alloc _, Ar.new1 w _ _ _⟩
  rw [← hw1]
  clear hw1 hsA
  go_wp2_with fail
  go_at_call 18
  refine (HK.out.1 _).mono ?_
  rintro r w2 ⟨rfl, hc2⟩
  have Z2 : Hid (Chg w w2 ∧ Ar w2 w.heap.size A ∧ Ar w2 (w.heap.size + 1) (num 0)) := ⟨Z.out.1.trans hc2, Z.out.2.1.chg hc2, Z.out.2.2.chg hc2⟩
  clear hc2 Z
  go_wp2_with fail
  rw [num_set2]
  go_at_call 42
  refine (HK.out.2.1 _).mono ?_
  rintro r w3 ⟨rfl, hc3⟩
  have Z3 : Hid (Chg w w3 ∧ Ar w3 w.heap.size A ∧ Ar w3 (w.heap.size + 1) (num 0)) := ⟨Z2.out.1.trans hc3, Z2.out.2.1.chg hc3, Z2.out.2.2.chg hc3⟩
  clear hc3 Z2
  obtain ⟨sL, lL, oL⟩ := HSz.out.1
  go_upto_region 2 with (first | refine wpList_store_row rfl 25 _ _ rfl _ _ rfl rfl _ _ (heap_alloc_last w3 _) sL lL oL ?_)
  obtain ⟨b, hb⟩ : ∃ b, b = w3.heap.size := ⟨_, rfl⟩
  obtain ⟨w4, hw4⟩ : ∃ w4, w4 = (w3.alloc (.cells (num 0) 25)).setRow w3.heap.size L := ⟨_, rfl⟩
  have Z4 : Hid (Chg w w4 ∧ Ar w4 w.heap.size A ∧ Ar w4 (w.heap.size + 1) (num 0) ∧ Ar w4 b L) := by
    have q := Z3.out
    have q1 := q.2.2.lt
    rw [hw4, hb]
    exact ⟨(q.1.alloc _).setRow (by omega) _, (q.2.1.alloc _).rowOther (by omega) _, (q.2.2.alloc _).rowOther (by omega) _, (Ar.new w3 _ _).row _⟩
  rw [← hw4, ← hb]
  clear hw4 hb Z3 sL lL oL
  obtain ⟨iA, iL⟩ := HI.out
  have r3 := rangeA Z4.out.2.1
  have r5 := rangeA Z4.out.2.2.2
  go_wp2_with (first
    | refine wpList_load_mid rfl 25 (.tmp 3) rfl _ _ rfl (A.toList) _ r3 u25 rfl iA ?_
    | refine wpList_load_mid rfl 25 (.tmp 5) rfl _ _ rfl (L.toList) _ r5 u25 rfl iL ?_)
  go_at_call 22
  refine (HK.out.2.2 _).mono ?_
  rintro r w5 ⟨rfl, hc5⟩
  have Z5 : Hid (Chg w w5 ∧ Ar w5 (w.heap.size + 1) (num 0)) := ⟨Z4.out.1.trans hc5, Z4.out.2.2.1.chg hc5⟩
  clear hc5 r3 r5 Z4 iA iL
  obtain ⟨sX, lX, oX⟩ := HSz.out.2
  obtain ⟨t, g⟩ := Z5.out.2
  go_wp2_with (first | refine wpList_store_row rfl 25 _ _ rfl _ _ rfl rfl _ _ g sX lX oX ?_)
  rw [HXe.out]
  refine bp_n (x := a ^ (mo f - 2).toNat % mo f) Try.results26 rfl rfl ?_ ⟨rfl, Z5.out.1.setRow (by omega) _⟩
  exact Z5.out.2.row _

/-- (p + 1) / 4 of P-256's prime. -/
def e256 : Int := (mo 2 + 1) / 4
theorem num_e256 : ((((num 0).setIfInBounds 0 (.int .u64 0)).setIfInBounds 1 (.int .u64 1073741824)).setIfInBounds 2 (.int .u64 4611686018427387904)).setIfInBounds 3 (.int .u64 4611686017353646080) = num e256 := by kernel_rfl
theorem N_e256 : N256 e256 := by constructor <;> decide +kernel

set_option maxRecDepth 100000 in
set_option maxHeartbeats 8000000 in
theorem maybe2_any (a : Int) (ha : N256 a) (w : World) : Calls Try.prog 58 #[.agg (num a)] w fun r w' => r = .returned (.agg (num (a ^ e256.toNat % mo 2))) ∧ Chg w w' := by
  have hz := zero25.1
  have hsA := num_size a
  have k3 := fun W => exp_any 2 a e256 (.inr (.inl rfl)) ha N_e256 W
  obtain ⟨A, hA⟩ : ∃ A, A = num a := ⟨_, rfl⟩
  obtain ⟨L, hL⟩ : ∃ L, L = num e256 := ⟨_, rfl⟩
  obtain ⟨X, hX⟩ : ∃ X, X = num (a ^ e256.toNat % mo 2) := ⟨_, rfl⟩
  have HXe : Hid (X = num (a ^ e256.toNat % mo 2)) := hX
  have HSz : Hid (((Try.prog.info? 25).map (·.size) = some L.size ∧ (num 0).size = L.size ∧ L.all (·.oneCell') = true) ∧ (Try.prog.info? 25).map (·.size) = some X.size ∧ (num 0).size = X.size ∧ X.all (·.oneCell') = true) := by
    rw [hL, hX]
    exact ⟨⟨szN _, lenN _ _, num_one _⟩, szN _, lenN _ _, num_one _⟩
  have HI : Hid ((Try.prog.info? 25).map (·.size) = some A.toList.length ∧ (Try.prog.info? 25).map (·.size) = some L.toList.length) := by
    rw [hA, hL]
    exact ⟨infoN _, infoN _⟩
  rw [← hA] at hsA k3 ⊢
  rw [← hL] at k3
  rw [← hX] at k3
  have HL : Hid (L = num e256) := hL
  have HK : Hid (∀ W, Calls Try.prog 22 #[.int .i64 2, .agg A, .agg L] W fun r w' => r = .returned (.agg X) ∧ Chg W w') := k3
  clear hA hL hX k3 ha
  go_enter Try.func58, Try.ntmps58
  go_upto_region 1 with fail
  obtain ⟨w1, hw1⟩ : ∃ w1, w1 = (w.alloc (.cells A 25)).alloc (.cells (num 0) 25) := ⟨_, rfl⟩
  have Z : Hid (Chg w w1 ∧ Ar w1 w.heap.size A ∧ Ar w1 (w.heap.size + 1) (num 0)) := by
    rw [hw1]
    exact ⟨((Chg.refl w).alloc _).alloc _, (Ar.new w _ _).alloc _, Ar.new1 w _ _ _⟩
  rw [← hw1]
  clear hw1 hsA
  go_upto_region 2 with (first | refine wpList_store_row rfl 25 _ _ rfl _ _ rfl rfl _ _ (heap_alloc_last w1 _) (by rw [num_e256]; exact szN _) (by rw [num_e256]; exact lenN _ _) (by rw [num_e256]; exact num_one _) ?_)
  rw [num_e256, ← HL.out]
  obtain ⟨b, hb⟩ : ∃ b, b = w1.heap.size := ⟨_, rfl⟩
  obtain ⟨w4, hw4⟩ : ∃ w4, w4 = (w1.alloc (.cells (num 0) 25)).setRow w1.heap.size L := ⟨_, rfl⟩
  have Z4 : Hid (Chg w w4 ∧ Ar w4 w.heap.size A ∧ Ar w4 (w.heap.size + 1) (num 0) ∧ Ar w4 b L) := by
    have q := Z.out
    have q1 := q.2.2.lt
    rw [hw4, hb]
    exact ⟨(q.1.alloc _).setRow (by omega) _, (q.2.1.alloc _).rowOther (by omega) _, (q.2.2.alloc _).rowOther (by omega) _, (Ar.new w1 _ _).row _⟩
  rw [← hw4, ← hb]
  clear hw4 hb Z
  obtain ⟨iA, iL⟩ := HI.out
  have r3 := rangeA Z4.out.2.1
  have r5 := rangeA Z4.out.2.2.2
  go_wp2_with (first
    | refine wpList_load_mid rfl 25 (.tmp 1) rfl _ _ rfl (A.toList) _ r3 u25 rfl iA ?_
    | refine wpList_load_mid rfl 25 (.tmp 3) rfl _ _ rfl (L.toList) _ r5 u25 rfl iL ?_)
  go_at_call 22
  refine (HK.out _).mono ?_
  rintro r w5 ⟨rfl, hc5⟩
  have Z5 : Hid (Chg w w5 ∧ Ar w5 (w.heap.size + 1) (num 0)) := ⟨Z4.out.1.trans hc5, Z4.out.2.2.1.chg hc5⟩
  clear hc5 r3 r5 Z4 iA iL
  obtain ⟨sX, lX, oX⟩ := HSz.out.2
  obtain ⟨t, g⟩ := Z5.out.2
  go_wp2_with (first | refine wpList_store_row rfl 25 _ _ rfl _ _ rfl rfl _ _ g sX lX oX ?_)
  rw [HXe.out]
  refine bp_n (x := a ^ e256.toNat % mo 2) Try.results58 rfl rfl ?_ ⟨rfl, Z5.out.1.setRow (by omega) _⟩
  exact Z5.out.2.row _
end Go.Proofs.Ytnahkcapbbjfdaa
