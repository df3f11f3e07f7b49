/-
  What a number of eight digits leaves in a field.
-/
import Derived.Test.YtnahkcapbbjfdaaOrd4
import Derived.Test.YtnahkcapbbjfdaaSm
namespace Go.Proofs.Ytnahkcapbbjfdaa
open Go.RowKit
set_option linter.unusedVariables false

set_option maxRecDepth 100000 in
set_option maxHeartbeats 8000000 in
theorem reduce_any (f x : Int) (hf : f = 1 ∨ f = 2 ∨ f = 3 ∨ f = 4) (hx : N512 x) (w : World) : Calls Try.prog 47 #[.int .i64 f, .agg (wid x)] w fun r w' => r = .returned (.agg (num (x % mo f))) ∧ Chg w w' := by
  have HX : Hid (N512 x) := hx
  have hz := zero25.1
  have hsA := wid_size x
  obtain ⟨A, hA⟩ : ∃ A, A = wid x := ⟨_, rfl⟩
  have HA : Hid (A = wid x) := hA
  rw [← hA] at hsA ⊢
  clear hA hx
  go_enter Try.func47, Try.ntmps47
  go_upto_region 1 with fail
  obtain ⟨w1, hw1⟩ : ∃ w1, w1 = (w.alloc (.cells A 55)).alloc (.cells (num 0) 25) := ⟨_, rfl⟩
  have Z : Hid (Chg w w1 ∧ Ar w1 w.heap.size (wid x) ∧ Ar w1 (w.heap.size + 1) (num 0)) := by
    rw [hw1, HA.out]
    exact ⟨((Chg.refl w).alloc _).alloc _, (Ar.new w _ _).alloc _, Ar.new1 w _ _ _⟩
  rw [← hw1]
  clear hw1 hsA hz
  rcases hf with rfl | rfl | rfl | rfl
  · have r1 := rangeW Z.out.2.1
    go_wp2_with (first
      | refine wpList_load_mid rfl 55 _ rfl _ _ rfl ((wid x).toList) _ r1 und55 rfl (infoW _) ?_)
    go_at_call 68
    refine (red1_any x HX.out _).mono ?_
    rintro r w2 ⟨rfl, hc2⟩
    have Z2 : Hid (Chg w w2 ∧ Ar w2 (w.heap.size + 1) (num 0)) := ⟨Z.out.1.trans hc2, Z.out.2.2.chg hc2⟩
    obtain ⟨M, hM⟩ : ∃ M, M = num (x % mo 1) := ⟨_, rfl⟩
    have HM : Hid (M = num (x % mo 1)) := hM
    have s1 : (Try.prog.info? 25).map (·.size) = some M.size := by rw [hM]; exact szN _
    have l1 : (num 0).size = M.size := by rw [hM]; exact lenN _ _
    have o1 : M.all (·.oneCell') = true := by rw [hM]; exact num_one _
    obtain ⟨t, g⟩ := Z2.out.2
    rw [← hM]
    clear hc2 hM r1
    go_wp2_with (first | refine wpList_store_row rfl 25 _ _ rfl _ _ rfl rfl _ _ g s1 l1 o1 ?_)
    refine bp_n (x := x % mo 1) Try.results47 rfl rfl ?_ ⟨rfl, Z2.out.1.setRow (by omega) _⟩
    rw [← HM.out]
    exact Z2.out.2.row _
  · have r1 := rangeW Z.out.2.1
    go_wp2_with (first
      | refine wpList_load_mid rfl 55 _ rfl _ _ rfl ((wid x).toList) _ r1 und55 rfl (infoW _) ?_)
    go_at_call 69
    refine (red2_any x HX.out _).mono ?_
    rintro r w2 ⟨rfl, hc2⟩
    have Z2 : Hid (Chg w w2 ∧ Ar w2 (w.heap.size + 1) (num 0)) := ⟨Z.out.1.trans hc2, Z.out.2.2.chg hc2⟩
    obtain ⟨M, hM⟩ : ∃ M, M = num (x % mo 2) := ⟨_, rfl⟩
    have HM : Hid (M = num (x % mo 2)) := hM
    have s1 : (Try.prog.info? 25).map (·.size) = some M.size := by rw [hM]; exact szN _
    have l1 : (num 0).size = M.size := by rw [hM]; exact lenN _ _
    have o1 : M.all (·.oneCell') = true := by rw [hM]; exact num_one _
    obtain ⟨t, g⟩ := Z2.out.2
    rw [← hM]
    clear hc2 hM r1
    go_wp2_with (first | refine wpList_store_row rfl 25 _ _ rfl _ _ rfl rfl _ _ g s1 l1 o1 ?_)
    refine bp_n (x := x % mo 2) Try.results47 rfl rfl ?_ ⟨rfl, Z2.out.1.setRow (by omega) _⟩
    rw [← HM.out]
    exact Z2.out.2.row _
  · have r1 := rangeW Z.out.2.1
    go_wp2_with (first
      | refine wpList_load_mid rfl 55 _ rfl _ _ rfl ((wid x).toList) _ r1 und55 rfl (infoW _) ?_)
    go_at_call 70
    refine (ord3_any x HX.out _).mono ?_
    rintro r w2 ⟨rfl, hc2⟩
    have Z2 : Hid (Chg w w2 ∧ Ar w2 (w.heap.size + 1) (num 0)) := ⟨Z.out.1.trans hc2, Z.out.2.2.chg hc2⟩
    obtain ⟨M, hM⟩ : ∃ M, M = num (x % mo 3) := ⟨_, rfl⟩
    have HM : Hid (M = num (x % mo 3)) := hM
    have s1 : (Try.prog.info? 25).map (·.size) = some M.size := by rw [hM]; exact szN _
    have l1 : (num 0).size = M.size := by rw [hM]; exact lenN _ _
    have o1 : M.all (·.oneCell') = true := by rw [hM]; exact num_one _
    obtain ⟨t, g⟩ := Z2.out.2
    rw [← hM]
    clear hc2 hM r1
    go_wp2_with (first | refine wpList_store_row rfl 25 _ _ rfl _ _ rfl rfl _ _ g s1 l1 o1 ?_)
    refine bp_n (x := x % mo 3) Try.results47 rfl rfl ?_ ⟨rfl, Z2.out.1.setRow (by omega) _⟩
    rw [← HM.out]
    exact Z2.out.2.row _
  · have r1 := rangeW Z.out.2.1
    go_wp2_with (first
      | refine wpList_load_mid rfl 55 _ rfl _ _ rfl ((wid x).toList) _ r1 und55 rfl (infoW _) ?_)
    go_at_call 71
    refine (ord4_any x HX.out _).mono ?_
    rintro r w2 ⟨rfl, hc2⟩
    have Z2 : Hid (Chg w w2 ∧ Ar w2 (w.heap.size + 1) (num 0)) := ⟨Z.out.1.trans hc2, Z.out.2.2.chg hc2⟩
    obtain ⟨M, hM⟩ : ∃ M, M = num (x % mo 4) := ⟨_, rfl⟩
    have HM : Hid (M = num (x % mo 4)) := hM
    have s1 : (Try.prog.info? 25).map (·.size) = some M.size := by rw [hM]; exact szN _
    have l1 : (num 0).size = M.size := by rw [hM]; exact lenN _ _
    have o1 : M.all (·.oneCell') = true := by rw [hM]; exact num_one _
    obtain ⟨t, g⟩ := Z2.out.2
    rw [← hM]
    clear hc2 hM r1
    go_wp2_with (first | refine wpList_store_row rfl 25 _ _ rfl _ _ rfl rfl _ _ g s1 l1 o1 ?_)
    refine bp_n (x := x % mo 4) Try.results47 rfl rfl ?_ ⟨rfl, Z2.out.1.setRow (by omega) _⟩
    rw [← HM.out]
    exact Z2.out.2.row _
end Go.Proofs.Ytnahkcapbbjfdaa
