/-
  The least number; a number as bytes.
-/
import Derived.Test.YtkdidacebfkdmaaNum4
namespace Go.Proofs.Ytkdidacebfkdmaa
open Go.RowKit
set_option linter.unusedVariables false

theorem five_cells : (arr .u64 5 zI).setIfInBounds 0 (.int .u64 5) = arr .u64 5 fiveF := arr_set .u64 5 zI 0 5

set_option maxRecDepth 100000 in
set_option maxHeartbeats 4000000 in
theorem least_any (s : Nat → Int) (w : World) (hs : ∀ i, i < 5 → 0 ≤ s i ∧ s i ≤ 4294967295) : Calls Try.prog 29 #[.agg (arr .u64 5 s)] w fun r w' => r = .returned (.agg (arr .u64 5 (leF s))) ∧ Chg w w' := by
  obtain ⟨A, hA⟩ : ∃ A, A = arr .u64 5 s := ⟨_, rfl⟩
  have hsA : A.size = 5 := by rw [hA]; exact arr_size _ _ _
  have HA : Hid (A = arr .u64 5 s) := hA
  have HSA : Hid ((Try.prog.info? 49).map (·.size) = some A.size) := by rw [hA]; exact sz49 s
  obtain ⟨F, hF⟩ : ∃ F, F = arr .u64 5 fiveF := ⟨_, rfl⟩
  have hfc := five_cells
  rw [← hF] at hfc
  have hzs := arr_size .u64 5 zI
  obtain ⟨d1, hd1⟩ : ∃ d, d = addF s fiveF := ⟨_, rfl⟩
  obtain ⟨d2, hd2⟩ : ∃ d, d = crD d1 := ⟨_, rfl⟩
  obtain ⟨o, ho⟩ : ∃ o, o = crO d1 5 := ⟨_, rfl⟩
  have b5 : ∀ i, i < 5 → 0 ≤ fiveF i ∧ fiveF i ≤ 5 := fun i hi => by unfold fiveF updI; dsimp only; split <;> omega
  have HC1 : Hid (∀ u, Calls Try.prog 25 #[.agg A, .agg F] u fun r w' => r = .returned (.agg (arr .u64 5 d1)) ∧ Chg u w') := by
    rw [hA, hF, hd1]
    exact fun u => added_any s fiveF u (fun i hi => by have := hs i hi; omega) (fun i hi => by have := b5 i hi; omega)
  have HC2 : Hid (∀ u, Calls Try.prog 40 #[.agg (arr .u64 5 d1)] u fun r w' => r = .returned (.tuple #[.agg (arr .u64 5 d2), .int .u64 o]) ∧ Chg u w') := by
    rw [hd2, ho]
    exact fun u => carried_any d1 u (fun i hi => by rw [hd1]; unfold addF; have h1 := hs i hi; have h2 := b5 i hi; omega)
  have HL : Hid (leF s = if o = 0 then s else d2) := by
    show (if crO (addF s fiveF) 5 = 0 then s else crD (addF s fiveF)) = _
    rw [ho, hd2, hd1]
  rw [← hA]
  clear hA hF hd1 hd2 ho hs b5
  have hz := zero49.1
  go_enter Try.func29, Try.ntmps29
  go_upto_region 1 with fail
  obtain ⟨w2, hw2⟩ : ∃ w2, w2 = (w.alloc (.cells A 49)).alloc (.cells (arr .u64 5 zI) 49) := ⟨_, rfl⟩
  have Z2 : Hid (NS w w2 s) := by rw [hw2]; exact NS.start w s A HA.out
  rw [← hw2]
  clear hw2
  obtain ⟨t1, g1⟩ := Z2.out.a
  rw [← HA.out] at g1
  go_wp2_with (first | refine wpList_load_row rfl 49 _ rfl _ rfl _ _ _ _ g1 und49 rfl HSA.out ?_)
  go_at_call 25
  refine (HC1.out _).mono ?_
  rintro r w3 ⟨rfl, hc3⟩
  go_wp2_with fail
  go_at_call 40
  refine (HC2.out _).mono ?_
  rintro r w4 ⟨rfl, hc4⟩
  have Z4 : Hid (Chg w w4 ∧ Ar w4 w.heap.size A ∧ Ar w4 (w.heap.size + 1) (arr .u64 5 zI)) := by
    have k := Z2.out
    have ka := k.a
    rw [← HA.out] at ka
    exact ⟨(k.chg.trans hc3).trans hc4, (ka.chg hc3).chg hc4, (k.out.chg hc3).chg hc4⟩
  clear hc3 hc4 g1 Z2 hfc HC1 HC2
  have hsz := sz49 d2
  have hlen := len5 zI d2
  have hone := arr_one .u64 5 d2
  go_upto_region 2 with (first | refine wpList_store_row rfl 49 _ _ rfl _ _ rfl rfl _ _ (heap_alloc_last w4 _) hsz hlen hone ?_)
  obtain ⟨B, hB⟩ : ∃ B, B = w4.heap.size := ⟨_, rfl⟩
  obtain ⟨w5, hw5⟩ : ∃ w5, w5 = (w4.alloc (.cells (arr .u64 5 zI) 49)).setRow w4.heap.size (arr .u64 5 d2) := ⟨_, rfl⟩
  have Z5 : Hid (Chg w w5 ∧ Ar w5 w.heap.size A ∧ Ar w5 (w.heap.size + 1) (arr .u64 5 zI) ∧ Ar w5 B (arr .u64 5 d2)) := by
    obtain ⟨k0, k1, k2⟩ := Z4.out
    have e1 := k1.lt
    have e2 := k2.lt
    rw [hw5, hB]
    exact ⟨(k0.alloc _).setRow k0.size _, (k1.alloc _).rowOther (by omega) _, (k2.alloc _).rowOther (by omega) _, (Ar.new w4 _ _).row _⟩
  rw [← hw5, ← hB]
  clear hw5 hB Z4 hz hzs
  obtain ⟨t5, g5⟩ := Z5.out.2.2.2
  obtain ⟨t6, g6⟩ := Z5.out.2.2.1
  obtain ⟨t7, g7⟩ := Z5.out.2.1
  have hlenA : (arr .u64 5 zI).size = A.size := by rw [arr_size, hsA]
  have honeA : A.all (·.oneCell') = true := by rw [HA.out]; exact arr_one .u64 5 s
  have HSz : Hid (∀ c : Array Value, (Try.prog.info? 49).map (·.size) = some 5) := fun _ => i49
  by_cases h0 : o = 0
  · have hob : (o != 0) = false := by simp [h0]
    have hoc : (o == 0) = true := by simp [h0]
    have HL2 : Hid (leF s = s) := by show leF s = s; rw [HL.out, if_pos h0]
    clear h0
    go_wp2_with (first | refine wpList_load_row rfl 49 _ rfl _ rfl _ _ _ _ g7 und49 rfl HSA.out ?_ | refine wpList_store_row rfl 49 _ _ rfl _ _ rfl rfl _ _ g6 HSA.out hlenA honeA ?_)
    refine bp_c (n := 5) (c := A) Try.results29 rfl rfl ?_ und49 i49 hsA ⟨by rw [HL2.out, HA.out], ?_⟩
    · exact Z5.out.2.2.1.row _
    · exact Z5.out.1.setRow (by omega) _
  · have hob : (o != 0) = true := by simp [h0]
    have hoc : (o == 0) = false := by simp [h0]
    have HL2 : Hid (leF s = d2) := by show leF s = d2; rw [HL.out, if_neg h0]
    go_wp2_with (first | refine wpList_load_row rfl 49 _ rfl _ rfl _ _ _ _ g5 und49 rfl hsz ?_ | refine wpList_store_row rfl 49 _ _ rfl _ _ rfl rfl _ _ g6 hsz hlen hone ?_)
    refine bp_c (n := 5) (c := arr .u64 5 d2) Try.results29 rfl rfl ?_ und49 i49 (arr_size _ _ _) ⟨by rw [HL2.out], ?_⟩
    · exact Z5.out.2.2.1.row _
    · exact Z5.out.1.setRow (by omega) _
end Go.Proofs.Ytkdidacebfkdmaa
