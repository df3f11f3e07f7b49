/-
  ShaSums, walked.
-/
import Derived.Test.YtbnonbhlfiadaaaDoorRefO
import Derived.Test.YtbnonbhlfiadaaaDoorHead
import Derived.Test.YtbnonbhlfiadaaaDoorStr
import Derived.Test.YtbnonbhlfiadaaaDoorApL
namespace Go.Proofs.YtbnonbhlfiadaaaDoor
open Go.RowKit
set_option linter.unusedVariables false

set_option maxRecDepth 100000 in
set_option maxHeartbeats 4000000 in
theorem sums_walk (q : Int) (v : Value) (xs : List Int) (w : World) (ht : Tabs w) (hr : Ap.Rd w v xs) (hx : ∀ x ∈ xs, 0 ≤ x ∧ x < 256) (hl : xs.length ≤ 140737488351232) :
    Calls Tryd.prog 3 #[.int .i64 q, v] w fun e w' => e = .returned (.bool true) ∧ Chg w w' := by
  have HT : Hid (Tabs w) := ht
  obtain ⟨ao, n, c, rfl, hn, _⟩ := hr.shape
  have HR : Hid (Ap.Rd w (.slice ao n c) xs ∧ (∀ x ∈ xs, 0 ≤ x ∧ x < 256) ∧ xs.length ≤ 140737488351232) := ⟨hr, hx, hl⟩
  clear ht hr hx hn
  obtain ⟨S, hS⟩ : ∃ S, S = sizeOfH q := ⟨_, rfl⟩
  obtain ⟨B, hB⟩ : ∃ B, B = blockOf q := ⟨_, rfl⟩
  have HS1 : Hid (∀ u, Calls Tryd.prog 10 #[.int .i64 q] u fun r w' => r = .returned (.int .i64 S) ∧ w' = u) := by
    intro u
    rw [hS]
    exact size_any q u
  have HS2 : Hid (∀ u, Calls Tryd.prog 11 #[.int .i64 q] u fun r w' => r = .returned (.int .i64 S) ∧ w' = u) := by
    intro u
    rw [hS]
    exact refSize_any q u
  have HB1 : Hid (∀ u, Calls Tryd.prog 12 #[.int .i64 q] u fun r w' => r = .returned (.int .i64 B) ∧ w' = u) := by
    intro u
    rw [hB]
    exact block_any q u
  have HB2 : Hid (∀ u, Calls Tryd.prog 13 #[.int .i64 q] u fun r w' => r = .returned (.int .i64 B) ∧ w' = u) := by
    intro u
    rw [hB]
    exact refBlock_any q u
  have HZ : Hid (S = sizeOfH q) := hS
  clear hS hB
  go_enter Tryd.func3, Tryd.ntmps3
  go_wp2_with fail
  refine (head_any w HT.out).mono ?_
  rintro e w1 ⟨rfl, hc1⟩
  have Z0 : Hid (OwnN w1 (w1.alloc (.cells #[] 5)) (.slice (some ⟨w1.heap.size, 0, none⟩) 0 0) [] ∧ Ap.Rd (w1.alloc (.cells #[] 5)) (.slice ao n c) xs ∧ Chg w w1) := by
    refine ⟨⟨.inr ⟨w1.heap.size, 0, 0, 0, rfl, rfl, Nat.le_refl _, by decide, #[], heap_alloc_last w1 _, by simp, by simp⟩, fun k e => ?_, (Ap.Chg.refl _ w1).alloc _⟩, Rd.chg HR.out.1 (hc1.alloc _), hc1⟩
    simp [Value.ownBlock] at e
    omega
  clear hc1
  go_wp2_with (at_builtin; refine Ap.wpList_app _ rfl _ _ rfl (.slice (some ⟨w1.heap.size, 0, none⟩) 0 0) (.slice ao n c) [] xs rfl rfl Z0.out.1.own Z0.out.2.1 (by simp; omega) ?_)
  intro vo w2 o2 c2 b2
  have Z2 : Hid (Ap.OwnV w2 vo xs ∧ Chg w w2) := by
    have k := Z0.out.1.more o2 c2 (by rw [World.size_alloc]; exact b2)
    exact ⟨k.own, Z0.out.2.2.trans (Chg.ofAp k.chg)⟩
  clear o2 c2 b2 Z0
  obtain ⟨so, sm, sc, rfl, hsm, _⟩ := Z2.out.1.rd.shape
  have hp : Pt (w2.alloc (.cells #[.slice so sm sc] 23)) (.slice (some ⟨w2.heap.size, 0, none⟩) 1 1) [xs] := Pt.made1 (Chg.refl w2) (Rd.slA Z2.out.1.rd (by have := HR.out.2.2; omega)) 23
  have HP : Hid (Pt (w2.alloc (.cells #[.slice so sm sc] 23)) (.slice (some ⟨w2.heap.size, 0, none⟩) 1 1) [xs] ∧ Chg w2 (w2.alloc (.cells #[.slice so sm sc] 23))) := ⟨hp, (Chg.refl w2).alloc _⟩
  clear hp hsm
  by_cases hv : Valid q
  · have HV : Hid (Valid q) := hv
    clear hv
    go_wp2_with fail
    refine (of_any q _ [xs] _ HV.out (HT.out.chg (Z2.out.2.trans HP.out.2)) HP.out.1).mono ?_
    rintro e w3 ⟨b3, rfl, hb3, hc3, ha3⟩
    rw [← HZ.out, show [xs].flatten = xs by simp] at ha3
    rw [← HZ.out]
    have Z3 : Hid (Chg w w3 ∧ Ap.OwnV w3 (.slice so sm sc) xs ∧ Ar w3 b3 (arr .u8 S (sumByte q (sumSt q xs)))) := ⟨Z2.out.2.trans (HP.out.2.trans hc3), OwnV.chg Z2.out.1 (HP.out.2.trans hc3), ha3⟩
    clear hc3 ha3 hb3 Z2 HP
    go_wp2_with fail
    refine (refOf_any q (.slice ao n c) xs w3 HV.out (Rd.chg HR.out.1 Z3.out.1) HR.out.2.1 HR.out.2.2).mono ?_
    rintro e w4 ⟨v4, rfl, hc4, hr4⟩
    obtain ⟨o4, n4, c4, rfl, -⟩ := hr4.shape
    obtain ⟨L, hL⟩ : ∃ L, L = strOfNums (sumL q xs) := ⟨_, rfl⟩
    obtain ⟨X, hX⟩ : ∃ X, X = strOfNums xs := ⟨_, rfl⟩
    have k1 := Ap.run_str w4 _ _ hr4
    have k2 := run_strA w4 b3 S _ (Z3.out.2.2.chg hc4)
    have k3 := Ap.run_str w4 _ _ (OwnV.chg Z3.out.2.1 hc4).rd
    have k4 := Ap.run_str w4 _ _ (Rd.chg HR.out.1 (Z3.out.1.trans hc4))
    rw [HZ.out] at k2
    rw [show (List.range (sizeOfH q)).map (sumByte q (sumSt q xs)) = sumL q xs from rfl, ← hL, ← HZ.out] at k2
    rw [← hL] at k1
    rw [← hX] at k3 k4
    have ZC : Hid (Chg w w4) := Z3.out.1.trans hc4
    clear hL hX hr4 hc4 Z3
    go_wp2_with (first | (go_at_call 10; (refine (HS1.out _).mono ?_; rintro r' w5 ⟨rfl, hw5⟩; rw [hw5]; clear hw5 w5)) | (go_at_call 11; (refine (HS2.out _).mono ?_; rintro r' w5 ⟨rfl, hw5⟩; rw [hw5]; clear hw5 w5)) | (go_at_call 12; (refine (HB1.out _).mono ?_; rintro r' w5 ⟨rfl, hw5⟩; rw [hw5]; clear hw5 w5)) | (go_at_call 13; (refine (HB2.out _).mono ?_; rintro r' w5 ⟨rfl, hw5⟩; rw [hw5]; clear hw5 w5)))
    go_ret
    exact ⟨rfl, ZC.out⟩
  · have HV : Hid (¬ Valid q) := hv
    clear hv
    go_wp2_with fail
    refine (of_none q _ [xs] _ HV.out (HT.out.chg (Z2.out.2.trans HP.out.2)) HP.out.1).mono ?_
    rintro e w3 ⟨rfl, hc3⟩
    have Z3 : Hid (Chg w w3 ∧ Ap.OwnV w3 (.slice so sm sc) xs) := ⟨Z2.out.2.trans (HP.out.2.trans hc3), OwnV.chg Z2.out.1 (HP.out.2.trans hc3)⟩
    clear hc3 Z2 HP
    go_wp2_with fail
    refine (refOf_none q (.slice ao n c) w3 HV.out).mono ?_
    rintro e w4 ⟨rfl, rfl⟩
    obtain ⟨X, hX⟩ : ∃ X, X = strOfNums xs := ⟨_, rfl⟩
    have k1 := run_strNil w4
    have k3 := Ap.run_str w4 _ _ Z3.out.2.rd
    have k4 := Ap.run_str w4 _ _ (Rd.chg HR.out.1 Z3.out.1)
    rw [← hX] at k3 k4
    clear hX
    go_wp2_with (first | (go_at_call 10; (refine (HS1.out _).mono ?_; rintro r' w5 ⟨rfl, hw5⟩; rw [hw5]; clear hw5 w5)) | (go_at_call 11; (refine (HS2.out _).mono ?_; rintro r' w5 ⟨rfl, hw5⟩; rw [hw5]; clear hw5 w5)) | (go_at_call 12; (refine (HB1.out _).mono ?_; rintro r' w5 ⟨rfl, hw5⟩; rw [hw5]; clear hw5 w5)) | (go_at_call 13; (refine (HB2.out _).mono ?_; rintro r' w5 ⟨rfl, hw5⟩; rw [hw5]; clear hw5 w5)))
    go_ret
    exact ⟨rfl, Z3.out.1⟩
end Go.Proofs.YtbnonbhlfiadaaaDoor
