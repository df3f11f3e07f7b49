/-
  Eight digits out of twice four, and back.
-/
import Derived.Test.YtnahkcapbbjfdaaMod
namespace Go.Proofs.Ytnahkcapbbjfdaa
open Go.RowKit
set_option linter.unusedVariables false

theorem arr4 (d : Nat → Int) : arr .u64 4 d = #[.int .u64 (d 0), .int .u64 (d 1), .int .u64 (d 2), .int .u64 (d 3)] := rfl
theorem arr8 (d : Nat → Int) : arr .u64 8 d = #[.int .u64 (d 0), .int .u64 (d 1), .int .u64 (d 2), .int .u64 (d 3), .int .u64 (d 4), .int .u64 (d 5), .int .u64 (d 6), .int .u64 (d 7)] := rfl

set_option maxHeartbeats 1000000 in
theorem join_any (d e : Nat → Int) (w : World) :
    Calls Try.prog 60 #[.agg (arr .u64 4 d), .agg (arr .u64 4 e)] w fun r w' => r = .returned (.agg (arr .u64 8 fun i => if i < 4 then d i else e (i - 4))) ∧ Chg w w' := by
  obtain ⟨W, hW⟩ : ∃ W, W = (((w.alloc (.cells (arr .u64 4 d) 25)).alloc (.cells (arr .u64 4 e) 25)).alloc (.cells #[.int .u64 0, .int .u64 0, .int .u64 0, .int .u64 0, .int .u64 0, .int .u64 0, .int .u64 0, .int .u64 0] 55)).alloc (.cells #[.int .u64 0, .int .u64 0, .int .u64 0, .int .u64 0, .int .u64 0, .int .u64 0, .int .u64 0, .int .u64 0] 55) := ⟨_, rfl⟩
  have a1 : Ar W w.heap.size (arr .u64 4 d) := by rw [hW]; exact (((Ar.new _ _ _).alloc _).alloc _).alloc _
  have a2 : Ar W (w.heap.size + 1) (arr .u64 4 e) := by rw [hW]; exact ((Ar.new1 _ _ _ _).alloc _).alloc _
  have a3 : Ar W (w.heap.size + 1 + 1) (arr .u64 8 fun _ => 0) := by rw [hW]; exact (Ar.new2 _ _ _ _ _).alloc _
  have a4 : Ar W (w.heap.size + 1 + 1 + 1) (arr .u64 8 fun _ => 0) := by rw [hW]; exact Ar.new3 _ _ _ _ _ _
  have hc : Chg w W := by rw [hW]; exact ((((Chg.refl w).alloc _).alloc _).alloc _).alloc _
  have HW : Hid (W = (((w.alloc (.cells (arr .u64 4 d) 25)).alloc (.cells (arr .u64 4 e) 25)).alloc (.cells #[.int .u64 0, .int .u64 0, .int .u64 0, .int .u64 0, .int .u64 0, .int .u64 0, .int .u64 0, .int .u64 0] 55)).alloc (.cells #[.int .u64 0, .int .u64 0, .int .u64 0, .int .u64 0, .int .u64 0, .int .u64 0, .int .u64 0, .int .u64 0] 55)) := hW
  clear hW
  have k1 := run_cp W.drew (w.heap.size + 1 + 1 + 1) 0 4 8 w.heap.size 0 4 4 4 (arr .u64 8 fun _ => 0) (arr .u64 4 d) a4.drew a1.drew rfl (by simp [arr_size]) (by simp [arr_size]) (arr_one _ _ _) (arr .u64 8 fun i => if i < 4 then d i else 0) rfl
  obtain ⟨W2, hW2⟩ : ∃ W2, W2 = W.drew.setRow (w.heap.size + 1 + 1 + 1) (arr .u64 8 fun i => if i < 4 then d i else 0) := ⟨_, rfl⟩
  have b2 : Ar W2 (w.heap.size + 1) (arr .u64 4 e) := by rw [hW2]; exact a2.drew.rowOther (by omega) _
  have b3 : Ar W2 (w.heap.size + 1 + 1) (arr .u64 8 fun _ => 0) := by rw [hW2]; exact a3.drew.rowOther (by omega) _
  have b4 : Ar W2 (w.heap.size + 1 + 1 + 1) (arr .u64 8 fun i => if i < 4 then d i else 0) := by rw [hW2]; exact a4.drew.row _
  have hc2 : Chg w W2 := by rw [hW2]; exact hc.drew.setRow (by omega) _
  have k2 := run_cp W2.drew (w.heap.size + 1 + 1 + 1) 4 4 4 (w.heap.size + 1) 0 4 4 4 (arr .u64 8 fun i => if i < 4 then d i else 0) (arr .u64 4 e) b4.drew b2.drew rfl (by simp [arr_size]) (by simp [arr_size]) (arr_one _ _ _) (arr .u64 8 fun i => if i < 4 then d i else e (i - 4)) rfl
  obtain ⟨W3, hW3⟩ : ∃ W3, W3 = W2.drew.setRow (w.heap.size + 1 + 1 + 1) (arr .u64 8 fun i => if i < 4 then d i else e (i - 4)) := ⟨_, rfl⟩
  have c3 : Ar W3 (w.heap.size + 1 + 1) (arr .u64 8 fun _ => 0) := by rw [hW3]; exact b3.drew.rowOther (by omega) _
  have c4 : Ar W3 (w.heap.size + 1 + 1 + 1) (arr .u64 8 fun i => if i < 4 then d i else e (i - 4)) := by rw [hW3]; exact b4.drew.row _
  have hc3 : Chg w W3 := by rw [hW3]; exact hc2.drew.setRow (by omega) _
  rw [← hW2] at k1
  rw [← hW3] at k2
  obtain ⟨x0, x1, x2, x3, x4, x5, x6, x7⟩ := c4.eight
  obtain ⟨y0, y1, y2, y3, y4, y5, y6, y7⟩ := c3.eight
  obtain ⟨f0, f1, f2, f3, f4, f5, f6, f7⟩ := c3.free8
  have C3 : Hid (Ar W3 (w.heap.size + 1 + 1) (arr .u64 8 fun _ => 0)) := c3
  have HC : Hid (Chg w W3) := hc3
  clear a1 a2 a3 a4 b2 b3 b4 c3 c4 hc hc2 hc3 hW2 hW3
  go_enter Try.func60, Try.ntmps60
  go_wp2_with fail
  rw [← HW.out]
  clear HW
  go_region_with (fail)
  all_goals go_wp2_with fail
  all_goals go_region_with (fail)
  all_goals go_wp2
  all_goals
    refine bp_c (n := 8) (c := arr .u64 8 fun i => if i < 4 then d i else e (i - 4)) Try.results60 rfl rfl ?_ u55 i55 (arr_size _ _ _) ⟨rfl, ?_⟩
    · exact (((((((C3.out.set 0 _).set 1 _).set 2 _).set 3 _).set 4 _).set 5 _).set 6 _).set 7 _
    · exact (((((((HC.out.setCell (by dsimp only; omega) _).setCell (by dsimp only; omega) _).setCell (by dsimp only; omega) _).setCell (by dsimp only; omega) _).setCell (by dsimp only; omega) _).setCell (by dsimp only; omega) _).setCell (by dsimp only; omega) _).setCell (by dsimp only; omega) _
end Go.Proofs.Ytnahkcapbbjfdaa
