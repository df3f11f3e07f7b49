/-
  The sum so far: the functions Sum, New, Clone, Hash.
-/
import Derived.Test.YtijpdhjlafihkaaDoorTj08
import Derived.Test.YtijpdhjlafihkaaDoorTj10
namespace Go.Proofs.YtijpdhjlafihkaaDoor
open Go.RowKit
set_option linter.unusedVariables false
set_option maxRecDepth 100000

/-- What ends these bytes; the sum. -/
def endL (q : Int) (all : List Int) : List Int := (List.range (endN q (all.length % blockOf q))).map (endB (endN q (all.length % blockOf q)) (cnt all))
def sumSt (q : Int) (all : List Int) : Nat → Int := stOf q (all ++ endL q all)

theorem gd_map_range (n : Nat) (f : Nat → Int) {j : Nat} (h : j < n) : gd ((List.range n).map f) j = f j := by
  simp [gd, List.getD_eq_getElem?_getD, h]

set_option maxRecDepth 100000 in
set_option maxHeartbeats 4000000 in
theorem sum_any (D : Nat) (q : Int) (all : List Int) (w : World) (hv : Valid q) (ht : Tabs w) (hd : DgC w D q all (cnt all)) :
    Calls Tryd.prog 38 #[.pointer (some ⟨D, 0, none⟩)] w fun r w' => ∃ b, r = .returned (.slice (some ⟨b, 0, none⟩) (sizeOfH q) (sizeOfH q)) ∧ w.heap.size ≤ b ∧ Chg w w' ∧ Ar w' b (arr .u8 (sizeOfH q) (sumByte q (sumSt q all))) := by
  obtain ⟨S, hS⟩ : ∃ S, S = sizeOfH q := ⟨_, rfl⟩
  have HSz : Hid (∀ u, Calls Tryd.prog 20 #[.int .i64 q] u fun r w' => r = .returned (.int .i64 S) ∧ w' = u) := by
    intro u
    rw [hS]
    exact size_any q u
  have hS0 : ¬ (S : Int) = 0 := by
    rw [hS]
    rcases hv with rfl | rfl | rfl <;> decide
  obtain ⟨rest, hd1, hd2⟩ := hd
  obtain ⟨r, hr⟩ : ∃ r, r = all.length % blockOf q := ⟨_, rfl⟩
  have hrB : r < blockOf q := by rw [hr]; exact Nat.mod_lt _ (by have := hv.pos; omega)
  rw [← hr] at hd1 hd2
  obtain ⟨X, hX⟩ : ∃ X, X = dig q (stOf q all) rest (r : Int) (cnt all) := ⟨_, rfl⟩
  have c0 := (hd1.cell 0).trans (dig_hash _ _ _ _ _)
  obtain ⟨f, hf⟩ := str44
  obtain ⟨t1, hg1⟩ := hd1
  rw [← hX] at hg1
  have hz' : (Tryd.prog.info? 59).map (·.size) = some X.size := by rw [hX, dig_size]; exact zero44.2
  have hl' : (dig 0 (fun _ => 0) (fun _ => 0) 0 0).size = X.size := by rw [hX, dig_size, dig_size]
  have ho' : X.all (·.oneCell') = true := by rw [hX]; exact dig_one _ _ _ _ _
  have hz := zero44.1
  have HX : Hid (X = dig q (stOf q all) rest (r : Int) (cnt all) ∧ ∀ j, j < r → rest j = gd all (blockOf q * (all.length / blockOf q) + j)) := ⟨hX, hd2⟩
  have HV : Hid (Valid q ∧ Tabs w ∧ S = sizeOfH q ∧ r = all.length % blockOf q ∧ r < blockOf q) := ⟨hv, ht, hS, hr, hrB⟩
  rw [← hS]
  clear hS hv ht hX hd2 hr hrB
  obtain ⟨E, hE⟩ : ∃ E, E = w.heap.size := ⟨_, rfl⟩
  obtain ⟨w2, hw2⟩ : ∃ w2, w2 = (w.alloc (.cells (dig 0 (fun _ => 0) (fun _ => 0) 0 0) 59)).setRow w.heap.size X := ⟨_, rfl⟩
  have a2 : Ar w2 E X := by
    rw [hw2, hE]
    exact (Ar.new w _ _).row _
  have k2 : Chg w w2 := by
    rw [hw2]
    exact ((Chg.refl w).alloc _).setRow (Nat.le_refl _) _
  have e2 : w2.heap.size = E + 1 := by rw [hw2, size_setRow, World.size_alloc, hE]
  obtain ⟨T, hT⟩ : ∃ T, T = endN q r := ⟨_, rfl⟩
  obtain ⟨L, hL⟩ : ∃ L, L = endL q all := ⟨_, rfl⟩
  have hLT : L.length = T := by
    rw [hL, endL, ← HV.out.2.2.2.1, ← hT]
    simp
  have HE : Hid (Calls Tryd.prog 52 #[.pointer (some ⟨E, 0, none⟩)] w2 fun e w' => e = .returned (.slice (some ⟨E + 1, 0, none⟩) T T) ∧ Chg w2 w' ∧ Sl w' E (.slice (some ⟨E + 1, 0, none⟩) T T) L) := by
    have := ending_any E q (stOf q all) rest r (cnt all) w2 HV.out.1 (by rw [← HX.out.1]; exact a2) HV.out.2.2.2.2
    rw [← hT, e2] at this
    refine this.mono ?_
    rintro e w' ⟨rfl, g1, g2⟩
    refine ⟨rfl, g1, .inr (.inr ⟨E + 1, 0, T, by rw [hLT], by omega, ?_, fun j hj => ?_, by omega⟩)⟩
    · have hTb : T < 1000 := by
        rw [hT]
        unfold endN
        have := HV.out.1.pos
        have := Nat.mod_lt (2 * blockOf q - r - 1 - blockOf q / 8) (show blockOf q > 0 by omega)
        omega
      exact ⟨by omega, by rw [hLT]; omega⟩
    · rw [hLT] at hj
      rw [hL, endL, ← HV.out.2.2.2.1, ← hT, gd_map_range _ _ hj, Nat.zero_add]
      exact (g2.cell j).trans (arr_get .u8 T _ hj)
  obtain ⟨st, hst⟩ : ∃ st, st = sumSt q all := ⟨_, rfl⟩
  have HW : Hid (∀ u v, Chg w2 u → Sl u E v L → Calls Tryd.prog 37 #[.pointer (some ⟨E, 0, none⟩), v] u fun e w' => e = .returned (.tuple #[]) ∧ Chg w w' ∧ ∃ rest' held, Ar w' E (dig q st rest' held (cnt (all ++ L)))) := by
    intro u v hu hs
    have hEs := HV.out.2.1.size
    refine (write_any E q all L v u HV.out.1 (HV.out.2.1.chg (k2.trans hu)) (by omega) ⟨rest, ?_, ?_⟩ hs).mono ?_
    · rw [← HV.out.2.2.2.1, ← HX.out.1]
      exact a2.chg hu
    · rw [← HV.out.2.2.2.1]
      exact HX.out.2
    · rintro e w' ⟨rfl, g1, rest', g2, _⟩
      refine ⟨rfl, Cb.low (k2.trans hu) g1 (by omega), rest', (((all ++ L).length % blockOf q : Nat) : Int), ?_⟩
      rw [hst, sumSt, ← hL]
      exact g2
  have HSm : Hid (∀ u, Chg w u → Calls Tryd.prog 53 #[.int .i64 q, .agg #[.int .u64 (st 0), .int .u64 (st 1), .int .u64 (st 2), .int .u64 (st 3), .int .u64 (st 4), .int .u64 (st 5), .int .u64 (st 6), .int .u64 (st 7)]] u fun e w' => ∃ b, e = .returned (.slice (some ⟨b, 0, none⟩) S S) ∧ w.heap.size ≤ b ∧ Chg w w' ∧ Ar w' b (arr .u8 S (sumByte q st))) := by
    intro u hu
    have := sumOf_any q st u HV.out.1
    rw [← HV.out.2.2.1] at this
    refine this.mono ?_
    rintro e w' ⟨b, rfl, g1, g2, g3⟩
    exact ⟨b, rfl, Nat.le_trans hu.size g1, hu.trans g2, g3⟩
  rw [← hst]
  have K2 : Hid (w2 = (w.alloc (.cells (dig 0 (fun _ => 0) (fun _ => 0) 0 0) 59)).setRow w.heap.size X ∧ E = w.heap.size ∧ Chg w2 w2) := ⟨hw2, hE, Chg.refl w2⟩
  clear a2 k2 e2 hT hL hLT hst hE hw2
  go_enter Tryd.func38, Tryd.ntmps38
  go_wp2_with (first | (go_at_call 20; (refine (HSz.out _).mono ?_; rintro r' w1 ⟨rfl, hw1⟩; rw [hw1])) | refine wpList_load_row rfl 59 _ rfl _ rfl _ _ _ _ hg1 hf rfl hz' ?_ | refine wpList_store_row rfl 59 _ _ rfl _ _ rfl rfl _ _ (heap_alloc_last w _) hz' hl' ho' ?_)
  rw [← K2.out.1, ← K2.out.2.1]
  refine HE.out.mono ?_
  rintro e w3 ⟨rfl, hc3, hs3⟩
  have HS3 : Hid (Chg w2 w3 ∧ Sl w3 E (.slice (some ⟨E + 1, 0, none⟩) T T) L) := ⟨hc3, hs3⟩
  clear hc3 hs3 hz hz' hl' ho' hg1 c0
  go_wp2_with (first | (go_at_call 37; (refine (HW.out _ _ HS3.out.1 HS3.out.2).mono ?_; rintro e w4 ⟨rfl, hc4, rest', held, ha4⟩; have d0 := (ha4.cell 0).trans (dig_hash _ _ _ _ _); have d1 := (ha4.cell 1).trans (dig_st _ _ _ _ _ (i := 0) (by omega)); have d2 := (ha4.cell 2).trans (dig_st _ _ _ _ _ (i := 1) (by omega)); have d3 := (ha4.cell 3).trans (dig_st _ _ _ _ _ (i := 2) (by omega)); have d4 := (ha4.cell 4).trans (dig_st _ _ _ _ _ (i := 3) (by omega)); have d5 := (ha4.cell 5).trans (dig_st _ _ _ _ _ (i := 4) (by omega)); have d6 := (ha4.cell 6).trans (dig_st _ _ _ _ _ (i := 5) (by omega)); have d7 := (ha4.cell 7).trans (dig_st _ _ _ _ _ (i := 6) (by omega)); have d8 := (ha4.cell 8).trans (dig_st _ _ _ _ _ (i := 7) (by omega)))) | (go_at_call 53; (refine (HSm.out _ hc4).mono ?_; rintro e w5 ⟨b, rfl, hb5, hc5, ha5⟩)))
  go_ret
  exact ⟨b, rfl, hb5, hc5, ha5⟩

/-- Of no hash there is no sum. -/
theorem sum_none (D : Nat) (q : Int) (c : Array Value) (w : World) (hv : ¬ Valid q) (hd : Ar w D c) (hc : c[0]? = some (.int .i64 q)) :
    Calls Tryd.prog 38 #[.pointer (some ⟨D, 0, none⟩)] w fun r w' => r = .returned (.slice none 0 0) ∧ w' = w := by
  have c0 := (hd.cell 0).trans hc
  have HB : Hid (∀ u, Calls Tryd.prog 20 #[.int .i64 q] u fun r w' => r = .returned (.int .i64 0) ∧ w' = u) := by
    intro u
    have := size_any q u
    rw [sizeOf_not hv] at this
    exact this
  clear hd hc hv
  go_enter Tryd.func38, Tryd.ntmps38
  go_wp2_with (first | (go_at_call 20; (refine (HB.out _).mono ?_; rintro r w1 ⟨rfl, hw1⟩; rw [hw1])))
  go_ret
  exact ⟨rfl, rfl⟩

set_option maxRecDepth 100000 in
theorem clone_any (D : Nat) (q : Int) (all : List Int) (k : Int) (w : World) (hd : DgC w D q all k) :
    Calls Tryd.prog 56 #[.pointer (some ⟨D, 0, none⟩)] w fun r w' => r = .returned (.pointer (some ⟨w.heap.size, 0, none⟩)) ∧ Chg w w' ∧ DgC w' w.heap.size q all k := by
  obtain ⟨rest, hd1, hd2⟩ := hd
  obtain ⟨X, hX⟩ : ∃ X, X = dig q (stOf q all) rest ((all.length % blockOf q : Nat) : Int) k := ⟨_, rfl⟩
  obtain ⟨f, hf⟩ := str44
  obtain ⟨t1, hg1⟩ := hd1
  rw [← hX] at hg1
  have hz' : (Tryd.prog.info? 59).map (·.size) = some X.size := by rw [hX, dig_size]; exact zero44.2
  have hl' : (dig 0 (fun _ => 0) (fun _ => 0) 0 0).size = X.size := by rw [hX, dig_size, dig_size]
  have ho' : X.all (·.oneCell') = true := by rw [hX]; exact dig_one _ _ _ _ _
  have hz := zero44.1
  have HX : Hid (X = dig q (stOf q all) rest ((all.length % blockOf q : Nat) : Int) k ∧ ∀ j, j < all.length % blockOf q → rest j = gd all (blockOf q * (all.length / blockOf q) + j)) := ⟨hX, hd2⟩
  clear hX hd2
  go_enter Tryd.func56, Tryd.ntmps56
  go_wp2_with (first | refine wpList_load_row rfl 59 _ rfl _ rfl _ _ _ _ hg1 hf rfl hz' ?_ | refine wpList_store_row rfl 59 _ _ rfl _ _ rfl rfl _ _ (heap_alloc_last w _) hz' hl' ho' ?_)
  go_ret
  refine ⟨rfl, ((Chg.refl w).alloc _).setRow (Nat.le_refl _) _, rest, ?_, HX.out.2⟩
  rw [← HX.out.1]
  exact (Ar.new w _ _).row _

set_option maxRecDepth 100000 in
theorem new_any (q : Int) (w : World) (hv : Valid q) (ht : Tabs w) :
    Calls Tryd.prog 70 #[.int .i64 q] w fun r w' => ∃ D, r = .returned (.pointer (some ⟨D, 0, none⟩)) ∧ w.heap.size ≤ D ∧ Chg w w' ∧ DgC w' D q [] (cnt []) := by
  obtain ⟨S, hS⟩ : ∃ S, S = sizeOfH q := ⟨_, rfl⟩
  have HSz : Hid (∀ u, Calls Tryd.prog 20 #[.int .i64 q] u fun r w' => r = .returned (.int .i64 S) ∧ w' = u) := by
    intro u
    rw [hS]
    exact size_any q u
  have hS0 : ¬ (S : Int) = 0 := by
    rw [hS]
    rcases hv with rfl | rfl | rfl <;> decide
  obtain ⟨X, hX⟩ : ∃ X, X = dig q (startOf q) (fun _ => 0) 0 0 := ⟨_, rfl⟩
  have HBe : Hid (Calls Tryd.prog 36 #[.int .i64 q] w fun r w' => r = .returned (.agg X) ∧ Chg w w') := by
    rw [hX]
    exact begin_any q w ht
  have hz' : (Tryd.prog.info? 59).map (·.size) = some X.size := by rw [hX, dig_size]; exact zero44.2
  have hl' : (dig 0 (fun _ => 0) (fun _ => 0) 0 0).size = X.size := by rw [hX, dig_size, dig_size]
  have ho' : X.all (·.oneCell') = true := by rw [hX]; exact dig_one _ _ _ _ _
  have hz := zero44.1
  have HX : Hid (X = dig q (startOf q) (fun _ => 0) 0 0) := hX
  clear hX hS hv ht
  go_enter Tryd.func70, Tryd.ntmps70
  go_wp2_with (first | (go_at_call 20; (refine (HSz.out _).mono ?_; rintro r' w1 ⟨rfl, hw1⟩; rw [hw1])) | (go_at_call 36; (refine HBe.out.mono ?_; rintro r' w2 ⟨rfl, hc2⟩)) | refine wpList_store_row rfl 59 _ _ rfl _ _ rfl rfl _ _ (heap_alloc_last w2 _) hz' hl' ho' ?_)
  go_ret
  refine ⟨w2.heap.size, rfl, hc2.size, (hc2.alloc _).setRow hc2.size _, fun _ => 0, ?_, fun j hj => ?_⟩
  · have : Ar ((w2.alloc (.cells (dig 0 (fun _ => 0) (fun _ => 0) 0 0) 59)).setRow w2.heap.size X) w2.heap.size X := (Ar.new w2 _ _).row _
    rw [HX.out] at this
    have e : stOf q [] = startOf q := by simp [stOf, stN]
    rw [e]
    simpa [HX.out, cnt] using this
  · simp at hj

theorem new_none (q : Int) (w : World) (hv : ¬ Valid q) :
    Calls Tryd.prog 70 #[.int .i64 q] w fun r w' => r = .returned (.pointer none) ∧ w' = w := by
  have HB : Hid (∀ u, Calls Tryd.prog 20 #[.int .i64 q] u fun r w' => r = .returned (.int .i64 0) ∧ w' = u) := by
    intro u
    have := size_any q u
    rw [sizeOf_not hv] at this
    exact this
  clear hv
  go_enter Tryd.func70, Tryd.ntmps70
  go_wp2_with (first | (go_at_call 20; (refine (HB.out _).mono ?_; rintro r w1 ⟨rfl, hw1⟩; rw [hw1])))
  go_ret
  exact ⟨rfl, rfl⟩

end Go.Proofs.YtijpdhjlafihkaaDoor
