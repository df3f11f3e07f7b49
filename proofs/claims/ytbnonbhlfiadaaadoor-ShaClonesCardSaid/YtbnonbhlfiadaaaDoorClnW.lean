/-
  ShaClones, walked.
-/
import Derived.Test.YtbnonbhlfiadaaaDoorHead
import Derived.Test.YtbnonbhlfiadaaaDoorStr
namespace Go.Proofs.YtbnonbhlfiadaaaDoor
open Go.RowKit
set_option linter.unusedVariables false

/-- The sum's bytes, as a text. -/
def sumStr (q : Int) (all : List Int) : ByteArray := strOfNums ((List.range (sizeOfH q)).map (sumByte q (sumSt q all)))

theorem SlA.isSlice {w : World} {v : Value} {xs : List Int} (h : SlA w v xs) : ∃ p n c, v = .slice p n c := by
  rcases h with ⟨h, _⟩ | ⟨_, _, h, _⟩ | ⟨_, _, _, h, _⟩
  · exact ⟨_, _, _, h⟩
  · exact ⟨_, _, _, h⟩
  · exact ⟨_, _, _, h⟩

/-- A block whose bytes are a text. -/
def Txt (w : World) (x n : Nat) (s : ByteArray) : Prop := ∃ f, Ar w x (arr .u8 n f) ∧ s = strOfNums ((List.range n).map f)
theorem Txt.chg {w w' : World} {x n : Nat} {s : ByteArray} (h : Txt w x n s) (k : Chg w w') : Txt w' x n s := by
  obtain ⟨f, h1, h2⟩ := h
  exact ⟨f, h1.chg k, h2⟩
theorem Txt.alloc {w : World} {x n : Nat} {s : ByteArray} (h : Txt w x n s) (o : Obj) : Txt (w.alloc o) x n s := h.chg ((Chg.refl w).alloc o)
theorem Txt.str {w : World} {x n : Nat} {s : ByteArray} (h : Txt w x n s) : (convert 23 9 (.slice (some ⟨x, 0, none⟩) n n)).run Tryd.prog w = .ok (.string s) w := by
  obtain ⟨f, h1, h2⟩ := h
  rw [h2]
  exact run_strA w x n f h1

set_option maxRecDepth 100000 in
set_option maxHeartbeats 4000000 in
theorem clones_walk (q : Int) (va vb vc : Value) (a b c : List Int) (w : World) (ht : Tabs w) (ha : SlA w va a) (hb : SlA w vb b) (hc : SlA w vc c) :
    Calls Tryd.prog 6 #[.int .i64 q, va, vb, vc] w fun e w' => e = .returned (.bool true) ∧ Chg w w' := by
  have HT : Hid (Tabs w) := ht
  obtain ⟨pa, na, ca, rfl⟩ := ha.isSlice
  obtain ⟨pb, nb, cb, rfl⟩ := hb.isSlice
  obtain ⟨pc, nc, cc, rfl⟩ := hc.isSlice
  have HA : Hid (SlA w (.slice pa na ca) a ∧ SlA w (.slice pb nb cb) b ∧ SlA w (.slice pc nc cc) c) := ⟨ha, hb, hc⟩
  clear ht ha hb hc
  obtain ⟨S, hS⟩ : ∃ S, S = sizeOfH q := ⟨_, rfl⟩
  have HSz : Hid (∀ u, Calls Tryd.prog 10 #[.int .i64 q] u fun r w' => r = .returned (.int .i64 S) ∧ w' = u) := by
    intro u
    rw [hS]
    exact size_any q u
  by_cases hv : Valid q
  · have hS0 : ¬ (S : Int) = 0 := by
      rw [hS]
      rcases hv with rfl | rfl | rfl <;> decide
    have HV : Hid (Valid q ∧ S = sizeOfH q) := ⟨hv, hS⟩
    have h2 := HT.out.size
    clear hS hv
    go_enter Tryd.func6, Tryd.ntmps6
    go_wp2_with fail
    refine (head_any w HT.out).mono ?_
    rintro e w1 ⟨rfl, hc1⟩
    have H1 : Hid (Chg w w1) := hc1
    clear hc1
    go_wp2_with fail
    refine (new_any q w1 HV.out.1 (HT.out.chg H1.out)).mono ?_
    rintro e w2 ⟨D, rfl, hD, hc2, hd2⟩
    have H2 : Hid (Chg w w2 ∧ DgC w2 D q [] (cnt []) ∧ w.heap.size ≤ D) := ⟨H1.out.trans hc2, hd2, Nat.le_trans H1.out.size hD⟩
    clear hc2 hd2 hD H1
    go_wp2_with (first | (go_at_call 10; (refine (HSz.out _).mono ?_; rintro r' w3 ⟨rfl, hw3⟩; rw [hw3]; clear hw3 w3)))
    refine (write_any D q [] a (.slice pa na ca) w2 HV.out.1 (HT.out.chg H2.out.1) (by have := H2.out.2.2; omega) H2.out.2.1 (HA.out.1.to H2.out.1 H2.out.2.2)).mono ?_
    rintro e w3 ⟨rfl, hc3, hd3⟩
    have H3 : Hid (Chg w w3 ∧ DgC w3 D q a (cnt a) ∧ w.heap.size ≤ D) := ⟨Cb.low H2.out.1 hc3 H2.out.2.2, hd3, H2.out.2.2⟩
    clear hc3 hd3 H2
    go_wp2_with fail
    refine (clone_any D q a (cnt a) w3 H3.out.2.1).mono ?_
    rintro e w4 ⟨rfl, hc4, hd4⟩
    obtain ⟨E, hE⟩ : ∃ E, E = w3.heap.size := ⟨_, rfl⟩
    rw [← hE] at hd4 ⊢
    have hDE : D < E := by rw [hE]; exact H3.out.2.1.lt
    have H4 : Hid (Chg w w4 ∧ DgC w4 D q a (cnt a) ∧ DgC w4 E q a (cnt a) ∧ w.heap.size ≤ D ∧ D < E) := ⟨H3.out.1.trans hc4, H3.out.2.1.chg hc4, hd4, H3.out.2.2, hDE⟩
    clear hc4 hd4 hDE hE H3
    go_wp2_with fail
    refine (write_any D q a b (.slice pb nb cb) w4 HV.out.1 (HT.out.chg H4.out.1) (by have := H4.out.2.2.2.1; omega) H4.out.2.1 (HA.out.2.1.to H4.out.1 H4.out.2.2.2.1)).mono ?_
    rintro e w5 ⟨rfl, hc5, hd5⟩
    have H5 : Hid (Chg w w5 ∧ DgC w5 D q (a ++ b) (cnt (a ++ b)) ∧ DgC w5 E q a (cnt a) ∧ w.heap.size ≤ D ∧ D < E) := ⟨Cb.low H4.out.1 hc5 H4.out.2.2.2.1, hd5, H4.out.2.2.1.cb hc5 (by have := H4.out.2.2.2.2; omega), H4.out.2.2.2.1, H4.out.2.2.2.2⟩
    clear hc5 hd5 H4
    go_wp2_with fail
    refine (write_any E q a c (.slice pc nc cc) w5 HV.out.1 (HT.out.chg H5.out.1) (by have := H5.out.2.2.2; omega) H5.out.2.2.1 (HA.out.2.2.to H5.out.1 (by have := H5.out.2.2.2; omega))).mono ?_
    rintro e w6 ⟨rfl, hc6, hd6⟩
    have H6 : Hid (Chg w w6 ∧ DgC w6 D q (a ++ b) (cnt (a ++ b)) ∧ DgC w6 E q (a ++ c) (cnt (a ++ c)) ∧ w.heap.size ≤ D ∧ D < E) := ⟨Cb.low H5.out.1 hc6 (by have := H5.out.2.2.2; omega), H5.out.2.1.cb hc6 (by have := H5.out.2.2.2; omega), hd6, H5.out.2.2.2.1, H5.out.2.2.2.2⟩
    clear hc6 hd6 H5
    go_wp2_with fail
    refine (clone_any E q (a ++ c) (cnt (a ++ c)) w6 H6.out.2.2.1).mono ?_
    rintro e w7 ⟨rfl, hc7, hd7⟩
    obtain ⟨F, hF⟩ : ∃ F, F = w6.heap.size := ⟨_, rfl⟩
    rw [← hF] at hd7 ⊢
    have hEF : E < F := by rw [hF]; exact H6.out.2.2.1.lt
    have H7 : Hid (Chg w w7 ∧ DgC w7 D q (a ++ b) (cnt (a ++ b)) ∧ DgC w7 E q (a ++ c) (cnt (a ++ c)) ∧ DgC w7 F q (a ++ c) (cnt (a ++ c)) ∧ w.heap.size ≤ D ∧ D < E ∧ E < F) := ⟨H6.out.1.trans hc7, H6.out.2.1.chg hc7, H6.out.2.2.1.chg hc7, hd7, H6.out.2.2.2.1, H6.out.2.2.2.2, hEF⟩
    clear hc7 hd7 hEF hF H6
    go_wp2_with fail
    refine (write_any F q (a ++ c) b (.slice pb nb cb) w7 HV.out.1 (HT.out.chg H7.out.1) (by have := H7.out.2.2.2.2; omega) H7.out.2.2.2.1 (HA.out.2.1.to H7.out.1 (by have := H7.out.2.2.2.2; omega))).mono ?_
    rintro e w8 ⟨rfl, hc8, hd8⟩
    have H8 : Hid (Chg w w8 ∧ DgC w8 D q (a ++ b) (cnt (a ++ b)) ∧ DgC w8 E q (a ++ c) (cnt (a ++ c)) ∧ DgC w8 F q (a ++ c ++ b) (cnt (a ++ c ++ b))) := ⟨Cb.low H7.out.1 hc8 (by have := H7.out.2.2.2.2; omega), H7.out.2.1.cb hc8 (by have := H7.out.2.2.2.2; omega), H7.out.2.2.1.cb hc8 (by have := H7.out.2.2.2.2; omega), hd8⟩
    clear hc8 hd8 H7
    go_wp2_with fail
    go_cut [13] from 49 to 59 (fun v wc => v = .bool true ∧ Chg w8 wc)
    case first =>
      obtain ⟨s, hs⟩ : ∃ s, s = sumStr q (a ++ b) := ⟨_, rfl⟩
      have HSm : Hid (∀ u, Chg w8 u → Calls Tryd.prog 16 #[.pointer (some ⟨D, 0, none⟩)] u fun r w' => ∃ x, r = .returned (.slice (some ⟨x, 0, none⟩) S S) ∧ Chg u w' ∧ Txt w' x S s) := by
        intro u hu
        refine (sum_any D q (a ++ b) u HV.out.1 (HT.out.chg (H8.out.1.trans hu)) (H8.out.2.1.chg hu)).mono ?_
        rintro r w' ⟨x, rfl, _, k2, k3⟩
        rw [HV.out.2]
        exact ⟨x, rfl, k2, _, k3, hs⟩
      have HOf : Hid (∀ u v, Chg w8 u → Pt u v [a, b] → Calls Tryd.prog 8 #[.int .i64 q, v] u fun r w' => ∃ x, r = .returned (.slice (some ⟨x, 0, none⟩) S S) ∧ Chg u w' ∧ Txt w' x S s) := by
        intro u v hu hp
        refine (of_any q v [a, b] u HV.out.1 (HT.out.chg (H8.out.1.trans hu)) hp).mono ?_
        rintro r w' ⟨x, rfl, _, k2, k3⟩
        rw [HV.out.2]
        refine ⟨x, rfl, k2, _, k3, ?_⟩
        rw [hs, sumStr]
        simp
      have HPt : Hid (∀ u, Chg w8 u → Pt (u.alloc (.cells #[.slice pa na ca, .slice pb nb cb] 23)) (.slice (some ⟨u.heap.size, 0, none⟩) 2 2) [a, b]) := fun u hu => Pt.made2 (H8.out.1.trans hu) HA.out.1 HA.out.2.1 23
      clear hs
      go_region_with (first
        | (go_at_call 16; (refine (HSm.out _ (by first | exact (Chg.refl _).drew | exact (Chg.refl _).drew.alloc _ | exact hO8)).mono ?_; rintro e wS ⟨bS, rfl, hcS, haS⟩; have hS8 : Chg w8 wS := Chg.trans (by first | exact (Chg.refl _).drew | exact (Chg.refl _).drew.alloc _ | exact hO8) hcS; have kS := haS.str; have kSa := fun o => (haS.alloc o).str; try have kO2 := (haO.chg hcS).str))
        | (go_at_call 8; (refine (HOf.out _ _ (by first | exact (Chg.refl _).drew.alloc _ | exact hS8.alloc _ | exact hS8) (by first | exact HPt.out _ (Chg.refl _).drew | exact HPt.out _ hS8 | exact (HPt.out _ (Chg.refl _).drew).chg hcS)).mono ?_; rintro e wO ⟨bO, rfl, hcO, haO⟩; have hO8 : Chg w8 wO := Chg.trans (by first | exact (Chg.refl _).drew.alloc _ | exact hS8.alloc _ | exact hS8) hcO; have kO := haO.str; try have kS2 := (haS.chg (Chg.trans (by first | exact Chg.refl _ | exact (Chg.refl _).alloc _) hcO)).str)))
      all_goals go_wp2_with fail
      all_goals go_meet
      all_goals first | exact ⟨rfl, hO8⟩ | exact ⟨rfl, hS8⟩ | exact ⟨rfl, hO8.drew⟩ | exact ⟨rfl, hS8.drew⟩
    obtain ⟨rfl, hcc⟩ := hcut
    obtain ⟨w9, hw9⟩ : ∃ w9, w9 = wc := ⟨_, rfl⟩
    subst hw9
    have H9 : Hid (Chg w w9 ∧ DgC w9 D q (a ++ b) (cnt (a ++ b)) ∧ DgC w9 E q (a ++ c) (cnt (a ++ c)) ∧ DgC w9 F q (a ++ c ++ b) (cnt (a ++ c ++ b))) := ⟨H8.out.1.trans hcc, H8.out.2.1.chg hcc, H8.out.2.2.1.chg hcc, H8.out.2.2.2.chg hcc⟩
    clear hcc H8
    go_wp2_with fail
    go_cut [14] from 59 to 69 (fun v wc => v = .bool true ∧ Chg w9 wc)
    case first =>
      obtain ⟨s, hs⟩ : ∃ s, s = sumStr q (a ++ c) := ⟨_, rfl⟩
      have HSm : Hid (∀ u, Chg w9 u → Calls Tryd.prog 16 #[.pointer (some ⟨E, 0, none⟩)] u fun r w' => ∃ x, r = .returned (.slice (some ⟨x, 0, none⟩) S S) ∧ Chg u w' ∧ Txt w' x S s) := by
        intro u hu
        refine (sum_any E q (a ++ c) u HV.out.1 (HT.out.chg (H9.out.1.trans hu)) (H9.out.2.2.1.chg hu)).mono ?_
        rintro r w' ⟨x, rfl, _, k2, k3⟩
        rw [HV.out.2]
        exact ⟨x, rfl, k2, _, k3, hs⟩
      have HOf : Hid (∀ u v, Chg w9 u → Pt u v [a, c] → Calls Tryd.prog 8 #[.int .i64 q, v] u fun r w' => ∃ x, r = .returned (.slice (some ⟨x, 0, none⟩) S S) ∧ Chg u w' ∧ Txt w' x S s) := by
        intro u v hu hp
        refine (of_any q v [a, c] u HV.out.1 (HT.out.chg (H9.out.1.trans hu)) hp).mono ?_
        rintro r w' ⟨x, rfl, _, k2, k3⟩
        rw [HV.out.2]
        refine ⟨x, rfl, k2, _, k3, ?_⟩
        rw [hs, sumStr]
        simp
      have HPt : Hid (∀ u, Chg w9 u → Pt (u.alloc (.cells #[.slice pa na ca, .slice pc nc cc] 23)) (.slice (some ⟨u.heap.size, 0, none⟩) 2 2) [a, c]) := fun u hu => Pt.made2 (H9.out.1.trans hu) HA.out.1 HA.out.2.2 23
      clear hs
      go_region_with (first
        | (go_at_call 16; (refine (HSm.out _ (by first | exact (Chg.refl _).drew | exact (Chg.refl _).drew.alloc _ | exact hO8)).mono ?_; rintro e wS ⟨bS, rfl, hcS, haS⟩; have hS8 : Chg w9 wS := Chg.trans (by first | exact (Chg.refl _).drew | exact (Chg.refl _).drew.alloc _ | exact hO8) hcS; have kS := haS.str; have kSa := fun o => (haS.alloc o).str; try have kO2 := (haO.chg hcS).str))
        | (go_at_call 8; (refine (HOf.out _ _ (by first | exact (Chg.refl _).drew.alloc _ | exact hS8.alloc _ | exact hS8) (by first | exact HPt.out _ (Chg.refl _).drew | exact HPt.out _ hS8 | exact (HPt.out _ (Chg.refl _).drew).chg hcS)).mono ?_; rintro e wO ⟨bO, rfl, hcO, haO⟩; have hO8 : Chg w9 wO := Chg.trans (by first | exact (Chg.refl _).drew.alloc _ | exact hS8.alloc _ | exact hS8) hcO; have kO := haO.str; try have kS2 := (haS.chg (Chg.trans (by first | exact Chg.refl _ | exact (Chg.refl _).alloc _) hcO)).str)))
      all_goals go_wp2_with fail
      all_goals go_meet
      all_goals first | exact ⟨rfl, hO8⟩ | exact ⟨rfl, hS8⟩ | exact ⟨rfl, hO8.drew⟩ | exact ⟨rfl, hS8.drew⟩
    obtain ⟨rfl, hcc⟩ := hcut
    obtain ⟨wx, hwx⟩ : ∃ wx, wx = wc := ⟨_, rfl⟩
    subst hwx
    have HX : Hid (Chg w wx ∧ DgC wx D q (a ++ b) (cnt (a ++ b)) ∧ DgC wx E q (a ++ c) (cnt (a ++ c)) ∧ DgC wx F q (a ++ c ++ b) (cnt (a ++ c ++ b))) := ⟨H9.out.1.trans hcc, H9.out.2.1.chg hcc, H9.out.2.2.1.chg hcc, H9.out.2.2.2.chg hcc⟩
    clear hcc H9
    go_wp2_with fail
    go_cut [15] from 69 to 80 (fun v wc => v = .bool true ∧ Chg wx wc)
    case first =>
      obtain ⟨s, hs⟩ : ∃ s, s = sumStr q (a ++ c ++ b) := ⟨_, rfl⟩
      have HSm : Hid (∀ u, Chg wx u → Calls Tryd.prog 16 #[.pointer (some ⟨F, 0, none⟩)] u fun r w' => ∃ x, r = .returned (.slice (some ⟨x, 0, none⟩) S S) ∧ Chg u w' ∧ Txt w' x S s) := by
        intro u hu
        refine (sum_any F q (a ++ c ++ b) u HV.out.1 (HT.out.chg (HX.out.1.trans hu)) (HX.out.2.2.2.chg hu)).mono ?_
        rintro r w' ⟨x, rfl, _, k2, k3⟩
        rw [HV.out.2]
        exact ⟨x, rfl, k2, _, k3, hs⟩
      have HOf : Hid (∀ u v, Chg wx u → Pt u v [a, c, b] → Calls Tryd.prog 8 #[.int .i64 q, v] u fun r w' => ∃ x, r = .returned (.slice (some ⟨x, 0, none⟩) S S) ∧ Chg u w' ∧ Txt w' x S s) := by
        intro u v hu hp
        refine (of_any q v [a, c, b] u HV.out.1 (HT.out.chg (HX.out.1.trans hu)) hp).mono ?_
        rintro r w' ⟨x, rfl, _, k2, k3⟩
        rw [HV.out.2]
        refine ⟨x, rfl, k2, _, k3, ?_⟩
        rw [hs, sumStr]
        simp
      have HPt : Hid (∀ u, Chg wx u → Pt (u.alloc (.cells #[.slice pa na ca, .slice pc nc cc, .slice pb nb cb] 23)) (.slice (some ⟨u.heap.size, 0, none⟩) 3 3) [a, c, b]) := fun u hu => Pt.made3 (HX.out.1.trans hu) HA.out.1 HA.out.2.2 HA.out.2.1 23
      clear hs
      go_region_with (first
        | (go_at_call 16; (refine (HSm.out _ (by first | exact (Chg.refl _).drew | exact (Chg.refl _).drew.alloc _ | exact hO8)).mono ?_; rintro e wS ⟨bS, rfl, hcS, haS⟩; have hS8 : Chg wx wS := Chg.trans (by first | exact (Chg.refl _).drew | exact (Chg.refl _).drew.alloc _ | exact hO8) hcS; have kS := haS.str; have kSa := fun o => (haS.alloc o).str; try have kO2 := (haO.chg hcS).str))
        | (go_at_call 8; (refine (HOf.out _ _ (by first | exact (Chg.refl _).drew.alloc _ | exact hS8.alloc _ | exact hS8) (by first | exact HPt.out _ (Chg.refl _).drew | exact HPt.out _ hS8 | exact (HPt.out _ (Chg.refl _).drew).chg hcS)).mono ?_; rintro e wO ⟨bO, rfl, hcO, haO⟩; have hO8 : Chg wx wO := Chg.trans (by first | exact (Chg.refl _).drew.alloc _ | exact hS8.alloc _ | exact hS8) hcO; have kO := haO.str; try have kS2 := (haS.chg (Chg.trans (by first | exact Chg.refl _ | exact (Chg.refl _).alloc _) hcO)).str)))
      all_goals go_wp2_with fail
      all_goals go_meet
      all_goals first | exact ⟨rfl, hO8⟩ | exact ⟨rfl, hS8⟩ | exact ⟨rfl, hO8.drew⟩ | exact ⟨rfl, hS8.drew⟩
    obtain ⟨rfl, hcc⟩ := hcut
    obtain ⟨wy, hwy⟩ : ∃ wy, wy = wc := ⟨_, rfl⟩
    subst hwy
    have HY : Hid (Chg w wy ∧ DgC wy D q (a ++ b) (cnt (a ++ b)) ∧ DgC wy E q (a ++ c) (cnt (a ++ c)) ∧ DgC wy F q (a ++ c ++ b) (cnt (a ++ c ++ b))) := ⟨HX.out.1.trans hcc, HX.out.2.1.chg hcc, HX.out.2.2.1.chg hcc, HX.out.2.2.2.chg hcc⟩
    clear hcc HX
    go_wp2_with fail
    obtain ⟨rE, kE, _⟩ := HY.out.2.2.1
    refine (hash_any E q _ wy kE (dig_hash _ _ _ _ _)).mono ?_
    rintro e w10 ⟨rfl, hw10⟩
    rw [hw10]
    clear hw10 kE
    go_wp2_with fail
    have hsm := sum_any D q (a ++ b) wy HV.out.1 (HT.out.chg HY.out.1) HY.out.2.1
    rw [← HV.out.2] at hsm
    refine hsm.mono ?_
    rintro e w11 ⟨x, rfl, _, hc11, _⟩
    have H11 : Hid (Chg w w11) := HY.out.1.trans hc11
    clear hsm hc11
    go_wp2_with (first | (go_at_call 10; (refine (HSz.out _).mono ?_; rintro r' w3 ⟨rfl, hw3⟩; rw [hw3]; clear hw3 w3)))
    go_ret
    exact ⟨rfl, H11.out⟩
  · have HZ : Hid (∀ u, Calls Tryd.prog 10 #[.int .i64 q] u fun r w' => r = .returned (.int .i64 0) ∧ w' = u) := by
      intro u
      have := size_any q u
      rw [sizeOf_not hv] at this
      exact this
    have HN : Hid (∀ u, Calls Tryd.prog 14 #[.int .i64 q] u fun r w' => r = .returned (.pointer none) ∧ w' = u) := fun u => new_none q u hv
    clear hS hv HSz
    go_enter Tryd.func6, Tryd.ntmps6
    go_wp2_with fail
    refine (head_any w HT.out).mono ?_
    rintro e w1 ⟨rfl, hc1⟩
    have H1 : Hid (Chg w w1) := hc1
    clear hc1
    go_wp2_with (first | (go_at_call 14; (refine (HN.out _).mono ?_; rintro r' w3 ⟨rfl, hw3⟩; rw [hw3]; clear hw3 w3)) | (go_at_call 10; (refine (HZ.out _).mono ?_; rintro r' w3 ⟨rfl, hw3⟩; rw [hw3]; clear hw3 w3)))
    go_ret
    exact ⟨rfl, H1.out⟩
end Go.Proofs.YtbnonbhlfiadaaaDoor
