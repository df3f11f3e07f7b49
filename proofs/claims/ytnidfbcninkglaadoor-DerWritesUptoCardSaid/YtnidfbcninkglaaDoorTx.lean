/-
  A moment's text; a time written.
-/
import Derived.Test.YtnidfbcninkglaaDoorTm
namespace Go.Proofs.YtnidfbcninkglaaDoor
open Go.RowKit
set_option linter.unusedVariables false
set_option maxRecDepth 100000

def fsL (y m d r : Int) : List Int := [y / 100, y % 100, m, d, r / 3600, r / 60 % 60, r % 60]
theorem textL_eq (y m d r : Int) : textL y m d r = ((fsL y m d r).map dg2).flatten ++ [90] := by
  simp [textL, fsL]
theorem flat_snoc {fs : List Int} {k : Nat} {x : Int} (h : fs[k]? = some x) : ((fs.take (k + 1)).map dg2).flatten = ((fs.take k).map dg2).flatten ++ dg2 x := by
  rw [List.take_add_one, h]
  simp
theorem flat_len (fs : List Int) (k : Nat) : ((fs.take k).map dg2).flatten.length ≤ 2 * k := by
  induction k with
  | zero => simp
  | succ k ih =>
    cases h : fs[k]? with
    | none => rw [List.take_add_one, h]; simp only [Option.toList_none, List.append_nil]; omega
    | some x => rw [flat_snoc h, List.length_append]; simp only [dg2, List.length_cons, List.length_nil]; omega

theorem idx7_0 (a b c d e f g : Int) (W : World) : (Instr.index 87 (.agg #[.int .i64 a, .int .i64 b, .int .i64 c, .int .i64 d, .int .i64 e, .int .i64 f, .int .i64 g]) (.int .i64 0)).run Tryd.prog W = .ok (.int .i64 a) W := by kernel_rfl
theorem idx7_1 (a b c d e f g : Int) (W : World) : (Instr.index 87 (.agg #[.int .i64 a, .int .i64 b, .int .i64 c, .int .i64 d, .int .i64 e, .int .i64 f, .int .i64 g]) (.int .i64 1)).run Tryd.prog W = .ok (.int .i64 b) W := by kernel_rfl
theorem idx7_2 (a b c d e f g : Int) (W : World) : (Instr.index 87 (.agg #[.int .i64 a, .int .i64 b, .int .i64 c, .int .i64 d, .int .i64 e, .int .i64 f, .int .i64 g]) (.int .i64 2)).run Tryd.prog W = .ok (.int .i64 c) W := by kernel_rfl
theorem idx7_3 (a b c d e f g : Int) (W : World) : (Instr.index 87 (.agg #[.int .i64 a, .int .i64 b, .int .i64 c, .int .i64 d, .int .i64 e, .int .i64 f, .int .i64 g]) (.int .i64 3)).run Tryd.prog W = .ok (.int .i64 d) W := by kernel_rfl
theorem idx7_4 (a b c d e f g : Int) (W : World) : (Instr.index 87 (.agg #[.int .i64 a, .int .i64 b, .int .i64 c, .int .i64 d, .int .i64 e, .int .i64 f, .int .i64 g]) (.int .i64 4)).run Tryd.prog W = .ok (.int .i64 e) W := by kernel_rfl
theorem idx7_5 (a b c d e f g : Int) (W : World) : (Instr.index 87 (.agg #[.int .i64 a, .int .i64 b, .int .i64 c, .int .i64 d, .int .i64 e, .int .i64 f, .int .i64 g]) (.int .i64 5)).run Tryd.prog W = .ok (.int .i64 f) W := by kernel_rfl
theorem idx7_6 (a b c d e f g : Int) (W : World) : (Instr.index 87 (.agg #[.int .i64 a, .int .i64 b, .int .i64 c, .int .i64 d, .int .i64 e, .int .i64 f, .int .i64 g]) (.int .i64 6)).run Tryd.prog W = .ok (.int .i64 g) W := by kernel_rfl

set_option maxHeartbeats 3200000 in
/-- A moment's text. -/
theorem text_any (y m d r : Int) (hy0 : 1 ≤ y) (hy1 : y ≤ 9999) (hm0 : 1 ≤ m) (hm1 : m ≤ 12) (hd0 : 1 ≤ d) (hd1 : d ≤ 31) (hr0 : 0 ≤ r) (hr1 : r < 86400) (w : World) :
    Calls Tryd.prog 53 #[mom y m d r] w fun e w' => ∃ v', e = .returned v' ∧ OwnN w w' v' (textL y m d r) := by
  unfold mom
  obtain ⟨a0, ha0⟩ : ∃ a0, a0 = r / 3600 := ⟨_, rfl⟩
  obtain ⟨a1, ha1⟩ : ∃ a1, a1 = r / 60 % 60 := ⟨_, rfl⟩
  obtain ⟨a2, ha2⟩ : ∃ a2, a2 = r % 60 := ⟨_, rfl⟩
  obtain ⟨y1, hy11⟩ : ∃ y1, y1 = y / 100 := ⟨_, rfl⟩
  obtain ⟨y2, hy22⟩ : ∃ y2, y2 = y % 100 := ⟨_, rfl⟩
  obtain ⟨fs, hfs⟩ : ∃ fs, fs = [y1, y2, m, d, a0, a1, a2] := ⟨_, rfl⟩
  have HT : Hid (textL y m d r = (fs.map dg2).flatten ++ [90]) := by show _ = _; rw [textL_eq, hfs, ha0, ha1, ha2, hy11, hy22]; rfl
  obtain ⟨Z, hZ⟩ : ∃ Z, Z = textL y m d r := ⟨_, rfl⟩
  have HZ : Hid (Z = (fs.map dg2).flatten ++ [90]) := hZ.trans HT.out
  have HFS : Hid (fs = [y1, y2, m, d, a0, a1, a2]) := hfs
  rw [← ha0, ← ha1, ← ha2, ← hZ]
  have q1 : y / 100 = y1 := hy11.symm
  have q2 : y % 100 = y2 := hy22.symm
  have b30 : 0 ≤ y1 := by omega
  have b31 : y1 < 100 := by omega
  have b40 : 0 ≤ y2 := by omega
  have b41 : y2 < 100 := by omega
  have b0 : 0 ≤ a0 ∧ a0 < 24 := by omega
  have b1 : 0 ≤ a1 ∧ a1 < 60 := by omega
  have b2 : 0 ≤ a2 ∧ a2 < 60 := by omega
  obtain ⟨b00, b01⟩ := b0
  obtain ⟨b10, b11⟩ := b1
  obtain ⟨b20, b21⟩ := b2
  clear ha0 ha1 ha2 hZ HT hfs hy11 hy22
  obtain ⟨i0, hi, hz0, hz1, hz2⟩ := info_parts Tryd.info5
  go_enter Tryd.func53, Tryd.ntmps53
  go_upto_region 1 with fail
  obtain ⟨w1, hw1⟩ : ∃ w1, w1 = w.alloc (.cells #[.int .i64 y, .int .i64 m, .int .i64 d, .int .i64 a0, .int .i64 a1, .int .i64 a2] 84) := ⟨_, rfl⟩
  have HC1 : Hid (Chg Non w w1) := by rw [hw1]; exact (Chg.refl _ _).alloc _
  have HCC : Hid (∀ u, Chg Non w1 u → u.cell? ⟨w.heap.size, 0, none⟩ = some (.int .i64 y) ∧ u.cell? ⟨w.heap.size, 1, none⟩ = some (.int .i64 m) ∧ u.cell? ⟨w.heap.size, 2, none⟩ = some (.int .i64 d) ∧ u.cell? ⟨w.heap.size, 3, none⟩ = some (.int .i64 a0) ∧ u.cell? ⟨w.heap.size, 4, none⟩ = some (.int .i64 a1) ∧ u.cell? ⟨w.heap.size, 5, none⟩ = some (.int .i64 a2)) := by
    intro u hu
    have hb : u.heap[w.heap.size]? = w1.heap[w.heap.size]? := hu.block _ (by rw [hw1, World.size_alloc]; omega) (fun x => x)
    have hc : ∀ j, u.cell? ⟨w.heap.size, j, none⟩ = w1.cell? ⟨w.heap.size, j, none⟩ := fun j => World.cell?_of_block hb
    rw [hc, hc, hc, hc, hc, hc, hw1]
    simp
  rw [← hw1]
  clear hw1
  go_wp2_with (at_make; refine wpList_make_own _ rfl _ _ 22 rfl w1.heap.size 5 i0 (.int .u8 0) 1 Tryd.underlying22 hi hz0 hz1 _ _ _ 15 rfl rfl rfl (by rw [hz2]; omega) (by unfold maxLen; omega) (Nat.le_refl _) ?_; intro w2 hrow2 hg2; obtain ⟨c0, c1, c2, c3, c4, c5⟩ := HCC.out w2 (Chg.of_none hg2))
  have HO2 : Hid (OwnN w w2 (.slice (some ⟨w1.heap.size, 0, none⟩) 0 15) []) := OwnN.made HC1.out hrow2 hg2
  simp only [q1, q2]
  clear hrow2 hg2 hi hz0 hz1 hz2 c0 c1 c2 c3 c4 c5 q1 q2
  go_loopw [3, 24] (fun b i wr => ∃ (k : Nat) (acc : List Int), k ≤ 7 ∧ i = .int .i64 k ∧ Hid (acc = ((fs.take k).map dg2).flatten) ∧ Hid (OwnN w wr b acc)) (fun _ i _ => 7 - (intOf i).toNat)
  case atStart => exact ⟨0, [], Nat.zero_le _, rfl, (by simp : [] = ((fs.take 0).map dg2).flatten), HO2⟩
  case round =>
    obtain ⟨k, acc, hk, rfl, hacc, hI⟩ := hrel
    rename_i u3 wr _
    obtain ⟨o6, n6, c6, hu6, -, -, -⟩ := hI.out.rd.shape
    subst hu6
    by_cases hlt : k < 7
    · have hk7 : k = 0 ∨ k = 1 ∨ k = 2 ∨ k = 3 ∨ k = 4 ∨ k = 5 ∨ k = 6 := by omega
      obtain ⟨x, hx⟩ : ∃ x, fs[k]? = some x := ⟨fs[k]'(by rw [HFS.out]; exact hlt), List.getElem?_eq_getElem _⟩
      have hxx : fs[k]? = some x := hx
      rw [HFS.out] at hxx
      have HS := flat_snoc hx
      have HL : Hid (acc.length ≤ 14) := by show _ ≤ _; have := flat_len fs k; rw [hacc.out]; omega
      obtain ⟨acc', hacc'⟩ : ∃ acc', acc' = acc ++ dg2 x := ⟨_, rfl⟩
      have HA : Hid (acc' = ((fs.take (k + 1)).map dg2).flatten) := by show _ = _; rw [hacc', hacc.out, ← HS]
      have HAX : Hid (acc' = acc ++ dg2 x) := hacc'
      clear hacc' HS
      clear hx
      rcases hk7 with rfl | rfl | rfl | rfl | rfl | rfl | rfl
      all_goals
        simp at hxx
        subst hxx
        have x0 := idx7_0
        have x1 := idx7_1
        have x2 := idx7_2
        have x3 := idx7_3
        have x4 := idx7_4
        have x5 := idx7_5
        have x6 := idx7_6
        go_wp2_with (at_builtin; refine wpList_app _ rfl (.tmp 27) (.tmp 36) rfl _ _ acc _ rfl rfl (hI.out.own.chg ((Chg.refl _ _).alloc _)) (row_rd _ (dg2 _) 2 rfl (by decide)) (by have := HL.out; simp only [dg2, List.length_cons, List.length_nil]; omega) ?_)
        intro v7 w7 g1 g2 g3
        have HO8 : Hid (OwnN w w7 v7 acc') := by rw [HAX.out]; exact (hI.out.after ((Chg.refl _ _).alloc _)).more g1 g2 (by simpa using g3)
        clear g1 g2 g3
        go_wp2
        go_roundw
        case rel => exact ⟨_, acc', by omega, by go_num, HA, HO8⟩
        case measure => simp [intOf]
    · have hk7 : k = 7 := by omega
      subst hk7
      have HE : Hid (acc ++ [90] = Z) := by
        show _ = _
        rw [HZ.out, hacc.out, List.take_of_length_le (by rw [HFS.out]; simp)]
      have HL : Hid (acc.length ≤ 14) := by show _ ≤ _; rw [hacc.out]; exact flat_len fs 7
      go_wp2_with (at_builtin; refine wpList_app _ rfl (.tmp 39) (.tmp 40) rfl _ _ acc [90] rfl rfl (hI.out.own.chg ((Chg.refl _ _).alloc _)) (Rd.one _ _) (by have := HL.out; simp only [List.length_cons, List.length_nil]; omega) ?_)
      intro v7 w7 g1 g2 g3
      have HO7 := (hI.out.after ((Chg.refl _ _).alloc _)).more g1 g2 (by simpa using g3)
      rw [HE.out] at HO7
      go_wp2
      go_ret
      exact ⟨_, rfl, HO7⟩
end Go.Proofs.YtnidfbcninkglaaDoor
