/-
  A number less a quotient times an order, five digits of it: as the program makes it.
-/
import Derived.Test.YtbdgmkejmfjobaaQuot
namespace Go.Proofs.Ytbdgmkejmfjobaa
set_option maxRecDepth 100000
open Go.RowKit
set_option linter.unusedVariables false
set_option maxHeartbeats 8000000 in
theorem wout3_any (x qq : Int) (w : World) :
  Calls Try.prog 103 #[.agg #[], .agg (wid x), .agg (fiv qq)] w fun r w' => ∃ (l T : Nat → Int) (u : Int), r = .returned (.tuple #[.agg (arr .u64 4 l), .int .u64 ((dg B64 x 4 - T 4 - u) % 18446744073709551616)]) ∧ Chg w w' ∧ (∀ i, W64 (l i)) ∧ (∀ i, W64 (T i)) ∧ 0 ≤ u ∧ u ≤ 1 ∧ val B64 9 T = val B64 5 (dg B64 qq) * val B64 4 (dg B64 (mo 3)) ∧ val B64 4 l - u * B64 ^ 4 = val B64 4 (dg B64 x) - val B64 4 T := by
 obtain ⟨D, hD⟩ : ∃ D, D = dg B64 qq := ⟨_, rfl⟩
 obtain ⟨E, hE⟩ : ∃ E, E = dg B64 (mo 3) := ⟨_, rfl⟩
 obtain ⟨X, hX⟩ : ∃ X, X = dg B64 x := ⟨_, rfl⟩
 have HE : Hid ((∀ i, W64 (D i)) ∧ (∀ i, W64 (E i)) ∧ (∀ i, W64 (X i))) := by
  refine ⟨?_, ?_, ?_⟩
  ·rw [hD]; exact dg_w _
  ·rw [hE]; exact dg_w _
  ·rw [hX]; exact dg_w _
 rw [← hD, ← hE, ← hX]
 have HQ : Hid (E = dg B64 (mo 3)) := hE
 obtain ⟨W, hW⟩ : ∃ W, W = ((((w.alloc (.cells #[] 95)).alloc (.cells (wid x) 86)).alloc (.cells (fiv qq) 105)).alloc (.cells #[.int .u64 0, .int .u64 0, .int .u64 0, .int .u64 0] 24)).alloc (.cells #[] 83) := ⟨_, rfl⟩
 have a1 : Ar W (w.heap.size + 1) (arr .u64 8 X) := by rw [hW, hX]; exact (((Ar.new1 _ _ _ _).alloc _).alloc _).alloc _
 have a2 : Ar W (w.heap.size + 1 + 1) (arr .u64 5 D) := by rw [hW, hD]; exact ((Ar.new2 _ _ _ _ _).alloc _).alloc _
 have a3 : Ar W (w.heap.size + 1 + 1 + 1) (arr .u64 4 fun _ => 0) := by rw [hW]; exact (Ar.new3 _ _ _ _ _ _).alloc _
 have hc : Chg w W := by rw [hW]; exact (((((Chg.refl w).alloc _).alloc _).alloc _).alloc _).alloc _
 have HW : Hid (W = ((((w.alloc (.cells #[] 95)).alloc (.cells (wid x) 86)).alloc (.cells (fiv qq) 105)).alloc (.cells #[.int .u64 0, .int .u64 0, .int .u64 0, .int .u64 0] 24)).alloc (.cells #[] 83)) := hW
 have A1 : Hid (Ar W (w.heap.size + 1) (arr .u64 8 X)) := a1
 have A2 : Hid (Ar W (w.heap.size + 1 + 1) (arr .u64 5 D)) := a2
 have A3 : Hid (Ar W (w.heap.size + 1 + 1 + 1) (arr .u64 4 fun _ => 0)) := a3
 have HC : Hid (Chg w W) := hc
 clear hW a1 a2 a3 hc hD hE hX
 go_enter Try.func103, Try.ntmps103
 go_wp2_with fail
 rw [← HW.out]
 clear HW
 refine (order3_any _).mono ?_
 rintro r w1 ⟨hr, hc1⟩
 rw [num4, ← HQ.out] at hr
 subst hr
 have B1 : Hid (Ar w1 (w.heap.size + 1) (arr .u64 8 X)) := A1.out.chg hc1
 have B2 : Hid (Ar w1 (w.heap.size + 1 + 1) (arr .u64 5 D)) := A2.out.chg hc1
 have B3 : Hid (Ar w1 (w.heap.size + 1 + 1 + 1) (arr .u64 4 fun _ => 0)) := A3.out.chg hc1
 have HC1 : Hid (Chg w w1) := HC.out.trans hc1
 have HN : Hid (w.heap.size + 1 + 1 + 1 < w1.heap.size) := B3.out.lt
 clear A1 A2 A3 HC hc1
 go_wp2_with fail
 have cE : Hid (Ar ((w1.alloc (.cells #[.int .u64 (E 0), .int .u64 (E 1), .int .u64 (E 2), .int .u64 (E 3)] 24)).alloc (.cells #[.int .u64 0, .int .u64 0, .int .u64 0, .int .u64 0, .int .u64 0, .int .u64 0, .int .u64 0, .int .u64 0, .int .u64 0] 110)) w1.heap.size (arr .u64 4 E)) := (Ar.new _ _ _).alloc _
 have cT : Hid (Ar ((w1.alloc (.cells #[.int .u64 (E 0), .int .u64 (E 1), .int .u64 (E 2), .int .u64 (E 3)] 24)).alloc (.cells #[.int .u64 0, .int .u64 0, .int .u64 0, .int .u64 0, .int .u64 0, .int .u64 0, .int .u64 0, .int .u64 0, .int .u64 0] 110)) (w1.heap.size + 1) (arr .u64 9 fun _ => 0)) := Ar.new1 _ _ _ _
 go_loopw [20] (fun v wr => ∃ (i : Nat) (s : Nat → Int), v = .int .i64 i ∧ i ≤ 5 ∧ Ar wr (w.heap.size + 1) (arr .u64 8 X) ∧ Ar wr (w.heap.size + 1 + 1) (arr .u64 5 D) ∧ Ar wr (w.heap.size + 1 + 1 + 1) (arr .u64 4 fun _ => 0) ∧ Ar wr w1.heap.size (arr .u64 4 E) ∧ Ar wr (w1.heap.size + 1) (arr .u64 9 s) ∧ Chg w wr ∧ (∀ j, W64 (s j)) ∧ (∀ j, i + 4 ≤ j → s j = 0) ∧ val B64 9 s = val B64 i D * val B64 4 E) (fun v wr => 5 - (intOf v).toNat)
 case atStart => exact ⟨0, fun _ => 0, rfl, by omega, (B1.out.alloc _).alloc _, (B2.out.alloc _).alloc _, (B3.out.alloc _).alloc _, cE.out, cT.out, (HC1.out.alloc _).alloc _, fun _ => ⟨by simp, by simp⟩, fun _ _ => rfl, by simp [val]⟩
 case round =>
  clear B1 B2 B3 HC1 cE cT
  obtain ⟨i, s, rfl, hi, h1, h2, h3, h5, h4, hc, hs, hz, hv⟩ := hrel
  obtain ⟨w2, hw2⟩ : ∃ w2, w2 = wr := ⟨_, rfl⟩
  subst hw2
  have HV : Hid (val B64 9 s = val B64 i D * val B64 4 E) := hv
  clear hv
  by_cases hi4 : i < 5
  ·have hdi : decide ((i : Int) < 5) = true := by simp; omega
   go_wp2_with fail
   go_loopw [12, 23] (fun ov v wr => ∃ (j : Nat) (o : Int) (t : Nat → Int), v = .int .i64 j ∧ j ≤ 4 ∧ ov = .int .u64 o ∧ W64 o ∧ Ar wr (w.heap.size + 1) (arr .u64 8 X) ∧ Ar wr (w.heap.size + 1 + 1) (arr .u64 5 D) ∧ Ar wr (w.heap.size + 1 + 1 + 1) (arr .u64 4 fun _ => 0) ∧ Ar wr w1.heap.size (arr .u64 4 E) ∧ Ar wr (w1.heap.size + 1) (arr .u64 9 t) ∧ Chg w wr ∧ (∀ j, W64 (t j)) ∧ (∀ j, i + 4 ≤ j → t j = 0) ∧ val B64 9 t + o * B64 ^ (i + j) = val B64 9 s + D i * val B64 j E * B64 ^ i) (fun ov v wr => 4 - (intOf v).toNat)
   case atStart => exact ⟨0, 0, s, rfl, by omega, rfl, ⟨by decide, by decide⟩, h1, h2, h3, h5, h4, hc, hs, hz, by simp [val]⟩
   case round =>
    clear h1 h2 h3 h4 h5 hc hs hz
    obtain ⟨j, o, t, rfl, hj, rfl, ho, h1, h2, h3, h5, h4, hc, ht, hz, hv⟩ := hrel
    have HC : Hid (Chg w wr) := hc
    have HZ : Hid ((∀ j, W64 (t j)) ∧ (∀ j, i + 4 ≤ j → t j = 0)) := ⟨ht, hz⟩
    have HT : Hid (val B64 9 t + o * B64 ^ (i + j) = val B64 9 s + D i * val B64 j E * B64 ^ i) := hv
    have H1 : Hid (Ar wr (w.heap.size + 1) (arr .u64 8 X)) := h1
    have H2 : Hid (Ar wr (w.heap.size + 1 + 1) (arr .u64 5 D)) := h2
    have H3 : Hid (Ar wr (w.heap.size + 1 + 1 + 1) (arr .u64 4 fun _ => 0)) := h3
    have H5 : Hid (Ar wr w1.heap.size (arr .u64 4 E)) := h5
    have H4 : Hid (Ar wr (w1.heap.size + 1) (arr .u64 9 t)) := h4
    clear hc ht hz hv
    by_cases hj4 : j < 4
    ·obtain ⟨q, hq⟩ : ∃ q : Nat, (i : Int) + j = q := ⟨i + j, by omega⟩
     have hq8 : q < 9 := by omega
     have hq8' : (q : Int) < 9 := by omega
     have hq0 : (0 : Int) ≤ q := by omega
     have hqw : IntKind.i64.wrap (q : Int) = q := by rw [IntKind.wrap_i64]; omega
     have c1 := (h2.cell i).trans (arr_get .u64 5 D hi4)
     have c2 := (h5.cell j).trans (arr_get .u64 4 E hj4)
     have c4 := (h4.cell q).trans (arr_get .u64 9 t hq8)
     have f4 := h4.frozen q
     obtain ⟨y1, hx1⟩ : ∃ y, y = D i := ⟨_, rfl⟩
     obtain ⟨y, hy⟩ : ∃ y, y = E j := ⟨_, rfl⟩
     obtain ⟨z, hz⟩ : ∃ y, y = t q := ⟨_, rfl⟩
     rw [← hx1] at c1
     rw [← hy] at c2
     rw [← hz] at c4
     have HO : Hid (W64 o ∧ W64 y1 ∧ W64 y ∧ W64 z) := ⟨ho, by rw [hx1]; exact HE.out.1 i, by rw [hy]; exact HE.out.2.1 j, by rw [hz]; exact HZ.out.1 q⟩
     have HX : Hid (y1 = D i ∧ y = E j ∧ z = t q) := ⟨hx1, hy, hz⟩
     clear h1 h2 h3 h4 h5 hx1 hy hz ho
     go_wp2_with fail
     go_region_with (first | (go_at_call 94; refine (step_any y1 y z o HO.out.2.1 HO.out.2.2.1 HO.out.2.2.2 HO.out.1 _).mono ?_; rintro r w' ⟨lo, hi, rfl, rfl, hlo, hhi, hst⟩))
     all_goals go_wp2
     all_goals
      obtain ⟨hx1, hy, hz⟩ := HX.out
      obtain ⟨ht, ht0⟩ := HZ.out
      have hqn : q = i + j := by omega
      have hn := HN.out
      go_roundw
      case rel =>
       refine ⟨j + 1, _, upd t q lo, by go_num, by omega, rfl, hhi, (H1.out.other (by dsimp only; omega) _).drew, (H2.out.other (by dsimp only; omega) _).drew, (H3.out.other (by dsimp only; omega) _).drew, (H5.out.other (by dsimp only; omega) _).drew, ?_, (HC.out.setCell (by dsimp only; omega) _).drew, upd_w ht q hlo, fun m hm => ?_, ?_⟩
       ·have := H4.out.set q (.int .u64 lo)
        rw [arr_set] at this
        exact this
       ·rw [upd_ne t _ (by omega)]; exact ht0 m hm
       ·rw [hqn]
        refine val_stepp (by omega) HT.out ?_
        rw [← hqn, ← hx1, ← hy, ← hz]
        exact hst
      case measure => simp [intOf]; omega
    ·have hj4' : j = 4 := by omega
     subst hj4'
     obtain ⟨q, hq⟩ : ∃ q : Nat, (i : Int) + 4 = q := ⟨i + 4, by omega⟩
     have hq8 : q < 9 := by omega
     have hq8' : (q : Int) < 9 := by omega
     have hq0 : (0 : Int) ≤ q := by omega
     have hqw : IntKind.i64.wrap (q : Int) = q := by rw [IntKind.wrap_i64]; omega
     have f4 := h4.frozen q
     have c4 := (h4.cell q).trans (arr_get .u64 9 t hq8)
     have HO : Hid (W64 o) := ho
     clear h1 h2 h3 h4 h5 ho
     go_wp2_with fail
     all_goals
      obtain ⟨ht, ht0⟩ := HZ.out
      have hqn : q = i + 4 := by omega
      have hn := HN.out
      go_roundw
      case rel =>
       refine ⟨i + 1, upd t q o, by go_num, by omega, H1.out.other (by dsimp only; omega) _, H2.out.other (by dsimp only; omega) _, H3.out.other (by dsimp only; omega) _, H5.out.other (by dsimp only; omega) _, ?_, HC.out.setCell (by dsimp only; omega) _, upd_w ht q HO.out, fun m hm => ?_, ?_⟩
       ·have := H4.out.set q (.int .u64 o)
        rw [arr_set] at this
        exact this
       ·rw [upd_ne t _ (by omega)]; exact ht0 m (by omega)
       ·rw [hqn]
        refine val_laid (by omega) (HT.out.trans ?_) (ht0 _ (Nat.le_refl _))
        rw [HV.out, val1 _ i]
        grind
      case measure => simp [intOf]; omega
  ·have HI : Hid (i = 5) := by show i = 5; omega
   have HS : Hid (∀ j, W64 (s j)) := hs
   have HM : Hid (w1.heap.size + 1 < w2.heap.size) := h4.lt
   have G1 : Hid (Ar w2 (w.heap.size + 1) (arr .u64 8 X)) := h1
   have G3 : Hid (Ar w2 (w.heap.size + 1 + 1 + 1) (arr .u64 4 fun _ => 0)) := h3
   have G4 : Hid (Ar w2 (w1.heap.size + 1) (arr .u64 9 s)) := h4
   have HC : Hid (Chg w w2) := hc
   have hd5 : decide ((i : Int) < 5) = false := by simp; omega
   rw [HI.out] at HV
   clear h1 h2 h3 h4 h5 hc hs hz
   go_wp2_with fail
   go_loopw [15, 52] (fun uv v wr => ∃ (k : Nat) (u : Int) (l : Nat → Int), v = .int .i64 k ∧ k ≤ 4 ∧ uv = .int .u64 u ∧ 0 ≤ u ∧ u ≤ 1 ∧ Ar wr (w.heap.size + 1) (arr .u64 8 X) ∧ Ar wr (w.heap.size + 1 + 1 + 1) (arr .u64 4 fun _ => 0) ∧ Ar wr (w1.heap.size + 1) (arr .u64 9 s) ∧ Ar wr w2.heap.size (arr .u64 4 l) ∧ Chg w wr ∧ (∀ j, W64 (l j)) ∧ val B64 k l - u * B64 ^ k = val B64 k X - val B64 k s) (fun uv v wr => 4 - (intOf v).toNat)
   case atStart => exact ⟨0, 0, fun _ => 0, rfl, by omega, rfl, by omega, by omega, G1.out.alloc _, G3.out.alloc _, G4.out.alloc _, Ar.new _ _ _, HC.out.alloc _, fun _ => ⟨by simp, by simp⟩, by simp [val]⟩
   case round =>
    clear G1 G3 G4 HC
    obtain ⟨k, u, l, rfl, hk, rfl, hu0, hu1, h1, h3, h4, h6, hc, hl, hv⟩ := hrel
    obtain ⟨w3, hw3⟩ : ∃ w3, w3 = wr := ⟨_, rfl⟩
    subst hw3
    have HL : Hid (∀ j, W64 (l j)) := hl
    have HT : Hid (val B64 k l - u * B64 ^ k = val B64 k X - val B64 k s) := hv
    have H1 : Hid (Ar w3 (w.heap.size + 1) (arr .u64 8 X)) := h1
    have H3 : Hid (Ar w3 (w.heap.size + 1 + 1 + 1) (arr .u64 4 fun _ => 0)) := h3
    have H4 : Hid (Ar w3 (w1.heap.size + 1) (arr .u64 9 s)) := h4
    have H6 : Hid (Ar w3 w2.heap.size (arr .u64 4 l)) := h6
    have HC : Hid (Chg w w3) := hc
    clear hl hv hc
    by_cases hk4 : k < 4
    ·have c1 := (h1.cell k).trans (arr_get .u64 8 X (Nat.lt_trans hk4 (by decide)))
     have c2 := (h4.cell k).trans (arr_get .u64 9 s (Nat.lt_trans hk4 (by decide)))
     have c6 := (h6.cell k).trans (arr_get .u64 4 l hk4)
     have f6 := h6.frozen k
     have hk8 : (k : Int) < 8 := by omega
     have hk9 : (k : Int) < 9 := by omega
     obtain ⟨y1, hx1⟩ : ∃ y, y = X k := ⟨_, rfl⟩
     obtain ⟨y, hy⟩ : ∃ y, y = s k := ⟨_, rfl⟩
     rw [← hx1] at c1
     rw [← hy] at c2
     have w1' : W64 y1 := by rw [hx1]; exact HE.out.2.2 k
     have w2' : W64 y := by rw [hy]; exact HS.out k
     have hsub := run_sub64 y1 y u w1'.1 w2'.1 w2'.2 hu0 hu1
     have HX : Hid (y1 = X k ∧ y = s k ∧ W64 y1 ∧ W64 y) := ⟨hx1, hy, w1', w2'⟩
     clear h1 h3 h4 h6 hx1 hy w1' w2'
     go_wp2_with fail
     go_region_with (fail)
     all_goals go_wp2
     all_goals
      obtain ⟨hx1, hy, ⟨p0, p1⟩, ⟨p2, p3⟩⟩ := HX.out
      have hb := bor_le y1 (y + u)
      have hn := HN.out
      have hm := HM.out
      go_roundw
      case rel =>
       refine ⟨k + 1, _, upd l k ((y1 - y - u) % 18446744073709551616), by go_num, by omega, rfl, hb.1, hb.2, (H1.out.other (by dsimp only; omega) _).drew, (H3.out.other (by dsimp only; omega) _).drew, (H4.out.other (by dsimp only; omega) _).drew, ?_, (HC.out.setCell (by dsimp only; omega) _).drew, upd_w HL.out k ⟨by omega, by omega⟩, ?_⟩
       ·have := H6.out.set k (.int .u64 ((y1 - y - u) % 18446744073709551616))
        rw [arr_set] at this
        exact this
       ·refine val_step' HT.out ?_
        rw [← hx1, ← hy]
        unfold B64 bor
        split <;> omega
      case measure => simp [intOf]; omega
    ·have hk4' : k = 4 := by omega
     subst hk4'
     obtain ⟨x0, x1, x2, x3⟩ := h6.four
     obtain ⟨y0, y1, y2, y3⟩ := h3.four
     obtain ⟨f0, f1, f2, f3⟩ := h3.free4
     have c1 := (h1.cell 4).trans (arr_get .u64 8 X (i := 4) (by decide))
     have c2 := (h4.cell 4).trans (arr_get .u64 9 s (i := 4) (by decide))
     obtain ⟨a, ha⟩ : ∃ a, a = X 4 := ⟨_, rfl⟩
     obtain ⟨b, hb⟩ : ∃ b, b = s 4 := ⟨_, rfl⟩
     rw [← ha] at c1
     rw [← hb] at c2
     obtain ⟨e1, he1⟩ : ∃ e, e = IntKind.u64.wrap (a - b) := ⟨_, rfl⟩
     obtain ⟨e2, he2⟩ : ∃ e, e = IntKind.u64.wrap (e1 - u) := ⟨_, rfl⟩
     have k1 := he1.symm
     have k2 := he2.symm
     have HK : Hid (e2 = (a - b - u) % 18446744073709551616 ∧ a = X 4 ∧ b = s 4) := ⟨by rw [he2, he1, IntKind.wrap_u64, IntKind.wrap_u64]; omega, ha, hb⟩
     clear h1 h3 h4 h6 ha hb he1 he2
     go_wp2_with fail
     go_region_with (fail)
     all_goals go_wp2
     all_goals
      obtain ⟨ke, ka, kb⟩ := HK.out
      have hn := HN.out
      refine bp_ct (n := 4) (c := arr .u64 4 l) (x := .int .u64 e2) Try.results103 rfl rfl rfl ?_ Ytbdgmkejmfjobaa.u25 i25 (arr_size _ _ _) ⟨l, s, u, by rw [← ka, ← kb, ← ke], ?_, HL.out, HS.out, hu0, hu1, HV.out, HT.out⟩
      ·exact ((((H3.out.set 0 _).set 1 _).set 2 _).set 3 _).drew
      ·exact ((((HC.out.setCell (by dsimp only; omega) _).setCell (by dsimp only; omega) _).setCell (by dsimp only; omega) _).setCell (by dsimp only; omega) _).drew
end Go.Proofs.Ytbdgmkejmfjobaa
