/-
  The quotient by an order, a little too small: as the program makes it.
-/
import Derived.Test.YtbdgmkejmfjobaaRed1
namespace Go.Proofs.Ytbdgmkejmfjobaa
set_option maxRecDepth 100000
open Go.RowKit
set_option linter.unusedVariables false
def rat (f : Int) : Int := R512 / mo f
def fiv (x : Int) : Array Value := arr .u64 5 (dg B64 x)
theorem fiv_3 : fiv (rat 3) = #[.int .u64 0x012ffd85eedf9bfe, .int .u64 0x43190552df1a6c21, .int .u64 0xfffffffeffffffff, .int .u64 0x00000000ffffffff, .int .u64 1] := by kernel_rfl
theorem fiv_4 : fiv (rat 4) = #[.int .u64 0xed9ce5a30a2c131b, .int .u64 0x2106215d086329a7, .int .u64 0xffffffffffffffeb, .int .u64 0xffffffffffffffff, .int .u64 0x0f] := by kernel_rfl
theorem u86 : Try.prog.underlying 105 = some (.array 5 22) := by kernel_rfl
theorem i86 : (Try.prog.info? 105).map (·.size) = some 5 := by kernel_rfl
theorem ratio3_any (w : World) : Calls Try.prog 124 #[.agg #[]] w fun r w' => r = .returned (.agg (fiv (rat 3))) ∧ Chg w w' := by
 rw [fiv_3]
 go_enter Try.func124, Try.ntmps124
 go_wp2
 refine bp_c (n := 5) Try.results124 rfl rfl ?_ u86 i86 rfl ⟨rfl, ((Chg.refl w).alloc _).alloc _⟩
 exact Ar.new1 _ _ _ _
theorem ratio4_any (w : World) : Calls Try.prog 125 #[.agg #[]] w fun r w' => r = .returned (.agg (fiv (rat 4))) ∧ Chg w w' := by
 rw [fiv_4]
 go_enter Try.func125, Try.ntmps125
 go_wp2
 refine bp_c (n := 5) Try.results125 rfl rfl ?_ u86 i86 rfl ⟨rfl, ((Chg.refl w).alloc _).alloc _⟩
 exact Ar.new1 _ _ _ _
theorem fiv5 (x : Int) : fiv x = #[.int .u64 (dg B64 x 0), .int .u64 (dg B64 x 1), .int .u64 (dg B64 x 2), .int .u64 (dg B64 x 3), .int .u64 (dg B64 x 4)] := rfl
theorem Ar.five {w : World} {b : Nat} {d : Nat → Int} (h : Ar w b (arr .u64 5 d)) : w.cell? ⟨b, 0, none⟩ = some (.int .u64 (d 0)) ∧ w.cell? ⟨b, 1, none⟩ = some (.int .u64 (d 1)) ∧ w.cell? ⟨b, 2, none⟩ = some (.int .u64 (d 2)) ∧ w.cell? ⟨b, 3, none⟩ = some (.int .u64 (d 3)) ∧ w.cell? ⟨b, 4, none⟩ = some (.int .u64 (d 4)) :=
 ⟨h.cell 0, h.cell 1, h.cell 2, h.cell 3, h.cell 4⟩
theorem Ar.free5 {w : World} {b : Nat} {c : Array Value} (h : Ar w b c) : w.frozen? ⟨b, 0, none⟩ = false ∧ w.frozen? ⟨b, 1, none⟩ = false ∧ w.frozen? ⟨b, 2, none⟩ = false ∧ w.frozen? ⟨b, 3, none⟩ = false ∧ w.frozen? ⟨b, 4, none⟩ = false :=
 ⟨h.frozen 0, h.frozen 1, h.frozen 2, h.frozen 3, h.frozen 4⟩
theorem dg_shift {B : Int} (hB : 0 < B) (x : Int) (m i : Nat) : dg B x (m + i) = dg B (x / B ^ m) i := by
 unfold dg
 rw [Int.ediv_ediv_of_nonneg (Int.le_of_lt (pow_pos' hB m)), Int.pow_add]
set_option maxHeartbeats 4000000 in
theorem quot3_any (x : Int) (hx : N512 x) (w : World) :
  Calls Try.prog 104 #[.agg #[], .agg (wid x)] w fun r w' => ∃ t : Nat → Int, r = .returned (.agg (arr .u64 5 fun i => t (5 + i))) ∧ Chg w w' ∧ (∀ i, W64 (t i)) ∧ val B64 10 t = val B64 5 (dg B64 (x / B64 ^ 3)) * val B64 5 (dg B64 (rat 3)) := by
 obtain ⟨D, hD⟩ : ∃ D, D = dg B64 (x / B64 ^ 3) := ⟨_, rfl⟩
 obtain ⟨E, hE⟩ : ∃ E, E = dg B64 (rat 3) := ⟨_, rfl⟩
 have HE : Hid ((∀ i, W64 (D i)) ∧ (∀ i, W64 (E i)) ∧ ∀ i, dg B64 x (3 + i) = D i) := by
  refine ⟨?_, ?_, ?_⟩
  ·rw [hD]; exact dg_w _
  ·rw [hE]; exact dg_w _
  ·intro i; rw [hD, dg_shift B64_pos]
 rw [← hD, ← hE]
 have HQ : Hid (E = dg B64 (rat 3)) := hE
 clear hD hE
 obtain ⟨W, hW⟩ : ∃ W, W = (((w.alloc (.cells #[] 95)).alloc (.cells (wid x) 86)).alloc (.cells #[.int .u64 0, .int .u64 0, .int .u64 0, .int .u64 0, .int .u64 0] 105)).alloc (.cells #[] 83) := ⟨_, rfl⟩
 have a1 : Ar W (w.heap.size + 1) (arr .u64 8 (dg B64 x)) := by rw [hW]; exact ((Ar.new1 _ _ _ _).alloc _).alloc _
 have a2 : Ar W (w.heap.size + 1 + 1) (arr .u64 5 fun _ => 0) := by rw [hW]; exact (Ar.new2 _ _ _ _ _).alloc _
 have hc : Chg w W := by rw [hW]; exact ((((Chg.refl w).alloc _).alloc _).alloc _).alloc _
 have HW : Hid (W = (((w.alloc (.cells #[] 95)).alloc (.cells (wid x) 86)).alloc (.cells #[.int .u64 0, .int .u64 0, .int .u64 0, .int .u64 0, .int .u64 0] 105)).alloc (.cells #[] 83)) := hW
 have A1 : Hid (Ar W (w.heap.size + 1) (arr .u64 8 (dg B64 x))) := a1
 have A2 : Hid (Ar W (w.heap.size + 1 + 1) (arr .u64 5 fun _ => 0)) := a2
 have HC : Hid (Chg w W) := hc
 clear hW a1 a2 hc
 go_enter Try.func104, Try.ntmps104
 go_wp2_with fail
 rw [← HW.out]
 clear HW
 refine (ratio3_any _).mono ?_
 rintro r w1 ⟨hr, hc1⟩
 rw [fiv5, ← HQ.out] at hr
 subst hr
 have B1 : Hid (Ar w1 (w.heap.size + 1) (arr .u64 8 (dg B64 x))) := A1.out.chg hc1
 have B2 : Hid (Ar w1 (w.heap.size + 1 + 1) (arr .u64 5 fun _ => 0)) := A2.out.chg hc1
 have HC1 : Hid (Chg w w1) := HC.out.trans hc1
 have HN : Hid (w.heap.size + 1 + 1 < w1.heap.size) := B2.out.lt
 clear A1 A2 HC hc1
 go_wp2_with fail
 have cE : Hid (Ar ((w1.alloc (.cells #[.int .u64 (E 0), .int .u64 (E 1), .int .u64 (E 2), .int .u64 (E 3), .int .u64 (E 4)] 105)).alloc (.cells #[.int .u64 0, .int .u64 0, .int .u64 0, .int .u64 0, .int .u64 0, .int .u64 0, .int .u64 0, .int .u64 0, .int .u64 0, .int .u64 0] 112)) w1.heap.size (arr .u64 5 E)) := (Ar.new _ _ _).alloc _
 have cT : Hid (Ar ((w1.alloc (.cells #[.int .u64 (E 0), .int .u64 (E 1), .int .u64 (E 2), .int .u64 (E 3), .int .u64 (E 4)] 105)).alloc (.cells #[.int .u64 0, .int .u64 0, .int .u64 0, .int .u64 0, .int .u64 0, .int .u64 0, .int .u64 0, .int .u64 0, .int .u64 0, .int .u64 0] 112)) (w1.heap.size + 1) (arr .u64 10 fun _ => 0)) := Ar.new1 _ _ _ _
 go_loopw [15] (fun v wr => ∃ (i : Nat) (s : Nat → Int), v = .int .i64 i ∧ i ≤ 5 ∧ Ar wr (w.heap.size + 1) (arr .u64 8 (dg B64 x)) ∧ Ar wr w1.heap.size (arr .u64 5 E) ∧ Ar wr (w.heap.size + 1 + 1) (arr .u64 5 fun _ => 0) ∧ Ar wr (w1.heap.size + 1) (arr .u64 10 s) ∧ Chg w wr ∧ (∀ j, W64 (s j)) ∧ (∀ j, i + 5 ≤ j → s j = 0) ∧ val B64 10 s = val B64 i D * val B64 5 E) (fun v wr => 5 - (intOf v).toNat)
 case atStart => exact ⟨0, fun _ => 0, rfl, by omega, (B1.out.alloc _).alloc _, cE.out, (B2.out.alloc _).alloc _, cT.out, (HC1.out.alloc _).alloc _, fun _ => ⟨by simp, by simp⟩, fun _ _ => rfl, by simp [val]⟩
 case round =>
  clear B1 B2 HC1 cE cT
  obtain ⟨i, s, rfl, hi, h1, h2, h3, h4, hc, hs, hz, hv⟩ := hrel
  obtain ⟨w2, hw2⟩ : ∃ w2, w2 = wr := ⟨_, rfl⟩
  subst hw2
  have HV : Hid (val B64 10 s = val B64 i D * val B64 5 E) := hv
  clear hv
  by_cases hi4 : i < 5
  ·have hdi : decide ((i : Int) < 5) = true := by simp; omega
   go_wp2_with fail
   go_loopw [9, 18] (fun ov v wr => ∃ (j : Nat) (o : Int) (t : Nat → Int), v = .int .i64 j ∧ j ≤ 5 ∧ ov = .int .u64 o ∧ W64 o ∧ Ar wr (w.heap.size + 1) (arr .u64 8 (dg B64 x)) ∧ Ar wr w1.heap.size (arr .u64 5 E) ∧ Ar wr (w.heap.size + 1 + 1) (arr .u64 5 fun _ => 0) ∧ Ar wr (w1.heap.size + 1) (arr .u64 10 t) ∧ Chg w wr ∧ (∀ j, W64 (t j)) ∧ (∀ j, i + 5 ≤ j → t j = 0) ∧ val B64 10 t + o * B64 ^ (i + j) = val B64 10 s + D i * val B64 j E * B64 ^ i) (fun ov v wr => 5 - (intOf v).toNat)
   case atStart => exact ⟨0, 0, s, rfl, by omega, rfl, ⟨by decide, by decide⟩, h1, h2, h3, h4, hc, hs, hz, by simp [val]⟩
   case round =>
    clear h1 h2 h3 h4 hc hs hz
    obtain ⟨j, o, t, rfl, hj, rfl, ho, h1, h2, h3, h4, hc, ht, hz, hv⟩ := hrel
    have HC : Hid (Chg w wr) := hc
    have HZ : Hid ((∀ j, W64 (t j)) ∧ (∀ j, i + 5 ≤ j → t j = 0)) := ⟨ht, hz⟩
    have HT : Hid (val B64 10 t + o * B64 ^ (i + j) = val B64 10 s + D i * val B64 j E * B64 ^ i) := hv
    have H1 : Hid (Ar wr (w.heap.size + 1) (arr .u64 8 (dg B64 x))) := h1
    have H2 : Hid (Ar wr w1.heap.size (arr .u64 5 E)) := h2
    have H3 : Hid (Ar wr (w.heap.size + 1 + 1) (arr .u64 5 fun _ => 0)) := h3
    have H4 : Hid (Ar wr (w1.heap.size + 1) (arr .u64 10 t)) := h4
    clear hc ht hz hv
    by_cases hj4 : j < 5
    ·obtain ⟨q, hq⟩ : ∃ q : Nat, (i : Int) + j = q := ⟨i + j, by omega⟩
     obtain ⟨p, hp⟩ : ∃ p : Nat, (3 : Int) + i = p := ⟨3 + i, by omega⟩
     have hq8 : q < 10 := by omega
     have hp8 : p < 8 := by omega
     have hq8' : (q : Int) < 10 := by omega
     have hq0 : (0 : Int) ≤ q := by omega
     have hqw : IntKind.i64.wrap (q : Int) = q := by rw [IntKind.wrap_i64]; omega
     have hp8' : (p : Int) < 8 := by omega
     have hp0 : (0 : Int) ≤ p := by omega
     have hpw : IntKind.i64.wrap (p : Int) = p := by rw [IntKind.wrap_i64]; omega
     have c1 := (h1.cell p).trans (arr_get .u64 8 (dg B64 x) hp8)
     have c2 := (h2.cell j).trans (arr_get .u64 5 E hj4)
     have c4 := (h4.cell q).trans (arr_get .u64 10 t hq8)
     have f4 := h4.frozen q
     obtain ⟨y1, hx1⟩ : ∃ y, y = dg B64 x p := ⟨_, rfl⟩
     obtain ⟨y, hy⟩ : ∃ y, y = E j := ⟨_, rfl⟩
     obtain ⟨z, hz⟩ : ∃ y, y = t q := ⟨_, rfl⟩
     rw [← hx1] at c1
     rw [← hy] at c2
     rw [← hz] at c4
     have HO : Hid (W64 o ∧ W64 y1 ∧ W64 y ∧ W64 z) := ⟨ho, by rw [hx1]; exact dg_w x p, by rw [hy]; exact HE.out.2.1 j, by rw [hz]; exact HZ.out.1 q⟩
     have HX : Hid (y1 = D i ∧ y = E j ∧ z = t q) := ⟨by rw [hx1, ← HE.out.2.2 i]; congr 1; omega, hy, hz⟩
     clear h1 h2 h3 h4 hx1 hy hz ho
     go_wp2_with fail
     go_region_with (first | (go_at_call 94; refine (step_any y1 y z o HO.out.2.1 HO.out.2.2.1 HO.out.2.2.2 HO.out.1 _).mono ?_; rintro r w' ⟨lo, hi, rfl, rfl, hlo, hhi, hst⟩))
     all_goals go_wp2
     all_goals
      obtain ⟨hx1, hy, hz⟩ := HX.out
      obtain ⟨ht, ht0⟩ := HZ.out
      have hqn : q = i + j := by omega
      have hn := HN.out
      go_roundw
      case rel =>
       refine ⟨j + 1, _, upd t q lo, by go_num, by omega, rfl, hhi, (H1.out.other (by dsimp only; omega) _).drew, (H2.out.other (by dsimp only; omega) _).drew, (H3.out.other (by dsimp only; omega) _).drew, ?_, (HC.out.setCell (by dsimp only; omega) _).drew, upd_w ht q hlo, fun m hm => ?_, ?_⟩
       ·have := H4.out.set q (.int .u64 lo)
        rw [arr_set] at this
        exact this
       ·rw [upd_ne t _ (by omega)]; exact ht0 m hm
       ·rw [hqn]
        refine val_stepp (by omega) HT.out ?_
        rw [← hqn, ← hx1, ← hy, ← hz]
        exact hst
      case measure => simp [intOf]; omega
    ·have hj4' : j = 5 := by omega
     subst hj4'
     obtain ⟨q, hq⟩ : ∃ q : Nat, (i : Int) + 5 = q := ⟨i + 5, by omega⟩
     have hq8 : q < 10 := by omega
     have hq8' : (q : Int) < 10 := by omega
     have hq0 : (0 : Int) ≤ q := by omega
     have hqw : IntKind.i64.wrap (q : Int) = q := by rw [IntKind.wrap_i64]; omega
     have f4 := h4.frozen q
     have c4 := (h4.cell q).trans (arr_get .u64 10 t hq8)
     have HO : Hid (W64 o) := ho
     clear h1 h2 h3 h4 ho
     go_wp2_with fail
     all_goals
      obtain ⟨ht, ht0⟩ := HZ.out
      have hqn : q = i + 5 := by omega
      have hn := HN.out
      go_roundw
      case rel =>
       refine ⟨i + 1, upd t q o, by go_num, by omega, H1.out.other (by dsimp only; omega) _, H2.out.other (by dsimp only; omega) _, H3.out.other (by dsimp only; omega) _, ?_, HC.out.setCell (by dsimp only; omega) _, upd_w ht q HO.out, fun m hm => ?_, ?_⟩
       ·have := H4.out.set q (.int .u64 o)
        rw [arr_set] at this
        exact this
       ·rw [upd_ne t _ (by omega)]; exact ht0 m (by omega)
       ·rw [hqn]
        refine val_laid (by omega) (HT.out.trans ?_) (ht0 _ (Nat.le_refl _))
        rw [HV.out, val1 _ i]
        grind
      case measure => simp [intOf]; omega
  ·have hi4' : i = 5 := by omega
   subst hi4'
   have HS : Hid (∀ j, W64 (s j)) := hs
   have k1 := run_cp (w2.alloc (.cells #[.int .u64 0, .int .u64 0, .int .u64 0, .int .u64 0, .int .u64 0] 105)).drew w2.heap.size 0 5 5 (w1.heap.size + 1) 5 5 5 5 (arr .u64 5 fun _ => 0) (arr .u64 10 s) (Ar.new w2 _ 105).drew (h4.alloc _).drew rfl (by simp [arr_size]) (by simp [arr_size]) (arr_one _ _ _) (arr .u64 5 fun i => s (5 + i)) rfl
   obtain ⟨W3, hW3⟩ : ∃ W3, W3 = (w2.alloc (.cells #[.int .u64 0, .int .u64 0, .int .u64 0, .int .u64 0, .int .u64 0] 105)).drew.setRow w2.heap.size (arr .u64 5 fun i => s (5 + i)) := ⟨_, rfl⟩
   have hn := h3.lt
   have c3 : Ar W3 (w.heap.size + 1 + 1) (arr .u64 5 fun _ => 0) := by rw [hW3]; exact ((h3.alloc _).drew).rowOther (by omega) _
   have c4 : Ar W3 w2.heap.size (arr .u64 5 fun i => s (5 + i)) := by rw [hW3]; exact ((Ar.new w2 (arr .u64 5 fun _ => 0) 105).drew).row _
   have hc3 : Chg w W3 := by rw [hW3]; exact (hc.alloc _).drew.setRow hc.size _
   rw [← hW3] at k1
   obtain ⟨x0, x1, x2, x3, x4⟩ := c4.five
   obtain ⟨y0, y1, y2, y3, y4⟩ := c3.five
   obtain ⟨f0, f1, f2, f3, f4⟩ := c3.free5
   have C3 : Hid (Ar W3 (w.heap.size + 1 + 1) (arr .u64 5 fun _ => 0)) := c3
   have HC : Hid (Chg w W3) := hc3
   clear h1 h2 h3 h4 hc hs hz c3 c4 hc3 hW3 hn
   go_wp2_with fail
   go_region_with (fail)
   all_goals go_wp2
   all_goals
    refine bp_c (n := 5) (c := arr .u64 5 fun i => s (5 + i)) Try.results104 rfl rfl ?_ u86 i86 (arr_size _ _ _) ⟨s, rfl, ?_, HS.out, HV.out⟩
    ·exact ((((C3.out.set 0 _).set 1 _).set 2 _).set 3 _).set 4 _
    ·exact ((((HC.out.setCell (by dsimp only; omega) _).setCell (by dsimp only; omega) _).setCell (by dsimp only; omega) _).setCell (by dsimp only; omega) _).setCell (by dsimp only; omega) _
end Go.Proofs.Ytbdgmkejmfjobaa
