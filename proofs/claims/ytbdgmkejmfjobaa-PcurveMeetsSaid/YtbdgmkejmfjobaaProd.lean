/-
  The product of two numbers of four digits, as the program makes it.
-/
import Derived.Test.YtbdgmkejmfjobaaJa
import Derived.Deep.RegionHeld3
namespace Go.Proofs.Ytbdgmkejmfjobaa
open Go.RowKit
set_option linter.unusedVariables false
theorem u55 : Try.prog.underlying 86 = some (.array 8 22) := by kernel_rfl
theorem i55 : (Try.prog.info? 86).map (·.size) = some 8 := by kernel_rfl
theorem Ar.eight {w : World} {b : Nat} {d : Nat → Int} (h : Ar w b (arr .u64 8 d)) : w.cell? ⟨b, 0, none⟩ = some (.int .u64 (d 0)) ∧ w.cell? ⟨b, 1, none⟩ = some (.int .u64 (d 1)) ∧ w.cell? ⟨b, 2, none⟩ = some (.int .u64 (d 2)) ∧ w.cell? ⟨b, 3, none⟩ = some (.int .u64 (d 3)) ∧
  w.cell? ⟨b, 4, none⟩ = some (.int .u64 (d 4)) ∧ w.cell? ⟨b, 5, none⟩ = some (.int .u64 (d 5)) ∧ w.cell? ⟨b, 6, none⟩ = some (.int .u64 (d 6)) ∧ w.cell? ⟨b, 7, none⟩ = some (.int .u64 (d 7)) :=
 ⟨h.cell 0, h.cell 1, h.cell 2, h.cell 3, h.cell 4, h.cell 5, h.cell 6, h.cell 7⟩
theorem Ar.free8 {w : World} {b : Nat} {c : Array Value} (h : Ar w b c) : w.frozen? ⟨b, 0, none⟩ = false ∧ w.frozen? ⟨b, 1, none⟩ = false ∧ w.frozen? ⟨b, 2, none⟩ = false ∧ w.frozen? ⟨b, 3, none⟩ = false ∧
  w.frozen? ⟨b, 4, none⟩ = false ∧ w.frozen? ⟨b, 5, none⟩ = false ∧ w.frozen? ⟨b, 6, none⟩ = false ∧ w.frozen? ⟨b, 7, none⟩ = false :=
 ⟨h.frozen 0, h.frozen 1, h.frozen 2, h.frozen 3, h.frozen 4, h.frozen 5, h.frozen 6, h.frozen 7⟩
set_option maxHeartbeats 2000000 in
theorem product_any (d e : Nat → Int) (w : World) (hd : ∀ i, W64 (d i)) (he : ∀ i, W64 (e i)) :
  Calls Try.prog 81 #[.agg (arr .u64 4 d), .agg (arr .u64 4 e)] w fun r w' => ∃ s, r = .returned (.agg (arr .u64 8 s)) ∧ Chg w w' ∧ (∀ i, W64 (s i)) ∧ val B64 8 s = val B64 4 d * val B64 4 e := by
 obtain ⟨W, hW⟩ : ∃ W, W = (((w.alloc (.cells (arr .u64 4 d) 24)).alloc (.cells (arr .u64 4 e) 24)).alloc (.cells (arr .u64 8 fun _ => 0) 86)).alloc (.cells (arr .u64 8 fun _ => 0) 86) := ⟨_, rfl⟩
 have a1 : Ar W w.heap.size (arr .u64 4 d) := by rw [hW]; exact (((Ar.new _ _ _).alloc _).alloc _).alloc _
 have a2 : Ar W (w.heap.size + 1) (arr .u64 4 e) := by
  have := ((Ar.new (w.alloc (.cells (arr .u64 4 d) 24)) (arr .u64 4 e) 24).alloc (.cells (arr .u64 8 fun _ => 0) 86)).alloc (.cells (arr .u64 8 fun _ => 0) 86)
  rw [World.size_alloc] at this
  rw [hW]; exact this
 have a3 : Ar W (w.heap.size + 1 + 1) (arr .u64 8 fun _ => 0) := by
  have := (Ar.new ((w.alloc (.cells (arr .u64 4 d) 24)).alloc (.cells (arr .u64 4 e) 24)) (arr .u64 8 fun _ => 0) 86).alloc (.cells (arr .u64 8 fun _ => 0) 86)
  rw [World.size_alloc, World.size_alloc] at this
  rw [hW]; exact this
 have a4 : Ar W (w.heap.size + 1 + 1 + 1) (arr .u64 8 fun _ => 0) := by
  have := Ar.new (((w.alloc (.cells (arr .u64 4 d) 24)).alloc (.cells (arr .u64 4 e) 24)).alloc (.cells (arr .u64 8 fun _ => 0) 86)) (arr .u64 8 fun _ => 0) 86
  rw [World.size_alloc, World.size_alloc, World.size_alloc] at this
  rw [hW]; exact this
 have hc : Chg w W := by rw [hW]; exact ((((Chg.refl w).alloc _).alloc _).alloc _).alloc _
 have hW' : W = (((w.alloc (.cells (arr .u64 4 d) 24)).alloc (.cells (arr .u64 4 e) 24)).alloc (.cells #[.int .u64 0, .int .u64 0, .int .u64 0, .int .u64 0, .int .u64 0, .int .u64 0, .int .u64 0, .int .u64 0] 86)).alloc (.cells #[.int .u64 0, .int .u64 0, .int .u64 0, .int .u64 0, .int .u64 0, .int .u64 0, .int .u64 0, .int .u64 0] 86) := hW
 have HW : Hid (W = (((w.alloc (.cells (arr .u64 4 d) 24)).alloc (.cells (arr .u64 4 e) 24)).alloc (.cells #[.int .u64 0, .int .u64 0, .int .u64 0, .int .u64 0, .int .u64 0, .int .u64 0, .int .u64 0, .int .u64 0] 86)).alloc (.cells #[.int .u64 0, .int .u64 0, .int .u64 0, .int .u64 0, .int .u64 0, .int .u64 0, .int .u64 0, .int .u64 0] 86)) := hW'
 clear hW hW'
 go_enter Try.func81, Try.ntmps81
 go_wp2_with fail
 rw [← HW.out]
 clear HW
 go_loopw [9] (fun v wr => ∃ (i : Nat) (s : Nat → Int), v = .int .i64 i ∧ i ≤ 4 ∧ Ar wr w.heap.size (arr .u64 4 d) ∧ Ar wr (w.heap.size + 1) (arr .u64 4 e) ∧ Ar wr (w.heap.size + 1 + 1) (arr .u64 8 fun _ => 0) ∧ Ar wr (w.heap.size + 1 + 1 + 1) (arr .u64 8 s) ∧ Chg w wr ∧ (∀ j, W64 (s j)) ∧ (∀ j, i + 4 ≤ j → s j = 0) ∧ val B64 8 s = val B64 i d * val B64 4 e) (fun v wr => 4 - (intOf v).toNat)
 case atStart => exact ⟨0, fun _ => 0, rfl, by omega, a1, a2, a3, a4, hc, fun _ => ⟨by simp, by simp⟩, fun _ _ => rfl, by simp [val]⟩
 case round =>
  clear a1 a2 a3 a4 hc
  obtain ⟨i, s, rfl, hi, h1, h2, h3, h4, hc, hs, hz, hv⟩ := hrel
  obtain ⟨w1, hw1⟩ : ∃ w1, w1 = wr := ⟨_, rfl⟩
  subst hw1
  have HV : Hid (val B64 8 s = val B64 i d * val B64 4 e) := hv
  clear hv
  by_cases hi4 : i < 4
  ·have hdi : decide ((i : Int) < 4) = true := by simp; omega
   go_wp2_with fail
   go_loopw [7, 12] (fun ov v wr => ∃ (j : Nat) (o : Int) (t : Nat → Int), v = .int .i64 j ∧ j ≤ 4 ∧ ov = .int .u64 o ∧ W64 o ∧ Ar wr w.heap.size (arr .u64 4 d) ∧ Ar wr (w.heap.size + 1) (arr .u64 4 e) ∧ Ar wr (w.heap.size + 1 + 1) (arr .u64 8 fun _ => 0) ∧ Ar wr (w.heap.size + 1 + 1 + 1) (arr .u64 8 t) ∧ Chg w wr ∧ (∀ j, W64 (t j)) ∧ (∀ j, i + 4 ≤ j → t j = 0) ∧ val B64 8 t + o * B64 ^ (i + j) = val B64 8 s + d i * val B64 j e * B64 ^ i) (fun ov v wr => 4 - (intOf v).toNat)
   case atStart => exact ⟨0, 0, s, rfl, by omega, rfl, ⟨by decide, by decide⟩, h1, h2, h3, h4, hc, hs, hz, by simp [val]⟩
   case round =>
    clear h1 h2 h3 h4 hc hs hz
    obtain ⟨j, o, t, rfl, hj, rfl, ho, h1, h2, h3, h4, hc, ht, hz, hv⟩ := hrel
    have HC : Hid (Chg w wr) := hc
    have HZ : Hid ((∀ j, W64 (t j)) ∧ (∀ j, i + 4 ≤ j → t j = 0)) := ⟨ht, hz⟩
    have HT : Hid (val B64 8 t + o * B64 ^ (i + j) = val B64 8 s + d i * val B64 j e * B64 ^ i) := hv
    have H1 : Hid (Ar wr w.heap.size (arr .u64 4 d)) := h1
    have H2 : Hid (Ar wr (w.heap.size + 1) (arr .u64 4 e)) := h2
    have H3 : Hid (Ar wr (w.heap.size + 1 + 1) (arr .u64 8 fun _ => 0)) := h3
    have H4 : Hid (Ar wr (w.heap.size + 1 + 1 + 1) (arr .u64 8 t)) := h4
    clear hc ht hz hv
    by_cases hj4 : j < 4
    ·obtain ⟨q, hq⟩ : ∃ q : Nat, (i : Int) + j = q := ⟨i + j, by omega⟩
     have hq8 : q < 8 := by omega
     have hq8' : (q : Int) < 8 := by omega
     have hq0 : (0 : Int) ≤ q := by omega
     have hqw : IntKind.i64.wrap (q : Int) = q := by rw [IntKind.wrap_i64]; omega
     have c1 := (h1.cell i).trans (arr_get .u64 4 d hi4)
     have c2 := (h2.cell j).trans (arr_get .u64 4 e hj4)
     have c4 := (h4.cell q).trans (arr_get .u64 8 t hq8)
     have f4 := h4.frozen q
     obtain ⟨x, hx⟩ : ∃ x, x = d i := ⟨_, rfl⟩
     obtain ⟨y, hy⟩ : ∃ x, x = e j := ⟨_, rfl⟩
     obtain ⟨z, hz⟩ : ∃ x, x = t q := ⟨_, rfl⟩
     rw [← hx] at c1
     rw [← hy] at c2
     rw [← hz] at c4
     have HO : Hid (W64 o ∧ W64 x ∧ W64 y ∧ W64 z) := ⟨ho, by rw [hx]; exact hd i, by rw [hy]; exact he j, by rw [hz]; exact HZ.out.1 q⟩
     have HX : Hid (x = d i ∧ y = e j ∧ z = t q) := ⟨hx, hy, hz⟩
     clear h1 h2 h3 h4 hx hy hz ho
     go_wp2_with fail
     go_region_with (first | (go_at_call 94; refine (step_any x y z o HO.out.2.1 HO.out.2.2.1 HO.out.2.2.2 HO.out.1 _).mono ?_; rintro r w' ⟨lo, hi, rfl, rfl, hlo, hhi, hst⟩))
     all_goals go_wp2
     all_goals
      obtain ⟨hx, hy, hz⟩ := HX.out
      obtain ⟨ht, ht0⟩ := HZ.out
      have hqn : q = i + j := by omega
      go_roundw
      case rel =>
       refine ⟨j + 1, _, upd t q lo, by go_num, by omega, rfl, hhi, (H1.out.other (by dsimp only; omega) _).drew, (H2.out.other (by dsimp only; omega) _).drew, (H3.out.other (by dsimp only; omega) _).drew, ?_, (HC.out.setCell (by dsimp only; omega) _).drew, upd_w ht q hlo, fun m hm => ?_, ?_⟩
       ·have := H4.out.set q (.int .u64 lo)
        rw [arr_set] at this
        exact this
       ·rw [upd_ne t _ (by omega)]; exact ht0 m hm
       ·rw [hqn]
        refine val_stepp (by omega) HT.out ?_
        rw [← hqn, ← hx, ← hy, ← hz]
        exact hst
      case measure => simp [intOf]; omega
    ·have hj4' : j = 4 := by omega
     subst hj4'
     obtain ⟨q, hq⟩ : ∃ q : Nat, (i : Int) + 4 = q := ⟨i + 4, by omega⟩
     have hq8 : q < 8 := by omega
     have hq8' : (q : Int) < 8 := by omega
     have hq0 : (0 : Int) ≤ q := by omega
     have hqw : IntKind.i64.wrap (q : Int) = q := by rw [IntKind.wrap_i64]; omega
     have f4 := h4.frozen q
     have c4 := (h4.cell q).trans (arr_get .u64 8 t hq8)
     have HO : Hid (W64 o) := ho
     clear h1 h2 h3 h4 ho
     go_wp2_with fail
     all_goals
      obtain ⟨ht, ht0⟩ := HZ.out
      have hqn : q = i + 4 := by omega
      go_roundw
      case rel =>
       refine ⟨i + 1, upd t q o, by go_num, by omega, H1.out.other (by dsimp only; omega) _, H2.out.other (by dsimp only; omega) _, H3.out.other (by dsimp only; omega) _, ?_, HC.out.setCell (by dsimp only; omega) _, upd_w ht q HO.out, fun m hm => ?_, ?_⟩
       ·have := H4.out.set q (.int .u64 o)
        rw [arr_set] at this
        exact this
       ·rw [upd_ne t _ (by omega)]; exact ht0 m (by omega)
       ·rw [hqn]
        refine val_laid (by omega) (HT.out.trans ?_) (ht0 _ (Nat.le_refl _))
        rw [HV.out, val1 _ i]
        grind
      case measure => simp [intOf]; omega
  ·have hi4' : i = 4 := by omega
   subst hi4'
   have HC : Hid (Chg w w1) := hc
   have HS : Hid (∀ j, W64 (s j)) := hs
   have H3 : Hid (Ar w1 (w.heap.size + 1 + 1) (arr .u64 8 fun _ => 0)) := h3
   obtain ⟨a0, a1, a2, a3, a4, a5, a6, a7⟩ := h4.eight
   obtain ⟨b0, b1, b2, b3, b4, b5, b6, b7⟩ := h3.eight
   obtain ⟨f0, f1, f2, f3, f4, f5, f6, f7⟩ := h3.free8
   clear h1 h2 h3 h4 hc hs hz
   go_wp2
   refine bp_c (n := 8) (c := arr .u64 8 s) Try.results81 rfl rfl ?_ u55 i55 (arr_size _ _ _) ⟨s, rfl, ?_, HS.out, HV.out⟩
   ·exact (((((((H3.out.set 0 _).set 1 _).set 2 _).set 3 _).set 4 _).set 5 _).set 6 _).set 7 _
   ·exact (((((((HC.out.setCell (by dsimp only; omega) _).setCell (by dsimp only; omega) _).setCell (by dsimp only; omega) _).setCell (by dsimp only; omega) _).setCell (by dsimp only; omega) _).setCell (by dsimp only; omega) _).setCell (by dsimp only; omega) _).setCell (by dsimp only; omega) _
end Go.Proofs.Ytbdgmkejmfjobaa
