/-
  Sums and differences of numbers of four digits, as the program makes them.
  Which of two numbers is less, as the program tells it.
  A product of two digits with two digits beside it: two digits hold it.
  A number and 38 times another, as the program makes it.
-/
import Derived.Test.YtbdgmkejmfjobaaJv
import Derived.Shelf.Bits.Mul64
namespace Go.Proofs.Ytbdgmkejmfjobaa
open Go.RowKit
set_option linter.unusedVariables false
set_option maxHeartbeats 400000 in
theorem plus_any (d e : Nat → Int) (w : World) (hd : ∀ i, W64 (d i)) (he : ∀ i, W64 (e i)) :
  Calls Try.prog 85 #[.agg (arr .u64 4 d), .agg (arr .u64 4 e)] w fun r w' => ∃ s o, r = .returned (.tuple #[.agg (arr .u64 4 s), .int .u64 o]) ∧ Chg w w' ∧ (∀ i, W64 (s i)) ∧ 0 ≤ o ∧ o ≤ 1 ∧ val B64 4 s + o * B64 ^ 4 = val B64 4 d + val B64 4 e := by
 go_enter Try.func85, Try.ntmps85
 go_wp2_with fail
 go_loopw [6, 8] (fun ov i wr => ∃ (k : Nat) (o : Int) (s : Nat → Int), i = .int .i64 k ∧ k ≤ 4 ∧ ov = .int .u64 o ∧ 0 ≤ o ∧ o ≤ 1 ∧ Ar wr w.heap.size (arr .u64 4 s) ∧ Ar wr (w.heap.size + 1) (arr .u64 4 e) ∧ Ar wr (w.heap.size + 1 + 1) (arr .u64 4 fun _ => 0) ∧ Chg w wr ∧ (∀ j, W64 (s j)) ∧ (∀ j, k ≤ j → s j = d j) ∧ val B64 k s + o * B64 ^ k = val B64 k d + val B64 k e) (fun ov i wr => 4 - (intOf i).toNat)
 case atStart =>
  refine ⟨0, 0, d, rfl, by omega, rfl, by omega, by omega, ((Ar.new _ _ _).alloc _).alloc _, ?_, ?_, (((Chg.refl w).alloc _).alloc _).alloc _, hd, fun _ _ => rfl, by simp [val]⟩
  ·have := ((Ar.new (w.alloc (.cells (arr .u64 4 d) 24)) (arr .u64 4 e) 24)).alloc (.cells (arr .u64 4 fun _ => 0) 24)
   rw [World.size_alloc] at this; exact this
  ·have := ((Ar.new ((w.alloc (.cells (arr .u64 4 d) 24)).alloc (.cells (arr .u64 4 e) 24)) (arr .u64 4 fun _ => 0) 24))
   rw [World.size_alloc, World.size_alloc] at this; exact this
 case round =>
  obtain ⟨k, o, s, rfl, hk, rfl, ho0, ho1, h1, h2, h3, hc, hs, hsd, hv⟩ := hrel
  have HS : Hid (∀ j, W64 (s j)) := hs
  have HV : Hid ((∀ j, k ≤ j → s j = d j) ∧ val B64 k s + o * B64 ^ k = val B64 k d + val B64 k e) := ⟨hsd, hv⟩
  have H1 : Hid (Ar wr w.heap.size (arr .u64 4 s)) := h1
  have H2 : Hid (Ar wr (w.heap.size + 1) (arr .u64 4 e)) := h2
  have H3 : Hid (Ar wr (w.heap.size + 1 + 1) (arr .u64 4 fun _ => 0)) := h3
  have HC : Hid (Chg w wr) := hc
  clear hs hsd hv hc
  by_cases hk4 : k < 4
  ·have c1 := (h1.cell k).trans (arr_get .u64 4 s hk4)
   have c2 := (h2.cell k).trans (arr_get .u64 4 e hk4)
   have f1 := h1.frozen k
   obtain ⟨x, hx⟩ : ∃ x, x = s k := ⟨_, rfl⟩
   obtain ⟨y, hy⟩ : ∃ x, x = e k := ⟨_, rfl⟩
   rw [← hx] at c1
   rw [← hy] at c2
   have hadd := run_add64 x y o (by rw [hx]; exact (HS.out k).1) (by rw [hy]; exact (he k).1) ho0 ho1
   have HX : Hid (x = s k ∧ y = e k) := ⟨hx, hy⟩
   clear h1 h2 h3 hx hy
   go_wp2_with fail
   go_region_with (fail)
   all_goals go_wp2
   all_goals
    obtain ⟨hx, hy⟩ := HX.out
    obtain ⟨hsd, hv⟩ := HV.out
    have hxw := HS.out k
    have hyw := he k
    rw [← hx] at hxw
    rw [← hy] at hyw
    unfold W64 at hxw hyw
    go_roundw
    case rel =>
     refine ⟨k + 1, _, upd s k ((x + y + o) % 18446744073709551616), by go_num, by omega, rfl, by omega, by omega, ?_, (H2.out.other (by dsimp only; omega) _).drew, (H3.out.other (by dsimp only; omega) _).drew, (HC.out.setCell (by dsimp only; omega) _).drew, upd_w HS.out k ⟨by omega, by omega⟩, fun j hj => ?_, ?_⟩
     ·have := H1.out.set k (.int .u64 ((x + y + o) % 18446744073709551616))
      rw [arr_set] at this
      exact this
     ·rw [upd_ne s _ (by omega)]; exact hsd j (by omega)
     ·refine val_step hv ?_
      rw [← hsd k (Nat.le_refl _), ← hx, ← hy]
      unfold B64
      omega
    case measure => simp [intOf]; omega
  ·obtain ⟨a0, a1, a2, a3⟩ := h1.four
   obtain ⟨b0, b1, b2, b3⟩ := h3.four
   obtain ⟨f0, f1, f2, f3⟩ := h3.free4
   clear h1 h2 h3
   have hk4 : k = 4 := by omega
   subst hk4
   go_wp2
   refine bp_ct (n := 4) Try.results85 rfl rfl rfl (H3.out.put4 _ _ _ _ s rfl rfl rfl rfl) u25 i25 (arr_size _ _ _) ⟨s, o, rfl, ?_, HS.out, ho0, ho1, HV.out.2⟩
   exact (((HC.out.setCell (by dsimp only; omega) _).setCell (by dsimp only; omega) _).setCell (by dsimp only; omega) _).setCell (by dsimp only; omega) _
set_option maxHeartbeats 400000 in
theorem minus_any (d e : Nat → Int) (w : World) (hd : ∀ i, W64 (d i)) (he : ∀ i, W64 (e i)) :
  Calls Try.prog 72 #[.agg (arr .u64 4 d), .agg (arr .u64 4 e)] w fun r w' => ∃ s o, r = .returned (.tuple #[.agg (arr .u64 4 s), .int .u64 o]) ∧ Chg w w' ∧ (∀ i, W64 (s i)) ∧ 0 ≤ o ∧ o ≤ 1 ∧ val B64 4 s - o * B64 ^ 4 = val B64 4 d - val B64 4 e := by
 go_enter Try.func72, Try.ntmps72
 go_wp2_with fail
 go_loopw [6, 8] (fun ov i wr => ∃ (k : Nat) (o : Int) (s : Nat → Int), i = .int .i64 k ∧ k ≤ 4 ∧ ov = .int .u64 o ∧ 0 ≤ o ∧ o ≤ 1 ∧ Ar wr w.heap.size (arr .u64 4 s) ∧ Ar wr (w.heap.size + 1) (arr .u64 4 e) ∧ Ar wr (w.heap.size + 1 + 1) (arr .u64 4 fun _ => 0) ∧ Chg w wr ∧ (∀ j, W64 (s j)) ∧ (∀ j, k ≤ j → s j = d j) ∧ val B64 k s - o * B64 ^ k = val B64 k d - val B64 k e) (fun ov i wr => 4 - (intOf i).toNat)
 case atStart =>
  refine ⟨0, 0, d, rfl, by omega, rfl, by omega, by omega, ((Ar.new _ _ _).alloc _).alloc _, ?_, ?_, (((Chg.refl w).alloc _).alloc _).alloc _, hd, fun _ _ => rfl, by simp [val]⟩
  ·have := ((Ar.new (w.alloc (.cells (arr .u64 4 d) 24)) (arr .u64 4 e) 24)).alloc (.cells (arr .u64 4 fun _ => 0) 24)
   rw [World.size_alloc] at this; exact this
  ·have := ((Ar.new ((w.alloc (.cells (arr .u64 4 d) 24)).alloc (.cells (arr .u64 4 e) 24)) (arr .u64 4 fun _ => 0) 24))
   rw [World.size_alloc, World.size_alloc] at this; exact this
 case round =>
  obtain ⟨k, o, s, rfl, hk, rfl, ho0, ho1, h1, h2, h3, hc, hs, hsd, hv⟩ := hrel
  have HS : Hid (∀ j, W64 (s j)) := hs
  have HV : Hid ((∀ j, k ≤ j → s j = d j) ∧ val B64 k s - o * B64 ^ k = val B64 k d - val B64 k e) := ⟨hsd, hv⟩
  have H1 : Hid (Ar wr w.heap.size (arr .u64 4 s)) := h1
  have H2 : Hid (Ar wr (w.heap.size + 1) (arr .u64 4 e)) := h2
  have H3 : Hid (Ar wr (w.heap.size + 1 + 1) (arr .u64 4 fun _ => 0)) := h3
  have HC : Hid (Chg w wr) := hc
  clear hs hsd hv hc
  by_cases hk4 : k < 4
  ·have c1 := (h1.cell k).trans (arr_get .u64 4 s hk4)
   have c2 := (h2.cell k).trans (arr_get .u64 4 e hk4)
   have f1 := h1.frozen k
   obtain ⟨x, hx⟩ : ∃ x, x = s k := ⟨_, rfl⟩
   obtain ⟨y, hy⟩ : ∃ x, x = e k := ⟨_, rfl⟩
   rw [← hx] at c1
   rw [← hy] at c2
   have hsub := run_sub64 x y o (by rw [hx]; exact (HS.out k).1) (by rw [hy]; exact (he k).1) (by rw [hy]; exact (he k).2) ho0 ho1
   have HX : Hid (x = s k ∧ y = e k) := ⟨hx, hy⟩
   clear h1 h2 h3 hx hy
   go_wp2_with fail
   go_region_with (fail)
   all_goals go_wp2
   all_goals
    obtain ⟨hx, hy⟩ := HX.out
    obtain ⟨hsd, hv⟩ := HV.out
    have hxw := HS.out k
    have hyw := he k
    rw [← hx] at hxw
    rw [← hy] at hyw
    unfold W64 at hxw hyw
    have hb := bor_le x (y + o)
    go_roundw
    case rel =>
     refine ⟨k + 1, _, upd s k ((x - y - o) % 18446744073709551616), by go_num, by omega, rfl, by omega, by omega, ?_, (H2.out.other (by dsimp only; omega) _).drew, (H3.out.other (by dsimp only; omega) _).drew, (HC.out.setCell (by dsimp only; omega) _).drew, upd_w HS.out k ⟨by omega, by omega⟩, fun j hj => ?_, ?_⟩
     ·have := H1.out.set k (.int .u64 ((x - y - o) % 18446744073709551616))
      rw [arr_set] at this
      exact this
     ·rw [upd_ne s _ (by omega)]; exact hsd j (by omega)
     ·refine val_step' hv ?_
      rw [← hsd k (Nat.le_refl _), ← hx, ← hy]
      unfold B64 bor
      split <;> omega
    case measure => simp [intOf]; omega
  ·obtain ⟨a0, a1, a2, a3⟩ := h1.four
   obtain ⟨b0, b1, b2, b3⟩ := h3.four
   obtain ⟨f0, f1, f2, f3⟩ := h3.free4
   clear h1 h2 h3
   have hk4 : k = 4 := by omega
   subst hk4
   go_wp2
   refine bp_ct (n := 4) Try.results72 rfl rfl rfl (H3.out.put4 _ _ _ _ s rfl rfl rfl rfl) u25 i25 (arr_size _ _ _) ⟨s, o, rfl, ?_, HS.out, ho0, ho1, HV.out.2⟩
   exact (((HC.out.setCell (by dsimp only; omega) _).setCell (by dsimp only; omega) _).setCell (by dsimp only; omega) _).setCell (by dsimp only; omega) _
end Go.Proofs.Ytbdgmkejmfjobaa

namespace Go.Proofs.Ytbdgmkejmfjobaa
open Go.RowKit
set_option linter.unusedVariables false
theorem ret_bool {a b : Bool} (h : a = b) : Ending.returned (.bool a) = .returned (.bool b) := by rw [h]
set_option maxHeartbeats 1000000 in
theorem below_any (d e : Nat → Int) (w : World) (hd : ∀ i, W64 (d i)) (he : ∀ i, W64 (e i)) :
  Calls Try.prog 58 #[.agg (arr .u64 4 d), .agg (arr .u64 4 e)] w fun r w' => r = .returned (.bool (decide (val B64 4 d < val B64 4 e))) ∧ Chg w w' := by
 have a1 : Ar ((w.alloc (.cells (arr .u64 4 d) 24)).alloc (.cells (arr .u64 4 e) 24)) w.heap.size (arr .u64 4 d) := (Ar.new _ _ _).alloc _
 have a2 : Ar ((w.alloc (.cells (arr .u64 4 d) 24)).alloc (.cells (arr .u64 4 e) 24)) (w.heap.size + 1) (arr .u64 4 e) := by
  have := Ar.new (w.alloc (.cells (arr .u64 4 d) 24)) (arr .u64 4 e) 24
  rw [World.size_alloc] at this
  exact this
 have hc : Chg w ((w.alloc (.cells (arr .u64 4 d) 24)).alloc (.cells (arr .u64 4 e) 24)) := ((Chg.refl w).alloc _).alloc _
 go_enter Try.func58, Try.ntmps58
 go_wp2_with fail
 generalize (w.alloc (.cells (arr .u64 4 d) 24)).alloc (.cells (arr .u64 4 e) 24) = W at *
 go_loopw [8] (fun i wr => ∃ (k : Nat), i = .int .i64 k ∧ k ≤ 4 ∧ Ar wr w.heap.size (arr .u64 4 d) ∧ Ar wr (w.heap.size + 1) (arr .u64 4 e) ∧ Chg w wr ∧ ∀ j, 4 ≤ k + j → j < 4 → d j = e j) (fun i wr => 4 - (intOf i).toNat)
 case atStart => exact ⟨0, rfl, by omega, a1, a2, hc, fun j h1 h2 => by omega⟩
 case round =>
  clear a1 a2 hc
  obtain ⟨k, rfl, hk, h1, h2, hc, hv⟩ := hrel
  have HC : Hid (Chg w wr) := hc
  have HV : Hid (∀ j, 4 ≤ k + j → j < 4 → d j = e j) := hv
  have H1 : Hid (Ar wr w.heap.size (arr .u64 4 d)) := h1
  have H2 : Hid (Ar wr (w.heap.size + 1) (arr .u64 4 e)) := h2
  clear hv hc
  by_cases hk4 : k < 4
  ·obtain ⟨q, hq⟩ : ∃ q : Nat, (3 : Int) - k = q := ⟨3 - k, by omega⟩
   have hq4 : q < 4 := by omega
   have c1 := (h1.cell q).trans (arr_get .u64 4 d hq4)
   have c2 := (h2.cell q).trans (arr_get .u64 4 e hq4)
   obtain ⟨x, hx⟩ : ∃ x, x = d q := ⟨_, rfl⟩
   obtain ⟨y, hy⟩ : ∃ x, x = e q := ⟨_, rfl⟩
   rw [← hx] at c1
   rw [← hy] at c2
   have HX : Hid (x = d q ∧ y = e q) := ⟨hx, hy⟩
   clear h1 h2 hx hy
   have hqw : IntKind.i64.wrap (q : Int) = q := by rw [IntKind.wrap_i64]; omega
   by_cases hne : x = y
   ·subst hne
    go_wp2_with fail
    go_region_with (fail)
    all_goals go_wp2
    all_goals
     obtain ⟨hx, hy⟩ := HX.out
     go_roundw
     case rel =>
      refine ⟨k + 1, by go_num, by omega, H1.out, H2.out, HC.out.drew, fun j h1 h2 => ?_⟩
      by_cases hj : j = q
      ·rw [hj, ← hx, ← hy]
      ·exact HV.out j (by omega) h2
     case measure => simp [intOf]; omega
   ·go_wp2_with fail
    go_region_with (fail)
    all_goals go_wp2
    all_goals
     obtain ⟨hx, hy⟩ := HX.out
     go_ret
     refine ⟨ret_bool ?_, HC.out.drew⟩
     by_cases hxy : x < y
     ·have := val_lt (B := B64) (n := 4) (by decide) (fun i _ => hd i) (fun i _ => he i) hq4 (fun j h1 h2 => HV.out j (by omega) h2) (by rw [← hx, ← hy]; exact hxy)
      simp [hxy, this]
     ·have := val_lt (B := B64) (n := 4) (by decide) (fun i _ => he i) (fun i _ => hd i) hq4 (fun j h1 h2 => (HV.out j (by omega) h2).symm) (by rw [← hx, ← hy]; omega)
      have : ¬ val B64 4 d < val B64 4 e := by omega
      simp [hxy, this]
  ·clear h1 h2
   go_wp2
   go_ret
   refine ⟨ret_bool ?_, HC.out⟩
   have : val B64 4 d = val B64 4 e := val_congr fun j hj => HV.out j (by omega) hj
   simp [this]
end Go.Proofs.Ytbdgmkejmfjobaa

namespace Go.Proofs.Ytbdgmkejmfjobaa
open Go.RowKit
set_option linter.unusedVariables false
set_option maxHeartbeats 1000000 in
theorem mul64_nat (x y : Nat) (hx : x < 18446744073709551616) (hy : y < 18446744073709551616) (w : World) :
  Calls Try.prog 107 #[.int .u64 x, .int .u64 y] w fun e w' => e = .returned (.tuple #[.int .u64 ((x * y / 18446744073709551616 : Nat) : Int), .int .u64 ((x * y % 18446744073709551616 : Nat) : Int)]) ∧ w' = w := by
 obtain ⟨bd, bt, bw, hhi⟩ := Lib.mul64_hi x y hx hy
 have p0 := Lib.half_mul_le (a := x / 4294967296) (b := y / 4294967296) (by omega) (by omega)
 have p1 := Lib.half_mul_le (a := x / 4294967296) (b := y % 4294967296) (by omega) (by omega)
 have p2 := Lib.half_mul_le (a := x % 4294967296) (b := y / 4294967296) (by omega) (by omega)
 have q0 : x / 4294967296 * (y / 4294967296) < 18446744073709551616 := by omega
 have q1 : x / 4294967296 * (y % 4294967296) < 18446744073709551616 := by omega
 have q2 : x % 4294967296 * (y / 4294967296) < 18446744073709551616 := by omega
 have q3 : x / 4294967296 * (y / 4294967296) + (x / 4294967296 * (y % 4294967296) + x % 4294967296 * (y % 4294967296) / 4294967296) / 4294967296 < 18446744073709551616 := by omega
 have q4 : x / 4294967296 * (y / 4294967296) + (x / 4294967296 * (y % 4294967296) + x % 4294967296 * (y % 4294967296) / 4294967296) / 4294967296 + ((x / 4294967296 * (y % 4294967296) + x % 4294967296 * (y % 4294967296) / 4294967296) % 4294967296 + x % 4294967296 * (y / 4294967296)) / 4294967296 < 18446744073709551616 := by omega
 go_enter Try.func107, Try.ntmps107
 go_wp2
 simp only [Mul64.maskN x hx, Mul64.maskN y hy, Mul64.divN, Mul64.mulN, Mul64.addN, Mul64.wrapN _ bd, Mul64.wrapN _ q1, Mul64.wrapN _ bt, Mul64.maskN _ bt, Mul64.wrapN _ q2, Mul64.wrapN _ bw, Mul64.wrapN _ q0, Mul64.wrapN _ q3, Mul64.wrapN _ q4, Mul64.wrapM (x * y)]
 rw [hhi]
 go_ret2
 exact ⟨rfl, rfl⟩
theorem mul64_any (x y : Int) (hx : W64 x) (hy : W64 y) (w : World) :
  Calls Try.prog 107 #[.int .u64 x, .int .u64 y] w fun e w' => e = .returned (.tuple #[.int .u64 (x * y / 18446744073709551616), .int .u64 (x * y % 18446744073709551616)]) ∧ w' = w := by
 obtain ⟨x, rfl⟩ := Int.eq_ofNat_of_zero_le hx.1
 obtain ⟨y, rfl⟩ := Int.eq_ofNat_of_zero_le hy.1
 have h1 := hx.2
 have h2 := hy.2
 refine (mul64_nat x y (by omega) (by omega) w).mono ?_
 rintro e w' ⟨rfl, rfl⟩
 exact ⟨by simp, rfl⟩
theorem w64_mul {x y : Int} (hx : W64 x) (hy : W64 y) : 0 ≤ x * y ∧ x * y ≤ 18446744073709551615 * 18446744073709551615 :=
 ⟨Int.mul_nonneg hx.1 hy.1, Int.mul_le_mul (by have := hx.2; omega) (by have := hy.2; omega) hy.1 (by decide)⟩
set_option maxHeartbeats 1000000 in
theorem step_any (x y c d : Int) (hx : W64 x) (hy : W64 y) (hc : W64 c) (hd : W64 d) (w : World) :
  Calls Try.prog 94 #[.int .u64 x, .int .u64 y, .int .u64 c, .int .u64 d] w fun r w' => ∃ lo hi, r = .returned (.tuple #[.int .u64 lo, .int .u64 hi]) ∧ w' = w ∧ W64 lo ∧ W64 hi ∧ lo + hi * 18446744073709551616 = x * y + c + d := by
 have HP : Hid (0 ≤ x * y ∧ x * y ≤ 18446744073709551615 * 18446744073709551615) := w64_mul hx hy
 obtain ⟨hc1, hc2⟩ := hc
 obtain ⟨hd1, hd2⟩ := hd
 go_enter Try.func94, Try.ntmps94
 go_wp2_with fail
 refine (mul64_any x y hx hy _).mono ?_
 rintro e w1 ⟨rfl, rfl⟩
 obtain ⟨h, hh⟩ : ∃ h, h = x * y / 18446744073709551616 := ⟨_, rfl⟩
 obtain ⟨l, hl⟩ : ∃ h, h = x * y % 18446744073709551616 := ⟨_, rfl⟩
 rw [← hh, ← hl]
 obtain ⟨p1, p2⟩ := HP.out
 have hlh : l + h * 18446744073709551616 = x * y := by omega
 have hl0 : 0 ≤ l := by omega
 have hl1 : l < 18446744073709551616 := by omega
 have hh0 : 0 ≤ h := by omega
 have HH : Hid (l + h * 18446744073709551616 = x * y) := hlh
 have hb : l + h * 18446744073709551616 ≤ 340282366920938463426481119284349108225 := by omega
 clear hlh hh hl p1 p2
 obtain ⟨l1, hl1'⟩ : ∃ h, h = (l + c) % 18446744073709551616 := ⟨_, rfl⟩
 obtain ⟨o1, ho1⟩ : ∃ h, h = (l + c) / 18446744073709551616 := ⟨_, rfl⟩
 obtain ⟨l2, hl2'⟩ : ∃ h, h = (l1 + d) % 18446744073709551616 := ⟨_, rfl⟩
 obtain ⟨o2, ho2⟩ : ∃ h, h = (l1 + d) / 18446744073709551616 := ⟨_, rfl⟩
 have e1 := run_add64 l c 0 hl0 hc1 (by omega) (by omega)
 have e2 := run_add64 l1 d 0 (by omega) hd1 (by omega) (by omega)
 simp only [Int.add_zero, ← hl1', ← ho1] at e1
 simp only [Int.add_zero, ← hl2', ← ho2] at e2
 have k1 : IntKind.u64.wrap (h + o1) = h + o1 := by rw [IntKind.wrap_u64]; omega
 have k2 : IntKind.u64.wrap (h + o1 + o2) = h + o1 + o2 := by rw [IntKind.wrap_u64]; omega
 have HE : Hid (l1 = (l + c) % 18446744073709551616 ∧ o1 = (l + c) / 18446744073709551616 ∧ l2 = (l1 + d) % 18446744073709551616 ∧ o2 = (l1 + d) / 18446744073709551616) := ⟨hl1', ho1, hl2', ho2⟩
 clear hl1' ho1 hl2' ho2
 go_wp2
 obtain ⟨g1, g2, g3, g4⟩ := HE.out
 have gh := HH.out
 go_ret2
 refine ⟨l2, h + o1 + o2, rfl, rfl, ⟨by omega, by omega⟩, ⟨by omega, by omega⟩, by omega⟩
end Go.Proofs.Ytbdgmkejmfjobaa

namespace Go.Proofs.Ytbdgmkejmfjobaa
open Go.RowKit
set_option linter.unusedVariables false
set_option maxHeartbeats 400000 in
theorem add38_any (d e : Nat → Int) (w : World) (hd : ∀ i, W64 (d i)) (he : ∀ i, W64 (e i)) :
  Calls Try.prog 99 #[.agg (arr .u64 4 d), .agg (arr .u64 4 e)] w fun r w' => ∃ s o, r = .returned (.tuple #[.agg (arr .u64 4 s), .int .u64 o]) ∧ Chg w w' ∧ (∀ i, W64 (s i)) ∧ W64 o ∧ val B64 4 s + o * B64 ^ 4 = val B64 4 d + 38 * val B64 4 e := by
 go_enter Try.func99, Try.ntmps99
 go_wp2_with fail
 go_loopw [6, 8] (fun ov i wr => ∃ (k : Nat) (o : Int) (s : Nat → Int), i = .int .i64 k ∧ k ≤ 4 ∧ ov = .int .u64 o ∧ W64 o ∧ Ar wr w.heap.size (arr .u64 4 s) ∧ Ar wr (w.heap.size + 1) (arr .u64 4 e) ∧ Ar wr (w.heap.size + 1 + 1) (arr .u64 4 fun _ => 0) ∧ Chg w wr ∧ (∀ j, W64 (s j)) ∧ (∀ j, k ≤ j → s j = d j) ∧ val B64 k s + o * B64 ^ k = val B64 k d + 38 * val B64 k e) (fun ov i wr => 4 - (intOf i).toNat)
 case atStart =>
  refine ⟨0, 0, d, rfl, by omega, rfl, ⟨by omega, by omega⟩, ((Ar.new _ _ _).alloc _).alloc _, ?_, ?_, (((Chg.refl w).alloc _).alloc _).alloc _, hd, fun _ _ => rfl, by simp [val]⟩
  ·have := ((Ar.new (w.alloc (.cells (arr .u64 4 d) 24)) (arr .u64 4 e) 24)).alloc (.cells (arr .u64 4 fun _ => 0) 24)
   rw [World.size_alloc] at this; exact this
  ·have := ((Ar.new ((w.alloc (.cells (arr .u64 4 d) 24)).alloc (.cells (arr .u64 4 e) 24)) (arr .u64 4 fun _ => 0) 24))
   rw [World.size_alloc, World.size_alloc] at this; exact this
 case round =>
  obtain ⟨k, o, s, rfl, hk, rfl, ho, h1, h2, h3, hc, hs, hsd, hv⟩ := hrel
  have HS : Hid (∀ j, W64 (s j)) := hs
  have HV : Hid ((∀ j, k ≤ j → s j = d j) ∧ val B64 k s + o * B64 ^ k = val B64 k d + 38 * val B64 k e) := ⟨hsd, hv⟩
  have H1 : Hid (Ar wr w.heap.size (arr .u64 4 s)) := h1
  have H2 : Hid (Ar wr (w.heap.size + 1) (arr .u64 4 e)) := h2
  have H3 : Hid (Ar wr (w.heap.size + 1 + 1) (arr .u64 4 fun _ => 0)) := h3
  have HC : Hid (Chg w wr) := hc
  clear hs hsd hv hc
  by_cases hk4 : k < 4
  ·have c1 := (h1.cell k).trans (arr_get .u64 4 s hk4)
   have c2 := (h2.cell k).trans (arr_get .u64 4 e hk4)
   have f1 := h1.frozen k
   obtain ⟨x, hx⟩ : ∃ x, x = s k := ⟨_, rfl⟩
   obtain ⟨y, hy⟩ : ∃ x, x = e k := ⟨_, rfl⟩
   rw [← hx] at c1
   rw [← hy] at c2
   have hxw : W64 x := by rw [hx]; exact HS.out k
   have hyw : W64 y := by rw [hy]; exact he k
   have HX : Hid (x = s k ∧ y = e k) := ⟨hx, hy⟩
   clear h1 h2 h3 hx hy
   go_wp2_with fail
   have HO : Hid (W64 o ∧ W64 x ∧ W64 y) := ⟨ho, hxw, hyw⟩
   clear ho hxw hyw
   go_region_with (go_at_call 94; refine (step_any y 38 x o HO.out.2.2 ⟨by omega, by omega⟩ HO.out.2.1 HO.out.1 _).mono ?_; rintro r w' ⟨lo, hi, rfl, rfl, hlo, hhi, hst⟩)
   all_goals go_wp2
   all_goals
    obtain ⟨hx, hy⟩ := HX.out
    obtain ⟨hsd, hv⟩ := HV.out
    go_roundw
    case rel =>
     refine ⟨k + 1, _, upd s k lo, by go_num, by omega, rfl, hhi, ?_, (H2.out.other (by dsimp only; omega) _).drew, (H3.out.other (by dsimp only; omega) _).drew, (HC.out.setCell (by dsimp only; omega) _).drew, upd_w HS.out k hlo, fun j hj => ?_, ?_⟩
     ·have := H1.out.set k (.int .u64 lo)
      rw [arr_set] at this
      exact this
     ·rw [upd_ne s _ (by omega)]; exact hsd j (by omega)
     ·refine val_stepm hv ?_
      rw [← hsd k (Nat.le_refl _), ← hx, ← hy]
      exact hst
    case measure => simp [intOf]; omega
  ·obtain ⟨a0, a1, a2, a3⟩ := h1.four
   obtain ⟨b0, b1, b2, b3⟩ := h3.four
   obtain ⟨f0, f1, f2, f3⟩ := h3.free4
   clear h1 h2 h3
   have hk4 : k = 4 := by omega
   subst hk4
   go_wp2
   refine bp_ct (n := 4) Try.results99 rfl rfl rfl (H3.out.put4 _ _ _ _ s rfl rfl rfl rfl) u25 i25 (arr_size _ _ _) ⟨s, o, rfl, ?_, HS.out, ho, HV.out.2⟩
   exact (((HC.out.setCell (by dsimp only; omega) _).setCell (by dsimp only; omega) _).setCell (by dsimp only; omega) _).setCell (by dsimp only; omega) _
end Go.Proofs.Ytbdgmkejmfjobaa
