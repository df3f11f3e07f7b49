/-
  Numbers as bytes, the program's and the document's.
  Bytes turned.
  A number of bytes.
-/
import Derived.Test.YtbdgmkejmfjobaaJg
namespace Go.Proofs.Ytbdgmkejmfjobaa
set_option maxRecDepth 100000
open Go.RowKit
set_option linter.unusedVariables false
def byt (d : Nat → Int) : Array Value := arr .u8 32 d
theorem byt_size (d : Nat → Int) : (byt d).size = 32 := arr_size _ _ _
theorem zero37 : (∀ w, (zeroValue 40).run Try.prog w = .ok (.agg (byt zD)) w) ∧ (Try.prog.info? 40).map (·.size) = some 32 := zero_of_info (by kernel_rfl)
theorem szY (d : Nat → Int) : (Try.prog.info? 40).map (·.size) = some (byt d).size := by rw [byt_size]; exact zero37.2
theorem lenY (d e : Nat → Int) : (byt d).size = (byt e).size := by rw [byt_size, byt_size]
theorem oneY (d : Nat → Int) : (byt d).all (·.oneCell') = true := arr_one _ _ _
theorem infoY (d : Nat → Int) : (Try.prog.info? 40).map (·.size) = some (byt d).toList.length := by rw [Array.length_toList]; exact szY d
theorem un37 : Try.prog.underlying 40 = some (.array 32 5) := by kernel_rfl
theorem dg_byte (x : Int) (q t : Nat) (ht : t < 8) : dg B64 x q / 2 ^ (8 * t) % 256 = dg 256 x (8 * q + t) := by
 unfold dg
 have e1 : (256 : Int) ^ (8 * q + t) = B64 ^ q * 2 ^ (8 * t) := by rw [Int.pow_add, Int.pow_mul, Int.pow_mul]; rfl
 rw [e1, ← Int.ediv_ediv_of_nonneg (Int.le_of_lt (pow_pos' B64_pos q))]
 generalize x / B64 ^ q = y
 obtain ⟨k, hk⟩ : ∃ k : Nat, 64 = 8 * t + (k + 8) := ⟨56 - 8 * t, by omega⟩
 have e2 : B64 = 2 ^ (8 * t) * (256 * 2 ^ k) := by
  have : (2 : Int) ^ 64 = 2 ^ (8 * t) * (256 * 2 ^ k) := by rw [hk, Int.pow_add, Int.pow_add 2 k 8, Int.mul_comm (2 ^ k)]; rfl
  rw [← this]
  rfl
 have hp : (0 : Int) < 2 ^ (8 * t) := Int.pow_pos (by decide)
 rw [e2]
 generalize (2 : Int) ^ (8 * t) = c at *
 generalize (2 : Int) ^ k = m
 have hy : y = y % (c * (256 * m)) + c * (256 * m * (y / (c * (256 * m)))) := by
  have := Int.emod_add_mul_ediv y (c * (256 * m))
  rw [Int.mul_assoc c (256 * m)] at this
  exact this.symm
 generalize y % (c * (256 * m)) = r at *
 generalize y / (c * (256 * m)) = s at *
 rw [hy, Int.add_mul_ediv_left _ _ (by omega), Int.mul_assoc 256 m s, Int.add_mul_emod_self_left]
theorem mixY_all (s d : Nat → Int) : arr .u8 32 (mixD 32 s d) = arr .u8 32 s := arr_congr fun i hi => by simp [mixD, hi]
theorem upd_self (s : Nat → Int) (i : Nat) : upd s i (s i) = s := by
 funext j
 unfold upd
 by_cases h : j = i
 ·rw [if_pos h, h]
 ·rw [if_neg h]
set_option maxHeartbeats 16000000 in
theorem toLE_any (x : Int) (w : World) : Calls Try.prog 67 #[.agg (num x)] w fun r w' => r = .returned (.agg (byt (dg 256 x))) ∧ Chg w w' := by
 have hz := zero37.1
 have hsA := num_size x
 obtain ⟨A, hA⟩ : ∃ A, A = num x := ⟨_, rfl⟩
 have HA : Hid (A = num x) := hA
 obtain ⟨ANS, hANS⟩ : ∃ A, A = byt (dg 256 x) := ⟨_, rfl⟩
 have HANS : Hid (ANS = byt (dg 256 x)) := hANS
 obtain ⟨Z0, hZ0⟩ : ∃ A, A = byt zD := ⟨_, rfl⟩
 have HZ0 : Hid (Z0 = byt zD) := hZ0
 have sR := szY (dg 256 x)
 have lR := lenY zD (dg 256 x)
 have oR := oneY (dg 256 x)
 rw [← hANS] at sR lR oR ⊢
 rw [← hZ0] at lR hz
 rw [← hA] at hsA ⊢
 clear hA hANS hZ0
 go_enter Try.func67, Try.ntmps67
 go_wp2_with fail
 obtain ⟨w2, hw2⟩ : ∃ w2, w2 = ((w.alloc (.cells A 24)).alloc (.cells Z0 40)).alloc (.cells Z0 40) := ⟨_, rfl⟩
 have Z2 : Hid (Chg w w2 ∧ Ar w2 w.heap.size (num x) ∧ Ar w2 (w.heap.size + 1) Z0 ∧ Ar w2 (w.heap.size + 1 + 1) (arr .u8 32 (mixD 0 (dg 256 x) zD))) := by
  rw [hw2, HA.out, mixD_zero, HZ0.out]
  exact ⟨(((Chg.refl w).alloc _).alloc _).alloc _, ((Ar.new w _ _).alloc _).alloc _, (Ar.new1 w _ _ _).alloc _, Ar.new2 w _ _ _ _⟩
 rw [← hw2]
 clear hw2 hsA hz
 go_loopw [5] (fun v wr => ∃ (i : Nat), v = .int .i64 i ∧ i ≤ 32 ∧ Chg w wr ∧ Ar wr w.heap.size (num x) ∧ Ar wr (w.heap.size + 1) Z0 ∧ Ar wr (w.heap.size + 1 + 1) (arr .u8 32 (mixD i (dg 256 x) zD))) (fun v wr => 32 - (intOf v).toNat)
 case atStart => exact ⟨0, rfl, by omega, Z2.out⟩
 case round =>
  clear Z2
  obtain ⟨i, rfl, hi, hch, h1, h2, h3⟩ := hrel
  have H : Hid (Chg w wr ∧ Ar wr w.heap.size (num x) ∧ Ar wr (w.heap.size + 1) Z0 ∧ Ar wr (w.heap.size + 1 + 1) (arr .u8 32 (mixD i (dg 256 x) zD))) := ⟨hch, h1, h2, h3⟩
  by_cases h32 : i < 32
  ·have hdi : decide ((i : Int) < 32) = true := by simp; omega
   have li : (i : Int) < 32 := by omega
   obtain ⟨q, hq⟩ : ∃ q : Nat, (i : Int).tdiv 8 = q := ⟨i / 8, by rw [Int.tdiv_eq_ediv_of_nonneg (by omega)]; omega⟩
   obtain ⟨s, hs⟩ : ∃ t : Nat, (i : Int).tmod 8 = t := ⟨i % 8, by rw [Int.tmod_eq_emod_of_nonneg (by omega)]; omega⟩
   have hq' : q = i / 8 := by rw [Int.tdiv_eq_ediv_of_nonneg (by omega)] at hq; omega
   have hs' : s = i % 8 := by rw [Int.tmod_eq_emod_of_nonneg (by omega)] at hs; omega
   obtain ⟨n, hn⟩ : ∃ n : Nat, (s : Int) * 8 = n := ⟨8 * s, by omega⟩
   have hn2 : 8 * (s : Int) = n := by omega
   have hn' : n = 8 * s := by omega
   have wq := wrap_i (x := (q : Int)) (by omega) (by omega)
   have wt := wrap_i (x := (s : Int)) (by omega) (by omega)
   have wn := wrap_i (x := (n : Int)) (by omega) (by omega)
   have ln : ¬ (n : Int) < 0 := by omega
   have ln64 : n < 64 := by omega
   have lq : (q : Int) < 4 := by omega
   have lq' : q < 4 := by omega
   have eb := dg_byte x q s (by omega)
   rw [show 8 * q + s = i by omega, ← hn'] at eb
   have c1 : wr.cell? ⟨w.heap.size, q, none⟩ = some (.int .u64 (dg B64 x q)) := (h1.cell q).trans (arr_get _ _ _ lq')
   obtain ⟨d, hd⟩ : ∃ d, d = dg B64 x q := ⟨_, rfl⟩
   obtain ⟨y, hy⟩ : ∃ y, y = dg 256 x i := ⟨_, rfl⟩
   rw [← hd, ← hy] at eb
   rw [← hd] at c1
   have wy : IntKind.u8.wrap (d / 2 ^ n) = y := by rw [IntKind.wrap_u8]; exact eb
   have HY : Hid (y = dg 256 x i) := hy
   have f3 := h3.frozen i
   have c3 := (h3.cell i).trans (arr_get .u8 32 _ h32)
   clear hch h1 h2 h3 hq' hs' hn' eb hd hy
   go_wp2_with fail
   go_roundw
   case rel =>
    obtain ⟨k0, k1, k2, k3⟩ := H.out
    have hh := k3.set i (.int .u8 y)
    rw [arr_set, mixD_upd, HY.out, upd_self] at hh
    refine ⟨i + 1, by go_num, by omega, k0.setCell (by dsimp only; omega) _, k1.other (by dsimp only; omega) _, k2.other (by dsimp only; omega) _, ?_⟩
    rw [HY.out]
    exact hh
   case measure => simp [intOf]; omega
  ·have : i = 32 := by omega
   subst this
   have hx3 : Ar wr (w.heap.size + 1 + 1) ANS := by
    rw [mixY_all] at h3
    rw [HANS.out]
    exact h3
   obtain ⟨t1, g1⟩ := hx3
   obtain ⟨t3, g3⟩ := h2
   clear hch h1 h3
   go_wp2_with (first | refine wpList_load_row rfl 40 _ rfl _ rfl _ _ _ _ g1 un37 rfl sR ?_ | refine wpList_store_row rfl 40 _ _ rfl _ _ rfl rfl _ _ g3 sR lR oR ?_)
   refine bp_c (n := 32) (c := ANS) Try.results67 rfl rfl ?_ un37 zero37.2 (by rw [HANS.out]; exact byt_size _) ⟨rfl, ?_⟩
   ·exact H.out.2.2.1.row _
   ·exact H.out.1.setRow (by omega) _
end Go.Proofs.Ytbdgmkejmfjobaa

namespace Go.Proofs.Ytbdgmkejmfjobaa
set_option maxRecDepth 100000
open Go.RowKit
set_option linter.unusedVariables false
set_option maxHeartbeats 16000000 in
theorem toLER_any (x : Int) (w : World) : Calls Try.prog 69 #[.agg (num x)] w fun r w' => r = .returned (.agg (byt (dg 256 x))) ∧ Chg w w' := by
 have hz := zero37.1
 have hsA := num_size x
 obtain ⟨A, hA⟩ : ∃ A, A = num x := ⟨_, rfl⟩
 have HA : Hid (A = num x) := hA
 obtain ⟨ANS, hANS⟩ : ∃ A, A = byt (dg 256 x) := ⟨_, rfl⟩
 have HANS : Hid (ANS = byt (dg 256 x)) := hANS
 obtain ⟨Z0, hZ0⟩ : ∃ A, A = byt zD := ⟨_, rfl⟩
 have HZ0 : Hid (Z0 = byt zD) := hZ0
 have sR := szY (dg 256 x)
 have lR := lenY zD (dg 256 x)
 have oR := oneY (dg 256 x)
 rw [← hANS] at sR lR oR ⊢
 rw [← hZ0] at lR hz
 rw [← hA] at hsA ⊢
 clear hA hANS hZ0
 go_enter Try.func69, Try.ntmps69
 go_wp2_with fail
 obtain ⟨w2, hw2⟩ : ∃ w2, w2 = ((w.alloc (.cells A 24)).alloc (.cells Z0 40)).alloc (.cells Z0 40) := ⟨_, rfl⟩
 have Z2 : Hid (Chg w w2 ∧ Ar w2 w.heap.size (num x) ∧ Ar w2 (w.heap.size + 1) Z0 ∧ Ar w2 (w.heap.size + 1 + 1) (arr .u8 32 (mixD 0 (dg 256 x) zD))) := by
  rw [hw2, HA.out, mixD_zero, HZ0.out]
  exact ⟨(((Chg.refl w).alloc _).alloc _).alloc _, ((Ar.new w _ _).alloc _).alloc _, (Ar.new1 w _ _ _).alloc _, Ar.new2 w _ _ _ _⟩
 rw [← hw2]
 clear hw2 hsA hz
 go_loopw [4] (fun v wr => ∃ (i : Nat), v = .int .i64 i ∧ i ≤ 32 ∧ Chg w wr ∧ Ar wr w.heap.size (num x) ∧ Ar wr (w.heap.size + 1) Z0 ∧ Ar wr (w.heap.size + 1 + 1) (arr .u8 32 (mixD i (dg 256 x) zD))) (fun v wr => 32 - (intOf v).toNat)
 case atStart => exact ⟨0, rfl, by omega, Z2.out⟩
 case round =>
  clear Z2
  obtain ⟨i, rfl, hi, hch, h1, h2, h3⟩ := hrel
  have H : Hid (Chg w wr ∧ Ar wr w.heap.size (num x) ∧ Ar wr (w.heap.size + 1) Z0 ∧ Ar wr (w.heap.size + 1 + 1) (arr .u8 32 (mixD i (dg 256 x) zD))) := ⟨hch, h1, h2, h3⟩
  by_cases h32 : i < 32
  ·have hdi : decide ((i : Int) < 32) = true := by simp; omega
   have li : (i : Int) < 32 := by omega
   obtain ⟨q, hq⟩ : ∃ q : Nat, (i : Int).tdiv 8 = q := ⟨i / 8, by rw [Int.tdiv_eq_ediv_of_nonneg (by omega)]; omega⟩
   obtain ⟨s, hs⟩ : ∃ t : Nat, (i : Int).tmod 8 = t := ⟨i % 8, by rw [Int.tmod_eq_emod_of_nonneg (by omega)]; omega⟩
   have hq' : q = i / 8 := by rw [Int.tdiv_eq_ediv_of_nonneg (by omega)] at hq; omega
   have hs' : s = i % 8 := by rw [Int.tmod_eq_emod_of_nonneg (by omega)] at hs; omega
   obtain ⟨n, hn⟩ : ∃ n : Nat, (s : Int) * 8 = n := ⟨8 * s, by omega⟩
   have hn2 : 8 * (s : Int) = n := by omega
   have hn' : n = 8 * s := by omega
   have wq := wrap_i (x := (q : Int)) (by omega) (by omega)
   have wt := wrap_i (x := (s : Int)) (by omega) (by omega)
   have wn := wrap_i (x := (n : Int)) (by omega) (by omega)
   have ln : ¬ (n : Int) < 0 := by omega
   have ln64 : n < 64 := by omega
   have lq : (q : Int) < 4 := by omega
   have lq' : q < 4 := by omega
   have eb := dg_byte x q s (by omega)
   rw [show 8 * q + s = i by omega, ← hn'] at eb
   have c1 : wr.cell? ⟨w.heap.size, q, none⟩ = some (.int .u64 (dg B64 x q)) := (h1.cell q).trans (arr_get _ _ _ lq')
   obtain ⟨d, hd⟩ : ∃ d, d = dg B64 x q := ⟨_, rfl⟩
   obtain ⟨y, hy⟩ : ∃ y, y = dg 256 x i := ⟨_, rfl⟩
   rw [← hd, ← hy] at eb
   rw [← hd] at c1
   have wy : IntKind.u8.wrap (d / 2 ^ n) = y := by rw [IntKind.wrap_u8]; exact eb
   have HY : Hid (y = dg 256 x i) := hy
   have f3 := h3.frozen i
   have c3 := (h3.cell i).trans (arr_get .u8 32 _ h32)
   clear hch h1 h2 h3 hq' hs' hn' eb hd hy
   go_wp2_with fail
   go_roundw
   case rel =>
    obtain ⟨k0, k1, k2, k3⟩ := H.out
    have hh := k3.set i (.int .u8 y)
    rw [arr_set, mixD_upd, HY.out, upd_self] at hh
    refine ⟨i + 1, by go_num, by omega, k0.setCell (by dsimp only; omega) _, k1.other (by dsimp only; omega) _, k2.other (by dsimp only; omega) _, ?_⟩
    rw [HY.out]
    exact hh
   case measure => simp [intOf]; omega
  ·have : i = 32 := by omega
   subst this
   have hx3 : Ar wr (w.heap.size + 1 + 1) ANS := by
    rw [mixY_all] at h3
    rw [HANS.out]
    exact h3
   obtain ⟨t1, g1⟩ := hx3
   obtain ⟨t3, g3⟩ := h2
   clear hch h1 h3
   go_wp2_with (first | refine wpList_load_row rfl 40 _ rfl _ rfl _ _ _ _ g1 un37 rfl sR ?_ | refine wpList_store_row rfl 40 _ _ rfl _ _ rfl rfl _ _ g3 sR lR oR ?_)
   refine bp_c (n := 32) (c := ANS) Try.results69 rfl rfl ?_ un37 zero37.2 (by rw [HANS.out]; exact byt_size _) ⟨rfl, ?_⟩
   ·exact H.out.2.2.1.row _
   ·exact H.out.1.setRow (by omega) _
def tu (d : Nat → Int) : Nat → Int := fun i => d (31 - i)
theorem tu_tu (d : Nat → Int) : byt (tu (tu d)) = byt d := arr_congr fun i hi => by
 unfold tu
 rw [show 31 - (31 - i) = i by omega]
set_option maxHeartbeats 16000000 in
theorem turned_any (d : Nat → Int) (w : World) : Calls Try.prog 66 #[.agg (byt d)] w fun r w' => r = .returned (.agg (byt (tu d))) ∧ Chg w w' := by
 have hz := zero37.1
 have hsA := byt_size d
 obtain ⟨A, hA⟩ : ∃ A, A = byt d := ⟨_, rfl⟩
 have HA : Hid (A = byt d) := hA
 obtain ⟨ANS, hANS⟩ : ∃ A, A = byt (tu d) := ⟨_, rfl⟩
 have HANS : Hid (ANS = byt (tu d)) := hANS
 obtain ⟨Z0, hZ0⟩ : ∃ A, A = byt zD := ⟨_, rfl⟩
 have HZ0 : Hid (Z0 = byt zD) := hZ0
 have sR := szY (tu d)
 have lR := lenY zD (tu d)
 have oR := oneY (tu d)
 rw [← hANS] at sR lR oR ⊢
 rw [← hZ0] at lR hz
 rw [← hA] at hsA ⊢
 clear hA hANS hZ0
 go_enter Try.func66, Try.ntmps66
 go_wp2_with fail
 obtain ⟨w2, hw2⟩ : ∃ w2, w2 = ((w.alloc (.cells A 40)).alloc (.cells Z0 40)).alloc (.cells Z0 40) := ⟨_, rfl⟩
 have Z2 : Hid (Chg w w2 ∧ Ar w2 w.heap.size (byt d) ∧ Ar w2 (w.heap.size + 1) Z0 ∧ Ar w2 (w.heap.size + 1 + 1) (arr .u8 32 (mixD 0 (tu d) zD))) := by
  rw [hw2, HA.out, mixD_zero, HZ0.out]
  exact ⟨(((Chg.refl w).alloc _).alloc _).alloc _, ((Ar.new w _ _).alloc _).alloc _, (Ar.new1 w _ _ _).alloc _, Ar.new2 w _ _ _ _⟩
 rw [← hw2]
 clear hw2 hsA hz
 go_loopw [5] (fun v wr => ∃ (i : Nat), v = .int .i64 i ∧ i ≤ 32 ∧ Chg w wr ∧ Ar wr w.heap.size (byt d) ∧ Ar wr (w.heap.size + 1) Z0 ∧ Ar wr (w.heap.size + 1 + 1) (arr .u8 32 (mixD i (tu d) zD))) (fun v wr => 32 - (intOf v).toNat)
 case atStart => exact ⟨0, rfl, by omega, Z2.out⟩
 case round =>
  clear Z2
  obtain ⟨i, rfl, hi, hch, h1, h2, h3⟩ := hrel
  have H : Hid (Chg w wr ∧ Ar wr w.heap.size (byt d) ∧ Ar wr (w.heap.size + 1) Z0 ∧ Ar wr (w.heap.size + 1 + 1) (arr .u8 32 (mixD i (tu d) zD))) := ⟨hch, h1, h2, h3⟩
  by_cases h32 : i < 32
  ·have hdi : decide ((i : Int) < 32) = true := by simp; omega
   have li : (i : Int) < 32 := by omega
   obtain ⟨q, hq⟩ : ∃ q : Nat, 31 - (i : Int) = q := ⟨31 - i, by omega⟩
   have hq' : q = 31 - i := by omega
   have wq := wrap_i (x := (q : Int)) (by omega) (by omega)
   have lq : (q : Int) < 32 := by omega
   have lq' : q < 32 := by omega
   have lq0 : (0 : Int) ≤ (q : Int) := by omega
   have c1 : wr.cell? ⟨w.heap.size, q, none⟩ = some (.int .u8 (d q)) := (h1.cell q).trans (arr_get _ _ _ lq')
   obtain ⟨y, hy⟩ : ∃ y, y = d q := ⟨_, rfl⟩
   rw [← hy] at c1
   have HY : Hid (y = tu d i) := by
    show y = d (31 - i)
    rw [hy, hq']
   have f3 := h3.frozen i
   have c3 := (h3.cell i).trans (arr_get .u8 32 _ h32)
   clear hch h1 h2 h3 hq' hy
   go_wp2_with fail
   go_roundw
   case rel =>
    obtain ⟨k0, k1, k2, k3⟩ := H.out
    have hh := k3.set i (.int .u8 y)
    rw [arr_set, mixD_upd, HY.out, upd_self] at hh
    refine ⟨i + 1, by go_num, by omega, k0.setCell (by dsimp only; omega) _, k1.other (by dsimp only; omega) _, k2.other (by dsimp only; omega) _, ?_⟩
    rw [HY.out]
    exact hh
   case measure => simp [intOf]; omega
  ·have : i = 32 := by omega
   subst this
   have hx3 : Ar wr (w.heap.size + 1 + 1) ANS := by
    rw [mixY_all] at h3
    rw [HANS.out]
    exact h3
   obtain ⟨t1, g1⟩ := hx3
   obtain ⟨t3, g3⟩ := h2
   clear hch h1 h3
   go_wp2_with (first | refine wpList_load_row rfl 40 _ rfl _ rfl _ _ _ _ g1 un37 rfl sR ?_ | refine wpList_store_row rfl 40 _ _ rfl _ _ rfl rfl _ _ g3 sR lR oR ?_)
   refine bp_c (n := 32) (c := ANS) Try.results66 rfl rfl ?_ un37 zero37.2 (by rw [HANS.out]; exact byt_size _) ⟨rfl, ?_⟩
   ·exact H.out.2.2.1.row _
   ·exact H.out.1.setRow (by omega) _
set_option maxHeartbeats 16000000 in
theorem turnedR_any (d : Nat → Int) (w : World) : Calls Try.prog 68 #[.agg (byt d)] w fun r w' => r = .returned (.agg (byt (tu d))) ∧ Chg w w' := by
 have hz := zero37.1
 have hsA := byt_size d
 obtain ⟨A, hA⟩ : ∃ A, A = byt d := ⟨_, rfl⟩
 have HA : Hid (A = byt d) := hA
 obtain ⟨ANS, hANS⟩ : ∃ A, A = byt (tu d) := ⟨_, rfl⟩
 have HANS : Hid (ANS = byt (tu d)) := hANS
 obtain ⟨Z0, hZ0⟩ : ∃ A, A = byt zD := ⟨_, rfl⟩
 have HZ0 : Hid (Z0 = byt zD) := hZ0
 have sR := szY (tu d)
 have lR := lenY zD (tu d)
 have oR := oneY (tu d)
 rw [← hANS] at sR lR oR ⊢
 rw [← hZ0] at lR hz
 rw [← hA] at hsA ⊢
 clear hA hANS hZ0
 go_enter Try.func68, Try.ntmps68
 go_wp2_with fail
 obtain ⟨w2, hw2⟩ : ∃ w2, w2 = ((w.alloc (.cells A 40)).alloc (.cells Z0 40)).alloc (.cells Z0 40) := ⟨_, rfl⟩
 have Z2 : Hid (Chg w w2 ∧ Ar w2 w.heap.size (byt d) ∧ Ar w2 (w.heap.size + 1) Z0 ∧ Ar w2 (w.heap.size + 1 + 1) (arr .u8 32 (mixD 0 (tu d) zD))) := by
  rw [hw2, HA.out, mixD_zero, HZ0.out]
  exact ⟨(((Chg.refl w).alloc _).alloc _).alloc _, ((Ar.new w _ _).alloc _).alloc _, (Ar.new1 w _ _ _).alloc _, Ar.new2 w _ _ _ _⟩
 rw [← hw2]
 clear hw2 hsA hz
 go_loopw [4] (fun v wr => ∃ (i : Nat), v = .int .i64 i ∧ i ≤ 32 ∧ Chg w wr ∧ Ar wr w.heap.size (byt d) ∧ Ar wr (w.heap.size + 1) Z0 ∧ Ar wr (w.heap.size + 1 + 1) (arr .u8 32 (mixD i (tu d) zD))) (fun v wr => 32 - (intOf v).toNat)
 case atStart => exact ⟨0, rfl, by omega, Z2.out⟩
 case round =>
  clear Z2
  obtain ⟨i, rfl, hi, hch, h1, h2, h3⟩ := hrel
  have H : Hid (Chg w wr ∧ Ar wr w.heap.size (byt d) ∧ Ar wr (w.heap.size + 1) Z0 ∧ Ar wr (w.heap.size + 1 + 1) (arr .u8 32 (mixD i (tu d) zD))) := ⟨hch, h1, h2, h3⟩
  by_cases h32 : i < 32
  ·have hdi : decide ((i : Int) < 32) = true := by simp; omega
   have li : (i : Int) < 32 := by omega
   obtain ⟨q, hq⟩ : ∃ q : Nat, 31 - (i : Int) = q := ⟨31 - i, by omega⟩
   have hq' : q = 31 - i := by omega
   have wq := wrap_i (x := (q : Int)) (by omega) (by omega)
   have lq : (q : Int) < 32 := by omega
   have lq' : q < 32 := by omega
   have lq0 : (0 : Int) ≤ (q : Int) := by omega
   have c1 : wr.cell? ⟨w.heap.size, q, none⟩ = some (.int .u8 (d q)) := (h1.cell q).trans (arr_get _ _ _ lq')
   obtain ⟨y, hy⟩ : ∃ y, y = d q := ⟨_, rfl⟩
   rw [← hy] at c1
   have HY : Hid (y = tu d i) := by
    show y = d (31 - i)
    rw [hy, hq']
   have f3 := h3.frozen i
   have c3 := (h3.cell i).trans (arr_get .u8 32 _ h32)
   clear hch h1 h2 h3 hq' hy
   go_wp2_with fail
   go_roundw
   case rel =>
    obtain ⟨k0, k1, k2, k3⟩ := H.out
    have hh := k3.set i (.int .u8 y)
    rw [arr_set, mixD_upd, HY.out, upd_self] at hh
    refine ⟨i + 1, by go_num, by omega, k0.setCell (by dsimp only; omega) _, k1.other (by dsimp only; omega) _, k2.other (by dsimp only; omega) _, ?_⟩
    rw [HY.out]
    exact hh
   case measure => simp [intOf]; omega
  ·have : i = 32 := by omega
   subst this
   have hx3 : Ar wr (w.heap.size + 1 + 1) ANS := by
    rw [mixY_all] at h3
    rw [HANS.out]
    exact h3
   obtain ⟨t1, g1⟩ := hx3
   obtain ⟨t3, g3⟩ := h2
   clear hch h1 h3
   go_wp2_with (first | refine wpList_load_row rfl 40 _ rfl _ rfl _ _ _ _ g1 un37 rfl sR ?_ | refine wpList_store_row rfl 40 _ _ rfl _ _ rfl rfl _ _ g3 sR lR oR ?_)
   refine bp_c (n := 32) (c := ANS) Try.results68 rfl rfl ?_ un37 zero37.2 (by rw [HANS.out]; exact byt_size _) ⟨rfl, ?_⟩
   ·exact H.out.2.2.1.row _
   ·exact H.out.1.setRow (by omega) _
end Go.Proofs.Ytbdgmkejmfjobaa

namespace Go.Proofs.Ytbdgmkejmfjobaa
set_option maxRecDepth 100000
open Go.RowKit
set_option linter.unusedVariables false

def B8 (x : Int) : Prop := 0 ≤ x ∧ x < 256
theorem or_at {lo hi : Int} (n : Nat) (h1 : 0 ≤ lo ∧ lo < 2 ^ n) (h2 : 0 ≤ hi) (h3 : hi * 2 ^ n < 18446744073709551616) (hn : n < 64) : bits .or .u64 lo (hi * 2 ^ n) = lo + hi * 2 ^ n := by
  obtain ⟨a, rfl⟩ := Int.eq_ofNat_of_zero_le h1.1
  obtain ⟨b, rfl⟩ := Int.eq_ofNat_of_zero_le h2
  have h1' : a < 2 ^ n := by have := h1.2; exact_mod_cast this
  have e : ((b : Int) * 2 ^ n) = ((b * 2 ^ n : Nat) : Int) := by push_cast; rfl
  have h3' : b * 2 ^ n < 18446744073709551616 := by
    rw [e] at h3
    generalize b * 2 ^ n = z at h3
    omega
  have hp : 2 ^ n ≤ 2 ^ 63 := Nat.pow_le_pow_right (by decide) (by omega)
  rw [e, u64_or_nat a (b * 2 ^ n) (by omega) h3']
  have h4 : b * 2 ^ n ||| a = b * 2 ^ n + a := by
    have := Nat.shiftLeft_add_eq_or_of_lt (i := n) (b := a) h1' b
    rw [Nat.shiftLeft_eq] at this
    exact this.symm
  rw [Nat.or_comm, h4]
  push_cast
  omega
theorem pow256 (q t : Nat) : (256 : Int) ^ (8 * q + t) = B64 ^ q * 2 ^ (8 * t) := by rw [Int.pow_add, Int.pow_mul, Int.pow_mul]; rfl
theorem dg_small {V : Int} {q t : Nat} (hV : 0 ≤ V ∧ V < 256 ^ (8 * q + t)) (ht : t < 8) : 0 ≤ dg B64 V q ∧ dg B64 V q < 2 ^ (8 * t) ∧ dg B64 V q = V / B64 ^ q := by
  rw [pow256] at hV
  have hp := pow_pos' B64_pos q
  have h1 : V / B64 ^ q < 2 ^ (8 * t) := Int.ediv_lt_of_lt_mul hp (by rw [Int.mul_comm]; exact hV.2)
  have h0 : 0 ≤ V / B64 ^ q := Int.ediv_nonneg hV.1 (by omega)
  have h2 : (2 : Int) ^ (8 * t) ≤ 2 ^ 56 := by
    have : 2 ^ (8 * t) ≤ 2 ^ 56 := Nat.pow_le_pow_right (by decide) (by omega)
    exact_mod_cast this
  have e : dg B64 V q = V / B64 ^ q := by
    unfold dg
    exact Int.emod_eq_of_lt h0 (by have : (2 : Int) ^ 56 < B64 := by decide
                                   omega)
  rw [e]
  exact ⟨h0, h1, rfl⟩
theorem dg_put {V b : Int} {q t : Nat} (hV : 0 ≤ V ∧ V < 256 ^ (8 * q + t)) (hb : B8 b) (ht : t < 8) : upd (dg B64 V) q (dg B64 V q + b * 2 ^ (8 * t)) = dg B64 (V + b * 256 ^ (8 * q + t)) := by
  obtain ⟨s0, s1, s2⟩ := dg_small hV ht
  have hp := pow_pos' B64_pos q
  have hc : (0 : Int) < 2 ^ (8 * t) := Int.pow_pos (by decide)
  have h2 : (2 : Int) ^ (8 * t) ≤ 2 ^ 56 := by
    have : 2 ^ (8 * t) ≤ 2 ^ 56 := Nat.pow_le_pow_right (by decide) (by omega)
    exact_mod_cast this
  have hbc : b * 2 ^ (8 * t) ≤ 255 * 2 ^ (8 * t) := Int.mul_le_mul_of_nonneg_right (by have := hb.2; omega) (by omega)
  have hb0 : 0 ≤ b * 2 ^ (8 * t) := Int.mul_nonneg hb.1 (by omega)
  have e56 : (2 : Int) ^ 56 * 256 = B64 := by decide
  funext j
  unfold upd
  rw [pow256]
  by_cases hj : j = q
  · subst hj
    rw [if_pos rfl, s2]
    unfold dg
    rw [show V + b * (B64 ^ j * 2 ^ (8 * t)) = V + B64 ^ j * (b * 2 ^ (8 * t)) by rw [← Int.mul_assoc, Int.mul_comm b, Int.mul_assoc], Int.add_mul_ediv_left _ _ (by omega)]
    rw [s2] at s0 s1
    rw [Int.emod_eq_of_lt (by omega) (by omega)]
  · rw [if_neg hj]
    unfold dg
    by_cases hl : j < q
    · obtain ⟨k, rfl⟩ : ∃ k, q = j + (k + 1) := ⟨q - j - 1, by omega⟩
      have hpj := pow_pos' B64_pos j
      have e : b * (B64 ^ (j + (k + 1)) * 2 ^ (8 * t)) = B64 ^ j * (B64 * (B64 ^ k * (b * 2 ^ (8 * t)))) := by
        rw [Int.pow_add, Int.pow_succ]
        simp only [Int.mul_comm, Int.mul_left_comm, Int.mul_assoc]
      rw [e, Int.add_mul_ediv_left _ _ (by omega), Int.add_mul_emod_self_left]
    · obtain ⟨k, rfl⟩ : ∃ k, j = q + (k + 1) := ⟨j - q - 1, by omega⟩
      rw [Int.pow_add, ← Int.ediv_ediv_of_nonneg (by omega), ← Int.ediv_ediv_of_nonneg (by omega)]
      rw [show V + b * (B64 ^ q * 2 ^ (8 * t)) = V + B64 ^ q * (b * 2 ^ (8 * t)) by rw [← Int.mul_assoc, Int.mul_comm b, Int.mul_assoc], Int.add_mul_ediv_left _ _ (by omega)]
      rw [s2] at s0 s1
      have hk : (1 : Int) ≤ B64 ^ k := pow_pos' B64_pos k
      have hk2 : B64 ≤ B64 ^ (k + 1) := by
        rw [Int.pow_succ, Int.mul_comm]
        have : B64 * 1 ≤ B64 * B64 ^ k := Int.mul_le_mul_of_nonneg_left hk (by decide)
        omega
      rw [Int.ediv_eq_zero_of_lt s0 (by omega), Int.ediv_eq_zero_of_lt (by omega) (by omega)]
theorem val_b {d : Nat → Int} (hd : ∀ i, B8 (d i)) (n : Nat) : 0 ≤ val 256 n d ∧ val 256 n d < 256 ^ n := val_bound (by decide) fun i _ => hd i
theorem N_val {d : Nat → Int} (hd : ∀ i, B8 (d i)) : N256 (val 256 32 d) := by
  obtain ⟨h0, h1⟩ := val_b hd 32
  exact ⟨h0, by rw [show (256 : Int) ^ 32 = R256 from by decide +kernel] at h1; exact h1⟩

set_option maxRecDepth 100000 in
set_option maxHeartbeats 16000000 in
theorem toBE_any (x : Int) (w : World) : Calls Try.prog 47 #[.agg (num x)] w fun r w' => r = .returned (.agg (byt (tu (dg 256 x)))) ∧ Chg w w' := by
  have hz := zero37.1
  have hsA : (num x).size = 4 := arr_size _ _ _
  have iA : (Try.prog.info? 24).map (·.size) = some (num x).toList.length := infoN _
  obtain ⟨A, hA⟩ : ∃ A, A = num x := ⟨_, rfl⟩
  obtain ⟨M, hM⟩ : ∃ A, A = byt (dg 256 x) := ⟨_, rfl⟩
  obtain ⟨ANS, hANS⟩ : ∃ A, A = byt (tu (dg 256 x)) := ⟨_, rfl⟩
  have HANS : Hid (ANS = byt (tu (dg 256 x))) := hANS
  obtain ⟨Z0, hZ0⟩ : ∃ A, A = byt zD := ⟨_, rfl⟩
  have sR : (Try.prog.info? 40).map (·.size) = some (byt (tu (dg 256 x))).size := szY _
  have lR : (byt zD).size = (byt (tu (dg 256 x))).size := lenY _ _
  have oR : (byt (tu (dg 256 x))).all (·.oneCell') = true := oneY _
  have HK : Hid ((∀ u, Calls Try.prog 67 #[.agg A] u fun r w' => r = .returned (.agg M) ∧ Chg u w') ∧ (∀ u, Calls Try.prog 66 #[.agg M] u fun r w' => r = .returned (.agg ANS) ∧ Chg u w')) := by
    rw [hA, hM, hANS]
    exact ⟨fun u => toLE_any x u, fun u => turned_any _ u⟩
  rw [← hANS] at sR lR oR ⊢
  rw [← hZ0] at lR hz
  rw [← hA] at hsA iA ⊢
  clear hA hM hANS hZ0
  go_enter Try.func47, Try.ntmps47
  go_upto_region 1 with fail
  obtain ⟨w2, hw2⟩ : ∃ w2, w2 = (w.alloc (.cells A 24)).alloc (.cells Z0 40) := ⟨_, rfl⟩
  have Z2 : Hid (Chg w w2 ∧ Ar w2 w.heap.size A ∧ Ar w2 (w.heap.size + 1) Z0) := by
    rw [hw2]
    exact ⟨((Chg.refl w).alloc _).alloc _, (Ar.new w _ _).alloc _, Ar.new1 w _ _ _⟩
  rw [← hw2]
  clear hw2 hsA
  have r1 := rangeA Z2.out.2.1
  go_wp2_with (first | refine wpList_load_mid rfl 24 (.tmp 1) rfl _ _ rfl (A.toList) _ r1 Go.Proofs.Ytbdgmkejmfjobaa.u25 rfl iA ?_)
  go_at_call 67
  refine (HK.out.1 _).mono ?_
  rintro r w3 ⟨rfl, hc3⟩
  go_wp2_with fail
  go_at_call 66
  refine (HK.out.2 _).mono ?_
  rintro r w4 ⟨rfl, hc4⟩
  have Z4 : Hid (Chg w w4 ∧ Ar w4 (w.heap.size + 1) Z0) := ⟨(Z2.out.1.trans hc3).trans hc4, (Z2.out.2.2.chg hc3).chg hc4⟩
  clear hc3 hc4 r1 Z2
  obtain ⟨t3, g3⟩ := Z4.out.2
  go_wp2_with (first | refine wpList_store_row rfl 40 _ _ rfl _ _ rfl rfl _ _ g3 sR lR oR ?_)
  refine bp_c (n := 32) (c := ANS) Try.results47 rfl rfl ?_ un37 zero37.2 (by rw [HANS.out]; exact byt_size _) ⟨rfl, ?_⟩
  · exact Z4.out.2.row _
  · exact Z4.out.1.setRow (by omega) _
set_option maxRecDepth 100000 in
set_option maxHeartbeats 16000000 in
theorem toBER_any (x : Int) (w : World) : Calls Try.prog 49 #[.agg (num x)] w fun r w' => r = .returned (.agg (byt (tu (dg 256 x)))) ∧ Chg w w' := by
  have hz := zero37.1
  have hsA : (num x).size = 4 := arr_size _ _ _
  have iA : (Try.prog.info? 24).map (·.size) = some (num x).toList.length := infoN _
  obtain ⟨A, hA⟩ : ∃ A, A = num x := ⟨_, rfl⟩
  obtain ⟨M, hM⟩ : ∃ A, A = byt (dg 256 x) := ⟨_, rfl⟩
  obtain ⟨ANS, hANS⟩ : ∃ A, A = byt (tu (dg 256 x)) := ⟨_, rfl⟩
  have HANS : Hid (ANS = byt (tu (dg 256 x))) := hANS
  obtain ⟨Z0, hZ0⟩ : ∃ A, A = byt zD := ⟨_, rfl⟩
  have sR : (Try.prog.info? 40).map (·.size) = some (byt (tu (dg 256 x))).size := szY _
  have lR : (byt zD).size = (byt (tu (dg 256 x))).size := lenY _ _
  have oR : (byt (tu (dg 256 x))).all (·.oneCell') = true := oneY _
  have HK : Hid ((∀ u, Calls Try.prog 69 #[.agg A] u fun r w' => r = .returned (.agg M) ∧ Chg u w') ∧ (∀ u, Calls Try.prog 68 #[.agg M] u fun r w' => r = .returned (.agg ANS) ∧ Chg u w')) := by
    rw [hA, hM, hANS]
    exact ⟨fun u => toLER_any x u, fun u => turnedR_any _ u⟩
  rw [← hANS] at sR lR oR ⊢
  rw [← hZ0] at lR hz
  rw [← hA] at hsA iA ⊢
  clear hA hM hANS hZ0
  go_enter Try.func49, Try.ntmps49
  go_upto_region 1 with fail
  obtain ⟨w2, hw2⟩ : ∃ w2, w2 = (w.alloc (.cells A 24)).alloc (.cells Z0 40) := ⟨_, rfl⟩
  have Z2 : Hid (Chg w w2 ∧ Ar w2 w.heap.size A ∧ Ar w2 (w.heap.size + 1) Z0) := by
    rw [hw2]
    exact ⟨((Chg.refl w).alloc _).alloc _, (Ar.new w _ _).alloc _, Ar.new1 w _ _ _⟩
  rw [← hw2]
  clear hw2 hsA
  have r1 := rangeA Z2.out.2.1
  go_wp2_with (first | refine wpList_load_mid rfl 24 (.tmp 1) rfl _ _ rfl (A.toList) _ r1 Go.Proofs.Ytbdgmkejmfjobaa.u25 rfl iA ?_)
  go_at_call 69
  refine (HK.out.1 _).mono ?_
  rintro r w3 ⟨rfl, hc3⟩
  go_wp2_with fail
  go_at_call 68
  refine (HK.out.2 _).mono ?_
  rintro r w4 ⟨rfl, hc4⟩
  have Z4 : Hid (Chg w w4 ∧ Ar w4 (w.heap.size + 1) Z0) := ⟨(Z2.out.1.trans hc3).trans hc4, (Z2.out.2.2.chg hc3).chg hc4⟩
  clear hc3 hc4 r1 Z2
  obtain ⟨t3, g3⟩ := Z4.out.2
  go_wp2_with (first | refine wpList_store_row rfl 40 _ _ rfl _ _ rfl rfl _ _ g3 sR lR oR ?_)
  refine bp_c (n := 32) (c := ANS) Try.results49 rfl rfl ?_ un37 zero37.2 (by rw [HANS.out]; exact byt_size _) ⟨rfl, ?_⟩
  · exact Z4.out.2.row _
  · exact Z4.out.1.setRow (by omega) _
end Go.Proofs.Ytbdgmkejmfjobaa
