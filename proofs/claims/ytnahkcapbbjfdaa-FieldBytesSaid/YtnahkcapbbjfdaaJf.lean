/-
  Numbers as bytes, the program's and the document's.
  Bytes turned.
  A number of bytes.
  What a slice of bytes holds, what a call may have changed, and the one law on append by which all walks of this seat go.
  Whatever many bytes as a number, the document's way.
  Whatever many bytes as a number, the program's way.
  Whatever many bytes as a number, the program's way: the walk.
  No bytes as a number.
  Bytes compared; the ways back.
  Slices of bytes: what Wide makes of them.
  Numbers and bytes, the program's and the document's: the law, walked.
  Slices of bytes among the arguments, opened; proved: FieldBytes.
-/
import Derived.Test.YtnahkcapbbjfdaaJa
import Derived.Test.YtnahkcapbbjfdaaProg
import Derived.WalkKit
import Derived.WalkSpells
import Derived.WalkLawsBesides
import Derived.Test.YtnahkcapbbjfdaaJc
import Derived.Test.YtnahkcapbbjfdaaRgo
import Derived.Test.YtnahkcapbbjfdaaLw
import Derived.Test.YtnahkcapbbjfdaaRt1
import Derived.Test.YtnahkcapbbjfdaaHd
import Derived.OwnWalk
import Derived.Test.YtnahkcapbbjfdaaArg
namespace Go.Proofs.Ytnahkcapbbjfdaa
open Go.RowKit
set_option linter.unusedVariables false

/-- Thirty-two bytes. -/
def byt (d : Nat → Int) : Array Value := arr .u8 32 d
theorem byt_size (d : Nat → Int) : (byt d).size = 32 := arr_size _ _ _
theorem zero37 : (∀ w, (zeroValue 37).run Try.prog w = .ok (.agg (byt zD)) w) ∧ (Try.prog.info? 37).map (·.size) = some 32 := zero_of_info (by kernel_rfl)
theorem szY (d : Nat → Int) : (Try.prog.info? 37).map (·.size) = some (byt d).size := by rw [byt_size]; exact zero37.2
theorem lenY (d e : Nat → Int) : (byt d).size = (byt e).size := by rw [byt_size, byt_size]
theorem oneY (d : Nat → Int) : (byt d).all (·.oneCell') = true := arr_one _ _ _
theorem infoY (d : Nat → Int) : (Try.prog.info? 37).map (·.size) = some (byt d).toList.length := by rw [Array.length_toList]; exact szY d
theorem un37 : Try.prog.underlying 37 = some (.array 32 5) := by kernel_rfl
theorem dg_byte (x : Int) (q t : Nat) (ht : t < 8) : dg B64 x q / 2 ^ (8 * t) % 256 = dg 256 x (8 * q + t) := by
  unfold dg
  have e1 : (256 : Int) ^ (8 * q + t) = B64 ^ q * 2 ^ (8 * t) := by rw [Int.pow_add, Int.pow_mul, Int.pow_mul]; rfl
  rw [e1, ← Int.ediv_ediv_of_nonneg (Int.le_of_lt (pow_pos' B64_pos q))]
  generalize x / B64 ^ q = y
  obtain ⟨k, hk⟩ : ∃ k : Nat, 64 = 8 * t + (k + 8) := ⟨56 - 8 * t, by omega⟩
  have e2 : B64 = 2 ^ (8 * t) * (256 * 2 ^ k) := by
    have : (2 : Int) ^ 64 = 2 ^ (8 * t) * (256 * 2 ^ k) := by rw [hk, Int.pow_add, Int.pow_add 2 k 8, Int.mul_comm (2 ^ k)]; rfl
    rw [← this]
    rfl
  have hp : (0 : Int) < 2 ^ (8 * t) := Int.pow_pos (by decide)
  rw [e2]
  generalize (2 : Int) ^ (8 * t) = c at *
  generalize (2 : Int) ^ k = m
  have hy : y = y % (c * (256 * m)) + c * (256 * m * (y / (c * (256 * m)))) := by
    have := Int.emod_add_mul_ediv y (c * (256 * m))
    rw [Int.mul_assoc c (256 * m)] at this
    exact this.symm
  generalize y % (c * (256 * m)) = r at *
  generalize y / (c * (256 * m)) = s at *
  rw [hy, Int.add_mul_ediv_left _ _ (by omega), Int.mul_assoc 256 m s, Int.add_mul_emod_self_left]
theorem mixY_all (s d : Nat → Int) : arr .u8 32 (mixD 32 s d) = arr .u8 32 s := arr_congr fun i hi => by simp [mixD, hi]
theorem upd_self (s : Nat → Int) (i : Nat) : upd s i (s i) = s := by
  funext j
  unfold upd
  by_cases h : j = i
  · rw [if_pos h, h]
  · rw [if_neg h]

set_option maxRecDepth 100000 in
set_option maxHeartbeats 16000000 in
theorem toLE_any (x : Int) (w : World) : Calls Try.prog 31 #[.agg (num x)] w fun r w' => r = .returned (.agg (byt (dg 256 x))) ∧ Chg w w' := by
  have hz := zero37.1
  have hsA := num_size x
  obtain ⟨A, hA⟩ : ∃ A, A = num x := ⟨_, rfl⟩
  have HA : Hid (A = num x) := hA
  obtain ⟨ANS, hANS⟩ : ∃ A, A = byt (dg 256 x) := ⟨_, rfl⟩
  have HANS : Hid (ANS = byt (dg 256 x)) := hANS
  obtain ⟨Z0, hZ0⟩ : ∃ A, A = byt zD := ⟨_, rfl⟩
  have HZ0 : Hid (Z0 = byt zD) := hZ0
  have sR := szY (dg 256 x)
  have lR := lenY zD (dg 256 x)
  have oR := oneY (dg 256 x)
  rw [← hANS] at sR lR oR ⊢
  rw [← hZ0] at lR hz
  rw [← hA] at hsA ⊢
  clear hA hANS hZ0
  go_enter Try.func31, Try.ntmps31
  go_wp2_with fail
  obtain ⟨w2, hw2⟩ : ∃ w2, w2 = ((w.alloc (.cells A 25)).alloc (.cells Z0 37)).alloc (.cells Z0 37) := ⟨_, rfl⟩
  have Z2 : Hid (Chg w w2 ∧ Ar w2 w.heap.size (num x) ∧ Ar w2 (w.heap.size + 1) Z0 ∧ Ar w2 (w.heap.size + 1 + 1) (arr .u8 32 (mixD 0 (dg 256 x) zD))) := by
    rw [hw2, HA.out, mixD_zero, HZ0.out]
    exact ⟨(((Chg.refl w).alloc _).alloc _).alloc _, ((Ar.new w _ _).alloc _).alloc _, (Ar.new1 w _ _ _).alloc _, Ar.new2 w _ _ _ _⟩
  rw [← hw2]
  clear hw2 hsA hz
  go_loopw [5] (fun v wr => ∃ (i : Nat), v = .int .i64 i ∧ i ≤ 32 ∧ Chg w wr ∧ Ar wr w.heap.size (num x) ∧ Ar wr (w.heap.size + 1) Z0 ∧ Ar wr (w.heap.size + 1 + 1) (arr .u8 32 (mixD i (dg 256 x) zD))) (fun v wr => 32 - (intOf v).toNat)
  case atStart => exact ⟨0, rfl, by omega, Z2.out⟩
  case round =>
    clear Z2
    obtain ⟨i, rfl, hi, hch, h1, h2, h3⟩ := hrel
    have H : Hid (Chg w wr ∧ Ar wr w.heap.size (num x) ∧ Ar wr (w.heap.size + 1) Z0 ∧ Ar wr (w.heap.size + 1 + 1) (arr .u8 32 (mixD i (dg 256 x) zD))) := ⟨hch, h1, h2, h3⟩
    by_cases h32 : i < 32
    · have hdi : decide ((i : Int) < 32) = true := by simp; omega
      have li : (i : Int) < 32 := by omega
      obtain ⟨q, hq⟩ : ∃ q : Nat, (i : Int).tdiv 8 = q := ⟨i / 8, by rw [Int.tdiv_eq_ediv_of_nonneg (by omega)]; omega⟩
      obtain ⟨s, hs⟩ : ∃ t : Nat, (i : Int).tmod 8 = t := ⟨i % 8, by rw [Int.tmod_eq_emod_of_nonneg (by omega)]; omega⟩
      have hq' : q = i / 8 := by rw [Int.tdiv_eq_ediv_of_nonneg (by omega)] at hq; omega
      have hs' : s = i % 8 := by rw [Int.tmod_eq_emod_of_nonneg (by omega)] at hs; omega
      obtain ⟨n, hn⟩ : ∃ n : Nat, (s : Int) * 8 = n := ⟨8 * s, by omega⟩
      have hn2 : 8 * (s : Int) = n := by omega
      have hn' : n = 8 * s := by omega
      have wq := wrap_i (x := (q : Int)) (by omega) (by omega)
      have wt := wrap_i (x := (s : Int)) (by omega) (by omega)
      have wn := wrap_i (x := (n : Int)) (by omega) (by omega)
      have ln : ¬ (n : Int) < 0 := by omega
      have ln64 : n < 64 := by omega
      have lq : (q : Int) < 4 := by omega
      have lq' : q < 4 := by omega
      have eb := dg_byte x q s (by omega)
      rw [show 8 * q + s = i by omega, ← hn'] at eb
      have c1 : wr.cell? ⟨w.heap.size, q, none⟩ = some (.int .u64 (dg B64 x q)) := (h1.cell q).trans (arr_get _ _ _ lq')
      obtain ⟨d, hd⟩ : ∃ d, d = dg B64 x q := ⟨_, rfl⟩
      obtain ⟨y, hy⟩ : ∃ y, y = dg 256 x i := ⟨_, rfl⟩
      rw [← hd, ← hy] at eb
      rw [← hd] at c1
      have wy : IntKind.u8.wrap (d / 2 ^ n) = y := by rw [IntKind.wrap_u8]; exact eb
      have HY : Hid (y = dg 256 x i) := hy
      have f3 := h3.frozen i
      have c3 := (h3.cell i).trans (arr_get .u8 32 _ h32)
      clear hch h1 h2 h3 hq' hs' hn' eb hd hy
      go_wp2_with fail
      go_roundw
      case rel =>
        obtain ⟨k0, k1, k2, k3⟩ := H.out
        have hh := k3.set i (.int .u8 y)
        rw [arr_set, mixD_upd, HY.out, upd_self] at hh
        refine ⟨i + 1, by go_num, by omega, k0.setCell (by dsimp only; omega) _, k1.other (by dsimp only; omega) _, k2.other (by dsimp only; omega) _, ?_⟩
        rw [HY.out]
        exact hh
      case measure => simp [intOf]; omega
    · have : i = 32 := by omega
      subst this
      have hx3 : Ar wr (w.heap.size + 1 + 1) ANS := by
        rw [mixY_all] at h3
        rw [HANS.out]
        exact h3
      obtain ⟨t1, g1⟩ := hx3
      obtain ⟨t3, g3⟩ := h2
      clear hch h1 h3
      go_wp2_with (first | refine wpList_load_row rfl 37 _ rfl _ rfl _ _ _ _ g1 un37 rfl sR ?_ | refine wpList_store_row rfl 37 _ _ rfl _ _ rfl rfl _ _ g3 sR lR oR ?_)
      refine bp_c (n := 32) (c := ANS) Try.results31 rfl rfl ?_ un37 zero37.2 (by rw [HANS.out]; exact byt_size _) ⟨rfl, ?_⟩
      · exact H.out.2.2.1.row _
      · exact H.out.1.setRow (by omega) _
end Go.Proofs.Ytnahkcapbbjfdaa

namespace Go.Proofs.Ytnahkcapbbjfdaa
open Go.RowKit
set_option linter.unusedVariables false

set_option maxRecDepth 100000 in
set_option maxHeartbeats 16000000 in
theorem toLER_any (x : Int) (w : World) : Calls Try.prog 32 #[.agg (num x)] w fun r w' => r = .returned (.agg (byt (dg 256 x))) ∧ Chg w w' := by
  have hz := zero37.1
  have hsA := num_size x
  obtain ⟨A, hA⟩ : ∃ A, A = num x := ⟨_, rfl⟩
  have HA : Hid (A = num x) := hA
  obtain ⟨ANS, hANS⟩ : ∃ A, A = byt (dg 256 x) := ⟨_, rfl⟩
  have HANS : Hid (ANS = byt (dg 256 x)) := hANS
  obtain ⟨Z0, hZ0⟩ : ∃ A, A = byt zD := ⟨_, rfl⟩
  have HZ0 : Hid (Z0 = byt zD) := hZ0
  have sR := szY (dg 256 x)
  have lR := lenY zD (dg 256 x)
  have oR := oneY (dg 256 x)
  rw [← hANS] at sR lR oR ⊢
  rw [← hZ0] at lR hz
  rw [← hA] at hsA ⊢
  clear hA hANS hZ0
  go_enter Try.func32, Try.ntmps32
  go_wp2_with fail
  obtain ⟨w2, hw2⟩ : ∃ w2, w2 = ((w.alloc (.cells A 25)).alloc (.cells Z0 37)).alloc (.cells Z0 37) := ⟨_, rfl⟩
  have Z2 : Hid (Chg w w2 ∧ Ar w2 w.heap.size (num x) ∧ Ar w2 (w.heap.size + 1) Z0 ∧ Ar w2 (w.heap.size + 1 + 1) (arr .u8 32 (mixD 0 (dg 256 x) zD))) := by
    rw [hw2, HA.out, mixD_zero, HZ0.out]
    exact ⟨(((Chg.refl w).alloc _).alloc _).alloc _, ((Ar.new w _ _).alloc _).alloc _, (Ar.new1 w _ _ _).alloc _, Ar.new2 w _ _ _ _⟩
  rw [← hw2]
  clear hw2 hsA hz
  go_loopw [4] (fun v wr => ∃ (i : Nat), v = .int .i64 i ∧ i ≤ 32 ∧ Chg w wr ∧ Ar wr w.heap.size (num x) ∧ Ar wr (w.heap.size + 1) Z0 ∧ Ar wr (w.heap.size + 1 + 1) (arr .u8 32 (mixD i (dg 256 x) zD))) (fun v wr => 32 - (intOf v).toNat)
  case atStart => exact ⟨0, rfl, by omega, Z2.out⟩
  case round =>
    clear Z2
    obtain ⟨i, rfl, hi, hch, h1, h2, h3⟩ := hrel
    have H : Hid (Chg w wr ∧ Ar wr w.heap.size (num x) ∧ Ar wr (w.heap.size + 1) Z0 ∧ Ar wr (w.heap.size + 1 + 1) (arr .u8 32 (mixD i (dg 256 x) zD))) := ⟨hch, h1, h2, h3⟩
    by_cases h32 : i < 32
    · have hdi : decide ((i : Int) < 32) = true := by simp; omega
      have li : (i : Int) < 32 := by omega
      obtain ⟨q, hq⟩ : ∃ q : Nat, (i : Int).tdiv 8 = q := ⟨i / 8, by rw [Int.tdiv_eq_ediv_of_nonneg (by omega)]; omega⟩
      obtain ⟨s, hs⟩ : ∃ t : Nat, (i : Int).tmod 8 = t := ⟨i % 8, by rw [Int.tmod_eq_emod_of_nonneg (by omega)]; omega⟩
      have hq' : q = i / 8 := by rw [Int.tdiv_eq_ediv_of_nonneg (by omega)] at hq; omega
      have hs' : s = i % 8 := by rw [Int.tmod_eq_emod_of_nonneg (by omega)] at hs; omega
      obtain ⟨n, hn⟩ : ∃ n : Nat, (s : Int) * 8 = n := ⟨8 * s, by omega⟩
      have hn2 : 8 * (s : Int) = n := by omega
      have hn' : n = 8 * s := by omega
      have wq := wrap_i (x := (q : Int)) (by omega) (by omega)
      have wt := wrap_i (x := (s : Int)) (by omega) (by omega)
      have wn := wrap_i (x := (n : Int)) (by omega) (by omega)
      have ln : ¬ (n : Int) < 0 := by omega
      have ln64 : n < 64 := by omega
      have lq : (q : Int) < 4 := by omega
      have lq' : q < 4 := by omega
      have eb := dg_byte x q s (by omega)
      rw [show 8 * q + s = i by omega, ← hn'] at eb
      have c1 : wr.cell? ⟨w.heap.size, q, none⟩ = some (.int .u64 (dg B64 x q)) := (h1.cell q).trans (arr_get _ _ _ lq')
      obtain ⟨d, hd⟩ : ∃ d, d = dg B64 x q := ⟨_, rfl⟩
      obtain ⟨y, hy⟩ : ∃ y, y = dg 256 x i := ⟨_, rfl⟩
      rw [← hd, ← hy] at eb
      rw [← hd] at c1
      have wy : IntKind.u8.wrap (d / 2 ^ n) = y := by rw [IntKind.wrap_u8]; exact eb
      have HY : Hid (y = dg 256 x i) := hy
      have f3 := h3.frozen i
      have c3 := (h3.cell i).trans (arr_get .u8 32 _ h32)
      clear hch h1 h2 h3 hq' hs' hn' eb hd hy
      go_wp2_with fail
      go_roundw
      case rel =>
        obtain ⟨k0, k1, k2, k3⟩ := H.out
        have hh := k3.set i (.int .u8 y)
        rw [arr_set, mixD_upd, HY.out, upd_self] at hh
        refine ⟨i + 1, by go_num, by omega, k0.setCell (by dsimp only; omega) _, k1.other (by dsimp only; omega) _, k2.other (by dsimp only; omega) _, ?_⟩
        rw [HY.out]
        exact hh
      case measure => simp [intOf]; omega
    · have : i = 32 := by omega
      subst this
      have hx3 : Ar wr (w.heap.size + 1 + 1) ANS := by
        rw [mixY_all] at h3
        rw [HANS.out]
        exact h3
      obtain ⟨t1, g1⟩ := hx3
      obtain ⟨t3, g3⟩ := h2
      clear hch h1 h3
      go_wp2_with (first | refine wpList_load_row rfl 37 _ rfl _ rfl _ _ _ _ g1 un37 rfl sR ?_ | refine wpList_store_row rfl 37 _ _ rfl _ _ rfl rfl _ _ g3 sR lR oR ?_)
      refine bp_c (n := 32) (c := ANS) Try.results32 rfl rfl ?_ un37 zero37.2 (by rw [HANS.out]; exact byt_size _) ⟨rfl, ?_⟩
      · exact H.out.2.2.1.row _
      · exact H.out.1.setRow (by omega) _
/-- The last first. -/
def tu (d : Nat → Int) : Nat → Int := fun i => d (31 - i)
theorem tu_tu (d : Nat → Int) : byt (tu (tu d)) = byt d := arr_congr fun i hi => by
  unfold tu
  rw [show 31 - (31 - i) = i by omega]

set_option maxRecDepth 100000 in
set_option maxHeartbeats 16000000 in
theorem turned_any (d : Nat → Int) (w : World) : Calls Try.prog 61 #[.agg (byt d)] w fun r w' => r = .returned (.agg (byt (tu d))) ∧ Chg w w' := by
  have hz := zero37.1
  have hsA := byt_size d
  obtain ⟨A, hA⟩ : ∃ A, A = byt d := ⟨_, rfl⟩
  have HA : Hid (A = byt d) := hA
  obtain ⟨ANS, hANS⟩ : ∃ A, A = byt (tu d) := ⟨_, rfl⟩
  have HANS : Hid (ANS = byt (tu d)) := hANS
  obtain ⟨Z0, hZ0⟩ : ∃ A, A = byt zD := ⟨_, rfl⟩
  have HZ0 : Hid (Z0 = byt zD) := hZ0
  have sR := szY (tu d)
  have lR := lenY zD (tu d)
  have oR := oneY (tu d)
  rw [← hANS] at sR lR oR ⊢
  rw [← hZ0] at lR hz
  rw [← hA] at hsA ⊢
  clear hA hANS hZ0
  go_enter Try.func61, Try.ntmps61
  go_wp2_with fail
  obtain ⟨w2, hw2⟩ : ∃ w2, w2 = ((w.alloc (.cells A 37)).alloc (.cells Z0 37)).alloc (.cells Z0 37) := ⟨_, rfl⟩
  have Z2 : Hid (Chg w w2 ∧ Ar w2 w.heap.size (byt d) ∧ Ar w2 (w.heap.size + 1) Z0 ∧ Ar w2 (w.heap.size + 1 + 1) (arr .u8 32 (mixD 0 (tu d) zD))) := by
    rw [hw2, HA.out, mixD_zero, HZ0.out]
    exact ⟨(((Chg.refl w).alloc _).alloc _).alloc _, ((Ar.new w _ _).alloc _).alloc _, (Ar.new1 w _ _ _).alloc _, Ar.new2 w _ _ _ _⟩
  rw [← hw2]
  clear hw2 hsA hz
  go_loopw [5] (fun v wr => ∃ (i : Nat), v = .int .i64 i ∧ i ≤ 32 ∧ Chg w wr ∧ Ar wr w.heap.size (byt d) ∧ Ar wr (w.heap.size + 1) Z0 ∧ Ar wr (w.heap.size + 1 + 1) (arr .u8 32 (mixD i (tu d) zD))) (fun v wr => 32 - (intOf v).toNat)
  case atStart => exact ⟨0, rfl, by omega, Z2.out⟩
  case round =>
    clear Z2
    obtain ⟨i, rfl, hi, hch, h1, h2, h3⟩ := hrel
    have H : Hid (Chg w wr ∧ Ar wr w.heap.size (byt d) ∧ Ar wr (w.heap.size + 1) Z0 ∧ Ar wr (w.heap.size + 1 + 1) (arr .u8 32 (mixD i (tu d) zD))) := ⟨hch, h1, h2, h3⟩
    by_cases h32 : i < 32
    · have hdi : decide ((i : Int) < 32) = true := by simp; omega
      have li : (i : Int) < 32 := by omega
      obtain ⟨q, hq⟩ : ∃ q : Nat, 31 - (i : Int) = q := ⟨31 - i, by omega⟩
      have hq' : q = 31 - i := by omega
      have wq := wrap_i (x := (q : Int)) (by omega) (by omega)
      have lq : (q : Int) < 32 := by omega
      have lq' : q < 32 := by omega
      have lq0 : (0 : Int) ≤ (q : Int) := by omega
      have c1 : wr.cell? ⟨w.heap.size, q, none⟩ = some (.int .u8 (d q)) := (h1.cell q).trans (arr_get _ _ _ lq')
      obtain ⟨y, hy⟩ : ∃ y, y = d q := ⟨_, rfl⟩
      rw [← hy] at c1
      have HY : Hid (y = tu d i) := by
        show y = d (31 - i)
        rw [hy, hq']
      have f3 := h3.frozen i
      have c3 := (h3.cell i).trans (arr_get .u8 32 _ h32)
      clear hch h1 h2 h3 hq' hy
      go_wp2_with fail
      go_roundw
      case rel =>
        obtain ⟨k0, k1, k2, k3⟩ := H.out
        have hh := k3.set i (.int .u8 y)
        rw [arr_set, mixD_upd, HY.out, upd_self] at hh
        refine ⟨i + 1, by go_num, by omega, k0.setCell (by dsimp only; omega) _, k1.other (by dsimp only; omega) _, k2.other (by dsimp only; omega) _, ?_⟩
        rw [HY.out]
        exact hh
      case measure => simp [intOf]; omega
    · have : i = 32 := by omega
      subst this
      have hx3 : Ar wr (w.heap.size + 1 + 1) ANS := by
        rw [mixY_all] at h3
        rw [HANS.out]
        exact h3
      obtain ⟨t1, g1⟩ := hx3
      obtain ⟨t3, g3⟩ := h2
      clear hch h1 h3
      go_wp2_with (first | refine wpList_load_row rfl 37 _ rfl _ rfl _ _ _ _ g1 un37 rfl sR ?_ | refine wpList_store_row rfl 37 _ _ rfl _ _ rfl rfl _ _ g3 sR lR oR ?_)
      refine bp_c (n := 32) (c := ANS) Try.results61 rfl rfl ?_ un37 zero37.2 (by rw [HANS.out]; exact byt_size _) ⟨rfl, ?_⟩
      · exact H.out.2.2.1.row _
      · exact H.out.1.setRow (by omega) _
set_option maxRecDepth 100000 in
set_option maxHeartbeats 16000000 in
theorem turnedR_any (d : Nat → Int) (w : World) : Calls Try.prog 62 #[.agg (byt d)] w fun r w' => r = .returned (.agg (byt (tu d))) ∧ Chg w w' := by
  have hz := zero37.1
  have hsA := byt_size d
  obtain ⟨A, hA⟩ : ∃ A, A = byt d := ⟨_, rfl⟩
  have HA : Hid (A = byt d) := hA
  obtain ⟨ANS, hANS⟩ : ∃ A, A = byt (tu d) := ⟨_, rfl⟩
  have HANS : Hid (ANS = byt (tu d)) := hANS
  obtain ⟨Z0, hZ0⟩ : ∃ A, A = byt zD := ⟨_, rfl⟩
  have HZ0 : Hid (Z0 = byt zD) := hZ0
  have sR := szY (tu d)
  have lR := lenY zD (tu d)
  have oR := oneY (tu d)
  rw [← hANS] at sR lR oR ⊢
  rw [← hZ0] at lR hz
  rw [← hA] at hsA ⊢
  clear hA hANS hZ0
  go_enter Try.func62, Try.ntmps62
  go_wp2_with fail
  obtain ⟨w2, hw2⟩ : ∃ w2, w2 = ((w.alloc (.cells A 37)).alloc (.cells Z0 37)).alloc (.cells Z0 37) := ⟨_, rfl⟩
  have Z2 : Hid (Chg w w2 ∧ Ar w2 w.heap.size (byt d) ∧ Ar w2 (w.heap.size + 1) Z0 ∧ Ar w2 (w.heap.size + 1 + 1) (arr .u8 32 (mixD 0 (tu d) zD))) := by
    rw [hw2, HA.out, mixD_zero, HZ0.out]
    exact ⟨(((Chg.refl w).alloc _).alloc _).alloc _, ((Ar.new w _ _).alloc _).alloc _, (Ar.new1 w _ _ _).alloc _, Ar.new2 w _ _ _ _⟩
  rw [← hw2]
  clear hw2 hsA hz
  go_loopw [4] (fun v wr => ∃ (i : Nat), v = .int .i64 i ∧ i ≤ 32 ∧ Chg w wr ∧ Ar wr w.heap.size (byt d) ∧ Ar wr (w.heap.size + 1) Z0 ∧ Ar wr (w.heap.size + 1 + 1) (arr .u8 32 (mixD i (tu d) zD))) (fun v wr => 32 - (intOf v).toNat)
  case atStart => exact ⟨0, rfl, by omega, Z2.out⟩
  case round =>
    clear Z2
    obtain ⟨i, rfl, hi, hch, h1, h2, h3⟩ := hrel
    have H : Hid (Chg w wr ∧ Ar wr w.heap.size (byt d) ∧ Ar wr (w.heap.size + 1) Z0 ∧ Ar wr (w.heap.size + 1 + 1) (arr .u8 32 (mixD i (tu d) zD))) := ⟨hch, h1, h2, h3⟩
    by_cases h32 : i < 32
    · have hdi : decide ((i : Int) < 32) = true := by simp; omega
      have li : (i : Int) < 32 := by omega
      obtain ⟨q, hq⟩ : ∃ q : Nat, 31 - (i : Int) = q := ⟨31 - i, by omega⟩
      have hq' : q = 31 - i := by omega
      have wq := wrap_i (x := (q : Int)) (by omega) (by omega)
      have lq : (q : Int) < 32 := by omega
      have lq' : q < 32 := by omega
      have lq0 : (0 : Int) ≤ (q : Int) := by omega
      have c1 : wr.cell? ⟨w.heap.size, q, none⟩ = some (.int .u8 (d q)) := (h1.cell q).trans (arr_get _ _ _ lq')
      obtain ⟨y, hy⟩ : ∃ y, y = d q := ⟨_, rfl⟩
      rw [← hy] at c1
      have HY : Hid (y = tu d i) := by
        show y = d (31 - i)
        rw [hy, hq']
      have f3 := h3.frozen i
      have c3 := (h3.cell i).trans (arr_get .u8 32 _ h32)
      clear hch h1 h2 h3 hq' hy
      go_wp2_with fail
      go_roundw
      case rel =>
        obtain ⟨k0, k1, k2, k3⟩ := H.out
        have hh := k3.set i (.int .u8 y)
        rw [arr_set, mixD_upd, HY.out, upd_self] at hh
        refine ⟨i + 1, by go_num, by omega, k0.setCell (by dsimp only; omega) _, k1.other (by dsimp only; omega) _, k2.other (by dsimp only; omega) _, ?_⟩
        rw [HY.out]
        exact hh
      case measure => simp [intOf]; omega
    · have : i = 32 := by omega
      subst this
      have hx3 : Ar wr (w.heap.size + 1 + 1) ANS := by
        rw [mixY_all] at h3
        rw [HANS.out]
        exact h3
      obtain ⟨t1, g1⟩ := hx3
      obtain ⟨t3, g3⟩ := h2
      clear hch h1 h3
      go_wp2_with (first | refine wpList_load_row rfl 37 _ rfl _ rfl _ _ _ _ g1 un37 rfl sR ?_ | refine wpList_store_row rfl 37 _ _ rfl _ _ rfl rfl _ _ g3 sR lR oR ?_)
      refine bp_c (n := 32) (c := ANS) Try.results62 rfl rfl ?_ un37 zero37.2 (by rw [HANS.out]; exact byt_size _) ⟨rfl, ?_⟩
      · exact H.out.2.2.1.row _
      · exact H.out.1.setRow (by omega) _
end Go.Proofs.Ytnahkcapbbjfdaa

namespace Go.Proofs.Ytnahkcapbbjfdaa
open Go.RowKit
set_option linter.unusedVariables false

def B8 (x : Int) : Prop := 0 ≤ x ∧ x < 256
theorem or_at {lo hi : Int} (n : Nat) (h1 : 0 ≤ lo ∧ lo < 2 ^ n) (h2 : 0 ≤ hi) (h3 : hi * 2 ^ n < 18446744073709551616) (hn : n < 64) : bits .or .u64 lo (hi * 2 ^ n) = lo + hi * 2 ^ n := by
  obtain ⟨a, rfl⟩ := Int.eq_ofNat_of_zero_le h1.1
  obtain ⟨b, rfl⟩ := Int.eq_ofNat_of_zero_le h2
  have h1' : a < 2 ^ n := by have := h1.2; exact_mod_cast this
  have e : ((b : Int) * 2 ^ n) = ((b * 2 ^ n : Nat) : Int) := by push_cast; rfl
  have h3' : b * 2 ^ n < 18446744073709551616 := by
    rw [e] at h3
    generalize b * 2 ^ n = z at h3
    omega
  have hp : 2 ^ n ≤ 2 ^ 63 := Nat.pow_le_pow_right (by decide) (by omega)
  rw [e, u64_or_nat a (b * 2 ^ n) (by omega) h3']
  have h4 : b * 2 ^ n ||| a = b * 2 ^ n + a := by
    have := Nat.shiftLeft_add_eq_or_of_lt (i := n) (b := a) h1' b
    rw [Nat.shiftLeft_eq] at this
    exact this.symm
  rw [Nat.or_comm, h4]
  push_cast
  omega
theorem pow256 (q t : Nat) : (256 : Int) ^ (8 * q + t) = B64 ^ q * 2 ^ (8 * t) := by rw [Int.pow_add, Int.pow_mul, Int.pow_mul]; rfl
theorem dg_small {V : Int} {q t : Nat} (hV : 0 ≤ V ∧ V < 256 ^ (8 * q + t)) (ht : t < 8) : 0 ≤ dg B64 V q ∧ dg B64 V q < 2 ^ (8 * t) ∧ dg B64 V q = V / B64 ^ q := by
  rw [pow256] at hV
  have hp := pow_pos' B64_pos q
  have h1 : V / B64 ^ q < 2 ^ (8 * t) := Int.ediv_lt_of_lt_mul hp (by rw [Int.mul_comm]; exact hV.2)
  have h0 : 0 ≤ V / B64 ^ q := Int.ediv_nonneg hV.1 (by omega)
  have h2 : (2 : Int) ^ (8 * t) ≤ 2 ^ 56 := by
    have : 2 ^ (8 * t) ≤ 2 ^ 56 := Nat.pow_le_pow_right (by decide) (by omega)
    exact_mod_cast this
  have e : dg B64 V q = V / B64 ^ q := by
    unfold dg
    exact Int.emod_eq_of_lt h0 (by have : (2 : Int) ^ 56 < B64 := by decide
                                   omega)
  rw [e]
  exact ⟨h0, h1, rfl⟩
theorem dg_put {V b : Int} {q t : Nat} (hV : 0 ≤ V ∧ V < 256 ^ (8 * q + t)) (hb : B8 b) (ht : t < 8) : upd (dg B64 V) q (dg B64 V q + b * 2 ^ (8 * t)) = dg B64 (V + b * 256 ^ (8 * q + t)) := by
  obtain ⟨s0, s1, s2⟩ := dg_small hV ht
  have hp := pow_pos' B64_pos q
  have hc : (0 : Int) < 2 ^ (8 * t) := Int.pow_pos (by decide)
  have h2 : (2 : Int) ^ (8 * t) ≤ 2 ^ 56 := by
    have : 2 ^ (8 * t) ≤ 2 ^ 56 := Nat.pow_le_pow_right (by decide) (by omega)
    exact_mod_cast this
  have hbc : b * 2 ^ (8 * t) ≤ 255 * 2 ^ (8 * t) := Int.mul_le_mul_of_nonneg_right (by have := hb.2; omega) (by omega)
  have hb0 : 0 ≤ b * 2 ^ (8 * t) := Int.mul_nonneg hb.1 (by omega)
  have e56 : (2 : Int) ^ 56 * 256 = B64 := by decide
  funext j
  unfold upd
  rw [pow256]
  by_cases hj : j = q
  · subst hj
    rw [if_pos rfl, s2]
    unfold dg
    rw [show V + b * (B64 ^ j * 2 ^ (8 * t)) = V + B64 ^ j * (b * 2 ^ (8 * t)) by rw [← Int.mul_assoc, Int.mul_comm b, Int.mul_assoc], Int.add_mul_ediv_left _ _ (by omega)]
    rw [s2] at s0 s1
    rw [Int.emod_eq_of_lt (by omega) (by omega)]
  · rw [if_neg hj]
    unfold dg
    by_cases hl : j < q
    · obtain ⟨k, rfl⟩ : ∃ k, q = j + (k + 1) := ⟨q - j - 1, by omega⟩
      have hpj := pow_pos' B64_pos j
      have e : b * (B64 ^ (j + (k + 1)) * 2 ^ (8 * t)) = B64 ^ j * (B64 * (B64 ^ k * (b * 2 ^ (8 * t)))) := by
        rw [Int.pow_add, Int.pow_succ]
        simp only [Int.mul_comm, Int.mul_left_comm, Int.mul_assoc]
      rw [e, Int.add_mul_ediv_left _ _ (by omega), Int.add_mul_emod_self_left]
    · obtain ⟨k, rfl⟩ : ∃ k, j = q + (k + 1) := ⟨j - q - 1, by omega⟩
      rw [Int.pow_add, ← Int.ediv_ediv_of_nonneg (by omega), ← Int.ediv_ediv_of_nonneg (by omega)]
      rw [show V + b * (B64 ^ q * 2 ^ (8 * t)) = V + B64 ^ q * (b * 2 ^ (8 * t)) by rw [← Int.mul_assoc, Int.mul_comm b, Int.mul_assoc], Int.add_mul_ediv_left _ _ (by omega)]
      rw [s2] at s0 s1
      have hk : (1 : Int) ≤ B64 ^ k := pow_pos' B64_pos k
      have hk2 : B64 ≤ B64 ^ (k + 1) := by
        rw [Int.pow_succ, Int.mul_comm]
        have : B64 * 1 ≤ B64 * B64 ^ k := Int.mul_le_mul_of_nonneg_left hk (by decide)
        omega
      rw [Int.ediv_eq_zero_of_lt s0 (by omega), Int.ediv_eq_zero_of_lt (by omega) (by omega)]
theorem val_b {d : Nat → Int} (hd : ∀ i, B8 (d i)) (n : Nat) : 0 ≤ val 256 n d ∧ val 256 n d < 256 ^ n := val_bound (by decide) fun i _ => hd i
theorem N_val {d : Nat → Int} (hd : ∀ i, B8 (d i)) : N256 (val 256 32 d) := by
  obtain ⟨h0, h1⟩ := val_b hd 32
  exact ⟨h0, by rw [show (256 : Int) ^ 32 = R256 from by decide +kernel] at h1; exact h1⟩

set_option maxRecDepth 100000 in
set_option maxHeartbeats 16000000 in
theorem fromLE_any (e : Nat → Int) (he : ∀ i, B8 (e i)) (w : World) : Calls Try.prog 33 #[.agg (byt e)] w fun r w' => r = .returned (.agg (num (val 256 32 e))) ∧ Chg w w' := by
  have HB : Hid (∀ i, B8 (e i)) := he
  have hz := zero25.1
  have hsA := byt_size e
  obtain ⟨A, hA⟩ : ∃ A, A = byt e := ⟨_, rfl⟩
  have HA : Hid (A = byt e) := hA
  obtain ⟨ANS, hANS⟩ : ∃ A, A = num (val 256 32 e) := ⟨_, rfl⟩
  have HANS : Hid (ANS = num (val 256 32 e)) := hANS
  obtain ⟨Z0, hZ0⟩ : ∃ A, A = num 0 := ⟨_, rfl⟩
  have HZ0 : Hid (Z0 = num 0) := hZ0
  have sR := szN (val 256 32 e)
  have lR := lenN 0 (val 256 32 e)
  have oR := num_one (val 256 32 e)
  rw [← hANS] at sR lR oR ⊢
  rw [← hZ0] at lR hz
  rw [← hA] at hsA ⊢
  clear hA hANS hZ0 he
  go_enter Try.func33, Try.ntmps33
  go_wp2_with fail
  obtain ⟨w2, hw2⟩ : ∃ w2, w2 = ((w.alloc (.cells A 37)).alloc (.cells Z0 25)).alloc (.cells Z0 25) := ⟨_, rfl⟩
  have Z2 : Hid (Chg w w2 ∧ Ar w2 w.heap.size (byt e) ∧ Ar w2 (w.heap.size + 1) Z0 ∧ Ar w2 (w.heap.size + 1 + 1) (arr .u64 4 (dg B64 (val 256 0 e)))) := by
    rw [hw2, HA.out, HZ0.out]
    exact ⟨(((Chg.refl w).alloc _).alloc _).alloc _, ((Ar.new w _ _).alloc _).alloc _, (Ar.new1 w _ _ _).alloc _, Ar.new2 w _ _ _ _⟩
  rw [← hw2]
  clear hw2 hsA hz
  go_loopw [5] (fun v wr => ∃ (i : Nat), v = .int .i64 i ∧ i ≤ 32 ∧ Chg w wr ∧ Ar wr w.heap.size (byt e) ∧ Ar wr (w.heap.size + 1) Z0 ∧ Ar wr (w.heap.size + 1 + 1) (arr .u64 4 (dg B64 (val 256 i e)))) (fun v wr => 32 - (intOf v).toNat)
  case atStart => exact ⟨0, rfl, by omega, Z2.out⟩
  case round =>
    clear Z2
    obtain ⟨i, rfl, hi, hch, h1, h2, h3⟩ := hrel
    have H : Hid (Chg w wr ∧ Ar wr w.heap.size (byt e) ∧ Ar wr (w.heap.size + 1) Z0 ∧ Ar wr (w.heap.size + 1 + 1) (arr .u64 4 (dg B64 (val 256 i e)))) := ⟨hch, h1, h2, h3⟩
    by_cases h32 : i < 32
    · have hdi : decide ((i : Int) < 32) = true := by simp; omega
      have li : (i : Int) < 32 := by omega
      obtain ⟨q, hq⟩ : ∃ q : Nat, (i : Int).tdiv 8 = q := ⟨i / 8, by rw [Int.tdiv_eq_ediv_of_nonneg (by omega)]; omega⟩
      obtain ⟨s, hs⟩ : ∃ t : Nat, (i : Int).tmod 8 = t := ⟨i % 8, by rw [Int.tmod_eq_emod_of_nonneg (by omega)]; omega⟩
      have hq' : q = i / 8 := by rw [Int.tdiv_eq_ediv_of_nonneg (by omega)] at hq; omega
      have hs' : s = i % 8 := by rw [Int.tmod_eq_emod_of_nonneg (by omega)] at hs; omega
      obtain ⟨n, hn⟩ : ∃ n : Nat, (s : Int) * 8 = n := ⟨8 * s, by omega⟩
      have hn2 : 8 * (s : Int) = n := by omega
      have hn' : n = 8 * s := by omega
      have wq := wrap_i (x := (q : Int)) (by omega) (by omega)
      have wt := wrap_i (x := (s : Int)) (by omega) (by omega)
      have wn := wrap_i (x := (n : Int)) (by omega) (by omega)
      have ln : ¬ (n : Int) < 0 := by omega
      have ln64 : n < 64 := by omega
      have lq : (q : Int) < 4 := by omega
      have lq' : q < 4 := by omega
      have hei := HB.out i
      have ei : i = 8 * q + s := by omega
      have hV := val_b HB.out i
      rw [show (256 : Int) ^ i = 256 ^ (8 * q + s) by rw [← ei]] at hV
      obtain ⟨s0, s1, -⟩ := dg_small hV (by omega)
      have hput := dg_put hV hei (by omega)
      rw [← hn'] at s1 hput
      have h56 : (2 : Int) ^ n ≤ 2 ^ 56 := by
        have : 2 ^ n ≤ 2 ^ 56 := Nat.pow_le_pow_right (by decide) (by omega)
        exact_mod_cast this
      have hpn : (0 : Int) < 2 ^ n := Int.pow_pos (by decide)
      have c1 : wr.cell? ⟨w.heap.size, i, none⟩ = some (.int .u8 (e i)) := (h1.cell i).trans (arr_get _ _ _ h32)
      have c3 : wr.cell? ⟨w.heap.size + 1 + 1, q, none⟩ = some (.int .u64 (dg B64 (val 256 i e) q)) := (h3.cell q).trans (arr_get _ _ _ lq')
      have hbc : e i * 2 ^ n ≤ 255 * 2 ^ n := Int.mul_le_mul_of_nonneg_right (by have := hei.2; omega) (by omega)
      have hb0 : 0 ≤ e i * 2 ^ n := Int.mul_nonneg hei.1 (by omega)
      have e56 : (2 : Int) ^ 56 * 256 = 18446744073709551616 := by decide
      have hor := or_at (lo := dg B64 (val 256 i e) q) (hi := e i) n ⟨s0, s1⟩ hei.1 (by omega) ln64
      have ws : IntKind.u64.wrap (e i * 2 ^ n) = e i * 2 ^ n := by rw [IntKind.wrap_u64]; omega
      have wm : (e i * 2 ^ n) % 2 ^ 64 = e i * 2 ^ n := Int.emod_eq_of_lt hb0 (by omega)
      have wc : IntKind.u64.wrap (e i) = e i := by have := hei.1; have := hei.2; rw [IntKind.wrap_u64]; omega
      obtain ⟨r, hr⟩ : ∃ r, dg B64 (val 256 i e) q + e i * 2 ^ n = r := ⟨_, rfl⟩
      have HR : Hid (upd (dg B64 (val 256 i e)) q r = dg B64 (val 256 (i + 1) e)) := by
        show upd (dg B64 (val 256 i e)) q r = dg B64 (val 256 i e + e i * 256 ^ i)
        rw [← hr, show (256 : Int) ^ i = 256 ^ (8 * q + s) by rw [← ei]]
        exact hput
      rw [hr] at hor
      have f3 := h3.frozen q
      obtain ⟨y, hy⟩ : ∃ y, y = e i := ⟨_, rfl⟩
      obtain ⟨d, hd⟩ : ∃ d, d = dg B64 (val 256 i e) q := ⟨_, rfl⟩
      obtain ⟨v, hv⟩ : ∃ v, v = y * 2 ^ n := ⟨_, rfl⟩
      rw [← hy] at c1 ws wc hor wm
      rw [← hd] at c3 hor
      rw [← hv] at hor
      have ws' : IntKind.u64.wrap (y * 2 ^ n) = v := by rw [ws, hv]
      have wm' : (y * 2 ^ n) % 2 ^ 64 = v := by rw [wm, hv]
      clear hch h1 h2 h3 hq' hs' hn' hei ei hV s0 s1 hput h56 hpn hbc hb0 e56 hr hy hd hv ws wm
      go_wp2_with fail
      go_region_with (fail)
      all_goals go_wp2
      all_goals
        go_roundw
        case rel =>
          obtain ⟨k0, k1, k2, k3⟩ := H.out
          have hh := k3.set q (.int .u64 r)
          rw [arr_set, HR.out] at hh
          exact ⟨i + 1, by go_num, by omega, k0.drew.setCell (by dsimp only; omega) _, k1.drew.other (by dsimp only; omega) _, k2.drew.other (by dsimp only; omega) _, hh⟩
        case measure => simp [intOf]; omega
    · have : i = 32 := by omega
      subst this
      have hx3 : Ar wr (w.heap.size + 1 + 1) ANS := by
        rw [HANS.out]
        exact h3
      obtain ⟨t1, g1⟩ := hx3
      obtain ⟨t3, g3⟩ := h2
      clear hch h1 h3
      go_wp2_with (first | refine wpList_load_row rfl 25 _ rfl _ rfl _ _ _ _ g1 Go.Proofs.Ytnahkcapbbjfdaa.u25 rfl sR ?_ | refine wpList_store_row rfl 25 _ _ rfl _ _ rfl rfl _ _ g3 sR lR oR ?_)
      refine bp_n (x := val 256 32 e) Try.results33 rfl rfl ?_ ⟨by rw [HANS.out], ?_⟩
      · rw [← HANS.out]
        exact H.out.2.2.1.row _
      · exact H.out.1.setRow (by omega) _
set_option maxRecDepth 100000 in
set_option maxHeartbeats 16000000 in
theorem fromLER_any (e : Nat → Int) (he : ∀ i, B8 (e i)) (w : World) : Calls Try.prog 34 #[.agg (byt e)] w fun r w' => r = .returned (.agg (num (val 256 32 e))) ∧ Chg w w' := by
  have HB : Hid (∀ i, B8 (e i)) := he
  have hz := zero25.1
  have hsA := byt_size e
  obtain ⟨A, hA⟩ : ∃ A, A = byt e := ⟨_, rfl⟩
  have HA : Hid (A = byt e) := hA
  obtain ⟨ANS, hANS⟩ : ∃ A, A = num (val 256 32 e) := ⟨_, rfl⟩
  have HANS : Hid (ANS = num (val 256 32 e)) := hANS
  obtain ⟨Z0, hZ0⟩ : ∃ A, A = num 0 := ⟨_, rfl⟩
  have HZ0 : Hid (Z0 = num 0) := hZ0
  have sR := szN (val 256 32 e)
  have lR := lenN 0 (val 256 32 e)
  have oR := num_one (val 256 32 e)
  rw [← hANS] at sR lR oR ⊢
  rw [← hZ0] at lR hz
  rw [← hA] at hsA ⊢
  clear hA hANS hZ0 he
  go_enter Try.func34, Try.ntmps34
  go_wp2_with fail
  obtain ⟨w2, hw2⟩ : ∃ w2, w2 = ((w.alloc (.cells A 37)).alloc (.cells Z0 25)).alloc (.cells Z0 25) := ⟨_, rfl⟩
  have Z2 : Hid (Chg w w2 ∧ Ar w2 w.heap.size (byt e) ∧ Ar w2 (w.heap.size + 1) Z0 ∧ Ar w2 (w.heap.size + 1 + 1) (arr .u64 4 (dg B64 (val 256 0 e)))) := by
    rw [hw2, HA.out, HZ0.out]
    exact ⟨(((Chg.refl w).alloc _).alloc _).alloc _, ((Ar.new w _ _).alloc _).alloc _, (Ar.new1 w _ _ _).alloc _, Ar.new2 w _ _ _ _⟩
  rw [← hw2]
  clear hw2 hsA hz
  go_loopw [4] (fun v wr => ∃ (i : Nat), v = .int .i64 i ∧ i ≤ 32 ∧ Chg w wr ∧ Ar wr w.heap.size (byt e) ∧ Ar wr (w.heap.size + 1) Z0 ∧ Ar wr (w.heap.size + 1 + 1) (arr .u64 4 (dg B64 (val 256 i e)))) (fun v wr => 32 - (intOf v).toNat)
  case atStart => exact ⟨0, rfl, by omega, Z2.out⟩
  case round =>
    clear Z2
    obtain ⟨i, rfl, hi, hch, h1, h2, h3⟩ := hrel
    have H : Hid (Chg w wr ∧ Ar wr w.heap.size (byt e) ∧ Ar wr (w.heap.size + 1) Z0 ∧ Ar wr (w.heap.size + 1 + 1) (arr .u64 4 (dg B64 (val 256 i e)))) := ⟨hch, h1, h2, h3⟩
    by_cases h32 : i < 32
    · have hdi : decide ((i : Int) < 32) = true := by simp; omega
      have li : (i : Int) < 32 := by omega
      obtain ⟨q, hq⟩ : ∃ q : Nat, (i : Int).tdiv 8 = q := ⟨i / 8, by rw [Int.tdiv_eq_ediv_of_nonneg (by omega)]; omega⟩
      obtain ⟨s, hs⟩ : ∃ t : Nat, (i : Int).tmod 8 = t := ⟨i % 8, by rw [Int.tmod_eq_emod_of_nonneg (by omega)]; omega⟩
      have hq' : q = i / 8 := by rw [Int.tdiv_eq_ediv_of_nonneg (by omega)] at hq; omega
      have hs' : s = i % 8 := by rw [Int.tmod_eq_emod_of_nonneg (by omega)] at hs; omega
      obtain ⟨n, hn⟩ : ∃ n : Nat, (s : Int) * 8 = n := ⟨8 * s, by omega⟩
      have hn2 : 8 * (s : Int) = n := by omega
      have hn' : n = 8 * s := by omega
      have wq := wrap_i (x := (q : Int)) (by omega) (by omega)
      have wt := wrap_i (x := (s : Int)) (by omega) (by omega)
      have wn := wrap_i (x := (n : Int)) (by omega) (by omega)
      have ln : ¬ (n : Int) < 0 := by omega
      have ln64 : n < 64 := by omega
      have lq : (q : Int) < 4 := by omega
      have lq' : q < 4 := by omega
      have hei := HB.out i
      have ei : i = 8 * q + s := by omega
      have hV := val_b HB.out i
      rw [show (256 : Int) ^ i = 256 ^ (8 * q + s) by rw [← ei]] at hV
      obtain ⟨s0, s1, -⟩ := dg_small hV (by omega)
      have hput := dg_put hV hei (by omega)
      rw [← hn'] at s1 hput
      have h56 : (2 : Int) ^ n ≤ 2 ^ 56 := by
        have : 2 ^ n ≤ 2 ^ 56 := Nat.pow_le_pow_right (by decide) (by omega)
        exact_mod_cast this
      have hpn : (0 : Int) < 2 ^ n := Int.pow_pos (by decide)
      have c1 : wr.cell? ⟨w.heap.size, i, none⟩ = some (.int .u8 (e i)) := (h1.cell i).trans (arr_get _ _ _ h32)
      have c3 : wr.cell? ⟨w.heap.size + 1 + 1, q, none⟩ = some (.int .u64 (dg B64 (val 256 i e) q)) := (h3.cell q).trans (arr_get _ _ _ lq')
      have hbc : e i * 2 ^ n ≤ 255 * 2 ^ n := Int.mul_le_mul_of_nonneg_right (by have := hei.2; omega) (by omega)
      have hb0 : 0 ≤ e i * 2 ^ n := Int.mul_nonneg hei.1 (by omega)
      have e56 : (2 : Int) ^ 56 * 256 = 18446744073709551616 := by decide
      have hor := or_at (lo := dg B64 (val 256 i e) q) (hi := e i) n ⟨s0, s1⟩ hei.1 (by omega) ln64
      have ws : IntKind.u64.wrap (e i * 2 ^ n) = e i * 2 ^ n := by rw [IntKind.wrap_u64]; omega
      have wm : (e i * 2 ^ n) % 2 ^ 64 = e i * 2 ^ n := Int.emod_eq_of_lt hb0 (by omega)
      have wc : IntKind.u64.wrap (e i) = e i := by have := hei.1; have := hei.2; rw [IntKind.wrap_u64]; omega
      obtain ⟨r, hr⟩ : ∃ r, dg B64 (val 256 i e) q + e i * 2 ^ n = r := ⟨_, rfl⟩
      have HR : Hid (upd (dg B64 (val 256 i e)) q r = dg B64 (val 256 (i + 1) e)) := by
        show upd (dg B64 (val 256 i e)) q r = dg B64 (val 256 i e + e i * 256 ^ i)
        rw [← hr, show (256 : Int) ^ i = 256 ^ (8 * q + s) by rw [← ei]]
        exact hput
      rw [hr] at hor
      have f3 := h3.frozen q
      obtain ⟨y, hy⟩ : ∃ y, y = e i := ⟨_, rfl⟩
      obtain ⟨d, hd⟩ : ∃ d, d = dg B64 (val 256 i e) q := ⟨_, rfl⟩
      obtain ⟨v, hv⟩ : ∃ v, v = y * 2 ^ n := ⟨_, rfl⟩
      rw [← hy] at c1 ws wc hor wm
      rw [← hd] at c3 hor
      rw [← hv] at hor
      have ws' : IntKind.u64.wrap (y * 2 ^ n) = v := by rw [ws, hv]
      have wm' : (y * 2 ^ n) % 2 ^ 64 = v := by rw [wm, hv]
      clear hch h1 h2 h3 hq' hs' hn' hei ei hV s0 s1 hput h56 hpn hbc hb0 e56 hr hy hd hv ws wm
      go_wp2_with fail
      go_region_with (fail)
      all_goals go_wp2
      all_goals
        go_roundw
        case rel =>
          obtain ⟨k0, k1, k2, k3⟩ := H.out
          have hh := k3.set q (.int .u64 r)
          rw [arr_set, HR.out] at hh
          exact ⟨i + 1, by go_num, by omega, k0.drew.setCell (by dsimp only; omega) _, k1.drew.other (by dsimp only; omega) _, k2.drew.other (by dsimp only; omega) _, hh⟩
        case measure => simp [intOf]; omega
    · have : i = 32 := by omega
      subst this
      have hx3 : Ar wr (w.heap.size + 1 + 1) ANS := by
        rw [HANS.out]
        exact h3
      obtain ⟨t1, g1⟩ := hx3
      obtain ⟨t3, g3⟩ := h2
      clear hch h1 h3
      go_wp2_with (first | refine wpList_load_row rfl 25 _ rfl _ rfl _ _ _ _ g1 Go.Proofs.Ytnahkcapbbjfdaa.u25 rfl sR ?_ | refine wpList_store_row rfl 25 _ _ rfl _ _ rfl rfl _ _ g3 sR lR oR ?_)
      refine bp_n (x := val 256 32 e) Try.results34 rfl rfl ?_ ⟨by rw [HANS.out], ?_⟩
      · rw [← HANS.out]
        exact H.out.2.2.1.row _
      · exact H.out.1.setRow (by omega) _
set_option maxRecDepth 100000 in
set_option maxHeartbeats 16000000 in
theorem toBE_any (x : Int) (w : World) : Calls Try.prog 35 #[.agg (num x)] w fun r w' => r = .returned (.agg (byt (tu (dg 256 x)))) ∧ Chg w w' := by
  have hz := zero37.1
  have hsA : (num x).size = 4 := arr_size _ _ _
  have iA : (Try.prog.info? 25).map (·.size) = some (num x).toList.length := infoN _
  obtain ⟨A, hA⟩ : ∃ A, A = num x := ⟨_, rfl⟩
  obtain ⟨M, hM⟩ : ∃ A, A = byt (dg 256 x) := ⟨_, rfl⟩
  obtain ⟨ANS, hANS⟩ : ∃ A, A = byt (tu (dg 256 x)) := ⟨_, rfl⟩
  have HANS : Hid (ANS = byt (tu (dg 256 x))) := hANS
  obtain ⟨Z0, hZ0⟩ : ∃ A, A = byt zD := ⟨_, rfl⟩
  have sR : (Try.prog.info? 37).map (·.size) = some (byt (tu (dg 256 x))).size := szY _
  have lR : (byt zD).size = (byt (tu (dg 256 x))).size := lenY _ _
  have oR : (byt (tu (dg 256 x))).all (·.oneCell') = true := oneY _
  have HK : Hid ((∀ u, Calls Try.prog 31 #[.agg A] u fun r w' => r = .returned (.agg M) ∧ Chg u w') ∧ (∀ u, Calls Try.prog 61 #[.agg M] u fun r w' => r = .returned (.agg ANS) ∧ Chg u w')) := by
    rw [hA, hM, hANS]
    exact ⟨fun u => toLE_any x u, fun u => turned_any _ u⟩
  rw [← hANS] at sR lR oR ⊢
  rw [← hZ0] at lR hz
  rw [← hA] at hsA iA ⊢
  clear hA hM hANS hZ0
  go_enter Try.func35, Try.ntmps35
  go_upto_region 1 with fail
  obtain ⟨w2, hw2⟩ : ∃ w2, w2 = (w.alloc (.cells A 25)).alloc (.cells Z0 37) := ⟨_, rfl⟩
  have Z2 : Hid (Chg w w2 ∧ Ar w2 w.heap.size A ∧ Ar w2 (w.heap.size + 1) Z0) := by
    rw [hw2]
    exact ⟨((Chg.refl w).alloc _).alloc _, (Ar.new w _ _).alloc _, Ar.new1 w _ _ _⟩
  rw [← hw2]
  clear hw2 hsA
  have r1 := rangeA Z2.out.2.1
  go_wp2_with (first | refine wpList_load_mid rfl 25 (.tmp 1) rfl _ _ rfl (A.toList) _ r1 Go.Proofs.Ytnahkcapbbjfdaa.u25 rfl iA ?_)
  go_at_call 31
  refine (HK.out.1 _).mono ?_
  rintro r w3 ⟨rfl, hc3⟩
  go_wp2_with fail
  go_at_call 61
  refine (HK.out.2 _).mono ?_
  rintro r w4 ⟨rfl, hc4⟩
  have Z4 : Hid (Chg w w4 ∧ Ar w4 (w.heap.size + 1) Z0) := ⟨(Z2.out.1.trans hc3).trans hc4, (Z2.out.2.2.chg hc3).chg hc4⟩
  clear hc3 hc4 r1 Z2
  obtain ⟨t3, g3⟩ := Z4.out.2
  go_wp2_with (first | refine wpList_store_row rfl 37 _ _ rfl _ _ rfl rfl _ _ g3 sR lR oR ?_)
  refine bp_c (n := 32) (c := ANS) Try.results35 rfl rfl ?_ un37 zero37.2 (by rw [HANS.out]; exact byt_size _) ⟨rfl, ?_⟩
  · exact Z4.out.2.row _
  · exact Z4.out.1.setRow (by omega) _
set_option maxRecDepth 100000 in
set_option maxHeartbeats 16000000 in
theorem toBER_any (x : Int) (w : World) : Calls Try.prog 36 #[.agg (num x)] w fun r w' => r = .returned (.agg (byt (tu (dg 256 x)))) ∧ Chg w w' := by
  have hz := zero37.1
  have hsA : (num x).size = 4 := arr_size _ _ _
  have iA : (Try.prog.info? 25).map (·.size) = some (num x).toList.length := infoN _
  obtain ⟨A, hA⟩ : ∃ A, A = num x := ⟨_, rfl⟩
  obtain ⟨M, hM⟩ : ∃ A, A = byt (dg 256 x) := ⟨_, rfl⟩
  obtain ⟨ANS, hANS⟩ : ∃ A, A = byt (tu (dg 256 x)) := ⟨_, rfl⟩
  have HANS : Hid (ANS = byt (tu (dg 256 x))) := hANS
  obtain ⟨Z0, hZ0⟩ : ∃ A, A = byt zD := ⟨_, rfl⟩
  have sR : (Try.prog.info? 37).map (·.size) = some (byt (tu (dg 256 x))).size := szY _
  have lR : (byt zD).size = (byt (tu (dg 256 x))).size := lenY _ _
  have oR : (byt (tu (dg 256 x))).all (·.oneCell') = true := oneY _
  have HK : Hid ((∀ u, Calls Try.prog 32 #[.agg A] u fun r w' => r = .returned (.agg M) ∧ Chg u w') ∧ (∀ u, Calls Try.prog 62 #[.agg M] u fun r w' => r = .returned (.agg ANS) ∧ Chg u w')) := by
    rw [hA, hM, hANS]
    exact ⟨fun u => toLER_any x u, fun u => turnedR_any _ u⟩
  rw [← hANS] at sR lR oR ⊢
  rw [← hZ0] at lR hz
  rw [← hA] at hsA iA ⊢
  clear hA hM hANS hZ0
  go_enter Try.func36, Try.ntmps36
  go_upto_region 1 with fail
  obtain ⟨w2, hw2⟩ : ∃ w2, w2 = (w.alloc (.cells A 25)).alloc (.cells Z0 37) := ⟨_, rfl⟩
  have Z2 : Hid (Chg w w2 ∧ Ar w2 w.heap.size A ∧ Ar w2 (w.heap.size + 1) Z0) := by
    rw [hw2]
    exact ⟨((Chg.refl w).alloc _).alloc _, (Ar.new w _ _).alloc _, Ar.new1 w _ _ _⟩
  rw [← hw2]
  clear hw2 hsA
  have r1 := rangeA Z2.out.2.1
  go_wp2_with (first | refine wpList_load_mid rfl 25 (.tmp 1) rfl _ _ rfl (A.toList) _ r1 Go.Proofs.Ytnahkcapbbjfdaa.u25 rfl iA ?_)
  go_at_call 32
  refine (HK.out.1 _).mono ?_
  rintro r w3 ⟨rfl, hc3⟩
  go_wp2_with fail
  go_at_call 62
  refine (HK.out.2 _).mono ?_
  rintro r w4 ⟨rfl, hc4⟩
  have Z4 : Hid (Chg w w4 ∧ Ar w4 (w.heap.size + 1) Z0) := ⟨(Z2.out.1.trans hc3).trans hc4, (Z2.out.2.2.chg hc3).chg hc4⟩
  clear hc3 hc4 r1 Z2
  obtain ⟨t3, g3⟩ := Z4.out.2
  go_wp2_with (first | refine wpList_store_row rfl 37 _ _ rfl _ _ rfl rfl _ _ g3 sR lR oR ?_)
  refine bp_c (n := 32) (c := ANS) Try.results36 rfl rfl ?_ un37 zero37.2 (by rw [HANS.out]; exact byt_size _) ⟨rfl, ?_⟩
  · exact Z4.out.2.row _
  · exact Z4.out.1.setRow (by omega) _
set_option maxRecDepth 100000 in
set_option maxHeartbeats 16000000 in
theorem fromBE_any (e : Nat → Int) (he : ∀ i, B8 (e i)) (w : World) : Calls Try.prog 37 #[.agg (byt e)] w fun r w' => r = .returned (.agg (num (val 256 32 (tu e)))) ∧ Chg w w' := by
  have hz := zero25.1
  have hsA : (byt e).size = 32 := arr_size _ _ _
  have iA : (Try.prog.info? 37).map (·.size) = some (byt e).toList.length := infoY _
  obtain ⟨A, hA⟩ : ∃ A, A = byt e := ⟨_, rfl⟩
  obtain ⟨M, hM⟩ : ∃ A, A = byt (tu e) := ⟨_, rfl⟩
  obtain ⟨ANS, hANS⟩ : ∃ A, A = num (val 256 32 (tu e)) := ⟨_, rfl⟩
  have HANS : Hid (ANS = num (val 256 32 (tu e))) := hANS
  obtain ⟨Z0, hZ0⟩ : ∃ A, A = num 0 := ⟨_, rfl⟩
  have sR : (Try.prog.info? 25).map (·.size) = some (num (val 256 32 (tu e))).size := szN _
  have lR : (num 0).size = (num (val 256 32 (tu e))).size := lenN _ _
  have oR : (num (val 256 32 (tu e))).all (·.oneCell') = true := num_one _
  have HK : Hid ((∀ u, Calls Try.prog 61 #[.agg A] u fun r w' => r = .returned (.agg M) ∧ Chg u w') ∧ (∀ u, Calls Try.prog 33 #[.agg M] u fun r w' => r = .returned (.agg ANS) ∧ Chg u w')) := by
    rw [hA, hM, hANS]
    exact ⟨fun u => turned_any e u, fun u => fromLE_any _ (fun i => he _) u⟩
  rw [← hANS] at sR lR oR ⊢
  rw [← hZ0] at lR hz
  rw [← hA] at hsA iA ⊢
  clear hA hM hANS hZ0 he
  go_enter Try.func37, Try.ntmps37
  go_upto_region 1 with fail
  obtain ⟨w2, hw2⟩ : ∃ w2, w2 = (w.alloc (.cells A 37)).alloc (.cells Z0 25) := ⟨_, rfl⟩
  have Z2 : Hid (Chg w w2 ∧ Ar w2 w.heap.size A ∧ Ar w2 (w.heap.size + 1) Z0) := by
    rw [hw2]
    exact ⟨((Chg.refl w).alloc _).alloc _, (Ar.new w _ _).alloc _, Ar.new1 w _ _ _⟩
  rw [← hw2]
  clear hw2 hsA
  have r1 := rangeA Z2.out.2.1
  go_wp2_with (first | refine wpList_load_mid rfl 37 (.tmp 1) rfl _ _ rfl (A.toList) _ r1 un37 rfl iA ?_)
  go_at_call 61
  refine (HK.out.1 _).mono ?_
  rintro r w3 ⟨rfl, hc3⟩
  go_wp2_with fail
  go_at_call 33
  refine (HK.out.2 _).mono ?_
  rintro r w4 ⟨rfl, hc4⟩
  have Z4 : Hid (Chg w w4 ∧ Ar w4 (w.heap.size + 1) Z0) := ⟨(Z2.out.1.trans hc3).trans hc4, (Z2.out.2.2.chg hc3).chg hc4⟩
  clear hc3 hc4 r1 Z2
  obtain ⟨t3, g3⟩ := Z4.out.2
  go_wp2_with (first | refine wpList_store_row rfl 25 _ _ rfl _ _ rfl rfl _ _ g3 sR lR oR ?_)
  refine bp_n (x := val 256 32 (tu e)) Try.results37 rfl rfl ?_ ⟨by rw [HANS.out], ?_⟩
  · rw [← HANS.out]
    exact Z4.out.2.row _
  · exact Z4.out.1.setRow (by omega) _
set_option maxRecDepth 100000 in
set_option maxHeartbeats 16000000 in
theorem fromBER_any (e : Nat → Int) (he : ∀ i, B8 (e i)) (w : World) : Calls Try.prog 38 #[.agg (byt e)] w fun r w' => r = .returned (.agg (num (val 256 32 (tu e)))) ∧ Chg w w' := by
  have hz := zero25.1
  have hsA : (byt e).size = 32 := arr_size _ _ _
  have iA : (Try.prog.info? 37).map (·.size) = some (byt e).toList.length := infoY _
  obtain ⟨A, hA⟩ : ∃ A, A = byt e := ⟨_, rfl⟩
  obtain ⟨M, hM⟩ : ∃ A, A = byt (tu e) := ⟨_, rfl⟩
  obtain ⟨ANS, hANS⟩ : ∃ A, A = num (val 256 32 (tu e)) := ⟨_, rfl⟩
  have HANS : Hid (ANS = num (val 256 32 (tu e))) := hANS
  obtain ⟨Z0, hZ0⟩ : ∃ A, A = num 0 := ⟨_, rfl⟩
  have sR : (Try.prog.info? 25).map (·.size) = some (num (val 256 32 (tu e))).size := szN _
  have lR : (num 0).size = (num (val 256 32 (tu e))).size := lenN _ _
  have oR : (num (val 256 32 (tu e))).all (·.oneCell') = true := num_one _
  have HK : Hid ((∀ u, Calls Try.prog 62 #[.agg A] u fun r w' => r = .returned (.agg M) ∧ Chg u w') ∧ (∀ u, Calls Try.prog 34 #[.agg M] u fun r w' => r = .returned (.agg ANS) ∧ Chg u w')) := by
    rw [hA, hM, hANS]
    exact ⟨fun u => turnedR_any e u, fun u => fromLER_any _ (fun i => he _) u⟩
  rw [← hANS] at sR lR oR ⊢
  rw [← hZ0] at lR hz
  rw [← hA] at hsA iA ⊢
  clear hA hM hANS hZ0 he
  go_enter Try.func38, Try.ntmps38
  go_upto_region 1 with fail
  obtain ⟨w2, hw2⟩ : ∃ w2, w2 = (w.alloc (.cells A 37)).alloc (.cells Z0 25) := ⟨_, rfl⟩
  have Z2 : Hid (Chg w w2 ∧ Ar w2 w.heap.size A ∧ Ar w2 (w.heap.size + 1) Z0) := by
    rw [hw2]
    exact ⟨((Chg.refl w).alloc _).alloc _, (Ar.new w _ _).alloc _, Ar.new1 w _ _ _⟩
  rw [← hw2]
  clear hw2 hsA
  have r1 := rangeA Z2.out.2.1
  go_wp2_with (first | refine wpList_load_mid rfl 37 (.tmp 1) rfl _ _ rfl (A.toList) _ r1 un37 rfl iA ?_)
  go_at_call 62
  refine (HK.out.1 _).mono ?_
  rintro r w3 ⟨rfl, hc3⟩
  go_wp2_with fail
  go_at_call 34
  refine (HK.out.2 _).mono ?_
  rintro r w4 ⟨rfl, hc4⟩
  have Z4 : Hid (Chg w w4 ∧ Ar w4 (w.heap.size + 1) Z0) := ⟨(Z2.out.1.trans hc3).trans hc4, (Z2.out.2.2.chg hc3).chg hc4⟩
  clear hc3 hc4 r1 Z2
  obtain ⟨t3, g3⟩ := Z4.out.2
  go_wp2_with (first | refine wpList_store_row rfl 25 _ _ rfl _ _ rfl rfl _ _ g3 sR lR oR ?_)
  refine bp_n (x := val 256 32 (tu e)) Try.results38 rfl rfl ?_ ⟨by rw [HANS.out], ?_⟩
  · rw [← HANS.out]
    exact Z4.out.2.row _
  · exact Z4.out.1.setRow (by omega) _
end Go.Proofs.Ytnahkcapbbjfdaa

namespace Go.Proofs.Ytnahkcapbbjfdaa.Ap
open Go.RowKit

/-- Below the old size only blocks of S may have changed. -/
structure Chg (S : Nat → Prop) (w w' : World) : Prop where
  os : w'.os = w.os
  tape : w'.tape = w.tape
  output : w'.output = w.output
  size : w.heap.size ≤ w'.heap.size
  block : ∀ k, k < w.heap.size → ¬ S k → w'.heap[k]? = w.heap[k]?

def Non : Nat → Prop := fun _ => False
def One (r : Nat) : Nat → Prop := fun k => k = r

theorem Chg.refl (S : Nat → Prop) (w : World) : Chg S w w := ⟨rfl, rfl, rfl, Nat.le_refl _, fun _ _ _ => rfl⟩

theorem Chg.trans {S S' : Nat → Prop} {a b c : World} (h : Chg S a b) (k : Chg S' b c) (hS : ∀ i, i < a.heap.size → S' i → S i) : Chg S a c :=
  ⟨k.os.trans h.os, k.tape.trans h.tape, k.output.trans h.output, Nat.le_trans h.size k.size, fun i hi hn =>
    (k.block i (Nat.lt_of_lt_of_le hi h.size) (fun x => hn (hS i hi x))).trans (h.block i hi hn)⟩

theorem Chg.mono {S S' : Nat → Prop} {a b : World} (h : Chg S a b) (hS : ∀ i, i < a.heap.size → S i → S' i) : Chg S' a b :=
  ⟨h.os, h.tape, h.output, h.size, fun i hi hn => h.block i hi (fun x => hn (hS i hi x))⟩

theorem Chg.drew {S : Nat → Prop} {a b : World} (h : Chg S a b) : Chg S a b.drew := ⟨h.os, h.tape, h.output, h.size, h.block⟩

theorem Chg.of_grown {w w' : World} {row : Option Nat} (h : w.grownBy w' row) : Chg (fun k => row = some k) w w' :=
  ⟨h.os, h.tape, h.output, h.size, fun k hk hn => h.block k hk (fun e => hn e.symm)⟩

theorem Chg.of_none {w w' : World} (h : w.grownBy w' none) : Chg Non w w' :=
  ⟨h.os, h.tape, h.output, h.size, fun k hk _ => h.block k hk (fun e => by cases e)⟩

theorem Chg.alloc {S : Nat → Prop} {a w : World} (h : Chg S a w) (o : Obj) : Chg S a (w.alloc o) :=
  h.trans (S' := Non) ⟨rfl, rfl, rfl, by simp, fun k hk _ => Below.heap_alloc _ _ _ hk⟩ (fun _ _ x => x.elim)

theorem Chg.setCell {S : Nat → Prop} {a w : World} (h : Chg S a w) {p : Addr} (hp : p.block < a.heap.size → S p.block) (u : Value) : Chg S a (w.setCell p u) :=
  h.trans (S' := One p.block) ⟨rfl, rfl, rfl, by simp [World.setCell], fun k _ hn => Below.heap_setCell _ _ _ _ hn⟩ (fun _ hi x => by cases x; exact hp hi)

theorem Chg.below {S : Nat → Prop} {B : Nat} {a w : World} (h : Chg S a w) (hB : B ≤ a.heap.size) (hS : ∀ k, S k → B ≤ k) : Below B a w :=
  ⟨h.os, h.tape, h.output, h.size, fun k hk => h.block k (by omega) (fun x => by have := hS k x; omega)⟩

theorem Chg.non {a w : World} (h : Chg Non a w) (S : Nat → Prop) : Chg S a w := h.mono (fun _ _ x => x.elim)

/-- A slice of bytes that can be read: xs. -/
def Rd (w : World) (v : Value) (xs : List Int) : Prop :=
  ∃ ao n c, v = .slice ao n c ∧ n = xs.length ∧ n ≤ c ∧ c ≤ maxLen ∧ (ao = none → c = 0) ∧ ∀ x, ao = some x → ∀ j u, xs[j]? = some u → w.cell? (x.add j) = some (.int .u8 u)

theorem Rd.keep {w w' : World} {v : Value} {xs : List Int} (h : Rd w v xs) (hk : ∀ k, v.ownBlock = some k → k < w.heap.size → w'.heap[k]? = w.heap[k]?) : Rd w' v xs := by
  obtain ⟨ao, n, c, rfl, hn, hc, hmx, h0, hx⟩ := h
  refine ⟨ao, n, c, rfl, hn, hc, hmx, h0, fun x e j u hj => ?_⟩
  subst e
  have h1 := hx x rfl j u hj
  have hb : (x.add j).block = x.block := by unfold Addr.add; split <;> rfl
  rw [← h1]
  apply World.cell?_of_block
  rw [hb]
  exact hk _ rfl (by have := World.block_lt_of_cell? w _ h1; rwa [hb] at this)

theorem Rd.nil (w : World) : Rd w (.slice none 0 0) [] := ⟨none, 0, 0, rfl, rfl, Nat.le_refl _, by decide, fun _ => rfl, fun _ h => by cases h⟩

/-- The same without spare room: nil where nothing is in it. -/
def Tight (w : World) (v : Value) (xs : List Int) : Prop :=
  (v = .slice none 0 0 ∧ xs = []) ∨
  ∃ x n, v = .slice (some x) n n ∧ n = xs.length ∧ 0 < n ∧ n ≤ maxLen ∧ ∀ j u, xs[j]? = some u → w.cell? (x.add j) = some (.int .u8 u)

theorem Tight.rd {w : World} {v : Value} {xs : List Int} (h : Tight w v xs) : Rd w v xs := by
  rcases h with ⟨rfl, rfl⟩ | ⟨x, n, rfl, hn, h0, hmx, hx⟩
  · exact Rd.nil w
  · exact ⟨some x, n, n, rfl, hn, Nat.le_refl _, hmx, fun e => by (cases e), fun y e => by cases e; exact hx⟩

theorem Tight.shape {w : World} {v : Value} {xs : List Int} (h : Tight w v xs) : ∃ ao n, v = .slice ao n n := by
  rcases h with ⟨rfl, rfl⟩ | ⟨x, n, rfl, hn, h0, hmx, hx⟩
  · exact ⟨_, _, rfl⟩
  · exact ⟨_, _, rfl⟩

theorem Rd.shape {w : World} {v : Value} {xs : List Int} (h : Rd w v xs) : ∃ ao n c, v = .slice ao n c ∧ n = xs.length ∧ n ≤ c ∧ c ≤ maxLen := by
  obtain ⟨ao, n, c, rfl, hn, hc, hmx, h0, hx⟩ := h
  exact ⟨_, _, _, rfl, hn, hc, hmx⟩

theorem Tight.lt {w : World} {v : Value} {xs : List Int} (h : Tight w v xs) : ∀ k, v.ownBlock = some k → k < w.heap.size := by
  intro k hk
  rcases h with ⟨rfl, rfl⟩ | ⟨x, n, rfl, hn, h0, hmx, hx⟩
  · simp [Value.ownBlock] at hk
  · simp [Value.ownBlock] at hk
    subst hk
    have h1 := hx 0 (xs[0]'(by omega)) (by simp)
    have hb : (x.add 0).block = x.block := by unfold Addr.add; split <;> rfl
    have := World.block_lt_of_cell? w _ h1
    rwa [hb] at this

theorem Tight.keep {w w' : World} {v : Value} {xs : List Int} (h : Tight w v xs) (hk : ∀ k, v.ownBlock = some k → w'.heap[k]? = w.heap[k]?) : Tight w' v xs := by
  have hr := (h.rd.keep (w' := w') (fun k e _ => hk k e))
  rcases h with h | ⟨x, n, rfl, hn, h0, hmx, hx⟩
  · exact .inl h
  · obtain ⟨ao, n', c, e, hn', hc, _, _, hx'⟩ := hr
    cases e
    exact .inr ⟨x, n, rfl, hn, h0, hmx, hx' x rfl⟩

/-- A slice of bytes in a row of our own, from a place of it on, with its spare room. -/
structure Own (w : World) (g off n cap : Nat) (xs : List Int) : Prop where
  len : xs.length = n
  le : n ≤ cap
  mx : cap ≤ maxLen
  blk : ∃ cur : Array Value, w.heap[g]? = some (.cells cur 5 (0, 0)) ∧ off + cap ≤ cur.size ∧ (cur.toList.drop off).take n = xs.map (Value.int .u8)

def OwnV (w : World) (v : Value) (xs : List Int) : Prop :=
  (v = .slice none 0 0 ∧ xs = []) ∨ ∃ g off n cap, v = .slice (some ⟨g, off, none⟩) n cap ∧ Own w g off n cap xs

theorem Own.lt {w : World} {g off n cap : Nat} {xs : List Int} (h : Own w g off n cap xs) : g < w.heap.size := by
  obtain ⟨cur, hg, _⟩ := h.blk
  exact (Array.getElem?_eq_some_iff.1 hg).1

theorem Own.cell {w : World} {g off n cap : Nat} {xs : List Int} (h : Own w g off n cap xs) : ∀ j u, xs[j]? = some u → w.cell? ⟨g, off + j, none⟩ = some (.int .u8 u) := by
  intro j u hj
  obtain ⟨cur, hg, hs, ht⟩ := h.blk
  have hlt := (List.getElem?_eq_some_iff.1 hj).1
  have e : ((cur.toList.drop off).take n)[j]? = (xs.map (Value.int .u8))[j]? := by rw [ht]
  rw [List.getElem?_take, if_pos (by have := h.len; omega), List.getElem?_drop, List.getElem?_map, hj] at e
  rw [cell_of_row w g (off + j) cur 5 (0, 0) hg]
  simpa using e

theorem Own.rd {w : World} {g off n cap : Nat} {xs : List Int} (h : Own w g off n cap xs) : Rd w (.slice (some ⟨g, off, none⟩) n cap) xs :=
  ⟨_, _, _, rfl, h.len.symm, h.le, h.mx, fun e => by (cases e), fun x e j u hj => by cases e; rw [Addr.add_lit]; exact h.cell j u hj⟩

theorem OwnV.rd {w : World} {v : Value} {xs : List Int} (h : OwnV w v xs) : Rd w v xs := by
  rcases h with ⟨rfl, rfl⟩ | ⟨g, off, n, cap, rfl, h⟩
  · exact Rd.nil w
  · exact h.rd

theorem OwnV.lt {w : World} {v : Value} {xs : List Int} (h : OwnV w v xs) : ∀ k, v.ownBlock = some k → k < w.heap.size := by
  intro k hk
  rcases h with ⟨rfl, rfl⟩ | ⟨g, off, n, cap, rfl, h⟩
  · simp [Value.ownBlock] at hk
  · simp [Value.ownBlock] at hk
    subst hk
    exact h.lt

theorem Own.keep {w w' : World} {g off n cap : Nat} {xs : List Int} (h : Own w g off n cap xs) (hk : w'.heap[g]? = w.heap[g]?) : Own w' g off n cap xs :=
  ⟨h.len, h.le, h.mx, by rw [hk]; exact h.blk⟩

theorem OwnV.keep {w w' : World} {v : Value} {xs : List Int} (h : OwnV w v xs) (hk : ∀ k, v.ownBlock = some k → w'.heap[k]? = w.heap[k]?) : OwnV w' v xs := by
  rcases h with h | ⟨g, off, n, cap, rfl, h⟩
  · exact .inl h
  · exact .inr ⟨g, off, n, cap, rfl, h.keep (hk _ rfl)⟩

theorem Try.info5 : (Try.prog.info? 5).map (fun i => (i.zero, i.size, i.bytes)) = some (some (.int .u8 0), 1, 1) := by kernel_rfl

theorem run_first (w : World) (v : Value) (xs : List Int) (h : Rd w v xs) : (Builtin.firstCells 1 xs.length v).run Try.prog w = .ok (xs.map (Value.int .u8)).toArray w := by
  obtain ⟨ao, n, c, rfl, hn, hc, hmx, h0, hx⟩ := h
  cases ao with
  | none =>
    have : xs = [] := List.eq_nil_of_length_eq_zero (by have := h0 rfl; omega)
    subst this
    simp [Builtin.firstCells]
  | some x =>
    have := run_loadCells_list (P := Try.prog) w x (xs.map (Value.int .u8)) (fun j v hj => by
      rw [List.getElem?_map] at hj
      cases hu : xs[j]? with
      | none => rw [hu] at hj; cases hj
      | some u => rw [hu] at hj; cases hj; exact hx x rfl j u hu)
    simpa [Builtin.firstCells] using this

theorem Rd.drew {w : World} {v : Value} {xs : List Int} (h : Rd w v xs) : Rd w.drew v xs := h.keep (fun _ _ _ => rfl)

/-- append that must grow, of whatever can be read: a new row. -/
theorem run_grow (ty : TypeId) (w : World) (ao : Option Addr) (c : Nat) (s : Value) (xs ys : List Int) (hv : Rd w (.slice ao xs.length c) xs) (hs : Rd w s ys) (hb : xs.length + ys.length ≤ 140737488355328)
    (hr : ¬ xs.length + ys.length ≤ c) :
    ∃ v' w', (Builtin.append_ #[36, 36] ty #[.slice ao xs.length c, s]).run Try.prog w = .ok v' w' ∧ OwnV w' v' (xs ++ ys) ∧ Chg Non w w' ∧ v'.ownBlock = some w.heap.size := by
  obtain ⟨i, hi, hz, hsz, hby⟩ := info_parts Try.info5
  have ht := Try.underlying36
  have hfsd := run_first w.drew s ys hs.drew
  have hfv := run_first w.drew _ xs hv.drew
  obtain ⟨so, m, sc, rfl, hm, hmc, hsm, hs0, hsx⟩ := hs
  subst hm
  have hge := grownCap_ge w (xs.length + ys.length) c 5
  have hcm : grownCap w (xs.length + ys.length) c 5 ≤ maxLen := grownCap_le_maxLen w (xs.length + ys.length) c 5 (by unfold maxLen; omega)
  have hfit := growslice_fits (bytes := 1) (show c < xs.length + ys.length by omega) (by simpa using hb)
  rw [← hby] at hfit
  have h63' : ¬ (9223372036854775807 < ((xs.length : Int) + (ys.length : Int))) := by omega
  have h48' : ¬ (281474976710656 < Builtin.nextslicecap (xs.length + ys.length) c * i.bytes) := by omega
  refine ⟨.slice (some ⟨w.heap.size, 0, none⟩) (xs.length + ys.length) (grownCap w (xs.length + ys.length) c 5),
    w.drew.alloc (.cells (((xs ++ ys).map (Value.int .u8)).toArray ++ Builtin.zeroCells (Value.int .u8 0).cells (grownCap w (xs.length + ys.length) c 5 - (xs.length + ys.length))) 5), ?_,
    .inr ⟨w.heap.size, 0, _, _, rfl, ⟨by simp, hge, hcm, _, heap_alloc_new w.drew _, ?_, ?_⟩⟩, ⟨rfl, rfl, rfl, by simp, fun k hk _ => Below.heap_alloc w.drew _ k hk⟩, rfl⟩
  · simp [Builtin.append_, run_underlying ht, sizeOf, typeInfo, zeroValue, hi, hz, hsz, Builtin.lenOf, hr, h63', h48', Question.forced, hfsd, hfv, newRow, grownCap]
    congr 2
    apply Array.ext'
    simp
  · simp [size_zeroCells, Value.cells]; omega
  · simp only [List.drop_zero, Array.toList_append]
    rw [List.take_append_of_le_length (by simp), List.take_of_length_le (by simp)]

/-- append of nothing. -/
theorem run_nothing (ty : TypeId) (w : World) (v s : Value) (xs : List Int) (hv : Rd w v xs) (hs : Rd w s []) :
    (Builtin.append_ #[36, 36] ty #[v, s]).run Try.prog w = .ok v w := by
  obtain ⟨i, hi, hz, hsz, hby⟩ := info_parts Try.info5
  have ht := Try.underlying36
  have hfs := run_first w s [] hs
  obtain ⟨so, m, sc, rfl, hm, hmc, hsm, hs0, hsx⟩ := hs
  subst hm
  obtain ⟨ao, n, c, rfl, hn, hnc, hvm, hv0, hvx⟩ := hv
  simp only [List.length_nil] at hfs
  cases ao <;> simp [Builtin.append_, run_underlying ht, sizeOf, typeInfo, hi, Builtin.lenOf, hsz, hfs, hnc, storeCells]

/-- append where there is room. -/
theorem run_room (ty : TypeId) (w : World) (g off n cap : Nat) (s : Value) (xs ys : List Int) (h : Own w g off n cap xs) (hs : Rd w s ys) (hr : n + ys.length ≤ cap) :
    ∃ w', (Builtin.append_ #[36, 36] ty #[.slice (some ⟨g, off, none⟩) n cap, s]).run Try.prog w = .ok (.slice (some ⟨g, off, none⟩) (n + ys.length) cap) w' ∧ Own w' g off (n + ys.length) cap (xs ++ ys) ∧ Chg (One g) w w' := by
  obtain ⟨i, hi, hz, hsz, hby⟩ := info_parts Try.info5
  have ht := Try.underlying36
  have hfs := run_first w s ys hs
  obtain ⟨so, m, sc, rfl, hm, hmc, hsm, hs0, hsx⟩ := hs
  subst hm
  have hlen := h.len
  subst hlen
  obtain ⟨cur, hg, hsz', htk⟩ := h.blk
  have hst := run_storeCells_at Try.prog g (off + xs.length) 5 (ys.map (Value.int .u8)) 0 cur w hg (by simp; omega) (ints_oneCell _ _)
  simp only [Nat.add_zero] at hst
  refine ⟨w.setRow g (cur.toList.take (off + xs.length) ++ ys.map (Value.int .u8) ++ cur.toList.drop (off + xs.length + (ys.map (Value.int .u8)).length)).toArray, ?_, ⟨by simp, hr, h.mx, _, setRow_heap w g cur _ 5 _ hg, ?_, ?_⟩, ⟨rfl, rfl, rfl, by simp [World.setRow], fun k _ hk => setRow_other w g k _ hk⟩⟩
  · simp [Builtin.append_, run_underlying ht, sizeOf, typeInfo, hi, Builtin.lenOf, hsz, hfs, hr, Addr.add_lit, hst]
  · simp; omega
  · have hd : (cur.toList.take (off + xs.length)).drop off = xs.map (Value.int .u8) := by
      rw [List.drop_take]
      simpa using htk
    rw [List.append_assoc, List.drop_append_of_le_length (by simp; omega), hd, ← List.append_assoc, ← List.map_append]
    rw [List.take_append_of_le_length (by simp), List.take_of_length_le (by simp)]

/-- append, onto a row of our own, of whatever can be read. -/
theorem run_app (ty : TypeId) (w : World) (v s : Value) (xs ys : List Int) (hv : OwnV w v xs) (hs : Rd w s ys) (hb : xs.length + ys.length ≤ 140737488355328) :
    ∃ v' w', (Builtin.append_ #[36, 36] ty #[v, s]).run Try.prog w = .ok v' w' ∧ OwnV w' v' (xs ++ ys) ∧ Chg (fun k => v.ownBlock = some k) w w' ∧
      (v'.ownBlock = v.ownBlock ∨ v'.ownBlock = some w.heap.size) := by
  have hvr := hv.rd
  obtain ⟨ao, n, c, rfl, hn, hnc, hvm, hv0, hvx⟩ := hv.rd
  subst hn
  by_cases hr : xs.length + ys.length ≤ c
  · rcases hv with ⟨e, rfl⟩ | ⟨g, off, n, cap, e, h⟩
    · cases e
      have : ys = [] := List.eq_nil_of_length_eq_zero (by simpa using hr)
      subst this
      exact ⟨.slice none 0 0, w, run_nothing ty w _ s [] hvr hs, .inl ⟨rfl, rfl⟩, Chg.refl _ _, .inl rfl⟩
    · cases e
      obtain ⟨w', h1, h2, h3⟩ := run_room ty w g off xs.length c s xs ys h hs hr
      exact ⟨_, w', h1, .inr ⟨g, off, _, c, rfl, h2⟩, h3.mono (fun k _ e => by cases e; rfl), .inl rfl⟩
  · obtain ⟨v', w', h1, h2, h3, h4⟩ := run_grow ty w ao c s xs ys hvr hs hb hr
    exact ⟨v', w', h1, h2, h3.non _, .inr h4⟩

/-- append, onto what has no spare room: nothing old is written. -/
theorem run_tight (ty : TypeId) (w : World) (v s : Value) (xs ys : List Int) (hv : Tight w v xs) (hs : Rd w s ys) (hb : xs.length + ys.length ≤ 140737488355328) :
    ∃ v' w', (Builtin.append_ #[36, 36] ty #[v, s]).run Try.prog w = .ok v' w' ∧ Rd w' v' (xs ++ ys) ∧ Chg Non w w' ∧
      (v'.ownBlock = v.ownBlock ∨ v'.ownBlock = some w.heap.size) := by
  by_cases hy : ys = []
  · subst hy
    exact ⟨v, w, run_nothing ty w v s xs hv.rd hs, by simpa using hv.rd, Chg.refl _ _, .inl rfl⟩
  · have hpos : 0 < ys.length := List.length_pos_iff.2 hy
    have hvr := hv.rd
    rcases hv with ⟨rfl, rfl⟩ | ⟨x, n, rfl, hn, h0, hmx, hx⟩
    · obtain ⟨v', w', h1, h2, h3, h4⟩ := run_grow ty w none 0 s [] ys hvr hs hb (by simpa using hy)
      exact ⟨v', w', h1, h2.rd, h3, .inr h4⟩
    · subst hn
      obtain ⟨v', w', h1, h2, h3, h4⟩ := run_grow ty w (some x) xs.length s xs ys hvr hs hb (by omega)
      exact ⟨v', w', h1, h2.rd, h3, .inr h4⟩

theorem wpList_app (w : World) {ops : Array Oper} {rest : List Oper} {o : Oper} {a : Act} {Q : Exit → Act → World → Prop}
    (hg : o.guard = none) (s x : Operand) (hop : o.op = Op.call { callee := Callee.builtin Builtin.append, args := #[s, x], argTypes := #[36, 36] })
    (v sv : Value) (xs ys : List Int) (hs : a.eval s = v) (hx : a.eval x = sv) (hv : OwnV w v xs) (hr : Rd w sv ys) (hb : xs.length + ys.length ≤ 140737488355328)
    (hK : ∀ v' w', OwnV w' v' (xs ++ ys) → Chg (fun k => v.ownBlock = some k) w w' → (v'.ownBlock = v.ownBlock ∨ v'.ownBlock = some w.heap.size) → wpList Try.prog ops Q rest (a.put o.dst v') w') :
    wpList Try.prog ops Q (o :: rest) a w := by
  refine wpList_plain hg fun K hK' => ?_
  obtain ⟨v', w', hrun, r1, r2, r3⟩ := run_app o.type w v sv xs ys hv hr hb
  unfold Oper.wp
  simp [execOp, hop, resolve, invoke, builtin, hs, hx, hrun, Result.andThen]
  exact hK' _ _ (hK v' w' r1 r2 r3)

theorem wpList_room (w : World) {ops : Array Oper} {rest : List Oper} {o : Oper} {a : Act} {Q : Exit → Act → World → Prop}
    (hg : o.guard = none) (s x : Operand) (hop : o.op = Op.call { callee := Callee.builtin Builtin.append, args := #[s, x], argTypes := #[36, 36] })
    (g off n cap : Nat) (sv : Value) (xs ys : List Int) (hs : a.eval s = .slice (some ⟨g, off, none⟩) n cap) (hx : a.eval x = sv) (hv : Own w g off n cap xs) (hr : Rd w sv ys) (m : Nat) (hm : m = ys.length) (hb : n + m ≤ cap)
    (hK : ∀ w', Own w' g off (n + m) cap (xs ++ ys) → Chg (One g) w w' → wpList Try.prog ops Q rest (a.put o.dst (.slice (some ⟨g, off, none⟩) (n + m) cap)) w') :
    wpList Try.prog ops Q (o :: rest) a w := by
  refine wpList_plain hg fun K hK' => ?_
  subst hm
  obtain ⟨w', hrun, r1, r2⟩ := run_room o.type w g off n cap sv xs ys hv hr hb
  unfold Oper.wp
  simp [execOp, hop, resolve, invoke, builtin, hs, hx, hrun, Result.andThen]
  exact hK' _ _ (hK w' r1 r2)

theorem Own.of_row {w : World} {g n cap : Nat} {base : Nat} {xs : List Int} (h : w.ownsRow base 5 1 (.slice (some ⟨g, 0, none⟩) n cap) n (xs.map (Value.int .u8))) : Own w g 0 n cap xs := by
  obtain ⟨h1, h2⟩ := h
  rcases h2 with ⟨e, _⟩ | ⟨g', cap', cur, e, hb, hh, hn, hm, hs, ht⟩
  · cases e
  · cases e
    exact ⟨by simpa using h1, hn, hm, cur, hh, by omega, by simpa using ht⟩

/-- A new slice's one cell. -/
theorem Rd.one (w : World) (b : Int) : Rd (w.alloc (.cells #[.int .u8 b] 5)) (.slice (some ⟨w.heap.size, 0, none⟩) 1 1) [b] := by
  refine ⟨_, _, _, rfl, rfl, Nat.le_refl _, by decide, fun e => by (cases e), fun x e j u hj => ?_⟩
  cases e
  match j, hj with
  | 0, hj =>
    simp at hj
    subst hj
    simp [Addr.add]

theorem wpList_tight (w : World) {ops : Array Oper} {rest : List Oper} {o : Oper} {a : Act} {Q : Exit → Act → World → Prop}
    (hg : o.guard = none) (s x : Operand) (hop : o.op = Op.call { callee := Callee.builtin Builtin.append, args := #[s, x], argTypes := #[36, 36] })
    (v sv : Value) (xs ys : List Int) (hs : a.eval s = v) (hx : a.eval x = sv) (hv : Tight w v xs) (hr : Rd w sv ys) (hb : xs.length + ys.length ≤ 140737488355328)
    (hK : ∀ v' w', Rd w' v' (xs ++ ys) → Chg Non w w' → (v'.ownBlock = v.ownBlock ∨ v'.ownBlock = some w.heap.size) → wpList Try.prog ops Q rest (a.put o.dst v') w') :
    wpList Try.prog ops Q (o :: rest) a w := by
  refine wpList_plain hg fun K hK' => ?_
  obtain ⟨v', w', hrun, r1, r2, r3⟩ := run_tight o.type w v sv xs ys hv hr hb
  unfold Oper.wp
  simp [execOp, hop, resolve, invoke, builtin, hs, hx, hrun, Result.andThen]
  exact hK' _ _ (hK v' w' r1 r2 r3)

/-- A slice of bytes made a string. -/
theorem run_str (w : World) (v : Value) (xs : List Int) (h : Rd w v xs) : (convert 36 9 v).run Try.prog w = .ok (.string (strOfNums xs)) w := by
  have hf := run_first w v xs h
  obtain ⟨ao, n, c, rfl, hn, hc, hmx, h0, hx⟩ := h
  subst hn
  cases ao with
  | none =>
    have : xs = [] := List.eq_nil_of_length_eq_zero (by have := h0 rfl; omega)
    subst this
    exact run_convert_bytes_nil w 36 5 Try.underlying36 Try.underlying5 _ _ 9 Try.underlying9
  | some x =>
    simp [Builtin.firstCells] at hf
    rw [run_convert_bytes_string w 36 9 5 _ _ _ Try.underlying36 Try.underlying5 Try.underlying9, run_bytesToString w x _ _ xs (by simpa using hf), foldl_push_bytes]
    simp [strOfNums, ByteArray.empty, ByteArray.emptyWithCapacity]
    rfl
end Go.Proofs.Ytnahkcapbbjfdaa.Ap

namespace Go.Proofs.Ytnahkcapbbjfdaa
open Go.RowKit
set_option linter.unusedVariables false

/-- The bytes that a slice holds. -/
def Bz (w : World) (b o n : Nat) (e : Nat → Int) : Prop := ∀ j, j < n → w.cell? ⟨b, o + j, none⟩ = some (.int .u8 (e j))
theorem Bz.chg {w w' : World} {b o n : Nat} {e : Nat → Int} (h : Bz w b o n e) (k : Chg w w') : Bz w' b o n e := fun j hj => by
  have h1 := h j hj
  have hb := World.block_lt_of_cell? w _ h1
  have h2 := k.block b hb
  unfold World.cell? at h1 ⊢
  dsimp only at h1 ⊢
  rw [h2]
  exact h1
theorem md_step {f : Int} (hf : f = 1 ∨ f = 2 ∨ f = 3 ∨ f = 4) (x y : Int) : md f (md f x * 256 + y) = md f (x * 256 + y) := by
  rw [md_in hf, md_in hf, md_in hf, Int.add_emod, Int.mul_emod, Int.emod_emod_of_dvd _ (Int.dvd_refl _), ← Int.mul_emod, ← Int.add_emod]
theorem up256 (V : Int) (k : Nat) : V / 256 ^ k = V / 256 ^ (k + 1) * 256 + dg 256 V k := by
  have hp : (0 : Int) < 256 ^ k := Int.pow_pos (by decide)
  unfold dg
  rw [Int.pow_succ, ← Int.ediv_ediv_of_nonneg (by omega)]
  generalize V / 256 ^ k = y
  omega
theorem or_byte {m y : Int} (hm : 0 ≤ m) (hy : 0 ≤ y ∧ y < 256) : bits .or .u64 (dg B32 (m * 256) 0) y = dg B32 (m * 256) 0 + y := by
  have hd := dg32_b (m * 256) 0
  have e0 : dg B32 (m * 256) 0 = m * 256 % 4294967296 := by unfold dg; rw [Int.pow_zero, Int.ediv_one]
  obtain ⟨h, hh⟩ : ∃ h, dg B32 (m * 256) 0 = h * 256 := ⟨dg B32 (m * 256) 0 / 256, by omega⟩
  rw [hh] at hd ⊢
  obtain ⟨a, rfl⟩ := Int.eq_ofNat_of_zero_le (show 0 ≤ h by omega)
  obtain ⟨b, rfl⟩ := Int.eq_ofNat_of_zero_le hy.1
  have e : ((a : Int) * 256) = ((a * 256 : Nat) : Int) := by omega
  rw [e, u64_or_nat (a * 256) b (by omega) (by omega)]
  have h3 : a * 256 ||| b = a * 256 + b := by
    have := Nat.shiftLeft_add_eq_or_of_lt (i := 8) (b := b) (by omega) a
    rw [Nat.shiftLeft_eq] at this
    exact this.symm
  rw [h3]
  omega
theorem wdr_or {m y : Int} (hm : 0 ≤ m) (hy : 0 ≤ y ∧ y < 256) : upd (dg B32 (m * 256)) 0 (dg B32 (m * 256) 0 + y) = dg B32 (m * 256 + y) := by
  funext j
  unfold upd
  by_cases hj : j = 0
  · subst hj
    rw [if_pos rfl]
    unfold dg
    rw [Int.pow_zero, Int.ediv_one, Int.ediv_one]
    show m * 256 % 4294967296 + y = (m * 256 + y) % 4294967296
    omega
  · rw [if_neg hj]
    obtain ⟨k, rfl⟩ : ∃ k, j = k + 1 := ⟨j - 1, by omega⟩
    unfold dg
    have hp := pow_pos' B32_pos k
    rw [Int.pow_succ, Int.mul_comm (B32 ^ k) B32, ← Int.ediv_ediv_of_nonneg (by decide), ← Int.ediv_ediv_of_nonneg (by decide)]
    have e : m * 256 / B32 = (m * 256 + y) / B32 := by
      show m * 256 / 4294967296 = (m * 256 + y) / 4294967296
      omega
    rw [e]
theorem num_set256 : (num 0).setIfInBounds 0 (.int .u64 256) = num 256 := by kernel_rfl
theorem md_nn (f x : Int) : 0 ≤ md f x := (md_N f x).1
structure WS (w wr : World) (b6 : Nat) (x : Int) : Prop where
  chg : Chg w wr
  r4 : Ar wr w.heap.size (num 0)
  r6 : Ar wr b6 (num x)
  l6 : w.heap.size < b6
theorem WS.to {w wr u : World} {b6 : Nat} {x : Int} (h : WS w wr b6 x) (k : Chg wr u) : WS w u b6 x := ⟨h.chg.trans k, h.r4.chg k, h.r6.chg k, h.l6⟩
theorem WS.row {w wr : World} {b6 : Nat} {x : Int} (h : WS w wr b6 x) (y : Int) : WS w (wr.setRow b6 (num y)) b6 y := by
  obtain ⟨q0, q1, q2, l⟩ := h
  exact ⟨q0.setRow (by omega) _, q1.rowOther (by omega) _, q2.row _, l⟩

set_option maxRecDepth 100000 in
set_option maxHeartbeats 16000000 in
theorem wideR_any (f V : Int) (b o n c : Nat) (hV : 0 ≤ V ∧ V < 256 ^ n) (hn : n ≤ 140737488355328) (w : World) (hz0 : Bz w b o n (dg 256 V)) : Calls Try.prog 30 #[.int .i64 f, .slice (some ⟨b, o, none⟩) n c] w fun r w' => r = .returned (.agg (num (md f V))) ∧ Chg w w' := by
  have HV : Hid ((0 ≤ V ∧ V < 256 ^ n) ∧ Bz w b o n (dg 256 V)) := ⟨hV, hz0⟩
  have HIs : Hid (∀ u, Calls Try.prog 24 #[.int .i64 f] u fun r w' => r = .returned (.bool (isF f)) ∧ Chg u w') := fun u => is_any f u
  obtain ⟨bb, hbb⟩ : ∃ b, b = isF f := ⟨_, rfl⟩
  rw [← hbb] at HIs
  have HBB : Hid (bb = isF f) := hbb
  have hz := zero25.1
  clear hV hz0 hbb
  go_enter Try.func30, Try.ntmps30
  go_upto_region 1 with fail
  obtain ⟨w1, hw1⟩ : ∃ w1, w1 = w.alloc (.cells (num 0) 25) := ⟨_, rfl⟩
  have Z1 : Hid (Chg w w1 ∧ Ar w1 w.heap.size (num 0)) := by
    rw [hw1]
    exact ⟨(Chg.refl w).alloc _, Ar.new w _ _⟩
  rw [← hw1]
  clear hw1
  go_wp2_with fail
  go_at_call 24
  refine (HIs.out _).mono ?_
  rintro r w2 ⟨rfl, hc2⟩
  have Z2 : Hid (Chg w w2 ∧ Ar w2 w.heap.size (num 0)) := ⟨Z1.out.1.trans hc2, Z1.out.2.chg hc2⟩
  clear hc2 Z1
  cases bb with
  | false =>
    have hf : ¬ (f = 1 ∨ f = 2 ∨ f = 3 ∨ f = 4) := fun h => by have := (isF_iff f).2 h; rw [← HBB.out] at this; cases this
    have HE : Hid (md f V = 0) := md_out hf _
    clear hf
    obtain ⟨t, g⟩ := Z2.out.2
    go_wp2_with (first | refine wpList_store_row rfl 25 _ _ rfl _ _ rfl rfl _ _ g (szN 0) rfl (num_one 0) ?_)
    refine bp_n (x := 0) Try.results30 rfl rfl ?_ ⟨by rw [HE.out], ?_⟩
    · exact Z2.out.2.row _
    · exact Z2.out.1.setRow (by omega) _
  | true =>
    have HF : Hid (f = 1 ∨ f = 2 ∨ f = 3 ∨ f = 4) := (isF_iff f).1 HBB.out.symm
    obtain ⟨z0, hz0⟩ : ∃ z : Int, (n : Int) - 1 = z := ⟨_, rfl⟩
    have wz0 := wrap_i (x := z0) (by omega) (by omega)
    go_upto_region 5 with fail
    obtain ⟨b6, hb6⟩ : ∃ b, b = w2.heap.size := ⟨_, rfl⟩
    obtain ⟨w3, hw3⟩ : ∃ w3, w3 = w2.alloc (.cells (num 0) 25) := ⟨_, rfl⟩
    have Z3 : Hid (WS w w3 b6 (md f (V / 256 ^ n))) := by
      have e : md f (V / 256 ^ n) = 0 := by
        rw [Int.ediv_eq_zero_of_lt HV.out.1.1 HV.out.1.2, md_in HF.out]
        exact Int.zero_emod _
      rw [e, hw3, hb6]
      exact ⟨Z2.out.1.alloc _, Z2.out.2.alloc _, Ar.new w2 _ _, Z2.out.2.lt⟩
    rw [← hw3, ← hb6]
    clear hw3 hb6 Z2
    go_wp2_with fail
    go_loopw [7] (fun v wr => ∃ (z : Int), v = .int .i64 z ∧ -1 ≤ z ∧ z < n ∧ WS w wr b6 (md f (V / 256 ^ (z + 1).toNat))) (fun v wr => (intOf v + 1).toNat)
    case atStart =>
      refine ⟨z0, by first | rfl | go_num, by omega, by omega, ?_⟩
      rw [show (z0 + 1).toNat = n by omega]
      exact Z3.out
    case round =>
      clear Z3 hz0 wz0
      obtain ⟨z, rfl, hz0, hz1, hxs⟩ := hrel
      have Z : Hid (WS w wr b6 (md f (V / 256 ^ (z + 1).toNat))) := hxs
      clear hxs
      by_cases hzz : 0 ≤ z
      · obtain ⟨j, rfl⟩ : ∃ q : Nat, z = q := ⟨z.toNat, by omega⟩
        have hdz : decide ((0 : Int) ≤ (j : Int)) = true := by simp
        have lj0 : (0 : Int) ≤ (j : Int) := by omega
        have ljn : (j : Int) < n := hz1
        have ljn' : j < n := by omega
        obtain ⟨z', hz'⟩ : ∃ z' : Int, (j : Int) - 1 = z' := ⟨_, rfl⟩
        have wz := wrap_i (x := z') (by omega) (by omega)
        have HZ' : Hid (z' = (j : Int) - 1 ∧ (z' + 1).toNat = j) := ⟨hz'.symm, by omega⟩
        rw [show ((j : Int) + 1).toNat = j + 1 by omega] at Z
        obtain ⟨m, hm⟩ : ∃ m, m = md f (V / 256 ^ (j + 1)) := ⟨_, rfl⟩
        obtain ⟨y, hy⟩ : ∃ y, y = dg 256 V j := ⟨_, rfl⟩
        have hm0 : 0 ≤ m := by rw [hm]; exact md_nn f _
        have hmN : N256 m := by rw [hm]; exact md_N f _
        have hyb : 0 ≤ y ∧ y < 256 := by rw [hy]; exact dg_bound (by decide) V j
        have HM : Hid (md f (m * 256 + y) = md f (V / 256 ^ j)) := by
          show md f (m * 256 + y) = _
          rw [hm, md_step HF.out, hy, ← up256]
        rw [← hm] at Z
        have h5 : N512 (m * 256 + y) := ⟨by omega, by
          have h1 := hmN.2
          have h2 : R256 * 256 + 256 < R512 := by decide +kernel
          omega⟩
        obtain ⟨D, hD⟩ : ∃ D, D = wdr (m * 256) := ⟨_, rfl⟩
        obtain ⟨G, hG⟩ : ∃ D, D = wdr (m * 256 + y) := ⟨_, rfl⟩
        obtain ⟨X, hX⟩ : ∃ D, D = num (md f (m * 256 + y)) := ⟨_, rfl⟩
        have HK : Hid ((∀ u, Calls Try.prog 49 #[.agg (num m), .agg (num 256)] u fun r w' => r = .returned (.agg D) ∧ Chg u w') ∧ (∀ u, Calls Try.prog 45 #[.int .i64 f, .agg G] u fun r w' => r = .returned (.agg X) ∧ Chg u w')) := by
          rw [hD, hG, hX]
          exact ⟨fun u => times_any m 256 hmN ⟨by decide, by decide⟩ u, fun u => left_any f _ HF.out h5 u⟩
        have sD : (Try.prog.info? 49).map (·.size) = some D.size := by rw [hD]; exact szA _
        have lD : (arr .u64 17 zD).size = D.size := by rw [hD]; exact lenA _ _
        have oD : D.all (·.oneCell') = true := by rw [hD]; exact oneA _
        have sX : (Try.prog.info? 25).map (·.size) = some X.size := by rw [hX]; exact szN _
        have lX : (num m).size = X.size := by rw [hX]; exact lenN _ _
        have oX : X.all (·.oneCell') = true := by rw [hX]; exact num_one _
        have HSG : Hid ((Try.prog.info? 49).map (·.size) = some G.size) := by rw [hG]; exact szA _
        have HSX : Hid ((Try.prog.info? 25).map (·.size) = some X.size ∧ (num m).size = X.size ∧ X.all (·.oneCell') = true) := ⟨sX, lX, oX⟩
        have HD : Hid (D = arr .u64 17 (dg B32 (m * 256)) ∧ G = arr .u64 17 (dg B32 (m * 256 + y)) ∧ X = num (md f (V / 256 ^ j))) := ⟨hD, hG, by rw [hX, HM.out]⟩
        have hor := or_byte hm0 hyb
        have HU : Hid (upd (dg B32 (m * 256)) 0 (dg B32 (m * 256) 0 + y) = dg B32 (m * 256 + y)) := wdr_or hm0 hyb
        have wy : IntKind.u64.wrap y = y := by rw [IntKind.wrap_u64]; omega
        have HCy : Hid (w.cell? ⟨b, o + j, none⟩ = some (.int .u8 y)) := by
          show w.cell? ⟨b, o + j, none⟩ = _
          rw [hy]
          exact HV.out.2 j ljn'
        obtain ⟨d0, hd0⟩ : ∃ d, d = dg B32 (m * 256) 0 := ⟨_, rfl⟩
        obtain ⟨r, hr⟩ : ∃ r, r = d0 + y := ⟨_, rfl⟩
        rw [← hd0, ← hr] at hor
        rw [← hd0, ← hr] at HU
        have HD0 : Hid (dg B32 (m * 256) 0 = d0) := hd0.symm
        have z49 := zero49.1
        have r6 := rangeN Z.out.r6
        have i6 := infoN m
        clear hm hy hm0 hmN hyb h5 hD hG hX hd0 hr sX lX oX
        go_wp2_with (first
          | refine wpList_load_mid rfl 25 (.tmp 6) rfl _ _ rfl ((num m).toList) _ r6 Go.Proofs.Ytnahkcapbbjfdaa.u25 rfl i6 ?_)
        rw [num_set256]
        go_at_call 49
        refine (HK.out.1 _).mono ?_
        rintro r' w5 ⟨rfl, hc5⟩
        have Z5 : Hid (WS w w5 b6 m) := Z.out.to hc5
        clear hc5 r6 i6 Z
        go_upto_region 9 with (first | refine wpList_store_row rfl 49 _ _ rfl _ _ rfl rfl _ _ (heap_alloc_last w5 _) sD lD oD ?_)
        obtain ⟨b8, hb8⟩ : ∃ b, b = w5.heap.size := ⟨_, rfl⟩
        obtain ⟨w6, hw6⟩ : ∃ v, v = (w5.alloc (.cells (arr .u64 17 zD) 49)).setRow w5.heap.size D := ⟨_, rfl⟩
        have Z6 : Hid (WS w w6 b6 m ∧ Ar w6 b8 D ∧ w.heap.size < b8 ∧ b6 < b8) := by
          have kk : Chg w5 ((w5.alloc (.cells (arr .u64 17 zD) 49)).setRow w5.heap.size D) := ((Chg.refl w5).alloc _).setRow (Nat.le_refl _) _
          have l1 := Z5.out.r6.lt
          have l2 := Z5.out.r4.lt
          rw [hw6, hb8]
          exact ⟨Z5.out.to kk, (Ar.new w5 _ _).row _, l2, l1⟩
        rw [← hw6, ← hb8]
        clear hw6 hb8 Z5 sD lD oD
        have c8 : w6.cell? ⟨b8, 0, none⟩ = some (.int .u64 d0) := by
          have h := Z6.out.2.1
          rw [HD.out.1] at h
          have h2 := (h.cell 0).trans (arr_get _ _ _ (by decide))
          rw [HD0.out] at h2
          exact h2
        have f8 := Z6.out.2.1.frozen 0
        have cy : w6.cell? ⟨b, o + j, none⟩ = some (.int .u8 y) := by
          have hb := World.block_lt_of_cell? w _ HCy.out
          have h2 := Z6.out.1.chg.block b hb
          have h1 := HCy.out
          unfold World.cell? at h1 ⊢
          dsimp only at h1 ⊢
          rw [h2]
          exact h1
        dsimp only [Act.put]
        go_cut [31] from 24 to 32 (fun v wc => WS w wc b6 m ∧ Ar wc b8 G)
        case first =>
          go_region_with (fail)
          all_goals go_wp2
          all_goals
            go_meet
            obtain ⟨k0, k1, k2, k3⟩ := Z6.out
            obtain ⟨q0, q1, q2, l⟩ := k0
            refine ⟨⟨q0.drew.setCell (by dsimp only; omega) _, q1.drew.other (by dsimp only; omega) _, q2.drew.other (by dsimp only; omega) _, l⟩, ?_⟩
            rw [HD.out.1] at k1
            have hh := k1.drew.set 0 (.int .u64 r)
            rw [arr_set, HU.out, ← HD.out.2.1] at hh
            exact hh
        case rest =>
          obtain ⟨w7, hw7⟩ : ∃ v, v = wc := ⟨_, rfl⟩
          have Z7 : Hid (WS w w7 b6 m ∧ Ar w7 b8 G) := by rw [hw7]; exact hcut
          rw [← hw7]
          clear hw7 hcut Z6 c8 f8 cy
          obtain ⟨t8, g8⟩ := Z7.out.2
          have sG := HSG.out
          go_wp2_with (first | refine wpList_load_row rfl 49 _ rfl _ rfl _ _ _ _ g8 un49 rfl sG ?_)
          go_at_call 45
          refine (HK.out.2 _).mono ?_
          rintro r' w8 ⟨rfl, hc8⟩
          have Z8 : Hid (WS w w8 b6 m) := Z7.out.1.to hc8
          clear hc8 g8 Z7 sG
          obtain ⟨t6, g6⟩ := Z8.out.r6
          obtain ⟨sX, lX, oX⟩ := HSX.out
          go_wp2_with (first | refine wpList_store_row rfl 25 _ _ rfl _ _ rfl rfl _ _ g6 sX lX oX ?_)
          go_roundw
          case rel =>
            refine ⟨z', by first | rfl | go_num, by have := HZ'.out.1; omega, by have := HZ'.out.1; omega, ?_⟩
            rw [HZ'.out.2, HD.out.2.2]
            exact Z8.out.row _
          case measure =>
            simp [intOf]
            omega
      · have : z = -1 := by omega
        subst this
        rw [show ((-1 : Int) + 1).toNat = 0 from rfl, Int.pow_zero, Int.ediv_one] at Z
        have r6 := rangeN Z.out.r6
        have i6 := infoN (md f V)
        obtain ⟨t4, g4⟩ := Z.out.r4
        have sX := szN (md f V)
        have lX := lenN 0 (md f V)
        have oX := num_one (md f V)
        obtain ⟨P, hP⟩ : ∃ P, P = num (md f V) := ⟨_, rfl⟩
        have HP : Hid (P = num (md f V)) := hP
        rw [← hP] at r6 i6 sX lX oX
        clear hP
        go_wp2_with (first
          | refine wpList_load_mid rfl 25 (.tmp 6) rfl _ _ rfl (P.toList) _ r6 Go.Proofs.Ytnahkcapbbjfdaa.u25 rfl i6 ?_
          | refine wpList_store_row rfl 25 _ _ rfl _ _ rfl rfl _ _ g4 sX lX oX ?_)
        rw [HP.out]
        refine bp_n (x := md f V) Try.results30 rfl rfl ?_ ⟨rfl, Z.out.chg.setRow (by omega) _⟩
        exact Z.out.r4.row _
end Go.Proofs.Ytnahkcapbbjfdaa

namespace Go.Proofs.Ytnahkcapbbjfdaa
open Go.RowKit
set_option linter.unusedVariables false

theorem un36 : Try.prog.underlying 36 = some (.slice 5) := by kernel_rfl
theorem i5y : (Try.prog.info? 5).map (·.size) = some 1 := by kernel_rfl
/-- Bytes laid over others. -/
def ovr (o n : Nat) (x f : Nat → Int) : Nat → Int := fun j => if o ≤ j ∧ j < o + n then x (j - o) else f j
theorem ay_over (N o n : Nat) (x f : Nat → Int) (h : o + n ≤ N) :
    ((arr .u8 N f).toList.take o ++ (arr .u8 n x).toList ++ (arr .u8 N f).toList.drop (o + (arr .u8 n x).toList.length)).toArray = arr .u8 N (ovr o n x f) := by
  have hl : (arr .u8 N f).toList.length = N := by rw [Array.length_toList, arr_size]
  have hx : (arr .u8 n x).toList.length = n := by rw [Array.length_toList, arr_size]
  rw [hx]
  apply Array.ext_getElem?
  intro j
  rw [List.getElem?_toArray]
  by_cases hN : j < N
  · rw [arr_get .u8 N _ hN]
    by_cases h1 : j < o
    · rw [List.append_assoc, List.getElem?_append_left (by rw [List.length_take, hl]; omega), List.getElem?_take, if_pos h1, Array.getElem?_toList, arr_get .u8 N f hN]
      have : ¬ (o ≤ j ∧ j < o + n) := by omega
      simp [ovr, this]
    · by_cases h2 : j < o + n
      · rw [List.getElem?_append_left (by rw [List.length_append, List.length_take, hl, hx]; omega), List.getElem?_append_right (by rw [List.length_take, hl]; omega), List.length_take, hl, Nat.min_eq_left (by omega), Array.getElem?_toList, arr_get .u8 n x (by omega)]
        have : o ≤ j ∧ j < o + n := by omega
        simp [ovr, this]
      · rw [List.getElem?_append_right (by rw [List.length_append, List.length_take, hl, hx]; omega), List.length_append, List.length_take, hl, hx, Nat.min_eq_left (by omega), List.getElem?_drop, Array.getElem?_toList]
        have e : o + n + (j - (o + n)) = j := by omega
        rw [e, arr_get .u8 N f hN]
        have : ¬ (o ≤ j ∧ j < o + n) := by omega
        simp [ovr, this]
  · rw [List.getElem?_eq_none (by simp only [List.length_append, List.length_take, List.length_drop, hl, hx]; omega)]
    simp [arr, hN]

/-- copy, into a row of bytes. -/
theorem run_cpY (w : World) (g N o dl dc b s sl sc n : Nat) (f x : Nat → Int) (hd : Ar w g (arr .u8 N f)) (hs : Bz w b s n x) (hn : n = Nat.min sl dl) (hr : o + n ≤ N) :
    (Builtin.copy_ #[36, 36] 3 #[.slice (some ⟨g, o, none⟩) dl dc, .slice (some ⟨b, s, none⟩) sl sc]).run Try.prog w = .ok (.int .i64 n) (w.setRow g (arr .u8 N (ovr o n x f))) := by
  obtain ⟨t, hg⟩ := hd
  have hl : (arr .u8 n x).toList.length = n := by rw [Array.length_toList, arr_size]
  have := run_copy_row (P := Try.prog) w 36 36 3 5 g o dl dc ⟨b, s, none⟩ sl sc _ t (arr .u8 n x).toList un36 i5y hg (by rw [hl, hn]) (fun j v hv => ?_) (by rw [hl, arr_size]; omega) (fun v hv => (Array.all_eq_true_iff_forall_mem.1 (arr_one .u8 n x)) v (by simpa using hv))
  · rw [this, ay_over N o n x f hr, hl]
    rfl
  · have hadd : (⟨b, s, none⟩ : Addr).add j = ⟨b, s + j, none⟩ := by unfold Addr.add; split <;> simp_all
    have hj : j < n := by
      have := (List.getElem?_eq_some_iff.1 hv).1
      omega
    rw [Array.getElem?_toList, arr_get .u8 n x hj] at hv
    rw [hadd, hs j hj, hv]
/-- The bytes of one piece. -/
theorem piece {V : Int} {n at' l : Nat} (hV : 0 ≤ V ∧ V < 256 ^ n) (hl : l = Nat.min (n - at') 32) (ha : at' ≤ n) : byt (ovr 0 l (fun j => dg 256 V (at' + j)) zD) = byt (dg 256 (V / 256 ^ at')) := arr_congr fun j hj => by
  have hp : (0 : Int) < 256 ^ at' := Int.pow_pos (by decide)
  have e : dg 256 V (at' + j) = dg 256 (V / 256 ^ at') j := by
    unfold dg
    rw [Int.pow_add, Int.ediv_ediv_of_nonneg (by omega)]
  unfold ovr
  by_cases h : j < l
  · rw [if_pos (by omega), Nat.sub_zero]
    exact e
  · rw [if_neg (by omega), ← e]
    unfold dg
    have hn : n ≤ at' + j := by
      have : l = min (n - at') 32 := hl
      omega
    obtain ⟨k, hk⟩ : ∃ k, at' + j = n + k := ⟨at' + j - n, by omega⟩
    have h1 : (1 : Int) ≤ 256 ^ k := Int.pow_pos (by decide)
    have h2 : (256 : Int) ^ n * 1 ≤ 256 ^ n * 256 ^ k := Int.mul_le_mul_of_nonneg_left h1 (Int.le_of_lt (Int.pow_pos (by decide)))
    rw [hk, Int.pow_add, Int.ediv_eq_zero_of_lt hV.1 (by omega)]
    rfl
theorem low32b (x : Int) : val 256 32 (dg 256 x) = x % R256 := by
  rw [val_dg (by decide), show (256 : Int) ^ 32 = R256 from by decide +kernel]
theorem up32 (V : Int) (k : Nat) : V / 256 ^ (32 * k) = V / 256 ^ (32 * k) % R256 + R256 * (V / 256 ^ (32 * (k + 1))) := by
  have hp : (0 : Int) < 256 ^ (32 * k) := Int.pow_pos (by decide)
  rw [show 32 * (k + 1) = 32 * k + 32 by omega, Int.pow_add, ← Int.ediv_ediv_of_nonneg (by omega), show (256 : Int) ^ 32 = R256 from by decide +kernel]
  generalize V / 256 ^ (32 * k) = y
  have := Int.emod_add_mul_ediv y R256
  omega
theorem md_join (f x y : Int) : md f (x + R256 * md f y) = md f (x + R256 * y) := by
  by_cases hf : f = 1 ∨ f = 2 ∨ f = 3 ∨ f = 4
  · rw [md_in hf, md_in hf, md_in hf, Int.add_emod, Int.mul_emod, Int.emod_emod_of_dvd _ (Int.dvd_refl _), ← Int.mul_emod, ← Int.add_emod]
  · rw [md_out hf, md_out hf]
end Go.Proofs.Ytnahkcapbbjfdaa

namespace Go.Proofs.Ytnahkcapbbjfdaa
open Go.RowKit
set_option linter.unusedVariables false

theorem join_N512 {a b : Int} (ha : N256 a) (hb : N256 b) : N512 (a + R256 * b) := by
  have hb2 := hb.2
  have h : R256 * b ≤ R256 * (R256 - 1) := Int.mul_le_mul_of_nonneg_left (by omega) (by decide)
  have e : R256 * (R256 - 1) + R256 ≤ R512 := by decide +kernel
  have h0 : 0 ≤ R256 * b := Int.mul_nonneg (by decide) hb.1
  have a0 := ha.1
  have a1 := ha.2
  exact ⟨by omega, by omega⟩
theorem addr_addY (b o p : Nat) : (⟨b, o, none⟩ : Addr).add p = ⟨b, o + p, none⟩ := by unfold Addr.add; split <;> simp_all
theorem run_sliceArrY {t n : Nat} (hu : Try.prog.underlying t = some (.array n 5)) (hn : 0 < n) (b : Nat) (w : World) : (Instr.sliceAt t (.pointer (some ⟨b, 0, none⟩)) none none none).run Try.prog w = .ok (.slice (some ⟨b, 0, none⟩) n n) w := by
  have h6 : ¬ n = 0 := by omega
  simp [go_sem, Instr.sliceAt, Instr.sliceBounds, run_underlying hu, Sem.run_bind]
theorem run_sliceLoY (b o n cap p : Nat) (hp : p ≤ n) (hn : n ≤ cap) (hc : cap ≤ 9223372036854775807) (hne : ¬ cap = p) (w : World) : (Instr.sliceAt 36 (.slice (some ⟨b, o, none⟩) n cap) (some (.int .i64 (p : Int))) none none).run Try.prog w = .ok (.slice (some ⟨b, o + p, none⟩) (n - p) (cap - p)) w := by
  have h1 : (p : Int) ≤ n := by omega
  refine (run_sliceAt_slice w 36 _ _ _ _ (by kernel_rfl)).trans ?_
  simp [Instr.slice, Instr.sliceBounds, Instr.sliceBound, run_underlying un36, asIntOf, Sem.run_bind, hp, hne, addr_addY]

set_option maxRecDepth 100000 in
set_option maxHeartbeats 16000000 in
theorem wide_any (f V : Int) (b o n c : Nat) (hV : 0 ≤ V ∧ V < 256 ^ n) (hn : n ≤ 140737488355328) (hnc : n ≤ c) (hc9 : c ≤ 9223372036854775807) (w : World) (hz0 : Bz w b o n (dg 256 V)) : Calls Try.prog 29 #[.int .i64 f, .slice (some ⟨b, o, none⟩) n c] w fun r w' => r = .returned (.agg (num (md f V))) ∧ Chg w w' := by
  have HV : Hid ((0 ≤ V ∧ V < 256 ^ n) ∧ Bz w b o n (dg 256 V) ∧ n ≤ c ∧ c ≤ 9223372036854775807) := ⟨hV, hz0, hnc, hc9⟩
  have hz := zero25.1
  have hzY := zero37.1
  obtain ⟨s, hs⟩ : ∃ s : Int, (n : Int) + 31 = s := ⟨_, rfl⟩
  have ws := wrap_i (x := s) (by omega) (by omega)
  obtain ⟨N, hN⟩ : ∃ N : Nat, s.tdiv 32 = N := ⟨(n + 31) / 32, by rw [Int.tdiv_eq_ediv_of_nonneg (by omega)]; omega⟩
  have hN' : N = (n + 31) / 32 := by rw [Int.tdiv_eq_ediv_of_nonneg (by omega)] at hN; omega
  have wN := wrap_i (x := (N : Int)) (by omega) (by omega)
  have HN : Hid (N = (n + 31) / 32) := hN'
  have HnB : Hid (n ≤ 140737488355328) := hn
  clear hV hz0 hnc hc9 hN'
  go_enter Try.func29, Try.ntmps29
  go_wp2_with fail
  obtain ⟨w2, hw2⟩ : ∃ w2, w2 = (w.alloc (.cells (num 0) 25)).alloc (.cells (num 0) 25) := ⟨_, rfl⟩
  have Z2 : Hid (Chg w w2 ∧ Ar w2 w.heap.size (num 0) ∧ Ar w2 (w.heap.size + 1) (num (md f (V / 256 ^ (32 * (N - 0)))))) := by
    have e : md f (V / 256 ^ (32 * (N - 0))) = 0 := by
      obtain ⟨k, hk⟩ : ∃ k, 32 * (N - 0) = n + k := ⟨32 * N - n, by have := HN.out; omega⟩
      have h1 : (1 : Int) ≤ 256 ^ k := Int.pow_pos (by decide)
      have h2 : (256 : Int) ^ n * 1 ≤ 256 ^ n * 256 ^ k := Int.mul_le_mul_of_nonneg_left h1 (Int.le_of_lt (Int.pow_pos (by decide)))
      have h3 := HV.out.1.2
      rw [hk, Int.pow_add, Int.ediv_eq_zero_of_lt HV.out.1.1 (by omega)]
      by_cases hf : f = 1 ∨ f = 2 ∨ f = 3 ∨ f = 4
      · rw [md_in hf]
        exact Int.zero_emod _
      · exact md_out hf _
    rw [e, hw2]
    exact ⟨((Chg.refl w).alloc _).alloc _, (Ar.new w _ _).alloc _, Ar.new1 w _ _ _⟩
  rw [← hw2]
  clear hw2 hs ws wN hN hn
  go_loopw [15] (fun v wr => ∃ (i : Nat), v = .int .i64 i ∧ i ≤ N ∧ Chg w wr ∧ Ar wr w.heap.size (num 0) ∧ Ar wr (w.heap.size + 1) (num (md f (V / 256 ^ (32 * (N - i)))))) (fun v wr => N - (intOf v).toNat)
  case atStart => exact ⟨0, rfl, by omega, Z2.out⟩
  case round =>
    clear Z2
    obtain ⟨i, rfl, hi, hch, h1, h2⟩ := hrel
    have Z : Hid (Chg w wr ∧ Ar wr w.heap.size (num 0) ∧ Ar wr (w.heap.size + 1) (num (md f (V / 256 ^ (32 * (N - i)))))) := ⟨hch, h1, h2⟩
    clear hch h1 h2
    by_cases hlt : i < N
    · have hN2 := HN.out
      have hnB := HnB.out
      have hNB : N ≤ 140737488355328 := by omega
      have hd : decide ((i : Int) < N) = true := by simp; omega
      have li : (i : Int) < N := by omega
      obtain ⟨n1, hn1⟩ : ∃ n1 : Nat, (N : Int) - 1 = n1 := ⟨N - 1, by omega⟩
      have wn1 := wrap_i (x := (n1 : Int)) (by omega) (by omega)
      obtain ⟨k, hk⟩ : ∃ k : Nat, (n1 : Int) - i = k := ⟨n1 - i, by omega⟩
      have wk := wrap_i (x := (k : Int)) (by omega) (by omega)
      obtain ⟨p, hp⟩ : ∃ p : Nat, 32 * (k : Int) = p := ⟨32 * k, by omega⟩
      have wp' := wrap_i (x := (p : Int)) (by omega) (by omega)
      have hpn : p < n := by omega
      have hp2 : p = 32 * k := by omega
      have hki : N - i = k + 1 := by omega
      have hki2 : N - (i + 1) = k := by omega
      obtain ⟨l, hl⟩ : ∃ l, l = Nat.min (n - p) 32 := ⟨_, rfl⟩
      have hl2 : l ≤ 32 := by rw [hl]; exact Nat.min_le_right _ _
      obtain ⟨x, hx⟩ : ∃ x, x = V / 256 ^ p := ⟨_, rfl⟩
      obtain ⟨h, hh⟩ : ∃ h, h = md f (V / 256 ^ (32 * (k + 1))) := ⟨_, rfl⟩
      have hhN : N256 h := by rw [hh]; exact md_N f _
      rw [hki, ← hh] at Z
      have HX : Hid (md f (x % R256 + R256 * h) = md f (V / 256 ^ (32 * k))) := by
        show md f (x % R256 + R256 * h) = _
        rw [hh, md_join, hx, hp2, ← up32]
      have hlN : N256 (x % R256) := ⟨Int.emod_nonneg _ (by decide), Int.emod_lt_of_pos _ (by decide)⟩
      obtain ⟨PT, hPT⟩ : ∃ A, A = byt (dg 256 x) := ⟨_, rfl⟩
      obtain ⟨LO, hLO⟩ : ∃ A, A = num (x % R256) := ⟨_, rfl⟩
      obtain ⟨HI, hHI⟩ : ∃ A, A = num h := ⟨_, rfl⟩
      obtain ⟨WD, hWD⟩ : ∃ A, A = wid (x % R256 + R256 * h) := ⟨_, rfl⟩
      obtain ⟨X, hX⟩ : ∃ A, A = num (md f (x % R256 + R256 * h)) := ⟨_, rfl⟩
      have HK : Hid ((∀ u, Calls Try.prog 33 #[.agg PT] u fun r w' => r = .returned (.agg LO) ∧ Chg u w') ∧ (∀ u, Calls Try.prog 60 #[.agg LO, .agg HI] u fun r w' => r = .returned (.agg WD) ∧ Chg u w') ∧ (∀ u, Calls Try.prog 47 #[.int .i64 f, .agg WD] u fun r w' => r = .returned (.agg X) ∧ Chg u w')) := by
        rw [hPT, hLO, hHI, hWD, hX]
        refine ⟨fun u => ?_, fun u => join_num _ _ hlN hhN u, fun u => reduceM_any f _ (join_N512 hlN hhN) u⟩
        rw [← low32b]
        exact fromLE_any _ (fun i => dg_bound (by decide) x i) u
      have HPc : Hid (byt (ovr 0 l (fun j => dg 256 V (p + j)) zD) = PT) := by
        show byt _ = PT
        rw [hPT, hx]
        exact piece HV.out.1 hl (by omega)
      have iPT : (Try.prog.info? 37).map (·.size) = some PT.toList.length := by rw [hPT]; exact infoY _
      have iHI : (Try.prog.info? 25).map (·.size) = some HI.toList.length := by rw [hHI]; exact infoN _
      have HSX : Hid (((Try.prog.info? 25).map (·.size) = some X.size ∧ X.all (·.oneCell') = true) ∧ X = num (md f (V / 256 ^ (32 * k))) ∧ HI = num h) := ⟨⟨by rw [hX]; exact szN _, by rw [hX]; exact num_one _⟩, by rw [hX, HX.out], hHI⟩
      rw [← hHI] at Z
      have HJ : Hid (N - (i + 1) = k ∧ l ≤ 32 ∧ l = Nat.min (n - p) 32 ∧ p < n) := ⟨hki2, hl2, hl, hpn⟩
      clear hPT hLO hHI hWD hX hlN hhN hx hh hki hki2 hp2 hl hl2 hN2 hnB hpn
      go_upto_region 8 with fail
      obtain ⟨b9, hb9⟩ : ∃ b, b = wr.heap.size := ⟨_, rfl⟩
      obtain ⟨w6, hw6⟩ : ∃ v, v = wr.alloc (.cells (byt zD) 37) := ⟨_, rfl⟩
      have Z6 : Hid ((Chg w w6 ∧ Ar w6 w.heap.size (num 0) ∧ Ar w6 (w.heap.size + 1) HI) ∧ Ar w6 b9 (byt zD) ∧ w.heap.size + 1 < b9) := by
        have l1 := Z.out.2.2.lt
        rw [hw6, hb9]
        exact ⟨⟨Z.out.1.alloc _, Z.out.2.1.alloc _, Z.out.2.2.alloc _⟩, Ar.new wr _ _, l1⟩
      rw [← hw6, ← hb9]
      clear hw6 hb9 Z
      have hs1 : ∀ u, (Instr.sliceAt 37 (.pointer (some ⟨b9, 0, none⟩)) none none none).run Try.prog u = .ok (.slice (some ⟨b9, 0, none⟩) 32 32) u := run_sliceArrY un37 (by decide) _
      have hs2 : ∀ u, (Instr.sliceAt 36 (.slice (some ⟨b, o, none⟩) n c) (some (.int .i64 (p : Int))) none none).run Try.prog u = .ok (.slice (some ⟨b, o + p, none⟩) (n - p) (c - p)) u := run_sliceLoY b o n c p (by have := HJ.out.2.2.2; omega) HV.out.2.2.1 HV.out.2.2.2 (by have := HJ.out.2.2.2; have := HV.out.2.2.1; omega)
      have hcp := run_cpY w6.drew b9 32 0 32 32 b (o + p) (n - p) (c - p) l zD (fun j => dg 256 V (p + j)) Z6.out.2.1.drew (fun j hj => by
        have h3 := (HV.out.2.1.chg Z6.out.1.1) (p + j) (by
          have h1 : l = min (n - p) 32 := HJ.out.2.2.1
          omega)
        rw [← Nat.add_assoc] at h3
        exact h3) HJ.out.2.2.1 (by have := HJ.out.2.1; omega)
      rw [show arr .u8 32 (ovr 0 l (fun j => dg 256 V (p + j)) zD) = PT from HPc.out] at hcp
      go_cut [27] from 23 to 27 (fun v wc => (Chg w wc ∧ Ar wc w.heap.size (num 0) ∧ Ar wc (w.heap.size + 1) HI) ∧ Ar wc b9 PT)
      case first =>
        go_region_with (fail)
        all_goals go_wp2
        all_goals
          go_meet
          obtain ⟨⟨k0, k1, k2⟩, k3, k4⟩ := Z6.out
          exact ⟨⟨k0.drew.setRow (by omega) _, k1.drew.rowOther (by omega) _, k2.drew.rowOther (by omega) _⟩, k3.drew.row _⟩
      case rest =>
        obtain ⟨w7, hw7⟩ : ∃ v, v = wc := ⟨_, rfl⟩
        have Z7 : Hid ((Chg w w7 ∧ Ar w7 w.heap.size (num 0) ∧ Ar w7 (w.heap.size + 1) HI) ∧ Ar w7 b9 PT) := by rw [hw7]; exact hcut
        rw [← hw7]
        clear hw7 hcut Z6 hs1 hs2 hcp
        go_upto_region 9 with fail
        refine wp_region_good 6 (fun j v wg => match j with
          | 0 => v = .int .i64 f
          | 1 => v = .agg PT
          | 2 => v = .agg LO
          | 3 => v = .agg HI
          | 4 => v = .agg WD
          | 5 => v = .agg X
          | _ => True) (by kernel_rfl) (by kernel_rfl) (by kernel_rfl) (by kernel_rfl) (by kernel_rfl) ?_ ?_ ?_
        · intro j v u1 u2 h hc
          match j, h with
          | 0, h => exact h
          | 1, h => exact h
          | 2, h => exact h
          | 3, h => exact h
          | 4, h => exact h
          | 5, h => exact h
          | _ + 6, h => exact trivial
        · intro i o ac u hi ho hsz hf hg hc
          have hcs : i = 0 ∨ i = 1 ∨ i = 2 ∨ i = 3 ∨ i = 4 ∨ i = 5 := by omega
          rcases hcs with rfl | rfl | rfl | rfl | rfl | rfl
          · injection ho with ho
            subst ho
            refine .inl ⟨wanted_none rfl, ?_⟩
            have e1 : ac.eval (.tmp 0) = .int .i64 f := hf 0 (by kernel_rfl)
            exact opG_val (by simp [execOp, e1]) rfl (Chg.refl _)
          · injection ho with ho
            subst ho
            refine .inl ⟨wanted_none rfl, ?_⟩
            have e1 : ac.eval (.tmp 9) = .pointer (some ⟨b9, 0, none⟩) := hf 9 (by kernel_rfl)
            exact wp_load_mid 37 (.tmp 9) rfl _ _ e1 (PT.toList) _ (rangeA (Ar.chg (w := w7.drew) Z7.out.2 hc)) un37 rfl (iPT) ⟨_, rfl, rfl, Chg.refl _⟩
          · injection ho with ho
            subst ho
            refine .inl ⟨wanted_none rfl, ?_⟩
            have e1 : ac.eval (.tmp 29) = .agg PT := hg 1 (by kernel_rfl) (by decide)
            refine opG_go 33 Try.f33 #[.tmp 29] #[37] rfl Try.func33 (by kernel_rfl) (by kernel_rfl) (by simp [e1]) (Calls.mono (HK.out.1 _) ?_)
            rintro e u2 ⟨rfl, hc2⟩
            exact ⟨_, rfl, rfl, hc2⟩
          · injection ho with ho
            subst ho
            refine .inl ⟨wanted_none rfl, ?_⟩
            have e1 : ac.eval (.tmp 5) = .pointer (some ⟨w.heap.size + 1, 0, none⟩) := hf 5 (by kernel_rfl)
            exact wp_load_mid 25 (.tmp 5) rfl _ _ e1 (HI.toList) _ (rangeA (Ar.chg (w := w7.drew) Z7.out.1.2.2 hc)) Go.Proofs.Ytnahkcapbbjfdaa.u25 rfl (iHI) ⟨_, rfl, rfl, Chg.refl _⟩
          · injection ho with ho
            subst ho
            refine .inl ⟨wanted_none rfl, ?_⟩
            have e1 : ac.eval (.tmp 30) = .agg LO := hg 2 (by kernel_rfl) (by decide)
            have e2 : ac.eval (.tmp 31) = .agg HI := hg 3 (by kernel_rfl) (by decide)
            refine opG_go 60 Try.f60 #[.tmp 30, .tmp 31] #[25, 25] rfl Try.func60 (by kernel_rfl) (by kernel_rfl) (by simp [e1, e2]) (Calls.mono (HK.out.2.1 _) ?_)
            rintro e u2 ⟨rfl, hc2⟩
            exact ⟨_, rfl, rfl, hc2⟩
          · injection ho with ho
            subst ho
            refine .inl ⟨wanted_none rfl, ?_⟩
            have e1 : ac.eval (.tmp 28) = .int .i64 f := hg 0 (by kernel_rfl) (by decide)
            have e2 : ac.eval (.tmp 32) = .agg WD := hg 4 (by kernel_rfl) (by decide)
            refine opG_go 47 Try.f47 #[.tmp 28, .tmp 32] #[22, 55] rfl Try.func47 (by kernel_rfl) (by kernel_rfl) (by simp [e1, e2]) (Calls.mono (HK.out.2.2 _) ?_)
            rintro e u2 ⟨rfl, hc2⟩
            exact ⟨_, rfl, rfl, hc2⟩
        · intro o u V ho hV hc
          injection ho with ho
          subst ho
          refine ⟨rfl, ?_⟩
          have q28 : V 0 = .int .i64 f := hV 0 (by decide)
          have q29 : V 1 = .agg PT := hV 1 (by decide)
          have q30 : V 2 = .agg LO := hV 2 (by decide)
          have q31 : V 3 = .agg HI := hV 3 (by decide)
          have q32 : V 4 = .agg WD := hV 4 (by decide)
          have q33 : V 5 = .agg X := hV 5 (by decide)
          have hres := Ar.chg (w := w7.drew) Z7.out.1.2.2 hc
          rw [HSX.out.2.2] at hres
          refine wp_store_mid 25 (.tmp 5) (.tmp 33) rfl (w.heap.size + 1) 0 X (by rfl) (Eq.trans (by rfl) q33) (by rw [HSX.out.2.1, num_size]; exact thereN hres) HSX.out.1.1 HSX.out.1.2 ?_
          rw [show u.setCells (w.heap.size + 1) 0 X.toList = u.setRow (w.heap.size + 1) X by rw [HSX.out.2.1]; exact setRowN hres _]
          obtain ⟨w8, hw8⟩ : ∃ v, v = u.setRow (w.heap.size + 1) X := ⟨_, rfl⟩
          have Z8 : Hid (Chg w w8 ∧ Ar w8 w.heap.size (num 0) ∧ Ar w8 (w.heap.size + 1) X) := by
            rw [hw8]
            exact ⟨(Z7.out.1.1.drew.trans hc).setRow (by omega) _, (Ar.chg (w := w7.drew) Z7.out.1.2.1 hc).rowOther (by omega) _, hres.row _⟩
          rw [← hw8]
          clear hw8 hres Z7 hc
          change Exit.inBlock 1 _ Exit.normal (Act.mk #[.int .i64 f, .slice (some ⟨b, o, none⟩) n c, undef, undef, .pointer (some ⟨w.heap.size, 0, none⟩), .pointer (some ⟨w.heap.size + 1, 0, none⟩), .int .i64 N, .int .i64 i, .int .i64 p, .pointer (some ⟨b9, 0, none⟩), .slice (some ⟨b, o, none⟩) n c, .int .i64 n, .int .i64 s, .int .i64 N, .int .i64 N, .int .i64 i, .bool true, .int .i64 i, .int .i64 N, .int .i64 n1, .int .i64 i, .int .i64 k, .int .i64 p, u23, u24, u25, u26, u27, V 0, V 1, V 2, V 3, V 4, V 5, u34, undef] []) w8
          clear q28 q29 q30 q31 q32 q33 hV
          generalize V 0 = y0
          generalize V 1 = y1
          generalize V 2 = y2
          generalize V 3 = y3
          generalize V 4 = y4
          generalize V 5 = y5
          clear V
          go_wp2_with fail
          go_roundw
          case rel =>
            refine ⟨i + 1, by go_num, by omega, Z8.out.1, Z8.out.2.1, ?_⟩
            rw [HJ.out.1, ← HSX.out.2.1]
            exact Z8.out.2.2
          case measure => simp [intOf]; omega
    · have : i = N := by omega
      subst this
      rw [Nat.sub_self, Nat.mul_zero, Int.pow_zero, Int.ediv_one] at Z
      have r6 := rangeN Z.out.2.2
      have i6 := infoN (md f V)
      obtain ⟨t4, g4⟩ := Z.out.2.1
      have sX := szN (md f V)
      have lX := lenN 0 (md f V)
      have oX := num_one (md f V)
      obtain ⟨Q, hQ⟩ : ∃ P, P = num (md f V) := ⟨_, rfl⟩
      have HQ : Hid (Q = num (md f V)) := hQ
      rw [← hQ] at r6 i6 sX lX oX
      clear hQ
      go_wp2_with (first
        | refine wpList_load_mid rfl 25 (.tmp 5) rfl _ _ rfl (Q.toList) _ r6 Go.Proofs.Ytnahkcapbbjfdaa.u25 rfl i6 ?_
        | refine wpList_store_row rfl 25 _ _ rfl _ _ rfl rfl _ _ g4 sX lX oX ?_)
      rw [HQ.out]
      refine bp_n (x := md f V) Try.results29 rfl rfl ?_ ⟨rfl, Z.out.1.setRow (by omega) _⟩
      exact Z.out.2.1.row _
end Go.Proofs.Ytnahkcapbbjfdaa

namespace Go.Proofs.Ytnahkcapbbjfdaa
open Go.RowKit
set_option linter.unusedVariables false

theorem md_zero (f : Int) : md f 0 = 0 := by
  by_cases hf : f = 1 ∨ f = 2 ∨ f = 3 ∨ f = 4
  · rw [md_in hf]
    exact Int.zero_emod _
  · exact md_out hf _

set_option maxRecDepth 100000 in
set_option maxHeartbeats 16000000 in
theorem wideN_any (f : Int) (ao : Option Addr) (c : Nat) (w : World) : Calls Try.prog 29 #[.int .i64 f, .slice ao 0 c] w fun r w' => r = .returned (.agg (num (md f 0))) ∧ Chg w w' := by
  rw [md_zero]
  have hz := zero25.1
  have i0 := infoN 0
  go_enter Try.func29, Try.ntmps29
  go_wp2_with fail
  obtain ⟨w2, hw2⟩ : ∃ w2, w2 = (w.alloc (.cells (num 0) 25)).alloc (.cells (num 0) 25) := ⟨_, rfl⟩
  have Z2 : Hid (Chg w w2 ∧ Ar w2 w.heap.size (num 0) ∧ Ar w2 (w.heap.size + 1) (num 0)) := by
    rw [hw2]
    exact ⟨((Chg.refl w).alloc _).alloc _, (Ar.new w _ _).alloc _, Ar.new1 w _ _ _⟩
  rw [← hw2]
  clear hw2
  go_loopw [15] (fun v wr => v = .int .i64 0 ∧ Chg w wr ∧ Ar wr w.heap.size (num 0) ∧ Ar wr (w.heap.size + 1) (num 0)) (fun v wr => 0)
  case atStart => exact ⟨rfl, Z2.out⟩
  case round =>
    clear Z2
    obtain ⟨rfl, h⟩ := hrel
    have Z : Hid (Chg w wr ∧ Ar wr w.heap.size (num 0) ∧ Ar wr (w.heap.size + 1) (num 0)) := h
    clear h
    have r6 := rangeN Z.out.2.2
    obtain ⟨t4, g4⟩ := Z.out.2.1
    go_wp2_with (first
      | refine wpList_load_mid rfl 25 (.tmp 5) rfl _ _ rfl ((num 0).toList) _ r6 Go.Proofs.Ytnahkcapbbjfdaa.u25 rfl i0 ?_
      | refine wpList_store_row rfl 25 _ _ rfl _ _ rfl rfl _ _ g4 (szN 0) rfl (num_one 0) ?_)
    refine bp_n (x := 0) Try.results29 rfl rfl ?_ ⟨rfl, Z.out.1.setRow (by omega) _⟩
    exact Z.out.2.1.row _

set_option maxRecDepth 100000 in
set_option maxHeartbeats 16000000 in
theorem wideRN_any (f : Int) (ao : Option Addr) (c : Nat) (w : World) : Calls Try.prog 30 #[.int .i64 f, .slice ao 0 c] w fun r w' => r = .returned (.agg (num (md f 0))) ∧ Chg w w' := by
  rw [md_zero]
  have HIs : Hid (∀ u, Calls Try.prog 24 #[.int .i64 f] u fun r w' => r = .returned (.bool (isF f)) ∧ Chg u w') := fun u => is_any f u
  obtain ⟨bb, hbb⟩ : ∃ b, b = isF f := ⟨_, rfl⟩
  rw [← hbb] at HIs
  have hz := zero25.1
  have i0 := infoN 0
  clear hbb
  go_enter Try.func30, Try.ntmps30
  go_upto_region 1 with fail
  obtain ⟨w1, hw1⟩ : ∃ w1, w1 = w.alloc (.cells (num 0) 25) := ⟨_, rfl⟩
  have Z1 : Hid (Chg w w1 ∧ Ar w1 w.heap.size (num 0)) := by
    rw [hw1]
    exact ⟨(Chg.refl w).alloc _, Ar.new w _ _⟩
  rw [← hw1]
  clear hw1
  go_wp2_with fail
  go_at_call 24
  refine (HIs.out _).mono ?_
  rintro r w2 ⟨rfl, hc2⟩
  have Z2 : Hid (Chg w w2 ∧ Ar w2 w.heap.size (num 0)) := ⟨Z1.out.1.trans hc2, Z1.out.2.chg hc2⟩
  clear hc2 Z1
  cases bb with
  | false =>
    obtain ⟨t, g⟩ := Z2.out.2
    go_wp2_with (first | refine wpList_store_row rfl 25 _ _ rfl _ _ rfl rfl _ _ g (szN 0) rfl (num_one 0) ?_)
    refine bp_n (x := 0) Try.results30 rfl rfl ?_ ⟨rfl, ?_⟩
    · exact Z2.out.2.row _
    · exact Z2.out.1.setRow (by omega) _
  | true =>
    go_upto_region 5 with fail
    obtain ⟨b6, hb6⟩ : ∃ b, b = w2.heap.size := ⟨_, rfl⟩
    obtain ⟨w3, hw3⟩ : ∃ w3, w3 = w2.alloc (.cells (num 0) 25) := ⟨_, rfl⟩
    have Z3 : Hid (WS w w3 b6 0) := by
      rw [hw3, hb6]
      exact ⟨Z2.out.1.alloc _, Z2.out.2.alloc _, Ar.new w2 _ _, Z2.out.2.lt⟩
    rw [← hw3, ← hb6]
    clear hw3 hb6 Z2
    go_wp2_with fail
    go_loopw [7] (fun v wr => v = .int .i64 (-1) ∧ WS w wr b6 0) (fun v wr => 0)
    case atStart => exact ⟨rfl, Z3.out⟩
    case round =>
      clear Z3
      obtain ⟨rfl, h⟩ := hrel
      have Z : Hid (WS w wr b6 0) := h
      clear h
      have r6 := rangeN Z.out.r6
      obtain ⟨t4, g4⟩ := Z.out.r4
      go_wp2_with (first
        | refine wpList_load_mid rfl 25 (.tmp 6) rfl _ _ rfl ((num 0).toList) _ r6 Go.Proofs.Ytnahkcapbbjfdaa.u25 rfl i0 ?_
        | refine wpList_store_row rfl 25 _ _ rfl _ _ rfl rfl _ _ g4 (szN 0) rfl (num_one 0) ?_)
      refine bp_n (x := 0) Try.results30 rfl rfl ?_ ⟨rfl, Z.out.chg.setRow (by omega) _⟩
      exact Z.out.r4.row _
end Go.Proofs.Ytnahkcapbbjfdaa

namespace Go.Proofs.Ytnahkcapbbjfdaa
open Go.RowKit
set_option linter.unusedVariables false

theorem sizeB5 (w : World) : (sizeOf 5).run Try.prog w = .ok 1 w := by
  have h : (Try.prog.info? 5).map (·.size) = some 1 := by kernel_rfl
  cases hq : Try.prog.info? 5 with
  | none => simp [hq] at h
  | some i =>
    rw [hq] at h
    have h : i.size = 1 := Option.some.inj h
    simp [sizeOf, typeInfo, hq, h]
theorem undB5 : Try.prog.underlying 5 = some (.int .u8) := by kernel_rfl
theorem run_partB5 (n : Nat) (f : Nat → Int) {i : Nat} (hi : i < n) (w : World) : (part 5 (arr .u8 n f) i).run Try.prog w = .ok (.int .u8 (f i)) w := by
  simp [part, arr_get .u8 n f hi, Sem.run_bind]
theorem run_eqB {t n : Nat} (hu : Try.prog.underlying t = some (.array n 5)) (hl : List.range' [0:n].start [0:n].size [0:n].step = List.range n) (f g : Nat → Int) (d : Nat) (w : World) : (Op.equalIn (d + 2) t (.agg (arr .u8 n f)) (.agg (arr .u8 n g))).run Try.prog w = .ok ((List.range n).all fun i => f i == g i) w := by
  unfold Op.equalIn
  simp only [Sem.run_bind, run_underlying hu, Result.andThen_ok, sizeB5, Nat.mul_one]
  rw [Std.Legacy.Range.forIn_eq_forIn_range', hl]
  have hm : ∀ i ∈ List.range n, i < n := fun i hi => List.mem_range.1 hi
  generalize List.range n = l at hm
  clear hl
  induction l generalizing w with
  | nil => simp
  | cons i l ih =>
    have hi := hm i (by simp)
    simp only [List.forIn_cons, Sem.run_bind, run_partB5 n f hi, run_partB5 n g hi, Result.andThen_ok, run_equalIn_int _ d 5 .u8 .u8 _ _ undB5]
    cases hc : (f i == g i) with
    | true =>
      simp only [List.all_cons, hc, Bool.true_and, Bool.not_true, Bool.false_eq_true, if_false, Sem.run_pure, Result.andThen_ok]
      exact ih w (fun j hj => hm j (by simp [hj]))
    | false =>
      simp only [List.all_cons, hc, Bool.false_and, Bool.not_false, if_true, Sem.run_pure, Result.andThen_ok]
theorem eqB_self (d : Nat → Int) (w : World) : (Op.equalIn 10000 37 (.agg (byt d)) (.agg (byt d))).run Try.prog w = .ok true w := by
  have := run_eqB (t := 37) (n := 32) (by kernel_rfl) (by decide) d d 9998 w
  rw [show ((List.range 32).all fun i => d i == d i) = true by rw [List.all_eq_true]; exact fun i _ => beq_self_eq_true _] at this
  exact this
/-- The digits of the number of digits. -/
theorem dg_val {d : Nat → Int} (hd : ∀ i, B8 (d i)) {n i : Nat} (hi : i < n) : dg 256 (val 256 n d) i = d i := by
  obtain ⟨h0, h1⟩ := val_b hd n
  have e : val 256 n (dg 256 (val 256 n d)) = val 256 n d := by rw [val_dg (by decide), Int.emod_eq_of_lt h0 h1]
  exact val_inj (B := 256) (by decide) (fun i _ => dg_bound (by decide) _ i) (fun i _ => hd i) e i hi
theorem byt_back {d : Nat → Int} (hd : ∀ i, B8 (d i)) : byt (dg 256 (val 256 32 d)) = byt d := arr_congr fun i hi => dg_val hd hi
theorem byt_tu {d e : Nat → Int} (h : byt d = byt e) : byt (tu d) = byt (tu e) := arr_congr fun i hi => by
  have h1 := arr_get .u8 32 d (show 31 - i < 32 by omega)
  have h2 := arr_get .u8 32 e (show 31 - i < 32 by omega)
  rw [show arr .u8 32 d = arr .u8 32 e from h, h2] at h1
  have h3 := Option.some.inj h1
  injection h3 with _ h4
  exact h4.symm
theorem num_back {x : Int} (hx : N256 x) : num (val 256 32 (dg 256 x)) = num x := by
  rw [low32b, Int.emod_eq_of_lt hx.1 hx.2]
/-- There and back with the last first. -/
theorem be_back {d : Nat → Int} (hd : ∀ i, B8 (d i)) : byt (tu (dg 256 (val 256 32 (tu d)))) = byt d := by
  rw [byt_tu (byt_back (d := tu d) fun i => hd _)]
  exact tu_tu d
/-- What is behind the last byte is nothing. -/
theorem byt_cut {V : Int} {n : Nat} (hV : 0 ≤ V ∧ V < 256 ^ n) (k : Nat) (hk : k = Nat.min n 32) : byt (mixD k (dg 256 V) zD) = byt (dg 256 V) := arr_congr fun i hi => by
  unfold mixD
  by_cases h : i < k
  · rw [if_pos h]
  · rw [if_neg h]
    have hn : n ≤ i := by
      have : k = min n 32 := hk
      omega
    obtain ⟨j, hj⟩ : ∃ j, i = n + j := ⟨i - n, by omega⟩
    have h1 : (1 : Int) ≤ 256 ^ j := Int.pow_pos (by decide)
    have h2 : (256 : Int) ^ n * 1 ≤ 256 ^ n * 256 ^ j := Int.mul_le_mul_of_nonneg_left h1 (Int.le_of_lt (Int.pow_pos (by decide)))
    unfold dg
    rw [hj, Int.pow_add, Int.ediv_eq_zero_of_lt hV.1 (by omega)]
    rfl
end Go.Proofs.Ytnahkcapbbjfdaa

namespace Go.Proofs.Ytnahkcapbbjfdaa
open Go.RowKit
set_option linter.unusedVariables false

theorem Chg.ap {w0 w w' : World} {S : Nat → Prop} (h : Chg w0 w) (k : Ap.Chg S w w') (hS : ∀ i, S i → w0.heap.size ≤ i) : Chg w0 w' :=
  ⟨k.os.trans h.os, k.tape.trans h.tape, k.output.trans h.output, Nat.le_trans h.size k.size, fun i hi =>
    (k.block i (Nat.lt_of_lt_of_le hi h.size) (fun e => by have := hS i e; omega)).trans (h.block i hi)⟩
theorem Ar.ap {w w' : World} {b : Nat} {c : Array Value} {S : Nat → Prop} (h : Ar w b c) (k : Ap.Chg S w w') (hn : ¬ S b) : Ar w' b c := by
  have hl := h.lt
  obtain ⟨t, h⟩ := h
  exact ⟨t, (k.block b hl hn).trans h⟩
theorem Chg.non {w w' : World} (h : Ap.Chg Ap.Non w w') : Chg w w' := (Chg.refl w).ap h (fun i e => e.elim)

theorem spot_none {w : World} {a : Addr} {v : Value} (h : w.cell? a = some v) : a.spot = none := by
  unfold World.cell? at h
  cases hs : a.spot with
  | none => rfl
  | some s =>
    exfalso
    revert h
    split
    · simp [hs]
    · simp

theorem Rd.chg {w w' : World} {v : Value} {xs : List Int} (h : Ap.Rd w v xs) (k : Chg w w') : Ap.Rd w' v xs := h.keep (fun i _ hi => k.block i hi)
theorem OwnV.chg {w w' : World} {v : Value} {xs : List Int} (h : Ap.OwnV w v xs) (k : Chg w w') : Ap.OwnV w' v xs := h.keep (fun i e => k.block i (h.lt i e))
theorem OwnV.empty (u : World) : Ap.OwnV (u.alloc (.cells #[] 5)) (.slice (some ⟨u.heap.size, 0, none⟩) 0 0) [] :=
  .inr ⟨_, _, _, _, rfl, rfl, Nat.le_refl _, by decide, #[], heap_alloc_last u _, by simp, by simp⟩

structure OwnN (w : World) (w' : World) (v : Value) (xs : List Int) : Prop where
  own : Ap.OwnV w' v xs
  new : ∀ k, v.ownBlock = some k → w.heap.size ≤ k
  chg : Chg w w'
theorem OwnN.more {w u u' : World} {v v' : Value} {xs ys : List Int} (h : OwnN w u v xs) (h1 : Ap.OwnV u' v' ys) (h2 : Ap.Chg (fun k => v.ownBlock = some k) u u') (h3 : v'.ownBlock = v.ownBlock ∨ v'.ownBlock = some u.heap.size) : OwnN w u' v' ys := by
  refine ⟨h1, fun k e => ?_, h.chg.ap h2 h.new⟩
  rcases h3 with h3 | h3
  · rw [h3] at e
    exact h.new k e
  · rw [h3] at e
    injection e with e
    rw [← e]
    exact h.chg.size
theorem OwnN.alloc {w u : World} {v : Value} {xs : List Int} (h : OwnN w u v xs) (o : Obj) : OwnN w (u.alloc o) v xs :=
  ⟨h.own.keep (fun k e => Below.heap_alloc _ _ _ (h.own.lt k e)), h.new, h.chg.alloc o⟩



/-- The bytes of a number. -/
def bl (n : Nat) (V : Int) : List Int := (List.range n).map (dg 256 V)
theorem bl_len (n : Nat) (V : Int) : (bl n V).length = n := by simp [bl]
theorem bl_get {n j : Nat} (V : Int) (h : j < n) : (bl n V)[j]? = some (dg 256 V j) := by simp [bl, h]
theorem Rd.bz {w : World} {ao : Option Addr} {n c : Nat} {V : Int} (h : Ap.Rd w (.slice ao n c) (bl n V)) (hn : 0 < n) : n ≤ c ∧ c ≤ 9223372036854775807 ∧ ∃ b o, ao = some ⟨b, o, none⟩ ∧ Bz w b o n (dg 256 V) := by
  obtain ⟨ao', n', c', e, hl, hc, hmx, h0, hx⟩ := h
  injection e with e1 e2 e3
  subst e1 e2 e3
  refine ⟨hc, hmx, ?_⟩
  cases ao with
  | none => have := h0 rfl; omega
  | some x =>
    have h1 := hx x rfl 0 _ (bl_get V hn)
    have hs := spot_none h1
    have hs' : x.spot = none := by
      clear h1 hx h0 hmx hc hl hn
      unfold Addr.add at hs
      split at hs
      · assumption
      · simp_all
    obtain ⟨b, o, sp⟩ := x
    dsimp only at hs'
    subst hs'
    refine ⟨b, o, rfl, fun j hj => ?_⟩
    have h2 := hx _ rfl j _ (bl_get V hj)
    rw [addr_addY] at h2
    exact h2
theorem wideV_any (f V : Int) (ao : Option Addr) (n c : Nat) (hV : 0 ≤ V ∧ V < 256 ^ n) (hn : n ≤ 140737488355328) (w : World) (h : Ap.Rd w (.slice ao n c) (bl n V)) : Calls Try.prog 29 #[.int .i64 f, .slice ao n c] w fun r w' => r = .returned (.agg (num (md f V))) ∧ Chg w w' := by
  by_cases h0 : n = 0
  · subst h0
    have : V = 0 := by rw [Int.pow_zero] at hV; omega
    subst this
    exact wideN_any f ao c w
  · obtain ⟨h1, h2, b, o, rfl, h3⟩ := Rd.bz h (by omega)
    exact wide_any f V b o n c hV hn h1 h2 w h3
theorem wideRV_any (f V : Int) (ao : Option Addr) (n c : Nat) (hV : 0 ≤ V ∧ V < 256 ^ n) (hn : n ≤ 140737488355328) (w : World) (h : Ap.Rd w (.slice ao n c) (bl n V)) : Calls Try.prog 30 #[.int .i64 f, .slice ao n c] w fun r w' => r = .returned (.agg (num (md f V))) ∧ Chg w w' := by
  by_cases h0 : n = 0
  · subst h0
    have : V = 0 := by rw [Int.pow_zero] at hV; omega
    subst this
    exact wideRN_any f ao c w
  · obtain ⟨h1, h2, b, o, rfl, h3⟩ := Rd.bz h (by omega)
    exact wideR_any f V b o n c hV hn w h3
end Go.Proofs.Ytnahkcapbbjfdaa

namespace Go.Proofs.Ytnahkcapbbjfdaa
open Go.RowKit
set_option linter.unusedVariables false

theorem op_asgY {o : Oper} {a : Act} {w : World} {K : Act → World → Prop} {Q : Exit → Act → World → Prop} (x : Operand) (v : Value) (ho : o.op = .assign x) (hx : a.eval x = v) (hK : K (a.put o.dst v) w) : o.wp Try.prog a w K Q := by
  unfold Oper.wp
  rw [show (execOp a.eval o).run Try.prog w = .ok (.value v) w by simp [execOp, ho, hx], Oper.upon_value]
  exact hK

set_option maxRecDepth 100000 in
set_option maxHeartbeats 16000000 in
theorem bytes_walk (f vv x : Int) (ao : Option Addr) (n c : Nat) (hV : 0 ≤ vv ∧ vv < 256 ^ n) (hn : n ≤ 140737488355328) (hx : N256 x) (w : World) (h : Ap.Rd w (.slice ao n c) (bl n vv)) : Calls Try.prog 6 #[.int .i64 f, .slice ao n c, .agg (num x)] w fun r w' => r = .returned (.bool true) ∧ Chg w w' := by
  have HV : Hid ((0 ≤ vv ∧ vv < 256 ^ n) ∧ n ≤ 140737488355328 ∧ Ap.Rd w (.slice ao n c) (bl n vv)) := ⟨hV, hn, h⟩
  have HX : Hid (N256 x) := hx
  have HB : Hid (∀ i, B8 (dg 256 vv i)) := fun i => dg_bound (by decide) vv i
  have HF : Hid (∀ u, Calls Try.prog 33 #[.agg (byt (dg 256 x))] u fun r w' => r = .returned (.agg (num x)) ∧ Chg u w') := fun u => by
    have q := fromLE_any (dg 256 x) (fun i => dg_bound (by decide) x i) u
    rw [num_back hx] at q
    exact q
  have HT : Hid (∀ u, Calls Try.prog 35 #[.agg (num (val 256 32 (tu (dg 256 vv))))] u fun r w' => r = .returned (.agg (byt (dg 256 vv))) ∧ Chg u w') := fun u => by
    have q := toBE_any (val 256 32 (tu (dg 256 vv))) u
    rw [be_back HB.out] at q
    exact q
  have hzY := zero37.1
  have hsA := num_size x
  obtain ⟨A, hA⟩ : ∃ A, A = num x := ⟨_, rfl⟩
  have HA : Hid (A = num x) := hA
  rw [← hA] at hsA ⊢
  clear hA hV h hx
  go_enter Try.func6, Try.ntmps6
  go_upto_region 1 with fail
  obtain ⟨w0, hw0⟩ : ∃ w0, w0 = w.alloc (.cells A 25) := ⟨_, rfl⟩
  have Z0 : Hid (Chg w w0 ∧ Ar w0 w.heap.size (num x)) := by
    rw [hw0, HA.out]
    exact ⟨(Chg.refl w).alloc _, Ar.new w _ _⟩
  rw [← hw0]
  clear hw0 hsA
  go_wp2_with fail
  go_at_call 9
  refine (head_any _).mono ?_
  rintro r w1 ⟨rfl, hc1⟩
  have Z1 : Hid (Chg w w1 ∧ Ar w1 w.heap.size (num x)) := ⟨Z0.out.1.trans hc1, Z0.out.2.chg hc1⟩
  clear hc1 Z0 HA
  go_wp2_with fail
  obtain ⟨b8, hb8⟩ : ∃ b, b = w1.heap.size := ⟨_, rfl⟩
  obtain ⟨w2, hw2⟩ : ∃ v, v = w1.alloc (.cells (byt zD) 37) := ⟨_, rfl⟩
  have Z2 : Hid ((Chg w w2 ∧ Ar w2 w.heap.size (num x) ∧ Ar w2 b8 (arr .u8 32 (mixD 0 (dg 256 vv) zD)))) := by
    rw [hw2, hb8, mixD_zero]
    exact ⟨Z1.out.1.alloc _, Z1.out.2.alloc _, Ar.new w1 _ _⟩
  have HL : Hid (w.heap.size < b8) := by
    show w.heap.size < b8
    rw [hb8]
    exact Z1.out.2.lt
  rw [← hw2, ← hb8]
  clear hw2 hb8 Z1
  go_loopw [9] (fun v wr => ∃ (i : Nat), v = .int .i64 i ∧ i ≤ n ∧ i ≤ 32 ∧ Chg w wr ∧ Ar wr w.heap.size (num x) ∧ Ar wr b8 (arr .u8 32 (mixD i (dg 256 vv) zD))) (fun v wr => 32 - (intOf v).toNat)
  case atStart => exact ⟨0, rfl, by omega, by omega, Z2.out⟩
  case round =>
    clear Z2
    obtain ⟨i, rfl, hi, hi2, h1, h2, h3⟩ := hrel
    have Z : Hid (Chg w wr ∧ Ar wr w.heap.size (num x) ∧ Ar wr b8 (arr .u8 32 (mixD i (dg 256 vv) zD))) := ⟨h1, h2, h3⟩
    clear h1 h2 h3
    by_cases hin : i < n
    · by_cases h32 : i < 32
      · obtain ⟨-, -, b, o, rfl, hbz⟩ := Rd.bz HV.out.2.2 (by omega)
        have hd1 : decide ((i : Int) < n) = true := by simp; omega
        have hd2 : decide ((i : Int) < 32) = true := by simp; omega
        have l1 : (i : Int) < n := by omega
        have l2 : (i : Int) < 32 := by omega
        have c1 := (hbz.chg Z.out.1) i hin
        obtain ⟨y, hy⟩ : ∃ y, y = dg 256 vv i := ⟨_, rfl⟩
        rw [← hy] at c1
        have HY : Hid (y = dg 256 vv i) := hy
        have f3 := Z.out.2.2.frozen i
        have c3 := (Z.out.2.2.cell i).trans (arr_get .u8 32 _ h32)
        clear hy hbz
        go_wp2_with fail
        go_roundw
        case rel =>
          obtain ⟨k0, k1, k2⟩ := Z.out
          have hl := HL.out
          have hh := k2.set i (.int .u8 y)
          rw [arr_set, mixD_upd, HY.out, upd_self] at hh
          refine ⟨i + 1, by go_num, by omega, by omega, k0.setCell (by dsimp only; omega) _, k1.other (by dsimp only; omega) _, ?_⟩
          rw [HY.out]
          exact hh
        case measure => simp [intOf]; omega
      · have hd1 : decide ((i : Int) < n) = true := by simp; omega
        have hd2 : decide ((i : Int) < 32) = false := by simp; omega
        have l1 : (i : Int) < n := by omega
        have l2 : ¬ (i : Int) < 32 := by omega
        have Z2 : Hid ((Chg w wr ∧ Ar wr w.heap.size (num x) ∧ Ar wr b8 (byt (dg 256 vv)))) := by
          obtain ⟨k0, k1, k2⟩ := Z.out
          have e : arr .u8 32 (mixD i (dg 256 vv) zD) = byt (dg 256 vv) := byt_cut HV.out.1 i (by show i = min n 32; omega)
          rw [e] at k2
          exact ⟨k0, k1, k2⟩
        have Zr : Hid (Ap.Rd (wr.alloc (.cells #[] 5)) (.slice ao n c) (bl n vv)) := Rd.chg HV.out.2.2 (Z2.out.1.alloc _)
        clear Z
        go_wp2_with (at_builtin; refine Ap.wpList_app _ rfl _ _ rfl (.slice (some ⟨wr.heap.size, 0, none⟩) 0 0) (.slice ao n c) [] (bl n vv) rfl rfl (OwnV.empty wr) Zr.out (by rw [bl_len]; simp; exact HV.out.2.1) ?_)
        intro v2 w4 o2 cc2 b2
        have k0 : OwnN wr (wr.alloc (.cells #[] 5)) (.slice (some ⟨wr.heap.size, 0, none⟩) 0 0) [] := ⟨OwnV.empty wr, fun k e => by simp [Value.ownBlock] at e; omega, (Chg.refl wr).alloc _⟩
        have k2' := k0.more o2 cc2 (by first | exact b2 | (rw [World.size_alloc]; exact b2))
        obtain ⟨oo, m, oc, rfl, hm, -⟩ := o2.rd.shape
        rw [bl_len] at hm
        subst hm
        have Z4 : Hid ((Chg w w4 ∧ Ar w4 w.heap.size (num x) ∧ Ar w4 b8 (byt (dg 256 vv))) ∧ Ap.Rd w4 (.slice oo m oc) (bl m vv) ∧ Ap.Rd w4 (.slice ao m c) (bl m vv)) := ⟨⟨Z2.out.1.trans k2'.chg, Z2.out.2.1.chg k2'.chg, Z2.out.2.2.chg k2'.chg⟩, o2.rd, Rd.chg HV.out.2.2 (Z2.out.1.trans k2'.chg)⟩
        clear k0 k2' o2 cc2 b2 Zr Z2
        go_wp2_with fail
        go_at_call 29
        refine (wideV_any f vv oo m oc HV.out.1 HV.out.2.1 _ Z4.out.2.1).mono ?_
        rintro r w5 ⟨rfl, hc5⟩
        have Z5 : Hid ((Chg w w5 ∧ Ar w5 w.heap.size (num x) ∧ Ar w5 b8 (byt (dg 256 vv))) ∧ Ap.Rd w5 (.slice oo m oc) (bl m vv) ∧ Ap.Rd w5 (.slice ao m c) (bl m vv)) := ⟨⟨Z4.out.1.1.trans hc5, Z4.out.1.2.1.chg hc5, Z4.out.1.2.2.chg hc5⟩, Rd.chg Z4.out.2.1 hc5, Rd.chg Z4.out.2.2 hc5⟩
        clear hc5 Z4
        go_wp2_with fail
        go_at_call 30
        refine (wideRV_any f vv ao m c HV.out.1 HV.out.2.1 _ Z5.out.2.2).mono ?_
        rintro r w6 ⟨rfl, hc6⟩
        have Z6 : Hid ((Chg w w6 ∧ Ar w6 w.heap.size (num x) ∧ Ar w6 b8 (byt (dg 256 vv))) ∧ Ap.Rd w6 (.slice oo m oc) (bl m vv) ∧ Ap.Rd w6 (.slice ao m c) (bl m vv)) := ⟨⟨Z5.out.1.1.trans hc6, Z5.out.1.2.1.chg hc6, Z5.out.1.2.2.chg hc6⟩, Rd.chg Z5.out.2.1 hc6, Rd.chg Z5.out.2.2 hc6⟩
        clear hc6 Z5
        have hq : ∀ u, (Op.equalIn 10000 25 (.agg (num (md f vv))) (.agg (num (md f vv)))).run Try.prog u = .ok true u := fun u => eq_self (md_N f vv) u
        go_upto_region 9 with fail
        clear hq
        go_cut [12] from 41 to 60 (fun v wc => v = .bool true ∧ Chg w6 wc)
        case first =>
          refine wp_region_good 19 (fun j v wg => match j with
            | 0 => v = .agg (num x)
            | 1 => v = .agg (byt (dg 256 x))
            | 2 => v = .agg (num x)
            | 3 => v = .agg (byt (dg 256 x))
            | 4 => v = .bool true
            | 5 => v = .bool true
            | 6 => v = .agg (byt (dg 256 vv))
            | 7 => v = .agg (num (val 256 32 (dg 256 vv)))
            | 8 => v = .agg (byt (dg 256 vv))
            | 9 => v = .agg (num (val 256 32 (dg 256 vv)))
            | 10 => v = .bool true
            | 11 => v = .bool true
            | 12 => v = .bool true
            | 13 => v = .agg (num x)
            | 14 => v = .agg (byt (dg 256 x))
            | 15 => v = .agg (num x)
            | 16 => v = .agg (num x)
            | 17 => v = .bool true
            | 18 => v = .bool true
            | _ => True) (by kernel_rfl) (by kernel_rfl) (by kernel_rfl) (by kernel_rfl) (by kernel_rfl) ?_ ?_ ?_
          · intro j v u1 u2 h hc
            match j, h with
            | 0, h => exact h
            | 1, h => exact h
            | 2, h => exact h
            | 3, h => exact h
            | 4, h => exact h
            | 5, h => exact h
            | 6, h => exact h
            | 7, h => exact h
            | 8, h => exact h
            | 9, h => exact h
            | 10, h => exact h
            | 11, h => exact h
            | 12, h => exact h
            | 13, h => exact h
            | 14, h => exact h
            | 15, h => exact h
            | 16, h => exact h
            | 17, h => exact h
            | 18, h => exact h
            | _ + 19, h => exact trivial
          · intro i o ac u hi ho hsz hf hg hc
            have hcs : i = 0 ∨ i = 1 ∨ i = 2 ∨ i = 3 ∨ i = 4 ∨ i = 5 ∨ i = 6 ∨ i = 7 ∨ i = 8 ∨ i = 9 ∨ i = 10 ∨ i = 11 ∨ i = 12 ∨ i = 13 ∨ i = 14 ∨ i = 15 ∨ i = 16 ∨ i = 17 ∨ i = 18 := by omega
            rcases hcs with rfl | rfl | rfl | rfl | rfl | rfl | rfl | rfl | rfl | rfl | rfl | rfl | rfl | rfl | rfl | rfl | rfl | rfl | rfl
            · injection ho with ho
              subst ho
              refine .inl ⟨wanted_none rfl, ?_⟩
              have e1 : ac.eval (.tmp 5) = .pointer (some ⟨w.heap.size, 0, none⟩) := hf 5 (by kernel_rfl)
              exact wp_load_mid 25 (.tmp 5) rfl _ _ e1 ((num x).toList) _ (rangeN (Ar.chg (w := w6.drew) Z6.out.1.2.1 hc)) Go.Proofs.Ytnahkcapbbjfdaa.u25 rfl (infoN _) ⟨_, rfl, rfl, Chg.refl _⟩
            · injection ho with ho
              subst ho
              refine .inl ⟨wanted_none rfl, ?_⟩
              have e1 : ac.eval (.tmp 41) = .agg (num x) := hg 0 (by kernel_rfl) (by decide)
              refine opG_go 31 Try.f31 #[.tmp 41] #[25] rfl Try.func31 (by kernel_rfl) (by kernel_rfl) (by simp [e1]) (Calls.mono (toLE_any x _) ?_)
              rintro r u2 ⟨rfl, hc2⟩
              exact ⟨_, rfl, rfl, hc2⟩
            · injection ho with ho
              subst ho
              refine .inl ⟨wanted_none rfl, ?_⟩
              have e1 : ac.eval (.tmp 5) = .pointer (some ⟨w.heap.size, 0, none⟩) := hf 5 (by kernel_rfl)
              exact wp_load_mid 25 (.tmp 5) rfl _ _ e1 ((num x).toList) _ (rangeN (Ar.chg (w := w6.drew) Z6.out.1.2.1 hc)) Go.Proofs.Ytnahkcapbbjfdaa.u25 rfl (infoN _) ⟨_, rfl, rfl, Chg.refl _⟩
            · injection ho with ho
              subst ho
              refine .inl ⟨wanted_none rfl, ?_⟩
              have e1 : ac.eval (.tmp 43) = .agg (num x) := hg 2 (by kernel_rfl) (by decide)
              refine opG_go 32 Try.f32 #[.tmp 43] #[25] rfl Try.func32 (by kernel_rfl) (by kernel_rfl) (by simp [e1]) (Calls.mono (toLER_any x _) ?_)
              rintro r u2 ⟨rfl, hc2⟩
              exact ⟨_, rfl, rfl, hc2⟩
            · injection ho with ho
              subst ho
              refine .inl ⟨wanted_none rfl, ?_⟩
              have e1 : ac.eval (.tmp 42) = .agg (byt (dg 256 x)) := hg 1 (by kernel_rfl) (by decide)
              have e2 : ac.eval (.tmp 44) = .agg (byt (dg 256 x)) := hg 3 (by kernel_rfl) (by decide)
              exact opG_val (by revert e1 e2; generalize ac.eval = ρ; intro e1 e2; simp [go_sem, execOp, e1, e2, eqB_self (dg 256 x)]) rfl (Chg.refl _)
            · injection ho with ho
              subst ho
              refine .inl ⟨wanted_none rfl, ?_⟩
              have e1 : ac.eval (.tmp 45) = .bool true := hg 4 (by kernel_rfl) (by decide)
              exact opG_val (by simp [execOp, e1]) rfl (Chg.refl _)
            · injection ho with ho
              subst ho
              refine .inl ⟨wanted_by (T := _) (by kernel_rfl) hsz rfl (by decide : 5 < 19) rfl (hg 5 (by kernel_rfl) (by decide)), ?_⟩
              have e1 : ac.eval (.tmp 8) = .pointer (some ⟨b8, 0, none⟩) := hf 8 (by kernel_rfl)
              exact wp_load_mid 37 (.tmp 8) rfl _ _ e1 ((byt (dg 256 vv)).toList) _ (rangeA (Ar.chg (w := w6.drew) Z6.out.1.2.2 hc)) un37 rfl (infoY _) ⟨_, rfl, rfl, Chg.refl _⟩
            · injection ho with ho
              subst ho
              refine .inl ⟨wanted_by (T := _) (by kernel_rfl) hsz rfl (by decide : 5 < 19) rfl (hg 5 (by kernel_rfl) (by decide)), ?_⟩
              have e1 : ac.eval (.tmp 47) = .agg (byt (dg 256 vv)) := hg 6 (by kernel_rfl) (by decide)
              refine opG_go 33 Try.f33 #[.tmp 47] #[37] rfl Try.func33 (by kernel_rfl) (by kernel_rfl) (by simp [e1]) (Calls.mono (fromLE_any _ HB.out _) ?_)
              rintro r u2 ⟨rfl, hc2⟩
              exact ⟨_, rfl, rfl, hc2⟩
            · injection ho with ho
              subst ho
              refine .inl ⟨wanted_by (T := _) (by kernel_rfl) hsz rfl (by decide : 5 < 19) rfl (hg 5 (by kernel_rfl) (by decide)), ?_⟩
              have e1 : ac.eval (.tmp 8) = .pointer (some ⟨b8, 0, none⟩) := hf 8 (by kernel_rfl)
              exact wp_load_mid 37 (.tmp 8) rfl _ _ e1 ((byt (dg 256 vv)).toList) _ (rangeA (Ar.chg (w := w6.drew) Z6.out.1.2.2 hc)) un37 rfl (infoY _) ⟨_, rfl, rfl, Chg.refl _⟩
            · injection ho with ho
              subst ho
              refine .inl ⟨wanted_by (T := _) (by kernel_rfl) hsz rfl (by decide : 5 < 19) rfl (hg 5 (by kernel_rfl) (by decide)), ?_⟩
              have e1 : ac.eval (.tmp 49) = .agg (byt (dg 256 vv)) := hg 8 (by kernel_rfl) (by decide)
              refine opG_go 34 Try.f34 #[.tmp 49] #[37] rfl Try.func34 (by kernel_rfl) (by kernel_rfl) (by simp [e1]) (Calls.mono (fromLER_any _ HB.out _) ?_)
              rintro r u2 ⟨rfl, hc2⟩
              exact ⟨_, rfl, rfl, hc2⟩
            · injection ho with ho
              subst ho
              refine .inl ⟨wanted_by (T := _) (by kernel_rfl) hsz rfl (by decide : 5 < 19) rfl (hg 5 (by kernel_rfl) (by decide)), ?_⟩
              have e1 : ac.eval (.tmp 48) = .agg (num (val 256 32 (dg 256 vv))) := hg 7 (by kernel_rfl) (by decide)
              have e2 : ac.eval (.tmp 50) = .agg (num (val 256 32 (dg 256 vv))) := hg 9 (by kernel_rfl) (by decide)
              exact opG_val (by revert e1 e2; generalize ac.eval = ρ; intro e1 e2; simp [go_sem, execOp, e1, e2, eq_self (N_val HB.out)]) rfl (Chg.refl _)
            · injection ho with ho
              subst ho
              refine .inl ⟨wanted_none rfl, ?_⟩
              have e1 : ac.eval (.tmp 46) = .bool true := hg 5 (by kernel_rfl) (by decide)
              have e2 : ac.eval (.tmp 51) = .bool true := hg 10 (by kernel_rfl) (by decide)
              have e3 : ac.eval (.const (.bool false)) = .bool false := rfl
              exact opG_val (by revert e1 e2 e3; generalize ac.eval = ρ; intro e1 e2 e3; simp [go_sem, execOp, e1, e2, e3]) rfl (Chg.refl _)
            · injection ho with ho
              subst ho
              refine .inl ⟨wanted_none rfl, ?_⟩
              have e1 : ac.eval (.tmp 52) = .bool true := hg 11 (by kernel_rfl) (by decide)
              exact opG_val (by simp [execOp, e1]) rfl (Chg.refl _)
            · injection ho with ho
              subst ho
              refine .inl ⟨wanted_by (T := _) (by kernel_rfl) hsz rfl (by decide : 12 < 19) rfl (hg 12 (by kernel_rfl) (by decide)), ?_⟩
              have e1 : ac.eval (.tmp 5) = .pointer (some ⟨w.heap.size, 0, none⟩) := hf 5 (by kernel_rfl)
              exact wp_load_mid 25 (.tmp 5) rfl _ _ e1 ((num x).toList) _ (rangeN (Ar.chg (w := w6.drew) Z6.out.1.2.1 hc)) Go.Proofs.Ytnahkcapbbjfdaa.u25 rfl (infoN _) ⟨_, rfl, rfl, Chg.refl _⟩
            · injection ho with ho
              subst ho
              refine .inl ⟨wanted_by (T := _) (by kernel_rfl) hsz rfl (by decide : 12 < 19) rfl (hg 12 (by kernel_rfl) (by decide)), ?_⟩
              have e1 : ac.eval (.tmp 54) = .agg (num x) := hg 13 (by kernel_rfl) (by decide)
              refine opG_go 31 Try.f31 #[.tmp 54] #[25] rfl Try.func31 (by kernel_rfl) (by kernel_rfl) (by simp [e1]) (Calls.mono (toLE_any x _) ?_)
              rintro r u2 ⟨rfl, hc2⟩
              exact ⟨_, rfl, rfl, hc2⟩
            · injection ho with ho
              subst ho
              refine .inl ⟨wanted_by (T := _) (by kernel_rfl) hsz rfl (by decide : 12 < 19) rfl (hg 12 (by kernel_rfl) (by decide)), ?_⟩
              have e1 : ac.eval (.tmp 55) = .agg (byt (dg 256 x)) := hg 14 (by kernel_rfl) (by decide)
              refine opG_go 33 Try.f33 #[.tmp 55] #[37] rfl Try.func33 (by kernel_rfl) (by kernel_rfl) (by simp [e1]) (Calls.mono (HF.out _) ?_)
              rintro r u2 ⟨rfl, hc2⟩
              exact ⟨_, rfl, rfl, hc2⟩
            · injection ho with ho
              subst ho
              refine .inl ⟨wanted_by (T := _) (by kernel_rfl) hsz rfl (by decide : 12 < 19) rfl (hg 12 (by kernel_rfl) (by decide)), ?_⟩
              have e1 : ac.eval (.tmp 5) = .pointer (some ⟨w.heap.size, 0, none⟩) := hf 5 (by kernel_rfl)
              exact wp_load_mid 25 (.tmp 5) rfl _ _ e1 ((num x).toList) _ (rangeN (Ar.chg (w := w6.drew) Z6.out.1.2.1 hc)) Go.Proofs.Ytnahkcapbbjfdaa.u25 rfl (infoN _) ⟨_, rfl, rfl, Chg.refl _⟩
            · injection ho with ho
              subst ho
              refine .inl ⟨wanted_by (T := _) (by kernel_rfl) hsz rfl (by decide : 12 < 19) rfl (hg 12 (by kernel_rfl) (by decide)), ?_⟩
              have e1 : ac.eval (.tmp 56) = .agg (num x) := hg 15 (by kernel_rfl) (by decide)
              have e2 : ac.eval (.tmp 57) = .agg (num x) := hg 16 (by kernel_rfl) (by decide)
              exact opG_val (by revert e1 e2; generalize ac.eval = ρ; intro e1 e2; simp [go_sem, execOp, e1, e2, eq_self HX.out]) rfl (Chg.refl _)
            · injection ho with ho
              subst ho
              refine .inl ⟨wanted_none rfl, ?_⟩
              have e1 : ac.eval (.tmp 53) = .bool true := hg 12 (by kernel_rfl) (by decide)
              have e2 : ac.eval (.tmp 58) = .bool true := hg 17 (by kernel_rfl) (by decide)
              have e3 : ac.eval (.const (.bool false)) = .bool false := rfl
              exact opG_val (by revert e1 e2 e3; generalize ac.eval = ρ; intro e1 e2 e3; simp [go_sem, execOp, e1, e2, e3]) rfl (Chg.refl _)
          · intro o u V ho hV hc
            injection ho with ho
            subst ho
            refine ⟨rfl, ?_⟩
            have q41 : V 0 = .agg (num x) := hV 0 (by decide)
            have q42 : V 1 = .agg (byt (dg 256 x)) := hV 1 (by decide)
            have q43 : V 2 = .agg (num x) := hV 2 (by decide)
            have q44 : V 3 = .agg (byt (dg 256 x)) := hV 3 (by decide)
            have q45 : V 4 = .bool true := hV 4 (by decide)
            have q46 : V 5 = .bool true := hV 5 (by decide)
            have q47 : V 6 = .agg (byt (dg 256 vv)) := hV 6 (by decide)
            have q48 : V 7 = .agg (num (val 256 32 (dg 256 vv))) := hV 7 (by decide)
            have q49 : V 8 = .agg (byt (dg 256 vv)) := hV 8 (by decide)
            have q50 : V 9 = .agg (num (val 256 32 (dg 256 vv))) := hV 9 (by decide)
            have q51 : V 10 = .bool true := hV 10 (by decide)
            have q52 : V 11 = .bool true := hV 11 (by decide)
            have q53 : V 12 = .bool true := hV 12 (by decide)
            have q54 : V 13 = .agg (num x) := hV 13 (by decide)
            have q55 : V 14 = .agg (byt (dg 256 x)) := hV 14 (by decide)
            have q56 : V 15 = .agg (num x) := hV 15 (by decide)
            have q57 : V 16 = .agg (num x) := hV 16 (by decide)
            have q58 : V 17 = .bool true := hV 17 (by decide)
            have q59 : V 18 = .bool true := hV 18 (by decide)
            refine op_asgY (.tmp 59) (.bool true) rfl (Eq.trans (by rfl) q59) ?_
            go_wp2_with fail
            go_meet
            exact ⟨rfl, (Chg.refl w6).drew.trans hc⟩
        case rest =>
          obtain ⟨rfl, hcc⟩ := hcut
          obtain ⟨w7, hw7⟩ : ∃ w2, w2 = wc := ⟨_, rfl⟩
          have Z7 : Hid ((Chg w w7 ∧ Ar w7 w.heap.size (num x) ∧ Ar w7 b8 (byt (dg 256 vv))) ∧ Ap.Rd w7 (.slice oo m oc) (bl m vv) ∧ Ap.Rd w7 (.slice ao m c) (bl m vv)) := by
            rw [hw7]
            exact ⟨⟨Z6.out.1.1.trans hcc, Z6.out.1.2.1.chg hcc, Z6.out.1.2.2.chg hcc⟩, Rd.chg Z6.out.2.1 hcc, Rd.chg Z6.out.2.2 hcc⟩
          rw [← hw7]
          clear hw7 hcc Z6
          go_upto_region 10 with fail
          go_cut [13] from 60 to 79 (fun v wc => v = .bool true ∧ Chg w7 wc)
          case first =>
            refine wp_region_good 19 (fun j v wg => match j with
              | 0 => v = .agg (num x)
              | 1 => v = .agg (byt (tu (dg 256 x)))
              | 2 => v = .agg (num x)
              | 3 => v = .agg (byt (tu (dg 256 x)))
              | 4 => v = .bool true
              | 5 => v = .bool true
              | 6 => v = .agg (byt (dg 256 vv))
              | 7 => v = .agg (num (val 256 32 (tu (dg 256 vv))))
              | 8 => v = .agg (byt (dg 256 vv))
              | 9 => v = .agg (num (val 256 32 (tu (dg 256 vv))))
              | 10 => v = .bool true
              | 11 => v = .bool true
              | 12 => v = .bool true
              | 13 => v = .agg (byt (dg 256 vv))
              | 14 => v = .agg (num (val 256 32 (tu (dg 256 vv))))
              | 15 => v = .agg (byt (dg 256 vv))
              | 16 => v = .agg (byt (dg 256 vv))
              | 17 => v = .bool true
              | 18 => v = .bool true
              | _ => True) (by kernel_rfl) (by kernel_rfl) (by kernel_rfl) (by kernel_rfl) (by kernel_rfl) ?_ ?_ ?_
            · intro j v u1 u2 h hc
              match j, h with
              | 0, h => exact h
              | 1, h => exact h
              | 2, h => exact h
              | 3, h => exact h
              | 4, h => exact h
              | 5, h => exact h
              | 6, h => exact h
              | 7, h => exact h
              | 8, h => exact h
              | 9, h => exact h
              | 10, h => exact h
              | 11, h => exact h
              | 12, h => exact h
              | 13, h => exact h
              | 14, h => exact h
              | 15, h => exact h
              | 16, h => exact h
              | 17, h => exact h
              | 18, h => exact h
              | _ + 19, h => exact trivial
            · intro i o ac u hi ho hsz hf hg hc
              have hcs : i = 0 ∨ i = 1 ∨ i = 2 ∨ i = 3 ∨ i = 4 ∨ i = 5 ∨ i = 6 ∨ i = 7 ∨ i = 8 ∨ i = 9 ∨ i = 10 ∨ i = 11 ∨ i = 12 ∨ i = 13 ∨ i = 14 ∨ i = 15 ∨ i = 16 ∨ i = 17 ∨ i = 18 := by omega
              rcases hcs with rfl | rfl | rfl | rfl | rfl | rfl | rfl | rfl | rfl | rfl | rfl | rfl | rfl | rfl | rfl | rfl | rfl | rfl | rfl
              · injection ho with ho
                subst ho
                refine .inl ⟨wanted_none rfl, ?_⟩
                have e1 : ac.eval (.tmp 5) = .pointer (some ⟨w.heap.size, 0, none⟩) := hf 5 (by kernel_rfl)
                exact wp_load_mid 25 (.tmp 5) rfl _ _ e1 ((num x).toList) _ (rangeN (Ar.chg (w := w7.drew) Z7.out.1.2.1 hc)) Go.Proofs.Ytnahkcapbbjfdaa.u25 rfl (infoN _) ⟨_, rfl, rfl, Chg.refl _⟩
              · injection ho with ho
                subst ho
                refine .inl ⟨wanted_none rfl, ?_⟩
                have e1 : ac.eval (.tmp 60) = .agg (num x) := hg 0 (by kernel_rfl) (by decide)
                refine opG_go 35 Try.f35 #[.tmp 60] #[25] rfl Try.func35 (by kernel_rfl) (by kernel_rfl) (by simp [e1]) (Calls.mono (toBE_any x _) ?_)
                rintro r u2 ⟨rfl, hc2⟩
                exact ⟨_, rfl, rfl, hc2⟩
              · injection ho with ho
                subst ho
                refine .inl ⟨wanted_none rfl, ?_⟩
                have e1 : ac.eval (.tmp 5) = .pointer (some ⟨w.heap.size, 0, none⟩) := hf 5 (by kernel_rfl)
                exact wp_load_mid 25 (.tmp 5) rfl _ _ e1 ((num x).toList) _ (rangeN (Ar.chg (w := w7.drew) Z7.out.1.2.1 hc)) Go.Proofs.Ytnahkcapbbjfdaa.u25 rfl (infoN _) ⟨_, rfl, rfl, Chg.refl _⟩
              · injection ho with ho
                subst ho
                refine .inl ⟨wanted_none rfl, ?_⟩
                have e1 : ac.eval (.tmp 62) = .agg (num x) := hg 2 (by kernel_rfl) (by decide)
                refine opG_go 36 Try.f36 #[.tmp 62] #[25] rfl Try.func36 (by kernel_rfl) (by kernel_rfl) (by simp [e1]) (Calls.mono (toBER_any x _) ?_)
                rintro r u2 ⟨rfl, hc2⟩
                exact ⟨_, rfl, rfl, hc2⟩
              · injection ho with ho
                subst ho
                refine .inl ⟨wanted_none rfl, ?_⟩
                have e1 : ac.eval (.tmp 61) = .agg (byt (tu (dg 256 x))) := hg 1 (by kernel_rfl) (by decide)
                have e2 : ac.eval (.tmp 63) = .agg (byt (tu (dg 256 x))) := hg 3 (by kernel_rfl) (by decide)
                exact opG_val (by revert e1 e2; generalize ac.eval = ρ; intro e1 e2; simp [go_sem, execOp, e1, e2, eqB_self (tu (dg 256 x))]) rfl (Chg.refl _)
              · injection ho with ho
                subst ho
                refine .inl ⟨wanted_none rfl, ?_⟩
                have e1 : ac.eval (.tmp 64) = .bool true := hg 4 (by kernel_rfl) (by decide)
                exact opG_val (by simp [execOp, e1]) rfl (Chg.refl _)
              · injection ho with ho
                subst ho
                refine .inl ⟨wanted_by (T := _) (by kernel_rfl) hsz rfl (by decide : 5 < 19) rfl (hg 5 (by kernel_rfl) (by decide)), ?_⟩
                have e1 : ac.eval (.tmp 8) = .pointer (some ⟨b8, 0, none⟩) := hf 8 (by kernel_rfl)
                exact wp_load_mid 37 (.tmp 8) rfl _ _ e1 ((byt (dg 256 vv)).toList) _ (rangeA (Ar.chg (w := w7.drew) Z7.out.1.2.2 hc)) un37 rfl (infoY _) ⟨_, rfl, rfl, Chg.refl _⟩
              · injection ho with ho
                subst ho
                refine .inl ⟨wanted_by (T := _) (by kernel_rfl) hsz rfl (by decide : 5 < 19) rfl (hg 5 (by kernel_rfl) (by decide)), ?_⟩
                have e1 : ac.eval (.tmp 66) = .agg (byt (dg 256 vv)) := hg 6 (by kernel_rfl) (by decide)
                refine opG_go 37 Try.f37 #[.tmp 66] #[37] rfl Try.func37 (by kernel_rfl) (by kernel_rfl) (by simp [e1]) (Calls.mono (fromBE_any _ HB.out _) ?_)
                rintro r u2 ⟨rfl, hc2⟩
                exact ⟨_, rfl, rfl, hc2⟩
              · injection ho with ho
                subst ho
                refine .inl ⟨wanted_by (T := _) (by kernel_rfl) hsz rfl (by decide : 5 < 19) rfl (hg 5 (by kernel_rfl) (by decide)), ?_⟩
                have e1 : ac.eval (.tmp 8) = .pointer (some ⟨b8, 0, none⟩) := hf 8 (by kernel_rfl)
                exact wp_load_mid 37 (.tmp 8) rfl _ _ e1 ((byt (dg 256 vv)).toList) _ (rangeA (Ar.chg (w := w7.drew) Z7.out.1.2.2 hc)) un37 rfl (infoY _) ⟨_, rfl, rfl, Chg.refl _⟩
              · injection ho with ho
                subst ho
                refine .inl ⟨wanted_by (T := _) (by kernel_rfl) hsz rfl (by decide : 5 < 19) rfl (hg 5 (by kernel_rfl) (by decide)), ?_⟩
                have e1 : ac.eval (.tmp 68) = .agg (byt (dg 256 vv)) := hg 8 (by kernel_rfl) (by decide)
                refine opG_go 38 Try.f38 #[.tmp 68] #[37] rfl Try.func38 (by kernel_rfl) (by kernel_rfl) (by simp [e1]) (Calls.mono (fromBER_any _ HB.out _) ?_)
                rintro r u2 ⟨rfl, hc2⟩
                exact ⟨_, rfl, rfl, hc2⟩
              · injection ho with ho
                subst ho
                refine .inl ⟨wanted_by (T := _) (by kernel_rfl) hsz rfl (by decide : 5 < 19) rfl (hg 5 (by kernel_rfl) (by decide)), ?_⟩
                have e1 : ac.eval (.tmp 67) = .agg (num (val 256 32 (tu (dg 256 vv)))) := hg 7 (by kernel_rfl) (by decide)
                have e2 : ac.eval (.tmp 69) = .agg (num (val 256 32 (tu (dg 256 vv)))) := hg 9 (by kernel_rfl) (by decide)
                exact opG_val (by revert e1 e2; generalize ac.eval = ρ; intro e1 e2; simp [go_sem, execOp, e1, e2, eq_self (x := val 256 32 (tu (dg 256 vv))) (N_val (fun i => HB.out (31 - i)))]) rfl (Chg.refl _)
              · injection ho with ho
                subst ho
                refine .inl ⟨wanted_none rfl, ?_⟩
                have e1 : ac.eval (.tmp 65) = .bool true := hg 5 (by kernel_rfl) (by decide)
                have e2 : ac.eval (.tmp 70) = .bool true := hg 10 (by kernel_rfl) (by decide)
                have e3 : ac.eval (.const (.bool false)) = .bool false := rfl
                exact opG_val (by revert e1 e2 e3; generalize ac.eval = ρ; intro e1 e2 e3; simp [go_sem, execOp, e1, e2, e3]) rfl (Chg.refl _)
              · injection ho with ho
                subst ho
                refine .inl ⟨wanted_none rfl, ?_⟩
                have e1 : ac.eval (.tmp 71) = .bool true := hg 11 (by kernel_rfl) (by decide)
                exact opG_val (by simp [execOp, e1]) rfl (Chg.refl _)
              · injection ho with ho
                subst ho
                refine .inl ⟨wanted_by (T := _) (by kernel_rfl) hsz rfl (by decide : 12 < 19) rfl (hg 12 (by kernel_rfl) (by decide)), ?_⟩
                have e1 : ac.eval (.tmp 8) = .pointer (some ⟨b8, 0, none⟩) := hf 8 (by kernel_rfl)
                exact wp_load_mid 37 (.tmp 8) rfl _ _ e1 ((byt (dg 256 vv)).toList) _ (rangeA (Ar.chg (w := w7.drew) Z7.out.1.2.2 hc)) un37 rfl (infoY _) ⟨_, rfl, rfl, Chg.refl _⟩
              · injection ho with ho
                subst ho
                refine .inl ⟨wanted_by (T := _) (by kernel_rfl) hsz rfl (by decide : 12 < 19) rfl (hg 12 (by kernel_rfl) (by decide)), ?_⟩
                have e1 : ac.eval (.tmp 73) = .agg (byt (dg 256 vv)) := hg 13 (by kernel_rfl) (by decide)
                refine opG_go 37 Try.f37 #[.tmp 73] #[37] rfl Try.func37 (by kernel_rfl) (by kernel_rfl) (by simp [e1]) (Calls.mono (fromBE_any _ HB.out _) ?_)
                rintro r u2 ⟨rfl, hc2⟩
                exact ⟨_, rfl, rfl, hc2⟩
              · injection ho with ho
                subst ho
                refine .inl ⟨wanted_by (T := _) (by kernel_rfl) hsz rfl (by decide : 12 < 19) rfl (hg 12 (by kernel_rfl) (by decide)), ?_⟩
                have e1 : ac.eval (.tmp 74) = .agg (num (val 256 32 (tu (dg 256 vv)))) := hg 14 (by kernel_rfl) (by decide)
                refine opG_go 35 Try.f35 #[.tmp 74] #[25] rfl Try.func35 (by kernel_rfl) (by kernel_rfl) (by simp [e1]) (Calls.mono (HT.out _) ?_)
                rintro r u2 ⟨rfl, hc2⟩
                exact ⟨_, rfl, rfl, hc2⟩
              · injection ho with ho
                subst ho
                refine .inl ⟨wanted_by (T := _) (by kernel_rfl) hsz rfl (by decide : 12 < 19) rfl (hg 12 (by kernel_rfl) (by decide)), ?_⟩
                have e1 : ac.eval (.tmp 8) = .pointer (some ⟨b8, 0, none⟩) := hf 8 (by kernel_rfl)
                exact wp_load_mid 37 (.tmp 8) rfl _ _ e1 ((byt (dg 256 vv)).toList) _ (rangeA (Ar.chg (w := w7.drew) Z7.out.1.2.2 hc)) un37 rfl (infoY _) ⟨_, rfl, rfl, Chg.refl _⟩
              · injection ho with ho
                subst ho
                refine .inl ⟨wanted_by (T := _) (by kernel_rfl) hsz rfl (by decide : 12 < 19) rfl (hg 12 (by kernel_rfl) (by decide)), ?_⟩
                have e1 : ac.eval (.tmp 75) = .agg (byt (dg 256 vv)) := hg 15 (by kernel_rfl) (by decide)
                have e2 : ac.eval (.tmp 76) = .agg (byt (dg 256 vv)) := hg 16 (by kernel_rfl) (by decide)
                exact opG_val (by revert e1 e2; generalize ac.eval = ρ; intro e1 e2; simp [go_sem, execOp, e1, e2, eqB_self (dg 256 vv)]) rfl (Chg.refl _)
              · injection ho with ho
                subst ho
                refine .inl ⟨wanted_none rfl, ?_⟩
                have e1 : ac.eval (.tmp 72) = .bool true := hg 12 (by kernel_rfl) (by decide)
                have e2 : ac.eval (.tmp 77) = .bool true := hg 17 (by kernel_rfl) (by decide)
                have e3 : ac.eval (.const (.bool false)) = .bool false := rfl
                exact opG_val (by revert e1 e2 e3; generalize ac.eval = ρ; intro e1 e2 e3; simp [go_sem, execOp, e1, e2, e3]) rfl (Chg.refl _)
            · intro o u V ho hV hc
              injection ho with ho
              subst ho
              refine ⟨rfl, ?_⟩
              have q60 : V 0 = .agg (num x) := hV 0 (by decide)
              have q61 : V 1 = .agg (byt (tu (dg 256 x))) := hV 1 (by decide)
              have q62 : V 2 = .agg (num x) := hV 2 (by decide)
              have q63 : V 3 = .agg (byt (tu (dg 256 x))) := hV 3 (by decide)
              have q64 : V 4 = .bool true := hV 4 (by decide)
              have q65 : V 5 = .bool true := hV 5 (by decide)
              have q66 : V 6 = .agg (byt (dg 256 vv)) := hV 6 (by decide)
              have q67 : V 7 = .agg (num (val 256 32 (tu (dg 256 vv)))) := hV 7 (by decide)
              have q68 : V 8 = .agg (byt (dg 256 vv)) := hV 8 (by decide)
              have q69 : V 9 = .agg (num (val 256 32 (tu (dg 256 vv)))) := hV 9 (by decide)
              have q70 : V 10 = .bool true := hV 10 (by decide)
              have q71 : V 11 = .bool true := hV 11 (by decide)
              have q72 : V 12 = .bool true := hV 12 (by decide)
              have q73 : V 13 = .agg (byt (dg 256 vv)) := hV 13 (by decide)
              have q74 : V 14 = .agg (num (val 256 32 (tu (dg 256 vv)))) := hV 14 (by decide)
              have q75 : V 15 = .agg (byt (dg 256 vv)) := hV 15 (by decide)
              have q76 : V 16 = .agg (byt (dg 256 vv)) := hV 16 (by decide)
              have q77 : V 17 = .bool true := hV 17 (by decide)
              have q78 : V 18 = .bool true := hV 18 (by decide)
              refine op_asgY (.tmp 78) (.bool true) rfl (Eq.trans (by rfl) q78) ?_
              go_wp2_with fail
              go_meet
              exact ⟨rfl, (Chg.refl w7).drew.trans hc⟩
          case rest =>
            obtain ⟨rfl, hcc⟩ := hcut
            obtain ⟨w8, hw8⟩ : ∃ w2, w2 = wc := ⟨_, rfl⟩
            have Z8 : Hid (Chg w w8 ∧ Ap.Rd w8 (.slice oo m oc) (bl m vv) ∧ Ap.Rd w8 (.slice ao m c) (bl m vv)) := by
              rw [hw8]
              exact ⟨Z7.out.1.1.trans hcc, Rd.chg Z7.out.2.1 hcc, Rd.chg Z7.out.2.2 hcc⟩
            rw [← hw8]
            clear hw8 hcc Z7
            have hs1 := Ap.run_str w8 _ _ Z8.out.2.1
            have hs2 := Ap.run_str w8 _ _ Z8.out.2.2
            obtain ⟨st, hst⟩ : ∃ s, s = strOfNums (bl m vv) := ⟨_, rfl⟩
            rw [← hst] at hs1 hs2
            clear hst
            go_wp2_with fail
            go_ret
            exact ⟨rfl, Z8.out.1⟩
    · have hd1 : decide ((i : Int) < n) = false := by simp; omega
      have l1 : ¬ (i : Int) < n := by omega
      have Z2 : Hid ((Chg w wr ∧ Ar wr w.heap.size (num x) ∧ Ar wr b8 (byt (dg 256 vv)))) := by
        obtain ⟨k0, k1, k2⟩ := Z.out
        have e : arr .u8 32 (mixD i (dg 256 vv) zD) = byt (dg 256 vv) := byt_cut HV.out.1 i (by show i = min n 32; omega)
        rw [e] at k2
        exact ⟨k0, k1, k2⟩
      have Zr : Hid (Ap.Rd (wr.alloc (.cells #[] 5)) (.slice ao n c) (bl n vv)) := Rd.chg HV.out.2.2 (Z2.out.1.alloc _)
      clear Z
      go_wp2_with (at_builtin; refine Ap.wpList_app _ rfl _ _ rfl (.slice (some ⟨wr.heap.size, 0, none⟩) 0 0) (.slice ao n c) [] (bl n vv) rfl rfl (OwnV.empty wr) Zr.out (by rw [bl_len]; simp; exact HV.out.2.1) ?_)
      intro v2 w4 o2 cc2 b2
      have k0 : OwnN wr (wr.alloc (.cells #[] 5)) (.slice (some ⟨wr.heap.size, 0, none⟩) 0 0) [] := ⟨OwnV.empty wr, fun k e => by simp [Value.ownBlock] at e; omega, (Chg.refl wr).alloc _⟩
      have k2' := k0.more o2 cc2 (by first | exact b2 | (rw [World.size_alloc]; exact b2))
      obtain ⟨oo, m, oc, rfl, hm, -⟩ := o2.rd.shape
      rw [bl_len] at hm
      subst hm
      have Z4 : Hid ((Chg w w4 ∧ Ar w4 w.heap.size (num x) ∧ Ar w4 b8 (byt (dg 256 vv))) ∧ Ap.Rd w4 (.slice oo m oc) (bl m vv) ∧ Ap.Rd w4 (.slice ao m c) (bl m vv)) := ⟨⟨Z2.out.1.trans k2'.chg, Z2.out.2.1.chg k2'.chg, Z2.out.2.2.chg k2'.chg⟩, o2.rd, Rd.chg HV.out.2.2 (Z2.out.1.trans k2'.chg)⟩
      clear k0 k2' o2 cc2 b2 Zr Z2
      go_wp2_with fail
      go_at_call 29
      refine (wideV_any f vv oo m oc HV.out.1 HV.out.2.1 _ Z4.out.2.1).mono ?_
      rintro r w5 ⟨rfl, hc5⟩
      have Z5 : Hid ((Chg w w5 ∧ Ar w5 w.heap.size (num x) ∧ Ar w5 b8 (byt (dg 256 vv))) ∧ Ap.Rd w5 (.slice oo m oc) (bl m vv) ∧ Ap.Rd w5 (.slice ao m c) (bl m vv)) := ⟨⟨Z4.out.1.1.trans hc5, Z4.out.1.2.1.chg hc5, Z4.out.1.2.2.chg hc5⟩, Rd.chg Z4.out.2.1 hc5, Rd.chg Z4.out.2.2 hc5⟩
      clear hc5 Z4
      go_wp2_with fail
      go_at_call 30
      refine (wideRV_any f vv ao m c HV.out.1 HV.out.2.1 _ Z5.out.2.2).mono ?_
      rintro r w6 ⟨rfl, hc6⟩
      have Z6 : Hid ((Chg w w6 ∧ Ar w6 w.heap.size (num x) ∧ Ar w6 b8 (byt (dg 256 vv))) ∧ Ap.Rd w6 (.slice oo m oc) (bl m vv) ∧ Ap.Rd w6 (.slice ao m c) (bl m vv)) := ⟨⟨Z5.out.1.1.trans hc6, Z5.out.1.2.1.chg hc6, Z5.out.1.2.2.chg hc6⟩, Rd.chg Z5.out.2.1 hc6, Rd.chg Z5.out.2.2 hc6⟩
      clear hc6 Z5
      have hq : ∀ u, (Op.equalIn 10000 25 (.agg (num (md f vv))) (.agg (num (md f vv)))).run Try.prog u = .ok true u := fun u => eq_self (md_N f vv) u
      go_upto_region 9 with fail
      clear hq
      go_cut [12] from 41 to 60 (fun v wc => v = .bool true ∧ Chg w6 wc)
      case first =>
        refine wp_region_good 19 (fun j v wg => match j with
          | 0 => v = .agg (num x)
          | 1 => v = .agg (byt (dg 256 x))
          | 2 => v = .agg (num x)
          | 3 => v = .agg (byt (dg 256 x))
          | 4 => v = .bool true
          | 5 => v = .bool true
          | 6 => v = .agg (byt (dg 256 vv))
          | 7 => v = .agg (num (val 256 32 (dg 256 vv)))
          | 8 => v = .agg (byt (dg 256 vv))
          | 9 => v = .agg (num (val 256 32 (dg 256 vv)))
          | 10 => v = .bool true
          | 11 => v = .bool true
          | 12 => v = .bool true
          | 13 => v = .agg (num x)
          | 14 => v = .agg (byt (dg 256 x))
          | 15 => v = .agg (num x)
          | 16 => v = .agg (num x)
          | 17 => v = .bool true
          | 18 => v = .bool true
          | _ => True) (by kernel_rfl) (by kernel_rfl) (by kernel_rfl) (by kernel_rfl) (by kernel_rfl) ?_ ?_ ?_
        · intro j v u1 u2 h hc
          match j, h with
          | 0, h => exact h
          | 1, h => exact h
          | 2, h => exact h
          | 3, h => exact h
          | 4, h => exact h
          | 5, h => exact h
          | 6, h => exact h
          | 7, h => exact h
          | 8, h => exact h
          | 9, h => exact h
          | 10, h => exact h
          | 11, h => exact h
          | 12, h => exact h
          | 13, h => exact h
          | 14, h => exact h
          | 15, h => exact h
          | 16, h => exact h
          | 17, h => exact h
          | 18, h => exact h
          | _ + 19, h => exact trivial
        · intro i o ac u hi ho hsz hf hg hc
          have hcs : i = 0 ∨ i = 1 ∨ i = 2 ∨ i = 3 ∨ i = 4 ∨ i = 5 ∨ i = 6 ∨ i = 7 ∨ i = 8 ∨ i = 9 ∨ i = 10 ∨ i = 11 ∨ i = 12 ∨ i = 13 ∨ i = 14 ∨ i = 15 ∨ i = 16 ∨ i = 17 ∨ i = 18 := by omega
          rcases hcs with rfl | rfl | rfl | rfl | rfl | rfl | rfl | rfl | rfl | rfl | rfl | rfl | rfl | rfl | rfl | rfl | rfl | rfl | rfl
          · injection ho with ho
            subst ho
            refine .inl ⟨wanted_none rfl, ?_⟩
            have e1 : ac.eval (.tmp 5) = .pointer (some ⟨w.heap.size, 0, none⟩) := hf 5 (by kernel_rfl)
            exact wp_load_mid 25 (.tmp 5) rfl _ _ e1 ((num x).toList) _ (rangeN (Ar.chg (w := w6.drew) Z6.out.1.2.1 hc)) Go.Proofs.Ytnahkcapbbjfdaa.u25 rfl (infoN _) ⟨_, rfl, rfl, Chg.refl _⟩
          · injection ho with ho
            subst ho
            refine .inl ⟨wanted_none rfl, ?_⟩
            have e1 : ac.eval (.tmp 41) = .agg (num x) := hg 0 (by kernel_rfl) (by decide)
            refine opG_go 31 Try.f31 #[.tmp 41] #[25] rfl Try.func31 (by kernel_rfl) (by kernel_rfl) (by simp [e1]) (Calls.mono (toLE_any x _) ?_)
            rintro r u2 ⟨rfl, hc2⟩
            exact ⟨_, rfl, rfl, hc2⟩
          · injection ho with ho
            subst ho
            refine .inl ⟨wanted_none rfl, ?_⟩
            have e1 : ac.eval (.tmp 5) = .pointer (some ⟨w.heap.size, 0, none⟩) := hf 5 (by kernel_rfl)
            exact wp_load_mid 25 (.tmp 5) rfl _ _ e1 ((num x).toList) _ (rangeN (Ar.chg (w := w6.drew) Z6.out.1.2.1 hc)) Go.Proofs.Ytnahkcapbbjfdaa.u25 rfl (infoN _) ⟨_, rfl, rfl, Chg.refl _⟩
          · injection ho with ho
            subst ho
            refine .inl ⟨wanted_none rfl, ?_⟩
            have e1 : ac.eval (.tmp 43) = .agg (num x) := hg 2 (by kernel_rfl) (by decide)
            refine opG_go 32 Try.f32 #[.tmp 43] #[25] rfl Try.func32 (by kernel_rfl) (by kernel_rfl) (by simp [e1]) (Calls.mono (toLER_any x _) ?_)
            rintro r u2 ⟨rfl, hc2⟩
            exact ⟨_, rfl, rfl, hc2⟩
          · injection ho with ho
            subst ho
            refine .inl ⟨wanted_none rfl, ?_⟩
            have e1 : ac.eval (.tmp 42) = .agg (byt (dg 256 x)) := hg 1 (by kernel_rfl) (by decide)
            have e2 : ac.eval (.tmp 44) = .agg (byt (dg 256 x)) := hg 3 (by kernel_rfl) (by decide)
            exact opG_val (by revert e1 e2; generalize ac.eval = ρ; intro e1 e2; simp [go_sem, execOp, e1, e2, eqB_self (dg 256 x)]) rfl (Chg.refl _)
          · injection ho with ho
            subst ho
            refine .inl ⟨wanted_none rfl, ?_⟩
            have e1 : ac.eval (.tmp 45) = .bool true := hg 4 (by kernel_rfl) (by decide)
            exact opG_val (by simp [execOp, e1]) rfl (Chg.refl _)
          · injection ho with ho
            subst ho
            refine .inl ⟨wanted_by (T := _) (by kernel_rfl) hsz rfl (by decide : 5 < 19) rfl (hg 5 (by kernel_rfl) (by decide)), ?_⟩
            have e1 : ac.eval (.tmp 8) = .pointer (some ⟨b8, 0, none⟩) := hf 8 (by kernel_rfl)
            exact wp_load_mid 37 (.tmp 8) rfl _ _ e1 ((byt (dg 256 vv)).toList) _ (rangeA (Ar.chg (w := w6.drew) Z6.out.1.2.2 hc)) un37 rfl (infoY _) ⟨_, rfl, rfl, Chg.refl _⟩
          · injection ho with ho
            subst ho
            refine .inl ⟨wanted_by (T := _) (by kernel_rfl) hsz rfl (by decide : 5 < 19) rfl (hg 5 (by kernel_rfl) (by decide)), ?_⟩
            have e1 : ac.eval (.tmp 47) = .agg (byt (dg 256 vv)) := hg 6 (by kernel_rfl) (by decide)
            refine opG_go 33 Try.f33 #[.tmp 47] #[37] rfl Try.func33 (by kernel_rfl) (by kernel_rfl) (by simp [e1]) (Calls.mono (fromLE_any _ HB.out _) ?_)
            rintro r u2 ⟨rfl, hc2⟩
            exact ⟨_, rfl, rfl, hc2⟩
          · injection ho with ho
            subst ho
            refine .inl ⟨wanted_by (T := _) (by kernel_rfl) hsz rfl (by decide : 5 < 19) rfl (hg 5 (by kernel_rfl) (by decide)), ?_⟩
            have e1 : ac.eval (.tmp 8) = .pointer (some ⟨b8, 0, none⟩) := hf 8 (by kernel_rfl)
            exact wp_load_mid 37 (.tmp 8) rfl _ _ e1 ((byt (dg 256 vv)).toList) _ (rangeA (Ar.chg (w := w6.drew) Z6.out.1.2.2 hc)) un37 rfl (infoY _) ⟨_, rfl, rfl, Chg.refl _⟩
          · injection ho with ho
            subst ho
            refine .inl ⟨wanted_by (T := _) (by kernel_rfl) hsz rfl (by decide : 5 < 19) rfl (hg 5 (by kernel_rfl) (by decide)), ?_⟩
            have e1 : ac.eval (.tmp 49) = .agg (byt (dg 256 vv)) := hg 8 (by kernel_rfl) (by decide)
            refine opG_go 34 Try.f34 #[.tmp 49] #[37] rfl Try.func34 (by kernel_rfl) (by kernel_rfl) (by simp [e1]) (Calls.mono (fromLER_any _ HB.out _) ?_)
            rintro r u2 ⟨rfl, hc2⟩
            exact ⟨_, rfl, rfl, hc2⟩
          · injection ho with ho
            subst ho
            refine .inl ⟨wanted_by (T := _) (by kernel_rfl) hsz rfl (by decide : 5 < 19) rfl (hg 5 (by kernel_rfl) (by decide)), ?_⟩
            have e1 : ac.eval (.tmp 48) = .agg (num (val 256 32 (dg 256 vv))) := hg 7 (by kernel_rfl) (by decide)
            have e2 : ac.eval (.tmp 50) = .agg (num (val 256 32 (dg 256 vv))) := hg 9 (by kernel_rfl) (by decide)
            exact opG_val (by revert e1 e2; generalize ac.eval = ρ; intro e1 e2; simp [go_sem, execOp, e1, e2, eq_self (N_val HB.out)]) rfl (Chg.refl _)
          · injection ho with ho
            subst ho
            refine .inl ⟨wanted_none rfl, ?_⟩
            have e1 : ac.eval (.tmp 46) = .bool true := hg 5 (by kernel_rfl) (by decide)
            have e2 : ac.eval (.tmp 51) = .bool true := hg 10 (by kernel_rfl) (by decide)
            have e3 : ac.eval (.const (.bool false)) = .bool false := rfl
            exact opG_val (by revert e1 e2 e3; generalize ac.eval = ρ; intro e1 e2 e3; simp [go_sem, execOp, e1, e2, e3]) rfl (Chg.refl _)
          · injection ho with ho
            subst ho
            refine .inl ⟨wanted_none rfl, ?_⟩
            have e1 : ac.eval (.tmp 52) = .bool true := hg 11 (by kernel_rfl) (by decide)
            exact opG_val (by simp [execOp, e1]) rfl (Chg.refl _)
          · injection ho with ho
            subst ho
            refine .inl ⟨wanted_by (T := _) (by kernel_rfl) hsz rfl (by decide : 12 < 19) rfl (hg 12 (by kernel_rfl) (by decide)), ?_⟩
            have e1 : ac.eval (.tmp 5) = .pointer (some ⟨w.heap.size, 0, none⟩) := hf 5 (by kernel_rfl)
            exact wp_load_mid 25 (.tmp 5) rfl _ _ e1 ((num x).toList) _ (rangeN (Ar.chg (w := w6.drew) Z6.out.1.2.1 hc)) Go.Proofs.Ytnahkcapbbjfdaa.u25 rfl (infoN _) ⟨_, rfl, rfl, Chg.refl _⟩
          · injection ho with ho
            subst ho
            refine .inl ⟨wanted_by (T := _) (by kernel_rfl) hsz rfl (by decide : 12 < 19) rfl (hg 12 (by kernel_rfl) (by decide)), ?_⟩
            have e1 : ac.eval (.tmp 54) = .agg (num x) := hg 13 (by kernel_rfl) (by decide)
            refine opG_go 31 Try.f31 #[.tmp 54] #[25] rfl Try.func31 (by kernel_rfl) (by kernel_rfl) (by simp [e1]) (Calls.mono (toLE_any x _) ?_)
            rintro r u2 ⟨rfl, hc2⟩
            exact ⟨_, rfl, rfl, hc2⟩
          · injection ho with ho
            subst ho
            refine .inl ⟨wanted_by (T := _) (by kernel_rfl) hsz rfl (by decide : 12 < 19) rfl (hg 12 (by kernel_rfl) (by decide)), ?_⟩
            have e1 : ac.eval (.tmp 55) = .agg (byt (dg 256 x)) := hg 14 (by kernel_rfl) (by decide)
            refine opG_go 33 Try.f33 #[.tmp 55] #[37] rfl Try.func33 (by kernel_rfl) (by kernel_rfl) (by simp [e1]) (Calls.mono (HF.out _) ?_)
            rintro r u2 ⟨rfl, hc2⟩
            exact ⟨_, rfl, rfl, hc2⟩
          · injection ho with ho
            subst ho
            refine .inl ⟨wanted_by (T := _) (by kernel_rfl) hsz rfl (by decide : 12 < 19) rfl (hg 12 (by kernel_rfl) (by decide)), ?_⟩
            have e1 : ac.eval (.tmp 5) = .pointer (some ⟨w.heap.size, 0, none⟩) := hf 5 (by kernel_rfl)
            exact wp_load_mid 25 (.tmp 5) rfl _ _ e1 ((num x).toList) _ (rangeN (Ar.chg (w := w6.drew) Z6.out.1.2.1 hc)) Go.Proofs.Ytnahkcapbbjfdaa.u25 rfl (infoN _) ⟨_, rfl, rfl, Chg.refl _⟩
          · injection ho with ho
            subst ho
            refine .inl ⟨wanted_by (T := _) (by kernel_rfl) hsz rfl (by decide : 12 < 19) rfl (hg 12 (by kernel_rfl) (by decide)), ?_⟩
            have e1 : ac.eval (.tmp 56) = .agg (num x) := hg 15 (by kernel_rfl) (by decide)
            have e2 : ac.eval (.tmp 57) = .agg (num x) := hg 16 (by kernel_rfl) (by decide)
            exact opG_val (by revert e1 e2; generalize ac.eval = ρ; intro e1 e2; simp [go_sem, execOp, e1, e2, eq_self HX.out]) rfl (Chg.refl _)
          · injection ho with ho
            subst ho
            refine .inl ⟨wanted_none rfl, ?_⟩
            have e1 : ac.eval (.tmp 53) = .bool true := hg 12 (by kernel_rfl) (by decide)
            have e2 : ac.eval (.tmp 58) = .bool true := hg 17 (by kernel_rfl) (by decide)
            have e3 : ac.eval (.const (.bool false)) = .bool false := rfl
            exact opG_val (by revert e1 e2 e3; generalize ac.eval = ρ; intro e1 e2 e3; simp [go_sem, execOp, e1, e2, e3]) rfl (Chg.refl _)
        · intro o u V ho hV hc
          injection ho with ho
          subst ho
          refine ⟨rfl, ?_⟩
          have q41 : V 0 = .agg (num x) := hV 0 (by decide)
          have q42 : V 1 = .agg (byt (dg 256 x)) := hV 1 (by decide)
          have q43 : V 2 = .agg (num x) := hV 2 (by decide)
          have q44 : V 3 = .agg (byt (dg 256 x)) := hV 3 (by decide)
          have q45 : V 4 = .bool true := hV 4 (by decide)
          have q46 : V 5 = .bool true := hV 5 (by decide)
          have q47 : V 6 = .agg (byt (dg 256 vv)) := hV 6 (by decide)
          have q48 : V 7 = .agg (num (val 256 32 (dg 256 vv))) := hV 7 (by decide)
          have q49 : V 8 = .agg (byt (dg 256 vv)) := hV 8 (by decide)
          have q50 : V 9 = .agg (num (val 256 32 (dg 256 vv))) := hV 9 (by decide)
          have q51 : V 10 = .bool true := hV 10 (by decide)
          have q52 : V 11 = .bool true := hV 11 (by decide)
          have q53 : V 12 = .bool true := hV 12 (by decide)
          have q54 : V 13 = .agg (num x) := hV 13 (by decide)
          have q55 : V 14 = .agg (byt (dg 256 x)) := hV 14 (by decide)
          have q56 : V 15 = .agg (num x) := hV 15 (by decide)
          have q57 : V 16 = .agg (num x) := hV 16 (by decide)
          have q58 : V 17 = .bool true := hV 17 (by decide)
          have q59 : V 18 = .bool true := hV 18 (by decide)
          refine op_asgY (.tmp 59) (.bool true) rfl (Eq.trans (by rfl) q59) ?_
          go_wp2_with fail
          go_meet
          exact ⟨rfl, (Chg.refl w6).drew.trans hc⟩
      case rest =>
        obtain ⟨rfl, hcc⟩ := hcut
        obtain ⟨w7, hw7⟩ : ∃ w2, w2 = wc := ⟨_, rfl⟩
        have Z7 : Hid ((Chg w w7 ∧ Ar w7 w.heap.size (num x) ∧ Ar w7 b8 (byt (dg 256 vv))) ∧ Ap.Rd w7 (.slice oo m oc) (bl m vv) ∧ Ap.Rd w7 (.slice ao m c) (bl m vv)) := by
          rw [hw7]
          exact ⟨⟨Z6.out.1.1.trans hcc, Z6.out.1.2.1.chg hcc, Z6.out.1.2.2.chg hcc⟩, Rd.chg Z6.out.2.1 hcc, Rd.chg Z6.out.2.2 hcc⟩
        rw [← hw7]
        clear hw7 hcc Z6
        go_upto_region 10 with fail
        go_cut [13] from 60 to 79 (fun v wc => v = .bool true ∧ Chg w7 wc)
        case first =>
          refine wp_region_good 19 (fun j v wg => match j with
            | 0 => v = .agg (num x)
            | 1 => v = .agg (byt (tu (dg 256 x)))
            | 2 => v = .agg (num x)
            | 3 => v = .agg (byt (tu (dg 256 x)))
            | 4 => v = .bool true
            | 5 => v = .bool true
            | 6 => v = .agg (byt (dg 256 vv))
            | 7 => v = .agg (num (val 256 32 (tu (dg 256 vv))))
            | 8 => v = .agg (byt (dg 256 vv))
            | 9 => v = .agg (num (val 256 32 (tu (dg 256 vv))))
            | 10 => v = .bool true
            | 11 => v = .bool true
            | 12 => v = .bool true
            | 13 => v = .agg (byt (dg 256 vv))
            | 14 => v = .agg (num (val 256 32 (tu (dg 256 vv))))
            | 15 => v = .agg (byt (dg 256 vv))
            | 16 => v = .agg (byt (dg 256 vv))
            | 17 => v = .bool true
            | 18 => v = .bool true
            | _ => True) (by kernel_rfl) (by kernel_rfl) (by kernel_rfl) (by kernel_rfl) (by kernel_rfl) ?_ ?_ ?_
          · intro j v u1 u2 h hc
            match j, h with
            | 0, h => exact h
            | 1, h => exact h
            | 2, h => exact h
            | 3, h => exact h
            | 4, h => exact h
            | 5, h => exact h
            | 6, h => exact h
            | 7, h => exact h
            | 8, h => exact h
            | 9, h => exact h
            | 10, h => exact h
            | 11, h => exact h
            | 12, h => exact h
            | 13, h => exact h
            | 14, h => exact h
            | 15, h => exact h
            | 16, h => exact h
            | 17, h => exact h
            | 18, h => exact h
            | _ + 19, h => exact trivial
          · intro i o ac u hi ho hsz hf hg hc
            have hcs : i = 0 ∨ i = 1 ∨ i = 2 ∨ i = 3 ∨ i = 4 ∨ i = 5 ∨ i = 6 ∨ i = 7 ∨ i = 8 ∨ i = 9 ∨ i = 10 ∨ i = 11 ∨ i = 12 ∨ i = 13 ∨ i = 14 ∨ i = 15 ∨ i = 16 ∨ i = 17 ∨ i = 18 := by omega
            rcases hcs with rfl | rfl | rfl | rfl | rfl | rfl | rfl | rfl | rfl | rfl | rfl | rfl | rfl | rfl | rfl | rfl | rfl | rfl | rfl
            · injection ho with ho
              subst ho
              refine .inl ⟨wanted_none rfl, ?_⟩
              have e1 : ac.eval (.tmp 5) = .pointer (some ⟨w.heap.size, 0, none⟩) := hf 5 (by kernel_rfl)
              exact wp_load_mid 25 (.tmp 5) rfl _ _ e1 ((num x).toList) _ (rangeN (Ar.chg (w := w7.drew) Z7.out.1.2.1 hc)) Go.Proofs.Ytnahkcapbbjfdaa.u25 rfl (infoN _) ⟨_, rfl, rfl, Chg.refl _⟩
            · injection ho with ho
              subst ho
              refine .inl ⟨wanted_none rfl, ?_⟩
              have e1 : ac.eval (.tmp 60) = .agg (num x) := hg 0 (by kernel_rfl) (by decide)
              refine opG_go 35 Try.f35 #[.tmp 60] #[25] rfl Try.func35 (by kernel_rfl) (by kernel_rfl) (by simp [e1]) (Calls.mono (toBE_any x _) ?_)
              rintro r u2 ⟨rfl, hc2⟩
              exact ⟨_, rfl, rfl, hc2⟩
            · injection ho with ho
              subst ho
              refine .inl ⟨wanted_none rfl, ?_⟩
              have e1 : ac.eval (.tmp 5) = .pointer (some ⟨w.heap.size, 0, none⟩) := hf 5 (by kernel_rfl)
              exact wp_load_mid 25 (.tmp 5) rfl _ _ e1 ((num x).toList) _ (rangeN (Ar.chg (w := w7.drew) Z7.out.1.2.1 hc)) Go.Proofs.Ytnahkcapbbjfdaa.u25 rfl (infoN _) ⟨_, rfl, rfl, Chg.refl _⟩
            · injection ho with ho
              subst ho
              refine .inl ⟨wanted_none rfl, ?_⟩
              have e1 : ac.eval (.tmp 62) = .agg (num x) := hg 2 (by kernel_rfl) (by decide)
              refine opG_go 36 Try.f36 #[.tmp 62] #[25] rfl Try.func36 (by kernel_rfl) (by kernel_rfl) (by simp [e1]) (Calls.mono (toBER_any x _) ?_)
              rintro r u2 ⟨rfl, hc2⟩
              exact ⟨_, rfl, rfl, hc2⟩
            · injection ho with ho
              subst ho
              refine .inl ⟨wanted_none rfl, ?_⟩
              have e1 : ac.eval (.tmp 61) = .agg (byt (tu (dg 256 x))) := hg 1 (by kernel_rfl) (by decide)
              have e2 : ac.eval (.tmp 63) = .agg (byt (tu (dg 256 x))) := hg 3 (by kernel_rfl) (by decide)
              exact opG_val (by revert e1 e2; generalize ac.eval = ρ; intro e1 e2; simp [go_sem, execOp, e1, e2, eqB_self (tu (dg 256 x))]) rfl (Chg.refl _)
            · injection ho with ho
              subst ho
              refine .inl ⟨wanted_none rfl, ?_⟩
              have e1 : ac.eval (.tmp 64) = .bool true := hg 4 (by kernel_rfl) (by decide)
              exact opG_val (by simp [execOp, e1]) rfl (Chg.refl _)
            · injection ho with ho
              subst ho
              refine .inl ⟨wanted_by (T := _) (by kernel_rfl) hsz rfl (by decide : 5 < 19) rfl (hg 5 (by kernel_rfl) (by decide)), ?_⟩
              have e1 : ac.eval (.tmp 8) = .pointer (some ⟨b8, 0, none⟩) := hf 8 (by kernel_rfl)
              exact wp_load_mid 37 (.tmp 8) rfl _ _ e1 ((byt (dg 256 vv)).toList) _ (rangeA (Ar.chg (w := w7.drew) Z7.out.1.2.2 hc)) un37 rfl (infoY _) ⟨_, rfl, rfl, Chg.refl _⟩
            · injection ho with ho
              subst ho
              refine .inl ⟨wanted_by (T := _) (by kernel_rfl) hsz rfl (by decide : 5 < 19) rfl (hg 5 (by kernel_rfl) (by decide)), ?_⟩
              have e1 : ac.eval (.tmp 66) = .agg (byt (dg 256 vv)) := hg 6 (by kernel_rfl) (by decide)
              refine opG_go 37 Try.f37 #[.tmp 66] #[37] rfl Try.func37 (by kernel_rfl) (by kernel_rfl) (by simp [e1]) (Calls.mono (fromBE_any _ HB.out _) ?_)
              rintro r u2 ⟨rfl, hc2⟩
              exact ⟨_, rfl, rfl, hc2⟩
            · injection ho with ho
              subst ho
              refine .inl ⟨wanted_by (T := _) (by kernel_rfl) hsz rfl (by decide : 5 < 19) rfl (hg 5 (by kernel_rfl) (by decide)), ?_⟩
              have e1 : ac.eval (.tmp 8) = .pointer (some ⟨b8, 0, none⟩) := hf 8 (by kernel_rfl)
              exact wp_load_mid 37 (.tmp 8) rfl _ _ e1 ((byt (dg 256 vv)).toList) _ (rangeA (Ar.chg (w := w7.drew) Z7.out.1.2.2 hc)) un37 rfl (infoY _) ⟨_, rfl, rfl, Chg.refl _⟩
            · injection ho with ho
              subst ho
              refine .inl ⟨wanted_by (T := _) (by kernel_rfl) hsz rfl (by decide : 5 < 19) rfl (hg 5 (by kernel_rfl) (by decide)), ?_⟩
              have e1 : ac.eval (.tmp 68) = .agg (byt (dg 256 vv)) := hg 8 (by kernel_rfl) (by decide)
              refine opG_go 38 Try.f38 #[.tmp 68] #[37] rfl Try.func38 (by kernel_rfl) (by kernel_rfl) (by simp [e1]) (Calls.mono (fromBER_any _ HB.out _) ?_)
              rintro r u2 ⟨rfl, hc2⟩
              exact ⟨_, rfl, rfl, hc2⟩
            · injection ho with ho
              subst ho
              refine .inl ⟨wanted_by (T := _) (by kernel_rfl) hsz rfl (by decide : 5 < 19) rfl (hg 5 (by kernel_rfl) (by decide)), ?_⟩
              have e1 : ac.eval (.tmp 67) = .agg (num (val 256 32 (tu (dg 256 vv)))) := hg 7 (by kernel_rfl) (by decide)
              have e2 : ac.eval (.tmp 69) = .agg (num (val 256 32 (tu (dg 256 vv)))) := hg 9 (by kernel_rfl) (by decide)
              exact opG_val (by revert e1 e2; generalize ac.eval = ρ; intro e1 e2; simp [go_sem, execOp, e1, e2, eq_self (x := val 256 32 (tu (dg 256 vv))) (N_val (fun i => HB.out (31 - i)))]) rfl (Chg.refl _)
            · injection ho with ho
              subst ho
              refine .inl ⟨wanted_none rfl, ?_⟩
              have e1 : ac.eval (.tmp 65) = .bool true := hg 5 (by kernel_rfl) (by decide)
              have e2 : ac.eval (.tmp 70) = .bool true := hg 10 (by kernel_rfl) (by decide)
              have e3 : ac.eval (.const (.bool false)) = .bool false := rfl
              exact opG_val (by revert e1 e2 e3; generalize ac.eval = ρ; intro e1 e2 e3; simp [go_sem, execOp, e1, e2, e3]) rfl (Chg.refl _)
            · injection ho with ho
              subst ho
              refine .inl ⟨wanted_none rfl, ?_⟩
              have e1 : ac.eval (.tmp 71) = .bool true := hg 11 (by kernel_rfl) (by decide)
              exact opG_val (by simp [execOp, e1]) rfl (Chg.refl _)
            · injection ho with ho
              subst ho
              refine .inl ⟨wanted_by (T := _) (by kernel_rfl) hsz rfl (by decide : 12 < 19) rfl (hg 12 (by kernel_rfl) (by decide)), ?_⟩
              have e1 : ac.eval (.tmp 8) = .pointer (some ⟨b8, 0, none⟩) := hf 8 (by kernel_rfl)
              exact wp_load_mid 37 (.tmp 8) rfl _ _ e1 ((byt (dg 256 vv)).toList) _ (rangeA (Ar.chg (w := w7.drew) Z7.out.1.2.2 hc)) un37 rfl (infoY _) ⟨_, rfl, rfl, Chg.refl _⟩
            · injection ho with ho
              subst ho
              refine .inl ⟨wanted_by (T := _) (by kernel_rfl) hsz rfl (by decide : 12 < 19) rfl (hg 12 (by kernel_rfl) (by decide)), ?_⟩
              have e1 : ac.eval (.tmp 73) = .agg (byt (dg 256 vv)) := hg 13 (by kernel_rfl) (by decide)
              refine opG_go 37 Try.f37 #[.tmp 73] #[37] rfl Try.func37 (by kernel_rfl) (by kernel_rfl) (by simp [e1]) (Calls.mono (fromBE_any _ HB.out _) ?_)
              rintro r u2 ⟨rfl, hc2⟩
              exact ⟨_, rfl, rfl, hc2⟩
            · injection ho with ho
              subst ho
              refine .inl ⟨wanted_by (T := _) (by kernel_rfl) hsz rfl (by decide : 12 < 19) rfl (hg 12 (by kernel_rfl) (by decide)), ?_⟩
              have e1 : ac.eval (.tmp 74) = .agg (num (val 256 32 (tu (dg 256 vv)))) := hg 14 (by kernel_rfl) (by decide)
              refine opG_go 35 Try.f35 #[.tmp 74] #[25] rfl Try.func35 (by kernel_rfl) (by kernel_rfl) (by simp [e1]) (Calls.mono (HT.out _) ?_)
              rintro r u2 ⟨rfl, hc2⟩
              exact ⟨_, rfl, rfl, hc2⟩
            · injection ho with ho
              subst ho
              refine .inl ⟨wanted_by (T := _) (by kernel_rfl) hsz rfl (by decide : 12 < 19) rfl (hg 12 (by kernel_rfl) (by decide)), ?_⟩
              have e1 : ac.eval (.tmp 8) = .pointer (some ⟨b8, 0, none⟩) := hf 8 (by kernel_rfl)
              exact wp_load_mid 37 (.tmp 8) rfl _ _ e1 ((byt (dg 256 vv)).toList) _ (rangeA (Ar.chg (w := w7.drew) Z7.out.1.2.2 hc)) un37 rfl (infoY _) ⟨_, rfl, rfl, Chg.refl _⟩
            · injection ho with ho
              subst ho
              refine .inl ⟨wanted_by (T := _) (by kernel_rfl) hsz rfl (by decide : 12 < 19) rfl (hg 12 (by kernel_rfl) (by decide)), ?_⟩
              have e1 : ac.eval (.tmp 75) = .agg (byt (dg 256 vv)) := hg 15 (by kernel_rfl) (by decide)
              have e2 : ac.eval (.tmp 76) = .agg (byt (dg 256 vv)) := hg 16 (by kernel_rfl) (by decide)
              exact opG_val (by revert e1 e2; generalize ac.eval = ρ; intro e1 e2; simp [go_sem, execOp, e1, e2, eqB_self (dg 256 vv)]) rfl (Chg.refl _)
            · injection ho with ho
              subst ho
              refine .inl ⟨wanted_none rfl, ?_⟩
              have e1 : ac.eval (.tmp 72) = .bool true := hg 12 (by kernel_rfl) (by decide)
              have e2 : ac.eval (.tmp 77) = .bool true := hg 17 (by kernel_rfl) (by decide)
              have e3 : ac.eval (.const (.bool false)) = .bool false := rfl
              exact opG_val (by revert e1 e2 e3; generalize ac.eval = ρ; intro e1 e2 e3; simp [go_sem, execOp, e1, e2, e3]) rfl (Chg.refl _)
          · intro o u V ho hV hc
            injection ho with ho
            subst ho
            refine ⟨rfl, ?_⟩
            have q60 : V 0 = .agg (num x) := hV 0 (by decide)
            have q61 : V 1 = .agg (byt (tu (dg 256 x))) := hV 1 (by decide)
            have q62 : V 2 = .agg (num x) := hV 2 (by decide)
            have q63 : V 3 = .agg (byt (tu (dg 256 x))) := hV 3 (by decide)
            have q64 : V 4 = .bool true := hV 4 (by decide)
            have q65 : V 5 = .bool true := hV 5 (by decide)
            have q66 : V 6 = .agg (byt (dg 256 vv)) := hV 6 (by decide)
            have q67 : V 7 = .agg (num (val 256 32 (tu (dg 256 vv)))) := hV 7 (by decide)
            have q68 : V 8 = .agg (byt (dg 256 vv)) := hV 8 (by decide)
            have q69 : V 9 = .agg (num (val 256 32 (tu (dg 256 vv)))) := hV 9 (by decide)
            have q70 : V 10 = .bool true := hV 10 (by decide)
            have q71 : V 11 = .bool true := hV 11 (by decide)
            have q72 : V 12 = .bool true := hV 12 (by decide)
            have q73 : V 13 = .agg (byt (dg 256 vv)) := hV 13 (by decide)
            have q74 : V 14 = .agg (num (val 256 32 (tu (dg 256 vv)))) := hV 14 (by decide)
            have q75 : V 15 = .agg (byt (dg 256 vv)) := hV 15 (by decide)
            have q76 : V 16 = .agg (byt (dg 256 vv)) := hV 16 (by decide)
            have q77 : V 17 = .bool true := hV 17 (by decide)
            have q78 : V 18 = .bool true := hV 18 (by decide)
            refine op_asgY (.tmp 78) (.bool true) rfl (Eq.trans (by rfl) q78) ?_
            go_wp2_with fail
            go_meet
            exact ⟨rfl, (Chg.refl w7).drew.trans hc⟩
        case rest =>
          obtain ⟨rfl, hcc⟩ := hcut
          obtain ⟨w8, hw8⟩ : ∃ w2, w2 = wc := ⟨_, rfl⟩
          have Z8 : Hid (Chg w w8 ∧ Ap.Rd w8 (.slice oo m oc) (bl m vv) ∧ Ap.Rd w8 (.slice ao m c) (bl m vv)) := by
            rw [hw8]
            exact ⟨Z7.out.1.1.trans hcc, Rd.chg Z7.out.2.1 hcc, Rd.chg Z7.out.2.2 hcc⟩
          rw [← hw8]
          clear hw8 hcc Z7
          have hs1 := Ap.run_str w8 _ _ Z8.out.2.1
          have hs2 := Ap.run_str w8 _ _ Z8.out.2.2
          obtain ⟨st, hst⟩ : ∃ s, s = strOfNums (bl m vv) := ⟨_, rfl⟩
          rw [← hst] at hs1 hs2
          clear hst
          go_wp2_with fail
          go_ret
          exact ⟨rfl, Z8.out.1⟩
end Go.Proofs.Ytnahkcapbbjfdaa

namespace Go.Proofs.Ytnahkcapbbjfdaa
open Go.ChangeShapes Go.WideShapes Go.ChangeAt Go.RowKit
set_option linter.unusedVariables false
set_option maxRecDepth 100000

theorem bytes5 : Try.prog.bytesOf 5 = 1 := by kernel_rfl
theorem cells5 : Try.prog.cellsOf 5 = 1 := by kernel_rfl
/-- Bytes are those of a number. -/
theorem bl_of (xs : List Int) (h : ∀ x ∈ xs, 0 ≤ x ∧ x < 256) : ∃ vv, bl xs.length vv = xs ∧ (0 ≤ vv ∧ vv < 256 ^ xs.length) := by
  have hd : ∀ i, B8 (xs.getD i 0) := fun i => by
    by_cases hi : i < xs.length
    · have e : xs.getD i 0 = xs[i] := by simp [List.getD_eq_getElem?_getD, List.getElem?_eq_getElem hi]
      rw [e]
      exact h _ (List.getElem_mem hi)
    · have e : xs.getD i 0 = 0 := by simp [List.getD_eq_getElem?_getD, List.getElem?_eq_none (Nat.le_of_not_lt hi)]
      rw [e]
      exact ⟨by decide, by decide⟩
  refine ⟨val 256 xs.length fun i => xs.getD i 0, ?_, val_b hd _⟩
  apply List.ext_getElem?
  intro j
  by_cases hj : j < xs.length
  · rw [bl_get _ hj, List.getElem?_eq_getElem hj, dg_val hd hj]
    simp [List.getD_eq_getElem?_getD, List.getElem?_eq_getElem hj]
  · rw [List.getElem?_eq_none (by rw [bl_len]; omega), List.getElem?_eq_none (by omega)]
/-- A slice of bytes that came in can be read. -/
theorem bytes_in {H : Type} {enc : TypeId × Value → H} {W : World} {ts : List TypeId} {ds : List (DataW H)} (hsz : (DataW.weightsEach Try.prog ts ds).all (· ≤ reachBytes) = true) {j : Nat} (hj : ts[j]? = some 36) {d : DataW H} (hd : ds[j]? = some d)
    {a : Option Addr} {len cap : Nat} {ps : List MemPlace} (h : DataW.Trod enc Try.prog W 0 (fun _ => true) true 36 (.slice a len cap) d ps) : ∃ vv, Ap.Rd W (.slice a len cap) (bl len vv) ∧ (0 ≤ vv ∧ vv < 256 ^ len) ∧ len ≤ 140737488355328 := by
  obtain ⟨fuel, hf⟩ := h
  rcases open_ints Try.underlying36 Try.underlying5 cells5 hf with ⟨hcs, _⟩ | ⟨x, l, c, zs, hcs, _, hl, hm, hz, hx, hcell, hwz⟩
  · simp [Value.cells] at hcs
    obtain ⟨rfl, rfl, rfl⟩ := hcs
    exact ⟨0, Ap.Rd.nil W, by decide, by simp⟩
  · simp [Value.cells] at hcs
    obtain ⟨rfl, rfl, rfl⟩ := hcs
    have hz' : zs.length = cap := by simpa using hz
    simp only [Prod.mk.injEq] at hx
    have hd' : d = .slice (lits .u8 (zs.take len)) (lits .u8 (zs.drop len)) := hx.1
    subst hd'
    have hre := sized_slice hsz (j := j) (t := 36) (e := 5) hj hd Try.underlying36
    rw [bytes5] at hre
    simp only [lits, List.length_map, List.length_take, List.length_drop, reachBytes] at hre
    have hlen : (zs.take len).length = len := by rw [List.length_take]; omega
    have hby : ∀ y ∈ zs.take len, 0 ≤ y ∧ y < 256 := fun y hy => by
      have := hwz y (List.mem_of_mem_take hy)
      simp only [Lit.wf, Bool.and_eq_true, decide_eq_true_eq] at this
      have h0 : IntKind.u8.min = 0 := rfl
      have h1 : IntKind.u8.max = 255 := rfl
      omega
    obtain ⟨vv, e, hvv⟩ := bl_of _ hby
    rw [hlen] at e hvv
    refine ⟨vv, ?_, hvv, by omega⟩
    rw [e]
    refine ⟨_, _, _, rfl, hlen.symm, hl, hm, (fun e => absurd e (by simp)), fun y e k u hk => ?_⟩
    injection e with e
    subst e
    rw [List.getElem?_take] at hk
    split at hk
    · have hkl : k < zs.length := by
        rcases Nat.lt_or_ge k zs.length with h | h
        · exact h
        · rw [List.getElem?_eq_none h] at hk
          cases hk
      rw [hcell k hkl, List.getD_eq_getElem?_getD, hk]
      rfl
    · cases hk

end Go.Proofs.Ytnahkcapbbjfdaa
