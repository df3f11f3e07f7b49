/-
  The document's digits of 32 bits: a number's digits, and the number of them.
  The number of the eight lowest digits.
  The document's moduli, what 2^256 leaves, numbers compared.
  The document's product of two numbers: its digits.
  The document's sum and difference of two numbers.
  The document's difference of two numbers, modulo 2^256.
-/
import Derived.Test.YtbdgmkejmfjobaaJf
namespace Go.Proofs.Ytbdgmkejmfjobaa
set_option maxRecDepth 100000
open Go.RowKit
set_option linter.unusedVariables false
def wdr (x : Int) : Array Value := arr .u64 17 (dg B32 x)
theorem wdr_size (x : Int) : (wdr x).size = 17 := arr_size _ _ _
theorem lw32 {d : Int} (h : W64 d) : bits .and .u64 d 4294967295 = d % 4294967296 := by
 obtain ⟨n, rfl⟩ := Int.eq_ofNat_of_zero_le h.1
 have hn := h.2
 rw [show (4294967295 : Int) = ((4294967295 : Nat) : Int) from rfl, u64_and_nat n 4294967295 (by omega) (by decide)]
 rw [show (4294967295 : Nat) = 2 ^ 32 - 1 from rfl, Nat.and_two_pow_sub_one_eq_mod]
 omega
theorem b64pow (i : Nat) : B64 ^ i = B32 ^ (2 * i) := by rw [Int.pow_mul]; rfl
theorem dg_lo (x : Int) (i : Nat) : dg B64 x i % 4294967296 = dg B32 x (2 * i) := by
 unfold dg
 rw [b64pow]
 generalize x / B32 ^ (2 * i) = y
 exact Int.emod_emod_of_dvd y (by decide)
theorem dg_hi (x : Int) (i : Nat) : dg B64 x i / 4294967296 = dg B32 x (2 * i + 1) := by
 unfold dg
 rw [b64pow, Int.pow_succ, ← Int.ediv_ediv_of_nonneg (Int.le_of_lt (pow_pos' B32_pos _))]
 generalize x / B32 ^ (2 * i) = y
 show y % 18446744073709551616 / 4294967296 = y / 4294967296 % 4294967296
 omega
theorem dg_two (x : Int) (i : Nat) : dg B32 x (2 * i) + dg B32 x (2 * i + 1) * 4294967296 = dg B64 x i := by
 rw [← dg_lo, ← dg_hi]
 have := Int.emod_add_mul_ediv (dg B64 x i) 4294967296
 omega
theorem dg32_b (x : Int) (i : Nat) : 0 ≤ dg B32 x i ∧ dg B32 x i < 4294967296 := dg_bound B32_pos x i
theorem dg_none {x : Int} (h : N256 x) {i : Nat} (hi : 8 ≤ i) : dg B32 x i = 0 := by
 unfold dg
 have h1 : x < B32 ^ i := by
  obtain ⟨k, rfl⟩ : ∃ k, i = 8 + k := ⟨i - 8, by omega⟩
  have hk : (1 : Int) ≤ B32 ^ k := Int.pow_pos B32_pos
  rw [Int.pow_add]
  have h8 : B32 ^ 8 = R256 := by decide
  rw [h8]
  have := h.2
  have h9 : R256 * 1 ≤ R256 * B32 ^ k := Int.mul_le_mul_of_nonneg_left hk (by decide)
  omega
 rw [Int.ediv_eq_zero_of_lt h.1 h1]
 rfl
def dP (k : Nat) (x : Int) : Nat → Int := fun j => if j < k then dg B32 x j else 0
theorem dP_zero (x : Int) : dP 0 x = fun _ => 0 := by funext j; simp [dP]
theorem dP_succ (k : Nat) (x : Int) : upd (dP k x) k (dg B32 x k) = dP (k + 1) x := by
 funext j
 unfold upd dP
 by_cases h : j = k
 ·subst h; simp
 ·have e : j < k + 1 ↔ j < k := by omega
  simp [h, e]
theorem dP_all {x : Int} (h : N256 x) : arr .u64 17 (dP 8 x) = wdr x := arr_congr fun j hj => by
 unfold dP
 by_cases h8 : j < 8
 ·rw [if_pos h8]
 ·rw [if_neg h8, dg_none h (by omega)]
def zD : Nat → Int := fun _ => 0
theorem wdr_zero : wdr 0 = arr .u64 17 zD := arr_congr fun j _ => by
 unfold dg zD
 rw [Int.zero_ediv]
 rfl
theorem un49 : Try.prog.underlying 66 = some (.array 17 22) := by kernel_rfl
theorem zero49 : (∀ w, (zeroValue 66).run Try.prog w = .ok (.agg (arr .u64 17 zD)) w) ∧ (Try.prog.info? 66).map (·.size) = some 17 := zero_of_info (by kernel_rfl)
theorem szA (d : Nat → Int) : (Try.prog.info? 66).map (·.size) = some (arr .u64 17 d).size := by rw [arr_size]; exact zero49.2
theorem lenA (d e : Nat → Int) : (arr .u64 17 d).size = (arr .u64 17 e).size := by rw [arr_size, arr_size]
theorem oneA (d : Nat → Int) : (arr .u64 17 d).all (·.oneCell') = true := arr_one _ _ _
set_option maxHeartbeats 8000000 in
theorem digits_any (a : Int) (ha : N256 a) (w : World) : Calls Try.prog 43 #[.agg (num a)] w fun r w' => r = .returned (.agg (wdr a)) ∧ Chg w w' := by
 rw [← dP_all ha]
 have hsA := num_size a
 obtain ⟨A, hA⟩ : ∃ A, A = num a := ⟨_, rfl⟩
 have HA : Hid (A = num a) := hA
 rw [← hA] at hsA ⊢
 clear hA ha
 have hz := zero49.1
 go_enter Try.func43, Try.ntmps43
 go_wp2_with fail
 obtain ⟨w3, hw3⟩ : ∃ w3, w3 = ((w.alloc (.cells A 24)).alloc (.cells (arr .u64 17 zD) 66)).alloc (.cells (arr .u64 17 zD) 66) := ⟨_, rfl⟩
 have Z3 : Hid (Chg w w3 ∧ Ar w3 w.heap.size (num a) ∧ Ar w3 (w.heap.size + 1) (arr .u64 17 zD) ∧ Ar w3 (w.heap.size + 1 + 1) (arr .u64 17 (dP (2 * 0) a))) := by
  rw [hw3, HA.out, dP_zero]
  exact ⟨(((Chg.refl w).alloc _).alloc _).alloc _, ((Ar.new w _ _).alloc _).alloc _, (Ar.new1 w _ _ _).alloc _, Ar.new2 w _ _ _ _⟩
 rw [← hw3]
 clear hw3 hsA hz
 go_loopw [4] (fun v wr => ∃ (i : Nat), v = .int .i64 i ∧ i ≤ 4 ∧ Chg w wr ∧ Ar wr w.heap.size (num a) ∧ Ar wr (w.heap.size + 1) (arr .u64 17 zD) ∧ Ar wr (w.heap.size + 1 + 1) (arr .u64 17 (dP (2 * i) a))) (fun v wr => 4 - (intOf v).toNat)
 case atStart => exact ⟨0, rfl, by omega, Z3.out⟩
 case round =>
  clear Z3 HA
  obtain ⟨i, rfl, hi, hch, h1, h2, h3⟩ := hrel
  have H : Hid (Chg w wr ∧ Ar wr w.heap.size (num a) ∧ Ar wr (w.heap.size + 1) (arr .u64 17 zD) ∧ Ar wr (w.heap.size + 1 + 1) (arr .u64 17 (dP (2 * i) a))) := ⟨hch, h1, h2, h3⟩
  by_cases h4 : i < 4
  ·have hd : decide ((i : Int) < 4) = true := by simp; omega
   have li : (i : Int) < 4 := by omega
   obtain ⟨p, hp⟩ : ∃ p : Nat, 2 * (i : Int) = p := ⟨2 * i, by omega⟩
   have wp := wrap_i (x := (p : Int)) (by omega) (by omega)
   have lp : (p : Int) < 17 := by omega
   obtain ⟨q, hq⟩ : ∃ q : Nat, (p : Int) + 1 = q := ⟨p + 1, by omega⟩
   have wq := wrap_i (x := (q : Int)) (by omega) (by omega)
   have lq : (q : Int) < 17 := by omega
   have HP : Hid (p = 2 * i ∧ q = 2 * i + 1) := ⟨by omega, by omega⟩
   have c1 := (h1.cell i).trans (arr_get .u64 4 _ h4)
   have c2 := (h3.cell p).trans (arr_get .u64 17 _ (by omega))
   have c3 := (h3.cell q).trans (arr_get .u64 17 _ (by omega))
   generalize dP (2 * i) a p = o1 at c2
   generalize dP (2 * i) a q = o2 at c3
   have npq : ¬ p = q := by omega
   have f1 := h3.frozen p
   have f2 := h3.frozen q
   obtain ⟨X, hX⟩ : ∃ X, X = dg B64 a i := ⟨_, rfl⟩
   have ea := lw32 (dg_w a i)
   rw [← hX] at c1 ea
   obtain ⟨y, hy⟩ : ∃ y, X % 4294967296 = y := ⟨_, rfl⟩
   rw [hy] at ea
   obtain ⟨z, hz⟩ : ∃ z, X / 4294967296 = z := ⟨_, rfl⟩
   have HY : Hid (y = dg B32 a (2 * i) ∧ z = dg B32 a (2 * i + 1)) := ⟨by rw [← hy, hX, dg_lo], by rw [← hz, hX, dg_hi]⟩
   obtain ⟨D, hD⟩ : ∃ D, D = dP (2 * i) a := ⟨_, rfl⟩
   clear hch h1 h2 h3 hX hy
   go_wp2_with fail
   go_roundw
   case rel =>
    obtain ⟨k0, k1, k2, k3⟩ := H.out
    have hh := (k3.set p (.int .u64 y)).set q (.int .u64 z)
    rw [arr_set, arr_set, HP.out.1, HP.out.2, HY.out.1, HY.out.2, dP_succ, dP_succ] at hh
    refine ⟨i + 1, by go_num, by omega, (k0.setCell (by dsimp only; omega) _).setCell (by dsimp only; omega) _, (k1.other (by dsimp only; omega) _).other (by dsimp only; omega) _, (k2.other (by dsimp only; omega) _).other (by dsimp only; omega) _, ?_⟩
    rw [HP.out.1, HP.out.2, HY.out.1, HY.out.2]
    exact hh
   case measure => simp [intOf]; omega
  ·have : i = 4 := by omega
   subst this
   obtain ⟨k0, k1, k2, k3⟩ := H.out
   obtain ⟨t1, g1⟩ := k3
   obtain ⟨t3, g3⟩ := k2
   have hsz := szA (dP (2 * 4) a)
   have hlen := lenA zD (dP (2 * 4) a)
   have hone := oneA (dP (2 * 4) a)
   clear hch h1 h2 h3
   go_wp2_with (first | refine wpList_load_row rfl 66 _ rfl _ rfl _ _ _ _ g1 un49 rfl hsz ?_ | refine wpList_store_row rfl 66 _ _ rfl _ _ rfl rfl _ _ g3 hsz hlen hone ?_)
   refine bp_c (n := 17) (c := arr .u64 17 (dP 8 a)) Try.results43 rfl rfl ?_ un49 zero49.2 (arr_size _ _ _) ⟨rfl, ?_⟩
   ·exact H.out.2.2.1.row _
   ·exact H.out.1.setRow (by omega) _
end Go.Proofs.Ytbdgmkejmfjobaa

namespace Go.Proofs.Ytbdgmkejmfjobaa
set_option maxRecDepth 100000
open Go.RowKit
set_option linter.unusedVariables false
theorem or_two {lo hi : Int} (h1 : 0 ≤ lo ∧ lo < 4294967296) (h2 : 0 ≤ hi ∧ hi < 4294967296) : bits .or .u64 lo (hi * 4294967296) = lo + hi * 4294967296 := by
 obtain ⟨a, rfl⟩ := Int.eq_ofNat_of_zero_le h1.1
 obtain ⟨b, rfl⟩ := Int.eq_ofNat_of_zero_le h2.1
 have e : ((b : Int) * 4294967296) = ((b * 4294967296 : Nat) : Int) := by omega
 rw [e, u64_or_nat a (b * 4294967296) (by omega) (by omega)]
 have h3 : b * 4294967296 ||| a = b * 4294967296 + a := by
  have := Nat.shiftLeft_add_eq_or_of_lt (i := 32) (b := a) (by omega) b
  rw [Nat.shiftLeft_eq] at this
  exact this.symm
 rw [Nat.or_comm, h3]
 omega
theorem numR {x : Int} (h : 0 ≤ x) : num (x % R256) = num x := arr_congr fun i hi => by
 have e4 : R256 = B64 ^ i * (B64 * B64 ^ (3 - i)) := by
  have : R256 = B64 ^ (i + 1 + (3 - i)) := by rw [show i + 1 + (3 - i) = 4 by omega]; exact p4.symm
  rw [this, Int.pow_add, Int.pow_succ, Int.mul_assoc]
 unfold dg
 rw [e4]
 have hp := pow_pos' B64_pos i
 generalize B64 ^ i = c at *
 generalize B64 ^ (3 - i) = m
 have hx : x = x % (c * (B64 * m)) + c * (B64 * m * (x / (c * (B64 * m)))) := by
  have := Int.emod_add_mul_ediv x (c * (B64 * m))
  rw [Int.mul_assoc c (B64 * m)] at this
  exact this.symm
 generalize x % (c * (B64 * m)) = r at *
 generalize x / (c * (B64 * m)) = s at *
 rw [hx, Int.add_mul_ediv_left _ _ (by omega), Int.mul_assoc B64 m s, Int.add_mul_emod_self_left]
theorem num_four (x : Int) : num x = #[.int .u64 (dg B64 x 0), .int .u64 (dg B64 x 1), .int .u64 (dg B64 x 2), .int .u64 (dg B64 x 3)] := rfl
set_option maxHeartbeats 8000000 in
theorem number_any (x : Int) (hx : 0 ≤ x) (w : World) : Calls Try.prog 65 #[.agg (wdr x)] w fun r w' => r = .returned (.agg (num (x % R256))) ∧ Chg w w' := by
 rw [numR hx]
 have hsA := wdr_size x
 obtain ⟨A, hA⟩ : ∃ A, A = wdr x := ⟨_, rfl⟩
 have HA : Hid (A = wdr x) := hA
 rw [← hA] at hsA ⊢
 clear hA hx
 have hz := zero25.1
 obtain ⟨d0, hd0⟩ : ∃ d, d = dg B32 x 0 := ⟨_, rfl⟩
 have b0 := dg32_b x 0
 rw [← hd0] at b0
 obtain ⟨d1, hd1⟩ : ∃ d, d = dg B32 x 1 := ⟨_, rfl⟩
 have b1 := dg32_b x 1
 rw [← hd1] at b1
 obtain ⟨d2, hd2⟩ : ∃ d, d = dg B32 x 2 := ⟨_, rfl⟩
 have b2 := dg32_b x 2
 rw [← hd2] at b2
 obtain ⟨d3, hd3⟩ : ∃ d, d = dg B32 x 3 := ⟨_, rfl⟩
 have b3 := dg32_b x 3
 rw [← hd3] at b3
 obtain ⟨d4, hd4⟩ : ∃ d, d = dg B32 x 4 := ⟨_, rfl⟩
 have b4 := dg32_b x 4
 rw [← hd4] at b4
 obtain ⟨d5, hd5⟩ : ∃ d, d = dg B32 x 5 := ⟨_, rfl⟩
 have b5 := dg32_b x 5
 rw [← hd5] at b5
 obtain ⟨d6, hd6⟩ : ∃ d, d = dg B32 x 6 := ⟨_, rfl⟩
 have b6 := dg32_b x 6
 rw [← hd6] at b6
 obtain ⟨d7, hd7⟩ : ∃ d, d = dg B32 x 7 := ⟨_, rfl⟩
 have b7 := dg32_b x 7
 rw [← hd7] at b7
 obtain ⟨X0, hX0⟩ : ∃ X, X = dg B64 x 0 := ⟨_, rfl⟩
 have o0 := or_two b0 b1
 rw [hd0, hd1, dg_two x 0, ← hd0, ← hd1, ← hX0] at o0
 have s0 : IntKind.u64.wrap (d1 * 4294967296) = d1 * 4294967296 := by rw [IntKind.wrap_u64]; omega
 obtain ⟨X1, hX1⟩ : ∃ X, X = dg B64 x 1 := ⟨_, rfl⟩
 have o1 := or_two b2 b3
 rw [hd2, hd3, dg_two x 1, ← hd2, ← hd3, ← hX1] at o1
 have s1 : IntKind.u64.wrap (d3 * 4294967296) = d3 * 4294967296 := by rw [IntKind.wrap_u64]; omega
 obtain ⟨X2, hX2⟩ : ∃ X, X = dg B64 x 2 := ⟨_, rfl⟩
 have o2 := or_two b4 b5
 rw [hd4, hd5, dg_two x 2, ← hd4, ← hd5, ← hX2] at o2
 have s2 : IntKind.u64.wrap (d5 * 4294967296) = d5 * 4294967296 := by rw [IntKind.wrap_u64]; omega
 obtain ⟨X3, hX3⟩ : ∃ X, X = dg B64 x 3 := ⟨_, rfl⟩
 have o3 := or_two b6 b7
 rw [hd6, hd7, dg_two x 3, ← hd6, ← hd7, ← hX3] at o3
 have s3 : IntKind.u64.wrap (d7 * 4294967296) = d7 * 4294967296 := by rw [IntKind.wrap_u64]; omega
 have HD : Hid (d0 = dg B32 x 0 ∧ d1 = dg B32 x 1 ∧ d2 = dg B32 x 2 ∧ d3 = dg B32 x 3 ∧ d4 = dg B32 x 4 ∧ d5 = dg B32 x 5 ∧ d6 = dg B32 x 6 ∧ d7 = dg B32 x 7) := ⟨hd0, hd1, hd2, hd3, hd4, hd5, hd6, hd7⟩
 clear hd0 hd1 hd2 hd3 hd4 hd5 hd6 hd7
 have HN : Hid (num x = #[.int .u64 X0, .int .u64 X1, .int .u64 X2, .int .u64 X3]) := by
  show num x = _
  rw [hX0, hX1, hX2, hX3]
  rfl
 have hsz := szN x
 have hlen := lenN 0 x
 have hone := num_one x
 rw [HN.out] at hsz hlen hone
 obtain ⟨Z0, hZ0⟩ : ∃ Z, Z = num 0 := ⟨_, rfl⟩
 have HZ : Hid (Z0 = num 0) := hZ0
 rw [← hZ0] at hz hlen
 clear hX0 hX1 hX2 hX3 hZ0
 go_enter Try.func65, Try.ntmps65
 go_upto_region 1 with fail
 obtain ⟨w2, hw2⟩ : ∃ w2, w2 = (w.alloc (.cells A 66)).alloc (.cells Z0 24) := ⟨_, rfl⟩
 have Z2 : Hid (Chg w w2 ∧ Ar w2 w.heap.size (wdr x) ∧ Ar w2 (w.heap.size + 1) (num 0)) := by
  rw [hw2, HA.out, HZ.out]
  exact ⟨((Chg.refl w).alloc _).alloc _, (Ar.new w _ _).alloc _, Ar.new1 w _ _ _⟩
 rw [← hw2]
 clear hw2 hsA hz
 have c0 : w2.cell? ⟨w.heap.size, 0, none⟩ = some (.int .u64 d0) := by rw [HD.out.1]; exact (Z2.out.2.1.cell 0).trans (arr_get .u64 17 _ (by decide))
 have c1 : w2.cell? ⟨w.heap.size, 1, none⟩ = some (.int .u64 d1) := by rw [HD.out.2.1]; exact (Z2.out.2.1.cell 1).trans (arr_get .u64 17 _ (by decide))
 have c2 : w2.cell? ⟨w.heap.size, 2, none⟩ = some (.int .u64 d2) := by rw [HD.out.2.2.1]; exact (Z2.out.2.1.cell 2).trans (arr_get .u64 17 _ (by decide))
 have c3 : w2.cell? ⟨w.heap.size, 3, none⟩ = some (.int .u64 d3) := by rw [HD.out.2.2.2.1]; exact (Z2.out.2.1.cell 3).trans (arr_get .u64 17 _ (by decide))
 have c4 : w2.cell? ⟨w.heap.size, 4, none⟩ = some (.int .u64 d4) := by rw [HD.out.2.2.2.2.1]; exact (Z2.out.2.1.cell 4).trans (arr_get .u64 17 _ (by decide))
 have c5 : w2.cell? ⟨w.heap.size, 5, none⟩ = some (.int .u64 d5) := by rw [HD.out.2.2.2.2.2.1]; exact (Z2.out.2.1.cell 5).trans (arr_get .u64 17 _ (by decide))
 have c6 : w2.cell? ⟨w.heap.size, 6, none⟩ = some (.int .u64 d6) := by rw [HD.out.2.2.2.2.2.2.1]; exact (Z2.out.2.1.cell 6).trans (arr_get .u64 17 _ (by decide))
 have c7 : w2.cell? ⟨w.heap.size, 7, none⟩ = some (.int .u64 d7) := by rw [HD.out.2.2.2.2.2.2.2]; exact (Z2.out.2.1.cell 7).trans (arr_get .u64 17 _ (by decide))
 obtain ⟨t3, g3⟩ := Z2.out.2.2
 rw [← HZ.out] at g3
 go_wp2_with (first | refine wpList_store_row rfl 24 _ _ rfl _ _ rfl rfl _ _ g3 hsz hlen hone ?_)
 refine bp_n (x := x) Try.results65 rfl rfl ?_ ⟨rfl, ?_⟩
 ·rw [← HN.out]
  exact Z2.out.2.2.row _
 ·exact Z2.out.1.setRow (by omega) _
end Go.Proofs.Ytbdgmkejmfjobaa

namespace Go.Proofs.Ytbdgmkejmfjobaa
set_option maxRecDepth 100000
open Go.RowKit
set_option linter.unusedVariables false
set_option maxHeartbeats 8000000 in
theorem modulusR_any (f : Int) (w : World) : Calls Try.prog 20 #[.int .i64 f] w fun r w' => r = .returned (.agg (num (mo f))) ∧ Chg w w' := by
 by_cases h1 : f = 1
 ·subst h1
  rw [num_1]
  go_enter Try.func20, Try.ntmps20
  go_wp2
  exact bp_c (n := 4) Try.results20 rfl rfl (Ar.new w _ 24) u25 i25 rfl ⟨rfl, (Chg.refl w).alloc _⟩
 by_cases h2 : f = 2
 ·subst h2
  rw [num_2]
  go_enter Try.func20, Try.ntmps20
  go_wp2
  exact bp_c (n := 4) Try.results20 rfl rfl (Ar.new w _ 24) u25 i25 rfl ⟨rfl, (Chg.refl w).alloc _⟩
 by_cases h3 : f = 3
 ·subst h3
  rw [num_3]
  go_enter Try.func20, Try.ntmps20
  go_wp2
  exact bp_c (n := 4) Try.results20 rfl rfl (Ar.new w _ 24) u25 i25 rfl ⟨rfl, (Chg.refl w).alloc _⟩
 by_cases h4 : f = 4
 ·subst h4
  rw [num_4]
  go_enter Try.func20, Try.ntmps20
  go_wp2
  exact bp_c (n := 4) Try.results20 rfl rfl (Ar.new w _ 24) u25 i25 rfl ⟨rfl, (Chg.refl w).alloc _⟩
 ·have hmo : mo f = 0 := by simp [mo, h1, h2, h3, h4]
  rw [hmo, num_0]
  go_enter Try.func20, Try.ntmps20
  go_wp2
  exact bp_c (n := 4) Try.results20 rfl rfl (Ar.new w _ 24) u25 i25 rfl ⟨rfl, (Chg.refl w).alloc _⟩
theorem Chg.drewN {a b : World} (h : Chg a b) (n : Nat) : Chg a (b.drewN n) := ⟨h.os, h.tape, h.output, h.size, h.block⟩
theorem Ar.drewN {w : World} {b : Nat} {c : Array Value} (h : Ar w b c) (n : Nat) : Ar (w.drewN n) b c := h
def isF (f : Int) : Bool := decide (1 ≤ f) && decide (f ≤ 4)
theorem is_any (f : Int) (w : World) : Calls Try.prog 41 #[.int .i64 f] w fun r w' => r = .returned (.bool (isF f)) ∧ Chg w w' := by
 by_cases h1 : 1 ≤ f
 ·by_cases h2 : f ≤ 4
  ·rw [show isF f = true by simp [isF, h1, h2]]
   go_enter Try.func41, Try.ntmps41
   go_wp2_with fail
   go_ret
   exact ⟨rfl, Chg.refl w⟩
  ·rw [show isF f = false by simp [isF, h2]]
   go_enter Try.func41, Try.ntmps41
   go_wp2_with fail
   go_ret
   exact ⟨rfl, Chg.refl w⟩
 ·rw [show isF f = false by simp [isF, h1]]
  go_enter Try.func41, Try.ntmps41
  go_wp2_with fail
  go_ret
  exact ⟨rfl, Chg.refl w⟩
theorem cmp_at {B : Int} (hB : 0 < B) {n q : Nat} {d e : Nat → Int} (hd : ∀ i, i < n → 0 ≤ d i ∧ d i < B) (he : ∀ i, i < n → 0 ≤ e i ∧ e i < B) (hq : q < n) (hh : ∀ j, q < j → j < n → d j = e j) (hne : ¬ d q = e q) : decide (d q < e q) = decide (val B n d < val B n e) := by
 by_cases h : d q < e q
 ·have := val_lt hB hd he hq hh h
  simp [h, this]
 ·have := val_lt hB he hd hq (fun j h1 h2 => (hh j h1 h2).symm) (by omega)
  have h2 : ¬ val B n d < val B n e := by omega
  simp [h, h2]
set_option maxHeartbeats 8000000 in
theorem lessD_any (d e : Nat → Int) (hd : ∀ i, i < 4 → 0 ≤ d i ∧ d i < B64) (he : ∀ i, i < 4 → 0 ≤ e i ∧ e i < B64) (w : World) : Calls Try.prog 36 #[.agg (arr .u64 4 d), .agg (arr .u64 4 e)] w fun r w' => r = .returned (.bool (decide (val B64 4 d < val B64 4 e))) ∧ Chg w w' := by
 have HD : Hid ((∀ i, i < 4 → 0 ≤ d i ∧ d i < B64) ∧ (∀ i, i < 4 → 0 ≤ e i ∧ e i < B64)) := ⟨hd, he⟩
 obtain ⟨ANS, hANS⟩ : ∃ b, b = decide (val B64 4 d < val B64 4 e) := ⟨_, rfl⟩
 have HANS : Hid (ANS = decide (val B64 4 d < val B64 4 e)) := hANS
 rw [← hANS]
 clear hANS hd he
 have hsA : (arr .u64 4 d).size = 4 := arr_size _ _ _
 have hsB : (arr .u64 4 e).size = 4 := arr_size _ _ _
 obtain ⟨A, hA⟩ : ∃ A, A = arr .u64 4 d := ⟨_, rfl⟩
 obtain ⟨E, hE⟩ : ∃ A, A = arr .u64 4 e := ⟨_, rfl⟩
 have HA : Hid (A = arr .u64 4 d ∧ E = arr .u64 4 e) := ⟨hA, hE⟩
 rw [← hA] at hsA ⊢
 rw [← hE] at hsB ⊢
 clear hA hE
 go_enter Try.func36, Try.ntmps36
 go_wp2_with fail
 obtain ⟨w2, hw2⟩ : ∃ w2, w2 = (w.alloc (.cells A 24)).alloc (.cells E 24) := ⟨_, rfl⟩
 have Z2 : Hid (Chg w w2 ∧ Ar w2 w.heap.size (arr .u64 4 d) ∧ Ar w2 (w.heap.size + 1) (arr .u64 4 e)) := by
  rw [hw2, HA.out.1, HA.out.2]
  exact ⟨((Chg.refl w).alloc _).alloc _, (Ar.new w _ _).alloc _, Ar.new1 w _ _ _⟩
 rw [← hw2]
 clear hw2 hsA hsB
 go_loopw [5] (fun v wr => ∃ z : Int, v = .int .i64 z ∧ -1 ≤ z ∧ z < 4 ∧ Chg w wr ∧ Ar wr w.heap.size (arr .u64 4 d) ∧ Ar wr (w.heap.size + 1) (arr .u64 4 e) ∧ (∀ j : Nat, z < j → j < 4 → d j = e j)) (fun v wr => (intOf v + 1).toNat)
 case atStart => exact ⟨3, rfl, by decide, by decide, Z2.out.1, Z2.out.2.1, Z2.out.2.2, fun j h1 h2 => by omega⟩
 case round =>
  clear Z2 HA
  obtain ⟨z, rfl, hz0, hz1, hch, h1, h2, h3⟩ := hrel
  have H : Hid (Chg w wr ∧ Ar wr w.heap.size (arr .u64 4 d) ∧ Ar wr (w.heap.size + 1) (arr .u64 4 e) ∧ (∀ j : Nat, z < j → j < 4 → d j = e j)) := ⟨hch, h1, h2, h3⟩
  by_cases hz : 0 ≤ z
  ·obtain ⟨q, rfl⟩ : ∃ q : Nat, z = q := ⟨z.toNat, by omega⟩
   have hdz : decide ((0 : Int) ≤ (q : Int)) = true := by simp
   have lq : (q : Int) < 4 := by omega
   have lq0 : (0 : Int) ≤ (q : Int) := by omega
   have wq := wrap_i (x := (q : Int)) (by omega) (by omega)
   have lq' : q < 4 := by omega
   have c1 := (h1.cell q).trans (arr_get .u64 4 _ lq')
   have c2 := (h2.cell q).trans (arr_get .u64 4 _ lq')
   obtain ⟨x, hx⟩ : ∃ x, x = d q := ⟨_, rfl⟩
   obtain ⟨y, hy⟩ : ∃ y, y = e q := ⟨_, rfl⟩
   rw [← hx] at c1
   rw [← hy] at c2
   obtain ⟨z', hz'⟩ : ∃ z' : Int, (q : Int) - 1 = z' := ⟨_, rfl⟩
   have wz := wrap_i (x := z') (by omega) (by omega)
   have HX : Hid (x = d q ∧ y = e q ∧ z' = (q : Int) - 1) := ⟨hx, hy, hz'.symm⟩
   clear hx hy hch h1 h2 h3
   by_cases hxy : x = y
   ·subst hxy
    have hne : (x != x) = false := by simp
    go_wp2_with fail
    go_quiet (fail)
    go_wp2_with fail
    go_roundw
    case rel =>
     obtain ⟨k0, k1, k2, k3⟩ := H.out
     refine ⟨z', by first | rfl | go_num, by omega, by omega, k0.drewN _, k1, k2, fun j h1 h2 => ?_⟩
     by_cases hj : j = q
     ·subst hj
      rw [← HX.out.1, ← HX.out.2.1]
     ·exact k3 j (by omega) h2
    case measure => simp [intOf]; omega
   ·have hne : (x != y) = true := by simp [hxy]
    have hans : decide (x < y) = ANS := by
     rw [HANS.out, HX.out.1, HX.out.2.1]
     exact cmp_at (by decide) HD.out.1 HD.out.2 lq' (fun j h1 h2 => H.out.2.2.2 j (by omega) h2) (by rw [← HX.out.1, ← HX.out.2.1]; exact hxy)
    clear hxy
    go_wp2_with fail
    go_quiet (fail)
    go_wp2_with fail
    go_quiet (fail)
    go_wp2_with fail
    go_ret
    exact ⟨by first | rfl | rw [hans], (H.out.1.drewN _).drewN _⟩
  ·have : z = -1 := by omega
   subst this
   have hans : ANS = false := by
    rw [HANS.out, val_congr (n := 4) (d := d) (e := e) fun i hi => H.out.2.2.2 i (by omega) hi]
    simp
   clear hch h1 h2 h3
   go_wp2_with fail
   go_ret
   exact ⟨by first | rfl | rw [hans], H.out.1⟩
set_option maxHeartbeats 8000000 in
theorem lowerD_any (d e : Nat → Int) (hd : ∀ i, i < 17 → 0 ≤ d i ∧ d i < B32) (he : ∀ i, i < 17 → 0 ≤ e i ∧ e i < B32) (w : World) : Calls Try.prog 83 #[.agg (arr .u64 17 d), .agg (arr .u64 17 e)] w fun r w' => r = .returned (.bool (decide (val B32 17 d < val B32 17 e))) ∧ Chg w w' := by
 have HD : Hid ((∀ i, i < 17 → 0 ≤ d i ∧ d i < B32) ∧ (∀ i, i < 17 → 0 ≤ e i ∧ e i < B32)) := ⟨hd, he⟩
 obtain ⟨ANS, hANS⟩ : ∃ b, b = decide (val B32 17 d < val B32 17 e) := ⟨_, rfl⟩
 have HANS : Hid (ANS = decide (val B32 17 d < val B32 17 e)) := hANS
 rw [← hANS]
 clear hANS hd he
 have hsA : (arr .u64 17 d).size = 17 := arr_size _ _ _
 have hsB : (arr .u64 17 e).size = 17 := arr_size _ _ _
 obtain ⟨A, hA⟩ : ∃ A, A = arr .u64 17 d := ⟨_, rfl⟩
 obtain ⟨E, hE⟩ : ∃ A, A = arr .u64 17 e := ⟨_, rfl⟩
 have HA : Hid (A = arr .u64 17 d ∧ E = arr .u64 17 e) := ⟨hA, hE⟩
 rw [← hA] at hsA ⊢
 rw [← hE] at hsB ⊢
 clear hA hE
 go_enter Try.func83, Try.ntmps83
 go_wp2_with fail
 obtain ⟨w2, hw2⟩ : ∃ w2, w2 = (w.alloc (.cells A 66)).alloc (.cells E 66) := ⟨_, rfl⟩
 have Z2 : Hid (Chg w w2 ∧ Ar w2 w.heap.size (arr .u64 17 d) ∧ Ar w2 (w.heap.size + 1) (arr .u64 17 e)) := by
  rw [hw2, HA.out.1, HA.out.2]
  exact ⟨((Chg.refl w).alloc _).alloc _, (Ar.new w _ _).alloc _, Ar.new1 w _ _ _⟩
 rw [← hw2]
 clear hw2 hsA hsB
 go_loopw [5] (fun v wr => ∃ z : Int, v = .int .i64 z ∧ -1 ≤ z ∧ z < 17 ∧ Chg w wr ∧ Ar wr w.heap.size (arr .u64 17 d) ∧ Ar wr (w.heap.size + 1) (arr .u64 17 e) ∧ (∀ j : Nat, z < j → j < 17 → d j = e j)) (fun v wr => (intOf v + 1).toNat)
 case atStart => exact ⟨16, rfl, by decide, by decide, Z2.out.1, Z2.out.2.1, Z2.out.2.2, fun j h1 h2 => by omega⟩
 case round =>
  clear Z2 HA
  obtain ⟨z, rfl, hz0, hz1, hch, h1, h2, h3⟩ := hrel
  have H : Hid (Chg w wr ∧ Ar wr w.heap.size (arr .u64 17 d) ∧ Ar wr (w.heap.size + 1) (arr .u64 17 e) ∧ (∀ j : Nat, z < j → j < 17 → d j = e j)) := ⟨hch, h1, h2, h3⟩
  by_cases hz : 0 ≤ z
  ·obtain ⟨q, rfl⟩ : ∃ q : Nat, z = q := ⟨z.toNat, by omega⟩
   have hdz : decide ((0 : Int) ≤ (q : Int)) = true := by simp
   have lq : (q : Int) < 17 := by omega
   have lq0 : (0 : Int) ≤ (q : Int) := by omega
   have wq := wrap_i (x := (q : Int)) (by omega) (by omega)
   have lq' : q < 17 := by omega
   have c1 := (h1.cell q).trans (arr_get .u64 17 _ lq')
   have c2 := (h2.cell q).trans (arr_get .u64 17 _ lq')
   obtain ⟨x, hx⟩ : ∃ x, x = d q := ⟨_, rfl⟩
   obtain ⟨y, hy⟩ : ∃ y, y = e q := ⟨_, rfl⟩
   rw [← hx] at c1
   rw [← hy] at c2
   obtain ⟨z', hz'⟩ : ∃ z' : Int, (q : Int) - 1 = z' := ⟨_, rfl⟩
   have wz := wrap_i (x := z') (by omega) (by omega)
   have HX : Hid (x = d q ∧ y = e q ∧ z' = (q : Int) - 1) := ⟨hx, hy, hz'.symm⟩
   clear hx hy hch h1 h2 h3
   by_cases hxy : x = y
   ·subst hxy
    have hne : (x != x) = false := by simp
    go_wp2_with fail
    go_quiet (fail)
    go_wp2_with fail
    go_roundw
    case rel =>
     obtain ⟨k0, k1, k2, k3⟩ := H.out
     refine ⟨z', by first | rfl | go_num, by omega, by omega, k0.drewN _, k1, k2, fun j h1 h2 => ?_⟩
     by_cases hj : j = q
     ·subst hj
      rw [← HX.out.1, ← HX.out.2.1]
     ·exact k3 j (by omega) h2
    case measure => simp [intOf]; omega
   ·have hne : (x != y) = true := by simp [hxy]
    have hans : decide (x < y) = ANS := by
     rw [HANS.out, HX.out.1, HX.out.2.1]
     exact cmp_at (by decide) HD.out.1 HD.out.2 lq' (fun j h1 h2 => H.out.2.2.2 j (by omega) h2) (by rw [← HX.out.1, ← HX.out.2.1]; exact hxy)
    clear hxy
    go_wp2_with fail
    go_quiet (fail)
    go_wp2_with fail
    go_quiet (fail)
    go_wp2_with fail
    go_ret
    exact ⟨by first | rfl | rw [hans], (H.out.1.drewN _).drewN _⟩
  ·have : z = -1 := by omega
   subst this
   have hans : ANS = false := by
    rw [HANS.out, val_congr (n := 17) (d := d) (e := e) fun i hi => H.out.2.2.2 i (by omega) hi]
    simp
   clear hch h1 h2 h3
   go_wp2_with fail
   go_ret
   exact ⟨by first | rfl | rw [hans], H.out.1⟩
theorem less_any (a b : Int) (ha : N256 a) (hb : N256 b) (w : World) : Calls Try.prog 36 #[.agg (num a), .agg (num b)] w fun r w' => r = .returned (.bool (decide (a < b))) ∧ Chg w w' := by
 have := lessD_any (dg B64 a) (dg B64 b) (fun i _ => dg_w a i) (fun i _ => dg_w b i) w
 rwa [val4 a ha.1 ha.2, val4 b hb.1 hb.2] at this
end Go.Proofs.Ytbdgmkejmfjobaa

namespace Go.Proofs.Ytbdgmkejmfjobaa
set_option maxRecDepth 100000
open Go.RowKit
set_option linter.unusedVariables false
def D32 (d : Nat → Int) : Prop := ∀ i, 0 ≤ d i ∧ d i < 4294967296
theorem D32.upd {d : Nat → Int} (h : D32 d) (i : Nat) {x : Int} (hx : 0 ≤ x ∧ x < 4294967296) : D32 (upd d i x) := fun j => by
 unfold Go.Proofs.Ytbdgmkejmfjobaa.upd
 by_cases e : j = i
 ·rw [if_pos e]; exact hx
 ·rw [if_neg e]; exact h j
theorem D32.dg (x : Int) : D32 (dg B32 x) := fun i => dg32_b x i
theorem D32.w {d : Nat → Int} (h : D32 d) (i : Nat) : W64 (d i) := ⟨(h i).1, Int.lt_trans (h i).2 (by decide)⟩
abbrev R544 : Int := 57586096570152913699974892898380567793532123114264532903689671329431521032595044740083720782129802971518987656109067457577065805510327036019308994315074097345724416
theorem p17 : B32 ^ 17 = R544 := by decide +kernel
theorem val17 (x : Int) (h0 : 0 ≤ x) (h1 : x < R544) : val B32 17 (dg B32 x) = x := by
 rw [val_dg B32_pos, p17, Int.emod_eq_of_lt h0 h1]
theorem v17_b {d : Nat → Int} (h : D32 d) : 0 ≤ val B32 17 d ∧ val B32 17 d < R544 := by
 have := val_bound (n := 17) B32_pos fun i _ => h i
 rwa [p17] at this
theorem arr_wdr {d : Nat → Int} (h : D32 d) : arr .u64 17 d = wdr (val B32 17 d) := by
 refine arr_congr ?_
 refine val_inj B32_pos (fun i _ => h i) (fun i _ => dg32_b _ i) ?_
 rw [val17 _ (v17_b h).1 (v17_b h).2]
theorem val_b8' (x : Int) (h : N256 x) : val B32 8 (dg B32 x) = x := by
 rw [val_dg B32_pos, show B32 ^ 8 = R256 by decide, Int.emod_eq_of_lt h.1 h.2]
structure TS (w wr : World) (b5 b6 b7 : Nat) (a b : Int) (d : Nat → Int) : Prop where
 chg : Chg w wr
 res : Ar wr (w.heap.size + 1 + 1) (arr .u64 17 zD)
 x : Ar wr b5 (wdr a)
 y : Ar wr b6 (wdr b)
 o : Ar wr b7 (arr .u64 17 d)
theorem TS.set {w wr : World} {b5 b6 b7 : Nat} {a b : Int} {d : Nat → Int} (h : TS w wr b5 b6 b7 a b d) (h5 : w.heap.size + 2 < b5) (h6 : b5 < b6) (h7 : b6 < b7) (i : Nat) (v : Int) : TS w (wr.setCell ⟨b7, i, none⟩ (.int .u64 v)) b5 b6 b7 a b (upd d i v) :=
 ⟨h.chg.setCell (by dsimp only; omega) _, h.res.other (by dsimp only; omega) _, h.x.other (by dsimp only; omega) _, h.y.other (by dsimp only; omega) _, by have := h.o.set i (.int .u64 v); rwa [arr_set] at this⟩
theorem TS.drew {w wr : World} {b5 b6 b7 : Nat} {a b : Int} {d : Nat → Int} (h : TS w wr b5 b6 b7 a b d) : TS w wr.drew b5 b6 b7 a b d := ⟨h.chg.drew, h.res, h.x, h.y, h.o⟩
theorem TS.drewN {w wr : World} {b5 b6 b7 : Nat} {a b : Int} {d : Nat → Int} (h : TS w wr b5 b6 b7 a b d) (n : Nat) : TS w (wr.drewN n) b5 b6 b7 a b d := ⟨h.chg.drewN n, h.res, h.x, h.y, h.o⟩
theorem zero_wdr : arr .u64 17 zD = wdr 0 := wdr_zero.symm
theorem mul_bnd {x y c d : Int} (hx : 0 ≤ x ∧ x < 4294967296) (hy : 0 ≤ y ∧ y < 4294967296) (hc : 0 ≤ c ∧ c < 4294967296) (hd : 0 ≤ d ∧ d < 4294967296) : 0 ≤ x * y ∧ d + x * y + c < 18446744073709551616 := by
 have h1 : x * y ≤ 4294967295 * 4294967295 := Int.mul_le_mul (by omega) (by omega) hy.1 (by decide)
 have h2 : 0 ≤ x * y := Int.mul_nonneg hx.1 hy.1
 exact ⟨h2, by omega⟩
set_option maxHeartbeats 16000000 in
theorem times_any (a b : Int) (ha : N256 a) (hb : N256 b) (w : World) : Calls Try.prog 82 #[.agg (num a), .agg (num b)] w fun r w' => r = .returned (.agg (wdr (a * b))) ∧ Chg w w' := by
 have HAB : Hid (N256 a ∧ N256 b) := ⟨ha, hb⟩
 have hsA := num_size a
 have hsB := num_size b
 have hzA := szN a
 have hzB := szN b
 obtain ⟨A, hA⟩ : ∃ A, A = num a := ⟨_, rfl⟩
 obtain ⟨E, hE⟩ : ∃ A, A = num b := ⟨_, rfl⟩
 have HD1 : Hid (∀ u, Calls Try.prog 43 #[.agg A] u fun r w' => r = .returned (.agg (wdr a)) ∧ Chg u w') := fun u => by rw [hA]; exact digits_any a ha u
 have HD2 : Hid (∀ u, Calls Try.prog 43 #[.agg E] u fun r w' => r = .returned (.agg (wdr b)) ∧ Chg u w') := fun u => by rw [hE]; exact digits_any b hb u
 rw [← hA] at hsA hzA ⊢
 rw [← hE] at hsB hzB ⊢
 clear hA hE ha hb
 have hz := zero49.1
 obtain ⟨WA, hWA⟩ : ∃ A, A = wdr a := ⟨_, rfl⟩
 obtain ⟨WB, hWB⟩ : ∃ A, A = wdr b := ⟨_, rfl⟩
 obtain ⟨Z0, hZ0⟩ : ∃ Z, Z = arr .u64 17 zD := ⟨_, rfl⟩
 have HW : Hid (WA = wdr a ∧ WB = wdr b ∧ Z0 = arr .u64 17 zD) := ⟨hWA, hWB, hZ0⟩
 have s1 := szA (dg B32 a)
 have l1 := lenA zD (dg B32 a)
 have o1 := oneA (dg B32 a)
 have s2 := szA (dg B32 b)
 have l2 := lenA zD (dg B32 b)
 have o2 := oneA (dg B32 b)
 rw [show arr .u64 17 (dg B32 a) = WA from hWA.symm] at s1 l1 o1
 rw [show arr .u64 17 (dg B32 b) = WB from hWB.symm] at s2 l2 o2
 rw [← hZ0] at l1 l2 hz
 rw [← hWA] at HD1
 rw [← hWB] at HD2
 clear hWA hWB hZ0
 go_enter Try.func82, Try.ntmps82
 go_upto_region 1 with fail
 obtain ⟨w3, hw3⟩ : ∃ w3, w3 = ((w.alloc (.cells A 24)).alloc (.cells E 24)).alloc (.cells Z0 66) := ⟨_, rfl⟩
 have Z3 : Hid (Chg w w3 ∧ Ar w3 w.heap.size A ∧ Ar w3 (w.heap.size + 1) E ∧ Ar w3 (w.heap.size + 1 + 1) Z0) := by
  rw [hw3]
  exact ⟨(((Chg.refl w).alloc _).alloc _).alloc _, ((Ar.new w _ _).alloc _).alloc _, (Ar.new1 w _ _ _).alloc _, Ar.new2 w _ _ _ _⟩
 rw [← hw3]
 clear hw3 hsA hsB
 obtain ⟨t1, g1⟩ := Z3.out.2.1
 go_wp2_with (first | refine wpList_load_row rfl 24 _ rfl _ rfl _ _ _ _ g1 undNum rfl hzA ?_)
 go_at_call 43
 refine (HD1.out _).mono ?_
 rintro r w4 ⟨rfl, hc4⟩
 have Z4 : Hid (Chg w w4 ∧ Ar w4 (w.heap.size + 1) E ∧ Ar w4 (w.heap.size + 1 + 1) Z0) := ⟨Z3.out.1.trans hc4, Z3.out.2.2.1.chg hc4, Z3.out.2.2.2.chg hc4⟩
 clear hc4 g1 Z3 hzA
 go_upto_region 2 with (first | refine wpList_store_row rfl 66 _ _ rfl _ _ rfl rfl _ _ (heap_alloc_last w4 _) s1 l1 o1 ?_)
 obtain ⟨b5, hb5⟩ : ∃ b, b = w4.heap.size := ⟨_, rfl⟩
 obtain ⟨w5, hw5⟩ : ∃ w5, w5 = (w4.alloc (.cells Z0 66)).setRow w4.heap.size WA := ⟨_, rfl⟩
 have Z5 : Hid (Chg w w5 ∧ Ar w5 (w.heap.size + 1) E ∧ Ar w5 (w.heap.size + 1 + 1) Z0 ∧ Ar w5 b5 WA ∧ w.heap.size + 2 < b5) := by
  have hl := Z4.out.2.2.lt
  have h1 := Z4.out.1.size
  rw [hw5, hb5]
  exact ⟨(Z4.out.1.alloc _).setRow h1 _, (Z4.out.2.1.alloc _).rowOther (by omega) _, (Z4.out.2.2.alloc _).rowOther (by omega) _, (Ar.new w4 _ _).row _, by omega⟩
 rw [← hw5, ← hb5]
 clear hw5 hb5 Z4 s1 l1 o1
 obtain ⟨t1, g1⟩ := Z5.out.2.1
 go_wp2_with (first | refine wpList_load_row rfl 24 _ rfl _ rfl _ _ _ _ g1 undNum rfl hzB ?_)
 go_at_call 43
 refine (HD2.out _).mono ?_
 rintro r w6 ⟨rfl, hc6⟩
 have Z6 : Hid (Chg w w6 ∧ Ar w6 (w.heap.size + 1 + 1) Z0 ∧ Ar w6 b5 WA ∧ w.heap.size + 2 < b5) := ⟨Z5.out.1.trans hc6, Z5.out.2.2.1.chg hc6, Z5.out.2.2.2.1.chg hc6, Z5.out.2.2.2.2⟩
 clear hc6 g1 Z5 hzB
 go_upto_region 4 with (first | refine wpList_store_row rfl 66 _ _ rfl _ _ rfl rfl _ _ (heap_alloc_last w6 _) s2 l2 o2 ?_)
 obtain ⟨b6, hb6⟩ : ∃ b, b = w6.heap.size := ⟨_, rfl⟩
 obtain ⟨b7, hb7⟩ : ∃ b, b = w6.heap.size + 1 := ⟨_, rfl⟩
 obtain ⟨w7, hw7⟩ : ∃ w7, w7 = ((w6.alloc (.cells Z0 66)).setRow w6.heap.size WB).alloc (.cells Z0 66) := ⟨_, rfl⟩
 have Z7 : Hid (TS w w7 b5 b6 b7 a b zD ∧ w.heap.size + 2 < b5 ∧ b5 < b6 ∧ b6 < b7) := by
  have hl := Z6.out.2.2.1.lt
  have h1 := Z6.out.1.size
  have h2 := Z6.out.2.2.2
  have hn : Ar (((w6.alloc (.cells Z0 66)).setRow w6.heap.size WB).alloc (.cells Z0 66)) (w6.heap.size + 1) Z0 := by
   have := Ar.new ((w6.alloc (.cells Z0 66)).setRow w6.heap.size WB) Z0 66
   rwa [show ((w6.alloc (.cells Z0 66)).setRow w6.heap.size WB).heap.size = w6.heap.size + 1 by simp [World.setRow]] at this
  rw [hw7, hb6, hb7]
  rw [HW.out.2.2] at hn
  refine ⟨⟨((Z6.out.1.alloc _).setRow h1 _).alloc _, ?_, ?_, ?_, ?_⟩, by omega, by omega, by omega⟩
  ·rw [← HW.out.2.2]
   exact ((Z6.out.2.1.alloc _).rowOther (by omega) _).alloc _
  ·rw [← HW.out.1]
   exact ((Z6.out.2.2.1.alloc _).rowOther (by omega) _).alloc _
  ·rw [← HW.out.2.1]
   exact ((Ar.new w6 _ _).row _).alloc _
  ·rw [HW.out.2.2]
   exact hn
 rw [← hw7, ← hb7, ← hb6]
 clear hw7 hb6 hb7 Z6 s2 l2 o2 hz HD1 HD2
 clear HW
 go_wp2_with fail
 go_loopw [8] (fun v wr => ∃ (i : Nat) (d : Nat → Int), v = .int .i64 i ∧ i ≤ 8 ∧ TS w wr b5 b6 b7 a b d ∧ D32 d ∧ (∀ j, i + 8 ≤ j → d j = 0) ∧ val B32 17 d = val B32 i (dg B32 a) * b) (fun v wr => 8 - (intOf v).toNat)
 case atStart =>
  refine ⟨0, zD, rfl, by omega, Z7.out.1, fun i => by unfold zD; decide, fun j _ => rfl, ?_⟩
  show val B32 17 (fun _ => 0) = 0 * b
  rw [val_zero, Int.zero_mul]
 case round =>
  obtain ⟨i, d, rfl, hi, hts, hd, hd0, hv⟩ := hrel
  by_cases h8 : i < 8
  ·have hdi : decide ((i : Int) < 8) = true := by simp; omega
   have H : Hid (TS w wr b5 b6 b7 a b d ∧ D32 d ∧ (∀ j, i + 8 ≤ j → d j = 0) ∧ val B32 17 d = val B32 i (dg B32 a) * b) := ⟨hts, hd, hd0, hv⟩
   clear hts hd hd0 hv
   have li : (i : Int) < 17 := by omega
   go_wp2_with fail
   go_loopw [9, 10] (fun v v10 wr' => ∃ (k : Nat) (c : Int) (e : Nat → Int), v10 = .int .i64 k ∧ v = .int .u64 c ∧ k ≤ 8 ∧ (0 ≤ c ∧ c < 4294967296) ∧ TS w wr' b5 b6 b7 a b e ∧ D32 e ∧ (∀ j, i + 8 ≤ j → e j = 0) ∧ val B32 17 e + c * B32 ^ (i + k) = val B32 i (dg B32 a) * b + dg B32 a i * val B32 k (dg B32 b) * B32 ^ i) (fun v v10 wr' => 8 - (intOf v10).toNat)
   case atStart =>
    obtain ⟨k1, k2, k3, k4⟩ := H.out
    refine ⟨0, 0, d, rfl, rfl, by omega, by decide, k1, k2, k3, ?_⟩
    show val B32 17 d + 0 * _ = _ + dg B32 a i * 0 * _
    rw [k4, Int.zero_mul, Int.mul_zero, Int.zero_mul]
   case round =>
    obtain ⟨k, c, e, rfl, rfl, hk, hcb, hts, he, he0, hv⟩ := hrel
    have H2 : Hid (TS w wr b5 b6 b7 a b e ∧ D32 e ∧ (∀ j, i + 8 ≤ j → e j = 0) ∧ val B32 17 e + c * B32 ^ (i + k) = val B32 i (dg B32 a) * b + dg B32 a i * val B32 k (dg B32 b) * B32 ^ i) := ⟨hts, he, he0, hv⟩
    by_cases hk8 : k < 8
    ·have hdk : decide ((k : Int) < 8) = true := by simp; omega
     obtain ⟨p, hp⟩ : ∃ p : Nat, (i : Int) + k = p := ⟨i + k, by omega⟩
     have wp := wrap_i (x := (p : Int)) (by omega) (by omega)
     have lp : (p : Int) < 17 := by omega
     have lp0 : (0 : Int) ≤ (p : Int) := by omega
     have lk : (k : Int) < 17 := by omega
     have lk0 : (0 : Int) ≤ (k : Int) := by omega
     have li0 : (0 : Int) ≤ (i : Int) := by omega
     have HP : Hid (p = i + k) := by show p = i + k; omega
     have c1 := (hts.x.cell i).trans (arr_get .u64 17 _ (by omega))
     have c2 := (hts.y.cell k).trans (arr_get .u64 17 _ (by omega))
     have c3 := (hts.o.cell p).trans (arr_get .u64 17 _ (by omega))
     have f3 := hts.o.frozen p
     obtain ⟨x, hx⟩ : ∃ x, x = dg B32 a i := ⟨_, rfl⟩
     obtain ⟨y, hy⟩ : ∃ y, y = dg B32 b k := ⟨_, rfl⟩
     obtain ⟨z, hz⟩ : ∃ z, z = e p := ⟨_, rfl⟩
     have bx := dg32_b a i
     have by' := dg32_b b k
     have bz := he p
     rw [← hx] at c1 bx
     rw [← hy] at c2 by'
     rw [← hz] at c3 bz
     obtain ⟨hxy0, hxyc⟩ := mul_bnd bx by' hcb bz
     obtain ⟨m, hm⟩ : ∃ m, x * y = m := ⟨_, rfl⟩
     rw [hm] at hxy0 hxyc
     have wm : IntKind.u64.wrap m = m := by rw [IntKind.wrap_u64]; omega
     obtain ⟨s1, hs1⟩ : ∃ s, z + m = s := ⟨_, rfl⟩
     have ws1 : IntKind.u64.wrap s1 = s1 := by rw [IntKind.wrap_u64]; omega
     obtain ⟨t, ht⟩ : ∃ t, s1 + c = t := ⟨_, rfl⟩
     have wt : IntKind.u64.wrap t = t := by rw [IntKind.wrap_u64]; omega
     have ea := lw32 (d := t) ⟨by omega, by omega⟩
     obtain ⟨lo, hlo⟩ : ∃ lo, t % 4294967296 = lo := ⟨_, rfl⟩
     obtain ⟨ca, hca⟩ : ∃ ca, t / 4294967296 = ca := ⟨_, rfl⟩
     rw [hlo] at ea
     have HL : Hid (lo + ca * B32 = dg B32 a i * dg B32 b k + e (i + k) + c ∧ (0 ≤ lo ∧ lo < 4294967296) ∧ (0 ≤ ca ∧ ca < 4294967296)) := by
      have e1 : p = i + k := by omega
      rw [← e1, ← hx, ← hy, ← hz, hm]
      refine ⟨?_, ⟨by omega, by omega⟩, by omega, by omega⟩
      show lo + ca * 4294967296 = _
      omega
     have HZ : Hid (i + k < 17 ∧ k < 8 ∧ (p : Int) < 17) := ⟨by omega, by omega, by omega⟩
     clear hts he he0 hv hx hy hz bx by' bz hcb hxy0 hxyc hlo
     go_wp2_with fail
     go_quiet (fail)
     go_wp2_with fail
     go_roundw
     case rel =>
      obtain ⟨k1, k2, k3, k4⟩ := H2.out
      obtain ⟨z5, z6, z7⟩ := Z7.out.2
      have hst := ((k1.drewN nq).set z5 z6 z7 p lo)
      rw [HP.out] at hst
      refine ⟨k + 1, ca, upd e (i + k) lo, by go_num, rfl, by have := HZ.out.2.1; omega, HL.out.2.2, ?_, k2.upd _ HL.out.2.1, fun j hj => ?_, ?_⟩
      ·rw [HP.out]
       exact hst
      ·rw [upd_ne _ _ (by have := HZ.out.2.1; omega)]
       exact k3 j hj
      ·exact val_stepp HZ.out.1 k4 HL.out.1
     case measure => simp [intOf]; have := HZ.out.2.1; omega
    ·have : k = 8 := by omega
     subst this
     obtain ⟨p, hp⟩ : ∃ p : Nat, (i : Int) + 8 = p := ⟨i + 8, by omega⟩
     have wp := wrap_i (x := (p : Int)) (by omega) (by omega)
     have lp : (p : Int) < 17 := by omega
     have lp0 : (0 : Int) ≤ (p : Int) := by omega
     have HP : Hid (p = i + 8) := by show p = i + 8; omega
     have c3 := (hts.o.cell p).trans (arr_get .u64 17 _ (by omega))
     have f3 := hts.o.frozen p
     obtain ⟨z, hz⟩ : ∃ z, z = e p := ⟨_, rfl⟩
     rw [← hz] at c3
     have HC : Hid ((0 ≤ c ∧ c < 4294967296) ∧ i < 8) := ⟨hcb, h8⟩
     clear hts he he0 hv hz hcb
     go_wp2_with fail
     go_roundw
     case rel =>
      obtain ⟨k1, k2, k3, k4⟩ := H2.out
      obtain ⟨z5, z6, z7⟩ := Z7.out.2
      have hst := (k1.set z5 z6 z7 p c)
      rw [HP.out] at hst
      refine ⟨i + 1, upd e (i + 8) c, by go_num, by omega, ?_, k2.upd _ HC.out.1, fun j hj => ?_, ?_⟩
      ·rw [HP.out]
       exact hst
      ·rw [upd_ne _ _ (by omega)]
       exact k3 j (by omega)
      ·rw [val_laid (V := val B32 i (dg B32 a) * b + dg B32 a i * val B32 8 (dg B32 b) * B32 ^ i) (by omega) k4 (k3 _ (by omega)), val_b8' b HAB.out.2, val1]
       generalize val B32 i (dg B32 a) = V
       generalize dg B32 a i = D
       generalize B32 ^ i = Q
       rw [Int.add_mul, Int.mul_assoc D b Q, Int.mul_comm b Q, Int.mul_assoc]
     case measure => simp [intOf]; omega
  ·have : i = 8 := by omega
   subst this
   have HV : Hid (val B32 17 d = a * b) := by
    show val B32 17 d = a * b
    rw [hv, val_b8' a HAB.out.1]
   obtain ⟨t1, g1⟩ := hts.o
   obtain ⟨t3, g3⟩ := hts.res
   have HT : Hid (TS w wr b5 b6 b7 a b d ∧ D32 d) := ⟨hts, hd⟩
   have hsz := szA d
   have hlen := lenA zD d
   have hone := oneA d
   clear hd0 hv hts hd
   go_wp2_with (first | refine wpList_load_row rfl 66 _ rfl _ rfl _ _ _ _ g1 un49 rfl hsz ?_ | refine wpList_store_row rfl 66 _ _ rfl _ _ rfl rfl _ _ g3 hsz hlen hone ?_)
   refine bp_c (n := 17) (c := arr .u64 17 d) Try.results82 rfl rfl ?_ un49 zero49.2 (arr_size _ _ _) ⟨?_, ?_⟩
   ·exact HT.out.1.res.row _
   ·rw [arr_wdr HT.out.2, HV.out]
   ·exact HT.out.1.chg.setRow (by omega) _
end Go.Proofs.Ytbdgmkejmfjobaa

namespace Go.Proofs.Ytbdgmkejmfjobaa
set_option maxRecDepth 100000
open Go.RowKit
set_option linter.unusedVariables false
def mixD (i : Nat) (s d : Nat → Int) : Nat → Int := fun j => if j < i then s j else d j
theorem mixD_zero (s d : Nat → Int) : mixD 0 s d = d := by funext j; simp [mixD]
theorem mixD_at (i : Nat) (s d : Nat → Int) : mixD i s d i = d i := by simp [mixD]
theorem mixD_upd (i : Nat) (s d : Nat → Int) (x : Int) : upd (mixD i s d) i x = mixD (i + 1) (upd s i x) d := by
 funext j
 unfold upd mixD
 by_cases h : j = i
 ·subst h; simp
 ·by_cases h2 : j < i
  ·have : j < i + 1 := by omega
   simp [h, h2, this]
  ·have : ¬ j < i + 1 := by omega
   simp [h, h2, this]
theorem mixD_all (n : Nat) (s d : Nat → Int) : arr .u64 n (mixD n s d) = arr .u64 n s := arr_congr fun i hi => by simp [mixD, hi]
structure PP (w wr : World) (b : Int) (d : Nat → Int) : Prop where
 chg : Chg w wr
 x : Ar wr w.heap.size (arr .u64 4 d)
 y : Ar wr (w.heap.size + 1) (num b)
 res : Ar wr (w.heap.size + 1 + 1) (num 0)
theorem PP.set {w wr : World} {b : Int} {d : Nat → Int} (h : PP w wr b d) (i : Nat) (v : Int) : PP w (wr.setCell ⟨w.heap.size, i, none⟩ (.int .u64 v)) b (upd d i v) :=
 ⟨h.chg.setCell (by dsimp only; omega) _, by have := h.x.set i (.int .u64 v); rwa [arr_set] at this, h.y.other (by dsimp only; omega) _, h.res.other (by dsimp only; omega) _⟩
theorem PP.drewN {w wr : World} {b : Int} {d : Nat → Int} (h : PP w wr b d) (n : Nat) : PP w (wr.drewN n) b d := ⟨h.chg.drewN n, h.x, h.y, h.res⟩
set_option maxHeartbeats 16000000 in
theorem plusR_any (a b : Int) (ha : N256 a) (hb : N256 b) (w : World) : Calls Try.prog 42 #[.agg (num a), .agg (num b)] w fun r w' => r = .returned (.tuple #[.agg (num ((a + b) % R256)), .int .u64 ((a + b) / R256)]) ∧ Chg w w' := by
 have HAB : Hid (N256 a ∧ N256 b) := ⟨ha, hb⟩
 have hsA := num_size a
 have hsB := num_size b
 obtain ⟨A, hA⟩ : ∃ A, A = num a := ⟨_, rfl⟩
 obtain ⟨E, hE⟩ : ∃ A, A = num b := ⟨_, rfl⟩
 obtain ⟨Z0, hZ0⟩ : ∃ Z, Z = num 0 := ⟨_, rfl⟩
 have HA : Hid (A = num a ∧ E = num b ∧ Z0 = num 0) := ⟨hA, hE, hZ0⟩
 have hz := zero25.1
 rw [← hA] at hsA ⊢
 rw [← hE] at hsB ⊢
 rw [← hZ0] at hz
 clear hA hE hZ0 ha hb
 obtain ⟨RS, hRS⟩ : ∃ R, R = num ((a + b) % R256) := ⟨_, rfl⟩
 obtain ⟨RC, hRC⟩ : ∃ c, c = (a + b) / R256 := ⟨_, rfl⟩
 have HR : Hid (RS = num ((a + b) % R256) ∧ RC = (a + b) / R256) := ⟨hRS, hRC⟩
 rw [← hRS, ← hRC]
 clear hRS hRC
 go_enter Try.func42, Try.ntmps42
 go_wp2_with fail
 obtain ⟨w3, hw3⟩ : ∃ w3, w3 = ((w.alloc (.cells A 24)).alloc (.cells E 24)).alloc (.cells Z0 24) := ⟨_, rfl⟩
 have Z3 : Hid (PP w w3 b (dg B64 a)) := by
  rw [hw3, HA.out.1, HA.out.2.1, HA.out.2.2]
  exact ⟨(((Chg.refl w).alloc _).alloc _).alloc _, ((Ar.new w _ _).alloc _).alloc _, (Ar.new1 w _ _ _).alloc _, Ar.new2 w _ _ _ _⟩
 rw [← hw3]
 clear hw3 hsA hsB hz HA
 go_loopw [6, 7] (fun v v7 wr => ∃ (i : Nat) (c : Int) (s : Nat → Int), v7 = .int .i64 i ∧ v = .int .u64 c ∧ i ≤ 4 ∧ (0 ≤ c ∧ c ≤ 1) ∧ PP w wr b (mixD i s (dg B64 a)) ∧ (∀ j, W64 (s j)) ∧ val B64 i s + c * B64 ^ i = val B64 i (dg B64 a) + val B64 i (dg B64 b)) (fun v v7 wr => 4 - (intOf v7).toNat)
 case atStart => exact ⟨0, 0, fun _ => 0, rfl, rfl, by omega, by decide, by rw [mixD_zero]; exact Z3.out, fun j => ⟨by show (0 : Int) ≤ 0; decide, by show (0 : Int) < _; decide⟩, rfl⟩
 case round =>
  clear Z3
  obtain ⟨i, c, s, rfl, rfl, hi, hc, hp, hs, hv⟩ := hrel
  have H : Hid (PP w wr b (mixD i s (dg B64 a)) ∧ (∀ j, W64 (s j)) ∧ val B64 i s + c * B64 ^ i = val B64 i (dg B64 a) + val B64 i (dg B64 b)) := ⟨hp, hs, hv⟩
  by_cases h4 : i < 4
  ·have hdi : decide ((i : Int) < 4) = true := by simp; omega
   have li : (i : Int) < 4 := by omega
   have li0 : (0 : Int) ≤ (i : Int) := by omega
   have c1 := (hp.x.cell i).trans (arr_get .u64 4 _ h4)
   rw [mixD_at] at c1
   have c2 := (hp.y.cell i).trans (arr_get .u64 4 _ h4)
   have f1 := hp.x.frozen i
   obtain ⟨x, hx⟩ : ∃ x, x = dg B64 a i := ⟨_, rfl⟩
   obtain ⟨y, hy⟩ : ∃ y, y = dg B64 b i := ⟨_, rfl⟩
   have bx := dg_w a i
   have by' := dg_w b i
   rw [← hx] at c1 bx
   rw [← hy] at c2 by'
   obtain ⟨bx0, bx1⟩ := bx
   obtain ⟨by0, by1⟩ := by'
   have HX : Hid (x = dg B64 a i ∧ y = dg B64 b i) := ⟨hx, hy⟩
   clear hp hs hv hx hy
   by_cases hov : x + y < 18446744073709551616
   ·obtain ⟨m, hm⟩ : ∃ m, x + y = m := ⟨_, rfl⟩
    have wm : IntKind.u64.wrap m = m := by rw [IntKind.wrap_u64]; omega
    have dm : decide (m < x) = false := by simp; omega
    by_cases ho2 : m + c < 18446744073709551616
    ·obtain ⟨t, ht⟩ : ∃ t, m + c = t := ⟨_, rfl⟩
     have wt : IntKind.u64.wrap t = t := by rw [IntKind.wrap_u64]; omega
     have dt : decide (t < m) = false := by simp; omega
     have HL : Hid (t + 0 * B64 = x + y + c ∧ W64 t) := ⟨by show t + 0 * 18446744073709551616 = _; omega, by omega, by omega⟩
     clear hov
     go_wp2_with fail
     go_quiet (fail)
     go_wp2_with fail
     go_roundw
     case rel =>
      obtain ⟨k1, k2, k3⟩ := H.out
      have hst := (k1.drewN nq).set i t
      rw [mixD_upd] at hst
      refine ⟨i + 1, 0, upd s i t, by go_num, rfl, by omega, by decide, hst, upd_w k2 i HL.out.2, ?_⟩
      have hx := HL.out.1
      rw [HX.out.1, HX.out.2] at hx
      exact val_step k3 hx
     case measure => simp [intOf]; omega
    ·have hmc : m = 18446744073709551615 ∧ c = 1 := by omega
     obtain ⟨rfl, rfl⟩ := hmc
     have wt : IntKind.u64.wrap ((18446744073709551615 : Int) + 1) = 0 := by decide
     have HL : Hid (0 + 1 * B64 = x + y + 1 ∧ W64 0) := ⟨by show 0 + 1 * 18446744073709551616 = _; omega, by decide, by decide⟩
     clear hov
     go_wp2_with fail
     go_quiet (fail)
     go_wp2_with fail
     go_roundw
     case rel =>
      obtain ⟨k1, k2, k3⟩ := H.out
      have hst := (k1.drewN nq).set i 0
      rw [mixD_upd] at hst
      refine ⟨i + 1, 1, upd s i 0, by go_num, rfl, by omega, by decide, hst, upd_w k2 i HL.out.2, ?_⟩
      have hx := HL.out.1
      rw [HX.out.1, HX.out.2] at hx
      exact val_step k3 hx
     case measure => simp [intOf]; omega
   ·obtain ⟨m, hm⟩ : ∃ m, x + y = m + 18446744073709551616 := ⟨x + y - 18446744073709551616, by omega⟩
    have wm : IntKind.u64.wrap (x + y) = m := by rw [IntKind.wrap_u64]; omega
    have dm : decide (m < x) = true := by simp; omega
    obtain ⟨t, ht⟩ : ∃ t, m + c = t := ⟨_, rfl⟩
    have wt : IntKind.u64.wrap t = t := by rw [IntKind.wrap_u64]; omega
    have dt : decide (t < m) = false := by simp; omega
    have HL : Hid (t + 1 * B64 = x + y + c ∧ W64 t) := ⟨by show t + 1 * 18446744073709551616 = _; omega, by omega, by omega⟩
    clear hm
    clear hov
    go_wp2_with fail
    go_quiet (fail)
    go_wp2_with fail
    go_roundw
    case rel =>
     obtain ⟨k1, k2, k3⟩ := H.out
     have hst := (k1.drewN nq).set i t
     rw [mixD_upd] at hst
     refine ⟨i + 1, 1, upd s i t, by go_num, rfl, by omega, by decide, hst, upd_w k2 i HL.out.2, ?_⟩
     have hx := HL.out.1
     rw [HX.out.1, HX.out.2] at hx
     exact val_step k3 hx
    case measure => simp [intOf]; omega
  ·have : i = 4 := by omega
   subst this
   have HV : Hid (arr .u64 4 s = RS ∧ c = RC) := by
    rw [HR.out.1, HR.out.2]
    rw [val4 a HAB.out.1.1 HAB.out.1.2, val4 b HAB.out.2.1 HAB.out.2.2, p4] at hv
    have hb4 := val_b4 hs
    rw [arr_num hs]
    constructor
    ·congr 1
     clear H
     show val B64 4 s = (a + b) % 115792089237316195423570985008687907853269984665640564039457584007913129639936
     have h1 : c * 115792089237316195423570985008687907853269984665640564039457584007913129639936 = a + b - val B64 4 s := by have := hv; show c * R256 = _; omega
     have h2 : val B64 4 s < 115792089237316195423570985008687907853269984665640564039457584007913129639936 := hb4.2
     have h3 := hb4.1
     omega
    ·have h1 : c * 115792089237316195423570985008687907853269984665640564039457584007913129639936 = a + b - val B64 4 s := by have := hv; show c * R256 = _; omega
     have h2 : val B64 4 s < 115792089237316195423570985008687907853269984665640564039457584007913129639936 := hb4.2
     have h3 := hb4.1
     show c = (a + b) / 115792089237316195423570985008687907853269984665640564039457584007913129639936
     omega
   have hx := hp.x
   rw [mixD_all] at hx
   rw [HV.out.1] at hx
   have hcc := HV.out.2
   subst hcc
   obtain ⟨t1, g1⟩ := hx
   obtain ⟨t3, g3⟩ := hp.res
   have hsz := szN ((a + b) % R256)
   have hlen := lenN 0 ((a + b) % R256)
   have hone := num_one ((a + b) % R256)
   rw [← HR.out.1] at hsz hlen hone
   have HP : Hid (PP w wr b (mixD 4 s (dg B64 a))) := hp
   clear hp hs hv HV H
   go_wp2_with (first | refine wpList_load_row rfl 24 _ rfl _ rfl _ _ _ _ g1 undNum rfl hsz ?_ | refine wpList_store_row rfl 24 _ _ rfl _ _ rfl rfl _ _ g3 hsz hlen hone ?_)
   refine bp_ct (n := 4) (c := RS) Try.results42 rfl rfl rfl ?_ undNum Go.Proofs.Ytbdgmkejmfjobaa.i25 (by rw [HR.out.1]; exact num_size _) ⟨rfl, ?_⟩
   ·exact HP.out.res.row _
   ·exact HP.out.chg.setRow (by omega) _
theorem num_one1 : (num 0).setIfInBounds 0 (.int .u64 1) = num 1 := by kernel_rfl
end Go.Proofs.Ytbdgmkejmfjobaa

namespace Go.Proofs.Ytbdgmkejmfjobaa
set_option maxRecDepth 100000
open Go.RowKit
set_option linter.unusedVariables false
theorem not64 {x : Int} (h : W64 x) : bits .xor .u64 18446744073709551615 x = 18446744073709551615 - x := by
 obtain ⟨n, rfl⟩ := Int.eq_ofNat_of_zero_le h.1
 have hn := h.2
 rw [show (18446744073709551615 : Int) = ((18446744073709551615 : Nat) : Int) from rfl, u64_xor_nat _ n (by decide) (by omega)]
 have h1 : (BitVec.allOnes 64 ^^^ BitVec.ofNat 64 n).toNat = (~~~ (BitVec.ofNat 64 n)).toNat := by rw [BitVec.not_def]
 rw [BitVec.toNat_not, BitVec.toNat_xor, BitVec.toNat_allOnes, BitVec.toNat_ofNat, Nat.mod_eq_of_lt (by omega)] at h1
 have h2 : 18446744073709551615 ^^^ n = 18446744073709551615 - n := h1
 rw [h2]
 omega
theorem comp_val (b : Int) (i : Nat) : val B64 i (fun j => 18446744073709551615 - dg B64 b j) = B64 ^ i - 1 - val B64 i (dg B64 b) := by
 induction i with
 | zero => rfl
 | succ i ih =>
  rw [val1, val1, ih, Int.pow_succ, Int.sub_mul]
  show _ = B64 ^ i * 18446744073709551616 - 1 - _
  omega
theorem comp_num (b : Int) (hb : N256 b) : arr .u64 4 (fun j => 18446744073709551615 - dg B64 b j) = num (R256 - 1 - b) := by
 have hw : ∀ j, W64 ((fun j => 18446744073709551615 - dg B64 b j) j) := fun j => by
  have := dg_w b j
  exact ⟨by have := this.2; show (0 : Int) ≤ 18446744073709551615 - dg B64 b j; omega, by have := this.1; show 18446744073709551615 - dg B64 b j < 18446744073709551616; omega⟩
 rw [arr_num hw, comp_val, p4, val4 b hb.1 hb.2]
theorem N_comp {b : Int} (hb : N256 b) : N256 (R256 - 1 - b) := by
 have := hb.1
 have := hb.2
 exact ⟨by omega, by omega⟩
theorem N_modR (x : Int) : N256 (x % R256) := ⟨Int.emod_nonneg _ (by decide), Int.emod_lt_of_pos _ (by decide)⟩
structure MP (w wr : World) (a : Int) (d : Nat → Int) : Prop where
 chg : Chg w wr
 x : Ar wr w.heap.size (num a)
 y : Ar wr (w.heap.size + 1) (arr .u64 4 d)
 res : Ar wr (w.heap.size + 1 + 1) (num 0)
set_option maxHeartbeats 16000000 in
theorem minusR_any (a b : Int) (ha : N256 a) (hb : N256 b) (w : World) : Calls Try.prog 62 #[.agg (num a), .agg (num b)] w fun r w' => r = .returned (.agg (num ((a - b) % R256))) ∧ Chg w w' := by
 have HAB : Hid (N256 a ∧ N256 b) := ⟨ha, hb⟩
 obtain ⟨C, hC⟩ : ∃ C, C = num (R256 - 1 - b) := ⟨_, rfl⟩
 obtain ⟨S, hS⟩ : ∃ S, S = num ((a + (R256 - 1 - b)) % R256) := ⟨_, rfl⟩
 obtain ⟨ov, hov⟩ : ∃ c, c = (a + (R256 - 1 - b)) / R256 := ⟨_, rfl⟩
 obtain ⟨T, hT⟩ : ∃ S, S = num ((a - b) % R256) := ⟨_, rfl⟩
 obtain ⟨ov2, hov2⟩ : ∃ c, c = ((a + (R256 - 1 - b)) % R256 + 1) / R256 := ⟨_, rfl⟩
 have hsA := num_size a
 have hsB := num_size b
 obtain ⟨A, hA⟩ : ∃ A, A = num a := ⟨_, rfl⟩
 obtain ⟨E, hE⟩ : ∃ A, A = num b := ⟨_, rfl⟩
 obtain ⟨Z0, hZ0⟩ : ∃ Z, Z = num 0 := ⟨_, rfl⟩
 obtain ⟨O, hO⟩ : ∃ Z, Z = num 1 := ⟨_, rfl⟩
 have hset := num_one1
 have hsZ : (num 0 = #[]) = False := eq_false fun h => by have := congrArg Array.size h; rw [num_size] at this; cases this
 have HP1 : Hid (∀ u, Calls Try.prog 42 #[.agg A, .agg C] u fun r w' => r = .returned (.tuple #[.agg S, .int .u64 ov]) ∧ Chg u w') := fun u => by rw [hA, hC, hS, hov]; exact plusR_any a (R256 - 1 - b) ha (N_comp hb) u
 have HP2 : Hid (∀ u, Calls Try.prog 42 #[.agg S, .agg O] u fun r w' => r = .returned (.tuple #[.agg T, .int .u64 ov2]) ∧ Chg u w') := fun u => by
  have e : (a - b) % R256 = ((a + (R256 - 1 - b)) % R256 + 1) % R256 := by
   show (a - b) % 115792089237316195423570985008687907853269984665640564039457584007913129639936 = ((a + (115792089237316195423570985008687907853269984665640564039457584007913129639936 - 1 - b)) % 115792089237316195423570985008687907853269984665640564039457584007913129639936 + 1) % 115792089237316195423570985008687907853269984665640564039457584007913129639936
   omega
  rw [hS, hO, hT, hov2, e]
  exact plusR_any _ 1 (N_modR _) ⟨by decide, by decide⟩ u
 have HA : Hid (A = num a ∧ E = num b ∧ Z0 = num 0 ∧ C = num (R256 - 1 - b)) := ⟨hA, hE, hZ0, hC⟩
 have hz := zero25.1
 have sA := szN a
 have sC := szN (R256 - 1 - b)
 have sS := szN ((a + (R256 - 1 - b)) % R256)
 have lS := lenN 0 ((a + (R256 - 1 - b)) % R256)
 have oS := num_one ((a + (R256 - 1 - b)) % R256)
 have sT := szN ((a - b) % R256)
 have lT := lenN 0 ((a - b) % R256)
 have oT := num_one ((a - b) % R256)
 rw [← hA] at hsA sA ⊢
 rw [← hE] at hsB ⊢
 rw [← hC] at sC
 rw [← hS] at sS lS oS
 rw [← hT] at sT lT oT ⊢
 rw [← hZ0] at hz lS lT hset hsZ
 rw [← hO] at hset
 have HT : Hid (T = num ((a - b) % R256)) := hT
 clear hA hE hZ0 ha hb hC hS hov hT hov2 hO
 go_enter Try.func62, Try.ntmps62
 go_wp2_with fail
 obtain ⟨w3, hw3⟩ : ∃ w3, w3 = ((w.alloc (.cells A 24)).alloc (.cells E 24)).alloc (.cells Z0 24) := ⟨_, rfl⟩
 have Z3 : Hid (MP w w3 a (mixD 0 (fun j => 18446744073709551615 - dg B64 b j) (dg B64 b))) := by
  rw [hw3, HA.out.1, HA.out.2.1, HA.out.2.2.1, mixD_zero]
  exact ⟨(((Chg.refl w).alloc _).alloc _).alloc _, ((Ar.new w _ _).alloc _).alloc _, (Ar.new1 w _ _ _).alloc _, Ar.new2 w _ _ _ _⟩
 rw [← hw3]
 clear hw3 hsA hsB
 go_loopw [5] (fun v wr => ∃ (i : Nat), v = .int .i64 i ∧ i ≤ 4 ∧ MP w wr a (mixD i (fun j => 18446744073709551615 - dg B64 b j) (dg B64 b))) (fun v wr => 4 - (intOf v).toNat)
 case atStart => exact ⟨0, rfl, by omega, Z3.out⟩
 case round =>
  clear Z3
  obtain ⟨i, rfl, hi, hp⟩ := hrel
  have H : Hid (MP w wr a (mixD i (fun j => 18446744073709551615 - dg B64 b j) (dg B64 b))) := hp
  by_cases h4 : i < 4
  ·have hdi : decide ((i : Int) < 4) = true := by simp; omega
   have li : (i : Int) < 4 := by omega
   have c2 := (hp.y.cell i).trans (arr_get .u64 4 _ h4)
   rw [mixD_at] at c2
   have f1 := hp.y.frozen i
   have hn : bits .xor .u64 (if IntKind.u64.signed = true then -1 else IntKind.u64.max) (dg B64 b i) = 18446744073709551615 - dg B64 b i := not64 (dg_w b i)
   obtain ⟨y, hy⟩ : ∃ y, y = dg B64 b i := ⟨_, rfl⟩
   rw [← hy] at c2 hn
   obtain ⟨z, hzz⟩ : ∃ z, z = 18446744073709551615 - y := ⟨_, rfl⟩
   rw [← hzz] at hn
   have HX : Hid (z = 18446744073709551615 - dg B64 b i) := by show z = _; rw [hzz, hy]
   clear hp hy hzz
   go_wp2_with fail
   go_roundw
   case rel =>
    obtain ⟨k0, k1, k2, k3⟩ := H.out
    refine ⟨i + 1, by go_num, by omega, k0.setCell (by dsimp only; omega) _, k1.other (by dsimp only; omega) _, ?_, k3.other (by dsimp only; omega) _⟩
    have hh := k2.set i (.int .u64 z)
    rw [arr_set, mixD_upd] at hh
    have e : mixD (i + 1) (upd (fun j => 18446744073709551615 - dg B64 b j) i z) (dg B64 b) = mixD (i + 1) (fun j => 18446744073709551615 - dg B64 b j) (dg B64 b) := by
     congr 1
     funext j
     unfold upd
     by_cases hj : j = i
     ·rw [if_pos hj, hj, HX.out]
     ·rw [if_neg hj]
    rw [e] at hh
    exact hh
   case measure => simp [intOf]; omega
  ·have : i = 4 := by omega
   subst this
   have hy := hp.y
   rw [mixD_all, comp_num b HAB.out.2, ← HA.out.2.2.2] at hy
   have hx := hp.x
   rw [← HA.out.1] at hx
   have hr := hp.res
   rw [← HA.out.2.2.1] at hr
   have HP : Hid (Chg w wr ∧ Ar wr (w.heap.size + 1 + 1) Z0) := ⟨hp.chg, hr⟩
   obtain ⟨t1, g1⟩ := hx
   obtain ⟨t2, g2⟩ := hy
   clear hp hr H
   go_upto_region 5 with fail
   go_wp2_with (first | refine wpList_load_row rfl 24 _ rfl _ rfl _ _ _ _ g1 undNum rfl sA ?_ | refine wpList_load_row rfl 24 _ rfl _ rfl _ _ _ _ g2 undNum rfl sC ?_)
   go_at_call 42
   refine (HP1.out _).mono ?_
   rintro r w4 ⟨rfl, hc4⟩
   have Z4 : Hid (Chg w w4 ∧ Ar w4 (w.heap.size + 1 + 1) Z0) := ⟨HP.out.1.trans hc4, HP.out.2.chg hc4⟩
   clear hc4 g1 g2 HP
   go_upto_region 6 with (first | refine wpList_store_row rfl 24 _ _ rfl _ _ rfl rfl _ _ (heap_alloc_last w4 _) sS lS oS ?_)
   obtain ⟨b6, hb6⟩ : ∃ b, b = w4.heap.size := ⟨_, rfl⟩
   obtain ⟨w5, hw5⟩ : ∃ w5, w5 = (w4.alloc (.cells Z0 24)).setRow w4.heap.size S := ⟨_, rfl⟩
   have Z5 : Hid (Chg w w5 ∧ Ar w5 (w.heap.size + 1 + 1) Z0 ∧ Ar w5 b6 S) := by
    have hl := Z4.out.2.lt
    have h1 := Z4.out.1.size
    rw [hw5, hb6]
    exact ⟨(Z4.out.1.alloc _).setRow h1 _, (Z4.out.2.alloc _).rowOther (by omega) _, (Ar.new w4 _ _).row _⟩
   rw [← hw5, ← hb6]
   clear hw5 hb6 Z4
   obtain ⟨t1, g1⟩ := Z5.out.2.2
   go_wp2_with (first | refine wpList_load_row rfl 24 _ rfl _ rfl _ _ _ _ g1 undNum rfl sS ?_)
   go_at_call 42
   refine (HP2.out _).mono ?_
   rintro r w6 ⟨rfl, hc6⟩
   have Z6 : Hid (Chg w w6 ∧ Ar w6 (w.heap.size + 1 + 1) Z0) := ⟨Z5.out.1.trans hc6, Z5.out.2.1.chg hc6⟩
   clear hc6 g1 Z5
   go_upto_region 7 with (first | refine wpList_store_row rfl 24 _ _ rfl _ _ rfl rfl _ _ (heap_alloc_last w6 _) sT lT oT ?_)
   obtain ⟨b8, hb8⟩ : ∃ b, b = w6.heap.size := ⟨_, rfl⟩
   obtain ⟨w7, hw7⟩ : ∃ w7, w7 = (w6.alloc (.cells Z0 24)).setRow w6.heap.size T := ⟨_, rfl⟩
   have Z7 : Hid (Chg w w7 ∧ Ar w7 (w.heap.size + 1 + 1) Z0 ∧ Ar w7 b8 T) := by
    have hl := Z6.out.2.lt
    have h1 := Z6.out.1.size
    rw [hw7, hb8]
    exact ⟨(Z6.out.1.alloc _).setRow h1 _, (Z6.out.2.alloc _).rowOther (by omega) _, (Ar.new w6 _ _).row _⟩
   rw [← hw7, ← hb8]
   clear hw7 hb8 Z6
   obtain ⟨t1, g1⟩ := Z7.out.2.2
   obtain ⟨t3, g3⟩ := Z7.out.2.1
   go_wp2_with (first | refine wpList_load_row rfl 24 _ rfl _ rfl _ _ _ _ g1 undNum rfl sT ?_ | refine wpList_store_row rfl 24 _ _ rfl _ _ rfl rfl _ _ g3 sT lT oT ?_)
   refine bp_n (x := (a - b) % R256) Try.results62 rfl rfl ?_ ⟨by rw [HT.out], ?_⟩
   ·rw [← HT.out]
    exact Z7.out.2.1.row _
   ·exact Z7.out.1.setRow (by omega) _
end Go.Proofs.Ytbdgmkejmfjobaa
