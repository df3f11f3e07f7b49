/-
  Numbers as values of the program: the contracts of sums, differences, products, by the numbers themselves.
-/
import Derived.Test.YtnahkcapbbjfdaaPm
import Derived.Test.YtnahkcapbbjfdaaLess
import Derived.Test.YtnahkcapbbjfdaaT38
import Derived.Test.YtnahkcapbbjfdaaProd
namespace Go.Proofs.Ytnahkcapbbjfdaa
open Go.RowKit
set_option linter.unusedVariables false

/-- 2^256. -/
abbrev R256 : Int := 115792089237316195423570985008687907853269984665640564039457584007913129639936
/-- 2^512. -/
abbrev R512 : Int := 13407807929942597099574024998205846127479365820592393377723561443721764030073546976801874298166903427690031858186486050853753882811946569946433649006084096

theorem p4 : B64 ^ 4 = R256 := by decide
theorem p8 : B64 ^ 8 = R512 := by decide +kernel

/-- A number of four digits, and one of eight, as cells. -/
def num (x : Int) : Array Value := arr .u64 4 (dg B64 x)
def wid (x : Int) : Array Value := arr .u64 8 (dg B64 x)

theorem B64_pos : (0 : Int) < B64 := by decide
theorem dg_w (x : Int) (i : Nat) : W64 (dg B64 x i) := dg_bound B64_pos x i

theorem val4 (x : Int) (h0 : 0 ≤ x) (h1 : x < R256) : val B64 4 (dg B64 x) = x := by
  rw [val_dg B64_pos, p4]; exact Int.emod_eq_of_lt h0 h1
theorem val8 (x : Int) (h0 : 0 ≤ x) (h1 : x < R512) : val B64 8 (dg B64 x) = x := by
  rw [val_dg B64_pos, p8]; exact Int.emod_eq_of_lt h0 h1

theorem arr_congr {κ : IntKind} {n : Nat} {d e : Nat → Int} (h : ∀ i, i < n → d i = e i) : arr κ n d = arr κ n e := by
  unfold arr
  congr 1
  exact List.map_congr_left fun i hi => by rw [h i (List.mem_range.1 hi)]

theorem val_b4 {s : Nat → Int} (h : ∀ i, W64 (s i)) : 0 ≤ val B64 4 s ∧ val B64 4 s < R256 := by
  rw [← p4]; exact val_bound B64_pos (fun i _ => h i)
theorem val_b8 {s : Nat → Int} (h : ∀ i, W64 (s i)) : 0 ≤ val B64 8 s ∧ val B64 8 s < R512 := by
  rw [← p8]; exact val_bound B64_pos (fun i _ => h i)

theorem arr_num {s : Nat → Int} (h : ∀ i, W64 (s i)) : arr .u64 4 s = num (val B64 4 s) :=
  arr_congr (val_inj B64_pos (fun i _ => h i) (fun i _ => dg_w _ i) (by rw [val4 _ (val_b4 h).1 (val_b4 h).2]))
theorem arr_wid {s : Nat → Int} (h : ∀ i, W64 (s i)) : arr .u64 8 s = wid (val B64 8 s) :=
  arr_congr (val_inj B64_pos (fun i _ => h i) (fun i _ => dg_w _ i) (by rw [val8 _ (val_b8 h).1 (val_b8 h).2]))

/-- A number of 256 bits. -/
def N256 (x : Int) : Prop := 0 ≤ x ∧ x < R256
def N512 (x : Int) : Prop := 0 ≤ x ∧ x < R512

theorem plus_num (a b : Int) (ha : N256 a) (hb : N256 b) (w : World) :
    Calls Try.prog 40 #[.agg (num a), .agg (num b)] w fun r w' => r = .returned (.tuple #[.agg (num ((a + b) % R256)), .int .u64 ((a + b) / R256)]) ∧ Chg w w' := by
  refine (plus_any (dg B64 a) (dg B64 b) w (dg_w a) (dg_w b)).mono ?_
  rintro r w' ⟨s, o, rfl, hc, hs, h0, h1, hv⟩
  rw [val4 a ha.1 ha.2, val4 b hb.1 hb.2, p4] at hv
  have hb4 := val_b4 hs
  have e1 : val B64 4 s = (a + b) % R256 := by unfold R256 at *; omega
  have e2 : o = (a + b) / R256 := by unfold R256 at *; omega
  rw [arr_num hs, e1, e2]
  exact ⟨rfl, hc⟩

theorem minus_num (a b : Int) (ha : N256 a) (hb : N256 b) (w : World) :
    Calls Try.prog 42 #[.agg (num a), .agg (num b)] w fun r w' => r = .returned (.tuple #[.agg (num ((a - b) % R256)), .int .u64 (bor a b)]) ∧ Chg w w' := by
  refine (minus_any (dg B64 a) (dg B64 b) w (dg_w a) (dg_w b)).mono ?_
  rintro r w' ⟨s, o, rfl, hc, hs, h0, h1, hv⟩
  rw [val4 a ha.1 ha.2, val4 b hb.1 hb.2, p4] at hv
  have hb4 := val_b4 hs
  have ⟨ha0, ha1⟩ := ha
  have ⟨hb0, hb1⟩ := hb
  have e1 : val B64 4 s = (a - b) % R256 := by unfold R256 at *; omega
  have e2 : o = bor a b := by unfold R256 bor at *; split <;> omega
  rw [arr_num hs, e1, e2]
  exact ⟨rfl, hc⟩

theorem below_num (a b : Int) (ha : N256 a) (hb : N256 b) (w : World) :
    Calls Try.prog 54 #[.agg (num a), .agg (num b)] w fun r w' => r = .returned (.bool (decide (a < b))) ∧ Chg w w' := by
  refine (below_any (dg B64 a) (dg B64 b) w (dg_w a) (dg_w b)).mono ?_
  rintro r w' ⟨rfl, hc⟩
  rw [val4 a ha.1 ha.2, val4 b hb.1 hb.2]
  exact ⟨rfl, hc⟩

theorem add38_num (a b : Int) (ha : N256 a) (hb : N256 b) (w : World) :
    Calls Try.prog 77 #[.agg (num a), .agg (num b)] w fun r w' => r = .returned (.tuple #[.agg (num ((a + 38 * b) % R256)), .int .u64 ((a + 38 * b) / R256)]) ∧ Chg w w' := by
  refine (add38_any (dg B64 a) (dg B64 b) w (dg_w a) (dg_w b)).mono ?_
  rintro r w' ⟨s, o, rfl, hc, hs, h1, hv⟩
  rw [val4 a ha.1 ha.2, val4 b hb.1 hb.2, p4] at hv
  have hb4 := val_b4 hs
  have e1 : val B64 4 s = (a + 38 * b) % R256 := by unfold R256 at *; omega
  have e2 : o = (a + 38 * b) / R256 := by unfold R256 at *; omega
  rw [arr_num hs, e1, e2]
  exact ⟨rfl, hc⟩

theorem product_num (a b : Int) (ha : N256 a) (hb : N256 b) (w : World) :
    Calls Try.prog 48 #[.agg (num a), .agg (num b)] w fun r w' => r = .returned (.agg (wid (a * b))) ∧ Chg w w' := by
  refine (product_any (dg B64 a) (dg B64 b) w (dg_w a) (dg_w b)).mono ?_
  rintro r w' ⟨s, rfl, hc, hs, hv⟩
  rw [val4 a ha.1 ha.2, val4 b hb.1 hb.2] at hv
  rw [arr_wid hs, hv]
  exact ⟨rfl, hc⟩

theorem mul_N512 {a b : Int} (ha : N256 a) (hb : N256 b) : N512 (a * b) := by
  have ⟨ha0, ha1⟩ := ha
  have ⟨hb0, hb1⟩ := hb
  refine ⟨Int.mul_nonneg ha0 hb0, ?_⟩
  have := Int.mul_le_mul (a := a) (b := b) (c := R256 - 1) (d := R256 - 1) (by omega) (by omega) hb0 (by decide)
  have e : (R256 - 1) * (R256 - 1) < R512 := by decide +kernel
  omega
end Go.Proofs.Ytnahkcapbbjfdaa
