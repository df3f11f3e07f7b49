/-
  A number's bits.
-/
import Derived.Test.YtnahkcapbbjfdaaSub
namespace Go.Proofs.Ytnahkcapbbjfdaa
open Go.RowKit
set_option linter.unusedVariables false

theorem low1 {d : Int} (h : W64 d) : bits .and .u64 d 1 = d % 2 := by
  obtain ⟨n, rfl⟩ := Int.eq_ofNat_of_zero_le h.1
  have hn := h.2
  have hm : (BitVec.ofInt 64 1).toNat = 1 := by decide
  show IntKind.u64.wrap ((BitVec.ofInt 64 n &&& BitVec.ofInt 64 1).toNat : Nat) = _
  rw [BitVec.toNat_and, BitVec.toNat_ofInt, hm, Nat.and_one_is_mod, IntKind.wrap_u64]
  omega
theorem dg_bit (x : Int) (q t : Nat) (ht : t < 64) : dg B64 x q / 2 ^ t % 2 = dg 2 x (64 * q + t) := by
  unfold dg
  have e1 : (2 : Int) ^ (64 * q + t) = B64 ^ q * 2 ^ t := by rw [Int.pow_add, Int.pow_mul]; rfl
  rw [e1, ← Int.ediv_ediv_of_nonneg (Int.le_of_lt (pow_pos' B64_pos q))]
  generalize x / B64 ^ q = y
  obtain ⟨k, hk⟩ : ∃ k : Nat, 64 = t + (k + 1) := ⟨63 - t, by omega⟩
  have e2 : B64 = 2 ^ t * (2 * 2 ^ k) := by
    have : (2 : Int) ^ 64 = 2 ^ t * (2 * 2 ^ k) := by rw [hk, Int.pow_add, Int.pow_succ, Int.mul_comm (2 ^ k) 2]
    rw [← this]
    rfl
  have hp : (0 : Int) < 2 ^ t := Int.pow_pos (by decide)
  rw [e2]
  generalize (2 : Int) ^ t = c at *
  generalize (2 : Int) ^ k = m
  have hy : y = y % (c * (2 * m)) + c * (2 * m * (y / (c * (2 * m)))) := by
    have := Int.emod_add_mul_ediv y (c * (2 * m))
    rw [Int.mul_assoc c (2 * m)] at this
    exact this.symm
  generalize y % (c * (2 * m)) = r at *
  generalize y / (c * (2 * m)) = s at *
  rw [hy, Int.add_mul_ediv_left _ _ (by omega), Int.mul_assoc 2 m s, Int.add_mul_emod_self_left]

set_option maxRecDepth 100000 in
set_option maxHeartbeats 8000000 in
theorem bit_any (x : Int) (i : Nat) (hi : i < 256) (w : World) : Calls Try.prog 56 #[.agg (num x), .int .i64 i] w fun r w' => r = .returned (.bool (dg 2 x i == 1)) ∧ Chg w w' := by
  have hsA := num_size x
  obtain ⟨A, hA⟩ : ∃ A, A = num x := ⟨_, rfl⟩
  have HA : Hid (A = num x) := hA
  rw [← hA] at hsA ⊢
  obtain ⟨q, hq⟩ : ∃ q : Nat, (i : Int).tdiv 64 = q := ⟨i / 64, by rw [Int.tdiv_eq_ediv_of_nonneg (by omega)]; omega⟩
  obtain ⟨t, ht⟩ : ∃ t : Nat, (i : Int).tmod 64 = t := ⟨i % 64, by rw [Int.tmod_eq_emod_of_nonneg (by omega)]; omega⟩
  have hq' : q = i / 64 := by rw [Int.tdiv_eq_ediv_of_nonneg (by omega)] at hq; omega
  have ht' : t = i % 64 := by rw [Int.tmod_eq_emod_of_nonneg (by omega)] at ht; omega
  have wq := wrap_i (x := (q : Int)) (by omega) (by omega)
  have wt := wrap_i (x := (t : Int)) (by omega) (by omega)
  have lt : ¬ (t : Int) < 0 := by omega
  have lt64 : t < 64 := by omega
  have lq : (q : Int) < 4 := by omega
  have lq' : q < 4 := by omega
  have hdw : W64 (dg B64 x q) := dg_w x q
  have hsw : W64 (dg B64 x q / 2 ^ t) := by
    have ⟨h0, h1⟩ := hdw
    have hp : (0 : Int) < 2 ^ t := Int.pow_pos (by decide)
    exact ⟨Int.ediv_nonneg h0 (by omega), Int.lt_of_le_of_lt (Int.ediv_le_self _ h0) h1⟩
  have em := low1 hsw
  rw [dg_bit x q t lt64] at em
  have ei : 64 * q + t = i := by omega
  rw [ei] at em
  obtain ⟨d, hd⟩ : ∃ d, d = dg B64 x q := ⟨_, rfl⟩
  obtain ⟨y, hy⟩ : ∃ y, y = dg 2 x i := ⟨_, rfl⟩
  rw [← hd, ← hy] at em
  rw [← hy]
  have HD : Hid (d = dg B64 x q) := hd
  clear hA hq' ht' hdw hsw ei hd hy
  go_enter Try.func56, Try.ntmps56
  go_upto_region 1 with fail
  obtain ⟨w1, hw1⟩ : ∃ w1, w1 = w.alloc (.cells A 25) := ⟨_, rfl⟩
  have Z : Hid (Chg w w1 ∧ Ar w1 w.heap.size (num x)) := by
    rw [hw1, HA.out]
    exact ⟨(Chg.refl w).alloc _, Ar.new w _ _⟩
  have c1 : w1.cell? ⟨w.heap.size, q, none⟩ = some (.int .u64 d) := by
    rw [HD.out]
    exact (Z.out.2.cell q).trans (arr_get _ _ _ lq')
  rw [← hw1]
  clear hw1 hsA
  go_wp2_with fail
  go_ret
  exact ⟨rfl, Z.out.1⟩
end Go.Proofs.Ytnahkcapbbjfdaa
