/-
  How many bits a number has: the function length.
-/
import Derived.Test.YtnahkcapbbjfdaaLen
namespace Go.Proofs.Ytnahkcapbbjfdaa
open Go.RowKit
set_option linter.unusedVariables false

theorem low_next (x : Int) (k : Nat) : x % B64 ^ (k + 1) = x % B64 ^ k + dg B64 x k * B64 ^ k := by
  rw [← val_dg B64_pos (k + 1) x, val1, val_dg B64_pos k x]
theorem low_none {x : Int} {k n : Nat} (h : x % B64 ^ k < 2 ^ n) (hd : dg B64 x k = 0) : x % B64 ^ (k + 1) < 2 ^ n := by
  rw [low_next, hd, Int.zero_mul, Int.add_zero]
  exact h
theorem low_some {x : Int} {k m : Nat} (hd : dg B64 x k < 2 ^ m) : x % B64 ^ (k + 1) < 2 ^ (64 * k + m) := by
  rw [low_next, Int.pow_add, Int.pow_mul]
  have e : ((2 : Int) ^ 64) = B64 := rfl
  rw [e]
  have hp := pow_pos' B64_pos k
  have h1 := Int.emod_lt_of_pos x hp
  have h2 : dg B64 x k * B64 ^ k ≤ (2 ^ m - 1) * B64 ^ k := Int.mul_le_mul_of_nonneg_right (by omega) (by omega)
  rw [Int.sub_mul, Int.one_mul] at h2
  rw [Int.mul_comm (B64 ^ k) (2 ^ m)]
  omega

set_option maxRecDepth 100000 in
set_option maxHeartbeats 8000000 in
theorem length_any (x : Int) (hx : N256 x) (w : World) : Calls Try.prog 55 #[.agg (num x)] w fun r w' => ∃ n : Nat, r = .returned (.int .i64 n) ∧ n ≤ 256 ∧ x < 2 ^ n ∧ Chg w w' := by
  have HX : Hid (N256 x) := hx
  have hsA := num_size x
  obtain ⟨A, hA⟩ : ∃ A, A = num x := ⟨_, rfl⟩
  have HA : Hid (A = num x) := hA
  rw [← hA] at hsA ⊢
  clear hA hx
  go_enter Try.func55, Try.ntmps55
  go_upto_region 1 with fail
  obtain ⟨w1, hw1⟩ : ∃ w1, w1 = w.alloc (.cells A 25) := ⟨_, rfl⟩
  have Z : Hid (Chg w w1 ∧ Ar w1 w.heap.size (num x)) := by
    rw [hw1, HA.out]
    exact ⟨(Chg.refl w).alloc _, Ar.new w _ _⟩
  rw [← hw1]
  clear hw1 hsA
  go_wp2_with fail
  go_loopw [3, 5] (fun nv v wr => ∃ (n k : Nat), nv = .int .i64 n ∧ v = .int .i64 k ∧ k ≤ 4 ∧ (n ≤ 64 * k ∧ x % B64 ^ k < 2 ^ n) ∧ Chg w wr ∧ Ar wr w.heap.size (num x)) (fun nv v wr => 4 - (intOf v).toNat)
  case atStart => exact ⟨0, 0, rfl, rfl, by omega, ⟨by omega, by simp [Int.emod_one]⟩, Z.out⟩
  case round =>
    clear Z
    obtain ⟨n, k, rfl, rfl, hk, hn, hc, ha⟩ := hrel
    have Z : Hid (Chg w wr ∧ Ar wr w.heap.size (num x)) := ⟨hc, ha⟩
    have HN : Hid (n ≤ 64 * k ∧ x % B64 ^ k < 2 ^ n) := hn
    clear hn hc
    by_cases hk4 : k < 4
    · have c1 := (ha.cell k).trans (arr_get .u64 4 _ hk4)
      have dw := dg_w x k
      obtain ⟨d, hd⟩ : ∃ d, d = dg B64 x k := ⟨_, rfl⟩
      rw [← hd] at c1 dw
      have HD : Hid (d = dg B64 x k ∧ W64 d) := ⟨hd, dw⟩
      clear hd dw ha
      have lk : (k : Int) < 4 := by omega
      by_cases h0 : d = 0
      · subst h0
        go_wp2_with fail
        go_roundw
        case rel => exact ⟨n, k + 1, rfl, by go_num, by omega, ⟨by have := HN.out.1; omega, low_none HN.out.2 HD.out.1.symm⟩, Z.out⟩
        case measure => simp [intOf]; omega
      · have hb : (d != 0) = true := by simp [h0]
        obtain ⟨q, hq⟩ : ∃ q : Nat, (64 : Int) * k = q := ⟨64 * k, by omega⟩
        have wq := wrap_i (x := (q : Int)) (by omega) (by omega)
        have HQ : Hid (q = 64 * k) := by show q = 64 * k; omega
        go_wp2_with fail
        go_at_call 73
        refine (len64_any d HD.out.2.1 (by have := HD.out.2.2; unfold B64 at this; omega) _).mono ?_
        rintro r w2 ⟨m, rfl, rfl, hm, hdm⟩
        have HM : Hid (d < 2 ^ m) := hdm
        clear hdm
        obtain ⟨s, hs⟩ : ∃ s : Nat, (q : Int) + m = s := ⟨q + m, by omega⟩
        have ws := wrap_i (x := (s : Int)) (by omega) (by omega)
        have HS : Hid (s = q + m) := by show s = q + m; omega
        go_wp2_with fail
        go_roundw
        case rel =>
          refine ⟨s, k + 1, rfl, by go_num, by omega, ⟨?_, ?_⟩, Z.out⟩
          · rw [HS.out, HQ.out]; omega
          · rw [HS.out, HQ.out]
            exact low_some (by rw [← HD.out.1]; exact HM.out)
        case measure => simp [intOf]; omega
    · have : k = 4 := by omega
      subst this
      rw [show ((4 : Nat) : Int) = 4 from rfl]
      clear ha
      go_wp2_with fail
      go_ret
      refine ⟨n, rfl, by have := HN.out.1; omega, ?_, Z.out.1⟩
      have := HN.out.2
      rwa [p4, Int.emod_eq_of_lt HX.out.1 HX.out.2] at this
end Go.Proofs.Ytnahkcapbbjfdaa
