/-
  What FieldExps needs: small numbers, Fermat's theorem in the four fields, and which field a raw number speaks of.
-/
import Derived.Test.YtnahkcapbbjfdaaHd
namespace Go.Proofs.Ytnahkcapbbjfdaa
open Go.RowKit
set_option linter.unusedVariables false

theorem num_setX {x : Int} (h0 : 0 ≤ x) (h1 : x < B64) : (num 0).setIfInBounds 0 (.int .u64 x) = num x := by
  unfold num
  rw [arr_set]
  refine arr_congr fun i hi => ?_
  have e : i = 0 ∨ i = 1 ∨ i = 2 ∨ i = 3 := by omega
  have hB : B64 = 18446744073709551616 := rfl
  rcases e with rfl | rfl | rfl | rfl
  · rw [upd_same]
    unfold dg
    rw [Int.pow_zero, Int.ediv_one, Int.emod_eq_of_lt h0 h1]
  all_goals
    rw [upd_ne _ _ (by decide)]
    unfold dg
    rw [Int.ediv_eq_zero_of_lt h0 (Int.lt_of_lt_of_le h1 (by decide +kernel))]
    decide +kernel
theorem N_of64 {x : Int} (h0 : 0 ≤ x) (h1 : x < B64) : N256 x := ⟨h0, Int.lt_trans h1 (by decide +kernel)⟩

/-- The moduli as naturals. -/
theorem mo_nat {f : Int} (hf : f = 1 ∨ f = 2 ∨ f = 3 ∨ f = 4) : ∃ p : Nat, mo f = p ∧ Pr p ∧ p % 2 = 1 := by
  rcases hf with rfl | rfl | rfl | rfl
  · exact ⟨57896044618658097711785492504343953926634992332820282019728792003956564819949, by decide +kernel, prF25519, by decide +kernel⟩
  · exact ⟨115792089210356248762697446949407573530086143415290314195533631308867097853951, by decide +kernel, prFP256, by decide +kernel⟩
  · exact ⟨115792089210356248762697446949407573529996955224135760342422259061068512044369, by decide +kernel, prFN256, by decide +kernel⟩
  · exact ⟨7237005577332262213973186563042994240857116359379907606001950938285454250989, by decide +kernel, prFL25519, by decide +kernel⟩
theorem last_one {f a : Int} (hf : f = 1 ∨ f = 2 ∨ f = 3 ∨ f = 4) (ha : 0 ≤ a) (h : ¬ a % mo f = 0) : a ^ (mo f - 1).toNat % mo f = 1 := by
  obtain ⟨p, e, hp, _⟩ := mo_nat hf
  obtain ⟨n, rfl⟩ := Int.eq_ofNat_of_zero_le ha
  rw [e] at h ⊢
  have h2 : n % p ≠ 0 := fun k => h (by exact_mod_cast k)
  have h3 := hp.fermat h2
  have h4 : ((p : Int) - 1).toNat = p - 1 := by omega
  rw [h4]
  exact_mod_cast h3
theorem last_none {f a : Int} (hf : f = 1 ∨ f = 2 ∨ f = 3 ∨ f = 4) (h : a % mo f = 0) : a ^ (mo f - 1).toNat % mo f = 0 := by
  have hn : ∃ k, (mo f - 1).toNat = k + 1 := by
    rcases hf with rfl | rfl | rfl | rfl
    · exact ⟨_, (by decide +kernel : (mo 1 - 1).toNat = 57896044618658097711785492504343953926634992332820282019728792003956564819947 + 1)⟩
    · exact ⟨_, (by decide +kernel : (mo 2 - 1).toNat = 115792089210356248762697446949407573530086143415290314195533631308867097853949 + 1)⟩
    · exact ⟨_, (by decide +kernel : (mo 3 - 1).toNat = 115792089210356248762697446949407573529996955224135760342422259061068512044367 + 1)⟩
    · exact ⟨_, (by decide +kernel : (mo 4 - 1).toNat = 7237005577332262213973186563042994240857116359379907606001950938285454250987 + 1)⟩
  obtain ⟨k, hk⟩ := hn
  rw [hk, Int.pow_succ, Int.mul_emod, h, Int.mul_zero, Int.zero_emod]
/-- The modulus less 1, digit by digit. -/
theorem mo_dec {f : Int} (hf : f = 1 ∨ f = 2 ∨ f = 3 ∨ f = 4) : ∃ d e : Int, dg B64 (mo f) 0 = d ∧ d - 1 = e ∧ IntKind.u64.wrap e = e ∧ (num (mo f)).setIfInBounds 0 (.int .u64 e) = num (mo f - 1) ∧ N256 (mo f - 1) := by
  rcases hf with rfl | rfl | rfl | rfl
  · exact ⟨18446744073709551597, 18446744073709551596, by decide +kernel, by decide, by decide +kernel, by kernel_rfl, by constructor <;> decide +kernel⟩
  · exact ⟨18446744073709551615, 18446744073709551614, by decide +kernel, by decide, by decide +kernel, by kernel_rfl, by constructor <;> decide +kernel⟩
  · exact ⟨17562291160714782033, 17562291160714782032, by decide +kernel, by decide, by decide +kernel, by kernel_rfl, by constructor <;> decide +kernel⟩
  · exact ⟨6346243789798364141, 6346243789798364140, by decide +kernel, by decide, by decide +kernel, by kernel_rfl, by constructor <;> decide +kernel⟩
theorem pw_add (a M : Int) (x y : Int) (hx : 0 ≤ x) (hy : 0 ≤ y) : (a ^ x.toNat % M) * (a ^ y.toNat % M) % M = a ^ (x + y).toNat % M := by
  rw [← Int.mul_emod, ← Int.pow_add, show x.toNat + y.toNat = (x + y).toNat by omega]

set_option maxRecDepth 100000 in
theorem fields_any (k : Int) (h0 : -9223372036854775808 ≤ k) (h1 : k < 9223372036854775808) (w : World) : Calls Try.prog 39 #[.int .i64 k] w fun r w' => ∃ f, r = .returned (.int .i64 f) ∧ (f = 1 ∨ f = 2 ∨ f = 3 ∨ f = 4) ∧ Chg w w' := by
  by_cases hk : k < 0
  · obtain ⟨q, hq⟩ : ∃ q : Nat, -(k + 1) = q := ⟨(-(k + 1)).toNat, by omega⟩
    have hd : decide (k < 0) = true := by simp [hk]
    have w1 := wrap_i (x := k + 1) (by omega) (by omega)
    have w2 := wrap_i (x := (q : Int)) (by omega) (by omega)
    obtain ⟨t, ht⟩ : ∃ t : Nat, (q : Int).tmod 4 = t := ⟨q % 4, by rw [Int.tmod_eq_emod_of_nonneg (by omega)]; omega⟩
    have ht' : t = q % 4 := by rw [Int.tmod_eq_emod_of_nonneg (by omega)] at ht; omega
    have HT : Hid (t < 4) := by show t < 4; omega
    have w3 := wrap_i (x := (t : Int)) (by omega) (by omega)
    obtain ⟨s, hs⟩ : ∃ s : Nat, 1 + (t : Int) = s := ⟨1 + t, by omega⟩
    have w4 := wrap_i (x := (s : Int)) (by omega) (by omega)
    have HS : Hid (s = 1 + t) := by show s = 1 + t; omega
    clear ht'
    go_enter Try.func39, Try.ntmps39
    go_wp2_with fail
    go_ret
    exact ⟨s, rfl, by have a1 := HS.out; have a2 := HT.out; omega, Chg.refl w⟩
  · obtain ⟨q, rfl⟩ := Int.eq_ofNat_of_zero_le (show 0 ≤ k by omega)
    have hd : decide ((q : Int) < 0) = false := by simp
    obtain ⟨t, ht⟩ : ∃ t : Nat, (q : Int).tmod 4 = t := ⟨q % 4, by rw [Int.tmod_eq_emod_of_nonneg (by omega)]; omega⟩
    have ht' : t = q % 4 := by rw [Int.tmod_eq_emod_of_nonneg (by omega)] at ht; omega
    have HT : Hid (t < 4) := by show t < 4; omega
    have w3 := wrap_i (x := (t : Int)) (by omega) (by omega)
    obtain ⟨s, hs⟩ : ∃ s : Nat, 1 + (t : Int) = s := ⟨1 + t, by omega⟩
    have w4 := wrap_i (x := (s : Int)) (by omega) (by omega)
    have HS : Hid (s = 1 + t) := by show s = 1 + t; omega
    clear ht'
    go_enter Try.func39, Try.ntmps39
    go_wp2_with fail
    go_ret
    exact ⟨s, rfl, by have a1 := HS.out; have a2 := HT.out; omega, Chg.refl w⟩
end Go.Proofs.Ytnahkcapbbjfdaa
