/-
  It is a field: FieldLaws walked.
-/
import Derived.Test.YtnahkcapbbjfdaaExW
namespace Go.Proofs.Ytnahkcapbbjfdaa
open Go.RowKit
set_option linter.unusedVariables false

theorem ml (x y M : Int) : (x % M) * y % M = x * y % M := by rw [Int.mul_emod, Int.emod_emod_of_dvd _ (Int.dvd_refl M), ← Int.mul_emod]
theorem mr (x y M : Int) : x * (y % M) % M = x * y % M := by rw [Int.mul_comm, ml, Int.mul_comm]
theorem al (x y M : Int) : ((x % M) + y) % M = (x + y) % M := by rw [Int.add_emod, Int.emod_emod_of_dvd _ (Int.dvd_refl M), ← Int.add_emod]
theorem ar (x y M : Int) : (x + (y % M)) % M = (x + y) % M := by rw [Int.add_comm, al, Int.add_comm]
theorem sl (x y M : Int) : ((x % M) - y) % M = (x - y) % M := by rw [Int.sub_emod, Int.emod_emod_of_dvd _ (Int.dvd_refl M), ← Int.sub_emod]
/-- A number and its inverse. -/
theorem inv_one {f a : Int} (hf : f = 1 ∨ f = 2 ∨ f = 3 ∨ f = 4) (ha : 0 ≤ a) : a * (a ^ (mo f - 2).toNat % mo f) % mo f = if a % mo f = 0 then 0 else 1 := by
  by_cases h : a % mo f = 0
  · rw [if_pos h, Int.mul_emod, h, Int.zero_mul, Int.zero_emod]
  · rw [if_neg h]
    obtain ⟨p, e, hp, _⟩ := mo_nat hf
    obtain ⟨n, rfl⟩ := Int.eq_ofNat_of_zero_le ha
    rw [e] at h ⊢
    have h2 : n % p ≠ 0 := fun k => h (by exact_mod_cast k)
    have h3 := hp.inv h2
    have h5 := hp.1
    have h4 : ((p : Int) - 2).toNat = p - 2 := by omega
    rw [h4]
    exact_mod_cast h3

/-- The law's calls. -/
structure LK (f : Int) (A B C AB ABC BC MM MMC BM SH AC AR IV : Array Value) (one : Int) : Prop where
  ab0 : ∀ W, Calls Try.prog 10 #[.int .i64 f, .agg A, .agg B] W fun r w' => r = .returned (.agg AB) ∧ Chg W w'
  add1 : ∀ W, Calls Try.prog 10 #[.int .i64 f, .agg B, .agg A] W fun r w' => r = .returned (.agg AB) ∧ Chg W w'
  add2 : ∀ W, Calls Try.prog 10 #[.int .i64 f, .agg AB, .agg C] W fun r w' => r = .returned (.agg ABC) ∧ Chg W w'
  add3 : ∀ W, Calls Try.prog 10 #[.int .i64 f, .agg B, .agg C] W fun r w' => r = .returned (.agg BC) ∧ Chg W w'
  add4 : ∀ W, Calls Try.prog 10 #[.int .i64 f, .agg A, .agg BC] W fun r w' => r = .returned (.agg ABC) ∧ Chg W w'
  mm0 : ∀ W, Calls Try.prog 14 #[.int .i64 f, .agg A, .agg B] W fun r w' => r = .returned (.agg MM) ∧ Chg W w'
  mul1 : ∀ W, Calls Try.prog 14 #[.int .i64 f, .agg B, .agg A] W fun r w' => r = .returned (.agg MM) ∧ Chg W w'
  mul2 : ∀ W, Calls Try.prog 14 #[.int .i64 f, .agg MM, .agg C] W fun r w' => r = .returned (.agg MMC) ∧ Chg W w'
  mul3 : ∀ W, Calls Try.prog 14 #[.int .i64 f, .agg B, .agg C] W fun r w' => r = .returned (.agg BM) ∧ Chg W w'
  mul4 : ∀ W, Calls Try.prog 14 #[.int .i64 f, .agg A, .agg BM] W fun r w' => r = .returned (.agg MMC) ∧ Chg W w'
  sh1 : ∀ W, Calls Try.prog 14 #[.int .i64 f, .agg AB, .agg C] W fun r w' => r = .returned (.agg SH) ∧ Chg W w'
  sh2 : ∀ W, Calls Try.prog 14 #[.int .i64 f, .agg A, .agg C] W fun r w' => r = .returned (.agg AC) ∧ Chg W w'
  sh3 : ∀ W, Calls Try.prog 10 #[.int .i64 f, .agg AC, .agg BM] W fun r w' => r = .returned (.agg SH) ∧ Chg W w'
  sub1 : ∀ W, Calls Try.prog 12 #[.int .i64 f, .agg AB, .agg B] W fun r w' => r = .returned (.agg AR) ∧ Chg W w'
  one1 : ∀ W, Calls Try.prog 14 #[.int .i64 f, .agg A, .agg (num 1)] W fun r w' => r = .returned (.agg AR) ∧ Chg W w'
  inv1 : ∀ W, Calls Try.prog 26 #[.int .i64 f, .agg A] W fun r w' => r = .returned (.agg IV) ∧ Chg W w'
  inv2 : ∀ W, Calls Try.prog 14 #[.int .i64 f, .agg A, .agg IV] W fun r w' => r = .returned (.agg (num one)) ∧ Chg W w'
  rig1 : ∀ W, Calls Try.prog 20 #[.int .i64 f, .agg AB] W fun r w' => r = .returned (.bool true) ∧ Chg W w'
  rig2 : ∀ W, Calls Try.prog 20 #[.int .i64 f, .agg MM] W fun r w' => r = .returned (.bool true) ∧ Chg W w'

/-- The law's comparisons. -/
structure LQ (AB ABC MM MMC SH AR : Array Value) : Prop where
  ab : ∀ u, (Op.equalIn 10000 25 (.agg AB) (.agg AB)).run Try.prog u = .ok true u
  abc : ∀ u, (Op.equalIn 10000 25 (.agg ABC) (.agg ABC)).run Try.prog u = .ok true u
  mm : ∀ u, (Op.equalIn 10000 25 (.agg MM) (.agg MM)).run Try.prog u = .ok true u
  mmc : ∀ u, (Op.equalIn 10000 25 (.agg MMC) (.agg MMC)).run Try.prog u = .ok true u
  sh : ∀ u, (Op.equalIn 10000 25 (.agg SH) (.agg SH)).run Try.prog u = .ok true u
  ar : ∀ u, (Op.equalIn 10000 25 (.agg AR) (.agg AR)).run Try.prog u = .ok true u

structure L1 (w wr : World) (b1 : Nat) (A B C AB : Array Value) : Prop where
  chg : Chg w wr
  a : Ar wr w.heap.size A
  b : Ar wr (w.heap.size + 1) B
  c : Ar wr (w.heap.size + 1 + 1) C
  ab : Ar wr b1 AB
theorem L1.to {w wr u : World} {b1 : Nat} {A B C AB : Array Value} (h : L1 w wr b1 A B C AB) (k : Chg wr u) : L1 w u b1 A B C AB := ⟨h.chg.trans k, h.a.chg k, h.b.chg k, h.c.chg k, h.ab.chg k⟩
structure L2 (w wr : World) (b1 b2 : Nat) (A B C AB MM : Array Value) : Prop where
  chg : Chg w wr
  a : Ar wr w.heap.size A
  b : Ar wr (w.heap.size + 1) B
  c : Ar wr (w.heap.size + 1 + 1) C
  ab : Ar wr b1 AB
  mm : Ar wr b2 MM
theorem L2.to {w wr u : World} {b1 b2 : Nat} {A B C AB MM : Array Value} (h : L2 w wr b1 b2 A B C AB MM) (k : Chg wr u) : L2 w u b1 b2 A B C AB MM := ⟨h.chg.trans k, h.a.chg k, h.b.chg k, h.c.chg k, h.ab.chg k, h.mm.chg k⟩
theorem eq_self {x : Int} (h : N256 x) (u : World) : (Op.equalIn 10000 25 (.agg (num x)) (.agg (num x))).run Try.prog u = .ok true u := by rw [run_eqNum h h, decide_eq_true rfl]

theorem law_calls {f a b c : Int} (hf : f = 1 ∨ f = 2 ∨ f = 3 ∨ f = 4) (ha : N256 a) (hb : N256 b) (hc : N256 c) : LK f (num a) (num b) (num c) (num ((a + b) % mo f)) (num ((a + b + c) % mo f)) (num ((b + c) % mo f)) (num (a * b % mo f)) (num (a * b * c % mo f)) (num (b * c % mo f)) (num ((a + b) * c % mo f)) (num (a * c % mo f)) (num (a % mo f)) (num (a ^ (mo f - 2).toNat % mo f)) (if a % mo f = 0 then 0 else 1) := by
  have N : ∀ x, N256 (x % mo f) := N_mod hf
  have hp := (mo_pos4 hf).1
  refine ⟨fun W => add_any f a b hf ha hb W, fun W => ?_, fun W => ?_, fun W => add_any f b c hf hb hc W, fun W => ?_, fun W => mul_any f a b hf ha hb W, fun W => ?_, fun W => ?_, fun W => mul_any f b c hf hb hc W, fun W => ?_, fun W => ?_, fun W => mul_any f a c hf ha hc W, fun W => ?_, fun W => ?_, fun W => ?_, fun W => inv_any f a hf ha W, fun W => ?_, fun W => ?_, fun W => ?_⟩
  · have := add_any f b a hf hb ha W
    rwa [Int.add_comm b a] at this
  · have := add_any f _ c hf (N (a + b)) hc W
    rwa [al] at this
  · have := add_any f a _ hf ha (N (b + c)) W
    rwa [ar, ← Int.add_assoc] at this
  · have := mul_any f b a hf hb ha W
    rwa [Int.mul_comm b a] at this
  · have := mul_any f _ c hf (N (a * b)) hc W
    rwa [ml] at this
  · have := mul_any f a _ hf ha (N (b * c)) W
    rwa [mr, ← Int.mul_assoc] at this
  · have := mul_any f _ c hf (N (a + b)) hc W
    rwa [ml] at this
  · have := add_any f _ _ hf (N (a * c)) (N (b * c)) W
    rwa [al, ar, ← Int.add_mul] at this
  · have := sub_any f _ b hf (N (a + b)) hb W
    rwa [sl, Int.add_sub_cancel] at this
  · have := mul_any f a 1 hf ha N1 W
    rwa [Int.mul_one] at this
  · have := mul_any f a _ hf ha (N (a ^ (mo f - 2).toNat)) W
    rwa [inv_one hf ha.1] at this
  · have := right_any f _ (N (a + b)) W
    rwa [decide_eq_true (Int.emod_lt_of_pos _ hp)] at this
  · have := right_any f _ (N (a * b)) W
    rwa [decide_eq_true (Int.emod_lt_of_pos _ hp)] at this
end Go.Proofs.Ytnahkcapbbjfdaa
