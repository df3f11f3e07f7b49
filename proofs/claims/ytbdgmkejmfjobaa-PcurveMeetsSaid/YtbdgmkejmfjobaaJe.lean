/-
  Columns of 32 bits modulo the prime of P-256: a high column is brought down.
  Columns of 32 bits, settled: each keeps its 32 bits, and hands the rest on.
  Eight columns of 32 bits as four digits.
  Columns brought down: what becomes of their value, and of their bounds. Plain.
  Columns of a number; how soon the ninth column is nothing. Plain.
-/
import Derived.Test.YtbdgmkejmfjobaaRed1
import Derived.Laws.Bits128
import Derived.Shelf.Bits.Mul64
namespace Go.Proofs.Ytbdgmkejmfjobaa
open Go.RowKit
set_option linter.unusedVariables false
structure Bt (b : Nat) (w w' : World) : Prop where
 os : w'.os = w.os
 tape : w'.tape = w.tape
 output : w'.output = w.output
 size : w'.heap.size = w.heap.size
 block : ∀ k, k ≠ b → w'.heap[k]? = w.heap[k]?
theorem Bt.refl (b : Nat) (w : World) : Bt b w w := ⟨rfl, rfl, rfl, rfl, fun _ _ => rfl⟩
theorem Bt.trans {b : Nat} {u v w : World} (h : Bt b u v) (k : Bt b v w) : Bt b u w :=
 ⟨k.os.trans h.os, k.tape.trans h.tape, k.output.trans h.output, k.size.trans h.size, fun i hi => (k.block i hi).trans (h.block i hi)⟩
theorem Bt.drew {b : Nat} {v w : World} (h : Bt b v w) : Bt b v w.drew := ⟨h.os, h.tape, h.output, h.size, h.block⟩
theorem Bt.set {b : Nat} {v w : World} (h : Bt b v w) (i : Nat) (x : Value) : Bt b v (w.setCell ⟨b, i, none⟩ x) :=
 ⟨h.os, h.tape, h.output, by simp [World.setCell]; exact h.size, fun k hk => (Below.heap_setCell _ _ _ _ hk).trans (h.block k hk)⟩
theorem Ar.bt {w w' : World} {b b' : Nat} {c : Array Value} (h : Ar w b c) (k : Bt b' w w') (hb : b ≠ b') : Ar w' b c := by
 obtain ⟨t, h⟩ := h
 exact ⟨t, (k.block b hb).trans h⟩
theorem Chg.bt {a w w' : World} {b : Nat} (h : Chg a w) (k : Bt b w w') (hb : a.heap.size ≤ b) : Chg a w' :=
 ⟨k.os.trans h.os, k.tape.trans h.tape, k.output.trans h.output, by rw [k.size]; exact h.size, fun i hi => (k.block i (by omega)).trans (h.block i hi)⟩
def Cb (m : Int) (c : Nat → Int) : Prop := ∀ i, -m ≤ c i ∧ c i ≤ m
def fold (c : Nat → Int) (k : Nat) : Nat → Int :=
 let v := c k
 let c1 := upd c k 0
 let c2 := upd c1 (k - 1) (c1 (k - 1) + v)
 let c3 := upd c2 (k - 2) (c2 (k - 2) - v)
 let c4 := upd c3 (k - 5) (c3 (k - 5) - v)
 upd c4 (k - 8) (c4 (k - 8) + v)
theorem wrap_i {x : Int} (h0 : -9223372036854775808 ≤ x) (h1 : x < 9223372036854775808) : IntKind.i64.wrap x = x := by rw [IntKind.wrap_i64]; omega
set_option maxHeartbeats 4000000 in
theorem fold_any (b k : Nat) (c : Nat → Int) (w : World) (hk : 8 ≤ k) (hk' : k < 16) (ha : Ar w b (arr .i64 16 c)) (hc : Cb 1099511627776 c) :
  Calls Try.prog 100 #[.pointer (some ⟨b, 0, none⟩), .int .i64 k] w fun r w' => r = .returned (.tuple #[]) ∧ Bt b w w' ∧ Ar w' b (arr .i64 16 (fold c k)) := by
 obtain ⟨k1, hk1⟩ : ∃ q : Nat, (k : Int) - 1 = q := ⟨k - 1, by omega⟩
 obtain ⟨k2, hk2⟩ : ∃ q : Nat, (k : Int) - 2 = q := ⟨k - 2, by omega⟩
 obtain ⟨k5, hk5⟩ : ∃ q : Nat, (k : Int) - 5 = q := ⟨k - 5, by omega⟩
 obtain ⟨k8, hk8⟩ : ∃ q : Nat, (k : Int) - 8 = q := ⟨k - 8, by omega⟩
 have e1 : k - 1 = k1 := by omega
 have e2 : k - 2 = k2 := by omega
 have e5 : k - 5 = k5 := by omega
 have e8 : k - 8 = k8 := by omega
 obtain ⟨v, hv⟩ : ∃ v, v = c k := ⟨_, rfl⟩
 obtain ⟨x1, hx1⟩ : ∃ v, v = c k1 := ⟨_, rfl⟩
 obtain ⟨x2, hx2⟩ : ∃ v, v = c k2 := ⟨_, rfl⟩
 obtain ⟨x5, hx5⟩ : ∃ v, v = c k5 := ⟨_, rfl⟩
 obtain ⟨x8, hx8⟩ : ∃ v, v = c k8 := ⟨_, rfl⟩
 have gv := (ha.cell k).trans (arr_get .i64 16 c hk')
 have g1 := (ha.cell k1).trans (arr_get .i64 16 c (by omega))
 have g2 := (ha.cell k2).trans (arr_get .i64 16 c (by omega))
 have g5 := (ha.cell k5).trans (arr_get .i64 16 c (by omega))
 have g8 := (ha.cell k8).trans (arr_get .i64 16 c (by omega))
 have fv := ha.frozen k
 have f1 := ha.frozen k1
 have f2 := ha.frozen k2
 have f5 := ha.frozen k5
 have f8 := ha.frozen k8
 rw [← hv] at gv
 rw [← hx1] at g1
 rw [← hx2] at g2
 rw [← hx5] at g5
 rw [← hx8] at g8
 have bv := hc k
 have b1 := hc k1
 have b2 := hc k2
 have b5 := hc k5
 have b8 := hc k8
 rw [← hv] at bv
 rw [← hx1] at b1
 rw [← hx2] at b2
 rw [← hx5] at b5
 rw [← hx8] at b8
 have w1 := wrap_i (x := x1 + v) (by omega) (by omega)
 have w2 := wrap_i (x := x2 - v) (by omega) (by omega)
 have w5 := wrap_i (x := x5 - v) (by omega) (by omega)
 have w8 := wrap_i (x := x8 + v) (by omega) (by omega)
 have v1 := wrap_i (x := (k1 : Int)) (by omega) (by omega)
 have v2 := wrap_i (x := (k2 : Int)) (by omega) (by omega)
 have v5 := wrap_i (x := (k5 : Int)) (by omega) (by omega)
 have v8 := wrap_i (x := (k8 : Int)) (by omega) (by omega)
 have l0 : (k : Int) < 16 := by omega
 have l1 : (k1 : Int) < 16 := by omega
 have l2 : (k2 : Int) < 16 := by omega
 have l5 : (k5 : Int) < 16 := by omega
 have l8 : (k8 : Int) < 16 := by omega
 have n01 : ¬ k1 = k := by omega
 have n02 : ¬ k2 = k := by omega
 have n05 : ¬ k5 = k := by omega
 have n08 : ¬ k8 = k := by omega
 have n12 : ¬ k2 = k1 := by omega
 have n15 : ¬ k5 = k1 := by omega
 have n18 : ¬ k8 = k1 := by omega
 have n25 : ¬ k5 = k2 := by omega
 have n28 : ¬ k8 = k2 := by omega
 have n58 : ¬ k8 = k5 := by omega
 have hf : arr .i64 16 (fold c k) = arr .i64 16 (upd (upd (upd (upd (upd c k 0) k1 (x1 + v)) k2 (x2 - v)) k5 (x5 - v)) k8 (x8 + v)) := by
  unfold fold
  rw [e1, e2, e5, e8]
  simp only [upd_ne _ _ n01, upd_ne _ _ n02, upd_ne _ _ n05, upd_ne _ _ n08, upd_ne _ _ n12, upd_ne _ _ n15, upd_ne _ _ n18, upd_ne _ _ n25, upd_ne _ _ n28, upd_ne _ _ n58, ← hv, ← hx1, ← hx2, ← hx5, ← hx8]
 obtain ⟨c1, hc1⟩ : ∃ c1, c1 = upd (upd c k 0) k1 (x1 + v) := ⟨_, rfl⟩
 obtain ⟨c2, hc2⟩ : ∃ c2, c2 = upd c1 k2 (x2 - v) := ⟨_, rfl⟩
 obtain ⟨c3, hc3⟩ : ∃ c3, c3 = upd c2 k5 (x5 - v) := ⟨_, rfl⟩
 have HZ : Hid (c1 = upd (upd c k 0) k1 (x1 + v) ∧ c2 = upd c1 k2 (x2 - v) ∧ c3 = upd c2 k5 (x5 - v)) := ⟨hc1, hc2, hc3⟩
 have HY : Hid (c1 k2 = x2 ∧ c2 k5 = x5 ∧ c3 k8 = x8) := by
  refine ⟨?_, ?_, ?_⟩
  ·rw [hc1, upd_ne _ _ n12, upd_ne _ _ n02, hx2]
  ·rw [hc2, hc1, upd_ne _ _ n25, upd_ne _ _ n15, upd_ne _ _ n05, hx5]
  ·rw [hc3, hc2, hc1, upd_ne _ _ n58, upd_ne _ _ n28, upd_ne _ _ n18, upd_ne _ _ n08, hx8]
 rw [← hc1, ← hc2, ← hc3] at hf
 have HF : Hid (arr .i64 16 (fold c k) = arr .i64 16 (upd c3 k8 (x8 + v))) := hf
 have HA : Hid (Ar w b (arr .i64 16 c)) := ha
 clear hf ha hc hc1 hc2 hc3 hv hx1 hx2 hx5 hx8 bv b1 b2 b5 b8 e1 e2 e5 e8 g2 g5 g8 f2 f5 f8
 go_enter Try.func100, Try.ntmps100
 go_upto_region 2 with (fail)
 go_cut [] from 14 to 23 (fun wc => Bt b w wc ∧ Ar wc b (arr .i64 16 c1))
 case first =>
  go_region_with (fail)
  all_goals go_wp2_with fail
  all_goals go_meet
  all_goals
   refine ⟨(((Bt.refl b w).set _ _).set _ _).drew, ?_⟩
   have := (HA.out.set k (.int .i64 0)).set k1 (.int .i64 (x1 + v))
   rw [arr_set, arr_set, ← HZ.out.1] at this
   exact this
 obtain ⟨hb, ha⟩ := hcut
 obtain ⟨wa, hwa⟩ : ∃ wa, wa = wc := ⟨_, rfl⟩
 subst hwa
 clear gv g1 fv f1
 have g2 := (ha.cell k2).trans (arr_get .i64 16 c1 (i := k2) (by omega))
 rw [HY.out.1] at g2
 have f2 := ha.frozen k2
 have HB1 : Hid (Bt b w wa) := hb
 have HA1 : Hid (Ar wa b (arr .i64 16 c1)) := ha
 clear hb ha
 go_upto_region 3 with (fail)
 go_cut [] from 24 to 33 (fun wc => Bt b w wc ∧ Ar wc b (arr .i64 16 c2))
 case first =>
  go_region_with (fail)
  all_goals go_wp2_with fail
  all_goals go_meet
  all_goals
   refine ⟨(HB1.out.set _ _).drew, ?_⟩
   have := HA1.out.set k2 (.int .i64 (x2 - v))
   rw [arr_set, ← HZ.out.2.1] at this
   exact this
 obtain ⟨hb, ha⟩ := hcut
 obtain ⟨wb, hwb⟩ : ∃ wb, wb = wc := ⟨_, rfl⟩
 subst hwb
 clear g2 f2
 have g5 := (ha.cell k5).trans (arr_get .i64 16 c2 (i := k5) (by omega))
 rw [HY.out.2.1] at g5
 have f5 := ha.frozen k5
 have HB2 : Hid (Bt b w wb) := hb
 have HA2 : Hid (Ar wb b (arr .i64 16 c2)) := ha
 clear hb ha
 go_upto_region 4 with (fail)
 go_cut [] from 34 to 43 (fun wc => Bt b w wc ∧ Ar wc b (arr .i64 16 c3))
 case first =>
  go_region_with (fail)
  all_goals go_wp2_with fail
  all_goals go_meet
  all_goals
   refine ⟨(HB2.out.set _ _).drew, ?_⟩
   have := HA2.out.set k5 (.int .i64 (x5 - v))
   rw [arr_set, ← HZ.out.2.2] at this
   exact this
 obtain ⟨hb, ha⟩ := hcut
 obtain ⟨wd, hwd⟩ : ∃ wd, wd = wc := ⟨_, rfl⟩
 subst hwd
 clear g5 f5
 have g8 := (ha.cell k8).trans (arr_get .i64 16 c3 (i := k8) (by omega))
 rw [HY.out.2.2] at g8
 have f8 := ha.frozen k8
 have HB3 : Hid (Bt b w wd) := hb
 have HA3 : Hid (Ar wd b (arr .i64 16 c3)) := ha
 clear hb ha
 go_wp2_with fail
 go_region_with (fail)
 all_goals go_wp2
 all_goals
  go_end0
  refine ⟨rfl, (HB3.out.set _ _).drew, ?_⟩
  have := HA3.out.set k8 (.int .i64 (x8 + v))
  rw [arr_set, ← HF.out] at this
  exact this
end Go.Proofs.Ytbdgmkejmfjobaa

namespace Go.Proofs.Ytbdgmkejmfjobaa
open Go.RowKit
set_option linter.unusedVariables false
theorem low32 (n : Int) : bits .and .i64 n 4294967295 = n % 4294967296 := by
 have hm : (BitVec.ofInt 64 4294967295).toNat = 2 ^ 32 - 1 := by decide
 show IntKind.i64.wrap ((BitVec.ofInt 64 n &&& BitVec.ofInt 64 4294967295).toNat : Nat) = n % 4294967296
 rw [BitVec.toNat_and, BitVec.toNat_ofInt, hm, Nat.and_two_pow_sub_one_eq_mod, IntKind.wrap_i64]
 omega
abbrev B32 : Int := 4294967296
structure Settled (c s : Nat → Int) (i : Nat) : Prop where
 low : ∀ j, j < i → 0 ≤ s j ∧ s j < 4294967296
 same : ∀ j, i < j → s j = c j
 value : val B32 9 s = val B32 9 c
 bound : -2251799813685248 ≤ s i - c i ∧ s i - c i ≤ 2251799813685248
set_option maxHeartbeats 4000000 in
theorem settle_any (b : Nat) (c : Nat → Int) (w : World) (ha : Ar w b (arr .i64 16 c)) (hc : Cb 1125899906842624 c) :
  Calls Try.prog 101 #[.pointer (some ⟨b, 0, none⟩)] w fun r w' => r = .returned (.tuple #[]) ∧ Bt b w w' ∧ ∃ s, Ar w' b (arr .i64 16 s) ∧ Settled c s 8 := by
 have HA : Hid (Ar w b (arr .i64 16 c)) := ha
 have HCb : Hid (Cb 1125899906842624 c) := hc
 clear ha hc
 go_enter Try.func101, Try.ntmps101
 go_wp2_with fail
 go_loopw [3] (fun v wr => ∃ (i : Nat) (s : Nat → Int), v = .int .i64 i ∧ i ≤ 8 ∧ Bt b w wr ∧ Ar wr b (arr .i64 16 s) ∧ Settled c s i) (fun v wr => 8 - (intOf v).toNat)
 case atStart => exact ⟨0, c, rfl, by omega, Bt.refl _ _, HA.out, ⟨fun j hj => by omega, fun j _ => rfl, rfl, by omega⟩⟩
 case round =>
  obtain ⟨i, s, rfl, hi, hb, ha, hs⟩ := hrel
  obtain ⟨w1, hw1⟩ : ∃ w1, w1 = wr := ⟨_, rfl⟩
  subst hw1
  have HB : Hid (Bt b w w1) := hb
  have HS : Hid (Settled c s i) := hs
  have HA1 : Hid (Ar w1 b (arr .i64 16 s)) := ha
  by_cases hi8 : i < 8
  ·obtain ⟨q, hq⟩ : ∃ q : Nat, (i : Int) + 1 = q := ⟨i + 1, by omega⟩
   have hq16 : (q : Int) < 16 := by omega
   have hq0 : (0 : Int) ≤ q := by omega
   have hi16 : (i : Int) < 16 := by omega
   have hqw := wrap_i (x := (q : Int)) (by omega) (by omega)
   have c1 := (ha.cell q).trans (arr_get .i64 16 s (i := q) (by omega))
   have c0 := (ha.cell i).trans (arr_get .i64 16 s (i := i) (by omega))
   have f1 := ha.frozen q
   obtain ⟨x, hx⟩ : ∃ x, x = s i := ⟨_, rfl⟩
   obtain ⟨y, hy⟩ : ∃ x, x = s q := ⟨_, rfl⟩
   rw [← hx] at c0
   rw [← hy] at c1
   have bx : -4503599627370496 ≤ x ∧ x ≤ 4503599627370496 := by
    have h1 := hs.bound
    have h2 := HCb.out i
    rw [← hx] at h1
    omega
   have byy : -1125899906842624 ≤ y ∧ y ≤ 1125899906842624 := by
    rw [hy, hs.same q (by omega)]
    exact HCb.out q
   obtain ⟨z, hz⟩ : ∃ z, z = y + x / 4294967296 := ⟨_, rfl⟩
   have wz := wrap_i (x := y + x / 4294967296) (by omega) (by omega)
   rw [← hz] at wz
   have HX : Hid (x = s i ∧ y = s q ∧ z = y + x / 4294967296) := ⟨hx, hy, hz⟩
   have hzz := hz.symm
   have hne : ¬ q = i := by omega
   have hne' : ¬ i = q := by omega
   have hdi : decide ((i : Int) < 8) = true := by simp; omega
   clear hb ha hs hx hy hz
   go_wp2_with fail
   go_cut [] from 6 to 20 (fun wc => Bt b w wc ∧ Ar wc b (arr .i64 16 (upd s q z)))
   case first =>
    go_region_with (fail)
    all_goals go_wp2_with fail
    all_goals go_meet
    all_goals
     refine ⟨(HB.out.set _ _).drew, ?_⟩
     have := HA1.out.set q (.int .i64 z)
     rw [arr_set] at this
     exact this
   obtain ⟨hb, ha⟩ := hcut
   obtain ⟨w2, hw2⟩ : ∃ w2, w2 = wc := ⟨_, rfl⟩
   subst hw2
   clear c0 c1 f1
   have c0 := (ha.cell i).trans (arr_get .i64 16 (upd s q z) (i := i) (by omega))
   rw [upd_ne _ _ hne', ← HX.out.1] at c0
   have f0 := ha.frozen i
   have hlow := low32 x
   have HB2 : Hid (Bt b w w2) := hb
   have HA2 : Hid (Ar w2 b (arr .i64 16 (upd s q z))) := ha
   clear hb ha
   go_wp2_with fail
   go_region_with (fail)
   all_goals go_wp2
   all_goals
    obtain ⟨hx, hy, hz⟩ := HX.out
    have hq' : q = i + 1 := by omega
    have hS := HS.out
    go_roundw
    case rel =>
     refine ⟨i + 1, upd (upd s q z) i (x % 4294967296), by go_num, by omega, (HB2.out.set _ _).drew, ?_, ?_, ?_, ?_, ?_⟩
     ·have := HA2.out.set i (.int .i64 (x % 4294967296))
      rw [arr_set] at this
      exact this
     ·intro j hj
      by_cases hji : j = i
      ·rw [hji, upd_same]; omega
      ·rw [upd_ne _ _ hji, upd_ne _ _ (by omega)]; exact hS.low j (by omega)
     ·intro j hj
      rw [upd_ne _ _ (by omega), upd_ne _ _ (by omega)]; exact hS.same j (by omega)
     ·rw [← hS.value, val_upd_in _ _ (by omega), val_upd_in _ _ (by omega), upd_ne _ _ hne', ← hx, ← hy, hq', Int.pow_succ]
      have e : x % 4294967296 = x - 4294967296 * (x / 4294967296) := by omega
      rw [e, hz]
      unfold B32
      grind
     ·rw [upd_ne _ _ (by omega), ← hq', upd_same, ← hS.same q (by omega), ← hy]
      omega
    case measure => simp [intOf]; omega
  ·have hi8' : i = 8 := by omega
   subst hi8'
   clear hb ha hs
   go_wp2
   go_end0
   exact ⟨rfl, HB.out, s, HA1.out, HS.out⟩
end Go.Proofs.Ytbdgmkejmfjobaa

namespace Go.Proofs.Ytbdgmkejmfjobaa
open Go.RowKit
set_option linter.unusedVariables false
theorem wraps64 : ∀ n : Int, 0 ≤ n → n < 2 ^ 64 → IntKind.u64.wrap n = n := by
 intro n h0 h1
 rw [IntKind.wrap_u64]
 omega
theorem or_low {x : Int} (h0 : 0 ≤ x) (h1 : x < 4294967296) : bits .or .u64 0 x = x := by
 rw [bits_join .u64 64 (by decide) wraps64 32 0 x (by omega) (by decide) (by decide) h0 (by omega) (by omega)]
 omega
theorem or_high {a x : Int} (ha0 : 0 ≤ a) (ha1 : a < 4294967296) (h0 : 0 ≤ x) (h1 : x < 4294967296) : bits .or .u64 a (x * 4294967296) = a + x * 4294967296 := by
 have hc : bits .or .u64 a (x * 4294967296) = bits .or .u64 (x * 4294967296) a := by simp only [bits, BitVec.or_comm]
 rw [hc, bits_join .u64 64 (by decide) wraps64 32 (x * 4294967296) a (by omega) (by omega) (by omega) ha0 (by omega) (by omega)]
 omega
def lowd (c : Nat → Int) (i : Nat) : Nat → Int := fun j => (if 2 * j < i then c (2 * j) else 0) + (if 2 * j + 1 < i then c (2 * j + 1) else 0) * 4294967296
set_option maxHeartbeats 4000000 in
theorem low_any (b : Nat) (c : Nat → Int) (w : World) (ha : Ar w b (arr .i64 16 c)) (hc : ∀ j, j < 8 → 0 ≤ c j ∧ c j < 4294967296) :
  Calls Try.prog 102 #[.pointer (some ⟨b, 0, none⟩)] w fun r w' => r = .returned (.agg (arr .u64 4 (lowd c 8))) ∧ Chg w w' := by
 have hbl := ha.lt
 have HN : Hid (b < w.heap.size) := hbl
 have HA : Hid (Ar w b (arr .i64 16 c)) := ha
 have HCb : Hid (∀ j, j < 8 → 0 ≤ c j ∧ c j < 4294967296) := hc
 clear ha hc hbl
 go_enter Try.func102, Try.ntmps102
 go_wp2_with fail
 have z1 : Hid (Ar ((w.alloc (.cells #[.int .u64 0, .int .u64 0, .int .u64 0, .int .u64 0] 24)).alloc (.cells #[.int .u64 0, .int .u64 0, .int .u64 0, .int .u64 0] 24)) w.heap.size (arr .u64 4 fun _ => 0)) := (Ar.new _ _ _).alloc _
 have z2 : Hid (Ar ((w.alloc (.cells #[.int .u64 0, .int .u64 0, .int .u64 0, .int .u64 0] 24)).alloc (.cells #[.int .u64 0, .int .u64 0, .int .u64 0, .int .u64 0] 24)) (w.heap.size + 1) (arr .u64 4 (lowd c 0))) := by
  have e : arr .u64 4 (lowd c 0) = arr .u64 4 fun _ => 0 := arr_congr fun i _ => by simp [lowd]
  show Ar _ _ _
  rw [e]
  exact Ar.new1 _ _ _ _
 go_loopw [5] (fun v wr => ∃ (i : Nat), v = .int .i64 i ∧ i ≤ 8 ∧ Chg w wr ∧ Ar wr b (arr .i64 16 c) ∧ Ar wr w.heap.size (arr .u64 4 fun _ => 0) ∧ Ar wr (w.heap.size + 1) (arr .u64 4 (lowd c i))) (fun v wr => 8 - (intOf v).toNat)
 case atStart => exact ⟨0, rfl, by omega, ((Chg.refl w).alloc _).alloc _, (HA.out.alloc _).alloc _, z1.out, z2.out⟩
 case round =>
  clear z1 z2 HA
  obtain ⟨i, rfl, hi, hch, ha, hr, hl⟩ := hrel
  have HC : Hid (Chg w wr) := hch
  have HA : Hid (Ar wr b (arr .i64 16 c)) := ha
  have HR : Hid (Ar wr w.heap.size (arr .u64 4 fun _ => 0)) := hr
  have HL : Hid (Ar wr (w.heap.size + 1) (arr .u64 4 (lowd c i))) := hl
  by_cases hi8 : i < 8
  ·obtain ⟨x, hx⟩ : ∃ x, x = c i := ⟨_, rfl⟩
   have bx := HCb.out i hi8
   rw [← hx] at bx
   have hwx : IntKind.u64.wrap x = x := by rw [IntKind.wrap_u64]; omega
   have c0 := (ha.cell i).trans (arr_get .i64 16 c (i := i) (by omega))
   rw [← hx] at c0
   rcases Nat.mod_two_eq_zero_or_one i with he | he
   ·obtain ⟨m, hm⟩ : ∃ m : Nat, i = 2 * m := ⟨i / 2, by omega⟩
    subst hm
    have c1 := (hl.cell m).trans (arr_get .u64 4 (lowd c (2 * m)) (i := m) (by omega))
    have hz : lowd c (2 * m) m = 0 := by
     have n1 : ¬ 2 * m + 1 < 2 * m := by omega
     simp [lowd, n1]
    rw [hz] at c1
    have f1 := hl.frozen m
    have hm4 : (m : Int) < 4 := by omega
    have hm0 : (0 : Int) ≤ m := by omega
    have hmw := wrap_i (x := (m : Int)) (by omega) (by omega)
    have hm16 : (2 * (m : Int)) < 16 := by omega
    have hor := or_low bx.1 bx.2
    have HX : Hid (x = c (2 * m)) := hx
    clear hch ha hr hl hx he hz
    go_wp2_with fail
    go_region_with (fail)
    all_goals go_wp2
    all_goals
     have hn := HN.out
     go_roundw
     case rel =>
      refine ⟨2 * m + 1, by go_num, by omega, (HC.out.setCell (by dsimp only; omega) _).drew, (HA.out.other (by dsimp only; omega) _).drew, (HR.out.other (by dsimp only; omega) _).drew, ?_⟩
      have h := HL.out.set m (.int .u64 x)
      rw [arr_set] at h
      have e : arr .u64 4 (upd (lowd c (2 * m)) m x) = arr .u64 4 (lowd c (2 * m + 1)) := arr_congr fun j _ => by
       by_cases hj : j = m
       ·subst hj
        rw [upd_same, HX.out]
        simp [lowd]
       ·rw [upd_ne _ _ hj]
        have e1 : (2 * j < 2 * m) ↔ (2 * j < 2 * m + 1) := by omega
        have e2 : (2 * j + 1 < 2 * m) ↔ (2 * j + 1 < 2 * m + 1) := by omega
        simp only [lowd, e1, e2]
      rw [e] at h
      exact h
     case measure => simp [intOf]; omega
   ·obtain ⟨m, hm⟩ : ∃ m : Nat, i = 2 * m + 1 := ⟨i / 2, by omega⟩
    subst hm
    have c1 := (hl.cell m).trans (arr_get .u64 4 (lowd c (2 * m + 1)) (i := m) (by omega))
    have hz : lowd c (2 * m + 1) m = c (2 * m) := by simp [lowd]
    rw [hz] at c1
    obtain ⟨y, hy⟩ : ∃ y, y = c (2 * m) := ⟨_, rfl⟩
    rw [← hy] at c1
    have by' := HCb.out (2 * m) (by omega)
    rw [← hy] at by'
    have f1 := hl.frozen m
    have hm4 : (m : Int) < 4 := by omega
    have hm0 : (0 : Int) ≤ m := by omega
    have hmw := wrap_i (x := (m : Int)) (by omega) (by omega)
    have hm16 : (2 * (m : Int) + 1) < 16 := by omega
    have hq1 : (2 * (m : Int) + 1).tdiv 2 = m := by rw [Int.tdiv_eq_ediv_of_nonneg (by omega)]; omega
    have hr1 : (2 * (m : Int) + 1).tmod 2 = 1 := by rw [Int.tmod_eq_emod_of_nonneg (by omega)]; omega
    have hor := or_high by'.1 by'.2 bx.1 bx.2
    have hsw : IntKind.u64.wrap (x * 4294967296) = x * 4294967296 := by rw [IntKind.wrap_u64]; omega
    have HX : Hid (x = c (2 * m + 1) ∧ y = c (2 * m)) := ⟨hx, hy⟩
    clear hch ha hr hl hx he hz hy
    go_wp2_with fail
    go_region_with (fail)
    all_goals go_wp2
    all_goals
     have hn := HN.out
     go_roundw
     case rel =>
      refine ⟨2 * m + 1 + 1, by go_num, by omega, (HC.out.setCell (by dsimp only; omega) _).drew, (HA.out.other (by dsimp only; omega) _).drew, (HR.out.other (by dsimp only; omega) _).drew, ?_⟩
      have h := HL.out.set m (.int .u64 (y + x * 4294967296))
      rw [arr_set] at h
      have e : arr .u64 4 (upd (lowd c (2 * m + 1)) m (y + x * 4294967296)) = arr .u64 4 (lowd c (2 * m + 1 + 1)) := arr_congr fun j _ => by
       by_cases hj : j = m
       ·subst hj
        rw [upd_same, HX.out.1, HX.out.2]
        have n1 : 2 * j < 2 * j + 1 + 1 := by omega
        simp [lowd, n1]
       ·rw [upd_ne _ _ hj]
        have e1 : (2 * j < 2 * m + 1) ↔ (2 * j < 2 * m + 1 + 1) := by omega
        have e2 : (2 * j + 1 < 2 * m + 1) ↔ (2 * j + 1 < 2 * m + 1 + 1) := by omega
        simp only [lowd, e1, e2]
      rw [e] at h
      exact h
     case measure => simp [intOf]; omega
  ·have hi8' : i = 8 := by omega
   subst hi8'
   obtain ⟨a0, a1, a2, a3⟩ := hl.four
   obtain ⟨b0, b1, b2, b3⟩ := hr.four
   obtain ⟨f0, f1, f2, f3⟩ := hr.free4
   clear hch ha hr hl
   go_wp2
   refine bp_c (n := 4) (c := arr .u64 4 (lowd c 8)) Try.results102 rfl rfl ?_ Ytbdgmkejmfjobaa.u25 i25 (arr_size _ _ _) ⟨rfl, ?_⟩
   ·exact (((HR.out.set 0 _).set 1 _).set 2 _).set 3 _
   ·exact (((HC.out.setCell (by dsimp only; omega) _).setCell (by dsimp only; omega) _).setCell (by dsimp only; omega) _).setCell (by dsimp only; omega) _
theorem low_num (b : Nat) (c : Nat → Int) (w : World) (ha : Ar w b (arr .i64 16 c)) (hc : ∀ j, j < 8 → 0 ≤ c j ∧ c j < 4294967296) :
  Calls Try.prog 102 #[.pointer (some ⟨b, 0, none⟩)] w fun r w' => r = .returned (.agg (num (val B32 8 c))) ∧ Chg w w' := by
 refine (low_any b c w ha hc).mono ?_
 rintro r w' ⟨rfl, hch⟩
 have h0 := hc 0 (by omega)
 have h1 := hc 1 (by omega)
 have h2 := hc 2 (by omega)
 have h3 := hc 3 (by omega)
 have h4 := hc 4 (by omega)
 have h5 := hc 5 (by omega)
 have h6 := hc 6 (by omega)
 have h7 := hc 7 (by omega)
 have e : val B32 8 c = val B64 4 (lowd c 8) := by
  simp [val, lowd, B32, B64]
  omega
 have hw : ∀ i, i < 4 → 0 ≤ lowd c 8 i ∧ lowd c 8 i < B64 := by
  intro i hi
  have : i = 0 ∨ i = 1 ∨ i = 2 ∨ i = 3 := by omega
  rcases this with rfl | rfl | rfl | rfl <;> simp [lowd, B64] <;> omega
 have hb := val_bound B64_pos hw
 rw [p4] at hb
 refine ⟨?_, hch⟩
 rw [e]
 congr 2
 exact arr_congr (val_inj B64_pos hw (fun i _ => dg_w _ i) (by rw [val4 _ hb.1 hb.2]))
end Go.Proofs.Ytbdgmkejmfjobaa

namespace Go.Proofs.Ytbdgmkejmfjobaa
open Go.RowKit
set_option linter.unusedVariables false
theorem mo2 : mo 2 = 115792089210356248762697446949407573530086143415290314195533631308867097853951 := rfl
theorem fold_eq (c : Nat → Int) (q : Nat) : fold c (q + 8) = upd (upd (upd (upd (upd c (q + 8) 0) (q + 7) (c (q + 7) + c (q + 8))) (q + 6) (c (q + 6) - c (q + 8))) (q + 3) (c (q + 3) - c (q + 8))) q (c q + c (q + 8)) := by
 have e1 : q + 8 - 1 = q + 7 := by omega
 have e2 : q + 8 - 2 = q + 6 := by omega
 have e3 : q + 8 - 5 = q + 3 := by omega
 have e4 : q + 8 - 8 = q := by omega
 unfold fold
 rw [e1, e2, e3, e4]
 simp [upd]
theorem fold_val (c : Nat → Int) (q n : Nat) (h : q + 8 < n) : val B32 n (fold c (q + 8)) = val B32 n c - c (q + 8) * B32 ^ q * mo 2 := by
 rw [fold_eq]
 rw [val_upd_in _ _ (by omega), val_upd_in _ _ (by omega), val_upd_in _ _ (by omega), val_upd_in _ _ (by omega), val_upd_in _ _ (by omega)]
 rw [upd_ne _ _ (show q ≠ q + 3 by omega), upd_ne _ _ (show q ≠ q + 6 by omega), upd_ne _ _ (show q ≠ q + 7 by omega), upd_ne _ _ (show q ≠ q + 8 by omega)]
 rw [upd_ne _ _ (show q + 3 ≠ q + 6 by omega), upd_ne _ _ (show q + 3 ≠ q + 7 by omega), upd_ne _ _ (show q + 3 ≠ q + 8 by omega)]
 rw [upd_ne _ _ (show q + 6 ≠ q + 7 by omega), upd_ne _ _ (show q + 6 ≠ q + 8 by omega), upd_ne _ _ (show q + 7 ≠ q + 8 by omega)]
 rw [Int.pow_add B32 q 8, Int.pow_add B32 q 7, Int.pow_add B32 q 6, Int.pow_add B32 q 3, mo2]
 have p3 : B32 ^ 3 = 79228162514264337593543950336 := by decide
 have p6 : B32 ^ 6 = 6277101735386680763835789423207666416102355444464034512896 := by decide
 have p7 : B32 ^ 7 = 26959946667150639794667015087019630673637144422540572481103610249216 := by decide
 have p8 : B32 ^ 8 = 115792089237316195423570985008687907853269984665640564039457584007913129639936 := by decide
 rw [p3, p6, p7, p8]
 generalize B32 ^ q = P
 grind
theorem fold_high (c : Nat → Int) (q j : Nat) (hj : q + 8 < j) : fold c (q + 8) j = c j := by
 rw [fold_eq, upd_ne _ _ (by omega), upd_ne _ _ (by omega), upd_ne _ _ (by omega), upd_ne _ _ (by omega), upd_ne _ _ (by omega)]
theorem fold_zero (c : Nat → Int) (q : Nat) : fold c (q + 8) (q + 8) = 0 := by
 rw [fold_eq, upd_ne _ _ (by omega), upd_ne _ _ (by omega), upd_ne _ _ (by omega), upd_ne _ _ (by omega), upd_same]
theorem fold_bound {m : Int} {c : Nat → Int} (h : Cb m c) (q : Nat) : Cb (2 * m) (fold c (q + 8)) := by
 have hv := h (q + 8)
 intro j
 rw [fold_eq]
 unfold upd
 have h0 := h j
 have h1 := h q
 have h2 := h (q + 3)
 have h3 := h (q + 6)
 have h4 := h (q + 7)
 repeat' split
 all_goals omega
end Go.Proofs.Ytbdgmkejmfjobaa

namespace Go.Proofs.Ytbdgmkejmfjobaa
open Go.RowKit
set_option linter.unusedVariables false
theorem B32_pos : (0 : Int) < B32 := by decide
theorem dg_even (x : Int) (m : Nat) : dg B32 x (2 * m) = dg B64 x m % 4294967296 := by
 unfold dg
 have e : B32 ^ (2 * m) = B64 ^ m := by rw [Int.pow_mul]; rfl
 rw [e]
 generalize x / B64 ^ m = y
 unfold B32 B64
 omega
theorem dg_odd (x : Int) (m : Nat) : dg B32 x (2 * m + 1) = dg B64 x m / 4294967296 := by
 unfold dg
 have e : B32 ^ (2 * m + 1) = B64 ^ m * B32 := by rw [Int.pow_succ, Int.pow_mul]; rfl
 have hp := pow_pos' B64_pos m
 rw [e, ← Int.ediv_ediv_of_nonneg (Int.le_of_lt hp)]
 generalize x / B64 ^ m = y
 unfold B32 B64
 omega
theorem mask32 {d : Int} (h : W64 d) : bits .and .u64 d 4294967295 = d % 4294967296 := by
 obtain ⟨n, rfl⟩ := Int.eq_ofNat_of_zero_le h.1
 have := h.2
 rw [Mul64.maskN n (by omega)]
 omega
def colr (x : Int) (i : Nat) : Nat → Int := fun j => if j < i then dg B32 x j else 0
theorem colr_step (x : Int) (i : Nat) {e : Int} (h : e = dg B32 x i) : arr .i64 16 (upd (colr x i) i e) = arr .i64 16 (colr x (i + 1)) := arr_congr fun j _ => by
 by_cases hj : j = i
 ·subst hj
  rw [upd_same, h]
  simp [colr]
 ·rw [upd_ne _ _ hj]
  have e1 : (j < i) ↔ (j < i + 1) := by omega
  simp only [colr, e1]
theorem val_zeros {B : Int} (n m : Nat) (d : Nat → Int) (h : ∀ j, n ≤ j → d j = 0) : val B (n + m) d = val B n d := by
 rw [val_split]
 have : val B m (fun i => d (n + i)) = val B m (fun _ => 0) := val_congr fun i _ => h _ (by omega)
 rw [this, val_zero]
 omega
theorem colr_val (x : Int) (hx : N512 x) : val B32 16 (colr x 16) = x := by
 have e : val B32 16 (colr x 16) = val B32 16 (dg B32 x) := val_congr fun i hi => by simp [colr, hi]
 rw [e, val_dg B32_pos]
 have p : B32 ^ 16 = R512 := by decide +kernel
 rw [p]
 exact Int.emod_eq_of_lt hx.1 hx.2
theorem colr_bound (x : Int) : Cb 4294967296 (colr x 16) := by
 intro i
 unfold colr
 split
 ·have h : 0 ≤ dg B32 x i ∧ dg B32 x i < 4294967296 := dg_bound B32_pos x i
  omega
 ·omega
def Far (m : Nat) (s : Nat → Int) : Prop :=
 (m = 2 ∧ -1024 ≤ s 8 ∧ s 8 ≤ 1024) ∨ (m = 1 ∧ (s 8 = 0 ∨ (s 8 = 1 ∧ val B32 8 s < 1766847064778384329583297500742918515827483896875618958121606201292619776) ∨ (s 8 = -1 ∧ 115790322390251417039241401711187164934754157181743688420499462401711837020160 ≤ val B32 8 s))) ∨ (m = 0 ∧ s 8 = 0)
theorem val9 (s : Nat → Int) : val B32 9 s = val B32 8 s + s 8 * 115792089237316195423570985008687907853269984665640564039457584007913129639936 := by
 rw [val1]
 have : B32 ^ 8 = 115792089237316195423570985008687907853269984665640564039457584007913129639936 := by decide
 rw [this]
theorem val8b {s : Nat → Int} (h : ∀ j, j < 8 → 0 ≤ s j ∧ s j < 4294967296) : 0 ≤ val B32 8 s ∧ val B32 8 s < 115792089237316195423570985008687907853269984665640564039457584007913129639936 := by
 have := val_bound B32_pos (d := s) (n := 8) (fun i hi => h i hi)
 have e : B32 ^ 8 = 115792089237316195423570985008687907853269984665640564039457584007913129639936 := by decide
 rw [e] at this
 exact this
theorem far_start {c s : Nat → Int} (hc : Cb 1099511627776 c) (hc8 : c 8 = 0) (hs : Settled c s 8) : Far 2 s := by
 refine .inl ⟨rfl, ?_⟩
 have hv := hs.value
 have b := val8b hs.low
 rw [val9, val9, hc8] at hv
 have e : val B32 8 c = c 0 + c 1 * 4294967296 + c 2 * 18446744073709551616 + c 3 * 79228162514264337593543950336 + c 4 * 340282366920938463463374607431768211456 + c 5 * 1461501637330902918203684832716283019655932542976 + c 6 * 6277101735386680763835789423207666416102355444464034512896 + c 7 * 26959946667150639794667015087019630673637144422540572481103610249216 := by
  simp [val, B32]
 have h0 := hc 0
 have h1 := hc 1
 have h2 := hc 2
 have h3 := hc 3
 have h4 := hc 4
 have h5 := hc 5
 have h6 := hc 6
 have h7 := hc 7
 rw [e] at hv
 omega
theorem far_next {m : Nat} {s s' : Nat → Int} (hf : Far m s) (h8 : s 8 ≠ 0) (hl : ∀ j, j < 8 → 0 ≤ s j ∧ s j < 4294967296) (hs : Settled (fold s 8) s' 8) : ∃ m', m' < m ∧ Far m' s' := by
 have hv := hs.value
 have b := val8b hl
 have b' := val8b hs.low
 rw [show (8 : Nat) = 0 + 8 from rfl, fold_val s 0 9 (by omega), val9, val9, Int.pow_zero, mo2] at hv
 simp only [Nat.zero_add, Int.mul_one] at hv
 rcases hf with ⟨rfl, h1, h2⟩ | ⟨rfl, h1⟩ | ⟨rfl, h1⟩
 ·refine ⟨1, by omega, .inr (.inl ⟨rfl, ?_⟩)⟩
  omega
 ·refine ⟨0, by omega, .inr (.inr ⟨rfl, ?_⟩)⟩
  omega
 ·exact absurd h1 h8
end Go.Proofs.Ytbdgmkejmfjobaa
