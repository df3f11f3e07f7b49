/-
  What 2^256 leaves, and what comes of a digit that stands above it.
  What digits leave, by folding: the document's left, of the first three fields.
  Numbers of seventeen digits compared, and halved.
  Plain facts for the slow way: digits shifted, doubled, taken away.
  What digits leave, the slow way: the document's left of the order of Ed25519.
-/
import Derived.Test.YtbdgmkejmfjobaaJg
import Derived.Deep.LoopGhost
import Derived.Deep.MidRow
namespace Go.Proofs.Ytbdgmkejmfjobaa
set_option maxRecDepth 100000
open Go.RowKit
set_option linter.unusedVariables false
def cc (f : Int) : Int := if f = 1 then 38 else if f = 2 then R256 - mo 2 else R256 - mo 3
def cm (f : Int) : Nat := if f = 1 then 1 else 7
theorem cc_mod {f : Int} (hf : f = 1 ∨ f = 2 ∨ f = 3) : (R256 - cc f) % mo f = 0 ∧ 0 < cc f ∧ cc f < B32 ^ cm f := by
 rcases hf with rfl | rfl | rfl <;> refine ⟨by decide +kernel, by decide +kernel, by decide +kernel⟩
theorem cc_lt {f : Int} (hf : f = 1 ∨ f = 2 ∨ f = 3) : cc f < B32 ^ 7 := by
 rcases hf with rfl | rfl | rfl <;> decide +kernel
theorem cm_le (f : Int) : 1 ≤ cm f ∧ cm f ≤ 7 := by unfold cm; split <;> decide
theorem ab0 : (arr .u64 8 zD) = #[.int .u64 0, .int .u64 0, .int .u64 0, .int .u64 0, .int .u64 0, .int .u64 0, .int .u64 0, .int .u64 0] := by kernel_rfl
theorem ab1 : (arr .u64 8 (dg B32 (cc 1))) = #[.int .u64 38, .int .u64 0, .int .u64 0, .int .u64 0, .int .u64 0, .int .u64 0, .int .u64 0, .int .u64 0] := by kernel_rfl
theorem ab2 : (arr .u64 8 (dg B32 (cc 2))) = #[.int .u64 1, .int .u64 0, .int .u64 0, .int .u64 4294967295, .int .u64 4294967295, .int .u64 4294967295, .int .u64 4294967294, .int .u64 0] := by kernel_rfl
theorem ab3 : (arr .u64 8 (dg B32 (cc 3))) = #[.int .u64 60611247, .int .u64 205927741, .int .u64 1491624315, .int .u64 1125713234, .int .u64 0, .int .u64 0, .int .u64 4294967295, .int .u64 0] := by kernel_rfl
theorem un54 : Try.prog.underlying 76 = some (.array 8 22) := by kernel_rfl
theorem zero54 : (∀ w, (zeroValue 76).run Try.prog w = .ok (.agg (arr .u64 8 zD)) w) ∧ (Try.prog.info? 76).map (·.size) = some 8 := zero_of_info (by kernel_rfl)
set_option maxHeartbeats 8000000 in
theorem above_any (f : Int) (hf : f = 1 ∨ f = 2 ∨ f = 3) (w : World) : Calls Try.prog 64 #[.int .i64 f] w fun r w' => r = .returned (.tuple #[.agg (arr .u64 8 (dg B32 (cc f))), .int .i64 (cm f : Int)]) ∧ Chg w w' := by
 rcases hf with rfl | rfl | rfl
 ·rw [ab1, show cm 1 = 1 from rfl]
  go_enter Try.func64, Try.ntmps64
  go_wp2
  exact bp_ct (n := 8) Try.results64 rfl rfl rfl (Ar.new w _ 76) un54 zero54.2 rfl ⟨rfl, (Chg.refl w).alloc _⟩
 ·rw [ab2, show cm 2 = 7 from rfl]
  go_enter Try.func64, Try.ntmps64
  go_wp2
  exact bp_ct (n := 8) Try.results64 rfl rfl rfl (Ar.new w _ 76) un54 zero54.2 rfl ⟨rfl, (Chg.refl w).alloc _⟩
 ·rw [ab3, show cm 3 = 7 from rfl]
  go_enter Try.func64, Try.ntmps64
  go_wp2
  exact bp_ct (n := 8) Try.results64 rfl rfl rfl (Ar.new w _ 76) un54 zero54.2 rfl ⟨rfl, (Chg.refl w).alloc _⟩
theorem val_cut {B : Int} {n i : Nat} {d : Nat → Int} (hi : i ≤ n) (h0 : ∀ j, i ≤ j → j < n → d j = 0) : val B n d = val B i d := by
 induction n with
 | zero =>
  have : i = 0 := by omega
  subst this
  rfl
 | succ n ih =>
  by_cases h : i = n + 1
  ·rw [h]
  ·rw [val1, h0 n (by omega) (by omega), Int.zero_mul, Int.add_zero]
   exact ih (by omega) fun j h1 h2 => h0 j h1 (by omega)
theorem val_top {e : Nat → Int} (he : D32 e) {i : Nat} (hi : i ≤ 17) (h0 : ∀ j, i ≤ j → j < 17 → e j = 0) : 0 ≤ val B32 17 e ∧ val B32 17 e < B32 ^ i := by
 rw [val_cut hi h0]
 exact val_bound B32_pos fun j _ => he j
theorem pw8 (q : Nat) : B32 ^ (q + 8) = R256 * B32 ^ q := by
 rw [Int.pow_add, show B32 ^ 8 = R256 by decide, Int.mul_comm]
theorem fold_mod {f V V' D : Int} {q : Nat} (hf : f = 1 ∨ f = 2 ∨ f = 3) (h : V' = V - D * B32 ^ (q + 8) + D * cc f * B32 ^ q) : V' % mo f = V % mo f := by
 have e : V' = V - (R256 - cc f) * (D * B32 ^ q) := by
  rw [h, pw8, Int.sub_mul]
  generalize B32 ^ q = Q
  generalize R256 = R
  generalize cc f = c
  grind
 obtain ⟨m, hm⟩ : ∃ m, R256 - cc f = mo f * m := by
  obtain ⟨m, hm⟩ := Int.dvd_of_emod_eq_zero (cc_mod hf).1
  exact ⟨m, hm⟩
 rw [e, hm, Int.mul_assoc, Int.sub_mul_emod_self_left]
theorem fold_lt {f V V' D : Int} {q : Nat} (hf : f = 1 ∨ f = 2 ∨ f = 3) (hD : 0 < D) (h : V' = V - D * B32 ^ (q + 8) + D * cc f * B32 ^ q) : V' < V := by
 have hc : cc f < R256 := Int.lt_trans (cc_lt hf) (by decide)
 have hp := pow_pos' B32_pos q
 have h1 : D * cc f * B32 ^ q < D * B32 ^ (q + 8) := by
  rw [pw8, Int.mul_assoc]
  exact Int.mul_lt_mul_of_pos_left (Int.mul_lt_mul_of_pos_right hc hp) hD
 omega
theorem carry_end {f D c : Int} {q : Nat} {e e0 : Nat → Int} (hf : f = 1 ∨ f = 2 ∨ f = 3) (hD : 0 ≤ D ∧ D < 4294967296) (hc : 0 ≤ c) (he : D32 e) (he0 : D32 e0) (hq : q ≤ 8) (h0 : ∀ j, q + 8 ≤ j → j < 17 → e0 j = 0)
  (h : val B32 17 e + c * B32 ^ (q + 9) = val B32 17 e0 + D * cc f * B32 ^ q) : c = 0 := by
 have h1 := (val_top he0 (i := q + 8) (by omega) h0).2
 have h2 := (v17_b he).1
 have hp := pow_pos' B32_pos q
 have hcc := cc_lt hf
 have hc0 := (cc_mod hf).2.1
 have h3 : D * cc f * B32 ^ q ≤ B32 ^ (q + 8) := by
  rw [pw8, show R256 = 4294967296 * B32 ^ 7 by decide]
  refine Int.mul_le_mul_of_nonneg_right ?_ (Int.le_of_lt hp)
  exact Int.mul_le_mul (by omega) (by omega) (by omega) (by decide)
 have h4 : B32 ^ (q + 9) = B32 ^ (q + 8) * 4294967296 := by rw [show q + 9 = q + 8 + 1 from rfl, Int.pow_succ]
 have hpp := pow_pos' B32_pos (q + 8)
 by_cases h5 : c = 0
 ·exact h5
 ·exfalso
  have h6 : 1 * B32 ^ (q + 9) ≤ c * B32 ^ (q + 9) := Int.mul_le_mul_of_nonneg_right (by omega) (Int.le_of_lt (pow_pos' B32_pos _))
  omega
theorem cc_val {f : Int} (hf : f = 1 ∨ f = 2 ∨ f = 3) {k : Nat} (hk : cm f ≤ k) : val B32 k (dg B32 (cc f)) = cc f := by
 have h1 : cc f < B32 ^ k := by
  obtain ⟨j, rfl⟩ : ∃ j, k = cm f + j := ⟨k - cm f, by omega⟩
  have h2 := (cc_mod hf).2.2
  have h3 : (1 : Int) ≤ B32 ^ j := Int.pow_pos B32_pos
  have h4 : B32 ^ cm f * 1 ≤ B32 ^ cm f * B32 ^ j := Int.mul_le_mul_of_nonneg_left h3 (Int.le_of_lt (pow_pos' B32_pos _))
  rw [Int.pow_add]
  omega
 rw [val_dg B32_pos, Int.emod_eq_of_lt (Int.le_of_lt (cc_mod hf).2.1) h1]
theorem cc_none {f : Int} (hf : f = 1 ∨ f = 2 ∨ f = 3) {k : Nat} (hk : cm f ≤ k) : dg B32 (cc f) k = 0 := by
 have h1 := cc_val hf hk
 have h2 := cc_val hf (Nat.le_succ_of_le hk)
 rw [val1, h1] at h2
 have hp := pow_pos' B32_pos k
 have h3 : dg B32 (cc f) k * B32 ^ k = 0 := by omega
 rcases Int.mul_eq_zero.1 h3 with h | h
 ·exact h
 ·omega
end Go.Proofs.Ytbdgmkejmfjobaa

namespace Go.Proofs.Ytbdgmkejmfjobaa
set_option maxRecDepth 100000
open Go.RowKit
set_option linter.unusedVariables false
structure LS (w wr : World) (b5 b6 : Nat) (f : Int) (e : Nat → Int) : Prop where
 chg : Chg w wr
 o : Ar wr w.heap.size (arr .u64 17 e)
 res : Ar wr (w.heap.size + 1) (num 0)
 m : Ar wr b5 (num (mo f))
 c : Ar wr b6 (arr .u64 8 (dg B32 (cc f)))
theorem LS.set {w wr : World} {b5 b6 : Nat} {f : Int} {e : Nat → Int} (h : LS w wr b5 b6 f e) (h5 : w.heap.size + 1 < b5) (h6 : b5 < b6) (i : Nat) (v : Int) : LS w (wr.setCell ⟨w.heap.size, i, none⟩ (.int .u64 v)) b5 b6 f (upd e i v) :=
 ⟨h.chg.setCell (by dsimp only; omega) _, by have := h.o.set i (.int .u64 v); rwa [arr_set] at this, h.res.other (by dsimp only; omega) _, h.m.other (by dsimp only; omega) _, h.c.other (by dsimp only; omega) _⟩
structure LV (f x : Int) (z : Int) (e : Nat → Int) : Prop where
 d : D32 e
 top : ∀ j : Nat, z < j → j < 17 → e j = 0
 v : val B32 17 e % mo f = x % mo f
set_option maxHeartbeats 32000000 in
theorem leftF_any (f x : Int) (hf : f = 1 ∨ f = 2 ∨ f = 3) (hx : 0 ≤ x ∧ x < R544) (w : World) : Calls Try.prog 44 #[.int .i64 f, .agg (wdr x)] w fun r w' => r = .returned (.agg (num (x % mo f))) ∧ Chg w w' := by
 have HF : Hid ((f = 1 ∨ f = 2 ∨ f = 3) ∧ 0 ≤ x ∧ x < R544) := ⟨hf, hx⟩
 have h4 : (f == 4) = false := by rcases hf with rfl | rfl | rfl <;> rfl
 obtain ⟨ANS, hANS⟩ : ∃ A, A = num (x % mo f) := ⟨_, rfl⟩
 have HANS : Hid (ANS = num (x % mo f)) := hANS
 rw [← hANS]
 have hsA := wdr_size x
 obtain ⟨A, hA⟩ : ∃ A, A = wdr x := ⟨_, rfl⟩
 obtain ⟨M, hM⟩ : ∃ M, M = num (mo f) := ⟨_, rfl⟩
 obtain ⟨CA, hCA⟩ : ∃ C, C = arr .u64 8 (dg B32 (cc f)) := ⟨_, rfl⟩
 obtain ⟨mny, hmny⟩ : ∃ m : Nat, m = cm f := ⟨_, rfl⟩
 obtain ⟨Z0, hZ0⟩ : ∃ Z, Z = num 0 := ⟨_, rfl⟩
 obtain ⟨Z8, hZ8⟩ : ∃ Z, Z = arr .u64 8 zD := ⟨_, rfl⟩
 have HMo : Hid (∀ u, Calls Try.prog 20 #[.int .i64 f] u fun r w' => r = .returned (.agg M) ∧ Chg u w') := fun u => by rw [hM]; exact modulusR_any f u
 have HAb : Hid (∀ u, Calls Try.prog 64 #[.int .i64 f] u fun r w' => r = .returned (.tuple #[.agg CA, .int .i64 (mny : Int)]) ∧ Chg u w') := fun u => by rw [hCA, hmny]; exact above_any f hf u
 have HN : Hid (A = wdr x ∧ M = num (mo f) ∧ CA = arr .u64 8 (dg B32 (cc f)) ∧ mny = cm f ∧ Z0 = num 0 ∧ Z8 = arr .u64 8 zD) := ⟨hA, hM, hCA, hmny, hZ0, hZ8⟩
 have hz := zero25.1
 have hz8 := zero54.1
 have sM := szN (mo f)
 have lM := lenN 0 (mo f)
 have oM := num_one (mo f)
 have sC : (Try.prog.info? 76).map (·.size) = some (arr .u64 8 (dg B32 (cc f))).size := by rw [arr_size]; exact zero54.2
 have lC : (arr .u64 8 zD).size = (arr .u64 8 (dg B32 (cc f))).size := by rw [arr_size, arr_size]
 have oC : (arr .u64 8 (dg B32 (cc f))).all (·.oneCell') = true := arr_one _ _ _
 rw [← hA] at hsA ⊢
 rw [← hM] at sM lM oM
 rw [← hCA] at sC lC oC
 rw [← hZ0] at hz lM
 rw [← hZ8] at hz8 lC
 have bm := cm_le f
 rw [← hmny] at bm
 clear hANS hA hM hCA hmny hZ0 hZ8 hf hx
 go_enter Try.func44, Try.ntmps44
 go_wp2_with fail
 obtain ⟨w2, hw2⟩ : ∃ w2, w2 = (w.alloc (.cells A 66)).alloc (.cells Z0 24) := ⟨_, rfl⟩
 have Z2 : Hid (Chg w w2 ∧ Ar w2 w.heap.size A ∧ Ar w2 (w.heap.size + 1) Z0) := by
  rw [hw2]
  exact ⟨((Chg.refl w).alloc _).alloc _, (Ar.new w _ _).alloc _, Ar.new1 w _ _ _⟩
 rw [← hw2]
 clear hw2 hsA
 go_at_call 20
 refine (HMo.out _).mono ?_
 rintro r w3 ⟨rfl, hc3⟩
 have Z3 : Hid (Chg w w3 ∧ Ar w3 w.heap.size A ∧ Ar w3 (w.heap.size + 1) Z0) := ⟨Z2.out.1.trans hc3, Z2.out.2.1.chg hc3, Z2.out.2.2.chg hc3⟩
 clear hc3 Z2
 go_upto_region 2 with (first | refine wpList_store_row rfl 24 _ _ rfl _ _ rfl rfl _ _ (heap_alloc_last w3 _) sM lM oM ?_)
 obtain ⟨b5, hb5⟩ : ∃ b, b = w3.heap.size := ⟨_, rfl⟩
 obtain ⟨w4, hw4⟩ : ∃ w4, w4 = (w3.alloc (.cells Z0 24)).setRow w3.heap.size M := ⟨_, rfl⟩
 have Z4 : Hid (Chg w w4 ∧ Ar w4 w.heap.size A ∧ Ar w4 (w.heap.size + 1) Z0 ∧ Ar w4 b5 M ∧ w.heap.size + 1 < b5) := by
  have hl := Z3.out.2.2.lt
  have h1 := Z3.out.1.size
  rw [hw4, hb5]
  exact ⟨(Z3.out.1.alloc _).setRow h1 _, (Z3.out.2.1.alloc _).rowOther (by omega) _, (Z3.out.2.2.alloc _).rowOther (by omega) _, (Ar.new w3 _ _).row _, by omega⟩
 rw [← hw4, ← hb5]
 clear hw4 hb5 Z3
 go_wp2_with fail
 go_at_call 64
 refine (HAb.out _).mono ?_
 rintro r w5 ⟨rfl, hc5⟩
 have Z5 : Hid (Chg w w5 ∧ Ar w5 w.heap.size A ∧ Ar w5 (w.heap.size + 1) Z0 ∧ Ar w5 b5 M ∧ w.heap.size + 1 < b5) := ⟨Z4.out.1.trans hc5, Z4.out.2.1.chg hc5, Z4.out.2.2.1.chg hc5, Z4.out.2.2.2.1.chg hc5, Z4.out.2.2.2.2⟩
 clear hc5 Z4
 go_upto_region 5 with (first | refine wpList_store_row rfl 76 _ _ rfl _ _ rfl rfl _ _ (heap_alloc_last w5 _) sC lC oC ?_)
 obtain ⟨b6, hb6⟩ : ∃ b, b = w5.heap.size := ⟨_, rfl⟩
 obtain ⟨w6, hw6⟩ : ∃ w6, w6 = (w5.alloc (.cells Z8 76)).setRow w5.heap.size CA := ⟨_, rfl⟩
 have Z6 : Hid (LS w w6 b5 b6 f (dg B32 x) ∧ w.heap.size + 1 < b5 ∧ b5 < b6) := by
  have hl := Z5.out.2.2.2.1.lt
  have h1 := Z5.out.1.size
  have h2 := Z5.out.2.2.2.2
  rw [hw6, hb6]
  refine ⟨⟨(Z5.out.1.alloc _).setRow h1 _, ?_, ?_, ?_, ?_⟩, by omega, by omega⟩
  ·have := (Z5.out.2.1.alloc (.cells Z8 76)).rowOther (b' := w5.heap.size) (by omega) CA
   rw [HN.out.1] at this
   exact this
  ·have := (Z5.out.2.2.1.alloc (.cells Z8 76)).rowOther (b' := w5.heap.size) (by omega) CA
   rw [HN.out.2.2.2.2.1] at this
   exact this
  ·have := (Z5.out.2.2.2.1.alloc (.cells Z8 76)).rowOther (b' := w5.heap.size) (by omega) CA
   rw [HN.out.2.1] at this
   exact this
  ·have := (Ar.new w5 Z8 76).row CA
   have e := HN.out.2.2.1
   rw [e] at this ⊢
   exact this
 rw [← hw6, ← hb6]
 clear hw6 hb6 Z5 sC lC oC hz8 HMo HAb
 have HB : Hid (w.heap.size + 1 < b5 ∧ b5 < b6) := Z6.out.2
 go_wp2_with fail
 go_loopw [8] (fun v wr => ∃ (z : Int) (e : Nat → Int), v = .int .i64 z ∧ 7 ≤ z ∧ z ≤ 16 ∧ LS w wr b5 b6 f e ∧ LV f x z e) (fun v wr => (intOf v).toNat)
 case atStart =>
  refine ⟨16, dg B32 x, rfl, by decide, by decide, Z6.out.1, ⟨D32.dg x, fun j h1 h2 => by omega, ?_⟩⟩
  rw [val17 x HF.out.2.1 HF.out.2.2]
 case round =>
  clear Z6
  obtain ⟨z, e, rfl, hz7, hz16, hls, hlv⟩ := hrel
  have H : Hid (LS w wr b5 b6 f e ∧ LV f x z e) := ⟨hls, hlv⟩
  clear hls hlv
  by_cases hz8 : 8 ≤ z
  ·obtain ⟨i, rfl⟩ : ∃ i : Nat, z = i := ⟨z.toNat, by omega⟩
   have hdz : decide ((8 : Int) ≤ (i : Int)) = true := by simp; omega
   have li : (i : Int) < 17 := by omega
   obtain ⟨q, hq⟩ : ∃ q : Nat, (i : Int) - 8 = q := ⟨i - 8, by omega⟩
   have wq := wrap_i (x := (q : Int)) (by omega) (by omega)
   have HQ : Hid (i = q + 8 ∧ q ≤ 8) := ⟨by omega, by omega⟩
   go_wp2_with fail
   go_loopg [] ((val B32 17 e).toNat) (fun m wr => ∃ e : Nat → Int, LS w wr b5 b6 f e ∧ LV f x i e ∧ m = (val B32 17 e).toNat)
   case atStart => exact ⟨e, H.out.1, H.out.2, rfl⟩
   case round =>
    clear H
    obtain ⟨e, hls, hlv, hm⟩ := hrel
    have c1 := (hls.o.cell i).trans (arr_get .u64 17 _ (by omega))
    have f1 := hls.o.frozen i
    obtain ⟨D, hD⟩ : ∃ D, D = e i := ⟨_, rfl⟩
    have bD := hlv.d i
    rw [← hD] at c1 bD
    by_cases hD0 : D = 0
    ·have hne : (D != 0) = false := by simp [hD0]
     have H : Hid (LS w wr b5 b6 f e ∧ LV f x ((i : Int) - 1) e) := ⟨hls, hlv.d, fun j h1 h2 => by
      by_cases hj : j = i
      ·rw [hj, ← hD, hD0]
      ·exact hlv.top j (by omega) h2, hlv.v⟩
     obtain ⟨z', hz'⟩ : ∃ z' : Int, (i : Int) - 1 = z' := ⟨_, rfl⟩
     have wz := wrap_i (x := z') (by omega) (by omega)
     have HZ : Hid (z' = (i : Int) - 1) := hz'.symm
     clear hls hlv hD bD hD0 hm
     go_wp2_with fail
     go_roundw
     case rel =>
      refine ⟨z', e, by first | rfl | go_num, by have := HZ.out; omega, by have := HZ.out; omega, H.out.1, ?_⟩
      rw [HZ.out]
      exact H.out.2
     case measure => simp [intOf]; have := HZ.out; omega
    ·have hne : (D != 0) = true := by simp [hD0]
     have H : Hid (LS w wr b5 b6 f e ∧ LV f x i e) := ⟨hls, hlv⟩
     have HD : Hid (D = e i ∧ 0 < D ∧ D < 4294967296) := ⟨hD, by omega, bD.2⟩
     clear hls hlv hD0 hD bD
     go_wp2_with fail
     obtain ⟨w8, hw8⟩ : ∃ w8, w8 = wr.setCell ⟨w.heap.size, i, none⟩ (.int .u64 0) := ⟨_, rfl⟩
     obtain ⟨e0, he0⟩ : ∃ e0, e0 = upd e i 0 := ⟨_, rfl⟩
     have Z8 : Hid (LS w w8 b5 b6 f e0 ∧ D32 e0 ∧ (∀ j, i ≤ j → j < 17 → e0 j = 0) ∧ val B32 17 e0 = val B32 17 e - D * B32 ^ i) := by
      rw [hw8, he0]
      refine ⟨H.out.1.set HB.out.1 HB.out.2 i 0, H.out.2.d.upd i (by decide), fun j h1 h2 => ?_, ?_⟩
      ·by_cases hj : j = i
       ·rw [hj, upd_same]
       ·rw [upd_ne _ _ hj]
        exact H.out.2.top j (by omega) h2
      ·rw [val_upd_in _ _ (by omega), ← HD.out.1]
       generalize B32 ^ i = Q
       rw [Int.sub_mul, Int.zero_mul]
       omega
     rw [← hw8]
     clear hw8 he0 c1 f1
     go_loopw [10, 11] (fun v v11 wr => ∃ (k : Nat) (c : Int) (e1 : Nat → Int), v11 = .int .i64 k ∧ v = .int .u64 c ∧ k ≤ 9 ∧ (0 ≤ c ∧ c < 4294967296) ∧ LS w wr b5 b6 f e1 ∧ D32 e1 ∧ (∀ j, i < j → j < 17 → e1 j = 0) ∧ val B32 17 e1 + c * B32 ^ (q + k) = val B32 17 e0 + D * val B32 k (dg B32 (cc f)) * B32 ^ q) (fun v v11 wr => 9 - (intOf v11).toNat)
     case atStart =>
      refine ⟨0, 0, e0, rfl, rfl, by omega, by decide, Z8.out.1, Z8.out.2.1, fun j h1 h2 => Z8.out.2.2.1 j (by omega) h2, ?_⟩
      show val B32 17 e0 + 0 * _ = val B32 17 e0 + D * 0 * _
      rw [Int.zero_mul, Int.mul_zero, Int.zero_mul]
     case round =>
      obtain ⟨k, c, e1, rfl, rfl, hk, hcb, hls, he1, ht1, hv⟩ := hrel
      have H2 : Hid (LS w wr b5 b6 f e1 ∧ D32 e1 ∧ (∀ j, i < j → j < 17 → e1 j = 0) ∧ val B32 17 e1 + c * B32 ^ (q + k) = val B32 17 e0 + D * val B32 k (dg B32 (cc f)) * B32 ^ q) := ⟨hls, he1, ht1, hv⟩
      have hend : cm f ≤ k → k = 9 → c = 0 := fun h1 h9 => by
       subst h9
       rw [cc_val HF.out.1 h1] at hv
       exact carry_end HF.out.1 ⟨by have := HD.out.2.1; omega, HD.out.2.2⟩ hcb.1 he1 Z8.out.2.1 HQ.out.2 (fun j h1 h2 => Z8.out.2.2.1 j (by have := HQ.out.1; omega) h2) hv
      by_cases hgo : k < mny ∨ 0 < c
      ·have hk8 : k ≤ 8 := by
        by_cases h9 : k = 9
        ·exfalso
         have h1 := HN.out.2.2.2.1
         have h2 := cm_le f
         have := hend (by omega) h9
         omega
        ·omega
       obtain ⟨p, hp⟩ : ∃ p : Nat, (q : Int) + k = p := ⟨q + k, by omega⟩
       have wp := wrap_i (x := (p : Int)) (by omega) (by omega)
       have HP : Hid (p = q + k ∧ p ≤ i ∧ k ≤ 8 ∧ q + k < 17) := ⟨by omega, by omega, by omega, by omega⟩
       have lp : (p : Int) < 17 := by omega
       have c1 := (hls.o.cell p).trans (arr_get .u64 17 _ (by omega))
       have f1 := hls.o.frozen p
       obtain ⟨y, hy⟩ : ∃ y, y = e1 p := ⟨_, rfl⟩
       have by' := he1 p
       rw [← hy] at c1 by'
       obtain ⟨t1, htt1⟩ : ∃ t, y + c = t := ⟨_, rfl⟩
       have wt1 : IntKind.u64.wrap t1 = t1 := by rw [IntKind.wrap_u64]; omega
       by_cases hkm : k < mny
       ·have hdk : decide ((k : Int) < (mny : Int)) = true := by simp; omega
        have hdk' : decide (k < mny) = true := by simp; omega
        have lk : (k : Int) < 8 := by omega
        have c2 := (hls.c.cell k).trans (arr_get .u64 8 _ (by omega))
        obtain ⟨C, hC⟩ : ∃ C, C = dg B32 (cc f) k := ⟨_, rfl⟩
        have bC := dg32_b (cc f) k
        rw [← hC] at c2 bC
        obtain ⟨hm0, hmb⟩ := mul_bnd (x := D) (y := C) (c := c) (d := y) ⟨by have := HD.out.2.1; omega, HD.out.2.2⟩ bC hcb by'
        obtain ⟨mm, hmm⟩ : ∃ m, D * C = m := ⟨_, rfl⟩
        rw [hmm] at hm0 hmb
        have wmm : IntKind.u64.wrap mm = mm := by rw [IntKind.wrap_u64]; omega
        obtain ⟨t, ht⟩ : ∃ t, t1 + mm = t := ⟨_, rfl⟩
        have wt : IntKind.u64.wrap t = t := by rw [IntKind.wrap_u64]; omega
        have ea := lw32 (d := t) ⟨by omega, by omega⟩
        obtain ⟨lo, hlo⟩ : ∃ lo, t % 4294967296 = lo := ⟨_, rfl⟩
        obtain ⟨ca, hca⟩ : ∃ ca, t / 4294967296 = ca := ⟨_, rfl⟩
        rw [hlo] at ea
        have HL : Hid (lo + ca * B32 = D * dg B32 (cc f) k + e1 (q + k) + c ∧ (0 ≤ lo ∧ lo < 4294967296) ∧ (0 ≤ ca ∧ ca < 4294967296)) := by
         have e3 : p = q + k := by omega
         rw [← e3, ← hC, ← hy, hmm]
         refine ⟨?_, ⟨by omega, by omega⟩, by omega, by omega⟩
         show lo + ca * 4294967296 = _
         omega
        clear hls he1 ht1 hv hend hgo hk8 hy by' hC bC hm0 hmb hlo hkm hcb
        go_wp2_with fail
        go_roundw
        case rel =>
         obtain ⟨k1, k2, k3, k4⟩ := H2.out
         have hst := (k1.set HB.out.1 HB.out.2 p lo)
         rw [HP.out.1] at hst
         refine ⟨k + 1, ca, upd e1 (q + k) lo, by go_num, rfl, by have := HP.out.2.2.1; omega, HL.out.2.2, ?_, k2.upd _ HL.out.2.1, fun j h1 h2 => ?_, ?_⟩
         ·rw [HP.out.1]
          exact hst
         ·rw [upd_ne _ _ (by have := HP.out.1; have := HP.out.2.1; omega)]
          exact k3 j h1 h2
         ·exact val_stepp HP.out.2.2.2 k4 HL.out.1
        case measure => simp [intOf]; have := HP.out.2.2.1; omega
       ·have hdk : decide ((k : Int) < (mny : Int)) = false := by simp; omega
        have hdk' : decide (k < mny) = false := by simp; omega
        have hdc : decide (0 < c) = true := by simp; omega
        have ea := lw32 (d := t1) ⟨by omega, by omega⟩
        obtain ⟨lo, hlo⟩ : ∃ lo, t1 % 4294967296 = lo := ⟨_, rfl⟩
        obtain ⟨ca, hca⟩ : ∃ ca, t1 / 4294967296 = ca := ⟨_, rfl⟩
        rw [hlo] at ea
        have HL : Hid (lo + ca * B32 = D * dg B32 (cc f) k + e1 (q + k) + c ∧ (0 ≤ lo ∧ lo < 4294967296) ∧ (0 ≤ ca ∧ ca < 4294967296)) := by
         have e3 : p = q + k := by omega
         have h1 := HN.out.2.2.2.1
         rw [← e3, cc_none HF.out.1 (by omega), ← hy, Int.mul_zero]
         refine ⟨?_, ⟨by omega, by omega⟩, by omega, by omega⟩
         show lo + ca * 4294967296 = _
         omega
        clear hls he1 ht1 hv hend hgo hk8 hy by' hlo hkm hcb
        go_wp2_with fail
        go_roundw
        case rel =>
         obtain ⟨k1, k2, k3, k4⟩ := H2.out
         have hst := (k1.set HB.out.1 HB.out.2 p lo)
         rw [HP.out.1] at hst
         refine ⟨k + 1, ca, upd e1 (q + k) lo, by go_num, rfl, by have := HP.out.2.2.1; omega, HL.out.2.2, ?_, k2.upd _ HL.out.2.1, fun j h1 h2 => ?_, ?_⟩
         ·rw [HP.out.1]
          exact hst
         ·rw [upd_ne _ _ (by have := HP.out.1; have := HP.out.2.1; omega)]
          exact k3 j h1 h2
         ·exact val_stepp HP.out.2.2.2 k4 HL.out.1
        case measure => simp [intOf]; have := HP.out.2.2.1; omega
      ·have hdk : decide ((k : Int) < (mny : Int)) = false := by simp; omega
       have hdk' : decide (k < mny) = false := by simp; omega
       have hc0 : c = 0 := by omega
       subst hc0
       have HK : Hid (val B32 17 e1 = val B32 17 e - D * B32 ^ (q + 8) + D * cc f * B32 ^ q) := by
        have h1 := HN.out.2.2.2.1
        show _ = _
        rw [cc_val HF.out.1 (by omega), Int.zero_mul, Int.add_zero, Z8.out.2.2.2, HQ.out.1] at hv
        exact hv
       clear hls he1 ht1 hv hend hgo hcb
       go_wp2_with fail
       go_roundg ((val B32 17 e1).toNat)
       case measure =>
        have h1 := fold_lt HF.out.1 HD.out.2.1 HK.out
        have h2 := (v17_b H2.out.2.1).1
        rw [hm]
        omega
       case rel =>
        refine ⟨e1, H2.out.1, ⟨H2.out.2.1, fun j h1 h2 => H2.out.2.2.1 j (by omega) h2, ?_⟩, rfl⟩
        rw [fold_mod HF.out.1 HK.out]
        exact H.out.2.v
  ·have : z = 7 := by omega
   subst this
   obtain ⟨V, hV⟩ : ∃ V, V = val B32 17 e := ⟨_, rfl⟩
   have hVb : N256 V := by
    have := val_top H.out.2.d (i := 8) (by omega) (fun j h1 h2 => H.out.2.top j (by omega) h2)
    rw [← hV, show B32 ^ 8 = R256 by decide] at this
    exact this
   have HV : Hid (N256 V ∧ V % mo f = x % mo f) := ⟨hVb, by rw [hV]; exact H.out.2.v⟩
   obtain ⟨W, hW⟩ : ∃ W, W = arr .u64 17 e := ⟨_, rfl⟩
   have HNum : Hid (∀ u, Calls Try.prog 65 #[.agg W] u fun r w' => r = .returned (.agg (num V)) ∧ Chg u w') := fun u => by
    have := number_any V hVb.1 u
    rw [Int.emod_eq_of_lt hVb.1 hVb.2] at this
    rw [hW, arr_wdr H.out.2.d, ← hV]
    exact this
   have sW := szA e
   rw [← hW] at sW
   obtain ⟨t1, g1⟩ := H.out.1.o
   rw [← hW] at g1
   have ZE : Hid (Chg w wr ∧ Ar wr (w.heap.size + 1) Z0 ∧ Ar wr b5 M) := by
    rw [HN.out.2.2.2.2.1, HN.out.2.1]
    exact ⟨H.out.1.chg, H.out.1.res, H.out.1.m⟩
   obtain ⟨VN, hVN⟩ : ∃ N, N = num V := ⟨_, rfl⟩
   have HVN : Hid (VN = num V) := hVN
   have sV := szN V
   have lV := lenN 0 V
   have oV := num_one V
   rw [← hVN] at HNum sV lV oV
   rw [← HN.out.2.2.2.2.1] at lV
   clear hV hVb hW hVN H hz8
   go_upto_region 20 with fail
   go_wp2_with (first | refine wpList_load_row rfl 66 _ rfl _ rfl _ _ _ _ g1 un49 rfl sW ?_)
   go_at_call 65
   refine (HNum.out _).mono ?_
   rintro r w7 ⟨rfl, hc7⟩
   have Z7 : Hid (Chg w w7 ∧ Ar w7 (w.heap.size + 1) Z0 ∧ Ar w7 b5 M) := ⟨ZE.out.1.trans hc7, ZE.out.2.1.chg hc7, ZE.out.2.2.chg hc7⟩
   clear hc7 g1 ZE sW HNum
   go_wp2_with (first | refine wpList_store_row rfl 24 _ _ rfl _ _ rfl rfl _ _ (heap_alloc_last w7 _) sV lV oV ?_)
   obtain ⟨b13, hb13⟩ : ∃ b, b = w7.heap.size := ⟨_, rfl⟩
   obtain ⟨w8, hw8⟩ : ∃ w8, w8 = (w7.alloc (.cells Z0 24)).setRow w7.heap.size VN := ⟨_, rfl⟩
   have Z8 : Hid ((Chg w w8 ∧ Ar w8 (w.heap.size + 1) Z0 ∧ Ar w8 b5 M ∧ Ar w8 b13 (num V)) ∧ b5 < b13) := by
    have hl := Z7.out.2.2.lt
    have h1 := Z7.out.1.size
    have h2 := HB.out.1
    rw [hw8, hb13, ← HVN.out]
    exact ⟨⟨(Z7.out.1.alloc _).setRow h1 _, (Z7.out.2.1.alloc _).rowOther (by omega) _, (Z7.out.2.2.alloc _).rowOther (by omega) _, (Ar.new w7 _ _).row _⟩, by omega⟩
   rw [← hw8, ← hb13]
   clear hw8 hb13 Z7 sV lV oV
   have HB2 : Hid (w.heap.size + 1 < b5 ∧ b5 < b13) := ⟨HB.out.1, Z8.out.2⟩
   have HMP : Hid (0 < mo f ∧ N256 (mo f)) := ⟨by rcases HF.out.1 with rfl | rfl | rfl <;> decide, mo_N f⟩
   dsimp only [Act.put]
   go_loopg [] (V.toNat) (fun m wr => ∃ y : Int, (N256 y ∧ y % mo f = x % mo f) ∧ m = y.toNat ∧ Chg w wr ∧ Ar wr (w.heap.size + 1) Z0 ∧ Ar wr b5 M ∧ Ar wr b13 (num y))
   case atStart => exact ⟨V, HV.out, rfl, Z8.out.1⟩
   case round =>
    clear Z8
    obtain ⟨y, hy, hm, h1, h2, h3, h4⟩ := hrel
    have H : Hid ((N256 y ∧ y % mo f = x % mo f) ∧ Chg w wr ∧ Ar wr (w.heap.size + 1) Z0 ∧ Ar wr b5 M ∧ Ar wr b13 (num y)) := ⟨hy, h1, h2, h3, h4⟩
    obtain ⟨Y, hY⟩ : ∃ Y, Y = num y := ⟨_, rfl⟩
    have HY : Hid (Y = num y) := hY
    have sY := szN y
    have lY := lenN 0 y
    have oY := num_one y
    rw [← hY] at sY lY oY h4
    rw [← HN.out.2.2.2.2.1] at lY
    obtain ⟨t1, g1⟩ := h3
    obtain ⟨t2, g2⟩ := h4
    have HLe : Hid (∀ u, Calls Try.prog 36 #[.agg Y, .agg M] u fun r w' => r = .returned (.bool (decide (y < mo f))) ∧ Chg u w') := fun u => by rw [hY, HN.out.2.1]; exact less_any y (mo f) hy.1 (mo_N f) u
    clear h1 h2 hY hy
    go_wp2_with (first | refine wpList_load_row rfl 24 _ rfl _ rfl _ _ _ _ g2 undNum rfl sY ?_ | refine wpList_load_row rfl 24 _ rfl _ rfl _ _ _ _ g1 undNum rfl sM ?_)
    go_at_call 36
    refine (HLe.out _).mono ?_
    rintro r w9 ⟨rfl, hc9⟩
    have Z9 : Hid (Chg w w9 ∧ Ar w9 (w.heap.size + 1) Z0 ∧ Ar w9 b5 M ∧ Ar w9 b13 Y) := by
     have := H.out.2
     rw [← HY.out] at this
     exact ⟨this.1.trans hc9, this.2.1.chg hc9, this.2.2.1.chg hc9, this.2.2.2.chg hc9⟩
    clear hc9 g1 g2
    obtain ⟨t1, g1⟩ := Z9.out.2.2.1
    obtain ⟨t2, g2⟩ := Z9.out.2.2.2
    obtain ⟨t3, g3⟩ := Z9.out.2.1
    by_cases hlt : y < mo f
    ·have hdl : decide (y < mo f) = true := by simp [hlt]
     have hfin : Y = ANS := by
      have e := H.out.1.2
      rw [Int.emod_eq_of_lt H.out.1.1.1 hlt] at e
      rw [HY.out, HANS.out, ← e]
     rw [hdl]
     clear hlt hdl hm
     go_wp2_with (first | refine wpList_load_row rfl 24 _ rfl _ rfl _ _ _ _ g2 undNum rfl sY ?_ | refine wpList_store_row rfl 24 _ _ rfl _ _ rfl rfl _ _ g3 sY lY oY ?_)
     refine bp_n (x := y) Try.results44 rfl rfl ?_ ⟨by rw [← HY.out, hfin], ?_⟩
     ·rw [← HY.out]
      exact Z9.out.2.1.row _
     ·exact Z9.out.1.setRow (by omega) _
    ·have hdl : decide (y < mo f) = false := by simp [hlt]
     obtain ⟨y2, hy2⟩ : ∃ y2, y2 = y - mo f := ⟨_, rfl⟩
     have hb2 : N256 y2 ∧ y2 < y := by
      have h1 := H.out.1.1.2
      have h2 := HMP.out.1
      exact ⟨⟨by omega, by omega⟩, by omega⟩
     have HY2 : Hid ((N256 y2 ∧ y2 % mo f = x % mo f) ∧ y2 < y) := ⟨⟨hb2.1, by rw [hy2, Int.sub_emod_right]; exact H.out.1.2⟩, hb2.2⟩
     have HMi : Hid (∀ u, Calls Try.prog 62 #[.agg Y, .agg M] u fun r w' => r = .returned (.agg (num y2)) ∧ Chg u w') := fun u => by
      have := minusR_any y (mo f) H.out.1.1 (mo_N f) u
      rw [← hy2, Int.emod_eq_of_lt hb2.1.1 hb2.1.2] at this
      rw [HY.out, HN.out.2.1]
      exact this
     obtain ⟨Y2, hY2⟩ : ∃ Y, Y = num y2 := ⟨_, rfl⟩
     have HYY : Hid (Y2 = num y2) := hY2
     have s2 := szN y2
     have l2 : Y.size = (num y2).size := by rw [HY.out]; exact lenN y y2
     have o2 := num_one y2
     rw [← hY2] at HMi s2 l2 o2
     rw [hdl]
     clear hlt hdl hy2 hb2 hY2
     go_wp2_with (first | refine wpList_load_row rfl 24 _ rfl _ rfl _ _ _ _ g2 undNum rfl sY ?_ | refine wpList_load_row rfl 24 _ rfl _ rfl _ _ _ _ g1 undNum rfl sM ?_)
     go_at_call 62
     refine (HMi.out _).mono ?_
     rintro r w10 ⟨rfl, hc10⟩
     have Z10 : Hid (Chg w w10 ∧ Ar w10 (w.heap.size + 1) Z0 ∧ Ar w10 b5 M ∧ Ar w10 b13 Y) := ⟨Z9.out.1.trans hc10, Z9.out.2.1.chg hc10, Z9.out.2.2.1.chg hc10, Z9.out.2.2.2.chg hc10⟩
     clear hc10 g1 g2 g3 Z9
     obtain ⟨t2, g2⟩ := Z10.out.2.2.2
     go_wp2_with (first | refine wpList_store_row rfl 24 _ _ rfl _ _ rfl rfl _ _ g2 s2 l2 o2 ?_)
     go_roundg (y2.toNat)
     case measure =>
      have h1 := HY2.out.2
      have h2 := HY2.out.1.1.1
      rw [hm]
      omega
     case rel =>
      obtain ⟨h5, h6⟩ := HB2.out
      refine ⟨y2, HY2.out.1, rfl, Z10.out.1.setRow (by omega) _, Z10.out.2.1.rowOther (by omega) _, Z10.out.2.2.1.rowOther (by omega) _, ?_⟩
      rw [← HYY.out]
      exact Z10.out.2.2.2.row _
end Go.Proofs.Ytbdgmkejmfjobaa

namespace Go.Proofs.Ytbdgmkejmfjobaa
set_option maxRecDepth 100000
open Go.RowKit
set_option linter.unusedVariables false
theorem lower_any (a b : Int) (ha : 0 ≤ a ∧ a < R544) (hb : 0 ≤ b ∧ b < R544) (w : World) : Calls Try.prog 83 #[.agg (wdr a), .agg (wdr b)] w fun r w' => r = .returned (.bool (decide (a < b))) ∧ Chg w w' := by
 have := lowerD_any (dg B32 a) (dg B32 b) (fun i _ => dg32_b a i) (fun i _ => dg32_b b i) w
 rwa [val17 a ha.1 ha.2, val17 b hb.1 hb.2] at this
theorem or_31 {lo hi : Int} (h1 : 0 ≤ lo ∧ lo < 2147483648) (h2 : 0 ≤ hi ∧ hi < 2) : bits .or .u64 lo (hi * 2147483648) = lo + hi * 2147483648 := by
 obtain ⟨a, rfl⟩ := Int.eq_ofNat_of_zero_le h1.1
 obtain ⟨b, rfl⟩ := Int.eq_ofNat_of_zero_le h2.1
 have e : ((b : Int) * 2147483648) = ((b * 2147483648 : Nat) : Int) := by omega
 rw [e, u64_or_nat a (b * 2147483648) (by omega) (by omega)]
 have h3 : b * 2147483648 ||| a = b * 2147483648 + a := by
  have := Nat.shiftLeft_add_eq_or_of_lt (i := 31) (b := a) (by omega) b
  rw [Nat.shiftLeft_eq] at this
  exact this.symm
 rw [Nat.or_comm, h3]
 omega
theorem dg_half (x : Int) (i : Nat) : dg B32 (x / 2) i = dg B32 x i / 2 + (dg B32 x (i + 1) % 2) * 2147483648 := by
 unfold dg
 have hp := pow_pos' B32_pos i
 rw [Int.pow_succ, ← Int.ediv_ediv_of_nonneg (Int.le_of_lt hp)]
 have e : x / 2 / B32 ^ i = x / B32 ^ i / 2 := by rw [Int.ediv_ediv_of_nonneg (by decide), Int.mul_comm, ← Int.ediv_ediv_of_nonneg (Int.le_of_lt hp)]
 rw [e]
 generalize x / B32 ^ i = y
 show y / 2 % 4294967296 = y % 4294967296 / 2 + y / 4294967296 % 4294967296 % 2 * 2147483648
 omega
theorem dg_over {x : Int} (h : 0 ≤ x ∧ x < R544) : dg B32 x 17 = 0 := by
 unfold dg
 rw [p17, Int.ediv_eq_zero_of_lt h.1 h.2]
 rfl
set_option maxHeartbeats 16000000 in
theorem halved_any (x : Int) (hx : 0 ≤ x ∧ x < R544) (w : World) : Calls Try.prog 84 #[.agg (wdr x)] w fun r w' => r = .returned (.agg (wdr (x / 2))) ∧ Chg w w' := by
 have HX : Hid (0 ≤ x ∧ x < R544) := hx
 have hsA := wdr_size x
 obtain ⟨A, hA⟩ : ∃ A, A = wdr x := ⟨_, rfl⟩
 have HA : Hid (A = wdr x) := hA
 obtain ⟨ANS, hANS⟩ : ∃ A, A = wdr (x / 2) := ⟨_, rfl⟩
 have HANS : Hid (ANS = wdr (x / 2)) := hANS
 rw [← hA] at hsA ⊢
 rw [← hANS]
 have hz := zero49.1
 clear hA hANS hx
 go_enter Try.func84, Try.ntmps84
 go_wp2_with fail
 obtain ⟨w2, hw2⟩ : ∃ w2, w2 = (w.alloc (.cells A 66)).alloc (.cells (arr .u64 17 zD) 66) := ⟨_, rfl⟩
 have Z2 : Hid (Chg w w2 ∧ Ar w2 w.heap.size (arr .u64 17 (mixD 0 (dg B32 (x / 2)) (dg B32 x))) ∧ Ar w2 (w.heap.size + 1) (arr .u64 17 zD)) := by
  rw [hw2, HA.out, mixD_zero]
  exact ⟨((Chg.refl w).alloc _).alloc _, (Ar.new w _ _).alloc _, Ar.new1 w _ _ _⟩
 rw [← hw2]
 clear hw2 hsA hz
 go_loopw [3] (fun v wr => ∃ (i : Nat), v = .int .i64 i ∧ i ≤ 17 ∧ Chg w wr ∧ Ar wr w.heap.size (arr .u64 17 (mixD i (dg B32 (x / 2)) (dg B32 x))) ∧ Ar wr (w.heap.size + 1) (arr .u64 17 zD)) (fun v wr => 17 - (intOf v).toNat)
 case atStart => exact ⟨0, rfl, by omega, Z2.out⟩
 case round =>
  clear Z2 HA
  obtain ⟨i, rfl, hi, hch, h1, h2⟩ := hrel
  have H : Hid (Chg w wr ∧ Ar wr w.heap.size (arr .u64 17 (mixD i (dg B32 (x / 2)) (dg B32 x))) ∧ Ar wr (w.heap.size + 1) (arr .u64 17 zD)) := ⟨hch, h1, h2⟩
  by_cases h17 : i < 17
  ·have hdi : decide ((i : Int) < 17) = true := by simp; omega
   have li : (i : Int) < 17 := by omega
   have c1 := (h1.cell i).trans (arr_get .u64 17 _ h17)
   rw [mixD_at] at c1
   have f1 := h1.frozen i
   obtain ⟨y, hy⟩ : ∃ y, y = dg B32 x i := ⟨_, rfl⟩
   have by' := dg32_b x i
   rw [← hy] at c1 by'
   obtain ⟨y1, hy1⟩ : ∃ y1, y / 2 = y1 := ⟨_, rfl⟩
   by_cases h16 : i < 16
   ·have hd16 : decide ((i : Int) < 16) = true := by simp; omega
    obtain ⟨q, hq⟩ : ∃ q : Nat, (i : Int) + 1 = q := ⟨i + 1, by omega⟩
    have wq := wrap_i (x := (q : Int)) (by omega) (by omega)
    have lq : (q : Int) < 17 := by omega
    have lq0 : (0 : Int) ≤ (q : Int) := by omega
    have c2 := (h1.cell q).trans (arr_get .u64 17 _ (by omega))
    have eq' : q = i + 1 := by omega
    rw [show mixD i (dg B32 (x / 2)) (dg B32 x) q = dg B32 x q by simp [mixD]; omega] at c2
    obtain ⟨n, hn⟩ : ∃ n, n = dg B32 x q := ⟨_, rfl⟩
    have bn := dg32_b x q
    rw [← hn] at c2 bn
    have ea := low1 (d := n) ⟨bn.1, by omega⟩
    obtain ⟨b, hb⟩ : ∃ b, n % 2 = b := ⟨_, rfl⟩
    rw [hb] at ea
    have wb : IntKind.u64.wrap (b * 2147483648) = b * 2147483648 := by rw [IntKind.wrap_u64]; omega
    have eo := or_31 (lo := y1) (hi := b) (by omega) (by omega)
    obtain ⟨r, hr⟩ : ∃ r, y1 + b * 2147483648 = r := ⟨_, rfl⟩
    rw [hr] at eo
    have HR : Hid (r = dg B32 (x / 2) i) := by
     show r = _
     rw [dg_half, ← hy, ← eq', ← hn]
     omega
    have niq : ¬ i = q := by omega
    have nqi : ¬ q = i := by omega
    clear hch h1 h2 hy by' hn bn hb hr eq'
    go_wp2_with fail
    go_region_with (fail)
    all_goals go_wp2
    all_goals
     go_roundw
     case rel =>
      obtain ⟨k0, k1, k2⟩ := H.out
      have hh := (k1.set i (.int .u64 y1)).set i (.int .u64 r)
      rw [arr_set, arr_set, show upd (upd (mixD i (dg B32 (x / 2)) (dg B32 x)) i y1) i r = upd (mixD i (dg B32 (x / 2)) (dg B32 x)) i r by funext j; unfold upd; split <;> rfl, mixD_upd] at hh
      have e : upd (dg B32 (x / 2)) i r = dg B32 (x / 2) := by
       funext j
       unfold upd
       by_cases hj : j = i
       ·rw [if_pos hj, hj, HR.out]
       ·rw [if_neg hj]
      rw [e] at hh
      refine ⟨i + 1, by go_num, by omega, ((k0.setCell (by dsimp only; omega) _).drew.setCell (by dsimp only; omega) _), hh.drew, ((k2.other (by dsimp only; omega) _).drew.other (by dsimp only; omega) _)⟩
     case measure => simp [intOf]; omega
   ·have hi16 : i = 16 := by omega
    have hd16 : decide ((i : Int) < 16) = false := by simp; omega
    have HR : Hid (y1 = dg B32 (x / 2) i) := by
     show y1 = _
     rw [dg_half, ← hy, hi16, dg_over HX.out]
     omega
    clear hch h1 h2 hy by' hi16
    go_wp2_with fail
    go_roundw
    case rel =>
     obtain ⟨k0, k1, k2⟩ := H.out
     have hh := (k1.set i (.int .u64 y1))
     rw [arr_set, mixD_upd] at hh
     have e : upd (dg B32 (x / 2)) i y1 = dg B32 (x / 2) := by
      funext j
      unfold upd
      by_cases hj : j = i
      ·rw [if_pos hj, hj, HR.out]
      ·rw [if_neg hj]
     rw [e] at hh
     exact ⟨i + 1, by go_num, by omega, k0.setCell (by dsimp only; omega) _, hh, k2.other (by dsimp only; omega) _⟩
    case measure => simp [intOf]; omega
  ·have : i = 17 := by omega
   subst this
   have hx2 := h1
   rw [mixD_all] at hx2
   have hx3 : Ar wr w.heap.size ANS := by rw [HANS.out]; exact hx2
   obtain ⟨t1, g1⟩ := hx3
   obtain ⟨t3, g3⟩ := h2
   have hsz := szA (dg B32 (x / 2))
   have hlen := lenA zD (dg B32 (x / 2))
   have hone := oneA (dg B32 (x / 2))
   rw [show arr .u64 17 (dg B32 (x / 2)) = ANS from HANS.out.symm] at hsz hlen hone
   clear hch h1 hx2
   go_wp2_with (first | refine wpList_load_row rfl 66 _ rfl _ rfl _ _ _ _ g1 un49 rfl hsz ?_ | refine wpList_store_row rfl 66 _ _ rfl _ _ rfl rfl _ _ g3 hsz hlen hone ?_)
   refine bp_c (n := 17) (c := ANS) Try.results84 rfl rfl ?_ un49 zero49.2 (by rw [HANS.out]; exact wdr_size _) ⟨rfl, ?_⟩
   ·exact H.out.2.2.row _
   ·exact H.out.1.setRow (by omega) _
end Go.Proofs.Ytbdgmkejmfjobaa

namespace Go.Proofs.Ytbdgmkejmfjobaa
set_option maxRecDepth 100000
open Go.RowKit
set_option linter.unusedVariables false
def shD (i r : Nat) (m : Int) : Nat → Int := fun j => if r ≤ j ∧ j < r + i then dg B32 m (j - r) else 0
theorem shD_zero (r : Nat) (m : Int) : shD 0 r m = zD := by
 funext j
 unfold shD zD
 rw [if_neg (by omega)]
theorem shD_succ (i r : Nat) (m : Int) : upd (shD i r m) (r + i) (dg B32 m i) = shD (i + 1) r m := by
 funext j
 unfold upd shD
 by_cases h : j = r + i
 ·rw [if_pos h, if_pos (by omega), h, show r + i - r = i by omega]
 ·rw [if_neg h]
  by_cases h2 : r ≤ j ∧ j < r + i
  ·rw [if_pos h2, if_pos (by omega)]
  ·rw [if_neg h2, if_neg (by omega)]
theorem dg_moved (m : Int) (r j : Nat) : dg B32 (m * B32 ^ r) j = if r ≤ j then dg B32 m (j - r) else 0 := by
 unfold dg
 have hp := pow_pos' B32_pos r
 by_cases h : r ≤ j
 ·rw [if_pos h]
  obtain ⟨k, rfl⟩ : ∃ k, j = r + k := ⟨j - r, by omega⟩
  rw [show r + k - r = k by omega, Int.pow_add, ← Int.ediv_ediv_of_nonneg (Int.le_of_lt hp), Int.mul_ediv_cancel _ (by omega)]
 ·rw [if_neg h]
  obtain ⟨k, rfl⟩ : ∃ k, r = j + (k + 1) := ⟨r - j - 1, by omega⟩
  have hj := pow_pos' B32_pos j
  rw [Int.pow_add, Int.mul_comm (B32 ^ j), ← Int.mul_assoc, Int.mul_ediv_cancel _ (by omega), Int.pow_succ, ← Int.mul_assoc, Int.mul_emod_left]
theorem shD_all {m : Int} (hm : N256 m) {r : Nat} : arr .u64 17 (shD 8 r m) = wdr (m * B32 ^ r) := arr_congr fun j hj => by
 rw [dg_moved]
 unfold shD
 by_cases h : r ≤ j
 ·rw [if_pos h]
  by_cases h2 : j < r + 8
  ·rw [if_pos ⟨h, h2⟩]
  ·rw [if_neg (by omega), dg_none hm (by omega)]
 ·rw [if_neg (by omega), if_neg h]
theorem b32pow (r : Nat) : B32 ^ r = 2 ^ (32 * r) := by rw [Int.pow_mul]; rfl
theorem dg_dbl0 (s : Int) : dg B32 (2 * s) 0 = 2 * dg B32 s 0 % 4294967296 := by
 unfold dg
 show 2 * s / 1 % 4294967296 = 2 * (s / 1 % 4294967296) % 4294967296
 omega
theorem dg_dbl (s : Int) (i : Nat) : dg B32 (2 * s) (i + 1) = 2 * dg B32 s (i + 1) % 4294967296 + dg B32 s i / 2147483648 := by
 unfold dg
 have hp := pow_pos' B32_pos i
 rw [Int.pow_succ, ← Int.ediv_ediv_of_nonneg (Int.le_of_lt hp), ← Int.ediv_ediv_of_nonneg (Int.le_of_lt hp)]
 obtain ⟨y, hy⟩ : ∃ y, y = s / B32 ^ i := ⟨_, rfl⟩
 obtain ⟨z, hz⟩ : ∃ z, z = s % B32 ^ i := ⟨_, rfl⟩
 have hs : s = z + B32 ^ i * y := by rw [hz, hy]; exact (Int.emod_add_mul_ediv s (B32 ^ i)).symm
 have hz0 : 0 ≤ z := by rw [hz]; exact Int.emod_nonneg _ (by omega)
 have hz1 : z < B32 ^ i := by rw [hz]; exact Int.emod_lt_of_pos _ hp
 have e : 2 * s / B32 ^ i = 2 * y + 2 * z / B32 ^ i := by
  rw [hs, show 2 * (z + B32 ^ i * y) = 2 * z + B32 ^ i * (2 * y) by grind, Int.add_mul_ediv_left _ _ (by omega)]
  omega
 have ht : 2 * z / B32 ^ i = 0 ∨ 2 * z / B32 ^ i = 1 := by
  have h1 : 0 ≤ 2 * z / B32 ^ i := Int.ediv_nonneg (by omega) (by omega)
  have h2 : 2 * z / B32 ^ i < 2 := Int.ediv_lt_of_lt_mul hp (by omega)
  omega
 rw [← hy, e]
 generalize 2 * z / B32 ^ i = t at ht
 show (2 * y + t) / 4294967296 % 4294967296 = 2 * (y / 4294967296 % 4294967296) % 4294967296 + y % 4294967296 / 2147483648
 omega
theorem or_b {lo hi : Int} (h1 : 0 ≤ lo ∧ lo < 4294967296) (h0 : lo % 2 = 0) (h2 : 0 ≤ hi ∧ hi < 2) : bits .or .u64 lo hi = lo + hi := by
 obtain ⟨a, rfl⟩ := Int.eq_ofNat_of_zero_le h1.1
 obtain ⟨b, rfl⟩ := Int.eq_ofNat_of_zero_le h2.1
 rw [u64_or_nat a b (by omega) (by omega)]
 have h3 : a / 2 * 2 ||| b = a / 2 * 2 + b := by
  have := Nat.shiftLeft_add_eq_or_of_lt (i := 1) (b := b) (by omega) (a / 2)
  rw [Nat.shiftLeft_eq] at this
  exact this.symm
 rw [show a / 2 * 2 = a by omega] at h3
 rw [h3]
 omega
theorem dbl_even (s : Int) (i : Nat) : 0 ≤ 2 * dg B32 s i % 4294967296 ∧ 2 * dg B32 s i % 4294967296 < 4294967296 ∧ 2 * dg B32 s i % 4294967296 % 2 = 0 := by omega
theorem sub_dig {y z b : Int} (hy : 0 ≤ y ∧ y < 4294967296) (hz : 0 ≤ z ∧ z < 4294967296) (hb : 0 ≤ b ∧ b ≤ 1) : ∃ u v lo o : Int, IntKind.u64.wrap (y - z) = u ∧ IntKind.u64.wrap (u - b) = v ∧ bits .and .u64 v 4294967295 = lo ∧ v / 9223372036854775808 = o ∧ Hid (lo - o * B32 = y - z - b ∧ (0 ≤ lo ∧ lo < 4294967296) ∧ (0 ≤ o ∧ o ≤ 1)) := by
 obtain ⟨u, hu⟩ : ∃ u, IntKind.u64.wrap (y - z) = u := ⟨_, rfl⟩
 obtain ⟨v, hv⟩ : ∃ v, IntKind.u64.wrap (u - b) = v := ⟨_, rfl⟩
 have hu' : u = (y - z) % 18446744073709551616 := by rw [← hu, IntKind.wrap_u64]
 have hv' : v = (y - z - b) % 18446744073709551616 := by rw [← hv, IntKind.wrap_u64, hu']; omega
 refine ⟨u, v, v % 4294967296, v / 9223372036854775808, hu, hv, lw32 ⟨by omega, by omega⟩, rfl, ?_, by omega, by omega⟩
 show v % 4294967296 - v / 9223372036854775808 * 4294967296 = y - z - b
 omega
theorem p16 : B32 ^ 16 = R512 := by decide +kernel
theorem lt_less {x : Int} {t : Nat} (hx : 0 ≤ x) (h : x < B32 ^ (t + 1)) (h0 : dg B32 x t = 0) : x < B32 ^ t := by
 unfold dg at h0
 have hp := pow_pos' B32_pos t
 have h1 : x / B32 ^ t < B32 := by
  rw [Int.pow_succ] at h
  exact Int.ediv_lt_of_lt_mul hp (by rw [Int.mul_comm]; exact h)
 have h2 : 0 ≤ x / B32 ^ t := Int.ediv_nonneg hx (by omega)
 rw [Int.emod_eq_of_lt h2 h1] at h0
 have := Int.emod_add_mul_ediv x (B32 ^ t)
 rw [h0, Int.mul_zero, Int.add_zero] at this
 have h3 := Int.emod_lt_of_pos x hp
 omega
theorem top_big {s : Int} (hs : 0 ≤ s ∧ s < R544) (h : ¬ dg B32 s 16 = 0) : R512 ≤ s := by
 by_cases h1 : R512 ≤ s
 ·exact h1
 ·exfalso
  apply h
  unfold dg
  rw [p16, Int.ediv_eq_zero_of_lt hs.1 (by omega)]
  rfl
theorem wpList_load49G {ops : Array Oper} {rest : List Oper} {o : Oper} {a : Act} {w : World} {Q : Exit → Act → World → Prop} (hgd : Region.wanted o (yielded ops a.tmps) = true) (x : Operand) (hop : o.op = .load 66 x) (b : Nat) (hx : a.eval x = .pointer (some ⟨b, 0, none⟩)) (t : TypeId) (c : Array Value)
  (hg : w.heap[b]? = some (.cells c t (0, 0))) (hi : (Try.prog.info? 66).map (·.size) = some c.size) (hK : wpList Try.prog ops Q rest (a.put o.dst (.agg c)) w) : wpList Try.prog ops Q (o :: rest) a w :=
 BigFrame.wpList_want hgd fun _ hK' => wp_load_row 66 x hop b hx t c (0, 0) _ hg un49 rfl hi (hK' _ _ hK)
end Go.Proofs.Ytbdgmkejmfjobaa

namespace Go.Proofs.Ytbdgmkejmfjobaa
set_option maxRecDepth 100000
open Go.RowKit
set_option linter.unusedVariables false
structure SS (w wr : World) (b5 : Nat) (l : Int) : Prop where
 chg : Chg w wr
 l : Ar wr (w.heap.size + 1) (wdr l)
 res : Ar wr (w.heap.size + 1 + 1) (num 0)
 m : Ar wr b5 (wdr (mo 4))
theorem SS.to {w wr u : World} {b5 : Nat} {l : Int} (h : SS w wr b5 l) (k : Chg wr u) : SS w u b5 l := ⟨h.chg.trans k, h.l.chg k, h.res.chg k, h.m.chg k⟩
theorem SS.row {w wr : World} {b5 b : Nat} {l : Int} (h : SS w wr b5 l) (h5 : w.heap.size + 2 < b5) (hb : b5 < b) (c : Array Value) : SS w (wr.setRow b c) b5 l :=
 ⟨h.chg.setRow (by omega) _, h.l.rowOther (by omega) _, h.res.rowOther (by omega) _, h.m.rowOther (by omega) _⟩
theorem SS.other {w wr : World} {b5 b : Nat} {l : Int} (h : SS w wr b5 l) (h5 : w.heap.size + 2 < b5) (hb : b5 < b) (i : Nat) (v : Value) : SS w (wr.setCell ⟨b, i, none⟩ v) b5 l :=
 ⟨h.chg.setCell (by dsimp only; omega) _, h.l.other (by dsimp only; omega) _, h.res.other (by dsimp only; omega) _, h.m.other (by dsimp only; omega) _⟩
structure SV (w wr : World) (b5 b7 : Nat) (S : Int) (d : Nat → Int) : Prop where
 chg : Chg w wr
 l : Ar wr (w.heap.size + 1) (arr .u64 17 d)
 res : Ar wr (w.heap.size + 1 + 1) (num 0)
 m : Ar wr b5 (wdr (mo 4))
 s : Ar wr b7 (wdr S)
theorem SV.set {w wr : World} {b5 b7 : Nat} {S : Int} {d : Nat → Int} (h : SV w wr b5 b7 S d) (h5 : w.heap.size + 2 < b5) (h7 : b5 < b7) (i : Nat) (v : Int) : SV w (wr.setCell ⟨w.heap.size + 1, i, none⟩ (.int .u64 v)) b5 b7 S (upd d i v) :=
 ⟨h.chg.setCell (by dsimp only; omega) _, by have := h.l.set i (.int .u64 v); rwa [arr_set] at this, h.res.other (by dsimp only; omega) _, h.m.other (by dsimp only; omega) _, h.s.other (by dsimp only; omega) _⟩
theorem SV.drewN {w wr : World} {b5 b7 : Nat} {S : Int} {d : Nat → Int} (h : SV w wr b5 b7 S d) (n : Nat) : SV w (wr.drewN n) b5 b7 S d := ⟨h.chg.drewN n, h.l, h.res, h.m, h.s⟩
theorem upd_id {d : Nat → Int} {i : Nat} {x : Int} (h : x = d i) : upd d i x = d := by
 funext j
 unfold upd
 by_cases hj : j = i
 ·rw [if_pos hj, hj, h]
 ·rw [if_neg hj]
theorem mo4_small {N : Nat} (h : N ≤ 256) : mo 4 * 2 ^ N < R544 := by
 obtain ⟨k, hk⟩ : ∃ k, 256 = N + k := ⟨256 - N, by omega⟩
 have h1 : (1 : Int) ≤ 2 ^ k := Int.pow_pos (by decide)
 have h2 : (2 : Int) ^ N * 1 ≤ 2 ^ N * 2 ^ k := Int.mul_le_mul_of_nonneg_left h1 (Int.le_of_lt (Int.pow_pos (by decide)))
 rw [← Int.pow_add, ← hk, Int.mul_one] at h2
 have h3 : mo 4 * 2 ^ N ≤ mo 4 * 2 ^ 256 := Int.mul_le_mul_of_nonneg_left h2 (by decide)
 have h4 : mo 4 * 2 ^ 256 < R544 := by decide +kernel
 omega
set_option maxHeartbeats 64000000 in
theorem slowly_any (x : Int) (hx : N512 x) (w : World) : Calls Try.prog 63 #[.agg (num (mo 4)), .agg (wdr x)] w fun r w' => r = .returned (.agg (num (x % mo 4))) ∧ Chg w w' := by
 have HX : Hid (N512 x) := hx
 obtain ⟨ANS, hANS⟩ : ∃ A, A = num (x % mo 4) := ⟨_, rfl⟩
 have HANS : Hid (ANS = num (x % mo 4)) := hANS
 rw [← hANS]
 have hsA := wdr_size x
 have hsM := num_size (mo 4)
 obtain ⟨A, hA⟩ : ∃ A, A = wdr x := ⟨_, rfl⟩
 obtain ⟨M, hM⟩ : ∃ M, M = num (mo 4) := ⟨_, rfl⟩
 obtain ⟨WM, hWM⟩ : ∃ M, M = wdr (mo 4) := ⟨_, rfl⟩
 obtain ⟨Z0, hZ0⟩ : ∃ Z, Z = num 0 := ⟨_, rfl⟩
 obtain ⟨Zd, hZd⟩ : ∃ Z, Z = arr .u64 17 zD := ⟨_, rfl⟩
 have HDg : Hid (∀ u, Calls Try.prog 43 #[.agg M] u fun r w' => r = .returned (.agg WM) ∧ Chg u w') := fun u => by rw [hM, hWM]; exact digits_any (mo 4) (mo_N 4) u
 have HN : Hid (A = wdr x ∧ M = num (mo 4) ∧ WM = wdr (mo 4) ∧ Z0 = num 0 ∧ Zd = arr .u64 17 zD) := ⟨hA, hM, hWM, hZ0, hZd⟩
 have hz := zero25.1
 have hz9 := zero49.1
 have sM := szN (mo 4)
 have sW := szA (dg B32 (mo 4))
 have lW := lenA zD (dg B32 (mo 4))
 have oW := oneA (dg B32 (mo 4))
 rw [← hA] at hsA ⊢
 rw [← hM] at hsM sM ⊢
 rw [show arr .u64 17 (dg B32 (mo 4)) = WM from hWM.symm] at sW lW oW
 rw [← hZ0] at hz
 rw [← hZd] at hz9 lW
 clear hANS hA hM hWM hZ0 hZd hx
 go_enter Try.func63, Try.ntmps63
 go_upto_region 1 with fail
 obtain ⟨w3, hw3⟩ : ∃ w3, w3 = ((w.alloc (.cells M 24)).alloc (.cells A 66)).alloc (.cells Z0 24) := ⟨_, rfl⟩
 have Z3 : Hid (Chg w w3 ∧ Ar w3 w.heap.size M ∧ Ar w3 (w.heap.size + 1) A ∧ Ar w3 (w.heap.size + 1 + 1) Z0) := by
  rw [hw3]
  exact ⟨(((Chg.refl w).alloc _).alloc _).alloc _, ((Ar.new w _ _).alloc _).alloc _, (Ar.new1 w _ _ _).alloc _, Ar.new2 w _ _ _ _⟩
 rw [← hw3]
 clear hw3 hsA hsM
 obtain ⟨t1, g1⟩ := Z3.out.2.1
 go_wp2_with (first | refine wpList_load_row rfl 24 _ rfl _ rfl _ _ _ _ g1 undNum rfl sM ?_)
 go_at_call 43
 refine (HDg.out _).mono ?_
 rintro r w4 ⟨rfl, hc4⟩
 have Z4 : Hid (Chg w w4 ∧ Ar w4 (w.heap.size + 1) A ∧ Ar w4 (w.heap.size + 1 + 1) Z0) := ⟨Z3.out.1.trans hc4, Z3.out.2.2.1.chg hc4, Z3.out.2.2.2.chg hc4⟩
 clear hc4 g1 Z3 sM HDg
 go_upto_region 2 with (first | refine wpList_store_row rfl 66 _ _ rfl _ _ rfl rfl _ _ (heap_alloc_last w4 _) sW lW oW ?_)
 obtain ⟨b5, hb5⟩ : ∃ b, b = w4.heap.size := ⟨_, rfl⟩
 obtain ⟨w5, hw5⟩ : ∃ w5, w5 = (w4.alloc (.cells Zd 66)).setRow w4.heap.size WM := ⟨_, rfl⟩
 have Z5 : Hid (SS w w5 b5 x ∧ w.heap.size + 2 < b5) := by
  have hl := Z4.out.2.2.lt
  have h1 := Z4.out.1.size
  rw [hw5, hb5]
  refine ⟨⟨(Z4.out.1.alloc _).setRow h1 _, ?_, ?_, ?_⟩, by omega⟩
  ·have := (Z4.out.2.1.alloc (.cells Zd 66)).rowOther (b' := w4.heap.size) (by omega) WM
   rw [HN.out.1] at this
   exact this
  ·have := (Z4.out.2.2.alloc (.cells Zd 66)).rowOther (b' := w4.heap.size) (by omega) WM
   rw [HN.out.2.2.2.1] at this
   exact this
  ·have := (Ar.new w4 Zd 66).row WM
   have e := HN.out.2.2.1
   rw [e] at this ⊢
   exact this
 rw [← hw5, ← hb5]
 clear hw5 hb5 Z4 sW lW oW
 have HB : Hid (w.heap.size + 2 < b5) := Z5.out.2
 go_upto_block 0 with fail
 go_cut [6] from 17 to 27 (fun v wc => ∃ t : Nat, v = .int .i64 t ∧ 7 ≤ t ∧ t ≤ 15 ∧ x < B32 ^ (t + 1) ∧ SS w wc b5 x)
 case first =>
  go_wp2_with fail
  go_loopw [6] (fun v wr => ∃ t : Nat, v = .int .i64 t ∧ 7 ≤ t ∧ t ≤ 16 ∧ x < B32 ^ (t + 1) ∧ SS w wr b5 x) (fun v wr => (intOf v).toNat)
  case atStart => exact ⟨16, rfl, by omega, by omega, by rw [show 16 + 1 = 17 from rfl, p17]; exact Int.lt_trans HX.out.2 (by decide), Z5.out.1⟩
  case round =>
   clear Z5
   obtain ⟨t, rfl, ht7, ht16, hxt, hss⟩ := hrel
   have H : Hid (SS w wr b5 x ∧ x < B32 ^ (t + 1)) := ⟨hss, hxt⟩
   by_cases hgo : 7 < t ∧ dg B32 x t = 0
   ·have hd7 : decide ((7 : Int) < (t : Int)) = true := by simp; omega
    have lt : (t : Int) < 17 := by omega
    have c1 := (hss.l.cell t).trans (arr_get .u64 17 _ (by omega))
    rw [hgo.2] at c1
    obtain ⟨t', ht'⟩ : ∃ t' : Nat, (t : Int) - 1 = t' := ⟨t - 1, by omega⟩
    have wt := wrap_i (x := (t' : Int)) (by omega) (by omega)
    have HT : Hid (t = t' + 1 ∧ x < B32 ^ t ∧ 7 < t) := ⟨by omega, lt_less HX.out.1 hxt hgo.2, hgo.1⟩
    clear hss hxt hgo
    go_wp2_with fail
    go_roundw
    case rel => exact ⟨t', by first | rfl | go_num, by have := HT.out; omega, by have := HT.out; omega, by have := HT.out; rw [← this.1]; exact this.2.1, H.out.1⟩
    case measure => simp [intOf]; have := HT.out; omega
   ·have ht15 : t ≤ 15 := by
     by_cases h16 : t = 16
     ·exfalso
      apply hgo
      refine ⟨by omega, ?_⟩
      unfold dg
      rw [h16, p16, Int.ediv_eq_zero_of_lt HX.out.1 HX.out.2]
      rfl
     ·omega
    have c1 := (hss.l.cell t).trans (arr_get .u64 17 _ (by omega))
    obtain ⟨dt, hdt⟩ : ∃ d, d = dg B32 x t := ⟨_, rfl⟩
    rw [← hdt] at c1 hgo
    have lt : (t : Int) < 17 := by omega
    have HT : Hid (7 ≤ t ∧ t ≤ 15) := ⟨ht7, ht15⟩
    by_cases h7 : 7 < t
    ·have hd7 : decide ((7 : Int) < (t : Int)) = true := by simp; omega
     have hne : (dt == 0) = false := by
      have : ¬ dt = 0 := fun h => hgo ⟨h7, h⟩
      simpa using this
     clear hss hxt hgo hdt ht15 ht16
     go_wp2_with fail
     go_meet
     exact ⟨t, rfl, HT.out.1, HT.out.2, H.out.2, H.out.1⟩
    ·have hd7 : decide ((7 : Int) < (t : Int)) = false := by simp; omega
     clear hss hxt hgo hdt ht15 ht16
     go_wp2_with fail
     go_meet
     exact ⟨t, rfl, HT.out.1, HT.out.2, H.out.2, H.out.1⟩
 clear Z5
 obtain ⟨t, rfl, ht7, ht15, hxt, hss⟩ := hcut
 obtain ⟨w6, hw6⟩ : ∃ w6, w6 = wc := ⟨_, rfl⟩
 rw [← hw6] at hss
 rw [← hw6]
 obtain ⟨r, hr⟩ : ∃ r : Nat, r + 7 = t := ⟨t - 7, by omega⟩
 have HR : Hid (r + 7 = t ∧ r ≤ 8) := ⟨hr, by omega⟩
 have Z6 : Hid (SS w w6 b5 x) := hss
 clear hw6 hss hxt hr
 go_upto_region 6 with fail
 obtain ⟨b7, hb7⟩ : ∃ b, b = w6.heap.size := ⟨_, rfl⟩
 obtain ⟨w7, hw7⟩ : ∃ w7, w7 = w6.alloc (.cells Zd 66) := ⟨_, rfl⟩
 have Z7 : Hid ((SS w w7 b5 x ∧ Ar w7 b7 (arr .u64 17 (shD 0 r (mo 4)))) ∧ b5 < b7) := by
  have hl := Z6.out.m.lt
  rw [hw7, hb7, shD_zero]
  refine ⟨⟨Z6.out.to ((Chg.refl _).alloc _), ?_⟩, hl⟩
  rw [← HN.out.2.2.2.2]
  exact Ar.new w6 _ _
 rw [← hw7, ← hb7]
 clear hw7 hb7 Z6
 have HB7 : Hid (b5 < b7) := Z7.out.2
 go_wp2_with fail
 go_loopw [8] (fun v wr => ∃ i : Nat, v = .int .i64 i ∧ i ≤ 8 ∧ SS w wr b5 x ∧ Ar wr b7 (arr .u64 17 (shD i r (mo 4)))) (fun v wr => 8 - (intOf v).toNat)
 case atStart => exact ⟨0, rfl, by omega, Z7.out.1⟩
 case round =>
  clear Z7
  obtain ⟨i, rfl, hi, hss, hs7⟩ := hrel
  have H : Hid (SS w wr b5 x ∧ Ar wr b7 (arr .u64 17 (shD i r (mo 4)))) := ⟨hss, hs7⟩
  by_cases h8 : i < 8
  ·have hdi : decide ((i : Int) < 8) = true := by simp; omega
   have li : (i : Int) < 17 := by omega
   have hr7 := HR.out.1
   have hr8 := HR.out.2
   obtain ⟨a1, ha1⟩ : ∃ a1 : Nat, (i : Int) + t = a1 := ⟨i + t, by omega⟩
   have wa := wrap_i (x := (a1 : Int)) (by omega) (by omega)
   obtain ⟨p, hp⟩ : ∃ p : Nat, (a1 : Int) - 7 = p := ⟨a1 - 7, by omega⟩
   have wp := wrap_i (x := (p : Int)) (by omega) (by omega)
   have lp : (p : Int) < 17 := by omega
   have HP : Hid (p = r + i) := by show p = r + i; omega
   have c1 := (hss.m.cell i).trans (arr_get .u64 17 _ (by omega))
   have c2 := (hs7.cell p).trans (arr_get .u64 17 _ (by omega))
   have f2 := hs7.frozen p
   generalize shD i r (mo 4) p = o1 at c2
   obtain ⟨y, hy⟩ : ∃ y, y = dg B32 (mo 4) i := ⟨_, rfl⟩
   rw [← hy] at c1
   have HY : Hid (y = dg B32 (mo 4) i) := hy
   clear hss hs7 hy hr7 hr8
   go_wp2_with fail
   go_roundw
   case rel =>
    obtain ⟨k1, k2⟩ := H.out
    have hh := k2.set p (.int .u64 y)
    rw [arr_set, HP.out, HY.out, shD_succ] at hh
    refine ⟨i + 1, by go_num, by omega, k1.other HB.out HB7.out _ _, ?_⟩
    rw [HP.out, HY.out]
    exact hh
   case measure => simp [intOf]; omega
  ·have : i = 8 := by omega
   subst this
   have hs8 := hs7
   rw [shD_all (mo_N 4), b32pow] at hs8
   have hr8 := HR.out.2
   obtain ⟨N, hN⟩ : ∃ N : Nat, 32 * (r : Int) = N := ⟨32 * r, by omega⟩
   have wN := wrap_i (x := (N : Int)) (by omega) (by omega)
   have er : (t : Int) - 7 = r := by have := HR.out; omega
   have wr' := wrap_i (x := (r : Int)) (by omega) (by omega)
   have Z8 : Hid (SS w wr b5 x ∧ Ar wr b7 (wdr (mo 4 * 2 ^ N)) ∧ N ≤ 256) := ⟨hss, by rw [show N = 32 * r by omega]; exact hs8, by have := HR.out; omega⟩
   clear hss hs7 hs8 H hr8
   rw [show ((8 : Nat) : Int) = (8 : Int) from rfl]
   go_upto_block 4 with fail
   obtain ⟨w8, hw8⟩ : ∃ w8, w8 = wr := ⟨_, rfl⟩
   subst hw8
   go_cut [9, 10, 11] from 42 to 81 (fun v v10 v11 wc => ∃ n : Nat, v = .int .i64 n ∧ n ≤ 513 ∧ SS w wc b5 x ∧ Ar wc b7 (wdr (mo 4 * 2 ^ n)) ∧ mo 4 * 2 ^ n < R544 ∧ x ≤ mo 4 * 2 ^ n)
   case first =>
    go_wp2_with fail
    go_loopw [9] (fun v wr => ∃ n : Nat, v = .int .i64 n ∧ n ≤ 512 ∧ SS w wr b5 x ∧ Ar wr b7 (wdr (mo 4 * 2 ^ n)) ∧ mo 4 * 2 ^ n < R544) (fun v wr => 512 - (intOf v).toNat)
    case atStart => exact ⟨N, rfl, by have := Z8.out.2.2; omega, Z8.out.1, Z8.out.2.1, mo4_small Z8.out.2.2⟩
    case round =>
     clear Z8
     obtain ⟨n, rfl, hn, hss, hs7, hsm⟩ := hrel
     obtain ⟨S, hS⟩ : ∃ S, S = mo 4 * 2 ^ n := ⟨_, rfl⟩
     rw [← hS] at hs7 hsm
     have hS0 : 0 ≤ S := by rw [hS]; exact Int.mul_nonneg (by decide) (Int.le_of_lt (Int.pow_pos (by decide)))
     have H : Hid (SS w wr b5 x ∧ Ar wr b7 (wdr S) ∧ S < R544 ∧ S = mo 4 * 2 ^ n ∧ 0 ≤ S ∧ n ≤ 512) := ⟨hss, hs7, hsm, hS, hS0, hn⟩
     have c16 := (hs7.cell 16).trans (arr_get .u64 17 _ (by decide))
     obtain ⟨d16, hd16⟩ : ∃ d, d = dg B32 S 16 := ⟨_, rfl⟩
     rw [← hd16] at c16
     by_cases h512 : n < 512
     ·have hdn : decide ((n : Int) < 512) = true := by simp; omega
      by_cases h16 : d16 = 0
      ·have hd0 : (d16 == 0) = true := by simp [h16]
       obtain ⟨WS, hWS⟩ : ∃ W, W = wdr S := ⟨_, rfl⟩
       obtain ⟨WX, hWX⟩ : ∃ W, W = wdr x := ⟨_, rfl⟩
       have HLo : Hid (∀ u, Calls Try.prog 83 #[.agg WS, .agg WX] u fun r w' => r = .returned (.bool (decide (S < x))) ∧ Chg u w') := fun u => by rw [hWS, hWX]; exact lower_any S x ⟨hS0, hsm⟩ ⟨HX.out.1, Int.lt_trans HX.out.2 (by decide)⟩ u
       have hsl := hss.l
       rw [← hWS] at hs7
       rw [← hWX] at hsl
       obtain ⟨tS, gS⟩ := hs7
       obtain ⟨tX, gX⟩ := hsl
       have sS := szA (dg B32 S)
       have sX := szA (dg B32 x)
       rw [show arr .u64 17 (dg B32 S) = WS from hWS.symm] at sS
       rw [show arr .u64 17 (dg B32 x) = WX from hWX.symm] at sX
       have HWS : Hid (WS = wdr S ∧ WX = wdr x) := ⟨hWS, hWX⟩
       by_cases hlt : S < x
       ·have hdl : decide (S < x) = true := by simp [hlt]
        rw [hdl] at HLo
        have HS2 : Hid (2 * S < R544 ∧ 2 * S = mo 4 * 2 ^ (n + 1) ∧ n < 512) := by
         have h1 := HX.out.2
         refine ⟨?_, by rw [hS, Int.pow_succ]; grind, h512⟩
         have : (2 : Int) * R512 < R544 := by decide
         omega
        clear hss hsm hS hS0 hd16 h16 hWS hWX hlt hdl
        go_wp2_with (first | refine wpList_load49G (by rfl) _ rfl _ rfl _ _ gS sS ?_ | refine wpList_load49G (by rfl) _ rfl _ rfl _ _ gX sX ?_ | (go_at_call 83; refine (HLo.out _).mono ?_; rintro r u1 ⟨rfl, cu1⟩))
        obtain ⟨b10, hb10⟩ : ∃ b, b = u1.heap.size := ⟨_, rfl⟩
        obtain ⟨w9, hw9⟩ : ∃ w9, w9 = u1.alloc (.cells Zd 66) := ⟨_, rfl⟩
        have Z9 : Hid ((SS w w9 b5 x ∧ Ar w9 b7 (wdr S) ∧ Ar w9 b10 (arr .u64 17 (mixD 0 (dg B32 (2 * S)) zD))) ∧ b7 < b10) := by
         obtain ⟨k1, k2, -⟩ := H.out
         have k2' := k2.chg cu1
         rw [hw9, hb10, mixD_zero]
         refine ⟨⟨(k1.to cu1).to ((Chg.refl _).alloc _), k2'.alloc _, ?_⟩, k2'.lt⟩
         rw [← HN.out.2.2.2.2]
         exact Ar.new u1 _ _
        rw [← hw9, ← hb10]
        clear hw9 hb10 cu1 gS gX sX
        have HB10 : Hid (b7 < b10) := Z9.out.2
        go_wp2_with fail
        go_loopw [11] (fun v wr => ∃ i : Nat, v = .int .i64 i ∧ i ≤ 17 ∧ SS w wr b5 x ∧ Ar wr b7 (wdr S) ∧ Ar wr b10 (arr .u64 17 (mixD i (dg B32 (2 * S)) zD))) (fun v wr => 17 - (intOf v).toNat)
        case atStart => exact ⟨0, rfl, by omega, Z9.out.1⟩
        case round =>
         clear Z9
         obtain ⟨i, rfl, hi, hss, hs7, hs10⟩ := hrel
         have H3 : Hid (SS w wr b5 x ∧ Ar wr b7 (wdr S) ∧ Ar wr b10 (arr .u64 17 (mixD i (dg B32 (2 * S)) zD))) := ⟨hss, hs7, hs10⟩
         by_cases h17 : i < 17
         ·have hdi : decide ((i : Int) < 17) = true := by simp; omega
          have li : (i : Int) < 17 := by omega
          have li0 : (0 : Int) ≤ (i : Int) := by omega
          have c1 := (hs7.cell i).trans (arr_get .u64 17 _ h17)
          have c2 := (hs10.cell i).trans (arr_get .u64 17 _ h17)
          have f2 := hs10.frozen i
          generalize mixD i (dg B32 (2 * S)) zD i = o1 at c2
          obtain ⟨y, hy⟩ : ∃ y, y = dg B32 S i := ⟨_, rfl⟩
          have by' := dg32_b S i
          rw [← hy] at c1 by'
          have wy : IntKind.u64.wrap (y * 2) = y * 2 := by rw [IntKind.wrap_u64]; omega
          have ea := lw32 (d := y * 2) ⟨by omega, by omega⟩
          obtain ⟨e, he⟩ : ∃ e, y * 2 % 4294967296 = e := ⟨_, rfl⟩
          rw [he] at ea
          by_cases h0 : 0 < i
          ·have hd0 : decide ((0 : Int) < (i : Int)) = true := by simp; omega
           have hd0' : decide (0 < i) = true := by simp; omega
           obtain ⟨q, hq⟩ : ∃ q : Nat, (i : Int) - 1 = q := ⟨i - 1, by omega⟩
           have wq := wrap_i (x := (q : Int)) (by omega) (by omega)
           have lq : (q : Int) < 17 := by omega
           have lq0 : (0 : Int) ≤ (q : Int) := by omega
           have c3 := (hs7.cell q).trans (arr_get .u64 17 _ (by omega))
           obtain ⟨z, hz'⟩ : ∃ z, z = dg B32 S q := ⟨_, rfl⟩
           have bz := dg32_b S q
           rw [← hz'] at c3 bz
           obtain ⟨h, hh⟩ : ∃ h, z / 2147483648 = h := ⟨_, rfl⟩
           have eo := or_b (lo := e) (hi := h) (by omega) (by omega) (by omega)
           obtain ⟨r2, hr2⟩ : ∃ r, e + h = r := ⟨_, rfl⟩
           rw [hr2] at eo
           have HRR : Hid (r2 = dg B32 (2 * S) i ∧ i < 17) := by
            have e1 : i = q + 1 := by omega
            refine ⟨?_, h17⟩
            rw [e1, dg_dbl, ← e1, ← hy, ← hz']
            omega
           have nb : ¬ b7 = b10 := by have := HB10.out; omega
           have nb' : ¬ b10 = b7 := by have := HB10.out; omega
           clear hss hs7 hs10 hy by' he hz' bz hr2 h0
           go_wp2_with fail
           go_region_with (fail)
           all_goals go_wp2
           all_goals
            go_roundw
            case rel =>
             obtain ⟨k1, k2, k3⟩ := H3.out
             have hB := HB10.out
             have hB7 := HB7.out
             have hw := (k3.set i (.int .u64 e)).set i (.int .u64 r2)
             rw [arr_set, arr_set, show upd (upd (mixD i (dg B32 (2 * S)) zD) i e) i r2 = upd (mixD i (dg B32 (2 * S)) zD) i r2 by funext j; unfold upd; split <;> rfl, mixD_upd, upd_id HRR.out.1] at hw
             exact ⟨i + 1, by go_num, by have := HRR.out.2; omega, ((k1.other HB.out (by omega) _ _).to (Chg.refl _).drew).other HB.out (by omega) _ _, (k2.other (by dsimp only; omega) _).other (by dsimp only; omega) _, hw⟩
            case measure => simp [intOf]; have := HRR.out.2; omega
          ·have hi0 : i = 0 := by omega
           have hd0 : decide ((0 : Int) < (i : Int)) = false := by simp; omega
           have hd0' : decide (0 < i) = false := by simp; omega
           have HRR : Hid (e = dg B32 (2 * S) i ∧ i < 17) := by
            refine ⟨?_, h17⟩
            rw [hi0, dg_dbl0, ← hi0, ← hy]
            omega
           clear hss hs7 hs10 hy by' he hi0 h0
           go_wp2_with fail
           go_roundw
           case rel =>
            obtain ⟨k1, k2, k3⟩ := H3.out
            have hB := HB10.out
            have hB7 := HB7.out
            have hw := (k3.set i (.int .u64 e))
            rw [arr_set, mixD_upd, upd_id HRR.out.1] at hw
            exact ⟨i + 1, by go_num, by have := HRR.out.2; omega, k1.other HB.out (by omega) _ _, k2.other (by dsimp only; omega) _, hw⟩
           case measure => simp [intOf]; have := HRR.out.2; omega
         ·have : i = 17 := by omega
          subst this
          rw [mixD_all] at hs10
          obtain ⟨W2, hW2⟩ : ∃ W, W = wdr (2 * S) := ⟨_, rfl⟩
          have HW2 : Hid (W2 = wdr (2 * S)) := hW2
          have hs11 : Ar wr b10 W2 := by rw [hW2]; exact hs10
          obtain ⟨t1, g1⟩ := hs11
          obtain ⟨t3, g3⟩ := hs7
          have hsz := szA (dg B32 (2 * S))
          have hlen := lenA (dg B32 S) (dg B32 (2 * S))
          have hone := oneA (dg B32 (2 * S))
          rw [show arr .u64 17 (dg B32 (2 * S)) = W2 from hW2.symm] at hsz hlen hone
          obtain ⟨n', hn'⟩ : ∃ n' : Nat, (n : Int) + 1 = n' := ⟨n + 1, by omega⟩
          have wn' := wrap_i (x := (n' : Int)) (by omega) (by omega)
          have HN' : Hid (n' = n + 1) := by show n' = n + 1; omega
          clear hss hs10 hW2
          go_wp2_with (first | refine wpList_load_row rfl 66 _ rfl _ rfl _ _ _ _ g1 un49 rfl hsz ?_ | refine wpList_store_row rfl 66 _ _ rfl _ _ rfl rfl _ _ g3 hsz hlen hone ?_)
          go_roundw
          case rel =>
           obtain ⟨k1, k2, k3⟩ := H3.out
           refine ⟨n', by first | rfl | go_num, by have := HS2.out.2.2; have := HN'.out; omega, k1.row HB.out HB7.out _, ?_, ?_⟩
           ·rw [HN'.out, ← HS2.out.2.1, ← HW2.out]
            exact k2.row _
           ·rw [HN'.out, ← HS2.out.2.1]
            exact HS2.out.1
          case measure => simp [intOf]; have := HS2.out.2.2; have := HN'.out; omega
       ·have hdl : decide (S < x) = false := by simp [hlt]
        rw [hdl] at HLo
        have HG : Hid (x ≤ S) := by show x ≤ S; omega
        clear hss hsm hS hS0 hd16 h16 hWS hWX hlt hdl
        go_wp2_with (first | refine wpList_load49G (by rfl) _ rfl _ rfl _ _ gS sS ?_ | refine wpList_load49G (by rfl) _ rfl _ rfl _ _ gX sX ?_ | (go_at_call 83; refine (HLo.out _).mono ?_; rintro r u1 ⟨rfl, cu1⟩))
        go_meet
        obtain ⟨k1, k2, k3, k4, k5, k6⟩ := H.out
        exact ⟨n, rfl, by omega, k1.to cu1, by rw [← k4]; exact k2.chg cu1, by rw [← k4]; exact k3, by rw [← k4]; exact HG.out⟩
      ·have hd0 : (d16 == 0) = false := by simp [h16]
       have HG : Hid (x ≤ S) := by
        have h1 := top_big ⟨hS0, hsm⟩ (by rw [← hd16]; exact h16)
        have h2 := HX.out.2
        show x ≤ S
        omega
       clear hss hsm hS hS0 hd16 h16 hs7
       go_wp2_with fail
       go_meet
       obtain ⟨k1, k2, k3, k4, k5, k6⟩ := H.out
       exact ⟨n, rfl, by omega, k1, by rw [← k4]; exact k2, by rw [← k4]; exact k3, by rw [← k4]; exact HG.out⟩
     ·have hdn : decide ((n : Int) < 512) = false := by simp; omega
      have HG : Hid (x ≤ S) := by
       have h1 : n = 512 := by omega
       have h2 := HX.out.2
       show x ≤ S
       rw [hS, h1]
       have : R512 ≤ mo 4 * 2 ^ 512 := by decide +kernel
       omega
      clear hss hsm hS hS0 hd16 hs7 c16
      go_wp2_with fail
      go_meet
      obtain ⟨k1, k2, k3, k4, k5, k6⟩ := H.out
      exact ⟨n, rfl, by omega, k1, by rw [← k4]; exact k2, by rw [← k4]; exact k3, by rw [← k4]; exact HG.out⟩
   clear Z8
   obtain ⟨n, rfl, hn, hss, hs7, hsm, hxs⟩ := hcut
   obtain ⟨wa, hwa⟩ : ∃ wa, wa = wc := ⟨_, rfl⟩
   rw [← hwa] at hss hs7
   rw [← hwa]
   have Za : Hid (∃ l : Int, (0 ≤ l ∧ l < mo 4 * 2 ^ (n + 1) ∧ l % mo 4 = x % mo 4 ∧ l < R544) ∧ SS w wa b5 l ∧ Ar wa b7 (wdr (mo 4 * 2 ^ (n + 1) / 2)) ∧ mo 4 * 2 ^ (n + 1) / 2 < R544) := by
    have hp : (0 : Int) < 2 ^ n := Int.pow_pos (by decide)
    have h1 : (0 : Int) < mo 4 * 2 ^ n := Int.mul_pos (by decide) hp
    have e : mo 4 * 2 ^ (n + 1) = 2 * (mo 4 * 2 ^ n) := by rw [Int.pow_succ]; grind
    have e2 : mo 4 * 2 ^ (n + 1) / 2 = mo 4 * 2 ^ n := by rw [e]; omega
    refine ⟨x, ⟨HX.out.1, by rw [e]; omega, rfl, Int.lt_trans HX.out.2 (by decide)⟩, hss, ?_, ?_⟩
    ·rw [e2]
     exact hs7
    ·rw [e2]
     exact hsm
   clear hwa hss hs7 hsm hxs
   go_wp2_with fail
   go_loopw [9] (fun v wr => ∃ (z l : Int), v = .int .i64 z ∧ -1 ≤ z ∧ z ≤ 513 ∧ (0 ≤ l ∧ l < mo 4 * 2 ^ (z + 1).toNat ∧ l % mo 4 = x % mo 4 ∧ l < R544) ∧ SS w wr b5 l ∧ Ar wr b7 (wdr (mo 4 * 2 ^ (z + 1).toNat / 2)) ∧ mo 4 * 2 ^ (z + 1).toNat / 2 < R544) (fun v wr => (intOf v + 1).toNat)
   case atStart =>
    obtain ⟨l, h1, h2, h3, h4⟩ := Za.out
    exact ⟨n, l, rfl, by omega, by omega, h1, h2, h3, h4⟩
   case round =>
    clear Za
    obtain ⟨z, l, rfl, hz0, hz1, hl, hss, hs7, hsm⟩ := hrel
    by_cases hzz : 0 ≤ z
    ·obtain ⟨k, rfl⟩ : ∃ k : Nat, z = k := ⟨z.toNat, by omega⟩
     have hdz : decide ((0 : Int) ≤ (k : Int)) = true := by simp
     obtain ⟨S, hS⟩ : ∃ S, S = mo 4 * 2 ^ k := ⟨_, rfl⟩
     have e1 : mo 4 * 2 ^ ((k : Int) + 1).toNat = 2 * S := by rw [show ((k : Int) + 1).toNat = k + 1 by omega, Int.pow_succ, hS]; grind
     rw [e1] at hl hs7 hsm
     rw [show 2 * S / 2 = S by omega] at hs7 hsm
     have hS0 : 0 < S := by rw [hS]; exact Int.mul_pos (by decide) (Int.pow_pos (by decide))
     obtain ⟨l2, hl2⟩ : ∃ l2, l2 = if l < S then l else l - S := ⟨_, rfl⟩
     have hl2f : 0 ≤ l2 ∧ l2 < S ∧ l2 % mo 4 = x % mo 4 ∧ l2 < R544 := by
      by_cases h : l < S
      ·rw [hl2, if_pos h]
       exact ⟨hl.1, h, hl.2.2.1, hl.2.2.2⟩
      ·rw [hl2, if_neg h]
       refine ⟨by omega, by omega, ?_, by omega⟩
       rw [hS, Int.sub_mul_emod_self_left]
       exact hl.2.2.1
     obtain ⟨z', hz'⟩ : ∃ z' : Int, (k : Int) - 1 = z' := ⟨_, rfl⟩
     have wz := wrap_i (x := z') (by omega) (by omega)
     have HL : Hid ((0 ≤ l ∧ l < 2 * S ∧ l % mo 4 = x % mo 4 ∧ l < R544) ∧ (0 ≤ l2 ∧ l2 < S ∧ l2 % mo 4 = x % mo 4 ∧ l2 < R544) ∧ (l2 = if l < S then l else l - S) ∧ 0 < S ∧ S < R544 ∧ S = mo 4 * 2 ^ (z' + 1).toNat ∧ z' = (k : Int) - 1 ∧ k ≤ 513) := ⟨hl, hl2f, hl2, hS0, hsm, by rw [hS, show (z' + 1).toNat = k by omega], hz'.symm, by omega⟩
     have H : Hid (SS w wr b5 l ∧ Ar wr b7 (wdr S)) := ⟨hss, hs7⟩
     obtain ⟨WS, hWS⟩ : ∃ W, W = wdr S := ⟨_, rfl⟩
     obtain ⟨WL, hWL⟩ : ∃ W, W = wdr l := ⟨_, rfl⟩
     have HW : Hid (WS = wdr S ∧ WL = wdr l) := ⟨hWS, hWL⟩
     have HLo : Hid (∀ u, Calls Try.prog 83 #[.agg WL, .agg WS] u fun r w' => r = .returned (.bool (decide (l < S))) ∧ Chg u w') := fun u => by rw [hWS, hWL]; exact lower_any l S ⟨hl.1, hl.2.2.2⟩ ⟨by omega, hsm⟩ u
     have hsl := hss.l
     rw [← hWS] at hs7
     rw [← hWL] at hsl
     obtain ⟨tS, gS⟩ := hs7
     obtain ⟨tL, gL⟩ := hsl
     have sS := szA (dg B32 S)
     have sL := szA (dg B32 l)
     rw [show arr .u64 17 (dg B32 S) = WS from hWS.symm] at sS
     rw [show arr .u64 17 (dg B32 l) = WL from hWL.symm] at sL
     clear hl hss hsm hzz hS e1 hS0 hl2 hl2f hWS hWL
     go_wp2_with (first | refine wpList_load_row rfl 66 _ rfl _ rfl _ _ _ _ gL un49 rfl sL ?_ | refine wpList_load_row rfl 66 _ rfl _ rfl _ _ _ _ gS un49 rfl sS ?_)
     go_at_call 83
     refine (HLo.out _).mono ?_
     rintro r wb ⟨rfl, hcb⟩
     have Zb : Hid (SS w wb b5 l ∧ Ar wb b7 (wdr S)) := ⟨H.out.1.to hcb, H.out.2.chg hcb⟩
     clear hcb gS gL HLo H sL
     obtain ⟨bb, hbb⟩ : ∃ b : Bool, decide (l < S) = b := ⟨_, rfl⟩
     have HBB : Hid (decide (l < S) = bb) := hbb
     rw [hbb]
     clear hbb
     go_upto_if 88 with fail
     go_cut [12, 13, 14] from 89 to 108 (fun v12 v13 v14 wc => SS w wc b5 l2 ∧ Ar wc b7 (wdr S))
     case first =>
      cases bb with
      | true =>
       have hlt : l < S := by simpa using HBB.out
       have e : l2 = l := by rw [HL.out.2.2.1, if_pos hlt]
       clear hlt
       go_wp2_with fail
       go_meet
       rw [e]
       exact Zb.out
      | false =>
       have hge : ¬ l < S := by simpa using HBB.out
       have HE : Hid (l2 = l - S) := by show l2 = l - S; rw [HL.out.2.2.1, if_neg hge]
       clear hge
       rw [Bool.not_false]
       go_wp2_with fail
       go_loopw [12, 13] (fun v v13 wr => ∃ (i : Nat) (b : Int) (r : Nat → Int), v13 = .int .i64 i ∧ v = .int .u64 b ∧ i ≤ 17 ∧ (0 ≤ b ∧ b ≤ 1) ∧ SV w wr b5 b7 S (mixD i r (dg B32 l)) ∧ D32 r ∧ val B32 i r - b * B32 ^ i = val B32 i (dg B32 l) - val B32 i (dg B32 S)) (fun v v13 wr => 17 - (intOf v13).toNat)
       case atStart => exact ⟨0, 0, zD, rfl, rfl, by omega, by decide, by rw [mixD_zero]; exact ⟨Zb.out.1.chg, Zb.out.1.l, Zb.out.1.res, Zb.out.1.m, Zb.out.2⟩, fun i => by unfold zD; decide, rfl⟩
       case round =>
        clear Zb
        obtain ⟨i, b, rr, rfl, rfl, hi, hb, hsv, hrr, hv⟩ := hrel
        have H5 : Hid (SV w wr b5 b7 S (mixD i rr (dg B32 l)) ∧ D32 rr ∧ val B32 i rr - b * B32 ^ i = val B32 i (dg B32 l) - val B32 i (dg B32 S)) := ⟨hsv, hrr, hv⟩
        by_cases h17 : i < 17
        ·have hdi : decide ((i : Int) < 17) = true := by simp; omega
         have li : (i : Int) < 17 := by omega
         have li0 : (0 : Int) ≤ (i : Int) := by omega
         have c1 := (hsv.l.cell i).trans (arr_get .u64 17 _ h17)
         rw [mixD_at] at c1
         have c2 := (hsv.s.cell i).trans (arr_get .u64 17 _ h17)
         have f1 := hsv.l.frozen i
         obtain ⟨y, hy⟩ : ∃ y, y = dg B32 l i := ⟨_, rfl⟩
         obtain ⟨zz, hzq⟩ : ∃ z, z = dg B32 S i := ⟨_, rfl⟩
         have by' := dg32_b l i
         have bz := dg32_b S i
         rw [← hy] at c1 by'
         rw [← hzq] at c2 bz
         obtain ⟨uu, vv, lo, oo, e1, e2, e3, e4, HO⟩ := sub_dig by' bz hb
         have HYZ : Hid (y = dg B32 l i ∧ zz = dg B32 S i ∧ i < 17) := ⟨hy, hzq, h17⟩
         clear hsv hrr hv hy hzq by' bz hb
         go_wp2_with fail
         go_quiet (fail)
         go_wp2_with fail
         go_roundw
         case rel =>
          obtain ⟨k1, k2, k3⟩ := H5.out
          have hh := (k1.drewN nq).set HB.out HB7.out i lo
          rw [mixD_upd] at hh
          refine ⟨i + 1, oo, upd rr i lo, by go_num, rfl, by have := HYZ.out.2.2; omega, HO.out.2.2, hh, k2.upd i HO.out.2.1, ?_⟩
          have h0 := HO.out.1
          rw [HYZ.out.1, HYZ.out.2.1] at h0
          exact val_step' k3 h0
         case measure => simp [intOf]; have := HYZ.out.2.2; omega
        ·have : i = 17 := by omega
         subst this
         have hfin : val B32 17 rr = l - S := by
          rw [val17 l HL.out.1.1 HL.out.1.2.2.2, val17 S (by have := HL.out.2.2.2.1; omega) HL.out.2.2.2.2.1] at hv
          have h1 := v17_b hrr
          have h2 := HE.out
          have h3 := HL.out.2.1.1
          rw [p17] at hv
          have hb' : b = 0 ∨ b = 1 := by omega
          rcases hb' with rfl | rfl
          ·omega
          ·omega
         have hx3 := hsv.l
         rw [mixD_all, arr_wdr hrr, hfin, ← HE.out] at hx3
         have HF : Hid (SS w wr b5 l2 ∧ Ar wr b7 (wdr S)) := ⟨⟨hsv.chg, hx3, hsv.res, hsv.m⟩, hsv.s⟩
         clear hsv hrr hv hfin hx3 H5
         go_wp2_with fail
         go_meet
         exact HF.out
     clear Zb HBB
     obtain ⟨h1, h2⟩ := hcut
     obtain ⟨wd, hwd⟩ : ∃ wd, wd = wc := ⟨_, rfl⟩
     rw [← hwd] at h1 h2
     rw [← hwd]
     have Zd' : Hid (SS w wd b5 l2 ∧ Ar wd b7 (wdr S)) := ⟨h1, h2⟩
     rw [← HW.out.1] at h2
     obtain ⟨tS, gS⟩ := h2
     clear hwd h1
     obtain ⟨WH, hWH⟩ : ∃ W, W = wdr (S / 2) := ⟨_, rfl⟩
     have HWH : Hid (WH = wdr (S / 2)) := hWH
     have HHa : Hid (∀ u, Calls Try.prog 84 #[.agg WS] u fun r w' => r = .returned (.agg WH) ∧ Chg u w') := fun u => by rw [hWH, HW.out.1]; exact halved_any S ⟨by have := HL.out.2.2.2.1; omega, HL.out.2.2.2.2.1⟩ u
     have sH := szA (dg B32 (S / 2))
     have lH := lenA (dg B32 S) (dg B32 (S / 2))
     have oH := oneA (dg B32 (S / 2))
     rw [show arr .u64 17 (dg B32 (S / 2)) = WH from hWH.symm] at sH lH oH
     rw [show arr .u64 17 (dg B32 S) = WS from HW.out.1.symm] at lH
     clear hWH
     go_wp2_with (first | refine wpList_load_row rfl 66 _ rfl _ rfl _ _ _ _ gS un49 rfl sS ?_)
     go_at_call 84
     refine (HHa.out _).mono ?_
     rintro r we ⟨rfl, hce⟩
     have Ze : Hid (SS w we b5 l2 ∧ Ar we b7 WS) := ⟨Zd'.out.1.to hce, by rw [HW.out.1]; exact Zd'.out.2.chg hce⟩
     clear hce gS Zd' HHa
     obtain ⟨tS, gS⟩ := Ze.out.2
     go_wp2_with (first | refine wpList_store_row rfl 66 _ _ rfl _ _ rfl rfl _ _ gS sH lH oH ?_)
     go_roundw
     case rel =>
      obtain ⟨hh1, hh2, hh3, hh4, hh5, hh6, hh7, hh8⟩ := HL.out
      refine ⟨z', l2, by first | rfl | go_num, by omega, by omega, ⟨hh2.1, by rw [← hh6]; exact hh2.2.1, hh2.2.2.1, hh2.2.2.2⟩, Ze.out.1.row HB.out HB7.out _, ?_, ?_⟩
      ·rw [← hh6, ← HWH.out]
       exact Ze.out.2.row _
      ·rw [← hh6]
       omega
     case measure => simp [intOf]; have := HL.out.2.2.2.2.2.2; omega
    ·have : z = -1 := by omega
     subst this
     have hfin : l = x % mo 4 := by
      have h1 := hl.2.1
      rw [show ((-1 : Int) + 1).toNat = 0 from rfl, Int.pow_zero, Int.mul_one] at h1
      rw [← hl.2.2.1, Int.emod_eq_of_lt hl.1 h1]
     have hlN : N256 l := ⟨hl.1, by
      have h1 := hl.2.1
      rw [show ((-1 : Int) + 1).toNat = 0 from rfl, Int.pow_zero, Int.mul_one] at h1
      exact Int.lt_trans h1 (by decide)⟩
     obtain ⟨WL, hWL⟩ : ∃ W, W = wdr l := ⟨_, rfl⟩
     have HNu : Hid (∀ u, Calls Try.prog 65 #[.agg WL] u fun r w' => r = .returned (.agg ANS) ∧ Chg u w') := fun u => by
      have := number_any l hl.1 u
      rw [Int.emod_eq_of_lt hlN.1 hlN.2] at this
      rw [hWL, HANS.out, ← hfin]
      exact this
     have hsl := hss.l
     rw [← hWL] at hsl
     obtain ⟨tL, gL⟩ := hsl
     have sL := szA (dg B32 l)
     rw [show arr .u64 17 (dg B32 l) = WL from hWL.symm] at sL
     have hr0 := hss.res
     rw [← HN.out.2.2.2.1] at hr0
     have H : Hid (Chg w wr ∧ Ar wr (w.heap.size + 1 + 1) Z0) := ⟨hss.chg, hr0⟩
     have sA := szN (x % mo 4)
     have lA := lenN 0 (x % mo 4)
     have oA := num_one (x % mo 4)
     rw [← HANS.out] at sA lA oA
     rw [← HN.out.2.2.2.1] at lA
     clear hl hss hs7 hsm hzz hfin hlN hWL hr0
     go_wp2_with (first | refine wpList_load_row rfl 66 _ rfl _ rfl _ _ _ _ gL un49 rfl sL ?_)
     go_at_call 65
     refine (HNu.out _).mono ?_
     rintro r wf ⟨rfl, hcf⟩
     have Zf : Hid (Chg w wf ∧ Ar wf (w.heap.size + 1 + 1) Z0) := ⟨H.out.1.trans hcf, H.out.2.chg hcf⟩
     clear hcf gL H
     obtain ⟨t3, g3⟩ := Zf.out.2
     go_wp2_with (first | refine wpList_store_row rfl 24 _ _ rfl _ _ rfl rfl _ _ g3 sA lA oA ?_)
     refine bp_n (x := x % mo 4) Try.results63 rfl rfl ?_ ⟨by rw [HANS.out], ?_⟩
     ·rw [← HANS.out]
      exact Zf.out.2.row _
     ·exact Zf.out.1.setRow (by omega) _
end Go.Proofs.Ytbdgmkejmfjobaa
