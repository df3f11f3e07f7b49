/-
  How many bits a number has: no more than the function length says.
  How many bits a number has: the function length.
  Powers in a field.
  Inverses; what may be a root modulo P-256's prime.
-/
import Derived.Test.YtbdgmkejmfjobaaJf
import Derived.Lib.BitFns
import Derived.Deep.Light
namespace Go.Proofs.Ytbdgmkejmfjobaa
set_option maxRecDepth 100000
open Go.RowKit
set_option linter.unusedVariables false

theorem len8_fin : ∀ n : Fin 256, (Lib.len8 (n.val : Int)).toNat ≤ 8 ∧ 0 ≤ Lib.len8 (n.val : Int) ∧ n.val < 2 ^ (Lib.len8 (n.val : Int)).toNat := by decide +kernel
theorem len8_of' (y : Int) (h0 : 0 ≤ y) (h1 : y ≤ 255) : ∃ m : Nat, Lib.len8 y = m ∧ m ≤ 8 ∧ y < 2 ^ m := by
  have e := len8_fin ⟨y.toNat, by omega⟩
  simp only [Int.toNat_of_nonneg h0] at e
  refine ⟨(Lib.len8 y).toNat, by omega, e.1, ?_⟩
  have := e.2.2
  generalize (Lib.len8 y).toNat = m at *
  have h2 : ((y.toNat : Nat) : Int) < ((2 ^ m : Nat) : Int) := by exact_mod_cast this
  rw [Int.toNat_of_nonneg h0] at h2
  exact_mod_cast h2

theorem tab_get (y : Int) (h : y.toNat < Lib.len8tab.size) : ((Lib.len8tab[y.toNat]'h).toNat : Int) = Lib.len8 y := by
  show _ = ((((Lib.len8tab[y.toNat]?).getD 0).toNat : Nat) : Int)
  rw [getElem?_pos Lib.len8tab y.toNat h]
  rfl
theorem tab_size : (Lib.len8tab.size : Int) = 256 := by rw [Lib.len8tab_size]; rfl
theorem wrapK (k m : Nat) (hk : k ≤ 56) (hm : m ≤ 8) : wrap64 ((k : Int) + wrap64 (m : Int)) = ((k + m : Nat) : Int) := by
  unfold wrap64
  omega
theorem wrapM (m : Nat) (hm : m ≤ 8) : wrap64 (wrap64 (m : Int)) = ((0 + m : Nat) : Int) := by
  unfold wrap64
  omega
theorem up_pow (x y : Int) (k m : Nat) (hxy : x < 2 ^ k * (y + 1)) (hy : y < 2 ^ m) : x < 2 ^ (k + m) := by
  rw [Int.pow_add]
  have hp : (0 : Int) < 2 ^ k := Int.pow_pos (by decide)
  generalize (2 : Int) ^ k = c at *
  generalize (2 : Int) ^ m = d at *
  exact Int.lt_of_lt_of_le hxy (Int.mul_le_mul_of_nonneg_left (by omega) (by omega))

set_option maxRecDepth 100000 in
set_option maxHeartbeats 8000000 in
theorem len64_any (x : Int) (h0 : 0 ≤ x) (h1 : x ≤ 18446744073709551615) (w : World) : Calls Try.prog 97 #[.int .u64 x] w fun r w' => ∃ n : Nat, r = .returned (.int .i64 n) ∧ w' = w ∧ n ≤ 64 ∧ x < 2 ^ n := by
  go_enter Try.func97, Try.ntmps97
  go_wp2
  all_goals first
    | go_ret
    | (exfalso
       go_light
       have hs := tab_size
       omega)
  all_goals go_light
  all_goals first
    | (obtain ⟨m, e, hm, hy⟩ := len8_of' (x / 4294967296 / 65536 / 256) (by omega) (by omega)
       refine ⟨56 + m, congrArg Ending.returned (congrArg (Value.int IntKind.i64) ?_), rfl, by omega, up_pow x (x / 4294967296 / 65536 / 256) 56 m (by rw [show ((2 : Int) ^ 56) = 72057594037927936 from rfl]; omega) hy⟩
       rw [tab_get (x / 4294967296 / 65536 / 256) _, e]
       exact wrapK 56 m (by decide) hm)
    | (obtain ⟨m, e, hm, hy⟩ := len8_of' (x / 4294967296 / 65536) (by omega) (by omega)
       refine ⟨48 + m, congrArg Ending.returned (congrArg (Value.int IntKind.i64) ?_), rfl, by omega, up_pow x (x / 4294967296 / 65536) 48 m (by rw [show ((2 : Int) ^ 48) = 281474976710656 from rfl]; omega) hy⟩
       rw [tab_get (x / 4294967296 / 65536) _, e]
       exact wrapK 48 m (by decide) hm)
    | (obtain ⟨m, e, hm, hy⟩ := len8_of' (x / 4294967296 / 256) (by omega) (by omega)
       refine ⟨40 + m, congrArg Ending.returned (congrArg (Value.int IntKind.i64) ?_), rfl, by omega, up_pow x (x / 4294967296 / 256) 40 m (by rw [show ((2 : Int) ^ 40) = 1099511627776 from rfl]; omega) hy⟩
       rw [tab_get (x / 4294967296 / 256) _, e]
       exact wrapK 40 m (by decide) hm)
    | (obtain ⟨m, e, hm, hy⟩ := len8_of' (x / 4294967296) (by omega) (by omega)
       refine ⟨32 + m, congrArg Ending.returned (congrArg (Value.int IntKind.i64) ?_), rfl, by omega, up_pow x (x / 4294967296) 32 m (by rw [show ((2 : Int) ^ 32) = 4294967296 from rfl]; omega) hy⟩
       rw [tab_get (x / 4294967296) _, e]
       exact wrapK 32 m (by decide) hm)
    | (obtain ⟨m, e, hm, hy⟩ := len8_of' (x / 65536 / 256) (by omega) (by omega)
       refine ⟨24 + m, congrArg Ending.returned (congrArg (Value.int IntKind.i64) ?_), rfl, by omega, up_pow x (x / 65536 / 256) 24 m (by rw [show ((2 : Int) ^ 24) = 16777216 from rfl]; omega) hy⟩
       rw [tab_get (x / 65536 / 256) _, e]
       exact wrapK 24 m (by decide) hm)
    | (obtain ⟨m, e, hm, hy⟩ := len8_of' (x / 65536) (by omega) (by omega)
       refine ⟨16 + m, congrArg Ending.returned (congrArg (Value.int IntKind.i64) ?_), rfl, by omega, up_pow x (x / 65536) 16 m (by rw [show ((2 : Int) ^ 16) = 65536 from rfl]; omega) hy⟩
       rw [tab_get (x / 65536) _, e]
       exact wrapK 16 m (by decide) hm)
    | (obtain ⟨m, e, hm, hy⟩ := len8_of' (x / 256) (by omega) (by omega)
       refine ⟨8 + m, congrArg Ending.returned (congrArg (Value.int IntKind.i64) ?_), rfl, by omega, up_pow x (x / 256) 8 m (by rw [show ((2 : Int) ^ 8) = 256 from rfl]; omega) hy⟩
       rw [tab_get (x / 256) _, e]
       exact wrapK 8 m (by decide) hm)
    | (obtain ⟨m, e, hm, hy⟩ := len8_of' (x) (by omega) (by omega)
       refine ⟨0 + m, congrArg Ending.returned (congrArg (Value.int IntKind.i64) ?_), rfl, by omega, up_pow x (x) 0 m (by rw [show ((2 : Int) ^ 0) = 1 from rfl]; omega) hy⟩
       rw [tab_get (x) _, e]
       exact wrapM m hm)
end Go.Proofs.Ytbdgmkejmfjobaa

namespace Go.Proofs.Ytbdgmkejmfjobaa
set_option maxRecDepth 100000
open Go.RowKit
set_option linter.unusedVariables false
theorem low_next (x : Int) (k : Nat) : x % B64 ^ (k + 1) = x % B64 ^ k + dg B64 x k * B64 ^ k := by
 rw [← val_dg B64_pos (k + 1) x, val1, val_dg B64_pos k x]
theorem low_none {x : Int} {k n : Nat} (h : x % B64 ^ k < 2 ^ n) (hd : dg B64 x k = 0) : x % B64 ^ (k + 1) < 2 ^ n := by
 rw [low_next, hd, Int.zero_mul, Int.add_zero]
 exact h
theorem low_some {x : Int} {k m : Nat} (hd : dg B64 x k < 2 ^ m) : x % B64 ^ (k + 1) < 2 ^ (64 * k + m) := by
 rw [low_next, Int.pow_add, Int.pow_mul]
 have e : ((2 : Int) ^ 64) = B64 := rfl
 rw [e]
 have hp := pow_pos' B64_pos k
 have h1 := Int.emod_lt_of_pos x hp
 have h2 : dg B64 x k * B64 ^ k ≤ (2 ^ m - 1) * B64 ^ k := Int.mul_le_mul_of_nonneg_right (by omega) (by omega)
 rw [Int.sub_mul, Int.one_mul] at h2
 rw [Int.mul_comm (B64 ^ k) (2 ^ m)]
 omega
set_option maxHeartbeats 8000000 in
theorem length_any (x : Int) (hx : N256 x) (w : World) : Calls Try.prog 88 #[.agg (num x)] w fun r w' => ∃ n : Nat, r = .returned (.int .i64 n) ∧ n ≤ 256 ∧ x < 2 ^ n ∧ Chg w w' := by
 have HX : Hid (N256 x) := hx
 have hsA := num_size x
 obtain ⟨A, hA⟩ : ∃ A, A = num x := ⟨_, rfl⟩
 have HA : Hid (A = num x) := hA
 rw [← hA] at hsA ⊢
 clear hA hx
 go_enter Try.func88, Try.ntmps88
 go_upto_region 1 with fail
 obtain ⟨w1, hw1⟩ : ∃ w1, w1 = w.alloc (.cells A 24) := ⟨_, rfl⟩
 have Z : Hid (Chg w w1 ∧ Ar w1 w.heap.size (num x)) := by
  rw [hw1, HA.out]
  exact ⟨(Chg.refl w).alloc _, Ar.new w _ _⟩
 rw [← hw1]
 clear hw1 hsA
 go_wp2_with fail
 go_loopw [3, 5] (fun nv v wr => ∃ (n k : Nat), nv = .int .i64 n ∧ v = .int .i64 k ∧ k ≤ 4 ∧ (n ≤ 64 * k ∧ x % B64 ^ k < 2 ^ n) ∧ Chg w wr ∧ Ar wr w.heap.size (num x)) (fun nv v wr => 4 - (intOf v).toNat)
 case atStart => exact ⟨0, 0, rfl, rfl, by omega, ⟨by omega, by simp [Int.emod_one]⟩, Z.out⟩
 case round =>
  clear Z
  obtain ⟨n, k, rfl, rfl, hk, hn, hc, ha⟩ := hrel
  have Z : Hid (Chg w wr ∧ Ar wr w.heap.size (num x)) := ⟨hc, ha⟩
  have HN : Hid (n ≤ 64 * k ∧ x % B64 ^ k < 2 ^ n) := hn
  clear hn hc
  by_cases hk4 : k < 4
  ·have c1 := (ha.cell k).trans (arr_get .u64 4 _ hk4)
   have dw := dg_w x k
   obtain ⟨d, hd⟩ : ∃ d, d = dg B64 x k := ⟨_, rfl⟩
   rw [← hd] at c1 dw
   have HD : Hid (d = dg B64 x k ∧ W64 d) := ⟨hd, dw⟩
   clear hd dw ha
   have lk : (k : Int) < 4 := by omega
   by_cases h0 : d = 0
   ·subst h0
    go_wp2_with fail
    go_roundw
    case rel => exact ⟨n, k + 1, rfl, by go_num, by omega, ⟨by have := HN.out.1; omega, low_none HN.out.2 HD.out.1.symm⟩, Z.out⟩
    case measure => simp [intOf]; omega
   ·have hb : (d != 0) = true := by simp [h0]
    obtain ⟨q, hq⟩ : ∃ q : Nat, (64 : Int) * k = q := ⟨64 * k, by omega⟩
    have wq := wrap_i (x := (q : Int)) (by omega) (by omega)
    have HQ : Hid (q = 64 * k) := by show q = 64 * k; omega
    go_wp2_with fail
    go_at_call 97
    refine (len64_any d HD.out.2.1 (by have := HD.out.2.2; unfold B64 at this; omega) _).mono ?_
    rintro r w2 ⟨m, rfl, rfl, hm, hdm⟩
    have HM : Hid (d < 2 ^ m) := hdm
    clear hdm
    obtain ⟨s, hs⟩ : ∃ s : Nat, (q : Int) + m = s := ⟨q + m, by omega⟩
    have ws := wrap_i (x := (s : Int)) (by omega) (by omega)
    have HS : Hid (s = q + m) := by show s = q + m; omega
    go_wp2_with fail
    go_roundw
    case rel =>
     refine ⟨s, k + 1, rfl, by go_num, by omega, ⟨?_, ?_⟩, Z.out⟩
     ·rw [HS.out, HQ.out]; omega
     ·rw [HS.out, HQ.out]
      exact low_some (by rw [← HD.out.1]; exact HM.out)
    case measure => simp [intOf]; omega
  ·have : k = 4 := by omega
   subst this
   rw [show ((4 : Nat) : Int) = 4 from rfl]
   clear ha
   go_wp2_with fail
   go_ret
   refine ⟨n, rfl, by have := HN.out.1; omega, ?_, Z.out.1⟩
   have := HN.out.2
   rwa [p4, Int.emod_eq_of_lt HX.out.1 HX.out.2] at this
end Go.Proofs.Ytbdgmkejmfjobaa

namespace Go.Proofs.Ytbdgmkejmfjobaa
set_option maxRecDepth 100000
open Go.RowKit
set_option linter.unusedVariables false
theorem pw_sq (a M : Int) (t : Nat) : (a ^ t % M) * (a ^ t % M) % M = a ^ (2 * t) % M := by
 rw [← Int.mul_emod, ← Int.pow_add, show t + t = 2 * t by omega]
theorem pw_one (a M : Int) (t : Nat) : (a ^ t % M) * a % M = a ^ (t + 1) % M := by
 rw [Int.mul_emod, Int.emod_emod_of_dvd _ (Int.dvd_refl M), ← Int.mul_emod, ← Int.pow_succ]
def up (e : Int) (k : Nat) : Nat := (e / 2 ^ k).toNat
theorem up_none {e : Int} {n : Nat} (h0 : 0 ≤ e) (h : e < 2 ^ n) : up e n = 0 := by
 unfold up
 rw [Int.ediv_eq_zero_of_lt h0 h]
 rfl
theorem up_all {e : Int} : up e 0 = e.toNat := by
 unfold up
 rw [Int.pow_zero, Int.ediv_one]
theorem up_next {e : Int} (h0 : 0 ≤ e) (k : Nat) : (up e k : Int) = 2 * up e (k + 1) + dg 2 e k := by
 have hp : (0 : Int) < 2 ^ k := Int.pow_pos (by decide)
 have h1 : 0 ≤ e / 2 ^ k := Int.ediv_nonneg h0 (by omega)
 have e2 : e / 2 ^ (k + 1) = e / 2 ^ k / 2 := by rw [Int.pow_succ, Int.ediv_ediv_of_nonneg (by omega)]
 unfold up dg
 rw [e2]
 generalize e / 2 ^ k = y at *
 omega
theorem num_set1 : (num 0).setIfInBounds 0 (.int .u64 1) = num 1 := by kernel_rfl
theorem N1 : N256 1 := ⟨by decide, by decide⟩
theorem N_mod {f : Int} (hf : f = 1 ∨ f = 2 ∨ f = 3 ∨ f = 4) (x : Int) : N256 (x % mo f) := by
 obtain ⟨h1, h2⟩ := mo_pos4 hf
 have k1 := Int.emod_nonneg x (show mo f ≠ 0 by omega)
 have k3 := Int.emod_lt_of_pos x h1
 exact ⟨k1, by omega⟩
structure XS (w wr : World) (b : Nat) (A E P : Array Value) : Prop where
 chg : Chg w wr
 at0 : Ar wr w.heap.size A
 at1 : Ar wr (w.heap.size + 1) E
 at2 : Ar wr (w.heap.size + 1 + 1) (num 0)
 pow : Ar wr b P
theorem XS.to {w wr u : World} {b : Nat} {A E P : Array Value} (h : XS w wr b A E P) (k : Chg wr u) : XS w u b A E P := ⟨h.chg.trans k, h.at0.chg k, h.at1.chg k, h.at2.chg k, h.pow.chg k⟩
theorem XS.row {w wr : World} {b : Nat} {A E P : Array Value} (h : XS w wr b A E P) (hb : w.heap.size + 2 < b) (Q : Array Value) : XS w (wr.setRow b Q) b A E Q := ⟨h.chg.setRow (by omega) _, h.at0.rowOther (by omega) _, h.at1.rowOther (by omega) _, h.at2.rowOther (by omega) _, h.pow.row _⟩
set_option maxHeartbeats 8000000 in
theorem exp_any (f a e : Int) (hf : f = 1 ∨ f = 2 ∨ f = 3 ∨ f = 4) (ha : N256 a) (he : N256 e) (w : World) : Calls Try.prog 73 #[.int .i64 f, .agg (num a), .agg (num e)] w fun r w' => r = .returned (.agg (num (a ^ e.toNat % mo f))) ∧ Chg w w' := by
 have HN : Hid (N256 a ∧ N256 e ∧ (f = 1 ∨ f = 2 ∨ f = 3 ∨ f = 4)) := ⟨ha, he, hf⟩
 have hz := zero25.1
 have hsA := num_size a
 have hsE := num_size e
 have iA := infoN a
 have iE := infoN e
 obtain ⟨A, hA⟩ : ∃ A, A = num a := ⟨_, rfl⟩
 obtain ⟨E, hE⟩ : ∃ E, E = num e := ⟨_, rfl⟩
 have HA : Hid (A = num a ∧ E = num e) := ⟨hA, hE⟩
 rw [← hA] at hsA iA ⊢
 rw [← hE] at hsE iE ⊢
 clear hA hE ha he hf
 go_enter Try.func73, Try.ntmps73
 go_upto_region 1 with fail
 obtain ⟨w1, hw1⟩ : ∃ w1, w1 = ((w.alloc (.cells A 24)).alloc (.cells E 24)).alloc (.cells (num 0) 24) := ⟨_, rfl⟩
 have Z : Hid (Chg w w1 ∧ Ar w1 w.heap.size A ∧ Ar w1 (w.heap.size + 1) E ∧ Ar w1 (w.heap.size + 1 + 1) (num 0)) := by
  rw [hw1]
  exact ⟨(((Chg.refl w).alloc _).alloc _).alloc _, ((Ar.new w _ _).alloc _).alloc _, (Ar.new1 w _ _ _).alloc _, Ar.new2 w _ _ _ _⟩
 rw [← hw1]
 clear hw1 hsA hsE
 go_wp2_with fail
 rw [num_set1]
 go_at_call 86
 refine (rest_any f 1 HN.out.2.2 N1 _).mono ?_
 rintro r w2 ⟨rfl, hc2⟩
 obtain ⟨P0, hP⟩ : ∃ P0, P0 = num (1 % mo f) := ⟨_, rfl⟩
 have HP : Hid (P0 = num (1 % mo f)) := hP
 have s1 : (Try.prog.info? 24).map (·.size) = some P0.size := by rw [hP]; exact szN _
 have l1 : (num 0).size = P0.size := by rw [hP]; exact lenN _ _
 have o1 : P0.all (·.oneCell') = true := by rw [hP]; exact num_one _
 rw [← hP]
 clear hP
 go_upto_region 2 with (first | refine wpList_store_row rfl 24 _ _ rfl _ _ rfl rfl _ _ (heap_alloc_last w2 _) s1 l1 o1 ?_)
 obtain ⟨b, hb⟩ : ∃ b, b = w2.heap.size := ⟨_, rfl⟩
 obtain ⟨w3, hw3⟩ : ∃ w3, w3 = (w2.alloc (.cells (num 0) 24)).setRow w2.heap.size P0 := ⟨_, rfl⟩
 have HB : Hid (w.heap.size + 2 < b) := by
  have h1 := Z.out.2.2.2.lt
  have h2 := hc2.size
  show w.heap.size + 2 < b
  omega
 have Z3 : Hid (XS w w3 b A E P0) := by
  have hx : XS w (w2.alloc (.cells (num 0) 24)) w2.heap.size A E (num 0) := by
   have q := Z.out
   exact ⟨(q.1.trans hc2).alloc _, (q.2.1.chg hc2).alloc _, (q.2.2.1.chg hc2).alloc _, (q.2.2.2.chg hc2).alloc _, Ar.new w2 _ _⟩
  have := HB.out
  rw [hw3, hb]
  exact hx.row (by omega) P0
 rw [← hw3, ← hb]
 clear hw3 hb hc2 Z s1 l1 o1
 have r5 := rangeA Z3.out.at1
 go_wp2_with (first
  | refine wpList_load_mid rfl 24 (.tmp 5) rfl _ _ rfl (E.toList) _ r5 undNum rfl iE ?_)
 go_at_call 88
 have kl := fun W => length_any e HN.out.2.1 W
 rw [← HA.out.2] at kl
 refine (kl _).mono ?_
 rintro r w4 ⟨n, rfl, hn, hen, hc4⟩
 have HE : Hid (e < 2 ^ n ∧ n ≤ 256) := ⟨hen, hn⟩
 have Z4 : Hid (XS w w4 b A E (num (a ^ up e (n - 0) % mo f))) := by
  have h := Z3.out.to hc4
  rw [HP.out] at h
  rw [Nat.sub_zero, up_none HN.out.2.1.1 hen, Int.pow_zero]
  exact h
 clear kl hen hc4 Z3 r5 HP
 go_wp2_with fail
 go_loopw [16] (fun v wr => ∃ (i : Nat), v = .int .i64 i ∧ i ≤ n ∧ XS w wr b A E (num (a ^ up e (n - i) % mo f))) (fun v wr => n - (intOf v).toNat)
 case atStart => exact ⟨0, rfl, by omega, Z4.out⟩
 case round =>
  clear Z4
  obtain ⟨i, rfl, hi, hxs⟩ := hrel
  have Z : Hid (XS w wr b A E (num (a ^ up e (n - i) % mo f))) := hxs
  clear hxs
  by_cases hlt : i < n
  ·have hd : decide ((i : Int) < n) = true := by simp; omega
   have li : (i : Int) < n := by omega
   obtain ⟨n1, hn1⟩ : ∃ n1 : Nat, (n : Int) - 1 = n1 := ⟨n - 1, by omega⟩
   have wn1 := wrap_i (x := (n1 : Int)) (by omega) (by omega)
   obtain ⟨j, hj⟩ : ∃ j : Nat, (n1 : Int) - i = j := ⟨n1 - i, by omega⟩
   have wj := wrap_i (x := (j : Int)) (by omega) (by omega)
   have HJ : Hid (n - i = j + 1 ∧ n - (i + 1) = j ∧ j < 256) := ⟨by omega, by omega, by omega⟩
   obtain ⟨t, ht⟩ : ∃ t, t = up e (n - i) := ⟨_, rfl⟩
   have HT : Hid ((up e j : Int) = 2 * t + dg 2 e j) := by
    show (up e j : Int) = 2 * t + dg 2 e j
    rw [ht, HJ.out.1]
    exact up_next HN.out.2.1.1 j
   rw [← ht] at Z
   clear ht
   obtain ⟨P, hP⟩ : ∃ P, P = num (a ^ t % mo f) := ⟨_, rfl⟩
   obtain ⟨P2, hP2⟩ : ∃ P, P = num (a ^ (2 * t) % mo f) := ⟨_, rfl⟩
   obtain ⟨P3, hP3⟩ : ∃ P, P = num (a ^ (2 * t + 1) % mo f) := ⟨_, rfl⟩
   have HP : Hid (P2 = num (a ^ (2 * t) % mo f) ∧ P3 = num (a ^ (2 * t + 1) % mo f)) := ⟨hP2, hP3⟩
   have K : Hid ((∀ W, Calls Try.prog 60 #[.int .i64 f, .agg P, .agg P] W fun r w' => r = .returned (.agg P2) ∧ Chg W w') ∧ (∀ W, Calls Try.prog 60 #[.int .i64 f, .agg P2, .agg A] W fun r w' => r = .returned (.agg P3) ∧ Chg W w')) := by
    rw [hP, hP2, hP3, HA.out.1, ← pw_sq, ← pw_one a _ (2 * t), ← pw_sq]
    exact ⟨fun W => mul_any f _ _ HN.out.2.2 (N_mod HN.out.2.2 _) (N_mod HN.out.2.2 _) W, fun W => mul_any f _ _ HN.out.2.2 (N_mod HN.out.2.2 _) HN.out.1 W⟩
   have kb := fun W => bit_any e j HJ.out.2.2 W
   rw [← HA.out.2] at kb
   obtain ⟨bb, hbb⟩ : ∃ bb, bb = (dg 2 e j == 1) := ⟨_, rfl⟩
   rw [← hbb] at kb
   have KB : Hid (∀ W, Calls Try.prog 89 #[.agg E, .int .i64 j] W fun r w' => r = .returned (.bool bb) ∧ Chg W w') := kb
   have HBb : Hid (bb = (dg 2 e j == 1)) := hbb
   have iP : (Try.prog.info? 24).map (·.size) = some P.toList.length := by rw [hP]; exact infoN _
   have iP2 : (Try.prog.info? 24).map (·.size) = some P2.toList.length := by rw [hP2]; exact infoN _
   have s2 : (Try.prog.info? 24).map (·.size) = some P2.size := by rw [hP2]; exact szN _
   have l2 : P.size = P2.size := by rw [hP, hP2]; exact lenN _ _
   have o2 : P2.all (·.oneCell') = true := by rw [hP2]; exact num_one _
   have s3 : (Try.prog.info? 24).map (·.size) = some P3.size := by rw [hP3]; exact szN _
   have l3 : P2.size = P3.size := by rw [hP2, hP3]; exact lenN _ _
   have o3 : P3.all (·.oneCell') = true := by rw [hP3]; exact num_one _
   rw [← hP] at Z
   clear hP hP2 hP3 kb hbb
   have r7 := rangeA Z.out.pow
   go_wp2_with (first
    | refine wpList_load_mid rfl 24 (.tmp 7) rfl _ _ rfl (P.toList) _ r7 undNum rfl iP ?_)
   go_at_call 60
   refine (K.out.1 _).mono ?_
   rintro r w5 ⟨rfl, hc5⟩
   have Z5 : Hid (XS w w5 b A E P) := Z.out.to hc5
   obtain ⟨t7, g7⟩ := Z5.out.pow
   clear hc5 r7 Z
   go_upto_region 7 with (first | refine wpList_store_row rfl 24 _ _ rfl _ _ rfl rfl _ _ g7 s2 l2 o2 ?_)
   obtain ⟨w6, hw6⟩ : ∃ w6, w6 = w5.setRow b P2 := ⟨_, rfl⟩
   have Z6 : Hid (XS w w6 b A E P2) := by rw [hw6]; exact Z5.out.row HB.out P2
   rw [← hw6]
   clear hw6 g7 Z5 s2 l2 o2
   have r5 := rangeA Z6.out.at1
   go_wp2_with (first
    | refine wpList_load_mid rfl 24 (.tmp 5) rfl _ _ rfl (E.toList) _ r5 undNum rfl iE ?_)
   go_at_call 89
   refine (KB.out _).mono ?_
   rintro r w7 ⟨rfl, hc7⟩
   have Z7 : Hid (XS w w7 b A E P2) := Z6.out.to hc7
   clear hc7 r5 Z6
   have hbd := dg_bound (B := 2) (by decide) e j
   cases bb with
   | true =>
    have r7 := rangeA Z7.out.pow
    have r4 := rangeA Z7.out.at0
    go_wp2_with (first
     | refine wpList_load_mid rfl 24 (.tmp 7) rfl _ _ rfl (P2.toList) _ r7 undNum rfl iP2 ?_
     | refine wpList_load_mid rfl 24 (.tmp 4) rfl _ _ rfl (A.toList) _ r4 undNum rfl iA ?_)
    go_at_call 60
    refine (K.out.2 _).mono ?_
    rintro r w8 ⟨rfl, hc8⟩
    have Z8 : Hid (XS w w8 b A E P2) := Z7.out.to hc8
    obtain ⟨t7, g7⟩ := Z8.out.pow
    clear hc8 r7 r4 Z7
    go_wp2_with (first | refine wpList_store_row rfl 24 _ _ rfl _ _ rfl rfl _ _ g7 s3 l3 o3 ?_)
    go_roundw
    case rel =>
     refine ⟨i + 1, by go_num, by omega, ?_⟩
     have h1 : dg 2 e j = 1 := by have := HBb.out; simpa using this.symm
     have h2 : up e j = 2 * t + 1 := by have := HT.out; omega
     rw [HJ.out.2.1, h2, ← HP.out.2]
     exact Z8.out.row HB.out P3
    case measure => simp [intOf]; omega
   | false =>
    go_wp2_with fail
    go_roundw
    case rel =>
     refine ⟨i + 1, by go_num, by omega, ?_⟩
     have h1 : ¬ dg 2 e j = 1 := by have := HBb.out; simpa using this.symm
     have h2 : up e j = 2 * t := by have := HT.out; omega
     rw [HJ.out.2.1, h2, ← HP.out.1]
     exact Z7.out
    case measure => simp [intOf]; omega
  ·have : i = n := by omega
   subst this
   rw [Nat.sub_self, up_all] at Z
   obtain ⟨P, hP⟩ : ∃ P, P = num (a ^ e.toNat % mo f) := ⟨_, rfl⟩
   have HP : Hid (P = num (a ^ e.toNat % mo f)) := hP
   have iP : (Try.prog.info? 24).map (·.size) = some P.toList.length := by rw [hP]; exact infoN _
   have s1 : (Try.prog.info? 24).map (·.size) = some P.size := by rw [hP]; exact szN _
   have l1 : (num 0).size = P.size := by rw [hP]; exact lenN _ _
   have o1 : P.all (·.oneCell') = true := by rw [hP]; exact num_one _
   rw [← hP] at Z
   clear hP
   have r7 := rangeA Z.out.pow
   obtain ⟨t6, g6⟩ := Z.out.at2
   go_wp2_with (first
    | refine wpList_load_mid rfl 24 (.tmp 7) rfl _ _ rfl (P.toList) _ r7 undNum rfl iP ?_
    | refine wpList_store_row rfl 24 _ _ rfl _ _ rfl rfl _ _ g6 s1 l1 o1 ?_)
   rw [HP.out]
   refine bp_n (x := a ^ e.toNat % mo f) Try.results73 rfl rfl ?_ ⟨rfl, Z.out.chg.setRow (by omega) _⟩
   exact Z.out.at2.row _
end Go.Proofs.Ytbdgmkejmfjobaa

namespace Go.Proofs.Ytbdgmkejmfjobaa
set_option maxRecDepth 100000
open Go.RowKit
set_option linter.unusedVariables false
theorem num_set2 : (num 0).setIfInBounds 0 (.int .u64 2) = num 2 := by kernel_rfl
theorem N2 : N256 2 := ⟨by decide, by decide⟩
theorem mo_less {f : Int} (hf : f = 1 ∨ f = 2 ∨ f = 3 ∨ f = 4) : (mo f - 2) % R256 = mo f - 2 ∧ N256 (mo f - 2) := by
 rcases hf with rfl | rfl | rfl | rfl <;> exact ⟨by decide +kernel, by constructor <;> decide +kernel⟩
set_option maxHeartbeats 8000000 in
theorem inv_any (f a : Int) (hf : f = 1 ∨ f = 2 ∨ f = 3 ∨ f = 4) (ha : N256 a) (w : World) : Calls Try.prog 54 #[.int .i64 f, .agg (num a)] w fun r w' => r = .returned (.agg (num (a ^ (mo f - 2).toNat % mo f))) ∧ Chg w w' := by
 have HN : Hid (N256 a ∧ (f = 1 ∨ f = 2 ∨ f = 3 ∨ f = 4)) := ⟨ha, hf⟩
 have hz := zero25.1
 have hsA := num_size a
 have iA := infoN a
 have iL := infoN (mo f - 2)
 have k1 := fun W => modulus_any f W
 have k2 := fun W => minus_num (mo f) 2 (mo_N f) N2 W
 have k3 := fun W => exp_any f a (mo f - 2) hf ha (mo_less hf).2 W
 rw [(mo_less hf).1] at k2
 have sL := szN (mo f - 2)
 have lL := lenN 0 (mo f - 2)
 have oL := num_one (mo f - 2)
 obtain ⟨A, hA⟩ : ∃ A, A = num a := ⟨_, rfl⟩
 obtain ⟨M, hM⟩ : ∃ M, M = num (mo f) := ⟨_, rfl⟩
 obtain ⟨L, hL⟩ : ∃ L, L = num (mo f - 2) := ⟨_, rfl⟩
 obtain ⟨o, ho⟩ : ∃ o, o = bor (mo f) 2 := ⟨_, rfl⟩
 obtain ⟨X, hX⟩ : ∃ X, X = num (a ^ (mo f - 2).toNat % mo f) := ⟨_, rfl⟩
 have HXe : Hid (X = num (a ^ (mo f - 2).toNat % mo f)) := hX
 have sX : (Try.prog.info? 24).map (·.size) = some X.size := by rw [hX]; exact szN _
 have lX : (num 0).size = X.size := by rw [hX]; exact lenN _ _
 have oX : X.all (·.oneCell') = true := by rw [hX]; exact num_one _
 rw [← hA] at hsA iA k3 ⊢
 rw [← hM] at k1 k2
 rw [← hL] at iL k2 k3 sL lL oL
 rw [← ho] at k2
 rw [← hX] at k3
 have HK : Hid ((∀ W, Calls Try.prog 59 #[.int .i64 f] W fun r w' => r = .returned (.agg M) ∧ Chg W w') ∧ (∀ W, Calls Try.prog 72 #[.agg M, .agg (num 2)] W fun r w' => r = .returned (.tuple #[.agg L, .int .u64 o]) ∧ Chg W w') ∧ (∀ W, Calls Try.prog 73 #[.int .i64 f, .agg A, .agg L] W fun r w' => r = .returned (.agg X) ∧ Chg W w')) := ⟨k1, k2, k3⟩
 have HSz : Hid (((Try.prog.info? 24).map (·.size) = some L.size ∧ (num 0).size = L.size ∧ L.all (·.oneCell') = true) ∧ (Try.prog.info? 24).map (·.size) = some X.size ∧ (num 0).size = X.size ∧ X.all (·.oneCell') = true) := ⟨⟨sL, lL, oL⟩, sX, lX, oX⟩
 have HI : Hid ((Try.prog.info? 24).map (·.size) = some A.toList.length ∧ (Try.prog.info? 24).map (·.size) = some L.toList.length) := ⟨iA, iL⟩
 clear hA hM hL ho hX k1 k2 k3 ha hf sL lL oL sX lX oX iA iL
 go_enter Try.func54, Try.ntmps54
 go_upto_region 1 with fail
 obtain ⟨w1, hw1⟩ : ∃ w1, w1 = (w.alloc (.cells A 24)).alloc (.cells (num 0) 24) := ⟨_, rfl⟩
 have Z : Hid (Chg w w1 ∧ Ar w1 w.heap.size A ∧ Ar w1 (w.heap.size + 1) (num 0)) := by
  rw [hw1]
  exact ⟨((Chg.refl w).alloc _).alloc _, (Ar.new w _ _).alloc _, Ar.new1 w _ _ _⟩
 rw [← hw1]
 clear hw1 hsA
 go_wp2_with fail
 go_at_call 59
 refine (HK.out.1 _).mono ?_
 rintro r w2 ⟨rfl, hc2⟩
 have Z2 : Hid (Chg w w2 ∧ Ar w2 w.heap.size A ∧ Ar w2 (w.heap.size + 1) (num 0)) := ⟨Z.out.1.trans hc2, Z.out.2.1.chg hc2, Z.out.2.2.chg hc2⟩
 clear hc2 Z
 go_wp2_with fail
 rw [num_set2]
 go_at_call 72
 refine (HK.out.2.1 _).mono ?_
 rintro r w3 ⟨rfl, hc3⟩
 have Z3 : Hid (Chg w w3 ∧ Ar w3 w.heap.size A ∧ Ar w3 (w.heap.size + 1) (num 0)) := ⟨Z2.out.1.trans hc3, Z2.out.2.1.chg hc3, Z2.out.2.2.chg hc3⟩
 clear hc3 Z2
 obtain ⟨sL, lL, oL⟩ := HSz.out.1
 go_upto_region 2 with (first | refine wpList_store_row rfl 24 _ _ rfl _ _ rfl rfl _ _ (heap_alloc_last w3 _) sL lL oL ?_)
 obtain ⟨b, hb⟩ : ∃ b, b = w3.heap.size := ⟨_, rfl⟩
 obtain ⟨w4, hw4⟩ : ∃ w4, w4 = (w3.alloc (.cells (num 0) 24)).setRow w3.heap.size L := ⟨_, rfl⟩
 have Z4 : Hid (Chg w w4 ∧ Ar w4 w.heap.size A ∧ Ar w4 (w.heap.size + 1) (num 0) ∧ Ar w4 b L) := by
  have q := Z3.out
  have q1 := q.2.2.lt
  rw [hw4, hb]
  exact ⟨(q.1.alloc _).setRow (by omega) _, (q.2.1.alloc _).rowOther (by omega) _, (q.2.2.alloc _).rowOther (by omega) _, (Ar.new w3 _ _).row _⟩
 rw [← hw4, ← hb]
 clear hw4 hb Z3 sL lL oL
 obtain ⟨iA, iL⟩ := HI.out
 have r3 := rangeA Z4.out.2.1
 have r5 := rangeA Z4.out.2.2.2
 go_wp2_with (first
  | refine wpList_load_mid rfl 24 (.tmp 3) rfl _ _ rfl (A.toList) _ r3 u25 rfl iA ?_
  | refine wpList_load_mid rfl 24 (.tmp 5) rfl _ _ rfl (L.toList) _ r5 u25 rfl iL ?_)
 go_at_call 73
 refine (HK.out.2.2 _).mono ?_
 rintro r w5 ⟨rfl, hc5⟩
 have Z5 : Hid (Chg w w5 ∧ Ar w5 (w.heap.size + 1) (num 0)) := ⟨Z4.out.1.trans hc5, Z4.out.2.2.1.chg hc5⟩
 clear hc5 r3 r5 Z4 iA iL
 obtain ⟨sX, lX, oX⟩ := HSz.out.2
 obtain ⟨t, g⟩ := Z5.out.2
 go_wp2_with (first | refine wpList_store_row rfl 24 _ _ rfl _ _ rfl rfl _ _ g sX lX oX ?_)
 rw [HXe.out]
 refine bp_n (x := a ^ (mo f - 2).toNat % mo f) Try.results54 rfl rfl ?_ ⟨rfl, Z5.out.1.setRow (by omega) _⟩
 exact Z5.out.2.row _
def e256 : Int := (mo 2 + 1) / 4
theorem num_e256 : ((((num 0).setIfInBounds 0 (.int .u64 0)).setIfInBounds 1 (.int .u64 1073741824)).setIfInBounds 2 (.int .u64 4611686018427387904)).setIfInBounds 3 (.int .u64 4611686017353646080) = num e256 := by kernel_rfl
theorem N_e256 : N256 e256 := by constructor <;> decide +kernel
end Go.Proofs.Ytbdgmkejmfjobaa
