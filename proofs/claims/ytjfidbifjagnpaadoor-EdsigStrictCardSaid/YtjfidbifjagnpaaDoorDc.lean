/-
  A point's bytes, and the point that bytes tell: plainly.
-/
import Derived.Test.YtjfidbifjagnpaaDoorJt
import Derived.Test.YtjfidbifjagnpaaDoorJr
import Derived.Test.YtjfidbifjagnpaaDoorJs
namespace Go.Proofs.YtjfidbifjagnpaaDoor
set_option linter.unusedVariables false
set_option maxRecDepth 100000
theorem b_lo8 {b : Int} (h : B8 b) : bits .andNot .u8 b 7 = b - b % 8 ∧ bits .and .u8 b 248 = b - b % 8 := by
 have ⟨h0, h1⟩ := h
 obtain ⟨n, rfl⟩ := Int.eq_ofNat_of_zero_le h0
 have hn : n < 256 := by omega
 have := (by decide +kernel : ∀ n : Nat, n < 256 → bits .andNot .u8 (n : Int) 7 = (n : Int) - (n : Int) % 8 ∧ bits .and .u8 (n : Int) 248 = (n : Int) - (n : Int) % 8)
 exact this n hn
theorem b_hi {b : Int} (h : B8 b) : bits .andNot .u8 b 128 = b % 128 ∧ bits .and .u8 b 127 = b % 128 := by
 have ⟨h0, h1⟩ := h
 obtain ⟨n, rfl⟩ := Int.eq_ofNat_of_zero_le h0
 have hn : n < 256 := by omega
 have := (by decide +kernel : ∀ n : Nat, n < 256 → bits .andNot .u8 (n : Int) 128 = (n : Int) % 128 ∧ bits .and .u8 (n : Int) 127 = (n : Int) % 128)
 exact this n hn
theorem b_or {b : Int} (h : 0 ≤ b ∧ b < 128) : bits .or .u8 b 64 = b % 64 + 64 ∧ bits .or .u8 b 128 = b + 128 := by
 have ⟨h0, h1⟩ := h
 obtain ⟨n, rfl⟩ := Int.eq_ofNat_of_zero_le h0
 have hn : n < 128 := by omega
 have := (by decide +kernel : ∀ n : Nat, n < 128 → bits .or .u8 (n : Int) 64 = (n : Int) % 64 + 64 ∧ bits .or .u8 (n : Int) 128 = (n : Int) + 128)
 exact this n hn
theorem b_top {b : Int} (h : B8 b) : (!(bits .and .u8 b 128 == 0)) = decide (128 ≤ b) := by
 have ⟨h0, h1⟩ := h
 obtain ⟨n, rfl⟩ := Int.eq_ofNat_of_zero_le h0
 have hn : n < 256 := by omega
 have := (by decide +kernel : ∀ n : Nat, n < 256 → (!(bits .and .u8 (n : Int) 128 == 0)) = decide (128 ≤ (n : Int)))
 exact this n hn
def cu (e : Nat → Int) : Nat → Int := upd e 31 (e 31 % 128)
theorem cu_8 {e : Nat → Int} (h : ∀ i, B8 (e i)) : ∀ i, B8 (cu e i) := by
 intro i
 have h31 := h 31
 unfold cu upd
 unfold B8 at *
 split
 ·omega
 ·exact h i
def encV (P : Fin pp × Fin pp) : Int := (P.2.val : Int) + (if P.1.val % 2 = 1 then 2 ^ 255 else 0)
def encB (P : Fin pp × Fin pp) : Nat → Int := dg 256 (encV P)
theorem encB_8 (P : Fin pp × Fin pp) : ∀ i, B8 (encB P i) := fun i => dg_bound (by decide) _ i
theorem pp_255 : (pp : Int) ≤ 2 ^ 255 := by decide +kernel
theorem val_255 (a : Fin pp) : 0 ≤ (a.val : Int) ∧ (a.val : Int) < 2 ^ 255 := by
 have h := a.isLt
 have h2 := pp_255
 constructor
 ·omega
 ·exact Int.lt_of_lt_of_le (by omega : (a.val : Int) < (pp : Int)) h2
theorem top_lt {V : Int} (h : 0 ≤ V ∧ V < 2 ^ 255) : 0 ≤ dg 256 V 31 ∧ dg 256 V 31 < 128 ∧ dg 256 V 31 = V / 256 ^ 31 := by
 unfold dg
 have e1 : V / 256 ^ 31 < 128 := by
  refine Int.ediv_lt_of_lt_mul (by decide) ?_
  have : (128 : Int) * 256 ^ 31 = 2 ^ 255 := by decide +kernel
  rw [this]
  exact h.2
 have e0 : 0 ≤ V / 256 ^ 31 := Int.ediv_nonneg h.1 (by decide)
 generalize V / 256 ^ 31 = q at *
 omega
theorem dg_hiE {V : Int} (h : 0 ≤ V ∧ V < 2 ^ 255) : byt (upd (dg 256 V) 31 (dg 256 V 31 + 128)) = byt (dg 256 (V + 2 ^ 255)) := by
 have ht := top_lt h
 refine arr_congr fun i hi => ?_
 by_cases e : i = 31
 ·subst e
  rw [upd_same, ht.2.2]
  have e1 : (V + 2 ^ 255) / 256 ^ 31 = V / 256 ^ 31 + 128 := by
   have : (2 : Int) ^ 255 = 128 * 256 ^ 31 := by decide +kernel
   rw [this, Int.add_mul_ediv_right _ _ (by decide)]
  show _ = (V + 2 ^ 255) / 256 ^ 31 % 256
  rw [e1]
  have := ht.1
  have := ht.2.1
  rw [ht.2.2] at *
  omega
 ·rw [upd_ne _ _ e]
  unfold dg
  obtain ⟨k, hk⟩ : ∃ k, 31 = i + (k + 1) := ⟨30 - i, by omega⟩
  have e1 : (2 : Int) ^ 255 = 256 * (128 * 256 ^ k) * 256 ^ i := by
   have e2 : (2 : Int) ^ 255 = 128 * 256 ^ 31 := by decide +kernel
   rw [e2, hk, Int.pow_add, Int.pow_succ]
   generalize (256 : Int) ^ i = a
   generalize (256 : Int) ^ k = b
   rw [Int.mul_comm b 256, Int.mul_comm a, ← Int.mul_assoc 128, ← Int.mul_assoc 128, Int.mul_comm 128 256, Int.mul_assoc 256 128]
  rw [e1, Int.add_mul_ediv_right _ _ (Int.ne_of_gt (Int.pow_pos (by decide))), Int.add_mul_emod_self_left]
theorem odd_dg (a : Fin pp) : (dg 2 (a.val : Int) 0 == 1) = decide (a.val % 2 = 1) := by
 have e : dg 2 (a.val : Int) 0 = ((a.val % 2 : Nat) : Int) := by
  unfold dg
  rw [Int.pow_zero, Int.ediv_one]
  omega
 rw [e]
 rcases Nat.mod_two_eq_zero_or_one a.val with h | h <;> rw [h] <;> rfl
theorem enc_0 {P : Fin pp × Fin pp} (h : ¬ P.1.val % 2 = 1) : byt (dg 256 (P.2.val : Int)) = byt (encB P) := by
 unfold encB encV
 rw [if_neg h, Int.add_zero]
theorem enc_1 {P : Fin pp × Fin pp} (h : P.1.val % 2 = 1) : byt (upd (dg 256 (P.2.val : Int)) 31 (bits .or .u8 (dg 256 (P.2.val : Int) 31) 128)) = byt (encB P) := by
 have ht := top_lt (val_255 P.2)
 rw [(b_or ⟨ht.1, ht.2.1⟩).2, dg_hiE (val_255 P.2)]
 unfold encB encV
 rw [if_pos h]
def od (e : Nat → Int) : Bool := decide (128 ≤ e 31)
def yOf (e : Nat → Int) : Int := val 256 32 (cu e)
def dS (y : Int) : Int := md 1 (md 1 (md 1 (y * y) - 1) * md 1 (md 1 (1 + md 1 ((dN : Int) * md 1 (y * y))) ^ ((mo 1 - 2) % R256).toNat))
def rX (y : Int) : Int := rtN 1 (dS y)
def isX (y : Int) : Bool := rtB 1 (dS y)
def xBit (y : Int) (o : Bool) : Int := if o then md 1 (0 - rX y) else rX y
def xOf (e : Nat → Int) : Int := xBit (yOf e) (od e)
def wi (y : Int) (o : Bool) : Bool := isX y && !(o && decide (rX y = 0))
def tell (e : Nat → Int) : Bool := decide (yOf e < mo 1) && wi (yOf e) (od e)
def tP (e : Nat → Int) : Fin pp × Fin pp := (fz (xOf e), fz (yOf e))
theorem yOf_N {e : Nat → Int} (h : ∀ i, B8 (e i)) : N256 (yOf e) := N_val (cu_8 h)
theorem mr1_lt (s : Int) : 0 ≤ mr1 s ∧ mr1 s < mo 1 := by
 unfold mr1
 have hp : (0 : Int) < mo 1 := by decide +kernel
 split
 ·exact ⟨Int.emod_nonneg _ (by omega), Int.emod_lt_of_pos _ hp⟩
 ·exact ⟨Int.emod_nonneg _ (by omega), Int.emod_lt_of_pos _ hp⟩
theorem rX_N (y : Int) : N256 (rX y) := rtN_N _ _
theorem xBit_N (y : Int) (o : Bool) : N256 (xBit y o) := by unfold xBit; split; exact md_N _ _; exact rX_N y
theorem fz_emod {x y : Int} (h : x % mo 1 = y % mo 1) : fz x = fz y := by
 rw [← fz_md x, ← fz_md y, md_in (.inl rfl), md_in (.inl rfl), h]
theorem fz_dS (y : Int) : fz (dS y) = (fz y * fz y - 1) * iv (1 + dC * (fz y * fz y)) := by
 unfold dS
 rw [fz_md, fz_mul, fz_md, fz_md, fz_sub, fz_md, fz_mul, fz_iv, fz_md, fz_add, fz_md, fz_mul, fz_md, fz_mul, fz_1, fz_d]
theorem md_dS (y : Int) : md 1 (dS y) = dS y := by
 unfold dS
 generalize md 1 (md 1 (y * y) - 1) * md 1 (md 1 (1 + md 1 ((dN : Int) * md 1 (y * y))) ^ ((mo 1 - 2) % R256).toNat) = X
 have hp : (0 : Int) < mo 1 := by decide +kernel
 rw [md_in (.inl rfl) X, md_in (.inl rfl), Int.emod_emod_of_dvd _ (Int.dvd_refl _)]
theorem fz_rX {y : Int} (h : isX y = true) : fz (rX y) * fz (rX y) = fz (dS y) := by
 unfold isX rtB at h
 rw [if_pos rfl, decide_eq_true_eq] at h
 have k := root_good (f := 1) (.inl rfl) (mr1_lt (dS y)) h
 unfold rX rtN
 rw [if_pos rfl, ← fz_mul]
 exact fz_emod k.1
theorem sq_neg {p : Nat} [NeZero p] (a : Fin p) : (0 - a) * (0 - a) = a * a := by grobner
theorem fz_xBit (y : Int) (o : Bool) : fz (xBit y o) * fz (xBit y o) = fz (rX y) * fz (rX y) := by
 unfold xBit
 split
 ·rw [fz_md, fz_sub, fz_0']
  exact sq_neg _
 ·rfl
theorem xg10 {p : Nat} [NeZero p] (a b c : Fin p) : a * b * c = a * (c * b) := by grobner
theorem xBit_on {y : Int} {o : Bool} (h : isX y = true) : ON (fz (xBit y o), fz y) := by
 show On (-1) dC (fz (xBit y o), fz y)
 rw [on_iff, fz_xBit, fz_rX h, fz_dS]
 have k := eF.inv _ (eE.dnz eF (fz y))
 generalize 1 + dC * (fz y * fz y) = v at *
 rw [xg10, k]
 exact xg9 _
theorem wi_on {y : Int} {o : Bool} (h : wi y o = true) : ON (fz (xBit y o), fz y) := by
 unfold wi at h
 rw [Bool.and_eq_true] at h
 exact xBit_on h.1
theorem tell_on {e : Nat → Int} (h : tell e = true) : ON (tP e) := by
 unfold tell at h
 rw [Bool.and_eq_true] at h
 exact wi_on h.2
theorem byt_ext {d e : Nat → Int} (h : byt d = byt e) {i : Nat} (hi : i < 32) : d i = e i := by
 have h1 : (byt d)[i]? = (byt e)[i]? := by rw [h]
 unfold byt at h1
 rw [arr_get _ _ _ hi, arr_get _ _ _ hi] at h1
 injection h1 with h1
 injection h1
theorem encV_b (P : Fin pp × Fin pp) : 0 ≤ encV P ∧ encV P < R256 := by
 have h := val_255 P.2
 have e : (2 : Int) ^ 255 + 2 ^ 255 = R256 := by decide +kernel
 unfold encV
 rw [← e]
 generalize (2 : Int) ^ 255 = Q at *
 split <;> omega
theorem od_enc (P : Fin pp × Fin pp) : od (encB P) = decide (P.1.val % 2 = 1) := by
 have ht := top_lt (val_255 P.2)
 unfold od
 by_cases h : P.1.val % 2 = 1
 ·have e := byt_ext (enc_1 h) (i := 31) (by omega)
  rw [upd_same, (b_or ⟨ht.1, ht.2.1⟩).2] at e
  rw [← e, decide_eq_true h, decide_eq_true (by omega)]
 ·have e := byt_ext (enc_0 h) (i := 31) (by omega)
  rw [← e, decide_eq_false h, decide_eq_false (by omega)]
theorem yOf_enc (P : Fin pp × Fin pp) : yOf (encB P) = (P.2.val : Int) := by
 have ht := top_lt (val_255 P.2)
 have hv := val_255 P.2
 have hl : val 256 32 (encB P) = encV P := by
  unfold encB
  rw [low32b]
  exact Int.emod_eq_of_lt (encV_b P).1 (encV_b P).2
 unfold yOf cu
 rw [val_upd_in _ _ (by omega), hl]
 have e255 : (128 : Int) * 256 ^ 31 = 2 ^ 255 := by decide +kernel
 by_cases h : P.1.val % 2 = 1
 ·have e := byt_ext (enc_1 h) (i := 31) (by omega)
  rw [upd_same, (b_or ⟨ht.1, ht.2.1⟩).2] at e
  rw [← e, show (dg 256 (P.2.val : Int) 31 + 128) % 128 - (dg 256 (P.2.val : Int) 31 + 128) = -128 by omega]
  unfold encV
  rw [if_pos h, ← e255]
  generalize (256 : Int) ^ 31 = Q
  omega
 ·have e := byt_ext (enc_0 h) (i := 31) (by omega)
  rw [← e, show dg 256 (P.2.val : Int) 31 % 128 - dg 256 (P.2.val : Int) 31 = 0 by omega]
  unfold encV
  rw [if_neg h]
  omega
theorem xg11 {p : Nat} [NeZero p] {x y d v : Fin p} (h : x*x*(1 + d*(y*y)) = y*y - 1) (hv : (1 + d*(y*y)) * v = 1) : (y*y - 1) * v = x*x := by
 rw [← h, show x*x*(1 + d*(y*y)) * v = x*x*((1 + d*(y*y)) * v) by grobner, hv]
 grobner
theorem sqd {p : Nat} [NeZero p] {a b : Fin p} : (b - a) * (b + a) = b * b - a * a := by grobner
theorem sub0 {p : Nat} [NeZero p] (a : Fin p) : a - a = 0 := by grobner
theorem sub_eq0 {p : Nat} [NeZero p] {a b : Fin p} (h : a - b = 0) : a = b := by grobner
theorem add_eq0 {p : Nat} [NeZero p] {a b : Fin p} (h : a + b = 0) : a = -b := by grobner
theorem zsub {p : Nat} [NeZero p] (a : Fin p) : 0 - a = -a := by grobner
theorem negneg {p : Nat} [NeZero p] (a : Fin p) : - -a = a := by grobner
theorem even_one {a : Fin pp} {r : Int} (hr : 0 ≤ r ∧ r < mo 1) (h2 : dg 2 r 0 = 0) (hs : fz r * fz r = a * a) : (a.val % 2 = 0 → r = (a.val : Int)) ∧ (a.val % 2 = 1 → r ≠ 0 ∧ md 1 (0 - r) = (a.val : Int)) := by
 have hm : mo 1 = (pp : Int) := mo_pp
 have hpp : pp % 2 = 1 := by decide +kernel
 have he : r % 2 = 0 := by
  unfold dg at h2
  rw [Int.pow_zero, Int.ediv_one] at h2
  exact h2
 have hra : fz r = a ∨ fz r = -a := by
  have : (fz r - a) * (fz r + a) = 0 := by
   generalize fz r = b at *
   rw [sqd, hs]
   exact sub0 _
  rcases eF.nz this with h | h
  ·exact .inl (sub_eq0 h)
  ·exact .inr (add_eq0 h)
 have hrv : r = ((fz r).val : Int) := by
  have := md_fz (x := r) (a := fz r) rfl
  rw [md_in (.inl rfl), Int.emod_eq_of_lt hr.1 hr.2] at this
  exact this
 have ha := a.isLt
 have hneg : a ≠ 0 → ((-a).val : Int) = (pp : Int) - a.val := by
  intro h0
  have h1 : a.val ≠ 0 := fun e => h0 (Fin.ext e)
  have : (-a).val = (pp - a.val) % pp := rfl
  rw [this, Nat.mod_eq_of_lt (by omega)]
  omega
 have hmd : md 1 (0 - r) = ((-(fz r)).val : Int) := md_fz (by rw [fz_sub, fz_0']; exact zsub _)
 constructor
 ·intro hev
  rcases hra with h | h
  ·rw [hrv, h]
  ·by_cases h0 : a = 0
   ·rw [hrv, h, h0]; rfl
   ·exfalso
    rw [h, hneg h0] at hrv
    omega
 ·intro hod
  have h0 : a ≠ 0 := fun e => by rw [e] at hod; exact absurd hod (by decide)
  rcases hra with h | h
  ·exfalso
   rw [h] at hrv
   omega
  ·refine ⟨?_, ?_⟩
   ·rw [hrv, h, hneg h0]
    omega
   ·rw [hmd, h, negneg]
theorem tell_enc {P : Fin pp × Fin pp} (h : ON P) : tell (encB P) = true ∧ tP (encB P) = P := by
 have hon : P.1 * P.1 * (1 + dC * (P.2 * P.2)) = P.2 * P.2 - 1 := on_iff.1 h
 have hy := yOf_enc P
 have hfy : fz (P.2.val : Int) = P.2 := fz_nat _
 have hs : fz (dS (P.2.val : Int)) = P.1 * P.1 := by
  rw [fz_dS, hfy]
  exact xg11 hon (eF.inv _ (eE.dnz eF P.2))
 have hsv : dS (P.2.val : Int) = (P.1.val : Int) * (P.1.val : Int) % mo 1 := by
  have h1 : md 1 (dS (P.2.val : Int)) = md 1 ((P.1.val : Int) * (P.1.val : Int)) := by
   have e1 := md_fz hs
   have e2 := md_fz (x := (P.1.val : Int) * (P.1.val : Int)) (a := P.1 * P.1) (by rw [fz_mul, fz_nat])
   rw [e1, e2]
  rw [← md_in (.inl rfl), ← h1]
  exact (md_dS _).symm
 obtain ⟨g1, g2, g3⟩ := rt_good (f := 1) (a := (P.1.val : Int)) (.inl rfl) (by omega)
 rw [← hsv] at g1 g2 g3
 have hrl : 0 ≤ rtN 1 (dS (P.2.val : Int)) ∧ rtN 1 (dS (P.2.val : Int)) < mo 1 := by
  have hm := mr1_lt (dS (P.2.val : Int))
  have hp : (0 : Int) < mo 1 := by decide +kernel
  unfold rtN rootN
  rw [if_pos rfl]
  split
  ·split
   ·exact ⟨Int.emod_nonneg _ (by omega), Int.emod_lt_of_pos _ hp⟩
   ·exact hm
  ·omega
 have hrs : fz (rtN 1 (dS (P.2.val : Int))) * fz (rtN 1 (dS (P.2.val : Int))) = P.1 * P.1 := by
  rw [← fz_mul, ← fz_md (_ * _), md_in (.inl rfl), g2, hs]
 obtain ⟨k1, k2⟩ := even_one hrl g3 hrs
 have hlt : (P.2.val : Int) < mo 1 := by rw [mo_pp]; have := P.2.isLt; omega
 unfold tell tP xOf wi xBit
 rw [hy, od_enc, decide_eq_true hlt]
 show (true && (rtB 1 (dS (P.2.val : Int)) && _)) = true ∧ _
 rw [g1]
 by_cases ho : P.1.val % 2 = 1
 ·obtain ⟨a1, a2⟩ := k2 ho
  rw [decide_eq_true ho]
  refine ⟨?_, ?_⟩
  ·show (true && (true && !(true && decide (rtN 1 (dS (P.2.val : Int)) = 0)))) = true
   rw [decide_eq_false a1]
   rfl
  ·show (fz (md 1 (0 - rtN 1 (dS (P.2.val : Int)))), fz (P.2.val : Int)) = P
   rw [a2, fz_nat, fz_nat]
 ·rw [decide_eq_false ho]
  refine ⟨rfl, ?_⟩
  show (fz (rtN 1 (dS (P.2.val : Int))), fz (P.2.val : Int)) = P
  rw [k1 (by omega), fz_nat, fz_nat]
end Go.Proofs.YtjfidbifjagnpaaDoor
