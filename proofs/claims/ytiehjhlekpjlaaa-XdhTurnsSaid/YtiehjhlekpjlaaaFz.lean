/-
  Numbers modulo 2^255 - 19: integers as its numbers; the curve's own numbers.
-/
import Derived.Test.YtiehjhlekpjlaaaJo
import Derived.Test.YtiehjhlekpjlaaaJm
import Derived.Test.YtiehjhlekpjlaaaJn
namespace Go.Proofs.Ytiehjhlekpjlaaa
set_option linter.unusedVariables false
set_option maxRecDepth 100000

/-! Of whatever prime. -/
section
variable {p : Nat} [NeZero p]

theorem fld_pr (hp : Pr p) (h2 : p % 2 = 1) : Fld p := by
  have h5 := hp.1
  have h3 : 3 ≤ p := by omega
  refine ⟨fun a ha => ?_, ?_, ?_, ?_⟩
  · have h0 : a.val % p ≠ 0 := by
      rw [Nat.mod_eq_of_lt a.isLt]
      intro h
      exact ha (Fin.ext (by rw [h]; simp))
    apply Fin.ext
    show a.val * ((a.val ^ (p - 2)) % p) % p = 1 % p
    rw [hp.inv h0, Nat.mod_eq_of_lt (by omega)]
  · apply Fin.ext
    show (0 % p) ^ (p - 2) % p = 0 % p
    rw [Nat.zero_mod, Nat.zero_pow (by omega), Nat.zero_mod]
  · intro h
    have := congrArg Fin.val h
    have e : (2 : Fin p).val = 2 % p := rfl
    have e0 : (0 : Fin p).val = 0 % p := rfl
    rw [e, e0, Nat.zero_mod, Nat.mod_eq_of_lt (by omega)] at this
    omega
  · intro h
    have := congrArg Fin.val h
    have e : (1 : Fin p).val = 1 % p := rfl
    have e0 : (0 : Fin p).val = 0 % p := rfl
    rw [e, e0, Nat.zero_mod, Nat.mod_eq_of_lt (by omega)] at this
    omega

/-- A number that is no square. -/
theorem ns_pr (hp : Pr p) {z n : Nat} (hn : 2 * n = p - 1) (h : z ^ n % p = p - 1) (h3 : 3 ≤ p) : ∀ s : Fin p, s * s ≠ Fin.ofNat p z := by
  intro s e
  have h1 : s.val * s.val % p = z % p := congrArg Fin.val e
  have h2 : (s.val * s.val) ^ n % p = z ^ n % p := by rw [Nat.pow_mod, h1, ← Nat.pow_mod]
  rw [← Nat.pow_two, ← Nat.pow_mul, hn, h] at h2
  by_cases h0 : s.val % p = 0
  · rw [Nat.pow_mod, h0, Nat.zero_pow (by omega), Nat.zero_mod] at h2
    omega
  · rw [hp.fermat h0] at h2
    omega

/-- Each number is a square, or twice it is one. -/
theorem sq_pr (hp : Pr p) {e n m k i : Nat} (h3 : 3 ≤ p) (hn : 2 * n = p - 1) (hm : 2 * m = n) (hk : 2 * k = m + 1) (he : e ^ n % p = p - 1) (hi : (i * i + 1) % p = 0) (z : Fin p) : ∃ s : Fin p, s * s = z ∨ s * s = Fin.ofNat p e * z := by
  -- a root of a number whose n-th power is 1
  have root : ∀ y : Nat, y ^ n % p = 1 → ∃ s : Nat, s * s % p = y % p := by
    intro y hy
    have hm2 : y ^ m * y ^ m % p = 1 := by rw [← Nat.pow_add, ← Nat.two_mul, hm, hy]
    have hs : y ^ k * y ^ k = y ^ m * y := by rw [← Nat.pow_add, ← Nat.two_mul, hk, Nat.pow_succ]
    have hone : y ^ m % p = 1 ∨ (y ^ m + 1) % p = 0 := by
      have : 1 * 1 % p = 1 := Nat.mod_eq_of_lt (by omega)
      rcases hp.sq_eq (x := y ^ m) (y := 1) (by rw [hm2, this]) with x | x
      · left; rw [x]; exact Nat.mod_eq_of_lt (by omega)
      · right; exact x
    rcases hone with x | x
    · refine ⟨y ^ k, ?_⟩
      rw [hs, Nat.mul_mod, x, Nat.one_mul, Nat.mod_mod]
    · refine ⟨i * y ^ k, ?_⟩
      have e1 : i * y ^ k * (i * y ^ k) = i * i * (y ^ m * y) := by rw [← hs]; grind
      rw [e1]
      have a1 : (i * i + 1) * (y ^ m * y) % p = 0 := by rw [Nat.mul_mod, hi, Nat.zero_mul, Nat.zero_mod]
      have a2 : (y ^ m + 1) * y % p = 0 := by rw [Nat.mul_mod, x, Nat.zero_mul, Nat.zero_mod]
      rw [Nat.add_mul, Nat.one_mul] at a1 a2
      have d1 := Nat.dvd_of_mod_eq_zero a1
      have d2 := Nat.dvd_of_mod_eq_zero a2
      obtain ⟨c1, hc1⟩ := d1
      obtain ⟨c2, hc2⟩ := d2
      have : (i * i * (y ^ m * y) + p * c2) % p = (y + p * c1) % p := by
        congr 1
        omega
      rw [Nat.add_mul_mod_self_left, Nat.add_mul_mod_self_left] at this
      exact this
  have up : ∀ (s y : Nat) (Y : Fin p), Y.val = y % p → s * s % p = y % p → Fin.ofNat p s * Fin.ofNat p s = Y := by
    intro s y Y hY h
    apply Fin.ext
    show s % p * (s % p) % p = Y.val
    rw [hY, ← h, ← Nat.mul_mod]
  by_cases h0 : z.val % p = 0
  · refine ⟨Fin.ofNat p 0, .inl (up 0 z.val z (Nat.mod_eq_of_lt z.isLt).symm (by rw [h0]; simp))⟩
  · rcases hp.half h0 hn with x | x
    · obtain ⟨s, hs⟩ := root z.val x
      exact ⟨Fin.ofNat p s, .inl (up s z.val z (Nat.mod_eq_of_lt z.isLt).symm hs)⟩
    · have hx : z.val ^ n % p = p - 1 := by
        have hd := Nat.dvd_of_mod_eq_zero x
        obtain ⟨c, hc⟩ := hd
        have hlt := Nat.mod_lt (z.val ^ n) (show 0 < p by omega)
        have hdm := Nat.div_add_mod (z.val ^ n) p
        generalize z.val ^ n % p = r at *
        have h1 : p * (z.val ^ n / p) + (r + 1) = p * c := by omega
        have h2 : p ∣ r + 1 := (Nat.dvd_add_right (Nat.dvd_mul_right p _)).1 (h1 ▸ Nat.dvd_mul_right p c)
        have := Nat.le_of_dvd (by omega) h2
        omega
      have hy : (e * z.val) ^ n % p = 1 := by
        rw [Nat.mul_pow, Nat.mul_mod, he, hx]
        have : (p - 1) * (p - 1) = p * (p - 2) + 1 := by
          obtain ⟨q, rfl⟩ : ∃ q, p = q + 2 := ⟨p - 2, by omega⟩
          rw [show q + 2 - 1 = q + 1 by omega, show q + 2 - 2 = q by omega]
          grind
        rw [this, Nat.mul_add_mod, Nat.mod_eq_of_lt (by omega)]
      obtain ⟨s, hs⟩ := root (e * z.val) hy
      refine ⟨Fin.ofNat p s, .inr (up s (e * z.val) _ ?_ hs)⟩
      show e % p * z.val % p = e * z.val % p
      rw [Nat.mod_mul_mod]

/-- An integer as a number of the field. -/
def fi (p : Nat) [NeZero p] (x : Int) : Fin p := Fin.ofNat p (x % (p : Int)).toNat

theorem fi_val (x : Int) : ((fi p x).val : Int) = x % (p : Int) := by
  have hp : (0 : Int) < p := by have := NeZero.ne p; omega
  have h0 := Int.emod_nonneg x (show (p : Int) ≠ 0 by omega)
  have h1 := Int.emod_lt_of_pos x hp
  show (((x % (p : Int)).toNat % p : Nat) : Int) = _
  rw [Nat.mod_eq_of_lt (by omega)]
  omega
theorem fi_eq {x y : Int} (h : x % (p : Int) = y % (p : Int)) : fi p x = fi p y := by unfold fi; rw [h]
theorem fi_inj {x y : Int} (h : fi p x = fi p y) : x % (p : Int) = y % (p : Int) := by rw [← fi_val, ← fi_val, h]
theorem fi_of {x : Int} {a : Fin p} (h : (a.val : Int) = x % (p : Int)) : fi p x = a := by
  apply Fin.ext
  have := fi_val (p := p) x
  omega
theorem fi_add (x y : Int) : fi p (x + y) = fi p x + fi p y := by
  refine fi_of ?_
  rw [Fin.val_add, Int.natCast_emod, Int.natCast_add, fi_val, fi_val, ← Int.add_emod]
theorem fi_mul (x y : Int) : fi p (x * y) = fi p x * fi p y := by
  refine fi_of ?_
  rw [Fin.val_mul, Int.natCast_emod, Int.natCast_mul, fi_val, fi_val, ← Int.mul_emod]
theorem fi_sub (x y : Int) : fi p (x - y) = fi p x - fi p y := by
  have h := fi_add (p := p) (x - y) y
  rw [Int.sub_add_cancel] at h
  rw [h]
  grobner
theorem fi_mod (x : Int) : fi p (x % (p : Int)) = fi p x := fi_eq (Int.emod_emod_of_dvd _ (Int.dvd_refl _))
theorem fi_iv {x : Int} (n : Nat) (hn : n = p - 2) : fi p (x ^ n) = iv (fi p x) := by
  refine fi_of ?_
  show (((fi p x).val ^ (p - 2) % p : Nat) : Int) = _
  rw [Int.natCast_emod, Int.natCast_pow, fi_val, hn]
  induction (p - 2) with
  | zero => rw [Int.pow_zero, Int.pow_zero]
  | succ m ih => rw [Int.pow_succ, Int.pow_succ, Int.mul_emod, ih, Int.emod_emod_of_dvd _ (Int.dvd_refl _), ← Int.mul_emod]
end

/-- 2^255 - 20, and one more. -/
def qq : Nat := 57896044618658097711785492504343953926634992332820282019728792003956564819948
abbrev pp : Nat := qq + 1
theorem mo_pp : mo 1 = (pp : Int) := by decide +kernel
theorem md_pp (x : Int) : md 1 x = x % (pp : Int) := by rw [md_in (.inl rfl), mo_pp]
def fz (x : Int) : Fin pp := fi pp x
theorem fz_md (x : Int) : fz (md 1 x) = fz x := by rw [md_pp]; exact fi_mod x
theorem fz_add (x y : Int) : fz (x + y) = fz x + fz y := fi_add x y
theorem fz_sub (x y : Int) : fz (x - y) = fz x - fz y := fi_sub x y
theorem fz_mul (x y : Int) : fz (x * y) = fz x * fz y := fi_mul x y
theorem fz_iv (x : Int) : fz (x ^ ((mo 1 - 2) % R256).toNat) = iv (fz x) := fi_iv _ (by rw [mo_pp]; decide +kernel)
/-- What is below the modulus is told by it. -/
theorem md_fz {x : Int} {a : Fin pp} (h : fz x = a) : md 1 x = (a.val : Int) := by
  rw [md_pp, ← h]
  exact (fi_val x).symm

def dN : Nat := 37095705934669439343138083508754565189542113879843219016388785533085940283555
def kC : Fin pp := Fin.ofNat pp 121665
def aC : Fin pp := Fin.ofNat pp (pp - 1)
def dC : Fin pp := Fin.ofNat pp dN
def eC : Fin pp := Fin.ofNat pp 2
theorem fz_k : fz 121665 = kC := by decide +kernel
theorem pw_d : dN ^ ((pp - 1) / 2) % pp = pp - 1 := by rw [← pm_eq dN pp 256 _ (by decide +kernel)]; decide +kernel
theorem pw_2 : 2 ^ ((pp - 1) / 2) % pp = pp - 1 := by rw [← pm_eq 2 pp 256 _ (by decide +kernel)]; decide +kernel
theorem pw_m : (pp - 2) ^ ((pp - 1) / 2) % pp = pp - 1 := by rw [← pm_eq (pp - 2) pp 256 _ (by decide +kernel)]; decide +kernel
theorem kit : Kit pp aC dC kC eC := by
  have hp : Pr pp := prF25519
  have h3 : 3 ≤ pp := by decide +kernel
  have hn : 2 * ((pp - 1) / 2) = pp - 1 := by decide +kernel
  refine ⟨fld_pr hp (by decide +kernel), ⟨⟨Fin.ofNat pp 19681161376707505956807079304988542015446066515923890162744021073123829784752, by decide +kernel⟩, by decide +kernel, ns_pr hp hn pw_d h3⟩, ⟨⟨Fin.ofNat pp 55487632915927625549282413919184614932259505768049324239291840100650878933168, by decide +kernel⟩, by decide +kernel, ?_⟩, by decide +kernel, by decide +kernel, by decide +kernel, ?_⟩
  · rw [show eC * aC = Fin.ofNat pp (pp - 2) by decide +kernel]
    exact ns_pr hp hn pw_m h3
  · exact sq_pr hp (m := (pp - 1) / 4) (k := (pp + 3) / 8) (i := 19681161376707505956807079304988542015446066515923890162744021073123829784752) h3 hn (by decide +kernel) (by decide +kernel) pw_2 (by decide +kernel)

theorem fz_i2 (t b : Int) : fz (i2t t b) = (st2 kC (fz t) (fz b)).1 ∧ fz (i2b t b) = (st2 kC (fz t) (fz b)).2 := by
  constructor
  · simp only [i2t, sP, sQ, sS, sD, fz_md, fz_mul, fz_add, fz_sub, st2]
  · simp only [i2b, sE, sP, sQ, sS, sD, fz_md, fz_mul, fz_add, fz_sub, st2, fz_k]
theorem fz_iB (x t b t' b' : Int) : fz (iBt t b t' b') = (stB (fz x) (fz t) (fz b) (fz t') (fz b')).1 ∧ fz (iBb x t b t' b') = (stB (fz x) (fz t) (fz b) (fz t') (fz b')).2 := by
  constructor
  · simp only [iBt, sV, sW, sS, sD, fz_md, fz_mul, fz_add, fz_sub, stB]
  · simp only [iBb, sV, sW, sS, sD, fz_md, fz_mul, fz_add, fz_sub, stB]

/-- What Mult comes to: a point's x, n times. -/
def mx (n : Nat) (x : Int) : Int := ((lx kC (fz x) n).val : Int)
theorem mx_lt (n : Nat) (x : Int) : 0 ≤ mx n x ∧ mx n x < mo 1 := by
  have := (lx kC (fz x) n).isLt
  rw [mo_pp]
  unfold mx
  omega
theorem fz_nat (a : Fin pp) : fz (a.val : Int) = a := by
  refine fi_of ?_
  rw [← Int.natCast_emod, Nat.mod_eq_of_lt a.isLt]
theorem mx_md (n : Nat) (x : Int) : mx n (md 1 x) = mx n x := by unfold mx; rw [fz_md]
theorem fz_mx (n : Nat) (x : Int) : fz (mx n x) = lx kC (fz x) n := fz_nat _
/-- So many times, and so many times again. -/
theorem mx_turn {m n : Nat} (hm : m < 2 ^ 255) (hn : n < 2 ^ 255) (m2 : m % 2 = 0) (n2 : n % 2 = 0) (x : Int) : mx n (mx m x) = mx m (mx n x) := by
  unfold mx
  rw [fz_nat, fz_nat, kit.turn (fz x) hm hn m2 n2]
theorem mx_zero (n : Nat) : mx n 0 = 0 := by
  unfold mx
  rw [show fz 0 = 0 by decide +kernel, lx_none kit.F]
  decide +kernel
theorem mx_one {n : Nat} (hn : n < 2 ^ 255) (h4 : n % 4 = 0) : mx n 1 = 0 := by
  unfold mx
  rw [show fz 1 = 1 by decide +kernel, kit.one hn h4]
  decide +kernel
end Go.Proofs.Ytiehjhlekpjlaaa
