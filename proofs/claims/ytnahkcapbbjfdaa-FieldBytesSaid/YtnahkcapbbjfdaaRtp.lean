/-
  Inverses and square roots modulo a prime, plainly.
-/
import Derived.Test.YtnahkcapbbjfdaaPrm
namespace Go.Proofs.Ytnahkcapbbjfdaa
set_option linter.unusedVariables false

theorem Pr.inv {p a : Nat} (hp : Pr p) (ha : a % p ≠ 0) : a * (a ^ (p - 2) % p) % p = 1 := by
  have h2 := hp.1
  rw [Nat.mul_mod, Nat.mod_mod, ← Nat.mul_mod, Nat.mul_comm, ← Nat.pow_succ]
  have e : p - 2 + 1 = p - 1 := by omega
  rw [Nat.succ_eq_add_one, e]
  exact hp.fermat ha

theorem zero_pow_mod {p a n : Nat} (ha : a % p = 0) (hn : 0 < n) : a ^ n % p = 0 := by
  rw [Nat.pow_mod, ha, Nat.zero_pow hn, Nat.zero_mod]

/-- What has one square is one number, or the other's counterpart. -/
theorem Pr.sq_eq {p x y : Nat} (hp : Pr p) (h : x * x % p = y * y % p) : x % p = y % p ∨ (x + y) % p = 0 := by
  have key : ∀ u v : Nat, v ≤ u → u * u % p = v * v % p → u % p = v % p ∨ (u + v) % p = 0 := by
    intro u v hv h
    have hd : p ∣ u * u - v * v := Nat.dvd_of_mod_eq_zero (Nat.sub_mod_eq_zero_of_mod_eq h)
    rw [Nat.mul_self_sub_mul_self_eq] at hd
    rcases hp.euclid hd with x | x
    · exact .inr (Nat.mod_eq_zero_of_dvd x)
    · left
      obtain ⟨c, hc⟩ := x
      rw [show u = v + p * c by omega, Nat.add_mul_mod_self_left]
  rcases Nat.le_total y x with hxy | hxy
  · exact key x y hxy h
  · rcases key y x hxy h.symm with e | e
    · exact .inl e.symm
    · exact .inr (by rw [Nat.add_comm]; exact e)

/-- There is one even root. -/
theorem Pr.root_one {p x y : Nat} (hp : Pr p) (ho : p % 2 = 1) (hx : x < p) (hy : y < p) (ex : x % 2 = 0) (ey : y % 2 = 0) (h : x * x % p = y * y % p) : x = y := by
  rcases hp.sq_eq h with e | e
  · rwa [Nat.mod_eq_of_lt hx, Nat.mod_eq_of_lt hy] at e
  · obtain ⟨c, hc⟩ := Nat.dvd_of_mod_eq_zero e
    have : c < 2 := by
      apply Classical.byContradiction
      intro hcc
      have := Nat.mul_le_mul_left p (show 2 ≤ c by omega)
      omega
    have hc01 : c = 0 ∨ c = 1 := by omega
    rcases hc01 with rfl | rfl
    · omega
    · omega

/-- The counterpart has the same square. -/
theorem neg_sq {p x : Nat} (hx : x ≤ p) : (p - x) * (p - x) % p = x * x % p := by
  have h : (p - x) * (p - x) + p * (2 * x) = x * x + p * p := by
    obtain ⟨d, rfl⟩ : ∃ d, p = x + d := ⟨p - x, by omega⟩
    rw [show x + d - x = d by omega]
    simp only [Nat.add_mul, Nat.mul_add]
    have e1 : d * x = x * d := Nat.mul_comm _ _
    have e2 : x * (2 * x) = 2 * (x * x) := Nat.mul_left_comm _ _ _
    have e3 : d * (2 * x) = 2 * (d * x) := Nat.mul_left_comm _ _ _
    omega
  have := congrArg (· % p) h
  simpa [Nat.add_mul_mod_self_left] using this

/-- A half of the steps leaves 1 or p - 1. -/
theorem Pr.half {p a n : Nat} (hp : Pr p) (ha : a % p ≠ 0) (hn : 2 * n = p - 1) : a ^ n % p = 1 ∨ (a ^ n + 1) % p = 0 := by
  have h2 := hp.1
  have h : a ^ n * a ^ n % p = 1 * 1 % p := by
    rw [← Nat.pow_add, show n + n = p - 1 by omega, hp.fermat ha, Nat.mod_eq_of_lt (by omega)]
  rcases hp.sq_eq h with e | e
  · left; rw [e, Nat.mod_eq_of_lt (by omega)]
  · exact .inr e

/-- p leaves 3 by 4: the power of (p + 1) / 4 is a root, of every square. -/
theorem Pr.root3 {p a n : Nat} (hp : Pr p) (hn : 4 * n = p + 1) : ((a * a) ^ n * (a * a) ^ n) % p = a * a % p := by
  have h2 := hp.1
  by_cases ha : a % p = 0
  · have h1 : a * a % p = 0 := by rw [Nat.mul_mod, ha, Nat.zero_mul, Nat.zero_mod]
    rw [← Nat.pow_add, zero_pow_mod h1 (by omega), h1]
  · rw [← Nat.pow_add, ← Nat.pow_two, ← Nat.pow_mul, show 2 * (n + n) = (p - 1) + 2 by omega, Nat.pow_add, Nat.mul_mod, hp.fermat ha, Nat.one_mul, Nat.mod_mod]

/-- p leaves 5 by 8: the power of (p + 3) / 8 is a root of every square, or it is one once it is multiplied by a root of -1. -/
theorem Pr.root5 {p a n i : Nat} (hp : Pr p) (hn : 8 * n = p + 3) (hi : (i * i + 1) % p = 0) : ((a * a) ^ n * (a * a) ^ n) % p = a * a % p ∨ ((a * a) ^ n * i * ((a * a) ^ n * i)) % p = a * a % p := by
  have h2 := hp.1
  by_cases ha : a % p = 0
  · have h1 : a * a % p = 0 := by rw [Nat.mul_mod, ha, Nat.zero_mul, Nat.zero_mod]
    left
    rw [← Nat.pow_add, zero_pow_mod h1 (by omega), h1]
  · have e : (a * a) ^ n * (a * a) ^ n = a ^ (2 * n + 2 * n - 2) * (a * a) := by
      rw [← Nat.pow_add, ← Nat.pow_two, ← Nat.pow_mul, ← Nat.pow_add]
      congr 1
      omega
    rcases hp.half (n := 2 * n + 2 * n - 2) ha (by omega) with h | h
    · left
      rw [e, Nat.mul_mod, h, Nat.one_mul, Nat.mod_mod]
    · right
      have e2 : (a * a) ^ n * i * ((a * a) ^ n * i) = a ^ (2 * n + 2 * n - 2) * (i * i) * (a * a) := by
        rw [Nat.mul_mul_mul_comm, e, Nat.mul_right_comm]
      -- (-1) * (-1) = 1
      have h3 : a ^ (2 * n + 2 * n - 2) * (i * i) % p = 1 := by
        obtain ⟨u, hu⟩ := Nat.dvd_of_mod_eq_zero h
        obtain ⟨v, hv⟩ := Nat.dvd_of_mod_eq_zero hi
        have h4 : (a ^ (2 * n + 2 * n - 2) + 1) * (i * i + 1) = p * (u * (p * v)) := by rw [hu, hv, Nat.mul_assoc]
        have h5 : a ^ (2 * n + 2 * n - 2) * (i * i) + p * u + p * v = p * (u * (p * v)) + 1 := by
          rw [← h4, ← hu, ← hv, Nat.add_mul, Nat.mul_add]
          omega
        have h6 := congrArg (· % p) h5
        simp only [Nat.add_mul_mod_self_left, Nat.mul_add_mod, Nat.mod_eq_of_lt (show 1 < p by omega)] at h6
        exact h6
      rw [e2, Nat.mul_mod, h3, Nat.one_mul, Nat.mod_mod]

/-! At the four moduli. -/
def m25519 : Nat := 57896044618658097711785492504343953926634992332820282019728792003956564819949
def i25519 : Nat := pm 256 2 ((m25519 - 1) / 4) m25519
theorem i25519_sq : (i25519 * i25519 + 1) % m25519 = 0 := by decide +kernel
theorem i25519_pow : i25519 = 2 ^ ((m25519 - 1) / 4) % m25519 := pm_eq _ _ _ _ (by decide +kernel)
end Go.Proofs.Ytnahkcapbbjfdaa
