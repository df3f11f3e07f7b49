/-
  Prime numbers, plainly: Euclid's lemma, Fermat's theorem, Pocklington's test, and that the four moduli are primes.
  Inverses and square roots modulo a prime, plainly.
-/
namespace Go.Proofs.Ytbdgmkejmfjobaa
set_option linter.unusedVariables false

/-- A prime. -/
def Pr (p : Nat) : Prop := 2 ≤ p ∧ ∀ d, d ∣ p → d = 1 ∨ d = p

theorem Pr.coprime {p a : Nat} (hp : Pr p) (h : ¬ p ∣ a) : Nat.Coprime p a := by
  rcases hp.2 (Nat.gcd p a) (Nat.gcd_dvd_left p a) with e | e
  · exact e
  · exact absurd (e ▸ Nat.gcd_dvd_right p a) h

theorem Pr.euclid {p a b : Nat} (hp : Pr p) (h : p ∣ a * b) : p ∣ a ∨ p ∣ b := by
  by_cases ha : p ∣ a
  · exact .inl ha
  · exact .inr ((hp.coprime ha).dvd_of_dvd_mul_left h)

theorem Pr.pow {p a : Nat} (hp : Pr p) : ∀ {n : Nat}, p ∣ a ^ n → p ∣ a
  | 0, h => by
    rw [Nat.pow_zero] at h
    have := Nat.le_of_dvd (by decide) h
    have := hp.1
    omega
  | n + 1, h => by
    rw [Nat.pow_succ] at h
    rcases hp.euclid h with h | h
    · exact hp.pow h
    · exact h

/-! The binomial theorem, and Fermat's. -/
def ch : Nat → Nat → Nat
  | _, 0 => 1
  | 0, _ + 1 => 0
  | n + 1, k + 1 => ch n k + ch n (k + 1)

theorem ch_zero (n : Nat) : ch n 0 = 1 := by cases n <;> rfl
theorem ch_over : ∀ (n k : Nat), n < k → ch n k = 0
  | 0, k + 1, _ => rfl
  | n + 1, k + 1, h => by
    unfold ch
    rw [ch_over n k (by omega), ch_over n (k + 1) (by omega)]

theorem ch_mul : ∀ n k : Nat, ch (n + 1) (k + 1) * (k + 1) = (n + 1) * ch n k
  | 0, 0 => by simp [ch]
  | 0, k + 1 => by simp [ch]
  | n + 1, 0 => by
    have h := ch_mul n 0
    have e : ch (n + 2) 1 = ch (n + 1) 0 + ch (n + 1) 1 := rfl
    rw [ch_zero] at h
    simp only [Nat.zero_add] at h ⊢
    rw [e, ch_zero, Nat.add_mul, h]
    omega
  | n + 1, k + 1 => by
    have h1 := ch_mul n k
    have h2 := ch_mul n (k + 1)
    have e : ch (n + 2) (k + 2) = ch (n + 1) (k + 1) + ch (n + 1) (k + 2) := rfl
    have e2 : ch (n + 1) (k + 1) = ch n k + ch n (k + 1) := rfl
    rw [show n + 1 + 1 = n + 2 from rfl, show k + 1 + 1 = k + 2 from rfl, e, Nat.add_mul]
    have h3 : ch (n + 1) (k + 1) * (k + 2) = ch (n + 1) (k + 1) * (k + 1) + ch (n + 1) (k + 1) := by rw [Nat.mul_add, Nat.mul_add]; omega
    rw [h3, h1, show k + 2 = k + 1 + 1 from rfl, h2, e2]
    have : (n + 2) * (ch n k + ch n (k + 1)) = (n + 1) * ch n k + (n + 1) * ch n (k + 1) + (ch n k + ch n (k + 1)) := by
      rw [show n + 2 = n + 1 + 1 from rfl, Nat.add_mul (n + 1) 1, Nat.mul_add, Nat.one_mul]
    rw [this]
    omega

def su (n a : Nat) : Nat → Nat
  | 0 => 0
  | m + 1 => su n a m + ch n m * a ^ m

theorem su_step (n a : Nat) : ∀ m, su (n + 1) a (m + 1) = a * su n a m + su n a (m + 1)
  | 0 => by simp [su, ch_zero]
  | m + 1 => by
    have h := su_step n a m
    have e1 : su (n + 1) a (m + 2) = su (n + 1) a (m + 1) + ch (n + 1) (m + 1) * a ^ (m + 1) := rfl
    have e2 : su n a (m + 2) = su n a (m + 1) + ch n (m + 1) * a ^ (m + 1) := rfl
    have e3 : su n a (m + 1) = su n a m + ch n m * a ^ m := rfl
    have e4 : ch (n + 1) (m + 1) = ch n m + ch n (m + 1) := rfl
    have e5 : a * (ch n m * a ^ m) = ch n m * a ^ (m + 1) := by rw [Nat.pow_succ, Nat.mul_left_comm, Nat.mul_comm a]
    rw [show m + 1 + 1 = m + 2 from rfl, e1, h, e2, e4, Nat.add_mul]
    conv => rhs; rw [e3, Nat.mul_add, e5]
    have : su n a (m + 1) = su n a m + ch n m * a ^ m := rfl
    omega

theorem bino (a : Nat) : ∀ n, (a + 1) ^ n = su n a (n + 1)
  | 0 => by simp [su, ch]
  | n + 1 => by
    rw [su_step, Nat.pow_succ, bino a n]
    have : su n a (n + 1 + 1) = su n a (n + 1) + ch n (n + 1) * a ^ (n + 1) := rfl
    rw [this, ch_over n (n + 1) (by omega), Nat.zero_mul, Nat.mul_add, Nat.mul_one, Nat.mul_comm]
    rfl

theorem Pr.ch {p k : Nat} (hp : Pr p) (h0 : 0 < k) (hk : k < p) : p ∣ ch p k := by
  obtain ⟨n, rfl⟩ : ∃ n, p = n + 1 := ⟨p - 1, by have := hp.1; omega⟩
  obtain ⟨j, rfl⟩ : ∃ j, k = j + 1 := ⟨k - 1, by omega⟩
  have h := ch_mul n j
  have hd : (n + 1) ∣ Ytbdgmkejmfjobaa.ch (n + 1) (j + 1) * (j + 1) := ⟨_, h⟩
  rcases hp.euclid hd with x | x
  · exact x
  · have := Nat.le_of_dvd (by omega) x
    omega

theorem Pr.su {p : Nat} (hp : Pr p) (a : Nat) : ∀ m, m < p → Ytbdgmkejmfjobaa.su p a (m + 1) % p = 1
  | 0, _ => by
    have := hp.1
    simp [Ytbdgmkejmfjobaa.su, ch_zero]
    exact Nat.mod_eq_of_lt (by omega)
  | m + 1, h => by
    have ih := hp.su a m (by omega)
    have e : Ytbdgmkejmfjobaa.su p a (m + 1 + 1) = Ytbdgmkejmfjobaa.su p a (m + 1) + Ytbdgmkejmfjobaa.ch p (m + 1) * a ^ (m + 1) := rfl
    have hd : p ∣ Ytbdgmkejmfjobaa.ch p (m + 1) * a ^ (m + 1) := Nat.dvd_trans (hp.ch (by omega) h) (Nat.dvd_mul_right _ _)
    rw [e, Nat.add_mod, ih, Nat.mod_eq_zero_of_dvd hd, Nat.add_zero]
    exact Nat.mod_eq_of_lt (by have := hp.1; omega)

theorem Pr.frob {p : Nat} (hp : Pr p) (a : Nat) : (a + 1) ^ p % p = (a ^ p + 1) % p := by
  have h2 := hp.1
  obtain ⟨n, hn⟩ : ∃ n, p = n + 1 := ⟨p - 1, by omega⟩
  have hs := hp.su a n (by omega)
  have hc : Ytbdgmkejmfjobaa.ch p p = 1 := by
    have : ∀ n, Ytbdgmkejmfjobaa.ch n n = 1 := by
      intro n
      induction n with
      | zero => rfl
      | succ n ih => unfold Ytbdgmkejmfjobaa.ch; rw [ih, ch_over n (n + 1) (by omega)]
    exact this p
  rw [← hn] at hs
  have e : Ytbdgmkejmfjobaa.su p a (p + 1) = Ytbdgmkejmfjobaa.su p a p + Ytbdgmkejmfjobaa.ch p p * a ^ p := rfl
  rw [bino, e, hc, Nat.one_mul, Nat.add_mod, hs, Nat.add_mod (a ^ p), Nat.mod_eq_of_lt (show 1 < p by omega), Nat.add_comm]

theorem Pr.fermat1 {p : Nat} (hp : Pr p) : ∀ a, a ^ p % p = a % p
  | 0 => by
    have := hp.1
    rw [Nat.zero_pow (by omega)]
  | a + 1 => by rw [hp.frob, Nat.add_mod, hp.fermat1 a, ← Nat.add_mod]

/-- Fermat's theorem. -/
theorem Pr.fermat {p a : Nat} (hp : Pr p) (ha : a % p ≠ 0) : a ^ (p - 1) % p = 1 := by
  have h2 := hp.1
  have h1 := hp.fermat1 a
  have hn : ¬ p ∣ a := fun h => ha (Nat.mod_eq_zero_of_dvd h)
  have hpos : 0 < a ^ (p - 1) := Nat.pow_pos (Nat.pos_of_ne_zero (fun e => ha (by rw [e]; simp)))
  have e : a ^ p = a ^ (p - 1) * a := by rw [← Nat.pow_succ]; congr 1; omega
  have hd : p ∣ (a ^ (p - 1) - 1) * a := by
    rw [Nat.sub_mul, Nat.one_mul, ← e]
    exact Nat.dvd_of_mod_eq_zero (Nat.sub_mod_eq_zero_of_mod_eq h1)
  rcases hp.euclid hd with x | x
  · obtain ⟨c, hc⟩ := x
    have : a ^ (p - 1) = p * c + 1 := by omega
    rw [this, Nat.mul_add_mod, Nat.mod_eq_of_lt (by omega)]
  · exact absurd x hn

theorem exists_pr : ∀ n, 2 ≤ n → ∃ r, Pr r ∧ r ∣ n := by
  intro n
  induction n using Nat.strongRecOn with
  | _ n ih =>
    intro h
    by_cases hp : Pr n
    · exact ⟨n, hp, Nat.dvd_refl _⟩
    · have : ∃ d, d ∣ n ∧ d ≠ 1 ∧ d ≠ n := by
        apply Classical.byContradiction
        intro hc
        refine hp ⟨h, fun d hd => ?_⟩
        apply Classical.byContradiction
        intro hx
        exact hc ⟨d, hd, fun e => hx (.inl e), fun e => hx (.inr e)⟩
      obtain ⟨d, hd, h1, h2⟩ := this
      have hle := Nat.le_of_dvd (by omega) hd
      have h0 : d ≠ 0 := fun e => by subst e; have := Nat.zero_dvd.1 hd; omega
      obtain ⟨r, hr, hrd⟩ := ih d (by omega) (by omega)
      exact ⟨r, hr, Nat.dvd_trans hrd hd⟩

theorem pow_one_mod {b m n : Nat} (h : b ^ m % n = 1) (h1 : 1 < n) (k : Nat) : b ^ (m * k) % n = 1 := by
  rw [Nat.pow_mul, Nat.pow_mod, h, Nat.one_pow, Nat.mod_eq_of_lt h1]

theorem pow_gcd {b n : Nat} (h1 : 1 < n) (x y : Nat) : b ^ x % n = 1 → b ^ y % n = 1 → b ^ (Nat.gcd x y) % n = 1 := by
  induction x, y using Nat.gcd.induction with
  | H0 y => intro _ hy; rwa [Nat.gcd_zero_left]
  | H1 x y hx ih =>
    intro h2 h3
    rw [Nat.gcd_rec]
    refine ih ?_ h2
    have e : b ^ y = b ^ (x * (y / x)) * b ^ (y % x) := by rw [← Nat.pow_add, Nat.div_add_mod]
    rw [e, Nat.mul_mod, pow_one_mod h2 h1, Nat.one_mul, Nat.mod_mod] at h3
    exact h3

/-- A witness: q divides r - 1, for each prime r that divides N. -/
theorem pock_one {N q a r : Nat} (hN : 1 < N) (hq : Pr q) (hd : q ∣ N - 1) (h1 : a ^ (N - 1) % N = 1) (h2 : Nat.gcd (a ^ ((N - 1) / q) % N + N - 1) N = 1) (hr : Pr r) (hrN : r ∣ N) : q ∣ r - 1 := by
  have hr2 := hr.1
  obtain ⟨b, hb⟩ : ∃ b, b = a ^ ((N - 1) / q) := ⟨_, rfl⟩
  have hbq : b ^ q % r = 1 := by
    rw [hb, ← Nat.pow_mul, Nat.div_mul_cancel hd, ← Nat.mod_mod_of_dvd _ hrN, h1, Nat.mod_eq_of_lt (by omega)]
  apply Classical.byContradiction
  intro hn
  have hc := hq.coprime hn
  have hbr : b % r ≠ 0 := by
    intro e
    rw [Nat.pow_mod, e, Nat.zero_pow (by have := hq.1; omega)] at hbq
    simp at hbq
  have hf := hr.fermat hbr
  have hg := pow_gcd (by omega) _ _ hbq hf
  rw [hc, Nat.pow_one] at hg
  rw [← hb] at h2
  have hx : r ∣ b % N + N - 1 := by
    have e1 : b % N % r = 1 := by rw [Nat.mod_mod_of_dvd _ hrN]; exact hg
    have e2 : b % N = r * (b % N / r) + 1 := by have := Nat.div_add_mod (b % N) r; rw [e1] at this; exact this.symm
    rw [e2, show r * (b % N / r) + 1 + N - 1 = r * (b % N / r) + N by omega]
    exact Nat.dvd_add (Nat.dvd_mul_right _ _) hrN
  have := Nat.dvd_gcd hx hrN
  rw [h2] at this
  have := Nat.le_of_dvd (by decide) this
  omega

theorem pr_of_big {N A : Nat} (hN : 1 < N) (hA : N < A * A) (h : ∀ r, Pr r → r ∣ N → A ≤ r) : Pr N := by
  refine ⟨hN, fun d hd => ?_⟩
  apply Classical.byContradiction
  intro hx
  have hd0 : 0 < d := Nat.pos_of_dvd_of_pos hd (by omega)
  obtain ⟨e, he⟩ := hd
  have he0 : 0 < e := Nat.pos_of_ne_zero (fun x => by subst x; simp at he; omega)
  have hd1 : d ≠ 1 := fun x => hx (.inl x)
  have he1 : e ≠ 1 := fun x => hx (.inr (by rw [he, x, Nat.mul_one]))
  obtain ⟨r, hr, hrd⟩ := exists_pr d (by omega)
  obtain ⟨s, hs, hse⟩ := exists_pr e (by omega)
  have h1 := h r hr (he ▸ Nat.dvd_trans hrd (Nat.dvd_mul_right _ _))
  have h2 := h s hs (he ▸ Nat.dvd_trans hse (Nat.dvd_mul_left _ _))
  have h3 := Nat.le_of_dvd hd0 hrd
  have h4 := Nat.le_of_dvd he0 hse
  have := Nat.mul_le_mul (Nat.le_trans h1 h3) (Nat.le_trans h2 h4)
  omega

/-! Powers that the kernel reckons. -/
def pm : Nat → Nat → Nat → Nat → Nat
  | 0, _, _, m => 1 % m
  | f + 1, b, e, m => cond (Nat.beq (e % 2) 1) (pm f b (e / 2) m * pm f b (e / 2) m % m * b % m) (pm f b (e / 2) m * pm f b (e / 2) m % m)

theorem pm_eq (b m : Nat) : ∀ f e, e < 2 ^ f → pm f b e m = b ^ e % m
  | 0, e, h => by
    have : e = 0 := by simpa using h
    subst this
    rfl
  | f + 1, e, h => by
    have ih := pm_eq b m f (e / 2) (by rw [Nat.pow_succ] at h; omega)
    have hs : b ^ (e / 2) % m * (b ^ (e / 2) % m) % m = b ^ (2 * (e / 2)) % m := by rw [← Nat.mul_mod, ← Nat.pow_add]; congr 2; omega
    unfold pm
    rw [ih, hs]
    rcases Nat.mod_two_eq_zero_or_one e with x | x
    · rw [x]
      simp only [cond]
      congr 2
      omega
    · rw [x]
      simp only [cond]
      rw [Nat.mod_mul_mod, ← Nat.pow_succ]
      congr 2
      omega

/-- One witness, reckoned. -/
def wit (N q a : Nat) : Bool := Nat.beq ((N - 1) % q) 0 && Nat.beq (pm 256 a (N - 1) N) 1 && Nat.beq (Nat.gcd (pm 256 a ((N - 1) / q) N + N - 1) N) 1

theorem wit_div {N q a r : Nat} (hN : 1 < N) (hN2 : N ≤ 2 ^ 256) (hq : Pr q) (h : wit N q a = true) (hr : Pr r) (hrN : r ∣ N) : q ∣ r - 1 := by
  simp only [wit, Bool.and_eq_true, Nat.beq_eq] at h
  obtain ⟨⟨h1, h2⟩, h3⟩ := h
  rw [pm_eq _ _ _ _ (by omega)] at h2
  rw [pm_eq _ _ _ _ (Nat.lt_of_le_of_lt (Nat.div_le_self _ _) (by omega))] at h3
  exact pock_one hN hq (Nat.dvd_of_mod_eq_zero h1) h2 h3 hr hrN

theorem pock1 {N q a : Nat} (hq : Pr q) (h : (Nat.blt 1 N && Nat.ble N (2 ^ 256) && Nat.blt N ((q + 1) * (q + 1)) && wit N q a) = true) : Pr N := by
  simp only [Bool.and_eq_true, Nat.blt_eq, Nat.ble_eq] at h
  obtain ⟨⟨⟨h1, h2⟩, h3⟩, h4⟩ := h
  refine pr_of_big h1 h3 fun r hr hrN => ?_
  have := Nat.le_of_dvd (by have := hr.1; omega) (wit_div h1 h2 hq h4 hr hrN)
  have := hr.1
  omega

theorem pock2 {N p q a c : Nat} (hp : Pr p) (hq : Pr q) (h : (Nat.blt 1 N && Nat.ble N (2 ^ 256) && Nat.blt N ((p * q + 1) * (p * q + 1)) && Nat.blt q p && wit N p a && wit N q c) = true) : Pr N := by
  simp only [Bool.and_eq_true, Nat.blt_eq, Nat.ble_eq] at h
  obtain ⟨⟨⟨⟨⟨h1, h2⟩, h3⟩, h6⟩, h4⟩, h5⟩ := h
  refine pr_of_big h1 h3 fun r hr hrN => ?_
  have d1 := wit_div h1 h2 hp h4 hr hrN
  have d2 := wit_div h1 h2 hq h5 hr hrN
  have hc : Nat.Coprime p q := hp.coprime (fun x => by have := Nat.le_of_dvd (by have := hq.1; omega) x; omega)
  have := Nat.le_of_dvd (by have := hr.1; omega) (hc.mul_dvd_of_dvd_of_dvd d1 d2)
  have := hr.1
  omega

/-- A small number, tried. -/
def tried (n : Nat) : Nat → Bool
  | 0 => true
  | d + 1 => (Nat.ble d 1 || !Nat.beq (n % d) 0) && tried n d
theorem tried_no {n : Nat} : ∀ {k}, tried n k = true → ∀ d, 2 ≤ d → d < k → ¬ d ∣ n
  | k + 1, h, d, h2, hk, hd => by
    simp only [tried, Bool.and_eq_true, Bool.or_eq_true, Nat.ble_eq, Bool.not_eq_true', ← Bool.not_eq_true, Nat.beq_eq] at h
    by_cases e : d = k
    · subst e
      rcases h.1 with x | x
      · omega
      · exact x (Nat.mod_eq_zero_of_dvd hd)
    · exact tried_no h.2 d h2 (by omega) hd
theorem small {n : Nat} (h : (Nat.blt 1 n && tried n n) = true) : Pr n := by
  simp only [Bool.and_eq_true, Nat.blt_eq] at h
  refine ⟨h.1, fun d hd => ?_⟩
  have := Nat.le_of_dvd (by omega) hd
  have h0 : 0 < d := Nat.pos_of_dvd_of_pos hd (by omega)
  by_cases h1 : d = 1
  · exact .inl h1
  · by_cases h2 : d = n
    · exact .inr h2
    · exact absurd hd (tried_no h.2 d (by omega) (by omega))

/-! The chain of witnesses. -/
theorem pr5 : Pr 5 := small (by decide +kernel)
theorem pr181 : Pr 181 := small (by decide +kernel)
theorem pr197 : Pr 197 := small (by decide +kernel)
theorem pr313 : Pr 313 := small (by decide +kernel)
theorem pr919 : Pr 919 := small (by decide +kernel)
theorem pr1087 : Pr 1087 := pock1 (q := 181) (a := 2) pr181 (by decide +kernel)
theorem pr3677 : Pr 3677 := pock1 (q := 919) (a := 2) pr919 (by decide +kernel)
theorem pr4349 : Pr 4349 := pock1 (q := 1087) (a := 2) pr1087 (by decide +kernel)
theorem pr78283 : Pr 78283 := pock1 (q := 4349) (a := 2) pr4349 (by decide +kernel)
theorem pr704251 : Pr 704251 := pock2 (p := 313) (q := 5) (a := 2) (c := 2) pr313 pr5 (by decide +kernel)
theorem pr66417393611 : Pr 66417393611 := pock2 (p := 3677) (q := 197) (a := 2) (c := 2) pr3677 pr197 (by decide +kernel)
theorem pr11290956913871 : Pr 11290956913871 := pock1 (q := 66417393611) (a := 2) pr66417393611 (by decide +kernel)
theorem pr46076956964474543 : Pr 46076956964474543 := pock2 (p := 704251) (q := 78283) (a := 2) (c := 2) pr704251 pr78283 (by decide +kernel)
theorem pr774023187263532362759620327192479577272145303 : Pr 774023187263532362759620327192479577272145303 := pock2 (p := 46076956964474543) (q := 11290956913871) (a := 2) (c := 2) pr46076956964474543 pr11290956913871 (by decide +kernel)
theorem pr835945042244614951780389953367877943453916927241 : Pr 835945042244614951780389953367877943453916927241 := pock1 (q := 774023187263532362759620327192479577272145303) (a := 2) pr774023187263532362759620327192479577272145303 (by decide +kernel)
theorem prFP256 : Pr 115792089210356248762697446949407573530086143415290314195533631308867097853951 := pock1 (q := 835945042244614951780389953367877943453916927241) (a := 2) pr835945042244614951780389953367877943453916927241 (by decide +kernel)
end Go.Proofs.Ytbdgmkejmfjobaa

namespace Go.Proofs.Ytbdgmkejmfjobaa
set_option linter.unusedVariables false

theorem Pr.inv {p a : Nat} (hp : Pr p) (ha : a % p ≠ 0) : a * (a ^ (p - 2) % p) % p = 1 := by
  have h2 := hp.1
  rw [Nat.mul_mod, Nat.mod_mod, ← Nat.mul_mod, Nat.mul_comm, ← Nat.pow_succ]
  have e : p - 2 + 1 = p - 1 := by omega
  rw [Nat.succ_eq_add_one, e]
  exact hp.fermat ha

/-! At the four moduli. -/
end Go.Proofs.Ytbdgmkejmfjobaa
