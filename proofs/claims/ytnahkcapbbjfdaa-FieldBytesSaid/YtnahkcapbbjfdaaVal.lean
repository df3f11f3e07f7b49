/-
  Numbers by their digits: plain.
-/
namespace Go.Proofs.Ytnahkcapbbjfdaa
set_option linter.unusedVariables false

/-- What the lowest n digits say. -/
def val (B : Int) : Nat → (Nat → Int) → Int
  | 0, _ => 0
  | n + 1, d => val B n d + d n * B ^ n

/-- A digit of 64 bits. -/
def W64 (x : Int) : Prop := 0 ≤ x ∧ x < 18446744073709551616

abbrev B64 : Int := 18446744073709551616

theorem val_congr {B : Int} {n : Nat} {d e : Nat → Int} (h : ∀ i, i < n → d i = e i) : val B n d = val B n e := by
  induction n with
  | zero => rfl
  | succ n ih => simp only [val]; rw [ih (fun i hi => h i (by omega)), h n (by omega)]

theorem val_zero {B : Int} (n : Nat) : val B n (fun _ => 0) = 0 := by
  induction n with
  | zero => rfl
  | succ n ih => simp [val, ih]

theorem pow_pos' {B : Int} (hB : 0 < B) (n : Nat) : 0 < B ^ n := Int.pow_pos hB

theorem val_bound {B : Int} (hB : 0 < B) {n : Nat} {d : Nat → Int} (h : ∀ i, i < n → 0 ≤ d i ∧ d i < B) : 0 ≤ val B n d ∧ val B n d < B ^ n := by
  induction n with
  | zero => simp [val]
  | succ n ih =>
    have h1 := ih (fun i hi => h i (by omega))
    have h2 := h n (by omega)
    have hp := pow_pos' hB n
    have h3 : d n * B ^ n ≤ (B - 1) * B ^ n := Int.mul_le_mul_of_nonneg_right (by omega) (by omega)
    have h4 : 0 ≤ d n * B ^ n := Int.mul_nonneg h2.1 (by omega)
    have h5 : (B - 1) * B ^ n = B ^ (n + 1) - B ^ n := by rw [Int.sub_mul, Int.one_mul, Int.pow_succ, Int.mul_comm B]
    simp only [val]
    omega

/-- The digits are told by the number. -/
theorem val_inj {B : Int} (hB : 0 < B) {n : Nat} {d e : Nat → Int} (hd : ∀ i, i < n → 0 ≤ d i ∧ d i < B) (he : ∀ i, i < n → 0 ≤ e i ∧ e i < B) (h : val B n d = val B n e) : ∀ i, i < n → d i = e i := by
  induction n with
  | zero => intro i hi; omega
  | succ n ih =>
    have b1 := val_bound hB (fun i hi => hd i (Nat.lt_succ_of_lt hi)) (n := n)
    have b2 := val_bound hB (fun i hi => he i (Nat.lt_succ_of_lt hi)) (n := n)
    have hp := pow_pos' hB n
    simp only [val] at h
    have hn : d n = e n := by
      rcases Int.lt_trichotomy (d n) (e n) with hlt | heq | hgt
      · have : (d n + 1) * B ^ n ≤ e n * B ^ n := Int.mul_le_mul_of_nonneg_right (by omega) (by omega)
        rw [Int.add_mul, Int.one_mul] at this
        omega
      · exact heq
      · have : (e n + 1) * B ^ n ≤ d n * B ^ n := Int.mul_le_mul_of_nonneg_right (by omega) (by omega)
        rw [Int.add_mul, Int.one_mul] at this
        omega
    intro i hi
    by_cases h' : i = n
    · rw [h']; exact hn
    · exact ih (fun i hi => hd i (by omega)) (fun i hi => he i (by omega)) (by rw [hn] at h; omega) i (by omega)

/-- The digits of a number. -/
def dg (B : Int) (x : Int) : Nat → Int := fun i => x / B ^ i % B

theorem dg_bound {B : Int} (hB : 0 < B) (x : Int) (i : Nat) : 0 ≤ dg B x i ∧ dg B x i < B :=
  ⟨Int.emod_nonneg _ (by omega), Int.emod_lt_of_pos _ hB⟩

theorem val_dg {B : Int} (hB : 0 < B) (n : Nat) (x : Int) : val B n (dg B x) = x % B ^ n := by
  induction n with
  | zero => simp [val, Int.emod_one]
  | succ n ih =>
    simp only [val]
    rw [ih]
    unfold dg
    have hp := pow_pos' hB n
    have e1 := Int.emod_add_mul_ediv x (B ^ n)
    have e2 := Int.emod_add_mul_ediv (x / B ^ n) B
    have e3 := Int.emod_add_mul_ediv x (B ^ (n + 1))
    have e4 : x / B ^ n / B = x / B ^ (n + 1) := by rw [Int.ediv_ediv_of_nonneg (by omega), Int.pow_succ]
    rw [e4] at e2
    have e5 : B ^ n * (x / B ^ n) = B ^ n * (x / B ^ n % B) + B ^ (n + 1) * (x / B ^ (n + 1)) := by
      have e6 : B ^ n * (x / B ^ n % B + B * (x / B ^ (n + 1))) = B ^ n * (x / B ^ n) := by rw [e2]
      rw [Int.mul_add, ← Int.mul_assoc, ← Int.pow_succ] at e6
      exact e6.symm
    rw [Int.mul_comm (x / B ^ n % B)]
    omega


def upd (d : Nat → Int) (i : Nat) (x : Int) : Nat → Int := fun j => if j = i then x else d j

theorem upd_same (d : Nat → Int) (i : Nat) (x : Int) : upd d i x i = x := by simp [upd]
theorem upd_ne (d : Nat → Int) {i j : Nat} (x : Int) (h : j ≠ i) : upd d i x j = d j := by simp [upd, h]

theorem val_upd {B : Int} {n : Nat} (d : Nat → Int) {i : Nat} (x : Int) (h : n ≤ i) : val B n (upd d i x) = val B n d :=
  val_congr fun j hj => upd_ne d x (by omega)

theorem val_upd_in {B : Int} {n : Nat} (d : Nat → Int) {i : Nat} (x : Int) (h : i < n) : val B n (upd d i x) = val B n d + (x - d i) * B ^ i := by
  induction n with
  | zero => omega
  | succ n ih =>
    simp only [val]
    by_cases hi : i = n
    · subst hi
      rw [val_upd d x (Nat.le_refl _), upd_same, Int.sub_mul]
      omega
    · rw [ih (by omega), upd_ne d x (by omega)]
      omega

theorem upd_w {d : Nat → Int} (h : ∀ i, W64 (d i)) (i : Nat) {x : Int} (hx : W64 x) : ∀ j, W64 (upd d i x j) := by
  intro j
  unfold upd
  split
  · exact hx
  · exact h j

theorem val1 (B : Int) (n : Nat) (d : Nat → Int) : val B (n + 1) d = val B n d + d n * B ^ n := rfl

/-- One step of a sum. -/
theorem val_step {B : Int} {k : Nat} {d e s : Nat → Int} {o lo o' : Int} (h : val B k s + o * B ^ k = val B k d + val B k e) (hx : lo + o' * B = d k + e k + o) :
    val B (k + 1) (upd s k lo) + o' * B ^ (k + 1) = val B (k + 1) d + val B (k + 1) e := by
  simp only [val1]
  rw [val_upd s lo (Nat.le_refl _), upd_same]
  have e1 : lo = d k + e k + o - o' * B := by omega
  have e2 : o' * B ^ (k + 1) = o' * B * B ^ k := by rw [Int.pow_succ, Int.mul_comm (B ^ k), Int.mul_assoc]
  rw [e1, e2, Int.sub_mul, Int.add_mul, Int.add_mul]
  omega

/-- One step of a difference. -/
theorem val_step' {B : Int} {k : Nat} {d e s : Nat → Int} {o lo o' : Int} (h : val B k s - o * B ^ k = val B k d - val B k e) (hx : lo - o' * B = d k - e k - o) :
    val B (k + 1) (upd s k lo) - o' * B ^ (k + 1) = val B (k + 1) d - val B (k + 1) e := by
  simp only [val1]
  rw [val_upd s lo (Nat.le_refl _), upd_same]
  have e1 : lo = d k - e k - o + o' * B := by omega
  have e2 : o' * B ^ (k + 1) = o' * B * B ^ k := by rw [Int.pow_succ, Int.mul_comm (B ^ k), Int.mul_assoc]
  rw [e1, e2, Int.add_mul, Int.sub_mul, Int.sub_mul]
  omega

/-- The highest digit in which two numbers differ tells which is less. -/
theorem val_lt {B : Int} (hB : 0 < B) {n q : Nat} {d e : Nat → Int} (hd : ∀ i, i < n → 0 ≤ d i ∧ d i < B) (he : ∀ i, i < n → 0 ≤ e i ∧ e i < B) (hq : q < n) (hh : ∀ j, q < j → j < n → d j = e j) (h : d q < e q) : val B n d < val B n e := by
  induction n with
  | zero => omega
  | succ n ih =>
    simp only [val]
    by_cases hn : q = n
    · subst hn
      have b1 := val_bound hB (fun i hi => hd i (Nat.lt_succ_of_lt hi)) (n := q)
      have b2 := val_bound hB (fun i hi => he i (Nat.lt_succ_of_lt hi)) (n := q)
      have : (d q + 1) * B ^ q ≤ e q * B ^ q := Int.mul_le_mul_of_nonneg_right (by omega) (by have := pow_pos' hB q; omega)
      rw [Int.add_mul, Int.one_mul] at this
      omega
    · have h1 := ih (fun i hi => hd i (by omega)) (fun i hi => he i (by omega)) (by omega) (fun j h1 h2 => hh j h1 (by omega))
      rw [hh n (by omega) (by omega)]
      omega

/-- One step of a sum with a multiple. -/
theorem val_stepm {B m : Int} {k : Nat} {d e s : Nat → Int} {o lo o' : Int} (h : val B k s + o * B ^ k = val B k d + m * val B k e) (hx : lo + o' * B = e k * m + d k + o) :
    val B (k + 1) (upd s k lo) + o' * B ^ (k + 1) = val B (k + 1) d + m * val B (k + 1) e := by
  simp only [val1]
  rw [val_upd s lo (Nat.le_refl _), upd_same, Int.pow_succ]
  grind

/-- One step of a product: a digit x of the one number, at i; the other's digits, up to j. -/
theorem val_stepp {B V x : Int} {n i j : Nat} {e s : Nat → Int} {o lo o' : Int} (hn : i + j < n) (h : val B n s + o * B ^ (i + j) = V + x * val B j e * B ^ i) (hx : lo + o' * B = x * e j + s (i + j) + o) :
    val B n (upd s (i + j) lo) + o' * B ^ (i + j + 1) = V + x * val B (j + 1) e * B ^ i := by
  rw [val_upd_in s lo hn, val1]
  simp only [Int.pow_succ, Int.pow_add] at *
  grind

/-- What goes beyond the digits is laid above them. -/
theorem val_laid {B : Int} {n m : Nat} {s : Nat → Int} {o V : Int} (hm : m < n) (h : val B n s + o * B ^ m = V) (h0 : s m = 0) : val B n (upd s m o) = V := by
  rw [val_upd_in s o hm, h0]
  grind
end Go.Proofs.Ytnahkcapbbjfdaa
