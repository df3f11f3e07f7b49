/-
  Codes modulo 2^130 - 5, plain: numbers by their digits, of 26 bits and of 16.
-/
import Derived.Test.YtkdidacebfkdmaaPl
namespace Go.Proofs.Ytkdidacebfkdmaa
set_option linter.unusedVariables false

/-- What the lowest n digits say. -/
def val (B : Int) : Nat → (Nat → Int) → Int
  | 0, _ => 0
  | n + 1, d => val B n d + d n * B ^ n
theorem val1 (B : Int) (n : Nat) (d : Nat → Int) : val B (n + 1) d = val B n d + d n * B ^ n := rfl
theorem val_congr {B : Int} {n : Nat} {d e : Nat → Int} (h : ∀ i, i < n → d i = e i) : val B n d = val B n e := by
  induction n with
  | zero => rfl
  | succ n ih => simp only [val]; rw [ih (fun i hi => h i (by omega)), h n (by omega)]
theorem val_zero {B : Int} (n : Nat) : val B n (fun _ => 0) = 0 := by
  induction n with
  | zero => rfl
  | succ n ih => simp [val, ih]
theorem val_nonneg {B : Int} (hB : 0 ≤ B) {n : Nat} {d : Nat → Int} (h : ∀ i, i < n → 0 ≤ d i) : 0 ≤ val B n d := by
  induction n with
  | zero => exact Int.le_refl _
  | succ n ih =>
    have h1 := ih (fun i hi => h i (by omega))
    have h2 : 0 ≤ d n * B ^ n := Int.mul_nonneg (h n (by omega)) (Int.pow_nonneg hB)
    simp only [val]
    omega
theorem val_bound {B : Int} (hB : 0 < B) {n : Nat} {d : Nat → Int} (h : ∀ i, i < n → 0 ≤ d i ∧ d i < B) : 0 ≤ val B n d ∧ val B n d < B ^ n := by
  induction n with
  | zero => simp [val]
  | succ n ih =>
    have h1 := ih (fun i hi => h i (by omega))
    have h2 := h n (by omega)
    have hp : 0 < B ^ n := Int.pow_pos hB
    have h3 : d n * B ^ n ≤ (B - 1) * B ^ n := Int.mul_le_mul_of_nonneg_right (by omega) (by omega)
    have h4 : 0 ≤ d n * B ^ n := Int.mul_nonneg h2.1 (by omega)
    have h5 : (B - 1) * B ^ n = B ^ (n + 1) - B ^ n := by rw [Int.sub_mul, Int.one_mul, Int.pow_succ, Int.mul_comm B]
    simp only [val]
    omega
def updI (d : Nat → Int) (i : Nat) (x : Int) : Nat → Int := fun j => if j = i then x else d j
theorem updI_same (d : Nat → Int) (i : Nat) (x : Int) : updI d i x i = x := by simp [updI]
theorem updI_ne (d : Nat → Int) {i j : Nat} (x : Int) (h : j ≠ i) : updI d i x j = d j := by simp [updI, h]
theorem val_upd {B : Int} {n : Nat} (d : Nat → Int) {i : Nat} (x : Int) (h : n ≤ i) : val B n (updI d i x) = val B n d :=
  val_congr fun j hj => updI_ne d x (by omega)
theorem val_upd_in {B : Int} {n : Nat} (d : Nat → Int) {i : Nat} (x : Int) (h : i < n) : val B n (updI d i x) = val B n d + (x - d i) * B ^ i := by
  induction n with
  | zero => omega
  | succ n ih =>
    simp only [val]
    by_cases hi : i = n
    · subst hi
      rw [val_upd d x (Nat.le_refl _), updI_same, Int.sub_mul]
      omega
    · rw [ih (by omega), updI_ne d x (by omega)]
      omega
theorem val_add {B : Int} (n : Nat) (d e : Nat → Int) : val B n (fun i => d i + e i) = val B n d + val B n e := by
  induction n with
  | zero => rfl
  | succ n ih => simp only [val]; rw [ih, Int.add_mul]; omega

theorem val5 (d : Nat → Int) : val (67108864 : Int) 5 d = d 0 + d 1 * 67108864 + d 2 * 4503599627370496 + d 3 * 302231454903657293676544 + d 4 * 20282409603651670423947251286016 := by
  simp only [val]
  omega

/-! Digits of 26 bits, carried. -/
def crO (d : Nat → Int) : Nat → Int
  | 0 => 0
  | i + 1 => (d i + crO d i) / (67108864 : Int)
def crD (d : Nat → Int) (i : Nat) : Int := (d i + crO d i) % (67108864 : Int)
theorem cr_val (d : Nat → Int) (n : Nat) : val (67108864 : Int) n (crD d) + crO d n * (67108864 : Int) ^ n = val (67108864 : Int) n d := by
  induction n with
  | zero => simp [val, crO]
  | succ n ih =>
    have e : d n + crO d n = crD d n + crO d (n + 1) * (67108864 : Int) := by
      show d n + crO d n = (d n + crO d n) % (67108864 : Int) + (d n + crO d n) / (67108864 : Int) * (67108864 : Int)
      omega
    simp only [val1]
    rw [← ih, Int.pow_succ, show d n = crD d n + crO d (n + 1) * (67108864 : Int) - crO d n by omega]
    grind
theorem crO_nonneg {d : Nat → Int} {n : Nat} (h : ∀ i, i < n → 0 ≤ d i) : 0 ≤ crO d n := by
  induction n with
  | zero => exact Int.le_refl _
  | succ n ih =>
    have h1 := ih (fun i hi => h i (by omega))
    have h2 := h n (by omega)
    show 0 ≤ (d n + crO d n) / 67108864
    omega
theorem crO_le {d : Nat → Int} {n : Nat} (h : ∀ i, i < n → d i ≤ 4611686018427387904) : crO d n ≤ 137438953472 := by
  induction n with
  | zero => show (0 : Int) ≤ _; omega
  | succ n ih =>
    have h1 := ih (fun i hi => h i (by omega))
    have h2 := h n (by omega)
    show (d n + crO d n) / 67108864 ≤ _
    omega
theorem crD_bound (d : Nat → Int) (i : Nat) : 0 ≤ crD d i ∧ crD d i < 67108864 := ⟨Int.emod_nonneg _ (by decide), Int.emod_lt_of_pos _ (by decide)⟩
theorem cr5 (d : Nat → Int) : val (67108864 : Int) 5 (crD d) + crO d 5 * 1361129467683753853853498429727072845824 = val (67108864 : Int) 5 d := cr_val d 5
theorem crD_val (d : Nat → Int) : 0 ≤ val (67108864 : Int) 5 (crD d) ∧ val (67108864 : Int) 5 (crD d) < 1361129467683753853853498429727072845824 := val_bound (B := (67108864 : Int)) (by decide) (fun i _ => crD_bound d i)

/-- What goes beyond the highest digit is brought back. -/
def redF (d : Nat → Int) : Nat → Int := updI (crD d) 0 (crD d 0 + 5 * crO d 5)
theorem redF_val (d : Nat → Int) : val (67108864 : Int) 5 (redF d) = val (67108864 : Int) 5 d - crO d 5 * (1361129467683753853853498429727072845819 : Int) := by
  have h := cr5 d
  unfold redF
  rw [val_upd_in _ _ (by decide)]
  simp only [Int.pow_zero, Int.mul_one]
  omega
theorem redF_mod (d : Nat → Int) : val (67108864 : Int) 5 (redF d) % (1361129467683753853853498429727072845819 : Int) = val (67108864 : Int) 5 d % (1361129467683753853853498429727072845819 : Int) := by
  rw [redF_val, Int.sub_mul_emod_self_right]

/-- Digits that a product leaves: carried, but for the lowest, which may have 5 too much. -/
def Sm (d : Nat → Int) : Prop := (0 ≤ d 0 ∧ d 0 < 67108869) ∧ ∀ i, 0 < i → i < 5 → 0 ≤ d i ∧ d i < 67108864
theorem Sm.val_lt {d : Nat → Int} (h : Sm d) : 0 ≤ val (67108864 : Int) 5 d ∧ val (67108864 : Int) 5 d < 1361129467683753853853498429727072845829 := by
  have h0 := h.1
  have h1 := h.2 1 (by decide) (by decide)
  have h2 := h.2 2 (by decide) (by decide)
  have h3 := h.2 3 (by decide) (by decide)
  have h4 := h.2 4 (by decide) (by decide)
  rw [val5]
  omega
theorem Sm.le {d : Nat → Int} (h : Sm d) {i : Nat} (hi : i < 5) : 0 ≤ d i ∧ d i < 67108869 := by
  by_cases h0 : i = 0
  · subst h0; exact h.1
  · have := h.2 i (by omega) hi
    omega
/-- Twice reduced. -/
theorem red2 {d : Nat → Int} (h : ∀ i, i < 5 → 0 ≤ d i ∧ d i ≤ 4611686018427387904) : Sm (redF (redF d)) := by
  have hn := crO_nonneg (fun i hi => (h i hi).1)
  have hl := crO_le (fun i hi => (h i hi).2)
  have b0 := crD_bound d 0
  have b1 := crD_bound d 1
  have b2 := crD_bound d 2
  have b3 := crD_bound d 3
  have b4 := crD_bound d 4
  have e0 : redF d 0 = crD d 0 + 5 * crO d 5 := updI_same _ _ _
  have e1 : redF d 1 = crD d 1 := updI_ne _ _ (by decide)
  have e2 : redF d 2 = crD d 2 := updI_ne _ _ (by decide)
  have e3 : redF d 3 = crD d 3 := updI_ne _ _ (by decide)
  have e4 : redF d 4 = crD d 4 := updI_ne _ _ (by decide)
  have hv := val5 (redF d)
  have hc := cr5 (redF d)
  have hb := crD_val (redF d)
  rw [e0, e1, e2, e3, e4] at hv
  have ho : 0 ≤ crO (redF d) 5 ∧ crO (redF d) 5 ≤ 1 := by
    constructor
    · omega
    · omega
  refine ⟨?_, fun i h0 hi => ?_⟩
  · have : redF (redF d) 0 = crD (redF d) 0 + 5 * crO (redF d) 5 := updI_same _ _ _
    have b := crD_bound (redF d) 0
    omega
  · have : redF (redF d) i = crD (redF d) i := updI_ne _ _ (by omega)
    have b := crD_bound (redF d) i
    omega

/-! The program's product. -/
def ptF (a b : Nat → Int) (i j : Nat) : Int := if 5 ≤ i + j then a i * b j * 5 else a i * b j
def stP (a b : Nat → Int) : Nat → Nat → Int
  | 0 => fun _ => 0
  | t + 1 => updI (stP a b t) ((t / 5 + t % 5) % 5) (stP a b t ((t / 5 + t % 5) % 5) + ptF a b (t / 5) (t % 5))
theorem pow5 : (67108864 : Int) ^ 5 = (1361129467683753853853498429727072845819 : Int) + 5 := by decide
theorem ptF_mod (a b : Nat → Int) {i j : Nat} (hi : i < 5) (hj : j < 5) : ∃ q, ptF a b i j * (67108864 : Int) ^ ((i + j) % 5) = a i * b j * ((67108864 : Int) ^ i * (67108864 : Int) ^ j) - q * (1361129467683753853853498429727072845819 : Int) := by
  by_cases h : 5 ≤ i + j
  · refine ⟨a i * b j * (67108864 : Int) ^ ((i + j) % 5), ?_⟩
    rw [ptF, if_pos h]
    have e : (67108864 : Int) ^ i * (67108864 : Int) ^ j = (67108864 : Int) ^ ((i + j) % 5) * ((1361129467683753853853498429727072845819 : Int) + 5) := by
      rw [← pow5, ← Int.pow_add, ← Int.pow_add]
      congr 1
      omega
    rw [e]
    grind
  · refine ⟨0, ?_⟩
    rw [ptF, if_neg h, Nat.mod_eq_of_lt (by omega), Int.pow_add]
    grind
theorem stP_val (a b : Nat → Int) : ∀ t, t ≤ 25 → ∃ q, val (67108864 : Int) 5 (stP a b t) = val (67108864 : Int) (t / 5) a * val (67108864 : Int) 5 b + a (t / 5) * (67108864 : Int) ^ (t / 5) * val (67108864 : Int) (t % 5) b - q * (1361129467683753853853498429727072845819 : Int) := by
  intro t
  induction t with
  | zero => exact fun _ => ⟨0, by simp [stP, val]⟩
  | succ t ih =>
    intro ht
    obtain ⟨q, hq⟩ := ih (by omega)
    obtain ⟨q', hq'⟩ := ptF_mod a b (i := t / 5) (j := t % 5) (by omega) (by omega)
    refine ⟨q + q', ?_⟩
    show val (67108864 : Int) 5 (updI (stP a b t) ((t / 5 + t % 5) % 5) (stP a b t ((t / 5 + t % 5) % 5) + ptF a b (t / 5) (t % 5))) = _
    rw [val_upd_in _ _ (by omega), hq, show stP a b t ((t / 5 + t % 5) % 5) + ptF a b (t / 5) (t % 5) - stP a b t ((t / 5 + t % 5) % 5) = ptF a b (t / 5) (t % 5) by omega, hq']
    by_cases h : t % 5 = 4
    · rw [show (t + 1) / 5 = t / 5 + 1 by omega, show (t + 1) % 5 = 0 by omega, h, val1 (67108864 : Int) (t / 5) a]
      have e : val (67108864 : Int) 5 b = val (67108864 : Int) 4 b + b 4 * (67108864 : Int) ^ 4 := rfl
      have e0 : val (67108864 : Int) 0 b = 0 := rfl
      rw [e0, e]
      grind
    · rw [show (t + 1) / 5 = t / 5 by omega, show (t + 1) % 5 = t % 5 + 1 by omega, val1 (67108864 : Int) (t % 5) b]
      grind
theorem stP_le {a b : Nat → Int} (ha : ∀ i, i < 5 → 0 ≤ a i ∧ a i ≤ 268435456) (hb : ∀ i, i < 5 → 0 ≤ b i ∧ b i ≤ 67108864) : ∀ t, t ≤ 25 → ∀ k, 0 ≤ stP a b t k ∧ stP a b t k ≤ t * 90071992547409920 := by
  intro t
  induction t with
  | zero => intro _ k; simp [stP]
  | succ t ih =>
    intro ht k
    have h1 := ih (by omega)
    have p1 := ha (t / 5) (by omega)
    have p2 := hb (t % 5) (by omega)
    have m0 : 0 ≤ a (t / 5) * b (t % 5) := Int.mul_nonneg p1.1 p2.1
    have m1 : a (t / 5) * b (t % 5) ≤ 268435456 * 67108864 := Int.mul_le_mul p1.2 p2.2 p2.1 (by decide)
    have m2 : 0 ≤ ptF a b (t / 5) (t % 5) ∧ ptF a b (t / 5) (t % 5) ≤ 90071992547409920 := by
      unfold ptF
      split <;> omega
    show 0 ≤ updI _ _ _ k ∧ updI _ _ _ k ≤ _
    unfold updI
    have h2 := h1 k
    have h3 := h1 ((t / 5 + t % 5) % 5)
    split <;> omega
def prF (a b : Nat → Int) : Nat → Int := redF (redF (stP a b 25))
theorem prF_sm {a b : Nat → Int} (ha : ∀ i, i < 5 → 0 ≤ a i ∧ a i ≤ 268435456) (hb : ∀ i, i < 5 → 0 ≤ b i ∧ b i ≤ 67108864) : Sm (prF a b) := by
  refine red2 fun i hi => ?_
  have := stP_le ha hb 25 (Nat.le_refl _) i
  omega
theorem prF_mod (a b : Nat → Int) : val (67108864 : Int) 5 (prF a b) % (1361129467683753853853498429727072845819 : Int) = val (67108864 : Int) 5 a * val (67108864 : Int) 5 b % (1361129467683753853853498429727072845819 : Int) := by
  unfold prF
  rw [redF_mod, redF_mod]
  obtain ⟨q, hq⟩ := stP_val a b 25 (Nat.le_refl _)
  rw [hq]
  have e : val (67108864 : Int) (25 / 5) a * val (67108864 : Int) 5 b + a (25 / 5) * (67108864 : Int) ^ (25 / 5) * val (67108864 : Int) (25 % 5) b = val (67108864 : Int) 5 a * val (67108864 : Int) 5 b := by
    show val (67108864 : Int) 5 a * val (67108864 : Int) 5 b + _ * 0 = _
    omega
  rw [e, Int.sub_mul_emod_self_right]

/-! The number of bytes. -/
def nmF (f : Nat → By) : Nat → Int := fun i => ((f i).toNat : Int)
def nfF (f : Nat → By) : Nat → Nat → Int
  | 0 => fun _ => 0
  | t + 1 => updI (nfF f t) (8 * t / 26) (nfF f t (8 * t / 26) + nmF f t * 2 ^ (8 * t % 26))
theorem pow_26 (t : Nat) : (2 : Int) ^ (8 * t % 26) * (67108864 : Int) ^ (8 * t / 26) = 256 ^ t := by
  have e1 : (67108864 : Int) ^ (8 * t / 26) = 2 ^ (26 * (8 * t / 26)) := by rw [Int.pow_mul]; rfl
  have e2 : (256 : Int) ^ t = 2 ^ (8 * t) := by rw [Int.pow_mul]; rfl
  rw [e1, e2, ← Int.pow_add]
  congr 1
  omega
theorem nfF_val (f : Nat → By) : ∀ t, t ≤ 16 + 1 → val (67108864 : Int) 5 (nfF f t) = val 256 t (nmF f) := by
  intro t
  induction t with
  | zero => intro _; simp [nfF, val]
  | succ t ih =>
    intro ht
    show val (67108864 : Int) 5 (updI _ _ _) = _
    rw [val_upd_in _ _ (by omega), ih (by omega), val1, ← pow_26 t]
    have e : nfF f t (8 * t / 26) + nmF f t * 2 ^ (8 * t % 26) - nfF f t (8 * t / 26) = nmF f t * 2 ^ (8 * t % 26) := by omega
    rw [e, Int.mul_assoc]
theorem nmF_bound (f : Nat → By) (i : Nat) : 0 ≤ nmF f i ∧ nmF f i < 256 := by
  have := (f i).isLt
  unfold nmF
  omega
theorem shift_le (f : Nat → By) (t : Nat) : 0 ≤ nmF f t * 2 ^ (8 * t % 26) ∧ nmF f t * 2 ^ (8 * t % 26) ≤ 8589934592 := by
  have h := nmF_bound f t
  have h1 : (2 : Int) ^ (8 * t % 26) ≤ 2 ^ 25 := by exact_mod_cast Nat.pow_le_pow_right (n := 2) (by decide) (by omega)
  have h2 : (0 : Int) < 2 ^ (8 * t % 26) := Int.pow_pos (by decide)
  refine ⟨Int.mul_nonneg h.1 (by omega), ?_⟩
  have : nmF f t * 2 ^ (8 * t % 26) ≤ 256 * 2 ^ 25 := Int.mul_le_mul (by omega) h1 (by omega) (by decide)
  omega
theorem nfF_le (f : Nat → By) : ∀ t k, 0 ≤ nfF f t k ∧ nfF f t k ≤ t * 8589934592 := by
  intro t
  induction t with
  | zero => intro k; simp [nfF]
  | succ t ih =>
    intro k
    have h1 := ih k
    have h2 := ih (8 * t / 26)
    have h3 := shift_le f t
    show 0 ≤ updI _ _ _ k ∧ updI _ _ _ k ≤ _
    unfold updI
    split <;> omega
def noF (f : Nat → By) : Nat → Int := redF (nfF f 17)
/-- A number of 17 bytes below 2^130: it is carried. -/
theorem noF_val {f : Nat → By} (h : val 256 17 (nmF f) < 1361129467683753853853498429727072845824) : val (67108864 : Int) 5 (noF f) = val 256 17 (nmF f) ∧ ∀ i, i < 5 → 0 ≤ noF f i ∧ noF f i < 67108864 := by
  have hv := nfF_val f 17 (by decide)
  have hc := cr5 (nfF f 17)
  have hb := crD_val (nfF f 17)
  have h0 : crO (nfF f 17) 5 = 0 := by
    have hn := crO_nonneg (d := nfF f 17) (n := 5) (fun i _ => (nfF_le f 17 i).1)
    omega
  refine ⟨?_, fun i hi => ?_⟩
  · unfold noF
    rw [redF_val, h0, hv]
    omega
  · unfold noF redF
    rw [h0]
    have b := crD_bound (nfF f 17) i
    unfold updI
    split
    · rename_i e
      subst e
      omega
    · exact b

/-- Below 2^130 - 5. -/
def fiveF : Nat → Int := updI (fun _ => 0) 0 5
def addF (a b : Nat → Int) : Nat → Int := fun i => a i + b i
def leF (s : Nat → Int) : Nat → Int := if crO (addF s fiveF) 5 = 0 then s else crD (addF s fiveF)
theorem val_five : val (67108864 : Int) 5 fiveF = 5 := by decide
theorem leF_val {s : Nat → Int} (h : Sm s) : val (67108864 : Int) 5 (leF s) = val (67108864 : Int) 5 s % (1361129467683753853853498429727072845819 : Int) ∧ ∀ i, i < 5 → 0 ≤ leF s i ∧ leF s i < 67108869 := by
  have hv := h.val_lt
  have ha : val (67108864 : Int) 5 (addF s fiveF) = val (67108864 : Int) 5 s + 5 := by rw [← val_five]; exact val_add 5 s fiveF
  have hc := cr5 (addF s fiveF)
  have hb := crD_val (addF s fiveF)
  unfold leF
  split
  · rename_i h0
    rw [h0] at hc
    refine ⟨?_, fun i hi => h.le hi⟩
    rw [Int.emod_eq_of_lt hv.1 (by omega)]
  · rename_i h0
    refine ⟨?_, fun i hi => ?_⟩
    · have : crO (addF s fiveF) 5 = 1 := by omega
      rw [this] at hc
      have e : val (67108864 : Int) 5 s = val (67108864 : Int) 5 (crD (addF s fiveF)) + (1361129467683753853853498429727072845819 : Int) := by omega
      rw [e, Int.add_emod_right, Int.emod_eq_of_lt hb.1 (by omega)]
    · have := crD_bound (addF s fiveF) i
      omega
end Go.Proofs.Ytkdidacebfkdmaa
