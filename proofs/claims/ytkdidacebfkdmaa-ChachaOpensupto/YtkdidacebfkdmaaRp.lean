/-
  The document's numbers, plain: digits of 16 bits.
-/
import Derived.Test.YtkdidacebfkdmaaPp
namespace Go.Proofs.Ytkdidacebfkdmaa
set_option linter.unusedVariables false

/-! Carries, of any base, from any first one on. -/
def gO (B c : Int) (d : Nat → Int) : Nat → Int
  | 0 => c
  | i + 1 => (d i + gO B c d i) / B
def gD (B c : Int) (d : Nat → Int) (i : Nat) : Int := (d i + gO B c d i) % B
theorem g_val (B c : Int) (d : Nat → Int) (n : Nat) : val B n (gD B c d) + gO B c d n * B ^ n = val B n d + c := by
  induction n with
  | zero => simp [val, gO]
  | succ n ih =>
    have e : d n + gO B c d n = gD B c d n + gO B c d (n + 1) * B := by
      show d n + gO B c d n = (d n + gO B c d n) % B + (d n + gO B c d n) / B * B
      rw [Int.mul_comm, Int.emod_add_mul_ediv]
    simp only [val1]
    have e2 : d n = gD B c d n + gO B c d (n + 1) * B - gO B c d n := by omega
    rw [Int.pow_succ, e2]
    have e3 : val B n d = val B n (gD B c d) + gO B c d n * B ^ n - c := by omega
    rw [e3]
    grind
theorem gD_bound {B : Int} (hB : 0 < B) (c : Int) (d : Nat → Int) (i : Nat) : 0 ≤ gD B c d i ∧ gD B c d i < B := ⟨Int.emod_nonneg _ (by omega), Int.emod_lt_of_pos _ hB⟩
theorem gO_nonneg {B c : Int} (hB : 0 < B) (hc : 0 ≤ c) {d : Nat → Int} {n : Nat} (h : ∀ i, i < n → 0 ≤ d i) : 0 ≤ gO B c d n := by
  induction n with
  | zero => exact hc
  | succ n ih => exact Int.ediv_nonneg (Int.add_nonneg (h n (by omega)) (ih (fun i hi => h i (by omega)))) (by omega)

/-! carried. -/
def rcD (p : Nat → Int) (i : Nat) : Int := if i < 17 then gD 65536 0 p i else p i + gO 65536 0 p i
theorem rc_val (p : Nat → Int) : val 65536 18 (rcD p) = val 65536 18 p := by
  have h := g_val 65536 0 p 17
  have e : val 65536 17 (rcD p) = val 65536 17 (gD 65536 0 p) := val_congr fun i hi => by unfold rcD; rw [if_pos hi]
  have e2 : rcD p 17 = p 17 + gO 65536 0 p 17 := by unfold rcD; rw [if_neg (by decide)]
  rw [val1 65536 17, val1 65536 17, e, e2, Int.add_mul]
  omega
theorem rO_le {p : Nat → Int} {n : Nat} (h : ∀ i, i < n → p i ≤ 4611686018427387904) : gO 65536 0 p n ≤ 140737488355328 := by
  induction n with
  | zero => show (0 : Int) ≤ _; omega
  | succ n ih =>
    have h1 := ih (fun i hi => h i (by omega))
    have h2 := h n (by omega)
    show (p n + gO 65536 0 p n) / 65536 ≤ _
    omega
/-- Digits of 16 bits. -/
def D16 (n : Nat) (p : Nat → Int) : Prop := ∀ i, i < n → 0 ≤ p i ∧ p i < 65536
theorem rc_d16 {p : Nat → Int} (h : ∀ i, i < 18 → 0 ≤ p i) (hv : val 65536 18 p < 65536 ^ 18) : D16 18 (rcD p) := by
  intro i hi
  have hb : ∀ j, j < 17 → 0 ≤ rcD p j ∧ rcD p j < 65536 := fun j hj => by
    unfold rcD
    rw [if_pos hj]
    exact gD_bound (by decide) 0 p j
  by_cases h17 : i < 17
  · exact hb i h17
  · have e : i = 17 := by omega
    subst e
    have h0 : 0 ≤ rcD p 17 := by
      unfold rcD
      rw [if_neg (by decide)]
      exact Int.add_nonneg (h 17 (by decide)) (gO_nonneg (by decide) (by decide) (fun j hj => h j (by omega)))
    refine ⟨h0, ?_⟩
    have h1 := val_bound (B := 65536) (by decide) (n := 17) hb
    rw [← rc_val p, val1] at hv
    have h2 : rcD p 17 * 65536 ^ 17 < 65536 * 65536 ^ 17 := by
      have : (65536 : Int) ^ 18 = 65536 * 65536 ^ 17 := by rw [Int.pow_succ, Int.mul_comm]
      omega
    exact Int.lt_of_mul_lt_mul_right h2 (by decide)

/-! The product of digits. -/
def cvF (a r : Nat → Int) : Nat → Nat → Int
  | 0 => fun _ => 0
  | t + 1 => updI (cvF a r t) (t / 8 + t % 8) (cvF a r t (t / 8 + t % 8) + a (t / 8) * r (t % 8))
theorem cvF_succ (a r : Nat → Int) (t : Nat) : cvF a r (t + 1) = updI (cvF a r t) (t / 8 + t % 8) (cvF a r t (t / 8 + t % 8) + a (t / 8) * r (t % 8)) := rfl
theorem cvF_val (a r : Nat → Int) : ∀ t, t ≤ 72 → val 65536 18 (cvF a r t) = val 65536 (t / 8) a * val 65536 8 r + a (t / 8) * 65536 ^ (t / 8) * val 65536 (t % 8) r := by
  intro t
  induction t with
  | zero => intro _; simp [cvF, val]
  | succ t ih =>
    intro ht
    rw [cvF_succ, val_upd_in _ _ (by omega), ih (by omega), show cvF a r t (t / 8 + t % 8) + a (t / 8) * r (t % 8) - cvF a r t (t / 8 + t % 8) = a (t / 8) * r (t % 8) by omega, Int.pow_add]
    by_cases h : t % 8 = 7
    · rw [show (t + 1) / 8 = t / 8 + 1 by omega, show (t + 1) % 8 = 0 by omega, h, val1 65536 (t / 8) a]
      have e : val 65536 8 r = val 65536 7 r + r 7 * 65536 ^ 7 := rfl
      have e0 : val 65536 0 r = 0 := rfl
      rw [e0, e]
      grind
    · rw [show (t + 1) / 8 = t / 8 by omega, show (t + 1) % 8 = t % 8 + 1 by omega, val1 65536 (t % 8) r]
      grind
theorem cvF_le {a r : Nat → Int} (ha : ∀ i, i < 9 → 0 ≤ a i ∧ a i ≤ 131072) (hr : D16 8 r) : ∀ t, t ≤ 72 → ∀ k, 0 ≤ cvF a r t k ∧ cvF a r t k ≤ t * 8589934592 := by
  intro t
  induction t with
  | zero => intro _ k; simp [cvF]
  | succ t ih =>
    intro ht k
    have h1 := ih (by omega)
    have p1 := ha (t / 8) (by omega)
    have p2 := hr (t % 8) (by omega)
    have m0 : 0 ≤ a (t / 8) * r (t % 8) := Int.mul_nonneg p1.1 p2.1
    have m1 : a (t / 8) * r (t % 8) ≤ 131072 * 65536 := Int.mul_le_mul p1.2 (by omega) p2.1 (by decide)
    rw [cvF_succ]
    unfold updI
    have h2 := h1 k
    have h3 := h1 (t / 8 + t % 8)
    split <;> omega
theorem cvF_all (a r : Nat → Int) : val 65536 18 (cvF a r 72) = val 65536 9 a * val 65536 8 r := by
  rw [cvF_val a r 72 (Nat.le_refl _)]
  show val 65536 9 a * val 65536 8 r + _ * 0 = _
  omega
theorem val9_le {a : Nat → Int} (ha : ∀ i, i < 9 → 0 ≤ a i ∧ a i ≤ 131072) : 0 ≤ val 65536 9 a ∧ val 65536 9 a ≤ 2 ^ 146 := by
  have h0 := ha 0 (by decide)
  have h1 := ha 1 (by decide)
  have h2 := ha 2 (by decide)
  have h3 := ha 3 (by decide)
  have h4 := ha 4 (by decide)
  have h5 := ha 5 (by decide)
  have h6 := ha 6 (by decide)
  have h7 := ha 7 (by decide)
  have h8 := ha 8 (by decide)
  simp only [val, Int.reducePow]
  omega
theorem prod_lt {a r : Nat → Int} (ha : ∀ i, i < 9 → 0 ≤ a i ∧ a i ≤ 131072) (hr : D16 8 r) : 0 ≤ val 65536 9 a * val 65536 8 r ∧ val 65536 9 a * val 65536 8 r ≤ 2 ^ 146 * 2 ^ 128 := by
  have h1 := val9_le ha
  have h2 := val_bound (B := 65536) (by decide) (n := 8) hr
  have h3 : (65536 : Int) ^ 8 = 2 ^ 128 := by decide
  refine ⟨Int.mul_nonneg h1.1 h2.1, ?_⟩
  exact Int.mul_le_mul h1.2 (by omega) h2.1 (by decide)

/-! What stands above 2^130 is brought down. -/
def hiF (p : Nat → Int) (i : Nat) : Int := if i < 9 then p (8 + i) / 4 + p (8 + i + 1) % 4 * 16384 else if i = 9 then p 17 / 4 else 0
theorem hi_val {p : Nat → Int} : ∀ k, k ≤ 9 → 4 * val 65536 k (hiF p) + p 8 % 4 = val 65536 k (fun i => p (8 + i)) + p (8 + k) % 4 * 65536 ^ k := by
  intro k
  induction k with
  | zero => intro _; simp [val]
  | succ k ih =>
    intro hk
    have h := ih (by omega)
    have e : hiF p k = p (8 + k) / 4 + p (8 + k + 1) % 4 * 16384 := by unfold hiF; rw [if_pos (by omega)]
    have e2 : p (8 + k) = 4 * (p (8 + k) / 4) + p (8 + k) % 4 := by omega
    rw [val1, val1, e, Int.pow_succ]
    show 4 * (val 65536 k (hiF p) + (p (8 + k) / 4 + p (8 + k + 1) % 4 * 16384) * 65536 ^ k) + p 8 % 4 = val 65536 k (fun i => p (8 + i)) + p (8 + k) * 65536 ^ k + p (8 + (k + 1)) % 4 * (65536 ^ k * 65536)
    rw [show 8 + (k + 1) = 8 + k + 1 from rfl]
    generalize p (8 + k + 1) % 4 = y at *
    generalize hx : p (8 + k) % 4 = x at *
    generalize p (8 + k) / 4 = z at *
    rw [e2]
    grind
theorem hi_all (p : Nat → Int) : 4 * val 65536 10 (hiF p) + p 8 % 4 = val 65536 10 (fun i => p (8 + i)) := by
  have h := hi_val (p := p) 9 (Nat.le_refl _)
  rw [val1, val1]
  have e : hiF p 9 = p 17 / 4 := rfl
  rw [e]
  show 4 * (val 65536 9 (hiF p) + p 17 / 4 * 65536 ^ 9) + p 8 % 4 = val 65536 9 (fun i => p (8 + i)) + p 17 * 65536 ^ 9
  have h' : 4 * val 65536 9 (hiF p) + p 8 % 4 = val 65536 9 (fun i => p (8 + i)) + p 17 % 4 * 65536 ^ 9 := h
  have e2 : p 17 = 4 * (p 17 / 4) + p 17 % 4 := by omega
  generalize hx : p 17 % 4 = x at *
  generalize p 17 / 4 = z at *
  rw [e2]
  grind
theorem val_split (B : Int) (d : Nat → Int) (n : Nat) : ∀ m, val B (n + m) d = val B n d + B ^ n * val B m (fun i => d (n + i)) := by
  intro m
  induction m with
  | zero => simp [val]
  | succ m ih =>
    show val B (n + m) d + d (n + m) * B ^ (n + m) = val B n d + B ^ n * (val B m (fun i => d (n + i)) + d (n + m) * B ^ m)
    rw [ih, Int.pow_add]
    grind
/-- The digits behind it, not yet carried. -/
def tqF (p : Nat → Int) (i : Nat) : Int := (if i < 8 then p i else if i = 8 then p 8 % 4 else 0) + 5 * hiF p i
theorem tq_val (p : Nat → Int) : val 65536 18 (tqF p) = val 65536 8 p + p 8 % 4 * 65536 ^ 8 + 5 * val 65536 10 (hiF p) := by
  have h1 : val 65536 18 (tqF p) = val 65536 18 (fun i => if i < 8 then p i else if i = 8 then p 8 % 4 else 0) + val 65536 18 (fun i => 5 * hiF p i) := val_add 18 _ _
  have h2 : val 65536 18 (fun i => 5 * hiF p i) = 5 * val 65536 10 (hiF p) := by
    have e : ∀ n, val 65536 n (fun i => 5 * hiF p i) = 5 * val 65536 n (hiF p) := by
      intro n
      induction n with
      | zero => rfl
      | succ n ih => rw [val1, val1, ih]; grind
    have e2 : val 65536 18 (hiF p) = val 65536 10 (hiF p) := by
      have z : ∀ i, 10 ≤ i → hiF p i = 0 := fun i hi => by unfold hiF; rw [if_neg (by omega), if_neg (by omega)]
      rw [show (18 : Nat) = 10 + 8 from rfl, val_split]
      have : val 65536 8 (fun i => hiF p (10 + i)) = val 65536 8 (fun _ => 0) := val_congr fun i _ => z _ (by omega)
      rw [this, val_zero]
      omega
    rw [e, e2]
  have h3 : val 65536 18 (fun i => if i < 8 then p i else if i = 8 then p 8 % 4 else 0) = val 65536 8 p + p 8 % 4 * 65536 ^ 8 := by
    rw [show (18 : Nat) = 9 + 9 from rfl, val_split]
    have e1 : val 65536 9 (fun i => if 9 + i < 8 then p (9 + i) else if 9 + i = 8 then p 8 % 4 else 0) = val 65536 9 (fun _ => 0) := val_congr fun i _ => by rw [if_neg (by omega), if_neg (by omega)]
    rw [e1, val_zero, val1]
    have e2 : val 65536 8 (fun i => if i < 8 then p i else if i = 8 then p 8 % 4 else 0) = val 65536 8 p := val_congr fun i hi => by rw [if_pos hi]
    rw [e2]
    simp
  rw [h1, h2, h3]
def trF (p : Nat → Int) : Nat → Int := rcD (tqF p)
/-- A turn: what it leaves, and its value. -/
theorem tr_ok {p : Nat → Int} (hp : D16 18 p) : D16 18 (trF p) ∧ val 65536 18 (trF p) = val 65536 18 p % 2 ^ 130 + 5 * (val 65536 18 p / 2 ^ 130) ∧ (∀ i, i < 18 → 0 ≤ tqF p i ∧ tqF p i ≤ 4611686018427387904) ∧ (∀ i, i < 10 → 0 ≤ hiF p i ∧ hiF p i < 65536) := by
  have hh : ∀ i, i < 10 → 0 ≤ hiF p i ∧ hiF p i < 65536 := fun i hi => by
    unfold hiF
    by_cases h9 : i < 9
    · rw [if_pos h9]
      have a1 := hp (8 + i) (by omega)
      have a2 := hp (8 + i + 1) (by omega)
      omega
    · rw [if_neg h9, if_pos (by omega)]
      have a1 := hp 17 (by decide)
      omega
  have hz : ∀ i, 10 ≤ i → hiF p i = 0 := fun i hi => by unfold hiF; rw [if_neg (by omega), if_neg (by omega)]
  have hq : ∀ i, i < 18 → 0 ≤ tqF p i ∧ tqF p i ≤ 4611686018427387904 := fun i hi => by
    have a0 := hp i hi
    have a8 := hp 8 (by decide)
    have ah : 0 ≤ hiF p i ∧ hiF p i < 65536 := by
      by_cases h : i < 10
      · exact hh i h
      · rw [hz i (by omega)]; decide
    unfold tqF
    split
    · omega
    · split <;> omega
  have h8 := val_bound (B := 65536) (by decide) (n := 8) (fun i hi => hp i (by omega))
  have hH := val_bound (B := 65536) (by decide) (n := 10) hh
  have hv : val 65536 18 p = val 65536 8 p + 65536 ^ 8 * val 65536 10 (fun i => p (8 + i)) := val_split 65536 p 8 10
  have ha := hi_all p
  have ht := tq_val p
  have a8 := hp 8 (by decide)
  have p8 : (65536 : Int) ^ 8 = 340282366920938463463374607431768211456 := by decide
  have p10 : (65536 : Int) ^ 10 = 1461501637330902918203684832716283019655932542976 := by decide
  have p18 : (65536 : Int) ^ 18 = 497323236409786642155382248146820840100456150797347717440463976893159497012533375533056 := by decide
  have p130 : (2 : Int) ^ 130 = 1361129467683753853853498429727072845824 := by decide
  rw [p8] at h8 hv ht
  rw [p10] at hH
  have hv2 : val 65536 18 p = val 65536 8 p + p 8 % 4 * 340282366920938463463374607431768211456 + val 65536 10 (hiF p) * 1361129467683753853853498429727072845824 := by rw [hv, ← ha]; omega
  have hr : val 65536 18 p % 2 ^ 130 = val 65536 8 p + p 8 % 4 * 340282366920938463463374607431768211456 ∧ val 65536 18 p / 2 ^ 130 = val 65536 10 (hiF p) := by
    rw [p130, hv2]
    constructor <;> omega
  refine ⟨rc_d16 (fun i hi => (hq i hi).1) (by rw [ht, p18]; omega), ?_, hq, hh⟩
  unfold trF
  rw [rc_val, ht, hr.1, hr.2]
/-- The document's product. -/
def poF (a r : Nat → Int) : Nat → Int := trF (trF (rcD (cvF a r 72)))
theorem po_ok {a r : Nat → Int} (ha : ∀ i, i < 9 → 0 ≤ a i ∧ a i ≤ 131072) (hr : D16 8 r) :
    D16 18 (rcD (cvF a r 72)) ∧ D16 18 (trF (rcD (cvF a r 72))) ∧ D16 18 (poF a r) ∧ val 65536 9 (poF a r) % (1361129467683753853853498429727072845819 : Int) = val 65536 9 a * val 65536 8 r % (1361129467683753853853498429727072845819 : Int) ∧ val 65536 9 (poF a r) < 2 ^ 131 := by
  have hb := prod_lt ha hr
  have hc := cvF_all a r
  have p18 : (65536 : Int) ^ 18 = 497323236409786642155382248146820840100456150797347717440463976893159497012533375533056 := by decide
  have p130 : (2 : Int) ^ 130 = 1361129467683753853853498429727072845824 := by decide
  have p131 : (2 : Int) ^ 131 = 2722258935367507707706996859454145691648 := by decide
  have p274 : (2 : Int) ^ 146 * 2 ^ 128 = 30354201441027016733116592294117482916287606860189680019559568902170379456331382784 := by decide
  rw [p274] at hb
  have h0 : D16 18 (rcD (cvF a r 72)) := rc_d16 (fun i _ => (cvF_le ha hr 72 (Nat.le_refl _) i).1) (by rw [hc, p18]; omega)
  have v0 : val 65536 18 (rcD (cvF a r 72)) = val 65536 9 a * val 65536 8 r := by rw [rc_val, hc]
  have h1 := tr_ok h0
  have h2 := tr_ok h1.1
  rw [v0, p130] at h1
  rw [h1.2.1, p130] at h2
  generalize val 65536 9 a * val 65536 8 r = V at *
  have hv : val 65536 18 (poF a r) = (V % 1361129467683753853853498429727072845824 + 5 * (V / 1361129467683753853853498429727072845824)) % 1361129467683753853853498429727072845824 + 5 * ((V % 1361129467683753853853498429727072845824 + 5 * (V / 1361129467683753853853498429727072845824)) / 1361129467683753853853498429727072845824) := h2.2.1
  have hd : D16 18 (poF a r) := h2.1
  have hlt : val 65536 18 (poF a r) < 2722258935367507707706996859454145691648 := by rw [hv]; omega
  have hmod : val 65536 18 (poF a r) % (1361129467683753853853498429727072845819 : Int) = V % (1361129467683753853853498429727072845819 : Int) := by
    rw [hv]
    generalize hA : V / 1361129467683753853853498429727072845824 = A
    generalize hR : V % 1361129467683753853853498429727072845824 = R
    generalize hB : (R + 5 * A) / 1361129467683753853853498429727072845824 = B
    generalize hS : (R + 5 * A) % 1361129467683753853853498429727072845824 = S
    have e1 : V = S + 5 * B + (A + B) * 1361129467683753853853498429727072845819 := by omega
    rw [e1, Int.add_mul_emod_self_right]
  have h9 : val 65536 18 (poF a r) = val 65536 9 (poF a r) := by
    have hs : val 65536 18 (poF a r) = val 65536 9 (poF a r) + 65536 ^ 9 * val 65536 9 (fun i => poF a r (9 + i)) := val_split 65536 (poF a r) 9 9
    have b1 := val_bound (B := 65536) (by decide) (n := 9) (fun i hi => hd i (by omega))
    have b2 := val_nonneg (B := 65536) (by decide) (n := 9) (d := fun i => poF a r (9 + i)) (fun i hi => (hd (9 + i) (by omega)).1)
    have p9 : (65536 : Int) ^ 9 = 22300745198530623141535718272648361505980416 := by decide
    rw [p9] at hs b1
    have : val 65536 9 (fun i => poF a r (9 + i)) = 0 := by omega
    rw [hs, this]
    omega
  rw [h9] at hmod hlt
  exact ⟨h0, h1.1, hd, hmod, by rw [p131]; exact hlt⟩

/-! Bytes into digits of 16 bits. -/
def gF (f : Nat → By) : Nat → Nat → Int
  | 0 => fun _ => 0
  | t + 1 => updI (gF f t) (t / 2) (gF f t (t / 2) + nmF f t * 2 ^ (8 * (t % 2)))
theorem gF_succ (f : Nat → By) (t : Nat) : gF f (t + 1) = updI (gF f t) (t / 2) (gF f t (t / 2) + nmF f t * 2 ^ (8 * (t % 2))) := rfl
theorem pow_16 (t : Nat) : (2 : Int) ^ (8 * (t % 2)) * 65536 ^ (t / 2) = 256 ^ t := by
  have e1 : (65536 : Int) ^ (t / 2) = 2 ^ (16 * (t / 2)) := by rw [Int.pow_mul]; rfl
  have e2 : (256 : Int) ^ t = 2 ^ (8 * t) := by rw [Int.pow_mul]; rfl
  rw [e1, e2, ← Int.pow_add]
  congr 1
  omega
theorem gF_val (f : Nat → By) (n : Nat) : ∀ t, t ≤ 2 * n → val 65536 n (gF f t) = val 256 t (nmF f) := by
  intro t
  induction t with
  | zero => intro _; simp [gF, val_zero, val]
  | succ t ih =>
    intro ht
    rw [gF_succ, val_upd_in _ _ (by omega), ih (by omega), val1, ← pow_16 t, show gF f t (t / 2) + nmF f t * 2 ^ (8 * (t % 2)) - gF f t (t / 2) = nmF f t * 2 ^ (8 * (t % 2)) by omega, Int.mul_assoc]
theorem gF_le (f : Nat → By) : ∀ t k, (0 ≤ gF f t k ∧ gF f t k < 65536) ∧ (t / 2 < k → gF f t k = 0) ∧ (t / 2 = k → gF f t k < 256) ∧ (t % 2 = 0 → t / 2 = k → gF f t k = 0) := by
  intro t
  induction t with
  | zero => intro k; simp [gF]
  | succ t ih =>
    intro k
    have hb := nmF_bound f t
    have h1 := ih k
    have h2 := ih (t / 2)
    have hp : t % 2 = 0 ∧ (2 : Int) ^ (8 * (t % 2)) = 1 ∨ t % 2 = 1 ∧ (2 : Int) ^ (8 * (t % 2)) = 256 := by
      rcases Nat.mod_two_eq_zero_or_one t with h | h
      · exact .inl ⟨h, by rw [h]; rfl⟩
      · exact .inr ⟨h, by rw [h]; rfl⟩
    rw [gF_succ]
    unfold updI
    rcases hp with ⟨ht, hp⟩ | ⟨ht, hp⟩ <;> rw [hp] <;> split <;> refine ⟨?_, ?_, ?_, ?_⟩ <;> omega
end Go.Proofs.Ytkdidacebfkdmaa
