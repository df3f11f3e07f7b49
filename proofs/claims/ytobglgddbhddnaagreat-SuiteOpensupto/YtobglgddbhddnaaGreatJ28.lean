/-
  The document's numbers, plain: digits of 16 bits.
  The document's carried.
  The document's product: digits multiplied; what stands above 2^130 is brought down.
  The document's product: the digits multiplied.
-/
import Derived.Test.YtobglgddbhddnaaGreatJ25
namespace Go.Proofs.YtobglgddbhddnaaGreat.Cha
set_option linter.unusedVariables false

/-! Carries, of any base, from any first one on. -/
def gO (B c : Int) (d : Nat → Int) : Nat → Int
  | 0 => c
  | i + 1 => (d i + gO B c d i) / B
def gD (B c : Int) (d : Nat → Int) (i : Nat) : Int := (d i + gO B c d i) % B
theorem g_val (B c : Int) (d : Nat → Int) (n : Nat) : val B n (gD B c d) + gO B c d n * B ^ n = val B n d + c := by
  induction n with
  | zero => simp [val, gO]
  | succ n ih =>
    have e : d n + gO B c d n = gD B c d n + gO B c d (n + 1) * B := by
      show d n + gO B c d n = (d n + gO B c d n) % B + (d n + gO B c d n) / B * B
      rw [Int.mul_comm, Int.emod_add_mul_ediv]
    simp only [val1]
    have e2 : d n = gD B c d n + gO B c d (n + 1) * B - gO B c d n := by omega
    rw [Int.pow_succ, e2]
    have e3 : val B n d = val B n (gD B c d) + gO B c d n * B ^ n - c := by omega
    rw [e3]
    grind
theorem gD_bound {B : Int} (hB : 0 < B) (c : Int) (d : Nat → Int) (i : Nat) : 0 ≤ gD B c d i ∧ gD B c d i < B := ⟨Int.emod_nonneg _ (by omega), Int.emod_lt_of_pos _ hB⟩
theorem gO_nonneg {B c : Int} (hB : 0 < B) (hc : 0 ≤ c) {d : Nat → Int} {n : Nat} (h : ∀ i, i < n → 0 ≤ d i) : 0 ≤ gO B c d n := by
  induction n with
  | zero => exact hc
  | succ n ih => exact Int.ediv_nonneg (Int.add_nonneg (h n (by omega)) (ih (fun i hi => h i (by omega)))) (by omega)

/-! carried. -/
def rcD (p : Nat → Int) (i : Nat) : Int := if i < 17 then gD 65536 0 p i else p i + gO 65536 0 p i
theorem rc_val (p : Nat → Int) : val 65536 18 (rcD p) = val 65536 18 p := by
  have h := g_val 65536 0 p 17
  have e : val 65536 17 (rcD p) = val 65536 17 (gD 65536 0 p) := val_congr fun i hi => by unfold rcD; rw [if_pos hi]
  have e2 : rcD p 17 = p 17 + gO 65536 0 p 17 := by unfold rcD; rw [if_neg (by decide)]
  rw [val1 65536 17, val1 65536 17, e, e2, Int.add_mul]
  omega
theorem rO_le {p : Nat → Int} {n : Nat} (h : ∀ i, i < n → p i ≤ 4611686018427387904) : gO 65536 0 p n ≤ 140737488355328 := by
  induction n with
  | zero => show (0 : Int) ≤ _; omega
  | succ n ih =>
    have h1 := ih (fun i hi => h i (by omega))
    have h2 := h n (by omega)
    show (p n + gO 65536 0 p n) / 65536 ≤ _
    omega
/-- Digits of 16 bits. -/
def D16 (n : Nat) (p : Nat → Int) : Prop := ∀ i, i < n → 0 ≤ p i ∧ p i < 65536
theorem rc_d16 {p : Nat → Int} (h : ∀ i, i < 18 → 0 ≤ p i) (hv : val 65536 18 p < 65536 ^ 18) : D16 18 (rcD p) := by
  intro i hi
  have hb : ∀ j, j < 17 → 0 ≤ rcD p j ∧ rcD p j < 65536 := fun j hj => by
    unfold rcD
    rw [if_pos hj]
    exact gD_bound (by decide) 0 p j
  by_cases h17 : i < 17
  · exact hb i h17
  · have e : i = 17 := by omega
    subst e
    have h0 : 0 ≤ rcD p 17 := by
      unfold rcD
      rw [if_neg (by decide)]
      exact Int.add_nonneg (h 17 (by decide)) (gO_nonneg (by decide) (by decide) (fun j hj => h j (by omega)))
    refine ⟨h0, ?_⟩
    have h1 := val_bound (B := 65536) (by decide) (n := 17) hb
    rw [← rc_val p, val1] at hv
    have h2 : rcD p 17 * 65536 ^ 17 < 65536 * 65536 ^ 17 := by
      have : (65536 : Int) ^ 18 = 65536 * 65536 ^ 17 := by rw [Int.pow_succ, Int.mul_comm]
      omega
    exact Int.lt_of_mul_lt_mul_right h2 (by decide)

/-! The product of digits. -/
def cvF (a r : Nat → Int) : Nat → Nat → Int
  | 0 => fun _ => 0
  | t + 1 => updI (cvF a r t) (t / 8 + t % 8) (cvF a r t (t / 8 + t % 8) + a (t / 8) * r (t % 8))
theorem cvF_succ (a r : Nat → Int) (t : Nat) : cvF a r (t + 1) = updI (cvF a r t) (t / 8 + t % 8) (cvF a r t (t / 8 + t % 8) + a (t / 8) * r (t % 8)) := rfl
theorem cvF_val (a r : Nat → Int) : ∀ t, t ≤ 72 → val 65536 18 (cvF a r t) = val 65536 (t / 8) a * val 65536 8 r + a (t / 8) * 65536 ^ (t / 8) * val 65536 (t % 8) r := by
  intro t
  induction t with
  | zero => intro _; simp [cvF, val]
  | succ t ih =>
    intro ht
    rw [cvF_succ, val_upd_in _ _ (by omega), ih (by omega), show cvF a r t (t / 8 + t % 8) + a (t / 8) * r (t % 8) - cvF a r t (t / 8 + t % 8) = a (t / 8) * r (t % 8) by omega, Int.pow_add]
    by_cases h : t % 8 = 7
    · rw [show (t + 1) / 8 = t / 8 + 1 by omega, show (t + 1) % 8 = 0 by omega, h, val1 65536 (t / 8) a]
      have e : val 65536 8 r = val 65536 7 r + r 7 * 65536 ^ 7 := rfl
      have e0 : val 65536 0 r = 0 := rfl
      rw [e0, e]
      grind
    · rw [show (t + 1) / 8 = t / 8 by omega, show (t + 1) % 8 = t % 8 + 1 by omega, val1 65536 (t % 8) r]
      grind
theorem cvF_le {a r : Nat → Int} (ha : ∀ i, i < 9 → 0 ≤ a i ∧ a i ≤ 131072) (hr : D16 8 r) : ∀ t, t ≤ 72 → ∀ k, 0 ≤ cvF a r t k ∧ cvF a r t k ≤ t * 8589934592 := by
  intro t
  induction t with
  | zero => intro _ k; simp [cvF]
  | succ t ih =>
    intro ht k
    have h1 := ih (by omega)
    have p1 := ha (t / 8) (by omega)
    have p2 := hr (t % 8) (by omega)
    have m0 : 0 ≤ a (t / 8) * r (t % 8) := Int.mul_nonneg p1.1 p2.1
    have m1 : a (t / 8) * r (t % 8) ≤ 131072 * 65536 := Int.mul_le_mul p1.2 (by omega) p2.1 (by decide)
    rw [cvF_succ]
    unfold updI
    have h2 := h1 k
    have h3 := h1 (t / 8 + t % 8)
    split <;> omega
theorem cvF_all (a r : Nat → Int) : val 65536 18 (cvF a r 72) = val 65536 9 a * val 65536 8 r := by
  rw [cvF_val a r 72 (Nat.le_refl _)]
  show val 65536 9 a * val 65536 8 r + _ * 0 = _
  omega
theorem val9_le {a : Nat → Int} (ha : ∀ i, i < 9 → 0 ≤ a i ∧ a i ≤ 131072) : 0 ≤ val 65536 9 a ∧ val 65536 9 a ≤ 2 ^ 146 := by
  have h0 := ha 0 (by decide)
  have h1 := ha 1 (by decide)
  have h2 := ha 2 (by decide)
  have h3 := ha 3 (by decide)
  have h4 := ha 4 (by decide)
  have h5 := ha 5 (by decide)
  have h6 := ha 6 (by decide)
  have h7 := ha 7 (by decide)
  have h8 := ha 8 (by decide)
  simp only [val, Int.reducePow]
  omega
theorem prod_lt {a r : Nat → Int} (ha : ∀ i, i < 9 → 0 ≤ a i ∧ a i ≤ 131072) (hr : D16 8 r) : 0 ≤ val 65536 9 a * val 65536 8 r ∧ val 65536 9 a * val 65536 8 r ≤ 2 ^ 146 * 2 ^ 128 := by
  have h1 := val9_le ha
  have h2 := val_bound (B := 65536) (by decide) (n := 8) hr
  have h3 : (65536 : Int) ^ 8 = 2 ^ 128 := by decide
  refine ⟨Int.mul_nonneg h1.1 h2.1, ?_⟩
  exact Int.mul_le_mul h1.2 (by omega) h2.1 (by decide)

/-! What stands above 2^130 is brought down. -/
def hiF (p : Nat → Int) (i : Nat) : Int := if i < 9 then p (8 + i) / 4 + p (8 + i + 1) % 4 * 16384 else if i = 9 then p 17 / 4 else 0
theorem hi_val {p : Nat → Int} : ∀ k, k ≤ 9 → 4 * val 65536 k (hiF p) + p 8 % 4 = val 65536 k (fun i => p (8 + i)) + p (8 + k) % 4 * 65536 ^ k := by
  intro k
  induction k with
  | zero => intro _; simp [val]
  | succ k ih =>
    intro hk
    have h := ih (by omega)
    have e : hiF p k = p (8 + k) / 4 + p (8 + k + 1) % 4 * 16384 := by unfold hiF; rw [if_pos (by omega)]
    have e2 : p (8 + k) = 4 * (p (8 + k) / 4) + p (8 + k) % 4 := by omega
    rw [val1, val1, e, Int.pow_succ]
    show 4 * (val 65536 k (hiF p) + (p (8 + k) / 4 + p (8 + k + 1) % 4 * 16384) * 65536 ^ k) + p 8 % 4 = val 65536 k (fun i => p (8 + i)) + p (8 + k) * 65536 ^ k + p (8 + (k + 1)) % 4 * (65536 ^ k * 65536)
    rw [show 8 + (k + 1) = 8 + k + 1 from rfl]
    generalize p (8 + k + 1) % 4 = y at *
    generalize hx : p (8 + k) % 4 = x at *
    generalize p (8 + k) / 4 = z at *
    rw [e2]
    grind
theorem hi_all (p : Nat → Int) : 4 * val 65536 10 (hiF p) + p 8 % 4 = val 65536 10 (fun i => p (8 + i)) := by
  have h := hi_val (p := p) 9 (Nat.le_refl _)
  rw [val1, val1]
  have e : hiF p 9 = p 17 / 4 := rfl
  rw [e]
  show 4 * (val 65536 9 (hiF p) + p 17 / 4 * 65536 ^ 9) + p 8 % 4 = val 65536 9 (fun i => p (8 + i)) + p 17 * 65536 ^ 9
  have h' : 4 * val 65536 9 (hiF p) + p 8 % 4 = val 65536 9 (fun i => p (8 + i)) + p 17 % 4 * 65536 ^ 9 := h
  have e2 : p 17 = 4 * (p 17 / 4) + p 17 % 4 := by omega
  generalize hx : p 17 % 4 = x at *
  generalize p 17 / 4 = z at *
  rw [e2]
  grind
theorem val_split (B : Int) (d : Nat → Int) (n : Nat) : ∀ m, val B (n + m) d = val B n d + B ^ n * val B m (fun i => d (n + i)) := by
  intro m
  induction m with
  | zero => simp [val]
  | succ m ih =>
    show val B (n + m) d + d (n + m) * B ^ (n + m) = val B n d + B ^ n * (val B m (fun i => d (n + i)) + d (n + m) * B ^ m)
    rw [ih, Int.pow_add]
    grind
/-- The digits behind it, not yet carried. -/
def tqF (p : Nat → Int) (i : Nat) : Int := (if i < 8 then p i else if i = 8 then p 8 % 4 else 0) + 5 * hiF p i
theorem tq_val (p : Nat → Int) : val 65536 18 (tqF p) = val 65536 8 p + p 8 % 4 * 65536 ^ 8 + 5 * val 65536 10 (hiF p) := by
  have h1 : val 65536 18 (tqF p) = val 65536 18 (fun i => if i < 8 then p i else if i = 8 then p 8 % 4 else 0) + val 65536 18 (fun i => 5 * hiF p i) := val_add 18 _ _
  have h2 : val 65536 18 (fun i => 5 * hiF p i) = 5 * val 65536 10 (hiF p) := by
    have e : ∀ n, val 65536 n (fun i => 5 * hiF p i) = 5 * val 65536 n (hiF p) := by
      intro n
      induction n with
      | zero => rfl
      | succ n ih => rw [val1, val1, ih]; grind
    have e2 : val 65536 18 (hiF p) = val 65536 10 (hiF p) := by
      have z : ∀ i, 10 ≤ i → hiF p i = 0 := fun i hi => by unfold hiF; rw [if_neg (by omega), if_neg (by omega)]
      rw [show (18 : Nat) = 10 + 8 from rfl, val_split]
      have : val 65536 8 (fun i => hiF p (10 + i)) = val 65536 8 (fun _ => 0) := val_congr fun i _ => z _ (by omega)
      rw [this, val_zero]
      omega
    rw [e, e2]
  have h3 : val 65536 18 (fun i => if i < 8 then p i else if i = 8 then p 8 % 4 else 0) = val 65536 8 p + p 8 % 4 * 65536 ^ 8 := by
    rw [show (18 : Nat) = 9 + 9 from rfl, val_split]
    have e1 : val 65536 9 (fun i => if 9 + i < 8 then p (9 + i) else if 9 + i = 8 then p 8 % 4 else 0) = val 65536 9 (fun _ => 0) := val_congr fun i _ => by rw [if_neg (by omega), if_neg (by omega)]
    rw [e1, val_zero, val1]
    have e2 : val 65536 8 (fun i => if i < 8 then p i else if i = 8 then p 8 % 4 else 0) = val 65536 8 p := val_congr fun i hi => by rw [if_pos hi]
    rw [e2]
    simp
  rw [h1, h2, h3]
def trF (p : Nat → Int) : Nat → Int := rcD (tqF p)
/-- A turn: what it leaves, and its value. -/
theorem tr_ok {p : Nat → Int} (hp : D16 18 p) : D16 18 (trF p) ∧ val 65536 18 (trF p) = val 65536 18 p % 2 ^ 130 + 5 * (val 65536 18 p / 2 ^ 130) ∧ (∀ i, i < 18 → 0 ≤ tqF p i ∧ tqF p i ≤ 4611686018427387904) ∧ (∀ i, i < 10 → 0 ≤ hiF p i ∧ hiF p i < 65536) := by
  have hh : ∀ i, i < 10 → 0 ≤ hiF p i ∧ hiF p i < 65536 := fun i hi => by
    unfold hiF
    by_cases h9 : i < 9
    · rw [if_pos h9]
      have a1 := hp (8 + i) (by omega)
      have a2 := hp (8 + i + 1) (by omega)
      omega
    · rw [if_neg h9, if_pos (by omega)]
      have a1 := hp 17 (by decide)
      omega
  have hz : ∀ i, 10 ≤ i → hiF p i = 0 := fun i hi => by unfold hiF; rw [if_neg (by omega), if_neg (by omega)]
  have hq : ∀ i, i < 18 → 0 ≤ tqF p i ∧ tqF p i ≤ 4611686018427387904 := fun i hi => by
    have a0 := hp i hi
    have a8 := hp 8 (by decide)
    have ah : 0 ≤ hiF p i ∧ hiF p i < 65536 := by
      by_cases h : i < 10
      · exact hh i h
      · rw [hz i (by omega)]; decide
    unfold tqF
    split
    · omega
    · split <;> omega
  have h8 := val_bound (B := 65536) (by decide) (n := 8) (fun i hi => hp i (by omega))
  have hH := val_bound (B := 65536) (by decide) (n := 10) hh
  have hv : val 65536 18 p = val 65536 8 p + 65536 ^ 8 * val 65536 10 (fun i => p (8 + i)) := val_split 65536 p 8 10
  have ha := hi_all p
  have ht := tq_val p
  have a8 := hp 8 (by decide)
  have p8 : (65536 : Int) ^ 8 = 340282366920938463463374607431768211456 := by decide
  have p10 : (65536 : Int) ^ 10 = 1461501637330902918203684832716283019655932542976 := by decide
  have p18 : (65536 : Int) ^ 18 = 497323236409786642155382248146820840100456150797347717440463976893159497012533375533056 := by decide
  have p130 : (2 : Int) ^ 130 = 1361129467683753853853498429727072845824 := by decide
  rw [p8] at h8 hv ht
  rw [p10] at hH
  have hv2 : val 65536 18 p = val 65536 8 p + p 8 % 4 * 340282366920938463463374607431768211456 + val 65536 10 (hiF p) * 1361129467683753853853498429727072845824 := by rw [hv, ← ha]; omega
  have hr : val 65536 18 p % 2 ^ 130 = val 65536 8 p + p 8 % 4 * 340282366920938463463374607431768211456 ∧ val 65536 18 p / 2 ^ 130 = val 65536 10 (hiF p) := by
    rw [p130, hv2]
    constructor <;> omega
  refine ⟨rc_d16 (fun i hi => (hq i hi).1) (by rw [ht, p18]; omega), ?_, hq, hh⟩
  unfold trF
  rw [rc_val, ht, hr.1, hr.2]
/-- The document's product. -/
def poF (a r : Nat → Int) : Nat → Int := trF (trF (rcD (cvF a r 72)))
theorem po_ok {a r : Nat → Int} (ha : ∀ i, i < 9 → 0 ≤ a i ∧ a i ≤ 131072) (hr : D16 8 r) :
    D16 18 (rcD (cvF a r 72)) ∧ D16 18 (trF (rcD (cvF a r 72))) ∧ D16 18 (poF a r) ∧ val 65536 9 (poF a r) % (1361129467683753853853498429727072845819 : Int) = val 65536 9 a * val 65536 8 r % (1361129467683753853853498429727072845819 : Int) ∧ val 65536 9 (poF a r) < 2 ^ 131 := by
  have hb := prod_lt ha hr
  have hc := cvF_all a r
  have p18 : (65536 : Int) ^ 18 = 497323236409786642155382248146820840100456150797347717440463976893159497012533375533056 := by decide
  have p130 : (2 : Int) ^ 130 = 1361129467683753853853498429727072845824 := by decide
  have p131 : (2 : Int) ^ 131 = 2722258935367507707706996859454145691648 := by decide
  have p274 : (2 : Int) ^ 146 * 2 ^ 128 = 30354201441027016733116592294117482916287606860189680019559568902170379456331382784 := by decide
  rw [p274] at hb
  have h0 : D16 18 (rcD (cvF a r 72)) := rc_d16 (fun i _ => (cvF_le ha hr 72 (Nat.le_refl _) i).1) (by rw [hc, p18]; omega)
  have v0 : val 65536 18 (rcD (cvF a r 72)) = val 65536 9 a * val 65536 8 r := by rw [rc_val, hc]
  have h1 := tr_ok h0
  have h2 := tr_ok h1.1
  rw [v0, p130] at h1
  rw [h1.2.1, p130] at h2
  generalize val 65536 9 a * val 65536 8 r = V at *
  have hv : val 65536 18 (poF a r) = (V % 1361129467683753853853498429727072845824 + 5 * (V / 1361129467683753853853498429727072845824)) % 1361129467683753853853498429727072845824 + 5 * ((V % 1361129467683753853853498429727072845824 + 5 * (V / 1361129467683753853853498429727072845824)) / 1361129467683753853853498429727072845824) := h2.2.1
  have hd : D16 18 (poF a r) := h2.1
  have hlt : val 65536 18 (poF a r) < 2722258935367507707706996859454145691648 := by rw [hv]; omega
  have hmod : val 65536 18 (poF a r) % (1361129467683753853853498429727072845819 : Int) = V % (1361129467683753853853498429727072845819 : Int) := by
    rw [hv]
    generalize hA : V / 1361129467683753853853498429727072845824 = A
    generalize hR : V % 1361129467683753853853498429727072845824 = R
    generalize hB : (R + 5 * A) / 1361129467683753853853498429727072845824 = B
    generalize hS : (R + 5 * A) % 1361129467683753853853498429727072845824 = S
    have e1 : V = S + 5 * B + (A + B) * 1361129467683753853853498429727072845819 := by omega
    rw [e1, Int.add_mul_emod_self_right]
  have h9 : val 65536 18 (poF a r) = val 65536 9 (poF a r) := by
    have hs : val 65536 18 (poF a r) = val 65536 9 (poF a r) + 65536 ^ 9 * val 65536 9 (fun i => poF a r (9 + i)) := val_split 65536 (poF a r) 9 9
    have b1 := val_bound (B := 65536) (by decide) (n := 9) (fun i hi => hd i (by omega))
    have b2 := val_nonneg (B := 65536) (by decide) (n := 9) (d := fun i => poF a r (9 + i)) (fun i hi => (hd (9 + i) (by omega)).1)
    have p9 : (65536 : Int) ^ 9 = 22300745198530623141535718272648361505980416 := by decide
    rw [p9] at hs b1
    have : val 65536 9 (fun i => poF a r (9 + i)) = 0 := by omega
    rw [hs, this]
    omega
  rw [h9] at hmod hlt
  exact ⟨h0, h1.1, hd, hmod, by rw [p131]; exact hlt⟩

/-! Bytes into digits of 16 bits. -/
def gF (f : Nat → By) : Nat → Nat → Int
  | 0 => fun _ => 0
  | t + 1 => updI (gF f t) (t / 2) (gF f t (t / 2) + nmF f t * 2 ^ (8 * (t % 2)))
theorem gF_succ (f : Nat → By) (t : Nat) : gF f (t + 1) = updI (gF f t) (t / 2) (gF f t (t / 2) + nmF f t * 2 ^ (8 * (t % 2))) := rfl
theorem pow_16 (t : Nat) : (2 : Int) ^ (8 * (t % 2)) * 65536 ^ (t / 2) = 256 ^ t := by
  have e1 : (65536 : Int) ^ (t / 2) = 2 ^ (16 * (t / 2)) := by rw [Int.pow_mul]; rfl
  have e2 : (256 : Int) ^ t = 2 ^ (8 * t) := by rw [Int.pow_mul]; rfl
  rw [e1, e2, ← Int.pow_add]
  congr 1
  omega
theorem gF_val (f : Nat → By) (n : Nat) : ∀ t, t ≤ 2 * n → val 65536 n (gF f t) = val 256 t (nmF f) := by
  intro t
  induction t with
  | zero => intro _; simp [gF, val_zero, val]
  | succ t ih =>
    intro ht
    rw [gF_succ, val_upd_in _ _ (by omega), ih (by omega), val1, ← pow_16 t, show gF f t (t / 2) + nmF f t * 2 ^ (8 * (t % 2)) - gF f t (t / 2) = nmF f t * 2 ^ (8 * (t % 2)) by omega, Int.mul_assoc]
theorem gF_le (f : Nat → By) : ∀ t k, (0 ≤ gF f t k ∧ gF f t k < 65536) ∧ (t / 2 < k → gF f t k = 0) ∧ (t / 2 = k → gF f t k < 256) ∧ (t % 2 = 0 → t / 2 = k → gF f t k = 0) := by
  intro t
  induction t with
  | zero => intro k; simp [gF]
  | succ t ih =>
    intro k
    have hb := nmF_bound f t
    have h1 := ih k
    have h2 := ih (t / 2)
    have hp : t % 2 = 0 ∧ (2 : Int) ^ (8 * (t % 2)) = 1 ∨ t % 2 = 1 ∧ (2 : Int) ^ (8 * (t % 2)) = 256 := by
      rcases Nat.mod_two_eq_zero_or_one t with h | h
      · exact .inl ⟨h, by rw [h]; rfl⟩
      · exact .inr ⟨h, by rw [h]; rfl⟩
    rw [gF_succ]
    unfold updI
    rcases hp with ⟨ht, hp⟩ | ⟨ht, hp⟩ <;> rw [hp] <;> split <;> refine ⟨?_, ?_, ?_, ?_⟩ <;> omega
end Go.Proofs.YtobglgddbhddnaaGreat.Cha

namespace Go.Proofs.YtobglgddbhddnaaGreat.Cha
open Go.RowKit
set_option linter.unusedVariables false

theorem und57 : Tryz.prog.underlying 87 = some (.array 8 45) := by kernel_rfl
theorem i57 : (Tryz.prog.info? 87).map (·.size) = some 8 := by kernel_rfl
theorem zero57 : (∀ w, (zeroValue 87).run Tryz.prog w = .ok (.agg (arr .u64 8 zI)) w) ∧ (Tryz.prog.info? 87).map (·.size) = some 8 := zero_of_info (by kernel_rfl)
theorem und58 : Tryz.prog.underlying 88 = some (.array 9 45) := by kernel_rfl
theorem i58 : (Tryz.prog.info? 88).map (·.size) = some 9 := by kernel_rfl
theorem zero58 : (∀ w, (zeroValue 88).run Tryz.prog w = .ok (.agg (arr .u64 9 zI)) w) ∧ (Tryz.prog.info? 88).map (·.size) = some 9 := zero_of_info (by kernel_rfl)
theorem und68 : Tryz.prog.underlying 103 = some (.array 18 45) := by kernel_rfl
theorem i68 : (Tryz.prog.info? 103).map (·.size) = some 18 := by kernel_rfl
theorem zero68 : (∀ w, (zeroValue 103).run Tryz.prog w = .ok (.agg (arr .u64 18 zI)) w) ∧ (Tryz.prog.info? 103).map (·.size) = some 18 := zero_of_info (by kernel_rfl)
theorem szI {t n : Nat} (d : Nat → Int) (h : (Tryz.prog.info? t).map (·.size) = some n) : (Tryz.prog.info? t).map (·.size) = some (arr .u64 n d).size := by rw [arr_size]; exact h
theorem lenI (n : Nat) (d e : Nat → Int) : (arr .u64 n d).size = (arr .u64 n e).size := by rw [arr_size, arr_size]
theorem mask16 {x : Int} (h0 : 0 ≤ x) (h1 : x < 18446744073709551616) : Go.bits .and .u64 x 65535 = x % 65536 := by
  obtain ⟨n, rfl⟩ := Int.eq_ofNat_of_zero_le h0
  have := u64_and_nat n 65535 (by omega) (by decide)
  rw [show (65535 : Int) = ((65535 : Nat) : Int) from rfl, this, show 65535 = 2 ^ 16 - 1 from rfl, Nat.and_two_pow_sub_one_eq_mod]
  omega

/-- Eighteen digits being worked on, and the result. -/
structure RC (w wr : World) (d : Nat → Int) : Prop where
  chg : Chg w wr
  a : Ar wr w.heap.size (arr .u64 18 d)
  out : Ar wr (w.heap.size + 1) (arr .u64 18 zI)
theorem RC.set {w wr : World} {d : Nat → Int} (h : RC w wr d) (i : Nat) (x : Int) : RC w (wr.setCell ⟨w.heap.size, i, none⟩ (.int .u64 x)) (updI d i x) := by
  refine ⟨h.chg.setCell (Nat.le_refl _) _, ?_, h.out.other (by dsimp only; omega) _⟩
  have := h.a.set i (.int .u64 x)
  rwa [arr_set] at this
theorem RC.drew {w wr : World} {d : Nat → Int} (h : RC w wr d) : RC w wr.drew d := ⟨h.chg.drew, h.a, h.out⟩

def ruF (p : Nat → Int) (i : Nat) : Nat → Int := fun j => if j < i then gD 65536 0 p j else if j = i then p i + gO 65536 0 p i else p j
theorem ruF_zero (p : Nat → Int) : ruF p 0 = p := by
  funext j
  unfold ruF
  rw [if_neg (by omega)]
  split
  · rename_i h
    subst h
    show p 0 + 0 = p 0
    omega
  · rfl
theorem ruF_succ (p : Nat → Int) (i : Nat) : updI (updI (ruF p i) (i + 1) (p (i + 1) + gO 65536 0 p (i + 1))) i (gD 65536 0 p i) = ruF p (i + 1) := by
  funext j
  unfold updI ruF
  by_cases h : j = i
  · subst h
    rw [if_pos rfl, if_pos (by omega)]
  · rw [if_neg h]
    by_cases h1 : j = i + 1
    · subst h1
      rw [if_pos rfl, if_neg (by omega), if_pos rfl]
    · rw [if_neg h1, if_neg h, if_neg h1]
      by_cases h2 : j < i
      · rw [if_pos h2, if_pos (by omega)]
      · rw [if_neg h2, if_neg (by omega)]
theorem ruF_all (p : Nat → Int) : arr .u64 18 (ruF p 17) = arr .u64 18 (rcD p) := arr_congr fun j hj => by
  unfold ruF rcD
  by_cases h : j < 17
  · rw [if_pos h, if_pos h]
  · have e : j = 17 := by omega
    subst e
    rw [if_neg h, if_neg h, if_pos rfl]

set_option maxRecDepth 100000 in
set_option maxHeartbeats 4000000 in
theorem refCarried_any (d : Nat → Int) (w : World) (hd : ∀ i, i < 18 → 0 ≤ d i ∧ d i ≤ 4611686018427387904) : Calls Tryz.prog 69 #[.agg (arr .u64 18 d)] w fun r w' => r = .returned (.agg (arr .u64 18 (rcD d))) ∧ Chg w w' := by
  have hsA := arr_size .u64 18 d
  obtain ⟨A, hA⟩ : ∃ A, A = arr .u64 18 d := ⟨_, rfl⟩
  have HA : Hid (A = arr .u64 18 d) := hA
  rw [← hA] at hsA ⊢
  have HD : Hid (∀ i, i < 18 → 0 ≤ d i ∧ d i ≤ 4611686018427387904) := hd
  clear hA hd
  have hz := zero68.1
  go_enter Tryz.func69, Tryz.ntmps69
  go_wp2_with fail
  obtain ⟨w2, hw2⟩ : ∃ w2, w2 = (w.alloc (.cells A 103)).alloc (.cells (arr .u64 18 zI) 103) := ⟨_, rfl⟩
  have Z2 : Hid (RC w w2 d) := by
    rw [hw2, HA.out]
    exact ⟨((Chg.refl w).alloc _).alloc _, (Ar.new w _ _).alloc _, Ar.new1 w _ _ _⟩
  rw [← hw2]
  clear hw2 hsA hz
  go_loopw [3] (fun v wr => ∃ (i : Nat), v = .int .i64 i ∧ i ≤ 17 ∧ RC w wr (ruF d i)) (fun v wr => 17 - (intOf v).toNat)
  case atStart => exact ⟨0, rfl, by omega, by rw [ruF_zero]; exact Z2.out⟩
  case round =>
    clear Z2
    obtain ⟨i, rfl, hi, hz0⟩ := hrel
    have Z : Hid (RC w wr (ruF d i)) := hz0
    by_cases hlt : i < 17
    · have hd' : decide ((i : Int) < 17) = true := by simp; omega
      have li : (i : Int) < 18 := by omega
      obtain ⟨i1, hi1⟩ : ∃ i1 : Nat, (i : Int) + 1 = i1 := ⟨i + 1, by omega⟩
      have wi1 := wrap_i (x := (i1 : Int)) (by omega) (by omega)
      have li1 : (i1 : Int) < 18 := by omega
      have HI : Hid (i1 = i + 1) := by show i1 = _; omega
      have b1 := HD.out i (by omega)
      have b1' := HD.out (i + 1) (by omega)
      have b2 := gO_nonneg (B := 65536) (c := 0) (by decide) (by decide) (d := d) (n := i) (fun j hj => (HD.out j (by omega)).1)
      have b3 := rO_le (p := d) (n := i) (fun j hj => (HD.out j (by omega)).2)
      have c1 := (hz0.a.cell i).trans (arr_get .u64 18 _ (by omega))
      have c2 := (hz0.a.cell i1).trans (arr_get .u64 18 _ (by omega))
      have f1 := hz0.a.frozen i1
      have e0 : ruF d i i = d i + gO 65536 0 d i := by unfold ruF; rw [if_neg (by omega), if_pos rfl]
      have e1 : ruF d i i1 = d i1 := by unfold ruF; rw [if_neg (by omega), if_neg (by omega)]
      rw [e0] at c1
      rw [e1] at c2
      obtain ⟨x, hx⟩ : ∃ x, x = d i + gO 65536 0 d i := ⟨_, rfl⟩
      rw [← hx] at c1
      obtain ⟨y, hy⟩ : ∃ y, y = d i1 := ⟨_, rfl⟩
      rw [← hy] at c2
      rw [← HI.out, ← hy] at b1'
      obtain ⟨q, hq⟩ : ∃ q, x / 65536 = q := ⟨_, rfl⟩
      obtain ⟨z, hzz⟩ : ∃ z, y + q = z := ⟨_, rfl⟩
      have wz := wrap_u (x := z) (by omega) (by omega)
      have mx := mask16 (x := x) (by omega) (by omega)
      obtain ⟨m, hm⟩ : ∃ m, x % 65536 = m := ⟨_, rfl⟩
      rw [hm] at mx
      have HE : Hid (updI (updI (ruF d i) i1 z) i m = ruF d (i + 1)) := by
        show _ = _
        rw [← ruF_succ d i, HI.out]
        have q1 : m = gD 65536 0 d i := by show m = (d i + gO 65536 0 d i) % 65536; rw [← hx, hm]
        have q2 : z = d (i + 1) + gO 65536 0 d (i + 1) := by
          show z = d (i + 1) + (d i + gO 65536 0 d i) / 65536
          rw [← hx, hq, ← hzz, hy, HI.out]
        rw [q1, q2]
      have HXe : Hid (ruF d i i = x) := by show _ = _; rw [e0, hx]
      clear hy hz0 e0 e1 b1 b1' b2 b3 hx hm
      go_upto_region 4 with fail
      go_cut [] from 8 to 19 (fun wc => RC w wc (updI (ruF d i) i1 z))
      case first =>
        go_region_with (fail)
        all_goals go_wp2_with fail
        all_goals go_meet
        all_goals
          first
            | exact (Z.out.set i1 z).drew
            | exact Z.out.drew.set i1 z
      have Z3 : Hid (RC w wc (updI (ruF d i) i1 z)) := hcut
      obtain ⟨w3, hw3⟩ : ∃ w3, w3 = wc := ⟨_, rfl⟩
      rw [← hw3] at Z3 ⊢
      clear hcut hw3 Z c2 f1 wc
      have c3 := (Z3.out.a.cell i).trans (arr_get .u64 18 _ (by omega))
      have e3 : updI (ruF d i) i1 z i = ruF d i i := updI_ne _ _ (by omega)
      rw [e3, HXe.out] at c3
      have f3 := Z3.out.a.frozen i
      clear e3 c1
      go_wp2_with fail
      go_roundw
      case rel =>
        refine ⟨i + 1, by have := HI.out; congr 1; omega, by omega, ?_⟩
        rw [← HE.out]
        exact Z3.out.set i m
      case measure => simp [intOf]; omega
    · have : i = 17 := by omega
      subst this
      have ha := hz0.a
      rw [ruF_all] at ha
      obtain ⟨g, hg⟩ : ∃ g, g = rcD d := ⟨_, rfl⟩
      rw [← hg] at ha
      have HG : Hid (g = rcD d) := hg
      have HOo : Hid (Chg w wr ∧ Ar wr (w.heap.size + 1) (arr .u64 18 zI)) := ⟨hz0.chg, hz0.out⟩
      clear hz0 Z hg
      obtain ⟨t1, g1⟩ := ha
      obtain ⟨t3, g3⟩ := HOo.out.2
      have hsz := szI g i68
      have hlen := lenI 18 zI g
      have hone := arr_one .u64 18 g
      go_wp2_with (first | refine wpList_load_row rfl 103 _ rfl _ rfl _ _ _ _ g1 und68 rfl hsz ?_ | refine wpList_store_row rfl 103 _ _ rfl _ _ rfl rfl _ _ g3 hsz hlen hone ?_)
      refine bp_c (n := 18) (c := arr .u64 18 g) Tryz.results69 rfl rfl ?_ und68 i68 (arr_size _ _ _) ⟨by rw [HG.out], ?_⟩
      · exact HOo.out.2.row _
      · exact HOo.out.1.setRow (by omega) _
end Go.Proofs.YtobglgddbhddnaaGreat.Cha

namespace Go.Proofs.YtobglgddbhddnaaGreat.Cha
open Go.RowKit
set_option linter.unusedVariables false

/-- A block of a function's code, found by its number. -/
def bkOf (n : Nat) : Code → Option Code
  | .block i b => if i = n then some (.block i b) else bkOf n b
  | .seq a b => match bkOf n a with
    | some c => some c
    | none => bkOf n b
  | .cond _ a b => match bkOf n a with
    | some c => some c
    | none => bkOf n b
  | .loop b => bkOf n b
  | _ => none
def bk (f : Func) (n : Nat) : Code := match f.body with
  | some c => (bkOf n c).getD .skip
  | none => .skip

/-- What stands while the document multiplies. -/
structure RP (w wr : World) (a r p : Nat → Int) : Prop where
  chg : Chg w wr
  a : Ar wr w.heap.size (arr .u64 9 a)
  r : Ar wr (w.heap.size + 1) (arr .u64 8 r)
  out : Ar wr (w.heap.size + 1 + 1) (arr .u64 9 zI)
  p : Ar wr (w.heap.size + 1 + 1 + 1) (arr .u64 18 p)
theorem RP.to {w wr u : World} {a r p : Nat → Int} (h : RP w wr a r p) (k : Chg wr u) : RP w u a r p := ⟨h.chg.trans k, h.a.chg k, h.r.chg k, h.out.chg k, h.p.chg k⟩
theorem RP.set {w wr : World} {a r p : Nat → Int} (h : RP w wr a r p) (i : Nat) (x : Int) : RP w (wr.setCell ⟨w.heap.size + 1 + 1 + 1, i, none⟩ (.int .u64 x)) a r (updI p i x) := by
  refine ⟨h.chg.setCell (by dsimp only; omega) _, h.a.other (by dsimp only; omega) _, h.r.other (by dsimp only; omega) _, h.out.other (by dsimp only; omega) _, ?_⟩
  have := h.p.set i (.int .u64 x)
  rwa [arr_set] at this
theorem RP.drew {w wr : World} {a r p : Nat → Int} (h : RP w wr a r p) : RP w wr.drew a r p := ⟨h.chg.drew, h.a, h.r, h.out, h.p⟩
theorem RP.row {w wr : World} {a r p : Nat → Int} (h : RP w wr a r p) (q : Nat → Int) : RP w (wr.setRow (w.heap.size + 1 + 1 + 1) (arr .u64 18 q)) a r q :=
  ⟨h.chg.setRow (by omega) _, h.a.rowOther (by omega) _, h.r.rowOther (by omega) _, h.out.rowOther (by omega) _, h.p.row _⟩
theorem RP.other {w wr : World} {a r p : Nat → Int} (h : RP w wr a r p) {H : Nat} (hH : w.heap.size + 1 + 1 + 1 < H) (i : Nat) (v : Value) : RP w (wr.setCell ⟨H, i, none⟩ v) a r p :=
  ⟨h.chg.setCell (by dsimp only; omega) _, h.a.other (by dsimp only; omega) _, h.r.other (by dsimp only; omega) _, h.out.other (by dsimp only; omega) _, h.p.other (by dsimp only; omega) _⟩
theorem addr_sum (i k : Nat) (hi : i < 9) (hk : k < 8) : ∃ s : Nat, (i : Int) + k = s ∧ IntKind.i64.wrap (s : Int) = s ∧ (s : Int) < 18 ∧ s < 18 ∧ Hid (s = i + k) := ⟨i + k, by omega, wrap_i (by omega) (by omega), by omega, by omega, rfl⟩
end Go.Proofs.YtobglgddbhddnaaGreat.Cha

namespace Go.Proofs.YtobglgddbhddnaaGreat.Cha
open Go.RowKit
set_option linter.unusedVariables false

set_option maxRecDepth 100000 in
set_option maxHeartbeats 8000000 in
/-- Digits multiplied. -/
theorem rp1_any {Q : Exit → Act → World → Prop} {t0 t1 t4 t7 t8 t9 t10 t11 t12 t13 t14 t15 t16 t17 t18 t19 t20 t21 t22 t23 t24 t25 t26 t27 t28 t29 t30 t31 t32 t33 t34 t35 t36 t37 t38 t39 t40 t41 t42 t43 t44 t45 t46 t47 t48 t49 t50 t51 t52 t53 t54 t55 t56 t57 t58 t59 t60 t61 t62 t63 t64 t65 t66 t67 t68 t69 t70 t71 t72 t73 t74 t75 t76 t77 t78 t79 t80 t81 t82 t83 t84 t85 t86 t87 t88 t89 t90 t91 t92 t93 t94 t95 t96 t97 t98 t99 t100 t101 t102 t103 : Value} {a r : Nat → Int} {w w1 : World} (h : RP w w1 a r zI) (ha : ∀ i, i < 9 → 0 ≤ a i ∧ a i ≤ 131072) (hr : D16 8 r)
    (hQ : ∀ (u6 u7 u15 u16 u17 u18 u19 u20 u21 u22 u23 u24 u25 u26 u27 u28 u29 u30 u31 u32 u33 u34 u35 u36 u37 u38 u39 : Value) (w' : World), RP w w' a r (cvF a r 72) → Q .normal ⟨#[t0, t1, .pointer (some ⟨w.heap.size, 0, none⟩), .pointer (some ⟨w.heap.size + 1, 0, none⟩), t4, .pointer (some ⟨w.heap.size + 1 + 1 + 1, 0, none⟩), u6, u7, t8, t9, t10, t11, t12, t13, t14, u15, u16, u17, u18, u19, u20, u21, u22, u23, u24, u25, u26, u27, u28, u29, u30, u31, u32, u33, u34, u35, u36, u37, u38, u39, t40, t41, t42, t43, t44, t45, t46, t47, t48, t49, t50, t51, t52, t53, t54, t55, t56, t57, t58, t59, t60, t61, t62, t63, t64, t65, t66, t67, t68, t69, t70, t71, t72, t73, t74, t75, t76, t77, t78, t79, t80, t81, t82, t83, t84, t85, t86, t87, t88, t89, t90, t91, t92, t93, t94, t95, t96, t97, t98, t99, t100, t101, t102, t103], []⟩ w') :
    (bk Tryz.f51 0).wp Tryz.prog Q ⟨#[t0, t1, .pointer (some ⟨w.heap.size, 0, none⟩), .pointer (some ⟨w.heap.size + 1, 0, none⟩), t4, .pointer (some ⟨w.heap.size + 1 + 1 + 1, 0, none⟩), .int .i64 0, t7, t8, t9, t10, t11, t12, t13, t14, t15, t16, t17, t18, t19, t20, t21, t22, t23, t24, t25, t26, t27, t28, t29, t30, t31, t32, t33, t34, t35, t36, t37, t38, t39, t40, t41, t42, t43, t44, t45, t46, t47, t48, t49, t50, t51, t52, t53, t54, t55, t56, t57, t58, t59, t60, t61, t62, t63, t64, t65, t66, t67, t68, t69, t70, t71, t72, t73, t74, t75, t76, t77, t78, t79, t80, t81, t82, t83, t84, t85, t86, t87, t88, t89, t90, t91, t92, t93, t94, t95, t96, t97, t98, t99, t100, t101, t102, t103], []⟩ w1 := by
  show Code.wp Tryz.prog (Code.block _ (Code.loop _)) Q _ _
  have HQ := (show Hid (∀ (u6 u7 u15 u16 u17 u18 u19 u20 u21 u22 u23 u24 u25 u26 u27 u28 u29 u30 u31 u32 u33 u34 u35 u36 u37 u38 u39 : Value) (w' : World), RP w w' a r (cvF a r 72) → Q .normal ⟨#[t0, t1, .pointer (some ⟨w.heap.size, 0, none⟩), .pointer (some ⟨w.heap.size + 1, 0, none⟩), t4, .pointer (some ⟨w.heap.size + 1 + 1 + 1, 0, none⟩), u6, u7, t8, t9, t10, t11, t12, t13, t14, u15, u16, u17, u18, u19, u20, u21, u22, u23, u24, u25, u26, u27, u28, u29, u30, u31, u32, u33, u34, u35, u36, u37, u38, u39, t40, t41, t42, t43, t44, t45, t46, t47, t48, t49, t50, t51, t52, t53, t54, t55, t56, t57, t58, t59, t60, t61, t62, t63, t64, t65, t66, t67, t68, t69, t70, t71, t72, t73, t74, t75, t76, t77, t78, t79, t80, t81, t82, t83, t84, t85, t86, t87, t88, t89, t90, t91, t92, t93, t94, t95, t96, t97, t98, t99, t100, t101, t102, t103], []⟩ w') from hQ)
  clear hQ
  have H0 : Hid (RP w w1 a r (cvF a r (8 * 0)) ∧ (∀ i, i < 9 → 0 ≤ a i ∧ a i ≤ 131072) ∧ D16 8 r) := ⟨h, ha, hr⟩
  clear h ha hr
  go_wp2_with fail
  go_loopw [6] (fun v wr => ∃ (i : Nat), v = .int .i64 i ∧ i ≤ 9 ∧ RP w wr a r (cvF a r (8 * i))) (fun v wr => 9 - (intOf v).toNat)
  case atStart => exact ⟨0, rfl, by omega, H0.out.1⟩
  case round =>
    obtain ⟨i, rfl, hi, hz0⟩ := hrel
    by_cases hlt : i < 9
    · have hd : decide ((i : Int) < 9) = true := by simp; omega
      have li : (i : Int) < 9 := by omega
      have Z : Hid (RP w wr a r (cvF a r (8 * i + 0))) := hz0
      clear hz0
      go_wp2_with fail
      go_loopw [7] (fun v wr => ∃ (k : Nat), v = .int .i64 k ∧ k ≤ 8 ∧ RP w wr a r (cvF a r (8 * i + k))) (fun v wr => 8 - (intOf v).toNat)
      case atStart => exact ⟨0, rfl, by omega, Z.out⟩
      case round =>
        clear Z
        obtain ⟨k, rfl, hk, hz0⟩ := hrel
        by_cases hkt : k < 8
        · have hd2 : decide ((k : Int) < 8) = true := by simp; omega
          have lk : (k : Int) < 8 := by omega
          have Z : Hid (RP w wr a r (cvF a r (8 * i + k))) := hz0
          obtain ⟨s, e1, e2, ls, ls', HS⟩ := addr_sum i k hlt hkt
          have b1 := H0.out.2.1 i hlt
          have b2 := H0.out.2.2 k hkt
          have b3 := cvF_le H0.out.2.1 H0.out.2.2 (8 * i + k) (by omega) s
          have c1 := (hz0.p.cell s).trans (arr_get .u64 18 _ ls')
          have f1 := hz0.p.frozen s
          have c2 := (hz0.a.cell i).trans (arr_get .u64 9 _ hlt)
          have c3 := (hz0.r.cell k).trans (arr_get .u64 8 _ hkt)
          obtain ⟨x, hx⟩ : ∃ x, x = cvF a r (8 * i + k) s := ⟨_, rfl⟩
          obtain ⟨y, hy⟩ : ∃ y, y = a i := ⟨_, rfl⟩
          obtain ⟨z, hzz⟩ : ∃ z, z = r k := ⟨_, rfl⟩
          rw [← hx] at c1 b3
          rw [← hy] at c2 b1
          rw [← hzz] at c3 b2
          have m0 : 0 ≤ y * z := Int.mul_nonneg b1.1 b2.1
          have m1 : y * z ≤ 131072 * 65536 := Int.mul_le_mul b1.2 (by omega) b2.1 (by decide)
          obtain ⟨q, hq⟩ : ∃ q, y * z = q := ⟨_, rfl⟩
          rw [hq] at m0 m1
          have wq := wrap_u (x := q) m0 (by omega)
          obtain ⟨x', hx'⟩ : ∃ x', x + q = x' := ⟨_, rfl⟩
          have wx := wrap_u (x := x') (by omega) (by omega)
          have HE : Hid (cvF a r (8 * i + (k + 1)) = updI (cvF a r (8 * i + k)) s x') := by
            show _ = _
            rw [show 8 * i + (k + 1) = 8 * i + k + 1 from rfl, cvF_succ, show (8 * i + k) / 8 = i by omega, show (8 * i + k) % 8 = k by omega, ← HS.out, ← hx, ← hy, ← hzz, hq, hx']
          clear hx hy hzz hz0 b1 b2 b3 m0 m1 ls'
          go_wp2_with fail
          refine wp_region_noPanic ?_
          go_region_with (fail)
          all_goals refine NoPanic.normal ?_
          all_goals go_wp2
          all_goals
            go_roundw
            case rel =>
              refine ⟨k + 1, by go_num, by omega, ?_⟩
              rw [HE.out]
              first
                | exact (Z.out.set s x').drew
                | exact Z.out.drew.set s x'
            case measure => simp [intOf]; omega
        · have : k = 8 := by omega
          subst this
          have Z : Hid (RP w wr a r (cvF a r (8 * (i + 1)))) := hz0
          clear hz0
          go_wp2_with fail
          go_roundw
          case rel => exact ⟨i + 1, by go_num, by omega, Z.out⟩
          case measure => simp [intOf]; omega
    · have : i = 9 := by omega
      subst this
      have HE : Hid (RP w wr a r (cvF a r 72)) := hz0
      clear hz0
      go_wp2
      exact HQ.out _ _ _ _ _ _ _ _ _ _ _ _ _ _ _ _ _ _ _ _ _ _ _ _ _ _ _ _ HE.out
end Go.Proofs.YtobglgddbhddnaaGreat.Cha
