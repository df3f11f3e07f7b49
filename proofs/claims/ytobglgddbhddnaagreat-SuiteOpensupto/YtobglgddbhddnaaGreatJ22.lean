/-
  Blocks compared; whole arrays within a region that draws; the key and the nonce that a law holds.
  Codes modulo 2^130 - 5, plain: numbers by their digits, of 26 bits and of 16.
  Numbers of five digits: carried, reduced, added.
-/
import Derived.Test.YtobglgddbhddnaaGreatJ20
import Derived.Test.YtobglgddbhddnaaGreatJ21
import Derived.Test.YtobglgddbhddnaaGreatJ03
namespace Go.Proofs.YtobglgddbhddnaaGreat.Cha
open Go.RowKit
set_option linter.unusedVariables false

theorem size5 (w : World) : (sizeOf 5).run Tryz.prog w = .ok 1 w := by
  have h : (Tryz.prog.info? 5).map (·.size) = some 1 := by kernel_rfl
  cases hq : Tryz.prog.info? 5 with
  | none => simp [hq] at h
  | some i =>
    rw [hq] at h
    have h : i.size = 1 := Option.some.inj h
    simp [sizeOf, typeInfo, hq, h]
theorem und5 : Tryz.prog.underlying 5 = some (.int .u8) := by kernel_rfl
theorem run_part5 (n : Nat) (f : Nat → By) {i : Nat} (hi : i < n) (w : World) : (part 5 (ba n f) i).run Tryz.prog w = .ok (.int .u8 ((f i).toNat : Int)) w := by
  simp [part, ba_get n f hi, Sem.run_bind]

theorem run_eqN {t n : Nat} (hu : Tryz.prog.underlying t = some (.array n 5)) (hl : List.range' [0:n].start [0:n].size [0:n].step = List.range n) (f g : Nat → By) (d : Nat) (w : World) : (Op.equalIn (d + 2) t (.agg (ba n f)) (.agg (ba n g))).run Tryz.prog w = .ok ((List.range n).all fun i => f i == g i) w := by
  unfold Op.equalIn
  simp only [Sem.run_bind, run_underlying hu, Result.andThen_ok, size5, Nat.mul_one]
  rw [Std.Legacy.Range.forIn_eq_forIn_range', hl]
  have hm : ∀ i ∈ List.range n, i < n := fun i hi => List.mem_range.1 hi
  generalize List.range n = l at hm
  clear hl
  induction l generalizing w with
  | nil => simp
  | cons i l ih =>
    have hi := hm i (by simp)
    simp only [List.forIn_cons, Sem.run_bind, run_part5 n f hi, run_part5 n g hi, Result.andThen_ok, run_equalIn_int _ d 5 .u8 .u8 _ _ und5]
    have hb : (((f i).toNat : Int) == ((g i).toNat : Int)) = (f i == g i) := by
      by_cases h : f i = g i
      · simp [h]
      · have h2 : ¬ ((f i).toNat : Int) = ((g i).toNat : Int) := fun e => h (BitVec.eq_of_toNat_eq (by omega))
        rw [beq_false_of_ne h2, beq_false_of_ne h]
    rw [hb]
    cases hc : (f i == g i) with
    | true =>
      simp only [List.all_cons, hc, Bool.true_and, Bool.not_true, Bool.false_eq_true, if_false, Sem.run_pure, Result.andThen_ok]
      exact ih w (fun j hj => hm j (by simp [hj]))
    | false =>
      simp only [List.all_cons, hc, Bool.false_and, Bool.not_false, if_true, Sem.run_pure, Result.andThen_ok]

theorem all_self (n : Nat) (f : Nat → By) : ((List.range n).all fun i => f i == f i) = true := by
  rw [List.all_eq_true]
  intro i _
  exact beq_self_eq_true _
theorem run_eq64 (f : Nat → By) (w : World) : (Op.equalIn 10000 60 (.agg (ba 64 f)) (.agg (ba 64 f))).run Tryz.prog w = .ok true w := by
  have := run_eqN und28 (by decide) f f 9998 w
  rw [all_self] at this
  exact this
theorem run_eq16 (f : Nat → By) (w : World) : (Op.equalIn 10000 62 (.agg (ba 16 f)) (.agg (ba 16 f))).run Tryz.prog w = .ok true w := by
  have := run_eqN und32 (by decide) f f 9998 w
  rw [all_self] at this
  exact this

theorem rangeA {w : World} {B n : Nat} {f : Nat → By} (h : Ar w B (ba n f)) : w.rangeAt B 0 (ba n f).toList := by
  intro j v hv
  rw [Nat.zero_add, h.cell]
  simpa using hv
theorem info32 (f : Nat → By) : (Tryz.prog.info? 40).map (·.size) = some (ba 32 f).toList.length := by rw [Array.length_toList, ba_size]; exact i22
theorem info12 (f : Nat → By) : (Tryz.prog.info? 25).map (·.size) = some (ba 12 f).toList.length := by rw [Array.length_toList, ba_size]; exact i24

/-- The key and the nonce, boxed. -/
structure KN (w wr : World) (key nonce : Nat → By) : Prop where
  chg : Chg w wr
  ky : Ar wr w.heap.size (ba 32 key)
  non : Ar wr (w.heap.size + 1) (ba 12 nonce)
theorem KN.to {w wr u : World} {key nonce : Nat → By} (h : KN w wr key nonce) (k : Chg wr u) : KN w u key nonce := ⟨h.chg.trans k, h.ky.chg k, h.non.chg k⟩

theorem stF_back (n : Nat) (key nonce txt : Nat → By) (c : Wd) : nums n (stF key c nonce (stF key c nonce txt)) = nums n txt := by
  refine nums_congr fun i _ => ?_
  unfold stF
  rw [BitVec.xor_assoc, BitVec.xor_self, BitVec.xor_zero]
end Go.Proofs.YtobglgddbhddnaaGreat.Cha

namespace Go.Proofs.YtobglgddbhddnaaGreat.Cha
set_option linter.unusedVariables false

/-- What the lowest n digits say. -/
def val (B : Int) : Nat → (Nat → Int) → Int
  | 0, _ => 0
  | n + 1, d => val B n d + d n * B ^ n
theorem val1 (B : Int) (n : Nat) (d : Nat → Int) : val B (n + 1) d = val B n d + d n * B ^ n := rfl
theorem val_congr {B : Int} {n : Nat} {d e : Nat → Int} (h : ∀ i, i < n → d i = e i) : val B n d = val B n e := by
  induction n with
  | zero => rfl
  | succ n ih => simp only [val]; rw [ih (fun i hi => h i (by omega)), h n (by omega)]
theorem val_zero {B : Int} (n : Nat) : val B n (fun _ => 0) = 0 := by
  induction n with
  | zero => rfl
  | succ n ih => simp [val, ih]
theorem val_nonneg {B : Int} (hB : 0 ≤ B) {n : Nat} {d : Nat → Int} (h : ∀ i, i < n → 0 ≤ d i) : 0 ≤ val B n d := by
  induction n with
  | zero => exact Int.le_refl _
  | succ n ih =>
    have h1 := ih (fun i hi => h i (by omega))
    have h2 : 0 ≤ d n * B ^ n := Int.mul_nonneg (h n (by omega)) (Int.pow_nonneg hB)
    simp only [val]
    omega
theorem val_bound {B : Int} (hB : 0 < B) {n : Nat} {d : Nat → Int} (h : ∀ i, i < n → 0 ≤ d i ∧ d i < B) : 0 ≤ val B n d ∧ val B n d < B ^ n := by
  induction n with
  | zero => simp [val]
  | succ n ih =>
    have h1 := ih (fun i hi => h i (by omega))
    have h2 := h n (by omega)
    have hp : 0 < B ^ n := Int.pow_pos hB
    have h3 : d n * B ^ n ≤ (B - 1) * B ^ n := Int.mul_le_mul_of_nonneg_right (by omega) (by omega)
    have h4 : 0 ≤ d n * B ^ n := Int.mul_nonneg h2.1 (by omega)
    have h5 : (B - 1) * B ^ n = B ^ (n + 1) - B ^ n := by rw [Int.sub_mul, Int.one_mul, Int.pow_succ, Int.mul_comm B]
    simp only [val]
    omega
def updI (d : Nat → Int) (i : Nat) (x : Int) : Nat → Int := fun j => if j = i then x else d j
theorem updI_same (d : Nat → Int) (i : Nat) (x : Int) : updI d i x i = x := by simp [updI]
theorem updI_ne (d : Nat → Int) {i j : Nat} (x : Int) (h : j ≠ i) : updI d i x j = d j := by simp [updI, h]
theorem val_upd {B : Int} {n : Nat} (d : Nat → Int) {i : Nat} (x : Int) (h : n ≤ i) : val B n (updI d i x) = val B n d :=
  val_congr fun j hj => updI_ne d x (by omega)
theorem val_upd_in {B : Int} {n : Nat} (d : Nat → Int) {i : Nat} (x : Int) (h : i < n) : val B n (updI d i x) = val B n d + (x - d i) * B ^ i := by
  induction n with
  | zero => omega
  | succ n ih =>
    simp only [val]
    by_cases hi : i = n
    · subst hi
      rw [val_upd d x (Nat.le_refl _), updI_same, Int.sub_mul]
      omega
    · rw [ih (by omega), updI_ne d x (by omega)]
      omega
theorem val_add {B : Int} (n : Nat) (d e : Nat → Int) : val B n (fun i => d i + e i) = val B n d + val B n e := by
  induction n with
  | zero => rfl
  | succ n ih => simp only [val]; rw [ih, Int.add_mul]; omega

theorem val5 (d : Nat → Int) : val (67108864 : Int) 5 d = d 0 + d 1 * 67108864 + d 2 * 4503599627370496 + d 3 * 302231454903657293676544 + d 4 * 20282409603651670423947251286016 := by
  simp only [val]
  omega

/-! Digits of 26 bits, carried. -/
def crO (d : Nat → Int) : Nat → Int
  | 0 => 0
  | i + 1 => (d i + crO d i) / (67108864 : Int)
def crD (d : Nat → Int) (i : Nat) : Int := (d i + crO d i) % (67108864 : Int)
theorem cr_val (d : Nat → Int) (n : Nat) : val (67108864 : Int) n (crD d) + crO d n * (67108864 : Int) ^ n = val (67108864 : Int) n d := by
  induction n with
  | zero => simp [val, crO]
  | succ n ih =>
    have e : d n + crO d n = crD d n + crO d (n + 1) * (67108864 : Int) := by
      show d n + crO d n = (d n + crO d n) % (67108864 : Int) + (d n + crO d n) / (67108864 : Int) * (67108864 : Int)
      omega
    simp only [val1]
    rw [← ih, Int.pow_succ, show d n = crD d n + crO d (n + 1) * (67108864 : Int) - crO d n by omega]
    grind
theorem crO_nonneg {d : Nat → Int} {n : Nat} (h : ∀ i, i < n → 0 ≤ d i) : 0 ≤ crO d n := by
  induction n with
  | zero => exact Int.le_refl _
  | succ n ih =>
    have h1 := ih (fun i hi => h i (by omega))
    have h2 := h n (by omega)
    show 0 ≤ (d n + crO d n) / 67108864
    omega
theorem crO_le {d : Nat → Int} {n : Nat} (h : ∀ i, i < n → d i ≤ 4611686018427387904) : crO d n ≤ 137438953472 := by
  induction n with
  | zero => show (0 : Int) ≤ _; omega
  | succ n ih =>
    have h1 := ih (fun i hi => h i (by omega))
    have h2 := h n (by omega)
    show (d n + crO d n) / 67108864 ≤ _
    omega
theorem crD_bound (d : Nat → Int) (i : Nat) : 0 ≤ crD d i ∧ crD d i < 67108864 := ⟨Int.emod_nonneg _ (by decide), Int.emod_lt_of_pos _ (by decide)⟩
theorem cr5 (d : Nat → Int) : val (67108864 : Int) 5 (crD d) + crO d 5 * 1361129467683753853853498429727072845824 = val (67108864 : Int) 5 d := cr_val d 5
theorem crD_val (d : Nat → Int) : 0 ≤ val (67108864 : Int) 5 (crD d) ∧ val (67108864 : Int) 5 (crD d) < 1361129467683753853853498429727072845824 := val_bound (B := (67108864 : Int)) (by decide) (fun i _ => crD_bound d i)

/-- What goes beyond the highest digit is brought back. -/
def redF (d : Nat → Int) : Nat → Int := updI (crD d) 0 (crD d 0 + 5 * crO d 5)
theorem redF_val (d : Nat → Int) : val (67108864 : Int) 5 (redF d) = val (67108864 : Int) 5 d - crO d 5 * (1361129467683753853853498429727072845819 : Int) := by
  have h := cr5 d
  unfold redF
  rw [val_upd_in _ _ (by decide)]
  simp only [Int.pow_zero, Int.mul_one]
  omega
theorem redF_mod (d : Nat → Int) : val (67108864 : Int) 5 (redF d) % (1361129467683753853853498429727072845819 : Int) = val (67108864 : Int) 5 d % (1361129467683753853853498429727072845819 : Int) := by
  rw [redF_val, Int.sub_mul_emod_self_right]

/-- Digits that a product leaves: carried, but for the lowest, which may have 5 too much. -/
def Sm (d : Nat → Int) : Prop := (0 ≤ d 0 ∧ d 0 < 67108869) ∧ ∀ i, 0 < i → i < 5 → 0 ≤ d i ∧ d i < 67108864
theorem Sm.val_lt {d : Nat → Int} (h : Sm d) : 0 ≤ val (67108864 : Int) 5 d ∧ val (67108864 : Int) 5 d < 1361129467683753853853498429727072845829 := by
  have h0 := h.1
  have h1 := h.2 1 (by decide) (by decide)
  have h2 := h.2 2 (by decide) (by decide)
  have h3 := h.2 3 (by decide) (by decide)
  have h4 := h.2 4 (by decide) (by decide)
  rw [val5]
  omega
theorem Sm.le {d : Nat → Int} (h : Sm d) {i : Nat} (hi : i < 5) : 0 ≤ d i ∧ d i < 67108869 := by
  by_cases h0 : i = 0
  · subst h0; exact h.1
  · have := h.2 i (by omega) hi
    omega
/-- Twice reduced. -/
theorem red2 {d : Nat → Int} (h : ∀ i, i < 5 → 0 ≤ d i ∧ d i ≤ 4611686018427387904) : Sm (redF (redF d)) := by
  have hn := crO_nonneg (fun i hi => (h i hi).1)
  have hl := crO_le (fun i hi => (h i hi).2)
  have b0 := crD_bound d 0
  have b1 := crD_bound d 1
  have b2 := crD_bound d 2
  have b3 := crD_bound d 3
  have b4 := crD_bound d 4
  have e0 : redF d 0 = crD d 0 + 5 * crO d 5 := updI_same _ _ _
  have e1 : redF d 1 = crD d 1 := updI_ne _ _ (by decide)
  have e2 : redF d 2 = crD d 2 := updI_ne _ _ (by decide)
  have e3 : redF d 3 = crD d 3 := updI_ne _ _ (by decide)
  have e4 : redF d 4 = crD d 4 := updI_ne _ _ (by decide)
  have hv := val5 (redF d)
  have hc := cr5 (redF d)
  have hb := crD_val (redF d)
  rw [e0, e1, e2, e3, e4] at hv
  have ho : 0 ≤ crO (redF d) 5 ∧ crO (redF d) 5 ≤ 1 := by
    constructor
    · omega
    · omega
  refine ⟨?_, fun i h0 hi => ?_⟩
  · have : redF (redF d) 0 = crD (redF d) 0 + 5 * crO (redF d) 5 := updI_same _ _ _
    have b := crD_bound (redF d) 0
    omega
  · have : redF (redF d) i = crD (redF d) i := updI_ne _ _ (by omega)
    have b := crD_bound (redF d) i
    omega

/-! The program's product. -/
def ptF (a b : Nat → Int) (i j : Nat) : Int := if 5 ≤ i + j then a i * b j * 5 else a i * b j
def stP (a b : Nat → Int) : Nat → Nat → Int
  | 0 => fun _ => 0
  | t + 1 => updI (stP a b t) ((t / 5 + t % 5) % 5) (stP a b t ((t / 5 + t % 5) % 5) + ptF a b (t / 5) (t % 5))
theorem pow5 : (67108864 : Int) ^ 5 = (1361129467683753853853498429727072845819 : Int) + 5 := by decide
theorem ptF_mod (a b : Nat → Int) {i j : Nat} (hi : i < 5) (hj : j < 5) : ∃ q, ptF a b i j * (67108864 : Int) ^ ((i + j) % 5) = a i * b j * ((67108864 : Int) ^ i * (67108864 : Int) ^ j) - q * (1361129467683753853853498429727072845819 : Int) := by
  by_cases h : 5 ≤ i + j
  · refine ⟨a i * b j * (67108864 : Int) ^ ((i + j) % 5), ?_⟩
    rw [ptF, if_pos h]
    have e : (67108864 : Int) ^ i * (67108864 : Int) ^ j = (67108864 : Int) ^ ((i + j) % 5) * ((1361129467683753853853498429727072845819 : Int) + 5) := by
      rw [← pow5, ← Int.pow_add, ← Int.pow_add]
      congr 1
      omega
    rw [e]
    grind
  · refine ⟨0, ?_⟩
    rw [ptF, if_neg h, Nat.mod_eq_of_lt (by omega), Int.pow_add]
    grind
theorem stP_val (a b : Nat → Int) : ∀ t, t ≤ 25 → ∃ q, val (67108864 : Int) 5 (stP a b t) = val (67108864 : Int) (t / 5) a * val (67108864 : Int) 5 b + a (t / 5) * (67108864 : Int) ^ (t / 5) * val (67108864 : Int) (t % 5) b - q * (1361129467683753853853498429727072845819 : Int) := by
  intro t
  induction t with
  | zero => exact fun _ => ⟨0, by simp [stP, val]⟩
  | succ t ih =>
    intro ht
    obtain ⟨q, hq⟩ := ih (by omega)
    obtain ⟨q', hq'⟩ := ptF_mod a b (i := t / 5) (j := t % 5) (by omega) (by omega)
    refine ⟨q + q', ?_⟩
    show val (67108864 : Int) 5 (updI (stP a b t) ((t / 5 + t % 5) % 5) (stP a b t ((t / 5 + t % 5) % 5) + ptF a b (t / 5) (t % 5))) = _
    rw [val_upd_in _ _ (by omega), hq, show stP a b t ((t / 5 + t % 5) % 5) + ptF a b (t / 5) (t % 5) - stP a b t ((t / 5 + t % 5) % 5) = ptF a b (t / 5) (t % 5) by omega, hq']
    by_cases h : t % 5 = 4
    · rw [show (t + 1) / 5 = t / 5 + 1 by omega, show (t + 1) % 5 = 0 by omega, h, val1 (67108864 : Int) (t / 5) a]
      have e : val (67108864 : Int) 5 b = val (67108864 : Int) 4 b + b 4 * (67108864 : Int) ^ 4 := rfl
      have e0 : val (67108864 : Int) 0 b = 0 := rfl
      rw [e0, e]
      grind
    · rw [show (t + 1) / 5 = t / 5 by omega, show (t + 1) % 5 = t % 5 + 1 by omega, val1 (67108864 : Int) (t % 5) b]
      grind
theorem stP_le {a b : Nat → Int} (ha : ∀ i, i < 5 → 0 ≤ a i ∧ a i ≤ 268435456) (hb : ∀ i, i < 5 → 0 ≤ b i ∧ b i ≤ 67108864) : ∀ t, t ≤ 25 → ∀ k, 0 ≤ stP a b t k ∧ stP a b t k ≤ t * 90071992547409920 := by
  intro t
  induction t with
  | zero => intro _ k; simp [stP]
  | succ t ih =>
    intro ht k
    have h1 := ih (by omega)
    have p1 := ha (t / 5) (by omega)
    have p2 := hb (t % 5) (by omega)
    have m0 : 0 ≤ a (t / 5) * b (t % 5) := Int.mul_nonneg p1.1 p2.1
    have m1 : a (t / 5) * b (t % 5) ≤ 268435456 * 67108864 := Int.mul_le_mul p1.2 p2.2 p2.1 (by decide)
    have m2 : 0 ≤ ptF a b (t / 5) (t % 5) ∧ ptF a b (t / 5) (t % 5) ≤ 90071992547409920 := by
      unfold ptF
      split <;> omega
    show 0 ≤ updI _ _ _ k ∧ updI _ _ _ k ≤ _
    unfold updI
    have h2 := h1 k
    have h3 := h1 ((t / 5 + t % 5) % 5)
    split <;> omega
def prF (a b : Nat → Int) : Nat → Int := redF (redF (stP a b 25))
theorem prF_sm {a b : Nat → Int} (ha : ∀ i, i < 5 → 0 ≤ a i ∧ a i ≤ 268435456) (hb : ∀ i, i < 5 → 0 ≤ b i ∧ b i ≤ 67108864) : Sm (prF a b) := by
  refine red2 fun i hi => ?_
  have := stP_le ha hb 25 (Nat.le_refl _) i
  omega
theorem prF_mod (a b : Nat → Int) : val (67108864 : Int) 5 (prF a b) % (1361129467683753853853498429727072845819 : Int) = val (67108864 : Int) 5 a * val (67108864 : Int) 5 b % (1361129467683753853853498429727072845819 : Int) := by
  unfold prF
  rw [redF_mod, redF_mod]
  obtain ⟨q, hq⟩ := stP_val a b 25 (Nat.le_refl _)
  rw [hq]
  have e : val (67108864 : Int) (25 / 5) a * val (67108864 : Int) 5 b + a (25 / 5) * (67108864 : Int) ^ (25 / 5) * val (67108864 : Int) (25 % 5) b = val (67108864 : Int) 5 a * val (67108864 : Int) 5 b := by
    show val (67108864 : Int) 5 a * val (67108864 : Int) 5 b + _ * 0 = _
    omega
  rw [e, Int.sub_mul_emod_self_right]

/-! The number of bytes. -/
def nmF (f : Nat → By) : Nat → Int := fun i => ((f i).toNat : Int)
def nfF (f : Nat → By) : Nat → Nat → Int
  | 0 => fun _ => 0
  | t + 1 => updI (nfF f t) (8 * t / 26) (nfF f t (8 * t / 26) + nmF f t * 2 ^ (8 * t % 26))
theorem pow_26 (t : Nat) : (2 : Int) ^ (8 * t % 26) * (67108864 : Int) ^ (8 * t / 26) = 256 ^ t := by
  have e1 : (67108864 : Int) ^ (8 * t / 26) = 2 ^ (26 * (8 * t / 26)) := by rw [Int.pow_mul]; rfl
  have e2 : (256 : Int) ^ t = 2 ^ (8 * t) := by rw [Int.pow_mul]; rfl
  rw [e1, e2, ← Int.pow_add]
  congr 1
  omega
theorem nfF_val (f : Nat → By) : ∀ t, t ≤ 16 + 1 → val (67108864 : Int) 5 (nfF f t) = val 256 t (nmF f) := by
  intro t
  induction t with
  | zero => intro _; simp [nfF, val]
  | succ t ih =>
    intro ht
    show val (67108864 : Int) 5 (updI _ _ _) = _
    rw [val_upd_in _ _ (by omega), ih (by omega), val1, ← pow_26 t]
    have e : nfF f t (8 * t / 26) + nmF f t * 2 ^ (8 * t % 26) - nfF f t (8 * t / 26) = nmF f t * 2 ^ (8 * t % 26) := by omega
    rw [e, Int.mul_assoc]
theorem nmF_bound (f : Nat → By) (i : Nat) : 0 ≤ nmF f i ∧ nmF f i < 256 := by
  have := (f i).isLt
  unfold nmF
  omega
theorem shift_le (f : Nat → By) (t : Nat) : 0 ≤ nmF f t * 2 ^ (8 * t % 26) ∧ nmF f t * 2 ^ (8 * t % 26) ≤ 8589934592 := by
  have h := nmF_bound f t
  have h1 : (2 : Int) ^ (8 * t % 26) ≤ 2 ^ 25 := by exact_mod_cast Nat.pow_le_pow_right (n := 2) (by decide) (by omega)
  have h2 : (0 : Int) < 2 ^ (8 * t % 26) := Int.pow_pos (by decide)
  refine ⟨Int.mul_nonneg h.1 (by omega), ?_⟩
  have : nmF f t * 2 ^ (8 * t % 26) ≤ 256 * 2 ^ 25 := Int.mul_le_mul (by omega) h1 (by omega) (by decide)
  omega
theorem nfF_le (f : Nat → By) : ∀ t k, 0 ≤ nfF f t k ∧ nfF f t k ≤ t * 8589934592 := by
  intro t
  induction t with
  | zero => intro k; simp [nfF]
  | succ t ih =>
    intro k
    have h1 := ih k
    have h2 := ih (8 * t / 26)
    have h3 := shift_le f t
    show 0 ≤ updI _ _ _ k ∧ updI _ _ _ k ≤ _
    unfold updI
    split <;> omega
def noF (f : Nat → By) : Nat → Int := redF (nfF f 17)
/-- A number of 17 bytes below 2^130: it is carried. -/
theorem noF_val {f : Nat → By} (h : val 256 17 (nmF f) < 1361129467683753853853498429727072845824) : val (67108864 : Int) 5 (noF f) = val 256 17 (nmF f) ∧ ∀ i, i < 5 → 0 ≤ noF f i ∧ noF f i < 67108864 := by
  have hv := nfF_val f 17 (by decide)
  have hc := cr5 (nfF f 17)
  have hb := crD_val (nfF f 17)
  have h0 : crO (nfF f 17) 5 = 0 := by
    have hn := crO_nonneg (d := nfF f 17) (n := 5) (fun i _ => (nfF_le f 17 i).1)
    omega
  refine ⟨?_, fun i hi => ?_⟩
  · unfold noF
    rw [redF_val, h0, hv]
    omega
  · unfold noF redF
    rw [h0]
    have b := crD_bound (nfF f 17) i
    unfold updI
    split
    · rename_i e
      subst e
      omega
    · exact b

/-- Below 2^130 - 5. -/
def fiveF : Nat → Int := updI (fun _ => 0) 0 5
def addF (a b : Nat → Int) : Nat → Int := fun i => a i + b i
def leF (s : Nat → Int) : Nat → Int := if crO (addF s fiveF) 5 = 0 then s else crD (addF s fiveF)
theorem val_five : val (67108864 : Int) 5 fiveF = 5 := by decide
theorem leF_val {s : Nat → Int} (h : Sm s) : val (67108864 : Int) 5 (leF s) = val (67108864 : Int) 5 s % (1361129467683753853853498429727072845819 : Int) ∧ ∀ i, i < 5 → 0 ≤ leF s i ∧ leF s i < 67108869 := by
  have hv := h.val_lt
  have ha : val (67108864 : Int) 5 (addF s fiveF) = val (67108864 : Int) 5 s + 5 := by rw [← val_five]; exact val_add 5 s fiveF
  have hc := cr5 (addF s fiveF)
  have hb := crD_val (addF s fiveF)
  unfold leF
  split
  · rename_i h0
    rw [h0] at hc
    refine ⟨?_, fun i hi => h.le hi⟩
    rw [Int.emod_eq_of_lt hv.1 (by omega)]
  · rename_i h0
    refine ⟨?_, fun i hi => ?_⟩
    · have : crO (addF s fiveF) 5 = 1 := by omega
      rw [this] at hc
      have e : val (67108864 : Int) 5 s = val (67108864 : Int) 5 (crD (addF s fiveF)) + (1361129467683753853853498429727072845819 : Int) := by omega
      rw [e, Int.add_emod_right, Int.emod_eq_of_lt hb.1 (by omega)]
    · have := crD_bound (addF s fiveF) i
      omega
end Go.Proofs.YtobglgddbhddnaaGreat.Cha

namespace Go.Proofs.YtobglgddbhddnaaGreat.Cha
open Go.RowKit
set_option linter.unusedVariables false

theorem upd_updI (d : Nat → Int) (i : Nat) (x : Int) : upd d i x = updI d i x := rfl
def zI : Nat → Int := fun _ => 0
theorem und49 : Tryz.prog.underlying 118 = some (.array 5 45) := by kernel_rfl
theorem i49 : (Tryz.prog.info? 118).map (·.size) = some 5 := by kernel_rfl
theorem zero49 : (∀ w, (zeroValue 118).run Tryz.prog w = .ok (.agg (arr .u64 5 zI)) w) ∧ (Tryz.prog.info? 118).map (·.size) = some 5 := zero_of_info (by kernel_rfl)
theorem sz49 (d : Nat → Int) : (Tryz.prog.info? 118).map (·.size) = some (arr .u64 5 d).size := by rw [arr_size]; exact i49
theorem len5 (d e : Nat → Int) : (arr .u64 5 d).size = (arr .u64 5 e).size := by rw [arr_size, arr_size]
theorem arr_congr {κ : IntKind} {n : Nat} {d e : Nat → Int} (h : ∀ i, i < n → d i = e i) : arr κ n d = arr κ n e := by
  apply Array.ext_getElem?
  intro j
  by_cases hj : j < n
  · rw [arr_get _ _ _ hj, arr_get _ _ _ hj, h j hj]
  · simp [arr, hj]
theorem wrap_u {x : Int} (h0 : 0 ≤ x) (h1 : x < 18446744073709551616) : IntKind.u64.wrap x = x := by rw [IntKind.wrap_u64]; omega
theorem mask26 {x : Int} (h0 : 0 ≤ x) (h1 : x < 18446744073709551616) : Go.bits .and .u64 x 67108863 = x % 67108864 := by
  obtain ⟨n, rfl⟩ := Int.eq_ofNat_of_zero_le h0
  have := u64_and_nat n 67108863 (by omega) (by decide)
  rw [show (67108863 : Int) = ((67108863 : Nat) : Int) from rfl, this, show 67108863 = 2 ^ 26 - 1 from rfl, Nat.and_two_pow_sub_one_eq_mod]
  omega

/-- A number being worked on, and its result. -/
structure NS (w wr : World) (d : Nat → Int) : Prop where
  chg : Chg w wr
  a : Ar wr w.heap.size (arr .u64 5 d)
  out : Ar wr (w.heap.size + 1) (arr .u64 5 zI)
theorem NS.set {w wr : World} {d : Nat → Int} (h : NS w wr d) (i : Nat) (x : Int) : NS w (wr.setCell ⟨w.heap.size, i, none⟩ (.int .u64 x)) (updI d i x) := by
  refine ⟨h.chg.setCell (Nat.le_refl _) _, ?_, h.out.other (by dsimp only; omega) _⟩
  have := h.a.set i (.int .u64 x)
  rwa [arr_set] at this
theorem NS.start (w : World) (d : Nat → Int) (A : Array Value) (hA : A = arr .u64 5 d) : NS w ((w.alloc (.cells A 118)).alloc (.cells (arr .u64 5 zI) 118)) d := by
  rw [hA]
  exact ⟨((Chg.refl w).alloc _).alloc _, (Ar.new w _ _).alloc _, Ar.new1 w _ _ _⟩

def cuF (d : Nat → Int) (i : Nat) : Nat → Int := fun j => if j < i then crD d j else d j
theorem cuF_zero (d : Nat → Int) : cuF d 0 = d := by funext j; simp [cuF]
theorem cuF_succ (d : Nat → Int) (i : Nat) (x : Int) : updI (updI (cuF d i) i x) i (crD d i) = cuF d (i + 1) := by
  funext j
  unfold updI cuF
  by_cases h : j = i
  · subst h; simp
  · have e : (j < i + 1) = (j < i) := by rw [eq_iff_iff]; omega
    simp [h, e]

set_option maxRecDepth 100000 in
set_option maxHeartbeats 4000000 in
theorem carried_any (d : Nat → Int) (w : World) (hd : ∀ i, i < 5 → 0 ≤ d i ∧ d i ≤ 4611686018427387904) : Calls Tryz.prog 99 #[.agg (arr .u64 5 d)] w fun r w' => r = .returned (.tuple #[.agg (arr .u64 5 (crD d)), .int .u64 (crO d 5)]) ∧ Chg w w' := by
  have hsA := arr_size .u64 5 d
  obtain ⟨A, hA⟩ : ∃ A, A = arr .u64 5 d := ⟨_, rfl⟩
  have HA : Hid (A = arr .u64 5 d) := hA
  rw [← hA] at hsA ⊢
  have HD : Hid (∀ i, i < 5 → 0 ≤ d i ∧ d i ≤ 4611686018427387904) := hd
  clear hA hd
  have hz := zero49.1
  go_enter Tryz.func99, Tryz.ntmps99
  go_wp2_with fail
  obtain ⟨w2, hw2⟩ : ∃ w2, w2 = (w.alloc (.cells A 118)).alloc (.cells (arr .u64 5 zI) 118) := ⟨_, rfl⟩
  have Z2 : Hid (NS w w2 d) := by rw [hw2]; exact NS.start w d A HA.out
  rw [← hw2]
  clear hw2 hsA hz
  go_loopw [4, 6] (fun v4 v6 wr => ∃ (i : Nat), v6 = .int .i64 i ∧ i ≤ 5 ∧ v4 = .int .u64 (crO d i) ∧ NS w wr (cuF d i)) (fun v4 v6 wr => 5 - (intOf v6).toNat)
  case atStart => exact ⟨0, rfl, by omega, rfl, by rw [cuF_zero]; exact Z2.out⟩
  case round =>
    clear Z2
    obtain ⟨i, rfl, hi, rfl, hz0⟩ := hrel
    obtain ⟨o, ho⟩ : ∃ o, o = crO d i := ⟨_, rfl⟩
    rw [← ho]
    have HO : Hid (o = crO d i) := ho
    have Z : Hid (NS w wr (cuF d i)) := hz0
    by_cases hlt : i < 5
    · have hd' : decide ((i : Int) < 5) = true := by simp; omega
      have li : (i : Int) < 5 := by omega
      have b1 := HD.out i hlt
      have b2 := crO_nonneg (d := d) (n := i) (fun j hj => (HD.out j (by omega)).1)
      have b3 := crO_le (d := d) (n := i) (fun j hj => (HD.out j (by omega)).2)
      rw [← ho] at b2 b3
      have c1 := (hz0.a.cell i).trans (arr_get .u64 5 _ hlt)
      have f1 := hz0.a.frozen i
      have e0 : cuF d i i = d i := by simp [cuF]
      rw [e0] at c1
      obtain ⟨y, hy⟩ : ∃ y, y = d i := ⟨_, rfl⟩
      rw [← hy] at c1 b1
      obtain ⟨x, hx⟩ : ∃ x, y + o = x := ⟨_, rfl⟩
      have wx := wrap_u (x := x) (by omega) (by omega)
      have mx := mask26 (x := x) (by omega) (by omega)
      obtain ⟨q, hq⟩ : ∃ q, x / 67108864 = q := ⟨_, rfl⟩
      obtain ⟨m, hm⟩ : ∃ m, x % 67108864 = m := ⟨_, rfl⟩
      rw [hm] at mx
      have HE : Hid (q = crO d (i + 1) ∧ m = crD d i) := by
        refine ⟨?_, ?_⟩
        · show q = (d i + crO d i) / 67108864
          rw [← ho, ← hy, hx, hq]
        · show m = (d i + crO d i) % 67108864
          rw [← ho, ← hy, hx, hm]
      clear hy hz0 e0 b1 b2 b3 ho hm
      go_upto_region 6 with fail
      obtain ⟨w3, hw3⟩ : ∃ w3, w3 = wr.setCell ⟨w.heap.size, i, none⟩ (.int .u64 x) := ⟨_, rfl⟩
      have Z3 : Hid (NS w w3 (updI (cuF d i) i x)) := by rw [hw3]; exact Z.out.set i x
      have c3 := (Z3.out.a.cell i).trans (arr_get .u64 5 _ hlt)
      rw [updI_same] at c3
      have f3 := Z3.out.a.frozen i
      rw [← hw3]
      clear hw3 c1 f1
      go_wp2_with fail
      go_roundw
      case rel =>
        refine ⟨i + 1, by go_num, by omega, by rw [HE.out.1], ?_⟩
        rw [← cuF_succ d i x, ← HE.out.2]
        exact Z3.out.set i m
      case measure => simp [intOf]; omega
    · have : i = 5 := by omega
      subst this
      have ha := hz0.a
      have e : arr .u64 5 (cuF d 5) = arr .u64 5 (crD d) := arr_congr fun j hj => by simp [cuF, hj]
      rw [e] at ha
      obtain ⟨g, hg⟩ : ∃ g, g = crD d := ⟨_, rfl⟩
      rw [← hg] at ha
      have HG : Hid (g = crD d) := hg
      have HOo : Hid (Chg w wr ∧ Ar wr (w.heap.size + 1) (arr .u64 5 zI)) := ⟨hz0.chg, hz0.out⟩
      clear hz0 Z e hg ho
      obtain ⟨t1, g1⟩ := ha
      obtain ⟨t3, g3⟩ := HOo.out.2
      have hsz := sz49 g
      have hlen := len5 zI g
      have hone := arr_one .u64 5 g
      go_wp2_with (first | refine wpList_load_row rfl 118 _ rfl _ rfl _ _ _ _ g1 und49 rfl hsz ?_ | refine wpList_store_row rfl 118 _ _ rfl _ _ rfl rfl _ _ g3 hsz hlen hone ?_)
      refine bp_ct (n := 5) (c := arr .u64 5 g) Tryz.results99 rfl rfl rfl ?_ und49 i49 (arr_size _ _ _) ⟨by rw [HG.out, ← HO.out]; rfl, ?_⟩
      · exact HOo.out.2.row _
      · exact HOo.out.1.setRow (by omega) _

set_option maxRecDepth 100000 in
set_option maxHeartbeats 4000000 in
theorem reduced_any (d : Nat → Int) (w : World) (hd : ∀ i, i < 5 → 0 ≤ d i ∧ d i ≤ 4611686018427387904) : Calls Tryz.prog 98 #[.agg (arr .u64 5 d)] w fun r w' => r = .returned (.agg (arr .u64 5 (redF d))) ∧ Chg w w' := by
  have hsA := arr_size .u64 5 d
  obtain ⟨A, hA⟩ : ∃ A, A = arr .u64 5 d := ⟨_, rfl⟩
  have HA : Hid (A = arr .u64 5 d) := hA
  rw [← hA] at hsA ⊢
  have hszA : (Tryz.prog.info? 118).map (·.size) = some A.size := by rw [hA]; exact sz49 d
  obtain ⟨g, hg⟩ : ∃ g, g = crD d := ⟨_, rfl⟩
  obtain ⟨o, ho⟩ : ∃ o, o = crO d 5 := ⟨_, rfl⟩
  have HG : Hid (g = crD d ∧ o = crO d 5) := ⟨hg, ho⟩
  have HC : Hid (∀ u, Calls Tryz.prog 99 #[.agg A] u fun r w' => r = .returned (.tuple #[.agg (arr .u64 5 g), .int .u64 o]) ∧ Chg u w') := by
    rw [hA, hg, ho]
    exact fun u => carried_any d u hd
  have b2 := crO_nonneg (d := d) (n := 5) (fun j hj => (hd j hj).1)
  have b3 := crO_le (d := d) (n := 5) (fun j hj => (hd j hj).2)
  have b4 := crD_bound d 0
  rw [← ho] at b2 b3
  rw [← hg] at b4
  obtain ⟨y, hy⟩ : ∃ y, y = g 0 := ⟨_, rfl⟩
  rw [← hy] at b4
  obtain ⟨p, hp⟩ : ∃ p, 5 * o = p := ⟨_, rfl⟩
  have wp := wrap_u (x := p) (by omega) (by omega)
  obtain ⟨x, hx⟩ : ∃ x, y + p = x := ⟨_, rfl⟩
  have wx := wrap_u (x := x) (by omega) (by omega)
  have HX : Hid (updI g 0 x = redF d) := by
    show updI g 0 x = updI (crD d) 0 (crD d 0 + 5 * crO d 5)
    rw [← hx, ← hp, hy, hg, ho]
  have HY : Hid (y = g 0) := hy
  clear hA hd hg ho hy b2 b3 b4
  have hz := zero49.1
  have hsz := sz49 g
  have hone := arr_one .u64 5 g
  have hlen : A.size = (arr .u64 5 g).size := by rw [arr_size, hsA]
  go_enter Tryz.func98, Tryz.ntmps98
  go_upto_region 1 with fail
  obtain ⟨w2, hw2⟩ : ∃ w2, w2 = (w.alloc (.cells A 118)).alloc (.cells (arr .u64 5 zI) 118) := ⟨_, rfl⟩
  have Z2 : Hid (NS w w2 d) := by rw [hw2]; exact NS.start w d A HA.out
  rw [← hw2]
  clear hw2 hz
  obtain ⟨t1, g1⟩ := Z2.out.a
  rw [← HA.out] at g1
  go_wp2_with (first | refine wpList_load_row rfl 118 _ rfl _ rfl _ _ _ _ g1 und49 rfl hszA ?_)
  go_at_call 99
  refine (HC.out _).mono ?_
  rintro r w3 ⟨rfl, hc3⟩
  have Z3 : Hid (Chg w w3 ∧ Ar w3 w.heap.size A ∧ Ar w3 (w.heap.size + 1) (arr .u64 5 zI)) := by
    have k := Z2.out
    refine ⟨k.chg.trans hc3, ?_, k.out.chg hc3⟩
    rw [HA.out]
    exact k.a.chg hc3
  obtain ⟨t3, g3⟩ := Z3.out.2.1
  clear hc3 g1 Z2 hszA
  go_upto_region 2 with (first | refine wpList_store_row rfl 118 _ _ rfl _ _ rfl rfl _ _ g3 hsz hlen hone ?_)
  obtain ⟨w4, hw4⟩ : ∃ w4, w4 = w3.setRow w.heap.size (arr .u64 5 g) := ⟨_, rfl⟩
  have Z4 : Hid (NS w w4 g) := by
    obtain ⟨k0, k1, k2⟩ := Z3.out
    rw [hw4]
    exact ⟨k0.setRow (Nat.le_refl _) _, k1.row _, k2.rowOther (by omega) _⟩
  rw [← hw4]
  have c4 := (Z4.out.a.cell 0).trans (arr_get .u64 5 _ (by decide))
  rw [← HY.out] at c4
  have f4 := Z4.out.a.frozen 0
  clear hw4 g3 Z3 hlen hone
  go_upto_region 3 with fail
  obtain ⟨w5, hw5⟩ : ∃ w5, w5 = w4.setCell ⟨w.heap.size, 0, none⟩ (.int .u64 x) := ⟨_, rfl⟩
  obtain ⟨e, he⟩ : ∃ e, e = redF d := ⟨_, rfl⟩
  have Z5 : Hid (NS w w5 e) := by rw [hw5, he, ← HX.out]; exact Z4.out.set 0 x
  have HEe : Hid (e = redF d) := he
  rw [← hw5]
  clear hw5 c4 f4 Z4 he
  obtain ⟨t5, g5⟩ := Z5.out.a
  obtain ⟨t6, g6⟩ := Z5.out.out
  have hsz' := sz49 e
  have hlen' := len5 zI e
  have hone' := arr_one .u64 5 e
  go_wp2_with (first | refine wpList_load_row rfl 118 _ rfl _ rfl _ _ _ _ g5 und49 rfl hsz' ?_ | refine wpList_store_row rfl 118 _ _ rfl _ _ rfl rfl _ _ g6 hsz' hlen' hone' ?_)
  refine bp_c (n := 5) (c := arr .u64 5 e) Tryz.results98 rfl rfl ?_ und49 i49 (arr_size _ _ _) ⟨by rw [HEe.out], ?_⟩
  · exact Z5.out.out.row _
  · exact Z5.out.chg.setRow (by omega) _
end Go.Proofs.YtobglgddbhddnaaGreat.Cha
