/-
  What Parse reads, as a function of the text: the place, the words, the numbers, the texts, the pairs; places stay within the text; once wrong it stays so.
-/
import Derived.Test.YtlhcadfcgibkdaaDoorPen2
import Derived.Lib.ItoaNum
namespace Go.Proofs.YtlhcadfcgibkdaaDoor
set_option linter.unusedVariables false

/-- Where a reader stands, and whether something is wrong there. -/
structure RS where
  pos : Nat
  bad : Bool

def tk (S : List UInt8) (c : UInt8) (r : RS) : RS := if r.bad then r else if S[r.pos]? = some c then ⟨r.pos + 1, false⟩ else ⟨r.pos, true⟩
def tks (S : List UInt8) (cs : List UInt8) (r : RS) : RS := cs.foldl (fun r c => tk S c r) r

def numP (S : List UInt8) : Nat → Bool → Nat → Nat → Nat × Nat × Bool
  | 0, b, n, p => (p, n, !b)
  | f + 1, b, n, p => match S[p]? with
    | none => (p, n, !b)
    | some c => if digit c.toNat then (if (b && n == 0) || decide ((18446744073709551615 - (c.toNat - 48)) / 10 < n) then (p, 0, true) else numP S f true (10 * n + (c.toNat - 48)) (p + 1)) else (p, n, !b)
def nmR (S : List UInt8) (r : RS) : RS × Nat := if r.bad then (r, 0) else (⟨(numP S (S.length + 1) false 0 r.pos).1, (numP S (S.length + 1) false 0 r.pos).2.2⟩, (numP S (S.length + 1) false 0 r.pos).2.1)

def wdT (S : List UInt8) (p : Nat) : List UInt8 := (S.drop p).takeWhile (fun c => letter c.toNat)
def wdR (S : List UInt8) (r : RS) : RS := if r.bad then r else if isWd (wdT S r.pos) then ⟨r.pos + (wdT S r.pos).length, false⟩ else ⟨r.pos, true⟩

def hexV (c : UInt8) : Option Nat := if 48 ≤ c.toNat ∧ c.toNat ≤ 57 then some (c.toNat - 48) else if 97 ≤ c.toNat ∧ c.toNat ≤ 102 then some (c.toNat - 87) else none
def escP (S : List UInt8) (p : Nat) : Nat × UInt8 × Bool :=
  match S[p + 1]? with
  | none => (p + 1, 0, true)
  | some c => if c = 34 ∨ c = 92 then (p + 2, c, false) else if c = 120 then
      (match (S[p + 2]?).bind hexV with
      | none => (p + 2, 0, true)
      | some a => match (S[p + 3]?).bind hexV with
        | none => (p + 3, 0, true)
        | some b => if plainB (16 * a + b : Nat) then (p, 0, true) else (p + 4, UInt8.ofNat (16 * a + b), false))
    else (p + 1, 0, true)
def txtP (S : List UInt8) : Nat → Nat → Nat × List UInt8 × Bool
  | 0, p => (p, [], true)
  | f + 1, p => match S[p]? with
    | none => (p, [], true)
    | some c => if c = 34 then (p + 1, [], false)
      else if c = 92 then (if (escP S p).2.2 then ((escP S p).1, [], true) else ((txtP S f (escP S p).1).1, (escP S p).2.1 :: (txtP S f (escP S p).1).2.1, (txtP S f (escP S p).1).2.2))
      else if plainB c.toNat then ((txtP S f (p + 1)).1, c :: (txtP S f (p + 1)).2.1, (txtP S f (p + 1)).2.2)
      else (p, [], true)

/-- A key and the sign behind it. -/
def keyR (S : List UInt8) (ps : List PairD) (r : RS) : RS :=
  if r.bad then r else if ps.length < 16 ∧ keyOk ⟨(wdT S r.pos).toArray⟩ ps = true then tk S 61 ⟨r.pos + (wdT S r.pos).length, false⟩ else ⟨r.pos, true⟩
/-- What a key has. -/
def valR (S : List UInt8) (key : ByteArray) (r : RS) : RS × PairD :=
  if r.bad then (r, ⟨key, true, 0, ⟨#[]⟩⟩)
  else if S[r.pos]? = some 34 then (⟨(txtP S (S.length + 1) (r.pos + 1)).1, (txtP S (S.length + 1) (r.pos + 1)).2.2⟩, ⟨key, false, 0, ⟨(txtP S (S.length + 1) (r.pos + 1)).2.1.toArray⟩⟩)
  else ((nmR S r).1, ⟨key, true, (nmR S r).2, ⟨#[]⟩⟩)
def pairR (S : List UInt8) (ps : List PairD) (r : RS) : RS × PairD := valR S ⟨(wdT S r.pos).toArray⟩ (keyR S ps r)
def pairsP (S : List UInt8) : Nat → RS → List PairD → RS × List PairD
  | 0, r, ps => (r, ps)
  | f + 1, r, ps => if r.bad = true ∨ r.pos = S.length then (r, ps) else pairsP S f (pairR S ps (tk S 32 r)).1 (ps ++ [(pairR S ps (tk S 32 r)).2])

def timeR (S : List UInt8) : RS × Nat := nmR S (tks S [116, 61] ⟨0, false⟩)
def evS (S : List UInt8) : RS := tks S [32, 101, 118, 61] (timeR S).1
def evR (S : List UInt8) : RS := wdR S (evS S)
def allR (S : List UInt8) : RS × List PairD := pairsP S (S.length + 1) (evR S) []
def evT (S : List UInt8) : ByteArray := ⟨(wdT S (evS S).pos).toArray⟩

def okS (s : ByteArray) : Bool := decide (s.size ≤ 1024) && !(allR s.data.toList).1.bad
def pTime (s : ByteArray) : Nat := if okS s then (timeR s.data.toList).2 else 0
def pEv (s : ByteArray) : ByteArray := if okS s then evT s.data.toList else ⟨#[]⟩
def pPs (s : ByteArray) : List PairD := if okS s then (allR s.data.toList).2 else []
def pAt (s : ByteArray) : Nat := if s.size ≤ 1024 then (if (allR s.data.toList).1.bad then (allR s.data.toList).1.pos else 0) else 0
def pErr (s : ByteArray) : Int := if s.size ≤ 1024 then (if (allR s.data.toList).1.bad then 33 else 0) else 32
def dv (c : UInt8) : Nat := c.toNat - 48
def foldD (a : Nat) (D : List UInt8) : Nat := D.foldl (fun a c => 10 * a + dv c) a
theorem foldD_ge : ∀ (D : List UInt8) (a : Nat), a ≤ foldD a D
  | [], a => Nat.le_refl _
  | c :: D, a => by
    have := foldD_ge D (10 * a + dv c)
    show a ≤ foldD (10 * a + dv c) D
    omega
theorem foldD_snoc (D : List UInt8) (a : Nat) (c : UInt8) : foldD a (D ++ [c]) = 10 * foldD a D + dv c := by unfold foldD; simp
def noDig (B : List UInt8) : Prop := ∀ c, B[0]? = some c → digit c.toNat = false
theorem digit_iff (c : UInt8) : digit c.toNat = true ↔ 48 ≤ c.toNat ∧ c.toNat ≤ 57 := by unfold digit; simp; omega
theorem drop_at {S : List UInt8} {p : Nat} {c : UInt8} {D : List UInt8} (h : S.drop p = c :: D) : S[p]? = some c ∧ S.drop (p + 1) = D := by
  constructor
  · have := congrArg (fun l : List UInt8 => l[0]?) h
    simpa using this
  · rw [show p + 1 = p + 1 from rfl, ← List.drop_drop, h]; rfl
theorem drop_get {S : List UInt8} {p : Nat} {c : UInt8} (h : S[p]? = some c) : S.drop p = c :: S.drop (p + 1) := by
  obtain ⟨hl, e⟩ := List.getElem?_eq_some_iff.1 h
  rw [List.drop_eq_getElem_cons hl, e]

theorem numP_run (S B : List UInt8) (hB : noDig B) : ∀ (D : List UInt8) (f a p : Nat) (b : Bool), S.drop p = D ++ B → (∀ c ∈ D, digit c.toNat = true) → foldD a D < 18446744073709551616 →
    (b = true → a ≠ 0 ∨ D = []) → (b = false → D ≠ [] ∧ a = 0 ∧ (D.head? ≠ some 48 ∨ D.length = 1)) → D.length < f → numP S f b a p = (p + D.length, foldD a D, false)
  | [], f + 1, a, p, b, h, _, _, _, h2, _ => by
    have hb : b = true := by cases b; exact absurd rfl (h2 rfl).1; rfl
    subst hb
    have h3 : B[0]? = S[p]? := by
      have := congrArg (fun l : List UInt8 => l[0]?) h
      simpa using this.symm
    unfold numP
    cases h4 : S[p]? with
    | none => rfl
    | some c =>
      have := hB c (by rw [h3, h4])
      simp [this, foldD]
  | c :: D, f + 1, a, p, b, h, hd, hv, h1, h2, hf => by
    obtain ⟨hc, hr⟩ := drop_at (D := D ++ B) (by simpa using h)
    have hdc := (digit_iff c).1 (hd c (by simp))
    have hv' : foldD (10 * a + dv c) D < 18446744073709551616 := hv
    have hge := foldD_ge D (10 * a + dv c)
    have e1 : (b && a == 0) = false := by
      cases b
      · rfl
      · rcases h1 rfl with h | h
        · simpa using h
        · cases h
    have e2 : ¬ (18446744073709551615 - (c.toNat - 48)) / 10 < a := by unfold dv at hge hv'; omega
    have ih := numP_run S B hB D f (10 * a + dv c) (p + 1) true hr (fun x hx => hd x (by simp [hx])) hv' (fun _ => by
      cases b
      · obtain ⟨_, rfl, h3⟩ := h2 rfl
        rcases h3 with h3 | h3
        · left
          have : c ≠ 48 := by simpa using h3
          have : c.toNat ≠ 48 := fun e => this (UInt8.toNat_inj.1 e)
          unfold dv
          omega
        · right; simpa using h3
      · rcases h1 rfl with h | h
        · left; omega
        · cases h) (fun x => by cases x) (by simp at hf; omega)
    unfold numP
    rw [hc]
    simp only [hd c (by simp), e1, e2, if_true, Bool.false_or, decide_false, Bool.false_eq_true, if_false]
    rw [show 10 * a + (c.toNat - 48) = 10 * a + dv c from rfl, ih]
    simp only [List.length_cons]
    rw [show p + 1 + D.length = p + (D.length + 1) by omega]
    rfl

theorem decD_props (n : Nat) : foldD 0 (Lib.decDigits n) = n ∧ (∀ c ∈ Lib.decDigits n, digit c.toNat = true) ∧ Lib.decDigits n ≠ [] ∧ (1 ≤ n → (Lib.decDigits n).head? ≠ some 48) ∧ ((Lib.decDigits n).head? ≠ some 48 ∨ (Lib.decDigits n).length = 1) := by
  induction n using Nat.strongRecOn with
  | _ n ih =>
    by_cases h : n < 10
    · rw [Lib.decDigits_one h]
      have e : (UInt8.ofNat (48 + n)).toNat = 48 + n := by simp; omega
      refine ⟨by simp only [foldD, List.foldl_cons, List.foldl_nil, dv, e]; omega, ?_, by simp, ?_, .inr rfl⟩
      · intro c hc
        simp only [List.mem_singleton] at hc
        subst hc
        rw [digit_iff, e]
        omega
      · intro h1 h2
        have h3 : UInt8.ofNat (48 + n) = 48 := by simpa using h2
        rw [h3] at e
        have : (48 : UInt8).toNat = 48 := rfl
        omega
    · obtain ⟨i1, i2, i3, i4, i5⟩ := ih (n / 10) (by omega)
      have hrec : Lib.decDigits n = Lib.decDigits (n / 10) ++ [UInt8.ofNat (48 + n % 10)] := by rw [Lib.decDigits, dif_neg h]
      have e : (UInt8.ofNat (48 + n % 10)).toNat = 48 + n % 10 := by simp; omega
      have hh : (Lib.decDigits n).head? = (Lib.decDigits (n / 10)).head? := by
        rw [hrec]
        cases hd : Lib.decDigits (n / 10) with
        | nil => exact absurd hd i3
        | cons a l => rfl
      refine ⟨?_, ?_, ?_, ?_, ?_⟩
      · rw [hrec, foldD_snoc, i1, dv, e]; omega
      · rw [hrec]
        intro c hc
        rcases List.mem_append.1 hc with hc | hc
        · exact i2 c hc
        · simp only [List.mem_singleton] at hc
          subst hc
          rw [digit_iff, e]
          omega
      · rw [hrec]; simp
      · intro _; rw [hh]; exact i4 (by omega)
      · left; rw [hh]; exact i4 (by omega)

theorem numP_dec (S B : List UInt8) (n p : Nat) (hn : n < 18446744073709551616) (hB : noDig B) (h : S.drop p = Lib.decDigits n ++ B) : numP S (S.length + 1) false 0 p = (p + (Lib.decDigits n).length, n, false) := by
  obtain ⟨i1, i2, i3, i4, i5⟩ := decD_props n
  have hl := congrArg List.length h
  simp only [List.length_drop, List.length_append] at hl
  have := numP_run S B hB (Lib.decDigits n) (S.length + 1) 0 p false h i2 (by rw [i1]; exact hn) (fun x => by cases x) (fun _ => ⟨i3, rfl, i5⟩) (by omega)
  rwa [i1] at this

/-! The other way. -/
theorem numP_inv (S : List UInt8) : ∀ (f a p : Nat) (b : Bool) (q v : Nat), numP S f b a p = (q, v, false) → a < 18446744073709551616 →
    ∃ D, S.drop p = D ++ S.drop q ∧ q = p + D.length ∧ (∀ c ∈ D, digit c.toNat = true) ∧ v = foldD a D ∧ v < 18446744073709551616 ∧ (b = false → D ≠ []) ∧ (b = true → a = 0 → D = []) ∧ (b = false → a = 0 → D.head? ≠ some 48 ∨ D.length = 1)
  | 0, a, p, b, q, v, h, ha => by
    unfold numP at h
    simp only [Prod.mk.injEq, Bool.not_eq_false'] at h
    obtain ⟨rfl, rfl, rfl⟩ := h
    exact ⟨[], by simp, by simp, by simp, rfl, ha, by simp, by simp, by simp⟩
  | f + 1, a, p, b, q, v, h, ha => by
    unfold numP at h
    cases hc : S[p]? with
    | none =>
      rw [hc] at h
      simp only [Prod.mk.injEq, Bool.not_eq_false'] at h
      obtain ⟨rfl, rfl, rfl⟩ := h
      exact ⟨[], by simp, by simp, by simp, rfl, ha, by simp, by simp, by simp⟩
    | some c =>
      rw [hc] at h
      simp only at h
      by_cases hd : digit c.toNat = true
      · rw [if_pos hd] at h
        split at h
        · simp at h
        · rename_i hno
          simp only [Bool.or_eq_true, Bool.and_eq_true, beq_iff_eq, decide_eq_true_eq, not_or, not_and] at hno
          obtain ⟨h1, h2⟩ := hno
          have hdc := (digit_iff c).1 hd
          obtain ⟨D, e1, e2, e3, e4, e5, e6, e7, e8⟩ := numP_inv S f (10 * a + (c.toNat - 48)) (p + 1) true q v h (by omega)
          refine ⟨c :: D, ?_, by simp; omega, ?_, e4, e5, by simp, ?_, ?_⟩
          · rw [drop_get hc, e1]; rfl
          · intro x hx
            rcases List.mem_cons.1 hx with rfl | hx
            · exact hd
            · exact e3 x hx
          · intro hb h0
            exact absurd h0 (h1 hb)
          · intro hb h0
            subst h0
            by_cases h48 : c = 48
            · right
              subst h48
              rw [e7 rfl rfl]
              rfl
            · left
              simpa using h48
      · rw [if_neg hd] at h
        simp only [Prod.mk.injEq, Bool.not_eq_false'] at h
        obtain ⟨rfl, rfl, rfl⟩ := h
        exact ⟨[], by simp, by simp, by simp, rfl, ha, by simp, by simp, by simp⟩

theorem foldD_pos : ∀ (D : List UInt8), (∀ c ∈ D, digit c.toNat = true) → D ≠ [] → D.head? ≠ some 48 → 1 ≤ foldD 0 D
  | [], _, h, _ => absurd rfl h
  | c :: D, hd, _, h48 => by
    have := foldD_ge D (10 * 0 + dv c)
    have h1 : c ≠ 48 := by simpa using h48
    have h2 : c.toNat ≠ 48 := fun e => h1 (UInt8.toNat_inj.1 e)
    have h3 := (digit_iff c).1 (hd c (by simp))
    show 1 ≤ foldD (10 * 0 + dv c) D
    unfold dv at this ⊢
    omega

theorem decD_fold : ∀ (k : Nat) (D : List UInt8), D.length = k → (∀ c ∈ D, digit c.toNat = true) → D ≠ [] → (D.head? ≠ some 48 ∨ D.length = 1) → Lib.decDigits (foldD 0 D) = D := by
  intro k
  induction k with
  | zero => intro D hk _ hne _; exact absurd (List.eq_nil_of_length_eq_zero hk) hne
  | succ k ih =>
    intro D hk hd hne h48
    rcases List.eq_nil_or_concat D with h | ⟨D', c, rfl⟩
    · exact absurd h hne
    · rw [List.concat_eq_append] at *
      have hc := (digit_iff c).1 (hd c (by simp))
      have e48 : UInt8.ofNat (48 + dv c) = c := by
        have : 48 + dv c = c.toNat := by unfold dv; omega
        rw [this]; simp
      rw [foldD_snoc]
      by_cases h0 : D' = []
      · subst h0
        have : 10 * foldD 0 [] + dv c = dv c := by simp [foldD]
        rw [this, Lib.decDigits_one (by unfold dv; omega), e48]
        rfl
      · have hh : D'.head? ≠ some 48 := by
          rcases h48 with h | h
          · intro e
            apply h
            cases D' with
            | nil => exact absurd rfl h0
            | cons a l => simpa using e
          · simp at h; exact absurd h h0
        have hp := foldD_pos D' (fun x hx => hd x (by simp [hx])) h0 hh
        have := ih D' (by simp at hk; omega) (fun x hx => hd x (by simp [hx])) h0 (.inl hh)
        rw [Lib.decDigits, dif_neg (by omega), show (10 * foldD 0 D' + dv c) / 10 = foldD 0 D' by unfold dv; omega, this, show (10 * foldD 0 D' + dv c) % 10 = dv c by unfold dv; omega, e48]

theorem numP_back {S : List UInt8} {p q v : Nat} (h : numP S (S.length + 1) false 0 p = (q, v, false)) : S.drop p = Lib.decDigits v ++ S.drop q ∧ q = p + (Lib.decDigits v).length ∧ v < 18446744073709551616 := by
  obtain ⟨D, e1, e2, e3, e4, e5, e6, e7, e8⟩ := numP_inv S _ 0 p false q v h (by omega)
  have hD := decD_fold D.length D rfl e3 (e6 rfl) (e8 rfl rfl)
  rw [e4, hD, ← e4]
  exact ⟨e1, e2, e5⟩
theorem hexV_at : ∀ n : Fin 16, hexV (hexAt n.val) = some n.val := by decide
theorem hexV_inv {c : UInt8} {a : Nat} (h : hexV c = some a) : a < 16 ∧ hexAt a = c := by
  have all : ∀ c : Fin 256, ∀ a, hexV (UInt8.ofNat c.val) = some a → a < 16 ∧ hexAt a = UInt8.ofNat c.val := by
    intro c a h
    unfold hexV at h
    have hc : (UInt8.ofNat c.val).toNat = c.val := by simp
    rw [hc] at h
    have key : ∀ a : Fin 16, hexAt a.val = (if a.val < 10 then UInt8.ofNat (48 + a.val) else UInt8.ofNat (87 + a.val)) := by decide
    split at h
    · simp only [Option.some.injEq] at h
      have ha : a < 16 := by omega
      refine ⟨ha, ?_⟩
      rw [key ⟨a, ha⟩]
      simp only
      rw [if_pos (by omega), show 48 + a = c.val by omega]
    · split at h
      · simp only [Option.some.injEq] at h
        have ha : a < 16 := by omega
        refine ⟨ha, ?_⟩
        rw [key ⟨a, ha⟩]
        simp only
        rw [if_neg (by omega), show 87 + a = c.val by omega]
      · cases h
  have := all ⟨c.toNat, c.toNat_lt⟩ a (by simpa using h)
  simpa using this

theorem get_of_drop {S X B : List UInt8} {p j : Nat} {c : UInt8} (h : S.drop p = X ++ B) (hj : X[j]? = some c) : S[p + j]? = some c := by
  have := congrArg (fun l : List UInt8 => l[j]?) h
  simp only [List.getElem?_drop] at this
  rw [this, List.getElem?_append_left (List.getElem?_eq_some_iff.1 hj).1, hj]

theorem drop_more {S X B : List UInt8} {p : Nat} (h : S.drop p = X ++ B) : S.drop (p + X.length) = B := by
  rw [← List.drop_drop, h, List.drop_left]

theorem plain_ne {c : UInt8} (h1 : c ≠ 34) (h2 : c ≠ 92) : plainR c.toNat = plainB c.toNat := by
  have e1 : c.toNat ≠ 34 := fun e => h1 (UInt8.toNat_inj.1 e)
  have e2 : c.toNat ≠ 92 := fun e => h2 (UInt8.toNat_inj.1 e)
  unfold plainR plainB
  congr 1
  apply propext
  constructor
  · rintro ⟨a, b, _⟩; exact ⟨a, b⟩
  · rintro ⟨a, b⟩; exact ⟨a, b, by omega, by omega⟩

theorem txtP_run (S B : List UInt8) : ∀ (t : List UInt8) (f p : Nat), S.drop p = t.flatMap lett ++ 34 :: B → t.length < f → txtP S f p = (p + (t.flatMap lett).length + 1, t, false)
  | [], f + 1, p, h, _ => by
    obtain ⟨hc, _⟩ := drop_at (D := B) (by simpa using h)
    unfold txtP
    rw [hc]
    simp
  | c :: t, f + 1, p, h, hf => by
    rw [List.flatMap_cons, List.append_assoc] at h
    have hr := drop_more h
    have ih := txtP_run S B t f _ hr (by simp at hf; omega)
    have hlen : (p + ((c :: t).flatMap lett).length + 1) = p + (lett c).length + (t.flatMap lett).length + 1 := by simp; omega
    rw [hlen]
    have hx : ∀ j x, (lett c)[j]? = some x → S[p + j]? = some x := fun j x hj => get_of_drop h hj
    by_cases hp : plainB c.toNat = false
    · have hl : lett c = [92, 120, hexAt (c.toNat / 16), hexAt (c.toNat % 16)] := by unfold lett; rw [if_pos hp]
      rw [hl] at hx ih ⊢
      have x0 := hx 0 _ rfl
      have x1 := hx 1 _ rfl
      have x2 := hx 2 _ rfl
      have x3 := hx 3 _ rfl
      have hc := c.toNat_lt
      have he : escP S p = (p + 4, c, false) := by
        have h1 : hexV (hexAt (c.toNat / 16)) = some (c.toNat / 16) := hexV_at ⟨c.toNat / 16, by omega⟩
        have h2 : hexV (hexAt (c.toNat % 16)) = some (c.toNat % 16) := hexV_at ⟨c.toNat % 16, by omega⟩
        unfold escP
        rw [x1, x2, x3]
        simp only [Option.bind_some, h1, h2]
        rw [if_neg (by decide), if_pos trivial, show 16 * (c.toNat / 16) + c.toNat % 16 = c.toNat by omega, if_neg (by rw [hp]; simp)]
        simp
      unfold txtP
      rw [show S[p]? = some 92 from x0]
      simp only [he]
      rw [if_neg (by decide), if_pos trivial, if_neg (by simp)]
      simp only [List.length_cons, List.length_nil] at ih ⊢
      rw [ih]
    · have hp' : plainB c.toNat = true := by simpa using hp
      by_cases h34 : c = 34 ∨ c = 92
      · have hl : lett c = [92, c] := by unfold lett; rw [if_neg hp, if_pos h34]
        rw [hl] at hx ih ⊢
        have x0 := hx 0 _ rfl
        have x1 := hx 1 _ rfl
        have he : escP S p = (p + 2, c, false) := by
          unfold escP
          rw [x1]
          simp only
          rw [if_pos h34]
        unfold txtP
        rw [show S[p]? = some 92 from x0]
        simp only [he]
        rw [if_neg (by decide), if_pos trivial, if_neg (by simp)]
        simp only [List.length_cons, List.length_nil] at ih ⊢
        rw [ih]
      · have hl : lett c = [c] := by unfold lett; rw [if_neg hp, if_neg h34]
        rw [hl] at hx ih ⊢
        have x0 := hx 0 _ rfl
        have h1 : c ≠ 34 := fun e => h34 (.inl e)
        have h2 : c ≠ 92 := fun e => h34 (.inr e)
        unfold txtP
        rw [show S[p]? = some c from x0]
        simp only
        rw [if_neg h1, if_neg h2, if_pos hp']
        simp only [List.length_cons, List.length_nil] at ih ⊢
        rw [ih]

theorem escP_inv {S : List UInt8} {p q : Nat} {v : UInt8} (h0 : S[p]? = some 92) (h : escP S p = (q, v, false)) : S.drop p = lett v ++ S.drop q ∧ q = p + (lett v).length := by
  have d0 := drop_get h0
  unfold escP at h
  cases h1 : S[p + 1]? with
  | none => rw [h1] at h; simp at h
  | some c =>
    rw [h1] at h
    have d1 := drop_get h1
    simp only at h
    split at h
    · rename_i h34
      simp only [Prod.mk.injEq, and_true] at h
      obtain ⟨rfl, rfl⟩ := h
      have hp : plainB c.toNat = true := by rcases h34 with rfl | rfl <;> decide
      have hl : lett c = [92, c] := by unfold lett; rw [if_neg (by rw [hp]; simp), if_pos h34]
      rw [hl, d0, d1]
      exact ⟨rfl, rfl⟩
    · split at h
      · rename_i h120
        subst h120
        cases h2 : (S[p + 2]?).bind hexV with
        | none => rw [h2] at h; simp at h
        | some a =>
          rw [h2] at h
          simp only at h
          cases h3 : (S[p + 3]?).bind hexV with
          | none => rw [h3] at h; simp at h
          | some b =>
            rw [h3] at h
            simp only at h
            split at h
            · simp at h
            · rename_i hp
              simp only [Prod.mk.injEq, and_true] at h
              obtain ⟨rfl, rfl⟩ := h
              obtain ⟨c2, e2, g2⟩ := Option.bind_eq_some_iff.1 h2
              obtain ⟨c3, e3, g3⟩ := Option.bind_eq_some_iff.1 h3
              obtain ⟨a16, ha⟩ := hexV_inv g2
              obtain ⟨b16, hb⟩ := hexV_inv g3
              have et : (UInt8.ofNat (16 * a + b)).toNat = 16 * a + b := by simp; omega
              have hl : lett (UInt8.ofNat (16 * a + b)) = [92, 120, c2, c3] := by
                unfold lett
                rw [et, if_pos (by simpa using hp), show (16 * a + b) / 16 = a by omega, show (16 * a + b) % 16 = b by omega, ha, hb]
              rw [hl, d0, d1, drop_get e2, drop_get e3]
              exact ⟨rfl, rfl⟩
      · simp at h

theorem txtP_inv (S : List UInt8) : ∀ (f p q : Nat) (t : List UInt8), txtP S f p = (q, t, false) → S.drop p = t.flatMap lett ++ 34 :: S.drop q ∧ q = p + (t.flatMap lett).length + 1
  | 0, p, q, t, h => by simp [txtP] at h
  | f + 1, p, q, t, h => by
    unfold txtP at h
    cases hc : S[p]? with
    | none => rw [hc] at h; simp at h
    | some c =>
      rw [hc] at h
      simp only at h
      by_cases h34 : c = 34
      · subst h34
        rw [if_pos rfl] at h
        simp only [Prod.mk.injEq, and_true] at h
        obtain ⟨rfl, rfl⟩ := h
        rw [drop_get hc]
        exact ⟨rfl, rfl⟩
      · rw [if_neg h34] at h
        by_cases h92 : c = 92
        · subst h92
          rw [if_pos rfl] at h
          obtain ⟨ep, ev, eb⟩ : Nat × UInt8 × Bool := escP S p
          rcases he : escP S p with ⟨ep, ev, eb⟩
          rw [he] at h
          simp only at h
          split at h
          · simp at h
          · rename_i hb
            have hb' : eb = false := by simpa using hb
            subst hb'
            rcases ht : txtP S f ep with ⟨tq, tt, tb⟩
            rw [ht] at h
            simp only [Prod.mk.injEq] at h
            obtain ⟨rfl, rfl, rfl⟩ := h
            obtain ⟨i1, i2⟩ := txtP_inv S f ep tq tt ht
            obtain ⟨j1, j2⟩ := escP_inv hc he
            rw [j1, i1]
            simp only [List.flatMap_cons, List.append_assoc, List.length_append]
            exact ⟨trivial, by omega⟩
        · rw [if_neg h92] at h
          split at h
          · rename_i hp
            rcases ht : txtP S f (p + 1) with ⟨tq, tt, tb⟩
            rw [ht] at h
            simp only [Prod.mk.injEq] at h
            obtain ⟨rfl, rfl, rfl⟩ := h
            obtain ⟨i1, i2⟩ := txtP_inv S f (p + 1) tq tt ht
            have hl : lett c = [c] := by unfold lett; rw [if_neg (by rw [hp]; simp), if_neg (by rintro (e | e); exact h34 e; exact h92 e)]
            rw [drop_get hc, i1]
            simp only [List.flatMap_cons, hl, List.length_append, List.length_singleton]
            exact ⟨rfl, by omega⟩
          · simp at h
/-! Places stay within the text. -/
theorem get_lt {S : List UInt8} {p : Nat} {c : UInt8} (h : S[p]? = some c) : p < S.length := (List.getElem?_eq_some_iff.1 h).1
theorem tk_pos (S : List UInt8) (c : UInt8) (r : RS) (h : r.pos ≤ S.length) : (tk S c r).pos ≤ S.length := by
  unfold tk
  split
  · exact h
  · split
    · rename_i e; have := get_lt e; simp; omega
    · exact h
theorem tks_pos (S : List UInt8) : ∀ (cs : List UInt8) (r : RS), r.pos ≤ S.length → (tks S cs r).pos ≤ S.length
  | [], r, h => h
  | c :: cs, r, h => tks_pos S cs (tk S c r) (tk_pos S c r h)
theorem numP_pos (S : List UInt8) : ∀ (f : Nat) (b : Bool) (n p : Nat), p ≤ S.length → (numP S f b n p).1 ≤ S.length
  | 0, b, n, p, h => h
  | f + 1, b, n, p, h => by
    unfold numP
    cases hc : S[p]? with
    | none => exact h
    | some c =>
      have := get_lt hc
      simp only
      split
      · split
        · exact h
        · exact numP_pos S f _ _ _ (by omega)
      · exact h
theorem numP_lt (S : List UInt8) : ∀ (f : Nat) (b : Bool) (n p : Nat), n < 18446744073709551616 → (numP S f b n p).2.1 < 18446744073709551616
  | 0, b, n, p, h => h
  | f + 1, b, n, p, h => by
    unfold numP
    cases hc : S[p]? with
    | none => exact h
    | some c =>
      simp only
      split
      · rename_i hd
        have := (digit_iff c).1 hd
        split
        · simp
        · rename_i hno
          simp only [Bool.or_eq_true, decide_eq_true_eq, not_or] at hno
          exact numP_lt S f _ _ _ (by omega)
      · exact h
theorem nmR_pos (S : List UInt8) (r : RS) (h : r.pos ≤ S.length) : (nmR S r).1.pos ≤ S.length := by
  unfold nmR
  split
  · exact h
  · exact numP_pos S _ _ _ _ h
theorem nmR_lt (S : List UInt8) (r : RS) : (nmR S r).2 < 18446744073709551616 := by
  unfold nmR
  split
  · simp
  · exact numP_lt S _ _ _ _ (by omega)
theorem wdT_drop (S : List UInt8) (p : Nat) : S.drop p = wdT S p ++ S.drop (p + (wdT S p).length) := by
  have h : S.drop p = wdT S p ++ (S.drop p).dropWhile (fun c => letter c.toNat) := List.takeWhile_append_dropWhile.symm
  have := drop_more h
  rw [this]; exact h
theorem wdT_pos (S : List UInt8) (p : Nat) (h : p ≤ S.length) : p + (wdT S p).length ≤ S.length := by
  have := congrArg List.length (wdT_drop S p)
  simp only [List.length_append, List.length_drop] at this
  omega
theorem wdR_pos (S : List UInt8) (r : RS) (h : r.pos ≤ S.length) : (wdR S r).pos ≤ S.length := by
  unfold wdR
  split
  · exact h
  · split
    · exact wdT_pos S _ h
    · exact h
theorem escP_pos {S : List UInt8} {p : Nat} (h0 : p < S.length) : (escP S p).1 ≤ S.length := by
  unfold escP
  cases h1 : S[p + 1]? with
  | none => exact h0
  | some c =>
    have := get_lt h1
    simp only
    split
    · exact this
    · split
      · cases h2 : (S[p + 2]?).bind hexV with
        | none => exact this
        | some a =>
          obtain ⟨c2, e2, _⟩ := Option.bind_eq_some_iff.1 h2
          have := get_lt e2
          simp only
          cases h3 : (S[p + 3]?).bind hexV with
          | none => exact this
          | some b =>
            obtain ⟨c3, e3, _⟩ := Option.bind_eq_some_iff.1 h3
            have := get_lt e3
            simp only
            split
            · simp; omega
            · exact this
      · exact h0
theorem escP_gt {S : List UInt8} {p : Nat} (h : (escP S p).2.2 = false) : p < (escP S p).1 := by
  unfold escP at h ⊢
  cases h1 : S[p + 1]? with
  | none => simp
  | some c =>
    rw [h1] at h
    simp only at h ⊢
    split
    · simp
    · split
      · rename_i e1 e2
        rw [if_neg e1, if_pos e2] at h
        cases h2 : (S[p + 2]?).bind hexV with
        | none => simp
        | some a =>
          rw [h2] at h
          simp only at h ⊢
          cases h3 : (S[p + 3]?).bind hexV with
          | none => simp
          | some b =>
            rw [h3] at h
            simp only at h ⊢
            split
            · rename_i e3
              rw [if_pos e3] at h
              simp at h
            · simp
      · simp
theorem txtP_pos (S : List UInt8) : ∀ (f p : Nat), p ≤ S.length → (txtP S f p).1 ≤ S.length
  | 0, p, h => h
  | f + 1, p, h => by
    unfold txtP
    cases hc : S[p]? with
    | none => exact h
    | some c =>
      have hlt := get_lt hc
      simp only
      split
      · exact hlt
      · split
        · split
          · exact escP_pos hlt
          · exact txtP_pos S f _ (escP_pos hlt)
        · split
          · exact txtP_pos S f _ hlt
          · exact h
theorem keyR_pos (S : List UInt8) (ps : List PairD) (r : RS) (h : r.pos ≤ S.length) : (keyR S ps r).pos ≤ S.length := by
  unfold keyR
  split
  · exact h
  · split
    · exact tk_pos S _ _ (wdT_pos S _ h)
    · exact h
theorem valR_pos (S : List UInt8) (k : ByteArray) (r : RS) (h : r.pos ≤ S.length) : (valR S k r).1.pos ≤ S.length := by
  unfold valR
  split
  · exact h
  · split
    · rename_i e
      exact txtP_pos S _ _ (get_lt e)
    · exact nmR_pos S r h
theorem pairR_pos (S : List UInt8) (ps : List PairD) (r : RS) (h : r.pos ≤ S.length) : (pairR S ps r).1.pos ≤ S.length := valR_pos S _ _ (keyR_pos S ps r h)
theorem pairsP_pos (S : List UInt8) : ∀ (f : Nat) (r : RS) (ps : List PairD), r.pos ≤ S.length → (pairsP S f r ps).1.pos ≤ S.length
  | 0, r, ps, h => h
  | f + 1, r, ps, h => by
    unfold pairsP
    split
    · exact h
    · exact pairsP_pos S f _ _ (pairR_pos S ps _ (tk_pos S _ _ h))
theorem allR_pos (S : List UInt8) : (allR S).1.pos ≤ S.length := pairsP_pos S _ _ _ (wdR_pos S _ (tks_pos S _ _ (nmR_pos S _ (tks_pos S _ _ (Nat.zero_le _)))))
theorem pAt_le (s : ByteArray) : pAt s ≤ s.size := by
  unfold pAt
  split
  · split
    · exact allR_pos s.data.toList
    · exact Nat.zero_le _
  · exact Nat.zero_le _

/-! Once wrong, always so. -/
theorem tk_bad {S : List UInt8} {c : UInt8} {r : RS} (h : r.bad = true) : tk S c r = r := by unfold tk; rw [if_pos h]
theorem tks_bad {S : List UInt8} : ∀ {cs : List UInt8} {r : RS}, r.bad = true → tks S cs r = r
  | [], r, h => rfl
  | c :: cs, r, h => by show tks S cs (tk S c r) = r; rw [tk_bad h]; exact tks_bad h
theorem nmR_bad {S : List UInt8} {r : RS} (h : r.bad = true) : nmR S r = (r, 0) := by unfold nmR; rw [if_pos h]
theorem wdR_bad {S : List UInt8} {r : RS} (h : r.bad = true) : wdR S r = r := by unfold wdR; rw [if_pos h]
theorem keyR_bad {S : List UInt8} {ps : List PairD} {r : RS} (h : r.bad = true) : keyR S ps r = r := by unfold keyR; rw [if_pos h]
theorem valR_bad {S : List UInt8} {k : ByteArray} {r : RS} (h : r.bad = true) : (valR S k r).1 = r := by unfold valR; rw [if_pos h]
theorem pairR_bad {S : List UInt8} {ps : List PairD} {r : RS} (h : r.bad = true) : (pairR S ps r).1 = r := by
  unfold pairR; rw [valR_bad (by rw [keyR_bad h]; exact h), keyR_bad h]
theorem pairsP_bad {S : List UInt8} : ∀ {f : Nat} {r : RS} {ps : List PairD}, r.bad = true → pairsP S f r ps = (r, ps)
  | 0, r, ps, h => rfl
  | f + 1, r, ps, h => by unfold pairsP; rw [if_pos (.inl h)]
end Go.Proofs.YtlhcadfcgibkdaaDoor
