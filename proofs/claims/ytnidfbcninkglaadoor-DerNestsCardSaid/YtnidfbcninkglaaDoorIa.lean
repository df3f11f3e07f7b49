/-
  The items that bytes are, one behind the other, plainly.
-/
import Derived.Test.YtnidfbcninkglaaDoorNy
namespace Go.Proofs.YtnidfbcninkglaaDoor
open Go.RowKit
set_option linter.unusedVariables false
set_option maxRecDepth 100000

/-- An item, plainly: its tag, its body, where it begins, how long it is in all. -/
structure PI where
  t : Int
  ys : List Int
  k : Nat
  l : Nat

/-- The item at a place, if there is one. -/
def nxI (xs : List Int) (k : Nat) : Option PI :=
  match xs.drop k with
  | [] => none
  | t :: r => if (itemL (t :: r)).1 = 0 then some ⟨t, (r.drop (lenL r).2.1).take (lenL r).2.2, k, 1 + (lenL r).2.1 + (lenL r).2.2⟩ else none

theorem nxI_some {xs : List Int} {k : Nat} {x : PI} (h : nxI xs k = some x) : ∃ t r, xs.drop k = t :: r ∧ (itemL (t :: r)).1 = 0 ∧ x = ⟨t, (r.drop (lenL r).2.1).take (lenL r).2.2, k, 1 + (lenL r).2.1 + (lenL r).2.2⟩ := by
  unfold nxI at h
  cases hd : xs.drop k with
  | nil => rw [hd] at h; cases h
  | cons t r =>
    rw [hd] at h
    dsimp only at h
    by_cases he : (itemL (t :: r)).1 = 0
    · rw [if_pos he] at h
      exact ⟨t, r, rfl, he, (Option.some.inj h).symm⟩
    · rw [if_neg he] at h; cases h

theorem drop_lt {xs : List Int} {k : Nat} {t : Int} {r : List Int} (h : xs.drop k = t :: r) : k < xs.length ∧ xs.length = k + 1 + r.length := by
  have := congrArg List.length h
  simp at this
  omega

theorem nxI_len {xs : List Int} (hb : Byt xs) {k : Nat} {x : PI} (h : nxI xs k = some x) : k < xs.length ∧ 2 ≤ x.l ∧ k + x.l ≤ xs.length ∧ x.k = k ∧ x.ys.length < x.l ∧ Byt x.ys ∧ 0 ≤ x.t ∧ x.t < 256 := by
  obtain ⟨t, r, hd, he, rfl⟩ := nxI_some h
  obtain ⟨h1, h2⟩ := drop_lt hd
  have hbt : Byt (t :: r) := by rw [← hd]; exact hb.drop k
  obtain ⟨-, -, g3, g4, -, g6⟩ := itemL_ok hbt.tail he
  obtain ⟨-, -, -, g7, -⟩ := lenL_ok hbt.tail g3
  exact ⟨h1, by dsimp only; omega, by dsimp only; omega, rfl, by dsimp only; rw [g6]; omega, (hbt.tail.drop _).take _, hbt.head⟩

theorem nxI_none {xs : List Int} {k : Nat} (h : nxI xs k = none) : xs.length ≤ k ∨ nxE xs k ≠ 0 := by
  by_cases hk : k < xs.length
  · right
    unfold nxE
    rw [if_neg (by omega), Int.toNat_natCast]
    unfold nxI at h
    cases hd : xs.drop k with
    | nil => simp at hd; omega
    | cons t r =>
      rw [hd] at h
      dsimp only at h
      intro he
      rw [if_pos he] at h
      cases h
  · left; omega

theorem nxI_of {xs : List Int} {k : Nat} (hk : k < xs.length) (he : nxE xs k = 0) : ∃ x, nxI xs k = some x := by
  cases h : nxI xs k with
  | some x => exact ⟨x, rfl⟩
  | none =>
    rcases nxI_none h with h | h
    · omega
    · exact absurd he h

theorem nxI_err {xs : List Int} {k : Nat} (he : nxE xs k ≠ 0) : nxI xs k = none := by
  cases h : nxI xs k with
  | none => rfl
  | some x =>
    exfalso
    obtain ⟨t, r, hd, h0, rfl⟩ := nxI_some h
    obtain ⟨h1, h2⟩ := drop_lt hd
    apply he
    unfold nxE
    rw [if_neg (by omega), Int.toNat_natCast, hd, h0]

theorem nxI_end {xs : List Int} {k : Nat} (h : xs.length ≤ k) : nxI xs k = none := by
  unfold nxI
  rw [List.drop_of_length_le h]

/-- Items that follow each other from a place to a place. -/
def Its (xs : List Int) : Nat → List PI → Nat → Prop
  | k, [], j => k = j
  | k, x :: r, j => nxI xs k = some x ∧ Its xs (k + x.l) r j

theorem Its.snoc {xs : List Int} : ∀ {k : Nat} {p : List PI} {j : Nat} {x : PI}, Its xs k p j → nxI xs j = some x → Its xs k (p ++ [x]) (j + x.l)
  | k, [], j, x, h, hx => by
    have h' : k = j := h
    subst h'
    exact ⟨hx, rfl⟩
  | k, y :: r, j, x, h, hx => ⟨h.1, Its.snoc h.2 hx⟩

/-- Where they end, what they are, is told by the bytes alone. -/
theorem Its.unique {xs : List Int} : ∀ {k : Nat} {p q : List PI} {i j : Nat}, Its xs k p i → nxI xs i = none → Its xs k q j → nxI xs j = none → p = q ∧ i = j
  | k, [], [], i, j, h, _, g, _ => by
    have h' : k = i := h
    have g' : k = j := g
    exact ⟨rfl, by omega⟩
  | k, [], y :: r, i, j, h, hi, g, _ => by
    have h' : k = i := h
    subst h'
    rw [g.1] at hi
    cases hi
  | k, x :: r, [], i, j, h, _, g, hj => by
    have g' : k = j := g
    subst g'
    rw [h.1] at hj
    cases hj
  | k, x :: r, y :: s, i, j, h, hi, g, hj => by
    have e : x = y := Option.some.inj (h.1.symm.trans g.1)
    subst e
    obtain ⟨e1, e2⟩ := Its.unique h.2 hi g.2 hj
    exact ⟨by rw [e1], e2⟩

theorem Its.len {xs : List Int} (hb : Byt xs) : ∀ {k : Nat} {p : List PI} {j : Nat}, Its xs k p j → k ≤ xs.length → k + 2 * p.length ≤ j ∧ j ≤ xs.length
  | k, [], j, h, hk => by
    have h' : k = j := h
    subst h'
    exact ⟨by simp, hk⟩
  | k, x :: r, j, h, hk => by
    obtain ⟨h1, h2, h3, -⟩ := nxI_len hb h.1
    obtain ⟨g1, g2⟩ := Its.len hb h.2 h3
    exact ⟨by simp; omega, g2⟩

theorem Its.all {xs : List Int} (hb : Byt xs) : ∀ {k : Nat} {p : List PI} {j : Nat}, Its xs k p j → ∀ x ∈ p, Byt x.ys ∧ 0 ≤ x.t ∧ x.t < 256 ∧ x.l ≤ xs.length ∧ x.k ≤ xs.length
  | k, [], j, h => fun x hx => by cases hx
  | k, y :: r, j, h => fun x hx => by
    obtain ⟨h1, h2, h3, h4, h5, h6, h7, h8⟩ := nxI_len hb h.1
    rcases List.mem_cons.1 hx with rfl | hx
    · exact ⟨h6, h7, h8, by omega, by omega⟩
    · exact Its.all hb h.2 x hx
end Go.Proofs.YtnidfbcninkglaaDoor
