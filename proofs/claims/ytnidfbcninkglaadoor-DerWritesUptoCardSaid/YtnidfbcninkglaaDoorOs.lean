/-
  Numbers by seven bits a byte, plainly.
-/
import Derived.Test.YtnidfbcninkglaaDoorPl
namespace Go.Proofs.YtnidfbcninkglaaDoor
set_option linter.unusedVariables false
set_option maxRecDepth 100000

/-- What is left, the number so far, within one, the numbers so far. -/
def sevL : List Int → Int → Bool → List Int → Option (List Int)
  | [], _, wi, acc => if wi then none else some acc
  | c :: r, n, wi, acc =>
    if wi = false ∧ c = 128 then none
    else if 4294967296 ≤ 128 * n + c % 128 then none
    else if 128 ≤ c then sevL r (128 * n + c % 128) true acc
    else sevL r 0 false (acc ++ [128 * n + c % 128])
theorem sevL_nil (n : Int) (wi : Bool) (acc : List Int) : sevL [] n wi acc = if wi then none else some acc := rfl
theorem sevL_cons (c : Int) (r : List Int) (n : Int) (wi : Bool) (acc : List Int) : sevL (c :: r) n wi acc = if wi = false ∧ c = 128 then none
    else if 4294967296 ≤ 128 * n + c % 128 then none
    else if 128 ≤ c then sevL r (128 * n + c % 128) true acc
    else sevL r 0 false (acc ++ [128 * n + c % 128]) := rfl

theorem sevL_more (r : List Int) : ∀ (n : Int) (wi : Bool) (acc l : List Int), sevL r n wi acc = some l → acc.length + (if r = [] then 0 else 1) ≤ l.length := by
  induction r with
  | nil =>
    intro n wi acc l h
    rw [sevL_nil] at h
    cases wi
    · simp at h; rw [h]; simp
    · simp at h
  | cons c r ih =>
    intro n wi acc l h
    rw [sevL_cons] at h
    by_cases h1 : wi = false ∧ c = 128
    · rw [if_pos h1] at h; cases h
    · rw [if_neg h1] at h
      by_cases h2 : 4294967296 ≤ 128 * n + c % 128
      · rw [if_pos h2] at h; cases h
      · rw [if_neg h2] at h
        by_cases h3 : 128 ≤ c
        · rw [if_pos h3] at h
          have := ih _ _ _ _ h
          by_cases hr : r = []
          · subst hr
            rw [sevL_nil] at h
            cases h
          · simp [hr] at this ⊢
            exact this
        · rw [if_neg h3] at h
          have := ih _ _ _ _ h
          simp at this ⊢
          omega

def oidC : Option (List Int) → Option (List Int)
  | none => none
  | some l => if 1 ≤ l.length ∧ l.length ≤ 16 then some l else none
def oidL (xs : List Int) : Option (List Int) := oidC (sevL xs 0 false [])
theorem oidL_of {xs : List Int} {R : Option (List Int)} (h : sevL xs 0 false [] = R) : oidL xs = oidC R := by unfold oidL; rw [h]
theorem oidL_none {xs : List Int} (h : sevL xs 0 false [] = none) : oidL xs = none := oidL_of h
theorem oidL_long {xs : List Int} (h : ∀ l, sevL xs 0 false [] = some l → 16 < l.length) : oidL xs = none := by
  obtain ⟨R, hR⟩ : ∃ R, sevL xs 0 false [] = R := ⟨_, rfl⟩
  rw [oidL_of hR]
  cases R with
  | none => rfl
  | some l =>
    have := h l hR
    show (if _ then _ else _) = _
    rw [if_neg (by omega)]

/-- Each number is below 2^32. -/
theorem sevL_lt (r : List Int) : ∀ (n : Int) (wi : Bool) (acc l : List Int), 0 ≤ n → (∀ x ∈ r, 0 ≤ x) → (∀ x ∈ acc, 0 ≤ x ∧ x < 4294967296) → sevL r n wi acc = some l → ∀ x ∈ l, 0 ≤ x ∧ x < 4294967296 := by
  induction r with
  | nil =>
    intro n wi acc l hn hr ha h
    rw [sevL_nil] at h
    cases wi
    · simp at h; rw [← h]; exact ha
    · simp at h
  | cons c r ih =>
    intro n wi acc l hn hr ha h
    rw [sevL_cons] at h
    by_cases h1 : wi = false ∧ c = 128
    · rw [if_pos h1] at h; cases h
    · rw [if_neg h1] at h
      by_cases h2 : 4294967296 ≤ 128 * n + c % 128
      · rw [if_pos h2] at h; cases h
      · rw [if_neg h2] at h
        by_cases h3 : 128 ≤ c
        · rw [if_pos h3] at h
          exact ih _ _ _ _ (by omega) (fun x hx => hr x (by simp [hx])) ha h
        · rw [if_neg h3] at h
          refine ih _ _ _ _ (by omega) (fun x hx => hr x (by simp [hx])) ?_ h
          intro x hx
          simp at hx
          rcases hx with hx | hx
          · exact ha x hx
          · omega
theorem oidL_lt {xs l : List Int} (hb : Byt xs) (h : oidL xs = some l) : (∀ x ∈ l, 0 ≤ x ∧ x < 4294967296) ∧ 1 ≤ l.length ∧ l.length ≤ 16 := by
  obtain ⟨R, hR⟩ : ∃ R, sevL xs 0 false [] = R := ⟨_, rfl⟩
  rw [oidL_of hR] at h
  cases R with
  | none => cases h
  | some l' =>
    change (if _ then _ else _) = _ at h
    split at h
    · rename_i hc
      injection h with h
      subst h
      exact ⟨sevL_lt xs 0 false [] _ (by omega) (fun x hx => (hb x hx).1) (fun x hx => by cases hx) hR, hc⟩
    · cases h
end Go.Proofs.YtnidfbcninkglaaDoor
