/-
  Texts of numbers with points between, plainly: what the program takes, what the document takes.
-/
import Derived.Test.YtnidfbcninkglaaDoorWd
import Derived.Test.YtnidfbcninkglaaDoorWe
namespace Go.Proofs.YtnidfbcninkglaaDoor
set_option linter.unusedVariables false
set_option maxRecDepth 100000

/-- The parts between points. -/
def spD : List UInt8 → List (List UInt8)
  | [] => [[]]
  | b :: r => if b = 46 then [] :: spD r else (b :: (spD r).headD []) :: (spD r).tail
/-- Parts, joined by points. -/
def jnD : List (List UInt8) → List UInt8
  | [] => []
  | [p] => p
  | p :: q :: r => p ++ 46 :: jnD (q :: r)
theorem spD_ne : ∀ l, spD l ≠ []
  | [] => by simp [spD]
  | b :: r => by unfold spD; split <;> simp
theorem spD_cons (l : List UInt8) : spD l = (spD l).headD [] :: (spD l).tail := by
  cases h : spD l with
  | nil => exact absurd h (spD_ne l)
  | cons a b => rfl
theorem spD_app : ∀ (p r : List UInt8), (∀ b ∈ p, b ≠ 46) → spD (p ++ r) = (p ++ (spD r).headD []) :: (spD r).tail
  | [], r, h => spD_cons r
  | b :: p, r, h => by
    have hb := h b List.mem_cons_self
    have ih := spD_app p r (fun x hx => h x (List.mem_cons_of_mem _ hx))
    rw [List.cons_append, spD, if_neg hb, ih]
    rfl
theorem spD_dot (r : List UInt8) : spD (46 :: r) = [] :: spD r := by rw [spD]; simp
theorem spD_app_dot (p r : List UInt8) (h : ∀ b ∈ p, b ≠ 46) : spD (p ++ 46 :: r) = p :: spD r := by
  rw [spD_app p _ h, spD_dot]
  simp
theorem spD_end (p : List UInt8) (h : ∀ b ∈ p, b ≠ 46) : spD p = [p] := by
  have := spD_app p [] h
  simpa [spD] using this
theorem spD_jn : ∀ (l : List (List UInt8)), l ≠ [] → (∀ p ∈ l, ∀ b ∈ p, b ≠ 46) → spD (jnD l) = l
  | [], h, _ => absurd rfl h
  | [p], _, h => spD_end p (h p List.mem_cons_self)
  | p :: q :: r, _, h => by
    rw [jnD, spD_app_dot p _ (h p List.mem_cons_self), spD_jn (q :: r) (by simp) (fun x hx => h x (List.mem_cons_of_mem _ hx))]
theorem jnD_cons (b : UInt8) (p : List UInt8) (r : List (List UInt8)) : jnD ((b :: p) :: r) = b :: jnD (p :: r) := by
  cases r <;> rfl
theorem jn_spD : ∀ (l : List UInt8), jnD (spD l) = l
  | [] => rfl
  | b :: r => by
    have ih := jn_spD r
    unfold spD
    split
    · rename_i hb
      subst hb
      rw [spD_cons r, jnD, List.nil_append, ← spD_cons r, ih]
    · rw [jnD_cons, ← spD_cons r, ih]

/-- A part as the program takes it: digits, below 2^32. -/
def prP (p : List UInt8) : Option Int := if p ≠ [] ∧ p.all isDg = true ∧ valD p < 4294967296 then some (valD p : Int) else none
/-- A part as the document takes it: no nought ahead, ten digits at most. -/
def prD (p : List UInt8) : Option Int := if canD p = true ∧ p.length ≤ 10 then some (valD p : Int) else none
/-- The numbers of a body, of those of a text. -/
def folds : List Int → Option (List Int)
  | a :: b :: r => some ((40 * a + b) :: r)
  | _ => none
/-- What the program writes. -/
def poP (s : List UInt8) : List Int :=
  match (if (spD s).length ≤ 17 then (spD s).mapM prP else none) with
  | none => []
  | some q => match folds q with
    | none => []
    | some l => if oidL (sevAll l) = some l ∧ oidT l = s then encL 6 (sevAll l) else []
/-- What the document asks of a text's numbers. -/
def okD : List Int → Bool
  | a :: b :: r => decide (a ≤ 2) && (decide (2 ≤ a) || decide (b < 40)) && decide (40 * a + b < 4294967296) && r.all (fun x => decide (x < 4294967296)) && decide (r.length ≤ 15)
  | _ => false
def poD (s : List UInt8) : List Int :=
  match (spD s).mapM prD with
  | none => []
  | some q => match folds q with
    | none => []
    | some l => if okD q = true then encL 6 (sevAll l) else []
end Go.Proofs.YtnidfbcninkglaaDoor
