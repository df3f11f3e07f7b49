/-
  The document's way over a text of numbers, plainly.
-/
import Derived.Test.YtnidfbcninkglaaDoorWh
namespace Go.Proofs.YtnidfbcninkglaaDoor
set_option linter.unusedVariables false
set_option maxRecDepth 100000

structure OD (s : List UInt8) (p : Nat) (q : List Int) : Prop where
  al : p ≤ s.length + 1
  ex : ∃ d, d.mapM prD = some q ∧ (p ≤ s.length → spD s = d ++ spD (s.drop p)) ∧ (p = s.length + 1 → spD s = d)
theorem OD.start (s : List UInt8) : OD s 0 [] := ⟨by omega, [], rfl, fun _ => by simp, fun h => by omega⟩
theorem mapM_app (f : List UInt8 → Option Int) : ∀ (a b : List (List UInt8)) (q : List Int), a.mapM f = some q → (a ++ b).mapM f = (b.mapM f).map (q ++ ·)
  | [], b, q, h => by
    have : q = [] := by simpa using h.symm
    subst this
    cases h2 : b.mapM f <;> simp [h2]
  | x :: a, b, q, h => by
    rw [List.mapM_cons] at h
    cases hf : f x with
    | none => rw [hf] at h; cases h
    | some y =>
      rw [hf] at h
      cases hm : a.mapM f with
      | none => rw [hm] at h; cases h
      | some t =>
        rw [hm] at h
        obtain rfl : q = y :: t := (Option.some.inj h).symm
        have ih := mapM_app f a b t hm
        rw [List.cons_append, List.mapM_cons, hf, ih]
        cases b.mapM f <;> rfl
theorem mapM_bad (f : List UInt8 → Option Int) {x : List UInt8} (b : List (List UInt8)) (h : f x = none) : (x :: b).mapM f = none := by rw [List.mapM_cons, h]; rfl
theorem poD_none {s : List UInt8} (h : (spD s).mapM prD = none) : poD s = [] := by unfold poD; rw [h]
theorem OD.bad {s : List UInt8} {p : Nat} {q : List Int} (h : OD s p q) (hp : p ≤ s.length) (hb : prD ((spD (s.drop p)).headD []) = none) : poD s = [] := by
  obtain ⟨d, h1, h2, -⟩ := h.ex
  apply poD_none
  rw [h2 hp, spD_cons, mapM_app prD _ _ q h1, mapM_bad prD _ hb]
  rfl
/-- A run of digits, and what it is that follows it. -/
theorem run_is : ∀ (f : Nat) (l : List UInt8), runD f l ≤ f ∧ runD f l ≤ l.length ∧ (l.take (runD f l)).all isDg = true ∧ (runD f l = f ∨ runD f l = l.length ∨ ∃ b, l[runD f l]? = some b ∧ isDg b = false)
  | 0, l => by cases l <;> simp [runD]
  | f + 1, [] => by simp [runD]
  | f + 1, b :: r => by
    obtain ⟨h1, h2, h3, h4⟩ := run_is f r
    rw [runD]
    by_cases hb : isDg b = true
    · rw [if_pos hb]
      refine ⟨by omega, by simp; omega, by simp [hb]; simpa using h3, ?_⟩
      rcases h4 with h | h | ⟨c, h, hc⟩
      · exact .inl (by omega)
      · exact .inr (.inl (by simp [h]))
      · exact .inr (.inr ⟨c, by simpa using h, hc⟩)
    · rw [if_neg hb]
      exact ⟨by omega, by omega, by simp, .inr (.inr ⟨b, rfl, by simpa using hb⟩)⟩
theorem dg_nodot {b : UInt8} (h : isDg b = true) : b ≠ 46 := fun e => by rw [e] at h; cases h
theorem run_nodot (f : Nat) (l : List UInt8) : ∀ b ∈ l.take (runD f l), b ≠ 46 := fun b hb => dg_nodot (List.all_eq_true.1 (run_is f l).2.2.1 b hb)
/-- The first part begins with the run. -/
theorem head_run (f : Nat) (l : List UInt8) : (spD l).headD [] = l.take (runD f l) ++ (spD (l.drop (runD f l))).headD [] := by
  have := spD_app (l.take (runD f l)) (l.drop (runD f l)) (run_nodot f l)
  rw [List.take_append_drop] at this
  rw [this]
  rfl
theorem prD_long {a b : List UInt8} (h : 10 < a.length) : prD (a ++ b) = none := by
  unfold prD
  rw [if_neg (fun q => by have := q.2; rw [List.length_append] at this; omega)]
theorem num_zero {l : List UInt8} (h : (numD l).2 = 0) : prD ((spD l).headD []) = none := by
  obtain ⟨h1, h2, h3, h4⟩ := run_is 11 l
  have hh := head_run 11 l
  unfold numD at h
  split at h
  · rename_i hc
    rcases hc with hc | ⟨hc, h48⟩
    · rw [hh]
      exact prD_long (by rw [List.length_take]; omega)
    · match l, h2, hc, h48, hh with
      | b :: r, h2, hc, h48, hh =>
        obtain rfl : b = 48 := by simpa using h48
        obtain ⟨m, hm⟩ : ∃ m, runD 11 (48 :: r) = m + 2 := ⟨runD 11 (48 :: r) - 2, by omega⟩
        rw [hm] at hh h2
        match r, h2, hh with
        | c :: t, h2, hh =>
          unfold prD
          rw [if_neg]
          rintro ⟨hcan, -⟩
          rw [hh] at hcan
          unfold canD at hcan
          simp at hcan
  · have h0 : runD 11 l = 0 := h
    rw [h0] at h4
    rcases h4 with h4 | h4 | ⟨b, h4, hb⟩
    · omega
    · have : l = [] := List.eq_nil_of_length_eq_zero h4.symm
      subst this
      rfl
    · match l, h4 with
      | c :: r, h4 =>
        obtain rfl : c = b := by simpa using h4
        unfold prD
        rw [if_neg]
        rintro ⟨hcan, -⟩
        unfold canD at hcan
        simp only [Bool.and_eq_true] at hcan
        have hall := hcan.1.2
        unfold spD at hall hcan
        split at hall
        · rename_i hd
          rw [if_pos hd] at hcan
          cases hcan.1.1
        · simp [hb] at hall
end Go.Proofs.YtnidfbcninkglaaDoor
