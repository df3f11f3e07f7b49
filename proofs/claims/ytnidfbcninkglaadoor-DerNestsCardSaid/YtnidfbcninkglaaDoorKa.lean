/-
  Items one behind the other, and items within an item, plainly.
-/
import Derived.Test.YtnidfbcninkglaaDoorIa
import Derived.Test.YtnidfbcninkglaaDoorOwW
namespace Go.Proofs.YtnidfbcninkglaaDoor
open Go.RowKit
set_option linter.unusedVariables false
set_option maxRecDepth 100000

/-- Items, a tag and a body each, one behind the other. -/
def toksB (l : List (Int × List Int)) : List Int := (l.map fun x => encL x.1 x.2).flatten
def plainI : List (Int × List Int) → Nat → List PI
  | [], _ => []
  | x :: r, k => ⟨x.1, x.2, k, (encL x.1 x.2).length⟩ :: plainI r (k + (encL x.1 x.2).length)
theorem toksB_cons (x : Int × List Int) (l : List (Int × List Int)) : toksB (x :: l) = encL x.1 x.2 ++ toksB l := by simp [toksB]
theorem toksB_snoc (l : List (Int × List Int)) (x : Int × List Int) : toksB (l ++ [x]) = toksB l ++ encL x.1 x.2 := by simp [toksB]
theorem plainI_len : ∀ (l : List (Int × List Int)) (k : Nat), (plainI l k).length = l.length
  | [], k => rfl
  | x :: r, k => by simp [plainI, plainI_len r]
theorem plainI_get : ∀ (l : List (Int × List Int)) (k j : Nat) (x : Int × List Int), l[j]? = some x → ∃ p, (plainI l k)[j]? = some p ∧ p.t = x.1 ∧ p.ys = x.2
  | [], k, j, x, h => by simp at h
  | y :: r, k, 0, x, h => by
    simp at h
    subst h
    exact ⟨_, rfl, rfl, rfl⟩
  | y :: r, k, j + 1, x, h => by
    obtain ⟨p, h1, h2⟩ := plainI_get r (k + (encL y.1 y.2).length) j x (by simpa using h)
    exact ⟨p, by simpa [plainI] using h1, h2⟩

theorem nxI_enc (pre : List Int) (t : Int) (b rest : List Int) (ht : t % 32 ≠ 31) (h : b.length ≤ 65535) : nxI (pre ++ (encL t b ++ rest)) pre.length = some ⟨t, b, pre.length, (encL t b).length⟩ := by
  have hd : (pre ++ (encL t b ++ rest)).drop pre.length = t :: (lenB b.length ++ (b ++ rest)) := by simp [encL]
  have he : (itemL (t :: (lenB b.length ++ (b ++ rest)))).1 = 0 := by
    have := itemL_enc t b rest ht h
    have e : encL t b ++ rest = t :: (lenB b.length ++ (b ++ rest)) := by simp [encL]
    rw [e] at this
    rw [this]
  have hl := lenL_enc b.length h (b ++ rest)
  unfold nxI
  rw [hd]
  dsimp only
  rw [if_pos he, hl]
  have e1 : (lenB b.length ++ (b ++ rest)).drop (lenB b.length).length = b ++ rest := by simp
  simp only [e1, List.take_left, encL_len]

theorem its_flat : ∀ (l : List (Int × List Int)) (pre : List Int), (∀ x ∈ l, x.1 % 32 ≠ 31 ∧ x.2.length ≤ 65535) → Its (pre ++ toksB l) pre.length (plainI l pre.length) (pre ++ toksB l).length
  | [], pre, h => by simp [toksB, plainI, Its]
  | x :: r, pre, h => by
    obtain ⟨h1, h2⟩ := h x List.mem_cons_self
    have ih := its_flat r (pre ++ encL x.1 x.2) (fun y hy => h y (List.mem_cons_of_mem _ hy))
    rw [List.append_assoc, ← toksB_cons, List.length_append] at ih
    refine ⟨?_, ih⟩
    rw [toksB_cons]
    exact nxI_enc pre x.1 x.2 (toksB r) h1 h2

theorem its_all (l : List (Int × List Int)) (h : ∀ x ∈ l, x.1 % 32 ≠ 31 ∧ x.2.length ≤ 65535) : Its (toksB l) 0 (plainI l 0) (toksB l).length := by
  have := its_flat l [] h
  simpa using this

/-- An item within an item, so deep. -/
def nest : Nat → List Int → List Int
  | 0, b => b
  | n + 1, b => encL 48 (nest n b)
theorem nest_len : ∀ (n : Nat) (b : List Int), (nest n b).length ≤ b.length + 4 * n
  | 0, b => by simp [nest]
  | n + 1, b => by
    have ih := nest_len n b
    have := lenB_len (nest n b).length
    have h3 : (lenB (nest n b).length).length ≤ 3 := by rw [this]; split <;> (try split) <;> omega
    show (encL 48 (nest n b)).length ≤ _
    rw [encL_len]
    omega
theorem nest_byt : ∀ (n : Nat) (b : List Int), Byt b → b.length + 4 * n ≤ 65535 → Byt (nest n b)
  | 0, b, hb, _ => hb
  | n + 1, b, hb, h => by
    have ih := nest_byt n b hb (by omega)
    have := nest_len n b
    exact encL_byt (by omega) (by omega) ih (by omega)
theorem toksB_byt (l : List (Int × List Int)) (h : ∀ x ∈ l, 0 ≤ x.1 ∧ x.1 < 256 ∧ Byt x.2 ∧ x.2.length ≤ 65535) : Byt (toksB l) := by
  induction l with
  | nil => exact Byt.nil
  | cons x r ih =>
    rw [toksB_cons]
    obtain ⟨h1, h2, h3, h4⟩ := h x List.mem_cons_self
    exact (encL_byt h1 h2 h3 h4).app (ih (fun y hy => h y (List.mem_cons_of_mem _ hy)))
end Go.Proofs.YtnidfbcninkglaaDoor
