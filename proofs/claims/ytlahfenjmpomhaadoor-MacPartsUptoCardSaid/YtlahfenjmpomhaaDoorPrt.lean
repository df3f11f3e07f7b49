/-
  Lists of parts that can be read.
-/
import Derived.Test.YtlahfenjmpomhaaDoorHlp
namespace Go.Proofs.YtlahfenjmpomhaaDoor
open Go.RowKit
set_option linter.unusedVariables false

theorem PtR.chg {w w' : World} {v : Value} {xss : List (List Int)} (h : PtR w v xss) (k : Chg w w') : PtR w' v xss := by
  rcases h with h | h | ⟨b, o, cap, h1, h2, h3⟩
  · exact .inl h
  · exact .inr (.inl h)
  · refine .inr (.inr ⟨b, o, cap, h1, h2, fun j xs hj => ?_⟩)
    obtain ⟨u, g1, g2⟩ := h3 j xs hj
    exact ⟨u, cell_at k g1, Rd.chg g2 k⟩
theorem PtR.shape {w : World} {v : Value} {xss : List (List Int)} (h : PtR w v xss) : ∃ n p cap, n = xss.length ∧ v = .slice p n cap ∧ n < 281474976710657 := by
  rcases h with ⟨e1, e2⟩ | ⟨a, cap, e1, e2⟩ | ⟨b, o, cap, e1, e2, _⟩
  · exact ⟨0, none, 0, by rw [e2]; rfl, e1, by decide⟩
  · exact ⟨0, some a, cap, by rw [e2]; rfl, e1, by decide⟩
  · exact ⟨_, _, _, rfl, e1, e2⟩
/-- One of the parts. -/
theorem PtR.part {w : World} {p : Option Addr} {n cap : Nat} {xss : List (List Int)} (h : PtR w (.slice p n cap) xss) {i : Nat} (hi : i < xss.length) : ∃ b o u, p = some ⟨b, o, none⟩ ∧ n = xss.length ∧ w.cell? ⟨b, o + i, none⟩ = some u ∧ Ap.Rd w u xss[i] := by
  rcases h with ⟨e1, e2⟩ | ⟨a, cap, e1, e2⟩ | ⟨b, o, cap, e1, e2, e3⟩
  · rw [e2] at hi
    exact absurd hi (Nat.not_lt_zero i)
  · rw [e2] at hi
    exact absurd hi (Nat.not_lt_zero i)
  · injection e1 with e4 e5 e6
    obtain ⟨u, g1, g2⟩ := e3 i xss[i] (List.getElem?_eq_getElem hi)
    exact ⟨b, o, u, e4, e5, g1, g2⟩
theorem flat_take {xss : List (List Int)} {i : Nat} (hi : i < xss.length) : (xss.take (i + 1)).flatten = (xss.take i).flatten ++ xss[i] := by
  rw [List.take_add_one, List.getElem?_eq_getElem hi, List.flatten_append]
  simp
theorem flat_le (xss : List (List Int)) (i : Nat) : (xss.take i).flatten.length ≤ xss.flatten.length := by
  have : xss.flatten = (xss.take i).flatten ++ (xss.drop i).flatten := by rw [← List.flatten_append, List.take_append_drop]
  rw [this, List.length_append]
  omega

theorem flat_mem {xss : List (List Int)} {xs : List Int} (h : xs ∈ xss) : xs.length ≤ xss.flatten.length := by
  induction xss with
  | nil => cases h
  | cons a l ih =>
    rw [List.flatten_cons, List.length_append]
    rcases List.mem_cons.1 h with rfl | h
    · omega
    · have := ih h
      omega
theorem flat_range {xss : List (List Int)} (h : ∀ xs ∈ xss, ∀ x ∈ xs, 0 ≤ x ∧ x < 256) : ∀ x ∈ xss.flatten, 0 ≤ x ∧ x < 256 := by
  intro x hx
  obtain ⟨xs, h1, h2⟩ := List.mem_flatten.1 hx
  exact h xs h1 x h2
end Go.Proofs.YtlahfenjmpomhaaDoor
