/-
  The document's way over a text of numbers, plainly: a number more, and the end.
-/
import Derived.Test.YtnidfbcninkglaaDoorWi
namespace Go.Proofs.YtnidfbcninkglaaDoor
set_option linter.unusedVariables false
set_option maxRecDepth 100000

theorem num_pos {l : List UInt8} {k : Nat} (hk : (numD l).2 = k) (h : k ≠ 0) : k = runD 11 l ∧ k ≤ 10 ∧ ¬ (1 < k ∧ l.head? = some 48) ∧ (numD l).1 = valD (l.take k) ∧ k ≤ l.length ∧ (l.take k).all isDg = true ∧ (k = l.length ∨ ∃ b, l[k]? = some b ∧ isDg b = false) := by
  obtain ⟨h1, h2, h3, h4⟩ := run_is 11 l
  unfold numD at hk ⊢
  split at hk
  · exact absurd hk.symm h
  · rename_i hc
    have hk' : k = runD 11 l := hk.symm
    rw [if_neg hc]
    rw [← hk'] at hc h1 h2 h3 h4 ⊢
    refine ⟨rfl, by omega, fun q => hc (.inr q), rfl, h2, h3, ?_⟩
    rcases h4 with h4 | h4 | h4
    · exact absurd (.inl (by omega)) hc
    · exact .inl h4
    · exact .inr h4
theorem can_take {l : List UInt8} {k : Nat} (h0 : k ≠ 0) (hl : k ≤ l.length) (ha : (l.take k).all isDg = true) (hh : ¬ (1 < k ∧ l.head? = some 48)) (h10 : k ≤ 10) : prD (l.take k) = some (valD (l.take k) : Int) := by
  unfold prD
  rw [if_pos]
  refine ⟨?_, by rw [List.length_take]; omega⟩
  unfold canD
  rw [ha]
  match l, k, h0, hl, hh with
  | b :: r, k + 1, _, hl, hh =>
    simp
    simp at hl
    by_cases hk : k = 0
    · exact .inl (.inl hk)
    · right
      intro e
      exact hh ⟨by omega, by simp [e]⟩
  | [], k + 1, _, hl, _ => simp at hl
  | _, 0, h0, _, _ => exact absurd rfl h0
theorem OD.bad2 {s : List UInt8} {p k : Nat} {q : List Int} {b : UInt8} (h : OD s p q) (hp : p ≤ s.length) (hk : (numD (s.drop p)).2 = k) (h0 : k ≠ 0) (hb : s[p + k]? = some b) (hd : b ≠ 46) : poD s = [] := by
  obtain ⟨e, -, -, -, hl, ha, hs⟩ := num_pos hk h0
  have hb2 : (s.drop p)[k]? = some b := by rw [List.getElem?_drop]; exact hb
  have hnd : isDg b = false := by
    rcases hs with hs | ⟨c, hc, hc2⟩
    · rw [hs, List.getElem?_eq_none (Nat.le_refl _)] at hb2; cases hb2
    · rw [hb2] at hc; obtain rfl := Option.some.inj hc; exact hc2
  refine h.bad hp ?_
  have hlt := (List.getElem?_eq_some_iff.1 hb2).1
  have hdr : (s.drop p).drop k = b :: (s.drop p).drop (k + 1) := by
    rw [List.drop_eq_getElem_cons hlt]
    congr 1
    rw [List.getElem?_eq_getElem hlt] at hb2
    exact Option.some.inj hb2
  rw [head_run 11, ← e, hdr]
  unfold prD
  rw [if_neg]
  rintro ⟨hcan, -⟩
  unfold canD at hcan
  simp only [Bool.and_eq_true] at hcan
  have hall := hcan.1.2
  rw [spD, if_neg hd] at hall
  simp [hnd] at hall
theorem OD.next {s : List UInt8} {p k : Nat} {q : List Int} (h : OD s p q) (hp : p ≤ s.length) (hk : (numD (s.drop p)).2 = k) (h0 : k ≠ 0) (he : p + k = s.length ∨ s[p + k]? = some 46) : OD s (p + k + 1) (q ++ [((numD (s.drop p)).1 : Int)]) := by
  obtain ⟨e, h10, hh, hv, hl, ha, hs⟩ := num_pos hk h0
  obtain ⟨d, h1, h2, -⟩ := h.ex
  have hpr := can_take h0 hl ha hh h10
  rw [← hv] at hpr
  have hnd : ∀ b ∈ (s.drop p).take k, b ≠ 46 := fun b hb => dg_nodot (List.all_eq_true.1 ha b hb)
  have hm : (d ++ [(s.drop p).take k]).mapM prD = some (q ++ [((numD (s.drop p)).1 : Int)]) := by
    rw [mapM_app prD d _ q h1, List.mapM_cons, hpr]
    rfl
  have hll : (s.drop p).length = s.length - p := List.length_drop
  refine ⟨by omega, d ++ [(s.drop p).take k], hm, fun hle => ?_, fun heq => ?_⟩
  · have hb2 : (s.drop p)[k]? = some 46 := by
      rcases he with he | he
      · omega
      · rw [List.getElem?_drop]; exact he
    have hlt := (List.getElem?_eq_some_iff.1 hb2).1
    have hdr : s.drop p = (s.drop p).take k ++ 46 :: s.drop (p + k + 1) := by
      conv => lhs; rw [← List.take_append_drop k (s.drop p)]
      congr 1
      rw [List.drop_eq_getElem_cons hlt, List.drop_drop, show p + (k + 1) = p + k + 1 by omega]
      congr 1
      rw [List.getElem?_eq_getElem hlt] at hb2
      exact Option.some.inj hb2
    rw [h2 hp]
    conv => lhs; rw [hdr]
    rw [spD_app_dot _ _ hnd]
    simp
  · have hk2 : (s.drop p).take k = s.drop p := List.take_of_length_le (by omega)
    rw [h2 hp, hk2, spD_end _ (by rw [hk2] at hnd; exact hnd)]
theorem OD.done {s : List UInt8} {p : Nat} {q : List Int} (h : OD s p q) (hp : p = s.length + 1) : (spD s).mapM prD = some q := by
  obtain ⟨d, h1, -, h3⟩ := h.ex
  rw [h3 hp]
  exact h1
theorem OD.long {s : List UInt8} {p : Nat} {q : List Int} (h : OD s p q) (hp : p ≤ s.length) (hq : 17 < q.length) : poD s = [] := by
  obtain ⟨d, h1, h2, -⟩ := h.ex
  have hs := h2 hp
  have hd := (mapM_len prD d q h1).1
  unfold poD
  cases hm : (spD s).mapM prD with
  | none => rfl
  | some t =>
    have hl := (mapM_len prD _ t hm).1
    have hlen : 18 ≤ t.length := by rw [← hl, hs, List.length_append]; omega
    match t, hlen with
    | a :: b :: r, hlen =>
      dsimp only [folds]
      rw [if_neg]
      intro hok
      simp only [okD, Bool.and_eq_true, decide_eq_true_eq] at hok
      have := hok.2
      simp at hlen
      omega
end Go.Proofs.YtnidfbcninkglaaDoor
