/-
  Slices of a slice.
-/
import Derived.Test.YtobglgddbhddnaaGreatJ23
namespace Go.Proofs.YtobglgddbhddnaaGreat.Cha
open Go.RowKit
set_option linter.unusedVariables false

theorem addr_spot {a : Addr} (h : (a.add 0).spot = none) : a.spot = none := by
  unfold Addr.add at h
  split at h
  · exact h
  · rename_i h0
    exact absurd rfl h0

theorem run_sliceHi (ao : Option Addr) (n cap p : Nat) (hp : p ≤ cap) (hc : cap ≤ 9223372036854775807) : ∃ ao', (∀ w, (Instr.slice 24 (.slice ao n cap) none (some (.int .i64 (p : Int))) none).run Tryz.prog w = .ok (.slice ao' p cap) w) ∧ ∀ u txt, Ap.Rd u (.slice ao n cap) (nums n txt) → p ≤ n → Ap.Rd u (.slice ao' p cap) (nums p txt) := by
  refine ⟨if cap = 0 then ao else ao.map (·.add 0), fun w => ?_, fun u txt h hpn => ?_⟩
  · have h1 : (p : Int) ≤ cap := by omega
    simp [Instr.slice, Instr.sliceBounds, Instr.sliceBound, run_underlying u22, asIntOf, Sem.run_bind, hp]
  · obtain ⟨ao2, m, c, hv, hm, hc2, hmx, h0, hx⟩ := h
    injection hv with e1 e2 e3
    subst e1 e2 e3
    refine ⟨_, p, _, rfl, (nums_len p txt).symm, hp, hmx, fun e => ?_, fun x e j y hj => ?_⟩
    · by_cases hc0 : cap = 0
      · exact hc0
      · rw [if_neg hc0] at e
        cases ao with
        | none => exact absurd (h0 rfl) hc0
        | some a => cases e
    · have hj' : j < p := by
        have := (List.getElem?_eq_some_iff.1 hj).1
        rwa [nums_len] at this
      rw [nums_get p txt hj'] at hj
      by_cases hc0 : cap = 0
      · omega
      · rw [if_neg hc0] at e
        cases ao with
        | none => cases e
        | some a =>
          injection e with e
          subst e
          have := hx a rfl j y (by rw [nums_get n txt (by omega)]; exact hj)
          have hs' := addr_spot (spot_none (hx a rfl 0 _ (nums_get n txt (by omega))))
          obtain ⟨b, o, sp⟩ := a
          dsimp only at hs'
          subst hs'
          show u.cell? (((⟨b, o, none⟩ : Addr).add 0).add j) = _
          rw [addr_add, Nat.add_zero]
          exact this

theorem run_sliceLo (ao : Option Addr) (n cap p : Nat) (hp : p ≤ n) (hn : n ≤ cap) (hc : cap ≤ 9223372036854775807) : ∃ ao', (∀ w, (Instr.slice 24 (.slice ao n cap) (some (.int .i64 (p : Int))) none none).run Tryz.prog w = .ok (.slice ao' (n - p) (cap - p)) w) ∧ ∀ u txt, Ap.Rd u (.slice ao n cap) (nums n txt) → Ap.Rd u (.slice ao' (n - p) (cap - p)) (nums (n - p) fun i => txt (p + i)) := by
  refine ⟨if cap = p then ao else ao.map (·.add p), fun w => ?_, fun u txt h => ?_⟩
  · have h1 : (p : Int) ≤ n := by omega
    simp [Instr.slice, Instr.sliceBounds, Instr.sliceBound, run_underlying u22, asIntOf, Sem.run_bind, hp]
  · obtain ⟨ao2, m, c, hv, hm, hc2, hmx, h0, hx⟩ := h
    injection hv with e1 e2 e3
    subst e1 e2 e3
    have hmx' : cap ≤ 9223372036854775807 := hc
    refine ⟨_, n - p, _, rfl, (nums_len _ _).symm, by omega, by unfold maxLen at hmx ⊢; omega, fun e => ?_, fun x e j y hj => ?_⟩
    · by_cases hc0 : cap = p
      · omega
      · rw [if_neg hc0] at e
        cases ao with
        | none => have := h0 rfl; omega
        | some a => cases e
    · have hj' : j < n - p := by
        have := (List.getElem?_eq_some_iff.1 hj).1
        rwa [nums_len] at this
      rw [nums_get (n - p) _ hj'] at hj
      have hc0 : ¬ cap = p := by omega
      rw [if_neg hc0] at e
      cases ao with
      | none => cases e
      | some a =>
        injection e with e
        subst e
        have := hx a rfl (p + j) y (by rw [nums_get n txt (by omega)]; exact hj)
        have hs' := addr_spot (spot_none (hx a rfl 0 _ (nums_get n txt (by omega))))
        obtain ⟨b, o, sp⟩ := a
        dsimp only at hs'
        subst hs'
        show u.cell? (((⟨b, o, none⟩ : Addr).add p).add j) = _
        rw [addr_add, addr_add, Nat.add_assoc]
        rw [addr_add] at this
        exact this

theorem nums_split (n p : Nat) (f : Nat → By) (hp : p ≤ n) : nums n f = nums p f ++ nums (n - p) (fun i => f (p + i)) := by
  apply List.ext_getElem?
  intro j
  by_cases h1 : j < p
  · rw [List.getElem?_append_left (by rw [nums_len]; exact h1), nums_get p f h1, nums_get n f (by omega)]
  · rw [List.getElem?_append_right (by rw [nums_len]; omega), nums_len]
    by_cases h2 : j < n
    · rw [nums_get n f h2, nums_get (n - p) _ (by omega), show p + (j - p) = j by omega]
    · rw [List.getElem?_eq_none (by rw [nums_len]; omega), List.getElem?_eq_none (by rw [nums_len]; omega)]

theorem run_sliceHiA (ao : Option Addr) (n cap p : Nat) (hp : p ≤ cap) (hc : cap ≤ 9223372036854775807) : ∃ ao', (∀ w, (Instr.sliceAt 24 (.slice ao n cap) none (some (.int .i64 (p : Int))) none).run Tryz.prog w = .ok (.slice ao' p cap) w) ∧ ∀ u txt, Ap.Rd u (.slice ao n cap) (nums n txt) → p ≤ n → Ap.Rd u (.slice ao' p cap) (nums p txt) := by
  obtain ⟨ao', h1, h2⟩ := run_sliceHi ao n cap p hp hc
  exact ⟨ao', fun w => (run_sliceAt_slice w 24 _ _ _ _ (by kernel_rfl)).trans (h1 w), h2⟩
theorem run_sliceLoA (ao : Option Addr) (n cap p : Nat) (hp : p ≤ n) (hn : n ≤ cap) (hc : cap ≤ 9223372036854775807) : ∃ ao', (∀ w, (Instr.sliceAt 24 (.slice ao n cap) (some (.int .i64 (p : Int))) none none).run Tryz.prog w = .ok (.slice ao' (n - p) (cap - p)) w) ∧ ∀ u txt, Ap.Rd u (.slice ao n cap) (nums n txt) → Ap.Rd u (.slice ao' (n - p) (cap - p)) (nums (n - p) fun i => txt (p + i)) := by
  obtain ⟨ao', h1, h2⟩ := run_sliceLo ao n cap p hp hn hc
  exact ⟨ao', fun w => (run_sliceAt_slice w 24 _ _ _ _ (by kernel_rfl)).trans (h1 w), h2⟩
end Go.Proofs.YtobglgddbhddnaaGreat.Cha
