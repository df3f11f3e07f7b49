/-
  A text that a slice shows, streamed; slices of a slice; a counter's number.
-/
import Derived.Test.YtobglgddbhddnaaStr
import Derived.Test.YtobglgddbhddnaaApB
namespace Go.Proofs.Ytobglgddbhddnaa
open Go.RowKit
set_option linter.unusedVariables false

theorem streamV_any (K R n : Nat) (k at' txt : Nat → By) (v : Value) (w : World) (hK : Ar w K (keyC R k)) (hR : R = 10 ∨ R = 14) (hv : Ap.Rd w v (nums n txt)) (hn' : n ≤ 140737488351232) :
    Calls Try.prog 27 #[.pointer (some ⟨K, 0, none⟩), .agg (ba 16 at'), v] w fun r w' => ∃ g, r = .returned (.slice (some ⟨g, 0, none⟩) n n) ∧ w.heap.size ≤ g ∧ Chg w w' ∧ Ar w' g (ba n (stF R k at' txt)) := by
  by_cases h : n = 0
  · subst h
    obtain ⟨ao, m, c, rfl, hm, _⟩ := hv.shape
    rw [nums_len] at hm
    subst hm
    exact streamNil_any K R k at' txt ao c w
  · obtain ⟨b, o, c, rfl, h1, h2, h3⟩ := Rd.bs hv (by omega)
    exact stream_any K R b o n c k at' txt w hK hR h3 (by omega) hn'

theorem addr_add (b o i : Nat) : (⟨b, o, none⟩ : Addr).add i = ⟨b, o + i, none⟩ := by unfold Addr.add; split <;> simp_all
theorem addr_spot {a : Addr} (h : (a.add 0).spot = none) : a.spot = none := by
  unfold Addr.add at h
  split at h
  · exact h
  · rename_i h0
    exact absurd rfl h0

theorem run_sliceHi (ao : Option Addr) (n cap p : Nat) (hp : p ≤ cap) (hc : cap ≤ 9223372036854775807) : ∃ ao', (∀ w, (Instr.slice 35 (.slice ao n cap) none (some (.int .i64 (p : Int))) none).run Try.prog w = .ok (.slice ao' p cap) w) ∧ ∀ u txt, Ap.Rd u (.slice ao n cap) (nums n txt) → p ≤ n → Ap.Rd u (.slice ao' p cap) (nums p txt) := by
  refine ⟨if cap = 0 then ao else ao.map (·.add 0), fun w => ?_, fun u txt h hpn => ?_⟩
  · have h1 : (p : Int) ≤ cap := by omega
    simp [Instr.slice, Instr.sliceBounds, Instr.sliceBound, run_underlying u22, asIntOf, Sem.run_bind, hp]
  · obtain ⟨ao2, m, c, hv, hm, hc2, hmx, h0, hx⟩ := h
    injection hv with e1 e2 e3
    subst e1 e2 e3
    refine ⟨_, p, _, rfl, (nums_len p txt).symm, hp, hmx, fun e => ?_, fun x e j y hj => ?_⟩
    · by_cases hc0 : cap = 0
      · exact hc0
      · rw [if_neg hc0] at e
        cases ao with
        | none => exact absurd (h0 rfl) hc0
        | some a => cases e
    · have hj' : j < p := by
        have := (List.getElem?_eq_some_iff.1 hj).1
        rwa [nums_len] at this
      rw [nums_get p txt hj'] at hj
      by_cases hc0 : cap = 0
      · omega
      · rw [if_neg hc0] at e
        cases ao with
        | none => cases e
        | some a =>
          injection e with e
          subst e
          have := hx a rfl j y (by rw [nums_get n txt (by omega)]; exact hj)
          have hs' := addr_spot (spot_none (hx a rfl 0 _ (nums_get n txt (by omega))))
          obtain ⟨b, o, sp⟩ := a
          dsimp only at hs'
          subst hs'
          show u.cell? (((⟨b, o, none⟩ : Addr).add 0).add j) = _
          rw [addr_add, Nat.add_zero]
          exact this

theorem run_sliceLo (ao : Option Addr) (n cap p : Nat) (hp : p ≤ n) (hn : n ≤ cap) (hc : cap ≤ 9223372036854775807) : ∃ ao', (∀ w, (Instr.slice 35 (.slice ao n cap) (some (.int .i64 (p : Int))) none none).run Try.prog w = .ok (.slice ao' (n - p) (cap - p)) w) ∧ ∀ u txt, Ap.Rd u (.slice ao n cap) (nums n txt) → Ap.Rd u (.slice ao' (n - p) (cap - p)) (nums (n - p) fun i => txt (p + i)) := by
  refine ⟨if cap = p then ao else ao.map (·.add p), fun w => ?_, fun u txt h => ?_⟩
  · have h1 : (p : Int) ≤ n := by omega
    simp [Instr.slice, Instr.sliceBounds, Instr.sliceBound, run_underlying u22, asIntOf, Sem.run_bind, hp]
  · obtain ⟨ao2, m, c, hv, hm, hc2, hmx, h0, hx⟩ := h
    injection hv with e1 e2 e3
    subst e1 e2 e3
    have hmx' : cap ≤ 9223372036854775807 := hc
    refine ⟨_, n - p, _, rfl, (nums_len _ _).symm, by omega, by unfold maxLen at hmx ⊢; omega, fun e => ?_, fun x e j y hj => ?_⟩
    · by_cases hc0 : cap = p
      · omega
      · rw [if_neg hc0] at e
        cases ao with
        | none => have := h0 rfl; omega
        | some a => cases e
    · have hj' : j < n - p := by
        have := (List.getElem?_eq_some_iff.1 hj).1
        rwa [nums_len] at this
      rw [nums_get (n - p) _ hj'] at hj
      have hc0 : ¬ cap = p := by omega
      rw [if_neg hc0] at e
      cases ao with
      | none => cases e
      | some a =>
        injection e with e
        subst e
        have := hx a rfl (p + j) y (by rw [nums_get n txt (by omega)]; exact hj)
        have hs' := addr_spot (spot_none (hx a rfl 0 _ (nums_get n txt (by omega))))
        obtain ⟨b, o, sp⟩ := a
        dsimp only at hs'
        subst hs'
        show u.cell? (((⟨b, o, none⟩ : Addr).add p).add j) = _
        rw [addr_add, addr_add, Nat.add_assoc]
        rw [addr_add] at this
        exact this

theorem nums_split (n p : Nat) (f : Nat → By) (hp : p ≤ n) : nums n f = nums p f ++ nums (n - p) (fun i => f (p + i)) := by
  apply List.ext_getElem?
  intro j
  by_cases h1 : j < p
  · rw [List.getElem?_append_left (by rw [nums_len]; exact h1), nums_get p f h1, nums_get n f (by omega)]
  · rw [List.getElem?_append_right (by rw [nums_len]; omega), nums_len]
    by_cases h2 : j < n
    · rw [nums_get n f h2, nums_get (n - p) _ (by omega), show p + (j - p) = j by omega]
    · rw [List.getElem?_eq_none (by rw [nums_len]; omega), List.getElem?_eq_none (by rw [nums_len]; omega)]

/-- The number that four bytes tell. -/
theorem or4 (a b c d : By) : Go.bits .or .u32 (Go.bits .or .u32 (Go.bits .or .u32 ((a.toNat : Int) * 16777216) ((b.toNat : Int) * 65536)) ((c.toNat : Int) * 256)) (d.toNat : Int) = ((a.toNat * 16777216 + b.toNat * 65536 + c.toNat * 256 + d.toNat : Nat) : Int) := by
  have ha := a.isLt
  have hb := b.isLt
  have hc := c.isLt
  have hd := d.isLt
  have w : ∀ n : Int, 0 ≤ n → n < 2 ^ 32 → IntKind.u32.wrap n = n := fun n h0 h1 => by rw [IntKind.wrap_u32]; omega
  have h1 : Go.bits .or .u32 ((a.toNat : Int) * 16777216) ((b.toNat : Int) * 65536) = (a.toNat : Int) * 16777216 + (b.toNat : Int) * 65536 :=
    bits_join .u32 32 (by decide) w 24 _ _ (by omega) (by show (_ : Int) % 16777216 = 0; omega) (by show (_ : Int) < 4294967296; omega) (by omega) (by show (_ : Int) < 16777216; omega) (by show (_ : Int) < 4294967296; omega)
  have h2 : Go.bits .or .u32 ((a.toNat : Int) * 16777216 + (b.toNat : Int) * 65536) ((c.toNat : Int) * 256) = (a.toNat : Int) * 16777216 + (b.toNat : Int) * 65536 + (c.toNat : Int) * 256 :=
    bits_join .u32 32 (by decide) w 16 _ _ (by omega) (by show (_ : Int) % 65536 = 0; omega) (by show (_ : Int) < 4294967296; omega) (by omega) (by show (_ : Int) < 65536; omega) (by show (_ : Int) < 4294967296; omega)
  have h3 : Go.bits .or .u32 ((a.toNat : Int) * 16777216 + (b.toNat : Int) * 65536 + (c.toNat : Int) * 256) (d.toNat : Int) = (a.toNat : Int) * 16777216 + (b.toNat : Int) * 65536 + (c.toNat : Int) * 256 + (d.toNat : Int) :=
    bits_join .u32 32 (by decide) w 8 _ _ (by omega) (by show (_ : Int) % 256 = 0; omega) (by show (_ : Int) < 4294967296; omega) (by omega) (by show (_ : Int) < 256; omega) (by show (_ : Int) < 4294967296; omega)
  rw [h1, h2, h3]
  omega
end Go.Proofs.Ytobglgddbhddnaa
