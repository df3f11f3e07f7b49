/-
  A list of blocks among the arguments, opened.
-/
import Derived.Test.YtpbnejgoppkghaaArgs
import Derived.Test.YtpbnejgoppkghaaStv
import Derived.Deep.Slices
namespace Go.Proofs.Ytpbnejgoppkghaa
open Go.ChangeShapes Go.WideShapes Go.ChangeAt Go.RowKit
set_option linter.unusedVariables false
set_option maxRecDepth 100000

/-- The cells of a block that is read. -/
theorem block_cells {H : Type} {enc : TypeId × Value → H} {W : World} {b0 fuel : Nat} {sp : Nat → Bool} {hd : Bool} {cs : List Value} {x : DataW H × List MemPlace} (h : DataW.trod enc Try.prog W b0 sp hd fuel 32 cs = some x) : ∀ j, j < 16 → ∃ y : Int, cs[j]? = some (.int .u8 y) ∧ 0 ≤ y ∧ y < 256 := by
  obtain ⟨xs, m, _, _, _, hxl, hx⟩ := DataW.trod_array Try.underlying32 h
  intro i hi
  have h1 := hx i hi
  rw [cells5, List.getElem?_eq_getElem (by omega)] at h1
  obtain ⟨y, e0, _, hw⟩ := DataW.trod_int Try.underlying5 h1
  simp only [Lit.wf, Bool.and_eq_true, decide_eq_true_eq] at hw
  have u0 : IntKind.u8.min = 0 := rfl
  have u1 : IntKind.u8.max = 255 := rfl
  refine ⟨y, ?_, by omega, by omega⟩
  have e2 : ((cs.drop (i * 1)).take 1)[0]? = some (.int .u8 y) := by rw [e0]; rfl
  rw [List.getElem?_take, if_pos (by decide), List.getElem?_drop] at e2
  simpa using e2

theorem blocks_in {H : Type} {enc : TypeId × Value → H} {W : World} {a : Option Addr} {len cap : Nat} {d : DataW H} {ps : List MemPlace} (h : DataW.Trod enc Try.prog W 0 (fun _ => true) true 23 (.slice a len cap) d ps) :
    ∃ g : Nat → Nat → By, len = 0 ∨ ∃ lb lof, a = some ⟨lb, lof, none⟩ ∧ ∀ i, i < len → ∀ j, j < 16 → W.cell? ⟨lb, lof + i * 16 + j, none⟩ = some (.int .u8 ((g i j).toNat : Int)) := by
  obtain ⟨fuel, hf⟩ := h
  rcases Go.Deep.open_slice Try.underlying23 hf with ⟨hcs, _⟩ | ⟨ad, l, c, m, n, D, Pl, hcs, _, hl, hm, hmm, _, hx⟩
  · simp [Value.cells] at hcs
    exact ⟨fun _ _ => 0#8, .inl hcs.2.1⟩
  · simp [Value.cells] at hcs
    obtain ⟨rfl, rfl, rfl⟩ := hcs
    simp only [if_true] at hmm
    by_cases h0 : len = 0
    · exact ⟨fun _ _ => 0#8, .inl h0⟩
    · rw [cells32] at hx
      have key : ∀ i, i < len → ∀ j, j < 16 → ∃ y : Int, W.cell? ((ad.add (i * 16)).add j) = some (.int .u8 y) ∧ 0 ≤ y ∧ y < 256 := by
        intro i hi j hj
        obtain ⟨cs', h1, h2⟩ := hx i (by omega)
        obtain ⟨y, e, h3, h4⟩ := block_cells h2 j hj
        obtain ⟨_, hlen, hcell⟩ := World.cells?_some h1
        refine ⟨y, ?_, h3, h4⟩
        rw [hcell j hj]; exact e
      have hs : ad.spot = none := by
        obtain ⟨y, e, _⟩ := key 0 (by omega) 0 (by decide)
        have e1 := addr_spot (spot_none e)
        rw [Nat.zero_mul] at e1
        exact addr_spot e1
      obtain ⟨lb, lof, sp⟩ := ad
      dsimp only at hs
      subst hs
      refine ⟨fun i j => match W.cell? ⟨lb, lof + i * 16 + j, none⟩ with | some (.int _ y) => BitVec.ofNat 8 y.toNat | _ => 0#8, .inr ⟨lb, lof, rfl, fun i hi j hj => ?_⟩⟩
      obtain ⟨y, e, h3, h4⟩ := key i hi j hj
      rw [addr_add, addr_add] at e
      dsimp only
      rw [e]
      simp only [BitVec.toNat_ofNat]
      congr 2
      omega
end Go.Proofs.Ytpbnejgoppkghaa
