/-
  Numbers among the arguments, opened.
  Arrays of 32 bytes among the arguments, opened.
-/
import Derived.Test.YtiehjhlekpjlaaaRows
import Derived.Test.YtiehjhlekpjlaaaJb
import Derived.SizedLaws
import Derived.WalkKit
import Derived.ProofKit
import Derived.OpenShut
import Derived.ChangeOld
import Derived.Below
import Derived.Test.YtiehjhlekpjlaaaJh
namespace Go.Proofs.Ytiehjhlekpjlaaa
open Go.ChangeShapes Go.WideShapes Go.ChangeAt Go.RowKit
set_option linter.unusedVariables false
set_option maxRecDepth 100000

theorem own : ownKnob Try.prog.godebug = none := by kernel_rfl
theorem laidOut : laidOutB Try.prog = true := by kernel_rfl
theorem cells23 : Try.prog.cellsOf 32 = 1 := by kernel_rfl
theorem cells25 : Try.prog.cellsOf 34 = 4 := by kernel_rfl
theorem below {W W' : World} (h : Chg W W') : Below W.heap.size W W' := ⟨h.os, h.tape, h.output, h.size, h.block⟩

/-- A number that came in. -/
theorem num_in {H : Type} {enc : TypeId × Value → H} {W : World} {b0 : Nat} {v : Value} (hv : Value.okWide Try.prog W .any b0 34 v) {d : DataW H} {ps : List MemPlace} (h : DataW.Trod enc Try.prog W 0 (fun _ => true) true 34 v d ps) : ∃ x, v = .agg (num x) ∧ N256 x := by
  obtain ⟨cs, rfl, hsz, _⟩ : ∃ cs, v = .agg cs ∧ cs.size = Try.prog.cellsOf 34 ∧ Row.okWide Try.prog W .any b0 34 cs := by
    simpa [Value.okWide, Try.underlying34] using hv
  rw [cells25] at hsz
  obtain ⟨fuel, hf⟩ := h
  obtain ⟨xs, m, _, _, _, hxl, hx⟩ := DataW.trod_array Try.underlying34 hf
  have key : ∀ i, i < 4 → ∃ y : Int, cs[i]? = some (.int .u64 y) ∧ 0 ≤ y ∧ y < 18446744073709551616 := by
    intro i hi
    have h1 := hx i hi
    rw [cells23, List.getElem?_eq_getElem (by omega)] at h1
    obtain ⟨y, e0, _, hw⟩ := DataW.trod_int Try.underlying32 h1
    simp only [Lit.wf, Bool.and_eq_true, decide_eq_true_eq] at hw
    have u0 : IntKind.u64.min = 0 := rfl
    have u1 : IntKind.u64.max = 18446744073709551615 := rfl
    refine ⟨y, ?_, by omega, by omega⟩
    have e2 : (((Value.agg cs).cells.toList.drop (i * 1)).take 1)[0]? = some (.int .u64 y) := by rw [e0]; rfl
    rw [List.getElem?_take, if_pos (by decide), List.getElem?_drop] at e2
    simpa [Value.cells] using e2
  obtain ⟨D, hD⟩ : ∃ D : Nat → Int, D = fun i => match cs[i]? with | some (.int .u64 y) => (if 0 ≤ y ∧ y < 18446744073709551616 then y else 0) | _ => 0 := ⟨_, rfl⟩
  have hDw : ∀ i, W64 (D i) := by
    intro i
    rw [hD]
    dsimp only
    split
    · split
      · assumption
      · exact ⟨by decide, by decide⟩
    · exact ⟨by decide, by decide⟩
  have hcs : cs = arr .u64 4 D := by
    apply Array.ext_getElem?
    intro i
    by_cases hi : i < 4
    · obtain ⟨y, e, h0, h1⟩ := key i hi
      rw [arr_get .u64 4 _ hi, e, hD]
      dsimp only
      rw [e]
      simp [h0, h1]
    · rw [Array.getElem?_eq_none (by omega), Array.getElem?_eq_none (by rw [arr_size]; omega)]
  refine ⟨val B64 4 D, ?_, val_b4 hDw⟩
  rw [hcs, arr_num hDw]
end Go.Proofs.Ytiehjhlekpjlaaa

namespace Go.Proofs.Ytiehjhlekpjlaaa
open Go.ChangeShapes Go.WideShapes Go.ChangeAt Go.RowKit
set_option linter.unusedVariables false
set_option maxRecDepth 100000

theorem cells5 : Try.prog.cellsOf 5 = 1 := by kernel_rfl
theorem cells22 : Try.prog.cellsOf 22 = 32 := by kernel_rfl
/-- 32 bytes that came in. -/
theorem byt_in {H : Type} {enc : TypeId × Value → H} {W : World} {b0 : Nat} {v : Value} (hv : Value.okWide Try.prog W .any b0 22 v) {d : DataW H} {ps : List MemPlace} (h : DataW.Trod enc Try.prog W 0 (fun _ => true) true 22 v d ps) : ∃ f, v = .agg (byt f) ∧ ∀ i, B8 (f i) := by
  obtain ⟨cs, rfl, hsz, _⟩ : ∃ cs, v = .agg cs ∧ cs.size = Try.prog.cellsOf 22 ∧ Row.okWide Try.prog W .any b0 22 cs := by
    simpa [Value.okWide, Try.underlying22] using hv
  rw [cells22] at hsz
  obtain ⟨fuel, hf⟩ := h
  obtain ⟨xs, m, _, _, _, hxl, hx⟩ := DataW.trod_array Try.underlying22 hf
  have key : ∀ i, i < 32 → ∃ y : Int, cs[i]? = some (.int .u8 y) ∧ 0 ≤ y ∧ y < 256 := by
    intro i hi
    have h1 := hx i hi
    rw [cells5, List.getElem?_eq_getElem (by omega)] at h1
    obtain ⟨y, e0, _, hw⟩ := DataW.trod_int Try.underlying5 h1
    simp only [Lit.wf, Bool.and_eq_true, decide_eq_true_eq] at hw
    have u0 : IntKind.u8.min = 0 := rfl
    have u1 : IntKind.u8.max = 255 := rfl
    refine ⟨y, ?_, by omega, by omega⟩
    have e2 : (((Value.agg cs).cells.toList.drop (i * 1)).take 1)[0]? = some (.int .u8 y) := by rw [e0]; rfl
    rw [List.getElem?_take, if_pos (by decide), List.getElem?_drop] at e2
    simpa [Value.cells] using e2
  obtain ⟨D, hD⟩ : ∃ D : Nat → Int, D = fun i => match cs[i]? with | some (.int .u8 y) => (if 0 ≤ y ∧ y < 256 then y else 0) | _ => 0 := ⟨_, rfl⟩
  refine ⟨D, ?_, ?_⟩
  · congr 1
    apply Array.ext_getElem?
    intro i
    by_cases hi : i < 32
    · obtain ⟨y, e, h0, h1⟩ := key i hi
      rw [byt, arr_get .u8 32 _ hi, e, hD]
      dsimp only
      rw [e]
      simp [h0, h1]
    · rw [Array.getElem?_eq_none (by omega), Array.getElem?_eq_none (by rw [byt_size]; omega)]
  · intro i
    rw [hD]
    dsimp only
    split
    · split
      · assumption
      · exact ⟨by decide, by decide⟩
    · exact ⟨by decide, by decide⟩
end Go.Proofs.Ytiehjhlekpjlaaa
