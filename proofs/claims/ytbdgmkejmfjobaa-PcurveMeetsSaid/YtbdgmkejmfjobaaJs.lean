/-
  Numbers among the arguments, opened.
  Points among the arguments, opened.
-/
import Derived.Test.YtbdgmkejmfjobaaRows
import Derived.Test.YtbdgmkejmfjobaaJb
import Derived.SizedLaws
import Derived.WalkKit
import Derived.ProofKit
import Derived.OpenShut
import Derived.ChangeOld
import Derived.Below
import Derived.Test.YtbdgmkejmfjobaaPk
import Derived.Deep.Strs
namespace Go.Proofs.Ytbdgmkejmfjobaa
open Go.ChangeShapes Go.WideShapes Go.ChangeAt Go.RowKit
set_option linter.unusedVariables false
set_option maxRecDepth 100000

theorem own : ownKnob Try.prog.godebug = none := by kernel_rfl
theorem laidOut : laidOutB Try.prog = true := by kernel_rfl
theorem cells23 : Try.prog.cellsOf 22 = 1 := by kernel_rfl
theorem cells25 : Try.prog.cellsOf 24 = 4 := by kernel_rfl
theorem below {W W' : World} (h : Chg W W') : Below W.heap.size W W' := ⟨h.os, h.tape, h.output, h.size, h.block⟩

/-- A number that came in. -/
theorem num_in {H : Type} {enc : TypeId × Value → H} {W : World} {b0 : Nat} {v : Value} (hv : Value.okWide Try.prog W .any b0 24 v) {d : DataW H} {ps : List MemPlace} (h : DataW.Trod enc Try.prog W 0 (fun _ => true) true 24 v d ps) : ∃ x, v = .agg (num x) ∧ N256 x := by
  obtain ⟨cs, rfl, hsz, _⟩ : ∃ cs, v = .agg cs ∧ cs.size = Try.prog.cellsOf 24 ∧ Row.okWide Try.prog W .any b0 24 cs := by
    simpa [Value.okWide, Try.underlying24] using hv
  rw [cells25] at hsz
  obtain ⟨fuel, hf⟩ := h
  obtain ⟨xs, m, _, _, _, hxl, hx⟩ := DataW.trod_array Try.underlying24 hf
  have key : ∀ i, i < 4 → ∃ y : Int, cs[i]? = some (.int .u64 y) ∧ 0 ≤ y ∧ y < 18446744073709551616 := by
    intro i hi
    have h1 := hx i hi
    rw [cells23, List.getElem?_eq_getElem (by omega)] at h1
    obtain ⟨y, e0, _, hw⟩ := DataW.trod_int Try.underlying22 h1
    simp only [Lit.wf, Bool.and_eq_true, decide_eq_true_eq] at hw
    have u0 : IntKind.u64.min = 0 := rfl
    have u1 : IntKind.u64.max = 18446744073709551615 := rfl
    refine ⟨y, ?_, by omega, by omega⟩
    have e2 : (((Value.agg cs).cells.toList.drop (i * 1)).take 1)[0]? = some (.int .u64 y) := by rw [e0]; rfl
    rw [List.getElem?_take, if_pos (by decide), List.getElem?_drop] at e2
    simpa [Value.cells] using e2
  obtain ⟨D, hD⟩ : ∃ D : Nat → Int, D = fun i => match cs[i]? with | some (.int .u64 y) => (if 0 ≤ y ∧ y < 18446744073709551616 then y else 0) | _ => 0 := ⟨_, rfl⟩
  have hDw : ∀ i, W64 (D i) := by
    intro i
    rw [hD]
    dsimp only
    split
    · split
      · assumption
      · exact ⟨by decide, by decide⟩
    · exact ⟨by decide, by decide⟩
  have hcs : cs = arr .u64 4 D := by
    apply Array.ext_getElem?
    intro i
    by_cases hi : i < 4
    · obtain ⟨y, e, h0, h1⟩ := key i hi
      rw [arr_get .u64 4 _ hi, e, hD]
      dsimp only
      rw [e]
      simp [h0, h1]
    · rw [Array.getElem?_eq_none (by omega), Array.getElem?_eq_none (by rw [arr_size]; omega)]
  refine ⟨val B64 4 D, ?_, val_b4 hDw⟩
  rw [hcs, arr_num hDw]
end Go.Proofs.Ytbdgmkejmfjobaa

namespace Go.Proofs.Ytbdgmkejmfjobaa
open Go.ChangeShapes Go.WideShapes Go.ChangeAt Go.RowKit
set_option linter.unusedVariables false
set_option maxRecDepth 100000

theorem num_cells {H : Type} {enc : TypeId × Value → H} {W : World} {n : Nat} {L : List Value} {y : DataW H × List MemPlace} (h : DataW.trod enc Try.prog W 0 (fun _ => true) true n 24 L = some y) : ∃ x, L = (num x).toList ∧ N256 x := by
  obtain ⟨xs, m, _, _, hL, hxl, hx⟩ := DataW.trod_array Try.underlying24 h
  rw [cells25] at hL
  have key : ∀ i, i < 4 → ∃ y : Int, L[i]? = some (.int .u64 y) ∧ 0 ≤ y ∧ y < 18446744073709551616 := by
    intro i hi
    have h1 := hx i hi
    rw [cells23, List.getElem?_eq_getElem (by omega)] at h1
    obtain ⟨y, e0, _, hw⟩ := DataW.trod_int Try.underlying22 h1
    simp only [Lit.wf, Bool.and_eq_true, decide_eq_true_eq] at hw
    have u0 : IntKind.u64.min = 0 := rfl
    have u1 : IntKind.u64.max = 18446744073709551615 := rfl
    refine ⟨y, ?_, by omega, by omega⟩
    have e2 : ((L.drop (i * 1)).take 1)[0]? = some (.int .u64 y) := by rw [e0]; rfl
    rw [List.getElem?_take, if_pos (by decide), List.getElem?_drop] at e2
    simpa using e2
  obtain ⟨D, hD⟩ : ∃ D : Nat → Int, D = fun i => match L[i]? with | some (.int .u64 y) => (if 0 ≤ y ∧ y < 18446744073709551616 then y else 0) | _ => 0 := ⟨_, rfl⟩
  have hDw : ∀ i, W64 (D i) := by
    intro i
    rw [hD]
    dsimp only
    split
    · split
      · assumption
      · exact ⟨by decide, by decide⟩
    · exact ⟨by decide, by decide⟩
  have hcs : L = (arr .u64 4 D).toList := by
    apply List.ext_getElem?
    intro i
    rw [show (arr .u64 4 D).toList[i]? = (arr .u64 4 D)[i]? from Array.getElem?_toList]
    by_cases hi : i < 4
    · obtain ⟨y, e, h0, h1⟩ := key i hi
      rw [arr_get .u64 4 _ hi, e, hD]
      dsimp only
      rw [e]
      simp [h0, h1]
    · rw [List.getElem?_eq_none (by omega), Array.getElem?_eq_none (by rw [arr_size]; omega)]
  refine ⟨val B64 4 D, ?_, val_b4 hDw⟩
  rw [hcs, arr_num hDw]
theorem cells26 : Try.prog.cellsOf 26 = 9 := by kernel_rfl
theorem cells4 : Try.prog.cellsOf 4 = 1 := by kernel_rfl
theorem pt_list (z : Bool) (x y : Int) : pt z x y = (Value.bool z :: ((num x).toList ++ (num y).toList)).toArray := by
  refine Array.ext_getElem? fun i => ?_
  rw [show (Value.bool z :: ((num x).toList ++ (num y).toList)).toArray[i]? = (Value.bool z :: ((num x).toList ++ (num y).toList))[i]? from List.getElem?_toArray]
  match i with
  | 0 => rfl
  | i + 1 =>
    rw [List.getElem?_cons_succ]
    by_cases h4 : i < 4
    · rw [pt_get _ _ _ (by omega), List.getElem?_append_left (by rw [Array.length_toList, num_size]; exact h4), Array.getElem?_toList, num, arr_get _ _ _ h4, if_pos h4, Nat.mod_eq_of_lt h4]
    · rw [List.getElem?_append_right (by rw [Array.length_toList, num_size]; omega), Array.length_toList, num_size, Array.getElem?_toList]
      by_cases h8 : i < 8
      · rw [pt_get _ _ _ h8, num, arr_get _ _ _ (by omega), if_neg h4, show i % 4 = i - 4 by omega]
      · rw [Array.getElem?_eq_none (by rw [pt_size]; omega), Array.getElem?_eq_none (by rw [num_size]; omega)]
/-- A point that came in. -/
theorem pt_in {H : Type} {enc : TypeId × Value → H} {W : World} {b0 : Nat} {v : Value} (hv : Value.okWide Try.prog W .any b0 26 v) {d : DataW H} {ps : List MemPlace} (h : DataW.Trod enc Try.prog W 0 (fun _ => true) true 26 v d ps) : ∃ z x y, v = .agg (pt z x y) ∧ N256 x ∧ N256 y := by
  obtain ⟨cs, rfl, hsz, _⟩ : ∃ cs, v = .agg cs ∧ cs.size = Try.prog.cellsOf 26 ∧ Row.okWide Try.prog W .any b0 26 cs := by
    simpa [Value.okWide, Try.underlying26] using hv
  rw [cells26] at hsz
  obtain ⟨fuel, hf⟩ := h
  obtain ⟨y0, y1, y2, n, _, hl, h0, h1, h2⟩ := Go.Deep.trod_struct3 Try.underlying26 hf
  obtain ⟨x, ex, nx⟩ := num_cells h1
  obtain ⟨y, ey, ny⟩ := num_cells h2
  obtain ⟨z, ez⟩ : ∃ z, (((Value.agg cs).cells.toList).drop 0).take 1 = [.bool z] := by
    have := h0
    simp only [cells4] at this
    obtain ⟨z, e0, _⟩ := DataW.trod_bool (show Try.prog.underlying 4 = some .bool by kernel_rfl) this
    exact ⟨z, e0⟩
  refine ⟨z, x, y, ?_, nx, ny⟩
  rw [pt_list]
  congr 1
  have c1 : (cs.toList.drop 1).take 4 = (num x).toList := by simpa [Value.cells, cells25] using ex
  have c2 : (cs.toList.drop 5).take 4 = (num y).toList := by simpa [Value.cells, cells25] using ey
  have c0 : cs.toList.take 1 = [.bool z] := by simpa [Value.cells] using ez
  have hlen : cs.toList.length = 9 := by rw [Array.length_toList]; exact hsz
  have e : cs.toList = cs.toList.take 1 ++ ((cs.toList.drop 1).take 4 ++ (cs.toList.drop 5).take 4) := by
    rw [List.take_of_length_le (l := cs.toList.drop 5) (by rw [List.length_drop]; omega), show cs.toList.drop 5 = (cs.toList.drop 1).drop 4 by rw [List.drop_drop], List.take_append_drop, List.take_append_drop]
  rw [c0, c1, c2] at e
  have : cs = cs.toList.toArray := by simp
  rw [this, e]
  rfl
end Go.Proofs.Ytbdgmkejmfjobaa
