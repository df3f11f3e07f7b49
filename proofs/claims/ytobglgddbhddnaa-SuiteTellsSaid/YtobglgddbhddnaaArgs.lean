/-
  Slices of bytes and blocks among the arguments, opened.
-/
import Derived.Test.YtobglgddbhddnaaRows
import Derived.Test.YtobglgddbhddnaaApB
import Derived.SizedLaws
import Derived.WalkKit
import Derived.ProofKit
import Derived.OpenShut
import Derived.ChangeOld
import Derived.Below
namespace Go.Proofs.Ytobglgddbhddnaa
open Go.ChangeShapes Go.WideShapes Go.ChangeAt Go.RowKit
set_option linter.unusedVariables false
set_option maxRecDepth 100000

theorem own : ownKnob Try.prog.godebug = none := by kernel_rfl
theorem laidOut : laidOutB Try.prog = true := by kernel_rfl
theorem bytes5 : Try.prog.bytesOf 5 = 1 := by kernel_rfl
theorem cells5 : Try.prog.cellsOf 5 = 1 := by kernel_rfl
theorem cells32 : Try.prog.cellsOf 60 = 16 := by kernel_rfl
theorem below {W W' : World} (h : Chg W W') : Below W.heap.size W W' := ⟨h.os, h.tape, h.output, h.size, h.block⟩

def fList (xs : List Int) : Nat → By := fun i => BitVec.ofNat 8 (xs.getD i 0).toNat
theorem fList_nums (xs : List Int) (h : ∀ x ∈ xs, 0 ≤ x ∧ x < 256) : nums xs.length (fList xs) = xs := by
  apply List.ext_getElem?
  intro j
  by_cases hj : j < xs.length
  · rw [nums_get _ _ hj, List.getElem?_eq_getElem hj]
    have h1 := h xs[j] (List.getElem_mem hj)
    have e : xs.getD j 0 = xs[j] := by simp [List.getD_eq_getElem?_getD, List.getElem?_eq_getElem hj]
    unfold fList
    rw [e, BitVec.toNat_ofNat]
    congr 1
    omega
  · rw [List.getElem?_eq_none (by rw [nums_len]; omega), List.getElem?_eq_none (by omega)]

/-- A slice of bytes that came in can be read. -/
theorem bytes_in {H : Type} {enc : TypeId × Value → H} {W : World} {ts : List TypeId} {ds : List (DataW H)} (hsz : (DataW.weightsEach Try.prog ts ds).all (· ≤ reachBytes) = true) {j : Nat} (hj : ts[j]? = some 35) {d : DataW H} (hd : ds[j]? = some d)
    {a : Option Addr} {len cap : Nat} {ps : List MemPlace} (h : DataW.Trod enc Try.prog W 0 (fun _ => true) true 35 (.slice a len cap) d ps) : ∃ f, Ap.Rd W (.slice a len cap) (nums len f) ∧ len ≤ 140737488351232 := by
  obtain ⟨fuel, hf⟩ := h
  rcases open_ints Try.underlying35 Try.underlying5 cells5 hf with ⟨hcs, _⟩ | ⟨x, l, c, zs, hcs, _, hl, hm, hz, hx, hcell, hwz⟩
  · simp [Value.cells] at hcs
    obtain ⟨rfl, rfl, rfl⟩ := hcs
    exact ⟨zB, Ap.Rd.nil W, by simp⟩
  · simp [Value.cells] at hcs
    obtain ⟨rfl, rfl, rfl⟩ := hcs
    have hz' : zs.length = cap := by simpa using hz
    simp only [Prod.mk.injEq] at hx
    have hd' : d = .slice (lits .u8 (zs.take len)) (lits .u8 (zs.drop len)) := hx.1
    subst hd'
    have hre := sized_slice hsz (j := j) (t := 35) (e := 5) hj hd Try.underlying35
    rw [bytes5] at hre
    simp only [lits, List.length_map, List.length_take, List.length_drop, reachBytes] at hre
    have hlen : (zs.take len).length = len := by rw [List.length_take]; omega
    have hby : ∀ y ∈ zs.take len, 0 ≤ y ∧ y < 256 := fun y hy => by
      have := hwz y (List.mem_of_mem_take hy)
      simp only [Lit.wf, Bool.and_eq_true, decide_eq_true_eq] at this
      have h0 : IntKind.u8.min = 0 := rfl
      have h1 : IntKind.u8.max = 255 := rfl
      omega
    refine ⟨fList (zs.take len), ?_, by omega⟩
    have e := fList_nums _ hby
    rw [hlen] at e
    rw [e]
    refine ⟨_, _, _, rfl, hlen.symm, hl, hm, (fun e => absurd e (by simp)), fun y e k u hk => ?_⟩
    injection e with e
    subst e
    rw [List.getElem?_take] at hk
    split at hk
    · have hkl : k < zs.length := by
        rcases Nat.lt_or_ge k zs.length with h | h
        · exact h
        · rw [List.getElem?_eq_none h] at hk
          cases hk
      rw [hcell k hkl, List.getD_eq_getElem?_getD, hk]
      rfl
    · cases hk

/-- A block that came in. -/
theorem block_in {H : Type} {enc : TypeId × Value → H} {W : World} {b0 : Nat} {v : Value} (hv : Value.okWide Try.prog W .any b0 60 v) {d : DataW H} {ps : List MemPlace} (h : DataW.Trod enc Try.prog W 0 (fun _ => true) true 60 v d ps) : ∃ f, v = .agg (ba 16 f) := by
  obtain ⟨cs, rfl, hsz, _⟩ : ∃ cs, v = .agg cs ∧ cs.size = Try.prog.cellsOf 60 ∧ Row.okWide Try.prog W .any b0 60 cs := by
    simpa [Value.okWide, Try.underlying60] using hv
  rw [cells32] at hsz
  obtain ⟨fuel, hf⟩ := h
  obtain ⟨xs, m, _, _, _, hxl, hx⟩ := DataW.trod_array Try.underlying60 hf
  have key : ∀ i, i < 16 → ∃ y : Int, cs[i]? = some (.int .u8 y) ∧ 0 ≤ y ∧ y < 256 := by
    intro i hi
    have h1 := hx i hi
    rw [cells5, List.getElem?_eq_getElem (by omega)] at h1
    obtain ⟨y, e0, _, hw⟩ := DataW.trod_int Try.underlying5 h1
    simp only [Lit.wf, Bool.and_eq_true, decide_eq_true_eq] at hw
    have u0 : IntKind.u8.min = 0 := rfl
    have u1 : IntKind.u8.max = 255 := rfl
    refine ⟨y, ?_, by omega, by omega⟩
    have e2 : (((Value.agg cs).cells.toList.drop (i * 1)).take 1)[0]? = some (.int .u8 y) := by rw [e0]; rfl
    rw [List.getElem?_take, if_pos (by decide), List.getElem?_drop] at e2
    simpa [Value.cells] using e2
  refine ⟨fun i => match cs[i]? with | some (.int _ y) => BitVec.ofNat 8 y.toNat | _ => 0#8, ?_⟩
  congr 1
  apply Array.ext_getElem?
  intro i
  by_cases hi : i < 16
  · obtain ⟨y, e, h0, h1⟩ := key i hi
    rw [ba_get 16 _ hi, e]
    simp only [BitVec.toNat_ofNat]
    congr 2
    omega
  · rw [Array.getElem?_eq_none (by omega)]
    simp [ba, arr, hi]
end Go.Proofs.Ytobglgddbhddnaa
