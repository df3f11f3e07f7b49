/-
  Slices of bytes among the arguments, opened.
-/
import Derived.Test.YtdhckndehijemaaRows
import Derived.Test.YtdhckndehijemaaRl
import Derived.SizedLaws
import Derived.WalkKit
import Derived.ProofKit
import Derived.OpenShut
import Derived.ChangeOld
import Derived.Below
namespace Go.Proofs.Ytdhckndehijemaa
open Go.ChangeShapes Go.WideShapes Go.ChangeAt Go.RowKit
set_option linter.unusedVariables false
set_option maxRecDepth 100000

theorem own : ownKnob Try.prog.godebug = none := by kernel_rfl
theorem laidOut : laidOutB Try.prog = true := by kernel_rfl
theorem bytes5 : Try.prog.bytesOf 5 = 1 := by kernel_rfl
theorem cells5 : Try.prog.cellsOf 5 = 1 := by kernel_rfl
theorem below {W W' : World} (h : Chg Non W W') : Below W.heap.size W W' := ⟨h.os, h.tape, h.output, h.size, fun k hk => h.block k hk (fun s => s)⟩

theorem shape_lt {W : World} {b : Nat} {x : TypeId × Nat} (h : W.shape? b = some x) : b < W.heap.size := by
  unfold World.shape? at h
  cases hq : W.heap[b]? with
  | none => rw [hq] at h; simp at h
  | some o => exact (Array.getElem?_eq_some_iff.1 hq).1
theorem slice_lt {W : World} {base : Nat} {a : Addr} {len cap : Nat} (h : Value.okWide Try.prog W .any base 23 (.slice (some a) len cap)) : a.block < W.heap.size := by
  simp only [Value.okWide, Try.underlying23, Cell.okWide, Cell.ok] at h
  obtain ⟨-, -, -, -, row, cells, hs, -⟩ := h
  exact shape_lt hs

/-- A slice of bytes that came in can be read. -/
theorem bytes_in {H : Type} {enc : TypeId × Value → H} {W : World} {ts : List TypeId} {ds : List (DataW H)} (hsz : (DataW.weightsEach Try.prog ts ds).all (· ≤ reachBytes) = true) {j : Nat} (hj : ts[j]? = some 23) {d : DataW H} (hd : ds[j]? = some d)
    {a : Option Addr} {len cap : Nat} {ps : List MemPlace} {base : Nat} (hv : Value.okWide Try.prog W .any base 23 (.slice a len cap)) (h : DataW.Trod enc Try.prog W 0 (fun _ => true) true 23 (.slice a len cap) d ps) : ∃ xs, Bt (Bel W.heap.size) W (.slice a len cap) xs ∧ xs.length ≤ 140737488351232 := by
  obtain ⟨fuel, hf⟩ := h
  rcases open_ints Try.underlying23 Try.underlying5 cells5 hf with ⟨hcs, _⟩ | ⟨x, l, c, zs, hcs, _, hl, hm, hz, hx, hcell, hwz⟩
  · simp [Value.cells] at hcs
    obtain ⟨rfl, rfl, rfl⟩ := hcs
    exact ⟨[], ⟨Rd.nil W, Byt.nil, fun k e => by cases e⟩, by simp⟩
  · simp [Value.cells] at hcs
    obtain ⟨rfl, rfl, rfl⟩ := hcs
    have hz' : zs.length = cap := by simpa using hz
    simp only [Prod.mk.injEq] at hx
    have hd' : d = .slice (lits .u8 (zs.take len)) (lits .u8 (zs.drop len)) := hx.1
    subst hd'
    have hre := sized_slice hsz (j := j) (t := 23) (e := 5) hj hd Try.underlying23
    rw [bytes5] at hre
    simp only [lits, List.length_map, List.length_take, List.length_drop, reachBytes] at hre
    have hlen : (zs.take len).length = len := by rw [List.length_take]; omega
    have hby : Byt (zs.take len) := fun y hy => by
      have := hwz y (List.mem_of_mem_take hy)
      simp only [Lit.wf, Bool.and_eq_true, decide_eq_true_eq] at this
      have h0 : IntKind.u8.min = 0 := rfl
      have h1 : IntKind.u8.max = 255 := rfl
      omega
    refine ⟨zs.take len, ⟨⟨_, _, _, rfl, hlen.symm, hl, hm, (fun e => absurd e (by simp)), fun y e k u hk => ?_⟩, hby, fun k e => ?_⟩, by omega⟩
    · injection e with e
      subst e
      rw [List.getElem?_take] at hk
      split at hk
      · have hkl : k < zs.length := by
          rcases Nat.lt_or_ge k zs.length with h | h
          · exact h
          · rw [List.getElem?_eq_none h] at hk
            cases hk
        rw [hcell k hkl, List.getD_eq_getElem?_getD, hk]
        rfl
      · cases hk
    · injection e with e
      subst e
      exact slice_lt hv
end Go.Proofs.Ytdhckndehijemaa
