/-
  Slices of bytes among the arguments, opened; the tables as the program's text lays them.
  A slice of bytes among the arguments can be read, and its bytes are bytes.
  Arrays of 32 bytes among the arguments, opened.
-/
import Derived.Test.YtjfidbifjagnpaaDoorRows
import Derived.Test.YtjfidbifjagnpaaDoorJsc
import Derived.SizedLaws
import Derived.WalkKit
import Derived.ProofKit
import Derived.OpenShut
import Derived.Below
import Derived.ChangeOld
import Derived.LaidMore
import Derived.Stop.Joined
import Derived.Lib.LaidTab
import Derived.Stop.LaidErr
import Derived.Lib.ItoaMem
import Derived.Test.YtjfidbifjagnpaaDoorJq
import Derived.Test.YtjfidbifjagnpaaDoorJh
namespace Go.Proofs.YtjfidbifjagnpaaDoor.Sha
open Go.ChangeShapes Go.WideShapes Go.ChangeAt Go.RowKit
set_option linter.unusedVariables false
set_option maxRecDepth 100000
theorem own : ownKnob Tryd.prog.godebug = none := by kernel_rfl
theorem laidOut : laidOutB Tryd.prog = true := by kernel_rfl
theorem bytes5 : Tryd.prog.bytesOf 5 = 1 := by kernel_rfl
theorem cells5 : Tryd.prog.cellsOf 5 = 1 := by kernel_rfl
theorem cells40 : Tryd.prog.cellsOf 30 = 1 := by kernel_rfl
theorem bytes_in {H : Type} {enc : TypeId × Value → H} {W : World} {ts : List TypeId} {ds : List (DataW H)} (hsz : (DataW.weightsEach Tryd.prog ts ds).all (· ≤ reachBytes) = true) {j : Nat} (hj : ts[j]? = some 23) {d : DataW H} (hd : ds[j]? = some d)
  {a : Option Addr} {len cap : Nat} {ps : List MemPlace} (h : DataW.Trod enc Tryd.prog W 0 (fun _ => true) true 23 (.slice a len cap) d ps) : ∃ xs, SlA W (.slice a len cap) xs ∧ xs.length = len ∧ len ≤ 140737488351232 := by
 obtain ⟨fuel, hf⟩ := h
 rcases open_ints Tryd.underlying23 Tryd.underlying5 cells5 hf with ⟨hcs, _⟩ | ⟨x, l, c, zs, hcs, _, hl, hm, hz, hx, hcell, hwz⟩
 ·simp [Value.cells] at hcs
  obtain ⟨rfl, rfl, rfl⟩ := hcs
  exact ⟨[], .inl ⟨rfl, rfl⟩, rfl, by omega⟩
 ·simp [Value.cells] at hcs
  obtain ⟨rfl, rfl, rfl⟩ := hcs
  have hz' : zs.length = cap := by simpa using hz
  simp only [Prod.mk.injEq] at hx
  have hd' : d = .slice (lits .u8 (zs.take len)) (lits .u8 (zs.drop len)) := hx.1
  subst hd'
  have hre := sized_slice hsz (j := j) (t := 23) (e := 5) hj hd Tryd.underlying23
  rw [bytes5] at hre
  simp only [lits, List.length_map, List.length_take, List.length_drop, reachBytes] at hre
  have hlen : (zs.take len).length = len := by rw [List.length_take]; omega
  refine ⟨zs.take len, ?_, hlen, by omega⟩
  obtain ⟨b, o, spot⟩ := x
  by_cases h0 : len = 0
  ·subst h0
   exact .inr (.inl ⟨_, _, rfl, by simp⟩)
  ·have hsp : spot = none := by
    have := hcell 0 (by omega)
    unfold World.cell? at this
    cases spot with
    | none => rfl
    | some s => 
     exfalso
     revert this
     split
     ·simp [Addr.add]
     ·simp
   subst hsp
   refine .inr (.inr ⟨b, o, cap, by rw [hlen], by omega, by omega, fun k hk => ?_⟩)
   rw [hlen] at hk
   have := hcell k (by omega)
   have hadd : (⟨b, o, none⟩ : Addr).add k = ⟨b, o + k, none⟩ := by unfold Addr.add; split <;> simp_all
   rw [hadd] at this
   rw [this]
   simp [gd, List.getD_eq_getElem?_getD, hk]
def laidL : List (String × DataW Unit) := [("drawbridge/sha.numbers", Rows.laid_drawbridge_sha_numbers), ("drawbridge/sha.roots", Rows.laid_drawbridge_sha_roots)]
theorem door_met (os : Os) (args : Array Value) : laidMetH Tryd.prog laidL ((World.doorLaid Tryd.prog 400 os).forCall (fun _ _ => 0) ⟨#[], args, []⟩).memory :=
 laidMetH_of_parts3 (fuel := 8) (laidMet_of_run' 8 (by kernel_rfl) (by kernel_rfl)) (by kernel_rfl) (by kernel_rfl)
theorem gNum : Tryd.prog.globalNamed "drawbridge/sha.numbers" = some 1 := by kernel_rfl
theorem gRoot : Tryd.prog.globalNamed "drawbridge/sha.roots" = some 0 := by kernel_rfl
theorem tNum : (Tryd.prog.globals[1]?).map (·.type) = some 129 := by kernel_rfl
theorem tRoot : (Tryd.prog.globals[0]?).map (·.type) = some 112 := by kernel_rfl
theorem var_cell {W : World} {name : String} {g : Nat} {zs : List Int} (hg : Tryd.prog.globalNamed name = some g) (h : Lib.TabIs Tryd.prog W name .u64 zs) (t : Nat) (ht : t < zs.length) : W.cell? ⟨g, t, none⟩ = some (.int .u64 (zs.getD t 0)) := by
 unfold Lib.TabIs World.var? at h
 rw [hg] at h
 simp only [Option.bind_some] at h
 split at h
 ·rename_i cs e f hq
  have hcs := Option.some.inj h
  rw [cell_of_row W g t cs e f hq, hcs]
  simp [List.getD_eq_getElem?_getD, ht]
 ·cases h
theorem tabs_of {W : World} (h : laidMetH Tryd.prog laidL W) : Tabs W := by
 rw [MakeChecks.laidMetH_plain _ _ _ (by kernel_rfl)] at h
 have h1 : Lib.TabIs Tryd.prog W "drawbridge/sha.numbers" .u64 numbL := Lib.tabIs_of_head gNum tNum Tryd.underlying129 Tryd.underlying30 cells40 (by kernel_rfl) h
 have h2 : Lib.TabIs Tryd.prog W "drawbridge/sha.roots" .u64 rootL := Lib.tabIs_of_head gRoot tRoot Tryd.underlying112 Tryd.underlying30 cells40 (by kernel_rfl) h.tail
 exact ⟨fun t ht => var_cell gNum h1 t ht, fun t ht => var_cell gRoot h2 t ht⟩
end Go.Proofs.YtjfidbifjagnpaaDoor.Sha
namespace Go.Proofs.YtjfidbifjagnpaaDoor.Sha
open Go.ChangeShapes Go.WideShapes Go.ChangeAt Go.RowKit
set_option linter.unusedVariables false
set_option maxRecDepth 100000
theorem bytes_rd {H : Type} {enc : TypeId × Value → H} {W : World} {ts : List TypeId} {ds : List (DataW H)} (hsz : (DataW.weightsEach Tryd.prog ts ds).all (· ≤ reachBytes) = true) {j : Nat} (hj : ts[j]? = some 23) {d : DataW H} (hd : ds[j]? = some d)
  {a : Option Addr} {len cap : Nat} {ps : List MemPlace} (h : DataW.Trod enc Tryd.prog W 0 (fun _ => true) true 23 (.slice a len cap) d ps) : ∃ xs, Ap.Rd W (.slice a len cap) xs ∧ (∀ x ∈ xs, 0 ≤ x ∧ x < 256) ∧ xs.length ≤ 140737488351232 := by
 obtain ⟨fuel, hf⟩ := h
 rcases open_ints Tryd.underlying23 Tryd.underlying5 cells5 hf with ⟨hcs, _⟩ | ⟨x, l, c, zs, hcs, _, hl, hm, hz, hx, hcell, hwz⟩
 ·simp [Value.cells] at hcs
  obtain ⟨rfl, rfl, rfl⟩ := hcs
  exact ⟨[], Ap.Rd.nil W, (fun x hx => absurd hx (by simp)), by simp⟩
 ·simp [Value.cells] at hcs
  obtain ⟨rfl, rfl, rfl⟩ := hcs
  have hz' : zs.length = cap := by simpa using hz
  simp only [Prod.mk.injEq] at hx
  have hd' : d = .slice (lits .u8 (zs.take len)) (lits .u8 (zs.drop len)) := hx.1
  subst hd'
  have hre := sized_slice hsz (j := j) (t := 23) (e := 5) hj hd Tryd.underlying23
  rw [bytes5] at hre
  simp only [lits, List.length_map, List.length_take, List.length_drop, reachBytes] at hre
  have hlen : (zs.take len).length = len := by rw [List.length_take]; omega
  refine ⟨zs.take len, ⟨_, _, _, rfl, hlen.symm, hl, hm, (fun e => absurd e (by simp)), fun y e k u hk => ?_⟩, fun y hy => ?_, by omega⟩
  ·injection e with e
   subst e
   rw [List.getElem?_take] at hk
   split at hk
   ·have hkl : k < zs.length := by
     rcases Nat.lt_or_ge k zs.length with h | h
     ·exact h
     ·rw [List.getElem?_eq_none h] at hk
      cases hk
    rw [hcell k hkl, List.getD_eq_getElem?_getD, hk]
    rfl
   ·cases hk
  ·have := hwz y (List.mem_of_mem_take hy)
   simp only [Lit.wf, Bool.and_eq_true, decide_eq_true_eq] at this
   have h0 : IntKind.u8.min = 0 := rfl
   have h1 : IntKind.u8.max = 255 := rfl
   omega
end Go.Proofs.YtjfidbifjagnpaaDoor.Sha
namespace Go.Proofs.YtjfidbifjagnpaaDoor
open Go.ChangeShapes Go.WideShapes Go.ChangeAt Go.RowKit
set_option linter.unusedVariables false
set_option maxRecDepth 100000
theorem cells5 : Tryd.prog.cellsOf 5 = 1 := by kernel_rfl
theorem cells22 : Tryd.prog.cellsOf 22 = 32 := by kernel_rfl
theorem byt_in {H : Type} {enc : TypeId × Value → H} {W : World} {b0 : Nat} {v : Value} (hv : Value.okWide Tryd.prog W .any b0 22 v) {d : DataW H} {ps : List MemPlace} (h : DataW.Trod enc Tryd.prog W 0 (fun _ => true) true 22 v d ps) : ∃ f, v = .agg (byt f) ∧ ∀ i, B8 (f i) := by
 obtain ⟨cs, rfl, hsz, _⟩ : ∃ cs, v = .agg cs ∧ cs.size = Tryd.prog.cellsOf 22 ∧ Row.okWide Tryd.prog W .any b0 22 cs := by
  simpa [Value.okWide, Tryd.underlying22] using hv
 rw [cells22] at hsz
 obtain ⟨fuel, hf⟩ := h
 obtain ⟨xs, m, _, _, _, hxl, hx⟩ := DataW.trod_array Tryd.underlying22 hf
 have key : ∀ i, i < 32 → ∃ y : Int, cs[i]? = some (.int .u8 y) ∧ 0 ≤ y ∧ y < 256 := by
  intro i hi
  have h1 := hx i hi
  rw [cells5, List.getElem?_eq_getElem (by omega)] at h1
  obtain ⟨y, e0, _, hw⟩ := DataW.trod_int Tryd.underlying5 h1
  simp only [Lit.wf, Bool.and_eq_true, decide_eq_true_eq] at hw
  have u0 : IntKind.u8.min = 0 := rfl
  have u1 : IntKind.u8.max = 255 := rfl
  refine ⟨y, ?_, by omega, by omega⟩
  have e2 : (((Value.agg cs).cells.toList.drop (i * 1)).take 1)[0]? = some (.int .u8 y) := by rw [e0]; rfl
  rw [List.getElem?_take, if_pos (by decide), List.getElem?_drop] at e2
  simpa [Value.cells] using e2
 obtain ⟨D, hD⟩ : ∃ D : Nat → Int, D = fun i => match cs[i]? with | some (.int .u8 y) => (if 0 ≤ y ∧ y < 256 then y else 0) | _ => 0 := ⟨_, rfl⟩
 refine ⟨D, ?_, ?_⟩
 ·congr 1
  apply Array.ext_getElem?
  intro i
  by_cases hi : i < 32
  ·obtain ⟨y, e, h0, h1⟩ := key i hi
   rw [byt, arr_get .u8 32 _ hi, e, hD]
   dsimp only
   rw [e]
   simp [h0, h1]
  ·rw [Array.getElem?_eq_none (by omega), Array.getElem?_eq_none (by rw [byt_size]; omega)]
 ·intro i
  rw [hD]
  dsimp only
  split
  ·split
   ·assumption
   ·exact ⟨by decide, by decide⟩
  ·exact ⟨by decide, by decide⟩
end Go.Proofs.YtjfidbifjagnpaaDoor
