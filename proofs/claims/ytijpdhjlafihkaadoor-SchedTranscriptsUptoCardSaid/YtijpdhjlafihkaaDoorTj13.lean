/-
  Slices of bytes among the arguments, opened; the tables as the program's text lays them.
-/
import Derived.Test.YtijpdhjlafihkaaDoorRows
import Derived.Test.YtijpdhjlafihkaaDoorTj12
import Derived.SizedLaws
import Derived.WalkKit
import Derived.ProofKit
import Derived.OpenShut
import Derived.Below
import Derived.ChangeOld
import Derived.LaidMore
import Derived.Stop.Joined
import Derived.Lib.LaidTab
import Derived.Stop.LaidErr
import Derived.Lib.ItoaMem
namespace Go.Proofs.YtijpdhjlafihkaaDoor
open Go.ChangeShapes Go.WideShapes Go.ChangeAt Go.RowKit
set_option linter.unusedVariables false
set_option maxRecDepth 100000

theorem own : ownKnob Tryd.prog.godebug = none := by kernel_rfl
theorem laidOut : laidOutB Tryd.prog = true := by kernel_rfl
theorem bytes5 : Tryd.prog.bytesOf 5 = 1 := by kernel_rfl
theorem cells5 : Tryd.prog.cellsOf 5 = 1 := by kernel_rfl
theorem cells40 : Tryd.prog.cellsOf 55 = 1 := by kernel_rfl

/-- A slice of bytes that came in can be read, and it is no longer than the form's own reach. -/
theorem bytes_in {H : Type} {enc : TypeId × Value → H} {W : World} {ts : List TypeId} {ds : List (DataW H)} (hsz : (DataW.weightsEach Tryd.prog ts ds).all (· ≤ reachBytes) = true) {j : Nat} (hj : ts[j]? = some 23) {d : DataW H} (hd : ds[j]? = some d)
    {a : Option Addr} {len cap : Nat} {ps : List MemPlace} (h : DataW.Trod enc Tryd.prog W 0 (fun _ => true) true 23 (.slice a len cap) d ps) : ∃ xs, SlA W (.slice a len cap) xs ∧ xs.length = len ∧ len ≤ 140737488351232 := by
  obtain ⟨fuel, hf⟩ := h
  rcases open_ints Tryd.underlying23 Tryd.underlying5 cells5 hf with ⟨hcs, _⟩ | ⟨x, l, c, zs, hcs, _, hl, hm, hz, hx, hcell, hwz⟩
  · simp [Value.cells] at hcs
    obtain ⟨rfl, rfl, rfl⟩ := hcs
    exact ⟨[], .inl ⟨rfl, rfl⟩, rfl, by omega⟩
  · simp [Value.cells] at hcs
    obtain ⟨rfl, rfl, rfl⟩ := hcs
    have hz' : zs.length = cap := by simpa using hz
    simp only [Prod.mk.injEq] at hx
    have hd' : d = .slice (lits .u8 (zs.take len)) (lits .u8 (zs.drop len)) := hx.1
    subst hd'
    have hre := sized_slice hsz (j := j) (t := 23) (e := 5) hj hd Tryd.underlying23
    rw [bytes5] at hre
    simp only [lits, List.length_map, List.length_take, List.length_drop, reachBytes] at hre
    have hlen : (zs.take len).length = len := by rw [List.length_take]; omega
    refine ⟨zs.take len, ?_, hlen, by omega⟩
    obtain ⟨b, o, spot⟩ := x
    by_cases h0 : len = 0
    · subst h0
      exact .inr (.inl ⟨_, _, rfl, by simp⟩)
    · have hsp : spot = none := by
        have := hcell 0 (by omega)
        unfold World.cell? at this
        cases spot with
        | none => rfl
        | some s => 
          exfalso
          revert this
          split
          · simp [Addr.add]
          · simp
      subst hsp
      refine .inr (.inr ⟨b, o, cap, by rw [hlen], by omega, by omega, fun k hk => ?_⟩)
      rw [hlen] at hk
      have := hcell k (by omega)
      have hadd : (⟨b, o, none⟩ : Addr).add k = ⟨b, o + k, none⟩ := by unfold Addr.add; split <;> simp_all
      rw [hadd] at this
      rw [this]
      simp [gd, List.getD_eq_getElem?_getD, hk]

def laidL : List (String × DataW Unit) := [("drawbridge/sha.numbers", Rows.laid_drawbridge_sha_numbers), ("drawbridge/sha.roots", Rows.laid_drawbridge_sha_roots)]

theorem door_met (os : Os) (args : Array Value) : laidMetH Tryd.prog laidL ((World.doorLaid Tryd.prog 400 os).forCall (fun _ _ => 0) ⟨#[], args, []⟩).memory :=
  laidMetH_of_parts3 (fuel := 8) (laidMet_of_run' 8 (by kernel_rfl) (by kernel_rfl)) (by kernel_rfl) (by kernel_rfl)

theorem gNum : Tryd.prog.globalNamed "drawbridge/sha.numbers" = some 1 := by kernel_rfl
theorem gRoot : Tryd.prog.globalNamed "drawbridge/sha.roots" = some 0 := by kernel_rfl
theorem tNum : (Tryd.prog.globals[1]?).map (·.type) = some 92 := by kernel_rfl
theorem tRoot : (Tryd.prog.globals[0]?).map (·.type) = some 94 := by kernel_rfl

theorem var_cell {W : World} {name : String} {g : Nat} {zs : List Int} (hg : Tryd.prog.globalNamed name = some g) (h : Lib.TabIs Tryd.prog W name .u64 zs) (t : Nat) (ht : t < zs.length) : W.cell? ⟨g, t, none⟩ = some (.int .u64 (zs.getD t 0)) := by
  unfold Lib.TabIs World.var? at h
  rw [hg] at h
  simp only [Option.bind_some] at h
  split at h
  · rename_i cs e f hq
    have hcs := Option.some.inj h
    rw [cell_of_row W g t cs e f hq, hcs]
    simp [List.getD_eq_getElem?_getD, ht]
  · cases h

theorem tabs_of {W : World} (h : laidMetH Tryd.prog laidL W) : Tabs W := by
  rw [MakeChecks.laidMetH_plain _ _ _ (by kernel_rfl)] at h
  have h1 : Lib.TabIs Tryd.prog W "drawbridge/sha.numbers" .u64 numbL := Lib.tabIs_of_head gNum tNum Tryd.underlying92 Tryd.underlying55 cells40 (by kernel_rfl) h
  have h2 : Lib.TabIs Tryd.prog W "drawbridge/sha.roots" .u64 rootL := Lib.tabIs_of_head gRoot tRoot Tryd.underlying94 Tryd.underlying55 cells40 (by kernel_rfl) h.tail
  exact ⟨fun t ht => var_cell gNum h1 t ht, fun t ht => var_cell gRoot h2 t ht⟩
end Go.Proofs.YtijpdhjlafihkaaDoor
