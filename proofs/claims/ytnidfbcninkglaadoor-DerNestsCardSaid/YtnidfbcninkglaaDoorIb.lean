/-
  errors.As at a fault: the fault itself.
-/
import Derived.Test.YtnidfbcninkglaaDoorAs
namespace Go.Proofs.YtnidfbcninkglaaDoor
open Go.RowKit Go.Extern.Stop Go.Stop Go.Extern
set_option linter.unusedVariables false
set_option maxRecDepth 100000

theorem valueOf68 (t : Addr) (w : World) : (ReflectliteValue.unpack (.iface 68 (.pointer (some t)))).run Tryd.prog w
    = .ok (.agg #[.pointer (some ⟨9, 68, none⟩), .pointer (some ⟨w.heap.size, 0, none⟩), .int .u64 150]) (w.alloc (.cells #[.pointer (some t)] 68)) := by kernel_rfl
theorem type68 (a : Addr) (w : World) : (ReflectliteValue.methodAny (ReflectliteValue.valueError "reflectlite.Value.Type" 0) (fun t _ _ _ => ReflectliteType.toType t) #[.agg #[.pointer (some ⟨9, 68, none⟩), .pointer (some a), .int .u64 150]]).run Tryd.prog w
    = .ok (.iface 126 (.agg #[.pointer (some ⟨9, 68, none⟩)])) w := by kernel_rfl
theorem kind68 (w : World) : ((ReflectliteType.abiMethod fun t => (fun a : Nat => Value.int IntKind.u8 (a : Int)) <$> Rtype.kind t) #[.pointer (some ⟨9, 68, none⟩)]).run Tryd.prog w = .ok (.int .u8 22) w := by kernel_rfl
theorem kind66 (w : World) : ((ReflectliteType.abiMethod fun t => (fun a : Nat => Value.int IntKind.u8 (a : Int)) <$> Rtype.kind t) #[.pointer (some ⟨9, 66, none⟩)]).run Tryd.prog w = .ok (.int .u8 25) w := by kernel_rfl
theorem elem68 (w : World) : (ReflectliteType.method ReflectliteType.elem #[.agg #[.pointer (some ⟨9, 68, none⟩)]]).run Tryd.prog w = .ok (.iface 126 (.agg #[.pointer (some ⟨9, 66, none⟩)])) w := by kernel_rfl
theorem implements66 (w : World) : (ReflectliteType.relation "Implements" ReflectliteType.implements_ #[.agg #[.pointer (some ⟨9, 66, none⟩)], .iface 126 (.agg #[.pointer (some ⟨9, 58, none⟩)])]).run Tryd.prog w = .ok (.bool true) w := by kernel_rfl
theorem assignable66 (w : World) : (ReflectliteType.relation "AssignableTo" ReflectliteType.assignableTo #[.agg #[.pointer (some ⟨9, 66, none⟩)], .iface 126 (.agg #[.pointer (some ⟨9, 66, none⟩)])]).run Tryd.prog w = .ok (.bool true) w := by kernel_rfl
theorem valueOf66 (n a : Int) (w : World) : (ReflectliteValue.unpack (.iface 66 (.agg #[.int .i64 n, .int .i64 a]))).run Tryd.prog w
    = .ok (.agg #[.pointer (some ⟨9, 66, none⟩), .pointer (some ⟨w.heap.size, 0, none⟩), .int .u64 153]) (w.alloc (.cells #[.int .i64 n, .int .i64 a] 66)) := by kernel_rfl
theorem parts68 (a : Addr) (w : World) : (ReflectliteValue.parts (.agg #[.pointer (some ⟨9, 68, none⟩), .pointer (some a), .int .u64 150])).run Tryd.prog w = .ok (some (68, a, 150)) w := by kernel_rfl
theorem isNil68 (a p : Addr) (W : World) (ha : W.cell? a = some (.pointer (some p))) :
    (ReflectliteValue.method (ReflectliteValue.valueError "reflectlite.Value.IsNil" 0) ReflectliteValue.isNil #[.agg #[.pointer (some ⟨9, 68, none⟩), .pointer (some a), .int .u64 150]]).run Tryd.prog W = .ok (.bool false) W := by
  rw [rlm]
  simp only [Sem.run_bind, parts68, Result.andThen]
  simp [ReflectliteValue.isNil, loadVar, isAgg, underlying, Tryd.underlying68, ha, Result.andThen]
theorem elemOf68 (w : World) : (Rtype.elem? 68).run Tryd.prog w = .ok (some 66) w := by kernel_rfl
theorem mk66 (p : Addr) (w : World) : (ReflectliteValue.mk 66 p ReflectliteValue.flagAddr).run Tryd.prog w = .ok (.agg #[.pointer (some ⟨9, 66, none⟩), .pointer (some p), .int .u64 409]) w := by kernel_rfl
theorem elemV68 (a p : Addr) (W : World) (ha : W.cell? a = some (.pointer (some p))) :
    (ReflectliteValue.method (ReflectliteValue.valueError "reflectlite.Value.Elem" 0) ReflectliteValue.elem #[.agg #[.pointer (some ⟨9, 68, none⟩), .pointer (some a), .int .u64 150]]).run Tryd.prog W
      = .ok (.agg #[.pointer (some ⟨9, 66, none⟩), .pointer (some p), .int .u64 409]) W := by
  rw [rlm]
  simp only [Sem.run_bind, parts68, Result.andThen]
  simp [ReflectliteValue.elem, loadVar, isAgg, underlying, Tryd.underlying68, ha, Result.andThen, elemOf68, mk66]
theorem parts66a (a : Addr) (w : World) : (ReflectliteValue.parts (.agg #[.pointer (some ⟨9, 66, none⟩), .pointer (some a), .int .u64 409])).run Tryd.prog w = .ok (some (66, a, 409)) w := by kernel_rfl
theorem parts66 (a : Addr) (w : World) : (ReflectliteValue.parts (.agg #[.pointer (some ⟨9, 66, none⟩), .pointer (some a), .int .u64 153])).run Tryd.prog w = .ok (some (66, a, 153)) w := by kernel_rfl
theorem direct66 (w : World) : (Rtype.directlyAssignable 66 66).run Tryd.prog w = .ok true w := by kernel_rfl
theorem isAgg66 (w : World) : (isAgg 66).run Tryd.prog w = .ok true w := by kernel_rfl
theorem size66 (w : World) : (sizeOf 66).run Tryd.prog w = .ok 2 w := by kernel_rfl
theorem load66 (b : Nat) (n a : Int) (W : World) (hb : W.heap[b]? = some (.cells #[.int .i64 n, .int .i64 a] 66)) : (loadVar 66 ⟨b, 0, none⟩).run Tryd.prog W = .ok (.agg #[.int .i64 n, .int .i64 a]) W := by
  have hl := run_loadCells_list (P := Tryd.prog) W ⟨b, 0, none⟩ [.int .i64 n, .int .i64 a] (fun j v hj => by
    rw [Addr.add_lit, cell_of_row W b (0 + j) _ 66 (0, 0) hb]
    simpa using hj)
  have hl' : (loadCells ⟨b, 0, none⟩ 2).run Tryd.prog W = .ok #[.int .i64 n, .int .i64 a] W := hl
  simp only [loadVar, Sem.run_bind, isAgg66, Result.andThen, size66, hl', if_true, Sem.run_pure]
theorem store66 (b : Nat) (x y n a : Int) (W : World) (hb : W.heap[b]? = some (.cells #[.int .i64 x, .int .i64 y] 66)) : (storeVar 66 ⟨b, 0, none⟩ (.agg #[.int .i64 n, .int .i64 a])).run Tryd.prog W = .ok () (W.setRow b #[.int .i64 n, .int .i64 a]) := by
  have hs := run_storeCells_at Tryd.prog b 0 66 [.int .i64 n, .int .i64 a] 0 _ W hb (by simp) (by intro v hv; simp at hv; rcases hv with rfl | rfl <;> rfl)
  have hs' : (storeCells ⟨b, 0, none⟩ [.int .i64 n, .int .i64 a] 0).run Tryd.prog W = .ok () (W.setRow b #[.int .i64 n, .int .i64 a]) := by simpa using hs
  simp only [storeVar, Sem.run_bind, size66, Result.andThen]
  simp [Value.cells, hs']
theorem set66 (tb b : Nat) (x y n a : Int) (W : World) (hb : W.heap[b]? = some (.cells #[.int .i64 n, .int .i64 a] 66)) (ht : W.heap[tb]? = some (.cells #[.int .i64 x, .int .i64 y] 66)) :
    (ReflectliteValue.set #[.agg #[.pointer (some ⟨9, 66, none⟩), .pointer (some ⟨tb, 0, none⟩), .int .u64 409], .agg #[.pointer (some ⟨9, 66, none⟩), .pointer (some ⟨b, 0, none⟩), .int .u64 153]]).run Tryd.prog W
      = .ok (.tuple #[]) (W.setRow tb #[.int .i64 n, .int .i64 a]) := by
  rw [rls]
  simp only [Sem.run_bind, parts66a, parts66, Result.andThen]
  simp [ReflectliteValue.flagAddr, load66 b n a W hb, direct66, Result.andThen, store66 tb x y n a W ht]

set_option maxHeartbeats 8000000 in
theorem as_fault (n a : Int) (tb : Nat) (w : World) (hg : ErrT w) (ht0 : w.heap[tb]? = some (.cells #[.int .i64 0, .int .i64 0] 66)) :
    Calls Tryd.prog 38 #[.iface 66 (.agg #[.int .i64 n, .int .i64 a]), .iface 68 (.pointer (some ⟨tb, 0, none⟩))] w fun ev w' => ev = .returned (.bool true) ∧ ∃ W, Chg Non w W ∧ w' = W.setRow tb #[.int .i64 n, .int .i64 a] := by
  have h6 := @run_callFunc_extern Tryd.prog 61 _ (fun args => ReflectliteValue.unpack (args.getD 0 (.tuple #[]))) Tryd.func61 (by kernel_rfl) (by kernel_rfl) (by kernel_rfl) (by kernel_rfl)
  have h7 := @run_callFunc_extern Tryd.prog 62 _ (ReflectliteValue.methodAny (ReflectliteValue.valueError "reflectlite.Value.Type" 0) (fun t _ _ _ => ReflectliteType.toType t)) Tryd.func62 (by kernel_rfl) (by kernel_rfl) (by kernel_rfl) (by kernel_rfl)
  have h8 := @run_callFunc_extern Tryd.prog 63 _ (ReflectliteValue.method (ReflectliteValue.valueError "reflectlite.Value.IsNil" 0) ReflectliteValue.isNil) Tryd.func63 (by kernel_rfl) (by kernel_rfl) (by kernel_rfl) (by kernel_rfl)
  have h27 := @run_callFunc_extern Tryd.prog 139 _ (ReflectliteType.abiMethod fun t => do pure (.int .u8 (← Rtype.kind t))) Tryd.func139 (by kernel_rfl) (by kernel_rfl) (by kernel_rfl) (by kernel_rfl)
  have h37 := @run_callFunc_extern Tryd.prog 151 _ (ReflectliteType.method ReflectliteType.elem) Tryd.func151 (by kernel_rfl) (by kernel_rfl) (by kernel_rfl) (by kernel_rfl)
  have h38 := @run_callFunc_extern Tryd.prog 152 _ (ReflectliteType.relation "Implements" ReflectliteType.implements_) Tryd.func152 (by kernel_rfl) (by kernel_rfl) (by kernel_rfl) (by kernel_rfl)
  have h10 := @run_callFunc_extern Tryd.prog 78 _ ReflectliteType.typeOf Tryd.func78 (by kernel_rfl) (by kernel_rfl) (by kernel_rfl) (by kernel_rfl)
  have h35 := @run_callFunc_extern Tryd.prog 149 _ (ReflectliteType.relation "AssignableTo" ReflectliteType.assignableTo) Tryd.func149 (by kernel_rfl) (by kernel_rfl) (by kernel_rfl) (by kernel_rfl)
  have h11 := @run_callFunc_extern Tryd.prog 79 _ (ReflectliteValue.method (ReflectliteValue.valueError "reflectlite.Value.Elem" 0) ReflectliteValue.elem) Tryd.func79 (by kernel_rfl) (by kernel_rfl) (by kernel_rfl) (by kernel_rfl)
  have h12 := @run_callFunc_extern Tryd.prog 80 _ ReflectliteValue.set Tryd.func80 (by kernel_rfl) (by kernel_rfl) (by kernel_rfl) (by kernel_rfl)
  have tO := typeOf66
  have mA := methodAssignableTo
  have a1 := assignable66
  have v25 := valueOf66
  have f6 := valueOf68
  have f7 := type68
  have mK := methodKind
  have mE := methodElem
  have mI := methodImplements
  have k27 := kind68
  have k25 := kind66
  have e27 := elem68
  have i25 := implements66
  have hgC : w.cell? ⟨0, 0, none⟩ = some (.iface 126 (.agg #[.pointer (some ⟨9, 58, none⟩)])) := hg
  have hlt : 0 < w.heap.size := World.block_lt_of_cell? w _ hgC
  have htl : tb < w.heap.size := (Array.getElem?_eq_some_iff.1 ht0).1
  have n8 := isNil68 ⟨w.heap.size, 0, none⟩ ⟨tb, 0, none⟩ ((w.alloc (.cells #[.pointer (some ⟨tb, 0, none⟩)] 68)).alloc (.cells #[.pointer (some ⟨9, 68, none⟩), .pointer (some ⟨w.heap.size, 0, none⟩), .int .u64 150] 103)) (by simp)
  have hg2 : ((w.alloc (.cells #[.pointer (some ⟨tb, 0, none⟩)] 68)).alloc (.cells #[.pointer (some ⟨9, 68, none⟩), .pointer (some ⟨w.heap.size, 0, none⟩), .int .u64 150] 103)).cell? ⟨0, 0, none⟩ = some (.iface 126 (.agg #[.pointer (some ⟨9, 58, none⟩)])) := by
    rw [World.cell?_alloc_lt _ _ ⟨0, 0, none⟩ (by simp), World.cell?_alloc_lt _ _ ⟨0, 0, none⟩ hlt]; exact hgC
  obtain ⟨W3, hW3⟩ : ∃ W3, W3 = ((w.alloc (.cells #[.pointer (some ⟨tb, 0, none⟩)] 68)).alloc (.cells #[.pointer (some ⟨9, 68, none⟩), .pointer (some ⟨w.heap.size, 0, none⟩), .int .u64 150] 103)).alloc (.cells #[.pointer (some ⟨9, 68, none⟩), .pointer (some ⟨w.heap.size, 0, none⟩), .int .u64 150] 103) := ⟨_, rfl⟩
  have el := elemV68 ⟨w.heap.size, 0, none⟩ ⟨tb, 0, none⟩ W3 (by rw [hW3, World.cell?_alloc_lt _ _ _ (by simp; omega), World.cell?_alloc_lt _ _ _ (by simp), World.cell?_alloc_at _ _ _ _ (by simp)]; rfl)
  have C3 : Chg Non w (W3.alloc (.cells #[.int .i64 n, .int .i64 a] 66)) := by rw [hW3]; exact ((((Chg.refl _ _).alloc _).alloc _).alloc _).alloc _
  have st := set66 tb W3.heap.size 0 0 n a (W3.alloc (.cells #[.int .i64 n, .int .i64 a] 66)) (heap_alloc_last W3 _) ((C3.block tb htl (fun x => x)).trans ht0)
  rw [hW3] at el st
  simp only [World.size_alloc] at st
  go_enter Tryd.func38, Tryd.ntmps38
  go_wp2
  refine wp_loop_rounds 1 ?_
  rw [rounds_succ]
  go_wp2
  go_ret
  exact ⟨rfl, _, (by rw [hW3] at C3; exact C3), rfl⟩
end Go.Proofs.YtnidfbcninkglaaDoor
