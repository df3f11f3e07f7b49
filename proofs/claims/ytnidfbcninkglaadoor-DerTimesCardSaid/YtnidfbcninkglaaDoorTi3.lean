/-
  A time's long text.
-/
import Derived.Test.YtnidfbcninkglaaDoorTi2
import Derived.Laws.CopyRow
import Derived.Lib.BufferWrite
namespace Go.Proofs.YtnidfbcninkglaaDoor
open Go.RowKit
set_option linter.unusedVariables false
set_option maxRecDepth 100000

structure Blk (w w' : World) (P : Nat) (ts : List Int) : Prop where
  le : w.heap.size ≤ P
  heap : w'.heap[P]? = some (.cells (ts.map (Value.int .u8)).toArray 80 (0, 0))
  chg : Chg Non w w'
theorem Blk.new (w : World) : Blk w (w.alloc (.cells #[.int .u8 0, .int .u8 0, .int .u8 0, .int .u8 0, .int .u8 0, .int .u8 0, .int .u8 0, .int .u8 0, .int .u8 0, .int .u8 0, .int .u8 0, .int .u8 0, .int .u8 0, .int .u8 0, .int .u8 0] 80)) w.heap.size [0, 0, 0, 0, 0, 0, 0, 0, 0, 0, 0, 0, 0, 0, 0] :=
  ⟨Nat.le_refl _, heap_alloc_new w _, (Chg.refl _ _).alloc _⟩
theorem Blk.row {w w' : World} {P : Nat} {ts : List Int} (h : Blk w w' P ts) (us : List Int) : Blk w (w'.setRow P (us.map (Value.int .u8)).toArray) P us :=
  ⟨h.le, setRow_heap _ _ _ _ _ _ h.heap, ⟨h.chg.os, h.chg.tape, h.chg.output, by simp [World.setRow]; exact h.chg.size, fun k hk hb => (setRow_other _ _ _ _ (by have := h.le; omega)).trans (h.chg.block k hk hb)⟩⟩
theorem Blk.cell {w w' : World} {P : Nat} {ts : List Int} (h : Blk w w' P ts) {j : Nat} {t : Int} (hj : ts[j]? = some t) : w'.cell? ⟨P, j, none⟩ = some (.int .u8 t) := by
  simp [World.cell?, h.heap, hj]
theorem u22 : Tryd.prog.underlying 22 = some (.slice 5) := by kernel_rfl
theorem i5' : (Tryd.prog.info? 5).map (·.size) = some 1 := by kernel_rfl
theorem add_at (b o j : Nat) : (⟨b, o, none⟩ : Addr).add j = ⟨b, o + j, none⟩ := by unfold Addr.add; split <;> simp_all
theorem Blk.cpS {w w' : World} {P : Nat} {a b : Int} {r : List Int} (h : Blk w w' P (a :: b :: r)) (hr : r.length = 13) (x y : UInt8) :
    ∃ w2, (Builtin.copy_ #[22, 9] 3 #[.slice (some ⟨P, 0, none⟩) 15 15, .string ⟨#[x, y]⟩]).run Tryd.prog w' = .ok (.int .i64 2) w2 ∧ Blk w w2 P ((x.toNat : Int) :: (y.toNat : Int) :: r) := by
  have := Go.Lib.run_copy_row_string (P := Tryd.prog) w' 22 9 3 5 P 0 15 15 ⟨#[x, y]⟩ _ 80 u22 i5' h.heap (show 2 ≤ 15 by omega) (by show 0 + 2 ≤ _; simp [hr])
  refine ⟨_, this, ?_⟩
  have h2 := h.row ((x.toNat : Int) :: (y.toNat : Int) :: r)
  have e : (((a :: b :: r).map (Value.int .u8)).toArray.toList.take 0 ++ Go.Lib.byteCells (⟨#[x, y]⟩ : ByteArray).data.toList ++ ((a :: b :: r).map (Value.int .u8)).toArray.toList.drop (0 + (⟨#[x, y]⟩ : ByteArray).size)).toArray = (((x.toNat : Int) :: (y.toNat : Int) :: r).map (Value.int .u8)).toArray := by
    show (_ ++ _ ++ List.drop (0 + 2) _).toArray = _
    simp [Go.Lib.byteCells]
  rw [e]
  exact h2
theorem Blk.cpB {w w' : World} {P : Nat} {ts : List Int} (h : Blk w w' P ts) (ht : ts.length = 15) (k b o n c d : Nat) (xs : List Int) (hb : Bs w b o xs) (hn : n = xs.length) (hd : d = n) (hk : k + n ≤ 15) :
    ∃ w2, (Builtin.copy_ #[22, 22] 3 #[.slice (some ⟨P, k, none⟩) d d, .slice (some ⟨b, o, none⟩) n c]).run Tryd.prog w' = .ok (.int .i64 (n : Int)) w2 ∧ Blk w w2 P (ts.take k ++ xs ++ ts.drop (k + n)) := by
  subst hd
  have hb' := hb.chg h.chg
  have := run_copy_row (P := Tryd.prog) w' 22 22 3 5 P k d d ⟨b, o, none⟩ d c _ 80 (xs.map (Value.int .u8)) u22 i5' h.heap (by rw [List.length_map, ← hn]; exact (Nat.min_self d).symm) (fun j v hv => ?_) (by simp [ht]; omega) (fun v hv => ?_)
  · have e : ((ts.map (Value.int .u8)).toArray.toList.take k ++ xs.map (Value.int .u8) ++ (ts.map (Value.int .u8)).toArray.toList.drop (k + (xs.map (Value.int .u8)).length)).toArray = ((ts.take k ++ xs ++ ts.drop (k + d)).map (Value.int .u8)).toArray := by
      simp [hn]
    rw [e] at this
    refine ⟨_, ?_, h.row _⟩
    rw [this]
    simp [goInt, hn]
  · rw [List.getElem?_map] at hv
    cases hq : xs[j]? with
    | none => rw [hq] at hv; cases hv
    | some u =>
      rw [hq] at hv
      injection hv with hv
      rw [← hv, add_at]
      exact hb' j u hq
  · obtain ⟨y, _, rfl⟩ := List.mem_map.1 hv
    rfl

end Go.Proofs.YtnidfbcninkglaaDoor
