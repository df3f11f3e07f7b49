/-
  The number that an error wraps; the item at a place, or its fault.
-/
import Derived.Test.YtnidfbcninkglaaDoorAs
import Derived.Test.YtnidfbcninkglaaDoorLn
namespace Go.Proofs.YtnidfbcninkglaaDoor
open Go.RowKit
set_option linter.unusedVariables false
set_option maxRecDepth 100000

theorem ErrT.chg {w w' : World} (h : ErrT w) (k : Chg Non w w') : ErrT w' := by
  unfold ErrT at h ⊢
  rw [← h]
  exact World.cell?_of_block (k.block 0 (World.block_lt_of_cell? w _ h) (fun x => x))

set_option maxHeartbeats 1600000 in
theorem number_nil (w : World) : Calls Tryd.prog 36 #[.nilIface] w fun e w' => e = .returned (.int .i64 0) ∧ Chg Non w w' := by
  go_enter Tryd.func36, Tryd.ntmps36
  go_wp2_with (go_at_call 38; refine (as_nil _ _).mono ?_; rintro e w9 ⟨rfl, hw9⟩; obtain rfl := hw9.symm)
  go_ret
  exact ⟨rfl, (Chg.refl _ _).alloc _⟩

set_option maxHeartbeats 1600000 in
theorem number_fault (n a : Int) (w : World) (hg : ErrT w) : Calls Tryd.prog 36 #[.iface 66 (.agg #[.int .i64 n, .int .i64 a])] w fun e w' => e = .returned (.int .i64 n) ∧ Chg Non w w' := by
  have HC : Hid (Calls Tryd.prog 38 #[.iface 66 (.agg #[.int .i64 n, .int .i64 a]), .iface 98 (.pointer (some ⟨w.heap.size, 0, none⟩))] (w.alloc (.cells #[.int .i64 0] 26)) fun ev w' => ev = .returned (.bool true) ∧ ∃ W, Chg Non (w.alloc (.cells #[.int .i64 0] 26)) W ∧ w' = W.setCell ⟨w.heap.size, 0, none⟩ (.int .i64 n)) :=
    as_num n a ⟨w.heap.size, 0, none⟩ (.int .i64 0) _ (hg.chg ((Chg.refl _ _).alloc _)) (by simp) (by simp)
  clear hg
  go_enter Tryd.func36, Tryd.ntmps36
  go_wp2_with (go_at_call 38; refine HC.out.mono ?_)
  rintro e w1 ⟨rfl, W, hc, rfl⟩
  have hcell : (W.setCell ⟨w.heap.size, 0, none⟩ (.int .i64 n)).cell? ⟨w.heap.size, 0, none⟩ = some (.int .i64 n) := by
    refine World.cell?_setCell_same' _ _ _ ?_
    rw [World.cell?_of_block (hc.block w.heap.size (by simp) (fun x => x))]
    simp
  have HC2 : Hid (Chg Non w (W.setCell ⟨w.heap.size, 0, none⟩ (.int .i64 n))) := Chg.setCell (p := ⟨w.heap.size, 0, none⟩) (((Chg.refl Non w).alloc _).two hc) (fun h => absurd h (Nat.lt_irrefl _)) _
  obtain ⟨w2, hw2⟩ : ∃ w2, w2 = W.setCell ⟨w.heap.size, 0, none⟩ (.int .i64 n) := ⟨_, rfl⟩
  rw [← hw2] at hcell HC2 ⊢
  clear hw2 hc
  go_wp2
  go_ret
  exact ⟨rfl, HC2.out⟩

/-- An item's four cells, as they were laid. -/
theorem four {w u : World} (h : Chg Non (w.alloc (.cells #[.int .u8 0, .slice none 0 0, .int .i64 0, .int .i64 0] 25)) u) :
    u.heap[w.heap.size]? = some (.cells #[.int .u8 0, .slice none 0 0, .int .i64 0, .int .i64 0] 25) :=
  (h.block w.heap.size (by simp) (fun x => x)).trans (heap_alloc_last w _)
theorem cells4 {u : World} {b : Nat} {c0 c1 c2 c3 : Value} {t : TypeId} (h : u.heap[b]? = some (.cells #[c0, c1, c2, c3] t)) :
    u.cell? ⟨b, 0, none⟩ = some c0 ∧ u.cell? ⟨b, 1, none⟩ = some c1 ∧ u.cell? ⟨b, 2, none⟩ = some c2 ∧ u.cell? ⟨b, 3, none⟩ = some c3 ∧ (∀ j, u.frozen? ⟨b, j, none⟩ = false) := by
  have hc : ∀ j, u.cell? ⟨b, j, none⟩ = #[c0, c1, c2, c3][j]? := fun j => cell_of_row u b j _ t (0, 0) h
  exact ⟨hc 0, hc 1, hc 2, hc 3, fun j => by simp [World.frozen?, h]⟩

def itemV (t : Int) (v : Value) (a l : Int) : Value := .agg #[.int .u8 t, v, .int .i64 a, .int .i64 l]
def faultV (n a : Int) : Value := .iface 66 (.agg #[.int .i64 n, .int .i64 a])

set_option maxHeartbeats 4000000 in
theorem read_far (v : Value) (xs : List Int) (a : Int) (w : World) (hv : Rd w v xs) (ha : a < 0 ∨ (xs.length : Int) ≤ a) :
    Calls Tryd.prog 35 #[v, .int .i64 a] w fun e w' => e = .returned (.tuple #[itemV 0 (.slice none 0 0) 0 0, faultV 141 a]) ∧ Chg Non w w' := by
  obtain ⟨ao, n, c, rfl, hn, hc, hmx⟩ := hv.shape
  rw [← hn] at ha
  unfold itemV faultV
  by_cases h0 : a < 0
  · have d0 : decide (a < 0) = true := by simpa using h0
    clear ha hn hv
    go_enter Tryd.func35, Tryd.ntmps35
    go_wp2
    refine bodyPost_ret (v := .tuple #[.agg #[.int .u8 0, .slice none 0 0, .int .i64 0, .int .i64 0], .iface 66 (.agg #[.int .i64 141, .int .i64 a])]) ?_ rfl ⟨rfl, ?_⟩
    · simp [results, Tryd.results35, go_sem]
    · exact (Chg.refl _ _).alloc _
  · have d0 : decide (a < 0) = false := by simpa using h0
    have d1 : decide ((n : Int) ≤ a) = true := by simp; omega
    clear ha hn hv
    go_enter Tryd.func35, Tryd.ntmps35
    go_wp2
    refine bodyPost_ret (v := .tuple #[.agg #[.int .u8 0, .slice none 0 0, .int .i64 0, .int .i64 0], .iface 66 (.agg #[.int .i64 141, .int .i64 a])]) ?_ rfl ⟨rfl, ?_⟩
    · simp [results, Tryd.results35, go_sem]
    · exact (Chg.refl _ _).alloc _
end Go.Proofs.YtnidfbcninkglaaDoor
