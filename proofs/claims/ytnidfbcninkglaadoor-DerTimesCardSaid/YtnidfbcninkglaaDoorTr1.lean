/-
  The document's Time.
-/
import Derived.Test.YtnidfbcninkglaaDoorTi5
import Derived.Test.YtnidfbcninkglaaDoorDr
namespace Go.Proofs.YtnidfbcninkglaaDoor
open Go.RowKit
set_option linter.unusedVariables false
set_option maxRecDepth 100000

def gD (xs : List Int) (k : Nat) : Int := xs.getD k 0
def cv (xs : List Int) (i j : Nat) : Int := if 2 * j + 1 < i then twoI (gD xs (2 * j)) (gD xs (2 * j + 1)) else if 2 * j < i then gD xs (2 * j) - 48 else 0
structure Two (w wr : World) (P : Nat) (xs : List Int) (i : Nat) : Prop where
  le : w.heap.size ≤ P
  cell : ∀ j, j < 7 → wr.cell? ⟨P, j, none⟩ = some (.int .i64 (cv xs i j))
  frz : ∀ j, wr.frozen? ⟨P, j, none⟩ = false
  chg : Chg Non w wr
theorem Two.new (w : World) (xs : List Int) : Two w (w.alloc (.cells #[.int .i64 0, .int .i64 0, .int .i64 0, .int .i64 0, .int .i64 0, .int .i64 0, .int .i64 0] 87)) w.heap.size xs 0 := by
  refine ⟨Nat.le_refl _, fun j hj => ?_, fun j => ?_, (Chg.refl _ _).alloc _⟩
  · have e : cv xs 0 j = 0 := by simp [cv]
    rw [e]
    rcases (show j = 0 ∨ j = 1 ∨ j = 2 ∨ j = 3 ∨ j = 4 ∨ j = 5 ∨ j = 6 by omega) with rfl | rfl | rfl | rfl | rfl | rfl | rfl
    all_goals simp
  · have hh : (w.alloc (.cells #[.int .i64 0, .int .i64 0, .int .i64 0, .int .i64 0, .int .i64 0, .int .i64 0, .int .i64 0] 87)).heap[w.heap.size]? = some (.cells #[.int .i64 0, .int .i64 0, .int .i64 0, .int .i64 0, .int .i64 0, .int .i64 0, .int .i64 0] 87 (0, 0)) := heap_alloc_new w _
    unfold World.frozen?
    simp only [hh]
    simp
theorem Two.drewN {w wr : World} {P : Nat} {xs : List Int} {i : Nat} (h : Two w wr P xs i) (n : Nat) : Two w (wr.drewN n) P xs i :=
  ⟨h.le, h.cell, h.frz, h.chg.drewN n⟩
theorem Two.drew {w wr : World} {P : Nat} {xs : List Int} {i : Nat} (h : Two w wr P xs i) : Two w wr.drew P xs i :=
  ⟨h.le, h.cell, h.frz, h.chg.drew⟩
theorem Two.step {w wr : World} {P : Nat} {xs : List Int} {i : Nat} (h : Two w wr P xs i) (hi : i < 14) (z : Int) (hz : z = 10 * cv xs i (i / 2) + (gD xs i - 48)) :
    Two w (wr.setCell ⟨P, i / 2, none⟩ (.int .i64 z)) P xs (i + 1) := by
  refine ⟨h.le, fun j hj => ?_, fun j => by rw [World.frozen?_setCell]; exact h.frz j, h.chg.setCell (fun g => absurd g (Nat.not_lt.2 h.le)) _⟩
  by_cases e : j = i / 2
  · subst e
    rw [World.cell?_setCell_same _ _ _ (h.cell _ hj), hz]
    congr 2
    by_cases o : i % 2 = 0
    · have e1 : cv xs i (i / 2) = 0 := by unfold cv; rw [if_neg (by omega), if_neg (by omega)]
      have e2 : cv xs (i + 1) (i / 2) = gD xs i - 48 := by unfold cv; rw [if_neg (by omega), if_pos (by omega), show 2 * (i / 2) = i by omega]
      rw [e1, e2]
      omega
    · have e1 : cv xs i (i / 2) = gD xs (2 * (i / 2)) - 48 := by unfold cv; rw [if_neg (by omega), if_pos (by omega)]
      have e2 : cv xs (i + 1) (i / 2) = twoI (gD xs (2 * (i / 2))) (gD xs i) := by unfold cv; rw [if_pos (by omega), show 2 * (i / 2) + 1 = i by omega]
      rw [e1, e2]
      unfold twoI
      omega
  · rw [World.cell?_setCell_other _ _ _ _ (by intro g; injection g with _ g; exact e g.symm), h.cell j hj]
    congr 2
    unfold cv
    simp only [show (2 * j + 1 < i + 1) ↔ (2 * j + 1 < i) from by omega, show (2 * j < i + 1) ↔ (2 * j < i) from by omega]
theorem cv_bd {xs : List Int} {i : Nat} (hd : ∀ j, j < i → 48 ≤ gD xs j ∧ gD xs j ≤ 57) (j : Nat) : 0 ≤ cv xs i j ∧ cv xs i j ≤ 99 := by
  unfold cv
  split
  · have a := hd (2 * j) (by omega)
    have b := hd (2 * j + 1) (by omega)
    unfold twoI
    omega
  · split
    · have a := hd (2 * j) (by omega)
      omega
    · omega

end Go.Proofs.YtnidfbcninkglaaDoor
