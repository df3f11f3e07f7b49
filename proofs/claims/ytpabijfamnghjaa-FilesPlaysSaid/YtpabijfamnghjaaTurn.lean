/-
  A byte of a row of our own is written; an empty list.
-/
import Derived.Test.YtpabijfamnghjaaHead
namespace Go.Proofs.Ytpabijfamnghjaa
open Go.RowKit
set_option linter.unusedVariables false

theorem heap_setCell_at (w : World) (r o : Nat) (u : Value) (cs : Array Value) (t : TypeId) (h : w.heap[r]? = some (.cells cs t (0, 0))) :
    (w.setCell ⟨r, o, none⟩ u).heap[r]? = some (.cells (cs.setIfInBounds o u) t (0, 0)) := by
  show (w.heap.modify r _)[r]? = _
  rw [Array.getElem?_modify, if_pos rfl, h]
  rfl

theorem Own.set {w : World} {g off n cap : Nat} {xs : List Int} (h : Own w g off n cap xs) (j : Nat) (hj : j < n) (b : Int) : Own (w.setCell ⟨g, off + j, none⟩ (.int .u8 b)) g off n cap (xs.set j b) := by
  obtain ⟨cur, hg, hs, ht⟩ := h.blk
  have hle := h.le
  refine ⟨by simpa using h.len, h.le, h.mx, _, heap_setCell_at w g (off + j) _ cur 5 hg, by simpa using hs, ?_⟩
  rw [Array.toList_setIfInBounds, List.drop_set]
  rw [if_neg (by omega), Nat.add_sub_cancel_left, List.take_set, ht, List.map_set]

theorem Own.free {w : World} {g off n cap : Nat} {xs : List Int} (h : Own w g off n cap xs) (o : Nat) : w.frozen? ⟨g, o, none⟩ = false := by
  obtain ⟨cur, hg, hs, ht⟩ := h.blk
  simp [World.frozen?, hg]

theorem Own.at {w : World} {g off n cap : Nat} {xs : List Int} (h : Own w g off n cap xs) (j : Nat) (hj : j < n) : ∃ b, w.cell? ⟨g, off + j, none⟩ = some (.int .u8 b) := by
  have := h.len
  exact ⟨xs[j], h.cell j _ (by simp)⟩

theorem OwnV.empty (w : World) : OwnV (w.alloc (.cells #[] 5)) (.slice (some ⟨w.heap.size, 0, none⟩) 0 0) [] :=
  .inr ⟨_, 0, 0, 0, rfl, rfl, Nat.le_refl _, by decide, #[], heap_alloc_new w _, by simp, by simp⟩

theorem seen_fresh (nm : List UInt8) (v : Value) (xs : List Int) : seenE (fresh nm v xs) = xs := by
  unfold seenE fresh
  simp

theorem may_nil (nm : List UInt8) (len : Nat) : mayL nm len [] = 0 ↔ isNm nm = true ∧ len ≤ 65536 := by
  unfold mayL
  cases isNm nm
  · simp
  · by_cases h : 65536 < len
    · simp [h]
    · simp [h]; omega

/-- Blocks that were none of the store's are none of it behind Put or Tear. -/
theorem off_put {p b : Nat} {L : List Ent} {e : Ent} {k : Nat} (h : Off p b L k) (h1 : e.vo.ownBlock ≠ some k) (h2 : e.vf.ownBlock ≠ some k) : Off p b (putL e L) k :=
  ⟨h.1, h.2.1, fun x hx => by
    rcases mem_put.1 hx with rfl | ⟨hx, _⟩
    · exact ⟨h1, h2⟩
    · exact h.2.2 x hx⟩
end Go.Proofs.Ytpabijfamnghjaa
