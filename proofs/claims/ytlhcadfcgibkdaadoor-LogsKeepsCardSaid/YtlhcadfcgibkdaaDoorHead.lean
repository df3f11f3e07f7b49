/-
  The live question: its answer is true.
-/
import Derived.Test.YtlhcadfcgibkdaaDoorRefEnc
namespace Go.Proofs.YtlhcadfcgibkdaaDoor
open Go.RowKit
set_option linter.unusedVariables false
set_option maxRecDepth 100000

def headPs : List PairD := [⟨⟨#[115, 114, 99]⟩, true, 3, ⟨#[]⟩⟩, ⟨⟨#[104, 111, 115, 116]⟩, false, 0, ⟨#[97, 34, 98, 1]⟩⟩]
def headS : ByteArray := ⟨#[116, 61, 49, 50, 32, 101, 118, 61, 97, 99, 99, 101, 112, 116, 32, 115, 114, 99, 61, 51, 32, 104, 111, 115, 116, 61, 34, 97, 92, 34, 98, 92, 120, 48, 49, 34]⟩

theorem head_may : mayW ⟨#[97, 99, 99, 101, 112, 116]⟩ headPs = 0 := by decide
theorem head_line : lineB 12 ⟨#[97, 99, 99, 101, 112, 116]⟩ headPs = headS.data.toList := by
  unfold lineB headPs
  rw [Lib.decDigits_two (by omega) (by omega)]
  simp only [List.flatMap_cons, List.flatMap_nil, pairB, valB]
  rw [Lib.decDigits_one (by omega)]
  decide

theorem head_T : encT 12 ⟨#[97, 99, 99, 101, 112, 116]⟩ headPs = headS := by
  unfold encT
  rw [if_pos ⟨head_may, by rw [head_line]; decide⟩, head_line]
theorem head_E : encE 12 ⟨#[97, 99, 99, 101, 112, 116]⟩ headPs = 0 := by
  unfold encE
  rw [if_pos head_may, if_pos (by rw [head_line]; decide)]

set_option maxHeartbeats 1000000 in
theorem head_any (w : World) (ht : Tab w) : Calls Tryd.prog 8 #[] w fun e w' => e = .returned (.bool true) ∧ Chg Non w w' := by
  go_enter Tryd.func8, Tryd.ntmps8
  go_wp2_with fail
  refine (encode_any 12 ⟨#[97, 99, 99, 101, 112, 116]⟩ _ headPs _ (ht.non ((Chg.refl _ _).alloc _)) (by omega) (by decide) ?_).mono ?_
  · refine ⟨_, _, _, rfl, rfl, Nat.le_refl _, by decide, fun i p hp => ?_⟩
    match i, hp with
    | 0, hp =>
      cases hp
      exact ⟨⟨by decide, by decide, by decide⟩, w.heap.size, 0, rfl, by simp, by simp, by simp, by simp, by simp⟩
    | 1, hp =>
      cases hp
      exact ⟨⟨by decide, by decide, by decide⟩, w.heap.size, 0, rfl, by simp, by simp, by simp, by simp, by simp⟩
  rintro e w1 ⟨rfl, hc1⟩
  have H1 : Hid (Chg Non w w1) := ((Chg.refl Non w).alloc _).trans hc1 (fun _ _ x => x)
  rw [head_T, head_E]
  unfold headS
  clear hc1
  go_wp2
  go_ret
  exact ⟨rfl, H1.out⟩
end Go.Proofs.YtlhcadfcgibkdaaDoor
