/-
  The live question.
-/
import Derived.Test.YtdhckndehijemaaHn
import Derived.Test.YtdhckndehijemaaGn
namespace Go.Proofs.Ytdhckndehijemaa
open Go.RowKit
set_option linter.unusedVariables false
set_option maxRecDepth 100000


set_option maxHeartbeats 800000 in
theorem getList_any (v : Value) (xs : List Int) (w : World) (h : Bt (Bel w.heap.size) w v xs) : Calls Try.prog 51 #[v] w fun e w' => ∃ ao L c al, e = .returned (.tuple #[.slice ao L c, .int .i64 al]) ∧ GP (.lst (.num .u16)) (pList 2 1 16777216 (pDig 2)) [] w w' xs [.slice ao L c] al := by
  have hp := getN_any v xs w h
  clear h
  go_enter Try.func51, Try.ntmps51
  go_wp2_with (go_at_call 142; refine hp.mono ?_)
  rintro e w2 ⟨ao, L, c, al, rfl, hq⟩
  have HQ : Hid (GP (.lst (.num .u16)) (pList 2 1 16777216 (pDig 2)) [] w w2 xs [.slice ao L c] al) := hq
  clear hq hp
  go_wp2
  go_ret2
  exact ⟨ao, L, c, al, rfl, HQ.out⟩

theorem head_get : outc (pList 2 1 16777216 (pDig 2)) [] [0, 0] = (([] : List Int), (50 : Int)) := by decide +kernel
theorem head_put : (wName [97, 46, 98]).getD [] = [0, 6, 0, 0, 3, 97, 46, 98] := by decide +kernel

set_option maxHeartbeats 3200000 in
theorem head_any (w : World) : Calls Try.prog 10 #[] w fun e w' => e = .returned (.bool true) ∧ Chg Non w w' := by
  obtain ⟨w1, hw1⟩ : ∃ w1, w1 = w.alloc (.cells #[.int .u8 0, .int .u8 0] 5) := ⟨_, rfl⟩
  have hr : Bt (Bel w1.heap.size) w1 (.slice (some ⟨w.heap.size, 0, none⟩) 2 2) [0, 0] := by
    have h := row_rd w [0, 0] 2 rfl (by decide)
    refine ⟨?_, ?_, fun k e => ?_⟩
    · rw [hw1]; exact h
    · intro x hx; simp at hx; omega
    · injection e with e
      rw [hw1]
      show k < _
      rw [← e]
      simp
  have hg := getList_any _ _ w1 hr
  have HW1 : Hid (w1 = w.alloc (.cells #[.int .u8 0, .int .u8 0] 5)) := hw1
  have C1 : Hid (Chg Non w w1) := by rw [hw1]; exact (Chg.refl _ _).alloc _
  clear hr hw1
  go_enter Try.func10, Try.ntmps10
  go_wp2_with fail
  rw [← HW1.out]
  refine hg.mono ?_
  rintro e w2 ⟨ao, L, c, al, rfl, hq⟩
  obtain ⟨x, q1, q2⟩ := hq.out
  have hal : al = 50 := by
    have h := congrArg Prod.snd (head_get.symm.trans q1)
    exact h.symm
  subst hal
  have C2 : Hid (Chg Non w w2) := C1.out.two hq.chg
  have hp := putName_any ⟨#[97, 46, 98]⟩ [97, 46, 98] w2 ⟨rfl, by intro x hx; simp at hx; omega⟩ (by simp)
  clear hq q1 q2 hg
  go_wp2_with (go_at_call 75; refine hp.mono ?_)
  rintro e w3 ⟨v, rfl, ho⟩
  have hs := run_str w3 v _ ho.own.rd
  rw [head_put] at hs
  have hs' : (convert 23 9 v).run Try.prog w3 = .ok (.string ⟨#[0, 6, 0, 0, 3, 97, 46, 98]⟩) w3 := hs
  obtain ⟨ao3, n3, c3, rfl⟩ := ho.shape
  have C3 : Hid (Chg Non w w3) := C2.out.two ho.chg
  clear ho hp hs
  go_wp2
  go_ret
  exact ⟨rfl, C3.out⟩
end Go.Proofs.Ytdhckndehijemaa
