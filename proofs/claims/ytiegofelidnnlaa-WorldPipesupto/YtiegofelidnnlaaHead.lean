/-
  The live question that all statements of layer 1 ask first is answered by true.
-/
import Derived.Test.YtiegofelidnnlaaRead
namespace Go.Proofs.Ytiegofelidnnlaa
open Go.RowKit
set_option linter.unusedVariables false

theorem head_draw : (draw 4 ([1, 2], 0)).1 = [1, 2, 175, 205] := by decide +kernel
theorem head_str : strOfNums [1, 2, 175, 205] = ⟨#[1, 2, 175, 205]⟩ := by rfl

theorem Rd.two (w : World) (a b : Int) : Rd (w.alloc (.cells #[.int .u8 a, .int .u8 b] 5)) (.slice (some ⟨w.heap.size, 0, none⟩) 2 2) [a, b] := by
  refine ⟨_, _, _, rfl, rfl, Nat.le_refl _, by decide, fun e => by (cases e), fun x e j u hj => ?_⟩
  cases e
  match j, hj with
  | 0, hj => simp at hj; subst hj; simp [Addr.add]
  | 1, hj => simp at hj; subst hj; simp [Addr.add]

set_option maxHeartbeats 1000000 in
theorem head_any (w : World) : Calls Try.prog 8 #[] w fun e w' => e = .returned (.bool true) ∧ Chg Non w w' := by
  go_enter Try.func8, Try.ntmps8
  go_wp2_with fail
  refine (newRand_any _ [1, 2] 0 _ (Rd.two _ _ _) (by decide)).mono ?_
  rintro e w1 ⟨r, v, rfl, hR, hc, hr, hv⟩
  have HR : Hid (RandA w1 r v [1, 2] 0 ∧ v.ownBlock ≠ some r) := ⟨hR, fun e => (hv r e).2 rfl⟩
  clear hR hv
  go_wp2_with fail
  refine (read_any r v [1, 2] 0 _ _ HR.out.1 (by decide) HR.out.2).mono ?_
  rintro e w2 ⟨N, hN, g, v', rfl, ho, -, hc2, -⟩
  obtain rfl : N = 4 := by omega
  rw [head_draw] at ho
  have hs := run_str w2 _ _ ho.rd
  rw [head_str] at hs
  clear hN ho
  go_wp2_with (go_at_call 12; refine (after_any _ _ _ (by omega) (by omega)).mono ?_; rintro e w' ⟨rfl, rfl⟩)
  go_ret
  refine ⟨by rfl, ?_⟩
  exact (((Chg.refl Non w).alloc _).trans hc (fun _ _ e => e)).trans hc2 (fun i hi e => by cases e; simp at hr; omega)
end Go.Proofs.Ytiegofelidnnlaa
