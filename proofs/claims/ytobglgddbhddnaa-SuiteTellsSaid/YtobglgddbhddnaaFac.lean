/-
  The faces Seal and Open: what the lock that is found does.
-/
import Derived.Test.YtobglgddbhddnaaSel
namespace Go.Proofs.Ytobglgddbhddnaa
open Go.RowKit
set_option linter.unusedVariables false

theorem sealGM (v : Value) (u : World) : Sem.run Try.prog (method 229 49 v "drawbridge/suite.seal") u = .ok (91, v) u := by kernel_rfl
set_option maxRecDepth 100000 in
set_option maxHeartbeats 4000000 in
theorem sealG_face (s : Int) (h n : Int) (kv : Value) (nc : Nat → By) (va vx : Value) (w : World) (P : Value → Int → World → Prop)
    (hf : ∀ u, Calls Try.prog 17 #[.int .u16 s] u fun r w' => r = .returned (.tuple #[.iface 49 (.agg (lkG h n)), .bool true]) ∧ Chg u w')
    (hm : ∀ u, Chg w u → Calls Try.prog 91 #[.agg (lkG h n), kv, .agg (ba 12 nc), va, vx] u fun r w' => ∃ v e, r = .returned (.tuple #[v, .int .i64 e]) ∧ P v e w') :
    Calls Try.prog 16 #[.int .u16 s, kv, .agg (ba 12 nc), va, vx] w fun r w' => ∃ v e, r = .returned (.tuple #[v, .int .i64 e]) ∧ P v e w' := by
  have hme := sealGM
  obtain ⟨F, hF⟩ : ∃ F, F = lkG h n := ⟨_, rfl⟩
  rw [← hF] at hf hm
  clear hF
  have hsA := ba_size 12 nc
  have hszA := szB nc zero38.2
  obtain ⟨A, hA⟩ : ∃ A, A = ba 12 nc := ⟨_, rfl⟩
  rw [← hA] at hsA hszA hm ⊢
  clear hA
  have HF : Hid (∀ u, Calls Try.prog 17 #[.int .u16 s] u fun r w' => r = .returned (.tuple #[.iface 49 (.agg F), .bool true]) ∧ Chg u w') := hf
  have HM : Hid (∀ u, Chg w u → Calls Try.prog 91 #[.agg F, kv, .agg A, va, vx] u fun r w' => ∃ v e, r = .returned (.tuple #[v, .int .i64 e]) ∧ P v e w') := hm
  clear hf hm
  go_enter Try.func16, Try.ntmps16
  go_wp2_with fail
  obtain ⟨w1, hw1⟩ : ∃ w1, w1 = w.alloc (.cells A 24) := ⟨_, rfl⟩
  have Z1 : Hid (Chg w w1 ∧ Ar w1 w.heap.size A) := by
    rw [hw1]
    exact ⟨(Chg.refl w).alloc _, Ar.new w _ _⟩
  rw [← hw1]
  clear hw1 hsA
  go_at_call 17
  refine (HF.out _).mono ?_
  rintro r w2 ⟨rfl, hw2⟩
  have Z2 : Hid (Chg w w2) := Z1.out.1.trans hw2
  obtain ⟨t2, g2⟩ := Z1.out.2.chg hw2
  clear hw2 Z1
  go_wp2_with (first | refine wpList_load_row rfl 24 _ rfl _ rfl _ _ _ _ g2 und38 rfl hszA ?_ | (go_at_call 91; refine (HM.out _ Z2.out).mono ?_; rintro r w3 ⟨v, e, rfl, hv⟩))
  go_ret2
  exact ⟨v, e, rfl, hv⟩

end Go.Proofs.Ytobglgddbhddnaa
