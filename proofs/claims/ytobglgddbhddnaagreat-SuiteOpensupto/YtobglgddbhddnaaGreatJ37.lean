/-
  The faces Seal and Open: what the lock that is found does.
  What a suite is asked: its hash, how long its keys are, its limit; the document's answers.
  The document's Seal and Open of a suite: what may be, a key as an array, and what the layers below do.
-/
import Derived.Test.YtobglgddbhddnaaGreatJ36
import Derived.Test.YtobglgddbhddnaaGreatJ35
import Derived.Test.YtobglgddbhddnaaGreatJ08
import Derived.Test.YtobglgddbhddnaaGreatJ03
namespace Go.Proofs.YtobglgddbhddnaaGreat
open Go.RowKit
set_option linter.unusedVariables false

theorem sealGM (v : Value) (u : World) : Sem.run Tryz.prog (method 247 48 v "drawbridge/suite.seal") u = .ok (120, v) u := by kernel_rfl
set_option maxRecDepth 100000 in
set_option maxHeartbeats 4000000 in
theorem sealG_face (s : Int) (h n : Int) (kv : Value) (nc : Nat → By) (va vx : Value) (w : World) (P : Value → Int → World → Prop)
    (hf : ∀ u, Calls Tryz.prog 11 #[.int .u16 s] u fun r w' => r = .returned (.tuple #[.iface 48 (.agg (lkG h n)), .bool true]) ∧ Chg u w')
    (hm : ∀ u, Chg w u → Calls Tryz.prog 120 #[.agg (lkG h n), kv, .agg (ba 12 nc), va, vx] u fun r w' => ∃ v e, r = .returned (.tuple #[v, .int .i64 e]) ∧ P v e w') :
    Calls Tryz.prog 6 #[.int .u16 s, kv, .agg (ba 12 nc), va, vx] w fun r w' => ∃ v e, r = .returned (.tuple #[v, .int .i64 e]) ∧ P v e w' := by
  have hme := sealGM
  obtain ⟨F, hF⟩ : ∃ F, F = lkG h n := ⟨_, rfl⟩
  rw [← hF] at hf hm
  clear hF
  have hsA := ba_size 12 nc
  have hszA := szB nc zero38.2
  obtain ⟨A, hA⟩ : ∃ A, A = ba 12 nc := ⟨_, rfl⟩
  rw [← hA] at hsA hszA hm ⊢
  clear hA
  have HF : Hid (∀ u, Calls Tryz.prog 11 #[.int .u16 s] u fun r w' => r = .returned (.tuple #[.iface 48 (.agg F), .bool true]) ∧ Chg u w') := hf
  have HM : Hid (∀ u, Chg w u → Calls Tryz.prog 120 #[.agg F, kv, .agg A, va, vx] u fun r w' => ∃ v e, r = .returned (.tuple #[v, .int .i64 e]) ∧ P v e w') := hm
  clear hf hm
  go_enter Tryz.func6, Tryz.ntmps6
  go_wp2_with fail
  obtain ⟨w1, hw1⟩ : ∃ w1, w1 = w.alloc (.cells A 25) := ⟨_, rfl⟩
  have Z1 : Hid (Chg w w1 ∧ Ar w1 w.heap.size A) := by
    rw [hw1]
    exact ⟨(Chg.refl w).alloc _, Ar.new w _ _⟩
  rw [← hw1]
  clear hw1 hsA
  go_at_call 11
  refine (HF.out _).mono ?_
  rintro r w2 ⟨rfl, hw2⟩
  have Z2 : Hid (Chg w w2) := Z1.out.1.trans hw2
  obtain ⟨t2, g2⟩ := Z1.out.2.chg hw2
  clear hw2 Z1
  go_wp2_with (first | refine wpList_load_row rfl 25 _ rfl _ rfl _ _ _ _ g2 und38 rfl hszA ?_ | (go_at_call 120; refine (HM.out _ Z2.out).mono ?_; rintro r w3 ⟨v, e, rfl, hv⟩))
  go_ret2
  exact ⟨v, e, rfl, hv⟩

theorem sealCM (v : Value) (u : World) : Sem.run Tryz.prog (method 247 51 v "drawbridge/suite.seal") u = .ok (125, v) u := by kernel_rfl
set_option maxRecDepth 100000 in
set_option maxHeartbeats 4000000 in
theorem sealC_face (s : Int) (kv : Value) (nc : Nat → By) (va vx : Value) (w : World) (P : Value → Int → World → Prop)
    (hf : ∀ u, Calls Tryz.prog 11 #[.int .u16 s] u fun r w' => r = .returned (.tuple #[.iface 51 (.agg (lkC)), .bool true]) ∧ Chg u w')
    (hm : ∀ u, Chg w u → Calls Tryz.prog 125 #[.agg (lkC), kv, .agg (ba 12 nc), va, vx] u fun r w' => ∃ v e, r = .returned (.tuple #[v, .int .i64 e]) ∧ P v e w') :
    Calls Tryz.prog 6 #[.int .u16 s, kv, .agg (ba 12 nc), va, vx] w fun r w' => ∃ v e, r = .returned (.tuple #[v, .int .i64 e]) ∧ P v e w' := by
  have hme := sealCM
  obtain ⟨F, hF⟩ : ∃ F, F = lkC := ⟨_, rfl⟩
  rw [← hF] at hf hm
  clear hF
  have hsA := ba_size 12 nc
  have hszA := szB nc zero38.2
  obtain ⟨A, hA⟩ : ∃ A, A = ba 12 nc := ⟨_, rfl⟩
  rw [← hA] at hsA hszA hm ⊢
  clear hA
  have HF : Hid (∀ u, Calls Tryz.prog 11 #[.int .u16 s] u fun r w' => r = .returned (.tuple #[.iface 51 (.agg F), .bool true]) ∧ Chg u w') := hf
  have HM : Hid (∀ u, Chg w u → Calls Tryz.prog 125 #[.agg F, kv, .agg A, va, vx] u fun r w' => ∃ v e, r = .returned (.tuple #[v, .int .i64 e]) ∧ P v e w') := hm
  clear hf hm
  go_enter Tryz.func6, Tryz.ntmps6
  go_wp2_with fail
  obtain ⟨w1, hw1⟩ : ∃ w1, w1 = w.alloc (.cells A 25) := ⟨_, rfl⟩
  have Z1 : Hid (Chg w w1 ∧ Ar w1 w.heap.size A) := by
    rw [hw1]
    exact ⟨(Chg.refl w).alloc _, Ar.new w _ _⟩
  rw [← hw1]
  clear hw1 hsA
  go_at_call 11
  refine (HF.out _).mono ?_
  rintro r w2 ⟨rfl, hw2⟩
  have Z2 : Hid (Chg w w2) := Z1.out.1.trans hw2
  obtain ⟨t2, g2⟩ := Z1.out.2.chg hw2
  clear hw2 Z1
  go_wp2_with (first | refine wpList_load_row rfl 25 _ rfl _ rfl _ _ _ _ g2 und38 rfl hszA ?_ | (go_at_call 125; refine (HM.out _ Z2.out).mono ?_; rintro r w3 ⟨v, e, rfl, hv⟩))
  go_ret2
  exact ⟨v, e, rfl, hv⟩

theorem openGM (v : Value) (u : World) : Sem.run Tryz.prog (method 247 48 v "drawbridge/suite.open") u = .ok (119, v) u := by kernel_rfl
set_option maxRecDepth 100000 in
set_option maxHeartbeats 4000000 in
theorem openG_face (s : Int) (h n : Int) (kv : Value) (nc : Nat → By) (va vx : Value) (w : World) (P : Value → Int → World → Prop)
    (hf : ∀ u, Calls Tryz.prog 11 #[.int .u16 s] u fun r w' => r = .returned (.tuple #[.iface 48 (.agg (lkG h n)), .bool true]) ∧ Chg u w')
    (hm : ∀ u, Chg w u → Calls Tryz.prog 119 #[.agg (lkG h n), kv, .agg (ba 12 nc), va, vx] u fun r w' => ∃ v e, r = .returned (.tuple #[v, .int .i64 e]) ∧ P v e w') :
    Calls Tryz.prog 8 #[.int .u16 s, kv, .agg (ba 12 nc), va, vx] w fun r w' => ∃ v e, r = .returned (.tuple #[v, .int .i64 e]) ∧ P v e w' := by
  have hme := openGM
  obtain ⟨F, hF⟩ : ∃ F, F = lkG h n := ⟨_, rfl⟩
  rw [← hF] at hf hm
  clear hF
  have hsA := ba_size 12 nc
  have hszA := szB nc zero38.2
  obtain ⟨A, hA⟩ : ∃ A, A = ba 12 nc := ⟨_, rfl⟩
  rw [← hA] at hsA hszA hm ⊢
  clear hA
  have HF : Hid (∀ u, Calls Tryz.prog 11 #[.int .u16 s] u fun r w' => r = .returned (.tuple #[.iface 48 (.agg F), .bool true]) ∧ Chg u w') := hf
  have HM : Hid (∀ u, Chg w u → Calls Tryz.prog 119 #[.agg F, kv, .agg A, va, vx] u fun r w' => ∃ v e, r = .returned (.tuple #[v, .int .i64 e]) ∧ P v e w') := hm
  clear hf hm
  go_enter Tryz.func8, Tryz.ntmps8
  go_wp2_with fail
  obtain ⟨w1, hw1⟩ : ∃ w1, w1 = w.alloc (.cells A 25) := ⟨_, rfl⟩
  have Z1 : Hid (Chg w w1 ∧ Ar w1 w.heap.size A) := by
    rw [hw1]
    exact ⟨(Chg.refl w).alloc _, Ar.new w _ _⟩
  rw [← hw1]
  clear hw1 hsA
  go_at_call 11
  refine (HF.out _).mono ?_
  rintro r w2 ⟨rfl, hw2⟩
  have Z2 : Hid (Chg w w2) := Z1.out.1.trans hw2
  obtain ⟨t2, g2⟩ := Z1.out.2.chg hw2
  clear hw2 Z1
  go_wp2_with (first | refine wpList_load_row rfl 25 _ rfl _ rfl _ _ _ _ g2 und38 rfl hszA ?_ | (go_at_call 119; refine (HM.out _ Z2.out).mono ?_; rintro r w3 ⟨v, e, rfl, hv⟩))
  go_ret2
  exact ⟨v, e, rfl, hv⟩

theorem openCM (v : Value) (u : World) : Sem.run Tryz.prog (method 247 51 v "drawbridge/suite.open") u = .ok (124, v) u := by kernel_rfl
set_option maxRecDepth 100000 in
set_option maxHeartbeats 4000000 in
theorem openC_face (s : Int) (kv : Value) (nc : Nat → By) (va vx : Value) (w : World) (P : Value → Int → World → Prop)
    (hf : ∀ u, Calls Tryz.prog 11 #[.int .u16 s] u fun r w' => r = .returned (.tuple #[.iface 51 (.agg (lkC)), .bool true]) ∧ Chg u w')
    (hm : ∀ u, Chg w u → Calls Tryz.prog 124 #[.agg (lkC), kv, .agg (ba 12 nc), va, vx] u fun r w' => ∃ v e, r = .returned (.tuple #[v, .int .i64 e]) ∧ P v e w') :
    Calls Tryz.prog 8 #[.int .u16 s, kv, .agg (ba 12 nc), va, vx] w fun r w' => ∃ v e, r = .returned (.tuple #[v, .int .i64 e]) ∧ P v e w' := by
  have hme := openCM
  obtain ⟨F, hF⟩ : ∃ F, F = lkC := ⟨_, rfl⟩
  rw [← hF] at hf hm
  clear hF
  have hsA := ba_size 12 nc
  have hszA := szB nc zero38.2
  obtain ⟨A, hA⟩ : ∃ A, A = ba 12 nc := ⟨_, rfl⟩
  rw [← hA] at hsA hszA hm ⊢
  clear hA
  have HF : Hid (∀ u, Calls Tryz.prog 11 #[.int .u16 s] u fun r w' => r = .returned (.tuple #[.iface 51 (.agg F), .bool true]) ∧ Chg u w') := hf
  have HM : Hid (∀ u, Chg w u → Calls Tryz.prog 124 #[.agg F, kv, .agg A, va, vx] u fun r w' => ∃ v e, r = .returned (.tuple #[v, .int .i64 e]) ∧ P v e w') := hm
  clear hf hm
  go_enter Tryz.func8, Tryz.ntmps8
  go_wp2_with fail
  obtain ⟨w1, hw1⟩ : ∃ w1, w1 = w.alloc (.cells A 25) := ⟨_, rfl⟩
  have Z1 : Hid (Chg w w1 ∧ Ar w1 w.heap.size A) := by
    rw [hw1]
    exact ⟨(Chg.refl w).alloc _, Ar.new w _ _⟩
  rw [← hw1]
  clear hw1 hsA
  go_at_call 11
  refine (HF.out _).mono ?_
  rintro r w2 ⟨rfl, hw2⟩
  have Z2 : Hid (Chg w w2) := Z1.out.1.trans hw2
  obtain ⟨t2, g2⟩ := Z1.out.2.chg hw2
  clear hw2 Z1
  go_wp2_with (first | refine wpList_load_row rfl 25 _ rfl _ rfl _ _ _ _ g2 und38 rfl hszA ?_ | (go_at_call 124; refine (HM.out _ Z2.out).mono ?_; rintro r w3 ⟨v, e, rfl, hv⟩))
  go_ret2
  exact ⟨v, e, rfl, hv⟩

set_option maxRecDepth 100000 in
set_option maxHeartbeats 4000000 in
theorem sealNone_any (s : Int) (kv : Value) (nc : Nat → By) (va vx : Value) (w : World) (h1 : s ≠ 4865) (h2 : s ≠ 4866) (h3 : s ≠ 4867) :
    Calls Tryz.prog 6 #[.int .u16 s, kv, .agg (ba 12 nc), va, vx] w fun r w' => r = .returned (.tuple #[.slice none 0 0, .int .i64 101]) ∧ Chg w w' := by
  have HF : Hid (∀ u, Calls Tryz.prog 11 #[.int .u16 s] u fun r w' => r = .returned (.tuple #[.nilIface, .bool false]) ∧ Chg u w') := fun u => by
    have := find_any s u
    rwa [show fndV s = .nilIface by simp [fndV, h1, h2, h3], show fndB s = false by simp [fndB, h1, h2, h3]] at this
  have hsA := ba_size 12 nc
  obtain ⟨A, hA⟩ : ∃ A, A = ba 12 nc := ⟨_, rfl⟩
  rw [← hA] at hsA ⊢
  clear hA h1 h2 h3
  go_enter Tryz.func6, Tryz.ntmps6
  go_wp2_with (first | (go_at_call 11; refine (HF.out _).mono ?_; rintro r w2 ⟨rfl, hw2⟩))
  go_ret2
  exact ⟨rfl, ((Chg.refl w).alloc _).trans hw2⟩

set_option maxRecDepth 100000 in
set_option maxHeartbeats 4000000 in
theorem openNone_any (s : Int) (kv : Value) (nc : Nat → By) (va vx : Value) (w : World) (h1 : s ≠ 4865) (h2 : s ≠ 4866) (h3 : s ≠ 4867) :
    Calls Tryz.prog 8 #[.int .u16 s, kv, .agg (ba 12 nc), va, vx] w fun r w' => r = .returned (.tuple #[.slice none 0 0, .int .i64 101]) ∧ Chg w w' := by
  have HF : Hid (∀ u, Calls Tryz.prog 11 #[.int .u16 s] u fun r w' => r = .returned (.tuple #[.nilIface, .bool false]) ∧ Chg u w') := fun u => by
    have := find_any s u
    rwa [show fndV s = .nilIface by simp [fndV, h1, h2, h3], show fndB s = false by simp [fndB, h1, h2, h3]] at this
  have hsA := ba_size 12 nc
  obtain ⟨A, hA⟩ : ∃ A, A = ba 12 nc := ⟨_, rfl⟩
  rw [← hA] at hsA ⊢
  clear hA h1 h2 h3
  go_enter Tryz.func8, Tryz.ntmps8
  go_wp2_with (first | (go_at_call 11; refine (HF.out _).mono ?_; rintro r w2 ⟨rfl, hw2⟩))
  go_ret2
  exact ⟨rfl, ((Chg.refl w).alloc _).trans hw2⟩

set_option maxRecDepth 100000 in
set_option maxHeartbeats 4000000 in
theorem sealG_bad (h n : Int) (ao : Option Addr) (L cap : Nat) (nc : Nat → By) (va vx : Value) (w : World) (hL : (L : Int) ≠ n) :
    Calls Tryz.prog 120 #[.agg (lkG h n), .slice ao L cap, .agg (ba 12 nc), va, vx] w fun r w' => r = .returned (.tuple #[.slice none 0 0, .int .i64 102]) ∧ Chg w w' := by
  have hd : ((L : Int) != n) = true := by simp [hL]
  clear hL
  have hsA := ba_size 12 nc
  obtain ⟨A, hA⟩ : ∃ A, A = ba 12 nc := ⟨_, rfl⟩
  rw [← hA] at hsA ⊢
  unfold lkG
  clear hA
  go_enter Tryz.func120, Tryz.ntmps120
  go_wp2_with fail
  go_ret2
  exact ⟨rfl, ((Chg.refl w).alloc _).alloc _⟩

set_option maxRecDepth 100000 in
set_option maxHeartbeats 4000000 in
theorem openG_bad (h n : Int) (ao : Option Addr) (L cap : Nat) (nc : Nat → By) (va vx : Value) (w : World) (hL : (L : Int) ≠ n) :
    Calls Tryz.prog 119 #[.agg (lkG h n), .slice ao L cap, .agg (ba 12 nc), va, vx] w fun r w' => r = .returned (.tuple #[.slice none 0 0, .int .i64 102]) ∧ Chg w w' := by
  have hd : ((L : Int) != n) = true := by simp [hL]
  clear hL
  have hsA := ba_size 12 nc
  obtain ⟨A, hA⟩ : ∃ A, A = ba 12 nc := ⟨_, rfl⟩
  rw [← hA] at hsA ⊢
  unfold lkG
  clear hA
  go_enter Tryz.func119, Tryz.ntmps119
  go_wp2_with fail
  go_ret2
  exact ⟨rfl, ((Chg.refl w).alloc _).alloc _⟩

set_option maxRecDepth 100000 in
set_option maxHeartbeats 4000000 in
theorem sealC_bad (ao : Option Addr) (L cap : Nat) (nc : Nat → By) (va vx : Value) (w : World) (hL : (L : Int) ≠ 32) :
    Calls Tryz.prog 125 #[.agg (lkC), .slice ao L cap, .agg (ba 12 nc), va, vx] w fun r w' => r = .returned (.tuple #[.slice none 0 0, .int .i64 102]) ∧ Chg w w' := by
  have hd : ((L : Int) != 32) = true := by simp [hL]
  clear hL
  have hsA := ba_size 12 nc
  obtain ⟨A, hA⟩ : ∃ A, A = ba 12 nc := ⟨_, rfl⟩
  rw [← hA] at hsA ⊢
  unfold lkC
  clear hA
  go_enter Tryz.func125, Tryz.ntmps125
  go_wp2_with fail
  go_ret2
  exact ⟨rfl, ((Chg.refl w).alloc _).alloc _⟩

set_option maxRecDepth 100000 in
set_option maxHeartbeats 4000000 in
theorem openC_bad (ao : Option Addr) (L cap : Nat) (nc : Nat → By) (va vx : Value) (w : World) (hL : (L : Int) ≠ 32) :
    Calls Tryz.prog 124 #[.agg (lkC), .slice ao L cap, .agg (ba 12 nc), va, vx] w fun r w' => r = .returned (.tuple #[.slice none 0 0, .int .i64 102]) ∧ Chg w w' := by
  have hd : ((L : Int) != 32) = true := by simp [hL]
  clear hL
  have hsA := ba_size 12 nc
  obtain ⟨A, hA⟩ : ∃ A, A = ba 12 nc := ⟨_, rfl⟩
  rw [← hA] at hsA ⊢
  unfold lkC
  clear hA
  go_enter Tryz.func124, Tryz.ntmps124
  go_wp2_with fail
  go_ret2
  exact ⟨rfl, ((Chg.refl w).alloc _).alloc _⟩

end Go.Proofs.YtobglgddbhddnaaGreat

namespace Go.Proofs.YtobglgddbhddnaaGreat
open Go.RowKit
set_option linter.unusedVariables false

theorem skeyLenGM (v : Value) (u : World) : Sem.run Tryz.prog (method 247 48 v "drawbridge/suite.keyLen") u = .ok (117, v) u := by kernel_rfl
theorem skeyLenCM (v : Value) (u : World) : Sem.run Tryz.prog (method 247 51 v "drawbridge/suite.keyLen") u = .ok (122, v) u := by kernel_rfl
set_option maxRecDepth 100000 in
set_option maxHeartbeats 4000000 in
theorem skeyLenG_any (h n : Int) (w : World) : Calls Tryz.prog 117 #[.agg (lkG h n)] w fun r w' => r = .returned (.int .i64 (n)) ∧ Chg w w' := by
  unfold lkG
  go_enter Tryz.func117, Tryz.ntmps117
  go_wp2_with fail
  go_ret
  exact ⟨rfl, (Chg.refl w).alloc _⟩
set_option maxRecDepth 100000 in
set_option maxHeartbeats 4000000 in
theorem skeyLenC_any (w : World) : Calls Tryz.prog 122 #[.agg lkC] w fun r w' => r = .returned (.int .i64 32) ∧ Chg w w' := by
  unfold lkC
  go_enter Tryz.func122, Tryz.ntmps122
  go_wp2_with fail
  go_ret
  exact ⟨rfl, (Chg.refl w).alloc _⟩
def skeyLenF (s : Int) : Int := if s = 4865 then 16 else if s = 4866 then 32 else if s = 4867 then 32 else 0
set_option maxRecDepth 100000 in
set_option maxHeartbeats 4000000 in
theorem skeyLen_any (s : Int) (w : World) : Calls Tryz.prog 10 #[.int .u16 s] w fun r w' => r = .returned (.int .i64 (skeyLenF s)) ∧ Chg w w' := by
  by_cases h1 : s = 4865
  · subst h1
    have HF : Hid (∀ u, Calls Tryz.prog 11 #[.int .u16 4865] u fun r w' => r = .returned (.tuple #[.iface 48 (.agg (lkG 1 16)), .bool true]) ∧ Chg u w') := fun u => find_any 4865 u
    have hme := skeyLenGM
    go_enter Tryz.func10, Tryz.ntmps10
    go_wp2_with (first | (go_at_call 11; refine (HF.out _).mono ?_; rintro r w2 ⟨rfl, hw2⟩) | (go_at_call 117; refine (skeyLenG_any 1 16 _).mono ?_; rintro r w3 ⟨rfl, hw3⟩))
    go_ret
    exact ⟨rfl, hw2.trans hw3⟩
  · by_cases h2 : s = 4866
    · subst h2
      have HF : Hid (∀ u, Calls Tryz.prog 11 #[.int .u16 4866] u fun r w' => r = .returned (.tuple #[.iface 48 (.agg (lkG 2 32)), .bool true]) ∧ Chg u w') := fun u => find_any 4866 u
      have hme := skeyLenGM
      go_enter Tryz.func10, Tryz.ntmps10
      go_wp2_with (first | (go_at_call 11; refine (HF.out _).mono ?_; rintro r w2 ⟨rfl, hw2⟩) | (go_at_call 117; refine (skeyLenG_any 2 32 _).mono ?_; rintro r w3 ⟨rfl, hw3⟩))
      go_ret
      exact ⟨rfl, hw2.trans hw3⟩
    · by_cases h3 : s = 4867
      · subst h3
        have HF : Hid (∀ u, Calls Tryz.prog 11 #[.int .u16 4867] u fun r w' => r = .returned (.tuple #[.iface 51 (.agg lkC), .bool true]) ∧ Chg u w') := fun u => find_any 4867 u
        have hme := skeyLenCM
        go_enter Tryz.func10, Tryz.ntmps10
        go_wp2_with (first | (go_at_call 11; refine (HF.out _).mono ?_; rintro r w2 ⟨rfl, hw2⟩) | (go_at_call 122; refine (skeyLenC_any _).mono ?_; rintro r w3 ⟨rfl, hw3⟩))
        go_ret
        exact ⟨rfl, hw2.trans hw3⟩
      · have HF : Hid (∀ u, Calls Tryz.prog 11 #[.int .u16 s] u fun r w' => r = .returned (.tuple #[.nilIface, .bool false]) ∧ Chg u w') := fun u => by
          have := find_any s u
          rwa [show fndV s = .nilIface by simp [fndV, h1, h2, h3], show fndB s = false by simp [fndB, h1, h2, h3]] at this
        rw [show skeyLenF s = 0 by simp [skeyLenF, h1, h2, h3]]
        go_enter Tryz.func10, Tryz.ntmps10
        go_wp2_with (first | (go_at_call 11; refine (HF.out _).mono ?_; rintro r w2 ⟨rfl, hw2⟩))
        go_ret
        exact ⟨rfl, hw2⟩
set_option maxRecDepth 100000 in
set_option maxHeartbeats 4000000 in
theorem skeyLenR_any (s : Int) (w : World) : Calls Tryz.prog 20 #[.int .u16 s] w fun r w' => r = .returned (.int .i64 (skeyLenF s)) ∧ Chg w w' := by
  by_cases h1 : s = 4865
  · subst h1
    go_enter Tryz.func20, Tryz.ntmps20
    go_wp2_with fail
    go_ret
    exact ⟨rfl, Chg.refl w⟩
  · by_cases h2 : s = 4866
    · subst h2
      go_enter Tryz.func20, Tryz.ntmps20
      go_wp2_with fail
      go_ret
      exact ⟨rfl, Chg.refl w⟩
    · by_cases h3 : s = 4867
      · subst h3
        go_enter Tryz.func20, Tryz.ntmps20
        go_wp2_with fail
        go_ret
        exact ⟨rfl, Chg.refl w⟩
      · rw [show skeyLenF s = 0 by simp [skeyLenF, h1, h2, h3]]
        go_enter Tryz.func20, Tryz.ntmps20
        go_wp2_with fail
        go_ret
        exact ⟨rfl, Chg.refl w⟩

end Go.Proofs.YtobglgddbhddnaaGreat

namespace Go.Proofs.YtobglgddbhddnaaGreat
open Go.RowKit
set_option linter.unusedVariables false

/-- What may be: U2's errors. -/
def mayF (s : Int) (L : Nat) : Int := if skeyLenF s = 0 then 101 else if (L : Int) = skeyLenF s then 0 else 102
set_option maxRecDepth 100000 in
set_option maxHeartbeats 4000000 in
theorem may_any (s : Int) (ao : Option Addr) (L cap : Nat) (w : World) : Calls Tryz.prog 12 #[.int .u16 s, .slice ao L cap] w fun r w' => r = .returned (.int .i64 (mayF s L)) ∧ Chg w w' := by
  obtain ⟨k, hk⟩ : ∃ k, k = skeyLenF s := ⟨_, rfl⟩
  have HK : Hid (∀ u, Calls Tryz.prog 20 #[.int .u16 s] u fun r w' => r = .returned (.int .i64 k) ∧ Chg u w') := fun u => by rw [hk]; exact skeyLenR_any s u
  unfold mayF
  rw [← hk]
  clear hk
  by_cases h0 : k = 0
  · subst h0
    rw [if_pos rfl]
    go_enter Tryz.func12, Tryz.ntmps12
    go_wp2_with (first | (go_at_call 20; refine (HK.out _).mono ?_; rintro r w2 ⟨rfl, hw2⟩))
    go_ret
    exact ⟨rfl, hw2⟩
  · rw [if_neg h0]
    have e0 : (k == 0) = false := by simp [h0]
    by_cases hl : (L : Int) = k
    · rw [if_pos hl]
      have e1 : ((L : Int) != k) = false := by simp [hl]
      clear hl h0
      go_enter Tryz.func12, Tryz.ntmps12
      go_wp2_with (first | (go_at_call 20; refine (HK.out _).mono ?_; rintro r w2 ⟨rfl, hw2⟩))
      go_ret
      exact ⟨rfl, hw2⟩
    · rw [if_neg hl]
      have e1 : ((L : Int) != k) = true := by simp [hl]
      clear hl h0
      go_enter Tryz.func12, Tryz.ntmps12
      go_wp2_with (first | (go_at_call 20; refine (HK.out _).mono ?_; rintro r w2 ⟨rfl, hw2⟩))
      go_ret
      exact ⟨rfl, hw2⟩

set_option maxRecDepth 100000 in
set_option maxHeartbeats 4000000 in
theorem whole_any (b o cap : Nat) (key : Nat → By) (w : World) (hk : Bs w b o 32 key) (hcap : 32 ≤ cap) (hcap' : cap ≤ 9223372036854775807) : Calls Tryz.prog 14 #[.slice (some ⟨b, o, none⟩) 32 cap] w fun r w' => r = .returned (.agg (ba 32 key)) ∧ Chg w w' := by
  have HK : Hid (Bs w b o 32 key) := hk
  clear hk
  have hz := zeroK.1
  go_enter Tryz.func14, Tryz.ntmps14
  go_wp2_with fail
  obtain ⟨w2, hw2⟩ : ∃ w2, w2 = (w.alloc (.cells (ba 32 zB) 40)).alloc (.cells (ba 32 zB) 40) := ⟨_, rfl⟩
  have Z2 : Hid (Chg w w2 ∧ Ar w2 w.heap.size (ba 32 zB) ∧ Ar w2 (w.heap.size + 1) (ba 32 zB)) := by
    rw [hw2]
    exact ⟨((Chg.refl w).alloc _).alloc _, (Ar.new w _ _).alloc _, Ar.new1 w _ _ _⟩
  rw [← hw2]
  clear hw2 hz
  go_loopw [4] (fun v wr => ∃ (i : Nat), v = .int .i64 i ∧ i ≤ 32 ∧ Chg w wr ∧ Ar wr w.heap.size (ba 32 zB) ∧ Ar wr (w.heap.size + 1) (ba 32 (upTo i key zB))) (fun v wr => 32 - (intOf v).toNat)
  case atStart =>
    obtain ⟨z1, z2, z3⟩ := Z2.out
    exact ⟨0, rfl, by omega, z1, z2, by rw [upTo_zero]; exact z3⟩
  case round =>
    clear Z2
    obtain ⟨i, rfl, hi, hch, h1, h3⟩ := hrel
    have H : Hid (Chg w wr ∧ Ar wr w.heap.size (ba 32 zB) ∧ Ar wr (w.heap.size + 1) (ba 32 (upTo i key zB))) := ⟨hch, h1, h3⟩
    by_cases h16 : i < 32
    · have hd : decide ((i : Int) < 32) = true := by simp; omega
      have li : (i : Int) < 32 := by omega
      have c1 := (Bs.chg HK.out hch) i h16
      have f1 := h3.frozen i
      have c2 := (h3.cell i).trans (ba_get 32 _ h16)
      obtain ⟨y, hy⟩ : ∃ y, y = key i := ⟨_, rfl⟩
      rw [← hy] at c1
      have HX : Hid (y = key i) := hy
      clear hy hch h1 h3
      go_wp2_with fail
      go_roundw
      case rel =>
        obtain ⟨k0, k1, k3⟩ := H.out
        refine ⟨i + 1, by go_num, by omega, k0.setCell (by dsimp only; omega) _, k1.other (by dsimp only; omega) _, ?_⟩
        have hh := k3.set i (.int .u8 (y.toNat : Int))
        rw [ba_set, HX.out, upTo_upd] at hh
        rw [HX.out]
        exact hh
      case measure => simp [intOf]; omega
    · have : i = 32 := by omega
      subst this
      obtain ⟨k0, k1, k3⟩ := H.out
      rw [upTo_all] at k3
      obtain ⟨t1, g1⟩ := k3
      obtain ⟨t3, g3⟩ := k1
      have hsz := szB key zeroK.2
      have hlen := lenB 32 zB key
      have hone := ba_one 32 key
      clear hch h1 h3
      go_wp2_with (first | refine wpList_load_row rfl 40 _ rfl _ rfl _ _ _ _ g1 Cha.und22 rfl hsz ?_ | refine wpList_store_row rfl 40 _ _ rfl _ _ rfl rfl _ _ g3 hsz hlen hone ?_)
      refine bp_c (n := 32) (c := ba 32 key) Tryz.results14 rfl rfl ?_ Cha.und22 zeroK.2 (ba_size _ _) ⟨rfl, ?_⟩
      · exact H.out.2.1.row _
      · exact H.out.1.setRow (by omega) _
end Go.Proofs.YtobglgddbhddnaaGreat
