/-
  What a suite is asked: its hash, how long its keys are, its limit; the document's answers.
-/
import Derived.Test.YtobglgddbhddnaaFnd
namespace Go.Proofs.Ytobglgddbhddnaa
open Go.RowKit
set_option linter.unusedVariables false

theorem shashGM (v : Value) (u : World) : Sem.run Try.prog (method 229 49 v "drawbridge/suite.hash") u = .ok (87, v) u := by kernel_rfl
theorem shashCM (v : Value) (u : World) : Sem.run Try.prog (method 229 54 v "drawbridge/suite.hash") u = .ok (92, v) u := by kernel_rfl
set_option maxRecDepth 100000 in
set_option maxHeartbeats 4000000 in
theorem shashG_any (h n : Int) (w : World) : Calls Try.prog 87 #[.agg (lkG h n)] w fun r w' => r = .returned (.int .i64 (h)) ∧ Chg w w' := by
  unfold lkG
  go_enter Try.func87, Try.ntmps87
  go_wp2_with fail
  go_ret
  exact ⟨rfl, (Chg.refl w).alloc _⟩
set_option maxRecDepth 100000 in
set_option maxHeartbeats 4000000 in
theorem shashC_any (w : World) : Calls Try.prog 92 #[.agg lkC] w fun r w' => r = .returned (.int .i64 1) ∧ Chg w w' := by
  unfold lkC
  go_enter Try.func92, Try.ntmps92
  go_wp2_with fail
  go_ret
  exact ⟨rfl, (Chg.refl w).alloc _⟩
def shashF (s : Int) : Int := if s = 4865 then 1 else if s = 4866 then 2 else if s = 4867 then 1 else 0
set_option maxRecDepth 100000 in
set_option maxHeartbeats 4000000 in
theorem shash_any (s : Int) (w : World) : Calls Try.prog 8 #[.int .u16 s] w fun r w' => r = .returned (.int .i64 (shashF s)) ∧ Chg w w' := by
  by_cases h1 : s = 4865
  · subst h1
    have HF : Hid (∀ u, Calls Try.prog 17 #[.int .u16 4865] u fun r w' => r = .returned (.tuple #[.iface 49 (.agg (lkG 1 16)), .bool true]) ∧ Chg u w') := fun u => find_any 4865 u
    have hme := shashGM
    go_enter Try.func8, Try.ntmps8
    go_wp2_with (first | (go_at_call 17; refine (HF.out _).mono ?_; rintro r w2 ⟨rfl, hw2⟩) | (go_at_call 87; refine (shashG_any 1 16 _).mono ?_; rintro r w3 ⟨rfl, hw3⟩))
    go_ret
    exact ⟨rfl, hw2.trans hw3⟩
  · by_cases h2 : s = 4866
    · subst h2
      have HF : Hid (∀ u, Calls Try.prog 17 #[.int .u16 4866] u fun r w' => r = .returned (.tuple #[.iface 49 (.agg (lkG 2 32)), .bool true]) ∧ Chg u w') := fun u => find_any 4866 u
      have hme := shashGM
      go_enter Try.func8, Try.ntmps8
      go_wp2_with (first | (go_at_call 17; refine (HF.out _).mono ?_; rintro r w2 ⟨rfl, hw2⟩) | (go_at_call 87; refine (shashG_any 2 32 _).mono ?_; rintro r w3 ⟨rfl, hw3⟩))
      go_ret
      exact ⟨rfl, hw2.trans hw3⟩
    · by_cases h3 : s = 4867
      · subst h3
        have HF : Hid (∀ u, Calls Try.prog 17 #[.int .u16 4867] u fun r w' => r = .returned (.tuple #[.iface 54 (.agg lkC), .bool true]) ∧ Chg u w') := fun u => find_any 4867 u
        have hme := shashCM
        go_enter Try.func8, Try.ntmps8
        go_wp2_with (first | (go_at_call 17; refine (HF.out _).mono ?_; rintro r w2 ⟨rfl, hw2⟩) | (go_at_call 92; refine (shashC_any _).mono ?_; rintro r w3 ⟨rfl, hw3⟩))
        go_ret
        exact ⟨rfl, hw2.trans hw3⟩
      · have HF : Hid (∀ u, Calls Try.prog 17 #[.int .u16 s] u fun r w' => r = .returned (.tuple #[.nilIface, .bool false]) ∧ Chg u w') := fun u => by
          have := find_any s u
          rwa [show fndV s = .nilIface by simp [fndV, h1, h2, h3], show fndB s = false by simp [fndB, h1, h2, h3]] at this
        rw [show shashF s = 0 by simp [shashF, h1, h2, h3]]
        go_enter Try.func8, Try.ntmps8
        go_wp2_with (first | (go_at_call 17; refine (HF.out _).mono ?_; rintro r w2 ⟨rfl, hw2⟩))
        go_ret
        exact ⟨rfl, hw2⟩
set_option maxRecDepth 100000 in
set_option maxHeartbeats 4000000 in
theorem shashR_any (s : Int) (w : World) : Calls Try.prog 9 #[.int .u16 s] w fun r w' => r = .returned (.int .i64 (shashF s)) ∧ Chg w w' := by
  by_cases h1 : s = 4865
  · subst h1
    go_enter Try.func9, Try.ntmps9
    go_wp2_with fail
    go_ret
    exact ⟨rfl, Chg.refl w⟩
  · by_cases h2 : s = 4866
    · subst h2
      go_enter Try.func9, Try.ntmps9
      go_wp2_with fail
      go_ret
      exact ⟨rfl, Chg.refl w⟩
    · by_cases h3 : s = 4867
      · subst h3
        go_enter Try.func9, Try.ntmps9
        go_wp2_with fail
        go_ret
        exact ⟨rfl, Chg.refl w⟩
      · rw [show shashF s = 0 by simp [shashF, h1, h2, h3]]
        go_enter Try.func9, Try.ntmps9
        go_wp2_with fail
        go_ret
        exact ⟨rfl, Chg.refl w⟩

theorem skeyLenGM (v : Value) (u : World) : Sem.run Try.prog (method 229 49 v "drawbridge/suite.keyLen") u = .ok (88, v) u := by kernel_rfl
theorem skeyLenCM (v : Value) (u : World) : Sem.run Try.prog (method 229 54 v "drawbridge/suite.keyLen") u = .ok (93, v) u := by kernel_rfl
set_option maxRecDepth 100000 in
set_option maxHeartbeats 4000000 in
theorem skeyLenG_any (h n : Int) (w : World) : Calls Try.prog 88 #[.agg (lkG h n)] w fun r w' => r = .returned (.int .i64 (n)) ∧ Chg w w' := by
  unfold lkG
  go_enter Try.func88, Try.ntmps88
  go_wp2_with fail
  go_ret
  exact ⟨rfl, (Chg.refl w).alloc _⟩
set_option maxRecDepth 100000 in
set_option maxHeartbeats 4000000 in
theorem skeyLenC_any (w : World) : Calls Try.prog 93 #[.agg lkC] w fun r w' => r = .returned (.int .i64 32) ∧ Chg w w' := by
  unfold lkC
  go_enter Try.func93, Try.ntmps93
  go_wp2_with fail
  go_ret
  exact ⟨rfl, (Chg.refl w).alloc _⟩
def skeyLenF (s : Int) : Int := if s = 4865 then 16 else if s = 4866 then 32 else if s = 4867 then 32 else 0
set_option maxRecDepth 100000 in
set_option maxHeartbeats 4000000 in
theorem skeyLen_any (s : Int) (w : World) : Calls Try.prog 10 #[.int .u16 s] w fun r w' => r = .returned (.int .i64 (skeyLenF s)) ∧ Chg w w' := by
  by_cases h1 : s = 4865
  · subst h1
    have HF : Hid (∀ u, Calls Try.prog 17 #[.int .u16 4865] u fun r w' => r = .returned (.tuple #[.iface 49 (.agg (lkG 1 16)), .bool true]) ∧ Chg u w') := fun u => find_any 4865 u
    have hme := skeyLenGM
    go_enter Try.func10, Try.ntmps10
    go_wp2_with (first | (go_at_call 17; refine (HF.out _).mono ?_; rintro r w2 ⟨rfl, hw2⟩) | (go_at_call 88; refine (skeyLenG_any 1 16 _).mono ?_; rintro r w3 ⟨rfl, hw3⟩))
    go_ret
    exact ⟨rfl, hw2.trans hw3⟩
  · by_cases h2 : s = 4866
    · subst h2
      have HF : Hid (∀ u, Calls Try.prog 17 #[.int .u16 4866] u fun r w' => r = .returned (.tuple #[.iface 49 (.agg (lkG 2 32)), .bool true]) ∧ Chg u w') := fun u => find_any 4866 u
      have hme := skeyLenGM
      go_enter Try.func10, Try.ntmps10
      go_wp2_with (first | (go_at_call 17; refine (HF.out _).mono ?_; rintro r w2 ⟨rfl, hw2⟩) | (go_at_call 88; refine (skeyLenG_any 2 32 _).mono ?_; rintro r w3 ⟨rfl, hw3⟩))
      go_ret
      exact ⟨rfl, hw2.trans hw3⟩
    · by_cases h3 : s = 4867
      · subst h3
        have HF : Hid (∀ u, Calls Try.prog 17 #[.int .u16 4867] u fun r w' => r = .returned (.tuple #[.iface 54 (.agg lkC), .bool true]) ∧ Chg u w') := fun u => find_any 4867 u
        have hme := skeyLenCM
        go_enter Try.func10, Try.ntmps10
        go_wp2_with (first | (go_at_call 17; refine (HF.out _).mono ?_; rintro r w2 ⟨rfl, hw2⟩) | (go_at_call 93; refine (skeyLenC_any _).mono ?_; rintro r w3 ⟨rfl, hw3⟩))
        go_ret
        exact ⟨rfl, hw2.trans hw3⟩
      · have HF : Hid (∀ u, Calls Try.prog 17 #[.int .u16 s] u fun r w' => r = .returned (.tuple #[.nilIface, .bool false]) ∧ Chg u w') := fun u => by
          have := find_any s u
          rwa [show fndV s = .nilIface by simp [fndV, h1, h2, h3], show fndB s = false by simp [fndB, h1, h2, h3]] at this
        rw [show skeyLenF s = 0 by simp [skeyLenF, h1, h2, h3]]
        go_enter Try.func10, Try.ntmps10
        go_wp2_with (first | (go_at_call 17; refine (HF.out _).mono ?_; rintro r w2 ⟨rfl, hw2⟩))
        go_ret
        exact ⟨rfl, hw2⟩
set_option maxRecDepth 100000 in
set_option maxHeartbeats 4000000 in
theorem skeyLenR_any (s : Int) (w : World) : Calls Try.prog 11 #[.int .u16 s] w fun r w' => r = .returned (.int .i64 (skeyLenF s)) ∧ Chg w w' := by
  by_cases h1 : s = 4865
  · subst h1
    go_enter Try.func11, Try.ntmps11
    go_wp2_with fail
    go_ret
    exact ⟨rfl, Chg.refl w⟩
  · by_cases h2 : s = 4866
    · subst h2
      go_enter Try.func11, Try.ntmps11
      go_wp2_with fail
      go_ret
      exact ⟨rfl, Chg.refl w⟩
    · by_cases h3 : s = 4867
      · subst h3
        go_enter Try.func11, Try.ntmps11
        go_wp2_with fail
        go_ret
        exact ⟨rfl, Chg.refl w⟩
      · rw [show skeyLenF s = 0 by simp [skeyLenF, h1, h2, h3]]
        go_enter Try.func11, Try.ntmps11
        go_wp2_with fail
        go_ret
        exact ⟨rfl, Chg.refl w⟩

theorem slimitGM (v : Value) (u : World) : Sem.run Try.prog (method 229 49 v "drawbridge/suite.limit") u = .ok (89, v) u := by kernel_rfl
theorem slimitCM (v : Value) (u : World) : Sem.run Try.prog (method 229 54 v "drawbridge/suite.limit") u = .ok (94, v) u := by kernel_rfl
set_option maxRecDepth 100000 in
set_option maxHeartbeats 4000000 in
theorem slimitG_any (h n : Int) (w : World) : Calls Try.prog 89 #[.agg (lkG h n)] w fun r w' => r = .returned (.int .u64 (23726566)) ∧ Chg w w' := by
  unfold lkG
  go_enter Try.func89, Try.ntmps89
  go_wp2_with fail
  go_ret
  exact ⟨rfl, (Chg.refl w).alloc _⟩
set_option maxRecDepth 100000 in
set_option maxHeartbeats 4000000 in
theorem slimitC_any (w : World) : Calls Try.prog 94 #[.agg lkC] w fun r w' => r = .returned (.int .u64 4611686018427387904) ∧ Chg w w' := by
  unfold lkC
  go_enter Try.func94, Try.ntmps94
  go_wp2_with fail
  go_ret
  exact ⟨rfl, (Chg.refl w).alloc _⟩
def slimitF (s : Int) : Int := if s = 4865 then 23726566 else if s = 4866 then 23726566 else if s = 4867 then 4611686018427387904 else 0
set_option maxRecDepth 100000 in
set_option maxHeartbeats 4000000 in
theorem slimit_any (s : Int) (w : World) : Calls Try.prog 12 #[.int .u16 s] w fun r w' => r = .returned (.int .u64 (slimitF s)) ∧ Chg w w' := by
  by_cases h1 : s = 4865
  · subst h1
    have HF : Hid (∀ u, Calls Try.prog 17 #[.int .u16 4865] u fun r w' => r = .returned (.tuple #[.iface 49 (.agg (lkG 1 16)), .bool true]) ∧ Chg u w') := fun u => find_any 4865 u
    have hme := slimitGM
    go_enter Try.func12, Try.ntmps12
    go_wp2_with (first | (go_at_call 17; refine (HF.out _).mono ?_; rintro r w2 ⟨rfl, hw2⟩) | (go_at_call 89; refine (slimitG_any 1 16 _).mono ?_; rintro r w3 ⟨rfl, hw3⟩))
    go_ret
    exact ⟨rfl, hw2.trans hw3⟩
  · by_cases h2 : s = 4866
    · subst h2
      have HF : Hid (∀ u, Calls Try.prog 17 #[.int .u16 4866] u fun r w' => r = .returned (.tuple #[.iface 49 (.agg (lkG 2 32)), .bool true]) ∧ Chg u w') := fun u => find_any 4866 u
      have hme := slimitGM
      go_enter Try.func12, Try.ntmps12
      go_wp2_with (first | (go_at_call 17; refine (HF.out _).mono ?_; rintro r w2 ⟨rfl, hw2⟩) | (go_at_call 89; refine (slimitG_any 2 32 _).mono ?_; rintro r w3 ⟨rfl, hw3⟩))
      go_ret
      exact ⟨rfl, hw2.trans hw3⟩
    · by_cases h3 : s = 4867
      · subst h3
        have HF : Hid (∀ u, Calls Try.prog 17 #[.int .u16 4867] u fun r w' => r = .returned (.tuple #[.iface 54 (.agg lkC), .bool true]) ∧ Chg u w') := fun u => find_any 4867 u
        have hme := slimitCM
        go_enter Try.func12, Try.ntmps12
        go_wp2_with (first | (go_at_call 17; refine (HF.out _).mono ?_; rintro r w2 ⟨rfl, hw2⟩) | (go_at_call 94; refine (slimitC_any _).mono ?_; rintro r w3 ⟨rfl, hw3⟩))
        go_ret
        exact ⟨rfl, hw2.trans hw3⟩
      · have HF : Hid (∀ u, Calls Try.prog 17 #[.int .u16 s] u fun r w' => r = .returned (.tuple #[.nilIface, .bool false]) ∧ Chg u w') := fun u => by
          have := find_any s u
          rwa [show fndV s = .nilIface by simp [fndV, h1, h2, h3], show fndB s = false by simp [fndB, h1, h2, h3]] at this
        rw [show slimitF s = 0 by simp [slimitF, h1, h2, h3]]
        go_enter Try.func12, Try.ntmps12
        go_wp2_with (first | (go_at_call 17; refine (HF.out _).mono ?_; rintro r w2 ⟨rfl, hw2⟩))
        go_ret
        exact ⟨rfl, hw2⟩
set_option maxRecDepth 100000 in
set_option maxHeartbeats 4000000 in
theorem slimitR_any (s : Int) (w : World) : Calls Try.prog 13 #[.int .u16 s] w fun r w' => r = .returned (.int .u64 (slimitF s)) ∧ Chg w w' := by
  by_cases h1 : s = 4865
  · subst h1
    go_enter Try.func13, Try.ntmps13
    go_wp2_with fail
    go_ret
    exact ⟨rfl, Chg.refl w⟩
  · by_cases h2 : s = 4866
    · subst h2
      go_enter Try.func13, Try.ntmps13
      go_wp2_with fail
      go_ret
      exact ⟨rfl, Chg.refl w⟩
    · by_cases h3 : s = 4867
      · subst h3
        go_enter Try.func13, Try.ntmps13
        go_wp2_with fail
        go_ret
        exact ⟨rfl, Chg.refl w⟩
      · rw [show slimitF s = 0 by simp [slimitF, h1, h2, h3]]
        go_enter Try.func13, Try.ntmps13
        go_wp2_with fail
        go_ret
        exact ⟨rfl, Chg.refl w⟩

set_option maxRecDepth 100000 in
set_option maxHeartbeats 4000000 in
theorem known_any (s : Int) (w : World) : Calls Try.prog 6 #[.int .u16 s] w fun r w' => r = .returned (.bool (fndB s)) ∧ Chg w w' := by
  obtain ⟨F, hF⟩ : ∃ F, F = fndV s := ⟨_, rfl⟩
  obtain ⟨b, hb⟩ : ∃ b, b = fndB s := ⟨_, rfl⟩
  have HF : Hid (∀ u, Calls Try.prog 17 #[.int .u16 s] u fun r w' => r = .returned (.tuple #[F, .bool b]) ∧ Chg u w') := fun u => by rw [hF, hb]; exact find_any s u
  rw [← hb]
  clear hF hb
  go_enter Try.func6, Try.ntmps6
  go_wp2_with (first | (go_at_call 17; refine (HF.out _).mono ?_; rintro r w2 ⟨rfl, hw2⟩))
  go_ret
  exact ⟨rfl, hw2⟩
set_option maxRecDepth 100000 in
set_option maxHeartbeats 4000000 in
theorem knownR_any (s : Int) (w : World) : Calls Try.prog 7 #[.int .u16 s] w fun r w' => r = .returned (.bool (fndB s)) ∧ Chg w w' := by
  by_cases h1 : 4865 ≤ s
  · by_cases h2 : s ≤ 4867
    · have e : fndB s = true := by
        have : s = 4865 ∨ s = 4866 ∨ s = 4867 := by omega
        rcases this with rfl | rfl | rfl <;> rfl
      rw [e]
      go_enter Try.func7, Try.ntmps7
      go_wp2_with fail
      go_ret
      exact ⟨rfl, Chg.refl w⟩
    · have e : fndB s = false := by simp [fndB]; omega
      rw [e]
      go_enter Try.func7, Try.ntmps7
      go_wp2_with fail
      go_ret
      exact ⟨rfl, Chg.refl w⟩
  · have e : fndB s = false := by simp [fndB]; omega
    rw [e]
    go_enter Try.func7, Try.ntmps7
    go_wp2_with fail
    go_ret
    exact ⟨rfl, Chg.refl w⟩
end Go.Proofs.Ytobglgddbhddnaa
