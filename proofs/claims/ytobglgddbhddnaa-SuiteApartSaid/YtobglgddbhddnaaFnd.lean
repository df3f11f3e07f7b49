/-
  The locks of the three suites, and how one is found.
-/
import Derived.Test.YtobglgddbhddnaaBase
namespace Go.Proofs.Ytobglgddbhddnaa
open Go.RowKit
set_option linter.unusedVariables false

/-- A lock's cells. -/
def lkG (h n : Int) : Array Value := #[.int .i64 h, .int .i64 n, .int .u64 23726566, .func (.func 20) #[] #[], .func (.func 21) #[] #[], .func (.func 22) #[] #[]]
def lkC : Array Value := #[.int .i64 1, .int .i64 32, .int .u64 4611686018427387904, .func (.func 23) #[] #[], .func (.func 24) #[] #[], .func (.func 25) #[] #[]]
def lk0 : Array Value := #[.int .i64 0, .int .i64 0, .int .u64 0, .nilFunc, .nilFunc, .nilFunc]
theorem zeroG : (∀ w, (zeroValue 49).run Try.prog w = .ok (.agg lk0) w) ∧ (Try.prog.info? 49).map (·.size) = some 6 := zero_of_info (by kernel_rfl)
theorem zeroC : (∀ w, (zeroValue 54).run Try.prog w = .ok (.agg lk0) w) ∧ (Try.prog.info? 54).map (·.size) = some 6 := zero_of_info (by kernel_rfl)
def isStrS : TypeDesc → Bool
  | .struct _ => true
  | _ => false
theorem strS_of {ty : TypeId} (h : (Try.prog.underlying ty).map isStrS = some true) : ∃ f, Try.prog.underlying ty = some (.struct f) := by
  cases hu : Try.prog.underlying ty with
  | none => rw [hu] at h; cases h
  | some d =>
    rw [hu] at h
    cases d <;> first | exact ⟨_, rfl⟩ | cases h
theorem strG : ∃ f, Try.prog.underlying 49 = some (.struct f) := strS_of (by kernel_rfl)
theorem strC : ∃ f, Try.prog.underlying 54 = some (.struct f) := strS_of (by kernel_rfl)
/-- A struct as a result. -/
theorem bp_s {fn : Func} {R : Ending → World → Prop} {a : Act} {w : World} {s b : Nat} {ty : TypeId} {c : Array Value} (h : fn.results = #[.cell s ty]) (hd : a.defers = []) (hp : a.tmps.getD s undef = .pointer (some ⟨b, 0, none⟩)) (ha : Ar w b c)
    (hu : ∃ f, Try.prog.underlying ty = some (.struct f)) (hi : (Try.prog.info? ty).map (·.size) = some c.size) (hR : R (.returned (.agg c)) w) : bodyPost Try.prog fn R .ret a w := by
  refine bodyPost_ret (v := .agg c) ?_ hd hR
  rw [Array.getD_eq_getD_getElem?] at hp
  simp only [results, h]
  obtain ⟨t, h⟩ := ha
  obtain ⟨f, hf⟩ := hu
  simp [hp, asAddr, run_loadVar_row w b t ty c (0, 0) _ h hf rfl hi]

set_option maxRecDepth 100000 in
set_option maxHeartbeats 4000000 in
theorem byGcm_any (h n : Int) (w : World) : Calls Try.prog 18 #[.int .i64 h, .int .i64 n] w fun r w' => r = .returned (.agg (lkG h n)) ∧ Chg w w' := by
  have hz := zeroG.1
  have hsz : (Try.prog.info? 49).map (·.size) = some (lkG h n).size := zeroG.2
  have hone : (lkG h n).all (·.oneCell') = true := by simp [lkG, Value.oneCell']
  have hlen : lk0.size = (lkG h n).size := rfl
  unfold lkG at hsz hone hlen
  unfold lk0 at hz hlen
  go_enter Try.func18, Try.ntmps18
  go_wp2_with (first | refine wpList_store_row rfl 49 _ _ rfl _ _ rfl rfl _ _ (heap_alloc_last w _) hsz hlen hone ?_)
  refine bp_s (c := lkG h n) Try.results18 rfl rfl ?_ strG zeroG.2 ⟨rfl, ?_⟩
  · exact (Ar.new w _ _).row _
  · exact ((Chg.refl w).alloc _).setRow (Nat.le_refl _) _

set_option maxRecDepth 100000 in
set_option maxHeartbeats 4000000 in
theorem byChacha_any (w : World) : Calls Try.prog 19 #[] w fun r w' => r = .returned (.agg lkC) ∧ Chg w w' := by
  have hz := zeroC.1
  have hsz : (Try.prog.info? 54).map (·.size) = some lkC.size := zeroC.2
  have hone : lkC.all (·.oneCell') = true := by simp [lkC, Value.oneCell']
  have hlen : lk0.size = lkC.size := rfl
  unfold lkC at hsz hone hlen
  unfold lk0 at hz hlen
  go_enter Try.func19, Try.ntmps19
  go_wp2_with (first | refine wpList_store_row rfl 54 _ _ rfl _ _ rfl rfl _ _ (heap_alloc_last w _) hsz hlen hone ?_)
  refine bp_s (c := lkC) Try.results19 rfl rfl ?_ strC zeroC.2 ⟨rfl, ?_⟩
  · exact (Ar.new w _ _).row _
  · exact ((Chg.refl w).alloc _).setRow (Nat.le_refl _) _

/-- What is found: a lock, and whether there is one. -/
def fndV (s : Int) : Value := if s = 4865 then .iface 49 (.agg (lkG 1 16)) else if s = 4866 then .iface 49 (.agg (lkG 2 32)) else if s = 4867 then .iface 54 (.agg lkC) else .nilIface
def fndB (s : Int) : Bool := s == 4865 || s == 4866 || s == 4867

set_option maxRecDepth 100000 in
set_option maxHeartbeats 4000000 in
theorem find_any (s : Int) (w : World) : Calls Try.prog 17 #[.int .u16 s] w fun r w' => r = .returned (.tuple #[fndV s, .bool (fndB s)]) ∧ Chg w w' := by
  by_cases h1 : s = 4865
  · subst h1
    go_enter Try.func17, Try.ntmps17
    go_wp2_with (first | (go_at_call 18; refine (byGcm_any 1 16 _).mono ?_; rintro r w2 ⟨rfl, hw2⟩))
    go_ret2
    exact ⟨rfl, hw2⟩
  · by_cases h2 : s = 4866
    · subst h2
      go_enter Try.func17, Try.ntmps17
      go_wp2_with (first | (go_at_call 18; refine (byGcm_any 2 32 _).mono ?_; rintro r w2 ⟨rfl, hw2⟩))
      go_ret2
      exact ⟨rfl, hw2⟩
    · by_cases h3 : s = 4867
      · subst h3
        go_enter Try.func17, Try.ntmps17
        go_wp2_with (first | (go_at_call 19; refine (byChacha_any _).mono ?_; rintro r w2 ⟨rfl, hw2⟩))
        go_ret2
        exact ⟨rfl, hw2⟩
      · have e1 : fndV s = .nilIface := by simp [fndV, h1, h2, h3]
        have e2 : fndB s = false := by simp [fndB, h1, h2, h3]
        rw [e1, e2]
        go_enter Try.func17, Try.ntmps17
        go_wp2_with fail
        go_ret2
        exact ⟨rfl, Chg.refl w⟩
end Go.Proofs.Ytobglgddbhddnaa
