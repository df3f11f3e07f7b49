/-
  The library's sort of a list of counters by their names: what it leaves.
-/
import Derived.Test.YtlhcadfcgibkdaaDoorCntLay
import Derived.Test.YtlhcadfcgibkdaaDoorCntMap
import Derived.Test.YtlhcadfcgibkdaaDoorShelf
import Derived.BigCall
namespace Go.Proofs.YtlhcadfcgibkdaaDoor
open Go.RowKit Go.Lib Go.Sort Go.Shelf
set_option linter.unusedVariables false
set_option maxRecDepth 100000

def encC (e : Ent) : List Value := [.string ⟨e.name.toArray⟩, .int .u64 e.n]
def cmpC (x y : Ent) : Int := Lib.compareBytes x.name y.name

set_option maxHeartbeats 1000000 in
theorem closure_any (x y : Ent) (W : World) : Calls Tryd.prog 39 #[.agg #[.string ⟨x.name.toArray⟩, .int .u64 x.n], .agg #[.string ⟨y.name.toArray⟩, .int .u64 y.n]] W fun e w' => e = .returned (.int .i64 (cmpC x y)) ∧ ∃ q os', w' = grow (W.drewN q) os' := by
  have hcon := fun W' => Tryd.strings_Compare ⟨x.name.toArray⟩ ⟨y.name.toArray⟩ W'
  have hc2 : ∀ W', Calls Tryd.prog 40 #[.string ⟨x.name.toArray⟩, .string ⟨y.name.toArray⟩] W' fun e w' => e = .returned (.int .i64 (cmpC x y)) ∧ w' = W' := hcon
  clear hcon
  generalize cmpC x y = r at hc2 ⊢
  go_enter Tryd.func39, Tryd.ntmps39
  go_wp2_with (go_at_call 40; refine (hc2 _).mono ?_; rintro e w' ⟨rfl, rfl⟩)
  go_ret
  exact ⟨rfl, 0, _, by rw [alloc_eq_grow, alloc_eq_grow, grow_grow]; rfl⟩

theorem cmpLays [Inhabited Ent] (blk off size : Nat) (w : World) : CmpLays Tryd.prog 39 #[] encC 2 cmpC blk off size w :=
  fun _ _ _ _ x y => closure_any x y _
end Go.Proofs.YtlhcadfcgibkdaaDoor
