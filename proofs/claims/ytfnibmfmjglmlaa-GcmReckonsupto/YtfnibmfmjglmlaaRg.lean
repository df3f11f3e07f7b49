/-
  A function's region by its number.
-/
import Derived.Test.YtfnibmfmjglmlaaKey
namespace Go.Proofs.Ytfnibmfmjglmlaa
open Go.RowKit
set_option linter.unusedVariables false

def rgOf (n : Nat) : Code → Option Code
  | .region i ops b => if i = n then some (.region i ops b) else none
  | .block _ b => rgOf n b
  | .seq a b => match rgOf n a with
    | some c => some c
    | none => rgOf n b
  | .cond _ a b => match rgOf n a with
    | some c => some c
    | none => rgOf n b
  | .loop b => rgOf n b
  | _ => none
/-- The region of this number. -/
def rg (f : Func) (n : Nat) : Code := match f.body with
  | some c => (rgOf n c).getD .skip
  | none => .skip
end Go.Proofs.Ytfnibmfmjglmlaa
