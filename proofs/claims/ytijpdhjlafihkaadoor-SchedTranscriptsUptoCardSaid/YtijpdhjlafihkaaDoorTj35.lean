/-
  A block of a function's code, found by its number.
-/
import Derived.Test.YtijpdhjlafihkaaDoorTj22
namespace Go.Proofs.YtijpdhjlafihkaaDoor
open Go.RowKit
set_option linter.unusedVariables false
set_option maxRecDepth 100000

def blkOf (n : Nat) : Code → Option Code
  | .block i b => if i = n then some (.block i b) else blkOf n b
  | .seq a b => match blkOf n a with
    | some c => some c
    | none => blkOf n b
  | .cond _ a b => match blkOf n a with
    | some c => some c
    | none => blkOf n b
  | .loop b => blkOf n b
  | _ => none
def blk (f : Func) (n : Nat) : Code := match f.body with
  | some c => (blkOf n c).getD .skip
  | none => .skip
end Go.Proofs.YtijpdhjlafihkaaDoor
