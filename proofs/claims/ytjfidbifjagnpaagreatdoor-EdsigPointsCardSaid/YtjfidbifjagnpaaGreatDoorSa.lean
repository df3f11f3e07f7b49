/-
Whether two points are the same: the program, the document.
-/
import Derived.Test.YtjfidbifjagnpaaGreatDoorDe
namespace Go.Proofs.YtjfidbifjagnpaaGreatDoor
open Go.RowKit
set_option linter.unusedVariables false
set_option maxRecDepth 100000
theorem op_asg {o : Oper} {a : Act} {w : World} {K : Act → World → Prop} {Q : Exit → Act → World → Prop} (x : Operand) (v : Value) (ho : o.op = .assign x) (hx : a.eval x = v) (hK : K (a.put o.dst v) w) : o.wp Tryz.prog a w K Q := by
 refine op_val1 (v := v) ?_ hK
 simp [execOp, ho, hx]
end Go.Proofs.YtjfidbifjagnpaaGreatDoor
