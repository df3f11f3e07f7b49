/-
  The variables as the program's text and Go's tables lay them: a world where they lie so.
-/
import Derived.Test.YtbbopehpmnebiaaGreatDoorRows
import Derived.Test.YtbbopehpmnebiaaGreatDoorBase
import Derived.SizedLaws
import Derived.WalkKit
import Derived.ProofKit
import Derived.OpenShut
import Derived.Below
import Derived.ChangeOld
import Derived.LaidMore
import Derived.Stop.Joined
import Derived.LaidHandle
import Derived.Lay
import Derived.Lib.LaidIn
namespace Go.Proofs.YtbbopehpmnebiaaGreatDoor
open Go.ChangeShapes Go.WideShapes Go.ChangeAt Go.RowKit
set_option linter.unusedVariables false
set_option maxRecDepth 100000

theorem own : ownKnob Tryz.prog.godebug = none := by kernel_rfl
theorem below {W W' : World} (h : Chg Non W W') : Below W.heap.size W W' := ⟨h.os, h.tape, h.output, h.size, fun k hk => h.block k hk (fun x => x)⟩
def laidP : List (String × DataW Unit) := [("unicode/utf8.acceptRanges", Rows.laid_unicode_utf8_acceptRanges), ("drawbridge/sha.numbers", Rows.laid_drawbridge_sha_numbers), ("drawbridge/sha.roots", Rows.laid_drawbridge_sha_roots), ("unicode.CaseRanges", Rows.laid_unicode_CaseRanges), ("unicode/utf8.first", Rows.laid_unicode_utf8_first)]
def laidC : List (String × DataW Unit) := [("unicode/utf8.acceptRanges", Rows.laid_unicode_utf8_acceptRanges), ("errors.errorType", Rows.laid_errors_errorType), ("drawbridge/sha.numbers", Rows.laid_drawbridge_sha_numbers), ("drawbridge/sha.roots", Rows.laid_drawbridge_sha_roots), ("unicode.CaseRanges", Rows.laid_unicode_CaseRanges), ("unicode/utf8.first", Rows.laid_unicode_utf8_first)]
def laidG : List (String × DataW Unit) := [("unicode.CaseRanges", Rows.laid_unicode_CaseRanges), ("unicode/utf8.first", Rows.laid_unicode_utf8_first)]
def laidO : List (String × DataW Unit) := [("unicode/utf8.acceptRanges", Rows.laid_unicode_utf8_acceptRanges), ("drawbridge/sha.numbers", Rows.laid_drawbridge_sha_numbers), ("drawbridge/sha.roots", Rows.laid_drawbridge_sha_roots)]
theorem wit_os (os : Os) : ((World.doorLaid Tryz.prog 400 os).layVars Tryz.prog laidG).os = os := World.layVars_os _ _ _
theorem filG : (laidP.filter fun x => ["unicode.CaseRanges", "unicode/utf8.first"].contains x.1) = laidG := rfl
theorem filO : (laidP.filter fun x => !["unicode.CaseRanges", "unicode/utf8.first"].contains x.1) = laidO := rfl
theorem wit_met (os : Os) (args : Array Value) : laidMetH Tryz.prog laidC (((World.doorLaid Tryz.prog 400 os).layVars Tryz.prog laidG).forCall (fun _ _ => 0) ⟨#[], args, []⟩).memory := by
  have hp : laidMet Tryz.prog laidP ((World.doorLaid Tryz.prog 400 os).layVars Tryz.prog laidG) :=
    laidMet_layVars (w0 := World.doorLaid Tryz.prog 400 os) ["unicode.CaseRanges", "unicode/utf8.first"] [3, 6, 4] (by rw [filG]) (by rw [filG]; kernel_rfl) (by rw [filG]; kernel_rfl)
      (by rw [filO]; exact LaidIn.of_run [3, 6, 4] 8 (by kernel_rfl) (by kernel_rfl) (by kernel_rfl) (by kernel_rfl))
  refine laidMetH_of_parts (?_ : laidMet Tryz.prog laidP _) (by kernel_rfl)
  exact hp.of_heap (by simp [World.memory, World.forCall, Input.heap])
end Go.Proofs.YtbbopehpmnebiaaGreatDoor
