/-
Two points together: the document.
-/
import Derived.Test.YtjfidbifjagnpaaGreatDoorWr2
import Derived.Test.YtjfidbifjagnpaaGreatDoorJt
import Derived.Test.YtjfidbifjagnpaaGreatDoorJu
import Derived.Test.YtjfidbifjagnpaaGreatDoorTm
namespace Go.Proofs.YtjfidbifjagnpaaGreatDoor
open Go.RowKit
set_option linter.unusedVariables false
set_option maxRecDepth 100000
end Go.Proofs.YtjfidbifjagnpaaGreatDoor
