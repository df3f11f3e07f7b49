/-
  The document's words and states by 32 bits, as plain functions.
-/
import Derived.Test.YtijpdhjlafihkaaDoorBeg2
namespace Go.Proofs.YtijpdhjlafihkaaDoor
open Go.RowKit
set_option linter.unusedVariables false
set_option maxRecDepth 100000

/-- A word of four bytes, as the document makes it. -/
def wordR (d : Nat → Int) (t : Nat) : Int :=
  Go.bits .or .u32 (Go.bits .or .u32 (Go.bits .or .u32 (IntKind.u32.wrap (IntKind.u32.wrap (d (4 * t)) * 16777216)) (IntKind.u32.wrap (IntKind.u32.wrap (d (4 * t + 1)) * 65536))) (IntKind.u32.wrap (IntKind.u32.wrap (d (4 * t + 2)) * 256))) (IntKind.u32.wrap (d (4 * t + 3)))
def firstR (d : Nat → Int) (t : Nat) : Nat → Int := fun j => if j < t then wordR d j else 0
def wordsR (d : Nat → Int) : Nat → Int := moreW .u32 (turn2 .u32 7 18 3) (turn2 .u32 17 19 10) (firstR d 16) 48
/-- A block mixed into the state, as the document does it. -/
def mixR (s d : Nat → Int) : Nat → Int := fun i => IntKind.u32.wrap (s i + (rnds .u32 (turn3 .u32 2 13 22) (turn3 .u32 6 11 25) number32 (wordsR d) (St.of s) 64).at i)
def refN (f : Nat → Int) : Nat → (Nat → Int)
  | 0 => startOf 1
  | k + 1 => mixR (refN f k) (fun j => f (64 * k + j))

/-- The bytes of so many words. -/
def outR (s : Nat → Int) : Nat → List Int
  | 0 => []
  | e + 1 => outR s e ++ [IntKind.u8.wrap (s e / 16777216), IntKind.u8.wrap (s e / 65536), IntKind.u8.wrap (s e / 256), IntKind.u8.wrap (s e)]
end Go.Proofs.YtijpdhjlafihkaaDoor
