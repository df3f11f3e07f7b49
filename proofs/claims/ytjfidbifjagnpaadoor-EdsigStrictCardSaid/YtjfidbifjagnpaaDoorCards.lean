/-
  DERIVED. GIVEN WITH THE SEED: THE CARDS: each row of YtjfidbifjagnpaaDoorRows.lean that lists a variable, with what it lists TIED to the program's text (the seventh form; the later family's looks); each row that meets fmt, with fmt's text TOLD by the authors' own Lean function (tested against real Go, not proved from fmt's source: count such statements apart). THE CARD IS WHAT COUNTS. Prove the row's statement (the work); the ties are given (YtjfidbifjagnpaaDoorTie.lean); close each card by the builder's one call (the guide's Derived/Test/ToyasCard.lean, 'card_holds'). Laid BY PROGRAM, IN A SANDBOX (cutbox-door.mjs). By AI agents, Wed Nov 11 2026. No macro, syntax, notation, axiom, sorry.
-/
import Derived.Test.YtjfidbifjagnpaaDoorRows
import GoSem.ClaimSeven
namespace Go.Proofs.YtjfidbifjagnpaaDoor
namespace Rows

/-- THE TIED CARD OF 'drawbridgelaw12.EdsigOwn'. -/
def edsigOwnCard : Claim7 := { stood := { row := edsigOwnRow, standIns := [], harness := (true, "b586c4ab3d975b2e1c570578c9e053d075f9cb34e97e7b53004fe247948efe55"), looks := false }, kinds := [], alts := [], laidByText := true, laidKinds := [.data, .data], laidTests := true, laidLooks := .later }
def EdsigOwnCardSaid : Prop := Claim7.holds Tryd.pinned (.plain (OpenSpec.ofChange edsigOwnSpec)) edsigOwnCard

/-- THE TIED CARD OF 'drawbridgelaw12.EdsigStrict'. -/
def edsigStrictCard : Claim7 := { stood := { row := edsigStrictRow, standIns := [], harness := (true, "b586c4ab3d975b2e1c570578c9e053d075f9cb34e97e7b53004fe247948efe55"), looks := false }, kinds := [], alts := [], laidByText := true, laidKinds := [.data, .data], laidTests := true, laidLooks := .later }
def EdsigStrictCardSaid : Prop := Claim7.holds Tryd.pinned (.plain (OpenSpec.ofChange edsigStrictSpec)) edsigStrictCard

/-- THE SECOND FORM's CARD OF 'drawbridgelaw12.EdsigOwn'. -/
def edsigOwnUptoCard : Claim7 := { stood := { row := edsigOwnUptoRow, standIns := [], harness := (true, "b586c4ab3d975b2e1c570578c9e053d075f9cb34e97e7b53004fe247948efe55"), looks := false }, kinds := [], alts := [], laidByText := true, laidKinds := [.data, .data], laidTests := true, laidLooks := .later }
def EdsigOwnUptoCardSaid : Prop := Claim7.holds Tryd.pinned (.plain (OpenSpec.upto edsigOwnSpec)) edsigOwnUptoCard

/-- THE SECOND FORM's CARD OF 'drawbridgelaw12.EdsigStrict'. -/
def edsigStrictUptoCard : Claim7 := { stood := { row := edsigStrictUptoRow, standIns := [], harness := (true, "b586c4ab3d975b2e1c570578c9e053d075f9cb34e97e7b53004fe247948efe55"), looks := false }, kinds := [], alts := [], laidByText := true, laidKinds := [.data, .data], laidTests := true, laidLooks := .later }
def EdsigStrictUptoCardSaid : Prop := Claim7.holds Tryd.pinned (.plain (OpenSpec.upto edsigStrictSpec)) edsigStrictUptoCard
end Rows
end Go.Proofs.YtjfidbifjagnpaaDoor
