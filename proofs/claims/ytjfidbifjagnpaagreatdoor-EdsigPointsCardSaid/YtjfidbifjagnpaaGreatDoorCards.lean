/-
  DERIVED. GIVEN WITH THE SEED: THE CARDS: each row of YtjfidbifjagnpaaGreatDoorRows.lean that lists a variable, with what it lists TIED to the program's text (the seventh form; the later family's looks); each row that meets fmt, with fmt's text TOLD by the authors' own Lean function (tested against real Go, not proved from fmt's source: count such statements apart). THE CARD IS WHAT COUNTS. Prove the row's statement (the work); the ties are given (YtjfidbifjagnpaaGreatDoorTie.lean); close each card by the builder's one call (the guide's Derived/Test/ToyasCard.lean, 'card_holds'). Laid BY PROGRAM, IN A SANDBOX (cutbox-door.mjs). By AI agents, Wed Nov 11 2026. No macro, syntax, notation, axiom, sorry.
-/
import Derived.Test.YtjfidbifjagnpaaGreatDoorRows
import GoSem.ClaimSeven
namespace Go.Proofs.YtjfidbifjagnpaaGreatDoor
namespace Rows

/-- THE TIED CARD OF 'drawbridgelaw12.EdsigSigns'. -/
def edsigSignsCard : Claim7 := { stood := { row := edsigSignsRow, standIns := [], harness := (true, "6d94284927a67a736f4ceeb756448e59c25a139b81617f180ff0389082499bc8"), looks := false }, kinds := [], alts := [], laidByText := true, laidKinds := [.data, .data], laidTests := true, laidLooks := .later }
def EdsigSignsCardSaid : Prop := Claim7.holds Tryz.pinned (.plain (OpenSpec.ofChange edsigSignsSpec)) edsigSignsCard

/-- THE TIED CARD OF 'drawbridgelaw12.EdsigVerifies'. -/
def edsigVerifiesCard : Claim7 := { stood := { row := edsigVerifiesRow, standIns := [], harness := (true, "6d94284927a67a736f4ceeb756448e59c25a139b81617f180ff0389082499bc8"), looks := false }, kinds := [], alts := [], laidByText := true, laidKinds := [.data, .data], laidTests := true, laidLooks := .later }
def EdsigVerifiesCardSaid : Prop := Claim7.holds Tryz.pinned (.plain (OpenSpec.ofChange edsigVerifiesSpec)) edsigVerifiesCard

/-- THE TIED CARD OF 'drawbridgelaw12.EdsigPoints'. -/
def edsigPointsCard : Claim7 := { stood := { row := edsigPointsRow, standIns := [], harness := (true, "6d94284927a67a736f4ceeb756448e59c25a139b81617f180ff0389082499bc8"), looks := false }, kinds := [], alts := [], laidByText := true, laidKinds := [.data, .data], laidTests := true, laidLooks := .later }
def EdsigPointsCardSaid : Prop := Claim7.holds Tryz.pinned (.plain (OpenSpec.ofChange edsigPointsSpec)) edsigPointsCard

/-- THE SECOND FORM's CARD OF 'drawbridgelaw12.EdsigSigns'. -/
def edsigSignsUptoCard : Claim7 := { stood := { row := edsigSignsUptoRow, standIns := [], harness := (true, "6d94284927a67a736f4ceeb756448e59c25a139b81617f180ff0389082499bc8"), looks := false }, kinds := [], alts := [], laidByText := true, laidKinds := [.data, .data], laidTests := true, laidLooks := .later }
def EdsigSignsUptoCardSaid : Prop := Claim7.holds Tryz.pinned (.plain (OpenSpec.upto edsigSignsSpec)) edsigSignsUptoCard

/-- THE SECOND FORM's CARD OF 'drawbridgelaw12.EdsigVerifies'. -/
def edsigVerifiesUptoCard : Claim7 := { stood := { row := edsigVerifiesUptoRow, standIns := [], harness := (true, "6d94284927a67a736f4ceeb756448e59c25a139b81617f180ff0389082499bc8"), looks := false }, kinds := [], alts := [], laidByText := true, laidKinds := [.data, .data], laidTests := true, laidLooks := .later }
def EdsigVerifiesUptoCardSaid : Prop := Claim7.holds Tryz.pinned (.plain (OpenSpec.upto edsigVerifiesSpec)) edsigVerifiesUptoCard

/-- THE SECOND FORM's CARD OF 'drawbridgelaw12.EdsigPoints'. -/
def edsigPointsUptoCard : Claim7 := { stood := { row := edsigPointsUptoRow, standIns := [], harness := (true, "6d94284927a67a736f4ceeb756448e59c25a139b81617f180ff0389082499bc8"), looks := false }, kinds := [], alts := [], laidByText := true, laidKinds := [.data, .data], laidTests := true, laidLooks := .later }
def EdsigPointsUptoCardSaid : Prop := Claim7.holds Tryz.pinned (.plain (OpenSpec.upto edsigPointsSpec)) edsigPointsUptoCard
end Rows
end Go.Proofs.YtjfidbifjagnpaaGreatDoor
