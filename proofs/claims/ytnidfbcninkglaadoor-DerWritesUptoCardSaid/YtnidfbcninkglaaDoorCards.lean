/-
  DERIVED. GIVEN WITH THE SEED: THE CARDS: each row of YtnidfbcninkglaaDoorRows.lean that lists a variable, with what it lists TIED to the program's text (the seventh form; the later family's looks); each row that meets fmt, with fmt's text TOLD by the authors' own Lean function (tested against real Go, not proved from fmt's source: count such statements apart). THE CARD IS WHAT COUNTS. Prove the row's statement (the work); the ties are given (YtnidfbcninkglaaDoorTie.lean); close each card by the builder's one call (the guide's Derived/Test/ToyasCard.lean, 'card_holds'). Laid BY PROGRAM, IN A SANDBOX (cutbox-door.mjs). By AI agents, Wed Nov 11 2026. No macro, syntax, notation, axiom, sorry.
-/
import Derived.Test.YtnidfbcninkglaaDoorRows
import GoSem.ClaimSeven
namespace Go.Proofs.YtnidfbcninkglaaDoor
namespace Rows

/-- THE TIED CARD OF 'drawbridgelaw14.DerItems'. -/
def derItemsCard : Claim7 := { stood := { row := derItemsRow, standIns := [], harness := (true, "6861e511a599e2d9b555dde6a4c875a0be17075713dd446ce4ed9d1379aba278"), looks := true }, kinds := [], alts := [], laidByText := true, laidKinds := [.data, .data, .data, .handle], laidTests := true, laidLooks := .later }
def DerItemsCardSaid : Prop := Claim7.holds Tryd.pinned (.plain (OpenSpec.ofChange derItemsSpec)) derItemsCard

/-- THE TIED CARD OF 'drawbridgelaw14.DerOneWay'. -/
def derOneWayCard : Claim7 := { stood := { row := derOneWayRow, standIns := [], harness := (true, "6861e511a599e2d9b555dde6a4c875a0be17075713dd446ce4ed9d1379aba278"), looks := true }, kinds := [], alts := [], laidByText := true, laidKinds := [.data, .data, .data, .handle], laidTests := true, laidLooks := .later }
def DerOneWayCardSaid : Prop := Claim7.holds Tryd.pinned (.plain (OpenSpec.ofChange derOneWaySpec)) derOneWayCard

/-- THE TIED CARD OF 'drawbridgelaw14.DerValues'. -/
def derValuesCard : Claim7 := { stood := { row := derValuesRow, standIns := [], harness := (true, "6861e511a599e2d9b555dde6a4c875a0be17075713dd446ce4ed9d1379aba278"), looks := true }, kinds := [], alts := [], laidByText := true, laidKinds := [.data, .data, .data], laidTests := true, laidLooks := .later }
def DerValuesCardSaid : Prop := Claim7.holds Tryd.pinned (.plain (OpenSpec.ofChange derValuesSpec)) derValuesCard

/-- THE TIED CARD OF 'drawbridgelaw14.DerTimes'. -/
def derTimesCard : Claim7 := { stood := { row := derTimesRow, standIns := [], harness := (true, "6861e511a599e2d9b555dde6a4c875a0be17075713dd446ce4ed9d1379aba278"), looks := true }, kinds := [], alts := [], laidByText := true, laidKinds := [.data, .data, .data], laidTests := true, laidLooks := .later }
def DerTimesCardSaid : Prop := Claim7.holds Tryd.pinned (.plain (OpenSpec.ofChange derTimesSpec)) derTimesCard

/-- THE TIED CARD OF 'drawbridgelaw14.DerWrites'. -/
def derWritesCard : Claim7 := { stood := { row := derWritesRow, standIns := [], harness := (true, "6861e511a599e2d9b555dde6a4c875a0be17075713dd446ce4ed9d1379aba278"), looks := true }, kinds := [], alts := [], laidByText := true, laidKinds := [.data, .data, .data, .data, .sentinel, .sentinel, .pinned], laidTests := true, laidLooks := .later }
def DerWritesCardSaid : Prop := Claim7.holds Tryd.pinned (.plain (OpenSpec.ofChange derWritesSpec)) derWritesCard

/-- THE TIED CARD OF 'drawbridgelaw14.DerNests'. -/
def derNestsCard : Claim7 := { stood := { row := derNestsRow, standIns := [], harness := (true, "6861e511a599e2d9b555dde6a4c875a0be17075713dd446ce4ed9d1379aba278"), looks := true }, kinds := [], alts := [], laidByText := true, laidKinds := [.data, .data, .data, .handle], laidTests := true, laidLooks := .later }
def DerNestsCardSaid : Prop := Claim7.holds Tryd.pinned (.plain (OpenSpec.ofChange derNestsSpec)) derNestsCard

/-- THE SECOND FORM's CARD OF 'drawbridgelaw14.DerItems'. -/
def derItemsUptoCard : Claim7 := { stood := { row := derItemsUptoRow, standIns := [], harness := (true, "6861e511a599e2d9b555dde6a4c875a0be17075713dd446ce4ed9d1379aba278"), looks := true }, kinds := [], alts := [], laidByText := true, laidKinds := [.data, .data, .data, .handle], laidTests := true, laidLooks := .later }
def DerItemsUptoCardSaid : Prop := Claim7.holds Tryd.pinned (.plain (OpenSpec.upto derItemsSpec)) derItemsUptoCard

/-- THE SECOND FORM's CARD OF 'drawbridgelaw14.DerOneWay'. -/
def derOneWayUptoCard : Claim7 := { stood := { row := derOneWayUptoRow, standIns := [], harness := (true, "6861e511a599e2d9b555dde6a4c875a0be17075713dd446ce4ed9d1379aba278"), looks := true }, kinds := [], alts := [], laidByText := true, laidKinds := [.data, .data, .data, .handle], laidTests := true, laidLooks := .later }
def DerOneWayUptoCardSaid : Prop := Claim7.holds Tryd.pinned (.plain (OpenSpec.upto derOneWaySpec)) derOneWayUptoCard

/-- THE SECOND FORM's CARD OF 'drawbridgelaw14.DerValues'. -/
def derValuesUptoCard : Claim7 := { stood := { row := derValuesUptoRow, standIns := [], harness := (true, "6861e511a599e2d9b555dde6a4c875a0be17075713dd446ce4ed9d1379aba278"), looks := true }, kinds := [], alts := [], laidByText := true, laidKinds := [.data, .data, .data], laidTests := true, laidLooks := .later }
def DerValuesUptoCardSaid : Prop := Claim7.holds Tryd.pinned (.plain (OpenSpec.upto derValuesSpec)) derValuesUptoCard

/-- THE SECOND FORM's CARD OF 'drawbridgelaw14.DerTimes'. -/
def derTimesUptoCard : Claim7 := { stood := { row := derTimesUptoRow, standIns := [], harness := (true, "6861e511a599e2d9b555dde6a4c875a0be17075713dd446ce4ed9d1379aba278"), looks := true }, kinds := [], alts := [], laidByText := true, laidKinds := [.data, .data, .data], laidTests := true, laidLooks := .later }
def DerTimesUptoCardSaid : Prop := Claim7.holds Tryd.pinned (.plain (OpenSpec.upto derTimesSpec)) derTimesUptoCard

/-- THE SECOND FORM's CARD OF 'drawbridgelaw14.DerWrites'. -/
def derWritesUptoCard : Claim7 := { stood := { row := derWritesUptoRow, standIns := [], harness := (true, "6861e511a599e2d9b555dde6a4c875a0be17075713dd446ce4ed9d1379aba278"), looks := true }, kinds := [], alts := [], laidByText := true, laidKinds := [.data, .data, .data, .data, .sentinel, .sentinel, .pinned], laidTests := true, laidLooks := .later }
def DerWritesUptoCardSaid : Prop := Claim7.holds Tryd.pinned (.plain (OpenSpec.upto derWritesSpec)) derWritesUptoCard

/-- THE SECOND FORM's CARD OF 'drawbridgelaw14.DerNests'. -/
def derNestsUptoCard : Claim7 := { stood := { row := derNestsUptoRow, standIns := [], harness := (true, "6861e511a599e2d9b555dde6a4c875a0be17075713dd446ce4ed9d1379aba278"), looks := true }, kinds := [], alts := [], laidByText := true, laidKinds := [.data, .data, .data, .handle], laidTests := true, laidLooks := .later }
def DerNestsUptoCardSaid : Prop := Claim7.holds Tryd.pinned (.plain (OpenSpec.upto derNestsSpec)) derNestsUptoCard
end Rows
end Go.Proofs.YtnidfbcninkglaaDoor
