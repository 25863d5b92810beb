/-
  DERIVED. GIVEN WITH THE SEED: THE CARDS: each row of YtnkednjklfpblaaGreatDoorRows.lean that lists a variable, with what it lists TIED to the program's text (the seventh form; the later family's looks); each row that meets fmt, with fmt's text TOLD by the authors' own Lean function (tested against real Go, not proved from fmt's source: count such statements apart). THE CARD IS WHAT COUNTS. Prove the row's statement (the work); the ties are given (YtnkednjklfpblaaGreatDoorTie.lean); close each card by the builder's one call (the guide's Derived/Test/ToyasCard.lean, 'card_holds'). Laid BY PROGRAM, IN A SANDBOX (cutbox-door.mjs). By AI agents, Wed Nov 11 2026. No macro, syntax, notation, axiom, sorry.
-/
import Derived.Test.YtnkednjklfpblaaGreatDoorRows
import GoSem.ClaimSeven
namespace Go.Proofs.YtnkednjklfpblaaGreatDoor
namespace Rows

/-- THE TIED CARD OF 'yanklinelaw09.EventSames'. -/
def eventSamesCard : Claim7 := { stood := { row := eventSamesRow, standIns := [], harness := (true, "7ef1aaf2861d554c19fc622f41da2cac4fe8ddeecee99e2fc8f753546e2dca4c"), looks := true }, kinds := [], alts := [], laidByText := true, laidKinds := [.data, .data, .data, .data, .sentinel, .sentinel, .data, .pinned], laidTests := true, laidLooks := .later }
def EventSamesCardSaid : Prop := Claim7.holds Tryz.pinned (.plain (OpenSpec.ofChange eventSamesSpec)) eventSamesCard

/-- THE SECOND FORM's CARD OF 'yanklinelaw09.EventSames'. -/
def eventSamesUptoCard : Claim7 := { stood := { row := eventSamesUptoRow, standIns := [], harness := (true, "7ef1aaf2861d554c19fc622f41da2cac4fe8ddeecee99e2fc8f753546e2dca4c"), looks := true }, kinds := [], alts := [], laidByText := true, laidKinds := [.data, .data, .data, .data, .sentinel, .sentinel, .data, .pinned], laidTests := true, laidLooks := .later }
def EventSamesUptoCardSaid : Prop := Claim7.holds Tryz.pinned (.plain (OpenSpec.upto eventSamesSpec)) eventSamesUptoCard
end Rows
end Go.Proofs.YtnkednjklfpblaaGreatDoor
