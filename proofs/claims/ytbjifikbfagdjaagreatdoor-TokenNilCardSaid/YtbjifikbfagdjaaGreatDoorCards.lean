/-
  DERIVED. GIVEN WITH THE SEED: THE CARDS: each row of YtbjifikbfagdjaaGreatDoorRows.lean that lists a variable, with what it lists TIED to the program's text (the seventh form; the later family's looks); each row that meets fmt, with fmt's text TOLD by the authors' own Lean function (tested against real Go, not proved from fmt's source: count such statements apart). THE CARD IS WHAT COUNTS. Prove the row's statement (the work); the ties are given (YtbjifikbfagdjaaGreatDoorTie.lean); close each card by the builder's one call (the guide's Derived/Test/ToyasCard.lean, 'card_holds'). Laid BY PROGRAM, IN A SANDBOX (cutbox-door.mjs). By AI agents, Wed Nov 11 2026. No macro, syntax, notation, axiom, sorry.
-/
import Derived.Test.YtbjifikbfagdjaaGreatDoorRows
import GoSem.ClaimSeven
namespace Go.Proofs.YtbjifikbfagdjaaGreatDoor
namespace Rows

/-- THE TIED CARD OF 'yanklinelaw13.TokenAsks'. -/
def tokenAsksCard : Claim7 := { stood := { row := tokenAsksRow, standIns := [], harness := (true, "873247bb32a732fe0943a1d6a834dd84defe71a0cbeed849fe58b891175d1d39"), looks := true }, kinds := [], alts := [], laidByText := true, laidKinds := [.data, .data, .data, .data, .handle, .sentinel, .sentinel, .data, .pinned], laidTests := true, laidLooks := .later }
def TokenAsksCardSaid : Prop := Claim7.holds Tryz.pinned (.plain (OpenSpec.ofChange tokenAsksSpec)) tokenAsksCard

/-- THE TIED CARD OF 'yanklinelaw13.TokenNew'. -/
def tokenNewCard : Claim7 := { stood := { row := tokenNewRow, standIns := [], harness := (true, "873247bb32a732fe0943a1d6a834dd84defe71a0cbeed849fe58b891175d1d39"), looks := true }, kinds := [], alts := [], laidByText := true, laidKinds := [.data, .data, .data, .data, .handle, .sentinel, .sentinel, .data, .pinned], laidTests := true, laidLooks := .later }
def TokenNewCardSaid : Prop := Claim7.holds Tryz.pinned (.plain (OpenSpec.ofChange tokenNewSpec)) tokenNewCard

/-- THE TIED CARD OF 'yanklinelaw13.TokenNil'. -/
def tokenNilCard : Claim7 := { stood := { row := tokenNilRow, standIns := [], harness := (true, "873247bb32a732fe0943a1d6a834dd84defe71a0cbeed849fe58b891175d1d39"), looks := true }, kinds := [], alts := [], laidByText := true, laidKinds := [.data, .data, .data, .data, .handle, .sentinel, .sentinel, .data, .pinned], laidTests := true, laidLooks := .later }
def TokenNilCardSaid : Prop := Claim7.holds Tryz.pinned (.plain (OpenSpec.ofChange tokenNilSpec)) tokenNilCard

/-- THE SECOND FORM's CARD OF 'yanklinelaw13.TokenAsks'. -/
def tokenAsksUptoCard : Claim7 := { stood := { row := tokenAsksUptoRow, standIns := [], harness := (true, "873247bb32a732fe0943a1d6a834dd84defe71a0cbeed849fe58b891175d1d39"), looks := true }, kinds := [], alts := [], laidByText := true, laidKinds := [.data, .data, .data, .data, .handle, .sentinel, .sentinel, .data, .pinned], laidTests := true, laidLooks := .later }
def TokenAsksUptoCardSaid : Prop := Claim7.holds Tryz.pinned (.plain (OpenSpec.upto tokenAsksSpec)) tokenAsksUptoCard

/-- THE SECOND FORM's CARD OF 'yanklinelaw13.TokenNew'. -/
def tokenNewUptoCard : Claim7 := { stood := { row := tokenNewUptoRow, standIns := [], harness := (true, "873247bb32a732fe0943a1d6a834dd84defe71a0cbeed849fe58b891175d1d39"), looks := true }, kinds := [], alts := [], laidByText := true, laidKinds := [.data, .data, .data, .data, .handle, .sentinel, .sentinel, .data, .pinned], laidTests := true, laidLooks := .later }
def TokenNewUptoCardSaid : Prop := Claim7.holds Tryz.pinned (.plain (OpenSpec.upto tokenNewSpec)) tokenNewUptoCard

/-- THE SECOND FORM's CARD OF 'yanklinelaw13.TokenNil'. -/
def tokenNilUptoCard : Claim7 := { stood := { row := tokenNilUptoRow, standIns := [], harness := (true, "873247bb32a732fe0943a1d6a834dd84defe71a0cbeed849fe58b891175d1d39"), looks := true }, kinds := [], alts := [], laidByText := true, laidKinds := [.data, .data, .data, .data, .handle, .sentinel, .sentinel, .data, .pinned], laidTests := true, laidLooks := .later }
def TokenNilUptoCardSaid : Prop := Claim7.holds Tryz.pinned (.plain (OpenSpec.upto tokenNilSpec)) tokenNilUptoCard
end Rows
end Go.Proofs.YtbjifikbfagdjaaGreatDoor
