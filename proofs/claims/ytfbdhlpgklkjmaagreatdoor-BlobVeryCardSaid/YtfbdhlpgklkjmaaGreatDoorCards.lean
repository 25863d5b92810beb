/-
  DERIVED. GIVEN WITH THE SEED: THE CARDS: each row of YtfbdhlpgklkjmaaGreatDoorRows.lean that lists a variable, with what it lists TIED to the program's text (the seventh form; the later family's looks); each row that meets fmt, with fmt's text TOLD by the authors' own Lean function (tested against real Go, not proved from fmt's source: count such statements apart). THE CARD IS WHAT COUNTS. Prove the row's statement (the work); the ties are given (YtfbdhlpgklkjmaaGreatDoorTie.lean); close each card by the builder's one call (the guide's Derived/Test/ToyasCard.lean, 'card_holds'). Laid BY PROGRAM, IN A SANDBOX (cutbox-door.mjs). By AI agents, Wed Nov 11 2026. No macro, syntax, notation, axiom, sorry.
-/
import Derived.Test.YtfbdhlpgklkjmaaGreatDoorRows
import GoSem.ClaimSeven
namespace Go.Proofs.YtfbdhlpgklkjmaaGreatDoor
namespace Rows

/-- THE TIED CARD OF 'yanklinelaw12.BlobVery'. -/
def blobVeryCard : Claim7 := { stood := { row := blobVeryRow, standIns := [], harness := (true, "ef0424f2e8e86a9558c40551ea3370c22e076ad20bf0f2b9f2eea2021354ddce"), looks := true }, kinds := [], alts := [], laidByText := true, laidKinds := [.data, .data, .data, .handle], laidTests := true, laidLooks := .later }
def BlobVeryCardSaid : Prop := Claim7.holds Tryz.pinned (.plain (OpenSpec.ofChange blobVerySpec)) blobVeryCard

/-- THE TIED CARD OF 'yanklinelaw12.BlobLong'. -/
def blobLongCard : Claim7 := { stood := { row := blobLongRow, standIns := [], harness := (true, "ef0424f2e8e86a9558c40551ea3370c22e076ad20bf0f2b9f2eea2021354ddce"), looks := true }, kinds := [], alts := [], laidByText := true, laidKinds := [.data, .data, .data, .handle], laidTests := true, laidLooks := .later }
def BlobLongCardSaid : Prop := Claim7.holds Tryz.pinned (.plain (OpenSpec.ofChange blobLongSpec)) blobLongCard

/-- THE TIED CARD OF 'yanklinelaw12.BlobNil'. -/
def blobNilCard : Claim7 := { stood := { row := blobNilRow, standIns := [], harness := (true, "ef0424f2e8e86a9558c40551ea3370c22e076ad20bf0f2b9f2eea2021354ddce"), looks := true }, kinds := [], alts := [], laidByText := true, laidKinds := [.data, .data, .data, .handle], laidTests := true, laidLooks := .later }
def BlobNilCardSaid : Prop := Claim7.holds Tryz.pinned (.plain (OpenSpec.ofChange blobNilSpec)) blobNilCard

/-- THE SECOND FORM's CARD OF 'yanklinelaw12.BlobVery'. -/
def blobVeryUptoCard : Claim7 := { stood := { row := blobVeryUptoRow, standIns := [], harness := (true, "ef0424f2e8e86a9558c40551ea3370c22e076ad20bf0f2b9f2eea2021354ddce"), looks := true }, kinds := [], alts := [], laidByText := true, laidKinds := [.data, .data, .data, .handle], laidTests := true, laidLooks := .later }
def BlobVeryUptoCardSaid : Prop := Claim7.holds Tryz.pinned (.plain (OpenSpec.upto blobVerySpec)) blobVeryUptoCard

/-- THE SECOND FORM's CARD OF 'yanklinelaw12.BlobLong'. -/
def blobLongUptoCard : Claim7 := { stood := { row := blobLongUptoRow, standIns := [], harness := (true, "ef0424f2e8e86a9558c40551ea3370c22e076ad20bf0f2b9f2eea2021354ddce"), looks := true }, kinds := [], alts := [], laidByText := true, laidKinds := [.data, .data, .data, .handle], laidTests := true, laidLooks := .later }
def BlobLongUptoCardSaid : Prop := Claim7.holds Tryz.pinned (.plain (OpenSpec.upto blobLongSpec)) blobLongUptoCard

/-- THE SECOND FORM's CARD OF 'yanklinelaw12.BlobNil'. -/
def blobNilUptoCard : Claim7 := { stood := { row := blobNilUptoRow, standIns := [], harness := (true, "ef0424f2e8e86a9558c40551ea3370c22e076ad20bf0f2b9f2eea2021354ddce"), looks := true }, kinds := [], alts := [], laidByText := true, laidKinds := [.data, .data, .data, .handle], laidTests := true, laidLooks := .later }
def BlobNilUptoCardSaid : Prop := Claim7.holds Tryz.pinned (.plain (OpenSpec.upto blobNilSpec)) blobNilUptoCard
end Rows
end Go.Proofs.YtfbdhlpgklkjmaaGreatDoor
