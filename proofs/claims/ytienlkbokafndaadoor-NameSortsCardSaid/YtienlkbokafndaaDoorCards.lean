/-
  DERIVED. GIVEN WITH THE SEED: THE CARDS: each row of YtienlkbokafndaaDoorRows.lean that lists a variable, with what it lists TIED to the program's text (the seventh form; the later family's looks); each row that meets fmt, with fmt's text TOLD by the authors' own Lean function (tested against real Go, not proved from fmt's source: count such statements apart). THE CARD IS WHAT COUNTS. Prove the row's statement (the work); the ties are given (YtienlkbokafndaaDoorTie.lean); close each card by the builder's one call (the guide's Derived/Test/ToyasCard.lean, 'card_holds'). Laid BY PROGRAM, IN A SANDBOX (cutbox-door.mjs). By AI agents, Wed Nov 11 2026. No macro, syntax, notation, axiom, sorry.
-/
import Derived.Test.YtienlkbokafndaaDoorRows
import GoSem.ClaimSeven
namespace Go.Proofs.YtienlkbokafndaaDoor
namespace Rows

/-- THE TIED CARD OF 'yanklinelaw06.NameForms'. -/
def nameFormsCard : Claim7 := { stood := { row := nameFormsRow, standIns := [], harness := (true, "a58844b42b0b9f75b17427b20fedf57b09f4bc5d6ef71dc0c251afb10163a0bc"), looks := false }, kinds := [], alts := [], laidByText := true, laidKinds := [.data, .pinned], laidTests := true, laidLooks := .later }
def NameFormsCardSaid : Prop := Claim7.holds Tryd.pinned (.plain (OpenSpec.ofChange nameFormsSpec)) nameFormsCard

/-- THE TIED CARD OF 'yanklinelaw06.NameHolders'. -/
def nameHoldersCard : Claim7 := { stood := { row := nameHoldersRow, standIns := [], harness := (true, "a58844b42b0b9f75b17427b20fedf57b09f4bc5d6ef71dc0c251afb10163a0bc"), looks := false }, kinds := [], alts := [], laidByText := true, laidKinds := [.data, .pinned], laidTests := true, laidLooks := .later }
def NameHoldersCardSaid : Prop := Claim7.holds Tryd.pinned (.plain (OpenSpec.ofChange nameHoldersSpec)) nameHoldersCard

/-- THE TIED CARD OF 'yanklinelaw06.NameSorts'. -/
def nameSortsCard : Claim7 := { stood := { row := nameSortsRow, standIns := [], harness := (true, "a58844b42b0b9f75b17427b20fedf57b09f4bc5d6ef71dc0c251afb10163a0bc"), looks := false }, kinds := [], alts := [], laidByText := true, laidKinds := [.data, .pinned], laidTests := true, laidLooks := .later }
def NameSortsCardSaid : Prop := Claim7.holds Tryd.pinned (.plain (OpenSpec.ofChange nameSortsSpec)) nameSortsCard

/-- THE TIED CARD OF 'yanklinelaw06.NameOnce'. -/
def nameOnceCard : Claim7 := { stood := { row := nameOnceRow, standIns := [], harness := (true, "a58844b42b0b9f75b17427b20fedf57b09f4bc5d6ef71dc0c251afb10163a0bc"), looks := false }, kinds := [], alts := [], laidByText := true, laidKinds := [.data, .pinned], laidTests := true, laidLooks := .later }
def NameOnceCardSaid : Prop := Claim7.holds Tryd.pinned (.plain (OpenSpec.ofChange nameOnceSpec)) nameOnceCard

/-- THE SECOND FORM's CARD OF 'yanklinelaw06.NameForms'. -/
def nameFormsUptoCard : Claim7 := { stood := { row := nameFormsUptoRow, standIns := [], harness := (true, "a58844b42b0b9f75b17427b20fedf57b09f4bc5d6ef71dc0c251afb10163a0bc"), looks := false }, kinds := [], alts := [], laidByText := true, laidKinds := [.data, .pinned], laidTests := true, laidLooks := .later }
def NameFormsUptoCardSaid : Prop := Claim7.holds Tryd.pinned (.plain (OpenSpec.upto nameFormsSpec)) nameFormsUptoCard

/-- THE SECOND FORM's CARD OF 'yanklinelaw06.NameHolders'. -/
def nameHoldersUptoCard : Claim7 := { stood := { row := nameHoldersUptoRow, standIns := [], harness := (true, "a58844b42b0b9f75b17427b20fedf57b09f4bc5d6ef71dc0c251afb10163a0bc"), looks := false }, kinds := [], alts := [], laidByText := true, laidKinds := [.data, .pinned], laidTests := true, laidLooks := .later }
def NameHoldersUptoCardSaid : Prop := Claim7.holds Tryd.pinned (.plain (OpenSpec.upto nameHoldersSpec)) nameHoldersUptoCard

/-- THE SECOND FORM's CARD OF 'yanklinelaw06.NameSorts'. -/
def nameSortsUptoCard : Claim7 := { stood := { row := nameSortsUptoRow, standIns := [], harness := (true, "a58844b42b0b9f75b17427b20fedf57b09f4bc5d6ef71dc0c251afb10163a0bc"), looks := false }, kinds := [], alts := [], laidByText := true, laidKinds := [.data, .pinned], laidTests := true, laidLooks := .later }
def NameSortsUptoCardSaid : Prop := Claim7.holds Tryd.pinned (.plain (OpenSpec.upto nameSortsSpec)) nameSortsUptoCard

/-- THE SECOND FORM's CARD OF 'yanklinelaw06.NameOnce'. -/
def nameOnceUptoCard : Claim7 := { stood := { row := nameOnceUptoRow, standIns := [], harness := (true, "a58844b42b0b9f75b17427b20fedf57b09f4bc5d6ef71dc0c251afb10163a0bc"), looks := false }, kinds := [], alts := [], laidByText := true, laidKinds := [.data, .pinned], laidTests := true, laidLooks := .later }
def NameOnceUptoCardSaid : Prop := Claim7.holds Tryd.pinned (.plain (OpenSpec.upto nameOnceSpec)) nameOnceUptoCard
end Rows
end Go.Proofs.YtienlkbokafndaaDoor
