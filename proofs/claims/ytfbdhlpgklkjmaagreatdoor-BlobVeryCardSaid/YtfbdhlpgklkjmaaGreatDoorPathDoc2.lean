/-
  The document's own answer for layer 11: what a text says as the name of a file.
-/
import Derived.Test.YtfbdhlpgklkjmaaGreatDoorPathDoc
namespace Go.Proofs.YtfbdhlpgklkjmaaGreatDoor
open Go.RowKit
namespace PathC
open PathM StrC
open VerM (B val dig)
set_option linter.unusedSimpArgs false
set_option linter.unusedVariables false

end PathC
end Go.Proofs.YtfbdhlpgklkjmaaGreatDoor
