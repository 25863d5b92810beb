/-
  What the listed variables of layer 13's rows give; a world that bears them.
-/
import Derived.Test.YtbjifikbfagdjaaGreatDoorTokenA
import Derived.Test.YtbjifikbfagdjaaGreatDoorEventVars
import Derived.Test.YtbjifikbfagdjaaGreatDoorErrVars
namespace Go.Proofs.YtbjifikbfagdjaaGreatDoor
open Go.RowKit
namespace TokC
open StrC
open VerC (Vw)

def laidL : List (String × DataW Unit) := [("math/bits.deBruijn32tab", Rows.laid_math_bits_deBruijn32tab), ("math/bits.deBruijn64tab", Rows.laid_math_bits_deBruijn64tab), ("internal/strconv.uint64pow10", Rows.laid_internal_strconv_uint64pow10), ("unicode/utf8.acceptRanges", Rows.laid_unicode_utf8_acceptRanges), ("errors.errorType", Rows.laid_errors_errorType), ("strconv.ErrRange", Rows.laid_strconv_ErrRange), ("strconv.ErrSyntax", Rows.laid_strconv_ErrSyntax), ("yankline/event.words", Rows.laid_yankline_event_words), ("unicode/utf8.first", Rows.laid_unicode_utf8_first)]
theorem varsK_of {W : World} (h : laidMetH Tryz.prog laidL W) (hs : W.ShapedOpen Tryz.prog) : VarsK W := by
  refine ⟨VerC.vw_of (h.filter (fun x => x.1 != "yankline/event.words" && x.1 != "errors.errorType")) hs, ErrC.vars_of (h.filter (fun x => x.1 == "errors.errorType")) hs, ?_⟩
  have h1 := h.filter (fun x => x.1 == "yankline/event.words")
  have h2 : laidMet Tryz.prog [("yankline/event.words", Rows.laid_yankline_event_words)] W := by
    rw [← MakeChecks.laidMetH_plain _ _ _ (by kernel_rfl)]
    exact h1
  exact ⟨_, EvN.words_of h2 1 (by decide)⟩
def laidD : List (String × DataW Unit) := laidL.filter fun x => x.2.handleName?.isNone
/-- a world for the witness -/
noncomputable def laidW (os : Os) : World := (ErrC.laidWorld os).layVars Tryz.prog laidD
theorem laidW_os (os : Os) : (laidW os).os = os := World.layVars_os _ _ _
set_option maxRecDepth 100000 in
theorem laidW_met (os : Os) (args : Array Value) : laidMetH Tryz.prog laidL ((laidW os).forCall (fun _ _ => 0) ⟨#[], args, []⟩).memory :=
  laidMetH_of_parts (laidMet_layVars (w0 := ErrC.laidWorld os) (laidL.map (·.1)) [] (by kernel_rfl) (by kernel_rfl) (by kernel_rfl) LaidIn.none) (by kernel_rfl)
end TokC
end Go.Proofs.YtbjifikbfagdjaaGreatDoor
