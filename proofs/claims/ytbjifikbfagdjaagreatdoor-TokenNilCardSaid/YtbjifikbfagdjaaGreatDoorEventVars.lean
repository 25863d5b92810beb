/-
  What the listed variables of layer 9's rows give: package version's, and the word of a yank; a world that bears them.
-/
import Derived.Test.YtbjifikbfagdjaaGreatDoorVerVars
import Derived.Test.YtbjifikbfagdjaaGreatDoorStrB
import Derived.Lib.LaidTab
import Derived.ChangeArms
namespace Go.Proofs.YtbjifikbfagdjaaGreatDoor
open Go.RowKit
namespace EvN
open StrC
open VerC (Vw)

/-- an array of texts that reads as those texts holds them, cell for cell -/
theorem cells_of_words {H : Type} {enc : TypeId × Value → H} {P : Program} {w : World} {base : Nat} {sp : Nat → Bool} {held : Bool} {fuel : Nat} {t e : TypeId} {n : Nat} {cs : List Value} {zs : List (List UInt8)} {p : List MemPlace}
    (ht : P.underlying t = some (.array n e)) (he : P.underlying e = some .string) (hce : P.cellsOf e = 1) (hct : P.cellsOf t = n)
    (h : DataW.trod enc P w base sp held fuel t cs = some (.agg (zs.map fun z => .lit (.string z)), p)) : cs = zs.map fun z => Value.string (str z) := by
  cases fuel with
  | zero => simp [DataW.trod] at h
  | succ fuel =>
    simp only [DataW.trod, ht, hce, hct, Nat.mul_one] at h
    split at h
    · rename_i hl
      obtain ⟨xs, hm, hx⟩ := Option.map_eq_some_iff.1 h
      have hxs : xs.map (·.1) = zs.map fun z => (DataW.lit (.string z) : DataW H) := by
        have := congrArg Prod.fst hx
        simpa using this
      have hxl : xs.length = n := by simpa using Lib.mapM_length hm
      have hzl : zs.length = n := by
        have := congrArg List.length hxs
        simp at this
        omega
      apply List.ext_getElem?
      intro i
      by_cases hi : i < n
      · obtain ⟨b, hb, hf⟩ := Lib.mapM_at hm i i (by simp [hi])
        obtain ⟨z, hc, rfl, _⟩ := DataW.trod_string he hf
        have h1 : cs[i]? = some (.string z) := by
          have := congrArg (·[0]?) hc
          simpa [List.getElem?_take, List.getElem?_drop] using this
        have h2 : (xs.map (·.1))[i]? = some (DataW.lit (.string z.data.toList) : DataW H) := by simp [hb]
        rw [hxs] at h2
        simp only [List.getElem?_map, Option.map_eq_some_iff, DataW.lit.injEq, Lit.string.injEq] at h2
        obtain ⟨z', hz', rfl⟩ := h2
        simp [h1, hz', str]
      · rw [List.getElem?_eq_none (by omega), List.getElem?_eq_none (by simp; omega)]
    · cases h
theorem g_words : Tryz.prog.globalNamed "yankline/event.words" = some 1 := by kernel_rfl
def wordsL : List (List UInt8) := [[], [97, 99, 99, 111, 117, 110, 116], [112, 117, 98, 108, 105, 115, 104], [121, 97, 110, 107], [117, 110, 121, 97, 110, 107], [100, 101, 112, 114, 101, 99, 97, 116, 101], [111, 119, 110], [100, 105, 115, 111, 119, 110], [116, 101, 97, 109], [106, 111, 105, 110], [108, 101, 97, 118, 101]]
theorem words_of {W : World} {rest : List (String × DataW Unit)} (h : laidMet Tryz.prog (("yankline/event.words", Rows.laid_yankline_event_words) :: rest) W) (i : Nat) (hi : i < 11) : W.cell? ⟨1, i, none⟩ = some (.string (str (wordsL.getD i []))) := by
  obtain ⟨ps, ⟨g', t', cs, fuel, p, q, hg', ht', hvar, hd, _, _⟩, _⟩ := h
  obtain rfl := Option.some.inj (g_words.symm.trans hg')
  obtain rfl := Option.some.inj ((show (Tryz.prog.globals[1]?).map (·.type) = some 165 by kernel_rfl).symm.trans ht')
  have hcs := cells_of_words (zs := wordsL) Tryz.underlying165 Tryz.underlying9 (by kernel_rfl) (by kernel_rfl) hd
  have := World.var?_cell g_words hvar i
  rw [this]
  have hi' : i < wordsL.length := hi
  have h2 : cs[i]? = cs.toList[i]? := by simp
  rw [h2, hcs]
  simp [hi']
/-- what the law's calls read -/
structure VarsE (w : World) : Prop where
  vw : Vw w
  yank : w.cell? ⟨1, 3, none⟩ = some (.string (str [121, 97, 110, 107]))
def laidL : List (String × DataW Unit) := [("math/bits.deBruijn32tab", Rows.laid_math_bits_deBruijn32tab), ("math/bits.deBruijn64tab", Rows.laid_math_bits_deBruijn64tab), ("internal/strconv.uint64pow10", Rows.laid_internal_strconv_uint64pow10), ("unicode/utf8.acceptRanges", Rows.laid_unicode_utf8_acceptRanges), ("strconv.ErrRange", Rows.laid_strconv_ErrRange), ("strconv.ErrSyntax", Rows.laid_strconv_ErrSyntax), ("yankline/event.words", Rows.laid_yankline_event_words), ("unicode/utf8.first", Rows.laid_unicode_utf8_first)]
theorem varsE_of {W : World} (h : laidMetH Tryz.prog laidL W) (hs : W.ShapedOpen Tryz.prog) : VarsE W := by
  refine ⟨VerC.vw_of (h.filter (fun x => x.1 != "yankline/event.words")) hs, ?_⟩
  have h1 := h.filter (fun x => x.1 == "yankline/event.words")
  have h2 : laidMet Tryz.prog [("yankline/event.words", Rows.laid_yankline_event_words)] W := by
    rw [← MakeChecks.laidMetH_plain _ _ _ (by kernel_rfl)]
    exact h1
  exact words_of h2 3 (by decide)
def laidD : List (String × DataW Unit) := laidL.filter fun x => x.2.handleName?.isNone
/-- a world for the witness -/
noncomputable def laidW (os : Os) : World := (World.holding Tryz.prog os ⟨#[], #[], []⟩).layVars Tryz.prog laidD
theorem laidW_os (os : Os) : (laidW os).os = os := World.layVars_os _ _ _
set_option maxRecDepth 100000 in
theorem laidW_met (os : Os) (args : Array Value) : laidMetH Tryz.prog laidL ((laidW os).forCall (fun _ _ => 0) ⟨#[], args, []⟩).memory :=
  laidMetH_of_parts (laidMet_layVars (w0 := World.holding Tryz.prog os ⟨#[], #[], []⟩) (laidL.map (·.1)) [] (by kernel_rfl) (by kernel_rfl) (by kernel_rfl) LaidIn.none) (by kernel_rfl)
end EvN
end Go.Proofs.YtbjifikbfagdjaaGreatDoor
