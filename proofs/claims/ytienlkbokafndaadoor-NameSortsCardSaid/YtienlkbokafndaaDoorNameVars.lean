/-
  What the shape of memory gives of package bytealg's MaxLen: some number; a world that bears the two tables of package utf8 that the rows list.
-/
import Derived.Test.YtienlkbokafndaaDoorRows
import Derived.Test.YtienlkbokafndaaDoorNameP2
import Derived.LaidLaws
import Derived.LaidHandle
import Derived.Stop.Joined
import Derived.LaidSub
import Derived.Lay
import Derived.MakeChecks
namespace Go.Proofs.YtienlkbokafndaaDoor
open Go.RowKit
namespace NameC

/-- a table of integers: each of its cells holds some integer -/
theorem cell_of_table {P : Program} {w : World} {g n : Nat} {t e : TypeId} {zero : Array Value} {k : IntKind} (h : w.ShapedOpen P) (hg : g < P.globals.size)
    (h0 : ((begin P (fun _ _ => 0) default).world.heap[g]?).bind Obj.row? = some (zero, t)) (hz : zero.size = n) (hb : P.buildable t = true) (hc : P.cellTypes P.depth t = some (List.replicate n e)) (hu : P.underlying e = some (.int k)) (i : Nat) (hi : i < n) :
    ∃ m, w.cell? ⟨g, i, none⟩ = some (.int k m) := by
  obtain ⟨cs, hh, hs, hr⟩ := h.1 g zero t hg h0
  obtain ⟨ts, hts, _, hall⟩ := hr hb
  rw [hc] at hts
  cases hts
  have h1 : i < cs.size := by omega
  obtain ⟨u, hu', hok⟩ := hall i cs[i] (by simp [h1])
  have hu2 : u = e := by
    have hl : (List.replicate n e)[i % (List.replicate n e).length]? = some u := hu'
    rw [List.getElem?_replicate] at hl
    split at hl
    · exact (Option.some.inj hl).symm
    · cases hl
  subst hu2
  have hcell : w.cell? ⟨g, i, none⟩ = some cs[i] := by simp [World.cell?, hh, h1]
  rw [hcell]
  unfold Cell.ok at hok
  rw [hu] at hok
  cases hv : cs[i] <;> rw [hv] at hok <;> simp at hok
  case int k' m => exact ⟨m, by rw [hok.1]⟩
def laidL : List (String × DataW Unit) := [("unicode/utf8.acceptRanges", Rows.laid_unicode_utf8_acceptRanges), ("unicode/utf8.first", Rows.laid_unicode_utf8_first)]
theorem mx_of {W : World} (_ : laidMetH Tryd.prog laidL W) (hs : W.ShapedOpen Tryd.prog) : Mx W :=
  cell_of_table (g := 0) (n := 1) (zero := #[.int .i64 0]) (t := 3) (e := 3) hs (of_decide_eq_true (by kernel_rfl)) (by kernel_rfl) (by kernel_rfl) (by kernel_rfl) (by kernel_rfl) Tryd.underlying3 0 (by decide)
def laidD : List (String × DataW Unit) := laidL.filter fun x => x.2.handleName?.isNone
/-- a world for the witness -/
noncomputable def laidW (os : Os) : World := (World.holding Tryd.prog os ⟨#[], #[], []⟩).layVars Tryd.prog laidD
theorem laidW_os (os : Os) : (laidW os).os = os := World.layVars_os _ _ _
set_option maxRecDepth 100000 in
theorem laidW_met (os : Os) (args : Array Value) : laidMetH Tryd.prog laidL ((laidW os).forCall (fun _ _ => 0) ⟨#[], args, []⟩).memory :=
  laidMetH_of_parts (laidMet_layVars (w0 := World.holding Tryd.prog os ⟨#[], #[], []⟩) (laidL.map (·.1)) [] (by kernel_rfl) (by kernel_rfl) (by kernel_rfl) LaidIn.none) (by kernel_rfl)
end NameC
end Go.Proofs.YtienlkbokafndaaDoor
