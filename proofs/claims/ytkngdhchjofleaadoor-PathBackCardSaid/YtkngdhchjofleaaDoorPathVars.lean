/-
  An argument that is a struct of two integers, by value; what the listed variables give where the rows list Go's tables of digits; a world that bears them.
-/
import Derived.Test.YtkngdhchjofleaaDoorRows
import Derived.Test.YtkngdhchjofleaaDoorPathNames
import Derived.Lib.SmallJoins
import Derived.SizedLaws
import Derived.ChangeSame
import Derived.ChangeArms
import Derived.LaidLaws
import Derived.LaidHandle
import Derived.Stop.Joined
import Derived.LaidSub
import Derived.Lay
import Derived.MakeChecks
namespace Go.Proofs.YtkngdhchjofleaaDoor
namespace PathC
open Go.ChangeShapes Go.WideShapes Go.Deep Go.Lib Go.Joins
theorem open_two {H : Type} {enc : TypeId × Value → H} {P : Program} {w : World} {r : Reach} {b0 : Nat} {t : TypeId} {f0 f1 : Field} {k0 k1 : IntKind} {v : Value} {d : DataW H} {p : List MemPlace} (hs : P.underlying t = some (.struct #[f0, f1])) (hone : oneCellFields P #[f0, f1] = true) (hC : P.cellsOf t = 2)
    (h0 : P.underlying f0.type = some (.int k0)) (h1 : P.underlying f1.type = some (.int k1))
    (hv : Value.okWide P w r b0 t v) (h : DataW.Trod enc P w 0 (fun _ => true) true t v d p) :
    ∃ (x y : Int), v = .agg #[.int k0 x, .int k1 y] ∧ (Lit.int k0 x).wf = true ∧ (Lit.int k1 y).wf = true ∧ d = .agg [.lit (.int k0 x), .lit (.int k1 y)] := by
  obtain ⟨v0, v1, y0, y1, n, rfl, rfl, -, e0, e1⟩ := open_agg2 hs hone hC hv h
  obtain ⟨m0, hv0, rfl, hw0⟩ := DataW.trod_int h0 e0
  obtain ⟨m1, hv1, rfl, hw1⟩ := DataW.trod_int h1 e1
  simp only [List.cons.injEq, and_true] at hv0 hv1
  subst hv0 hv1
  exact ⟨m0, m1, rfl, hw0, hw1, rfl⟩
end PathC
open Go.RowKit
namespace PathC
theorem g_pow : Tryd.prog.globalNamed "internal/strconv.uint64pow10" = some 0 := by kernel_rfl
def laidL : List (String × DataW Unit) := [("math/bits.deBruijn32tab", Rows.laid_math_bits_deBruijn32tab), ("math/bits.deBruijn64tab", Rows.laid_math_bits_deBruijn64tab), ("internal/strconv.uint64pow10", Rows.laid_internal_strconv_uint64pow10)]
theorem tab_of {W : World} (h : laidMetH Tryd.prog laidL W) (_ : W.ShapedOpen Tryd.prog) : Tab W := by
  have h1 := h.filter (fun x => x.1 == "internal/strconv.uint64pow10")
  have h2 : laidMet Tryd.prog [("internal/strconv.uint64pow10", Rows.laid_internal_strconv_uint64pow10)] W := by
    rw [← MakeChecks.laidMetH_plain _ _ _ (by kernel_rfl)]
    exact h1
  exact Lib.tabIs_of_head (t := 70) (e := 22) (n := 20) g_pow (by kernel_rfl) Tryd.underlying70 Tryd.underlying22 (by kernel_rfl) (by kernel_rfl) h2
def laidD : List (String × DataW Unit) := laidL.filter fun x => x.2.handleName?.isNone
/-- a world for the witness -/
noncomputable def laidW (os : Os) : World := (World.holding Tryd.prog os ⟨#[], #[], []⟩).layVars Tryd.prog laidD
theorem laidW_os (os : Os) : (laidW os).os = os := World.layVars_os _ _ _
set_option maxRecDepth 100000 in
theorem laidW_met (os : Os) (args : Array Value) : laidMetH Tryd.prog laidL ((laidW os).forCall (fun _ _ => 0) ⟨#[], args, []⟩).memory :=
  laidMetH_of_parts (laidMet_layVars (w0 := World.holding Tryd.prog os ⟨#[], #[], []⟩) (laidL.map (·.1)) [] (by kernel_rfl) (by kernel_rfl) (by kernel_rfl) LaidIn.none) (by kernel_rfl)
end PathC
end Go.Proofs.YtkngdhchjofleaaDoor
