/-
  An argument that is a version (three numbers, a slice of texts), by value: what its cells hold.
-/
import Derived.Test.YtapikdgncdcneaaGreatDoorRows
import Derived.Lib.SmallJoins
import Derived.SliceStrings
import Derived.SizedLaws
import Derived.ChangeSame
import Derived.ChangeArms
namespace Go.Proofs.YtapikdgncdcneaaGreatDoor.VerArg
open Go.ChangeShapes Go.WideShapes Go.Deep Go.Lib Go.Joins

/-- a slice of texts that came in: nil, or a row of 'cap' texts, the first 'len' its elements -/
def TextsIn (w : World) (a : Option Addr) (len cap : Nat) (zs : List ByteArray) : Prop :=
  (a = none ∧ len = 0 ∧ cap = 0 ∧ zs = []) ∨
  ∃ x, a = some x ∧ len ≤ cap ∧ cap ≤ maxLen ∧ zs.length = cap ∧ (∀ i, i < zs.length → w.cell? (x.add i) = some (.string (zs.getD i ByteArray.empty))) ∧ ∀ s ∈ zs, s.size ≤ maxLen
section
variable {H : Type} {enc : TypeId × Value → H} {P : Program} {w : World}
theorem sized_struct {ts : List TypeId} {ds : List (DataW H)} (h : (DataW.weightsEach P ts ds).all (· ≤ reachBytes) = true) {j : Nat} {t : TypeId} {fs : Array Field} {zs : List (DataW H)} (ht : ts[j]? = some t) (hd : ds[j]? = some (.agg zs)) (hu : P.underlying t = some (.struct fs)) :
    (DataW.weightsEach P (fs.toList.map (·.type)) zs).all (· ≤ reachBytes) = true := by
  rw [List.all_eq_true] at h ⊢
  intro n hn
  refine h n (DataW.weights_mem_each ht hd n ?_)
  simp only [DataW.weights, hu]
  simpa using hn
theorem open_ver {r : Reach} {b0 : Nat} {t te : TypeId} {f0 f1 f2 f3 : Field} {v : Value} {d : DataW H} {p : List MemPlace} (hs : P.underlying t = some (.struct #[f0, f1, f2, f3])) (hone : oneCellFields P #[f0, f1, f2, f3] = true) (hC : P.cellsOf t = 4)
    (h0 : P.underlying f0.type = some (.int .u32)) (h1 : P.underlying f1.type = some (.int .u32)) (h2 : P.underlying f2.type = some (.int .u32)) (h3 : P.underlying f3.type = some (.slice te)) (he : P.underlying te = some .string) (hce : P.cellsOf te = 1)
    (hv : Value.okWide P w r b0 t v) (h : DataW.Trod enc P w 0 (fun _ => true) true t v d p) :
    ∃ (x y z : Int) (a : Option Addr) (len cap : Nat) (zs : List ByteArray) (e : DataW H), v = .agg #[.int .u32 x, .int .u32 y, .int .u32 z, .slice a len cap] ∧ (Lit.int .u32 x).wf = true ∧ (Lit.int .u32 y).wf = true ∧ (Lit.int .u32 z).wf = true ∧ TextsIn w a len cap zs ∧
      d = .agg [.lit (.int .u32 x), .lit (.int .u32 y), .lit (.int .u32 z), e] ∧ (e = .nil ∧ cap = 0 ∨ e = .slice (Go.ChangeShapes.strs (zs.take len)) (Go.ChangeShapes.strs (zs.drop len))) := by
  obtain ⟨v0, v1, v2, v3, y0, y1, y2, y3, n, rfl, rfl, -, e0, e1, e2, e3⟩ := open_agg4 hs hone hC hv h
  obtain ⟨m0, hv0, rfl, hw0⟩ := DataW.trod_int h0 e0
  obtain ⟨m1, hv1, rfl, hw1⟩ := DataW.trod_int h1 e1
  obtain ⟨m2, hv2, rfl, hw2⟩ := DataW.trod_int h2 e2
  simp only [List.cons.injEq, and_true] at hv0 hv1 hv2
  subst hv0 hv1 hv2
  rcases open_strings h3 he hce e3 with ⟨hcs, rfl⟩ | ⟨x, l, c, zs, hcs, _, hl, hm, hz, rfl, hcell, hwz⟩
  · simp only [List.cons.injEq, and_true] at hcs
    subst hcs
    exact ⟨m0, m1, m2, none, 0, 0, [], _, rfl, hw0, hw1, hw2, .inl ⟨rfl, rfl, rfl, rfl⟩, rfl, .inl ⟨rfl, rfl⟩⟩
  · simp only [List.cons.injEq, and_true] at hcs
    subst hcs
    exact ⟨m0, m1, m2, some x, l, c, zs, _, rfl, hw0, hw1, hw2, .inr ⟨x, rfl, hl, hm, by simpa using hz, hcell, hwz⟩, rfl, .inr rfl⟩
end
end Go.Proofs.YtapikdgncdcneaaGreatDoor.VerArg
