/-
  An argument that is a slice of intervals (each with two slices of texts within): what its cells hold.
-/
import Derived.Test.YtapikdgncdcneaaGreatDoorRows
import Derived.Test.YtapikdgncdcneaaGreatDoorSpanRefJ
import Derived.Deep.Slices
import Derived.Deep.Fields
import Derived.ChangeSame
import Derived.ChangeArms
import Derived.SizedLaws
import Derived.SliceStrings
namespace Go.Proofs.YtapikdgncdcneaaGreatDoor.SpanArg
open Go.ChangeShapes Go.WideShapes Go.Deep Go.RowKit
open VerM StrC
open VerC (Txs)
open SpanC (IvG gvL IvIn TI TxQ RArg)
set_option linter.unusedSimpArgs false
set_option linter.unusedVariables false

/-! ### sizes within a datum -/
/-- each slice and each text within a datum is one that a machine holds -/
def OkW {H : Type} (P : Program) (t : TypeId) (d : DataW H) : Prop := ∀ n ∈ d.weights P t, n ≤ reachBytes
theorem weights_in_all {H : Type} {P : Program} {e : TypeId} {d : DataW H} {n : Nat} : ∀ {ds : List (DataW H)}, d ∈ ds → n ∈ d.weights P e → n ∈ DataW.weightsAll P e ds
  | x :: r, hd, hn => by
    rw [DataW.weightsAll]
    rcases List.mem_cons.1 hd with rfl | h
    · exact List.mem_append_left _ hn
    · exact List.mem_append_right _ (weights_in_all h hn)
theorem OkW.top {H : Type} {P : Program} {ts : List TypeId} {ds : List (DataW H)} (h : (DataW.weightsEach P ts ds).all (· ≤ reachBytes) = true) {j : Nat} {t : TypeId} {d : DataW H} (ht : ts[j]? = some t) (hd : ds[j]? = some d) : OkW P t d := fun n hn => by
  have := List.all_eq_true.1 h _ (DataW.weights_mem_each ht hd n hn)
  simpa using this
theorem OkW.elem {H : Type} {P : Program} {t e : TypeId} {ds sp : List (DataW H)} (h : OkW P t (.slice ds sp)) (hu : P.underlying t = some (.slice e)) {d : DataW H} (hd : d ∈ ds ∨ d ∈ sp) : OkW P e d := fun n hn => by
  refine h n ?_
  simp only [DataW.weights, hu]
  refine List.mem_cons_of_mem _ (List.mem_append.2 ?_)
  rcases hd with hd | hd
  · exact Or.inl (weights_in_all hd hn)
  · exact Or.inr (weights_in_all hd hn)
theorem OkW.size {H : Type} {P : Program} {t e : TypeId} {ds sp : List (DataW H)} (h : OkW P t (.slice ds sp)) (hu : P.underlying t = some (.slice e)) : (ds.length + sp.length) * P.bytesOf e ≤ reachBytes :=
  h _ (by simp [DataW.weights, hu])
theorem OkW.field {H : Type} {P : Program} {t : TypeId} {fs : Array Field} {zs : List (DataW H)} (h : OkW P t (.agg zs)) (hu : P.underlying t = some (.struct fs)) {j : Nat} {f : Field} {d : DataW H} (hj : fs[j]? = some f) (hd : zs[j]? = some d) : OkW P f.type d := fun n hn => by
  refine h n ?_
  simp only [DataW.weights, hu]
  exact DataW.weights_mem_each (j := j) (by simp; exact ⟨f, hj, rfl⟩) hd n hn

/-! ### a version's cells, a bound's, an interval's -/
section
variable {H : Type} {enc : TypeId × Value → H} {w : World} {base : Nat} {held : Bool}
theorem nat_u32 {m : Int} (h : (Lit.int .u32 m).wf = true) : ∃ n : Nat, m = (n : Int) ∧ n ≤ 4294967295 := by
  simp [Lit.wf, IntKind.min, IntKind.max, IntKind.signed, IntKind.bits] at h
  exact ⟨m.toNat, by omega, by omega⟩
theorem list_map (zs : List ByteArray) : ∀ i, (hi : i < zs.length) → str ((zs.map fun s => s.data.toList).getD i []) = zs[i] := fun i hi => by
  rw [List.getD_eq_getElem?_getD, List.getElem?_map, List.getElem?_eq_getElem hi]
  exact (str_of _).symm
/-- a slice of texts that came in -/
structure TA (w : World) (a : Option Addr) (c : Nat) (p : TL) : Prop where
  txs : Txs w a c p
  nil : a = none → c = 0
  size : p.length ≤ 8796093022000
structure IA (w : World) (x : IvG) : Prop where
  l : TA w x.la x.lc x.lv.pre
  h : TA w x.ha x.hc x.hv.pre
/-- a slice of intervals that came in -/
structure IArg (w : World) (a : Option Addr) (L : List IvG) : Prop where
  row : IvIn w a L.length L
  txs : ∀ x ∈ L, IA w x
/-- the texts of a version that came in -/
theorem texts_in {n : Nat} {v : Value} {y : DataW H × List MemPlace} (h : DataW.trod enc Tryz.prog w base (fun _ => true) held n 34 [v] = some y) (hw : OkW Tryz.prog 34 y.1) :
    ∃ (ad : Option Addr) (cap : Nat) (p : TL), v = .slice ad p.length cap ∧ TA w ad cap p := by
  have hce : Tryz.prog.cellsOf 9 = 1 := by kernel_rfl
  rcases open_strings Tryz.underlying34 Tryz.underlying9 hce h with ⟨hcs, hx⟩ | ⟨x, l, c, zs, hcs, _, hl, hm, hz, hx, hcell, hwz⟩
  · simp only [List.cons.injEq, and_true] at hcs
    exact ⟨none, 0, [], hcs, ⟨Txs.nil _ _ _, fun _ => rfl, by simp⟩⟩
  · simp only [List.cons.injEq, and_true] at hcs
    simp only [if_true] at hz
    rw [hx] at hw
    have hs := hw.size Tryz.underlying34
    rw [show Tryz.prog.bytesOf 9 = 16 from by kernel_rfl] at hs
    simp [Go.ChangeShapes.strs, reachBytes] at hs
    have hll : ((zs.take l).map fun s => s.data.toList).length = l := by simp; omega
    refine ⟨some x, c, (zs.take l).map fun s => s.data.toList, by rw [hll]; exact hcs, ⟨⟨by rw [hll]; exact hl, ?_, by rw [hll]; omega, fun h0 => ?_⟩, (fun e => by cases e), by rw [hll]; omega⟩⟩
    · intro t ht
      obtain ⟨s, hs, rfl⟩ := List.mem_map.1 ht
      have h1 := hwz s (List.mem_of_mem_take hs)
      have e : s.data.toList.length = s.size := Array.length_toList
      unfold maxLen at h1
      omega
    · rw [hll] at h0
      obtain ⟨b, off, spot⟩ := x
      have hspot : spot = none := by simpa [Addr.add] using World.cell?_spot (hcell 0 (by omega))
      subst hspot
      refine ⟨b, off, rfl, fun i hi => ?_⟩
      rw [hll] at hi
      have h1 : i < zs.length := by omega
      rw [← Go.WideShapes.add_plain, hcell i h1, list_map _ i (by simp; omega), List.getD_eq_getElem?_getD, List.getElem?_eq_getElem h1]
      simp
set_option maxRecDepth 100000 in
theorem version_in {n : Nat} {cs : List Value} {y : DataW H × List MemPlace} (h : DataW.trod enc Tryz.prog w base (fun _ => true) held n 36 cs = some y) (hw : OkW Tryz.prog 36 y.1) :
    ∃ (v : Ver) (ad : Option Addr) (cap : Nat), cs = [.int .u32 v.a, .int .u32 v.b, .int .u32 v.c, .slice ad v.pre.length cap] ∧ TA w ad cap v.pre := by
  obtain ⟨ys, n', -, hy, hl, hyl, hf⟩ := DataW.trod_struct Tryz.underlying36 h
  have hl4 : cs.length = 4 := hl.trans (by kernel_rfl)
  have k1 : Tryz.prog.cellsOf 33 = 1 := by kernel_rfl
  have k2 : Tryz.prog.cellsOf 34 = 1 := by kernel_rfl
  match cs, hl4 with
  | [c0, c1, c2, c3], _ =>
    match ys, hyl with
    | [y0, y1, y2, y3], _ =>
      have h0 := hf 0 _ rfl
      have h1 := hf 1 _ rfl
      have h2 := hf 2 _ rfl
      have h3 := hf 3 _ rfl
      simp [k1] at h0 h1 h2
      simp [k2] at h3
      obtain ⟨m0, hv0, -, hw0⟩ := DataW.trod_int Tryz.underlying33 h0
      obtain ⟨m1, hv1, -, hw1⟩ := DataW.trod_int Tryz.underlying33 h1
      obtain ⟨m2, hv2, -, hw2⟩ := DataW.trod_int Tryz.underlying33 h2
      simp only [List.cons.injEq, and_true] at hv0 hv1 hv2
      obtain ⟨a, rfl, -⟩ := nat_u32 hw0
      obtain ⟨b, rfl, -⟩ := nat_u32 hw1
      obtain ⟨c, rfl, -⟩ := nat_u32 hw2
      rw [hy] at hw
      obtain ⟨ad, cap, p, rfl, hT⟩ := texts_in h3 (hw.field Tryz.underlying36 (j := 3) rfl (by simp))
      exact ⟨⟨a, b, c, p⟩, ad, cap, by rw [hv0, hv1, hv2], hT⟩
set_option maxRecDepth 100000 in
theorem bound_in {n : Nat} {cs : List Value} {y : DataW H × List MemPlace} (h : DataW.trod enc Tryz.prog w base (fun _ => true) held n 51 cs = some y) (hw : OkW Tryz.prog 51 y.1) :
    ∃ (v : Ver) (ad : Option Addr) (cap : Nat) (o : Bool), cs = [.int .u32 v.a, .int .u32 v.b, .int .u32 v.c, .slice ad v.pre.length cap, .bool o] ∧ TA w ad cap v.pre := by
  obtain ⟨ys, n', -, hy, hl, hyl, hf⟩ := DataW.trod_struct Tryz.underlying51 h
  have hl5 : cs.length = 5 := hl.trans (by kernel_rfl)
  have k1 : Tryz.prog.cellsOf 36 = 4 := by kernel_rfl
  have k2 : Tryz.prog.cellsOf 4 = 1 := by kernel_rfl
  match cs, hl5 with
  | [c0, c1, c2, c3, c4], _ =>
    match ys, hyl with
    | [y0, y1], _ =>
      have h0 := hf 0 _ rfl
      have h1 := hf 1 _ rfl
      simp [k1] at h0
      simp [k2] at h1
      rw [hy] at hw
      obtain ⟨v, ad, cap, e0, hT⟩ := version_in h0 (hw.field Tryz.underlying51 (j := 0) rfl (by simp))
      obtain ⟨o, hv1, -⟩ := DataW.trod_bool Tryz.underlying4 h1
      simp only [List.cons.injEq, and_true] at hv1 e0
      obtain ⟨rfl, rfl, rfl, rfl⟩ := e0
      exact ⟨v, ad, cap, o, by rw [hv1], hT⟩
set_option maxRecDepth 100000 in
theorem interval_in {n : Nat} {cs : List Value} {y : DataW H × List MemPlace} (h : DataW.trod enc Tryz.prog w base (fun _ => true) held n 53 cs = some y) (hw : OkW Tryz.prog 53 y.1) :
    ∃ x : IvG, cs = gvL x ∧ IA w x := by
  obtain ⟨ys, n', -, hy, hl, hyl, hf⟩ := DataW.trod_struct Tryz.underlying53 h
  have hl11 : cs.length = 11 := hl.trans (by kernel_rfl)
  have k1 : Tryz.prog.cellsOf 51 = 5 := by kernel_rfl
  have k2 : Tryz.prog.cellsOf 4 = 1 := by kernel_rfl
  match cs, hl11 with
  | [c0, c1, c2, c3, c4, c5, c6, c7, c8, c9, c10], _ =>
    match ys, hyl with
    | [y0, y1, y2], _ =>
      have h0 := hf 0 _ rfl
      have h1 := hf 1 _ rfl
      have h2 := hf 2 _ rfl
      simp [k1] at h0 h1
      simp [k2] at h2
      rw [hy] at hw
      obtain ⟨v, ad, cap, o, e0, hT⟩ := bound_in h0 (hw.field Tryz.underlying53 (j := 0) rfl (by simp))
      obtain ⟨v', ad', cap', o', e1, hT'⟩ := bound_in h1 (hw.field Tryz.underlying53 (j := 1) rfl (by simp))
      obtain ⟨e, hv2, -⟩ := DataW.trod_bool Tryz.underlying4 h2
      simp only [List.cons.injEq, and_true] at hv2 e0 e1
      obtain ⟨rfl, rfl, rfl, rfl, rfl⟩ := e0
      obtain ⟨rfl, rfl, rfl, rfl, rfl⟩ := e1
      subst hv2
      exact ⟨⟨v, ad, cap, o, v', ad', cap', o', e⟩, rfl, ⟨hT, hT'⟩⟩
/-- the argument, opened -/
theorem open_ivs {fuel : Nat} {v : Value} {x : DataW H × List MemPlace} (h : DataW.trod enc Tryz.prog w base (fun _ => true) held fuel 22 [v] = some x) (hw : OkW Tryz.prog 22 x.1) :
    ∃ (a : Option Addr) (cap : Nat) (L : List IvG), v = .slice a L.length cap ∧ L.length ≤ cap ∧ cap * 104 ≤ reachBytes ∧ IArg w a L := by
  rcases open_slice Tryz.underlying22 h with ⟨hc, hx⟩ | ⟨a, len, cap, m, n, D, Pl, hcs, hb, hl, hm, hmm, hx, hi⟩
  · simp only [List.cons.injEq, and_true] at hc
    exact ⟨none, 0, [], hc, Nat.le_refl _, by simp, ⟨⟨rfl, fun h => absurd h (by simp)⟩, fun x h => by simp at h⟩⟩
  · simp only [if_true] at hmm
    subst hmm
    simp only [List.cons.injEq, and_true] at hcs
    have hC : Tryz.prog.cellsOf 53 = 11 := by kernel_rfl
    rw [hx] at hw
    have hs := hw.size Tryz.underlying22
    rw [show Tryz.prog.bytesOf 53 = 104 from by kernel_rfl] at hs
    have each : ∀ i, i < len → ∃ x : IvG, IA w x ∧ ∀ c, c < 11 → w.cell? (a.add (i * 11 + c)) = some ((gvL x)[c]!) := by
      intro i hil
      obtain ⟨cs', hc, ht'⟩ := hi i (by omega)
      rw [hC] at hc
      obtain ⟨x, e, hT⟩ := interval_in ht' (hw.elem Tryz.underlying22 (Or.inl (List.mem_map.2 ⟨i, List.mem_range.2 hil, rfl⟩)))
      obtain ⟨-, hcl, hat⟩ := World.cells?_some hc
      refine ⟨x, hT, fun c hc11 => ?_⟩
      have h1 := hat c hc11
      rw [← add_add, h1, e]
      have : c < (gvL x).length := hc11
      rw [List.getElem?_eq_getElem this]; exact congrArg some (getElem!_pos (gvL x) c this).symm
    have rows : ∃ L : List IvG, L.length = len ∧ ∀ i, (h : i < L.length) → IA w L[i] ∧ ∀ c, c < 11 → w.cell? (a.add (i * 11 + c)) = some ((gvL L[i])[c]!) := by
      have build : ∀ q, q ≤ len → ∃ L : List IvG, L.length = q ∧ ∀ i, (h : i < L.length) → IA w L[i] ∧ ∀ c, c < 11 → w.cell? (a.add (i * 11 + c)) = some ((gvL L[i])[c]!) := by
        intro q
        induction q with
        | zero => exact fun _ => ⟨[], rfl, fun i h => by cases h⟩
        | succ q ih =>
          intro hq
          obtain ⟨L, hz, hall⟩ := ih (by omega)
          obtain ⟨x, h1, h2⟩ := each q (by omega)
          refine ⟨L ++ [x], by simp [hz], fun i h => ?_⟩
          by_cases hi2 : i < L.length
          · rw [List.getElem_append_left hi2]; exact hall i hi2
          · have : i = q := by simp [hz] at h; omega
            subst this
            rw [List.getElem_append_right (by omega)]
            simp only [hz, Nat.sub_self, List.getElem_singleton]
            exact ⟨h1, h2⟩
      exact build len (Nat.le_refl _)
    obtain ⟨L, rfl, hall⟩ := rows
    refine ⟨some a, m, L, hcs, hl, ?_, ⟨⟨rfl, fun h0 => ?_⟩, fun x hx => ?_⟩⟩
    · have : L.length + (m - L.length) = m := by omega
      simpa [this] using hs
    · obtain ⟨b, off, spot⟩ := a
      have hspot : spot = none := by simpa [Addr.add] using World.cell?_spot ((hall 0 h0).2 0 (by omega))
      subst hspot
      refine ⟨b, off, rfl, fun i hi c hc => ?_⟩
      have := (hall i hi).2 c hc
      rw [Go.WideShapes.add_plain] at this
      rw [Nat.add_assoc, this, getElem!_pos L i hi]
    · obtain ⟨i, hi, rfl⟩ := List.getElem_of_mem hx
      exact (hall i hi).1
end
theorem TA.gr {w w' : World} {a : Option Addr} {c : Nat} {p : TL} (h : TA w a c p) (g : Below w.heap.size w w') : TA w' a c p := ⟨h.txs.gr g, h.nil, h.size⟩
theorem IArg.gr {w w' : World} {a : Option Addr} {L : List IvG} (h : IArg w a L) (g : Below w.heap.size w w') : IArg w' a L := ⟨h.row.below g, fun x hx => ⟨(h.txs x hx).l.gr g, (h.txs x hx).h.gr g⟩⟩
theorem IArg.rarg {w : World} {a : Option Addr} {L : List IvG} (h : IArg w a L) : SpanC.RArg False w a L := ⟨h.row, fun x hx => ⟨⟨(h.txs x hx).l.txs, fun k => k.elim⟩, ⟨(h.txs x hx).h.txs, fun k => k.elim⟩⟩⟩
end Go.Proofs.YtapikdgncdcneaaGreatDoor.SpanArg
