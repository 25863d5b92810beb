/-
  An argument that is a slice of structs whose fields are integers, bools or texts: what its cells hold, and its bulk.
-/
import Derived.Test.YtlnbjlidakdmlaaGreatDoorRows
import Derived.Deep.Slices
import Derived.Deep.Fields
import Derived.ChangeSame
import Derived.ChangeArms
import Derived.SizedLaws
namespace Go.Proofs.YtlnbjlidakdmlaaGreatDoor.Frame
open Go.ChangeShapes Go.WideShapes Go.Deep

/-- what a field may hold -/
inductive FK where
  | int (k : IntKind)
  | bool
  | text
def FK.fits : FK → Lit → Prop
  | .int k, l => ∃ n, l = .int k n ∧ (Lit.int k n).wf = true
  | .bool, l => ∃ b, l = .bool b
  | .text, l => ∃ s : ByteArray, l = .string s.data.toList ∧ s.size ≤ maxLen
def FK.of (P : Program) (t : TypeId) : FK → Prop
  | .int k => P.underlying t = some (.int k)
  | .bool => P.underlying t = some .bool
  | .text => P.underlying t = some .string
/-- a row: a literal a field -/
def RowOf (ks : List FK) (row : List Lit) : Prop := row.length = ks.length ∧ ∀ (j : Nat) (k : FK) (l : Lit), ks[j]? = some k → row[j]? = some l → k.fits l
/-- a slice of structs that came in: nil, or 'cap' rows, the first 'len' its elements -/
def IsStructs (ks : List FK) (w : World) (a : Option Addr) (len cap : Nat) (z : List (List Lit)) : Prop :=
  (a = none ∧ len = 0 ∧ cap = 0 ∧ z = []) ∨
  ∃ x, a = some x ∧ len ≤ cap ∧ cap ≤ maxLen ∧ z.length = cap ∧ (∀ row ∈ z, RowOf ks row) ∧ ∀ i, i < cap → ∀ j, j < ks.length → w.cell? (x.add (i * ks.length + j)) = some ((z.getD i []).getD j .nil).value
def bulkRow : List Lit → Nat
  | [] => 0
  | .string s :: r => s.length + 1 + bulkRow r
  | _ :: r => 1 + bulkRow r
/-- how many values and letters -/
def bulkRows : List (List Lit) → Nat
  | [] => 0
  | row :: r => bulkRow row + 1 + bulkRows r
theorem bulkRows_append (l r : List (List Lit)) : bulkRows (l ++ r) = bulkRows l + bulkRows r := by
  induction l with
  | nil => simp [bulkRows]
  | cons x l ih => simp only [List.cons_append, bulkRows, ih]; omega
def aggs {H : Type} (z : List (List Lit)) : List (DataW H) := z.map fun row => .agg (row.map .lit)
theorem bulk_row {H : Type} (row : List Lit) : Rows.uptoBulkAll (row.map (DataW.lit (H := H))) = bulkRow row := by
  induction row with
  | nil => rfl
  | cons l r ih => cases l <;> simp only [List.map_cons, Rows.uptoBulkAll, Rows.uptoBulk, bulkRow, ih]
theorem bulk_aggs {H : Type} (z : List (List Lit)) : Rows.uptoBulkAll (aggs (H := H) z) = bulkRows z := by
  induction z with
  | nil => rfl
  | cons row r ih =>
    have e : aggs (H := H) (row :: r) = .agg (row.map .lit) :: aggs r := rfl
    rw [e]
    simp only [Rows.uptoBulkAll, Rows.uptoBulk, bulkRows, bulk_row, ih]

section
variable {H : Type} {enc : TypeId × Value → H} {P : Program} {w : World} {base : Nat} {held : Bool}
theorem lit_of {t : TypeId} {k : FK} {n : Nat} {v : Value} {y : DataW H × List MemPlace} (hk : k.of P t) (h : DataW.trod enc P w base (fun _ => true) held n t [v] = some y) : ∃ l, y.1 = .lit l ∧ v = l.value ∧ k.fits l := by
  cases k with
  | int k =>
    obtain ⟨m, hv, hy, hw⟩ := DataW.trod_int hk h
    simp only [List.cons.injEq, and_true] at hv
    exact ⟨.int k m, by rw [hy], by rw [hv]; rfl, m, rfl, hw⟩
  | bool =>
    obtain ⟨b, hv, hy⟩ := DataW.trod_bool hk h
    simp only [List.cons.injEq, and_true] at hv
    exact ⟨.bool b, by rw [hy], by rw [hv]; rfl, b, rfl⟩
  | text =>
    obtain ⟨s, hv, hy, hs⟩ := DataW.trod_string hk h
    simp only [List.cons.injEq, and_true] at hv
    exact ⟨.string s.data.toList, by rw [hy], by rw [hv]; rfl, s, rfl, hs⟩
def litAt (ys : List (DataW H × List MemPlace)) (j : Nat) : Lit :=
  match ys[j]? with
  | some (DataW.lit l, _) => l
  | _ => .nil
theorem litAt_of {ys : List (DataW H × List MemPlace)} {j : Nat} {l : Lit} (hj : j < ys.length) (h : ys[j].1 = .lit l) : litAt ys j = l := by
  unfold litAt
  rw [List.getElem?_eq_getElem hj]
  cases e : ys[j] with
  | mk d p =>
    rw [e] at h
    simp only at h
    subst h
    rfl
/-- the argument, opened -/
theorem open_structs {t e : TypeId} {fs : Array Field} {ks : List FK} {fuel : Nat} {cs : List Value} {x : DataW H × List MemPlace} (ht : P.underlying t = some (.slice e)) (he : P.underlying e = some (.struct fs)) (hone : oneCellFields P fs = true) (hC : P.cellsOf e = fs.size)
    (hn : ks.length = fs.size) (hk : ∀ (j : Nat) (f : Field) (k : FK), fs[j]? = some f → ks[j]? = some k → k.of P f.type) (h : DataW.trod enc P w base (fun _ => true) held fuel t cs = some x) :
    (cs = [.slice none 0 0] ∧ x.1 = .nil) ∨
    ∃ (a : Addr) (len cap : Nat) (z : List (List Lit)), cs = [.slice (some a) len cap] ∧ len ≤ cap ∧ cap ≤ maxLen ∧ z.length = cap ∧ x.1 = .slice (aggs (z.take len)) (aggs (z.drop len)) ∧ (∀ row ∈ z, RowOf ks row) ∧
      ∀ i, i < cap → ∀ j, j < ks.length → w.cell? (a.add (i * ks.length + j)) = some ((z.getD i []).getD j .nil).value := by
  rcases open_slice ht h with ⟨hc, hx⟩ | ⟨a, len, cap, m, n, D, Pl, hcs, hb, hl, hm, hmm, hx, hi⟩
  · exact .inl ⟨hc, by rw [hx]⟩
  · right
    simp only [if_true] at hmm
    subst hmm
    -- of each place a row
    have each : ∀ i, i < m → ∃ row : List Lit, RowOf ks row ∧ D i = .agg (row.map .lit) ∧ ∀ j, j < ks.length → w.cell? (a.add (i * ks.length + j)) = some (row.getD j .nil).value := by
      intro i him
      obtain ⟨cs', hc, ht'⟩ := hi i him
      rw [hC] at hc
      obtain ⟨ys, n', -, hy, hlen, hyl, hf⟩ := DataW.trod_struct he ht'
      obtain ⟨-, hcl, hat⟩ := World.cells?_some hc
      have field : ∀ j, (hj : j < fs.size) → ∃ l v, cs'[j]? = some v ∧ (ys[j]'(by omega)).1 = .lit l ∧ v = l.value ∧ (ks[j]'(by omega)).fits l := by
        intro j hj
        obtain ⟨ho, hk1⟩ := hone_of hone j fs[j] (Array.getElem?_eq_getElem hj)
        have h1 := hf j fs[j] (Array.getElem?_eq_getElem hj)
        have hjc : j < cs'.length := by omega
        rw [ho, hk1, List.drop_eq_getElem_cons hjc, List.take_succ_cons, List.take_zero, List.getElem?_eq_getElem (by omega)] at h1
        obtain ⟨l, h2, h3, h4⟩ := lit_of (hk j fs[j] (ks[j]'(by omega)) (Array.getElem?_eq_getElem hj) (List.getElem?_eq_getElem (by omega))) h1
        exact ⟨l, cs'[j], List.getElem?_eq_getElem hjc, h2, h3, h4⟩
      refine ⟨(List.range fs.size).map (litAt ys), ⟨by simp [hn], ?_⟩, ?_, ?_⟩
      · intro j k l hjk hjl
        have hj : j < fs.size := by have := (List.getElem?_eq_some_iff.1 hjk).1; omega
        obtain ⟨l', v, -, h2, -, h4⟩ := field j hj
        rw [List.getElem?_map, List.getElem?_range hj, Option.map_some, Option.some.injEq, litAt_of (by omega) h2] at hjl
        rw [List.getElem?_eq_getElem (by omega), Option.some.injEq] at hjk
        subst hjl
        subst hjk
        exact h4
      · simp only [Prod.mk.injEq] at hy
        rw [hy.1]
        congr 1
        apply List.ext_getElem
        · simp [hyl]
        · intro j h1 h2
          have hj : j < fs.size := by simpa [hyl] using h1
          obtain ⟨l', v, -, h3, -, -⟩ := field j hj
          rw [List.getElem_map, List.getElem_map, List.getElem_map, List.getElem_range, litAt_of (by omega) h3, h3]
      · intro j hj
        obtain ⟨l', v, h1, h2, h3, -⟩ := field j (by omega)
        rw [hn, ← add_add, hat j (by omega), h1, h3]
        simp only [List.getD, List.getElem?_map, List.getElem?_range (show j < fs.size by omega), Option.map_some, Option.getD_some, litAt_of (show j < ys.length by omega) h2]
    have rows : ∃ z : List (List Lit), z.length = m ∧ ∀ i, (h : i < z.length) → RowOf ks z[i] ∧ D i = .agg (z[i].map .lit) ∧ ∀ j, j < ks.length → w.cell? (a.add (i * ks.length + j)) = some (z[i].getD j .nil).value := by
      have build : ∀ q, q ≤ m → ∃ z : List (List Lit), z.length = q ∧ ∀ i, (h : i < z.length) → RowOf ks z[i] ∧ D i = .agg (z[i].map .lit) ∧ ∀ j, j < ks.length → w.cell? (a.add (i * ks.length + j)) = some (z[i].getD j .nil).value := by
        intro q
        induction q with
        | zero => exact fun _ => ⟨[], rfl, fun i h => by cases h⟩
        | succ q ih =>
          intro hq
          obtain ⟨z, hz, hall⟩ := ih (by omega)
          obtain ⟨row, h1, h2, h3⟩ := each q (by omega)
          refine ⟨z ++ [row], by simp [hz], fun i h => ?_⟩
          by_cases hi2 : i < z.length
          · rw [List.getElem_append_left hi2]; exact hall i hi2
          · have : i = q := by simp [hz] at h; omega
            subst this
            rw [List.getElem_append_right (by omega)]
            simp only [hz, Nat.sub_self, List.getElem_singleton]
            exact ⟨h1, h2, h3⟩
      exact build m (Nat.le_refl _)
    obtain ⟨z, hz, hall⟩ := rows
    refine ⟨a, len, m, z, hcs, hl, hm, hz, ?_, ?_, ?_⟩
    · rw [hx]
      have e1 : (List.range len).map D = aggs (z.take len) := by
        apply List.ext_getElem
        · simp [aggs]; omega
        · intro i h1 h2
          have hi3 : i < len := by simpa using h1
          rw [List.getElem_map, List.getElem_range, (hall i (by omega)).2.1]
          simp [aggs]
      have e2 : ((List.range (m - len)).map fun j => D (len + j)) = aggs (z.drop len) := by
        apply List.ext_getElem
        · simp [aggs]; omega
        · intro i h1 h2
          have hi3 : i < m - len := by simpa using h1
          rw [List.getElem_map, List.getElem_range, (hall (len + i) (by omega)).2.1]
          simp [aggs]
      rw [e1, e2]
    · intro row hrow
      obtain ⟨i, hi3, rfl⟩ := List.getElem_of_mem hrow
      exact (hall i hi3).1
    · intro i hi3 j hj
      have := (hall i (by omega)).2.2 j hj
      rw [this]
      simp [List.getD, List.getElem?_eq_getElem (show i < z.length by omega)]
end
/-- each text of a row is one that a machine holds -/
def Short (z : List (List Lit)) : Prop := ∀ row ∈ z, ∀ l ∈ row, ∀ s, l = .string s → s.length ≤ 140737488351232
theorem short_nil : Short [] := fun _ h => by cases h
theorem weights_mem_all {H : Type} {P : Program} {e : TypeId} {d : DataW H} {n : Nat} : ∀ {ds : List (DataW H)}, d ∈ ds → n ∈ d.weights P e → n ∈ DataW.weightsAll P e ds
  | x :: r, hd, hn => by
    rw [DataW.weightsAll]
    rcases List.mem_cons.1 hd with rfl | h
    · exact List.mem_append_left _ hn
    · exact List.mem_append_right _ (weights_mem_all h hn)
theorem sized_rows {H : Type} {P : Program} {ts : List TypeId} {ds : List (DataW H)} (h : (DataW.weightsEach P ts ds).all (· ≤ reachBytes) = true) {j : Nat} {t e : TypeId} {fs : Array Field} {ks : List FK} {len : Nat} {z : List (List Lit)} (ht : ts[j]? = some t)
    (hd : ds[j]? = some (.slice (aggs (z.take len)) (aggs (z.drop len)))) (hu : P.underlying t = some (.slice e)) (he : P.underlying e = some (.struct fs)) (hn : ks.length = fs.size) (hrow : ∀ row ∈ z, RowOf ks row) : Short z := by
  intro row hr l hl s hs
  subst hs
  obtain ⟨k, hk, hke⟩ := List.getElem_of_mem hl
  have hkf : k < fs.size := by have := (hrow row hr).1; omega
  have h1 : s.length ∈ (DataW.agg (H := H) (row.map .lit)).weights P e := by
    simp only [DataW.weights, he]
    exact DataW.weights_mem_each (j := k) (t := fs[k].type) (d := .lit (.string s)) (by simp [hkf]) (by simp [hk, hke]) s.length (by simp [DataW.weights])
  have hm : DataW.agg (H := H) (row.map .lit) ∈ aggs (z.take len) ∨ DataW.agg (H := H) (row.map .lit) ∈ aggs (z.drop len) := by
    rw [← List.take_append_drop len z] at hr
    rcases List.mem_append.1 hr with h2 | h2
    · exact Or.inl (List.mem_map.2 ⟨row, h2, rfl⟩)
    · exact Or.inr (List.mem_map.2 ⟨row, h2, rfl⟩)
  have h2 : s.length ∈ (DataW.slice (aggs (z.take len)) (aggs (z.drop len)) : DataW H).weights P t := by
    simp only [DataW.weights, hu]
    refine List.mem_cons_of_mem _ (List.mem_append.2 ?_)
    rcases hm with hm | hm
    · exact Or.inl (weights_mem_all hm h1)
    · exact Or.inr (weights_mem_all hm h1)
  have h3 := List.all_eq_true.1 h _ (DataW.weights_mem_each ht hd _ h2)
  have h4 : s.length ≤ reachBytes := by simpa using h3
  unfold reachBytes at h4
  omega
end Go.Proofs.YtlnbjlidakdmlaaGreatDoor.Frame
