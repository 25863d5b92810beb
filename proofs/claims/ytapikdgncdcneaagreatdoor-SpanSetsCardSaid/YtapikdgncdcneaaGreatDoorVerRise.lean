/-
  The document's Sort of layer 7: texts of versions put at their place, one by one.
-/
import Derived.Test.YtapikdgncdcneaaGreatDoorVerRef5
import Derived.Sort.OwnSorted
import Derived.Laws.OwnMore
import Derived.Laws.Cover1
import Derived.BigQuiet
import Derived.Deep.CutRange
import Derived.Deep.CutBlock
import Derived.Lib.QuietBelow
namespace Go.Proofs.YtapikdgncdcneaaGreatDoor
open Go.RowKit
namespace VerC
open VerM StrC TextR
set_option linter.unusedSimpArgs false

/-- a text as a value -/
def encT (l : B) : Value := .string (str l)
theorem info_text : (Tryz.prog.info? 9).map (fun i => (i.zero, i.size, i.bytes)) = some (some (.string ⟨#[]⟩), 1, 16) := by kernel_rfl
/-- a row of texts of one's own -/
def OwnS (w : World) (B : Nat) (v : Value) (l : TL) : Prop := w.ownsRow B 9 1 v l.length (l.map encT)
theorem OwnS.nil (w : World) (B : Nat) : OwnS w B (.slice none 0 0) [] := World.ownsRow_nil _ _ _ _
theorem grown_below {w w' : World} (h : Below w.heap.size w w') : w.grownBy w' none := ⟨h.os, h.tape, h.output, h.size, fun k hk _ => h.block k hk⟩
theorem OwnS.below {w w' : World} {B : Nat} {v : Value} {l : TL} (h : OwnS w B v l) (hb : Below w.heap.size w w') : OwnS w' B v l := World.ownsRow.kept h (grown_below hb) (Classical.em _)
theorem snocS {w : World} {B n : Nat} {v : Value} {l : TL} {s : List UInt8} (h : w.ownsRow B 9 1 v (n + 1) (l.map encT ++ [encT s])) (hn : n = l.length) : OwnS w B v (l ++ [s]) := by
  unfold OwnS
  rw [List.map_append, List.map_singleton, List.length_append, List.length_singleton, ← hn]
  exact h
theorem OwnS.open_ {w : World} {B : Nat} {v : Value} {l : TL} (h : OwnS w B v l) (hp : 0 < l.length) : ∃ g cp, v = .slice (some ⟨g, 0, none⟩) l.length cp ∧ B ≤ g ∧ g < w.heap.size ∧ l.length ≤ cp ∧ cp ≤ maxLen ∧
    (∀ i, i < l.length → w.cell? ⟨g, i, none⟩ = some (.string (str (l.getD i [])))) ∧ (∀ i, w.frozen? ⟨g, i, none⟩ = false) := by
  have h' : w.ownsRow B 9 1 v l.length (l.map encT) := h
  have hlt := h'.lt
  have h0 := h'
  obtain ⟨_, ⟨rfl, h1⟩ | ⟨g, cp, cur, rfl, hg0, hblk, hle, hcm, hsz, htk⟩⟩ := h'
  · omega
  · refine ⟨g, cp, rfl, hg0, (hlt g rfl).2, hle, hcm, fun i hi => ?_, fun i => h0.frozenAt i⟩
    rw [h0.cellAt i (by omega)]
    simp [hi]; rfl
theorem OwnS.set {w : World} {B g cp : Nat} {l : TL} (h : OwnS w B (.slice (some ⟨g, 0, none⟩) l.length cp) l) (j : Nat) (x : List UInt8) : OwnS (w.setCell ⟨g, j, none⟩ (.string (str x))) B (.slice (some ⟨g, 0, none⟩) (l.set j x).length cp) (l.set j x) := by
  unfold OwnS at h ⊢
  have := (World.ownsRow.stored h j (encT x)).1
  rw [List.length_set, List.map_set]
  exact this
theorem mem_insert {o : TL} {x : List UInt8} {k : Nat} (y : List UInt8) : y ∈ o.take k ++ x :: o.drop k ↔ y = x ∨ y ∈ o := by
  rw [List.mem_append, List.mem_cons]
  have : y ∈ o ↔ y ∈ o.take k ∨ y ∈ o.drop k := by rw [← List.mem_append, List.take_append_drop]
  rw [this]
  constructor
  · rintro (h | h | h)
    · exact .inr (.inl h)
    · exact .inl h
    · exact .inr (.inr h)
  · rintro (h | h | h)
    · exact .inr (.inl h)
    · exact .inl h
    · exact .inr (.inr h)
/-- what a round of Sort's outer loop finds and leaves -/
structure RiseI (F : TL) (w : World) (v : Value) (wr : World) (i : Nat) (O : TL) : Prop where
  le : i ≤ F.length
  own : OwnS wr w.heap.size v O
  ss : SV O
  mem : ∀ x, x ∈ O ↔ x ∈ F.take i
  len : O.length ≤ i
  below : Below w.heap.size w wr
theorem take_next {F : TL} {i : Nat} (hlt : i < F.length) : F.take (i + 1) = F.take i ++ [F.getD i []] := by rw [List.take_add_one]; simp [hlt]
/-- the place of x, from the end on -/
structure PlaceI (O : TL) (x : List UInt8) (wr wq : World) (k : Nat) : Prop where
  le : k ≤ O.length
  big : ∀ y ∈ O.drop k, ordT x y < 0
  world : Below wr.heap.size wr wq
theorem getD_at {O : TL} {p : Nat} (hp : p < O.length) : O.getD p [] = O[p] := by rw [List.getD_eq_getElem?_getD, List.getElem?_eq_getElem hp]; rfl
theorem PlaceI.step {O : TL} {x : List UInt8} {wr wq : World} {k : Nat} (h : PlaceI O x wr wq (k + 1)) (hx : ordT x (O.getD k []) < 0) (w2 : World) (hw : Below wr.heap.size wr w2) : PlaceI O x wr w2 k := by
  have hk := h.le
  refine ⟨by omega, fun y hy => ?_, hw⟩
  rw [List.drop_eq_getElem_cons (show k < O.length by omega)] at hy
  rcases List.mem_cons.1 hy with e | e
  · rw [e, ← getD_at (show k < O.length by omega)]; exact hx
  · exact h.big y e
theorem RiseI.skip {F O : TL} {w wr w2 : World} {v : Value} {i : Nat} (h : RiseI F w v wr i O) (hlt : i < F.length) (hx : F.getD i [] ∈ O) (hb : Below wr.heap.size wr w2) : RiseI F w v w2 (i + 1) O := by
  refine ⟨hlt, h.own.below hb, h.ss, fun x => ?_, Nat.le_succ_of_le h.len, h.below.trans (hb.mono h.below.size)⟩
  rw [take_next hlt, List.mem_append, List.mem_singleton, ← h.mem]
  refine ⟨Or.inl, fun hh => ?_⟩
  rcases hh with hh | hh
  · exact hh
  · rw [hh]; exact hx
theorem RiseI.put {F O : TL} {w wr w2 : World} {v v2 : Value} {i k : Nat} (h : RiseI F w v wr i O) (hlt : i < F.length) (ht : isT (F.getD i []) = true) (h1 : ∀ y ∈ O.take k, ordT y (F.getD i []) < 0) (h2 : ∀ y ∈ O.drop k, ordT (F.getD i []) y < 0)
    (ho : OwnS w2 w.heap.size v2 (O.take k ++ F.getD i [] :: O.drop k)) (hb : Below w.heap.size w w2) : RiseI F w v2 w2 (i + 1) (O.take k ++ F.getD i [] :: O.drop k) := by
  refine ⟨hlt, ho, h.ss.insert ht h1 h2, fun x => ?_, ?_, hb⟩
  · rw [mem_insert, take_next hlt, List.mem_append, List.mem_singleton, ← h.mem]
    exact or_comm
  · have := h.len
    have e : (O.take k).length + (O.drop k).length = O.length := by rw [← List.length_append, List.take_append_drop]
    rw [List.length_append, List.length_cons]; omega
theorem take_small {O : TL} {x : List UInt8} {p : Nat} (hs : SV O) (hp : p < O.length) (hx : isT x = true) (h : ordT (O.getD p []) x ≤ 0) (hn : O.getD p [] ≠ x) : ∀ y ∈ O.take (p + 1), ordT y x < 0 := by
  rw [getD_at hp] at h hn
  have htp : isT O[p] = true := hs.2 _ (List.getElem_mem hp)
  have hpx : ordT O[p] x < 0 := by
    rcases Int.lt_or_eq_of_le h with h0 | h0
    · exact h0
    · exact absurd (ordT_zero htp hx h0) hn
  intro y hy
  obtain ⟨j, hj, ej⟩ := List.getElem_of_mem hy
  rw [List.length_take] at hj
  rw [List.getElem_take] at ej
  rw [← ej]
  rcases Nat.lt_or_ge j p with h1 | h1
  · have h2 := List.pairwise_iff_getElem.1 hs.1 j p (by omega) hp h1
    by_cases h3 : ordT O[j] x < 0
    · exact h3
    · exfalso
      have h4 : ordT x O[j] ≤ 0 := by have := @ordT_anti x O[j]; omega
      have h5 := ordT_trans hx (show ordT O[p] x ≤ 0 by omega) h4
      have h6 := @ordT_anti O[p] O[j]
      omega
  · have : j = p := by omega
    subst this; exact hpx
/-- the row while it is moved on: a place is free at j -/
structure ShiftI (O R : TL) (k j : Nat) : Prop where
  len : R.length = O.length + 1
  ge : k ≤ j
  le : j ≤ O.length
  low : ∀ t, t < j → R.getD t [] = O.getD t []
  high : ∀ t, j < t → t ≤ O.length → R.getD t [] = O.getD (t - 1) []
theorem getD_set (R : TL) (j t : Nat) (x : List UInt8) (h : j < R.length) : (R.set j x).getD t [] = if t = j then x else R.getD t [] := by
  rw [List.getD_eq_getElem?_getD, List.getElem?_set, List.getD_eq_getElem?_getD]
  by_cases e : j = t
  · subst e; simp [h]
  · rw [if_neg e, if_neg (fun e2 => e e2.symm)]
theorem ShiftI.start (O : TL) (k : Nat) (h : k ≤ O.length) : ShiftI O (O ++ [[]]) k O.length := by
  refine ⟨by simp, h, Nat.le_refl _, fun t ht => ?_, fun t h1 h2 => by omega⟩
  rw [List.getD_eq_getElem?_getD, List.getD_eq_getElem?_getD, List.getElem?_append_left ht]
theorem ShiftI.step {O R : TL} {k j : Nat} (h : ShiftI O R k (j + 1)) (hk : k < j + 1) : ShiftI O (R.set (j + 1) (R.getD j [])) k j := by
  have hle := h.le
  refine ⟨by rw [List.length_set]; exact h.len, by omega, by omega, fun t ht => ?_, fun t h1 h2 => ?_⟩
  · rw [getD_set _ _ _ _ (by rw [h.len]; omega), if_neg (by omega)]; exact h.low t (by omega)
  · rw [getD_set _ _ _ _ (by rw [h.len]; omega)]
    split
    · rename_i e; rw [e]; exact h.low j (by omega)
    · exact h.high t (by omega) h2
theorem ShiftI.done {O R : TL} {k : Nat} (h : ShiftI O R k k) (x : List UInt8) : R.set k x = O.take k ++ x :: O.drop k := by
  have hle := h.le
  have hl := h.len
  have hlt : (O.take k).length = k := by rw [List.length_take]; omega
  apply List.ext_getElem?
  intro t
  rw [List.getElem?_set]
  by_cases e : k = t
  · subst e
    rw [if_pos rfl, if_pos (by omega), List.getElem?_append_right (by omega), hlt, Nat.sub_self]; rfl
  · rw [if_neg e]
    rcases Nat.lt_or_ge t k with h1 | h1
    · rw [List.getElem?_append_left (by omega), List.getElem?_take_of_lt h1]
      have := h.low t h1
      rw [List.getD_eq_getElem?_getD, List.getD_eq_getElem?_getD, List.getElem?_eq_getElem (by omega), List.getElem?_eq_getElem (by omega)] at this
      rw [List.getElem?_eq_getElem (by omega), List.getElem?_eq_getElem (by omega)]
      exact congrArg some this
    · rw [List.getElem?_append_right (by omega), hlt]
      obtain ⟨d, rfl⟩ : ∃ d, t = k + 1 + d := ⟨t - k - 1, by omega⟩
      rw [show k + 1 + d - k = d + 1 from by omega, List.getElem?_cons_succ, List.getElem?_drop]
      by_cases hb : k + 1 + d ≤ O.length
      · have := h.high (k + 1 + d) (by omega) hb
        rw [show k + 1 + d - 1 = k + d from by omega, List.getD_eq_getElem?_getD, List.getD_eq_getElem?_getD, List.getElem?_eq_getElem (by omega), List.getElem?_eq_getElem (by omega)] at this
        rw [List.getElem?_eq_getElem (by omega), List.getElem?_eq_getElem (by omega)]
        exact congrArg some this
      · rw [List.getElem?_eq_none (by omega), List.getElem?_eq_none (by omega)]
/-- how the document's Order ends of two texts of versions -/
theorem rordE_yes {a b : B} (h1 : isT a = true) (h2 : isT b = true) : rordE a b = .returned (.tuple #[.int .i64 (ordT a b), .int .i64 0]) := by
  obtain ⟨v, hv⟩ := isT_some h1
  obtain ⟨u, hu⟩ := isT_some h2
  rw [rordE_some hv hu, ordT_some hv hu]
/-- how Sort ends, the document's and package version's -/
def SortVE (L : TL) (w : World) (e : Ending) (w' : World) : Prop := Below w.heap.size w w' ∧
  (L.all isT = false → e = .returned (.tuple #[.slice none 0 0, .int .i64 70])) ∧
  (L.all isT = true → ∃ a cp R, e = .returned (.tuple #[.slice a R.length cp, .int .i64 0]) ∧ OwnS w' w.heap.size (.slice a R.length cp) R ∧ SV R ∧ ∀ x, x ∈ R ↔ x ∈ L)
/-- the elements of a slice of texts that came in, as its cells hold them -/
def TextsIn (w : World) (b o : Nat) (L : TL) : Prop := ∀ i, i < L.length → w.cell? ⟨b, o + i, none⟩ = some (.string (str (L.getD i [])))
theorem TextsIn.below {w w' : World} {b o B : Nat} {L : TL} (h : TextsIn w b o L) (hb : Below B w w') (hlt : b < B) : TextsIn w' b o L := fun i hi => by rw [hb.cell (by exact hlt)]; exact h i hi
end VerC
end Go.Proofs.YtapikdgncdcneaaGreatDoor
