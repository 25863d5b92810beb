/-
  Package name's Sort, and the document's: the forms of many names, rising, each once; or the number of why not.
-/
import Derived.Test.YtienlkbokafndaaDoorNameP2
import Derived.Test.YtienlkbokafndaaDoorNameSortM
import Derived.Sort.OwnSorted
import Derived.Laws.OwnMore
import Derived.Laws.Cover1
import Derived.BigQuiet
namespace Go.Proofs.YtienlkbokafndaaDoor
open Go.RowKit
namespace NameC
open NameM StrC Go.Sort
set_option linter.unusedSimpArgs false

theorem info_text : (Tryd.prog.info? 9).map (fun i => (i.zero, i.size, i.bytes)) = some (some (.string ⟨#[]⟩), 1, 16) := by kernel_rfl
/-- a row of texts of one's own -/
def OwnS (w : World) (B : Nat) (v : Value) (l : TL) : Prop := w.ownsRow B 9 1 v l.length (l.map encStr)
theorem OwnS.nil (w : World) (B : Nat) : OwnS w B (.slice none 0 0) [] := World.ownsRow_nil _ _ _ _
theorem grown_below {w w' : World} (h : Below w.heap.size w w') : w.grownBy w' none := ⟨h.os, h.tape, h.output, h.size, fun k hk _ => h.block k hk⟩
theorem OwnS.below {w w' : World} {B : Nat} {v : Value} {l : TL} (h : OwnS w B v l) (hb : Below w.heap.size w w') : OwnS w' B v l := World.ownsRow.kept h (grown_below hb) (Classical.em _)
theorem snocS {w : World} {B n : Nat} {v : Value} {l : TL} {s : List UInt8} (h : w.ownsRow B 9 1 v (n + 1) (l.map encStr ++ [encStr s])) (hn : n = l.length) : OwnS w B v (l ++ [s]) := by
  unfold OwnS
  rw [List.map_append, List.map_singleton, List.length_append, List.length_singleton, ← hn]
  exact h
theorem OwnS.open_ {w : World} {B : Nat} {v : Value} {l : TL} (h : OwnS w B v l) (hp : 0 < l.length) : ∃ g cp, v = .slice (some ⟨g, 0, none⟩) l.length cp ∧ B ≤ g ∧ g < w.heap.size ∧ l.length ≤ cp ∧ cp ≤ maxLen ∧
    (∀ i, i < l.length → w.cell? ⟨g, i, none⟩ = some (.string (str (l.getD i [])))) ∧ (∀ i, w.frozen? ⟨g, i, none⟩ = false) := by
  have h' : w.ownsRow B 9 1 v l.length (l.map encStr) := h
  have hlt := h'.lt
  have h0 := h'
  obtain ⟨_, ⟨rfl, h1⟩ | ⟨g, cp, cur, rfl, hg0, hblk, hle, hcm, hsz, htk⟩⟩ := h'
  · omega
  · refine ⟨g, cp, rfl, hg0, (hlt g rfl).2, hle, hcm, fun i hi => ?_, fun i => h0.frozenAt i⟩
    rw [h0.cellAt i (by omega)]
    simp [hi]; rfl

/-- the elements of a slice of texts that came in, as its cells hold them -/
def TextsIn (w : World) (b o : Nat) (L : TL) : Prop := ∀ i, i < L.length → w.cell? ⟨b, o + i, none⟩ = some (.string (str (L.getD i [])))
theorem TextsIn.below {w w' : World} {b o B : Nat} {L : TL} (h : TextsIn w b o L) (hb : Below B w w') (hlt : b < B) : TextsIn w' b o L := fun i hi => by rw [hb.cell (by exact hlt)]; exact h i hi
theorem map_take {L : TL} (k : Nat) (h : k < L.length) : (L.take (k + 1)).map norm = (L.take k).map norm ++ [norm (L.getD k [])] := by
  rw [List.take_add_one, List.map_append]; simp [h]
theorem all_take {L : TL} (k : Nat) (h : k < L.length) : (L.take (k + 1)).all may = ((L.take k).all may && may (L.getD k [])) := by
  rw [List.take_add_one, List.all_append]; simp [h]
theorem all_none {L : TL} (k : Nat) (h : (L.take (k + 1)).all may = false) : L.all may = false := by
  rw [← List.take_append_drop (k + 1) L, List.all_append, h]; rfl
/-- what a round of the first loop finds and leaves, on both sides -/
structure FormI (L : TL) (w : World) (v : Value) (wr : World) (k : Nat) : Prop where
  le : k ≤ L.length
  own : OwnS wr w.heap.size v ((L.take k).map norm)
  below : Below w.heap.size w wr
  ok : (L.take k).all may = true
theorem FormI.step {L : TL} {w wr w2 : World} {v v2 : Value} {k : Nat} (h : FormI L w v wr k) (hk : k < L.length) (hm : may (L.getD k []) = true)
    (h2 : w2.ownsRow w.heap.size 9 1 v2 (((L.take k).map norm).length + 1) (((L.take k).map norm).map encStr ++ [encStr (norm (L.getD k []))])) (h3 : Below w.heap.size w w2) : FormI L w v2 w2 (k + 1) := by
  refine ⟨hk, ?_, h3, by rw [all_take k hk, h.ok, hm]; rfl⟩
  rw [map_take k hk]
  exact snocS h2 rfl
/-- what both calls of Sort answer -/
def SortE (L : TL) (w : World) (e : Ending) (w' : World) : Prop := Below w.heap.size w w' ∧
  (L.all may = false → e = .returned (.tuple #[.slice none 0 0, .int .i64 60])) ∧
  (L.all may = true → ∃ g cp, e = .returned (.tuple #[.slice (some ⟨g, 0, none⟩) (rise (L.map norm)).length cp, .int .i64 0]) ∧ w.heap.size ≤ g ∧ g < w'.heap.size ∧ (rise (L.map norm)).length ≤ cp ∧
    (∀ i, i < (rise (L.map norm)).length → w'.cell? ⟨g, i, none⟩ = some (.string (str ((rise (L.map norm)).getD i [])))) ∧ (∀ i, w'.frozen? ⟨g, i, none⟩ = false))
theorem SortE.no {L : TL} {w wr w' : World} {v : Value} {k : Nat} (hk : k < L.length) (_ : FormI L w v wr k) (hm : may (L.getD k []) = false) (hb : Below w.heap.size w w') : SortE L w (.returned (.tuple #[.slice none 0 0, .int .i64 60])) w' := by
  have ha : L.all may = false := all_none k (by rw [all_take k hk, hm, Bool.and_false])
  exact ⟨hb, fun _ => rfl, fun h1 => by rw [ha] at h1; cases h1⟩

theorem SortE.yes {L : TL} {w : World} {e : Ending} {w' : World} (ha : L.all may = true) (hb : Below w.heap.size w w') (h : ∃ g cp, e = .returned (.tuple #[.slice (some ⟨g, 0, none⟩) (rise (L.map norm)).length cp, .int .i64 0]) ∧ w.heap.size ≤ g ∧ g < w'.heap.size ∧ (rise (L.map norm)).length ≤ cp ∧
    (∀ i, i < (rise (L.map norm)).length → w'.cell? ⟨g, i, none⟩ = some (.string (str ((rise (L.map norm)).getD i [])))) ∧ (∀ i, w'.frozen? ⟨g, i, none⟩ = false)) : SortE L w e w' :=
  ⟨hb, fun h1 => absurd (ha.symm.trans h1) (by decide), fun _ => h⟩
set_option maxHeartbeats 4000000 in
set_option maxRecDepth 100000 in
theorem psort_some (b o cap : Nat) (L : TL) (w : World) (hp : 0 < L.length) (hL : L.length ≤ 200) (hb : b < w.heap.size) (hc : TextsIn w b o L) (hs : ∀ i, i < L.length → (L.getD i []).length ≤ 9223372036854775807) :
    Calls Tryd.prog 22 #[.slice (some ⟨b, o, none⟩) L.length cap] w (SortE L w) := by
  obtain ⟨i0, hi, hz0, hz1, hz2⟩ := info_parts info_text
  have HC := Lib.hid hc
  have HS := Lib.hid hs
  clear hc hs
  go_enter Tryd.func22, Tryd.ntmps22
  go_wp2_with fail
  go_loopw [4, 6, 7, 8, 11] (fun v _ _ _ i wr => ∃ k : Nat, i = .int .i64 k ∧ FormI L w v wr k) (fun _ _ _ _ i _ => L.length - (intOf i).toNat)
  case atStart => exact ⟨0, rfl, Nat.zero_le _, OwnS.nil _ _, Below.refl _ _, rfl⟩
  case round =>
    obtain ⟨k, rfl, HI⟩ := hrel
    rename World => wr
    have hkl := HI.le
    by_cases hlt : k < L.length
    · have hdec : decide (k < L.length) = true := by simpa using hlt
      have hcell := (HC.out.below HI.below hb) k hlt
      have HN := Lib.hid (norm_any (L.getD k []) wr (HS.out k hlt))
      have hcd : code (L.getD k []) = if may (L.getD k []) then 0 else 60 := rfl
      have HIT := Lib.hid HI
      rcases Bool.eq_false_or_eq_true (may (L.getD k [])) with hm | hm
      · simp only [hm, if_true] at hcd
        rw [hcd] at HN
        have HST := Lib.hid (fun (w2 : World) (v2 : Value) h1 h2 => HI.step (w2 := w2) (v2 := v2) hlt hm h1 h2)
        have hown := HI.own
        have HBW := Lib.hid HI.below
        have hlen : ((L.take k).map norm).length ≤ 200 := by rw [List.length_map, List.length_take]; omega
        clear HI hm hcd
        generalize norm (L.getD k []) = ns at *
        generalize L.getD k [] = s at *
        generalize (L.take k).map norm = F at *
        go_wp2_with (first
          | (go_at_call 7; refine HN.out.mono ?_; rintro e w1 ⟨rfl, hb1⟩; have hown1 := hown.below hb1)
          | (at_builtin; refine wpList_append_own _ rfl _ _ 31 rfl w.heap.size 9 i0 (.string ⟨#[]⟩) 1 16 Tryd.underlying31 hi hz0 hz1 hz2 rfl (by decide) _ _ _ rfl (World.ownsRow.alloc hown1 _) ⟨w1.heap.size, 0, none⟩ 1 1 [encStr ns] rfl rfl ?c1 ?c2 ?c3 ?c4 ?c5 ?_))
        case c1 => exact cell_one_new _ _ _
        case c2 => simp [Value.oneCell']
        case c3 => unfold maxLen; omega
        case c4 => omega
        case c5 => have := HBW.out.size; have := hb1.size; simp; omega
        intro v' w4 hown4 hg4 _
        go_wp2
        go_roundw
        case rel => exact ⟨k + 1, by go_num, HST.out _ _ hown4 (((chain (Nat.le_refl _) HBW.out hb1).alloc (Nat.le_trans HBW.out.size hb1.size) _).grown hg4 (by have := HBW.out.size; have := hb1.size; simp; omega) (fun j hj => (World.ownsRow.lt hown1 j hj).1))⟩
        case measure => simp [intOf]; omega
      · simp only [hm, if_false, Bool.false_eq_true] at hcd
        rw [hcd] at HN
        have HNO := Lib.hid (fun (w' : World) hb => SortE.no (w' := w') hlt HI hm hb)
        have HBW := Lib.hid HI.below
        clear HI hm hcd
        generalize norm (L.getD k []) = ns at *
        generalize L.getD k [] = s at *
        go_wp2_with (go_at_call 7; refine HN.out.mono ?_; rintro e w1 ⟨rfl, hb1⟩)
        go_ret2
        exact HNO.out _ (chain (Nat.le_refl _) HBW.out hb1)
    · have hdec : decide (k < L.length) = false := by simpa using hlt
      have hke : k = L.length := by omega
      subst hke
      have HA := Lib.hid (show L.all may = true by have := HI.ok; rwa [List.take_length] at this)
      have hown := HI.own
      have HBW := Lib.hid HI.below
      rw [List.take_length] at hown
      clear HI
      have hml : (L.map norm).length = L.length := List.length_map _
      have HR := Lib.hid (show rise (L.map norm) = Lib.compact ((L.map norm).mergeSort fun x y => decide (x ≤ y)) from rfl)
      unfold OwnS at hown
      have hL2 : (L.map norm).length ≤ 200 := by omega
      have hp2 : 0 < (L.map norm).length := by omega
      clear hml hlt hdec hkl hL hp
      have HE := Lib.hid (fun (e : Ending) (w' : World) => SortE.yes (L := L) (w := w) (e := e) (w' := w') HA.out)
      generalize hss : L.map norm = ss at *
      rcases hown.2 with ⟨hnil, h0⟩ | ⟨g, cp, cur, rfl, hbase, hblk, h1, h2, h3, h4⟩
      · omega
      have hH : Holds encStr wr g 0 ss.toArray := holds_of_block hblk (by simpa using h4)
      have hgl : g < wr.heap.size := (Array.getElem?_eq_some_iff.1 hblk).1
      have hcs := Lib.hid (Tryd.slices_Sort_string g 0 cp ss wr hH hgl (by omega))
      go_wp2_with (go_at_call 30; refine hcs.out.mono ?_; rintro e w' ⟨rfl, nn, os, rfl⟩)
      generalize hts : (ss.mergeSort fun x y => decide (x ≤ y)) = ts at *
      have htl : ts.length = ss.length := by rw [← hts, List.length_mergeSort]
      have hB2 : Below w.heap.size w (grow (putRow encStr (Sort.ahead wr nn) g 0 ts.toArray) os) := HBW.out.grown (grownBy_sorted _) HBW.out.size (fun j hj => by cases hj; exact hbase)
      have own2 : (grow (putRow encStr (Sort.ahead wr nn) g 0 ts.toArray) os).ownsRow w.heap.size 9 1 (.slice (some ⟨g, 0, none⟩) ss.length cp) ss.length (ts.map encStr) := ownsRow_sorted htl hbase hblk h1 h2 h3
      generalize grow (putRow encStr (Sort.ahead wr nn) g 0 ts.toArray) os = w2 at *
      rw [← htl] at own2 h1
      rw [← htl]
      rcases own2.2 with ⟨hnil, h0⟩ | ⟨g', cp', cur2, hg', hbase2, hblk2, j1, j2, j3, j4⟩
      · cases hnil
      simp only [Value.slice.injEq, Option.some.injEq, Addr.mk.injEq, and_true, true_and] at hg'
      obtain ⟨rfl, rfl⟩ := hg'
      have hH2 : Holds encStr w2 g 0 ts.toArray := holds_of_block hblk2 (by simpa using j4)
      have hgl2 : g < w2.heap.size := (Array.getElem?_eq_some_iff.1 hblk2).1
      have hcc := Lib.hid (Tryd.slices_Compact_string g 0 cp ts w2 hH2 (by omega) h1)
      clear hcs hH hH2 hblk h2 h3 h4 hgl hown
      go_wp2_with (go_at_call 31; refine hcc.out.mono ?_; rintro e w' ⟨rfl, qq, rfl⟩)
      go_ret2
      have hr : rise ss = Lib.compact ts := HR.out
      have hcl : (Lib.compact ts).length ≤ ts.length := by rw [← hr, htl]; exact rise_length ss
      have hll : (Lib.compact ts ++ List.replicate (ts.length - (Lib.compact ts).length) []).length = ts.length := by rw [List.length_append, List.length_replicate]; omega
      have own3 := ownsRow_sorted (n := qq) (os := #[]) (base := w.heap.size) (e := 9) hll hbase hblk2 h1 j2 j3
      have hB3 : Below w.heap.size w (grow (putRow encStr (Sort.ahead w2 qq) g 0 (Lib.compact ts ++ List.replicate (ts.length - (Lib.compact ts).length) []).toArray) #[]) := hB2.grown (grownBy_sorted _) hB2.size (fun j hj => by cases hj; exact hbase)
      have hsz3 : (grow (putRow encStr (Sort.ahead w2 qq) g 0 (Lib.compact ts ++ List.replicate (ts.length - (Lib.compact ts).length) []).toArray) #[]).heap.size = w2.heap.size := by simp
      rw [grow_empty] at own3 hB3 hsz3
      rw [← htl]
      refine HE.out _ _ hB3 ⟨g, cp, by rw [hr]; rfl, hbase, by rw [hsz3]; exact hgl2, by rw [hr]; omega, fun i hi => ?_, fun i => own3.frozenAt i⟩
      rw [hr] at hi ⊢
      rw [own3.cellAt i (by omega), List.getElem?_map, List.getElem?_append_left hi]
      simp [hi]; rfl
/-- of no name at all -/
theorem psort_none (a : Option Addr) (cap : Nat) (w : World) :
    Calls Tryd.prog 22 #[.slice a 0 cap] w fun e w' => e = .returned (.tuple #[.slice none 0 0, .int .i64 0]) ∧ w = w' := by
  go_enter Tryd.func22, Tryd.ntmps22
  go_wp2_with fail
  refine wp_loop_rounds 1 ?_
  rw [rounds_succ]
  go_wp2_with (first
    | (go_at_call 30; refine (Tryd.slices_Sort_string_none _ _ _).mono ?_; rintro e w' ⟨rfl, rfl⟩)
    | (go_at_call 31; refine (Tryd.slices_Compact_string_empty _ _ _).mono ?_; rintro e w' ⟨rfl, rfl⟩))
  go_ret2
  exact ⟨rfl, rfl⟩

/-- a list that rises, as one's own row -/
theorem own_cell {w : World} {B g cp : Nat} {l : TL} (h : w.ownsRow B 9 1 (.slice (some ⟨g, 0, none⟩) l.length cp) l.length (l.map encStr)) (i : Nat) (hi : i < l.length) : w.cell? ⟨g, i, none⟩ = some (.string (str (l.getD i []))) := by
  rw [h.cellAt i (by omega)]
  simp [hi]; rfl
end NameC
end Go.Proofs.YtienlkbokafndaaDoor
