/-
  The document's Sort of layer 7: texts of versions put at their place, one by one.
-/
import Derived.Test.YtenopliclpnkhaaGreatDoorVerRef5
import Derived.Sort.OwnSorted
import Derived.Laws.OwnMore
import Derived.Laws.Cover1
import Derived.BigQuiet
import Derived.Deep.CutRange
import Derived.Deep.CutBlock
import Derived.Lib.QuietBelow
namespace Go.Proofs.YtenopliclpnkhaaGreatDoor
open Go.RowKit
namespace VerC
open VerM StrC TextR
set_option linter.unusedSimpArgs false

/-- a text as a value -/
def encT (l : B) : Value := .string (str l)
theorem info_text : (Tryz.prog.info? 9).map (fun i => (i.zero, i.size, i.bytes)) = some (some (.string ⟨#[]⟩), 1, 16) := by kernel_rfl
/-- a row of texts of one's own -/
def OwnS (w : World) (B : Nat) (v : Value) (l : TL) : Prop := w.ownsRow B 9 1 v l.length (l.map encT)
theorem OwnS.nil (w : World) (B : Nat) : OwnS w B (.slice none 0 0) [] := World.ownsRow_nil _ _ _ _
theorem grown_below {w w' : World} (h : Below w.heap.size w w') : w.grownBy w' none := ⟨h.os, h.tape, h.output, h.size, fun k hk _ => h.block k hk⟩
theorem OwnS.below {w w' : World} {B : Nat} {v : Value} {l : TL} (h : OwnS w B v l) (hb : Below w.heap.size w w') : OwnS w' B v l := World.ownsRow.kept h (grown_below hb) (Classical.em _)
theorem snocS {w : World} {B n : Nat} {v : Value} {l : TL} {s : List UInt8} (h : w.ownsRow B 9 1 v (n + 1) (l.map encT ++ [encT s])) (hn : n = l.length) : OwnS w B v (l ++ [s]) := by
  unfold OwnS
  rw [List.map_append, List.map_singleton, List.length_append, List.length_singleton, ← hn]
  exact h
theorem OwnS.open_ {w : World} {B : Nat} {v : Value} {l : TL} (h : OwnS w B v l) (hp : 0 < l.length) : ∃ g cp, v = .slice (some ⟨g, 0, none⟩) l.length cp ∧ B ≤ g ∧ g < w.heap.size ∧ l.length ≤ cp ∧ cp ≤ maxLen ∧
    (∀ i, i < l.length → w.cell? ⟨g, i, none⟩ = some (.string (str (l.getD i [])))) ∧ (∀ i, w.frozen? ⟨g, i, none⟩ = false) := by
  have h' : w.ownsRow B 9 1 v l.length (l.map encT) := h
  have hlt := h'.lt
  have h0 := h'
  obtain ⟨_, ⟨rfl, h1⟩ | ⟨g, cp, cur, rfl, hg0, hblk, hle, hcm, hsz, htk⟩⟩ := h'
  · omega
  · refine ⟨g, cp, rfl, hg0, (hlt g rfl).2, hle, hcm, fun i hi => ?_, fun i => h0.frozenAt i⟩
    rw [h0.cellAt i (by omega)]
    simp [hi]; rfl
theorem OwnS.set {w : World} {B g cp : Nat} {l : TL} (h : OwnS w B (.slice (some ⟨g, 0, none⟩) l.length cp) l) (j : Nat) (x : List UInt8) : OwnS (w.setCell ⟨g, j, none⟩ (.string (str x))) B (.slice (some ⟨g, 0, none⟩) (l.set j x).length cp) (l.set j x) := by
  unfold OwnS at h ⊢
  have := (World.ownsRow.stored h j (encT x)).1
  rw [List.length_set, List.map_set]
  exact this
theorem mem_insert {o : TL} {x : List UInt8} {k : Nat} (y : List UInt8) : y ∈ o.take k ++ x :: o.drop k ↔ y = x ∨ y ∈ o := by
  rw [List.mem_append, List.mem_cons]
  have : y ∈ o ↔ y ∈ o.take k ∨ y ∈ o.drop k := by rw [← List.mem_append, List.take_append_drop]
  rw [this]
  constructor
  · rintro (h | h | h)
    · exact .inr (.inl h)
    · exact .inl h
    · exact .inr (.inr h)
  · rintro (h | h | h)
    · exact .inr (.inl h)
    · exact .inl h
    · exact .inr (.inr h)
/-- what a round of Sort's outer loop finds and leaves -/
structure RiseI (F : TL) (w : World) (v : Value) (wr : World) (i : Nat) (O : TL) : Prop where
  le : i ≤ F.length
  own : OwnS wr w.heap.size v O
  ss : SV O
  mem : ∀ x, x ∈ O ↔ x ∈ F.take i
  len : O.length ≤ i
  below : Below w.heap.size w wr
theorem take_next {F : TL} {i : Nat} (hlt : i < F.length) : F.take (i + 1) = F.take i ++ [F.getD i []] := by rw [List.take_add_one]; simp [hlt]
/-- the place of x, from the end on -/
structure PlaceI (O : TL) (x : List UInt8) (wr wq : World) (k : Nat) : Prop where
  le : k ≤ O.length
  big : ∀ y ∈ O.drop k, ordT x y < 0
  world : Below wr.heap.size wr wq
theorem getD_at {O : TL} {p : Nat} (hp : p < O.length) : O.getD p [] = O[p] := by rw [List.getD_eq_getElem?_getD, List.getElem?_eq_getElem hp]; rfl
theorem PlaceI.step {O : TL} {x : List UInt8} {wr wq : World} {k : Nat} (h : PlaceI O x wr wq (k + 1)) (hx : ordT x (O.getD k []) < 0) (w2 : World) (hw : Below wr.heap.size wr w2) : PlaceI O x wr w2 k := by
  have hk := h.le
  refine ⟨by omega, fun y hy => ?_, hw⟩
  rw [List.drop_eq_getElem_cons (show k < O.length by omega)] at hy
  rcases List.mem_cons.1 hy with e | e
  · rw [e, ← getD_at (show k < O.length by omega)]; exact hx
  · exact h.big y e
theorem RiseI.skip {F O : TL} {w wr w2 : World} {v : Value} {i : Nat} (h : RiseI F w v wr i O) (hlt : i < F.length) (hx : F.getD i [] ∈ O) (hb : Below wr.heap.size wr w2) : RiseI F w v w2 (i + 1) O := by
  refine ⟨hlt, h.own.below hb, h.ss, fun x => ?_, Nat.le_succ_of_le h.len, h.below.trans (hb.mono h.below.size)⟩
  rw [take_next hlt, List.mem_append, List.mem_singleton, ← h.mem]
  refine ⟨Or.inl, fun hh => ?_⟩
  rcases hh with hh | hh
  · exact hh
  · rw [hh]; exact hx
theorem RiseI.put {F O : TL} {w wr w2 : World} {v v2 : Value} {i k : Nat} (h : RiseI F w v wr i O) (hlt : i < F.length) (ht : isT (F.getD i []) = true) (h1 : ∀ y ∈ O.take k, ordT y (F.getD i []) < 0) (h2 : ∀ y ∈ O.drop k, ordT (F.getD i []) y < 0)
    (ho : OwnS w2 w.heap.size v2 (O.take k ++ F.getD i [] :: O.drop k)) (hb : Below w.heap.size w w2) : RiseI F w v2 w2 (i + 1) (O.take k ++ F.getD i [] :: O.drop k) := by
  refine ⟨hlt, ho, h.ss.insert ht h1 h2, fun x => ?_, ?_, hb⟩
  · rw [mem_insert, take_next hlt, List.mem_append, List.mem_singleton, ← h.mem]
    exact or_comm
  · have := h.len
    have e : (O.take k).length + (O.drop k).length = O.length := by rw [← List.length_append, List.take_append_drop]
    rw [List.length_append, List.length_cons]; omega
theorem take_small {O : TL} {x : List UInt8} {p : Nat} (hs : SV O) (hp : p < O.length) (hx : isT x = true) (h : ordT (O.getD p []) x ≤ 0) (hn : O.getD p [] ≠ x) : ∀ y ∈ O.take (p + 1), ordT y x < 0 := by
  rw [getD_at hp] at h hn
  have htp : isT O[p] = true := hs.2 _ (List.getElem_mem hp)
  have hpx : ordT O[p] x < 0 := by
    rcases Int.lt_or_eq_of_le h with h0 | h0
    · exact h0
    · exact absurd (ordT_zero htp hx h0) hn
  intro y hy
  obtain ⟨j, hj, ej⟩ := List.getElem_of_mem hy
  rw [List.length_take] at hj
  rw [List.getElem_take] at ej
  rw [← ej]
  rcases Nat.lt_or_ge j p with h1 | h1
  · have h2 := List.pairwise_iff_getElem.1 hs.1 j p (by omega) hp h1
    by_cases h3 : ordT O[j] x < 0
    · exact h3
    · exfalso
      have h4 : ordT x O[j] ≤ 0 := by have := @ordT_anti x O[j]; omega
      have h5 := ordT_trans hx (show ordT O[p] x ≤ 0 by omega) h4
      have h6 := @ordT_anti O[p] O[j]
      omega
  · have : j = p := by omega
    subst this; exact hpx
/-- the row while it is moved on: a place is free at j -/
structure ShiftI (O R : TL) (k j : Nat) : Prop where
  len : R.length = O.length + 1
  ge : k ≤ j
  le : j ≤ O.length
  low : ∀ t, t < j → R.getD t [] = O.getD t []
  high : ∀ t, j < t → t ≤ O.length → R.getD t [] = O.getD (t - 1) []
theorem getD_set (R : TL) (j t : Nat) (x : List UInt8) (h : j < R.length) : (R.set j x).getD t [] = if t = j then x else R.getD t [] := by
  rw [List.getD_eq_getElem?_getD, List.getElem?_set, List.getD_eq_getElem?_getD]
  by_cases e : j = t
  · subst e; simp [h]
  · rw [if_neg e, if_neg (fun e2 => e e2.symm)]
theorem ShiftI.start (O : TL) (k : Nat) (h : k ≤ O.length) : ShiftI O (O ++ [[]]) k O.length := by
  refine ⟨by simp, h, Nat.le_refl _, fun t ht => ?_, fun t h1 h2 => by omega⟩
  rw [List.getD_eq_getElem?_getD, List.getD_eq_getElem?_getD, List.getElem?_append_left ht]
theorem ShiftI.step {O R : TL} {k j : Nat} (h : ShiftI O R k (j + 1)) (hk : k < j + 1) : ShiftI O (R.set (j + 1) (R.getD j [])) k j := by
  have hle := h.le
  refine ⟨by rw [List.length_set]; exact h.len, by omega, by omega, fun t ht => ?_, fun t h1 h2 => ?_⟩
  · rw [getD_set _ _ _ _ (by rw [h.len]; omega), if_neg (by omega)]; exact h.low t (by omega)
  · rw [getD_set _ _ _ _ (by rw [h.len]; omega)]
    split
    · rename_i e; rw [e]; exact h.low j (by omega)
    · exact h.high t (by omega) h2
theorem ShiftI.done {O R : TL} {k : Nat} (h : ShiftI O R k k) (x : List UInt8) : R.set k x = O.take k ++ x :: O.drop k := by
  have hle := h.le
  have hl := h.len
  have hlt : (O.take k).length = k := by rw [List.length_take]; omega
  apply List.ext_getElem?
  intro t
  rw [List.getElem?_set]
  by_cases e : k = t
  · subst e
    rw [if_pos rfl, if_pos (by omega), List.getElem?_append_right (by omega), hlt, Nat.sub_self]; rfl
  · rw [if_neg e]
    rcases Nat.lt_or_ge t k with h1 | h1
    · rw [List.getElem?_append_left (by omega), List.getElem?_take_of_lt h1]
      have := h.low t h1
      rw [List.getD_eq_getElem?_getD, List.getD_eq_getElem?_getD, List.getElem?_eq_getElem (by omega), List.getElem?_eq_getElem (by omega)] at this
      rw [List.getElem?_eq_getElem (by omega), List.getElem?_eq_getElem (by omega)]
      exact congrArg some this
    · rw [List.getElem?_append_right (by omega), hlt]
      obtain ⟨d, rfl⟩ : ∃ d, t = k + 1 + d := ⟨t - k - 1, by omega⟩
      rw [show k + 1 + d - k = d + 1 from by omega, List.getElem?_cons_succ, List.getElem?_drop]
      by_cases hb : k + 1 + d ≤ O.length
      · have := h.high (k + 1 + d) (by omega) hb
        rw [show k + 1 + d - 1 = k + d from by omega, List.getD_eq_getElem?_getD, List.getD_eq_getElem?_getD, List.getElem?_eq_getElem (by omega), List.getElem?_eq_getElem (by omega)] at this
        rw [List.getElem?_eq_getElem (by omega), List.getElem?_eq_getElem (by omega)]
        exact congrArg some this
      · rw [List.getElem?_eq_none (by omega), List.getElem?_eq_none (by omega)]
/-- how the document's Order ends of two texts of versions -/
theorem rordE_yes {a b : B} (h1 : isT a = true) (h2 : isT b = true) : rordE a b = .returned (.tuple #[.int .i64 (ordT a b), .int .i64 0]) := by
  obtain ⟨v, hv⟩ := isT_some h1
  obtain ⟨u, hu⟩ := isT_some h2
  rw [rordE_some hv hu, ordT_some hv hu]
/-- how Sort ends, the document's and package version's -/
def SortVE (L : TL) (w : World) (e : Ending) (w' : World) : Prop := Below w.heap.size w w' ∧
  (L.all isT = false → e = .returned (.tuple #[.slice none 0 0, .int .i64 70])) ∧
  (L.all isT = true → ∃ a cp R, e = .returned (.tuple #[.slice a R.length cp, .int .i64 0]) ∧ OwnS w' w.heap.size (.slice a R.length cp) R ∧ SV R ∧ ∀ x, x ∈ R ↔ x ∈ L)
/-- the elements of a slice of texts that came in, as its cells hold them -/
def TextsIn (w : World) (b o : Nat) (L : TL) : Prop := ∀ i, i < L.length → w.cell? ⟨b, o + i, none⟩ = some (.string (str (L.getD i [])))
theorem TextsIn.below {w w' : World} {b o B : Nat} {L : TL} (h : TextsIn w b o L) (hb : Below B w w') (hlt : b < B) : TextsIn w' b o L := fun i hi => by rw [hb.cell (by exact hlt)]; exact h i hi
set_option maxHeartbeats 8000000 in
set_option maxRecDepth 100000 in
theorem rsortv_any (b o cap : Nat) (F : TL) (w : World) (hp : 0 < F.length) (hF : F.length ≤ 200) (hb : b < w.heap.size) (hc : TextsIn w b o F) :
    Calls Tryz.prog 6 #[.slice (some ⟨b, o, none⟩) F.length cap] w (SortVE F w) := by
  obtain ⟨i0, hi, hz0, hz1, hz2⟩ := info_parts info_text
  have HC := Lib.hid hc
  clear hc
  go_enter Tryz.func6, Tryz.ntmps6
  go_wp2_with fail
  go_loopw [4, 5, 6, 7, 8, 9] (fun v i _ _ _ _ wr => ∃ (k : Nat) (O : TL), i = .int .i64 k ∧ RiseI F w v wr k O) (fun _ i _ _ _ _ _ => F.length - (intOf i).toNat)
  case atStart => exact ⟨0, [], rfl, Nat.zero_le _, OwnS.nil _ _, SV.nil, fun x => by simp, Nat.zero_le _, Below.refl _ _⟩
  case round =>
    obtain ⟨m, O, rfl, HI⟩ := hrel
    rename World => wr
    have hml := HI.le
    by_cases hlt : m < F.length
    · have hdec : decide (m < F.length) = true := by simpa using hlt
      have hcell := (HC.out.below HI.below hb) m hlt
      have HIT := Lib.hid HI
      have hol : O.length ≤ 200 := by have := HI.len; omega
      have hO : ∃ a cp, u4 = .slice a O.length cp := by
        rcases Nat.eq_zero_or_pos O.length with e | e
        · obtain ⟨_, ⟨rfl, h0⟩ | ⟨g, cp, cur, rfl, _⟩⟩ := HI.own
          · exact ⟨none, 0, by rw [e]⟩
          · exact ⟨_, _, rfl⟩
        · obtain ⟨g, cp, rfl, _⟩ := HI.own.open_ e
          exact ⟨_, _, rfl⟩
      obtain ⟨a, cp, rfl⟩ := hO
      clear HI
      have hmem : F.getD m [] ∈ F := by rw [getD_at hlt]; exact List.getElem_mem hlt
      generalize hx : F.getD m [] = x at *
      have HIS := Lib.hid (rIs_any x wr)
      rcases Bool.eq_false_or_eq_true (isT x) with ht | ht
      rotate_left
      · have HNO : Hid (F.all isT = false) := Lib.hid (by
          rw [Bool.eq_false_iff]; intro e
          have := List.all_eq_true.1 e x hmem
          rw [ht] at this; cases this)
        rw [ht] at HIS
        clear hmem
        go_wp2_with (go_at_call 13; refine HIS.out.mono ?_; rintro e w1 ⟨rfl, hb1⟩)
        go_ret2
        exact ⟨HIT.out.below.trans (hb1.mono HIT.out.below.size), fun _ => rfl, fun h => absurd (h.symm.trans HNO.out) (by decide)⟩
      rw [ht] at HIS
      have HTX := Lib.hid ht
      clear ht hmem
      go_upto_block 2 with (go_at_call 13; refine HIS.out.mono ?_; rintro e w1 ⟨rfl, hb1⟩)
      have HC1 : Hid (∀ wq, Below w1.heap.size w1 wq → wq.cell? ⟨b, o + m, none⟩ = some (.string (str x))) := Lib.hid (fun wq hq => by
        have := (HC.out.below ((HIT.out.below.trans (hb1.mono HIT.out.below.size)).trans (hq.mono (Nat.le_trans HIT.out.below.size hb1.size))) hb) m hlt
        rw [hx] at this; exact this)
      have HOP : Hid (∀ wq, Below w1.heap.size w1 wq → OwnS wq w.heap.size (.slice a O.length cp) O) := Lib.hid (fun wq hq => (HIT.out.own.below hb1).below hq)
      have HB1 := Lib.hid hb1
      clear hcell hb1 HIS
      go_cut [6] from 7 to 80 (fun v6 wx => ∃ k : Nat, v6 = .int .i64 k ∧ k ≤ O.length ∧ Hid (Below w1.heap.size w1 wx) ∧ Hid (∀ y ∈ O.drop k, ordT x y < 0) ∧ Hid (k = 0 ∨ ordT (O.getD (k - 1) []) x ≤ 0))
      case first =>
        go_wp2_with fail
        go_loopw [6, 7, 8] (fun kv _ _ wq => ∃ k : Nat, kv = .int .i64 k ∧ PlaceI O x w1 wq k) (fun kv _ _ _ => (intOf kv).toNat)
        case atStart => exact ⟨O.length, rfl, Nat.le_refl _, by simp, Below.refl _ _⟩
        case round =>
          obtain ⟨k, rfl, HP⟩ := hrel
          rename World => wq
          have hkl := HP.le
          rcases Nat.eq_zero_or_pos k with hk0 | hk0
          · subst hk0
            have HPT := Lib.hid HP
            clear HP
            go_wp2
            go_meet
            case rel => exact ⟨0, rfl, Nat.zero_le _, Lib.hid HPT.out.world, Lib.hid HPT.out.big, Lib.hid (Or.inl rfl)⟩
          · obtain ⟨p, rfl⟩ : ∃ p, k = p + 1 := ⟨k - 1, by omega⟩
            obtain ⟨g, cp', hv, hg0, hgl, hcp, hcm, hcells, hfr⟩ := (HOP.out wq HP.world).open_ (by omega)
            have kc1 := cell_regrown (hcells p (by omega))
            have kc2 := cell_regrown (HC1.out wq HP.world)
            have hpos : decide ((0 : Int) < ((p + 1 : Nat) : Int)) = true := decide_eq_true (by omega)
            have HPT := Lib.hid HP
            have hty : isT (O.getD p []) = true := by rw [getD_at (by omega)]; exact HIT.out.ss.2 _ (List.getElem_mem (by omega))
            have cO : ∀ d os, Calls Tryz.prog 14 #[.string (str (O.getD p [])), .string (str x)] (Go.Sort.grow (redrawn wq d) os) _ := fun d os => Calls.regrown_of ((rOrderT_any (O.getD p []) x _).mono fun _ _ h => ⟨h.1.trans (rordE_yes hty HTX.out), h.2⟩)
            clear HP hcells hfr hty
            simp only [Value.slice.injEq, true_and] at hv
            obtain ⟨rfl, rfl⟩ := hv
            have hpl : p < O.length := by omega
            rcases Classical.em (ordT (O.getD p []) x ≤ 0) with hxy | hxy
            · have hdc : decide (ordT (O.getD p []) x ≤ 0) = true := decide_eq_true hxy
              have HXY := Lib.hid (show p + 1 = 0 ∨ ordT (O.getD (p + 1 - 1) []) x ≤ 0 from Or.inr hxy)
              clear hxy
              generalize ordT (O.getD p []) x = r at *
              generalize O.getD p [] = y at *
              go_wp2_with fail
              refine wp_region_quiet_below (by kernel_rfl) (by kernel_rfl) ?_
              repeat (first | go_big_quiet_step (exact cO _ _) | quiet_step (exact cO _ _))
              refine wpQuiet_nil ?_
              intro _ hw'
              obtain ⟨⟨dq, osq⟩, hw''⟩ := hw'
              subst hw''
              have HBQ := Lib.hid (HPT.out.world.trans ((below_regrown wq dq osq).mono HPT.out.world.size))
              go_wp2_with fail
              go_meet
              case rel => exact ⟨p + 1, rfl, hkl, HBQ, Lib.hid HPT.out.big, HXY⟩
            · have hdc : decide (ordT (O.getD p []) x ≤ 0) = false := decide_eq_false hxy
              have HST := Lib.hid (fun w2 hw => HPT.out.step (show ordT x (O.getD p []) < 0 by have := @ordT_anti x (O.getD p []); omega) w2 hw)
              clear hxy
              generalize ordT (O.getD p []) x = r at *
              generalize O.getD p [] = y at *
              go_wp2_with fail
              refine wp_region_quiet_below (by kernel_rfl) (by kernel_rfl) ?_
              repeat (first | go_big_quiet_step (exact cO _ _) | quiet_step (exact cO _ _))
              refine wpQuiet_nil ?_
              intro _ hw'
              obtain ⟨⟨dq, osq⟩, hw''⟩ := hw'
              subst hw''
              have HBQ := Lib.hid (HPT.out.world.trans ((below_regrown wq dq osq).mono HPT.out.world.size))
              go_wp2_with fail
              go_roundw
              case rel => exact ⟨p, by go_num, HST.out _ HBQ.out⟩
              case measure => simp [intOf]
      case rest =>
        obtain ⟨k, rfl, hkl, HBX, HBIG, HSM⟩ := hcut
        have HXW : Hid (∀ wq, Below wc.heap.size wc wq → Below w1.heap.size w1 wq) := Lib.hid (fun wq hq => HBX.out.trans (hq.mono HBX.out.size))
        have HWW : Hid (∀ wq, Below w1.heap.size w1 wq → Below w.heap.size w wq) := Lib.hid (fun wq hq => (HIT.out.below.trans (HB1.out.mono HIT.out.below.size)).trans (hq.mono (Nat.le_trans HIT.out.below.size HB1.out.size)))
        go_upto_region 12 with fail
        go_cut [56] from 7 to 80 (fun v56 wx => ∃ (bb : Bool) (q2 : Nat), v56 = .bool bb ∧ wx = wc.drewN q2 ∧ Hid (bb = true → x ∈ O) ∧ Hid (bb = false → ∀ y ∈ O.take k, ordT y x < 0))
        case first =>
          rcases Nat.eq_zero_or_pos k with hk0 | hk0
          · subst hk0
            go_quiet (fail)
            go_wp2
            go_meet
            case rel => exact ⟨false, _, rfl, rfl, Lib.hid (fun h => by cases h), Lib.hid (fun _ y hy => by simp at hy)⟩
          · obtain ⟨p, rfl⟩ : ∃ p, k = p + 1 := ⟨k - 1, by omega⟩
            obtain ⟨g, cp', hv, hg0, hgl, hcp, hcm, hcells, hfr⟩ := (HOP.out wc HBX.out).open_ (by omega)
            have hco := hcells p (by omega)
            have hcx := HC1.out wc HBX.out
            have hpos : decide ((0 : Int) < ((p + 1 : Nat) : Int)) = true := decide_eq_true (by omega)
            have HNX : ordT (O.getD p []) x ≤ 0 := by rcases HSM.out with h | h; omega; exact h
            have HT := Lib.hid (fun (hn : O.getD p [] ≠ x) => take_small HIT.out.ss (by omega) HTX.out HNX hn)
            have HMEM := Lib.hid (fun (hn : O.getD p [] = x) => (by rw [← hn, getD_at (show p < O.length by omega)]; exact List.getElem_mem _ : x ∈ O))
            have HEQ := Lib.hid (str_beq (O.getD p []) x)
            clear hcells hfr HNX
            simp only [Value.slice.injEq, true_and] at hv
            obtain ⟨rfl, rfl⟩ := hv
            generalize O.getD p [] = y at *
            go_quiet (fail)
            go_wp2
            go_meet
            case rel =>
              refine ⟨_, _, rfl, rfl, Lib.hid fun h => ?_, Lib.hid fun h => ?_⟩
              · rw [HEQ.out] at h; exact HMEM.out (of_decide_eq_true h)
              · rw [HEQ.out] at h; exact HT.out (of_decide_eq_false h)
        case rest =>
          obtain ⟨bb, q2, rfl, rfl, HIN, HLOW⟩ := hcut
          cases bb with
          | true =>
            have HSK := Lib.hid (HIT.out.skip hlt (by rw [hx]; exact HIN.out rfl) (HB1.out.trans ((below_drewN HBX.out q2).mono HB1.out.size)))
            go_wp2
            go_roundw
            case rel => exact ⟨m + 1, O, by go_num, HSK.out⟩
            case measure => simp [intOf]; omega
          | false =>
            have HPUT := Lib.hid (fun (w2 : World) (v2 : Value) ho hb => HIT.out.put (w2 := w2) (v2 := v2) (k := k) hlt (by rw [hx]; exact HTX.out) (by rw [hx]; exact HLOW.out rfl) (by rw [hx]; exact HBIG.out) ho hb)
            have HCX := Lib.hid (fun (wq : World) (hb2 : Below w.heap.size w wq) => (HC.out.below hb2 hb) m hlt)
            have hownd : (wc.drewN q2).ownsRow w.heap.size 9 1 (.slice a O.length cp) O.length (O.map encT) := HOP.out _ (below_drewN HBX.out q2)
            have HBD := Lib.hid (HWW.out _ (below_drewN HBX.out q2))
            have HST := Lib.hid (ShiftI.start O k hkl)
            have HSTEP := Lib.hid (fun (R : TL) (j : Nat) (h : ShiftI O R k (j + 1)) hk => h.step hk)
            have HDONE := Lib.hid (fun (R : TL) (h : ShiftI O R k k) => h.done x)
            rw [hx] at HCX HPUT
            generalize wc.drewN q2 = wd at *
            go_wp2_with (at_builtin; refine wpList_append_own _ rfl _ _ 22 rfl w.heap.size 9 i0 (.string ⟨#[]⟩) 1 16 Tryz.underlying22 hi hz0 hz1 hz2 rfl (by decide) _ _ _ rfl (hownd.alloc _) ⟨wd.heap.size, 0, none⟩ 1 1 [encT []] rfl rfl ?c1 ?c2 ?c3 ?c4 ?c5 ?_)
            case c1 => exact fun _ _ h => h
            case c2 => simp [Value.oneCell', encT]
            case c3 => unfold maxLen; omega
            case c4 => omega
            case c5 => have := HBD.out.size; simp; omega
            intro v' w4 hown4 hg4 _
            have HB4 := Lib.hid ((HBD.out.alloc HBD.out.size _).grown hg4 (by have := HBD.out.size; simp; omega) (fun j hj => (World.ownsRow.lt hownd j hj).1))
            have hO4 := snocS hown4 rfl
            obtain ⟨g4, cp4, hv4, hg40, hgl4, hcp4, hcm4, -, -⟩ := hO4.open_ (by simp)
            rw [show (O ++ [([] : List UInt8)]).length = O.length + 1 from by simp] at hv4
            subst hv4
            have HO4 := Lib.hid hO4
            clear hO4 hown4 hg4 hownd
            go_wp2
            go_loopw [9] (fun jv wq => ∃ (j : Nat) (R : TL), jv = .int .i64 j ∧ ShiftI O R k j ∧ wq.ownsRow w.heap.size 9 1 (.slice (some ⟨g4, 0, none⟩) (O.length + 1) cp4) (O.length + 1) (R.map encT) ∧ Below w.heap.size w wq) (fun jv _ => (intOf jv).toNat)
            case atStart => exact ⟨O.length, O ++ [[]], by go_num, HST.out, by have h := HO4.out; unfold OwnS at h; rw [show (O ++ [([] : List UInt8)]).length = O.length + 1 from by simp] at h; exact h, HB4.out⟩
            case round =>
              obtain ⟨j, R, rfl, HJ, hown5, hb5⟩ := hrel
              rename World => wq
              have hjl := HJ.le
              have hjg := HJ.ge
              have hRl := HJ.len
              have HBW := Lib.hid hb5
              have hfz := fun i => hown5.frozenAt i
              by_cases hjk : k < j
              · obtain ⟨p, rfl⟩ : ∃ p, j = p + 1 := ⟨j - 1, by omega⟩
                have hdk : decide (k < p + 1) = true := decide_eq_true hjk
                have hcp5 : wq.cell? ⟨g4, p, none⟩ = some (.string (str (R.getD p []))) := by
                  rw [hown5.cellAt p (by omega)]
                  simp [show p < R.length from by omega]; rfl
                have hcq5 : wq.cell? ⟨g4, p + 1, none⟩ = some (.string (str (R.getD (p + 1) []))) := by
                  rw [hown5.cellAt (p + 1) (by omega)]
                  simp [show p + 1 < R.length from by omega]; rfl
                have hst := (hown5.stored (p + 1) (encT (R.getD p []))).1
                rw [← List.map_set] at hst
                have HNX := Lib.hid (HSTEP.out R p HJ hjk)
                have HS5 := Lib.hid hst
                have hf1 := hfz (p + 1)
                clear HJ hst hown5 hfz
                generalize R.getD p [] = z at *
                go_wp2
                go_roundw
                case rel => exact ⟨p, _, by go_num, HNX.out, HS5.out, HBW.out.setCell hg40 _⟩
                case measure => simp [intOf]
              · obtain rfl : j = k := by omega
                have hdk : decide (j < j) = false := decide_eq_false hjk
                have hcx := HCX.out wq hb5
                have hck : wq.cell? ⟨g4, j, none⟩ = some (.string (str (R.getD j []))) := by
                  rw [hown5.cellAt j (by omega)]
                  simp [show j < R.length from by omega]; rfl
                have hst := (hown5.stored j (encT x)).1
                rw [← List.map_set, HDONE.out R HJ] at hst
                have HS5 := Lib.hid hst
                have hf1 := hfz j
                have hlen : (O.take j ++ x :: O.drop j).length = O.length + 1 := by rw [List.length_append, List.length_cons, List.length_take, List.length_drop]; omega
                have HLEN := Lib.hid hlen
                clear HJ hst hown5 hfz hlen
                go_wp2
                go_roundw
                case rel => exact ⟨m + 1, _, by go_num, HPUT.out _ _ (by unfold OwnS; rw [HLEN.out]; exact HS5.out) (HBW.out.setCell hg40 _)⟩
                case measure => simp [intOf]; omega
    · have hdec : decide (m < F.length) = false := by simpa using hlt
      have hke : m = F.length := by omega
      subst hke
      have HA : Hid (F.all isT = true) := Lib.hid (List.all_eq_true.2 fun y hy => HI.ss.2 y ((HI.mem y).2 (by rw [List.take_length]; exact hy)))
      have HM : Hid (∀ y, y ∈ O ↔ y ∈ F) := Lib.hid (fun y => by rw [HI.mem, List.take_length])
      have hO : ∃ a cp, u4 = .slice a O.length cp := by
        rcases Nat.eq_zero_or_pos O.length with e | e
        · obtain ⟨_, ⟨rfl, h0⟩ | ⟨g, cp, cur, rfl, _⟩⟩ := HI.own
          · exact ⟨none, 0, by rw [e]⟩
          · exact ⟨_, _, rfl⟩
        · obtain ⟨g, cp, rfl, _⟩ := HI.own.open_ e
          exact ⟨_, _, rfl⟩
      obtain ⟨a, cp, rfl⟩ := hO
      have HO := Lib.hid HI.own
      have HS := Lib.hid HI.ss
      have HBW := Lib.hid HI.below
      clear HI
      go_wp2
      go_ret2
      exact ⟨HBW.out, fun h => absurd (HA.out.symm.trans h) (by decide), fun _ => ⟨a, cp, O, rfl, HO.out, HS.out, HM.out⟩⟩
/-- of no text at all -/
theorem rsortv_none (a : Option Addr) (cap : Nat) (w : World) :
    Calls Tryz.prog 6 #[.slice a 0 cap] w fun e w' => e = .returned (.tuple #[.slice none 0 0, .int .i64 0]) ∧ w = w' := by
  go_enter Tryz.func6, Tryz.ntmps6
  go_wp2_with fail
  refine wp_loop_rounds 1 ?_
  rw [rounds_succ]
  go_wp2_with fail
  go_ret2
  exact ⟨rfl, rfl⟩
end VerC
end Go.Proofs.YtenopliclpnkhaaGreatDoor
