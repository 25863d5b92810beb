/-
  The document's Rising: texts put at their place, one by one; and its Sort.
-/
import Derived.Test.YtienlkbokafndaaDoorNameSort
import Derived.Deep.CutRange
import Derived.Deep.CutBlock
namespace Go.Proofs.YtienlkbokafndaaDoor
open Go.RowKit
namespace NameC
open NameM StrC Go.Sort
set_option linter.unusedSimpArgs false

theorem gt_str (a b : List UInt8) : (!(Op.bytesLess (str a).toList (str b).toList || (str a).toList == (str b).toList)) = decide (b < a) := by
  rw [bytesLess_eq, str_beq, ByteArray.toList_eq, ByteArray.toList_eq, str_list, str_list, Bool.eq_iff_iff]
  simp only [Bool.not_eq_true', Bool.or_eq_false_iff, decide_eq_false_iff_not, decide_eq_true_eq]
  constructor
  · rintro ⟨h1, h2⟩
    exact lt_or (List.not_lt.1 h1) (fun e => h2 e.symm)
  · intro h
    exact ⟨fun h1 => List.lt_irrefl _ (List.lt_trans h h1), fun e => lt_ne h e.symm⟩
/-- what a round of Rising's outer loop finds and leaves -/
structure RiseI (F : TL) (w : World) (v : Value) (wr : World) (i : Nat) (O : TL) : Prop where
  le : i ≤ F.length
  own : OwnS wr w.heap.size v O
  ss : SS O
  mem : ∀ x, x ∈ O ↔ x ∈ F.take i
  len : O.length ≤ i
  below : Below w.heap.size w wr
/-- the place of x, from the end on -/
structure PlaceI (O : TL) (x : List UInt8) (wr wq : World) (k : Nat) : Prop where
  le : k ≤ O.length
  big : ∀ y ∈ O.drop k, x < y
  world : ∃ q, wq = wr.drewN q
theorem PlaceI.step {O : TL} {x : List UInt8} {wr wq : World} {k : Nat} (h : PlaceI O x wr wq (k + 1)) (hx : x < O.getD k []) (w2 : World) (hw : ∃ q, w2 = wr.drewN q) : PlaceI O x wr w2 k := by
  have hk := h.le
  refine ⟨by omega, fun y hy => ?_, hw⟩
  rw [List.drop_eq_getElem_cons (show k < O.length by omega)] at hy
  rcases List.mem_cons.1 hy with e | e
  · rw [e]; have : O.getD k [] = O[k] := by rw [List.getD_eq_getElem?_getD, List.getElem?_eq_getElem (show k < O.length by omega)]; rfl
    rw [← this]; exact hx
  · exact h.big y e

theorem RiseI.skip {F O : TL} {w wr : World} {v : Value} {i : Nat} (h : RiseI F w v wr i O) (hlt : i < F.length) (hx : F.getD i [] ∈ O) (q : Nat) : RiseI F w v (wr.drewN q) (i + 1) O := by
  refine ⟨hlt, h.own, h.ss, fun x => ?_, Nat.le_succ_of_le h.len, below_drewN h.below q⟩
  have e : F.take (i + 1) = F.take i ++ [F.getD i []] := by rw [List.take_add_one]; simp [hlt]
  rw [e, List.mem_append, List.mem_singleton, ← h.mem]
  refine ⟨Or.inl, fun hh => ?_⟩
  rcases hh with hh | hh
  · exact hh
  · rw [hh]; exact hx
theorem RiseI.put {F O : TL} {w wr w2 : World} {v v2 : Value} {i k : Nat} (h : RiseI F w v wr i O) (hlt : i < F.length) (h1 : ∀ y ∈ O.take k, y < F.getD i []) (h2 : ∀ y ∈ O.drop k, F.getD i [] < y)
    (ho : OwnS w2 w.heap.size v2 (O.take k ++ F.getD i [] :: O.drop k)) (hb : Below w.heap.size w w2) : RiseI F w v2 w2 (i + 1) (O.take k ++ F.getD i [] :: O.drop k) := by
  refine ⟨hlt, ho, h.ss.insert h1 h2, fun x => ?_, ?_, hb⟩
  · have e : F.take (i + 1) = F.take i ++ [F.getD i []] := by rw [List.take_add_one]; simp [hlt]
    rw [mem_insert, e, List.mem_append, List.mem_singleton, ← h.mem]
    exact or_comm
  · have := h.len
    have e : (O.take k).length + (O.drop k).length = O.length := by rw [← List.length_append, List.take_append_drop]
    rw [List.length_append, List.length_cons]; omega
theorem take_small {O : TL} {x : List UInt8} {p : Nat} (hs : SS O) (hp : p < O.length) (h : ¬ x < O.getD p []) (hn : O.getD p [] ≠ x) : ∀ y ∈ O.take (p + 1), y < x := by
  have e : O.getD p [] = O[p] := by rw [List.getD_eq_getElem?_getD, List.getElem?_eq_getElem hp]; rfl
  rw [e] at h hn
  have hpx : O[p] < x := lt_or (List.not_lt.1 h) hn
  intro y hy
  obtain ⟨j, hj, ej⟩ := List.getElem_of_mem hy
  rw [List.length_take] at hj
  rw [List.getElem_take] at ej
  rw [← ej]
  rcases Nat.lt_or_ge j p with h1 | h1
  · exact List.lt_trans (List.pairwise_iff_getElem.1 hs j p (by omega) hp h1) hpx
  · have : j = p := by omega
    subst this; exact hpx
/-- the row while it is moved on: a place is free at j -/
structure ShiftI (O R : TL) (k j : Nat) : Prop where
  len : R.length = O.length + 1
  ge : k ≤ j
  le : j ≤ O.length
  low : ∀ t, t < j → R.getD t [] = O.getD t []
  high : ∀ t, j < t → t ≤ O.length → R.getD t [] = O.getD (t - 1) []
theorem getD_set (R : TL) (j t : Nat) (x : List UInt8) (h : j < R.length) : (R.set j x).getD t [] = if t = j then x else R.getD t [] := by
  rw [List.getD_eq_getElem?_getD, List.getElem?_set, List.getD_eq_getElem?_getD]
  by_cases e : j = t
  · subst e; simp [h]
  · rw [if_neg e, if_neg (fun e2 => e e2.symm)]
theorem ShiftI.start (O : TL) (k : Nat) (h : k ≤ O.length) : ShiftI O (O ++ [[]]) k O.length := by
  refine ⟨by simp, h, Nat.le_refl _, fun t ht => ?_, fun t h1 h2 => by omega⟩
  rw [List.getD_eq_getElem?_getD, List.getD_eq_getElem?_getD, List.getElem?_append_left ht]
theorem ShiftI.step {O R : TL} {k j : Nat} (h : ShiftI O R k (j + 1)) (hk : k < j + 1) : ShiftI O (R.set (j + 1) (R.getD j [])) k j := by
  have hle := h.le
  refine ⟨by rw [List.length_set]; exact h.len, by omega, by omega, fun t ht => ?_, fun t h1 h2 => ?_⟩
  · rw [getD_set _ _ _ _ (by rw [h.len]; omega), if_neg (by omega)]; exact h.low t (by omega)
  · rw [getD_set _ _ _ _ (by rw [h.len]; omega)]
    split
    · rename_i e; rw [e]; exact h.low j (by omega)
    · exact h.high t (by omega) h2
theorem ShiftI.done {O R : TL} {k : Nat} (h : ShiftI O R k k) (x : List UInt8) : R.set k x = O.take k ++ x :: O.drop k := by
  have hle := h.le
  have hl := h.len
  have hlt : (O.take k).length = k := by rw [List.length_take]; omega
  apply List.ext_getElem?
  intro t
  rw [List.getElem?_set]
  by_cases e : k = t
  · subst e
    rw [if_pos rfl, if_pos (by omega), List.getElem?_append_right (by omega), hlt, Nat.sub_self]; rfl
  · rw [if_neg e]
    rcases Nat.lt_or_ge t k with h1 | h1
    · rw [List.getElem?_append_left (by omega), List.getElem?_take_of_lt h1]
      have := h.low t h1
      rw [List.getD_eq_getElem?_getD, List.getD_eq_getElem?_getD, List.getElem?_eq_getElem (by omega), List.getElem?_eq_getElem (by omega)] at this
      rw [List.getElem?_eq_getElem (by omega), List.getElem?_eq_getElem (by omega)]
      exact congrArg some this
    · rw [List.getElem?_append_right (by omega), hlt]
      obtain ⟨d, rfl⟩ : ∃ d, t = k + 1 + d := ⟨t - k - 1, by omega⟩
      rw [show k + 1 + d - k = d + 1 from by omega, List.getElem?_cons_succ, List.getElem?_drop]
      by_cases hb : k + 1 + d ≤ O.length
      · have := h.high (k + 1 + d) (by omega) hb
        rw [show k + 1 + d - 1 = k + d from by omega, List.getD_eq_getElem?_getD, List.getD_eq_getElem?_getD, List.getElem?_eq_getElem (by omega), List.getElem?_eq_getElem (by omega)] at this
        rw [List.getElem?_eq_getElem (by omega), List.getElem?_eq_getElem (by omega)]
        exact congrArg some this
      · rw [List.getElem?_eq_none (by omega), List.getElem?_eq_none (by omega)]
/-- a store into one's own row of texts -/
theorem OwnS.set {w : World} {B g cp : Nat} {l : TL} (h : OwnS w B (.slice (some ⟨g, 0, none⟩) l.length cp) l) (j : Nat) (x : List UInt8) : OwnS (w.setCell ⟨g, j, none⟩ (.string (str x))) B (.slice (some ⟨g, 0, none⟩) (l.set j x).length cp) (l.set j x) := by
  unfold OwnS at h ⊢
  have := (World.ownsRow.stored h j (encStr x)).1
  rw [List.length_set, List.map_set]
  exact this

set_option maxHeartbeats 8000000 in
set_option maxRecDepth 100000 in
theorem rising_any (b o cap : Nat) (F : TL) (w : World) (hp : 0 < F.length) (hF : F.length ≤ 200) (hb : b < w.heap.size) (hc : TextsIn w b o F) :
    Calls Tryd.prog 32 #[.slice (some ⟨b, o, none⟩) F.length cap] w fun e w' => ∃ v, e = .returned v ∧ OwnS w' w.heap.size v (rise F) ∧ Below w.heap.size w w' := by
  obtain ⟨i0, hi, hz0, hz1, hz2⟩ := info_parts info_text
  have HC := Lib.hid hc
  clear hc
  go_enter Tryd.func32, Tryd.ntmps32
  go_wp2_with fail
  go_loopw [3, 4, 5, 6] (fun v i _ _ wr => ∃ (k : Nat) (O : TL), i = .int .i64 k ∧ RiseI F w v wr k O) (fun _ i _ _ _ => F.length - (intOf i).toNat)
  case atStart => exact ⟨0, [], rfl, Nat.zero_le _, OwnS.nil _ _, List.Pairwise.nil, fun x => by simp, Nat.zero_le _, Below.refl _ _⟩
  case round =>
    obtain ⟨m, O, rfl, HI⟩ := hrel
    rename World => wr
    have hml := HI.le
    by_cases hlt : m < F.length
    · have hdec : decide (m < F.length) = true := by simpa using hlt
      have hcell := (HC.out.below HI.below hb) m hlt
      have HIT := Lib.hid HI
      have hol : O.length ≤ 200 := by have := HI.len; omega
      have hO : ∃ a cp, u3 = .slice a O.length cp := by
        rcases Nat.eq_zero_or_pos O.length with e | e
        · obtain ⟨_, ⟨rfl, h0⟩ | ⟨g, cp, cur, rfl, _⟩⟩ := HI.own
          · exact ⟨none, 0, by rw [e]⟩
          · exact ⟨_, _, rfl⟩
        · obtain ⟨g, cp, rfl, _⟩ := HI.own.open_ e
          exact ⟨_, _, rfl⟩
      obtain ⟨a, cp, rfl⟩ := hO
      have HOP := Lib.hid (fun hp => HI.own.open_ hp)
      have HX := Lib.hid (show F.getD m [] = F.getD m [] from rfl)
      clear HI
      generalize hx : F.getD m [] = x at *
      go_upto_block 2 with fail
      go_cut [5] from 7 to 70 (fun v5 wx => ∃ k q : Nat, v5 = .int .i64 k ∧ k ≤ O.length ∧ wx = wr.drewN q ∧ Hid (∀ y ∈ O.drop k, x < y) ∧ Hid (k = 0 ∨ ¬ x < O.getD (k - 1) []))
      case first =>
        go_wp2_with fail
        go_loopw [5] (fun kv wq => ∃ k : Nat, kv = .int .i64 k ∧ PlaceI O x wr wq k) (fun kv _ => (intOf kv).toNat)
        case atStart => exact ⟨O.length, rfl, Nat.le_refl _, by simp, 0, rfl⟩
        case round =>
          obtain ⟨k, rfl, HP⟩ := hrel
          rename World => wq
          have hkl := HP.le
          obtain ⟨q, rfl⟩ := HP.world
          rcases Nat.eq_zero_or_pos k with hk0 | hk0
          · subst hk0
            have HPT := Lib.hid HP
            clear HP
            go_wp2
            go_quiet (fail)
            go_wp2
            go_meet
            case rel => exact ⟨0, _, rfl, Nat.zero_le _, by simp; rfl, Lib.hid HPT.out.big, Lib.hid (Or.inl rfl)⟩
          · obtain ⟨p, rfl⟩ : ∃ p, k = p + 1 := ⟨k - 1, by omega⟩
            obtain ⟨g, cp', hv, hg0, hgl, hcp, hcm, hcells, hfr⟩ := HOP.out (by omega)
            have hco := hcells p (by omega)
            have hpos : decide ((0 : Int) < ((p + 1 : Nat) : Int)) = true := decide_eq_true (by omega)
            have HPT := Lib.hid HP
            have HCS := Lib.hid hcells
            have HFR := Lib.hid hfr
            clear HP hcells hfr
            simp only [Value.slice.injEq, true_and] at hv
            obtain ⟨rfl, rfl⟩ := hv
            rcases Classical.em (x < O.getD p []) with hxy | hxy
            · have hgt : (!(Op.bytesLess (str (O.getD p [])).toList (str x).toList || (str (O.getD p [])).toList == (str x).toList)) = true := by rw [gt_str]; exact decide_eq_true hxy
              have HST := Lib.hid (fun w2 hw => HPT.out.step hxy w2 hw)
              generalize O.getD p [] = y at *
              go_wp2
              go_quiet (fail)
              go_wp2
              go_roundw
              case rel => exact ⟨p, by go_num, HST.out _ ⟨_, rfl⟩⟩
              case measure => simp [intOf]
            · have hgt : (!(Op.bytesLess (str (O.getD p [])).toList (str x).toList || (str (O.getD p [])).toList == (str x).toList)) = false := by rw [gt_str]; exact decide_eq_false hxy
              have HXY := Lib.hid (show p + 1 = 0 ∨ ¬ x < O.getD (p + 1 - 1) [] from Or.inr hxy)
              clear hxy
              generalize O.getD p [] = y at *
              go_wp2
              go_quiet (fail)
              go_wp2
              go_meet
              case rel => exact ⟨p + 1, _, rfl, hkl, by simp; rfl, Lib.hid HPT.out.big, HXY⟩
      case rest =>
        obtain ⟨k, q, rfl, hkl, rfl, HBIG, HSM⟩ := hcut
        go_upto_region 8 with fail
        go_cut [44] from 7 to 70 (fun v44 wx => ∃ (bb : Bool) (q2 : Nat), v44 = .bool bb ∧ wx = wr.drewN q2 ∧ Hid (bb = true → x ∈ O) ∧ Hid (bb = false → ∀ y ∈ O.take k, y < x))
        case first =>
          rcases Nat.eq_zero_or_pos k with hk0 | hk0
          · subst hk0
            go_quiet (fail)
            go_wp2
            go_meet
            case rel => exact ⟨false, _, rfl, rfl, Lib.hid (fun h => by cases h), Lib.hid (fun _ y hy => by simp at hy)⟩
          · obtain ⟨p, rfl⟩ : ∃ p, k = p + 1 := ⟨k - 1, by omega⟩
            obtain ⟨g, cp', hv, hg0, hgl, hcp, hcm, hcells, hfr⟩ := HOP.out (by omega)
            have hco := hcells p (by omega)
            have hpos : decide ((0 : Int) < ((p + 1 : Nat) : Int)) = true := decide_eq_true (by omega)
            have HNX : ¬ x < O.getD p [] := by rcases HSM.out with h | h; omega; exact h
            have HT := Lib.hid (fun (hn : O.getD p [] ≠ x) => take_small HIT.out.ss (by omega) HNX hn)
            have HMEM := Lib.hid (fun (hn : O.getD p [] = x) => (by rw [← hn, List.getD_eq_getElem?_getD, List.getElem?_eq_getElem (show p < O.length by omega)]; exact List.getElem_mem _ : x ∈ O))
            have HEQ := Lib.hid (str_beq (O.getD p []) x)
            clear hcells hfr HNX
            simp only [Value.slice.injEq, true_and] at hv
            obtain ⟨rfl, rfl⟩ := hv
            generalize O.getD p [] = y at *
            go_quiet (fail)
            go_wp2
            go_meet
            case rel =>
              refine ⟨_, _, rfl, rfl, Lib.hid fun h => ?_, Lib.hid fun h => ?_⟩
              · rw [HEQ.out] at h; exact HMEM.out (of_decide_eq_true h)
              · rw [HEQ.out] at h; exact HT.out (of_decide_eq_false h)
        case rest =>
          obtain ⟨bb, q2, rfl, rfl, HIN, HLOW⟩ := hcut
          cases bb with
          | true =>
            have HSK := Lib.hid (HIT.out.skip hlt (by rw [hx]; exact HIN.out rfl) q2)
            go_wp2
            go_roundw
            case rel => exact ⟨m + 1, O, by go_num, HSK.out⟩
            case measure => simp [intOf]; omega
          | false =>
            have HPUT := Lib.hid (fun (w2 : World) (v2 : Value) ho hb => HIT.out.put (w2 := w2) (v2 := v2) (k := k) hlt (by rw [hx]; exact HLOW.out rfl) (by rw [hx]; exact HBIG.out) ho hb)
            have HCX := Lib.hid (fun (wq : World) (hb2 : Below w.heap.size w wq) => (HC.out.below hb2 hb) m hlt)
            have hownd : (wr.drewN q2).ownsRow w.heap.size 9 1 (.slice a O.length cp) O.length (O.map encStr) := HIT.out.own
            have HBD := Lib.hid (below_drewN HIT.out.below q2)
            have HST := Lib.hid (ShiftI.start O k hkl)
            have HSTEP := Lib.hid (fun (R : TL) (j : Nat) (h : ShiftI O R k (j + 1)) hk => h.step hk)
            have HDONE := Lib.hid (fun (R : TL) (h : ShiftI O R k k) => h.done x)
            rw [hx] at HCX HPUT
            clear hcell
            generalize wr.drewN q2 = wd at *
            go_wp2_with (at_builtin; refine wpList_append_own _ rfl _ _ 31 rfl w.heap.size 9 i0 (.string ⟨#[]⟩) 1 16 Tryd.underlying31 hi hz0 hz1 hz2 rfl (by decide) _ _ _ rfl (hownd.alloc _) ⟨wd.heap.size, 0, none⟩ 1 1 [encStr []] rfl rfl ?c1 ?c2 ?c3 ?c4 ?c5 ?_)
            first | (case c1 => exact cell_one_new _ _ _) | skip
            case c2 => simp [Value.oneCell']
            case c3 => unfold maxLen; omega
            case c4 => omega
            case c5 => have := HBD.out.size; simp; omega
            intro v' w4 hown4 hg4 _
            have HB4 := Lib.hid ((HBD.out.alloc HBD.out.size _).grown hg4 (by have := HBD.out.size; simp; omega) (fun j hj => (World.ownsRow.lt hownd j hj).1))
            have hO4 := snocS hown4 rfl
            obtain ⟨g4, cp4, hv4, hg40, hgl4, hcp4, hcm4, -, -⟩ := hO4.open_ (by simp)
            rw [show (O ++ [([] : List UInt8)]).length = O.length + 1 from by simp] at hv4
            subst hv4
            have HO4 := Lib.hid hO4
            clear hO4 hown4 hg4 hownd
            go_wp2
            go_loopw [6] (fun jv wq => ∃ (j : Nat) (R : TL), jv = .int .i64 j ∧ ShiftI O R k j ∧ wq.ownsRow w.heap.size 9 1 (.slice (some ⟨g4, 0, none⟩) (O.length + 1) cp4) (O.length + 1) (R.map encStr) ∧ Below w.heap.size w wq) (fun jv _ => (intOf jv).toNat)
            case atStart => exact ⟨O.length, O ++ [[]], by go_num, HST.out, by have h := HO4.out; unfold OwnS at h; rw [show (O ++ [([] : List UInt8)]).length = O.length + 1 from by simp] at h; exact h, HB4.out⟩
            case round =>
              obtain ⟨j, R, rfl, HJ, hown5, hb5⟩ := hrel
              rename World => wq
              have hjl := HJ.le
              have hjg := HJ.ge
              have hRl := HJ.len
              have HBW := Lib.hid hb5
              have hfz := fun i => hown5.frozenAt i
              by_cases hjk : k < j
              · obtain ⟨p, rfl⟩ : ∃ p, j = p + 1 := ⟨j - 1, by omega⟩
                have hdk : decide (k < p + 1) = true := decide_eq_true hjk
                have hcp5 : wq.cell? ⟨g4, p, none⟩ = some (.string (str (R.getD p []))) := by
                  rw [hown5.cellAt p (by omega)]
                  simp [show p < R.length from by omega]; rfl
                have hcq5 : wq.cell? ⟨g4, p + 1, none⟩ = some (.string (str (R.getD (p + 1) []))) := by
                  rw [hown5.cellAt (p + 1) (by omega)]
                  simp [show p + 1 < R.length from by omega]; rfl
                have hst := (hown5.stored (p + 1) (encStr (R.getD p []))).1
                rw [← List.map_set] at hst
                have HNX := Lib.hid (HSTEP.out R p HJ hjk)
                have HS5 := Lib.hid hst
                have hf1 := hfz (p + 1)
                clear HJ hst hown5 hfz
                generalize R.getD p [] = z at *
                go_wp2
                go_roundw
                case rel => exact ⟨p, _, by go_num, HNX.out, HS5.out, HBW.out.setCell hg40 _⟩
                case measure => simp [intOf]
              · obtain rfl : j = k := by omega
                have hdk : decide (j < j) = false := decide_eq_false hjk
                have hcx := HCX.out wq hb5
                have hck : wq.cell? ⟨g4, j, none⟩ = some (.string (str (R.getD j []))) := by
                  rw [hown5.cellAt j (by omega)]
                  simp [show j < R.length from by omega]; rfl
                have hst := (hown5.stored j (encStr x)).1
                rw [← List.map_set, HDONE.out R HJ] at hst
                have HS5 := Lib.hid hst
                have hf1 := hfz j
                have hlen : (O.take j ++ x :: O.drop j).length = O.length + 1 := by rw [List.length_append, List.length_cons, List.length_take, List.length_drop]; omega
                have HLEN := Lib.hid hlen
                clear HJ hst hown5 hfz hlen
                go_wp2
                go_roundw
                case rel => exact ⟨m + 1, _, by go_num, HPUT.out _ _ (by unfold OwnS; rw [HLEN.out]; exact HS5.out) (HBW.out.setCell hg40 _)⟩
                case measure => simp [intOf]; omega
    · have hdec : decide (m < F.length) = false := by simpa using hlt
      have hke : m = F.length := by omega
      subst hke
      have HR := Lib.hid (rise_eq (l := F) HI.ss (fun x => by rw [HI.mem, List.take_length]))
      have HO := Lib.hid HI.own
      have HBW := Lib.hid HI.below
      clear HI
      go_wp2
      go_ret
      exact ⟨_, rfl, by rw [← HR.out]; exact HO.out, HBW.out⟩

theorem rising_none (a : Option Addr) (cap : Nat) (w : World) :
    Calls Tryd.prog 32 #[.slice a 0 cap] w fun e w' => e = .returned (.slice none 0 0) ∧ w = w' := by
  go_enter Tryd.func32, Tryd.ntmps32
  go_wp2_with fail
  refine wp_loop_rounds 1 ?_
  rw [rounds_succ]
  go_wp2_with fail
  go_ret
  exact ⟨rfl, rfl⟩
theorem rsort_none (a : Option Addr) (cap : Nat) (w : World) :
    Calls Tryd.prog 23 #[.slice a 0 cap] w fun e w' => e = .returned (.tuple #[.slice none 0 0, .int .i64 0]) ∧ w = w' := by
  go_enter Tryd.func23, Tryd.ntmps23
  go_wp2_with fail
  refine wp_loop_rounds 1 ?_
  rw [rounds_succ]
  go_wp2_with (go_at_call 32; refine (rising_none _ _ _).mono ?_; rintro e w' ⟨rfl, rfl⟩)
  go_ret2
  exact ⟨rfl, rfl⟩
set_option maxHeartbeats 4000000 in
set_option maxRecDepth 100000 in
theorem rsort_some (b o cap : Nat) (L : TL) (w : World) (hp : 0 < L.length) (hL : L.length ≤ 200) (hb : b < w.heap.size) (hc : TextsIn w b o L) (hs : ∀ i, i < L.length → (L.getD i []).length ≤ 9223372036854775807) :
    Calls Tryd.prog 23 #[.slice (some ⟨b, o, none⟩) L.length cap] w (SortE L w) := by
  obtain ⟨i0, hi, hz0, hz1, hz2⟩ := info_parts info_text
  have HC := Lib.hid hc
  have HS := Lib.hid hs
  clear hc hs
  go_enter Tryd.func23, Tryd.ntmps23
  go_wp2_with fail
  go_loopw [4, 5, 6, 7] (fun v i _ _ wr => ∃ k : Nat, i = .int .i64 k ∧ FormI L w v wr k) (fun _ i _ _ _ => L.length - (intOf i).toNat)
  case atStart => exact ⟨0, rfl, Nat.zero_le _, OwnS.nil _ _, Below.refl _ _, rfl⟩
  case round =>
    obtain ⟨k, rfl, HI⟩ := hrel
    rename World => wr
    have hkl := HI.le
    by_cases hlt : k < L.length
    · have hdec : decide (k < L.length) = true := by simpa using hlt
      have hcell := (HC.out.below HI.below hb) k hlt
      have HN := Lib.hid (rnorm_any (L.getD k []) wr (HS.out k hlt))
      have hcd : code (L.getD k []) = if may (L.getD k []) then 0 else 60 := rfl
      have HIT := Lib.hid HI
      rcases Bool.eq_false_or_eq_true (may (L.getD k [])) with hm | hm
      · simp only [hm, if_true] at hcd
        rw [hcd] at HN
        have HST := Lib.hid (fun (w2 : World) (v2 : Value) h1 h2 => HI.step (w2 := w2) (v2 := v2) hlt hm h1 h2)
        have hown := HI.own
        have HBW := Lib.hid HI.below
        have hlen : ((L.take k).map norm).length ≤ 200 := by rw [List.length_map, List.length_take]; omega
        clear HI hm hcd
        generalize norm (L.getD k []) = ns at *
        generalize L.getD k [] = s at *
        generalize (L.take k).map norm = F at *
        go_wp2_with (first
          | (go_at_call 8; refine HN.out.mono ?_; rintro e w1 ⟨rfl, hb1⟩; have hown1 := hown.below hb1)
          | (at_builtin; refine wpList_append_own _ rfl _ _ 31 rfl w.heap.size 9 i0 (.string ⟨#[]⟩) 1 16 Tryd.underlying31 hi hz0 hz1 hz2 rfl (by decide) _ _ _ rfl (World.ownsRow.alloc hown1 _) ⟨w1.heap.size, 0, none⟩ 1 1 [encStr ns] rfl rfl ?c1 ?c2 ?c3 ?c4 ?c5 ?_))
        case c1 => exact cell_one_new _ _ _
        case c2 => simp [Value.oneCell']
        case c3 => unfold maxLen; omega
        case c4 => omega
        case c5 => have := HBW.out.size; have := hb1.size; simp; omega
        intro v' w4 hown4 hg4 _
        go_wp2
        go_roundw
        case rel => exact ⟨k + 1, by go_num, HST.out _ _ hown4 (((chain (Nat.le_refl _) HBW.out hb1).alloc (Nat.le_trans HBW.out.size hb1.size) _).grown hg4 (by have := HBW.out.size; have := hb1.size; simp; omega) (fun j hj => (World.ownsRow.lt hown1 j hj).1))⟩
        case measure => simp [intOf]; omega
      · simp only [hm, if_false, Bool.false_eq_true] at hcd
        rw [hcd] at HN
        have HNO := Lib.hid (fun (w' : World) hb => SortE.no (w' := w') hlt HI hm hb)
        have HBW := Lib.hid HI.below
        clear HI hm hcd
        generalize norm (L.getD k []) = ns at *
        generalize L.getD k [] = s at *
        go_wp2_with (go_at_call 8; refine HN.out.mono ?_; rintro e w1 ⟨rfl, hb1⟩)
        go_ret2
        exact HNO.out _ (chain (Nat.le_refl _) HBW.out hb1)
    · have hdec : decide (k < L.length) = false := by simpa using hlt
      have hke : k = L.length := by omega
      subst hke
      have HA := Lib.hid (show L.all may = true by have := HI.ok; rwa [List.take_length] at this)
      have hown := HI.own
      have HBW := Lib.hid HI.below
      rw [List.take_length] at hown
      clear HI
      have hml : (L.map norm).length = L.length := List.length_map _
      have hL2 : (L.map norm).length ≤ 200 := by omega
      have hp2 : 0 < (L.map norm).length := by omega
      clear hml hlt hdec hkl hL hp
      have HE := Lib.hid (fun (e : Ending) (w' : World) => SortE.yes (L := L) (w := w) (e := e) (w' := w') HA.out)
      generalize hss : L.map norm = ss at *
      obtain ⟨g, cp, rfl, hg0, hgl, hcp, hcm, hcells, hfr⟩ := hown.open_ hp2
      have HRI := Lib.hid (rising_any g 0 cp ss wr hp2 hL2 hgl (fun i hi => by rw [Nat.zero_add]; exact hcells i hi))
      clear hcells hfr hown
      go_wp2_with (go_at_call 32; refine HRI.out.mono ?_; rintro e w2 ⟨v2, rfl, ho2, hb2⟩)
      go_ret2
      have hrp : 0 < (rise ss).length := by
        obtain ⟨x, hx⟩ := List.exists_mem_of_length_pos hp2
        exact List.length_pos_iff.2 (fun e => by have := ((rise_is ss).2 x).2 hx; rw [e] at this; cases this)
      obtain ⟨g2, cp2, rfl, hg20, hg2l, hcp2, hcm2, hcells2, hfr2⟩ := ho2.open_ hrp
      have := HBW.out.size
      exact HE.out _ _ (chain (Nat.le_refl _) HBW.out hb2) ⟨g2, cp2, rfl, by omega, hg2l, hcp2, hcells2, hfr2⟩
end NameC
end Go.Proofs.YtienlkbokafndaaDoor
