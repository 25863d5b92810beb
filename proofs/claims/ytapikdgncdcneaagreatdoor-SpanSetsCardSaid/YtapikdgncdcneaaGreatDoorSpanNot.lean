/-
  Package span's Not: what is in none of a span's stretches.
  The sets that has and Not speak of: pure mathematics.
  The sets that spans stand for, from the least edge to the last one: pure mathematics.
  slices.Concat at package span's stretches, of two lists; Join.
-/
import Derived.Test.YtapikdgncdcneaaGreatDoorSpanMeet
import Derived.Maps.AppendAt
import Derived.Test.YtapikdgncdcneaaGreatDoorSpanOps
import Derived.Test.YtapikdgncdcneaaGreatDoorSpanGrowLay
import Derived.Laws.AppendOwnNone
namespace Go.Proofs.YtapikdgncdcneaaGreatDoor
open Go.RowKit
namespace SpanC
open VerM SpanM StrC TextR VerC
set_option linter.unusedSimpArgs false

/-- where the k-th gap begins -/
def curF (l : List St) : Nat → Ed
  | 0 => allS.f
  | k + 1 => (l[k]?.map St.t).getD allS.f
def gapsK (l : List St) (k : Nat) : List St := (List.range k).map fun i => ⟨curF l i, (l[i]?.map St.f).getD allS.f⟩
/-- what is between them, and behind the last one -/
def notM (l : List St) : List St := gapsK l l.length ++ [⟨curF l l.length, allS.t⟩]
theorem gapsK_succ {l : List St} {k : Nat} {s : St} (h : l[k]? = some s) : gapsK l (k + 1) = gapsK l k ++ [⟨curF l k, s.f⟩] := by
  unfold gapsK
  rw [List.range_succ, List.map_append, List.map_singleton, h]
  rfl
theorem curF_succ {l : List St} {k : Nat} {s : St} (h : l[k]? = some s) : curF l (k + 1) = s.t := by
  show (Option.map St.t l[k]?).getD allS.f = s.t
  rw [h]; rfl
def NotE (L : List IvG) (w : World) (e : Ending) (w' : World) : Prop := if spanB L then SetE (notM (spanM L)) w e w' else Below w.heap.size w w' ∧ e = .returned (.tuple #[.slice none 0 0, .int .i64 80])
theorem own_move {w w' : World} {B n k : Nat} {e : TypeId} {v : Value} {xs : List Value} (h : w.ownsRow B e k v n xs) (hb : ∀ g, v.ownBlock = some g → w'.heap[g]? = w.heap[g]?) : w'.ownsRow B e k v n xs := by
  obtain ⟨hl, ⟨h0, h1⟩ | ⟨g', cp', cur, e1, hbase, hb', h1, h2, h3, h4⟩⟩ := h
  · exact ⟨hl, .inl ⟨h0, h1⟩⟩
  · exact ⟨hl, .inr ⟨g', cp', cur, e1, hbase, (hb g' (by rw [e1]; rfl)).trans hb', h1, h2, h3, h4⟩⟩
/-- what a round finds and leaves -/
structure NotI (A : List StR) (w2 wq : World) (q : Nat) (u : Value) (k : Nat) (N : List StR) (r : StR) : Prop where
  le : k ≤ A.length
  st : N.map StR.st = gapsK (A.map StR.st) k
  cur : r.st = ⟨curF (A.map StR.st) k, allS.t⟩
  row : StRow wq w2.heap.size u N
  ok : AllOk wq N
  okr : StOk wq r
  rest : wq.heap[q]? = some (stO r)
  apart : u.ownBlock ≠ some q
  len : N.length = k
set_option maxHeartbeats 8000000 in
set_option maxRecDepth 100000 in
theorem pNot_any (a1 : Option Addr) (c1 : Nat) (L1 : List IvG) (w : World) (h1 : IvArg w a1 L1) :
    Calls Tryz.prog 18 #[.slice a1 L1.length c1] w (NotE L1 w) := by
  obtain ⟨i0, hi, hz0, hz1, hz2⟩ := info_parts info_st3
  have HBO := Lib.hid (pstretches_any a1 c1 L1 w h1.row h1.txs)
  clear h1
  rcases Bool.eq_false_or_eq_true (spanB L1) with hb | hb
  rotate_left
  · have HE : Hid (∀ e w', Below w.heap.size w w' → e = .returned (.tuple #[.slice none 0 0, .int .i64 80]) → NotE L1 w e w') := Lib.hid (fun e w' g1 g2 => by unfold NotE; rw [hb]; exact ⟨g1, g2⟩)
    go_enter Tryz.func18, Tryz.ntmps18
    go_wp2_with (go_at_call 24; refine HBO.out.mono ?_; rintro e w1 ⟨hb1, h0, h1⟩; obtain rfl := h0 hb; have HB := Lib.hid hb1; clear h0 h1 hb1)
    go_ret2
    exact HE.out _ _ HB.out rfl
  have HE : Hid (∀ e w', SetE (notM (spanM L1)) w e w' → NotE L1 w e w') := Lib.hid (fun e w' g => by unfold NotE; rw [hb]; exact g)
  have HLN : Hid (L1.length ≤ 16) := Lib.hid (spanB_len hb)
  go_enter Tryz.func18, Tryz.ntmps18
  go_wp2_with (go_at_call 24; refine HBO.out.mono ?_; rintro e w1 ⟨hb1, h0, h1⟩; obtain ⟨u1, rfl, hr1, hok1⟩ := h1 hb; have HB := Lib.hid hb1; have HR1 := Lib.hid hr1; have HOK1 := Lib.hid hok1; clear h0 h1 hb1 hr1 hok1; refine Hid.out ?_)
  refine Lib.hid ?_
  have hm1 := spanM_map L1
  have HL1 : Hid ((L1.map toSt).length ≤ 16) := Lib.hid (by rw [List.length_map]; exact HLN.out)
  rw [← hm1] at HE
  clear hm1 hb HBO HLN
  generalize L1.map toSt = A at *
  obtain ⟨va1, cp1, rfl⟩ := HR1.out.value
  go_wp2_with (go_at_call 41; refine (pall_any w1).mono ?_; rintro e w2 ⟨r0, rfl, hst0, hok0, hb2⟩; refine Hid.out ?_)
  refine Lib.hid ?_
  have HS0 := Lib.hid hst0
  have HB3 : Hid (Below w1.heap.size w1 (w2.alloc (stO r0))) := Lib.hid (hb2.alloc hb2.size _)
  have HOK0 : Hid (StOk (w2.alloc (stO r0)) r0) := Lib.hid (hok0.gr ((Below.refl _ w2).alloc (Nat.le_refl _) _))
  have HN0 := Lib.hid (heap_alloc_new w2 (stO r0))
  have HQ : Hid (w1.heap.size ≤ w2.heap.size) := Lib.hid hb2.size
  clear hst0 hb2 hok0
  go_wp2_with fail
  obtain ⟨q, hq⟩ : ∃ q, w2.heap.size = q := ⟨_, rfl⟩
  rw [hq] at HN0 HQ ⊢
  have HQ3 : Hid (q < (w2.alloc (stO r0)).heap.size) := Lib.hid (by rw [← hq]; simp)
  clear hq
  generalize w2.alloc (stO r0) = w3 at *
  go_loopw [7, 9, 21] (fun u _ i wq => ∃ (k : Nat) (N : List StR) (r : StR), i = .int .i64 k ∧ Hid (NotI A w3 wq q u k N r) ∧ Hid (Below w1.heap.size w1 wq ∧ w3.heap.size ≤ wq.heap.size)) (fun _ _ i _ => A.length - (intOf i).toNat)
  case atStart => exact ⟨0, [], r0, rfl, Lib.hid ⟨Nat.zero_le _, rfl, HS0.out, World.ownsRow_nil _ _ _ _, fun x h => (by cases h), HOK0.out, HN0.out, fun e => (by simp [Value.ownBlock] at e), rfl⟩, Lib.hid ⟨HB3.out, Nat.le_refl _⟩⟩
  case round =>
    obtain ⟨k, N, r, rfl, HI, HW⟩ := hrel
    rename World => wq
    have hkl := HI.out.le
    by_cases hlt : k < A.length
    · have hdec : decide (k < A.length) = true := by simpa using hlt
      have hkb : k ≤ 16 := by have := HL1.out; omega
      obtain ⟨g, x, hx, hxm, hxs, rfl, -, -, hg, -, -, c0, c1, c2, c3, c4, c5, c6, c7, c8, c9⟩ := (HR1.out.below HW.out.1).at k hlt
      have HXS : Hid ((A.map StR.st)[k]? = some x.st) := Lib.hid (by rw [List.getElem?_map, hxs]; rfl)
      have HXO := Lib.hid ((HOK1.out x hxm).gr HW.out.1)
      have hnx := heap_alloc_new wq (stO x)
      have hb4 : Below wq.heap.size wq (wq.alloc (stO x)) := (Below.refl _ wq).alloc (Nat.le_refl _) _
      have hql : q < wq.heap.size := (Array.getElem?_eq_some_iff.1 HI.out.rest).1
      have hnq := (heap_alloc_old wq (stO x) (r := q) hql).trans HI.out.rest
      have HNX := Lib.hid hnx
      have HNQ := Lib.hid hnq
      have HXB : Hid (u7.ownBlock ≠ some wq.heap.size) := Lib.hid (fun e => by
        have := (World.ownsRow.lt HI.out.row _ e).2
        omega)
      have hrow4 : (wq.alloc (stO x)).ownsRow w3.heap.size 73 10 u7 k (N.flatMap stL) := by
        have h := HI.out.row.below hb4
        unfold StRow at h
        rwa [HI.out.len] at h
      have HROW4 := Lib.hid hrow4
      have HB4 := Lib.hid hb4
      have HG4 : Hid (w3.heap.size ≤ (wq.alloc (stO x)).heap.size) := Lib.hid (Nat.le_trans HW.out.2 hb4.size)
      have hxl : wq.heap.size < (wq.alloc (stO x)).heap.size := by simp
      have HXL := Lib.hid hxl
      have HQL := Lib.hid hql
      clear hx hxm hxs hb4 hql hrow4 hxl
      obtain ⟨q0, q1, q2, q3, q4, q5, q6, q7, q8, q9⟩ := st_cells hnq
      obtain ⟨p0, p1, p2, p3, p4, p5, p6, p7, p8, p9⟩ := st_cells hnx
      clear hnx hnq
      go_upto_region 9 with fail
      generalize wq.alloc (stO x) = w4 at *
      have hrow4 := HROW4.out
      go_wp2_with (at_builtin; refine wpList_append_own_at _ rfl _ _ 54 rfl w3.heap.size 73 i0 _ 10 96 Tryz.underlying54 hi hz0 hz1 hz2 rfl (by decide) _ _ _ rfl (hrow4.alloc _) ⟨w4.heap.size, 0, none⟩ 1 1 (stL ⟨r.f, x.f⟩) rfl rfl ?c1 ?c2 ?c3 ?c4 ?c5 ?_)
      case c1 => exact cells_new w4 (stL ⟨r.f, x.f⟩) 73
      case c2 => exact st_ones ⟨r.f, x.f⟩
      case c3 => unfold maxLen; omega
      case c4 => omega
      case c5 => have := HG4.out; simp; omega
      intro v' w6 hown6 hg6 _ hat
      have hq4 : q < w4.heap.size := Nat.lt_of_lt_of_le HQL.out HB4.out.size
      have hx4 : wq.heap.size < w4.heap.size := HXL.out
      have HQ6 : Hid (w6.heap[q]? = some (stO r)) := Lib.hid ((hg6.block q (by simp; omega) (fun e => HI.out.apart e.symm)).trans ((Below.heap_alloc _ _ _ hq4).trans HNQ.out))
      have hX6 : w6.heap[wq.heap.size]? = some (stO x) := (hg6.block _ (by simp; omega) (fun e => HXB.out e.symm)).trans ((Below.heap_alloc _ _ _ hx4).trans HNX.out)
      have HAP : Hid (v'.ownBlock ≠ some q) := Lib.hid (fun e => by
        rcases hat with h | h
        · exact HI.out.apart (h.symm.trans e)
        · rw [h] at e; have := Option.some.inj e; omega)
      have key6 : ∀ z, StOk wq z → StOk w6 z := fun z hz => ok_grown ((hz.gr HB4.out).gr ((Below.refl _ w4).alloc (Nat.le_refl _) _)) (HROW4.out.alloc _) (by decide) hg6
      have HOK6 : Hid (AllOk w6 (N ++ [(⟨r.f, x.f⟩ : StR)])) := Lib.hid (fun z hz => by
        rcases List.mem_append.1 hz with hz | hz
        · exact key6 z (HI.out.ok z hz)
        · rw [List.mem_singleton.1 hz]; exact ⟨(key6 _ HI.out.okr).f, (key6 _ HXO.out).f⟩)
      have HOR6 : Hid (StOk w6 ⟨x.t, r.t⟩) := Lib.hid ⟨(key6 _ HXO.out).t, (key6 _ HI.out.okr).t⟩
      have HOW6 := Lib.hid hown6
      have HB6 : Hid (Below w1.heap.size w1 w6) := Lib.hid ((((HW.out.1.trans (HB4.out.mono HW.out.1.size)).alloc (Nat.le_trans HW.out.1.size HB4.out.size) _)).grown hg6 (by simp; have := HW.out.1.size; have := HB4.out.size; omega) (fun j hj => by have := (World.ownsRow.lt HROW4.out j hj).1; have := HQ3.out; have := HQ.out; omega))
      have HZ6 : Hid (w3.heap.size ≤ w6.heap.size) := Lib.hid (Nat.le_trans HG4.out (Nat.le_trans (by simp) hg6.size))
      clear hown6 hg6 hat key6 hrow4 q0 q1 q2 q3 q4 q5 q6 q7 q8 q9 p0 p1 p2 p3 p4 p5 p6 p7 p8 p9 hq4 hx4 HROW4
      obtain ⟨w7, e7, hA7, hE7, -, hs7⟩ := st_setF HQ6.out x.t
      have hnq : ¬ IsText w6 q := no_text HQ6.out (by decide)
      have HNEXT : Hid (NotI A w3 w7 q v' (k + 1) (N ++ [(⟨r.f, x.f⟩ : StR)]) ⟨x.t, r.t⟩) := Lib.hid ⟨hlt, by
          rw [List.map_append, HI.out.st, gapsK_succ HXS.out]
          congr 1
          show [(⟨r.f.ed, x.f.ed⟩ : St)] = _
          have hc := congrArg St.f HI.out.cur
          rw [show r.f.ed = curF (A.map StR.st) k from hc]
          rfl, by
          rw [curF_succ HXS.out]
          have hc := congrArg St.t HI.out.cur
          show (⟨x.t.ed, r.t.ed⟩ : St) = _
          rw [show r.t.ed = allS.t from hc]
          rfl, by
          unfold StRow
          rw [List.length_append, HI.out.len]
          have h := own_move HOW6.out (w' := w7) (fun g hg => hE7 g (fun e => HAP.out (by rw [hg, e])))
          rw [List.flatMap_append]
          simpa using h, fun z hz => (HOK6.out z hz).keep hnq fun j _ hj => hE7 j hj, HOR6.out.keep hnq fun j _ hj => hE7 j hj, hA7, HAP.out, by rw [List.length_append, HI.out.len]; rfl⟩
      have HB7 : Hid (Below w1.heap.size w1 w7 ∧ w3.heap.size ≤ w7.heap.size) := Lib.hid ⟨by
        rw [← e7]; exact below_setCells HB6.out q _ _ (Nat.le_trans HQ.out (Nat.le_refl _)), by
        rw [← e7, size_setCells]; exact HZ6.out⟩
      have HE7 := Lib.hid e7
      have HTH := Lib.hid (there_cells (o := 0) (n := 5) HQ6.out (by simp))
      clear e7 hA7 hE7 hs7 hnq
      obtain ⟨p0, p1, p2, p3, p4, p5, p6, p7, p8, p9⟩ := st_cells hX6
      clear hX6
      go_wp2_with (refine wpList_store_mid rfl 71 _ _ rfl q 0 (edL x.t).toArray rfl rfl HTH.out info_ed (ed_one _) ?_; change wpList _ _ _ _ _ (w6.setCells q 0 (edL x.t)); rw [HE7.out]; clear HTH HE7 p0 p1 p2 p3 p4 p5 p6 p7 p8 p9)
      go_roundw
      case rel => exact ⟨k + 1, _, _, by go_num, HNEXT, HB7⟩
      case measure => simp [intOf]; omega
    · have hdec : decide (k < A.length) = false := by simpa using hlt
      have HKE : Hid (k = A.length) := Lib.hid (by omega)
      have hkb : k ≤ 16 := by have := HL1.out; omega
      obtain ⟨q0, q1, q2, q3, q4, q5, q6, q7, q8, q9⟩ := st_cells HI.out.rest
      have hrow4 : wq.ownsRow w3.heap.size 73 10 u7 k (N.flatMap stL) := by
        have h := HI.out.row
        unfold StRow at h
        rwa [HI.out.len] at h
      have HROW4 := Lib.hid hrow4
      have HST : Hid ((N ++ [r]).map StR.st = notM (A.map StR.st)) := Lib.hid (by
        rw [List.map_append, HI.out.st]
        unfold notM
        rw [List.length_map, ← HKE.out, List.map_singleton, HI.out.cur])
      go_wp2_with (at_builtin; refine wpList_append_own _ rfl _ _ 54 rfl w3.heap.size 73 i0 _ 10 96 Tryz.underlying54 hi hz0 hz1 hz2 rfl (by decide) _ _ _ rfl (hrow4.alloc _) ⟨wq.heap.size, 0, none⟩ 1 1 (stL r) rfl rfl ?c1 ?c2 ?c3 ?c4 ?c5 ?_)
      case c1 => exact cells_new wq (stL r) 73
      case c2 => exact st_ones r
      case c3 => unfold maxLen; omega
      case c4 => omega
      case c5 => have := HW.out.2; simp; omega
      intro v' w6 hown6 hg6 _
      have HROW6 : StRow w6 w3.heap.size v' (N ++ [r]) := by
        unfold StRow
        rw [List.length_append, HI.out.len, List.flatMap_append]
        simpa using hown6
      have HOK6 : AllOk w6 (N ++ [r]) := fun z hz => by
        have key6 : ∀ z, StOk wq z → StOk w6 z := fun z hz => ok_grown (hz.gr ((Below.refl _ wq).alloc (Nat.le_refl _) _)) (HROW4.out.alloc _) (by decide) hg6
        rcases List.mem_append.1 hz with hz | hz
        · exact key6 z (HI.out.ok z hz)
        · rw [List.mem_singleton.1 hz]; exact key6 _ HI.out.okr
      have hB6 : Below w1.heap.size w1 w6 := (HW.out.1.alloc HW.out.1.size _).grown hg6 (by simp; have := HW.out.1.size; omega) (fun j hj => by have := (World.ownsRow.lt HROW4.out j hj).1; have := HQ3.out; have := HQ.out; omega)
      have HFM := Lib.hid (pform_any v' (N ++ [r]) w6 w3.heap.size (Nat.le_trans HW.out.2 (Nat.le_trans (by simp) hg6.size)) HROW6 HOK6 (by rw [List.length_append, HI.out.len]; simp; omega))
      rw [HST.out] at HFM
      have HB6 := Lib.hid hB6
      have HZ3 : Hid (w1.heap.size ≤ w3.heap.size) := Lib.hid HB3.out.size
      clear hown6 hg6 hrow4 HROW6 HOK6 hB6 q0 q1 q2 q3 q4 q5 q6 q7 q8 q9
      go_wp2_with (go_at_call 39; refine HFM.out.mono ?_; rintro e w8 ⟨u5, R, rfl, hr5, hok5, hm5, hb5⟩; have HFI := Lib.hid (pformIv R _ u5 w8 (row_base hr5 (Nat.zero_le _)) hok5 hm5); have HB8 := Lib.hid (HB6.out.trans (hb5.mono HZ3.out)); clear hr5 hok5 hm5 hb5; refine Hid.out ?_)
      refine Lib.hid ?_
      go_wp2_with (go_at_call 38; refine HFI.out.mono ?_; rintro e w9 ⟨v6, n6, rfl, hs6⟩; have HS6 := Lib.hid (hs6.base (HB.out.trans (HB8.out.mono HB.out.size))); clear hs6)
      go_ret2
      exact HE.out _ _ HS6.out
end SpanC
end Go.Proofs.YtapikdgncdcneaaGreatDoor
namespace Go.Proofs.YtapikdgncdcneaaGreatDoor
open Go.RowKit
namespace SpanC
open VerM SpanM
set_option linter.unusedSimpArgs false

/-- nothing lies between a version's two sides -/
theorem side_lt (v : Ver) (t : Ed) : cE ⟨v, 0⟩ t < 0 ↔ cE ⟨v, 1⟩ t ≤ 0 := by
  unfold cE VerM.lex late
  simp only [show ¬ ((0 : Nat) = 2) from by decide, show ¬ ((1 : Nat) = 2) from by decide, if_false]
  by_cases h : cmpN 0 (if t.s = 2 then 1 else 0) ≠ 0
  · rw [if_pos h, if_pos h]
    constructor
    · intro h2; omega
    · intro h2; omega
  · rw [if_neg h, if_neg h]
    by_cases h2 : cmpV v t.v ≠ 0
    · rw [if_pos h2, if_pos h2]
      constructor
      · intro h3; omega
      · intro h3; omega
    · rw [if_neg h2, if_neg h2]
      unfold cmpN
      constructor
      · intro h3; (repeat' split) <;> (revert h3; (repeat' split) <;> omega)
      · intro h3; (repeat' split) <;> (revert h3; (repeat' split) <;> omega)
theorem hasS_in {s : St} {v : Ver} : hasS s v = true ↔ inS ⟨v, 0⟩ s := by
  unfold hasS inS
  rw [Bool.and_eq_true, decide_eq_true_iff, decide_eq_true_iff, side_lt]
theorem hasL_in {l : List St} {v : Ver} : hasL l v = true ↔ inL ⟨v, 0⟩ l := by
  unfold hasL inL
  rw [List.any_eq_true]
  exact ⟨fun ⟨s, h, h2⟩ => ⟨s, h, hasS_in.1 h2⟩, fun ⟨s, h, h2⟩ => ⟨s, h, hasS_in.2 h2⟩⟩
/-- the k first gaps are what lies below the k-th one's front and in none of the k first stretches -/
theorem gapsK_in {l : List St} (h : SpanM.Can l) : ∀ k, k ≤ l.length → ∀ e, cE allS.f e ≤ 0 →
    ((inL e (gapsK l k) ∨ inL e (l.take k)) ↔ cE e (curF l k) < 0) ∧ ¬ (inL e (gapsK l k) ∧ inL e (l.take k)) := by
  intro k
  induction k with
  | zero =>
    intro _ e he
    have e1 : gapsK l 0 = [] := rfl
    have e2 : l.take 0 = [] := rfl
    rw [e1, e2]
    refine ⟨⟨fun h2 => ?_, fun h2 => ?_⟩, fun h2 => inL_nil e h2.1⟩
    · rcases h2 with h2 | h2 <;> exact absurd h2 (inL_nil e)
    · have h3 : cE e allS.f < 0 := h2
      have := cE_anti allS.f e
      omega
  | succ k ih =>
    intro hk e he
    obtain ⟨s, hs⟩ : ∃ s, l[k]? = some s := ⟨l[k], List.getElem?_eq_getElem (by omega)⟩
    obtain ⟨h1, h2⟩ := ih (by omega) e he
    have hst : cE s.f s.t < 0 := h.1 s (List.mem_of_getElem? hs)
    have hcur : cE (curF l k) s.f ≤ 0 ∨ k = 0 := by
      cases k with
      | zero => exact .inr rfl
      | succ j =>
        obtain ⟨x, hx⟩ : ∃ x, l[j]? = some x := ⟨l[j], List.getElem?_eq_getElem (by omega)⟩
        left
        rw [curF_succ hx]
        have hp := List.pairwise_iff_getElem.1 h.2 j (j + 1) (by omega) (by omega) (by omega)
        rw [List.getElem?_eq_getElem (by omega)] at hx hs
        rw [Option.some.inj hx, Option.some.inj hs] at hp
        omega
    rw [gapsK_succ hs, take_snoc hs, curF_succ hs, inL_append, inL_append, inL_one, inL_one]
    have a1 := cE_anti e (curF l k)
    have a2 := cE_anti e s.f
    have low : cE e (curF l k) < 0 → cE e s.f < 0 := by
      intro h3
      rcases hcur with h4 | h4
      · exact lt_le h3 h4
      · subst h4
        have h5 : cE e allS.f < 0 := h3
        have := cE_anti e allS.f
        omega
    have mid : cE e s.f < 0 → cE e s.t < 0 := fun h3 => lt_le h3 (by omega)
    refine ⟨⟨fun h3 => ?_, fun h3 => ?_⟩, fun h3 => ?_⟩
    · rcases h3 with (h3 | h3) | (h3 | h3)
      · exact mid (low (h1.1 (.inl h3)))
      · exact mid h3.2
      · exact mid (low (h1.1 (.inr h3)))
      · exact h3.2
    · by_cases h4 : cE e (curF l k) < 0
      · rcases h1.2 h4 with h5 | h5
        · exact .inl (.inl h5)
        · exact .inr (.inl h5)
      · by_cases h5 : cE e s.f < 0
        · exact .inl (.inr ⟨by show cE (curF l k) e ≤ 0; omega, h5⟩)
        · exact .inr (.inr ⟨by omega, h3⟩)
    · obtain ⟨h3, h4⟩ := h3
      rcases h3 with h3 | h3
      · rcases h4 with h4 | h4
        · exact h2 ⟨h3, h4⟩
        · have := low (h1.1 (.inl h3)); have := h4.1; omega
      · rcases h4 with h4 | h4
        · have := h1.1 (.inr h4); have h6 : cE (curF l k) e ≤ 0 := h3.1; omega
        · have h6 : cE e s.f < 0 := h3.2; have := h4.1; omega
/-- what is in none of the stretches -/
theorem notM_in {l : List St} (h : SpanM.Can l) {e : Ed} (h1 : cE allS.f e ≤ 0) (h2 : cE e allS.t < 0) : inL e (notM l) ↔ ¬ inL e l := by
  obtain ⟨h3, h4⟩ := gapsK_in h l.length (Nat.le_refl _) e h1
  rw [List.take_length] at h3 h4
  unfold notM
  rw [inL_append, inL_one]
  have a1 := cE_anti e (curF l l.length)
  constructor
  · rintro (h5 | h5) h6
    · exact h4 ⟨h5, h6⟩
    · have := h3.1 (.inr h6)
      have h7 : cE (curF l l.length) e ≤ 0 := h5.1
      omega
  · intro h5
    by_cases h6 : cE e (curF l l.length) < 0
    · exact .inl ((h3.2 h6).resolve_right h5)
    · exact .inr ⟨by show cE (curF l l.length) e ≤ 0; omega, h2⟩
end SpanC
end Go.Proofs.YtapikdgncdcneaaGreatDoor
namespace Go.Proofs.YtapikdgncdcneaaGreatDoor
open Go.RowKit
namespace SpanC
open VerM SpanM
set_option linter.unusedSimpArgs false

/-- the least version of all that may be -/
theorem all_least {v : Ver} (h : may v = true) : cmpV (leastV zeroV) v ≤ 0 := by
  by_cases h1 : v.a = 0
  · by_cases h2 : v.b = 0
    · by_cases h3 : v.c = 0
      · exact least_le h h1 h2 h3
      · unfold cmpV lex leastV zeroV
        simp only [h1, h2, cmpN_self, ne_eq, not_true, if_false]
        rw [show cmpN 0 v.c = -1 from if_pos (by omega), if_pos (by decide)]
        decide
    · unfold cmpV lex leastV zeroV
      simp only [h1, cmpN_self, ne_eq, not_true, if_false]
      rw [show cmpN 0 v.b = -1 from if_pos (by omega), if_pos (by decide)]
      decide
  · unfold cmpV lex leastV zeroV
    simp only [ne_eq]
    rw [show cmpN 0 v.a = -1 from if_pos (by omega), if_pos (by decide)]
    decide
theorem all_front {v : Ver} (h : may v = true) (k : Nat) : cE allS.f ⟨v, k⟩ ≤ 0 := by
  have h1 := all_least h
  unfold cE VerM.lex late allS
  simp only [show ¬ ((0 : Nat) = 2) from by decide, if_false]
  by_cases h2 : cmpN 0 (if k = 2 then 1 else 0) ≠ 0
  · rw [if_pos h2]
    unfold cmpN at h2 ⊢
    (repeat' split) <;> omega
  · rw [if_neg h2]
    by_cases h3 : cmpV (leastV zeroV) v ≠ 0
    · rw [if_pos h3]; exact h1
    · rw [if_neg h3]
      unfold cmpN
      (repeat' split) <;> omega
theorem all_back (v : Ver) {k : Nat} (hk : k ≠ 2) : cE ⟨v, k⟩ allS.t < 0 := by
  unfold cE VerM.lex late allS
  simp only [hk, if_false, if_true]
  rw [if_pos (by decide)]
  decide
/-- what Not leaves of the versions -/
theorem notM_has {l : List St} (h : SpanM.Can l) {v : Ver} (hv : may v = true) : hasL (notM l) v = !hasL l v := by
  have h1 := notM_in h (e := ⟨v, 0⟩) (all_front hv 0) (all_back v (by decide))
  rw [← hasL_in, ← hasL_in] at h1
  cases h2 : hasL l v with
  | true =>
    rw [h2] at h1
    exact Bool.eq_false_iff.2 fun h3 => h1.1 h3 rfl
  | false =>
    rw [h2] at h1
    exact h1.2 (by simp)
/-- a span in its one form, as a set's one list of stretches -/
theorem spanB_can {L : List IvG} (h : spanB L = true) : SpanM.Can (spanM L) := by
  unfold spanB at h
  rw [Bool.and_eq_true, List.all_eq_true] at h
  have hg : ∀ i (hi : i < L.length), cE (toSt L[i]).f.ed (toSt L[i]).t.ed < 0 ∧ (∀ j (hj : j + 1 = i), cE (toSt (L[j]'(by omega))).t.ed (toSt L[i]).f.ed < 0) := by
    intro i hi
    have := h.2 i (List.mem_range.2 hi)
    unfold goodAt empB at this
    rw [getElem!_pos L i hi] at this
    simp only [Bool.and_eq_true, Bool.or_eq_true, decide_eq_true_iff, Bool.not_eq_true', decide_eq_false_iff_not] at this
    refine ⟨?_, ?_⟩
    · have h2 : ¬ 0 ≤ cE (toSt L[i]).f.ed (toSt L[i]).t.ed := this.1.2
      omega
    · intro j hj
      have h2 := this.2.resolve_left (by omega)
      rw [getElem!_pos L (i - 1) (by omega)] at h2
      have e : i - 1 = j := by omega
      subst e
      exact h2
  have hp : ∀ d i (hi : i + d + 1 < L.length), cE (toSt (L[i]'(by omega))).t.ed (toSt L[i + d + 1]).f.ed < 0 := by
    intro d
    induction d with
    | zero => intro i hi; exact (hg (i + 1) hi).2 i rfl
    | succ d ih =>
      intro i hi
      have h1 := ih i (by omega)
      have h2 := (hg (i + d + 1) (by omega)).1
      have h3 := (hg (i + d + 1 + 1) hi).2 (i + d + 1) rfl
      exact lt_le h1 (by have := lt_le h2 (show cE _ _ ≤ 0 from by exact Int.le_of_lt h3); exact Int.le_of_lt this)
  unfold spanM
  refine ⟨fun s hs => ?_, ?_⟩
  · obtain ⟨x, hx, rfl⟩ := List.mem_map.1 hs
    obtain ⟨i, hi, rfl⟩ := List.mem_iff_getElem.1 hx
    exact (hg i hi).1
  · rw [List.pairwise_map, List.pairwise_iff_getElem]
    intro i j hi hj hij
    have := hp (j - i - 1) i (by omega)
    have e : i + (j - i - 1) + 1 = j := by omega
    simp only [e] at this
    exact this
theorem spanB_right {L : List IvG} (h : spanB L = true) : ∀ x ∈ L, rightB x = true := by
  unfold spanB at h
  rw [Bool.and_eq_true, List.all_eq_true] at h
  intro x hx
  obtain ⟨i, hi, rfl⟩ := List.mem_iff_getElem.1 hx
  have := h.2 i (List.mem_range.2 hi)
  unfold goodAt at this
  rw [getElem!_pos L i hi] at this
  simp only [Bool.and_eq_true] at this
  exact this.1.1
end SpanC
end Go.Proofs.YtapikdgncdcneaaGreatDoor
namespace Go.Proofs.YtapikdgncdcneaaGreatDoor
open Go.RowKit
namespace SpanC
open VerM SpanM StrC TextR VerC
set_option linter.unusedSimpArgs false

section
variable {P : Program} (w : World)
/-- append of a slice, nil or not, to a row of one's own -/
theorem wpList_append_any {ops : Array Oper} {rest : List Oper} {o : Oper} {a : Act} {Q : Exit → Act → World → Prop} (hgd : o.guard = none) (s x : Operand) (t : TypeId)
    (ho : o.op = .call { callee := .builtin .append, args := #[s, x], argTypes := #[t, t] })
    (base : Nat) (e : TypeId) (i : TypeInfo) (z : Value) (size bytes : Nat) (ht : P.underlying t = some (.slice e)) (hi : P.info? e = some i) (hz : i.zero = some z)
    (hsize : i.size = size) (hby : i.bytes = bytes) (hzs : z.cells.size = size) (hsz : 0 < size)
    (v : Value) (n : Nat) (xs : List Value) (hs : a.eval s = v) (hown : w.ownsRow base e size v n xs)
    (ax : Option Addr) (m c : Nat) (news : List Value) (hx : a.eval x = .slice ax m c) (hnil : ax = none → m = 0 ∧ c = 0) (hl : news.length = m * size) (hnews : ∀ ad, ax = some ad → ∀ j u, news[j]? = some u → w.cell? (ad.add j) = some u) (h1 : ∀ u ∈ news, u.oneCell' = true)
    (h63 : n + m ≤ maxLen) (hbytes : (n + m) * bytes ≤ 140737488355328) (hbase : base ≤ w.heap.size)
    (h : ∀ v' w', w'.ownsRow base e size v' (n + m) (xs ++ news) → w.grownBy w' v.ownBlock → wpList P ops Q rest (a.put o.dst v') w') : wpList P ops Q (o :: rest) a w := by
  cases ax with
  | some ad => exact wpList_append_own w hgd s x t ho base e i z size bytes ht hi hz hsize hby hzs hsz v n xs hs hown ad m c news hx hl (hnews ad rfl) h1 h63 hbytes hbase fun v' w' g1 g2 _ => h v' w' g1 g2
  | none =>
    obtain ⟨rfl, rfl⟩ := hnil rfl
    obtain rfl : news = [] := List.eq_nil_of_length_eq_zero (by simpa using hl)
    refine wpList_append_own_none hgd s x t ho base e i size ht hi v n xs hs hown hx ?_
    exact h v w (by simpa using hown) ⟨rfl, rfl, rfl, Nat.le_refl _, fun _ _ _ => rfl⟩
end
theorem StRow.news {w : World} {B : Nat} {a : Option Addr} {n cp : Nat} {L : List StR} (h : StRow w B (.slice a n cp) L) : n = L.length ∧ (a = none → n = 0 ∧ cp = 0) ∧ ∀ ad, a = some ad → ∀ j u, (L.flatMap stL)[j]? = some u → w.cell? (ad.add j) = some u := by
  have h' : w.ownsRow B 73 10 (.slice a n cp) L.length (L.flatMap stL) := h
  have h0 := h'
  obtain ⟨_, ⟨h1, h2⟩ | ⟨g, cp', cur, e1, hg0, hblk, _⟩⟩ := h'
  · simp only [Value.slice.injEq] at h1
    obtain ⟨rfl, rfl, rfl⟩ := h1
    exact ⟨h2.symm, fun _ => ⟨rfl, rfl⟩, fun ad e => (by cases e)⟩
  · simp only [Value.slice.injEq] at e1
    obtain ⟨rfl, rfl, rfl⟩ := e1
    refine ⟨rfl, fun e => (by cases e), fun ad e j u hu => ?_⟩
    cases e
    have hj : j < L.length * 10 := by
      have := (List.getElem?_eq_some_iff.1 hu).1
      rwa [RowKC.flat_length stL 10 stL_length] at this
    rw [Go.WideShapes.add_plain, Nat.zero_add, h0.cellAt j hj]
    exact hu
theorem flat_ones (L : List StR) : ∀ u ∈ L.flatMap stL, u.oneCell' = true := fun u hu => by
  obtain ⟨x, _, hx⟩ := List.mem_flatMap.1 hu
  exact st_ones x u hx
/-- what Grow makes of nothing -/
theorem pgrow_any (n : Nat) (w : World) (hn : n ≤ 1000) : Calls Tryz.prog 68 #[.slice none 0 0, .int .i64 n] w fun e w' => ∃ u, e = .returned u ∧ StRow w' w.heap.size u [] ∧ (∃ a c, u = .slice a 0 c) ∧ Below w.heap.size w w' := by
  obtain ⟨i0, hi, hz0, hz1, hz2⟩ := info_parts info_st3
  rcases Nat.eq_zero_or_pos n with h0 | h0
  · subst h0
    refine (Any8.slices_Grow_room Tryz.growSt none 0 0 0 w (Nat.le_refl _) (by omega) (by omega) (by omega)).mono fun e w' ⟨he, hw⟩ => ?_
    subst hw
    exact ⟨_, he, World.ownsRow_nil _ _ _ _, ⟨_, _, rfl⟩, Below.refl _ _⟩
  · refine (Any8.slices_Grow_grow Tryz.growSt i0 _ hi hz0 (by omega) none 0 0 n [] w (Nat.le_refl _) (by omega) (by rw [hz2]; omega) (by omega) (by simp) (fun _ => rfl) (fun a e => (by cases e))).mono fun e w' ⟨he, hw⟩ => ?_
    rw [show Tryz.growSt_ren.t 25 = 73 from rfl] at he hw
    have hge := grownCap_ge w (0 + n) 0 73
    have hcm : grownCap w (0 + n) 0 73 ≤ maxLen := grownCap_le_maxLen w (0 + n) 0 _ (by unfold maxLen; omega)
    refine ⟨_, he, ⟨rfl, .inr ⟨w.heap.size, _, _, rfl, Nat.le_refl _, by rw [hw]; exact heap_alloc_new w.drew _, Nat.zero_le _, hcm, ?_, by simp⟩⟩, ⟨_, _, rfl⟩, ?_⟩
    · have hz10 : (Value.agg #[Value.int .u32 0, .int .u32 0, .int .u32 0, .slice none 0 0, .int .i64 0, .int .u32 0, .int .u32 0, .int .u32 0, .slice none 0 0, .int .i64 0]).cells.size = 10 := rfl
      simp only [Array.size_append, List.size_toArray, List.length_nil, size_zeroCells, hz10]
      generalize grownCap w (0 + n) 0 73 = G at *
      omega
    · rw [hw]; exact ((Gr.refl w).drew.alloc _).below
set_option maxHeartbeats 8000000 in
set_option maxRecDepth 100000 in
theorem pconcat_any (b : Nat) (u1 u2 : Value) (A C : List StR) (w : World) (h1 : StRow w 0 u1 A) (h2 : StRow w 0 u2 C) (k1 : AllOk w A) (k2 : AllOk w C) (hA : A.length ≤ 16) (hC : C.length ≤ 16) (q1 : w.cell? ⟨b, 0, none⟩ = some u1) (q2 : w.cell? ⟨b, 1, none⟩ = some u2) :
    Calls Tryz.prog 40 #[.slice (some ⟨b, 0, none⟩) 2 2] w fun e w' => ∃ u, e = .returned u ∧ StRow w' w.heap.size u (A ++ C) ∧ AllOk w' (A ++ C) ∧ Below w.heap.size w w' := by
  obtain ⟨i0, hi, hz0, hz1, hz2⟩ := info_parts info_st3
  obtain ⟨a1, c1, rfl⟩ := h1.value
  obtain ⟨a2, c2, rfl⟩ := h2.value
  have H1 := Lib.hid h1
  have H2 := Lib.hid h2
  have K1 := Lib.hid k1
  have K2 := Lib.hid k2
  have Q1 := Lib.hid q1
  have Q2 := Lib.hid q2
  have hs1 : wrap64 ((0 : Int) + (A.length : Int)) = (A.length : Int) := by unfold wrap64; omega
  have hs2 : wrap64 ((A.length : Int) + (C.length : Int)) = ((A.length + C.length : Nat) : Int) := by unfold wrap64; omega
  have hn1 : decide ((A.length : Int) < 0) = false := decide_eq_false (by omega)
  have hn2 : decide (((A.length + C.length : Nat) : Int) < 0) = false := decide_eq_false (by omega)
  have HG := Lib.hid (pgrow_any (A.length + C.length) w (by omega))
  clear h1 h2 k1 k2
  go_enter Tryz.func40, Tryz.ntmps40
  go_wp2_with fail
  refine wp_loop_rounds 3 ?_
  rw [rounds_succ]
  go_wp2_with fail
  rw [rounds_succ]
  go_wp2_with fail
  rw [rounds_succ]
  go_wp2_with (go_at_call 68; refine HG.out.mono ?_; rintro e w1 ⟨u, rfl, hr1, ⟨ga, gc, rfl⟩, hb1⟩; refine Hid.out ?_)
  refine Lib.hid ?_
  have HR := Lib.hid hr1
  have HB1 := Lib.hid hb1
  have H1b := Lib.hid (H1.out.below hb1)
  have H2b := Lib.hid (H2.out.below hb1)
  have K1b := Lib.hid (K1.out.gr hb1)
  have K2b := Lib.hid (K2.out.gr hb1)
  have g1 := (hb1.cell (World.block_lt_of_cell? _ _ Q1.out)).trans Q1.out
  have G2 := Lib.hid ((hb1.cell (World.block_lt_of_cell? _ _ Q2.out)).trans Q2.out)
  have hown1 := hr1
  unfold StRow at hown1
  have HO1 := Lib.hid hown1
  obtain ⟨n1, n2, n3⟩ := H1b.out.news
  have N3 := Lib.hid n3
  have N2 := Lib.hid n2
  clear hr1 hb1 H1 K1 K2 Q1 q1 q2 HG n1 n2 n3
  go_wp2_with fail
  refine wp_loop_rounds 3 ?_
  rw [rounds_succ]
  go_wp2_with (at_builtin; refine wpList_append_any _ rfl _ _ 54 rfl w.heap.size 73 i0 _ 10 96 Tryz.underlying54 hi hz0 hz1 hz2 rfl (by decide) _ _ _ rfl hown1 a1 A.length c1 (A.flatMap stL) rfl N2.out ?c1 N3.out (flat_ones A) ?c3 ?c4 ?c5 ?_)
  case c1 => exact RowKC.flat_length stL 10 stL_length A
  case c3 => unfold maxLen; simp; omega
  case c4 => simp; omega
  case c5 => exact HB1.out.size
  intro v' w2 hown2 hg2
  have HO2 : Hid (StRow w2 w.heap.size v' A) := Lib.hid (by unfold StRow; simpa using hown2)
  have HB2 : Hid (Below w.heap.size w w2) := Lib.hid (HB1.out.grown hg2 HB1.out.size (fun j hj => (World.ownsRow.lt HO1.out j hj).1))
  have K1c : Hid (AllOk w2 A) := Lib.hid (fun z hz => ok_grown (K1b.out z hz) HO1.out (by decide) hg2)
  have K2c : Hid (AllOk w2 C) := Lib.hid (fun z hz => ok_grown (K2b.out z hz) HO1.out (by decide) hg2)
  have g2 := (HB2.out.cell (World.block_lt_of_cell? _ _ Q2.out)).trans Q2.out
  obtain ⟨-, m2, m3⟩ := (H2.out.below HB2.out).news
  have M2 := Lib.hid m2
  have M3 := Lib.hid m3
  obtain ⟨xa, xc, rfl⟩ := HO2.out.value
  have hown3 := HO2.out
  unfold StRow at hown3
  have HO3 := Lib.hid hown3
  clear hown2 hg2 m2 m3 hown1 HO1 HR H1b H2b K1b K2b G2 g1 HB1 N2 N3
  go_wp2_with fail
  rw [rounds_succ]
  go_wp2_with (at_builtin; refine wpList_append_any _ rfl _ _ 54 rfl w.heap.size 73 i0 _ 10 96 Tryz.underlying54 hi hz0 hz1 hz2 rfl (by decide) _ _ _ rfl hown3 a2 C.length c2 (C.flatMap stL) rfl M2.out ?c1 M3.out (flat_ones C) ?c3 ?c4 ?c5 ?_)
  case c1 => exact RowKC.flat_length stL 10 stL_length C
  case c3 => unfold maxLen; omega
  case c4 => omega
  case c5 => exact HB2.out.size
  intro v3 w3 hown4 hg4
  have HO4 : Hid (StRow w3 w.heap.size v3 (A ++ C)) := Lib.hid (by unfold StRow; rw [List.flatMap_append, List.length_append]; exact hown4)
  have HB4 : Hid (Below w.heap.size w w3) := Lib.hid (HB2.out.grown hg4 HB2.out.size (fun j hj => (World.ownsRow.lt HO3.out j hj).1))
  have K4 : Hid (AllOk w3 (A ++ C)) := Lib.hid (fun z hz => by
    rcases List.mem_append.1 hz with hz | hz
    · exact ok_grown (K1c.out z hz) HO3.out (by decide) hg4
    · exact ok_grown (K2c.out z hz) HO3.out (by decide) hg4)
  clear hown4 hg4 hown3
  go_wp2_with fail
  rw [rounds_succ]
  go_wp2_with fail
  go_ret
  exact ⟨_, rfl, HO4.out, K4.out, HB4.out⟩
/-- how Join ends -/
def JoinE (L1 L2 : List IvG) (w : World) (e : Ending) (w' : World) : Prop := if spanB L1 && spanB L2 then SetE (spanM L1 ++ spanM L2) w e w' else Below w.heap.size w w' ∧ e = .returned (.tuple #[.slice none 0 0, .int .i64 80])
set_option maxHeartbeats 8000000 in
set_option maxRecDepth 100000 in
theorem pJoin_any (a1 : Option Addr) (c1 : Nat) (L1 : List IvG) (a2 : Option Addr) (c2 : Nat) (L2 : List IvG) (w : World) (h1 : IvArg w a1 L1) (h2 : IvArg w a2 L2) :
    Calls Tryz.prog 17 #[.slice a1 L1.length c1, .slice a2 L2.length c2] w (JoinE L1 L2 w) := by
  have HBO := Lib.hid (pboth_any a1 c1 L1 a2 c2 L2 w h1 h2)
  clear h1 h2
  rcases Bool.eq_false_or_eq_true (spanB L1 && spanB L2) with hb | hb
  rotate_left
  · have HE : Hid (∀ e w', Below w.heap.size w w' → e = .returned (.tuple #[.slice none 0 0, .int .i64 80]) → JoinE L1 L2 w e w') := Lib.hid (fun e w' g1 g2 => by unfold JoinE; rw [hb]; exact ⟨g1, g2⟩)
    go_enter Tryz.func17, Tryz.ntmps17
    go_wp2_with (go_at_call 36; refine HBO.out.mono ?_; rintro e w1 ⟨hb1, h0, h1⟩; obtain rfl := h0 hb; have HB := Lib.hid hb1; clear h0 h1 hb1)
    go_ret2
    exact HE.out _ _ HB.out rfl
  have HE : Hid (∀ e w', SetE (spanM L1 ++ spanM L2) w e w' → JoinE L1 L2 w e w') := Lib.hid (fun e w' g => by unfold JoinE; rw [hb]; exact g)
  have HLN : Hid (L1.length ≤ 16 ∧ L2.length ≤ 16) := Lib.hid (by
    simp only [Bool.and_eq_true] at hb
    exact ⟨spanB_len hb.1, spanB_len hb.2⟩)
  go_enter Tryz.func17, Tryz.ntmps17
  go_wp2_with (go_at_call 36; refine HBO.out.mono ?_; rintro e w1 ⟨hb1, h0, h1⟩; obtain ⟨u1, u2, rfl, hr1, hr2, hok1, hok2⟩ := h1 hb; have HB := Lib.hid hb1; have HR1 := Lib.hid hr1; have HR2 := Lib.hid hr2; have HOK1 := Lib.hid hok1; have HOK2 := Lib.hid hok2; clear h0 h1 hb1 hr1 hr2 hok1 hok2; refine Hid.out ?_)
  refine Lib.hid ?_
  have hm1 := spanM_map L1
  have hm2 := spanM_map L2
  have HL1 : Hid ((L1.map toSt).length ≤ 16 ∧ (L2.map toSt).length ≤ 16) := Lib.hid (by rw [List.length_map, List.length_map]; exact HLN.out)
  rw [← hm1, ← hm2] at HE
  clear hm1 hm2 hb HBO HLN
  generalize L1.map toSt = A at *
  generalize L2.map toSt = C at *
  obtain ⟨va1, cp1, rfl⟩ := HR1.out.value
  obtain ⟨va2, cp2, rfl⟩ := HR2.out.value
  have HB0 : Hid (Below w1.heap.size w1 (w1.alloc (.cells #[.slice va1 A.length cp1, .slice va2 C.length cp2] 54))) := Lib.hid ((Below.refl _ w1).alloc (Nat.le_refl _) _)
  have hn0 := heap_alloc_new w1 (.cells #[.slice va1 A.length cp1, .slice va2 C.length cp2] 54)
  have HCC := Lib.hid (pconcat_any w1.heap.size _ _ A C (w1.alloc (.cells #[.slice va1 A.length cp1, .slice va2 C.length cp2] 54)) (row_base (HR1.out.below HB0.out) (Nat.zero_le _)) (row_base (HR2.out.below HB0.out) (Nat.zero_le _)) (HOK1.out.gr HB0.out) (HOK2.out.gr HB0.out) HL1.out.1 HL1.out.2 (by unfold World.cell?; rw [hn0]; rfl) (by unfold World.cell?; rw [hn0]; rfl))
  clear hn0
  go_wp2_with (go_at_call 40; refine HCC.out.mono ?_; rintro e w2 ⟨u3, rfl, hr3, hok3, hb3⟩; have HFM := Lib.hid (pform_any u3 (A ++ C) w2 _ hb3.size hr3 hok3 (by rw [List.length_append]; have := HL1.out; omega)); have HB3 := Lib.hid (HB0.out.trans (hb3.mono HB0.out.size)); have HZ := Lib.hid HB0.out.size; clear hr3 hok3 hb3; refine Hid.out ?_)
  refine Lib.hid ?_
  rw [List.map_append] at HFM
  go_wp2_with (go_at_call 39; refine HFM.out.mono ?_; rintro e w5 ⟨u5, R, rfl, hr5, hok5, hm5, hb5⟩; have HFI := Lib.hid (pformIv R _ u5 w5 (row_base hr5 (Nat.zero_le _)) hok5 hm5); have HB5 := Lib.hid (HB3.out.trans (hb5.mono HZ.out)); clear hr5 hok5 hm5 hb5; refine Hid.out ?_)
  refine Lib.hid ?_
  go_wp2_with (go_at_call 38; refine HFI.out.mono ?_; rintro e w6 ⟨v6, n6, rfl, hs6⟩; have HS6 := Lib.hid (hs6.base (HB.out.trans (HB5.out.mono HB.out.size))); clear hs6)
  go_ret2
  exact HE.out _ _ HS6.out
end SpanC
end Go.Proofs.YtapikdgncdcneaaGreatDoor
