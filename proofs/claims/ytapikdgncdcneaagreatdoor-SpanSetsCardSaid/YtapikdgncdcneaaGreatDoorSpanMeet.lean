/-
  Package span's Meet: of two spans what is in both.
-/
import Derived.Test.YtapikdgncdcneaaGreatDoorSpanOps
import Derived.Maps.AppendAt
namespace Go.Proofs.YtapikdgncdcneaaGreatDoor
open Go.RowKit
namespace SpanC
open VerM SpanM StrC TextR VerC
set_option linter.unusedSimpArgs false

/-- how a call ends that makes a span of stretches -/
def SetE (l : List St) (w : World) (e : Ending) (w' : World) : Prop := Below w.heap.size w w' ∧ (16 < (formM l).length → e = .returned (.tuple #[.slice none 0 0, .int .i64 80])) ∧
  ((formM l).length ≤ 16 → ∃ (u : Value) (R : List StR), e = .returned (.tuple #[u, .int .i64 0]) ∧ R.map StR.st = formM l ∧ IvRow w' w.heap.size u (R.map ofSt) ∧ AllOk w' R)
/-- form, and intervals behind it -/
theorem pformIv (R : List StR) (l : List St) (u : Value) (w : World) (hr : StRow w 0 u R) (hok : AllOk w R) (hl : R.map StR.st = formM l) :
    Calls Tryz.prog 38 #[u] w fun e w' => ∃ v n, e = .returned (.tuple #[v, .int .i64 n]) ∧ SetE l w (.returned (.tuple #[v, .int .i64 n])) w' := by
  have hlen : (formM l).length = R.length := by rw [← hl, List.length_map]
  by_cases h : R.length ≤ 16
  · refine (pintervals_any u R w hr hok h).mono fun e w' ⟨v, L', he, hm, hrow, hall, hb⟩ => ⟨v, 0, he, hb, fun h2 => by omega, fun _ => ⟨v, L', rfl, hm.trans hl, hrow, hall⟩⟩
  · refine (pintervals_long u R w hr (by omega)).mono fun e w' ⟨he, hw⟩ => ⟨.slice none 0 0, 80, he, by rw [hw]; exact Below.refl _ _, fun _ => rfl, fun h2 => by omega⟩
theorem SetE.base {l : List St} {w w1 w2 : World} {e : Ending} (h : SetE l w1 e w2) (hb : Below w.heap.size w w1) : SetE l w e w2 := by
  obtain ⟨h1, h2, h3⟩ := h
  refine ⟨hb.trans (h1.mono hb.size), h2, fun h => ?_⟩
  obtain ⟨u, R, he, hm, hrow, hall⟩ := h3 h
  refine ⟨u, R, he, hm, ?_, hall⟩
  obtain ⟨hl, ⟨h0, h1'⟩ | ⟨g', cp', cur, e1, hbase, hb', g1, g2, g3, g4⟩⟩ := hrow
  · exact ⟨hl, .inl ⟨h0, h1'⟩⟩
  · exact ⟨hl, .inr ⟨g', cp', cur, e1, Nat.le_trans hb.size hbase, hb', g1, g2, g3, g4⟩⟩
/-- how Meet ends -/
def MeetE (L1 L2 : List IvG) (w : World) (e : Ending) (w' : World) : Prop := if spanB L1 && spanB L2 then SetE (meets (spanM L1) (spanM L2)) w e w' else Below w.heap.size w w' ∧ e = .returned (.tuple #[.slice none 0 0, .int .i64 80])
/-- what the rounds find and leave: rows i of the one, and j of the other -/
structure MeetI (A C : List StR) (w1 wq : World) (u : Value) (i j : Nat) (M : List StR) : Prop where
  le : i ≤ A.length
  st : M.map StR.st = meets ((A.map StR.st).take i) (C.map StR.st) ++ (((A.map StR.st)[i]?.toList).flatMap fun s => ((C.map StR.st).take j).map fun t => meetS s t)
  row : StRow wq w1.heap.size u M
  ok : AllOk wq M
  below : Below w1.heap.size w1 wq
  len : M.length = i * C.length + j
theorem take_all_meets (a b : List St) (i : Nat) (s : St) (h : a[i]? = some s) : meets (a.take (i + 1)) b = meets (a.take i) b ++ b.map (fun t => meetS s t) := by
  unfold meets
  rw [List.take_add_one, h, List.flatMap_append]
  simp
set_option maxHeartbeats 8000000 in
set_option maxRecDepth 100000 in
theorem pMeet_any (a1 : Option Addr) (c1 : Nat) (L1 : List IvG) (a2 : Option Addr) (c2 : Nat) (L2 : List IvG) (w : World) (h1 : IvArg w a1 L1) (h2 : IvArg w a2 L2) :
    Calls Tryz.prog 16 #[.slice a1 L1.length c1, .slice a2 L2.length c2] w (MeetE L1 L2 w) := by
  obtain ⟨i0, hi, hz0, hz1, hz2⟩ := info_parts info_st3
  have HBO := Lib.hid (pboth_any a1 c1 L1 a2 c2 L2 w h1 h2)
  clear h1 h2
  rcases Bool.eq_false_or_eq_true (spanB L1 && spanB L2) with hb | hb
  rotate_left
  · have HE : Hid (∀ e w', Below w.heap.size w w' → e = .returned (.tuple #[.slice none 0 0, .int .i64 80]) → MeetE L1 L2 w e w') := Lib.hid (fun e w' g1 g2 => by unfold MeetE; rw [hb]; exact ⟨g1, g2⟩)
    go_enter Tryz.func16, Tryz.ntmps16
    go_wp2_with (go_at_call 36; refine HBO.out.mono ?_; rintro e w1 ⟨hb1, h0, h1⟩; obtain rfl := h0 hb; have HB := Lib.hid hb1; clear h0 h1 hb1)
    go_ret2
    exact HE.out _ _ HB.out rfl
  have HE : Hid (∀ e w', SetE (meets (spanM L1) (spanM L2)) w e w' → MeetE L1 L2 w e w') := Lib.hid (fun e w' g => by unfold MeetE; rw [hb]; exact g)
  have HLN : Hid (L1.length ≤ 16 ∧ L2.length ≤ 16) := Lib.hid (by
    simp only [Bool.and_eq_true] at hb
    exact ⟨spanB_len hb.1, spanB_len hb.2⟩)
  go_enter Tryz.func16, Tryz.ntmps16
  go_wp2_with (go_at_call 36; refine HBO.out.mono ?_; rintro e w1 ⟨hb1, h0, h1⟩; obtain ⟨u1, u2, rfl, hr1, hr2, hok1, hok2⟩ := h1 hb; have HB := Lib.hid hb1; have HR1 := Lib.hid hr1; have HR2 := Lib.hid hr2; have HOK1 := Lib.hid hok1; have HOK2 := Lib.hid hok2; clear h0 h1 hb1 hr1 hr2 hok1 hok2; refine Hid.out ?_)
  refine Lib.hid ?_
  have hm1 := spanM_map L1
  have hm2 := spanM_map L2
  have HL1 : Hid ((L1.map toSt).length ≤ 16 ∧ (L2.map toSt).length ≤ 16) := Lib.hid (by rw [List.length_map, List.length_map]; exact HLN.out)
  rw [← hm1, ← hm2] at HE
  clear hm1 hm2 hb HBO HLN
  generalize L1.map toSt = A at *
  generalize L2.map toSt = C at *
  obtain ⟨va1, cp1, rfl⟩ := HR1.out.value
  obtain ⟨va2, cp2, rfl⟩ := HR2.out.value
  go_wp2_with fail
  go_loopw [9, 11, 13, 26, 32] (fun u _ _ i _ wq => ∃ (k : Nat) (M : List StR), i = .int .i64 k ∧ Hid (MeetI A C w1 wq u k 0 M)) (fun _ _ _ i _ _ => A.length - (intOf i).toNat)
  case atStart => exact ⟨0, [], rfl, Lib.hid ⟨Nat.zero_le _, by simp [meets], World.ownsRow_nil _ _ _ _, fun x h => (by cases h), Below.refl _ _, by simp⟩⟩
  case round =>
    obtain ⟨k, M, rfl, HI⟩ := hrel
    rename World => wr
    have hkl := HI.out.le
    by_cases hlt : k < A.length
    · have hdec : decide (k < A.length) = true := by simpa using hlt
      obtain ⟨g, x, hx, hxm, hxs, rfl, -, -, hg, -, -, c0, c1, c2, c3, c4, c5, c6, c7, c8, c9⟩ := (HR1.out.below HI.out.below).at k hlt
      have HXS : Hid ((A.map StR.st)[k]? = some x.st) := Lib.hid (by rw [List.getElem?_map, hxs]; rfl)
      have HXO := Lib.hid ((HOK1.out x hxm).gr HI.out.below)
      have hnx := heap_alloc_new wr (stO x)
      have hgx : wr.heap.size < (wr.alloc (stO x)).heap.size := by simp
      have hb4 : Below wr.heap.size wr (wr.alloc (stO x)) := (Below.refl _ wr).alloc (Nat.le_refl _) _
      have HNE : Hid (u9.ownBlock ≠ some wr.heap.size) := Lib.hid (fun e => by
        have := (World.ownsRow.lt HI.out.row wr.heap.size e).2
        omega)
      have HI4 : Hid (MeetI A C w1 (wr.alloc (stO x)) u9 k 0 M) := Lib.hid ⟨HI.out.le, HI.out.st, HI.out.row.below hb4, HI.out.ok.gr hb4, HI.out.below.alloc HI.out.below.size _, HI.out.len⟩
      have HXO4 := Lib.hid (HXO.out.gr hb4)
      have HNX := Lib.hid hnx
      have HGX := Lib.hid hgx
      clear hx hxm hxs hnx hgx hb4
      go_wp2_with fail
      clear c0 c1 c2 c3 c4 c5 c6 c7 c8 c9
      generalize wr.alloc (stO x) = w4 at *
      go_loopw [9, 13, 32] (fun u _ j wq => ∃ (m : Nat) (M : List StR), j = .int .i64 m ∧ m ≤ C.length ∧ Hid (MeetI A C w1 wq u k m M) ∧ Hid (wq.heap[wr.heap.size]? = some (stO x)) ∧ Hid (u.ownBlock ≠ some wr.heap.size) ∧ Hid (StOk wq x) ∧ Hid (wr.heap.size < wq.heap.size)) (fun _ _ j _ => C.length - (intOf j).toNat)
      case atStart => exact ⟨0, M, rfl, Nat.zero_le _, HI4, HNX, HNE, HXO4, HGX⟩
      case round =>
        obtain ⟨m, M2, rfl, hm, HJ, HXB, HNB, HXW, HXL⟩ := hrel
        rename World => wq
        by_cases hlt2 : m < C.length
        · have hdec2 : decide (m < C.length) = true := by simpa using hlt2
          obtain ⟨g', y, hy, hym, hys, rfl, -, -, hg', -, -, c0, c1, c2, c3, c4, c5, c6, c7, c8, c9⟩ := (HR2.out.below HJ.out.below).at m hlt2
          have hmb : m ≤ 16 := by have := HL1.out.2; omega
          have HYS : Hid ((C.map StR.st)[m]? = some y.st) := Lib.hid (by rw [List.getElem?_map, hys]; rfl)
          have hb5 : Below wq.heap.size wq (wq.alloc (stO y)) := (Below.refl _ wq).alloc (Nat.le_refl _) _
          have HYO := Lib.hid (((HOK2.out y hym).gr HJ.out.below).gr hb5)
          have HXO5 := Lib.hid (HXW.out.gr hb5)
          have hny := heap_alloc_new wq (stO y)
          have hxl := HXL.out
          have hnx5 := (heap_alloc_old wq (stO y) (r := wr.heap.size) hxl).trans HXB.out
          obtain ⟨q0, q1, q2, q3, q4, q5, q6, q7, q8, q9⟩ := st_cells hnx5
          obtain ⟨p0, p1, p2, p3, p4, p5, p6, p7, p8, p9⟩ := st_cells hny
          have HM := Lib.hid (pmeet_any x y (wq.alloc (stO y)) HXO5.out HYO.out)
          have HMS := Lib.hid (meetR_st x y)
          have HMO := Lib.hid (meetR_ok HXO5.out HYO.out)
          have HB5 := Lib.hid hb5
          have HX5 := Lib.hid hnx5
          clear hy hym hys hny hnx5 hb5
          generalize meetR x y = z at *
          go_wp2_with (go_at_call 37; refine HM.out.mono ?_; rintro e w5 ⟨rfl, hg5⟩; refine Hid.out ?_)
          refine Lib.hid ?_
          have HB6 : Hid (Below wq.heap.size wq w5) := Lib.hid (HB5.out.trans (hg5.below.mono HB5.out.size))
          have HX6 : Hid (w5.heap[wr.heap.size]? = some (stO x)) := Lib.hid ((hg5.below.block _ (Array.getElem?_eq_some_iff.1 HX5.out).1).trans HX5.out)
          have HZ6 : Hid (StOk w5 z) := Lib.hid (HMO.out.gr hg5.below)
          have HXW6 : Hid (StOk w5 x) := Lib.hid (HXO5.out.gr hg5.below)
          have HROW6 : Hid (StRow w5 w1.heap.size u9 M2) := Lib.hid (HJ.out.row.below HB6.out)
          have HLN6 : Hid (M2.length ≤ 1000) := Lib.hid (by
            have h := HJ.out.len
            have h2 := HL1.out
            have : k * C.length ≤ 16 * 16 := Nat.mul_le_mul (by omega) (by omega)
            omega)
          have HW6 : Hid (Below w1.heap.size w1 w5) := Lib.hid (HJ.out.below.trans (HB6.out.mono HJ.out.below.size))
          clear hg5 q0 q1 q2 q3 q4 q5 q6 q7 q8 q9 p0 p1 p2 p3 p4 p5 p6 p7 p8 p9 c0 c1 c2 c3 c4 c5 c6 c7 c8 c9 HM HX5 HMO HYO hxl
          have hrow6 := HROW6.out
          unfold StRow at hrow6
          go_wp2_with (at_builtin; refine wpList_append_own_at _ rfl _ _ 54 rfl w1.heap.size 73 i0 _ 10 96 Tryz.underlying54 hi hz0 hz1 hz2 rfl (by decide) _ _ _ rfl (hrow6.alloc _) ⟨w5.heap.size, 0, none⟩ 1 1 (stL z) rfl rfl ?c1 ?c2 ?c3 ?c4 ?c5 ?_)
          case c1 => exact cells_new w5 (stL z) 73
          case c2 => exact st_ones z
          case c3 => have := HLN6.out; unfold maxLen; omega
          case c4 => have := HLN6.out; omega
          case c5 => have := HW6.out.size; simp; omega
          intro v' w6 hown6 hg6 _ hat
          have HNEXT : Hid (MeetI A C w1 w6 v' k (m + 1) (M2 ++ [z])) := Lib.hid ⟨HJ.out.le, by
              rw [List.map_append, HJ.out.st, HXS.out, List.append_assoc]
              congr 1
              simp only [Option.toList_some, List.flatMap_cons, List.flatMap_nil, List.append_nil]
              rw [List.take_add_one, HYS.out, List.map_append]
              simp [HMS.out], by
              unfold StRow
              rw [List.flatMap_append, List.length_append]
              simpa using hown6, fun s hs => by
              have key : ∀ z, StOk w5 z → StOk w6 z := fun z hz => ok_grown (hz.gr ((Below.refl _ w5).alloc (Nat.le_refl _) _)) (World.ownsRow.alloc HROW6.out _) (by decide) hg6
              rcases List.mem_append.1 hs with hs | hs
              · exact key s ((HJ.out.ok.gr HB6.out) s hs)
              · rw [List.mem_singleton.1 hs]; exact key _ HZ6.out, (HW6.out.alloc HW6.out.size _).grown hg6 (by simp; have := HW6.out.size; omega) (fun j hj => (World.ownsRow.lt HROW6.out j hj).1), by
              rw [List.length_append, HJ.out.len]; simp; omega⟩
          have hxl6 : wr.heap.size < w5.heap.size := (Array.getElem?_eq_some_iff.1 HX6.out).1
          have HXB6 : Hid (w6.heap[wr.heap.size]? = some (stO x)) := Lib.hid ((hg6.block _ (by simp; omega) (fun e => HNB.out e.symm)).trans ((Below.heap_alloc _ _ _ hxl6).trans HX6.out))
          have HNB6 : Hid (v'.ownBlock ≠ some wr.heap.size) := Lib.hid (fun e => by
            rcases hat with h | h
            · exact HNB.out (h.symm.trans e)
            · rw [h] at e; have := Option.some.inj e; omega)
          have HXW7 : Hid (StOk w6 x) := Lib.hid (ok_grown (HXW6.out.gr ((Below.refl _ w5).alloc (Nat.le_refl _) _)) (World.ownsRow.alloc HROW6.out _) (by decide) hg6)
          have HXL6 : Hid (wr.heap.size < w6.heap.size) := Lib.hid (Array.getElem?_eq_some_iff.1 HXB6.out).1
          clear hown6 hg6 hat hrow6 hxl6
          go_wp2_with fail
          go_roundw
          case rel => exact ⟨m + 1, _, by go_num, hlt2, HNEXT, HXB6, HNB6, HXW7, HXL6⟩
          case measure => simp [intOf]; omega
        · have hdec2 : decide (m < C.length) = false := by simpa using hlt2
          have hme : m = C.length := by omega
          have HNEXT : Hid (MeetI A C w1 wq u9 (k + 1) 0 M2) := Lib.hid ⟨hlt, by
            have e : (C.map StR.st).take C.length = C.map StR.st := List.take_of_length_le (by rw [List.length_map]; exact Nat.le_refl _)
            rw [HJ.out.st, HXS.out, take_all_meets _ _ k _ HXS.out, hme, e]
            cases (A.map StR.st)[k + 1]? <;> simp, HJ.out.row, HJ.out.ok, HJ.out.below, by rw [HJ.out.len, hme, Nat.add_mul, Nat.one_mul]; rfl⟩
          have hkb : k ≤ 16 := by have := HL1.out.1; omega
          go_wp2_with fail
          go_roundw
          case rel => exact ⟨k + 1, _, by go_num, HNEXT⟩
          case measure => simp [intOf]; omega
    · have hdec : decide (k < A.length) = false := by simpa using hlt
      have hke : k = A.length := by omega
      have HST : Hid (M.map StR.st = meets (A.map StR.st) (C.map StR.st)) := Lib.hid (by
        have h := HI.out.st
        rw [hke, List.take_of_length_le (by rw [List.length_map]; exact Nat.le_refl _), List.getElem?_eq_none (by rw [List.length_map]; exact Nat.le_refl _)] at h
        simpa using h)
      have HFM := Lib.hid (pform_any u9 M wr w1.heap.size HI.out.below.size HI.out.row HI.out.ok (by
        have h := HI.out.len
        have h2 := HL1.out
        have : k * C.length ≤ 16 * 16 := Nat.mul_le_mul (by omega) (by omega)
        omega))
      rw [HST.out] at HFM
      go_wp2_with (go_at_call 39; refine HFM.out.mono ?_; rintro e w5 ⟨u5, R, rfl, hr5, hok5, hm5, hb5⟩; have HFI := Lib.hid (pformIv R _ u5 w5 (row_base hr5 (Nat.zero_le _)) hok5 hm5); have HB5 := Lib.hid (HI.out.below.trans hb5); clear hr5 hok5 hm5 hb5; refine Hid.out ?_)
      refine Lib.hid ?_
      go_wp2_with (go_at_call 38; refine HFI.out.mono ?_; rintro e w6 ⟨v6, n6, rfl, hs6⟩; have HS6 := Lib.hid (hs6.base (HB.out.trans (HB5.out.mono HB.out.size))); clear hs6)
      go_ret2
      exact HE.out _ _ HS6.out
end SpanC
end Go.Proofs.YtapikdgncdcneaaGreatDoor
