/-
  Package span's stretches: what a span has, if it is in its one form.
-/
import Derived.Test.YtapikdgncdcneaaGreatDoorSpanP3
namespace Go.Proofs.YtapikdgncdcneaaGreatDoor
open Go.RowKit
namespace SpanC
open VerM SpanM StrC TextR VerC
set_option linter.unusedSimpArgs false

theorem IvRow.value {w : World} {B : Nat} {v : Value} {L : List IvG} (h : IvRow w B v L) : ∃ a cp, v = .slice a L.length cp := by
  rcases h.2 with ⟨rfl, h0⟩ | ⟨g, cp, cur, rfl, _⟩
  · exact ⟨none, 0, by rw [h0]⟩
  · exact ⟨_, _, rfl⟩
/-- a list of intervals that can be read -/
structure IvIn (w : World) (a : Option Addr) (n : Nat) (L : List IvG) : Prop where
  len : n = L.length
  cells : 0 < L.length → ∃ g o, a = some ⟨g, o, none⟩ ∧ ∀ i, i < L.length → ∀ c, c < 11 → w.cell? ⟨g, o + i * 11 + c, none⟩ = some ((gvL L[i]!)[c]!)
theorem IvIn.below {w w' : World} {a : Option Addr} {n : Nat} {L : List IvG} (h : IvIn w a n L) (g : Below w.heap.size w w') : IvIn w' a n L := by
  refine ⟨h.len, fun h0 => ?_⟩
  obtain ⟨b, o, e, hc⟩ := h.cells h0
  exact ⟨b, o, e, fun i hi c hc' => by rw [g.cell (World.block_lt_of_cell? _ _ (hc i hi c hc'))]; exact hc i hi c hc'⟩
theorem IvRow.in_ {w : World} {B : Nat} {a : Option Addr} {n cp : Nat} {L : List IvG} (h : IvRow w B (.slice a n cp) L) : IvIn w a n L := by
  have h' : w.ownsRow B 53 11 (.slice a n cp) L.length (L.flatMap gvL) := h
  have h0 := h'
  obtain ⟨_, ⟨h1, h2⟩ | ⟨g, cp', cur, e1, hg0, hblk, _⟩⟩ := h'
  · simp only [Value.slice.injEq] at h1
    exact ⟨h1.2.1.trans h2.symm, fun h => by omega⟩
  · simp only [Value.slice.injEq] at e1
    obtain ⟨rfl, rfl, rfl⟩ := e1
    refine ⟨rfl, fun _ => ⟨g, 0, rfl, fun i hi c hc => ?_⟩⟩
    rw [Nat.zero_add, h0.cellAt (i * 11 + c) (by omega), RowKC.flat_get gvL 11 gvL_length L _ (by omega), show (i * 11 + c) / 11 = i from by omega, show (i * 11 + c) % 11 = c from by omega]
theorem IvIn.at {w : World} {a : Option Addr} {n : Nat} {L : List IvG} (h : IvIn w a n L) (i : Nat) (hi : i < L.length) : ∃ (g o : Nat) (x : IvG), x = L[i]! ∧ x ∈ L ∧ L[i]? = some x ∧ a = some ⟨g, o, none⟩ ∧
    w.cell? ⟨g, o + i * 11, none⟩ = some (.int .u32 x.lv.a) ∧ w.cell? ⟨g, o + i * 11 + 1, none⟩ = some (.int .u32 x.lv.b) ∧ w.cell? ⟨g, o + i * 11 + 2, none⟩ = some (.int .u32 x.lv.c) ∧ w.cell? ⟨g, o + i * 11 + 3, none⟩ = some (.slice x.la x.lv.pre.length x.lc) ∧ w.cell? ⟨g, o + i * 11 + 4, none⟩ = some (.bool x.lo) ∧
    w.cell? ⟨g, o + i * 11 + 5, none⟩ = some (.int .u32 x.hv.a) ∧ w.cell? ⟨g, o + i * 11 + 6, none⟩ = some (.int .u32 x.hv.b) ∧ w.cell? ⟨g, o + i * 11 + 7, none⟩ = some (.int .u32 x.hv.c) ∧ w.cell? ⟨g, o + i * 11 + 8, none⟩ = some (.slice x.ha x.hv.pre.length x.hc) ∧ w.cell? ⟨g, o + i * 11 + 9, none⟩ = some (.bool x.ho) ∧ w.cell? ⟨g, o + i * 11 + 10, none⟩ = some (.bool x.e) := by
  obtain ⟨g, o, rfl, key⟩ := h.cells (by omega)
  have hx : L[i]? = some L[i]! := by rw [List.getElem?_eq_getElem hi, getElem!_pos L i hi]
  have k := key i hi
  exact ⟨g, o, L[i]!, rfl, List.mem_of_getElem? hx, hx, rfl, k 0 (by omega), k 1 (by omega), k 2 (by omega), k 3 (by omega), k 4 (by omega), k 5 (by omega), k 6 (by omega), k 7 (by omega), k 8 (by omega), k 9 (by omega), k 10 (by omega)⟩
/-- is the i-th interval as it must be, behind the one ahead of it? -/
def goodAt (L : List IvG) (i : Nat) : Bool := rightB L[i]! && !empB (toSt L[i]!).st && (decide (i = 0) || decide (cE (toSt L[i - 1]!).t.ed (toSt L[i]!).f.ed < 0))
/-- is it a span in its one form? -/
def spanB (L : List IvG) : Bool := decide (L.length ≤ 16) && (List.range L.length).all (goodAt L)
theorem range_all (p : Nat → Bool) (k : Nat) : (List.range (k + 1)).all p = ((List.range k).all p && p k) := by rw [List.range_succ, List.all_append]; simp
theorem toSt_ok {w : World} {x : IvG} (h : IvTx w x) (hr : rightB x = true) : StOk w (toSt x) := by
  unfold rightB at hr
  simp only [Bool.and_eq_true] at hr
  obtain ⟨⟨h1, h2⟩, h3⟩ := hr
  refine ⟨⟨⟨h1, ?_, ?_⟩, h.l.txs, h.l.kind, h.l.nil⟩, ?_⟩
  · show (if x.lo = true then 1 else 0) ≤ 2; split <;> omega
  · show (if x.lo = true then 1 else 0) = 2 → _; split <;> intro h <;> omega
  · unfold toSt
    by_cases he : x.e = true
    · simp only [he, if_true]
      exact ⟨allS_wf.2, Txs.nil _ _ _, fun b f e => (by cases e), fun _ => ⟨rfl, rfl⟩⟩
    · simp only [he, if_false]
      refine ⟨⟨h2, ?_, ?_⟩, h.h.txs, h.h.kind, h.h.nil⟩
      · show (if x.ho = true then 0 else 1) ≤ 2; split <;> omega
      · show (if x.ho = true then 0 else 1) = 2 → _; split <;> intro h <;> omega
theorem st_ones (x : StR) : ∀ u ∈ stL x, u.oneCell' = true := by
  intro u hu
  simp only [List.mem_cons, List.not_mem_nil, or_false] at hu
  rcases hu with rfl | rfl | rfl | rfl | rfl | rfl | rfl | rfl | rfl | rfl <;> rfl
theorem info_st3 : (Tryz.prog.info? 73).map (fun i => (i.zero, i.size, i.bytes)) = some (some (.agg #[.int .u32 0, .int .u32 0, .int .u32 0, .slice none 0 0, .int .i64 0, .int .u32 0, .int .u32 0, .int .u32 0, .slice none 0 0, .int .i64 0]), 10, 96) := by kernel_rfl
/-- how stretches ends -/
def StretchE (L : List IvG) (w : World) (e : Ending) (w' : World) : Prop := Below w.heap.size w w' ∧ (spanB L = false → e = .returned (.tuple #[.slice none 0 0, .int .i64 80])) ∧
  (spanB L = true → ∃ u, e = .returned (.tuple #[u, .int .i64 0]) ∧ StRow w' w.heap.size u (L.map toSt) ∧ AllOk w' (L.map toSt))
set_option maxHeartbeats 8000000 in
set_option maxRecDepth 100000 in
theorem pstretches_any (a : Option Addr) (cp : Nat) (L : List IvG) (w : World) (hr : IvIn w a L.length L) (ht : ∀ x ∈ L, IvTx w x) :
    Calls Tryz.prog 24 #[.slice a L.length cp] w (StretchE L w) := by
  obtain ⟨i0, hi, hz0, hz1, hz2⟩ := info_parts info_st3
  by_cases hl : L.length ≤ 16
  rotate_left
  · have hdl : decide ((16 : Int) < (L.length : Int)) = true := decide_eq_true (by omega)
    have HS : Hid (spanB L = false) := Lib.hid (by unfold spanB; rw [decide_eq_false hl]; rfl)
    clear hr ht
    go_enter Tryz.func24, Tryz.ntmps24
    go_wp2_with fail
    go_ret2
    exact ⟨Below.refl _ _, fun _ => rfl, fun h => by rw [HS.out] at h; cases h⟩
  have hdl : decide ((16 : Int) < (L.length : Int)) = false := decide_eq_false (by omega)
  have HR := Lib.hid hr
  have HT := Lib.hid ht
  have HSL : Hid (spanB L = (List.range L.length).all (goodAt L)) := Lib.hid (by unfold spanB; rw [decide_eq_true hl]; rfl)
  clear hr ht
  go_enter Tryz.func24, Tryz.ntmps24
  go_wp2_with fail
  go_loopw [4, 5, 6, 7, 13] (fun u _ _ _ i wr => ∃ k : Nat, i = .int .i64 k ∧ k ≤ L.length ∧ Hid ((List.range k).all (goodAt L) = true) ∧ Hid (StRow wr w.heap.size u ((L.take k).map toSt)) ∧ Hid (AllOk wr ((L.take k).map toSt)) ∧ Hid (Below w.heap.size w wr)) (fun _ _ _ _ i _ => L.length - (intOf i).toNat)
  case atStart => exact ⟨0, rfl, Nat.zero_le _, Lib.hid rfl, Lib.hid (World.ownsRow_nil _ _ _ _), Lib.hid (fun x h => (by cases h)), Lib.hid (Below.refl _ _)⟩
  case round =>
    obtain ⟨k, rfl, hk, HG, HO, HA, HW⟩ := hrel
    rename World => wr
    by_cases hlt : k < L.length
    · have hdec : decide (k < L.length) = true := by simpa using hlt
      obtain ⟨g, o, x, hx, hxm, hxs, rfl, c0, c1, c2, c3, c4, c5, c6, c7, c8, c9, c10⟩ := (HR.out.below HW.out).at k hlt
      have HX := Lib.hid (And.intro hx (And.intro hxm hxs))
      have HB1 := Lib.hid (HW.out.alloc HW.out.size (gvO x))
      have hnx := heap_alloc_new wr (gvO x)
      have hgx : wr.heap.size < (wr.alloc (gvO x)).heap.size := by simp
      have HNX := Lib.hid hnx
      have HGX := Lib.hid hgx
      obtain ⟨q0, q1, q2, q3, q4, q5, q6, q7, q8, q9, q10⟩ := gv_cells hnx
      have HTX := Lib.hid (HT.out x hxm)
      have HM := Lib.hid (fun w' (g : Below w.heap.size w w') => pmayI_any x w' (HTX.out.gr g))
      clear hx hxm hxs hnx hgx
      have HGK : Hid ((List.range (k + 1)).all (goodAt L) = goodAt L k) := Lib.hid (by rw [range_all, HG.out]; rfl)
      have HBAD : Hid (goodAt L k = false → spanB L = false) := Lib.hid (fun h => by
        rw [HSL.out, Bool.eq_false_iff]; intro e
        have := List.all_eq_true.1 e k (List.mem_range.2 hlt)
        rw [h] at this; cases this)
      rcases Bool.eq_false_or_eq_true (rightB x) with hrx | hrx
      rotate_left
      · rw [hrx] at HM
        have HB := Lib.hid (HBAD.out (by unfold goodAt; rw [← HX.out.1, hrx]; rfl))
        go_wp2_with (go_at_call 51; refine (HM.out _ HB1.out).mono ?_; rintro e w2 ⟨rfl, hb⟩)
        go_ret2
        exact ⟨HB1.out.trans (hb.mono HB1.out.size), fun _ => rfl, fun h => absurd (h.symm.trans HB.out) (by decide)⟩
      · rw [hrx] at HM
        go_wp2_with (go_at_call 51; refine (HM.out _ HB1.out).mono ?_; rintro e w2 ⟨rfl, hb⟩; refine Hid.out ?_)
        refine Lib.hid ?_
        have HB2 := Lib.hid (HB1.out.trans (hb.mono HB1.out.size))
        have HOKX := Lib.hid (toSt_ok HTX.out hrx)
        have hn2 := (hb.block _ HGX.out).trans HNX.out
        clear q0 q1 q2 q3 q4 q5 q6 q7 q8 q9 q10 c0 c1 c2 c3 c4 c5 c6 c7 c8 c9 c10 HM HNX HGX
        obtain ⟨q0, q1, q2, q3, q4, q5, q6, q7, q8, q9, q10⟩ := gv_cells hn2
        have HWR : Hid (Below wr.heap.size wr w2) := Lib.hid (((Below.refl _ wr).alloc (Nat.le_refl _) _).trans (hb.mono (by simp)))
        clear hn2 hb
        go_wp2_with (go_at_call 52; refine (pstretchOf_any x _).mono ?_; rintro e w3 ⟨rfl, hb3⟩; refine Hid.out ?_)
        refine Lib.hid ?_
        have HB3 := Lib.hid (HB2.out.trans (hb3.mono HB2.out.size))
        have HWR3 : Hid (Below wr.heap.size wr w3) := Lib.hid (HWR.out.trans (hb3.mono HWR.out.size))
        clear q0 q1 q2 q3 q4 q5 q6 q7 q8 q9 q10 hb3 HWR
        have HEY : Hid (StOk w3 (toSt x)) := Lib.hid (HOKX.out.gr HB3.out)
        have HYX : Hid (toSt x = toSt x) := Lib.hid rfl
        have HGA : Hid (goodAt L k = (!empB (toSt x).st && (decide (k = 0) || decide (cE (toSt L[k - 1]!).t.ed (toSt x).f.ed < 0)))) := Lib.hid (by unfold goodAt; rw [← HX.out.1, hrx]; rfl)
        have HTK : Hid ((L.take (k + 1)).map toSt = (L.take k).map toSt ++ [toSt x]) := Lib.hid (by rw [List.take_add_one, List.map_append, HX.out.2.2]; rfl)
        generalize hy : toSt x = y at *
        clear HYX hy hrx HOKX
        go_upto_region 10 with fail
        have hnx := heap_alloc_new w3 (stO y)
        obtain ⟨q0, q1, q2, q3, q4, q5, q6, q7, q8, q9⟩ := st_cells hnx
        have hgx : w3.heap.size < (w3.alloc (stO y)).heap.size := by simp
        have HB4 := Lib.hid (HB3.out.alloc HB3.out.size (stO y))
        have HWR4 := Lib.hid (HWR3.out.alloc HWR3.out.size (stO y))
        have HY4 := Lib.hid (HEY.out.gr ((Below.refl _ w3).alloc (Nat.le_refl _) (stO y)))
        clear HB3 HWR3 HEY
        have HO4 := Lib.hid (HO.out.below HWR4.out)
        have HA4 := Lib.hid (HA.out.gr HWR4.out)
        have hqe : ∀ w4, w4 = w3.alloc (stO y) → w4.heap[w3.heap.size]? = some (stO y) := fun w4 e => by rw [e]; exact hnx
        generalize hw4 : w3.alloc (stO y) = w4 at *
        have HN4 := Lib.hid hnx
        clear hnx hqe hw4
        have k0 := cell_regrown q0
        have k1 := cell_regrown q1
        have k2 := cell_regrown q2
        have k3 := cell_regrown q3
        have k4 := cell_regrown q4
        have k5 := cell_regrown q5
        have k6 := cell_regrown q6
        have k7 := cell_regrown q7
        have k8 := cell_regrown q8
        have k9 := cell_regrown q9
        have HCE := Lib.hid (fun d os => pempty_any y (Go.Sort.grow (redrawn w4 d) os) (HY4.out.gr (below_regrown w4 d os)))
        obtain ⟨eb, heb⟩ : ∃ b, empB y.st = b := ⟨_, rfl⟩
        rw [heb] at HCE HGA
        have cE1 : ∀ d os, Calls Tryz.prog 53 #[stV y] (Go.Sort.grow (redrawn w4 d) os) _ := fun d os => Calls.regrown_of ((HCE.out d os).mono fun _ _ h => ⟨h.1, h.2.below⟩)
        clear q0 q1 q2 q3 q4 q5 q6 q7 q8 q9 heb
        have HFIN : Hid (∀ wq, Below w4.heap.size w4 wq → goodAt L k = false → StretchE L w (.returned (.tuple #[.slice none 0 0, .int .i64 80])) wq) := Lib.hid (fun wq h hb => ⟨HB4.out.trans (h.mono HB4.out.size), fun _ => rfl, fun h2 => by rw [HBAD.out hb] at h2; cases h2⟩)
        cases eb with
        | true =>
          have HG0 : Hid (goodAt L k = false) := Lib.hid (by rw [HGA.out]; rfl)
          go_wp2_with fail
          refine wp_region_quiet_below (by kernel_rfl) (by kernel_rfl) ?_
          repeat (first | go_big_quiet_step (exact cE1 _ _) | quiet_step (exact cE1 _ _))
          refine wpQuiet_nil ?_
          intro _ hw'
          obtain ⟨⟨dq, osq⟩, hw''⟩ := hw'
          subst hw''
          have HBQ := Lib.hid (below_regrown w4 dq osq)
          clear cE1 HCE k0 k1 k2 k3 k4 k5 k6 k7 k8 k9
          generalize Go.Sort.grow (redrawn w4 dq) osq = w5 at *
          go_wp2_with fail
          go_ret2
          exact HFIN.out _ HBQ.out HG0.out
        | false =>
          rcases Nat.eq_zero_or_pos k with rfl | hk0
          · have HG1 : Hid (goodAt L 0 = true) := Lib.hid (by rw [HGA.out]; rfl)
            go_wp2_with fail
            refine wp_region_quiet_below (by kernel_rfl) (by kernel_rfl) ?_
            repeat (first | go_big_quiet_step (exact cE1 _ _) | quiet_step (exact cE1 _ _))
            refine wpQuiet_nil ?_
            intro _ hw'
            obtain ⟨⟨dq, osq⟩, hw''⟩ := hw'
            subst hw''
            have HBQ := Lib.hid (below_regrown w4 dq osq)
            clear cE1 HCE k0 k1 k2 k3 k4 k5 k6 k7 k8 k9 
            generalize Go.Sort.grow (redrawn w4 dq) osq = w5 at *
            have hn5 := (HBQ.out.block _ hgx).trans HN4.out
            obtain ⟨q0, q1, q2, q3, q4, q5, q6, q7, q8, q9⟩ := st_cells hn5
            have hown5 := HO4.out.below HBQ.out
            unfold StRow at hown5
            rw [show ((L.take 0).map toSt).length = 0 from by rw [List.length_map, List.length_take]; omega] at hown5
            have HO5 := Lib.hid hown5
            have HB5 := Lib.hid (HB4.out.trans (HBQ.out.mono HB4.out.size))
            have HA5 := Lib.hid (HA4.out.gr HBQ.out)
            have HY5 := Lib.hid (HY4.out.gr HBQ.out)
            have HSZ := Lib.hid HB5.out.size
            clear hn5 HBQ HB4 HA4 HY4 HN4 HO4 hgx HWR4
            go_wp2_with (at_builtin; refine wpList_append_own _ rfl _ _ 54 rfl w.heap.size 73 i0 _ 10 96 Tryz.underlying54 hi hz0 hz1 hz2 rfl (by decide) _ _ _ rfl (hown5.alloc _) ⟨w5.heap.size, 0, none⟩ 1 1 (stL y) rfl rfl ?c1 ?c2 ?c3 ?c4 ?c5 ?_)
            case c1 => exact cells_new w5 (stL y) 73
            case c2 => exact st_ones y
            case c3 => unfold maxLen; omega
            case c4 => omega
            case c5 => have := HSZ.out; simp; omega
            intro v' w6 hown6 hg6 _
            have HROW : Hid (StRow w6 w.heap.size v' ((L.take (0 + 1)).map toSt)) := Lib.hid (by
              rw [HTK.out]; unfold StRow
              rw [List.flatMap_append, List.length_append, show ((L.take 0).map toSt).length = 0 from by rw [List.length_map, List.length_take]; omega]
              simpa using hown6)
            have HALL : Hid (AllOk w6 ((L.take (0 + 1)).map toSt)) := Lib.hid (by
              have key : ∀ z, StOk w5 z → StOk w6 z := fun z hz => ok_grown (hz.gr ((Below.refl _ w5).alloc (Nat.le_refl _) _)) (HO5.out.alloc _) (by decide) hg6
              rw [HTK.out]
              intro z hz
              rcases List.mem_append.1 hz with hz | hz
              · exact key z (HA5.out z hz)
              · rw [List.mem_singleton.1 hz]; exact key _ HY5.out)
            have HBW : Hid (Below w.heap.size w w6) := Lib.hid ((HB5.out.alloc HB5.out.size _).grown hg6 (by simp; have := HB5.out.size; omega) (fun j hj => (World.ownsRow.lt HO5.out j hj).1))
            have HG5 : Hid ((List.range (0 + 1)).all (goodAt L) = true) := Lib.hid (HGK.out.trans HG1.out)
            clear hown6 hg6 hown5
            go_wp2_with fail
            go_roundw
            case rel => exact ⟨0 + 1, by go_num, hlt, HG5, HROW, HALL, HBW⟩
            case measure => simp [intOf]; omega
          · obtain ⟨p, rfl⟩ : ∃ p, k = p + 1 := ⟨k - 1, by omega⟩
            have hpos : decide ((0 : Int) < ((p + 1 : Nat) : Int)) = true := decide_eq_true (by omega)
            have hOv := HO4.out
            obtain ⟨va, cp2, rfl⟩ := hOv.value
            obtain ⟨g2, z, hz, hzm, hzs, rfl, -, -, hg2l, -, -, z0, z1, z2, z3, z4, z5, z6, z7, z8, z9⟩ := hOv.at p (by rw [List.length_map, List.length_take]; omega)
            have hLP : ((L.take (p + 1)).map toSt).length = p + 1 := by rw [List.length_map, List.length_take]; omega
            rw [hLP] at *
            have hzL : toSt L[p]! = z := by
              have : ((L.take (p + 1)).map toSt)[p]? = some (toSt L[p]!) := by rw [List.getElem?_map, List.getElem?_take_of_lt (by omega), List.getElem?_eq_getElem (by omega), getElem!_pos L p (by omega)]; rfl
              rw [hzs] at this
              exact (Option.some.inj this).symm
            have HZ4 := Lib.hid (HA4.out z hzm)
            have e5 := cell_regrown z5
            have e6 := cell_regrown z6
            have e7 := cell_regrown z7
            have e8 := cell_regrown z8
            have e9 := cell_regrown z9
            obtain ⟨r, hr⟩ : ∃ r, cE z.t.ed y.f.ed = r := ⟨_, rfl⟩
            have HCC := Lib.hid (fun d os => pcmp_any z.t y.f (Go.Sort.grow (redrawn w4 d) os) ((HZ4.out.gr (below_regrown w4 d os)).t) ((HY4.out.gr (below_regrown w4 d os)).f))
            rw [hr] at HCC
            have cC : ∀ d os, Calls Tryz.prog 54 #[edV z.t, edV y.f] (Go.Sort.grow (redrawn w4 d) os) _ := fun d os => Calls.regrown_of ((HCC.out d os).mono fun _ _ h => ⟨h.1, h.2.below⟩)
            have HGR : Hid (goodAt L (p + 1) = decide (r < 0)) := Lib.hid (by
              rw [HGA.out, show p + 1 - 1 = p from rfl, hzL, hr, decide_eq_false (show ¬ p + 1 = 0 by omega)]; simp)
            clear hr hzL hz hzs hzm z0 z1 z2 z3 z4 z5 z6 z7 z8 z9 hOv hLP hk0
            by_cases hr0 : r < 0
            · have d0 : decide (0 ≤ r) = false := decide_eq_false (by omega)
              have HG1 : Hid (goodAt L (p + 1) = true) := Lib.hid (HGR.out.trans (decide_eq_true hr0))
              clear hr0
              go_wp2_with fail
              refine wp_region_quiet_below (by kernel_rfl) (by kernel_rfl) ?_
              repeat (first | go_big_quiet_step (first | exact cE1 _ _ | exact cC _ _) | quiet_step (first | exact cE1 _ _ | exact cC _ _))
              refine wpQuiet_nil ?_
              intro _ hw'
              obtain ⟨⟨dq, osq⟩, hw''⟩ := hw'
              subst hw''
              have HBQ := Lib.hid (below_regrown w4 dq osq)
              clear cE1 HCE k0 k1 k2 k3 k4 k5 k6 k7 k8 k9 cC HCC e5 e6 e7 e8 e9
              generalize Go.Sort.grow (redrawn w4 dq) osq = w5 at *
              have hn5 := (HBQ.out.block _ hgx).trans HN4.out
              obtain ⟨q0, q1, q2, q3, q4, q5, q6, q7, q8, q9⟩ := st_cells hn5
              have hown5 := HO4.out.below HBQ.out
              unfold StRow at hown5
              rw [show ((L.take (p + 1)).map toSt).length = (p + 1) from by rw [List.length_map, List.length_take]; omega] at hown5
              have HO5 := Lib.hid hown5
              have HB5 := Lib.hid (HB4.out.trans (HBQ.out.mono HB4.out.size))
              have HA5 := Lib.hid (HA4.out.gr HBQ.out)
              have HY5 := Lib.hid (HY4.out.gr HBQ.out)
              have HSZ := Lib.hid HB5.out.size
              clear hn5 HBQ HB4 HA4 HY4 HN4 HO4 hgx HWR4
              go_wp2_with (at_builtin; refine wpList_append_own _ rfl _ _ 54 rfl w.heap.size 73 i0 _ 10 96 Tryz.underlying54 hi hz0 hz1 hz2 rfl (by decide) _ _ _ rfl (hown5.alloc _) ⟨w5.heap.size, 0, none⟩ 1 1 (stL y) rfl rfl ?c1 ?c2 ?c3 ?c4 ?c5 ?_)
              case c1 => exact cells_new w5 (stL y) 73
              case c2 => exact st_ones y
              case c3 => unfold maxLen; omega
              case c4 => omega
              case c5 => have := HSZ.out; simp; omega
              intro v' w6 hown6 hg6 _
              have HROW : Hid (StRow w6 w.heap.size v' ((L.take ((p + 1) + 1)).map toSt)) := Lib.hid (by
                rw [HTK.out]; unfold StRow
                rw [List.flatMap_append, List.length_append, show ((L.take (p + 1)).map toSt).length = (p + 1) from by rw [List.length_map, List.length_take]; omega]
                simpa using hown6)
              have HALL : Hid (AllOk w6 ((L.take ((p + 1) + 1)).map toSt)) := Lib.hid (by
                have key : ∀ z, StOk w5 z → StOk w6 z := fun z hz => ok_grown (hz.gr ((Below.refl _ w5).alloc (Nat.le_refl _) _)) (HO5.out.alloc _) (by decide) hg6
                rw [HTK.out]
                intro z hz
                rcases List.mem_append.1 hz with hz | hz
                · exact key z (HA5.out z hz)
                · rw [List.mem_singleton.1 hz]; exact key _ HY5.out)
              have HBW : Hid (Below w.heap.size w w6) := Lib.hid ((HB5.out.alloc HB5.out.size _).grown hg6 (by simp; have := HB5.out.size; omega) (fun j hj => (World.ownsRow.lt HO5.out j hj).1))
              have HG5 : Hid ((List.range ((p + 1) + 1)).all (goodAt L) = true) := Lib.hid (HGK.out.trans HG1.out)
              clear hown6 hg6 hown5
              go_wp2_with fail
              go_roundw
              case rel => exact ⟨(p + 1) + 1, by go_num, hlt, HG5, HROW, HALL, HBW⟩
              case measure => simp [intOf]; omega
            · have d0 : decide (0 ≤ r) = true := decide_eq_true (by omega)
              have HG0 : Hid (goodAt L (p + 1) = false) := Lib.hid (HGR.out.trans (decide_eq_false hr0))
              clear hr0
              go_wp2_with fail
              refine wp_region_quiet_below (by kernel_rfl) (by kernel_rfl) ?_
              repeat (first | go_big_quiet_step (first | exact cE1 _ _ | exact cC _ _) | quiet_step (first | exact cE1 _ _ | exact cC _ _))
              refine wpQuiet_nil ?_
              intro _ hw'
              obtain ⟨⟨dq, osq⟩, hw''⟩ := hw'
              subst hw''
              have HBQ := Lib.hid (below_regrown w4 dq osq)
              clear cE1 HCE k0 k1 k2 k3 k4 k5 k6 k7 k8 k9 cC HCC e5 e6 e7 e8 e9
              generalize Go.Sort.grow (redrawn w4 dq) osq = w5 at *
              go_wp2_with fail
              go_ret2
              exact HFIN.out _ HBQ.out HG0.out
    · have hdec : decide (k < L.length) = false := by simpa using hlt
      have hke : k = L.length := by omega
      subst hke
      have HS : Hid (spanB L = true) := Lib.hid (HSL.out.trans HG.out)
      have hO := HO.out
      have hA := HA.out
      rw [List.take_length] at hO hA
      have HO2 := Lib.hid hO
      have HA2 := Lib.hid hA
      clear hO hA
      go_wp2_with fail
      go_ret2
      exact ⟨HW.out, fun h => absurd (h.symm.trans HS.out) (by decide), fun _ => ⟨u4, rfl, HO2.out, HA2.out⟩⟩
end SpanC
end Go.Proofs.YtapikdgncdcneaaGreatDoor
