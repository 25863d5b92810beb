/-
  Package span's zero, may, stretchOf: one contract a function.
-/
import Derived.Test.YtapikdgncdcneaaGreatDoorSpanIv
namespace Go.Proofs.YtapikdgncdcneaaGreatDoor
open Go.RowKit
namespace SpanC
open VerM SpanM StrC TextR VerC
set_option linter.unusedSimpArgs false

/-- a slice of texts, of that kind -/
structure TxK (w : World) (a : Option Addr) (c : Nat) (p : TL) : Prop where
  txs : Txs w a c p
  kind : ∀ b f, a = some ⟨b, f, none⟩ → IsText w b
  nil : a = none → p.length = 0 ∧ c = 0
theorem TxK.gr {w w' : World} {a : Option Addr} {c : Nat} {p : TL} (h : TxK w a c p) (g : Below w.heap.size w w') : TxK w' a c p := ⟨h.txs.gr g, fun b f e => (h.kind b f e).below g, h.nil⟩
structure IvTx (w : World) (x : IvG) : Prop where
  l : TxK w x.la x.lc x.lv.pre
  h : TxK w x.ha x.hc x.hv.pre
theorem IvTx.gr {w w' : World} {x : IvG} (h : IvTx w x) (g : Below w.heap.size w w') : IvTx w' x := ⟨h.l.gr g, h.h.gr g⟩
def zeroB (v : Ver) (o : Bool) : Bool := decide (cmpV v zeroV = 0) && !o
/-- which interval may be, and has nothing where it has no end -/
def rightB (x : IvG) : Bool := may x.lv && may x.hv && (!x.e || zeroB x.hv x.ho)
/-- an interval as a stretch -/
def toSt (x : IvG) : StR := ⟨⟨x.lv, x.la, x.lc, if x.lo then 1 else 0⟩, if x.e then ⟨zeroV, none, 0, 2⟩ else ⟨x.hv, x.ha, x.hc, if x.ho then 0 else 1⟩⟩
theorem zeroV_pre : zeroV.pre = [] := rfl
theorem gv_cells {w : World} {g : Nat} {x : IvG} (h : w.heap[g]? = some (gvO x)) :
    w.cell? ⟨g, 0, none⟩ = some (.int .u32 x.lv.a) ∧ w.cell? ⟨g, 1, none⟩ = some (.int .u32 x.lv.b) ∧ w.cell? ⟨g, 2, none⟩ = some (.int .u32 x.lv.c) ∧ w.cell? ⟨g, 3, none⟩ = some (.slice x.la x.lv.pre.length x.lc) ∧ w.cell? ⟨g, 4, none⟩ = some (.bool x.lo) ∧
    w.cell? ⟨g, 5, none⟩ = some (.int .u32 x.hv.a) ∧ w.cell? ⟨g, 6, none⟩ = some (.int .u32 x.hv.b) ∧ w.cell? ⟨g, 7, none⟩ = some (.int .u32 x.hv.c) ∧ w.cell? ⟨g, 8, none⟩ = some (.slice x.ha x.hv.pre.length x.hc) ∧ w.cell? ⟨g, 9, none⟩ = some (.bool x.ho) ∧ w.cell? ⟨g, 10, none⟩ = some (.bool x.e) := by
  refine ⟨?_, ?_, ?_, ?_, ?_, ?_, ?_, ?_, ?_, ?_, ?_⟩ <;> simp [World.cell?, h]
set_option maxHeartbeats 2000000 in
set_option maxRecDepth 100000 in
theorem pzero_any (v : Ver) (a : Option Addr) (c : Nat) (o : Bool) (w : World) (hT : Txs w a c v.pre) (hm : may v = true) :
    Calls Tryz.prog 81 #[.agg #[.int .u32 v.a, .int .u32 v.b, .int .u32 v.c, .slice a v.pre.length c, .bool o]] w fun e w' => e = .returned (.bool (zeroB v o)) ∧ Below w.heap.size w w' := by
  have HC := Lib.hid (fun w' (h : Txs w' a c v.pre) => (pCmp_any v zeroV a c none 0 w' h (Txs.nil _ _ _)).mono fun _ _ h => And.intro (h.1.trans (cmpE_may hm zeroV_may)) h.2)
  have hn := heap_alloc_new w (.cells #[.int .u32 v.a, .int .u32 v.b, .int .u32 v.c, .slice a v.pre.length c, .bool o] 51)
  have HB0 : Hid (Below w.heap.size w (w.alloc (.cells #[.int .u32 v.a, .int .u32 v.b, .int .u32 v.c, .slice a v.pre.length c, .bool o] 51))) := Lib.hid ((Below.refl _ w).alloc (Nat.le_refl _) _)
  have HT := Lib.hid (hT.alloc (.cells #[.int .u32 v.a, .int .u32 v.b, .int .u32 v.c, .slice a v.pre.length c, .bool o] 51))
  obtain ⟨r, hr⟩ : ∃ r, cmpV v zeroV = r := ⟨_, rfl⟩
  have HZ : Hid (zeroB v o = (decide (r = 0) && !o)) := Lib.hid (by rw [← hr]; rfl)
  rw [hr] at HC
  have HN := Lib.hid hn
  clear hT hm hr hn
  go_enter Tryz.func81, Tryz.ntmps81
  go_wp2_with (go_at_call 83; refine (HC.out _ HT.out).mono ?_; rintro e w2 ⟨rfl, hb⟩; refine Hid.out ?_)
  refine Lib.hid ?_
  have hn2 := (hb.block _ (by simp)).trans HN.out
  have q4 : w2.cell? ⟨w.heap.size, 4, none⟩ = some (.bool o) := by simp [World.cell?, hn2]
  have HB2 := Lib.hid (HB0.out.trans (hb.mono HB0.out.size))
  clear hb hn2 HN HT HC
  by_cases h0 : r = 0
  · subst h0
    cases o with
    | true =>
      go_wp2_with fail
      go_ret
      exact ⟨by rw [HZ.out]; rfl, HB2.out⟩
    | false =>
      go_wp2_with fail
      go_ret
      exact ⟨by rw [HZ.out]; rfl, HB2.out⟩
  · have d0 : (r == 0) = false := beq_eq_false_iff_ne.2 h0
    have HZ2 : Hid (zeroB v o = false) := Lib.hid (by rw [HZ.out, decide_eq_false h0]; rfl)
    clear HZ h0
    go_wp2_with fail
    go_ret
    exact ⟨by rw [HZ2.out]; rfl, HB2.out⟩
set_option maxHeartbeats 4000000 in
set_option maxRecDepth 100000 in
theorem pmayI_any (x : IvG) (w : World) (hT : IvTx w x) :
    Calls Tryz.prog 51 #[gvV x] w fun e w' => e = .returned (.bool (rightB x)) ∧ Below w.heap.size w w' := by
  have HT := Lib.hid hT
  have hn := heap_alloc_new w (gvO x)
  have HB0 : Hid (Below w.heap.size w (w.alloc (gvO x))) := Lib.hid ((Below.refl _ w).alloc (Nat.le_refl _) _)
  have H1 := Lib.hid (fun w' (g : Below w.heap.size w w') => pmay_any x.lv x.la x.lc w' (hT.l.gr g).txs)
  have H2 := Lib.hid (fun w' (g : Below w.heap.size w w') => pmay_any x.hv x.ha x.hc w' (hT.h.gr g).txs)
  have HZ := Lib.hid (fun w' (g : Below w.heap.size w w') hm => pzero_any x.hv x.ha x.hc x.ho w' (hT.h.gr g).txs hm)
  have HR : Hid (rightB x = (may x.lv && may x.hv && (!x.e || zeroB x.hv x.ho))) := Lib.hid rfl
  have hgx : w.heap.size < (w.alloc (gvO x)).heap.size := by simp
  have HGX := Lib.hid hgx
  obtain ⟨q0, q1, q2, q3, q4, q5, q6, q7, q8, q9, q10⟩ := gv_cells hn
  have HN := Lib.hid hn
  generalize zeroB x.hv x.ho = zb at *
  generalize rightB x = rb at *
  clear hT hn hgx
  rcases Bool.eq_false_or_eq_true (may x.lv) with m1 | m1
  rotate_left
  · rw [mayE_no m1] at H1
    rw [m1] at HR
    go_enter Tryz.func51, Tryz.ntmps51
    go_wp2_with (go_at_call 32; refine (H1.out _ HB0.out).mono ?_; rintro e w2 ⟨rfl, hg⟩)
    go_ret
    exact ⟨by rw [HR.out]; rfl, HB0.out.trans (hg.below.mono HB0.out.size)⟩
  rw [mayE_yes m1] at H1
  rw [m1] at HR
  rcases Bool.eq_false_or_eq_true (may x.hv) with m2 | m2
  rotate_left
  · rw [mayE_no m2] at H2
    rw [m2] at HR
    go_enter Tryz.func51, Tryz.ntmps51
    go_wp2_with (go_at_call 32; refine (H1.out _ HB0.out).mono ?_; rintro e w2 ⟨rfl, hg⟩; refine Hid.out ?_)
    refine Lib.hid ?_
    have HB2 := Lib.hid (HB0.out.trans (hg.below.mono HB0.out.size))
    have hn2 := (hg.below.block _ HGX.out).trans HN.out
    clear q0 q1 q2 q3 q4 q5 q6 q7 q8 q9 q10 hg
    obtain ⟨q0, q1, q2, q3, q4, q5, q6, q7, q8, q9, q10⟩ := gv_cells hn2
    clear hn2
    go_wp2_with (go_at_call 32; refine (H2.out _ HB2.out).mono ?_; rintro e w3 ⟨rfl, hg3⟩)
    go_ret
    exact ⟨by rw [HR.out]; rfl, HB2.out.trans (hg3.below.mono HB2.out.size)⟩
  rw [mayE_yes m2] at H2
  rw [m2] at HR
  have HZ := Lib.hid (fun w' g => HZ.out w' g m2)
  go_enter Tryz.func51, Tryz.ntmps51
  go_wp2_with (go_at_call 32; refine (H1.out _ HB0.out).mono ?_; rintro e w2 ⟨rfl, hg⟩; refine Hid.out ?_)
  refine Lib.hid ?_
  have HB2 := Lib.hid (HB0.out.trans (hg.below.mono HB0.out.size))
  have hn2 := (hg.below.block _ HGX.out).trans HN.out
  have hg2 : w.heap.size < w2.heap.size := Nat.lt_of_lt_of_le HGX.out hg.below.size
  have HN2 := Lib.hid hn2
  clear q0 q1 q2 q3 q4 q5 q6 q7 q8 q9 q10 hg
  obtain ⟨q0, q1, q2, q3, q4, q5, q6, q7, q8, q9, q10⟩ := gv_cells hn2
  clear hn2
  go_wp2_with (go_at_call 32; refine (H2.out _ HB2.out).mono ?_; rintro e w3 ⟨rfl, hg3⟩; refine Hid.out ?_)
  refine Lib.hid ?_
  have HB3 := Lib.hid (HB2.out.trans (hg3.below.mono HB2.out.size))
  have hn3 := (hg3.below.block _ hg2).trans HN2.out
  clear q0 q1 q2 q3 q4 q5 q6 q7 q8 q9 q10 hg3 HN HN2 hg2 HGX
  obtain ⟨q0, q1, q2, q3, q4, q5, q6, q7, q8, q9, q10⟩ := gv_cells hn3
  clear hn3 H1 H2
  generalize hxe : x.e = xe at *
  cases xe with
  | false =>
    go_wp2_with fail
    go_ret
    exact ⟨by rw [HR.out]; rfl, HB3.out⟩
  | true =>
    go_wp2_with (go_at_call 81; refine (HZ.out _ HB3.out).mono ?_; rintro e w4 ⟨rfl, hb4⟩)
    go_ret
    exact ⟨by rw [HR.out]; cases zb <;> rfl, HB3.out.trans (hb4.mono HB3.out.size)⟩
set_option maxHeartbeats 4000000 in
set_option maxRecDepth 100000 in
theorem pstretchOf_any (x : IvG) (w : World) :
    Calls Tryz.prog 52 #[gvV x] w fun e w' => e = .returned (stV (toSt x)) ∧ Below w.heap.size w w' := by
  have HB0 : Hid (Below w.heap.size w (w.alloc (gvO x))) := Lib.hid ((Below.refl _ w).alloc (Nat.le_refl _) _)
  obtain ⟨lv, la, lc, lo, hv, ha, hc, ho, e⟩ := x
  cases lo <;> cases ho <;> cases e
  · go_enter Tryz.func52, Tryz.ntmps52
    go_wp2_with fail
    refine bodyPost_ret (results_cell_row rfl _ _ (w.heap.size + 1) 73 (stL (toSt ⟨lv, la, lc, false, hv, ha, hc, false, false⟩)).toArray (0, 0) _ rfl ?_ Tryz.underlying73 rfl info_st) rfl ?_
    · exact (heap_alloc_old _ _ (r := w.heap.size + 1) (by simp)).trans (by have h := heap_alloc_new (w.alloc (gvO ⟨lv, la, lc, false, hv, ha, hc, false, false⟩)) (.cells (stL (toSt ⟨lv, la, lc, false, hv, ha, hc, false, false⟩)).toArray 73); simp only [World.size_alloc] at h; exact h)
    · exact ⟨rfl, (HB0.out.alloc HB0.out.size _).alloc (by simp; omega) _⟩
  · go_enter Tryz.func52, Tryz.ntmps52
    go_wp2_with fail
    refine bodyPost_ret (results_cell_row rfl _ _ (w.heap.size + 1) 73 (stL (toSt ⟨lv, la, lc, false, hv, ha, hc, false, true⟩)).toArray (0, 0) _ rfl ?_ Tryz.underlying73 rfl info_st) rfl ?_
    · exact (heap_alloc_old _ _ (r := w.heap.size + 1) (by simp)).trans (by have h := heap_alloc_new (w.alloc (gvO ⟨lv, la, lc, false, hv, ha, hc, false, true⟩)) (.cells (stL (toSt ⟨lv, la, lc, false, hv, ha, hc, false, true⟩)).toArray 73); simp only [World.size_alloc] at h; exact h)
    · exact ⟨rfl, (HB0.out.alloc HB0.out.size _).alloc (by simp; omega) _⟩
  · go_enter Tryz.func52, Tryz.ntmps52
    go_wp2_with fail
    refine bodyPost_ret (results_cell_row rfl _ _ (w.heap.size + 1) 73 (stL (toSt ⟨lv, la, lc, false, hv, ha, hc, true, false⟩)).toArray (0, 0) _ rfl ?_ Tryz.underlying73 rfl info_st) rfl ?_
    · exact (heap_alloc_old _ _ (r := w.heap.size + 1) (by simp)).trans (by have h := heap_alloc_new (w.alloc (gvO ⟨lv, la, lc, false, hv, ha, hc, true, false⟩)) (.cells (stL (toSt ⟨lv, la, lc, false, hv, ha, hc, true, false⟩)).toArray 73); simp only [World.size_alloc] at h; exact h)
    · exact ⟨rfl, (HB0.out.alloc HB0.out.size _).alloc (by simp; omega) _⟩
  · go_enter Tryz.func52, Tryz.ntmps52
    go_wp2_with fail
    refine bodyPost_ret (results_cell_row rfl _ _ (w.heap.size + 1) 73 (stL (toSt ⟨lv, la, lc, false, hv, ha, hc, true, true⟩)).toArray (0, 0) _ rfl ?_ Tryz.underlying73 rfl info_st) rfl ?_
    · exact (heap_alloc_old _ _ (r := w.heap.size + 1) (by simp)).trans (by have h := heap_alloc_new (w.alloc (gvO ⟨lv, la, lc, false, hv, ha, hc, true, true⟩)) (.cells (stL (toSt ⟨lv, la, lc, false, hv, ha, hc, true, true⟩)).toArray 73); simp only [World.size_alloc] at h; exact h)
    · exact ⟨rfl, (HB0.out.alloc HB0.out.size _).alloc (by simp; omega) _⟩
  · go_enter Tryz.func52, Tryz.ntmps52
    go_wp2_with fail
    refine bodyPost_ret (results_cell_row rfl _ _ (w.heap.size + 1) 73 (stL (toSt ⟨lv, la, lc, true, hv, ha, hc, false, false⟩)).toArray (0, 0) _ rfl ?_ Tryz.underlying73 rfl info_st) rfl ?_
    · exact (heap_alloc_old _ _ (r := w.heap.size + 1) (by simp)).trans (by have h := heap_alloc_new (w.alloc (gvO ⟨lv, la, lc, true, hv, ha, hc, false, false⟩)) (.cells (stL (toSt ⟨lv, la, lc, true, hv, ha, hc, false, false⟩)).toArray 73); simp only [World.size_alloc] at h; exact h)
    · exact ⟨rfl, (HB0.out.alloc HB0.out.size _).alloc (by simp; omega) _⟩
  · go_enter Tryz.func52, Tryz.ntmps52
    go_wp2_with fail
    refine bodyPost_ret (results_cell_row rfl _ _ (w.heap.size + 1) 73 (stL (toSt ⟨lv, la, lc, true, hv, ha, hc, false, true⟩)).toArray (0, 0) _ rfl ?_ Tryz.underlying73 rfl info_st) rfl ?_
    · exact (heap_alloc_old _ _ (r := w.heap.size + 1) (by simp)).trans (by have h := heap_alloc_new (w.alloc (gvO ⟨lv, la, lc, true, hv, ha, hc, false, true⟩)) (.cells (stL (toSt ⟨lv, la, lc, true, hv, ha, hc, false, true⟩)).toArray 73); simp only [World.size_alloc] at h; exact h)
    · exact ⟨rfl, (HB0.out.alloc HB0.out.size _).alloc (by simp; omega) _⟩
  · go_enter Tryz.func52, Tryz.ntmps52
    go_wp2_with fail
    refine bodyPost_ret (results_cell_row rfl _ _ (w.heap.size + 1) 73 (stL (toSt ⟨lv, la, lc, true, hv, ha, hc, true, false⟩)).toArray (0, 0) _ rfl ?_ Tryz.underlying73 rfl info_st) rfl ?_
    · exact (heap_alloc_old _ _ (r := w.heap.size + 1) (by simp)).trans (by have h := heap_alloc_new (w.alloc (gvO ⟨lv, la, lc, true, hv, ha, hc, true, false⟩)) (.cells (stL (toSt ⟨lv, la, lc, true, hv, ha, hc, true, false⟩)).toArray 73); simp only [World.size_alloc] at h; exact h)
    · exact ⟨rfl, (HB0.out.alloc HB0.out.size _).alloc (by simp; omega) _⟩
  · go_enter Tryz.func52, Tryz.ntmps52
    go_wp2_with fail
    refine bodyPost_ret (results_cell_row rfl _ _ (w.heap.size + 1) 73 (stL (toSt ⟨lv, la, lc, true, hv, ha, hc, true, true⟩)).toArray (0, 0) _ rfl ?_ Tryz.underlying73 rfl info_st) rfl ?_
    · exact (heap_alloc_old _ _ (r := w.heap.size + 1) (by simp)).trans (by have h := heap_alloc_new (w.alloc (gvO ⟨lv, la, lc, true, hv, ha, hc, true, true⟩)) (.cells (stL (toSt ⟨lv, la, lc, true, hv, ha, hc, true, true⟩)).toArray 73); simp only [World.size_alloc] at h; exact h)
    · exact ⟨rfl, (HB0.out.alloc HB0.out.size _).alloc (by simp; omega) _⟩
end SpanC
end Go.Proofs.YtapikdgncdcneaaGreatDoor
