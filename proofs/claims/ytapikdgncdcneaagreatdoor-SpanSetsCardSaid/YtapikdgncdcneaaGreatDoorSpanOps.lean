/-
  Package span's May, Has, both: one contract a function.
-/
import Derived.Test.YtapikdgncdcneaaGreatDoorSpanForm
namespace Go.Proofs.YtapikdgncdcneaaGreatDoor
open Go.RowKit
namespace SpanC
open VerM SpanM StrC TextR VerC
set_option linter.unusedSimpArgs false

/-- the stretches of a list of intervals -/
def spanM (L : List IvG) : List St := L.map fun x => (toSt x).st
theorem spanM_map (L : List IvG) : (L.map toSt).map StR.st = spanM L := by unfold spanM; rw [List.map_map]; rfl
theorem spanB_len {L : List IvG} (h : spanB L = true) : L.length ≤ 16 := by
  unfold spanB at h
  simp only [Bool.and_eq_true, decide_eq_true_eq] at h
  exact h.1
/-- an argument: a list of intervals, with their texts -/
structure IvArg (w : World) (a : Option Addr) (L : List IvG) : Prop where
  row : IvIn w a L.length L
  txs : ∀ x ∈ L, IvTx w x
theorem IvArg.below {w w' : World} {a : Option Addr} {L : List IvG} (h : IvArg w a L) (g : Below w.heap.size w w') : IvArg w' a L := ⟨h.row.below g, fun x hx => (h.txs x hx).gr g⟩
def mayC (L : List IvG) : Int := if spanB L then 0 else 80
set_option maxHeartbeats 2000000 in
set_option maxRecDepth 100000 in
theorem pMayS_any (a : Option Addr) (cp : Nat) (L : List IvG) (w : World) (h : IvArg w a L) :
    Calls Tryz.prog 8 #[.slice a L.length cp] w fun e w' => e = .returned (.int .i64 (mayC L)) ∧ Below w.heap.size w w' := by
  have HS := Lib.hid (pstretches_any a cp L w h.row h.txs)
  clear h
  go_enter Tryz.func8, Tryz.ntmps8
  rcases Bool.eq_false_or_eq_true (spanB L) with hb | hb
  · have HC : Hid (mayC L = 0) := Lib.hid (by unfold mayC; rw [hb]; rfl)
    go_wp2_with (go_at_call 24; refine HS.out.mono ?_; rintro e w1 ⟨hb1, h0, h1⟩; obtain ⟨u, rfl, -, -⟩ := h1 hb; have HB := Lib.hid hb1; clear h0 h1 hb1)
    go_ret
    exact ⟨by rw [HC.out]; rfl, HB.out⟩
  · have HC : Hid (mayC L = 80) := Lib.hid (by unfold mayC; rw [hb]; rfl)
    go_wp2_with (go_at_call 24; refine HS.out.mono ?_; rintro e w1 ⟨hb1, h0, h1⟩; obtain rfl := h0 hb; have HB := Lib.hid hb1; clear h0 h1 hb1)
    go_ret
    exact ⟨by rw [HC.out]; rfl, HB.out⟩
/-- how Has ends -/
def hasOut (L : List IvG) (y : Ver) : Ending := if spanB L then (if may y then .returned (.tuple #[.bool (hasL (spanM L) y), .int .i64 0]) else .returned (.tuple #[.bool false, .int .i64 70])) else .returned (.tuple #[.bool false, .int .i64 80])
set_option maxHeartbeats 4000000 in
set_option maxRecDepth 100000 in
theorem pHasX_any (a : Option Addr) (cp : Nat) (L : List IvG) (y : Ver) (b : Option Addr) (c : Nat) (w : World) (h : IvArg w a L) (hy : Txs w b c y.pre) :
    Calls Tryz.prog 13 #[.slice a L.length cp, verV y.a y.b y.c b y.pre.length c] w fun e w' => e = hasOut L y ∧ Below w.heap.size w w' := by
  have hn := heap_alloc_new w (verO y.a y.b y.c b y.pre.length c)
  have hB0 : Below w.heap.size w (w.alloc (verO y.a y.b y.c b y.pre.length c)) := (Below.refl _ w).alloc (Nat.le_refl _) _
  have HS := Lib.hid (pstretches_any a cp L _ (h.below hB0).row (h.below hB0).txs)
  have HY := Lib.hid (hy.gr hB0)
  have HB0 := Lib.hid hB0
  have HN := Lib.hid hn
  have hlt : w.heap.size < (w.alloc (verO y.a y.b y.c b y.pre.length c)).heap.size := by simp
  have HLT := Lib.hid hlt
  have HO : Hid (hasOut L y = _) := Lib.hid (by unfold hasOut; rfl)
  clear h hy hB0 hn hlt
  go_enter Tryz.func13, Tryz.ntmps13
  rcases Bool.eq_false_or_eq_true (spanB L) with hb | hb
  rotate_left
  · go_wp2_with (go_at_call 24; refine HS.out.mono ?_; rintro e w1 ⟨hb1, h0, h1⟩; obtain rfl := h0 hb; have HB := Lib.hid hb1; clear h0 h1 hb1)
    go_ret2
    exact ⟨by rw [HO.out, hb]; rfl, HB0.out.trans (HB.out.mono HB0.out.size)⟩
  have HL := Lib.hid (spanB_len hb)
  go_wp2_with (go_at_call 24; refine HS.out.mono ?_; rintro e w1 ⟨hb1, h0, h1⟩; obtain ⟨u, rfl, hr1, hok1⟩ := h1 hb; have HB := Lib.hid hb1; have HR1 := Lib.hid hr1; have HOK1 := Lib.hid hok1; clear h0 h1 hb1 hr1 hok1; refine Hid.out ?_)
  refine Lib.hid ?_
  have HB1 := Lib.hid (HB0.out.trans (HB.out.mono HB0.out.size))
  have HY1 := Lib.hid (HY.out.gr HB.out)
  have hn1 := (HB.out.block _ HLT.out).trans HN.out
  have HM := Lib.hid (pmay_any y b c w1 HY1.out)
  obtain ⟨q0, q1, q2, q3⟩ := ver_cells hn1
  clear HB HB0 HN HLT HS HY
  rcases Bool.eq_false_or_eq_true (may y) with hm | hm
  rotate_left
  · rw [mayE_no hm] at HM
    go_wp2_with (go_at_call 32; refine HM.out.mono ?_; rintro e w2 ⟨rfl, hg⟩)
    go_ret2
    exact ⟨by rw [HO.out, hb, hm]; rfl, HB1.out.trans (hg.below.mono HB1.out.size)⟩
  · rw [mayE_yes hm] at HM
    go_wp2_with (go_at_call 32; refine HM.out.mono ?_; rintro e w2 ⟨rfl, hg⟩; refine Hid.out ?_)
    refine Lib.hid ?_
    have hn2 := (hg.below.block _ (Array.getElem?_eq_some_iff.1 hn1).1).trans hn1
    have HB2 := Lib.hid (HB1.out.trans (hg.below.mono HB1.out.size))
    have HR2 := Lib.hid (row_base (HR1.out.below hg.below) (Nat.zero_le _))
    have HOK2 := Lib.hid (HOK1.out.gr hg.below)
    have HY2 := Lib.hid (HY1.out.gr hg.below)
    have HH := Lib.hid (phasX_any u (L.map toSt) y b c w2 HR2.out HOK2.out hm HY2.out (by rw [List.length_map]; have := HL.out; omega))
    rw [spanM_map] at HH
    clear hg hn1 HB1 HR1 HOK1 HY1 HM q0 q1 q2 q3 HR2 HOK2 HY2
    obtain ⟨q0, q1, q2, q3⟩ := ver_cells hn2
    clear hn2
    go_wp2_with (go_at_call 33; refine HH.out.mono ?_; rintro e w3 ⟨rfl, hb3⟩)
    go_ret2
    exact ⟨by rw [HO.out, hb, hm]; rfl, HB2.out.trans (hb3.mono HB2.out.size)⟩
theorem pHasS_any (a : Option Addr) (cp : Nat) (L : List IvG) (y : Ver) (b : Option Addr) (c : Nat) (w : World) (h : IvArg w a L) (hy : TxK w b c y.pre) :
    Calls Tryz.prog 13 #[.slice a L.length cp, verV y.a y.b y.c b y.pre.length c] w fun e w' => e = hasOut L y ∧ Below w.heap.size w w' := pHasX_any a cp L y b c w h hy.txs
/-- how both ends -/
def BothE (L1 L2 : List IvG) (w : World) (e : Ending) (w' : World) : Prop := Below w.heap.size w w' ∧ ((spanB L1 && spanB L2) = false → e = .returned (.tuple #[.slice none 0 0, .slice none 0 0, .int .i64 80])) ∧
  ((spanB L1 && spanB L2) = true → ∃ u1 u2, e = .returned (.tuple #[u1, u2, .int .i64 0]) ∧ StRow w' w.heap.size u1 (L1.map toSt) ∧ StRow w' w.heap.size u2 (L2.map toSt) ∧ AllOk w' (L1.map toSt) ∧ AllOk w' (L2.map toSt))
set_option maxHeartbeats 4000000 in
set_option maxRecDepth 100000 in
theorem pboth_any (a1 : Option Addr) (c1 : Nat) (L1 : List IvG) (a2 : Option Addr) (c2 : Nat) (L2 : List IvG) (w : World) (h1 : IvArg w a1 L1) (h2 : IvArg w a2 L2) :
    Calls Tryz.prog 36 #[.slice a1 L1.length c1, .slice a2 L2.length c2] w (BothE L1 L2 w) := by
  have HS1 := Lib.hid (pstretches_any a1 c1 L1 w h1.row h1.txs)
  have HA2 := Lib.hid h2
  have HS2 := Lib.hid (fun w' (g : Below w.heap.size w w') => pstretches_any a2 c2 L2 w' (h2.below g).row (h2.below g).txs)
  have HE : Hid (∀ e w', Below w.heap.size w w' → ((spanB L1 && spanB L2) = false → e = .returned (.tuple #[.slice none 0 0, .slice none 0 0, .int .i64 80])) → ((spanB L1 && spanB L2) = true → ∃ u1 u2, e = .returned (.tuple #[u1, u2, .int .i64 0]) ∧ StRow w' w.heap.size u1 (L1.map toSt) ∧ StRow w' w.heap.size u2 (L2.map toSt) ∧ AllOk w' (L1.map toSt) ∧ AllOk w' (L2.map toSt)) → BothE L1 L2 w e w') := Lib.hid (fun e w' g1 g2 g3 => ⟨g1, g2, g3⟩)
  clear h1 h2
  go_enter Tryz.func36, Tryz.ntmps36
  rcases Bool.eq_false_or_eq_true (spanB L1) with hb | hb
  rotate_left
  · go_wp2_with (go_at_call 24; refine HS1.out.mono ?_; rintro e w1 ⟨hb1, h0, h1⟩; obtain rfl := h0 hb; have HB := Lib.hid hb1; clear h0 h1 hb1)
    refine bodyPost_ret (results_tmp3 rfl _ _ _) rfl ?_
    exact HE.out _ _ HB.out (fun _ => rfl) (fun h => by rw [hb] at h; cases h)
  go_wp2_with (go_at_call 24; refine HS1.out.mono ?_; rintro e w1 ⟨hb1, h0, h1⟩; obtain ⟨u1, rfl, hr1, hok1⟩ := h1 hb; have HB := Lib.hid hb1; have HR1 := Lib.hid hr1; have HOK1 := Lib.hid hok1; clear h0 h1 hb1 hr1 hok1; refine Hid.out ?_)
  refine Lib.hid ?_
  have HS := Lib.hid (HS2.out w1 HB.out)
  clear HS1 HS2
  rcases Bool.eq_false_or_eq_true (spanB L2) with hc | hc
  rotate_left
  · go_wp2_with (go_at_call 24; refine HS.out.mono ?_; rintro e w2 ⟨hb1, h0, h1⟩; obtain rfl := h0 hc; have HB2 := Lib.hid hb1; clear h0 h1 hb1)
    refine bodyPost_ret (results_tmp3 rfl _ _ _) rfl ?_
    exact HE.out _ _ (HB.out.trans (HB2.out.mono HB.out.size)) (fun _ => rfl) (fun h => by rw [hb, hc] at h; cases h)
  · go_wp2_with (go_at_call 24; refine HS.out.mono ?_; rintro e w2 ⟨hb1, h0, h1⟩; obtain ⟨u2, rfl, hr1, hok1⟩ := h1 hc; have HB2 := Lib.hid hb1; have HR2 := Lib.hid hr1; have HOK2 := Lib.hid hok1; clear h0 h1 hb1 hr1 hok1)
    refine bodyPost_ret (results_tmp3 rfl _ _ _) rfl ?_
    exact HE.out _ _ (HB.out.trans (HB2.out.mono HB.out.size)) (fun h => by rw [hb, hc] at h; cases h) (fun _ => ⟨u1, u2, rfl, HR1.out.below HB2.out, row_base HR2.out HB.out.size, HOK1.out.gr HB2.out, HOK2.out⟩)
end SpanC
end Go.Proofs.YtapikdgncdcneaaGreatDoor
