/-
  The statement of the least version and the next one, walked.
-/
import Derived.Test.YtcbgndpbkcjhnaaDoorVerNext2
import Derived.Test.YtcbgndpbkcjhnaaDoorVerTexts
import Derived.Lib.QuietBelow
import Derived.Deep.RegionHeld3
namespace Go.Proofs.YtcbgndpbkcjhnaaDoor
open Go.RowKit
namespace VerC
open VerM StrC TextR
set_option linter.unusedSimpArgs false

theorem relB (v : Ver) : (((v.pre.length : Nat) : Int) == 0) = decide (v.pre.length = 0) := by rw [Bool.eq_iff_iff]; simp
theorem nxC_cases (v : Ver) (k : Int) : nxC v k = 0 ∨ nxC v k = 2 ∨ nxC v k = 70 := by unfold nxC; split <;> (try split) <;> simp
/-- a version's cells stay where memory grows -/
theorem keep4 {w w' : World} {g : Nat} {x y z : Int} {a : Option Addr} {n c : Nat}
    (h : (w.cell? ⟨g, 0, none⟩ = some (.int .u32 x) ∧ w.cell? ⟨g, 1, none⟩ = some (.int .u32 y) ∧ w.cell? ⟨g, 2, none⟩ = some (.int .u32 z) ∧ w.cell? ⟨g, 3, none⟩ = some (.slice a n c))) (b : Below w.heap.size w w') :
    (w'.cell? ⟨g, 0, none⟩ = some (.int .u32 x) ∧ w'.cell? ⟨g, 1, none⟩ = some (.int .u32 y) ∧ w'.cell? ⟨g, 2, none⟩ = some (.int .u32 z) ∧ w'.cell? ⟨g, 3, none⟩ = some (.slice a n c)) := by
  obtain ⟨h0, h1, h2, h3⟩ := h
  have e1 : g < w.heap.size := World.block_lt_of_cell? _ _ h0
  exact ⟨by rw [b.cell (by exact e1)]; exact h0, by rw [b.cell (by exact e1)]; exact h1, by rw [b.cell (by exact e1)]; exact h2, by rw [b.cell (by exact e1)]; exact h3⟩
theorem keepP {w w' : World} {g1 g2 : Nat} {x1 y1 z1 x2 y2 z2 : Int} {a1 a2 : Option Addr} {n1 c1 n2 c2 : Nat}
    (h : (w.cell? ⟨g1, 0, none⟩ = some (.int .u32 x1) ∧ w.cell? ⟨g1, 1, none⟩ = some (.int .u32 y1) ∧ w.cell? ⟨g1, 2, none⟩ = some (.int .u32 z1) ∧ w.cell? ⟨g1, 3, none⟩ = some (.slice a1 n1 c1)) ∧ (w.cell? ⟨g2, 0, none⟩ = some (.int .u32 x2) ∧ w.cell? ⟨g2, 1, none⟩ = some (.int .u32 y2) ∧ w.cell? ⟨g2, 2, none⟩ = some (.int .u32 z2) ∧ w.cell? ⟨g2, 3, none⟩ = some (.slice a2 n2 c2))) (b : Below w.heap.size w w') : (w'.cell? ⟨g1, 0, none⟩ = some (.int .u32 x1) ∧ w'.cell? ⟨g1, 1, none⟩ = some (.int .u32 y1) ∧ w'.cell? ⟨g1, 2, none⟩ = some (.int .u32 z1) ∧ w'.cell? ⟨g1, 3, none⟩ = some (.slice a1 n1 c1)) ∧ (w'.cell? ⟨g2, 0, none⟩ = some (.int .u32 x2) ∧ w'.cell? ⟨g2, 1, none⟩ = some (.int .u32 y2) ∧ w'.cell? ⟨g2, 2, none⟩ = some (.int .u32 z2) ∧ w'.cell? ⟨g2, 3, none⟩ = some (.slice a2 n2 c2)) :=
  ⟨keep4 h.1 b, keep4 h.2 b⟩
/-- what may be written may be written where memory grows -/
theorem frz {w w' : World} {g cap : Nat} {p : TL} {s : B} (h : Txs w (some ⟨g, 0, none⟩) cap (s :: p)) (hf : ∀ i, w.frozen? ⟨g, i, none⟩ = false) (b : Below w.heap.size w w') (i : Nat) : w'.frozen? ⟨g, i, none⟩ = false := by
  obtain ⟨b1, o, he, hc⟩ := h.cells (by simp)
  cases he
  rw [World.frozen?_of_block (a := ⟨g, i, none⟩) (b.block g (World.block_lt_of_cell? _ _ (hc 0 (by simp))))]
  exact hf i
set_option maxHeartbeats 8000000 in
set_option maxRecDepth 100000 in
theorem nexts_any (v : Ver) (a1 : Option Addr) (c1 : Nat) (k : Int) (w : World) (hv : Vw w) (hT1 : Arg w a1 c1 v.pre) :
    Calls Tryd.prog 5 #[verV v.a v.b v.c a1 v.pre.length c1, .int .i64 k] w fun e w' => e = .returned (.bool true) ∧ Below w.heap.size w w' := by
  have hr1 := heap_alloc_new w (verO v.a v.b v.c a1 v.pre.length c1)
  have hb0 : Below w.heap.size w (w.alloc (verO v.a v.b v.c a1 v.pre.length c1)) := (Below.refl _ w).alloc (Nat.le_refl _) _
  have hs1 : (w.alloc (verO v.a v.b v.c a1 v.pre.length c1)).heap.size = w.heap.size + 1 := by simp
  have HW1 := Lib.hid hT1
  have HB0 := Lib.hid hb0
  have HV := Lib.hid hv
  have HTW := Lib.hid (twin_any v a1 c1 _ (hT1.gr hb0))
  clear hv hT1 hb0
  go_enter Tryd.func5, Tryd.ntmps5
  go_wp2_with (first
    | (refine wpList_load_row rfl 25 _ rfl w.heap.size rfl _ _ _ _ hr1 Tryd.underlying25 rfl info_ver ?_)
    | (go_at_call 8; refine HTW.out.mono ?_; rintro e w3 ⟨⟨a1', c1', rfl, hT⟩, hb3⟩; refine Hid.out ?_))
  refine Lib.hid ?_
  have hr3 := (hb3.block w.heap.size (by rw [hs1]; omega)).trans hr1
  have HB3 := Lib.hid (HB0.out.trans (hb3.mono (by rw [hs1]; omega)))
  have HT3 := Lib.hid hT
  clear hb3 hT hr1 HTW HB0 hs1
  have hl3 : w.heap.size < w3.heap.size := (Array.getElem?_eq_some_iff.1 hr3).1
  have HI : Hid (TwI w (w3.alloc (verO v.a v.b v.c a1' v.pre.length c1')) v a1 c1 a1' c1' w3.heap.size) := Lib.hid ⟨(heap_alloc_old w3 _ (r := w.heap.size) hl3).trans hr3, heap_alloc_new w3 _, (HW1.out.gr HB3.out).txs.alloc _, HT3.out.alloc _, HB3.out.alloc HB3.out.size _⟩
  have HPN := Lib.hid (fun w' (h : Txs w' a1' c1' v.pre) => pNext_any v k a1' c1' w' h)
  have HRN := Lib.hid (fun w' (h : Txs w' a1 c1 v.pre) => rNext_any v k a1 c1 w' h)
  have HPR := Lib.hid (fun w' (h : Txs w' a1' c1' v.pre) => prelease_any v a1' c1' w' h)
  have HRM := Lib.hid (fun w' (h : Txs w' a1 c1 v.pre) => rmay_any v a1 c1 w' h)
  have HSN := Lib.hid (fun w' => rSame_any ⟨(nxV v k).a, (nxV v k).b, (nxV v k).c, []⟩ ⟨(nxV v k).a, (nxV v k).b, (nxV v k).c, []⟩ none 0 none 0 w' (Txs.nil _ _ _) (Txs.nil _ _ _))
  rw [same_self] at HSN
  have HPL := Lib.hid (fun w' (h : Txs w' a1' c1' v.pre) => pLeast_any v a1' c1' w' h)
  have HRL := Lib.hid (fun w' => rLeast_any v a1 c1 w')
  have HSV := Lib.hid (fun w' h1 h2 => rSame_any v v a1' c1' a1 c1 w' h1 h2)
  rw [same_self] at HSV
  have HSL := Lib.hid (fun w' g1 g2 h1 h2 => rSame_any ⟨v.a, v.b, v.c, [nought]⟩ ⟨v.a, v.b, v.c, [nought]⟩ (some ⟨g1, 0, none⟩) 1 (some ⟨g2, 0, none⟩) 1 w' h1 h2)
  rw [same_self] at HSL
  have HSZ : Hid (∀ w', Calls Tryd.prog 13 #[verV 0 0 0 none 0 0, verV 0 0 0 none 0 0] w' fun e w2 => e = .returned (.bool true) ∧ Below w'.heap.size w' w2) := Lib.hid (fun w' => by
    have h := rSame_any ⟨0, 0, 0, []⟩ ⟨0, 0, 0, []⟩ none 0 none 0 w' (Txs.nil _ _ _) (Txs.nil _ _ _)
    rw [same_self] at h
    exact h)
  have hnc := nxC_cases v k
  have hrb := relB v
  have hlz : decide (v.pre.length = 0) = true ∨ decide (v.pre.length = 0) = false := by cases decide (v.pre.length = 0) <;> simp
  generalize hlb : decide (v.pre.length = 0) = lb at *
  clear hlb
  have hle : (lb != lb) = false := by cases lb <;> rfl
  clear hr3 HB3 HT3 hl3 HW1
  go_wp2_with fail
  generalize w3.alloc (verO v.a v.b v.c a1' v.pre.length c1') = W4 at *
  refine (HPN.out W4 HI.out.tx).mono ?_
  rintro e w5 ⟨rfl, hb5⟩
  refine Hid.out ?_
  refine Lib.hid ?_
  have HI5 := Lib.hid (HI.out.gr hb5)
  clear hb5 HI
  generalize (nxV v k).a = n1 at *
  generalize (nxV v k).b = n2 at *
  generalize (nxV v k).c = n3 at *
  generalize nxC v k = nc at *
  have hwn : IntKind.i64.wrap nc = nc := by rcases hnc with rfl | rfl | rfl <;> rfl
  have hne : (nc != nc) = false := by simp
  clear hnc
  have hn6 := heap_alloc_new w5 (verO n1 n2 n3 none 0 0)
  have hs6 : w5.heap.size < (w5.alloc (verO n1 n2 n3 none 0 0)).heap.size := by simp
  have HI6 : Hid (TwI w (w5.alloc (verO n1 n2 n3 none 0 0)) v a1 c1 a1' c1' w3.heap.size) := Lib.hid (HI5.out.gr ((Below.refl _ _).alloc (Nat.le_refl _) _))
  obtain ⟨v0, v1, v2, v3⟩ := ver_cells HI6.out.rv
  clear HI5
  go_wp2_with (go_at_call 24; refine (HRN.out _ HI6.out.tv).mono ?_; rintro e w7 ⟨rfl, hb7⟩; refine Hid.out ?_)
  refine Lib.hid ?_
  have hn7 := (hb7.block w5.heap.size hs6).trans hn6
  have HI7 := Lib.hid (HI6.out.gr hb7)
  have hl7 : w5.heap.size < w7.heap.size := (Array.getElem?_eq_some_iff.1 hn7).1
  clear hb7 HI6 hn6 hs6 v0 v1 v2 v3
  have hm8 := heap_alloc_new w7 (verO n1 n2 n3 none 0 0)
  have hn8 := (heap_alloc_old w7 (verO n1 n2 n3 none 0 0) (r := w5.heap.size) hl7).trans hn7
  have HI8 : Hid (TwI w (w7.alloc (verO n1 n2 n3 none 0 0)) v a1 c1 a1' c1' w3.heap.size) := Lib.hid (HI7.out.gr ((Below.refl _ _).alloc (Nat.le_refl _) _))
  obtain ⟨v0, v1, v2, v3⟩ := ver_cells HI8.out.rv
  obtain ⟨x0, x1, x2, x3⟩ := ver_cells HI8.out.rx
  obtain ⟨y0, y1, y2, y3⟩ := ver_cells hn8
  obtain ⟨z0, z1, z2, z3⟩ := ver_cells hm8
  clear HI7 hn7 hl7 hn8 hm8
  go_wp2_with fail
  generalize w7.alloc (verO n1 n2 n3 none 0 0) = W8 at *
  have kv0 := cell_regrown v0
  have kv1 := cell_regrown v1
  have kv2 := cell_regrown v2
  have kv3 := cell_regrown v3
  have kx0 := cell_regrown x0
  have kx1 := cell_regrown x1
  have kx2 := cell_regrown x2
  have kx3 := cell_regrown x3
  have ky0 := cell_regrown y0
  have ky1 := cell_regrown y1
  have ky2 := cell_regrown y2
  have ky3 := cell_regrown y3
  have kz0 := cell_regrown z0
  have kz1 := cell_regrown z1
  have kz2 := cell_regrown z2
  have kz3 := cell_regrown z3
  clear v0 v1 v2 v3 x0 x1 x2 x3 y0 y1 y2 y3 z0 z1 z2 z3
  rcases Bool.eq_false_or_eq_true (may v) with hm | hm
  all_goals rw [hm] at HRM HPR
  all_goals simp only [Bool.true_and, Bool.false_and] at HPR
  all_goals have cS : ∀ d os, Calls Tryd.prog 13 _ (Go.Sort.grow (redrawn W8 d) os) _ := fun d os => Calls.regrown_of (HSN.out _)
  all_goals have cR : ∀ d os, Calls Tryd.prog 25 _ (Go.Sort.grow (redrawn W8 d) os) _ := fun d os => Calls.regrown_of ((HPR.out _ (HI8.out.tx.gr (below_regrown W8 d os))).mono fun _ _ h => ⟨h.1, h.2.below⟩)
  all_goals have cM : ∀ d os, Calls Tryd.prog 12 _ (Go.Sort.grow (redrawn W8 d) os) _ := fun d os => Calls.regrown_of ((HRM.out _ (HI8.out.tv.gr (below_regrown W8 d os))).mono fun _ _ h => ⟨h.1, h.2.below⟩)
  all_goals refine wp_region_quiet_below (by kernel_rfl) (by kernel_rfl) ?_
  all_goals repeat (quiet_step (first | exact cS _ _ | exact cR _ _ | exact cM _ _))
  all_goals refine wpQuiet_nil ?_
  all_goals intro _ hw'
  all_goals obtain ⟨⟨dq, osq⟩, hw''⟩ := hw'
  all_goals subst hw''
  all_goals have HI9 := Lib.hid (HI8.out.gr (below_regrown W8 dq osq))
  all_goals clear cS cR cM kv0 kv1 kv2 kv3 kx0 kx1 kx2 kx3 ky0 ky1 ky2 ky3 kz0 kz1 kz2 kz3 HI8
  all_goals generalize Go.Sort.grow (redrawn W8 dq) osq = W9 at *
  all_goals obtain ⟨v0, v1, v2, v3⟩ := ver_cells HI9.out.rv
  all_goals obtain ⟨x0, x1, x2, x3⟩ := ver_cells HI9.out.rx
  · have HL := Lib.hid ((HPL.out W9 HI9.out.tx).mono fun e w' (h : LeastE v W9 e w') => (⟨h.2.2 hm, h.1⟩ : (∃ g, e = .returned (.tuple #[verV v.a v.b v.c (some ⟨g, 0, none⟩) 1 1, .int .i64 0]) ∧ LeastI W9 w' g) ∧ Below W9.heap.size W9 w'))
    clear HPL HPN HRN HPR HSN HSZ
    go_wp2_with (go_at_call 26; refine HL.out.mono ?_; rintro e w10 ⟨⟨g, rfl, hl10⟩, hb10⟩; refine Hid.out ?_)
    refine Lib.hid ?_
    have HI10 := Lib.hid (HI9.out.gr hb10)
    have HL10 := Lib.hid hl10
    have HW9 : Hid (Below W9.heap.size W9 w10) := Lib.hid hb10
    clear hl10 hb10 v0 v1 v2 v3 x0 x1 x2 x3 HL
    have hn10 := heap_alloc_new w10 (verO v.a v.b v.c (some ⟨g, 0, none⟩) 1 1)
    have HI11 : Hid (TwI w (w10.alloc (verO v.a v.b v.c (some ⟨g, 0, none⟩) 1 1)) v a1 c1 a1' c1' w3.heap.size) := Lib.hid (HI10.out.gr ((Below.refl _ _).alloc (Nat.le_refl _) _))
    obtain ⟨v0, v1, v2, v3⟩ := ver_cells HI11.out.rv
    have hs10 : w10.heap.size < (w10.alloc (verO v.a v.b v.c (some ⟨g, 0, none⟩) 1 1)).heap.size := by simp
    go_wp2_with (go_at_call 12; refine (HRM.out _ HI11.out.tv).mono ?_; rintro e w12 ⟨rfl, hb12⟩; refine Hid.out ?_)
    refine Lib.hid ?_
    have HI12 := Lib.hid (HI11.out.gr hb12.below)
    have hn12 := (hb12.below.block w10.heap.size hs10).trans hn10
    have HW12 : Hid (Below W9.heap.size W9 w12) := Lib.hid ((HW9.out.alloc HW9.out.size _).trans (hb12.below.mono (by have := HW9.out.size; simp; omega)))
    have HT12 : Hid (Txs w12 (some ⟨g, 0, none⟩) 1 [nought]) := Lib.hid ((HL10.out.txs.alloc _).gr hb12.below)
    have HC12 : Hid (∀ i, w12.frozen? ⟨g, i, none⟩ = false) := Lib.hid (fun i => by
      have hg : g < w10.heap.size := World.block_lt_of_cell? _ _ HL10.out.cell
      rw [World.frozen?_of_block (a := ⟨g, i, none⟩) ((hb12.below.block g (by simp; omega)).trans (heap_alloc_old _ _ hg))]
      exact HL10.out.free i)
    have HG : Hid (W9.heap.size ≤ g) := Lib.hid HL10.out.ge
    have HGL0 : Hid (g < w10.heap.size) := Lib.hid (World.block_lt_of_cell? _ _ HL10.out.cell)
    clear hb12 HI10 HI11 hn10 hs10 HL10 HW9 v0 v1 v2 v3
    obtain ⟨v0, v1, v2, v3⟩ := ver_cells HI12.out.rv
    have HGL : Hid (g < w10.heap.size) := Lib.hid HGL0.out
    obtain ⟨y0, y1, y2, y3⟩ := ver_cells hn12
    go_wp2_with fail
    have hd : Below w12.heap.size w12 w12.drew := below_drew (Below.refl _ _)
    have hn13 : w12.drew.heap[w10.heap.size]? = some (verO v.a v.b v.c (some ⟨g, 0, none⟩) 1 1) := (hd.block w10.heap.size (Array.getElem?_eq_some_iff.1 hn12).1).trans hn12
    have HW13 : Hid (Below W9.heap.size W9 w12.drew) := Lib.hid (below_drew HW12.out)
    have HT13 := Lib.hid (HT12.out.gr hd)
    have HC13 : Hid (∀ i, w12.drew.frozen? ⟨g, i, none⟩ = false) := Lib.hid (fun i => HC12.out i)
    have HN13 := Lib.hid hn13
    clear hd HI12 hn12 HW12 HT12 HC12 hn13
    go_region_held3 (fun w' => (w'.cell? ⟨w.heap.size, 0, none⟩ = some (.int .u32 v.a) ∧ w'.cell? ⟨w.heap.size, 1, none⟩ = some (.int .u32 v.b) ∧ w'.cell? ⟨w.heap.size, 2, none⟩ = some (.int .u32 v.c) ∧ w'.cell? ⟨w.heap.size, 3, none⟩ = some (.slice a1 v.pre.length c1)) ∧ (w'.cell? ⟨w10.heap.size, 0, none⟩ = some (.int .u32 v.a) ∧ w'.cell? ⟨w10.heap.size, 1, none⟩ = some (.int .u32 v.b) ∧ w'.cell? ⟨w10.heap.size, 2, none⟩ = some (.int .u32 v.c) ∧ w'.cell? ⟨w10.heap.size, 3, none⟩ = some (.slice (some ⟨g, 0, none⟩) 1 1))) (first | exact ⟨⟨v0, v1, v2, v3⟩, ⟨y0, y1, y2, y3⟩⟩ | assumption)
      (first
        | (go_at_call 27; refine (HRL.out _).mono ?_; rintro e w14 ⟨hb14, g2, rfl, hT14⟩; have hk14 := keepP (by assumption) hb14; have HN14 := Lib.hid ((hb14.block w10.heap.size (Array.getElem?_eq_some_iff.1 HN13.out).1).trans HN13.out); have HW14 : Hid (Below W9.heap.size W9 w14) := Lib.hid (HW13.out.trans (hb14.mono HW13.out.size)); have HT14 := Lib.hid (HT13.out.gr hb14); have HT14' := Lib.hid hT14; have HC14 := Lib.hid (frz HT13.out HC13.out hb14); clear hb14 hT14)
        | (go_at_call 13; refine (HSL.out _ g g2 HT14.out HT14'.out).mono ?_; rintro e w15 ⟨rfl, hb15⟩; have hk15 := keepP (by assumption) hb15; have HN15 := Lib.hid ((hb15.block w10.heap.size (Array.getElem?_eq_some_iff.1 HN14.out).1).trans HN14.out); have HW15 : Hid (Below W9.heap.size W9 w15) := Lib.hid (HW14.out.trans (hb15.mono HW14.out.size)); have HT15 := Lib.hid (HT14.out.gr hb15); have HC15 := Lib.hid (frz HT14.out HC14.out hb15); clear hb15))
    have hc15 : w15.cell? ⟨g, 0, none⟩ = some (.string (str nought)) := by
      obtain ⟨b, o, he, hc⟩ := HT15.out.cells (by decide)
      cases he
      exact hc 0 (by decide)
    have HCL := Lib.hid hc15
    clear HW13 HT13 HC13 HN13 HN14 HW14 HT14 HT14' HC14 HT15 hc15 hk14 hk15 v0 v1 v2 v3 y0 y1 y2 y3
    go_wp2_with fail
    go_loopw [13] (fun iv wr => ∃ n : Nat, n ≤ 1 ∧ iv = .int .i64 n ∧ Hid (Below W9.heap.size W9 wr) ∧ Hid (wr.heap[w10.heap.size]? = some (verO v.a v.b v.c (some ⟨g, 0, none⟩) 1 1)) ∧ Hid (n = 0 → wr.cell? ⟨g, 0, none⟩ = some (.string (str nought))) ∧ Hid (∀ i, wr.frozen? ⟨g, i, none⟩ = false)) (fun iv _ => 1 - (intOf iv).toNat)
    case atStart => exact ⟨0, by omega, rfl, HW15, HN15, Lib.hid (fun _ => HCL.out), HC15⟩
    case round =>
      obtain ⟨n, hn, rfl, HWR, HNR, HCR, HFR⟩ := hrel
      obtain ⟨y0, y1, y2, y3⟩ := ver_cells HNR.out
      rcases Nat.lt_or_ge n 1 with hlt | hge
      · obtain rfl : n = 0 := by omega
        have c0 := HCR.out rfl
        have f0 := HFR.out 0
        go_wp2_with fail
        go_roundw
        case rel =>
          have hne : w10.heap.size ≠ g := by have := HGL.out; omega
          exact ⟨1, by omega, rfl, Lib.hid (HWR.out.setCell (show W9.heap.size ≤ (⟨g, 0, none⟩ : Addr).block from HG.out) _), Lib.hid ((setCell_else 0 _ hne).trans HNR.out), Lib.hid (fun h => by cases h), Lib.hid (fun i => by rw [World.frozen?_setCell]; exact HFR.out i)⟩
        case measure => simp [intOf]
      · obtain rfl : n = 1 := by omega
        have HI16 := Lib.hid (HI9.out.gr HWR.out)
        obtain ⟨v0, v1, v2, v3⟩ := ver_cells HI16.out.rv
        obtain ⟨x0, x1, x2, x3⟩ := ver_cells HI16.out.rx
        go_wp2_with (first
          | (go_at_call 13; refine (HSV.out _ HI16.out.tx HI16.out.tv).mono ?_; rintro e w17 ⟨rfl, hb17⟩; have HB17 := Lib.hid (HI16.out.below.trans (hb17.mono HI16.out.below.size)); clear hb17 v0 v1 v2 v3 x0 x1 x2 x3 y0 y1 y2 y3)
          | (go_at_call 18; refine (alive_any _ (HV.out.gr HB17.out)).mono ?_; rintro e w18 ⟨rfl, hb18⟩; have HB18 := Lib.hid (HB17.out.trans (hb18.mono HB17.out.size)); clear hb18))
        go_ret
        exact ⟨rfl, HB18.out⟩
  · have HL := Lib.hid ((HPL.out W9 HI9.out.tx).mono fun e w' (h : LeastE v W9 e w') => (⟨h.2.1 hm, h.1⟩ : e = .returned (.tuple #[verV 0 0 0 none 0 0, .int .i64 70]) ∧ Below W9.heap.size W9 w'))
    clear HPL HPN HRN HPR HSN HSL HSV HRL
    go_wp2_with (go_at_call 26; refine HL.out.mono ?_; rintro e w10 ⟨rfl, hb10⟩; refine Hid.out ?_)
    refine Lib.hid ?_
    have HI10 := Lib.hid (HI9.out.gr hb10)
    clear hb10 v0 v1 v2 v3 x0 x1 x2 x3 HL HI9
    have HI11 : Hid (TwI w (w10.alloc (verO 0 0 0 none 0 0)) v a1 c1 a1' c1' w3.heap.size) := Lib.hid (HI10.out.gr ((Below.refl _ _).alloc (Nat.le_refl _) _))
    obtain ⟨v0, v1, v2, v3⟩ := ver_cells HI11.out.rv
    have hn10 := heap_alloc_new w10 (verO 0 0 0 none 0 0)
    clear HI10
    have hs10 : w10.heap.size < (w10.alloc (verO 0 0 0 none 0 0)).heap.size := by simp
    go_wp2_with (go_at_call 12; refine (HRM.out _ HI11.out.tv).mono ?_; rintro e w12 ⟨rfl, hb12⟩; refine Hid.out ?_)
    refine Lib.hid ?_
    have HB12 := Lib.hid (HI11.out.below.trans (hb12.below.mono HI11.out.below.size))
    have hn12 := (hb12.below.block w10.heap.size hs10).trans hn10
    clear hb12 HI11 hn10 hs10 v0 v1 v2 v3
    obtain ⟨y0, y1, y2, y3⟩ := ver_cells hn12
    go_wp2_with (first
      | (go_at_call 13; refine (HSZ.out _).mono ?_; rintro e w13 ⟨rfl, hb13⟩; have HB13 := Lib.hid (HB12.out.trans (hb13.mono HB12.out.size)); clear hb13 y0 y1 y2 y3 hn12)
      | (go_at_call 18; refine (alive_any _ (HV.out.gr HB13.out)).mono ?_; rintro e w14 ⟨rfl, hb14⟩; have HB14 := Lib.hid (HB13.out.trans (hb14.mono HB13.out.size)); clear hb14))
    go_ret
    exact ⟨rfl, HB14.out⟩
end VerC
end Go.Proofs.YtcbgndpbkcjhnaaDoor
