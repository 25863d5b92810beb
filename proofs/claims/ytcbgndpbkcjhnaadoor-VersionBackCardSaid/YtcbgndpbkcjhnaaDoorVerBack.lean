/-
  The statement of versions there and back, walked.
-/
import Derived.Test.YtcbgndpbkcjhnaaDoorVerTotal
import Derived.Test.YtcbgndpbkcjhnaaDoorVerText
import Derived.Test.YtcbgndpbkcjhnaaDoorVerLeast
import Derived.Deep.RegionHeld3
namespace Go.Proofs.YtcbgndpbkcjhnaaDoor
open Go.RowKit
namespace VerC
open VerM StrC TextR
set_option linter.unusedSimpArgs false

/-- texts stay where a cell of a version's variable is written -/
theorem Txs.setVer {w : World} {a : Option Addr} {cap : Nat} {p : TL} (h : Txs w a cap p) {g : Nat} {x y z : Int} {a2 : Option Addr} {n c2 : Nat} (hg : w.heap[g]? = some (verO x y z a2 n c2)) (i : Nat) (u : Value) : Txs (w.setCell ⟨g, i, none⟩ u) a cap p := by
  refine ⟨h.cap, h.short, h.few, fun h0 => ?_⟩
  obtain ⟨b, o, e, hcell⟩ := h.cells h0
  refine ⟨b, o, e, fun j hj => ?_⟩
  have hci := hcell j hj
  have hbc : b ≠ g := fun e => by rw [e] at hci; exact ver_no_text hg _ _ hci
  rw [World.cell?_setCell_far _ _ _ _ (Ne.symm hbc)]
  exact hci
theorem Txs.drew {w : World} {a : Option Addr} {cap : Nat} {p : TL} (h : Txs w a cap p) : Txs w.drew a cap p := ⟨h.cap, h.short, h.few, h.cells⟩
theorem may_swap {v u : Ver} (h1 : may v = true) (h2 : may u = true) : may ⟨v.a, v.b, v.c, u.pre⟩ = true := by
  obtain ⟨a1, a2, a3, -, -⟩ := may_parts h1
  obtain ⟨-, -, -, b4, b5⟩ := may_parts h2
  exact may_yes a1 a2 a3 b4 (List.all_eq_true.2 b5)
theorem may_least {v : Ver} (h1 : may v = true) : may (leastV v) = true := by
  obtain ⟨a1, a2, a3, -, -⟩ := may_parts h1
  exact may_yes a1 a2 a3 (show ([nought] : TL).length ≤ 8 by decide) (show ([nought] : TL).all ident = true by decide)
set_option maxHeartbeats 8000000 in
set_option maxRecDepth 100000 in
theorem back_any (a b : B) (w : World) (hv : Vw w) :
    Calls Tryd.prog 7 #[.string (str a), .string (str b)] w fun e w' => e = .returned (.bool true) ∧ Below w.heap.size w w' := by
  have HR := Lib.hid (pRead_val a w hv)
  have HV := Lib.hid hv
  have HIS := Lib.hid (fun w hv => pIs_any a w hv)
  have heq : ((str a).toList != (str a).toList) = false := by simp
  clear hv
  go_enter Tryd.func7, Tryd.ntmps7
  go_wp2_with (go_at_call 14; refine HR.out.mono ?_; rintro e w2 ⟨x2, rfl, he, hb⟩; refine Hid.out ?_)
  refine Lib.hid ?_
  have HB := Lib.hid hb
  clear hb HR
  rcases readE_cases he with ⟨v, a1, c1, hv1, rfl, hT1⟩ | ⟨hv1, rfl⟩
  rotate_left
  · have hi := isT_no hv1
    rw [hi] at HIS
    have HB1 := Lib.hid (HB.out.alloc HB.out.size (verO 0 0 0 none 0 0))
    clear hv1 he hi
    go_wp2_with (first
      | (go_at_call 16; refine (HIS.out _ (HV.out.gr HB1.out)).mono ?_; rintro e w3 ⟨rfl, hb3⟩; have HB3 := Lib.hid (HB1.out.trans (hb3.mono HB1.out.size)); clear hb3)
      | (go_at_call 18; refine (alive_any _ (HV.out.gr HB3.out)).mono ?_; rintro e w5 ⟨rfl, hb5⟩; have HB5 := Lib.hid (HB3.out.trans (hb5.mono HB3.out.size)); clear hb5))
    go_ret
    exact ⟨rfl, HB5.out⟩
  obtain ⟨ht1, hl1, hm1⟩ := read_text hv1
  have hn1 := heap_alloc_new w2 (verO v.a v.b v.c a1 v.pre.length c1)
  have HB1 := Lib.hid (HB.out.alloc HB.out.size (verO v.a v.b v.c a1 v.pre.length c1))
  have HT1 := Lib.hid (hT1.alloc (verO v.a v.b v.c a1 v.pre.length c1))
  have HTX := Lib.hid (pText_any v a1 c1 (w2.alloc (verO v.a v.b v.c a1 v.pre.length c1)) (HV.out.gr HB1.out) HT1.out)
  rw [show textE v = .returned (.tuple #[.string (str a), .int .i64 0]) by unfold textE textOk; rw [hm1, ht1, decide_eq_true hl1]; rfl] at HTX
  have hs1 : w2.heap.size < (w2.alloc (verO v.a v.b v.c a1 v.pre.length c1)).heap.size := by simp
  have HM1 := Lib.hid hm1
  clear hv1 he ht1 hl1 hm1 hT1 HIS
  go_wp2_with (first
    | (refine wpList_load_row rfl 25 _ rfl w2.heap.size rfl _ _ _ _ hn1 Tryd.underlying25 rfl info_ver ?_)
    | (go_at_call 10; refine HTX.out.mono ?_; rintro e w3 ⟨rfl, hb3⟩; refine Hid.out ?_))
  refine Lib.hid ?_
  have hr3 := (hb3.block w2.heap.size hs1).trans hn1
  have HB3 := Lib.hid (HB1.out.trans (hb3.mono HB1.out.size))
  have HT3 := Lib.hid (HT1.out.gr hb3)
  clear hb3 hn1 HB1 HT1 HTX hs1
  have HR2 := Lib.hid (pRead_val b w3 (HV.out.gr HB3.out))
  go_wp2_with (go_at_call 14; refine HR2.out.mono ?_; rintro e w4 ⟨x4, rfl, he, hb⟩; refine Hid.out ?_)
  refine Lib.hid ?_
  have hw3 : w2.heap.size < w3.heap.size := (Array.getElem?_eq_some_iff.1 hr3).1
  have hr4 := (hb.block w2.heap.size hw3).trans hr3
  have HB4 := Lib.hid (HB3.out.trans (hb.mono HB3.out.size))
  have HT4 := Lib.hid (HT3.out.gr hb)
  clear hb hr3 HB3 HT3 HR2 hw3
  rcases readE_cases he with ⟨u, a2, c2, hv2, rfl, hT2⟩ | ⟨hv2, rfl⟩
  rotate_left
  · have HB5 := Lib.hid (HB4.out.alloc HB4.out.size (verO 0 0 0 none 0 0))
    clear hv2 he
    go_wp2_with (go_at_call 18; refine (alive_any _ (HV.out.gr HB5.out)).mono ?_; rintro e w6 ⟨rfl, hb6⟩; have HB6 := Lib.hid (HB5.out.trans (hb6.mono HB5.out.size)); clear hb6)
    go_ret
    exact ⟨rfl, HB6.out⟩
  have hm2 := (read_text hv2).2.2
  have hw4 : w2.heap.size < w4.heap.size := (Array.getElem?_eq_some_iff.1 hr4).1
  have hn5 := heap_alloc_new w4 (verO u.a u.b u.c a2 u.pre.length c2)
  have hr5 := (heap_alloc_old w4 (verO u.a u.b u.c a2 u.pre.length c2) (r := w2.heap.size) hw4).trans hr4
  have HB5 := Lib.hid (HB4.out.alloc HB4.out.size (verO u.a u.b u.c a2 u.pre.length c2))
  have HT5 := Lib.hid (HT4.out.alloc (verO u.a u.b u.c a2 u.pre.length c2))
  have HU5 := Lib.hid (hT2.alloc (verO u.a u.b u.c a2 u.pre.length c2))
  have HM2 := Lib.hid hm2
  clear hm2 hv2 he hT2 HT4 HB4 hr4
  obtain ⟨q0, q1, q2, q3⟩ := ver_cells hr5
  obtain ⟨r0, r1, r2, r3⟩ := ver_cells hn5
  have f0 := ver_frozen hn5 0
  have f1 := ver_frozen hn5 1
  have f2 := ver_frozen hn5 2
  go_wp2_with fail
  have hs5 : w4.heap.size < (w4.alloc (verO u.a u.b u.c a2 u.pre.length c2)).heap.size := by simp
  generalize w4.alloc (verO u.a u.b u.c a2 u.pre.length c2) = W at *
  have hne : w2.heap.size ≠ w4.heap.size := by omega
  have hne2 : w4.heap.size ≠ w2.heap.size := by omega
  go_region_held3 (fun w' => w'.cell? ⟨w2.heap.size, 0, none⟩ = some (.int .u32 v.a) ∧ w'.cell? ⟨w2.heap.size, 1, none⟩ = some (.int .u32 v.b) ∧ w'.cell? ⟨w2.heap.size, 2, none⟩ = some (.int .u32 v.c)) (first | exact ⟨q0, q1, q2⟩ | assumption | go_keep) (first | fail)
  have hn6 : ((((W.setCell ⟨w4.heap.size, 0, none⟩ (.int .u32 v.a)).setCell ⟨w4.heap.size, 1, none⟩ (.int .u32 v.b)).setCell ⟨w4.heap.size, 2, none⟩ (.int .u32 v.c)).drew).heap[w4.heap.size]? = some (verO v.a v.b v.c a2 u.pre.length c2) := setCell_row (setCell_row (setCell_row hn5 0 _) 1 _) 2 _
  have hr6 : ((((W.setCell ⟨w4.heap.size, 0, none⟩ (.int .u32 v.a)).setCell ⟨w4.heap.size, 1, none⟩ (.int .u32 v.b)).setCell ⟨w4.heap.size, 2, none⟩ (.int .u32 v.c)).drew).heap[w2.heap.size]? = some (verO v.a v.b v.c a1 v.pre.length c1) :=
    (setCell_else 2 _ hne).trans ((setCell_else 1 _ hne).trans ((setCell_else 0 _ hne).trans hr5))
  have hle : w.heap.size ≤ w4.heap.size := by have := HB5.out.size; have := HB.out.size; omega
  have HB6 : Hid (Below w.heap.size w (((W.setCell ⟨w4.heap.size, 0, none⟩ (.int .u32 v.a)).setCell ⟨w4.heap.size, 1, none⟩ (.int .u32 v.b)).setCell ⟨w4.heap.size, 2, none⟩ (.int .u32 v.c)).drew) :=
    Lib.hid (below_drew (((HB5.out.setCell (show w.heap.size ≤ (⟨w4.heap.size, 0, none⟩ : Addr).block from hle) _).setCell (show w.heap.size ≤ (⟨w4.heap.size, 1, none⟩ : Addr).block from hle) _).setCell (show w.heap.size ≤ (⟨w4.heap.size, 2, none⟩ : Addr).block from hle) _))
  have HT6 := Lib.hid ((((HT5.out.setVer hn5 0 (.int .u32 v.a)).setVer (setCell_row hn5 0 _) 1 (.int .u32 v.b)).setVer (setCell_row (setCell_row hn5 0 _) 1 _) 2 (.int .u32 v.c)).drew)
  have HU6 := Lib.hid ((((HU5.out.setVer hn5 0 (.int .u32 v.a)).setVer (setCell_row hn5 0 _) 1 (.int .u32 v.b)).setVer (setCell_row (setCell_row hn5 0 _) 1 _) 2 (.int .u32 v.c)).drew)
  clear hn5 hr5 HB5 HT5 HU5 q0 q1 q2 q3 r0 r1 r2 r3 f0 f1 f2 hs5
  generalize (((W.setCell ⟨w4.heap.size, 0, none⟩ (.int .u32 v.a)).setCell ⟨w4.heap.size, 1, none⟩ (.int .u32 v.b)).setCell ⟨w4.heap.size, 2, none⟩ (.int .u32 v.c)).drew = W6 at *
  have HL := Lib.hid ((pLeast_any v a1 c1 W6 HT6.out).mono fun e w' (h : LeastE v W6 e w') => (⟨h.2.2 HM1.out, h.1⟩ : (∃ g, e = .returned (.tuple #[verV v.a v.b v.c (some ⟨g, 0, none⟩) 1 1, .int .i64 0]) ∧ LeastI W6 w' g) ∧ Below W6.heap.size W6 w'))
  go_wp2_with (first
    | (refine wpList_load_row rfl 25 _ rfl w2.heap.size rfl _ _ _ _ hr6 Tryd.underlying25 rfl info_ver ?_)
    | (go_at_call 26; refine HL.out.mono ?_; rintro e w7 ⟨⟨g, rfl, hl7⟩, hb7⟩; refine Hid.out ?_))
  refine Lib.hid ?_
  have hl64 : w4.heap.size < W6.heap.size := (Array.getElem?_eq_some_iff.1 hn6).1
  have hn7 := (hb7.block w4.heap.size hl64).trans hn6
  have HB7 := Lib.hid (HB6.out.trans (hb7.mono HB6.out.size))
  have HU7 := Lib.hid (HU6.out.gr hb7)
  have hl74 : w4.heap.size < w7.heap.size := (Array.getElem?_eq_some_iff.1 hn7).1
  have HT7 := Lib.hid hl7.txs
  have hn8 := heap_alloc_new w7 (verO v.a v.b v.c (some ⟨g, 0, none⟩) 1 1)
  have hr8 := (heap_alloc_old w7 (verO v.a v.b v.c (some ⟨g, 0, none⟩) 1 1) (r := w4.heap.size) hl74).trans hn7
  have HB8 := Lib.hid (HB7.out.alloc HB7.out.size (verO v.a v.b v.c (some ⟨g, 0, none⟩) 1 1))
  have HC := Lib.hid (pCmp_any (leastV v) ⟨v.a, v.b, v.c, u.pre⟩ (some ⟨g, 0, none⟩) 1 a2 c2 (w7.alloc (verO v.a v.b v.c (some ⟨g, 0, none⟩) 1 1)) (HT7.out.alloc _) (HU7.out.alloc _))
  have hle2 : cmpV (leastV v) ⟨v.a, v.b, v.c, u.pre⟩ ≤ 0 := least_le (may_swap HM1.out HM2.out) rfl rfl rfl
  rw [show cmpE (leastV v) ⟨v.a, v.b, v.c, u.pre⟩ = .returned (.tuple #[.int .i64 (cmpV (leastV v) ⟨v.a, v.b, v.c, u.pre⟩), .int .i64 0]) by unfold cmpE; rw [may_least HM1.out, may_swap HM1.out HM2.out]; rfl] at HC
  generalize cmpV (leastV v) ⟨v.a, v.b, v.c, u.pre⟩ = cc at *
  have dcc : decide (cc ≤ 0) = true := decide_eq_true hle2
  have hs8 : w7.heap.size < (w7.alloc (verO v.a v.b v.c (some ⟨g, 0, none⟩) 1 1)).heap.size := by simp
  clear hl7 hb7 hn6 hr6 HL HB6 HT6 HU6 hn7 HB7 HU7 hle2 hl64 hl74
  dsimp only [leastV] at HC
  go_wp2_with (first
    | (refine wpList_load_row rfl 25 _ rfl w7.heap.size rfl _ _ _ _ hn8 Tryd.underlying25 rfl info_ver ?_)
    | (refine wpList_load_row rfl 25 _ rfl w4.heap.size rfl _ _ _ _ hr8 Tryd.underlying25 rfl info_ver ?_)
    | (go_at_call 19; refine HC.out.mono ?_; rintro e w9 ⟨rfl, hb9⟩; have HB9 := Lib.hid (HB8.out.trans (hb9.mono HB8.out.size)); clear hb9)
    | (go_at_call 18; refine (alive_any _ (HV.out.gr HB9.out)).mono ?_; rintro e w10 ⟨rfl, hb10⟩; have HB10 := Lib.hid (HB9.out.trans (hb10.mono HB9.out.size)); clear hb10))
  go_ret
  exact ⟨rfl, HB10.out⟩
end VerC
end Go.Proofs.YtcbgndpbkcjhnaaDoor
