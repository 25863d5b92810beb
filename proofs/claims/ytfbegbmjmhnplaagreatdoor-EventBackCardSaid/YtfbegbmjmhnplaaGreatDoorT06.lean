/-
  What the proof of EvBoth stands on, part 6.
-/
import Derived.Deep.CutRange
import Derived.Laws.OwnMore
import Derived.Lib.QuietBelow
import Derived.Lib.SliceRun
import Derived.Shelf.SlSortCmp.NoneTotal
import Derived.Shelf.SlSortFuncK.ComposeK
import Derived.Shelf.Slices.CompactS
import Derived.Sort.OwnSorted
import Derived.Test.YtfbegbmjmhnplaaGreatDoorT05
set_option linter.unusedSimpArgs false
set_option linter.unusedVariables false
set_option maxHeartbeats 16000000
namespace Go.Proofs.YtfbegbmjmhnplaaGreatDoor
open Go.Lib (hid)
section
open Go.RowKit
namespace VerC
open VerM StrC TextR
def nextV (v : Ver) (k : Int) : Option Ver :=
 if k = 0 then (if v.a = mx then none else some ⟨v.a + 1, 0, 0, []⟩)
 else if k = 1 then (if v.b = mx then none else some ⟨v.a, v.b + 1, 0, []⟩)
 else if k = 2 then (if v.c = mx then none else some ⟨v.a, v.b, v.c + 1, []⟩)
 else none
def nxV (v : Ver) (k : Int) : Ver := if may v = true then (nextV v k).getD ⟨0, 0, 0, []⟩ else ⟨0, 0, 0, []⟩
def nxC (v : Ver) (k : Int) : Int := if may v = true then (if (nextV v k).isSome then 0 else 2) else 70
theorem nx_no {v : Ver} (k : Int) (h : may v = false) : nxV v k = ⟨0, 0, 0, []⟩ ∧ nxC v k = 70 := by unfold nxV nxC; rw [h]; exact ⟨rfl, rfl⟩
theorem zfe {v : Ver} {k : Int} (h : may v = true) (hn : nextV v k = none) : nxV v k = ⟨0, 0, 0, []⟩ ∧ nxC v k = 2 := by unfold nxV nxC; rw [h, hn]; exact ⟨rfl, rfl⟩
theorem zff {v u : Ver} {k : Int} (h : may v = true) (hn : nextV v k = some u) : nxV v k = u ∧ nxC v k = 0 := by unfold nxV nxC; rw [h, hn]; exact ⟨rfl, rfl⟩
theorem zfg (v : Ver) (k : Int) : ((k < 0 ∨ 3 ≤ k) ∧ nextV v k = none) ∨ (k = 0 ∧ v.a = mx ∧ nextV v k = none) ∨ (k = 0 ∧ v.a ≠ mx ∧ nextV v k = some ⟨v.a + 1, 0, 0, []⟩) ∨
 (k = 1 ∧ v.b = mx ∧ nextV v k = none) ∨ (k = 1 ∧ v.b ≠ mx ∧ nextV v k = some ⟨v.a, v.b + 1, 0, []⟩) ∨ (k = 2 ∧ v.c = mx ∧ nextV v k = none) ∨ (k = 2 ∧ v.c ≠ mx ∧ nextV v k = some ⟨v.a, v.b, v.c + 1, []⟩) := by
 unfold nextV
 by_cases h0 : k = 0
 · subst h0
   by_cases h : v.a = mx <;> simp [h]
 · by_cases h1 : k = 1
   · subst h1
     by_cases h : v.b = mx <;> simp [h]
   · by_cases h2 : k = 2
     · subst h2
       by_cases h : v.c = mx <;> simp [h]
     · left
       refine ⟨by omega, ?_⟩
       simp [h0, h1, h2]
theorem zfh (w : World) : (zeroValue 25).run Tryz.prog w = .ok (.int .u32 0) w := by kernel_rfl
theorem zfi (w : World) (g : Nat) (x y z : Int) (h : w.heap[g]? = some (arrO x y z)) : ∃ w', (Builtin.clear_ #[332] 0 #[.slice (some ⟨g, 1, none⟩) 2 2]).run Tryz.prog w = .ok (.tuple #[]) w' ∧
 w'.heap[g]? = some (arrO x 0 0) ∧ (∀ k, k ≠ g → w'.heap[k]? = w.heap[k]?) ∧ (∀ B, B ≤ g → Below B w w') := by
 obtain ⟨c0, c1, c2⟩ := zee h
 refine ⟨(w.setCell ⟨g, 1, none⟩ (.int .u32 0)).setCell ⟨g, 2, none⟩ (.int .u32 0), ?_, zck (zck h 1 _) 2 _, fun k hk => (zcl 2 _ hk).trans (zcl 1 _ hk), fun B hB => ((Below.refl B w).setCell (show B ≤ (⟨g, 1, none⟩ : Addr).block from hB) _).setCell (show B ≤ (⟨g, 2, none⟩ : Addr).block from hB) _⟩
 exact Lib.run_clear_slice w 332 25 0 (.int .u32 0) Tryz.underlying332 zfh rfl rfl g 1 2 2 (by decide) (fun j hj => by
  match j, hj with
  | 0, _ => rw [c1]; rfl
  | 1, _ => rw [c2]; rfl) (fun j _ => zef h _)
theorem zfj (w : World) (g : Nat) (x y z : Int) (h : w.heap[g]? = some (arrO x y z)) : ∃ w', (Builtin.clear_ #[332] 0 #[.slice (some ⟨g, 2, none⟩) 1 1]).run Tryz.prog w = .ok (.tuple #[]) w' ∧
 w'.heap[g]? = some (arrO x y 0) ∧ (∀ k, k ≠ g → w'.heap[k]? = w.heap[k]?) ∧ (∀ B, B ≤ g → Below B w w') := by
 obtain ⟨c0, c1, c2⟩ := zee h
 refine ⟨w.setCell ⟨g, 2, none⟩ (.int .u32 0), ?_, zck h 2 _, fun k hk => zcl 2 _ hk, fun B hB => (Below.refl B w).setCell (show B ≤ (⟨g, 2, none⟩ : Addr).block from hB) _⟩
 exact Lib.run_clear_slice w 332 25 0 (.int .u32 0) Tryz.underlying332 zfh rfl rfl g 2 1 1 (by decide) (fun j hj => by
  match j, hj with
  | 0, _ => rw [c2]; rfl) (fun j _ => zef h _)
theorem zfk (w : World) (g : Nat) : (Builtin.clear_ #[332] 0 #[.slice (some ⟨g, 0, none⟩) 0 0]).run Tryz.prog w = .ok (.tuple #[]) w := by
 simp [Builtin.clear_, run_underlying Tryz.underlying332, zfh, Builtin.zeroCells]
set_option maxRecDepth 100000 in
theorem zfl (v : Ver) (k : Int) (a : Option Addr) (cap : Nat) (w : World) (hT : Txs w a cap v.pre) :
 Calls Tryz.prog 267 #[verV v.a v.b v.c a v.pre.length cap, .int .i64 k] w fun e w' => e = .returned (.tuple #[verV (nxV v k).a (nxV v k).b (nxV v k).c none 0 0, .int .i64 (nxC v k)]) ∧ Below w.heap.size w w' := by
 have hT1 := hT.gr ((Below.refl _ w).alloc (Nat.le_refl _) (verO v.a v.b v.c a v.pre.length cap))
 have HM := hid (fun w' (h : Txs w' a cap v.pre) => pmay_any v a cap w' h)
 have hs1 : (w.alloc (verO v.a v.b v.c a v.pre.length cap)).heap.size = w.heap.size + 1 := by simp
 have hnew := heap_alloc_new w (verO v.a v.b v.c a v.pre.length cap)
 have hr1 := (heap_alloc_old (w.alloc (verO v.a v.b v.c a v.pre.length cap)) (verO 0 0 0 none 0 0) (r := w.heap.size) (by rw [hs1]; omega)).trans hnew
 have hn1 := heap_alloc_new (w.alloc (verO v.a v.b v.c a v.pre.length cap)) (verO 0 0 0 none 0 0)
 rw [hs1] at hn1
 have HB1 : Hid (Below w.heap.size w ((w.alloc (verO v.a v.b v.c a v.pre.length cap)).alloc (verO 0 0 0 none 0 0))) := hid (((Below.refl _ w).alloc (Nat.le_refl _) _).alloc (by rw [hs1]; omega) _)
 have HT1 := hid (hT1.alloc (verO 0 0 0 none 0 0))
 have hs2 : ((w.alloc (verO v.a v.b v.c a v.pre.length cap)).alloc (verO 0 0 0 none 0 0)).heap.size = w.heap.size + 2 := by simp
 clear hT hT1 hs1 hnew
 rcases Bool.eq_false_or_eq_true (may v) with hm | hm
 rotate_left
 · obtain ⟨e1, e2⟩ := nx_no k hm
   have HE1 := hid e1
   have HE2 := hid e2
   rw [zdo hm] at HM
   clear e1 e2
   go_enter Tryz.func267, Tryz.ntmps267
   go_wp2_with fail
   generalize (w.alloc (verO v.a v.b v.c a v.pre.length cap)).alloc (verO 0 0 0 none 0 0) = W at *
   refine (HM.out W HT1.out).mono ?_
   rintro e w2 ⟨rfl, hg2⟩
   refine Hid.out ?_
   refine hid ?_
   have hn2 := (hg2.below.block (w.heap.size + 1) (by omega)).trans hn1
   have HB2 := hid (HB1.out.trans (hg2.below.mono HB1.out.size))
   clear hg2 HM HT1 HB1 hs2 hr1 hn1
   go_wp2_with (refine wpList_store_row rfl 145 _ _ rfl (w.heap.size + 1) #[.int .u32 0, .int .u32 0, .int .u32 0, .slice none 0 0] rfl rfl _ _ hn2 zcf rfl (zcg _ _ _ _ _ _) ?_)
   refine bodyPost_ret (zcj rfl _ _ (w.heap.size + 1) _ #[.int .u32 0, .int .u32 0, .int .u32 0, .slice none 0 0] _ _ rfl (setRow_heap _ _ _ _ _ _ hn2) Tryz.underlying145 rfl zcf) rfl ?_
   exact ⟨by rw [HE1.out, HE2.out]; rfl, below_setRow HB2.out (by omega) _⟩
 have HN := hid (fun w' => zdl v.a v.b v.c a v.pre.length cap w')
 obtain ⟨hma, hmb, hmc, -, -⟩ := zcc hm
 rw [zdp hm] at HM
 have hw := zfg v k
 go_enter Tryz.func267, Tryz.ntmps267
 go_wp2_with fail
 generalize (w.alloc (verO v.a v.b v.c a v.pre.length cap)).alloc (verO 0 0 0 none 0 0) = W at *
 refine (HM.out W HT1.out).mono ?_
 rintro e w2 ⟨rfl, hg2⟩
 refine Hid.out ?_
 refine hid ?_
 have hr2 := (hg2.below.block w.heap.size (by omega)).trans hr1
 have hn2 := (hg2.below.block (w.heap.size + 1) (by omega)).trans hn1
 have HB2 := hid (HB1.out.trans (hg2.below.mono HB1.out.size))
 clear hg2 HM HT1 HB1 hs2 hr1 hn1
 go_wp2_with (first
  | (refine wpList_load_row rfl 145 _ rfl w.heap.size rfl _ _ _ _ hr2 Tryz.underlying145 rfl zcf ?_)
  | (go_at_call 182; refine (HN.out _).mono ?_; rintro e w3 ⟨rfl, hg3⟩; refine Hid.out ?_))
 refine hid ?_
 have hn3 := (hg3.below.block (w.heap.size + 1) (Array.getElem?_eq_some_iff.1 hn2).1).trans hn2
 have HB3 := hid (HB2.out.trans (hg3.below.mono HB2.out.size))
 have hl3 : w.heap.size + 1 < w3.heap.size := (Array.getElem?_eq_some_iff.1 hn3).1
 clear hg3 hn2 hr2 HB2 HN
 rcases hw with ⟨hk, hx⟩ | ⟨rfl, hq, hx⟩ | ⟨rfl, hq, hx⟩ | ⟨rfl, hq, hx⟩ | ⟨rfl, hq, hx⟩ | ⟨rfl, hq, hx⟩ | ⟨rfl, hq, hx⟩
 · rcases hk with hk | hk
   · have d1 : decide (k < 0) = true := decide_eq_true hk
     obtain ⟨e1, e2⟩ := zfe hm hx
     have HE1 := hid e1
     have HE2 := hid e2
     have hn4 := (heap_alloc_old w3 (.cells #[.int .u32 v.a, .int .u32 v.b, .int .u32 v.c] 195) (r := w.heap.size + 1) hl3).trans hn3
     have HB4 := hid (HB3.out.alloc HB3.out.size (.cells #[.int .u32 v.a, .int .u32 v.b, .int .u32 v.c] 195))
     clear e1 e2 hx hma hmb hmc hn3
     go_wp2_with (refine wpList_store_row rfl 145 _ _ rfl (w.heap.size + 1) #[.int .u32 0, .int .u32 0, .int .u32 0, .slice none 0 0] rfl rfl _ _ hn4 zcf rfl (zcg _ _ _ _ _ _) ?_)
     refine bodyPost_ret (zcj rfl _ _ (w.heap.size + 1) _ #[.int .u32 0, .int .u32 0, .int .u32 0, .slice none 0 0] _ _ rfl (setRow_heap _ _ _ _ _ _ hn4) Tryz.underlying145 rfl zcf) rfl ?_
     exact ⟨by rw [HE1.out, HE2.out]; rfl, below_setRow HB4.out (by omega) _⟩
   · have d1 : decide (k < 0) = false := decide_eq_false (by omega)
     have d2 : decide (3 ≤ k) = true := decide_eq_true hk
     obtain ⟨e1, e2⟩ := zfe hm hx
     have HE1 := hid e1
     have HE2 := hid e2
     have hn4 := (heap_alloc_old w3 (.cells #[.int .u32 v.a, .int .u32 v.b, .int .u32 v.c] 195) (r := w.heap.size + 1) hl3).trans hn3
     have HB4 := hid (HB3.out.alloc HB3.out.size (.cells #[.int .u32 v.a, .int .u32 v.b, .int .u32 v.c] 195))
     clear e1 e2 hx hma hmb hmc hn3
     go_wp2_with (refine wpList_store_row rfl 145 _ _ rfl (w.heap.size + 1) #[.int .u32 0, .int .u32 0, .int .u32 0, .slice none 0 0] rfl rfl _ _ hn4 zcf rfl (zcg _ _ _ _ _ _) ?_)
     refine bodyPost_ret (zcj rfl _ _ (w.heap.size + 1) _ #[.int .u32 0, .int .u32 0, .int .u32 0, .slice none 0 0] _ _ rfl (setRow_heap _ _ _ _ _ _ hn4) Tryz.underlying145 rfl zcf) rfl ?_
     exact ⟨by rw [HE1.out, HE2.out]; rfl, below_setRow HB4.out (by omega) _⟩
 · have dq : ((v.a : Int) == 2147483647) = true := by rw [hq]; rfl
   clear hq
   obtain ⟨e1, e2⟩ := zfe hm hx
   have HE1 := hid e1
   have HE2 := hid e2
   have hn4 := (heap_alloc_old w3 (.cells #[.int .u32 v.a, .int .u32 v.b, .int .u32 v.c] 195) (r := w.heap.size + 1) hl3).trans hn3
   have HB4 := hid (HB3.out.alloc HB3.out.size (.cells #[.int .u32 v.a, .int .u32 v.b, .int .u32 v.c] 195))
   clear e1 e2 hx hma hmb hmc hn3
   go_wp2_with (refine wpList_store_row rfl 145 _ _ rfl (w.heap.size + 1) #[.int .u32 0, .int .u32 0, .int .u32 0, .slice none 0 0] rfl rfl _ _ hn4 zcf rfl (zcg _ _ _ _ _ _) ?_)
   refine bodyPost_ret (zcj rfl _ _ (w.heap.size + 1) _ #[.int .u32 0, .int .u32 0, .int .u32 0, .slice none 0 0] _ _ rfl (setRow_heap _ _ _ _ _ _ hn4) Tryz.underlying145 rfl zcf) rfl ?_
   exact ⟨by rw [HE1.out, HE2.out]; rfl, below_setRow HB4.out (by omega) _⟩
 · obtain ⟨e1, e2⟩ := zff hm hx
   have HE1 := hid e1
   have HE2 := hid e2
   have dq : ((v.a : Int) == 2147483647) = false := by unfold mx at hq; rw [beq_eq_false_iff_ne]; omega
   have hu : (v.a : Int) + 1 ≤ 4294967295 := by unfold mx at hma; omega
   have hn4 := (heap_alloc_old w3 (.cells #[.int .u32 ((v.a : Int) + 1), .int .u32 (v.b), .int .u32 (v.c)] 195) (r := w.heap.size + 1) hl3).trans hn3
   have HB4 := hid (HB3.out.alloc HB3.out.size (.cells #[.int .u32 ((v.a : Int) + 1), .int .u32 (v.b), .int .u32 (v.c)] 195))
   obtain ⟨w5, hcl, hA5, hel5, hbl5⟩ := zfi (w3.alloc (.cells #[.int .u32 ((v.a : Int) + 1), .int .u32 (v.b), .int .u32 (v.c)] 195)) w3.heap.size ((v.a : Int) + 1) (v.b) (v.c) (heap_alloc_new w3 _)
   have hn5 := (hel5 (w.heap.size + 1) (by omega)).trans hn4
   have HB5 := hid (HB4.out.trans (hbl5 w.heap.size (by omega)))
   have HVR := hid (zdm ((v.a : Int) + 1) (0) (0))
   clear e1 e2 hx hma hmb hmc hq hel5 hbl5 hn4 HB4 hn3 HB3
   go_wp2_with (first
    | (refine wpList_load_row rfl 195 _ rfl w3.heap.size rfl _ _ _ _ hA5 Tryz.underlying195 rfl zdk ?_)
    | (go_at_call 150; refine (HVR.out _).mono ?_; rintro e w6 ⟨rfl, hg6⟩; refine Hid.out ?_))
   refine hid ?_
   have hn6 := (hg6.below.block (w.heap.size + 1) (Array.getElem?_eq_some_iff.1 hn5).1).trans hn5
   have HB6 := hid (HB5.out.trans (hg6.below.mono HB5.out.size))
   clear hg6 hn5 HB5 hA5 hcl
   go_wp2_with (refine wpList_store_row rfl 145 _ _ rfl (w.heap.size + 1) #[.int .u32 ((v.a : Int) + 1), .int .u32 (0), .int .u32 (0), .slice none 0 0] rfl rfl _ _ hn6 zcf rfl (zcg _ _ _ _ _ _) ?_)
   refine bodyPost_ret (zcj rfl _ _ (w.heap.size + 1) _ #[.int .u32 ((v.a : Int) + 1), .int .u32 (0), .int .u32 (0), .slice none 0 0] _ _ rfl (setRow_heap _ _ _ _ _ _ hn6) Tryz.underlying145 rfl zcf) rfl ?_
   exact ⟨by rw [HE1.out, HE2.out]; rfl, below_setRow HB6.out (by omega) _⟩
 · have dq : ((v.b : Int) == 2147483647) = true := by rw [hq]; rfl
   clear hq
   obtain ⟨e1, e2⟩ := zfe hm hx
   have HE1 := hid e1
   have HE2 := hid e2
   have hn4 := (heap_alloc_old w3 (.cells #[.int .u32 v.a, .int .u32 v.b, .int .u32 v.c] 195) (r := w.heap.size + 1) hl3).trans hn3
   have HB4 := hid (HB3.out.alloc HB3.out.size (.cells #[.int .u32 v.a, .int .u32 v.b, .int .u32 v.c] 195))
   clear e1 e2 hx hma hmb hmc hn3
   go_wp2_with (refine wpList_store_row rfl 145 _ _ rfl (w.heap.size + 1) #[.int .u32 0, .int .u32 0, .int .u32 0, .slice none 0 0] rfl rfl _ _ hn4 zcf rfl (zcg _ _ _ _ _ _) ?_)
   refine bodyPost_ret (zcj rfl _ _ (w.heap.size + 1) _ #[.int .u32 0, .int .u32 0, .int .u32 0, .slice none 0 0] _ _ rfl (setRow_heap _ _ _ _ _ _ hn4) Tryz.underlying145 rfl zcf) rfl ?_
   exact ⟨by rw [HE1.out, HE2.out]; rfl, below_setRow HB4.out (by omega) _⟩
 · obtain ⟨e1, e2⟩ := zff hm hx
   have HE1 := hid e1
   have HE2 := hid e2
   have dq : ((v.b : Int) == 2147483647) = false := by unfold mx at hq; rw [beq_eq_false_iff_ne]; omega
   have hu : (v.b : Int) + 1 ≤ 4294967295 := by unfold mx at hmb; omega
   have hn4 := (heap_alloc_old w3 (.cells #[.int .u32 (v.a), .int .u32 ((v.b : Int) + 1), .int .u32 (v.c)] 195) (r := w.heap.size + 1) hl3).trans hn3
   have HB4 := hid (HB3.out.alloc HB3.out.size (.cells #[.int .u32 (v.a), .int .u32 ((v.b : Int) + 1), .int .u32 (v.c)] 195))
   obtain ⟨w5, hcl, hA5, hel5, hbl5⟩ := zfj (w3.alloc (.cells #[.int .u32 (v.a), .int .u32 ((v.b : Int) + 1), .int .u32 (v.c)] 195)) w3.heap.size (v.a) ((v.b : Int) + 1) (v.c) (heap_alloc_new w3 _)
   have hn5 := (hel5 (w.heap.size + 1) (by omega)).trans hn4
   have HB5 := hid (HB4.out.trans (hbl5 w.heap.size (by omega)))
   have HVR := hid (zdm (v.a) ((v.b : Int) + 1) (0))
   clear e1 e2 hx hma hmb hmc hq hel5 hbl5 hn4 HB4 hn3 HB3
   go_wp2_with (first
    | (refine wpList_load_row rfl 195 _ rfl w3.heap.size rfl _ _ _ _ hA5 Tryz.underlying195 rfl zdk ?_)
    | (go_at_call 150; refine (HVR.out _).mono ?_; rintro e w6 ⟨rfl, hg6⟩; refine Hid.out ?_))
   refine hid ?_
   have hn6 := (hg6.below.block (w.heap.size + 1) (Array.getElem?_eq_some_iff.1 hn5).1).trans hn5
   have HB6 := hid (HB5.out.trans (hg6.below.mono HB5.out.size))
   clear hg6 hn5 HB5 hA5 hcl
   go_wp2_with (refine wpList_store_row rfl 145 _ _ rfl (w.heap.size + 1) #[.int .u32 (v.a), .int .u32 ((v.b : Int) + 1), .int .u32 (0), .slice none 0 0] rfl rfl _ _ hn6 zcf rfl (zcg _ _ _ _ _ _) ?_)
   refine bodyPost_ret (zcj rfl _ _ (w.heap.size + 1) _ #[.int .u32 (v.a), .int .u32 ((v.b : Int) + 1), .int .u32 (0), .slice none 0 0] _ _ rfl (setRow_heap _ _ _ _ _ _ hn6) Tryz.underlying145 rfl zcf) rfl ?_
   exact ⟨by rw [HE1.out, HE2.out]; rfl, below_setRow HB6.out (by omega) _⟩
 · have dq : ((v.c : Int) == 2147483647) = true := by rw [hq]; rfl
   clear hq
   obtain ⟨e1, e2⟩ := zfe hm hx
   have HE1 := hid e1
   have HE2 := hid e2
   have hn4 := (heap_alloc_old w3 (.cells #[.int .u32 v.a, .int .u32 v.b, .int .u32 v.c] 195) (r := w.heap.size + 1) hl3).trans hn3
   have HB4 := hid (HB3.out.alloc HB3.out.size (.cells #[.int .u32 v.a, .int .u32 v.b, .int .u32 v.c] 195))
   clear e1 e2 hx hma hmb hmc hn3
   go_wp2_with (refine wpList_store_row rfl 145 _ _ rfl (w.heap.size + 1) #[.int .u32 0, .int .u32 0, .int .u32 0, .slice none 0 0] rfl rfl _ _ hn4 zcf rfl (zcg _ _ _ _ _ _) ?_)
   refine bodyPost_ret (zcj rfl _ _ (w.heap.size + 1) _ #[.int .u32 0, .int .u32 0, .int .u32 0, .slice none 0 0] _ _ rfl (setRow_heap _ _ _ _ _ _ hn4) Tryz.underlying145 rfl zcf) rfl ?_
   exact ⟨by rw [HE1.out, HE2.out]; rfl, below_setRow HB4.out (by omega) _⟩
 · obtain ⟨e1, e2⟩ := zff hm hx
   have HE1 := hid e1
   have HE2 := hid e2
   have dq : ((v.c : Int) == 2147483647) = false := by unfold mx at hq; rw [beq_eq_false_iff_ne]; omega
   have hu : (v.c : Int) + 1 ≤ 4294967295 := by unfold mx at hmc; omega
   have hn5 := (heap_alloc_old w3 (.cells #[.int .u32 v.a, .int .u32 v.b, .int .u32 ((v.c : Int) + 1)] 195) (r := w.heap.size + 1) hl3).trans hn3
   have HB5 := hid (HB3.out.alloc HB3.out.size (.cells #[.int .u32 v.a, .int .u32 v.b, .int .u32 ((v.c : Int) + 1)] 195))
   have hA5 := heap_alloc_new w3 (.cells #[.int .u32 v.a, .int .u32 v.b, .int .u32 ((v.c : Int) + 1)] 195)
   have hcl := zfk (w3.alloc (.cells #[.int .u32 v.a, .int .u32 v.b, .int .u32 ((v.c : Int) + 1)] 195)) w3.heap.size
   have HVR := hid (zdm (v.a) (v.b) ((v.c : Int) + 1))
   clear e1 e2 hx hma hmb hmc hq hn3 HB3
   go_wp2_with (first
    | (refine wpList_load_row rfl 195 _ rfl w3.heap.size rfl _ _ _ _ hA5 Tryz.underlying195 rfl zdk ?_)
    | (go_at_call 150; refine (HVR.out _).mono ?_; rintro e w6 ⟨rfl, hg6⟩; refine Hid.out ?_))
   refine hid ?_
   have hn6 := (hg6.below.block (w.heap.size + 1) (Array.getElem?_eq_some_iff.1 hn5).1).trans hn5
   have HB6 := hid (HB5.out.trans (hg6.below.mono HB5.out.size))
   clear hg6 hn5 HB5 hA5 hcl
   go_wp2_with (refine wpList_store_row rfl 145 _ _ rfl (w.heap.size + 1) #[.int .u32 (v.a), .int .u32 (v.b), .int .u32 ((v.c : Int) + 1), .slice none 0 0] rfl rfl _ _ hn6 zcf rfl (zcg _ _ _ _ _ _) ?_)
   refine bodyPost_ret (zcj rfl _ _ (w.heap.size + 1) _ #[.int .u32 (v.a), .int .u32 (v.b), .int .u32 ((v.c : Int) + 1), .slice none 0 0] _ _ rfl (setRow_heap _ _ _ _ _ _ hn6) Tryz.underlying145 rfl zcf) rfl ?_
   exact ⟨by rw [HE1.out, HE2.out]; rfl, below_setRow HB6.out (by omega) _⟩
end VerC
end
section
namespace SpanM
open VerM
structure Ed where
 v : Ver
 s : Nat
structure St where
 f : Ed
 t : Ed
def zeroV : Ver := ⟨0, 0, 0, []⟩
theorem zfm : may zeroV = true := by rfl
def wfE (e : Ed) : Prop := may e.v = true ∧ e.s ≤ 2 ∧ (e.s = 2 → e.v = zeroV)
def late (e : Ed) : Nat := if e.s = 2 then 1 else 0
def cE : Ed → Ed → Int := lex (fun a b => cmpN (late a) (late b)) (lex (fun a b => cmpV a.v b.v) (fun a b => cmpN a.s b.s))
theorem zfn : Pre cE := (zav.key late).lex ((zbh.key Ed.v).lex (zav.key Ed.s))
theorem zfo {a b : Ed} (h : cE a b = 0) : a = b := by
 have h2 := (zba h).2
 have e1 := zbi (zba h2).1
 have e2 := zaw (zba h2).2
 cases a; cases b; simp_all
theorem zfp (a : Ed) : cE a a = 0 := by have := zfn.anti a a; omega
theorem zfq (a b : Ed) : cE a b = - cE b a := zfn.anti a b
theorem le_trans {a b c : Ed} (h1 : cE a b ≤ 0) (h2 : cE b c ≤ 0) : cE a c ≤ 0 := zfn.trans a b c h1 h2
theorem lt_le {a b c : Ed} (h1 : cE a b < 0) (h2 : cE b c ≤ 0) : cE a c < 0 := by
 have h3 := le_trans (show cE a b ≤ 0 by omega) h2
 rcases Int.lt_or_eq_of_le h3 with h | h
 · exact h
 · have e := zfo h
   subst e
   have := zfq a b
   omega
theorem le_lt {a b c : Ed} (h1 : cE a b ≤ 0) (h2 : cE b c < 0) : cE a c < 0 := by
 have h3 := le_trans h1 (show cE b c ≤ 0 by omega)
 rcases Int.lt_or_eq_of_le h3 with h | h
 · exact h
 · have e := zfo h
   subst e
   have := zfq a b
   omega
theorem cE_is {a b : Ed} (ha : wfE a) (hb : wfE b) : cE a b = if a.s = 2 ∨ b.s = 2 then cmpN a.s b.s else if cmpV a.v b.v ≠ 0 then cmpV a.v b.v else cmpN a.s b.s := by
 have a2 := ha.2.1
 have b2 := hb.2.1
 unfold cE VerM.lex late
 by_cases h1 : a.s = 2 <;> by_cases h2 : b.s = 2
 · have e : cmpV a.v b.v = 0 := by rw [ha.2.2 h1, hb.2.2 h2, zbj]
   simp [h1, h2, cmpN, e]
 · have : b.s < 2 := by omega
   simp [h1, h2, cmpN, this]
   omega
 · have : a.s < 2 := by omega
   simp [h1, h2, cmpN, this]
 · simp only [h1, h2, if_false, or_self, ne_eq]
   rw [if_neg (by simp [cmpN])]
def inS (e : Ed) (s : St) : Prop := cE s.f e ≤ 0 ∧ cE e s.t < 0
def inL (e : Ed) (l : List St) : Prop := ∃ s, s ∈ l ∧ inS e s
theorem zfr {e : Ed} {s : St} (h : inS e s) : cE s.f s.t < 0 := le_lt h.1 h.2
theorem zfs {s : St} (h : cE s.f s.t < 0) : inS s.f s := ⟨by rw [zfp]; exact Int.le_refl _, h⟩
theorem zft (e : Ed) : ¬ inL e [] := fun ⟨_, h, _⟩ => by cases h
theorem zfu {e : Ed} {s : St} {l : List St} : inL e (s :: l) ↔ inS e s ∨ inL e l := by
 constructor
 · rintro ⟨x, hx, hi⟩
   rcases List.mem_cons.1 hx with h | h
   · exact .inl (h ▸ hi)
   · exact .inr ⟨x, h, hi⟩
 · rintro (h | ⟨x, hx, hi⟩)
   · exact ⟨s, List.mem_cons_self, h⟩
   · exact ⟨x, List.mem_cons_of_mem _ hx, hi⟩
theorem zfv {e : Ed} {a b : List St} : inL e (a ++ b) ↔ inL e a ∨ inL e b := by
 constructor
 · rintro ⟨x, hx, hi⟩
   rcases List.mem_append.1 hx with h | h
   · exact .inl ⟨x, h, hi⟩
   · exact .inr ⟨x, h, hi⟩
 · rintro (⟨x, hx, hi⟩ | ⟨x, hx, hi⟩)
   · exact ⟨x, List.mem_append_left _ hx, hi⟩
   · exact ⟨x, List.mem_append_right _ hx, hi⟩
theorem zfw {e : Ed} {s : St} : inL e [s] ↔ inS e s := by rw [zfu]; exact or_iff_left (zft e)
def Can (l : List St) : Prop := (∀ s ∈ l, cE s.f s.t < 0) ∧ l.Pairwise (fun a b => cE a.t b.f < 0)
theorem Can.nil : Can [] := ⟨fun s h => (by cases h), List.Pairwise.nil⟩
theorem Can.tail {s : St} {l : List St} (h : Can (s :: l)) : Can l := ⟨fun x hx => h.1 x (List.mem_cons_of_mem _ hx), (List.pairwise_cons.1 h.2).2⟩
theorem Can.first {s : St} {l : List St} (h : Can (s :: l)) {e : Ed} (he : inL e l) : cE s.t e < 0 := by
 obtain ⟨x, hx, hi⟩ := he
 exact lt_le ((List.pairwise_cons.1 h.2).1 x hx) hi.1
theorem Can.least {s : St} {l : List St} (h : Can (s :: l)) {e : Ed} (he : inL e (s :: l)) : cE s.f e ≤ 0 := by
 rcases zfu.1 he with hi | hi
 · exact hi.1
 · have h1 := h.first hi
   have h2 := h.1 s List.mem_cons_self
   have := lt_le h2 (show cE s.t e ≤ 0 by omega)
   omega
theorem Can.ext : ∀ {a b : List St}, Can a → Can b → (∀ e, inL e a ↔ inL e b) → a = b
 | [], [], _, _, _ => rfl
 | [], y :: b, _, hb, h => absurd ((h y.f).2 (zfu.2 (.inl (zfs (hb.1 y List.mem_cons_self))))) (zft _)
 | x :: a, [], ha, _, h => absurd ((h x.f).1 (zfu.2 (.inl (zfs (ha.1 x List.mem_cons_self))))) (zft _)
 | x :: a, y :: b, ha, hb, h => by
   have hx := ha.1 x List.mem_cons_self
   have hy := hb.1 y List.mem_cons_self
   have e1 : x.f = y.f := by
    have h1 := hb.least ((h x.f).1 (zfu.2 (.inl (zfs hx))))
    have h2 := ha.least ((h y.f).2 (zfu.2 (.inl (zfs hy))))
    have := zfq x.f y.f
    exact zfo (by omega)
   have noX : ¬ inL x.t (x :: a) := fun hi => by
    rcases zfu.1 hi with hi | hi
    · have := hi.2; rw [zfp] at this; omega
    · have := ha.first hi; rw [zfp] at this; omega
   have noY : ¬ inL y.t (y :: b) := fun hi => by
    rcases zfu.1 hi with hi | hi
    · have := hi.2; rw [zfp] at this; omega
    · have := hb.first hi; rw [zfp] at this; omega
   have e2 : x.t = y.t := by
    by_cases h1 : cE x.t y.t < 0
    · exact absurd ((h x.t).2 (zfu.2 (.inl ⟨by rw [← e1]; omega, h1⟩))) noX
    · by_cases h2 : cE y.t x.t < 0
      · exact absurd ((h y.t).1 (zfu.2 (.inl ⟨by rw [e1]; omega, h2⟩))) noY
      · have := zfq x.t y.t
        exact zfo (by omega)
   have e : x = y := by cases x; cases y; simp_all
   subst e
   have ht : a = b := Can.ext ha.tail hb.tail fun e => by
    constructor
    · intro hi
      have h1 := ha.first hi
      rcases zfu.1 ((h e).1 (zfu.2 (.inr hi))) with h2 | h2
      · have := h2.2; have := zfq x.t e; omega
      · exact h2
    · intro hi
      have h1 := hb.first hi
      rcases zfu.1 ((h e).2 (zfu.2 (.inr hi))) with h2 | h2
      · have := h2.2; have := zfq x.t e; omega
      · exact h2
   rw [ht]
def meetS (s t : St) : St := ⟨if cE s.f t.f < 0 then t.f else s.f, if 0 < cE s.t t.t then t.t else s.t⟩
structure PutI (D : List St) (i : Nat) (A : List St) : Prop where
 le : i ≤ D.length
 can : Can A
 set : ∀ e, inL e A ↔ inL e (D.take i)
 low : ∀ x ∈ A, ∃ d ∈ D.take i, x.f = d.f
theorem PutI.start (D : List St) : PutI D 0 [] := ⟨Nat.zero_le _, Can.nil, fun e => by simp, fun x h => by cases h⟩
def Rises (D : List St) : Prop := D.Pairwise (fun a b => cE a.f b.f ≤ 0) ∧ ∀ s ∈ D, cE s.f s.t < 0
theorem zfx {D : List St} {i : Nat} {s : St} (h : D[i]? = some s) : D.take (i + 1) = D.take i ++ [s] := by rw [List.take_add_one, h]; rfl
theorem Rises.upto {D : List St} (h : Rises D) {i : Nat} {s : St} (hs : D[i]? = some s) : ∀ d ∈ D.take i, cE d.f s.f ≤ 0 := by
 intro d hd
 obtain ⟨hi, e⟩ := List.getElem?_eq_some_iff.1 hs
 obtain ⟨j, hj, ej⟩ := List.getElem_of_mem hd
 rw [List.length_take] at hj
 rw [List.getElem_take] at ej
 rw [← ej, ← e]
 exact List.pairwise_iff_getElem.1 h.1 j i (by omega) hi (by omega)
theorem PutI.low' {D A : List St} {i : Nat} {s : St} (h : PutI D i A) (hD : Rises D) (hs : D[i]? = some s) : ∀ x ∈ A, cE x.f s.f ≤ 0 := by
 intro x hx
 obtain ⟨d, hd, e⟩ := h.low x hx
 rw [e]; exact hD.upto hs d hd
theorem PutI.ne {D : List St} (hD : Rises D) {i : Nat} {s : St} (hs : D[i]? = some s) : cE s.f s.t < 0 := hD.2 s (List.mem_of_getElem? hs)
theorem PutI.more {D A : List St} {i : Nat} {s : St} (h : PutI D i A) (hD : Rises D) (hs : D[i]? = some s) (ha : ∀ x ∈ A, cE x.t s.f < 0) : PutI D (i + 1) (A ++ [s]) := by
 have hi := (List.getElem?_eq_some_iff.1 hs).1
 refine ⟨hi, ⟨fun x hx => ?_, ?_⟩, fun e => ?_, fun x hx => ?_⟩
 · rcases List.mem_append.1 hx with hx | hx
   · exact h.can.1 x hx
   · rw [List.mem_singleton.1 hx]; exact PutI.ne hD hs
 · rw [List.pairwise_append]
   exact ⟨h.can.2, List.pairwise_singleton _ _, fun a ha' b hb => by rw [List.mem_singleton.1 hb]; exact ha a ha'⟩
 · rw [zfv, zfx hs, zfv, h.set]
 · rw [zfx hs]
   rcases List.mem_append.1 hx with hx | hx
   · obtain ⟨d, hd, e⟩ := h.low x hx
     exact ⟨d, List.mem_append_left _ hd, e⟩
   · exact ⟨s, List.mem_append_right _ List.mem_cons_self, by rw [List.mem_singleton.1 hx]⟩
theorem Can.init {A : List St} {x : St} (h : Can (A ++ [x])) : Can A ∧ cE x.f x.t < 0 ∧ ∀ a ∈ A, cE a.t x.f < 0 := by
 have h2 := List.pairwise_append.1 h.2
 exact ⟨⟨fun s hs => h.1 s (List.mem_append_left _ hs), h2.1⟩, h.1 x (List.mem_append_right _ List.mem_cons_self), fun a ha => h2.2.2 a ha x List.mem_cons_self⟩
theorem Can.ends {A : List St} {x : St} (h : Can (A ++ [x])) {e : Ed} (he : cE x.t e < 0) : ∀ a ∈ A ++ [x], cE a.t e < 0 := by
 obtain ⟨_, h1, h2⟩ := h.init
 intro a ha
 rcases List.mem_append.1 ha with ha | ha
 · exact lt_le (h2 a ha) (by have := lt_le h1 (show cE x.t e ≤ 0 by omega); omega)
 · rw [List.mem_singleton.1 ha]; exact he
theorem PutI.wide {D A : List St} {i : Nat} {s x : St} (h : PutI D i (A ++ [x])) (hD : Rises D) (hs : D[i]? = some s) (h1 : cE s.f x.t ≤ 0) (h2 : cE x.t s.t < 0) : PutI D (i + 1) (A ++ [⟨x.f, s.t⟩]) := by
 have hi := (List.getElem?_eq_some_iff.1 hs).1
 obtain ⟨c1, c2, c3⟩ := h.can.init
 have hl := h.low' hD hs x (List.mem_append_right _ List.mem_cons_self)
 refine ⟨hi, ⟨fun y hy => ?_, ?_⟩, fun e => ?_, fun y hy => ?_⟩
 · rcases List.mem_append.1 hy with hy | hy
   · exact c1.1 y hy
   · rw [List.mem_singleton.1 hy]; exact lt_le c2 (show cE x.t s.t ≤ 0 by omega)
 · rw [List.pairwise_append]
   exact ⟨c1.2, List.pairwise_singleton _ _, fun a ha b hb => by rw [List.mem_singleton.1 hb]; exact c3 a ha⟩
 · have hset := h.set e
   rw [zfv, zfw] at hset
   rw [zfv, zfw, zfx hs, zfv, zfw, ← hset, or_assoc]
   refine or_congr_right ?_
   constructor
   · rintro ⟨g1, g2⟩
     by_cases hx : cE e x.t < 0
     · exact .inl ⟨g1, hx⟩
     · exact .inr ⟨le_trans h1 (by have := zfq e x.t; omega), g2⟩
   · rintro (⟨g1, g2⟩ | ⟨g1, g2⟩)
     · exact ⟨g1, by have := lt_le g2 (show cE x.t s.t ≤ 0 by omega); omega⟩
     · exact ⟨le_trans hl g1, g2⟩
 · rw [zfx hs]
   rcases List.mem_append.1 hy with hy | hy
   · obtain ⟨d, hd, e⟩ := h.low y (List.mem_append_left _ hy)
     exact ⟨d, List.mem_append_left _ hd, e⟩
   · obtain ⟨d, hd, e⟩ := h.low x (List.mem_append_right _ List.mem_cons_self)
     exact ⟨d, List.mem_append_left _ hd, by rw [List.mem_singleton.1 hy]; exact e⟩
theorem PutI.skip {D A : List St} {i : Nat} {s x : St} (h : PutI D i (A ++ [x])) (hD : Rises D) (hs : D[i]? = some s) (h2 : cE s.t x.t ≤ 0) : PutI D (i + 1) (A ++ [x]) := by
 have hi := (List.getElem?_eq_some_iff.1 hs).1
 have hl := h.low' hD hs x (List.mem_append_right _ List.mem_cons_self)
 refine ⟨hi, h.can, fun e => ?_, fun y hy => ?_⟩
 · have hset := h.set e
   rw [zfx hs, zfv (a := D.take i), zfw, ← hset]
   refine ⟨.inl, fun hh => ?_⟩
   rcases hh with hh | ⟨g1, g2⟩
   · exact hh
   · rw [zfv, zfw]
     exact .inr ⟨le_trans hl g1, lt_le g2 h2⟩
 · obtain ⟨d, hd, e⟩ := h.low y hy
   rw [zfx hs]
   exact ⟨d, List.mem_append_left _ hd, e⟩
def sorted (l : List St) : List St := (l.filter fun s => decide (cE s.f s.t < 0)).mergeSort fun a b => decide (cE a.f b.f ≤ 0)
def put (A : List St) (s : St) : List St := match A.getLast? with
 | none => [s]
 | some x => if cE x.t s.f < 0 then A ++ [s] else if cE x.t s.t < 0 then A.dropLast ++ [⟨x.f, s.t⟩] else A
def formM (l : List St) : List St := (sorted l).foldl put []
theorem zfy {l : List St} (s : St) : s ∈ sorted l ↔ s ∈ l ∧ cE s.f s.t < 0 := by
 unfold sorted
 rw [(List.mergeSort_perm _ _).mem_iff, List.mem_filter, decide_eq_true_eq]
theorem zfz (l : List St) : Rises (sorted l) := by
 refine ⟨?_, fun s hs => ((zfy s).1 hs).2⟩
 refine List.Pairwise.imp (fun h => by simpa using h) (List.pairwise_mergeSort (le := fun a b : St => decide (cE a.f b.f ≤ 0)) ?_ ?_ _)
 · intro a b c h1 h2
   simp only [decide_eq_true_eq] at *
   exact le_trans h1 h2
 · intro a b
   simp only [Bool.or_eq_true, decide_eq_true_eq]
   have := zfq a.f b.f
   omega
theorem zga {l : List St} (e : Ed) : inL e (sorted l) ↔ inL e l := by
 constructor
 · rintro ⟨s, hs, hi⟩
   exact ⟨s, ((zfy s).1 hs).1, hi⟩
 · rintro ⟨s, hs, hi⟩
   exact ⟨s, (zfy s).2 ⟨hs, zfr hi⟩, hi⟩
theorem PutI.put {D A : List St} {i : Nat} {s : St} (h : PutI D i A) (hD : Rises D) (hs : D[i]? = some s) : PutI D (i + 1) (SpanM.put A s) := by
 unfold SpanM.put
 split
 · rename_i e
   rw [List.getLast?_eq_none_iff] at e
   subst e
   exact h.more hD hs fun x hx => by cases hx
 · rename_i x e
   obtain ⟨A', rfl⟩ := List.getLast?_eq_some_iff.1 e
   split
   · rename_i h1
     exact h.more hD hs (h.can.ends h1)
   · rename_i h1
     have := zfq x.t s.f
     split
     · rename_i h2
       rw [List.dropLast_concat]
       exact h.wide hD hs (by omega) h2
     · rename_i h2
       have := zfq x.t s.t
       exact h.skip hD hs (by omega)
theorem PutI.all {D : List St} (hD : Rises D) : ∀ i, i ≤ D.length → PutI D i ((D.take i).foldl SpanM.put [])
 | 0, _ => PutI.start D
 | i + 1, h => by
   have hs : D[i]? = some D[i] := List.getElem?_eq_getElem (by omega)
   rw [zfx hs, List.foldl_append]
   exact (PutI.all hD i (by omega)).put hD hs
theorem zgb (l : List St) : Can (formM l) ∧ ∀ e, inL e (formM l) ↔ inL e l := by
 have h := PutI.all (zfz l) (sorted l).length (Nat.le_refl _)
 rw [List.take_length] at h
 refine ⟨h.can, fun e => ?_⟩
 have := h.set e
 rw [List.take_length, zga] at this
 exact this
theorem zgc {l R : List St} (h1 : Can R) (h2 : ∀ e, inL e R ↔ inL e l) : R = formM l := Can.ext h1 (zgb l).1 fun e => (h2 e).trans ((zgb l).2 e).symm
end SpanM
end
section
open Go.RowKit
namespace VerC
open VerM StrC TextR
def encT (l : B) : Value := .string (str l)
theorem info_text : (Tryz.prog.info? 9).map (fun i => (i.zero, i.size, i.bytes)) = some (some (.string ⟨#[]⟩), 1, 16) := by kernel_rfl
def OwnS (w : World) (B : Nat) (v : Value) (l : TL) : Prop := w.ownsRow B 9 1 v l.length (l.map encT)
theorem OwnS.nil (w : World) (B : Nat) : OwnS w B (.slice none 0 0) [] := World.ownsRow_nil _ _ _ _
theorem zgd {w w' : World} (h : Below w.heap.size w w') : w.grownBy w' none := ⟨h.os, h.tape, h.output, h.size, fun k hk _ => h.block k hk⟩
theorem OwnS.below {w w' : World} {B : Nat} {v : Value} {l : TL} (h : OwnS w B v l) (hb : Below w.heap.size w w') : OwnS w' B v l := World.ownsRow.kept h (zgd hb) (Classical.em _)
theorem snocS {w : World} {B n : Nat} {v : Value} {l : TL} {s : List UInt8} (h : w.ownsRow B 9 1 v (n + 1) (l.map encT ++ [encT s])) (hn : n = l.length) : OwnS w B v (l ++ [s]) := by
 unfold OwnS
 rw [List.map_append, List.map_singleton, List.length_append, List.length_singleton, ← hn]
 exact h
theorem OwnS.open_ {w : World} {B : Nat} {v : Value} {l : TL} (h : OwnS w B v l) (hp : 0 < l.length) : ∃ g cp, v = .slice (some ⟨g, 0, none⟩) l.length cp ∧ B ≤ g ∧ g < w.heap.size ∧ l.length ≤ cp ∧ cp ≤ maxLen ∧
 (∀ i, i < l.length → w.cell? ⟨g, i, none⟩ = some (.string (str (l.getD i [])))) ∧ (∀ i, w.frozen? ⟨g, i, none⟩ = false) := by
 have h' : w.ownsRow B 9 1 v l.length (l.map encT) := h
 have hlt := h'.lt
 have h0 := h'
 obtain ⟨_, ⟨rfl, h1⟩ | ⟨g, cp, cur, rfl, hg0, hblk, hle, hcm, hsz, htk⟩⟩ := h'
 · omega
 · refine ⟨g, cp, rfl, hg0, (hlt g rfl).2, hle, hcm, fun i hi => ?_, fun i => h0.frozenAt i⟩
   rw [h0.cellAt i (by omega)]
   simp [hi]; rfl
theorem take_next {F : TL} {i : Nat} (hlt : i < F.length) : F.take (i + 1) = F.take i ++ [F.getD i []] := by rw [List.take_add_one]; simp [hlt]
end VerC
end
section

end
section
open Go.RowKit
namespace VerC
open VerM StrC TextR Go.Sort Go.Shelf
structure TD (w : World) (blk : Nat) where
 s : B
 v : Ver
 a : Option Addr
 c : Nat
 read : readB s = some v
 txs : Txs w a c v.pre
 far : ∀ b o, a = some ⟨b, o, none⟩ → b ≠ blk
instance (w : World) (blk : Nat) : Inhabited (TD w blk) := ⟨⟨[48, 46, 48, 46, 48], ⟨0, 0, 0, []⟩, none, 0, by rfl, Txs.nil _ _ _, fun b o h => by cases h⟩⟩
end VerC
end
section
namespace RowKC
open Go Go.Sort
theorem zge {α : Type} [Inhabited α] (enc : α → List Value) (k : Nat) (hk : ∀ x, (enc x).length = k) : ∀ (l : List α) (j : Nat), j < l.length * k → (l.flatMap enc)[j]? = some ((enc l[j / k]!)[j % k]!)
 | [], j, h => by simp at h
 | x :: l, j, h => by
   have k0 : 0 < k := by
    rcases Nat.eq_zero_or_pos k with e | e
    · subst e; simp at h
    · exact e
   rw [List.flatMap_cons]
   by_cases hj : j < k
   · rw [List.getElem?_append_left (by rw [hk]; exact hj), Nat.div_eq_of_lt hj, Nat.mod_eq_of_lt hj]
     simp [hk, hj]
   · rw [List.length_cons, Nat.add_mul, Nat.one_mul] at h
     rw [List.getElem?_append_right (by rw [hk]; omega), hk, zge enc k hk l (j - k) (by omega), Nat.mod_eq_sub_mod (a := j) (b := k) (by omega), Nat.div_eq_sub_div (a := j) (b := k) k0 (by omega)]
     simp
theorem zgf {α : Type} (enc : α → List Value) (k : Nat) (hk : ∀ x, (enc x).length = k) : ∀ (l : List α), (l.flatMap enc).length = l.length * k
 | [] => by simp
 | x :: l => by rw [List.flatMap_cons, List.length_append, hk, zgf enc k hk l, List.length_cons, Nat.add_mul, Nat.one_mul, Nat.add_comm]
theorem zgg {α : Type} [Inhabited α] (d : Array α) (i : Nat) : d.toList[i]! = d[i]! := by
 by_cases h : i < d.size
 · rw [getElem!_pos d i h, getElem!_pos d.toList i (by simpa using h)]; simp
 · rw [getElem!_neg d i h, getElem!_neg d.toList i (by simpa using h)]
theorem zgh {α : Type} [Inhabited α] (enc : α → List Value) (k : Nat) (hk : ∀ x, (enc x).length = k) (d : Array α) : (flatK enc k d).toList = d.toList.flatMap enc := by
 apply List.ext_getElem?
 intro j
 by_cases hj : j < d.size * k
 · rw [zge enc k hk d.toList j (by simpa using hj), Array.getElem?_toList, Array.getElem?_eq_getElem (by simpa using hj)]
   have := get_flatK enc k d j hj
   rw [getElem!_pos _ j (by simpa using hj)] at this
   rw [this, zgg d (j / k)]
 · rw [List.getElem?_eq_none (by simpa using hj), List.getElem?_eq_none (by rw [zgf enc k hk]; simpa using hj)]
theorem zgi {α : Type} [Inhabited α] (enc : α → List Value) (k : Nat) (hk : ∀ x, (enc x).length = k) {w : World} {base g cap : Nat} {e : TypeId} {d : Array α} (h : w.ownsRow base e k (.slice (some ⟨g, 0, none⟩) d.size cap) d.size (d.toList.flatMap enc)) : HoldsK enc k w g 0 d := by
 intro j hj
 have hj' : j < d.size * k := by simpa using hj
 refine ⟨?_, by rw [Nat.zero_add]; exact h.frozenAt j⟩
 rw [Nat.zero_add, h.cellAt j hj', zge enc k hk d.toList j (by simpa using hj'), get_flatK enc k d j hj', zgg d (j / k)]
 rfl
theorem zgj {w : World} {g n : Nat} {os : Array Obj} {cur : Array Value} {e : TypeId} {fr : Nat × Nat} (F : Array Value) (hb : w.heap[g]? = some (.cells cur e fr)) :
 (grow (putRow id (Sort.ahead w n) g 0 F) os).heap[g]? = some (.cells (putCells id 0 F cur) e fr) := by
 have hg : g < w.heap.size := (Array.getElem?_eq_some_iff.1 hb).1
 rw [heap_grow_old _ _ (by simpa using hg)]
 simp [putRow, mapBlock, Sort.ahead, Array.getElem?_modify, hb, onCells]
theorem zgk {α : Type} [Inhabited α] (enc : α → List Value) (k : Nat) {w : World} {g n : Nat} {os : Array Obj} (d : Array α) : w.grownBy (sortWorldK enc k w g 0 n d os) (some g) := by
 unfold sortWorldK putRowK
 refine ⟨rfl, rfl, rfl, by simp, fun k hk hne => ?_⟩
 rw [heap_grow_old _ _ (by simpa using hk)]
 have : g ≠ k := fun e => hne (by rw [e])
 simp [putRow, mapBlock, Sort.ahead, Array.getElem?_modify, this]
theorem zgl (cur F : Array Value) (h : F.size ≤ cur.size) : (putCells id 0 F cur).toList.take F.size = F.toList := by
 apply List.ext_getElem?
 intro j
 by_cases hj : j < F.size
 · rw [List.getElem?_take_of_lt hj, Array.getElem?_toList, Array.getElem?_toList]
   simp [putCells, hj, show j < cur.size by omega]
 · rw [List.getElem?_take_eq_none (by omega), List.getElem?_eq_none (by simp; omega)]
theorem zgm {α : Type} [Inhabited α] (enc : α → List Value) (k : Nat) (hk : ∀ x, (enc x).length = k) {w : World} {base g cap n m : Nat} {e : TypeId} {xs : List Value} {os : Array Obj} {d : Array α} (hm : d.size = m) (h : w.ownsRow base e k (.slice (some ⟨g, 0, none⟩) m cap) m xs) :
 (sortWorldK enc k w g 0 n d os).ownsRow base e k (.slice (some ⟨g, 0, none⟩) m cap) m (d.toList.flatMap enc) := by
 subst hm
 rcases h.2 with ⟨h0, _⟩ | ⟨g', cap', cur, e1, hbase, hb, h1, h2, h3, h4⟩
 · cases h0
 simp only [Value.slice.injEq, Option.some.injEq, Addr.mk.injEq, and_true, true_and] at e1
 obtain ⟨rfl, rfl⟩ := e1
 refine ⟨by rw [zgf enc k hk]; simp, .inr ⟨g, cap, _, rfl, hbase, zgj _ hb, h1, h2, by simp [putCells, h3], ?_⟩⟩
 rw [← zgh enc k hk, ← size_flatK enc k d]
 exact zgl cur _ (by rw [size_flatK, h3]; exact Nat.mul_le_mul_right _ h1)
end RowKC
end
end Go.Proofs.YtfbegbmjmhnplaaGreatDoor
