/-
  Package version's Next, and the document's Least and Next: one contract a function.
-/
import Derived.Test.YtapikdgncdcneaaGreatDoorVerLeast
import Derived.Test.YtapikdgncdcneaaGreatDoorVerRef5
import Derived.Lib.SliceRun
namespace Go.Proofs.YtapikdgncdcneaaGreatDoor
open Go.RowKit
namespace VerC
open VerM StrC TextR
set_option linter.unusedSimpArgs false

/-- the next release, part by part; none, if there is no such part or no greater number -/
def nextV (v : Ver) (k : Int) : Option Ver :=
  if k = 0 then (if v.a = mx then none else some ⟨v.a + 1, 0, 0, []⟩)
  else if k = 1 then (if v.b = mx then none else some ⟨v.a, v.b + 1, 0, []⟩)
  else if k = 2 then (if v.c = mx then none else some ⟨v.a, v.b, v.c + 1, []⟩)
  else none
def nxV (v : Ver) (k : Int) : Ver := if may v = true then (nextV v k).getD ⟨0, 0, 0, []⟩ else ⟨0, 0, 0, []⟩
def nxC (v : Ver) (k : Int) : Int := if may v = true then (if (nextV v k).isSome then 0 else 2) else 70
theorem nx_no {v : Ver} (k : Int) (h : may v = false) : nxV v k = ⟨0, 0, 0, []⟩ ∧ nxC v k = 70 := by unfold nxV nxC; rw [h]; exact ⟨rfl, rfl⟩
theorem nx_none {v : Ver} {k : Int} (h : may v = true) (hn : nextV v k = none) : nxV v k = ⟨0, 0, 0, []⟩ ∧ nxC v k = 2 := by unfold nxV nxC; rw [h, hn]; exact ⟨rfl, rfl⟩
theorem nx_some {v u : Ver} {k : Int} (h : may v = true) (hn : nextV v k = some u) : nxV v k = u ∧ nxC v k = 0 := by unfold nxV nxC; rw [h, hn]; exact ⟨rfl, rfl⟩
/-- the ways of a part -/
theorem next_ways (v : Ver) (k : Int) : ((k < 0 ∨ 3 ≤ k) ∧ nextV v k = none) ∨ (k = 0 ∧ v.a = mx ∧ nextV v k = none) ∨ (k = 0 ∧ v.a ≠ mx ∧ nextV v k = some ⟨v.a + 1, 0, 0, []⟩) ∨
    (k = 1 ∧ v.b = mx ∧ nextV v k = none) ∨ (k = 1 ∧ v.b ≠ mx ∧ nextV v k = some ⟨v.a, v.b + 1, 0, []⟩) ∨ (k = 2 ∧ v.c = mx ∧ nextV v k = none) ∨ (k = 2 ∧ v.c ≠ mx ∧ nextV v k = some ⟨v.a, v.b, v.c + 1, []⟩) := by
  unfold nextV
  by_cases h0 : k = 0
  · subst h0
    by_cases h : v.a = mx <;> simp [h]
  · by_cases h1 : k = 1
    · subst h1
      by_cases h : v.b = mx <;> simp [h]
    · by_cases h2 : k = 2
      · subst h2
        by_cases h : v.c = mx <;> simp [h]
      · left
        refine ⟨by omega, ?_⟩
        simp [h0, h1, h2]
theorem zero_u32 (w : World) : (zeroValue 33).run Tryz.prog w = .ok (.int .u32 0) w := by kernel_rfl
/-- numbers of an array's end, struck -/
theorem clear_two (w : World) (g : Nat) (x y z : Int) (h : w.heap[g]? = some (arrO x y z)) : ∃ w', (Builtin.clear_ #[151] 0 #[.slice (some ⟨g, 1, none⟩) 2 2]).run Tryz.prog w = .ok (.tuple #[]) w' ∧
    w'.heap[g]? = some (arrO x 0 0) ∧ (∀ k, k ≠ g → w'.heap[k]? = w.heap[k]?) ∧ (∀ B, B ≤ g → Below B w w') := by
  obtain ⟨c0, c1, c2⟩ := arr_cells h
  refine ⟨(w.setCell ⟨g, 1, none⟩ (.int .u32 0)).setCell ⟨g, 2, none⟩ (.int .u32 0), ?_, setCell_row (setCell_row h 1 _) 2 _, fun k hk => (setCell_else 2 _ hk).trans (setCell_else 1 _ hk), fun B hB => ((Below.refl B w).setCell (show B ≤ (⟨g, 1, none⟩ : Addr).block from hB) _).setCell (show B ≤ (⟨g, 2, none⟩ : Addr).block from hB) _⟩
  exact Lib.run_clear_slice w 151 33 0 (.int .u32 0) Tryz.underlying151 zero_u32 rfl rfl g 1 2 2 (by decide) (fun j hj => by
    match j, hj with
    | 0, _ => rw [c1]; rfl
    | 1, _ => rw [c2]; rfl) (fun j _ => arr_frozen h _)
theorem clear_one (w : World) (g : Nat) (x y z : Int) (h : w.heap[g]? = some (arrO x y z)) : ∃ w', (Builtin.clear_ #[151] 0 #[.slice (some ⟨g, 2, none⟩) 1 1]).run Tryz.prog w = .ok (.tuple #[]) w' ∧
    w'.heap[g]? = some (arrO x y 0) ∧ (∀ k, k ≠ g → w'.heap[k]? = w.heap[k]?) ∧ (∀ B, B ≤ g → Below B w w') := by
  obtain ⟨c0, c1, c2⟩ := arr_cells h
  refine ⟨w.setCell ⟨g, 2, none⟩ (.int .u32 0), ?_, setCell_row h 2 _, fun k hk => setCell_else 2 _ hk, fun B hB => (Below.refl B w).setCell (show B ≤ (⟨g, 2, none⟩ : Addr).block from hB) _⟩
  exact Lib.run_clear_slice w 151 33 0 (.int .u32 0) Tryz.underlying151 zero_u32 rfl rfl g 2 1 1 (by decide) (fun j hj => by
    match j, hj with
    | 0, _ => rw [c2]; rfl) (fun j _ => arr_frozen h _)
theorem clear_none (w : World) (g : Nat) : (Builtin.clear_ #[151] 0 #[.slice (some ⟨g, 0, none⟩) 0 0]).run Tryz.prog w = .ok (.tuple #[]) w := by
  simp [Builtin.clear_, run_underlying Tryz.underlying151, zero_u32, Builtin.zeroCells]
set_option maxHeartbeats 8000000 in
set_option maxRecDepth 100000 in
theorem pNext_any (v : Ver) (k : Int) (a : Option Addr) (cap : Nat) (w : World) (hT : Txs w a cap v.pre) :
    Calls Tryz.prog 157 #[verV v.a v.b v.c a v.pre.length cap, .int .i64 k] w fun e w' => e = .returned (.tuple #[verV (nxV v k).a (nxV v k).b (nxV v k).c none 0 0, .int .i64 (nxC v k)]) ∧ Below w.heap.size w w' := by
  have hT1 := hT.gr ((Below.refl _ w).alloc (Nat.le_refl _) (verO v.a v.b v.c a v.pre.length cap))
  have HM := Lib.hid (fun w' (h : Txs w' a cap v.pre) => pmay_any v a cap w' h)
  have hs1 : (w.alloc (verO v.a v.b v.c a v.pre.length cap)).heap.size = w.heap.size + 1 := by simp
  have hnew := heap_alloc_new w (verO v.a v.b v.c a v.pre.length cap)
  have hr1 := (heap_alloc_old (w.alloc (verO v.a v.b v.c a v.pre.length cap)) (verO 0 0 0 none 0 0) (r := w.heap.size) (by rw [hs1]; omega)).trans hnew
  have hn1 := heap_alloc_new (w.alloc (verO v.a v.b v.c a v.pre.length cap)) (verO 0 0 0 none 0 0)
  rw [hs1] at hn1
  have HB1 : Hid (Below w.heap.size w ((w.alloc (verO v.a v.b v.c a v.pre.length cap)).alloc (verO 0 0 0 none 0 0))) := Lib.hid (((Below.refl _ w).alloc (Nat.le_refl _) _).alloc (by rw [hs1]; omega) _)
  have HT1 := Lib.hid (hT1.alloc (verO 0 0 0 none 0 0))
  have hs2 : ((w.alloc (verO v.a v.b v.c a v.pre.length cap)).alloc (verO 0 0 0 none 0 0)).heap.size = w.heap.size + 2 := by simp
  clear hT hT1 hs1 hnew
  rcases Bool.eq_false_or_eq_true (may v) with hm | hm
  rotate_left
  · obtain ⟨e1, e2⟩ := nx_no k hm
    have HE1 := Lib.hid e1
    have HE2 := Lib.hid e2
    rw [mayE_no hm] at HM
    clear e1 e2
    go_enter Tryz.func157, Tryz.ntmps157
    go_wp2_with fail
    generalize (w.alloc (verO v.a v.b v.c a v.pre.length cap)).alloc (verO 0 0 0 none 0 0) = W at *
    refine (HM.out W HT1.out).mono ?_
    rintro e w2 ⟨rfl, hg2⟩
    refine Hid.out ?_
    refine Lib.hid ?_
    have hn2 := (hg2.below.block (w.heap.size + 1) (by omega)).trans hn1
    have HB2 := Lib.hid (HB1.out.trans (hg2.below.mono HB1.out.size))
    clear hg2 HM HT1 HB1 hs2 hr1 hn1
    go_wp2_with (refine wpList_store_row rfl 36 _ _ rfl (w.heap.size + 1) #[.int .u32 0, .int .u32 0, .int .u32 0, .slice none 0 0] rfl rfl _ _ hn2 info_ver rfl (ver_one _ _ _ _ _ _) ?_)
    refine bodyPost_ret (results_cell_tmp rfl _ _ (w.heap.size + 1) _ #[.int .u32 0, .int .u32 0, .int .u32 0, .slice none 0 0] _ _ rfl (setRow_heap _ _ _ _ _ _ hn2) Tryz.underlying36 rfl info_ver) rfl ?_
    exact ⟨by rw [HE1.out, HE2.out]; rfl, below_setRow HB2.out (by omega) _⟩
  have HN := Lib.hid (fun w' => pnumbers_any v.a v.b v.c a v.pre.length cap w')
  obtain ⟨hma, hmb, hmc, -, -⟩ := may_parts hm
  rw [mayE_yes hm] at HM
  have hw := next_ways v k
  go_enter Tryz.func157, Tryz.ntmps157
  go_wp2_with fail
  generalize (w.alloc (verO v.a v.b v.c a v.pre.length cap)).alloc (verO 0 0 0 none 0 0) = W at *
  refine (HM.out W HT1.out).mono ?_
  rintro e w2 ⟨rfl, hg2⟩
  refine Hid.out ?_
  refine Lib.hid ?_
  have hr2 := (hg2.below.block w.heap.size (by omega)).trans hr1
  have hn2 := (hg2.below.block (w.heap.size + 1) (by omega)).trans hn1
  have HB2 := Lib.hid (HB1.out.trans (hg2.below.mono HB1.out.size))
  clear hg2 HM HT1 HB1 hs2 hr1 hn1
  go_wp2_with (first
    | (refine wpList_load_row rfl 36 _ rfl w.heap.size rfl _ _ _ _ hr2 Tryz.underlying36 rfl info_ver ?_)
    | (go_at_call 60; refine (HN.out _).mono ?_; rintro e w3 ⟨rfl, hg3⟩; refine Hid.out ?_))
  refine Lib.hid ?_
  have hn3 := (hg3.below.block (w.heap.size + 1) (Array.getElem?_eq_some_iff.1 hn2).1).trans hn2
  have HB3 := Lib.hid (HB2.out.trans (hg3.below.mono HB2.out.size))
  have hl3 : w.heap.size + 1 < w3.heap.size := (Array.getElem?_eq_some_iff.1 hn3).1
  clear hg3 hn2 hr2 HB2 HN
  rcases hw with ⟨hk, hx⟩ | ⟨rfl, hq, hx⟩ | ⟨rfl, hq, hx⟩ | ⟨rfl, hq, hx⟩ | ⟨rfl, hq, hx⟩ | ⟨rfl, hq, hx⟩ | ⟨rfl, hq, hx⟩
  · rcases hk with hk | hk
    · have d1 : decide (k < 0) = true := decide_eq_true hk
      obtain ⟨e1, e2⟩ := nx_none hm hx
      have HE1 := Lib.hid e1
      have HE2 := Lib.hid e2
      have hn4 := (heap_alloc_old w3 (.cells #[.int .u32 v.a, .int .u32 v.b, .int .u32 v.c] 97) (r := w.heap.size + 1) hl3).trans hn3
      have HB4 := Lib.hid (HB3.out.alloc HB3.out.size (.cells #[.int .u32 v.a, .int .u32 v.b, .int .u32 v.c] 97))
      clear e1 e2 hx hma hmb hmc hn3
      go_wp2_with (refine wpList_store_row rfl 36 _ _ rfl (w.heap.size + 1) #[.int .u32 0, .int .u32 0, .int .u32 0, .slice none 0 0] rfl rfl _ _ hn4 info_ver rfl (ver_one _ _ _ _ _ _) ?_)
      refine bodyPost_ret (results_cell_tmp rfl _ _ (w.heap.size + 1) _ #[.int .u32 0, .int .u32 0, .int .u32 0, .slice none 0 0] _ _ rfl (setRow_heap _ _ _ _ _ _ hn4) Tryz.underlying36 rfl info_ver) rfl ?_
      exact ⟨by rw [HE1.out, HE2.out]; rfl, below_setRow HB4.out (by omega) _⟩
    · have d1 : decide (k < 0) = false := decide_eq_false (by omega)
      have d2 : decide (3 ≤ k) = true := decide_eq_true hk
      obtain ⟨e1, e2⟩ := nx_none hm hx
      have HE1 := Lib.hid e1
      have HE2 := Lib.hid e2
      have hn4 := (heap_alloc_old w3 (.cells #[.int .u32 v.a, .int .u32 v.b, .int .u32 v.c] 97) (r := w.heap.size + 1) hl3).trans hn3
      have HB4 := Lib.hid (HB3.out.alloc HB3.out.size (.cells #[.int .u32 v.a, .int .u32 v.b, .int .u32 v.c] 97))
      clear e1 e2 hx hma hmb hmc hn3
      go_wp2_with (refine wpList_store_row rfl 36 _ _ rfl (w.heap.size + 1) #[.int .u32 0, .int .u32 0, .int .u32 0, .slice none 0 0] rfl rfl _ _ hn4 info_ver rfl (ver_one _ _ _ _ _ _) ?_)
      refine bodyPost_ret (results_cell_tmp rfl _ _ (w.heap.size + 1) _ #[.int .u32 0, .int .u32 0, .int .u32 0, .slice none 0 0] _ _ rfl (setRow_heap _ _ _ _ _ _ hn4) Tryz.underlying36 rfl info_ver) rfl ?_
      exact ⟨by rw [HE1.out, HE2.out]; rfl, below_setRow HB4.out (by omega) _⟩
  · have dq : ((v.a : Int) == 2147483647) = true := by rw [hq]; rfl
    clear hq
    obtain ⟨e1, e2⟩ := nx_none hm hx
    have HE1 := Lib.hid e1
    have HE2 := Lib.hid e2
    have hn4 := (heap_alloc_old w3 (.cells #[.int .u32 v.a, .int .u32 v.b, .int .u32 v.c] 97) (r := w.heap.size + 1) hl3).trans hn3
    have HB4 := Lib.hid (HB3.out.alloc HB3.out.size (.cells #[.int .u32 v.a, .int .u32 v.b, .int .u32 v.c] 97))
    clear e1 e2 hx hma hmb hmc hn3
    go_wp2_with (refine wpList_store_row rfl 36 _ _ rfl (w.heap.size + 1) #[.int .u32 0, .int .u32 0, .int .u32 0, .slice none 0 0] rfl rfl _ _ hn4 info_ver rfl (ver_one _ _ _ _ _ _) ?_)
    refine bodyPost_ret (results_cell_tmp rfl _ _ (w.heap.size + 1) _ #[.int .u32 0, .int .u32 0, .int .u32 0, .slice none 0 0] _ _ rfl (setRow_heap _ _ _ _ _ _ hn4) Tryz.underlying36 rfl info_ver) rfl ?_
    exact ⟨by rw [HE1.out, HE2.out]; rfl, below_setRow HB4.out (by omega) _⟩
  · obtain ⟨e1, e2⟩ := nx_some hm hx
    have HE1 := Lib.hid e1
    have HE2 := Lib.hid e2
    have dq : ((v.a : Int) == 2147483647) = false := by unfold mx at hq; rw [beq_eq_false_iff_ne]; omega
    have hu : (v.a : Int) + 1 ≤ 4294967295 := by unfold mx at hma; omega
    have hn4 := (heap_alloc_old w3 (.cells #[.int .u32 ((v.a : Int) + 1), .int .u32 (v.b), .int .u32 (v.c)] 97) (r := w.heap.size + 1) hl3).trans hn3
    have HB4 := Lib.hid (HB3.out.alloc HB3.out.size (.cells #[.int .u32 ((v.a : Int) + 1), .int .u32 (v.b), .int .u32 (v.c)] 97))
    obtain ⟨w5, hcl, hA5, hel5, hbl5⟩ := clear_two (w3.alloc (.cells #[.int .u32 ((v.a : Int) + 1), .int .u32 (v.b), .int .u32 (v.c)] 97)) w3.heap.size ((v.a : Int) + 1) (v.b) (v.c) (heap_alloc_new w3 _)
    have hn5 := (hel5 (w.heap.size + 1) (by omega)).trans hn4
    have HB5 := Lib.hid (HB4.out.trans (hbl5 w.heap.size (by omega)))
    have HVR := Lib.hid (pversion_any ((v.a : Int) + 1) (0) (0))
    clear e1 e2 hx hma hmb hmc hq hel5 hbl5 hn4 HB4 hn3 HB3
    go_wp2_with (first
      | (refine wpList_load_row rfl 97 _ rfl w3.heap.size rfl _ _ _ _ hA5 Tryz.underlying97 rfl info_arr ?_)
      | (go_at_call 80; refine (HVR.out _).mono ?_; rintro e w6 ⟨rfl, hg6⟩; refine Hid.out ?_))
    refine Lib.hid ?_
    have hn6 := (hg6.below.block (w.heap.size + 1) (Array.getElem?_eq_some_iff.1 hn5).1).trans hn5
    have HB6 := Lib.hid (HB5.out.trans (hg6.below.mono HB5.out.size))
    clear hg6 hn5 HB5 hA5 hcl
    go_wp2_with (refine wpList_store_row rfl 36 _ _ rfl (w.heap.size + 1) #[.int .u32 ((v.a : Int) + 1), .int .u32 (0), .int .u32 (0), .slice none 0 0] rfl rfl _ _ hn6 info_ver rfl (ver_one _ _ _ _ _ _) ?_)
    refine bodyPost_ret (results_cell_tmp rfl _ _ (w.heap.size + 1) _ #[.int .u32 ((v.a : Int) + 1), .int .u32 (0), .int .u32 (0), .slice none 0 0] _ _ rfl (setRow_heap _ _ _ _ _ _ hn6) Tryz.underlying36 rfl info_ver) rfl ?_
    exact ⟨by rw [HE1.out, HE2.out]; rfl, below_setRow HB6.out (by omega) _⟩
  · have dq : ((v.b : Int) == 2147483647) = true := by rw [hq]; rfl
    clear hq
    obtain ⟨e1, e2⟩ := nx_none hm hx
    have HE1 := Lib.hid e1
    have HE2 := Lib.hid e2
    have hn4 := (heap_alloc_old w3 (.cells #[.int .u32 v.a, .int .u32 v.b, .int .u32 v.c] 97) (r := w.heap.size + 1) hl3).trans hn3
    have HB4 := Lib.hid (HB3.out.alloc HB3.out.size (.cells #[.int .u32 v.a, .int .u32 v.b, .int .u32 v.c] 97))
    clear e1 e2 hx hma hmb hmc hn3
    go_wp2_with (refine wpList_store_row rfl 36 _ _ rfl (w.heap.size + 1) #[.int .u32 0, .int .u32 0, .int .u32 0, .slice none 0 0] rfl rfl _ _ hn4 info_ver rfl (ver_one _ _ _ _ _ _) ?_)
    refine bodyPost_ret (results_cell_tmp rfl _ _ (w.heap.size + 1) _ #[.int .u32 0, .int .u32 0, .int .u32 0, .slice none 0 0] _ _ rfl (setRow_heap _ _ _ _ _ _ hn4) Tryz.underlying36 rfl info_ver) rfl ?_
    exact ⟨by rw [HE1.out, HE2.out]; rfl, below_setRow HB4.out (by omega) _⟩
  · obtain ⟨e1, e2⟩ := nx_some hm hx
    have HE1 := Lib.hid e1
    have HE2 := Lib.hid e2
    have dq : ((v.b : Int) == 2147483647) = false := by unfold mx at hq; rw [beq_eq_false_iff_ne]; omega
    have hu : (v.b : Int) + 1 ≤ 4294967295 := by unfold mx at hmb; omega
    have hn4 := (heap_alloc_old w3 (.cells #[.int .u32 (v.a), .int .u32 ((v.b : Int) + 1), .int .u32 (v.c)] 97) (r := w.heap.size + 1) hl3).trans hn3
    have HB4 := Lib.hid (HB3.out.alloc HB3.out.size (.cells #[.int .u32 (v.a), .int .u32 ((v.b : Int) + 1), .int .u32 (v.c)] 97))
    obtain ⟨w5, hcl, hA5, hel5, hbl5⟩ := clear_one (w3.alloc (.cells #[.int .u32 (v.a), .int .u32 ((v.b : Int) + 1), .int .u32 (v.c)] 97)) w3.heap.size (v.a) ((v.b : Int) + 1) (v.c) (heap_alloc_new w3 _)
    have hn5 := (hel5 (w.heap.size + 1) (by omega)).trans hn4
    have HB5 := Lib.hid (HB4.out.trans (hbl5 w.heap.size (by omega)))
    have HVR := Lib.hid (pversion_any (v.a) ((v.b : Int) + 1) (0))
    clear e1 e2 hx hma hmb hmc hq hel5 hbl5 hn4 HB4 hn3 HB3
    go_wp2_with (first
      | (refine wpList_load_row rfl 97 _ rfl w3.heap.size rfl _ _ _ _ hA5 Tryz.underlying97 rfl info_arr ?_)
      | (go_at_call 80; refine (HVR.out _).mono ?_; rintro e w6 ⟨rfl, hg6⟩; refine Hid.out ?_))
    refine Lib.hid ?_
    have hn6 := (hg6.below.block (w.heap.size + 1) (Array.getElem?_eq_some_iff.1 hn5).1).trans hn5
    have HB6 := Lib.hid (HB5.out.trans (hg6.below.mono HB5.out.size))
    clear hg6 hn5 HB5 hA5 hcl
    go_wp2_with (refine wpList_store_row rfl 36 _ _ rfl (w.heap.size + 1) #[.int .u32 (v.a), .int .u32 ((v.b : Int) + 1), .int .u32 (0), .slice none 0 0] rfl rfl _ _ hn6 info_ver rfl (ver_one _ _ _ _ _ _) ?_)
    refine bodyPost_ret (results_cell_tmp rfl _ _ (w.heap.size + 1) _ #[.int .u32 (v.a), .int .u32 ((v.b : Int) + 1), .int .u32 (0), .slice none 0 0] _ _ rfl (setRow_heap _ _ _ _ _ _ hn6) Tryz.underlying36 rfl info_ver) rfl ?_
    exact ⟨by rw [HE1.out, HE2.out]; rfl, below_setRow HB6.out (by omega) _⟩
  · have dq : ((v.c : Int) == 2147483647) = true := by rw [hq]; rfl
    clear hq
    obtain ⟨e1, e2⟩ := nx_none hm hx
    have HE1 := Lib.hid e1
    have HE2 := Lib.hid e2
    have hn4 := (heap_alloc_old w3 (.cells #[.int .u32 v.a, .int .u32 v.b, .int .u32 v.c] 97) (r := w.heap.size + 1) hl3).trans hn3
    have HB4 := Lib.hid (HB3.out.alloc HB3.out.size (.cells #[.int .u32 v.a, .int .u32 v.b, .int .u32 v.c] 97))
    clear e1 e2 hx hma hmb hmc hn3
    go_wp2_with (refine wpList_store_row rfl 36 _ _ rfl (w.heap.size + 1) #[.int .u32 0, .int .u32 0, .int .u32 0, .slice none 0 0] rfl rfl _ _ hn4 info_ver rfl (ver_one _ _ _ _ _ _) ?_)
    refine bodyPost_ret (results_cell_tmp rfl _ _ (w.heap.size + 1) _ #[.int .u32 0, .int .u32 0, .int .u32 0, .slice none 0 0] _ _ rfl (setRow_heap _ _ _ _ _ _ hn4) Tryz.underlying36 rfl info_ver) rfl ?_
    exact ⟨by rw [HE1.out, HE2.out]; rfl, below_setRow HB4.out (by omega) _⟩
  · obtain ⟨e1, e2⟩ := nx_some hm hx
    have HE1 := Lib.hid e1
    have HE2 := Lib.hid e2
    have dq : ((v.c : Int) == 2147483647) = false := by unfold mx at hq; rw [beq_eq_false_iff_ne]; omega
    have hu : (v.c : Int) + 1 ≤ 4294967295 := by unfold mx at hmc; omega
    have hn5 := (heap_alloc_old w3 (.cells #[.int .u32 v.a, .int .u32 v.b, .int .u32 ((v.c : Int) + 1)] 97) (r := w.heap.size + 1) hl3).trans hn3
    have HB5 := Lib.hid (HB3.out.alloc HB3.out.size (.cells #[.int .u32 v.a, .int .u32 v.b, .int .u32 ((v.c : Int) + 1)] 97))
    have hA5 := heap_alloc_new w3 (.cells #[.int .u32 v.a, .int .u32 v.b, .int .u32 ((v.c : Int) + 1)] 97)
    have hcl := clear_none (w3.alloc (.cells #[.int .u32 v.a, .int .u32 v.b, .int .u32 ((v.c : Int) + 1)] 97)) w3.heap.size
    have HVR := Lib.hid (pversion_any (v.a) (v.b) ((v.c : Int) + 1))
    clear e1 e2 hx hma hmb hmc hq hn3 HB3
    go_wp2_with (first
      | (refine wpList_load_row rfl 97 _ rfl w3.heap.size rfl _ _ _ _ hA5 Tryz.underlying97 rfl info_arr ?_)
      | (go_at_call 80; refine (HVR.out _).mono ?_; rintro e w6 ⟨rfl, hg6⟩; refine Hid.out ?_))
    refine Lib.hid ?_
    have hn6 := (hg6.below.block (w.heap.size + 1) (Array.getElem?_eq_some_iff.1 hn5).1).trans hn5
    have HB6 := Lib.hid (HB5.out.trans (hg6.below.mono HB5.out.size))
    clear hg6 hn5 HB5 hA5 hcl
    go_wp2_with (refine wpList_store_row rfl 36 _ _ rfl (w.heap.size + 1) #[.int .u32 (v.a), .int .u32 (v.b), .int .u32 ((v.c : Int) + 1), .slice none 0 0] rfl rfl _ _ hn6 info_ver rfl (ver_one _ _ _ _ _ _) ?_)
    refine bodyPost_ret (results_cell_tmp rfl _ _ (w.heap.size + 1) _ #[.int .u32 (v.a), .int .u32 (v.b), .int .u32 ((v.c : Int) + 1), .slice none 0 0] _ _ rfl (setRow_heap _ _ _ _ _ _ hn6) Tryz.underlying36 rfl info_ver) rfl ?_
    exact ⟨by rw [HE1.out, HE2.out]; rfl, below_setRow HB6.out (by omega) _⟩
end VerC
end Go.Proofs.YtapikdgncdcneaaGreatDoor
