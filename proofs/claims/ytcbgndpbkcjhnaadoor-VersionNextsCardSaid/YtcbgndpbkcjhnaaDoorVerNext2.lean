/-
  The document's own answers for layer 7: Least and Next.
-/
import Derived.Test.YtcbgndpbkcjhnaaDoorVerNext
import Derived.StillTailTactics
namespace Go.Proofs.YtcbgndpbkcjhnaaDoor
open Go.RowKit
namespace VerC
open VerM StrC TextR
set_option linter.unusedSimpArgs false

set_option maxHeartbeats 4000000 in
set_option maxRecDepth 100000 in
theorem rLeast_any (v : Ver) (a : Option Addr) (cap : Nat) (w : World) :
    Calls Tryd.prog 27 #[verV v.a v.b v.c a v.pre.length cap] w fun e w' => Below w.heap.size w w' ∧ ∃ g, e = .returned (verV v.a v.b v.c (some ⟨g, 0, none⟩) 1 1) ∧ Txs w' (some ⟨g, 0, none⟩) 1 [nought] := by
  obtain ⟨na, nb, nc, p⟩ := v
  dsimp only at *
  generalize (na : Int) = xa at *
  generalize (nb : Int) = xb at *
  generalize (nc : Int) = xc at *
  go_enter Tryd.func27, Tryd.ntmps27
  go_wp2_with fail
  have hs1 : (w.alloc (verO xa xb xc (some ⟨w.heap.size + 2, 0, none⟩) 1 1)).heap.size = w.heap.size + 1 := by simp
  have hs2 : ((w.alloc (verO xa xb xc (some ⟨w.heap.size + 2, 0, none⟩) 1 1)).alloc (verO xa xb xc (some ⟨w.heap.size + 2, 0, none⟩) 1 1)).heap.size = w.heap.size + 2 := by simp
  have hr1 := heap_alloc_new (w.alloc (verO xa xb xc (some ⟨w.heap.size + 2, 0, none⟩) 1 1)) (verO xa xb xc (some ⟨w.heap.size + 2, 0, none⟩) 1 1)
  rw [hs1] at hr1
  have hr2 := (heap_alloc_old ((w.alloc (verO xa xb xc (some ⟨w.heap.size + 2, 0, none⟩) 1 1)).alloc (verO xa xb xc (some ⟨w.heap.size + 2, 0, none⟩) 1 1)) (.cells #[.string ⟨#[48]⟩] 9) (r := w.heap.size + 1) (by rw [hs2]; omega)).trans hr1
  have hc2 := heap_alloc_new ((w.alloc (verO xa xb xc (some ⟨w.heap.size + 2, 0, none⟩) 1 1)).alloc (verO xa xb xc (some ⟨w.heap.size + 2, 0, none⟩) 1 1)) (.cells #[.string ⟨#[48]⟩] 9)
  rw [hs2] at hc2
  have HB := Lib.hid ((((Below.refl _ w).alloc (Nat.le_refl _) (verO xa xb xc (some ⟨w.heap.size + 2, 0, none⟩) 1 1)).alloc (by simp) (verO xa xb xc (some ⟨w.heap.size + 2, 0, none⟩) 1 1)).alloc (by simp; omega) (.cells #[.string ⟨#[48]⟩] 9))
  refine bodyPost_ret (results_cell1 rfl _ _ (w.heap.size + 1) _ _ _ _ rfl hr2 Tryd.underlying25 rfl info_ver) rfl ?_
  refine ⟨HB.out, w.heap.size + 2, rfl, Nat.le_refl _, fun s hs => ?_, by simp, fun _ => ⟨w.heap.size + 2, 0, rfl, fun i hi => ?_⟩⟩
  · rw [List.mem_singleton] at hs; rw [hs]; decide
  · have : i = 0 := by simp at hi; omega
    subst this
    unfold World.cell?
    rw [show (⟨w.heap.size + 2, 0 + 0, none⟩ : Addr).block = w.heap.size + 2 from rfl, hc2]
    rfl
set_option maxHeartbeats 8000000 in
set_option maxRecDepth 100000 in
theorem rNext_any (v : Ver) (k : Int) (a : Option Addr) (cap : Nat) (w : World) (hT : Txs w a cap v.pre) :
    Calls Tryd.prog 24 #[verV v.a v.b v.c a v.pre.length cap, .int .i64 k] w fun e w' => e = .returned (.tuple #[verV (nxV v k).a (nxV v k).b (nxV v k).c none 0 0, .int .i64 (nxC v k)]) ∧ Below w.heap.size w w' := by
  have hT1 := hT.gr ((Below.refl _ w).alloc (Nat.le_refl _) (verO v.a v.b v.c a v.pre.length cap))
  have HM := Lib.hid (fun w' (h : Txs w' a cap v.pre) => rmay_any v a cap w' h)
  have hs1 : (w.alloc (verO v.a v.b v.c a v.pre.length cap)).heap.size = w.heap.size + 1 := by simp
  have hnew := heap_alloc_new w (verO v.a v.b v.c a v.pre.length cap)
  have hr1 := (heap_alloc_old (w.alloc (verO v.a v.b v.c a v.pre.length cap)) (verO 0 0 0 none 0 0) (r := w.heap.size) (by rw [hs1]; omega)).trans hnew
  have hn1 := heap_alloc_new (w.alloc (verO v.a v.b v.c a v.pre.length cap)) (verO 0 0 0 none 0 0)
  rw [hs1] at hn1
  have HB1 : Hid (Below w.heap.size w ((w.alloc (verO v.a v.b v.c a v.pre.length cap)).alloc (verO 0 0 0 none 0 0))) := Lib.hid (((Below.refl _ w).alloc (Nat.le_refl _) _).alloc (by rw [hs1]; omega) _)
  have HT1 := Lib.hid (hT1.alloc (verO 0 0 0 none 0 0))
  have hs2 : ((w.alloc (verO v.a v.b v.c a v.pre.length cap)).alloc (verO 0 0 0 none 0 0)).heap.size = w.heap.size + 2 := by simp
  clear hT hT1 hs1 hnew
  rcases Bool.eq_false_or_eq_true (may v) with hm | hm
  rotate_left
  · obtain ⟨e1, e2⟩ := nx_no k hm
    have HE1 := Lib.hid e1
    have HE2 := Lib.hid e2
    rw [hm] at HM
    clear e1 e2
    go_enter Tryd.func24, Tryd.ntmps24
    go_wp2_with fail
    generalize (w.alloc (verO v.a v.b v.c a v.pre.length cap)).alloc (verO 0 0 0 none 0 0) = W at *
    refine (HM.out W HT1.out).mono ?_
    rintro e w2 ⟨rfl, hg2⟩
    refine Hid.out ?_
    refine Lib.hid ?_
    have hn2 := (hg2.below.block (w.heap.size + 1) (by omega)).trans hn1
    have HB2 := Lib.hid (HB1.out.trans (hg2.below.mono HB1.out.size))
    clear hg2 HM HT1 HB1 hs2 hr1 hn1
    go_wp2_with (refine wpList_store_row rfl 25 _ _ rfl (w.heap.size + 1) #[.int .u32 0, .int .u32 0, .int .u32 0, .slice none 0 0] rfl rfl _ _ hn2 info_ver rfl (ver_one _ _ _ _ _ _) ?_)
    refine bodyPost_ret (results_cell_tmp rfl _ _ (w.heap.size + 1) _ #[.int .u32 0, .int .u32 0, .int .u32 0, .slice none 0 0] _ _ rfl (setRow_heap _ _ _ _ _ _ hn2) Tryd.underlying25 rfl info_ver) rfl ?_
    exact ⟨by rw [HE1.out, HE2.out]; rfl, below_setRow HB2.out (by omega) _⟩
  obtain ⟨hma, hmb, hmc, -, -⟩ := may_parts hm
  rw [hm] at HM
  have hw := next_ways v k
  go_enter Tryd.func24, Tryd.ntmps24
  go_wp2_with fail
  generalize (w.alloc (verO v.a v.b v.c a v.pre.length cap)).alloc (verO 0 0 0 none 0 0) = W at *
  refine (HM.out W HT1.out).mono ?_
  rintro e w2 ⟨rfl, hg2⟩
  refine Hid.out ?_
  refine Lib.hid ?_
  have hr2 := (hg2.below.block w.heap.size (by omega)).trans hr1
  have hn2 := (hg2.below.block (w.heap.size + 1) (by omega)).trans hn1
  have HB2 := Lib.hid (HB1.out.trans (hg2.below.mono HB1.out.size))
  clear hg2 HM HT1 HB1 hs2 hr1 hn1
  obtain ⟨q0, q1, q2, q3⟩ := ver_cells hr2
  have hl2 : w.heap.size + 1 < w2.heap.size := (Array.getElem?_eq_some_iff.1 hn2).1
  have hn4 := (heap_alloc_old w2 (.cells #[.int .u32 v.a, .int .u32 v.b, .int .u32 v.c] 22) (r := w.heap.size + 1) hl2).trans hn2
  have hA4 := heap_alloc_new w2 (.cells #[.int .u32 v.a, .int .u32 v.b, .int .u32 v.c] 22)
  have HB4 := Lib.hid (HB2.out.alloc HB2.out.size (.cells #[.int .u32 v.a, .int .u32 v.b, .int .u32 v.c] 22))
  have HN2 := Lib.hid hn2
  clear hn2 hr2 q3
  rcases hw with ⟨hk, hx⟩ | ⟨rfl, hq, hx⟩ | ⟨rfl, hq, hx⟩ | ⟨rfl, hq, hx⟩ | ⟨rfl, hq, hx⟩ | ⟨rfl, hq, hx⟩ | ⟨rfl, hq, hx⟩
  · rcases hk with hk | hk
    · have d1 : decide (k < 0) = true := decide_eq_true hk
      obtain ⟨e1, e2⟩ := nx_none hm hx
      have HE1 := Lib.hid e1
      have HE2 := Lib.hid e2
      clear e1 e2 hx hma hmb hmc
      go_wp2_with (refine wpList_store_row rfl 25 _ _ rfl (w.heap.size + 1) #[.int .u32 0, .int .u32 0, .int .u32 0, .slice none 0 0] rfl rfl _ _ hn4 info_ver rfl (ver_one _ _ _ _ _ _) ?_)
      refine bodyPost_ret (results_cell_tmp rfl _ _ (w.heap.size + 1) _ #[.int .u32 0, .int .u32 0, .int .u32 0, .slice none 0 0] _ _ rfl (setRow_heap _ _ _ _ _ _ hn4) Tryd.underlying25 rfl info_ver) rfl ?_
      exact ⟨by rw [HE1.out, HE2.out]; rfl, below_setRow HB4.out (by omega) _⟩
    · have d1 : decide (k < 0) = false := decide_eq_false (by omega)
      have d2 : decide (2 < k) = true := decide_eq_true (by omega)
      obtain ⟨e1, e2⟩ := nx_none hm hx
      have HE1 := Lib.hid e1
      have HE2 := Lib.hid e2
      clear e1 e2 hx hma hmb hmc
      go_wp2_with (refine wpList_store_row rfl 25 _ _ rfl (w.heap.size + 1) #[.int .u32 0, .int .u32 0, .int .u32 0, .slice none 0 0] rfl rfl _ _ hn4 info_ver rfl (ver_one _ _ _ _ _ _) ?_)
      refine bodyPost_ret (results_cell_tmp rfl _ _ (w.heap.size + 1) _ #[.int .u32 0, .int .u32 0, .int .u32 0, .slice none 0 0] _ _ rfl (setRow_heap _ _ _ _ _ _ hn4) Tryd.underlying25 rfl info_ver) rfl ?_
      exact ⟨by rw [HE1.out, HE2.out]; rfl, below_setRow HB4.out (by omega) _⟩
  · have dq : ((v.a : Int) == 2147483647) = true := by rw [hq]; rfl
    clear hq
    obtain ⟨e1, e2⟩ := nx_none hm hx
    have HE1 := Lib.hid e1
    have HE2 := Lib.hid e2
    clear e1 e2 hx hma hmb hmc
    go_wp2_with (refine wpList_store_row rfl 25 _ _ rfl (w.heap.size + 1) #[.int .u32 0, .int .u32 0, .int .u32 0, .slice none 0 0] rfl rfl _ _ hn4 info_ver rfl (ver_one _ _ _ _ _ _) ?_)
    refine bodyPost_ret (results_cell_tmp rfl _ _ (w.heap.size + 1) _ #[.int .u32 0, .int .u32 0, .int .u32 0, .slice none 0 0] _ _ rfl (setRow_heap _ _ _ _ _ _ hn4) Tryd.underlying25 rfl info_ver) rfl ?_
    exact ⟨by rw [HE1.out, HE2.out]; rfl, below_setRow HB4.out (by omega) _⟩
  · obtain ⟨e1, e2⟩ := nx_some hm hx
    have HE1 := Lib.hid e1
    have HE2 := Lib.hid e2
    have dq : ((v.a : Int) == 2147483647) = false := by unfold mx at hq; rw [beq_eq_false_iff_ne]; omega
    have hu : (v.a : Int) + 1 ≤ 4294967295 := by unfold mx at hma; omega
    clear e1 e2 hx hma hmb hmc hq
    go_wp2_with fail
    go_loopw [7] (fun iv wr => (iv = .int .i64 1 ∧ wr = w2.alloc (.cells #[.int .u32 ((v.a : Int) + 1), .int .u32 v.b, .int .u32 v.c] 22)) ∨ (iv = .int .i64 2 ∧ wr = w2.alloc (.cells #[.int .u32 ((v.a : Int) + 1), .int .u32 0, .int .u32 v.c] 22)) ∨ (iv = .int .i64 3 ∧ wr = w2.alloc (.cells #[.int .u32 ((v.a : Int) + 1), .int .u32 0, .int .u32 0] 22))) (fun iv _ => 3 - (intOf iv).toNat)
    case atStart => exact .inl ⟨rfl, rfl⟩
    case round =>
      rcases hrel with ⟨rfl, rfl⟩ | ⟨rfl, rfl⟩ | ⟨rfl, rfl⟩
      · go_wp2_with fail
        go_roundw
        case rel => exact .inr (.inl ⟨by go_num, trivial⟩)
        case measure => simp [intOf]
      · go_wp2_with fail
        go_roundw
        case rel => exact .inr (.inr (⟨by go_num, trivial⟩))
        case measure => simp [intOf]
      · have hn5 := (heap_alloc_old w2 (.cells #[.int .u32 ((v.a : Int) + 1), .int .u32 0, .int .u32 0] 22) (r := w.heap.size + 1) hl2).trans HN2.out
        have HB5 := Lib.hid (HB2.out.alloc HB2.out.size (.cells #[.int .u32 ((v.a : Int) + 1), .int .u32 0, .int .u32 0] 22))
        go_wp2_with fail
        have c0 : (w2.alloc (.cells #[.int .u32 ((v.a : Int) + 1), .int .u32 0, .int .u32 0] 22)).cell? ⟨w2.heap.size, 0, none⟩ = some (.int .u32 ((v.a : Int) + 1)) := by rw [World.cell?_alloc_at _ _ _ _ rfl]; rfl
        have c1 : (w2.alloc (.cells #[.int .u32 ((v.a : Int) + 1), .int .u32 0, .int .u32 0] 22)).cell? ⟨w2.heap.size, 1, none⟩ = some (.int .u32 0) := by rw [World.cell?_alloc_at _ _ _ _ rfl]; rfl
        have c2 : (w2.alloc (.cells #[.int .u32 ((v.a : Int) + 1), .int .u32 0, .int .u32 0] 22)).cell? ⟨w2.heap.size, 2, none⟩ = some (.int .u32 0) := by rw [World.cell?_alloc_at _ _ _ _ rfl]; rfl
        generalize w2.alloc (.cells #[.int .u32 ((v.a : Int) + 1), .int .u32 0, .int .u32 0] 22) = W5 at *
        obtain ⟨z0, z1, z2, z3⟩ := ver_cells hn5
        have f0 := ver_frozen hn5 0
        have f1 := ver_frozen hn5 1
        have f2 := ver_frozen hn5 2
        have f3 := ver_frozen hn5 3
        go_still_tail 10, (by kernel_rfl)
        change wpList _ _ _ _ _ W5.drew
        have HB6 := Lib.hid (below_drew HB5.out)
        have hn6 : W5.drew.heap[w.heap.size + 1]? = some (verO 0 0 0 none 0 0) := hn5
        generalize W5.drew = w6 at *
        clear z0 z1 z2 z3 f0 f1 f2 f3 c0 c1 c2 hn5 HB5
        go_wp2_with (refine wpList_store_row rfl 25 _ _ rfl (w.heap.size + 1) #[.int .u32 ((v.a : Int) + 1), .int .u32 0, .int .u32 0, .slice none 0 0] rfl rfl _ _ hn6 info_ver rfl (ver_one _ _ _ _ _ _) ?_)
        refine bodyPost_ret (results_cell_tmp rfl _ _ (w.heap.size + 1) _ #[.int .u32 ((v.a : Int) + 1), .int .u32 0, .int .u32 0, .slice none 0 0] _ _ rfl (setRow_heap _ _ _ _ _ _ hn6) Tryd.underlying25 rfl info_ver) rfl ?_
        exact ⟨by rw [HE1.out, HE2.out]; rfl, below_setRow HB6.out (by omega) _⟩
  · have dq : ((v.b : Int) == 2147483647) = true := by rw [hq]; rfl
    clear hq
    obtain ⟨e1, e2⟩ := nx_none hm hx
    have HE1 := Lib.hid e1
    have HE2 := Lib.hid e2
    clear e1 e2 hx hma hmb hmc
    go_wp2_with (refine wpList_store_row rfl 25 _ _ rfl (w.heap.size + 1) #[.int .u32 0, .int .u32 0, .int .u32 0, .slice none 0 0] rfl rfl _ _ hn4 info_ver rfl (ver_one _ _ _ _ _ _) ?_)
    refine bodyPost_ret (results_cell_tmp rfl _ _ (w.heap.size + 1) _ #[.int .u32 0, .int .u32 0, .int .u32 0, .slice none 0 0] _ _ rfl (setRow_heap _ _ _ _ _ _ hn4) Tryd.underlying25 rfl info_ver) rfl ?_
    exact ⟨by rw [HE1.out, HE2.out]; rfl, below_setRow HB4.out (by omega) _⟩
  · obtain ⟨e1, e2⟩ := nx_some hm hx
    have HE1 := Lib.hid e1
    have HE2 := Lib.hid e2
    have dq : ((v.b : Int) == 2147483647) = false := by unfold mx at hq; rw [beq_eq_false_iff_ne]; omega
    have hu : (v.b : Int) + 1 ≤ 4294967295 := by unfold mx at hmb; omega
    clear e1 e2 hx hma hmb hmc hq
    go_wp2_with fail
    go_loopw [7] (fun iv wr => (iv = .int .i64 2 ∧ wr = w2.alloc (.cells #[.int .u32 v.a, .int .u32 ((v.b : Int) + 1), .int .u32 v.c] 22)) ∨ (iv = .int .i64 3 ∧ wr = w2.alloc (.cells #[.int .u32 v.a, .int .u32 ((v.b : Int) + 1), .int .u32 0] 22))) (fun iv _ => 3 - (intOf iv).toNat)
    case atStart => exact .inl ⟨rfl, rfl⟩
    case round =>
      rcases hrel with ⟨rfl, rfl⟩ | ⟨rfl, rfl⟩
      · go_wp2_with fail
        go_roundw
        case rel => exact .inr (⟨by go_num, trivial⟩)
        case measure => simp [intOf]
      · have hn5 := (heap_alloc_old w2 (.cells #[.int .u32 v.a, .int .u32 ((v.b : Int) + 1), .int .u32 0] 22) (r := w.heap.size + 1) hl2).trans HN2.out
        have HB5 := Lib.hid (HB2.out.alloc HB2.out.size (.cells #[.int .u32 v.a, .int .u32 ((v.b : Int) + 1), .int .u32 0] 22))
        go_wp2_with fail
        have c0 : (w2.alloc (.cells #[.int .u32 v.a, .int .u32 ((v.b : Int) + 1), .int .u32 0] 22)).cell? ⟨w2.heap.size, 0, none⟩ = some (.int .u32 v.a) := by rw [World.cell?_alloc_at _ _ _ _ rfl]; rfl
        have c1 : (w2.alloc (.cells #[.int .u32 v.a, .int .u32 ((v.b : Int) + 1), .int .u32 0] 22)).cell? ⟨w2.heap.size, 1, none⟩ = some (.int .u32 ((v.b : Int) + 1)) := by rw [World.cell?_alloc_at _ _ _ _ rfl]; rfl
        have c2 : (w2.alloc (.cells #[.int .u32 v.a, .int .u32 ((v.b : Int) + 1), .int .u32 0] 22)).cell? ⟨w2.heap.size, 2, none⟩ = some (.int .u32 0) := by rw [World.cell?_alloc_at _ _ _ _ rfl]; rfl
        generalize w2.alloc (.cells #[.int .u32 v.a, .int .u32 ((v.b : Int) + 1), .int .u32 0] 22) = W5 at *
        obtain ⟨z0, z1, z2, z3⟩ := ver_cells hn5
        have f0 := ver_frozen hn5 0
        have f1 := ver_frozen hn5 1
        have f2 := ver_frozen hn5 2
        have f3 := ver_frozen hn5 3
        go_still_tail 10, (by kernel_rfl)
        change wpList _ _ _ _ _ W5.drew
        have HB6 := Lib.hid (below_drew HB5.out)
        have hn6 : W5.drew.heap[w.heap.size + 1]? = some (verO 0 0 0 none 0 0) := hn5
        generalize W5.drew = w6 at *
        clear z0 z1 z2 z3 f0 f1 f2 f3 c0 c1 c2 hn5 HB5
        go_wp2_with (refine wpList_store_row rfl 25 _ _ rfl (w.heap.size + 1) #[.int .u32 v.a, .int .u32 ((v.b : Int) + 1), .int .u32 0, .slice none 0 0] rfl rfl _ _ hn6 info_ver rfl (ver_one _ _ _ _ _ _) ?_)
        refine bodyPost_ret (results_cell_tmp rfl _ _ (w.heap.size + 1) _ #[.int .u32 v.a, .int .u32 ((v.b : Int) + 1), .int .u32 0, .slice none 0 0] _ _ rfl (setRow_heap _ _ _ _ _ _ hn6) Tryd.underlying25 rfl info_ver) rfl ?_
        exact ⟨by rw [HE1.out, HE2.out]; rfl, below_setRow HB6.out (by omega) _⟩
  · have dq : ((v.c : Int) == 2147483647) = true := by rw [hq]; rfl
    clear hq
    obtain ⟨e1, e2⟩ := nx_none hm hx
    have HE1 := Lib.hid e1
    have HE2 := Lib.hid e2
    clear e1 e2 hx hma hmb hmc
    go_wp2_with (refine wpList_store_row rfl 25 _ _ rfl (w.heap.size + 1) #[.int .u32 0, .int .u32 0, .int .u32 0, .slice none 0 0] rfl rfl _ _ hn4 info_ver rfl (ver_one _ _ _ _ _ _) ?_)
    refine bodyPost_ret (results_cell_tmp rfl _ _ (w.heap.size + 1) _ #[.int .u32 0, .int .u32 0, .int .u32 0, .slice none 0 0] _ _ rfl (setRow_heap _ _ _ _ _ _ hn4) Tryd.underlying25 rfl info_ver) rfl ?_
    exact ⟨by rw [HE1.out, HE2.out]; rfl, below_setRow HB4.out (by omega) _⟩
  · obtain ⟨e1, e2⟩ := nx_some hm hx
    have HE1 := Lib.hid e1
    have HE2 := Lib.hid e2
    have dq : ((v.c : Int) == 2147483647) = false := by unfold mx at hq; rw [beq_eq_false_iff_ne]; omega
    have hu : (v.c : Int) + 1 ≤ 4294967295 := by unfold mx at hmc; omega
    clear e1 e2 hx hma hmb hmc hq
    go_wp2_with fail
    go_loopw [7] (fun iv wr => (iv = .int .i64 3 ∧ wr = w2.alloc (.cells #[.int .u32 v.a, .int .u32 v.b, .int .u32 ((v.c : Int) + 1)] 22))) (fun iv _ => 3 - (intOf iv).toNat)
    case atStart => exact ⟨rfl, rfl⟩
    case round =>
      obtain ⟨rfl, rfl⟩ := hrel
      have hn5 := (heap_alloc_old w2 (.cells #[.int .u32 v.a, .int .u32 v.b, .int .u32 ((v.c : Int) + 1)] 22) (r := w.heap.size + 1) hl2).trans HN2.out
      have HB5 := Lib.hid (HB2.out.alloc HB2.out.size (.cells #[.int .u32 v.a, .int .u32 v.b, .int .u32 ((v.c : Int) + 1)] 22))
      go_wp2_with fail
      have c0 : (w2.alloc (.cells #[.int .u32 v.a, .int .u32 v.b, .int .u32 ((v.c : Int) + 1)] 22)).cell? ⟨w2.heap.size, 0, none⟩ = some (.int .u32 v.a) := by rw [World.cell?_alloc_at _ _ _ _ rfl]; rfl
      have c1 : (w2.alloc (.cells #[.int .u32 v.a, .int .u32 v.b, .int .u32 ((v.c : Int) + 1)] 22)).cell? ⟨w2.heap.size, 1, none⟩ = some (.int .u32 v.b) := by rw [World.cell?_alloc_at _ _ _ _ rfl]; rfl
      have c2 : (w2.alloc (.cells #[.int .u32 v.a, .int .u32 v.b, .int .u32 ((v.c : Int) + 1)] 22)).cell? ⟨w2.heap.size, 2, none⟩ = some (.int .u32 ((v.c : Int) + 1)) := by rw [World.cell?_alloc_at _ _ _ _ rfl]; rfl
      generalize w2.alloc (.cells #[.int .u32 v.a, .int .u32 v.b, .int .u32 ((v.c : Int) + 1)] 22) = W5 at *
      obtain ⟨z0, z1, z2, z3⟩ := ver_cells hn5
      have f0 := ver_frozen hn5 0
      have f1 := ver_frozen hn5 1
      have f2 := ver_frozen hn5 2
      have f3 := ver_frozen hn5 3
      go_still_tail 10, (by kernel_rfl)
      change wpList _ _ _ _ _ W5.drew
      have HB6 := Lib.hid (below_drew HB5.out)
      have hn6 : W5.drew.heap[w.heap.size + 1]? = some (verO 0 0 0 none 0 0) := hn5
      generalize W5.drew = w6 at *
      clear z0 z1 z2 z3 f0 f1 f2 f3 c0 c1 c2 hn5 HB5
      go_wp2_with (refine wpList_store_row rfl 25 _ _ rfl (w.heap.size + 1) #[.int .u32 v.a, .int .u32 v.b, .int .u32 ((v.c : Int) + 1), .slice none 0 0] rfl rfl _ _ hn6 info_ver rfl (ver_one _ _ _ _ _ _) ?_)
      refine bodyPost_ret (results_cell_tmp rfl _ _ (w.heap.size + 1) _ #[.int .u32 v.a, .int .u32 v.b, .int .u32 ((v.c : Int) + 1), .slice none 0 0] _ _ rfl (setRow_heap _ _ _ _ _ _ hn6) Tryd.underlying25 rfl info_ver) rfl ?_
      exact ⟨by rw [HE1.out, HE2.out]; rfl, below_setRow HB6.out (by omega) _⟩
end VerC
end Go.Proofs.YtcbgndpbkcjhnaaDoor
