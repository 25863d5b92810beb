/-
  Package version's Least, Next and Cmp: one contract a function.
-/
import Derived.Test.YtapikdgncdcneaaGreatDoorVerP3
namespace Go.Proofs.YtapikdgncdcneaaGreatDoor
open Go.RowKit
namespace VerC
open VerM StrC TextR
set_option linter.unusedSimpArgs false

/-- how Cmp ends -/
def cmpE (v u : Ver) : Ending := if may v && may u then .returned (.tuple #[.int .i64 (cmpV v u), .int .i64 0]) else .returned (.tuple #[.int .i64 0, .int .i64 70])
set_option maxHeartbeats 4000000 in
set_option maxRecDepth 100000 in
theorem pCmpG_any (v u : Ver) (a1 : Option Addr) (c1 : Nat) (a2 : Option Addr) (c2 : Nat) (w : World) (hT1 : Txs w a1 c1 v.pre) (hT2 : Txs w a2 c2 u.pre) :
    Calls Tryz.prog 83 #[verV v.a v.b v.c a1 v.pre.length c1, verV u.a u.b u.c a2 u.pre.length c2] w fun e w' => e = cmpE v u ∧ Gr w w' := by
  have hr1 := (heap_alloc_old (w.alloc (verO v.a v.b v.c a1 v.pre.length c1)) (verO u.a u.b u.c a2 u.pre.length c2) (r := w.heap.size) (by simp)).trans (heap_alloc_new w (verO v.a v.b v.c a1 v.pre.length c1))
  have hr2 := heap_alloc_new (w.alloc (verO v.a v.b v.c a1 v.pre.length c1)) (verO u.a u.b u.c a2 u.pre.length c2)
  have hs1 : (w.alloc (verO v.a v.b v.c a1 v.pre.length c1)).heap.size = w.heap.size + 1 := by simp
  rw [hs1] at hr2
  have HW : Hid (Gr w ((w.alloc (verO v.a v.b v.c a1 v.pre.length c1)).alloc (verO u.a u.b u.c a2 u.pre.length c2))) := Lib.hid (((Gr.refl w).alloc _).alloc _)
  have HT1 := Lib.hid ((hT1.alloc (verO v.a v.b v.c a1 v.pre.length c1)).alloc (verO u.a u.b u.c a2 u.pre.length c2))
  have HT2 := Lib.hid ((hT2.alloc (verO v.a v.b v.c a1 v.pre.length c1)).alloc (verO u.a u.b u.c a2 u.pre.length c2))
  have HM1 := Lib.hid (fun w' (h : Txs w' a1 c1 v.pre) => pmay_any v a1 c1 w' h)
  have HM2 := Lib.hid (fun w' (h : Txs w' a2 c2 u.pre) => pmay_any u a2 c2 w' h)
  have he1 : mayE v = if may v then 0 else 70 := rfl
  have he2 : mayE u = if may u then 0 else 70 := rfl
  have HCC := Lib.hid (fun w' h1 h2 m1 m2 => pcompare_any v u a1 c1 a2 c2 w' h1 h2 m1 m2)
  have HE : Hid (cmpE v u = if may v && may u then .returned (.tuple #[.int .i64 (cmpV v u), .int .i64 0]) else .returned (.tuple #[.int .i64 0, .int .i64 70])) := Lib.hid rfl
  clear hT1 hT2 hs1
  rcases Bool.eq_false_or_eq_true (may v) with m1 | m1 <;> rcases Bool.eq_false_or_eq_true (may u) with m2 | m2
  all_goals rw [m1] at he1 HE
  all_goals rw [m2] at he2 HE
  all_goals simp only [if_true, if_false, Bool.false_eq_true, Bool.and_self, Bool.and_true, Bool.true_and, Bool.and_false, Bool.false_and] at he1 he2 HE
  all_goals rw [he1] at HM1
  all_goals rw [he2] at HM2
  all_goals obtain ⟨na, nb, nc, p⟩ := v
  all_goals obtain ⟨ma, mb, mc, q⟩ := u
  all_goals dsimp only at *
  all_goals go_enter Tryz.func83, Tryz.ntmps83
  all_goals go_wp2_with fail
  all_goals (generalize (w.alloc (verO na nb nc a1 p.length c1)).alloc (verO ma mb mc a2 q.length c2) = W at *)
  all_goals refine (HM1.out W HT1.out).mono ?_
  all_goals rintro e w3 ⟨rfl, hg3⟩
  all_goals refine Hid.out ?_
  all_goals refine Lib.hid ?_
  all_goals have hl2 : w.heap.size + 1 < W.heap.size := (Array.getElem?_eq_some_iff.1 hr2).1
  all_goals have hr13 := (hg3.below.block w.heap.size (by omega)).trans hr1
  all_goals have hr23 := (hg3.below.block (w.heap.size + 1) hl2).trans hr2
  all_goals have HT13 := Lib.hid (HT1.out.gr hg3.below)
  all_goals have HT23 := Lib.hid (HT2.out.gr hg3.below)
  all_goals have HB3 := Lib.hid (HW.out.trans hg3)
  all_goals have hl3 : w.heap.size + 1 < w3.heap.size := (Array.getElem?_eq_some_iff.1 hr23).1
  all_goals clear hg3 hr1 hr2 HT1 HT2 HW HM1 hl2
  all_goals obtain ⟨q0, q1, q2, q3⟩ := ver_cells hr23
  · go_wp2_with (first
      | (refine wpList_load_row rfl 36 _ rfl (w.heap.size + 1) rfl _ _ _ _ hr23 Tryz.underlying36 rfl info_ver ?_)
      | (go_at_call 32; refine (HM2.out w3 HT23.out).mono ?_; rintro e w4 ⟨rfl, hg4⟩; refine Hid.out ?_))
    refine Lib.hid ?_
    have hr14 := (hg4.below.block w.heap.size (by omega)).trans hr13
    have hr24 := (hg4.below.block (w.heap.size + 1) hl3).trans hr23
    have HT14 := Lib.hid (HT13.out.gr hg4.below)
    have HT24 := Lib.hid (HT23.out.gr hg4.below)
    have HB4 := Lib.hid (HB3.out.trans hg4)
    clear hg4 hr13 hr23 HT13 HT23 HM2 q0 q1 q2 q3
    go_wp2_with (first
      | (refine wpList_load_row rfl 36 _ rfl (w.heap.size) rfl _ _ _ _ hr14 Tryz.underlying36 rfl info_ver ?_)
      | (refine wpList_load_row rfl 36 _ rfl (w.heap.size + 1) rfl _ _ _ _ hr24 Tryz.underlying36 rfl info_ver ?_)
      | (go_at_call 73; refine (HCC.out w4 HT14.out HT24.out m1 m2).mono ?_; rintro e w5 ⟨rfl, hg5⟩))
    go_ret2
    exact ⟨by rw [HE.out]; rfl, HB4.out.trans hg5⟩
  · go_wp2_with (first
      | (refine wpList_load_row rfl 36 _ rfl (w.heap.size + 1) rfl _ _ _ _ hr23 Tryz.underlying36 rfl info_ver ?_)
      | (go_at_call 32; refine (HM2.out w3 HT23.out).mono ?_; rintro e w4 ⟨rfl, hg4⟩; have HB4 := Lib.hid (HB3.out.trans hg4); clear hg4))
    go_ret2
    exact ⟨by rw [HE.out]; rfl, HB4.out⟩
  · go_wp2_with fail
    go_ret2
    exact ⟨by rw [HE.out]; rfl, HB3.out⟩
  · go_wp2_with fail
    go_ret2
    exact ⟨by rw [HE.out]; rfl, HB3.out⟩
theorem pCmp_any (v u : Ver) (a1 : Option Addr) (c1 : Nat) (a2 : Option Addr) (c2 : Nat) (w : World) (hT1 : Txs w a1 c1 v.pre) (hT2 : Txs w a2 c2 u.pre) :
    Calls Tryz.prog 83 #[verV v.a v.b v.c a1 v.pre.length c1, verV u.a u.b u.c a2 u.pre.length c2] w fun e w' => e = cmpE v u ∧ Below w.heap.size w w' := (pCmpG_any v u a1 c1 a2 c2 w hT1 hT2).mono fun _ _ h => ⟨h.1, h.2.below⟩
/-- the least text of a version's -/
structure LeastI (w w' : World) (g : Nat) : Prop where
  ge : w.heap.size ≤ g
  cell : w'.cell? ⟨g, 0, none⟩ = some (.string (str nought))
  free : ∀ i, w'.frozen? ⟨g, i, none⟩ = false
  kind : IsText w' g
theorem LeastI.txs {w w' : World} {g : Nat} (h : LeastI w w' g) : Txs w' (some ⟨g, 0, none⟩) 1 [nought] :=
  ⟨Nat.le_refl _, fun s hs => by rw [List.mem_singleton] at hs; rw [hs]; decide, by decide, fun _ => ⟨g, 0, rfl, fun i hi => by
    have : i = 0 := by simp at hi; omega
    subst this; exact h.cell⟩⟩
def LeastE (v : Ver) (w : World) (e : Ending) (w' : World) : Prop := Below w.heap.size w w' ∧ (may v = false → e = .returned (.tuple #[verV 0 0 0 none 0 0, .int .i64 70])) ∧
  (may v = true → ∃ g, e = .returned (.tuple #[verV v.a v.b v.c (some ⟨g, 0, none⟩) 1 1, .int .i64 0]) ∧ LeastI w w' g)
set_option maxHeartbeats 4000000 in
set_option maxRecDepth 100000 in
theorem pLeast_any (v : Ver) (a : Option Addr) (cap : Nat) (w : World) (hT : Txs w a cap v.pre) :
    Calls Tryz.prog 69 #[verV v.a v.b v.c a v.pre.length cap] w (LeastE v w) := by
  have hT1 := hT.gr ((Below.refl _ w).alloc (Nat.le_refl _) (verO v.a v.b v.c a v.pre.length cap))
  have HM := Lib.hid (fun w' (h : Txs w' a cap v.pre) => pmay_any v a cap w' h)
  have hs1 : (w.alloc (verO v.a v.b v.c a v.pre.length cap)).heap.size = w.heap.size + 1 := by simp
  have hnew := heap_alloc_new w (verO v.a v.b v.c a v.pre.length cap)
  have HT := Lib.hid hT1
  have HB0 := Lib.hid ((Below.refl _ w).alloc (Nat.le_refl _) (verO v.a v.b v.c a v.pre.length cap))
  rcases Bool.eq_false_or_eq_true (may v) with hm | hm
  rotate_left
  · have he := mayE_no hm
    have HE : Hid (∀ (e : Ending) (w' : World), Below w.heap.size w w' → e = .returned (.tuple #[verV 0 0 0 none 0 0, .int .i64 70]) → LeastE v w e w') := Lib.hid (fun e w' h1 h2 => ⟨h1, fun _ => h2, fun h => by rw [hm] at h; cases h⟩)
    rw [he] at HM
    obtain ⟨na, nb, nc, p⟩ := v
    dsimp only at *
    go_enter Tryz.func69, Tryz.ntmps69
    go_wp2_with fail
    have hr1 := (heap_alloc_old (w.alloc (verO na nb nc a p.length cap)) (verO 0 0 0 none 0 0) (r := w.heap.size) (by simp)).trans hnew
    have hn1 := heap_alloc_new (w.alloc (verO na nb nc a p.length cap)) (verO 0 0 0 none 0 0)
    rw [hs1] at hn1
    have HB1 := Lib.hid (HB0.out.alloc HB0.out.size (verO 0 0 0 none 0 0))
    have HT1 := Lib.hid (HT.out.alloc (verO 0 0 0 none 0 0))
    have hs2 : ((w.alloc (verO na nb nc a p.length cap)).alloc (verO 0 0 0 none 0 0)).heap.size = w.heap.size + 2 := by simp
    generalize (w.alloc (verO na nb nc a p.length cap)).alloc (verO 0 0 0 none 0 0) = W at *
    refine (HM.out W HT1.out).mono ?_
    rintro e w2 ⟨rfl, hg2⟩
    refine Hid.out ?_
    refine Lib.hid ?_
    have hn2 := (hg2.below.block (w.heap.size + 1) (by omega)).trans hn1
    have HB2 := Lib.hid (HB1.out.trans (hg2.below.mono HB1.out.size))
    clear hg2 HM hnew HT HT1 HB0 HB1 hs1 hs2 hr1 hn1 hT hT1
    go_wp2_with (refine wpList_store_row rfl 36 _ _ rfl (w.heap.size + 1) #[.int .u32 0, .int .u32 0, .int .u32 0, .slice none 0 0] rfl rfl _ _ hn2 info_ver rfl (ver_one _ _ _ _ _ _) ?_)
    refine bodyPost_ret (results_cell_tmp rfl _ _ (w.heap.size + 1) _ #[.int .u32 0, .int .u32 0, .int .u32 0, .slice none 0 0] _ _ rfl (setRow_heap _ _ _ _ _ _ hn2) Tryz.underlying36 rfl info_ver) rfl ?_
    exact HE.out _ _ (below_setRow HB2.out (by omega) _) rfl
  · have he := mayE_yes hm
    have HE : Hid (∀ (e : Ending) (w' : World), Below w.heap.size w w' → (∃ g, e = .returned (.tuple #[verV v.a v.b v.c (some ⟨g, 0, none⟩) 1 1, .int .i64 0]) ∧ LeastI w w' g) → LeastE v w e w') := Lib.hid (fun e w' h1 h2 => ⟨h1, fun h => (by rw [hm] at h; cases h), fun _ => h2⟩)
    rw [he] at HM
    have HN := Lib.hid (pnumbers_any v.a v.b v.c a v.pre.length cap)
    have HV := Lib.hid (pversion_any v.a v.b v.c)
    obtain ⟨na, nb, nc, p⟩ := v
    dsimp only at *
    go_enter Tryz.func69, Tryz.ntmps69
    go_wp2_with fail
    have hr1 := (heap_alloc_old (w.alloc (verO na nb nc a p.length cap)) (verO 0 0 0 none 0 0) (r := w.heap.size) (by simp)).trans hnew
    have hn1 := heap_alloc_new (w.alloc (verO na nb nc a p.length cap)) (verO 0 0 0 none 0 0)
    rw [hs1] at hn1
    have HB1 := Lib.hid (HB0.out.alloc HB0.out.size (verO 0 0 0 none 0 0))
    have HT1 := Lib.hid (HT.out.alloc (verO 0 0 0 none 0 0))
    have hs2 : ((w.alloc (verO na nb nc a p.length cap)).alloc (verO 0 0 0 none 0 0)).heap.size = w.heap.size + 2 := by simp
    generalize (w.alloc (verO na nb nc a p.length cap)).alloc (verO 0 0 0 none 0 0) = W at *
    refine (HM.out W HT1.out).mono ?_
    rintro e w2 ⟨rfl, hg2⟩
    refine Hid.out ?_
    refine Lib.hid ?_
    have hr2 := (hg2.below.block w.heap.size (by omega)).trans hr1
    have hn2 := (hg2.below.block (w.heap.size + 1) (by omega)).trans hn1
    have HB2 := Lib.hid (HB1.out.trans (hg2.below.mono HB1.out.size))
    clear hg2 HM hnew HT HT1 HB0 HB1 hs1 hs2 hr1 hn1 hT hT1
    go_wp2_with (first
      | (refine wpList_load_row rfl 36 _ rfl w.heap.size rfl _ _ _ _ hr2 Tryz.underlying36 rfl info_ver ?_)
      | (go_at_call 60; refine (HN.out _).mono ?_; rintro e w3 ⟨rfl, hg3⟩; have hn3 := (hg3.below.block (w.heap.size + 1) (Array.getElem?_eq_some_iff.1 hn2).1).trans hn2; have HB3 := Lib.hid (HB2.out.trans (hg3.below.mono HB2.out.size)); clear hg3 hn2 HB2)
      | (go_at_call 80; refine (HV.out _).mono ?_; rintro e w4 ⟨rfl, hg4⟩; refine Hid.out ?_))
    refine Lib.hid ?_
    have hn4 := (hg4.below.block (w.heap.size + 1) (Array.getElem?_eq_some_iff.1 hn3).1).trans hn3
    have HB4 := Lib.hid (HB3.out.trans (hg4.below.mono HB3.out.size))
    have hl4 : w.heap.size + 1 < w4.heap.size := (Array.getElem?_eq_some_iff.1 hn4).1
    clear hg4 hn3 HB3
    have hn5 : ((w4.alloc (verO na nb nc (some ⟨w4.heap.size + 1, 0, none⟩) 1 1)).alloc (.cells #[.string ⟨#[48]⟩] 9)).heap[w.heap.size + 1]? = some (verO 0 0 0 none 0 0) :=
      (heap_alloc_old _ _ (r := w.heap.size + 1) (by simp; omega)).trans ((heap_alloc_old w4 _ (r := w.heap.size + 1) hl4).trans hn4)
    have hc5 : ((w4.alloc (verO na nb nc (some ⟨w4.heap.size + 1, 0, none⟩) 1 1)).alloc (.cells #[.string ⟨#[48]⟩] 9)).heap[w4.heap.size + 1]? = some (.cells #[.string (str nought)] 9) := by
      have h := heap_alloc_new (w4.alloc (verO na nb nc (some ⟨w4.heap.size + 1, 0, none⟩) 1 1)) (.cells #[.string ⟨#[48]⟩] 9)
      rw [show (w4.alloc (verO na nb nc (some ⟨w4.heap.size + 1, 0, none⟩) 1 1)).heap.size = w4.heap.size + 1 by simp] at h
      exact h
    have HB5 : Hid (Below w.heap.size w ((w4.alloc (verO na nb nc (some ⟨w4.heap.size + 1, 0, none⟩) 1 1)).alloc (.cells #[.string ⟨#[48]⟩] 9))) := Lib.hid ((HB4.out.alloc HB4.out.size _).alloc (by simp; have := HB4.out.size; omega) _)
    clear HB4 hn4
    go_wp2_with (refine wpList_store_row rfl 36 _ _ rfl (w.heap.size + 1) #[.int .u32 na, .int .u32 nb, .int .u32 nc, .slice (some ⟨w4.heap.size + 1, 0, none⟩) 1 1] rfl rfl _ _ hn5 info_ver rfl (ver_one _ _ _ _ _ _) ?_)
    refine bodyPost_ret (results_cell_tmp rfl _ _ (w.heap.size + 1) _ #[.int .u32 na, .int .u32 nb, .int .u32 nc, .slice (some ⟨w4.heap.size + 1, 0, none⟩) 1 1] _ _ rfl (setRow_heap _ _ _ _ _ _ hn5) Tryz.underlying36 rfl info_ver) rfl ?_
    refine HE.out _ _ (below_setRow HB5.out (by omega) _) ⟨w4.heap.size + 1, rfl, by omega, ?_, fun i => ?_, (IsText.of ⟨_, _, hc5⟩ (Go.setRow_other _ _ _ _ (by omega)))⟩
    · have := setRow_other ((w4.alloc (verO na nb nc (some ⟨w4.heap.size + 1, 0, none⟩) 1 1)).alloc (.cells #[.string ⟨#[48]⟩] 9)) (w.heap.size + 1) (w4.heap.size + 1) #[.int .u32 na, .int .u32 nb, .int .u32 nc, .slice (some ⟨w4.heap.size + 1, 0, none⟩) 1 1] (by omega)
      unfold World.cell?
      rw [this, hc5]
      rfl
    · have := setRow_other ((w4.alloc (verO na nb nc (some ⟨w4.heap.size + 1, 0, none⟩) 1 1)).alloc (.cells #[.string ⟨#[48]⟩] 9)) (w.heap.size + 1) (w4.heap.size + 1) #[.int .u32 na, .int .u32 nb, .int .u32 nc, .slice (some ⟨w4.heap.size + 1, 0, none⟩) 1 1] (by omega)
      unfold World.frozen?
      rw [this, hc5]
      simp
end VerC
end Go.Proofs.YtapikdgncdcneaaGreatDoor
