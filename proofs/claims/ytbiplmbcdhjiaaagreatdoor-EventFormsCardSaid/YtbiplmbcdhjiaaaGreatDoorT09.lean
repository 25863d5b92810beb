/-
  What the proof of EventForms stands on, part 9.
-/
import Derived.Test.YtbiplmbcdhjiaaaGreatDoorT08
set_option linter.unusedSimpArgs false
set_option linter.unusedVariables false
set_option maxHeartbeats 16000000
namespace Go.Proofs.YtbiplmbcdhjiaaaGreatDoor
open Go.Lib (hid)
section
open Go.RowKit
namespace VerC
open VerM StrC TextR
def cmpE (v u : Ver) : Ending := if may v && may u then .returned (.tuple #[.int .i64 (cmpV v u), .int .i64 0]) else .returned (.tuple #[.int .i64 0, .int .i64 70])
set_option maxRecDepth 100000 in
theorem zgt (v u : Ver) (a1 : Option Addr) (c1 : Nat) (a2 : Option Addr) (c2 : Nat) (w : World) (hT1 : Txs w a1 c1 v.pre) (hT2 : Txs w a2 c2 u.pre) :
 Calls Tryz.prog 267 #[verV v.a v.b v.c a1 v.pre.length c1, verV u.a u.b u.c a2 u.pre.length c2] w fun e w' => e = cmpE v u ∧ Gr w w' := by
 have hr1 := (heap_alloc_old (w.alloc (verO v.a v.b v.c a1 v.pre.length c1)) (verO u.a u.b u.c a2 u.pre.length c2) (r := w.heap.size) (by simp)).trans (heap_alloc_new w (verO v.a v.b v.c a1 v.pre.length c1))
 have hr2 := heap_alloc_new (w.alloc (verO v.a v.b v.c a1 v.pre.length c1)) (verO u.a u.b u.c a2 u.pre.length c2)
 have hs1 : (w.alloc (verO v.a v.b v.c a1 v.pre.length c1)).heap.size = w.heap.size + 1 := by simp
 rw [hs1] at hr2
 have HW : Hid (Gr w ((w.alloc (verO v.a v.b v.c a1 v.pre.length c1)).alloc (verO u.a u.b u.c a2 u.pre.length c2))) := hid (((Gr.refl w).alloc _).alloc _)
 have HT1 := hid ((hT1.alloc (verO v.a v.b v.c a1 v.pre.length c1)).alloc (verO u.a u.b u.c a2 u.pre.length c2))
 have HT2 := hid ((hT2.alloc (verO v.a v.b v.c a1 v.pre.length c1)).alloc (verO u.a u.b u.c a2 u.pre.length c2))
 have HM1 := hid (fun w' (h : Txs w' a1 c1 v.pre) => pmay_any v a1 c1 w' h)
 have HM2 := hid (fun w' (h : Txs w' a2 c2 u.pre) => pmay_any u a2 c2 w' h)
 have he1 : mayE v = if may v then 0 else 70 := rfl
 have he2 : mayE u = if may u then 0 else 70 := rfl
 have HCC := hid (fun w' h1 h2 m1 m2 => zgq v u a1 c1 a2 c2 w' h1 h2 m1 m2)
 have HE : Hid (cmpE v u = if may v && may u then .returned (.tuple #[.int .i64 (cmpV v u), .int .i64 0]) else .returned (.tuple #[.int .i64 0, .int .i64 70])) := hid rfl
 clear hT1 hT2 hs1
 rcases Bool.eq_false_or_eq_true (may v) with m1 | m1 <;> rcases Bool.eq_false_or_eq_true (may u) with m2 | m2
 all_goals rw [m1] at he1 HE
 all_goals rw [m2] at he2 HE
 all_goals simp only [if_true, if_false, Bool.false_eq_true, Bool.and_self, Bool.and_true, Bool.true_and, Bool.and_false, Bool.false_and] at he1 he2 HE
 all_goals rw [he1] at HM1
 all_goals rw [he2] at HM2
 all_goals obtain ⟨na, nb, nc, p⟩ := v
 all_goals obtain ⟨ma, mb, mc, q⟩ := u
 all_goals dsimp only at *
 all_goals go_enter Tryz.func267, Tryz.ntmps267
 all_goals go_wp2_with fail
 all_goals (generalize (w.alloc (verO na nb nc a1 p.length c1)).alloc (verO ma mb mc a2 q.length c2) = W at *)
 all_goals refine (HM1.out W HT1.out).mono ?_
 all_goals rintro e w3 ⟨rfl, hg3⟩
 all_goals refine Hid.out ?_
 all_goals refine hid ?_
 all_goals have hl2 : w.heap.size + 1 < W.heap.size := (Array.getElem?_eq_some_iff.1 hr2).1
 all_goals have hr13 := (hg3.below.block w.heap.size (by omega)).trans hr1
 all_goals have hr23 := (hg3.below.block (w.heap.size + 1) hl2).trans hr2
 all_goals have HT13 := hid (HT1.out.gr hg3.below)
 all_goals have HT23 := hid (HT2.out.gr hg3.below)
 all_goals have HB3 := hid (HW.out.trans hg3)
 all_goals have hl3 : w.heap.size + 1 < w3.heap.size := (Array.getElem?_eq_some_iff.1 hr23).1
 all_goals clear hg3 hr1 hr2 HT1 HT2 HW HM1 hl2
 all_goals obtain ⟨q0, q1, q2, q3⟩ := zds hr23
 · go_wp2_with (first
    | (refine wpList_load_row rfl 121 _ rfl (w.heap.size + 1) rfl _ _ _ _ hr23 Tryz.underlying121 rfl zdq ?_)
    | (go_at_call 161; refine (HM2.out w3 HT23.out).mono ?_; rintro e w4 ⟨rfl, hg4⟩; refine Hid.out ?_))
   refine hid ?_
   have hr14 := (hg4.below.block w.heap.size (by omega)).trans hr13
   have hr24 := (hg4.below.block (w.heap.size + 1) hl3).trans hr23
   have HT14 := hid (HT13.out.gr hg4.below)
   have HT24 := hid (HT23.out.gr hg4.below)
   have HB4 := hid (HB3.out.trans hg4)
   clear hg4 hr13 hr23 HT13 HT23 HM2 q0 q1 q2 q3
   go_wp2_with (first
    | (refine wpList_load_row rfl 121 _ rfl (w.heap.size) rfl _ _ _ _ hr14 Tryz.underlying121 rfl zdq ?_)
    | (refine wpList_load_row rfl 121 _ rfl (w.heap.size + 1) rfl _ _ _ _ hr24 Tryz.underlying121 rfl zdq ?_)
    | (go_at_call 285; refine (HCC.out w4 HT14.out HT24.out m1 m2).mono ?_; rintro e w5 ⟨rfl, hg5⟩))
   go_ret2
   exact ⟨by rw [HE.out]; rfl, HB4.out.trans hg5⟩
 · go_wp2_with (first
    | (refine wpList_load_row rfl 121 _ rfl (w.heap.size + 1) rfl _ _ _ _ hr23 Tryz.underlying121 rfl zdq ?_)
    | (go_at_call 161; refine (HM2.out w3 HT23.out).mono ?_; rintro e w4 ⟨rfl, hg4⟩; have HB4 := hid (HB3.out.trans hg4); clear hg4))
   go_ret2
   exact ⟨by rw [HE.out]; rfl, HB4.out⟩
 · go_wp2_with fail
   go_ret2
   exact ⟨by rw [HE.out]; rfl, HB3.out⟩
 · go_wp2_with fail
   go_ret2
   exact ⟨by rw [HE.out]; rfl, HB3.out⟩
structure LeastI (w w' : World) (g : Nat) : Prop where
 ge : w.heap.size ≤ g
 cell : w'.cell? ⟨g, 0, none⟩ = some (.string (str nought))
 free : ∀ i, w'.frozen? ⟨g, i, none⟩ = false
 kind : IsText w' g
theorem LeastI.txs {w w' : World} {g : Nat} (h : LeastI w w' g) : Txs w' (some ⟨g, 0, none⟩) 1 [nought] :=
 ⟨Nat.le_refl _, fun s hs => by rw [List.mem_singleton] at hs; rw [hs]; decide, by decide, fun _ => ⟨g, 0, rfl, fun i hi => by
  have : i = 0 := by simp at hi; omega
  subst this; exact h.cell⟩⟩
def LeastE (v : Ver) (w : World) (e : Ending) (w' : World) : Prop := Below w.heap.size w w' ∧ (may v = false → e = .returned (.tuple #[verV 0 0 0 none 0 0, .int .i64 70])) ∧
 (may v = true → ∃ g, e = .returned (.tuple #[verV v.a v.b v.c (some ⟨g, 0, none⟩) 1 1, .int .i64 0]) ∧ LeastI w w' g)
set_option maxRecDepth 100000 in
theorem zgu (v : Ver) (a : Option Addr) (cap : Nat) (w : World) (hT : Txs w a cap v.pre) :
 Calls Tryz.prog 259 #[verV v.a v.b v.c a v.pre.length cap] w (LeastE v w) := by
 have hT1 := hT.gr ((Below.refl _ w).alloc (Nat.le_refl _) (verO v.a v.b v.c a v.pre.length cap))
 have HM := hid (fun w' (h : Txs w' a cap v.pre) => pmay_any v a cap w' h)
 have hs1 : (w.alloc (verO v.a v.b v.c a v.pre.length cap)).heap.size = w.heap.size + 1 := by simp
 have hnew := heap_alloc_new w (verO v.a v.b v.c a v.pre.length cap)
 have HT := hid hT1
 have HB0 := hid ((Below.refl _ w).alloc (Nat.le_refl _) (verO v.a v.b v.c a v.pre.length cap))
 rcases Bool.eq_false_or_eq_true (may v) with hm | hm
 rotate_left
 · have he := zfd hm
   have HE : Hid (∀ (e : Ending) (w' : World), Below w.heap.size w w' → e = .returned (.tuple #[verV 0 0 0 none 0 0, .int .i64 70]) → LeastE v w e w') := hid (fun e w' h1 h2 => ⟨h1, fun _ => h2, fun h => by rw [hm] at h; cases h⟩)
   rw [he] at HM
   obtain ⟨na, nb, nc, p⟩ := v
   dsimp only at *
   go_enter Tryz.func259, Tryz.ntmps259
   go_wp2_with fail
   have hr1 := (heap_alloc_old (w.alloc (verO na nb nc a p.length cap)) (verO 0 0 0 none 0 0) (r := w.heap.size) (by simp)).trans hnew
   have hn1 := heap_alloc_new (w.alloc (verO na nb nc a p.length cap)) (verO 0 0 0 none 0 0)
   rw [hs1] at hn1
   have HB1 := hid (HB0.out.alloc HB0.out.size (verO 0 0 0 none 0 0))
   have HT1 := hid (HT.out.alloc (verO 0 0 0 none 0 0))
   have hs2 : ((w.alloc (verO na nb nc a p.length cap)).alloc (verO 0 0 0 none 0 0)).heap.size = w.heap.size + 2 := by simp
   generalize (w.alloc (verO na nb nc a p.length cap)).alloc (verO 0 0 0 none 0 0) = W at *
   refine (HM.out W HT1.out).mono ?_
   rintro e w2 ⟨rfl, hg2⟩
   refine Hid.out ?_
   refine hid ?_
   have hn2 := (hg2.below.block (w.heap.size + 1) (by omega)).trans hn1
   have HB2 := hid (HB1.out.trans (hg2.below.mono HB1.out.size))
   clear hg2 HM hnew HT HT1 HB0 HB1 hs1 hs2 hr1 hn1 hT hT1
   go_wp2_with (refine wpList_store_row rfl 121 _ _ rfl (w.heap.size + 1) #[.int .u32 0, .int .u32 0, .int .u32 0, .slice none 0 0] rfl rfl _ _ hn2 zdq rfl (zdr _ _ _ _ _ _) ?_)
   refine bodyPost_ret (zdu rfl _ _ (w.heap.size + 1) _ #[.int .u32 0, .int .u32 0, .int .u32 0, .slice none 0 0] _ _ rfl (setRow_heap _ _ _ _ _ _ hn2) Tryz.underlying121 rfl zdq) rfl ?_
   exact HE.out _ _ (below_setRow HB2.out (by omega) _) rfl
 · have he := zfe hm
   have HE : Hid (∀ (e : Ending) (w' : World), Below w.heap.size w w' → (∃ g, e = .returned (.tuple #[verV v.a v.b v.c (some ⟨g, 0, none⟩) 1 1, .int .i64 0]) ∧ LeastI w w' g) → LeastE v w e w') := hid (fun e w' h1 h2 => ⟨h1, fun h => (by rw [hm] at h; cases h), fun _ => h2⟩)
   rw [he] at HM
   have HN := hid (zfa v.a v.b v.c a v.pre.length cap)
   have HV := hid (zfb v.a v.b v.c)
   obtain ⟨na, nb, nc, p⟩ := v
   dsimp only at *
   go_enter Tryz.func259, Tryz.ntmps259
   go_wp2_with fail
   have hr1 := (heap_alloc_old (w.alloc (verO na nb nc a p.length cap)) (verO 0 0 0 none 0 0) (r := w.heap.size) (by simp)).trans hnew
   have hn1 := heap_alloc_new (w.alloc (verO na nb nc a p.length cap)) (verO 0 0 0 none 0 0)
   rw [hs1] at hn1
   have HB1 := hid (HB0.out.alloc HB0.out.size (verO 0 0 0 none 0 0))
   have HT1 := hid (HT.out.alloc (verO 0 0 0 none 0 0))
   have hs2 : ((w.alloc (verO na nb nc a p.length cap)).alloc (verO 0 0 0 none 0 0)).heap.size = w.heap.size + 2 := by simp
   generalize (w.alloc (verO na nb nc a p.length cap)).alloc (verO 0 0 0 none 0 0) = W at *
   refine (HM.out W HT1.out).mono ?_
   rintro e w2 ⟨rfl, hg2⟩
   refine Hid.out ?_
   refine hid ?_
   have hr2 := (hg2.below.block w.heap.size (by omega)).trans hr1
   have hn2 := (hg2.below.block (w.heap.size + 1) (by omega)).trans hn1
   have HB2 := hid (HB1.out.trans (hg2.below.mono HB1.out.size))
   clear hg2 HM hnew HT HT1 HB0 HB1 hs1 hs2 hr1 hn1 hT hT1
   go_wp2_with (first
    | (refine wpList_load_row rfl 121 _ rfl w.heap.size rfl _ _ _ _ hr2 Tryz.underlying121 rfl zdq ?_)
    | (go_at_call 189; refine (HN.out _).mono ?_; rintro e w3 ⟨rfl, hg3⟩; have hn3 := (hg3.below.block (w.heap.size + 1) (Array.getElem?_eq_some_iff.1 hn2).1).trans hn2; have HB3 := hid (HB2.out.trans (hg3.below.mono HB2.out.size)); clear hg3 hn2 HB2)
    | (go_at_call 160; refine (HV.out _).mono ?_; rintro e w4 ⟨rfl, hg4⟩; refine Hid.out ?_))
   refine hid ?_
   have hn4 := (hg4.below.block (w.heap.size + 1) (Array.getElem?_eq_some_iff.1 hn3).1).trans hn3
   have HB4 := hid (HB3.out.trans (hg4.below.mono HB3.out.size))
   have hl4 : w.heap.size + 1 < w4.heap.size := (Array.getElem?_eq_some_iff.1 hn4).1
   clear hg4 hn3 HB3
   have hn5 : ((w4.alloc (verO na nb nc (some ⟨w4.heap.size + 1, 0, none⟩) 1 1)).alloc (.cells #[.string ⟨#[48]⟩] 9)).heap[w.heap.size + 1]? = some (verO 0 0 0 none 0 0) :=
    (heap_alloc_old _ _ (r := w.heap.size + 1) (by simp; omega)).trans ((heap_alloc_old w4 _ (r := w.heap.size + 1) hl4).trans hn4)
   have hc5 : ((w4.alloc (verO na nb nc (some ⟨w4.heap.size + 1, 0, none⟩) 1 1)).alloc (.cells #[.string ⟨#[48]⟩] 9)).heap[w4.heap.size + 1]? = some (.cells #[.string (str nought)] 9) := by
    have h := heap_alloc_new (w4.alloc (verO na nb nc (some ⟨w4.heap.size + 1, 0, none⟩) 1 1)) (.cells #[.string ⟨#[48]⟩] 9)
    rw [show (w4.alloc (verO na nb nc (some ⟨w4.heap.size + 1, 0, none⟩) 1 1)).heap.size = w4.heap.size + 1 by simp] at h
    exact h
   have HB5 : Hid (Below w.heap.size w ((w4.alloc (verO na nb nc (some ⟨w4.heap.size + 1, 0, none⟩) 1 1)).alloc (.cells #[.string ⟨#[48]⟩] 9))) := hid ((HB4.out.alloc HB4.out.size _).alloc (by simp; have := HB4.out.size; omega) _)
   clear HB4 hn4
   go_wp2_with (refine wpList_store_row rfl 121 _ _ rfl (w.heap.size + 1) #[.int .u32 na, .int .u32 nb, .int .u32 nc, .slice (some ⟨w4.heap.size + 1, 0, none⟩) 1 1] rfl rfl _ _ hn5 zdq rfl (zdr _ _ _ _ _ _) ?_)
   refine bodyPost_ret (zdu rfl _ _ (w.heap.size + 1) _ #[.int .u32 na, .int .u32 nb, .int .u32 nc, .slice (some ⟨w4.heap.size + 1, 0, none⟩) 1 1] _ _ rfl (setRow_heap _ _ _ _ _ _ hn5) Tryz.underlying121 rfl zdq) rfl ?_
   refine HE.out _ _ (below_setRow HB5.out (by omega) _) ⟨w4.heap.size + 1, rfl, by omega, ?_, fun i => ?_, (IsText.of ⟨_, _, hc5⟩ (Go.setRow_other _ _ _ _ (by omega)))⟩
   · have := setRow_other ((w4.alloc (verO na nb nc (some ⟨w4.heap.size + 1, 0, none⟩) 1 1)).alloc (.cells #[.string ⟨#[48]⟩] 9)) (w.heap.size + 1) (w4.heap.size + 1) #[.int .u32 na, .int .u32 nb, .int .u32 nc, .slice (some ⟨w4.heap.size + 1, 0, none⟩) 1 1] (by omega)
     unfold World.cell?
     rw [this, hc5]
     rfl
   · have := setRow_other ((w4.alloc (verO na nb nc (some ⟨w4.heap.size + 1, 0, none⟩) 1 1)).alloc (.cells #[.string ⟨#[48]⟩] 9)) (w.heap.size + 1) (w4.heap.size + 1) #[.int .u32 na, .int .u32 nb, .int .u32 nc, .slice (some ⟨w4.heap.size + 1, 0, none⟩) 1 1] (by omega)
     unfold World.frozen?
     rw [this, hc5]
     simp
end VerC
end
section
open Go.RowKit
namespace VerC
open VerM StrC TextR
theorem zgv {l : B} {w : World} {e : Ending} (h : ReadE l w e) : ∃ x, e = .returned x := by
 unfold ReadE at h
 split at h
 · obtain ⟨a, cap, he, _⟩ := h; exact ⟨_, he⟩
 · exact ⟨_, h⟩
theorem zgw (l : B) (w : World) :
 Calls Tryz.prog 64 #[.string (str l)] w fun e w' => ∃ x, e = .returned x ∧ ReadE l w' (.returned x) ∧ Below w.heap.size w w' :=
 (zeh l w).mono fun e w' ⟨he, hb⟩ => by
  obtain ⟨x, rfl⟩ := zgv he
  exact ⟨x, rfl, he, hb⟩
theorem rIs_any (l : B) (w : World) :
 Calls Tryz.prog 28 #[.string (str l)] w fun e w' => e = .returned (.bool (isT l)) ∧ Below w.heap.size w w' := by
 have HR := hid (zgw l w)
 go_enter Tryz.func28, Tryz.ntmps28
 go_wp2_with (go_at_call 64; refine HR.out.mono ?_; rintro e w2 ⟨x2, rfl, he, hb⟩; refine Hid.out ?_)
 refine hid ?_
 have hnew := heap_alloc_new w2 (verO 0 0 0 none 0 0)
 have HB := hid (hb.alloc hb.size (verO 0 0 0 none 0 0))
 have HS := hid hb.size
 clear hb
 rcases zfq he with ⟨v, a, cap, hv, rfl, hT⟩ | ⟨hv, rfl⟩
 · have HI := hid (zfp hv)
   clear hv hT he
   go_wp2_with (refine wpList_store_row rfl 121 _ _ rfl w2.heap.size #[.int .u32 v.a, .int .u32 v.b, .int .u32 v.c, .slice a v.pre.length cap] rfl rfl _ _ hnew zdq rfl (zdr _ _ _ _ _ _) ?_)
   go_ret
   exact ⟨retB HI.out.symm, below_setRow HB.out HS.out _⟩
 · have HI := hid (isT_no hv)
   clear hv he
   go_wp2_with (refine wpList_store_row rfl 121 _ _ rfl w2.heap.size #[.int .u32 0, .int .u32 0, .int .u32 0, .slice none 0 0] rfl rfl _ _ hnew zdq rfl (zdr _ _ _ _ _ _) ?_)
   go_ret
   exact ⟨retB HI.out.symm, below_setRow HB.out HS.out _⟩
theorem zgx (x y : Int) (w : World) : Calls Tryz.prog 232 #[.int .u32 x, .int .u32 y] w fun e w' => e = .returned (.int .i64 (cmpI x y)) ∧ w = w' := by
 have H := hid (show cmpI x y = if x < y then -1 else if y < x then 1 else 0 from rfl)
 generalize cmpI x y = r at *
 go_enter Tryz.func232, Tryz.ntmps232
 go_wp2
 all_goals go_ret
 all_goals exact ⟨by rw [H.out]; (repeat' split) <;> first | rfl | omega, rfl⟩
set_option maxRecDepth 100000 in
theorem zgy (v u : Ver) (a1 : Option Addr) (c1 : Nat) (a2 : Option Addr) (c2 : Nat) (w : World) (hT1 : Txs w a1 c1 v.pre) (hT2 : Txs w a2 c2 u.pre) (hm1 : may v = true) (hm2 : may u = true) :
 Calls Tryz.prog 209 #[verV v.a v.b v.c a1 v.pre.length c1, verV u.a u.b u.c a2 u.pre.length c2] w fun e w' => e = .returned (.int .i64 (cmpV v u)) ∧ Below w.heap.size w w' := by
 have HV := hid (zfs v u)
 obtain ⟨-, -, -, p8, hp1⟩ := zdl hm1
 obtain ⟨-, -, -, q8, hp2⟩ := zdl hm2
 have HSP := hid (fun s (h : s ∈ v.pre) => (zdm (hp1 s h)).2)
 have HSQ := hid (fun s (h : s ∈ u.pre) => (zdm (hp2 s h)).2)
 generalize cmpV v u = R at *
 obtain ⟨na, nb, nc, p⟩ := v
 obtain ⟨ma, mb, mc, q⟩ := u
 dsimp only at *
 have HB0 := hid (((Below.refl _ w).alloc (Nat.le_refl _) (verO na nb nc a1 p.length c1)).alloc (by simp) (verO ma mb mc a2 q.length c2))
 have HC := hid zgx
 clear hm1 hm2 hp1 hp2
 generalize (na : Int) = xa at *
 generalize (nb : Int) = xb at *
 generalize (nc : Int) = xc at *
 generalize (ma : Int) = ya at *
 generalize (mb : Int) = yb at *
 generalize (mc : Int) = yc at *
 generalize hra : cmpI xa ya = ra at *
 generalize hrb : cmpI xb yb = rb at *
 generalize hrc : cmpI xc yc = rc at *
 have HA := hid hra
 have HBB := hid hrb
 have HCC := hid hrc
 clear hra hrb hrc
 by_cases za : ra = 0
 rotate_left
 · have d1 : (ra == 0) = false := beq_eq_false_iff_ne.2 za
   have d2 : (ra != 0) = true := by rw [bne_iff_ne]; exact za
   rw [if_pos za] at HV
   clear za hT1 hT2
   go_enter Tryz.func209, Tryz.ntmps209
   go_wp2_with (go_at_call 232; refine (HC.out _ _ _).mono ?_; rintro e w' ⟨rfl, rfl⟩; first | rw [HA.out] | rw [HBB.out] | rw [HCC.out])
   go_ret
   exact ⟨by rw [HV.out]; rfl, HB0.out⟩
 rw [if_neg (by simpa using za)] at HV
 by_cases zb : rb = 0
 rotate_left
 · have d1 : (rb == 0) = false := beq_eq_false_iff_ne.2 zb
   have d2 : (rb != 0) = true := by rw [bne_iff_ne]; exact zb
   rw [if_pos zb] at HV
   clear zb hT1 hT2
   subst za
   go_enter Tryz.func209, Tryz.ntmps209
   go_wp2_with (go_at_call 232; refine (HC.out _ _ _).mono ?_; rintro e w' ⟨rfl, rfl⟩; first | rw [HA.out] | rw [HBB.out] | rw [HCC.out])
   go_ret
   exact ⟨by rw [HV.out]; rfl, HB0.out⟩
 rw [if_neg (by simpa using zb)] at HV
 by_cases zc : rc = 0
 rotate_left
 · have d1 : (rc == 0) = false := beq_eq_false_iff_ne.2 zc
   have d2 : (rc != 0) = true := by rw [bne_iff_ne]; exact zc
   rw [if_pos zc] at HV
   clear zc hT1 hT2
   subst za
   subst zb
   go_enter Tryz.func209, Tryz.ntmps209
   go_wp2_with (go_at_call 232; refine (HC.out _ _ _).mono ?_; rintro e w' ⟨rfl, rfl⟩; first | rw [HA.out] | rw [HBB.out] | rw [HCC.out])
   go_ret
   exact ⟨by rw [HV.out]; rfl, HB0.out⟩
 rw [if_neg (by simpa using zc)] at HV
 subst za
 subst zb
 subst zc
 by_cases hp : p = []
 · subst hp
   have HRR := hid (show R = if q.length = 0 then 0 else 1 by rw [HV.out]; unfold cmpP; cases q <;> simp)
   clear hT1 hT2 HV
   by_cases hq : q = []
   · subst hq
     have HR2 := hid (show R = 0 by rw [HRR.out]; rfl)
     go_enter Tryz.func209, Tryz.ntmps209
     go_wp2_with (go_at_call 232; refine (HC.out _ _ _).mono ?_; rintro e w' ⟨rfl, rfl⟩; first | rw [HA.out] | rw [HBB.out] | rw [HCC.out])
     go_ret
     exact ⟨by rw [HR2.out]; rfl, HB0.out⟩
   · have hql := List.length_pos_iff.2 hq
     have HR2 := hid (show R = 1 by rw [HRR.out, if_neg (by omega)])
     have d1 : ((q.length : Int) == 0) = false := beq_eq_false_iff_ne.2 (by omega)
     have d2 : ((0 : Int) == (q.length : Int)) = false := beq_eq_false_iff_ne.2 (by omega)
     clear hq hql
     go_enter Tryz.func209, Tryz.ntmps209
     go_wp2_with (go_at_call 232; refine (HC.out _ _ _).mono ?_; rintro e w' ⟨rfl, rfl⟩; first | rw [HA.out] | rw [HBB.out] | rw [HCC.out])
     go_ret
     exact ⟨by rw [HR2.out]; rfl, HB0.out⟩
 have hpl := List.length_pos_iff.2 hp
 have d1 : ((p.length : Int) == 0) = false := beq_eq_false_iff_ne.2 (by omega)
 by_cases hq : q = []
 · subst hq
   have HR2 := hid (show R = -1 by rw [HV.out]; unfold cmpP; rw [if_pos (by simp), if_neg (by simpa using hp), if_pos hpl])
   have d2 : decide (0 < p.length) = true := decide_eq_true hpl
   clear hp hpl hT1 hT2 HV
   go_enter Tryz.func209, Tryz.ntmps209
   go_wp2_with (go_at_call 232; refine (HC.out _ _ _).mono ?_; rintro e w' ⟨rfl, rfl⟩; first | rw [HA.out] | rw [HBB.out] | rw [HCC.out])
   go_ret
   exact ⟨by rw [HR2.out]; rfl, HB0.out⟩
 have hql := List.length_pos_iff.2 hq
 have d2 : ((q.length : Int) == 0) = false := beq_eq_false_iff_ne.2 (by omega)
 have HRL := hid (show R = ordL p q by rw [HV.out]; unfold cmpP; rw [if_neg (by omega)])
 have HS := hid (zft p q)
 have HE := hid (zfu p q)
 have H0 : Hid (ordL p q = ordL (p.drop 0) (q.drop 0)) := hid (by simp)
 have HT1 := hid hT1
 have HT2 := hid hT2
 clear hp hq hT1 hT2 HV hpl hql
 go_enter Tryz.func209, Tryz.ntmps209
 go_wp2_with (go_at_call 232; refine (HC.out _ _ _).mono ?_; rintro e w' ⟨rfl, rfl⟩; first | rw [HA.out] | rw [HBB.out] | rw [HCC.out])
 have hr1 := (heap_alloc_old (w.alloc (verO xa xb xc a1 p.length c1)) (verO ya yb yc a2 q.length c2) (r := w.heap.size) (by simp)).trans (heap_alloc_new w (verO xa xb xc a1 p.length c1))
 have hr2 := heap_alloc_new (w.alloc (verO xa xb xc a1 p.length c1)) (verO ya yb yc a2 q.length c2)
 rw [show (w.alloc (verO xa xb xc a1 p.length c1)).heap.size = w.heap.size + 1 by simp] at hr2
 have HTA := hid ((HT1.out.alloc (verO xa xb xc a1 p.length c1)).alloc (verO ya yb yc a2 q.length c2))
 have HTB := hid ((HT2.out.alloc (verO xa xb xc a1 p.length c1)).alloc (verO ya yb yc a2 q.length c2))
 obtain ⟨P0, P1, P2, P3⟩ := zds hr1
 obtain ⟨Q0, Q1, Q2, Q3⟩ := zds hr2
 clear P0 P1 P2 Q0 Q1 Q2 hr1 hr2
 generalize (w.alloc (verO xa xb xc a1 p.length c1)).alloc (verO ya yb yc a2 q.length c2) = W at *
 go_loopw [6, 7] (fun iv _ wr => ∃ k n : Nat, k ≤ p.length ∧ k ≤ q.length ∧ iv = .int .i64 k ∧ Hid (R = ordL (p.drop k) (q.drop k)) ∧ wr = W.drewN n) (fun iv _ _ => p.length - (intOf iv).toNat)
 case atStart => exact ⟨0, 0, Nat.zero_le _, Nat.zero_le _, rfl, hid (by rw [HRL.out]; exact H0.out), rfl⟩
 case round =>
  obtain ⟨k, n, hk1, hk2, rfl, HR, rfl⟩ := hrel
  by_cases hlt : k < p.length
  · have hdec : decide (k < p.length) = true := by simpa using hlt
    by_cases hlt2 : k < q.length
    · have hdec2 : decide (k < q.length) = true := by simpa using hlt2
      obtain ⟨b1, o1, rfl, hc1⟩ := HTA.out.cells (by omega)
      obtain ⟨b2, o2, rfl, hc2⟩ := HTB.out.cells (by omega)
      have hck1 := hc1 k hlt
      have hck2 := hc2 k hlt2
      have h1 := HSP.out (p.getD k []) (by rw [List.getD_eq_getElem?_getD, List.getElem?_eq_getElem hlt]; exact List.getElem_mem hlt)
      have h2 := HSQ.out (q.getD k []) (by rw [List.getD_eq_getElem?_getD, List.getElem?_eq_getElem hlt2]; exact List.getElem_mem hlt2)
      have HO := HS.out k hlt hlt2
      rw [← HR.out] at HO
      clear hc1 hc2
      generalize p.getD k [] = s at *
      generalize q.getD k [] = u at *
      have HOR := hid (fun w => zct s u w (by omega) (by omega))
      generalize ordI s u = r at *
      clear h1 h2
      by_cases hr : r = 0
      · have d3 : (r != 0) = false := by rw [hr]; rfl
        have HN := hid (show R = ordL (p.drop (k + 1)) (q.drop (k + 1)) by rw [HO, if_neg (by simpa using hr)])
        clear hr HO
        go_wp2_with fail
        go_quiet ((go_at_call 233; exact (HOR.out _).mono fun _ _ h => ⟨h.1, _, h.2.symm⟩))
        go_wp2_with fail
        go_roundw
        case rel => exact ⟨k + 1, _, by omega, by omega, by go_num, HN, rfl⟩
        case measure => simp [intOf]; omega
      · have d3 : (r != 0) = true := by rw [bne_iff_ne]; exact hr
        have HN := hid (show R = r by rw [HO, if_pos hr])
        clear hr HO
        go_wp2_with fail
        go_quiet ((go_at_call 233; exact (HOR.out _).mono fun _ _ h => ⟨h.1, _, h.2.symm⟩))
        go_wp2_with fail
        go_ret
        exact ⟨by rw [HN.out]; rfl, below_drewN HB0.out _⟩
    · have hdec2 : decide (k < q.length) = false := by simpa using hlt2
      have HN := hid (show R = cmpI p.length q.length by rw [HR.out, HE.out k ⟨hk1, hk2, by omega⟩])
      go_wp2_with (go_at_call 232; refine (HC.out _ _ _).mono ?_; rintro e w' ⟨rfl, rfl⟩; rw [← HN.out])
      go_ret
      exact ⟨rfl, below_drewN HB0.out _⟩
  · have hdec : decide (k < p.length) = false := by simpa using hlt
    have HN := hid (show R = cmpI p.length q.length by rw [HR.out, HE.out k ⟨hk1, hk2, by omega⟩])
    go_wp2_with (go_at_call 232; refine (HC.out _ _ _).mono ?_; rintro e w' ⟨rfl, rfl⟩; rw [← HN.out])
    go_ret
    exact ⟨rfl, below_drewN HB0.out _⟩
end VerC
end
section
open Go.RowKit
namespace VerC
open VerM StrC TextR
def sameB (v u : Ver) : Bool := decide (v.a = u.a) && decide (v.b = u.b) && decide (v.c = u.c) && decide (v.pre = u.pre)
theorem same_no {v u : Ver} (h : ¬ (v.a = u.a ∧ v.b = u.b ∧ v.c = u.c ∧ v.pre.length = u.pre.length)) : sameB v u = false := by
 unfold sameB
 rw [Bool.eq_false_iff]
 intro e
 simp only [Bool.and_eq_true, decide_eq_true_eq] at e
 exact h ⟨e.1.1.1, e.1.1.2, e.1.2, by rw [e.2]⟩
theorem same_self (v : Ver) : sameB v v = true := by simp [sameB]
theorem zgz {p q : TL} {k : Nat} (h1 : k < p.length) (h2 : k < q.length) : (p.take (k + 1) = q.take (k + 1)) ↔ p.take k = q.take k ∧ p.getD k [] = q.getD k [] := by
 rw [List.take_add_one, List.take_add_one, List.getElem?_eq_getElem h1, List.getElem?_eq_getElem h2]
 constructor
 · intro e
   have hl : (p.take k).length = (q.take k).length := by rw [List.length_take, List.length_take]; omega
   have := List.append_inj e hl
   exact ⟨this.1, by simpa [h1, h2] using this.2⟩
 · rintro ⟨e1, e2⟩
   rw [e1]
   congr 1
   simpa [h1, h2] using e2
theorem str_bne {a b : B} : ((str a).toList != (str b).toList) = !decide (a = b) := by rw [bne, zbp]
set_option maxRecDepth 100000 in
theorem zha (v u : Ver) (a1 : Option Addr) (c1 : Nat) (a2 : Option Addr) (c2 : Nat) (w : World) (hT1 : Txs w a1 c1 v.pre) (hT2 : Txs w a2 c2 u.pre) :
 Calls Tryz.prog 231 #[verV v.a v.b v.c a1 v.pre.length c1, verV u.a u.b u.c a2 u.pre.length c2] w fun e w' => e = .returned (.bool (sameB v u)) ∧ Below w.heap.size w w' := by
 have HNO := hid (fun h => same_no (v := v) (u := u) h)
 have HY := hid (show v.a = u.a → v.b = u.b → v.c = u.c → sameB v u = decide (v.pre = u.pre) from fun h1 h2 h3 => by unfold sameB; rw [h1, h2, h3]; simp)
 obtain ⟨na, nb, nc, p⟩ := v
 obtain ⟨ma, mb, mc, q⟩ := u
 dsimp only at *
 generalize sameB ⟨na, nb, nc, p⟩ ⟨ma, mb, mc, q⟩ = r at *
 have HB0 := hid (((Below.refl _ w).alloc (Nat.le_refl _) (verO na nb nc a1 p.length c1)).alloc (by simp) (verO ma mb mc a2 q.length c2))
 have e1 : ((na : Int) != (ma : Int)) = !decide (na = ma) := by rw [bne]; congr 1; rw [Bool.eq_iff_iff]; simp; omega
 have e2 : ((nb : Int) != (mb : Int)) = !decide (nb = mb) := by rw [bne]; congr 1; rw [Bool.eq_iff_iff]; simp; omega
 have e3 : ((nc : Int) != (mc : Int)) = !decide (nc = mc) := by rw [bne]; congr 1; rw [Bool.eq_iff_iff]; simp; omega
 have e4 : ((p.length : Int) != (q.length : Int)) = !decide (p.length = q.length) := by rw [bne]; congr 1; rw [Bool.eq_iff_iff]; simp; omega
 by_cases hall : na = ma ∧ nb = mb ∧ nc = mc ∧ p.length = q.length
 rotate_left
 · have H := hid (HNO.out hall)
   generalize hb1 : decide (na = ma) = b1 at *
   generalize hb2 : decide (nb = mb) = b2 at *
   generalize hb3 : decide (nc = mc) = b3 at *
   generalize hb4 : decide (p.length = q.length) = b4 at *
   have hb : (b1 && b2 && b3 && b4) = false := by
    rw [Bool.eq_false_iff]; intro e
    rw [← hb1, ← hb2, ← hb3, ← hb4] at e
    simp only [Bool.and_eq_true, decide_eq_true_eq] at e
    exact hall ⟨e.1.1.1, e.1.1.2, e.1.2, e.2⟩
   clear hall HNO HY hT1 hT2 hb1 hb2 hb3 hb4
   generalize (na : Int) = xa at *
   generalize (nb : Int) = xb at *
   generalize (nc : Int) = xc at *
   generalize (ma : Int) = ya at *
   generalize (mb : Int) = yb at *
   generalize (mc : Int) = yc at *
   cases b1 <;> cases b2 <;> cases b3 <;> cases b4 <;> first | (exfalso; revert hb; decide) | skip
   all_goals clear hb
   all_goals go_enter Tryz.func231, Tryz.ntmps231
   all_goals go_wp2_with fail
   all_goals go_ret
   all_goals exact ⟨by rw [H.out]; rfl, HB0.out⟩
 obtain ⟨rfl, rfl, rfl, hlen⟩ := hall
 have HR := hid (HY.out rfl rfl rfl)
 have HT := hid (fun k (h1 : k < p.length) (h2 : k < q.length) => zgz h1 h2)
 have HE1 : Hid (p.take p.length = q.take q.length ↔ p = q) := hid (by rw [List.take_length, List.take_length])
 have hr1 := (heap_alloc_old (w.alloc (verO na nb nc a1 p.length c1)) (verO na nb nc a2 q.length c2) (r := w.heap.size) (by simp)).trans (heap_alloc_new w (verO na nb nc a1 p.length c1))
 have hr2 := heap_alloc_new (w.alloc (verO na nb nc a1 p.length c1)) (verO na nb nc a2 q.length c2)
 rw [show (w.alloc (verO na nb nc a1 p.length c1)).heap.size = w.heap.size + 1 by simp] at hr2
 have HTA := hid ((hT1.alloc (verO na nb nc a1 p.length c1)).alloc (verO na nb nc a2 q.length c2))
 have HTB := hid ((hT2.alloc (verO na nb nc a1 p.length c1)).alloc (verO na nb nc a2 q.length c2))
 have HLEN := hid hlen
 have e4' : ((p.length : Int) != (q.length : Int)) = false := by rw [hlen]; simp
 clear HNO HY hT1 hT2 e1 e2 e3 e4 hlen
 generalize (na : Int) = xa at *
 generalize (nb : Int) = xb at *
 generalize (nc : Int) = xc at *
 go_enter Tryz.func231, Tryz.ntmps231
 go_wp2_with fail
 obtain ⟨P0, P1, P2, P3⟩ := zds hr1
 obtain ⟨Q0, Q1, Q2, Q3⟩ := zds hr2
 clear P0 P1 P2 Q0 Q1 Q2 hr1 hr2
 generalize (w.alloc (verO xa xb xc a1 p.length c1)).alloc (verO xa xb xc a2 q.length c2) = W at *
 go_loopw [5] (fun iv wr => ∃ k n : Nat, k ≤ p.length ∧ iv = .int .i64 k ∧ Hid (p.take k = q.take k) ∧ wr = W.drewN n) (fun iv _ => p.length - (intOf iv).toNat)
 case atStart => exact ⟨0, 0, Nat.zero_le _, rfl, hid (by simp), rfl⟩
 case round =>
  obtain ⟨k, n, hk, rfl, HK, rfl⟩ := hrel
  by_cases hlt : k < p.length
  · have hdec : decide (k < p.length) = true := by simpa using hlt
    have hlt2 : k < q.length := by have := HLEN.out; omega
    obtain ⟨b1, o1, rfl, hc1⟩ := HTA.out.cells (by omega)
    obtain ⟨b2, o2, rfl, hc2⟩ := HTB.out.cells (by omega)
    have hck1 := hc1 k hlt
    have hck2 := hc2 k hlt2
    have HTK := hid (HT.out k hlt hlt2)
    have hfew := HTA.out.few
    clear hc1 hc2
    have hb := str_bne (a := p.getD k []) (b := q.getD k [])
    generalize p.getD k [] = s at *
    generalize q.getD k [] = u at *
    by_cases hsu : s = u
    · have hb2 : ((str s).toList == (str u).toList) = true := by rw [zbp]; simp [hsu]
      have HN := hid (HTK.out.2 ⟨HK.out, hsu⟩)
      clear hb hsu
      go_wp2_with fail
      go_quiet (fail)
      go_wp2_with fail
      go_roundw
      case rel => exact ⟨k + 1, _, by omega, by go_num, HN, rfl⟩
      case measure => simp [intOf]; omega
    · have hb2 : ((str s).toList == (str u).toList) = false := by rw [zbp]; simp [hsu]
      have HN := hid (show r = false by
       rw [HR.out, decide_eq_false_iff_not]
       intro e
       have := HTK.out.1 (by rw [e])
       exact hsu this.2)
      clear hb hsu
      go_wp2_with fail
      go_quiet (fail)
      go_wp2_with fail
      go_ret
      exact ⟨by rw [HN.out]; rfl, below_drewN (below_drewN HB0.out _) _⟩
  · have hdec : decide (k < p.length) = false := by simpa using hlt
    have HN := hid (show r = true by
     rw [HR.out, decide_eq_true_eq]
     refine HE1.out.1 ?_
     have h1 : k = p.length := by omega
     have h2 := HK.out
     rw [h1] at h2
     rw [← HLEN.out]
     exact h2)
    go_wp2_with fail
    go_ret
    exact ⟨by rw [HN.out]; rfl, below_drewN HB0.out _⟩
end VerC
end
end Go.Proofs.YtbiplmbcdhjiaaaGreatDoor
