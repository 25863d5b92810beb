/-
  The statement of which versions may be, their texts, and what any text says, walked.
-/
import Derived.Test.YtcbgndpbkcjhnaaDoorVerTwin
import Derived.Test.YtcbgndpbkcjhnaaDoorVerText
import Derived.Deep.RegionHeld3
namespace Go.Proofs.YtcbgndpbkcjhnaaDoor
open Go.RowKit
namespace VerC
open VerM StrC TextR
set_option linter.unusedSimpArgs false

/-- a version and its twin, in their variables -/
structure TwI (w wq : World) (v : Ver) (a1 : Option Addr) (c1 : Nat) (a2 : Option Addr) (c2 g : Nat) : Prop where
  rv : wq.heap[w.heap.size]? = some (verO v.a v.b v.c a1 v.pre.length c1)
  rx : wq.heap[g]? = some (verO v.a v.b v.c a2 v.pre.length c2)
  tv : Txs wq a1 c1 v.pre
  tx : Txs wq a2 c2 v.pre
  below : Below w.heap.size w wq
theorem TwI.gr {w wq w' : World} {v : Ver} {a1 : Option Addr} {c1 : Nat} {a2 : Option Addr} {c2 g : Nat} (h : TwI w wq v a1 c1 a2 c2 g) (b : Below wq.heap.size wq w') : TwI w w' v a1 c1 a2 c2 g :=
  ⟨(b.block _ (Array.getElem?_eq_some_iff.1 h.rv).1).trans h.rv, (b.block _ (Array.getElem?_eq_some_iff.1 h.rx).1).trans h.rx, h.tv.gr b, h.tx.gr b, h.below.trans (b.mono h.below.size)⟩
def rdV (s : B) : Ver := match readB s with | some v => v | none => ⟨0, 0, 0, []⟩
def rdC (s : B) : Int := match readB s with | some _ => 0 | none => 70
/-- how Read ends, in one form -/
theorem read_gen {s : B} {w : World} {e : Ending} (h : ReadE s w e) : ∃ a cap, e = .returned (.tuple #[verV (rdV s).a (rdV s).b (rdV s).c a (rdV s).pre.length cap, .int .i64 (rdC s)]) ∧ Txs w a cap (rdV s).pre := by
  unfold ReadE at h
  unfold rdV rdC
  cases hs : readB s with
  | none => rw [hs] at h; exact ⟨none, 0, h, Txs.nil _ _ _⟩
  | some v => rw [hs] at h; exact h
theorem rdC_cases (s : B) : rdC s = 0 ∨ rdC s = 70 := by unfold rdC; split <;> simp
def textT (v : Ver) : B := if textOk v then text v else []
def textC (v : Ver) : Int := if textOk v then 0 else 70
theorem textE_val (v : Ver) : textE v = .returned (.tuple #[.string (str (textT v)), .int .i64 (textC v)]) := by
  unfold textE textT textC; split <;> rfl
set_option maxHeartbeats 8000000 in
set_option maxRecDepth 100000 in
theorem texts_any (v : Ver) (a1 : Option Addr) (c1 : Nat) (s : B) (w : World) (hv : Vw w) (hT1 : Arg w a1 c1 v.pre) :
    Calls Tryd.prog 3 #[verV v.a v.b v.c a1 v.pre.length c1, .string (str s)] w fun e w' => e = .returned (.bool true) ∧ Below w.heap.size w w' := by
  have hr1 := heap_alloc_new w (verO v.a v.b v.c a1 v.pre.length c1)
  have hb0 : Below w.heap.size w (w.alloc (verO v.a v.b v.c a1 v.pre.length c1)) := (Below.refl _ w).alloc (Nat.le_refl _) _
  have hs1 : (w.alloc (verO v.a v.b v.c a1 v.pre.length c1)).heap.size = w.heap.size + 1 := by simp
  have HW1 := Lib.hid hT1
  have HB0 := Lib.hid hb0
  have HV := Lib.hid hv
  have HTW := Lib.hid (twin_any v a1 c1 _ (hT1.gr hb0))
  clear hv hT1 hb0
  go_enter Tryd.func3, Tryd.ntmps3
  go_wp2_with (first
    | (refine wpList_load_row rfl 25 _ rfl w.heap.size rfl _ _ _ _ hr1 Tryd.underlying25 rfl info_ver ?_)
    | (go_at_call 8; refine HTW.out.mono ?_; rintro e w3 ⟨⟨a1', c1', rfl, hT⟩, hb3⟩; refine Hid.out ?_))
  refine Lib.hid ?_
  have hr3 := (hb3.block w.heap.size (by rw [hs1]; omega)).trans hr1
  have HB3 := Lib.hid (HB0.out.trans (hb3.mono (by rw [hs1]; omega)))
  have HT3 := Lib.hid hT
  clear hb3 hT hr1 HTW HB0 hs1
  have hl3 : w.heap.size < w3.heap.size := (Array.getElem?_eq_some_iff.1 hr3).1
  have HI : Hid (TwI w (w3.alloc (verO v.a v.b v.c a1' v.pre.length c1')) v a1 c1 a1' c1' w3.heap.size) := Lib.hid ⟨(heap_alloc_old w3 _ (r := w.heap.size) hl3).trans hr3, heap_alloc_new w3 _, (HW1.out.gr HB3.out).txs.alloc _, HT3.out.alloc _, HB3.out.alloc HB3.out.size _⟩
  have hmE : mayE v = 0 ∨ mayE v = 70 := by unfold mayE; split <;> simp
  have HM := Lib.hid (fun w' (h : Txs w' a1' c1' v.pre) => pmay_any v a1' c1' w' h)
  have HRM := Lib.hid (fun w' (h : Txs w' a1 c1 v.pre) => rmay_any v a1 c1 w' h)
  have HTX := Lib.hid (fun w' hv (h : Txs w' a1' c1' v.pre) => pText_any v a1' c1' w' hv h)
  have HRT := Lib.hid (fun w' (h : Txs w' a1 c1 v.pre) => rText_any v a1 c1 w' h)
  rw [textE_val] at HTX HRT
  have HSM := Lib.hid (fun w' h1 h2 => rSame_any v v a1' c1' a1 c1 w' h1 h2)
  rw [same_self] at HSM
  have he : mayE v = if may v then 0 else 70 := rfl
  have htc : textC v = 0 ∨ textC v = 70 := by unfold textC; split <;> simp
  generalize textT v = tt at *
  generalize textC v = tc at *
  generalize mayE v = me at *
  have heq : ((str tt).toList != (str tt).toList) = false := by simp
  have HR1 := Lib.hid (fun w' hv => (pRead_any s w' hv).mono fun e w2 h => (⟨read_gen h.1, h.2⟩ : (∃ a cap, e = .returned (.tuple #[verV (rdV s).a (rdV s).b (rdV s).c a (rdV s).pre.length cap, .int .i64 (rdC s)]) ∧ Txs w2 a cap (rdV s).pre) ∧ Below w'.heap.size w' w2))
  have HR2 := Lib.hid (fun w' => (rRead_any s w').mono fun e w2 h => (⟨read_gen h.1, h.2⟩ : (∃ a cap, e = .returned (.tuple #[verV (rdV s).a (rdV s).b (rdV s).c a (rdV s).pre.length cap, .int .i64 (rdC s)]) ∧ Txs w2 a cap (rdV s).pre) ∧ Below w'.heap.size w' w2))
  have HS2 := Lib.hid (fun w' a b c d h1 h2 => rSame_any (rdV s) (rdV s) a b c d w' h1 h2)
  rw [same_self] at HS2
  have HI1 := Lib.hid (fun w' h => pIs_any s w' h)
  have HI2 := Lib.hid (fun w' => rIs_any s w')
  have hrc := rdC_cases s
  generalize rdC s = rc at *
  generalize rdV s = rv at *
  generalize isT s = it at *
  clear hr3 HB3 HT3 hl3
  go_wp2_with fail
  generalize w3.alloc (verO v.a v.b v.c a1' v.pre.length c1') = W4 at *
  rcases Bool.eq_false_or_eq_true (may v) with hm | hm
  all_goals rw [hm] at he HRM
  all_goals simp only [if_true, if_false, Bool.false_eq_true] at he
  all_goals subst he
  all_goals refine (HM.out W4 HI.out.tx).mono ?_
  all_goals rintro e w5 ⟨rfl, hg5⟩
  all_goals refine Hid.out ?_
  all_goals refine Lib.hid ?_
  all_goals have HI5 := Lib.hid (HI.out.gr hg5.below)
  all_goals obtain ⟨v0, v1, v2, v3⟩ := ver_cells HI5.out.rv
  all_goals obtain ⟨x0, x1, x2, x3⟩ := ver_cells HI5.out.rx
  all_goals clear hg5 HI
  all_goals rcases htc with rfl | rfl
  all_goals (go_wp2_with (first
    | (go_at_call 10; refine (HTX.out _ (HV.out.gr HI5.out.below) HI5.out.tx).mono ?_; rintro e w6 ⟨rfl, hb6⟩; have HI6 := Lib.hid (HI5.out.gr hb6); clear hb6 HI5 v0 v1 v2 v3 x0 x1 x2 x3; obtain ⟨v0, v1, v2, v3⟩ := ver_cells HI6.out.rv)
    | (go_at_call 11; refine (HRT.out _ HI6.out.tv).mono ?_; rintro e w7 ⟨rfl, hb7⟩; have HI7 := Lib.hid (HI6.out.gr hb7); clear hb7 HI6 v0 v1 v2 v3; obtain ⟨v0, v1, v2, v3⟩ := ver_cells HI7.out.rv)
    | (go_at_call 12; refine (HRM.out _ HI7.out.tv).mono ?_; rintro e w8 ⟨rfl, hg8⟩; have HI8 := Lib.hid (HI7.out.gr hg8.below); clear hg8 HI7 v0 v1 v2 v3; obtain ⟨v0, v1, v2, v3⟩ := ver_cells HI8.out.rv; obtain ⟨x0, x1, x2, x3⟩ := ver_cells HI8.out.rx)
    | (go_at_call 13; refine (HSM.out _ HI8.out.tx HI8.out.tv).mono ?_; rintro e w9 ⟨rfl, hb9⟩; have HB9 := Lib.hid (HI8.out.below.trans (hb9.mono HI8.out.below.size)); clear hb9 v0 v1 v2 v3 x0 x1 x2 x3; refine Hid.out ?_)))
  all_goals refine Lib.hid ?_
  all_goals clear HI8 HM HRM HTX HRT HSM HW1
  all_goals rcases hrc with rfl | rfl
  all_goals (go_wp2_with (first
    | (go_at_call 14; refine (HR1.out _ (HV.out.gr HB9.out)).mono ?_; rintro e y1 ⟨⟨a3, c3, rfl, hT3⟩, hb1⟩; refine Hid.out ?_)))
  all_goals refine Lib.hid ?_
  all_goals have HB10 := Lib.hid (HB9.out.trans (hb1.mono HB9.out.size))
  all_goals have hn10 := heap_alloc_new y1 (verO rv.a rv.b rv.c a3 rv.pre.length c3)
  all_goals have HB11 := Lib.hid (HB10.out.alloc HB10.out.size (verO rv.a rv.b rv.c a3 rv.pre.length c3))
  all_goals have HT11 := Lib.hid (hT3.alloc (verO rv.a rv.b rv.c a3 rv.pre.length c3))
  all_goals have hs11 : y1.heap.size < (y1.alloc (verO rv.a rv.b rv.c a3 rv.pre.length c3)).heap.size := by simp
  all_goals clear hT3 hb1 HB9 HB10
  all_goals (go_wp2_with (first
    | (go_at_call 15; refine (HR2.out _).mono ?_; rintro e y2 ⟨⟨a4, c4, rfl, hT4⟩, hb2⟩; refine Hid.out ?_)))
  all_goals refine Lib.hid ?_
  all_goals have hr12 := (hb2.block y1.heap.size hs11).trans hn10
  all_goals have HB12 := Lib.hid (HB11.out.trans (hb2.mono HB11.out.size))
  all_goals have HT12 := Lib.hid (HT11.out.gr hb2)
  all_goals have hl12 : y1.heap.size < y2.heap.size := (Array.getElem?_eq_some_iff.1 hr12).1
  all_goals have hr13 := (heap_alloc_old y2 (verO rv.a rv.b rv.c a4 rv.pre.length c4) (r := y1.heap.size) hl12).trans hr12
  all_goals have hn13 := heap_alloc_new y2 (verO rv.a rv.b rv.c a4 rv.pre.length c4)
  all_goals have HB13 := Lib.hid (HB12.out.alloc HB12.out.size (verO rv.a rv.b rv.c a4 rv.pre.length c4))
  all_goals have HT13 := Lib.hid (HT12.out.alloc (verO rv.a rv.b rv.c a4 rv.pre.length c4))
  all_goals have HT14 := Lib.hid (hT4.alloc (verO rv.a rv.b rv.c a4 rv.pre.length c4))
  all_goals clear hT4 hb2 HB11 HB12 HT11 HT12 hs11 hl12 hr12 hn10
  all_goals obtain ⟨v0, v1, v2, v3⟩ := ver_cells hr13
  all_goals obtain ⟨x0, x1, x2, x3⟩ := ver_cells hn13
  all_goals have hit : (it == it) = true := by simp
  all_goals (go_wp2_with (first
    | (go_at_call 13; refine (HS2.out _ _ _ _ _ HT13.out HT14.out).mono ?_; rintro e z1 ⟨rfl, hb⟩; have HB14 := Lib.hid (HB13.out.trans (hb.mono HB13.out.size)); clear hb v0 v1 v2 v3 x0 x1 x2 x3)
    | (go_at_call 16; refine (HI1.out _ (HV.out.gr HB14.out)).mono ?_; rintro e z2 ⟨rfl, hb⟩; have HB15 := Lib.hid (HB14.out.trans (hb.mono HB14.out.size)); clear hb)
    | (go_at_call 17; refine (HI2.out _).mono ?_; rintro e z3 ⟨rfl, hb⟩; have HB16 := Lib.hid (HB15.out.trans (hb.mono HB15.out.size)); clear hb)
    | (go_at_call 18; refine (alive_any _ (HV.out.gr HB16.out)).mono ?_; rintro e z4 ⟨rfl, hb⟩; have HB17 := Lib.hid (HB16.out.trans (hb.mono HB16.out.size)); clear hb)))
  all_goals go_ret
  all_goals exact ⟨rfl, HB17.out⟩
end VerC
end Go.Proofs.YtcbgndpbkcjhnaaDoor
