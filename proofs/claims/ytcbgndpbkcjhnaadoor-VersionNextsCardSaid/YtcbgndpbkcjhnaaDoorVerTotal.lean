/-
  The statement of a total order of versions, walked; and what all the statements of layer 7 ask besides: alive.
-/
import Derived.Test.YtcbgndpbkcjhnaaDoorVerP3
namespace Go.Proofs.YtcbgndpbkcjhnaaDoor
open Go.RowKit
namespace VerC
open VerM StrC TextR
set_option linter.unusedSimpArgs false

set_option maxHeartbeats 4000000 in
set_option maxRecDepth 100000 in
theorem alive_any (w : World) (hv : Vw w) : Calls Tryd.prog 18 #[] w fun e w' => e = .returned (.bool true) ∧ Below w.heap.size w w' := by
  have e1 : readB [49, 46, 50, 46, 51, 45, 114, 99, 46, 49] = some ⟨1, 2, 3, [[114, 99], [49]]⟩ := by rfl
  have e2 : ordE [49, 46, 48, 46, 48, 45, 50] [49, 46, 48, 46, 48, 45, 49, 48] = .returned (.tuple #[.int .i64 (-1), .int .i64 0]) := by rfl
  have e3 : readB [49, 46, 48, 46, 48, 45, 48, 49] = none := by rfl
  have H1 := Lib.hid (fun w hv => pRead_val [49, 46, 50, 46, 51, 45, 114, 99, 46, 49] w hv)
  have H2 := Lib.hid (fun w hv => pOrder_any [49, 46, 48, 46, 48, 45, 50] [49, 46, 48, 46, 48, 45, 49, 48] w hv)
  rw [e2] at H2
  have H3 := Lib.hid (fun w hv => pRead_val [49, 46, 48, 46, 48, 45, 48, 49] w hv)
  have HV := Lib.hid hv
  have HE1 := Lib.hid e1
  have HE3 := Lib.hid e3
  clear hv e1 e2 e3
  go_enter Tryd.func18, Tryd.ntmps18
  go_wp2_with (go_at_call 14; refine (H1.out _ HV.out).mono ?_; rintro e w1 ⟨x1, rfl, he, hb⟩; refine Hid.out ?_)
  refine Lib.hid ?_
  obtain ⟨a, cap, rfl⟩ : ∃ a cap, x1 = .tuple #[verV 1 2 3 a 2 cap, .int .i64 0] := by
    unfold ReadE at he
    rw [HE1.out] at he
    obtain ⟨a, cap, he, -⟩ := he
    injection he with he
    exact ⟨a, cap, he⟩
  have HB := Lib.hid hb
  have hn1 := heap_alloc_new w1 (verO 1 2 3 a 2 cap)
  have HB1 := Lib.hid (HB.out.alloc HB.out.size (verO 1 2 3 a 2 cap))
  have hs1 : (w1.alloc (verO 1 2 3 a 2 cap)).heap.size = w1.heap.size + 1 := by simp
  clear he hb H1 HE1
  go_wp2_with (go_at_call 21; refine (H2.out _ (HV.out.gr HB1.out)).mono ?_; rintro e w2 ⟨rfl, hb⟩; refine Hid.out ?_)
  refine Lib.hid ?_
  have hr2 := (hb.block w1.heap.size (by rw [hs1]; omega)).trans hn1
  have HB2 := Lib.hid (HB1.out.trans (hb.mono HB1.out.size))
  clear hb hn1 hs1 HB1
  go_wp2_with (go_at_call 14; refine (H3.out _ (HV.out.gr HB2.out)).mono ?_; rintro e w3 ⟨x3, rfl, he, hb⟩; refine Hid.out ?_)
  refine Lib.hid ?_
  obtain rfl : x3 = .tuple #[verV 0 0 0 none 0 0, .int .i64 70] := by
    unfold ReadE at he
    rw [HE3.out] at he
    injection he with he
  have hw2 : w1.heap.size < w2.heap.size := (Array.getElem?_eq_some_iff.1 hr2).1
  have hr3 := (hb.block w1.heap.size (by omega)).trans hr2
  have HB3 := Lib.hid (HB2.out.trans (hb.mono HB2.out.size))
  have hw3 : w1.heap.size < w3.heap.size := (Array.getElem?_eq_some_iff.1 hr3).1
  have hr4 := (heap_alloc_old w3 (verO 0 0 0 none 0 0) (r := w1.heap.size) hw3).trans hr3
  obtain ⟨q0, q1, q2, q3⟩ := ver_cells hr4
  have HB4 := Lib.hid (HB3.out.alloc HB3.out.size (verO 0 0 0 none 0 0))
  clear he hb hr2 hr3 H2 H3 HE3
  go_wp2_with fail
  go_ret
  exact ⟨rfl, HB4.out⟩
def Bd {α : Type} (f : α → α → Int) : Prop := ∀ a b, -1 ≤ f a b ∧ f a b ≤ 1
theorem Bd.lex {α : Type} {f g : α → α → Int} (hf : Bd f) (hg : Bd g) : Bd (lex f g) := fun a b => by unfold VerM.lex; split; exact hf a b; exact hg a b
theorem Bd.key {α β : Type} {f : β → β → Int} (hf : Bd f) (k : α → β) : Bd (fun a b => f (k a) (k b)) := fun _ _ => hf _ _
theorem cmpN_bd : Bd cmpN := fun a b => by unfold cmpN; (repeat' split) <;> omega
theorem cmpB_bd : Bd cmpB := fun a b => by unfold cmpB; (repeat' split) <;> omega
theorem ordI_bd : Bd ordI := (cmpN_bd.key kindI).lex ((cmpN_bd.key lenI).lex cmpB_bd)
theorem ordL_bd : Bd ordL
  | [], [] => by simp [ordL]
  | [], _ :: _ => by simp [ordL]
  | _ :: _, [] => by simp [ordL]
  | x :: l, y :: r => by
    unfold ordL
    split
    · exact ordI_bd x y
    · exact ordL_bd l r
theorem cmpV_bd : Bd cmpV := (cmpN_bd.key Ver.a).lex ((cmpN_bd.key Ver.b).lex ((cmpN_bd.key Ver.c).lex ((cmpN_bd.key rel).lex (ordL_bd.key Ver.pre))))
theorem ordT_bd (s t : B) : -1 ≤ ordT s t ∧ ordT s t ≤ 1 := by
  unfold ordT
  split
  · exact cmpV_bd _ _
  · omega
def ordC (a b : B) : Int := if isT a && isT b then 0 else 70
theorem ordE_val (a b : B) : ordE a b = .returned (.tuple #[.int .i64 (ordT a b), .int .i64 (ordC a b)]) := by
  unfold ordE ordT ordC isT
  cases readB a <;> cases readB b <;> simp
theorem ordT_strict {s t u : B} (ht : isT t = true) (h1 : ordT s t < 0) (h2 : ordT t u < 0) (hs : isT s = true) (hu : isT u = true) : ordT s u < 0 := by
  have h3 := ordT_trans ht (by omega : ordT s t ≤ 0) (by omega : ordT t u ≤ 0)
  rcases Int.lt_or_eq_of_le h3 with h | h
  · exact h
  · have e := ordT_zero hs hu h
    subst e
    have := @ordT_anti s t
    omega
set_option maxHeartbeats 8000000 in
set_option maxRecDepth 100000 in
theorem total_any (a b c : B) (w : World) (hv : Vw w) :
    Calls Tryd.prog 6 #[.string (str a), .string (str b), .string (str c)] w fun e w' => e = .returned (.bool true) ∧ Below w.heap.size w w' := by
  have H1 := Lib.hid (fun w hv => pOrder_any a b w hv)
  have H2 := Lib.hid (fun w hv => pOrder_any b a w hv)
  have H3 := Lib.hid (fun w hv => pOrder_any b c w hv)
  have H4 := Lib.hid (fun w hv => pOrder_any a c w hv)
  rw [ordE_val] at H1 H2 H3 H4
  have hc1 : ordC a b = if isT a && isT b then 0 else 70 := rfl
  have hc2 : ordC b a = if isT b && isT a then 0 else 70 := rfl
  have hc3 : ordC b c = if isT b && isT c then 0 else 70 := rfl
  have hc4 : ordC a c = if isT a && isT c then 0 else 70 := rfl
  have f1 := @ordT_anti b a
  have f0 := ordT_bd b a
  have f2 := fun h => @ordT_trans a b c h
  have f3 := fun h => @ordT_strict a b c h
  have f4 := @ordT_zero a b
  have f5 : a = b → ordT a b = 0 := fun h => by rw [h]; exact ordT_self b
  have HV := Lib.hid hv
  generalize ordT a b = x at *
  generalize ordT b a = y at *
  generalize ordT b c = z at *
  generalize ordT a c = u at *
  generalize ordC a b = e1 at *
  generalize ordC b a = e2 at *
  generalize ordC b c = e3 at *
  generalize ordC a c = e4 at *
  generalize isT a = ia at *
  generalize isT b = ib at *
  generalize isT c = ic at *
  have heq : ((str a).toList == (str b).toList) = decide (a = b) := str_beq a b
  clear hv
  have T1 := Lib.hid HV
  have T2 := Lib.hid HV
  have T3 := Lib.hid HV
  by_cases hall : ia = true ∧ ib = true ∧ ic = true
  · obtain ⟨rfl, rfl, rfl⟩ := hall
    simp only [Bool.and_self, if_true] at hc1 hc2 hc3 hc4
    subst hc1 hc2 hc3 hc4
    have g2 := f2 rfl
    have g3 := f3 rfl
    have g4 := f4 rfl rfl
    have hw : wrap64 (-y) = x := by unfold wrap64; omega
    have hx0 : (x == 0) = decide (a = b) := by
      rw [Bool.eq_iff_iff, beq_iff_eq, decide_eq_true_eq]
      exact ⟨g4, f5⟩
    have HG2 := Lib.hid g2
    have HG3 := Lib.hid (fun h1 h2 => g3 h1 h2 rfl rfl)
    clear f0 f1 f2 f3 f4 f5 g2 g3 g4
    generalize decide (a = b) = ab at *
    go_enter Tryd.func6, Tryd.ntmps6
    go_wp2_with (first
      | (go_at_call 21; clear T1; refine (H1.out _ HV.out).mono ?_; rintro e w1 ⟨rfl, hb1⟩; have HB1 := Lib.hid hb1; clear hb1)
      | (go_at_call 21; clear T2; refine (H2.out _ (HV.out.gr HB1.out)).mono ?_; rintro e w2 ⟨rfl, hb2⟩; have HB2 := Lib.hid (HB1.out.trans (hb2.mono HB1.out.size)); clear hb2 HB1)
      | (go_at_call 21; clear T3; refine (H3.out _ (HV.out.gr HB2.out)).mono ?_; rintro e w3 ⟨rfl, hb3⟩; have HB3 := Lib.hid (HB2.out.trans (hb3.mono HB2.out.size)); clear hb3 HB2)
      | (go_at_call 21; refine (H4.out _ (HV.out.gr HB3.out)).mono ?_; rintro e w4 ⟨rfl, hb4⟩; have HB4 := Lib.hid (HB3.out.trans (hb4.mono HB3.out.size)); clear hb4 HB3)
      | (go_at_call 18; refine (alive_any _ (HV.out.gr HB4.out)).mono ?_; rintro e w5 ⟨rfl, hb5⟩; have HB5 := Lib.hid (HB4.out.trans (hb5.mono HB4.out.size)); clear hb5))
    all_goals first
      | (go_ret; exact ⟨rfl, HB5.out⟩)
      | (go_ret; refine ⟨?_, HB5.out⟩; clear HG2 HG3 H1 H2 H3 H4 HV heq hx0 hw HB5 HB4; (simp; try omega); done)
      | (exfalso; have h1 := HG2.out; have h2 := HG3.out; clear HG2 HG3 H1 H2 H3 H4 HV; omega)
      | (exfalso; clear HG2 HG3 H1 H2 H3 H4 HV; simp_all; done)
  · have hbad : e1 = 70 ∨ e2 = 70 ∨ e3 = 70 ∨ e4 = 70 := by
      cases ia <;> cases ib <;> cases ic <;> simp_all
    have k1 : e1 = 0 ∨ e1 = 70 := by rw [hc1]; split <;> simp
    have k2 : e2 = 0 ∨ e2 = 70 := by rw [hc2]; split <;> simp
    have k3 : e3 = 0 ∨ e3 = 70 := by rw [hc3]; split <;> simp
    have k4 : e4 = 0 ∨ e4 = 70 := by rw [hc4]; split <;> simp
    have hb : ((e1 != 0) || (e2 != 0) || (e3 != 0) || (e4 != 0)) = true := by
      rcases hbad with h | h | h | h <;> rw [h] <;> simp
    clear f0 f1 f2 f3 f4 f5 hc1 hc2 hc3 hc4 hall hbad heq
    rcases k1 with rfl | rfl <;> rcases k2 with rfl | rfl <;> rcases k3 with rfl | rfl <;> rcases k4 with rfl | rfl <;> first | (exfalso; revert hb; decide) | skip
    all_goals clear hb
    all_goals go_enter Tryd.func6, Tryd.ntmps6
    all_goals (go_wp2_with (first
      | (go_at_call 21; clear T1; refine (H1.out _ HV.out).mono ?_; rintro e w1 ⟨rfl, hb1⟩; have HB1 := Lib.hid hb1; clear hb1)
      | (go_at_call 21; clear T2; refine (H2.out _ (HV.out.gr HB1.out)).mono ?_; rintro e w2 ⟨rfl, hb2⟩; have HB2 := Lib.hid (HB1.out.trans (hb2.mono HB1.out.size)); clear hb2 HB1)
      | (go_at_call 21; clear T3; refine (H3.out _ (HV.out.gr HB2.out)).mono ?_; rintro e w3 ⟨rfl, hb3⟩; have HB3 := Lib.hid (HB2.out.trans (hb3.mono HB2.out.size)); clear hb3 HB2)
      | (go_at_call 21; refine (H4.out _ (HV.out.gr HB3.out)).mono ?_; rintro e w4 ⟨rfl, hb4⟩; have HB4 := Lib.hid (HB3.out.trans (hb4.mono HB3.out.size)); clear hb4 HB3)
      | (go_at_call 18; refine (alive_any _ (HV.out.gr HB4.out)).mono ?_; rintro e w5 ⟨rfl, hb5⟩; have HB5 := Lib.hid (HB4.out.trans (hb5.mono HB4.out.size)); clear hb5)))
    all_goals go_ret
    all_goals exact ⟨rfl, HB5.out⟩
end VerC
end Go.Proofs.YtcbgndpbkcjhnaaDoor
