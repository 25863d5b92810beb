/-
  The statement of a total order of versions, walked; and what all the statements of layer 7 ask besides: alive.
-/
import Derived.Test.YtenopliclpnkhaaGreatDoorVerP3
namespace Go.Proofs.YtenopliclpnkhaaGreatDoor
open Go.RowKit
namespace VerC
open VerM StrC TextR
set_option linter.unusedSimpArgs false

set_option maxHeartbeats 4000000 in
set_option maxRecDepth 100000 in
theorem alive_any (w : World) (hv : Vw w) : Calls Tryz.prog 4 #[] w fun e w' => e = .returned (.bool true) ∧ Below w.heap.size w w' := by
  have e1 : readB [49, 46, 50, 46, 51, 45, 114, 99, 46, 49] = some ⟨1, 2, 3, [[114, 99], [49]]⟩ := by rfl
  have e2 : ordE [49, 46, 48, 46, 48, 45, 50] [49, 46, 48, 46, 48, 45, 49, 48] = .returned (.tuple #[.int .i64 (-1), .int .i64 0]) := by rfl
  have e3 : readB [49, 46, 48, 46, 48, 45, 48, 49] = none := by rfl
  have H1 := Lib.hid (fun w hv => pRead_val [49, 46, 50, 46, 51, 45, 114, 99, 46, 49] w hv)
  have H2 := Lib.hid (fun w hv => pOrder_any [49, 46, 48, 46, 48, 45, 50] [49, 46, 48, 46, 48, 45, 49, 48] w hv)
  rw [e2] at H2
  have H3 := Lib.hid (fun w hv => pRead_val [49, 46, 48, 46, 48, 45, 48, 49] w hv)
  have HV := Lib.hid hv
  have HE1 := Lib.hid e1
  have HE3 := Lib.hid e3
  clear hv e1 e2 e3
  go_enter Tryz.func4, Tryz.ntmps4
  go_wp2_with (go_at_call 7; refine (H1.out _ HV.out).mono ?_; rintro e w1 ⟨x1, rfl, he, hb⟩; refine Hid.out ?_)
  refine Lib.hid ?_
  obtain ⟨a, cap, rfl⟩ : ∃ a cap, x1 = .tuple #[verV 1 2 3 a 2 cap, .int .i64 0] := by
    unfold ReadE at he
    rw [HE1.out] at he
    obtain ⟨a, cap, he, -⟩ := he
    injection he with he
    exact ⟨a, cap, he⟩
  have HB := Lib.hid hb
  have hn1 := heap_alloc_new w1 (verO 1 2 3 a 2 cap)
  have HB1 := Lib.hid (HB.out.alloc HB.out.size (verO 1 2 3 a 2 cap))
  have hs1 : (w1.alloc (verO 1 2 3 a 2 cap)).heap.size = w1.heap.size + 1 := by simp
  clear he hb H1 HE1
  go_wp2_with (go_at_call 8; refine (H2.out _ (HV.out.gr HB1.out)).mono ?_; rintro e w2 ⟨rfl, hb⟩; refine Hid.out ?_)
  refine Lib.hid ?_
  have hr2 := (hb.block w1.heap.size (by rw [hs1]; omega)).trans hn1
  have HB2 := Lib.hid (HB1.out.trans (hb.mono HB1.out.size))
  clear hb hn1 hs1 HB1
  go_wp2_with (go_at_call 7; refine (H3.out _ (HV.out.gr HB2.out)).mono ?_; rintro e w3 ⟨x3, rfl, he, hb⟩; refine Hid.out ?_)
  refine Lib.hid ?_
  obtain rfl : x3 = .tuple #[verV 0 0 0 none 0 0, .int .i64 70] := by
    unfold ReadE at he
    rw [HE3.out] at he
    injection he with he
  have hw2 : w1.heap.size < w2.heap.size := (Array.getElem?_eq_some_iff.1 hr2).1
  have hr3 := (hb.block w1.heap.size (by omega)).trans hr2
  have HB3 := Lib.hid (HB2.out.trans (hb.mono HB2.out.size))
  have hw3 : w1.heap.size < w3.heap.size := (Array.getElem?_eq_some_iff.1 hr3).1
  have hr4 := (heap_alloc_old w3 (verO 0 0 0 none 0 0) (r := w1.heap.size) hw3).trans hr3
  obtain ⟨q0, q1, q2, q3⟩ := ver_cells hr4
  have HB4 := Lib.hid (HB3.out.alloc HB3.out.size (verO 0 0 0 none 0 0))
  clear he hb hr2 hr3 H2 H3 HE3
  go_wp2_with fail
  go_ret
  exact ⟨rfl, HB4.out⟩
def Bd {α : Type} (f : α → α → Int) : Prop := ∀ a b, -1 ≤ f a b ∧ f a b ≤ 1
theorem Bd.lex {α : Type} {f g : α → α → Int} (hf : Bd f) (hg : Bd g) : Bd (lex f g) := fun a b => by unfold VerM.lex; split; exact hf a b; exact hg a b
theorem Bd.key {α β : Type} {f : β → β → Int} (hf : Bd f) (k : α → β) : Bd (fun a b => f (k a) (k b)) := fun _ _ => hf _ _
theorem cmpN_bd : Bd cmpN := fun a b => by unfold cmpN; (repeat' split) <;> omega
theorem cmpB_bd : Bd cmpB := fun a b => by unfold cmpB; (repeat' split) <;> omega
theorem ordI_bd : Bd ordI := (cmpN_bd.key kindI).lex ((cmpN_bd.key lenI).lex cmpB_bd)
theorem ordL_bd : Bd ordL
  | [], [] => by simp [ordL]
  | [], _ :: _ => by simp [ordL]
  | _ :: _, [] => by simp [ordL]
  | x :: l, y :: r => by
    unfold ordL
    split
    · exact ordI_bd x y
    · exact ordL_bd l r
theorem cmpV_bd : Bd cmpV := (cmpN_bd.key Ver.a).lex ((cmpN_bd.key Ver.b).lex ((cmpN_bd.key Ver.c).lex ((cmpN_bd.key rel).lex (ordL_bd.key Ver.pre))))
theorem ordT_bd (s t : B) : -1 ≤ ordT s t ∧ ordT s t ≤ 1 := by
  unfold ordT
  split
  · exact cmpV_bd _ _
  · omega
def ordC (a b : B) : Int := if isT a && isT b then 0 else 70
theorem ordE_val (a b : B) : ordE a b = .returned (.tuple #[.int .i64 (ordT a b), .int .i64 (ordC a b)]) := by
  unfold ordE ordT ordC isT
  cases readB a <;> cases readB b <;> simp
theorem ordT_strict {s t u : B} (ht : isT t = true) (h1 : ordT s t < 0) (h2 : ordT t u < 0) (hs : isT s = true) (hu : isT u = true) : ordT s u < 0 := by
  have h3 := ordT_trans ht (by omega : ordT s t ≤ 0) (by omega : ordT t u ≤ 0)
  rcases Int.lt_or_eq_of_le h3 with h | h
  · exact h
  · have e := ordT_zero hs hu h
    subst e
    have := @ordT_anti s t
    omega
end VerC
end Go.Proofs.YtenopliclpnkhaaGreatDoor
