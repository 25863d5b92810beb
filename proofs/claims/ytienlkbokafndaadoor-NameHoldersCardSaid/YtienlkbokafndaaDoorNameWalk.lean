/-
  The statements of one name, two and three, walked: package name's answers held against the document's; what follows of them.
-/
import Derived.Test.YtienlkbokafndaaDoorNameP2
namespace Go.Proofs.YtienlkbokafndaaDoor
open Go.RowKit
namespace NameC
open NameM StrC
set_option linter.unusedSimpArgs false

set_option maxHeartbeats 4000000 in
set_option maxRecDepth 100000 in
theorem forms_any (a b : List UInt8) (w : World) (hM : Mx w) (ha : a.length ≤ 9223372036854775807) (hb : b.length ≤ 9223372036854775807) :
    Calls Tryd.prog 3 #[.string (str a), .string (str b)] w fun e w' => e = .returned (.bool true) ∧ Below w.heap.size w w' := by
  have HA := Lib.hid ha
  have HB := Lib.hid hb
  have HM := Lib.hid hM
  clear ha hb hM
  go_enter Tryd.func3, Tryd.ntmps3
  go_wp2_with (first
    | (go_at_call 7; refine (norm_any a _ HA.out).mono ?_; rintro e w1 ⟨rfl, hb1⟩)
    | (go_at_call 8; refine (rnorm_any a _ HA.out).mono ?_; rintro e w2 ⟨rfl, hb2⟩; have HB2 := Lib.hid (chain (Nat.le_refl _) hb1 hb2); clear hb1 hb2)
    | (go_at_call 9; refine (squash_any a _ (HM.out.below HB2.out) HA.out).mono ?_; rintro e w3 ⟨rfl, hb3⟩; have HB3 := Lib.hid (chain (Nat.le_refl _) HB2.out hb3); clear hb3 HB2)
    | (go_at_call 10; refine (rsquash_any a _ HA.out).mono ?_; rintro e w4 ⟨rfl, hb4⟩; have HB4 := Lib.hid (chain (Nat.le_refl _) HB3.out hb4); clear hb4 HB3)
    | (go_at_call 11; refine (is_any a _ HA.out).mono ?_; rintro e w5 ⟨rfl, hb5⟩; have HB5 := Lib.hid (chain (Nat.le_refl _) HB4.out hb5); clear hb5 HB4)
    | (go_at_call 12; refine (ris_any a _ HA.out).mono ?_; rintro e w6 ⟨rfl, hb6⟩; have HB6 := Lib.hid (chain (Nat.le_refl _) HB5.out hb6); clear hb6 HB5)
    | (go_at_call 13; refine (same_any a b _ HA.out HB.out).mono ?_; rintro e w7 ⟨rfl, hb7⟩; have HB7 := Lib.hid (chain (Nat.le_refl _) HB6.out hb7); clear hb7 HB6)
    | (go_at_call 14; refine (rsame_any a b _ HA.out HB.out).mono ?_; rintro e w8 ⟨rfl, hb8⟩; have HB8 := Lib.hid (chain (Nat.le_refl _) HB7.out hb8); clear hb8 HB7)
    | (go_at_call 15; refine (like_any a b _ (HM.out.below HB8.out) HA.out HB.out).mono ?_; rintro e w9 ⟨rfl, hb9⟩; have HB9 := Lib.hid (chain (Nat.le_refl _) HB8.out hb9); clear hb9 HB8)
    | (go_at_call 16; refine (rlike_any a b _ HA.out HB.out).mono ?_; rintro e w10 ⟨rfl, hb10⟩; have HB10 := Lib.hid (chain (Nat.le_refl _) HB9.out hb10); clear hb10 HB9)
    | (go_at_call 17; refine (alive_any _ (HM.out.below HB10.out)).mono ?_; rintro e w11 ⟨rfl, hb11⟩; have HB11 := Lib.hid (chain (Nat.le_refl _) HB10.out hb11); clear hb11 HB10))
  go_ret
  exact ⟨rfl, HB11.out⟩

set_option maxHeartbeats 4000000 in
set_option maxRecDepth 100000 in
theorem holders_any (a : List UInt8) (w : World) (hM : Mx w) (ha : a.length ≤ 9223372036854775807) :
    Calls Tryd.prog 4 #[.string (str a)] w fun e w' => e = .returned (.bool true) ∧ Below w.heap.size w w' := by
  have HA := Lib.hid ha
  have HM := Lib.hid hM
  clear ha hM
  have HH := Lib.hid (fun w => holder_any a w HA.out)
  have HR := Lib.hid (fun w => rholder_any a w HA.out)
  have hcd : holdCode a = if holder a then 0 else 61 := rfl
  rcases Bool.eq_false_or_eq_true (holder a) with hh | hh
  all_goals (simp only [hh, if_true, if_false, Bool.false_eq_true] at hcd; rw [hcd] at HH; rw [hh] at HR; clear hcd hh)
  · have TK := Lib.hid HA
    go_enter Tryd.func4, Tryd.ntmps4
    go_wp2_with (first
      | (go_at_call 18; refine (reserved_any a _ HM.out HA.out).mono ?_; rintro e w1 ⟨rfl, hb1⟩)
      | (go_at_call 19; refine (rreserved_any a _ HA.out).mono ?_; rintro e w2 ⟨rfl, hb2⟩; have HB2 := Lib.hid (chain (Nat.le_refl _) hb1 hb2); clear hb1 hb2)
      | (go_at_call 20; clear TK; refine (HH.out _).mono ?_; rintro e w3 ⟨rfl, hb3⟩; have HB3 := Lib.hid (chain (Nat.le_refl _) HB2.out hb3); clear hb3 HB2)
      | (go_at_call 21; refine (HR.out _).mono ?_; rintro e w4 ⟨rfl, rfl⟩)
      | (go_at_call 20; refine (HH.out _).mono ?_; rintro e w5 ⟨rfl, hb5⟩; have HB5 := Lib.hid (chain (Nat.le_refl _) HB3.out hb5); clear hb5 HB3)
      | (go_at_call 17; refine (alive_any _ (HM.out.below HB5.out)).mono ?_; rintro e w11 ⟨rfl, hb11⟩; have HB11 := Lib.hid (chain (Nat.le_refl _) HB5.out hb11); clear hb11 HB5))
    go_ret
    exact ⟨rfl, HB11.out⟩
  · have TK := Lib.hid HA
    have TK2 := Lib.hid TK
    go_enter Tryd.func4, Tryd.ntmps4
    go_wp2_with (first
      | (go_at_call 18; refine (reserved_any a _ HM.out HA.out).mono ?_; rintro e w1 ⟨rfl, hb1⟩)
      | (go_at_call 19; refine (rreserved_any a _ HA.out).mono ?_; rintro e w2 ⟨rfl, hb2⟩; have HB2 := Lib.hid (chain (Nat.le_refl _) hb1 hb2); clear hb1 hb2)
      | (go_at_call 20; clear TK; refine (HH.out _).mono ?_; rintro e w3 ⟨rfl, hb3⟩; have HB3 := Lib.hid (chain (Nat.le_refl _) HB2.out hb3); clear hb3 HB2)
      | (go_at_call 21; refine (HR.out _).mono ?_; rintro e w4 ⟨rfl, rfl⟩)
      | (go_at_call 20; clear TK2; refine (HH.out _).mono ?_; rintro e w5 ⟨rfl, hb5⟩; have HB5 := Lib.hid (chain (Nat.le_refl _) HB3.out hb5); clear hb5 HB3)
      | (go_at_call 20; refine (HH.out _).mono ?_; rintro e w6 ⟨rfl, hb6⟩; have HB6 := Lib.hid (chain (Nat.le_refl _) HB5.out hb6); clear hb6 HB5)
      | (go_at_call 17; refine (alive_any _ (HM.out.below HB6.out)).mono ?_; rintro e w11 ⟨rfl, hb11⟩; have HB11 := Lib.hid (chain (Nat.le_refl _) HB6.out hb11); clear hb11 HB6))
    go_ret
    exact ⟨rfl, HB11.out⟩
/-- what no name may be is like none -/
theorem once_none {a b : List UInt8} (h : may a = false) : same a a = false ∧ like a b = false ∧ reserved a = false := by
  unfold same like reserved
  rw [h]
  exact ⟨rfl, rfl, rfl⟩
theorem once_form {a : List UInt8} (h : may a = true) : norm (norm a) = norm a ∧ code (norm a) = 0 ∧ isN (norm a) = true ∧ same a (norm a) = true ∧ like a a = false ∧ reserved (norm a) = reserved a := by
  have hf := may_form h
  have hn : norm a = formD [45] a := (norm_some h).1
  rw [hn]
  refine ⟨by rw [(norm_some hf).1, formD_idem], (norm_some hf).2, ?_, ?_, ?_, reserved_form h⟩
  · unfold isN; rw [hf, formD_idem]; simp
  · unfold same; rw [h, hf, formD_idem]; simp
  · unfold like; rw [h]; simp
set_option maxHeartbeats 8000000 in
set_option maxRecDepth 100000 in
theorem once_any (a b c : List UInt8) (w : World) (hM : Mx w) (ha : a.length ≤ 9223372036854775807) (hb : b.length ≤ 9223372036854775807) (hc : c.length ≤ 9223372036854775807) :
    Calls Tryd.prog 6 #[.string (str a), .string (str b), .string (str c)] w fun e w' => e = .returned (.bool true) ∧ Below w.heap.size w w' := by
  have HA := Lib.hid ha
  have HB := Lib.hid hb
  have HC := Lib.hid hc
  have HM := Lib.hid hM
  clear ha hb hc hM
  have HN := Lib.hid (norm_any a w HA.out)
  have hcd : code a = if may a then 0 else 60 := rfl
  rcases Bool.eq_false_or_eq_true (may a) with hm | hm
  rotate_left
  · simp only [hm, if_false, Bool.false_eq_true] at hcd
    rw [hcd] at HN
    obtain ⟨e1, e2, e3⟩ := once_none (b := b) hm
    have H1 := Lib.hid (fun w => same_any a a w HA.out HA.out)
    have H2 := Lib.hid (fun w hM => like_any a b w hM HA.out HB.out)
    have H3 := Lib.hid (fun w hM => reserved_any a w hM HA.out)
    rw [e1] at H1
    rw [e2] at H2
    rw [e3] at H3
    clear e1 e2 e3 hm hcd
    go_enter Tryd.func6, Tryd.ntmps6
    go_wp2_with (first
      | (go_at_call 7; refine HN.out.mono ?_; rintro e w1 ⟨rfl, hb1⟩; have HB1 := Lib.hid hb1; clear hb1)
      | (go_at_call 13; refine (H1.out _).mono ?_; rintro e w2 ⟨rfl, hb2⟩; have HB2 := Lib.hid (chain (Nat.le_refl _) HB1.out hb2); clear hb2 HB1)
      | (go_at_call 15; refine (H2.out _ (HM.out.below HB2.out)).mono ?_; rintro e w3 ⟨rfl, hb3⟩; have HB3 := Lib.hid (chain (Nat.le_refl _) HB2.out hb3); clear hb3 HB2)
      | (go_at_call 18; refine (H3.out _ (HM.out.below HB3.out)).mono ?_; rintro e w4 ⟨rfl, hb4⟩; have HB4 := Lib.hid (chain (Nat.le_refl _) HB3.out hb4); clear hb4 HB3)
      | (go_at_call 17; refine (alive_any _ (HM.out.below HB4.out)).mono ?_; rintro e w11 ⟨rfl, hb11⟩; have HB11 := Lib.hid (chain (Nat.le_refl _) HB4.out hb11); clear hb11 HB4))
    go_ret
    exact ⟨rfl, HB11.out⟩
  · simp only [hm, if_true] at hcd
    rw [hcd] at HN
    obtain ⟨e1, e2, e3, e4, e5, e6⟩ := once_form hm
    have hfl := norm_len a
    have H1 := Lib.hid (fun w => norm_any (norm a) w (by omega))
    rw [e1, e2] at H1
    have H2 := Lib.hid (fun w => is_any (norm a) w (by omega))
    rw [e3] at H2
    have H3 := Lib.hid (fun w => same_any a (norm a) w HA.out (by omega))
    rw [e4] at H3
    have H4 := Lib.hid (fun w hM => like_any a a w hM HA.out HA.out)
    rw [e5] at H4
    have H5 := Lib.hid (fun w hM => reserved_any a w hM HA.out)
    have H6 := Lib.hid (fun w hM => reserved_any (norm a) w hM (by omega))
    rw [e6] at H6
    have hsc := same_comm b a
    have hlc := like_comm b a
    have HT := Lib.hid (fun h1 h2 => same_trans (a := a) (b := b) (c := c) h1 h2)
    have HG := Lib.hid (fun h => reserved_goes (a := a) (b := b) h)
    have HNB := Lib.hid (not_both a b)
    clear e1 e2 e3 e4 e5 e6 hm hcd hfl
    generalize norm a = f at *
    have T1 := Lib.hid HA
    have T2 := Lib.hid HA
    have T3 := Lib.hid HA
    have T4 := Lib.hid HA
    have T5 := Lib.hid HA
    go_enter Tryd.func6, Tryd.ntmps6
    go_wp2_with (first
      | (go_at_call 7; clear T1; refine HN.out.mono ?_; rintro e w1 ⟨rfl, hb1⟩; have HB1 := Lib.hid hb1; clear hb1)
      | (go_at_call 7; clear T2; refine (H1.out _).mono ?_; rintro e w2 ⟨rfl, hb2⟩; have HB0 := Lib.hid (chain (Nat.le_refl _) HB1.out hb2); clear hb2 HB1)
      | (go_at_call 11; refine (H2.out _).mono ?_; rintro e w2 ⟨rfl, hb2⟩; replace HB0 := Lib.hid (chain (Nat.le_refl _) HB0.out hb2); clear hb2)
      | (go_at_call 13; clear T3; refine (H3.out _).mono ?_; rintro e w2 ⟨rfl, hb2⟩; replace HB0 := Lib.hid (chain (Nat.le_refl _) HB0.out hb2); clear hb2)
      | (go_at_call 15; clear T4; refine (H4.out _ (HM.out.below HB0.out)).mono ?_; rintro e w2 ⟨rfl, hb2⟩; replace HB0 := Lib.hid (chain (Nat.le_refl _) HB0.out hb2); clear hb2)
      | (go_at_call 18; clear T5; refine (H5.out _ (HM.out.below HB0.out)).mono ?_; rintro e w2 ⟨rfl, hb2⟩; replace HB0 := Lib.hid (chain (Nat.le_refl _) HB0.out hb2); clear hb2; have T6 := Lib.hid HA)
      | (go_at_call 18; clear T6; refine (H6.out _ (HM.out.below HB0.out)).mono ?_; rintro e w2 ⟨rfl, hb2⟩; replace HB0 := Lib.hid (chain (Nat.le_refl _) HB0.out hb2); clear hb2)
      | (go_at_call 13; refine (same_any _ _ _ (by first | exact HA.out | exact HB.out | exact HC.out) (by first | exact HA.out | exact HB.out | exact HC.out)).mono ?_; rintro e w2 ⟨rfl, hb2⟩; replace HB0 := Lib.hid (chain (Nat.le_refl _) HB0.out hb2); clear hb2)
      | (go_at_call 15; refine (like_any _ _ _ (HM.out.below HB0.out) (by first | exact HA.out | exact HB.out | exact HC.out) (by first | exact HA.out | exact HB.out | exact HC.out)).mono ?_; rintro e w2 ⟨rfl, hb2⟩; replace HB0 := Lib.hid (chain (Nat.le_refl _) HB0.out hb2); clear hb2)
      | (go_at_call 18; refine (reserved_any _ _ (HM.out.below HB0.out) (by first | exact HA.out | exact HB.out | exact HC.out)).mono ?_; rintro e w2 ⟨rfl, hb2⟩; replace HB0 := Lib.hid (chain (Nat.le_refl _) HB0.out hb2); clear hb2)
      | (go_at_call 17; refine (alive_any _ (HM.out.below HB0.out)).mono ?_; rintro e w11 ⟨rfl, hb11⟩; have HB11 := Lib.hid (chain (Nat.le_refl _) HB0.out hb11); clear hb11))
    all_goals first
      | (go_ret; exact ⟨rfl, HB11.out⟩)
      | (exfalso; have h1 := HT.out; have h2 := HG.out; have h3 := HNB.out; clear HT HG HNB H1 H2 H3 H4 H5 H6 HN HB0 HM HA HB HC; simp_all)
end NameC
end Go.Proofs.YtienlkbokafndaaDoor
