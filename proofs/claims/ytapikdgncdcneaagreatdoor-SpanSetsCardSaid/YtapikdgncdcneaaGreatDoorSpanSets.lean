/-
  The law SpanSets (layer 8), walked.
-/
import Derived.Test.YtapikdgncdcneaaGreatDoorSpanTwLaw
import Derived.Test.YtapikdgncdcneaaGreatDoorSpanRefV
namespace Go.Proofs.YtapikdgncdcneaaGreatDoor
open Go.RowKit
namespace SpanC
open VerM SpanM VerC StrC TextR SpanArg
set_option linter.unusedSimpArgs false
set_option linter.unusedVariables false

theorem up {a b c : World} (h : Below a.heap.size a b) (g : Below b.heap.size b c) : Below a.heap.size a c := h.trans (g.mono h.size)
/-- the number of an answer, and its stretches -/
def numL (l : List St) : Int := if (formM l).length ≤ 16 then 0 else 80
def cutL (l : List St) : List St := if (formM l).length ≤ 16 then formM l else []
theorem cutL_len (l : List St) : (cutL l).length ≤ 16 := by unfold cutL; split <;> simp_all
/-- an answer, the program's or the document's -/
structure AnsP (l : List St) (w : World) (a : Option Addr) (L : List IvG) : Prop where
  arg : RArg False w a L
  ok : ∀ x ∈ L, rightB x = true
  set : spanM L = cutL l
def AnsPE (l : List St) (n : Int) (w : World) (e : Ending) (w' : World) : Prop := Below w.heap.size w w' ∧ ∃ a cp L, e = .returned (.tuple #[.slice a (List.length L) cp, .int .i64 n]) ∧ AnsP l w' a L
theorem ansP_nil {l : List St} (w : World) (h : ¬ (formM l).length ≤ 16) : AnsP l w none [] := ⟨⟨⟨rfl, fun h => absurd h (by simp)⟩, fun x h => (by cases h)⟩, fun x h => (by cases h), by unfold cutL; rw [if_neg h]; rfl⟩
theorem Set8.ansP {l : List St} {w w' : World} {e : Ending} (h : Set8 False l w e w') : AnsPE l (numL l) w e w' := by
  by_cases hl : (formM l).length ≤ 16
  · obtain ⟨u, R, rfl, hr, hm⟩ := h.2.2 hl
    obtain ⟨a, cp, rfl⟩ := hr.row.value
    exact ⟨h.1, a, cp, R, by unfold numL; rw [if_pos hl], ⟨hr.row.in_, hr.txs⟩, hr.ok, by unfold cutL; rw [if_pos hl, hm]⟩
  · exact ⟨h.1, none, 0, [], by rw [h.2.1 (by omega)]; unfold numL; rw [if_neg hl]; rfl, ansP_nil w' hl⟩
theorem SetE.ansP {l : List St} {w w' : World} {e : Ending} (h : SetE l w e w') : AnsPE l (numL l) w e w' := by
  by_cases hl : (formM l).length ≤ 16
  · obtain ⟨hb, u, L, rfl, ⟨a, cp, rfl, ha⟩, -, hg, hs⟩ := h.ans hl
    exact ⟨hb, a, cp, L, by unfold numL; rw [if_pos hl], ha.rarg, spanB_right hg, by unfold cutL; rw [if_pos hl, hs]⟩
  · exact ⟨h.1, none, 0, [], by rw [h.2.1 (by omega)]; unfold numL; rw [if_neg hl]; rfl, ansP_nil w' hl⟩
theorem AnsPE.congr {l l' : List St} {w w' : World} {e : Ending} (h : AnsPE l (numL l) w e w') (hl : formM l = formM l') : AnsPE l' (numL l') w e w' := by
  obtain ⟨hb, a, cp, L, he, h1, h2, h3⟩ := h
  have e1 : numL l = numL l' := by unfold numL; rw [hl]
  have e2 : cutL l = cutL l' := by unfold cutL; rw [hl]
  rw [e1] at he
  rw [e2] at h3
  exact ⟨hb, a, cp, L, he, h1, h2, h3⟩
theorem same_ans {l : List St} {w1 w2 w : World} {a a' : Option Addr} {L L' : List IvG} {c c' : Nat} (h : AnsP l w1 a L) (h' : AnsP l w2 a' L') (g : Below w1.heap.size w1 w) (g' : Below w2.heap.size w2 w) :
    Calls Tryz.prog 12 #[.slice a L.length c, .slice a' L'.length c'] w fun e w' => e = .returned (.bool true) ∧ Below w.heap.size w w' := by
  have hs : spanM L = spanM L' := h.set.trans h'.set.symm
  have hl : L.length = L'.length := by rw [← spanM_len, hs, spanM_len]
  refine rsameR_yes (K := False) a c L a' c' L' w (h.arg.gr g) (h'.arg.gr g') (by have := cutL_len l; rw [← h.set, spanM_len] at this; omega) hl fun i x y hx hy => ?_
  refine same_of (h.ok x (List.mem_of_getElem? hx)) (h'.ok y (List.mem_of_getElem? hy)) ?_
  have h1 := spanM_at hx
  rw [hs, spanM_at hy] at h1
  exact (Option.some.inj h1).symm
theorem same_twin {w0 w1 w : World} {a a' : Option Addr} {L L' : List IvG} {c c' : Nat} (hA : IArg w0 a L) (hst : L'.map strip = L.map strip) (hlen : L'.length = L.length) (harg : IvArg w1 a' L') (hl : L.length ≤ 1000) (g0 : Below w0.heap.size w0 w) (g : Below w1.heap.size w1 w) :
    Calls Tryz.prog 12 #[.slice a' L.length c', .slice a L.length c] w fun e w' => e = .returned (.bool true) ∧ Below w.heap.size w w' := by
  have h := rsameR_yes (K := False) a' c' L' a c L w (harg.below g).rarg (hA.gr g0).rarg (by omega) hlen (strip_same hst)
  rw [hlen] at h
  exact h
set_option maxHeartbeats 16000000 in
set_option maxRecDepth 100000 in
theorem sets_law (a1 : Option Addr) (c1 : Nat) (L1 : List IvG) (a2 : Option Addr) (c2 : Nat) (L2 : List IvG) (w : World) (hv : Vw w) (hA1 : IArg w a1 L1) (hA2 : IArg w a2 L2) :
    Calls Tryz.prog 5 #[.slice a1 L1.length c1, .slice a2 L2.length c2] w fun e w' => e = .returned (.bool true) ∧ Below w.heap.size w w' := by
  have HV := Lib.hid hv
  by_cases h1 : 40 < L1.length
  · have hi1 : decide (40 < (L1.length : Int)) = true := decide_eq_true (by omega)
    have hn1 : decide (40 < L1.length) = true := decide_eq_true h1
    clear hA1 hA2
    go_enter Tryz.func5, Tryz.ntmps5
    go_wp2_with (go_at_call 6; refine (alive_any _ HV.out).mono ?_; rintro e w' ⟨rfl, hb⟩)
    go_ret
    exact ⟨rfl, hb⟩
  have hi1 : decide (40 < (L1.length : Int)) = false := decide_eq_false (by omega)
  have hn1 : decide (40 < L1.length) = false := decide_eq_false h1
  by_cases h2 : 40 < L2.length
  · have hi2 : decide (40 < (L2.length : Int)) = true := decide_eq_true (by omega)
    have hn2 : decide (40 < L2.length) = true := decide_eq_true h2
    clear hA1 hA2
    go_enter Tryz.func5, Tryz.ntmps5
    go_wp2_with (go_at_call 6; refine (alive_any _ HV.out).mono ?_; rintro e w' ⟨rfl, hb⟩)
    go_ret
    exact ⟨rfl, hb⟩
  have hi2 : decide (40 < (L2.length : Int)) = false := decide_eq_false (by omega)
  have hn2 : decide (40 < L2.length) = false := decide_eq_false h2
  have HT1 := Lib.hid (twin_any a1 c1 L1 w hA1 (by omega))
  have HT2 := Lib.hid (fun w' (g : Below w.heap.size w w') => twin_any a2 c2 L2 w' (hA2.gr g) (by omega))
  have HA1 := Lib.hid hA1
  have HA2 := Lib.hid hA2
  have HL1 : Hid (L1.length ≤ 1000) := Lib.hid (by omega)
  have HL2 : Hid (L2.length ≤ 1000) := Lib.hid (by omega)
  clear h1 h2 hA1 hA2
  go_enter Tryz.func5, Tryz.ntmps5
  go_wp2_with (first
    | (go_at_call 7; (with_reducible refine HT1.out.mono ?_); rintro e w1 ⟨b1, d1, X1, rfl, hl1, hs1, hx1, hb1⟩; have HX1 := Lib.hid hx1; have HS1 := Lib.hid (And.intro hl1 hs1); have HB1 := Lib.hid hb1; clear hl1 hs1 hx1 hb1)
    | (go_at_call 7; (with_reducible refine (HT2.out w1 HB1.out).mono ?_); rintro e w2 ⟨b2, d2, X2, rfl, hl2, hs2, hx2, hb2⟩; have HX2 := Lib.hid hx2; have HS2 := Lib.hid (And.intro hl2 hs2); have U2 : Hid (Below w1.heap.size w1 w2) := Lib.hid hb2; refine Hid.out ?_; clear hl2 hs2 hx2 hb2)
    | fail)
  refine Lib.hid ?_
  have HB2 : Hid (Below w2.heap.size w2 w2) := Lib.hid (Below.refl _ _)
  have HG2 : Hid (∀ w', Below w2.heap.size w2 w' → Below w.heap.size w w') := Lib.hid (fun w' g => up (up HB1.out U2.out) g)
  have HV2 : Hid (∀ w', Below w2.heap.size w2 w' → Vw w') := Lib.hid (fun w' g => HV.out.gr (HG2.out w' g))
  have HI1 : Hid (∀ w', Below w2.heap.size w2 w' → IvArg w' b1 X1) := Lib.hid (fun w' g => HX1.out.below (up U2.out g))
  have HI2 : Hid (∀ w', Below w2.heap.size w2 w' → IvArg w' b2 X2) := Lib.hid (fun w' g => HX2.out.below g)
  have HSX : Hid (∀ w', Below w2.heap.size w2 w' → Calls Tryz.prog 12 #[.slice b1 L1.length d1, .slice a1 L1.length c1] w' fun e w'' => e = .returned (.bool true) ∧ Below w'.heap.size w' w'') := Lib.hid (fun w' g => same_twin HA1.out HS1.out.2 HS1.out.1 HX1.out HL1.out (HG2.out w' g) (up U2.out g))
  have HSY : Hid (∀ w', Below w2.heap.size w2 w' → Calls Tryz.prog 12 #[.slice b2 L2.length d2, .slice a2 L2.length c2] w' fun e w'' => e = .returned (.bool true) ∧ Below w'.heap.size w' w'') := Lib.hid (fun w' g => same_twin HA2.out HS2.out.2 HS2.out.1 HX2.out HL2.out (HG2.out w' g) g)
  have HM1 : Hid (∀ w', Below w2.heap.size w2 w' → Calls Tryz.prog 11 #[.slice a1 L1.length c1] w' fun e w'' => e = .returned (.bool (spanB L1)) ∧ Below w'.heap.size w' w'') := Lib.hid (fun w' g => rMay8_any (K := False) a1 c1 L1 w' (HA1.out.gr (HG2.out w' g)).rarg HL1.out)
  have HM2 : Hid (∀ w', Below w2.heap.size w2 w' → Calls Tryz.prog 11 #[.slice a2 L2.length c2] w' fun e w'' => e = .returned (.bool (spanB L2)) ∧ Below w'.heap.size w' w'') := Lib.hid (fun w' g => rMay8_any (K := False) a2 c2 L2 w' (HA2.out.gr (HG2.out w' g)).rarg HL2.out)
  have HPM0 : Hid (∀ w', Below w2.heap.size w2 w' → Calls Tryz.prog 16 #[.slice b1 L1.length d1, .slice b2 L2.length d2] w' fun e w'' => if spanB L1 && spanB L2 then AnsPE (meets (spanM L1) (spanM L2)) (numL (meets (spanM L1) (spanM L2))) w' e w'' else e = .returned (.tuple #[.slice none 0 0, .int .i64 80]) ∧ Below w'.heap.size w' w'') := Lib.hid (fun w' g => by
    have h := pMeet_any b1 d1 X1 b2 d2 X2 w' (HI1.out w' g) (HI2.out w' g)
    rw [HS1.out.1, HS2.out.1] at h
    refine h.mono fun e w'' h => ?_
    unfold MeetE at h
    rw [strip_span HS1.out.2, strip_span HS2.out.2, strip_spanM HS1.out.2, strip_spanM HS2.out.2] at h
    split at h
    · rename_i hc; rw [if_pos hc]; exact h.ansP
    · rename_i hc; rw [if_neg hc]; exact ⟨h.2, h.1⟩)
  have HPJ0 : Hid (∀ w', Below w2.heap.size w2 w' → Calls Tryz.prog 17 #[.slice b1 L1.length d1, .slice b2 L2.length d2] w' fun e w'' => if spanB L1 && spanB L2 then AnsPE (spanM L1 ++ spanM L2) (numL (spanM L1 ++ spanM L2)) w' e w'' else e = .returned (.tuple #[.slice none 0 0, .int .i64 80]) ∧ Below w'.heap.size w' w'') := Lib.hid (fun w' g => by
    have h := pJoin_any b1 d1 X1 b2 d2 X2 w' (HI1.out w' g) (HI2.out w' g)
    rw [HS1.out.1, HS2.out.1] at h
    refine h.mono fun e w'' h => ?_
    unfold JoinE at h
    rw [strip_span HS1.out.2, strip_span HS2.out.2, strip_spanM HS1.out.2, strip_spanM HS2.out.2] at h
    split at h
    · rename_i hc; rw [if_pos hc]; exact h.ansP
    · rename_i hc; rw [if_neg hc]; exact ⟨h.2, h.1⟩)
  have HPN0 : Hid (∀ w', Below w2.heap.size w2 w' → Calls Tryz.prog 18 #[.slice b1 L1.length d1] w' fun e w'' => if spanB L1 then AnsPE (notM (spanM L1)) (numL (notM (spanM L1))) w' e w'' else e = .returned (.tuple #[.slice none 0 0, .int .i64 80]) ∧ Below w'.heap.size w' w'') := Lib.hid (fun w' g => by
    have h := pNot_any b1 d1 X1 w' (HI1.out w' g)
    rw [HS1.out.1] at h
    refine h.mono fun e w'' h => ?_
    unfold NotE at h
    rw [strip_span HS1.out.2, strip_spanM HS1.out.2] at h
    split at h
    · rename_i hc; rw [if_pos hc]; exact h.ansP
    · rename_i hc; rw [if_neg hc]; exact ⟨h.2, h.1⟩)
  have HRN0 : Hid (spanB L1 = true → ∀ w', Below w2.heap.size w2 w' → Calls Tryz.prog 21 #[.slice a1 L1.length c1] w' (AnsPE (notM (spanM L1)) (numL (notM (spanM L1))) w')) := Lib.hid (fun hs w' g =>
    (rNot_any (K := False) a1 c1 L1 w' (HA1.out.gr (HG2.out w' g)).rarg (spanB_right hs) (spanB_can hs) (spanB_len hs)).mono fun e w'' h => (Set8.ansP h).congr (notD_form (spanB_can hs) (spanB_right hs)))
  have HRM0 : Hid (spanB L1 = true → spanB L2 = true → ∀ w', Below w2.heap.size w2 w' → Calls Tryz.prog 19 #[.slice a1 L1.length c1, .slice a2 L2.length c2] w' (AnsPE (meets (spanM L1) (spanM L2)) (numL (meets (spanM L1) (spanM L2))) w')) := Lib.hid (fun hs ht w' g =>
    (rMeet8_any (K := False) a1 c1 L1 a2 c2 L2 w' (HA1.out.gr (HG2.out w' g)).rarg (HA2.out.gr (HG2.out w' g)).rarg (spanB_right hs) (spanB_right ht) (by have := spanB_len hs; omega) (by have := spanB_len ht; omega)).mono fun e w'' h => Set8.ansP h)
  have HRJ0 : Hid (spanB L1 = true → spanB L2 = true → ∀ w', Below w2.heap.size w2 w' → Calls Tryz.prog 20 #[.slice a1 L1.length c1, .slice a2 L2.length c2] w' (AnsPE (spanM L1 ++ spanM L2) (numL (spanM L1 ++ spanM L2)) w')) := Lib.hid (fun hs ht w' g =>
    (rJoin8_any (K := False) a1 c1 L1 a2 c2 L2 w' (HA1.out.gr (HG2.out w' g)).rarg (HA2.out.gr (HG2.out w' g)).rarg (spanB_right hs) (spanB_right ht) (by have := spanB_len hs; omega) (by have := spanB_len ht; omega)).mono fun e w'' h => Set8.ansP h)
  clear HX1 HX2 HS1 HS2 HT1 HT2 HI1 HI2 HL1 HL2 HA1 HA2 HB1 hi1 hi2 hn1 hn2
  rcases Bool.eq_false_or_eq_true (spanB L1) with hs | hs
  rotate_left
  · -- the one is none
    rw [hs] at HM1 HPM0 HPJ0 HPN0
    have HPM : Hid _ := HPM0
    have HPJ : Hid _ := HPJ0
    have HPN : Hid _ := HPN0
    simp only [Bool.false_and, Bool.false_eq_true, if_false] at HPM HPJ HPN
    clear HPM0 HPJ0 HPN0 HRN0 HRM0 HRJ0 HM2 hs
    go_wp2_with (first
      | (go_at_call 16; (with_reducible refine (HPM.out w2 HB2.out).mono ?_); rintro e w3 ⟨rfl, hb⟩; have U3 : Hid (Below w2.heap.size w2 w3) := Lib.hid hb; have HB3 : Hid (Below w2.heap.size w2 w3) := Lib.hid (HB2.out.trans (hb.mono HB2.out.size)); clear hb)
      | (go_at_call 17; (with_reducible refine (HPJ.out w3 HB3.out).mono ?_); rintro e w4 ⟨rfl, hb⟩; have U4 : Hid (Below w3.heap.size w3 w4) := Lib.hid hb; have HB4 : Hid (Below w2.heap.size w2 w4) := Lib.hid (HB3.out.trans (hb.mono HB3.out.size)); clear hb)
      | (go_at_call 18; (with_reducible refine (HPN.out w4 HB4.out).mono ?_); rintro e w5 ⟨rfl, hb⟩; have U5 : Hid (Below w4.heap.size w4 w5) := Lib.hid hb; have HB5 : Hid (Below w2.heap.size w2 w5) := Lib.hid (HB4.out.trans (hb.mono HB4.out.size)); clear hb)
      | (go_at_call 11; (with_reducible refine (HM1.out w5 HB5.out).mono ?_); rintro e w6 ⟨rfl, hb⟩; have U6 : Hid (Below w5.heap.size w5 w6) := Lib.hid hb; have HB6 : Hid (Below w2.heap.size w2 w6) := Lib.hid (HB5.out.trans (hb.mono HB5.out.size)); clear hb)
      | (go_at_call 11; (with_reducible refine (HM1.out w6 HB6.out).mono ?_); rintro e w7 ⟨rfl, hb⟩; have U7 : Hid (Below w6.heap.size w6 w7) := Lib.hid hb; have HB7 : Hid (Below w2.heap.size w2 w7) := Lib.hid (HB6.out.trans (hb.mono HB6.out.size)); clear hb)
      | (go_at_call 12; (with_reducible refine (HSX.out w7 HB7.out).mono ?_); rintro e w8 ⟨rfl, hb⟩; have U8 : Hid (Below w7.heap.size w7 w8) := Lib.hid hb; have HB8 : Hid (Below w2.heap.size w2 w8) := Lib.hid (HB7.out.trans (hb.mono HB7.out.size)); clear hb)
      | (go_at_call 12; (with_reducible refine (HSY.out w8 HB8.out).mono ?_); rintro e w9 ⟨rfl, hb⟩; have U9 : Hid (Below w8.heap.size w8 w9) := Lib.hid hb; have HB9 : Hid (Below w2.heap.size w2 w9) := Lib.hid (HB8.out.trans (hb.mono HB8.out.size)); clear hb)
      | (go_at_call 6; (with_reducible refine (alive_any _ (HV2.out _ HB9.out)).mono ?_); rintro e w99 ⟨rfl, hb⟩; have HB99 : Hid (Below w2.heap.size w2 w99) := Lib.hid (HB9.out.trans (hb.mono HB9.out.size)); clear hb)
      | fail)
    go_ret
    exact ⟨rfl, HG2.out _ HB99.out⟩
  rcases Bool.eq_false_or_eq_true (spanB L2) with ht | ht
  rotate_left
  · -- the other is none
    have HRN := Lib.hid (HRN0.out hs)
    rw [hs, ht] at HPM0 HPJ0
    rw [hs] at HM1 HPN0
    rw [ht] at HM2
    have HPM : Hid _ := HPM0
    have HPJ : Hid _ := HPJ0
    have HPN : Hid _ := HPN0
    simp only [Bool.true_and, Bool.false_eq_true, if_false, if_true] at HPM HPJ HPN
    clear HPM0 HPJ0 HPN0 HRN0 HRM0 HRJ0 hs ht
    generalize numL (notM (spanM L1)) = nn at *
    have hnn : (nn == nn) = true := by simp
    go_wp2_with (first
      | (go_at_call 16; (with_reducible refine (HPM.out w2 HB2.out).mono ?_); rintro e w3 ⟨rfl, hb⟩; have U3 : Hid (Below w2.heap.size w2 w3) := Lib.hid hb; have HB3 : Hid (Below w2.heap.size w2 w3) := Lib.hid (HB2.out.trans (hb.mono HB2.out.size)); clear hb)
      | (go_at_call 17; (with_reducible refine (HPJ.out w3 HB3.out).mono ?_); rintro e w4 ⟨rfl, hb⟩; have U4 : Hid (Below w3.heap.size w3 w4) := Lib.hid hb; have HB4 : Hid (Below w2.heap.size w2 w4) := Lib.hid (HB3.out.trans (hb.mono HB3.out.size)); clear hb)
      | (go_at_call 18; (with_reducible refine (HPN.out w4 HB4.out).mono ?_); rintro e w5 ⟨hb, an, cn, Ln, rfl, hm⟩; have HnA := Lib.hid hm; have U5 : Hid (Below w4.heap.size w4 w5) := Lib.hid hb; have HB5 : Hid (Below w2.heap.size w2 w5) := Lib.hid (HB4.out.trans (hb.mono HB4.out.size)); clear hb hm)
      | (go_at_call 11; (with_reducible refine (HM1.out w5 HB5.out).mono ?_); rintro e w6 ⟨rfl, hb⟩; have U6 : Hid (Below w5.heap.size w5 w6) := Lib.hid hb; have HB6 : Hid (Below w2.heap.size w2 w6) := Lib.hid (HB5.out.trans (hb.mono HB5.out.size)); clear hb)
      | (go_at_call 11; (with_reducible refine (HM2.out w6 HB6.out).mono ?_); rintro e w7 ⟨rfl, hb⟩; have U7 : Hid (Below w6.heap.size w6 w7) := Lib.hid hb; have HB7 : Hid (Below w2.heap.size w2 w7) := Lib.hid (HB6.out.trans (hb.mono HB6.out.size)); clear hb)
      | (go_at_call 11; (with_reducible refine (HM1.out w7 HB7.out).mono ?_); rintro e w8 ⟨rfl, hb⟩; have U8 : Hid (Below w7.heap.size w7 w8) := Lib.hid hb; have HB8 : Hid (Below w2.heap.size w2 w8) := Lib.hid (HB7.out.trans (hb.mono HB7.out.size)); clear hb)
      | (go_at_call 21; (with_reducible refine (HRN.out w8 HB8.out).mono ?_); rintro e w9 ⟨hb, ao, co, Lo, rfl, hm⟩; have HoA := Lib.hid hm; have U9 : Hid (Below w8.heap.size w8 w9) := Lib.hid hb; have HB9 : Hid (Below w2.heap.size w2 w9) := Lib.hid (HB8.out.trans (hb.mono HB8.out.size)); clear hb hm)
      | (go_at_call 12; (with_reducible refine (same_ans HnA.out HoA.out (up (up (up U6.out U7.out) U8.out) U9.out) (Below.refl _ _)).mono ?_); rintro e w10 ⟨rfl, hb⟩; have U10 : Hid (Below w9.heap.size w9 w10) := Lib.hid hb; have HB10 : Hid (Below w2.heap.size w2 w10) := Lib.hid (HB9.out.trans (hb.mono HB9.out.size)); clear hb)
      | (go_at_call 12; (with_reducible refine (HSX.out w10 HB10.out).mono ?_); rintro e w11 ⟨rfl, hb⟩; have U11 : Hid (Below w10.heap.size w10 w11) := Lib.hid hb; have HB11 : Hid (Below w2.heap.size w2 w11) := Lib.hid (HB10.out.trans (hb.mono HB10.out.size)); clear hb)
      | (go_at_call 12; (with_reducible refine (HSY.out w11 HB11.out).mono ?_); rintro e w12 ⟨rfl, hb⟩; have U12 : Hid (Below w11.heap.size w11 w12) := Lib.hid hb; have HB12 : Hid (Below w2.heap.size w2 w12) := Lib.hid (HB11.out.trans (hb.mono HB11.out.size)); clear hb)
      | (go_at_call 6; (with_reducible refine (alive_any _ (HV2.out _ HB12.out)).mono ?_); rintro e w99 ⟨rfl, hb⟩; have HB99 : Hid (Below w2.heap.size w2 w99) := Lib.hid (HB12.out.trans (hb.mono HB12.out.size)); clear hb)
      | fail)
    go_ret
    exact ⟨rfl, HG2.out _ HB99.out⟩
  · -- both
    have HRN := Lib.hid (HRN0.out hs)
    have HRM := Lib.hid (HRM0.out hs ht)
    have HRJ := Lib.hid (HRJ0.out hs ht)
    rw [hs, ht] at HPM0 HPJ0
    rw [hs] at HM1 HPN0
    rw [ht] at HM2
    have HPM : Hid _ := HPM0
    have HPJ : Hid _ := HPJ0
    have HPN : Hid _ := HPN0
    simp only [Bool.true_and, if_true] at HPM HPJ HPN
    clear HPM0 HPJ0 HPN0 HRN0 HRM0 HRJ0 hs ht
    generalize numL (notM (spanM L1)) = nn at *
    generalize numL (meets (spanM L1) (spanM L2)) = nm at *
    generalize numL (spanM L1 ++ spanM L2) = nj at *
    have hnn : (nn == nn) = true := by simp
    have hnm : (nm == nm) = true := by simp
    have hnj : (nj == nj) = true := by simp
    go_wp2_with (first
      | (go_at_call 16; (with_reducible refine (HPM.out w2 HB2.out).mono ?_); rintro e w3 ⟨hb, am, cm, Lm, rfl, hm⟩; have HmA := Lib.hid hm; have U3 : Hid (Below w2.heap.size w2 w3) := Lib.hid hb; have HB3 : Hid (Below w2.heap.size w2 w3) := Lib.hid (HB2.out.trans (hb.mono HB2.out.size)); clear hb hm)
      | (go_at_call 17; (with_reducible refine (HPJ.out w3 HB3.out).mono ?_); rintro e w4 ⟨hb, aj, cj, Lj, rfl, hm⟩; have HjA := Lib.hid hm; have U4 : Hid (Below w3.heap.size w3 w4) := Lib.hid hb; have HB4 : Hid (Below w2.heap.size w2 w4) := Lib.hid (HB3.out.trans (hb.mono HB3.out.size)); clear hb hm)
      | (go_at_call 18; (with_reducible refine (HPN.out w4 HB4.out).mono ?_); rintro e w5 ⟨hb, an, cn, Ln, rfl, hm⟩; have HnA := Lib.hid hm; have U5 : Hid (Below w4.heap.size w4 w5) := Lib.hid hb; have HB5 : Hid (Below w2.heap.size w2 w5) := Lib.hid (HB4.out.trans (hb.mono HB4.out.size)); clear hb hm)
      | (go_at_call 11; (with_reducible refine (HM1.out w5 HB5.out).mono ?_); rintro e w6 ⟨rfl, hb⟩; have U6 : Hid (Below w5.heap.size w5 w6) := Lib.hid hb; have HB6 : Hid (Below w2.heap.size w2 w6) := Lib.hid (HB5.out.trans (hb.mono HB5.out.size)); clear hb)
      | (go_at_call 11; (with_reducible refine (HM2.out w6 HB6.out).mono ?_); rintro e w7 ⟨rfl, hb⟩; have U7 : Hid (Below w6.heap.size w6 w7) := Lib.hid hb; have HB7 : Hid (Below w2.heap.size w2 w7) := Lib.hid (HB6.out.trans (hb.mono HB6.out.size)); clear hb)
      | (go_at_call 19; (with_reducible refine (HRM.out w7 HB7.out).mono ?_); rintro e w8 ⟨hb, ap, cp, Lp, rfl, hm⟩; have HpA := Lib.hid hm; have U8 : Hid (Below w7.heap.size w7 w8) := Lib.hid hb; have HB8 : Hid (Below w2.heap.size w2 w8) := Lib.hid (HB7.out.trans (hb.mono HB7.out.size)); clear hb hm)
      | (go_at_call 20; (with_reducible refine (HRJ.out w8 HB8.out).mono ?_); rintro e w9 ⟨hb, aq, cq, Lq, rfl, hm⟩; have HqA := Lib.hid hm; have U9 : Hid (Below w8.heap.size w8 w9) := Lib.hid hb; have HB9 : Hid (Below w2.heap.size w2 w9) := Lib.hid (HB8.out.trans (hb.mono HB8.out.size)); clear hb hm)
      | (go_at_call 12; (with_reducible refine (same_ans HmA.out HpA.out (up (up (up (up (up U4.out U5.out) U6.out) U7.out) U8.out) U9.out) U9.out).mono ?_); rintro e w10 ⟨rfl, hb⟩; have U10 : Hid (Below w9.heap.size w9 w10) := Lib.hid hb; have HB10 : Hid (Below w2.heap.size w2 w10) := Lib.hid (HB9.out.trans (hb.mono HB9.out.size)); clear hb)
      | (go_at_call 12; (with_reducible refine (same_ans HjA.out HqA.out (up (up (up (up (up U5.out U6.out) U7.out) U8.out) U9.out) U10.out) U10.out).mono ?_); rintro e w11 ⟨rfl, hb⟩; have U11 : Hid (Below w10.heap.size w10 w11) := Lib.hid hb; have HB11 : Hid (Below w2.heap.size w2 w11) := Lib.hid (HB10.out.trans (hb.mono HB10.out.size)); clear hb)
      | (go_at_call 11; (with_reducible refine (HM1.out w11 HB11.out).mono ?_); rintro e w12 ⟨rfl, hb⟩; have U12 : Hid (Below w11.heap.size w11 w12) := Lib.hid hb; have HB12 : Hid (Below w2.heap.size w2 w12) := Lib.hid (HB11.out.trans (hb.mono HB11.out.size)); clear hb)
      | (go_at_call 21; (with_reducible refine (HRN.out w12 HB12.out).mono ?_); rintro e w13 ⟨hb, ao, co, Lo, rfl, hm⟩; have HoA := Lib.hid hm; have U13 : Hid (Below w12.heap.size w12 w13) := Lib.hid hb; have HB13 : Hid (Below w2.heap.size w2 w13) := Lib.hid (HB12.out.trans (hb.mono HB12.out.size)); clear hb hm)
      | (go_at_call 12; (with_reducible refine (same_ans HnA.out HoA.out (up (up (up (up (up (up (up U6.out U7.out) U8.out) U9.out) U10.out) U11.out) U12.out) U13.out) (Below.refl _ _)).mono ?_); rintro e w14 ⟨rfl, hb⟩; have U14 : Hid (Below w13.heap.size w13 w14) := Lib.hid hb; have HB14 : Hid (Below w2.heap.size w2 w14) := Lib.hid (HB13.out.trans (hb.mono HB13.out.size)); clear hb)
      | (go_at_call 12; (with_reducible refine (HSX.out w14 HB14.out).mono ?_); rintro e w15 ⟨rfl, hb⟩; have U15 : Hid (Below w14.heap.size w14 w15) := Lib.hid hb; have HB15 : Hid (Below w2.heap.size w2 w15) := Lib.hid (HB14.out.trans (hb.mono HB14.out.size)); clear hb)
      | (go_at_call 12; (with_reducible refine (HSY.out w15 HB15.out).mono ?_); rintro e w16 ⟨rfl, hb⟩; have U16 : Hid (Below w15.heap.size w15 w16) := Lib.hid hb; have HB16 : Hid (Below w2.heap.size w2 w16) := Lib.hid (HB15.out.trans (hb.mono HB15.out.size)); clear hb)
      | (go_at_call 6; (with_reducible refine (alive_any _ (HV2.out _ HB16.out)).mono ?_); rintro e w99 ⟨rfl, hb⟩; have HB99 : Hid (Below w2.heap.size w2 w99) := Lib.hid (HB16.out.trans (hb.mono HB16.out.size)); clear hb)
      | fail)
    go_ret
    exact ⟨rfl, HG2.out _ HB99.out⟩
end SpanC
end Go.Proofs.YtapikdgncdcneaaGreatDoor
