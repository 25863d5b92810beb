/-
  Package frame's Front and All.
-/
import Derived.Test.YtpmbokklpidohaaDoorFrameP2
import Derived.Test.YtpmbokklpidohaaDoorFrameRefAll
namespace Go.Proofs.YtpmbokklpidohaaDoor
open Go.RowKit
namespace FrameC
open FrameM TextR

/-! ### Front -/
def FrontE (l : List UInt8) (w : World) (e : Ending) (w' : World) : Prop :=
  ∃ ev, e = .returned (.tuple #[.string (str (frontP l)), .string (str (frontR l)), ev]) ∧ FErr w w' ev (frontE l) 0 ∧ Below w.heap.size w w'

set_option maxHeartbeats 4000000 in
set_option maxRecDepth 100000 in
theorem front_any (l : List UInt8) (w : World) (hp : l.length ≤ 4611686018427387000) :
    Calls Tryd.prog 14 #[.string (str l)] w (FrontE l w) := by
  have hsz := str_size l
  unfold FrontE
  by_cases h0 : frontE l = 0
  · have hf := front_len l h0
    have hpl := payB_length l (by omega)
    have e1 : frontP l = payB l := if_pos h0
    have e2 : frontR l = restB l := if_pos h0
    rw [h0, e1, e2]
    obtain ⟨n, hn⟩ : ∃ n, n = 12 + (payB l).length := ⟨_, rfl⟩
    have s1 := sl_from l (n : Int) (12 + lenB l) (by omega) (by omega)
    change ∀ w, _ = Result.ok (Value.string (str (restB l))) w at s1
    have hE := Lib.hid (first_ok h0)
    have hS := fun w => size_any (payB l) w (by omega)
    rw [← hn] at hS
    have HS := Lib.hid hS
    clear h0 e1 e2 hf hS hn
    generalize payB l = P at *
    go_enter Tryd.func14, Tryd.ntmps14
    go_wp2_with fail
    refine (first_any l _ hp).mono ?_
    rintro e w1 ⟨he, hb1⟩
    rw [hE.out] at he
    subst he
    have HB1 := Lib.hid hb1; clear hb1
    go_wp2_with fail
    go_quiet (first | (go_at_call 11; exact Calls.quiet_of_same ((HS.out _).mono fun _ _ ⟨he, hw⟩ => ⟨he, hw.symm⟩)))
    go_wp2_with fail
    go_ret3
    exact ⟨_, rfl, FErr.none _ _ _, drewN_below HB1.out _⟩
  · have e1 : frontP l = [] := if_neg h0
    have e2 : frontR l = [] := if_neg h0
    rw [e1, e2]
    have hE := Lib.hid (first_bad (l := l) rfl h0)
    have HZ := Lib.hid h0
    have hcz : ((frontE l : Int) == 0) = false := beq_eq_false_iff_ne.2 (by omega)
    clear h0 e1 e2
    go_enter Tryd.func14, Tryd.ntmps14
    go_wp2_with fail
    refine (first_any l _ hp).mono ?_
    rintro e w1 ⟨he, hb1⟩
    rw [hE.out] at he
    subst he
    have HB1 := Lib.hid hb1; clear hb1
    go_wp2_with fail
    refine (fault_any (frontE l) 0 _).mono ?_
    rintro e w2 ⟨rfl, rfl⟩
    go_wp2_with fail
    go_ret3
    exact ⟨_, rfl, (fault_is (frontE l) HZ.out 0 w1).from_ HB1.out.size, HB1.out.trans ((fault_below (frontE l) 0 w1).mono HB1.out.size)⟩

/-! ### All -/
def AllE (l : List UInt8) (w : World) (e : Ending) (w' : World) : Prop :=
  ∃ v ev, e = .returned (.tuple #[v, .int .i64 ((allB l).2.1 : Nat), ev]) ∧ OwnT w' w.heap.size v ((allB l).1.map str) ∧ FErr w w' ev (allB l).2.2 (allB l).2.1 ∧ Below w.heap.size w w'
theorem first_cases (l : List UInt8) (w : World) (hp : l.length ≤ 4611686018427387000) :
    (frontE l = 0 ∧ Calls Tryd.prog 24 #[.string (str l)] w fun e w' => e = .returned (.tuple #[.string (str (payB l)), .int .i64 0]) ∧ Below w.heap.size w w') ∨
    (∃ c : Nat, frontE l = c ∧ 0 < c ∧ c < 100 ∧ Calls Tryd.prog 24 #[.string (str l)] w fun e w' => e = .returned (.tuple #[.string (str []), .int .i64 (c : Int)]) ∧ Below w.heap.size w w') := by
  rcases fEnd_cases l with ⟨h, -⟩ | ⟨c, h, h1, h2, -⟩
  · exact .inl ⟨h, (first_any l w hp).mono fun _ _ ⟨he, hb⟩ => ⟨he.trans (first_ok h), hb⟩⟩
  · exact .inr ⟨c, h, h1, h2, (first_any l w hp).mono fun _ _ ⟨he, hb⟩ => ⟨he.trans (first_bad h (by omega)), hb⟩⟩

set_option maxHeartbeats 4000000 in
set_option maxRecDepth 100000 in
theorem all_any (l : List UInt8) (w : World) (hp : l.length ≤ 140737488351232) :
    Calls Tryd.prog 16 #[.string (str l)] w (AllE l w) := by
  have hsz := str_size l
  obtain ⟨i0, hi, hz0, hz1, hz2⟩ := info_parts info_text
  unfold AllE
  go_enter Tryd.func16, Tryd.ntmps16
  go_wp2_with fail
  go_loopw [2, 3] (fun vl vu wr => ∃ (u : Nat) (ms : List (List UInt8)), vu = .int .i64 u ∧ Hid (AllAt l u ms) ∧ Hid (OwnT wr w.heap.size vl (ms.map str)) ∧ Hid (Below w.heap.size w wr)) (fun _ vu _ => l.length - (intOf vu).toNat)
  case atStart => exact ⟨0, [], rfl, Lib.hid (AllAt.start l), Lib.hid (OwnT.nil _ _), Lib.hid (Below.refl _ _)⟩
  case round =>
    obtain ⟨u, ms, rfl, HA, HO, HB⟩ := hrel
    rename World => wr
    by_cases hlt : u < l.length
    · have hdec : decide (u < l.length) = true := by simpa using hlt
      have hs := sl_from l u u rfl (by omega)
      have hfew := HA.out.few
      have hlen : (l.drop u).length = l.length - u := List.length_drop
      rcases first_cases (l.drop u) wr (by omega) with ⟨h0, hF⟩ | ⟨c, h0, hc1, hc2, hF⟩
      · have HN := Lib.hid (HA.out.next hlt h0)
        have hfl := front_len _ h0
        have hpl := payB_length (l.drop u) (by omega)
        generalize l.drop u = r at *
        have HF := Lib.hid hF
        clear hF h0
        generalize hP : payB r = P at *
        go_wp2_with fail
        refine HF.out.mono ?_
        rintro e w1 ⟨rfl, hb1⟩
        have HB1 := Lib.hid (HB.out.trans (hb1.mono HB.out.size))
        have HO1 := Lib.hid (below_own HO.out hb1)
        clear hb1 HO HB
        obtain ⟨L, hL⟩ : ∃ L, L = ms.map str := ⟨_, rfl⟩
        have hLl : L.length = ms.length := by rw [hL, List.length_map]
        rw [← hL] at HO1
        have HL := Lib.hid hL; clear hL
        go_wp2_with (at_builtin; refine wpList_one rfl _ _ 38 rfl w.heap.size 9 i0 (.string ⟨#[]⟩) Tryd.underlying38 hi hz0 hz1 hz2 rfl _ _ _ rfl (World.ownsRow.alloc HO1.out _) ⟨w1.heap.size, 0, none⟩ 1 (.string (str P)) rfl (text_cell _ _ _) rfl ?c1 ?c2 ?_)
        case c1 => omega
        case c2 => have := HB1.out.size; simp; omega
        intro v' w2 hown' hg
        have HB2 : Hid (Below w.heap.size w w2) := Lib.hid ((HB1.out.alloc HB1.out.size _).grown hg (by have := HB1.out.size; simp; omega) (own_lt HO1.out))
        have HO2 := Lib.hid (snoc hown' hLl.symm)
        clear hown' hg HO1 HB1
        go_wp2_with fail
        refine (size_any P _ (by omega)).mono ?_
        rintro e w3 ⟨rfl, rfl⟩
        go_wp2_with fail
        go_roundw
        case rel => exact ⟨u + (12 + P.length), ms ++ [P], by go_num, HN, by rw [List.map_append, List.map_singleton, ← HL.out]; exact HO2, HB2⟩
        case measure => simp [intOf]; omega
      · have HD := Lib.hid (HA.out.bad hlt (by omega))
        rw [h0] at HD
        generalize l.drop u = r at *
        have HF := Lib.hid hF
        clear hF h0
        have hcz : ((c : Int) == 0) = false := beq_eq_false_iff_ne.2 (by omega)
        go_wp2_with fail
        refine HF.out.mono ?_
        rintro e w1 ⟨rfl, hb1⟩
        have HB1 := Lib.hid (HB.out.trans (hb1.mono HB.out.size))
        have HO1 := Lib.hid (below_own HO.out hb1)
        clear hb1 HO HB
        go_wp2_with fail
        refine (fault_any c u _).mono ?_
        rintro e w2 ⟨rfl, rfl⟩
        have HB2 := Lib.hid (HB1.out.trans ((fault_below c u w1).mono HB1.out.size))
        have HO2 := Lib.hid (below_own HO1.out (fault_below c u w1))
        have HE2 := Lib.hid ((fault_is c (by omega) u w1).from_ HB1.out.size)
        go_wp2_with fail
        go_ret3
        exact ⟨_, _, by rw [HD.out]; rfl, by rw [HD.out]; exact HO2.out, by rw [HD.out]; exact HE2.out, HB2.out⟩
    · have hdec : decide (u < l.length) = false := by simpa using hlt
      have HD := Lib.hid (HA.out.done hlt)
      go_wp2_with fail
      go_ret3
      exact ⟨_, _, by rw [HD.out]; rfl, by rw [HD.out]; exact HO.out, by rw [HD.out]; exact FErr.none _ _ _, HB.out⟩
end FrameC
end Go.Proofs.YtpmbokklpidohaaDoor
