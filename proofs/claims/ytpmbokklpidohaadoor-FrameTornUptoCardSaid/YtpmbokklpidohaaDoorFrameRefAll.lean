/-
  The document's own All of layer 4: the payloads of the records from the front on, how many bytes those have, why it goes no further.
-/
import Derived.Test.YtpmbokklpidohaaDoorFrameRef
import Derived.Test.YtpmbokklpidohaaDoorTextWide
namespace Go.Proofs.YtpmbokklpidohaaDoor
open Go.RowKit
namespace FrameC
open FrameM TextR

theorem fEnd_cases (l : List UInt8) : (frontE l = 0 ∧ fEnd l = .returned (.tuple #[.string (str (payB l)), .string (str (restB l)), .int .i64 0])) ∨
    (∃ c : Nat, frontE l = c ∧ 0 < c ∧ c < 100 ∧ fEnd l = .returned (.tuple #[.string (str []), .string (str []), .int .i64 (c : Int)])) := by
  by_cases h : frontE l = 0
  · exact .inl ⟨h, fEnd_ok l h⟩
  · refine .inr ⟨frontE l, rfl, by omega, ?_, fEnd_bad l _ rfl h⟩
    unfold frontE
    repeat' split
    all_goals omega

theorem below_own {w w' : World} {B : Nat} {v : Value} {L : List ByteArray} (h : OwnT w B v L) (hb : Below w.heap.size w w') : OwnT w' B v L :=
  World.ownsRow.kept h (row := none) ⟨hb.os, hb.tape, hb.output, hb.size, fun k hk _ => hb.block k hk⟩ (by cases v.ownBlock <;> simp)
theorem own_lt {w : World} {B : Nat} {v : Value} {L : List ByteArray} (h : OwnT w B v L) : ∀ k, v.ownBlock = some k → B ≤ k := fun k hk => (World.ownsRow.lt h k hk).1
def aEnd (v : Value) (u c : Nat) : Ending := .returned (.tuple #[v, .int .i64 (u : Int), .int .i64 (c : Int)])
theorem snoc_str {w : World} {B n : Nat} {v : Value} {ms : List (List UInt8)} {m : List UInt8} (h : w.ownsRow B 9 1 v (n + 1) ((ms.map str).map Value.string ++ [Value.string (str m)])) (hn : n = (ms.map str).length) : OwnT w B v ((ms ++ [m]).map str) := by
  rw [List.map_append, List.map_singleton]
  exact snoc h hn

set_option maxHeartbeats 4000000 in
set_option maxRecDepth 100000 in
theorem rall_any (l : List UInt8) (w : World) (hp : l.length ≤ 140737488351232) :
    Calls Tryd.prog 17 #[.string (str l)] w fun e w' => ∃ v, e = aEnd v (allB l).2.1 (allB l).2.2 ∧ OwnT w' w.heap.size v ((allB l).1.map str) ∧ Below w.heap.size w w' := by
  have hsz := str_size l
  obtain ⟨i0, hi, hz0, hz1, hz2⟩ := info_parts info_text
  go_enter Tryd.func17, Tryd.ntmps17
  go_wp2_with fail
  go_loopw [5, 6] (fun vl vu wr => ∃ (u : Nat) (ms : List (List UInt8)), vu = .int .i64 u ∧ Hid (AllAt l u ms) ∧ Hid (OwnT wr w.heap.size vl (ms.map str)) ∧ Hid (Below w.heap.size w wr)) (fun _ vu _ => l.length - (intOf vu).toNat)
  case atStart => exact ⟨0, [], rfl, Lib.hid (AllAt.start l), Lib.hid (OwnT.nil _ _), Lib.hid (Below.refl _ _)⟩
  case round =>
    obtain ⟨u, ms, rfl, HA, HO, HB⟩ := hrel
    rename World => wr
    by_cases hlt : u < l.length
    · have hdec : decide (u < l.length) = true := by simpa using hlt
      have hs := sl_from l u u rfl (by omega)
      have hfew := HA.out.few
      have hlen : (l.drop u).length = l.length - u := List.length_drop
      rcases fEnd_cases (l.drop u) with ⟨h0, hE⟩ | ⟨c, h0, hc1, hc2, hE⟩
      · have HN := Lib.hid (HA.out.next hlt h0)
        have hfl := front_len _ h0
        have hpl := payB_length (l.drop u) (by omega)
        generalize l.drop u = r at *
        have HE := Lib.hid hE
        clear hE h0
        generalize hP : payB r = P at *
        go_wp2_with fail
        refine (rfront_any r _ (by omega)).mono ?_
        rintro e w1 ⟨he, hb1⟩
        rw [HE.out] at he
        subst he
        have HB1 := Lib.hid (HB.out.trans (hb1.mono HB.out.size))
        have HO1 := Lib.hid (below_own HO.out hb1)
        clear hb1 HO HB
        obtain ⟨L, hL⟩ : ∃ L, L = ms.map str := ⟨_, rfl⟩
        have hLl : L.length = ms.length := by rw [hL, List.length_map]
        rw [← hL] at HO1
        have HL := Lib.hid hL; clear hL
        go_wp2_with (at_builtin; refine wpList_one rfl _ _ 38 rfl w.heap.size 9 i0 (.string ⟨#[]⟩) Tryd.underlying38 hi hz0 hz1 hz2 rfl _ _ _ rfl (World.ownsRow.alloc HO1.out _) ⟨w1.heap.size, 0, none⟩ 1 (.string (str P)) rfl (text_cell _ _ _) rfl ?c1 ?c2 ?_)
        case c1 => omega
        case c2 => have := HB1.out.size; simp; omega
        intro v' w2 hown' hg
        have HB2 : Hid (Below w.heap.size w w2) := Lib.hid ((HB1.out.alloc HB1.out.size _).grown hg (by have := HB1.out.size; simp; omega) (own_lt HO1.out))
        have HO2 := Lib.hid (snoc hown' hLl.symm)
        clear hown' hg HO1 HB1
        go_wp2_with fail
        refine (rsize_any P _ (by omega)).mono ?_
        rintro e w3 ⟨rfl, rfl⟩
        go_wp2_with fail
        go_roundw
        case rel => exact ⟨u + (12 + P.length), ms ++ [P], by go_num, HN, by rw [List.map_append, List.map_singleton, ← HL.out]; exact HO2, HB2⟩
        case measure => simp [intOf]; omega
      · have HD := Lib.hid (HA.out.bad hlt (by omega))
        rw [h0] at HD
        generalize l.drop u = r at *
        have HE := Lib.hid hE
        clear hE h0
        have hcz : ((c : Int) == 0) = false := beq_eq_false_iff_ne.2 (by omega)
        go_wp2_with fail
        refine (rfront_any r _ (by omega)).mono ?_
        rintro e w1 ⟨he, hb1⟩
        rw [HE.out] at he
        subst he
        have HB1 := Lib.hid (HB.out.trans (hb1.mono HB.out.size))
        have HO1 := Lib.hid (below_own HO.out hb1)
        clear hb1 HO HB
        go_wp2_with fail
        go_ret3
        exact ⟨_, by rw [HD.out]; rfl, by rw [HD.out]; exact HO1.out, HB1.out⟩
    · have hdec : decide (u < l.length) = false := by simpa using hlt
      have HD := Lib.hid (HA.out.done hlt)
      go_wp2_with fail
      go_ret3
      exact ⟨_, by rw [HD.out]; rfl, by rw [HD.out]; exact HO.out, HB.out⟩
end FrameC
end Go.Proofs.YtpmbokklpidohaaDoor
