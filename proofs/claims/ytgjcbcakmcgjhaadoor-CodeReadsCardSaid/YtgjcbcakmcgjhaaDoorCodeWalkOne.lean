/-
  The statement 'what is read is written as those bytes', walked (wip/gen/one.py writes this text).
-/
import Derived.Test.YtgjcbcakmcgjhaaDoorCodeWalkW
import Derived.Test.YtgjcbcakmcgjhaaDoorCodeMath3
namespace Go.Proofs.YtgjcbcakmcgjhaaDoor
open Go.RowKit
namespace CodeC
open CodeM ErrC

theorem own_open {w : World} {B : Nat} {v : Value} {L : List ByteArray} (h : OwnT w B v L) : (v = .slice none 0 0 ∧ L = []) ∨ ∃ g cp, v = .slice (some ⟨g, 0, none⟩) L.length cp ∧ B ≤ g ∧ g < w.heap.size ∧ L.length ≤ maxLen ∧ ∀ i, i < L.length → w.cell? ⟨g, 0 + i, none⟩ = some (.string (L.getD i ByteArray.empty)) := by
  have h' : w.ownsRow B 9 1 v L.length (L.map Value.string) := h
  have hcs : ∀ g, v.ownBlock = some g → _ := fun g hg => h'.cells hg
  have hlt := h'.lt
  obtain ⟨_, ⟨rfl, h0⟩ | ⟨g, cp, cur, rfl, hg0, hblk, hle, hcm, hsz, htk⟩⟩ := h'
  · exact Or.inl ⟨rfl, List.eq_nil_of_length_eq_zero h0⟩
  · refine Or.inr ⟨g, cp, rfl, hg0, (hlt g rfl).2, Nat.le_trans hle hcm, fun i hi => ?_⟩
    rw [← Go.WideShapes.add_plain]
    exact hcs g rfl i _ (by simp [hi])
theorem ctexts_own {w : World} {B : Nat} {v : Value} {L : List ByteArray} (h : OwnT w B v L) (hl : (textsB L).length ≤ 140737488353000) :
    Calls Tryd.prog 14 #[v] w fun e w' => e = .returned (.string ⟨(listB L).toArray⟩) ∧ Below w.heap.size w w' := by
  rcases own_open h with ⟨rfl, rfl⟩ | ⟨g, cp, rfl, hg, hlt, hm, hc⟩
  · exact ctexts_none none 0 w
  · have := ctexts_some g 0 L.length cp L w (Nat.le_refl _) (by unfold maxLen at hm; omega) hlt hc (by rw [List.take_length]; exact hl)
    rw [List.take_length] at this
    exact this

theorem cut_at (s : ByteArray) (q : Nat) (h : q ≤ s.size) (w : World) : (Instr.slice 9 (.string s) none (some (.int .i64 (q : Int))) none).run Tryd.prog w = .ok (.string (s.extract 0 q)) w := by
  rw [run_slice_string_h w 9 s Tryd.underlying9 .i64 (q : Int) (by omega) (by omega)]
  rfl
theorem front_is (s : ByteArray) (q : Nat) (l : List UInt8) (h : l = (s.data.toList.drop 0).take (q - 0)) : (⟨l.toArray⟩ : ByteArray) = s.extract 0 q := by
  subst h
  apply ByteArray.ext
  apply Array.toList_inj.1
  rw [Lib.extract_data]
theorem len_le (s : ByteArray) (q : Nat) (l : List UInt8) (h : l = (s.data.toList.drop 0).take (q - 0)) : l.length ≤ s.size := by
  subst h
  have e : s.data.toList.length = s.size := by simp
  rw [List.length_take, List.length_drop, e]; omega
theorem ev_err {w w' : World} {ev : Value} {c : Nat} {a : Int} (h : IsErr w w' ev c a) (h0 : c ≠ 0) : ∃ f, ev = .iface 88 (.pointer (some ⟨f, 0, none⟩)) := by
  rcases h with ⟨h, -⟩ | ⟨-, f, h, -⟩
  · exact absurd h h0
  · exact ⟨f, h⟩
theorem ev_ok {w w' : World} {ev : Value} {a : Int} (h : IsErr w w' ev 0 a) : ev = .nilIface := by
  rcases h with ⟨-, h⟩ | ⟨h, -⟩
  · exact h
  · exact absurd rfl h

set_option maxHeartbeats 40000000 in
theorem one_any (s : ByteArray) (w : World) (hs : s.size ≤ 140737488351232) (hv : Vars w) :
    Calls Tryd.prog 6 #[.string s] w fun e w' => e = .returned (.bool true) ∧ Below w.heap.size w w' := by
  have HV := Lib.hid hv; clear hv
  have cA := uRes_cases 18446744073709551615 0 s (Nat.zero_le _)
  have cB := tRes_cases 1073741824 0 s (Nat.zero_le _)
  have cC := tsRes_cases 4096 1073741824 0 s (Nat.zero_le _)
  have HS := Lib.hid hs; clear hs
  have hcap : cap 1073741824 = 1073741824 := rfl
  have hcap2 : cap 4096 = 4096 := rfl
  have HC1 := Lib.hid hcap; clear hcap
  have HC2 := Lib.hid hcap2; clear hcap2
  go_enter Tryd.func6, Tryd.ntmps6
  rcases cA with ⟨e0, he0, -, hu⟩ | ⟨v, d, hvm0, hd, hu⟩
  · go_wp2_with fail
    refine (new_any s _).mono ?_
    rintro e w1 ⟨rfl, hw⟩
    have HR1 := Lib.hid (new_is s w)
    rw [← hw] at HR1
    have HB1 : Hid (Below w.heap.size w w1) := Lib.hid (by rw [hw]; exact (Below.refl _ _).alloc (Nat.le_refl _) _)
    clear hw
    go_wp2_with fail
    refine (ruint_is w.heap.size 0 s 0 18446744073709551615 _ (Nat.zero_le _) (by have := HS.out; omega) (by decide) HR1.out).mono ?_
    rintro e w2 ⟨ev, rfl, he, hr2, hb⟩
    have HB2 := Lib.hid (HB1.out.trans (hb.below (Nat.le_refl _) HB1.out.size)); clear hb
    rw [hu] at he hr2 ⊢
    obtain ⟨f, rfl⟩ := ev_err he he0
    clear he hr2 hu
    have HB3 := HB2
    obtain ⟨w3, hw3⟩ : ∃ x : World, x = w2 := ⟨_, rfl⟩
    subst hw3
    rcases cB with ⟨e2, he20, -, hu2⟩ | ⟨a2, q2, -, hq2, -, hu2⟩
    · go_wp2_with fail
      refine (new_any s _).mono ?_
      rintro e w4 ⟨rfl, hw⟩
      have HR4 := Lib.hid (new_is s w3)
      rw [← hw] at HR4
      have HB4 : Hid (Below w.heap.size w w4) := Lib.hid (by rw [hw]; exact (HB3.out).alloc (HB3.out.size) _)
      clear hw
      go_wp2_with fail
      refine (rtext_is w3.heap.size 0 s 0 1073741824 _ (Nat.zero_le _) (by have := HS.out; omega) (by decide) HR4.out).mono ?_
      rintro e w5 ⟨ev, rfl, he, hr5, hb⟩
      have HB5 := Lib.hid (HB4.out.trans (hb.below HB3.out.size HB4.out.size)); clear hb
      rw [HC1.out, hu2] at he hr5 ⊢
      obtain ⟨f2, rfl⟩ := ev_err he he20
      clear he hr5 hu2
      have HB6 := HB5
      obtain ⟨w6, hw6⟩ : ∃ x : World, x = w5 := ⟨_, rfl⟩
      subst hw6
      rcases cC with ⟨e3, he30, -, hu3⟩ | ⟨L3, q3, hq3, -, hL3, hu3⟩
      · go_wp2_with fail
        refine (new_any s _).mono ?_
        rintro e w7 ⟨rfl, hw⟩
        have HR7 := Lib.hid (new_is s w6)
        rw [← hw] at HR7
        have HB7 : Hid (Below w.heap.size w w7) := Lib.hid (by rw [hw]; exact (HB6.out).alloc (HB6.out.size) _)
        clear hw
        go_wp2_with fail
        refine (rtexts_is w6.heap.size 0 s 0 4096 1073741824 _ (Nat.zero_le _) (by have := HS.out; omega) (by decide) (by decide) HR7.out).mono ?_
        rintro e w8 ⟨v8, ev, rfl, hown, he, hr8, hb⟩
        have HB8 := Lib.hid (HB7.out.trans (hb.below HB6.out.size HB7.out.size)); clear hb
        rw [HC1.out, HC2.out, hu3] at he hr8 hown
        obtain ⟨f3, rfl⟩ := ev_err he he30
        clear he hr8 hu3 hown
        have HB9 := HB8
        obtain ⟨w9, hw9⟩ : ∃ x : World, x = w8 := ⟨_, rfl⟩
        subst hw9
        go_wp2_with fail
        refine (alive_any _ (HV.out.below HB9.out)).mono ?_
        rintro e w10 ⟨rfl, hb⟩
        have HB10 := Lib.hid (HB9.out.trans (hb.mono HB9.out.size)); clear hb
        go_wp2_with fail
        go_ret
        exact ⟨rfl, HB10.out⟩
      · go_wp2_with fail
        refine (new_any s _).mono ?_
        rintro e w7 ⟨rfl, hw⟩
        have HR7 := Lib.hid (new_is s w6)
        rw [← hw] at HR7
        have HB7 : Hid (Below w.heap.size w w7) := Lib.hid (by rw [hw]; exact (HB6.out).alloc (HB6.out.size) _)
        clear hw
        go_wp2_with fail
        refine (rtexts_is w6.heap.size 0 s 0 4096 1073741824 _ (Nat.zero_le _) (by have := HS.out; omega) (by decide) (by decide) HR7.out).mono ?_
        rintro e w8 ⟨v8, ev, rfl, hown, he, hr8, hb⟩
        have HB8 := Lib.hid (HB7.out.trans (hb.below HB6.out.size HB7.out.size)); clear hb
        rw [HC1.out, HC2.out, hu3] at he hr8 hown
        obtain rfl := ev_ok he
        have HR8 := Lib.hid hr8
        have HO8 := Lib.hid hown
        obtain ⟨bC1, bC2, bC3⟩ := tsRes_back (Nat.zero_le _) hu3
        have HE3 := Lib.hid (front_is s _ _ bC3)
        have hl3 := len_le s _ _ bC3
        have hsz : (textsB L3).length ≤ 140737488351232 := by
          have := HS.out
          unfold listB at hl3
          rw [List.length_append] at hl3
          omega
        have HSZ3 := Lib.hid hsz
        have hcutC := cut_at s q3 hq3
        clear he hr8 hu3 bC1 bC2 bC3 hl3 hsz hown
        go_wp2_with fail
        refine (ctexts_own HO8.out (by have := HSZ3.out; show (textsB L3).length ≤ _; omega)).mono ?_
        rintro e w9 ⟨rfl, hb⟩
        rw [HE3.out]
        have HB9 := Lib.hid (HB8.out.trans (hb.mono HB8.out.size))
        have HK9 := Lib.hid (HR8.out.below hb HR8.out.lt); clear hb
        go_wp2_with fail
        refine (at_is w6.heap.size 0 s q3 _ HK9.out).mono ?_
        rintro e w' ⟨rfl, rfl⟩
        go_wp2_with fail
        refine (alive_any _ (HV.out.below HB9.out)).mono ?_
        rintro e w10 ⟨rfl, hb⟩
        have HB10 := Lib.hid (HB9.out.trans (hb.mono HB9.out.size)); clear hb
        go_wp2_with fail
        go_ret
        exact ⟨rfl, HB10.out⟩
    · go_wp2_with fail
      refine (new_any s _).mono ?_
      rintro e w4 ⟨rfl, hw⟩
      have HR4 := Lib.hid (new_is s w3)
      rw [← hw] at HR4
      have HB4 : Hid (Below w.heap.size w w4) := Lib.hid (by rw [hw]; exact (HB3.out).alloc (HB3.out.size) _)
      clear hw
      go_wp2_with fail
      refine (rtext_is w3.heap.size 0 s 0 1073741824 _ (Nat.zero_le _) (by have := HS.out; omega) (by decide) HR4.out).mono ?_
      rintro e w5 ⟨ev, rfl, he, hr5, hb⟩
      have HB5 := Lib.hid (HB4.out.trans (hb.below HB3.out.size HB4.out.size)); clear hb
      rw [HC1.out, hu2] at he hr5 ⊢
      obtain rfl := ev_ok he
      have HR5 := Lib.hid hr5
      obtain ⟨bB1, bB2, bB3⟩ := tRes_back (Nat.zero_le _) hu2
      have HE2 := Lib.hid (front_is s _ _ bB3)
      have hl2 := len_le s _ _ bB3
      have hsz : (s.extract a2 q2).size ≤ 140737488351232 := by
        have e : (s.extract a2 q2).data.toList.length = (s.extract a2 q2).size := by rw [Array.length_toList]; rfl
        have := HS.out
        unfold textB at hl2
        rw [List.length_append, e] at hl2
        omega
      have HSZ := Lib.hid hsz
      have hcutB := cut_at s q2 hq2
      clear he hr5 hu2 bB1 bB2 bB3 hl2 hsz
      dsimp only
      generalize s.extract a2 q2 = t2 at *
      go_wp2_with fail
      refine (ctext_any t2 _ (by have := HSZ.out; omega)).mono ?_
      rintro e w6 ⟨rfl, hb⟩
      rw [HE2.out]
      have HB6 := Lib.hid (HB5.out.trans (hb.mono HB5.out.size))
      have HK6 := Lib.hid (HR5.out.below hb HR5.out.lt); clear hb
      go_wp2_with fail
      refine (at_is w3.heap.size 0 s q2 _ HK6.out).mono ?_
      rintro e w' ⟨rfl, rfl⟩
      rcases cC with ⟨e3, he30, -, hu3⟩ | ⟨L3, q3, hq3, -, hL3, hu3⟩
      · go_wp2_with fail
        refine (new_any s _).mono ?_
        rintro e w7 ⟨rfl, hw⟩
        have HR7 := Lib.hid (new_is s w6)
        rw [← hw] at HR7
        have HB7 : Hid (Below w.heap.size w w7) := Lib.hid (by rw [hw]; exact (HB6.out).alloc (HB6.out.size) _)
        clear hw
        go_wp2_with fail
        refine (rtexts_is w6.heap.size 0 s 0 4096 1073741824 _ (Nat.zero_le _) (by have := HS.out; omega) (by decide) (by decide) HR7.out).mono ?_
        rintro e w8 ⟨v8, ev, rfl, hown, he, hr8, hb⟩
        have HB8 := Lib.hid (HB7.out.trans (hb.below HB6.out.size HB7.out.size)); clear hb
        rw [HC1.out, HC2.out, hu3] at he hr8 hown
        obtain ⟨f3, rfl⟩ := ev_err he he30
        clear he hr8 hu3 hown
        have HB9 := HB8
        obtain ⟨w9, hw9⟩ : ∃ x : World, x = w8 := ⟨_, rfl⟩
        subst hw9
        go_wp2_with fail
        refine (alive_any _ (HV.out.below HB9.out)).mono ?_
        rintro e w10 ⟨rfl, hb⟩
        have HB10 := Lib.hid (HB9.out.trans (hb.mono HB9.out.size)); clear hb
        go_wp2_with fail
        go_ret
        exact ⟨rfl, HB10.out⟩
      · go_wp2_with fail
        refine (new_any s _).mono ?_
        rintro e w7 ⟨rfl, hw⟩
        have HR7 := Lib.hid (new_is s w6)
        rw [← hw] at HR7
        have HB7 : Hid (Below w.heap.size w w7) := Lib.hid (by rw [hw]; exact (HB6.out).alloc (HB6.out.size) _)
        clear hw
        go_wp2_with fail
        refine (rtexts_is w6.heap.size 0 s 0 4096 1073741824 _ (Nat.zero_le _) (by have := HS.out; omega) (by decide) (by decide) HR7.out).mono ?_
        rintro e w8 ⟨v8, ev, rfl, hown, he, hr8, hb⟩
        have HB8 := Lib.hid (HB7.out.trans (hb.below HB6.out.size HB7.out.size)); clear hb
        rw [HC1.out, HC2.out, hu3] at he hr8 hown
        obtain rfl := ev_ok he
        have HR8 := Lib.hid hr8
        have HO8 := Lib.hid hown
        obtain ⟨bC1, bC2, bC3⟩ := tsRes_back (Nat.zero_le _) hu3
        have HE3 := Lib.hid (front_is s _ _ bC3)
        have hl3 := len_le s _ _ bC3
        have hsz : (textsB L3).length ≤ 140737488351232 := by
          have := HS.out
          unfold listB at hl3
          rw [List.length_append] at hl3
          omega
        have HSZ3 := Lib.hid hsz
        have hcutC := cut_at s q3 hq3
        clear he hr8 hu3 bC1 bC2 bC3 hl3 hsz hown
        go_wp2_with fail
        refine (ctexts_own HO8.out (by have := HSZ3.out; show (textsB L3).length ≤ _; omega)).mono ?_
        rintro e w9 ⟨rfl, hb⟩
        rw [HE3.out]
        have HB9 := Lib.hid (HB8.out.trans (hb.mono HB8.out.size))
        have HK9 := Lib.hid (HR8.out.below hb HR8.out.lt); clear hb
        go_wp2_with fail
        refine (at_is w6.heap.size 0 s q3 _ HK9.out).mono ?_
        rintro e w' ⟨rfl, rfl⟩
        go_wp2_with fail
        refine (alive_any _ (HV.out.below HB9.out)).mono ?_
        rintro e w10 ⟨rfl, hb⟩
        have HB10 := Lib.hid (HB9.out.trans (hb.mono HB9.out.size)); clear hb
        go_wp2_with fail
        go_ret
        exact ⟨rfl, HB10.out⟩
  · go_wp2_with fail
    refine (new_any s _).mono ?_
    rintro e w1 ⟨rfl, hw⟩
    have HR1 := Lib.hid (new_is s w)
    rw [← hw] at HR1
    have HB1 : Hid (Below w.heap.size w w1) := Lib.hid (by rw [hw]; exact (Below.refl _ _).alloc (Nat.le_refl _) _)
    clear hw
    go_wp2_with fail
    refine (ruint_is w.heap.size 0 s 0 18446744073709551615 _ (Nat.zero_le _) (by have := HS.out; omega) (by decide) HR1.out).mono ?_
    rintro e w2 ⟨ev, rfl, he, hr2, hb⟩
    have HB2 := Lib.hid (HB1.out.trans (hb.below (Nat.le_refl _) HB1.out.size)); clear hb
    rw [hu] at he hr2 ⊢
    obtain rfl := ev_ok he
    have HR2 := Lib.hid hr2
    obtain ⟨bA1, bA2, bA3⟩ := uRes_back hu
    have HE := Lib.hid (front_is s _ _ bA3)
    have hcutA := cut_at s (0 + d) hd
    have hvm : v < 18446744073709551616 := by omega
    clear he hr2 hu bA1 bA2 bA3
    generalize 0 + d = q at *
    go_wp2_with fail
    refine (cuint_any v _ hvm).mono ?_
    rintro e w3 ⟨rfl, hb⟩
    rw [HE.out]
    have HB3 := Lib.hid (HB2.out.trans (hb.mono HB2.out.size))
    have HK3 := Lib.hid (HR2.out.below hb HR2.out.lt); clear hb
    go_wp2_with fail
    refine (at_is w.heap.size 0 s q _ HK3.out).mono ?_
    rintro e w' ⟨rfl, rfl⟩
    rcases cB with ⟨e2, he20, -, hu2⟩ | ⟨a2, q2, -, hq2, -, hu2⟩
    · go_wp2_with fail
      refine (new_any s _).mono ?_
      rintro e w4 ⟨rfl, hw⟩
      have HR4 := Lib.hid (new_is s w3)
      rw [← hw] at HR4
      have HB4 : Hid (Below w.heap.size w w4) := Lib.hid (by rw [hw]; exact (HB3.out).alloc (HB3.out.size) _)
      clear hw
      go_wp2_with fail
      refine (rtext_is w3.heap.size 0 s 0 1073741824 _ (Nat.zero_le _) (by have := HS.out; omega) (by decide) HR4.out).mono ?_
      rintro e w5 ⟨ev, rfl, he, hr5, hb⟩
      have HB5 := Lib.hid (HB4.out.trans (hb.below HB3.out.size HB4.out.size)); clear hb
      rw [HC1.out, hu2] at he hr5 ⊢
      obtain ⟨f2, rfl⟩ := ev_err he he20
      clear he hr5 hu2
      have HB6 := HB5
      obtain ⟨w6, hw6⟩ : ∃ x : World, x = w5 := ⟨_, rfl⟩
      subst hw6
      rcases cC with ⟨e3, he30, -, hu3⟩ | ⟨L3, q3, hq3, -, hL3, hu3⟩
      · go_wp2_with fail
        refine (new_any s _).mono ?_
        rintro e w7 ⟨rfl, hw⟩
        have HR7 := Lib.hid (new_is s w6)
        rw [← hw] at HR7
        have HB7 : Hid (Below w.heap.size w w7) := Lib.hid (by rw [hw]; exact (HB6.out).alloc (HB6.out.size) _)
        clear hw
        go_wp2_with fail
        refine (rtexts_is w6.heap.size 0 s 0 4096 1073741824 _ (Nat.zero_le _) (by have := HS.out; omega) (by decide) (by decide) HR7.out).mono ?_
        rintro e w8 ⟨v8, ev, rfl, hown, he, hr8, hb⟩
        have HB8 := Lib.hid (HB7.out.trans (hb.below HB6.out.size HB7.out.size)); clear hb
        rw [HC1.out, HC2.out, hu3] at he hr8 hown
        obtain ⟨f3, rfl⟩ := ev_err he he30
        clear he hr8 hu3 hown
        have HB9 := HB8
        obtain ⟨w9, hw9⟩ : ∃ x : World, x = w8 := ⟨_, rfl⟩
        subst hw9
        go_wp2_with fail
        refine (alive_any _ (HV.out.below HB9.out)).mono ?_
        rintro e w10 ⟨rfl, hb⟩
        have HB10 := Lib.hid (HB9.out.trans (hb.mono HB9.out.size)); clear hb
        go_wp2_with fail
        go_ret
        exact ⟨rfl, HB10.out⟩
      · go_wp2_with fail
        refine (new_any s _).mono ?_
        rintro e w7 ⟨rfl, hw⟩
        have HR7 := Lib.hid (new_is s w6)
        rw [← hw] at HR7
        have HB7 : Hid (Below w.heap.size w w7) := Lib.hid (by rw [hw]; exact (HB6.out).alloc (HB6.out.size) _)
        clear hw
        go_wp2_with fail
        refine (rtexts_is w6.heap.size 0 s 0 4096 1073741824 _ (Nat.zero_le _) (by have := HS.out; omega) (by decide) (by decide) HR7.out).mono ?_
        rintro e w8 ⟨v8, ev, rfl, hown, he, hr8, hb⟩
        have HB8 := Lib.hid (HB7.out.trans (hb.below HB6.out.size HB7.out.size)); clear hb
        rw [HC1.out, HC2.out, hu3] at he hr8 hown
        obtain rfl := ev_ok he
        have HR8 := Lib.hid hr8
        have HO8 := Lib.hid hown
        obtain ⟨bC1, bC2, bC3⟩ := tsRes_back (Nat.zero_le _) hu3
        have HE3 := Lib.hid (front_is s _ _ bC3)
        have hl3 := len_le s _ _ bC3
        have hsz : (textsB L3).length ≤ 140737488351232 := by
          have := HS.out
          unfold listB at hl3
          rw [List.length_append] at hl3
          omega
        have HSZ3 := Lib.hid hsz
        have hcutC := cut_at s q3 hq3
        clear he hr8 hu3 bC1 bC2 bC3 hl3 hsz hown
        go_wp2_with fail
        refine (ctexts_own HO8.out (by have := HSZ3.out; show (textsB L3).length ≤ _; omega)).mono ?_
        rintro e w9 ⟨rfl, hb⟩
        rw [HE3.out]
        have HB9 := Lib.hid (HB8.out.trans (hb.mono HB8.out.size))
        have HK9 := Lib.hid (HR8.out.below hb HR8.out.lt); clear hb
        go_wp2_with fail
        refine (at_is w6.heap.size 0 s q3 _ HK9.out).mono ?_
        rintro e w' ⟨rfl, rfl⟩
        go_wp2_with fail
        refine (alive_any _ (HV.out.below HB9.out)).mono ?_
        rintro e w10 ⟨rfl, hb⟩
        have HB10 := Lib.hid (HB9.out.trans (hb.mono HB9.out.size)); clear hb
        go_wp2_with fail
        go_ret
        exact ⟨rfl, HB10.out⟩
    · go_wp2_with fail
      refine (new_any s _).mono ?_
      rintro e w4 ⟨rfl, hw⟩
      have HR4 := Lib.hid (new_is s w3)
      rw [← hw] at HR4
      have HB4 : Hid (Below w.heap.size w w4) := Lib.hid (by rw [hw]; exact (HB3.out).alloc (HB3.out.size) _)
      clear hw
      go_wp2_with fail
      refine (rtext_is w3.heap.size 0 s 0 1073741824 _ (Nat.zero_le _) (by have := HS.out; omega) (by decide) HR4.out).mono ?_
      rintro e w5 ⟨ev, rfl, he, hr5, hb⟩
      have HB5 := Lib.hid (HB4.out.trans (hb.below HB3.out.size HB4.out.size)); clear hb
      rw [HC1.out, hu2] at he hr5 ⊢
      obtain rfl := ev_ok he
      have HR5 := Lib.hid hr5
      obtain ⟨bB1, bB2, bB3⟩ := tRes_back (Nat.zero_le _) hu2
      have HE2 := Lib.hid (front_is s _ _ bB3)
      have hl2 := len_le s _ _ bB3
      have hsz : (s.extract a2 q2).size ≤ 140737488351232 := by
        have e : (s.extract a2 q2).data.toList.length = (s.extract a2 q2).size := by rw [Array.length_toList]; rfl
        have := HS.out
        unfold textB at hl2
        rw [List.length_append, e] at hl2
        omega
      have HSZ := Lib.hid hsz
      have hcutB := cut_at s q2 hq2
      clear he hr5 hu2 bB1 bB2 bB3 hl2 hsz
      dsimp only
      generalize s.extract a2 q2 = t2 at *
      go_wp2_with fail
      refine (ctext_any t2 _ (by have := HSZ.out; omega)).mono ?_
      rintro e w6 ⟨rfl, hb⟩
      rw [HE2.out]
      have HB6 := Lib.hid (HB5.out.trans (hb.mono HB5.out.size))
      have HK6 := Lib.hid (HR5.out.below hb HR5.out.lt); clear hb
      go_wp2_with fail
      refine (at_is w3.heap.size 0 s q2 _ HK6.out).mono ?_
      rintro e w' ⟨rfl, rfl⟩
      rcases cC with ⟨e3, he30, -, hu3⟩ | ⟨L3, q3, hq3, -, hL3, hu3⟩
      · go_wp2_with fail
        refine (new_any s _).mono ?_
        rintro e w7 ⟨rfl, hw⟩
        have HR7 := Lib.hid (new_is s w6)
        rw [← hw] at HR7
        have HB7 : Hid (Below w.heap.size w w7) := Lib.hid (by rw [hw]; exact (HB6.out).alloc (HB6.out.size) _)
        clear hw
        go_wp2_with fail
        refine (rtexts_is w6.heap.size 0 s 0 4096 1073741824 _ (Nat.zero_le _) (by have := HS.out; omega) (by decide) (by decide) HR7.out).mono ?_
        rintro e w8 ⟨v8, ev, rfl, hown, he, hr8, hb⟩
        have HB8 := Lib.hid (HB7.out.trans (hb.below HB6.out.size HB7.out.size)); clear hb
        rw [HC1.out, HC2.out, hu3] at he hr8 hown
        obtain ⟨f3, rfl⟩ := ev_err he he30
        clear he hr8 hu3 hown
        have HB9 := HB8
        obtain ⟨w9, hw9⟩ : ∃ x : World, x = w8 := ⟨_, rfl⟩
        subst hw9
        go_wp2_with fail
        refine (alive_any _ (HV.out.below HB9.out)).mono ?_
        rintro e w10 ⟨rfl, hb⟩
        have HB10 := Lib.hid (HB9.out.trans (hb.mono HB9.out.size)); clear hb
        go_wp2_with fail
        go_ret
        exact ⟨rfl, HB10.out⟩
      · go_wp2_with fail
        refine (new_any s _).mono ?_
        rintro e w7 ⟨rfl, hw⟩
        have HR7 := Lib.hid (new_is s w6)
        rw [← hw] at HR7
        have HB7 : Hid (Below w.heap.size w w7) := Lib.hid (by rw [hw]; exact (HB6.out).alloc (HB6.out.size) _)
        clear hw
        go_wp2_with fail
        refine (rtexts_is w6.heap.size 0 s 0 4096 1073741824 _ (Nat.zero_le _) (by have := HS.out; omega) (by decide) (by decide) HR7.out).mono ?_
        rintro e w8 ⟨v8, ev, rfl, hown, he, hr8, hb⟩
        have HB8 := Lib.hid (HB7.out.trans (hb.below HB6.out.size HB7.out.size)); clear hb
        rw [HC1.out, HC2.out, hu3] at he hr8 hown
        obtain rfl := ev_ok he
        have HR8 := Lib.hid hr8
        have HO8 := Lib.hid hown
        obtain ⟨bC1, bC2, bC3⟩ := tsRes_back (Nat.zero_le _) hu3
        have HE3 := Lib.hid (front_is s _ _ bC3)
        have hl3 := len_le s _ _ bC3
        have hsz : (textsB L3).length ≤ 140737488351232 := by
          have := HS.out
          unfold listB at hl3
          rw [List.length_append] at hl3
          omega
        have HSZ3 := Lib.hid hsz
        have hcutC := cut_at s q3 hq3
        clear he hr8 hu3 bC1 bC2 bC3 hl3 hsz hown
        go_wp2_with fail
        refine (ctexts_own HO8.out (by have := HSZ3.out; show (textsB L3).length ≤ _; omega)).mono ?_
        rintro e w9 ⟨rfl, hb⟩
        rw [HE3.out]
        have HB9 := Lib.hid (HB8.out.trans (hb.mono HB8.out.size))
        have HK9 := Lib.hid (HR8.out.below hb HR8.out.lt); clear hb
        go_wp2_with fail
        refine (at_is w6.heap.size 0 s q3 _ HK9.out).mono ?_
        rintro e w' ⟨rfl, rfl⟩
        go_wp2_with fail
        refine (alive_any _ (HV.out.below HB9.out)).mono ?_
        rintro e w10 ⟨rfl, hb⟩
        have HB10 := Lib.hid (HB9.out.trans (hb.mono HB9.out.size)); clear hb
        go_wp2_with fail
        go_ret
        exact ⟨rfl, HB10.out⟩
end CodeC
end Go.Proofs.YtgjcbcakmcgjhaaDoor
