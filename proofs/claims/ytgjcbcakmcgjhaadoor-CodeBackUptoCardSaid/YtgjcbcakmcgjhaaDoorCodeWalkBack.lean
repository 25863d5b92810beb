/-
  The statement 'what was written is read, whatever stands behind it', walked (wip/gen/back.py writes this text).
-/
import Derived.Test.YtgjcbcakmcgjhaaDoorCodeWalkOne
import Derived.BigQuiet
namespace Go.Proofs.YtgjcbcakmcgjhaaDoor
open Go.RowKit
namespace CodeC
open CodeM ErrC

theorem list_of (a b : ByteArray) : (a ++ b).data.toList = a.data.toList ++ b.data.toList := by simp
theorem size_of (l : List UInt8) : (⟨l.toArray⟩ : ByteArray).size = l.length := by show l.toArray.size = _; simp
theorem rest_at (S R : ByteArray) (q : Nat) (h : S.data.toList.drop q = R.data.toList) : S.extract q S.size = R := by
  apply ByteArray.ext
  apply Array.toList_inj.1
  rw [Lib.extract_to_end, h]
theorem end_none_left (S : ByteArray) (q : Nat) (h : S.data.toList.drop q = []) : endC q S = 0 := by
  have e : S.data.toList.length = S.size := by rw [Array.length_toList]; rfl
  have hl := congrArg List.length h
  rw [List.length_drop, e] at hl
  unfold endC
  rw [if_neg (by simp at hl; omega)]
theorem end_some_left (S : ByteArray) (q : Nat) (R : List UInt8) (hR : R ≠ []) (h : S.data.toList.drop q = R) : endC q S = 23 := by
  have e : S.data.toList.length = S.size := by rw [Array.length_toList]; rfl
  have hl := congrArg List.length h
  have hp : 0 < R.length := List.length_pos_iff.2 hR
  rw [List.length_drop, e] at hl
  unfold endC
  rw [if_pos (by omega)]
/-- all that is written, piece by piece -/
theorem whole_facts (n : Nat) (s R : ByteArray) (L : List ByteArray) (S : ByteArray) (hn : n < 18446744073709551616) (hs : s.size ≤ 1048576) (hL : L.length ≤ 65536) (hz : ∀ t ∈ L, t.size ≤ 1048576)
    (hS : S.data.toList = uintB n ++ (wordB n 8 ++ (textB s.data.toList ++ (listB L ++ R.data.toList)))) :
    ∃ q1 q3 q4 a3, uRes 18446744073709551615 0 (S.data.toList.drop 0) = (n, 0, 0, q1) ∧ q1 ≤ S.size ∧ wRes q1 S = (n, 0, 0, q1 + 8) ∧ q1 + 8 ≤ S.size ∧ tRes 1099511627776 (q1 + 8) S = (a3, q3, 0, 0, q3) ∧ S.extract a3 q3 = s ∧ q3 ≤ S.size ∧
      tsRes 65536 1099511627776 q3 S = (L, 0, 0, q4) ∧ q4 ≤ S.size ∧ S.data.toList.drop q4 = R.data.toList := by
  have es : S.data.toList.length = S.size := by rw [Array.length_toList]; rfl
  have h0 : S.data.toList.drop 0 = uintB n ++ (wordB n 8 ++ (textB s.data.toList ++ (listB L ++ R.data.toList))) := by rw [List.drop_zero]; exact hS
  have h1 := drop_there h0
  have h2 := drop_there h1
  have h3 := drop_there h2
  have h4 := drop_there h3
  rw [wordB_length] at h2 h3 h4
  have hlen := congrArg List.length hS
  rw [es, List.length_append, List.length_append, List.length_append, List.length_append, wordB_length] at hlen
  have u := uRes_there h0 hn (show n ≤ 18446744073709551615 by omega)
  have t := tRes_there (most := 1099511627776) (by omega) h2 (by omega) (by omega)
  exact ⟨_, _, _, _, u, by omega, wRes_there h1 hn, by omega, t.1, t.2.1, t.2.2, tsRes_there L t.2.2 h3 hL (by omega) (fun x hx => ⟨by have := hz x hx; omega, by have := hz x hx; omega⟩), by omega, h4⟩
theorem adds (a b : ByteArray) (h : a.size + b.size ≤ 140737488355328) (w : World) : (Op.stringOp .add a b).run Tryd.prog w = .ok (.string (a ++ b)) w :=
  run_string_add_sum (P := Tryd.prog) w a b (by omega)
theorem listB_le (L : List ByteArray) (hL : L.length ≤ 65536) (h : (textsB L).length ≤ 12000000) : (listB L).length ≤ 12000010 := by
  have := uintB_ten L.length (by omega)
  rw [listB, List.length_append]; omega
theorem textB_le (s : ByteArray) (h : s.size ≤ 1048576) : (textB s.data.toList).length ≤ 1048586 := by
  have e : s.data.toList.length = s.size := by simp
  have := uintB_ten s.size (by omega)
  rw [textB, List.length_append, e]; omega

set_option maxHeartbeats 16000000 in
set_option maxRecDepth 100000 in
theorem back_none (n : Nat) (s R : ByteArray) (a : Option Addr) (cp : Nat) (w : World) (hn : n < 18446744073709551616) (hs : s.size ≤ 1048576) (hr : R.size ≤ 1048576) (hv : Vars w) :
    Calls Tryd.prog 5 #[.int .u64 n, .string s, .slice a 0 cp, .string R] w fun e w' => e = .returned (.bool true) ∧ Below w.heap.size w w' := by
  have HV := Lib.hid hv; clear hv
  have hz : ∀ t ∈ ([] : List ByteArray), t.size ≤ 1048576 := fun t h => by cases h
  have hL : ([] : List ByteArray).length ≤ 65536 := by decide
  have hLB := listB_le [] hL (by decide)
  have hTB := textB_le s hs
  have hUB := uintB_ten n hn
  obtain ⟨U, hU⟩ : ∃ U : ByteArray, U = ⟨(uintB n).toArray⟩ := ⟨_, rfl⟩
  obtain ⟨X, hX⟩ : ∃ X : ByteArray, X = ⟨(wordB n 8).toArray⟩ := ⟨_, rfl⟩
  obtain ⟨T, hT⟩ : ∃ T : ByteArray, T = ⟨(textB s.data.toList).toArray⟩ := ⟨_, rfl⟩
  obtain ⟨Y, hY⟩ : ∃ Y : ByteArray, Y = ⟨(listB []).toArray⟩ := ⟨_, rfl⟩
  have sU : U.size ≤ 10 := by rw [hU, size_of]; exact hUB
  have sX : X.size ≤ 8 := by rw [hX, size_of, wordB_length]; exact Nat.le_refl _
  have sT : T.size ≤ 1048586 := by rw [hT, size_of]; exact hTB
  have sY : Y.size ≤ 12000010 := by rw [hY, size_of]; exact hLB
  obtain ⟨S, hS⟩ : ∃ S : ByteArray, S = U ++ X ++ T ++ Y ++ R := ⟨_, rfl⟩
  have sz1 : (U ++ X).size ≤ 18 := by rw [ByteArray.size_append]; omega
  have sz2 : (U ++ X ++ T).size ≤ 1048604 := by rw [ByteArray.size_append]; omega
  have sz3 : (U ++ X ++ T ++ Y).size ≤ 13048614 := by rw [ByteArray.size_append]; omega
  have sS : S.size ≤ 14097190 := by rw [hS, ByteArray.size_append]; omega
  have ad1 := adds U X (by omega)
  have ad2 := adds (U ++ X) T (by omega)
  have ad3 := adds (U ++ X ++ T) Y (by omega)
  have ad4 := adds (U ++ X ++ T ++ Y) R (by omega)
  rw [← hS] at ad4
  have hSl : S.data.toList = uintB n ++ (wordB n 8 ++ (textB s.data.toList ++ (listB [] ++ R.data.toList))) := by
    rw [hS, list_of, list_of, list_of, list_of, hU, hX, hT, hY]; simp
  obtain ⟨q1, q3, q4, a3, f1, f2, f3, f4, f5, f6, f7, f8, f9, f10⟩ := whole_facts n s R [] S hn hs hL hz hSl
  have HU := Lib.hid hU; clear hU
  have HX := Lib.hid hX; clear hX
  have HT := Lib.hid hT; clear hT
  have HY := Lib.hid hY; clear hY
  have HN := Lib.hid hn; clear hn
  have HSS := Lib.hid sS
  have F1 := Lib.hid f1
  have F3 := Lib.hid f3
  have F5 := Lib.hid f5
  have F6 := Lib.hid f6
  have F8 := Lib.hid f8
  have F10 := Lib.hid f10
  have hrest := rest_at S R q4 f10
  have HREST := Lib.hid hrest
  have hcap : cap 1099511627776 = 1099511627776 := rfl
  have hcap2 : cap 65536 = 65536 := rfl
  have HC1 := Lib.hid hcap
  have HC2 := Lib.hid hcap2
  clear hcap hcap2 f1 f3 f5 f6 f8 f10 hrest hSl hz hS sU sX sT sY sz1 sz2 sz3 hL hLB hTB hUB 
  generalize q1 + 8 = q2 at *
  go_enter Tryd.func5, Tryd.ntmps5
  go_wp2_with fail
  refine (cuint_any n _ HN.out).mono ?_
  rintro e w1 ⟨rfl, hb1⟩
  rw [← HU.out]
  have HB1 := Lib.hid hb1; clear hb1
  go_wp2_with fail
  refine (cword_any n _ HN.out).mono ?_
  rintro e w2 ⟨rfl, hb1⟩
  rw [← HX.out]
  have HB2 := Lib.hid (HB1.out.trans (hb1.mono HB1.out.size)); clear hb1
  go_wp2_with fail
  refine (ctext_any s _ (by omega)).mono ?_
  rintro e w3 ⟨rfl, hb1⟩
  rw [← HT.out]
  have HB3 := Lib.hid (HB2.out.trans (hb1.mono HB2.out.size)); clear hb1
  go_wp2_with fail
  refine (ctexts_none _ _ _).mono ?_
  rintro e w4 ⟨rfl, hb1⟩
  rw [← HY.out]
  have HB4 := Lib.hid (HB3.out.trans (hb1.mono HB3.out.size)); clear hb1
  go_wp2_with fail
  clear ad1 ad2 ad3 ad4
  refine (new_any S _).mono ?_
  rintro e w5 ⟨rfl, hw⟩
  have HR5 := Lib.hid (new_is S w4)
  rw [← hw] at HR5
  have HB5 : Hid (Below w.heap.size w w5) := Lib.hid (by rw [hw]; exact HB4.out.alloc HB4.out.size _)
  have hg4 := HB4.out.size
  clear hw
  go_wp2_with fail
  refine (ruint_is w4.heap.size 0 S 0 18446744073709551615 _ (Nat.zero_le _) (by have := HSS.out; omega) (by decide) HR5.out).mono ?_
  rintro e w6 ⟨ev, rfl, he, hr, hb1⟩
  rw [F1.out] at he hr ⊢
  obtain rfl := ev_ok he
  have HR6 := Lib.hid hr
  have HB6 := Lib.hid (HB5.out.trans (hb1.below hg4 HB5.out.size))
  clear he hr hb1
  go_wp2_with fail
  refine (rword_is w4.heap.size 0 S q1 _ f2 (by have := HSS.out; omega) HR6.out).mono ?_
  rintro e w7 ⟨ev, rfl, he, hr, hb1⟩
  rw [F3.out] at he hr ⊢
  obtain rfl := ev_ok he
  have HR7 := Lib.hid hr
  have HB7 := Lib.hid (HB6.out.trans (hb1.below hg4 HB6.out.size))
  clear he hr hb1
  go_wp2_with fail
  refine (rtext_is w4.heap.size 0 S q2 1099511627776 _ f4 (by have := HSS.out; omega) (by decide) HR7.out).mono ?_
  rintro e w8 ⟨ev, rfl, he, hr, hb1⟩
  rw [HC1.out, F5.out] at he hr ⊢
  dsimp only at he hr ⊢
  rw [F6.out]
  obtain rfl := ev_ok he
  have HR8 := Lib.hid hr
  have HB8 := Lib.hid (HB7.out.trans (hb1.below hg4 HB7.out.size))
  clear he hr hb1
  go_wp2_with fail
  refine (rtexts_is w4.heap.size 0 S q3 65536 1099511627776 _ f7 (by have := HSS.out; omega) (by decide) (by decide) HR8.out).mono ?_
  rintro e w9 ⟨v9, ev, rfl, hown, he, hr, hb1⟩
  rw [HC1.out, HC2.out, F8.out] at he hr hown
  dsimp only at he hr hown
  obtain rfl := ev_ok he
  have HR9 := Lib.hid hr
  have HB9 := Lib.hid (HB8.out.trans (hb1.below hg4 HB8.out.size))
  have HO9 := Lib.hid hown
  clear he hr hb1
  rcases own_open hown with ⟨rfl, h0⟩ | ⟨g, cg, rfl, hg, hglt, hgm, hgc⟩
  · clear hown h0
    go_wp2_with fail
    refine (rest_is w4.heap.size 0 S q4 _ f9 HR9.out).mono ?_
    rintro e w10 ⟨rfl, z, rfl⟩
    rw [HREST.out]
    have HR10 := Lib.hid (HR9.out.drewN z)
    have HB10 := Lib.hid (below_drewN HB9.out z)
    go_wp2_with fail
    refine (rend_is w4.heap.size 0 S q4 _ f9 HR10.out).mono ?_
    rintro e w11 ⟨ev, rfl, he, -, hb1⟩
    have HB11 := Lib.hid (HB10.out.trans (hb1.below hg4 HB10.out.size))
    have HK := Lib.hid (But.trans ((But.refl w4.heap.size w9).drewN z) hb1)
    clear hb1
    by_cases hR : R.data.toList = []
    · rw [end_none_left S q4 (by rw [F10.out, hR])] at he
      obtain rfl := ev_ok he
      have e1 : R.toList = [] := by rw [ByteArray.toList_eq]; exact hR
      have e2 : R.toList.isEmpty = true := by rw [e1]; rfl
      clear he hR
      go_wp2_with fail
      refine wp_loop_rounds 1 ?_; rw [rounds_succ]; go_wp2_with fail
      refine (alive_any _ (HV.out.below HB11.out)).mono ?_
      rintro e w12 ⟨rfl, hb1⟩
      have HB13 := Lib.hid (HB11.out.trans (hb1.mono HB11.out.size)); clear hb1
      go_wp2_with fail
      go_ret
      exact ⟨rfl, HB13.out⟩
    · rw [end_some_left S q4 R.data.toList hR F10.out] at he
      obtain ⟨f, rfl⟩ := ev_err he (by decide)
      have e2 : R.toList.isEmpty = false := by
        rw [ByteArray.toList_eq]
        cases e : R.data.toList with
        | nil => exact absurd e hR
        | cons x r => rfl
      clear he hR
      go_wp2_with fail
      refine wp_loop_rounds 1 ?_; rw [rounds_succ]; go_wp2_with fail
      refine (alive_any _ (HV.out.below HB11.out)).mono ?_
      rintro e w12 ⟨rfl, hb1⟩
      have HB13 := Lib.hid (HB11.out.trans (hb1.mono HB11.out.size)); clear hb1
      go_wp2_with fail
      go_ret
      exact ⟨rfl, HB13.out⟩
  · clear hown hg hglt hgm hgc
    rw [show ([] : List ByteArray).length = 0 from rfl]
    go_wp2_with fail
    refine (rest_is w4.heap.size 0 S q4 _ f9 HR9.out).mono ?_
    rintro e w10 ⟨rfl, z, rfl⟩
    rw [HREST.out]
    have HR10 := Lib.hid (HR9.out.drewN z)
    have HB10 := Lib.hid (below_drewN HB9.out z)
    go_wp2_with fail
    refine (rend_is w4.heap.size 0 S q4 _ f9 HR10.out).mono ?_
    rintro e w11 ⟨ev, rfl, he, -, hb1⟩
    have HB11 := Lib.hid (HB10.out.trans (hb1.below hg4 HB10.out.size))
    have HK := Lib.hid (But.trans ((But.refl w4.heap.size w9).drewN z) hb1)
    clear hb1
    by_cases hR : R.data.toList = []
    · rw [end_none_left S q4 (by rw [F10.out, hR])] at he
      obtain rfl := ev_ok he
      have e1 : R.toList = [] := by rw [ByteArray.toList_eq]; exact hR
      have e2 : R.toList.isEmpty = true := by rw [e1]; rfl
      clear he hR
      go_wp2_with fail
      refine wp_loop_rounds 1 ?_; rw [rounds_succ]; go_wp2_with fail
      refine (alive_any _ (HV.out.below HB11.out)).mono ?_
      rintro e w12 ⟨rfl, hb1⟩
      have HB13 := Lib.hid (HB11.out.trans (hb1.mono HB11.out.size)); clear hb1
      go_wp2_with fail
      go_ret
      exact ⟨rfl, HB13.out⟩
    · rw [end_some_left S q4 R.data.toList hR F10.out] at he
      obtain ⟨f, rfl⟩ := ev_err he (by decide)
      have e2 : R.toList.isEmpty = false := by
        rw [ByteArray.toList_eq]
        cases e : R.data.toList with
        | nil => exact absurd e hR
        | cons x r => rfl
      clear he hR
      go_wp2_with fail
      refine wp_loop_rounds 1 ?_; rw [rounds_succ]; go_wp2_with fail
      refine (alive_any _ (HV.out.below HB11.out)).mono ?_
      rintro e w12 ⟨rfl, hb1⟩
      have HB13 := Lib.hid (HB11.out.trans (hb1.mono HB11.out.size)); clear hb1
      go_wp2_with fail
      go_ret
      exact ⟨rfl, HB13.out⟩

set_option maxHeartbeats 16000000 in
set_option maxRecDepth 100000 in
theorem back_some (n : Nat) (s R : ByteArray) (b o len cp : Nat) (zs : List ByteArray) (w : World) (hn : n < 18446744073709551616) (hs : s.size ≤ 1048576) (hr : R.size ≤ 1048576) (hpos : 0 < len) (hl : len ≤ zs.length) (hb : b < w.heap.size) (hm : len ≤ 65536) (hc : ∀ i, i < len → w.cell? ⟨b, o + i, none⟩ = some (.string (zs.getD i ByteArray.empty))) (htl : (textsB (zs.take len)).length ≤ 12000000) (hzs : ∀ t ∈ zs.take len, t.size ≤ 1048576) (hv : Vars w) :
    Calls Tryd.prog 5 #[.int .u64 n, .string s, .slice (some ⟨b, o, none⟩) len cp, .string R] w fun e w' => e = .returned (.bool true) ∧ Below w.heap.size w w' := by
  have HV := Lib.hid hv; clear hv
  have hLlen : (zs.take len).length = len := by rw [List.length_take]; omega
  have hz := hzs
  have HLL := Lib.hid hLlen
  have HC := Lib.hid hc
  have HTL := Lib.hid htl
  have HG := Lib.hid (show ∀ i, i < len → (zs.take len).getD i ByteArray.empty = zs.getD i ByteArray.empty from fun i hi => by simp [List.getElem?_take_of_lt hi])
  have hL : (zs.take len).length ≤ 65536 := by omega
  have hLB := listB_le _ hL htl
  have hTB := textB_le s hs
  have hUB := uintB_ten n hn
  obtain ⟨U, hU⟩ : ∃ U : ByteArray, U = ⟨(uintB n).toArray⟩ := ⟨_, rfl⟩
  obtain ⟨X, hX⟩ : ∃ X : ByteArray, X = ⟨(wordB n 8).toArray⟩ := ⟨_, rfl⟩
  obtain ⟨T, hT⟩ : ∃ T : ByteArray, T = ⟨(textB s.data.toList).toArray⟩ := ⟨_, rfl⟩
  obtain ⟨Y, hY⟩ : ∃ Y : ByteArray, Y = ⟨(listB (zs.take len)).toArray⟩ := ⟨_, rfl⟩
  have sU : U.size ≤ 10 := by rw [hU, size_of]; exact hUB
  have sX : X.size ≤ 8 := by rw [hX, size_of, wordB_length]; exact Nat.le_refl _
  have sT : T.size ≤ 1048586 := by rw [hT, size_of]; exact hTB
  have sY : Y.size ≤ 12000010 := by rw [hY, size_of]; exact hLB
  obtain ⟨S, hS⟩ : ∃ S : ByteArray, S = U ++ X ++ T ++ Y ++ R := ⟨_, rfl⟩
  have sz1 : (U ++ X).size ≤ 18 := by rw [ByteArray.size_append]; omega
  have sz2 : (U ++ X ++ T).size ≤ 1048604 := by rw [ByteArray.size_append]; omega
  have sz3 : (U ++ X ++ T ++ Y).size ≤ 13048614 := by rw [ByteArray.size_append]; omega
  have sS : S.size ≤ 14097190 := by rw [hS, ByteArray.size_append]; omega
  have ad1 := adds U X (by omega)
  have ad2 := adds (U ++ X) T (by omega)
  have ad3 := adds (U ++ X ++ T) Y (by omega)
  have ad4 := adds (U ++ X ++ T ++ Y) R (by omega)
  rw [← hS] at ad4
  have hSl : S.data.toList = uintB n ++ (wordB n 8 ++ (textB s.data.toList ++ (listB (zs.take len) ++ R.data.toList))) := by
    rw [hS, list_of, list_of, list_of, list_of, hU, hX, hT, hY]; simp
  obtain ⟨q1, q3, q4, a3, f1, f2, f3, f4, f5, f6, f7, f8, f9, f10⟩ := whole_facts n s R (zs.take len) S hn hs hL hz hSl
  have HU := Lib.hid hU; clear hU
  have HX := Lib.hid hX; clear hX
  have HT := Lib.hid hT; clear hT
  have HY := Lib.hid hY; clear hY
  have HN := Lib.hid hn; clear hn
  have HSS := Lib.hid sS
  have F1 := Lib.hid f1
  have F3 := Lib.hid f3
  have F5 := Lib.hid f5
  have F6 := Lib.hid f6
  have F8 := Lib.hid f8
  have F10 := Lib.hid f10
  have hrest := rest_at S R q4 f10
  have HREST := Lib.hid hrest
  have hcap : cap 1099511627776 = 1099511627776 := rfl
  have hcap2 : cap 65536 = 65536 := rfl
  have HC1 := Lib.hid hcap
  have HC2 := Lib.hid hcap2
  clear hcap hcap2 f1 f3 f5 f6 f8 f10 hrest hSl hz hS sU sX sT sY sz1 sz2 sz3 hL hLB hTB hUB hLlen hzs hc htl
  generalize q1 + 8 = q2 at *
  go_enter Tryd.func5, Tryd.ntmps5
  go_wp2_with fail
  refine (cuint_any n _ HN.out).mono ?_
  rintro e w1 ⟨rfl, hb1⟩
  rw [← HU.out]
  have HB1 := Lib.hid hb1; clear hb1
  go_wp2_with fail
  refine (cword_any n _ HN.out).mono ?_
  rintro e w2 ⟨rfl, hb1⟩
  rw [← HX.out]
  have HB2 := Lib.hid (HB1.out.trans (hb1.mono HB1.out.size)); clear hb1
  go_wp2_with fail
  refine (ctext_any s _ (by omega)).mono ?_
  rintro e w3 ⟨rfl, hb1⟩
  rw [← HT.out]
  have HB3 := Lib.hid (HB2.out.trans (hb1.mono HB2.out.size)); clear hb1
  go_wp2_with fail
  refine (ctexts_some b o len cp zs _ hl (by omega) (Nat.lt_of_lt_of_le hb HB3.out.size) (fun i hi => by rw [HB3.out.cell hb]; exact HC.out i hi) (by have := HTL.out; omega)).mono ?_
  rintro e w4 ⟨rfl, hb1⟩
  rw [← HY.out]
  have HB4 := Lib.hid (HB3.out.trans (hb1.mono HB3.out.size)); clear hb1
  go_wp2_with fail
  clear ad1 ad2 ad3 ad4
  refine (new_any S _).mono ?_
  rintro e w5 ⟨rfl, hw⟩
  have HR5 := Lib.hid (new_is S w4)
  rw [← hw] at HR5
  have HB5 : Hid (Below w.heap.size w w5) := Lib.hid (by rw [hw]; exact HB4.out.alloc HB4.out.size _)
  have hg4 := HB4.out.size
  clear hw
  go_wp2_with fail
  refine (ruint_is w4.heap.size 0 S 0 18446744073709551615 _ (Nat.zero_le _) (by have := HSS.out; omega) (by decide) HR5.out).mono ?_
  rintro e w6 ⟨ev, rfl, he, hr, hb1⟩
  rw [F1.out] at he hr ⊢
  obtain rfl := ev_ok he
  have HR6 := Lib.hid hr
  have HB6 := Lib.hid (HB5.out.trans (hb1.below hg4 HB5.out.size))
  clear he hr hb1
  go_wp2_with fail
  refine (rword_is w4.heap.size 0 S q1 _ f2 (by have := HSS.out; omega) HR6.out).mono ?_
  rintro e w7 ⟨ev, rfl, he, hr, hb1⟩
  rw [F3.out] at he hr ⊢
  obtain rfl := ev_ok he
  have HR7 := Lib.hid hr
  have HB7 := Lib.hid (HB6.out.trans (hb1.below hg4 HB6.out.size))
  clear he hr hb1
  go_wp2_with fail
  refine (rtext_is w4.heap.size 0 S q2 1099511627776 _ f4 (by have := HSS.out; omega) (by decide) HR7.out).mono ?_
  rintro e w8 ⟨ev, rfl, he, hr, hb1⟩
  rw [HC1.out, F5.out] at he hr ⊢
  dsimp only at he hr ⊢
  rw [F6.out]
  obtain rfl := ev_ok he
  have HR8 := Lib.hid hr
  have HB8 := Lib.hid (HB7.out.trans (hb1.below hg4 HB7.out.size))
  clear he hr hb1
  go_wp2_with fail
  refine (rtexts_is w4.heap.size 0 S q3 65536 1099511627776 _ f7 (by have := HSS.out; omega) (by decide) (by decide) HR8.out).mono ?_
  rintro e w9 ⟨v9, ev, rfl, hown, he, hr, hb1⟩
  rw [HC1.out, HC2.out, F8.out] at he hr hown
  dsimp only at he hr hown
  obtain rfl := ev_ok he
  have HR9 := Lib.hid hr
  have HB9 := Lib.hid (HB8.out.trans (hb1.below hg4 HB8.out.size))
  have HO9 := Lib.hid hown
  clear he hr hb1
  rcases own_open hown with ⟨rfl, h0⟩ | ⟨g, cg, rfl, hg, hglt, hgm, hgc⟩
  · exfalso
    have := HLL.out
    rw [h0] at this
    simp at this
    omega
  rw [HLL.out]
  have HGC := Lib.hid (show ∀ i, i < len → w9.cell? ⟨g, i, none⟩ = some (.string (zs.getD i ByteArray.empty)) from fun i hi => by
    have := hgc i (by rw [HLL.out]; exact hi)
    rw [Nat.zero_add] at this
    rw [this, HG.out i hi])
  have HGL := Lib.hid hglt
  have HGG := Lib.hid hg
  clear hown hgc hgm hglt hg
  go_wp2_with fail
  refine (rest_is w4.heap.size 0 S q4 _ f9 HR9.out).mono ?_
  rintro e w10 ⟨rfl, z, rfl⟩
  rw [HREST.out]
  have HR10 := Lib.hid (HR9.out.drewN z)
  have HB10 := Lib.hid (below_drewN HB9.out z)
  go_wp2_with fail
  refine (rend_is w4.heap.size 0 S q4 _ f9 HR10.out).mono ?_
  rintro e w11 ⟨ev, rfl, he, -, hb1⟩
  have HB11 := Lib.hid (HB10.out.trans (hb1.below hg4 HB10.out.size))
  have HK := Lib.hid (But.trans ((But.refl w4.heap.size w9).drewN z) hb1)
  clear hb1
  by_cases hR : R.data.toList = []
  · rw [end_none_left S q4 (by rw [F10.out, hR])] at he
    obtain rfl := ev_ok he
    have e1 : R.toList = [] := by rw [ByteArray.toList_eq]; exact hR
    have e2 : R.toList.isEmpty = true := by rw [e1]; rfl
    clear he hR
    go_wp2_with fail
    go_loopw [18] (fun i wr => ∃ k q : Nat, k ≤ len ∧ i = .int .i64 k ∧ wr = w11.drewN q) (fun i _ => len - (intOf i).toNat)
    case atStart => exact ⟨0, 0, Nat.zero_le _, rfl, rfl⟩
    case round =>
      obtain ⟨k, q, hk, rfl, rfl⟩ := hrel
      by_cases hlt : k < len
      · have hdec : decide (k < len) = true := by simpa using hlt
        have hcb : w11.cell? ⟨b, o + k, none⟩ = some (.string (zs.getD k ByteArray.empty)) := by rw [HB11.out.cell hb]; exact HC.out k hlt
        have hcg : w11.cell? ⟨g, k, none⟩ = some (.string (zs.getD k ByteArray.empty)) := by rw [HK.out.cell HGL.out (show g ≠ _ by have := HGG.out; have := HR8.out.lt; omega)]; exact HGC.out k hlt
        generalize zs.getD k ByteArray.empty = x at *
        go_wp2_with fail
        go_quiet (fail)
        go_wp2_with fail
        go_roundw
        case rel => exact ⟨k + 1, _, by omega, by go_num, rfl⟩
        case measure => simp [intOf]; omega
      · have hdec : decide (k < len) = false := by simpa using hlt
        have HB12 := Lib.hid (below_drewN HB11.out q)
        go_wp2_with fail
        refine (alive_any _ (HV.out.below HB12.out)).mono ?_
        rintro e w12 ⟨rfl, hb1⟩
        have HB13 := Lib.hid (HB12.out.trans (hb1.mono HB12.out.size)); clear hb1
        go_wp2_with fail
        go_ret
        exact ⟨rfl, HB13.out⟩
  · rw [end_some_left S q4 R.data.toList hR F10.out] at he
    obtain ⟨f, rfl⟩ := ev_err he (by decide)
    have e2 : R.toList.isEmpty = false := by
      rw [ByteArray.toList_eq]
      cases e : R.data.toList with
      | nil => exact absurd e hR
      | cons x r => rfl
    clear he hR
    go_wp2_with fail
    go_loopw [18] (fun i wr => ∃ k q : Nat, k ≤ len ∧ i = .int .i64 k ∧ wr = w11.drewN q) (fun i _ => len - (intOf i).toNat)
    case atStart => exact ⟨0, 0, Nat.zero_le _, rfl, rfl⟩
    case round =>
      obtain ⟨k, q, hk, rfl, rfl⟩ := hrel
      by_cases hlt : k < len
      · have hdec : decide (k < len) = true := by simpa using hlt
        have hcb : w11.cell? ⟨b, o + k, none⟩ = some (.string (zs.getD k ByteArray.empty)) := by rw [HB11.out.cell hb]; exact HC.out k hlt
        have hcg : w11.cell? ⟨g, k, none⟩ = some (.string (zs.getD k ByteArray.empty)) := by rw [HK.out.cell HGL.out (show g ≠ _ by have := HGG.out; have := HR8.out.lt; omega)]; exact HGC.out k hlt
        generalize zs.getD k ByteArray.empty = x at *
        go_wp2_with fail
        go_quiet (fail)
        go_wp2_with fail
        go_roundw
        case rel => exact ⟨k + 1, _, by omega, by go_num, rfl⟩
        case measure => simp [intOf]; omega
      · have hdec : decide (k < len) = false := by simpa using hlt
        have HB12 := Lib.hid (below_drewN HB11.out q)
        go_wp2_with fail
        refine (alive_any _ (HV.out.below HB12.out)).mono ?_
        rintro e w12 ⟨rfl, hb1⟩
        have HB13 := Lib.hid (HB12.out.trans (hb1.mono HB12.out.size)); clear hb1
        go_wp2_with fail
        go_ret
        exact ⟨rfl, HB13.out⟩

theorem back_long (a : Option Addr) (len cp : Nat) (n : Nat) (s R : ByteArray) (w : World) (h : 65536 < len) (hm : len ≤ 9223372036854775807) (hv : Vars w) :
    Calls Tryd.prog 5 #[.int .u64 n, .string s, .slice a len cp, .string R] w fun e w' => e = .returned (.bool true) ∧ Below w.heap.size w w' := by
  have HV := Lib.hid hv; clear hv
  have hd : decide (65536 < len) = true := by simpa using h
  go_enter Tryd.func5, Tryd.ntmps5
  go_wp2_with fail
  refine (alive_any _ HV.out).mono ?_
  rintro e w1 ⟨rfl, hb1⟩
  have HB1 := Lib.hid hb1; clear hb1
  go_wp2_with fail
  go_ret
  exact ⟨rfl, HB1.out⟩
end CodeC
end Go.Proofs.YtgjcbcakmcgjhaaDoor
