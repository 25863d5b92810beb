/-
  The statement of any bytes, walked: the record at the front, and all of them.
-/
import Derived.Test.YtpmbokklpidohaaDoorFrameAlive
namespace Go.Proofs.YtpmbokklpidohaaDoor
open Go.RowKit
namespace FrameC
open FrameM TextR ErrC

theorem rfront_is (l : List UInt8) (w : World) (hp : l.length ≤ 4611686018427387000) :
    Calls Tryd.prog 15 #[.string (str l)] w fun e w' => e = .returned (.tuple #[.string (str (frontP l)), .string (str (frontR l)), .int .i64 (frontE l : Nat)]) ∧ Below w.heap.size w w' := rfront_any l w hp

theorem all_le (l : List UInt8) : ∀ n, l.length ≤ n → (allB l).2.1 ≤ l.length ∧ (allB l).2.2 ≤ 100 ∧ 12 * (allB l).1.length ≤ l.length
  | 0, h => by
    obtain rfl : l = [] := List.length_eq_zero_iff.1 (by omega)
    rw [all_nil]; simp
  | n + 1, h => by
    by_cases h0 : l = []
    · subst h0; rw [all_nil]; simp
    · by_cases he : frontE l = 0
      · have hf := front_len l he
        have hr : (restB l).length = l.length - (12 + lenB l) := by rw [restB, List.length_drop]
        have ih := all_le (restB l) n (by omega)
        rw [all_cons l h0 he]
        simp only [List.length_cons]
        omega
      · rw [all_bad l h0 he]
        have := frontE_le l
        simp; omega

theorem text_same (s : ByteArray) : (!s.toList == s.toList) = false := by simp

set_option maxHeartbeats 4000000 in
set_option maxRecDepth 100000 in
theorem fronts_any (l : List UInt8) (w : World) (hp : l.length ≤ 140737488351232) (hv : Vars w) :
    Calls Tryd.prog 5 #[.string (str l)] w fun e w' => e = .returned (.bool true) ∧ Below w.heap.size w w' := by
  have HV := Lib.hid hv; clear hv
  have h1 := Lib.hid (fun w => front_any l w (by omega))
  have h2 := Lib.hid (fun w => rfront_is l w (by omega))
  have h3 := Lib.hid (fun w => all_any l w hp)
  have h4 := Lib.hid (fun w => rall_any l w hp)
  have hc := Lib.hid (frontE_le l)
  obtain ⟨b1, b2, b3⟩ := all_le l l.length (Nat.le_refl _)
  unfold FrontE at h1
  unfold AllE at h3
  unfold aEnd at h4
  generalize frontE l = c at *
  generalize frontP l = P at *
  generalize frontR l = R at *
  generalize allB l = r at *
  obtain ⟨ms, u, k⟩ := r
  dsimp only at *
  have hpb := str_same P
  have hrb := str_same R
  obtain ⟨L, hL⟩ : ∃ L, L = ms.map str := ⟨_, rfl⟩
  rw [← hL] at h3 h4
  have hLl : L.length ≤ 140737488351232 := by rw [hL, List.length_map]; omega
  clear b3 hL
  go_enter Tryd.func5, Tryd.ntmps5
  go_wp2_with fail
  refine (h1.out _).mono ?_
  rintro e w1 ⟨ev, rfl, he, hb⟩
  have HB1 := Lib.hid hb; clear hb
  have HE1 := Lib.hid he; clear he
  go_wp2_with fail
  refine (h2.out _).mono ?_
  rintro e w2 ⟨rfl, hb⟩
  have HE2 := Lib.hid (HE1.out.below hb); clear HE1
  have HB2 := Lib.hid (HB1.out.trans (hb.mono HB1.out.size)); clear hb
  go_wp2_with fail
  refine (is_ferr HE2.out hc.out (by decide) 0 (fun _ => rfl) (HV.out.below HB2.out)).mono ?_
  rintro e w3 ⟨rfl, hb⟩
  have HB3 := Lib.hid (HB2.out.trans (hb.mono HB2.out.size)); clear hb
  go_wp2_with fail
  refine (h3.out _).mono ?_
  rintro e w4 ⟨v4, ev4, rfl, ho, he, hb⟩
  have HE4 := Lib.hid he; clear he
  have HO4 := Lib.hid ho; clear ho
  have HB4 := Lib.hid (HB3.out.trans (hb.mono HB3.out.size)); clear hb
  go_wp2_with fail
  refine (h4.out _).mono ?_
  rintro e w5 ⟨v5, rfl, ho, hb⟩
  have HE5 := Lib.hid (HE4.out.below hb); clear HE4
  have HO5 := Lib.hid ho; clear ho
  have HO4' := Lib.hid (below_own HO4.out hb); clear HO4
  have HB5 := Lib.hid (HB4.out.trans (hb.mono HB4.out.size)); clear hb
  obtain ⟨a4, cp4, hv4, h4c⟩ := HO4'.out.open_
  obtain ⟨a5, cp5, hv5, h5c⟩ := HO5.out.open_
  subst hv4; subst hv5
  have H4C := Lib.hid h4c; clear h4c
  have H5C := Lib.hid h5c; clear h5c
  clear HO4' HO5
  go_wp2_with fail
  refine (is_ferr HE5.out b2 (by omega) u (fun _ => rfl) (HV.out.below HB5.out)).mono ?_
  rintro e w6 ⟨rfl, hb⟩
  have HB6 := Lib.hid (HB5.out.trans (hb.mono HB5.out.size))
  have HB56 := Lib.hid hb; clear hb
  clear HE5 HE2
  go_wp2_with fail
  go_loopw [15] (fun vi wr => ∃ i q : Nat, i ≤ L.length ∧ vi = .int .i64 i ∧ wr = w6.drewN q) (fun vi _ => L.length - (intOf vi).toNat)
  case atStart => exact ⟨0, 0, Nat.zero_le _, rfl, rfl⟩
  case round =>
    obtain ⟨i, q, hi, rfl, rfl⟩ := hrel
    by_cases hlt : i < L.length
    · have hdec : decide (i < L.length) = true := by simpa using hlt
      obtain ⟨g4, rfl, -, hg4, hc4⟩ := H4C.out (by omega)
      obtain ⟨g5, rfl, -, hg5, hc5⟩ := H5C.out (by omega)
      have k4 : w6.cell? ⟨g4, i, none⟩ = some (.string L[i]) := by rw [HB56.out.cell hg4]; exact hc4 i hlt
      have k5 : w6.cell? ⟨g5, i, none⟩ = some (.string L[i]) := by rw [HB56.out.cell hg5]; exact hc5 i hlt
      clear hc4 hc5
      have hts := text_same L[i]
      generalize L[i] = t at *
      go_wp2_with fail
      go_quiet (fail)
      go_wp2_with fail
      go_roundw
      case rel => exact ⟨i + 1, _, by omega, by go_num, rfl⟩
      case measure => simp [intOf]; omega
    · have hdec : decide (i < L.length) = false := by simpa using hlt
      have HBQ := Lib.hid (drewN_below HB6.out q)
      clear H4C H5C
      go_wp2_with fail
      refine (alive_any _ (HV.out.below HBQ.out)).mono ?_
      rintro e w7 ⟨rfl, hb⟩
      have HB7 := Lib.hid (HBQ.out.trans (hb.mono HBQ.out.size)); clear hb
      go_wp2_with fail
      go_ret
      exact ⟨rfl, HB7.out⟩
end FrameC
end Go.Proofs.YtpmbokklpidohaaDoor
