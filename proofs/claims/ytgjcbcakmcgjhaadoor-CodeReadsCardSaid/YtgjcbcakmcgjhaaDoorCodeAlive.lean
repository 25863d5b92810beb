/-
  The document's examples of layer 2 hold: yanklinelaw02.alive answers true, and writes nothing that was there.
-/
import Derived.Test.YtgjcbcakmcgjhaaDoorCodeW
import Derived.Test.YtgjcbcakmcgjhaaDoorCodeR6
namespace Go.Proofs.YtgjcbcakmcgjhaaDoor
open Go.RowKit
namespace CodeC
open CodeM ErrC

theorem uintB_300 : uintB 300 = [172, 2] := by rw [uintB_big 300 (by decide), uintB_small (300 / 128) (by decide)]; rfl
theorem textB_ab : textB [97, 98] = [2, 97, 98] := by unfold textB; rw [uintB_small _ (by decide)]; rfl
theorem uint_300 (w : World) : Calls Tryd.prog 8 #[.int .u64 300] w fun e w' => e = .returned (.string ⟨#[172, 2]⟩) ∧ Below w.heap.size w w' :=
  (cuint_any 300 w (by decide)).mono fun _ _ ⟨he, hw⟩ => ⟨by rw [he, uintB_300], hw⟩
theorem text_ab (w : World) : Calls Tryd.prog 12 #[.string ⟨#[97, 98]⟩] w fun e w' => e = .returned (.string ⟨#[2, 97, 98]⟩) ∧ Below w.heap.size w w' :=
  (ctext_any ⟨#[97, 98]⟩ w (by show 2 ≤ _; decide)).mono fun _ _ ⟨he, hw⟩ => ⟨by rw [he]; show Ending.returned (.string ⟨(textB [97, 98]).toArray⟩) = _; rw [textB_ab], hw⟩
/-- an error that is asked for its number, nothing, its place -/
theorem is_err {w0 w : World} {ev : Value} {c : Nat} {a : Int} (he : IsErr w0 w ev c a) (hc : c ≤ 9223372036854775807) (ha : a ≤ 9223372036854775807) (a' : Int) (haa : c ≠ 0 → a' = a) (hv : Vars w) :
    Calls Tryd.prog 26 #[ev, .int .i64 c, .string ⟨#[]⟩, .int .i64 a'] w fun e w' => e = .returned (.bool true) ∧ Below w.heap.size w w' := by
  rcases he with ⟨rfl, rfl⟩ | ⟨h0, f, rfl, hf, hF⟩
  · refine (is_nil _ _ w).mono ?_
    rintro e w' ⟨rfl, rfl⟩
    exact ⟨rfl, Below.refl _ _⟩
  · rw [haa h0]
    exact is_that f 0 c ⟨#[]⟩ a w h0 hc ha (by show 0 ≤ _; decide) hF hv
theorem read_80 : uRes 9 0 ((⟨#[128, 0]⟩ : ByteArray).data.toList.drop 0) = (0, 21, 0, 0) := by decide +kernel

set_option maxHeartbeats 1000000 in
theorem alive_any (w : World) (hv : Vars w) : Calls Tryd.prog 16 #[] w fun e w' => e = .returned (.bool true) ∧ Below w.heap.size w w' := by
  have HV := Lib.hid hv; clear hv
  go_enter Tryd.func16, Tryd.ntmps16
  go_wp2_with fail
  refine (new_any _ _).mono ?_
  rintro e w1 ⟨rfl, hw1⟩
  have HR1 := Lib.hid (new_is ⟨#[128, 0]⟩ w)
  rw [← hw1] at HR1
  have HB1 : Hid (Below w.heap.size w w1) := Lib.hid (by rw [hw1]; exact (Below.refl _ _).alloc (Nat.le_refl _) _)
  clear hw1
  go_wp2_with fail
  refine (ruint_is w.heap.size 0 ⟨#[128, 0]⟩ 0 9 _ (by omega) (by show 2 ≤ _; decide) (by decide) HR1.out).mono ?_
  rintro e w2 ⟨ev, rfl, he, -, hb⟩
  rw [read_80] at he ⊢
  have HE := Lib.hid he; clear he
  have HB2 := Lib.hid (HB1.out.trans (hb.below (Nat.le_refl _) HB1.out.size)); clear hb
  go_wp2_with fail
  refine (uint_300 _).mono ?_
  rintro e w3 ⟨rfl, hb⟩
  have HB3 := Lib.hid (HB2.out.trans (hb.mono HB2.out.size))
  have HK3 := Lib.hid hb; clear hb
  go_wp2_with fail
  refine (text_ab _).mono ?_
  rintro e w4 ⟨rfl, hb⟩
  have HB4 := Lib.hid (HB3.out.trans (hb.mono HB3.out.size))
  have HK4 := Lib.hid (HK3.out.trans (hb.mono HK3.out.size)); clear hb
  go_wp2_with fail
  refine (is_err (w0 := w1) (c := 21) (a := 0) ?_ (by decide) (by decide) 0 (fun _ => rfl) (HV.out.below HB4.out)).mono ?_
  · rcases HE.out with ⟨h, -⟩ | ⟨h, f, h1, h2, h3⟩
    · cases h
    · exact Or.inr ⟨h, f, h1, h2, h3.below HK4.out h3.lt⟩
  rintro e w5 ⟨rfl, hb⟩
  have HB5 := Lib.hid (HB4.out.trans (hb.mono HB4.out.size)); clear hb
  go_wp2_with fail
  refine (rend_nil _).mono ?_
  rintro e w6 ⟨ev6, rfl, f6, rfl, hf6, hF6, hb⟩
  have HB6 := Lib.hid (HB5.out.trans (hb.mono HB5.out.size)); clear hb
  have HF6 := Lib.hid hF6; clear hF6
  go_wp2_with fail
  refine (is_that f6 0 1 ⟨#[]⟩ (-1) _ (by decide) (by decide) (by decide) (by show 0 ≤ _; decide) HF6.out (HV.out.below HB6.out)).mono ?_
  rintro e w7 ⟨rfl, hb⟩
  have HB7 := Lib.hid (HB6.out.trans (hb.mono HB6.out.size)); clear hb
  go_wp2_with fail
  go_ret
  exact ⟨rfl, HB7.out⟩

/-- a fault of what is not there, asked -/
theorem is_nilE {ev : Value} {w0 w1 w : World} (h : NilE ev w0 w1) (hb : Below w1.heap.size w1 w) (hv : Vars w) :
    Calls Tryd.prog 26 #[ev, .int .i64 1, .string ⟨#[]⟩, .int .i64 (-1)] w fun e w' => e = .returned (.bool true) ∧ Below w.heap.size w w' := by
  obtain ⟨f, rfl, hf, hF, -⟩ := h
  exact is_that f 0 1 ⟨#[]⟩ (-1) w (by decide) (by decide) (by decide) (by show 0 ≤ _; decide) (hF.below hb hF.lt) hv
end CodeC
end Go.Proofs.YtgjcbcakmcgjhaaDoor
