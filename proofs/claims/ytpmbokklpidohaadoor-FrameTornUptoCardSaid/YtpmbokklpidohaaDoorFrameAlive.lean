/-
  The document's examples of layer 4 hold: yanklinelaw04.alive answers true, and writes nothing that was there; what the law asks of an error.
-/
import Derived.Test.YtpmbokklpidohaaDoorFrameP3
namespace Go.Proofs.YtpmbokklpidohaaDoor
open Go.RowKit
namespace FrameC
open FrameM TextR ErrC

theorem FErr.nil {w w' : World} {v : Value} {a : Int} (h : FErr w w' v 0 a) : v = .nilIface := by
  rcases h with ⟨-, h⟩ | ⟨h, -⟩
  · exact h
  · exact absurd rfl h
/-- an error that is asked for its number, nothing, its place -/
theorem is_ferr {w0 w : World} {ev : Value} {c : Nat} {a : Int} (he : FErr w0 w ev c a) (hc : c ≤ 100) (ha : a ≤ 9223372036854775807) (a' : Int) (haa : c ≠ 0 → a' = a) (hv : Vars w) :
    Calls Tryd.prog 10 #[ev, .int .i64 c, .string ⟨#[]⟩, .int .i64 a'] w fun e w' => e = .returned (.bool true) ∧ Below w.heap.size w w' := by
  rcases he with ⟨rfl, rfl⟩ | ⟨h0, f, rfl, hf, hF⟩
  · refine (is_nil _ _ w).mono ?_
    rintro e w' ⟨rfl, rfl⟩
    exact ⟨rfl, Below.refl _ _⟩
  · rw [haa h0]
    exact is_that f 0 c ⟨#[]⟩ a w h0 (by omega) ha (by show 0 ≤ _; decide) hF hv
theorem of_ok (p : List UInt8) (w : World) (hp : p.length ≤ 131072) :
    Calls Tryd.prog 8 #[.string (str p)] w fun e w' => e = .returned (.tuple #[.string (str (recB p)), .nilIface]) ∧ Below w.heap.size w w' := by
  refine (of_any p w (by omega)).mono ?_
  rintro e w' ⟨ev, rfl, he, hb⟩
  rw [if_neg (by omega)] at he
  rw [he.nil, if_neg (by omega)]
  exact ⟨rfl, hb⟩
theorem of_long (p : List UInt8) (w : World) (hp : 131072 < p.length) (hl : p.length ≤ 9223372036854775807) :
    Calls Tryd.prog 8 #[.string (str p)] w fun e w' => ∃ f, e = .returned (.tuple #[.string (str []), .iface 60 (.pointer (some ⟨f, 0, none⟩))]) ∧ Below w.heap.size w w' := by
  refine (of_any p w hl).mono ?_
  rintro e w' ⟨ev, rfl, he, hb⟩
  rw [if_pos hp] at he
  rcases he with ⟨h, -⟩ | ⟨-, f, rfl, -, -⟩
  · exact absurd h (by decide)
  · exact ⟨f, by rw [if_pos hp], hb⟩

theorem frontE_le (l : List UInt8) : frontE l ≤ 100 := by
  unfold frontE
  repeat' split
  all_goals omega
theorem front_whole (p r : List UInt8) (w : World) (hp : p.length ≤ 131072) (hr : r.length ≤ 140737488355328) :
    Calls Tryd.prog 14 #[.string (str (recB p ++ r))] w fun e w' => e = .returned (.tuple #[.string (str p), .string (str r), .nilIface]) ∧ Below w.heap.size w w' := by
  refine (front_any _ w (by rw [List.length_append, recB_length]; omega)).mono ?_
  rintro e w' ⟨ev, rfl, he, hb⟩
  rw [front_rec p r hp] at he
  rw [he.nil, frontP, frontR, if_pos (front_rec p r hp), if_pos (front_rec p r hp), pay_rec p r hp, rest_rec p r hp]
  exact ⟨rfl, hb⟩
theorem front_not (l : List UInt8) (c : Nat) (w : World) (hl : l.length ≤ 4611686018427387000) (h : frontE l = c) (hc : c ≠ 0) :
    Calls Tryd.prog 14 #[.string (str l)] w fun e w' => ∃ ev, e = .returned (.tuple #[.string (str []), .string (str []), ev]) ∧ FErr w w' ev c 0 ∧ Below w.heap.size w w' := by
  refine (front_any l w hl).mono ?_
  rintro e w' ⟨ev, rfl, he, hb⟩
  rw [frontP, frontR, if_neg (by omega), if_neg (by omega)]
  rw [h] at he
  exact ⟨ev, rfl, he, hb⟩

set_option maxHeartbeats 4000000 in
set_option maxRecDepth 100000 in
theorem alive_any (w : World) (hv : Vars w) : Calls Tryd.prog 13 #[] w fun e w' => e = .returned (.bool true) ∧ Below w.heap.size w w' := by
  have HV := Lib.hid hv; clear hv
  have hlen : (recB [97, 98, 99]).length = 15 := recB_length _
  have hsz := str_size (recB [97, 98, 99])
  rw [hlen] at hsz
  have a1 : ∀ w, (Op.stringOp .add (str (recB [97, 98, 99])) ⟨#[120]⟩).run Tryd.prog w = .ok (.string (str (recB [97, 98, 99] ++ [120]))) w := fun w => add_any (recB [97, 98, 99]) [120] w (by rw [hlen]; decide)
  have t1 : (str [97, 98, 99]).toList = [97, 98, 99] := by rw [ByteArray.toList_eq]; rfl
  have t2 : (str [120]).toList = [120] := by rw [ByteArray.toList_eq]; rfl
  have s1 := sl_to (recB [97, 98, 99]) 7 7 rfl (by omega)
  have h1 := Lib.hid (fun w => of_ok [97, 98, 99] w (by decide))
  have h2 := Lib.hid (fun w => front_whole [97, 98, 99] [120] w (by decide) (by decide))
  have h3 := Lib.hid (fun w => front_not ((recB [97, 98, 99]).take 7) 40 w (by rw [List.length_take]; omega) (front_short _ (by rw [List.length_take]; omega)) (by decide))
  generalize recB [97, 98, 99] = R at *
  go_enter Tryd.func13, Tryd.ntmps13
  go_wp2_with fail
  refine (h1.out _).mono ?_
  rintro e w1 ⟨rfl, hb⟩
  have HB1 := Lib.hid hb; clear hb
  go_wp2_with fail
  refine (h2.out _).mono ?_
  rintro e w2 ⟨rfl, hb⟩
  have HB2 := Lib.hid (HB1.out.trans (hb.mono HB1.out.size)); clear hb
  go_wp2_with fail
  refine (h3.out _).mono ?_
  rintro e w3 ⟨ev, rfl, he, hb⟩
  have HE3 := Lib.hid he; clear he
  have HB3 := Lib.hid (HB2.out.trans (hb.mono HB2.out.size)); clear hb
  go_wp2_with fail
  refine (size_any [97, 98, 99] _ (by decide)).mono ?_
  rintro e w4 ⟨rfl, rfl⟩
  go_wp2_with fail
  refine (is_ferr HE3.out (by decide) (by decide) 0 (fun _ => rfl) (HV.out.below HB3.out)).mono ?_
  rintro e w5 ⟨rfl, hb⟩
  have HB5 := Lib.hid (HB3.out.trans (hb.mono HB3.out.size)); clear hb
  go_wp2_with fail
  go_ret
  exact ⟨rfl, HB5.out⟩
end FrameC
end Go.Proofs.YtpmbokklpidohaaDoor
