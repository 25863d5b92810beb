/-
  The document's examples hold: yanklinelaw01.alive answers true, and writes nothing that was there.
-/
import Derived.Test.YtinmlhdfnnefpaaSumText
import Derived.Test.YtinmlhdfnnefpaaSumRead
namespace Go.Proofs.Ytinmlhdfnnefpaa
open Go.RowKit
namespace SumC
open SumM

theorem rtext_any (n : Nat) (w : World) (h1 : n < 18446744073709551616) :
    Calls Try.prog 18 #[.int .u64 n] w fun e w' => e = .returned (.string ⟨(digits n 16).toArray⟩) ∧ w = w' := by
  go_enter Try.func18, Try.ntmps18
  go_wp2_with fail
  refine (hex_any n 16 _ h1 (by omega)).mono ?_
  rintro e w' ⟨rfl, rfl⟩
  go_wp2_with fail
  go_ret
  exact ⟨rfl, rfl⟩

theorem of_nil (w : World) : Calls Try.prog 8 #[.string ⟨#[]⟩] w fun e w' => e = .returned (.int .u64 14695981039346656037) ∧ w = w' :=
  (of_any ⟨#[]⟩ w (by decide)).mono fun _ _ ⟨he, hw⟩ => ⟨he.trans (ret_int (by decide +kernel)), hw⟩
theorem of_a (w : World) : Calls Try.prog 8 #[.string ⟨#[97]⟩] w fun e w' => e = .returned (.int .u64 12638187200555641996) ∧ w = w' :=
  (of_any ⟨#[97]⟩ w (by decide)).mono fun _ _ ⟨he, hw⟩ => ⟨he.trans (ret_int (by decide +kernel)), hw⟩
theorem read_ff (w : World) : Calls Try.prog 15 #[.string ⟨#[102, 102]⟩] w fun e w' => e = .returned (.tuple #[.int .u64 0, .int .i64 10]) ∧ w = w' :=
  (read_any0 ⟨#[102, 102]⟩ w (by decide)).mono fun _ _ ⟨he, hw⟩ => ⟨he.trans (ret_tuple (read_len _ (by decide))), hw⟩
theorem text_255 (w : World) : Calls Try.prog 17 #[.int .u64 255] w fun e w' => e = .returned (.string ⟨#[48, 48, 48, 48, 48, 48, 48, 48, 48, 48, 48, 48, 48, 48, 102, 102]⟩) ∧ Below w.heap.size w w' :=
  (text_any 255 w (by decide)).mono fun _ _ ⟨he, hw⟩ => ⟨he.trans (by congr 1), hw⟩

set_option maxHeartbeats 400000 in
theorem alive_any (w : World) : Calls Try.prog 12 #[] w fun e w' => e = .returned (.bool true) ∧ Below w.heap.size w w' := by
  go_enter Try.func12, Try.ntmps12
  go_wp2_with fail
  refine (read_ff _).mono ?_
  rintro e w' ⟨rfl, rfl⟩
  go_wp2_with fail
  refine (of_nil _).mono ?_
  rintro e w' ⟨rfl, rfl⟩
  go_wp2_with fail
  refine (of_a _).mono ?_
  rintro e w' ⟨rfl, rfl⟩
  go_wp2_with fail
  refine (text_255 _).mono ?_
  rintro e w' ⟨rfl, hb⟩
  go_wp2_with fail
  go_ret
  exact ⟨rfl, hb⟩
end SumC
end Go.Proofs.Ytinmlhdfnnefpaa
