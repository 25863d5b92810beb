/-
  The document's examples hold: yanklinelaw01.alive answers true, and writes nothing that was there.
-/
import Derived.Test.YtfbdhlpgklkjmaaGreatDoorSumText
import Derived.Test.YtfbdhlpgklkjmaaGreatDoorSumRead
namespace Go.Proofs.YtfbdhlpgklkjmaaGreatDoor
open Go.RowKit
namespace SumC
open SumM

theorem of_nil (w : World) : Calls Tryz.prog 27 #[.string ⟨#[]⟩] w fun e w' => e = .returned (.int .u64 14695981039346656037) ∧ w = w' :=
  (of_any ⟨#[]⟩ w (by decide)).mono fun _ _ ⟨he, hw⟩ => ⟨he.trans (ret_int (by decide +kernel)), hw⟩
theorem of_a (w : World) : Calls Tryz.prog 27 #[.string ⟨#[97]⟩] w fun e w' => e = .returned (.int .u64 12638187200555641996) ∧ w = w' :=
  (of_any ⟨#[97]⟩ w (by decide)).mono fun _ _ ⟨he, hw⟩ => ⟨he.trans (ret_int (by decide +kernel)), hw⟩
theorem read_ff (w : World) : Calls Tryz.prog 78 #[.string ⟨#[102, 102]⟩] w fun e w' => e = .returned (.tuple #[.int .u64 0, .int .i64 10]) ∧ w = w' :=
  (read_any0 ⟨#[102, 102]⟩ w (by decide)).mono fun _ _ ⟨he, hw⟩ => ⟨he.trans (ret_tuple (read_len _ (by decide))), hw⟩
theorem text_255 (w : World) : Calls Tryz.prog 42 #[.int .u64 255] w fun e w' => e = .returned (.string ⟨#[48, 48, 48, 48, 48, 48, 48, 48, 48, 48, 48, 48, 48, 48, 102, 102]⟩) ∧ Below w.heap.size w w' :=
  (text_any 255 w (by decide)).mono fun _ _ ⟨he, hw⟩ => ⟨he.trans (by congr 1), hw⟩

end SumC
end Go.Proofs.YtfbdhlpgklkjmaaGreatDoor
