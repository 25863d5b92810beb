/-
  What each function of package sum, and of the document's answer for layer 1, answers: one contract a function (Of and More: SumCore).
-/
import Derived.Test.YtfbdhlpgklkjmaaGreatDoorSumCore
namespace Go.Proofs.YtfbdhlpgklkjmaaGreatDoor
open Go.RowKit
namespace SumC
open SumM

/-! ### digits -/
theorem digit_09 (c : Int) (w : World) (h0 : 48 ≤ c) (h1 : c ≤ 57) :
    Calls Tryz.prog 110 #[.int .u8 c] w fun e w' => e = .returned (.tuple #[.int .u64 (c - 48), .bool true]) ∧ w = w' := by
  go_enter Tryz.func110, Tryz.ntmps110
  go_wp2
  go_ret2
  exact ⟨rfl, rfl⟩
end SumC
end Go.Proofs.YtfbdhlpgklkjmaaGreatDoor
