/-
  The document's examples hold: yanklinelaw01.alive answers true, and writes nothing that was there.
-/
import Derived.Test.YtkngdhchjofleaaSumText
import Derived.Test.YtkngdhchjofleaaSumRead
namespace Go.Proofs.Ytkngdhchjofleaa
open Go.RowKit
namespace SumC
open SumM

theorem rtext_any (n : Nat) (w : World) (h1 : n < 18446744073709551616) :
    Calls Try.prog 30 #[.int .u64 n] w fun e w' => e = .returned (.string ⟨(digits n 16).toArray⟩) ∧ w = w' := by
  go_enter Try.func30, Try.ntmps30
  go_wp2_with fail
  refine (hex_any n 16 _ h1 (by omega)).mono ?_
  rintro e w' ⟨rfl, rfl⟩
  go_wp2_with fail
  go_ret
  exact ⟨rfl, rfl⟩

theorem read_ff (w : World) : Calls Try.prog 24 #[.string ⟨#[102, 102]⟩] w fun e w' => e = .returned (.tuple #[.int .u64 0, .int .i64 10]) ∧ w = w' :=
  (read_any0 ⟨#[102, 102]⟩ w (by decide)).mono fun _ _ ⟨he, hw⟩ => ⟨he.trans (ret_tuple (read_len _ (by decide))), hw⟩
end SumC
end Go.Proofs.Ytkngdhchjofleaa
