/-
  The sum of many texts: what sum.All makes of a list.
-/
import Derived.Test.YtlnbjlidakdmlaaGreatDoorSumCore
import Derived.Handy
namespace Go.Proofs.YtlnbjlidakdmlaaGreatDoor
open Go.RowKit
namespace SumC
open SumM

theorem all_none (a : Option Addr) (cap : Nat) (w : World) :
    Calls Tryz.prog 99 #[.slice a 0 cap] w fun e w' => e = .returned (.int .u64 ofNone) ∧ w = w' := by
  go_enter Tryz.func99, Tryz.ntmps99
  go_wp2_with fail
  refine (of_any _ _ (by decide)).mono ?_
  rintro e w' ⟨rfl, rfl⟩
  go_wp2_with fail
  go_rounds 1
  go_ret
  exact ⟨rfl, rfl⟩

set_option maxHeartbeats 400000 in
theorem all_some (b o len cap : Nat) (zs : List ByteArray) (w : World) (hl : len ≤ zs.length) (hm : len ≤ maxLen)
    (hc : ∀ i, i < len → w.cell? ⟨b, o + i, none⟩ = some (.string (zs.getD i ByteArray.empty))) (hs : ∀ i, i < len → (zs.getD i ByteArray.empty).size ≤ maxLen) :
    Calls Tryz.prog 99 #[.slice (some ⟨b, o, none⟩) len cap] w fun e w' => e = .returned (.int .u64 (fnvAll ofNone (zs.take len))) ∧ w = w' := by
  unfold maxLen at hm
  have HC := Lib.hid hc; clear hc
  have HS := Lib.hid hs; clear hs
  go_enter Tryz.func99, Tryz.ntmps99
  go_wp2_with fail
  refine (of_any _ _ (by decide)).mono ?_
  rintro e w' ⟨rfl, rfl⟩
  go_wp2_with fail
  go_loop [3, 9] (fun x i => ∃ k : Nat, k ≤ len ∧ i = .int .i64 k ∧ x = .int .u64 (fnvAll ofNone (zs.take k))) (fun _ i => len - (intOf i).toNat)
  case atStart => exact ⟨0, Nat.zero_le _, rfl, rfl⟩
  case round =>
    obtain ⟨k, hk, rfl, rfl⟩ := hrel
    by_cases hlt : k < len
    · have hdec : decide (k < len) = true := by simpa using hlt
      have hcell := HC.out k hlt
      have hsz := HS.out k hlt
      have HF := Lib.hid (fnvAll_step ofNone zs k (by omega))
      generalize fnvAll ofNone (zs.take k) = X at *
      generalize zs.getD k ByteArray.empty = s at *
      go_wp2_with (go_at_call 117; refine (more_any _ _ _ hsz).mono ?_; rintro e w' ⟨rfl, rfl⟩)
      go_round
      case rel => exact ⟨k + 1, by omega, by go_num, by rw [HF.out]⟩
      case measure => simp [intOf]; omega
    · have hdec : decide (k < len) = false := by simpa using hlt
      go_wp2
      go_ret
      exact ⟨ret_int (by rw [show k = len from by omega]), rfl⟩
end SumC
end Go.Proofs.YtlnbjlidakdmlaaGreatDoor
