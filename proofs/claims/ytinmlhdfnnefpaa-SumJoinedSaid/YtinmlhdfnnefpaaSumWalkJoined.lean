/-
  The statement of joined texts, walked: there and back, both behind one another.
-/
import Derived.Test.YtinmlhdfnnefpaaSumAll
import Derived.Test.YtinmlhdfnnefpaaSumAlive
namespace Go.Proofs.Ytinmlhdfnnefpaa
open Go.RowKit
namespace SumC
open SumM

theorem read_back (n : Nat) (w : World) (h : n < 18446744073709551616) :
    Calls Try.prog 15 #[.string ⟨(digits n 16).toArray⟩] w fun e w' => e = .returned (.tuple #[.int .u64 (n : Int), .int .i64 0]) ∧ w = w' := by
  have hl : (⟨(digits n 16).toArray⟩ : ByteArray).size ≤ maxLen := by
    show (digits n 16).toArray.size ≤ maxLen
    rw [List.size_toArray, digits_length]; decide
  refine (read_any _ w hl).mono ?_
  rintro e w' ⟨rfl, hw⟩
  refine ⟨?_, hw⟩
  show Ending.returned (.tuple #[.int .u64 (readN (digits n 16)), .int .i64 (readE (digits n 16))]) = _
  rw [readN_text n h, readE_text n h]

theorem all_two (a b : ByteArray) (w : World) (ha : a.size ≤ maxLen) (hb : b.size ≤ maxLen) :
    Calls Try.prog 13 #[.slice (some ⟨w.heap.size, 0, none⟩) 2 2] (w.alloc (.cells #[.string a, .string b] 9))
      fun e w' => e = .returned (.int .u64 (fnv (fnv ofNone a.data.toList) b.data.toList)) ∧ w.alloc (.cells #[.string a, .string b] 9) = w' := by
  refine all_some w.heap.size 0 2 2 [a, b] _ (Nat.le_refl 2) (by decide) (fun i hi => ?_) (fun i hi => ?_)
  · rw [Nat.zero_add, World.cell?_alloc_at _ _ _ _ rfl]
    match i, hi with
    | 0, _ => rfl
    | 1, _ => rfl
  · match i, hi with
    | 0, _ => exact ha
    | 1, _ => exact hb

set_option maxHeartbeats 400000 in
theorem joined_any (a b : ByteArray) (n : Nat) (w : World) (ha : a.size ≤ 140737488351232) (hb : b.size ≤ 140737488351232) (h : n < 18446744073709551616) :
    Calls Try.prog 6 #[.string a, .string b, .int .u64 n] w fun e w' => e = .returned (.bool true) ∧ Below w.heap.size w w' := by
  have hab : a.size + b.size ≤ 9223372036854775807 := by omega
  have hadd := fun (w : World) => run_string_add_sum (P := Try.prog) w a b hab
  have hap := fnv_append ofNone a.data.toList b.data.toList
  have hlab : (a ++ b).size ≤ maxLen := by rw [ByteArray.size_append]; unfold maxLen; omega
  have hla : a.size ≤ maxLen := by unfold maxLen; omega
  have hlb : b.size ≤ maxLen := by unfold maxLen; omega
  go_enter Try.func6, Try.ntmps6
  go_wp2_with fail
  refine (text_any n _ h).mono ?_
  rintro e w1 ⟨rfl, hb1⟩
  have HB1 := Lib.hid hb1; clear hb1
  go_wp2_with fail
  refine (read_back n _ h).mono ?_
  rintro e w' ⟨rfl, rfl⟩
  go_wp2_with fail
  refine (of_any _ _ hlab).mono ?_
  rintro e w' ⟨rfl, rfl⟩
  go_wp2_with fail
  refine (of_any _ _ hla).mono ?_
  rintro e w' ⟨rfl, rfl⟩
  go_wp2_with fail
  refine (more_any _ _ _ hlb).mono ?_
  rintro e w' ⟨rfl, rfl⟩
  go_wp2_with fail
  refine (all_two a b w1 hla hlb).mono ?_
  rintro e w' ⟨rfl, rfl⟩
  go_wp2_with fail
  refine (of_any _ _ hlab).mono ?_
  rintro e w' ⟨rfl, rfl⟩
  go_wp2_with fail
  refine (alive_any _).mono ?_
  rintro e w3 ⟨rfl, hb3⟩
  go_wp2_with fail
  go_ret
  have hs := HB1.out.size
  have hB := HB1.out.alloc hs (.cells #[Value.string a, Value.string b] 9)
  exact ⟨rfl, hB.trans (hb3.mono hB.size)⟩
end SumC
end Go.Proofs.Ytinmlhdfnnefpaa
