/-
  The document's own word of eight bytes, and bytes as texts.
-/
import Derived.Test.YtlnbjlidakdmlaaGreatDoorChecked
import Derived.Test.YtlnbjlidakdmlaaGreatDoorCodeMath
import Derived.WalkKit
import Derived.Lib.Hide
import Derived.Laws.BytesArg
import Derived.WalkSmall
namespace Go.Proofs.YtlnbjlidakdmlaaGreatDoor
open Go.RowKit
namespace CodeC
open CodeM

theorem nums_text (l : List UInt8) : strOfNums (l.map fun c => (c.toNat : Int)) = ⟨l.toArray⟩ := by
  apply ByteArray.ext
  apply Array.toList_inj.1
  rw [strOfNums_data, List.map_map]
  show _ = l
  conv => rhs; rw [← List.map_id l]
  apply List.map_congr_left
  intro c _
  simp
theorem shift8 (x k : Nat) : x / 2 ^ (8 * k) = x / 256 ^ k := by rw [Nat.pow_mul]
theorem shift_cast (x k : Nat) : ((x : Int) / 2 ^ (8 * k) % 256) = ((x / 256 ^ k % 256 : Nat) : Int) := by
  rw [← shift8]; simp
set_option maxHeartbeats 1000000 in
set_option maxRecDepth 100000 in
theorem rword_any (x : Nat) (w : World) (h : x < 18446744073709551616) :
    Calls Tryz.prog 79 #[.int .u64 x] w fun e w' => e = .returned (.string ⟨(wordB x 8).toArray⟩) ∧ Below w.heap.size w w' := by
  have H0 := Lib.hid h; clear h
  have hmk : (Instr.makeSlice 87 (.int .i64 8) (.int .i64 8)).run Tryz.prog w = .ok (.slice (some ⟨w.heap.size, 0, none⟩) 8 8) (w.alloc (.cells #[.int .u8 0, .int .u8 0, .int .u8 0, .int .u8 0, .int .u8 0, .int .u8 0, .int .u8 0, .int .u8 0] 5)) := by kernel_rfl
  go_enter Tryz.func79, Tryz.ntmps79
  go_wp2
  clear hmk
  rw [← arrW_zero x]
  go_loopw [4] (fun i wr => ∃ k : Nat, k ≤ 8 ∧ i = .int .i64 k ∧ wr = w.alloc (.cells (arrW x k) 5)) (fun i _ => 8 - (intOf i).toNat)
  case atStart => exact ⟨0, Nat.zero_le _, rfl, rfl⟩
  case round =>
    obtain ⟨k, hk, rfl, rfl⟩ := hrel
    by_cases hlt : k < 8
    · have hsz := arrW_size x k hk
      obtain ⟨v0, hv0⟩ := arrW_get x k hlt
      have hset := Lib.hid (arrW_set x k hlt)
      have hx : x ≤ 18446744073709551615 := by have := H0.out; omega
      generalize arrW x k = A at *
      go_wp2
      go_roundw
      case rel => exact ⟨k + 1, by omega, by go_num, by rw [← hset.out, shift_cast]⟩
      case measure => simp [intOf]; omega
    · have hk8 : k = 8 := by omega
      subst hk8
      have hcv := run_convert_bytes_arg (P := Tryz.prog) (w.alloc (.cells (arrW x 8) 5)) 87 5 Tryz.underlying87 Tryz.underlying5 w.heap.size 0 8 8 ((wordB x 8).map fun c => (c.toNat : Int)) (by simp [wordB_length]) (fun i hi => by rw [Nat.zero_add, World.cell?_alloc_at _ _ _ _ rfl]; exact arrW_bytes x i hi) 9 Tryz.underlying9
      rw [nums_text] at hcv
      go_wp2
      go_ret
      exact ⟨rfl, (Below.refl _ _).alloc (Nat.le_refl _) _⟩

theorem str_add (l : List UInt8) (s : ByteArray) : (⟨l.toArray⟩ : ByteArray) ++ s = ⟨(l ++ s.data.toList).toArray⟩ := by
  apply ByteArray.ext
  simp
end CodeC
end Go.Proofs.YtlnbjlidakdmlaaGreatDoor
