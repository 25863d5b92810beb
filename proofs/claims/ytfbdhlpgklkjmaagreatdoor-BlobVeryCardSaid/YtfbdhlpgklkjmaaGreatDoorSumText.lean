/-
  The text of a sum: what sum.Text and the document's own answer make.
-/
import Derived.Test.YtfbdhlpgklkjmaaGreatDoorSumCalls
import Derived.Laws.BytesString
import Derived.Lib.SlBytesRow
namespace Go.Proofs.YtfbdhlpgklkjmaaGreatDoor
open Go.RowKit
namespace SumC
open SumM

/-- the conversion of the whole array to a string -/
theorem text_conv (n k : Nat) (w : World) (hk : k = 16) :
    (convert 45 9 (.slice (some ⟨w.heap.size, 0, none⟩) 16 16)).run Tryz.prog (w.alloc (.cells (arr n k) 114)) = .ok (.string ⟨(digits n 16).toArray⟩) (w.alloc (.cells (arr n k) 114)) := by
  subst hk
  have hs : (⟨(digits n 16).toArray⟩ : ByteArray).size = 16 := digits_length n 16
  have h := Lib.run_convert_whole (P := Tryz.prog) (w.alloc (.cells (arr n 16) 114)) 45 5 9 Tryz.underlying45 Tryz.underlying5 Tryz.underlying9 w.heap.size 0 ⟨(digits n 16).toArray⟩
    (fun i hi => by rw [Nat.zero_add, World.cell?_alloc_at _ _ _ _ rfl]; exact arr_bytes n 16 (by omega) i hi) 16
  rw [hs] at h
  exact h

set_option maxHeartbeats 400000 in
set_option maxRecDepth 100000 in
theorem text_any (n : Nat) (w : World) (h1 : n < 18446744073709551616) :
    Calls Tryz.prog 42 #[.int .u64 n] w fun e w' => e = .returned (.string ⟨(digits n 16).toArray⟩) ∧ Below w.heap.size w w' := by
  have H1 := Lib.hid h1; clear h1
  go_enter Tryz.func42, Tryz.ntmps42
  go_wp2
  rw [← arr_zero n]
  go_loopw [0, 5] (fun x i wr => ∃ k : Nat, k ≤ 16 ∧ i = .int .i64 k ∧ x = .int .u64 (n / 16 ^ k : Nat) ∧ wr = w.alloc (.cells (arr n k) 114)) (fun _ i _ => 16 - (intOf i).toNat)
  case atStart => exact ⟨0, Nat.zero_le _, rfl, by simp, rfl⟩
  case round =>
    obtain ⟨k, hk, rfl, rfl, rfl⟩ := hrel
    by_cases hlt : k < 16
    · have hsz := arr_size n k hk
      obtain ⟨v0, hv0⟩ := arr_get n k hlt
      have hset := Lib.hid (arr_set n k hlt)
      have hdiv := Lib.hid (div_step n k)
      have hX : n / 16 ^ k ≤ 18446744073709551615 := by have := H1.out; have := Nat.div_le_self n (16 ^ k); omega
      generalize n / 16 ^ k = X at *
      generalize arr n k = A at *
      go_wp2
      go_roundw
      case rel => exact ⟨k + 1, by omega, by go_num, by rw [← hdiv.out]; go_num, by rw [← hset.out, ← hd_idx (X % 16) (by omega)]; rfl⟩
      case measure => simp [intOf]; omega
    · have hk16 : k = 16 := by omega
      have hcv := text_conv n k w hk16
      clear hk16
      go_wp2
      go_ret
      exact ⟨rfl, (Below.refl _ _).alloc (Nat.le_refl _) _⟩

theorem hex_cut (d : Nat) (w : World) (h : d < 16) :
    (Instr.slice 9 (.string ⟨#[48, 49, 50, 51, 52, 53, 54, 55, 56, 57, 97, 98, 99, 100, 101, 102]⟩) (some (.int .u64 (d : Int))) (some (.int .u64 ((d : Int) + 1))) none).run Tryz.prog w = .ok (.string ⟨#[hd d]⟩) w := by
  rcases (by omega : d = 0 ∨ d = 1 ∨ d = 2 ∨ d = 3 ∨ d = 4 ∨ d = 5 ∨ d = 6 ∨ d = 7 ∨ d = 8 ∨ d = 9 ∨ d = 10 ∨ d = 11 ∨ d = 12 ∨ d = 13 ∨ d = 14 ∨ d = 15) with rfl | rfl | rfl | rfl | rfl | rfl | rfl | rfl | rfl | rfl | rfl | rfl | rfl | rfl | rfl | rfl <;> kernel_rfl
theorem hex_cut' (x : Nat) (w : World) :
    (Instr.slice 9 (.string ⟨#[48, 49, 50, 51, 52, 53, 54, 55, 56, 57, 97, 98, 99, 100, 101, 102]⟩) (some (.int .u64 ((x : Int) % 16))) (some (.int .u64 ((x : Int) % 16 + 1))) none).run Tryz.prog w = .ok (.string ⟨#[hd (x % 16)]⟩) w := by
  have h := hex_cut (x % 16) w (by omega)
  rw [show ((x % 16 : Nat) : Int) = (x : Int) % 16 from by omega] at h
  exact h

end SumC
end Go.Proofs.YtfbdhlpgklkjmaaGreatDoor
