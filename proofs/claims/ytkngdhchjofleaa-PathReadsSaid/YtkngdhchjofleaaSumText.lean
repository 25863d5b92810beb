/-
  The text of a sum: what sum.Text and the document's own answer make.
-/
import Derived.Test.YtkngdhchjofleaaSumCalls
import Derived.Laws.BytesString
import Derived.Lib.SlBytesRow
namespace Go.Proofs.Ytkngdhchjofleaa
open Go.RowKit
namespace SumC
open SumM

theorem hex_cut (d : Nat) (w : World) (h : d < 16) :
    (Instr.slice 9 (.string ⟨#[48, 49, 50, 51, 52, 53, 54, 55, 56, 57, 97, 98, 99, 100, 101, 102]⟩) (some (.int .u64 (d : Int))) (some (.int .u64 ((d : Int) + 1))) none).run Try.prog w = .ok (.string ⟨#[hd d]⟩) w := by
  rcases (by omega : d = 0 ∨ d = 1 ∨ d = 2 ∨ d = 3 ∨ d = 4 ∨ d = 5 ∨ d = 6 ∨ d = 7 ∨ d = 8 ∨ d = 9 ∨ d = 10 ∨ d = 11 ∨ d = 12 ∨ d = 13 ∨ d = 14 ∨ d = 15) with rfl | rfl | rfl | rfl | rfl | rfl | rfl | rfl | rfl | rfl | rfl | rfl | rfl | rfl | rfl | rfl <;> kernel_rfl
theorem hex_cut' (x : Nat) (w : World) :
    (Instr.slice 9 (.string ⟨#[48, 49, 50, 51, 52, 53, 54, 55, 56, 57, 97, 98, 99, 100, 101, 102]⟩) (some (.int .u64 ((x : Int) % 16))) (some (.int .u64 ((x : Int) % 16 + 1))) none).run Try.prog w = .ok (.string ⟨#[hd (x % 16)]⟩) w := by
  have h := hex_cut (x % 16) w (by omega)
  rw [show ((x % 16 : Nat) : Int) = (x : Int) % 16 from by omega] at h
  exact h

set_option maxHeartbeats 400000 in
theorem hex_any (n m : Nat) (w : World) (h1 : n < 18446744073709551616) (hm : m ≤ 16) :
    Calls Try.prog 37 #[.int .u64 n, .int .i64 m] w fun e w' => e = .returned (.string ⟨(digits n m).toArray⟩) ∧ w = w' := by
  have H1 := Lib.hid h1; clear h1
  go_enter Try.func37, Try.ntmps37
  go_wp2
  go_loop [0, 5, 6] (fun x s i => ∃ k : Nat, k ≤ m ∧ i = .int .i64 k ∧ x = .int .u64 (n / 16 ^ k : Nat) ∧ s = .string ⟨(digits n k).toArray⟩) (fun _ _ i => m - (intOf i).toNat)
  case atStart => exact ⟨0, Nat.zero_le _, rfl, by simp, rfl⟩
  case round =>
    obtain ⟨k, hk, rfl, rfl, rfl⟩ := hrel
    by_cases hlt : k < m
    · have hdiv := Lib.hid (div_step n k)
      have hX : n / 16 ^ k ≤ 18446744073709551615 := by have := H1.out; have := Nat.div_le_self n (16 ^ k); omega
      have hd := Lib.hid (show digits n (k + 1) = hd (n / 16 ^ k % 16) :: digits n k from rfl)
      have hlen : (digits n k).length ≤ 16 := by rw [digits_length]; omega
      generalize n / 16 ^ k = X at *
      generalize digits n k = D at *
      have hdec : decide (k < m) = true := by simpa using hlt
      have hand := and15 X hX
      have hcut := hex_cut' X w
      go_wp2
      go_round
      case rel => exact ⟨k + 1, by omega, by go_num, by rw [← hdiv.out]; go_num, by rw [hd.out, str_cons]⟩
      case measure => simp [intOf]; omega
    · have hdec : decide (k < m) = false := by simpa using hlt
      go_wp2
      go_ret
      exact ⟨by rw [show k = m from by omega]; rfl, rfl⟩
end SumC
end Go.Proofs.Ytkngdhchjofleaa
