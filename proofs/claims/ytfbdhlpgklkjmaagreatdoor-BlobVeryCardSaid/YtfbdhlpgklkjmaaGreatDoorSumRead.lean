/-
  What sum.Read, and the document's own answer, read out of a text.
-/
import Derived.Test.YtfbdhlpgklkjmaaGreatDoorSumCalls
namespace Go.Proofs.YtfbdhlpgklkjmaaGreatDoor
open Go.RowKit
namespace SumC
open SumM

theorem digit_yes (c : Int) (w : World) (h0 : 0 ≤ dval c) :
    Calls Tryz.prog 110 #[.int .u8 c] w fun e w' => e = .returned (.tuple #[.int .u64 (dval c), .bool true]) ∧ w = w' := by
  unfold dval at *
  by_cases h1 : 48 ≤ c ∧ c ≤ 57
  · obtain ⟨ha, hb⟩ := h1
    rw [if_pos ⟨ha, hb⟩]
    clear h0
    go_enter Tryz.func110, Tryz.ntmps110
    go_wp2
    go_ret2
    exact ⟨rfl, rfl⟩
  · rw [if_neg h1] at h0 ⊢
    by_cases h2 : 97 ≤ c ∧ c ≤ 102
    · obtain ⟨ha, hb⟩ := h2
      rw [if_pos ⟨ha, hb⟩]
      clear h0
      have hc : ¬ c ≤ 57 := by omega
      clear h1
      go_enter Tryz.func110, Tryz.ntmps110
      go_wp2
      go_ret2
      exact ⟨rfl, rfl⟩
    · rw [if_neg h2] at h0; omega
theorem digit_no (c : Int) (w : World) (h0 : dval c < 0) :
    Calls Tryz.prog 110 #[.int .u8 c] w fun e w' => e = .returned (.tuple #[.int .u64 0, .bool false]) ∧ w = w' := by
  have h3 : c < 48 ∨ (57 < c ∧ c < 97) ∨ 102 < c := by
    unfold dval at h0; split at h0
    · omega
    · split at h0 <;> omega
  clear h0
  rcases h3 with h | ⟨h, h'⟩ | h <;>
  · go_enter Tryz.func110, Tryz.ntmps110
    go_wp2
    go_ret2
    exact ⟨rfl, rfl⟩
theorem ret_tuple {v u : Value} (h : v = u) : Ending.returned v = .returned u := by rw [h]

set_option maxHeartbeats 400000 in
theorem read_any0 (s : ByteArray) (w : World) (hs : s.size ≤ maxLen) :
    Calls Tryz.prog 78 #[.string s] w fun e w' => e = .returned (readV s.data.toList) ∧ w = w' := by
  unfold maxLen at hs
  by_cases h16 : s.size = 16
  · have hb : ((s.size : Int) != 16) = false := by rw [h16]; rfl
    have h15 : 16 ≤ s.size := by omega
    have H16 := Lib.hid h16; clear h16
    go_enter Tryz.func78, Tryz.ntmps78
    go_wp2
    go_loop [4, 11] (fun x i => ∃ (k : Nat) (X : Int), k ≤ 16 ∧ i = .int .i64 k ∧ x = .int .u64 X ∧ rd 0 s.data.toList = rd X (s.data.toList.drop k)) (fun _ i => 16 - (intOf i).toNat)
    case atStart => exact ⟨0, 0, Nat.zero_le _, rfl, rfl, rfl⟩
    case round =>
      obtain ⟨k, X, hk, rfl, rfl, hr⟩ := hrel
      by_cases hlt : k < 16
      · have hks : k < s.size := by omega
        have HR := Lib.hid (rd_step X s k hks)
        have HQ := Lib.hid hr
        clear hr
        by_cases hd : dval s[k].toNat < 0
        · go_wp2_with (go_at_call 110; refine (digit_no _ _ hd).mono ?_; rintro e w' ⟨rfl, rfl⟩)
          go_ret2
          exact ⟨ret_tuple (read_no _ (by rw [HQ.out, HR.out, if_pos hd])).symm, rfl⟩
        · go_wp2_with (go_at_call 110; refine (digit_yes _ _ (by omega)).mono ?_; rintro e w' ⟨rfl, rfl⟩)
          go_round
          case rel => exact ⟨k + 1, _, by omega, by go_num, rfl, by rw [HQ.out, HR.out, if_neg (by omega)]; rfl⟩
          case measure => simp [intOf]; omega
      · have HE := Lib.hid (rd_end X s k (by have := H16.out; omega))
        have HQ := Lib.hid hr
        clear hr
        go_wp2
        go_ret2
        exact ⟨ret_tuple (read_yes _ _ (by rw [HQ.out, HE.out]) (by simpa using H16.out)).symm, rfl⟩
  · have hb : ((s.size : Int) != 16) = true := by simp; omega
    go_enter Tryz.func78, Tryz.ntmps78
    go_wp2
    go_ret2
    exact ⟨ret_tuple (read_len _ (by simpa using h16)).symm, rfl⟩
theorem read_any (s : ByteArray) (w : World) (hs : s.size ≤ maxLen) :
    Calls Tryz.prog 78 #[.string s] w fun e w' => e = .returned (.tuple #[.int .u64 (readN s.data.toList), .int .i64 (readE s.data.toList)]) ∧ w = w' := read_any0 s w hs
end SumC
end Go.Proofs.YtfbdhlpgklkjmaaGreatDoor
