/-
  Package code's reader: a number.
-/
import Derived.Test.YtgjcbcakmcgjhaaDoorCodeR
import Derived.Lib.IndexBytes
namespace Go.Proofs.YtgjcbcakmcgjhaaDoor
open Go.RowKit
namespace CodeC
open CodeM ErrC

def nEnd (v e : Nat) : Ending := .returned (.tuple #[.int .u64 v, .int .i64 e])
theorem nEnd_of {most k v e p q : Nat} {l : List UInt8} (h : uRes most k l = (v, e, p, q)) : .returned (.tuple #[.int .u64 v, .int .i64 e]) = nEnd (uRes most k l).1 (uRes most k l).2.1 := by rw [h]; rfl

theorem num_none (most : Nat) (w : World) :
    Calls Tryd.prog 37 #[.pointer none, .int .u64 most] w fun e w' => e = nEnd 0 20 ∧ w = w' := by
  go_enter Tryd.func37, Tryd.ntmps37
  go_wp2_with fail
  refine (rest_none _).mono ?_
  rintro e w' ⟨rfl, rfl⟩
  go_wp2_with fail
  refine wp_loop_rounds 1 ?_; rw [rounds_succ]; go_wp2_with fail
  go_ret2
  exact ⟨rfl, rfl⟩

theorem rest_facts (s : ByteArray) (k : Nat) : (s.extract k s.size).data.toList = s.data.toList.drop k ∧ (s.extract k s.size).size = s.size - k :=
  ⟨Lib.extract_to_end s k, by simp⟩

theorem nand_low (c : Nat) (h : c < 256) : bits .andNot .u8 (c : Int) 128 = (c : Int) % 128 := by
  have H : ∀ n : Fin 256, bits .andNot .u8 (n.val : Int) 128 = (n.val : Int) % 128 := by decide +kernel
  exact H ⟨c, h⟩

theorem ur_short {n x : Nat} {l : List UInt8} (h : n ≠ 10) (hl : l = []) : ur n x l = .inl 20 := by subst hl; simp [ur, h]

set_option maxHeartbeats 4000000 in
set_option maxRecDepth 100000 in
theorem num_is (b o : Nat) (s : ByteArray) (k : Nat) (most : Nat) (w : World) (hk : k ≤ s.size) (hs : s.size ≤ 4611686018427387904) (hm : most < 18446744073709551616) (hr : IsRdr w b o s k) :
    Calls Tryd.prog 37 #[.pointer (some ⟨b, o, none⟩), .int .u64 most] w fun e w' =>
      e = nEnd (uRes most k (s.data.toList.drop k)).1 (uRes most k (s.data.toList.drop k)).2.1 ∧ IsRdr w' b o s (uRes most k (s.data.toList.drop k)).2.2.2 ∧ Only b w w' := by
  have HR := Lib.hid hr
  have h1 := hr.at_
  have h2 := hr.free
  have h3 := hr.made
  clear hr
  have HM := Lib.hid hm; clear hm
  obtain ⟨hRd, hRs⟩ := rest_facts s k
  have HRd := Lib.hid hRd; clear hRd
  have HRs := Lib.hid hRs; clear hRs
  go_enter Tryd.func37, Tryd.ntmps37
  go_wp2_with fail
  refine (rest_is b o s k _ hk HR.out).mono ?_
  rintro e w1 ⟨rfl, q, rfl⟩
  generalize s.extract k s.size = R at *
  have hRsz : R.size ≤ 4611686018427387904 := by have := HRs.out; omega
  go_wp2_with fail
  go_loopw [7, 15] (fun vx vn wr => ∃ (n x : Nat), vx = .int .u64 x ∧ vn = .int .i64 n ∧ n ≤ 9 ∧ n ≤ R.size ∧ x < 128 ^ n ∧ wr = w.drewN q ∧ Hid (ur 0 0 (s.data.toList.drop k) = ur n x (R.data.toList.drop n))) (fun _ vn _ => 10 - (intOf vn).toNat)
  case atStart => exact ⟨0, 0, rfl, rfl, by omega, by omega, by decide, rfl, Lib.hid (by rw [HRd.out]; rfl)⟩
  case round =>
    obtain ⟨n, x, rfl, rfl, hn, hnR, hx, rfl, HU⟩ := hrel
    have HX := Lib.hid hx; clear hx
    by_cases hend : R.size ≤ n
    · have HE := Lib.hid (uRes_err (most := most) (k := k) (l := s.data.toList.drop k) (e := 20) (by rw [HU.out, drop_nil R n hend]; exact ur_short (by omega) rfl))
      have hd : decide ((n : Int) < min (R.size : Int) 10) = false := by simp; omega
      go_wp2_with fail
      go_ret2
      exact ⟨nEnd_of HE.out, by rw [HE.out]; exact HR.out.drewN _, (Only.refl _ _).drewN _⟩
    · have hlt : n < R.size := by omega
      have hd : decide ((n : Int) < min (R.size : Int) 10) = true := by simp; omega
      have hc := R[n].toNat_lt
      have hidx := idx_one R n hlt
      have hdc := drop_cons R n hlt
      have HD := Lib.hid hdc; clear hdc
      generalize R[n] = c at *
      by_cases hA : n = 9 ∧ c.toNat ≠ 1
      · have HE := Lib.hid (uRes_err (most := most) (k := k) (l := s.data.toList.drop k) (e := 21) (by
          rw [HU.out, HD.out, ur, if_neg (by omega)]
          by_cases h : 1 < c.toNat
          · rw [if_pos ⟨hA.1, h⟩]
          · rw [if_neg (by omega), if_pos (by omega), if_pos (by omega)]))
        have t9 : ((n : Int) == 9) = true := beq_iff_eq.2 (by omega)
        have tc : ((c.toNat : Int) != 1) = true := bne_iff_ne.2 (by omega)
        clear hA
        go_wp2_with fail
        go_ret2
        exact ⟨nEnd_of HE.out, by rw [HE.out]; exact HR.out.drewN _, (Only.refl _ _).drewN _⟩
      · have h9c : n = 9 → c.toNat % 128 ≤ 1 := fun e => by omega
        have hor := or_shift x n c.toNat HX.out hn h9c
        have hnx := Lib.hid (next_lt x n (c.toNat % 128) HX.out (Nat.mod_lt _ (by decide)))
        have hand := nand_low c.toNat hc
        by_cases hB : c.toNat < 128
        · have hn10 : n ≠ 10 := by omega
          by_cases hC : c.toNat = 0 ∧ 0 < n
          · have HE := Lib.hid (uRes_err (most := most) (k := k) (l := s.data.toList.drop k) (e := 21) (by rw [HU.out, HD.out, ur, if_neg hn10, if_neg (by omega), if_pos hB, if_pos hC]))
            have t9 : ((n : Int) == 9) = false := beq_eq_false_iff_ne.2 (by omega)
            have tz : ((c.toNat : Int) == 0) = true := beq_iff_eq.2 (by omega)
            have hn0 : 0 < n := hC.2
            clear hA hC h9c hn10 hnx
            go_wp2_with fail
            go_ret2
            exact ⟨nEnd_of HE.out, by rw [HE.out]; exact HR.out.drewN _, (Only.refl _ _).drewN _⟩
          · have hur : ur 0 0 (s.data.toList.drop k) = .inr (x + c.toNat % 128 * 128 ^ n, n + 1) := by rw [HU.out, HD.out, ur, if_neg hn10, if_neg (by omega), if_pos hB, if_neg hC]
            have hX : x + c.toNat % 128 * 128 ^ n < 18446744073709551616 := by have h1 := shift_lt n (c.toNat % 128) hn (Nat.mod_lt _ (by decide)) h9c; rw [Nat.add_mul, Nat.one_mul] at h1; have := HX.out; omega
            have hkn1 : k + (n + 1) ≤ s.size := by have := HRs.out; omega
            have h3 : (((n : Int) == 9) = true ∧ ((c.toNat : Int) != 1) = false ∧ ((c.toNat : Int) == 0) = false) ∨ (((n : Int) == 9) = false ∧ ((c.toNat : Int) == 0) = true ∧ n ≤ 0) ∨ (((n : Int) == 9) = false ∧ ((c.toNat : Int) == 0) = false) := by
              by_cases e9 : n = 9
              · exact Or.inl ⟨beq_iff_eq.2 (by omega), by rw [bne_eq_false_iff_eq]; omega, beq_eq_false_iff_ne.2 (by omega)⟩
              · by_cases ez : c.toNat = 0
                · exact Or.inr (Or.inl ⟨beq_eq_false_iff_ne.2 (by omega), beq_iff_eq.2 (by omega), by omega⟩)
                · exact Or.inr (Or.inr ⟨beq_eq_false_iff_ne.2 (by omega), beq_eq_false_iff_ne.2 (by omega)⟩)
            clear hC hA h9c hnx hn10
            generalize x + c.toNat % 128 * 128 ^ n = X at *
            have HUR := Lib.hid hur; clear hur
            have hXm : X ≤ 18446744073709551615 := by omega
            clear hX
            by_cases hmost : most < X
            · have HE := Lib.hid (uRes_most HUR.out hmost (k := k))
              have tm : decide (most < X) = true := by simpa using hmost
              rcases h3 with ⟨t9, tc, tz⟩ | ⟨t9, tz, tn⟩ | ⟨t9, tz⟩
              all_goals
                go_wp2_with fail
                go_ret2
                exact ⟨nEnd_of HE.out, by rw [HE.out]; exact HR.out.drewN _, (Only.refl _ _).drewN _⟩
            · have HE := Lib.hid (uRes_ok HUR.out hmost (k := k))
              have tm : decide (most < X) = false := by simpa using hmost
              rcases h3 with ⟨t9, tc, tz⟩ | ⟨t9, tz, tn⟩ | ⟨t9, tz⟩
              all_goals
                go_wp2_with fail
                go_ret2
                refine ⟨nEnd_of HE.out, ?_, ((Only.refl _ _).drewN _).set _ _⟩
                rw [HE.out]
                show IsRdr _ b o s (k + (n + 1))
                exact (HR.out.drewN _).put _ _ (by omega)
        · have hn10 : n ≠ 10 := by omega
          have HN := Lib.hid (show ur n x (c :: R.data.toList.drop (n + 1)) = ur (n + 1) (x + c.toNat % 128 * 128 ^ n) (R.data.toList.drop (n + 1)) by rw [ur, if_neg hn10, if_neg (by omega), if_neg hB])
          have h8 : n ≤ 8 := by omega
          have t9 : ((n : Int) == 9) = false := beq_eq_false_iff_ne.2 (by omega)
          clear h9c hA hn10
          generalize x + c.toNat % 128 * 128 ^ n = X at *
          go_wp2_with fail
          go_roundw
          case rel => exact ⟨n + 1, X, rfl, by go_num, by omega, by omega, hnx.out, by first | rfl | trivial, Lib.hid (by rw [HU.out, HD.out, HN.out])⟩
          case measure => simp [intOf]; omega
end CodeC
end Go.Proofs.YtgjcbcakmcgjhaaDoor
