/-
  The document's own answers for layer 6: letter, May, form, Norm, Is, Squash, Same, Like, Reserved, Holder: one contract a function.
-/
import Derived.Test.YtbjifikbfagdjaaGreatDoorNameMath
import Derived.Test.YtbjifikbfagdjaaGreatDoorStrB
namespace Go.Proofs.YtbjifikbfagdjaaGreatDoor
open Go.RowKit
namespace NameC
open NameM StrC
set_option linter.unusedSimpArgs false


theorem rletter_any (c : UInt8) (w : World) :
    Calls Tryz.prog 175 #[.int .u8 (c.toNat : Int)] w fun e w' => e = .returned (.bool (letter c)) ∧ w = w' := by
  have H := Lib.hid (show letter c = ((decide (97 ≤ c.toNat) && decide (c.toNat ≤ 122)) || (decide (65 ≤ c.toNat) && decide (c.toNat ≤ 90)) || (decide (48 ≤ c.toNat) && decide (c.toNat ≤ 57))) from rfl)
  generalize letter c = L at *
  have hc : c.toNat < 256 := c.toNat_lt
  generalize c.toNat = n at *
  go_enter Tryz.func175, Tryz.ntmps175
  go_wp2
  all_goals go_ret
  all_goals (refine ⟨retB ?_, rfl⟩; rw [H.out, Bool.eq_iff_iff]; simp only [Bool.or_eq_true, Bool.and_eq_true, decide_eq_true_eq, Bool.false_eq_true, true_iff, false_iff]; omega)

/-- all bytes of the first k may stand in a name -/
theorem all_succ (p : UInt8 → Bool) (l : List UInt8) (k : Nat) (h : k < l.length) : (l.take (k + 1)).all p = ((l.take k).all p && p (l.getD k 0)) := by
  rw [List.take_add_one, List.all_append]; simp [h]


theorem all_not (p : UInt8 → Bool) (l : List UInt8) (k : Nat) (h : (l.take k).all p = false) : l.all p = false := by
  rw [← List.take_append_drop k l, List.all_append, h]; rfl
set_option maxHeartbeats 1000000 in
theorem rmay_any (l : List UInt8) (w : World) (hl : l.length ≤ 9223372036854775807) :
    Calls Tryz.prog 143 #[.string (str l)] w fun e w' => e = .returned (.bool (may l)) ∧ w = w' := by
  have hs := str_size l
  rcases Nat.lt_or_ge l.length 1 with h1 | h1
  · have H := Lib.hid (show may l = false by unfold may; rw [decide_eq_false (by omega)]; rfl)
    go_enter Tryz.func143, Tryz.ntmps143
    go_wp2_with fail
    all_goals go_ret
    all_goals exact ⟨retB H.out.symm, rfl⟩
  rcases Nat.lt_or_ge 64 l.length with h2 | h2
  · have H := Lib.hid (show may l = false by unfold may; rw [decide_eq_false (p := l.length ≤ 64) (by omega)]; simp)
    go_enter Tryz.func143, Tryz.ntmps143
    go_wp2_with fail
    all_goals go_ret
    all_goals exact ⟨retB H.out.symm, rfl⟩
  have hx0 := idx_any l 0 0 rfl (by omega)
  have hx1 := idx_any l ((l.length : Int) - 1) (l.length - 1) (by omega) (by omega)
  have HX := Lib.hid (fun a (h : a < l.length) => idx_any l a a rfl h)
  have HM := Lib.hid (show may l = (letter (l.getD 0 0) && letter (l.getD (l.length - 1) 0) && l.all okB) by unfold may; rw [decide_eq_true (by omega), decide_eq_true (p := l.length ≤ 64) (by omega)]; rfl)
  have HS := Lib.hid (all_succ okB l)
  have HA := Lib.hid (show (l.take 0).all okB = true from rfl)
  have HE := Lib.hid (show (l.take l.length).all okB = l.all okB by rw [List.take_length])
  generalize l.getD 0 0 = c0 at *
  generalize l.getD (l.length - 1) 0 = c1 at *
  have d1 : decide ((l.length : Int) < 1) = false := decide_eq_false (by omega)
  have d2 : decide (64 < (l.length : Int)) = false := decide_eq_false (by omega)
  rcases Bool.eq_false_or_eq_true (letter c0) with hb0 | hb0
  rotate_left
  · go_enter Tryz.func143, Tryz.ntmps143
    go_wp2_with (go_at_call 175; refine (rletter_any _ _).mono ?_; rintro e w' ⟨rfl, rfl⟩)
    all_goals go_ret
    all_goals exact ⟨retB (by rw [HM.out, hb0]; rfl), rfl⟩
  rcases Bool.eq_false_or_eq_true (letter c1) with hb1 | hb1
  rotate_left
  · go_enter Tryz.func143, Tryz.ntmps143
    go_wp2_with (go_at_call 175; refine (rletter_any _ _).mono ?_; rintro e w' ⟨rfl, rfl⟩)
    all_goals go_ret
    all_goals exact ⟨retB (by rw [HM.out, hb1]; simp), rfl⟩
  rw [hb0, hb1, Bool.true_and, Bool.true_and] at HM
  go_enter Tryz.func143, Tryz.ntmps143
  go_wp2_with (go_at_call 175; refine (rletter_any _ _).mono ?_; rintro e w' ⟨rfl, rfl⟩)
  clear hx0 hx1 hb0 hb1
  go_loop [3, 4] (fun i _ => ∃ k : Nat, k ≤ l.length ∧ i = .int .i64 k ∧ (l.take k).all okB = true) (fun i _ => l.length - (intOf i).toNat)
  case atStart => exact ⟨0, Nat.zero_le _, rfl, HA.out⟩
  case round =>
    obtain ⟨k, hk, rfl, ha⟩ := hrel
    have HQ := Lib.hid ha; clear ha
    by_cases hlt : k < l.length
    · have hdec : decide (k < l.length) = true := by simpa using hlt
      have hx := HX.out k hlt
      have hn := Lib.hid (HS.out k hlt)
      generalize l.getD k 0 = c at *
      go_wp2_with (go_at_call 175; refine (rletter_any _ _).mono ?_; rintro e w' ⟨rfl, rfl⟩)
      all_goals (first
        | (go_ret; refine ⟨retB ?_, rfl⟩; rw [HM.out]; refine (all_not okB l (k + 1) ?_).symm; rw [hn.out, HQ.out]; simp only [bne_iff_ne, ne_eq] at *; simp only [okB, sign, Bool.true_and, Bool.or_eq_false_iff, decide_eq_false_iff_not]; exact ⟨by simpa using ‹¬ letter c = true›, by omega⟩)
        | (refine ⟨⟨k + 1, by omega, by go_num, ?_⟩, by simp [intOf]; omega⟩; rw [hn.out, HQ.out]; simp only [okB, sign, Bool.true_and, Bool.or_eq_true, decide_eq_true_eq]; first | (left; assumption) | (right; omega) | (right; simp only [bne_eq_false_iff_eq] at *; omega)))
    · have hdec : decide (k < l.length) = false := by simpa using hlt
      go_wp2
      go_ret
      exact ⟨retB (by rw [HM.out, ← HE.out, show l.length = k from by omega, HQ.out]), rfl⟩

theorem st_pair (s l : List UInt8) (k : Nat) (h : k < l.length) (hc : letter (l.getD k 0) = true) : (st s (l.take (k + 1))).1 = (st s (l.take k)).1 ++ (if (st s (l.take k)).2 then s else []) ++ [low (l.getD k 0)] ∧ (st s (l.take (k + 1))).2 = false := by
  rw [st_succ s l k h]; unfold NameM.step; rw [if_pos hc]; exact ⟨rfl, rfl⟩
theorem st_pair' (s l : List UInt8) (k : Nat) (h : k < l.length) (hc : letter (l.getD k 0) = false) : (st s (l.take (k + 1))).1 = (st s (l.take k)).1 ∧ (st s (l.take (k + 1))).2 = true := by
  rw [st_succ s l k h]; unfold NameM.step; rw [if_neg (by rw [hc]; decide)]; exact ⟨rfl, rfl⟩
theorem st_bound (s l : List UInt8) (k : Nat) (hs : s.length ≤ 1) (h : k ≤ l.length) : (st s (l.take k)).1.length ≤ k := by
  have := st_length s (l.take k) hs
  rw [List.length_take] at this
  omega
/-- the small letter of a letter, as the byte is told -/
theorem low_int (c : UInt8) : ((low c).toNat : Int) = if 65 ≤ c.toNat ∧ c.toNat ≤ 90 then (c.toNat : Int) + 32 else c.toNat := by
  rw [low_nat]; split <;> simp

set_option maxHeartbeats 2000000 in
set_option maxRecDepth 100000 in
theorem rform_any (l s : List UInt8) (w : World) (hl : l.length ≤ 64) (hs1 : s.length ≤ 1) :
    Calls Tryz.prog 144 #[.string (str l), .string (str s)] w fun e w' => e = .returned (.string (str (formD s l))) ∧ Below w.heap.size w w' := by
  have hs := str_size l
  have HX := Lib.hid (fun a (h : a < l.length) => idx_any l a a rfl h)
  have HS := Lib.hid (fun k h hc => st_pair s l k h hc)
  have HS' := Lib.hid (fun k h hc => st_pair' s l k h hc)
  have HB := Lib.hid (fun k h => st_bound s l k hs1 h)
  have HA := Lib.hid (add_any)
  have HO := Lib.hid (one_any)
  have HE := Lib.hid (show formD s l = (st s (l.take l.length)).1 by rw [st_all s l _ (Nat.le_refl _)]; rfl)
  have H0 := Lib.hid (show (st s (l.take 0)) = ([], false) from rfl)
  have HL := Lib.hid hs1
  clear hs1
  go_enter Tryz.func144, Tryz.ntmps144
  go_wp2_with fail
  go_loopw [5, 6, 7, 8] (fun o r i _ wr => ∃ k : Nat, k ≤ l.length ∧ i = .int .i64 k ∧ o = .string (str (st s (l.take k)).1) ∧ r = .bool (st s (l.take k)).2 ∧ Below w.heap.size w wr) (fun _ _ i _ _ => l.length - (intOf i).toNat)
  case atStart => exact ⟨0, Nat.zero_le _, rfl, by rw [H0.out]; rfl, by rw [H0.out], Below.refl _ _⟩
  case round =>
    obtain ⟨k, hk, rfl, rfl, rfl, hb⟩ := hrel
    have hbl := HB.out k hk
    by_cases hlt : k < l.length
    · have hdec : decide (k < l.length) = true := by simpa using hlt
      have hx := HX.out k hlt
      have HS1 := Lib.hid (HS.out k hlt)
      have HS2 := Lib.hid (HS'.out k hlt)
      generalize l.getD k 0 = c at *
      have HC := Lib.hid (low_int c)
      have hc : c.toNat < 256 := c.toNat_lt
      rcases Bool.eq_false_or_eq_true (letter c) with hlet | hlet
      · obtain ⟨e1, e2⟩ := HS1.out hlet
        have E1 := Lib.hid e1
        have E2 := Lib.hid e2
        clear e1 e2
        have HB2 := Lib.hid hb; clear hb
        generalize (st s (l.take k)).1 = O at *
        have hcv : ∀ w : World, (if 65 ≤ c.toNat ∧ c.toNat ≤ 90 then (convert 241 9 (.slice (some ⟨w.heap.size, 0, none⟩) 1 1)).run Tryz.prog (w.alloc (.cells #[.int .u8 ((c.toNat : Int) + 32)] 5)) = .ok (.string (str [low c])) (w.alloc (.cells #[.int .u8 ((c.toNat : Int) + 32)] 5))
            else (convert 241 9 (.slice (some ⟨w.heap.size, 0, none⟩) 1 1)).run Tryz.prog (w.alloc (.cells #[.int .u8 (c.toNat : Int)] 5)) = .ok (.string (str [low c])) (w.alloc (.cells #[.int .u8 (c.toNat : Int)] 5))) := fun w => by
          split
          · rename_i h; exact one_new _ (low c) (by rw [HC.out, if_pos h]) w
          · rename_i h; exact one_new _ (low c) (by rw [HC.out, if_neg h]) w
        rcases Bool.eq_false_or_eq_true (st s (l.take k)).2 with hr | hr
        · rw [hr] at E1 ⊢
          have hO1 : (O ++ s).length ≤ k + 1 := by rw [List.length_append]; have := HL.out; omega
          have ha1 := fun w => add_any O s w (by rw [List.length_append] at hO1; omega)
          have ha2 := fun w => add_any (O ++ s) [low c] w (by simp at hO1 ⊢; omega)
          by_cases hcap : 65 ≤ c.toNat ∧ c.toNat ≤ 90
          · have hcw := hcv wr
            rw [if_pos hcap] at hcw
            clear hcv
            go_wp2_with (go_at_call 175; refine (rletter_any _ _).mono ?_; rintro e w' ⟨rfl, rfl⟩)
            go_roundw
            case rel => exact ⟨k + 1, by omega, by go_num, by rw [E1.out]; simp, by rw [E2.out], HB2.out.alloc HB2.out.size _⟩
            case measure => simp [intOf]; omega
          · have hcw := hcv wr
            rw [if_neg hcap] at hcw
            clear hcv
            go_wp2_with (go_at_call 175; refine (rletter_any _ _).mono ?_; rintro e w' ⟨rfl, rfl⟩)
            all_goals exact ⟨⟨k + 1, by omega, by go_num, by rw [E1.out]; simp, by rw [E2.out], HB2.out.alloc HB2.out.size _⟩, by simp [intOf]; omega⟩
        · rw [hr] at E1 ⊢
          have ha2 := fun w => add_any O [low c] w (by simp; omega)
          by_cases hcap : 65 ≤ c.toNat ∧ c.toNat ≤ 90
          · have hcw := hcv wr
            rw [if_pos hcap] at hcw
            clear hcv
            go_wp2_with (go_at_call 175; refine (rletter_any _ _).mono ?_; rintro e w' ⟨rfl, rfl⟩)
            go_roundw
            case rel => exact ⟨k + 1, by omega, by go_num, by rw [E1.out]; simp, by rw [E2.out], HB2.out.alloc HB2.out.size _⟩
            case measure => simp [intOf]; omega
          · have hcw := hcv wr
            rw [if_neg hcap] at hcw
            clear hcv
            go_wp2_with (go_at_call 175; refine (rletter_any _ _).mono ?_; rintro e w' ⟨rfl, rfl⟩)
            all_goals exact ⟨⟨k + 1, by omega, by go_num, by rw [E1.out]; simp, by rw [E2.out], HB2.out.alloc HB2.out.size _⟩, by simp [intOf]; omega⟩
      · obtain ⟨e1, e2⟩ := HS2.out hlet
        have E1 := Lib.hid e1
        have E2 := Lib.hid e2
        clear e1 e2
        have HB2 := Lib.hid hb; clear hb
        generalize (st s (l.take k)).1 = O at *
        go_wp2_with (go_at_call 175; refine (rletter_any _ _).mono ?_; rintro e w' ⟨rfl, rfl⟩)
        go_roundw
        case rel => exact ⟨k + 1, by omega, by go_num, by rw [E1.out], by rw [E2.out], HB2.out⟩
        case measure => simp [intOf]; omega
    · have hdec : decide (k < l.length) = false := by simpa using hlt
      have HB2 := Lib.hid hb; clear hb
      go_wp2
      go_ret
      exact ⟨by rw [HE.out, show l.length = k from by omega]; rfl, HB2.out⟩

theorem may_len {l : List UInt8} (h : may l = true) : l.length ≤ 64 := (may_iff.1 h).2.1
theorem norm_len (l : List UInt8) : (norm l).length ≤ 64 := by
  unfold norm
  split
  · rename_i h; exact Nat.le_trans (formD_length _ _ (by decide)) (may_len h)
  · simp
theorem squash_len (l : List UInt8) : (squash l).length ≤ 64 := by
  unfold squash
  split
  · rename_i h; exact Nat.le_trans (formD_length _ _ (by decide)) (may_len h)
  · simp

set_option maxHeartbeats 1000000 in
theorem rnorm_any (l : List UInt8) (w : World) (hl : l.length ≤ 9223372036854775807) :
    Calls Tryz.prog 116 #[.string (str l)] w fun e w' => e = .returned (.tuple #[.string (str (norm l)), .int .i64 (code l)]) ∧ Below w.heap.size w w' := by
  have HM := Lib.hid (rmay_any l w hl)
  rcases Bool.eq_false_or_eq_true (may l) with hm | hm
  · have H1 := Lib.hid (show norm l = formD [45] l by unfold norm; rw [if_pos hm])
    have H2 := Lib.hid (show code l = 0 by unfold code; rw [if_pos hm])
    have HF := Lib.hid (rform_any l [45] w (may_len hm) (by decide))
    go_enter Tryz.func116, Tryz.ntmps116
    go_wp2_with (first
      | (go_at_call 143; refine HM.out.mono ?_; rintro e w' ⟨rfl, rfl⟩)
      | (go_at_call 144; refine HF.out.mono ?_; rintro e w' ⟨rfl, hb⟩))
    go_ret2
    rw [H1.out, H2.out]
    exact ⟨rfl, hb⟩
  · have H1 := Lib.hid (show norm l = [] by unfold norm; rw [if_neg (by rw [hm]; decide)])
    have H2 := Lib.hid (show code l = 60 by unfold code; rw [if_neg (by rw [hm]; decide)])
    go_enter Tryz.func116, Tryz.ntmps116
    go_wp2_with (go_at_call 143; refine HM.out.mono ?_; rintro e w' ⟨rfl, rfl⟩)
    go_ret2
    rw [H1.out, H2.out]
    exact ⟨rfl, Below.refl _ _⟩
/-- an 'if' between what a loop and what a test says -/
theorem bool_eq (p : Prop) [Decidable p] (b : Bool) (h : p ↔ b = true) : decide p = b := by cases b <;> simp_all

set_option maxHeartbeats 1000000 in
theorem ris_any (l : List UInt8) (w : World) (hl : l.length ≤ 9223372036854775807) :
    Calls Tryz.prog 84 #[.string (str l)] w fun e w' => e = .returned (.bool (isN l)) ∧ Below w.heap.size w w' := by
  have HN := Lib.hid (rnorm_any l w hl)
  rcases Bool.eq_false_or_eq_true (may l) with hm | hm
  · have hc : code l = 0 := by unfold code; rw [if_pos hm]
    have H1 := Lib.hid (show isN l = decide (norm l = l) by unfold isN norm; rw [if_pos hm, hm, Bool.true_and])
    rw [hc] at HN
    clear hc
    generalize norm l = n at *
    go_enter Tryz.func84, Tryz.ntmps84
    go_wp2_with (go_at_call 116; refine HN.out.mono ?_; rintro e w' ⟨rfl, hb⟩)
    go_ret
    exact ⟨retB (by rw [str_beq, H1.out]), hb⟩
  · have hc : code l = 60 := by unfold code; rw [if_neg (by rw [hm]; decide)]
    have H1 := Lib.hid (show isN l = false by unfold isN; rw [hm]; rfl)
    rw [hc] at HN
    clear hc
    go_enter Tryz.func84, Tryz.ntmps84
    go_wp2_with (go_at_call 116; refine HN.out.mono ?_; rintro e w' ⟨rfl, hb⟩)
    all_goals go_ret
    all_goals exact ⟨retB H1.out.symm, hb⟩
set_option maxHeartbeats 1000000 in
theorem rlike_any (a b : List UInt8) (w : World) (ha : a.length ≤ 9223372036854775807) (hb : b.length ≤ 9223372036854775807) :
    Calls Tryz.prog 119 #[.string (str a), .string (str b)] w fun e w' => e = .returned (.bool (like a b)) ∧ Below w.heap.size w w' := by
  have HA := Lib.hid ha
  have HB := Lib.hid hb
  clear ha hb
  rcases Bool.eq_false_or_eq_true (may a) with hma | hma
  · have HLA := Lib.hid (may_len hma)
    rcases Bool.eq_false_or_eq_true (may b) with hmb | hmb
    · have HLB := Lib.hid (may_len hmb)
      have H1 := Lib.hid (show like a b = (decide (formD [45] a ≠ formD [45] b) && decide (formD [] a = formD [] b)) by unfold like; rw [hma, hmb]; rfl)
      have TK1 := Lib.hid HLA
      have TK2 := Lib.hid HLA
      have TK3 := Lib.hid HLA
      go_enter Tryz.func119, Tryz.ntmps119
      go_wp2_with (first
        | (go_at_call 143; refine (rmay_any _ _ (by first | exact HA.out | exact HB.out)).mono ?_; rintro e w' ⟨rfl, rfl⟩)
        | (go_at_call 144; clear TK1; refine (rform_any a [45] _ HLA.out (by decide)).mono ?_; rintro e w1 ⟨rfl, hb1⟩)
        | (go_at_call 144; clear TK2; refine (rform_any b [45] _ HLB.out (by decide)).mono ?_; rintro e w2 ⟨rfl, hb2⟩)
        | (go_at_call 144; clear TK3; refine (rform_any a [] _ HLA.out (by decide)).mono ?_; rintro e w3 ⟨rfl, hb3⟩)
        | (go_at_call 144; refine (rform_any b [] _ HLB.out (by decide)).mono ?_; rintro e w4 ⟨rfl, hb4⟩))
      all_goals go_ret
      all_goals refine ⟨retB ?_, by first | exact chain (Nat.le_refl _) (chain (Nat.le_refl _) (chain (Nat.le_refl _) hb1 hb2) hb3) hb4 | exact chain (Nat.le_refl _) hb1 hb2⟩
      all_goals (rw [H1.out]; clear H1; (try simp only [str_beq, str_bne, ByteArray.toList_eq, str_list] at *); rw [Bool.eq_iff_iff]; simp_all)
    · have H1 := Lib.hid (show like a b = false by unfold like; rw [hmb, Bool.and_false]; rfl)
      go_enter Tryz.func119, Tryz.ntmps119
      go_wp2_with (go_at_call 143; refine (rmay_any _ _ (by first | exact HA.out | exact HB.out)).mono ?_; rintro e w' ⟨rfl, rfl⟩)
      all_goals go_ret
      all_goals exact ⟨retB H1.out.symm, Below.refl _ _⟩
  · have H1 := Lib.hid (show like a b = false by unfold like; rw [hma]; rfl)
    go_enter Tryz.func119, Tryz.ntmps119
    go_wp2_with (go_at_call 143; refine (rmay_any _ _ (by first | exact HA.out | exact HB.out)).mono ?_; rintro e w' ⟨rfl, rfl⟩)
    all_goals go_ret
    all_goals exact ⟨retB H1.out.symm, Below.refl _ _⟩

set_option maxHeartbeats 1000000 in
theorem rholder_any (l : List UInt8) (w : World) (hl : l.length ≤ 9223372036854775807) :
    Calls Tryz.prog 82 #[.string (str l)] w fun e w' => e = .returned (.bool (holder l)) ∧ w = w' := by
  have hs := str_size l
  rcases Nat.lt_or_ge l.length 1 with h1 | h1
  · have H := Lib.hid (show holder l = false by unfold holder; rw [decide_eq_false (by omega)]; rfl)
    go_enter Tryz.func82, Tryz.ntmps82
    go_wp2_with fail
    all_goals go_ret
    all_goals exact ⟨retB H.out.symm, rfl⟩
  rcases Nat.lt_or_ge 64 l.length with h2 | h2
  · have H := Lib.hid (show holder l = false by unfold holder; rw [decide_eq_false (p := l.length ≤ 64) (by omega)]; simp)
    go_enter Tryz.func82, Tryz.ntmps82
    go_wp2_with fail
    all_goals go_ret
    all_goals exact ⟨retB H.out.symm, rfl⟩
  have hx0 := idx_any l 0 0 rfl (by omega)
  have HX := Lib.hid (fun a (h : a < l.length) => idx_any l a a rfl h)
  have HM := Lib.hid (show holder l = ((decide (97 ≤ (l.getD 0 0).toNat) && decide ((l.getD 0 0).toNat ≤ 122)) && l.all holdB) by unfold holder; rw [decide_eq_true (by omega), decide_eq_true (p := l.length ≤ 64) (by omega)]; rfl)
  have HS := Lib.hid (all_succ holdB l)
  have HA := Lib.hid (show (l.take 0).all holdB = true from rfl)
  have HE := Lib.hid (show (l.take l.length).all holdB = l.all holdB by rw [List.take_length])
  generalize l.getD 0 0 = c0 at *
  have d1 : decide ((l.length : Int) < 1) = false := decide_eq_false (by omega)
  have d2 : decide (64 < (l.length : Int)) = false := decide_eq_false (by omega)
  have hc0 : c0.toNat < 256 := c0.toNat_lt
  by_cases hb : 97 ≤ c0.toNat ∧ c0.toNat ≤ 122
  rotate_left
  · have H := Lib.hid (show holder l = false by rw [HM.out, Bool.and_eq_false_iff]; left; rw [Bool.and_eq_false_iff, decide_eq_false_iff_not, decide_eq_false_iff_not]; omega)
    go_enter Tryz.func82, Tryz.ntmps82
    go_wp2_with fail
    all_goals go_ret
    all_goals exact ⟨retB H.out.symm, rfl⟩
  have HM2 := Lib.hid (show holder l = l.all holdB by rw [HM.out, decide_eq_true hb.1, decide_eq_true hb.2]; rfl)
  obtain ⟨hb1, hb2⟩ := hb
  go_enter Tryz.func82, Tryz.ntmps82
  go_wp2_with fail
  clear hx0 hb1 hb2
  go_loop [3] (fun i => ∃ k : Nat, k ≤ l.length ∧ i = .int .i64 k ∧ (l.take k).all holdB = true) (fun i => l.length - (intOf i).toNat)
  case atStart => exact ⟨0, Nat.zero_le _, rfl, HA.out⟩
  case round =>
    obtain ⟨k, hk, rfl, ha⟩ := hrel
    have HQ := Lib.hid ha; clear ha
    by_cases hlt : k < l.length
    · have hdec : decide (k < l.length) = true := by simpa using hlt
      have hx := HX.out k hlt
      have hn := Lib.hid (HS.out k hlt)
      generalize l.getD k 0 = c at *
      have hc : c.toNat < 256 := c.toNat_lt
      go_wp2_with fail
      all_goals (first
        | (go_ret; refine ⟨retB ?_, rfl⟩; rw [HM2.out]; refine (all_not holdB l (k + 1) ?_).symm; rw [hn.out, HQ.out]; simp only [holdB, Bool.true_and, Bool.or_eq_false_iff, Bool.and_eq_false_iff, decide_eq_false_iff_not]; omega)
        | (refine ⟨⟨k + 1, by omega, by go_num, ?_⟩, by simp [intOf]; omega⟩; rw [hn.out, HQ.out]; simp only [holdB, Bool.true_and, Bool.or_eq_true, Bool.and_eq_true, decide_eq_true_eq]; omega))
    · have hdec : decide (k < l.length) = false := by simpa using hlt
      go_wp2
      go_ret
      exact ⟨retB (by rw [HM2.out, ← HE.out, show l.length = k from by omega, HQ.out]), rfl⟩
end NameC
end Go.Proofs.YtbjifikbfagdjaaGreatDoor
