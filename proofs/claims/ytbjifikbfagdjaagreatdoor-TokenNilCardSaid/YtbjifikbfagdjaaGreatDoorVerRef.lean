/-
  The document's own answers for layer 7, of texts and numbers alone: digits, ident, Number, number, cmp, order: one contract a function; nothing is written.
-/
import Derived.Test.YtbjifikbfagdjaaGreatDoorVerOrd
import Derived.Test.YtbjifikbfagdjaaGreatDoorStrB
namespace Go.Proofs.YtbjifikbfagdjaaGreatDoor
open Go.RowKit
namespace VerC
open VerM StrC
set_option linter.unusedSimpArgs false

theorem all_succ (p : UInt8 → Bool) (l : List UInt8) (k : Nat) (h : k < l.length) : (l.take (k + 1)).all p = ((l.take k).all p && p (l.getD k 0)) := by
  rw [List.take_add_one, List.all_append]; simp [h]
theorem all_not (p : UInt8 → Bool) (l : List UInt8) (k : Nat) (h : (l.take k).all p = false) : l.all p = false := by
  rw [← List.take_append_drop k l, List.all_append, h]; rfl
theorem str_list' (l : B) : (str l).toList = l := by rw [ByteArray.toList_eq, str_list]
theorem str_empty (l : B) : (str l).toList.isEmpty = decide (l = []) := by rw [ByteArray.toList_eq, str_list]; cases l <;> simp
theorem digs_not {l : B} (h : l.all dig = false) : digs l = false := by unfold digs; rw [h]; rfl

set_option maxHeartbeats 1000000 in
theorem rdigits_any (l : B) (w : World) (hl : l.length ≤ 9223372036854775807) :
    Calls Tryz.prog 176 #[.string (str l)] w fun e w' => e = .returned (.bool (digs l)) ∧ w = w' := by
  have hs := str_size l
  have HX := Lib.hid (fun a (h : a < l.length) => idx_any l a a rfl h)
  have HS := Lib.hid (all_succ dig l)
  have HE := Lib.hid (show (l.take l.length).all dig = l.all dig by rw [List.take_length])
  go_enter Tryz.func176, Tryz.ntmps176
  go_wp2_with fail
  go_loop [3] (fun i => ∃ k : Nat, k ≤ l.length ∧ i = .int .i64 k ∧ (l.take k).all dig = true) (fun i => l.length - (intOf i).toNat)
  case atStart => exact ⟨0, Nat.zero_le _, rfl, rfl⟩
  case round =>
    obtain ⟨k, hk, rfl, ha⟩ := hrel
    have HQ := Lib.hid ha; clear ha
    by_cases hlt : k < l.length
    · have hdec : decide (k < l.length) = true := by simpa using hlt
      have hx := HX.out k hlt
      have hn := Lib.hid (HS.out k hlt)
      generalize l.getD k 0 = c at *
      have hc : c.toNat < 256 := c.toNat_lt
      go_wp2_with fail
      all_goals (first
        | (go_ret; refine ⟨retB ?_, rfl⟩; refine (digs_not (all_not dig l (k + 1) ?_)).symm; rw [hn.out, HQ.out]; simp only [dig, Bool.true_and, Bool.and_eq_false_iff, decide_eq_false_iff_not]; omega)
        | (refine ⟨⟨k + 1, by omega, by go_num, ?_⟩, by simp [intOf]; omega⟩; rw [hn.out, HQ.out]; simp only [dig, Bool.true_and, Bool.and_eq_true, decide_eq_true_eq]; omega))
    · have hdec : decide (k < l.length) = false := by simpa using hlt
      have hall : l.all dig = true := by rw [← HE.out, show l.length = k from by omega, HQ.out]
      have HA := Lib.hid (show digs l = decide (l ≠ []) by unfold digs; rw [hall, Bool.true_and])
      clear hall
      go_wp2
      go_ret
      refine ⟨retB ?_, rfl⟩
      rw [HA.out, str_empty]
      simp

theorem ident_no {l : B} (h : l.all okI = false) : ident l = false := by unfold ident; rw [h]; simp
theorem ident_len {l : B} (h : ¬ (1 ≤ l.length ∧ l.length ≤ 16)) : ident l = false := by
  unfold ident
  have : (decide (1 ≤ l.length) && decide (l.length ≤ 16)) = false := by rw [Bool.and_eq_false_iff, decide_eq_false_iff_not, decide_eq_false_iff_not]; omega
  rw [this]; simp
theorem ident_yes {l : B} (h1 : 1 ≤ l.length) (h2 : l.length ≤ 16) (h : l.all okI = true) : ident l = (!digs l || !padded l) := by unfold ident; rw [h, decide_eq_true h1, decide_eq_true h2]; rfl
theorem padded_is {l : B} (h1 : 1 ≤ l.length) : padded l = (decide (l ≠ [48]) && decide ((l.getD 0 0).toNat = 48)) := by
  unfold padded
  match l, h1 with
  | [c], _ =>
    by_cases h : c.toNat = 48
    · have : c = 48 := UInt8.toNat_inj.1 (by rw [h]; rfl)
      subst this; rfl
    · rw [decide_eq_false (p := ([c].getD 0 0).toNat = 48) (by simpa using h)]; simp
  | c :: d :: r, _ => simp
set_option maxHeartbeats 2000000 in
theorem rident_any (l : B) (w : World) (hl : l.length ≤ 9223372036854775807) :
    Calls Tryz.prog 177 #[.string (str l)] w fun e w' => e = .returned (.bool (ident l)) ∧ w = w' := by
  have hs := str_size l
  rcases Nat.lt_or_ge l.length 1 with h1 | h1
  · have H := Lib.hid (ident_len (l := l) (by omega))
    go_enter Tryz.func177, Tryz.ntmps177
    go_wp2_with fail
    all_goals go_ret
    all_goals exact ⟨retB H.out.symm, rfl⟩
  rcases Nat.lt_or_ge 16 l.length with h2 | h2
  · have H := Lib.hid (ident_len (l := l) (by omega))
    go_enter Tryz.func177, Tryz.ntmps177
    go_wp2_with fail
    all_goals go_ret
    all_goals exact ⟨retB H.out.symm, rfl⟩
  have hx0 := idx_any l 0 0 rfl (by omega)
  have HX := Lib.hid (fun a (h : a < l.length) => idx_any l a a rfl h)
  have HX0 := Lib.hid hx0
  have HM := Lib.hid (fun h => ident_yes h1 h2 h)
  have HP := Lib.hid (padded_is h1)
  have HN := Lib.hid (fun k h => ident_no (all_not okI l k h))
  have HS := Lib.hid (all_succ okI l)
  have HE := Lib.hid (show (l.take l.length).all okI = l.all okI by rw [List.take_length])
  have HD := Lib.hid (fun w => rdigits_any l w hl)
  generalize l.getD 0 0 = c0 at *
  have d1 : decide ((l.length : Int) < 1) = false := decide_eq_false (by omega)
  have d2 : decide (16 < (l.length : Int)) = false := decide_eq_false (by omega)
  have hc0 : c0.toNat < 256 := c0.toNat_lt
  go_enter Tryz.func177, Tryz.ntmps177
  go_wp2_with fail
  clear hx0
  go_loop [3, 4] (fun i _ => ∃ k : Nat, k ≤ l.length ∧ i = .int .i64 k ∧ (l.take k).all okI = true) (fun i _ => l.length - (intOf i).toNat)
  case atStart => exact ⟨0, Nat.zero_le _, rfl, rfl⟩
  case round =>
    obtain ⟨k, hk, rfl, ha⟩ := hrel
    have HQ := Lib.hid ha; clear ha
    by_cases hlt : k < l.length
    · have hdec : decide (k < l.length) = true := by simpa using hlt
      have hx := HX.out k hlt
      have hn := Lib.hid (HS.out k hlt)
      generalize l.getD k 0 = c at *
      have hc : c.toNat < 256 := c.toNat_lt
      go_wp2_with fail
      all_goals (first
        | (go_ret; refine ⟨retB ?_, rfl⟩; refine (HN.out (k + 1) ?_).symm; rw [hn.out, HQ.out]; simp only [okI, dig, Bool.true_and, Bool.or_eq_false_iff, Bool.and_eq_false_iff, decide_eq_false_iff_not, bne_iff_ne, ne_eq] at *; omega)
        | (refine ⟨⟨k + 1, by omega, by go_num, ?_⟩, by simp [intOf]; omega⟩; rw [hn.out, HQ.out]; simp only [okI, dig, Bool.true_and, Bool.or_eq_true, Bool.and_eq_true, decide_eq_true_eq, bne_eq_false_iff_eq] at *; omega))
    · have hdec : decide (k < l.length) = false := by simpa using hlt
      have hall : l.all okI = true := by rw [← HE.out, show l.length = k from by omega, HQ.out]
      have HA := Lib.hid (HM.out hall)
      clear hall hdec
      have hx0 := HX0.out
      rw [HP.out] at HA
      generalize digs l = dg at *
      go_wp2_with (go_at_call 176; refine (HD.out _).mono ?_; rintro e w' ⟨rfl, rfl⟩)
      all_goals go_ret
      all_goals refine ⟨retB ?_, rfl⟩
      all_goals rw [HA.out]
      all_goals clear HA HD HP HN HM HS HE HX HX0
      · rename_i h1 h2
        rw [str_list'] at h2
        rw [h1, h2]; rfl
      · rename_i h1 h2
        rw [str_list'] at h2
        rw [h1, str_list']
        by_cases e2 : c0.toNat = 48
        · have e4 : (l == [48]) = decide (l = [48]) := by rw [Bool.eq_iff_iff]; simp
          simp [e2, e4]
        · have e3 : ¬ ((c0.toNat : Int) = 48) := by omega
          have e4 : (l == [48]) = decide (l = [48]) := by rw [Bool.eq_iff_iff]; simp
          simp [e2, e3, e4]
      · rename_i h1
        rw [show dg = false from by simpa using h1]; rfl

/-- '"0123456789"[d : d + 1]' -/
theorem digit_at : ∀ d : Fin 10, (ByteArray.mk #[48, 49, 50, 51, 52, 53, 54, 55, 56, 57]).extract d.val (d.val + 1) = str [UInt8.ofNat (48 + d.val)] := by decide +kernel
theorem sl_digit (d : Nat) (c : UInt8) (x y : Int) (hx : x = d) (hy : y = (d + 1 : Nat)) (h : d < 10) (hc : c = UInt8.ofNat (48 + d)) (w : World) :
    (Instr.slice 9 (.string ⟨#[48, 49, 50, 51, 52, 53, 54, 55, 56, 57]⟩) (some (.int .u64 x)) (some (.int .u64 y)) none).run Tryz.prog w = .ok (.string (str [c])) w := by
  subst hx; subst hy
  rw [run_slice_string w 9 _ .u64 .u64 _ _ Tryz.underlying9 (by omega) (by omega) (by show ((d + 1 : Nat) : Int) ≤ ((10 : Nat) : Int); omega), Int.toNat_natCast, Int.toNat_natCast, hc]
  exact congrArg (fun b => Result.ok (Value.string b) w) (digit_at ⟨d, h⟩)
theorem dec_len : ∀ k n, n < 10 ^ (k + 1) → (Lib.decDigits n).length ≤ k + 1
  | 0, n, h => by rw [Lib.decDigits, dif_pos (by simpa using h)]; simp
  | k + 1, n, h => by
    rw [Lib.decDigits]
    split
    · simp
    · have := dec_len k (n / 10) (by rw [Nat.pow_succ] at h; omega)
      simp; omega
theorem dec_step (n : Nat) (h : 9 < n) (s : B) : Lib.decDigits n ++ s = Lib.decDigits (n / 10) ++ (UInt8.ofNat (48 + n % 10) :: s) := by
  rw [Lib.decDigits, dif_neg (by omega)]; simp
set_option maxHeartbeats 1000000 in
theorem rNumber_any (n : Nat) (w : World) (hn : n < 18446744073709551616) :
    Calls Tryz.prog 251 #[.int .u64 n] w fun e w' => e = .returned (.string (str (Lib.decDigits n))) ∧ w = w' := by
  have hdl : (Lib.decDigits n).length ≤ 20 := dec_len 19 n (by omega)
  have HL := Lib.hid hdl
  clear hdl
  go_enter Tryz.func251, Tryz.ntmps251
  go_wp2_with fail
  go_loop [0, 3] (fun a s => ∃ (k : Nat) (t : B), k < 18446744073709551616 ∧ a = .int .u64 k ∧ s = .string (str t) ∧ Hid (Lib.decDigits n = Lib.decDigits k ++ t)) (fun a _ => (intOf a).toNat)
  case atStart => exact ⟨n, [], hn, rfl, rfl, Lib.hid (by simp)⟩
  case round =>
    obtain ⟨k, t, hk, rfl, rfl, HQ⟩ := hrel
    have htl : t.length ≤ 20 := by have := HL.out; rw [HQ.out, List.length_append] at this; omega
    by_cases hlt : 9 < k
    · have hdec : decide (9 < (k : Int)) = true := by simp; omega
      obtain ⟨c, hc⟩ : ∃ c, c = UInt8.ofNat (48 + k % 10) := ⟨_, rfl⟩
      have hs := sl_digit (k % 10) c ((k : Int) % 10) ((k : Int) % 10 + 1) (by omega) (by omega) (by omega) hc
      have ha := fun w => add_any [c] t w (by simp; omega)
      have HC := Lib.hid hc
      clear hc
      go_wp2_with fail
      go_round
      case rel => exact ⟨k / 10, c :: t, by omega, by go_num, rfl, Lib.hid (by rw [HQ.out, dec_step k hlt t, HC.out])⟩
      case measure => simp [intOf]; omega
    · have hdec : decide (9 < (k : Int)) = false := by simp; omega
      obtain ⟨c, hc⟩ : ∃ c, c = UInt8.ofNat (48 + k) := ⟨_, rfl⟩
      have hs := sl_digit k c (k : Int) ((k : Int) + 1) rfl (by omega) (by omega) hc
      have ha := fun w => add_any [c] t w (by simp; omega)
      have HC := Lib.hid hc
      clear hc
      go_wp2_with fail
      go_ret
      exact ⟨by rw [HQ.out, Lib.decDigits_one (by omega), HC.out]; rfl, rfl⟩

theorem val_take (l : B) (k : Nat) (h : k < l.length) : val (l.take (k + 1)) = 10 * val (l.take k) + ((l.getD k 0).toNat - 48) := by
  rw [List.take_add_one, List.getElem?_eq_getElem h]
  show val (l.take k ++ [l[k]]) = _
  rw [val_snoc]
  simp [h]
theorem val_lt : ∀ l : B, l.all dig = true → val l < 10 ^ l.length := by
  intro l
  induction l using snoc_ind with
  | h0 => intro _; decide
  | h1 s c ih =>
    intro h
    rw [List.all_append, Bool.and_eq_true] at h
    have := ih h.1
    have hc : dig c = true := by simpa using h.2
    simp only [dig, Bool.and_eq_true, decide_eq_true_eq] at hc
    rw [val_snoc, List.length_append, List.length_singleton, Nat.pow_succ]
    omega
theorem padded_head {l : B} (h1 : 1 < l.length) : padded l = decide ((l.getD 0 0).toNat = 48) := by unfold padded; rw [decide_eq_true h1, Bool.true_and]
/-- a number of more than ten digits without a nought ahead is too great -/
theorem val_ge : ∀ (k : Nat) (l : B), l.length = k + 1 → (∀ c ∈ l, dig c = true) → (l.getD 0 0).toNat ≠ 48 → 10 ^ k ≤ val l := by
  intro k
  induction k with
  | zero =>
    intro l hl hd h0
    match l, hl with
    | [c], _ =>
      have := hd c (by simp)
      simp only [dig, Bool.and_eq_true, decide_eq_true_eq] at this
      have h0 : c.toNat ≠ 48 := h0
      show 1 ≤ 10 * 0 + (c.toNat - 48)
      omega
  | succ k ih =>
    intro l hl hd h0
    have hk : k + 1 < l.length := by omega
    have e : l = l.take (k + 1) ++ [l.getD (k + 1) 0] := by
      have := List.take_append_drop (k + 1) l
      rw [List.drop_eq_getElem_cons hk, List.drop_eq_nil_of_le (by omega)] at this
      rw [List.getD_eq_getElem?_getD, List.getElem?_eq_getElem hk]
      exact this.symm
    have h1 := ih (l.take (k + 1)) (by simp; omega) (fun c hc => hd c (List.mem_of_mem_take hc)) (by
      have : (l.take (k + 1)).getD 0 0 = l.getD 0 0 := by rw [List.getD_eq_getElem?_getD, List.getElem?_take_of_lt (by omega), List.getD_eq_getElem?_getD]
      rw [this]; exact h0)
    rw [e, val_snoc, Nat.pow_succ]
    omega
theorem numb_long {l : B} (h : 10 < l.length) : numb l = none := by
  unfold numb
  rw [if_neg]
  rintro ⟨h1, h2, h3⟩
  unfold digs at h1
  rw [Bool.and_eq_true] at h1
  rw [padded_head (by omega), decide_eq_false_iff_not] at h2
  have := val_ge (l.length - 1) l (by omega) (fun c hc => List.all_eq_true.1 h1.1 c hc) h2
  have h4 : 10 ^ 10 ≤ 10 ^ (l.length - 1) := Nat.pow_le_pow_right (by decide) (by omega)
  unfold mx at h3
  omega
theorem numb_isSome (l : B) (h1 : digs l = true) (h2 : padded l = false) : (numb l).isSome = decide (val l ≤ mx) := by
  unfold numb
  by_cases h : val l ≤ mx
  · rw [if_pos ⟨h1, h2, h⟩, decide_eq_true h]; rfl
  · rw [if_neg (fun e => h e.2.2), decide_eq_false h]; rfl
theorem numb_val {l : B} {n : Nat} (h : numb l = some n) : n = val l ∧ val l ≤ mx := by
  unfold numb at h
  split at h
  · rename_i hc; cases h; exact ⟨rfl, hc.2.2⟩
  · cases h
theorem cast_le (v : Nat) : decide ((v : Int) ≤ 2147483647) = decide (v ≤ mx) := by
  have : ((v : Int) ≤ 2147483647) = (v ≤ mx) := propext ⟨fun h => by unfold mx; omega, fun h => by unfold mx at h; omega⟩
  simp only [this]
set_option maxHeartbeats 2000000 in
theorem rnumber_any (l : B) (w : World) (hl : l.length ≤ 9223372036854775807) :
    Calls Tryz.prog 146 #[.string (str l)] w fun e w' => ∃ x : Int, e = .returned (.tuple #[.int .u32 x, .bool (numb l).isSome]) ∧ (∀ n, numb l = some n → x = n) ∧ w = w' := by
  have hs := str_size l
  have HD := Lib.hid (fun w => rdigits_any l w hl)
  rcases Bool.eq_false_or_eq_true (digs l) with hdg | hdg
  rotate_left
  · have H := Lib.hid (show numb l = none by unfold numb; rw [if_neg (by rw [hdg]; simp)])
    rw [hdg] at HD
    go_enter Tryz.func146, Tryz.ntmps146
    go_wp2_with (go_at_call 176; refine (HD.out _).mono ?_; rintro e w' ⟨rfl, rfl⟩)
    all_goals go_ret2
    all_goals exact ⟨_, by rw [H.out]; rfl, fun n h => (by rw [H.out] at h; cases h), rfl⟩
  rcases Nat.lt_or_ge 10 l.length with h10 | h10
  · have H := Lib.hid (numb_long h10)
    rw [hdg] at HD
    go_enter Tryz.func146, Tryz.ntmps146
    go_wp2_with (go_at_call 176; refine (HD.out _).mono ?_; rintro e w' ⟨rfl, rfl⟩)
    all_goals go_ret2
    all_goals exact ⟨_, by rw [H.out]; rfl, fun n h => (by rw [H.out] at h; cases h), rfl⟩
  rw [hdg] at HD
  have hall : l.all dig = true := by unfold digs at hdg; rw [Bool.and_eq_true] at hdg; exact hdg.1
  have hne : 0 < l.length := by
    unfold digs at hdg
    rw [Bool.and_eq_true, decide_eq_true_eq] at hdg
    exact List.length_pos_iff.2 hdg.2
  have HX := Lib.hid (fun a (h : a < l.length) => idx_any l a a rfl h)
  have hx0 := idx_any l 0 0 rfl hne
  have HB := Lib.hid (fun c (h : c ∈ l) => List.all_eq_true.1 hall c h)
  have HV := Lib.hid (fun k (h : k ≤ l.length) => Nat.lt_of_lt_of_le (val_lt (l.take k) (List.all_eq_true.2 fun c hc => List.all_eq_true.1 hall c (List.mem_of_mem_take hc))) (Nat.pow_le_pow_right (by decide) (show (l.take k).length ≤ 10 by rw [List.length_take]; omega)))
  have HS := Lib.hid (val_take l)
  have HE := Lib.hid (show val (l.take l.length) = val l by rw [List.take_length])
  have HP := Lib.hid (fun h => padded_head (l := l) h)
  have HP1 := Lib.hid (show l.length = 1 → padded l = false from fun h => by unfold padded; rw [h]; rfl)
  have HI := Lib.hid (fun h => numb_isSome l hdg h)
  have HI2 := Lib.hid (show padded l = true → numb l = none from fun h => by unfold numb; rw [if_neg (by rw [h]; simp)])
  have HNV := Lib.hid (fun n (h : numb l = some n) => numb_val h)
  generalize l.getD 0 0 = c0 at *
  have hc0 : c0.toNat < 256 := c0.toNat_lt
  clear hdg hall
  by_cases hpad : padded l = true
  · have H := Lib.hid (HI2.out hpad)
    have h1 : 1 < l.length := by
      apply Classical.byContradiction; intro h
      have := HP1.out (by omega)
      rw [this] at hpad; cases hpad
    have h48 : c0.toNat = 48 := by rw [HP.out h1] at hpad; simpa using hpad
    have d0 : (decide (10 < (l.length : Int)) || (c0.toNat : Int) == 48) = true := by rw [h48]; simp
    have d2 : ((c0.toNat : Int) == 48) = true := by rw [h48]; rfl
    have d3 : decide (1 < (l.length : Int)) = true := decide_eq_true (by omega)
    clear hpad
    go_enter Tryz.func146, Tryz.ntmps146
    go_wp2_with (go_at_call 176; refine (HD.out _).mono ?_; rintro e w' ⟨rfl, rfl⟩)
    all_goals go_ret2
    all_goals exact ⟨_, by rw [H.out]; rfl, fun n h => (by rw [H.out] at h; cases h), rfl⟩
  have hpf : padded l = false := by simpa using hpad
  have HI3 := Lib.hid (HI.out hpf)
  have h48 : l.length = 1 ∨ (1 < l.length ∧ ¬ (c0.toNat = 48)) := by
    rcases Nat.lt_or_ge 1 l.length with h | h
    · right; rw [HP.out h] at hpf; exact ⟨h, of_decide_eq_false hpf⟩
    · left; omega
  have d0 : decide (10 < (l.length : Int)) = false := decide_eq_false (by omega)
  clear hpad hpf HI HI2 HP HP1
  rcases h48 with h48 | ⟨h48, h49⟩
  · have d3 : decide (1 < (l.length : Int)) = false := decide_eq_false (by omega)
    clear h48
    go_enter Tryz.func146, Tryz.ntmps146
    go_wp2_with (go_at_call 176; refine (HD.out _).mono ?_; rintro e w' ⟨rfl, rfl⟩)
    clear hx0 d0 d3
    go_loop [4, 5] (fun n i => ∃ k : Nat, k ≤ l.length ∧ i = .int .i64 k ∧ n = .int .u64 ((val (l.take k) : Nat) : Int)) (fun _ i => l.length - (intOf i).toNat)
    case atStart => exact ⟨0, Nat.zero_le _, rfl, rfl⟩
    case round =>
      obtain ⟨k, hk, rfl, rfl⟩ := hrel
      by_cases hlt : k < l.length
      · have hdec : decide (k < l.length) = true := by simpa using hlt
        have hx := HX.out k hlt
        have hn := Lib.hid (HS.out k hlt)
        have hv := HV.out k hk
        have hcd := HB.out (l.getD k 0) (by rw [List.getD_eq_getElem?_getD, List.getElem?_eq_getElem hlt]; exact List.getElem_mem hlt)
        generalize l.getD k 0 = c at *
        generalize val (l.take k) = v at *
        simp only [dig, Bool.and_eq_true, decide_eq_true_eq] at hcd
        have e1 : IntKind.u8.wrap ((c.toNat : Int) - 48) = ((c.toNat - 48 : Nat) : Int) := by rw [IntWalk.u8_in _ ⟨by omega, by omega⟩]; omega
        go_wp2_with fail
        exact ⟨⟨k + 1, by omega, by go_num, by rw [hn.out]; congr 1⟩, by simp [intOf]; omega⟩
      · have hdec : decide (k < l.length) = false := by simpa using hlt
        have hke : k = l.length := by omega
        subst hke
        have hv := HV.out l.length hk
        rw [HE.out] at hv ⊢
        generalize val l = v at *
        go_wp2
        go_ret2
        refine ⟨(v : Int) % 4294967296, ?_, fun n h => ?_, rfl⟩
        · have e2 : decide ((v : Int) ≤ 2147483647) = decide (v ≤ mx) := cast_le v
          rw [HI3.out, ← e2]; rfl
        · have := HNV.out n h
          unfold mx at this
          omega
  · have d3 : decide (1 < (l.length : Int)) = true := decide_eq_true (by omega)
    have d2 : ((c0.toNat : Int) == 48) = false := by rw [beq_eq_false_iff_ne]; omega
    clear h48 h49
    go_enter Tryz.func146, Tryz.ntmps146
    go_wp2_with (go_at_call 176; refine (HD.out _).mono ?_; rintro e w' ⟨rfl, rfl⟩)
    clear hx0 d0 d3 d2
    go_loop [4, 5] (fun n i => ∃ k : Nat, k ≤ l.length ∧ i = .int .i64 k ∧ n = .int .u64 ((val (l.take k) : Nat) : Int)) (fun _ i => l.length - (intOf i).toNat)
    case atStart => exact ⟨0, Nat.zero_le _, rfl, rfl⟩
    case round =>
      obtain ⟨k, hk, rfl, rfl⟩ := hrel
      by_cases hlt : k < l.length
      · have hdec : decide (k < l.length) = true := by simpa using hlt
        have hx := HX.out k hlt
        have hn := Lib.hid (HS.out k hlt)
        have hv := HV.out k hk
        have hcd := HB.out (l.getD k 0) (by rw [List.getD_eq_getElem?_getD, List.getElem?_eq_getElem hlt]; exact List.getElem_mem hlt)
        generalize l.getD k 0 = c at *
        generalize val (l.take k) = v at *
        simp only [dig, Bool.and_eq_true, decide_eq_true_eq] at hcd
        have e1 : IntKind.u8.wrap ((c.toNat : Int) - 48) = ((c.toNat - 48 : Nat) : Int) := by rw [IntWalk.u8_in _ ⟨by omega, by omega⟩]; omega
        go_wp2_with fail
        exact ⟨⟨k + 1, by omega, by go_num, by rw [hn.out]; congr 1⟩, by simp [intOf]; omega⟩
      · have hdec : decide (k < l.length) = false := by simpa using hlt
        have hke : k = l.length := by omega
        subst hke
        have hv := HV.out l.length hk
        rw [HE.out] at hv ⊢
        generalize val l = v at *
        go_wp2
        go_ret2
        refine ⟨(v : Int) % 4294967296, ?_, fun n h => ?_, rfl⟩
        · have e2 : decide ((v : Int) ≤ 2147483647) = decide (v ≤ mx) := cast_le v
          rw [HI3.out, ← e2]; rfl
        · have := HNV.out n h
          unfold mx at this
          omega
/-- two numbers -/
theorem rcmp_any (a b : Nat) (w : World) : Calls Tryz.prog 180 #[.int .u32 a, .int .u32 b] w fun e w' => e = .returned (.int .i64 (cmpN a b)) ∧ w = w' := by
  have H := Lib.hid (show cmpN a b = if a < b then -1 else if b < a then 1 else 0 from rfl)
  generalize cmpN a b = r at *
  go_enter Tryz.func180, Tryz.ntmps180
  go_wp2
  all_goals go_ret
  all_goals exact ⟨by rw [H.out]; simp [*], rfl⟩
theorem ordI_cases (a b : B) : (a = b ∧ ordI a b = 0) ∨ (a ≠ b ∧ digs a = true ∧ digs b = false ∧ ordI a b = -1) ∨ (a ≠ b ∧ digs a = false ∧ digs b = true ∧ ordI a b = 1) ∨
    (a ≠ b ∧ digs a = true ∧ digs b = true ∧ a.length < b.length ∧ ordI a b = -1) ∨ (a ≠ b ∧ digs a = true ∧ digs b = true ∧ b.length < a.length ∧ ordI a b = 1) ∨
    (a ≠ b ∧ digs a = true ∧ digs b = true ∧ a.length = b.length ∧ ordI a b = if a < b then -1 else 1) ∨ (a ≠ b ∧ digs a = false ∧ digs b = false ∧ ordI a b = if a < b then -1 else 1) := by
  rw [ordI_is]
  by_cases e : a = b
  · exact .inl ⟨e, if_pos e⟩
  · rw [if_neg e]
    rcases Bool.eq_false_or_eq_true (digs a) with ha | ha <;> rcases Bool.eq_false_or_eq_true (digs b) with hb | hb <;> simp only [ha, hb, e, ne_eq, not_true, not_false_iff, true_and, false_and, Bool.false_eq_true, Bool.true_eq_false, if_true, if_false, or_false, false_or, not_false_eq_true, and_true]
    rcases Nat.lt_trichotomy a.length b.length with h | h | h
    · left; exact ⟨h, by rw [if_pos (by omega), if_pos h]⟩
    · right; right; exact ⟨h, by rw [if_neg (by omega)]⟩
    · right; left; exact ⟨h, by rw [if_pos (by omega), if_neg (by omega)]⟩
theorem str_beq_false {a b : B} (h : a ≠ b) : ((str a).toList == (str b).toList) = false := by rw [str_beq]; exact decide_eq_false h
theorem str_beq_true (a : B) : ((str a).toList == (str a).toList) = true := by simp
theorem less_eq : ∀ (x y : List UInt8), Op.bytesLess x y = decide (x < y)
  | [], [] => by simp [Op.bytesLess]
  | _ :: _, [] => by simp [Op.bytesLess]
  | [], _ :: _ => by simp [Op.bytesLess]
  | a :: x, b :: y => by
    have ih := less_eq x y
    simp only [Op.bytesLess, ih, List.cons_lt_cons_iff]
    rw [Bool.eq_iff_iff]
    simp
theorem str_less (a b : B) : Op.bytesLess (str a).toList (str b).toList = decide (a < b) := by rw [less_eq, str_list', str_list']
set_option maxHeartbeats 1000000 in
theorem rorder_any (a b : B) (w : World) (ha : a.length ≤ 9223372036854775807) (hb : b.length ≤ 9223372036854775807) :
    Calls Tryz.prog 181 #[.string (str a), .string (str b)] w fun e w' => e = .returned (.int .i64 (ordI a b)) ∧ w = w' := by
  have hsa := str_size a
  have hsb := str_size b
  have HDA := Lib.hid (fun w => rdigits_any a w ha)
  have HDB := Lib.hid (fun w => rdigits_any b w hb)
  have H := ordI_cases a b
  have hless := str_less a b
  generalize ordI a b = r at *
  generalize digs a = da at *
  generalize digs b = db at *
  have TK := Lib.hid ha
  rcases H with ⟨e, H⟩ | ⟨e, e1, e2, H⟩ | ⟨e, e1, e2, H⟩ | ⟨e, e1, e2, e3, H⟩ | ⟨e, e1, e2, e3, H⟩ | ⟨e, e1, e2, e3, H⟩ | ⟨e, e1, e2, H⟩
  · subst e
    have hbq := str_beq_true a
    subst H
    go_enter Tryz.func181, Tryz.ntmps181
    go_wp2_with fail
    go_ret
    exact ⟨rfl, rfl⟩
  all_goals have hbq := str_beq_false e
  all_goals clear e
  all_goals subst e1
  all_goals subst e2
  rotate_right 2
  all_goals by_cases hl : a < b
  all_goals first
    | (rw [if_pos hl] at H; rw [decide_eq_true hl] at hless; clear hl)
    | (rw [if_neg hl] at H; rw [decide_eq_false hl] at hless; clear hl)
    | clear hless hl
  all_goals subst H
  all_goals (go_enter Tryz.func181, Tryz.ntmps181)
  all_goals (go_wp2_with (first
    | (go_at_call 176; clear TK; refine (HDA.out _).mono ?_; rintro e w' ⟨rfl, rfl⟩)
    | (go_at_call 176; refine (HDB.out _).mono ?_; rintro e w' ⟨rfl, rfl⟩)))
  all_goals go_ret
  all_goals exact ⟨rfl, rfl⟩
end VerC
end Go.Proofs.YtbjifikbfagdjaaGreatDoor
