/-
  The document's own answers for layer 7, of texts and numbers alone: digits, ident, Number, number, cmp, order: one contract a function; nothing is written.
-/
import Derived.Test.YtnkednjklfpblaaGreatDoorVerOrd
import Derived.Test.YtnkednjklfpblaaGreatDoorStrB
namespace Go.Proofs.YtnkednjklfpblaaGreatDoor
open Go.RowKit
namespace VerC
open VerM StrC
set_option linter.unusedSimpArgs false

theorem all_succ (p : UInt8 → Bool) (l : List UInt8) (k : Nat) (h : k < l.length) : (l.take (k + 1)).all p = ((l.take k).all p && p (l.getD k 0)) := by
  rw [List.take_add_one, List.all_append]; simp [h]
theorem all_not (p : UInt8 → Bool) (l : List UInt8) (k : Nat) (h : (l.take k).all p = false) : l.all p = false := by
  rw [← List.take_append_drop k l, List.all_append, h]; rfl
theorem str_list' (l : B) : (str l).toList = l := by rw [ByteArray.toList_eq, str_list]
theorem str_empty (l : B) : (str l).toList.isEmpty = decide (l = []) := by rw [ByteArray.toList_eq, str_list]; cases l <;> simp
theorem digs_not {l : B} (h : l.all dig = false) : digs l = false := by unfold digs; rw [h]; rfl

theorem ident_no {l : B} (h : l.all okI = false) : ident l = false := by unfold ident; rw [h]; simp
theorem ident_len {l : B} (h : ¬ (1 ≤ l.length ∧ l.length ≤ 16)) : ident l = false := by
  unfold ident
  have : (decide (1 ≤ l.length) && decide (l.length ≤ 16)) = false := by rw [Bool.and_eq_false_iff, decide_eq_false_iff_not, decide_eq_false_iff_not]; omega
  rw [this]; simp
theorem ident_yes {l : B} (h1 : 1 ≤ l.length) (h2 : l.length ≤ 16) (h : l.all okI = true) : ident l = (!digs l || !padded l) := by unfold ident; rw [h, decide_eq_true h1, decide_eq_true h2]; rfl
theorem padded_is {l : B} (h1 : 1 ≤ l.length) : padded l = (decide (l ≠ [48]) && decide ((l.getD 0 0).toNat = 48)) := by
  unfold padded
  match l, h1 with
  | [c], _ =>
    by_cases h : c.toNat = 48
    · have : c = 48 := UInt8.toNat_inj.1 (by rw [h]; rfl)
      subst this; rfl
    · rw [decide_eq_false (p := ([c].getD 0 0).toNat = 48) (by simpa using h)]; simp
  | c :: d :: r, _ => simp
/-- '"0123456789"[d : d + 1]' -/
theorem digit_at : ∀ d : Fin 10, (ByteArray.mk #[48, 49, 50, 51, 52, 53, 54, 55, 56, 57]).extract d.val (d.val + 1) = str [UInt8.ofNat (48 + d.val)] := by decide +kernel
theorem sl_digit (d : Nat) (c : UInt8) (x y : Int) (hx : x = d) (hy : y = (d + 1 : Nat)) (h : d < 10) (hc : c = UInt8.ofNat (48 + d)) (w : World) :
    (Instr.slice 9 (.string ⟨#[48, 49, 50, 51, 52, 53, 54, 55, 56, 57]⟩) (some (.int .u64 x)) (some (.int .u64 y)) none).run Tryz.prog w = .ok (.string (str [c])) w := by
  subst hx; subst hy
  rw [run_slice_string w 9 _ .u64 .u64 _ _ Tryz.underlying9 (by omega) (by omega) (by show ((d + 1 : Nat) : Int) ≤ ((10 : Nat) : Int); omega), Int.toNat_natCast, Int.toNat_natCast, hc]
  exact congrArg (fun b => Result.ok (Value.string b) w) (digit_at ⟨d, h⟩)
theorem dec_len : ∀ k n, n < 10 ^ (k + 1) → (Lib.decDigits n).length ≤ k + 1
  | 0, n, h => by rw [Lib.decDigits, dif_pos (by simpa using h)]; simp
  | k + 1, n, h => by
    rw [Lib.decDigits]
    split
    · simp
    · have := dec_len k (n / 10) (by rw [Nat.pow_succ] at h; omega)
      simp; omega
theorem dec_step (n : Nat) (h : 9 < n) (s : B) : Lib.decDigits n ++ s = Lib.decDigits (n / 10) ++ (UInt8.ofNat (48 + n % 10) :: s) := by
  rw [Lib.decDigits, dif_neg (by omega)]; simp
theorem val_take (l : B) (k : Nat) (h : k < l.length) : val (l.take (k + 1)) = 10 * val (l.take k) + ((l.getD k 0).toNat - 48) := by
  rw [List.take_add_one, List.getElem?_eq_getElem h]
  show val (l.take k ++ [l[k]]) = _
  rw [val_snoc]
  simp [h]
theorem val_lt : ∀ l : B, l.all dig = true → val l < 10 ^ l.length := by
  intro l
  induction l using snoc_ind with
  | h0 => intro _; decide
  | h1 s c ih =>
    intro h
    rw [List.all_append, Bool.and_eq_true] at h
    have := ih h.1
    have hc : dig c = true := by simpa using h.2
    simp only [dig, Bool.and_eq_true, decide_eq_true_eq] at hc
    rw [val_snoc, List.length_append, List.length_singleton, Nat.pow_succ]
    omega
theorem padded_head {l : B} (h1 : 1 < l.length) : padded l = decide ((l.getD 0 0).toNat = 48) := by unfold padded; rw [decide_eq_true h1, Bool.true_and]
/-- a number of more than ten digits without a nought ahead is too great -/
theorem val_ge : ∀ (k : Nat) (l : B), l.length = k + 1 → (∀ c ∈ l, dig c = true) → (l.getD 0 0).toNat ≠ 48 → 10 ^ k ≤ val l := by
  intro k
  induction k with
  | zero =>
    intro l hl hd h0
    match l, hl with
    | [c], _ =>
      have := hd c (by simp)
      simp only [dig, Bool.and_eq_true, decide_eq_true_eq] at this
      have h0 : c.toNat ≠ 48 := h0
      show 1 ≤ 10 * 0 + (c.toNat - 48)
      omega
  | succ k ih =>
    intro l hl hd h0
    have hk : k + 1 < l.length := by omega
    have e : l = l.take (k + 1) ++ [l.getD (k + 1) 0] := by
      have := List.take_append_drop (k + 1) l
      rw [List.drop_eq_getElem_cons hk, List.drop_eq_nil_of_le (by omega)] at this
      rw [List.getD_eq_getElem?_getD, List.getElem?_eq_getElem hk]
      exact this.symm
    have h1 := ih (l.take (k + 1)) (by simp; omega) (fun c hc => hd c (List.mem_of_mem_take hc)) (by
      have : (l.take (k + 1)).getD 0 0 = l.getD 0 0 := by rw [List.getD_eq_getElem?_getD, List.getElem?_take_of_lt (by omega), List.getD_eq_getElem?_getD]
      rw [this]; exact h0)
    rw [e, val_snoc, Nat.pow_succ]
    omega
theorem numb_long {l : B} (h : 10 < l.length) : numb l = none := by
  unfold numb
  rw [if_neg]
  rintro ⟨h1, h2, h3⟩
  unfold digs at h1
  rw [Bool.and_eq_true] at h1
  rw [padded_head (by omega), decide_eq_false_iff_not] at h2
  have := val_ge (l.length - 1) l (by omega) (fun c hc => List.all_eq_true.1 h1.1 c hc) h2
  have h4 : 10 ^ 10 ≤ 10 ^ (l.length - 1) := Nat.pow_le_pow_right (by decide) (by omega)
  unfold mx at h3
  omega
theorem numb_isSome (l : B) (h1 : digs l = true) (h2 : padded l = false) : (numb l).isSome = decide (val l ≤ mx) := by
  unfold numb
  by_cases h : val l ≤ mx
  · rw [if_pos ⟨h1, h2, h⟩, decide_eq_true h]; rfl
  · rw [if_neg (fun e => h e.2.2), decide_eq_false h]; rfl
theorem numb_val {l : B} {n : Nat} (h : numb l = some n) : n = val l ∧ val l ≤ mx := by
  unfold numb at h
  split at h
  · rename_i hc; cases h; exact ⟨rfl, hc.2.2⟩
  · cases h
theorem cast_le (v : Nat) : decide ((v : Int) ≤ 2147483647) = decide (v ≤ mx) := by
  have : ((v : Int) ≤ 2147483647) = (v ≤ mx) := propext ⟨fun h => by unfold mx; omega, fun h => by unfold mx at h; omega⟩
  simp only [this]
theorem ordI_cases (a b : B) : (a = b ∧ ordI a b = 0) ∨ (a ≠ b ∧ digs a = true ∧ digs b = false ∧ ordI a b = -1) ∨ (a ≠ b ∧ digs a = false ∧ digs b = true ∧ ordI a b = 1) ∨
    (a ≠ b ∧ digs a = true ∧ digs b = true ∧ a.length < b.length ∧ ordI a b = -1) ∨ (a ≠ b ∧ digs a = true ∧ digs b = true ∧ b.length < a.length ∧ ordI a b = 1) ∨
    (a ≠ b ∧ digs a = true ∧ digs b = true ∧ a.length = b.length ∧ ordI a b = if a < b then -1 else 1) ∨ (a ≠ b ∧ digs a = false ∧ digs b = false ∧ ordI a b = if a < b then -1 else 1) := by
  rw [ordI_is]
  by_cases e : a = b
  · exact .inl ⟨e, if_pos e⟩
  · rw [if_neg e]
    rcases Bool.eq_false_or_eq_true (digs a) with ha | ha <;> rcases Bool.eq_false_or_eq_true (digs b) with hb | hb <;> simp only [ha, hb, e, ne_eq, not_true, not_false_iff, true_and, false_and, Bool.false_eq_true, Bool.true_eq_false, if_true, if_false, or_false, false_or, not_false_eq_true, and_true]
    rcases Nat.lt_trichotomy a.length b.length with h | h | h
    · left; exact ⟨h, by rw [if_pos (by omega), if_pos h]⟩
    · right; right; exact ⟨h, by rw [if_neg (by omega)]⟩
    · right; left; exact ⟨h, by rw [if_pos (by omega), if_neg (by omega)]⟩
theorem str_beq_false {a b : B} (h : a ≠ b) : ((str a).toList == (str b).toList) = false := by rw [str_beq]; exact decide_eq_false h
theorem str_beq_true (a : B) : ((str a).toList == (str a).toList) = true := by simp
theorem less_eq : ∀ (x y : List UInt8), Op.bytesLess x y = decide (x < y)
  | [], [] => by simp [Op.bytesLess]
  | _ :: _, [] => by simp [Op.bytesLess]
  | [], _ :: _ => by simp [Op.bytesLess]
  | a :: x, b :: y => by
    have ih := less_eq x y
    simp only [Op.bytesLess, ih, List.cons_lt_cons_iff]
    rw [Bool.eq_iff_iff]
    simp
theorem str_less (a b : B) : Op.bytesLess (str a).toList (str b).toList = decide (a < b) := by rw [less_eq, str_list', str_list']
end VerC
end Go.Proofs.YtnkednjklfpblaaGreatDoor
