/-
  Names as lists of bytes: which may be, their one form, their squash; what follows of them.
-/
import Derived.Lib.Replace
import Derived.Lib.CountLaws
namespace Go.Proofs.YtbjifikbfagdjaaGreatDoor
namespace NameM

def letter (c : UInt8) : Bool := (decide (97 ≤ c.toNat) && decide (c.toNat ≤ 122)) || (decide (65 ≤ c.toNat) && decide (c.toNat ≤ 90)) || (decide (48 ≤ c.toNat) && decide (c.toNat ≤ 57))
def sign (c : UInt8) : Bool := decide (c.toNat = 45) || decide (c.toNat = 95) || decide (c.toNat = 46)
def okB (c : UInt8) : Bool := letter c || sign c
def low (c : UInt8) : UInt8 := if 65 ≤ c.toNat ∧ c.toNat ≤ 90 then c + 32 else c
def step (s : List UInt8) (a : List UInt8 × Bool) (c : UInt8) : List UInt8 × Bool :=
  if letter c then (a.1 ++ (if a.2 then s else []) ++ [low c], false) else (a.1, true)
/-- the one form so far; whether a run of separators was the last -/
def st (s l : List UInt8) : List UInt8 × Bool := l.foldl (step s) ([], false)
def formD (s l : List UInt8) : List UInt8 := (st s l).1
def may (l : List UInt8) : Bool := decide (1 ≤ l.length) && decide (l.length ≤ 64) && letter (l.getD 0 0) && letter (l.getD (l.length - 1) 0) && l.all okB
def norm (l : List UInt8) : List UInt8 := if may l then formD [45] l else []
def squash (l : List UInt8) : List UInt8 := if may l then formD [] l else []
def code (l : List UInt8) : Int := if may l then 0 else 60
def isN (l : List UInt8) : Bool := may l && decide (formD [45] l = l)
def same (a b : List UInt8) : Bool := may a && may b && decide (formD [45] a = formD [45] b)
def like (a b : List UInt8) : Bool := may a && may b && decide (formD [45] a ≠ formD [45] b) && decide (formD [] a = formD [] b)
def words : List (List UInt8) := [[121, 97, 110, 107, 108, 105, 110, 101], [114, 101, 103, 105, 115, 116, 114, 121], [105, 110, 100, 101, 120], [108, 111, 103], [112, 97, 103, 101], [98, 108, 111, 98]]
def reserved (l : List UInt8) : Bool := may l && decide (formD [] l ∈ words)
def holdB (c : UInt8) : Bool := (decide (97 ≤ c.toNat) && decide (c.toNat ≤ 122)) || (decide (48 ≤ c.toNat) && decide (c.toNat ≤ 57))
def holder (l : List UInt8) : Bool := decide (1 ≤ l.length) && decide (l.length ≤ 64) && (decide (97 ≤ (l.getD 0 0).toNat) && decide ((l.getD 0 0).toNat ≤ 122)) && l.all holdB

theorem snocRec {motive : List UInt8 → Prop} (nil : motive []) (snoc : ∀ a c, motive a → motive (a ++ [c])) (l : List UInt8) : motive l := by
  have h : ∀ n (l : List UInt8), l.length = n → motive l := by
    intro n
    induction n with
    | zero => intro l hl; rw [List.eq_nil_of_length_eq_zero hl]; exact nil
    | succ n ih =>
      intro l hl
      have hne : l ≠ [] := by intro e; subst e; simp at hl
      have e := List.dropLast_concat_getLast hne
      rw [← e]
      exact snoc _ _ (ih _ (by simp [hl]))
  exact h _ l rfl
theorem st_succ (s l : List UInt8) (k : Nat) (h : k < l.length) : st s (l.take (k + 1)) = step s (st s (l.take k)) (l.getD k 0) := by
  unfold st
  rw [List.take_add_one, List.foldl_append]
  simp [h]
theorem st_all (s l : List UInt8) (k : Nat) (h : l.length ≤ k) : st s (l.take k) = st s l := by rw [List.take_of_length_le h]
theorem st_append (s a : List UInt8) (c : UInt8) : st s (a ++ [c]) = step s (st s a) c := by unfold st; rw [List.foldl_append]; rfl
theorem low_nat (c : UInt8) : (low c).toNat = if 65 ≤ c.toNat ∧ c.toNat ≤ 90 then c.toNat + 32 else c.toNat := by
  unfold low
  split
  · rename_i h
    rw [UInt8.toNat_add]
    show (c.toNat + 32) % 256 = _
    omega
  · rfl
theorem low_letter {c : UInt8} (h : letter c = true) : letter (low c) = true ∧ low (low c) = low c ∧ low c ≠ 45 := by
  have hn := low_nat c
  have hl : letter c = true := h
  simp only [letter, Bool.or_eq_true, Bool.and_eq_true, decide_eq_true_eq] at h
  have h2 : 97 ≤ (low c).toNat ∧ (low c).toNat ≤ 122 ∨ 48 ≤ (low c).toNat ∧ (low c).toNat ≤ 57 := by
    rw [hn]; split <;> omega
  refine ⟨?_, ?_, ?_⟩
  · simp only [letter, Bool.or_eq_true, Bool.and_eq_true, decide_eq_true_eq]; omega
  · apply UInt8.toNat_inj.1
    rw [low_nat (low c), if_neg (by omega)]
  · intro e; rw [e] at h2; revert h2; decide
theorem st_length (s l : List UInt8) (hs : s.length ≤ 1) : (st s l).1.length + (if (st s l).2 then 1 else 0) ≤ l.length := by
  induction l using snocRec with
  | nil => simp [st]
  | snoc a c ih =>
    rw [st_append]
    unfold step
    split
    · simp only [List.length_append, List.length_cons, List.length_nil]
      by_cases h : (st s a).2 = true
      · simp only [h, if_true] at ih ⊢; simp; omega
      · simp only [h] at ih ⊢; simp at ih ⊢; omega
    · simp only [List.length_append, List.length_cons, List.length_nil, if_true]
      have : (st s a).1.length ≤ a.length := by omega
      omega
theorem formD_length (s l : List UInt8) (hs : s.length ≤ 1) : (formD s l).length ≤ l.length := by have := st_length s l hs; unfold formD; omega
/-- the form of what is one -/
theorem st_idem (l : List UInt8) : st [45] (st [45] l).1 = ((st [45] l).1, false) := by
  induction l using snocRec with
  | nil => rfl
  | snoc a c ih =>
    rw [st_append]
    unfold step
    split
    · rename_i hc
      obtain ⟨h1, h2, _⟩ := low_letter hc
      by_cases h : (st [45] a).2 = true
      · rw [h]
        simp only [if_true]
        rw [st_append, st_append, ih]
        have h45 : letter (45 : UInt8) = false := by decide
        simp [step, h1, h2, h45]
      · have h' : (st [45] a).2 = false := by simpa using h
        rw [h']
        simp only [Bool.false_eq_true, if_false, List.append_nil]
        rw [st_append, ih]
        simp [step, h1, h2]
    · exact ih
theorem formD_idem (l : List UInt8) : formD [45] (formD [45] l) = formD [45] l := by unfold formD; rw [st_idem]
/-- the squash is the form without its signs -/
theorem st_filter (l : List UInt8) : (st [45] l).1.filter (· != 45) = (st [] l).1 ∧ (st [45] l).2 = (st [] l).2 := by
  induction l using snocRec with
  | nil => exact ⟨rfl, rfl⟩
  | snoc a c ih =>
    rw [st_append, st_append]
    unfold step
    split
    · rename_i hc
      obtain ⟨_, _, h3⟩ := low_letter hc
      refine ⟨?_, rfl⟩
      simp only [List.filter_append, ih.1, ih.2, ite_self, List.append_nil]
      by_cases h : (st [] a).2 = true
      · simp [h, h3]
      · simp [h, h3]
    · exact ⟨ih.1, rfl⟩
theorem formD_filter (l : List UInt8) : (formD [45] l).filter (· != 45) = formD [] l := (st_filter l).1
theorem formD_squash (l : List UInt8) : formD [] (formD [45] l) = formD [] l := by
  rw [← formD_filter (formD [45] l), formD_idem, formD_filter]

theorem index_skip {b c : UInt8} (l : List UInt8) (h : b ≠ c) : Lib.index (b :: l) [c] = if Lib.index l [c] = -1 then -1 else Lib.index l [c] + 1 := by
  rw [Lib.index, if_neg (by simp [List.isPrefixOf, Ne.symm h])]
  by_cases e : Lib.index l [c] = -1
  · rw [if_pos (by rw [e]; rfl), if_pos e]
  · rw [if_neg (by simpa using e), if_neg e]
theorem replaceK_filter (c : UInt8) : ∀ (s : List UInt8) (k : Nat), s.count c ≤ k → Lib.replaceK [c] [] k s = s.filter (· != c)
  | [], k, _ => by cases k <;> simp [Lib.replaceK, Lib.index]
  | b :: l, k, h => by
    by_cases e : b = c
    · subst e
      rw [List.count_cons_self] at h
      obtain ⟨k, rfl⟩ : ∃ m, k = m + 1 := ⟨k - 1, by omega⟩
      have hix : Lib.index (b :: l) [b] = (0 : Nat) := by unfold Lib.index; rw [if_pos (by simp [List.isPrefixOf])]; rfl
      rw [Lib.replaceK_hit [b] [] k (b :: l) 0 hix]
      simp only [List.take_zero, List.nil_append, List.length_cons, List.length_nil, Nat.zero_add, List.drop_succ_cons, List.drop_zero]
      rw [replaceK_filter b l k (by omega)]
      simp
    · rw [List.count_cons_of_ne (by simpa using e)] at h
      have hf : (b :: l).filter (· != c) = b :: l.filter (· != c) := by simp [e]
      rw [hf, ← replaceK_filter c l k h]
      have hix := index_skip l e
      cases k with
      | zero => rfl
      | succ k =>
        have hge := Lib.index_ge l [c]
        by_cases hm : Lib.index l [c] = -1
        · rw [if_pos hm] at hix
          unfold Lib.replaceK
          rw [if_pos (by rw [hix]; rfl), if_pos (by rw [hm]; rfl)]
        · rw [if_neg hm] at hix
          obtain ⟨i, hi⟩ : ∃ i : Nat, Lib.index l [c] = i := ⟨(Lib.index l [c]).toNat, by omega⟩
          rw [Lib.replaceK_hit [c] [] k l i hi, Lib.replaceK_hit [c] [] k (b :: l) (i + 1) (by rw [hix, hi]; rfl)]
          simp only [List.take_succ_cons, List.cons_append, List.length_cons, List.length_nil, List.append_nil]
          rw [show i + 1 + (0 + 1) = (i + (0 + 1)) + 1 from rfl, List.drop_succ_cons]
theorem replace_filter (c : UInt8) (s : List UInt8) : Lib.replaceAll s [c] [] = s.filter (· != c) := by
  unfold Lib.replaceAll Lib.replace
  rw [if_neg (by simp)]
  refine replaceK_filter c s _ ?_
  unfold Lib.replaceNum
  rw [if_pos (Or.inl (by decide)), Lib.count_one]
  exact Nat.le_refl _

/-- what package name has built so far: a run of separators is one sign ahead of what comes -/
def prog (l : List UInt8) : List UInt8 := (st [45] l).1 ++ (if (st [45] l).2 then [45] else [])
theorem prog_letter {l : List UInt8} {c : UInt8} (h : letter c = true) : prog (l ++ [c]) = prog l ++ [low c] := by
  unfold prog; rw [st_append]; unfold step; rw [if_pos h]; simp
theorem prog_sign {l : List UInt8} {c : UInt8} (h : letter c = false) : prog (l ++ [c]) = if (st [45] l).2 then prog l else prog l ++ [45] := by
  unfold prog; rw [st_append]; unfold step; rw [if_neg (by rw [h]; decide)]
  by_cases e : (st [45] l).2 = true
  · simp [e]
  · simp [e]
/-- the last byte: the sign in a run, else none -/
theorem prog_last {l : List UInt8} (h : l ≠ []) : ∃ r c, prog l = r ++ [c] ∧ (c = 45 ↔ (st [45] l).2 = true) := by
  induction l using snocRec with
  | nil => exact absurd rfl h
  | snoc a c _ =>
    by_cases hc : letter c = true
    · refine ⟨prog a, low c, prog_letter hc, ?_⟩
      rw [st_append]; unfold step; rw [if_pos hc]
      simp [(low_letter hc).2.2]
    · refine ⟨(st [45] a).1, 45, ?_, ?_⟩
      · unfold prog; rw [st_append]; unfold step; rw [if_neg hc]; simp
      · rw [st_append]; unfold step; rw [if_neg hc]; simp
theorem prog_end {l : List UInt8} (h1 : l ≠ []) (h2 : letter (l.getD (l.length - 1) 0) = true) : prog l = formD [45] l := by
  induction l using snocRec with
  | nil => exact absurd rfl h1
  | snoc a c _ =>
    have hc : letter c = true := by simpa using h2
    unfold prog formD; rw [st_append]; unfold step; rw [if_pos hc]; simp
theorem prog_length (l : List UInt8) : (prog l).length ≤ l.length := by
  have := st_length [45] l (by decide)
  unfold prog
  by_cases e : (st [45] l).2 = true
  · simp only [e, if_true] at this ⊢; simp; omega
  · simp only [e] at this ⊢; simp at this ⊢; omega
theorem prog_take (l : List UInt8) (k : Nat) (h : k < l.length) : l.take (k + 1) = l.take k ++ [l.getD k 0] := by
  rw [List.take_add_one]; simp [h]

theorem okB_not {c : UInt8} (h : okB c = false) : letter c = false ∧ sign c = false := by unfold okB at h; simpa using h
theorem sign_letter {c : UInt8} (h : sign c = true) : letter c = false := by
  simp only [sign, Bool.or_eq_true, decide_eq_true_eq] at h
  simp only [letter, Bool.or_eq_false_iff, Bool.and_eq_false_iff, decide_eq_false_iff_not]
  omega

/-- what stands in a form: small letters, digits and single signs between such -/
theorem st_ok (l : List UInt8) (h : l.all okB = true) : (st [45] l).1.all okB = true := by
  induction l using snocRec with
  | nil => rfl
  | snoc a c ih =>
    rw [List.all_append] at h
    simp only [Bool.and_eq_true] at h
    rw [st_append]; unfold step
    split
    · rename_i hc
      rw [List.all_append, List.all_append, ih h.1]
      have : okB (low c) = true := by unfold okB; rw [(low_letter hc).1]; rfl
      by_cases e : (st [45] a).2 = true
      · simp [e, this]; decide
      · simp [e, this]
    · exact ih h.1
theorem st_first (s l : List UInt8) (h1 : l ≠ []) (h : letter (l.getD 0 0) = true) : (st s l).1 ≠ [] ∧ (st s l).1.getD 0 0 = low (l.getD 0 0) := by
  induction l using snocRec with
  | nil => exact absurd rfl h1
  | snoc a c ih =>
    rw [st_append]; unfold step
    by_cases ha : a = []
    · subst ha
      have hc : letter c = true := by simpa using h
      rw [if_pos hc]
      simp [st]
    · have hl : 0 < a.length := List.length_pos_iff.2 ha
      have h0 : (a ++ [c]).getD 0 0 = a.getD 0 0 := by simp [List.getD, hl]
      rw [h0] at h ⊢
      obtain ⟨i1, i2⟩ := ih ha h
      have hp : 0 < (st s a).1.length := List.length_pos_iff.2 i1
      split
      · refine ⟨by simp, ?_⟩
        rw [← i2, List.append_assoc]
        simp [List.getD, List.getElem?_append_left hp, hp]
      · exact ⟨i1, i2⟩
theorem formD_last {l : List UInt8} (h1 : l ≠ []) (h2 : letter (l.getD (l.length - 1) 0) = true) : letter ((formD [45] l).getD ((formD [45] l).length - 1) 0) = true := by
  induction l using snocRec with
  | nil => exact absurd rfl h1
  | snoc a c _ =>
    have hc : letter c = true := by simpa using h2
    unfold formD; rw [st_append]; unfold step; rw [if_pos hc]
    have h : ∀ r : List UInt8, letter ((r ++ [low c]).getD ((r ++ [low c]).length - 1) 0) = true := fun r => by simpa using (low_letter hc).1
    exact h _
theorem may_iff {l : List UInt8} : may l = true ↔ (1 ≤ l.length ∧ l.length ≤ 64 ∧ letter (l.getD 0 0) = true ∧ letter (l.getD (l.length - 1) 0) = true ∧ l.all okB = true) := by
  unfold may; simp only [Bool.and_eq_true, decide_eq_true_eq]
  constructor
  · rintro ⟨⟨⟨⟨a, b⟩, c⟩, d⟩, e⟩; exact ⟨a, b, c, d, e⟩
  · rintro ⟨a, b, c, d, e⟩; exact ⟨⟨⟨⟨a, b⟩, c⟩, d⟩, e⟩
theorem may_form {l : List UInt8} (h : may l = true) : may (formD [45] l) = true := by
  obtain ⟨a, b, c, d, e⟩ := may_iff.1 h
  have hn : l ≠ [] := by intro e; subst e; simp at a
  have hf := st_first [45] l hn c
  refine may_iff.2 ⟨List.length_pos_iff.2 hf.1, Nat.le_trans (formD_length _ _ (by decide)) b, ?_, formD_last hn d, st_ok l e⟩
  show letter ((st [45] l).1.getD 0 0) = true
  rw [hf.2]; exact (low_letter c).1
theorem reserved_form {l : List UInt8} (h : may l = true) : reserved (formD [45] l) = reserved l := by
  unfold reserved; rw [h, may_form h, formD_squash]
theorem same_squash {a b : List UInt8} (h : formD [45] a = formD [45] b) : formD [] a = formD [] b := by rw [← formD_filter, h, formD_filter]
theorem same_comm (a b : List UInt8) : same a b = same b a := by
  unfold same; rw [Bool.and_comm (may a)]; congr 1; simp [eq_comm]
theorem like_comm (a b : List UInt8) : like a b = like b a := by
  unfold like; rw [Bool.and_comm (may a)]
  congr 1
  · congr 1; simp [eq_comm]
  · simp [eq_comm]
theorem same_trans {a b c : List UInt8} (h1 : same a b = true) (h2 : same b c = true) : same a c = true := by
  unfold same at *; simp only [Bool.and_eq_true, decide_eq_true_eq] at *
  exact ⟨⟨h1.1.1, h2.1.2⟩, h1.2.trans h2.2⟩
theorem reserved_goes {a b : List UInt8} (h : same a b = true ∨ like a b = true) : reserved a = reserved b := by
  have : may a = true ∧ may b = true ∧ formD [] a = formD [] b := by
    rcases h with h | h
    · unfold same at h; simp only [Bool.and_eq_true, decide_eq_true_eq] at h; exact ⟨h.1.1, h.1.2, same_squash h.2⟩
    · unfold like at h; simp only [Bool.and_eq_true, decide_eq_true_eq] at h; exact ⟨h.1.1.1, h.1.1.2, h.2⟩
  unfold reserved; rw [this.1, this.2.1, this.2.2]
theorem not_both (a b : List UInt8) : (same a b && like a b) = false := by
  unfold same like
  by_cases h : formD [45] a = formD [45] b
  · simp [h]
  · simp [h]
theorem words_nil : ([] : List UInt8) ∉ words := by decide
end NameM
end Go.Proofs.YtbjifikbfagdjaaGreatDoor
