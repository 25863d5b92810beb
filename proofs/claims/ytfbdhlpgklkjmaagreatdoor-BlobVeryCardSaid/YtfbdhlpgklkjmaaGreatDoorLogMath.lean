/-
  The plain mathematics of layer 5: the names of a log's files, and which file a name is. It names nothing of the program.
  The plain mathematics of layer 5, the program's way: a file's name is the digits of 100000000 + n but the first; names of as many digits stand in order as their numbers do.
-/
import Derived.WalkKit
import Derived.Lib.ItoaNum
import Derived.Lib.Strings
import Derived.Lib.SlTrimSet
namespace Go.Proofs.YtfbdhlpgklkjmaaGreatDoor.LogM

/-- the last k decimal digits of n, the highest first -/
def dig (n : Nat) : Nat → List UInt8
  | 0 => []
  | k + 1 => UInt8.ofNat (48 + n / 10 ^ k % 10) :: dig n k
def pre4 : List UInt8 := [108, 111, 103, 47]
def fileB (n : Nat) : List UInt8 := pre4 ++ dig n 8
def isDig (c : UInt8) : Bool := decide (48 ≤ c.toNat) && decide (c.toNat ≤ 57)
def decV (l : List UInt8) : Nat := l.foldl (fun n c => 10 * n + (c.toNat - 48)) 0
/-- which file of a log a name is; 0: none -/
def numB (l : List UInt8) : Nat := if l.length = 12 ∧ l.take 4 = pre4 ∧ (l.drop 4).all isDig = true then decV (l.drop 4) else 0

theorem dig_length (n k : Nat) : (dig n k).length = k := by
  induction k with
  | zero => rfl
  | succ k ih => simp [dig, ih]
theorem fileB_length (n : Nat) : (fileB n).length = 12 := by simp [fileB, pre4, dig_length]
theorem digit_nat (n k : Nat) : (UInt8.ofNat (48 + n / 10 ^ k % 10)).toNat = 48 + n / 10 ^ k % 10 := UInt8.toNat_ofNat_of_lt' (by have := Nat.mod_lt (n / 10 ^ k) (show 0 < 10 by decide); show _ < 256; omega)
theorem dig_all (n k : Nat) : (dig n k).all isDig = true := by
  induction k with
  | zero => rfl
  | succ k ih =>
    rw [dig, List.all_cons, ih, Bool.and_true]
    have := Nat.mod_lt (n / 10 ^ k) (show 0 < 10 by decide)
    unfold isDig
    rw [digit_nat]
    simp
    omega
theorem fold_dec (l : List UInt8) : ∀ a : Nat, l.foldl (fun n c => 10 * n + (c.toNat - 48)) a = a * 10 ^ l.length + decV l := by
  induction l with
  | nil => intro a; simp [decV]
  | cons c r ih =>
    intro a
    show r.foldl _ (10 * a + (c.toNat - 48)) = _ + r.foldl _ (10 * 0 + (c.toNat - 48))
    rw [ih, ih (10 * 0 + (c.toNat - 48)), List.length_cons, Nat.pow_succ, Nat.add_mul, Nat.mul_zero, Nat.zero_add, Nat.mul_comm (10 ^ r.length) 10, ← Nat.mul_assoc, Nat.mul_comm a 10, Nat.add_assoc]
theorem decV_cons (c : UInt8) (r : List UInt8) : decV (c :: r) = (c.toNat - 48) * 10 ^ r.length + decV r := by
  show r.foldl _ (10 * 0 + (c.toNat - 48)) = _
  rw [fold_dec, Nat.mul_zero, Nat.zero_add]
theorem decV_snoc (l : List UInt8) (c : UInt8) : decV (l ++ [c]) = 10 * decV l + (c.toNat - 48) := by simp [decV]
theorem decV_lt : ∀ l : List UInt8, l.all isDig = true → decV l < 10 ^ l.length
  | [], _ => by decide
  | c :: r, h => by
    rw [List.all_cons, Bool.and_eq_true] at h
    have ih := decV_lt r h.2
    have hc : c.toNat ≤ 57 := by have := h.1; simp [isDig] at this; exact this.2
    have h2 : (c.toNat - 48) * 10 ^ r.length ≤ 9 * 10 ^ r.length := Nat.mul_le_mul_right _ (by omega)
    rw [decV_cons, List.length_cons, Nat.pow_succ]
    omega
theorem decV_dig (n : Nat) : ∀ k, decV (dig n k) = n % 10 ^ k
  | 0 => by simp [dig, decV, Nat.mod_one]
  | k + 1 => by
    rw [dig, decV_cons, dig_length, decV_dig n k, digit_nat, Nat.add_sub_cancel_left, Nat.pow_succ, Nat.mod_mul]
    rw [Nat.mul_comm (10 ^ k)]
    omega
theorem dig_mod (n : Nat) : ∀ k j : Nat, k ≤ j → dig (n % 10 ^ j) k = dig n k
  | 0, _, _ => rfl
  | k + 1, j, h => by
    rw [dig, dig, dig_mod n k j (by omega)]
    congr 3
    have e : 10 ^ j = 10 ^ k * 10 ^ (j - k) := by rw [← Nat.pow_add]; congr 1; omega
    rw [e, Nat.mod_mul_right_div_self]
    have e2 : 10 ^ (j - k) = 10 * 10 ^ (j - k - 1) := by rw [Nat.mul_comm, ← Nat.pow_succ]; congr 1; omega
    rw [e2, Nat.mod_mul_right_mod]
theorem dig_decV : ∀ l : List UInt8, l.all isDig = true → dig (decV l) l.length = l
  | [], _ => rfl
  | c :: r, h => by
    rw [List.all_cons, Bool.and_eq_true] at h
    have hlt := decV_lt r h.2
    have hp : 0 < 10 ^ r.length := Nat.pow_pos (by decide)
    have hc : 48 ≤ c.toNat ∧ c.toNat ≤ 57 := by have := h.1; simpa [isDig] using this
    rw [List.length_cons, dig, decV_cons]
    have e1 : ((c.toNat - 48) * 10 ^ r.length + decV r) / 10 ^ r.length = c.toNat - 48 := by
      rw [Nat.mul_comm, Nat.mul_add_div hp, Nat.div_eq_of_lt hlt, Nat.add_zero]
    have e2 : dig ((c.toNat - 48) * 10 ^ r.length + decV r) r.length = dig (decV r) r.length := by
      rw [← dig_mod _ r.length r.length (Nat.le_refl _), Nat.mul_comm, Nat.mul_add_mod, dig_mod _ _ _ (Nat.le_refl _)]
    rw [e1, e2, dig_decV r h.2, Nat.mod_eq_of_lt (by omega), show 48 + (c.toNat - 48) = c.toNat by omega, UInt8.ofNat_toNat]
theorem num_file (n : Nat) (h : n < 100000000) : numB (fileB n) = n := by
  have hd : (fileB n).drop 4 = dig n 8 := rfl
  rw [numB, if_pos ⟨fileB_length n, rfl, by rw [hd]; exact dig_all n 8⟩, hd, decV_dig, Nat.mod_eq_of_lt (by simpa using h)]
theorem file_num (l : List UInt8) (h : numB l ≠ 0) : l = fileB (numB l) ∧ numB l < 100000000 := by
  unfold numB at h ⊢
  split at h
  · rename_i hh
    obtain ⟨h1, h2, h3⟩ := hh
    rw [if_pos ⟨h1, h2, h3⟩]
    have hl : (l.drop 4).length = 8 := by rw [List.length_drop]; omega
    have e := dig_decV (l.drop 4) h3
    have hlt := decV_lt (l.drop 4) h3
    rw [hl] at e hlt
    refine ⟨?_, by simpa using hlt⟩
    rw [fileB, e, ← h2, List.take_append_drop]
  · exact absurd rfl h
theorem file_inj (m n : Nat) (hm : m < 100000000) (hn : n < 100000000) (h : fileB m = fileB n) : m = n := by
  rw [← num_file m hm, h, num_file n hn]
/-- the name while it is written: i digits are -/
def fileAt (n i : Nat) : List UInt8 := pre4 ++ (List.replicate (8 - i) 48 ++ dig n i)
theorem fileAt_length (n i : Nat) (h : i ≤ 8) : (fileAt n i).length = 12 := by simp [fileAt, pre4, dig_length]; omega
theorem fileAt_all (n : Nat) : fileAt n 8 = fileB n := by simp [fileAt, fileB]
theorem fileAt_set (n i : Nat) (h : i < 8) : (fileAt n i).set (11 - i) (UInt8.ofNat (48 + n / 10 ^ i % 10)) = fileAt n (i + 1) := by
  have e : 11 - i = 4 + (8 - i - 1) := by omega
  have e2 : 8 - i = (8 - i - 1) + 1 := by omega
  unfold fileAt
  rw [e, List.set_append_right _ _ (by simp [pre4]), show 4 + (8 - i - 1) - pre4.length = 8 - i - 1 by simp [pre4], List.set_append_left _ _ (by simp; omega)]
  have hs : (List.replicate (8 - i) (48 : UInt8)).set (8 - i - 1) (UInt8.ofNat (48 + n / 10 ^ i % 10)) = List.replicate (8 - (i + 1)) 48 ++ [UInt8.ofNat (48 + n / 10 ^ i % 10)] := by
    rw [e2, List.replicate_succ', show 8 - i - 1 + 1 - 1 = 8 - i - 1 by omega, List.set_append_right _ _ (by simp), List.length_replicate, Nat.sub_self, List.set_cons_zero]
    congr 2
  rw [hs, dig, List.append_assoc]
  rfl
end Go.Proofs.YtfbdhlpgklkjmaaGreatDoor.LogM
namespace Go.Proofs.YtfbdhlpgklkjmaaGreatDoor.LogM

theorem dig_snoc (n : Nat) : ∀ k, dig n (k + 1) = dig (n / 10) k ++ [UInt8.ofNat (48 + n % 10)]
  | 0 => by simp [dig]
  | k + 1 => by
    rw [dig, dig_snoc n k, dig, List.cons_append]
    congr 4
    rw [Nat.div_div_eq_div_mul, Nat.pow_succ, Nat.mul_comm]
theorem dec_dig : ∀ (k u : Nat), 10 ^ k ≤ u → u < 10 ^ (k + 1) → Lib.decDigits u = dig u (k + 1)
  | 0, u, _, h2 => by
    rw [Lib.decDigits, dif_pos (by simpa using h2)]
    simp [dig]
    rw [Nat.mod_eq_of_lt (by simpa using h2)]
  | k + 1, u, h1, h2 => by
    have hp : 10 ^ (k + 1) = 10 ^ k * 10 := Nat.pow_succ _ _
    have hp2 : 10 ^ (k + 1 + 1) = 10 ^ (k + 1) * 10 := Nat.pow_succ _ _
    have hk : 0 < 10 ^ k := Nat.pow_pos (by decide)
    rw [Lib.decDigits, dif_neg (by omega), dec_dig k (u / 10) (by omega) (by omega), dig_snoc u (k + 1)]
theorem file_dig (n : Nat) (h : n < 100000000) : pre4 ++ (Lib.decDigits (100000000 + n)).drop 1 = fileB n := by
  rw [dec_dig 8 (100000000 + n) (by simp) (by simp; omega)]
  show pre4 ++ dig (100000000 + n) 8 = pre4 ++ dig n 8
  rw [← dig_mod (100000000 + n) 8 8 (Nat.le_refl _), show (100000000 + n) % 10 ^ 8 = n by simp; omega]
theorem dec_len (n : Nat) (h : n < 100000000) : (Lib.decDigits (100000000 + n)).length = 9 := by
  rw [dec_dig 8 (100000000 + n) (by simp) (by simp; omega), dig_length]
theorem itoa_is (n : Nat) : Lib.itoa ((100000000 + n : Nat) : Int) = Lib.decDigits (100000000 + n) := by
  unfold Lib.itoa
  rw [if_neg (by omega)]
  rfl

/-- the name is one that a log's file has (or one of the number 0) -/
def namedB (l : List UInt8) : Bool := decide (l.length = 12 ∧ l.take 4 = pre4 ∧ (l.drop 4).all isDig = true)
theorem named_num {l : List UInt8} (h : namedB l = true) : numB l = decV (l.drop 4) ∧ l = pre4 ++ l.drop 4 ∧ (l.drop 4).length = 8 ∧ (l.drop 4).all isDig = true := by
  have hh := of_decide_eq_true h
  refine ⟨if_pos hh, ?_, by rw [List.length_drop]; omega, hh.2.2⟩
  have e := List.take_append_drop 4 l
  rw [hh.2.1] at e
  exact e.symm
theorem not_named {l : List UInt8} (h : namedB l = false) : numB l = 0 := if_neg (of_decide_eq_false h)
theorem less_pre (p : List UInt8) : ∀ a b : List UInt8, Op.bytesLess (p ++ a) (p ++ b) = Op.bytesLess a b := by
  induction p with
  | nil => intro a b; rfl
  | cons c r ih => intro a b; simp [Op.bytesLess, ih]
/-- digits of one length: in order as their numbers -/
theorem less_dig : ∀ (a b : List UInt8), a.length = b.length → a.all isDig = true → b.all isDig = true → (Op.bytesLess a b = true ↔ decV a < decV b)
  | [], [], _, _, _ => by simp [Op.bytesLess]
  | [], _ :: _, h, _, _ => by simp at h
  | _ :: _, [], h, _, _ => by simp at h
  | c :: r, d :: q, h, ha, hb => by
    rw [List.all_cons, Bool.and_eq_true] at ha hb
    have hl : r.length = q.length := by simpa using h
    have ih := less_dig r q hl ha.2 hb.2
    have h1 := decV_lt r ha.2
    have h2 := decV_lt q hb.2
    rw [hl] at h1
    have hc : 48 ≤ c.toNat ∧ c.toNat ≤ 57 := by have := ha.1; simpa [isDig] using this
    have hd : 48 ≤ d.toNat ∧ d.toNat ≤ 57 := by have := hb.1; simpa [isDig] using this
    rw [decV_cons, decV_cons, hl]
    simp only [Op.bytesLess, Bool.or_eq_true, decide_eq_true_eq, Bool.and_eq_true, beq_iff_eq]
    rcases Nat.lt_trichotomy c.toNat d.toNat with hlt | heq | hgt
    · have hm : (c.toNat - 48 + 1) * 10 ^ q.length ≤ (d.toNat - 48) * 10 ^ q.length := Nat.mul_le_mul_right _ (by omega)
      rw [Nat.add_mul] at hm
      exact ⟨fun _ => by omega, fun _ => .inl (UInt8.lt_iff_toNat_lt.2 hlt)⟩
    · have e : c = d := UInt8.toNat_inj.1 heq
      subst e
      constructor
      · rintro (h | ⟨-, h⟩)
        · exact absurd h (UInt8.lt_irrefl _)
        · have := ih.1 h; omega
      · intro h
        exact .inr ⟨rfl, ih.2 (by omega)⟩
    · have hm : (d.toNat - 48 + 1) * 10 ^ q.length ≤ (c.toNat - 48) * 10 ^ q.length := Nat.mul_le_mul_right _ (by omega)
      rw [Nat.add_mul] at hm
      constructor
      · rintro (h | ⟨h, -⟩)
        · have := UInt8.lt_iff_toNat_lt.1 h; omega
        · subst h; omega
      · intro h; omega
theorem behind_num (n : Nat) (hn : n < 100000000) (l : List UInt8) (h : namedB l = true) : (Op.bytesLess (fileB n) l = true ↔ n < numB l) := by
  obtain ⟨h1, h2, h3, h4⟩ := named_num h
  have e : fileB n = pre4 ++ dig n 8 := rfl
  rw [h1, e]
  rw [h2, less_pre, less_dig _ _ (by rw [dig_length, h3]) (dig_all n 8) h4, decV_dig, Nat.mod_eq_of_lt (by simpa using hn)]
  rw [← h2]

/-- nothing is left of the digits where there is nothing else -/
def digs : List UInt8 := [48, 49, 50, 51, 52, 53, 54, 55, 56, 57]
set_option maxRecDepth 100000 in
theorem dig_in (c : UInt8) : digs.contains c = isDig c := by
  have h : ∀ k : Fin 256, digs.contains (UInt8.ofNat k.val) = isDig (UInt8.ofNat k.val) := by decide
  have := h ⟨c.toNat, c.toNat_lt⟩
  rwa [UInt8.ofNat_toNat] at this
theorem dropWhile_nil {p : UInt8 → Bool} : ∀ {l : List UInt8}, l.dropWhile p = [] ↔ l.all p = true
  | [] => by simp
  | c :: r => by
    rw [List.dropWhile_cons, List.all_cons]
    by_cases h : p c = true
    · rw [if_pos h, dropWhile_nil, h]; simp
    · rw [if_neg h]; simp [h]
theorem trim_nil (l : List UInt8) : (Lib.trimS l digs = []) ↔ l.all isDig = true := by
  have hp : (fun c => digs.contains c) = isDig := funext dig_in
  unfold Lib.trimS Lib.trimLeftS Lib.trimRightS
  rw [show (fun x => digs.contains x) = isDig from hp, dropWhile_nil]
  constructor
  · intro h
    by_cases ha : l.all isDig = true
    · exact ha
    · exfalso
      have hne : l.reverse.dropWhile isDig ≠ [] := fun e => ha (by
        have := dropWhile_nil.1 e
        rw [List.all_reverse] at this
        exact this)
      obtain ⟨c, r, e⟩ := List.exists_cons_of_ne_nil hne
      have hc : isDig c = false := by
        have := List.head_dropWhile_not (p := isDig) (l := l.reverse) hne
        simpa [e] using this
      rw [e] at h
      have := List.all_eq_true.1 h c (by simp)
      rw [hc] at this
      cases this
  · intro h
    have : l.reverse.dropWhile isDig = [] := dropWhile_nil.2 (by rw [List.all_reverse]; exact h)
    rw [this]
    rfl
end Go.Proofs.YtfbdhlpgklkjmaaGreatDoor.LogM
