/-
  The plain mathematics of layer 2, more: lists of texts as they are read; words as they are read. It names nothing of the program.
-/
import Derived.Test.YtgjcbcakmcgjhaaDoorCodeMath
namespace Go.Proofs.YtgjcbcakmcgjhaaDoor.CodeM

/-! ### lists of texts -/
/-- so many texts, each of at most 'each' bytes, from a place on: the texts, an error's number, the place behind (of an error: nothing that matters) -/
def lRes (each : Nat) (s : ByteArray) : Nat → Nat → List ByteArray × Nat × Nat
  | 0, k => ([], 0, k)
  | n + 1, k =>
    let t := tRes each k s
    if t.2.2.1 = 0 then (let r := lRes each s n t.2.2.2.2; (if r.2.1 = 0 then s.extract t.1 t.2.1 :: r.1 else [], r.2.1, r.2.2)) else ([], t.2.2.1, k)
/-- texts that were read already, ahead of those -/
def pre (L : List ByteArray) (r : List ByteArray × Nat × Nat) : List ByteArray × Nat × Nat := (if r.2.1 = 0 then L ++ r.1 else [], r.2.1, r.2.2)
theorem lRes_err {each k n e p q a b : Nat} {s : ByteArray} (h : tRes each k s = (a, b, e, p, q)) (he : e ≠ 0) : lRes each s (n + 1) k = ([], e, k) := by
  simp [lRes, h, he]
theorem lRes_ok {each k n p q a b : Nat} {s : ByteArray} (h : tRes each k s = (a, b, 0, p, q)) : lRes each s (n + 1) k = pre [s.extract a b] (lRes each s n q) := by
  simp [lRes, h, pre]
theorem lRes_zero {each k : Nat} {s : ByteArray} : lRes each s 0 k = ([], 0, k) := rfl
theorem pre_nil (r : List ByteArray × Nat × Nat) (h : r.2.1 ≠ 0 → r.1 = []) : pre [] r = r := by
  obtain ⟨l, e, q⟩ := r
  unfold pre
  by_cases he : e = 0
  · simp [he]
  · have := h he
    simp at this
    simp [he, this]
theorem pre_pre (L M : List ByteArray) (r : List ByteArray × Nat × Nat) : pre L (pre M r) = pre (L ++ M) r := by
  obtain ⟨l, e, q⟩ := r
  unfold pre
  by_cases he : e = 0 <;> simp [he]
theorem lRes_clean (each : Nat) (s : ByteArray) : ∀ n k, (lRes each s n k).2.1 ≠ 0 → (lRes each s n k).1 = []
  | 0, k, h => absurd rfl h
  | n + 1, k, h => by
    unfold lRes at h ⊢
    simp only at h ⊢
    split
    · rename_i ht
      rw [if_pos ht] at h
      simp only at h ⊢
      rw [if_neg h]
    · rfl
theorem pre_err (L : List ByteArray) {e q : Nat} (h : e ≠ 0) : pre L ([], e, q) = ([], e, q) := by simp [pre, h]
theorem pre_ok (L : List ByteArray) (q : Nat) : pre L ([], 0, q) = (L, 0, q) := by simp [pre]
/-- the three ways of Text -/
theorem tRes_cases (most k : Nat) (s : ByteArray) (hk : k ≤ s.size) :
    (∃ e, e ≠ 0 ∧ e ≤ 22 ∧ tRes most k s = (0, 0, e, k, k)) ∨ (∃ a q, a ≤ q ∧ q ≤ s.size ∧ k ≤ q ∧ tRes most k s = (a, q, 0, 0, q)) := by
  rcases uRes_cases most k s hk with ⟨e, he, he2, hu⟩ | ⟨v, d, hv, hd, hu⟩
  · exact Or.inl ⟨e, he, he2, tRes_err hu he⟩
  · by_cases hq : s.size - (k + d) < v
    · exact Or.inl ⟨20, by decide, by decide, tRes_short hu hq⟩
    · exact Or.inr ⟨k + d, k + d + v, by omega, by omega, by omega, tRes_ok hu hq⟩
/-- how many, and they: the texts, the error, its place, the place behind -/
def tsRes (most each k : Nat) (s : ByteArray) : List ByteArray × Nat × Nat × Nat :=
  let u := uRes most k (s.data.toList.drop k)
  if u.2.1 = 0 then (let r := lRes each s u.1 u.2.2.2; if r.2.1 = 0 then (r.1, 0, 0, r.2.2) else ([], r.2.1, k, k)) else ([], u.2.1, k, k)
theorem tsRes_err {most each k e : Nat} {s : ByteArray} (h : uRes most k (s.data.toList.drop k) = (0, e, k, k)) (he : e ≠ 0) : tsRes most each k s = ([], e, k, k) := by simp [tsRes, h, he]
theorem tsRes_in {most each k v q e z : Nat} {l : List ByteArray} {s : ByteArray} (h : uRes most k (s.data.toList.drop k) = (v, 0, 0, q)) (hl : lRes each s v q = (l, e, z)) (he : e ≠ 0) : tsRes most each k s = ([], e, k, k) := by simp [tsRes, h, hl, he]
theorem tsRes_ok {most each k v q z : Nat} {l : List ByteArray} {s : ByteArray} (h : uRes most k (s.data.toList.drop k) = (v, 0, 0, q)) (hl : lRes each s v q = (l, 0, z)) : tsRes most each k s = (l, 0, 0, z) := by simp [tsRes, h, hl]
theorem lRes_le (each : Nat) (s : ByteArray) : ∀ n k, k ≤ s.size → (lRes each s n k).2.2 ≤ s.size ∧ k ≤ (lRes each s n k).2.2 ∧ (lRes each s n k).2.1 ≤ 22 ∧ ((lRes each s n k).2.1 = 0 → (lRes each s n k).1.length = n)
  | 0, k, h => ⟨h, Nat.le_refl _, by simp [lRes], fun _ => rfl⟩
  | n + 1, k, h => by
    rcases tRes_cases each k s h with ⟨e, he, he2, ht⟩ | ⟨a, q, h1, h2, h3, ht⟩
    · rw [lRes_err ht he]
      exact ⟨h, Nat.le_refl _, he2, fun e0 => absurd e0 he⟩
    · have := lRes_le each s n q h2
      rw [lRes_ok ht]
      unfold pre
      refine ⟨this.1, by have := this.2.1; simp only; omega, this.2.2.1, fun e0 => ?_⟩
      simp only at e0
      simp only [e0, if_true]
      simp [this.2.2.2 e0]
theorem tsRes_cases (most each k : Nat) (s : ByteArray) (hk : k ≤ s.size) :
    (∃ e, e ≠ 0 ∧ e ≤ 22 ∧ tsRes most each k s = ([], e, k, k)) ∨ (∃ l q, q ≤ s.size ∧ k ≤ q ∧ l.length ≤ most ∧ tsRes most each k s = (l, 0, 0, q)) := by
  rcases uRes_cases most k s hk with ⟨e, he, he2, hu⟩ | ⟨v, d, hv, hd, hu⟩
  · exact Or.inl ⟨e, he, he2, tsRes_err hu he⟩
  · have hl := lRes_le each s v (k + d) hd
    cases hr : lRes each s v (k + d) with
    | mk l p =>
      obtain ⟨e, q⟩ := p
      rw [hr] at hl
      by_cases he : e = 0
      · subst he
        exact Or.inr ⟨l, q, hl.1, by have := hl.2.1; simp only at this; omega, by have := hl.2.2.2 rfl; simp only at this; omega, tsRes_ok hu hr⟩
      · exact Or.inl ⟨e, he, hl.2.2.1, tsRes_in hu hr he⟩

/-! ### words, read -/
def wv (x : Nat) (l : List UInt8) : Nat := l.foldl (fun a c => a * 256 + c.toNat) x
theorem wv_snoc (x : Nat) (l : List UInt8) (c : UInt8) : wv x (l ++ [c]) = wv x l * 256 + c.toNat := by simp [wv]
theorem wv_lt' : ∀ (l : List UInt8) (x : Nat), wv x l < (x + 1) * 256 ^ l.length
  | [], x => by simp [wv]
  | c :: l, x => by
    have h := wv_lt' l (x * 256 + c.toNat)
    have hc := c.toNat_lt
    have e : wv x (c :: l) = wv (x * 256 + c.toNat) l := rfl
    rw [e, List.length_cons, Nat.pow_succ, Nat.mul_comm (256 ^ l.length) 256, ← Nat.mul_assoc]
    exact Nat.lt_of_lt_of_le h (Nat.mul_le_mul_right _ (by omega))
theorem wv_lt (l : List UInt8) : wv 0 l < 256 ^ l.length := by have := wv_lt' l 0; simpa using this
theorem wv_wordB (x : Nat) : ∀ (k a : Nat), wv a (wordB x k) = a * 256 ^ k + x % 256 ^ k
  | 0, a => by simp [wv, wordB]; omega
  | k + 1, a => by
    have e : wv a (wordB x (k + 1)) = wv (a * 256 + x / 256 ^ k % 256) (wordB x k) := by
      rw [wordB]
      show wv (a * 256 + (UInt8.ofNat (x / 256 ^ k % 256)).toNat) _ = _
      rw [UInt8.toNat_ofNat_of_lt' (Nat.mod_lt _ (by decide))]
    rw [e, wv_wordB x k, Nat.add_mul, Nat.pow_succ, Nat.mod_mul, Nat.mul_assoc, Nat.mul_comm 256, Nat.mul_comm (x / 256 ^ k % 256)]
    omega
/-- what Word answers: the number, the error, its place, the place behind -/
def wRes (k : Nat) (s : ByteArray) : Nat × Nat × Nat × Nat := if s.size - k < 8 then (0, 20, k, k) else (wv 0 ((s.data.toList.drop k).take 8), 0, 0, k + 8)
theorem wRes_short {k : Nat} {s : ByteArray} (h : s.size - k < 8) : wRes k s = (0, 20, k, k) := by simp [wRes, h]
theorem wRes_ok {k : Nat} {s : ByteArray} (h : ¬ s.size - k < 8) : wRes k s = (wv 0 ((s.data.toList.drop k).take 8), 0, 0, k + 8) := by simp [wRes, h]
theorem or_byte (x c : Nat) (hx : x < 72057594037927936) (hc : c < 256) : bits .or .u64 ((x : Int) * 256) (c : Int) = ((x * 256 + c : Nat) : Int) := by
  rw [show (x : Int) * 256 = ((x * 256 : Nat) : Int) by omega, bits_or_u64_nat _ _ (by omega) (by omega)]
  congr 1
  have e3 : x * 256 = x <<< 8 := by rw [Nat.shiftLeft_eq]
  rw [e3, ← Nat.shiftLeft_add_eq_or_of_lt (by omega)]
theorem nat_u64 {a : Int} (h : (Lit.int .u64 a).wf = true) : ∃ n : Nat, a = n ∧ n < 18446744073709551616 := by
  have h2 : IntKind.u64.min ≤ a ∧ a ≤ IntKind.u64.max := by simpa [Lit.wf] using h
  have h3 : IntKind.u64.min = 0 := by decide
  have h4 : IntKind.u64.max = 18446744073709551615 := by decide
  rw [h3, h4] at h2
  exact ⟨a.toNat, by omega, by omega⟩
theorem int_i64 {a : Int} (h : (Lit.int .i64 a).wf = true) : -9223372036854775808 ≤ a ∧ a ≤ 9223372036854775807 := by
  have h2 : IntKind.i64.min ≤ a ∧ a ≤ IntKind.i64.max := by simpa [Lit.wf] using h
  have h3 : IntKind.i64.min = -9223372036854775808 := by decide
  have h4 : IntKind.i64.max = 9223372036854775807 := by decide
  rw [h3, h4] at h2
  exact h2
theorem and255 (n : Nat) (h : n < 18446744073709551616) : bits .and .u64 (n : Int) 255 = ((n % 256 : Nat) : Int) := by
  have e := bits_mask .u64 64 (by decide) (fun n h0 h1 => by rw [IntKind.wrap_u64]; omega) 8 (by decide) n (by omega) (by omega)
  rw [show (2 : Int) ^ 8 - 1 = 255 from rfl] at e
  rw [e]; omega
theorem take_more (l : List UInt8) (k i : Nat) (h : k + i < l.length) : (l.drop k).take (i + 1) = (l.drop k).take i ++ [l[k + i]] := by
  rw [List.take_succ_eq_append_getElem (by simp; omega)]
  simp
end Go.Proofs.YtgjcbcakmcgjhaaDoor.CodeM
