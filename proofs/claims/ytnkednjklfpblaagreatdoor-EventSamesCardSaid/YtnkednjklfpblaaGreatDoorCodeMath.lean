/-
  The plain mathematics of layer 2: numbers, words, texts and lists as bytes. It names nothing of the program.
-/
import Derived.WalkKit
namespace Go.Proofs.YtnkednjklfpblaaGreatDoor.CodeM

def uintB (x : Nat) : List UInt8 := if h : 127 < x then UInt8.ofNat (x % 128 + 128) :: uintB (x / 128) else [UInt8.ofNat x]
termination_by x
decreasing_by omega
def byteV (c : UInt8) : Value := .int .u8 (c.toNat : Int)
theorem uintB_big (x : Nat) (h : 127 < x) : uintB x = UInt8.ofNat (x % 128 + 128) :: uintB (x / 128) := by rw [uintB, dif_pos h]
theorem uintB_small (x : Nat) (h : ¬ 127 < x) : uintB x = [UInt8.ofNat x] := by rw [uintB, dif_neg h]
theorem byteV_ofNat (n : Nat) (h : n < 256) : byteV (UInt8.ofNat n) = .int .u8 (n : Int) := by
  unfold byteV; rw [UInt8.toNat_ofNat_of_lt' h]
theorem and127 (x : Nat) (h : x ≤ 18446744073709551615) : bits .and .u64 (x : Int) 127 = (x : Int) % 128 :=
  bits_mask .u64 64 (by decide) (fun n h0 h1 => by rw [IntKind.wrap_u64]; omega) 7 (by decide) x (by omega) (by omega)
theorem or128 (y : Int) (h0 : 0 ≤ y) (h1 : y < 128) : bits .or .u8 y 128 = y + 128 := by
  obtain ⟨n, rfl⟩ := Int.eq_ofNat_of_zero_le h0
  have H : ∀ n : Fin 128, bits .or .u8 (n.val : Int) 128 = (n.val : Int) + 128 := by decide +kernel
  exact H ⟨n, by omega⟩
theorem pow_bound (n x x0 : Nat) (h : x * 128 ^ n ≤ x0) (hx : 1 ≤ x) (h0 : x0 < 18446744073709551616) : n ≤ 9 := by
  apply Classical.byContradiction
  intro hn
  have h1 : 128 ^ 10 ≤ 128 ^ n := Nat.pow_le_pow_right (by decide) (by omega)
  have h2 : 128 ^ n ≤ x * 128 ^ n := Nat.le_mul_of_pos_left _ hx
  have h3 : (128 : Nat) ^ 10 = 1180591620717411303424 := by decide
  omega
theorem pow_step (n x x0 : Nat) (h : x * 128 ^ n ≤ x0) : x / 128 * 128 ^ (n + 1) ≤ x0 := by
  have h1 : x / 128 * 128 ^ (n + 1) = x / 128 * 128 * 128 ^ n := by rw [Nat.pow_succ, Nat.mul_assoc, Nat.mul_comm 128]
  have h2 : x / 128 * 128 * 128 ^ n ≤ x * 128 ^ n := Nat.mul_le_mul_right _ (Nat.div_mul_le_self x 128)
  omega

/-! ### words -/
def wordB (x : Nat) : Nat → List UInt8
  | 0 => []
  | k + 1 => UInt8.ofNat (x / 256 ^ k % 256) :: wordB x k
theorem wordB_length (x k : Nat) : (wordB x k).length = k := by
  induction k with
  | zero => rfl
  | succ k ih => simp [wordB, ih]
def arrW (x k : Nat) : Array Value := (List.replicate (8 - k) (Value.int .u8 0) ++ (wordB x k).map byteV).toArray
theorem arrW_size (x k : Nat) (h : k ≤ 8) : (arrW x k).size = 8 := by simp [arrW, wordB_length]; omega
theorem arrW_zero (x : Nat) : arrW x 0 = #[.int .u8 0, .int .u8 0, .int .u8 0, .int .u8 0, .int .u8 0, .int .u8 0, .int .u8 0, .int .u8 0] := rfl
theorem set_last (m : Nat) (z v : Value) (l : List Value) : (List.replicate (m + 1) z ++ l).set m v = List.replicate m z ++ v :: l := by
  induction m with
  | zero => simp [List.replicate]
  | succ m ih => rw [List.replicate_succ, List.cons_append, List.set_cons_succ, ih]; simp [List.replicate_succ]
theorem arrW_set (x k : Nat) (h : k < 8) : (arrW x k).setIfInBounds (7 - k) (.int .u8 ((x / 256 ^ k % 256 : Nat) : Int)) = arrW x (k + 1) := by
  unfold arrW
  rw [show 8 - k = (7 - k) + 1 from by omega, show 8 - (k + 1) = 7 - k from by omega]
  simp only [List.setIfInBounds_toArray, set_last, wordB, List.map_cons]
  rw [byteV_ofNat _ (Nat.mod_lt _ (by decide))]
theorem arrW_get (x k : Nat) (h : k < 8) : ∃ v, (arrW x k)[7 - k]? = some v := by
  have := arrW_size x k (by omega)
  exact ⟨(arrW x k)[7 - k], by simp⟩
theorem arrW_bytes (x : Nat) (i : Nat) (h : i < 8) : (arrW x 8)[i]? = some (.int .u8 (((wordB x 8).map fun c => (c.toNat : Int)).getD i 0)) := by
  have hl : i < (wordB x 8).length := by rw [wordB_length]; exact h
  simp [arrW, List.getElem?_eq_getElem hl, byteV]

/-! ### texts -/
def textB (s : List UInt8) : List UInt8 := uintB s.length ++ s
def textsB : List ByteArray → List UInt8
  | [] => []
  | s :: r => textB s.data.toList ++ textsB r
def listB (l : List ByteArray) : List UInt8 := uintB l.length ++ textsB l
theorem textsB_append (a b : List ByteArray) : textsB (a ++ b) = textsB a ++ textsB b := by
  induction a with
  | nil => rfl
  | cons x r ih => simp [textsB, ih]
theorem textsB_step (l : List ByteArray) (k : Nat) (h : k < l.length) : textsB (l.take (k + 1)) = textsB (l.take k) ++ textB (l.getD k ByteArray.empty).data.toList := by
  rw [List.take_succ_eq_append_getElem h, textsB_append]; simp [textsB, h]

/-! ### reading a number: an error's number, or the number and how many bytes it has -/
def ur : Nat → Nat → List UInt8 → Nat ⊕ (Nat × Nat)
  | n, _, [] => if n = 10 then .inl 21 else .inl 20
  | n, x, c :: r =>
    if n = 10 then .inl 21
    else if n = 9 ∧ 1 < c.toNat then .inl 21
    else if c.toNat < 128 then (if c.toNat = 0 ∧ 0 < n then .inl 21 else .inr (x + c.toNat % 128 * 128 ^ n, n + 1))
    else ur (n + 1) (x + c.toNat % 128 * 128 ^ n) r
theorem drop_cons (s : ByteArray) (k : Nat) (h : k < s.size) : s.data.toList.drop k = s[k] :: s.data.toList.drop (k + 1) := by
  rw [List.drop_eq_getElem_cons (by simpa using h)]; rfl
theorem drop_nil (s : ByteArray) (k : Nat) (h : s.size ≤ k) : s.data.toList.drop k = [] := List.drop_of_length_le (by simpa using h)
theorem pow7 (n : Nat) : 2 ^ (7 * n) = 128 ^ n := by rw [Nat.pow_mul]
theorem shift_lt (n d : Nat) (hn : n ≤ 9) (hd : d < 128) (h9 : n = 9 → d ≤ 1) : (d + 1) * 128 ^ n ≤ 18446744073709551616 := by
  rcases (by omega : n = 0 ∨ n = 1 ∨ n = 2 ∨ n = 3 ∨ n = 4 ∨ n = 5 ∨ n = 6 ∨ n = 7 ∨ n = 8 ∨ n = 9) with rfl | rfl | rfl | rfl | rfl | rfl | rfl | rfl | rfl | rfl <;> simp only [Nat.reducePow] <;> omega
theorem or_shift (x n c : Nat) (hx : x < 128 ^ n) (hn : n ≤ 9) (h9 : n = 9 → c % 128 ≤ 1) :
    bits .or .u64 (x : Int) (IntKind.u64.wrap ((c : Int) % 128 * 2 ^ (7 * n))) = ((x + c % 128 * 128 ^ n : Nat) : Int) := by
  have hd : c % 128 < 128 := Nat.mod_lt _ (by decide)
  have hb := shift_lt n (c % 128) hn hd h9
  rw [Nat.add_mul, Nat.one_mul] at hb
  have e1 : (c : Int) % 128 * 2 ^ (7 * n) = ((c % 128 * 128 ^ n : Nat) : Int) := by rw [← pow7]; simp
  have e2 : IntKind.u64.wrap ((c % 128 * 128 ^ n : Nat) : Int) = ((c % 128 * 128 ^ n : Nat) : Int) := by rw [IntKind.wrap_u64]; omega
  rw [e1, e2, bits_or_u64_nat _ _ (by omega) (by omega)]
  congr 1
  have e3 : c % 128 * 128 ^ n = (c % 128) <<< (7 * n) := by rw [Nat.shiftLeft_eq, pow7]
  rw [e3, Nat.or_comm, ← Nat.shiftLeft_add_eq_or_of_lt (by rw [pow7]; exact hx), Nat.add_comm]
theorem next_lt (x n d : Nat) (hx : x < 128 ^ n) (hd : d < 128) : x + d * 128 ^ n < 128 ^ (n + 1) := by
  have : d * 128 ^ n ≤ 127 * 128 ^ n := Nat.mul_le_mul_right _ (by omega)
  rw [Nat.pow_succ]
  omega
/-- what Uint answers: the number, the error, its place, the place behind -/
def uRes (most k : Nat) (l : List UInt8) : Nat × Nat × Nat × Nat :=
  match ur 0 0 l with
  | .inl e => (0, e, k, k)
  | .inr (x, n) => if most < x then (0, 22, k, k) else (x, 0, 0, k + n)
theorem uRes_err {most k e : Nat} {l : List UInt8} (h : ur 0 0 l = .inl e) : uRes most k l = (0, e, k, k) := by simp [uRes, h]
theorem uRes_most {most k x n : Nat} {l : List UInt8} (h : ur 0 0 l = .inr (x, n)) (hm : most < x) : uRes most k l = (0, 22, k, k) := by simp [uRes, h, hm]
theorem uRes_ok {most k x n : Nat} {l : List UInt8} (h : ur 0 0 l = .inr (x, n)) (hm : ¬ most < x) : uRes most k l = (x, 0, 0, k + n) := by simp [uRes, h, hm]
theorem ur_len : ∀ (l : List UInt8) (n x v m : Nat), ur n x l = .inr (v, m) → m ≤ n + l.length
  | [], n, x, v, m, h => by rw [ur] at h; split at h <;> cases h
  | c :: r, n, x, v, m, h => by
    rw [ur] at h
    split at h
    · cases h
    · split at h
      · cases h
      · split at h
        · split at h
          · cases h
          · cases h; simp
        · have := ur_len r _ _ _ _ h
          simp; omega
/-- the three ways of Uint -/
theorem uRes_cases (most k : Nat) (s : ByteArray) (hk : k ≤ s.size) :
    (∃ e, e ≠ 0 ∧ e ≤ 22 ∧ uRes most k (s.data.toList.drop k) = (0, e, k, k)) ∨
    (∃ v n, v ≤ most ∧ k + n ≤ s.size ∧ uRes most k (s.data.toList.drop k) = (v, 0, 0, k + n)) := by
  have hl : ∀ (l : List UInt8) (n x e : Nat), ur n x l = .inl e → e ≠ 0 ∧ e ≤ 22 := by
    intro l
    induction l with
    | nil => intro n x e h; rw [ur] at h; split at h <;> (cases h; decide)
    | cons c r ih =>
      intro n x e h
      rw [ur] at h
      split at h
      · cases h; decide
      · split at h
        · cases h; decide
        · split at h
          · split at h
            · cases h; decide
            · cases h
          · exact ih _ _ _ h
  cases hu : ur 0 0 (s.data.toList.drop k) with
  | inl e => exact Or.inl ⟨e, (hl _ _ _ _ hu).1, (hl _ _ _ _ hu).2, uRes_err hu⟩
  | inr p =>
    obtain ⟨v, n⟩ := p
    by_cases hm : most < v
    · exact Or.inl ⟨22, by decide, by decide, uRes_most hu hm⟩
    · have := ur_len _ _ _ _ _ hu
      rw [List.length_drop, Array.length_toList] at this
      have e : s.data.size = s.size := rfl
      exact Or.inr ⟨v, n, by omega, by omega, uRes_ok hu hm⟩
/-- what Text answers: the bytes from .. to, the error, its place, the place behind -/
def tRes (most k : Nat) (s : ByteArray) : Nat × Nat × Nat × Nat × Nat :=
  let u := uRes most k (s.data.toList.drop k)
  if u.2.1 = 0 then (if s.size - u.2.2.2 < u.1 then (0, 0, 20, k, k) else (u.2.2.2, u.2.2.2 + u.1, 0, 0, u.2.2.2 + u.1)) else (0, 0, u.2.1, k, k)
theorem tRes_err {most k e : Nat} {s : ByteArray} (h : uRes most k (s.data.toList.drop k) = (0, e, k, k)) (he : e ≠ 0) : tRes most k s = (0, 0, e, k, k) := by simp [tRes, h, he]
theorem tRes_short {most k v q : Nat} {s : ByteArray} (h : uRes most k (s.data.toList.drop k) = (v, 0, 0, q)) (hq : s.size - q < v) : tRes most k s = (0, 0, 20, k, k) := by simp [tRes, h, hq]
theorem tRes_ok {most k v q : Nat} {s : ByteArray} (h : uRes most k (s.data.toList.drop k) = (v, 0, 0, q)) (hq : ¬ s.size - q < v) : tRes most k s = (q, q + v, 0, 0, q + v) := by simp [tRes, h, hq]
end Go.Proofs.YtnkednjklfpblaaGreatDoor.CodeM
