/-
  The plain mathematics of layer 1: the sum of bytes as a function on numbers. It names nothing of the program.
-/
import Derived.WalkKit
namespace Go.Proofs.YtbjifikbfagdjaaGreatDoor.SumM

def fstep (x : Int) (c : UInt8) : Int := IntKind.u64.wrap (bits .xor .u64 x (IntKind.u64.wrap (c.toNat : Int)) * 1099511628211)
def fnv (x : Int) (l : List UInt8) : Int := l.foldl fstep x

theorem take_snoc (s : ByteArray) (k : Nat) (h : k < s.size) : s.data.toList.take (k + 1) = s.data.toList.take k ++ [s[k]] := by
  rw [List.take_succ_eq_append_getElem (by simpa using h)]; rfl
theorem fnv_snoc (x : Int) (l : List UInt8) (c : UInt8) : fnv x (l ++ [c]) = fstep (fnv x l) c := by simp [fnv]
theorem fnv_append (x : Int) (l r : List UInt8) : fnv x (l ++ r) = fnv (fnv x l) r := by simp [fnv]
theorem fnv_nil (x : Int) : fnv x [] = x := rfl


/-! ### the text of a sum -/
def hexs : List UInt8 := [48, 49, 50, 51, 52, 53, 54, 55, 56, 57, 97, 98, 99, 100, 101, 102]
def hd (d : Nat) : UInt8 := hexs.getD d 0
/-- the last k hexadecimal digits of n -/
def digits (n : Nat) : Nat → List UInt8
  | 0 => []
  | k + 1 => hd (n / 16 ^ k % 16) :: digits n k
theorem digits_length (n k : Nat) : (digits n k).length = k := by
  induction k with
  | zero => rfl
  | succ k ih => simp [digits, ih]
def byteV (c : UInt8) : Value := .int .u8 (c.toNat : Int)
/-- the array behind k rounds -/
def arr (n k : Nat) : Array Value := (List.replicate (16 - k) (Value.int .u8 0) ++ (digits n k).map byteV).toArray
theorem arr_size (n k : Nat) (h : k ≤ 16) : (arr n k).size = 16 := by simp [arr, digits_length]; omega
theorem arr_zero (n : Nat) : arr n 0 = #[.int .u8 0, .int .u8 0, .int .u8 0, .int .u8 0, .int .u8 0, .int .u8 0, .int .u8 0, .int .u8 0, .int .u8 0, .int .u8 0, .int .u8 0, .int .u8 0, .int .u8 0, .int .u8 0, .int .u8 0, .int .u8 0] := rfl
theorem set_last (m : Nat) (z v : Value) (l : List Value) : (List.replicate (m + 1) z ++ l).set m v = List.replicate m z ++ v :: l := by
  induction m with
  | zero => simp [List.replicate]
  | succ m ih => rw [List.replicate_succ, List.cons_append, List.set_cons_succ, ih]; simp [List.replicate_succ]
theorem arr_set (n k : Nat) (h : k < 16) : (arr n k).setIfInBounds (15 - k) (byteV (hd (n / 16 ^ k % 16))) = arr n (k + 1) := by
  unfold arr
  rw [show 16 - k = (15 - k) + 1 from by omega, show 16 - (k + 1) = 15 - k from by omega]
  simp only [List.setIfInBounds_toArray, set_last, digits, List.map_cons]
theorem div_step (n k : Nat) : n / 16 ^ k / 16 = n / 16 ^ (k + 1) := by rw [Nat.div_div_eq_div_mul, Nat.pow_succ]
theorem arr_get (n k : Nat) (h : k < 16) : ∃ v, (arr n k)[15 - k]? = some v := by
  have := arr_size n k (by omega)
  exact ⟨(arr n k)[15 - k], by simp⟩
theorem hd_idx (d : Nat) (h : d < 16) : (⟨#[48, 49, 50, 51, 52, 53, 54, 55, 56, 57, 97, 98, 99, 100, 101, 102]⟩ : ByteArray)[d]'h = hd d := by
  have H : ∀ d : Fin 16, (⟨#[48, 49, 50, 51, 52, 53, 54, 55, 56, 57, 97, 98, 99, 100, 101, 102]⟩ : ByteArray)[d.val]'d.isLt = hd d.val := by decide
  exact H ⟨d, h⟩
theorem arr_bytes (n k : Nat) (hk : 16 ≤ k) (i : Nat) (h : i < (⟨(digits n k).toArray⟩ : ByteArray).size) : (arr n k)[i]? = some (.int .u8 (((⟨(digits n k).toArray⟩ : ByteArray)[i]'h).toNat : Int)) := by
  have hl : i < (digits n k).length := h
  have e : (⟨(digits n k).toArray⟩ : ByteArray)[i]'h = (digits n k)[i]'hl := rfl
  rw [e]
  simp [arr, show 16 - k = 0 from by omega, List.getElem?_eq_getElem hl, byteV]
theorem and15 (x : Nat) (h : x ≤ 18446744073709551615) : bits .and .u64 (x : Int) 15 = (x : Int) % 16 :=
  bits_mask .u64 64 (by decide) (fun n h0 h1 => by rw [IntKind.wrap_u64]; omega) 4 (by decide) x (by omega) (by omega)
theorem str_cons (c : UInt8) (l : List UInt8) : (⟨#[c]⟩ : ByteArray) ++ ⟨l.toArray⟩ = ⟨(c :: l).toArray⟩ := by
  apply ByteArray.ext
  simp

/-! ### reading a sum's text -/
def dval (c : Int) : Int := if 48 ≤ c ∧ c ≤ 57 then c - 48 else if 97 ≤ c ∧ c ≤ 102 then c - 97 + 10 else -1
def rst (x d : Int) : Int := bits .or .u64 (IntKind.u64.wrap (x * 16)) d
def rd : Int → List UInt8 → Option Int
  | x, [] => some x
  | x, c :: r => if dval c.toNat < 0 then none else rd (rst x (dval c.toNat)) r
/-- the sum whose text l is, if it is one's -/
def read (l : List UInt8) : Option Int := if l.length = 16 then rd 0 l else none
def readN (l : List UInt8) : Int := (read l).getD 0
def readE (l : List UInt8) : Int := if (read l).isSome then 0 else 10
def readV (l : List UInt8) : Value := .tuple #[.int .u64 (readN l), .int .i64 (readE l)]
theorem read_len (l : List UInt8) (h : l.length ≠ 16) : readV l = .tuple #[.int .u64 0, .int .i64 10] := by simp [readV, readN, readE, read, h]
theorem read_no (l : List UInt8) (h : rd 0 l = none) : readV l = .tuple #[.int .u64 0, .int .i64 10] := by unfold readV readN readE read; split <;> simp [h]
theorem read_yes (l : List UInt8) (x : Int) (h : rd 0 l = some x) (hl : l.length = 16) : readV l = .tuple #[.int .u64 x, .int .i64 0] := by simp [readV, readN, readE, read, h, hl]
theorem rd_step (x : Int) (s : ByteArray) (k : Nat) (h : k < s.size) : rd x (s.data.toList.drop k) = if dval s[k].toNat < 0 then none else rd (rst x (dval s[k].toNat)) (s.data.toList.drop (k + 1)) := by
  have e : s.data.toList.drop k = s[k] :: s.data.toList.drop (k + 1) := by
    rw [List.drop_eq_getElem_cons (by simpa using h)]; rfl
  rw [e, rd]
theorem dval_le (c : Int) : -1 ≤ dval c ∧ dval c ≤ 15 := by unfold dval; split <;> (try split) <;> omega
theorem rd_end (x : Int) (s : ByteArray) (k : Nat) (h : s.size ≤ k) : rd x (s.data.toList.drop k) = some x := by
  rw [List.drop_of_length_le (by simpa using h)]; rfl
theorem nat_of_u64 {a : Int} (h : (Lit.int .u64 a).wf = true) : ∃ n : Nat, a = (n : Int) ∧ n < 18446744073709551616 := by
  simp [Lit.wf, IntKind.min, IntKind.max, IntKind.signed, IntKind.bits] at h
  exact ⟨a.toNat, by omega, by omega⟩

/-! ### many texts -/
def fnvAll (x : Int) (zs : List ByteArray) : Int := zs.foldl (fun x s => fnv x s.data.toList) x
theorem fnvAll_snoc (x : Int) (zs : List ByteArray) (s : ByteArray) : fnvAll x (zs ++ [s]) = fnv (fnvAll x zs) s.data.toList := by simp [fnvAll]
theorem fnvAll_step (x : Int) (zs : List ByteArray) (k : Nat) (h : k < zs.length) : fnvAll x (zs.take (k + 1)) = fnv (fnvAll x (zs.take k)) (zs.getD k ByteArray.empty).data.toList := by
  rw [List.take_succ_eq_append_getElem h, fnvAll_snoc]; simp [h]

/-! ### there and back -/
theorem dval_hd (d : Nat) (h : d < 16) : dval ((hd d).toNat : Int) = (d : Int) := by
  have H : ∀ d : Fin 16, dval ((hd d.val).toNat : Int) = (d.val : Int) := by decide
  exact H ⟨d, h⟩
theorem rst_eq (x d : Nat) (hx : 16 * x + 15 < 18446744073709551616) (hd : d < 16) : rst (x : Int) (d : Int) = ((16 * x + d : Nat) : Int) := by
  unfold rst
  have e : IntKind.u64.wrap ((x : Int) * 16) = ((16 * x : Nat) : Int) := by rw [IntKind.wrap_u64]; omega
  rw [e, bits_or_u64_nat _ _ (by omega) (by omega)]
  congr 1
  have h1 : 16 * x = x <<< 4 := by rw [Nat.shiftLeft_eq]; omega
  rw [h1]
  exact (Nat.shiftLeft_add_eq_or_of_lt (by omega : d < 2 ^ 4) x).symm
theorem rd_digits (n : Nat) : ∀ (k x : Nat), k ≤ 16 → (x + 1) * 16 ^ k ≤ 18446744073709551616 → rd (x : Int) (digits n k) = some ((x * 16 ^ k + n % 16 ^ k : Nat) : Int)
  | 0, x, _, _ => by simp [digits, rd, Nat.mod_one]
  | k + 1, x, hk, hx => by
    have hp : 0 < 16 ^ k := Nat.pow_pos (by omega)
    have hpow : 16 ^ (k + 1) = 16 * 16 ^ k := by rw [Nat.pow_succ, Nat.mul_comm]
    have hx16 : 16 * x + 15 < 18446744073709551616 := by
      have h1 : (x + 1) * 16 ≤ (x + 1) * 16 ^ (k + 1) := Nat.mul_le_mul_left _ (by rw [hpow]; omega)
      omega
    have hd : n / 16 ^ k % 16 < 16 := Nat.mod_lt _ (by omega)
    rw [digits, rd, dval_hd _ hd, if_neg (by omega), rst_eq _ _ hx16 hd]
    have hle : (16 * x + n / 16 ^ k % 16 + 1) * 16 ^ k ≤ 18446744073709551616 := by
      have h1 : (16 * x + n / 16 ^ k % 16 + 1) * 16 ^ k ≤ (16 * (x + 1)) * 16 ^ k := Nat.mul_le_mul_right _ (by omega)
      have h2 : (16 * (x + 1)) * 16 ^ k = (x + 1) * 16 ^ (k + 1) := by rw [hpow, Nat.mul_comm 16 (x + 1), Nat.mul_assoc]
      omega
    rw [rd_digits n k _ (by omega) hle]
    congr 2
    rw [hpow, Nat.mul_comm 16 (16 ^ k), Nat.mod_mul, Nat.add_mul, Nat.mul_comm (16 ^ k) (n / 16 ^ k % 16)]
    have h3 : 16 * x * 16 ^ k = x * (16 ^ k * 16) := by rw [Nat.mul_comm 16 x, Nat.mul_assoc, Nat.mul_comm 16]
    omega
theorem rd_text (n : Nat) (h : n < 18446744073709551616) : rd 0 (digits n 16) = some (n : Int) := by
  have := rd_digits n 16 0 (by omega) (by decide)
  rw [Nat.mod_eq_of_lt (by simpa using h)] at this
  simpa using this
theorem readN_text (n : Nat) (h : n < 18446744073709551616) : readN (digits n 16) = (n : Int) := by
  simp [readN, read, digits_length, rd_text n h]
theorem readE_text (n : Nat) (h : n < 18446744073709551616) : readE (digits n 16) = 0 := by
  simp [readE, read, digits_length, rd_text n h]

/-! ### one byte that is another one -/
def nstep (x : Nat) (c : UInt8) : Nat := (x ^^^ c.toNat) * 1099511628211 % 18446744073709551616
theorem nstep_lt (x : Nat) (c : UInt8) : nstep x c < 18446744073709551616 := Nat.mod_lt _ (by decide)
theorem fstep_nat (x : Nat) (c : UInt8) (h : x < 18446744073709551616) : fstep (x : Int) c = (nstep x c : Int) := by
  have hc := c.toNat_lt
  unfold fstep nstep
  have e : IntKind.u64.wrap (c.toNat : Int) = (c.toNat : Int) := by rw [IntKind.wrap_u64]; omega
  rw [e, bits_xor_u64_nat _ _ h (by omega), IntKind.wrap_u64]
  rw [Int.natCast_emod, Int.natCast_mul]
  rfl
theorem mul_back (a : Nat) : a * 1099511628211 % 18446744073709551616 * 14886173955864302971 % 18446744073709551616 = a % 18446744073709551616 := by
  rw [Nat.mod_mul_mod, Nat.mul_assoc, Nat.mul_mod]
  have e : 1099511628211 * 14886173955864302971 % 18446744073709551616 = 1 := by decide
  rw [e, Nat.mul_one, Nat.mod_mod]
theorem xor_lt (x : Nat) (c : UInt8) (h : x < 18446744073709551616) : x ^^^ c.toNat < 18446744073709551616 := by
  have hc := c.toNat_lt
  have := Nat.xor_lt_two_pow (n := 64) (x := x) (y := c.toNat) (by omega) (by omega)
  omega
theorem nstep_inj (x y : Nat) (c d : UInt8) (hx : x < 18446744073709551616) (hy : y < 18446744073709551616) (h : nstep x c = nstep y d) : x ^^^ c.toNat = y ^^^ d.toNat := by
  have h1 : nstep x c * 14886173955864302971 % 18446744073709551616 = nstep y d * 14886173955864302971 % 18446744073709551616 := by rw [h]
  unfold nstep at h1
  rw [mul_back, mul_back, Nat.mod_eq_of_lt (xor_lt x c hx), Nat.mod_eq_of_lt (xor_lt y d hy)] at h1
  exact h1
theorem xor_back (x c : Nat) : x ^^^ c ^^^ c = x := by rw [Nat.xor_assoc, Nat.xor_self, Nat.xor_zero]
theorem nstep_left (x y : Nat) (c : UInt8) (hx : x < 18446744073709551616) (hy : y < 18446744073709551616) (h : nstep x c = nstep y c) : x = y := by
  have := nstep_inj x y c c hx hy h
  rw [← xor_back x c.toNat, this, xor_back]
theorem nstep_right (x : Nat) (c d : UInt8) (hx : x < 18446744073709551616) (h : nstep x c = nstep x d) : c = d := by
  have h1 := nstep_inj x x c d hx hx h
  have h2 : c.toNat = d.toNat := by
    rw [← xor_back c.toNat x, Nat.xor_comm c.toNat x, h1, Nat.xor_comm x d.toNat, xor_back]
  exact UInt8.toNat_inj.1 h2
def nfnv (x : Nat) (l : List UInt8) : Nat := l.foldl nstep x
theorem nfnv_lt : ∀ (l : List UInt8) (x : Nat), x < 18446744073709551616 → nfnv x l < 18446744073709551616
  | [], _, h => h
  | c :: l, x, _ => nfnv_lt l _ (nstep_lt x c)
theorem fnv_nat : ∀ (l : List UInt8) (x : Nat), x < 18446744073709551616 → fnv (x : Int) l = (nfnv x l : Int)
  | [], _, _ => rfl
  | c :: l, x, h => by
    show fnv (fstep (x : Int) c) l = _
    rw [fstep_nat x c h]
    exact fnv_nat l _ (nstep_lt x c)
theorem nfnv_left : ∀ (l : List UInt8) (x y : Nat), x < 18446744073709551616 → y < 18446744073709551616 → nfnv x l = nfnv y l → x = y
  | [], _, _, _, _, h => h
  | c :: l, x, y, hx, hy, h => nstep_left x y c hx hy (nfnv_left l _ _ (nstep_lt x c) (nstep_lt y c) h)
theorem nfnv_set : ∀ (l : List UInt8) (i : Nat) (hi : i < l.length) (c : UInt8) (x : Nat), x < 18446744073709551616 → nfnv x (l.set i c) = nfnv x l → c = l[i]
  | d :: l, 0, _, c, x, hx, h => nstep_right x c d hx (nfnv_left l _ _ (nstep_lt x c) (nstep_lt x d) h)
  | d :: l, i + 1, hi, c, x, _, h => nfnv_set l i (by simpa using hi) c _ (nstep_lt x d) h
theorem fnv_set (l : List UInt8) (i : Nat) (hi : i < l.length) (c : UInt8) (hc : c ≠ l[i]) : (fnv 14695981039346656037 (l.set i c) != fnv 14695981039346656037 l) = true := by
  have e : (14695981039346656037 : Int) = ((14695981039346656037 : Nat) : Int) := rfl
  rw [e, fnv_nat _ _ (by decide), fnv_nat _ _ (by decide), bne_iff_ne]
  intro h
  exact hc (nfnv_set l i hi c 14695981039346656037 (by decide) (by omega))
theorem xor_ne (x y : UInt8) (h : y ≠ 0) : x ^^^ y ≠ x := by
  intro e
  apply h
  have : x ^^^ (x ^^^ y) = x ^^^ x := by rw [e]
  rw [← UInt8.xor_assoc, UInt8.xor_self, UInt8.zero_xor] at this
  exact this
/-- an int's low bits, as the model reckons them -/
theorem and_low24 (a : Int) : bits .and .i64 a 16777215 = a % 16777216 := by
  show IntKind.i64.wrap ((BitVec.ofInt 64 a &&& BitVec.ofInt 64 16777215).toNat : Int) = _
  have e : (BitVec.ofInt 64 a &&& BitVec.ofInt 64 16777215).toNat = (BitVec.ofInt 64 a).toNat % 16777216 := by
    rw [BitVec.toNat_and]
    exact Nat.and_two_pow_sub_one_eq_mod _ 24
  rw [e, BitVec.toNat_ofInt, IntKind.wrap_i64]
  omega
theorem and_low8 (a : Int) : bits .and .i64 a 255 = a % 256 := by
  show IntKind.i64.wrap ((BitVec.ofInt 64 a &&& BitVec.ofInt 64 255).toNat : Int) = _
  have e : (BitVec.ofInt 64 a &&& BitVec.ofInt 64 255).toNat = (BitVec.ofInt 64 a).toNat % 256 := by
    rw [BitVec.toNat_and]
    exact Nat.and_two_pow_sub_one_eq_mod _ 8
  rw [e, BitVec.toNat_ofInt, IntKind.wrap_i64]
  omega
def lowByte (a : Int) : UInt8 := UInt8.ofNat (a % 256).toNat
theorem lowByte_nat (a : Int) : ((lowByte a).toNat : Int) = a % 256 := by
  unfold lowByte
  rw [UInt8.toNat_ofNat']
  omega
theorem lowByte_ne (a : Int) (h : a % 256 ≠ 0) : lowByte a ≠ 0 := by
  intro e
  have := lowByte_nat a
  rw [e] at this
  exact h this.symm
theorem xor_byte (c : UInt8) (a : Int) : bits .xor .u8 (c.toNat : Int) (a % 256) = ((c ^^^ lowByte a).toNat : Int) := by
  rw [← lowByte_nat, u8_xor_nat _ _ c.toNat_lt (lowByte a).toNat_lt, UInt8.toNat_xor]

end Go.Proofs.YtbjifikbfagdjaaGreatDoor.SumM
