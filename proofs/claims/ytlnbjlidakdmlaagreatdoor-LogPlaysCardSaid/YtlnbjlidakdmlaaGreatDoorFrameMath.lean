/-
  The plain mathematics of layer 4: heads, records, what stands at the front of bytes, and all of them. It names nothing of the program.
  Records put together and cut off anywhere: what all of them are then.
-/
import Derived.Test.YtlnbjlidakdmlaaGreatDoorSumMath
import Derived.Test.YtlnbjlidakdmlaaGreatDoorCodeMath
namespace Go.Proofs.YtlnbjlidakdmlaaGreatDoor.FrameM
open SumM (fnv nfnv nfnv_lt fnv_nat nfnv_set xor_ne lowByte)
open CodeM (wordB wordB_length byteV)

def none0 : Nat := 14695981039346656037
/-- the sum of bytes, as bytes -/
def sumB (l : List UInt8) : List UInt8 := wordB (nfnv none0 l) 8
def headB (p : List UInt8) : List UInt8 := wordB p.length 4 ++ sumB (wordB p.length 4 ++ p)
def recB (p : List UInt8) : List UInt8 := headB p ++ p
def beN (l : List UInt8) : Nat := l.foldl (fun n c => n * 256 + c.toNat) 0
def lenB (l : List UInt8) : Nat := beN (l.take 4)
def payB (l : List UInt8) : List UInt8 := (l.drop 12).take (lenB l)
def restB (l : List UInt8) : List UInt8 := l.drop (12 + lenB l)
/-- why no record stands at the front (0: one does) -/
def frontE (l : List UInt8) : Nat :=
  if l.length < 12 then 40 else if 131072 < lenB l then 4 else if l.length < 12 + lenB l then 40 else if sumB (l.take 4 ++ payB l) = (l.drop 4).take 8 then 0 else 41
def frontP (l : List UInt8) : List UInt8 := if frontE l = 0 then payB l else []
def frontR (l : List UInt8) : List UInt8 := if frontE l = 0 then restB l else []

theorem sumB_length (l : List UInt8) : (sumB l).length = 8 := wordB_length _ _
theorem headB_length (p : List UInt8) : (headB p).length = 12 := by simp [headB, sumB_length, wordB_length]
theorem recB_length (p : List UInt8) : (recB p).length = 12 + p.length := by simp [recB, headB_length]

theorem fold_pow (l : List UInt8) : ∀ a : Nat, l.foldl (fun n c => n * 256 + c.toNat) a = a * 256 ^ l.length + beN l := by
  induction l with
  | nil => intro a; simp [beN]
  | cons c r ih =>
    intro a
    show r.foldl _ (a * 256 + c.toNat) = _ + r.foldl _ (0 * 256 + c.toNat)
    rw [ih, ih (0 * 256 + c.toNat), List.length_cons, Nat.pow_succ, Nat.add_mul, Nat.zero_mul, Nat.zero_add, Nat.mul_comm (256 ^ r.length) 256, ← Nat.mul_assoc, Nat.add_assoc]
theorem beN_cons (c : UInt8) (r : List UInt8) : beN (c :: r) = c.toNat * 256 ^ r.length + beN r := by
  show r.foldl _ (0 * 256 + c.toNat) = _
  rw [fold_pow, Nat.zero_mul, Nat.zero_add]
theorem beN_snoc (l : List UInt8) (c : UInt8) : beN (l ++ [c]) = beN l * 256 + c.toNat := by simp [beN]
theorem beN_lt : ∀ l : List UInt8, beN l < 256 ^ l.length
  | [] => by decide
  | c :: r => by
    have h := beN_lt r
    have hc := c.toNat_lt
    have h2 : c.toNat * 256 ^ r.length ≤ 255 * 256 ^ r.length := Nat.mul_le_mul_right _ (by omega)
    rw [beN_cons, List.length_cons, Nat.pow_succ]
    omega
theorem lenB_lt (l : List UInt8) : lenB l < 4294967296 := by
  have h := beN_lt (l.take 4)
  have h2 : 256 ^ (l.take 4).length ≤ 256 ^ 4 := Nat.pow_le_pow_right (by decide) (by rw [List.length_take]; omega)
  exact Nat.lt_of_lt_of_le h h2
theorem wordB_mod (n : Nat) : ∀ k j : Nat, k ≤ j → wordB (n % 256 ^ j) k = wordB n k
  | 0, _, _ => rfl
  | k + 1, j, h => by
    rw [wordB, wordB, wordB_mod n k j (by omega)]
    congr 2
    have e : 256 ^ j = 256 ^ k * 256 ^ (j - k) := by rw [← Nat.pow_add]; congr 1; omega
    rw [e, Nat.mod_mul_right_div_self]
    have e2 : 256 ^ (j - k) = 256 * 256 ^ (j - k - 1) := by rw [Nat.mul_comm, ← Nat.pow_succ]; congr 1; omega
    rw [e2, Nat.mod_mul_right_mod]
theorem beN_wordB (n : Nat) : ∀ k, beN (wordB n k) = n % 256 ^ k
  | 0 => by simp [wordB, beN, Nat.mod_one]
  | k + 1 => by
    have h : (UInt8.ofNat (n / 256 ^ k % 256)).toNat = n / 256 ^ k % 256 := UInt8.toNat_ofNat_of_lt' (Nat.mod_lt _ (by decide))
    rw [wordB, beN_cons, wordB_length, beN_wordB n k, h, Nat.pow_succ, Nat.mod_mul]
    rw [Nat.mul_comm (256 ^ k)]
    omega
theorem wordB_beN : ∀ l : List UInt8, wordB (beN l) l.length = l
  | [] => rfl
  | c :: r => by
    have hlt := beN_lt r
    have hp : 0 < 256 ^ r.length := Nat.pow_pos (by decide)
    have hc := c.toNat_lt
    rw [List.length_cons, wordB, beN_cons]
    have e1 : (c.toNat * 256 ^ r.length + beN r) / 256 ^ r.length = c.toNat := by
      rw [Nat.mul_comm, Nat.mul_add_div hp, Nat.div_eq_of_lt hlt, Nat.add_zero]
    have e2 : wordB (c.toNat * 256 ^ r.length + beN r) r.length = wordB (beN r) r.length := by
      rw [← wordB_mod _ r.length r.length (Nat.le_refl _), Nat.mul_comm, Nat.mul_add_mod, wordB_mod _ _ _ (Nat.le_refl _)]
    rw [e1, e2, wordB_beN r, Nat.mod_eq_of_lt (by omega), UInt8.ofNat_toNat]
theorem wordB_lenB (l : List UInt8) (h : 4 ≤ l.length) : wordB (lenB l) 4 = l.take 4 := by
  have e := wordB_beN (l.take 4)
  rw [List.length_take, Nat.min_eq_left h] at e
  exact e
theorem wordB_inj (x y k : Nat) (hx : x < 256 ^ k) (hy : y < 256 ^ k) (h : wordB x k = wordB y k) : x = y := by
  have e := congrArg beN h
  rw [beN_wordB, beN_wordB, Nat.mod_eq_of_lt hx, Nat.mod_eq_of_lt hy] at e
  exact e
/-- the last four of a number's eight bytes -/
theorem wordB_drop (x : Nat) : (wordB x 8).drop 4 = wordB x 4 := rfl

theorem payB_length (l : List UInt8) (h : ¬ l.length < 12 + lenB l) : (payB l).length = lenB l := by rw [payB, List.length_take, List.length_drop]; omega
/-- the program's way to say it: the head is the one that the payload has -/
theorem head_iff (l : List UInt8) (h : ¬ l.length < 12 + lenB l) : l.take 12 = headB (payB l) ↔ sumB (l.take 4 ++ payB l) = (l.drop 4).take 8 := by
  have h4 : 4 ≤ l.length := by omega
  have e : l.take 12 = l.take 4 ++ (l.drop 4).take 8 := by
    rw [← List.take_append_drop 4 (l.take 12), List.take_take, List.drop_take]
    rfl
  rw [headB, payB_length l h, wordB_lenB l h4, e, List.append_cancel_left_eq]
  exact ⟨Eq.symm, Eq.symm⟩

/-! ### a record at the front -/
theorem len_rec (p r : List UInt8) (hp : p.length ≤ 131072) : lenB (recB p ++ r) = p.length := by
  have e : (recB p ++ r).take 4 = wordB p.length 4 := by
    unfold recB headB
    rw [List.append_assoc, List.append_assoc]
    exact List.take_left' (wordB_length _ _)
  rw [lenB, e, beN_wordB, Nat.mod_eq_of_lt (by omega)]
theorem pay_rec (p r : List UInt8) (hp : p.length ≤ 131072) : payB (recB p ++ r) = p := by
  rw [payB, len_rec p r hp, recB, List.append_assoc, List.drop_left' (headB_length p)]
  exact List.take_left' rfl
theorem rest_rec (p r : List UInt8) (hp : p.length ≤ 131072) : restB (recB p ++ r) = r := by
  rw [restB, len_rec p r hp]
  exact List.drop_left' (recB_length p)
theorem front_rec (p r : List UInt8) (hp : p.length ≤ 131072) : frontE (recB p ++ r) = 0 := by
  have hl : (recB p ++ r).length = 12 + p.length + r.length := by rw [List.length_append, recB_length]
  have hlen := len_rec p r hp
  have hn : ¬ (recB p ++ r).length < 12 + lenB (recB p ++ r) := by rw [hlen, hl]; omega
  have hh := (head_iff _ hn).1 (by
    rw [pay_rec p r hp, recB, List.append_assoc]
    exact List.take_left' (headB_length p))
  rw [frontE, if_neg (by omega), if_neg (by omega), if_neg hn, if_pos hh]
/-- a beginning of a record is torn -/
theorem front_cut (p r : List UInt8) (hp : p.length ≤ 131072) (c : Nat) (hc : c < 12 + p.length) : frontE ((recB p ++ r).take c) = 40 := by
  have hl : (recB p ++ r).length = 12 + p.length + r.length := by rw [List.length_append, recB_length]
  have hlc : ((recB p ++ r).take c).length = c := by rw [List.length_take]; omega
  by_cases h12 : c < 12
  · rw [frontE, if_pos (by omega)]
  · have e : lenB ((recB p ++ r).take c) = p.length := by
      rw [lenB, List.take_take, Nat.min_eq_left (by omega)]
      exact len_rec p r hp
    rw [frontE, if_neg (by omega), if_neg (by omega), if_pos (by omega)]
/-- one byte of the sum or the payload is another one -/
theorem front_spoilt (p : List UInt8) (hp : p.length ≤ 131072) (i : Nat) (h4 : 4 ≤ i) (hi : i < (recB p).length) (c : UInt8) (hc : c ≠ (recB p)[i]) : frontE ((recB p).set i c) = 41 := by
  have hl := recB_length p
  have hls : ((recB p).set i c).length = 12 + p.length := by rw [List.length_set, hl]
  have ht4 : ((recB p).set i c).take 4 = (recB p).take 4 := by rw [List.take_set_of_le (by omega)]
  have hlen0 := len_rec p [] hp
  rw [List.append_nil] at hlen0
  have hlen : lenB ((recB p).set i c) = p.length := by rw [lenB, ht4]; exact hlen0
  have hpay0 := pay_rec p [] hp
  rw [List.append_nil] at hpay0
  have hn0 : ¬ (recB p).length < 12 + lenB (recB p) := by omega
  have hh0 := (head_iff _ hn0).1 (by
    rw [hpay0, recB]
    exact List.take_left' (headB_length p))
  rw [frontE, if_neg (by omega), if_neg (by omega), if_neg (by omega), if_neg]
  intro hh
  by_cases h12 : i < 12
  · have hpay : payB ((recB p).set i c) = payB (recB p) := by
      rw [payB, payB, hlen, hlen0, List.drop_set_of_lt h12]
    rw [ht4, hpay, hh0] at hh
    have e := congrArg (fun l : List UInt8 => l[i - 4]?) hh
    simp only [List.getElem?_take, List.getElem?_drop, show i - 4 < 8 by omega, if_true, show 4 + (i - 4) = i by omega, List.getElem?_set_self hi, List.getElem?_eq_getElem hi, Option.some.injEq] at e
    exact hc e.symm
  · have hsum : (((recB p).set i c).drop 4).take 8 = ((recB p).drop 4).take 8 := by
      have e : ∀ l : List UInt8, (l.drop 4).take 8 = (l.take 12).drop 4 := fun l => by rw [List.drop_take]
      rw [e, e, List.take_set_of_le (by omega)]
    have hpay : payB ((recB p).set i c) = p.set (i - 12) c := by
      rw [payB, hlen, List.drop_set, if_neg (by omega)]
      have : (recB p).drop 12 = p := by rw [recB]; exact List.drop_left' (headB_length p)
      rw [this, List.take_of_length_le (by rw [List.length_set]; exact Nat.le_refl _)]
    rw [ht4, hpay, hsum, ← hh0, hpay0] at hh
    have ei : i - 12 < p.length := by omega
    have hpi : p[i - 12] = (recB p)[i] := by
      have : (recB p)[i]? = p[i - 12]? := by rw [recB, List.getElem?_append_right (by rw [headB_length]; omega), headB_length]
      rw [List.getElem?_eq_getElem hi, List.getElem?_eq_getElem ei] at this
      exact (Option.some.inj this).symm
    have hset : (recB p).take 4 ++ p.set (i - 12) c = ((recB p).take 4 ++ p).set (4 + (i - 12)) c := by
      have e4 : ((recB p).take 4).length = 4 := by rw [List.length_take]; omega
      rw [List.set_append_right _ _ (by omega), e4]
      congr 2
      omega
    have hlt : ∀ l, nfnv none0 l < 256 ^ 8 := fun l => nfnv_lt l none0 (by decide)
    have e := wordB_inj _ _ 8 (hlt _) (hlt _) hh
    rw [hset] at e
    have e4 : ((recB p).take 4).length = 4 := by rw [List.length_take]; omega
    have hget := nfnv_set ((recB p).take 4 ++ p) (4 + (i - 12)) (by rw [List.length_append, e4]; omega) c none0 (by decide) e
    rw [List.getElem_append_right (by omega)] at hget
    apply hc
    rw [hget, ← hpi]
    congr 1
    omega

/-! ### all of them -/
theorem rest_lt (l : List UInt8) (h : l ≠ []) : (restB l).length < l.length := by
  have : 0 < l.length := List.length_pos_iff.2 h
  rw [restB, List.length_drop]
  omega
/-- the payloads, how many bytes they have, why it goes no further -/
def allB (l : List UInt8) : List (List UInt8) × Nat × Nat :=
  if h : l = [] then ([], 0, 0)
  else if frontE l = 0 then (payB l :: (allB (restB l)).1, 12 + lenB l + (allB (restB l)).2.1, (allB (restB l)).2.2) else ([], 0, frontE l)
termination_by l.length
decreasing_by all_goals exact rest_lt l h
theorem all_nil : allB [] = ([], 0, 0) := by rw [allB]; simp
theorem all_bad (l : List UInt8) (h : l ≠ []) (he : frontE l ≠ 0) : allB l = ([], 0, frontE l) := by rw [allB]; simp [h, he]
theorem all_cons (l : List UInt8) (h : l ≠ []) (he : frontE l = 0) : allB l = (payB l :: (allB (restB l)).1, 12 + lenB l + (allB (restB l)).2.1, (allB (restB l)).2.2) := by rw [allB]; simp [h, he]
theorem front_len (l : List UInt8) (he : frontE l = 0) : 12 + lenB l ≤ l.length ∧ lenB l ≤ 131072 := by
  unfold frontE at he
  split at he
  · simp at he
  · split at he
    · simp at he
    · split at he
      · simp at he
      · omega
theorem recB_ne (p r : List UInt8) : recB p ++ r ≠ [] := by
  intro h
  have := congrArg List.length h
  rw [List.length_append, recB_length] at this
  simp at this
theorem all_rec (p r : List UInt8) (hp : p.length ≤ 131072) : allB (recB p ++ r) = (p :: (allB r).1, 12 + p.length + (allB r).2.1, (allB r).2.2) := by
  rw [all_cons _ (recB_ne p r) (front_rec p r hp), pay_rec p r hp, rest_rec p r hp, len_rec p r hp]
end Go.Proofs.YtlnbjlidakdmlaaGreatDoor.FrameM
namespace Go.Proofs.YtlnbjlidakdmlaaGreatDoor.FrameM

/-- the records of payloads, one behind the other -/
def recsB : List (List UInt8) → List UInt8
  | [] => []
  | p :: r => recB p ++ recsB r
theorem recs_append (a b : List (List UInt8)) : recsB (a ++ b) = recsB a ++ recsB b := by
  induction a with
  | nil => rfl
  | cons p r ih => simp [recsB, ih]
theorem recs_step (ps : List (List UInt8)) (i : Nat) (h : i < ps.length) : recsB (ps.take (i + 1)) = recsB (ps.take i) ++ recB ps[i] := by
  rw [List.take_succ_eq_append_getElem h, recs_append]; simp [recsB]
theorem recs_len_step (ps : List (List UInt8)) (i : Nat) (h : i < ps.length) : (recsB (ps.take (i + 1))).length = (recsB (ps.take i)).length + (12 + ps[i].length) := by
  rw [recs_step ps i h, List.length_append, recB_length]
/-- cut off behind n whole ones -/
theorem all_torn : ∀ (n : Nat) (ps : List (List UInt8)) (c : Nat), (∀ p ∈ ps, p.length ≤ 131072) → n ≤ ps.length → (recsB (ps.take n)).length ≤ c →
    (n < ps.length → c < (recsB (ps.take (n + 1))).length) → c ≤ (recsB ps).length →
    allB ((recsB ps).take c) = (ps.take n, (recsB (ps.take n)).length, if c = (recsB (ps.take n)).length then 0 else 40)
  | 0, [], c, _, _, _, _, hc => by
    simp [recsB] at hc
    simp [recsB, all_nil, hc]
  | 0, p :: r, c, hp, _, _, h1, _ => by
    have h1' := h1 (by simp)
    simp [recsB, recB_length] at h1'
    by_cases h0 : c = 0
    · subst h0; simp [recsB, all_nil]
    · have e : recsB (p :: r) = recB p ++ recsB r := rfl
      have hf := front_cut p (recsB r) (hp p (by simp)) c h1'
      rw [e, all_bad _ (by
        intro hh
        have := congrArg List.length hh
        rw [List.length_take, List.length_append, recB_length] at this
        simp at this
        omega) (by rw [hf]; decide), hf]
      simp [recsB, h0]
  | n + 1, [], c, _, hn, _, _, _ => by simp at hn
  | n + 1, p :: r, c, hp, hn, h0, h1, hc => by
    have e : recsB (p :: r) = recB p ++ recsB r := rfl
    have e1 : (recsB ((p :: r).take (n + 1))).length = (12 + p.length) + (recsB (r.take n)).length := by
      show (recB p ++ recsB (r.take n)).length = _
      rw [List.length_append, recB_length]
    have e2 : (recsB ((p :: r).take (n + 1 + 1))).length = (12 + p.length) + (recsB (r.take (n + 1))).length := by
      show (recB p ++ recsB (r.take (n + 1))).length = _
      rw [List.length_append, recB_length]
    have e3 : (recsB (p :: r)).length = (12 + p.length) + (recsB r).length := by rw [e, List.length_append, recB_length]
    rw [e1] at h0
    rw [e3] at hc
    have ht : (recsB (p :: r)).take c = recB p ++ (recsB r).take (c - (12 + p.length)) := by
      rw [e, List.take_append, List.take_of_length_le (by rw [recB_length]; omega), recB_length]
    have ih := all_torn n r (c - (12 + p.length)) (fun q hq => hp q (by simp [hq])) (by simp at hn; omega) (by omega) (fun h => by have := h1 (by simp; omega); rw [e2] at this; omega) (by omega)
    rw [ht, all_rec p _ (hp p (by simp)), ih, e1]
    simp only [List.take_succ_cons]
    by_cases hx : c = 12 + p.length + (recsB (r.take n)).length
    · rw [if_pos hx, if_pos (by omega)]
    · rw [if_neg hx, if_neg (by omega)]
/-- where each of the first n ends -/
def endsB (ps : List (List UInt8)) (n : Nat) : List Nat := (List.range n).map fun k => (recsB (ps.take (k + 1))).length
theorem ends_length (ps : List (List UInt8)) (n : Nat) : (endsB ps n).length = n := by simp [endsB]
theorem ends_get (ps : List (List UInt8)) (n i : Nat) (h : i < n) : (endsB ps n)[i]? = some (recsB (ps.take (i + 1))).length := by simp [endsB, h]
theorem ends_snoc (ps : List (List UInt8)) (n : Nat) : endsB ps (n + 1) = endsB ps n ++ [(recsB (ps.take (n + 1))).length] := by simp [endsB, List.range_succ]
end Go.Proofs.YtlnbjlidakdmlaaGreatDoor.FrameM
