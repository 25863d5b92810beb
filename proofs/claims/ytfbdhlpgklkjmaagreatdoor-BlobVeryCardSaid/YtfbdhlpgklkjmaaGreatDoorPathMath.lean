/-
  The plain mathematics of layer 11: names of files, what a text says, there and back. It names nothing of the program.
-/
import Derived.Test.YtfbdhlpgklkjmaaGreatDoorLogMath
import Derived.Test.YtfbdhlpgklkjmaaGreatDoorVerMath
import Derived.Test.YtfbdhlpgklkjmaaGreatDoorSumMath
namespace Go.Proofs.YtfbdhlpgklkjmaaGreatDoor.PathM
open VerM (B val dig padded)

/-! ### a text at its first byte of a kind -/
def ahd (d : UInt8) (l : B) : B := l.takeWhile (fun c => decide (c ≠ d))
def bhd (d : UInt8) (l : B) : B := (l.dropWhile (fun c => decide (c ≠ d))).drop 1
theorem ahd_none {d : UInt8} {l : B} (h : ∀ c ∈ l, c ≠ d) : ahd d l = l ∧ bhd d l = [] := by
  have := VerM.tw_all (p := fun c => decide (c ≠ d)) (s := l) (fun c hc => by simpa using h c hc)
  exact ⟨this.1, by unfold bhd; rw [this.2]; rfl⟩
theorem ahd_hit {d : UInt8} {x : B} (r : B) (h : ∀ c ∈ x, c ≠ d) : ahd d (x ++ d :: r) = x ∧ bhd d (x ++ d :: r) = r := by
  have h1 : ∀ c ∈ x, (fun c => decide (c ≠ d)) c = true := fun c hc => by simpa using h c hc
  constructor
  · unfold ahd
    rw [List.takeWhile_append_of_pos h1]; simp
  · unfold bhd
    rw [List.dropWhile_append_of_pos h1]; simp
theorem bhd_length (d : UInt8) (l : B) : (bhd d l).length ≤ l.length := by
  unfold bhd
  rw [List.length_drop]
  have := (List.dropWhile_sublist (l := l) (fun c => decide (c ≠ d))).length_le
  omega
theorem ahd_length (d : UInt8) (l : B) : (ahd d l).length ≤ l.length := (List.takeWhile_sublist _).length_le
theorem cut_is (d : UInt8) (l : B) : ∃ b, Lib.cut l [d] = (ahd d l, bhd d l, b) := by
  unfold Lib.cut
  rcases VerM.firstAt d l with h | ⟨x, r, e, hx⟩
  · have e1 := VerM.index_none' h
    rw [if_neg (by rw [e1]; decide), (ahd_none h).1, (ahd_none h).2]
    exact ⟨_, rfl⟩
  · subst e
    have e1 := VerM.index_hit' r hx
    rw [if_pos (by rw [e1]; omega), (ahd_hit r hx).1, (ahd_hit r hx).2, e1]
    exact ⟨true, by simp⟩
/-- a text begins so, exactly where that stands ahead of the first such byte -/
theorem starts_iff {d : UInt8} (h l : B) (hh : ∀ c ∈ h, c ≠ d) : l.take (h.length + 1) = h ++ [d] ↔ (ahd d l = h ∧ l = h ++ d :: bhd d l) := by
  rcases VerM.firstAt d l with hl | ⟨x, r, e, hx⟩
  · rw [(ahd_none hl).1, (ahd_none hl).2]
    constructor
    · intro e
      have hm : d ∈ l.take (h.length + 1) := by rw [e]; simp
      exact absurd rfl (hl d (List.mem_of_mem_take hm))
    · rintro ⟨_, e⟩
      exact absurd rfl (hl d (by rw [e]; simp))
  · subst e
    rw [(ahd_hit r hx).1, (ahd_hit r hx).2]
    constructor
    · intro e
      have hxh : x = h := by
        have e1 : (ahd d ((x ++ d :: r).take (h.length + 1) ++ (x ++ d :: r).drop (h.length + 1))) = h := by
          rw [e, List.append_assoc]
          exact (ahd_hit _ hh).1
        rw [List.take_append_drop, (ahd_hit r hx).1] at e1
        exact e1
      exact ⟨hxh, by rw [hxh]⟩
    · rintro ⟨rfl, _⟩
      rw [show x ++ d :: r = (x ++ [d]) ++ r by simp, List.take_left' (by simp)]
theorem starts_drop {d : UInt8} {h l : B} (e : l = h ++ d :: bhd d l) : l.drop (h.length + 1) = bhd d l := by
  conv => lhs; rw [e]
  rw [show h ++ d :: bhd d l = (h ++ [d]) ++ bhd d l by simp, List.drop_left' (by simp)]

/-! ### numbers -/
theorem val_dec (l : B) : val l = LogM.decV l := rfl
theorem dig_is (c : UInt8) : dig c = LogM.isDig c := rfl
theorem pow_at : ∀ n : Nat, 1 ≤ n → ∃ k, 10 ^ k ≤ n ∧ n < 10 ^ (k + 1) := by
  intro n
  induction n using Nat.strongRecOn with
  | _ n ih =>
    intro h
    by_cases h10 : n < 10
    · exact ⟨0, by simpa using h, by simpa using h10⟩
    · obtain ⟨k, h1, h2⟩ := ih (n / 10) (by omega) (by omega)
      refine ⟨k + 1, ?_, ?_⟩
      · rw [Nat.pow_succ]; omega
      · rw [Nat.pow_succ]; omega
/-- a number's digits: digits, none of them a nought ahead; they say the number -/
theorem dec_facts (n : Nat) (h : 1 ≤ n) : (Lib.decDigits n).all dig = true ∧ val (Lib.decDigits n) = n ∧ ((Lib.decDigits n).getD 0 0).toNat ≠ 48 ∧ Lib.decDigits n ≠ [] := by
  obtain ⟨k, h1, h2⟩ := pow_at n h
  have e := LogM.dec_dig k n h1 h2
  rw [e]
  refine ⟨LogM.dig_all n (k + 1), ?_, ?_, by simp [LogM.dig]⟩
  · rw [val_dec, LogM.decV_dig, Nat.mod_eq_of_lt h2]
  · show (UInt8.ofNat (48 + n / 10 ^ k % 10)).toNat ≠ 48
    rw [LogM.digit_nat]
    have hp : 0 < 10 ^ k := Nat.pow_pos (by decide)
    have h3 : n / 10 ^ k < 10 := by
      rw [Nat.div_lt_iff_lt_mul hp]; rw [Nat.pow_succ] at h2; omega
    have h4 : 1 ≤ n / 10 ^ k := by rw [Nat.le_div_iff_mul_le hp]; omega
    omega
theorem dec_length (n k : Nat) (h : n < 10 ^ (k + 1)) : (Lib.decDigits n).length ≤ k + 1 := by
  induction k generalizing n with
  | zero => rw [Lib.decDigits, dif_pos (by simpa using h)]; simp
  | succ k ih =>
    rw [Lib.decDigits]
    split
    · simp
    · have := ih (n / 10) (by rw [Nat.pow_succ] at h; omega)
      simp; omega
/-- digits without a nought ahead, from 1 to a bound -/
def plain (most : Nat) (l : B) : Option Nat := if l.all dig = true ∧ (l.getD 0 0).toNat ≠ 48 ∧ 1 ≤ val l ∧ val l ≤ most then some (val l) else none
theorem plain_iff {most : Nat} {l : B} {n : Nat} : plain most l = some n ↔ (l = Lib.decDigits n ∧ 1 ≤ n ∧ n ≤ most) := by
  unfold plain
  constructor
  · intro h
    split at h
    · rename_i hh
      obtain ⟨h1, h2, h3, h4⟩ := hh
      cases h
      have hne : l ≠ [] := by intro e; subst e; exact absurd h3 (by decide)
      have hp : padded l = false := by
        unfold padded
        rw [Bool.and_eq_false_iff]
        exact .inr (by simpa using h2)
      exact ⟨(VerM.dec_val l hne h1 hp).symm, h3, h4⟩
    · cases h
  · rintro ⟨rfl, h1, h2⟩
    obtain ⟨a, b, c, d⟩ := dec_facts n h1
    rw [if_pos ⟨a, c, by rw [b]; exact ⟨h1, h2⟩⟩, b]
theorem plain_some {most n : Nat} (h1 : 1 ≤ n) (h2 : n ≤ most) : plain most (Lib.decDigits n) = some n := plain_iff.2 ⟨rfl, h1, h2⟩
/-- the document's number: -1 of none -/
def numD (l : B) : Int := if l = [] ∨ 10 < l.length ∨ l.all dig = false then -1 else (val l : Int)
theorem numD_pos {l : B} {n : Nat} (h : numD l = n) (h0 : 0 < n) : l.all dig = true ∧ val l = n := by
  unfold numD at h
  split at h
  · omega
  · rename_i hh
    refine ⟨?_, by omega⟩
    cases e : l.all dig
    · exact absurd (.inr (.inr e)) hh
    · rfl
theorem numD_dec (n : Nat) (h : 1 ≤ n) (h2 : n < 10000000000) : numD (Lib.decDigits n) = n := by
  obtain ⟨a, b, c, d⟩ := dec_facts n h
  have hl := dec_length n 9 (by simpa using h2)
  unfold numD
  rw [if_neg, b]
  rintro (e | e | e)
  · exact d e
  · omega
  · rw [a] at e; cases e

/-! ### names -/
def logH : B := [108, 111, 103]
def blobH : B := [98, 108, 111, 98]
def pageH : B := [112, 97, 103, 101]
def stageH : B := [115, 116, 97, 103, 101]
def logN (n : Int) : B := if n < 1 ∨ 99999999 < n then [] else logH ++ 47 :: LogM.dig n.toNat 8
def stageN (n : Int) : B := if n < 1 ∨ 2147483647 < n then [] else stageH ++ 47 :: Lib.decDigits n.toNat
def blobN (s n : Nat) : B := if n < 1 then [] else blobH ++ 47 :: (SumM.digits s 16 ++ 45 :: Lib.decDigits n)
def pageN (is : B → Bool) (l : B) : B := if is l = true then pageH ++ 47 :: l else []
/-- the number of an error: 0 where there is a name -/
def errN (l : B) : Int := if l = [] then 110 else 0

structure Pth where
  kind : Nat
  n : Nat
  sum : Int
  part : Nat
  name : B
def none0 : Pth := ⟨0, 0, 0, 0, []⟩
def logR (r : B) : Option Pth := if r.length = 8 ∧ r.all dig = true ∧ 1 ≤ val r then some ⟨1, val r, 0, 0, []⟩ else none
def blobR (r : B) : Option Pth := match SumM.read (ahd 45 r), plain 4294967295 (bhd 45 r) with
  | some s, some n => some ⟨2, 0, s, n, []⟩
  | _, _ => none
def pageR (is : B → Bool) (r : B) : Option Pth := if is r = true then some ⟨3, 0, 0, 0, r⟩ else none
def stageR (r : B) : Option Pth := match plain 2147483647 r with
  | some n => some ⟨4, n, 0, 0, []⟩
  | none => none
/-- what a name says -/
def readP (is : B → Bool) (l : B) : Option Pth :=
  if ahd 47 l = logH then logR (bhd 47 l) else if ahd 47 l = blobH then blobR (bhd 47 l) else if ahd 47 l = pageH then pageR is (bhd 47 l) else if ahd 47 l = stageH then stageR (bhd 47 l) else none

set_option maxRecDepth 100000 in
theorem dval_hd_all : ∀ c : UInt8, 0 ≤ SumM.dval c.toNat → SumM.hd (SumM.dval c.toNat).toNat = c := by
  have h : ∀ k : Fin 256, 0 ≤ SumM.dval ((UInt8.ofNat k.val).toNat : Int) → SumM.hd (SumM.dval ((UInt8.ofNat k.val).toNat : Int)).toNat = UInt8.ofNat k.val := by decide
  intro c
  have := h ⟨c.toNat, c.toNat_lt⟩
  rwa [UInt8.ofNat_toNat] at this
/-- a sum's text, read, is that text again -/
theorem rd_back : ∀ (l : B) (x : Nat) (y : Int), (x + 1) * 16 ^ l.length ≤ 18446744073709551616 → SumM.rd (x : Int) l = some y → ∃ v : Nat, v < 16 ^ l.length ∧ y = ((x * 16 ^ l.length + v : Nat) : Int) ∧ l = SumM.digits (x * 16 ^ l.length + v) l.length
  | [], x, y, _, h => by
    cases h
    exact ⟨0, by simp, by simp, rfl⟩
  | c :: r, x, y, hx, h => by
    have hp : 0 < 16 ^ r.length := Nat.pow_pos (by decide)
    have hpow : 16 ^ (r.length + 1) = 16 * 16 ^ r.length := by rw [Nat.pow_succ, Nat.mul_comm]
    rw [List.length_cons] at hx
    rw [SumM.rd] at h
    have hb := SumM.dval_le c.toNat
    by_cases hd : SumM.dval (c.toNat : Int) < 0
    · rw [if_pos hd] at h; cases h
    rw [if_neg hd] at h
    obtain ⟨d, hdd⟩ : ∃ d : Nat, SumM.dval (c.toNat : Int) = d := ⟨(SumM.dval (c.toNat : Int)).toNat, by omega⟩
    have hd16 : d < 16 := by omega
    have hx16 : 16 * x + 15 < 18446744073709551616 := by
      have h1 : (x + 1) * 16 ≤ (x + 1) * 16 ^ (r.length + 1) := Nat.mul_le_mul_left _ (by rw [hpow]; omega)
      omega
    rw [hdd, SumM.rst_eq _ _ hx16 hd16] at h
    have hle : (16 * x + d + 1) * 16 ^ r.length ≤ 18446744073709551616 := by
      have h1 : (16 * x + d + 1) * 16 ^ r.length ≤ (16 * (x + 1)) * 16 ^ r.length := Nat.mul_le_mul_right _ (by omega)
      have h2 : (16 * (x + 1)) * 16 ^ r.length = (x + 1) * 16 ^ (r.length + 1) := by rw [hpow, Nat.mul_comm 16 (x + 1), Nat.mul_assoc]
      omega
    obtain ⟨v, hv, hy, hr⟩ := rd_back r (16 * x + d) y hle h
    have e0 : (16 * x + d) * 16 ^ r.length + v = x * 16 ^ (r.length + 1) + (d * 16 ^ r.length + v) := by
      rw [hpow, Nat.add_mul, Nat.mul_comm 16 x, Nat.mul_assoc]; omega
    refine ⟨d * 16 ^ r.length + v, ?_, ?_, ?_⟩
    · rw [List.length_cons, hpow]
      have : d * 16 ^ r.length ≤ 15 * 16 ^ r.length := Nat.mul_le_mul_right _ (by omega)
      omega
    · rw [hy, e0, List.length_cons]
    · rw [List.length_cons, ← e0, SumM.digits, ← hr]
      congr 1
      have e1 : ((16 * x + d) * 16 ^ r.length + v) / 16 ^ r.length = 16 * x + d := by
        rw [Nat.mul_comm, Nat.mul_add_div hp, Nat.div_eq_of_lt hv, Nat.add_zero]
      rw [e1, show (16 * x + d) % 16 = d by omega]
      have := dval_hd_all c (by omega)
      rw [hdd] at this
      exact this.symm
theorem read_back {l : B} {y : Int} (h : SumM.read l = some y) : l.length = 16 ∧ 0 ≤ y ∧ y < 18446744073709551616 ∧ l = SumM.digits y.toNat 16 := by
  unfold SumM.read at h
  split at h
  · rename_i hl
    obtain ⟨v, hv, hy, he⟩ := rd_back l 0 y (by rw [hl]; decide) h
    rw [hl] at hv he hy
    simp only [Nat.zero_mul, Nat.zero_add] at he hy
    have hv2 : v < 18446744073709551616 := by simpa using hv
    refine ⟨hl, by omega, by omega, ?_⟩
    rw [hy]
    exact he
  · cases h
theorem read_digits (n : Nat) (h : n < 18446744073709551616) : SumM.read (SumM.digits n 16) = some (n : Int) := by
  unfold SumM.read
  rw [if_pos (SumM.digits_length n 16), SumM.rd_text n h]
/-- no hyphen stands in a sum's text -/
theorem digits_45 (n : Nat) : ∀ k, ∀ c ∈ SumM.digits n k, c ≠ 45
  | 0 => by simp [SumM.digits]
  | k + 1 => by
    intro c hc
    rw [SumM.digits, List.mem_cons] at hc
    rcases hc with rfl | hc
    · have hlt : n / 16 ^ k % 16 < 16 := Nat.mod_lt _ (by decide)
      have H : ∀ d : Fin 16, SumM.hd d.val ≠ 45 := by decide
      exact H ⟨_, hlt⟩
    · exact digits_45 n k c hc

theorem logH_47 : ∀ c ∈ logH, c ≠ (47 : UInt8) := by decide
theorem blobH_47 : ∀ c ∈ blobH, c ≠ (47 : UInt8) := by decide
theorem pageH_47 : ∀ c ∈ pageH, c ≠ (47 : UInt8) := by decide
theorem stageH_47 : ∀ c ∈ stageH, c ≠ (47 : UInt8) := by decide

/-! ### the document's way: what it could say is written again -/
theorem log_again (r : B) (n : Int) (h : numD r = n) : (0 < n ∧ logN n = logH ++ 47 :: r) ↔ logR r = some ⟨1, n.toNat, 0, 0, []⟩ := by
  constructor
  · rintro ⟨h0, h1⟩
    unfold logN at h1
    split at h1
    · cases h1
    · rename_i hh
      have e : LogM.dig n.toNat 8 = r := by simpa using h1
      have hall := LogM.dig_all n.toNat 8
      have hv : val r = n.toNat := by rw [← e, val_dec, LogM.decV_dig, Nat.mod_eq_of_lt (by simp; omega)]
      unfold logR
      rw [if_pos ⟨by rw [← e]; exact LogM.dig_length _ _, by rw [← e]; exact hall, by omega⟩, hv]
  · intro h1
    unfold logR at h1
    split at h1
    · rename_i hh
      obtain ⟨h8, hd, hv⟩ := hh
      have hlt := LogM.decV_lt r hd
      rw [h8] at hlt
      have e := LogM.dig_decV r hd
      rw [h8] at e
      have hn : n = (val r : Int) := by
        rw [← h]; unfold numD
        rw [if_neg]
        rintro (x | x | x)
        · rw [x] at h8; cases h8
        · omega
        · rw [hd] at x; cases x
      rw [← val_dec] at hlt e
      have hlt' : val r < 100000000 := by simpa using hlt
      refine ⟨by omega, ?_⟩
      unfold logN
      rw [if_neg (by omega), hn, Int.toNat_natCast, e]
    · cases h1
theorem log_none (r : B) (n : Int) (h : numD r = n) (h2 : ¬ (0 < n ∧ logN n = logH ++ 47 :: r)) : logR r = none := by
  cases e : logR r with
  | none => rfl
  | some p =>
    refine absurd ((log_again r n h).2 ?_) h2
    unfold logR at e ⊢
    split at e
    · rename_i hh
      rw [if_pos hh]
      have hn : n = (val r : Int) := by
        rw [← h]; unfold numD
        rw [if_neg]
        rintro (x | x | x)
        · rw [x] at hh; exact absurd hh.1 (by decide)
        · omega
        · rw [hh.2.1] at x; cases x
      rw [hn]; rfl
    · cases e
theorem stage_again (r : B) (n : Int) (h : numD r = n) : (0 < n ∧ stageN n = stageH ++ 47 :: r) ↔ stageR r = some ⟨4, n.toNat, 0, 0, []⟩ := by
  constructor
  · rintro ⟨h0, h1⟩
    unfold stageN at h1
    split at h1
    · cases h1
    · rename_i hh
      have e : Lib.decDigits n.toNat = r := by simpa using h1
      unfold stageR
      rw [← e, plain_some (by omega) (by omega)]
  · intro h1
    unfold stageR at h1
    split at h1
    · rename_i m hm
      obtain ⟨e, h2, h3⟩ := plain_iff.1 hm
      have hn : n = m := by rw [← h, e]; exact numD_dec m h2 (by omega)
      refine ⟨by omega, ?_⟩
      unfold stageN
      rw [if_neg (by omega), hn, Int.toNat_natCast, ← e]
    · cases h1
theorem stage_none (r : B) (n : Int) (h : numD r = n) (h2 : ¬ (0 < n ∧ stageN n = stageH ++ 47 :: r)) : stageR r = none := by
  cases e : stageR r with
  | none => rfl
  | some p =>
    refine absurd ((stage_again r n h).2 ?_) h2
    unfold stageR at e ⊢
    split at e
    · rename_i m hm
      obtain ⟨e2, h2, h3⟩ := plain_iff.1 hm
      have hn : n = m := by rw [← h, e2]; exact numD_dec m h2 (by omega)
      rw [hn]; rfl
    · cases e
/-- what the document asks of a blob's name, behind the slash -/
def BlobD (r : B) (s n : Int) : Prop := 17 < r.length ∧ SumM.read (r.take 16) = some s ∧ numD (r.drop 17) = n ∧ 0 < n ∧ n < 4294967296 ∧ blobN s.toNat n.toNat = blobH ++ 47 :: r
theorem blob_again {r : B} {s n : Int} (h : BlobD r s n) : blobR r = some ⟨2, 0, s, n.toNat, []⟩ := by
  obtain ⟨h1, h2, h3, h4, h5, h6⟩ := h
  obtain ⟨r1, r2, r3, r4⟩ := read_back h2
  unfold blobN at h6
  rw [if_neg (by omega)] at h6
  have e : SumM.digits s.toNat 16 ++ 45 :: Lib.decDigits n.toNat = r := by simpa using h6
  obtain ⟨a, b⟩ := ahd_hit (d := 45) (Lib.decDigits n.toNat) (digits_45 s.toNat 16)
  unfold blobR
  rw [← e, a, b, read_digits s.toNat (by omega), plain_some (by omega) (by omega), Int.toNat_of_nonneg r2]
theorem blob_some {r : B} {p : Pth} (h : blobR r = some p) : ∃ s n, p = ⟨2, 0, s, n.toNat, []⟩ ∧ BlobD r s n := by
  unfold blobR at h
  split at h
  · rename_i s m hs hm
    cases h
    obtain ⟨r1, r2, r3, r4⟩ := read_back hs
    obtain ⟨e, h2, h3⟩ := plain_iff.1 hm
    refine ⟨s, (m : Int), rfl, ?_⟩
    have hr : r = SumM.digits s.toNat 16 ++ 45 :: Lib.decDigits m := by
      rcases VerM.firstAt 45 r with hl | ⟨x, q, e2, hx⟩
      · rw [(ahd_none hl).2] at e
        exact absurd e.symm (dec_facts m h2).2.2.2
      · subst e2
        rw [(ahd_hit q hx).1] at r4
        rw [(ahd_hit q hx).2] at e
        rw [← r4, ← e]
    have hl : (SumM.digits s.toNat 16).length = 16 := SumM.digits_length _ _
    have hdl : 1 ≤ (Lib.decDigits m).length := by
      have := (dec_facts m h2).2.2.2
      cases hc : Lib.decDigits m with
      | nil => exact absurd hc this
      | cons _ _ => simp
    have ht : r.take 16 = SumM.digits s.toNat 16 := by rw [hr, List.take_left' hl]
    have hd : r.drop 17 = Lib.decDigits m := by
      rw [hr, show SumM.digits s.toNat 16 ++ 45 :: Lib.decDigits m = (SumM.digits s.toNat 16 ++ [45]) ++ Lib.decDigits m by simp, List.drop_left' (by simp [hl])]
    refine ⟨by rw [hr, List.length_append, List.length_cons, hl]; omega, by rw [ht, read_digits s.toNat (by omega), Int.toNat_of_nonneg r2], by rw [hd]; exact numD_dec m h2 (by omega), by omega, by omega, ?_⟩
    unfold blobN
    rw [Int.toNat_natCast, if_neg (by omega), ← hr]
  · cases h

/-! ### there and back -/
theorem read_logN (is : B → Bool) (n : Nat) (h1 : 1 ≤ n) (h2 : n ≤ 99999999) : readP is (logN n) = some ⟨1, n, 0, 0, []⟩ := by
  have e : logN n = logH ++ 47 :: LogM.dig n 8 := by unfold logN; rw [if_neg (by omega)]; rfl
  obtain ⟨a, b⟩ := ahd_hit (d := 47) (LogM.dig n 8) logH_47
  unfold readP
  rw [e, a, b, if_pos rfl]
  have hv : val (LogM.dig n 8) = n := by rw [val_dec, LogM.decV_dig, Nat.mod_eq_of_lt (by simp; omega)]
  unfold logR
  rw [if_pos ⟨LogM.dig_length n 8, LogM.dig_all n 8, by rw [hv]; exact h1⟩, hv]
theorem read_stageN (is : B → Bool) (n : Nat) (h1 : 1 ≤ n) (h2 : n ≤ 2147483647) : readP is (stageN n) = some ⟨4, n, 0, 0, []⟩ := by
  have e : stageN n = stageH ++ 47 :: Lib.decDigits n := by unfold stageN; rw [if_neg (by omega)]; rfl
  obtain ⟨a, b⟩ := ahd_hit (d := 47) (Lib.decDigits n) stageH_47
  unfold readP
  rw [e, a, b, if_neg (by decide), if_neg (by decide), if_neg (by decide), if_pos rfl]
  unfold stageR
  rw [plain_some h1 h2]
theorem read_blobN (is : B → Bool) (s n : Nat) (hs : s < 18446744073709551616) (h1 : 1 ≤ n) (h2 : n ≤ 4294967295) : readP is (blobN s n) = some ⟨2, 0, s, n, []⟩ := by
  have e : blobN s n = blobH ++ 47 :: (SumM.digits s 16 ++ 45 :: Lib.decDigits n) := by unfold blobN; rw [if_neg (by omega)]
  obtain ⟨a, b⟩ := ahd_hit (d := 47) (SumM.digits s 16 ++ 45 :: Lib.decDigits n) blobH_47
  obtain ⟨a2, b2⟩ := ahd_hit (d := 45) (Lib.decDigits n) (digits_45 s 16)
  unfold readP
  rw [e, a, b, if_neg (by decide), if_pos rfl]
  unfold blobR
  rw [a2, b2, read_digits s hs, plain_some h1 h2]
theorem read_pageN (is : B → Bool) (l : B) (h : is l = true) : readP is (pageN is l) = some ⟨3, 0, 0, 0, l⟩ := by
  have e : pageN is l = pageH ++ 47 :: l := by unfold pageN; rw [if_pos h]
  obtain ⟨a, b⟩ := ahd_hit (d := 47) l pageH_47
  unfold readP
  rw [e, a, b, if_neg (by decide), if_neg (by decide), if_pos rfl]
  unfold pageR
  rw [if_pos h]
/-- names of a log's files stand in the numbers' order -/
theorem less_logN (n m : Nat) (h1 : 1 ≤ n) (h2 : n ≤ 99999999) (h3 : 1 ≤ m) (h4 : m ≤ 99999999) : Op.bytesLess (logN n) (logN m) = decide (n < m) := by
  have e : ∀ k : Nat, 1 ≤ k → k ≤ 99999999 → logN k = (logH ++ [47]) ++ LogM.dig k 8 := by
    intro k a b
    unfold logN; rw [if_neg (by omega)]; simp
  have hl := LogM.less_dig (LogM.dig n 8) (LogM.dig m 8) (by rw [LogM.dig_length, LogM.dig_length]) (LogM.dig_all n 8) (LogM.dig_all m 8)
  rw [LogM.decV_dig, LogM.decV_dig, Nat.mod_eq_of_lt (by simp; omega), Nat.mod_eq_of_lt (by simp; omega)] at hl
  rw [e n h1 h2, e m h3 h4, LogM.less_pre, Bool.eq_iff_iff, hl, decide_eq_true_eq]
end Go.Proofs.YtfbdhlpgklkjmaaGreatDoor.PathM
