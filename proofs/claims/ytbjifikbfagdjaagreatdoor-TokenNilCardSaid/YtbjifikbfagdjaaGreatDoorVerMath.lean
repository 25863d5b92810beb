/-
  Versions as plain lists of bytes: which may be, texts, what a text says, their order; texts there and back; the order is total.
-/
import Derived.Lib.SplitLaws
import Derived.Lib.Join
import Derived.Lib.ItoaNum
import Derived.Lib.ParseIntB
namespace Go.Proofs.YtbjifikbfagdjaaGreatDoor
namespace VerM
abbrev B := List UInt8
abbrev TL := List B
/-- a version -/
structure Ver where
  a : Nat
  b : Nat
  c : Nat
  pre : TL
def dig (c : UInt8) : Bool := decide (48 ≤ c.toNat) && decide (c.toNat ≤ 57)
def digs (s : B) : Bool := s.all dig && decide (s ≠ [])
def okI (c : UInt8) : Bool := dig c || (decide (97 ≤ c.toNat) && decide (c.toNat ≤ 122)) || decide (c.toNat = 45)
def padded (s : B) : Bool := decide (1 < s.length) && decide ((s.getD 0 0).toNat = 48)
def ident (s : B) : Bool := decide (1 ≤ s.length) && decide (s.length ≤ 16) && s.all okI && (!digs s || !padded s)
def mx : Nat := 2147483647
def may (v : Ver) : Bool := decide (v.a ≤ mx) && decide (v.b ≤ mx) && decide (v.c ≤ mx) && decide (v.pre.length ≤ 8) && v.pre.all ident

/-- cut at each d -/
def pieces (d : UInt8) : B → TL
  | [] => [[]]
  | c :: r => if c = d then [] :: pieces d r else
    match pieces d r with
    | [] => [[c]]
    | p :: q => (c :: p) :: q
theorem pieces_ne (d : UInt8) (s : B) : pieces d s ≠ [] := by
  cases s with
  | nil => simp [pieces]
  | cons c r => simp only [pieces]; split; simp; split <;> simp
theorem pieces_none {d : UInt8} {x : B} (h : ∀ c ∈ x, c ≠ d) : pieces d x = [x] := by
  induction x with
  | nil => rfl
  | cons c r ih =>
    rw [pieces, if_neg (h c (by simp)), ih (fun c hc => h c (by simp [hc]))]
theorem pieces_hit {d : UInt8} {x : B} (r : B) (h : ∀ c ∈ x, c ≠ d) : pieces d (x ++ d :: r) = x :: pieces d r := by
  induction x with
  | nil => simp [pieces]
  | cons c t ih =>
    rw [List.cons_append, pieces, if_neg (h c (by simp)), ih (fun c hc => h c (by simp [hc]))]
theorem pieces_length (d : UInt8) (s : B) : (pieces d s).length ≤ s.length + 1 := by
  induction s with
  | nil => simp [pieces]
  | cons c r ih =>
    rw [pieces]
    split
    · simp; exact ih
    · split
      · simp
      · rename_i h; rw [h] at ih; simp at ih ⊢; omega
theorem pieces_mem_length (d : UInt8) (s : B) : ∀ p ∈ pieces d s, p.length ≤ s.length := by
  induction s with
  | nil => simp [pieces]
  | cons c r ih =>
    rw [pieces]
    split
    · intro p hp
      rcases List.mem_cons.1 hp with e | e
      · rw [e]; simp
      · have := ih p e; simp; omega
    · split
      · rename_i h; exact absurd h (pieces_ne d r)
      · rename_i q l h
        rw [h] at ih
        intro p hp
        rcases List.mem_cons.1 hp with e | e
        · have := ih q (by simp); rw [e]; simp; omega
        · have := ih p (by simp [e]); simp; omega
theorem pieces_join (d : UInt8) (s : B) : Lib.join (pieces d s) [d] = s := by
  induction s with
  | nil => rfl
  | cons c r ih =>
    rw [pieces]
    split
    · rename_i h
      subst h
      obtain ⟨p, q, e⟩ := List.exists_cons_of_ne_nil (pieces_ne c r)
      rw [e] at ih ⊢
      rw [Lib.join_cons] at ih ⊢
      rw [Lib.joinTail, List.map_cons, List.flatten_cons, List.nil_append]
      rw [Lib.joinTail] at ih
      rw [List.append_assoc, ih]; rfl
    · split
      · rename_i h; exact absurd h (pieces_ne d r)
      · rename_i p q h
        rw [h] at ih
        rw [Lib.join_cons] at ih ⊢
        rw [List.cons_append, ih]
/-- no text is d's, no piece has a d -/
theorem pieces_mem (d : UInt8) (s : B) : ∀ p ∈ pieces d s, ∀ c ∈ p, c ≠ d ∧ c ∈ s := by
  induction s with
  | nil => simp [pieces]
  | cons c r ih =>
    rw [pieces]
    split
    · intro p hp
      rcases List.mem_cons.1 hp with e | e
      · rw [e]; simp
      · intro x hx; have := ih p e x hx; exact ⟨this.1, by simp [this.2]⟩
    · rename_i hc
      split
      · rename_i h; exact absurd h (pieces_ne d r)
      · rename_i q l h
        rw [h] at ih
        intro p hp
        rcases List.mem_cons.1 hp with e | e
        · rw [e]; intro x hx
          rcases List.mem_cons.1 hx with e2 | e2
          · rw [e2]; exact ⟨hc, by simp⟩
          · have := ih q (by simp) x e2; exact ⟨this.1, by simp [this.2]⟩
        · intro x hx; have := ih p (by simp [e]) x hx; exact ⟨this.1, by simp [this.2]⟩
/-- the first d, or none -/
theorem firstAt (d : UInt8) (s : B) : (∀ c ∈ s, c ≠ d) ∨ ∃ x r, s = x ++ d :: r ∧ ∀ c ∈ x, c ≠ d := by
  induction s with
  | nil => exact .inl (by simp)
  | cons c t ih =>
    by_cases h : c = d
    · exact .inr ⟨[], t, by rw [h]; rfl, by simp⟩
    · rcases ih with ih | ⟨x, r, e, hx⟩
      · refine .inl fun y hy => ?_
        rcases List.mem_cons.1 hy with e | e
        · rw [e]; exact h
        · exact ih y e
      · refine .inr ⟨c :: x, r, by rw [e]; rfl, fun y hy => ?_⟩
        rcases List.mem_cons.1 hy with e | e
        · rw [e]; exact h
        · exact hx y e
theorem index_none' {d : UInt8} {s : B} (h : ∀ c ∈ s, c ≠ d) : Lib.index s [d] = -1 := by
  refine Lib.index_none fun j _ => ?_
  cases ho : Lib.occAt s [d] j with
  | false => rfl
  | true =>
    have := Lib.occAt_head (t := []) rfl ho
    exact absurd rfl (h d (List.mem_of_getElem? this))
theorem index_hit' {d : UInt8} {x : B} (r : B) (h : ∀ c ∈ x, c ≠ d) : Lib.index (x ++ d :: r) [d] = x.length := by
  refine Lib.index_first (by simp) ?_ fun j hj => ?_
  · unfold Lib.occAt; simp
  · cases ho : Lib.occAt (x ++ d :: r) [d] j with
    | false => rfl
    | true =>
      have := Lib.occAt_head (t := []) rfl ho
      rw [List.getElem?_append_left hj] at this
      exact absurd rfl (h d (List.mem_of_getElem? this))
theorem splitK_pieces (d : UInt8) : ∀ (k : Nat) (s : B), s.length ≤ k → Lib.splitK [d] 0 (Lib.count s [d]) s = pieces d s := by
  intro k
  induction k with
  | zero =>
    intro s hs
    have : s = [] := List.length_eq_zero_iff.1 (by omega)
    subst this
    rfl
  | succ k ih =>
    intro s hs
    rcases firstAt d s with h | ⟨x, r, e, hx⟩
    · have hi := index_none' h
      rw [Lib.count_miss hi, pieces_none h]; rfl
    · subst e
      have hi := index_hit' r hx
      have hc := Lib.count_hit (sub := [d]) (by simp) hi
      rw [hc, pieces_hit r hx, Nat.add_comm]
      unfold Lib.splitK
      rw [hi, if_neg (by simp)]
      have e1 : ((x.length : Int)).toNat + 0 = x.length := by omega
      have e2 : ((x.length : Int)).toNat + [d].length = x.length + 1 := by simp
      rw [e1, e2]
      have e3 : (x ++ d :: r).take x.length = x := by simp
      have e4 : (x ++ d :: r).drop (x.length + 1) = r := by rw [← List.drop_drop]; simp
      rw [e3, e4]
      have e5 : x.length + [d].length = x.length + 1 := rfl
      rw [e5, e4, ih r (by simp at hs; omega)]
theorem split_pieces (d : UInt8) (s : B) : Lib.split s [d] = pieces d s := splitK_pieces d s.length s (Nat.le_refl _)

/-- ahead of the first -, behind it -/
def head (s : B) : B := s.takeWhile (fun c => decide (c ≠ 45))
def rest (s : B) : B := s.dropWhile (fun c => decide (c ≠ 45))
def ids (s : B) : TL := match rest s with | [] => [] | _ :: r => pieces 46 r
theorem tw_all {p : UInt8 → Bool} {s : B} (h : ∀ c ∈ s, p c = true) : s.takeWhile p = s ∧ s.dropWhile p = [] := by
  induction s with
  | nil => exact ⟨rfl, rfl⟩
  | cons c r ih =>
    have hc := h c (by simp)
    have := ih (fun c hc => h c (by simp [hc]))
    rw [List.takeWhile_cons, List.dropWhile_cons, hc]
    exact ⟨by rw [if_pos rfl, this.1], by rw [if_pos rfl, this.2]⟩
theorem head_none {s : B} (h : ∀ c ∈ s, c ≠ 45) : head s = s ∧ ids s = [] := by
  have h0 := tw_all (p := fun c => decide (c ≠ 45)) (s := s) (fun c hc => by simpa using h c hc)
  have h1 : head s = s := h0.1
  have h2 : rest s = [] := h0.2
  exact ⟨h1, by unfold ids; rw [h2]⟩
theorem head_hit {x : B} (r : B) (h : ∀ c ∈ x, c ≠ 45) : head (x ++ 45 :: r) = x ∧ ids (x ++ 45 :: r) = pieces 46 r := by
  have h1 : head (x ++ 45 :: r) = x := by
    unfold head
    rw [List.takeWhile_append_of_pos (by intro c hc; simpa using h c hc)]; simp
  have h2 : rest (x ++ 45 :: r) = 45 :: r := by
    unfold rest
    rw [List.dropWhile_append_of_pos (by intro c hc; simpa using h c hc)]; simp
  exact ⟨h1, by unfold ids; rw [h2]⟩

/-- decimal digits as a number -/
def val (s : B) : Nat := s.foldl (fun n c => 10 * n + (c.toNat - 48)) 0
theorem val_snoc (s : B) (c : UInt8) : val (s ++ [c]) = 10 * val s + (c.toNat - 48) := by unfold val; rw [List.foldl_append]; rfl
def numb (s : B) : Option Nat := if digs s = true ∧ padded s = false ∧ val s ≤ mx then some (val s) else none
def readV (x y z : B) (p : TL) : Option Ver :=
  match numb x, numb y, numb z with
  | some a, some b, some c => if may ⟨a, b, c, p⟩ then some ⟨a, b, c, p⟩ else none
  | _, _, _ => none
def readB (s : B) : Option Ver :=
  if s.length ≤ 128 then
    match pieces 46 (head s) with
    | [x, y, z] => readV x y z (ids s)
    | _ => none
  else none
def preL (p : TL) : B := match p with | [] => [] | _ :: _ => 45 :: Lib.join p [46]
def text (v : Ver) : B := Lib.decDigits v.a ++ 46 :: (Lib.decDigits v.b ++ 46 :: (Lib.decDigits v.c ++ preL v.pre))
def textOk (v : Ver) : Bool := may v && decide ((text v).length ≤ 128)

theorem byte_dig {c : UInt8} (h : dig c = true) : UInt8.ofNat (48 + (c.toNat - 48)) = c := by
  simp only [dig, Bool.and_eq_true, decide_eq_true_eq] at h
  rw [show 48 + (c.toNat - 48) = c.toNat by omega]
  exact UInt8.ofNat_toNat
theorem snoc_ind {P : B → Prop} (h0 : P []) (h1 : ∀ s c, P s → P (s ++ [c])) (s : B) : P s := by
  rw [← List.reverse_reverse s]
  induction s.reverse with
  | nil => exact h0
  | cons c r ih => rw [List.reverse_cons]; exact h1 _ _ ih
/-- digits without a nought ahead are their number's numeral -/
theorem dec_val : ∀ s : B, s ≠ [] → s.all dig = true → padded s = false → Lib.decDigits (val s) = s := by
  intro s
  induction s using snoc_ind with
  | h0 => intro h; exact absurd rfl h
  | h1 s c ih =>
    intro _ ha hp
    rw [List.all_append, Bool.and_eq_true] at ha
    obtain ⟨ha1, ha2⟩ := ha
    have hc : dig c = true := by simpa using ha2
    have hb := byte_dig hc
    have hc9 : c.toNat - 48 < 10 := by simp only [dig, Bool.and_eq_true, decide_eq_true_eq] at hc; omega
    rw [val_snoc]
    by_cases hs : s = []
    · subst hs
      show Lib.decDigits (10 * 0 + _) = _
      rw [Nat.mul_zero, Nat.zero_add, Lib.decDigits_one hc9, hb]; rfl
    · have hlen : 0 < s.length := List.length_pos_iff.2 hs
      have hp2 : s.getD 0 0 ≠ 48 := by
        intro e
        unfold padded at hp
        have h1 : (s ++ [c]).getD 0 0 = s.getD 0 0 := by rw [List.getD_eq_getElem?_getD, List.getD_eq_getElem?_getD, List.getElem?_append_left hlen]
        rw [h1, e, List.length_append, decide_eq_true (by simp; omega)] at hp
        exact absurd hp (by decide)
      have hp3 : padded s = false := by
        unfold padded
        rw [Bool.and_eq_false_iff]; right
        rw [decide_eq_false_iff_not]
        intro e
        exact hp2 (UInt8.toNat_inj.1 (by rw [e]; rfl))
      have ih' := ih hs ha1 hp3
      have hv : 0 < val s := by
        rcases Nat.eq_zero_or_pos (val s) with h | h
        · rw [h, Lib.decDigits_one (by decide)] at ih'
          exact absurd (by rw [← ih']; rfl) hp2
        · exact h
      rw [Lib.decDigits, dif_neg (by omega), show (10 * val s + (c.toNat - 48)) / 10 = val s by omega, show (10 * val s + (c.toNat - 48)) % 10 = c.toNat - 48 by omega, ih', hb]
theorem numb_dec {s : B} {n : Nat} (h : numb s = some n) : Lib.decDigits n = s ∧ n ≤ mx := by
  unfold numb at h
  split at h
  · rename_i hc
    obtain ⟨h1, h2, h3⟩ := hc
    cases h
    unfold digs at h1
    rw [Bool.and_eq_true, decide_eq_true_eq] at h1
    exact ⟨dec_val s h1.2 h1.1 h2, h3⟩
  · cases h
theorem read_some {s : B} {v : Ver} (h : readB s = some v) : s.length ≤ 128 ∧ may v = true ∧ ∃ x y z, pieces 46 (head s) = [x, y, z] ∧ numb x = some v.a ∧ numb y = some v.b ∧ numb z = some v.c ∧ v.pre = ids s := by
  unfold readB at h
  split at h
  · rename_i hl
    split at h
    · rename_i x y z hp
      unfold readV at h
      split at h
      · rename_i a b c h1 h2 h3
        split at h
        · rename_i hm; cases h; exact ⟨hl, hm, x, y, z, hp, h1, h2, h3, rfl⟩
        · cases h
      · cases h
    · cases h
  · cases h
/-- Text of Read is it -/
theorem read_text {s : B} {v : Ver} (h : readB s = some v) : text v = s ∧ s.length ≤ 128 ∧ may v = true := by
  obtain ⟨hl, hm, x, y, z, hp, h1, h2, h3, h4⟩ := read_some h
  refine ⟨?_, hl, hm⟩
  unfold text
  rw [(numb_dec h1).1, (numb_dec h2).1, (numb_dec h3).1, h4]
  have hj := pieces_join 46 (head s)
  rw [hp] at hj
  have hh : head s = x ++ 46 :: (y ++ 46 :: z) := by rw [← hj]; simp [Lib.join, List.intercalate]
  rcases firstAt 45 s with h | ⟨u, r, e, hu⟩
  · obtain ⟨e1, e2⟩ := head_none h
    rw [e2]
    show x ++ 46 :: (y ++ 46 :: (z ++ [])) = s
    rw [List.append_nil, ← hh, e1]
  · subst e
    obtain ⟨e1, e2⟩ := head_hit r hu
    rw [e2]
    obtain ⟨p, q, e3⟩ := List.exists_cons_of_ne_nil (pieces_ne 46 r)
    have hr := pieces_join 46 r
    rw [e3] at hr ⊢
    show x ++ 46 :: (y ++ 46 :: (z ++ 45 :: Lib.join (p :: q) [46])) = _
    rw [hr]
    rw [e1] at hh
    rw [hh]; simp
theorem read_inj {s t : B} {v : Ver} (h : readB s = some v) (h2 : readB t = some v) : s = t := by rw [← (read_text h).1, (read_text h2).1]
end VerM
end Go.Proofs.YtbjifikbfagdjaaGreatDoor
