/-
  What the proof of EvBoth stands on, part 1.
-/
import Derived.BigQuiet
import Derived.Deep.CutBlock
import Derived.Deep.QuietTactic
import Derived.Deep.RegionHeld
import Derived.Handy
import Derived.Laws.AppendOwn
import Derived.Laws.BytesArg
import Derived.Laws.CopyOwn
import Derived.Laws.Cover1
import Derived.Laws.IdiomStrings
import Derived.Lib.Hide
import Derived.Lib.ItoaNum
import Derived.Lib.Join
import Derived.Lib.ParseIntB
import Derived.Lib.ParseIntBCases
import Derived.Lib.SlicesCompact
import Derived.Lib.SplitLaws
import Derived.Lib.Strings
import Derived.LoopTactic
import Derived.Maps.AppendAt
import Derived.Sort.Grow
import Derived.Test.YtfbegbmjmhnplaaGreatDoorChecked
import Derived.WalkKit
import Derived.WalkSmall
set_option linter.unusedSimpArgs false
set_option linter.unusedVariables false
set_option maxHeartbeats 16000000
namespace Go.Proofs.YtfbegbmjmhnplaaGreatDoor
end Go.Proofs.YtfbegbmjmhnplaaGreatDoor
namespace Go.Proofs.YtfbegbmjmhnplaaGreatDoor.VerM
end Go.Proofs.YtfbegbmjmhnplaaGreatDoor.VerM
namespace Go.Proofs.YtfbegbmjmhnplaaGreatDoor.StrC
end Go.Proofs.YtfbegbmjmhnplaaGreatDoor.StrC
namespace Go.Proofs.YtfbegbmjmhnplaaGreatDoor.VerC
end Go.Proofs.YtfbegbmjmhnplaaGreatDoor.VerC
namespace Go.Proofs.YtfbegbmjmhnplaaGreatDoor.TextR
end Go.Proofs.YtfbegbmjmhnplaaGreatDoor.TextR
namespace Go.Proofs
end Go.Proofs
namespace Go.Proofs.YtfbegbmjmhnplaaGreatDoor.SpanM
end Go.Proofs.YtfbegbmjmhnplaaGreatDoor.SpanM
namespace Go.Proofs.YtfbegbmjmhnplaaGreatDoor.RowKC
end Go.Proofs.YtfbegbmjmhnplaaGreatDoor.RowKC
namespace Go.Proofs.YtfbegbmjmhnplaaGreatDoor.SpanC
end Go.Proofs.YtfbegbmjmhnplaaGreatDoor.SpanC
namespace Go.Proofs.YtfbegbmjmhnplaaGreatDoor.RoundR
end Go.Proofs.YtfbegbmjmhnplaaGreatDoor.RoundR
namespace Go.Proofs.YtfbegbmjmhnplaaGreatDoor.EvN
end Go.Proofs.YtfbegbmjmhnplaaGreatDoor.EvN
namespace Go.Proofs.YtfbegbmjmhnplaaGreatDoor.SumM
end Go.Proofs.YtfbegbmjmhnplaaGreatDoor.SumM
namespace Go.Proofs.YtfbegbmjmhnplaaGreatDoor.CodeM
end Go.Proofs.YtfbegbmjmhnplaaGreatDoor.CodeM
namespace Go.Proofs.YtfbegbmjmhnplaaGreatDoor.NameM
end Go.Proofs.YtfbegbmjmhnplaaGreatDoor.NameM
namespace Go.Proofs.YtfbegbmjmhnplaaGreatDoor.EvA
end Go.Proofs.YtfbegbmjmhnplaaGreatDoor.EvA
namespace Go.Proofs.YtfbegbmjmhnplaaGreatDoor.EvL
end Go.Proofs.YtfbegbmjmhnplaaGreatDoor.EvL
namespace Go.Proofs.YtfbegbmjmhnplaaGreatDoor.AppC
end Go.Proofs.YtfbegbmjmhnplaaGreatDoor.AppC
namespace Go.Proofs.YtfbegbmjmhnplaaGreatDoor.EvC
end Go.Proofs.YtfbegbmjmhnplaaGreatDoor.EvC
namespace Go.Proofs.YtfbegbmjmhnplaaGreatDoor.EvS
end Go.Proofs.YtfbegbmjmhnplaaGreatDoor.EvS
namespace Go.Proofs.YtfbegbmjmhnplaaGreatDoor.SumC
end Go.Proofs.YtfbegbmjmhnplaaGreatDoor.SumC
namespace Go.Proofs.YtfbegbmjmhnplaaGreatDoor.RoundD
end Go.Proofs.YtfbegbmjmhnplaaGreatDoor.RoundD
namespace Go.Proofs.YtfbegbmjmhnplaaGreatDoor.CodeC
end Go.Proofs.YtfbegbmjmhnplaaGreatDoor.CodeC
namespace Go.Proofs.YtfbegbmjmhnplaaGreatDoor.EvF
end Go.Proofs.YtfbegbmjmhnplaaGreatDoor.EvF
namespace Go.Proofs.YtfbegbmjmhnplaaGreatDoor.NameC
end Go.Proofs.YtfbegbmjmhnplaaGreatDoor.NameC
namespace Go.Proofs.YtfbegbmjmhnplaaGreatDoor.ErrC
end Go.Proofs.YtfbegbmjmhnplaaGreatDoor.ErrC
namespace Go.Proofs.YtfbegbmjmhnplaaGreatDoor.Flow
end Go.Proofs.YtfbegbmjmhnplaaGreatDoor.Flow
namespace Go.Proofs.YtfbegbmjmhnplaaGreatDoor.FlowN
end Go.Proofs.YtfbegbmjmhnplaaGreatDoor.FlowN
namespace Go.Proofs.YtfbegbmjmhnplaaGreatDoor.FmtC
end Go.Proofs.YtfbegbmjmhnplaaGreatDoor.FmtC
namespace Go.Proofs.YtfbegbmjmhnplaaGreatDoor.ErrU
end Go.Proofs.YtfbegbmjmhnplaaGreatDoor.ErrU
namespace Go.Proofs.YtfbegbmjmhnplaaGreatDoor.EvR
end Go.Proofs.YtfbegbmjmhnplaaGreatDoor.EvR
namespace Go.Proofs.YtfbegbmjmhnplaaGreatDoor
open Go.Lib (hid)
section
namespace VerM
abbrev B := List UInt8
abbrev TL := List B
structure Ver where
 a : Nat
 b : Nat
 c : Nat
 pre : TL
def dig (c : UInt8) : Bool := decide (48 ≤ c.toNat) && decide (c.toNat ≤ 57)
def digs (s : B) : Bool := s.all dig && decide (s ≠ [])
def okI (c : UInt8) : Bool := dig c || (decide (97 ≤ c.toNat) && decide (c.toNat ≤ 122)) || decide (c.toNat = 45)
def padded (s : B) : Bool := decide (1 < s.length) && decide ((s.getD 0 0).toNat = 48)
def ident (s : B) : Bool := decide (1 ≤ s.length) && decide (s.length ≤ 16) && s.all okI && (!digs s || !padded s)
def mx : Nat := 2147483647
def may (v : Ver) : Bool := decide (v.a ≤ mx) && decide (v.b ≤ mx) && decide (v.c ≤ mx) && decide (v.pre.length ≤ 8) && v.pre.all ident
def pieces (d : UInt8) : B → TL
 | [] => [[]]
 | c :: r => if c = d then [] :: pieces d r else
   match pieces d r with
   | [] => [[c]]
   | p :: q => (c :: p) :: q
theorem zaa (d : UInt8) (s : B) : pieces d s ≠ [] := by
 cases s with
 | nil => simp [pieces]
 | cons c r => simp only [pieces]; split; simp; split <;> simp
theorem zab {d : UInt8} {x : B} (h : ∀ c ∈ x, c ≠ d) : pieces d x = [x] := by
 induction x with
 | nil => rfl
 | cons c r ih =>
   rw [pieces, if_neg (h c (by simp)), ih (fun c hc => h c (by simp [hc]))]
theorem zac {d : UInt8} {x : B} (r : B) (h : ∀ c ∈ x, c ≠ d) : pieces d (x ++ d :: r) = x :: pieces d r := by
 induction x with
 | nil => simp [pieces]
 | cons c t ih =>
   rw [List.cons_append, pieces, if_neg (h c (by simp)), ih (fun c hc => h c (by simp [hc]))]
theorem zad (d : UInt8) (s : B) : (pieces d s).length ≤ s.length + 1 := by
 induction s with
 | nil => simp [pieces]
 | cons c r ih =>
   rw [pieces]
   split
   · simp; exact ih
   · split
     · simp
     · rename_i h; rw [h] at ih; simp at ih ⊢; omega
theorem zae (d : UInt8) (s : B) : ∀ p ∈ pieces d s, p.length ≤ s.length := by
 induction s with
 | nil => simp [pieces]
 | cons c r ih =>
   rw [pieces]
   split
   · intro p hp
     rcases List.mem_cons.1 hp with e | e
     · rw [e]; simp
     · have := ih p e; simp; omega
   · split
     · rename_i h; exact absurd h (zaa d r)
     · rename_i q l h
       rw [h] at ih
       intro p hp
       rcases List.mem_cons.1 hp with e | e
       · have := ih q (by simp); rw [e]; simp; omega
       · have := ih p (by simp [e]); simp; omega
theorem zaf (d : UInt8) (s : B) : Lib.join (pieces d s) [d] = s := by
 induction s with
 | nil => rfl
 | cons c r ih =>
   rw [pieces]
   split
   · rename_i h
     subst h
     obtain ⟨p, q, e⟩ := List.exists_cons_of_ne_nil (zaa c r)
     rw [e] at ih ⊢
     rw [Lib.join_cons] at ih ⊢
     rw [Lib.joinTail, List.map_cons, List.flatten_cons, List.nil_append]
     rw [Lib.joinTail] at ih
     rw [List.append_assoc, ih]; rfl
   · split
     · rename_i h; exact absurd h (zaa d r)
     · rename_i p q h
       rw [h] at ih
       rw [Lib.join_cons] at ih ⊢
       rw [List.cons_append, ih]
theorem zag (d : UInt8) (s : B) : (∀ c ∈ s, c ≠ d) ∨ ∃ x r, s = x ++ d :: r ∧ ∀ c ∈ x, c ≠ d := by
 induction s with
 | nil => exact .inl (by simp)
 | cons c t ih =>
   by_cases h : c = d
   · exact .inr ⟨[], t, by rw [h]; rfl, by simp⟩
   · rcases ih with ih | ⟨x, r, e, hx⟩
     · refine .inl fun y hy => ?_
       rcases List.mem_cons.1 hy with e | e
       · rw [e]; exact h
       · exact ih y e
     · refine .inr ⟨c :: x, r, by rw [e]; rfl, fun y hy => ?_⟩
       rcases List.mem_cons.1 hy with e | e
       · rw [e]; exact h
       · exact hx y e
theorem zah {d : UInt8} {s : B} (h : ∀ c ∈ s, c ≠ d) : Lib.index s [d] = -1 := by
 refine Lib.index_none fun j _ => ?_
 cases ho : Lib.occAt s [d] j with
 | false => rfl
 | true =>
   have := Lib.occAt_head (t := []) rfl ho
   exact absurd rfl (h d (List.mem_of_getElem? this))
theorem zai {d : UInt8} {x : B} (r : B) (h : ∀ c ∈ x, c ≠ d) : Lib.index (x ++ d :: r) [d] = x.length := by
 refine Lib.index_first (by simp) ?_ fun j hj => ?_
 · unfold Lib.occAt; simp
 · cases ho : Lib.occAt (x ++ d :: r) [d] j with
   | false => rfl
   | true =>
     have := Lib.occAt_head (t := []) rfl ho
     rw [List.getElem?_append_left hj] at this
     exact absurd rfl (h d (List.mem_of_getElem? this))
theorem zaj (d : UInt8) : ∀ (k : Nat) (s : B), s.length ≤ k → Lib.splitK [d] 0 (Lib.count s [d]) s = pieces d s := by
 intro k
 induction k with
 | zero =>
   intro s hs
   have : s = [] := List.length_eq_zero_iff.1 (by omega)
   subst this
   rfl
 | succ k ih =>
   intro s hs
   rcases zag d s with h | ⟨x, r, e, hx⟩
   · have hi := zah h
     rw [Lib.count_miss hi, zab h]; rfl
   · subst e
     have hi := zai r hx
     have hc := Lib.count_hit (sub := [d]) (by simp) hi
     rw [hc, zac r hx, Nat.add_comm]
     unfold Lib.splitK
     rw [hi, if_neg (by simp)]
     have e1 : ((x.length : Int)).toNat + 0 = x.length := by omega
     have e2 : ((x.length : Int)).toNat + [d].length = x.length + 1 := by simp
     rw [e1, e2]
     have e3 : (x ++ d :: r).take x.length = x := by simp
     have e4 : (x ++ d :: r).drop (x.length + 1) = r := by rw [← List.drop_drop]; simp
     rw [e3, e4]
     have e5 : x.length + [d].length = x.length + 1 := rfl
     rw [e5, e4, ih r (by simp at hs; omega)]
theorem zak (d : UInt8) (s : B) : Lib.split s [d] = pieces d s := zaj d s.length s (Nat.le_refl _)
def head (s : B) : B := s.takeWhile (fun c => decide (c ≠ 45))
def rest (s : B) : B := s.dropWhile (fun c => decide (c ≠ 45))
def ids (s : B) : TL := match rest s with | [] => [] | _ :: r => pieces 46 r
theorem zal {p : UInt8 → Bool} {s : B} (h : ∀ c ∈ s, p c = true) : s.takeWhile p = s ∧ s.dropWhile p = [] := by
 induction s with
 | nil => exact ⟨rfl, rfl⟩
 | cons c r ih =>
   have hc := h c (by simp)
   have := ih (fun c hc => h c (by simp [hc]))
   rw [List.takeWhile_cons, List.dropWhile_cons, hc]
   exact ⟨by rw [if_pos rfl, this.1], by rw [if_pos rfl, this.2]⟩
theorem zam {s : B} (h : ∀ c ∈ s, c ≠ 45) : head s = s ∧ ids s = [] := by
 have h0 := zal (p := fun c => decide (c ≠ 45)) (s := s) (fun c hc => by simpa using h c hc)
 have h1 : head s = s := h0.1
 have h2 : rest s = [] := h0.2
 exact ⟨h1, by unfold ids; rw [h2]⟩
theorem zan {x : B} (r : B) (h : ∀ c ∈ x, c ≠ 45) : head (x ++ 45 :: r) = x ∧ ids (x ++ 45 :: r) = pieces 46 r := by
 have h1 : head (x ++ 45 :: r) = x := by
  unfold head
  rw [List.takeWhile_append_of_pos (by intro c hc; simpa using h c hc)]; simp
 have h2 : rest (x ++ 45 :: r) = 45 :: r := by
  unfold rest
  rw [List.dropWhile_append_of_pos (by intro c hc; simpa using h c hc)]; simp
 exact ⟨h1, by unfold ids; rw [h2]⟩
def val (s : B) : Nat := s.foldl (fun n c => 10 * n + (c.toNat - 48)) 0
theorem zao (s : B) (c : UInt8) : val (s ++ [c]) = 10 * val s + (c.toNat - 48) := by unfold val; rw [List.foldl_append]; rfl
def numb (s : B) : Option Nat := if digs s = true ∧ padded s = false ∧ val s ≤ mx then some (val s) else none
def readV (x y z : B) (p : TL) : Option Ver :=
 match numb x, numb y, numb z with
 | some a, some b, some c => if may ⟨a, b, c, p⟩ then some ⟨a, b, c, p⟩ else none
 | _, _, _ => none
def readB (s : B) : Option Ver :=
 if s.length ≤ 128 then
  match pieces 46 (head s) with
  | [x, y, z] => readV x y z (ids s)
  | _ => none
 else none
def preL (p : TL) : B := match p with | [] => [] | _ :: _ => 45 :: Lib.join p [46]
def text (v : Ver) : B := Lib.decDigits v.a ++ 46 :: (Lib.decDigits v.b ++ 46 :: (Lib.decDigits v.c ++ preL v.pre))
def zap (v : Ver) : Bool := may v && decide ((text v).length ≤ 128)
theorem zaq {c : UInt8} (h : dig c = true) : UInt8.ofNat (48 + (c.toNat - 48)) = c := by
 simp only [dig, Bool.and_eq_true, decide_eq_true_eq] at h
 rw [show 48 + (c.toNat - 48) = c.toNat by omega]
 exact UInt8.ofNat_toNat
theorem zar {P : B → Prop} (h0 : P []) (h1 : ∀ s c, P s → P (s ++ [c])) (s : B) : P s := by
 rw [← List.reverse_reverse s]
 induction s.reverse with
 | nil => exact h0
 | cons c r ih => rw [List.reverse_cons]; exact h1 _ _ ih
theorem dec_val : ∀ s : B, s ≠ [] → s.all dig = true → padded s = false → Lib.decDigits (val s) = s := by
 intro s
 induction s using zar with
 | h0 => intro h; exact absurd rfl h
 | h1 s c ih =>
   intro _ ha hp
   rw [List.all_append, Bool.and_eq_true] at ha
   obtain ⟨ha1, ha2⟩ := ha
   have hc : dig c = true := by simpa using ha2
   have hb := zaq hc
   have hc9 : c.toNat - 48 < 10 := by simp only [dig, Bool.and_eq_true, decide_eq_true_eq] at hc; omega
   rw [zao]
   by_cases hs : s = []
   · subst hs
     show Lib.decDigits (10 * 0 + _) = _
     rw [Nat.mul_zero, Nat.zero_add, Lib.decDigits_one hc9, hb]; rfl
   · have hlen : 0 < s.length := List.length_pos_iff.2 hs
     have hp2 : s.getD 0 0 ≠ 48 := by
      intro e
      unfold padded at hp
      have h1 : (s ++ [c]).getD 0 0 = s.getD 0 0 := by rw [List.getD_eq_getElem?_getD, List.getD_eq_getElem?_getD, List.getElem?_append_left hlen]
      rw [h1, e, List.length_append, decide_eq_true (by simp; omega)] at hp
      exact absurd hp (by decide)
     have hp3 : padded s = false := by
      unfold padded
      rw [Bool.and_eq_false_iff]; right
      rw [decide_eq_false_iff_not]
      intro e
      exact hp2 (UInt8.toNat_inj.1 (by rw [e]; rfl))
     have ih' := ih hs ha1 hp3
     have hv : 0 < val s := by
      rcases Nat.eq_zero_or_pos (val s) with h | h
      · rw [h, Lib.decDigits_one (by decide)] at ih'
        exact absurd (by rw [← ih']; rfl) hp2
      · exact h
     rw [Lib.decDigits, dif_neg (by omega), show (10 * val s + (c.toNat - 48)) / 10 = val s by omega, show (10 * val s + (c.toNat - 48)) % 10 = c.toNat - 48 by omega, ih', hb]
theorem zas {s : B} {n : Nat} (h : numb s = some n) : Lib.decDigits n = s ∧ n ≤ mx := by
 unfold numb at h
 split at h
 · rename_i hc
   obtain ⟨h1, h2, h3⟩ := hc
   cases h
   unfold digs at h1
   rw [Bool.and_eq_true, decide_eq_true_eq] at h1
   exact ⟨dec_val s h1.2 h1.1 h2, h3⟩
 · cases h
theorem zat {s : B} {v : Ver} (h : readB s = some v) : s.length ≤ 128 ∧ may v = true ∧ ∃ x y z, pieces 46 (head s) = [x, y, z] ∧ numb x = some v.a ∧ numb y = some v.b ∧ numb z = some v.c ∧ v.pre = ids s := by
 unfold readB at h
 split at h
 · rename_i hl
   split at h
   · rename_i x y z hp
     unfold readV at h
     split at h
     · rename_i a b c h1 h2 h3
       split at h
       · rename_i hm; cases h; exact ⟨hl, hm, x, y, z, hp, h1, h2, h3, rfl⟩
       · cases h
     · cases h
   · cases h
 · cases h
theorem zau {s : B} {v : Ver} (h : readB s = some v) : text v = s ∧ s.length ≤ 128 ∧ may v = true := by
 obtain ⟨hl, hm, x, y, z, hp, h1, h2, h3, h4⟩ := zat h
 refine ⟨?_, hl, hm⟩
 unfold text
 rw [(zas h1).1, (zas h2).1, (zas h3).1, h4]
 have hj := zaf 46 (head s)
 rw [hp] at hj
 have hh : head s = x ++ 46 :: (y ++ 46 :: z) := by rw [← hj]; simp [Lib.join, List.intercalate]
 rcases zag 45 s with h | ⟨u, r, e, hu⟩
 · obtain ⟨e1, e2⟩ := zam h
   rw [e2]
   show x ++ 46 :: (y ++ 46 :: (z ++ [])) = s
   rw [List.append_nil, ← hh, e1]
 · subst e
   obtain ⟨e1, e2⟩ := zan r hu
   rw [e2]
   obtain ⟨p, q, e3⟩ := List.exists_cons_of_ne_nil (zaa 46 r)
   have hr := zaf 46 r
   rw [e3] at hr ⊢
   show x ++ 46 :: (y ++ 46 :: (z ++ 45 :: Lib.join (p :: q) [46])) = _
   rw [hr]
   rw [e1] at hh
   rw [hh]; simp
end VerM
end
section
namespace VerM
structure Pre {α : Type} (f : α → α → Int) : Prop where
 anti : ∀ a b, f a b = - f b a
 trans : ∀ a b c, f a b ≤ 0 → f b c ≤ 0 → f a c ≤ 0
def lex {α : Type} (f g : α → α → Int) (a b : α) : Int := if f a b ≠ 0 then f a b else g a b
theorem Pre.lex {α : Type} {f g : α → α → Int} (hf : Pre f) (hg : Pre g) : Pre (lex f g) := by
 refine ⟨fun a b => ?_, fun a b c h1 h2 => ?_⟩
 · have e1 := hf.anti a b
   have e2 := hg.anti a b
   unfold VerM.lex
   by_cases h : f b a = 0
   · rw [h] at e1
     rw [if_neg (by omega), if_neg (by omega)]; exact e2
   · rw [if_pos (by omega), if_pos (by omega)]; exact e1
 · have tf := hf.trans a b c
   have tg := hg.trans a b c
   have t1 := hf.trans c a b
   have t2 := hf.trans b c a
   have a1 := hf.anti a c
   have a2 := hf.anti b c
   have a3 := hf.anti a b
   unfold VerM.lex at h1 h2 ⊢
   split at h1 <;> split at h2 <;> split <;> omega
theorem Pre.key {α β : Type} {f : β → β → Int} (hf : Pre f) (k : α → β) : Pre (fun a b => f (k a) (k b)) := ⟨fun _ _ => hf.anti _ _, fun _ _ _ => hf.trans _ _ _⟩
def cmpN (a b : Nat) : Int := if a < b then -1 else if b < a then 1 else 0
theorem zav : Pre cmpN := by
 refine ⟨fun a b => ?_, fun a b c => ?_⟩
 · unfold cmpN; (repeat' split) <;> omega
 · unfold cmpN; (repeat' split) <;> omega
theorem zaw {a b : Nat} (h : cmpN a b = 0) : a = b := by unfold cmpN at h; (repeat' split at h) <;> omega
def cmpB (a b : B) : Int := if a = b then 0 else if a < b then -1 else 1
theorem zax : Pre cmpB := by
 refine ⟨fun a b => ?_, fun a b c h1 h2 => ?_⟩
 · unfold cmpB
   by_cases h : a = b
   · rw [if_pos h, if_pos h.symm]; rfl
   · rw [if_neg h, if_neg (Ne.symm h)]
     rcases Classical.em (a < b) with h1 | h1
     · rw [if_pos h1, if_neg (fun h2 => List.lt_irrefl _ (List.lt_trans h1 h2))]
     · rw [if_neg h1, if_pos (by
        rcases Classical.em (b < a) with h2 | h2
        · exact h2
        · exact absurd (List.le_antisymm (List.not_lt.1 h2) (List.not_lt.1 h1)) h)]; rfl
 · have key : ∀ x y : B, cmpB x y ≤ 0 ↔ x ≤ y := by
    intro x y
    unfold cmpB
    split
    · rename_i e; subst e; simp [List.le_refl]
    · rename_i e
      split
      · rename_i hl; exact ⟨fun _ => List.le_of_lt hl, fun _ => by decide⟩
      · rename_i hl; exact ⟨fun h => absurd h (by decide), fun h => absurd (List.le_antisymm h (List.not_lt.1 hl)) e⟩
   rw [key] at h1 h2 ⊢
   exact List.le_trans h1 h2
theorem zay {a b : B} (h : cmpB a b = 0) : a = b := by
 unfold cmpB at h
 split at h
 · assumption
 · split at h <;> simp at h
def kindI (a : B) : Nat := if digs a then 0 else 1
def lenI (a : B) : Nat := if digs a then a.length else 0
def ordI : B → B → Int := lex (fun a b => cmpN (kindI a) (kindI b)) (lex (fun a b => cmpN (lenI a) (lenI b)) cmpB)
theorem zaz : Pre ordI := (zav.key kindI).lex ((zav.key lenI).lex zax)
theorem zba {α : Type} {f g : α → α → Int} {a b : α} (h : lex f g a b = 0) : f a b = 0 ∧ g a b = 0 := by
 unfold lex at h
 by_cases h1 : f a b = 0
 · rw [if_neg (by omega)] at h; exact ⟨h1, h⟩
 · rw [if_pos h1] at h; exact absurd h h1
theorem zbb {a b : B} (h : ordI a b = 0) : a = b := zay (zba (zba h).2).2
theorem zbc (a : B) : ordI a a = 0 := by have := zaz.anti a a; omega
theorem ordI_is (a b : B) : ordI a b = if a = b then 0 else if digs a = digs b then (if digs a = true ∧ a.length ≠ b.length then (if a.length < b.length then -1 else 1) else if a < b then -1 else 1) else if digs a = true then -1 else 1 := by
 by_cases e : a = b
 · rw [if_pos e, e]; exact zbc b
 · rw [if_neg e]
   unfold ordI lex
   dsimp only
   unfold kindI lenI cmpN cmpB
   rw [if_neg e]
   rcases Bool.eq_false_or_eq_true (digs a) with ha | ha <;> rcases Bool.eq_false_or_eq_true (digs b) with hb | hb <;> simp only [ha, hb, Bool.false_eq_true, if_false, Nat.lt_irrefl, ne_eq, not_true, if_true, false_and, true_and, Nat.zero_lt_one, Nat.not_lt_zero]
   · by_cases h : a.length = b.length
     · simp [h]
     · rcases Nat.lt_or_gt_of_ne h with h1 | h1
       · simp [h1, h]
       · simp [Nat.not_lt_of_gt h1, h1, h]
   · simp
   · simp
def ordL : TL → TL → Int
 | [], [] => 0
 | [], _ :: _ => -1
 | _ :: _, [] => 1
 | x :: l, y :: r => if ordI x y ≠ 0 then ordI x y else ordL l r
theorem zbd : ∀ a b, ordL a b = - ordL b a
 | [], [] => rfl
 | [], _ :: _ => rfl
 | _ :: _, [] => rfl
 | x :: l, y :: r => by
   have h1 := zaz.anti x y
   have h2 := zbd l r
   unfold ordL
   by_cases h : ordI y x = 0
   · rw [if_neg (by omega), if_neg (by omega)]; exact h2
   · rw [if_pos (by omega), if_pos (by omega)]; exact h1
theorem zbe : ∀ a b c, ordL a b ≤ 0 → ordL b c ≤ 0 → ordL a c ≤ 0
 | [], _, [], _, _ => by simp [ordL]
 | [], _, _ :: _, _, _ => by simp [ordL]
 | _ :: _, [], _, h, _ => by simp [ordL] at h
 | _ :: _, _ :: _, [], _, h => by simp [ordL] at h
 | x :: l, y :: r, z :: t, h1, h2 => by
   have ih := zbe l r t
   have tf := zaz.trans x y z
   have t1 := zaz.trans z x y
   have t2 := zaz.trans y z x
   have a1 := zaz.anti x z
   have a2 := zaz.anti y z
   have a3 := zaz.anti x y
   unfold ordL at h1 h2 ⊢
   split at h1 <;> split at h2 <;> split <;> omega
theorem zbf : Pre ordL := ⟨zbd, zbe⟩
theorem zbg : ∀ {a b : TL}, ordL a b = 0 → a = b
 | [], [], _ => rfl
 | [], _ :: _, h => by simp [ordL] at h
 | _ :: _, [], h => by simp [ordL] at h
 | x :: l, y :: r, h => by
   unfold ordL at h
   by_cases p : ordI x y = 0
   · rw [if_neg (by omega)] at h; rw [zbb p, zbg h]
   · rw [if_pos p] at h; exact absurd h p
def rel (v : Ver) : Nat := match v.pre with | [] => 1 | _ :: _ => 0
def cmpV : Ver → Ver → Int := lex (fun v w => cmpN v.a w.a) (lex (fun v w => cmpN v.b w.b) (lex (fun v w => cmpN v.c w.c) (lex (fun v w => cmpN (rel v) (rel w)) (fun v w => ordL v.pre w.pre))))
theorem zbh : Pre cmpV := (zav.key Ver.a).lex ((zav.key Ver.b).lex ((zav.key Ver.c).lex ((zav.key rel).lex (zbf.key Ver.pre))))
theorem zbi {v w : Ver} (h : cmpV v w = 0) : v = w := by
 obtain ⟨h1, h⟩ := zba h
 obtain ⟨h2, h⟩ := zba h
 obtain ⟨h3, h⟩ := zba h
 obtain ⟨_, h⟩ := zba h
 have e1 := zaw h1
 have e2 := zaw h2
 have e3 := zaw h3
 have e4 := zbg h
 cases v; cases w; simp only [Ver.mk.injEq]; exact ⟨e1, e2, e3, e4⟩
theorem zbj (v : Ver) : cmpV v v = 0 := by have := zbh.anti v v; omega
def nought : B := [48]
def zbk (v : Ver) : Ver := ⟨v.a, v.b, v.c, [nought]⟩
def isT (s : B) : Bool := (readB s).isSome
theorem zbl {s : B} (h : isT s = true) : ∃ v, readB s = some v := Option.isSome_iff_exists.1 h
end VerM
end
section
open Go.RowKit
namespace StrC
def str (l : List UInt8) : ByteArray := ⟨l.toArray⟩
theorem zbm (l : List UInt8) : (str l).size = l.length := by show l.toArray.size = _; simp
theorem zbn (l : List UInt8) : (str l).data.toList = l := rfl
theorem zbo (s : ByteArray) : s = str s.data.toList := by apply ByteArray.ext; simp [str]
theorem str_add (a b : List UInt8) : str a ++ str b = str (a ++ b) := by apply ByteArray.ext; simp [str]
theorem zbp (a b : List UInt8) (w : World) (h : a.length + b.length ≤ 4611686018427387904) : (Op.stringOp .add (str a) (str b)).run Tryz.prog w = .ok (.string (str (a ++ b))) w := by
 rw [run_string_add_sum (P := Tryz.prog) w (str a) (str b) (by rw [zbm, zbm]; omega), str_add]
theorem zbq (l : List UInt8) (x : Int) (a : Nat) (hx : x = a) (h : a < l.length) (w : World) : (Instr.index 9 (.string (str l)) (.int .i64 x)).run Tryz.prog w = .ok (.int .u8 ((l.getD a 0).toNat : Int)) w := by
 subst hx
 rw [run_index_string w 9 (str l) .i64 _ Tryz.underlying9, dif_pos ⟨by omega, by rw [zbm]; omega⟩]
 simp only [Int.toNat_natCast]
 have e : l.getD a 0 = l[a] := by simp [h]
 rw [e]
 rfl
theorem zbr (a b : List UInt8) : ((str a).toList == (str b).toList) = decide (a = b) := by rw [ByteArray.toList_eq, ByteArray.toList_eq, zbn, zbn, Bool.eq_iff_iff]; simp
theorem zbs (a b : List UInt8) : ((str a).toList != (str b).toList) = decide (a ≠ b) := by unfold bne; rw [zbr]; simp
theorem beq_lit (x : ByteArray) (b : List UInt8) : ((str b).toList == x.toList) = decide (b = x.data.toList) := by rw [ByteArray.toList_eq, ByteArray.toList_eq, zbn, Bool.eq_iff_iff]; simp
theorem zbt (b x : List UInt8) : ((str b).toList == x) = decide (b = x) := by rw [ByteArray.toList_eq, zbn, Bool.eq_iff_iff]; simp
theorem chain {B : Nat} {w w1 w2 : World} (hB : B ≤ w.heap.size) (h1 : Below B w w1) (h2 : Below w1.heap.size w1 w2) : Below B w w2 := h1.trans (h2.mono (Nat.le_trans hB h1.size))
theorem retB {a b : Bool} (h : a = b) : Ending.returned (.bool a) = Ending.returned (.bool b) := by rw [h]
theorem one_any (b cap : Nat) (c : UInt8) (w : World) (h : w.cell? ⟨b, 0, none⟩ = some (.int .u8 (c.toNat : Int))) :
 (convert 108 9 (.slice (some ⟨b, 0, none⟩) 1 cap)).run Tryz.prog w = .ok (.string (str [c])) w :=
 run_convert_bytes_back (P := Tryz.prog) w 108 9 5 ⟨b, 0, none⟩ cap [c] Tryz.underlying108 Tryz.underlying5 Tryz.underlying9 (fun j hj => by
  have : j = 0 := by simpa using hj
  subst this
  rw [Go.WideShapes.add_plain]; exact h)
theorem one_new (x : Int) (d : UInt8) (h : (d.toNat : Int) = x) (w : World) :
 (convert 108 9 (.slice (some ⟨w.heap.size, 0, none⟩) 1 1)).run Tryz.prog (w.alloc (.cells #[.int .u8 x] 5)) = .ok (.string (str [d])) (w.alloc (.cells #[.int .u8 x] 5)) :=
 one_any _ 1 d _ (by rw [World.cell?_alloc_at _ _ _ _ rfl, h]; rfl)
end StrC
end
section
open Go.RowKit
namespace VerC
open VerM StrC
theorem all_succ (p : UInt8 → Bool) (l : List UInt8) (k : Nat) (h : k < l.length) : (l.take (k + 1)).all p = ((l.take k).all p && p (l.getD k 0)) := by
 rw [List.take_add_one, List.all_append]; simp [h]
theorem all_not (p : UInt8 → Bool) (l : List UInt8) (k : Nat) (h : (l.take k).all p = false) : l.all p = false := by
 rw [← List.take_append_drop k l, List.all_append, h]; rfl
theorem zbu : ∀ k n, n < 10 ^ (k + 1) → (Lib.decDigits n).length ≤ k + 1
 | 0, n, h => by rw [Lib.decDigits, dif_pos (by simpa using h)]; simp
 | k + 1, n, h => by
   rw [Lib.decDigits]
   split
   · simp
   · have := zbu k (n / 10) (by rw [Nat.pow_succ] at h; omega)
     simp; omega
theorem zbv {l : B} (h1 : 1 < l.length) : padded l = decide ((l.getD 0 0).toNat = 48) := by unfold padded; rw [decide_eq_true h1, Bool.true_and]
end VerC
end
section
open Go.RowKit
namespace VerC
open VerM StrC
structure Gr (w w' : World) : Prop where
 below : Below w.heap.size w w'
 drawn : w.drawn ≤ w'.drawn
theorem Gr.refl (w : World) : Gr w w := ⟨Below.refl _ _, Nat.le_refl _⟩
theorem Gr.trans {a b c : World} (h : Gr a b) (k : Gr b c) : Gr a c := ⟨chain (Nat.le_refl _) h.below k.below, Nat.le_trans h.drawn k.drawn⟩
theorem Gr.alloc {w w' : World} (h : Gr w w') (o : Obj) : Gr w (w'.alloc o) := ⟨h.below.alloc h.below.size o, h.drawn⟩
theorem Gr.drew {w w' : World} (h : Gr w w') : Gr w w'.drew := ⟨⟨h.below.os, h.below.tape, h.below.output, h.below.size, h.below.block⟩, Nat.le_trans h.drawn (Nat.le_succ _)⟩
theorem Gr.drewN {w w' : World} (h : Gr w w') (n : Nat) : Gr w (w'.drewN n) := ⟨⟨h.below.os, h.below.tape, h.below.output, h.below.size, h.below.block⟩, Nat.le_trans h.drawn (Nat.le_add_right _ _)⟩
theorem Gr.set {w w' : World} (h : Gr w w') (b j : Nat) (v : Value) (hb : w.heap.size ≤ b) : Gr w (w'.setCell ⟨b, j, none⟩ v) :=
 ⟨⟨h.below.os, h.below.tape, h.below.output, by simpa using h.below.size, fun k hk => by rw [Below.heap_setCell w' ⟨b, j, none⟩ v k (by show k ≠ b; omega)]; exact h.below.block k hk⟩, h.drawn⟩
theorem Gr.grow {w w' : World} (h : Gr w w') : ∃ n os, w' = Sort.grow (w.drewN n) os := by
 refine ⟨w'.drawn - w.drawn, w'.heap.extract w.heap.size w'.heap.size, ?_⟩
 have e : w'.heap = w.heap ++ w'.heap.extract w.heap.size w'.heap.size := by
  apply Array.ext_getElem?
  intro i
  by_cases hi : i < w.heap.size
  · rw [Array.getElem?_append_left hi]; exact h.below.block i hi
  · rw [Array.getElem?_append_right (by omega), Array.getElem?_extract]
    by_cases h2 : i < w'.heap.size
    · rw [if_pos (by omega)]; congr 1; omega
    · rw [if_neg (by omega)]; simp; omega
 have hd := h.drawn
 cases w' with
 | mk heap tape drawn os output =>
   cases w with
   | mk heap0 tape0 drawn0 os0 output0 =>
     have h1 := h.below.os
     have h2 := h.below.tape
     have h3 := h.below.output
     simp only at h1 h2 h3 e hd
     subst h1 h2 h3
     show _ = World.mk (heap0 ++ _) _ (drawn0 + _) _ _
     rw [← e, Nat.add_sub_cancel' hd]
     rfl
structure Txs (w : World) (a : Option Addr) (cap : Nat) (p : TL) : Prop where
 cap : p.length ≤ cap
 short : ∀ s ∈ p, s.length ≤ 9223372036854775807
 few : p.length ≤ 281474976710656
 cells : 0 < p.length → ∃ b o, a = some ⟨b, o, none⟩ ∧ ∀ i, i < p.length → w.cell? ⟨b, o + i, none⟩ = some (.string (str (p.getD i [])))
theorem Txs.gr {w w' : World} {a : Option Addr} {cap : Nat} {p : TL} (h : Txs w a cap p) (g : Below w.heap.size w w') : Txs w' a cap p := by
 refine ⟨h.cap, h.short, h.few, fun h0 => ?_⟩
 obtain ⟨b, o, e, hc⟩ := h.cells h0
 exact ⟨b, o, e, fun i hi => by rw [g.cell (World.block_lt_of_cell? _ _ (hc i hi))]; exact hc i hi⟩
theorem zbw {w : World} {b o : Nat} {v : Value} (O : Obj) (h : w.cell? ⟨b, o, none⟩ = some v) : (w.alloc O).cell? ⟨b, o, none⟩ = some v := by
 rw [World.cell?_alloc_old _ _ _ (Nat.ne_of_lt (World.block_lt_of_cell? _ _ h))]; exact h
theorem Txs.nil (w : World) (a : Option Addr) (cap : Nat) : Txs w a cap [] := ⟨Nat.zero_le _, fun s h => by simp at h, by simp, fun h => by simp at h⟩
theorem Txs.mem {w : World} {a : Option Addr} {cap : Nat} {p : TL} (h : Txs w a cap p) (i : Nat) (hi : i < p.length) : (p.getD i []).length ≤ 9223372036854775807 := by
 rw [List.getD_eq_getElem?_getD, List.getElem?_eq_getElem hi]; exact h.short _ (List.getElem_mem hi)
theorem tl_succ (p : B → Bool) (l : TL) (k : Nat) (h : k < l.length) : (l.take (k + 1)).all p = ((l.take k).all p && p (l.getD k [])) := by
 rw [List.take_add_one, List.all_append]; simp [h]
theorem tl_not (p : B → Bool) (l : TL) (k : Nat) (h : (l.take k).all p = false) : l.all p = false := by
 rw [← List.take_append_drop k l, List.all_append, h]; rfl
theorem may_not {v : Ver} (h : ¬ (v.a ≤ mx ∧ v.b ≤ mx ∧ v.c ≤ mx ∧ v.pre.length ≤ 8)) : may v = false := by
 unfold may
 have : (decide (v.a ≤ mx) && decide (v.b ≤ mx) && decide (v.c ≤ mx) && decide (v.pre.length ≤ 8)) = false := by
  rw [Bool.eq_false_iff]; intro e; simp only [Bool.and_eq_true, decide_eq_true_eq] at e; exact h ⟨e.1.1.1, e.1.1.2, e.1.2, e.2⟩
 rw [this]; rfl
theorem may_no {v : Ver} (h : v.pre.all ident = false) : may v = false := by unfold may; rw [h]; simp
theorem zbx {v : Ver} (h1 : v.a ≤ mx) (h2 : v.b ≤ mx) (h3 : v.c ≤ mx) (h4 : v.pre.length ≤ 8) (h : v.pre.all ident = true) : may v = true := by
 unfold may; rw [h, decide_eq_true h1, decide_eq_true h2, decide_eq_true h3, decide_eq_true h4]; rfl
end VerC
end
section
open Go.RowKit
namespace TextR
theorem info_text : (Tryz.prog.info? 9).map (fun i => (i.zero, i.size, i.bytes)) = some (some (.string ⟨#[]⟩), 1, 16) := by kernel_rfl
def OwnT (w : World) (B : Nat) (v : Value) (L : List ByteArray) : Prop := w.ownsRow B 9 1 v L.length (L.map Value.string)
theorem zby (s : ByteArray) : ∀ u ∈ [Value.string s], u.oneCell' = true := by
 intro u hu
 rw [List.mem_singleton] at hu
 subst hu
 rfl
theorem zbz (w : World) (v : Value) (t : TypeId) : ∀ j u, [v][j]? = some u → (w.alloc (.cells #[v] t)).cell? ((⟨w.heap.size, 0, none⟩ : Addr).add j) = some u := by
 intro j u hu
 match j with
 | 0 =>
   rw [Go.WideShapes.add_plain, World.cell?_alloc_at _ _ _ _ rfl]
   simpa using hu
 | j + 1 => simp at hu
theorem snoc {w : World} {B n : Nat} {v : Value} {L : List ByteArray} {s : ByteArray} (h : w.ownsRow B 9 1 v (n + 1) (L.map Value.string ++ [Value.string s])) (hn : n = L.length) : OwnT w B v (L ++ [s]) := by
 unfold OwnT
 rw [List.map_append, List.map_singleton, List.length_append, List.length_singleton, ← hn]
 exact h
theorem OwnT.open_ {w : World} {B : Nat} {v : Value} {L : List ByteArray} (h : OwnT w B v L) : ∃ a cp, v = .slice a L.length cp ∧ (0 < L.length → ∃ g, a = some ⟨g, 0, none⟩ ∧ B ≤ g ∧ g < w.heap.size ∧ ∀ i (hi : i < L.length), w.cell? ⟨g, i, none⟩ = some (.string L[i])) := by
 have h' : w.ownsRow B 9 1 v L.length (L.map Value.string) := h
 have hcs : ∀ g, v.ownBlock = some g → _ := fun g hg => h'.cells hg
 have hlt := h'.lt
 obtain ⟨_, ⟨rfl, h0⟩ | ⟨g, cp, cur, rfl, hg0, hblk, hle, hcm, hsz, htk⟩⟩ := h'
 · exact ⟨none, 0, by rw [h0], fun h => by omega⟩
 · refine ⟨_, cp, rfl, fun _ => ⟨g, rfl, hg0, (hlt g rfl).2, fun i hi => ?_⟩⟩
   have := hcs g rfl i (.string L[i]) (by simp [hi])
   rw [Go.WideShapes.add_plain, Nat.zero_add] at this
   exact this
end TextR
end
section
open Go.RowKit
namespace VerC
open VerM StrC TextR
theorem zca (p : TL) (k : Nat) (h : k < p.length) : preL (p.take (k + 1)) = (preL (p.take k) ++ (if k = 0 then [45] else [46])) ++ p.getD k [] := by
 match p, h with
 | x :: r, h =>
   cases k with
   | zero => simp [preL, Lib.join, List.intercalate]
   | succ k =>
     have hk : k < r.length := by simpa using h
     rw [List.take_succ_cons, List.take_succ_cons]
     show 45 :: Lib.join (x :: r.take (k + 1)) [46] = (45 :: Lib.join (x :: r.take k) [46] ++ _) ++ _
     rw [Lib.join_cons, Lib.join_cons, Lib.joinTail_take_succ [46] r k (r.getD k []) (by rw [List.getD_eq_getElem?_getD, List.getElem?_eq_getElem hk]; rfl)]
     simp
theorem zcb (p : TL) (n : Nat) (h : ∀ s ∈ p, s.length ≤ n) : ∀ k, k ≤ p.length → (preL (p.take k)).length ≤ (n + 1) * k
 | 0, _ => by simp [preL]
 | k + 1, hk => by
   have ih := zcb p n h k (by omega)
   rw [zca p k (by omega)]
   have : (p.getD k []).length ≤ n := by rw [List.getD_eq_getElem?_getD, List.getElem?_eq_getElem (by omega)]; exact h _ (List.getElem_mem (by omega))
   rw [Nat.mul_succ]
   split <;> simp at * <;> omega
theorem zcc {v : Ver} (h : may v = true) : v.a ≤ mx ∧ v.b ≤ mx ∧ v.c ≤ mx ∧ v.pre.length ≤ 8 ∧ ∀ s ∈ v.pre, ident s = true := by
 unfold may at h
 simp only [Bool.and_eq_true, decide_eq_true_eq] at h
 exact ⟨h.1.1.1.1, h.1.1.1.2, h.1.1.2, h.1.2, fun s hs => List.all_eq_true.1 h.2 s hs⟩
theorem zcd {s : B} (h : ident s = true) : 1 ≤ s.length ∧ s.length ≤ 16 := by
 unfold ident at h
 simp only [Bool.and_eq_true, decide_eq_true_eq] at h
 exact ⟨h.1.1.1, h.1.1.2⟩
theorem zce {n : Nat} (h : n ≤ mx) : (Lib.decDigits n).length ≤ 10 := zbu 9 n (by unfold mx at h; omega)
theorem wrap_u64 (n : Nat) (h : n ≤ 2147483647) : IntKind.u64.wrap (n : Int) = n := by simp [IntKind.wrap, IntKind.bits, IntKind.signed]; omega
end VerC
open Go.RowKit
namespace VerC
open VerM StrC TextR
theorem zcf : (Tryz.prog.info? 145).map (·.size) = some 4 := by kernel_rfl
theorem zcg (x y z : Int) (a : Option Addr) (n cap : Nat) : (#[Value.int .u32 x, .int .u32 y, .int .u32 z, .slice a n cap].all (·.oneCell')) = true := by simp [Value.oneCell']
abbrev verV (x y z : Int) (a : Option Addr) (n cap : Nat) : Value := .agg #[.int .u32 x, .int .u32 y, .int .u32 z, .slice a n cap]
abbrev verO (x y z : Int) (a : Option Addr) (n cap : Nat) : Obj := .cells #[.int .u32 x, .int .u32 y, .int .u32 z, .slice a n cap] 145
theorem zch {w : World} {g : Nat} {x y z : Int} {a : Option Addr} {n cap : Nat} (h : w.heap[g]? = some (verO x y z a n cap)) :
 w.cell? ⟨g, 0, none⟩ = some (.int .u32 x) ∧ w.cell? ⟨g, 1, none⟩ = some (.int .u32 y) ∧ w.cell? ⟨g, 2, none⟩ = some (.int .u32 z) ∧ w.cell? ⟨g, 3, none⟩ = some (.slice a n cap) := by
 refine ⟨?_, ?_, ?_, ?_⟩ <;> simp [World.cell?, h]
theorem zci {w : World} {g : Nat} {x y z : Int} {a : Option Addr} {n cap : Nat} (h : w.heap[g]? = some (verO x y z a n cap)) (j : Nat) (s : ByteArray) : w.cell? ⟨g, j, none⟩ ≠ some (.string s) := by
 obtain ⟨h0, h1, h2, h3⟩ := zch h
 match j with
 | 0 => rw [h0]; simp
 | 1 => rw [h1]; simp
 | 2 => rw [h2]; simp
 | 3 => rw [h3]; simp
 | j + 4 => simp [World.cell?, h]
def textE (v : Ver) : Ending := if zap v then .returned (.tuple #[.string (str (text v)), .int .i64 0]) else .returned (.tuple #[.string (str []), .int .i64 70])
theorem zcj {P : Program} {fn : Func} {p q : Tmp} {ty : TypeId} (h : fn.results = #[.cell p ty, .tmp q]) (tmps : Array Value) (w : World) (g : Nat) (t : TypeId) (cs : Array Value) (fr : Nat × Nat) (d : TypeDesc)
 (hp : tmps.getD p undef = .pointer (some ⟨g, 0, none⟩)) (hg : w.heap[g]? = some (.cells cs t fr))
 (hu : P.underlying ty = some d) (hd : (match d with | .struct _ | .array _ _ => true | _ => false) = true) (hi : (P.info? ty).map (·.size) = some cs.size) :
 (results fn tmps).run P w = .ok (.tuple #[.agg cs, tmps.getD q undef]) w := by
 have hp' : tmps[p]?.getD undef = .pointer (some ⟨g, 0, none⟩) := by simpa using hp
 simp [results, h, hp', asAddr, run_loadVar_row w g t ty cs fr d hg hu hd hi]
theorem zck {w : World} {g : Nat} {cs : Array Value} {t : TypeId} {fr : Nat × Nat} (h : w.heap[g]? = some (.cells cs t fr)) (i : Nat) (v : Value) : (w.setCell ⟨g, i, none⟩ v).heap[g]? = some (.cells (cs.setIfInBounds i v) t fr) := by
 unfold World.setCell
 simp [Array.getElem?_modify, h]
theorem zcl {w : World} {g k : Nat} (i : Nat) (v : Value) (h : k ≠ g) : (w.setCell ⟨g, i, none⟩ v).heap[k]? = w.heap[k]? := Below.heap_setCell w ⟨g, i, none⟩ v k h
theorem zcm {w : World} {g : Nat} {cs : Array Value} {t : TypeId} (h : w.heap[g]? = some (.cells cs t (0, 0))) (i : Nat) : w.frozen? ⟨g, i, none⟩ = false := by simp [World.frozen?, h]
def ReadE (l : B) (w : World) (e : Ending) : Prop := match readB l with
 | some v => ∃ a cap, e = .returned (.tuple #[verV v.a v.b v.c a v.pre.length cap, .int .i64 0]) ∧ Txs w a cap v.pre
 | none => e = .returned (.tuple #[verV 0 0 0 none 0 0, .int .i64 70])
theorem zcn {l : B} {w : World} (h : readB l = none) : ReadE l w (.returned (.tuple #[verV 0 0 0 none 0 0, .int .i64 70])) := by unfold ReadE; rw [h]
theorem zco {l : B} {w : World} {v : Ver} {a : Option Addr} {cap : Nat} (h : readB l = some v) (hT : Txs w a cap v.pre) : ReadE l w (.returned (.tuple #[verV v.a v.b v.c a v.pre.length cap, .int .i64 0])) := by unfold ReadE; rw [h]; exact ⟨a, cap, rfl, hT⟩
theorem zcp {l : B} (h : 128 < l.length) : readB l = none := by unfold readB; rw [if_neg (by omega)]
theorem zcq {l : B} (h : l.length ≤ 128) (hp : (pieces 46 (head l)).length ≠ 3) : readB l = none := by
 unfold readB
 rw [if_pos h]
 split
 · rename_i e; rw [e] at hp; exact absurd rfl hp
 · rfl
theorem zcr {l x y z : B} (h : l.length ≤ 128) (hp : pieces 46 (head l) = [x, y, z]) : readB l = readV x y z (ids l) := by unfold readB; rw [if_pos h, hp]
theorem zcs (l : B) : (head l).length ≤ l.length := by unfold head; exact (List.takeWhile_prefix _).length_le
end VerC
end
section
namespace VerM
def valF (acc : Nat) (s : B) : Nat := s.foldl (fun n c => 10 * n + (c.toNat - 48)) acc
theorem zct : ∀ (s : B) (acc : Nat), acc ≤ valF acc s
 | [], acc => Nat.le_refl _
 | c :: r, acc => by
   have := zct r (10 * acc + (c.toNat - 48))
   show acc ≤ valF (10 * acc + (c.toNat - 48)) r
   omega
theorem zcu : ∀ (l : B) (acc u : Nat), acc ≤ 4294967295 → (Lib.parseUintM 4294967295 acc l = .ok u ↔ l.all dig = true ∧ valF acc l ≤ 4294967295 ∧ u = valF acc l)
 | [], acc, u, h => by
   show Lib.NumEnd.ok acc = .ok u ↔ _
   constructor
   · intro e; cases e; exact ⟨rfl, h, rfl⟩
   · rintro ⟨_, _, e⟩; rw [e]; rfl
 | c :: r, acc, u, h => by
   rw [Lib.parseUintM, List.all_cons]
   by_cases hd : 48 ≤ c.toNat ∧ c.toNat ≤ 57
   · have hdc : dig c = true := by simp [dig, hd.1, hd.2]
     rw [if_pos hd, hdc, Bool.true_and, if_neg (by omega)]
     have e : valF acc (c :: r) = valF (acc * 10 + (c.toNat - 48)) r := by rw [Nat.mul_comm]; rfl
     rw [e]
     by_cases hm : 4294967295 < acc * 10 + (c.toNat - 48)
     · rw [if_pos hm]
       constructor
       · intro e; cases e
       · rintro ⟨_, h2, _⟩
         have := zct r (acc * 10 + (c.toNat - 48))
         omega
     · rw [if_neg hm]
       exact zcu r _ u (by omega)
   · have hdc : dig c = false := by
      unfold dig
      rw [Bool.and_eq_false_iff, decide_eq_false_iff_not, decide_eq_false_iff_not]
      omega
     rw [if_neg hd, hdc, Bool.false_and]
     constructor
     · intro e; cases e
     · rintro ⟨h1, _⟩; cases h1
theorem zcv (l : B) (u : Nat) : Lib.parseUintB 32 l = .ok u ↔ digs l = true ∧ val l ≤ 4294967295 ∧ u = val l := by
 unfold Lib.parseUintB digs
 by_cases h : l = []
 · rw [if_pos h]
   constructor
   · intro e; cases e
   · rintro ⟨h1, _⟩; rw [h] at h1; simp at h1
 · rw [if_neg h]
   have := zcu l 0 u (by omega)
   rw [show (2 : Nat) ^ 32 - 1 = 4294967295 from rfl, this]
   simp only [Bool.and_eq_true, decide_eq_true_eq, ne_eq, h, not_false_eq_true, and_true]
   rfl
def pnum (l : B) : Option Nat := match Lib.parseUintB 32 l with | .ok u => if padded l = true then none else some u | _ => none
theorem zcw {l : B} {u : Nat} (h : Lib.parseUintB 32 l = .ok u) : pnum l = if padded l = true then none else some u := by unfold pnum; rw [h]
theorem zcx {l : B} (h : ∀ u, Lib.parseUintB 32 l ≠ .ok u) : pnum l = none := by
 unfold pnum
 split
 · rename_i u e; exact absurd e (h u)
 · rfl
theorem zcy (l : B) : numb l = match pnum l with | some n => if n ≤ mx then some n else none | none => none := by
 cases hq : Lib.parseUintB 32 l with
 | ok u =>
   rw [zcw hq]
   obtain ⟨h1, h2, h3⟩ := (zcv l u).1 hq
   unfold numb
   rcases Bool.eq_false_or_eq_true (padded l) with hp | hp
   · rw [hp]; simp
   · rw [hp, h1]; simp [h3]
 | _ =>
   rw [zcx (fun u e => by rw [hq] at e; cases e)]
   unfold numb
   rw [if_neg]
   rintro ⟨h1, h2, h3⟩
   have := (zcv l (val l)).2 ⟨h1, by unfold mx at h3; omega, rfl⟩
   rw [hq] at this; cases this
theorem readV_p (x y z : B) (p : TL) : readV x y z p = match pnum x, pnum y, pnum z with | some a, some b, some c => if may ⟨a, b, c, p⟩ then some ⟨a, b, c, p⟩ else none | _, _, _ => none := by
 have hm : ∀ {a b c : Nat}, ¬ (a ≤ mx ∧ b ≤ mx ∧ c ≤ mx) → may ⟨a, b, c, p⟩ = false := by
  intro a b c h
  unfold may
  dsimp only
  rw [Bool.eq_false_iff]
  intro e
  simp only [Bool.and_eq_true, decide_eq_true_eq] at e
  exact h ⟨e.1.1.1.1, e.1.1.1.2, e.1.1.2⟩
 unfold readV
 rw [zcy x, zcy y, zcy z]
 cases pnum x with
 | none => rfl
 | some a =>
   cases pnum y with
   | none => by_cases ha : a ≤ mx <;> simp [ha]
   | some b =>
     cases pnum z with
     | none => by_cases ha : a ≤ mx <;> by_cases hb : b ≤ mx <;> simp [ha, hb]
     | some c =>
       by_cases ha : a ≤ mx
       · by_cases hb : b ≤ mx
         · by_cases hc : c ≤ mx
           · simp [ha, hb, hc]
           · simp [ha, hb, hc, hm (a := a) (b := b) (c := c) (fun h => hc h.2.2)]
         · simp [ha, hb, hm (a := a) (b := b) (c := c) (fun h => hb h.2.1)]
       · simp [ha, hm (a := a) (b := b) (c := c) (fun h => ha h.1)]
end VerM
end
end Go.Proofs.YtfbegbmjmhnplaaGreatDoor
