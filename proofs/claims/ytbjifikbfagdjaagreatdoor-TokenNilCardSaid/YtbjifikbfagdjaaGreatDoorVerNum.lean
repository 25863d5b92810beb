/-
  Versions' numbers as package strconv reads them; what a text says, by them.
-/
import Derived.Test.YtbjifikbfagdjaaGreatDoorVerOrd
import Derived.Lib.ParseIntBCases
namespace Go.Proofs.YtbjifikbfagdjaaGreatDoor
namespace VerM
/-- the number of digits behind a number -/
def valF (acc : Nat) (s : B) : Nat := s.foldl (fun n c => 10 * n + (c.toNat - 48)) acc
theorem valF_ge : ∀ (s : B) (acc : Nat), acc ≤ valF acc s
  | [], acc => Nat.le_refl _
  | c :: r, acc => by
    have := valF_ge r (10 * acc + (c.toNat - 48))
    show acc ≤ valF (10 * acc + (c.toNat - 48)) r
    omega
theorem parseM_ok : ∀ (l : B) (acc u : Nat), acc ≤ 4294967295 → (Lib.parseUintM 4294967295 acc l = .ok u ↔ l.all dig = true ∧ valF acc l ≤ 4294967295 ∧ u = valF acc l)
  | [], acc, u, h => by
    show Lib.NumEnd.ok acc = .ok u ↔ _
    constructor
    · intro e; cases e; exact ⟨rfl, h, rfl⟩
    · rintro ⟨_, _, e⟩; rw [e]; rfl
  | c :: r, acc, u, h => by
    rw [Lib.parseUintM, List.all_cons]
    by_cases hd : 48 ≤ c.toNat ∧ c.toNat ≤ 57
    · have hdc : dig c = true := by simp [dig, hd.1, hd.2]
      rw [if_pos hd, hdc, Bool.true_and, if_neg (by omega)]
      have e : valF acc (c :: r) = valF (acc * 10 + (c.toNat - 48)) r := by rw [Nat.mul_comm]; rfl
      rw [e]
      by_cases hm : 4294967295 < acc * 10 + (c.toNat - 48)
      · rw [if_pos hm]
        constructor
        · intro e; cases e
        · rintro ⟨_, h2, _⟩
          have := valF_ge r (acc * 10 + (c.toNat - 48))
          omega
      · rw [if_neg hm]
        exact parseM_ok r _ u (by omega)
    · have hdc : dig c = false := by
        unfold dig
        rw [Bool.and_eq_false_iff, decide_eq_false_iff_not, decide_eq_false_iff_not]
        omega
      rw [if_neg hd, hdc, Bool.false_and]
      constructor
      · intro e; cases e
      · rintro ⟨h1, _⟩; cases h1
theorem parseB_ok (l : B) (u : Nat) : Lib.parseUintB 32 l = .ok u ↔ digs l = true ∧ val l ≤ 4294967295 ∧ u = val l := by
  unfold Lib.parseUintB digs
  by_cases h : l = []
  · rw [if_pos h]
    constructor
    · intro e; cases e
    · rintro ⟨h1, _⟩; rw [h] at h1; simp at h1
  · rw [if_neg h]
    have := parseM_ok l 0 u (by omega)
    rw [show (2 : Nat) ^ 32 - 1 = 4294967295 from rfl, this]
    simp only [Bool.and_eq_true, decide_eq_true_eq, ne_eq, h, not_false_eq_true, and_true]
    rfl
/-- the number that a program reads: it may still be too great -/
def pnum (l : B) : Option Nat := match Lib.parseUintB 32 l with | .ok u => if padded l = true then none else some u | _ => none
theorem pnum_ok {l : B} {u : Nat} (h : Lib.parseUintB 32 l = .ok u) : pnum l = if padded l = true then none else some u := by unfold pnum; rw [h]
theorem pnum_no {l : B} (h : ∀ u, Lib.parseUintB 32 l ≠ .ok u) : pnum l = none := by
  unfold pnum
  split
  · rename_i u e; exact absurd e (h u)
  · rfl
theorem numb_pnum (l : B) : numb l = match pnum l with | some n => if n ≤ mx then some n else none | none => none := by
  cases hq : Lib.parseUintB 32 l with
  | ok u =>
    rw [pnum_ok hq]
    obtain ⟨h1, h2, h3⟩ := (parseB_ok l u).1 hq
    unfold numb
    rcases Bool.eq_false_or_eq_true (padded l) with hp | hp
    · rw [hp]; simp
    · rw [hp, h1]; simp [h3]
  | _ =>
    rw [pnum_no (fun u e => by rw [hq] at e; cases e)]
    unfold numb
    rw [if_neg]
    rintro ⟨h1, h2, h3⟩
    have := (parseB_ok l (val l)).2 ⟨h1, by unfold mx at h3; omega, rfl⟩
    rw [hq] at this; cases this
theorem readV_p (x y z : B) (p : TL) : readV x y z p = match pnum x, pnum y, pnum z with | some a, some b, some c => if may ⟨a, b, c, p⟩ then some ⟨a, b, c, p⟩ else none | _, _, _ => none := by
  have hm : ∀ {a b c : Nat}, ¬ (a ≤ mx ∧ b ≤ mx ∧ c ≤ mx) → may ⟨a, b, c, p⟩ = false := by
    intro a b c h
    unfold may
    dsimp only
    rw [Bool.eq_false_iff]
    intro e
    simp only [Bool.and_eq_true, decide_eq_true_eq] at e
    exact h ⟨e.1.1.1.1, e.1.1.1.2, e.1.1.2⟩
  unfold readV
  rw [numb_pnum x, numb_pnum y, numb_pnum z]
  cases pnum x with
  | none => rfl
  | some a =>
    cases pnum y with
    | none => by_cases ha : a ≤ mx <;> simp [ha]
    | some b =>
      cases pnum z with
      | none => by_cases ha : a ≤ mx <;> by_cases hb : b ≤ mx <;> simp [ha, hb]
      | some c =>
        by_cases ha : a ≤ mx
        · by_cases hb : b ≤ mx
          · by_cases hc : c ≤ mx
            · simp [ha, hb, hc]
            · simp [ha, hb, hc, hm (a := a) (b := b) (c := c) (fun h => hc h.2.2)]
          · simp [ha, hb, hm (a := a) (b := b) (c := c) (fun h => hb h.2.1)]
        · simp [ha, hm (a := a) (b := b) (c := c) (fun h => ha h.1)]
theorem pnum_le {l : B} {n : Nat} (h : pnum l = some n) : n ≤ 4294967295 := by
  unfold pnum at h
  split at h
  · rename_i u e
    have := ((parseB_ok l u).1 e)
    split at h
    · cases h
    · cases h; omega
  · cases h
end VerM
end Go.Proofs.YtbjifikbfagdjaaGreatDoor
