/-
  The document's own answers for layer 6: letter, May, form, Norm, Is, Squash, Same, Like, Reserved, Holder: one contract a function.
-/
import Derived.Test.YtnkednjklfpblaaGreatDoorNameMath
import Derived.Test.YtnkednjklfpblaaGreatDoorStrB
namespace Go.Proofs.YtnkednjklfpblaaGreatDoor
open Go.RowKit
namespace NameC
open NameM StrC
set_option linter.unusedSimpArgs false


/-- all bytes of the first k may stand in a name -/
theorem all_succ (p : UInt8 → Bool) (l : List UInt8) (k : Nat) (h : k < l.length) : (l.take (k + 1)).all p = ((l.take k).all p && p (l.getD k 0)) := by
  rw [List.take_add_one, List.all_append]; simp [h]


theorem all_not (p : UInt8 → Bool) (l : List UInt8) (k : Nat) (h : (l.take k).all p = false) : l.all p = false := by
  rw [← List.take_append_drop k l, List.all_append, h]; rfl
theorem st_pair (s l : List UInt8) (k : Nat) (h : k < l.length) (hc : letter (l.getD k 0) = true) : (st s (l.take (k + 1))).1 = (st s (l.take k)).1 ++ (if (st s (l.take k)).2 then s else []) ++ [low (l.getD k 0)] ∧ (st s (l.take (k + 1))).2 = false := by
  rw [st_succ s l k h]; unfold NameM.step; rw [if_pos hc]; exact ⟨rfl, rfl⟩
theorem st_pair' (s l : List UInt8) (k : Nat) (h : k < l.length) (hc : letter (l.getD k 0) = false) : (st s (l.take (k + 1))).1 = (st s (l.take k)).1 ∧ (st s (l.take (k + 1))).2 = true := by
  rw [st_succ s l k h]; unfold NameM.step; rw [if_neg (by rw [hc]; decide)]; exact ⟨rfl, rfl⟩
theorem st_bound (s l : List UInt8) (k : Nat) (hs : s.length ≤ 1) (h : k ≤ l.length) : (st s (l.take k)).1.length ≤ k := by
  have := st_length s (l.take k) hs
  rw [List.length_take] at this
  omega
/-- the small letter of a letter, as the byte is told -/
theorem low_int (c : UInt8) : ((low c).toNat : Int) = if 65 ≤ c.toNat ∧ c.toNat ≤ 90 then (c.toNat : Int) + 32 else c.toNat := by
  rw [low_nat]; split <;> simp

theorem may_len {l : List UInt8} (h : may l = true) : l.length ≤ 64 := (may_iff.1 h).2.1
theorem norm_len (l : List UInt8) : (norm l).length ≤ 64 := by
  unfold norm
  split
  · rename_i h; exact Nat.le_trans (formD_length _ _ (by decide)) (may_len h)
  · simp
theorem squash_len (l : List UInt8) : (squash l).length ≤ 64 := by
  unfold squash
  split
  · rename_i h; exact Nat.le_trans (formD_length _ _ (by decide)) (may_len h)
  · simp

/-- an 'if' between what a loop and what a test says -/
theorem bool_eq (p : Prop) [Decidable p] (b : Bool) (h : p ↔ b = true) : decide p = b := by cases b <;> simp_all

end NameC
end Go.Proofs.YtnkednjklfpblaaGreatDoor
