/-
  The bytes of a text in new memory, and the text of a row of bytes of which one was written.
-/
import Derived.Test.YtpmbokklpidohaaDoorChecked
import Derived.WalkKit
import Derived.Lib.Hide
import Derived.Laws.IdiomStrings
namespace Go.Proofs.YtpmbokklpidohaaDoor
open Go.RowKit
namespace SumC

/-- '[]byte(s)': new memory that holds the bytes -/
theorem bytes_new (s : ByteArray) (w : World) : ∃ cap w1, (convert 9 32 (.string s)).run Tryd.prog w = .ok (.slice (some ⟨w.heap.size, 0, none⟩) s.size cap) w1 ∧
    (∀ j (h : j < s.size), w1.cell? ⟨w.heap.size, j, none⟩ = some (.int .u8 (s[j].toNat : Int))) ∧ (∀ j, j < s.size → w1.frozen? ⟨w.heap.size, j, none⟩ = false) ∧ Below w.heap.size w w1 := by
  refine ⟨_, _, run_bytes_of_string w 9 32 5 s Tryd.underlying9 Tryd.underlying32 Tryd.underlying5, ?_, ?_, ?_⟩
  · intro j h
    have e := World.cell?_alloc_mark w.drew (bytesRow s (grownCap w s.size 0 5)) 5 ((bytesRow s (grownCap w s.size 0 5)).size, (bytesRow s (grownCap w s.size 0 5)).size + 1) j
    exact e.trans (bytesRow_at s _ j h)
  · intro j h
    have e := World.frozen?_alloc_mark w.drew (bytesRow s (grownCap w s.size 0 5)) 5 (bytesRow s (grownCap w s.size 0 5)).size ((bytesRow s (grownCap w s.size 0 5)).size + 1) j
    refine e.trans ?_
    have hs : s.size ≤ (bytesRow s (grownCap w s.size 0 5)).size := by simp [bytesRow]
    rw [decide_eq_false (by omega)]; rfl
  · exact ((Below.refl w.heap.size w).drew).alloc (Nat.le_refl _) _

/-- 'string(b)' behind the store of one byte -/
theorem bytes_back (s : ByteArray) (B cap i : Nat) (w1 : World) (c : UInt8) (hi : i < s.size) (hc : ∀ j (h : j < s.size), w1.cell? ⟨B, j, none⟩ = some (.int .u8 (s[j].toNat : Int))) :
    (convert 32 9 (.slice (some ⟨B, 0, none⟩) s.size cap)).run Tryd.prog (w1.setCell ⟨B, i, none⟩ (.int .u8 (c.toNat : Int))) = .ok (.string ⟨(s.data.toList.set i c).toArray⟩) (w1.setCell ⟨B, i, none⟩ (.int .u8 (c.toNat : Int))) := by
  have hl : (s.data.toList.set i c).length = s.size := by simp
  have h := run_convert_bytes_back (P := Tryd.prog) (w1.setCell ⟨B, i, none⟩ (.int .u8 (c.toNat : Int))) 32 9 5 ⟨B, 0, none⟩ cap (s.data.toList.set i c) Tryd.underlying32 Tryd.underlying5 Tryd.underlying9 (fun j hj => by
    rw [Go.WideShapes.add_plain, Nat.zero_add]
    have hj' : j < s.size := by rw [hl] at hj; exact hj
    by_cases e : j = i
    · subst e
      rw [World.cell?_setCell_same _ _ _ (hc j hj')]
      simp
    · rw [World.cell?_setCell_other _ _ _ _ (fun h => e (by cases h; rfl)), hc j hj']
      rw [List.getElem_set_ne (by omega)]
      rfl)
  rw [hl] at h
  exact h

end SumC
end Go.Proofs.YtpmbokklpidohaaDoor
