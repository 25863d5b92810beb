/-
  A slice's texts at a plain address.
-/
import Derived.Test.YtinoghanlokenaaGreatDoorChecked
import Derived.WalkKit
namespace Go.Proofs.YtinoghanlokenaaGreatDoor
open Go.RowKit
namespace CodeC
theorem block_of {w : World} {b o : Nat} {v : Value} (h : w.cell? ⟨b, o, none⟩ = some v) : b < w.heap.size := World.block_lt_of_cell? _ _ h
/-- a slice's texts at a plain address, where there is one at all -/
theorem texts_plain {w : World} {a : Addr} {zs : List ByteArray} (h : ∀ i, i < zs.length → w.cell? (a.add i) = some (.string (zs.getD i ByteArray.empty))) (hp : 0 < zs.length) :
    ∃ b off, a = ⟨b, off, none⟩ ∧ b < w.heap.size ∧ ∀ j, j < zs.length → w.cell? ⟨b, off + j, none⟩ = some (.string (zs.getD j ByteArray.empty)) := by
  obtain ⟨b, off, spot⟩ := a
  have hspot : spot = none := by simpa [Addr.add] using World.cell?_spot (h 0 hp)
  subst hspot
  exact ⟨b, off, rfl, block_of (by simpa [Addr.add] using h 0 hp), fun j hj => by rw [← Go.WideShapes.add_plain]; exact h j hj⟩
theorem text_le {zs : List ByteArray} (h : ∀ s ∈ zs, s.size ≤ maxLen) (i : Nat) (hi : i < zs.length) : (zs.getD i ByteArray.empty).size ≤ maxLen := by
  simpa [hi] using h zs[i] (List.getElem_mem hi)
end CodeC
end Go.Proofs.YtinoghanlokenaaGreatDoor
