/-
  The document's own word of eight bytes, and bytes as texts.
-/
import Derived.Test.YtnkednjklfpblaaGreatDoorChecked
import Derived.Test.YtnkednjklfpblaaGreatDoorCodeMath
import Derived.WalkKit
import Derived.Lib.Hide
import Derived.Laws.BytesArg
import Derived.WalkSmall
namespace Go.Proofs.YtnkednjklfpblaaGreatDoor
open Go.RowKit
namespace CodeC
open CodeM

theorem nums_text (l : List UInt8) : strOfNums (l.map fun c => (c.toNat : Int)) = ⟨l.toArray⟩ := by
  apply ByteArray.ext
  apply Array.toList_inj.1
  rw [strOfNums_data, List.map_map]
  show _ = l
  conv => rhs; rw [← List.map_id l]
  apply List.map_congr_left
  intro c _
  simp
theorem shift8 (x k : Nat) : x / 2 ^ (8 * k) = x / 256 ^ k := by rw [Nat.pow_mul]
theorem shift_cast (x k : Nat) : ((x : Int) / 2 ^ (8 * k) % 256) = ((x / 256 ^ k % 256 : Nat) : Int) := by
  rw [← shift8]; simp
theorem str_add (l : List UInt8) (s : ByteArray) : (⟨l.toArray⟩ : ByteArray) ++ s = ⟨(l ++ s.data.toList).toArray⟩ := by
  apply ByteArray.ext
  simp
end CodeC
end Go.Proofs.YtnkednjklfpblaaGreatDoor
