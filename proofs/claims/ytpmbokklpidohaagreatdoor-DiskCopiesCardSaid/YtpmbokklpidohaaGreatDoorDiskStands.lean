/-
  How both disks stand: the same names, the same texts.
-/
import Derived.Test.YtpmbokklpidohaaGreatDoorDiskDoes2
namespace Go.Proofs.YtpmbokklpidohaaGreatDoor
open Go.RowKit
namespace DiskC
open DiskM ErrC

theorem below_drew (w : World) (q : Nat) : Below w.heap.size w (w.drewN q).drew := ⟨rfl, rfl, rfl, Nat.le_refl _, fun _ _ => rfl⟩
theorem DErr.below {w w1 w2 : World} {ev : Value} {c : Nat} {t : ByteArray} (h : DErr w w1 ev c t) (hb : Below w1.heap.size w1 w2) : DErr w w2 ev c t :=
  h.keeps (Keeps.of_below (S := fun _ => False) hb) (fun _ h => h.elim)
theorem read_code (name : ByteArray) (s : DS) : (readS name s).2 ≤ 6 := by
  unfold readS
  repeat' split
  all_goals simp
end DiskC
end Go.Proofs.YtpmbokklpidohaaGreatDoor
