/-
  The calls of layer 3 as the document has them, over a list of files. It names nothing of the program.
-/
import Derived.Test.YtfbdhlpgklkjmaaGreatDoorDiskMath
namespace Go.Proofs.YtfbdhlpgklkjmaaGreatDoor
namespace DiskC
open DiskM

theorem take_len (name : ByteArray) (fs : FL) : (takeF name fs).length ≤ fs.length := by
  unfold takeF
  split
  · rw [List.length_eraseIdx]; split <;> omega
  · exact Nat.le_refl _
def mayB (name : ByteArray) : Bool := decide (1 ≤ name.size) && decide (name.size ≤ 128)
/-- what a disk may be, that no number is beyond its kind -/
structure Fit (s : DS) : Prop where
  len : s.fs.length ≤ 65536
  size : ∀ f ∈ s.fs, f.2.size ≤ 16777216
  count : s.count ≤ 549755813888
theorem Fit.bytes {s : DS} (h : Fit s) (n : ByteArray) : (bytesF n s.fs).size ≤ 16777216 := by
  unfold bytesF
  split
  · rename_i hh
    have hlt := hasF_lt hh
    have e : s.fs.getD (fnd n s.fs) (⟨#[]⟩, ⟨#[]⟩) = s.fs[fnd n s.fs] := by simp [hlt]
    rw [e]
    exact h.size _ (List.getElem_mem hlt)
  · show 0 ≤ _; omega
def appendS (cut : Int) (name x : ByteArray) (s : DS) : Nat × DS :=
  if mayB name = false then (2, s) else if s.dead = true then (5, s)
  else if 16777216 < (bytesF name s.fs).size + x.size ∨ (hasF name s.fs = false ∧ 65536 ≤ s.fs.length) then (4, s)
  else (code5 (addsR cut name x s).1, (addsR cut name x s).2)
def putS (cut : Int) (name x : ByteArray) (s : DS) : Nat × DS :=
  if mayB name = false then (2, s) else if s.dead = true then (5, s)
  else if 16777216 < x.size ∨ (hasF name s.fs = false ∧ 65536 ≤ s.fs.length) then (4, s)
  else if rawB cut s.count s.dead = false then (5, ⟨s.fs, s.count, true⟩)
  else if x.size = 0 then (0, ⟨layF name ⟨#[]⟩ s.fs, s.count + 1, s.dead⟩)
  else (code5 (addsR cut name x ⟨layF name ⟨#[]⟩ s.fs, s.count + 1, s.dead⟩).1, (addsR cut name x ⟨layF name ⟨#[]⟩ s.fs, s.count + 1, s.dead⟩).2)
def removeS (cut : Int) (name : ByteArray) (s : DS) : Nat × DS :=
  if mayB name = false then (2, s) else if s.dead = true then (5, s) else if hasF name s.fs = false then (6, s)
  else if rawB cut s.count s.dead = false then (5, ⟨s.fs, s.count, true⟩) else (0, ⟨takeF name s.fs, s.count + 1, s.dead⟩)
def truncS (cut : Int) (name : ByteArray) (n : Int) (s : DS) : Nat × DS :=
  if mayB name = false then (2, s) else if s.dead = true then (5, s) else if hasF name s.fs = false then (6, s)
  else if n < 0 ∨ ((bytesF name s.fs).size : Int) < n then (2, s)
  else if rawB cut s.count s.dead = false then (5, ⟨s.fs, s.count, true⟩) else (0, ⟨layF name ((bytesF name s.fs).extract 0 n.toNat) s.fs, s.count + 1, s.dead⟩)
def readS (name : ByteArray) (s : DS) : ByteArray × Nat :=
  if mayB name = false then (⟨#[]⟩, 2) else if s.dead = true then (⟨#[]⟩, 5) else if hasF name s.fs = false then (⟨#[]⟩, 6) else (bytesF name s.fs, 0)
def renameS (cut : Int) (src dst : ByteArray) (s : DS) : Nat × ByteArray × DS :=
  if mayB src = false then (2, src, s) else if mayB dst = false then (2, dst, s) else if s.dead = true then (5, src, s) else if hasF src s.fs = false then (6, src, s)
  else if rawB cut s.count s.dead = false then (5, src, ⟨s.fs, s.count, true⟩) else (0, ⟨#[]⟩, ⟨layF dst (bytesF src s.fs) (takeF src s.fs), s.count + 1, s.dead⟩)
/-- the names that are told -/
def namesS (s : DS) : List ByteArray := if s.dead = true then [] else s.fs.map (·.1)
end DiskC
end Go.Proofs.YtfbdhlpgklkjmaaGreatDoor
