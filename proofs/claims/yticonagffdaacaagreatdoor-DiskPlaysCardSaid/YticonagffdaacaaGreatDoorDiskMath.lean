/-
  The plain mathematics of layer 3: files in a list, rising by name; raw writes one by one. It names nothing of the program.
-/
import Derived.WalkKit
namespace Go.Proofs.YticonagffdaacaaGreatDoor.DiskM

abbrev FL := List (ByteArray × ByteArray)
def fle (name : ByteArray) (f : ByteArray × ByteArray) : Bool := !(Op.bytesLess f.1.toList name.toList)
/-- the place of a file, or where it would stand -/
def fnd (name : ByteArray) : FL → Nat
  | [] => 0
  | f :: r => if fle name f then 0 else fnd name r + 1
def hasF (name : ByteArray) (fs : FL) : Bool :=
  match fs[fnd name fs]? with
  | some f => f.1.toList == name.toList
  | none => false
def bytesF (name : ByteArray) (fs : FL) : ByteArray :=
  if hasF name fs then (fs.getD (fnd name fs) (⟨#[]⟩, ⟨#[]⟩)).2 else ⟨#[]⟩
def layF (name bytes : ByteArray) (fs : FL) : FL :=
  if hasF name fs then fs.set (fnd name fs) ((fs.getD (fnd name fs) (⟨#[]⟩, ⟨#[]⟩)).1, bytes) else fs.take (fnd name fs) ++ (name, bytes) :: fs.drop (fnd name fs)
def takeF (name : ByteArray) (fs : FL) : FL := if hasF name fs then fs.eraseIdx (fnd name fs) else fs
theorem fnd_le (name : ByteArray) : ∀ fs : FL, fnd name fs ≤ fs.length
  | [] => Nat.le_refl _
  | f :: r => by have := fnd_le name r; unfold fnd; split <;> simp <;> omega
theorem hasF_lt {name : ByteArray} {fs : FL} (h : hasF name fs = true) : fnd name fs < fs.length := by
  unfold hasF at h
  split at h
  · rename_i f hf; exact (List.getElem?_eq_some_iff.1 hf).1
  · cases h
/-- at the place i nothing ahead is at or behind the name -/
def Ahead (name : ByteArray) (fs : FL) (i : Nat) : Prop := fnd name fs = i + fnd name (fs.drop i)
theorem ahead_zero (name : ByteArray) (fs : FL) : Ahead name fs 0 := by simp [Ahead]
theorem ahead_next {name : ByteArray} {fs : FL} {i : Nat} (h : Ahead name fs i) (hi : i < fs.length) (hf : fle name fs[i] = false) : Ahead name fs (i + 1) := by
  unfold Ahead at h ⊢
  rw [h, List.drop_eq_getElem_cons hi]
  simp [fnd, hf]
  omega
theorem ahead_here {name : ByteArray} {fs : FL} {i : Nat} (h : Ahead name fs i) (hi : i < fs.length) (hf : fle name fs[i] = true) : fnd name fs = i ∧ hasF name fs = (fs[i].1.toList == name.toList) := by
  have e : fnd name fs = i := by
    unfold Ahead at h
    rw [h, List.drop_eq_getElem_cons hi]
    simp [fnd, hf]
  refine ⟨e, ?_⟩
  unfold hasF
  rw [e, List.getElem?_eq_getElem hi]
theorem ahead_end {name : ByteArray} {fs : FL} {i : Nat} (h : Ahead name fs i) (hi : fs.length ≤ i) (hl : i ≤ fs.length) : fnd name fs = fs.length ∧ hasF name fs = false := by
  have e : fnd name fs = fs.length := by
    unfold Ahead at h
    rw [h, List.drop_of_length_le hi]
    simp [fnd]
    omega
  refine ⟨e, ?_⟩
  unfold hasF
  rw [e]
  simp

/-- a row of files, cell by cell -/
def flatF : FL → List Value
  | [] => []
  | f :: r => .string f.1 :: .string f.2 :: flatF r
theorem flatF_length : ∀ fs : FL, (flatF fs).length = fs.length * 2
  | [] => rfl
  | f :: r => by have := flatF_length r; simp [flatF]; omega
theorem flatF_append : ∀ (a b : FL), flatF (a ++ b) = flatF a ++ flatF b
  | [], _ => rfl
  | f :: a, b => by simp [flatF, flatF_append a b]
theorem flatF_name : ∀ (fs : FL) (i : Nat) (h : i < fs.length), (flatF fs)[i * 2]? = some (.string fs[i].1)
  | f :: r, 0, _ => rfl
  | f :: r, i + 1, h => by
    rw [show (i + 1) * 2 = i * 2 + 2 by omega]
    simpa [flatF] using flatF_name r i (by simpa using h)
theorem flatF_bytes : ∀ (fs : FL) (i : Nat) (h : i < fs.length), (flatF fs)[i * 2 + 1]? = some (.string fs[i].2)
  | f :: r, 0, _ => rfl
  | f :: r, i + 1, h => by
    rw [show (i + 1) * 2 + 1 = i * 2 + 1 + 2 by omega]
    simpa [flatF] using flatF_bytes r i (by simpa using h)
theorem flatF_set_bytes : ∀ (fs : FL) (i : Nat) (h : i < fs.length) (x : ByteArray), (flatF fs).set (i * 2 + 1) (.string x) = flatF (fs.set i (fs[i].1, x))
  | f :: r, 0, _, _ => rfl
  | f :: r, i + 1, h, x => by
    rw [show (i + 1) * 2 + 1 = (i * 2 + 1) + 1 + 1 by omega]
    have := flatF_set_bytes r i (by simpa using h) x
    simpa [flatF] using this
theorem flatF_set : ∀ (fs : FL) (i : Nat) (_ : i < fs.length) (x y : ByteArray), ((flatF fs).set (i * 2) (.string x)).set (i * 2 + 1) (.string y) = flatF (fs.set i (x, y))
  | f :: r, 0, _, _, _ => rfl
  | f :: r, i + 1, h, x, y => by
    rw [show (i + 1) * 2 + 1 = (i * 2 + 1) + 1 + 1 by omega, show (i + 1) * 2 = i * 2 + 1 + 1 by omega]
    have := flatF_set r i (by simpa using h) x y
    simpa [flatF] using this
end Go.Proofs.YticonagffdaacaaGreatDoor.DiskM
