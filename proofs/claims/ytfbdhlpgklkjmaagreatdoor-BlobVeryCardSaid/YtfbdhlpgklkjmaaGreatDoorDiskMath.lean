/-
  The plain mathematics of layer 3: files in a list, rising by name; raw writes one by one. It names nothing of the program.
  The plain mathematics of layer 3, more: what is laid is found; pieces, one by one; the calls. It names nothing of the program.
-/
import Derived.WalkKit
import Derived.Lib.IndexBytes
namespace Go.Proofs.YtfbdhlpgklkjmaaGreatDoor.DiskM

abbrev FL := List (ByteArray × ByteArray)
def fle (name : ByteArray) (f : ByteArray × ByteArray) : Bool := !(Op.bytesLess f.1.toList name.toList)
/-- the place of a file, or where it would stand -/
def fnd (name : ByteArray) : FL → Nat
  | [] => 0
  | f :: r => if fle name f then 0 else fnd name r + 1
def hasF (name : ByteArray) (fs : FL) : Bool :=
  match fs[fnd name fs]? with
  | some f => f.1.toList == name.toList
  | none => false
def bytesF (name : ByteArray) (fs : FL) : ByteArray :=
  if hasF name fs then (fs.getD (fnd name fs) (⟨#[]⟩, ⟨#[]⟩)).2 else ⟨#[]⟩
def layF (name bytes : ByteArray) (fs : FL) : FL :=
  if hasF name fs then fs.set (fnd name fs) ((fs.getD (fnd name fs) (⟨#[]⟩, ⟨#[]⟩)).1, bytes) else fs.take (fnd name fs) ++ (name, bytes) :: fs.drop (fnd name fs)
def takeF (name : ByteArray) (fs : FL) : FL := if hasF name fs then fs.eraseIdx (fnd name fs) else fs
theorem fnd_le (name : ByteArray) : ∀ fs : FL, fnd name fs ≤ fs.length
  | [] => Nat.le_refl _
  | f :: r => by have := fnd_le name r; unfold fnd; split <;> simp <;> omega
theorem hasF_lt {name : ByteArray} {fs : FL} (h : hasF name fs = true) : fnd name fs < fs.length := by
  unfold hasF at h
  split at h
  · rename_i f hf; exact (List.getElem?_eq_some_iff.1 hf).1
  · cases h
/-- at the place i nothing ahead is at or behind the name -/
def Ahead (name : ByteArray) (fs : FL) (i : Nat) : Prop := fnd name fs = i + fnd name (fs.drop i)
theorem ahead_zero (name : ByteArray) (fs : FL) : Ahead name fs 0 := by simp [Ahead]
theorem ahead_next {name : ByteArray} {fs : FL} {i : Nat} (h : Ahead name fs i) (hi : i < fs.length) (hf : fle name fs[i] = false) : Ahead name fs (i + 1) := by
  unfold Ahead at h ⊢
  rw [h, List.drop_eq_getElem_cons hi]
  simp [fnd, hf]
  omega
theorem ahead_here {name : ByteArray} {fs : FL} {i : Nat} (h : Ahead name fs i) (hi : i < fs.length) (hf : fle name fs[i] = true) : fnd name fs = i ∧ hasF name fs = (fs[i].1.toList == name.toList) := by
  have e : fnd name fs = i := by
    unfold Ahead at h
    rw [h, List.drop_eq_getElem_cons hi]
    simp [fnd, hf]
  refine ⟨e, ?_⟩
  unfold hasF
  rw [e, List.getElem?_eq_getElem hi]
theorem ahead_end {name : ByteArray} {fs : FL} {i : Nat} (h : Ahead name fs i) (hi : fs.length ≤ i) (hl : i ≤ fs.length) : fnd name fs = fs.length ∧ hasF name fs = false := by
  have e : fnd name fs = fs.length := by
    unfold Ahead at h
    rw [h, List.drop_of_length_le hi]
    simp [fnd]
    omega
  refine ⟨e, ?_⟩
  unfold hasF
  rw [e]
  simp

/-- a row of files, cell by cell -/
def flatF : FL → List Value
  | [] => []
  | f :: r => .string f.1 :: .string f.2 :: flatF r
theorem flatF_length : ∀ fs : FL, (flatF fs).length = fs.length * 2
  | [] => rfl
  | f :: r => by have := flatF_length r; simp [flatF]; omega
theorem flatF_append : ∀ (a b : FL), flatF (a ++ b) = flatF a ++ flatF b
  | [], _ => rfl
  | f :: a, b => by simp [flatF, flatF_append a b]
theorem flatF_name : ∀ (fs : FL) (i : Nat) (h : i < fs.length), (flatF fs)[i * 2]? = some (.string fs[i].1)
  | f :: r, 0, _ => rfl
  | f :: r, i + 1, h => by
    rw [show (i + 1) * 2 = i * 2 + 2 by omega]
    simpa [flatF] using flatF_name r i (by simpa using h)
theorem flatF_bytes : ∀ (fs : FL) (i : Nat) (h : i < fs.length), (flatF fs)[i * 2 + 1]? = some (.string fs[i].2)
  | f :: r, 0, _ => rfl
  | f :: r, i + 1, h => by
    rw [show (i + 1) * 2 + 1 = i * 2 + 1 + 2 by omega]
    simpa [flatF] using flatF_bytes r i (by simpa using h)
theorem flatF_set_bytes : ∀ (fs : FL) (i : Nat) (h : i < fs.length) (x : ByteArray), (flatF fs).set (i * 2 + 1) (.string x) = flatF (fs.set i (fs[i].1, x))
  | f :: r, 0, _, _ => rfl
  | f :: r, i + 1, h, x => by
    rw [show (i + 1) * 2 + 1 = (i * 2 + 1) + 1 + 1 by omega]
    have := flatF_set_bytes r i (by simpa using h) x
    simpa [flatF] using this
theorem flatF_set : ∀ (fs : FL) (i : Nat) (_ : i < fs.length) (x y : ByteArray), ((flatF fs).set (i * 2) (.string x)).set (i * 2 + 1) (.string y) = flatF (fs.set i (x, y))
  | f :: r, 0, _, _, _ => rfl
  | f :: r, i + 1, h, x, y => by
    rw [show (i + 1) * 2 + 1 = (i * 2 + 1) + 1 + 1 by omega, show (i + 1) * 2 = i * 2 + 1 + 1 by omega]
    have := flatF_set r i (by simpa using h) x y
    simpa [flatF] using this
end Go.Proofs.YtfbdhlpgklkjmaaGreatDoor.DiskM
namespace Go.Proofs.YtfbdhlpgklkjmaaGreatDoor.DiskM

theorem less_self : ∀ l : List UInt8, Op.bytesLess l l = false
  | [] => rfl
  | a :: r => by simp [Op.bytesLess, less_self r]
theorem fle_self (name x : ByteArray) : fle name (name, x) = true := by simp [fle, less_self]
theorem fnd_before (name : ByteArray) : ∀ (fs : FL) (f : ByteArray × ByteArray), fle name f = true → fnd name (fs.take (fnd name fs) ++ f :: fs.drop (fnd name fs)) = fnd name fs
  | [], f, h => by simp [fnd, h]
  | g :: r, f, h => by
    by_cases hg : fle name g = true
    · have e : fnd name (g :: r) = 0 := by simp [fnd, hg]
      rw [e]
      simp [fnd, h]
    · have e : fnd name (g :: r) = fnd name r + 1 := by simp [fnd, hg]
      rw [e, List.take_succ_cons, List.drop_succ_cons, List.cons_append]
      simp only [fnd, hg, Bool.false_eq_true, if_false]
      rw [fnd_before name r f h]
theorem fnd_set (name : ByteArray) : ∀ (fs : FL) (x : ByteArray) (h : fnd name fs < fs.length), fnd name (fs.set (fnd name fs) (fs[fnd name fs].1, x)) = fnd name fs
  | g :: r, x, h => by
    by_cases hg : fle name g = true
    · have e : fnd name (g :: r) = 0 := by simp [fnd, hg]
      simp only [e, List.set_cons_zero, List.getElem_cons_zero]
      have : fle name (g.1, x) = true := by simpa [fle] using hg
      simp [fnd, this]
    · have e : fnd name (g :: r) = fnd name r + 1 := by simp [fnd, hg]
      have hl : fnd name r < r.length := by rw [e] at h; simpa using h
      simp only [e, List.set_cons_succ, List.getElem_cons_succ]
      simp only [fnd, hg, Bool.false_eq_true, if_false]
      rw [fnd_set name r x hl]
theorem has_lay (name x : ByteArray) (fs : FL) : hasF name (layF name x fs) = true ∧ bytesF name (layF name x fs) = x := by
  by_cases hh : hasF name fs = true
  · have hlt := hasF_lt hh
    have e : layF name x fs = fs.set (fnd name fs) (fs[fnd name fs].1, x) := by unfold layF; rw [if_pos hh]; simp [hlt]
    have hn : fs[fnd name fs].1.toList = name.toList := by
      have := hh
      unfold hasF at this
      rw [List.getElem?_eq_getElem hlt] at this
      simpa using this
    have h1 : hasF name (layF name x fs) = true := by
      unfold hasF
      rw [e, fnd_set name fs x hlt]
      simp [hlt, hn]
    refine ⟨h1, ?_⟩
    unfold bytesF
    rw [if_pos h1, e, fnd_set name fs x hlt]
    simp [hlt]
  · have e : layF name x fs = fs.take (fnd name fs) ++ (name, x) :: fs.drop (fnd name fs) := by unfold layF; rw [if_neg hh]
    have hf := fnd_before name fs (name, x) (fle_self name x)
    have hle := fnd_le name fs
    have hg : (fs.take (fnd name fs) ++ (name, x) :: fs.drop (fnd name fs))[fnd name fs]? = some (name, x) := by
      rw [List.getElem?_append_right (by rw [List.length_take]; omega)]
      simp [Nat.min_eq_left hle]
    have h1 : hasF name (layF name x fs) = true := by
      unfold hasF
      rw [e, hf, hg]
      simp
    refine ⟨h1, ?_⟩
    unfold bytesF
    rw [if_pos h1, e, hf]
    simp [List.getD, hg]
/-- how many files there are, this one counted -/
def room (name : ByteArray) (fs : FL) : Nat := fs.length + (if hasF name fs then 0 else 1)
theorem room_lay (name x : ByteArray) (fs : FL) : room name (layF name x fs) = room name fs := by
  have hle := fnd_le name fs
  unfold room
  rw [if_pos (has_lay name x fs).1]
  unfold layF
  split
  · simp
  · simp; omega
theorem len_room (name : ByteArray) (fs : FL) : fs.length ≤ room name fs := by unfold room; omega
theorem lay_len (name x : ByteArray) (fs : FL) : (layF name x fs).length = room name fs := by
  rw [← room_lay name x fs]
  unfold room
  rw [if_pos (has_lay name x fs).1]; rfl

def rawB (cut count : Int) (dead : Bool) : Bool := !dead && !(decide (0 ≤ cut) && decide (cut ≤ count))
/-- a disk: its files, how many raw writes, whether the power is lost -/
structure DS where
  fs : FL
  count : Nat
  dead : Bool
/-- pieces behind what is there, one by one: is it whole? -/
def addsS (cut : Int) (name : ByteArray) : Nat → ByteArray → DS → Bool × DS
  | 0, _, s => (true, s)
  | k + 1, x, s =>
    if rawB cut s.count s.dead then
      (let s1 : DS := ⟨layF name (bytesF name s.fs ++ x.extract 0 (min x.size 32)) s.fs, s.count + 1, s.dead⟩
       if x.size ≤ 32 then (true, s1) else addsS cut name k (x.extract 32 x.size) s1)
    else (false, ⟨s.fs, s.count, true⟩)
def addsR (cut : Int) (name x : ByteArray) (s : DS) : Bool × DS := addsS cut name (x.size + 1) x s
/-- whole: 0; the power is lost: 5 -/
def code5 (b : Bool) : Nat := if b then 0 else 5
theorem rest_size (x : ByteArray) : (x.extract 32 x.size).size = x.size - 32 := by simp
theorem piece_size (x : ByteArray) : (x.extract 0 (min x.size 32)).size = min x.size 32 := by simp
theorem addsS_no {cut : Int} {name x : ByteArray} {s : DS} {k : Nat} (h : rawB cut s.count s.dead = false) : addsS cut name (k + 1) x s = (false, ⟨s.fs, s.count, true⟩) := by simp [addsS, h]
theorem addsS_last {cut : Int} {name x : ByteArray} {s : DS} {k : Nat} (h : rawB cut s.count s.dead = true) (hx : x.size ≤ 32) : addsS cut name (k + 1) x s = (true, ⟨layF name (bytesF name s.fs ++ x.extract 0 (min x.size 32)) s.fs, s.count + 1, s.dead⟩) := by simp [addsS, h, hx]
theorem addsS_more {cut : Int} {name x : ByteArray} {s : DS} {k : Nat} (h : rawB cut s.count s.dead = true) (hx : ¬ x.size ≤ 32) : addsS cut name (k + 1) x s = addsS cut name k (x.extract 32 x.size) ⟨layF name (bytesF name s.fs ++ x.extract 0 (min x.size 32)) s.fs, s.count + 1, s.dead⟩ := by simp [addsS, h, hx]
end Go.Proofs.YtfbdhlpgklkjmaaGreatDoor.DiskM
