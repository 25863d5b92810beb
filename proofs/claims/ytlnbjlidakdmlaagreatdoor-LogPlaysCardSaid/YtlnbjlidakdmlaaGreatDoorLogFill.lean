/-
  What Open of layer 5 finds of a log among a disk's files, and what it makes of them.
-/
import Derived.Test.YtlnbjlidakdmlaaGreatDoorLogRef
import Derived.Test.YtlnbjlidakdmlaaGreatDoorDiskFit
namespace Go.Proofs.YtlnbjlidakdmlaaGreatDoor
open Go.RowKit
namespace LogC
open LogM FrameM FrameC DiskM DiskC

abbrev nameN (n : Nat) : ByteArray := str (fileB n)
def fileL (fs : FL) (n : Nat) : List UInt8 := (bytesF (nameN n) fs).data.toList
def partL (fs : FL) (n : Nat) : List (List UInt8) := hasB (fileL fs n)
/-- file n is there, whole and full: the one behind it is looked at, too -/
def FullF (fs : FL) (n : Nat) : Prop := hasF (nameN n) fs = true ∧ (partL fs n).length = 64 ∧ usedB (partL fs n) = (fileL fs n).length
instance (fs : FL) (n : Nat) : Decidable (FullF fs n) := by unfold FullF; infer_instance
/-- the records of the files up to n -/
def upTo (fs : FL) : Nat → List (List UInt8)
  | 0 => []
  | n + 1 => upTo fs n ++ partL fs (n + 1)
def lastFrom (fs : FL) : Nat → Nat → Nat
  | 0, n => n
  | k + 1, n => if FullF fs n then lastFrom fs k (n + 1) else n
/-- the last file that is looked at -/
def lastN (fs : FL) : Nat := lastFrom fs (fs.length + 1) 1
/-- the files ahead of n are whole and full -/
def Ahd (fs : FL) (n : Nat) : Prop := 1 ≤ n ∧ ∀ k, 1 ≤ k → k < n → FullF fs k

theorem pigeon : ∀ (l m : List (List UInt8)), l.Nodup → (∀ x ∈ l, x ∈ m) → l.length ≤ m.length
  | [], m, _, _ => Nat.zero_le _
  | a :: r, m, hn, hs => by
    have ha := hs a (by simp)
    have hr := pigeon r (m.erase a) (List.nodup_cons.1 hn).2 (fun x hx => (List.mem_erase_of_ne (fun e => by rw [e] at hx; exact (List.nodup_cons.1 hn).1 hx)).2 (hs x (by simp [hx])))
    rw [List.length_erase_of_mem ha] at hr
    have := List.length_pos_of_mem ha
    simp only [List.length_cons]
    omega
theorem file_inj {a b : Nat} (ha : a < 100000000) (hb : b < 100000000) (h : nameN a = nameN b) : a = b := by
  have := congrArg numB (str_inj h)
  rwa [num_file a ha, num_file b hb] at this
theorem name_in {n : ByteArray} {fs : FL} (h : hasF n fs = true) : n.toList ∈ fs.map (fun f => f.1.toList) := by
  have hlt := hasF_lt h
  unfold hasF at h
  rw [List.getElem?_eq_getElem hlt] at h
  have e : fs[fnd n fs].1.toList = n.toList := by simpa using h
  exact List.mem_map.2 ⟨_, List.getElem_mem hlt, e⟩
theorem Ahd.one (fs : FL) : Ahd fs 1 := ⟨Nat.le_refl _, fun k h1 h2 => by omega⟩
theorem Ahd.next {fs : FL} {n : Nat} (h : Ahd fs n) (hf : FullF fs n) : Ahd fs (n + 1) := ⟨by omega, fun k h1 h2 => by
  by_cases e : k = n
  · rw [e]; exact hf
  · exact h.2 k h1 (by omega)⟩
/-- no more files than the disk has -/
theorem Ahd.len {fs : FL} {n : Nat} (h : Ahd fs n) (hl : fs.length ≤ 65536) : n ≤ fs.length + 1 := by
  suffices hh : ∀ m, m ≤ n - 1 → m < 100000 → m ≤ fs.length by
    by_cases hn : n - 1 < 100000
    · have := hh (n - 1) (Nat.le_refl _) hn; omega
    · have := hh 99999 (by omega) (by omega); omega
  intro m hm hb
  have h1 := pigeon ((List.range m).map fun i => (nameN (i + 1)).toList) (fs.map (fun f => f.1.toList)) (by
    rw [List.Nodup, List.pairwise_map]
    refine List.Pairwise.imp_of_mem (R := fun a b => a ≠ b) (fun {a b} ha hb' hab e => ?_) List.nodup_range
    have ha' := List.mem_range.1 ha
    have hb'' := List.mem_range.1 hb'
    rw [ByteArray.toList_eq, ByteArray.toList_eq] at e
    have := file_inj (by omega) (by omega) (ByteArray.ext (Array.toList_inj.1 e))
    omega) (fun x hx => by
    obtain ⟨i, hi, rfl⟩ := List.mem_map.1 hx
    have := List.mem_range.1 hi
    exact name_in (h.2 (i + 1) (by omega) (by omega)).1)
  simpa using h1
theorem lastFrom_ahd {fs : FL} : ∀ (k n : Nat), Ahd fs n → Ahd fs (lastFrom fs k n) ∧ (¬ FullF fs (lastFrom fs k n) ∨ lastFrom fs k n = n + k)
  | 0, n, h => ⟨h, .inr rfl⟩
  | k + 1, n, h => by
    unfold lastFrom
    split
    · rename_i hf
      obtain ⟨h1, h2⟩ := lastFrom_ahd k (n + 1) (h.next hf)
      exact ⟨h1, h2.imp id (fun e => by omega)⟩
    · rename_i hf
      exact ⟨h, .inl hf⟩
theorem last_is {fs : FL} (hl : fs.length ≤ 65536) : Ahd fs (lastN fs) ∧ ¬ FullF fs (lastN fs) := by
  obtain ⟨h1, h2⟩ := lastFrom_ahd (fs := fs) (fs.length + 1) 1 (Ahd.one fs)
  refine ⟨h1, ?_⟩
  rcases h2 with h2 | h2
  · exact h2
  · have := h1.len hl
    exfalso
    omega
/-- it is the one -/
theorem last_eq {fs : FL} {n : Nat} (hl : fs.length ≤ 65536) (h : Ahd fs n) (hf : ¬ FullF fs n) : n = lastN fs := by
  obtain ⟨h1, h2⟩ := last_is hl
  rcases Nat.lt_trichotomy n (lastN fs) with hlt | he | hgt
  · exact absurd (h1.2 n h.1 hlt) hf
  · exact he
  · exact absurd (h.2 (lastN fs) h1.1 hgt) h2
theorem part_len (fs : FL) (n : Nat) : (partL fs n).length ≤ 64 := by unfold partL hasB; rw [List.length_take]; omega
/-- so many records, ahead of n -/
theorem upTo_len {fs : FL} : ∀ {n : Nat}, Ahd fs (n + 1) → (upTo fs n).length = 64 * n
  | 0, _ => rfl
  | n + 1, h => by
    have hf := h.2 (n + 1) (by omega) (by omega)
    rw [upTo, List.length_append, hf.2.1, upTo_len (n := n) ⟨by omega, fun k h1 h2 => h.2 k h1 (by omega)⟩]
    omega
theorem no_file {fs : FL} {n : Nat} (h : hasF (nameN n) fs = false) : fileL fs n = [] ∧ partL fs n = [] := by
  have e : fileL fs n = [] := by unfold fileL bytesF; rw [h]; rfl
  refine ⟨e, ?_⟩
  unfold partL hasB
  rw [e, all_nil]
  rfl
theorem file_len {fs : FL} (hg : DiskC.Good fs) (n : Nat) : (fileL fs n).length ≤ 16777216 := good_bytes hg (nameN n)
theorem used_part (fs : FL) (n : Nat) : usedB (partL fs n) ≤ (fileL fs n).length := Nat.le_trans (used_take _ _) (used_all _ _ (Nat.le_refl _))
theorem may_name (n : Nat) : mayB (nameN n) = true := by unfold mayB; rw [str_size, fileB_length]; rfl

/-! ### what Open makes of them -/
/-- which file a name is, as a text -/
def numT (m : ByteArray) : Nat := numB m.data.toList
/-- the files behind n are taken away, one by one -/
def dropS (cut : Int) (n : Nat) : List ByteArray → DS → Nat × ByteArray × DS
  | [], s => (0, str [], s)
  | m :: r, s => if n < numT m then (if (removeS cut m s).1 = 0 then dropS cut n r (removeS cut m s).2 else ((removeS cut m s).1, m, (removeS cut m s).2)) else dropS cut n r s
def tornS (cut : Int) (n : Nat) (fs : FL) (s : DS) : Nat × ByteArray × DS :=
  if usedB (partL fs n) = (fileL fs n).length then (0, str [], s)
  else if (truncS cut (nameN n) (usedB (partL fs n) : Nat) s).1 = 0 then (0, str [], (truncS cut (nameN n) (usedB (partL fs n) : Nat) s).2)
  else ((truncS cut (nameN n) (usedB (partL fs n) : Nat) s).1, nameN n, (truncS cut (nameN n) (usedB (partL fs n) : Nat) s).2)
/-- the error's number, what it is of, the disk behind -/
def openS (cut : Int) (s : DS) : Nat × ByteArray × DS :=
  if s.dead = true then (5, nameN 1, s)
  else if (dropS cut (lastN s.fs) (namesS s) s).1 = 0 then tornS cut (lastN s.fs) s.fs (dropS cut (lastN s.fs) (namesS s) s).2.2
  else dropS cut (lastN s.fs) (namesS s) s
def logS (s : DS) : List (List UInt8) := upTo s.fs (lastN s.fs)
theorem drop_cons_go {cut : Int} {n : Nat} {m : ByteArray} {r : List ByteArray} {s : DS} (h : n < numT m) (h0 : (removeS cut m s).1 = 0) : dropS cut n (m :: r) s = dropS cut n r (removeS cut m s).2 := by rw [dropS, if_pos h, if_pos h0]
theorem drop_cons_stop {cut : Int} {n : Nat} {m : ByteArray} {r : List ByteArray} {s : DS} (h : n < numT m) (h0 : (removeS cut m s).1 ≠ 0) : dropS cut n (m :: r) s = ((removeS cut m s).1, m, (removeS cut m s).2) := by rw [dropS, if_pos h, if_neg h0]
theorem drop_cons_pass {cut : Int} {n : Nat} {m : ByteArray} {r : List ByteArray} {s : DS} (h : ¬ n < numT m) : dropS cut n (m :: r) s = dropS cut n r s := by rw [dropS, if_neg h]
theorem drop_good (cut : Int) (n : Nat) : ∀ (l : List ByteArray) (s : DS), DiskC.Good s.fs → DiskC.Good (dropS cut n l s).2.2.fs ∧ (dropS cut n l s).2.2.count ≤ s.count + l.length
  | [], s, h => ⟨h, by show s.count ≤ _; omega⟩
  | m :: r, s, h => by
    have h1 := remove_good (cut := cut) (name := m) h
    unfold dropS
    split
    · split
      · have := drop_good cut n r _ h1.1
        exact ⟨this.1, by have := this.2; have := h1.2; simp only [List.length_cons]; omega⟩
      · exact ⟨h1.1, by have := h1.2; simp only [List.length_cons]; omega⟩
    · have := drop_good cut n r s h
      exact ⟨this.1, by have := this.2; simp only [List.length_cons]; omega⟩
theorem torn_good {cut : Int} {n : Nat} {fs : FL} {s : DS} (h : DiskC.Good s.fs) : DiskC.Good (tornS cut n fs s).2.2.fs ∧ (tornS cut n fs s).2.2.count ≤ s.count + 1 := by
  unfold tornS
  repeat' split
  · exact ⟨h, by show s.count ≤ _; omega⟩
  · exact trunc_good h
  · exact trunc_good h
theorem names_len (s : DS) : (namesS s).length ≤ s.fs.length := by unfold namesS; split <;> simp
theorem open_good {cut : Int} {s : DS} (h : DiskC.Good s.fs) : DiskC.Good (openS cut s).2.2.fs ∧ (openS cut s).2.2.count ≤ s.count + 65537 := by
  have hn := names_len s
  have hl := h.1
  have h1 := drop_good cut (lastN s.fs) (namesS s) s h
  unfold openS
  split
  · exact ⟨h, by show s.count ≤ _; omega⟩
  · split
    · have h2 := torn_good (cut := cut) (n := lastN s.fs) (fs := s.fs) h1.1
      exact ⟨h2.1, by have := h2.2; have := h1.2; omega⟩
    · exact ⟨h1.1, by have := h1.2; omega⟩
theorem last_le {fs : FL} (h : DiskC.Good fs) : 1 ≤ lastN fs ∧ lastN fs ≤ 65537 := ⟨(last_is h.1).1.1, by have := (last_is h.1).1.len h.1; have := h.1; omega⟩
theorem log_len {s : DS} (h : DiskC.Good s.fs) : (logS s).length ≤ 64 * 65537 := by
  obtain ⟨h1, -⟩ := last_is h.1
  have h2 := (last_le h).2
  obtain ⟨k, hk⟩ : ∃ k, lastN s.fs = k + 1 := ⟨lastN s.fs - 1, by have := h1.1; omega⟩
  unfold logS
  rw [hk] at h1 h2 ⊢
  rw [upTo, List.length_append, upTo_len h1]
  have := part_len s.fs (k + 1)
  omega
theorem drewN_b (w : World) (q : Nat) : Below w.heap.size w (w.drewN q) := ⟨rfl, rfl, rfl, Nat.le_refl _, fun _ _ => rfl⟩
theorem name_has {s : DS} {m : ByteArray} (hm : m ∈ namesS s) : ∃ f ∈ s.fs, f.1 = m := by
  unfold namesS at hm
  split at hm
  · cases hm
  · obtain ⟨f, hf, rfl⟩ := List.mem_map.1 hm
    exact ⟨f, hf, rfl⟩
theorem open_stop {cut : Int} {s s2 : DS} {c : Nat} {m : ByteArray} (hd : s.dead = false) (h : dropS cut (lastN s.fs) (namesS s) s = (c, m, s2)) (hz : c ≠ 0) : openS cut s = (c, m, s2) := by
  unfold openS
  rw [if_neg (by rw [hd]; decide), h, if_neg hz]
theorem open_go {cut : Int} {s s1 : DS} (hd : s.dead = false) (h : dropS cut (lastN s.fs) (namesS s) s = (0, str [], s1)) : openS cut s = tornS cut (lastN s.fs) s.fs s1 := by
  unfold openS
  rw [if_neg (by rw [hd]; decide), h, if_pos rfl]
theorem torn_clean {cut : Int} {n : Nat} {fs : FL} {s : DS} (h : usedB (partL fs n) = (fileL fs n).length) : tornS cut n fs s = (0, str [], s) := by unfold tornS; rw [if_pos h]
theorem torn_cut {cut : Int} {n : Nat} {fs : FL} {s s2 : DS} {c : Nat} (h : usedB (partL fs n) ≠ (fileL fs n).length) (ht : truncS cut (nameN n) (usedB (partL fs n) : Nat) s = (c, s2)) : tornS cut n fs s = (c, if c = 0 then str [] else nameN n, s2) := by
  unfold tornS
  rw [if_neg h, ht]
  by_cases hz : c = 0
  · subst hz; rw [if_pos rfl, if_pos rfl]
  · rw [if_neg hz, if_neg hz]
end LogC
end Go.Proofs.YtlnbjlidakdmlaaGreatDoor
