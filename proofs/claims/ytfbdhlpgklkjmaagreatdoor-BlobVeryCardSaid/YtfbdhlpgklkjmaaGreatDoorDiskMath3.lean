/-
  The plain mathematics of layer 3, once more: files rising by name: what one name's call leaves of the other names. It names nothing of the program.
  Two lists of files, each in the names' order, that answer alike are the same.
-/
import Derived.Test.YtfbdhlpgklkjmaaGreatDoorDiskMath
namespace Go.Proofs.YtfbdhlpgklkjmaaGreatDoor.DiskM

abbrev lessN (a b : ByteArray) : Bool := Op.bytesLess a.toList b.toList
theorem bless_trans : ∀ (x y z : List UInt8), Op.bytesLess x y = true → Op.bytesLess y z = true → Op.bytesLess x z = true
  | x, [], _, h, _ => by simp [Op.bytesLess] at h
  | _, _ :: _, [], _, h => by simp [Op.bytesLess] at h
  | [], _ :: _, _ :: _, _, _ => rfl
  | a :: x, b :: y, c :: z, h, k => by
    simp only [Op.bytesLess, Bool.or_eq_true, decide_eq_true_eq, Bool.and_eq_true, beq_iff_eq] at h k ⊢
    rcases h with h | ⟨rfl, h⟩
    · rcases k with k | ⟨rfl, k⟩
      · exact Or.inl (UInt8.lt_trans h k)
      · exact Or.inl h
    · rcases k with k | ⟨rfl, k⟩
      · exact Or.inl k
      · exact Or.inr ⟨rfl, bless_trans x y z h k⟩
theorem bless_total : ∀ (x y : List UInt8), Op.bytesLess x y = false → Op.bytesLess y x = false → x = y
  | [], [], _, _ => rfl
  | [], _ :: _, h, _ => by simp [Op.bytesLess] at h
  | _ :: _, [], _, h => by simp [Op.bytesLess] at h
  | a :: x, b :: y, h, k => by
    simp only [Op.bytesLess, Bool.or_eq_false_iff, decide_eq_false_iff_not, Bool.and_eq_false_iff, beq_eq_false_iff_ne] at h k
    have e : a = b := by
      have h1 := h.1
      have k1 := k.1
      rw [UInt8.not_lt] at h1 k1
      exact UInt8.le_antisymm k1 h1
    subst e
    have h2 : Op.bytesLess x y = false := by rcases h.2 with h | h; exact absurd rfl h; exact h
    have k2 : Op.bytesLess y x = false := by rcases k.2 with h | h; exact absurd rfl h; exact h
    rw [bless_total x y h2 k2]
theorem name_inj {a b : ByteArray} (h : a.toList = b.toList) : a = b := by
  rw [ByteArray.toList_eq, ByteArray.toList_eq] at h
  exact ByteArray.ext (Array.toList_inj.1 h)
theorem less_irr (a : ByteArray) : lessN a a = false := less_self _
theorem less_asymm {a b : ByteArray} (h : lessN a b = true) : lessN b a = false := by
  cases e : lessN b a with
  | false => rfl
  | true => have := bless_trans _ _ _ h e; rw [less_self] at this; cases this
theorem less_of_ne {a b : ByteArray} (h : a ≠ b) (k : lessN a b = false) : lessN b a = true := by
  cases e : lessN b a with
  | true => rfl
  | false => exact absurd (name_inj (bless_total _ _ k e)) h

/-! ### one step at a time -/
theorem fnd_cons (n : ByteArray) (f : ByteArray × ByteArray) (r : FL) : fnd n (f :: r) = if lessN f.1 n then fnd n r + 1 else 0 := by
  show (if fle n f then 0 else fnd n r + 1) = _
  unfold fle lessN
  cases Op.bytesLess f.1.toList n.toList <;> simp
theorem has_cons (n : ByteArray) (f : ByteArray × ByteArray) (r : FL) : hasF n (f :: r) = if lessN f.1 n then hasF n r else f.1.toList == n.toList := by
  unfold hasF
  rw [fnd_cons]
  cases lessN f.1 n <;> simp
theorem bytes_cons (n : ByteArray) (f : ByteArray × ByteArray) (r : FL) : bytesF n (f :: r) = if lessN f.1 n then bytesF n r else if f.1.toList == n.toList then f.2 else ⟨#[]⟩ := by
  unfold bytesF
  rw [has_cons, fnd_cons]
  cases lessN f.1 n <;> simp
theorem lay_cons (n x : ByteArray) (f : ByteArray × ByteArray) (r : FL) : layF n x (f :: r) = if lessN f.1 n then f :: layF n x r else if f.1.toList == n.toList then (f.1, x) :: r else (n, x) :: f :: r := by
  unfold layF
  rw [has_cons, fnd_cons]
  cases h : lessN f.1 n with
  | true => cases hasF n r <;> simp
  | false => simp
theorem take_cons (n : ByteArray) (f : ByteArray × ByteArray) (r : FL) : takeF n (f :: r) = if lessN f.1 n then f :: takeF n r else if f.1.toList == n.toList then r else f :: r := by
  unfold takeF
  rw [has_cons, fnd_cons]
  cases h : lessN f.1 n with
  | true => cases hasF n r <;> simp
  | false => simp
/-- rising -/
def Sorted (fs : FL) : Prop := fs.Pairwise (fun f g => lessN f.1 g.1 = true)
theorem Sorted.nil : Sorted [] := List.Pairwise.nil
theorem no_has {n : ByteArray} {fs : FL} (h : ∀ f ∈ fs, lessN n f.1 = true) : hasF n fs = false := by
  cases fs with
  | nil => rfl
  | cons f r =>
    rw [has_cons]
    have := h f (List.mem_cons_self ..)
    rw [less_asymm this]
    simp only [Bool.false_eq_true, if_false, beq_eq_false_iff_ne]
    intro e
    rw [name_inj e, less_irr] at this
    cases this
theorem no_bytes {n : ByteArray} {fs : FL} (h : hasF n fs = false) : bytesF n fs = ⟨#[]⟩ := by unfold bytesF; rw [h]; rfl
theorem has_mem : ∀ {n : ByteArray} {fs : FL}, Sorted fs → (hasF n fs = true ↔ ∃ f ∈ fs, f.1 = n)
  | n, [], _ => by constructor; (intro h; cases h); (rintro ⟨f, hf, -⟩; cases hf)
  | n, f :: r, hs => by
    have hs' := List.pairwise_cons.1 hs
    rw [has_cons]
    by_cases hl : lessN f.1 n = true
    · rw [if_pos hl, has_mem hs'.2]
      constructor
      · rintro ⟨g, hg, e⟩; exact ⟨g, List.mem_cons_of_mem _ hg, e⟩
      · rintro ⟨g, hg, e⟩
        rcases List.mem_cons.1 hg with rfl | hg
        · rw [e, less_irr] at hl; cases hl
        · exact ⟨g, hg, e⟩
    · rw [if_neg hl, beq_iff_eq]
      constructor
      · intro e; exact ⟨f, List.mem_cons_self .., name_inj e⟩
      · rintro ⟨g, hg, e⟩
        rcases List.mem_cons.1 hg with rfl | hg
        · rw [e]
        · have := hs'.1 g hg; rw [e] at this; exact absurd this hl
theorem bytes_mem : ∀ {n : ByteArray} {fs : FL}, Sorted fs → ∀ f ∈ fs, f.1 = n → bytesF n fs = f.2
  | n, f :: r, hs, g, hg, e => by
    have hs' := List.pairwise_cons.1 hs
    rw [bytes_cons]
    rcases List.mem_cons.1 hg with rfl | hg
    · rw [e, less_irr]; simp
    · have := hs'.1 g hg
      rw [e] at this
      rw [if_pos this]
      exact bytes_mem hs'.2 g hg e

theorem has_lay_other {n m x : ByteArray} (hne : n ≠ m) : ∀ {fs : FL}, Sorted fs → hasF n (layF m x fs) = hasF n fs ∧ bytesF n (layF m x fs) = bytesF n fs
  | [], _ => by
    have e : layF m x [] = [(m, x)] := rfl
    have h1 : (m.toList == n.toList) = false := by rw [beq_eq_false_iff_ne]; exact fun e => hne (name_inj e).symm
    rw [e, has_cons, bytes_cons, h1]
    cases lessN m n <;> simp [hasF, bytesF, fnd]
  | f :: r, hs => by
    have hs' := List.pairwise_cons.1 hs
    obtain ⟨i1, i2⟩ := has_lay_other (x := x) hne hs'.2
    rw [lay_cons]
    by_cases hl : lessN f.1 m = true
    · rw [if_pos hl, has_cons, has_cons, bytes_cons, bytes_cons, i1, i2]
      exact ⟨rfl, rfl⟩
    · rw [if_neg hl]
      by_cases he : (f.1.toList == m.toList) = true
      · rw [if_pos he, has_cons, has_cons, bytes_cons, bytes_cons]
        have e := name_inj (beq_iff_eq.1 he)
        have h1 : (f.1.toList == n.toList) = false := by rw [beq_eq_false_iff_ne, e]; exact fun e => hne (name_inj e).symm
        rw [h1]
        exact ⟨rfl, by simp⟩
      · rw [if_neg he, has_cons, bytes_cons]
        have h1 : (m.toList == n.toList) = false := by rw [beq_eq_false_iff_ne]; exact fun e => hne (name_inj e).symm
        have hmf : lessN m f.1 = true := less_of_ne (fun e => he (by rw [e]; simp)) (by simpa using hl)
        rw [h1]
        by_cases hn : lessN m n = true
        · rw [if_pos hn, if_pos hn]
          exact ⟨rfl, rfl⟩
        · rw [if_neg hn, if_neg hn]
          have hnm : lessN n m = true := less_of_ne (fun e => hne e.symm) (by simpa using hn)
          have hno : hasF n (f :: r) = false := no_has (fun g hg => by
            rcases List.mem_cons.1 hg with rfl | hg
            · exact bless_trans _ _ _ hnm hmf
            · exact bless_trans _ _ _ hnm (bless_trans _ _ _ hmf (hs'.1 g hg)))
          rw [hno, no_bytes hno]
          exact ⟨rfl, rfl⟩
theorem lay_mem {m x : ByteArray} : ∀ {fs : FL} (g : ByteArray × ByteArray), g ∈ layF m x fs → g ∈ fs ∨ g.1 = m
  | [], g, h => by
    have e : layF m x [] = [(m, x)] := rfl
    rw [e] at h
    exact Or.inr (by rw [List.mem_singleton.1 h])
  | f :: r, g, h => by
    rw [lay_cons] at h
    split at h
    · rcases List.mem_cons.1 h with rfl | h
      · exact Or.inl (List.mem_cons_self ..)
      · rcases lay_mem g h with h | h
        · exact Or.inl (List.mem_cons_of_mem _ h)
        · exact Or.inr h
    · split at h
      · rename_i he
        rcases List.mem_cons.1 h with rfl | h
        · exact Or.inr (name_inj (beq_iff_eq.1 he))
        · exact Or.inl (List.mem_cons_of_mem _ h)
      · rcases List.mem_cons.1 h with rfl | h
        · exact Or.inr rfl
        · exact Or.inl h
theorem Sorted.lay {m x : ByteArray} : ∀ {fs : FL}, Sorted fs → Sorted (layF m x fs)
  | [], _ => by
    have e : layF m x [] = [(m, x)] := rfl
    rw [e]
    exact List.pairwise_singleton _ _
  | f :: r, hs => by
    have hs' := List.pairwise_cons.1 hs
    rw [lay_cons]
    split
    · rename_i hl
      refine List.pairwise_cons.2 ⟨fun g hg => ?_, Sorted.lay hs'.2⟩
      rcases lay_mem g hg with h | h
      · exact hs'.1 g h
      · rw [h]; exact hl
    · rename_i hl
      split
      · exact List.pairwise_cons.2 ⟨fun g hg => hs'.1 g hg, hs'.2⟩
      · rename_i he
        have hmf : lessN m f.1 = true := less_of_ne (fun e => he (by rw [e]; simp)) (by simpa using hl)
        refine List.pairwise_cons.2 ⟨fun g hg => ?_, hs⟩
        rcases List.mem_cons.1 hg with rfl | hg
        · exact hmf
        · exact bless_trans _ _ _ hmf (hs'.1 g hg)
theorem has_take {m : ByteArray} : ∀ {fs : FL}, Sorted fs → hasF m (takeF m fs) = false ∧ bytesF m (takeF m fs) = ⟨#[]⟩
  | [], _ => ⟨rfl, rfl⟩
  | f :: r, hs => by
    have hs' := List.pairwise_cons.1 hs
    rw [take_cons]
    by_cases hl : lessN f.1 m = true
    · rw [if_pos hl, has_cons, bytes_cons, if_pos hl, if_pos hl]
      exact has_take hs'.2
    · rw [if_neg hl]
      by_cases he : (f.1.toList == m.toList) = true
      · rw [if_pos he]
        have e := name_inj (beq_iff_eq.1 he)
        have h := no_has (n := m) (fs := r) (fun g hg => by rw [← e]; exact hs'.1 g hg)
        exact ⟨h, no_bytes h⟩
      · rw [if_neg he]
        have h : hasF m (f :: r) = false := by rw [has_cons, if_neg hl]; simpa using he
        exact ⟨h, no_bytes h⟩
theorem has_take_other {n m : ByteArray} (hne : n ≠ m) : ∀ {fs : FL}, Sorted fs → hasF n (takeF m fs) = hasF n fs ∧ bytesF n (takeF m fs) = bytesF n fs
  | [], _ => ⟨rfl, rfl⟩
  | f :: r, hs => by
    have hs' := List.pairwise_cons.1 hs
    obtain ⟨i1, i2⟩ := has_take_other hne hs'.2
    rw [take_cons]
    by_cases hl : lessN f.1 m = true
    · rw [if_pos hl, has_cons, has_cons, bytes_cons, bytes_cons, i1, i2]
      exact ⟨rfl, rfl⟩
    · rw [if_neg hl]
      by_cases he : (f.1.toList == m.toList) = true
      · rw [if_pos he]
        have e := name_inj (beq_iff_eq.1 he)
        have h1 : (f.1.toList == n.toList) = false := by rw [beq_eq_false_iff_ne, e]; exact fun e => hne (name_inj e).symm
        rw [has_cons, bytes_cons, h1]
        by_cases hn : lessN f.1 n = true
        · rw [if_pos hn, if_pos hn]; exact ⟨rfl, rfl⟩
        · rw [if_neg hn, if_neg hn]
          have hnf : lessN n f.1 = true := less_of_ne (fun e2 => by rw [e2] at h1; simp at h1) (by simpa using hn)
          have h := no_has (n := n) (fs := r) (fun g hg => bless_trans _ _ _ hnf (hs'.1 g hg))
          rw [h, no_bytes h]
          exact ⟨rfl, by simp⟩
      · rw [if_neg he]; exact ⟨rfl, rfl⟩
theorem take_sub {m : ByteArray} (fs : FL) : (takeF m fs).Sublist fs := by
  unfold takeF
  split
  · exact List.eraseIdx_sublist _ _
  · exact List.Sublist.refl _
theorem Sorted.take {m : ByteArray} {fs : FL} (h : Sorted fs) : Sorted (takeF m fs) := List.Pairwise.sublist (take_sub fs) h
theorem take_len1 {m : ByteArray} (fs : FL) : (takeF m fs).length + (if hasF m fs then 1 else 0) = fs.length := by
  unfold takeF
  split
  · rename_i h
    have := hasF_lt h
    rw [List.length_eraseIdx_of_lt this]
    omega
  · rfl
theorem lay_len' (m x : ByteArray) (fs : FL) : (layF m x fs).length = if hasF m fs then fs.length else fs.length + 1 := by
  rw [lay_len]; unfold room; split <;> rfl
end Go.Proofs.YtfbdhlpgklkjmaaGreatDoor.DiskM
namespace Go.Proofs.YtfbdhlpgklkjmaaGreatDoor
namespace DiskM
open Classical in
noncomputable def inB (a : FL) (f : ByteArray × ByteArray) : Bool := decide (f ∈ a)
theorem inB_iff (a : FL) (f : ByteArray × ByteArray) : inB a f = true ↔ f ∈ a := by unfold inB; simp
theorem sorted_nodup {fs : FL} (h : Sorted fs) : fs.Nodup := h.imp (fun {a b} hab e => by rw [e, less_irr] at hab; exact Bool.noConfusion hab)
theorem sorted_eq {a b : FL} (ha : Sorted a) (hb : Sorted b) (h : ∀ f, f ∈ a ↔ f ∈ b) : a = b := by
  have hp : a.Perm b := (List.perm_ext_iff_of_nodup (sorted_nodup ha) (sorted_nodup hb)).2 h
  refine List.Perm.eq_of_pairwise (le := fun f g : ByteArray × ByteArray => lessN f.1 g.1 = true) (fun x y _ _ h1 h2 => ?_) ha hb hp
  rw [less_asymm h1] at h2
  exact Bool.noConfusion h2
theorem sorted_sub {a b : FL} (ha : Sorted a) (hb : Sorted b) (h : ∀ n, hasF n a = true → hasF n b = true ∧ bytesF n b = bytesF n a) : ∀ f ∈ a, f ∈ b := by
  intro f hf
  obtain ⟨h1, h2⟩ := h f.1 ((has_mem ha).2 ⟨f, hf, rfl⟩)
  obtain ⟨g, hg, e⟩ := (has_mem hb).1 h1
  have e2 : g.2 = f.2 := by rw [← bytes_mem hb g hg e, h2, bytes_mem ha f hf rfl]
  have e3 : f = g := Prod.ext e.symm e2.symm
  rw [e3]
  exact hg
/-- the same answers at each name -/
theorem sorted_ext {a b : FL} (ha : Sorted a) (hb : Sorted b) (h1 : ∀ n, hasF n a = hasF n b) (h2 : ∀ n, hasF n a = true → bytesF n a = bytesF n b) : a = b :=
  sorted_eq ha hb (fun f => ⟨sorted_sub ha hb (fun n hn => ⟨by rw [← h1]; exact hn, (h2 n hn).symm⟩) f, sorted_sub hb ha (fun n hn => ⟨by rw [h1]; exact hn, h2 n (by rw [h1]; exact hn)⟩) f⟩)
/-- as many files, and each of the one is the other's -/
theorem sorted_len {a b : FL} (ha : Sorted a) (hb : Sorted b) (hl : a.length = b.length) (h : ∀ n, hasF n a = true → hasF n b = true ∧ bytesF n b = bytesF n a) : a = b := by
  have hs := sorted_sub ha hb h
  have hp : a.Perm (b.filter (inB a)) := (List.perm_ext_iff_of_nodup (sorted_nodup ha) ((sorted_nodup hb).filter _)).2 (fun f => by
    rw [List.mem_filter, inB_iff]
    exact ⟨fun h => ⟨hs f h, h⟩, fun h => h.2⟩)
  have he := hp.length_eq
  have hall := List.length_filter_eq_length_iff.1 (he.symm.trans hl)
  exact sorted_eq ha hb (fun f => ⟨hs f, fun hf => (inB_iff a f).1 (hall f hf)⟩)
end DiskM
end Go.Proofs.YtfbdhlpgklkjmaaGreatDoor
