/-
  Texts in order, each once: there is but one such list of what a list holds; what slices.Compact leaves of a sorted list is it; one text more at its place.
-/
import Derived.Lib.SlicesCompact
namespace Go.Proofs.YtienlkbokafndaaDoor
namespace NameM
abbrev TL := List (List UInt8)
/-- rising, each once -/
def SS (l : TL) : Prop := l.Pairwise (fun a b => a < b)
theorem lt_ne {a b : List UInt8} (h : a < b) : a ≠ b := fun e => by rw [e] at h; exact List.lt_irrefl _ h
theorem SS.nodup {l : TL} (h : SS l) : l.Nodup := List.Pairwise.imp (fun h => lt_ne h) h
theorem SS.ext {a b : TL} (ha : SS a) (hb : SS b) (h : ∀ x, x ∈ a ↔ x ∈ b) : a = b := by
  have hp : a.Perm b := (List.perm_ext_iff_of_nodup ha.nodup hb.nodup).2 h
  exact List.Perm.eq_of_pairwise (le := fun x y : List UInt8 => x < y) (fun x y _ _ h1 h2 => absurd (List.lt_trans h1 h2) (List.lt_irrefl _)) ha hb hp
/-- one more at its place -/
theorem SS.insert {o : TL} {x : List UInt8} {k : Nat} (h : SS o) (h1 : ∀ y ∈ o.take k, y < x) (h2 : ∀ y ∈ o.drop k, x < y) : SS (o.take k ++ x :: o.drop k) := by
  unfold SS
  have hs : SS (o.take k ++ o.drop k) := by rw [List.take_append_drop]; exact h
  unfold SS at hs
  rw [List.pairwise_append] at hs ⊢
  refine ⟨hs.1, List.pairwise_cons.2 ⟨h2, hs.2.1⟩, fun a ha b hb => ?_⟩
  rcases List.mem_cons.1 hb with e | e
  · rw [e]; exact h1 a ha
  · exact hs.2.2 a ha b e
theorem mem_insert {o : TL} {x : List UInt8} {k : Nat} (y : List UInt8) : y ∈ o.take k ++ x :: o.drop k ↔ y = x ∨ y ∈ o := by
  rw [List.mem_append, List.mem_cons]
  have : y ∈ o ↔ y ∈ o.take k ∨ y ∈ o.drop k := by rw [← List.mem_append, List.take_append_drop]
  rw [this]
  constructor
  · rintro (h | h | h)
    · exact .inr (.inl h)
    · exact .inl h
    · exact .inr (.inr h)
  · rintro (h | h | h)
    · exact .inr (.inl h)
    · exact .inl h
    · exact .inr (.inr h)
theorem le_of_not {a b : List UInt8} (h : ¬ b < a) : a ≤ b := List.not_lt.1 h
theorem lt_or {a b : List UInt8} (h : a ≤ b) (hn : a ≠ b) : a < b := by
  rcases Classical.em (a < b) with h1 | h1
  · exact h1
  · exact absurd (List.le_antisymm h (List.not_lt.1 h1)) hn

theorem compactU (d : Array (List UInt8)) (hs : d.toList.Pairwise (fun a b => a ≤ b)) : ∀ m, m ≤ d.size → SS (Lib.compactUpTo d m) ∧ (∀ x, x ∈ Lib.compactUpTo d m ↔ x ∈ d.toList.take m)
  | 0, _ => ⟨List.Pairwise.nil, fun x => by simp [Lib.compactUpTo]⟩
  | m + 1, hm => by
    obtain ⟨i1, i2⟩ := compactU d hs m (by omega)
    have hml : m < d.toList.length := by simp; omega
    have hget : d[m]! = d.toList[m] := by simp [show m < d.size from by omega]
    have htake : d.toList.take (m + 1) = d.toList.take m ++ [d.toList[m]] := by rw [List.take_add_one]; simp [show m < d.size from by omega]
    have hle : ∀ y ∈ d.toList.take m, y ≤ d.toList[m] := by
      intro y hy
      obtain ⟨j, hj, e⟩ := List.getElem_of_mem hy
      rw [List.length_take] at hj
      rw [← e, List.getElem_take]
      exact List.pairwise_iff_getElem.1 hs j m (by omega) hml (by omega)
    rw [Lib.compactUpTo_succ]
    split
    · rename_i hk
      refine ⟨?_, fun x => ?_⟩
      · unfold SS
        rw [List.pairwise_append]
        refine ⟨i1, List.pairwise_singleton _ _, fun a ha b hb => ?_⟩
        rw [List.mem_singleton] at hb
        rw [hb, hget]
        have ha' := (i2 a).1 ha
        refine lt_or (hle a ha') (fun e => ?_)
        cases m with
        | zero => simp at ha'
        | succ p =>
          have hne : d[p + 1]! ≠ d[p]! := by simpa [Lib.keeps] using hk
          have hp : d[p]! = d.toList[p] := by simp [show p < d.size from by omega]
          rw [hget, hp] at hne
          obtain ⟨j, hj, ej⟩ := List.getElem_of_mem ha'
          rw [List.length_take] at hj
          rw [List.getElem_take] at ej
          have h1 : a ≤ d.toList[p] := by
            rw [← ej]
            rcases Nat.lt_or_ge j p with h | h
            · exact List.pairwise_iff_getElem.1 hs j p (by omega) (by omega) h
            · have : j = p := by omega
              subst this; exact List.le_refl _
          have h2 : d.toList[p] ≤ d.toList[p + 1] := List.pairwise_iff_getElem.1 hs p (p + 1) (by omega) hml (by omega)
          rw [e] at h1
          exact hne (List.le_antisymm h1 h2)
      · rw [List.mem_append, i2, htake, List.mem_append, List.mem_singleton, List.mem_singleton, hget]
    · rename_i hk
      rw [List.append_nil]
      refine ⟨i1, fun x => ?_⟩
      rw [i2, htake, List.mem_append, List.mem_singleton]
      refine ⟨Or.inl, fun h => ?_⟩
      rcases h with h | h
      · exact h
      · cases m with
        | zero => simp [Lib.keeps] at hk
        | succ p =>
          have he : d[p + 1]! = d[p]! := by simpa [Lib.keeps] using hk
          have hp : d[p]! = d.toList[p] := by simp [show p < d.size from by omega]
          rw [hget, hp] at he
          rw [h, he]
          exact List.mem_take_iff_getElem.2 ⟨p, by simp; omega, rfl⟩
/-- sorted and each once -/
def rise (l : TL) : TL := Lib.compact (l.mergeSort fun x y => decide (x ≤ y))
theorem rise_is (l : TL) : SS (rise l) ∧ ∀ x, x ∈ rise l ↔ x ∈ l := by
  have tr : ∀ a b c : List UInt8, decide (a ≤ b) = true → decide (b ≤ c) = true → decide (a ≤ c) = true := fun a b c h1 h2 => by simp only [decide_eq_true_eq] at *; exact List.le_trans h1 h2
  have to : ∀ a b : List UInt8, (decide (a ≤ b) || decide (b ≤ a)) = true := fun a b => by simp only [Bool.or_eq_true, decide_eq_true_eq]; exact List.le_total a b
  have hs : (l.mergeSort fun x y => decide (x ≤ y)).Pairwise (fun a b => a ≤ b) := List.Pairwise.imp (fun h => by simpa using h) (List.pairwise_mergeSort tr to l)
  have hp : (l.mergeSort fun x y => decide (x ≤ y)).Perm l := List.mergeSort_perm l _
  have h := compactU (l.mergeSort fun x y => decide (x ≤ y)).toArray hs (l.mergeSort fun x y => decide (x ≤ y)).length (by simp)
  refine ⟨h.1, fun x => (h.2 x).trans ?_⟩
  simp only [List.take_length]
  exact hp.mem_iff
theorem rise_length (l : TL) : (rise l).length ≤ l.length := by
  unfold rise Lib.compact Lib.compactUpTo
  rw [List.length_map]
  refine Nat.le_trans (List.length_filter_le _ _) ?_
  rw [List.length_range, List.length_mergeSort]
  exact Nat.le_refl _
theorem rise_eq {l o : TL} (h : SS o) (hm : ∀ x, x ∈ o ↔ x ∈ l) : o = rise l := SS.ext h (rise_is l).1 (fun x => (hm x).trans ((rise_is l).2 x).symm)
end NameM
end Go.Proofs.YtienlkbokafndaaDoor
