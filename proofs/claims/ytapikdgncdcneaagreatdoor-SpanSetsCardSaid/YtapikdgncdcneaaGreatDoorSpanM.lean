/-
  Spans as lists of stretches between edges: edges stand in a total order; a list of stretches in its one form is told by its edges; meeting, joining, and all that is left.
-/
import Derived.Test.YtapikdgncdcneaaGreatDoorVerOrd
namespace Go.Proofs.YtapikdgncdcneaaGreatDoor
namespace SpanM
open VerM
/-- an edge: a version, and where it is (0: ahead of it, 1: behind it, 2: behind all; then the version is 0.0.0) -/
structure Ed where
  v : Ver
  s : Nat
/-- a stretch: from one edge to another -/
structure St where
  f : Ed
  t : Ed
def zeroV : Ver := ⟨0, 0, 0, []⟩
theorem zeroV_may : may zeroV = true := by rfl
def wfE (e : Ed) : Prop := may e.v = true ∧ e.s ≤ 2 ∧ (e.s = 2 → e.v = zeroV)
def late (e : Ed) : Nat := if e.s = 2 then 1 else 0
def cE : Ed → Ed → Int := lex (fun a b => cmpN (late a) (late b)) (lex (fun a b => cmpV a.v b.v) (fun a b => cmpN a.s b.s))
theorem cE_pre : Pre cE := (cmpN_pre.key late).lex ((cmpV_pre.key Ed.v).lex (cmpN_pre.key Ed.s))
theorem cE_zero {a b : Ed} (h : cE a b = 0) : a = b := by
  have h2 := (lex_zero h).2
  have e1 := cmpV_zero (lex_zero h2).1
  have e2 := cmpN_zero (lex_zero h2).2
  cases a; cases b; simp_all
theorem cE_self (a : Ed) : cE a a = 0 := by have := cE_pre.anti a a; omega
theorem cE_anti (a b : Ed) : cE a b = - cE b a := cE_pre.anti a b
theorem le_trans {a b c : Ed} (h1 : cE a b ≤ 0) (h2 : cE b c ≤ 0) : cE a c ≤ 0 := cE_pre.trans a b c h1 h2
theorem lt_le {a b c : Ed} (h1 : cE a b < 0) (h2 : cE b c ≤ 0) : cE a c < 0 := by
  have h3 := le_trans (show cE a b ≤ 0 by omega) h2
  rcases Int.lt_or_eq_of_le h3 with h | h
  · exact h
  · have e := cE_zero h
    subst e
    have := cE_anti a b
    omega
theorem le_lt {a b c : Ed} (h1 : cE a b ≤ 0) (h2 : cE b c < 0) : cE a c < 0 := by
  have h3 := le_trans h1 (show cE b c ≤ 0 by omega)
  rcases Int.lt_or_eq_of_le h3 with h | h
  · exact h
  · have e := cE_zero h
    subst e
    have := cE_anti a b
    omega
/-- compare, as it is said: where one of both is behind all, by the sides alone -/
theorem cE_is {a b : Ed} (ha : wfE a) (hb : wfE b) : cE a b = if a.s = 2 ∨ b.s = 2 then cmpN a.s b.s else if cmpV a.v b.v ≠ 0 then cmpV a.v b.v else cmpN a.s b.s := by
  have a2 := ha.2.1
  have b2 := hb.2.1
  unfold cE VerM.lex late
  by_cases h1 : a.s = 2 <;> by_cases h2 : b.s = 2
  · have e : cmpV a.v b.v = 0 := by rw [ha.2.2 h1, hb.2.2 h2, cmpV_self]
    simp [h1, h2, cmpN, e]
  · have : b.s < 2 := by omega
    simp [h1, h2, cmpN, this]
    omega
  · have : a.s < 2 := by omega
    simp [h1, h2, cmpN, this]
  · simp only [h1, h2, if_false, or_self, ne_eq]
    rw [if_neg (by simp [cmpN])]
def emp (s : St) : Prop := 0 ≤ cE s.f s.t
def inS (e : Ed) (s : St) : Prop := cE s.f e ≤ 0 ∧ cE e s.t < 0
def inL (e : Ed) (l : List St) : Prop := ∃ s, s ∈ l ∧ inS e s
theorem inS_some {e : Ed} {s : St} (h : inS e s) : cE s.f s.t < 0 := le_lt h.1 h.2
theorem inS_first {s : St} (h : cE s.f s.t < 0) : inS s.f s := ⟨by rw [cE_self]; exact Int.le_refl _, h⟩
theorem inL_nil (e : Ed) : ¬ inL e [] := fun ⟨_, h, _⟩ => by cases h
theorem inL_cons {e : Ed} {s : St} {l : List St} : inL e (s :: l) ↔ inS e s ∨ inL e l := by
  constructor
  · rintro ⟨x, hx, hi⟩
    rcases List.mem_cons.1 hx with h | h
    · exact .inl (h ▸ hi)
    · exact .inr ⟨x, h, hi⟩
  · rintro (h | ⟨x, hx, hi⟩)
    · exact ⟨s, List.mem_cons_self, h⟩
    · exact ⟨x, List.mem_cons_of_mem _ hx, hi⟩
theorem inL_append {e : Ed} {a b : List St} : inL e (a ++ b) ↔ inL e a ∨ inL e b := by
  constructor
  · rintro ⟨x, hx, hi⟩
    rcases List.mem_append.1 hx with h | h
    · exact .inl ⟨x, h, hi⟩
    · exact .inr ⟨x, h, hi⟩
  · rintro (⟨x, hx, hi⟩ | ⟨x, hx, hi⟩)
    · exact ⟨x, List.mem_append_left _ hx, hi⟩
    · exact ⟨x, List.mem_append_right _ hx, hi⟩
theorem inL_one {e : Ed} {s : St} : inL e [s] ↔ inS e s := by rw [inL_cons]; exact or_iff_left (inL_nil e)
/-- in its one form: none is empty, and each ends ahead of where the next one begins -/
def Can (l : List St) : Prop := (∀ s ∈ l, cE s.f s.t < 0) ∧ l.Pairwise (fun a b => cE a.t b.f < 0)
theorem Can.nil : Can [] := ⟨fun s h => (by cases h), List.Pairwise.nil⟩
theorem Can.tail {s : St} {l : List St} (h : Can (s :: l)) : Can l := ⟨fun x hx => h.1 x (List.mem_cons_of_mem _ hx), (List.pairwise_cons.1 h.2).2⟩
theorem Can.first {s : St} {l : List St} (h : Can (s :: l)) {e : Ed} (he : inL e l) : cE s.t e < 0 := by
  obtain ⟨x, hx, hi⟩ := he
  exact lt_le ((List.pairwise_cons.1 h.2).1 x hx) hi.1
theorem Can.least {s : St} {l : List St} (h : Can (s :: l)) {e : Ed} (he : inL e (s :: l)) : cE s.f e ≤ 0 := by
  rcases inL_cons.1 he with hi | hi
  · exact hi.1
  · have h1 := h.first hi
    have h2 := h.1 s List.mem_cons_self
    have := lt_le h2 (show cE s.t e ≤ 0 by omega)
    omega
/-- what is in it tells the one form -/
theorem Can.ext : ∀ {a b : List St}, Can a → Can b → (∀ e, inL e a ↔ inL e b) → a = b
  | [], [], _, _, _ => rfl
  | [], y :: b, _, hb, h => absurd ((h y.f).2 (inL_cons.2 (.inl (inS_first (hb.1 y List.mem_cons_self))))) (inL_nil _)
  | x :: a, [], ha, _, h => absurd ((h x.f).1 (inL_cons.2 (.inl (inS_first (ha.1 x List.mem_cons_self))))) (inL_nil _)
  | x :: a, y :: b, ha, hb, h => by
    have hx := ha.1 x List.mem_cons_self
    have hy := hb.1 y List.mem_cons_self
    have e1 : x.f = y.f := by
      have h1 := hb.least ((h x.f).1 (inL_cons.2 (.inl (inS_first hx))))
      have h2 := ha.least ((h y.f).2 (inL_cons.2 (.inl (inS_first hy))))
      have := cE_anti x.f y.f
      exact cE_zero (by omega)
    have noX : ¬ inL x.t (x :: a) := fun hi => by
      rcases inL_cons.1 hi with hi | hi
      · have := hi.2; rw [cE_self] at this; omega
      · have := ha.first hi; rw [cE_self] at this; omega
    have noY : ¬ inL y.t (y :: b) := fun hi => by
      rcases inL_cons.1 hi with hi | hi
      · have := hi.2; rw [cE_self] at this; omega
      · have := hb.first hi; rw [cE_self] at this; omega
    have e2 : x.t = y.t := by
      by_cases h1 : cE x.t y.t < 0
      · exact absurd ((h x.t).2 (inL_cons.2 (.inl ⟨by rw [← e1]; omega, h1⟩))) noX
      · by_cases h2 : cE y.t x.t < 0
        · exact absurd ((h y.t).1 (inL_cons.2 (.inl ⟨by rw [e1]; omega, h2⟩))) noY
        · have := cE_anti x.t y.t
          exact cE_zero (by omega)
    have e : x = y := by cases x; cases y; simp_all
    subst e
    have ht : a = b := Can.ext ha.tail hb.tail fun e => by
      constructor
      · intro hi
        have h1 := ha.first hi
        rcases inL_cons.1 ((h e).1 (inL_cons.2 (.inr hi))) with h2 | h2
        · have := h2.2; have := cE_anti x.t e; omega
        · exact h2
      · intro hi
        have h1 := hb.first hi
        rcases inL_cons.1 ((h e).2 (inL_cons.2 (.inr hi))) with h2 | h2
        · have := h2.2; have := cE_anti x.t e; omega
        · exact h2
    rw [ht]
/-- what is in both -/
def meetS (s t : St) : St := ⟨if cE s.f t.f < 0 then t.f else s.f, if 0 < cE s.t t.t then t.t else s.t⟩
theorem inS_meet {e : Ed} {s t : St} : inS e (meetS s t) ↔ inS e s ∧ inS e t := by
  unfold inS meetS
  have a1 := cE_anti s.f t.f
  have a2 := cE_anti s.t t.t
  constructor
  · rintro ⟨h1, h2⟩
    dsimp only at h1 h2
    refine ⟨⟨?_, ?_⟩, ?_, ?_⟩
    · split at h1
      · exact le_trans (by omega) h1
      · exact h1
    · split at h2
      · exact lt_le h2 (by omega)
      · exact h2
    · split at h1
      · exact h1
      · exact le_trans (by omega) h1
    · split at h2
      · exact h2
      · exact lt_le h2 (by omega)
  · rintro ⟨⟨h1, h2⟩, h3, h4⟩
    dsimp only
    refine ⟨?_, ?_⟩
    · split <;> assumption
    · split <;> assumption
def meets (a b : List St) : List St := a.flatMap fun s => b.map fun t => meetS s t
theorem inL_meets {e : Ed} {a b : List St} : inL e (meets a b) ↔ inL e a ∧ inL e b := by
  unfold meets inL
  constructor
  · rintro ⟨x, hx, hi⟩
    obtain ⟨s, hs, hx⟩ := List.mem_flatMap.1 hx
    obtain ⟨t, ht, rfl⟩ := List.mem_map.1 hx
    obtain ⟨h1, h2⟩ := inS_meet.1 hi
    exact ⟨⟨s, hs, h1⟩, t, ht, h2⟩
  · rintro ⟨⟨s, hs, h1⟩, t, ht, h2⟩
    exact ⟨meetS s t, List.mem_flatMap.2 ⟨s, hs, List.mem_map.2 ⟨t, ht, rfl⟩⟩, inS_meet.2 ⟨h1, h2⟩⟩
/-- what a round of putting stretches together finds and leaves: of the first i of D, which rise by where they begin, and of which none is empty -/
structure PutI (D : List St) (i : Nat) (A : List St) : Prop where
  le : i ≤ D.length
  can : Can A
  set : ∀ e, inL e A ↔ inL e (D.take i)
  low : ∀ x ∈ A, ∃ d ∈ D.take i, x.f = d.f
theorem PutI.start (D : List St) : PutI D 0 [] := ⟨Nat.zero_le _, Can.nil, fun e => by simp, fun x h => by cases h⟩
def Rises (D : List St) : Prop := D.Pairwise (fun a b => cE a.f b.f ≤ 0) ∧ ∀ s ∈ D, cE s.f s.t < 0
theorem take_snoc {D : List St} {i : Nat} {s : St} (h : D[i]? = some s) : D.take (i + 1) = D.take i ++ [s] := by rw [List.take_add_one, h]; rfl
theorem Rises.upto {D : List St} (h : Rises D) {i : Nat} {s : St} (hs : D[i]? = some s) : ∀ d ∈ D.take i, cE d.f s.f ≤ 0 := by
  intro d hd
  obtain ⟨hi, e⟩ := List.getElem?_eq_some_iff.1 hs
  obtain ⟨j, hj, ej⟩ := List.getElem_of_mem hd
  rw [List.length_take] at hj
  rw [List.getElem_take] at ej
  rw [← ej, ← e]
  exact List.pairwise_iff_getElem.1 h.1 j i (by omega) hi (by omega)
theorem PutI.low' {D A : List St} {i : Nat} {s : St} (h : PutI D i A) (hD : Rises D) (hs : D[i]? = some s) : ∀ x ∈ A, cE x.f s.f ≤ 0 := by
  intro x hx
  obtain ⟨d, hd, e⟩ := h.low x hx
  rw [e]; exact hD.upto hs d hd
theorem PutI.ne {D : List St} (hD : Rises D) {i : Nat} {s : St} (hs : D[i]? = some s) : cE s.f s.t < 0 := hD.2 s (List.mem_of_getElem? hs)
/-- the next one stands apart -/
theorem PutI.more {D A : List St} {i : Nat} {s : St} (h : PutI D i A) (hD : Rises D) (hs : D[i]? = some s) (ha : ∀ x ∈ A, cE x.t s.f < 0) : PutI D (i + 1) (A ++ [s]) := by
  have hi := (List.getElem?_eq_some_iff.1 hs).1
  refine ⟨hi, ⟨fun x hx => ?_, ?_⟩, fun e => ?_, fun x hx => ?_⟩
  · rcases List.mem_append.1 hx with hx | hx
    · exact h.can.1 x hx
    · rw [List.mem_singleton.1 hx]; exact PutI.ne hD hs
  · rw [List.pairwise_append]
    exact ⟨h.can.2, List.pairwise_singleton _ _, fun a ha' b hb => by rw [List.mem_singleton.1 hb]; exact ha a ha'⟩
  · rw [inL_append, take_snoc hs, inL_append, h.set]
  · rw [take_snoc hs]
    rcases List.mem_append.1 hx with hx | hx
    · obtain ⟨d, hd, e⟩ := h.low x hx
      exact ⟨d, List.mem_append_left _ hd, e⟩
    · exact ⟨s, List.mem_append_right _ List.mem_cons_self, by rw [List.mem_singleton.1 hx]⟩
theorem Can.init {A : List St} {x : St} (h : Can (A ++ [x])) : Can A ∧ cE x.f x.t < 0 ∧ ∀ a ∈ A, cE a.t x.f < 0 := by
  have h2 := List.pairwise_append.1 h.2
  exact ⟨⟨fun s hs => h.1 s (List.mem_append_left _ hs), h2.1⟩, h.1 x (List.mem_append_right _ List.mem_cons_self), fun a ha => h2.2.2 a ha x List.mem_cons_self⟩
/-- behind the last one's end all that stands ahead of it stands, too -/
theorem Can.ends {A : List St} {x : St} (h : Can (A ++ [x])) {e : Ed} (he : cE x.t e < 0) : ∀ a ∈ A ++ [x], cE a.t e < 0 := by
  obtain ⟨_, h1, h2⟩ := h.init
  intro a ha
  rcases List.mem_append.1 ha with ha | ha
  · exact lt_le (h2 a ha) (by have := lt_le h1 (show cE x.t e ≤ 0 by omega); omega)
  · rw [List.mem_singleton.1 ha]; exact he
/-- the next one begins in the last one, or where it ends, and ends behind it -/
theorem PutI.wide {D A : List St} {i : Nat} {s x : St} (h : PutI D i (A ++ [x])) (hD : Rises D) (hs : D[i]? = some s) (h1 : cE s.f x.t ≤ 0) (h2 : cE x.t s.t < 0) : PutI D (i + 1) (A ++ [⟨x.f, s.t⟩]) := by
  have hi := (List.getElem?_eq_some_iff.1 hs).1
  obtain ⟨c1, c2, c3⟩ := h.can.init
  have hl := h.low' hD hs x (List.mem_append_right _ List.mem_cons_self)
  refine ⟨hi, ⟨fun y hy => ?_, ?_⟩, fun e => ?_, fun y hy => ?_⟩
  · rcases List.mem_append.1 hy with hy | hy
    · exact c1.1 y hy
    · rw [List.mem_singleton.1 hy]; exact lt_le c2 (show cE x.t s.t ≤ 0 by omega)
  · rw [List.pairwise_append]
    exact ⟨c1.2, List.pairwise_singleton _ _, fun a ha b hb => by rw [List.mem_singleton.1 hb]; exact c3 a ha⟩
  · have hset := h.set e
    rw [inL_append, inL_one] at hset
    rw [inL_append, inL_one, take_snoc hs, inL_append, inL_one, ← hset, or_assoc]
    refine or_congr_right ?_
    constructor
    · rintro ⟨g1, g2⟩
      by_cases hx : cE e x.t < 0
      · exact .inl ⟨g1, hx⟩
      · exact .inr ⟨le_trans h1 (by have := cE_anti e x.t; omega), g2⟩
    · rintro (⟨g1, g2⟩ | ⟨g1, g2⟩)
      · exact ⟨g1, by have := lt_le g2 (show cE x.t s.t ≤ 0 by omega); omega⟩
      · exact ⟨le_trans hl g1, g2⟩
  · rw [take_snoc hs]
    rcases List.mem_append.1 hy with hy | hy
    · obtain ⟨d, hd, e⟩ := h.low y (List.mem_append_left _ hy)
      exact ⟨d, List.mem_append_left _ hd, e⟩
    · obtain ⟨d, hd, e⟩ := h.low x (List.mem_append_right _ List.mem_cons_self)
      exact ⟨d, List.mem_append_left _ hd, by rw [List.mem_singleton.1 hy]; exact e⟩
/-- the next one lies in the last one -/
theorem PutI.skip {D A : List St} {i : Nat} {s x : St} (h : PutI D i (A ++ [x])) (hD : Rises D) (hs : D[i]? = some s) (h2 : cE s.t x.t ≤ 0) : PutI D (i + 1) (A ++ [x]) := by
  have hi := (List.getElem?_eq_some_iff.1 hs).1
  have hl := h.low' hD hs x (List.mem_append_right _ List.mem_cons_self)
  refine ⟨hi, h.can, fun e => ?_, fun y hy => ?_⟩
  · have hset := h.set e
    rw [take_snoc hs, inL_append (a := D.take i), inL_one, ← hset]
    refine ⟨.inl, fun hh => ?_⟩
    rcases hh with hh | ⟨g1, g2⟩
    · exact hh
    · rw [inL_append, inL_one]
      exact .inr ⟨le_trans hl g1, lt_le g2 h2⟩
  · obtain ⟨d, hd, e⟩ := h.low y hy
    rw [take_snoc hs]
    exact ⟨d, List.mem_append_left _ hd, e⟩
/-- the one form of any stretches -/
def sorted (l : List St) : List St := (l.filter fun s => decide (cE s.f s.t < 0)).mergeSort fun a b => decide (cE a.f b.f ≤ 0)
def put (A : List St) (s : St) : List St := match A.getLast? with
  | none => [s]
  | some x => if cE x.t s.f < 0 then A ++ [s] else if cE x.t s.t < 0 then A.dropLast ++ [⟨x.f, s.t⟩] else A
def formM (l : List St) : List St := (sorted l).foldl put []
theorem sorted_mem {l : List St} (s : St) : s ∈ sorted l ↔ s ∈ l ∧ cE s.f s.t < 0 := by
  unfold sorted
  rw [(List.mergeSort_perm _ _).mem_iff, List.mem_filter, decide_eq_true_eq]
theorem sorted_rises (l : List St) : Rises (sorted l) := by
  refine ⟨?_, fun s hs => ((sorted_mem s).1 hs).2⟩
  refine List.Pairwise.imp (fun h => by simpa using h) (List.pairwise_mergeSort (le := fun a b : St => decide (cE a.f b.f ≤ 0)) ?_ ?_ _)
  · intro a b c h1 h2
    simp only [decide_eq_true_eq] at *
    exact le_trans h1 h2
  · intro a b
    simp only [Bool.or_eq_true, decide_eq_true_eq]
    have := cE_anti a.f b.f
    omega
theorem inL_sorted {l : List St} (e : Ed) : inL e (sorted l) ↔ inL e l := by
  constructor
  · rintro ⟨s, hs, hi⟩
    exact ⟨s, ((sorted_mem s).1 hs).1, hi⟩
  · rintro ⟨s, hs, hi⟩
    exact ⟨s, (sorted_mem s).2 ⟨hs, inS_some hi⟩, hi⟩
theorem PutI.put {D A : List St} {i : Nat} {s : St} (h : PutI D i A) (hD : Rises D) (hs : D[i]? = some s) : PutI D (i + 1) (SpanM.put A s) := by
  unfold SpanM.put
  split
  · rename_i e
    rw [List.getLast?_eq_none_iff] at e
    subst e
    exact h.more hD hs fun x hx => by cases hx
  · rename_i x e
    obtain ⟨A', rfl⟩ := List.getLast?_eq_some_iff.1 e
    split
    · rename_i h1
      exact h.more hD hs (h.can.ends h1)
    · rename_i h1
      have := cE_anti x.t s.f
      split
      · rename_i h2
        rw [List.dropLast_concat]
        exact h.wide hD hs (by omega) h2
      · rename_i h2
        have := cE_anti x.t s.t
        exact h.skip hD hs (by omega)
theorem PutI.all {D : List St} (hD : Rises D) : ∀ i, i ≤ D.length → PutI D i ((D.take i).foldl SpanM.put [])
  | 0, _ => PutI.start D
  | i + 1, h => by
    have hs : D[i]? = some D[i] := List.getElem?_eq_getElem (by omega)
    rw [take_snoc hs, List.foldl_append]
    exact (PutI.all hD i (by omega)).put hD hs
theorem formM_is (l : List St) : Can (formM l) ∧ ∀ e, inL e (formM l) ↔ inL e l := by
  have h := PutI.all (sorted_rises l) (sorted l).length (Nat.le_refl _)
  rw [List.take_length] at h
  refine ⟨h.can, fun e => ?_⟩
  have := h.set e
  rw [List.take_length, inL_sorted] at this
  exact this
theorem formM_eq {l R : List St} (h1 : Can R) (h2 : ∀ e, inL e R ↔ inL e l) : R = formM l := Can.ext h1 (formM_is l).1 fun e => (h2 e).trans ((formM_is l).2 e).symm
theorem formM_of {l : List St} (h : Can l) : formM l = l := (formM_eq h fun _ => Iff.rfl).symm
theorem formM_congr {a b : List St} (h : ∀ e, inL e a ↔ inL e b) : formM a = formM b := formM_eq (formM_is a).1 fun e => ((formM_is a).2 e).trans (h e)
/-- all edges of the one form are edges of what it was made of -/
theorem put_edges {A : List St} {s y : St} (h : y ∈ SpanM.put A s) : (y.f = s.f ∨ ∃ a ∈ A, y.f = a.f) ∧ (y.t = s.t ∨ ∃ a ∈ A, y.t = a.t) := by
  unfold SpanM.put at h
  split at h
  · rw [List.mem_singleton.1 h]; exact ⟨.inl rfl, .inl rfl⟩
  · rename_i x e
    obtain ⟨A', rfl⟩ := List.getLast?_eq_some_iff.1 e
    split at h
    · rcases List.mem_append.1 h with h | h
      · exact ⟨.inr ⟨y, h, rfl⟩, .inr ⟨y, h, rfl⟩⟩
      · rw [List.mem_singleton.1 h]; exact ⟨.inl rfl, .inl rfl⟩
    · split at h
      · rw [List.dropLast_concat] at h
        rcases List.mem_append.1 h with h | h
        · exact ⟨.inr ⟨y, List.mem_append_left _ h, rfl⟩, .inr ⟨y, List.mem_append_left _ h, rfl⟩⟩
        · rw [List.mem_singleton.1 h]; exact ⟨.inr ⟨x, List.mem_append_right _ List.mem_cons_self, rfl⟩, .inl rfl⟩
      · exact ⟨.inr ⟨y, h, rfl⟩, .inr ⟨y, h, rfl⟩⟩
theorem foldl_edges : ∀ (D A : List St) (P : Ed → Prop) (Q : Ed → Prop), (∀ s ∈ A, P s.f ∧ Q s.t) → (∀ s ∈ D, P s.f ∧ Q s.t) → ∀ s ∈ D.foldl SpanM.put A, P s.f ∧ Q s.t
  | [], _, _, _, h, _ => h
  | d :: D, A, P, Q, h, hd => by
    refine foldl_edges D (SpanM.put A d) P Q (fun s hs => ?_) fun s hs => hd s (List.mem_cons_of_mem _ hs)
    have hdd := hd d List.mem_cons_self
    obtain ⟨h1, h2⟩ := put_edges hs
    refine ⟨?_, ?_⟩
    · rcases h1 with e | ⟨a, ha, e⟩
      · rw [e]; exact hdd.1
      · rw [e]; exact (h a ha).1
    · rcases h2 with e | ⟨a, ha, e⟩
      · rw [e]; exact hdd.2
      · rw [e]; exact (h a ha).2
theorem formM_edges {l : List St} {P Q : Ed → Prop} (h : ∀ s ∈ l, P s.f ∧ Q s.t) : ∀ s ∈ formM l, P s.f ∧ Q s.t :=
  foldl_edges (sorted l) [] P Q (fun s hs => by cases hs) fun s hs => h s ((sorted_mem s).1 hs).1
end SpanM
end Go.Proofs.YtapikdgncdcneaaGreatDoor
