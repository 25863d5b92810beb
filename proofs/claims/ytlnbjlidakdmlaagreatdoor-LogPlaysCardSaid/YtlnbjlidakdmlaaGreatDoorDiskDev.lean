/-
  The program's disk and the document's, beside each other.
-/
import Derived.Test.YtlnbjlidakdmlaaGreatDoorDiskErr
import Derived.Test.YtlnbjlidakdmlaaGreatDoorDiskRef7
namespace Go.Proofs.YtlnbjlidakdmlaaGreatDoor
open Go.RowKit
namespace DiskC
open DiskM ErrC

/-- both disks stand alike, apart from each other, above B -/
structure Pair (R : World → Nat → (Nat → Prop) → Int → DS → Prop) (w : World) (b : Nat) (F : Nat → Prop) (y : Nat) (v : Value) (cut : Int) (s : DS) (B : Nat) : Prop where
  rep : R w b F cut s
  ref : IsD w y v cut s
  dis : ∀ i, F i → ¬ Foot y v i
  low : ∀ i, F i → B ≤ i
  low2 : ∀ i, Foot y v i → B ≤ i
  hw : B ≤ w.heap.size
  vars : Vars w
  g0 : 0 < B
  g1 : 1 < B
theorem foot_lt {w : World} {y : Nat} {v : Value} {cut : Int} {s : DS} (h : IsD w y v cut s) : ∀ i, Foot y v i → i < w.heap.size := fun i hi => by
  rcases hi with rfl | hi
  · exact IsDsk.lt h
  · exact (h.row.lt i hi).2

/-- behind the program's call -/
structure Half (R : World → Nat → (Nat → Prop) → Int → DS → Prop) (w1 : World) (b : Nat) (F : Nat → Prop) (y : Nat) (v : Value) (cut cut1 : Int) (s s1 : DS) (B : Nat) : Prop where
  rep : R w1 b F cut1 s1
  ref : IsD w1 y v cut s
  dis : ∀ i, F i → ¬ Foot y v i
  low : ∀ i, F i → B ≤ i
  low2 : ∀ i, Foot y v i → B ≤ i
  hw : B ≤ w1.heap.size
  vars : Vars w1
  g0 : 0 < B
  g1 : 1 < B
theorem Pair.dev {R : World → Nat → (Nat → Prop) → Int → DS → Prop} {w w1 : World} {b y B : Nat} {F F1 : Nat → Prop} {v : Value} {cut cut1 : Int} {s s1 : DS} (h : Pair R w b F y v cut s B)
    (hr : R w1 b F1 cut1 s1) (hk : Keeps F w w1) (hf : ∀ i, F1 i → F i ∨ w.heap.size ≤ i) : Half R w1 b F1 y v cut cut1 s s1 B ∧ Below B w w1 := by
  have hb := hk.toBelow h.low h.hw
  refine ⟨⟨hr, IsDsk.keeps h.ref hk (fun i hi hF => h.dis i hF hi), fun i hi hF => ?_, fun i hi => ?_, h.low2, Nat.le_trans h.hw hk.size, Vars.belowG h.vars hb h.g0 h.g1, h.g0, h.g1⟩, hb⟩
  · rcases hf i hi with h1 | h1
    · exact h.dis i h1 hF
    · have := foot_lt h.ref i hF; omega
  · rcases hf i hi with h1 | h1
    · exact h.low i h1
    · exact Nat.le_trans h.hw h1
theorem Half.ref_ {R : World → Nat → (Nat → Prop) → Int → DS → Prop} {B : Nat} (hD : Dev B R) {w1 w2 : World} {b y : Nat} {F : Nat → Prop} {v v' : Value} {cut cut1 : Int} {s s1 : DS} (h : Half R w1 b F y v cut cut1 s s1 B)
    (hl : Laid w1 w2 y v v' s1.fs cut1 s1.count s1.dead) : Pair R w2 b F y v' cut1 s1 B ∧ Below B w1 w2 := by
  have hb := hl.keeps.toBelow h.low2 h.hw
  have hy : ∀ i, Foot y v' i → Foot y v i ∨ w1.heap.size ≤ i := fun i hi => by
    rcases hi with rfl | hi
    · exact Or.inl (Or.inl rfl)
    · rcases hl.row i hi with h1 | h1
      · exact Or.inl (Or.inr h1)
      · exact Or.inr h1
  refine ⟨⟨hD.keeps h.rep hl.keeps h.dis h.low2, hl.dsk, fun i hi hF => ?_, h.low, fun i hi => ?_, Nat.le_trans h.hw hl.keeps.size, Vars.belowG h.vars hb h.g0 h.g1, h.g0, h.g1⟩, hb⟩
  · rcases hy i hF with h1 | h1
    · exact h.dis i hi h1
    · have := hD.lt h.rep i hi; omega
  · rcases hy i hi with h1 | h1
    · exact h.low2 i h1
    · exact Nat.le_trans h.hw h1
theorem Pair.below {R : World → Nat → (Nat → Prop) → Int → DS → Prop} {B : Nat} (hD : Dev B R) {w w' : World} {b y : Nat} {F : Nat → Prop} {v : Value} {cut : Int} {s : DS} (h : Pair R w b F y v cut s B) (hb : Below w.heap.size w w') : Pair R w' b F y v cut s B :=
  ⟨hD.keeps h.rep (Keeps.of_below (S := fun _ => False) hb) (fun _ _ h => h) (fun _ h => h.elim), IsDsk.keeps h.ref (Keeps.of_below (S := fun _ => False) hb) (fun _ _ h => h), h.dis, h.low, h.low2, Nat.le_trans h.hw hb.size, h.vars.below hb, h.g0, h.g1⟩
/-- the document's call came first -/
theorem Pair.ref1 {R : World → Nat → (Nat → Prop) → Int → DS → Prop} {B : Nat} (hD : Dev B R) {w w1 : World} {b y : Nat} {F : Nat → Prop} {v v' : Value} {cut cut1 : Int} {s s1 : DS} (h : Pair R w b F y v cut s B)
    (hl : Laid w w1 y v v' s1.fs cut1 s1.count s1.dead) : Half R w1 b F y v' cut1 cut s1 s B ∧ Below B w w1 := by
  have hb := hl.keeps.toBelow h.low2 h.hw
  have hy : ∀ i, Foot y v' i → Foot y v i ∨ w.heap.size ≤ i := fun i hi => by
    rcases hi with rfl | hi
    · exact Or.inl (Or.inl rfl)
    · rcases hl.row i hi with h1 | h1
      · exact Or.inl (Or.inr h1)
      · exact Or.inr h1
  refine ⟨⟨hD.keeps h.rep hl.keeps h.dis h.low2, hl.dsk, fun i hi hF => ?_, h.low, fun i hi => ?_, Nat.le_trans h.hw hl.keeps.size, Vars.belowG h.vars hb h.g0 h.g1, h.g0, h.g1⟩, hb⟩
  · rcases hy i hF with h1 | h1
    · exact h.dis i hi h1
    · have := hD.lt h.rep i hi; omega
  · rcases hy i hi with h1 | h1
    · exact h.low2 i h1
    · exact Nat.le_trans h.hw h1
theorem Half.dev {R : World → Nat → (Nat → Prop) → Int → DS → Prop} {w1 w2 : World} {b y B : Nat} {F F1 : Nat → Prop} {v : Value} {cut cut1 : Int} {s s1 : DS} (h : Half R w1 b F y v cut cut1 s s1 B)
    (hr : R w2 b F1 cut s) (hk : Keeps F w1 w2) (hf : ∀ i, F1 i → F i ∨ w1.heap.size ≤ i) : Pair R w2 b F1 y v cut s B ∧ Below B w1 w2 := by
  have hb := hk.toBelow h.low h.hw
  refine ⟨⟨hr, IsDsk.keeps h.ref hk (fun i hi hF => h.dis i hF hi), fun i hi hF => ?_, fun i hi => ?_, h.low2, Nat.le_trans h.hw hk.size, Vars.belowG h.vars hb h.g0 h.g1, h.g0, h.g1⟩, hb⟩
  · rcases hf i hi with h1 | h1
    · exact h.dis i h1 hF
    · have := foot_lt h.ref i hF; omega
  · rcases hf i hi with h1 | h1
    · exact h.low i h1
    · exact Nat.le_trans h.hw h1
end DiskC
end Go.Proofs.YtlnbjlidakdmlaaGreatDoor
