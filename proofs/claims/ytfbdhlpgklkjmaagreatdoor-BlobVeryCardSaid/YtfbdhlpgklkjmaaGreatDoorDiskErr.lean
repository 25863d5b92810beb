/-
  What the laws of layer 3 ask of the program's disk, whatever it is made of: R holds it for a disk of the document (DS); F: the blocks that it may write; what it reads beside them lies below B.
-/
import Derived.Test.YtfbdhlpgklkjmaaGreatDoorDiskFit
import Derived.Test.YtfbdhlpgklkjmaaGreatDoorDiskKeeps
import Derived.Test.YtfbdhlpgklkjmaaGreatDoorTextRow
import Derived.Test.YtfbdhlpgklkjmaaGreatDoorErrTold
namespace Go.Proofs.YtfbdhlpgklkjmaaGreatDoor
open Go.RowKit
namespace DiskC
open DiskM ErrC

/-- the fault that a call hands back: none, or a new one of that number, of that -/
def DErr (w w' : World) (ev : Value) (c : Nat) (t : ByteArray) : Prop :=
  (c = 0 ∧ ev = .nilIface) ∨ (c ≠ 0 ∧ ∃ f, ev = .iface 84 (.pointer (some ⟨f, 0, none⟩)) ∧ w.heap.size ≤ f ∧ IsFault w' f 0 c t (-1))
theorem DErr.keeps {S : Nat → Prop} {w w1 w2 : World} {ev : Value} {c : Nat} {t : ByteArray} (h : DErr w w1 ev c t) (k : Keeps S w1 w2) (hS : ∀ i, S i → i < w.heap.size) : DErr w w2 ev c t := by
  rcases h with h | ⟨h0, f, hv, hf, hF⟩
  · exact Or.inl h
  · have e : w2.heap[f]? = w1.heap[f]? := k.block f hF.lt (fun h => by have := hS f h; omega)
    have ec : ∀ j, w2.cell? ⟨f, j, none⟩ = w1.cell? ⟨f, j, none⟩ := fun j => World.cell?_of_block (a := ⟨f, j, none⟩) e
    exact Or.inr ⟨h0, f, hv, hf, ⟨by rw [ec]; exact hF.code, by rw [ec]; exact hF.what, by rw [ec]; exact hF.at_, by rw [ec]; exact hF.under⟩⟩
theorem is_derr {w w' : World} {ev : Value} {c : Nat} {t : ByteArray} (h : DErr w w' ev c t) (hc : c ≤ 4294967296) (ht : t.size ≤ 4611686018427387904) (hv : Vars w') :
    Calls Tryz.prog 13 #[ev, .int .i64 c, .string t, .int .i64 (-1)] w' fun e w2 => e = .returned (.bool true) ∧ Below w'.heap.size w' w2 := by
  rcases h with ⟨rfl, rfl⟩ | ⟨h0, f, rfl, -, hF⟩
  · refine (is_nil t (-1) w').mono ?_
    rintro e w2 ⟨rfl, rfl⟩
    exact ⟨rfl, Below.refl _ _⟩
  · exact is_that f 0 c t (-1) w' h0 (by omega) (by omega) ht hF hv

/-- behind a call of the program's disk -/
def DevE (R : World → Nat → (Nat → Prop) → Int → DS → Prop) (F : Nat → Prop) (b : Nat) (cut : Int) (c : Nat) (t : ByteArray) (s : DS) (w : World) (e : Ending) (w' : World) : Prop :=
  ∃ ev F', e = .returned ev ∧ DErr w w' ev c t ∧ R w' b F' cut s ∧ Keeps F w w' ∧ ∀ i, F' i → F i ∨ w.heap.size ≤ i
structure Dev (B : Nat) (R : World → Nat → (Nat → Prop) → Int → DS → Prop) : Prop where
  lt : ∀ {w b F cut s}, R w b F cut s → ∀ i, F i → i < w.heap.size
  own : ∀ {w b F cut s}, R w b F cut s → F b
  keeps : ∀ {w w' b F cut s} {S : Nat → Prop}, R w b F cut s → Keeps S w w' → (∀ i, F i → ¬ S i) → (∀ i, S i → B ≤ i) → R w' b F cut s
  put : ∀ {w b F cut s} (name x : ByteArray), R w b F cut s → Good s.fs → s.count ≤ 549755813888 → Vars w →
    Calls Tryz.prog 47 #[.pointer (some ⟨b, 0, none⟩), .string name, .string x] w (DevE R F b cut (putS cut name x s).1 name (putS cut name x s).2 w)
  remove : ∀ {w b F cut s} (name : ByteArray), R w b F cut s → Good s.fs → s.count ≤ 549755813888 → Vars w →
    Calls Tryz.prog 23 #[.pointer (some ⟨b, 0, none⟩), .string name] w (DevE R F b cut (removeS cut name s).1 name (removeS cut name s).2 w)
  rename : ∀ {w b F cut s} (src dst : ByteArray), R w b F cut s → Good s.fs → s.count ≤ 549755813888 → Vars w →
    Calls Tryz.prog 48 #[.pointer (some ⟨b, 0, none⟩), .string src, .string dst] w (DevE R F b cut (renameS cut src dst s).1 (renameS cut src dst s).2.1 (renameS cut src dst s).2.2 w)
  restart : ∀ {w b F cut s} (n : Int), R w b F cut s → Good s.fs → Vars w →
    Calls Tryz.prog 7 #[.pointer (some ⟨b, 0, none⟩), .int .i64 n] w fun e w' => DevE R F b n 0 ⟨#[]⟩ ⟨s.fs, 0, false⟩ w e w' ∧ Keeps (· = b) w w'
  read : ∀ {w b F cut s} (name : ByteArray), R w b F cut s → Good s.fs → Vars w →
    Calls Tryz.prog 26 #[.pointer (some ⟨b, 0, none⟩), .string name] w fun e w' => ∃ ev, e = .returned (.tuple #[.string (readS name s).1, ev]) ∧ DErr w w' ev (readS name s).2 name ∧ Below w.heap.size w w'
  names : ∀ {w b F cut s}, R w b F cut s → Good s.fs → Vars w →
    Calls Tryz.prog 22 #[.pointer (some ⟨b, 0, none⟩)] w fun e w' => ∃ u, e = .returned u ∧ TextR.OwnT w' w.heap.size u (namesS s) ∧ Below w.heap.size w w'
  dead : ∀ {w b F cut s}, R w b F cut s → Good s.fs → Vars w →
    Calls Tryz.prog 11 #[.pointer (some ⟨b, 0, none⟩)] w fun e w' => e = .returned (.bool s.dead) ∧ Below w.heap.size w w'
  new : ∀ {w} (cut : Int), B ≤ w.heap.size →
    Calls Tryz.prog 6 #[.int .i64 cut] w fun e w' => ∃ b F, e = .returned (.pointer (some ⟨b, 0, none⟩)) ∧ R w' b F cut ⟨[], 0, false⟩ ∧ Below w.heap.size w w' ∧ ∀ i, F i → w.heap.size ≤ i

theorem Keeps.toBelow {S : Nat → Prop} {w w' : World} {B : Nat} (h : Keeps S w w') (hS : ∀ i, S i → B ≤ i) (hB : B ≤ w.heap.size) : Below B w w' :=
  ⟨h.os, h.tape, h.output, h.size, fun k hk => h.block k (by omega) (fun hs => by have := hS k hs; omega)⟩
theorem Vars.belowG {w w' : World} {B : Nat} (h : Vars w) (hb : Below B w w') (h0 : 0 < B) (h1 : 1 < B) : Vars w' :=
  ⟨by unfold ErrType; rw [hb.cell h0]; exact h.err, fun i hi => by obtain ⟨z, hz⟩ := h.pow i hi; exact ⟨z, by rw [hb.cell h1]; exact hz⟩⟩
theorem Vars.g0 {w : World} (h : Vars w) : 0 < w.heap.size := World.block_lt_of_cell? _ _ h.err
theorem Vars.g1 {w : World} (h : Vars w) : 1 < w.heap.size := by obtain ⟨z, hz⟩ := h.pow 0 (by decide); exact World.block_lt_of_cell? _ _ hz
/-- one disk, above B -/
structure Ln (B : Nat) (R : World → Nat → (Nat → Prop) → Int → DS → Prop) (w : World) (b : Nat) (F : Nat → Prop) (cut : Int) (s : DS) : Prop where
  rep : R w b F cut s
  low : ∀ i, F i → B ≤ i
  hw : B ≤ w.heap.size
  vars : Vars w
  g0 : 0 < B
  g1 : 1 < B
theorem Ln.dev {B : Nat} {R : World → Nat → (Nat → Prop) → Int → DS → Prop} {w w1 : World} {b : Nat} {F F1 : Nat → Prop} {cut cut1 : Int} {s s1 : DS} (h : Ln B R w b F cut s) (hr : R w1 b F1 cut1 s1) (hk : Keeps F w w1) (hf : ∀ i, F1 i → F i ∨ w.heap.size ≤ i) : Ln B R w1 b F1 cut1 s1 ∧ Below B w w1 := by
  have hb := hk.toBelow h.low h.hw
  refine ⟨⟨hr, fun i hi => ?_, Nat.le_trans h.hw hk.size, Vars.belowG h.vars hb h.g0 h.g1, h.g0, h.g1⟩, hb⟩
  rcases hf i hi with h1 | h1
  · exact h.low i h1
  · exact Nat.le_trans h.hw h1
theorem Ln.below {B : Nat} {R : World → Nat → (Nat → Prop) → Int → DS → Prop} (hD : Dev B R) {w w1 : World} {b : Nat} {F : Nat → Prop} {cut : Int} {s : DS} (h : Ln B R w b F cut s) (hb : Below w.heap.size w w1) : Ln B R w1 b F cut s ∧ Below B w w1 :=
  ⟨⟨hD.keeps h.rep (Keeps.of_below (S := fun _ => False) hb) (fun _ _ h => h) (fun _ h => h.elim), h.low, Nat.le_trans h.hw hb.size, h.vars.below hb, h.g0, h.g1⟩, hb.mono h.hw⟩
end DiskC
end Go.Proofs.YtfbdhlpgklkjmaaGreatDoor
