/-
  What a call leaves: of what was there only the blocks of a set may have been written. It names nothing of the program.
-/
import Derived.WalkKit
import Derived.BigQuiet
namespace Go.Proofs.YtfbdhlpgklkjmaaGreatDoor
open Go.RowKit
namespace DiskC
/-- of what was there only the blocks of S may have been written; new blocks may have been made -/
structure Keeps (S : Nat → Prop) (w w' : World) : Prop where
  os : w'.os = w.os
  tape : w'.tape = w.tape
  output : w'.output = w.output
  size : w.heap.size ≤ w'.heap.size
  block : ∀ k, k < w.heap.size → ¬ S k → w'.heap[k]? = w.heap[k]?
theorem Keeps.refl (S : Nat → Prop) (w : World) : Keeps S w w := ⟨rfl, rfl, rfl, Nat.le_refl _, fun _ _ _ => rfl⟩
theorem Keeps.trans {S : Nat → Prop} {x y z : World} (h : Keeps S x y) (k : Keeps S y z) : Keeps S x z :=
  ⟨k.os.trans h.os, k.tape.trans h.tape, k.output.trans h.output, Nat.le_trans h.size k.size, fun i hi hb => (k.block i (Nat.lt_of_lt_of_le hi h.size) hb).trans (h.block i hi hb)⟩
/-- the second step may write what the first one made -/
theorem Keeps.then {S T : Nat → Prop} {x y z : World} (h : Keeps S x y) (k : Keeps T y z) (hT : ∀ i, i < x.heap.size → T i → S i) : Keeps S x z :=
  ⟨k.os.trans h.os, k.tape.trans h.tape, k.output.trans h.output, Nat.le_trans h.size k.size, fun i hi hb => (k.block i (Nat.lt_of_lt_of_le hi h.size) (fun ht => hb (hT i hi ht))).trans (h.block i hi hb)⟩
theorem Keeps.mono {S T : Nat → Prop} {x y : World} (h : Keeps S x y) (hT : ∀ i, S i → T i) : Keeps T x y := ⟨h.os, h.tape, h.output, h.size, fun i hi hb => h.block i hi (fun hs => hb (hT i hs))⟩
theorem Keeps.drewN {S : Nat → Prop} {a w : World} (h : Keeps S a w) (q : Nat) : Keeps S a (w.drewN q) := ⟨h.os, h.tape, h.output, h.size, h.block⟩
theorem Keeps.set {S : Nat → Prop} {a w : World} (h : Keeps S a w) (p : Addr) (hp : S p.block) (u : Value) : Keeps S a (w.setCell p u) :=
  h.trans ⟨rfl, rfl, rfl, by simp, fun k _ hk => Below.heap_setCell w p u k (fun e => hk (by rw [e]; exact hp))⟩
theorem Keeps.setb {b : Nat} {a w : World} (h : Keeps (· = b) a w) (j : Nat) (u : Value) : Keeps (· = b) a (w.setCell ⟨b, j, none⟩ u) := h.set _ rfl _
theorem Keeps.of_below {S : Nat → Prop} {w w' : World} (h : Below w.heap.size w w') : Keeps S w w' := ⟨h.os, h.tape, h.output, h.size, fun k hk _ => h.block k hk⟩
theorem Keeps.alloc {S : Nat → Prop} {a w : World} (h : Keeps S a w) (o : Obj) : Keeps S a (w.alloc o) := h.trans (Keeps.of_below ((Below.refl _ _).alloc (Nat.le_refl _) _))
theorem cell_ne {w : World} {b i j : Nat} (h : i ≠ j) (u : Value) : (w.setCell ⟨b, j, none⟩ u).cell? ⟨b, i, none⟩ = w.cell? ⟨b, i, none⟩ :=
  World.cell?_setCell_other _ _ _ _ (fun e => by have := congrArg Addr.off e; simp at this; omega)
end DiskC
end Go.Proofs.YtfbdhlpgklkjmaaGreatDoor
