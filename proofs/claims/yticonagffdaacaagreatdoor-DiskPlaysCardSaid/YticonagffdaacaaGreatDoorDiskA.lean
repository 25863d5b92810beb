/-
  Package disk's add: one piece behind a file.
-/
import Derived.Test.YticonagffdaacaaGreatDoorDiskQ3
import Derived.Deep.RegionHeld3
import Derived.Laws.Small
namespace Go.Proofs.YticonagffdaacaaGreatDoor
open Go.RowKit Go.Maps
namespace DiskP
open DiskM DiskC ErrC
open Go.Lib (strCells strCells_length)

/-- what an append of a text to a file's slice leaves -/
def AppE (w : World) (v : Value) (x s : ByteArray) (v' : Value) (w' : World) : Prop := Byt w' v' (x ++ s) ∧
  ((v' = v ∧ w' = w ∧ s.size = 0) ∨ (¬ Full v ∧ v'.ownBlock = v.ownBlock ∧ Own w' v' (x ++ s) ∧ w.grownBy w' v.ownBlock ∧ w'.heap.size = w.heap.size) ∨ (v'.ownBlock = some w.heap.size ∧ Own w' v' (x ++ s) ∧ w.grownBy w' none ∧ w'.heap.size = w.heap.size + 1))
theorem step_app {w : World} {ops : Array Oper} {o : Oper} {a : Act} {K : Act → World → Prop} {Q : Exit → Act → World → Prop} {E : Prop} (hgd : o.guard = none) (sl sx : Operand)
    (ho : o.op = .call { callee := .builtin .append, args := #[sl, sx], argTypes := #[67, 9] }) (v : Value) (hs : a.eval sl = v) (s : ByteArray) (hx : a.eval sx = .string s) (x : ByteArray)
    (hb : Byt w v x) (hr : Full v ∨ Own w v x) (hz : x.size + s.size ≤ 1099511627776) (h : ∀ v' w', AppE w v x s v' w' → K (a.put o.dst v') w') :
    if Region.wanted o (yielded ops a.tmps) = true then Oper.wp Tryz.prog o a w K Q else E := by
  have hw : Region.wanted o (yielded ops a.tmps) = true := by simp [Region.wanted, hgd]
  rw [if_pos hw]
  obtain ⟨v', w', hrun, h2⟩ := run_app w o.type v x s hb hr hz
  unfold Oper.wp execOp
  simp only [ho, resolve, invoke, builtin, Sem.run_bind, Sem.run_pure, Result.andThen_ok, List.map_toArray, List.map_cons, List.map_nil, hs, hx, hrun]
  exact h v' w' h2
theorem Dsk.row {B : Nat} {w : World} {b : Nat} {F : Nat → Prop} {cut : Int} {s : DS} {m : Nat} {D : DataW Unit} {vals : ByteArray → Value} (h : Dsk B w b F cut s m D vals) (name : ByteArray) : Byt w (vals name) (bytesF name s.fs) ∧ (Full (vals name) ∨ Own w (vals name) (bytesF name s.fs)) :=
  ⟨(h.files.file name (fun e => e)).byt, (h.files.file name (fun e => e)).room.imp id And.left⟩
/-- a store into the map, of a file's new slice -/
theorem Dsk.store {B : Nat} {w w1 : World} {b : Nat} {F : Nat → Prop} {cut : Int} {s : DS} {m : Nat} {D : DataW Unit} {vals : ByteArray → Value} {v' : Value} {name x : ByteArray} (h : Dsk B w b F cut s m D vals) (F' : Nat → Prop) (hn : name.size ≤ 128) (hlen : s.fs.length < maxLen)
    (hf : Files (· = name) w1 B b m F' s.fs D vals) (hcb : w1.heap[b]? = w.heap[b]?) (hsz : w.heap.size ≤ w1.heap.size) (hb : Byt w1 v' x) (hblk : ∀ g, v'.ownBlock = some g → g ≠ b ∧ g ≠ m ∧ (F' g ∨ g < B))
    (hroom : Full v' ∨ (Own w1 v' x ∧ ∀ g, v'.ownBlock = some g → F' g ∧ ∀ n', n' ≠ name → (vals n').ownBlock ≠ some g))
    (hoth : ∀ n g, n ≠ name → ¬ Full (vals n) → (vals n).ownBlock = some g → v'.ownBlock ≠ some g) :
    ∃ w2 D' vals', (Instr.mapUpdate 42 (.map (some m)) (.string name) v').run Tryz.prog w1 = .ok () w2 ∧ Dsk B w2 b F' cut ⟨layF name x s.fs, s.count, s.dead⟩ m D' vals' ∧ w1.grownBy w2 (some m) := by
  obtain ⟨w2, hrun, hm, hg⟩ := hf.map.update keyed Tryz.underlying42 hlen (keyOfN hn) (eR_ok hb.ok)
  have hbm := h.files.bm
  have hblt : b < w1.heap.size := hf.lt b hf.fb
  have e : w2.heap[b]? = w.heap[b]? := (hg.block b hblt (fun e => hbm (by simpa using e))).trans hcb
  have ec : ∀ j, w2.cell? ⟨b, j, none⟩ = w.cell? ⟨b, j, none⟩ := fun j => World.cell?_of_block (a := ⟨b, j, none⟩) e
  have ef : ∀ j, w2.frozen? ⟨b, j, none⟩ = w.frozen? ⟨b, j, none⟩ := fun j => World.frozen?_of_block (a := ⟨b, j, none⟩) e
  exact ⟨w2, _, _, hrun, ⟨by rw [ec]; exact h.c0, by rw [ec]; exact h.c1, by rw [ec]; exact h.c2, by rw [ec]; exact h.c3, fun j => by rw [ef]; exact h.free j, hf.put hm hg hb hblk hroom hoth, h.cnt, Nat.le_trans h.bw (Nat.le_trans hsz hg.size)⟩, hg⟩
/-- what a call leaves of the program's disk: S: what it may write -/
structure Went (B : Nat) (F : Nat → Prop) (b : Nat) (cut : Int) (s : DS) (w w' : World) : Prop where
  is : ∃ F' m D vals, Dsk B w' b F' cut s m D vals ∧ ∀ i, F' i → F i ∨ w.heap.size ≤ i
  keeps : Keeps F w w'
theorem Went.of {B b m : Nat} {F F1 : Nat → Prop} {cut cut' : Int} {s s' : DS} {D : DataW Unit} {vals : ByteArray → Value} {w w1 w2 : World} (_hD : Dsk B w1 b F1 cut s m D vals) (k : Keeps F w w1) (hF : ∀ i, F1 i → F i ∨ w.heap.size ≤ i) (h : Went B F1 b cut' s' w1 w2) : Went B F b cut' s' w w2 := by
  obtain ⟨F2, m2, D2, vals2, h1, h2⟩ := h.is
  refine ⟨⟨F2, m2, D2, vals2, h1, fun i hi => ?_⟩, k.then h.keeps (fun i hi hT => ?_)⟩
  · rcases h2 i hi with h3 | h3
    · exact hF i h3
    · exact Or.inr (Nat.le_trans k.size h3)
  · rcases hF i hT with h3 | h3
    · exact h3
    · omega
theorem Dsk.went {B b m : Nat} {F : Nat → Prop} {cut : Int} {s : DS} {D : DataW Unit} {vals : ByteArray → Value} {w w1 : World} (hD : Dsk B w1 b F cut s m D vals) (k : Keeps F w w1) : Went B F b cut s w w1 := ⟨⟨F, m, D, vals, hD, fun _ h => Or.inl h⟩, k⟩
/-- one piece behind a file: the append, then the store -/
theorem Dsk.app {B : Nat} {w w1 : World} {b : Nat} {F : Nat → Prop} {cut : Int} {s : DS} {m : Nat} {D : DataW Unit} {vals : ByteArray → Value} {v' : Value} {name p : ByteArray} (h : Dsk B w b F cut s m D vals) (hn : name.size ≤ 128) (hlen : s.fs.length < maxLen)
    (hap : AppE w (vals name) (bytesF name s.fs) p v' w1) :
    ∃ w2, (Instr.mapUpdate 42 (.map (some m)) (.string name) v').run Tryz.prog w1 = .ok () w2 ∧ w1.cell? ⟨b, 0, none⟩ = some (.map (some m)) ∧ w2.cell? ⟨b, 0, none⟩ = some (.map (some m)) ∧
      Went B F b cut ⟨layF name (bytesF name s.fs ++ p) s.fs, s.count, s.dead⟩ w w2 := by
  obtain ⟨hb, hc⟩ := hap
  have f := h.files.file name (fun e => e)
  rcases hc with ⟨rfl, rfl, h0⟩ | ⟨ho, e, ho', hg, hs⟩ | ⟨e, ho', hg, hs⟩
  · have hf : Files (· = name) w1 B b m F s.fs D vals := h.files.turn (S := fun _ => False) (Keeps.refl _ _) (fun e => e) (fun _ _ _ _ e => e) (fun _ e => e.elim) (fun _ e => e) h.files.lt
    have hx : bytesF name s.fs ++ p = bytesF name s.fs := by rw [size0 h0]; exact ByteArray.append_empty
    rw [hx] at hb ⊢
    obtain ⟨w2, D', vals', hrun, hD, hg⟩ := h.store F hn hlen hf rfl (Nat.le_refl _) hb f.blk (f.room) (fun n g hne hfull hg e => by
      rcases (h.files.file n (fun e => e)).room with hr | ⟨-, hr⟩
      · exact hfull hr
      · exact (hr g hg).2 name (fun e => hne e.symm) e)
    exact ⟨w2, hrun, h.c0, hD.c0, hD.went ((keeps_of_grown hg).mono (fun i hi => by cases hi; exact h.files.fm))⟩
  · -- in its own row
    obtain ⟨-, hr⟩ : Own w (vals name) (bytesF name s.fs) ∧ ∀ g, (vals name).ownBlock = some g → F g ∧ ∀ n', n' ≠ name → (vals n').ownBlock ≠ some g := by
      rcases f.room with hr | hr
      · exact absurd hr ho
      · exact hr
    have hk := keeps_of_grown hg
    have hf : Files (· = name) w1 B b m F s.fs D vals := h.files.turn hk (fun e => (f.blk m e).2.1 rfl) (fun n g hne hg' hg2 => (hr g hg2).2 n hne hg') (fun _ e => e.elim) (fun _ e => e) (fun i hi => Nat.lt_of_lt_of_le (h.files.lt i hi) hg.size)
    have hcb : w1.heap[b]? = w.heap[b]? := hg.block b h.lt (fun e => (f.blk b e.symm).1 rfl)
    obtain ⟨w2, D', vals', hrun, hD, hg2⟩ := h.store F hn hlen hf hcb hg.size hb (fun g hg' => f.blk g (e ▸ hg')) (Or.inr ⟨ho', fun g hg' => hr g (e ▸ hg')⟩) (fun n g hne hfull hgn e2 => by
      rw [e] at e2
      rcases (h.files.file n (fun e => e)).room with hr2 | ⟨-, hr2⟩
      · exact hfull hr2
      · exact (hr2 g hgn).2 name (fun e => hne e.symm) e2)
    have hkeep : Keeps F w w2 := (hk.mono (fun i hi => (hr i hi).1)).trans ((keeps_of_grown hg2).mono (fun i hi => by cases hi; exact h.files.fm))
    exact ⟨w2, hrun, (World.cell?_of_block (a := ⟨b, 0, none⟩) hcb).trans h.c0, hD.c0, hD.went hkeep⟩
  · -- in a new one
    have hk := keeps_of_grown hg
    have hnone : ∀ i, ¬ ((none : Option Nat) = some i) := fun i e => by cases e
    have hlt : ∀ i, (F i ∨ i = w.heap.size) → i < w1.heap.size := fun i hi => by
      rcases hi with hi | hi
      · exact Nat.lt_of_lt_of_le (h.files.lt i hi) hg.size
      · omega
    have hf : Files (· = name) w1 B b m (fun i => F i ∨ i = w.heap.size) s.fs D vals := h.files.turn hk (hnone m) (fun n g _ _ hg2 => hnone g hg2) (fun _ e => e.elim) (fun _ e => Or.inl e) hlt
    have hcb : w1.heap[b]? = w.heap[b]? := hg.block b h.lt (fun e => by cases e)
    have hmlt := h.files.lt m h.files.fm
    have hblt := h.lt
    have hvlt : ∀ n g, (vals n).ownBlock = some g → g < w.heap.size := fun n g hgn => (h.files.file n (fun e => e)).byt.lt g hgn
    obtain ⟨w2, D', vals', hrun, hD, hg2⟩ := h.store (fun i => F i ∨ i = w.heap.size) hn hlen hf hcb hg.size hb (fun g hg' => by
        rw [e] at hg'; cases hg'; exact ⟨by omega, by omega, Or.inl (Or.inr rfl)⟩)
      (Or.inr ⟨ho', fun g hg' => by rw [e] at hg'; cases hg'; exact ⟨Or.inr rfl, fun n' _ e2 => by have := hvlt n' _ e2; omega⟩⟩)
      (fun n g _ _ hgn e2 => by rw [e] at e2; cases e2; have := hvlt n _ hgn; omega)
    refine ⟨w2, hrun, (World.cell?_of_block (a := ⟨b, 0, none⟩) hcb).trans h.c0, hD.c0, ⟨⟨_, m, D', vals', hD, fun i hi => by rcases hi with hi | hi; exact Or.inl hi; exact Or.inr (by omega)⟩, ?_⟩⟩
    exact (hk.mono (fun i hi => absurd hi (hnone i))).trans ((keeps_of_grown hg2).mono (fun i hi => by cases hi; exact h.files.fm))
end DiskP
end Go.Proofs.YticonagffdaacaaGreatDoor
