/-
  The document's own disk of layer 3: what it finds, what it has, one raw write.
  The document's own disk of layer 3: a file is laid, a file is taken.
  The document's own disk of layer 3: a file is taken.
  The document's own disk of layer 3: pieces behind what is there.
  The document's own disk of layer 3: its calls (wip/gen/diskcalls.py writes this text).
-/
import Derived.Test.YtlnbjlidakdmlaaGreatDoorChecked
import Derived.Test.YtlnbjlidakdmlaaGreatDoorDiskKeeps
import Derived.Test.YtlnbjlidakdmlaaGreatDoorDiskSpec
import Derived.WalkKit
import Derived.Lib.Hide
import Derived.BigQuiet
import Derived.Deep.QuietTactic
import Derived.WalkSmall
import Derived.Laws.Cover1
import Derived.Maps.AppendAt
import Derived.StillTailTactics
import Derived.Deep.RegionWith
namespace Go.Proofs.YtlnbjlidakdmlaaGreatDoor
open Go.RowKit
namespace DiskC
open DiskM

/-- the document's disk, as its cells hold it: its files in a row of its own -/
structure IsDsk (w : World) (b : Nat) (v : Value) (fs : FL) (cut count : Int) (dead : Bool) : Prop where
  files : w.cell? ⟨b, 0, none⟩ = some v
  cut : w.cell? ⟨b, 1, none⟩ = some (.int .i64 cut)
  count : w.cell? ⟨b, 2, none⟩ = some (.int .i64 count)
  dead : w.cell? ⟨b, 3, none⟩ = some (.bool dead)
  free : ∀ j, w.frozen? ⟨b, j, none⟩ = false
  row : w.ownsRow 0 109 2 v fs.length (flatF fs)
  sep : v.ownBlock ≠ some b
theorem IsDsk.drewN {w : World} {b : Nat} {v : Value} {fs : FL} {cut count : Int} {dead : Bool} (h : IsDsk w b v fs cut count dead) (q : Nat) : IsDsk (w.drewN q) b v fs cut count dead :=
  ⟨by simpa using h.files, by simpa using h.cut, by simpa using h.count, by simpa using h.dead, fun j => by simpa using h.free j, h.row, h.sep⟩
/-- the row's slice: nil, or one at a block's head -/
theorem row_val {w : World} {B : Nat} {v : Value} {fs : FL} (h : w.ownsRow B 109 2 v fs.length (flatF fs)) : (v = .slice none 0 0 ∧ fs = []) ∨
    ∃ g cap, v = .slice (some ⟨g, 0, none⟩) fs.length cap ∧ B ≤ g ∧ fs.length ≤ maxLen ∧ ∀ i (hi : i < fs.length), w.cell? ⟨g, i * 2, none⟩ = some (.string fs[i].1) ∧ w.cell? ⟨g, i * 2 + 1, none⟩ = some (.string fs[i].2) := by
  have h' := h
  obtain ⟨_, ⟨rfl, h0⟩ | ⟨g, cap, cur, rfl, hg, hh, hle, hcm, hcs, htk⟩⟩ := h
  · exact Or.inl ⟨rfl, List.eq_nil_of_length_eq_zero h0⟩
  · exact Or.inr ⟨g, cap, rfl, hg, Nat.le_trans hle hcm, fun i hi => ⟨by rw [h'.cellAt _ (by omega)]; exact flatF_name fs i hi, by rw [h'.cellAt _ (by omega)]; exact flatF_bytes fs i hi⟩⟩

theorem dmay_any (name : ByteArray) (w : World) : Calls Tryz.prog 47 #[.string name] w fun e w' => e = .returned (.bool (mayB name)) ∧ w = w' := by
  by_cases h1 : 1 ≤ name.size
  · by_cases h2 : name.size ≤ 128
    · have e : mayB name = true := by unfold mayB; simp [h1, h2]
      rw [e]
      clear e
      have hd : decide ((name.size : Int) ≤ 128) = true := by simp; omega
      go_enter Tryz.func47, Tryz.ntmps47
      go_wp2_with fail
      go_ret
      exact ⟨rfl, rfl⟩
    · have e : mayB name = false := by unfold mayB; simp [h2]
      rw [e]
      clear e
      have hd : decide ((name.size : Int) ≤ 128) = false := by simp; omega
      go_enter Tryz.func47, Tryz.ntmps47
      go_wp2_with fail
      go_ret
      exact ⟨rfl, rfl⟩
  · have e : mayB name = false := by unfold mayB; simp [h1]
    rw [e]
    clear e
    have hd : decide (1 ≤ name.size) = false := by simpa using h1
    go_enter Tryz.func47, Tryz.ntmps47
    go_wp2_with fail
    go_ret
    exact ⟨rfl, rfl⟩

set_option maxHeartbeats 1000000 in
theorem dfind_any (b : Nat) (v : Value) (fs : FL) (cut count : Int) (dead : Bool) (name : ByteArray) (w : World) (h : IsDsk w b v fs cut count dead) :
    Calls Tryz.prog 82 #[.pointer (some ⟨b, 0, none⟩), .string name] w fun e w' => e = .returned (.tuple #[.int .i64 (fnd name fs), .bool (hasF name fs)]) ∧ ∃ q, w' = w.drewN q := by
  have h1 := h.files
  have hrow := row_val h.row
  clear h
  rcases hrow with ⟨rfl, rfl⟩ | ⟨g, cp, rfl, hg, hm, hc⟩
  · go_enter Tryz.func82, Tryz.ntmps82
    go_wp2_with fail
    refine wp_loop_rounds 1 ?_; rw [rounds_succ]; go_wp2_with fail
    go_ret2
    exact ⟨rfl, 0, rfl⟩
  · have HC := Lib.hid hc; clear hc
    unfold maxLen at hm
    go_enter Tryz.func82, Tryz.ntmps82
    go_wp2_with fail
    go_loop [6] (fun vi => ∃ i : Nat, i ≤ fs.length ∧ vi = .int .i64 i ∧ Hid (Ahead name fs i)) (fun vi => fs.length - (intOf vi).toNat)
    case atStart => exact ⟨0, Nat.zero_le _, rfl, Lib.hid (ahead_zero _ _)⟩
    case round =>
      obtain ⟨i, hi, rfl, HA⟩ := hrel
      by_cases hlt : i < fs.length
      · have hdec : decide (i < fs.length) = true := by simpa using hlt
        obtain ⟨c1, -⟩ := HC.out i hlt
        have HN := Lib.hid (ahead_next HA.out hlt)
        have HE := Lib.hid (ahead_here HA.out hlt)
        generalize fs[i] = f at *
        by_cases hf : fle name f = true
        · obtain ⟨e1, e2⟩ := HE.out hf
          have E1 := Lib.hid e1
          have E2 := Lib.hid e2
          have hf2 : Op.bytesLess f.1.toList name.toList = false := by unfold fle at hf; simpa using hf
          clear hf e1 e2
          go_wp2_with fail
          go_quiet (fail)
          go_wp2_with fail
          go_ret2
          rw [E1.out, E2.out]
          exact ⟨rfl, _, rfl⟩
        · have hf2 : Op.bytesLess f.1.toList name.toList = true := by unfold fle at hf; simpa using hf
          have HNN := Lib.hid (HN.out (by simpa using hf))
          clear hf
          go_wp2_with fail
          go_round
          case rel => exact ⟨i + 1, by omega, by go_num, HNN⟩
          case measure => simp [intOf]; omega
      · have hdec : decide (i < fs.length) = false := by simpa using hlt
        obtain ⟨e1, e2⟩ := ahead_end HA.out (by omega) hi
        have E1 := Lib.hid e1
        have E2 := Lib.hid e2
        clear e1 e2
        go_wp2_with fail
        go_ret2
        rw [E1.out, E2.out]
        exact ⟨rfl, 0, rfl⟩

/-- a disk's own blocks -/
def Foot (b : Nat) (v : Value) : Nat → Prop := fun k => k = b ∨ v.ownBlock = some k
theorem IsDsk.lt {w : World} {b : Nat} {v : Value} {fs : FL} {cut count : Int} {dead : Bool} (h : IsDsk w b v fs cut count dead) : b < w.heap.size := World.block_lt_of_cell? _ _ h.files
theorem IsDsk.ne {w : World} {b : Nat} {v : Value} {fs : FL} {cut count : Int} {dead : Bool} (h : IsDsk w b v fs cut count dead) : v.ownBlock ≠ some b := h.sep
/-- what is written elsewhere leaves a disk as it is -/
theorem IsDsk.keeps {w w' : World} {b : Nat} {v : Value} {fs : FL} {cut count : Int} {dead : Bool} {S : Nat → Prop} (h : IsDsk w b v fs cut count dead) (k : Keeps S w w') (hS : ∀ i, Foot b v i → ¬ S i) : IsDsk w' b v fs cut count dead := by
  have hb := h.lt
  have e : w'.heap[b]? = w.heap[b]? := k.block b hb (hS b (Or.inl rfl))
  have ec : ∀ j, w'.cell? ⟨b, j, none⟩ = w.cell? ⟨b, j, none⟩ := fun j => World.cell?_of_block (a := ⟨b, j, none⟩) e
  have ef : ∀ j, w'.frozen? ⟨b, j, none⟩ = w.frozen? ⟨b, j, none⟩ := fun j => World.frozen?_of_block (a := ⟨b, j, none⟩) e
  refine ⟨by rw [ec]; exact h.files, by rw [ec]; exact h.cut, by rw [ec]; exact h.count, by rw [ec]; exact h.dead, fun j => by rw [ef]; exact h.free j, ?_, h.sep⟩
  have hl := h.row.lt
  obtain ⟨h1, h2⟩ := h.row
  refine ⟨h1, ?_⟩
  rcases h2 with h2 | ⟨g, cap, cur, hv, hg, hh, r⟩
  · exact Or.inl h2
  · have ho : v.ownBlock = some g := by rw [hv]; rfl
    exact Or.inr ⟨g, cap, cur, hv, hg, by rw [k.block g (hl g ho).2 (hS g (Or.inr ho))]; exact hh, r⟩
/-- a store into one of the disk's own fields -/
theorem row_set {w : World} {b : Nat} {v : Value} {n : Nat} {xs : List Value} (h : w.ownsRow 0 109 2 v n xs) (hs : v.ownBlock ≠ some b) (j : Nat) (u : Value) : (w.setCell ⟨b, j, none⟩ u).ownsRow 0 109 2 v n xs := by
  obtain ⟨h1, h2⟩ := h
  refine ⟨h1, ?_⟩
  rcases h2 with h2 | ⟨g, cap, cur, hv, hg, hh, r⟩
  · exact Or.inl h2
  · exact Or.inr ⟨g, cap, cur, hv, hg, by rw [Below.heap_setCell _ _ _ _ (fun e => hs (by rw [hv]; exact congrArg some e))]; exact hh, r⟩
theorem IsDsk.setDead {w : World} {b : Nat} {v : Value} {fs : FL} {cut count : Int} {dead : Bool} (h : IsDsk w b v fs cut count dead) (d : Bool) : IsDsk (w.setCell ⟨b, 3, none⟩ (.bool d)) b v fs cut count d :=
  ⟨by rw [cell_ne (by decide)]; exact h.files, by rw [cell_ne (by decide)]; exact h.cut, by rw [cell_ne (by decide)]; exact h.count, World.cell?_setCell_same _ _ _ h.dead, fun j => by simpa using h.free j, row_set h.row h.sep _ _, h.sep⟩
theorem IsDsk.setCount {w : World} {b : Nat} {v : Value} {fs : FL} {cut count : Int} {dead : Bool} (h : IsDsk w b v fs cut count dead) (c : Int) : IsDsk (w.setCell ⟨b, 2, none⟩ (.int .i64 c)) b v fs cut c dead :=
  ⟨by rw [cell_ne (by decide)]; exact h.files, by rw [cell_ne (by decide)]; exact h.cut, World.cell?_setCell_same _ _ _ h.count, by rw [cell_ne (by decide)]; exact h.dead, fun j => by simpa using h.free j, row_set h.row h.sep _ _, h.sep⟩
theorem IsDsk.setCut {w : World} {b : Nat} {v : Value} {fs : FL} {cut count : Int} {dead : Bool} (h : IsDsk w b v fs cut count dead) (c : Int) : IsDsk (w.setCell ⟨b, 1, none⟩ (.int .i64 c)) b v fs c count dead :=
  ⟨by rw [cell_ne (by decide)]; exact h.files, World.cell?_setCell_same _ _ _ h.cut, by rw [cell_ne (by decide)]; exact h.count, by rw [cell_ne (by decide)]; exact h.dead, fun j => by simpa using h.free j, row_set h.row h.sep _ _, h.sep⟩

theorem dbytes_any (b : Nat) (v : Value) (fs : FL) (cut count : Int) (dead : Bool) (name : ByteArray) (w : World) (h : IsDsk w b v fs cut count dead) :
    Calls Tryz.prog 48 #[.pointer (some ⟨b, 0, none⟩), .string name] w fun e w' => e = .returned (.string (bytesF name fs)) ∧ ∃ q, w' = w.drewN q := by
  have HD := Lib.hid h
  have h1 := h.files
  have hrow := row_val h.row
  clear h
  by_cases hh : hasF name fs = true
  · have hlt := hasF_lt hh
    have e : bytesF name fs = fs[fnd name fs].2 := by unfold bytesF; rw [if_pos hh]; simp [hlt]
    rw [e]
    clear e
    rcases hrow with ⟨-, rfl⟩ | ⟨g, cp, rfl, hg, hm, hc⟩
    · cases hlt
    · obtain ⟨-, c2⟩ := hc _ hlt
      have hdec : decide (fnd name fs < fs.length) = true := by simpa using hlt
      unfold maxLen at hm
      clear hc
      generalize hx : fs[fnd name fs] = f at *
      clear hx
      have HH := Lib.hid hh; clear hh
      generalize hn : fnd name fs = i at *
      have HN := Lib.hid hn; clear hn
      go_enter Tryz.func48, Tryz.ntmps48
      go_wp2_with fail
      refine (dfind_any b _ fs cut count dead name _ HD.out).mono ?_
      rintro e w1 ⟨rfl, q, rfl⟩
      rw [HN.out, HH.out]
      go_wp2_with fail
      go_ret
      exact ⟨rfl, q, rfl⟩
  · have e : bytesF name fs = ⟨#[]⟩ := by unfold bytesF; rw [if_neg hh]
    rw [e]
    clear e hrow
    have hf : hasF name fs = false := by simpa using hh
    have HH := Lib.hid hf; clear hf hh
    go_enter Tryz.func48, Tryz.ntmps48
    go_wp2_with fail
    refine (dfind_any b _ fs cut count dead name _ HD.out).mono ?_
    rintro e w1 ⟨rfl, q, rfl⟩
    rw [HH.out]
    go_wp2_with fail
    go_ret
    exact ⟨rfl, q, rfl⟩

set_option maxHeartbeats 1000000 in
theorem dhas_any (b : Nat) (v : Value) (fs : FL) (cut count : Int) (dead : Bool) (name : ByteArray) (w : World) (h : IsDsk w b v fs cut count dead) :
    Calls Tryz.prog 49 #[.pointer (some ⟨b, 0, none⟩), .string name] w fun e w' => e = .returned (.bool (hasF name fs && !dead)) ∧ ∃ q, w' = w.drewN q := by
  have HD := Lib.hid h
  have h1 := h.dead
  clear h
  generalize hH : hasF name fs = hb
  have HH := Lib.hid hH; clear hH
  go_enter Tryz.func49, Tryz.ntmps49
  go_wp2_with fail
  refine (dfind_any b _ fs cut count dead name _ HD.out).mono ?_
  rintro e w1 ⟨rfl, q, rfl⟩
  rw [HH.out]
  cases hb <;> cases dead
  all_goals
    go_wp2_with fail
    go_ret
    exact ⟨rfl, q, rfl⟩

/-! ### one more raw write ('rawB': may it be done?) -/
set_option maxHeartbeats 1000000 in
theorem draw_no (b : Nat) (v : Value) (fs : FL) (cut count : Int) (dead : Bool) (w : World) (h : IsDsk w b v fs cut count dead) (hr : rawB cut count dead = false) :
    Calls Tryz.prog 53 #[.pointer (some ⟨b, 0, none⟩)] w fun e w' => e = .returned (.bool false) ∧ IsDsk w' b v fs cut count true ∧ Keeps (· = b) w w' := by
  have HD := Lib.hid h
  have h1 := h.cut
  have h2 := h.count
  have h3 := h.dead
  have h4 := h.free 3
  clear h
  cases hd : dead with
  | true =>
    subst hd
    clear hr
    go_enter Tryz.func53, Tryz.ntmps53
    go_wp2_with fail
    go_quiet (fail)
    go_wp2_with fail
    go_ret
    exact ⟨rfl, (HD.out.drewN _).setDead true, ((Keeps.refl _ _).drewN _).setb _ _⟩
  | false =>
    subst hd
    have hc : 0 ≤ cut ∧ cut ≤ count := by unfold rawB at hr; simpa using hr
    have d1 : decide (0 ≤ cut) = true := by simpa using hc.1
    have d2 : decide (cut ≤ count) = true := by simpa using hc.2
    clear hr
    go_enter Tryz.func53, Tryz.ntmps53
    go_wp2_with fail
    go_quiet (fail)
    go_wp2_with fail
    go_ret
    exact ⟨rfl, (HD.out.drewN _).setDead true, ((Keeps.refl _ _).drewN _).setb _ _⟩
set_option maxHeartbeats 1000000 in
theorem draw_yes (b : Nat) (v : Value) (fs : FL) (cut count : Int) (dead : Bool) (w : World) (h : IsDsk w b v fs cut count dead) (h0 : 0 ≤ count) (hm : count ≤ 4611686018427387904) (hr : rawB cut count dead = true) :
    Calls Tryz.prog 53 #[.pointer (some ⟨b, 0, none⟩)] w fun e w' => e = .returned (.bool true) ∧ IsDsk w' b v fs cut (count + 1) dead ∧ Keeps (· = b) w w' := by
  have HD := Lib.hid h
  have h1 := h.cut
  have h2 := h.count
  have h3 := h.dead
  have h4 := h.free 2
  clear h
  have hd : dead = false := by unfold rawB at hr; cases dead <;> simp_all
  subst hd
  have hadd : IntKind.i64.wrap (count + 1) = count + 1 := IntWalk.i64_in _ ⟨by omega, by omega⟩
  have hc : ¬ (0 ≤ cut ∧ cut ≤ count) := by unfold rawB at hr; simp at hr; omega
  by_cases hc0 : 0 ≤ cut
  · have d1 : decide (0 ≤ cut) = true := by simpa using hc0
    have d2 : decide (cut ≤ count) = false := by simp; omega
    clear hr hc
    go_enter Tryz.func53, Tryz.ntmps53
    go_wp2_with fail
    go_quiet (fail)
    go_wp2_with fail
    go_ret
    exact ⟨rfl, (HD.out.drewN _).setCount _, ((Keeps.refl _ _).drewN _).setb _ _⟩
  · have d1 : decide (0 ≤ cut) = false := by simpa using hc0
    clear hr hc
    go_enter Tryz.func53, Tryz.ntmps53
    go_wp2_with fail
    go_quiet (fail)
    go_wp2_with fail
    go_ret
    exact ⟨rfl, (HD.out.drewN _).setCount _, ((Keeps.refl _ _).drewN _).setb _ _⟩
end DiskC
end Go.Proofs.YtlnbjlidakdmlaaGreatDoor
namespace Go.Proofs.YtlnbjlidakdmlaaGreatDoor
open Go.RowKit
namespace DiskC
open DiskM

theorem info_file : (Tryz.prog.info? 109).map (fun i => (i.zero, i.size, i.bytes)) = some (some (.agg #[.string ⟨#[]⟩, .string ⟨#[]⟩]), 2, 32) := by kernel_rfl
/-- what a disk is behind a call that may have turned its row -/
structure Laid (w w' : World) (b : Nat) (v v' : Value) (fs : FL) (cut count : Int) (dead : Bool) : Prop where
  dsk : IsDsk w' b v' fs cut count dead
  keeps : Keeps (Foot b v) w w'
  row : ∀ g, v'.ownBlock = some g → v.ownBlock = some g ∨ w.heap.size ≤ g
theorem Laid.refl {w : World} {b : Nat} {v : Value} {fs : FL} {cut count : Int} {dead : Bool} (h : IsDsk w b v fs cut count dead) : Laid w w b v v fs cut count dead := ⟨h, Keeps.refl _ _, fun _ h => Or.inl h⟩
theorem Laid.trans {x y z : World} {b : Nat} {u v v' : Value} {fs gs : FL} {cut count cut' count' : Int} {dead dead' : Bool} (h : Laid x y b u v fs cut count dead) (k : Laid y z b v v' gs cut' count' dead') (hb : b < x.heap.size) : Laid x z b u v' gs cut' count' dead' :=
  ⟨k.dsk, h.keeps.then k.keeps (fun i hi hf => by
    rcases hf with rfl | hf
    · exact Or.inl rfl
    · rcases h.row i hf with h1 | h1
      · exact Or.inr h1
      · omega), fun g hg => by
    rcases k.row g hg with h1 | h1
    · exact h.row g h1
    · exact Or.inr (Nat.le_trans h.keeps.size h1)⟩

/-- one file's bytes turned -/
theorem IsDsk.setBytes {w : World} {b g cap : Nat} {fs : FL} {cut count : Int} {dead : Bool} (h : IsDsk w b (.slice (some ⟨g, 0, none⟩) fs.length cap) fs cut count dead) (i : Nat) (hi : i < fs.length) (x : ByteArray) :
    IsDsk (w.setCell ⟨g, i * 2 + 1, none⟩ (.string x)) b (.slice (some ⟨g, 0, none⟩) fs.length cap) (fs.set i (fs[i].1, x)) cut count dead := by
  have hne : g ≠ b := fun e => h.ne (by rw [e]; rfl)
  have e : (w.setCell ⟨g, i * 2 + 1, none⟩ (.string x)).heap[b]? = w.heap[b]? := Below.heap_setCell _ _ _ _ (fun e => hne e.symm)
  have ec : ∀ j, (w.setCell ⟨g, i * 2 + 1, none⟩ (.string x)).cell? ⟨b, j, none⟩ = w.cell? ⟨b, j, none⟩ := fun j => World.cell?_of_block (a := ⟨b, j, none⟩) e
  have ef : ∀ j, (w.setCell ⟨g, i * 2 + 1, none⟩ (.string x)).frozen? ⟨b, j, none⟩ = w.frozen? ⟨b, j, none⟩ := fun j => World.frozen?_of_block (a := ⟨b, j, none⟩) e
  refine ⟨by rw [ec]; exact h.files, by rw [ec]; exact h.cut, by rw [ec]; exact h.count, by rw [ec]; exact h.dead, fun j => by rw [ef]; exact h.free j, ?_, h.sep⟩
  have := (h.row.stored (i * 2 + 1) (.string x)).1
  rw [flatF_set_bytes fs i hi x] at this
  simpa using this
/-- one file turned -/
theorem IsDsk.setFile {w : World} {b g cap n : Nat} {fs : FL} {cut count : Int} {dead : Bool} (hn : n = fs.length) (h : IsDsk w b (.slice (some ⟨g, 0, none⟩) n cap) fs cut count dead) (i : Nat) (hi : i < fs.length) (x y : ByteArray) :
    IsDsk ((w.setCell ⟨g, i * 2, none⟩ (.string x)).setCell ⟨g, i * 2 + 1, none⟩ (.string y)) b (.slice (some ⟨g, 0, none⟩) n cap) (fs.set i (x, y)) cut count dead := by
  subst hn
  have hne : g ≠ b := fun e => h.ne (by rw [e]; rfl)
  have e : ((w.setCell ⟨g, i * 2, none⟩ (.string x)).setCell ⟨g, i * 2 + 1, none⟩ (.string y)).heap[b]? = w.heap[b]? := by
    rw [Below.heap_setCell _ _ _ _ (fun e => hne e.symm), Below.heap_setCell _ _ _ _ (fun e => hne e.symm)]
  have ec : ∀ j, ((w.setCell ⟨g, i * 2, none⟩ (.string x)).setCell ⟨g, i * 2 + 1, none⟩ (.string y)).cell? ⟨b, j, none⟩ = w.cell? ⟨b, j, none⟩ := fun j => World.cell?_of_block (a := ⟨b, j, none⟩) e
  have ef : ∀ j, ((w.setCell ⟨g, i * 2, none⟩ (.string x)).setCell ⟨g, i * 2 + 1, none⟩ (.string y)).frozen? ⟨b, j, none⟩ = w.frozen? ⟨b, j, none⟩ := fun j => World.frozen?_of_block (a := ⟨b, j, none⟩) e
  refine ⟨by rw [ec]; exact h.files, by rw [ec]; exact h.cut, by rw [ec]; exact h.count, by rw [ec]; exact h.dead, fun j => by rw [ef]; exact h.free j, ?_, h.sep⟩
  have h1 := (h.row.stored (i * 2) (.string x)).1
  have h2 := (h1.stored (i * 2 + 1) (.string y)).1
  rw [flatF_set fs i hi x y] at h2
  simpa using h2
theorem IsDsk.cells {w : World} {b g cap n : Nat} {fs : FL} {cut count : Int} {dead : Bool} (hn : n = fs.length) (h : IsDsk w b (.slice (some ⟨g, 0, none⟩) n cap) fs cut count dead) (i : Nat) (hi : i < fs.length) :
    w.cell? ⟨g, i * 2, none⟩ = some (.string fs[i].1) ∧ w.cell? ⟨g, i * 2 + 1, none⟩ = some (.string fs[i].2) ∧ ∀ j, w.frozen? ⟨g, j, none⟩ = false := by
  subst hn
  exact ⟨by rw [h.row.cellAt _ (by omega)]; exact flatF_name fs i hi, by rw [h.row.cellAt _ (by omega)]; exact flatF_bytes fs i hi, fun j => h.row.frozenAt j⟩

set_option maxHeartbeats 1000000 in
theorem dlay_old (b : Nat) (v : Value) (fs : FL) (cut count : Int) (dead : Bool) (name bytes : ByteArray) (w : World) (h : IsDsk w b v fs cut count dead) (hh : hasF name fs = true) :
    Calls Tryz.prog 54 #[.pointer (some ⟨b, 0, none⟩), .string name, .string bytes] w fun e w' => e = .returned (.tuple #[]) ∧ ∃ v', Laid w w' b v v' (layF name bytes fs) cut count dead := by
  have HD := Lib.hid h
  have h1 := h.files
  have hlt := hasF_lt hh
  have e : layF name bytes fs = fs.set (fnd name fs) (fs[fnd name fs].1, bytes) := by unfold layF; rw [if_pos hh]; simp [hlt]
  rw [e]
  clear e
  rcases row_val h.row with ⟨-, rfl⟩ | ⟨g, cp, rfl, hg, hm, -⟩
  · cases hlt
  · obtain ⟨-, c2, c3⟩ := h.cells rfl _ hlt
    have c4 := c3 (fnd name fs * 2 + 1)
    have hdec : decide (fnd name fs < fs.length) = true := by simpa using hlt
    have HNEW := Lib.hid (fun q => (h.drewN q).setBytes _ hlt bytes)
    unfold maxLen at hm
    clear h c3
    have HH := Lib.hid hh; clear hh
    generalize fs.set (fnd name fs) (fs[fnd name fs].1, bytes) = fs' at *
    generalize fs[fnd name fs] = f at *
    generalize hn : fnd name fs = i at *
    have HN := Lib.hid hn; clear hn
    go_enter Tryz.func54, Tryz.ntmps54
    go_wp2_with fail
    refine (dfind_any b _ fs cut count dead name _ HD.out).mono ?_
    rintro e w1 ⟨rfl, q, rfl⟩
    rw [HN.out, HH.out]
    go_wp2_with fail
    refine bodyPost_ret (results_none rfl _ _ _) rfl ?_
    exact ⟨rfl, _, HNEW.out q, ((Keeps.refl _ _).drewN _).set _ (Or.inr rfl) _, fun g h => Or.inl h⟩

abbrev noFile : ByteArray × ByteArray := (⟨#[]⟩, ⟨#[]⟩)
/-- the row as it stands while the files behind the place move up: whatever stands at the place k -/
def Gap (fs L : FL) (k : Nat) : Prop := ∃ x, L = fs.take k ++ x :: fs.drop k
theorem gap_len {fs L : FL} {k : Nat} (h : Gap fs L k) (hk : k ≤ fs.length) : L.length = fs.length + 1 := by
  obtain ⟨x, rfl⟩ := h
  simp; omega
theorem gap_get {fs L : FL} {k : Nat} (h : Gap fs L (k + 1)) (hk : k < fs.length) (hl : k < L.length) : L[k] = fs[k] := by
  obtain ⟨x, rfl⟩ := h
  rw [List.getElem_append_left (by simp; omega)]
  simp
theorem gap_next {fs L : FL} {k : Nat} (h : Gap fs L (k + 1)) (hk : k < fs.length) : Gap fs (L.set (k + 1) fs[k]) k := by
  obtain ⟨x, rfl⟩ := h
  refine ⟨fs[k], ?_⟩
  rw [List.set_append_right _ _ (by simp; omega)]
  have e : (k + 1 - (List.take (k + 1) fs).length) = 0 := by simp; omega
  rw [e, List.set_cons_zero, List.take_succ_eq_append_getElem hk, List.append_assoc]
  congr 1
  rw [List.singleton_append, List.drop_eq_getElem_cons hk]
theorem gap_last {fs L : FL} {k : Nat} (h : Gap fs L k) (hk : k ≤ fs.length) (f : ByteArray × ByteArray) : L.set k f = fs.take k ++ f :: fs.drop k := by
  obtain ⟨x, rfl⟩ := h
  rw [List.set_append_right _ _ (by simp; omega)]
  have e : (k - (List.take k fs).length) = 0 := by simp; omega
  rw [e, List.set_cons_zero]
theorem two_cells (w : World) : ∀ j u, ([.string ⟨#[]⟩, .string ⟨#[]⟩] : List Value)[j]? = some u → (w.alloc (.cells #[.string ⟨#[]⟩, .string ⟨#[]⟩] 109)).cell? ((⟨w.heap.size, 0, none⟩ : Addr).add j) = some u := by
  intro j u hu
  match j with
  | 0 => rw [Go.WideShapes.add_plain, World.cell?_alloc_at _ _ _ _ rfl]; simpa using hu
  | 1 => rw [Go.WideShapes.add_plain, World.cell?_alloc_at _ _ _ _ rfl]; simpa using hu
  | j + 2 => simp at hu

set_option maxHeartbeats 4000000 in
set_option maxRecDepth 100000 in
theorem dlay_new (b : Nat) (v : Value) (fs : FL) (cut count : Int) (dead : Bool) (name bytes : ByteArray) (w : World) (h : IsDsk w b v fs cut count dead) (hh : hasF name fs = false) (hm : fs.length ≤ 1048576) :
    Calls Tryz.prog 54 #[.pointer (some ⟨b, 0, none⟩), .string name, .string bytes] w fun e w' => e = .returned (.tuple #[]) ∧ ∃ v', Laid w w' b v v' (layF name bytes fs) cut count dead := by
  obtain ⟨i0, hi, hz0, hz1, hz2⟩ := info_parts info_file
  have HD := Lib.hid h
  have h1 := h.files
  have h1f := h.free 0
  have hbw := h.lt
  have e : layF name bytes fs = fs.take (fnd name fs) ++ (name, bytes) :: fs.drop (fnd name fs) := by unfold layF; rw [hh]; simp
  rw [e]
  clear e
  have hle := fnd_le name fs
  have hown := h.row
  clear h
  have HH := Lib.hid hh; clear hh
  generalize hn : fnd name fs = p at *
  have HN := Lib.hid hn; clear hn
  go_enter Tryz.func54, Tryz.ntmps54
  go_wp2_with fail
  refine (dfind_any b _ fs cut count dead name _ HD.out).mono ?_
  rintro e w1 ⟨rfl, q, rfl⟩
  rw [HN.out, HH.out]
  go_wp2_with (at_builtin; refine wpList_append_own_at _ rfl _ _ 52 rfl 0 109 i0 (.agg #[.string ⟨#[]⟩, .string ⟨#[]⟩]) 2 32 Tryz.underlying52 hi hz0 hz1 hz2 rfl (by decide) _ _ _ rfl (hown.alloc _) ⟨w.heap.size, 0, none⟩ 1 1 [.string ⟨#[]⟩, .string ⟨#[]⟩] rfl rfl ?c1 ?c2 ?c3 ?c4 ?c5 ?_)
  case c1 => exact two_cells _
  case c2 => intro u hu; simp at hu; subst hu; rfl
  case c3 => unfold maxLen; omega
  case c4 => omega
  case c5 => exact Nat.zero_le _
  intro v2 w2 hown2 hg _ hat
  have hrow2 : w2.ownsRow 0 109 2 v2 (fs ++ [noFile]).length (flatF (fs ++ [noFile])) := by simpa [flatF_append, flatF, noFile] using hown2
  have hbk : w2.heap[b]? = w.heap[b]? := (hg.block b (by simp; omega) (fun e => HD.out.ne e.symm)).trans (Below.heap_alloc _ _ _ hbw)
  have ec : ∀ j, w2.cell? ⟨b, j, none⟩ = w.cell? ⟨b, j, none⟩ := fun j => World.cell?_of_block (a := ⟨b, j, none⟩) hbk
  have ef : ∀ j, w2.frozen? ⟨b, j, none⟩ = w.frozen? ⟨b, j, none⟩ := fun j => World.frozen?_of_block (a := ⟨b, j, none⟩) hbk
  have hK2 : Keeps (Foot b v) w w2 := ⟨hg.os, hg.tape, hg.output, by have := hg.size; simp at this; omega, fun k hk hf => (hg.block k (by simp; omega) (fun e => hf (Or.inr e.symm))).trans (Below.heap_alloc _ _ _ hk)⟩
  have hsep2 : v2.ownBlock ≠ some b := by
    intro e
    rcases hat with e2 | e2
    · exact HD.out.ne (e2.symm.trans e)
    · rw [e] at e2; have := Option.some.inj e2; omega
  have hD3 : IsDsk (w2.setCell ⟨b, 0, none⟩ v2) b v2 (fs ++ [noFile]) cut count dead :=
    ⟨World.cell?_setCell_same _ _ _ ((ec 0).trans HD.out.files), by rw [cell_ne (by decide), ec]; exact HD.out.cut, by rw [cell_ne (by decide), ec]; exact HD.out.count, by rw [cell_ne (by decide), ec]; exact HD.out.dead,
      fun j => by have := HD.out.free j; rw [← ef j] at this; simpa using this, row_set hrow2 hsep2 _ _, hsep2⟩
  have HD3 := Lib.hid hD3
  have HK3 := Lib.hid (hK2.set ⟨b, 0, none⟩ (Or.inl rfl) v2)
  have d0 : w2.cell? ⟨b, 0, none⟩ = some v := (ec 0).trans h1
  have f0 : w2.frozen? ⟨b, 0, none⟩ = false := (ef 0).trans h1f
  have hgrow : ∀ x, v2.ownBlock = some x → v.ownBlock = some x ∨ w.heap.size ≤ x := by
    intro x hx
    rcases hat with e | e
    · rw [hx] at e; exact Or.inl e.symm
    · rw [hx] at e; have := Option.some.inj e; exact Or.inr (by omega)
  have HGR := Lib.hid hgrow
  have hlen : (fs ++ [noFile]).length = fs.length + 1 := by simp
  rcases row_val hrow2 with ⟨-, h0⟩ | ⟨g, cp, rfl, -⟩
  · simp at h0
  rw [hlen] at *
  clear hown2 hg hat hrow2 hbk ec ef hK2 hD3 hgrow hlen hown h1 h1f
  go_wp2_with fail
  go_loopw [8] (fun vk wr => ∃ (k : Nat) (L : FL), p ≤ k ∧ k ≤ fs.length ∧ vk = .int .i64 k ∧ Hid (Gap fs L k) ∧ Hid (IsDsk wr b (.slice (some ⟨g, 0, none⟩) (fs.length + 1) cp) L cut count dead) ∧ Hid (Keeps (Foot b v) w wr)) (fun vk _ => (intOf vk).toNat)
  case atStart => exact ⟨fs.length, _, hle, Nat.le_refl _, by go_num, Lib.hid ⟨noFile, by rw [List.take_length, List.drop_length]⟩, HD3, HK3⟩
  case round =>
    obtain ⟨k, L, hpk, hk, rfl, HGAP, HDL, HKL⟩ := hrel
    rename World => wr
    have hL := gap_len HGAP.out hk
    have k0 := HDL.out.files
    by_cases hlt : p < k
    · obtain ⟨k', rfl⟩ : ∃ k', k = k' + 1 := ⟨k - 1, by omega⟩
      have e1 := gap_get HGAP.out (by omega) (by omega)
      obtain ⟨a1, a2, -⟩ := HDL.out.cells hL.symm k' (by omega)
      obtain ⟨b1, b2, b3⟩ := HDL.out.cells hL.symm (k' + 1) (by omega)
      rw [e1] at a1 a2
      have b4 := b3 ((k' + 1) * 2)
      have b5 := b3 ((k' + 1) * 2 + 1)
      have HNX := Lib.hid (fun q => (HDL.out.drewN q).setFile hL.symm (k' + 1) (by omega) fs[k'].1 fs[k'].2)
      have HGX := Lib.hid (gap_next HGAP.out (show k' < fs.length by omega))
      clear b3 e1
      go_wp2_with fail
      have es3 : IntKind.i64.wrap (k' : Int) = (k' : Int) := IntWalk.i64_in _ ⟨by omega, by omega⟩
      have n1 : (0 : Int) ≤ (k' : Int) := by omega
      have n2 : (k' : Int) < (fs.length : Int) + 1 := by omega
      have n3 : (k' : Int) + 1 < (fs.length : Int) + 1 := by omega
      have n4 : (0 : Int) ≤ (k' : Int) + 1 := by omega
      have n5 : ((k' : Int) + 1).toNat = k' + 1 := by omega
      refine wp_region_still_tail 14 (by kernel_rfl) (by kernel_rfl) ?_
      obtain ⟨wd, hwd⟩ : ∃ wd, wd = wr.drewN 1 := ⟨_, rfl⟩
      change wpStill _ _ (wr.drewN 1) (fun a' => wpList _ _ _ _ a' (wr.drewN 1)) _ _
      rw [← hwd]
      have k0' : wd.cell? ⟨b, 0, none⟩ = some (.slice (some ⟨g, 0, none⟩) (fs.length + 1) cp) := by rw [hwd]; simpa using k0
      have a1' : wd.cell? ⟨g, k' * 2, none⟩ = some (.string fs[k'].1) := by rw [hwd]; simpa using a1
      have a2' : wd.cell? ⟨g, k' * 2 + 1, none⟩ = some (.string fs[k'].2) := by rw [hwd]; simpa using a2
      have b1' : wd.cell? ⟨g, (k' + 1) * 2, none⟩ = some (.string L[k' + 1].1) := by rw [hwd]; simpa using b1
      have b2' : wd.cell? ⟨g, (k' + 1) * 2 + 1, none⟩ = some (.string L[k' + 1].2) := by rw [hwd]; simpa using b2
      have b4' : wd.frozen? ⟨g, (k' + 1) * 2, none⟩ = false := by rw [hwd]; simpa using b4
      have b5' : wd.frozen? ⟨g, (k' + 1) * 2 + 1, none⟩ = false := by rw [hwd]; simpa using b5
      have hnew := HNX.out 1
      rw [← hwd] at hnew
      have HNEW := Lib.hid hnew
      have HKD := Lib.hid (show Keeps (Foot b v) w wd by rw [hwd]; exact HKL.out.drewN 1)
      clear k0 a1 a2 b1 b2 b4 b5 hnew hwd HNX HDL HKL
      simp only [List.take_succ_cons, List.take_zero, List.drop_succ_cons, List.drop_zero]
      repeat still_step
      refine wpStill_nil ?_
      go_wp2_with fail
      go_roundw
      case rel => exact ⟨k', _, by omega, by omega, by go_num, HGX, HNEW, Lib.hid ((HKD.out.then (S := Foot b v) (((Keeps.refl (· = g) _).set _ rfl _).set _ rfl _) (fun i hi e => (HGR.out i (by rw [e]; rfl)).elim Or.inr (fun h => by omega))))⟩
      case measure => simp [intOf]
    · obtain rfl : p = k := by omega
      obtain ⟨b1, b2, b3⟩ := HDL.out.cells hL.symm p (by omega)
      have b4 := b3 (p * 2)
      have b5 := b3 (p * 2 + 1)
      have HNX := Lib.hid (HDL.out.setFile hL.symm p (by omega) name bytes)
      have HGX := Lib.hid (gap_last HGAP.out hk (name, bytes))
      clear b3
      go_wp2_with fail
      go_end0
      rw [← HGX.out]
      exact ⟨rfl, _, HNX.out, HKL.out.then (((Keeps.refl (· = g) _).set _ rfl _).set _ rfl _) (fun i hi e => (HGR.out i (by rw [e]; rfl)).elim Or.inr (fun h => by omega)), HGR.out⟩
end DiskC
end Go.Proofs.YtlnbjlidakdmlaaGreatDoor
namespace Go.Proofs.YtlnbjlidakdmlaaGreatDoor
open Go.RowKit
namespace DiskC
open DiskM

theorem dlay_any (b : Nat) (v : Value) (fs : FL) (cut count : Int) (dead : Bool) (name bytes : ByteArray) (w : World) (h : IsDsk w b v fs cut count dead) (hm : fs.length ≤ 1048576) :
    Calls Tryz.prog 54 #[.pointer (some ⟨b, 0, none⟩), .string name, .string bytes] w fun e w' => e = .returned (.tuple #[]) ∧ ∃ v', Laid w w' b v v' (layF name bytes fs) cut count dead := by
  cases hh : hasF name fs with
  | true => exact dlay_old b v fs cut count dead name bytes w h hh
  | false => exact dlay_new b v fs cut count dead name bytes w h hh hm

/-- the row as it stands while the files behind the place p move down -/
def Shift (fs L : FL) (p k : Nat) : Prop := L = (fs.eraseIdx p).take k ++ fs.drop k
theorem shift_zero {fs : FL} {p : Nat} (hp : p < fs.length) : Shift fs fs p p := by
  unfold Shift
  rw [List.eraseIdx_eq_take_drop_succ, List.take_append_of_le_length (by simp; omega), List.take_take, Nat.min_self, List.take_append_drop]
theorem erase_len {fs : FL} {p : Nat} (hp : p < fs.length) : (fs.eraseIdx p).length = fs.length - 1 := List.length_eraseIdx_of_lt hp
theorem shift_len {fs L : FL} {p k : Nat} (h : Shift fs L p k) (hp : p < fs.length) (hk : k < fs.length) : L.length = fs.length := by
  rw [h, List.length_append, List.length_take, List.length_drop, erase_len hp]; omega
theorem shift_get {fs L : FL} {p k : Nat} (h : Shift fs L p k) (hp : p < fs.length) (hk : k + 1 < fs.length) (hl : k + 1 < L.length) : L[k + 1] = fs[k + 1] := by
  unfold Shift at h
  subst h
  have e : (List.take k (fs.eraseIdx p)).length = k := by rw [List.length_take, erase_len hp]; omega
  rw [List.getElem_append_right (by omega)]
  simp only [e, List.getElem_drop]
  congr 1
  omega
theorem shift_next {fs L : FL} {p k : Nat} (h : Shift fs L p k) (hp : p < fs.length) (hpk : p ≤ k) (hk : k + 1 < fs.length) : Shift fs (L.set k fs[k + 1]) p (k + 1) := by
  unfold Shift at h ⊢
  subst h
  have e : (List.take k (fs.eraseIdx p)).length = k := by rw [List.length_take, erase_len hp]; omega
  have he : k < (fs.eraseIdx p).length := by rw [erase_len hp]; omega
  have hg : (fs.eraseIdx p)[k] = fs[k + 1] := by rw [List.getElem_eraseIdx_of_ge _ hpk]
  rw [List.set_append_right _ _ (by omega), e, Nat.sub_self, List.drop_eq_getElem_cons (show k < fs.length by omega), List.set_cons_zero, List.take_succ_eq_append_getElem he, hg, List.append_assoc]
  rfl
theorem shift_end {fs L : FL} {p k : Nat} (h : Shift fs L p k) (hp : p < fs.length) (hk : k + 1 = fs.length) : L.take (fs.length - 1) = fs.eraseIdx p := by
  unfold Shift at h
  subst h
  have e : (fs.eraseIdx p).length = k := by rw [erase_len hp]; omega
  rw [List.take_append_of_le_length (by rw [List.length_take, e]; omega), List.take_take, List.take_of_length_le (by omega)]
theorem flatF_take : ∀ (fs : FL) (m : Nat), flatF (fs.take m) = (flatF fs).take (m * 2)
  | _, 0 => by simp [flatF]
  | [], m + 1 => by simp [flatF]
  | f :: r, m + 1 => by
    rw [show (m + 1) * 2 = m * 2 + 1 + 1 by omega]
    simp [flatF, flatF_take r m]
theorem row_cut {w : World} {B g cap n m : Nat} {e : TypeId} {xs : List Value} (h : w.ownsRow B e 2 (.slice (some ⟨g, 0, none⟩) n cap) n xs) (hm : m ≤ n) : w.ownsRow B e 2 (.slice (some ⟨g, 0, none⟩) m cap) m (xs.take (m * 2)) := by
  obtain ⟨h1, ⟨h2, _⟩ | ⟨g', cap', cur, h2, hg, hh, hle, hcm, hcs, htk⟩⟩ := h
  · simp at h2
  · simp only [Value.slice.injEq, Option.some.injEq, Addr.mk.injEq, and_true, true_and] at h2
    obtain ⟨rfl, rfl⟩ := h2
    exact ⟨by rw [List.length_take, h1]; omega, Or.inr ⟨g, cap, cur, rfl, hg, hh, by omega, hcm, hcs, by rw [← htk, List.take_take]; congr 1; omega⟩⟩
theorem IsDsk.cutRow {w : World} {b g cap n m : Nat} {fs : FL} {cut count : Int} {dead : Bool} (hn : n = fs.length) (h : IsDsk w b (.slice (some ⟨g, 0, none⟩) n cap) fs cut count dead) (hm : m ≤ n) :
    IsDsk (w.setCell ⟨b, 0, none⟩ (.slice (some ⟨g, 0, none⟩) m cap)) b (.slice (some ⟨g, 0, none⟩) m cap) (fs.take m) cut count dead := by
  subst hn
  refine ⟨World.cell?_setCell_same _ _ _ h.files, by rw [cell_ne (by decide)]; exact h.cut, by rw [cell_ne (by decide)]; exact h.count, by rw [cell_ne (by decide)]; exact h.dead, fun j => by simpa using h.free j, ?_, h.sep⟩
  have := row_set (row_cut h.row hm) h.sep 0 (.slice (some ⟨g, 0, none⟩) m cap)
  rw [flatF_take, List.length_take, Nat.min_eq_left hm]
  exact this

theorem row_cap {w : World} {B g cap n : Nat} {e : TypeId} {xs : List Value} (h : w.ownsRow B e 2 (.slice (some ⟨g, 0, none⟩) n cap) n xs) : n ≤ cap := by
  obtain ⟨_, ⟨h2, _⟩ | ⟨g', cap', cur, h2, _, _, hle, _⟩⟩ := h
  · simp at h2
  · simp only [Value.slice.injEq, Option.some.injEq, Addr.mk.injEq, and_true, true_and] at h2
    obtain ⟨rfl, rfl⟩ := h2
    exact hle
theorem size_file (w : World) : (sizeOf (Tryz.prog.elem 52)).run Tryz.prog w = .ok 2 w := by kernel_rfl
theorem cut_files (g n cp m : Nat) (h : m ≤ cp) (w : World) : (Instr.slice 52 (.slice (some ⟨g, 0, none⟩) n cp) none (some (.int .i64 (m : Int))) none).run Tryz.prog w = .ok (.slice (some ⟨g, 0, none⟩) m cp) w := by
  have ht : Tryz.prog.underlying 52 = some (.slice (Tryz.prog.elem 52)) := by kernel_rfl
  rw [run_slice_h w 52 _ n cp ht .i64 (m : Int) (by omega) (by omega), size_file]
  simp [sliced, Result.andThen, Addr.add]

theorem dtake_none (b : Nat) (v : Value) (fs : FL) (cut count : Int) (dead : Bool) (name : ByteArray) (w : World) (h : IsDsk w b v fs cut count dead) (hh : hasF name fs = false) :
    Calls Tryz.prog 74 #[.pointer (some ⟨b, 0, none⟩), .string name] w fun e w' => e = .returned (.tuple #[]) ∧ ∃ v', Laid w w' b v v' (takeF name fs) cut count dead := by
  have HD := Lib.hid h
  have e : takeF name fs = fs := by unfold takeF; rw [hh]; simp
  rw [e]
  clear e h
  have HH := Lib.hid hh; clear hh
  go_enter Tryz.func74, Tryz.ntmps74
  go_wp2_with fail
  refine (dfind_any b _ fs cut count dead name _ HD.out).mono ?_
  rintro e w1 ⟨rfl, q, rfl⟩
  rw [HH.out]
  go_wp2_with fail
  go_end0
  exact ⟨rfl, _, HD.out.drewN _, (Keeps.refl _ _).drewN _, fun _ h => Or.inl h⟩

set_option maxHeartbeats 4000000 in
set_option maxRecDepth 100000 in
theorem dtake_old (b : Nat) (v : Value) (fs : FL) (cut count : Int) (dead : Bool) (name : ByteArray) (w : World) (h : IsDsk w b v fs cut count dead) (hh : hasF name fs = true) (hm : fs.length ≤ 1048577) :
    Calls Tryz.prog 74 #[.pointer (some ⟨b, 0, none⟩), .string name] w fun e w' => e = .returned (.tuple #[]) ∧ ∃ v', Laid w w' b v v' (takeF name fs) cut count dead := by
  have HD := Lib.hid h
  have hlt := hasF_lt hh
  have e : takeF name fs = fs.eraseIdx (fnd name fs) := by unfold takeF; rw [if_pos hh]
  rw [e]
  clear e
  rcases row_val h.row with ⟨-, rfl⟩ | ⟨g, cp, rfl, hgB, -, -⟩
  · cases hlt
  clear h
  have HH := Lib.hid hh; clear hh
  generalize hn : fnd name fs = p at *
  have HN := Lib.hid hn; clear hn
  go_enter Tryz.func74, Tryz.ntmps74
  go_wp2_with fail
  refine (dfind_any b _ fs cut count dead name _ HD.out).mono ?_
  rintro e w1 ⟨rfl, q, rfl⟩
  rw [HN.out, HH.out]
  go_wp2_with fail
  go_loopw [6] (fun vk wr => ∃ (k : Nat) (L : FL), p ≤ k ∧ k < fs.length ∧ vk = .int .i64 k ∧ Hid (Shift fs L p k) ∧ Hid (IsDsk wr b (.slice (some ⟨g, 0, none⟩) fs.length cp) L cut count dead) ∧ Hid (Keeps (Foot b (.slice (some ⟨g, 0, none⟩) fs.length cp)) w wr)) (fun vk _ => fs.length - (intOf vk).toNat)
  case atStart => exact ⟨p, fs, Nat.le_refl _, hlt, rfl, Lib.hid (shift_zero hlt), Lib.hid (HD.out.drewN q), Lib.hid ((Keeps.refl _ _).drewN q)⟩
  case round =>
    obtain ⟨k, L, hpk, hk, rfl, HSH, HDL, HKL⟩ := hrel
    rename World => wr
    have hL := shift_len HSH.out hlt hk
    have k0 := HDL.out.files
    by_cases hk1 : k + 1 < fs.length
    · have e1 := shift_get HSH.out hlt hk1 (by omega)
      obtain ⟨a1, a2, -⟩ := HDL.out.cells hL.symm (k + 1) (by omega)
      obtain ⟨b1, b2, b3⟩ := HDL.out.cells hL.symm k (by omega)
      rw [e1] at a1 a2
      have b4 := b3 (k * 2)
      have b5 := b3 (k * 2 + 1)
      have HNX := Lib.hid (fun q => (HDL.out.drewN q).setFile hL.symm k (by omega) fs[k + 1].1 fs[k + 1].2)
      have HGX := Lib.hid (shift_next HSH.out hlt hpk hk1)
      clear b3 e1
      have hdec : decide ((k : Int) + 1 < (fs.length : Int)) = true := by simp; omega
      go_wp2_with fail
      have es3 : IntKind.i64.wrap (k : Int) = (k : Int) := IntWalk.i64_in _ ⟨by omega, by omega⟩
      have es4 : IntKind.i64.wrap ((k : Int) + 1) = (k : Int) + 1 := IntWalk.i64_in _ ⟨by omega, by omega⟩
      have n1 : (0 : Int) ≤ (k : Int) := by omega
      have n2 : (k : Int) < (fs.length : Int) := by omega
      have n3 : (k : Int) + 1 < (fs.length : Int) := by omega
      have n4 : (0 : Int) ≤ (k : Int) + 1 := by omega
      have n5 : ((k : Int) + 1).toNat = k + 1 := by omega
      refine wp_region_still_tail 14 (by kernel_rfl) (by kernel_rfl) ?_
      obtain ⟨wd, hwd⟩ : ∃ wd, wd = wr.drewN 1 := ⟨_, rfl⟩
      change wpStill _ _ (wr.drewN 1) (fun a' => wpList _ _ _ _ a' (wr.drewN 1)) _ _
      rw [← hwd]
      have k0' : wd.cell? ⟨b, 0, none⟩ = some (.slice (some ⟨g, 0, none⟩) fs.length cp) := by rw [hwd]; simpa using k0
      have a1' : wd.cell? ⟨g, (k + 1) * 2, none⟩ = some (.string fs[k + 1].1) := by rw [hwd]; simpa using a1
      have a2' : wd.cell? ⟨g, (k + 1) * 2 + 1, none⟩ = some (.string fs[k + 1].2) := by rw [hwd]; simpa using a2
      have b1' : wd.cell? ⟨g, k * 2, none⟩ = some (.string L[k].1) := by rw [hwd]; simpa using b1
      have b2' : wd.cell? ⟨g, k * 2 + 1, none⟩ = some (.string L[k].2) := by rw [hwd]; simpa using b2
      have b4' : wd.frozen? ⟨g, k * 2, none⟩ = false := by rw [hwd]; simpa using b4
      have b5' : wd.frozen? ⟨g, k * 2 + 1, none⟩ = false := by rw [hwd]; simpa using b5
      have hnew := HNX.out 1
      rw [← hwd] at hnew
      have HNEW := Lib.hid hnew
      have HKD := Lib.hid (show Keeps (Foot b (.slice (some ⟨g, 0, none⟩) fs.length cp)) w wd by rw [hwd]; exact HKL.out.drewN 1)
      clear k0 a1 a2 b1 b2 b4 b5 hnew hwd HNX HDL HKL
      simp only [List.take_succ_cons, List.take_zero, List.drop_succ_cons, List.drop_zero]
      repeat still_step
      refine wpStill_nil ?_
      go_wp2_with fail
      go_roundw
      case rel => exact ⟨k + 1, _, by omega, by omega, by go_num, HGX, HNEW, Lib.hid (HKD.out.then (((Keeps.refl (· = g) _).set _ rfl _).set _ rfl _) (fun i hi e => Or.inr (by rw [e]; rfl)))⟩
      case measure => simp [intOf]; omega
    · have hke : k + 1 = fs.length := by omega
      have HEND := Lib.hid (shift_end HSH.out hlt hke)
      have HNX := Lib.hid (fun q => (HDL.out.drewN q).cutRow (m := fs.length - 1) hL.symm (by omega))
      have hdec : decide ((k : Int) + 1 < (fs.length : Int)) = false := by simp; omega
      have k1 := HDL.out.free 0
      have hcut := cut_files g fs.length cp (fs.length - 1) (by have := row_cap (hL ▸ HDL.out.row); omega)
      have HCUT := Lib.hid hcut
      clear hcut
      go_wp2_with fail
      have hcut := HCUT.out
      have es3 : IntKind.i64.wrap ((fs.length : Int) - 1) = ((fs.length - 1 : Nat) : Int) := by rw [show (fs.length : Int) - 1 = ((fs.length - 1 : Nat) : Int) by omega]; exact IntWalk.i64_in _ ⟨by omega, by omega⟩
      refine wp_region_still_tail 14 (by kernel_rfl) (by kernel_rfl) ?_
      obtain ⟨wd, hwd⟩ : ∃ wd, wd = wr.drewN 1 := ⟨_, rfl⟩
      change wpStill _ _ (wr.drewN 1) (fun a' => wpList _ _ _ _ a' (wr.drewN 1)) _ _
      rw [← hwd]
      have k0' : wd.cell? ⟨b, 0, none⟩ = some (.slice (some ⟨g, 0, none⟩) fs.length cp) := by rw [hwd]; simpa using k0
      have k1' : wd.frozen? ⟨b, 0, none⟩ = false := by rw [hwd]; simpa using k1
      have hnew := HNX.out 1
      rw [← hwd] at hnew
      have HNEW := Lib.hid hnew
      have HKD := Lib.hid (show Keeps (Foot b (.slice (some ⟨g, 0, none⟩) fs.length cp)) w wd by rw [hwd]; exact HKL.out.drewN 1)
      clear k0 k1 hnew hwd HNX HDL HKL
      simp only [List.take_succ_cons, List.take_zero, List.drop_succ_cons, List.drop_zero]
      repeat still_step
      refine wpStill_nil ?_
      go_wp2_with fail
      go_end0
      rw [← HEND.out]
      exact ⟨rfl, _, HNEW.out, HKD.out.set _ (Or.inl rfl) _, fun x hx => Or.inl hx⟩
end DiskC
end Go.Proofs.YtlnbjlidakdmlaaGreatDoor
namespace Go.Proofs.YtlnbjlidakdmlaaGreatDoor
open Go.RowKit
namespace DiskC
open DiskM

theorem front_at (s : ByteArray) (q : Nat) (h : q ≤ s.size) (w : World) : (Instr.slice 9 (.string s) none (some (.int .i64 (q : Int))) none).run Tryz.prog w = .ok (.string (s.extract 0 q)) w := by
  rw [run_slice_string_h w 9 s Tryz.underlying9 .i64 (q : Int) (by omega) (by omega)]
  rfl
theorem back_at (s : ByteArray) (k : Nat) (h : k ≤ s.size) (w : World) : (Instr.slice 9 (.string s) (some (.int .i64 (k : Int))) none none).run Tryz.prog w = .ok (.string (s.extract k s.size)) w := by
  rw [run_slice_string_l w 9 s Tryz.underlying9 .i64 (k : Int) (by omega) (by omega)]
  rfl
theorem adds_at (a b : ByteArray) (h : a.size + b.size ≤ 4611686018427387904) (w : World) : (Op.stringOp .add a b).run Tryz.prog w = .ok (.string (a ++ b)) w := run_string_add_sum (P := Tryz.prog) w a b (by omega)
def strLen : Value → Nat
  | .string s => s.size
  | _ => 0
theorem no_rest (x : ByteArray) : (x.extract x.size x.size).toList = [] ∧ (x.extract x.size x.size).toList.isEmpty = true := by
  have e : (x.extract x.size x.size).toList = [] := by rw [ByteArray.toList_eq, Lib.extract_to_end]; simp
  exact ⟨e, by rw [e]; rfl⟩
theorem some_rest (x : ByteArray) (h : 32 < x.size) : (x.extract 32 x.size).toList.isEmpty = false := by
  rw [ByteArray.toList_eq, Lib.extract_to_end]
  have : 0 < (x.data.toList.drop 32).length := by rw [List.length_drop, Array.length_toList]; show 0 < x.size - 32; omega
  cases e : x.data.toList.drop 32 with
  | nil => rw [e] at this; cases this
  | cons a r => rfl

theorem Laid.drewN {w w' : World} {b : Nat} {v v' : Value} {fs : FL} {cut count : Int} {dead : Bool} (h : Laid w w' b v v' fs cut count dead) (q : Nat) : Laid w (w'.drewN q) b v v' fs cut count dead := ⟨h.dsk.drewN q, h.keeps.drewN q, h.row⟩
theorem all_front (x : ByteArray) : x.extract 0 x.size = x := by
  apply ByteArray.ext
  apply Array.toList_inj.1
  rw [Lib.extract_to_end]; simp
theorem front_all (x : ByteArray) (w : World) : (Instr.slice 9 (.string x) none (some (.int .i64 (x.size : Int))) none).run Tryz.prog w = .ok (.string x) w := by
  rw [front_at x x.size (Nat.le_refl _), all_front]
/-- the answer of pieces: whole, or the power is lost -/
def AddsE (b : Nat) (v : Value) (cut : Int) (r : Bool × DS) (w : World) (e : Ending) (w' : World) : Prop :=
  e = .returned (.int .i64 (code5 r.1)) ∧ ∃ v', Laid w w' b v v' r.2.fs cut r.2.count r.2.dead

set_option maxHeartbeats 8000000 in
set_option maxRecDepth 100000 in
theorem dadds_any (b : Nat) (v : Value) (cut : Int) (name x0 : ByteArray) (s0 : DS) (w : World) (h : IsDsk w b v s0.fs cut s0.count s0.dead) (hm : room name s0.fs ≤ 1048576) (hz : (bytesF name s0.fs).size + x0.size ≤ 1099511627776) (hc : s0.count + x0.size ≤ 1099511627776) :
    Calls Tryz.prog 50 #[.pointer (some ⟨b, 0, none⟩), .string name, .string x0] w (AddsE b v cut (addsR cut name x0 s0) w) := by
  have hbw := h.lt
  have HD := Lib.hid (Laid.refl h); clear h
  have HM := Lib.hid hm; clear hm
  generalize hR : addsR cut name x0 s0 = R
  have HR := Lib.hid hR; clear hR
  go_enter Tryz.func50, Tryz.ntmps50
  go_wp2_with fail
  go_loopw [2] (fun vx wr => ∃ (x : ByteArray) (s : DS) (u : Value) (k : Nat), vx = .string x ∧ x.size < k ∧ Hid (addsS cut name k x s = R) ∧ Hid (Laid w wr b v u s.fs cut s.count s.dead) ∧ Hid (room name s.fs = room name s0.fs) ∧ Hid ((bytesF name s.fs).size + x.size ≤ 1099511627776) ∧ Hid (s.count + x.size ≤ 1099511627777)) (fun vx _ => strLen vx)
  case atStart => exact ⟨x0, s0, v, x0.size + 1, rfl, Nat.lt_succ_self _, HR, HD, Lib.hid rfl, Lib.hid hz, Lib.hid (by omega)⟩
  case round =>
    clear hz hc HD HR
    obtain ⟨x, s, u, k, rfl, hk, HA, HL, HRM, HZ, HC⟩ := hrel
    rename World => wr
    obtain ⟨k', rfl⟩ : ∃ k', k = k' + 1 := ⟨k - 1, by omega⟩
    have hxs : x.size ≤ 1099511627776 := by have := HZ.out; omega
    by_cases hx : x.size ≤ 32
    · have hd : decide (32 < x.size) = false := by simpa using hx
      by_cases hr : rawB cut s.count s.dead = true
      · have HN := Lib.hid ((addsS_last (name := name) (k := k') hr hx).trans (by rw [Nat.min_eq_left hx, all_front]))
        have HRF := Lib.hid hr
        clear hr
        go_wp2_with fail
        refine (draw_yes b u s.fs cut s.count s.dead _ HL.out.dsk (by omega) (by have := HC.out; omega) HRF.out).mono ?_
        rintro e w1 ⟨rfl, hd1, hk1⟩
        have HD1 := Lib.hid hd1
        have HL1 := Lib.hid (show Laid w w1 b v u s.fs cut ((s.count : Int) + 1) s.dead from ⟨hd1, HL.out.keeps.then hk1 (fun i hi e => Or.inl e), HL.out.row⟩)
        have hlen : s.fs.length ≤ 1048576 := by have := len_room name s.fs; have := HRM.out; have := HM.out; omega
        have HLEN := Lib.hid hlen
        have hfr := front_all x
        have had := adds_at (bytesF name s.fs) x (by have := HZ.out; omega)
        have HBK := Lib.hid (back_at x x.size (by omega))
        clear hd1 hk1 hlen
        go_wp2_with fail
        go_region_with (first
          | (go_at_call 48; refine (dbytes_any b u s.fs cut ((s.count : Int) + 1) s.dead name _ ?_).mono ?_; exact HD1.out.drewN 1; rintro e w' ⟨rfl, q, rfl⟩)
          | (go_at_call 54; refine (dlay_any b u s.fs cut ((s.count : Int) + 1) s.dead name _ _ ?_ ?_).mono ?_; exact HD1.out.drewN _; exact HLEN.out; rintro e w2 ⟨rfl, u2, hl2⟩; have HL2 := Lib.hid ((HL1.out.drewN _).trans hl2 hbw); clear hl2))
        all_goals
          have hbk := HBK.out
          obtain ⟨r1, r2⟩ := no_rest x
          go_wp2_with fail
          go_ret
          rw [← HA.out, HN.out]
          exact ⟨rfl, u2, by have := HL2.out; simpa using this⟩
      · have HN := Lib.hid (addsS_no (name := name) (x := x) (s := s) (k := k') (cut := cut) (by simpa using hr))
        have hrf : rawB cut s.count s.dead = false := by simpa using hr
        have HRF := Lib.hid hrf
        clear hr hrf
        go_wp2_with fail
        refine (draw_no b u s.fs cut s.count s.dead _ HL.out.dsk HRF.out).mono ?_
        rintro e w1 ⟨rfl, hd1, hk1⟩
        have HD1 := Lib.hid hd1
        have HK1 := Lib.hid hk1
        clear hd1 hk1
        go_wp2_with fail
        go_ret
        rw [← HA.out, HN.out]
        exact ⟨rfl, u, HD1.out, HL.out.keeps.then HK1.out (fun i hi e => Or.inl e), HL.out.row⟩
    · have hd : decide (32 < x.size) = true := by simpa using hx
      have hx2 : 32 < x.size := by omega
      by_cases hr : rawB cut s.count s.dead = true
      · have HN := Lib.hid (addsS_more (name := name) (k := k') hr hx)
        have HRF := Lib.hid hr
        clear hr
        go_wp2_with fail
        refine (draw_yes b u s.fs cut s.count s.dead _ HL.out.dsk (by omega) (by have := HC.out; omega) HRF.out).mono ?_
        rintro e w1 ⟨rfl, hd1, hk1⟩
        have HD1 := Lib.hid hd1
        have HL1 := Lib.hid (show Laid w w1 b v u s.fs cut ((s.count : Int) + 1) s.dead from ⟨hd1, HL.out.keeps.then hk1 (fun i hi e => Or.inl e), HL.out.row⟩)
        have hlen : s.fs.length ≤ 1048576 := by have := len_room name s.fs; have := HRM.out; have := HM.out; omega
        have HLEN := Lib.hid hlen
        have hfr := front_at x 32 (by omega)
        have had := adds_at (bytesF name s.fs) (x.extract 0 32) (by have := HZ.out; rw [ByteArray.size_extract]; omega)
        have HBK := Lib.hid (back_at x 32 (by omega))
        clear hd1 hk1 hlen
        go_wp2_with fail
        go_region_with (first
          | (go_at_call 48; refine (dbytes_any b u s.fs cut ((s.count : Int) + 1) s.dead name _ ?_).mono ?_; exact HD1.out.drewN 1; rintro e w' ⟨rfl, q, rfl⟩)
          | (go_at_call 54; refine (dlay_any b u s.fs cut ((s.count : Int) + 1) s.dead name _ _ ?_ ?_).mono ?_; exact HD1.out.drewN _; exact HLEN.out; rintro e w2 ⟨rfl, u2, hl2⟩; have HL2 := Lib.hid ((HL1.out.drewN _).trans hl2 hbw); clear hl2))
        all_goals
          have hbk := HBK.out
          have r2 := some_rest x hx2
          go_wp2_with fail
          go_roundw
          case rel => exact ⟨x.extract 32 x.size, ⟨layF name (bytesF name s.fs ++ x.extract 0 (min x.size 32)) s.fs, s.count + 1, s.dead⟩, u2, k', rfl, by rw [rest_size]; omega, Lib.hid (by rw [← HA.out, HN.out]), Lib.hid (by have := HL2.out; rw [Nat.min_eq_right (by omega)]; simpa using this), Lib.hid (by rw [room_lay]; exact HRM.out), Lib.hid (by rw [(has_lay _ _ _).2, ByteArray.size_append, piece_size, rest_size]; have := HZ.out; omega), Lib.hid (by rw [rest_size]; have := HC.out; show s.count + 1 + (x.size - 32) ≤ _; omega)⟩
          case measure => simp [strLen]; omega
      · have HN := Lib.hid (addsS_no (name := name) (x := x) (s := s) (k := k') (cut := cut) (by simpa using hr))
        have hrf : rawB cut s.count s.dead = false := by simpa using hr
        have HRF := Lib.hid hrf
        clear hr hrf
        go_wp2_with fail
        refine (draw_no b u s.fs cut s.count s.dead _ HL.out.dsk HRF.out).mono ?_
        rintro e w1 ⟨rfl, hd1, hk1⟩
        have HD1 := Lib.hid hd1
        have HK1 := Lib.hid hk1
        clear hd1 hk1
        go_wp2_with fail
        go_ret
        rw [← HA.out, HN.out]
        exact ⟨rfl, u, HD1.out, HL.out.keeps.then HK1.out (fun i hi e => Or.inl e), HL.out.row⟩
end DiskC
end Go.Proofs.YtlnbjlidakdmlaaGreatDoor
namespace Go.Proofs.YtlnbjlidakdmlaaGreatDoor
open Go.RowKit
namespace DiskC
open DiskM

theorem Fit.room {s : DS} (h : Fit s) (n : ByteArray) : room n s.fs ≤ 1048576 := by have := h.len; unfold DiskM.room; split <;> omega
/-- what a call answers: a number, and the disk behind it -/
def CallE (b : Nat) (v : Value) (cut : Int) (n : Nat) (s : DS) (w : World) (e : Ending) (w' : World) : Prop :=
  e = .returned (.int .i64 n) ∧ ∃ v', Laid w w' b v v' s.fs cut s.count s.dead
def IsD (w : World) (b : Nat) (v : Value) (cut : Int) (s : DS) : Prop := IsDsk w b v s.fs cut s.count s.dead

set_option maxHeartbeats 4000000 in
theorem dappend_any (b : Nat) (v : Value) (cut : Int) (name x : ByteArray) (s : DS) (w : World) (h : IsD w b v cut s) (hf : Fit s) (hx : x.size ≤ 549755813888) :
    Calls Tryz.prog 16 #[.pointer (some ⟨b, 0, none⟩), .string name, .string x] w (CallE b v cut (appendS cut name x s).1 (appendS cut name x s).2 w) := by
  have h1 := h.dead
  have h0 := h.files
  have hbw := h.lt
  have HD : Hid (IsDsk w b v s.fs cut s.count s.dead) := Lib.hid h
  clear h
  have HF := Lib.hid hf; clear hf
  have hbz := HF.out.bytes name
  by_cases c1 : mayB name = false
  · rw [show appendS cut name x s = (2, s) by simp [appendS, c1]]
    have HMAY := Lib.hid c1; clear c1 hbz
    go_enter Tryz.func16, Tryz.ntmps16
    go_wp2_with fail
    refine (dmay_any name _).mono ?_
    rintro e w' ⟨rfl, rfl⟩
    rw [HMAY.out]
    go_wp2_with fail
    go_ret
    exact ⟨rfl, v, Laid.refl HD.out⟩
  have c1' : mayB name = true := by simpa using c1
  have HMAY := Lib.hid c1'; clear c1 c1'
  cases hd : s.dead with
  | true =>
    rw [show appendS cut name x s = (5, s) by have := HMAY.out; simp [appendS, this, hd]]
    rw [hd] at h1
    clear hbz hd
    go_enter Tryz.func16, Tryz.ntmps16
    go_wp2_with fail
    refine (dmay_any name _).mono ?_
    rintro e w' ⟨rfl, rfl⟩
    rw [HMAY.out]
    go_wp2_with fail
    go_ret
    exact ⟨rfl, v, Laid.refl HD.out⟩
  | false =>
    rw [hd] at h1
    have HDD := Lib.hid hd; clear hd
    by_cases c2 : 16777216 < (bytesF name s.fs).size + x.size
    · rw [show appendS cut name x s = (4, s) by have := HMAY.out; have := HDD.out; simp [appendS, *]]
      have d2 : decide (16777216 < (bytesF name s.fs).size + x.size) = true := by simpa using c2
      have d3 : decide ((16777216 : Int) < ((bytesF name s.fs).size : Int) + (x.size : Int)) = true := by simp; omega
      go_enter Tryz.func16, Tryz.ntmps16
      go_wp2_with fail
      refine (dmay_any name _).mono ?_
      rintro e w' ⟨rfl, rfl⟩
      rw [HMAY.out]
      go_wp2_with fail
      refine (dbytes_any b v s.fs cut s.count s.dead name _ HD.out).mono ?_
      rintro e w' ⟨rfl, q, rfl⟩
      go_wp2_with fail
      go_ret
      exact ⟨rfl, v, (Laid.refl HD.out).drewN _⟩
    · have d3 : decide ((16777216 : Int) < ((bytesF name s.fs).size : Int) + (x.size : Int)) = false := by simp; omega
      cases c3 : hasF name s.fs with
      | true =>
        rw [show appendS cut name x s = (code5 (addsR cut name x s).1, (addsR cut name x s).2) by have := HMAY.out; have := HDD.out; simp [appendS, *]]
        have HH := Lib.hid c3; clear c3
        go_enter Tryz.func16, Tryz.ntmps16
        go_wp2_with fail
        refine (dmay_any name _).mono ?_
        rintro e w' ⟨rfl, rfl⟩
        rw [HMAY.out]
        go_wp2_with fail
        refine (dbytes_any b v s.fs cut s.count s.dead name _ HD.out).mono ?_
        rintro e w' ⟨rfl, q, rfl⟩
        go_wp2_with fail
        refine (dhas_any b v s.fs cut s.count s.dead name _ (HD.out.drewN _)).mono ?_
        rintro e w' ⟨rfl, q2, rfl⟩
        rw [HH.out, HDD.out]
        go_wp2_with fail
        refine (dadds_any b v cut name x s _ (HD.out.drewN _) (HF.out.room name) (by omega) (by have := HF.out.count; omega)).mono ?_
        rintro e w2 ⟨rfl, v2, hl⟩
        have HL := Lib.hid (((Laid.refl HD.out).drewN _).trans hl hbw)
        clear hl
        go_wp2_with fail
        go_ret
        exact ⟨rfl, v2, HL.out⟩
      | false =>
        have HH := Lib.hid c3
        clear c3
        rcases row_val HD.out.row with ⟨rfl, hnil⟩ | ⟨g, cp, rfl, hg, hm, -⟩
        · have hlen : s.fs.length = 0 := by rw [hnil]; rfl
          rw [show appendS cut name x s = (code5 (addsR cut name x s).1, (addsR cut name x s).2) by unfold appendS; rw [if_neg (by rw [HMAY.out]; decide), if_neg (by rw [HDD.out]; decide), if_neg (fun h => h.elim c2 (fun h => by omega))]]
          clear hnil hlen
          go_enter Tryz.func16, Tryz.ntmps16
          go_wp2_with fail
          refine (dmay_any name _).mono ?_
          rintro e w' ⟨rfl, rfl⟩
          rw [HMAY.out]
          go_wp2_with fail
          refine (dbytes_any b _ s.fs cut s.count s.dead name _ HD.out).mono ?_
          rintro e w' ⟨rfl, q, rfl⟩
          go_wp2_with fail
          refine (dhas_any b _ s.fs cut s.count s.dead name _ (HD.out.drewN _)).mono ?_
          rintro e w' ⟨rfl, q2, rfl⟩
          rw [HH.out, HDD.out]
          go_wp2_with fail
          refine (dadds_any b _ cut name x s _ (HD.out.drewN _) (HF.out.room name) (by omega) (by have := HF.out.count; omega)).mono ?_
          rintro e w2 ⟨rfl, v2, hl⟩
          have HL := Lib.hid (((Laid.refl HD.out).drewN _).trans hl hbw)
          clear hl
          go_wp2_with fail
          go_ret
          exact ⟨rfl, v2, HL.out⟩
        · by_cases c4 : 65536 ≤ s.fs.length
          · rw [show appendS cut name x s = (4, s) by have := HMAY.out; have := HDD.out; have := HH.out; simp [appendS, *]]
            have d4 : decide (65536 ≤ s.fs.length) = true := by simpa using c4
            have d5 : decide ((65536 : Int) ≤ (s.fs.length : Int)) = true := by simp; omega
            clear hm
            go_enter Tryz.func16, Tryz.ntmps16
            go_wp2_with fail
            refine (dmay_any name _).mono ?_
            rintro e w' ⟨rfl, rfl⟩
            rw [HMAY.out]
            go_wp2_with fail
            refine (dbytes_any b _ s.fs cut s.count s.dead name _ HD.out).mono ?_
            rintro e w' ⟨rfl, q, rfl⟩
            go_wp2_with fail
            refine (dhas_any b _ s.fs cut s.count s.dead name _ (HD.out.drewN _)).mono ?_
            rintro e w' ⟨rfl, q2, rfl⟩
            rw [HH.out, HDD.out]
            go_wp2_with fail
            go_ret
            exact ⟨rfl, _, (Laid.refl HD.out).drewN _⟩
          · rw [show appendS cut name x s = (code5 (addsR cut name x s).1, (addsR cut name x s).2) by unfold appendS; rw [if_neg (by rw [HMAY.out]; decide), if_neg (by rw [HDD.out]; decide), if_neg (fun h => h.elim c2 (fun h => by omega))]]
            have d5 : decide ((65536 : Int) ≤ (s.fs.length : Int)) = false := by simp; omega
            unfold maxLen at hm
            go_enter Tryz.func16, Tryz.ntmps16
            go_wp2_with fail
            refine (dmay_any name _).mono ?_
            rintro e w' ⟨rfl, rfl⟩
            rw [HMAY.out]
            go_wp2_with fail
            refine (dbytes_any b _ s.fs cut s.count s.dead name _ HD.out).mono ?_
            rintro e w' ⟨rfl, q, rfl⟩
            go_wp2_with fail
            refine (dhas_any b _ s.fs cut s.count s.dead name _ (HD.out.drewN _)).mono ?_
            rintro e w' ⟨rfl, q2, rfl⟩
            rw [HH.out, HDD.out]
            go_wp2_with fail
            refine (dadds_any b _ cut name x s _ (HD.out.drewN _) (HF.out.room name) (by omega) (by have := HF.out.count; omega)).mono ?_
            rintro e w2 ⟨rfl, v2, hl⟩
            have HL := Lib.hid (((Laid.refl HD.out).drewN _).trans hl hbw)
            clear hl
            go_wp2_with fail
            go_ret
            exact ⟨rfl, v2, HL.out⟩

theorem isD_lay {w : World} {b : Nat} {v : Value} {fs : FL} {cut : Int} {n : Nat} {dead : Bool} (h : IsDsk w b v fs cut ((n : Int) + 1) dead) : IsDsk w b v fs cut ((n + 1 : Nat) : Int) dead := by
  rw [show ((n + 1 : Nat) : Int) = (n : Int) + 1 by omega]; exact h
theorem laid_lay {w w' : World} {b : Nat} {v v' : Value} {fs : FL} {cut : Int} {n : Nat} {dead : Bool} (h : Laid w w' b v v' fs cut ((n : Int) + 1) dead) : Laid w w' b v v' fs cut ((n + 1 : Nat) : Int) dead := ⟨isD_lay h.dsk, h.keeps, h.row⟩
set_option maxHeartbeats 8000000 in
theorem dput_any (b : Nat) (v : Value) (cut : Int) (name x : ByteArray) (s : DS) (w : World) (h : IsD w b v cut s) (hf : Fit s) :
    Calls Tryz.prog 18 #[.pointer (some ⟨b, 0, none⟩), .string name, .string x] w (CallE b v cut (putS cut name x s).1 (putS cut name x s).2 w) := by
  have h1 := h.dead
  have h0 := h.files
  have hbw := h.lt
  have HD : Hid (IsDsk w b v s.fs cut s.count s.dead) := Lib.hid h
  clear h
  have HF := Lib.hid hf; clear hf
  by_cases c1 : mayB name = false
  · rw [show putS cut name x s = (2, s) by simp [putS, c1]]
    have HMAY := Lib.hid c1; clear c1
    go_enter Tryz.func18, Tryz.ntmps18
    go_wp2_with fail
    refine (dmay_any name _).mono ?_
    rintro e w' ⟨rfl, rfl⟩
    rw [HMAY.out]
    go_wp2_with fail
    go_ret
    exact ⟨rfl, v, Laid.refl HD.out⟩
  have c1' : mayB name = true := by simpa using c1
  have HMAY := Lib.hid c1'; clear c1 c1'
  cases hd : s.dead with
  | true =>
    rw [show putS cut name x s = (5, s) by have := HMAY.out; simp [putS, this, hd]]
    rw [hd] at h1
    clear hd
    go_enter Tryz.func18, Tryz.ntmps18
    go_wp2_with fail
    refine (dmay_any name _).mono ?_
    rintro e w' ⟨rfl, rfl⟩
    rw [HMAY.out]
    go_wp2_with fail
    go_ret
    exact ⟨rfl, v, Laid.refl HD.out⟩
  | false =>
    rw [hd] at h1
    have HDD := Lib.hid hd; clear hd
    by_cases c2 : 16777216 < x.size
    · rw [show putS cut name x s = (4, s) by have := HMAY.out; have := HDD.out; simp [putS, *]]
      have d2 : decide (16777216 < x.size) = true := by simpa using c2
      have d3 : decide ((16777216 : Int) < (x.size : Int)) = true := by simp; omega
      go_enter Tryz.func18, Tryz.ntmps18
      go_wp2_with fail
      refine (dmay_any name _).mono ?_
      rintro e w' ⟨rfl, rfl⟩
      rw [HMAY.out]
      go_wp2_with fail
      go_ret
      exact ⟨rfl, v, Laid.refl HD.out⟩
    · have d3 : decide ((16777216 : Int) < (x.size : Int)) = false := by simp; omega
      cases c3 : hasF name s.fs with
      | true =>
        have HH := Lib.hid c3; clear c3
        by_cases c5 : rawB cut s.count s.dead = true
        · have C5 := Lib.hid c5
          by_cases c6 : x.size = 0
          · rw [show putS cut name x s = (0, ⟨layF name ⟨#[]⟩ s.fs, s.count + 1, s.dead⟩) by unfold putS; rw [if_neg (by rw [HMAY.out]; decide), if_neg (by rw [HDD.out]; decide), if_neg (fun h => h.elim c2 (fun h => by rw [HH.out] at h; exact absurd h.1 (by decide))), if_neg (by rw [c5]; decide), if_pos c6]]
            have t1 : x.toList = [] := by rw [ByteArray.toList_eq]; exact List.eq_nil_of_length_eq_zero (by rw [Array.length_toList]; exact c6)
            have t2 : x.toList.isEmpty = true := by rw [t1]; rfl
            clear c5 c6
            go_enter Tryz.func18, Tryz.ntmps18
            go_wp2_with fail
            refine (dmay_any name _).mono ?_
            rintro e w' ⟨rfl, rfl⟩
            rw [HMAY.out]
            go_wp2_with fail
            refine (dhas_any b _ s.fs cut s.count s.dead name _ HD.out).mono ?_
            rintro e w' ⟨rfl, q, rfl⟩
            rw [HH.out, HDD.out]
            go_wp2_with fail
            refine (draw_yes b _ s.fs cut s.count s.dead _ (HD.out.drewN _) (by omega) (by have := HF.out.count; omega) C5.out).mono ?_
            rintro e w2 ⟨rfl, hd2, hk2⟩
            have HD2 := Lib.hid hd2
            have HL1 := Lib.hid (show Laid w w2 b _ _ s.fs cut ((s.count : Int) + 1) s.dead from ⟨hd2, ((Keeps.refl _ _).drewN _).then hk2 (fun i hi e => Or.inl e), fun g h => Or.inl h⟩)
            clear hd2 hk2
            go_wp2_with fail
            refine (dlay_any b _ s.fs cut ((s.count : Int) + 1) s.dead name ⟨#[]⟩ _ HD2.out (by have := HF.out.len; omega)).mono ?_
            rintro e w3 ⟨rfl, v3, hl3⟩
            have HL2 := Lib.hid (laid_lay (HL1.out.trans hl3 hbw))
            clear hl3
            go_wp2_with fail
            go_ret
            exact ⟨rfl, v3, HL2.out⟩
          · rw [show putS cut name x s = (code5 (addsR cut name x ⟨layF name ⟨#[]⟩ s.fs, s.count + 1, s.dead⟩).1, (addsR cut name x ⟨layF name ⟨#[]⟩ s.fs, s.count + 1, s.dead⟩).2) by unfold putS; rw [if_neg (by rw [HMAY.out]; decide), if_neg (by rw [HDD.out]; decide), if_neg (fun h => h.elim c2 (fun h => by rw [HH.out] at h; exact absurd h.1 (by decide))), if_neg (by rw [c5]; decide), if_neg c6]]
            have t2 : x.toList.isEmpty = false := by
              rw [ByteArray.toList_eq]
              cases e : x.data.toList with
              | nil => exact absurd (by have := congrArg List.length e; rw [Array.length_toList] at this; exact this) c6
              | cons a r => rfl
            clear c5 c6
            go_enter Tryz.func18, Tryz.ntmps18
            go_wp2_with fail
            refine (dmay_any name _).mono ?_
            rintro e w' ⟨rfl, rfl⟩
            rw [HMAY.out]
            go_wp2_with fail
            refine (dhas_any b _ s.fs cut s.count s.dead name _ HD.out).mono ?_
            rintro e w' ⟨rfl, q, rfl⟩
            rw [HH.out, HDD.out]
            go_wp2_with fail
            refine (draw_yes b _ s.fs cut s.count s.dead _ (HD.out.drewN _) (by omega) (by have := HF.out.count; omega) C5.out).mono ?_
            rintro e w2 ⟨rfl, hd2, hk2⟩
            have HD2 := Lib.hid hd2
            have HL1 := Lib.hid (show Laid w w2 b _ _ s.fs cut ((s.count : Int) + 1) s.dead from ⟨hd2, ((Keeps.refl _ _).drewN _).then hk2 (fun i hi e => Or.inl e), fun g h => Or.inl h⟩)
            clear hd2 hk2
            go_wp2_with fail
            refine (dlay_any b _ s.fs cut ((s.count : Int) + 1) s.dead name ⟨#[]⟩ _ HD2.out (by have := HF.out.len; omega)).mono ?_
            rintro e w3 ⟨rfl, v3, hl3⟩
            have HL2 := Lib.hid (laid_lay (HL1.out.trans hl3 hbw))
            clear hl3
            go_wp2_with fail
            refine (dadds_any b v3 cut name x ⟨layF name ⟨#[]⟩ s.fs, s.count + 1, s.dead⟩ _ HL2.out.dsk (by show room name (layF name ⟨#[]⟩ s.fs) ≤ _; rw [room_lay]; exact HF.out.room name) (by show (bytesF name (layF name ⟨#[]⟩ s.fs)).size + x.size ≤ _; rw [(has_lay _ _ _).2]; show 0 + x.size ≤ _; omega) (by show s.count + 1 + x.size ≤ _; have := HF.out.count; omega)).mono ?_
            rintro e w4 ⟨rfl, v4, hl4⟩
            have HL4 := Lib.hid (HL2.out.trans hl4 hbw)
            clear hl4
            go_wp2_with fail
            go_ret
            exact ⟨rfl, v4, HL4.out⟩
        · rw [show putS cut name x s = (5, ⟨s.fs, s.count, true⟩) by unfold putS; rw [if_neg (by rw [HMAY.out]; decide), if_neg (by rw [HDD.out]; decide), if_neg (fun h => h.elim c2 (fun h => by rw [HH.out] at h; exact absurd h.1 (by decide))), if_pos (by simpa using c5)]]
          have c5' : rawB cut s.count s.dead = false := by simpa using c5
          have C5 := Lib.hid c5'
          clear c5 c5'
          go_enter Tryz.func18, Tryz.ntmps18
          go_wp2_with fail
          refine (dmay_any name _).mono ?_
          rintro e w' ⟨rfl, rfl⟩
          rw [HMAY.out]
          go_wp2_with fail
          refine (dhas_any b _ s.fs cut s.count s.dead name _ HD.out).mono ?_
          rintro e w' ⟨rfl, q, rfl⟩
          rw [HH.out, HDD.out]
          go_wp2_with fail
          refine (draw_no b _ s.fs cut s.count s.dead _ (HD.out.drewN _) C5.out).mono ?_
          rintro e w2 ⟨rfl, hd2, hk2⟩
          have HD2 := Lib.hid hd2
          have HK2 := Lib.hid hk2
          clear hd2 hk2
          go_wp2_with fail
          go_ret
          exact ⟨rfl, _, HD2.out, ((Keeps.refl _ _).drewN _).then HK2.out (fun i hi e => Or.inl e), fun g h => Or.inl h⟩
      | false =>
        have HH := Lib.hid c3; clear c3
        rcases row_val HD.out.row with ⟨rfl, hnil⟩ | ⟨g, cp, rfl, hg, hm, -⟩
        · have hlen : s.fs.length = 0 := by rw [hnil]; rfl
          have HLEN := Lib.hid hlen
          clear hnil hlen
          by_cases c5 : rawB cut s.count s.dead = true
          · have C5 := Lib.hid c5
            by_cases c6 : x.size = 0
            · rw [show putS cut name x s = (0, ⟨layF name ⟨#[]⟩ s.fs, s.count + 1, s.dead⟩) by unfold putS; rw [if_neg (by rw [HMAY.out]; decide), if_neg (by rw [HDD.out]; decide), if_neg (fun h => h.elim c2 (fun h => by have := HLEN.out; omega)), if_neg (by rw [c5]; decide), if_pos c6]]
              have t1 : x.toList = [] := by rw [ByteArray.toList_eq]; exact List.eq_nil_of_length_eq_zero (by rw [Array.length_toList]; exact c6)
              have t2 : x.toList.isEmpty = true := by rw [t1]; rfl
              clear c5 c6
              go_enter Tryz.func18, Tryz.ntmps18
              go_wp2_with fail
              refine (dmay_any name _).mono ?_
              rintro e w' ⟨rfl, rfl⟩
              rw [HMAY.out]
              go_wp2_with fail
              refine (dhas_any b _ s.fs cut s.count s.dead name _ HD.out).mono ?_
              rintro e w' ⟨rfl, q, rfl⟩
              rw [HH.out, HDD.out]
              go_wp2_with fail
              refine (draw_yes b _ s.fs cut s.count s.dead _ (HD.out.drewN _) (by omega) (by have := HF.out.count; omega) C5.out).mono ?_
              rintro e w2 ⟨rfl, hd2, hk2⟩
              have HD2 := Lib.hid hd2
              have HL1 := Lib.hid (show Laid w w2 b _ _ s.fs cut ((s.count : Int) + 1) s.dead from ⟨hd2, ((Keeps.refl _ _).drewN _).then hk2 (fun i hi e => Or.inl e), fun g h => Or.inl h⟩)
              clear hd2 hk2
              go_wp2_with fail
              refine (dlay_any b _ s.fs cut ((s.count : Int) + 1) s.dead name ⟨#[]⟩ _ HD2.out (by have := HF.out.len; omega)).mono ?_
              rintro e w3 ⟨rfl, v3, hl3⟩
              have HL2 := Lib.hid (laid_lay (HL1.out.trans hl3 hbw))
              clear hl3
              go_wp2_with fail
              go_ret
              exact ⟨rfl, v3, HL2.out⟩
            · rw [show putS cut name x s = (code5 (addsR cut name x ⟨layF name ⟨#[]⟩ s.fs, s.count + 1, s.dead⟩).1, (addsR cut name x ⟨layF name ⟨#[]⟩ s.fs, s.count + 1, s.dead⟩).2) by unfold putS; rw [if_neg (by rw [HMAY.out]; decide), if_neg (by rw [HDD.out]; decide), if_neg (fun h => h.elim c2 (fun h => by have := HLEN.out; omega)), if_neg (by rw [c5]; decide), if_neg c6]]
              have t2 : x.toList.isEmpty = false := by
                rw [ByteArray.toList_eq]
                cases e : x.data.toList with
                | nil => exact absurd (by have := congrArg List.length e; rw [Array.length_toList] at this; exact this) c6
                | cons a r => rfl
              clear c5 c6
              go_enter Tryz.func18, Tryz.ntmps18
              go_wp2_with fail
              refine (dmay_any name _).mono ?_
              rintro e w' ⟨rfl, rfl⟩
              rw [HMAY.out]
              go_wp2_with fail
              refine (dhas_any b _ s.fs cut s.count s.dead name _ HD.out).mono ?_
              rintro e w' ⟨rfl, q, rfl⟩
              rw [HH.out, HDD.out]
              go_wp2_with fail
              refine (draw_yes b _ s.fs cut s.count s.dead _ (HD.out.drewN _) (by omega) (by have := HF.out.count; omega) C5.out).mono ?_
              rintro e w2 ⟨rfl, hd2, hk2⟩
              have HD2 := Lib.hid hd2
              have HL1 := Lib.hid (show Laid w w2 b _ _ s.fs cut ((s.count : Int) + 1) s.dead from ⟨hd2, ((Keeps.refl _ _).drewN _).then hk2 (fun i hi e => Or.inl e), fun g h => Or.inl h⟩)
              clear hd2 hk2
              go_wp2_with fail
              refine (dlay_any b _ s.fs cut ((s.count : Int) + 1) s.dead name ⟨#[]⟩ _ HD2.out (by have := HF.out.len; omega)).mono ?_
              rintro e w3 ⟨rfl, v3, hl3⟩
              have HL2 := Lib.hid (laid_lay (HL1.out.trans hl3 hbw))
              clear hl3
              go_wp2_with fail
              refine (dadds_any b v3 cut name x ⟨layF name ⟨#[]⟩ s.fs, s.count + 1, s.dead⟩ _ HL2.out.dsk (by show room name (layF name ⟨#[]⟩ s.fs) ≤ _; rw [room_lay]; exact HF.out.room name) (by show (bytesF name (layF name ⟨#[]⟩ s.fs)).size + x.size ≤ _; rw [(has_lay _ _ _).2]; show 0 + x.size ≤ _; omega) (by show s.count + 1 + x.size ≤ _; have := HF.out.count; omega)).mono ?_
              rintro e w4 ⟨rfl, v4, hl4⟩
              have HL4 := Lib.hid (HL2.out.trans hl4 hbw)
              clear hl4
              go_wp2_with fail
              go_ret
              exact ⟨rfl, v4, HL4.out⟩
          · rw [show putS cut name x s = (5, ⟨s.fs, s.count, true⟩) by unfold putS; rw [if_neg (by rw [HMAY.out]; decide), if_neg (by rw [HDD.out]; decide), if_neg (fun h => h.elim c2 (fun h => by have := HLEN.out; omega)), if_pos (by simpa using c5)]]
            have c5' : rawB cut s.count s.dead = false := by simpa using c5
            have C5 := Lib.hid c5'
            clear c5 c5'
            go_enter Tryz.func18, Tryz.ntmps18
            go_wp2_with fail
            refine (dmay_any name _).mono ?_
            rintro e w' ⟨rfl, rfl⟩
            rw [HMAY.out]
            go_wp2_with fail
            refine (dhas_any b _ s.fs cut s.count s.dead name _ HD.out).mono ?_
            rintro e w' ⟨rfl, q, rfl⟩
            rw [HH.out, HDD.out]
            go_wp2_with fail
            refine (draw_no b _ s.fs cut s.count s.dead _ (HD.out.drewN _) C5.out).mono ?_
            rintro e w2 ⟨rfl, hd2, hk2⟩
            have HD2 := Lib.hid hd2
            have HK2 := Lib.hid hk2
            clear hd2 hk2
            go_wp2_with fail
            go_ret
            exact ⟨rfl, _, HD2.out, ((Keeps.refl _ _).drewN _).then HK2.out (fun i hi e => Or.inl e), fun g h => Or.inl h⟩
        · by_cases c4 : 65536 ≤ s.fs.length
          · rw [show putS cut name x s = (4, s) by have := HMAY.out; have := HDD.out; have := HH.out; simp [putS, *]]
            have d4 : decide (65536 ≤ s.fs.length) = true := by simpa using c4
            have d5 : decide ((65536 : Int) ≤ (s.fs.length : Int)) = true := by simp; omega
            clear hm
            go_enter Tryz.func18, Tryz.ntmps18
            go_wp2_with fail
            refine (dmay_any name _).mono ?_
            rintro e w' ⟨rfl, rfl⟩
            rw [HMAY.out]
            go_wp2_with fail
            refine (dhas_any b _ s.fs cut s.count s.dead name _ HD.out).mono ?_
            rintro e w' ⟨rfl, q, rfl⟩
            rw [HH.out, HDD.out]
            go_wp2_with fail
            go_ret
            exact ⟨rfl, _, (Laid.refl HD.out).drewN _⟩
          · have d5 : decide ((65536 : Int) ≤ (s.fs.length : Int)) = false := by simp; omega
            unfold maxLen at hm
            by_cases c5 : rawB cut s.count s.dead = true
            · have C5 := Lib.hid c5
              by_cases c6 : x.size = 0
              · rw [show putS cut name x s = (0, ⟨layF name ⟨#[]⟩ s.fs, s.count + 1, s.dead⟩) by unfold putS; rw [if_neg (by rw [HMAY.out]; decide), if_neg (by rw [HDD.out]; decide), if_neg (fun h => h.elim c2 (fun h => by omega)), if_neg (by rw [c5]; decide), if_pos c6]]
                have t1 : x.toList = [] := by rw [ByteArray.toList_eq]; exact List.eq_nil_of_length_eq_zero (by rw [Array.length_toList]; exact c6)
                have t2 : x.toList.isEmpty = true := by rw [t1]; rfl
                clear c5 c6
                go_enter Tryz.func18, Tryz.ntmps18
                go_wp2_with fail
                refine (dmay_any name _).mono ?_
                rintro e w' ⟨rfl, rfl⟩
                rw [HMAY.out]
                go_wp2_with fail
                refine (dhas_any b _ s.fs cut s.count s.dead name _ HD.out).mono ?_
                rintro e w' ⟨rfl, q, rfl⟩
                rw [HH.out, HDD.out]
                go_wp2_with fail
                refine (draw_yes b _ s.fs cut s.count s.dead _ (HD.out.drewN _) (by omega) (by have := HF.out.count; omega) C5.out).mono ?_
                rintro e w2 ⟨rfl, hd2, hk2⟩
                have HD2 := Lib.hid hd2
                have HL1 := Lib.hid (show Laid w w2 b _ _ s.fs cut ((s.count : Int) + 1) s.dead from ⟨hd2, ((Keeps.refl _ _).drewN _).then hk2 (fun i hi e => Or.inl e), fun g h => Or.inl h⟩)
                clear hd2 hk2
                go_wp2_with fail
                refine (dlay_any b _ s.fs cut ((s.count : Int) + 1) s.dead name ⟨#[]⟩ _ HD2.out (by have := HF.out.len; omega)).mono ?_
                rintro e w3 ⟨rfl, v3, hl3⟩
                have HL2 := Lib.hid (laid_lay (HL1.out.trans hl3 hbw))
                clear hl3
                go_wp2_with fail
                go_ret
                exact ⟨rfl, v3, HL2.out⟩
              · rw [show putS cut name x s = (code5 (addsR cut name x ⟨layF name ⟨#[]⟩ s.fs, s.count + 1, s.dead⟩).1, (addsR cut name x ⟨layF name ⟨#[]⟩ s.fs, s.count + 1, s.dead⟩).2) by unfold putS; rw [if_neg (by rw [HMAY.out]; decide), if_neg (by rw [HDD.out]; decide), if_neg (fun h => h.elim c2 (fun h => by omega)), if_neg (by rw [c5]; decide), if_neg c6]]
                have t2 : x.toList.isEmpty = false := by
                  rw [ByteArray.toList_eq]
                  cases e : x.data.toList with
                  | nil => exact absurd (by have := congrArg List.length e; rw [Array.length_toList] at this; exact this) c6
                  | cons a r => rfl
                clear c5 c6
                go_enter Tryz.func18, Tryz.ntmps18
                go_wp2_with fail
                refine (dmay_any name _).mono ?_
                rintro e w' ⟨rfl, rfl⟩
                rw [HMAY.out]
                go_wp2_with fail
                refine (dhas_any b _ s.fs cut s.count s.dead name _ HD.out).mono ?_
                rintro e w' ⟨rfl, q, rfl⟩
                rw [HH.out, HDD.out]
                go_wp2_with fail
                refine (draw_yes b _ s.fs cut s.count s.dead _ (HD.out.drewN _) (by omega) (by have := HF.out.count; omega) C5.out).mono ?_
                rintro e w2 ⟨rfl, hd2, hk2⟩
                have HD2 := Lib.hid hd2
                have HL1 := Lib.hid (show Laid w w2 b _ _ s.fs cut ((s.count : Int) + 1) s.dead from ⟨hd2, ((Keeps.refl _ _).drewN _).then hk2 (fun i hi e => Or.inl e), fun g h => Or.inl h⟩)
                clear hd2 hk2
                go_wp2_with fail
                refine (dlay_any b _ s.fs cut ((s.count : Int) + 1) s.dead name ⟨#[]⟩ _ HD2.out (by have := HF.out.len; omega)).mono ?_
                rintro e w3 ⟨rfl, v3, hl3⟩
                have HL2 := Lib.hid (laid_lay (HL1.out.trans hl3 hbw))
                clear hl3
                go_wp2_with fail
                refine (dadds_any b v3 cut name x ⟨layF name ⟨#[]⟩ s.fs, s.count + 1, s.dead⟩ _ HL2.out.dsk (by show room name (layF name ⟨#[]⟩ s.fs) ≤ _; rw [room_lay]; exact HF.out.room name) (by show (bytesF name (layF name ⟨#[]⟩ s.fs)).size + x.size ≤ _; rw [(has_lay _ _ _).2]; show 0 + x.size ≤ _; omega) (by show s.count + 1 + x.size ≤ _; have := HF.out.count; omega)).mono ?_
                rintro e w4 ⟨rfl, v4, hl4⟩
                have HL4 := Lib.hid (HL2.out.trans hl4 hbw)
                clear hl4
                go_wp2_with fail
                go_ret
                exact ⟨rfl, v4, HL4.out⟩
            · rw [show putS cut name x s = (5, ⟨s.fs, s.count, true⟩) by unfold putS; rw [if_neg (by rw [HMAY.out]; decide), if_neg (by rw [HDD.out]; decide), if_neg (fun h => h.elim c2 (fun h => by omega)), if_pos (by simpa using c5)]]
              have c5' : rawB cut s.count s.dead = false := by simpa using c5
              have C5 := Lib.hid c5'
              clear c5 c5'
              go_enter Tryz.func18, Tryz.ntmps18
              go_wp2_with fail
              refine (dmay_any name _).mono ?_
              rintro e w' ⟨rfl, rfl⟩
              rw [HMAY.out]
              go_wp2_with fail
              refine (dhas_any b _ s.fs cut s.count s.dead name _ HD.out).mono ?_
              rintro e w' ⟨rfl, q, rfl⟩
              rw [HH.out, HDD.out]
              go_wp2_with fail
              refine (draw_no b _ s.fs cut s.count s.dead _ (HD.out.drewN _) C5.out).mono ?_
              rintro e w2 ⟨rfl, hd2, hk2⟩
              have HD2 := Lib.hid hd2
              have HK2 := Lib.hid hk2
              clear hd2 hk2
              go_wp2_with fail
              go_ret
              exact ⟨rfl, _, HD2.out, ((Keeps.refl _ _).drewN _).then HK2.out (fun i hi e => Or.inl e), fun g h => Or.inl h⟩
end DiskC
end Go.Proofs.YtlnbjlidakdmlaaGreatDoor
