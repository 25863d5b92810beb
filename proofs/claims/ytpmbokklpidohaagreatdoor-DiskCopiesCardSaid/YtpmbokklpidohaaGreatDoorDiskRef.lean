/-
  The document's own disk of layer 3: what it finds, what it has, one raw write.
-/
import Derived.Test.YtpmbokklpidohaaGreatDoorChecked
import Derived.Test.YtpmbokklpidohaaGreatDoorDiskKeeps
import Derived.Test.YtpmbokklpidohaaGreatDoorDiskSpec
import Derived.WalkKit
import Derived.Lib.Hide
import Derived.BigQuiet
import Derived.Deep.QuietTactic
import Derived.WalkSmall
import Derived.Laws.Cover1
namespace Go.Proofs.YtpmbokklpidohaaGreatDoor
open Go.RowKit
namespace DiskC
open DiskM

/-- the document's disk, as its cells hold it: its files in a row of its own -/
structure IsDsk (w : World) (b : Nat) (v : Value) (fs : FL) (cut count : Int) (dead : Bool) : Prop where
  files : w.cell? ⟨b, 0, none⟩ = some v
  cut : w.cell? ⟨b, 1, none⟩ = some (.int .i64 cut)
  count : w.cell? ⟨b, 2, none⟩ = some (.int .i64 count)
  dead : w.cell? ⟨b, 3, none⟩ = some (.bool dead)
  free : ∀ j, w.frozen? ⟨b, j, none⟩ = false
  row : w.ownsRow 0 71 2 v fs.length (flatF fs)
  sep : v.ownBlock ≠ some b
theorem IsDsk.drewN {w : World} {b : Nat} {v : Value} {fs : FL} {cut count : Int} {dead : Bool} (h : IsDsk w b v fs cut count dead) (q : Nat) : IsDsk (w.drewN q) b v fs cut count dead :=
  ⟨by simpa using h.files, by simpa using h.cut, by simpa using h.count, by simpa using h.dead, fun j => by simpa using h.free j, h.row, h.sep⟩
/-- the row's slice: nil, or one at a block's head -/
theorem row_val {w : World} {B : Nat} {v : Value} {fs : FL} (h : w.ownsRow B 71 2 v fs.length (flatF fs)) : (v = .slice none 0 0 ∧ fs = []) ∨
    ∃ g cap, v = .slice (some ⟨g, 0, none⟩) fs.length cap ∧ B ≤ g ∧ fs.length ≤ maxLen ∧ ∀ i (hi : i < fs.length), w.cell? ⟨g, i * 2, none⟩ = some (.string fs[i].1) ∧ w.cell? ⟨g, i * 2 + 1, none⟩ = some (.string fs[i].2) := by
  have h' := h
  obtain ⟨_, ⟨rfl, h0⟩ | ⟨g, cap, cur, rfl, hg, hh, hle, hcm, hcs, htk⟩⟩ := h
  · exact Or.inl ⟨rfl, List.eq_nil_of_length_eq_zero h0⟩
  · exact Or.inr ⟨g, cap, rfl, hg, Nat.le_trans hle hcm, fun i hi => ⟨by rw [h'.cellAt _ (by omega)]; exact flatF_name fs i hi, by rw [h'.cellAt _ (by omega)]; exact flatF_bytes fs i hi⟩⟩

theorem dmay_any (name : ByteArray) (w : World) : Calls Tryz.prog 45 #[.string name] w fun e w' => e = .returned (.bool (mayB name)) ∧ w = w' := by
  by_cases h1 : 1 ≤ name.size
  · by_cases h2 : name.size ≤ 128
    · have e : mayB name = true := by unfold mayB; simp [h1, h2]
      rw [e]
      clear e
      have hd : decide ((name.size : Int) ≤ 128) = true := by simp; omega
      go_enter Tryz.func45, Tryz.ntmps45
      go_wp2_with fail
      go_ret
      exact ⟨rfl, rfl⟩
    · have e : mayB name = false := by unfold mayB; simp [h2]
      rw [e]
      clear e
      have hd : decide ((name.size : Int) ≤ 128) = false := by simp; omega
      go_enter Tryz.func45, Tryz.ntmps45
      go_wp2_with fail
      go_ret
      exact ⟨rfl, rfl⟩
  · have e : mayB name = false := by unfold mayB; simp [h1]
    rw [e]
    clear e
    have hd : decide (1 ≤ name.size) = false := by simpa using h1
    go_enter Tryz.func45, Tryz.ntmps45
    go_wp2_with fail
    go_ret
    exact ⟨rfl, rfl⟩

set_option maxHeartbeats 1000000 in
theorem dfind_any (b : Nat) (v : Value) (fs : FL) (cut count : Int) (dead : Bool) (name : ByteArray) (w : World) (h : IsDsk w b v fs cut count dead) :
    Calls Tryz.prog 58 #[.pointer (some ⟨b, 0, none⟩), .string name] w fun e w' => e = .returned (.tuple #[.int .i64 (fnd name fs), .bool (hasF name fs)]) ∧ ∃ q, w' = w.drewN q := by
  have h1 := h.files
  have hrow := row_val h.row
  clear h
  rcases hrow with ⟨rfl, rfl⟩ | ⟨g, cp, rfl, hg, hm, hc⟩
  · go_enter Tryz.func58, Tryz.ntmps58
    go_wp2_with fail
    refine wp_loop_rounds 1 ?_; rw [rounds_succ]; go_wp2_with fail
    go_ret2
    exact ⟨rfl, 0, rfl⟩
  · have HC := Lib.hid hc; clear hc
    unfold maxLen at hm
    go_enter Tryz.func58, Tryz.ntmps58
    go_wp2_with fail
    go_loop [6] (fun vi => ∃ i : Nat, i ≤ fs.length ∧ vi = .int .i64 i ∧ Hid (Ahead name fs i)) (fun vi => fs.length - (intOf vi).toNat)
    case atStart => exact ⟨0, Nat.zero_le _, rfl, Lib.hid (ahead_zero _ _)⟩
    case round =>
      obtain ⟨i, hi, rfl, HA⟩ := hrel
      by_cases hlt : i < fs.length
      · have hdec : decide (i < fs.length) = true := by simpa using hlt
        obtain ⟨c1, -⟩ := HC.out i hlt
        have HN := Lib.hid (ahead_next HA.out hlt)
        have HE := Lib.hid (ahead_here HA.out hlt)
        generalize fs[i] = f at *
        by_cases hf : fle name f = true
        · obtain ⟨e1, e2⟩ := HE.out hf
          have E1 := Lib.hid e1
          have E2 := Lib.hid e2
          have hf2 : Op.bytesLess f.1.toList name.toList = false := by unfold fle at hf; simpa using hf
          clear hf e1 e2
          go_wp2_with fail
          go_quiet (fail)
          go_wp2_with fail
          go_ret2
          rw [E1.out, E2.out]
          exact ⟨rfl, _, rfl⟩
        · have hf2 : Op.bytesLess f.1.toList name.toList = true := by unfold fle at hf; simpa using hf
          have HNN := Lib.hid (HN.out (by simpa using hf))
          clear hf
          go_wp2_with fail
          go_round
          case rel => exact ⟨i + 1, by omega, by go_num, HNN⟩
          case measure => simp [intOf]; omega
      · have hdec : decide (i < fs.length) = false := by simpa using hlt
        obtain ⟨e1, e2⟩ := ahead_end HA.out (by omega) hi
        have E1 := Lib.hid e1
        have E2 := Lib.hid e2
        clear e1 e2
        go_wp2_with fail
        go_ret2
        rw [E1.out, E2.out]
        exact ⟨rfl, 0, rfl⟩

/-- a disk's own blocks -/
def Foot (b : Nat) (v : Value) : Nat → Prop := fun k => k = b ∨ v.ownBlock = some k
theorem IsDsk.lt {w : World} {b : Nat} {v : Value} {fs : FL} {cut count : Int} {dead : Bool} (h : IsDsk w b v fs cut count dead) : b < w.heap.size := World.block_lt_of_cell? _ _ h.files
theorem IsDsk.ne {w : World} {b : Nat} {v : Value} {fs : FL} {cut count : Int} {dead : Bool} (h : IsDsk w b v fs cut count dead) : v.ownBlock ≠ some b := h.sep
/-- what is written elsewhere leaves a disk as it is -/
theorem IsDsk.keeps {w w' : World} {b : Nat} {v : Value} {fs : FL} {cut count : Int} {dead : Bool} {S : Nat → Prop} (h : IsDsk w b v fs cut count dead) (k : Keeps S w w') (hS : ∀ i, Foot b v i → ¬ S i) : IsDsk w' b v fs cut count dead := by
  have hb := h.lt
  have e : w'.heap[b]? = w.heap[b]? := k.block b hb (hS b (Or.inl rfl))
  have ec : ∀ j, w'.cell? ⟨b, j, none⟩ = w.cell? ⟨b, j, none⟩ := fun j => World.cell?_of_block (a := ⟨b, j, none⟩) e
  have ef : ∀ j, w'.frozen? ⟨b, j, none⟩ = w.frozen? ⟨b, j, none⟩ := fun j => World.frozen?_of_block (a := ⟨b, j, none⟩) e
  refine ⟨by rw [ec]; exact h.files, by rw [ec]; exact h.cut, by rw [ec]; exact h.count, by rw [ec]; exact h.dead, fun j => by rw [ef]; exact h.free j, ?_, h.sep⟩
  have hl := h.row.lt
  obtain ⟨h1, h2⟩ := h.row
  refine ⟨h1, ?_⟩
  rcases h2 with h2 | ⟨g, cap, cur, hv, hg, hh, r⟩
  · exact Or.inl h2
  · have ho : v.ownBlock = some g := by rw [hv]; rfl
    exact Or.inr ⟨g, cap, cur, hv, hg, by rw [k.block g (hl g ho).2 (hS g (Or.inr ho))]; exact hh, r⟩
/-- a store into one of the disk's own fields -/
theorem row_set {w : World} {b : Nat} {v : Value} {n : Nat} {xs : List Value} (h : w.ownsRow 0 71 2 v n xs) (hs : v.ownBlock ≠ some b) (j : Nat) (u : Value) : (w.setCell ⟨b, j, none⟩ u).ownsRow 0 71 2 v n xs := by
  obtain ⟨h1, h2⟩ := h
  refine ⟨h1, ?_⟩
  rcases h2 with h2 | ⟨g, cap, cur, hv, hg, hh, r⟩
  · exact Or.inl h2
  · exact Or.inr ⟨g, cap, cur, hv, hg, by rw [Below.heap_setCell _ _ _ _ (fun e => hs (by rw [hv]; exact congrArg some e))]; exact hh, r⟩
theorem IsDsk.setDead {w : World} {b : Nat} {v : Value} {fs : FL} {cut count : Int} {dead : Bool} (h : IsDsk w b v fs cut count dead) (d : Bool) : IsDsk (w.setCell ⟨b, 3, none⟩ (.bool d)) b v fs cut count d :=
  ⟨by rw [cell_ne (by decide)]; exact h.files, by rw [cell_ne (by decide)]; exact h.cut, by rw [cell_ne (by decide)]; exact h.count, World.cell?_setCell_same _ _ _ h.dead, fun j => by simpa using h.free j, row_set h.row h.sep _ _, h.sep⟩
theorem IsDsk.setCount {w : World} {b : Nat} {v : Value} {fs : FL} {cut count : Int} {dead : Bool} (h : IsDsk w b v fs cut count dead) (c : Int) : IsDsk (w.setCell ⟨b, 2, none⟩ (.int .i64 c)) b v fs cut c dead :=
  ⟨by rw [cell_ne (by decide)]; exact h.files, by rw [cell_ne (by decide)]; exact h.cut, World.cell?_setCell_same _ _ _ h.count, by rw [cell_ne (by decide)]; exact h.dead, fun j => by simpa using h.free j, row_set h.row h.sep _ _, h.sep⟩
theorem IsDsk.setCut {w : World} {b : Nat} {v : Value} {fs : FL} {cut count : Int} {dead : Bool} (h : IsDsk w b v fs cut count dead) (c : Int) : IsDsk (w.setCell ⟨b, 1, none⟩ (.int .i64 c)) b v fs c count dead :=
  ⟨by rw [cell_ne (by decide)]; exact h.files, World.cell?_setCell_same _ _ _ h.cut, by rw [cell_ne (by decide)]; exact h.count, by rw [cell_ne (by decide)]; exact h.dead, fun j => by simpa using h.free j, row_set h.row h.sep _ _, h.sep⟩

theorem dbytes_any (b : Nat) (v : Value) (fs : FL) (cut count : Int) (dead : Bool) (name : ByteArray) (w : World) (h : IsDsk w b v fs cut count dead) :
    Calls Tryz.prog 46 #[.pointer (some ⟨b, 0, none⟩), .string name] w fun e w' => e = .returned (.string (bytesF name fs)) ∧ ∃ q, w' = w.drewN q := by
  have HD := Lib.hid h
  have h1 := h.files
  have hrow := row_val h.row
  clear h
  by_cases hh : hasF name fs = true
  · have hlt := hasF_lt hh
    have e : bytesF name fs = fs[fnd name fs].2 := by unfold bytesF; rw [if_pos hh]; simp [hlt]
    rw [e]
    clear e
    rcases hrow with ⟨-, rfl⟩ | ⟨g, cp, rfl, hg, hm, hc⟩
    · cases hlt
    · obtain ⟨-, c2⟩ := hc _ hlt
      have hdec : decide (fnd name fs < fs.length) = true := by simpa using hlt
      unfold maxLen at hm
      clear hc
      generalize hx : fs[fnd name fs] = f at *
      clear hx
      have HH := Lib.hid hh; clear hh
      generalize hn : fnd name fs = i at *
      have HN := Lib.hid hn; clear hn
      go_enter Tryz.func46, Tryz.ntmps46
      go_wp2_with fail
      refine (dfind_any b _ fs cut count dead name _ HD.out).mono ?_
      rintro e w1 ⟨rfl, q, rfl⟩
      rw [HN.out, HH.out]
      go_wp2_with fail
      go_ret
      exact ⟨rfl, q, rfl⟩
  · have e : bytesF name fs = ⟨#[]⟩ := by unfold bytesF; rw [if_neg hh]
    rw [e]
    clear e hrow
    have hf : hasF name fs = false := by simpa using hh
    have HH := Lib.hid hf; clear hf hh
    go_enter Tryz.func46, Tryz.ntmps46
    go_wp2_with fail
    refine (dfind_any b _ fs cut count dead name _ HD.out).mono ?_
    rintro e w1 ⟨rfl, q, rfl⟩
    rw [HH.out]
    go_wp2_with fail
    go_ret
    exact ⟨rfl, q, rfl⟩

set_option maxHeartbeats 1000000 in
theorem dhas_any (b : Nat) (v : Value) (fs : FL) (cut count : Int) (dead : Bool) (name : ByteArray) (w : World) (h : IsDsk w b v fs cut count dead) :
    Calls Tryz.prog 30 #[.pointer (some ⟨b, 0, none⟩), .string name] w fun e w' => e = .returned (.bool (hasF name fs && !dead)) ∧ ∃ q, w' = w.drewN q := by
  have HD := Lib.hid h
  have h1 := h.dead
  clear h
  generalize hH : hasF name fs = hb
  have HH := Lib.hid hH; clear hH
  go_enter Tryz.func30, Tryz.ntmps30
  go_wp2_with fail
  refine (dfind_any b _ fs cut count dead name _ HD.out).mono ?_
  rintro e w1 ⟨rfl, q, rfl⟩
  rw [HH.out]
  cases hb <;> cases dead
  all_goals
    go_wp2_with fail
    go_ret
    exact ⟨rfl, q, rfl⟩

/-! ### one more raw write ('rawB': may it be done?) -/
set_option maxHeartbeats 1000000 in
theorem draw_no (b : Nat) (v : Value) (fs : FL) (cut count : Int) (dead : Bool) (w : World) (h : IsDsk w b v fs cut count dead) (hr : rawB cut count dead = false) :
    Calls Tryz.prog 50 #[.pointer (some ⟨b, 0, none⟩)] w fun e w' => e = .returned (.bool false) ∧ IsDsk w' b v fs cut count true ∧ Keeps (· = b) w w' := by
  have HD := Lib.hid h
  have h1 := h.cut
  have h2 := h.count
  have h3 := h.dead
  have h4 := h.free 3
  clear h
  cases hd : dead with
  | true =>
    subst hd
    clear hr
    go_enter Tryz.func50, Tryz.ntmps50
    go_wp2_with fail
    go_quiet (fail)
    go_wp2_with fail
    go_ret
    exact ⟨rfl, (HD.out.drewN _).setDead true, ((Keeps.refl _ _).drewN _).setb _ _⟩
  | false =>
    subst hd
    have hc : 0 ≤ cut ∧ cut ≤ count := by unfold rawB at hr; simpa using hr
    have d1 : decide (0 ≤ cut) = true := by simpa using hc.1
    have d2 : decide (cut ≤ count) = true := by simpa using hc.2
    clear hr
    go_enter Tryz.func50, Tryz.ntmps50
    go_wp2_with fail
    go_quiet (fail)
    go_wp2_with fail
    go_ret
    exact ⟨rfl, (HD.out.drewN _).setDead true, ((Keeps.refl _ _).drewN _).setb _ _⟩
set_option maxHeartbeats 1000000 in
theorem draw_yes (b : Nat) (v : Value) (fs : FL) (cut count : Int) (dead : Bool) (w : World) (h : IsDsk w b v fs cut count dead) (h0 : 0 ≤ count) (hm : count ≤ 4611686018427387904) (hr : rawB cut count dead = true) :
    Calls Tryz.prog 50 #[.pointer (some ⟨b, 0, none⟩)] w fun e w' => e = .returned (.bool true) ∧ IsDsk w' b v fs cut (count + 1) dead ∧ Keeps (· = b) w w' := by
  have HD := Lib.hid h
  have h1 := h.cut
  have h2 := h.count
  have h3 := h.dead
  have h4 := h.free 2
  clear h
  have hd : dead = false := by unfold rawB at hr; cases dead <;> simp_all
  subst hd
  have hadd : IntKind.i64.wrap (count + 1) = count + 1 := IntWalk.i64_in _ ⟨by omega, by omega⟩
  have hc : ¬ (0 ≤ cut ∧ cut ≤ count) := by unfold rawB at hr; simp at hr; omega
  by_cases hc0 : 0 ≤ cut
  · have d1 : decide (0 ≤ cut) = true := by simpa using hc0
    have d2 : decide (cut ≤ count) = false := by simp; omega
    clear hr hc
    go_enter Tryz.func50, Tryz.ntmps50
    go_wp2_with fail
    go_quiet (fail)
    go_wp2_with fail
    go_ret
    exact ⟨rfl, (HD.out.drewN _).setCount _, ((Keeps.refl _ _).drewN _).setb _ _⟩
  · have d1 : decide (0 ≤ cut) = false := by simpa using hc0
    clear hr hc
    go_enter Tryz.func50, Tryz.ntmps50
    go_wp2_with fail
    go_quiet (fail)
    go_wp2_with fail
    go_ret
    exact ⟨rfl, (HD.out.drewN _).setCount _, ((Keeps.refl _ _).drewN _).setb _ _⟩
end DiskC
end Go.Proofs.YtpmbokklpidohaaGreatDoor
