/-
  The document's own disk of layer 3: a file is laid, a file is taken.
-/
import Derived.Test.YtpmbokklpidohaaGreatDoorDiskRef
import Derived.Maps.AppendAt
import Derived.StillTailTactics
namespace Go.Proofs.YtpmbokklpidohaaGreatDoor
open Go.RowKit
namespace DiskC
open DiskM

theorem info_file : (Tryz.prog.info? 71).map (fun i => (i.zero, i.size, i.bytes)) = some (some (.agg #[.string ⟨#[]⟩, .string ⟨#[]⟩]), 2, 32) := by kernel_rfl
/-- what a disk is behind a call that may have turned its row -/
structure Laid (w w' : World) (b : Nat) (v v' : Value) (fs : FL) (cut count : Int) (dead : Bool) : Prop where
  dsk : IsDsk w' b v' fs cut count dead
  keeps : Keeps (Foot b v) w w'
  row : ∀ g, v'.ownBlock = some g → v.ownBlock = some g ∨ w.heap.size ≤ g
theorem Laid.refl {w : World} {b : Nat} {v : Value} {fs : FL} {cut count : Int} {dead : Bool} (h : IsDsk w b v fs cut count dead) : Laid w w b v v fs cut count dead := ⟨h, Keeps.refl _ _, fun _ h => Or.inl h⟩
theorem Laid.trans {x y z : World} {b : Nat} {u v v' : Value} {fs gs : FL} {cut count cut' count' : Int} {dead dead' : Bool} (h : Laid x y b u v fs cut count dead) (k : Laid y z b v v' gs cut' count' dead') (hb : b < x.heap.size) : Laid x z b u v' gs cut' count' dead' :=
  ⟨k.dsk, h.keeps.then k.keeps (fun i hi hf => by
    rcases hf with rfl | hf
    · exact Or.inl rfl
    · rcases h.row i hf with h1 | h1
      · exact Or.inr h1
      · omega), fun g hg => by
    rcases k.row g hg with h1 | h1
    · exact h.row g h1
    · exact Or.inr (Nat.le_trans h.keeps.size h1)⟩

/-- one file's bytes turned -/
theorem IsDsk.setBytes {w : World} {b g cap : Nat} {fs : FL} {cut count : Int} {dead : Bool} (h : IsDsk w b (.slice (some ⟨g, 0, none⟩) fs.length cap) fs cut count dead) (i : Nat) (hi : i < fs.length) (x : ByteArray) :
    IsDsk (w.setCell ⟨g, i * 2 + 1, none⟩ (.string x)) b (.slice (some ⟨g, 0, none⟩) fs.length cap) (fs.set i (fs[i].1, x)) cut count dead := by
  have hne : g ≠ b := fun e => h.ne (by rw [e]; rfl)
  have e : (w.setCell ⟨g, i * 2 + 1, none⟩ (.string x)).heap[b]? = w.heap[b]? := Below.heap_setCell _ _ _ _ (fun e => hne e.symm)
  have ec : ∀ j, (w.setCell ⟨g, i * 2 + 1, none⟩ (.string x)).cell? ⟨b, j, none⟩ = w.cell? ⟨b, j, none⟩ := fun j => World.cell?_of_block (a := ⟨b, j, none⟩) e
  have ef : ∀ j, (w.setCell ⟨g, i * 2 + 1, none⟩ (.string x)).frozen? ⟨b, j, none⟩ = w.frozen? ⟨b, j, none⟩ := fun j => World.frozen?_of_block (a := ⟨b, j, none⟩) e
  refine ⟨by rw [ec]; exact h.files, by rw [ec]; exact h.cut, by rw [ec]; exact h.count, by rw [ec]; exact h.dead, fun j => by rw [ef]; exact h.free j, ?_, h.sep⟩
  have := (h.row.stored (i * 2 + 1) (.string x)).1
  rw [flatF_set_bytes fs i hi x] at this
  simpa using this
/-- one file turned -/
theorem IsDsk.setFile {w : World} {b g cap n : Nat} {fs : FL} {cut count : Int} {dead : Bool} (hn : n = fs.length) (h : IsDsk w b (.slice (some ⟨g, 0, none⟩) n cap) fs cut count dead) (i : Nat) (hi : i < fs.length) (x y : ByteArray) :
    IsDsk ((w.setCell ⟨g, i * 2, none⟩ (.string x)).setCell ⟨g, i * 2 + 1, none⟩ (.string y)) b (.slice (some ⟨g, 0, none⟩) n cap) (fs.set i (x, y)) cut count dead := by
  subst hn
  have hne : g ≠ b := fun e => h.ne (by rw [e]; rfl)
  have e : ((w.setCell ⟨g, i * 2, none⟩ (.string x)).setCell ⟨g, i * 2 + 1, none⟩ (.string y)).heap[b]? = w.heap[b]? := by
    rw [Below.heap_setCell _ _ _ _ (fun e => hne e.symm), Below.heap_setCell _ _ _ _ (fun e => hne e.symm)]
  have ec : ∀ j, ((w.setCell ⟨g, i * 2, none⟩ (.string x)).setCell ⟨g, i * 2 + 1, none⟩ (.string y)).cell? ⟨b, j, none⟩ = w.cell? ⟨b, j, none⟩ := fun j => World.cell?_of_block (a := ⟨b, j, none⟩) e
  have ef : ∀ j, ((w.setCell ⟨g, i * 2, none⟩ (.string x)).setCell ⟨g, i * 2 + 1, none⟩ (.string y)).frozen? ⟨b, j, none⟩ = w.frozen? ⟨b, j, none⟩ := fun j => World.frozen?_of_block (a := ⟨b, j, none⟩) e
  refine ⟨by rw [ec]; exact h.files, by rw [ec]; exact h.cut, by rw [ec]; exact h.count, by rw [ec]; exact h.dead, fun j => by rw [ef]; exact h.free j, ?_, h.sep⟩
  have h1 := (h.row.stored (i * 2) (.string x)).1
  have h2 := (h1.stored (i * 2 + 1) (.string y)).1
  rw [flatF_set fs i hi x y] at h2
  simpa using h2
theorem IsDsk.cells {w : World} {b g cap n : Nat} {fs : FL} {cut count : Int} {dead : Bool} (hn : n = fs.length) (h : IsDsk w b (.slice (some ⟨g, 0, none⟩) n cap) fs cut count dead) (i : Nat) (hi : i < fs.length) :
    w.cell? ⟨g, i * 2, none⟩ = some (.string fs[i].1) ∧ w.cell? ⟨g, i * 2 + 1, none⟩ = some (.string fs[i].2) ∧ ∀ j, w.frozen? ⟨g, j, none⟩ = false := by
  subst hn
  exact ⟨by rw [h.row.cellAt _ (by omega)]; exact flatF_name fs i hi, by rw [h.row.cellAt _ (by omega)]; exact flatF_bytes fs i hi, fun j => h.row.frozenAt j⟩

set_option maxHeartbeats 1000000 in
theorem dlay_old (b : Nat) (v : Value) (fs : FL) (cut count : Int) (dead : Bool) (name bytes : ByteArray) (w : World) (h : IsDsk w b v fs cut count dead) (hh : hasF name fs = true) :
    Calls Tryz.prog 51 #[.pointer (some ⟨b, 0, none⟩), .string name, .string bytes] w fun e w' => e = .returned (.tuple #[]) ∧ ∃ v', Laid w w' b v v' (layF name bytes fs) cut count dead := by
  have HD := Lib.hid h
  have h1 := h.files
  have hlt := hasF_lt hh
  have e : layF name bytes fs = fs.set (fnd name fs) (fs[fnd name fs].1, bytes) := by unfold layF; rw [if_pos hh]; simp [hlt]
  rw [e]
  clear e
  rcases row_val h.row with ⟨-, rfl⟩ | ⟨g, cp, rfl, hg, hm, -⟩
  · cases hlt
  · obtain ⟨-, c2, c3⟩ := h.cells rfl _ hlt
    have c4 := c3 (fnd name fs * 2 + 1)
    have hdec : decide (fnd name fs < fs.length) = true := by simpa using hlt
    have HNEW := Lib.hid (fun q => (h.drewN q).setBytes _ hlt bytes)
    unfold maxLen at hm
    clear h c3
    have HH := Lib.hid hh; clear hh
    generalize fs.set (fnd name fs) (fs[fnd name fs].1, bytes) = fs' at *
    generalize fs[fnd name fs] = f at *
    generalize hn : fnd name fs = i at *
    have HN := Lib.hid hn; clear hn
    go_enter Tryz.func51, Tryz.ntmps51
    go_wp2_with fail
    refine (dfind_any b _ fs cut count dead name _ HD.out).mono ?_
    rintro e w1 ⟨rfl, q, rfl⟩
    rw [HN.out, HH.out]
    go_wp2_with fail
    refine bodyPost_ret (results_none rfl _ _ _) rfl ?_
    exact ⟨rfl, _, HNEW.out q, ((Keeps.refl _ _).drewN _).set _ (Or.inr rfl) _, fun g h => Or.inl h⟩

abbrev noFile : ByteArray × ByteArray := (⟨#[]⟩, ⟨#[]⟩)
/-- the row as it stands while the files behind the place move up: whatever stands at the place k -/
def Gap (fs L : FL) (k : Nat) : Prop := ∃ x, L = fs.take k ++ x :: fs.drop k
theorem gap_len {fs L : FL} {k : Nat} (h : Gap fs L k) (hk : k ≤ fs.length) : L.length = fs.length + 1 := by
  obtain ⟨x, rfl⟩ := h
  simp; omega
theorem gap_get {fs L : FL} {k : Nat} (h : Gap fs L (k + 1)) (hk : k < fs.length) (hl : k < L.length) : L[k] = fs[k] := by
  obtain ⟨x, rfl⟩ := h
  rw [List.getElem_append_left (by simp; omega)]
  simp
theorem gap_next {fs L : FL} {k : Nat} (h : Gap fs L (k + 1)) (hk : k < fs.length) : Gap fs (L.set (k + 1) fs[k]) k := by
  obtain ⟨x, rfl⟩ := h
  refine ⟨fs[k], ?_⟩
  rw [List.set_append_right _ _ (by simp; omega)]
  have e : (k + 1 - (List.take (k + 1) fs).length) = 0 := by simp; omega
  rw [e, List.set_cons_zero, List.take_succ_eq_append_getElem hk, List.append_assoc]
  congr 1
  rw [List.singleton_append, List.drop_eq_getElem_cons hk]
theorem gap_last {fs L : FL} {k : Nat} (h : Gap fs L k) (hk : k ≤ fs.length) (f : ByteArray × ByteArray) : L.set k f = fs.take k ++ f :: fs.drop k := by
  obtain ⟨x, rfl⟩ := h
  rw [List.set_append_right _ _ (by simp; omega)]
  have e : (k - (List.take k fs).length) = 0 := by simp; omega
  rw [e, List.set_cons_zero]
theorem two_cells (w : World) : ∀ j u, ([.string ⟨#[]⟩, .string ⟨#[]⟩] : List Value)[j]? = some u → (w.alloc (.cells #[.string ⟨#[]⟩, .string ⟨#[]⟩] 71)).cell? ((⟨w.heap.size, 0, none⟩ : Addr).add j) = some u := by
  intro j u hu
  match j with
  | 0 => rw [Go.WideShapes.add_plain, World.cell?_alloc_at _ _ _ _ rfl]; simpa using hu
  | 1 => rw [Go.WideShapes.add_plain, World.cell?_alloc_at _ _ _ _ rfl]; simpa using hu
  | j + 2 => simp at hu

set_option maxHeartbeats 4000000 in
set_option maxRecDepth 100000 in
theorem dlay_new (b : Nat) (v : Value) (fs : FL) (cut count : Int) (dead : Bool) (name bytes : ByteArray) (w : World) (h : IsDsk w b v fs cut count dead) (hh : hasF name fs = false) (hm : fs.length ≤ 1048576) :
    Calls Tryz.prog 51 #[.pointer (some ⟨b, 0, none⟩), .string name, .string bytes] w fun e w' => e = .returned (.tuple #[]) ∧ ∃ v', Laid w w' b v v' (layF name bytes fs) cut count dead := by
  obtain ⟨i0, hi, hz0, hz1, hz2⟩ := info_parts info_file
  have HD := Lib.hid h
  have h1 := h.files
  have h1f := h.free 0
  have hbw := h.lt
  have e : layF name bytes fs = fs.take (fnd name fs) ++ (name, bytes) :: fs.drop (fnd name fs) := by unfold layF; rw [hh]; simp
  rw [e]
  clear e
  have hle := fnd_le name fs
  have hown := h.row
  clear h
  have HH := Lib.hid hh; clear hh
  generalize hn : fnd name fs = p at *
  have HN := Lib.hid hn; clear hn
  go_enter Tryz.func51, Tryz.ntmps51
  go_wp2_with fail
  refine (dfind_any b _ fs cut count dead name _ HD.out).mono ?_
  rintro e w1 ⟨rfl, q, rfl⟩
  rw [HN.out, HH.out]
  go_wp2_with (at_builtin; refine wpList_append_own_at _ rfl _ _ 35 rfl 0 71 i0 (.agg #[.string ⟨#[]⟩, .string ⟨#[]⟩]) 2 32 Tryz.underlying35 hi hz0 hz1 hz2 rfl (by decide) _ _ _ rfl (hown.alloc _) ⟨w.heap.size, 0, none⟩ 1 1 [.string ⟨#[]⟩, .string ⟨#[]⟩] rfl rfl ?c1 ?c2 ?c3 ?c4 ?c5 ?_)
  case c1 => exact two_cells _
  case c2 => intro u hu; simp at hu; subst hu; rfl
  case c3 => unfold maxLen; omega
  case c4 => omega
  case c5 => exact Nat.zero_le _
  intro v2 w2 hown2 hg _ hat
  have hrow2 : w2.ownsRow 0 71 2 v2 (fs ++ [noFile]).length (flatF (fs ++ [noFile])) := by simpa [flatF_append, flatF, noFile] using hown2
  have hbk : w2.heap[b]? = w.heap[b]? := (hg.block b (by simp; omega) (fun e => HD.out.ne e.symm)).trans (Below.heap_alloc _ _ _ hbw)
  have ec : ∀ j, w2.cell? ⟨b, j, none⟩ = w.cell? ⟨b, j, none⟩ := fun j => World.cell?_of_block (a := ⟨b, j, none⟩) hbk
  have ef : ∀ j, w2.frozen? ⟨b, j, none⟩ = w.frozen? ⟨b, j, none⟩ := fun j => World.frozen?_of_block (a := ⟨b, j, none⟩) hbk
  have hK2 : Keeps (Foot b v) w w2 := ⟨hg.os, hg.tape, hg.output, by have := hg.size; simp at this; omega, fun k hk hf => (hg.block k (by simp; omega) (fun e => hf (Or.inr e.symm))).trans (Below.heap_alloc _ _ _ hk)⟩
  have hsep2 : v2.ownBlock ≠ some b := by
    intro e
    rcases hat with e2 | e2
    · exact HD.out.ne (e2.symm.trans e)
    · rw [e] at e2; have := Option.some.inj e2; omega
  have hD3 : IsDsk (w2.setCell ⟨b, 0, none⟩ v2) b v2 (fs ++ [noFile]) cut count dead :=
    ⟨World.cell?_setCell_same _ _ _ ((ec 0).trans HD.out.files), by rw [cell_ne (by decide), ec]; exact HD.out.cut, by rw [cell_ne (by decide), ec]; exact HD.out.count, by rw [cell_ne (by decide), ec]; exact HD.out.dead,
      fun j => by have := HD.out.free j; rw [← ef j] at this; simpa using this, row_set hrow2 hsep2 _ _, hsep2⟩
  have HD3 := Lib.hid hD3
  have HK3 := Lib.hid (hK2.set ⟨b, 0, none⟩ (Or.inl rfl) v2)
  have d0 : w2.cell? ⟨b, 0, none⟩ = some v := (ec 0).trans h1
  have f0 : w2.frozen? ⟨b, 0, none⟩ = false := (ef 0).trans h1f
  have hgrow : ∀ x, v2.ownBlock = some x → v.ownBlock = some x ∨ w.heap.size ≤ x := by
    intro x hx
    rcases hat with e | e
    · rw [hx] at e; exact Or.inl e.symm
    · rw [hx] at e; have := Option.some.inj e; exact Or.inr (by omega)
  have HGR := Lib.hid hgrow
  have hlen : (fs ++ [noFile]).length = fs.length + 1 := by simp
  rcases row_val hrow2 with ⟨-, h0⟩ | ⟨g, cp, rfl, -⟩
  · simp at h0
  rw [hlen] at *
  clear hown2 hg hat hrow2 hbk ec ef hK2 hD3 hgrow hlen hown h1 h1f
  go_wp2_with fail
  go_loopw [8] (fun vk wr => ∃ (k : Nat) (L : FL), p ≤ k ∧ k ≤ fs.length ∧ vk = .int .i64 k ∧ Hid (Gap fs L k) ∧ Hid (IsDsk wr b (.slice (some ⟨g, 0, none⟩) (fs.length + 1) cp) L cut count dead) ∧ Hid (Keeps (Foot b v) w wr)) (fun vk _ => (intOf vk).toNat)
  case atStart => exact ⟨fs.length, _, hle, Nat.le_refl _, by go_num, Lib.hid ⟨noFile, by rw [List.take_length, List.drop_length]⟩, HD3, HK3⟩
  case round =>
    obtain ⟨k, L, hpk, hk, rfl, HGAP, HDL, HKL⟩ := hrel
    rename World => wr
    have hL := gap_len HGAP.out hk
    have k0 := HDL.out.files
    by_cases hlt : p < k
    · obtain ⟨k', rfl⟩ : ∃ k', k = k' + 1 := ⟨k - 1, by omega⟩
      have e1 := gap_get HGAP.out (by omega) (by omega)
      obtain ⟨a1, a2, -⟩ := HDL.out.cells hL.symm k' (by omega)
      obtain ⟨b1, b2, b3⟩ := HDL.out.cells hL.symm (k' + 1) (by omega)
      rw [e1] at a1 a2
      have b4 := b3 ((k' + 1) * 2)
      have b5 := b3 ((k' + 1) * 2 + 1)
      have HNX := Lib.hid (fun q => (HDL.out.drewN q).setFile hL.symm (k' + 1) (by omega) fs[k'].1 fs[k'].2)
      have HGX := Lib.hid (gap_next HGAP.out (show k' < fs.length by omega))
      clear b3 e1
      go_wp2_with fail
      have es3 : IntKind.i64.wrap (k' : Int) = (k' : Int) := IntWalk.i64_in _ ⟨by omega, by omega⟩
      have n1 : (0 : Int) ≤ (k' : Int) := by omega
      have n2 : (k' : Int) < (fs.length : Int) + 1 := by omega
      have n3 : (k' : Int) + 1 < (fs.length : Int) + 1 := by omega
      have n4 : (0 : Int) ≤ (k' : Int) + 1 := by omega
      have n5 : ((k' : Int) + 1).toNat = k' + 1 := by omega
      refine wp_region_still_tail 14 (by kernel_rfl) (by kernel_rfl) ?_
      obtain ⟨wd, hwd⟩ : ∃ wd, wd = wr.drewN 1 := ⟨_, rfl⟩
      change wpStill _ _ (wr.drewN 1) (fun a' => wpList _ _ _ _ a' (wr.drewN 1)) _ _
      rw [← hwd]
      have k0' : wd.cell? ⟨b, 0, none⟩ = some (.slice (some ⟨g, 0, none⟩) (fs.length + 1) cp) := by rw [hwd]; simpa using k0
      have a1' : wd.cell? ⟨g, k' * 2, none⟩ = some (.string fs[k'].1) := by rw [hwd]; simpa using a1
      have a2' : wd.cell? ⟨g, k' * 2 + 1, none⟩ = some (.string fs[k'].2) := by rw [hwd]; simpa using a2
      have b1' : wd.cell? ⟨g, (k' + 1) * 2, none⟩ = some (.string L[k' + 1].1) := by rw [hwd]; simpa using b1
      have b2' : wd.cell? ⟨g, (k' + 1) * 2 + 1, none⟩ = some (.string L[k' + 1].2) := by rw [hwd]; simpa using b2
      have b4' : wd.frozen? ⟨g, (k' + 1) * 2, none⟩ = false := by rw [hwd]; simpa using b4
      have b5' : wd.frozen? ⟨g, (k' + 1) * 2 + 1, none⟩ = false := by rw [hwd]; simpa using b5
      have hnew := HNX.out 1
      rw [← hwd] at hnew
      have HNEW := Lib.hid hnew
      have HKD := Lib.hid (show Keeps (Foot b v) w wd by rw [hwd]; exact HKL.out.drewN 1)
      clear k0 a1 a2 b1 b2 b4 b5 hnew hwd HNX HDL HKL
      simp only [List.take_succ_cons, List.take_zero, List.drop_succ_cons, List.drop_zero]
      repeat still_step
      refine wpStill_nil ?_
      go_wp2_with fail
      go_roundw
      case rel => exact ⟨k', _, by omega, by omega, by go_num, HGX, HNEW, Lib.hid ((HKD.out.then (S := Foot b v) (((Keeps.refl (· = g) _).set _ rfl _).set _ rfl _) (fun i hi e => (HGR.out i (by rw [e]; rfl)).elim Or.inr (fun h => by omega))))⟩
      case measure => simp [intOf]
    · obtain rfl : p = k := by omega
      obtain ⟨b1, b2, b3⟩ := HDL.out.cells hL.symm p (by omega)
      have b4 := b3 (p * 2)
      have b5 := b3 (p * 2 + 1)
      have HNX := Lib.hid (HDL.out.setFile hL.symm p (by omega) name bytes)
      have HGX := Lib.hid (gap_last HGAP.out hk (name, bytes))
      clear b3
      go_wp2_with fail
      go_end0
      rw [← HGX.out]
      exact ⟨rfl, _, HNX.out, HKL.out.then (((Keeps.refl (· = g) _).set _ rfl _).set _ rfl _) (fun i hi e => (HGR.out i (by rw [e]; rfl)).elim Or.inr (fun h => by omega)), HGR.out⟩
end DiskC
end Go.Proofs.YtpmbokklpidohaaGreatDoor
