/-
  The document's own disk of layer 3: a file is taken.
-/
import Derived.Test.YtpmbokklpidohaaGreatDoorDiskRef2
namespace Go.Proofs.YtpmbokklpidohaaGreatDoor
open Go.RowKit
namespace DiskC
open DiskM

theorem dlay_any (b : Nat) (v : Value) (fs : FL) (cut count : Int) (dead : Bool) (name bytes : ByteArray) (w : World) (h : IsDsk w b v fs cut count dead) (hm : fs.length ≤ 1048576) :
    Calls Tryz.prog 51 #[.pointer (some ⟨b, 0, none⟩), .string name, .string bytes] w fun e w' => e = .returned (.tuple #[]) ∧ ∃ v', Laid w w' b v v' (layF name bytes fs) cut count dead := by
  cases hh : hasF name fs with
  | true => exact dlay_old b v fs cut count dead name bytes w h hh
  | false => exact dlay_new b v fs cut count dead name bytes w h hh hm

/-- the row as it stands while the files behind the place p move down -/
def Shift (fs L : FL) (p k : Nat) : Prop := L = (fs.eraseIdx p).take k ++ fs.drop k
theorem shift_zero {fs : FL} {p : Nat} (hp : p < fs.length) : Shift fs fs p p := by
  unfold Shift
  rw [List.eraseIdx_eq_take_drop_succ, List.take_append_of_le_length (by simp; omega), List.take_take, Nat.min_self, List.take_append_drop]
theorem erase_len {fs : FL} {p : Nat} (hp : p < fs.length) : (fs.eraseIdx p).length = fs.length - 1 := List.length_eraseIdx_of_lt hp
theorem shift_len {fs L : FL} {p k : Nat} (h : Shift fs L p k) (hp : p < fs.length) (hk : k < fs.length) : L.length = fs.length := by
  rw [h, List.length_append, List.length_take, List.length_drop, erase_len hp]; omega
theorem shift_get {fs L : FL} {p k : Nat} (h : Shift fs L p k) (hp : p < fs.length) (hk : k + 1 < fs.length) (hl : k + 1 < L.length) : L[k + 1] = fs[k + 1] := by
  unfold Shift at h
  subst h
  have e : (List.take k (fs.eraseIdx p)).length = k := by rw [List.length_take, erase_len hp]; omega
  rw [List.getElem_append_right (by omega)]
  simp only [e, List.getElem_drop]
  congr 1
  omega
theorem shift_next {fs L : FL} {p k : Nat} (h : Shift fs L p k) (hp : p < fs.length) (hpk : p ≤ k) (hk : k + 1 < fs.length) : Shift fs (L.set k fs[k + 1]) p (k + 1) := by
  unfold Shift at h ⊢
  subst h
  have e : (List.take k (fs.eraseIdx p)).length = k := by rw [List.length_take, erase_len hp]; omega
  have he : k < (fs.eraseIdx p).length := by rw [erase_len hp]; omega
  have hg : (fs.eraseIdx p)[k] = fs[k + 1] := by rw [List.getElem_eraseIdx_of_ge _ hpk]
  rw [List.set_append_right _ _ (by omega), e, Nat.sub_self, List.drop_eq_getElem_cons (show k < fs.length by omega), List.set_cons_zero, List.take_succ_eq_append_getElem he, hg, List.append_assoc]
  rfl
theorem shift_end {fs L : FL} {p k : Nat} (h : Shift fs L p k) (hp : p < fs.length) (hk : k + 1 = fs.length) : L.take (fs.length - 1) = fs.eraseIdx p := by
  unfold Shift at h
  subst h
  have e : (fs.eraseIdx p).length = k := by rw [erase_len hp]; omega
  rw [List.take_append_of_le_length (by rw [List.length_take, e]; omega), List.take_take, List.take_of_length_le (by omega)]
theorem flatF_take : ∀ (fs : FL) (m : Nat), flatF (fs.take m) = (flatF fs).take (m * 2)
  | _, 0 => by simp [flatF]
  | [], m + 1 => by simp [flatF]
  | f :: r, m + 1 => by
    rw [show (m + 1) * 2 = m * 2 + 1 + 1 by omega]
    simp [flatF, flatF_take r m]
theorem row_cut {w : World} {B g cap n m : Nat} {e : TypeId} {xs : List Value} (h : w.ownsRow B e 2 (.slice (some ⟨g, 0, none⟩) n cap) n xs) (hm : m ≤ n) : w.ownsRow B e 2 (.slice (some ⟨g, 0, none⟩) m cap) m (xs.take (m * 2)) := by
  obtain ⟨h1, ⟨h2, _⟩ | ⟨g', cap', cur, h2, hg, hh, hle, hcm, hcs, htk⟩⟩ := h
  · simp at h2
  · simp only [Value.slice.injEq, Option.some.injEq, Addr.mk.injEq, and_true, true_and] at h2
    obtain ⟨rfl, rfl⟩ := h2
    exact ⟨by rw [List.length_take, h1]; omega, Or.inr ⟨g, cap, cur, rfl, hg, hh, by omega, hcm, hcs, by rw [← htk, List.take_take]; congr 1; omega⟩⟩
theorem IsDsk.cutRow {w : World} {b g cap n m : Nat} {fs : FL} {cut count : Int} {dead : Bool} (hn : n = fs.length) (h : IsDsk w b (.slice (some ⟨g, 0, none⟩) n cap) fs cut count dead) (hm : m ≤ n) :
    IsDsk (w.setCell ⟨b, 0, none⟩ (.slice (some ⟨g, 0, none⟩) m cap)) b (.slice (some ⟨g, 0, none⟩) m cap) (fs.take m) cut count dead := by
  subst hn
  refine ⟨World.cell?_setCell_same _ _ _ h.files, by rw [cell_ne (by decide)]; exact h.cut, by rw [cell_ne (by decide)]; exact h.count, by rw [cell_ne (by decide)]; exact h.dead, fun j => by simpa using h.free j, ?_, h.sep⟩
  have := row_set (row_cut h.row hm) h.sep 0 (.slice (some ⟨g, 0, none⟩) m cap)
  rw [flatF_take, List.length_take, Nat.min_eq_left hm]
  exact this

theorem row_cap {w : World} {B g cap n : Nat} {e : TypeId} {xs : List Value} (h : w.ownsRow B e 2 (.slice (some ⟨g, 0, none⟩) n cap) n xs) : n ≤ cap := by
  obtain ⟨_, ⟨h2, _⟩ | ⟨g', cap', cur, h2, _, _, hle, _⟩⟩ := h
  · simp at h2
  · simp only [Value.slice.injEq, Option.some.injEq, Addr.mk.injEq, and_true, true_and] at h2
    obtain ⟨rfl, rfl⟩ := h2
    exact hle
theorem size_file (w : World) : (sizeOf (Tryz.prog.elem 35)).run Tryz.prog w = .ok 2 w := by kernel_rfl
theorem cut_files (g n cp m : Nat) (h : m ≤ cp) (w : World) : (Instr.slice 35 (.slice (some ⟨g, 0, none⟩) n cp) none (some (.int .i64 (m : Int))) none).run Tryz.prog w = .ok (.slice (some ⟨g, 0, none⟩) m cp) w := by
  have ht : Tryz.prog.underlying 35 = some (.slice (Tryz.prog.elem 35)) := by kernel_rfl
  rw [run_slice_h w 35 _ n cp ht .i64 (m : Int) (by omega) (by omega), size_file]
  simp [sliced, Result.andThen, Addr.add]

theorem dtake_none (b : Nat) (v : Value) (fs : FL) (cut count : Int) (dead : Bool) (name : ByteArray) (w : World) (h : IsDsk w b v fs cut count dead) (hh : hasF name fs = false) :
    Calls Tryz.prog 56 #[.pointer (some ⟨b, 0, none⟩), .string name] w fun e w' => e = .returned (.tuple #[]) ∧ ∃ v', Laid w w' b v v' (takeF name fs) cut count dead := by
  have HD := Lib.hid h
  have e : takeF name fs = fs := by unfold takeF; rw [hh]; simp
  rw [e]
  clear e h
  have HH := Lib.hid hh; clear hh
  go_enter Tryz.func56, Tryz.ntmps56
  go_wp2_with fail
  refine (dfind_any b _ fs cut count dead name _ HD.out).mono ?_
  rintro e w1 ⟨rfl, q, rfl⟩
  rw [HH.out]
  go_wp2_with fail
  go_end0
  exact ⟨rfl, _, HD.out.drewN _, (Keeps.refl _ _).drewN _, fun _ h => Or.inl h⟩

set_option maxHeartbeats 4000000 in
set_option maxRecDepth 100000 in
theorem dtake_old (b : Nat) (v : Value) (fs : FL) (cut count : Int) (dead : Bool) (name : ByteArray) (w : World) (h : IsDsk w b v fs cut count dead) (hh : hasF name fs = true) (hm : fs.length ≤ 1048577) :
    Calls Tryz.prog 56 #[.pointer (some ⟨b, 0, none⟩), .string name] w fun e w' => e = .returned (.tuple #[]) ∧ ∃ v', Laid w w' b v v' (takeF name fs) cut count dead := by
  have HD := Lib.hid h
  have hlt := hasF_lt hh
  have e : takeF name fs = fs.eraseIdx (fnd name fs) := by unfold takeF; rw [if_pos hh]
  rw [e]
  clear e
  rcases row_val h.row with ⟨-, rfl⟩ | ⟨g, cp, rfl, hgB, -, -⟩
  · cases hlt
  clear h
  have HH := Lib.hid hh; clear hh
  generalize hn : fnd name fs = p at *
  have HN := Lib.hid hn; clear hn
  go_enter Tryz.func56, Tryz.ntmps56
  go_wp2_with fail
  refine (dfind_any b _ fs cut count dead name _ HD.out).mono ?_
  rintro e w1 ⟨rfl, q, rfl⟩
  rw [HN.out, HH.out]
  go_wp2_with fail
  go_loopw [6] (fun vk wr => ∃ (k : Nat) (L : FL), p ≤ k ∧ k < fs.length ∧ vk = .int .i64 k ∧ Hid (Shift fs L p k) ∧ Hid (IsDsk wr b (.slice (some ⟨g, 0, none⟩) fs.length cp) L cut count dead) ∧ Hid (Keeps (Foot b (.slice (some ⟨g, 0, none⟩) fs.length cp)) w wr)) (fun vk _ => fs.length - (intOf vk).toNat)
  case atStart => exact ⟨p, fs, Nat.le_refl _, hlt, rfl, Lib.hid (shift_zero hlt), Lib.hid (HD.out.drewN q), Lib.hid ((Keeps.refl _ _).drewN q)⟩
  case round =>
    obtain ⟨k, L, hpk, hk, rfl, HSH, HDL, HKL⟩ := hrel
    rename World => wr
    have hL := shift_len HSH.out hlt hk
    have k0 := HDL.out.files
    by_cases hk1 : k + 1 < fs.length
    · have e1 := shift_get HSH.out hlt hk1 (by omega)
      obtain ⟨a1, a2, -⟩ := HDL.out.cells hL.symm (k + 1) (by omega)
      obtain ⟨b1, b2, b3⟩ := HDL.out.cells hL.symm k (by omega)
      rw [e1] at a1 a2
      have b4 := b3 (k * 2)
      have b5 := b3 (k * 2 + 1)
      have HNX := Lib.hid (fun q => (HDL.out.drewN q).setFile hL.symm k (by omega) fs[k + 1].1 fs[k + 1].2)
      have HGX := Lib.hid (shift_next HSH.out hlt hpk hk1)
      clear b3 e1
      have hdec : decide ((k : Int) + 1 < (fs.length : Int)) = true := by simp; omega
      go_wp2_with fail
      have es3 : IntKind.i64.wrap (k : Int) = (k : Int) := IntWalk.i64_in _ ⟨by omega, by omega⟩
      have es4 : IntKind.i64.wrap ((k : Int) + 1) = (k : Int) + 1 := IntWalk.i64_in _ ⟨by omega, by omega⟩
      have n1 : (0 : Int) ≤ (k : Int) := by omega
      have n2 : (k : Int) < (fs.length : Int) := by omega
      have n3 : (k : Int) + 1 < (fs.length : Int) := by omega
      have n4 : (0 : Int) ≤ (k : Int) + 1 := by omega
      have n5 : ((k : Int) + 1).toNat = k + 1 := by omega
      refine wp_region_still_tail 14 (by kernel_rfl) (by kernel_rfl) ?_
      obtain ⟨wd, hwd⟩ : ∃ wd, wd = wr.drewN 1 := ⟨_, rfl⟩
      change wpStill _ _ (wr.drewN 1) (fun a' => wpList _ _ _ _ a' (wr.drewN 1)) _ _
      rw [← hwd]
      have k0' : wd.cell? ⟨b, 0, none⟩ = some (.slice (some ⟨g, 0, none⟩) fs.length cp) := by rw [hwd]; simpa using k0
      have a1' : wd.cell? ⟨g, (k + 1) * 2, none⟩ = some (.string fs[k + 1].1) := by rw [hwd]; simpa using a1
      have a2' : wd.cell? ⟨g, (k + 1) * 2 + 1, none⟩ = some (.string fs[k + 1].2) := by rw [hwd]; simpa using a2
      have b1' : wd.cell? ⟨g, k * 2, none⟩ = some (.string L[k].1) := by rw [hwd]; simpa using b1
      have b2' : wd.cell? ⟨g, k * 2 + 1, none⟩ = some (.string L[k].2) := by rw [hwd]; simpa using b2
      have b4' : wd.frozen? ⟨g, k * 2, none⟩ = false := by rw [hwd]; simpa using b4
      have b5' : wd.frozen? ⟨g, k * 2 + 1, none⟩ = false := by rw [hwd]; simpa using b5
      have hnew := HNX.out 1
      rw [← hwd] at hnew
      have HNEW := Lib.hid hnew
      have HKD := Lib.hid (show Keeps (Foot b (.slice (some ⟨g, 0, none⟩) fs.length cp)) w wd by rw [hwd]; exact HKL.out.drewN 1)
      clear k0 a1 a2 b1 b2 b4 b5 hnew hwd HNX HDL HKL
      simp only [List.take_succ_cons, List.take_zero, List.drop_succ_cons, List.drop_zero]
      repeat still_step
      refine wpStill_nil ?_
      go_wp2_with fail
      go_roundw
      case rel => exact ⟨k + 1, _, by omega, by omega, by go_num, HGX, HNEW, Lib.hid (HKD.out.then (((Keeps.refl (· = g) _).set _ rfl _).set _ rfl _) (fun i hi e => Or.inr (by rw [e]; rfl)))⟩
      case measure => simp [intOf]; omega
    · have hke : k + 1 = fs.length := by omega
      have HEND := Lib.hid (shift_end HSH.out hlt hke)
      have HNX := Lib.hid (fun q => (HDL.out.drewN q).cutRow (m := fs.length - 1) hL.symm (by omega))
      have hdec : decide ((k : Int) + 1 < (fs.length : Int)) = false := by simp; omega
      have k1 := HDL.out.free 0
      have hcut := cut_files g fs.length cp (fs.length - 1) (by have := row_cap (hL ▸ HDL.out.row); omega)
      have HCUT := Lib.hid hcut
      clear hcut
      go_wp2_with fail
      have hcut := HCUT.out
      have es3 : IntKind.i64.wrap ((fs.length : Int) - 1) = ((fs.length - 1 : Nat) : Int) := by rw [show (fs.length : Int) - 1 = ((fs.length - 1 : Nat) : Int) by omega]; exact IntWalk.i64_in _ ⟨by omega, by omega⟩
      refine wp_region_still_tail 14 (by kernel_rfl) (by kernel_rfl) ?_
      obtain ⟨wd, hwd⟩ : ∃ wd, wd = wr.drewN 1 := ⟨_, rfl⟩
      change wpStill _ _ (wr.drewN 1) (fun a' => wpList _ _ _ _ a' (wr.drewN 1)) _ _
      rw [← hwd]
      have k0' : wd.cell? ⟨b, 0, none⟩ = some (.slice (some ⟨g, 0, none⟩) fs.length cp) := by rw [hwd]; simpa using k0
      have k1' : wd.frozen? ⟨b, 0, none⟩ = false := by rw [hwd]; simpa using k1
      have hnew := HNX.out 1
      rw [← hwd] at hnew
      have HNEW := Lib.hid hnew
      have HKD := Lib.hid (show Keeps (Foot b (.slice (some ⟨g, 0, none⟩) fs.length cp)) w wd by rw [hwd]; exact HKL.out.drewN 1)
      clear k0 k1 hnew hwd HNX HDL HKL
      simp only [List.take_succ_cons, List.take_zero, List.drop_succ_cons, List.drop_zero]
      repeat still_step
      refine wpStill_nil ?_
      go_wp2_with fail
      go_end0
      rw [← HEND.out]
      exact ⟨rfl, _, HNEW.out, HKD.out.set _ (Or.inl rfl) _, fun x hx => Or.inl hx⟩
end DiskC
end Go.Proofs.YtpmbokklpidohaaGreatDoor
