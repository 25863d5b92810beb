/-
  strconv.Itoa at numbers from 0 on, whatever the table of powers of ten holds: it answers some text, and writes nothing that was there. (Which text does not matter where it is only asked whether an error's text is empty.)
  The library's writing of a number's digits into a row of bytes, whatever the row's length: it writes into that row alone.
  strconv.Itoa at a number from 0 on: some text of at most 64 bytes; what was there is as it was.
-/
import Derived.Test.YtbjifikbfagdjaaGreatDoorChecked
import Derived.WalkKit
import Derived.Lib.Hide
import Derived.Lib.ItoaWalk
import Derived.WalkSpells
import Derived.Shelf.Strconv.Itoa0
import Derived.RegionTactic
import Derived.ChangeAlike
import Derived.BigRegion
import Derived.Laws.BytesArg
namespace Go.Proofs.YtbjifikbfagdjaaGreatDoor
open Go.RowKit
namespace ErrC

def SomeText (w : World) (e : Ending) (w' : World) : Prop := ∃ s : ByteArray, e = .returned (.string s) ∧ s.size ≤ 64 ∧ Below w.heap.size w w'
def SomeLen (w : World) (e : Ending) (w' : World) : Prop := ∃ d : Nat, e = .returned (.int .i64 d) ∧ d ≤ 64 ∧ w = w'
def SomeDigits (w : World) (e : Ending) (w' : World) : Prop := ∃ d : Nat, e = .returned (.int .i64 d) ∧ d ≤ 20 ∧ w = w'
/-- the table of powers of ten holds some numbers -/
def PowTab (w : World) : Prop := ∀ i, i < 20 → ∃ x : Int, w.cell? ⟨7, i, none⟩ = some (.int .u64 x)

set_option maxHeartbeats 400000 in
set_option maxRecDepth 100000 in
theorem small_any (i : Nat) (w : World) (h : i < 100) : Calls Tryz.prog 324 #[.int .i64 i] w (SomeText w) := by
  go_enter Tryz.func324, Tryz.ntmps324
  go_name_bytes_deep 45 SM hSM
  have hs : SM.size = 200 := by rw [← hSM]; decide +kernel
  clear hSM
  go_name_bytes_deep 30 DG hDG
  have hd : DG.size = 36 := by rw [← hDG]; decide +kernel
  clear hDG
  by_cases h1 : i < 10
  · go_wp2
    go_ret
    exact ⟨_, rfl, by simp [ByteArray.size_extract]; omega, Below.refl _ _⟩
  · go_wp2
    go_ret
    exact ⟨_, rfl, by simp [ByteArray.size_extract]; omega, Below.refl _ _⟩

theorem tab_le {T : ByteArray} (hv : ∀ i : Fin 256, T.data.toList.getD i.val 0 ≤ 8) (hs : T.size = 256) (i : Nat) (h : i < T.size) : T[i].toNat ≤ 8 := by
  have := hv ⟨i, by omega⟩
  rw [Lib.getD_at T i h]
  exact UInt8.le_iff_toNat_le.1 this
theorem len_end (w : World) (k : Int) (c : UInt8) (h0 : 0 ≤ k) (hk : k ≤ 56) (hc : c.toNat ≤ 8) : SomeLen w (.returned (.int .i64 (wrap64 (k + wrap64 (c.toNat : Int))))) w := by
  have e1 : wrap64 (c.toNat : Int) = (c.toNat : Int) := IntWalk.wrap64_in _ ⟨by omega, by omega⟩
  refine ⟨(k + (c.toNat : Int)).toNat, ?_, by omega, rfl⟩
  rw [e1, IntWalk.wrap64_in _ ⟨by omega, by omega⟩]
  congr 2
  omega
theorem len_end0 (w : World) (c : UInt8) (hc : c.toNat ≤ 8) : SomeLen w (.returned (.int .i64 (wrap64 (c.toNat : Int)))) w := by
  have e1 : wrap64 (c.toNat : Int) = (c.toNat : Int) := IntWalk.wrap64_in _ ⟨by omega, by omega⟩
  exact ⟨c.toNat, by rw [e1], by omega, rfl⟩
theorem len_end1 (w : World) (c : UInt8) (hc : c.toNat ≤ 8) : SomeLen w (.returned (.int .i64 (wrap64 (wrap64 (c.toNat : Int))))) w := by
  have e1 : wrap64 (c.toNat : Int) = (c.toNat : Int) := IntWalk.wrap64_in _ ⟨by omega, by omega⟩
  exact ⟨c.toNat, by rw [e1, e1], by omega, rfl⟩

set_option maxHeartbeats 4000000 in
set_option maxRecDepth 100000 in
theorem len64_any (x : Int) (w : World) (h0 : 0 ≤ x) (h1 : x ≤ 18446744073709551615) : Calls Tryz.prog 131 #[.int .u64 x] w (SomeLen w) := by
  go_enter Tryz.func131, Tryz.ntmps131
  go_name_bytes T hT
  have hs : T.size = 256 := by rw [← hT]; decide +kernel
  have hv : ∀ i : Fin 256, T.data.toList.getD i.val 0 ≤ 8 := by rw [← hT]; decide +kernel
  have HV := Lib.hid hv
  clear hT hv
  go_wp2
  all_goals go_ret
  all_goals first
    | exact len_end w _ _ (by omega) (by omega) (tab_le HV.out hs _ _)
    | exact len_end0 w _ (tab_le HV.out hs _ _)
    | exact len_end1 w _ (tab_le HV.out hs _ _)

theorem pow2_any (d : Nat) (w : World) (h : d ≤ 64) : Calls Tryz.prog 330 #[.int .i64 d] w fun e w' => e = .returned (.int .i64 ((d * 78913 / 262144 : Nat) : Int)) ∧ w = w' := by
  go_enter Tryz.func330, Tryz.ntmps330
  go_wp2
  go_ret
  exact ⟨by go_num, rfl⟩
theorem bool2_any (b : Bool) (w : World) : Calls Tryz.prog 331 #[.bool b] w fun e w' => e = .returned (.int .i64 (if b then 1 else 0)) ∧ w = w' := by
  cases b <;>
  · go_enter Tryz.func331, Tryz.ntmps331
    go_wp2
    go_ret
    exact ⟨rfl, rfl⟩
theorem digits_any (x : Int) (w : World) (h0 : 0 ≤ x) (h1 : x ≤ 18446744073709551615) (ht : PowTab w) : Calls Tryz.prog 325 #[.int .u64 x] w (SomeDigits w) := by
  go_enter Tryz.func325, Tryz.ntmps325
  go_wp2_with fail
  refine (len64_any x _ h0 h1).mono ?_
  rintro e w' ⟨d, rfl, hd, rfl⟩
  go_wp2_with fail
  refine (pow2_any d _ hd).mono ?_
  rintro e w' ⟨rfl, rfl⟩
  have hk : d * 78913 / 262144 ≤ 19 := by omega
  generalize d * 78913 / 262144 = k at *
  obtain ⟨y, hy⟩ := ht k (by omega)
  go_wp2_with (go_at_call 331; refine (bool2_any _ _).mono ?_; rintro e w' ⟨rfl, rfl⟩)
  · go_ret
    exact ⟨k + 1, by go_num, by omega, rfl⟩
  · go_ret
    exact ⟨k, rfl, by omega, rfl⟩
end ErrC
end Go.Proofs.YtbjifikbfagdjaaGreatDoor
namespace Go.Proofs.YtbjifikbfagdjaaGreatDoor
open Go.RowKit
namespace ErrC

/-- a row of bytes of the call's own -/
def RowOk (blk off n : Nat) (w : World) : Prop := ∀ t, t < n → (∃ x : Int, w.cell? ⟨blk, off + t, none⟩ = some (.int .u8 x)) ∧ w.frozen? ⟨blk, off + t, none⟩ = false
theorem RowOk.drew {blk off n : Nat} {w : World} (h : RowOk blk off n w) : RowOk blk off n w.drew := h
theorem RowOk.set {blk off n : Nat} {w : World} (h : RowOk blk off n w) (t : Nat) (x : Int) : RowOk blk off n (w.setCell ⟨blk, off + t, none⟩ (.int .u8 x)) := by
  intro j hj
  obtain ⟨⟨y, hy⟩, hf⟩ := h j hj
  refine ⟨?_, by simpa using hf⟩
  by_cases e : j = t
  · subst e; exact ⟨x, World.cell?_setCell_same _ _ _ hy⟩
  · exact ⟨y, by rw [World.cell?_setCell_other _ _ _ _ (fun h => e (by have := congrArg Addr.off h; simp at this; omega))]; exact hy⟩

theorem idx_some (S : ByteArray) (hs : S.size = 200) (z : Int) (h0 : 0 ≤ z) (h1 : z < 200) : ∃ y : Int, ∀ w, (Instr.index 9 (.string S) (.int .u32 z)).run Tryz.prog w = .ok (.int .u8 y) w := by
  have hb : 0 ≤ z ∧ z < (S.size : Int) := ⟨h0, by omega⟩
  exact ⟨_, fun w => by rw [run_index_string w 9 S .u32 z Tryz.underlying9, dif_pos hb]⟩

set_option maxHeartbeats 4000000 in
set_option maxRecDepth 100000 in
theorem format_any (blk off cap n : Nat) (u : Int) (w : World) (h0 : 0 ≤ u) (h1 : u ≤ 18446744073709551615) (hn : n ≤ 20) (hr : RowOk blk off n w) :
    Calls Tryz.prog 326 #[.slice (some ⟨blk, off, none⟩) n cap, .int .u64 u] w fun e w' => e = .returned (.tuple #[]) ∧ RowOk blk off n w' ∧ Below blk w w' := by
  go_enter Tryz.func326, Tryz.ntmps326
  go_name_bytes SM hSM
  have hs : SM.size = 200 := by rw [← hSM]; decide +kernel
  clear hSM
  go_wp2
  go_loopw [1, 4] (fun vu vn wr => ∃ (k : Nat) (v : Int), vu = .int .u64 v ∧ vn = .int .i64 k ∧ k ≤ n ∧ 0 ≤ v ∧ v ≤ 18446744073709551615 ∧ RowOk blk off n wr ∧ Below blk w wr) (fun _ vn _ => (intOf vn).toNat)
  case atStart => exact ⟨n, u, rfl, rfl, Nat.le_refl _, h0, h1, hr, Below.refl _ _⟩
  case round =>
    obtain ⟨k, v, rfl, rfl, hk, hv0, hv1, hw0, hB0⟩ := hrel
    rename World => W0
    have HB0 := Lib.hid hB0; clear hB0 hr
    by_cases h8 : 8 ≤ k
    · obtain ⟨m, rfl⟩ : ∃ m, k = m + 8 := ⟨k - 8, by omega⟩
      have HR0 := Lib.hid hw0
      obtain ⟨⟨xa0, ca0⟩, fa0⟩ := hw0 (m + 7) (by omega)
      obtain ⟨⟨xb0, cb0⟩, fb0⟩ := hw0 (m + 6) (by omega)
      clear hw0
      go_wp2
      go_name_slot 9 i0 hi0
      have hia0 : 0 ≤ i0 := by omega
      have hib0 : i0 ≤ 198 := by omega
      clear hi0
      obtain ⟨y0, hy0⟩ := idx_some SM hs i0 hia0 (by omega)
      obtain ⟨z0, hz0⟩ := idx_some SM hs (i0 + 1) (by omega) (by omega)
      have hu0 : IntKind.u32.wrap (i0 + 1) = i0 + 1 := IntWalk.u32_in _ ⟨by omega, by omega⟩
      go_region
      go_wp2
      go_name_world W1 hW1
      have hw1 : RowOk blk off n W1 := by rw [← hW1]; exact ((HR0.out.drew.set (m + 7) _).set (m + 6) _)
      have HB1 := Lib.hid (show Below blk w W1 by rw [← hW1]; exact ((HB0.out.drew.setCell (Nat.le_refl _) _).setCell (Nat.le_refl _) _))
      clear hW1 ca0 cb0 fa0 fb0 hia0 hib0 hy0 hz0 hu0 HR0 HB0
      have HR1 := Lib.hid hw1
      obtain ⟨⟨xa1, ca1⟩, fa1⟩ := hw1 (m + 5) (by omega)
      obtain ⟨⟨xb1, cb1⟩, fb1⟩ := hw1 (m + 4) (by omega)
      clear hw1
      go_name_slot 8 i1 hi1
      have hia1 : 0 ≤ i1 := by omega
      have hib1 : i1 ≤ 198 := by omega
      clear hi1
      obtain ⟨y1, hy1⟩ := idx_some SM hs i1 hia1 (by omega)
      obtain ⟨z1, hz1⟩ := idx_some SM hs (i1 + 1) (by omega) (by omega)
      have hu1 : IntKind.u32.wrap (i1 + 1) = i1 + 1 := IntWalk.u32_in _ ⟨by omega, by omega⟩
      go_region
      go_wp2
      go_name_world W2 hW2
      have hw2 : RowOk blk off n W2 := by rw [← hW2]; exact ((HR1.out.drew.set (m + 5) _).set (m + 4) _)
      have HB2 := Lib.hid (show Below blk w W2 by rw [← hW2]; exact ((HB1.out.drew.setCell (Nat.le_refl _) _).setCell (Nat.le_refl _) _))
      clear hW2 ca1 cb1 fa1 fb1 hia1 hib1 hy1 hz1 hu1 HR1 HB1
      have HR2 := Lib.hid hw2
      obtain ⟨⟨xa2, ca2⟩, fa2⟩ := hw2 (m + 3) (by omega)
      obtain ⟨⟨xb2, cb2⟩, fb2⟩ := hw2 (m + 2) (by omega)
      clear hw2
      go_name_slot 11 i2 hi2
      have hia2 : 0 ≤ i2 := by omega
      have hib2 : i2 ≤ 198 := by omega
      clear hi2
      obtain ⟨y2, hy2⟩ := idx_some SM hs i2 hia2 (by omega)
      obtain ⟨z2, hz2⟩ := idx_some SM hs (i2 + 1) (by omega) (by omega)
      have hu2 : IntKind.u32.wrap (i2 + 1) = i2 + 1 := IntWalk.u32_in _ ⟨by omega, by omega⟩
      go_region
      go_wp2
      go_name_world W3 hW3
      have hw3 : RowOk blk off n W3 := by rw [← hW3]; exact ((HR2.out.drew.set (m + 3) _).set (m + 2) _)
      have HB3 := Lib.hid (show Below blk w W3 by rw [← hW3]; exact ((HB2.out.drew.setCell (Nat.le_refl _) _).setCell (Nat.le_refl _) _))
      clear hW3 ca2 cb2 fa2 fb2 hia2 hib2 hy2 hz2 hu2 HR2 HB2
      have HR3 := Lib.hid hw3
      obtain ⟨⟨xa3, ca3⟩, fa3⟩ := hw3 (m + 1) (by omega)
      obtain ⟨⟨xb3, cb3⟩, fb3⟩ := hw3 (m) (by omega)
      clear hw3
      go_name_slot 10 i3 hi3
      have hia3 : 0 ≤ i3 := by omega
      have hib3 : i3 ≤ 198 := by omega
      clear hi3
      obtain ⟨y3, hy3⟩ := idx_some SM hs i3 hia3 (by omega)
      obtain ⟨z3, hz3⟩ := idx_some SM hs (i3 + 1) (by omega) (by omega)
      have hu3 : IntKind.u32.wrap (i3 + 1) = i3 + 1 := IntWalk.u32_in _ ⟨by omega, by omega⟩
      go_region
      go_wp2
      go_roundw
      case rel => exact ⟨m, _, rfl, by go_num, by omega, by omega, by omega, (HR3.out.drew.set (m + 1) _).set m _, (HB3.out.drew.setCell (Nat.le_refl _) _).setCell (Nat.le_refl _) _⟩
      case measure => simp [intOf]; omega
    · rcases (by omega : k = 0 ∨ k = 1 ∨ k = 2 ∨ k = 3 ∨ k = 4 ∨ k = 5 ∨ k = 6 ∨ k = 7) with rfl | rfl | rfl | rfl | rfl | rfl | rfl | rfl
      · have HR0 := Lib.hid hw0
        clear hw0
        go_wp2
        go_end0
        exact ⟨rfl, HR0.out, HB0.out⟩
      · have HR0 := Lib.hid hw0
        obtain ⟨⟨xc0, cc0⟩, fc0⟩ := hw0 0 (by omega)
        rw [Nat.add_zero] at cc0 fc0
        clear hw0
        go_wp2
        go_end0
        exact ⟨rfl, (HR0.out.set 0 _), (HB0.out.setCell (Nat.le_refl _) _)⟩
      · have HR0 := Lib.hid hw0
        obtain ⟨⟨xa0, ca0⟩, fa0⟩ := hw0 (1) (by omega)
        obtain ⟨⟨xb0, cb0⟩, fb0⟩ := hw0 (0) (by omega)
        rw [Nat.add_zero] at cb0 fb0
        clear hw0
        go_wp2
        go_name_slot 16 i0 hi0
        have hia0 : 0 ≤ i0 := by omega
        have hib0 : i0 ≤ 198 := by omega
        clear hi0
        obtain ⟨y0, hy0⟩ := idx_some SM hs i0 hia0 (by omega)
        obtain ⟨z0, hz0⟩ := idx_some SM hs (i0 + 1) (by omega) (by omega)
        have hu0 : IntKind.u32.wrap (i0 + 1) = i0 + 1 := IntWalk.u32_in _ ⟨by omega, by omega⟩
        go_region
        go_wp2
        go_end0
        exact ⟨rfl, ((HR0.out.drew.set 1 _).set 0 _), ((HB0.out.drew.setCell (Nat.le_refl _) _).setCell (Nat.le_refl _) _)⟩
      · have HR0 := Lib.hid hw0
        obtain ⟨⟨xa0, ca0⟩, fa0⟩ := hw0 (2) (by omega)
        obtain ⟨⟨xb0, cb0⟩, fb0⟩ := hw0 (1) (by omega)
        obtain ⟨⟨xc0, cc0⟩, fc0⟩ := hw0 0 (by omega)
        rw [Nat.add_zero] at cc0 fc0
        clear hw0
        go_wp2
        go_name_slot 16 i0 hi0
        have hia0 : 0 ≤ i0 := by omega
        have hib0 : i0 ≤ 198 := by omega
        clear hi0
        obtain ⟨y0, hy0⟩ := idx_some SM hs i0 hia0 (by omega)
        obtain ⟨z0, hz0⟩ := idx_some SM hs (i0 + 1) (by omega) (by omega)
        have hu0 : IntKind.u32.wrap (i0 + 1) = i0 + 1 := IntWalk.u32_in _ ⟨by omega, by omega⟩
        go_region
        go_wp2
        go_end0
        exact ⟨rfl, (((HR0.out.drew.set 2 _).set 1 _).set 0 _), (((HB0.out.drew.setCell (Nat.le_refl _) _).setCell (Nat.le_refl _) _).setCell (Nat.le_refl _) _)⟩
      · have HR0 := Lib.hid hw0
        obtain ⟨⟨xa0, ca0⟩, fa0⟩ := hw0 (3) (by omega)
        obtain ⟨⟨xb0, cb0⟩, fb0⟩ := hw0 (2) (by omega)
        clear hw0
        go_wp2
        go_name_slot 15 i0 hi0
        have hia0 : 0 ≤ i0 := by omega
        have hib0 : i0 ≤ 198 := by omega
        clear hi0
        obtain ⟨y0, hy0⟩ := idx_some SM hs i0 hia0 (by omega)
        obtain ⟨z0, hz0⟩ := idx_some SM hs (i0 + 1) (by omega) (by omega)
        have hu0 : IntKind.u32.wrap (i0 + 1) = i0 + 1 := IntWalk.u32_in _ ⟨by omega, by omega⟩
        go_region
        go_wp2
        go_name_world W1 hW1
        have hw1 : RowOk blk off n W1 := by rw [← hW1]; exact ((HR0.out.drew.set (3) _).set (2) _)
        have HB1 := Lib.hid (show Below blk w W1 by rw [← hW1]; exact ((HB0.out.drew.setCell (Nat.le_refl _) _).setCell (Nat.le_refl _) _))
        clear hW1 ca0 cb0 fa0 fb0 hia0 hib0 hy0 hz0 hu0 HR0 HB0
        have HR1 := Lib.hid hw1
        obtain ⟨⟨xa1, ca1⟩, fa1⟩ := hw1 (1) (by omega)
        obtain ⟨⟨xb1, cb1⟩, fb1⟩ := hw1 (0) (by omega)
        rw [Nat.add_zero] at cb1 fb1
        clear hw1
        go_name_slot 14 i1 hi1
        have hia1 : 0 ≤ i1 := by omega
        have hib1 : i1 ≤ 198 := by omega
        clear hi1
        obtain ⟨y1, hy1⟩ := idx_some SM hs i1 hia1 (by omega)
        obtain ⟨z1, hz1⟩ := idx_some SM hs (i1 + 1) (by omega) (by omega)
        have hu1 : IntKind.u32.wrap (i1 + 1) = i1 + 1 := IntWalk.u32_in _ ⟨by omega, by omega⟩
        go_region
        go_wp2
        go_end0
        exact ⟨rfl, ((HR1.out.drew.set 1 _).set 0 _), ((HB1.out.drew.setCell (Nat.le_refl _) _).setCell (Nat.le_refl _) _)⟩
      · have HR0 := Lib.hid hw0
        obtain ⟨⟨xa0, ca0⟩, fa0⟩ := hw0 (4) (by omega)
        obtain ⟨⟨xb0, cb0⟩, fb0⟩ := hw0 (3) (by omega)
        clear hw0
        go_wp2
        go_name_slot 15 i0 hi0
        have hia0 : 0 ≤ i0 := by omega
        have hib0 : i0 ≤ 198 := by omega
        clear hi0
        obtain ⟨y0, hy0⟩ := idx_some SM hs i0 hia0 (by omega)
        obtain ⟨z0, hz0⟩ := idx_some SM hs (i0 + 1) (by omega) (by omega)
        have hu0 : IntKind.u32.wrap (i0 + 1) = i0 + 1 := IntWalk.u32_in _ ⟨by omega, by omega⟩
        go_region
        go_wp2
        go_name_world W1 hW1
        have hw1 : RowOk blk off n W1 := by rw [← hW1]; exact ((HR0.out.drew.set (4) _).set (3) _)
        have HB1 := Lib.hid (show Below blk w W1 by rw [← hW1]; exact ((HB0.out.drew.setCell (Nat.le_refl _) _).setCell (Nat.le_refl _) _))
        clear hW1 ca0 cb0 fa0 fb0 hia0 hib0 hy0 hz0 hu0 HR0 HB0
        have HR1 := Lib.hid hw1
        obtain ⟨⟨xa1, ca1⟩, fa1⟩ := hw1 (2) (by omega)
        obtain ⟨⟨xb1, cb1⟩, fb1⟩ := hw1 (1) (by omega)
        obtain ⟨⟨xc1, cc1⟩, fc1⟩ := hw1 0 (by omega)
        rw [Nat.add_zero] at cc1 fc1
        clear hw1
        go_name_slot 14 i1 hi1
        have hia1 : 0 ≤ i1 := by omega
        have hib1 : i1 ≤ 198 := by omega
        clear hi1
        obtain ⟨y1, hy1⟩ := idx_some SM hs i1 hia1 (by omega)
        obtain ⟨z1, hz1⟩ := idx_some SM hs (i1 + 1) (by omega) (by omega)
        have hu1 : IntKind.u32.wrap (i1 + 1) = i1 + 1 := IntWalk.u32_in _ ⟨by omega, by omega⟩
        go_region
        go_wp2
        go_end0
        exact ⟨rfl, (((HR1.out.drew.set 2 _).set 1 _).set 0 _), (((HB1.out.drew.setCell (Nat.le_refl _) _).setCell (Nat.le_refl _) _).setCell (Nat.le_refl _) _)⟩
      · have HR0 := Lib.hid hw0
        obtain ⟨⟨xa0, ca0⟩, fa0⟩ := hw0 (5) (by omega)
        obtain ⟨⟨xb0, cb0⟩, fb0⟩ := hw0 (4) (by omega)
        clear hw0
        go_wp2
        go_name_slot 15 i0 hi0
        have hia0 : 0 ≤ i0 := by omega
        have hib0 : i0 ≤ 198 := by omega
        clear hi0
        obtain ⟨y0, hy0⟩ := idx_some SM hs i0 hia0 (by omega)
        obtain ⟨z0, hz0⟩ := idx_some SM hs (i0 + 1) (by omega) (by omega)
        have hu0 : IntKind.u32.wrap (i0 + 1) = i0 + 1 := IntWalk.u32_in _ ⟨by omega, by omega⟩
        go_region
        go_wp2
        go_name_world W1 hW1
        have hw1 : RowOk blk off n W1 := by rw [← hW1]; exact ((HR0.out.drew.set (5) _).set (4) _)
        have HB1 := Lib.hid (show Below blk w W1 by rw [← hW1]; exact ((HB0.out.drew.setCell (Nat.le_refl _) _).setCell (Nat.le_refl _) _))
        clear hW1 ca0 cb0 fa0 fb0 hia0 hib0 hy0 hz0 hu0 HR0 HB0
        have HR1 := Lib.hid hw1
        obtain ⟨⟨xa1, ca1⟩, fa1⟩ := hw1 (3) (by omega)
        obtain ⟨⟨xb1, cb1⟩, fb1⟩ := hw1 (2) (by omega)
        clear hw1
        go_name_slot 14 i1 hi1
        have hia1 : 0 ≤ i1 := by omega
        have hib1 : i1 ≤ 198 := by omega
        clear hi1
        obtain ⟨y1, hy1⟩ := idx_some SM hs i1 hia1 (by omega)
        obtain ⟨z1, hz1⟩ := idx_some SM hs (i1 + 1) (by omega) (by omega)
        have hu1 : IntKind.u32.wrap (i1 + 1) = i1 + 1 := IntWalk.u32_in _ ⟨by omega, by omega⟩
        go_region
        go_wp2
        go_name_world W2 hW2
        have hw2 : RowOk blk off n W2 := by rw [← hW2]; exact ((HR1.out.drew.set (3) _).set (2) _)
        have HB2 := Lib.hid (show Below blk w W2 by rw [← hW2]; exact ((HB1.out.drew.setCell (Nat.le_refl _) _).setCell (Nat.le_refl _) _))
        clear hW2 ca1 cb1 fa1 fb1 hia1 hib1 hy1 hz1 hu1 HR1 HB1
        have HR2 := Lib.hid hw2
        obtain ⟨⟨xa2, ca2⟩, fa2⟩ := hw2 (1) (by omega)
        obtain ⟨⟨xb2, cb2⟩, fb2⟩ := hw2 (0) (by omega)
        rw [Nat.add_zero] at cb2 fb2
        clear hw2
        go_name_slot 16 i2 hi2
        have hia2 : 0 ≤ i2 := by omega
        have hib2 : i2 ≤ 198 := by omega
        clear hi2
        obtain ⟨y2, hy2⟩ := idx_some SM hs i2 hia2 (by omega)
        obtain ⟨z2, hz2⟩ := idx_some SM hs (i2 + 1) (by omega) (by omega)
        have hu2 : IntKind.u32.wrap (i2 + 1) = i2 + 1 := IntWalk.u32_in _ ⟨by omega, by omega⟩
        go_region
        go_wp2
        go_end0
        exact ⟨rfl, ((HR2.out.drew.set 1 _).set 0 _), ((HB2.out.drew.setCell (Nat.le_refl _) _).setCell (Nat.le_refl _) _)⟩
      · have HR0 := Lib.hid hw0
        obtain ⟨⟨xa0, ca0⟩, fa0⟩ := hw0 (6) (by omega)
        obtain ⟨⟨xb0, cb0⟩, fb0⟩ := hw0 (5) (by omega)
        clear hw0
        go_wp2
        go_name_slot 15 i0 hi0
        have hia0 : 0 ≤ i0 := by omega
        have hib0 : i0 ≤ 198 := by omega
        clear hi0
        obtain ⟨y0, hy0⟩ := idx_some SM hs i0 hia0 (by omega)
        obtain ⟨z0, hz0⟩ := idx_some SM hs (i0 + 1) (by omega) (by omega)
        have hu0 : IntKind.u32.wrap (i0 + 1) = i0 + 1 := IntWalk.u32_in _ ⟨by omega, by omega⟩
        go_region
        go_wp2
        go_name_world W1 hW1
        have hw1 : RowOk blk off n W1 := by rw [← hW1]; exact ((HR0.out.drew.set (6) _).set (5) _)
        have HB1 := Lib.hid (show Below blk w W1 by rw [← hW1]; exact ((HB0.out.drew.setCell (Nat.le_refl _) _).setCell (Nat.le_refl _) _))
        clear hW1 ca0 cb0 fa0 fb0 hia0 hib0 hy0 hz0 hu0 HR0 HB0
        have HR1 := Lib.hid hw1
        obtain ⟨⟨xa1, ca1⟩, fa1⟩ := hw1 (4) (by omega)
        obtain ⟨⟨xb1, cb1⟩, fb1⟩ := hw1 (3) (by omega)
        clear hw1
        go_name_slot 14 i1 hi1
        have hia1 : 0 ≤ i1 := by omega
        have hib1 : i1 ≤ 198 := by omega
        clear hi1
        obtain ⟨y1, hy1⟩ := idx_some SM hs i1 hia1 (by omega)
        obtain ⟨z1, hz1⟩ := idx_some SM hs (i1 + 1) (by omega) (by omega)
        have hu1 : IntKind.u32.wrap (i1 + 1) = i1 + 1 := IntWalk.u32_in _ ⟨by omega, by omega⟩
        go_region
        go_wp2
        go_name_world W2 hW2
        have hw2 : RowOk blk off n W2 := by rw [← hW2]; exact ((HR1.out.drew.set (4) _).set (3) _)
        have HB2 := Lib.hid (show Below blk w W2 by rw [← hW2]; exact ((HB1.out.drew.setCell (Nat.le_refl _) _).setCell (Nat.le_refl _) _))
        clear hW2 ca1 cb1 fa1 fb1 hia1 hib1 hy1 hz1 hu1 HR1 HB1
        have HR2 := Lib.hid hw2
        obtain ⟨⟨xa2, ca2⟩, fa2⟩ := hw2 (2) (by omega)
        obtain ⟨⟨xb2, cb2⟩, fb2⟩ := hw2 (1) (by omega)
        obtain ⟨⟨xc2, cc2⟩, fc2⟩ := hw2 0 (by omega)
        rw [Nat.add_zero] at cc2 fc2
        clear hw2
        go_name_slot 16 i2 hi2
        have hia2 : 0 ≤ i2 := by omega
        have hib2 : i2 ≤ 198 := by omega
        clear hi2
        obtain ⟨y2, hy2⟩ := idx_some SM hs i2 hia2 (by omega)
        obtain ⟨z2, hz2⟩ := idx_some SM hs (i2 + 1) (by omega) (by omega)
        have hu2 : IntKind.u32.wrap (i2 + 1) = i2 + 1 := IntWalk.u32_in _ ⟨by omega, by omega⟩
        go_region
        go_wp2
        go_end0
        exact ⟨rfl, (((HR2.out.drew.set 2 _).set 1 _).set 0 _), (((HB2.out.drew.setCell (Nat.le_refl _) _).setCell (Nat.le_refl _) _).setCell (Nat.le_refl _) _)⟩
end ErrC
end Go.Proofs.YtbjifikbfagdjaaGreatDoor
namespace Go.Proofs.YtbjifikbfagdjaaGreatDoor
open Go.RowKit
namespace ErrC

theorem RowOk.nums {blk off : Nat} {w : World} : ∀ {n : Nat}, RowOk blk off n w → ∃ ns : List Int, ns.length = n ∧ ∀ i, i < n → w.cell? ⟨blk, off + i, none⟩ = some (.int .u8 (ns.getD i 0))
  | 0, _ => ⟨[], rfl, fun _ h => by omega⟩
  | n + 1, h => by
    obtain ⟨ns, hl, hc⟩ := RowOk.nums (n := n) (fun t ht => h t (by omega))
    obtain ⟨⟨x, hx⟩, _⟩ := h n (by omega)
    refine ⟨ns ++ [x], by simp [hl], fun i hi => ?_⟩
    by_cases e : i = n
    · subst e; rw [hx]; simp [List.getD, hl]
    · rw [hc i (by omega)]; simp [List.getD, List.getElem?_append_left (show i < ns.length by omega)]
theorem text_of_row {blk off n : Nat} {w : World} (cap : Nat) (h : RowOk blk off n w) : ∃ s : ByteArray, s.size = n ∧ (convert 241 9 (.slice (some ⟨blk, off, none⟩) n cap)).run Tryz.prog w = .ok (.string s) w := by
  obtain ⟨ns, hl, hc⟩ := h.nums
  have e := run_convert_bytes_arg (P := Tryz.prog) w 241 5 Tryz.underlying241 Tryz.underlying5 blk off n cap ns hl hc 9 Tryz.underlying9
  exact ⟨_, (strOfNums_size ns).trans hl, e⟩

set_option maxHeartbeats 1000000 in
theorem formatInt_small (i : Nat) (w : World) (h : i < 100) : Calls Tryz.prog 316 #[.int .i64 i, .int .i64 10] w (SomeText w) := by
  go_enter Tryz.func316, Tryz.ntmps316
  go_wp2_with fail
  refine (small_any i _ h).mono ?_
  rintro e w' ⟨s, rfl, hs, hb⟩
  go_wp2_with fail
  go_ret
  exact ⟨s, rfl, hs, hb⟩

theorem cut_array (b d : Nat) (w : World) (h : d ≤ 20) :
    (Instr.sliceAt 385 (.pointer (some ⟨b, 0, none⟩)) (some (.int .i64 1)) (some (.int .i64 (1 + (d : Int)))) none).run Tryz.prog w = .ok (.slice (some ⟨b, 1, none⟩) d 23) w := by
  rcases (by omega : d = 0 ∨ d = 1 ∨ d = 2 ∨ d = 3 ∨ d = 4 ∨ d = 5 ∨ d = 6 ∨ d = 7 ∨ d = 8 ∨ d = 9 ∨ d = 10 ∨ d = 11 ∨ d = 12 ∨ d = 13 ∨ d = 14 ∨ d = 15 ∨ d = 16 ∨ d = 17 ∨ d = 18 ∨ d = 19 ∨ d = 20) with rfl | rfl | rfl | rfl | rfl | rfl | rfl | rfl | rfl | rfl | rfl | rfl | rfl | rfl | rfl | rfl | rfl | rfl | rfl | rfl | rfl <;> kernel_rfl

set_option maxHeartbeats 1000000 in
set_option maxRecDepth 100000 in
theorem formatInt_big (i : Nat) (w : World) (h : 100 ≤ i) (h1 : i ≤ 9223372036854775807) (ht : PowTab w) : Calls Tryz.prog 316 #[.int .i64 i, .int .i64 10] w (SomeText w) := by
  have HT := Lib.hid ht; clear ht
  go_enter Tryz.func316, Tryz.ntmps316
  go_wp2_with fail
  refine (digits_any i _ (by omega) (by omega) ?_).mono ?_
  · intro j hj
    obtain ⟨x, hx⟩ := HT.out j hj
    exact ⟨x, by rw [World.cell?_alloc_lt _ _ _ (World.block_lt_of_cell? _ _ hx)]; exact hx⟩
  rintro e w' ⟨d, rfl, hd, rfl⟩
  have hcut := fun w' => cut_array w.heap.size d w' hd
  go_wp2_with fail
  have hrow : RowOk w.heap.size 1 d (w.alloc (.cells (Array.replicate 24 (.int .u8 0)) 385)) := fun t ht => by
    refine ⟨⟨0, ?_⟩, World.frozen?_alloc_at _ _ _ _ rfl⟩
    rw [World.cell?_alloc_at _ _ _ _ rfl]
    rw [Array.getElem?_replicate, if_pos (by omega)]
  refine (format_any w.heap.size 1 23 d i _ (by omega) (by omega) hd hrow).mono ?_
  rintro e w2 ⟨rfl, hr2, hb2⟩
  obtain ⟨s, hs, hcv⟩ := text_of_row 23 hr2
  have HB := Lib.hid hb2
  clear hb2 hr2
  go_wp2_with fail
  go_ret
  exact ⟨s, rfl, by omega, ((Below.refl w.heap.size w).alloc (Nat.le_refl _) _).trans HB.out⟩

theorem formatInt_any (i : Nat) (w : World) (h1 : i ≤ 9223372036854775807) (ht : PowTab w) : Calls Tryz.prog 316 #[.int .i64 i, .int .i64 10] w (SomeText w) := by
  by_cases h : i < 100
  · exact formatInt_small i w h
  · exact formatInt_big i w (by omega) h1 ht
theorem itoa_in (i : Nat) (w : World) (h1 : i ≤ 9223372036854775807) (ht : PowTab w) : Calls Tryz.prog 299 #[.int .i64 i] w (SomeText w) := by
  go_enter Tryz.func299, Tryz.ntmps299
  go_wp2_with fail
  refine (formatInt_any i _ h1 ht).mono ?_
  rintro e w' ⟨s, rfl, hs, hb⟩
  go_wp2_with fail
  go_ret
  exact ⟨s, rfl, hs, hb⟩
theorem itoa_any (i : Nat) (w : World) (h1 : i ≤ 9223372036854775807) (ht : PowTab w) : Calls Tryz.prog 286 #[.int .i64 i] w (SomeText w) := by
  go_enter Tryz.func286, Tryz.ntmps286
  go_wp2_with fail
  refine (itoa_in i _ h1 ht).mono ?_
  rintro e w' ⟨s, rfl, hs, hb⟩
  go_wp2_with fail
  go_ret
  exact ⟨s, rfl, hs, hb⟩
end ErrC
end Go.Proofs.YtbjifikbfagdjaaGreatDoor
