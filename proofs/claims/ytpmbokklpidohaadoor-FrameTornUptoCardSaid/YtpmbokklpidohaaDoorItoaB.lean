/-
  The library's writing of a number's digits into a row of bytes, whatever the row's length: it writes into that row alone.
-/
import Derived.Test.YtpmbokklpidohaaDoorItoa
import Derived.RegionTactic
import Derived.ChangeAlike
import Derived.BigRegion
namespace Go.Proofs.YtpmbokklpidohaaDoor
open Go.RowKit
namespace ErrC

/-- a row of bytes of the call's own -/
def RowOk (blk off n : Nat) (w : World) : Prop := ∀ t, t < n → (∃ x : Int, w.cell? ⟨blk, off + t, none⟩ = some (.int .u8 x)) ∧ w.frozen? ⟨blk, off + t, none⟩ = false
theorem RowOk.drew {blk off n : Nat} {w : World} (h : RowOk blk off n w) : RowOk blk off n w.drew := h
theorem RowOk.set {blk off n : Nat} {w : World} (h : RowOk blk off n w) (t : Nat) (x : Int) : RowOk blk off n (w.setCell ⟨blk, off + t, none⟩ (.int .u8 x)) := by
  intro j hj
  obtain ⟨⟨y, hy⟩, hf⟩ := h j hj
  refine ⟨?_, by simpa using hf⟩
  by_cases e : j = t
  · subst e; exact ⟨x, World.cell?_setCell_same _ _ _ hy⟩
  · exact ⟨y, by rw [World.cell?_setCell_other _ _ _ _ (fun h => e (by have := congrArg Addr.off h; simp at this; omega))]; exact hy⟩

theorem idx_some (S : ByteArray) (hs : S.size = 200) (z : Int) (h0 : 0 ≤ z) (h1 : z < 200) : ∃ y : Int, ∀ w, (Instr.index 9 (.string S) (.int .u32 z)).run Tryd.prog w = .ok (.int .u8 y) w := by
  have hb : 0 ≤ z ∧ z < (S.size : Int) := ⟨h0, by omega⟩
  exact ⟨_, fun w => by rw [run_index_string w 9 S .u32 z Tryd.underlying9, dif_pos hb]⟩

set_option maxHeartbeats 4000000 in
set_option maxRecDepth 100000 in
theorem format_any (blk off cap n : Nat) (u : Int) (w : World) (h0 : 0 ≤ u) (h1 : u ≤ 18446744073709551615) (hn : n ≤ 20) (hr : RowOk blk off n w) :
    Calls Tryd.prog 64 #[.slice (some ⟨blk, off, none⟩) n cap, .int .u64 u] w fun e w' => e = .returned (.tuple #[]) ∧ RowOk blk off n w' ∧ Below blk w w' := by
  go_enter Tryd.func64, Tryd.ntmps64
  go_name_bytes SM hSM
  have hs : SM.size = 200 := by rw [← hSM]; decide +kernel
  clear hSM
  go_wp2
  go_loopw [1, 4] (fun vu vn wr => ∃ (k : Nat) (v : Int), vu = .int .u64 v ∧ vn = .int .i64 k ∧ k ≤ n ∧ 0 ≤ v ∧ v ≤ 18446744073709551615 ∧ RowOk blk off n wr ∧ Below blk w wr) (fun _ vn _ => (intOf vn).toNat)
  case atStart => exact ⟨n, u, rfl, rfl, Nat.le_refl _, h0, h1, hr, Below.refl _ _⟩
  case round =>
    obtain ⟨k, v, rfl, rfl, hk, hv0, hv1, hw0, hB0⟩ := hrel
    rename World => W0
    have HB0 := Lib.hid hB0; clear hB0 hr
    by_cases h8 : 8 ≤ k
    · obtain ⟨m, rfl⟩ : ∃ m, k = m + 8 := ⟨k - 8, by omega⟩
      have HR0 := Lib.hid hw0
      obtain ⟨⟨xa0, ca0⟩, fa0⟩ := hw0 (m + 7) (by omega)
      obtain ⟨⟨xb0, cb0⟩, fb0⟩ := hw0 (m + 6) (by omega)
      clear hw0
      go_wp2
      go_name_slot 9 i0 hi0
      have hia0 : 0 ≤ i0 := by omega
      have hib0 : i0 ≤ 198 := by omega
      clear hi0
      obtain ⟨y0, hy0⟩ := idx_some SM hs i0 hia0 (by omega)
      obtain ⟨z0, hz0⟩ := idx_some SM hs (i0 + 1) (by omega) (by omega)
      have hu0 : IntKind.u32.wrap (i0 + 1) = i0 + 1 := IntWalk.u32_in _ ⟨by omega, by omega⟩
      go_region
      go_wp2
      go_name_world W1 hW1
      have hw1 : RowOk blk off n W1 := by rw [← hW1]; exact ((HR0.out.drew.set (m + 7) _).set (m + 6) _)
      have HB1 := Lib.hid (show Below blk w W1 by rw [← hW1]; exact ((HB0.out.drew.setCell (Nat.le_refl _) _).setCell (Nat.le_refl _) _))
      clear hW1 ca0 cb0 fa0 fb0 hia0 hib0 hy0 hz0 hu0 HR0 HB0
      have HR1 := Lib.hid hw1
      obtain ⟨⟨xa1, ca1⟩, fa1⟩ := hw1 (m + 5) (by omega)
      obtain ⟨⟨xb1, cb1⟩, fb1⟩ := hw1 (m + 4) (by omega)
      clear hw1
      go_name_slot 8 i1 hi1
      have hia1 : 0 ≤ i1 := by omega
      have hib1 : i1 ≤ 198 := by omega
      clear hi1
      obtain ⟨y1, hy1⟩ := idx_some SM hs i1 hia1 (by omega)
      obtain ⟨z1, hz1⟩ := idx_some SM hs (i1 + 1) (by omega) (by omega)
      have hu1 : IntKind.u32.wrap (i1 + 1) = i1 + 1 := IntWalk.u32_in _ ⟨by omega, by omega⟩
      go_region
      go_wp2
      go_name_world W2 hW2
      have hw2 : RowOk blk off n W2 := by rw [← hW2]; exact ((HR1.out.drew.set (m + 5) _).set (m + 4) _)
      have HB2 := Lib.hid (show Below blk w W2 by rw [← hW2]; exact ((HB1.out.drew.setCell (Nat.le_refl _) _).setCell (Nat.le_refl _) _))
      clear hW2 ca1 cb1 fa1 fb1 hia1 hib1 hy1 hz1 hu1 HR1 HB1
      have HR2 := Lib.hid hw2
      obtain ⟨⟨xa2, ca2⟩, fa2⟩ := hw2 (m + 3) (by omega)
      obtain ⟨⟨xb2, cb2⟩, fb2⟩ := hw2 (m + 2) (by omega)
      clear hw2
      go_name_slot 11 i2 hi2
      have hia2 : 0 ≤ i2 := by omega
      have hib2 : i2 ≤ 198 := by omega
      clear hi2
      obtain ⟨y2, hy2⟩ := idx_some SM hs i2 hia2 (by omega)
      obtain ⟨z2, hz2⟩ := idx_some SM hs (i2 + 1) (by omega) (by omega)
      have hu2 : IntKind.u32.wrap (i2 + 1) = i2 + 1 := IntWalk.u32_in _ ⟨by omega, by omega⟩
      go_region
      go_wp2
      go_name_world W3 hW3
      have hw3 : RowOk blk off n W3 := by rw [← hW3]; exact ((HR2.out.drew.set (m + 3) _).set (m + 2) _)
      have HB3 := Lib.hid (show Below blk w W3 by rw [← hW3]; exact ((HB2.out.drew.setCell (Nat.le_refl _) _).setCell (Nat.le_refl _) _))
      clear hW3 ca2 cb2 fa2 fb2 hia2 hib2 hy2 hz2 hu2 HR2 HB2
      have HR3 := Lib.hid hw3
      obtain ⟨⟨xa3, ca3⟩, fa3⟩ := hw3 (m + 1) (by omega)
      obtain ⟨⟨xb3, cb3⟩, fb3⟩ := hw3 (m) (by omega)
      clear hw3
      go_name_slot 10 i3 hi3
      have hia3 : 0 ≤ i3 := by omega
      have hib3 : i3 ≤ 198 := by omega
      clear hi3
      obtain ⟨y3, hy3⟩ := idx_some SM hs i3 hia3 (by omega)
      obtain ⟨z3, hz3⟩ := idx_some SM hs (i3 + 1) (by omega) (by omega)
      have hu3 : IntKind.u32.wrap (i3 + 1) = i3 + 1 := IntWalk.u32_in _ ⟨by omega, by omega⟩
      go_region
      go_wp2
      go_roundw
      case rel => exact ⟨m, _, rfl, by go_num, by omega, by omega, by omega, (HR3.out.drew.set (m + 1) _).set m _, (HB3.out.drew.setCell (Nat.le_refl _) _).setCell (Nat.le_refl _) _⟩
      case measure => simp [intOf]; omega
    · rcases (by omega : k = 0 ∨ k = 1 ∨ k = 2 ∨ k = 3 ∨ k = 4 ∨ k = 5 ∨ k = 6 ∨ k = 7) with rfl | rfl | rfl | rfl | rfl | rfl | rfl | rfl
      · have HR0 := Lib.hid hw0
        clear hw0
        go_wp2
        go_end0
        exact ⟨rfl, HR0.out, HB0.out⟩
      · have HR0 := Lib.hid hw0
        obtain ⟨⟨xc0, cc0⟩, fc0⟩ := hw0 0 (by omega)
        rw [Nat.add_zero] at cc0 fc0
        clear hw0
        go_wp2
        go_end0
        exact ⟨rfl, (HR0.out.set 0 _), (HB0.out.setCell (Nat.le_refl _) _)⟩
      · have HR0 := Lib.hid hw0
        obtain ⟨⟨xa0, ca0⟩, fa0⟩ := hw0 (1) (by omega)
        obtain ⟨⟨xb0, cb0⟩, fb0⟩ := hw0 (0) (by omega)
        rw [Nat.add_zero] at cb0 fb0
        clear hw0
        go_wp2
        go_name_slot 16 i0 hi0
        have hia0 : 0 ≤ i0 := by omega
        have hib0 : i0 ≤ 198 := by omega
        clear hi0
        obtain ⟨y0, hy0⟩ := idx_some SM hs i0 hia0 (by omega)
        obtain ⟨z0, hz0⟩ := idx_some SM hs (i0 + 1) (by omega) (by omega)
        have hu0 : IntKind.u32.wrap (i0 + 1) = i0 + 1 := IntWalk.u32_in _ ⟨by omega, by omega⟩
        go_region
        go_wp2
        go_end0
        exact ⟨rfl, ((HR0.out.drew.set 1 _).set 0 _), ((HB0.out.drew.setCell (Nat.le_refl _) _).setCell (Nat.le_refl _) _)⟩
      · have HR0 := Lib.hid hw0
        obtain ⟨⟨xa0, ca0⟩, fa0⟩ := hw0 (2) (by omega)
        obtain ⟨⟨xb0, cb0⟩, fb0⟩ := hw0 (1) (by omega)
        obtain ⟨⟨xc0, cc0⟩, fc0⟩ := hw0 0 (by omega)
        rw [Nat.add_zero] at cc0 fc0
        clear hw0
        go_wp2
        go_name_slot 16 i0 hi0
        have hia0 : 0 ≤ i0 := by omega
        have hib0 : i0 ≤ 198 := by omega
        clear hi0
        obtain ⟨y0, hy0⟩ := idx_some SM hs i0 hia0 (by omega)
        obtain ⟨z0, hz0⟩ := idx_some SM hs (i0 + 1) (by omega) (by omega)
        have hu0 : IntKind.u32.wrap (i0 + 1) = i0 + 1 := IntWalk.u32_in _ ⟨by omega, by omega⟩
        go_region
        go_wp2
        go_end0
        exact ⟨rfl, (((HR0.out.drew.set 2 _).set 1 _).set 0 _), (((HB0.out.drew.setCell (Nat.le_refl _) _).setCell (Nat.le_refl _) _).setCell (Nat.le_refl _) _)⟩
      · have HR0 := Lib.hid hw0
        obtain ⟨⟨xa0, ca0⟩, fa0⟩ := hw0 (3) (by omega)
        obtain ⟨⟨xb0, cb0⟩, fb0⟩ := hw0 (2) (by omega)
        clear hw0
        go_wp2
        go_name_slot 15 i0 hi0
        have hia0 : 0 ≤ i0 := by omega
        have hib0 : i0 ≤ 198 := by omega
        clear hi0
        obtain ⟨y0, hy0⟩ := idx_some SM hs i0 hia0 (by omega)
        obtain ⟨z0, hz0⟩ := idx_some SM hs (i0 + 1) (by omega) (by omega)
        have hu0 : IntKind.u32.wrap (i0 + 1) = i0 + 1 := IntWalk.u32_in _ ⟨by omega, by omega⟩
        go_region
        go_wp2
        go_name_world W1 hW1
        have hw1 : RowOk blk off n W1 := by rw [← hW1]; exact ((HR0.out.drew.set (3) _).set (2) _)
        have HB1 := Lib.hid (show Below blk w W1 by rw [← hW1]; exact ((HB0.out.drew.setCell (Nat.le_refl _) _).setCell (Nat.le_refl _) _))
        clear hW1 ca0 cb0 fa0 fb0 hia0 hib0 hy0 hz0 hu0 HR0 HB0
        have HR1 := Lib.hid hw1
        obtain ⟨⟨xa1, ca1⟩, fa1⟩ := hw1 (1) (by omega)
        obtain ⟨⟨xb1, cb1⟩, fb1⟩ := hw1 (0) (by omega)
        rw [Nat.add_zero] at cb1 fb1
        clear hw1
        go_name_slot 14 i1 hi1
        have hia1 : 0 ≤ i1 := by omega
        have hib1 : i1 ≤ 198 := by omega
        clear hi1
        obtain ⟨y1, hy1⟩ := idx_some SM hs i1 hia1 (by omega)
        obtain ⟨z1, hz1⟩ := idx_some SM hs (i1 + 1) (by omega) (by omega)
        have hu1 : IntKind.u32.wrap (i1 + 1) = i1 + 1 := IntWalk.u32_in _ ⟨by omega, by omega⟩
        go_region
        go_wp2
        go_end0
        exact ⟨rfl, ((HR1.out.drew.set 1 _).set 0 _), ((HB1.out.drew.setCell (Nat.le_refl _) _).setCell (Nat.le_refl _) _)⟩
      · have HR0 := Lib.hid hw0
        obtain ⟨⟨xa0, ca0⟩, fa0⟩ := hw0 (4) (by omega)
        obtain ⟨⟨xb0, cb0⟩, fb0⟩ := hw0 (3) (by omega)
        clear hw0
        go_wp2
        go_name_slot 15 i0 hi0
        have hia0 : 0 ≤ i0 := by omega
        have hib0 : i0 ≤ 198 := by omega
        clear hi0
        obtain ⟨y0, hy0⟩ := idx_some SM hs i0 hia0 (by omega)
        obtain ⟨z0, hz0⟩ := idx_some SM hs (i0 + 1) (by omega) (by omega)
        have hu0 : IntKind.u32.wrap (i0 + 1) = i0 + 1 := IntWalk.u32_in _ ⟨by omega, by omega⟩
        go_region
        go_wp2
        go_name_world W1 hW1
        have hw1 : RowOk blk off n W1 := by rw [← hW1]; exact ((HR0.out.drew.set (4) _).set (3) _)
        have HB1 := Lib.hid (show Below blk w W1 by rw [← hW1]; exact ((HB0.out.drew.setCell (Nat.le_refl _) _).setCell (Nat.le_refl _) _))
        clear hW1 ca0 cb0 fa0 fb0 hia0 hib0 hy0 hz0 hu0 HR0 HB0
        have HR1 := Lib.hid hw1
        obtain ⟨⟨xa1, ca1⟩, fa1⟩ := hw1 (2) (by omega)
        obtain ⟨⟨xb1, cb1⟩, fb1⟩ := hw1 (1) (by omega)
        obtain ⟨⟨xc1, cc1⟩, fc1⟩ := hw1 0 (by omega)
        rw [Nat.add_zero] at cc1 fc1
        clear hw1
        go_name_slot 14 i1 hi1
        have hia1 : 0 ≤ i1 := by omega
        have hib1 : i1 ≤ 198 := by omega
        clear hi1
        obtain ⟨y1, hy1⟩ := idx_some SM hs i1 hia1 (by omega)
        obtain ⟨z1, hz1⟩ := idx_some SM hs (i1 + 1) (by omega) (by omega)
        have hu1 : IntKind.u32.wrap (i1 + 1) = i1 + 1 := IntWalk.u32_in _ ⟨by omega, by omega⟩
        go_region
        go_wp2
        go_end0
        exact ⟨rfl, (((HR1.out.drew.set 2 _).set 1 _).set 0 _), (((HB1.out.drew.setCell (Nat.le_refl _) _).setCell (Nat.le_refl _) _).setCell (Nat.le_refl _) _)⟩
      · have HR0 := Lib.hid hw0
        obtain ⟨⟨xa0, ca0⟩, fa0⟩ := hw0 (5) (by omega)
        obtain ⟨⟨xb0, cb0⟩, fb0⟩ := hw0 (4) (by omega)
        clear hw0
        go_wp2
        go_name_slot 15 i0 hi0
        have hia0 : 0 ≤ i0 := by omega
        have hib0 : i0 ≤ 198 := by omega
        clear hi0
        obtain ⟨y0, hy0⟩ := idx_some SM hs i0 hia0 (by omega)
        obtain ⟨z0, hz0⟩ := idx_some SM hs (i0 + 1) (by omega) (by omega)
        have hu0 : IntKind.u32.wrap (i0 + 1) = i0 + 1 := IntWalk.u32_in _ ⟨by omega, by omega⟩
        go_region
        go_wp2
        go_name_world W1 hW1
        have hw1 : RowOk blk off n W1 := by rw [← hW1]; exact ((HR0.out.drew.set (5) _).set (4) _)
        have HB1 := Lib.hid (show Below blk w W1 by rw [← hW1]; exact ((HB0.out.drew.setCell (Nat.le_refl _) _).setCell (Nat.le_refl _) _))
        clear hW1 ca0 cb0 fa0 fb0 hia0 hib0 hy0 hz0 hu0 HR0 HB0
        have HR1 := Lib.hid hw1
        obtain ⟨⟨xa1, ca1⟩, fa1⟩ := hw1 (3) (by omega)
        obtain ⟨⟨xb1, cb1⟩, fb1⟩ := hw1 (2) (by omega)
        clear hw1
        go_name_slot 14 i1 hi1
        have hia1 : 0 ≤ i1 := by omega
        have hib1 : i1 ≤ 198 := by omega
        clear hi1
        obtain ⟨y1, hy1⟩ := idx_some SM hs i1 hia1 (by omega)
        obtain ⟨z1, hz1⟩ := idx_some SM hs (i1 + 1) (by omega) (by omega)
        have hu1 : IntKind.u32.wrap (i1 + 1) = i1 + 1 := IntWalk.u32_in _ ⟨by omega, by omega⟩
        go_region
        go_wp2
        go_name_world W2 hW2
        have hw2 : RowOk blk off n W2 := by rw [← hW2]; exact ((HR1.out.drew.set (3) _).set (2) _)
        have HB2 := Lib.hid (show Below blk w W2 by rw [← hW2]; exact ((HB1.out.drew.setCell (Nat.le_refl _) _).setCell (Nat.le_refl _) _))
        clear hW2 ca1 cb1 fa1 fb1 hia1 hib1 hy1 hz1 hu1 HR1 HB1
        have HR2 := Lib.hid hw2
        obtain ⟨⟨xa2, ca2⟩, fa2⟩ := hw2 (1) (by omega)
        obtain ⟨⟨xb2, cb2⟩, fb2⟩ := hw2 (0) (by omega)
        rw [Nat.add_zero] at cb2 fb2
        clear hw2
        go_name_slot 16 i2 hi2
        have hia2 : 0 ≤ i2 := by omega
        have hib2 : i2 ≤ 198 := by omega
        clear hi2
        obtain ⟨y2, hy2⟩ := idx_some SM hs i2 hia2 (by omega)
        obtain ⟨z2, hz2⟩ := idx_some SM hs (i2 + 1) (by omega) (by omega)
        have hu2 : IntKind.u32.wrap (i2 + 1) = i2 + 1 := IntWalk.u32_in _ ⟨by omega, by omega⟩
        go_region
        go_wp2
        go_end0
        exact ⟨rfl, ((HR2.out.drew.set 1 _).set 0 _), ((HB2.out.drew.setCell (Nat.le_refl _) _).setCell (Nat.le_refl _) _)⟩
      · have HR0 := Lib.hid hw0
        obtain ⟨⟨xa0, ca0⟩, fa0⟩ := hw0 (6) (by omega)
        obtain ⟨⟨xb0, cb0⟩, fb0⟩ := hw0 (5) (by omega)
        clear hw0
        go_wp2
        go_name_slot 15 i0 hi0
        have hia0 : 0 ≤ i0 := by omega
        have hib0 : i0 ≤ 198 := by omega
        clear hi0
        obtain ⟨y0, hy0⟩ := idx_some SM hs i0 hia0 (by omega)
        obtain ⟨z0, hz0⟩ := idx_some SM hs (i0 + 1) (by omega) (by omega)
        have hu0 : IntKind.u32.wrap (i0 + 1) = i0 + 1 := IntWalk.u32_in _ ⟨by omega, by omega⟩
        go_region
        go_wp2
        go_name_world W1 hW1
        have hw1 : RowOk blk off n W1 := by rw [← hW1]; exact ((HR0.out.drew.set (6) _).set (5) _)
        have HB1 := Lib.hid (show Below blk w W1 by rw [← hW1]; exact ((HB0.out.drew.setCell (Nat.le_refl _) _).setCell (Nat.le_refl _) _))
        clear hW1 ca0 cb0 fa0 fb0 hia0 hib0 hy0 hz0 hu0 HR0 HB0
        have HR1 := Lib.hid hw1
        obtain ⟨⟨xa1, ca1⟩, fa1⟩ := hw1 (4) (by omega)
        obtain ⟨⟨xb1, cb1⟩, fb1⟩ := hw1 (3) (by omega)
        clear hw1
        go_name_slot 14 i1 hi1
        have hia1 : 0 ≤ i1 := by omega
        have hib1 : i1 ≤ 198 := by omega
        clear hi1
        obtain ⟨y1, hy1⟩ := idx_some SM hs i1 hia1 (by omega)
        obtain ⟨z1, hz1⟩ := idx_some SM hs (i1 + 1) (by omega) (by omega)
        have hu1 : IntKind.u32.wrap (i1 + 1) = i1 + 1 := IntWalk.u32_in _ ⟨by omega, by omega⟩
        go_region
        go_wp2
        go_name_world W2 hW2
        have hw2 : RowOk blk off n W2 := by rw [← hW2]; exact ((HR1.out.drew.set (4) _).set (3) _)
        have HB2 := Lib.hid (show Below blk w W2 by rw [← hW2]; exact ((HB1.out.drew.setCell (Nat.le_refl _) _).setCell (Nat.le_refl _) _))
        clear hW2 ca1 cb1 fa1 fb1 hia1 hib1 hy1 hz1 hu1 HR1 HB1
        have HR2 := Lib.hid hw2
        obtain ⟨⟨xa2, ca2⟩, fa2⟩ := hw2 (2) (by omega)
        obtain ⟨⟨xb2, cb2⟩, fb2⟩ := hw2 (1) (by omega)
        obtain ⟨⟨xc2, cc2⟩, fc2⟩ := hw2 0 (by omega)
        rw [Nat.add_zero] at cc2 fc2
        clear hw2
        go_name_slot 16 i2 hi2
        have hia2 : 0 ≤ i2 := by omega
        have hib2 : i2 ≤ 198 := by omega
        clear hi2
        obtain ⟨y2, hy2⟩ := idx_some SM hs i2 hia2 (by omega)
        obtain ⟨z2, hz2⟩ := idx_some SM hs (i2 + 1) (by omega) (by omega)
        have hu2 : IntKind.u32.wrap (i2 + 1) = i2 + 1 := IntWalk.u32_in _ ⟨by omega, by omega⟩
        go_region
        go_wp2
        go_end0
        exact ⟨rfl, (((HR2.out.drew.set 2 _).set 1 _).set 0 _), (((HB2.out.drew.setCell (Nat.le_refl _) _).setCell (Nat.le_refl _) _).setCell (Nat.le_refl _) _)⟩
end ErrC
end Go.Proofs.YtpmbokklpidohaaDoor
