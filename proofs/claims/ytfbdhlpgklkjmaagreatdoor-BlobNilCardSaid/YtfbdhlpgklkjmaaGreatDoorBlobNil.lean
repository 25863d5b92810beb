/-
  The law of no store (BlobNil).
-/
import Derived.Test.YtfbdhlpgklkjmaaGreatDoorBlobVars
namespace Go.Proofs.YtfbdhlpgklkjmaaGreatDoor
open Go.RowKit Go.Sort
namespace BlobC
open BlobM PathM DiskM DiskC ErrC PathC StrC TextR
open VerM (B)
open DiskP (RP disk_dev)
set_option linter.unusedSimpArgs false
set_option linter.unusedVariables false

theorem put_nilZ (bytes : ByteArray) (w : World) : Calls Tryz.prog 10 #[.pointer none, .string bytes] w (FaultE 1 (fun ev => .tuple #[zV, ev]) w) := put_nil bytes w
theorem find_nilZ (bytes : ByteArray) (w : World) : Calls Tryz.prog 15 #[.pointer none, .string bytes] w fun e w' => e = .returned (.tuple #[zV, .bool false]) ∧ Below w.heap.size w w' := find_nil bytes w
set_option maxHeartbeats 8000000 in
set_option maxRecDepth 100000 in
theorem nil_any (x : Bl) (t : ByteArray) (w : World) (hv : VarsB w) : Calls Tryz.prog 5 #[bV x, .string t] w fun e w' => e = .returned (.bool true) ∧ Below w.heap.size w w' := by
  obtain ⟨x0, x1⟩ := b_cells (heap_alloc_new w (bO x))
  have HB0 := Lib.hid (alB w (bO x))
  have heq := eq_z
  have HV := Lib.hid hv
  clear hv
  go_enter Tryz.func5, Tryz.ntmps5
  go_wp2_with fail
  refine (open_nil _).mono ?_
  rintro e w1 ⟨ev1, rfl, hd1, hb1⟩
  have HD1 := Lib.hid hd1
  have HB1 := Lib.hid (chainB HB0.out hb1)
  have y0 := (hb1.cell (World.block_lt_of_cell? _ _ x0)).trans x0
  have y1 := (hb1.cell (World.block_lt_of_cell? _ _ x1)).trans x1
  clear hd1 hb1 x0 x1 HB0
  go_wp2_with fail
  refine (put_nilZ t _).mono ?_
  rintro e w2 ⟨ev2, rfl, hd2, hb2⟩
  have hb2a := chainB hb2 (alB w2 zO)
  have HD1a := Lib.hid (derr_below HD1.out hb2a)
  have HD2 := Lib.hid (derr_below hd2 (alB w2 zO))
  have HB2 := Lib.hid (chainB HB1.out hb2a)
  have x0 := (hb2a.cell (World.block_lt_of_cell? _ _ y0)).trans y0
  have x1 := (hb2a.cell (World.block_lt_of_cell? _ _ y1)).trans y1
  obtain ⟨p0, p1⟩ := z_cells (heap_alloc_new w2 zO)
  clear hd2 hb2 hb2a y0 y1 HB1 HD1
  go_wp2_with fail
  refine (get_nil x _).mono ?_
  rintro e w3 ⟨ev3, rfl, hd3, hb3⟩
  have HD1 := Lib.hid (derr_below HD1a.out hb3)
  have HD2b := Lib.hid (derr_below HD2.out hb3)
  have HD3 := Lib.hid hd3
  have HB3 := Lib.hid (chainB HB2.out hb3)
  have y0 := (hb3.cell (World.block_lt_of_cell? _ _ x0)).trans x0
  have y1 := (hb3.cell (World.block_lt_of_cell? _ _ x1)).trans x1
  have q0 := (hb3.cell (World.block_lt_of_cell? _ _ p0)).trans p0
  have q1 := (hb3.cell (World.block_lt_of_cell? _ _ p1)).trans p1
  clear hd3 hb3 x0 x1 p0 p1 HB2 HD1a HD2
  go_wp2_with fail
  refine (find_nilZ t _).mono ?_
  rintro e w4 ⟨rfl, hb4⟩
  have hb4a := chainB hb4 (alB w4 zO)
  have HD1a := Lib.hid (derr_below HD1.out hb4a)
  have HD2a := Lib.hid (derr_below HD2b.out hb4a)
  have HD3a := Lib.hid (derr_below HD3.out hb4a)
  have HB4 := Lib.hid (chainB HB3.out hb4a)
  have x0 := (hb4a.cell (World.block_lt_of_cell? _ _ y0)).trans y0
  have x1 := (hb4a.cell (World.block_lt_of_cell? _ _ y1)).trans y1
  have p0 := (hb4a.cell (World.block_lt_of_cell? _ _ q0)).trans q0
  have p1 := (hb4a.cell (World.block_lt_of_cell? _ _ q1)).trans q1
  obtain ⟨r0, r1⟩ := z_cells (heap_alloc_new w4 zO)
  clear hb4 hb4a y0 y1 q0 q1 HB3 HD1 HD2b HD3
  go_wp2_with fail
  refine (keep_nil _ _).mono ?_
  rintro e w5 ⟨ev4, rfl, hd5, hb5⟩
  have hb5a := chainB (alB (w4.alloc zO) (bO x)) hb5
  have HE1 := Lib.hid (derr_below HD1a.out hb5a)
  have HE2 := Lib.hid (derr_below HD2a.out hb5a)
  have HE3 := Lib.hid (derr_below HD3a.out hb5a)
  have HE4 := Lib.hid hd5
  have HB5 := Lib.hid (chainB HB4.out hb5a)
  have q0 := (hb5a.cell (World.block_lt_of_cell? _ _ p0)).trans p0
  have q1 := (hb5a.cell (World.block_lt_of_cell? _ _ p1)).trans p1
  have s0 := (hb5a.cell (World.block_lt_of_cell? _ _ r0)).trans r0
  have s1 := (hb5a.cell (World.block_lt_of_cell? _ _ r1)).trans r1
  clear hd5 hb5 hb5a x0 x1 p0 p1 r0 r1 HB4 HD1a HD2a HD3a
  have HI : Hid (∀ ev w0, DErr w0 w5 ev 1 ⟨#[]⟩ → ∀ W, Below w5.heap.size w5 W → Calls Tryz.prog 13 #[ev, .int .i64 1, .string ⟨#[]⟩, .int .i64 (-1)] W fun e w' => e = .returned (.bool true) ∧ Below W.heap.size W w') := Lib.hid (fun ev w0 hde W hb => is_derr (derr_below hde hb) (by decide) (by decide) ((HV.out.below HB5.out).below hb).vars)
  go_wp2_with fail
  refine (HI.out _ _ HE1.out _ (Below.refl _ _)).mono ?_
  rintro e w6 ⟨rfl, hb6⟩
  have HB6 := Lib.hid hb6
  have p0 := (hb6.cell (World.block_lt_of_cell? _ _ q0)).trans q0
  have p1 := (hb6.cell (World.block_lt_of_cell? _ _ q1)).trans q1
  have r0 := (hb6.cell (World.block_lt_of_cell? _ _ s0)).trans s0
  have r1 := (hb6.cell (World.block_lt_of_cell? _ _ s1)).trans s1
  clear hb6 q0 q1 s0 s1
  go_wp2_with fail
  refine (HI.out _ _ HE2.out _ HB6.out).mono ?_
  rintro e w7 ⟨rfl, hb7⟩
  have HB7 := Lib.hid (chainB HB6.out hb7)
  have s0 := (hb7.cell (World.block_lt_of_cell? _ _ r0)).trans r0
  have s1 := (hb7.cell (World.block_lt_of_cell? _ _ r1)).trans r1
  clear hb7 p0 p1 r0 r1 HB6
  go_wp2_with fail
  refine (HI.out _ _ HE3.out _ HB7.out).mono ?_
  rintro e w8 ⟨rfl, hb8⟩
  have HB8 := Lib.hid (chainB HB7.out hb8)
  have r0 := (hb8.cell (World.block_lt_of_cell? _ _ s0)).trans s0
  have r1 := (hb8.cell (World.block_lt_of_cell? _ _ s1)).trans s1
  clear hb8 s0 s1 HB7
  go_wp2_with fail
  refine (HI.out _ _ HE4.out _ HB8.out).mono ?_
  rintro e w9 ⟨rfl, hb9⟩
  have HB9 := Lib.hid (chainB HB8.out hb9)
  clear hb9 r0 r1 HB8
  go_wp2_with fail
  refine (all_nil _).mono ?_
  rintro e w' ⟨rfl, rfl⟩
  go_wp2_with fail
  refine (alive_any _ ((HV.out.below HB5.out).below HB9.out)).mono ?_
  rintro e wa ⟨rfl, hba⟩
  have HBA := Lib.hid (chainB (chainB HB5.out HB9.out) hba)
  clear hba
  go_wp2_with fail
  go_ret
  exact ⟨rfl, HBA.out⟩
end BlobC
end Go.Proofs.YtfbdhlpgklkjmaaGreatDoor
