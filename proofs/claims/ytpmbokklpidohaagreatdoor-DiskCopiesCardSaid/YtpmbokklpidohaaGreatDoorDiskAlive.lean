/-
  The statements' own 'alive' of layer 3.
-/
import Derived.Test.YtpmbokklpidohaaGreatDoorDiskR
namespace Go.Proofs.YtpmbokklpidohaaGreatDoor
open Go.RowKit
namespace DiskP
open DiskM DiskC ErrC

def nA : ByteArray := ⟨#[97]⟩
def nB : ByteArray := ⟨#[98]⟩
def x40 : ByteArray := ⟨#[48, 49, 50, 51, 52, 53, 54, 55, 56, 57, 48, 49, 50, 51, 52, 53, 54, 55, 56, 57, 48, 49, 50, 51, 52, 53, 54, 55, 56, 57, 48, 49, 50, 51, 52, 53, 54, 55, 56, 57]⟩
def xA : ByteArray := bytesF nA [] ++ x40.extract 0 (min x40.size 32)
theorem xA_size : xA.size = 32 := by unfold xA; rw [ByteArray.size_append, piece_size]; rfl
theorem alive1 : appendS 1 nA x40 ⟨[], 0, false⟩ = (5, ⟨layF nA xA [], 1, true⟩) := by
  have e : addsR 1 nA x40 ⟨[], 0, false⟩ = (false, ⟨layF nA xA [], 1, true⟩) := by
    show addsS 1 nA (40 + 1) x40 ⟨[], 0, false⟩ = _
    rw [addsS_more (by decide) (by decide)]
    exact addsS_no (by decide)
  unfold appendS
  rw [if_neg (by decide), if_neg (by decide), if_neg (by decide), e]
  rfl
theorem alive2 : readS nA ⟨layF nA xA [], 0, false⟩ = (xA, 0) := by
  unfold readS
  rw [if_neg (by decide), if_neg (by decide), if_neg (by rw [(has_lay nA xA []).1]; decide), (has_lay nA xA []).2]
theorem alive3 : removeS (-1) nB ⟨layF nA xA [], 0, false⟩ = (6, ⟨layF nA xA [], 0, false⟩) := by
  unfold removeS
  rw [if_neg (by decide), if_neg (by decide), if_pos]
  rw [(has_lay_other (n := nB) (m := nA) (by decide) Sorted.nil).1]
  rfl
theorem alive_good : DiskC.Good (layF nA xA []) := good_lay ⟨Nat.zero_le _, fun f h => by cases h⟩ (by decide) (by rw [xA_size]; omega)
theorem empty_good : DiskC.Good [] := ⟨Nat.zero_le _, fun f h => by cases h⟩
set_option maxRecDepth 100000 in
set_option maxHeartbeats 4000000 in
theorem alive_any (w : World) (hv : Vars w) : Calls Tryz.prog 14 #[] w fun e w' => e = .returned (.bool true) ∧ Below w.heap.size w w' := by
  have hD := disk_dev w.heap.size
  have HD := Lib.hid hD
  have HV := Lib.hid hv
  have HG := Lib.hid alive_good
  clear hD hv
  go_enter Tryz.func14, Tryz.ntmps14
  go_wp2_with fail
  refine (HD.out.new 1 (Nat.le_refl _)).mono ?_
  rintro e w1 ⟨b, F, rfl, hr, hb, hF⟩
  have HL := Lib.hid (show Ln w.heap.size (RP w.heap.size) w1 b F 1 ⟨[], 0, false⟩ from ⟨hr, hF, hb.size, HV.out.below hb, DiskC.Vars.g0 HV.out, DiskC.Vars.g1 HV.out⟩)
  have HB := Lib.hid hb
  clear hr hb hF
  go_wp2_with fail
  refine (HD.out.append nA x40 HL.out.rep empty_good (Nat.zero_le _) HL.out.vars).mono ?_
  rw [alive1]
  rintro e w2 ⟨ev, F2, rfl, he, hr, hk, hf⟩
  obtain ⟨hl, hb⟩ := HL.out.dev hr hk hf
  have HL2 := Lib.hid hl
  have HB2 := Lib.hid (HB.out.trans hb)
  have HE2 := Lib.hid he
  clear he hr hk hf hl hb
  go_wp2_with fail
  refine (HD.out.writes HL2.out.rep HG.out HL2.out.vars).mono ?_
  rintro e w3 ⟨rfl, hb⟩
  have HE3 := Lib.hid (HE2.out.keeps (Keeps.of_below (S := fun _ => False) hb) (fun _ h => h.elim))
  obtain ⟨hl, hb⟩ := HL2.out.below HD.out hb
  have HL3 := Lib.hid hl
  have HB3 := Lib.hid (HB2.out.trans hb)
  clear hl hb
  go_wp2_with fail
  refine (HD.out.restart (-1) HL3.out.rep HG.out HL3.out.vars).mono ?_
  rintro e w4 ⟨⟨ev4, F4, rfl, he, hr, hk, hf⟩, hkb⟩
  obtain rfl := nil_ev rfl he
  have hb1 : b < w1.heap.size := HD.out.lt HL.out.rep b (HD.out.own HL.out.rep)
  have HE4 := Lib.hid (HE3.out.keeps hkb (fun i e => by rw [e]; exact hb1))
  obtain ⟨hl, hb⟩ := HL3.out.dev hr hk hf
  have HL4 := Lib.hid hl
  have HB4 := Lib.hid (HB3.out.trans hb)
  clear he hr hk hf hl hb hkb hb1
  go_wp2_with fail
  refine (HD.out.sized nA HL4.out.rep HG.out HL4.out.vars).mono ?_
  rw [alive2]
  rintro e w5 ⟨ev5, rfl, he, hb⟩
  obtain rfl := nil_ev rfl he
  have HE5 := Lib.hid (HE4.out.keeps (Keeps.of_below (S := fun _ => False) hb) (fun _ h => h.elim))
  obtain ⟨hl, hb⟩ := HL4.out.below HD.out hb
  have HL5 := Lib.hid hl
  have HB5 := Lib.hid (HB4.out.trans hb)
  clear he hl hb
  rw [xA_size]
  go_wp2_with fail
  refine (is_derr HE5.out (by decide) (by decide) HL5.out.vars).mono ?_
  rintro e w6 ⟨rfl, hb⟩
  obtain ⟨hl, hb⟩ := HL5.out.below HD.out hb
  have HL6 := Lib.hid hl
  have HB6 := Lib.hid (HB5.out.trans hb)
  clear hl hb
  go_wp2_with fail
  refine (HD.out.remove nB HL6.out.rep HG.out (Nat.zero_le _) HL6.out.vars).mono ?_
  rw [alive3]
  rintro e w7 ⟨ev7, F7, rfl, he, hr, hk, hf⟩
  obtain ⟨hl, hb⟩ := HL6.out.dev hr hk hf
  have HL7 := Lib.hid hl
  have HB7 := Lib.hid (HB6.out.trans hb)
  have HE7 := Lib.hid he
  clear he hr hk hf hl hb
  go_wp2_with fail
  refine (is_derr HE7.out (by decide) (by decide) HL7.out.vars).mono ?_
  rintro e w8 ⟨rfl, hb⟩
  have HB8 := Lib.hid (HB7.out.trans (hb.mono HL7.out.hw))
  clear hb
  go_wp2_with fail
  go_ret
  exact ⟨rfl, HB8.out⟩
end DiskP
end Go.Proofs.YtpmbokklpidohaaGreatDoor
