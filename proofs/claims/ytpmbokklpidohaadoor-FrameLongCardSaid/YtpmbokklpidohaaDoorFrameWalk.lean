/-
  The statements of layer 4 on one payload: its record, and a payload at the bound.
-/
import Derived.Test.YtpmbokklpidohaaDoorFrameAlive
namespace Go.Proofs.YtpmbokklpidohaaDoor
open Go.RowKit
namespace FrameC
open FrameM TextR ErrC

/-- both answers to Of -/
theorem rof_is (p : List UInt8) (w : World) (hp : p.length ≤ 4611686018427387000) :
    Calls Tryd.prog 9 #[.string (str p)] w fun e w' => e = .returned (.tuple #[.string (str (if 131072 < p.length then [] else recB p)), .int .i64 ((if 131072 < p.length then 4 else 0 : Nat) : Int)]) ∧ Below w.heap.size w w' := by
  refine (rofp_any p w hp).mono ?_
  rintro e w' ⟨rfl, hb⟩
  refine ⟨?_, hb⟩
  unfold ofEnd
  split <;> rfl

set_option maxHeartbeats 4000000 in
set_option maxRecDepth 100000 in
theorem ofs_any (p : List UInt8) (w : World) (hp : p.length ≤ 140737488351232) (hv : Vars w) :
    Calls Tryd.prog 3 #[.string (str p)] w fun e w' => e = .returned (.bool true) ∧ Below w.heap.size w w' := by
  have HV := Lib.hid hv; clear hv
  have h1 := Lib.hid (fun w => of_any p w (by omega))
  have h2 := Lib.hid (fun w => rof_is p w (by omega))
  have hc : Hid ((if 131072 < p.length then 4 else 0) ≤ 100) := Lib.hid (by split <;> omega)
  unfold OfE at h1
  generalize (if 131072 < p.length then 4 else 0) = c at *
  generalize (if 131072 < p.length then [] else recB p) = R at *
  go_enter Tryd.func3, Tryd.ntmps3
  go_wp2_with fail
  refine (h1.out _).mono ?_
  rintro e w1 ⟨ev, rfl, he, hb⟩
  have HB1 := Lib.hid hb; clear hb
  have HE1 := Lib.hid he; clear he
  go_wp2_with fail
  refine (h2.out _).mono ?_
  rintro e w2 ⟨rfl, hb⟩
  have HE2 := Lib.hid (HE1.out.below hb); clear HE1
  have HB2 := Lib.hid (HB1.out.trans (hb.mono HB1.out.size)); clear hb
  go_wp2_with fail
  refine (is_ferr HE2.out hc.out (by decide) (-1) (fun _ => rfl) (HV.out.below HB2.out)).mono ?_
  rintro e w3 ⟨rfl, hb⟩
  have HB3 := Lib.hid (HB2.out.trans (hb.mono HB2.out.size)); clear hb
  go_wp2_with fail
  refine (size_any p _ (by omega)).mono ?_
  rintro e w4 ⟨rfl, rfl⟩
  go_wp2_with fail
  refine (rsize_any p _ (by omega)).mono ?_
  rintro e w5 ⟨rfl, rfl⟩
  go_wp2_with fail
  refine (alive_any _ (HV.out.below HB3.out)).mono ?_
  rintro e w6 ⟨rfl, hb⟩
  have HB6 := Lib.hid (HB3.out.trans (hb.mono HB3.out.size)); clear hb
  go_wp2_with fail
  go_ret
  exact ⟨rfl, HB6.out⟩
end FrameC
end Go.Proofs.YtpmbokklpidohaaDoor
