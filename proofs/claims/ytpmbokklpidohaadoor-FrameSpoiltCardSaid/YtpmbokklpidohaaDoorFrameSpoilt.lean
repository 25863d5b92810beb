/-
  The statement of a record with one byte of its sum or its payload turned, walked.
-/
import Derived.Test.YtpmbokklpidohaaDoorFrameAlive
import Derived.Test.YtpmbokklpidohaaDoorBytesRow
namespace Go.Proofs.YtpmbokklpidohaaDoor
open Go.RowKit
namespace FrameC
open FrameM TextR ErrC
open SumM (and_low24 and_low8 lowByte lowByte_ne xor_byte xor_ne)

theorem of_long (p : List UInt8) (w : World) (hp : 131072 < p.length) (hl : p.length ≤ 4611686018427387000) :
    Calls Tryd.prog 8 #[.string (str p)] w fun e w' => ∃ f, e = .returned (.tuple #[.string (str []), .iface 60 (.pointer (some ⟨f, 0, none⟩))]) ∧ Below w.heap.size w w' := by
  refine (of_any p w hl).mono ?_
  rintro e w' ⟨ev, rfl, he, hb⟩
  rw [if_pos hp] at he
  rcases he with ⟨h, -⟩ | ⟨-, f, rfl, -, -⟩
  · exact absurd h (by decide)
  · exact ⟨f, by rw [if_pos hp], hb⟩

set_option maxHeartbeats 4000000 in
set_option maxRecDepth 100000 in
theorem spoilt_none (p : List UInt8) (at_ by_ : Int) (w : World) (hp : p.length ≤ 140737488351232) (h : 131072 < p.length ∨ by_ % 256 = 0) (hv : Vars w) :
    Calls Tryd.prog 7 #[.string (str p), .int .i64 at_, .int .i64 by_] w fun e w' => e = .returned (.bool true) ∧ Below w.heap.size w w' := by
  have HV := Lib.hid hv; clear hv
  have hsz := str_size p
  by_cases h0 : 131072 < p.length
  · have h1 := Lib.hid (fun w => of_long p w h0 (by omega))
    have ht : decide (131072 < (p.length : Int)) = true := by simp; omega
    clear h
    go_enter Tryd.func7, Tryd.ntmps7
    go_wp2_with fail
    refine (h1.out _).mono ?_
    rintro e w1 ⟨f, rfl, hb⟩
    have HB1 := Lib.hid hb; clear hb
    go_wp2_with fail
    refine (alive_any _ (HV.out.below HB1.out)).mono ?_
    rintro e w2 ⟨rfl, hb⟩
    have HB2 := Lib.hid (HB1.out.trans (hb.mono HB1.out.size)); clear hb
    go_wp2_with fail
    go_ret
    exact ⟨rfl, HB2.out⟩
  · have h1 := Lib.hid (fun w => of_ok p w (by omega))
    have h8 : by_ % 256 = 0 := h.resolve_left h0
    have ha := and_low8 by_
    have hz : (by_ % 256 == 0) = true := by simpa using h8
    clear h h8
    go_enter Tryd.func7, Tryd.ntmps7
    go_wp2_with fail
    refine (h1.out _).mono ?_
    rintro e w1 ⟨rfl, hb⟩
    have HB1 := Lib.hid hb; clear hb
    go_wp2_with fail
    refine (alive_any _ (HV.out.below HB1.out)).mono ?_
    rintro e w2 ⟨rfl, hb⟩
    have HB2 := Lib.hid (HB1.out.trans (hb.mono HB1.out.size)); clear hb
    go_wp2_with fail
    go_ret
    exact ⟨rfl, HB2.out⟩

set_option maxHeartbeats 4000000 in
set_option maxRecDepth 100000 in
theorem spoilt_some (p : List UInt8) (at_ by_ : Int) (w : World) (hp : p.length ≤ 131072) (h8 : ¬ by_ % 256 = 0) (hv : Vars w) :
    Calls Tryd.prog 7 #[.string (str p), .int .i64 at_, .int .i64 by_] w fun e w' => e = .returned (.bool true) ∧ Below w.heap.size w w' := by
  have HV := Lib.hid hv; clear hv
  have ha := and_low8 by_
  have hz : (by_ % 256 == 0) = false := by simpa using h8
  obtain ⟨q, hq⟩ : ∃ q : Nat, at_ % 16777216 = (q : Int) ∧ q < 16777216 := ⟨(at_ % 16777216).toNat, by omega, by omega⟩
  have hq2 : bits .and .i64 at_ 16777215 = (q : Int) := by rw [and_low24]; exact hq.1
  have hq3 := hq.2
  have h1 := Lib.hid (fun w => of_ok p w hp)
  have hrl := recB_length p
  obtain ⟨j, hj⟩ : ∃ j, j = q % (8 + p.length) := ⟨_, rfl⟩
  have hj8 : j < 8 + p.length := by rw [hj]; exact Nat.mod_lt _ (by omega)
  have hmod : (q : Int) % (12 + (p.length : Int) - 4) = (j : Int) := by rw [show (12 + (p.length : Int) - 4) = ((8 + p.length : Nat) : Int) by omega, hj]; rfl
  have hi : 4 + j < (recB p).length := by omega
  clear hj
  have hx := xor_byte (recB p)[4 + j] by_
  have hn := xor_ne (recB p)[4 + j] _ (lowByte_ne _ h8)
  have hE := front_spoilt p hp (4 + j) (by omega) hi _ hn
  have hsl : ((recB p).set (4 + j) ((recB p)[4 + j] ^^^ lowByte by_)).length ≤ 4611686018427387000 := by rw [List.length_set]; omega
  have h2 := Lib.hid (fun w => front_not _ 41 w hsl hE (by decide))
  clear hE hsl hq h8
  go_enter Tryd.func7, Tryd.ntmps7
  go_wp2_with fail
  refine (h1.out _).mono ?_
  rintro e w1 ⟨rfl, hb⟩
  have HB1 := Lib.hid hb; clear hb
  obtain ⟨cap, w2, hrun, hcell, hfr, hbel⟩ := SumC.bytes_new (str (recB p)) w1
  have hss := str_size (recB p)
  have hci := hcell (4 + j) (by rw [hss]; exact hi)
  have hfi := hfr (4 + j) (by rw [hss]; exact hi)
  change _ = some (Value.int .u8 ((recB p)[4 + j].toNat : Int)) at hci
  have hback := SumC.bytes_back (str (recB p)) w1.heap.size cap (4 + j) w2 ((recB p)[4 + j] ^^^ lowByte by_) (by rw [hss]; exact hi) hcell
  rw [hss, hrl] at hrun hback
  change _ = Result.ok (Value.string (str ((recB p).set (4 + j) ((recB p)[4 + j] ^^^ lowByte by_)))) _ at hback
  have HB2 := Lib.hid (HB1.out.trans (hbel.mono HB1.out.size))
  have hlt2 : w1.heap.size < w2.heap.size := World.block_lt_of_cell? _ _ hci
  generalize (recB p)[4 + j] ^^^ lowByte by_ = c at *
  generalize (recB p)[4 + j] = c0 at *
  generalize (recB p).set (4 + j) c = S at *
  clear hcell hfr hbel hn
  go_wp2_with fail
  have HB3 : Hid (Below w.heap.size w (w2.setCell ⟨w1.heap.size, 4 + j, none⟩ (.int .u8 (c.toNat : Int)))) := Lib.hid (HB2.out.setCell HB1.out.size _)
  generalize w2.setCell ⟨w1.heap.size, 4 + j, none⟩ (.int .u8 (c.toNat : Int)) = w3 at *
  refine (h2.out _).mono ?_
  rintro e w4 ⟨ev, rfl, he, hb⟩
  have HE4 := Lib.hid he; clear he
  have HB4 := Lib.hid (HB3.out.trans (hb.mono HB3.out.size)); clear hb
  have t1 : (str []).toList = [] := by rw [ByteArray.toList_eq]; rfl
  go_wp2_with fail
  refine (is_ferr HE4.out (by decide) (by decide) 0 (fun _ => rfl) (HV.out.below HB4.out)).mono ?_
  rintro e w5 ⟨rfl, hb⟩
  have HB5 := Lib.hid (HB4.out.trans (hb.mono HB4.out.size)); clear hb
  go_wp2_with fail
  refine (alive_any _ (HV.out.below HB5.out)).mono ?_
  rintro e w6 ⟨rfl, hb⟩
  have HB6 := Lib.hid (HB5.out.trans (hb.mono HB5.out.size)); clear hb
  go_wp2_with fail
  go_ret
  exact ⟨rfl, HB6.out⟩
end FrameC
end Go.Proofs.YtpmbokklpidohaaDoor
