/-
  The statement of a payload at the bound, walked: bytes that are made one by one, both answers to Of.
-/
import Derived.Test.YtpmbokklpidohaaDoorFrameWalk
import Derived.Laws.MakeOwn
namespace Go.Proofs.YtpmbokklpidohaaDoor
open Go.RowKit
namespace FrameC
open FrameM TextR ErrC
open CodeM (byteV)

theorem byte_u8 {a : Int} (h : (Lit.int .u8 a).wf = true) : ∃ c : UInt8, a = (c.toNat : Int) := by
  simp [Lit.wf, IntKind.min, IntKind.max, IntKind.signed, IntKind.bits] at h
  exact ⟨UInt8.ofNat a.toNat, by rw [UInt8.toNat_ofNat_of_lt' (by show a.toNat < 256; omega)]; omega⟩
theorem and_low2 (a : Int) : bits .and .i64 a 3 = a % 4 := by
  show IntKind.i64.wrap ((BitVec.ofInt 64 a &&& BitVec.ofInt 64 3).toNat : Int) = _
  have e : (BitVec.ofInt 64 a &&& BitVec.ofInt 64 3).toNat = (BitVec.ofInt 64 a).toNat % 4 := by
    rw [BitVec.toNat_and]
    exact Nat.and_two_pow_sub_one_eq_mod _ 2
  rw [e, BitVec.toNat_ofInt, IntKind.wrap_i64]
  omega
theorem made_bytes (n : Nat) : madeCells (Value.int .u8 0).cells n = bytesV (List.replicate n 0) := by
  apply Array.ext
  · simp [madeCells, bytesV]
  · intro i h1 h2
    simp [madeCells, bytesV, byteV, Value.cells, Nat.mod_one]
/-- the first i of n bytes are written -/
def fill (c : UInt8) (n i : Nat) : List UInt8 := List.replicate i c ++ List.replicate (n - i) 0
theorem fill_length (c : UInt8) (n i : Nat) (h : i ≤ n) : (fill c n i).length = n := by simp [fill]; omega
theorem fill_set (c : UInt8) (n i : Nat) (h : i < n) : (fill c n i).set i c = fill c n (i + 1) := by
  unfold fill
  rw [List.set_append_right _ _ (by simp), List.length_replicate, Nat.sub_self, show n - i = (n - (i + 1)) + 1 by omega, List.replicate_succ, List.set_cons_zero, List.replicate_succ', List.append_assoc]
  rfl
theorem fill_zero (c : UInt8) (n : Nat) : fill c n 0 = List.replicate n 0 := by simp [fill]
theorem fill_all (c : UInt8) (n : Nat) : fill c n n = List.replicate n c := by simp [fill]

set_option maxHeartbeats 4000000 in
set_option maxRecDepth 100000 in
theorem long_any (more : Int) (c : UInt8) (w : World) (hv : Vars w) :
    Calls Tryd.prog 4 #[.int .i64 more, .int .u8 (c.toNat : Int)] w fun e w' => e = .returned (.bool true) ∧ Below w.heap.size w w' := by
  have HV := Lib.hid hv; clear hv
  obtain ⟨m, hm, hm4⟩ : ∃ m : Nat, more % 4 = (m : Int) ∧ m < 4 := ⟨(more % 4).toNat, by omega, by omega⟩
  have ha : bits .and .i64 more 3 = (m : Int) := by rw [and_low2]; exact hm
  obtain ⟨n, hn⟩ : ∃ n, n = 131071 + m := ⟨_, rfl⟩
  have hnm : (131072 + (m : Int) - 1) = (n : Int) := by omega
  obtain ⟨i0, hi, hz0, hz1, hz2⟩ := info_parts info_byte
  have hmk := run_make (P := Tryd.prog) w 32 5 i0 _ Tryd.underlying32 hi hz0 .i64 .i64 (n : Int) (n : Int) (by omega) (by omega) (by rw [hz2]; omega) (by omega)
  rw [Int.toNat_natCast, hz1, Nat.mul_one, made_bytes] at hmk
  have hnew := Lib.hid (heap_alloc_new w (.cells (bytesV (List.replicate n 0)) 5))
  have hB1 : Hid (Below w.heap.size w (w.alloc (.cells (bytesV (List.replicate n 0)) 5))) := Lib.hid ((Below.refl _ _).alloc (Nat.le_refl _) _)
  generalize w.alloc (.cells (bytesV (List.replicate n 0)) 5) = w1 at *
  have hn2 : n ≤ 131075 := by omega
  clear hm hn hz0 hz1 hz2 hi
  go_enter Tryd.func4, Tryd.ntmps4
  go_wp2_with fail
  go_loopw [7] (fun vi wr => ∃ i : Nat, i ≤ n ∧ vi = .int .i64 i ∧ Hid (wr.heap[w.heap.size]? = some (.cells (bytesV (fill c n i)) 5 (0, 0))) ∧ Hid (Below w.heap.size w wr)) (fun vi _ => n - (intOf vi).toNat)
  case atStart => exact ⟨0, Nat.zero_le _, rfl, by rw [fill_zero]; exact hnew, hB1⟩
  case round =>
    obtain ⟨i, hi, rfl, HR, HB⟩ := hrel
    rename World => wr
    by_cases hlt : i < n
    · have hdec : decide (i < n) = true := by simpa using hlt
      have hfl := fill_length c n i hi
      have hcell : wr.cell? ⟨w.heap.size, i, none⟩ = some (.int .u8 ((fill c n i)[i].toNat : Int)) := by
        rw [cell_of_row wr _ i _ _ _ HR.out]; exact bytesV_get _ _ (by omega)
      have hfr : wr.frozen? ⟨w.heap.size, i, none⟩ = false := by simp [World.frozen?, HR.out]
      have hset := row_set wr w.heap.size i (fill c n i) 5 c (by omega) HR.out
      rw [fill_set c n i hlt] at hset
      have HR2 : Hid ((wr.setCell ⟨w.heap.size, i, none⟩ (.int .u8 (c.toNat : Int))).heap[w.heap.size]? = some (.cells (bytesV (fill c n (i + 1))) 5 (0, 0))) := Lib.hid (by rw [hset]; exact setRow_heap _ _ _ _ _ _ HR.out)
      have HB2 : Hid (Below w.heap.size w (wr.setCell ⟨w.heap.size, i, none⟩ (.int .u8 (c.toNat : Int)))) := Lib.hid (HB.out.setCell (Nat.le_refl _) _)
      clear hset
      generalize (fill c n i)[i] = c0 at *
      go_wp2_with fail
      go_roundw
      case rel => exact ⟨i + 1, by omega, by go_num, HR2, HB2⟩
      case measure => simp [intOf]; omega
    · obtain rfl : i = n := by omega
      have hdec : decide (i < i) = false := by simp
      have hrow := HR.out
      rw [fill_all] at hrow
      have HROW := Lib.hid hrow
      have hrl : (List.replicate i c).length = i := List.length_replicate
      have h1 := Lib.hid (fun w => of_any (List.replicate i c) w (by omega))
      have h2 := Lib.hid (fun w => rof_is (List.replicate i c) w (by omega))
      have hcv := conv_any (List.replicate i c) [] w.heap.size i 5 wr (by rw [List.append_nil]; exact hrow)
      rw [hrl] at hcv
      have hc : Hid ((if 131072 < (List.replicate i c).length then 4 else 0) ≤ 100) := Lib.hid (by split <;> omega)
      have hlt1 : Hid (w.heap.size < wr.heap.size) := Lib.hid ((Array.getElem?_eq_some_iff.1 hrow).1)
      unfold OfE at h1
      have HCV := Lib.hid (fun (w2 : World) (h : w2.heap[w.heap.size]? = wr.heap[w.heap.size]?) => conv_any (List.replicate i c) [] w.heap.size i 5 w2 (by rw [List.append_nil, h]; exact hrow))
      rw [hrl] at HCV
      clear hrow hrl
      generalize (if 131072 < (List.replicate i c).length then 4 else 0) = k at *
      generalize (if 131072 < (List.replicate i c).length then [] else recB (List.replicate i c)) = R at *
      generalize List.replicate i c = p at *
      go_wp2_with fail
      refine (h1.out _).mono ?_
      rintro e w2 ⟨ev, rfl, he, hb⟩
      have hcv2 := HCV.out w2 (hb.block _ hlt1.out)
      have HB2 := Lib.hid (HB.out.trans (hb.mono HB.out.size)); clear hb
      have HE2 := Lib.hid he; clear he hcv
      go_wp2_with fail
      refine (h2.out _).mono ?_
      rintro e w3 ⟨rfl, hb⟩
      have HE3 := Lib.hid (HE2.out.below hb); clear HE2
      have HB3 := Lib.hid (HB2.out.trans (hb.mono HB2.out.size)); clear hb
      go_wp2_with fail
      refine (is_ferr HE3.out hc.out (by decide) (-1) (fun _ => rfl) (HV.out.below HB3.out)).mono ?_
      rintro e w4 ⟨rfl, hb⟩
      have HB4 := Lib.hid (HB3.out.trans (hb.mono HB3.out.size)); clear hb
      go_wp2_with fail
      refine (alive_any _ (HV.out.below HB4.out)).mono ?_
      rintro e w5 ⟨rfl, hb⟩
      have HB5 := Lib.hid (HB4.out.trans (hb.mono HB4.out.size)); clear hb
      go_wp2_with fail
      go_ret
      exact ⟨rfl, HB5.out⟩
end FrameC
end Go.Proofs.YtpmbokklpidohaaDoor
