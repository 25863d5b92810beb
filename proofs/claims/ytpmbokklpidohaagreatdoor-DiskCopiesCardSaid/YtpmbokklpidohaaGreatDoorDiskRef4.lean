/-
  The document's own disk of layer 3: pieces behind what is there.
-/
import Derived.Test.YtpmbokklpidohaaGreatDoorDiskRef3
import Derived.Deep.RegionWith
namespace Go.Proofs.YtpmbokklpidohaaGreatDoor
open Go.RowKit
namespace DiskC
open DiskM

theorem front_at (s : ByteArray) (q : Nat) (h : q ≤ s.size) (w : World) : (Instr.slice 9 (.string s) none (some (.int .i64 (q : Int))) none).run Tryz.prog w = .ok (.string (s.extract 0 q)) w := by
  rw [run_slice_string_h w 9 s Tryz.underlying9 .i64 (q : Int) (by omega) (by omega)]
  rfl
theorem back_at (s : ByteArray) (k : Nat) (h : k ≤ s.size) (w : World) : (Instr.slice 9 (.string s) (some (.int .i64 (k : Int))) none none).run Tryz.prog w = .ok (.string (s.extract k s.size)) w := by
  rw [run_slice_string_l w 9 s Tryz.underlying9 .i64 (k : Int) (by omega) (by omega)]
  rfl
theorem adds_at (a b : ByteArray) (h : a.size + b.size ≤ 4611686018427387904) (w : World) : (Op.stringOp .add a b).run Tryz.prog w = .ok (.string (a ++ b)) w := run_string_add_sum (P := Tryz.prog) w a b (by omega)
def strLen : Value → Nat
  | .string s => s.size
  | _ => 0
theorem no_rest (x : ByteArray) : (x.extract x.size x.size).toList = [] ∧ (x.extract x.size x.size).toList.isEmpty = true := by
  have e : (x.extract x.size x.size).toList = [] := by rw [ByteArray.toList_eq, Lib.extract_to_end]; simp
  exact ⟨e, by rw [e]; rfl⟩
theorem some_rest (x : ByteArray) (h : 32 < x.size) : (x.extract 32 x.size).toList.isEmpty = false := by
  rw [ByteArray.toList_eq, Lib.extract_to_end]
  have : 0 < (x.data.toList.drop 32).length := by rw [List.length_drop, Array.length_toList]; show 0 < x.size - 32; omega
  cases e : x.data.toList.drop 32 with
  | nil => rw [e] at this; cases this
  | cons a r => rfl

theorem Laid.drewN {w w' : World} {b : Nat} {v v' : Value} {fs : FL} {cut count : Int} {dead : Bool} (h : Laid w w' b v v' fs cut count dead) (q : Nat) : Laid w (w'.drewN q) b v v' fs cut count dead := ⟨h.dsk.drewN q, h.keeps.drewN q, h.row⟩
theorem all_front (x : ByteArray) : x.extract 0 x.size = x := by
  apply ByteArray.ext
  apply Array.toList_inj.1
  rw [Lib.extract_to_end]; simp
theorem front_all (x : ByteArray) (w : World) : (Instr.slice 9 (.string x) none (some (.int .i64 (x.size : Int))) none).run Tryz.prog w = .ok (.string x) w := by
  rw [front_at x x.size (Nat.le_refl _), all_front]
/-- the answer of pieces: whole, or the power is lost -/
def AddsE (b : Nat) (v : Value) (cut : Int) (r : Bool × DS) (w : World) (e : Ending) (w' : World) : Prop :=
  e = .returned (.int .i64 (code5 r.1)) ∧ ∃ v', Laid w w' b v v' r.2.fs cut r.2.count r.2.dead

set_option maxHeartbeats 8000000 in
set_option maxRecDepth 100000 in
theorem dadds_any (b : Nat) (v : Value) (cut : Int) (name x0 : ByteArray) (s0 : DS) (w : World) (h : IsDsk w b v s0.fs cut s0.count s0.dead) (hm : room name s0.fs ≤ 1048576) (hz : (bytesF name s0.fs).size + x0.size ≤ 1099511627776) (hc : s0.count + x0.size ≤ 1099511627776) :
    Calls Tryz.prog 47 #[.pointer (some ⟨b, 0, none⟩), .string name, .string x0] w (AddsE b v cut (addsR cut name x0 s0) w) := by
  have hbw := h.lt
  have HD := Lib.hid (Laid.refl h); clear h
  have HM := Lib.hid hm; clear hm
  generalize hR : addsR cut name x0 s0 = R
  have HR := Lib.hid hR; clear hR
  go_enter Tryz.func47, Tryz.ntmps47
  go_wp2_with fail
  go_loopw [2] (fun vx wr => ∃ (x : ByteArray) (s : DS) (u : Value) (k : Nat), vx = .string x ∧ x.size < k ∧ Hid (addsS cut name k x s = R) ∧ Hid (Laid w wr b v u s.fs cut s.count s.dead) ∧ Hid (room name s.fs = room name s0.fs) ∧ Hid ((bytesF name s.fs).size + x.size ≤ 1099511627776) ∧ Hid (s.count + x.size ≤ 1099511627777)) (fun vx _ => strLen vx)
  case atStart => exact ⟨x0, s0, v, x0.size + 1, rfl, Nat.lt_succ_self _, HR, HD, Lib.hid rfl, Lib.hid hz, Lib.hid (by omega)⟩
  case round =>
    clear hz hc HD HR
    obtain ⟨x, s, u, k, rfl, hk, HA, HL, HRM, HZ, HC⟩ := hrel
    rename World => wr
    obtain ⟨k', rfl⟩ : ∃ k', k = k' + 1 := ⟨k - 1, by omega⟩
    have hxs : x.size ≤ 1099511627776 := by have := HZ.out; omega
    by_cases hx : x.size ≤ 32
    · have hd : decide (32 < x.size) = false := by simpa using hx
      by_cases hr : rawB cut s.count s.dead = true
      · have HN := Lib.hid ((addsS_last (name := name) (k := k') hr hx).trans (by rw [Nat.min_eq_left hx, all_front]))
        have HRF := Lib.hid hr
        clear hr
        go_wp2_with fail
        refine (draw_yes b u s.fs cut s.count s.dead _ HL.out.dsk (by omega) (by have := HC.out; omega) HRF.out).mono ?_
        rintro e w1 ⟨rfl, hd1, hk1⟩
        have HD1 := Lib.hid hd1
        have HL1 := Lib.hid (show Laid w w1 b v u s.fs cut ((s.count : Int) + 1) s.dead from ⟨hd1, HL.out.keeps.then hk1 (fun i hi e => Or.inl e), HL.out.row⟩)
        have hlen : s.fs.length ≤ 1048576 := by have := len_room name s.fs; have := HRM.out; have := HM.out; omega
        have HLEN := Lib.hid hlen
        have hfr := front_all x
        have had := adds_at (bytesF name s.fs) x (by have := HZ.out; omega)
        have HBK := Lib.hid (back_at x x.size (by omega))
        clear hd1 hk1 hlen
        go_wp2_with fail
        go_region_with (first
          | (go_at_call 46; refine (dbytes_any b u s.fs cut ((s.count : Int) + 1) s.dead name _ ?_).mono ?_; exact HD1.out.drewN 1; rintro e w' ⟨rfl, q, rfl⟩)
          | (go_at_call 51; refine (dlay_any b u s.fs cut ((s.count : Int) + 1) s.dead name _ _ ?_ ?_).mono ?_; exact HD1.out.drewN _; exact HLEN.out; rintro e w2 ⟨rfl, u2, hl2⟩; have HL2 := Lib.hid ((HL1.out.drewN _).trans hl2 hbw); clear hl2))
        all_goals
          have hbk := HBK.out
          obtain ⟨r1, r2⟩ := no_rest x
          go_wp2_with fail
          go_ret
          rw [← HA.out, HN.out]
          exact ⟨rfl, u2, by have := HL2.out; simpa using this⟩
      · have HN := Lib.hid (addsS_no (name := name) (x := x) (s := s) (k := k') (cut := cut) (by simpa using hr))
        have hrf : rawB cut s.count s.dead = false := by simpa using hr
        have HRF := Lib.hid hrf
        clear hr hrf
        go_wp2_with fail
        refine (draw_no b u s.fs cut s.count s.dead _ HL.out.dsk HRF.out).mono ?_
        rintro e w1 ⟨rfl, hd1, hk1⟩
        have HD1 := Lib.hid hd1
        have HK1 := Lib.hid hk1
        clear hd1 hk1
        go_wp2_with fail
        go_ret
        rw [← HA.out, HN.out]
        exact ⟨rfl, u, HD1.out, HL.out.keeps.then HK1.out (fun i hi e => Or.inl e), HL.out.row⟩
    · have hd : decide (32 < x.size) = true := by simpa using hx
      have hx2 : 32 < x.size := by omega
      by_cases hr : rawB cut s.count s.dead = true
      · have HN := Lib.hid (addsS_more (name := name) (k := k') hr hx)
        have HRF := Lib.hid hr
        clear hr
        go_wp2_with fail
        refine (draw_yes b u s.fs cut s.count s.dead _ HL.out.dsk (by omega) (by have := HC.out; omega) HRF.out).mono ?_
        rintro e w1 ⟨rfl, hd1, hk1⟩
        have HD1 := Lib.hid hd1
        have HL1 := Lib.hid (show Laid w w1 b v u s.fs cut ((s.count : Int) + 1) s.dead from ⟨hd1, HL.out.keeps.then hk1 (fun i hi e => Or.inl e), HL.out.row⟩)
        have hlen : s.fs.length ≤ 1048576 := by have := len_room name s.fs; have := HRM.out; have := HM.out; omega
        have HLEN := Lib.hid hlen
        have hfr := front_at x 32 (by omega)
        have had := adds_at (bytesF name s.fs) (x.extract 0 32) (by have := HZ.out; rw [ByteArray.size_extract]; omega)
        have HBK := Lib.hid (back_at x 32 (by omega))
        clear hd1 hk1 hlen
        go_wp2_with fail
        go_region_with (first
          | (go_at_call 46; refine (dbytes_any b u s.fs cut ((s.count : Int) + 1) s.dead name _ ?_).mono ?_; exact HD1.out.drewN 1; rintro e w' ⟨rfl, q, rfl⟩)
          | (go_at_call 51; refine (dlay_any b u s.fs cut ((s.count : Int) + 1) s.dead name _ _ ?_ ?_).mono ?_; exact HD1.out.drewN _; exact HLEN.out; rintro e w2 ⟨rfl, u2, hl2⟩; have HL2 := Lib.hid ((HL1.out.drewN _).trans hl2 hbw); clear hl2))
        all_goals
          have hbk := HBK.out
          have r2 := some_rest x hx2
          go_wp2_with fail
          go_roundw
          case rel => exact ⟨x.extract 32 x.size, ⟨layF name (bytesF name s.fs ++ x.extract 0 (min x.size 32)) s.fs, s.count + 1, s.dead⟩, u2, k', rfl, by rw [rest_size]; omega, Lib.hid (by rw [← HA.out, HN.out]), Lib.hid (by have := HL2.out; rw [Nat.min_eq_right (by omega)]; simpa using this), Lib.hid (by rw [room_lay]; exact HRM.out), Lib.hid (by rw [(has_lay _ _ _).2, ByteArray.size_append, piece_size, rest_size]; have := HZ.out; omega), Lib.hid (by rw [rest_size]; have := HC.out; show s.count + 1 + (x.size - 32) ≤ _; omega)⟩
          case measure => simp [strLen]; omega
      · have HN := Lib.hid (addsS_no (name := name) (x := x) (s := s) (k := k') (cut := cut) (by simpa using hr))
        have hrf : rawB cut s.count s.dead = false := by simpa using hr
        have HRF := Lib.hid hrf
        clear hr hrf
        go_wp2_with fail
        refine (draw_no b u s.fs cut s.count s.dead _ HL.out.dsk HRF.out).mono ?_
        rintro e w1 ⟨rfl, hd1, hk1⟩
        have HD1 := Lib.hid hd1
        have HK1 := Lib.hid hk1
        clear hd1 hk1
        go_wp2_with fail
        go_ret
        rw [← HA.out, HN.out]
        exact ⟨rfl, u, HD1.out, HL.out.keeps.then HK1.out (fun i hi e => Or.inl e), HL.out.row⟩
end DiskC
end Go.Proofs.YtpmbokklpidohaaGreatDoor
