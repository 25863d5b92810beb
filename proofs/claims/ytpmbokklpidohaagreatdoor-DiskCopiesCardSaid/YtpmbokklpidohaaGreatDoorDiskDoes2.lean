/-
  One call of both disks, the rest: Restart, Rename.
-/
import Derived.Test.YtpmbokklpidohaaGreatDoorDiskDoes
namespace Go.Proofs.YtpmbokklpidohaaGreatDoor
open Go.RowKit
namespace DiskC
open DiskM ErrC

theorem Pair.ahead0 {R : World → Nat → (Nat → Prop) → Int → DS → Prop} {B : Nat} (hD : Dev B R) {w : World} {b y : Nat} {F : Nat → Prop} {v : Value} {cut : Int} {s : DS} (D : Int) (name x : ByteArray) (N : Int) (h : Pair R w b F y v cut s B) :
    Ahead R w (boxS D name x N w) b F y v cut s B name x N := by
  obtain ⟨-, c1, c2, c3, hb, hz0⟩ := boxS_facts D name x N w
  exact ⟨h.below hD hb, hb.mono h.hw, hD.lt h.rep, foot_lt h.ref, hz0, c1, c2, c3⟩
set_option maxRecDepth 100000 in
set_option maxHeartbeats 4000000 in
theorem does_restart {R : World → Nat → (Nat → Prop) → Int → DS → Prop} {B : Nat} (hD : Dev B R) {w : World} {b y : Nat} {F : Nat → Prop} {v : Value} {cut : Int} {s : DS} (name x : ByteArray) (N : Int)
    (h : Pair R w b F y v cut s B) (hg : Good s.fs) :
    Calls Tryz.prog 6 #[.pointer (some ⟨b, 0, none⟩), .pointer (some ⟨y, 0, none⟩), stepV 6 name x N] w (DoesE R b y B N ⟨s.fs, 0, false⟩ w) := by
  have hah := h.ahead0 hD 6 name x N
  have c0 : (boxS 6 name x N w).cell? ⟨w.heap.size, 0, none⟩ = some (.int .i64 6) := (boxS_facts 6 name x N w).1
  have c3 := hah.num
  have HA := Lib.hid hah
  have HD := Lib.hid hD
  have HG := Lib.hid hg
  clear h hah hD hg
  unfold stepV
  go_enter Tryz.func6, Tryz.ntmps6
  go_wp2_with fail
  refine (drestart_any y v cut N s (boxS 6 name x N w) HA.out.pair.ref).mono ?_
  rintro e w1 ⟨rfl, hl⟩
  have hm := HA.out.pair.ref1 (s1 := ⟨s.fs, 0, false⟩) HD.out hl
  have c4 : w1.cell? ⟨w.heap.size, 3, none⟩ = some (.int .i64 N) := hl.keeps.cellAt c3 (fun hF => by have := HA.out.ltY _ hF; omega)
  have HM := Lib.hid hm
  clear hl hm
  go_wp2_with fail
  refine (HD.out.restart (w := w1) N HM.out.1.rep HG.out HM.out.1.vars).mono ?_
  rintro e w2 ⟨⟨ev, F1, rfl, he, hr, hk, hf⟩, -⟩
  rcases he with ⟨-, rfl⟩ | ⟨h0, -⟩
  · have HT := Lib.hid (HM.out.1.dev hr hk hf)
    clear hr hk hf
    go_wp2_with fail
    go_ret
    exact ⟨rfl, F1, v, HT.out.1, (HA.out.below.trans HM.out.2).trans HT.out.2⟩
  · exact absurd rfl h0

theorem rename_code (cut : Int) (a c : ByteArray) (s : DS) : (renameS cut a c s).1 ≤ 6 := by
  unfold renameS
  repeat' split
  all_goals simp
set_option maxRecDepth 100000 in
set_option maxHeartbeats 4000000 in
theorem does_rename {R : World → Nat → (Nat → Prop) → Int → DS → Prop} {B : Nat} (hD : Dev B R) {w : World} {b y : Nat} {F : Nat → Prop} {v : Value} {cut : Int} {s : DS} (name x : ByteArray) (N : Int)
    (h : Pair R w b F y v cut s B) (hg : Good s.fs) (hc : s.count ≤ 549755813888) (hn : (renameS cut name x s).2.1.size ≤ 4611686018427387904) :
    Calls Tryz.prog 6 #[.pointer (some ⟨b, 0, none⟩), .pointer (some ⟨y, 0, none⟩), stepV 3 name x N] w (DoesE R b y B cut (renameS cut name x s).2.2 w) := by
  have hah := h.ahead0 hD 3 name x N
  have c0 : (boxS 3 name x N w).cell? ⟨w.heap.size, 0, none⟩ = some (.int .i64 3) := (boxS_facts 3 name x N w).1
  have c1 := hah.nm
  have c2 := hah.tx
  have HA := Lib.hid hah
  have HD := Lib.hid hD
  have HG := Lib.hid hg
  have HF : Hid (Fit s) := Lib.hid ⟨hg.1, hg.2, hc⟩
  have HC := Lib.hid (rename_code cut name x s)
  clear h hah hD hg hc
  unfold stepV
  go_enter Tryz.func6, Tryz.ntmps6
  go_wp2_with fail
  refine (HD.out.rename (w := boxS 3 name x N w) name x HA.out.pair.rep HG.out HF.out.count HA.out.pair.vars).mono ?_
  rintro e w1 ⟨ev, F1, rfl, he, hr, hk, hf⟩
  have hm := HA.out.dev he hr hk hf
  have d1 := hm.nm
  have d2 := hm.tx
  have HM := Lib.hid hm
  clear he hr hk hf hm
  go_wp2_with fail
  refine (drename_any y v cut name x s w1 HM.out.half.ref HF.out).mono ?_
  rintro e w2 ⟨rfl, v2, hl⟩
  have HL := Lib.hid (HM.out.ref_ HD.out hl)
  clear hl
  go_wp2_with fail
  refine (is_derr HL.out.err (by have := HC.out; omega) hn HL.out.pair.vars).mono ?_
  rintro e w3 ⟨rfl, hb3⟩
  have HB3 := Lib.hid hb3
  clear hb3
  go_wp2_with fail
  go_ret
  exact ⟨rfl, F1, v2, HL.out.pair.below HD.out HB3.out, HL.out.below.trans (HB3.out.mono HL.out.pair.hw)⟩
end DiskC
end Go.Proofs.YtpmbokklpidohaaGreatDoor
