/-
  One Read of both disks.
-/
import Derived.Test.YtpmbokklpidohaaGreatDoorDiskStands
import Derived.Deep.RegionHeld3
namespace Go.Proofs.YtpmbokklpidohaaGreatDoor
open Go.RowKit
namespace DiskC
open DiskM ErrC

theorem Below.drewN0 {B : Nat} {w w' : World} (h : Below B w w') (q : Nat) : Below B w (w'.drewN q) := ⟨h.os, h.tape, h.output, h.size, h.block⟩
set_option maxRecDepth 100000 in
set_option maxHeartbeats 4000000 in
theorem does_read {R : World → Nat → (Nat → Prop) → Int → DS → Prop} {B : Nat} (hD : Dev B R) {w : World} {b y : Nat} {F : Nat → Prop} {v : Value} {cut : Int} {s : DS} (name x : ByteArray) (N : Int)
    (h : Pair R w b F y v cut s B) (hg : Good s.fs) (hn : name.size ≤ 4611686018427387904) :
    Calls Tryz.prog 6 #[.pointer (some ⟨b, 0, none⟩), .pointer (some ⟨y, 0, none⟩), stepV 5 name x N] w (DoesE R b y B cut s w) := by
  have hah := h.ahead0 hD 5 name x N
  have c0 : (boxS 5 name x N w).cell? ⟨w.heap.size, 0, none⟩ = some (.int .i64 5) := (boxS_facts 5 name x N w).1
  have c1 := hah.nm
  have HA := Lib.hid hah
  have HD := Lib.hid hD
  have HG := Lib.hid hg
  clear h hah hD hg
  unfold stepV
  go_enter Tryz.func6, Tryz.ntmps6
  go_wp2_with fail
  refine (HD.out.read (w := boxS 5 name x N w) name HA.out.pair.rep HG.out HA.out.pair.vars).mono ?_
  rintro e w1 ⟨ev, rfl, he, hb⟩
  have d1 : w1.cell? ⟨w.heap.size, 1, none⟩ = some (.string name) := by rw [hb.cell (World.block_lt_of_cell? _ _ c1)]; exact c1
  have HP1 := Lib.hid (HA.out.pair.below HD.out hb)
  have HB1 := Lib.hid (HA.out.below.trans (hb.mono HA.out.pair.hw))
  have HE1 := Lib.hid he
  have HS1 := Lib.hid hb.size
  clear he hb
  go_wp2_with fail
  refine (HD.out.sized (w := w1) name HP1.out.rep HG.out HP1.out.vars).mono ?_
  rintro e w2 ⟨ev2, rfl, he, hb⟩
  have d2 : w2.cell? ⟨w.heap.size, 1, none⟩ = some (.string name) := by rw [hb.cell (World.block_lt_of_cell? _ _ d1)]; exact d1
  have HP2 := Lib.hid (HP1.out.below HD.out hb)
  have HB2 := Lib.hid (HB1.out.trans (hb.mono HP1.out.hw))
  have HE2 := Lib.hid he
  have HF2 := Lib.hid (HE1.out.keeps (Keeps.of_below (S := fun _ => False) hb) (fun _ h => h.elim))
  clear he hb
  go_wp2_with fail
  refine (dread_any y v cut name s w2 HP2.out.ref).mono ?_
  rintro e w3 ⟨rfl, q, rfl⟩
  have d3 : (w2.drewN q).drew.cell? ⟨w.heap.size, 1, none⟩ = some (.string name) := d2
  have HP3 := Lib.hid (HP2.out.below HD.out (below_drew w2 q))
  have HB3 := Lib.hid (HB2.out.trans ((below_drew w2 q).mono HP2.out.hw))
  have HE3 := Lib.hid (HF2.out.below (below_drew w2 q))
  have HF3 := Lib.hid (HE2.out.below (below_drew w2 q))
  have HC := Lib.hid (read_code name s)
  go_wp2_with fail
  have TK := Lib.hid trivial
  go_region_held3 (fun w' => w'.cell? ⟨w.heap.size, 1, none⟩ = some (.string name)) (first | exact d3 | assumption)
    (first
      | (go_at_call 15
         have _t := TK
         refine (is_derr HE3.out (by have := HC.out; omega) hn HP3.out.vars).mono ?_
         rintro e w4 ⟨rfl, hb⟩
         have d4 : w4.cell? ⟨w.heap.size, 1, none⟩ = some (.string name) := by rw [hb.cell (World.block_lt_of_cell? _ _ d3)]; exact d3
         have HP4 := Lib.hid (HP3.out.below HD.out hb)
         have HB4 := Lib.hid (HB3.out.trans (hb.mono HP3.out.hw))
         have HF4 := Lib.hid (HF3.out.below hb)
         have TK2 := Lib.hid trivial
         clear hb TK _t)
      | (go_at_call 15
         have _t := TK2
         refine (is_derr HF4.out (by have := HC.out; omega) hn HP4.out.vars).mono ?_
         rintro e w5 ⟨rfl, hb⟩
         have d5 : w5.cell? ⟨w.heap.size, 1, none⟩ = some (.string name) := by rw [hb.cell (World.block_lt_of_cell? _ _ d4)]; exact d4
         have HP5 := Lib.hid (HP4.out.below HD.out hb)
         have HB5 := Lib.hid (HB4.out.trans (hb.mono HP4.out.hw))
         clear hb TK2 _t)
      | (go_at_call 29
         first
           | (refine (HD.out.has (w := w5) name HP5.out.rep HG.out HP5.out.vars).mono ?_
              rintro e w6 ⟨rfl, hb⟩
              have d6 : w6.cell? ⟨w.heap.size, 1, none⟩ = some (.string name) := by rw [hb.cell (World.block_lt_of_cell? _ _ d5)]; exact d5
              have HP6 := Lib.hid (HP5.out.below HD.out hb)
              have HB6 := Lib.hid (HB5.out.trans (hb.mono HP5.out.hw))
              clear hb)
           | (refine (HD.out.has (w := w5.drewN q7) name HP7.out.rep HG.out HP7.out.vars).mono ?_
              rintro e w6 ⟨rfl, hb⟩
              have d6 : w6.cell? ⟨w.heap.size, 1, none⟩ = some (.string name) := by rw [hb.cell (World.block_lt_of_cell? _ _ d7)]; exact d7
              have HP6 := Lib.hid (HP7.out.below HD.out hb)
              have HB6 := Lib.hid (HB7.out.trans (hb.mono HP7.out.hw))
              clear hb))
      | (go_at_call 30
         first
           | (refine (dhas_any y v s.fs cut s.count s.dead name w6 HP6.out.ref).mono ?_
              rintro e w7 ⟨rfl, q7, rfl⟩
              have d7 : (w6.drewN q7).cell? ⟨w.heap.size, 1, none⟩ = some (.string name) := d6
              have HP7 := Lib.hid (HP6.out.below HD.out (Below.drewN0 (Below.refl _ _) q7))
              have HB7 := Lib.hid (HB6.out.trans (Below.mono (Below.drewN0 (Below.refl _ _) q7) HP6.out.hw)))
           | (refine (dhas_any y v s.fs cut s.count s.dead name w5 HP5.out.ref).mono ?_
              rintro e w7 ⟨rfl, q7, rfl⟩
              have d7 : (w5.drewN q7).cell? ⟨w.heap.size, 1, none⟩ = some (.string name) := d5
              have HP7 := Lib.hid (HP5.out.below HD.out (Below.drewN0 (Below.refl _ _) q7))
              have HB7 := Lib.hid (HB5.out.trans (Below.mono (Below.drewN0 (Below.refl _ _) q7) HP5.out.hw)))))
  all_goals
    go_wp2_with fail
    go_ret
    exact ⟨rfl, F, v, HP7.out, HB7.out⟩
end DiskC
end Go.Proofs.YtpmbokklpidohaaGreatDoor
