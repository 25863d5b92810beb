/-
  Both disks have the same files: the same names, the same texts.
  Both disks have the same files: to ask it writes nothing that was there (not only nothing below the disks).
-/
import Derived.Test.YtpmbokklpidohaaGreatDoorDiskDoes2
import Derived.Test.YtpmbokklpidohaaGreatDoorDiskStands
import Derived.Test.YtpmbokklpidohaaGreatDoorDiskAlive
namespace Go.Proofs.YtpmbokklpidohaaGreatDoor
open Go.RowKit
namespace DiskP
open DiskM DiskC ErrC

theorem rp_form {B : Nat} {w : World} {b : Nat} {F : Nat → Prop} {cut : Int} {s : DS} (h : RP B w b F cut s) : May s.fs ∧ Sorted s.fs := by
  obtain ⟨⟨m, D, vals, hD⟩, hm⟩ := h
  exact ⟨hm, hD.files.sorted⟩
theorem read_told {s : DS} (hm : May s.fs) (hs : Sorted s.fs) (i : Nat) (hi : i < (namesS s).length) : s.dead = false ∧ (readS (namesS s)[i] s).2 = 0 := by
  have hd : s.dead = false := by
    cases e : s.dead with
    | false => rfl
    | true => exfalso; unfold namesS at hi; rw [if_pos e] at hi; exact Nat.not_lt_zero _ hi
  have hn : namesS s = s.fs.map (·.1) := by unfold namesS; rw [if_neg (by rw [hd]; decide)]
  have hmem : (namesS s)[i] ∈ s.fs.map (·.1) := by rw [← hn]; exact List.getElem_mem hi
  obtain ⟨f, hf, e⟩ := List.mem_map.1 hmem
  refine ⟨hd, ?_⟩
  unfold readS
  rw [if_neg (by rw [← e, hm f hf]; decide), if_neg (by rw [hd]; decide), if_neg (by rw [(has_mem hs).2 ⟨f, hf, e⟩]; decide)]
/-- a row of texts at a block's head -/
def RowAt (w : World) (g : Nat) (L : List ByteArray) : Prop := ∀ i (hi : i < L.length), w.cell? ⟨g, i, none⟩ = some (.string L[i])
theorem RowAt.below {w w' : World} {g : Nat} {L : List ByteArray} (h : RowAt w g L) (hb : Below w.heap.size w w') : RowAt w' g L := fun i hi => by rw [hb.cell (World.block_lt_of_cell? _ _ (h i hi))]; exact h i hi
set_option maxRecDepth 100000 in
set_option maxHeartbeats 8000000 in
theorem stands_any {B : Nat} {w : World} {b y : Nat} {F : Nat → Prop} {v : Value} {cut : Int} {s : DS} (h : Pair (RP B) w b F y v cut s B) (hg : DiskC.Good s.fs) :
    Calls Tryz.prog 10 #[.pointer (some ⟨b, 0, none⟩), .pointer (some ⟨y, 0, none⟩)] w (DoesE (RP B) b y B cut s w) := by
  have HD := Lib.hid (disk_dev B)
  have HG := Lib.hid hg
  have hlen : (namesS s).length ≤ 65536 := by unfold namesS; split; exact Nat.zero_le _; rw [List.length_map]; exact hg.1
  obtain ⟨hm, hs⟩ := rp_form h.rep
  have HT := Lib.hid (read_told hm hs)
  have HP := Lib.hid h
  clear h hg hm hs
  go_enter Tryz.func10, Tryz.ntmps10
  go_wp2_with fail
  refine (HD.out.names HP.out.rep HG.out HP.out.vars).mono ?_
  rintro e w1 ⟨u1, rfl, ho1, hb1⟩
  obtain ⟨a1, c1, rfl, hr1⟩ := ho1.open_
  have HP1 := Lib.hid (HP.out.below HD.out hb1)
  have HB1 := Lib.hid (hb1.mono HP.out.hw)
  clear ho1 hb1 HP
  go_wp2_with fail
  refine (dnames_any y v cut s w1 HP1.out.ref HG.out.1).mono ?_
  rintro e w2 ⟨u2, rfl, ho2, hb2⟩
  obtain ⟨a2, c2, rfl, hr2⟩ := ho2.open_
  have HP2 := Lib.hid (HP1.out.below HD.out hb2)
  have HB2 := Lib.hid (HB1.out.trans (hb2.mono HP1.out.hw))
  have hrows : 0 < (namesS s).length → ∃ g1 g2, a1 = some ⟨g1, 0, none⟩ ∧ a2 = some ⟨g2, 0, none⟩ ∧ RowAt w2 g1 (namesS s) ∧ RowAt w2 g2 (namesS s) := by
    intro hl
    obtain ⟨g1, e1, -, -, k1⟩ := hr1 hl
    obtain ⟨g2, e2, -, -, k2⟩ := hr2 hl
    exact ⟨g1, g2, e1, e2, RowAt.below k1 hb2, k2⟩
  clear hr1 hr2 ho2 hb2 HP1 HB1
  generalize hL : namesS s = L at *
  by_cases h0 : L.length = 0
  · have HZ := Lib.hid h0
    clear hrows hL
    rw [h0]
    go_wp2_with fail
    refine wp_loop_rounds 1 ?_; rw [rounds_succ]; go_wp2_with fail
    go_ret
    exact ⟨rfl, F, v, HP2.out, HB2.out⟩
  · obtain ⟨g1, g2, rfl, rfl, k1, k2⟩ := hrows (by omega)
    have HK1 := Lib.hid k1
    have HK2 := Lib.hid k2
    clear hrows k1 k2 hL h0
    go_wp2_with fail
    go_loopw [7] (fun vi wr => ∃ i : Nat, vi = .int .i64 i ∧ i ≤ L.length ∧ Hid (Pair (RP B) wr b F y v cut s B) ∧ Hid (Below B w wr) ∧ Hid (RowAt wr g1 L) ∧ Hid (RowAt wr g2 L)) (fun vi _ => L.length + 1 - (intOf vi).toNat)
    case atStart => exact ⟨0, rfl, Nat.zero_le _, HP2, HB2, HK1, HK2⟩
    case round =>
      obtain ⟨i, rfl, hi, HPR, HBR, HR1, HR2⟩ := hrel
      rename World => wr
      clear HP2 HB2 HK1 HK2
      by_cases hlt : i < L.length
      · have hdec : decide (i < L.length) = true := by simpa using hlt
        have c1 := HR1.out i hlt
        have c2 := HR2.out i hlt
        have HZ := Lib.hid (HT.out i hlt).2
        have hnx : wrap64 ((i : Int) + 1) = ((i + 1 : Nat) : Int) := by unfold wrap64; omega
        have HIN := Lib.hid (show i + 1 ≤ L.length from hlt)
        have hme : L.length + 1 - (i + 1) < L.length + 1 - i := by omega
        have hwi : IntKind.i64.wrap (i : Int) = (i : Int) := IntWalk.i64_in _ ⟨by omega, by omega⟩
        have hbi1 : (i : Int) < (L.length : Int) := by omega
        generalize hnm : L[i] = nm at *
        clear hnm
        clear hi
        go_wp2_with fail
        refine (HD.out.read (w := wr) nm HPR.out.rep HG.out HPR.out.vars).mono ?_
        rintro e w3 ⟨ev, rfl, he, hb3⟩
        have HP3 := Lib.hid (HPR.out.below HD.out hb3)
        have HB3 := Lib.hid (HBR.out.trans (hb3.mono HPR.out.hw))
        have HR13 := Lib.hid (HR1.out.below hb3)
        have HR23 := Lib.hid (HR2.out.below hb3)
        have d1 : w3.cell? ⟨g1, i, none⟩ = some (.string nm) := by rw [hb3.cell (World.block_lt_of_cell? _ _ c1)]; exact c1
        have d2 : w3.cell? ⟨g2, i, none⟩ = some (.string nm) := by rw [hb3.cell (World.block_lt_of_cell? _ _ c2)]; exact c2
        have hz : (((readS nm s).2 : Nat) : Int) = 0 := by rw [HZ.out]; rfl
        have hev : ev = .nilIface := by
          rcases he with ⟨-, e⟩ | ⟨h0, -⟩
          · exact e
          · exact absurd HZ.out h0
        subst hev
        clear he hb3 c1 c2 HPR HBR HR1 HR2
        go_wp2_with fail
        refine (dread_any y v cut nm s w3 HP3.out.ref).mono ?_
        rintro e w4 ⟨rfl, q, rfl⟩
        rw [hz]
        generalize (readS nm s).1 = tx
        clear hz HZ
        go_wp2_with fail
        go_quiet (fail)
        go_wp2_with fail
        go_roundw
        case measure => simp [intOf]; omega
        exact ⟨i + 1, rfl, HIN.out, Lib.hid (HP3.out.below HD.out ⟨rfl, rfl, rfl, Nat.le_refl _, fun _ _ => rfl⟩), Lib.hid (HB3.out.trans ⟨rfl, rfl, rfl, Nat.le_refl _, fun _ _ => rfl⟩), Lib.hid HR13.out, Lib.hid HR23.out⟩
      · have hdec : decide (i < L.length) = false := by simpa using hlt
        clear hlt hi
        go_wp2_with fail
        go_ret
        exact ⟨rfl, F, v, HPR.out, HBR.out⟩
end DiskP
end Go.Proofs.YtpmbokklpidohaaGreatDoor
namespace Go.Proofs.YtpmbokklpidohaaGreatDoor
open Go.RowKit
namespace DiskP
open DiskM DiskC ErrC

set_option maxRecDepth 100000 in
set_option maxHeartbeats 8000000 in
theorem stands_low {B : Nat} {w : World} {b y : Nat} {F : Nat → Prop} {v : Value} {cut : Int} {s : DS} (h : Pair (RP B) w b F y v cut s B) (hg : DiskC.Good s.fs) :
    Calls Tryz.prog 10 #[.pointer (some ⟨b, 0, none⟩), .pointer (some ⟨y, 0, none⟩)] w fun e w' => e = .returned (.bool true) ∧ Below w.heap.size w w' := by
  have HD := Lib.hid (disk_dev B)
  have HG := Lib.hid hg
  have hlen : (namesS s).length ≤ 65536 := by unfold namesS; split; exact Nat.zero_le _; rw [List.length_map]; exact hg.1
  obtain ⟨hm, hs⟩ := rp_form h.rep
  have HT := Lib.hid (read_told hm hs)
  have HP := Lib.hid h
  clear h hg hm hs
  go_enter Tryz.func10, Tryz.ntmps10
  go_wp2_with fail
  refine (HD.out.names HP.out.rep HG.out HP.out.vars).mono ?_
  rintro e w1 ⟨u1, rfl, ho1, hb1⟩
  obtain ⟨a1, c1, rfl, hr1⟩ := ho1.open_
  have HP1 := Lib.hid (HP.out.below HD.out hb1)
  have HB1 := Lib.hid hb1
  clear ho1 hb1 HP
  go_wp2_with fail
  refine (dnames_any y v cut s w1 HP1.out.ref HG.out.1).mono ?_
  rintro e w2 ⟨u2, rfl, ho2, hb2⟩
  obtain ⟨a2, c2, rfl, hr2⟩ := ho2.open_
  have HP2 := Lib.hid (HP1.out.below HD.out hb2)
  have HB2 := Lib.hid (HB1.out.trans (hb2.mono HB1.out.size))
  have hrows : 0 < (namesS s).length → ∃ g1 g2, a1 = some ⟨g1, 0, none⟩ ∧ a2 = some ⟨g2, 0, none⟩ ∧ RowAt w2 g1 (namesS s) ∧ RowAt w2 g2 (namesS s) := by
    intro hl
    obtain ⟨g1, e1, -, -, k1⟩ := hr1 hl
    obtain ⟨g2, e2, -, -, k2⟩ := hr2 hl
    exact ⟨g1, g2, e1, e2, RowAt.below k1 hb2, k2⟩
  clear hr1 hr2 ho2 hb2 HP1 HB1
  generalize hL : namesS s = L at *
  by_cases h0 : L.length = 0
  · have HZ := Lib.hid h0
    clear hrows hL
    rw [h0]
    go_wp2_with fail
    refine wp_loop_rounds 1 ?_; rw [rounds_succ]; go_wp2_with fail
    go_ret
    exact ⟨rfl, HB2.out⟩
  · obtain ⟨g1, g2, rfl, rfl, k1, k2⟩ := hrows (by omega)
    have HK1 := Lib.hid k1
    have HK2 := Lib.hid k2
    clear hrows k1 k2 hL h0
    go_wp2_with fail
    go_loopw [7] (fun vi wr => ∃ i : Nat, vi = .int .i64 i ∧ i ≤ L.length ∧ Hid (Pair (RP B) wr b F y v cut s B) ∧ Hid (Below w.heap.size w wr) ∧ Hid (RowAt wr g1 L) ∧ Hid (RowAt wr g2 L)) (fun vi _ => L.length + 1 - (intOf vi).toNat)
    case atStart => exact ⟨0, rfl, Nat.zero_le _, HP2, HB2, HK1, HK2⟩
    case round =>
      obtain ⟨i, rfl, hi, HPR, HBR, HR1, HR2⟩ := hrel
      rename World => wr
      clear HP2 HB2 HK1 HK2
      by_cases hlt : i < L.length
      · have hdec : decide (i < L.length) = true := by simpa using hlt
        have c1 := HR1.out i hlt
        have c2 := HR2.out i hlt
        have HZ := Lib.hid (HT.out i hlt).2
        have hnx : wrap64 ((i : Int) + 1) = ((i + 1 : Nat) : Int) := by unfold wrap64; omega
        have HIN := Lib.hid (show i + 1 ≤ L.length from hlt)
        have hme : L.length + 1 - (i + 1) < L.length + 1 - i := by omega
        have hwi : IntKind.i64.wrap (i : Int) = (i : Int) := IntWalk.i64_in _ ⟨by omega, by omega⟩
        have hbi1 : (i : Int) < (L.length : Int) := by omega
        generalize hnm : L[i] = nm at *
        clear hnm
        clear hi
        go_wp2_with fail
        refine (HD.out.read (w := wr) nm HPR.out.rep HG.out HPR.out.vars).mono ?_
        rintro e w3 ⟨ev, rfl, he, hb3⟩
        have HP3 := Lib.hid (HPR.out.below HD.out hb3)
        have HB3 := Lib.hid (HBR.out.trans (hb3.mono HBR.out.size))
        have HR13 := Lib.hid (HR1.out.below hb3)
        have HR23 := Lib.hid (HR2.out.below hb3)
        have d1 : w3.cell? ⟨g1, i, none⟩ = some (.string nm) := by rw [hb3.cell (World.block_lt_of_cell? _ _ c1)]; exact c1
        have d2 : w3.cell? ⟨g2, i, none⟩ = some (.string nm) := by rw [hb3.cell (World.block_lt_of_cell? _ _ c2)]; exact c2
        have hz : (((readS nm s).2 : Nat) : Int) = 0 := by rw [HZ.out]; rfl
        have hev : ev = .nilIface := by
          rcases he with ⟨-, e⟩ | ⟨h0, -⟩
          · exact e
          · exact absurd HZ.out h0
        subst hev
        clear he hb3 c1 c2 HPR HBR HR1 HR2
        go_wp2_with fail
        refine (dread_any y v cut nm s w3 HP3.out.ref).mono ?_
        rintro e w4 ⟨rfl, q, rfl⟩
        rw [hz]
        generalize (readS nm s).1 = tx
        clear hz HZ
        go_wp2_with fail
        go_quiet (fail)
        go_wp2_with fail
        go_roundw
        case measure => simp [intOf]; omega
        exact ⟨i + 1, rfl, HIN.out, Lib.hid (HP3.out.below HD.out ⟨rfl, rfl, rfl, Nat.le_refl _, fun _ _ => rfl⟩), Lib.hid (HB3.out.trans ⟨rfl, rfl, rfl, Nat.le_refl _, fun _ _ => rfl⟩), Lib.hid HR13.out, Lib.hid HR23.out⟩
      · have hdec : decide (i < L.length) = false := by simpa using hlt
        clear hlt hi
        go_wp2_with fail
        go_ret
        exact ⟨rfl, HBR.out⟩
end DiskP
end Go.Proofs.YtpmbokklpidohaaGreatDoor
