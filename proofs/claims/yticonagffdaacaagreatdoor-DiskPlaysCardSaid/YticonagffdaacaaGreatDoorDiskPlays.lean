/-
  Every script of calls: DiskPlays.
-/
import Derived.Test.YticonagffdaacaaGreatDoorDiskStp
import Derived.Deep.RegionWith
namespace Go.Proofs.YticonagffdaacaaGreatDoor
open Go.RowKit
namespace DiskP
open DiskM DiskC ErrC

set_option maxRecDepth 100000 in
set_option maxHeartbeats 8000000 in
theorem plays_some (cut : Int) (g o cap : Nat) (L : List Stp) (w : World) (h0 : 0 < L.length) (hg : g < w.heap.size) (hs : Steps w g o L) (hv : Vars w) :
    Calls Tryz.prog 3 #[.int .i64 cut, .slice (some ⟨g, o, none⟩) L.length cap] w fun e w' => e = .returned (.bool true) ∧ Below w.heap.size w w' := by
  have HD := Lib.hid (disk_dev w.heap.size)
  have HV := Lib.hid hv
  have HS := Lib.hid hs
  have HGG := Lib.hid hg
  have H0 := Lib.hid h0
  clear hv hs hg h0
  go_enter Tryz.func3, Tryz.ntmps3
  go_wp2_with fail
  refine (HD.out.new cut (Nat.le_refl _)).mono ?_
  rintro e w1 ⟨b, F, rfl, hr, hb, hF⟩
  have HN := Lib.hid (fun w2 h2 => pair_new (w2 := w2) rfl HV.out hr hb hF h2)
  clear hr hb hF
  go_wp2_with fail
  refine (dnew_any cut w1).mono ?_
  rintro e w2 ⟨rfl, h2⟩
  have HP := Lib.hid (HN.out w2 h2).1
  have HB := Lib.hid (HN.out w2 h2).2
  clear HN h2
  generalize w1.heap.size = y at *
  clear w1
  go_wp2_with fail
  go_loopw [7] (fun vi wr => ∃ (i : Nat) (F : Nat → Prop) (v : Value) (cut1 : Int) (s : DS), vi = .int .i64 i ∧ i ≤ L.length ∧ i ≤ 120 ∧ Hid (Pair (RP w.heap.size) wr b F y v cut1 s w.heap.size) ∧ Hid (Below w.heap.size w wr) ∧ Hid (DiskC.Good s.fs ∧ s.count ≤ 16400 * i)) (fun vi _ => 121 - (intOf vi).toNat)
  case atStart => exact ⟨0, F, _, cut, _, rfl, Nat.zero_le _, by omega, HP, HB, Lib.hid ⟨empty_good, Nat.zero_le _⟩⟩
  case round =>
    obtain ⟨i, F, v, cut1, s, rfl, hi, hi2, HPR, HBR, HGR⟩ := hrel
    rename World => wr
    clear HP HB
    have HEND : Hid (Calls Tryz.prog 10 #[.pointer (some ⟨b, 0, none⟩), .pointer (some ⟨y, 0, none⟩)] wr (DoesE (RP w.heap.size) b y w.heap.size cut1 s wr)) := Lib.hid (stands_any HPR.out HGR.out.1)
    by_cases hlt : i < L.length
    · by_cases h120 : i < 120
      · have hdec : decide (i < L.length) = true := by simpa using hlt
        have hdec2 : decide ((i : Int) < 120) = true := by simpa using (by omega : (i : Int) < 120)
        have hb := (HS.out i hlt).1.below HBR.out HGG.out
        have HF := Lib.hid (HS.out i hlt).2
        have c2 := hb.c2
        have HC := Lib.hid hb
        have hnx : wrap64 ((i : Int) + 1) = ((i + 1 : Nat) : Int) := by unfold wrap64; omega
        have hme : 121 - (i + 1) < 121 - i := by omega
        have hwi : IntKind.i64.wrap (i : Int) = (i : Int) := IntWalk.i64_in _ ⟨by omega, by omega⟩
        have hbi1 : (i : Int) < (L.length : Int) := by omega
        have hxs := HF.out.text
        have HI1 := Lib.hid (show i + 1 ≤ L.length ∧ i + 1 ≤ 120 from ⟨hlt, h120⟩)
        clear HEND hb
        generalize L[i] = t at *
        clear hi hi2
        have HPD : Hid (Pair (RP w.heap.size) wr.drew b F y v cut1 s w.heap.size) := Lib.hid (HPR.out.below HD.out ⟨rfl, rfl, rfl, Nat.le_refl _, fun _ _ => rfl⟩)
        have HBD : Hid (Below w.heap.size w wr.drew) := Lib.hid (HBR.out.trans ⟨rfl, rfl, rfl, Nat.le_refl _, fun _ _ => rfl⟩)
        by_cases hx : 16384 < t.x.size
        · have hdx : decide (16384 < (t.x.size : Int)) = true := by simpa using (by omega : (16384 : Int) < (t.x.size : Int))
          go_wp2_with fail
          refine ⟨⟨i + 1, F, v, cut1, s, rfl, HI1.out.1, HI1.out.2, HPR, HBR, Lib.hid ⟨HGR.out.1, by have := HGR.out.2; omega⟩⟩, ?_⟩
          simp [intOf]; omega
        · have hdx : decide (16384 < (t.x.size : Int)) = false := by simpa using (by omega : ¬ (16384 : Int) < (t.x.size : Int))
          have HDO := Lib.hid (does_any t.D t.name t.x t.N HPD.out HGR.out.1 (by have := HGR.out.2; omega) HF.out.name (by omega) HF.out.num)
          have HPG := Lib.hid (play_good (cut := cut1) (D := t.D) (name := t.name) (x := t.x) (N := t.N) HGR.out.1)
          generalize playS cut1 t.D t.name t.x t.N s = ps at *
          obtain ⟨cut2, s2⟩ := ps
          have hs2 : Hid (DiskC.Good s2.fs ∧ s2.count ≤ 16400 * (i + 1)) := Lib.hid ⟨HPG.out.1, by have h1 := HPG.out.2; have h2 := HGR.out.2; dsimp only at h1; omega⟩
          clear HPG HGR HPR HBR
          have c0 := HC.out.c0
          have c1 := HC.out.c1
          have c3 := HC.out.c3
          obtain ⟨D, name, x, N⟩ := t
          dsimp only at *
          generalize hq : o + i * 4 = p at *
          go_wp2_with fail
          go_region_with
            (first
              | (go_at_call 7
                 refine HDO.out.mono ?_
                 rintro e w3 ⟨rfl, F3, v3, hp, hb⟩
                 have d0 : w3.cell? ⟨g, p, none⟩ = some (.int .i64 D) := by rw [hb.cell HGG.out]; exact c0
                 have d1 : w3.cell? ⟨g, p + 1, none⟩ = some (.string name) := by rw [hb.cell HGG.out]; exact c1
                 have d2 : w3.cell? ⟨g, p + 2, none⟩ = some (.string x) := by rw [hb.cell HGG.out]; exact c2
                 have d3 : w3.cell? ⟨g, p + 3, none⟩ = some (.int .i64 N) := by rw [hb.cell HGG.out]; exact c3
                 have k2 : w3.cell? ⟨y, 2, none⟩ = some (.int .i64 s2.count) := hp.ref.count
                 have k3 : w3.cell? ⟨y, 3, none⟩ = some (.bool s2.dead) := hp.ref.dead
                 have HP3 := Lib.hid hp
                 have HB3 := Lib.hid (HBD.out.trans hb)
                 clear hp hb)
              | (go_at_call 8
                 refine (HD.out.dead HP3.out.rep hs2.out.1 HP3.out.vars).mono ?_
                 rintro e w4 ⟨rfl, hb⟩
                 have e0 : w4.cell? ⟨g, p, none⟩ = some (.int .i64 D) := by rw [hb.cell (World.block_lt_of_cell? _ _ d0)]; exact d0
                 have e1 : w4.cell? ⟨g, p + 1, none⟩ = some (.string name) := by rw [hb.cell (World.block_lt_of_cell? _ _ d1)]; exact d1
                 have e2 : w4.cell? ⟨g, p + 2, none⟩ = some (.string x) := by rw [hb.cell (World.block_lt_of_cell? _ _ d2)]; exact d2
                 have e3 : w4.cell? ⟨g, p + 3, none⟩ = some (.int .i64 N) := by rw [hb.cell (World.block_lt_of_cell? _ _ d3)]; exact d3
                 have HP4 := Lib.hid (HP3.out.below HD.out hb)
                 have HB4 := Lib.hid (HB3.out.trans (hb.mono HP3.out.hw))
                 have l2 : w4.cell? ⟨y, 2, none⟩ = some (.int .i64 s2.count) := HP4.out.ref.count
                 have l3 : w4.cell? ⟨y, 3, none⟩ = some (.bool s2.dead) := HP4.out.ref.dead
                 clear hb)
              | (go_at_call 9
                 refine (HD.out.writes HP4.out.rep hs2.out.1 HP4.out.vars).mono ?_
                 rintro e w5 ⟨rfl, hb⟩
                 have f0 : w5.cell? ⟨g, p, none⟩ = some (.int .i64 D) := by rw [hb.cell (World.block_lt_of_cell? _ _ e0)]; exact e0
                 have f1 : w5.cell? ⟨g, p + 1, none⟩ = some (.string name) := by rw [hb.cell (World.block_lt_of_cell? _ _ e1)]; exact e1
                 have f2 : w5.cell? ⟨g, p + 2, none⟩ = some (.string x) := by rw [hb.cell (World.block_lt_of_cell? _ _ e2)]; exact e2
                 have f3 : w5.cell? ⟨g, p + 3, none⟩ = some (.int .i64 N) := by rw [hb.cell (World.block_lt_of_cell? _ _ e3)]; exact e3
                 have HP5 := Lib.hid (HP4.out.below HD.out hb)
                 have HB5 := Lib.hid (HB4.out.trans (hb.mono HP4.out.hw))
                 have m2 : w5.cell? ⟨y, 2, none⟩ = some (.int .i64 s2.count) := HP5.out.ref.count
                 have m3 : w5.cell? ⟨y, 3, none⟩ = some (.bool s2.dead) := HP5.out.ref.dead
                 clear hb))
          all_goals
            go_wp2_with fail
            go_roundw
            case measure => simp [intOf]; omega
            exact ⟨i + 1, F3, v3, cut2, s2, rfl, HI1.out.1, HI1.out.2, HP5, HB5, hs2⟩
      · have hdec : decide (i < L.length) = true := by simpa using hlt
        have hdec2 : decide ((i : Int) < 120) = false := by simpa using (by omega : ¬ (i : Int) < 120)
        go_wp2_with fail
        refine HEND.out.mono ?_
        rintro e w5 ⟨rfl, F5, v5, hp, hb⟩
        have HP5 := Lib.hid hp
        have HB5 := Lib.hid (HBR.out.trans hb)
        clear hp hb HEND
        go_wp2_with fail
        refine (alive_any w5 HP5.out.vars).mono ?_
        rintro e w6 ⟨rfl, hb⟩
        have HB6 := Lib.hid (HB5.out.trans (hb.mono HP5.out.hw))
        clear hb
        go_wp2_with fail
        go_ret
        exact ⟨rfl, HB6.out⟩
    · have hdec : decide (i < L.length) = false := by simpa using hlt
      go_wp2_with fail
      refine HEND.out.mono ?_
      rintro e w5 ⟨rfl, F5, v5, hp, hb⟩
      have HP5 := Lib.hid hp
      have HB5 := Lib.hid (HBR.out.trans hb)
      clear hp hb HEND
      go_wp2_with fail
      refine (alive_any w5 HP5.out.vars).mono ?_
      rintro e w6 ⟨rfl, hb⟩
      have HB6 := Lib.hid (HB5.out.trans (hb.mono HP5.out.hw))
      clear hb
      go_wp2_with fail
      go_ret
      exact ⟨rfl, HB6.out⟩
theorem plays_none (cut : Int) (a : Option Addr) (cap : Nat) (w : World) (hv : Vars w) :
    Calls Tryz.prog 3 #[.int .i64 cut, .slice a 0 cap] w fun e w' => e = .returned (.bool true) ∧ Below w.heap.size w w' := by
  have HD := Lib.hid (disk_dev w.heap.size)
  have HV := Lib.hid hv
  clear hv
  go_enter Tryz.func3, Tryz.ntmps3
  go_wp2_with fail
  refine (HD.out.new cut (Nat.le_refl _)).mono ?_
  rintro e w1 ⟨b, F, rfl, hr, hb, hF⟩
  have HN := Lib.hid (fun w2 h2 => pair_new (w2 := w2) rfl HV.out hr hb hF h2)
  clear hr hb hF
  go_wp2_with fail
  refine (dnew_any cut w1).mono ?_
  rintro e w2 ⟨rfl, h2⟩
  have HP := Lib.hid (HN.out w2 h2).1
  have HB := Lib.hid (HN.out w2 h2).2
  clear HN h2
  generalize w1.heap.size = y at *
  clear w1
  go_wp2_with fail
  refine wp_loop_rounds 1 ?_; rw [rounds_succ]; go_wp2_with fail
  refine (stands_any HP.out empty_good).mono ?_
  rintro e w5 ⟨rfl, F5, v5, hp, hb⟩
  have HP5 := Lib.hid hp
  have HB5 := Lib.hid (HB.out.trans hb)
  clear hp hb
  go_wp2_with fail
  refine (alive_any w5 HP5.out.vars).mono ?_
  rintro e w6 ⟨rfl, hb⟩
  have HB6 := Lib.hid (HB5.out.trans (hb.mono HP5.out.hw))
  clear hb
  go_wp2_with fail
  go_ret
  exact ⟨rfl, HB6.out⟩
end DiskP
end Go.Proofs.YticonagffdaacaaGreatDoor
