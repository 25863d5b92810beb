/-
  A copy stands for itself: what DiskCopies asks behind Copy.
  A copy stands for itself: DiskCopies, walked.
  The rows of steps that come in, as lists of steps.
-/
import Derived.Test.YtpmbokklpidohaaGreatDoorDiskStp
import Derived.Test.YtpmbokklpidohaaGreatDoorDiskStand2
import Derived.Test.YtpmbokklpidohaaGreatDoorDiskSame
import Derived.Test.YtpmbokklpidohaaGreatDoorDiskRef9
import Derived.Deep.RegionHeld3
namespace Go.Proofs.YtpmbokklpidohaaGreatDoor
open Go.RowKit
namespace DiskP
open DiskM DiskC ErrC

theorem sameF_iff (f g : ByteArray × ByteArray) : sameF f g = true ↔ f = g := by
  unfold sameF
  rw [Bool.and_eq_true, bytes_iff, bytes_iff]
  exact ⟨fun h => Prod.ext h.1 h.2, fun h => by rw [h]; exact ⟨rfl, rfl⟩⟩
theorem sameL_eq (fs gs : FL) : sameL fs gs = decide (fs = gs) := by
  by_cases h : fs = gs
  · subst h
    rw [same_yes rfl (fun i h1 h2 => (sameF_iff _ _).2 rfl)]
    simp
  · have hd : decide (fs = gs) = false := by simpa using h
    rw [hd]
    by_cases hl : fs.length = gs.length
    · apply Classical.byContradiction
      intro hn
      apply h
      apply List.ext_getElem hl
      intro i h1 h2
      apply Classical.byContradiction
      intro hne
      apply hn
      refine same_no h1 h2 ?_
      rw [← Bool.not_eq_true]
      exact fun e => hne ((sameF_iff _ _).1 e)
    · unfold sameL
      rw [decide_eq_false hl, Bool.false_and]
theorem pair_copy {w w1 w2 : World} {c p : Nat} {F2 : Nat → Prop} {u : Value} {cut : Int} {s : DS} (hv : Vars w) (hc : IsP w.heap.size w1 c F2 cut s) (hm : May s.fs) (hb : Below w.heap.size w w1) (hl : ∀ i, F2 i → w.heap.size ≤ i)
    (hp : w1.heap.size ≤ p) (hd : IsDsk w2 p u s.fs cut s.count s.dead) (hu : ∀ g, u.ownBlock = some g → w1.heap.size ≤ g) (hk : Keeps (fun _ => False) w1 w2) : Pair (RP w.heap.size) w2 c F2 p u cut s w.heap.size ∧ Below w.heap.size w w2 := by
  have hD := disk_dev w.heap.size
  have hr : RP w.heap.size w1 c F2 cut s := ⟨hc, hm⟩
  have hb2 : Below w.heap.size w w2 := hb.trans (hk.toBelow (fun _ h => h.elim) hb.size)
  have hfoot : ∀ i, Foot p u i → w1.heap.size ≤ i := fun i hi => by
    rcases hi with rfl | h
    · exact hp
    · exact hu i h
  exact ⟨⟨hD.keeps hr hk (fun _ _ h => h) (fun _ h => h.elim), hd, fun i hi hF => by have h1 := hD.lt hr i hi; have h2 := hfoot i hF; omega, hl, fun i hi => Nat.le_trans hb.size (hfoot i hi), hb2.size, Vars.belowG hv hb2 (DiskC.Vars.g0 hv) (DiskC.Vars.g1 hv), (DiskC.Vars.g0 hv), (DiskC.Vars.g1 hv)⟩, hb2⟩
theorem same_pairs {B1 B2 c b : Nat} {F2 F : Nat → Prop} {cut2 cut : Int} {s2 s : DS} {w : World} (h2 : RP B2 w c F2 cut2 s2) (h1 : RP B1 w b F cut s) :
    Calls Tryz.prog 9 #[.pointer (some ⟨c, 0, none⟩), .pointer (some ⟨b, 0, none⟩)] w fun e w' => e = .returned (.bool (decide (s2.fs = s.fs))) ∧ Below w.heap.size w w' := by
  obtain ⟨⟨m2, D2, vals2, hd2⟩, -⟩ := h2
  obtain ⟨⟨m1, D1, vals1, hd1⟩, -⟩ := h1
  exact same_files hd2.files hd1.files hd2.c0 hd1.c0
theorem dsame_pairs {y p : Nat} {v u : Value} {cut cut2 : Int} {s s2 : DS} {w : World} (h2 : IsD w p u cut2 s2) (h1 : IsD w y v cut s) (hl : s2.fs.length ≤ 65536) :
    Calls Tryz.prog 13 #[.pointer (some ⟨p, 0, none⟩), .pointer (some ⟨y, 0, none⟩)] w fun e w' => e = .returned (.bool (decide (s2.fs = s.fs))) ∧ Below w.heap.size w w' := by
  refine (dsame_any p y u v s2.fs s.fs cut2 s2.count cut s.count s2.dead s.dead w h2 h1 hl).mono ?_
  rintro e w' ⟨rfl, q, rfl⟩
  exact ⟨by rw [sameL_eq], ⟨rfl, rfl, rfl, Nat.le_refl _, fun _ _ => rfl⟩⟩
/-- the steps, if there is one -/
def StepsAt (w : World) (a : Option Addr) (L : List Stp) : Prop := 0 < L.length → ∃ g o, a = some ⟨g, o, none⟩ ∧ g < w.heap.size ∧ Steps w g o L
end DiskP
end Go.Proofs.YtpmbokklpidohaaGreatDoor
namespace Go.Proofs.YtpmbokklpidohaaGreatDoor
open Go.RowKit
namespace DiskP
open DiskM DiskC ErrC

set_option maxRecDepth 100000 in
set_option maxHeartbeats 64000000 in
theorem copies_any (cut : Int) (a : Option Addr) (cap : Nat) (L : List Stp) (ka : Option Addr) (kcap : Nat) (K : List Stp) (w : World) (hm : L.length ≤ 9223372036854775807) (hmk : K.length ≤ 9223372036854775807) (hs : StepsAt w a L) (hk : StepsAt w ka K) (hv : Vars w) :
    Calls Tryz.prog 3 #[.int .i64 cut, .slice a L.length cap, .slice ka K.length kcap] w fun e w' => e = .returned (.bool true) ∧ Below w.heap.size w w' := by
  have HD := Lib.hid (disk_dev w.heap.size)
  have HV := Lib.hid hv
  have HSL := Lib.hid hs
  have HSK := Lib.hid hk
  clear hv hs hk
  unfold StepsAt at HSL HSK
  go_enter Tryz.func3, Tryz.ntmps3
  go_wp2_with fail
  refine (HD.out.new cut (Nat.le_refl _)).mono ?_
  rintro e w1 ⟨b, F, rfl, hr, hb, hF⟩
  have HN := Lib.hid (fun w2 h2 => pair_new (w2 := w2) rfl HV.out hr hb hF h2)
  clear hr hb hF
  go_wp2_with fail
  refine (dnew_any cut w1).mono ?_
  rintro e w2 ⟨rfl, h2⟩
  have HP := Lib.hid (HN.out w2 h2).1
  have HB := Lib.hid (HN.out w2 h2).2
  clear HN h2
  generalize w1.heap.size = y at *
  clear w1
  go_wp2_with fail
  go_loopw [9] (fun vi wr => ∃ (i : Nat) (F : Nat → Prop) (v : Value) (cut1 : Int) (s : DS), vi = .int .i64 i ∧ i ≤ L.length ∧ i ≤ 40 ∧ Hid (Pair (RP w.heap.size) wr b F y v cut1 s w.heap.size) ∧ Hid (Below w.heap.size w wr) ∧ Hid (DiskC.Good s.fs ∧ s.count ≤ 0 + 16400 * i)) (fun vi _ => 41 - (intOf vi).toNat)
  case atStart => exact ⟨0, F, _, cut, _, rfl, Nat.zero_le _, by omega, HP, HB, Lib.hid ⟨empty_good, Nat.zero_le _⟩⟩
  case round =>
    obtain ⟨i, F, v, cut1, s, rfl, hi, hi2, HPR, HBR, HGR⟩ := hrel
    rename World => wr
    clear HP HB
    by_cases hlt : i < L.length
    · obtain ⟨g, o, rfl, hgg, hst⟩ := HSL.out (by omega)
      have HGG := Lib.hid hgg
      by_cases h40 : i < 40
      · have hdec : decide (i < L.length) = true := by simpa using hlt
        have hdec2 : decide ((i : Int) < 40) = true := by simpa using (by omega : (i : Int) < 40)
        have hb := (hst i hlt).1.below (HBR.out) HGG.out
        have HF := Lib.hid (hst i hlt).2
        have c0 := hb.c0
        have c1 := hb.c1
        have c2 := hb.c2
        have c3 := hb.c3
        have hwi : IntKind.i64.wrap (i : Int) = (i : Int) := IntWalk.i64_in _ ⟨by omega, by omega⟩
        have hnx : wrap64 ((i : Int) + 1) = ((i + 1 : Nat) : Int) := by unfold wrap64; omega
        have hbi1 : (i : Int) < (L.length : Int) := by omega
        have HI1 := Lib.hid (show i + 1 ≤ L.length ∧ i + 1 ≤ 40 from ⟨hlt, h40⟩)
        clear hb hst hgg
        generalize L[i] = t at *
        clear hi hi2
        by_cases hx : t.x.size < 4096
        · have hdx : decide ((t.x.size : Int) < 4096) = true := by simpa using (by omega : (t.x.size : Int) < 4096)
          have HDO := Lib.hid (does_any t.D t.name t.x t.N HPR.out HGR.out.1 (by have := HGR.out.2; omega) HF.out.name (by omega) HF.out.num)
          have HPG := Lib.hid (play_good (cut := cut1) (D := t.D) (name := t.name) (x := t.x) (N := t.N) HGR.out.1)
          generalize playS cut1 t.D t.name t.x t.N s = ps at *
          obtain ⟨cut9, s9⟩ := ps
          have hs9 : Hid (DiskC.Good s9.fs ∧ s9.count ≤ 0 + 16400 * (i + 1)) := Lib.hid ⟨HPG.out.1, by have h1 := HPG.out.2; have h2 := HGR.out.2; dsimp only at h1; omega⟩
          clear HPG HGR
          obtain ⟨D, name, x, N⟩ := t
          dsimp only at *
          generalize hq : o + i * 4 = pp at *
          go_wp2_with fail
          refine HDO.out.mono ?_
          rintro e w9 ⟨rfl, F9, v9, hp9, hb9⟩
          have HP9 := Lib.hid hp9
          have HB9 := Lib.hid (HBR.out.trans hb9)
          clear hp9 hb9 HDO HPR HBR
          go_wp2_with fail
          go_roundw
          case measure => simp [intOf]; omega
          exact ⟨i + 1, F9, v9, cut9, s9, rfl, HI1.out.1, HI1.out.2, HP9, HB9, hs9⟩
        · have hdx : decide ((t.x.size : Int) < 4096) = false := by simpa using (by omega : ¬ (t.x.size : Int) < 4096)
          go_wp2_with fail
          go_roundw
          case measure => simp [intOf]; omega
          exact ⟨i + 1, F, v, cut1, s, rfl, HI1.out.1, HI1.out.2, HPR, HBR, Lib.hid ⟨HGR.out.1, by have := HGR.out.2; omega⟩⟩
      · have hdec : decide (i < L.length) = true := by simpa using hlt
        have hdec2 : decide ((i : Int) < 40) = false := by simpa using (by omega : ¬ (i : Int) < 40)
        clear hst hgg
        go_wp2_with fail
        obtain ⟨⟨m, D, vals, hdk⟩, hmay⟩ := HPR.out.rep
        have HCP := Lib.hid (copy_any hdk HGR.out.1.1 hmay)
        have HMY := Lib.hid hmay
        clear hdk hmay
        refine HCP.out.mono ?_
        rintro e w3 ⟨c, F2, rfl, hc, hb3, hlow⟩
        have HC3 := Lib.hid hc
        have HB3 := Lib.hid hb3
        have HL3 := Lib.hid hlow
        clear hc hb3 hlow HCP
        go_wp2_with fail
        refine (dcopy_any y v s.fs cut1 s.count s.dead w3 (HPR.out.below HD.out HB3.out).ref (by have := HGR.out.1.1; omega)).mono ?_
        rintro e w4 ⟨p, u, rfl, hp, hdsk, hub, hk⟩
        obtain ⟨hpp, hb4⟩ := pair_copy HPR.out.vars HC3.out HMY.out HB3.out HL3.out hp hdsk hub hk
        have HC4 := Lib.hid hpp
        have HB4 := Lib.hid hb4
        clear hp hdsk hub hk hpp hb4 HC3 HB3 HL3
        have HSM := Lib.hid (same_pairs HC4.out.rep (HPR.out.below HD.out HB4.out).rep)
        go_wp2_with fail
        refine HSM.out.mono ?_
        rintro e w5 ⟨rfl, hb5⟩
        have HDC := Lib.hid (disk_dev wr.heap.size)
        have HC5 := Lib.hid (HC4.out.below HDC.out hb5)
        have HB5 := Lib.hid (HB4.out.trans (hb5.mono HB4.out.size))
        have HPA := HPR
        have HBA := HBR
        have HGA : Hid (DiskC.Good s.fs ∧ s.count ≤ 656000) := Lib.hid ⟨HGR.out.1, by have := HGR.out.2; omega⟩
        clear hb5 HSM HC4 HB4 HPR HBR HGR
        go_wp2_with fail
        go_loopw [12] (fun vi wx => ∃ (j : Nat) (F2 : Nat → Prop) (u : Value) (cut2 : Int) (s2 : DS), vi = .int .i64 j ∧ j ≤ K.length ∧ j ≤ 40 ∧ Hid (Pair (RP wr.heap.size) wx c F2 p u cut2 s2 wr.heap.size) ∧ Hid (Below wr.heap.size wr wx) ∧ Hid (DiskC.Good s2.fs ∧ s2.count ≤ 656000 + 16400 * j)) (fun vi _ => 41 - (intOf vi).toNat)
        case atStart => exact ⟨0, F2, u, cut1, s, rfl, Nat.zero_le _, by omega, HC5, HB5, Lib.hid ⟨HGA.out.1, by have := HGA.out.2; omega⟩⟩
        case round =>
          obtain ⟨j, F2, u, cut2, s2, rfl, hj, hj2, HCR, HBX, HGX⟩ := hrel
          clear HC5 HB5
          by_cases hlt : j < K.length
          · obtain ⟨g, o, rfl, hgg, hst⟩ := HSK.out (by omega)
            have HGG := Lib.hid hgg
            by_cases h40 : j < 40
            · have hdec : decide (j < K.length) = true := by simpa using hlt
              have hdec2 : decide ((j : Int) < 40) = true := by simpa using (by omega : (j : Int) < 40)
              have hb := (hst j hlt).1.below (HBA.out.trans (HBX.out.mono HBA.out.size)) HGG.out
              have HF := Lib.hid (hst j hlt).2
              have c0 := hb.c0
              have c1 := hb.c1
              have c2 := hb.c2
              have c3 := hb.c3
              have hwi : IntKind.i64.wrap (j : Int) = (j : Int) := IntWalk.i64_in _ ⟨by omega, by omega⟩
              have hnx : wrap64 ((j : Int) + 1) = ((j + 1 : Nat) : Int) := by unfold wrap64; omega
              have hbi1 : (j : Int) < (K.length : Int) := by omega
              have HI1 := Lib.hid (show j + 1 ≤ K.length ∧ j + 1 ≤ 40 from ⟨hlt, h40⟩)
              clear hb hst hgg
              generalize K[j] = t at *
              clear hj hj2
              by_cases hx : t.x.size < 4096
              · have hdx : decide ((t.x.size : Int) < 4096) = true := by simpa using (by omega : (t.x.size : Int) < 4096)
                have HDO := Lib.hid (does_any t.D t.name t.x t.N HCR.out HGX.out.1 (by have := HGX.out.2; omega) HF.out.name (by omega) HF.out.num)
                have HPG := Lib.hid (play_good (cut := cut2) (D := t.D) (name := t.name) (x := t.x) (N := t.N) HGX.out.1)
                generalize playS cut2 t.D t.name t.x t.N s2 = ps at *
                obtain ⟨cut9, s9⟩ := ps
                have hs9 : Hid (DiskC.Good s9.fs ∧ s9.count ≤ 656000 + 16400 * (j + 1)) := Lib.hid ⟨HPG.out.1, by have h1 := HPG.out.2; have h2 := HGX.out.2; dsimp only at h1; omega⟩
                clear HPG HGX
                obtain ⟨D, name, x, N⟩ := t
                dsimp only at *
                generalize hq : o + j * 4 = pp at *
                go_wp2_with fail
                refine HDO.out.mono ?_
                rintro e w9 ⟨rfl, F9, v9, hp9, hb9⟩
                have HP9 := Lib.hid hp9
                have HB9 := Lib.hid (HBX.out.trans hb9)
                clear hp9 hb9 HDO HCR HBX
                go_wp2_with fail
                go_roundw
                case measure => simp [intOf]; omega
                exact ⟨j + 1, F9, v9, cut9, s9, rfl, HI1.out.1, HI1.out.2, HP9, HB9, hs9⟩
              · have hdx : decide ((t.x.size : Int) < 4096) = false := by simpa using (by omega : ¬ (t.x.size : Int) < 4096)
                go_wp2_with fail
                go_roundw
                case measure => simp [intOf]; omega
                exact ⟨j + 1, F2, u, cut2, s2, rfl, HI1.out.1, HI1.out.2, HCR, HBX, Lib.hid ⟨HGX.out.1, by have := HGX.out.2; omega⟩⟩
            · have hdec : decide (j < K.length) = true := by simpa using hlt
              have hdec2 : decide ((j : Int) < 40) = false := by simpa using (by omega : ¬ (j : Int) < 40)
              clear hst hgg
              go_wp2_with fail
              have HPE := Lib.hid (HPA.out.below HD.out HBX.out)
              have HCE := HCR
              have HGS := HGA
              have HGC := HGX
              rename World => we
              have HY := Lib.hid HPE.out.ref
              have c2 := HPE.out.ref.count
              have c3 := HPE.out.ref.dead
              have HDE := Lib.hid (disk_dev w.heap.size)
              go_wp2_with fail
              go_region_held3 (fun w' => w'.cell? ⟨y, 2, none⟩ = some (.int .i64 s.count) ∧ w'.cell? ⟨y, 3, none⟩ = some (.bool s.dead)) (first | exact ⟨c2, c3⟩ | exact ⟨c12, c13⟩ | exact ⟨c22, c23⟩ | exact ⟨c32, c33⟩ | exact ⟨c42, c43⟩ | exact ⟨c52, c53⟩ | exact ⟨c62, c63⟩)
                (first
                  | (go_at_call 10
                     refine (stands_low (HPE.out.below HDE.out (below_drew we 0)) HGS.out.1).mono ?_
                     rintro e w1 ⟨rfl, hb⟩
                     have HB1 : Hid (Below we.heap.size we w1) := Lib.hid ⟨hb.os, hb.tape, hb.output, hb.size, hb.block⟩
                     have HA1 := Lib.hid (HPE.out.below HDE.out HB1.out)
                     have HC1 := Lib.hid (HCE.out.below HDC.out HB1.out)
                     have c12 : w1.cell? ⟨y, 2, none⟩ = some (.int .i64 s.count) := HA1.out.ref.count
                     have c13 : w1.cell? ⟨y, 3, none⟩ = some (.bool s.dead) := HA1.out.ref.dead
                     clear hb)
                  | (go_at_call 11
                     refine (HDE.out.writes HA1.out.rep HGS.out.1 HA1.out.vars).mono ?_
                     rintro e w2 ⟨rfl, hb⟩
                     have HB2 := Lib.hid (HB1.out.trans (hb.mono HB1.out.size))
                     have HA2 := Lib.hid (HA1.out.below HDE.out hb)
                     have HC2 := Lib.hid (HC1.out.below HDC.out hb)
                     have c22 : w2.cell? ⟨y, 2, none⟩ = some (.int .i64 s.count) := HA2.out.ref.count
                     have c23 : w2.cell? ⟨y, 3, none⟩ = some (.bool s.dead) := HA2.out.ref.dead
                     clear hb)
                  | (go_at_call 12
                     refine (HDE.out.dead HA2.out.rep HGS.out.1 HA2.out.vars).mono ?_
                     rintro e w3 ⟨rfl, hb⟩
                     have HB3 := Lib.hid (HB2.out.trans (hb.mono HB2.out.size))
                     have HA3 := Lib.hid (HA2.out.below HDE.out hb)
                     have HC3 := Lib.hid (HC2.out.below HDC.out hb)
                     have c32 : w3.cell? ⟨y, 2, none⟩ = some (.int .i64 s.count) := HA3.out.ref.count
                     have c33 : w3.cell? ⟨y, 3, none⟩ = some (.bool s.dead) := HA3.out.ref.dead
                     clear hb)
                  | (go_at_call 9
                     refine (same_pairs HC3.out.rep HA3.out.rep).mono ?_
                     rintro e w4 ⟨rfl, hb⟩
                     have HB4 := Lib.hid (HB3.out.trans (hb.mono HB3.out.size))
                     have HA4 := Lib.hid (HA3.out.below HDE.out hb)
                     have HC4 := Lib.hid (HC3.out.below HDC.out hb)
                     have c42 : w4.cell? ⟨y, 2, none⟩ = some (.int .i64 s.count) := HA4.out.ref.count
                     have c43 : w4.cell? ⟨y, 3, none⟩ = some (.bool s.dead) := HA4.out.ref.dead
                     clear hb)
                  | (go_at_call 13
                     refine (dsame_pairs HC4.out.ref HA4.out.ref HGC.out.1.1).mono ?_
                     rintro e w5 ⟨rfl, hb⟩
                     have HB5 := Lib.hid (HB4.out.trans (hb.mono HB4.out.size))
                     have HA5 := Lib.hid (HA4.out.below HDE.out hb)
                     have HC5 := Lib.hid (HC4.out.below HDC.out hb)
                     have c52 : w5.cell? ⟨y, 2, none⟩ = some (.int .i64 s.count) := HA5.out.ref.count
                     have c53 : w5.cell? ⟨y, 3, none⟩ = some (.bool s.dead) := HA5.out.ref.dead
                     clear hb)
                  | (go_at_call 14
                     refine (alive_any w5 HA5.out.vars).mono ?_
                     rintro e w6 ⟨rfl, hb⟩
                     have HB6 := Lib.hid (HB5.out.trans (hb.mono HB5.out.size))
                     have HA6 := Lib.hid (HA5.out.below HDE.out hb)
                     have HC6 := Lib.hid (HC5.out.below HDC.out hb)
                     have c62 : w6.cell? ⟨y, 2, none⟩ = some (.int .i64 s.count) := HA6.out.ref.count
                     have c63 : w6.cell? ⟨y, 3, none⟩ = some (.bool s.dead) := HA6.out.ref.dead
                     clear hb))
              all_goals
                go_wp2_with fail
                go_ret
                exact ⟨rfl, (HBA.out.trans (HBX.out.mono HBA.out.size)).trans (HB6.out.mono (Nat.le_trans HBA.out.size HBX.out.size))⟩
          · have hdec : decide (j < K.length) = false := by simpa using hlt
            go_wp2_with fail
            have HPE := Lib.hid (HPA.out.below HD.out HBX.out)
            have HCE := HCR
            have HGS := HGA
            have HGC := HGX
            rename World => we
            have HY := Lib.hid HPE.out.ref
            have c2 := HPE.out.ref.count
            have c3 := HPE.out.ref.dead
            have HDE := Lib.hid (disk_dev w.heap.size)
            go_wp2_with fail
            go_region_held3 (fun w' => w'.cell? ⟨y, 2, none⟩ = some (.int .i64 s.count) ∧ w'.cell? ⟨y, 3, none⟩ = some (.bool s.dead)) (first | exact ⟨c2, c3⟩ | exact ⟨c12, c13⟩ | exact ⟨c22, c23⟩ | exact ⟨c32, c33⟩ | exact ⟨c42, c43⟩ | exact ⟨c52, c53⟩ | exact ⟨c62, c63⟩)
              (first
                | (go_at_call 10
                   refine (stands_low (HPE.out.below HDE.out (below_drew we 0)) HGS.out.1).mono ?_
                   rintro e w1 ⟨rfl, hb⟩
                   have HB1 : Hid (Below we.heap.size we w1) := Lib.hid ⟨hb.os, hb.tape, hb.output, hb.size, hb.block⟩
                   have HA1 := Lib.hid (HPE.out.below HDE.out HB1.out)
                   have HC1 := Lib.hid (HCE.out.below HDC.out HB1.out)
                   have c12 : w1.cell? ⟨y, 2, none⟩ = some (.int .i64 s.count) := HA1.out.ref.count
                   have c13 : w1.cell? ⟨y, 3, none⟩ = some (.bool s.dead) := HA1.out.ref.dead
                   clear hb)
                | (go_at_call 11
                   refine (HDE.out.writes HA1.out.rep HGS.out.1 HA1.out.vars).mono ?_
                   rintro e w2 ⟨rfl, hb⟩
                   have HB2 := Lib.hid (HB1.out.trans (hb.mono HB1.out.size))
                   have HA2 := Lib.hid (HA1.out.below HDE.out hb)
                   have HC2 := Lib.hid (HC1.out.below HDC.out hb)
                   have c22 : w2.cell? ⟨y, 2, none⟩ = some (.int .i64 s.count) := HA2.out.ref.count
                   have c23 : w2.cell? ⟨y, 3, none⟩ = some (.bool s.dead) := HA2.out.ref.dead
                   clear hb)
                | (go_at_call 12
                   refine (HDE.out.dead HA2.out.rep HGS.out.1 HA2.out.vars).mono ?_
                   rintro e w3 ⟨rfl, hb⟩
                   have HB3 := Lib.hid (HB2.out.trans (hb.mono HB2.out.size))
                   have HA3 := Lib.hid (HA2.out.below HDE.out hb)
                   have HC3 := Lib.hid (HC2.out.below HDC.out hb)
                   have c32 : w3.cell? ⟨y, 2, none⟩ = some (.int .i64 s.count) := HA3.out.ref.count
                   have c33 : w3.cell? ⟨y, 3, none⟩ = some (.bool s.dead) := HA3.out.ref.dead
                   clear hb)
                | (go_at_call 9
                   refine (same_pairs HC3.out.rep HA3.out.rep).mono ?_
                   rintro e w4 ⟨rfl, hb⟩
                   have HB4 := Lib.hid (HB3.out.trans (hb.mono HB3.out.size))
                   have HA4 := Lib.hid (HA3.out.below HDE.out hb)
                   have HC4 := Lib.hid (HC3.out.below HDC.out hb)
                   have c42 : w4.cell? ⟨y, 2, none⟩ = some (.int .i64 s.count) := HA4.out.ref.count
                   have c43 : w4.cell? ⟨y, 3, none⟩ = some (.bool s.dead) := HA4.out.ref.dead
                   clear hb)
                | (go_at_call 13
                   refine (dsame_pairs HC4.out.ref HA4.out.ref HGC.out.1.1).mono ?_
                   rintro e w5 ⟨rfl, hb⟩
                   have HB5 := Lib.hid (HB4.out.trans (hb.mono HB4.out.size))
                   have HA5 := Lib.hid (HA4.out.below HDE.out hb)
                   have HC5 := Lib.hid (HC4.out.below HDC.out hb)
                   have c52 : w5.cell? ⟨y, 2, none⟩ = some (.int .i64 s.count) := HA5.out.ref.count
                   have c53 : w5.cell? ⟨y, 3, none⟩ = some (.bool s.dead) := HA5.out.ref.dead
                   clear hb)
                | (go_at_call 14
                   refine (alive_any w5 HA5.out.vars).mono ?_
                   rintro e w6 ⟨rfl, hb⟩
                   have HB6 := Lib.hid (HB5.out.trans (hb.mono HB5.out.size))
                   have HA6 := Lib.hid (HA5.out.below HDE.out hb)
                   have HC6 := Lib.hid (HC5.out.below HDC.out hb)
                   have c62 : w6.cell? ⟨y, 2, none⟩ = some (.int .i64 s.count) := HA6.out.ref.count
                   have c63 : w6.cell? ⟨y, 3, none⟩ = some (.bool s.dead) := HA6.out.ref.dead
                   clear hb))
            all_goals
              go_wp2_with fail
              go_ret
              exact ⟨rfl, (HBA.out.trans (HBX.out.mono HBA.out.size)).trans (HB6.out.mono (Nat.le_trans HBA.out.size HBX.out.size))⟩
    · have hdec : decide (i < L.length) = false := by simpa using hlt
      go_wp2_with fail
      obtain ⟨⟨m, D, vals, hdk⟩, hmay⟩ := HPR.out.rep
      have HCP := Lib.hid (copy_any hdk HGR.out.1.1 hmay)
      have HMY := Lib.hid hmay
      clear hdk hmay
      refine HCP.out.mono ?_
      rintro e w3 ⟨c, F2, rfl, hc, hb3, hlow⟩
      have HC3 := Lib.hid hc
      have HB3 := Lib.hid hb3
      have HL3 := Lib.hid hlow
      clear hc hb3 hlow HCP
      go_wp2_with fail
      refine (dcopy_any y v s.fs cut1 s.count s.dead w3 (HPR.out.below HD.out HB3.out).ref (by have := HGR.out.1.1; omega)).mono ?_
      rintro e w4 ⟨p, u, rfl, hp, hdsk, hub, hk⟩
      obtain ⟨hpp, hb4⟩ := pair_copy HPR.out.vars HC3.out HMY.out HB3.out HL3.out hp hdsk hub hk
      have HC4 := Lib.hid hpp
      have HB4 := Lib.hid hb4
      clear hp hdsk hub hk hpp hb4 HC3 HB3 HL3
      have HSM := Lib.hid (same_pairs HC4.out.rep (HPR.out.below HD.out HB4.out).rep)
      go_wp2_with fail
      refine HSM.out.mono ?_
      rintro e w5 ⟨rfl, hb5⟩
      have HDC := Lib.hid (disk_dev wr.heap.size)
      have HC5 := Lib.hid (HC4.out.below HDC.out hb5)
      have HB5 := Lib.hid (HB4.out.trans (hb5.mono HB4.out.size))
      have HPA := HPR
      have HBA := HBR
      have HGA : Hid (DiskC.Good s.fs ∧ s.count ≤ 656000) := Lib.hid ⟨HGR.out.1, by have := HGR.out.2; omega⟩
      clear hb5 HSM HC4 HB4 HPR HBR HGR
      go_wp2_with fail
      go_loopw [12] (fun vi wx => ∃ (j : Nat) (F2 : Nat → Prop) (u : Value) (cut2 : Int) (s2 : DS), vi = .int .i64 j ∧ j ≤ K.length ∧ j ≤ 40 ∧ Hid (Pair (RP wr.heap.size) wx c F2 p u cut2 s2 wr.heap.size) ∧ Hid (Below wr.heap.size wr wx) ∧ Hid (DiskC.Good s2.fs ∧ s2.count ≤ 656000 + 16400 * j)) (fun vi _ => 41 - (intOf vi).toNat)
      case atStart => exact ⟨0, F2, u, cut1, s, rfl, Nat.zero_le _, by omega, HC5, HB5, Lib.hid ⟨HGA.out.1, by have := HGA.out.2; omega⟩⟩
      case round =>
        obtain ⟨j, F2, u, cut2, s2, rfl, hj, hj2, HCR, HBX, HGX⟩ := hrel
        clear HC5 HB5
        by_cases hlt : j < K.length
        · obtain ⟨g, o, rfl, hgg, hst⟩ := HSK.out (by omega)
          have HGG := Lib.hid hgg
          by_cases h40 : j < 40
          · have hdec : decide (j < K.length) = true := by simpa using hlt
            have hdec2 : decide ((j : Int) < 40) = true := by simpa using (by omega : (j : Int) < 40)
            have hb := (hst j hlt).1.below (HBA.out.trans (HBX.out.mono HBA.out.size)) HGG.out
            have HF := Lib.hid (hst j hlt).2
            have c0 := hb.c0
            have c1 := hb.c1
            have c2 := hb.c2
            have c3 := hb.c3
            have hwi : IntKind.i64.wrap (j : Int) = (j : Int) := IntWalk.i64_in _ ⟨by omega, by omega⟩
            have hnx : wrap64 ((j : Int) + 1) = ((j + 1 : Nat) : Int) := by unfold wrap64; omega
            have hbi1 : (j : Int) < (K.length : Int) := by omega
            have HI1 := Lib.hid (show j + 1 ≤ K.length ∧ j + 1 ≤ 40 from ⟨hlt, h40⟩)
            clear hb hst hgg
            generalize K[j] = t at *
            clear hj hj2
            by_cases hx : t.x.size < 4096
            · have hdx : decide ((t.x.size : Int) < 4096) = true := by simpa using (by omega : (t.x.size : Int) < 4096)
              have HDO := Lib.hid (does_any t.D t.name t.x t.N HCR.out HGX.out.1 (by have := HGX.out.2; omega) HF.out.name (by omega) HF.out.num)
              have HPG := Lib.hid (play_good (cut := cut2) (D := t.D) (name := t.name) (x := t.x) (N := t.N) HGX.out.1)
              generalize playS cut2 t.D t.name t.x t.N s2 = ps at *
              obtain ⟨cut9, s9⟩ := ps
              have hs9 : Hid (DiskC.Good s9.fs ∧ s9.count ≤ 656000 + 16400 * (j + 1)) := Lib.hid ⟨HPG.out.1, by have h1 := HPG.out.2; have h2 := HGX.out.2; dsimp only at h1; omega⟩
              clear HPG HGX
              obtain ⟨D, name, x, N⟩ := t
              dsimp only at *
              generalize hq : o + j * 4 = pp at *
              go_wp2_with fail
              refine HDO.out.mono ?_
              rintro e w9 ⟨rfl, F9, v9, hp9, hb9⟩
              have HP9 := Lib.hid hp9
              have HB9 := Lib.hid (HBX.out.trans hb9)
              clear hp9 hb9 HDO HCR HBX
              go_wp2_with fail
              go_roundw
              case measure => simp [intOf]; omega
              exact ⟨j + 1, F9, v9, cut9, s9, rfl, HI1.out.1, HI1.out.2, HP9, HB9, hs9⟩
            · have hdx : decide ((t.x.size : Int) < 4096) = false := by simpa using (by omega : ¬ (t.x.size : Int) < 4096)
              go_wp2_with fail
              go_roundw
              case measure => simp [intOf]; omega
              exact ⟨j + 1, F2, u, cut2, s2, rfl, HI1.out.1, HI1.out.2, HCR, HBX, Lib.hid ⟨HGX.out.1, by have := HGX.out.2; omega⟩⟩
          · have hdec : decide (j < K.length) = true := by simpa using hlt
            have hdec2 : decide ((j : Int) < 40) = false := by simpa using (by omega : ¬ (j : Int) < 40)
            clear hst hgg
            go_wp2_with fail
            have HPE := Lib.hid (HPA.out.below HD.out HBX.out)
            have HCE := HCR
            have HGS := HGA
            have HGC := HGX
            rename World => we
            have HY := Lib.hid HPE.out.ref
            have c2 := HPE.out.ref.count
            have c3 := HPE.out.ref.dead
            have HDE := Lib.hid (disk_dev w.heap.size)
            go_wp2_with fail
            go_region_held3 (fun w' => w'.cell? ⟨y, 2, none⟩ = some (.int .i64 s.count) ∧ w'.cell? ⟨y, 3, none⟩ = some (.bool s.dead)) (first | exact ⟨c2, c3⟩ | exact ⟨c12, c13⟩ | exact ⟨c22, c23⟩ | exact ⟨c32, c33⟩ | exact ⟨c42, c43⟩ | exact ⟨c52, c53⟩ | exact ⟨c62, c63⟩)
              (first
                | (go_at_call 10
                   refine (stands_low (HPE.out.below HDE.out (below_drew we 0)) HGS.out.1).mono ?_
                   rintro e w1 ⟨rfl, hb⟩
                   have HB1 : Hid (Below we.heap.size we w1) := Lib.hid ⟨hb.os, hb.tape, hb.output, hb.size, hb.block⟩
                   have HA1 := Lib.hid (HPE.out.below HDE.out HB1.out)
                   have HC1 := Lib.hid (HCE.out.below HDC.out HB1.out)
                   have c12 : w1.cell? ⟨y, 2, none⟩ = some (.int .i64 s.count) := HA1.out.ref.count
                   have c13 : w1.cell? ⟨y, 3, none⟩ = some (.bool s.dead) := HA1.out.ref.dead
                   clear hb)
                | (go_at_call 11
                   refine (HDE.out.writes HA1.out.rep HGS.out.1 HA1.out.vars).mono ?_
                   rintro e w2 ⟨rfl, hb⟩
                   have HB2 := Lib.hid (HB1.out.trans (hb.mono HB1.out.size))
                   have HA2 := Lib.hid (HA1.out.below HDE.out hb)
                   have HC2 := Lib.hid (HC1.out.below HDC.out hb)
                   have c22 : w2.cell? ⟨y, 2, none⟩ = some (.int .i64 s.count) := HA2.out.ref.count
                   have c23 : w2.cell? ⟨y, 3, none⟩ = some (.bool s.dead) := HA2.out.ref.dead
                   clear hb)
                | (go_at_call 12
                   refine (HDE.out.dead HA2.out.rep HGS.out.1 HA2.out.vars).mono ?_
                   rintro e w3 ⟨rfl, hb⟩
                   have HB3 := Lib.hid (HB2.out.trans (hb.mono HB2.out.size))
                   have HA3 := Lib.hid (HA2.out.below HDE.out hb)
                   have HC3 := Lib.hid (HC2.out.below HDC.out hb)
                   have c32 : w3.cell? ⟨y, 2, none⟩ = some (.int .i64 s.count) := HA3.out.ref.count
                   have c33 : w3.cell? ⟨y, 3, none⟩ = some (.bool s.dead) := HA3.out.ref.dead
                   clear hb)
                | (go_at_call 9
                   refine (same_pairs HC3.out.rep HA3.out.rep).mono ?_
                   rintro e w4 ⟨rfl, hb⟩
                   have HB4 := Lib.hid (HB3.out.trans (hb.mono HB3.out.size))
                   have HA4 := Lib.hid (HA3.out.below HDE.out hb)
                   have HC4 := Lib.hid (HC3.out.below HDC.out hb)
                   have c42 : w4.cell? ⟨y, 2, none⟩ = some (.int .i64 s.count) := HA4.out.ref.count
                   have c43 : w4.cell? ⟨y, 3, none⟩ = some (.bool s.dead) := HA4.out.ref.dead
                   clear hb)
                | (go_at_call 13
                   refine (dsame_pairs HC4.out.ref HA4.out.ref HGC.out.1.1).mono ?_
                   rintro e w5 ⟨rfl, hb⟩
                   have HB5 := Lib.hid (HB4.out.trans (hb.mono HB4.out.size))
                   have HA5 := Lib.hid (HA4.out.below HDE.out hb)
                   have HC5 := Lib.hid (HC4.out.below HDC.out hb)
                   have c52 : w5.cell? ⟨y, 2, none⟩ = some (.int .i64 s.count) := HA5.out.ref.count
                   have c53 : w5.cell? ⟨y, 3, none⟩ = some (.bool s.dead) := HA5.out.ref.dead
                   clear hb)
                | (go_at_call 14
                   refine (alive_any w5 HA5.out.vars).mono ?_
                   rintro e w6 ⟨rfl, hb⟩
                   have HB6 := Lib.hid (HB5.out.trans (hb.mono HB5.out.size))
                   have HA6 := Lib.hid (HA5.out.below HDE.out hb)
                   have HC6 := Lib.hid (HC5.out.below HDC.out hb)
                   have c62 : w6.cell? ⟨y, 2, none⟩ = some (.int .i64 s.count) := HA6.out.ref.count
                   have c63 : w6.cell? ⟨y, 3, none⟩ = some (.bool s.dead) := HA6.out.ref.dead
                   clear hb))
            all_goals
              go_wp2_with fail
              go_ret
              exact ⟨rfl, (HBA.out.trans (HBX.out.mono HBA.out.size)).trans (HB6.out.mono (Nat.le_trans HBA.out.size HBX.out.size))⟩
        · have hdec : decide (j < K.length) = false := by simpa using hlt
          go_wp2_with fail
          have HPE := Lib.hid (HPA.out.below HD.out HBX.out)
          have HCE := HCR
          have HGS := HGA
          have HGC := HGX
          rename World => we
          have HY := Lib.hid HPE.out.ref
          have c2 := HPE.out.ref.count
          have c3 := HPE.out.ref.dead
          have HDE := Lib.hid (disk_dev w.heap.size)
          go_wp2_with fail
          go_region_held3 (fun w' => w'.cell? ⟨y, 2, none⟩ = some (.int .i64 s.count) ∧ w'.cell? ⟨y, 3, none⟩ = some (.bool s.dead)) (first | exact ⟨c2, c3⟩ | exact ⟨c12, c13⟩ | exact ⟨c22, c23⟩ | exact ⟨c32, c33⟩ | exact ⟨c42, c43⟩ | exact ⟨c52, c53⟩ | exact ⟨c62, c63⟩)
            (first
              | (go_at_call 10
                 refine (stands_low (HPE.out.below HDE.out (below_drew we 0)) HGS.out.1).mono ?_
                 rintro e w1 ⟨rfl, hb⟩
                 have HB1 : Hid (Below we.heap.size we w1) := Lib.hid ⟨hb.os, hb.tape, hb.output, hb.size, hb.block⟩
                 have HA1 := Lib.hid (HPE.out.below HDE.out HB1.out)
                 have HC1 := Lib.hid (HCE.out.below HDC.out HB1.out)
                 have c12 : w1.cell? ⟨y, 2, none⟩ = some (.int .i64 s.count) := HA1.out.ref.count
                 have c13 : w1.cell? ⟨y, 3, none⟩ = some (.bool s.dead) := HA1.out.ref.dead
                 clear hb)
              | (go_at_call 11
                 refine (HDE.out.writes HA1.out.rep HGS.out.1 HA1.out.vars).mono ?_
                 rintro e w2 ⟨rfl, hb⟩
                 have HB2 := Lib.hid (HB1.out.trans (hb.mono HB1.out.size))
                 have HA2 := Lib.hid (HA1.out.below HDE.out hb)
                 have HC2 := Lib.hid (HC1.out.below HDC.out hb)
                 have c22 : w2.cell? ⟨y, 2, none⟩ = some (.int .i64 s.count) := HA2.out.ref.count
                 have c23 : w2.cell? ⟨y, 3, none⟩ = some (.bool s.dead) := HA2.out.ref.dead
                 clear hb)
              | (go_at_call 12
                 refine (HDE.out.dead HA2.out.rep HGS.out.1 HA2.out.vars).mono ?_
                 rintro e w3 ⟨rfl, hb⟩
                 have HB3 := Lib.hid (HB2.out.trans (hb.mono HB2.out.size))
                 have HA3 := Lib.hid (HA2.out.below HDE.out hb)
                 have HC3 := Lib.hid (HC2.out.below HDC.out hb)
                 have c32 : w3.cell? ⟨y, 2, none⟩ = some (.int .i64 s.count) := HA3.out.ref.count
                 have c33 : w3.cell? ⟨y, 3, none⟩ = some (.bool s.dead) := HA3.out.ref.dead
                 clear hb)
              | (go_at_call 9
                 refine (same_pairs HC3.out.rep HA3.out.rep).mono ?_
                 rintro e w4 ⟨rfl, hb⟩
                 have HB4 := Lib.hid (HB3.out.trans (hb.mono HB3.out.size))
                 have HA4 := Lib.hid (HA3.out.below HDE.out hb)
                 have HC4 := Lib.hid (HC3.out.below HDC.out hb)
                 have c42 : w4.cell? ⟨y, 2, none⟩ = some (.int .i64 s.count) := HA4.out.ref.count
                 have c43 : w4.cell? ⟨y, 3, none⟩ = some (.bool s.dead) := HA4.out.ref.dead
                 clear hb)
              | (go_at_call 13
                 refine (dsame_pairs HC4.out.ref HA4.out.ref HGC.out.1.1).mono ?_
                 rintro e w5 ⟨rfl, hb⟩
                 have HB5 := Lib.hid (HB4.out.trans (hb.mono HB4.out.size))
                 have HA5 := Lib.hid (HA4.out.below HDE.out hb)
                 have HC5 := Lib.hid (HC4.out.below HDC.out hb)
                 have c52 : w5.cell? ⟨y, 2, none⟩ = some (.int .i64 s.count) := HA5.out.ref.count
                 have c53 : w5.cell? ⟨y, 3, none⟩ = some (.bool s.dead) := HA5.out.ref.dead
                 clear hb)
              | (go_at_call 14
                 refine (alive_any w5 HA5.out.vars).mono ?_
                 rintro e w6 ⟨rfl, hb⟩
                 have HB6 := Lib.hid (HB5.out.trans (hb.mono HB5.out.size))
                 have HA6 := Lib.hid (HA5.out.below HDE.out hb)
                 have HC6 := Lib.hid (HC5.out.below HDC.out hb)
                 have c62 : w6.cell? ⟨y, 2, none⟩ = some (.int .i64 s.count) := HA6.out.ref.count
                 have c63 : w6.cell? ⟨y, 3, none⟩ = some (.bool s.dead) := HA6.out.ref.dead
                 clear hb))
          all_goals
            go_wp2_with fail
            go_ret
            exact ⟨rfl, (HBA.out.trans (HBX.out.mono HBA.out.size)).trans (HB6.out.mono (Nat.le_trans HBA.out.size HBX.out.size))⟩
end DiskP
end Go.Proofs.YtpmbokklpidohaaGreatDoor
namespace Go.Proofs.YtpmbokklpidohaaGreatDoor
open Go.RowKit
namespace DiskP
open DiskM DiskC ErrC

theorem row_list {w : World} {a : Option Addr} {len cap : Nat} {z : List (List Lit)} (h : Frame.IsStructs [.int .i64, .text, .text, .int .i64] w a len cap z) (hsh : Frame.Short z) : ∃ L : List Stp, L.length = len ∧ L.length ≤ 9223372036854775807 ∧ StepsAt w a L := by
  rcases h with ⟨rfl, rfl, rfl, rfl⟩ | ⟨x, rfl, hl, hm, hz, hrow, hcell⟩
  · exact ⟨[], rfl, Nat.zero_le _, fun h => absurd h (Nat.lt_irrefl 0)⟩
  · by_cases h0 : 0 < len
    · obtain ⟨g, o, rfl, hg, hlen, hs⟩ := rows_steps hl hz hrow hsh hcell h0
      exact ⟨_, hlen, by unfold maxLen at hm; omega, fun _ => ⟨g, o, rfl, hg, hs⟩⟩
    · obtain rfl : len = 0 := by omega
      exact ⟨[], rfl, Nat.zero_le _, fun h => absurd h (Nat.lt_irrefl 0)⟩
theorem copies_rows (cut : Int) (a1 a2 : Option Addr) (len1 cap1 len2 cap2 : Nat) (z1 z2 : List (List Lit)) (w : World) (h1 : Frame.IsStructs [.int .i64, .text, .text, .int .i64] w a1 len1 cap1 z1) (hs1 : Frame.Short z1)
    (h2 : Frame.IsStructs [.int .i64, .text, .text, .int .i64] w a2 len2 cap2 z2) (hs2 : Frame.Short z2) (hv : Vars w) :
    Calls Tryz.prog 3 #[.int .i64 cut, .slice a1 len1 cap1, .slice a2 len2 cap2] w fun e w' => e = .returned (.bool true) ∧ Below w.heap.size w w' := by
  obtain ⟨L, hl, hb, hst⟩ := row_list h1 hs1
  obtain ⟨K, kl, kb, kst⟩ := row_list h2 hs2
  subst hl
  subst kl
  exact copies_any cut a1 cap1 L a2 cap2 K w hb kb hst kst hv
end DiskP
end Go.Proofs.YtpmbokklpidohaaGreatDoor
