/-
  Proved: whatever row l of payloads (texts) and whatever row of cuts (integers of 64 bits): of the first 150 payloads (those of at most 300 bytes), appended one by one, each to the log that is opened anew, with the power lost after as many raw writes as the cut says, or not at all, and the disk opened again and again with cuts till it has power: Append answers a fault just where the power is lost, Open just so, Open of what is whole writes nothing, and the log that is opened has all that was answered, and nothing else (P5.4); alive() answers true: LogCuts returns true and writes nothing that was there.
  Conditions: the library's tables that the row lists read as the program's text lays them (the card ties them).
-/
import Derived.Test.YtinoghanlokenaaGreatDoorCards
import Derived.Test.YtinoghanlokenaaGreatDoorTie
import Derived.Test.YtinoghanlokenaaGreatDoorLogVars
import Derived.Test.YtinoghanlokenaaGreatDoorLogVars
import Derived.Test.YtinoghanlokenaaGreatDoorLogCuts
import Derived.Test.YtinoghanlokenaaGreatDoorTextsAt
import Derived.Deep.CutRange
import Derived.Deep.CutBlock
import Derived.Deep.RegionWith
import Derived.Deep.RegionHeld3
import Derived.WalkKit
import Derived.ProofKit
import Derived.OpenShut
import Derived.ShutString
import Derived.ChangeOld
import Derived.Below
import Derived.SizedLaws
import Derived.LaidLaws
import Derived.Deep.DeepHandedRow
import Derived.SevenTiedAt
import Derived.SliceStrings
namespace Go.Proofs.YtinoghanlokenaaGreatDoor.logCuts
open Go.ChangeShapes Go.WideShapes Go.ChangeAt Go.RowKit
open Go.ChangeMaps (open_string shut_string)
open LogP LogC FrameC FrameM TextR DiskM DiskC ErrC
set_option linter.unusedVariables false
set_option linter.unusedSimpArgs false

theorem own : ownKnob Tryz.prog.godebug = none := by kernel_rfl
theorem laidOut : laidOutB Tryz.prog = true := by kernel_rfl

def IsRow (k : IntKind) (w : World) (a : Option Addr) (len cap : Nat) (zs : List Int) : Prop :=
  (a = none ∧ len = 0 ∧ cap = 0 ∧ zs = []) ∨
  ∃ x, a = some x ∧ len ≤ cap ∧ cap ≤ maxLen ∧ zs.length = cap ∧ (∀ i, i < zs.length → w.cell? (x.add i) = some (.int k (zs.getD i 0))) ∧ ∀ n ∈ zs, (Lit.int k n).wf = true
theorem bulk_lits {H : Type} (k : IntKind) (l : List Int) : Rows.uptoBulkAll (lits (H := H) k l) = l.length := by
  induction l with
  | nil => rfl
  | cons x r ih => simp only [lits, List.map_cons, Rows.uptoBulkAll, Rows.uptoBulk, List.length_cons] at ih ⊢; omega

/-- a slice of texts that came in: nil, or a row of 'cap' texts, the first 'len' its elements -/
def IsTexts (w : World) (a : Option Addr) (len cap : Nat) (zs : List ByteArray) : Prop :=
  (a = none ∧ len = 0 ∧ cap = 0 ∧ zs = []) ∨
  ∃ x, a = some x ∧ len ≤ cap ∧ cap ≤ maxLen ∧ zs.length = cap ∧ (∀ i, i < zs.length → w.cell? (x.add i) = some (.string (zs.getD i ByteArray.empty))) ∧ ∀ s ∈ zs, s.size ≤ maxLen
/-- how many texts and letters -/
def bulkTexts : List ByteArray → Nat
  | [] => 0
  | s :: r => s.size + 1 + bulkTexts r
theorem bulkTexts_append (l r : List ByteArray) : bulkTexts (l ++ r) = bulkTexts l + bulkTexts r := by
  induction l with
  | nil => simp [bulkTexts]
  | cons x l ih => simp only [List.cons_append, bulkTexts, ih]; omega
theorem bulk_strs {H : Type} (l : List ByteArray) : Rows.uptoBulkAll (strs (H := H) l) = bulkTexts l := by
  induction l with
  | nil => rfl
  | cons x r ih => simp only [strs, List.map_cons, Rows.uptoBulkAll, Rows.uptoBulk, bulkTexts] at ih ⊢; rw [ih]; simp

set_option maxRecDepth 100000 in
set_option maxHeartbeats 8000000 in
theorem walk (a0 : Option Addr) (len0 cap0 : Nat) (z0 : List ByteArray) (a1 : Option Addr) (len1 cap1 : Nat) (z1 : List Int) (w : World) (w0 : IsTexts w a0 len0 cap0 z0) (r0 : cap0 * 16 ≤ 140737488351232) (w1 : IsRow .i64 w a1 len1 cap1 z1) (r1 : cap1 * 8 ≤ 140737488351232) (hv : LogP.VarsT w) :
    Calls Tryz.prog 4 #[.slice a0 len0 cap0, .slice a1 len1 cap1] w fun e w' => e = .returned (.bool true) ∧ Below w.heap.size w w' := by
  have HV := Lib.hid hv
  have HT : Hid (∀ i, i < len0 → ∃ g o, a0 = some ⟨g, o, none⟩ ∧ g < w.heap.size ∧ w.cell? ⟨g, o + i, none⟩ = some (.string (z0.getD i ByteArray.empty))) := Lib.hid (by
    intro i hi
    rcases w0 with ⟨-, h, -, -⟩ | ⟨x, rfl, hl, hm, hz, hcell, hsz⟩
    · omega
    · obtain ⟨g, o, rfl, hb, hc⟩ := CodeC.texts_plain hcell (by omega)
      exact ⟨g, o, rfl, hb, hc i (by omega)⟩)
  have HI : Hid (∀ i, i < len1 → ∃ g o, a1 = some ⟨g, o, none⟩ ∧ g < w.heap.size ∧ w.cell? ⟨g, o + i, none⟩ = some (.int .i64 (z1.getD i 0))) := Lib.hid (by
    intro i hi
    rcases w1 with ⟨-, h, -, -⟩ | ⟨x, rfl, hl, hm, hz, hcell, hsz⟩
    · omega
    · obtain ⟨g, o, spot⟩ := x
      have hspot : spot = none := by simpa [Addr.add] using World.cell?_spot (hcell 0 (by omega))
      subst hspot
      refine ⟨g, o, rfl, CodeC.block_of (by simpa [Addr.add] using hcell 0 (by omega)), ?_⟩
      rw [← Go.WideShapes.add_plain]
      exact hcell i (by omega))
  have hm0 : len0 ≤ 9223372036854775807 := by
    rcases w0 with ⟨-, h, -, -⟩ | ⟨x, -, hl, hm, -⟩
    · omega
    · unfold maxLen at hm; omega
  have hm1 : len1 ≤ 9223372036854775806 := by
    rcases w1 with ⟨-, h, -, -⟩ | ⟨x, -, hl, hm, -⟩
    · omega
    · omega
  clear hv w0 w1 r0 r1
  obtain ⟨ti, hti, hz0, hz1, hz2⟩ := info_parts info_text
  go_enter Tryz.func4, Tryz.ntmps4
  go_wp2_with fail
  refine (c_new w HV.out).mono ?_
  rintro e w1 ⟨b, F, rfl, hc⟩
  have HC1 := Lib.hid hc
  clear hc
  go_wp2_with fail
  go_loopw [6, 7, 8] (fun vin vk vi wr => ∃ (i k : Nat) (F : Nat → Prop) (cut : Int) (fs : FL) (c : Nat) (d : Bool) (L : List (List UInt8)), vi = .int .i64 i ∧ vk = .int .i64 k ∧ i ≤ len0 ∧ k ≤ len1 ∧ i ≤ 150 ∧ Hid (Cst w.heap.size w wr b F cut fs c d L [] vin (L.map str)) ∧ Hid (fs.length ≤ i ∧ L.length ≤ i)) (fun _ _ vi _ => len0 - (intOf vi).toNat)
  case atStart => exact ⟨0, 0, F, -1, [], 0, false, [], rfl, rfl, Nat.zero_le _, Nat.zero_le _, by omega, HC1, Lib.hid ⟨Nat.zero_le _, Nat.zero_le _⟩⟩
  case round =>
    obtain ⟨i, k, F, cut, fs, c, d, L, rfl, rfl, hi, hk, hi2, HC, HL⟩ := hrel
    rename World => wr
    by_cases hlt : i < len0
    · have hd1 : decide (i < len0) = true := decide_eq_true hlt
      by_cases h150 : i < 150
      · have hd2 : decide ((i : Int) < 150) = true := decide_eq_true (by omega)
        obtain ⟨tb, off, rfl, htb, hcell⟩ := HT.out i hlt
        have HCELL := Lib.hid hcell
        have HTB := Lib.hid htb
        have hcl : wr.cell? ⟨tb, off + i, none⟩ = some (.string (z0.getD i ByteArray.empty)) := by rw [HC.out.below.cell htb]; exact hcell
        have hw : IntKind.i64.wrap (i : Int) = i := IntWalk.i64_in _ ⟨by omega, by omega⟩
        obtain ⟨q, hq⟩ : ∃ q, z0.getD i ByteArray.empty = str q := ⟨_, str_of _⟩
        rw [hq] at hcl HCELL
        clear hcell htb hq
        by_cases hx : 300 < (str q).size
        · have hd3 : decide ((300 : Int) < ((str q).size : Int)) = true := decide_eq_true (by omega)
          go_wp2_with fail
          go_roundw
          case rel => exact ⟨i + 1, k, F, cut, fs, c, d, L, by go_num, rfl, by omega, hk, by omega, HC, Lib.hid (by have := HL.out; omega)⟩
          case measure => simp [intOf]; omega
        · have hd3 : decide ((300 : Int) < ((str q).size : Int)) = false := decide_eq_false (by omega)
          have HQ : Hid (q.length ≤ 300) := Lib.hid (by rw [← str_size q]; omega)
          clear hx
          go_upto_if 32 with fail
          go_cut [7, 9] from 29 to 39 (fun v7 v9 wx => ∃ (k2 : Nat) (n : Int), v7 = .int .i64 k2 ∧ v9 = .int .i64 n ∧ k2 ≤ len1 ∧ wr = wx)
          case first =>
            by_cases hlk : k < len1
            · have hd4 : decide (k < len1) = true := decide_eq_true hlk
              obtain ⟨ib, io, rfl, hib, hic⟩ := HI.out k hlk
              have hil : wr.cell? ⟨ib, io + k, none⟩ = some (.int .i64 (z1.getD k 0)) := by rw [HC.out.below.cell hib]; exact hic
              have hwk : IntKind.i64.wrap (k : Int) = k := IntWalk.i64_in _ ⟨by omega, by omega⟩
              go_wp2_with fail
              go_meet
              case rel => exact ⟨k + 1, _, by go_num, rfl, by omega, rfl⟩
            · have hd4 : decide (k < len1) = false := decide_eq_false hlk
              go_wp2_with fail
              go_meet
              case rel => exact ⟨k, _, rfl, rfl, hk, rfl⟩
          case rest =>
            obtain ⟨k2, n, rfl, rfl, hk2, rfl⟩ := hcut
            clear hd1 hd2 hd3 hk
            obtain ⟨M, hM⟩ : ∃ M, M = L.map str := ⟨_, rfl⟩
            rw [← hM] at HC
            have HM := Lib.hid hM
            clear hM
            go_wp2_with fail
            refine (c_restart (-1) HC.out).mono ?_
            rintro e w2 ⟨rfl, F2, hc⟩
            have HC2 := Lib.hid hc
            clear hc
            go_wp2_with fail
            refine (c_open HC2.out).mono ?_
            unfold OpenC
            rintro e w3 (⟨p, nb, lv, F3, fs3, c3, rfl, hl, hfl, hc0⟩ | ⟨f, F3, rfl, -, -, hT⟩)
            rotate_left
            · exact absurd rfl hT
            obtain rfl := hc0 rfl
            have HL3 := Lib.hid hl
            have HN3 : Hid (fs3.length ≤ i ∧ L.length ≤ i) := Lib.hid (by have := HL.out; omega)
            clear hl hfl hc0
            go_wp2_with fail
            refine (says_true HL3.out.pl (by have := HN3.out; omega) HM.out HL3.out.c.row).mono ?_
            rintro e w4 ⟨rfl, hb⟩
            have HL4 := Lib.hid (HL3.out.onto hb)
            clear hb
            go_wp2_with fail
            refine (l_writes HL4.out).mono ?_
            rintro e w5 ⟨he, hl⟩
            have he : e = .returned (.int .i64 0) := he
            subst he
            have HL5 := Lib.hid hl
            clear hl
            go_wp2_with fail
            refine (l_restart n HL5.out).mono ?_
            rintro e w6 ⟨rfl, F6, hl⟩
            have HL6 := Lib.hid hl
            have hcl6 : w6.cell? ⟨tb, off + i, none⟩ = some (.string (str q)) := by rw [hl.c.below.cell HTB.out]; exact HCELL.out
            clear hl hcl
            go_wp2_with fail
            refine (l_append q (by have := HQ.out; omega) HL6.out (by have := HN3.out; omega) (by have := HN3.out; omega) (by decide)).mono ?_
            unfold AppC
            rintro e w7 (⟨F7, fs7, c7, rfl, hc, hle⟩ | ⟨f, F7, fs7, c7, T, rfl, hc, hle⟩)
            · have HC7 := Lib.hid hc
              have HN7 : Hid (fs7.length ≤ i + 1) := Lib.hid (by have := HN3.out; omega)
              clear hc hle hcl6
              have HCD : Hid (∀ w', Below w7.heap.size w7 w' → Calls Tryz.prog 26 #[.pointer (some ⟨b, 0, none⟩)] w' fun e w1 => e = .returned (.bool false) ∧ Below w7.heap.size w7 w1) := Lib.hid (fun w' h => (c_dead (HC7.out.onto h)).mono (by
                rintro e w1 ⟨rfl, hb⟩
                exact ⟨rfl, h.trans (hb.mono h.size)⟩))
              go_upto_region 18 with fail
              go_cut [77] from 73 to 77 (fun v77 wx => v77 = .bool false ∧ Hid (Below w7.heap.size w7 wx))
              case first =>
                go_region_with
                  (go_at_call 26
                   refine (HCD.out w7.drew (show Below w7.heap.size w7 w7.drew from ⟨rfl, rfl, rfl, Nat.le_refl _, fun _ _ => rfl⟩)).mono ?_
                   rintro e w8 ⟨rfl, hb⟩
                   have HB8 := Lib.hid hb
                   clear hb)
                all_goals (go_wp2_with fail)
                all_goals (go_meet)
                all_goals (case rel => exact ⟨rfl, HB8⟩)
              case rest =>
                obtain ⟨rfl, HBX⟩ := hcut
                have HC8 := Lib.hid (HC7.out.onto HBX.out)
                have hcl8 : wc.cell? ⟨tb, off + i, none⟩ = some (.string (str q)) := by rw [HC8.out.below.cell HTB.out]; exact HCELL.out
                have hw8 : IntKind.i64.wrap (i : Int) = i := IntWalk.i64_in _ ⟨by omega, by omega⟩
                clear HCD HBX
                have hbw : Below wc.heap.size wc (wc.alloc (.cells #[.string (str q)] 9)) := (Below.refl _ _).alloc (Nat.le_refl _) _
                have HROW := Lib.hid (own_keeps HC8.out.row (Keeps.of_below (S := fun _ => False) hbw) (fun _ _ e => e))
                have HSRC := Lib.hid (built_row wc (str q))
                have hML : Hid (M.length ≤ 150) := Lib.hid (by rw [HM.out, List.length_map]; have := HN3.out; omega)
                have HBW := Lib.hid hbw
                have HW8 := Lib.hid HC8.out.ln.hw
                clear hbw
                go_wp2_with (at_builtin; refine wpList_app rfl _ _ 42 rfl ti _ Tryz.underlying42 hti hz0 hz1 hz2 rfl w.heap.size _ _ rfl HROW.out _ _ _ rfl HSRC.out ?c1 ?c2 ?_)
                case c1 => have := hML.out; simp; omega
                case c2 => have := HW8.out; simp; omega
                intro ao cap w9 hown hgr hat
                have HC9 := Lib.hid (HC8.out.grown HBW.out hgr hown (hat.imp id (fun h => h.trans (by simp))))
                have HMQ : Hid (M ++ [str q] = (L ++ [q]).map str) := Lib.hid (by rw [HM.out]; simp)
                rw [HMQ.out] at HC9
                clear hown hgr hat HROW HSRC
                go_wp2_with fail
                go_roundw
                case rel => exact ⟨i + 1, k2, F7, n, fs7, c7, false, L ++ [q], by go_num, rfl, by omega, hk2, by omega, HC9, Lib.hid (by have := HN7.out; have := HN3.out; simp; omega)⟩
                case measure => simp [intOf]; omega
            · have HC7 := Lib.hid hc
              have HN7 : Hid (fs7.length ≤ i + 1) := Lib.hid (by have := HN3.out; omega)
              clear hc hle hcl6
              have HCD : Hid (∀ w', Below w7.heap.size w7 w' → Calls Tryz.prog 26 #[.pointer (some ⟨b, 0, none⟩)] w' fun e w1 => e = .returned (.bool true) ∧ Below w7.heap.size w7 w1) := Lib.hid (fun w' h => (c_dead (HC7.out.onto h)).mono (by
                rintro e w1 ⟨rfl, hb⟩
                exact ⟨rfl, h.trans (hb.mono h.size)⟩))
              go_upto_region 18 with fail
              go_cut [77] from 73 to 77 (fun v77 wx => v77 = .bool false ∧ Hid (Below w7.heap.size w7 wx))
              case first =>
                go_region_with
                  (go_at_call 26
                   refine (HCD.out w7.drew (show Below w7.heap.size w7 w7.drew from ⟨rfl, rfl, rfl, Nat.le_refl _, fun _ _ => rfl⟩)).mono ?_
                   rintro e w8 ⟨rfl, hb⟩
                   have HB8 := Lib.hid hb
                   clear hb)
                all_goals (go_wp2_with fail)
                all_goals (go_meet)
                all_goals (case rel => exact ⟨rfl, HB8⟩)
              case rest =>
                obtain ⟨rfl, HBX⟩ := hcut
                have HC8 := Lib.hid (HC7.out.onto HBX.out)
                have hcl8 : wc.cell? ⟨tb, off + i, none⟩ = some (.string (str q)) := by rw [HC8.out.below.cell HTB.out]; exact HCELL.out
                have hw8 : IntKind.i64.wrap (i : Int) = i := IntWalk.i64_in _ ⟨by omega, by omega⟩
                clear HCD HBX
                have HTT : Hid (T.length ≤ T.length) := Lib.hid (Nat.le_refl _)
                go_wp2_with fail
                obtain ⟨wo, hwo⟩ : ∃ wo : World, wo = wc := ⟨_, rfl⟩
                go_loopw [7, 10, 11] (fun vk va ve wx => ∃ k3 : Nat, vk = .int .i64 k3 ∧ k3 ≤ len1 ∧ Hid (Inn w.heap.size w wx b L T u6 M (i + 1) va ve)) (fun vk _ ve _ => (len1 - (intOf vk).toNat) + badE ve)
                case atStart => exact ⟨k2, rfl, hk2, Lib.hid (.inl ⟨f, F7, n, fs7, c7, rfl, HC8.out, HN7.out⟩)⟩
                case round =>
                  obtain ⟨k3, rfl, hk3, HIN⟩ := hrel
                  rename World => wx
                  have hwk : IntKind.i64.wrap (k3 : Int) = k3 := IntWalk.i64_in _ ⟨by omega, by omega⟩
                  rcases HIN.out with ⟨f3, F3, cut3, fs3, c3, rfl, hc3, hn3⟩ | ⟨p3, nb3, lv3, F3, cut3, fs3, c3, rfl, rfl, hl3, hn3⟩
                  · have HC3 := Lib.hid hc3
                    have HN3 := Lib.hid hn3
                    clear hc3 hn3 HIN
                    go_wp2_with fail
                    refine (c_dead HC3.out).mono ?_
                    rintro e w10 ⟨rfl, hb⟩
                    have HC10 := Lib.hid (HC3.out.onto hb)
                    clear hb
                    go_upto_if 92 with fail
                    go_cut [7, 9] from 89 to 99 (fun v7 v9 wy => ∃ (k4 : Nat) (n4 : Int), v7 = .int .i64 k4 ∧ v9 = .int .i64 n4 ∧ k4 ≤ len1 ∧ w10 = wy ∧ Hid ((k3 < len1 ∧ k4 = k3 + 1) ∨ (k3 = len1 ∧ k4 = k3 ∧ n4 = -1)))
                    case first =>
                      by_cases hlk : k3 < len1
                      · have hd4 : decide (k3 < len1) = true := decide_eq_true hlk
                        obtain ⟨ib, io, rfl, hib, hic⟩ := HI.out k3 hlk
                        have hil : w10.cell? ⟨ib, io + k3, none⟩ = some (.int .i64 (z1.getD k3 0)) := by rw [HC10.out.below.cell hib]; exact hic
                        go_wp2_with fail
                        go_meet
                        case rel => exact ⟨k3 + 1, _, by go_num, rfl, by omega, rfl, Lib.hid (.inl ⟨hlk, rfl⟩)⟩
                      · have hd4 : decide (k3 < len1) = false := decide_eq_false hlk
                        go_wp2_with fail
                        go_meet
                        case rel => exact ⟨k3, _, rfl, rfl, hk3, rfl, Lib.hid (.inr ⟨by omega, rfl, rfl⟩)⟩
                    case rest =>
                      obtain ⟨k4, n4, rfl, rfl, hk4, rfl, HK4⟩ := hcut
                      go_wp2_with fail
                      refine (c_restart n4 HC10.out).mono ?_
                      rintro e w11 ⟨rfl, F11, hc⟩
                      have HC11 := Lib.hid hc
                      clear hc
                      go_wp2_with fail
                      refine (c_open HC11.out).mono ?_
                      unfold OpenC
                      rintro e w12 (⟨p4, nb4, lv4, F4, fs4, c4, rfl, hl, hfl, -⟩ | ⟨f4, F4, rfl, hc, h0, -⟩)
                      · have HL12 := Lib.hid hl
                        have HN12 : Hid (fs4.length ≤ i + 1) := Lib.hid (by rw [hfl]; exact HN3.out)
                        clear hl hfl
                        have HCD : Hid (∀ w', Below w12.heap.size w12 w' → Calls Tryz.prog 26 #[.pointer (some ⟨b, 0, none⟩)] w' fun e w1 => e = .returned (.bool false) ∧ Below w12.heap.size w12 w1) := Lib.hid (fun w' h => (c_dead (HL12.out.c.onto h)).mono (by
                          rintro e w1 ⟨rfl, hb⟩
                          exact ⟨rfl, h.trans (hb.mono h.size)⟩))
                        go_upto_region 30 with fail
                        go_cut [113] from 109 to 113 (fun v113 wy => v113 = .bool false ∧ Hid (Below w12.heap.size w12 wy))
                        case first =>
                          go_region_with
                            (go_at_call 26
                             refine (HCD.out w12.drew (show Below w12.heap.size w12 w12.drew from ⟨rfl, rfl, rfl, Nat.le_refl _, fun _ _ => rfl⟩)).mono ?_
                             rintro e w13 ⟨rfl, hb⟩
                             have HB13 := Lib.hid hb
                             clear hb)
                          all_goals (go_wp2_with fail)
                          all_goals (go_meet)
                          all_goals (case rel => exact ⟨rfl, HB13⟩)
                        case rest =>
                          obtain ⟨rfl, HBX⟩ := hcut
                          have HL13 := Lib.hid (HL12.out.onto HBX.out)
                          clear HCD HBX
                          go_wp2_with fail
                          go_roundw
                          case rel => exact ⟨k4, rfl, hk4, Lib.hid (.inr ⟨p4, nb4, lv4, F4, n4, fs4, c4, rfl, rfl, HL13.out, HN12.out⟩)⟩
                          case measure => have := HK4.out; simp [intOf, badE]; omega
                      · have HC12 := Lib.hid hc
                        have H0 := Lib.hid h0
                        clear hc h0
                        have HCD : Hid (∀ w', Below w12.heap.size w12 w' → Calls Tryz.prog 26 #[.pointer (some ⟨b, 0, none⟩)] w' fun e w1 => e = .returned (.bool true) ∧ Below w12.heap.size w12 w1) := Lib.hid (fun w' h => (c_dead (HC12.out.onto h)).mono (by
                          rintro e w1 ⟨rfl, hb⟩
                          exact ⟨rfl, h.trans (hb.mono h.size)⟩))
                        go_upto_region 30 with fail
                        go_cut [113] from 109 to 113 (fun v113 wy => v113 = .bool false ∧ Hid (Below w12.heap.size w12 wy))
                        case first =>
                          go_region_with
                            (go_at_call 26
                             refine (HCD.out w12.drew (show Below w12.heap.size w12 w12.drew from ⟨rfl, rfl, rfl, Nat.le_refl _, fun _ _ => rfl⟩)).mono ?_
                             rintro e w13 ⟨rfl, hb⟩
                             have HB13 := Lib.hid hb
                             clear hb)
                          all_goals (go_wp2_with fail)
                          all_goals (go_meet)
                          all_goals (case rel => exact ⟨rfl, HB13⟩)
                        case rest =>
                          obtain ⟨rfl, HBX⟩ := hcut
                          have HC13 := Lib.hid (HC12.out.onto HBX.out)
                          clear HCD HBX
                          go_wp2_with fail
                          go_roundw
                          case rel => exact ⟨k4, rfl, hk4, Lib.hid (.inl ⟨f4, F4, n4, fs3, 0, rfl, HC13.out, HN3.out⟩)⟩
                          case measure => have := HK4.out; have := H0.out; simp [intOf, badE]; omega
                  · have HL3 := Lib.hid hl3
                    have HN9 := Lib.hid hn3
                    clear hl3 hn3 HIN
                    go_wp2_with fail
                    refine (c_dead HL3.out.c).mono ?_
                    rintro e w10 ⟨rfl, hb⟩
                    have HL10 := Lib.hid (HL3.out.onto hb)
                    clear hb
                    obtain ⟨av, cv, hu, -⟩ := HL10.out.c.row.open_
                    obtain ⟨n0, hn0⟩ : ∃ n0, n0 = M.length := ⟨_, rfl⟩
                    rw [← hn0] at hu
                    have HNN := Lib.hid hn0.symm
                    have hnb : n0 ≤ 150 := by have := HN3.out; rw [hn0, HM.out, List.length_map]; omega
                    have hu6 : u6 = .slice av n0 cv := hu
                    clear hn0 hu
                    subst hu6
                    have hncv : n0 ≤ cv := by
                      rcases HL10.out.c.row.2 with ⟨e, -⟩ | ⟨g, cap, cur, e, -, -, h5, -⟩
                      · cases e; exact Nat.le_refl _
                      · cases e
                        rw [← HNN.out]; exact h5
                    have HOLD : Hid (∀ w', Below w10.heap.size w10 w' → (av = none → n0 = 0) ∧ ∀ g, av = some g → ∀ j u, (M.map Value.string)[j]? = some u → w'.cell? (g.add j) = some u) := Lib.hid (fun w' hb => by
                      have hr : OwnT w' w.heap.size (.slice av n0 cv) M := own_keeps HL10.out.c.row (Keeps.of_below (S := fun _ => False) hb) (fun _ _ e => e)
                      have hcs := fun g (hg : (Value.slice av n0 cv).ownBlock = some g) => World.ownsRow.cells hr (g := g) hg
                      rcases hr.2 with ⟨e, -⟩ | ⟨g, cap, cur, e, -⟩
                      · cases e
                        exact ⟨fun _ => rfl, fun g e => (by cases e)⟩
                      · cases e
                        exact ⟨fun e => (by cases e), fun g' e => (by cases e; exact hcs g rfl)⟩)
                    have HSF : Hid (∀ w' ao cap, Below w10.heap.size w10 w' → Calls Tryz.prog 25 #[.pointer (some ⟨p3, 0, none⟩), .slice ao (n0 + 1) cap] w' fun e w1 => e = .returned (.bool false) ∧ Below w10.heap.size w10 w1) := Lib.hid (fun w' ao cap hb => (says_false (HL10.out.pl.below hb) ao (n0 + 1) cap (by rw [← HNN.out, HM.out, List.length_map]; omega)).mono (by
                      rintro e w1 ⟨rfl, rfl⟩
                      exact ⟨rfl, hb⟩))
                    have hsl : ∀ w', (Instr.slice 42 (.slice av n0 cv) none (some (.int .i64 (n0 : Int))) (some (.int .i64 (n0 : Int)))).run Tryz.prog w' = .ok (.slice av n0 n0) w' := fun w' => slice_full av n0 cv hncv w'
                    have hcl10 : w10.cell? ⟨tb, off + i, none⟩ = some (.string (str q)) := by rw [HL10.out.c.below.cell HTB.out]; exact HCELL.out
                    have hb0 : Below w10.heap.size w10 (w10.alloc (.cells #[.string (str q)] 9)) := (Below.refl _ _).alloc (Nat.le_refl _) _
                    have hbda : Hid (Below w10.heap.size w10 (w10.alloc (.cells #[.string (str q)] 9)).drew) := Lib.hid ⟨hb0.os, hb0.tape, hb0.output, hb0.size, hb0.block⟩
                    have hcd : Hid ((w10.alloc (.cells #[.string (str q)] 9)).drew.cell? ⟨w10.heap.size, 0, none⟩ = some (.string (str q))) := Lib.hid (show (w10.alloc (.cells #[.string (str q)] 9)).cell? ⟨w10.heap.size, 0, none⟩ = _ by rw [World.cell?_alloc_at _ _ _ _ rfl]; rfl)
                    clear hb0
                    have htb10 : tb < w10.heap.size := Nat.lt_of_lt_of_le HTB.out HL10.out.c.ln.hw
                    go_upto_region 32 with fail
                    go_cut [127] from 114 to 127 (fun v127 wy => v127 = .bool false ∧ Hid (Below w10.heap.size w10 wy))
                    case first =>
                      go_region_held3 (fun w' => w'.cell? ⟨tb, off + i, none⟩ = some (.string (str q))) (first | exact hcl10 | assumption | go_keep)
                        (first
                          | (go_at_call 25
                             refine (HSF.out _ _ _ HB11.out).mono ?_
                             rintro e w12 ⟨rfl, hb⟩
                             have HB12 := Lib.hid hb
                             have hcl12 : w12.cell? ⟨tb, off + i, none⟩ = some (.string (str q)) := by rw [hb.cell htb10]; exact hcl10
                             clear hb)
                          | ((refine step_append_full rfl _ _ _ (by rfl) 9 ti _ Tryz.underlying42 hti hz0 hz1 hz2 rfl av n0 M (by simp [Act.eval]) HNN.out (HOLD.out _ hbda.out).1 (HOLD.out _ hbda.out).2 ⟨w10.heap.size, 0, none⟩ (str q) (by simp [Act.eval]) hcd.out (by omega) ?_
                              intro ao' cap' w11 hgr
                              have HB11 : Hid (Below w10.heap.size w10 w11) := Lib.hid (hbda.out.trans ⟨hgr.os, hgr.tape, hgr.output, hgr.size, fun k hk => hgr.block k (Nat.lt_of_lt_of_le hk hbda.out.size) (by simp)⟩)
                              have hcl11 : w11.cell? ⟨tb, off + i, none⟩ = some (.string (str q)) := by rw [HB11.out.cell htb10]; exact hcl10
                              clear hgr)))
                      go_wp2_with fail
                      go_meet
                      case rel => exact ⟨rfl, HB12⟩
                    case rest =>
                      obtain ⟨rfl, HBX⟩ := hcut
                      have HL11 := Lib.hid (HL10.out.onto HBX.out)
                      clear HOLD HSF hsl hcl10 hbda hcd HBX
                      go_wp2_with fail
                      refine (says_true HL11.out.pl (by have := HN3.out; omega) HM.out HL11.out.c.row).mono ?_
                      rintro e w12 ⟨rfl, hb⟩
                      have HL12 := Lib.hid (HL11.out.onto hb)
                      rw [HM.out] at HL12
                      clear hb
                      go_wp2_with fail
                      go_roundw
                      case rel => exact ⟨i + 1, k3, F3, cut3, fs3, c3, false, L, by go_num, rfl, by omega, hk3, by omega, Lib.hid HL12.out.c, Lib.hid (by have := HN9.out; have := HN3.out; omega)⟩
                      case measure => simp [intOf]; omega
      · have hd2 : decide ((i : Int) < 150) = false := decide_eq_false (by omega)
        go_wp2_with fail
        refine (lalive_any wr HC.out.vars).mono ?_
        rintro e w2 ⟨rfl, hb⟩
        have HB := Lib.hid (HC.out.below.trans (hb.mono HC.out.ln.hw))
        clear hb
        go_wp2_with fail
        go_ret
        exact ⟨rfl, HB.out⟩
    · have hd1 : decide (i < len0) = false := decide_eq_false hlt
      go_wp2_with fail
      refine (lalive_any wr HC.out.vars).mono ?_
      rintro e w2 ⟨rfl, hb⟩
      have HB := Lib.hid (HC.out.below.trans (hb.mono HC.out.ln.hw))
      clear hb
      go_wp2_with fail
      go_ret
      exact ⟨rfl, HB.out⟩

set_option maxRecDepth 100000 in
theorem contract (H : Type) (enc : TypeId × Value → H) (W : World) (base : Nat) (args : Array Value) (ds gs : List (DataW H)) (before : List MemPlace)
    (hval0 : ∀ (j : Nat) t v, Tryz.f4.params[j]? = some t → args[j]? = some v → Value.okWide Tryz.prog W .any base t v)
    (hW : DataW.Whole enc Tryz.prog Tryz.f4.params.toList Rows.logCutsSpec.vars false W args.toList ds gs before)
    (hsz0 : (DataW.weightsEach Tryz.prog (Tryz.f4.params.toList ++ (OpenSpec.ofChange Rows.logCutsSpec).bare.plain.varTypes Tryz.prog) (ds ++ gs)).all (· ≤ reachBytes) = true)
    (hv : LogP.VarsT W) (hk : True) :
    Calls Tryz.prog 4 args W fun e W' => ∃ v, e = .returned v ∧ Rows.logCutsSpec.post enc Tryz.prog Tryz.f4 false true false false W args v W' := by
  have hval : ∀ (j : Nat) t v, Tryz.f4.params[j]? = some t → args[j]? = some v → Value.okWide Tryz.prog W .any base t v := hval0
  have hW' := hW
  obtain ⟨p, q, hA0, hV, rfl, hfz, hnd⟩ := hW
  have hA : DataW.TrodAll enc Tryz.prog W 0 (fun _ => true) true Tryz.f4.params.toList args.toList ds p := hA0
  have hsz : (DataW.weightsEach Tryz.prog (Tryz.f4.params.toList ++ Rows.logCutsSpec.plain.varTypes Tryz.prog) (ds ++ gs)).all (· ≤ reachBytes) = true := hsz0
  rw [Tryz.params4] at hA hval hsz
  obtain ⟨v0, vs0, d0, ds0, p0, q0, hargs, rfl, rfl, h0, rr0⟩ := trodAll_cons hA
  obtain ⟨v1, vs1, d1, ds1, p1, q1, rfl, rfl, rfl, h1, rr1⟩ := trodAll_cons rr0
  obtain ⟨rfl, rfl, rfl⟩ := trodAll_nil rr1
  obtain rfl : args = #[v0, v1] := by cases args; simp_all
  obtain ⟨rfl, rfl⟩ := trodVars_none hV
  obtain ⟨a0, len0, cap0, rfl⟩ := okWide_slice Tryz.underlying42 (hval 0 42 v0 rfl rfl)
  have k0 := h0
  have lt0 : ∀ x ∈ p0, x.block < W.heap.size := by obtain ⟨m, hm⟩ := k0; exact DataW.trod_lt m _ _ _ hm
  obtain ⟨z0, w0, r0, ub0⟩ : ∃ zs, IsTexts W a0 len0 cap0 zs ∧ cap0 * 16 ≤ 140737488351232 ∧ (bulkTexts zs + 1) ≤ Rows.uptoBulk d0 := by
    obtain ⟨fuel, hf⟩ := h0
    rcases open_strings Tryz.underlying42 Tryz.underlying9 (by kernel_rfl) hf with ⟨hcs, hx⟩ | ⟨x, l, c, zs, hcs, _, hl, hm, hz, hx, hcell, hwz⟩
    · simp [Value.cells] at hcs
      obtain ⟨rfl, rfl, rfl⟩ := hcs
      simp only [Prod.mk.injEq] at hx
      obtain ⟨hd, _⟩ := hx
      subst hd
      exact ⟨[], .inl ⟨rfl, rfl, rfl, rfl⟩, by omega, by simp [Rows.uptoBulk, bulkTexts]⟩
    · simp [Value.cells] at hcs
      obtain ⟨rfl, rfl, rfl⟩ := hcs
      simp only [Prod.mk.injEq] at hx
      obtain ⟨hd, _⟩ := hx
      subst hd
      have hb := sized_slice hsz (j := 0) (t := 42) (e := 9) rfl rfl Tryz.underlying42
      have hz' : zs.length = cap0 := by simpa using hz
      rw [show Tryz.prog.bytesOf 9 = 16 from by kernel_rfl] at hb
      exact ⟨zs, .inr ⟨_, rfl, hl, hm, hz', hcell, hwz⟩, by simp [strs, reachBytes] at hb; omega, by simp only [Rows.uptoBulk]; rw [bulk_strs, bulk_strs]; rw [← bulkTexts_append, List.take_append_drop]; exact Nat.le_refl _⟩
  obtain ⟨a1, len1, cap1, rfl⟩ := okWide_slice Tryz.underlying57 (hval 1 57 v1 rfl rfl)
  have k1 := h1
  have lt1 : ∀ x ∈ p1, x.block < W.heap.size := by obtain ⟨m, hm⟩ := k1; exact DataW.trod_lt m _ _ _ hm
  obtain ⟨z1, w1, r1, ub1⟩ : ∃ zs, IsRow .i64 W a1 len1 cap1 zs ∧ cap1 * 8 ≤ 140737488351232 ∧ (zs.length + 1) ≤ Rows.uptoBulk d1 := by
    obtain ⟨fuel, hf⟩ := h1
    rcases open_ints Tryz.underlying57 Tryz.underlying3 (by kernel_rfl) hf with ⟨hcs, hx⟩ | ⟨x, l, c, zs, hcs, _, hl, hm, hz, hx, hcell, hwz⟩
    · simp [Value.cells] at hcs
      obtain ⟨rfl, rfl, rfl⟩ := hcs
      simp only [Prod.mk.injEq] at hx
      obtain ⟨hd, _⟩ := hx
      subst hd
      exact ⟨[], .inl ⟨rfl, rfl, rfl, rfl⟩, by omega, by simp [Rows.uptoBulk]⟩
    · simp [Value.cells] at hcs
      obtain ⟨rfl, rfl, rfl⟩ := hcs
      simp only [Prod.mk.injEq] at hx
      obtain ⟨hd, _⟩ := hx
      subst hd
      have hb := sized_slice hsz (j := 1) (t := 57) (e := 3) rfl rfl Tryz.underlying57
      have hz' : zs.length = cap1 := by simpa using hz
      rw [show Tryz.prog.bytesOf 3 = 8 from by kernel_rfl] at hb
      exact ⟨zs, .inr ⟨_, rfl, hl, hm, hz', hcell, hwz⟩, by simp [lits, reachBytes] at hb; omega, by simp only [Rows.uptoBulk]; rw [bulk_lits, bulk_lits]; simp; omega⟩
  clear hA0 hval0
  refine (walk a0 len0 cap0 z0 a1 len1 cap1 z1 W w0 r0 w1 r1 hv).mono fun e W' ⟨he, bel⟩ => ?_
  subst he
  exact ⟨_, rfl, _, _, _, [], _, [], hW', trodAll_mk1 (shut_bool Tryz.underlying4 _), (trodAll_cons_mk (Below.trod laidOut (by kernel_rfl) (of_decide_eq_true (by kernel_rfl)) k0 bel lt0) (trodAll_cons_mk (Below.trod laidOut (by kernel_rfl) (of_decide_eq_true (by kernel_rfl)) k1 bel lt1) trodAll_mk0)), rfl, bel.frame _, fun h => by cases h⟩

theorem reads (os : Os) {H : Type} (enc : TypeId × Value → H) : ∃ places, DataW.whole enc Tryz.prog ((LogP.laidW os).forCall (fun _ _ => 0) ⟨#[], #[.slice none 0 0, .slice none 0 0], []⟩).memory Tryz.f4.params.toList Rows.logCutsSpec.vars false (#[.slice none 0 0, .slice none 0 0] : Array Value).toList 8 = some ([.nil, .nil], [], places) :=
  ⟨[], by kernel_rfl⟩

set_option maxRecDepth 100000 in
theorem lifted (os : Os) (started : os.Started) (H : Type) (enc : TypeId × Value → H) (F : Stop.Interp) :
    ReturnsInHanded {} Tryz.checked os 4 .any ((OpenSpec.ofChange Rows.logCutsSpec).preRow enc Tryz.prog Tryz.f4 Rows.logCutsRow.domain false Rows.logCutsRow.laid) (((OpenSpec.ofChange Rows.logCutsSpec).at F).post enc Tryz.prog Tryz.f4 false true false false) := by
  obtain ⟨places, hx⟩ := reads os enc
  refine returnsInHanded_of_row (C := Tryz.checked) (s := (OpenSpec.ofChange Rows.logCutsSpec)) own started (by kernel_rfl) Tryz.func4
    (witness_row_at (enc := enc) (C := Tryz.checked) false (LogP.laidW os) #[.slice none 0 0, .slice none 0 0] (LogP.laidW_os os) (by kernel_rfl) (by kernel_rfl) (by kernel_rfl)
      (OpenSpec.preRow_of_cond 8 hx (by kernel_rfl) (fun k hk => by cases hk) (by kernel_rfl) (LogP.laidW_met os _))) ?_
  intro W base args ds gs before hval hW _ hcond hsz hL hsh _
  exact contract H enc W base args ds gs before hval hW hsz (LogP.varsT_of hL hsh) trivial

theorem said : Rows.LogCutsSaid :=
  OpenClaim.holds_of_cond 4 Tryz.f4 rfl rfl rfl rfl rfl rfl rfl ⟨rfl, rfl, rfl, rfl, rfl⟩ rfl rfl rfl rfl rfl (by kernel_rfl) Tryz.func4 (by kernel_rfl)
    (of_decide_eq_true (by kernel_rfl)) (by unfold Func.isWrapper; first | (rw [if_pos (by decide +kernel)]; kernel_rfl) | (rw [if_neg (by decide +kernel)]; exact ⟨rfl, rfl⟩))
    (fun os started H enc _ F => by rw [OpenClaim.pre_eq_preRow]; exact lifted os started H enc F)

theorem plain (f : FuncId) (fn : Func) (hf : Tryz.pinned.checked.prog.funcNamed "yankline/yanklinelaw05.LogCuts" = some f) (hfn : Tryz.pinned.checked.prog.funcs[f]? = some fn) :
    true = Tryz.pinned.checked.prog.looks [] ∧ ∀ (j : Nat) t, fn.params[j]? = some t → Tryz.pinned.checked.prog.wantsStandIn t = false := by
  obtain rfl : f = 4 := Option.some.inj ((show Tryz.prog.funcNamed "yankline/yanklinelaw05.LogCuts" = some 4 by kernel_rfl).symm.trans hf) |>.symm
  obtain rfl : fn = Tryz.f4 := (Option.some.inj (Tryz.func4.symm.trans hfn)).symm
  refine ⟨by kernel_rfl, fun j t ht => ?_⟩
  rw [Tryz.params4] at ht
  have hall : ([42, 57] : List Nat).all (fun t => !(Tryz.prog.wantsStandIn t)) = true := by kernel_rfl
  have h := List.all_eq_true.1 hall t (Array.mem_toList_iff.2 (Array.mem_of_getElem? ht))
  have h2 : Tryz.prog.wantsStandIn t = false := by simpa using h
  exact h2

theorem card : Rows.LogCutsCardSaid :=
  Claim7.holds_tied_plain_at .later [] _ _ _ _ said (fun _ h => by cases h) (by kernel_rfl) (fun _ h => by cases h) logCuts_row_tie rfl ⟨rfl, rfl⟩ (by kernel_rfl) rfl plain (by kernel_rfl)

end Go.Proofs.YtinoghanlokenaaGreatDoor.logCuts
namespace Go.Proofs.YtinoghanlokenaaGreatDoor
theorem logCuts_holds : Rows.LogCutsCardSaid := logCuts.card
#print axioms logCuts_holds
end Go.Proofs.YtinoghanlokenaaGreatDoor
