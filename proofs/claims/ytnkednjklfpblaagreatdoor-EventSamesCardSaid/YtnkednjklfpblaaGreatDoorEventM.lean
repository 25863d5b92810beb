/-
  The event that the statements' own 'alive' of layer 9 speaks of (yank, a, b, 1.0.0): it may be; its bytes, its line.
-/
import Derived.Test.YtnkednjklfpblaaGreatDoorEventK
import Derived.Test.YtnkednjklfpblaaGreatDoorEventW
import Derived.Test.YtnkednjklfpblaaGreatDoorNameP2
import Derived.Test.YtnkednjklfpblaaGreatDoorVerP3
import Derived.Test.YtnkednjklfpblaaGreatDoorVerLay
namespace Go.Proofs.YtnkednjklfpblaaGreatDoor
open Go.RowKit Go.Sort
namespace EvA
open StrC EvF EvC TextR CodeM CodeC
open VerC (Vw)
set_option linter.unusedSimpArgs false
set_option linter.unusedVariables false

def e0 : EvG := ⟨3, [97], [98], [49, 46, 48, 46, 48], none, 0, [], 0, 0, 0, [], []⟩
theorem hold_a : NameC.holdCode [97] = 0 := by decide +kernel
theorem is_b : NameM.isN [98] = true := by decide +kernel
theorem is_v : VerM.isT [49, 46, 48, 46, 48] = true := by decide +kernel
theorem fds3 : FdsK 3 [0, 1, 2] := fun w => fields_3 w
theorem no_spare : sameE (blankL e0 [0, 1, 2]) (kindE 3) = true := by decide +kernel
set_option maxHeartbeats 2000000 in
theorem fits_0 (w : World) : Calls Tryz.prog 28 #[evV e0, .int .i64 0] w fun e w' => e = .returned (.bool true) ∧ Below w.heap.size w w' := by
  have H := Lib.hid (NameC.holder_any [97] (w.alloc (evO e0)) (by decide))
  rw [hold_a] at H
  have HB := Lib.hid (alW w (evO e0))
  obtain ⟨c0, c1, c2, c3, c4, c5, c6, c7, c8, c9⟩ := ev_cells (heap_alloc_new w (evO e0))
  unfold e0 at *
  go_enter Tryz.func28, Tryz.ntmps28
  go_wp2_with (first | (go_at_call 63; refine H.out.mono ?_; rintro e w1 ⟨rfl, hb⟩) | fail)
  go_ret
  exact ⟨rfl, HB.out.trans (hb.mono HB.out.size)⟩
set_option maxHeartbeats 2000000 in
theorem fits_1 (w : World) : Calls Tryz.prog 28 #[evV e0, .int .i64 1] w fun e w' => e = .returned (.bool true) ∧ Below w.heap.size w w' := by
  have H := Lib.hid (NameC.is_any [98] (w.alloc (evO e0)) (by decide))
  rw [is_b] at H
  have HB := Lib.hid (alW w (evO e0))
  obtain ⟨c0, c1, c2, c3, c4, c5, c6, c7, c8, c9⟩ := ev_cells (heap_alloc_new w (evO e0))
  unfold e0 at *
  go_enter Tryz.func28, Tryz.ntmps28
  go_wp2_with (first | (go_at_call 64; refine H.out.mono ?_; rintro e w1 ⟨rfl, hb⟩) | fail)
  go_ret
  exact ⟨rfl, HB.out.trans (hb.mono HB.out.size)⟩
set_option maxHeartbeats 2000000 in
theorem fits_2 (w : World) (hv : Vw w) : Calls Tryz.prog 28 #[evV e0, .int .i64 2] w fun e w' => e = .returned (.bool true) ∧ Below w.heap.size w w' := by
  have HB := Lib.hid (alW w (evO e0))
  have H := Lib.hid (VerC.pIs_any [49, 46, 48, 46, 48] (w.alloc (evO e0)) (hv.gr HB.out))
  rw [is_v] at H
  obtain ⟨c0, c1, c2, c3, c4, c5, c6, c7, c8, c9⟩ := ev_cells (heap_alloc_new w (evO e0))
  unfold e0 at *
  clear hv
  go_enter Tryz.func28, Tryz.ntmps28
  go_wp2_with (first | (go_at_call 65; refine H.out.mono ?_; rintro e w1 ⟨rfl, hb⟩) | fail)
  go_ret
  exact ⟨rfl, HB.out.trans (hb.mono HB.out.size)⟩
set_option maxHeartbeats 8000000 in
set_option maxRecDepth 100000 in
theorem may_e0 (w : World) (hv : Vw w) : Calls Tryz.prog 13 #[evV e0] w fun e w' => e = .returned (.int .i64 0) ∧ Below w.heap.size w w' := by
  have hB0 := alW w (evO e0)
  have hr := heap_alloc_new w (evO e0)
  have hs0 : (w.alloc (evO e0)).heap.size = w.heap.size + 1 := by simp
  have HC : Hid (∀ W, Below (w.heap.size + 1) (w.alloc (evO e0)) W → W.heap[w.heap.size]? = some (evO e0)) := Lib.hid (fun W hb => (hb.block _ (by omega)).trans hr)
  have HIK : Hid (∀ W, Calls Tryz.prog 25 #[.int .u8 3] W fun e w' => e = .returned (.bool true) ∧ Below W.heap.size W w') := Lib.hid (fun W => iskind_of (k := 3) (L := [0, 1, 2]) fds3 W)
  have HSP : Hid (∀ W, Calls Tryz.prog 26 #[evV e0] W fun e w' => e = .returned (.bool false) ∧ Below W.heap.size W w') := Lib.hid (fun W => by
    have h := spare_of (e := e0) (L := [0, 1, 2]) fds3 (by decide) (by decide) W (NeIn.no W)
    rw [show sameE (blankL e0 [0, 1, 2]) (kindE e0.k) = true from no_spare] at h
    exact h)
  have HF := Lib.hid fds3
  have HV := Lib.hid (hv.gr hB0)
  have HF0 := Lib.hid (fun W => fits_0 W)
  have HF1 := Lib.hid (fun W => fits_1 W)
  have HF2 := Lib.hid (fun W (h : Vw W) => fits_2 W h)
  obtain ⟨c0, c1, c2, c3, c4, c5, c6, c7, c8, c9⟩ := ev_cells hr
  have HB := Lib.hid hB0
  have HS0 := Lib.hid hs0
  clear hv hr hB0 hs0
  unfold e0 at *
  go_enter Tryz.func13, Tryz.ntmps13
  go_wp2_with fail
  refine (HIK.out _).mono ?_
  rintro e1 w1 ⟨rfl, hb1⟩
  have HB1 := Lib.hid (hb1.mono (Nat.le_of_eq HS0.out.symm))
  clear hb1 c0 c1 c2 c3 c4 c5 c6 c7 c8 c9
  obtain ⟨c0, c1, c2, c3, c4, c5, c6, c7, c8, c9⟩ := ev_cells (HC.out _ HB1.out)
  go_wp2_with fail
  refine (HSP.out _).mono ?_
  rintro e2 w2 ⟨rfl, hb2⟩
  have HB2 := Lib.hid (HB1.out.trans (hb2.mono (Nat.le_trans (Nat.le_of_eq HS0.out.symm) HB1.out.size)))
  clear hb2 c0 c1 c2 c3 c4 c5 c6 c7 c8 c9
  obtain ⟨c0, c1, c2, c3, c4, c5, c6, c7, c8, c9⟩ := ev_cells (HC.out _ HB2.out)
  go_wp2_with fail
  refine (HF.out _).mono ?_
  rintro e3 w3 ⟨v, rfl, hrow, hb3⟩
  obtain ⟨g, cp, rfl, hg0, hg1, hcl⟩ := fds_at hrow (by decide)
  have HB3 := Lib.hid (HB2.out.trans (hb3.mono (Nat.le_trans (Nat.le_of_eq HS0.out.symm) HB2.out.size)))
  have HFC : Hid (∀ W : World, Below w3.heap.size w3 W → W.cell? ⟨g, 0, none⟩ = some (.int .i64 0) ∧ W.cell? ⟨g, 1, none⟩ = some (.int .i64 1) ∧ W.cell? ⟨g, 2, none⟩ = some (.int .i64 2)) := Lib.hid (fun W hk =>
    ⟨(World.cell?_of_block (a := ⟨g, 0, none⟩) (hk.block g hg1)).trans (hcl 0 (by decide)), (World.cell?_of_block (a := ⟨g, 1, none⟩) (hk.block g hg1)).trans (hcl 1 (by decide)), (World.cell?_of_block (a := ⟨g, 2, none⟩) (hk.block g hg1)).trans (hcl 2 (by decide))⟩)
  have HL : Hid (w.heap.size + 1 ≤ w3.heap.size) := Lib.hid (Nat.le_trans (Nat.le_of_eq HS0.out.symm) HB3.out.size)
  clear hrow hb3 hcl hg0 hg1 c0 c1 c2 c3 c4 c5 c6 c7 c8 c9 HIK HSP HF HB1 HB2
  go_wp2_with fail
  go_loopw [4, 17] (fun _ i wr => ∃ j : Nat, i = .int .i64 j ∧ j ≤ 3 ∧ Hid (Below w3.heap.size w3 wr)) (fun _ i _ => 3 - (intOf i).toNat)
  case atStart => exact ⟨0, rfl, by omega, Lib.hid (Below.refl _ _)⟩
  case round =>
    obtain ⟨j, rfl, hj, HI⟩ := hrel
    rename World => wr
    obtain ⟨f0, f1, f2⟩ := HFC.out wr HI.out
    have HBW := Lib.hid (HB3.out.trans (HI.out.mono HL.out))
    obtain ⟨c0, c1, c2, c3, c4, c5, c6, c7, c8, c9⟩ := ev_cells (HC.out _ HBW.out)
    have hj4 : j = 0 ∨ j = 1 ∨ j = 2 ∨ j = 3 := by omega
    rcases hj4 with rfl | rfl | rfl | rfl
    · go_wp2_with fail
      refine (HF0.out _).mono ?_
      rintro e4 w4 ⟨rfl, hb4⟩
      have HI4 := Lib.hid (HI.out.trans (hb4.mono HI.out.size))
      clear hb4 f0 f1 f2 c0 c1 c2 c3 c4 c5 c6 c7 c8 c9
      go_wp2_with fail
      go_roundw
      case rel => exact ⟨1, rfl, by omega, HI4⟩
      case measure => simp [intOf]
    · go_wp2_with fail
      refine (HF1.out _).mono ?_
      rintro e4 w4 ⟨rfl, hb4⟩
      have HI4 := Lib.hid (HI.out.trans (hb4.mono HI.out.size))
      clear hb4 f0 f1 f2 c0 c1 c2 c3 c4 c5 c6 c7 c8 c9
      go_wp2_with fail
      go_roundw
      case rel => exact ⟨2, rfl, by omega, HI4⟩
      case measure => simp [intOf]
    · go_wp2_with fail
      refine (HF2.out _ (HV.out.gr (by rw [HS0.out]; exact HBW.out))).mono ?_
      rintro e4 w4 ⟨rfl, hb4⟩
      have HI4 := Lib.hid (HI.out.trans (hb4.mono HI.out.size))
      clear hb4 f0 f1 f2 c0 c1 c2 c3 c4 c5 c6 c7 c8 c9
      go_wp2_with fail
      go_roundw
      case rel => exact ⟨3, rfl, by omega, HI4⟩
      case measure => simp [intOf]
    · clear c0 c1 c2 c3 c4 c5 c6 c7 c8 c9
      go_wp2_with fail
      go_ret
      exact ⟨rfl, HB.out.trans (HBW.out.mono (by omega))⟩
theorem join_own {w : World} {D : Nat} {v : Value} {L : List ByteArray} (h : OwnT w D v L) (h0 : 0 < L.length) (sep : ByteArray) (hl : L.length ≤ 100) (hj : (Lib.join (L.map (·.data.toList)) sep.data.toList).length ≤ 100000) :
    Calls Tryz.prog 14 #[v, .string sep] w fun e w' => e = .returned (.string ⟨(Lib.join (L.map (·.data.toList)) sep.data.toList).toArray⟩) ∧ Below w.heap.size w w' := by
  have h1 : w.ownsRow D 9 1 v L.length (L.map Value.string) := h
  rcases h.2 with ⟨hnil, hz⟩ | ⟨g, cp, cur, rfl, hbase, hblk, hcp, _⟩
  · omega
  · exact Tryz.strings_Join g 0 cp L sep w (fun j x hx => by
      have hjl : j < L.length := (List.getElem?_eq_some_iff.1 hx).1
      rw [Nat.zero_add, h1.cellAt j (by omega)]
      simp [hx]) (Array.getElem?_eq_some_iff.1 hblk).1 (by omega) hcp (by omega)

theorem bytes_join : (Lib.join (([str [3], str (textB [97]), str (textB [98]), str (textB [49, 46, 48, 46, 48])] : List ByteArray).map (·.data.toList)) (⟨#[]⟩ : ByteArray).data.toList) = [3, 1, 97, 1, 98, 5, 49, 46, 48, 46, 48] := by decide +kernel
set_option maxHeartbeats 8000000 in
set_option maxRecDepth 100000 in
theorem bytes_e0 (w : World) (hv : Vw w) : Calls Tryz.prog 9 #[evV e0] w fun e w' => e = .returned (.tuple #[.string (str [3, 1, 97, 1, 98, 5, 49, 46, 48, 46, 48]), .int .i64 0]) ∧ Below w.heap.size w w' := by
  have hB0 := alW w (evO e0)
  have hr := heap_alloc_new w (evO e0)
  have hs0 : (w.alloc (evO e0)).heap.size = w.heap.size + 1 := by simp
  have HC : Hid (∀ W, Below (w.heap.size + 1) (w.alloc (evO e0)) W → W.cell? ⟨w.heap.size, 0, none⟩ = some (.int .u8 3) ∧ W.cell? ⟨w.heap.size, 1, none⟩ = some (.string (str [97])) ∧ W.cell? ⟨w.heap.size, 2, none⟩ = some (.string (str [98])) ∧ W.cell? ⟨w.heap.size, 3, none⟩ = some (.string (str [49, 46, 48, 46, 48])) ∧ W.cell? ⟨w.heap.size, 4, none⟩ = some (.slice none 0 0) ∧ W.cell? ⟨w.heap.size, 5, none⟩ = some (.int .u64 0) ∧ W.cell? ⟨w.heap.size, 6, none⟩ = some (.int .u32 0) ∧ W.cell? ⟨w.heap.size, 7, none⟩ = some (.int .u32 0) ∧ W.cell? ⟨w.heap.size, 8, none⟩ = some (.string (str [])) ∧ W.cell? ⟨w.heap.size, 9, none⟩ = some (.string (str []))) := Lib.hid (fun W hb => ev_cells ((hb.block _ (by omega)).trans hr))
  have HM := Lib.hid (may_e0 _ (hv.gr hB0))
  have HAB := Lib.hid asBytes_any
  have HEV : Hid (∀ W, Calls Tryz.prog 16 #[.agg wrB.toArray, evV e0] W fun e' w' => ∃ v, e' = .returned v ∧ OwnT w' W.heap.size v [str [3], str (textB [97]), str (textB [98]), str (textB [49, 46, 48, 46, 48])] ∧ Below W.heap.size W w') := Lib.hid (fun W => eventB_yank e0 3 rfl fds3 (by decide) (by decide) (by decide) W)
  have HJ : Hid (∀ W D v, OwnT W D v [str [3], str (textB [97]), str (textB [98]), str (textB [49, 46, 48, 46, 48])] → Calls Tryz.prog 14 #[v, .string ⟨#[]⟩] W fun e w' => e = .returned (.string (str [3, 1, 97, 1, 98, 5, 49, 46, 48, 46, 48])) ∧ Below W.heap.size W w') := Lib.hid (fun W D v ho => by
    have h := join_own ho (by decide) ⟨#[]⟩ (by decide) (by rw [bytes_join]; decide)
    rw [bytes_join] at h
    exact h)
  obtain ⟨c0, c1, c2, c3, c4, c5, c6, c7, c8, c9⟩ := HC.out _ (Below.refl _ _)
  have HB := Lib.hid hB0
  have HS0 := Lib.hid hs0
  clear hv hr hB0 hs0
  unfold e0 at *
  go_enter Tryz.func9, Tryz.ntmps9
  go_wp2_with fail
  refine HM.out.mono ?_
  rintro e1 w1 ⟨rfl, hb1⟩
  have HB1 := Lib.hid (hb1.mono (Nat.le_of_eq HS0.out.symm))
  clear hb1 c0 c1 c2 c3 c4 c5 c6 c7 c8 c9
  obtain ⟨c0, c1, c2, c3, c4, c5, c6, c7, c8, c9⟩ := HC.out _ HB1.out
  go_wp2_with fail
  have HB2 : Hid (Below (w.heap.size + 1) (w.alloc (evO ⟨3, [97], [98], [49, 46, 48, 46, 48], none, 0, [], 0, 0, 0, [], []⟩)) w1.drew) := Lib.hid (VerC.below_drew HB1.out)
  go_region_held3 (fun w' => w'.cell? ⟨w.heap.size, 0, none⟩ = some (.int .u8 3) ∧ w'.cell? ⟨w.heap.size, 1, none⟩ = some (.string (str [97])) ∧ w'.cell? ⟨w.heap.size, 2, none⟩ = some (.string (str [98])) ∧ w'.cell? ⟨w.heap.size, 3, none⟩ = some (.string (str [49, 46, 48, 46, 48])) ∧ w'.cell? ⟨w.heap.size, 4, none⟩ = some (.slice none 0 0) ∧ w'.cell? ⟨w.heap.size, 5, none⟩ = some (.int .u64 0) ∧ w'.cell? ⟨w.heap.size, 6, none⟩ = some (.int .u32 0) ∧ w'.cell? ⟨w.heap.size, 7, none⟩ = some (.int .u32 0) ∧ w'.cell? ⟨w.heap.size, 8, none⟩ = some (.string (str [])) ∧ w'.cell? ⟨w.heap.size, 9, none⟩ = some (.string (str [])))
    (first | exact ⟨c0, c1, c2, c3, c4, c5, c6, c7, c8, c9⟩ | exact ⟨VerC.cell_on _ c0, VerC.cell_on _ c1, VerC.cell_on _ c2, VerC.cell_on _ c3, VerC.cell_on _ c4, VerC.cell_on _ c5, VerC.cell_on _ c6, VerC.cell_on _ c7, VerC.cell_on _ c8, VerC.cell_on _ c9⟩ | exact hk3 | exact hk4 | exact hk5 | fail)
    (first
      | (go_at_call 15; refine (HAB.out _).mono ?_; rintro e w3 ⟨rfl, hb3⟩; have HB3 := Lib.hid (HB2.out.trans (hb3.mono (Nat.le_trans (Nat.le_of_eq HS0.out.symm) HB2.out.size))); have hk3 := HC.out _ HB3.out; clear hb3)
      | (go_at_call 16; refine (HEV.out _ ).mono ?_; rintro e w4 ⟨v, rfl, ho4, hb4⟩; have HB4 := Lib.hid (HB3.out.trans (hb4.mono (Nat.le_trans (Nat.le_of_eq HS0.out.symm) HB3.out.size))); have hk4 := HC.out _ HB4.out; have HO4 := Lib.hid ho4; clear hb4 ho4)
      | (go_at_call 14; refine (HJ.out _ _ _ HO4.out).mono ?_; rintro e w5 ⟨rfl, hb5⟩; have HB5 := Lib.hid (HB4.out.trans (hb5.mono (Nat.le_trans (Nat.le_of_eq HS0.out.symm) HB4.out.size))); have hk5 := HC.out _ HB5.out; clear hb5)
      | fail)
  all_goals (go_wp2_with fail)
  all_goals go_ret2
  all_goals exact ⟨rfl, HB.out.trans (HB5.out.mono (by omega))⟩
theorem text_join : (Lib.join (([str [121, 97, 110, 107], str (id [97]), str (id [98]), str (id [49, 46, 48, 46, 48])] : List ByteArray).map (·.data.toList)) (⟨#[32]⟩ : ByteArray).data.toList) = [121, 97, 110, 107, 32, 97, 32, 98, 32, 49, 46, 48, 46, 48] := by decide +kernel
set_option maxHeartbeats 8000000 in
set_option maxRecDepth 100000 in
theorem text_e0 (w : World) (hv : Vw w) (ht : w.cell? ⟨0, 3, none⟩ = some (.string (str [121, 97, 110, 107]))) : Calls Tryz.prog 10 #[evV e0] w fun e w' => e = .returned (.tuple #[.string (str [121, 97, 110, 107, 32, 97, 32, 98, 32, 49, 46, 48, 46, 48]), .int .i64 0]) ∧ Below w.heap.size w w' := by
  have hB0 := alW w (evO e0)
  have hr := heap_alloc_new w (evO e0)
  have hs0 : (w.alloc (evO e0)).heap.size = w.heap.size + 1 := by simp
  have HC : Hid (∀ W, Below (w.heap.size + 1) (w.alloc (evO e0)) W → W.cell? ⟨w.heap.size, 0, none⟩ = some (.int .u8 3) ∧ W.cell? ⟨w.heap.size, 1, none⟩ = some (.string (str [97])) ∧ W.cell? ⟨w.heap.size, 2, none⟩ = some (.string (str [98])) ∧ W.cell? ⟨w.heap.size, 3, none⟩ = some (.string (str [49, 46, 48, 46, 48])) ∧ W.cell? ⟨w.heap.size, 4, none⟩ = some (.slice none 0 0) ∧ W.cell? ⟨w.heap.size, 5, none⟩ = some (.int .u64 0) ∧ W.cell? ⟨w.heap.size, 6, none⟩ = some (.int .u32 0) ∧ W.cell? ⟨w.heap.size, 7, none⟩ = some (.int .u32 0) ∧ W.cell? ⟨w.heap.size, 8, none⟩ = some (.string (str [])) ∧ W.cell? ⟨w.heap.size, 9, none⟩ = some (.string (str []))) := Lib.hid (fun W hb => ev_cells ((hb.block _ (by omega)).trans hr))
  have HM := Lib.hid (may_e0 _ (hv.gr hB0))
  have HAB := Lib.hid inLine_any
  have HEV : Hid (∀ W, W.cell? ⟨0, 3, none⟩ = some (.string (str [121, 97, 110, 107])) → Calls Tryz.prog 16 #[.agg wrT.toArray, evV e0] W fun e' w' => ∃ v, e' = .returned v ∧ OwnT w' W.heap.size v [str [121, 97, 110, 107], str (id [97]), str (id [98]), str (id [49, 46, 48, 46, 48])] ∧ Below W.heap.size W w') := Lib.hid (fun W h => eventT_yank e0 [121, 97, 110, 107] (by decide) fds3 (by decide) (by decide) (by decide) W h)
  have HJ : Hid (∀ W D v, OwnT W D v [str [121, 97, 110, 107], str (id [97]), str (id [98]), str (id [49, 46, 48, 46, 48])] → Calls Tryz.prog 14 #[v, .string ⟨#[32]⟩] W fun e w' => e = .returned (.string (str [121, 97, 110, 107, 32, 97, 32, 98, 32, 49, 46, 48, 46, 48])) ∧ Below W.heap.size W w') := Lib.hid (fun W D v ho => by
    have h := join_own ho (by decide) ⟨#[32]⟩ (by decide) (by rw [text_join]; decide)
    rw [text_join] at h
    exact h)
  have HTW : Hid (∀ W, Below (w.heap.size + 1) (w.alloc (evO e0)) W → W.cell? ⟨0, 3, none⟩ = some (.string (str [121, 97, 110, 107]))) := Lib.hid (fun W hb => (hb.cell (Nat.lt_succ_of_lt (World.block_lt_of_cell? _ _ ht))).trans ((hB0.cell (World.block_lt_of_cell? _ _ ht)).trans ht))
  obtain ⟨c0, c1, c2, c3, c4, c5, c6, c7, c8, c9⟩ := HC.out _ (Below.refl _ _)
  have HB := Lib.hid hB0
  have HS0 := Lib.hid hs0
  clear hv hr hB0 hs0 ht
  unfold e0 at *
  go_enter Tryz.func10, Tryz.ntmps10
  go_wp2_with fail
  refine HM.out.mono ?_
  rintro e1 w1 ⟨rfl, hb1⟩
  have HB1 := Lib.hid (hb1.mono (Nat.le_of_eq HS0.out.symm))
  clear hb1 c0 c1 c2 c3 c4 c5 c6 c7 c8 c9
  obtain ⟨c0, c1, c2, c3, c4, c5, c6, c7, c8, c9⟩ := HC.out _ HB1.out
  go_wp2_with fail
  have HB2 : Hid (Below (w.heap.size + 1) (w.alloc (evO ⟨3, [97], [98], [49, 46, 48, 46, 48], none, 0, [], 0, 0, 0, [], []⟩)) w1.drew) := Lib.hid (VerC.below_drew HB1.out)
  go_region_held3 (fun w' => w'.cell? ⟨w.heap.size, 0, none⟩ = some (.int .u8 3) ∧ w'.cell? ⟨w.heap.size, 1, none⟩ = some (.string (str [97])) ∧ w'.cell? ⟨w.heap.size, 2, none⟩ = some (.string (str [98])) ∧ w'.cell? ⟨w.heap.size, 3, none⟩ = some (.string (str [49, 46, 48, 46, 48])) ∧ w'.cell? ⟨w.heap.size, 4, none⟩ = some (.slice none 0 0) ∧ w'.cell? ⟨w.heap.size, 5, none⟩ = some (.int .u64 0) ∧ w'.cell? ⟨w.heap.size, 6, none⟩ = some (.int .u32 0) ∧ w'.cell? ⟨w.heap.size, 7, none⟩ = some (.int .u32 0) ∧ w'.cell? ⟨w.heap.size, 8, none⟩ = some (.string (str [])) ∧ w'.cell? ⟨w.heap.size, 9, none⟩ = some (.string (str [])))
    (first | exact ⟨c0, c1, c2, c3, c4, c5, c6, c7, c8, c9⟩ | exact ⟨VerC.cell_on _ c0, VerC.cell_on _ c1, VerC.cell_on _ c2, VerC.cell_on _ c3, VerC.cell_on _ c4, VerC.cell_on _ c5, VerC.cell_on _ c6, VerC.cell_on _ c7, VerC.cell_on _ c8, VerC.cell_on _ c9⟩ | exact hk3 | exact hk4 | exact hk5 | fail)
    (first
      | (go_at_call 17; refine (HAB.out _).mono ?_; rintro e w3 ⟨rfl, hb3⟩; have HB3 := Lib.hid (HB2.out.trans (hb3.mono (Nat.le_trans (Nat.le_of_eq HS0.out.symm) HB2.out.size))); have hk3 := HC.out _ HB3.out; clear hb3)
      | (go_at_call 16; refine (HEV.out _ (HTW.out _ HB3.out)).mono ?_; rintro e w4 ⟨v, rfl, ho4, hb4⟩; have HB4 := Lib.hid (HB3.out.trans (hb4.mono (Nat.le_trans (Nat.le_of_eq HS0.out.symm) HB3.out.size))); have hk4 := HC.out _ HB4.out; have HO4 := Lib.hid ho4; clear hb4 ho4)
      | (go_at_call 14; refine (HJ.out _ _ _ HO4.out).mono ?_; rintro e w5 ⟨rfl, hb5⟩; have HB5 := Lib.hid (HB4.out.trans (hb5.mono (Nat.le_trans (Nat.le_of_eq HS0.out.symm) HB4.out.size))); have hk5 := HC.out _ HB5.out; clear hb5)
      | fail)
  all_goals (go_wp2_with fail)
  all_goals go_ret2
  all_goals exact ⟨rfl, HB.out.trans (HB5.out.mono (by omega))⟩
end EvA
end Go.Proofs.YtnkednjklfpblaaGreatDoor
