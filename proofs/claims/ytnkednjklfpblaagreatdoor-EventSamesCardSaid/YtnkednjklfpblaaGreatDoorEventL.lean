/-
  The statements' own 'alive' of layer 9: true.
-/
import Derived.Test.YtnkednjklfpblaaGreatDoorEventM
import Derived.Test.YtnkednjklfpblaaGreatDoorEventR
namespace Go.Proofs.YtnkednjklfpblaaGreatDoor
open Go.RowKit Go.Sort
namespace EvN
open StrC EvF EvC EvA ErrU
open VerC (Vw)
set_option linter.unusedSimpArgs false
set_option linter.unusedVariables false

abbrev e0O : Obj := .cells #[.int .u8 3, .string ⟨#[97]⟩, .string ⟨#[98]⟩, .string ⟨#[49, 46, 48, 46, 48]⟩, .slice none 0 0, .int .u64 0, .int .u32 0, .int .u32 0, .string ⟨#[]⟩, .string ⟨#[]⟩] 27
theorem e0_is : e0O = evO e0 := rfl
set_option maxHeartbeats 8000000 in
set_option maxRecDepth 100000 in
theorem alive_any (w : World) (hv : Vw w) (ht : w.cell? ⟨0, 3, none⟩ = some (.string (str [121, 97, 110, 107]))) :
    Calls Tryz.prog 7 #[] w fun e w' => e = .returned (.bool true) ∧ Below w.heap.size w w' := by
  have hz := heap_alloc_new w zO
  have hB1 : Below w.heap.size w ((w.alloc zO).setRow w.heap.size (evL e0).toArray) := below_setRow (alW w zO) (Nat.le_refl _) _
  have hr1 : ((w.alloc zO).setRow w.heap.size (evL e0).toArray).heap[w.heap.size]? = some (evO e0) := setRow_heap _ _ _ _ _ _ hz
  have hV1 := hv.gr hB1
  have hs1 : w.heap.size < ((w.alloc zO).setRow w.heap.size (evL e0).toArray).heap.size := (Array.getElem?_eq_some_iff.1 hr1).1
  have HK := Lib.hid hs1
  have ht1 := (hB1.cell (World.block_lt_of_cell? _ _ ht)).trans ht
  have HB1 := Lib.hid hB1
  have HBY : Hid (∀ W, Vw W → Calls Tryz.prog 9 #[evV e0] W fun e w' => e = .returned (.tuple #[.string ⟨#[3, 1, 97, 1, 98, 5, 49, 46, 48, 46, 48]⟩, .int .i64 0]) ∧ Below W.heap.size W w') := Lib.hid (fun W h => bytes_e0 W h)
  have HTX : Hid (∀ W, Vw W → W.cell? ⟨0, 3, none⟩ = some (.string (str [121, 97, 110, 107])) → Calls Tryz.prog 10 #[evV e0] W fun e w' => e = .returned (.tuple #[.string ⟨#[121, 97, 110, 107, 32, 97, 32, 98, 32, 49, 46, 48, 46, 48]⟩, .int .i64 0]) ∧ Below W.heap.size W w') := Lib.hid (fun W h k => text_e0 W h k)
  clear hB1 hs1
  go_enter Tryz.func7, Tryz.ntmps7
  go_wp2_with (first | (refine wpList_store_row rfl 27 _ _ rfl w.heap.size (evL e0).toArray rfl rfl _ _ hz info_ev rfl (ev_one _) ?_) | (refine wpList_load_row rfl 27 _ rfl w.heap.size rfl _ _ _ _ hr1 Tryz.underlying27 rfl info_ev ?_) | fail)
  clear hz hv ht
  have HR1 := Lib.hid hr1
  have HV1 := Lib.hid hV1
  have HT1 := Lib.hid ht1
  clear hr1 hV1 ht1
  generalize (w.alloc zO).setRow w.heap.size (evL e0).toArray = w1 at *
  refine (HBY.out _ HV1.out).mono ?_
  rintro e w2 ⟨rfl, hb2⟩
  have hr2 := (hb2.block w.heap.size HK.out).trans HR1.out
  have HV2 := Lib.hid (HV1.out.gr hb2)
  have HT2 := Lib.hid ((hb2.cell (World.block_lt_of_cell? _ _ HT1.out)).trans HT1.out)
  have HB2 := Lib.hid hb2
  clear hb2
  go_wp2_with (first | (refine wpList_load_row rfl 27 _ rfl w.heap.size rfl _ _ _ _ hr2 Tryz.underlying27 rfl info_ev ?_) | fail)
  refine (HTX.out _ HV2.out HT2.out).mono ?_
  rintro e w3 ⟨rfl, hb3⟩
  have HB3 := Lib.hid (chW HB2.out hb3)
  clear hb3 hr2
  go_wp2_with fail
  refine (read_no _).mono ?_
  rintro e w4 ⟨g, f, rfl, hg, hf, hb4⟩
  have HB4 := Lib.hid (chW HB3.out hb4)
  have hz5 := heap_alloc_new w4 zO
  have hlg := (Array.getElem?_eq_some_iff.1 hg).1
  have hlf := (Array.getElem?_eq_some_iff.1 hf).1
  have hg5 : ((w4.alloc zO).setRow w4.heap.size (evL zE).toArray).heap[g]? = some (topB f) := by
    rw [setRow_other _ _ g _ (by omega), heap_alloc_old _ _ hlg]; exact hg
  have hf5 : ((w4.alloc zO).setRow w4.heap.size (evL zE).toArray).heap[f]? = some nilB := by
    rw [setRow_other _ _ f _ (by omega), heap_alloc_old _ _ hlf]; exact hf
  have HG5 := Lib.hid hg5
  have HF5 := Lib.hid hf5
  have HB5 : Hid (Below w1.heap.size w1 ((w4.alloc zO).setRow w4.heap.size (evL zE).toArray)) := Lib.hid (below_setRow (chW HB4.out (alW w4 zO)) HB4.out.size _)
  clear hb4 hg hf hlg hlf hg5 hf5
  go_wp2_with (first | (refine wpList_store_row rfl 27 _ _ rfl w4.heap.size (evL zE).toArray rfl rfl _ _ hz5 info_ev rfl (ev_one _) ?_) | fail)
  clear hz5
  generalize (w4.alloc zO).setRow w4.heap.size (evL zE).toArray = w5 at *
  have c0 : w5.cell? ⟨g, 0, none⟩ = some (.int .i64 90) := by simp [World.cell?, HG5.out]
  have c3 : w5.cell? ⟨g, 3, none⟩ = some (fV f) := by simp [World.cell?, HG5.out]
  refine (is_two g 90 _ _ w5 c0 c3).mono ?_
  rintro e w6 ⟨rfl, hb6⟩
  have d0 : w6.cell? ⟨g, 0, none⟩ = some (.int .i64 90) := (hb6.cell (World.block_lt_of_cell? _ _ c0)).trans c0
  have d3 : w6.cell? ⟨g, 3, none⟩ = some (fV f) := (hb6.cell (World.block_lt_of_cell? _ _ c3)).trans c3
  have hf6 := (hb6.block f (Array.getElem?_eq_some_iff.1 HF5.out).1).trans HF5.out
  have b0 : w6.cell? ⟨f, 0, none⟩ = some (.int .i64 20) := by simp [World.cell?, hf6]
  have b3 : w6.cell? ⟨f, 3, none⟩ = some .nilIface := by simp [World.cell?, hf6]
  have HB6 := Lib.hid (chW HB5.out hb6)
  have HIS := Lib.hid (is_two_under g f 90 20 (by decide) w6 d0 d3 b0 b3)
  clear c0 c3 d0 d3 b0 b3 hf6 hb6
  go_wp2_with fail
  refine HIS.out.mono ?_
  rintro e w7 ⟨rfl, hb7⟩
  have HB7 := Lib.hid (chW HB6.out hb7)
  clear hb7
  go_wp2_with fail
  go_ret
  exact ⟨rfl, HB1.out.trans (HB7.out.mono HB1.out.size)⟩
end EvN
end Go.Proofs.YtnkednjklfpblaaGreatDoor
