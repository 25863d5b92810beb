/-
  Package event's Read of no bytes: no event, and a fault over the reader's.
-/
import Derived.Test.YtnkednjklfpblaaGreatDoorEventQ
import Derived.Test.YtnkednjklfpblaaGreatDoorErrTwo
namespace Go.Proofs.YtnkednjklfpblaaGreatDoor
open Go.RowKit Go.Sort
namespace EvN
open StrC EvF EvC EvA ErrU
set_option linter.unusedSimpArgs false
set_option linter.unusedVariables false

abbrev topB (f : Nat) : Obj := .cells #[.int .i64 90, .string ⟨#[]⟩, .int .i64 0, flt f] 65
set_option maxHeartbeats 8000000 in
set_option maxRecDepth 100000 in
theorem read_no (w : World) : Calls Tryz.prog 11 #[.string ⟨#[]⟩] w fun e w' => ∃ g f, e = .returned (.tuple #[evV zE, flt g]) ∧ w'.heap[g]? = some (topB f) ∧ w'.heap[f]? = some nilB ∧ Below w.heap.size w w' := by
  obtain ⟨h0, h1, hB0, hBs⟩ := two_allocs w zO rdO
  have HF : Hid (∀ W, Below (w.heap.size + 2) ((w.alloc zO).alloc rdO) W → W.heap[w.heap.size]? = some zO ∧ W.heap[w.heap.size + 1]? = some rdO) := Lib.hid (fun W hw => ⟨(hw.block _ (by omega)).trans h0, (hw.block _ (by omega)).trans h1⟩)
  have HB0 := Lib.hid hB0
  have HK := Lib.hid (Nat.le_of_eq hBs.symm)
  clear h0 h1 hB0 hBs
  go_enter Tryz.func11, Tryz.ntmps11
  go_wp2_with fail
  refine (new_no _).mono ?_
  rintro e w1 ⟨rfl, rfl⟩
  go_wp2_with fail
  refine (out_no _ _).mono ?_
  rintro e w2 ⟨rfl, hn, hb2⟩
  have HB2 : Hid (Below (w.heap.size + 2) ((w.alloc zO).alloc rdO) w2) := Lib.hid (hb2.mono HK.out)
  have hrd := (HF.out _ HB2.out).2
  have HEV := Lib.hid (revent_no _ (w.heap.size + 1) w2 (by simpa using hn) hrd)
  clear hn hb2 hrd
  go_wp2_with fail
  refine HEV.out.mono ?_
  rintro e w3 ⟨f, rfl, hf1, hf2, hb3⟩
  have HB3 : Hid (Below (w.heap.size + 2) ((w.alloc zO).alloc rdO) w3) := Lib.hid (HB2.out.trans (hb3.mono (Nat.le_trans HK.out HB2.out.size)))
  have HF2 := Lib.hid hf2
  have hz3 := heap_alloc_new w3 zO
  have HB4 : Hid (Below (w.heap.size + 2) ((w.alloc zO).alloc rdO) ((w3.alloc zO).setRow w3.heap.size (evL zE).toArray)) := Lib.hid (below_setRow (HB3.out.trans ((alW w3 zO).mono (Nat.le_trans HK.out HB3.out.size))) (Nat.le_trans HK.out HB3.out.size) _)
  have hf4 : ((w3.alloc zO).setRow w3.heap.size (evL zE).toArray).heap[f]? = some nilB := by
    have hlt := (Array.getElem?_eq_some_iff.1 hf2).1
    rw [setRow_other _ _ f _ (by omega), heap_alloc_old _ _ hlt]
    exact hf2
  have HF4 := Lib.hid hf4
  clear hf1 hf2 hb3 HEV hf4
  go_wp2_with (first | (refine wpList_store_row rfl 27 _ _ rfl w3.heap.size (evL zE).toArray rfl rfl _ _ hz3 info_ev rfl (ev_one _) ?_) | fail)
  clear hz3
  generalize (w3.alloc zO).setRow w3.heap.size (evL zE).toArray = w4 at *
  have hc4 : w4.cell? ⟨f, 0, none⟩ = some (.int .i64 20) := by simp [World.cell?, HF4.out]
  have hu4 : w4.cell? ⟨f, 0 + 3, none⟩ = some .nilIface := by simp [World.cell?, HF4.out]
  have HIS := Lib.hid (is_one_no f 0 20 90 (by decide) w4 hc4 hu4)
  clear hc4 hu4
  go_wp2_with fail
  refine HIS.out.mono ?_
  rintro e w5 ⟨rfl, rfl⟩
  have hb5 := alW w4 (.cells #[.iface 34 (.int .i64 20)] 38)
  have HB5 : Hid (Below (w.heap.size + 2) ((w.alloc zO).alloc rdO) (w4.alloc (.cells #[.iface 34 (.int .i64 20)] 38))) := Lib.hid (HB4.out.trans (hb5.mono (Nat.le_trans HK.out HB4.out.size)))
  have HF5 := Lib.hid ((hb5.block f (Array.getElem?_eq_some_iff.1 HF4.out).1).trans HF4.out)
  clear hb5 HIS
  generalize w4.alloc (.cells #[.iface 34 (.int .i64 20)] 38) = w6 at *
  have HAT := Lib.hid (at_no (w.heap.size + 1) w6 (HF.out _ HB5.out).2)
  go_wp2_with fail
  refine HAT.out.mono ?_
  rintro e w7 ⟨rfl, rfl⟩
  have hb8 := alW w6 (topB f)
  have HB8 : Hid (Below (w.heap.size + 2) ((w.alloc zO).alloc rdO) (w6.alloc (topB f))) := Lib.hid (HB5.out.trans (hb8.mono (Nat.le_trans HK.out HB5.out.size)))
  have HF8 := Lib.hid ((hb8.block f (Array.getElem?_eq_some_iff.1 HF5.out).1).trans HF5.out)
  have hz8 := (HF.out _ HB8.out).1
  have HG8 := Lib.hid (heap_alloc_new w6 (topB f))
  have HL6 : Hid (w.heap.size + 2 ≤ w6.heap.size) := Lib.hid (Nat.le_trans HK.out HB5.out.size)
  have HFR : Hid (f ≠ w.heap.size) := Lib.hid (fun h => by have h1 := HF8.out; have h2 := hz8; subst h; exact absurd (Option.some.inj (h2.symm.trans h1)) (by simp))
  clear hb8 HAT
  go_wp2_with (first | (refine wpList_store_row rfl 27 _ _ rfl w.heap.size (evL zE).toArray rfl rfl _ _ hz8 info_ev rfl (ev_one _) ?_) | fail)
  refine bodyPost_ret (res_ct rfl _ _ w.heap.size _ (evL zE).toArray _ _ rfl (setRow_heap _ _ _ _ _ _ hz8) Tryz.underlying27 rfl info_ev) rfl ?_
  exact ⟨w6.heap.size, f, rfl, (setRow_other _ w.heap.size w6.heap.size _ (by have := HL6.out; omega)).trans HG8.out, (setRow_other _ w.heap.size f _ HFR.out).trans HF8.out, below_setRow (HB0.out.trans (HB8.out.mono (by omega))) (Nat.le_refl _) _⟩
end EvN
end Go.Proofs.YtnkednjklfpblaaGreatDoor
