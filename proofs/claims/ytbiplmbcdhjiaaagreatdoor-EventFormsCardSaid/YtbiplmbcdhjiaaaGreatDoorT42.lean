/-
  What the proof of EventForms stands on, part 42.
-/
import Derived.Test.YtbiplmbcdhjiaaaGreatDoorT41
set_option linter.unusedSimpArgs false
set_option linter.unusedVariables false
set_option maxHeartbeats 16000000
namespace Go.Proofs.YtbiplmbcdhjiaaaGreatDoor
open Go.Lib (hid)
section
open Go.RowKit Go.Sort
namespace EvN
open StrC EvF EvC EvA ErrU
abbrev topB (f : Nat) : Obj := .cells #[.int .i64 90, .string ⟨#[]⟩, .int .i64 0, flt f] 55
set_option maxRecDepth 100000 in
theorem read_no (w : World) : Calls Tryz.prog 19 #[.string ⟨#[]⟩] w fun e w' => ∃ g f, e = .returned (.tuple #[evV zE, flt g]) ∧ w'.heap[g]? = some (topB f) ∧ w'.heap[f]? = some nilB ∧ Below w.heap.size w w' := by
 obtain ⟨h0, h1, hB0, hBs⟩ := ycy w zO rdO
 have HF : Hid (∀ W, Below (w.heap.size + 2) ((w.alloc zO).alloc rdO) W → W.heap[w.heap.size]? = some zO ∧ W.heap[w.heap.size + 1]? = some rdO) := hid (fun W hw => ⟨(hw.block _ (by omega)).trans h0, (hw.block _ (by omega)).trans h1⟩)
 have HB0 := hid hB0
 have HK := hid (Nat.le_of_eq hBs.symm)
 clear h0 h1 hB0 hBs
 go_enter Tryz.func19, Tryz.ntmps19
 go_wp2_with fail
 refine (new_no _).mono ?_
 rintro e w1 ⟨rfl, rfl⟩
 go_wp2_with fail
 refine (out_no _ _).mono ?_
 rintro e w2 ⟨rfl, hn, hb2⟩
 have HB2 : Hid (Below (w.heap.size + 2) ((w.alloc zO).alloc rdO) w2) := hid (hb2.mono HK.out)
 have hrd := (HF.out _ HB2.out).2
 have HEV := hid (ydu _ (w.heap.size + 1) w2 (by simpa using hn) hrd)
 clear hn hb2 hrd
 go_wp2_with fail
 refine HEV.out.mono ?_
 rintro e w3 ⟨f, rfl, hf1, hf2, hb3⟩
 have HB3 : Hid (Below (w.heap.size + 2) ((w.alloc zO).alloc rdO) w3) := hid (HB2.out.trans (hb3.mono (Nat.le_trans HK.out HB2.out.size)))
 have HF2 := hid hf2
 have hz3 := heap_alloc_new w3 zO
 have HB4 : Hid (Below (w.heap.size + 2) ((w.alloc zO).alloc rdO) ((w3.alloc zO).setRow w3.heap.size (evL zE).toArray)) := hid (below_setRow (HB3.out.trans ((alW w3 zO).mono (Nat.le_trans HK.out HB3.out.size))) (Nat.le_trans HK.out HB3.out.size) _)
 have hf4 : ((w3.alloc zO).setRow w3.heap.size (evL zE).toArray).heap[f]? = some nilB := by
  have hlt := (Array.getElem?_eq_some_iff.1 hf2).1
  rw [setRow_other _ _ f _ (by omega), heap_alloc_old _ _ hlt]
  exact hf2
 have HF4 := hid hf4
 clear hf1 hf2 hb3 HEV hf4
 go_wp2_with (first | (refine wpList_store_row rfl 27 _ _ rfl w3.heap.size (evL zE).toArray rfl rfl _ _ hz3 zto rfl (ztp _) ?_) | fail)
 clear hz3
 generalize (w3.alloc zO).setRow w3.heap.size (evL zE).toArray = w4 at *
 have hc4 : w4.cell? ⟨f, 0, none⟩ = some (.int .i64 20) := by simp [World.cell?, HF4.out]
 have hu4 : w4.cell? ⟨f, 0 + 3, none⟩ = some .nilIface := by simp [World.cell?, HF4.out]
 have HIS := hid (ycs f 0 20 90 (by decide) w4 hc4 hu4)
 clear hc4 hu4
 go_wp2_with fail
 refine HIS.out.mono ?_
 rintro e w5 ⟨rfl, rfl⟩
 have hb5 := alW w4 (.cells #[.iface 30 (.int .i64 20)] 42)
 have HB5 : Hid (Below (w.heap.size + 2) ((w.alloc zO).alloc rdO) (w4.alloc (.cells #[.iface 30 (.int .i64 20)] 42))) := hid (HB4.out.trans (hb5.mono (Nat.le_trans HK.out HB4.out.size)))
 have HF5 := hid ((hb5.block f (Array.getElem?_eq_some_iff.1 HF4.out).1).trans HF4.out)
 clear hb5 HIS
 generalize w4.alloc (.cells #[.iface 30 (.int .i64 20)] 42) = w6 at *
 have HAT := hid (at_no (w.heap.size + 1) w6 (HF.out _ HB5.out).2)
 go_wp2_with fail
 refine HAT.out.mono ?_
 rintro e w7 ⟨rfl, rfl⟩
 have hb8 := alW w6 (topB f)
 have HB8 : Hid (Below (w.heap.size + 2) ((w.alloc zO).alloc rdO) (w6.alloc (topB f))) := hid (HB5.out.trans (hb8.mono (Nat.le_trans HK.out HB5.out.size)))
 have HF8 := hid ((hb8.block f (Array.getElem?_eq_some_iff.1 HF5.out).1).trans HF5.out)
 have hz8 := (HF.out _ HB8.out).1
 have HG8 := hid (heap_alloc_new w6 (topB f))
 have HL6 : Hid (w.heap.size + 2 ≤ w6.heap.size) := hid (Nat.le_trans HK.out HB5.out.size)
 have HFR : Hid (f ≠ w.heap.size) := hid (fun h => by have h1 := HF8.out; have h2 := hz8; subst h; exact absurd (Option.some.inj (h2.symm.trans h1)) (by simp))
 clear hb8 HAT
 go_wp2_with (first | (refine wpList_store_row rfl 27 _ _ rfl w.heap.size (evL zE).toArray rfl rfl _ _ hz8 zto rfl (ztp _) ?_) | fail)
 refine bodyPost_ret (yds rfl _ _ w.heap.size _ (evL zE).toArray _ _ rfl (setRow_heap _ _ _ _ _ _ hz8) Tryz.underlying27 rfl zto) rfl ?_
 exact ⟨w6.heap.size, f, rfl, (setRow_other _ w.heap.size w6.heap.size _ (by have := HL6.out; omega)).trans HG8.out, (setRow_other _ w.heap.size f _ HFR.out).trans HF8.out, below_setRow (HB0.out.trans (HB8.out.mono (by omega))) (Nat.le_refl _) _⟩
end EvN
end
section
open Go.RowKit Go.Sort
namespace EvN
open StrC EvF EvC EvA ErrU
open VerC (Vw)
def e0 : EvG := ⟨3, [97], [98], [49, 46, 48, 46, 48], none, 0, [], 0, 0, 0, [], []⟩
theorem ydv : mayD e0 = true := by decide +kernel
theorem in_e0 (w : World) : EvIn w e0 := ⟨by decide, by decide, by decide, by decide, by decide, by decide, by decide, by decide, by decide, NeIn.no w⟩
theorem ydw (w : World) (hv : Vw w) : Calls Tryz.prog 8 #[evV e0] w fun e w' => e = .returned (.tuple #[.string ⟨#[3, 1, 97, 1, 98, 5, 49, 46, 48, 46, 48]⟩, .int .i64 0]) ∧ Below w.heap.size w w' := by
 have h := yby e0 w (in_e0 w) hv
 rw [ydv, if_pos rfl, show bytesM e0 (fieldsM e0.k) = [3, 1, 97, 1, 98, 5, 49, 46, 48, 46, 48] from by decide +kernel] at h
 exact h
theorem text_e0 (w : World) (hv : Vw w) (hw : ∀ k, k < 11 → w.cell? ⟨0, k, none⟩ = some (.string (str (kw k)))) : Calls Tryz.prog 9 #[evV e0] w fun e w' => e = .returned (.tuple #[.string ⟨#[121, 97, 110, 107, 32, 97, 32, 98, 32, 49, 46, 48, 46, 48]⟩, .int .i64 0]) ∧ Below w.heap.size w w' := by
 have h := ybz e0 w (in_e0 w) hv hw
 rw [ydv, if_pos rfl, show lineM (kw e0.k) e0 (fieldsM e0.k) = [121, 97, 110, 107, 32, 97, 32, 98, 32, 49, 46, 48, 46, 48] from by decide +kernel] at h
 exact h
set_option maxRecDepth 100000 in
theorem ydx (w : World) (hv : Vw w) (ht : ∀ k, k < 11 → w.cell? ⟨0, k, none⟩ = some (.string (str (kw k)))) :
 Calls Tryz.prog 16 #[] w fun e w' => e = .returned (.bool true) ∧ Below w.heap.size w w' := by
 have hz := heap_alloc_new w zO
 have hB1 : Below w.heap.size w ((w.alloc zO).setRow w.heap.size (evL e0).toArray) := below_setRow (alW w zO) (Nat.le_refl _) _
 have hr1 : ((w.alloc zO).setRow w.heap.size (evL e0).toArray).heap[w.heap.size]? = some (evO e0) := setRow_heap _ _ _ _ _ _ hz
 have hV1 := hv.gr hB1
 have hs1 : w.heap.size < ((w.alloc zO).setRow w.heap.size (evL e0).toArray).heap.size := (Array.getElem?_eq_some_iff.1 hr1).1
 have HK := hid hs1
 have ht1 := fun k hk => (hB1.cell (World.block_lt_of_cell? _ _ (ht k hk))).trans (ht k hk)
 have HB1 := hid hB1
 have HBY : Hid (∀ W, Vw W → Calls Tryz.prog 8 #[evV e0] W fun e w' => e = .returned (.tuple #[.string ⟨#[3, 1, 97, 1, 98, 5, 49, 46, 48, 46, 48]⟩, .int .i64 0]) ∧ Below W.heap.size W w') := hid (fun W h => ydw W h)
 have HTX : Hid (∀ W, Vw W → (∀ k, k < 11 → W.cell? ⟨0, k, none⟩ = some (.string (str (kw k)))) → Calls Tryz.prog 9 #[evV e0] W fun e w' => e = .returned (.tuple #[.string ⟨#[121, 97, 110, 107, 32, 97, 32, 98, 32, 49, 46, 48, 46, 48]⟩, .int .i64 0]) ∧ Below W.heap.size W w') := hid (fun W h k => text_e0 W h k)
 clear hB1 hs1
 go_enter Tryz.func16, Tryz.ntmps16
 go_wp2_with (first | (refine wpList_store_row rfl 27 _ _ rfl w.heap.size (evL e0).toArray rfl rfl _ _ hz zto rfl (ztp _) ?_) | (refine wpList_load_row rfl 27 _ rfl w.heap.size rfl _ _ _ _ hr1 Tryz.underlying27 rfl zto ?_) | fail)
 clear hz hv ht
 have HR1 := hid hr1
 have HV1 := hid hV1
 have HT1 := hid ht1
 clear hr1 hV1 ht1
 generalize (w.alloc zO).setRow w.heap.size (evL e0).toArray = w1 at *
 refine (HBY.out _ HV1.out).mono ?_
 rintro e w2 ⟨rfl, hb2⟩
 have hr2 := (hb2.block w.heap.size HK.out).trans HR1.out
 have HV2 := hid (HV1.out.gr hb2)
 have HT2 := hid (fun k hk => (hb2.cell (World.block_lt_of_cell? _ _ (HT1.out k hk))).trans (HT1.out k hk))
 have HB2 := hid hb2
 clear hb2
 go_wp2_with (first | (refine wpList_load_row rfl 27 _ rfl w.heap.size rfl _ _ _ _ hr2 Tryz.underlying27 rfl zto ?_) | fail)
 refine (HTX.out _ HV2.out HT2.out).mono ?_
 rintro e w3 ⟨rfl, hb3⟩
 have HB3 := hid (chW HB2.out hb3)
 clear hb3 hr2
 go_wp2_with fail
 refine (read_no _).mono ?_
 rintro e w4 ⟨g, f, rfl, hg, hf, hb4⟩
 have HB4 := hid (chW HB3.out hb4)
 have hz5 := heap_alloc_new w4 zO
 have hlg := (Array.getElem?_eq_some_iff.1 hg).1
 have hlf := (Array.getElem?_eq_some_iff.1 hf).1
 have hg5 : ((w4.alloc zO).setRow w4.heap.size (evL zE).toArray).heap[g]? = some (topB f) := by
  rw [setRow_other _ _ g _ (by omega), heap_alloc_old _ _ hlg]; exact hg
 have hf5 : ((w4.alloc zO).setRow w4.heap.size (evL zE).toArray).heap[f]? = some nilB := by
  rw [setRow_other _ _ f _ (by omega), heap_alloc_old _ _ hlf]; exact hf
 have HG5 := hid hg5
 have HF5 := hid hf5
 have HB5 : Hid (Below w1.heap.size w1 ((w4.alloc zO).setRow w4.heap.size (evL zE).toArray)) := hid (below_setRow (chW HB4.out (alW w4 zO)) HB4.out.size _)
 clear hb4 hg hf hlg hlf hg5 hf5
 go_wp2_with (first | (refine wpList_store_row rfl 27 _ _ rfl w4.heap.size (evL zE).toArray rfl rfl _ _ hz5 zto rfl (ztp _) ?_) | fail)
 clear hz5
 generalize (w4.alloc zO).setRow w4.heap.size (evL zE).toArray = w5 at *
 have c0 : w5.cell? ⟨g, 0, none⟩ = some (.int .i64 90) := by simp [World.cell?, HG5.out]
 have c3 : w5.cell? ⟨g, 3, none⟩ = some (fV f) := by simp [World.cell?, HG5.out]
 refine (is_two g 90 _ _ w5 c0 c3).mono ?_
 rintro e w6 ⟨rfl, hb6⟩
 have d0 : w6.cell? ⟨g, 0, none⟩ = some (.int .i64 90) := (hb6.cell (World.block_lt_of_cell? _ _ c0)).trans c0
 have d3 : w6.cell? ⟨g, 3, none⟩ = some (fV f) := (hb6.cell (World.block_lt_of_cell? _ _ c3)).trans c3
 have hf6 := (hb6.block f (Array.getElem?_eq_some_iff.1 HF5.out).1).trans HF5.out
 have b0 : w6.cell? ⟨f, 0, none⟩ = some (.int .i64 20) := by simp [World.cell?, hf6]
 have b3 : w6.cell? ⟨f, 3, none⟩ = some .nilIface := by simp [World.cell?, hf6]
 have HB6 := hid (chW HB5.out hb6)
 have HIS := hid (ycw g f 90 20 (by decide) w6 d0 d3 b0 b3)
 clear c0 c3 d0 d3 b0 b3 hf6 hb6
 go_wp2_with fail
 refine HIS.out.mono ?_
 rintro e w7 ⟨rfl, hb7⟩
 have HB7 := hid (chW HB6.out hb7)
 clear hb7
 go_wp2_with fail
 go_ret
 exact ⟨rfl, HB1.out.trans (HB7.out.mono HB1.out.size)⟩
end EvN
end
section
open Go.RowKit
namespace EvC
open EvA StrC AppC
set_option maxRecDepth 100000 in
theorem ydy (a b : EvG) (w : World) (ha : NeIn w a.na a.nc a.needs) (hb : NeIn w b.na b.nc b.needs) :
 Calls Tryz.prog 14 #[evV a, evV b] w fun e w' => e = .returned (.bool (sameE a b)) ∧ Below w.heap.size w w' := by
 have hb1 : Below w.heap.size w (w.alloc (evO a)) := (Below.refl _ w).alloc (Nat.le_refl _) _
 have hb2 : Below w.heap.size w ((w.alloc (evO a)).alloc (evO b)) := hb1.alloc hb1.size _
 have H1 := hid (ha.gr hb2)
 have H2 := hid (hb.gr hb2)
 have HB : Hid (∀ q, Below w.heap.size w (((w.alloc (evO a)).alloc (evO b)).drewN q)) := hid (fun q => zth hb2 q)
 have hn2 := heap_alloc_new (w.alloc (evO a)) (evO b)
 have hn1 := heap_alloc_old (w.alloc (evO a)) (evO b) (r := w.heap.size) (by simp)
 rw [heap_alloc_new w (evO a)] at hn1
 obtain ⟨x0, x1, x2, x3, x4, x5, x6, x7, x8, x9⟩ := ztd hn1
 obtain ⟨y0, y1, y2, y3, y4, y5, y6, y7, y8, y9⟩ := ztd hn2
 simp only [World.size_alloc] at y0 y1 y2 y3 y4 y5 y6 y7 y8 y9
 clear ha hb hb1 hb2 hn1 hn2
 by_cases h0 : a.k = b.k
 rotate_left
 · have e0 : ((a.k : Int) == (b.k : Int)) = false := by rw [beq_eq_false_iff_ne]; omega
   have n0 : ((a.k : Int) != (b.k : Int)) = true := by unfold bne; rw [e0]; rfl
   have hs : sameE a b = false := by unfold sameE; simp [h0]
   rw [hs]
   clear hs H1 H2 h0
   go_enter Tryz.func14, Tryz.ntmps14
   go_wp2_with fail
   go_ret
   exact ⟨rfl, HB.out 0⟩
 by_cases h1 : a.who = b.who
 rotate_left
 · have e0 : ((a.k : Int) == (b.k : Int)) = true := by rw [beq_iff_eq]; omega
   have n0 : ((a.k : Int) != (b.k : Int)) = false := by unfold bne; rw [e0]; rfl
   have e1 : ((str a.who).toList == (str b.who).toList) = false := by rw [zbp]; simpa using h1
   have n1 : ((str a.who).toList != (str b.who).toList) = true := by unfold bne; rw [e1]; rfl
   have hs : sameE a b = false := by unfold sameE; simp [h1]
   rw [hs]
   clear hs H1 H2 h0 h1
   go_enter Tryz.func14, Tryz.ntmps14
   go_wp2_with fail
   go_ret
   exact ⟨rfl, HB.out 0⟩
 by_cases h2 : a.name = b.name
 rotate_left
 · have e0 : ((a.k : Int) == (b.k : Int)) = true := by rw [beq_iff_eq]; omega
   have n0 : ((a.k : Int) != (b.k : Int)) = false := by unfold bne; rw [e0]; rfl
   have e1 : ((str a.who).toList == (str b.who).toList) = true := by rw [zbp]; simpa using h1
   have n1 : ((str a.who).toList != (str b.who).toList) = false := by unfold bne; rw [e1]; rfl
   have e2 : ((str a.name).toList == (str b.name).toList) = false := by rw [zbp]; simpa using h2
   have n2 : ((str a.name).toList != (str b.name).toList) = true := by unfold bne; rw [e2]; rfl
   have hs : sameE a b = false := by unfold sameE; simp [h2]
   rw [hs]
   clear hs H1 H2 h0 h1 h2
   go_enter Tryz.func14, Tryz.ntmps14
   go_wp2_with fail
   go_ret
   exact ⟨rfl, HB.out 0⟩
 by_cases h3 : a.ver = b.ver
 rotate_left
 · have e0 : ((a.k : Int) == (b.k : Int)) = true := by rw [beq_iff_eq]; omega
   have n0 : ((a.k : Int) != (b.k : Int)) = false := by unfold bne; rw [e0]; rfl
   have e1 : ((str a.who).toList == (str b.who).toList) = true := by rw [zbp]; simpa using h1
   have n1 : ((str a.who).toList != (str b.who).toList) = false := by unfold bne; rw [e1]; rfl
   have e2 : ((str a.name).toList == (str b.name).toList) = true := by rw [zbp]; simpa using h2
   have n2 : ((str a.name).toList != (str b.name).toList) = false := by unfold bne; rw [e2]; rfl
   have e3 : ((str a.ver).toList == (str b.ver).toList) = false := by rw [zbp]; simpa using h3
   have n3 : ((str a.ver).toList != (str b.ver).toList) = true := by unfold bne; rw [e3]; rfl
   have hs : sameE a b = false := by unfold sameE; simp [h3]
   rw [hs]
   clear hs H1 H2 h0 h1 h2 h3
   go_enter Tryz.func14, Tryz.ntmps14
   go_wp2_with fail
   go_ret
   exact ⟨rfl, HB.out 0⟩
 by_cases h5 : a.sum = b.sum
 rotate_left
 · have e0 : ((a.k : Int) == (b.k : Int)) = true := by rw [beq_iff_eq]; omega
   have n0 : ((a.k : Int) != (b.k : Int)) = false := by unfold bne; rw [e0]; rfl
   have e1 : ((str a.who).toList == (str b.who).toList) = true := by rw [zbp]; simpa using h1
   have n1 : ((str a.who).toList != (str b.who).toList) = false := by unfold bne; rw [e1]; rfl
   have e2 : ((str a.name).toList == (str b.name).toList) = true := by rw [zbp]; simpa using h2
   have n2 : ((str a.name).toList != (str b.name).toList) = false := by unfold bne; rw [e2]; rfl
   have e3 : ((str a.ver).toList == (str b.ver).toList) = true := by rw [zbp]; simpa using h3
   have n3 : ((str a.ver).toList != (str b.ver).toList) = false := by unfold bne; rw [e3]; rfl
   have e5 : ((a.sum : Int) == (b.sum : Int)) = false := by rw [beq_eq_false_iff_ne]; omega
   have n5 : ((a.sum : Int) != (b.sum : Int)) = true := by unfold bne; rw [e5]; rfl
   have hs : sameE a b = false := by unfold sameE; simp [h5]
   rw [hs]
   clear hs H1 H2 h0 h1 h2 h3 h5
   go_enter Tryz.func14, Tryz.ntmps14
   go_wp2_with fail
   go_ret
   exact ⟨rfl, HB.out 0⟩
 by_cases h6 : a.n = b.n
 rotate_left
 · have e0 : ((a.k : Int) == (b.k : Int)) = true := by rw [beq_iff_eq]; omega
   have n0 : ((a.k : Int) != (b.k : Int)) = false := by unfold bne; rw [e0]; rfl
   have e1 : ((str a.who).toList == (str b.who).toList) = true := by rw [zbp]; simpa using h1
   have n1 : ((str a.who).toList != (str b.who).toList) = false := by unfold bne; rw [e1]; rfl
   have e2 : ((str a.name).toList == (str b.name).toList) = true := by rw [zbp]; simpa using h2
   have n2 : ((str a.name).toList != (str b.name).toList) = false := by unfold bne; rw [e2]; rfl
   have e3 : ((str a.ver).toList == (str b.ver).toList) = true := by rw [zbp]; simpa using h3
   have n3 : ((str a.ver).toList != (str b.ver).toList) = false := by unfold bne; rw [e3]; rfl
   have e5 : ((a.sum : Int) == (b.sum : Int)) = true := by rw [beq_iff_eq]; omega
   have n5 : ((a.sum : Int) != (b.sum : Int)) = false := by unfold bne; rw [e5]; rfl
   have e6 : ((a.n : Int) == (b.n : Int)) = false := by rw [beq_eq_false_iff_ne]; omega
   have n6 : ((a.n : Int) != (b.n : Int)) = true := by unfold bne; rw [e6]; rfl
   have hs : sameE a b = false := by unfold sameE; simp [h6]
   rw [hs]
   clear hs H1 H2 h0 h1 h2 h3 h5 h6
   go_enter Tryz.func14, Tryz.ntmps14
   go_wp2_with fail
   go_ret
   exact ⟨rfl, HB.out 0⟩
 by_cases h7 : a.size = b.size
 rotate_left
 · have e0 : ((a.k : Int) == (b.k : Int)) = true := by rw [beq_iff_eq]; omega
   have n0 : ((a.k : Int) != (b.k : Int)) = false := by unfold bne; rw [e0]; rfl
   have e1 : ((str a.who).toList == (str b.who).toList) = true := by rw [zbp]; simpa using h1
   have n1 : ((str a.who).toList != (str b.who).toList) = false := by unfold bne; rw [e1]; rfl
   have e2 : ((str a.name).toList == (str b.name).toList) = true := by rw [zbp]; simpa using h2
   have n2 : ((str a.name).toList != (str b.name).toList) = false := by unfold bne; rw [e2]; rfl
   have e3 : ((str a.ver).toList == (str b.ver).toList) = true := by rw [zbp]; simpa using h3
   have n3 : ((str a.ver).toList != (str b.ver).toList) = false := by unfold bne; rw [e3]; rfl
   have e5 : ((a.sum : Int) == (b.sum : Int)) = true := by rw [beq_iff_eq]; omega
   have n5 : ((a.sum : Int) != (b.sum : Int)) = false := by unfold bne; rw [e5]; rfl
   have e6 : ((a.n : Int) == (b.n : Int)) = true := by rw [beq_iff_eq]; omega
   have n6 : ((a.n : Int) != (b.n : Int)) = false := by unfold bne; rw [e6]; rfl
   have e7 : ((a.size : Int) == (b.size : Int)) = false := by rw [beq_eq_false_iff_ne]; omega
   have n7 : ((a.size : Int) != (b.size : Int)) = true := by unfold bne; rw [e7]; rfl
   have hs : sameE a b = false := by unfold sameE; simp [h7]
   rw [hs]
   clear hs H1 H2 h0 h1 h2 h3 h5 h6 h7
   go_enter Tryz.func14, Tryz.ntmps14
   go_wp2_with fail
   go_ret
   exact ⟨rfl, HB.out 0⟩
 by_cases h8 : a.holder = b.holder
 rotate_left
 · have e0 : ((a.k : Int) == (b.k : Int)) = true := by rw [beq_iff_eq]; omega
   have n0 : ((a.k : Int) != (b.k : Int)) = false := by unfold bne; rw [e0]; rfl
   have e1 : ((str a.who).toList == (str b.who).toList) = true := by rw [zbp]; simpa using h1
   have n1 : ((str a.who).toList != (str b.who).toList) = false := by unfold bne; rw [e1]; rfl
   have e2 : ((str a.name).toList == (str b.name).toList) = true := by rw [zbp]; simpa using h2
   have n2 : ((str a.name).toList != (str b.name).toList) = false := by unfold bne; rw [e2]; rfl
   have e3 : ((str a.ver).toList == (str b.ver).toList) = true := by rw [zbp]; simpa using h3
   have n3 : ((str a.ver).toList != (str b.ver).toList) = false := by unfold bne; rw [e3]; rfl
   have e5 : ((a.sum : Int) == (b.sum : Int)) = true := by rw [beq_iff_eq]; omega
   have n5 : ((a.sum : Int) != (b.sum : Int)) = false := by unfold bne; rw [e5]; rfl
   have e6 : ((a.n : Int) == (b.n : Int)) = true := by rw [beq_iff_eq]; omega
   have n6 : ((a.n : Int) != (b.n : Int)) = false := by unfold bne; rw [e6]; rfl
   have e7 : ((a.size : Int) == (b.size : Int)) = true := by rw [beq_iff_eq]; omega
   have n7 : ((a.size : Int) != (b.size : Int)) = false := by unfold bne; rw [e7]; rfl
   have e8 : ((str a.holder).toList == (str b.holder).toList) = false := by rw [zbp]; simpa using h8
   have n8 : ((str a.holder).toList != (str b.holder).toList) = true := by unfold bne; rw [e8]; rfl
   have hs : sameE a b = false := by unfold sameE; simp [h8]
   rw [hs]
   clear hs H1 H2 h0 h1 h2 h3 h5 h6 h7 h8
   go_enter Tryz.func14, Tryz.ntmps14
   go_wp2_with fail
   go_ret
   exact ⟨rfl, HB.out 0⟩
 by_cases h9 : a.note = b.note
 rotate_left
 · have e0 : ((a.k : Int) == (b.k : Int)) = true := by rw [beq_iff_eq]; omega
   have n0 : ((a.k : Int) != (b.k : Int)) = false := by unfold bne; rw [e0]; rfl
   have e1 : ((str a.who).toList == (str b.who).toList) = true := by rw [zbp]; simpa using h1
   have n1 : ((str a.who).toList != (str b.who).toList) = false := by unfold bne; rw [e1]; rfl
   have e2 : ((str a.name).toList == (str b.name).toList) = true := by rw [zbp]; simpa using h2
   have n2 : ((str a.name).toList != (str b.name).toList) = false := by unfold bne; rw [e2]; rfl
   have e3 : ((str a.ver).toList == (str b.ver).toList) = true := by rw [zbp]; simpa using h3
   have n3 : ((str a.ver).toList != (str b.ver).toList) = false := by unfold bne; rw [e3]; rfl
   have e5 : ((a.sum : Int) == (b.sum : Int)) = true := by rw [beq_iff_eq]; omega
   have n5 : ((a.sum : Int) != (b.sum : Int)) = false := by unfold bne; rw [e5]; rfl
   have e6 : ((a.n : Int) == (b.n : Int)) = true := by rw [beq_iff_eq]; omega
   have n6 : ((a.n : Int) != (b.n : Int)) = false := by unfold bne; rw [e6]; rfl
   have e7 : ((a.size : Int) == (b.size : Int)) = true := by rw [beq_iff_eq]; omega
   have n7 : ((a.size : Int) != (b.size : Int)) = false := by unfold bne; rw [e7]; rfl
   have e8 : ((str a.holder).toList == (str b.holder).toList) = true := by rw [zbp]; simpa using h8
   have n8 : ((str a.holder).toList != (str b.holder).toList) = false := by unfold bne; rw [e8]; rfl
   have e9 : ((str a.note).toList == (str b.note).toList) = false := by rw [zbp]; simpa using h9
   have n9 : ((str a.note).toList != (str b.note).toList) = true := by unfold bne; rw [e9]; rfl
   have hs : sameE a b = false := by unfold sameE; simp [h9]
   rw [hs]
   clear hs H1 H2 h0 h1 h2 h3 h5 h6 h7 h8 h9
   go_enter Tryz.func14, Tryz.ntmps14
   go_wp2_with fail
   go_ret
   exact ⟨rfl, HB.out 0⟩
 have e0 : ((a.k : Int) == (b.k : Int)) = true := by rw [beq_iff_eq]; omega
 have n0 : ((a.k : Int) != (b.k : Int)) = false := by unfold bne; rw [e0]; rfl
 have e1 : ((str a.who).toList == (str b.who).toList) = true := by rw [zbp]; simpa using h1
 have n1 : ((str a.who).toList != (str b.who).toList) = false := by unfold bne; rw [e1]; rfl
 have e2 : ((str a.name).toList == (str b.name).toList) = true := by rw [zbp]; simpa using h2
 have n2 : ((str a.name).toList != (str b.name).toList) = false := by unfold bne; rw [e2]; rfl
 have e3 : ((str a.ver).toList == (str b.ver).toList) = true := by rw [zbp]; simpa using h3
 have n3 : ((str a.ver).toList != (str b.ver).toList) = false := by unfold bne; rw [e3]; rfl
 have e5 : ((a.sum : Int) == (b.sum : Int)) = true := by rw [beq_iff_eq]; omega
 have n5 : ((a.sum : Int) != (b.sum : Int)) = false := by unfold bne; rw [e5]; rfl
 have e6 : ((a.n : Int) == (b.n : Int)) = true := by rw [beq_iff_eq]; omega
 have n6 : ((a.n : Int) != (b.n : Int)) = false := by unfold bne; rw [e6]; rfl
 have e7 : ((a.size : Int) == (b.size : Int)) = true := by rw [beq_iff_eq]; omega
 have n7 : ((a.size : Int) != (b.size : Int)) = false := by unfold bne; rw [e7]; rfl
 have e8 : ((str a.holder).toList == (str b.holder).toList) = true := by rw [zbp]; simpa using h8
 have n8 : ((str a.holder).toList != (str b.holder).toList) = false := by unfold bne; rw [e8]; rfl
 have e9 : ((str a.note).toList == (str b.note).toList) = true := by rw [zbp]; simpa using h9
 have n9 : ((str a.note).toList != (str b.note).toList) = false := by unfold bne; rw [e9]; rfl
 have hsame : sameE a b = decide (a.needs = b.needs) := by unfold sameE; simp [h0, h1, h2, h3, h5, h6, h7, h8, h9]
 rw [hsame]
 clear hsame h0 h1 h2 h3 h5 h6 h7 h8 h9
 have hfew := H1.out.few
 have HLM : Hid (a.needs.length ≤ 4398046510976) := hid (by omega)
 clear hfew
 by_cases hl : a.needs.length = b.needs.length
 rotate_left
 · have tne : ((a.needs.length : Int) != (b.needs.length : Int)) = true := by rw [bne_iff_ne]; omega
   have hd : decide (a.needs = b.needs) = false := decide_eq_false (fun e => hl (by rw [e]))
   rw [hd]
   clear hl hd H1 H2
   go_enter Tryz.func14, Tryz.ntmps14
   go_wp2_with fail
   go_ret
   exact ⟨rfl, HB.out 0⟩
 have tne : ((a.needs.length : Int) != (b.needs.length : Int)) = false := by rw [bne_eq_false_iff_eq]; omega
 have HL := hid hl
 clear hl
 go_enter Tryz.func14, Tryz.ntmps14
 go_wp2_with fail
 clear tne x0 x1 x2 x3 x5 x6 x7 x8 x9 y0 y1 y2 y3 y5 y6 y7 y8 y9 e0 n0 e1 n1 e2 n2 e3 n3 e5 n5 e6 n6 e7 n7 e8 n8 e9 n9
 generalize (w.alloc (evO a)).alloc (evO b) = w2 at *
 go_loopw [5] (fun vi wr => ∃ i q : Nat, i ≤ a.needs.length ∧ vi = .int .i64 i ∧ wr = w2.drewN q ∧ Hid (∀ j, j < i → a.needs[j]? = b.needs[j]?)) (fun vi _ => a.needs.length - (intOf vi).toNat)
 case atStart => exact ⟨0, 0, Nat.zero_le _, rfl, rfl, hid (fun j h => absurd h (by omega))⟩
 case round =>
  obtain ⟨i, q, hi, rfl, rfl, HS⟩ := hrel
  by_cases hlt : i < a.needs.length
  · have hdec : decide (i < a.needs.length) = true := by simpa using hlt
    have hgt : i < b.needs.length := by have := HL.out; omega
    have hdec2 : decide (i < b.needs.length) = true := by simpa using hgt
    obtain ⟨g, o, x, -, hx, ea, z1, z2⟩ := H1.out.at i hlt
    obtain ⟨g', o', y, -, hy, eb, u1, u2⟩ := H2.out.at i hgt
    rw [ea] at x4
    rw [eb] at y4
    clear ea eb
    have es3 : IntKind.i64.wrap (i : Int) = (i : Int) := IntWalk.i64_in _ ⟨by omega, by have := HLM.out; omega⟩
    have hib : i < 4398046510976 := by have := HLM.out; omega
    have n1' : (0 : Int) ≤ (i : Int) := by omega
    have n2' : (i : Int) < (a.needs.length : Int) := by omega
    have n3' : (i : Int) < (b.needs.length : Int) := by omega
    have hneq := zte x y
    have HSN := hid (show x = y → ∀ j, j < i + 1 → a.needs[j]? = b.needs[j]? from fun e j hj => by
     by_cases e2 : j = i
     · subst e2; rw [hx, hy, e]
     · exact HS.out j (by omega))
    have HNO := hid (show x ≠ y → decide (a.needs = b.needs) = false from fun e => decide_eq_false (fun e2 => by
     rw [e2, hy] at hx
     exact e (Option.some.inj hx).symm))
    clear hx hy
    by_cases hs : x = y
    · have hdn : decide (x ≠ y) = false := by simp [hs]
      rw [hdn] at hneq
      have HNX := hid (HSN.out hs)
      clear hs hdn
      go_wp2_with fail
      go_quiet (fail)
      go_wp2_with fail
      go_roundw
      case rel => exact ⟨i + 1, _, by omega, by go_num, rfl, HNX⟩
      case measure => simp [intOf]; omega
    · have hdn : decide (x ≠ y) = true := by simp [hs]
      rw [hdn] at hneq
      have HNX := hid (HNO.out hs)
      clear hs hdn
      go_wp2_with fail
      go_quiet (fail)
      go_wp2_with fail
      go_ret
      rw [HNX.out, World.drewN_drewN]
      exact ⟨rfl, HB.out _⟩
  · have hdec : decide (i < a.needs.length) = false := by simpa using hlt
    have hdec2 : decide (i < b.needs.length) = false := by have := HL.out; simp; omega
    have hsl : decide (a.needs = b.needs) = true := decide_eq_true (ztf HL.out (fun j hj => HS.out j (by omega)))
    have HSL := hid hsl
    clear hsl
    go_wp2_with fail
    go_ret
    rw [HSL.out]
    exact ⟨rfl, HB.out _⟩
end EvC
end
end Go.Proofs.YtbiplmbcdhjiaaaGreatDoor
