/-
  What the proof of EventForms stands on, part 43.
-/
import Derived.Test.YtbiplmbcdhjiaaaGreatDoorT42
set_option linter.unusedSimpArgs false
set_option linter.unusedVariables false
set_option maxHeartbeats 16000000
namespace Go.Proofs.YtbiplmbcdhjiaaaGreatDoor
open Go.Lib (hid)
section
open Go.RowKit Go.Sort
namespace EvN
open StrC EvF EvC EvA
open VerC (Vw)
theorem same_self (e : EvG) (a : Option Addr) (c : Nat) : sameE (atE e a c) e = true := by
 unfold sameE atE
 simp
theorem ydz {k : Nat} (h : 1 ≤ k ∧ k ≤ 10) : ¬ kw k = [] := by
 rcases (by omega : k = 1 ∨ k = 2 ∨ k = 3 ∨ k = 4 ∨ k = 5 ∨ k = 6 ∨ k = 7 ∨ k = 8 ∨ k = 9 ∨ k = 10) with rfl | rfl | rfl | rfl | rfl | rfl | rfl | rfl | rfl | rfl <;> decide
theorem yea (e x : EvG) (w W2 : World) (hk255 : e.k ≤ 255) (hv : Vw w) (HU : Hid (∀ W, Below W2.heap.size W2 W → Below w.heap.size w W)) (HEI : Hid (∀ W, Below W2.heap.size W2 W → EvIn W e)) (HXW : Hid (∀ W, Below W2.heap.size W2 W → EvIn W x)) (HWK : Hid (∀ W, Below w.heap.size w W → ∀ k, k < 11 → W.cell? ⟨0, k, none⟩ = some (.string (str (kw k)))))
 (hx1 : mayD x = mayD e) (hx2 : bytesM x (fieldsM x.k) = bytesM e (fieldsM e.k)) (hx3 : lineM (kw x.k) x (fieldsM x.k) = lineM (kw e.k) e (fieldsM e.k)) (hx4 : aboutM x = aboutM e) (hx5 : sameE x e = true) :
 Hid (∀ W, Below W2.heap.size W2 W → Calls Tryz.prog 6 #[evV e] W fun r w' => r = .returned (.bool (mayD e)) ∧ Below W.heap.size W w') ∧
 Hid (∀ W, Below W2.heap.size W2 W → Calls Tryz.prog 7 #[evV x] W fun r w' => r = .returned (.int .i64 (mayC (mayD e))) ∧ Below W.heap.size W w') ∧
 Hid (∀ W, Below W2.heap.size W2 W → Calls Tryz.prog 8 #[evV x] W fun r w' => r = .returned (.tuple #[.string (str (if mayD e then bytesM e (fieldsM e.k) else [])), .int .i64 (mayC (mayD e))]) ∧ Below W.heap.size W w') ∧
 Hid (∀ W, Below W2.heap.size W2 W → Calls Tryz.prog 9 #[evV x] W fun r w' => r = .returned (.tuple #[.string (str (if mayD e then lineM (kw e.k) e (fieldsM e.k) else [])), .int .i64 (mayC (mayD e))]) ∧ Below W.heap.size W w') ∧
 Hid (∀ W, Calls Tryz.prog 10 #[evV x] W fun r w' => r = .returned (.tuple #[.string (str (aboutM e).1), .bool (aboutM e).2]) ∧ Below W.heap.size W w') ∧
 Hid (∀ W, Calls Tryz.prog 11 #[evV e] W fun r w' => r = .returned (.tuple #[.string (str (aboutM e).1), .bool (aboutM e).2]) ∧ Below W.heap.size W w') ∧
 Hid (∀ W, Below W2.heap.size W2 W → Calls Tryz.prog 12 #[.int .u8 e.k] W fun r w' => r = .returned (.tuple #[.string (str (kw e.k)), .int .i64 (wordC e.k)]) ∧ Below W.heap.size W w') ∧
 Hid (∀ W, Calls Tryz.prog 13 #[.int .u8 e.k] W fun r w' => r = .returned (.string (str (kw e.k))) ∧ Below W.heap.size W w') ∧
 Hid (∀ W, Below W2.heap.size W2 W → Calls Tryz.prog 14 #[evV x, evV e] W fun r w' => r = .returned (.bool true) ∧ Below W.heap.size W w') ∧
 Hid (∀ W, Below W2.heap.size W2 W → Calls Tryz.prog 15 #[evV x, evV e] W fun r w' => r = .returned (.bool true) ∧ Below W.heap.size W w') ∧
 Hid (∀ W, Below W2.heap.size W2 W → Calls Tryz.prog 16 #[] W fun r w' => r = .returned (.bool true) ∧ Below W.heap.size W w') := by
 have HV := hid hv
 exact ⟨hid (fun W h => rmay_any e W (HEI.out W h)),
  hid (fun W h => by have h2 := pmay_any x W (HXW.out W h) (HV.out.gr (HU.out W h)); rwa [hx1] at h2),
  hid (fun W h => by have h2 := yby x W (HXW.out W h) (HV.out.gr (HU.out W h)); rwa [hx1, hx2] at h2),
  hid (fun W h => by have h2 := ybz x W (HXW.out W h) (HV.out.gr (HU.out W h)) (HWK.out W (HU.out W h)); rwa [hx1, hx3] at h2),
  hid (fun W => by have h2 := ybn x W; rwa [hx4] at h2),
  hid (fun W => yac e W),
  hid (fun W h => ybp e.k hk255 W (HWK.out W (HU.out W h))),
  hid (fun W => zzt e.k hk255 W),
  hid (fun W h => by have h2 := ydy x e W (HXW.out W h).needs (HEI.out W h).needs; rwa [hx5] at h2),
  hid (fun W h => by have h2 := zti x e W (HXW.out W h).needs (HEI.out W h).needs; rwa [hx5] at h2),
  hid (fun W h => ydx W (HV.out.gr (HU.out W h)) (HWK.out W (HU.out W h)))⟩
set_option maxRecDepth 100000 in
theorem yeb (e : EvG) (w : World) (hs : EvIn w e) (hv : Vw w) (hw : ∀ k, k < 11 → w.cell? ⟨0, k, none⟩ = some (.string (str (kw k)))) (hm : mayD e = true) :
 Calls Tryz.prog 3 #[evV e] w fun r w' => r = .returned (.bool true) ∧ Below w.heap.size w w' := by
 have hkk : 1 ≤ e.k ∧ e.k ≤ 10 := by
  have h := hm
  unfold mayD at h
  rw [Bool.and_eq_true] at h
  exact of_decide_eq_true h.1
 have hwc : wordC e.k = 0 := if_pos hkk
 have hkv := ydz hkk
 clear hkk
 have hk255 := hs.k
 have hB0 := alW w (evO e)
 have HB0 := hid hB0
 have hr := heap_alloc_new w (evO e)
 have HTW := hid (ztt e (w.alloc (evO e)) ((hs.gr hB0).needs))
 have HS := hid hs
 have HV := hid hv
 have HW := hid hw
 have HWK : Hid (∀ W, Below w.heap.size w W → ∀ k, k < 11 → W.cell? ⟨0, k, none⟩ = some (.string (str (kw k)))) := hid (fun W hb k hk => (hb.cell (World.block_lt_of_cell? _ _ (hw k hk))).trans (hw k hk))
 obtain ⟨p0, p1, p2, p3, p4, p5, p6, p7, p8, p9⟩ := ztd hr
 have HR := hid hr
 clear hs hv hw hB0 hr
 go_enter Tryz.func3, Tryz.ntmps3
 go_wp2_with fail
 refine HTW.out.mono ?_
 rintro r w1 ⟨a1, c1, rfl, hnx, hb1⟩
 have hz2 := heap_alloc_new w1 zO
 have hp1 := (hb1.block w.heap.size (by simp)).trans HR.out
 have HB1 := hid (HB0.out.trans (hb1.mono HB0.out.size))
 have HXN := hid hnx
 have hlt1 : w.heap.size < w1.heap.size := (Array.getElem?_eq_some_iff.1 hp1).1
 have HXF : Hid (mayD (atE e a1 c1) = mayD e ∧ bytesM (atE e a1 c1) (fieldsM (atE e a1 c1).k) = bytesM e (fieldsM e.k) ∧ lineM (kw (atE e a1 c1).k) (atE e a1 c1) (fieldsM (atE e a1 c1).k) = lineM (kw e.k) e (fieldsM e.k) ∧ aboutM (atE e a1 c1) = aboutM e ∧ sameE (atE e a1 c1) e = true) := hid ⟨rfl, rfl, rfl, rfl, same_self e a1 c1⟩
 have HXI : Hid (∀ W, Below w1.heap.size w1 W → EvIn W (atE e a1 c1)) := hid (fun W h => ⟨HS.out.k, HS.out.sum, HS.out.n, HS.out.size, HS.out.who, HS.out.name, HS.out.ver, HS.out.holder, HS.out.note, HXN.out.gr h⟩)
 clear hnx hb1 p0 p1 p2 p3 p4 p5 p6 p7 p8 p9 HTW
 generalize atE e a1 c1 = x at *
 go_upto_region 2 with (first | (refine wpList_store_row rfl 27 _ _ rfl w1.heap.size (evL x).toArray rfl rfl _ _ hz2 zto rfl (ztp _) ?_) | fail)
 have hq2 : ((w1.alloc zO).setRow w1.heap.size (evL x).toArray).heap[w1.heap.size]? = some (evO x) := setRow_heap _ _ _ _ _ _ hz2
 have hp2 : ((w1.alloc zO).setRow w1.heap.size (evL x).toArray).heap[w.heap.size]? = some (evO e) := by
  rw [setRow_other _ _ w.heap.size _ (by omega), heap_alloc_old _ _ hlt1]; exact hp1
 have hB2 : Below w1.heap.size w1 ((w1.alloc zO).setRow w1.heap.size (evL x).toArray) := below_setRow (alW w1 zO) (Nat.le_refl _) _
 generalize (w1.alloc zO).setRow w1.heap.size (evL x).toArray = W2 at *
 have HP : Hid (∀ W, Below W2.heap.size W2 W → W.heap[w.heap.size]? = some (evO e)) := hid (fun W h => (h.block _ (Array.getElem?_eq_some_iff.1 hp2).1).trans hp2)
 have HQ : Hid (∀ W, Below W2.heap.size W2 W → W.heap[w1.heap.size]? = some (evO x)) := hid (fun W h => (h.block _ (Array.getElem?_eq_some_iff.1 hq2).1).trans hq2)
 have HU1 : Hid (∀ W, Below W2.heap.size W2 W → Below w1.heap.size w1 W) := hid (fun W h => hB2.trans (h.mono hB2.size))
 have HU : Hid (∀ W, Below W2.heap.size W2 W → Below w.heap.size w W) := hid (fun W h => HB1.out.trans ((hB2.trans (h.mono hB2.size)).mono HB1.out.size))
 clear hz2 hp1 hq2 hp2 hB2 HR HB0
 obtain ⟨hx1, hx2, hx3, hx4, hx5⟩ := HXF.out
 have HEI : Hid (∀ W, Below W2.heap.size W2 W → EvIn W e) := hid (fun W h => HS.out.gr (HU.out W h))
 have HXW : Hid (∀ W, Below W2.heap.size W2 W → EvIn W x) := hid (fun W h => HXI.out W (HU1.out W h))
 obtain ⟨CRM, CPM, CPB, CPT, CPA, CRA, CPW, CRW, CRS, CPS, CAL⟩ := yea e x w W2 hk255 HV.out HU HEI HXW HWK hx1 hx2 hx3 hx4 hx5
 have CRB : Hid (∀ W, Below W2.heap.size W2 W → Calls Tryz.prog 17 #[evV e] W fun r w' => r = .returned (.string (str (bytesM e (fieldsM e.k)))) ∧ Below W.heap.size W w') := hid (fun W h => ybd e hk255 (ybt HS.out hm) W (HEI.out W h).needs)
 have CRT : Hid (∀ W, Below W2.heap.size W2 W → Calls Tryz.prog 18 #[evV e] W fun r w' => r = .returned (.string (str (lineM (kw e.k) e (fieldsM e.k)))) ∧ Below W.heap.size W w') := hid (fun W h => ybf e hk255 (ybt HS.out hm) W (HEI.out W h).needs)
 rw [hm] at CRM CPM CPB CPT
 rw [hwc] at CPW
 simp only [if_true] at CPB CPT
 rw [show mayC true = 0 from rfl] at CPM CPB CPT
 have hek : (str (kw e.k)).toList.isEmpty = false := yaa hkv
 have hez : (str []).toList.isEmpty = true := zzz rfl
 generalize bytesM e (fieldsM e.k) = OB at *
 generalize lineM (kw e.k) e (fieldsM e.k) = OT at *
 generalize aboutM e = am at *
 generalize kw e.k = kk at *
 clear hm hx1 hx2 hx3 hx4 hx5 hwc hkv hk255 HXF HXI HS HV HW
 have HI2 : Hid (Below W2.heap.size W2 W2) := hid (Below.refl _ _)
 obtain ⟨p0, p1, p2, p3, p4, p5, p6, p7, p8, p9⟩ := ztd (HP.out _ HI2.out)
 go_wp2_with fail
 refine (CRM.out _ HI2.out).mono ?_
 rintro r w3 ⟨rfl, hb⟩
 have HI3 := hid (HI2.out.trans (hb.mono HI2.out.size))
 clear hb p0 p1 p2 p3 p4 p5 p6 p7 p8 p9
 obtain ⟨q0, q1, q2, q3, q4, q5, q6, q7, q8, q9⟩ := ztd (HQ.out _ HI3.out)
 go_wp2_with fail
 refine (CPM.out _ HI3.out).mono ?_
 rintro r w4 ⟨rfl, hb⟩
 have HI4 := hid (HI3.out.trans (hb.mono HI3.out.size))
 clear hb q0 q1 q2 q3 q4 q5 q6 q7 q8 q9
 obtain ⟨q0, q1, q2, q3, q4, q5, q6, q7, q8, q9⟩ := ztd (HQ.out _ HI4.out)
 go_wp2_with fail
 refine (CPB.out _ HI4.out).mono ?_
 rintro r w5 ⟨rfl, hb⟩
 have HI5 := hid (HI4.out.trans (hb.mono HI4.out.size))
 clear hb q0 q1 q2 q3 q4 q5 q6 q7 q8 q9
 obtain ⟨q0, q1, q2, q3, q4, q5, q6, q7, q8, q9⟩ := ztd (HQ.out _ HI5.out)
 go_wp2_with fail
 refine (CPT.out _ HI5.out).mono ?_
 rintro r w6 ⟨rfl, hb⟩
 have HI6 := hid (HI5.out.trans (hb.mono HI5.out.size))
 clear hb q0 q1 q2 q3 q4 q5 q6 q7 q8 q9
 obtain ⟨q0, q1, q2, q3, q4, q5, q6, q7, q8, q9⟩ := ztd (HQ.out _ HI6.out)
 go_wp2_with fail
 refine (CPA.out _).mono ?_
 rintro r w7 ⟨rfl, hb⟩
 have HI7 := hid (HI6.out.trans (hb.mono HI6.out.size))
 clear hb q0 q1 q2 q3 q4 q5 q6 q7 q8 q9
 obtain ⟨p0, p1, p2, p3, p4, p5, p6, p7, p8, p9⟩ := ztd (HP.out _ HI7.out)
 go_wp2_with fail
 refine (CRA.out _).mono ?_
 rintro r w8 ⟨rfl, hb⟩
 have HI8 := hid (HI7.out.trans (hb.mono HI7.out.size))
 clear hb p0 p1 p2 p3 p4 p5 p6 p7 p8 p9
 obtain ⟨p0, p1, p2, p3, p4, p5, p6, p7, p8, p9⟩ := ztd (HP.out _ HI8.out)
 go_wp2_with fail
 refine (CPW.out _ HI8.out).mono ?_
 rintro r w9 ⟨rfl, hb⟩
 have HI9 := hid (HI8.out.trans (hb.mono HI8.out.size))
 clear hb p0 p1 p2 p3 p4 p5 p6 p7 p8 p9
 obtain ⟨p0, p1, p2, p3, p4, p5, p6, p7, p8, p9⟩ := ztd (HP.out _ HI9.out)
 obtain ⟨q0, q1, q2, q3, q4, q5, q6, q7, q8, q9⟩ := ztd (HQ.out _ HI9.out)
 go_wp2_with (first
  | (go_at_call 13; refine (CRW.out _).mono ?_; rintro r w10 ⟨rfl, hb⟩; have HI10 := hid (HI9.out.trans (hb.mono HI9.out.size)); clear hb p0 p1 p2 p3 p4 p5 p6 p7 p8 p9 q0 q1 q2 q3 q4 q5 q6 q7 q8 q9; obtain ⟨p0, p1, p2, p3, p4, p5, p6, p7, p8, p9⟩ := ztd (HP.out _ HI10.out); obtain ⟨q0, q1, q2, q3, q4, q5, q6, q7, q8, q9⟩ := ztd (HQ.out _ HI10.out))
  | (go_at_call 14; refine (CRS.out _ HI10.out).mono ?_; rintro r w11 ⟨rfl, hb⟩; have HI11 := hid (HI10.out.trans (hb.mono HI10.out.size)); clear hb p0 p1 p2 p3 p4 p5 p6 p7 p8 p9 q0 q1 q2 q3 q4 q5 q6 q7 q8 q9; obtain ⟨p0, p1, p2, p3, p4, p5, p6, p7, p8, p9⟩ := ztd (HP.out _ HI11.out); obtain ⟨q0, q1, q2, q3, q4, q5, q6, q7, q8, q9⟩ := ztd (HQ.out _ HI11.out))
  | (go_at_call 15; refine (CPS.out _ HI11.out).mono ?_; rintro r w12 ⟨rfl, hb⟩; have HI12 := hid (HI11.out.trans (hb.mono HI11.out.size)); clear hb p0 p1 p2 p3 p4 p5 p6 p7 p8 p9 q0 q1 q2 q3 q4 q5 q6 q7 q8 q9; obtain ⟨p0, p1, p2, p3, p4, p5, p6, p7, p8, p9⟩ := ztd (HP.out _ HI12.out))
  | (go_at_call 17; refine (CRB.out _ HI12.out).mono ?_; rintro r w13 ⟨rfl, hb⟩; have HI13 := hid (HI12.out.trans (hb.mono HI12.out.size)); clear hb p0 p1 p2 p3 p4 p5 p6 p7 p8 p9; obtain ⟨p0, p1, p2, p3, p4, p5, p6, p7, p8, p9⟩ := ztd (HP.out _ HI13.out))
  | (go_at_call 18; refine (CRT.out _ HI13.out).mono ?_; rintro r w14 ⟨rfl, hb⟩; have HI14 := hid (HI13.out.trans (hb.mono HI13.out.size)); clear hb p0 p1 p2 p3 p4 p5 p6 p7 p8 p9)
  | (go_at_call 16; refine (CAL.out _ HI14.out).mono ?_; rintro r w15 ⟨rfl, hb⟩; have HI15 := hid (HI14.out.trans (hb.mono HI14.out.size)); clear hb )
  | fail)
 go_ret
 exact ⟨rfl, HU.out _ HI15.out⟩
set_option maxRecDepth 100000 in
theorem yec (e : EvG) (w : World) (hs : EvIn w e) (hv : Vw w) (hw : ∀ k, k < 11 → w.cell? ⟨0, k, none⟩ = some (.string (str (kw k)))) (hm : mayD e = false) (hkk : 1 ≤ e.k ∧ e.k ≤ 10) :
 Calls Tryz.prog 3 #[evV e] w fun r w' => r = .returned (.bool true) ∧ Below w.heap.size w w' := by
 have hwc : wordC e.k = 0 := if_pos hkk
 have hkv := ydz hkk
 clear hkk
 have hk255 := hs.k
 have hB0 := alW w (evO e)
 have HB0 := hid hB0
 have hr := heap_alloc_new w (evO e)
 have HTW := hid (ztt e (w.alloc (evO e)) ((hs.gr hB0).needs))
 have HS := hid hs
 have HV := hid hv
 have HW := hid hw
 have HWK : Hid (∀ W, Below w.heap.size w W → ∀ k, k < 11 → W.cell? ⟨0, k, none⟩ = some (.string (str (kw k)))) := hid (fun W hb k hk => (hb.cell (World.block_lt_of_cell? _ _ (hw k hk))).trans (hw k hk))
 obtain ⟨p0, p1, p2, p3, p4, p5, p6, p7, p8, p9⟩ := ztd hr
 have HR := hid hr
 clear hs hv hw hB0 hr
 go_enter Tryz.func3, Tryz.ntmps3
 go_wp2_with fail
 refine HTW.out.mono ?_
 rintro r w1 ⟨a1, c1, rfl, hnx, hb1⟩
 have hz2 := heap_alloc_new w1 zO
 have hp1 := (hb1.block w.heap.size (by simp)).trans HR.out
 have HB1 := hid (HB0.out.trans (hb1.mono HB0.out.size))
 have HXN := hid hnx
 have hlt1 : w.heap.size < w1.heap.size := (Array.getElem?_eq_some_iff.1 hp1).1
 have HXF : Hid (mayD (atE e a1 c1) = mayD e ∧ bytesM (atE e a1 c1) (fieldsM (atE e a1 c1).k) = bytesM e (fieldsM e.k) ∧ lineM (kw (atE e a1 c1).k) (atE e a1 c1) (fieldsM (atE e a1 c1).k) = lineM (kw e.k) e (fieldsM e.k) ∧ aboutM (atE e a1 c1) = aboutM e ∧ sameE (atE e a1 c1) e = true) := hid ⟨rfl, rfl, rfl, rfl, same_self e a1 c1⟩
 have HXI : Hid (∀ W, Below w1.heap.size w1 W → EvIn W (atE e a1 c1)) := hid (fun W h => ⟨HS.out.k, HS.out.sum, HS.out.n, HS.out.size, HS.out.who, HS.out.name, HS.out.ver, HS.out.holder, HS.out.note, HXN.out.gr h⟩)
 clear hnx hb1 p0 p1 p2 p3 p4 p5 p6 p7 p8 p9 HTW
 generalize atE e a1 c1 = x at *
 go_upto_region 2 with (first | (refine wpList_store_row rfl 27 _ _ rfl w1.heap.size (evL x).toArray rfl rfl _ _ hz2 zto rfl (ztp _) ?_) | fail)
 have hq2 : ((w1.alloc zO).setRow w1.heap.size (evL x).toArray).heap[w1.heap.size]? = some (evO x) := setRow_heap _ _ _ _ _ _ hz2
 have hp2 : ((w1.alloc zO).setRow w1.heap.size (evL x).toArray).heap[w.heap.size]? = some (evO e) := by
  rw [setRow_other _ _ w.heap.size _ (by omega), heap_alloc_old _ _ hlt1]; exact hp1
 have hB2 : Below w1.heap.size w1 ((w1.alloc zO).setRow w1.heap.size (evL x).toArray) := below_setRow (alW w1 zO) (Nat.le_refl _) _
 generalize (w1.alloc zO).setRow w1.heap.size (evL x).toArray = W2 at *
 have HP : Hid (∀ W, Below W2.heap.size W2 W → W.heap[w.heap.size]? = some (evO e)) := hid (fun W h => (h.block _ (Array.getElem?_eq_some_iff.1 hp2).1).trans hp2)
 have HQ : Hid (∀ W, Below W2.heap.size W2 W → W.heap[w1.heap.size]? = some (evO x)) := hid (fun W h => (h.block _ (Array.getElem?_eq_some_iff.1 hq2).1).trans hq2)
 have HU1 : Hid (∀ W, Below W2.heap.size W2 W → Below w1.heap.size w1 W) := hid (fun W h => hB2.trans (h.mono hB2.size))
 have HU : Hid (∀ W, Below W2.heap.size W2 W → Below w.heap.size w W) := hid (fun W h => HB1.out.trans ((hB2.trans (h.mono hB2.size)).mono HB1.out.size))
 clear hz2 hp1 hq2 hp2 hB2 HR HB0
 obtain ⟨hx1, hx2, hx3, hx4, hx5⟩ := HXF.out
 have HEI : Hid (∀ W, Below W2.heap.size W2 W → EvIn W e) := hid (fun W h => HS.out.gr (HU.out W h))
 have HXW : Hid (∀ W, Below W2.heap.size W2 W → EvIn W x) := hid (fun W h => HXI.out W (HU1.out W h))
 obtain ⟨CRM, CPM, CPB, CPT, CPA, CRA, CPW, CRW, CRS, CPS, CAL⟩ := yea e x w W2 hk255 HV.out HU HEI HXW HWK hx1 hx2 hx3 hx4 hx5
 rw [hm] at CRM CPM CPB CPT
 rw [hwc] at CPW
 simp only [Bool.false_eq_true, if_false] at CPB CPT
 rw [show mayC false = 90 from rfl] at CPM CPB CPT
 have hek : (str (kw e.k)).toList.isEmpty = false := yaa hkv
 have hez : (str []).toList.isEmpty = true := zzz rfl
 generalize bytesM e (fieldsM e.k) = OB at *
 generalize lineM (kw e.k) e (fieldsM e.k) = OT at *
 generalize aboutM e = am at *
 generalize kw e.k = kk at *
 clear hm hx1 hx2 hx3 hx4 hx5 hwc hkv hk255 HXF HXI HS HV HW
 have HI2 : Hid (Below W2.heap.size W2 W2) := hid (Below.refl _ _)
 obtain ⟨p0, p1, p2, p3, p4, p5, p6, p7, p8, p9⟩ := ztd (HP.out _ HI2.out)
 go_wp2_with fail
 refine (CRM.out _ HI2.out).mono ?_
 rintro r w3 ⟨rfl, hb⟩
 have HI3 := hid (HI2.out.trans (hb.mono HI2.out.size))
 clear hb p0 p1 p2 p3 p4 p5 p6 p7 p8 p9
 obtain ⟨q0, q1, q2, q3, q4, q5, q6, q7, q8, q9⟩ := ztd (HQ.out _ HI3.out)
 go_wp2_with fail
 refine (CPM.out _ HI3.out).mono ?_
 rintro r w4 ⟨rfl, hb⟩
 have HI4 := hid (HI3.out.trans (hb.mono HI3.out.size))
 clear hb q0 q1 q2 q3 q4 q5 q6 q7 q8 q9
 obtain ⟨q0, q1, q2, q3, q4, q5, q6, q7, q8, q9⟩ := ztd (HQ.out _ HI4.out)
 go_wp2_with fail
 refine (CPB.out _ HI4.out).mono ?_
 rintro r w5 ⟨rfl, hb⟩
 have HI5 := hid (HI4.out.trans (hb.mono HI4.out.size))
 clear hb q0 q1 q2 q3 q4 q5 q6 q7 q8 q9
 obtain ⟨q0, q1, q2, q3, q4, q5, q6, q7, q8, q9⟩ := ztd (HQ.out _ HI5.out)
 go_wp2_with fail
 refine (CPT.out _ HI5.out).mono ?_
 rintro r w6 ⟨rfl, hb⟩
 have HI6 := hid (HI5.out.trans (hb.mono HI5.out.size))
 clear hb q0 q1 q2 q3 q4 q5 q6 q7 q8 q9
 obtain ⟨q0, q1, q2, q3, q4, q5, q6, q7, q8, q9⟩ := ztd (HQ.out _ HI6.out)
 go_wp2_with fail
 refine (CPA.out _).mono ?_
 rintro r w7 ⟨rfl, hb⟩
 have HI7 := hid (HI6.out.trans (hb.mono HI6.out.size))
 clear hb q0 q1 q2 q3 q4 q5 q6 q7 q8 q9
 obtain ⟨p0, p1, p2, p3, p4, p5, p6, p7, p8, p9⟩ := ztd (HP.out _ HI7.out)
 go_wp2_with fail
 refine (CRA.out _).mono ?_
 rintro r w8 ⟨rfl, hb⟩
 have HI8 := hid (HI7.out.trans (hb.mono HI7.out.size))
 clear hb p0 p1 p2 p3 p4 p5 p6 p7 p8 p9
 obtain ⟨p0, p1, p2, p3, p4, p5, p6, p7, p8, p9⟩ := ztd (HP.out _ HI8.out)
 go_wp2_with fail
 refine (CPW.out _ HI8.out).mono ?_
 rintro r w9 ⟨rfl, hb⟩
 have HI9 := hid (HI8.out.trans (hb.mono HI8.out.size))
 clear hb p0 p1 p2 p3 p4 p5 p6 p7 p8 p9
 obtain ⟨p0, p1, p2, p3, p4, p5, p6, p7, p8, p9⟩ := ztd (HP.out _ HI9.out)
 obtain ⟨q0, q1, q2, q3, q4, q5, q6, q7, q8, q9⟩ := ztd (HQ.out _ HI9.out)
 go_wp2_with (first
  | (go_at_call 13; refine (CRW.out _).mono ?_; rintro r w10 ⟨rfl, hb⟩; have HI10 := hid (HI9.out.trans (hb.mono HI9.out.size)); clear hb p0 p1 p2 p3 p4 p5 p6 p7 p8 p9 q0 q1 q2 q3 q4 q5 q6 q7 q8 q9; obtain ⟨p0, p1, p2, p3, p4, p5, p6, p7, p8, p9⟩ := ztd (HP.out _ HI10.out); obtain ⟨q0, q1, q2, q3, q4, q5, q6, q7, q8, q9⟩ := ztd (HQ.out _ HI10.out))
  | (go_at_call 14; refine (CRS.out _ HI10.out).mono ?_; rintro r w11 ⟨rfl, hb⟩; have HI11 := hid (HI10.out.trans (hb.mono HI10.out.size)); clear hb p0 p1 p2 p3 p4 p5 p6 p7 p8 p9 q0 q1 q2 q3 q4 q5 q6 q7 q8 q9; obtain ⟨p0, p1, p2, p3, p4, p5, p6, p7, p8, p9⟩ := ztd (HP.out _ HI11.out); obtain ⟨q0, q1, q2, q3, q4, q5, q6, q7, q8, q9⟩ := ztd (HQ.out _ HI11.out))
  | (go_at_call 15; refine (CPS.out _ HI11.out).mono ?_; rintro r w12 ⟨rfl, hb⟩; have HI12 := hid (HI11.out.trans (hb.mono HI11.out.size)); clear hb p0 p1 p2 p3 p4 p5 p6 p7 p8 p9 q0 q1 q2 q3 q4 q5 q6 q7 q8 q9; obtain ⟨p0, p1, p2, p3, p4, p5, p6, p7, p8, p9⟩ := ztd (HP.out _ HI12.out))
  | (go_at_call 16; refine (CAL.out _ HI12.out).mono ?_; rintro r w13 ⟨rfl, hb⟩; have HI13 := hid (HI12.out.trans (hb.mono HI12.out.size)); clear hb p0 p1 p2 p3 p4 p5 p6 p7 p8 p9)
  | fail)
 go_ret
 exact ⟨rfl, HU.out _ HI13.out⟩
set_option maxRecDepth 100000 in
theorem yed (e : EvG) (w : World) (hs : EvIn w e) (hv : Vw w) (hw : ∀ k, k < 11 → w.cell? ⟨0, k, none⟩ = some (.string (str (kw k)))) (hm : mayD e = false) (hkk : ¬ (1 ≤ e.k ∧ e.k ≤ 10)) :
 Calls Tryz.prog 3 #[evV e] w fun r w' => r = .returned (.bool true) ∧ Below w.heap.size w w' := by
 have hwc : wordC e.k = 2 := if_neg hkk
 have hkv := ybo (k := e.k) (by omega)
 clear hkk
 have hk255 := hs.k
 have hB0 := alW w (evO e)
 have HB0 := hid hB0
 have hr := heap_alloc_new w (evO e)
 have HTW := hid (ztt e (w.alloc (evO e)) ((hs.gr hB0).needs))
 have HS := hid hs
 have HV := hid hv
 have HW := hid hw
 have HWK : Hid (∀ W, Below w.heap.size w W → ∀ k, k < 11 → W.cell? ⟨0, k, none⟩ = some (.string (str (kw k)))) := hid (fun W hb k hk => (hb.cell (World.block_lt_of_cell? _ _ (hw k hk))).trans (hw k hk))
 obtain ⟨p0, p1, p2, p3, p4, p5, p6, p7, p8, p9⟩ := ztd hr
 have HR := hid hr
 clear hs hv hw hB0 hr
 go_enter Tryz.func3, Tryz.ntmps3
 go_wp2_with fail
 refine HTW.out.mono ?_
 rintro r w1 ⟨a1, c1, rfl, hnx, hb1⟩
 have hz2 := heap_alloc_new w1 zO
 have hp1 := (hb1.block w.heap.size (by simp)).trans HR.out
 have HB1 := hid (HB0.out.trans (hb1.mono HB0.out.size))
 have HXN := hid hnx
 have hlt1 : w.heap.size < w1.heap.size := (Array.getElem?_eq_some_iff.1 hp1).1
 have HXF : Hid (mayD (atE e a1 c1) = mayD e ∧ bytesM (atE e a1 c1) (fieldsM (atE e a1 c1).k) = bytesM e (fieldsM e.k) ∧ lineM (kw (atE e a1 c1).k) (atE e a1 c1) (fieldsM (atE e a1 c1).k) = lineM (kw e.k) e (fieldsM e.k) ∧ aboutM (atE e a1 c1) = aboutM e ∧ sameE (atE e a1 c1) e = true) := hid ⟨rfl, rfl, rfl, rfl, same_self e a1 c1⟩
 have HXI : Hid (∀ W, Below w1.heap.size w1 W → EvIn W (atE e a1 c1)) := hid (fun W h => ⟨HS.out.k, HS.out.sum, HS.out.n, HS.out.size, HS.out.who, HS.out.name, HS.out.ver, HS.out.holder, HS.out.note, HXN.out.gr h⟩)
 clear hnx hb1 p0 p1 p2 p3 p4 p5 p6 p7 p8 p9 HTW
 generalize atE e a1 c1 = x at *
 go_upto_region 2 with (first | (refine wpList_store_row rfl 27 _ _ rfl w1.heap.size (evL x).toArray rfl rfl _ _ hz2 zto rfl (ztp _) ?_) | fail)
 have hq2 : ((w1.alloc zO).setRow w1.heap.size (evL x).toArray).heap[w1.heap.size]? = some (evO x) := setRow_heap _ _ _ _ _ _ hz2
 have hp2 : ((w1.alloc zO).setRow w1.heap.size (evL x).toArray).heap[w.heap.size]? = some (evO e) := by
  rw [setRow_other _ _ w.heap.size _ (by omega), heap_alloc_old _ _ hlt1]; exact hp1
 have hB2 : Below w1.heap.size w1 ((w1.alloc zO).setRow w1.heap.size (evL x).toArray) := below_setRow (alW w1 zO) (Nat.le_refl _) _
 generalize (w1.alloc zO).setRow w1.heap.size (evL x).toArray = W2 at *
 have HP : Hid (∀ W, Below W2.heap.size W2 W → W.heap[w.heap.size]? = some (evO e)) := hid (fun W h => (h.block _ (Array.getElem?_eq_some_iff.1 hp2).1).trans hp2)
 have HQ : Hid (∀ W, Below W2.heap.size W2 W → W.heap[w1.heap.size]? = some (evO x)) := hid (fun W h => (h.block _ (Array.getElem?_eq_some_iff.1 hq2).1).trans hq2)
 have HU1 : Hid (∀ W, Below W2.heap.size W2 W → Below w1.heap.size w1 W) := hid (fun W h => hB2.trans (h.mono hB2.size))
 have HU : Hid (∀ W, Below W2.heap.size W2 W → Below w.heap.size w W) := hid (fun W h => HB1.out.trans ((hB2.trans (h.mono hB2.size)).mono HB1.out.size))
 clear hz2 hp1 hq2 hp2 hB2 HR HB0
 obtain ⟨hx1, hx2, hx3, hx4, hx5⟩ := HXF.out
 have HEI : Hid (∀ W, Below W2.heap.size W2 W → EvIn W e) := hid (fun W h => HS.out.gr (HU.out W h))
 have HXW : Hid (∀ W, Below W2.heap.size W2 W → EvIn W x) := hid (fun W h => HXI.out W (HU1.out W h))
 obtain ⟨CRM, CPM, CPB, CPT, CPA, CRA, CPW, CRW, CRS, CPS, CAL⟩ := yea e x w W2 hk255 HV.out HU HEI HXW HWK hx1 hx2 hx3 hx4 hx5
 rw [hm] at CRM CPM CPB CPT
 rw [hwc] at CPW
 simp only [Bool.false_eq_true, if_false] at CPB CPT
 rw [show mayC false = 90 from rfl] at CPM CPB CPT
 have hek : (str (kw e.k)).toList.isEmpty = true := zzz hkv
 have hez : (str []).toList.isEmpty = true := zzz rfl
 generalize bytesM e (fieldsM e.k) = OB at *
 generalize lineM (kw e.k) e (fieldsM e.k) = OT at *
 generalize aboutM e = am at *
 generalize kw e.k = kk at *
 clear hm hx1 hx2 hx3 hx4 hx5 hwc hkv hk255 HXF HXI HS HV HW
 have HI2 : Hid (Below W2.heap.size W2 W2) := hid (Below.refl _ _)
 obtain ⟨p0, p1, p2, p3, p4, p5, p6, p7, p8, p9⟩ := ztd (HP.out _ HI2.out)
 go_wp2_with fail
 refine (CRM.out _ HI2.out).mono ?_
 rintro r w3 ⟨rfl, hb⟩
 have HI3 := hid (HI2.out.trans (hb.mono HI2.out.size))
 clear hb p0 p1 p2 p3 p4 p5 p6 p7 p8 p9
 obtain ⟨q0, q1, q2, q3, q4, q5, q6, q7, q8, q9⟩ := ztd (HQ.out _ HI3.out)
 go_wp2_with fail
 refine (CPM.out _ HI3.out).mono ?_
 rintro r w4 ⟨rfl, hb⟩
 have HI4 := hid (HI3.out.trans (hb.mono HI3.out.size))
 clear hb q0 q1 q2 q3 q4 q5 q6 q7 q8 q9
 obtain ⟨q0, q1, q2, q3, q4, q5, q6, q7, q8, q9⟩ := ztd (HQ.out _ HI4.out)
 go_wp2_with fail
 refine (CPB.out _ HI4.out).mono ?_
 rintro r w5 ⟨rfl, hb⟩
 have HI5 := hid (HI4.out.trans (hb.mono HI4.out.size))
 clear hb q0 q1 q2 q3 q4 q5 q6 q7 q8 q9
 obtain ⟨q0, q1, q2, q3, q4, q5, q6, q7, q8, q9⟩ := ztd (HQ.out _ HI5.out)
 go_wp2_with fail
 refine (CPT.out _ HI5.out).mono ?_
 rintro r w6 ⟨rfl, hb⟩
 have HI6 := hid (HI5.out.trans (hb.mono HI5.out.size))
 clear hb q0 q1 q2 q3 q4 q5 q6 q7 q8 q9
 obtain ⟨q0, q1, q2, q3, q4, q5, q6, q7, q8, q9⟩ := ztd (HQ.out _ HI6.out)
 go_wp2_with fail
 refine (CPA.out _).mono ?_
 rintro r w7 ⟨rfl, hb⟩
 have HI7 := hid (HI6.out.trans (hb.mono HI6.out.size))
 clear hb q0 q1 q2 q3 q4 q5 q6 q7 q8 q9
 obtain ⟨p0, p1, p2, p3, p4, p5, p6, p7, p8, p9⟩ := ztd (HP.out _ HI7.out)
 go_wp2_with fail
 refine (CRA.out _).mono ?_
 rintro r w8 ⟨rfl, hb⟩
 have HI8 := hid (HI7.out.trans (hb.mono HI7.out.size))
 clear hb p0 p1 p2 p3 p4 p5 p6 p7 p8 p9
 obtain ⟨p0, p1, p2, p3, p4, p5, p6, p7, p8, p9⟩ := ztd (HP.out _ HI8.out)
 go_wp2_with fail
 refine (CPW.out _ HI8.out).mono ?_
 rintro r w9 ⟨rfl, hb⟩
 have HI9 := hid (HI8.out.trans (hb.mono HI8.out.size))
 clear hb p0 p1 p2 p3 p4 p5 p6 p7 p8 p9
 obtain ⟨p0, p1, p2, p3, p4, p5, p6, p7, p8, p9⟩ := ztd (HP.out _ HI9.out)
 obtain ⟨q0, q1, q2, q3, q4, q5, q6, q7, q8, q9⟩ := ztd (HQ.out _ HI9.out)
 go_wp2_with (first
  | (go_at_call 13; refine (CRW.out _).mono ?_; rintro r w10 ⟨rfl, hb⟩; have HI10 := hid (HI9.out.trans (hb.mono HI9.out.size)); clear hb p0 p1 p2 p3 p4 p5 p6 p7 p8 p9 q0 q1 q2 q3 q4 q5 q6 q7 q8 q9; obtain ⟨p0, p1, p2, p3, p4, p5, p6, p7, p8, p9⟩ := ztd (HP.out _ HI10.out); obtain ⟨q0, q1, q2, q3, q4, q5, q6, q7, q8, q9⟩ := ztd (HQ.out _ HI10.out))
  | (go_at_call 14; refine (CRS.out _ HI10.out).mono ?_; rintro r w11 ⟨rfl, hb⟩; have HI11 := hid (HI10.out.trans (hb.mono HI10.out.size)); clear hb p0 p1 p2 p3 p4 p5 p6 p7 p8 p9 q0 q1 q2 q3 q4 q5 q6 q7 q8 q9; obtain ⟨p0, p1, p2, p3, p4, p5, p6, p7, p8, p9⟩ := ztd (HP.out _ HI11.out); obtain ⟨q0, q1, q2, q3, q4, q5, q6, q7, q8, q9⟩ := ztd (HQ.out _ HI11.out))
  | (go_at_call 15; refine (CPS.out _ HI11.out).mono ?_; rintro r w12 ⟨rfl, hb⟩; have HI12 := hid (HI11.out.trans (hb.mono HI11.out.size)); clear hb p0 p1 p2 p3 p4 p5 p6 p7 p8 p9 q0 q1 q2 q3 q4 q5 q6 q7 q8 q9; obtain ⟨p0, p1, p2, p3, p4, p5, p6, p7, p8, p9⟩ := ztd (HP.out _ HI12.out))
  | (go_at_call 16; refine (CAL.out _ HI12.out).mono ?_; rintro r w13 ⟨rfl, hb⟩; have HI13 := hid (HI12.out.trans (hb.mono HI12.out.size)); clear hb p0 p1 p2 p3 p4 p5 p6 p7 p8 p9)
  | fail)
 go_ret
 exact ⟨rfl, HU.out _ HI13.out⟩
theorem forms_law (e : EvG) (w : World) (hs : EvIn w e) (hv : Vw w) (hw : ∀ k, k < 11 → w.cell? ⟨0, k, none⟩ = some (.string (str (kw k)))) :
 Calls Tryz.prog 3 #[evV e] w fun r w' => r = .returned (.bool true) ∧ Below w.heap.size w w' := by
 rcases Bool.eq_false_or_eq_true (mayD e) with hm | hm
 · exact yeb e w hs hv hw hm
 · by_cases h : 1 ≤ e.k ∧ e.k ≤ 10
   · exact yec e w hs hv hw hm h
   · exact yed e w hs hv hw hm h
end EvN
end
end Go.Proofs.YtbiplmbcdhjiaaaGreatDoor
