/-
  What the proof of EvBoth stands on, part 27.
-/
import Derived.OrdersHeld
import Derived.Test.YtfbegbmjmhnplaaGreatDoorT25
import Derived.Test.YtfbegbmjmhnplaaGreatDoorT26
set_option linter.unusedSimpArgs false
set_option linter.unusedVariables false
set_option maxHeartbeats 16000000
namespace Go.Proofs.YtfbegbmjmhnplaaGreatDoor
open Go.Lib (hid)
section
open Go.RowKit Go.Sort
namespace EvA
open StrC EvF EvC TextR
open VerC (Vw)
structure EvSz (e : EvG) : Prop where
 who : e.who.length ≤ 9223372036854775807
 name : e.name.length ≤ 9223372036854775807
 holder : e.holder.length ≤ 9223372036854775807
 note : e.note.length ≤ 9223372036854775807
def fitB (e : EvG) (fn : Bool) (x : Int) : Bool :=
 if x = 0 then (NameC.zwx e.who == 0) else if x = 1 then NameM.isN e.name else if x = 2 then VerM.isT e.ver else if x = 3 then fn else if x = 4 then true
 else if x = 5 then decide ((1 : Int) ≤ e.n) else if x = 6 then decide ((e.size : Int) ≤ 65536) else if x = 7 then (NameC.zwx e.holder == 0) else if x = 8 then (NameC.zwx e.note == 0) else decide (((str e.note).size : Int) ≤ 256)
def FitN (e : EvG) (fn : Bool) (w : World) : Prop := ∀ W, Below w.heap.size w W → Calls Tryz.prog 78 #[.slice e.na e.needs.length e.nc] W fun r w' => r = .returned (.bool fn) ∧ Below W.heap.size W w'
theorem FitN.gr {e : EvG} {fn : Bool} {w W : World} (h : FitN e fn w) (hb : Below w.heap.size w W) : FitN e fn W := fun X hx => h X (hb.trans (hx.mono hb.size))
set_option maxHeartbeats 2000000
theorem fits_w0 (e : EvG) (fn : Bool) (w : World) (hs : EvSz e) (hv : Vw w) (hN : FitN e fn w) : Calls Tryz.prog 33 #[evV e, .int .i64 0] w fun r w' => r = .returned (.bool (fitB e fn 0)) ∧ Below w.heap.size w w' := by
 have HB := hid (alW w (evO e))
 have H := hid (NameC.zxe e.who (w.alloc (evO e)) hs.who)
 obtain ⟨c0, c1, c2, c3, c4, c5, c6, c7, c8, c9⟩ := zos (heap_alloc_new w (evO e))
 clear hs hv hN
 go_enter Tryz.func33, Tryz.ntmps33
 go_wp2_with (first | (go_at_call 75; refine H.out.mono ?_; rintro r w1 ⟨rfl, hb⟩) | fail)
 go_ret
 exact ⟨by simp [fitB], HB.out.trans (hb.mono HB.out.size)⟩
theorem fits_w1 (e : EvG) (fn : Bool) (w : World) (hs : EvSz e) (hv : Vw w) (hN : FitN e fn w) : Calls Tryz.prog 33 #[evV e, .int .i64 1] w fun r w' => r = .returned (.bool (fitB e fn 1)) ∧ Below w.heap.size w w' := by
 have HB := hid (alW w (evO e))
 have H := hid (NameC.zww e.name (w.alloc (evO e)) hs.name)
 obtain ⟨c0, c1, c2, c3, c4, c5, c6, c7, c8, c9⟩ := zos (heap_alloc_new w (evO e))
 clear hs hv hN
 go_enter Tryz.func33, Tryz.ntmps33
 go_wp2_with (first | (go_at_call 76; refine H.out.mono ?_; rintro r w1 ⟨rfl, hb⟩) | fail)
 go_ret
 exact ⟨by simp [fitB], HB.out.trans (hb.mono HB.out.size)⟩
theorem fits_w2 (e : EvG) (fn : Bool) (w : World) (hs : EvSz e) (hv : Vw w) (hN : FitN e fn w) : Calls Tryz.prog 33 #[evV e, .int .i64 2] w fun r w' => r = .returned (.bool (fitB e fn 2)) ∧ Below w.heap.size w w' := by
 have HB := hid (alW w (evO e))
 have H := hid (VerC.pIs_any e.ver (w.alloc (evO e)) (hv.gr HB.out))
 obtain ⟨c0, c1, c2, c3, c4, c5, c6, c7, c8, c9⟩ := zos (heap_alloc_new w (evO e))
 clear hs hv hN
 go_enter Tryz.func33, Tryz.ntmps33
 go_wp2_with (first | (go_at_call 77; refine H.out.mono ?_; rintro r w1 ⟨rfl, hb⟩) | fail)
 go_ret
 exact ⟨by simp [fitB], HB.out.trans (hb.mono HB.out.size)⟩
theorem fits_w3 (e : EvG) (fn : Bool) (w : World) (hs : EvSz e) (hv : Vw w) (hN : FitN e fn w) : Calls Tryz.prog 33 #[evV e, .int .i64 3] w fun r w' => r = .returned (.bool (fitB e fn 3)) ∧ Below w.heap.size w w' := by
 have HB := hid (alW w (evO e))
 have H := hid (hN (w.alloc (evO e)) HB.out)
 obtain ⟨c0, c1, c2, c3, c4, c5, c6, c7, c8, c9⟩ := zos (heap_alloc_new w (evO e))
 clear hs hv hN
 go_enter Tryz.func33, Tryz.ntmps33
 go_wp2_with (first | (go_at_call 78; refine H.out.mono ?_; rintro r w1 ⟨rfl, hb⟩) | fail)
 go_ret
 exact ⟨by simp [fitB], HB.out.trans (hb.mono HB.out.size)⟩
theorem fits_w4 (e : EvG) (fn : Bool) (w : World) (hs : EvSz e) (hv : Vw w) (hN : FitN e fn w) : Calls Tryz.prog 33 #[evV e, .int .i64 4] w fun r w' => r = .returned (.bool (fitB e fn 4)) ∧ Below w.heap.size w w' := by
 have HB := hid (alW w (evO e))
 obtain ⟨c0, c1, c2, c3, c4, c5, c6, c7, c8, c9⟩ := zos (heap_alloc_new w (evO e))
 clear hs hv hN
 go_enter Tryz.func33, Tryz.ntmps33
 go_wp2_with (first | fail)
 go_ret
 exact ⟨by simp [fitB], HB.out⟩
theorem fits_w5 (e : EvG) (fn : Bool) (w : World) (hs : EvSz e) (hv : Vw w) (hN : FitN e fn w) : Calls Tryz.prog 33 #[evV e, .int .i64 5] w fun r w' => r = .returned (.bool (fitB e fn 5)) ∧ Below w.heap.size w w' := by
 have HB := hid (alW w (evO e))
 obtain ⟨c0, c1, c2, c3, c4, c5, c6, c7, c8, c9⟩ := zos (heap_alloc_new w (evO e))
 clear hs hv hN
 go_enter Tryz.func33, Tryz.ntmps33
 go_wp2_with (first | fail)
 go_ret
 exact ⟨by simp [fitB], HB.out⟩
theorem fits_w6 (e : EvG) (fn : Bool) (w : World) (hs : EvSz e) (hv : Vw w) (hN : FitN e fn w) : Calls Tryz.prog 33 #[evV e, .int .i64 6] w fun r w' => r = .returned (.bool (fitB e fn 6)) ∧ Below w.heap.size w w' := by
 have HB := hid (alW w (evO e))
 obtain ⟨c0, c1, c2, c3, c4, c5, c6, c7, c8, c9⟩ := zos (heap_alloc_new w (evO e))
 clear hs hv hN
 go_enter Tryz.func33, Tryz.ntmps33
 go_wp2_with (first | fail)
 go_ret
 exact ⟨by simp [fitB], HB.out⟩
theorem fits_w7 (e : EvG) (fn : Bool) (w : World) (hs : EvSz e) (hv : Vw w) (hN : FitN e fn w) : Calls Tryz.prog 33 #[evV e, .int .i64 7] w fun r w' => r = .returned (.bool (fitB e fn 7)) ∧ Below w.heap.size w w' := by
 have HB := hid (alW w (evO e))
 have H := hid (NameC.zxe e.holder (w.alloc (evO e)) hs.holder)
 obtain ⟨c0, c1, c2, c3, c4, c5, c6, c7, c8, c9⟩ := zos (heap_alloc_new w (evO e))
 clear hs hv hN
 go_enter Tryz.func33, Tryz.ntmps33
 go_wp2_with (first | (go_at_call 75; refine H.out.mono ?_; rintro r w1 ⟨rfl, hb⟩) | fail)
 go_ret
 exact ⟨by simp [fitB], HB.out.trans (hb.mono HB.out.size)⟩
theorem fits_w8 (e : EvG) (fn : Bool) (w : World) (hs : EvSz e) (hv : Vw w) (hN : FitN e fn w) : Calls Tryz.prog 33 #[evV e, .int .i64 8] w fun r w' => r = .returned (.bool (fitB e fn 8)) ∧ Below w.heap.size w w' := by
 have HB := hid (alW w (evO e))
 have H := hid (NameC.zxe e.note (w.alloc (evO e)) hs.note)
 obtain ⟨c0, c1, c2, c3, c4, c5, c6, c7, c8, c9⟩ := zos (heap_alloc_new w (evO e))
 clear hs hv hN
 go_enter Tryz.func33, Tryz.ntmps33
 go_wp2_with (first | (go_at_call 75; refine H.out.mono ?_; rintro r w1 ⟨rfl, hb⟩) | fail)
 go_ret
 exact ⟨by simp [fitB], HB.out.trans (hb.mono HB.out.size)⟩
theorem fits_w9 (e : EvG) (fn : Bool) (w : World) (hs : EvSz e) (hv : Vw w) (hN : FitN e fn w) : Calls Tryz.prog 33 #[evV e, .int .i64 9] w fun r w' => r = .returned (.bool (fitB e fn 9)) ∧ Below w.heap.size w w' := by
 have HB := hid (alW w (evO e))
 obtain ⟨c0, c1, c2, c3, c4, c5, c6, c7, c8, c9⟩ := zos (heap_alloc_new w (evO e))
 clear hs hv hN
 go_enter Tryz.func33, Tryz.ntmps33
 go_wp2_with (first | fail)
 go_ret
 exact ⟨by simp [fitB], HB.out⟩
theorem fits_any (e : EvG) (fn : Bool) (w : World) (hs : EvSz e) (hv : Vw w) (hN : FitN e fn w) (x : Int) (h0 : 0 ≤ x) (h9 : x ≤ 9) : Calls Tryz.prog 33 #[evV e, .int .i64 x] w fun r w' => r = .returned (.bool (fitB e fn x)) ∧ Below w.heap.size w w' := by
 have hx : x = 0 ∨ x = 1 ∨ x = 2 ∨ x = 3 ∨ x = 4 ∨ x = 5 ∨ x = 6 ∨ x = 7 ∨ x = 8 ∨ x = 9 := by omega
 rcases hx with rfl | rfl | rfl | rfl | rfl | rfl | rfl | rfl | rfl | rfl
 · exact fits_w0 e fn w hs hv hN
 · exact fits_w1 e fn w hs hv hN
 · exact fits_w2 e fn w hs hv hN
 · exact fits_w3 e fn w hs hv hN
 · exact fits_w4 e fn w hs hv hN
 · exact fits_w5 e fn w hs hv hN
 · exact fits_w6 e fn w hs hv hN
 · exact fits_w7 e fn w hs hv hN
 · exact fits_w8 e fn w hs hv hN
 · exact fits_w9 e fn w hs hv hN
def mayC (b : Bool) : Int := if b then 0 else 90
def mayL (e : EvG) (fn : Bool) (L : List Int) : Bool := sameE (zst e L) (kindE e.k) && L.all (fitB e fn)
theorem zxf {p : Int → Bool} {L : List Int} (j : Nat) (hj : j < L.length) : (L.take (j + 1)).all p = ((L.take j).all p && p (L.getD j 0)) := by
 rw [List.take_add_one, List.getElem?_eq_getElem hj, List.all_append]
 simp [hj]
set_option maxRecDepth 100000 in
theorem may_any (e : EvG) (fn : Bool) (L : List Int) (hL : Fds e.k L) (hl0 : 0 < L.length) (hf : ∀ x ∈ L, 0 ≤ x ∧ x ≤ 9) (hl : L.length ≤ 100) (w : World) (hs : EvSz e) (hv : Vw w) (hN : FitN e fn w) (hne : NeIn w e.na e.nc e.needs) :
 Calls Tryz.prog 11 #[evV e] w fun r w' => r = .returned (.int .i64 (mayC (mayL e fn L))) ∧ Below w.heap.size w w' := by
 have hB0 := alW w (evO e)
 have hr := heap_alloc_new w (evO e)
 have hs0 : (w.alloc (evO e)).heap.size = w.heap.size + 1 := by simp
 have HC : Hid (∀ W, Below (w.heap.size + 1) (w.alloc (evO e)) W → W.heap[w.heap.size]? = some (evO e)) := hid (fun W hb => (hb.block _ (by omega)).trans hr)
 have HIK : Hid (∀ W, Calls Tryz.prog 30 #[.int .u8 e.k] W fun r w' => r = .returned (.bool true) ∧ Below W.heap.size W w') := hid (fun W => by
  have h := zsr hL W
  rw [decide_eq_true hl0] at h
  exact h)
 have HSP : Hid (∀ W, NeIn W e.na e.nc e.needs → Calls Tryz.prog 31 #[evV e] W fun r w' => r = .returned (.bool (!sameE (zst e L) (kindE e.k))) ∧ Below W.heap.size W w') := hid (fun W h => zsy hL hf hl W h)
 have HF := hid hL
 have HFD : Hid (∀ j, j < L.length → 0 ≤ L.getD j 0 ∧ L.getD j 0 ≤ 9) := hid (fun j hj => hf _ (by simp [hj]))
 have HFT : Hid (∀ W, Below w.heap.size w W → ∀ j, j < L.length → Calls Tryz.prog 33 #[evV e, .int .i64 (L.getD j 0)] W fun r w' => r = .returned (.bool (fitB e fn (L.getD j 0))) ∧ Below W.heap.size W w') := hid (fun W hb j hj => fits_any e fn W hs (hv.gr hb) (hN.gr hb) _ (HFD.out j hj).1 (HFD.out j hj).2)
 have HNE : Hid (∀ W, Below w.heap.size w W → NeIn W e.na e.nc e.needs) := hid (fun W hb => hne.gr hb)
 obtain ⟨c0, c1, c2, c3, c4, c5, c6, c7, c8, c9⟩ := zos hr
 have HB := hid hB0
 have HS0 := hid hs0
 have HAT : Hid (∀ j, j < L.length → (L.take (j + 1)).all (fitB e fn) = ((L.take j).all (fitB e fn) && fitB e fn (L.getD j 0))) := hid (fun j hj => zxf j hj)
 have HML : Hid (mayL e fn L = (sameE (zst e L) (kindE e.k) && (L.take L.length).all (fitB e fn))) := hid (by rw [List.take_length]; rfl)
 have HFA : Hid (∀ j, j < L.length → fitB e fn (L.getD j 0) = false → (L.take L.length).all (fitB e fn) = false) := hid (fun j hj h => by
  rw [List.take_length]
  cases ha : L.all (fitB e fn) with
  | false => rfl
  | true =>
    have := List.all_eq_true.1 ha (L.getD j 0) (by simp [hj])
    rw [h] at this
    cases this)
 clear hv hr hB0 hs0 hL hf hN hne hs
 generalize mayL e fn L = ml at *
 generalize sameE (zst e L) (kindE e.k) = se at *
 have HL0 := hid hl0
 have HL := hid hl
 clear hl0 hl
 go_enter Tryz.func11, Tryz.ntmps11
 go_wp2_with fail
 refine (HIK.out _).mono ?_
 rintro e1 w1 ⟨rfl, hb1⟩
 have HB1 := hid (hb1.mono (Nat.le_of_eq HS0.out.symm))
 clear hb1 c0 c1 c2 c3 c4 c5 c6 c7 c8 c9
 have HBW1 := hid (HB.out.trans (HB1.out.mono (by omega : w.heap.size ≤ w.heap.size + 1)))
 obtain ⟨c0, c1, c2, c3, c4, c5, c6, c7, c8, c9⟩ := zos (HC.out _ HB1.out)
 go_wp2_with fail
 refine (HSP.out _ (HNE.out _ HBW1.out)).mono ?_
 rintro e2 w2 ⟨rfl, hb2⟩
 have HB2 := hid (HB1.out.trans (hb2.mono (Nat.le_trans (Nat.le_of_eq HS0.out.symm) HB1.out.size)))
 clear hb2 c0 c1 c2 c3 c4 c5 c6 c7 c8 c9 HSP
 have HBW2 := hid (HB.out.trans (HB2.out.mono (by omega : w.heap.size ≤ w.heap.size + 1)))
 obtain ⟨c0, c1, c2, c3, c4, c5, c6, c7, c8, c9⟩ := zos (HC.out _ HB2.out)
 cases se with
 | false =>
   go_wp2_with fail
   go_ret
   exact ⟨by rw [HML.out]; rfl, HBW2.out⟩
 | true =>
   go_wp2_with fail
   refine (HF.out _).mono ?_
   rintro e3 w3 ⟨v, rfl, hrow, hb3⟩
   obtain ⟨a, cp, rfl, hcell⟩ := zsq hrow
   obtain ⟨g, rfl, hg0, hg1, hcl⟩ := hcell HL0.out
   have HB3 := hid (HB2.out.trans (hb3.mono (Nat.le_trans (Nat.le_of_eq HS0.out.symm) HB2.out.size)))
   have HFC : Hid (∀ W : World, Below w3.heap.size w3 W → ∀ j, j < L.length → W.cell? ⟨g, j, none⟩ = some (.int .i64 (L.getD j 0))) := hid (fun W hk j hj =>
    (World.cell?_of_block (a := ⟨g, j, none⟩) (hk.block g hg1)).trans (hcl j hj))
   have HL3 : Hid (w.heap.size + 1 ≤ w3.heap.size) := hid (Nat.le_trans (Nat.le_of_eq HS0.out.symm) HB3.out.size)
   clear hrow hb3 hcl hcell hg0 hg1 c0 c1 c2 c3 c4 c5 c6 c7 c8 c9 HIK HF HB1 HB2
   go_wp2_with fail
   go_loopw [4, 17] (fun _ i wr => ∃ j : Nat, i = .int .i64 j ∧ j ≤ L.length ∧ Hid ((L.take j).all (fitB e fn) = true) ∧ Hid (Below w3.heap.size w3 wr)) (fun _ i _ => L.length - (intOf i).toNat)
   case atStart => exact ⟨0, rfl, Nat.zero_le _, hid rfl, hid (Below.refl _ _)⟩
   case round =>
    obtain ⟨j, rfl, hj, HA, HI⟩ := hrel
    rename World => wr
    have HBW := hid (HB3.out.trans (HI.out.mono HL3.out))
    have HBV := hid (HB.out.trans (HBW.out.mono (by omega : w.heap.size ≤ w.heap.size + 1)))
    obtain ⟨c0, c1, c2, c3, c4, c5, c6, c7, c8, c9⟩ := zos (HC.out _ HBW.out)
    by_cases hlt : j < L.length
    · have hj100 : j ≤ 100 := by have := HL.out; omega
      have hdec : decide (j < L.length) = true := by simpa using hlt
      have hcell := HFC.out wr HI.out j hlt
      have HFJ := hid (HFT.out wr HBV.out j hlt)
      have HA2 := hid (HAT.out j hlt)
      have HA3 := hid (HFA.out j hlt)
      generalize L.getD j 0 = x at *
      generalize fitB e fn x = fb at *
      go_wp2_with fail
      refine HFJ.out.mono ?_
      rintro e4 w4 ⟨rfl, hb4⟩
      have HI4 := hid (HI.out.trans (hb4.mono HI.out.size))
      have HBV4 := hid (HBV.out.trans (hb4.mono HBV.out.size))
      clear hb4 hcell c0 c1 c2 c3 c4 c5 c6 c7 c8 c9
      cases fb with
      | true =>
        go_wp2_with fail
        go_roundw
        case rel => exact ⟨j + 1, by go_num, by omega, hid (by rw [HA2.out, HA.out]; rfl), HI4⟩
        case measure => simp [intOf]; omega
      | false =>
        go_wp2_with fail
        go_ret
        exact ⟨by rw [HML.out, HA3.out trivial]; rfl, HBV4.out⟩
    · have hjl : j = L.length := by omega
      subst hjl
      clear c0 c1 c2 c3 c4 c5 c6 c7 c8 c9
      go_wp2_with fail
      go_ret
      exact ⟨by rw [HML.out, HA.out]; rfl, HBV.out⟩
end EvA
end
section
open Go.RowKit Go.Sort
namespace EvA
open StrC EvF EvC TextR CodeM
def nm (k : Nat) (c : UInt8) : Bool := (fldS k).contains c
def zxg (named : Bool) (l : B) (ok : Bool) : Bool := if named then (!decide (l = []) && ok) else decide (l = [])
def zxh (e : EvG) : Bool := (nm e.k 115 || decide (e.sum = 0)) && ((nm e.k 78 || (decide (e.n = 0) && (decide (e.size = 0) && decide (e.needs = [])))) && (nm e.k 116 || decide (e.note = [])))
def zxi (e : EvG) : Bool := if e.k = 2 then (decide (1 ≤ e.n) && (decide (e.size ≤ 65536) && ztk e.needs)) else if e.k = 5 then decide (e.note.length ≤ 256) else if e.k = 9 ∨ e.k = 10 then NameM.holder e.note else true
def mayD (e : EvG) : Bool := decide (1 ≤ e.k ∧ e.k ≤ 10) && (NameM.holder e.who && (zxg (nm e.k 110) e.name (NameM.isN e.name) && (zxg (nm e.k 118) e.ver (VerM.isT e.ver) && (zxg (nm e.k 104) e.holder (NameM.holder e.holder) && (zxh e && zxi e)))))
theorem zxj : NameM.isN [] = false := by decide +kernel
theorem isT_no : VerM.isT [] = false := by decide +kernel
theorem zxk : NameM.holder [] = false := by decide +kernel
theorem zxl (l : B) : (NameC.zwx l == 0) = NameM.holder l := by unfold NameC.zwx; cases NameM.holder l <;> rfl
theorem zxm {l : B} {f : B → Bool} (h : f [] = false) : zxg true l (f l) = f l := by
 unfold zxg
 by_cases e : l = []
 · subst e; rw [h]; rfl
 · simp [e]
theorem zxn (l : B) (b : Bool) : zxg false l b = decide (l = []) := rfl
theorem zxo (e : EvG) (h : 1 ≤ e.k ∧ e.k ≤ 10) : mayD e = mayL e (ztk e.needs) (zrk e.k) := by
 obtain ⟨k, who, name, ver, na, nc, needs, sum, n, size, holder, note⟩ := e
 have hk : k = 1 ∨ k = 2 ∨ k = 3 ∨ k = 4 ∨ k = 5 ∨ k = 6 ∨ k = 7 ∨ k = 8 ∨ k = 9 ∨ k = 10 := by have h1 : 1 ≤ k := h.1; have h2 : k ≤ 10 := h.2; omega
 have e1 : ∀ x : Nat, decide ((1 : Int) ≤ (x : Int)) = decide (1 ≤ x) := fun x => by rw [Bool.eq_iff_iff]; simp; omega
 have e2 : ∀ x : Nat, decide ((x : Int) ≤ 65536) = decide (x ≤ 65536) := fun x => by rw [Bool.eq_iff_iff]; simp; omega
 have e3 : ∀ l : B, decide (((str l).size : Int) ≤ 256) = decide (l.length ≤ 256) := fun l => by rw [zbm, Bool.eq_iff_iff]; simp; omega
 have e4 : ∀ l : B, decide (1 ≤ l.length) = !decide (l = []) := fun l => by cases l <;> simp
 rcases hk with rfl | rfl | rfl | rfl | rfl | rfl | rfl | rfl | rfl | rfl <;>
  simp [mayD, mayL, sameE, zrk, zst, zss, kindE, fitB, nm, fldS, zxm zxj, zxm isT_no, zxm zxk, zxn, zxh, zxi, zxl, e1, e2, e3] <;>
  (rw [Bool.eq_iff_iff]; simp only [Bool.and_eq_true, decide_eq_true_eq]; constructor <;> (intro h; simp_all))
theorem zxp (e : EvG) (h : e.k = 0 ∨ 11 ≤ e.k) : mayD e = false := by
 unfold mayD
 rw [decide_eq_false (by omega), Bool.false_and]
end EvA
end
section
open Go
namespace Flow
section
variable {P : Program} {ops : Array Oper} {Q : Exit → Act → World → Prop} {md : Region.Mode} {S : World → Prop}
def zxq (a : Act) : List Tmp → (Tmp → Value) → Act
 | [], _ => a
 | d :: D, us => (zxq a D us).put (some d) (us d)
def upd (us : Tmp → Value) (d : Tmp) (v : Value) : Tmp → Value := fun t => if t = d then v else us t
theorem zxr (us : Tmp → Value) (d : Tmp) (v : Value) : upd us d v d = v := by simp [upd]
theorem zxs {us : Tmp → Value} {d t : Tmp} {v : Value} (h : t ≠ d) : upd us d v t = us t := by simp [upd, h]
theorem put_own (a : Act) (d : Tmp) : a.put (some d) (a.tmps.getD d undef) = a := by
 cases a with
 | mk t ds =>
   show Act.mk (t.setIfInBounds d (t.getD d undef)) ds = _
   congr 1
   apply Array.ext_getElem?
   intro i
   by_cases hi : d = i
   · subst hi
     rcases Nat.lt_or_ge d t.size with h | h
     · simp [h, Array.getD_eq_getD_getElem?]
     · rw [Array.getElem?_eq_none h, Array.getElem?_eq_none (by simpa using h)]
   · simp [Array.getElem?_setIfInBounds_ne hi]
theorem zxt (a : Act) : ∀ D : List Tmp, zxq a D (fun t => a.tmps.getD t undef) = a
 | [] => rfl
 | d :: D => by
   show (zxq a D _).put (some d) _ = a
   rw [zxt a D]
   exact put_own a d
theorem zxu (a : Act) {us us' : Tmp → Value} : ∀ D : List Tmp, (∀ d ∈ D, us d = us' d) → zxq a D us = zxq a D us'
 | [], _ => rfl
 | d :: D, h => by
   show (zxq a D us).put (some d) (us d) = (zxq a D us').put (some d) (us' d)
   rw [zxu a D (fun x hx => h x (List.mem_cons_of_mem _ hx)), h d (List.mem_cons_self ..)]
theorem put_put (a : Act) (d : Tmp) (u v : Value) : (a.put (some d) u).put (some d) v = a.put (some d) v := by
 simp [Act.put, Array.setIfInBounds_setIfInBounds]
theorem zxv (a : Act) {us : Tmp → Value} {d : Tmp} {v : Value} : ∀ D : List Tmp, D.Nodup → d ∈ D → (zxq a D us).put (some d) v = zxq a D (upd us d v)
 | [], _, h => by cases h
 | e :: D, hn, hd => by
   have hn1 := (List.nodup_cons.1 hn).1
   have hn2 := (List.nodup_cons.1 hn).2
   show ((zxq a D us).put (some e) (us e)).put (some d) v = (zxq a D (upd us d v)).put (some e) (upd us d v e)
   by_cases hde : d = e
   · subst hde
     rw [put_put, zxr, zxu a (us := upd us d v) (us' := us) D (fun x hx => zxs (fun h => hn1 (h ▸ hx)))]
   · have hd2 : d ∈ D := by
      rcases List.mem_cons.1 hd with h | h
      · exact absurd h hde
      · exact h
     rw [zxs (fun h => hde h.symm), ← zxv a D hn2 hd2, Act.put_comm _ _ _ (fun x hx h => hde (by cases hx; cases h; rfl))]
def dstOf (ops : Array Oper) (i : Nat) : Option Tmp := (ops[i]?).bind (·.dst)
def waits (md : Region.Mode) (ops : Array Oper) (i j : Nat) : Bool := ((ops[i]?).map fun o => o.after.any fun e => e.on == j && Region.binds md e).getD false
def ahead (md : Region.Mode) (ops : Array Oper) : Bool := (List.range ops.size).all fun i => ((ops[i]?).map fun o => o.after.all fun e => !Region.binds md e || decide (e.on < i)).getD true
def apart (ops : Array Oper) (listed : Array Bool) (D : List Tmp) : Bool := (List.range ops.size).all fun i => listed.getD i true || match dstOf ops i with
 | none => true
 | some d => D.contains d && (List.range ops.size).all fun j => listed.getD j true || (j == i) || (dstOf ops j != some d)
def zxw : List Tmp → Bool
 | [] => true
 | d :: D => !D.contains d && zxw D
theorem zxx : ∀ {D : List Tmp}, zxw D = true → D.Nodup
 | [], _ => List.nodup_nil
 | d :: D, h => by
   simp only [zxw, Bool.and_eq_true, Bool.not_eq_true'] at h
   exact List.nodup_cons.2 ⟨by simpa using h.1, zxx h.2⟩
theorem zxy {l : Array Bool} {i : Nat} (h : l.getD i true = false) : ∃ hi : i < l.size, l[i] = false := by
 rcases Nat.lt_or_ge i l.size with h' | h'
 · exact ⟨h', by simpa [h'] using h⟩
 · simp [Array.getElem?_eq_none h'] at h
theorem zxz {l : Array Bool} {i : Nat} (h : l.getD i true = false) : 0 < l.toList.count false := by
 obtain ⟨hi, h⟩ := zxy h
 exact List.count_pos_iff.2 (h ▸ by simp)
theorem count_set {l : Array Bool} {i : Nat} (h : l.getD i true = false) : (l.setIfInBounds i true).toList.count false + 1 = l.toList.count false := by
 obtain ⟨hi, h'⟩ := zxy h
 have hp := zxz h
 have : l.toList[i]'(by simpa using hi) = false := by simpa using h'
 rw [Array.toList_setIfInBounds, List.count_set (by simpa using hi), this]
 show l.toList.count false - 1 + 0 + 1 = l.toList.count false
 omega
theorem zya {i : Nat} {o : Oper} {os : List Oper} (hos : ops.toList.drop i = o :: os) : ops[i]? = some o := by rw [← Array.getElem?_toList, ← List.head?_drop, hos]; rfl
theorem take {i : Nat} {oi : Oper} {os : List Oper} {v : Value} {fuel : Nat} {listed : Array Bool} {a : Act} {w : World} (hos : ops.toList.drop i = oi :: os)
 (hs : Region.noSelect ops = true) (hf : Region.free md ops listed i = true) (hr : (Region.ready md ops listed).contains i = true)
 (hQ : ∀ c a w, Q (.panic c) (a.put oi.dst v) w → Q (.panic c) a w) (hw : Region.wanted oi (yielded ops a.tmps) = true) (hy : ∀ w, S w → (execOp a.eval oi).run P w = .ok (.value v) w) (hS : S w)
 (h : wpAnyH P md ops Q S fuel (listed.setIfInBounds i true) (a.put oi.dst v) w) : wpAnyH P md ops Q S (fuel + 1) listed a w :=
 wpAnyH_take (zya hos) hs hf hr hQ (Or.inl ⟨hw, hy⟩) hS h
def unl (ops : Array Oper) (l : Array Bool) : List Nat := (List.range ops.size).filter fun i => !l.getD i true
theorem mem_unl {l : Array Bool} {i : Nat} (hsz : l.size = ops.size) (h : l.getD i true = false) : i ∈ unl ops l := by
 obtain ⟨hi, -⟩ := zxy h
 exact List.mem_filter.2 ⟨List.mem_range.2 (by omega), by simp [h]⟩
variable {l0 : Array Bool} {D : List Tmp} {F : Nat → Value → World → Prop} {G : World → Prop} {a0 : Act}
end
end Flow
end
section
open Go
namespace FlowN
open Flow
section
variable {P : Program} {ops : Array Oper} {Q : Exit → Act → World → Prop} {md : Region.Mode} {S : World → Prop}
structure Inv (ops : Array Oper) (l0 : Array Bool) (D : List Tmp) (F : Nat → Value → World → Prop) (N : Nat → World → Prop) (G : World → Prop) (a0 : Act) (l : Array Bool) (a : Act) (w : World) : Prop where
 size : l.size = ops.size
 more : ∀ j, l0.getD j true = true → l.getD j true = true
 g : G w
 st : ∃ us, a = zxq a0 D us ∧ ∀ i d, dstOf ops i = some d → l0.getD i true = false → l.getD i true = true → F i (us d) w
 sto : ∀ i, i < ops.size → dstOf ops i = none → l0.getD i true = false → l.getD i true = true → F i undef w
 non : ∀ i, l.getD i true = false → N i w
def Step (P : Program) (md : Region.Mode) (ops : Array Oper) (Q : Exit → Act → World → Prop) (l0 : Array Bool) (D : List Tmp) (F : Nat → Value → World → Prop) (N : Nat → World → Prop) (G : World → Prop) (a0 : Act) (i : Nat) : Prop :=
 ∀ (us : Tmp → Value) (w : World) (K : Act → World → Prop), G w → N i w →
  (∀ j d, waits md ops i j = true → l0.getD j true = false → dstOf ops j = some d → F j (us d) w) →
  Shut (∀ v w', G w' → (∀ j u, F j u w → F j u w') → (∀ j, j ≠ i → N j w → N j w') → F i v w' → (dstOf ops i = none → F i undef w') → K ((zxq a0 D us).put (dstOf ops i) v) w') →
  ∀ o, ops[i]? = some o → if Region.wanted o (yielded ops (zxq a0 D us).tmps) = true then Oper.wp P o (zxq a0 D us) w K Q else K ((zxq a0 D us).put (dstOf ops i) undef) w
theorem flow {l0 : Array Bool} {D : List Tmp} {F : Nat → Value → World → Prop} {N : Nat → World → Prop} {G : World → Prop} {a0 : Act} (hA : Flow.ahead md ops = true) (hN : zxw D = true) (hP : apart ops l0 D = true) (hS : ∀ w, G w → S w)
 (hstep : ∀ i, l0.getD i true = false → Step P md ops Q l0 D F N G a0 i)
 (hdone : ∀ us w, G w → (∀ i d, dstOf ops i = some d → l0.getD i true = false → F i (us d) w) → (∀ i, i < ops.size → dstOf ops i = none → l0.getD i true = false → F i undef w) → Q .normal (zxq a0 D us) w) :
 ∀ (fuel : Nat) (l : Array Bool) (a : Act) (w : World), l.toList.count false ≤ fuel → Inv ops l0 D F N G a0 l a w → wpAnyH P md ops Q S fuel l a w := by
 have hnd := zxx hN
 have hall : ∀ (l : Array Bool) (a : Act) (w : World), Inv ops l0 D F N G a0 l a w → (∀ i, i < ops.size → l.getD i true = true) → Q .normal a w := by
  intro l a w hI hl
  obtain ⟨us, rfl, hf⟩ := hI.st
  refine hdone us w hI.g (fun i d hd h0 => hf i d hd h0 (hl i ?_)) (fun i hi hd h0 => hI.sto i hi hd h0 (hl i hi))
  rcases Nat.lt_or_ge i ops.size with h | h
  · exact h
  · simp [dstOf, Array.getElem?_eq_none h] at hd
 intro fuel
 induction fuel with
 | zero =>
   intro l a w hc hI
   have hno : ∀ i, l.getD i true = true := fun i => by
    cases h : l.getD i true
    · have := zxz h; omega
    · rfl
   refine ⟨?_, hall l a w hI (fun i _ => hno i)⟩
   apply List.eq_nil_iff_forall_not_mem.2
   intro i hi
   have := (mem_ready.1 hi).1
   rw [hno i] at this
   cases this
 | succ fuel ih =>
   intro l a w hc hI
   refine ⟨fun hr => hall l a w hI ?_, fun i hi => ?_⟩
   · intro i
     induction i using Nat.strongRecOn with
     | ind i ihi =>
       intro hlt
       cases h : l.getD i true with
       | true => rfl
       | false =>
         exfalso
         have : i ∈ Region.ready md ops l := by
          refine mem_ready.2 ⟨h, ops[i], Array.getElem?_eq_getElem hlt, fun e he hb => ?_⟩
          have hh := List.all_eq_true.1 hA i (List.mem_range.2 hlt)
          rw [Array.getElem?_eq_getElem hlt] at hh
          have hei : e.on < i := by
           have hh' : (ops[i].after.all fun e => !Region.binds md e || decide (e.on < i)) = true := by simpa only [Option.map_some, Option.getD_some] using hh
           obtain ⟨k, hk, rfl⟩ := Array.getElem_of_mem he
           have h3 := Array.all_eq_true.1 hh' k hk
           rw [hb, Bool.not_true, Bool.false_or] at h3
           exact of_decide_eq_true h3
          have h1 := ihi e.on hei (by omega)
          have hsz : e.on < l.size := by rw [hI.size]; omega
          simpa [hsz] using h1
         rw [hr] at this
         cases this
   · obtain ⟨hun, o, ho, hedge⟩ := mem_ready.1 hi
     have h0 : l0.getD i true = false := by
      cases h : l0.getD i true with
      | false => rfl
      | true => rw [hI.more i h] at hun; cases hun
     obtain ⟨us, rfl, hf⟩ := hI.st
     have hdo : dstOf ops i = o.dst := by simp [dstOf, ho]
     refine wpOp_step ho (fun K' hK => ?_)
     have hpre : ∀ j d, waits md ops i j = true → l0.getD j true = false → dstOf ops j = some d → F j (us d) w := by
      intro j d hw hj0 hd
      refine hf j d hd hj0 ?_
      simp only [waits, ho, Option.map_some, Option.getD_some] at hw
      obtain ⟨e, hk, hh⟩ := Array.any_eq_true.1 hw
      rw [Bool.and_eq_true, beq_iff_eq] at hh
      have h1 := hedge _ (Array.getElem_mem hk) hh.2
      rw [hh.1] at h1
      rcases Nat.lt_or_ge j l.size with h' | h'
      · simpa [h'] using h1
      · simp [Array.getElem?_eq_none h'] at h1
     have hnext : ∀ v w', G w' → (∀ j u, F j u w → F j u w') → (∀ j, j ≠ i → N j w → N j w') → F i v w' → (dstOf ops i = none → F i undef w') → K' ((zxq a0 D us).put o.dst v) w' := by
      intro v w' hG hM hNN hF hFu
      have hin : Inv ops l0 D F N G a0 (l.setIfInBounds i true) ((zxq a0 D us).put o.dst v) w' := by
       refine ⟨by simpa using hI.size, fun j hj => ?_, hG, ?_, ?_, ?_⟩
       · by_cases hij : i = j
         · subst hij; rw [h0] at hj; cases hj
         · rw [getD_set_ne true hij]; exact hI.more j hj
       · cases hd : o.dst with
         | none =>
           refine ⟨us, rfl, fun j d hj hj0 hjl => ?_⟩
           by_cases hij : i = j
           · subst hij; rw [hdo, hd] at hj; cases hj
           · rw [getD_set_ne true hij] at hjl; exact hM j _ (hf j d hj hj0 hjl)
         | some d =>
           have hp := List.all_eq_true.1 hP i (List.mem_range.2 (Array.getElem?_eq_some_iff.1 ho).1)
           rw [h0, Bool.false_or, hdo, hd] at hp
           simp only [Bool.and_eq_true] at hp
           refine ⟨upd us d v, zxv a0 D hnd (by simpa using hp.1), fun j x hj hj0 hjl => ?_⟩
           by_cases hij : i = j
           · subst hij
             rw [hdo, hd] at hj
             cases hj
             rw [zxr]
             exact hF
           · rw [getD_set_ne true hij] at hjl
             have hx : x ≠ d := by
              rintro rfl
              have hjlt : j < ops.size := by
               rcases Nat.lt_or_ge j ops.size with h | h
               · exact h
               · simp [dstOf, Array.getElem?_eq_none h] at hj
              have := List.all_eq_true.1 hp.2 j (List.mem_range.2 hjlt)
              rw [hj0, hj] at this
              simp at this
              exact hij this.symm
             rw [zxs hx]
             exact hM j _ (hf j x hj hj0 hjl)
       · intro j hjz hj hj0 hjl
         by_cases hij : i = j
         · subst hij
           exact hFu hj
         · rw [getD_set_ne true hij] at hjl
           exact hM j _ (hI.sto j hjz hj hj0 hjl)
       · intro j hjl
         by_cases hij : i = j
         · subst hij
           obtain ⟨hi9, h9⟩ := zxy hjl
           simp at h9
         · rw [getD_set_ne true hij] at hjl
           exact hNN j (fun h => hij h.symm) (hI.non j hjl)
      exact hK _ _ ⟨hS _ hG, ih _ _ _ (by have := count_set hun; omega) hin⟩
     have h := hstep i h0 us w K' hI.g (hI.non i hun) hpre (fun v w' hG hM hNN hF hFu => by rw [hdo]; exact hnext v w' hG hM hNN hF hFu) o ho
     rw [hdo] at h
     exact h
def Steps (P : Program) (md : Region.Mode) (ops : Array Oper) (Q : Exit → Act → World → Prop) (l0 : Array Bool) (D : List Tmp) (F : Nat → Value → World → Prop) (N : Nat → World → Prop) (G : World → Prop) (a0 : Act) (rs : List Nat) : Prop := ∀ i ∈ rs, Step P md ops Q l0 D F N G a0 i
variable {l0 : Array Bool} {D : List Tmp} {F : Nat → Value → World → Prop} {N : Nat → World → Prop} {G : World → Prop} {a0 : Act}
theorem Steps.nil : Steps P md ops Q l0 D F N G a0 [] := fun _ h => by cases h
theorem Steps.cons {i : Nat} {rs : List Nat} {o : Oper} {os : List Oper} (hos : ops.toList.drop i = o :: os)
 (h : ∀ (us : Tmp → Value) (w : World) (K : Act → World → Prop), G w → N i w →
   (∀ j d, waits md ops i j = true → l0.getD j true = false → dstOf ops j = some d → F j (us d) w) →
   Shut (∀ v w', G w' → (∀ j u, F j u w → F j u w') → (∀ j, j ≠ i → N j w → N j w') → F i v w' → (o.dst = none → F i undef w') → K ((zxq a0 D us).put o.dst v) w') →
   if Region.wanted o (yielded ops (zxq a0 D us).tmps) = true then Oper.wp P o (zxq a0 D us) w K Q else K ((zxq a0 D us).put o.dst undef) w)
 (hs : Steps P md ops Q l0 D F N G a0 rs) : Steps P md ops Q l0 D F N G a0 (i :: rs) := fun j hj => by
 have ho := zya hos
 rcases List.mem_cons.1 hj with rfl | hj
 · intro us w K hG hN0 hpre hK o' ho'
   have hoo : o = o' := by rw [ho] at ho'; exact Option.some.inj ho'
   subst hoo
   have hdo : dstOf ops j = o.dst := by simp [dstOf, ho]
   rw [hdo] at hK ⊢
   exact h us w K hG hN0 hpre hK
 · exact hs j hj
theorem Steps.plain {i : Nat} {rs : List Nat} {o : Oper} {os : List Oper} (hos : ops.toList.drop i = o :: os) (hg : o.guard = none)
 (h : ∀ (us : Tmp → Value) (w : World) (K : Act → World → Prop), G w → N i w →
   (∀ j d, waits md ops i j = true → l0.getD j true = false → dstOf ops j = some d → F j (us d) w) →
   Shut (∀ v w', G w' → (∀ j u, F j u w → F j u w') → (∀ j, j ≠ i → N j w → N j w') → F i v w' → (o.dst = none → F i undef w') → K ((zxq a0 D us).put o.dst v) w') → Oper.wp P o (zxq a0 D us) w K Q)
 (hs : Steps P md ops Q l0 D F N G a0 rs) : Steps P md ops Q l0 D F N G a0 (i :: rs) :=
 Steps.cons hos (fun us w K hG hN0 hpre hK => by rw [if_pos (by simp [Region.wanted, hg])]; exact h us w K hG hN0 hpre hK) hs
theorem zyb {rs : List Nat} {fuel : Nat} {w0 : World} (hsz : l0.size = ops.size) (hA : Flow.ahead md ops = true) (hN : zxw D = true) (hP : apart ops l0 D = true) (hc : Nat.ble (l0.toList.count false) fuel = true) (hrs : unl ops l0 = rs)
 (hS : ∀ w, G w → S w) (hG : G w0) (hnon : ∀ i, l0.getD i true = false → N i w0) (hsteps : Steps P md ops Q l0 D F N G a0 rs)
 (hdone : ∀ us w, G w → (∀ i d, i ∈ rs → dstOf ops i = some d → F i (us d) w) → (∀ i, i ∈ rs → dstOf ops i = none → F i undef w) → Q .normal (zxq a0 D us) w) : wpAnyH P md ops Q S fuel l0 a0 w0 :=
 flow hA hN hP hS (fun i hi => hsteps i (hrs ▸ mem_unl hsz hi))
  (fun us w hg hf hf2 => hdone us w hg (fun i d hi hd => hf i d hd (by
    have := (List.mem_filter.1 (hrs ▸ hi)).2
    simpa using this)) (fun i hi hd => hf2 i (List.mem_range.1 (List.mem_filter.1 (hrs ▸ hi)).1) hd (by
    have := (List.mem_filter.1 (hrs ▸ hi)).2
    simpa using this))) fuel l0 a0 w0 (Nat.le_of_ble_eq_true hc)
  ⟨hsz, fun _ h => h, hG, ⟨_, (zxt a0 D).symm, fun i d _ h0 h1 => (by rw [h0] at h1; cases h1)⟩, fun i _ _ h0 h1 => (by rw [h0] at h1; cases h1), hnon⟩
end
end FlowN
end
end Go.Proofs.YtfbegbmjmhnplaaGreatDoor
