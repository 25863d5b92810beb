/-
  Package event's fits and May of any event.
-/
import Derived.Test.YtbjifikbfagdjaaGreatDoorEventK
import Derived.Test.YtbjifikbfagdjaaGreatDoorEventZ
import Derived.Test.YtbjifikbfagdjaaGreatDoorNameP2
import Derived.Test.YtbjifikbfagdjaaGreatDoorVerP3
namespace Go.Proofs.YtbjifikbfagdjaaGreatDoor
open Go.RowKit Go.Sort
namespace EvA
open StrC EvF EvC TextR
open VerC (Vw)
set_option linter.unusedSimpArgs false
set_option linter.unusedVariables false

/-- texts have no more bytes than any text may have -/
structure EvSz (e : EvG) : Prop where
  who : e.who.length ≤ 9223372036854775807
  name : e.name.length ≤ 9223372036854775807
  holder : e.holder.length ≤ 9223372036854775807
  note : e.note.length ≤ 9223372036854775807
/-- may what e has as field x stand there? (fn: what fitNeeds says of its needs) -/
def fitB (e : EvG) (fn : Bool) (x : Int) : Bool :=
  if x = 0 then (NameC.holdCode e.who == 0) else if x = 1 then NameM.isN e.name else if x = 2 then VerM.isT e.ver else if x = 3 then fn else if x = 4 then true
  else if x = 5 then decide ((1 : Int) ≤ e.n) else if x = 6 then decide ((e.size : Int) ≤ 65536) else if x = 7 then (NameC.holdCode e.holder == 0) else if x = 8 then (NameC.holdCode e.note == 0) else decide (((str e.note).size : Int) ≤ 256)
/-- fitNeeds answers fn, in each world that has grown out of w -/
def FitN (e : EvG) (fn : Bool) (w : World) : Prop := ∀ W, Below w.heap.size w W → Calls Tryz.prog 136 #[.slice e.na e.needs.length e.nc] W fun r w' => r = .returned (.bool fn) ∧ Below W.heap.size W w'
theorem FitN.gr {e : EvG} {fn : Bool} {w W : World} (h : FitN e fn w) (hb : Below w.heap.size w W) : FitN e fn W := fun X hx => h X (hb.trans (hx.mono hb.size))
set_option maxHeartbeats 2000000
theorem fits_w0 (e : EvG) (fn : Bool) (w : World) (hs : EvSz e) (hv : Vw w) (hN : FitN e fn w) : Calls Tryz.prog 99 #[evV e, .int .i64 0] w fun r w' => r = .returned (.bool (fitB e fn 0)) ∧ Below w.heap.size w w' := by
  have HB := Lib.hid (alW w (evO e))
  have H := Lib.hid (NameC.holder_any e.who (w.alloc (evO e)) hs.who)
  obtain ⟨c0, c1, c2, c3, c4, c5, c6, c7, c8, c9⟩ := ev_cells (heap_alloc_new w (evO e))
  clear hs hv hN
  go_enter Tryz.func99, Tryz.ntmps99
  go_wp2_with (first | (go_at_call 133; refine H.out.mono ?_; rintro r w1 ⟨rfl, hb⟩) | fail)
  go_ret
  exact ⟨by simp [fitB], HB.out.trans (hb.mono HB.out.size)⟩

theorem fits_w1 (e : EvG) (fn : Bool) (w : World) (hs : EvSz e) (hv : Vw w) (hN : FitN e fn w) : Calls Tryz.prog 99 #[evV e, .int .i64 1] w fun r w' => r = .returned (.bool (fitB e fn 1)) ∧ Below w.heap.size w w' := by
  have HB := Lib.hid (alW w (evO e))
  have H := Lib.hid (NameC.is_any e.name (w.alloc (evO e)) hs.name)
  obtain ⟨c0, c1, c2, c3, c4, c5, c6, c7, c8, c9⟩ := ev_cells (heap_alloc_new w (evO e))
  clear hs hv hN
  go_enter Tryz.func99, Tryz.ntmps99
  go_wp2_with (first | (go_at_call 134; refine H.out.mono ?_; rintro r w1 ⟨rfl, hb⟩) | fail)
  go_ret
  exact ⟨by simp [fitB], HB.out.trans (hb.mono HB.out.size)⟩

theorem fits_w2 (e : EvG) (fn : Bool) (w : World) (hs : EvSz e) (hv : Vw w) (hN : FitN e fn w) : Calls Tryz.prog 99 #[evV e, .int .i64 2] w fun r w' => r = .returned (.bool (fitB e fn 2)) ∧ Below w.heap.size w w' := by
  have HB := Lib.hid (alW w (evO e))
  have H := Lib.hid (VerC.pIs_any e.ver (w.alloc (evO e)) (hv.gr HB.out))
  obtain ⟨c0, c1, c2, c3, c4, c5, c6, c7, c8, c9⟩ := ev_cells (heap_alloc_new w (evO e))
  clear hs hv hN
  go_enter Tryz.func99, Tryz.ntmps99
  go_wp2_with (first | (go_at_call 135; refine H.out.mono ?_; rintro r w1 ⟨rfl, hb⟩) | fail)
  go_ret
  exact ⟨by simp [fitB], HB.out.trans (hb.mono HB.out.size)⟩

theorem fits_w3 (e : EvG) (fn : Bool) (w : World) (hs : EvSz e) (hv : Vw w) (hN : FitN e fn w) : Calls Tryz.prog 99 #[evV e, .int .i64 3] w fun r w' => r = .returned (.bool (fitB e fn 3)) ∧ Below w.heap.size w w' := by
  have HB := Lib.hid (alW w (evO e))
  have H := Lib.hid (hN (w.alloc (evO e)) HB.out)
  obtain ⟨c0, c1, c2, c3, c4, c5, c6, c7, c8, c9⟩ := ev_cells (heap_alloc_new w (evO e))
  clear hs hv hN
  go_enter Tryz.func99, Tryz.ntmps99
  go_wp2_with (first | (go_at_call 136; refine H.out.mono ?_; rintro r w1 ⟨rfl, hb⟩) | fail)
  go_ret
  exact ⟨by simp [fitB], HB.out.trans (hb.mono HB.out.size)⟩

theorem fits_w4 (e : EvG) (fn : Bool) (w : World) (hs : EvSz e) (hv : Vw w) (hN : FitN e fn w) : Calls Tryz.prog 99 #[evV e, .int .i64 4] w fun r w' => r = .returned (.bool (fitB e fn 4)) ∧ Below w.heap.size w w' := by
  have HB := Lib.hid (alW w (evO e))
  obtain ⟨c0, c1, c2, c3, c4, c5, c6, c7, c8, c9⟩ := ev_cells (heap_alloc_new w (evO e))
  clear hs hv hN
  go_enter Tryz.func99, Tryz.ntmps99
  go_wp2_with (first | fail)
  go_ret
  exact ⟨by simp [fitB], HB.out⟩

theorem fits_w5 (e : EvG) (fn : Bool) (w : World) (hs : EvSz e) (hv : Vw w) (hN : FitN e fn w) : Calls Tryz.prog 99 #[evV e, .int .i64 5] w fun r w' => r = .returned (.bool (fitB e fn 5)) ∧ Below w.heap.size w w' := by
  have HB := Lib.hid (alW w (evO e))
  obtain ⟨c0, c1, c2, c3, c4, c5, c6, c7, c8, c9⟩ := ev_cells (heap_alloc_new w (evO e))
  clear hs hv hN
  go_enter Tryz.func99, Tryz.ntmps99
  go_wp2_with (first | fail)
  go_ret
  exact ⟨by simp [fitB], HB.out⟩

theorem fits_w6 (e : EvG) (fn : Bool) (w : World) (hs : EvSz e) (hv : Vw w) (hN : FitN e fn w) : Calls Tryz.prog 99 #[evV e, .int .i64 6] w fun r w' => r = .returned (.bool (fitB e fn 6)) ∧ Below w.heap.size w w' := by
  have HB := Lib.hid (alW w (evO e))
  obtain ⟨c0, c1, c2, c3, c4, c5, c6, c7, c8, c9⟩ := ev_cells (heap_alloc_new w (evO e))
  clear hs hv hN
  go_enter Tryz.func99, Tryz.ntmps99
  go_wp2_with (first | fail)
  go_ret
  exact ⟨by simp [fitB], HB.out⟩

theorem fits_w7 (e : EvG) (fn : Bool) (w : World) (hs : EvSz e) (hv : Vw w) (hN : FitN e fn w) : Calls Tryz.prog 99 #[evV e, .int .i64 7] w fun r w' => r = .returned (.bool (fitB e fn 7)) ∧ Below w.heap.size w w' := by
  have HB := Lib.hid (alW w (evO e))
  have H := Lib.hid (NameC.holder_any e.holder (w.alloc (evO e)) hs.holder)
  obtain ⟨c0, c1, c2, c3, c4, c5, c6, c7, c8, c9⟩ := ev_cells (heap_alloc_new w (evO e))
  clear hs hv hN
  go_enter Tryz.func99, Tryz.ntmps99
  go_wp2_with (first | (go_at_call 133; refine H.out.mono ?_; rintro r w1 ⟨rfl, hb⟩) | fail)
  go_ret
  exact ⟨by simp [fitB], HB.out.trans (hb.mono HB.out.size)⟩

theorem fits_w8 (e : EvG) (fn : Bool) (w : World) (hs : EvSz e) (hv : Vw w) (hN : FitN e fn w) : Calls Tryz.prog 99 #[evV e, .int .i64 8] w fun r w' => r = .returned (.bool (fitB e fn 8)) ∧ Below w.heap.size w w' := by
  have HB := Lib.hid (alW w (evO e))
  have H := Lib.hid (NameC.holder_any e.note (w.alloc (evO e)) hs.note)
  obtain ⟨c0, c1, c2, c3, c4, c5, c6, c7, c8, c9⟩ := ev_cells (heap_alloc_new w (evO e))
  clear hs hv hN
  go_enter Tryz.func99, Tryz.ntmps99
  go_wp2_with (first | (go_at_call 133; refine H.out.mono ?_; rintro r w1 ⟨rfl, hb⟩) | fail)
  go_ret
  exact ⟨by simp [fitB], HB.out.trans (hb.mono HB.out.size)⟩

theorem fits_w9 (e : EvG) (fn : Bool) (w : World) (hs : EvSz e) (hv : Vw w) (hN : FitN e fn w) : Calls Tryz.prog 99 #[evV e, .int .i64 9] w fun r w' => r = .returned (.bool (fitB e fn 9)) ∧ Below w.heap.size w w' := by
  have HB := Lib.hid (alW w (evO e))
  obtain ⟨c0, c1, c2, c3, c4, c5, c6, c7, c8, c9⟩ := ev_cells (heap_alloc_new w (evO e))
  clear hs hv hN
  go_enter Tryz.func99, Tryz.ntmps99
  go_wp2_with (first | fail)
  go_ret
  exact ⟨by simp [fitB], HB.out⟩
theorem fits_any (e : EvG) (fn : Bool) (w : World) (hs : EvSz e) (hv : Vw w) (hN : FitN e fn w) (x : Int) (h0 : 0 ≤ x) (h9 : x ≤ 9) : Calls Tryz.prog 99 #[evV e, .int .i64 x] w fun r w' => r = .returned (.bool (fitB e fn x)) ∧ Below w.heap.size w w' := by
  have hx : x = 0 ∨ x = 1 ∨ x = 2 ∨ x = 3 ∨ x = 4 ∨ x = 5 ∨ x = 6 ∨ x = 7 ∨ x = 8 ∨ x = 9 := by omega
  rcases hx with rfl | rfl | rfl | rfl | rfl | rfl | rfl | rfl | rfl | rfl
  · exact fits_w0 e fn w hs hv hN
  · exact fits_w1 e fn w hs hv hN
  · exact fits_w2 e fn w hs hv hN
  · exact fits_w3 e fn w hs hv hN
  · exact fits_w4 e fn w hs hv hN
  · exact fits_w5 e fn w hs hv hN
  · exact fits_w6 e fn w hs hv hN
  · exact fits_w7 e fn w hs hv hN
  · exact fits_w8 e fn w hs hv hN
  · exact fits_w9 e fn w hs hv hN
theorem fitNeeds_no (w : World) : Calls Tryz.prog 136 #[.slice none 0 0] w fun r w' => r = .returned (.bool true) ∧ Below w.heap.size w w' := by
  go_enter Tryz.func136, Tryz.ntmps136
  go_wp2_with fail
  refine wp_loop_rounds 1 ?_
  rw [rounds_succ]
  go_wp2_with fail
  go_ret
  exact ⟨rfl, Below.refl _ _⟩
theorem FitN.no {e : EvG} (h : e.na = none) (hn : e.needs = []) (hc : e.nc = 0) (w : World) : FitN e true w := fun W _ => by rw [h, hn, hc]; exact fitNeeds_no W
/-- May's number -/
def mayC (b : Bool) : Int := if b then 0 else 90
/-- may e be, of a kind that names L? -/
def mayL (e : EvG) (fn : Bool) (L : List Int) : Bool := sameE (blankL e L) (kindE e.k) && L.all (fitB e fn)
theorem all_take {p : Int → Bool} {L : List Int} (j : Nat) (hj : j < L.length) : (L.take (j + 1)).all p = ((L.take j).all p && p (L.getD j 0)) := by
  rw [List.take_add_one, List.getElem?_eq_getElem hj, List.all_append]
  simp [hj]
set_option maxHeartbeats 8000000 in
set_option maxRecDepth 100000 in
theorem may_any (e : EvG) (fn : Bool) (L : List Int) (hL : Fds e.k L) (hl0 : 0 < L.length) (hf : ∀ x ∈ L, 0 ≤ x ∧ x ≤ 9) (hl : L.length ≤ 100) (w : World) (hs : EvSz e) (hv : Vw w) (hN : FitN e fn w) (hne : NeIn w e.na e.nc e.needs) :
    Calls Tryz.prog 58 #[evV e] w fun r w' => r = .returned (.int .i64 (mayC (mayL e fn L))) ∧ Below w.heap.size w w' := by
  have hB0 := alW w (evO e)
  have hr := heap_alloc_new w (evO e)
  have hs0 : (w.alloc (evO e)).heap.size = w.heap.size + 1 := by simp
  have HC : Hid (∀ W, Below (w.heap.size + 1) (w.alloc (evO e)) W → W.heap[w.heap.size]? = some (evO e)) := Lib.hid (fun W hb => (hb.block _ (by omega)).trans hr)
  have HIK : Hid (∀ W, Calls Tryz.prog 97 #[.int .u8 e.k] W fun r w' => r = .returned (.bool true) ∧ Below W.heap.size W w') := Lib.hid (fun W => by
    have h := iskind_of hL W
    rw [decide_eq_true hl0] at h
    exact h)
  have HSP : Hid (∀ W, NeIn W e.na e.nc e.needs → Calls Tryz.prog 98 #[evV e] W fun r w' => r = .returned (.bool (!sameE (blankL e L) (kindE e.k))) ∧ Below W.heap.size W w') := Lib.hid (fun W h => spare_of hL hf hl W h)
  have HF := Lib.hid hL
  have HFD : Hid (∀ j, j < L.length → 0 ≤ L.getD j 0 ∧ L.getD j 0 ≤ 9) := Lib.hid (fun j hj => hf _ (by simp [hj]))
  have HFT : Hid (∀ W, Below w.heap.size w W → ∀ j, j < L.length → Calls Tryz.prog 99 #[evV e, .int .i64 (L.getD j 0)] W fun r w' => r = .returned (.bool (fitB e fn (L.getD j 0))) ∧ Below W.heap.size W w') := Lib.hid (fun W hb j hj => fits_any e fn W hs (hv.gr hb) (hN.gr hb) _ (HFD.out j hj).1 (HFD.out j hj).2)
  have HNE : Hid (∀ W, Below w.heap.size w W → NeIn W e.na e.nc e.needs) := Lib.hid (fun W hb => hne.gr hb)
  obtain ⟨c0, c1, c2, c3, c4, c5, c6, c7, c8, c9⟩ := ev_cells hr
  have HB := Lib.hid hB0
  have HS0 := Lib.hid hs0
  have HAT : Hid (∀ j, j < L.length → (L.take (j + 1)).all (fitB e fn) = ((L.take j).all (fitB e fn) && fitB e fn (L.getD j 0))) := Lib.hid (fun j hj => all_take j hj)
  have HML : Hid (mayL e fn L = (sameE (blankL e L) (kindE e.k) && (L.take L.length).all (fitB e fn))) := Lib.hid (by rw [List.take_length]; rfl)
  have HFA : Hid (∀ j, j < L.length → fitB e fn (L.getD j 0) = false → (L.take L.length).all (fitB e fn) = false) := Lib.hid (fun j hj h => by
    rw [List.take_length]
    cases ha : L.all (fitB e fn) with
    | false => rfl
    | true =>
      have := List.all_eq_true.1 ha (L.getD j 0) (by simp [hj])
      rw [h] at this
      cases this)
  clear hv hr hB0 hs0 hL hf hN hne hs
  generalize mayL e fn L = ml at *
  generalize sameE (blankL e L) (kindE e.k) = se at *
  have HL0 := Lib.hid hl0
  have HL := Lib.hid hl
  clear hl0 hl
  go_enter Tryz.func58, Tryz.ntmps58
  go_wp2_with fail
  refine (HIK.out _).mono ?_
  rintro e1 w1 ⟨rfl, hb1⟩
  have HB1 := Lib.hid (hb1.mono (Nat.le_of_eq HS0.out.symm))
  clear hb1 c0 c1 c2 c3 c4 c5 c6 c7 c8 c9
  have HBW1 := Lib.hid (HB.out.trans (HB1.out.mono (by omega : w.heap.size ≤ w.heap.size + 1)))
  obtain ⟨c0, c1, c2, c3, c4, c5, c6, c7, c8, c9⟩ := ev_cells (HC.out _ HB1.out)
  go_wp2_with fail
  refine (HSP.out _ (HNE.out _ HBW1.out)).mono ?_
  rintro e2 w2 ⟨rfl, hb2⟩
  have HB2 := Lib.hid (HB1.out.trans (hb2.mono (Nat.le_trans (Nat.le_of_eq HS0.out.symm) HB1.out.size)))
  clear hb2 c0 c1 c2 c3 c4 c5 c6 c7 c8 c9 HSP
  have HBW2 := Lib.hid (HB.out.trans (HB2.out.mono (by omega : w.heap.size ≤ w.heap.size + 1)))
  obtain ⟨c0, c1, c2, c3, c4, c5, c6, c7, c8, c9⟩ := ev_cells (HC.out _ HB2.out)
  cases se with
  | false =>
    go_wp2_with fail
    go_ret
    exact ⟨by rw [HML.out]; rfl, HBW2.out⟩
  | true =>
    go_wp2_with fail
    refine (HF.out _).mono ?_
    rintro e3 w3 ⟨v, rfl, hrow, hb3⟩
    obtain ⟨a, cp, rfl, hcell⟩ := fds_open hrow
    obtain ⟨g, rfl, hg0, hg1, hcl⟩ := hcell HL0.out
    have HB3 := Lib.hid (HB2.out.trans (hb3.mono (Nat.le_trans (Nat.le_of_eq HS0.out.symm) HB2.out.size)))
    have HFC : Hid (∀ W : World, Below w3.heap.size w3 W → ∀ j, j < L.length → W.cell? ⟨g, j, none⟩ = some (.int .i64 (L.getD j 0))) := Lib.hid (fun W hk j hj =>
      (World.cell?_of_block (a := ⟨g, j, none⟩) (hk.block g hg1)).trans (hcl j hj))
    have HL3 : Hid (w.heap.size + 1 ≤ w3.heap.size) := Lib.hid (Nat.le_trans (Nat.le_of_eq HS0.out.symm) HB3.out.size)
    clear hrow hb3 hcl hcell hg0 hg1 c0 c1 c2 c3 c4 c5 c6 c7 c8 c9 HIK HF HB1 HB2
    go_wp2_with fail
    go_loopw [4, 17] (fun _ i wr => ∃ j : Nat, i = .int .i64 j ∧ j ≤ L.length ∧ Hid ((L.take j).all (fitB e fn) = true) ∧ Hid (Below w3.heap.size w3 wr)) (fun _ i _ => L.length - (intOf i).toNat)
    case atStart => exact ⟨0, rfl, Nat.zero_le _, Lib.hid rfl, Lib.hid (Below.refl _ _)⟩
    case round =>
      obtain ⟨j, rfl, hj, HA, HI⟩ := hrel
      rename World => wr
      have HBW := Lib.hid (HB3.out.trans (HI.out.mono HL3.out))
      have HBV := Lib.hid (HB.out.trans (HBW.out.mono (by omega : w.heap.size ≤ w.heap.size + 1)))
      obtain ⟨c0, c1, c2, c3, c4, c5, c6, c7, c8, c9⟩ := ev_cells (HC.out _ HBW.out)
      by_cases hlt : j < L.length
      · have hj100 : j ≤ 100 := by have := HL.out; omega
        have hdec : decide (j < L.length) = true := by simpa using hlt
        have hcell := HFC.out wr HI.out j hlt
        have HFJ := Lib.hid (HFT.out wr HBV.out j hlt)
        have HA2 := Lib.hid (HAT.out j hlt)
        have HA3 := Lib.hid (HFA.out j hlt)
        generalize L.getD j 0 = x at *
        generalize fitB e fn x = fb at *
        go_wp2_with fail
        refine HFJ.out.mono ?_
        rintro e4 w4 ⟨rfl, hb4⟩
        have HI4 := Lib.hid (HI.out.trans (hb4.mono HI.out.size))
        have HBV4 := Lib.hid (HBV.out.trans (hb4.mono HBV.out.size))
        clear hb4 hcell c0 c1 c2 c3 c4 c5 c6 c7 c8 c9
        cases fb with
        | true =>
          go_wp2_with fail
          go_roundw
          case rel => exact ⟨j + 1, by go_num, by omega, Lib.hid (by rw [HA2.out, HA.out]; rfl), HI4⟩
          case measure => simp [intOf]; omega
        | false =>
          go_wp2_with fail
          go_ret
          exact ⟨by rw [HML.out, HA3.out trivial]; rfl, HBV4.out⟩
      · have hjl : j = L.length := by omega
        subst hjl
        clear c0 c1 c2 c3 c4 c5 c6 c7 c8 c9
        go_wp2_with fail
        go_ret
        exact ⟨by rw [HML.out, HA.out]; rfl, HBV.out⟩
/-- of a kind that is none -/
theorem may_no (w : World) : Calls Tryz.prog 58 #[evV (kindE 0)] w fun r w' => r = .returned (.int .i64 90) ∧ Below w.heap.size w w' := by
  have HIK := Lib.hid (iskind_of (k := 0) (L := []) (fun w => EvN.fields_0 w))
  have HB := Lib.hid (alW w (evO (kindE 0)))
  obtain ⟨c0, c1, c2, c3, c4, c5, c6, c7, c8, c9⟩ := ev_cells (heap_alloc_new w (evO (kindE 0)))
  unfold kindE at *
  go_enter Tryz.func58, Tryz.ntmps58
  go_wp2_with fail
  refine (HIK.out _).mono ?_
  rintro e1 w1 ⟨rfl, hb1⟩
  have HB1 := Lib.hid (HB.out.trans (hb1.mono HB.out.size))
  clear hb1 c0 c1 c2 c3 c4 c5 c6 c7 c8 c9
  go_wp2_with fail
  go_ret
  exact ⟨rfl, HB1.out⟩
end EvA
end Go.Proofs.YtbjifikbfagdjaaGreatDoor
