/-
  What the proof of EventForms stands on, part 30.
-/
import Derived.Test.YtbiplmbcdhjiaaaGreatDoorT29
set_option linter.unusedSimpArgs false
set_option linter.unusedVariables false
set_option maxHeartbeats 16000000
namespace Go.Proofs.YtbiplmbcdhjiaaaGreatDoor
open Go.Lib (hid)
section
open Go.RowKit
namespace NameC
open NameM StrC
def sq (l : List UInt8) : List UInt8 := l.filter (· != 45)
theorem zvy (l : List UInt8) : sq (norm l) = squash l := by
 unfold sq norm squash
 split
 · exact zuk l
 · rfl
theorem zvz (l : List UInt8) (w : World) (hl : l.length ≤ 9223372036854775807) :
 Calls Tryz.prog 68 #[.string (str l)] w fun e w' => e = .returned (.bool (isN l)) ∧ Below w.heap.size w w' := by
 have HN := hid (zvx l w hl)
 rcases Bool.eq_false_or_eq_true (may l) with hm | hm
 · have hc : code l = 0 := by unfold code; rw [if_pos hm]
   have H1 := hid (show isN l = decide (norm l = l) by unfold isN norm; rw [if_pos hm, hm, Bool.true_and])
   rw [hc] at HN
   clear hc
   generalize norm l = n at *
   go_enter Tryz.func68, Tryz.ntmps68
   go_wp2_with (go_at_call 122; refine HN.out.mono ?_; rintro e w' ⟨rfl, hb⟩)
   go_ret
   exact ⟨retB (by rw [zbp, H1.out]), hb⟩
 · have hc : code l = 60 := by unfold code; rw [if_neg (by rw [hm]; decide)]
   have H1 := hid (show isN l = false by unfold isN; rw [hm]; rfl)
   rw [hc] at HN
   clear hc
   go_enter Tryz.func68, Tryz.ntmps68
   go_wp2_with (go_at_call 122; refine HN.out.mono ?_; rintro e w' ⟨rfl, hb⟩)
   all_goals go_ret
   all_goals exact ⟨retB H1.out.symm, hb⟩
theorem same_eq {a b : List UInt8} (h : (may a && may b) = true) : same a b = decide (norm a = norm b) ∧ like a b = (decide (norm a ≠ norm b) && decide (sq (norm a) = sq (norm b))) := by
 have h' := h
 rw [Bool.and_eq_true] at h'
 rw [zvy, zvy]
 unfold same like norm squash
 rw [h'.1, h'.2]
 exact ⟨rfl, rfl⟩
theorem same_no {a b : List UInt8} (h : (may a && may b) = false) : same a b = false ∧ like a b = false := by
 unfold same like
 rw [h]
 exact ⟨rfl, rfl⟩
def holdCode (l : List UInt8) : Int := if holder l then 0 else 61
theorem zwa {l : List UInt8} (h : holder l = false) : holdCode l = 61 := by unfold holdCode; rw [h]; rfl
theorem zwb {l : List UInt8} {k : Nat} (hk : k < l.length) (h : holdB (l.getD k 0) = false) : holder l = false := by
 have : l.all holdB = false := by
  refine all_not holdB l (k + 1) ?_
  rw [all_succ holdB l k hk, h, Bool.and_false]
 unfold holder; rw [this]; simp
theorem zwc {l : List UInt8} (h : ¬ (97 ≤ (l.getD 0 0).toNat ∧ (l.getD 0 0).toNat ≤ 122)) : holder l = false := by
 have : (decide (97 ≤ (l.getD 0 0).toNat) && decide ((l.getD 0 0).toNat ≤ 122)) = false := by
  rw [Bool.and_eq_false_iff, decide_eq_false_iff_not, decide_eq_false_iff_not]; omega
 unfold holder; rw [this]; simp
theorem zwd {l : List UInt8} (h1 : 1 ≤ l.length) (h2 : l.length ≤ 64) (h3 : 97 ≤ (l.getD 0 0).toNat ∧ (l.getD 0 0).toNat ≤ 122) (h4 : l.all holdB = true) : holdCode l = 0 := by
 unfold holdCode holder
 rw [decide_eq_true h1, decide_eq_true h2, decide_eq_true h3.1, decide_eq_true h3.2, h4]; rfl
theorem zwe {c : UInt8} (h : holdB c = true) : (kindN c.toNat = 4 ∧ (97 ≤ c.toNat ∧ c.toNat ≤ 122) ∨ kindN c.toNat = 2 ∧ ¬ (97 ≤ c.toNat ∧ c.toNat ≤ 122)) ∧ c.toNat < 128 := by
 simp only [holdB, Bool.or_eq_true, Bool.and_eq_true, decide_eq_true_eq] at h
 unfold kindN
 refine ⟨?_, by omega⟩
 repeat' split
 all_goals omega
theorem zwf {c : UInt8} (h : holdB c = false) : kindN c.toNat ≠ 4 ∧ kindN c.toNat ≠ 2 := by
 simp only [holdB, Bool.or_eq_false_iff, Bool.and_eq_false_iff, decide_eq_false_iff_not] at h
 unfold kindN
 repeat' split
 all_goals omega
structure HoldI (l : List UInt8) (B : Nat) (w wr : World) (k : Nat) : Prop where
 le : k ≤ l.length
 it : wr.heap[B]? = some (.stringIter (str l) k)
 below : Below B w wr
 ok : (l.take k).all holdB = true
 first : 0 < k → (97 ≤ (l.getD 0 0).toNat ∧ (l.getD 0 0).toNat ≤ 122)
set_option maxRecDepth 100000 in
theorem zwg (l : List UInt8) (w : World) (hl : l.length ≤ 9223372036854775807) :
 Calls Tryz.prog 67 #[.string (str l)] w fun e w' => e = .returned (.int .i64 (holdCode l)) ∧ Below w.heap.size w w' := by
 by_cases hb : 1 ≤ l.length ∧ l.length ≤ 64
 rotate_left
 · have hf : (decide (1 ≤ l.length) && decide (l.length ≤ 64)) = false := by
    rw [Bool.and_eq_false_iff, decide_eq_false_iff_not, decide_eq_false_iff_not]; omega
   have HC := hid (zwa (l := l) (by unfold holder; rw [hf]; rfl))
   have HFC := hid (fits_any l w hl)
   rw [hf] at HFC
   clear hf hb
   go_enter Tryz.func67, Tryz.ntmps67
   go_wp2_with (go_at_call 120; refine HFC.out.mono ?_; rintro e w' ⟨rfl, rfl⟩)
   go_ret
   exact ⟨retI HC.out.symm, Below.refl _ _⟩
 obtain ⟨h1, h2⟩ := hb
 have hs := zbl l
 have hf : (decide (1 ≤ l.length) && decide (l.length ≤ 64)) = true := by rw [decide_eq_true h1, decide_eq_true h2]; rfl
 have HFC := hid (fits_any l w hl)
 rw [hf] at HFC
 clear hf
 go_enter Tryz.func67, Tryz.ntmps67
 go_wp2_with (go_at_call 120; refine HFC.out.mono ?_; rintro e w' ⟨rfl, rfl⟩)
 go_loopw [3, 4, 5] (fun _ _ _ wr => ∃ k : Nat, HoldI l w.heap.size w wr k) (fun _ _ _ wr => l.length - wr.iterPos w.heap.size)
 case atStart => exact ⟨0, Nat.zero_le _, World.iter_heap _ _ _, (Below.refl _ _).alloc (Nat.le_refl _) _, rfl, fun h => absurd h (by decide)⟩
 case round =>
  obtain ⟨k, HI⟩ := hrel
  rename World => wr
  have hit := HI.it
  by_cases hlt : k < l.length
  · rcases Nat.lt_or_ge (l.getD k 0).toNat 128 with hasc | hasc
    · have hnx := zvh wr w.heap.size l k hit hlt hasc
      have hit2 := Lib.iterAt_heap wr w.heap.size (str l) k (k + 1) hit
      have hbw := Lib.below_iterAt HI.below (Nat.le_refl _) (str l) (k + 1)
      have HBW := hid hbw
      have HK := hid (fun w => zvd (l.getD k 0).toNat w (by omega))
      rcases Bool.eq_false_or_eq_true (holdB (l.getD k 0)) with hh | hh
      · have HST := hid (show (97 ≤ (l.getD k 0).toNat ∧ (l.getD k 0).toNat ≤ 122 ∨ 0 < k) → HoldI l w.heap.size w (wr.iterAt w.heap.size (str l) (k + 1)) (k + 1) from fun hx => ⟨hlt, hit2, hbw, by rw [all_succ holdB l k hlt, HI.ok, hh]; rfl, fun _ => by
         rcases Nat.eq_zero_or_pos k with e0 | e0
         · subst e0; rcases hx with hx | hx; exact hx; omega
         · exact HI.first e0⟩)
        rcases (zwe hh).1 with ⟨hkd, hsm⟩ | ⟨hkd, hsm⟩
        · rw [hkd] at HK
          clear HI hbw hh
          generalize l.getD k 0 = c at *
          generalize wr.iterAt w.heap.size (str l) (k + 1) = wd at *
          go_wp2_with (go_at_call 121; refine (HK.out _).mono ?_; rintro e w' ⟨rfl, rfl⟩)
          go_roundw
          case rel => exact ⟨k + 1, HST.out (Or.inl hsm)⟩
          case measure => rw [iterPos_of hit, iterPos_of hit2]; omega
        · rw [hkd] at HK
          by_cases hk0 : k = 0
          · have HC := hid (zwa (l := l) (zwc (by rw [hk0] at hsm; exact hsm)))
            clear HI hbw hh HST hsm
            generalize l.getD k 0 = c at *
            subst hk0
            generalize wr.iterAt w.heap.size (str l) (0 + 1) = wd at *
            go_wp2_with (go_at_call 121; refine (HK.out _).mono ?_; rintro e w' ⟨rfl, rfl⟩)
            go_ret
            exact ⟨retI HC.out.symm, HBW.out⟩
          · have hd0 : ((k : Int) == 0) = false := by rw [beq_eq_false_iff_ne]; omega
            clear HI hbw hh hsm
            generalize l.getD k 0 = c at *
            generalize wr.iterAt w.heap.size (str l) (k + 1) = wd at *
            go_wp2_with (go_at_call 121; refine (HK.out _).mono ?_; rintro e w' ⟨rfl, rfl⟩)
            go_roundw
            case rel => exact ⟨k + 1, HST.out (Or.inr (by omega))⟩
            case measure => rw [iterPos_of hit, iterPos_of hit2]; omega
      · have HC := hid (zwa (zwb hlt hh))
        obtain ⟨hn4, hn2⟩ := zwf hh
        have hb4 : (kindN (l.getD k 0).toNat != 4) = true := by rw [bne_iff_ne]; exact hn4
        have hb2 : (kindN (l.getD k 0).toNat != 2) = true := by rw [bne_iff_ne]; exact hn2
        clear HI hbw hh
        generalize kindN (l.getD k 0).toNat = K at *
        generalize l.getD k 0 = c at *
        generalize wr.iterAt w.heap.size (str l) (k + 1) = wd at *
        go_wp2_with (go_at_call 121; refine (HK.out _).mono ?_; rintro e w' ⟨rfl, rfl⟩)
        all_goals go_ret
        all_goals exact ⟨retI HC.out.symm, HBW.out⟩
    · obtain ⟨n, k', hn1, hn2, hnx⟩ := zvi wr w.heap.size l k hit hlt hasc
      have HBW := hid (Lib.below_iterAt HI.below (Nat.le_refl _) (str l) k')
      have HC := hid (zwa (zwb hlt (by simp only [holdB, Bool.or_eq_false_iff, Bool.and_eq_false_iff, decide_eq_false_iff_not]; omega)))
      have HK := hid (fun w => zvd n w hn2)
      rw [zvr hn1] at HK
      clear HI
      generalize wr.iterAt w.heap.size (str l) k' = wd at *
      go_wp2_with (go_at_call 121; refine (HK.out _).mono ?_; rintro e w' ⟨rfl, rfl⟩)
      all_goals go_ret
      all_goals exact ⟨retI HC.out.symm, HBW.out⟩
  · have hke : k = l.length := by have := HI.le; omega
    subst hke
    have hnx := zvj wr w.heap.size l l.length hit hlt
    have HC := hid (zwd h1 h2 (HI.first (by omega)) (by have := HI.ok; rwa [List.take_length] at this))
    have HBW := hid HI.below
    clear HI
    go_wp2
    go_ret
    exact ⟨retI HC.out.symm, HBW.out⟩
end NameC
end
section
open Go.RowKit Go.Sort
namespace EvA
open StrC EvF EvC TextR
open VerC (Vw)
structure EvSz (e : EvG) : Prop where
 who : e.who.length ≤ 9223372036854775807
 name : e.name.length ≤ 9223372036854775807
 holder : e.holder.length ≤ 9223372036854775807
 note : e.note.length ≤ 9223372036854775807
def fitB (e : EvG) (fn : Bool) (x : Int) : Bool :=
 if x = 0 then (NameC.holdCode e.who == 0) else if x = 1 then NameM.isN e.name else if x = 2 then VerM.isT e.ver else if x = 3 then fn else if x = 4 then true
 else if x = 5 then decide ((1 : Int) ≤ e.n) else if x = 6 then decide ((e.size : Int) ≤ 65536) else if x = 7 then (NameC.holdCode e.holder == 0) else if x = 8 then (NameC.holdCode e.note == 0) else decide (((str e.note).size : Int) ≤ 256)
def FitN (e : EvG) (fn : Bool) (w : World) : Prop := ∀ W, Below w.heap.size w W → Calls Tryz.prog 70 #[.slice e.na e.needs.length e.nc] W fun r w' => r = .returned (.bool fn) ∧ Below W.heap.size W w'
theorem FitN.gr {e : EvG} {fn : Bool} {w W : World} (h : FitN e fn w) (hb : Below w.heap.size w W) : FitN e fn W := fun X hx => h X (hb.trans (hx.mono hb.size))
set_option maxHeartbeats 2000000
theorem fits_w0 (e : EvG) (fn : Bool) (w : World) (hs : EvSz e) (hv : Vw w) (hN : FitN e fn w) : Calls Tryz.prog 33 #[evV e, .int .i64 0] w fun r w' => r = .returned (.bool (fitB e fn 0)) ∧ Below w.heap.size w w' := by
 have HB := hid (alW w (evO e))
 have H := hid (NameC.zwg e.who (w.alloc (evO e)) hs.who)
 obtain ⟨c0, c1, c2, c3, c4, c5, c6, c7, c8, c9⟩ := ztd (heap_alloc_new w (evO e))
 clear hs hv hN
 go_enter Tryz.func33, Tryz.ntmps33
 go_wp2_with (first | (go_at_call 67; refine H.out.mono ?_; rintro r w1 ⟨rfl, hb⟩) | fail)
 go_ret
 exact ⟨by simp [fitB], HB.out.trans (hb.mono HB.out.size)⟩
theorem fits_w1 (e : EvG) (fn : Bool) (w : World) (hs : EvSz e) (hv : Vw w) (hN : FitN e fn w) : Calls Tryz.prog 33 #[evV e, .int .i64 1] w fun r w' => r = .returned (.bool (fitB e fn 1)) ∧ Below w.heap.size w w' := by
 have HB := hid (alW w (evO e))
 have H := hid (NameC.zvz e.name (w.alloc (evO e)) hs.name)
 obtain ⟨c0, c1, c2, c3, c4, c5, c6, c7, c8, c9⟩ := ztd (heap_alloc_new w (evO e))
 clear hs hv hN
 go_enter Tryz.func33, Tryz.ntmps33
 go_wp2_with (first | (go_at_call 68; refine H.out.mono ?_; rintro r w1 ⟨rfl, hb⟩) | fail)
 go_ret
 exact ⟨by simp [fitB], HB.out.trans (hb.mono HB.out.size)⟩
theorem fits_w2 (e : EvG) (fn : Bool) (w : World) (hs : EvSz e) (hv : Vw w) (hN : FitN e fn w) : Calls Tryz.prog 33 #[evV e, .int .i64 2] w fun r w' => r = .returned (.bool (fitB e fn 2)) ∧ Below w.heap.size w w' := by
 have HB := hid (alW w (evO e))
 have H := hid (VerC.pIs_any e.ver (w.alloc (evO e)) (hv.gr HB.out))
 obtain ⟨c0, c1, c2, c3, c4, c5, c6, c7, c8, c9⟩ := ztd (heap_alloc_new w (evO e))
 clear hs hv hN
 go_enter Tryz.func33, Tryz.ntmps33
 go_wp2_with (first | (go_at_call 69; refine H.out.mono ?_; rintro r w1 ⟨rfl, hb⟩) | fail)
 go_ret
 exact ⟨by simp [fitB], HB.out.trans (hb.mono HB.out.size)⟩
theorem fits_w3 (e : EvG) (fn : Bool) (w : World) (hs : EvSz e) (hv : Vw w) (hN : FitN e fn w) : Calls Tryz.prog 33 #[evV e, .int .i64 3] w fun r w' => r = .returned (.bool (fitB e fn 3)) ∧ Below w.heap.size w w' := by
 have HB := hid (alW w (evO e))
 have H := hid (hN (w.alloc (evO e)) HB.out)
 obtain ⟨c0, c1, c2, c3, c4, c5, c6, c7, c8, c9⟩ := ztd (heap_alloc_new w (evO e))
 clear hs hv hN
 go_enter Tryz.func33, Tryz.ntmps33
 go_wp2_with (first | (go_at_call 70; refine H.out.mono ?_; rintro r w1 ⟨rfl, hb⟩) | fail)
 go_ret
 exact ⟨by simp [fitB], HB.out.trans (hb.mono HB.out.size)⟩
theorem fits_w4 (e : EvG) (fn : Bool) (w : World) (hs : EvSz e) (hv : Vw w) (hN : FitN e fn w) : Calls Tryz.prog 33 #[evV e, .int .i64 4] w fun r w' => r = .returned (.bool (fitB e fn 4)) ∧ Below w.heap.size w w' := by
 have HB := hid (alW w (evO e))
 obtain ⟨c0, c1, c2, c3, c4, c5, c6, c7, c8, c9⟩ := ztd (heap_alloc_new w (evO e))
 clear hs hv hN
 go_enter Tryz.func33, Tryz.ntmps33
 go_wp2_with (first | fail)
 go_ret
 exact ⟨by simp [fitB], HB.out⟩
theorem fits_w5 (e : EvG) (fn : Bool) (w : World) (hs : EvSz e) (hv : Vw w) (hN : FitN e fn w) : Calls Tryz.prog 33 #[evV e, .int .i64 5] w fun r w' => r = .returned (.bool (fitB e fn 5)) ∧ Below w.heap.size w w' := by
 have HB := hid (alW w (evO e))
 obtain ⟨c0, c1, c2, c3, c4, c5, c6, c7, c8, c9⟩ := ztd (heap_alloc_new w (evO e))
 clear hs hv hN
 go_enter Tryz.func33, Tryz.ntmps33
 go_wp2_with (first | fail)
 go_ret
 exact ⟨by simp [fitB], HB.out⟩
theorem fits_w6 (e : EvG) (fn : Bool) (w : World) (hs : EvSz e) (hv : Vw w) (hN : FitN e fn w) : Calls Tryz.prog 33 #[evV e, .int .i64 6] w fun r w' => r = .returned (.bool (fitB e fn 6)) ∧ Below w.heap.size w w' := by
 have HB := hid (alW w (evO e))
 obtain ⟨c0, c1, c2, c3, c4, c5, c6, c7, c8, c9⟩ := ztd (heap_alloc_new w (evO e))
 clear hs hv hN
 go_enter Tryz.func33, Tryz.ntmps33
 go_wp2_with (first | fail)
 go_ret
 exact ⟨by simp [fitB], HB.out⟩
theorem fits_w7 (e : EvG) (fn : Bool) (w : World) (hs : EvSz e) (hv : Vw w) (hN : FitN e fn w) : Calls Tryz.prog 33 #[evV e, .int .i64 7] w fun r w' => r = .returned (.bool (fitB e fn 7)) ∧ Below w.heap.size w w' := by
 have HB := hid (alW w (evO e))
 have H := hid (NameC.zwg e.holder (w.alloc (evO e)) hs.holder)
 obtain ⟨c0, c1, c2, c3, c4, c5, c6, c7, c8, c9⟩ := ztd (heap_alloc_new w (evO e))
 clear hs hv hN
 go_enter Tryz.func33, Tryz.ntmps33
 go_wp2_with (first | (go_at_call 67; refine H.out.mono ?_; rintro r w1 ⟨rfl, hb⟩) | fail)
 go_ret
 exact ⟨by simp [fitB], HB.out.trans (hb.mono HB.out.size)⟩
theorem fits_w8 (e : EvG) (fn : Bool) (w : World) (hs : EvSz e) (hv : Vw w) (hN : FitN e fn w) : Calls Tryz.prog 33 #[evV e, .int .i64 8] w fun r w' => r = .returned (.bool (fitB e fn 8)) ∧ Below w.heap.size w w' := by
 have HB := hid (alW w (evO e))
 have H := hid (NameC.zwg e.note (w.alloc (evO e)) hs.note)
 obtain ⟨c0, c1, c2, c3, c4, c5, c6, c7, c8, c9⟩ := ztd (heap_alloc_new w (evO e))
 clear hs hv hN
 go_enter Tryz.func33, Tryz.ntmps33
 go_wp2_with (first | (go_at_call 67; refine H.out.mono ?_; rintro r w1 ⟨rfl, hb⟩) | fail)
 go_ret
 exact ⟨by simp [fitB], HB.out.trans (hb.mono HB.out.size)⟩
theorem fits_w9 (e : EvG) (fn : Bool) (w : World) (hs : EvSz e) (hv : Vw w) (hN : FitN e fn w) : Calls Tryz.prog 33 #[evV e, .int .i64 9] w fun r w' => r = .returned (.bool (fitB e fn 9)) ∧ Below w.heap.size w w' := by
 have HB := hid (alW w (evO e))
 obtain ⟨c0, c1, c2, c3, c4, c5, c6, c7, c8, c9⟩ := ztd (heap_alloc_new w (evO e))
 clear hs hv hN
 go_enter Tryz.func33, Tryz.ntmps33
 go_wp2_with (first | fail)
 go_ret
 exact ⟨by simp [fitB], HB.out⟩
theorem fits_any (e : EvG) (fn : Bool) (w : World) (hs : EvSz e) (hv : Vw w) (hN : FitN e fn w) (x : Int) (h0 : 0 ≤ x) (h9 : x ≤ 9) : Calls Tryz.prog 33 #[evV e, .int .i64 x] w fun r w' => r = .returned (.bool (fitB e fn x)) ∧ Below w.heap.size w w' := by
 have hx : x = 0 ∨ x = 1 ∨ x = 2 ∨ x = 3 ∨ x = 4 ∨ x = 5 ∨ x = 6 ∨ x = 7 ∨ x = 8 ∨ x = 9 := by omega
 rcases hx with rfl | rfl | rfl | rfl | rfl | rfl | rfl | rfl | rfl | rfl
 · exact fits_w0 e fn w hs hv hN
 · exact fits_w1 e fn w hs hv hN
 · exact fits_w2 e fn w hs hv hN
 · exact fits_w3 e fn w hs hv hN
 · exact fits_w4 e fn w hs hv hN
 · exact fits_w5 e fn w hs hv hN
 · exact fits_w6 e fn w hs hv hN
 · exact fits_w7 e fn w hs hv hN
 · exact fits_w8 e fn w hs hv hN
 · exact fits_w9 e fn w hs hv hN
def mayC (b : Bool) : Int := if b then 0 else 90
def mayL (e : EvG) (fn : Bool) (L : List Int) : Bool := sameE (blankL e L) (kindE e.k) && L.all (fitB e fn)
theorem zwh {p : Int → Bool} {L : List Int} (j : Nat) (hj : j < L.length) : (L.take (j + 1)).all p = ((L.take j).all p && p (L.getD j 0)) := by
 rw [List.take_add_one, List.getElem?_eq_getElem hj, List.all_append]
 simp [hj]
set_option maxRecDepth 100000 in
theorem may_any (e : EvG) (fn : Bool) (L : List Int) (hL : Fds e.k L) (hl0 : 0 < L.length) (hf : ∀ x ∈ L, 0 ≤ x ∧ x ≤ 9) (hl : L.length ≤ 100) (w : World) (hs : EvSz e) (hv : Vw w) (hN : FitN e fn w) (hne : NeIn w e.na e.nc e.needs) :
 Calls Tryz.prog 7 #[evV e] w fun r w' => r = .returned (.int .i64 (mayC (mayL e fn L))) ∧ Below w.heap.size w w' := by
 have hB0 := alW w (evO e)
 have hr := heap_alloc_new w (evO e)
 have hs0 : (w.alloc (evO e)).heap.size = w.heap.size + 1 := by simp
 have HC : Hid (∀ W, Below (w.heap.size + 1) (w.alloc (evO e)) W → W.heap[w.heap.size]? = some (evO e)) := hid (fun W hb => (hb.block _ (by omega)).trans hr)
 have HIK : Hid (∀ W, Calls Tryz.prog 30 #[.int .u8 e.k] W fun r w' => r = .returned (.bool true) ∧ Below W.heap.size W w') := hid (fun W => by
  have h := ztv hL W
  rw [decide_eq_true hl0] at h
  exact h)
 have HSP : Hid (∀ W, NeIn W e.na e.nc e.needs → Calls Tryz.prog 31 #[evV e] W fun r w' => r = .returned (.bool (!sameE (blankL e L) (kindE e.k))) ∧ Below W.heap.size W w') := hid (fun W h => zua hL hf hl W h)
 have HF := hid hL
 have HFD : Hid (∀ j, j < L.length → 0 ≤ L.getD j 0 ∧ L.getD j 0 ≤ 9) := hid (fun j hj => hf _ (by simp [hj]))
 have HFT : Hid (∀ W, Below w.heap.size w W → ∀ j, j < L.length → Calls Tryz.prog 33 #[evV e, .int .i64 (L.getD j 0)] W fun r w' => r = .returned (.bool (fitB e fn (L.getD j 0))) ∧ Below W.heap.size W w') := hid (fun W hb j hj => fits_any e fn W hs (hv.gr hb) (hN.gr hb) _ (HFD.out j hj).1 (HFD.out j hj).2)
 have HNE : Hid (∀ W, Below w.heap.size w W → NeIn W e.na e.nc e.needs) := hid (fun W hb => hne.gr hb)
 obtain ⟨c0, c1, c2, c3, c4, c5, c6, c7, c8, c9⟩ := ztd hr
 have HB := hid hB0
 have HS0 := hid hs0
 have HAT : Hid (∀ j, j < L.length → (L.take (j + 1)).all (fitB e fn) = ((L.take j).all (fitB e fn) && fitB e fn (L.getD j 0))) := hid (fun j hj => zwh j hj)
 have HML : Hid (mayL e fn L = (sameE (blankL e L) (kindE e.k) && (L.take L.length).all (fitB e fn))) := hid (by rw [List.take_length]; rfl)
 have HFA : Hid (∀ j, j < L.length → fitB e fn (L.getD j 0) = false → (L.take L.length).all (fitB e fn) = false) := hid (fun j hj h => by
  rw [List.take_length]
  cases ha : L.all (fitB e fn) with
  | false => rfl
  | true =>
   have := List.all_eq_true.1 ha (L.getD j 0) (by simp [hj])
   rw [h] at this
   cases this)
 clear hv hr hB0 hs0 hL hf hN hne hs
 generalize mayL e fn L = ml at *
 generalize sameE (blankL e L) (kindE e.k) = se at *
 have HL0 := hid hl0
 have HL := hid hl
 clear hl0 hl
 go_enter Tryz.func7, Tryz.ntmps7
 go_wp2_with fail
 refine (HIK.out _).mono ?_
 rintro e1 w1 ⟨rfl, hb1⟩
 have HB1 := hid (hb1.mono (Nat.le_of_eq HS0.out.symm))
 clear hb1 c0 c1 c2 c3 c4 c5 c6 c7 c8 c9
 have HBW1 := hid (HB.out.trans (HB1.out.mono (by omega : w.heap.size ≤ w.heap.size + 1)))
 obtain ⟨c0, c1, c2, c3, c4, c5, c6, c7, c8, c9⟩ := ztd (HC.out _ HB1.out)
 go_wp2_with fail
 refine (HSP.out _ (HNE.out _ HBW1.out)).mono ?_
 rintro e2 w2 ⟨rfl, hb2⟩
 have HB2 := hid (HB1.out.trans (hb2.mono (Nat.le_trans (Nat.le_of_eq HS0.out.symm) HB1.out.size)))
 clear hb2 c0 c1 c2 c3 c4 c5 c6 c7 c8 c9 HSP
 have HBW2 := hid (HB.out.trans (HB2.out.mono (by omega : w.heap.size ≤ w.heap.size + 1)))
 obtain ⟨c0, c1, c2, c3, c4, c5, c6, c7, c8, c9⟩ := ztd (HC.out _ HB2.out)
 cases se with
 | false =>
  go_wp2_with fail
  go_ret
  exact ⟨by rw [HML.out]; rfl, HBW2.out⟩
 | true =>
  go_wp2_with fail
  refine (HF.out _).mono ?_
  rintro e3 w3 ⟨v, rfl, hrow, hb3⟩
  obtain ⟨a, cp, rfl, hcell⟩ := ztu hrow
  obtain ⟨g, rfl, hg0, hg1, hcl⟩ := hcell HL0.out
  have HB3 := hid (HB2.out.trans (hb3.mono (Nat.le_trans (Nat.le_of_eq HS0.out.symm) HB2.out.size)))
  have HFC : Hid (∀ W : World, Below w3.heap.size w3 W → ∀ j, j < L.length → W.cell? ⟨g, j, none⟩ = some (.int .i64 (L.getD j 0))) := hid (fun W hk j hj =>
   (World.cell?_of_block (a := ⟨g, j, none⟩) (hk.block g hg1)).trans (hcl j hj))
  have HL3 : Hid (w.heap.size + 1 ≤ w3.heap.size) := hid (Nat.le_trans (Nat.le_of_eq HS0.out.symm) HB3.out.size)
  clear hrow hb3 hcl hcell hg0 hg1 c0 c1 c2 c3 c4 c5 c6 c7 c8 c9 HIK HF HB1 HB2
  go_wp2_with fail
  go_loopw [4, 17] (fun _ i wr => ∃ j : Nat, i = .int .i64 j ∧ j ≤ L.length ∧ Hid ((L.take j).all (fitB e fn) = true) ∧ Hid (Below w3.heap.size w3 wr)) (fun _ i _ => L.length - (intOf i).toNat)
  case atStart => exact ⟨0, rfl, Nat.zero_le _, hid rfl, hid (Below.refl _ _)⟩
  case round =>
   obtain ⟨j, rfl, hj, HA, HI⟩ := hrel
   rename World => wr
   have HBW := hid (HB3.out.trans (HI.out.mono HL3.out))
   have HBV := hid (HB.out.trans (HBW.out.mono (by omega : w.heap.size ≤ w.heap.size + 1)))
   obtain ⟨c0, c1, c2, c3, c4, c5, c6, c7, c8, c9⟩ := ztd (HC.out _ HBW.out)
   by_cases hlt : j < L.length
   · have hj100 : j ≤ 100 := by have := HL.out; omega
     have hdec : decide (j < L.length) = true := by simpa using hlt
     have hcell := HFC.out wr HI.out j hlt
     have HFJ := hid (HFT.out wr HBV.out j hlt)
     have HA2 := hid (HAT.out j hlt)
     have HA3 := hid (HFA.out j hlt)
     generalize L.getD j 0 = x at *
     generalize fitB e fn x = fb at *
     go_wp2_with fail
     refine HFJ.out.mono ?_
     rintro e4 w4 ⟨rfl, hb4⟩
     have HI4 := hid (HI.out.trans (hb4.mono HI.out.size))
     have HBV4 := hid (HBV.out.trans (hb4.mono HBV.out.size))
     clear hb4 hcell c0 c1 c2 c3 c4 c5 c6 c7 c8 c9
     cases fb with
     | true =>
      go_wp2_with fail
      go_roundw
      case rel => exact ⟨j + 1, by go_num, by omega, hid (by rw [HA2.out, HA.out]; rfl), HI4⟩
      case measure => simp [intOf]; omega
     | false =>
      go_wp2_with fail
      go_ret
      exact ⟨by rw [HML.out, HA3.out trivial]; rfl, HBV4.out⟩
   · have hjl : j = L.length := by omega
     subst hjl
     clear c0 c1 c2 c3 c4 c5 c6 c7 c8 c9
     go_wp2_with fail
     go_ret
     exact ⟨by rw [HML.out, HA.out]; rfl, HBV.out⟩
theorem may_no (w : World) : Calls Tryz.prog 7 #[evV (kindE 0)] w fun r w' => r = .returned (.int .i64 90) ∧ Below w.heap.size w w' := by
 have HIK := hid (ztv (k := 0) (L := []) (fun w => EvN.zud w))
 have HB := hid (alW w (evO (kindE 0)))
 obtain ⟨c0, c1, c2, c3, c4, c5, c6, c7, c8, c9⟩ := ztd (heap_alloc_new w (evO (kindE 0)))
 unfold kindE at *
 go_enter Tryz.func7, Tryz.ntmps7
 go_wp2_with fail
 refine (HIK.out _).mono ?_
 rintro e1 w1 ⟨rfl, hb1⟩
 have HB1 := hid (HB.out.trans (hb1.mono HB.out.size))
 clear hb1 c0 c1 c2 c3 c4 c5 c6 c7 c8 c9
 go_wp2_with fail
 go_ret
 exact ⟨rfl, HB1.out⟩
end EvA
end
section
namespace SumM
theorem take_snoc (s : ByteArray) (k : Nat) (h : k < s.size) : s.data.toList.take (k + 1) = s.data.toList.take k ++ [s[k]] := by
 rw [List.take_succ_eq_append_getElem (by simpa using h)]; rfl
def hexs : List UInt8 := [48, 49, 50, 51, 52, 53, 54, 55, 56, 57, 97, 98, 99, 100, 101, 102]
def hd (d : Nat) : UInt8 := hexs.getD d 0
def digits (n : Nat) : Nat → List UInt8
 | 0 => []
 | k + 1 => hd (n / 16 ^ k % 16) :: digits n k
theorem zwi (n k : Nat) : (digits n k).length = k := by
 induction k with
 | zero => rfl
 | succ k ih => simp [digits, ih]
def byteV (c : UInt8) : Value := .int .u8 (c.toNat : Int)
def arr (n k : Nat) : Array Value := (List.replicate (16 - k) (Value.int .u8 0) ++ (digits n k).map byteV).toArray
theorem set_last (m : Nat) (z v : Value) (l : List Value) : (List.replicate (m + 1) z ++ l).set m v = List.replicate m z ++ v :: l := by
 induction m with
 | zero => simp [List.replicate]
 | succ m ih => rw [List.replicate_succ, List.cons_append, List.set_cons_succ, ih]; simp [List.replicate_succ]
theorem zwj (n k : Nat) : n / 16 ^ k / 16 = n / 16 ^ (k + 1) := by rw [Nat.div_div_eq_div_mul, Nat.pow_succ]
theorem and15 (x : Nat) (h : x ≤ 18446744073709551615) : bits .and .u64 (x : Int) 15 = (x : Int) % 16 :=
 bits_mask .u64 64 (by decide) (fun n h0 h1 => by rw [IntKind.wrap_u64]; omega) 4 (by decide) x (by omega) (by omega)
theorem zwk (c : UInt8) (l : List UInt8) : (⟨#[c]⟩ : ByteArray) ++ ⟨l.toArray⟩ = ⟨(c :: l).toArray⟩ := by
 apply ByteArray.ext
 simp
def dval (c : Int) : Int := if 48 ≤ c ∧ c ≤ 57 then c - 48 else if 97 ≤ c ∧ c ≤ 102 then c - 97 + 10 else -1
def rst (x d : Int) : Int := bits .or .u64 (IntKind.u64.wrap (x * 16)) d
def rd : Int → List UInt8 → Option Int
 | x, [] => some x
 | x, c :: r => if dval c.toNat < 0 then none else rd (rst x (dval c.toNat)) r
def read (l : List UInt8) : Option Int := if l.length = 16 then rd 0 l else none
def readN (l : List UInt8) : Int := (read l).getD 0
def readE (l : List UInt8) : Int := if (read l).isSome then 0 else 10
def readV (l : List UInt8) : Value := .tuple #[.int .u64 (readN l), .int .i64 (readE l)]
theorem read_no (l : List UInt8) (h : rd 0 l = none) : readV l = .tuple #[.int .u64 0, .int .i64 10] := by unfold readV readN readE read; split <;> simp [h]
end SumM
end
section
namespace CodeM
def uintB (x : Nat) : List UInt8 := if h : 127 < x then UInt8.ofNat (x % 128 + 128) :: uintB (x / 128) else [UInt8.ofNat x]
termination_by x
decreasing_by omega
def byteV (c : UInt8) : Value := .int .u8 (c.toNat : Int)
theorem zwl (x : Nat) (h : 127 < x) : uintB x = UInt8.ofNat (x % 128 + 128) :: uintB (x / 128) := by rw [uintB, dif_pos h]
theorem zwm (x : Nat) (h : ¬ 127 < x) : uintB x = [UInt8.ofNat x] := by rw [uintB, dif_neg h]
theorem zwn (n : Nat) (h : n < 256) : byteV (UInt8.ofNat n) = .int .u8 (n : Int) := by
 unfold byteV; rw [UInt8.toNat_ofNat_of_lt' h]
theorem and127 (x : Nat) (h : x ≤ 18446744073709551615) : bits .and .u64 (x : Int) 127 = (x : Int) % 128 :=
 bits_mask .u64 64 (by decide) (fun n h0 h1 => by rw [IntKind.wrap_u64]; omega) 7 (by decide) x (by omega) (by omega)
theorem or128 (y : Int) (h0 : 0 ≤ y) (h1 : y < 128) : bits .or .u8 y 128 = y + 128 := by
 obtain ⟨n, rfl⟩ := Int.eq_ofNat_of_zero_le h0
 have H : ∀ n : Fin 128, bits .or .u8 (n.val : Int) 128 = (n.val : Int) + 128 := by decide +kernel
 exact H ⟨n, by omega⟩
theorem zwo (n x x0 : Nat) (h : x * 128 ^ n ≤ x0) (hx : 1 ≤ x) (h0 : x0 < 18446744073709551616) : n ≤ 9 := by
 apply Classical.byContradiction
 intro hn
 have h1 : 128 ^ 10 ≤ 128 ^ n := Nat.pow_le_pow_right (by decide) (by omega)
 have h2 : 128 ^ n ≤ x * 128 ^ n := Nat.le_mul_of_pos_left _ hx
 have h3 : (128 : Nat) ^ 10 = 1180591620717411303424 := by decide
 omega
theorem zwp (n x x0 : Nat) (h : x * 128 ^ n ≤ x0) : x / 128 * 128 ^ (n + 1) ≤ x0 := by
 have h1 : x / 128 * 128 ^ (n + 1) = x / 128 * 128 * 128 ^ n := by rw [Nat.pow_succ, Nat.mul_assoc, Nat.mul_comm 128]
 have h2 : x / 128 * 128 * 128 ^ n ≤ x * 128 ^ n := Nat.mul_le_mul_right _ (Nat.div_mul_le_self x 128)
 omega
def wordB (x : Nat) : Nat → List UInt8
 | 0 => []
 | k + 1 => UInt8.ofNat (x / 256 ^ k % 256) :: wordB x k
theorem zwq (x k : Nat) : (wordB x k).length = k := by
 induction k with
 | zero => rfl
 | succ k ih => simp [wordB, ih]
def arrW (x k : Nat) : Array Value := (List.replicate (8 - k) (Value.int .u8 0) ++ (wordB x k).map byteV).toArray
theorem zwr (x k : Nat) (h : k ≤ 8) : (arrW x k).size = 8 := by simp [arrW, zwq]; omega
theorem zws (x : Nat) : arrW x 0 = #[.int .u8 0, .int .u8 0, .int .u8 0, .int .u8 0, .int .u8 0, .int .u8 0, .int .u8 0, .int .u8 0] := rfl
theorem set_last (m : Nat) (z v : Value) (l : List Value) : (List.replicate (m + 1) z ++ l).set m v = List.replicate m z ++ v :: l := by
 induction m with
 | zero => simp [List.replicate]
 | succ m ih => rw [List.replicate_succ, List.cons_append, List.set_cons_succ, ih]; simp [List.replicate_succ]
theorem zwt (x k : Nat) (h : k < 8) : (arrW x k).setIfInBounds (7 - k) (.int .u8 ((x / 256 ^ k % 256 : Nat) : Int)) = arrW x (k + 1) := by
 unfold arrW
 rw [show 8 - k = (7 - k) + 1 from by omega, show 8 - (k + 1) = 7 - k from by omega]
 simp only [List.setIfInBounds_toArray, set_last, wordB, List.map_cons]
 rw [zwn _ (Nat.mod_lt _ (by decide))]
theorem zwu (x k : Nat) (h : k < 8) : ∃ v, (arrW x k)[7 - k]? = some v := by
 have := zwr x k (by omega)
 exact ⟨(arrW x k)[7 - k], by simp⟩
theorem zwv (x : Nat) (i : Nat) (h : i < 8) : (arrW x 8)[i]? = some (.int .u8 (((wordB x 8).map fun c => (c.toNat : Int)).getD i 0)) := by
 have hl : i < (wordB x 8).length := by rw [zwq]; exact h
 simp [arrW, List.getElem?_eq_getElem hl, byteV]
def textB (s : List UInt8) : List UInt8 := uintB s.length ++ s
end CodeM
end
end Go.Proofs.YtbiplmbcdhjiaaaGreatDoor
