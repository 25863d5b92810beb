/-
  What the proof of EvBoth stands on, part 36.
-/
import Derived.Test.YtfbegbmjmhnplaaGreatDoorT35
set_option linter.unusedSimpArgs false
set_option linter.unusedVariables false
set_option maxHeartbeats 16000000
namespace Go.Proofs.YtfbegbmjmhnplaaGreatDoor
open Go.Lib (hid)
section
open Go.RowKit Go.Sort
namespace EvL
open StrC EvA EvF EvS EvC CodeM CodeC
open VerC (Vw)
theorem yfy {b : Bool} {l : B} {f : B → Bool} (h : zxg b l (f l) = true) (hf : f l = true → noB l) : noB l := by
 unfold zxg at h
 cases b with
 | true => simp only [if_true, Bool.and_eq_true] at h; exact hf h.2
 | false =>
   simp only [Bool.false_eq_true, if_false, decide_eq_true_eq] at h
   rw [h]
   intro c hc
   cases hc
theorem need_ok {L : List (B × B)} (h : ztk L = true) : ∀ p ∈ L, NameM.isN p.1 = true ∧ ztj p.2 = true := by
 unfold ztk at h
 simp only [Bool.and_eq_true, decide_eq_true_eq, List.all_eq_true] at h
 intro p hp
 obtain ⟨j, hj, e⟩ := List.mem_iff_getElem.1 hp
 have hk := h.2 j (by simpa using hj)
 unfold okN at hk
 have e2 : L.getD j ([], []) = p := by rw [← e]; simp [hj]
 rw [e2] at hk
 simp only [Bool.and_eq_true] at hk
 exact ⟨hk.1, hk.2.1⟩
theorem yfz {w : World} {e : EvG} (hs : EvIn w e) (h : mayD e = true) : FitB e ∧ FitL e ∧ sameE (zst e (zrk e.k)) (kindE e.k) = true ∧ 1 ≤ e.k ∧ e.k ≤ 10 := by
 have hsm := ybn hs h
 have h0 := h
 unfold mayD at h
 simp only [Bool.and_eq_true] at h
 obtain ⟨hk, hw, hn, hv, hh, hr, hl⟩ := h
 have hk := of_decide_eq_true hk
 have hms := zxo e hk
 rw [h0] at hms
 unfold mayL at hms
 have hms2 := hms.symm
 simp only [Bool.and_eq_true] at hms2
 have hnd : ∀ p ∈ e.needs, NameM.isN p.1 = true ∧ ztj p.2 = true := by
  by_cases h2 : e.k = 2
  · unfold zxi at hl
    rw [if_pos h2] at hl
    simp only [Bool.and_eq_true] at hl
    exact need_ok hl.2.2
  · have h78 : nm e.k 78 = false := by
     have : ∀ k, 1 ≤ k → k ≤ 10 → k ≠ 2 → nm k 78 = false := by
      intro k h1 h10 hne
      rcases (by omega : k = 1 ∨ k = 3 ∨ k = 4 ∨ k = 5 ∨ k = 6 ∨ k = 7 ∨ k = 8 ∨ k = 9 ∨ k = 10) with rfl | rfl | rfl | rfl | rfl | rfl | rfl | rfl | rfl <;> rfl
     exact this e.k hk.1 hk.2 h2
    unfold zxh at hr
    rw [h78] at hr
    simp only [Bool.and_eq_true, Bool.false_or, decide_eq_true_eq] at hr
    rw [hr.2.1.2.2]
    intro p hp
    cases hp
 have hno : e.note.length ≤ 256 := by
  by_cases h5 : e.k = 5
  · unfold zxi at hl
    rw [if_neg (by omega), if_pos h5] at hl
    exact of_decide_eq_true hl
  by_cases h9 : e.k = 9 ∨ e.k = 10
  · unfold zxi at hl
    rw [if_neg (by omega), if_neg h5, if_pos h9] at hl
    exact Nat.le_trans (ybk hl) (by decide)
  · have h116 : nm e.k 116 = false := by
     have : ∀ k, 1 ≤ k → k ≤ 10 → k ≠ 5 → ¬ (k = 9 ∨ k = 10) → nm k 116 = false := by
      intro k h1 h10 hne hne2
      rcases (by omega : k = 1 ∨ k = 2 ∨ k = 3 ∨ k = 4 ∨ k = 6 ∨ k = 7 ∨ k = 8) with rfl | rfl | rfl | rfl | rfl | rfl | rfl <;> rfl
     exact this e.k hk.1 hk.2 h5 h9
    unfold zxh at hr
    rw [h116] at hr
    simp only [Bool.and_eq_true, Bool.false_or, decide_eq_true_eq] at hr
    rw [hr.2.2]
    exact Nat.zero_le _
 have h8 : 8 ∈ zrk e.k → okT e.note := by
  intro h8
  have h9 : e.k = 9 ∨ e.k = 10 := by
   have : ∀ k, 1 ≤ k → k ≤ 10 → (8 : Int) ∈ zrk k → k = 9 ∨ k = 10 := by
    intro k h1 h10
    rcases (by omega : k = 1 ∨ k = 2 ∨ k = 3 ∨ k = 4 ∨ k = 5 ∨ k = 6 ∨ k = 7 ∨ k = 8 ∨ k = 9 ∨ k = 10) with rfl | rfl | rfl | rfl | rfl | rfl | rfl | rfl | rfl | rfl <;> decide
   exact this e.k hk.1 hk.2 h8
  unfold zxi at hl
  rw [if_neg (by omega), if_neg (by omega), if_pos h9] at hl
  exact ⟨yeu hl, by omega⟩
 refine ⟨⟨?_, ?_, ?_, ?_, ?_, ⟨hsm.few, fun p hp => ?_⟩, hs.sum, hs.n, hs.size⟩, ⟨⟨yeu hw, ?_⟩, ⟨yfy hn yev, ?_⟩, ⟨yfy hv noB_isT, ?_⟩, ⟨yfy hh yeu, ?_⟩, h8, hno, ⟨hsm.few, fun p hp => ⟨⟨yev (hnd p hp).1, ?_⟩, yfc (hnd p hp).2, ?_⟩⟩, hs.sum, hs.n, hs.size⟩, hms2.1, hk⟩
 · exact Nat.le_trans hsm.who (by decide)
 · exact Nat.le_trans hsm.name (by decide)
 · exact Nat.le_trans hsm.ver (by decide)
 · exact Nat.le_trans hsm.holder (by decide)
 · exact Nat.le_trans hsm.note (by decide)
 · exact ⟨Nat.le_trans (hsm.need p hp).1 (by decide), Nat.le_trans (hsm.need p hp).2 (by decide)⟩
 · exact Nat.le_trans hsm.who (by decide)
 · exact Nat.le_trans hsm.name (by decide)
 · exact Nat.le_trans hsm.ver (by decide)
 · exact Nat.le_trans hsm.holder (by decide)
 · exact Nat.le_trans (hsm.need p hp).1 (by decide)
 · exact Nat.le_trans (hsm.need p hp).2 (by decide)
theorem kw_no (k : Nat) : noB (kw k) := by
 by_cases h : k < 11
 · have : ∀ k, k < 11 → (kw k).all (fun c => decide (c ≠ 32)) = true := by
    intro k h
    rcases (by omega : k = 0 ∨ k = 1 ∨ k = 2 ∨ k = 3 ∨ k = 4 ∨ k = 5 ∨ k = 6 ∨ k = 7 ∨ k = 8 ∨ k = 9 ∨ k = 10) with rfl | rfl | rfl | rfl | rfl | rfl | rfl | rfl | rfl | rfl | rfl <;> decide
   intro c hc
   have := List.all_eq_true.1 (this k h) c hc
   simpa using this
 · have : kw k = [] := by unfold kw; rw [List.getD_eq_getElem?_getD, List.getElem?_eq_none (by show 11 ≤ k; omega)]; rfl
   rw [this]
   intro c hc
   cases hc
theorem yga {k : Nat} (h : 1 ≤ k ∧ k ≤ 10) : zzv (kw k) = k := by
 obtain ⟨h1, h2⟩ := h
 rcases (by omega : k = 1 ∨ k = 2 ∨ k = 3 ∨ k = 4 ∨ k = 5 ∨ k = 6 ∨ k = 7 ∨ k = 8 ∨ k = 9 ∨ k = 10) with rfl | rfl | rfl | rfl | rfl | rfl | rfl | rfl | rfl | rfl <;> decide
theorem ygb {k : Nat} (h : 1 ≤ k ∧ k ≤ 10) : zrk k ≠ [] := by
 obtain ⟨h1, h2⟩ := h
 rcases (by omega : k = 1 ∨ k = 2 ∨ k = 3 ∨ k = 4 ∨ k = 5 ∨ k = 6 ∨ k = 7 ∨ k = 8 ∨ k = 9 ∨ k = 10) with rfl | rfl | rfl | rfl | rfl | rfl | rfl | rfl | rfl | rfl <;> decide
theorem ygc {w : World} {e : EvG} (hs : EvIn w e) (h : mayD e = true) : okS (lineM (kw e.k) e (zrk e.k)) = true ∧ (readF (lineM (kw e.k) e (zrk e.k))).1 = atE e none 0 := by
 obtain ⟨-, hf, hse, hk⟩ := yfz hs h
 obtain ⟨h1, h2⟩ := yfs hf hse hk
 obtain ⟨c1, c2⟩ := cut_rest (kw_no e.k) ((zrk e.k).flatMap (partT e))
 have hl := yfi (kw e.k) e (zrk e.k)
 rw [← hl] at c1 c2
 have hR : readF (lineM (kw e.k) e (zrk e.k)) = foldF lineR (zrk e.k) (restL ((zrk e.k).flatMap (partT e))) (zG e.k) := by
  unfold readF
  rw [c1, c2, yga hk]
 have hm : mayD (atE e none 0) = true := h
 refine ⟨?_, by rw [hR]; exact h1⟩
 unfold okS
 rw [hR, h1, h2, c1, yga hk, hm, decide_eq_true (ygb hk)]
 simp only [decide_true, Bool.true_and, decide_eq_true_eq]
 rfl
theorem ygd {w : World} {a b : EvG} (ha : EvIn w a) (hb : EvIn w b) (h1 : mayD a = true) (h2 : mayD b = true) : decide (znt b (zrk b.k) = znt a (zrk a.k)) = sameE a b := by
 obtain ⟨f1, -, s1, k1⟩ := yfz ha h1
 obtain ⟨f2, -, s2, k2⟩ := yfz hb h2
 have r1 := yfx f1 s1 k1 h1
 have r2 := yfx f2 s2 k2 h2
 rw [Bool.eq_iff_iff, decide_eq_true_eq]
 constructor
 · intro e
   rw [e, r1] at r2
   have e2 := (Prod.mk.inj r2).1
   obtain ⟨ka, wa, na, va, aa, ca, da, ua, xa, za, oa, ta⟩ := a
   obtain ⟨kb, wb, nb, vb, ab, cb, db, ub, xb, zb, ob, tb⟩ := b
   simp only [atE, EvG.mk.injEq] at e2
   simp [sameE, e2]
 · intro e
   obtain ⟨ka, wa, na, va, aa, ca, da, ua, xa, za, oa, ta⟩ := a
   obtain ⟨kb, wb, nb, vb, ab, cb, db, ub, xb, zb, ob, tb⟩ := b
   simp only [sameE, Bool.and_eq_true, decide_eq_true_eq] at e
   obtain ⟨⟨⟨⟨⟨⟨⟨⟨⟨rfl, rfl⟩, rfl⟩, rfl⟩, rfl⟩, rfl⟩, rfl⟩, rfl⟩, rfl⟩, rfl⟩ := e
   rfl
theorem yge {w : World} {e : EvG} (hs : EvIn w e) (h : mayD e = true) : (lineM (kw e.k) e (zrk e.k)).length ≤ 140737488351232 ∧ (znt e (zrk e.k)).length ≤ 140737488351232 := by
 have hsm := ybn hs h
 have hk := (yfz hs h).2.2.2
 have hl : (zrk e.k).length ≤ 7 := zyz e.k
 have h1 := ybr (tx := id) (sx := (swapB 32 95)) (ox := noteT) (ux := (fun n => SumM.digits n 16)) (nx := Lib.decDigits) hsm (fun s h => ⟨Nat.le_trans h (by decide), by rw [zod]; omega, by unfold noteT; split; (simp); (rw [zoa]; omega)⟩) (fun n h => ⟨by rw [SumM.zmf]; decide, Nat.le_trans (dec20 n h) (by decide)⟩) (zrk e.k)
 have h2 := ybr (tx := CodeM.textB) (sx := CodeM.textB) (ox := CodeM.textB) (ux := (fun n => wordB n 8)) (nx := uintB) hsm (fun s h => ⟨Nat.le_trans (ztq s h) (by decide), Nat.le_trans (ztq s h) (by decide), Nat.le_trans (ztq s h) (by decide)⟩) (fun n h => ⟨by rw [zml]; decide, Nat.le_trans (CodeC.zqi n h) (by decide)⟩) (zrk e.k)
 constructor
 · have h3 := ybp (c := 2010) (x := kw e.k) (r := (zrk e.k).flatMap (partT e)) (sep := [32]) (by decide) (fun y hy => by
    rcases List.mem_cons.1 hy with rfl | hy
    · exact Nat.le_trans (zze _) (by decide)
    · exact h1.2 y hy)
   have h5 : ((zrk e.k).flatMap (partT e)).length ≤ 200 * (zrk e.k).length := h1.1
   rw [znw] at h3
   have h6 : (2010 + 1) * (((zrk e.k).flatMap (partT e)).length + 1) ≤ 2011 * 1401 := Nat.mul_le_mul_left _ (by omega)
   omega
 · have h3 := ybp (c := 2010) (x := [UInt8.ofNat e.k]) (r := (zrk e.k).flatMap (partB e)) (sep := []) (by decide) (fun y hy => by
    rcases List.mem_cons.1 hy with rfl | hy
    · simp
    · exact h2.2 y hy)
   have h5 : ((zrk e.k).flatMap (partB e)).length ≤ 200 * (zrk e.k).length := h2.1
   rw [znv] at h3
   have h6 : (2010 + 1) * (((zrk e.k).flatMap (partB e)).length + 1) ≤ 2011 * 1401 := Nat.mul_le_mul_left _ (by omega)
   omega
theorem two_ev (w : World) (a b : EvG) : ((w.alloc (evO a)).alloc (evO b)).heap[w.heap.size]? = some (evO a) ∧ ((w.alloc (evO a)).alloc (evO b)).heap[w.heap.size + 1]? = some (evO b) ∧ Below w.heap.size w ((w.alloc (evO a)).alloc (evO b)) := by
 obtain ⟨h0, h1, h2, -⟩ := EvN.ycg w (evO a) (evO b)
 exact ⟨h0, h1, h2⟩
theorem ygf (g : EvG) (a : Option Addr) (c : Nat) : sameE (atE g a c) g = true := by simp [sameE, atE]
set_option maxRecDepth 100000 in
theorem back_law (a b : EvG) (w : World) (ha : EvIn w a) (hb : EvIn w b) (hv : WoV w) : Calls Tryz.prog 4 #[evV a, evV b] w fun r w' => r = .returned (.bool true) ∧ Below w.heap.size w w' := by
 obtain ⟨h0, h1, hb1⟩ := two_ev w a b
 have HA0 := hid h0
 have HA1 := hid h1
 have HB1 := hid hb1
 have HV : Hid (∀ W, Below w.heap.size w W → WoV W) := hid (fun W h => hv.gr h)
 have HIA : Hid (∀ W, Below w.heap.size w W → EvIn W a) := hid (fun W h => ha.gr h)
 have HIB : Hid (∀ W, Below w.heap.size w W → EvIn W b) := hid (fun W h => hb.gr h)
 have HAL : Hid (∀ W, Below w.heap.size w W → Calls Tryz.prog 9 #[] W fun r w' => r = .returned (.bool true) ∧ Below W.heap.size W w') := hid (fun W hb => EvR.yei W (hv.vw.gr hb) ((hv.gr hb).words 3 (by decide)))
 have HBA := hid (ybt a ((w.alloc (evO a)).alloc (evO b)) (ha.gr hb1) (hv.vw.gr hb1))
 clear hb1 h1 hv ha hb
 cases hm : mayD a with
 | false =>
   rw [hm] at HBA
   have hc : mayC false = 90 := rfl
   rw [hc] at HBA
   simp only [Bool.false_eq_true, if_false] at HBA
   have HM := hid hm
   clear hm hc
   go_enter Tryz.func4, Tryz.ntmps4
   go_wp2_with (first | (refine wpList_load_row rfl 27 _ rfl w.heap.size rfl _ _ _ _ h0 Tryz.underlying27 rfl zpa ?_; clear h0) | fail)
   refine HBA.out.mono ?_
   rintro r w2 ⟨rfl, hb2⟩
   have HB2 := hid (HB1.out.trans (hb2.mono HB1.out.size))
   have h0 := (hb2.block _ (zpf HA0.out)).trans HA0.out
   have HMY : Hid (Calls Tryz.prog 11 #[evV a] w2 fun r w' => r = .returned (.int .i64 90) ∧ Below w2.heap.size w2 w') := hid (by
    have h := pmay_any a w2 (HIA.out _ HB2.out) (HV.out _ HB2.out).vw
    rw [HM.out] at h
    exact h)
   clear hb2
   go_wp2_with (first | (refine wpList_load_row rfl 27 _ rfl w.heap.size rfl _ _ _ _ h0 Tryz.underlying27 rfl zpa ?_; clear h0) | fail)
   refine HMY.out.mono ?_
   rintro r w3 ⟨rfl, hb3⟩
   have HB3 := hid (HB2.out.trans (hb3.mono HB2.out.size))
   have HAL3 := hid (HAL.out _ HB3.out)
   clear hb3
   go_wp2_with fail
   refine HAL3.out.mono ?_
   rintro r w4 ⟨rfl, hb4⟩
   have HB4 := hid (HB3.out.trans (hb4.mono HB3.out.size))
   clear hb4
   go_wp2_with fail
   go_ret
   exact ⟨rfl, HB4.out⟩
 | true =>
   rw [hm] at HBA
   have hc : mayC true = 0 := rfl
   rw [hc, if_pos rfl] at HBA
   have HM := hid hm
   obtain ⟨SB, hSB⟩ : ∃ SB, znt a (zrk a.k) = SB := ⟨_, rfl⟩
   obtain ⟨TL, hTL⟩ : ∃ TL, lineM (kw a.k) a (zrk a.k) = TL := ⟨_, rfl⟩
   rw [hSB] at HBA
   have HSB := hid hSB
   have HTL := hid hTL
   clear hm hc hSB hTL
   go_enter Tryz.func4, Tryz.ntmps4
   go_wp2_with (first | (refine wpList_load_row rfl 27 _ rfl w.heap.size rfl _ _ _ _ h0 Tryz.underlying27 rfl zpa ?_; clear h0) | fail)
   refine HBA.out.mono ?_
   rintro r w2 ⟨rfl, hb2⟩
   have HB2 := hid (HB1.out.trans (hb2.mono HB1.out.size))
   have HA2 := hid ((hb2.block _ (zpf HA0.out)).trans HA0.out)
   have HA2' := hid ((hb2.block _ (zpf HA1.out)).trans HA1.out)
   have hsbl : SB.length ≤ 4611686018427387904 := by rw [← HSB.out]; exact Nat.le_trans (yge (HIA.out _ HB2.out) HM.out).2 (by decide)
   have htll : TL.length ≤ 140737488351232 := by rw [← HTL.out]; exact (yge (HIA.out _ HB2.out) HM.out).1
   have HRD : Hid (Calls Tryz.prog 12 #[.string (str SB)] w2 fun r w' => (∃ p q, r = .returned (.tuple #[evV (atE a p q), .nilIface]) ∧ NeIn w' p q a.needs) ∧ Below w2.heap.size w2 w') := hid (by
    obtain ⟨f1, -, s1, k1⟩ := yfz (HIA.out _ HB2.out) HM.out
    have hD := yfx f1 s1 k1 HM.out
    rw [HSB.out] at hD
    refine (pread_any (str SB) w2 (by rw [zbm]; exact hsbl) (HV.out _ HB2.out).vw).mono ?_
    rintro r w' ⟨hb, ⟨h1, p, q, rfl, h3⟩ | ⟨h1, -⟩ | ⟨h1, -⟩⟩
    · rw [hD] at h3
      exact ⟨⟨p, q, by rw [hD]; rfl, h3⟩, hb⟩
    · rw [hD] at h1; cases h1
    · rw [hD] at h1; cases h1)
   clear hb2 hsbl
   go_wp2_with fail
   refine HRD.out.mono ?_
   rintro r w3 ⟨⟨p, q, rfl, hne3⟩, hb3⟩
   have hz4 := heap_alloc_new w3 zE0
   have hb4 : Below w3.heap.size w3 ((w3.alloc zE0).setRow w3.heap.size (evL (atE a p q)).toArray) := below_setRow (alW w3 zE0) (Nat.le_refl _) _
   have hx4 : ((w3.alloc zE0).setRow w3.heap.size (evL (atE a p q)).toArray).heap[w3.heap.size]? = some (evO (atE a p q)) := setRow_heap _ _ _ _ _ _ hz4
   have HB3 := hid (HB2.out.trans (hb3.mono HB2.out.size))
   have HB4 := hid (HB3.out.trans (hb4.mono HB3.out.size))
   have HX4 := hid hx4
   have HA4 := hid ((hb4.block _ (zpf ((hb3.block _ (zpf HA2.out)).trans HA2.out))).trans ((hb3.block _ (zpf HA2.out)).trans HA2.out))
   have HA4' := hid ((hb4.block _ (zpf ((hb3.block _ (zpf HA2'.out)).trans HA2'.out))).trans ((hb3.block _ (zpf HA2'.out)).trans HA2'.out))
   have HNE4 := hid (hne3.gr hb4)
   have HTX := hid (yem (HIA.out _ HB4.out) (HV.out _ HB4.out) HM.out HTL.out)
   clear hb3 hb4 hx4 hne3
   go_wp2_with (first | (refine wpList_store_row rfl 27 _ _ rfl w3.heap.size (evL (atE a p q)).toArray rfl rfl _ _ hz4 zpa rfl (zpb _) ?_; have h0 := HA4.out; clear hz4) | (refine wpList_load_row rfl 27 _ rfl w.heap.size rfl _ _ _ _ h0 Tryz.underlying27 rfl zpa ?_; clear h0) | fail)
   refine HTX.out.mono ?_
   generalize (w3.alloc zE0).setRow w3.heap.size (evL (atE a p q)).toArray = w4 at *
   rintro r w5 ⟨rfl, hb5⟩
   have HB5 := hid (HB4.out.trans (hb5.mono HB4.out.size))
   have HX5 := hid ((hb5.block _ (zpf HX4.out)).trans HX4.out)
   have HA5 := hid ((hb5.block _ (zpf HA4.out)).trans HA4.out)
   have HA5' := hid ((hb5.block _ (zpf HA4'.out)).trans HA4'.out)
   have HNE5 := hid (HNE4.out.gr hb5)
   have HRT : Hid (Calls Tryz.prog 6 #[.string (str TL)] w5 fun r w' => (∃ p q, r = .returned (.tuple #[evV (atE a p q), .int .i64 0]) ∧ NeIn w' p q a.needs) ∧ Below w5.heap.size w5 w') := hid (by
    obtain ⟨k1, k2⟩ := ygc (HIA.out _ HB5.out) HM.out
    rw [HTL.out] at k1 k2
    refine (ycl TL w5 htll (HV.out _ HB5.out).vw (HV.out _ HB5.out).words).mono ?_
    rintro r w' ⟨hb, ⟨-, -, p, q, rfl, h3⟩ | ⟨h1, -⟩⟩
    · rw [k2] at h3
      exact ⟨⟨p, q, by rw [k2]; rfl, h3⟩, hb⟩
    · rw [k1] at h1; cases h1)
   clear hb5 htll
   go_wp2_with fail
   refine HRT.out.mono ?_
   rintro r w6 ⟨⟨p2, q2, rfl, hne6⟩, hb6⟩
   have hz7 := heap_alloc_new w6 zE0
   have hb7 : Below w6.heap.size w6 ((w6.alloc zE0).setRow w6.heap.size (evL (atE a p2 q2)).toArray) := below_setRow (alW w6 zE0) (Nat.le_refl _) _
   have hx7 : ((w6.alloc zE0).setRow w6.heap.size (evL (atE a p2 q2)).toArray).heap[w6.heap.size]? = some (evO (atE a p2 q2)) := setRow_heap _ _ _ _ _ _ hz7
   obtain ⟨w7, e7⟩ : ∃ W, (w6.alloc zE0).setRow w6.heap.size (evL (atE a p2 q2)).toArray = W := ⟨_, rfl⟩
   rw [e7] at hb7 hx7
   have HE7 := hid e7
   have hb57 : Below w5.heap.size w5 w7 := hb6.trans (hb7.mono hb6.size)
   have HB7 := hid (HB5.out.trans (hb57.mono HB5.out.size))
   have HXC : Hid (∀ W, Below w7.heap.size w7 W → W.heap[w3.heap.size]? = some (evO (atE a p q)) ∧ W.heap[w6.heap.size]? = some (evO (atE a p2 q2)) ∧ W.heap[w.heap.size]? = some (evO a) ∧ W.heap[w.heap.size + 1]? = some (evO b)) := hid (by
    have k1 := (hb57.block _ (zpf HX5.out)).trans HX5.out
    have k2 := (hb57.block _ (zpf HA5.out)).trans HA5.out
    have k3 := (hb57.block _ (zpf HA5'.out)).trans HA5'.out
    exact fun W hb => ⟨(hb.block _ (zpf k1)).trans k1, (hb.block _ (zpf hx7)).trans hx7, (hb.block _ (zpf k2)).trans k2, (hb.block _ (zpf k3)).trans k3⟩)
   have HNE7 := hid (HNE5.out.gr hb57)
   have HNF7 := hid (hne6.gr hb7)
   have HS1 : Hid (Calls Tryz.prog 14 #[evV (atE a p q), evV a] w7 fun r w' => r = .returned (.bool true) ∧ Below w7.heap.size w7 w') := hid (by
    have h := zow (atE a p q) a _ HNE7.out (HIA.out _ HB7.out).needs
    rwa [ygf] at h)
   have HS2 : Hid (∀ W, Below w7.heap.size w7 W → Calls Tryz.prog 14 #[evV (atE a p2 q2), evV a] W fun r w' => r = .returned (.bool true) ∧ Below W.heap.size W w') := hid (fun W hb => by
    have h := zow (atE a p2 q2) a W (HNF7.out.gr hb) (HIA.out _ (HB7.out.trans (hb.mono HB7.out.size))).needs
    rwa [ygf] at h)
   clear hb6 hb7 hx7 hb57 hne6 e7
   obtain ⟨hx, -, h0, -⟩ := HXC.out _ (Below.refl _ _)
   obtain ⟨x0, x1, x2, x3, x4, x5, x6, x7, x8, x9⟩ := zos hx
   obtain ⟨y0, y1, y2, y3, y4, y5, y6, y7, y8, y9⟩ := zos h0
   clear hx h0
   go_wp2_with (first | (refine wpList_store_row rfl 27 _ _ rfl w6.heap.size (evL (atE a p2 q2)).toArray rfl rfl _ _ hz7 zpa rfl (zpb _) ?_; change wpList _ _ _ _ _ ((w6.alloc zE0).setRow w6.heap.size (evL (atE a p2 q2)).toArray); rw [HE7.out]; clear hz7 HE7) | fail)
   refine HS1.out.mono ?_
   rintro r w8 ⟨rfl, hb8⟩
   have HB8 := hid hb8
   have HS2' := hid (HS2.out w8 hb8)
   obtain ⟨-, hx, h0, -⟩ := HXC.out _ hb8
   clear hb8 x0 x1 x2 x3 x4 x5 x6 x7 x8 x9 y0 y1 y2 y3 y4 y5 y6 y7 y8 y9
   obtain ⟨x0, x1, x2, x3, x4, x5, x6, x7, x8, x9⟩ := zos hx
   obtain ⟨y0, y1, y2, y3, y4, y5, y6, y7, y8, y9⟩ := zos h0
   clear hx h0
   go_wp2_with fail
   refine HS2'.out.mono ?_
   rintro r w9 ⟨rfl, hb9⟩
   have hb79 := HB8.out.trans (hb9.mono HB8.out.size)
   have HB79 := hid hb79
   have HB9 := hid (HB7.out.trans (hb79.mono HB7.out.size))
   obtain ⟨-, -, h0, h1⟩ := HXC.out _ hb79
   have HBB := hid (ybt b w9 (HIB.out _ HB9.out) (HV.out _ HB9.out).vw)
   obtain ⟨UB, hUB⟩ : ∃ UB, (if mayD b then znt b (zrk b.k) else []) = UB := ⟨_, rfl⟩
   obtain ⟨c9, hc9⟩ : ∃ c9, mayC (mayD b) = c9 := ⟨_, rfl⟩
   rw [hUB, hc9] at HBB
   have HUB := hid hUB
   have HC9 := hid hc9
   clear hb9 hb79 h0 hUB hc9 x0 x1 x2 x3 x4 x5 x6 x7 x8 x9 y0 y1 y2 y3 y4 y5 y6 y7 y8 y9
   go_wp2_with (first | (refine wpList_load_row rfl 27 _ rfl (w.heap.size + 1) rfl _ _ _ _ h1 Tryz.underlying27 rfl zpa ?_; clear h1) | fail)
   refine HBB.out.mono ?_
   rintro r w10 ⟨rfl, hb10⟩
   have hb710 := HB79.out.trans (hb10.mono HB79.out.size)
   have HB10 := hid (HB7.out.trans (hb710.mono HB7.out.size))
   have HAL10 := hid (HAL.out _ HB10.out)
   obtain ⟨-, -, h0, h1⟩ := HXC.out _ hb710
   clear hb10 hb710
   cases hmb : mayD b with
   | false =>
     obtain rfl : c9 = 90 := by rw [← HC9.out, hmb]; rfl
     clear h0 h1 hmb
     go_wp2_with fail
     refine HAL10.out.mono ?_
     rintro r w11 ⟨rfl, hb11⟩
     have HB11 := hid (HB10.out.trans (hb11.mono HB10.out.size))
     clear hb11
     go_wp2_with fail
     go_ret
     exact ⟨rfl, HB11.out⟩
   | true =>
     obtain rfl : c9 = 0 := by rw [← HC9.out, hmb]; rfl
     have HSS : Hid (Calls Tryz.prog 14 #[evV a, evV b] w10 fun r w' => r = .returned (.bool (decide (UB = SB))) ∧ Below w10.heap.size w10 w') := hid (by
      have h := zow a b w10 (HIA.out _ HB10.out).needs (HIB.out _ HB10.out).needs
      rwa [← ygd (HIA.out _ HB10.out) (HIB.out _ HB10.out) HM.out hmb, HSB.out, show znt b (zrk b.k) = UB by rw [← HUB.out, hmb]; rfl] at h)
     have k1 : ((str UB).toList == (str SB).toList) = decide (UB = SB) := zbr _ _
     have k2 : (UB == SB) = decide (UB = SB) := by rw [Bool.eq_iff_iff]; simp
     obtain ⟨x0, x1, x2, x3, x4, x5, x6, x7, x8, x9⟩ := zos h0
     obtain ⟨y0, y1, y2, y3, y4, y5, y6, y7, y8, y9⟩ := zos h1
     generalize decide (UB = SB) = dd at *
     clear h0 h1 hmb
     go_wp2_with fail
     refine HSS.out.mono ?_
     rintro r w11 ⟨rfl, hb11⟩
     have HB11 := hid (HB10.out.trans (hb11.mono HB10.out.size))
     have HAL11 := hid (HAL.out _ HB11.out)
     clear hb11 x0 x1 x2 x3 x4 x5 x6 x7 x8 x9 y0 y1 y2 y3 y4 y5 y6 y7 y8 y9
     cases dd with
     | false =>
       go_wp2_with fail
       refine HAL11.out.mono ?_
       rintro r w12 ⟨rfl, hb12⟩
       have HB12 := hid (HB11.out.trans (hb12.mono HB11.out.size))
       clear hb12
       go_wp2_with fail
       go_ret
       exact ⟨rfl, HB12.out⟩
     | true =>
       go_wp2_with fail
       refine HAL11.out.mono ?_
       rintro r w12 ⟨rfl, hb12⟩
       have HB12 := hid (HB11.out.trans (hb12.mono HB11.out.size))
       clear hb12
       go_wp2_with fail
       go_ret
       exact ⟨rfl, HB12.out⟩
end EvL
end
end Go.Proofs.YtfbegbmjmhnplaaGreatDoor
