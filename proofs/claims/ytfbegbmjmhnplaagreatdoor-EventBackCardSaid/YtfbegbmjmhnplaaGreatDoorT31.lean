/-
  What the proof of EvBoth stands on, part 31.
-/
import Derived.Test.YtfbegbmjmhnplaaGreatDoorT30
set_option linter.unusedSimpArgs false
set_option linter.unusedVariables false
set_option maxHeartbeats 16000000
namespace Go.Proofs.YtfbegbmjmhnplaaGreatDoor
open Go.Lib (hid)
section
open Go.RowKit Go.Sort
namespace EvA
open StrC EvF EvC TextR CodeM CodeC
open VerC (Vw)
theorem ybk {l : B} (h : NameM.holder l = true) : l.length ≤ 64 := by
 unfold NameM.holder at h
 simp only [Bool.and_eq_true, decide_eq_true_eq] at h
 exact h.1.1.2
theorem ybl {l : B} (h : NameM.isN l = true) : l.length ≤ 64 := by
 unfold NameM.isN at h
 simp only [Bool.and_eq_true] at h
 exact (NameM.znn.1 h.1).2.1
theorem isT_le {l : B} (h : VerM.isT l = true) : l.length ≤ 128 := by
 unfold VerM.isT VerM.readB at h
 by_cases hl : l.length ≤ 128
 · exact hl
 · rw [if_neg hl] at h; cases h
theorem span_le {l : B} (h : ztj l = true) : l.length ≤ 128 := by
 unfold ztj at h
 have h2 := of_decide_eq_true h
 unfold SpanC.formO SpanC.readO at h2
 by_cases hl : l.length ≤ 128
 · exact hl
 · rw [if_neg hl] at h2; cases h2
theorem ybm {b : Bool} {l : B} {f : B → Bool} {n : Nat} (h : zxg b l (f l) = true) (hf : f l = true → l.length ≤ n) : l.length ≤ n := by
 unfold zxg at h
 cases b with
 | true => simp only [if_true, Bool.and_eq_true] at h; exact hf h.2
 | false =>
   simp only [Bool.false_eq_true, if_false, decide_eq_true_eq] at h
   rw [h]
   exact Nat.zero_le _
theorem need_le {L : List (B × B)} (h : ztk L = true) : L.length ≤ 64 ∧ ∀ p ∈ L, p.1.length ≤ 64 ∧ p.2.length ≤ 128 := by
 unfold ztk at h
 simp only [Bool.and_eq_true, decide_eq_true_eq, List.all_eq_true] at h
 refine ⟨h.1, fun p hp => ?_⟩
 obtain ⟨j, hj, e⟩ := List.mem_iff_getElem.1 hp
 have hk := h.2 j (by simpa using hj)
 unfold okN at hk
 have e2 : L.getD j ([], []) = p := by rw [← e]; simp [hj]
 rw [e2] at hk
 simp only [Bool.and_eq_true] at hk
 exact ⟨ybl hk.1, span_le hk.2.1⟩
theorem ybn {w : World} {e : EvG} (hs : EvIn w e) (h : mayD e = true) : EvSm e := by
 unfold mayD at h
 simp only [Bool.and_eq_true] at h
 obtain ⟨hk, hw, hn, hv, hh, hr, hl⟩ := h
 have hk := of_decide_eq_true hk
 have hneed : e.needs.length ≤ 64 ∧ ∀ p ∈ e.needs, p.1.length ≤ 64 ∧ p.2.length ≤ 128 := by
  by_cases h2 : e.k = 2
  · unfold zxi at hl
    rw [if_pos h2] at hl
    simp only [Bool.and_eq_true] at hl
    exact need_le hl.2.2
  · have h78 : nm e.k 78 = false := by
     have : ∀ k, 1 ≤ k → k ≤ 10 → k ≠ 2 → nm k 78 = false := by
      intro k h1 h10 hne
      rcases (by omega : k = 1 ∨ k = 3 ∨ k = 4 ∨ k = 5 ∨ k = 6 ∨ k = 7 ∨ k = 8 ∨ k = 9 ∨ k = 10) with rfl | rfl | rfl | rfl | rfl | rfl | rfl | rfl | rfl <;> rfl
     exact this e.k hk.1 hk.2 h2
    unfold zxh at hr
    rw [h78] at hr
    simp only [Bool.and_eq_true, Bool.false_or, decide_eq_true_eq] at hr
    rw [hr.2.1.2.2]
    exact ⟨by decide, fun p hp => by cases hp⟩
 have hnote : e.note.length ≤ 256 := by
  by_cases h116 : nm e.k 116 = true
  · unfold zxi at hl
    by_cases h2 : e.k = 2
    · rw [h2] at h116; cases h116
    rw [if_neg h2] at hl
    by_cases h5 : e.k = 5
    · rw [if_pos h5] at hl; exact of_decide_eq_true hl
    · rw [if_neg h5] at hl
      by_cases h9 : e.k = 9 ∨ e.k = 10
      · rw [if_pos h9] at hl; exact Nat.le_trans (ybk hl) (by decide)
      · exfalso
        have : ∀ k, 1 ≤ k → k ≤ 10 → k ≠ 5 → ¬ (k = 9 ∨ k = 10) → nm k 116 = false := by
         intro k h1 h10 hne hne2
         rcases (by omega : k = 1 ∨ k = 2 ∨ k = 3 ∨ k = 4 ∨ k = 6 ∨ k = 7 ∨ k = 8) with rfl | rfl | rfl | rfl | rfl | rfl | rfl <;> rfl
        rw [this e.k hk.1 hk.2 h5 h9] at h116
        cases h116
  · unfold zxh at hr
    rw [Bool.not_eq_true] at h116
    rw [h116] at hr
    simp only [Bool.and_eq_true, Bool.false_or, decide_eq_true_eq] at hr
    rw [hr.2.2]
    exact Nat.zero_le _
 exact ⟨Nat.le_trans (ybk hw) (by decide), Nat.le_trans (ybm hn ybl) (by decide), Nat.le_trans (ybm hv isT_le) (by decide), Nat.le_trans (ybm hh ybk) (by decide), Nat.le_trans hnote (by decide), hneed.1,
  fun p hp => ⟨Nat.le_trans (hneed.2 p hp).1 (by decide), Nat.le_trans (hneed.2 p hp).2 (by decide)⟩, by have := hs.sum; omega, by have := hs.n; omega, by have := hs.size; omega⟩
theorem ybo {c : Nat} : ∀ {L : List B}, (∀ x ∈ L, x.length ≤ c) → Lib.lens L ≤ c * L.length
 | [], _ => by simp [Lib.lens]
 | x :: r, h => by
   have ih := ybo (L := r) (fun y hy => h y (List.mem_cons_of_mem _ hy))
   have hx := h x List.mem_cons_self
   simp only [Lib.lens, List.map_cons, List.sum_cons, List.length_cons] at ih ⊢
   rw [Nat.mul_succ]
   omega
theorem ybp {c : Nat} {x : B} {r : List B} {sep : B} (hs : sep.length ≤ 1) (h : ∀ y ∈ x :: r, y.length ≤ c) : (Lib.join (x :: r) sep).length ≤ (c + 1) * (r.length + 1) := by
 rw [Lib.join_length]
 have h1 := ybo h
 have h2 : sep.length * r.length ≤ 1 * r.length := Nat.mul_le_mul_right _ hs
 rw [List.length_cons] at h1
 rw [Nat.succ_mul]
 omega
theorem ybq {w : World} {D : Nat} {v : Value} {L : List ByteArray} (h : TextR.OwnT w D v L) (h0 : 0 < L.length) (sep : ByteArray) (hl : L.length ≤ 3000) (hj : (Lib.join (L.map (·.data.toList)) sep.data.toList).length ≤ 10000000) :
 Calls Tryz.prog 27 #[v, .string sep] w fun e w' => e = .returned (.string ⟨(Lib.join (L.map (·.data.toList)) sep.data.toList).toArray⟩) ∧ Below w.heap.size w w' := by
 have h1 : w.ownsRow D 9 1 v L.length (L.map Value.string) := h
 rcases h.2 with ⟨hnil, hz⟩ | ⟨g, cp, cur, rfl, hbase, hblk, hcp, _⟩
 · omega
 · exact Tryz.strings_Join g 0 cp L sep w (fun j x hx => by
    have hjl : j < L.length := (List.getElem?_eq_some_iff.1 hx).1
    rw [Nat.zero_add, h1.cellAt j (by omega)]
    simp [hx]) (Array.getElem?_eq_some_iff.1 hblk).1 (by omega) hcp (by omega)
theorem map_str (L : List B) : (L.map str).map (·.data.toList) = L := by
 rw [List.map_map]
 conv => rhs; rw [← List.map_id L]
 rfl
section
variable {tx sx ox : B → B} {ux nx : Nat → B}
theorem part_le {e : EvG} (hs : EvSm e) (ht : ∀ s : B, s.length ≤ 1000 → (tx s).length ≤ 2010 ∧ (sx s).length ≤ 2010 ∧ (ox s).length ≤ 2010) (hu : ∀ n, n < 18446744073709551616 → (ux n).length ≤ 2010 ∧ (nx n).length ≤ 2010) (x : Int) :
 (partG tx sx ox ux nx e x).length ≤ 200 ∧ ∀ y ∈ partG tx sx ox ux nx e x, y.length ≤ 2010 := by
 have one : ∀ z : B, z.length ≤ 2010 → ([z] : List B).length ≤ 200 ∧ ∀ y ∈ [z], y.length ≤ 2010 := fun z hz => ⟨by simp, fun y hy => by rw [List.mem_singleton.1 hy]; exact hz⟩
 unfold partG
 (repeat' split)
 · exact one _ (ht _ hs.who).1
 · exact one _ (ht _ hs.name).1
 · exact one _ (ht _ hs.ver).1
 · refine ⟨by rw [List.length_cons, zte]; have := hs.few; omega, fun y hy => ?_⟩
   rcases List.mem_cons.1 hy with rfl | hy
   · exact (hu _ (by have := hs.few; omega)).2
   · obtain ⟨p, hp, hy⟩ := List.mem_flatMap.1 hy
     obtain ⟨h1, h2⟩ := hs.need p hp
     simp only [List.mem_cons, List.not_mem_nil, or_false] at hy
     rcases hy with rfl | rfl
     · exact (ht _ h1).1
     · exact (ht _ h2).2.1
 · exact one _ (hu _ hs.sum).1
 · exact one _ (hu _ (by have := hs.n; omega)).2
 · exact one _ (hu _ (by have := hs.size; omega)).2
 · exact one _ (ht _ hs.holder).1
 · exact one _ (ht _ hs.note).1
 · exact one _ (ht _ hs.note).2.2
theorem ybr {e : EvG} (hs : EvSm e) (ht : ∀ s : B, s.length ≤ 1000 → (tx s).length ≤ 2010 ∧ (sx s).length ≤ 2010 ∧ (ox s).length ≤ 2010) (hu : ∀ n, n < 18446744073709551616 → (ux n).length ≤ 2010 ∧ (nx n).length ≤ 2010) (L : List Int) :
 (L.flatMap (partG tx sx ox ux nx e)).length ≤ 200 * L.length ∧ ∀ y ∈ L.flatMap (partG tx sx ox ux nx e), y.length ≤ 2010 := by
 induction L with
 | nil => exact ⟨by simp, fun y hy => by simp at hy⟩
 | cons x r ih =>
   have hx := part_le hs ht hu x
   rw [List.flatMap_cons]
   refine ⟨by rw [List.length_append, List.length_cons]; have := ih.1; have := hx.1; omega, fun y hy => ?_⟩
   rcases List.mem_append.1 hy with hy | hy
   · exact hx.2 y hy
   · exact ih.2 y hy
end
theorem ybs {w : World} {D : Nat} {v : Value} {P : List ByteArray} {c : B} {R : List B} {sep : B} (h : TextR.OwnT w D v P) (hP : P = (c :: R).map str) (hc : c.length ≤ 2010) (hR : R.length ≤ 2000 ∧ ∀ y ∈ R, y.length ≤ 2010) (hs : sep.length ≤ 1) :
 Calls Tryz.prog 27 #[v, .string (str sep)] w fun e w' => e = .returned (.string (str (Lib.join (c :: R) sep))) ∧ Below w.heap.size w w' := by
 have hl : P.length = R.length + 1 := by rw [hP]; simp
 have hm : P.map (·.data.toList) = c :: R := by rw [hP]; exact map_str _
 have hj : (Lib.join (P.map (·.data.toList)) (str sep).data.toList).length ≤ 10000000 := by
  rw [hm, zbn]
  have := ybp (c := 2010) (x := c) (r := R) (sep := sep) hs (fun y hy => by
   rcases List.mem_cons.1 hy with rfl | hy
   · exact hc
   · exact hR.2 y hy)
  have := hR.1
  omega
 have h2 := ybq h (by omega) (str sep) (by omega) hj
 rw [hm, zbn] at h2
 exact h2
set_option maxRecDepth 100000 in
theorem ybt (e : EvG) (w : World) (hs : EvIn w e) (hv : Vw w) : Calls Tryz.prog 10 #[evV e] w fun r w' => r = .returned (.tuple #[.string (str (if mayD e then znt e (zrk e.k) else [])), .int .i64 (mayC (mayD e))]) ∧ Below w.heap.size w w' := by
 have hB0 := alW w (evO e)
 have hr := heap_alloc_new w (evO e)
 have HR2 : Hid (∀ W, Below (w.alloc (evO e)).heap.size (w.alloc (evO e)) W → W.heap[w.heap.size]? = some (evO e)) := hid (fun W h => (h.block _ (by simp)).trans hr)
 have HM := hid (pmay_any e _ (hs.gr hB0) (hv.gr hB0))
 have HB := hid hB0
 have HUP : Hid (∀ W, Below (w.alloc (evO e)).heap.size (w.alloc (evO e)) W → Below w.heap.size w W) := hid (fun W h => HB.out.trans (h.mono HB.out.size))
 obtain ⟨c0, c1, c2, c3, c4, c5, c6, c7, c8, c9⟩ := zos (HR2.out _ (Below.refl _ _))
 rcases (Bool.eq_false_or_eq_true (mayD e)).symm with hm | hm
 · rw [hm] at HM ⊢
   simp only [Bool.false_eq_true, if_false]
   have HMC : Hid (mayC false = 90) := hid rfl
   have hmc : mayC false = 90 := rfl
   rw [hmc] at HM ⊢
   clear hm hr hB0 hs hv hmc
   go_enter Tryz.func10, Tryz.ntmps10
   go_wp2_with fail
   refine HM.out.mono ?_
   rintro r w1 ⟨rfl, hb1⟩
   have HB1 := hid (HUP.out _ hb1)
   clear hb1 c0 c1 c2 c3 c4 c5 c6 c7 c8 c9
   go_wp2_with fail
   go_ret2
   exact ⟨rfl, HB1.out⟩
 · have hk : 1 ≤ e.k ∧ e.k ≤ 10 := by
    unfold mayD at hm
    rw [Bool.and_eq_true] at hm
    exact of_decide_eq_true hm.1
   have hsm := ybn hs hm
   rw [hm] at HM ⊢
   simp only [if_true]
   have hmc : mayC true = 0 := rfl
   rw [hmc] at HM ⊢
   have HPL := ybr (tx := textB) (sx := textB) (ox := textB) (ux := (fun n => wordB n 8)) (nx := uintB) hsm (fun s h => ⟨Nat.le_trans (ztq s h) (by decide), Nat.le_trans (ztq s h) (by decide), Nat.le_trans (ztq s h) (by decide)⟩) (fun n h => ⟨by rw [zml]; decide, Nat.le_trans (zqi n h) (by decide)⟩) (zrk e.k)
   have HAB := hid zsj
   have HEV : Hid (∀ W, Below w.heap.size w W → Calls Tryz.prog 29 #[.agg wrB.toArray, evV e] W fun e' w' => ∃ v P, e' = .returned v ∧ P = ([UInt8.ofNat e.k] :: (zrk e.k).flatMap (partG textB textB textB (fun n => wordB n 8) uintB e)).map str ∧ TextR.OwnT w' W.heap.size v P ∧ Below W.heap.size W w') := hid (fun W hW =>
    zth 69 70 70 70 71 72 textB textB textB (fun n => wordB n 8) uintB [UInt8.ofNat e.k] e (zrk e.k) W (ybh e.k) (zto e.k) (Nat.le_trans (ztp e.k) (by decide)) (ybi hk) hsm (hs.needs.gr hW)
     (fun X _ => kindB_any e.k (UInt8.ofNat e.k) (by have := hk.2; simp; omega) X) (ybd W) (ybd W) (ybd W) (ybe W) (ybf W) ent_1 ent_2 ent_2 ent_2 ent_3 ent_4)
   have HJ : Hid (∀ W D v P, TextR.OwnT W D v P → P = ([UInt8.ofNat e.k] :: (zrk e.k).flatMap (partG textB textB textB (fun n => wordB n 8) uintB e)).map str → Calls Tryz.prog 27 #[v, .string ⟨#[]⟩] W fun e' w' => e' = .returned (.string (str (znt e (zrk e.k)))) ∧ Below W.heap.size W w') := hid (fun W D v P ho hP => by
    have h := ybs (sep := []) ho hP (by simp) ⟨Nat.le_trans HPL.1 (by have := ztp e.k; omega), HPL.2⟩ (by decide)
    rw [show Lib.join ([UInt8.ofNat e.k] :: (zrk e.k).flatMap (partG textB textB textB (fun n => wordB n 8) uintB e)) [] = znt e (zrk e.k) from znv e (zrk e.k)] at h
    exact h)
   generalize znt e (zrk e.k) = OUT at *
   generalize ([UInt8.ofNat e.k] :: (zrk e.k).flatMap (partG textB textB textB (fun n => wordB n 8) uintB e)).map str = PL at *
   clear HPL hm hr hB0 hs hv hmc hsm hk
   go_enter Tryz.func10, Tryz.ntmps10
   go_wp2_with fail
   refine HM.out.mono ?_
   rintro r w1 ⟨rfl, hb1⟩
   have HB1 := hid hb1
   clear hb1 c0 c1 c2 c3 c4 c5 c6 c7 c8 c9
   obtain ⟨c0, c1, c2, c3, c4, c5, c6, c7, c8, c9⟩ := zos (HR2.out _ HB1.out)
   go_wp2_with fail
   have HB2 : Hid (Below (w.alloc (evO e)).heap.size (w.alloc (evO e)) w1.drew) := hid HB1.out.drew
   go_region_held3 (fun w' => w'.cell? ⟨w.heap.size, 0, none⟩ = some (.int .u8 e.k) ∧ w'.cell? ⟨w.heap.size, 1, none⟩ = some (.string (str e.who)) ∧ w'.cell? ⟨w.heap.size, 2, none⟩ = some (.string (str e.name)) ∧ w'.cell? ⟨w.heap.size, 3, none⟩ = some (.string (str e.ver)) ∧ w'.cell? ⟨w.heap.size, 4, none⟩ = some (.slice e.na e.needs.length e.nc) ∧ w'.cell? ⟨w.heap.size, 5, none⟩ = some (.int .u64 e.sum) ∧ w'.cell? ⟨w.heap.size, 6, none⟩ = some (.int .u32 e.n) ∧ w'.cell? ⟨w.heap.size, 7, none⟩ = some (.int .u32 e.size) ∧ w'.cell? ⟨w.heap.size, 8, none⟩ = some (.string (str e.holder)) ∧ w'.cell? ⟨w.heap.size, 9, none⟩ = some (.string (str e.note)))
    (first | exact ⟨c0, c1, c2, c3, c4, c5, c6, c7, c8, c9⟩ | exact zos (HR2.out _ HB2.out) | exact hk3 | exact hk4 | exact hk5 | fail)
    (first
      | (go_at_call 28; refine (HAB.out _).mono ?_; rintro e' w3 ⟨rfl, hb3⟩; have HB3 := hid (HB2.out.trans (hb3.mono HB2.out.size)); have hk3 := zos (HR2.out _ HB3.out); clear hb3)
      | (go_at_call 29; refine (HEV.out _ (HUP.out _ HB3.out)).mono ?_; rintro e' w4 ⟨v, P, rfl, hP4, ho4, hb4⟩; have HB4 := hid (HB3.out.trans (hb4.mono HB3.out.size)); have hk4 := zos (HR2.out _ HB4.out); have HO4 := hid (HJ.out _ _ _ _ ho4 hP4); clear hb4 ho4 hP4)
      | (go_at_call 27; refine HO4.out.mono ?_; rintro e' w5 ⟨rfl, hb5⟩; have HB5 := hid (HB4.out.trans (hb5.mono HB4.out.size)); have hk5 := zos (HR2.out _ HB5.out); clear hb5)
      | fail)
   all_goals (go_wp2_with fail)
   all_goals go_ret2
   all_goals exact ⟨rfl, HUP.out _ HB5.out⟩
set_option maxRecDepth 100000 in
theorem ybu (e : EvG) (w : World) (hs : EvIn w e) (hv : Vw w) (hw : ∀ k, k < 11 → w.cell? ⟨0, k, none⟩ = some (.string (str (kw k)))) : Calls Tryz.prog 13 #[evV e] w fun r w' => r = .returned (.tuple #[.string (str (if mayD e then lineM (kw e.k) e (zrk e.k) else [])), .int .i64 (mayC (mayD e))]) ∧ Below w.heap.size w w' := by
 have hB0 := alW w (evO e)
 have hr := heap_alloc_new w (evO e)
 have HR2 : Hid (∀ W, Below (w.alloc (evO e)).heap.size (w.alloc (evO e)) W → W.heap[w.heap.size]? = some (evO e)) := hid (fun W h => (h.block _ (by simp)).trans hr)
 have HM := hid (pmay_any e _ (hs.gr hB0) (hv.gr hB0))
 have HB := hid hB0
 have HUP : Hid (∀ W, Below (w.alloc (evO e)).heap.size (w.alloc (evO e)) W → Below w.heap.size w W) := hid (fun W h => HB.out.trans (h.mono HB.out.size))
 obtain ⟨c0, c1, c2, c3, c4, c5, c6, c7, c8, c9⟩ := zos (HR2.out _ (Below.refl _ _))
 rcases (Bool.eq_false_or_eq_true (mayD e)).symm with hm | hm
 · rw [hm] at HM ⊢
   simp only [Bool.false_eq_true, if_false]
   have HMC : Hid (mayC false = 90) := hid rfl
   have hmc : mayC false = 90 := rfl
   rw [hmc] at HM ⊢
   clear hm hr hB0 hs hv hw hmc
   go_enter Tryz.func13, Tryz.ntmps13
   go_wp2_with fail
   refine HM.out.mono ?_
   rintro r w1 ⟨rfl, hb1⟩
   have HB1 := hid (HUP.out _ hb1)
   clear hb1 c0 c1 c2 c3 c4 c5 c6 c7 c8 c9
   go_wp2_with fail
   go_ret2
   exact ⟨rfl, HB1.out⟩
 · have hk : 1 ≤ e.k ∧ e.k ≤ 10 := by
    unfold mayD at hm
    rw [Bool.and_eq_true] at hm
    exact of_decide_eq_true hm.1
   have hsm := ybn hs hm
   rw [hm] at HM ⊢
   simp only [if_true]
   have hmc : mayC true = 0 := rfl
   rw [hmc] at HM ⊢
   have HPL := ybr (tx := id) (sx := (swapB 32 95)) (ox := noteT) (ux := (fun n => SumM.digits n 16)) (nx := Lib.decDigits) hsm (fun s h => ⟨Nat.le_trans h (by decide), by rw [zod]; omega, by unfold noteT; split; (simp); (rw [zoa]; omega)⟩) (fun n h => ⟨by rw [SumM.zmf]; decide, Nat.le_trans (dec20 n h) (by decide)⟩) (zrk e.k)
   have HAB := hid zsk
   have HEV : Hid (∀ W, Below w.heap.size w W → Calls Tryz.prog 29 #[.agg wrT.toArray, evV e] W fun e' w' => ∃ v P, e' = .returned v ∧ P = ((kw e.k) :: (zrk e.k).flatMap (partG id (swapB 32 95) noteT (fun n => SumM.digits n 16) Lib.decDigits e)).map str ∧ TextR.OwnT w' W.heap.size v P ∧ Below W.heap.size W w') := hid (fun W hW =>
    zth 87 88 89 91 93 94 id (swapB 32 95) noteT (fun n => SumM.digits n 16) Lib.decDigits (kw e.k) e (zrk e.k) W (ybh e.k) (zto e.k) (Nat.le_trans (ztp e.k) (by decide)) (ybi hk) hsm (hs.needs.gr hW)
     (fun X hX => (zsf e.k (kw e.k) X (((hW.trans (hX.mono hW.size)).cell (World.block_lt_of_cell? _ _ (hw e.k (by omega)))).trans (hw e.k (by omega))) (by omega)).mono (fun _ _ h => ⟨h.1, h.2 ▸ Below.refl _ _⟩)) (ybc W) (yay W (hv.gr hW)) (yaz W) (yba W) (ybb W (hv.gr hW)) ent_5 ent_6 ent_7 ent_8 ent_9 ent_10)
   have HJ : Hid (∀ W D v P, TextR.OwnT W D v P → P = ((kw e.k) :: (zrk e.k).flatMap (partG id (swapB 32 95) noteT (fun n => SumM.digits n 16) Lib.decDigits e)).map str → Calls Tryz.prog 27 #[v, .string ⟨#[32]⟩] W fun e' w' => e' = .returned (.string (str (lineM (kw e.k) e (zrk e.k)))) ∧ Below W.heap.size W w') := hid (fun W D v P ho hP => by
    have h := ybs (sep := [32]) ho hP (Nat.le_trans (zze e.k) (by decide)) ⟨Nat.le_trans HPL.1 (by have := ztp e.k; omega), HPL.2⟩ (by decide)
    rw [show Lib.join ((kw e.k) :: (zrk e.k).flatMap (partG id (swapB 32 95) noteT (fun n => SumM.digits n 16) Lib.decDigits e)) [32] = lineM (kw e.k) e (zrk e.k) from znw (kw e.k) e (zrk e.k)] at h
    exact h)
   generalize lineM (kw e.k) e (zrk e.k) = OUT at *
   generalize ((kw e.k) :: (zrk e.k).flatMap (partG id (swapB 32 95) noteT (fun n => SumM.digits n 16) Lib.decDigits e)).map str = PL at *
   clear HPL hm hr hB0 hs hv hw hmc hsm hk
   go_enter Tryz.func13, Tryz.ntmps13
   go_wp2_with fail
   refine HM.out.mono ?_
   rintro r w1 ⟨rfl, hb1⟩
   have HB1 := hid hb1
   clear hb1 c0 c1 c2 c3 c4 c5 c6 c7 c8 c9
   obtain ⟨c0, c1, c2, c3, c4, c5, c6, c7, c8, c9⟩ := zos (HR2.out _ HB1.out)
   go_wp2_with fail
   have HB2 : Hid (Below (w.alloc (evO e)).heap.size (w.alloc (evO e)) w1.drew) := hid HB1.out.drew
   go_region_held3 (fun w' => w'.cell? ⟨w.heap.size, 0, none⟩ = some (.int .u8 e.k) ∧ w'.cell? ⟨w.heap.size, 1, none⟩ = some (.string (str e.who)) ∧ w'.cell? ⟨w.heap.size, 2, none⟩ = some (.string (str e.name)) ∧ w'.cell? ⟨w.heap.size, 3, none⟩ = some (.string (str e.ver)) ∧ w'.cell? ⟨w.heap.size, 4, none⟩ = some (.slice e.na e.needs.length e.nc) ∧ w'.cell? ⟨w.heap.size, 5, none⟩ = some (.int .u64 e.sum) ∧ w'.cell? ⟨w.heap.size, 6, none⟩ = some (.int .u32 e.n) ∧ w'.cell? ⟨w.heap.size, 7, none⟩ = some (.int .u32 e.size) ∧ w'.cell? ⟨w.heap.size, 8, none⟩ = some (.string (str e.holder)) ∧ w'.cell? ⟨w.heap.size, 9, none⟩ = some (.string (str e.note)))
    (first | exact ⟨c0, c1, c2, c3, c4, c5, c6, c7, c8, c9⟩ | exact zos (HR2.out _ HB2.out) | exact hk3 | exact hk4 | exact hk5 | fail)
    (first
      | (go_at_call 38; refine (HAB.out _).mono ?_; rintro e' w3 ⟨rfl, hb3⟩; have HB3 := hid (HB2.out.trans (hb3.mono HB2.out.size)); have hk3 := zos (HR2.out _ HB3.out); clear hb3)
      | (go_at_call 29; refine (HEV.out _ (HUP.out _ HB3.out)).mono ?_; rintro e' w4 ⟨v, P, rfl, hP4, ho4, hb4⟩; have HB4 := hid (HB3.out.trans (hb4.mono HB3.out.size)); have hk4 := zos (HR2.out _ HB4.out); have HO4 := hid (HJ.out _ _ _ _ ho4 hP4); clear hb4 ho4 hP4)
      | (go_at_call 27; refine HO4.out.mono ?_; rintro e' w5 ⟨rfl, hb5⟩; have HB5 := hid (HB4.out.trans (hb5.mono HB4.out.size)); have hk5 := zos (HR2.out _ HB5.out); clear hb5)
      | fail)
   all_goals (go_wp2_with fail)
   all_goals go_ret2
   all_goals exact ⟨rfl, HUP.out _ HB5.out⟩
end EvA
end
section
open Go.RowKit Go.Extern.Stop Go.Stop Go.Extern
namespace ErrU
open ErrC
theorem ybv (v : Value) (xT : TypeId) (w : World) : (Instr.typeAssert (.iface 28 v) xT 151 true).run Tryz.prog w = .ok (.tuple #[.nilIface, .bool false]) w := run_typeAssert_lacksB Tryz.underlying151 (by kernel_rfl) (by kernel_rfl) v xT w
theorem ybw (v : Value) (xT : TypeId) (w : World) : (Instr.typeAssert (.iface 28 v) xT 154 true).run Tryz.prog w = .ok (.tuple #[.nilIface, .bool false]) w := run_typeAssert_lacksB Tryz.underlying154 (by kernel_rfl) (by kernel_rfl) v xT w
theorem ybx (v : Value) (xT : TypeId) (w : World) : (Instr.typeAssert (.iface 28 v) xT 155 true).run Tryz.prog w = .ok (.tuple #[.nilIface, .bool false]) w := run_typeAssert_lacksB Tryz.underlying155 (by kernel_rfl) (by kernel_rfl) v xT w
theorem yby (c k : Int) (hck : c ≠ k) (w : World) :
 Calls Tryz.prog 65 #[.iface 28 (.int .i64 c), .iface 28 (.int .i64 k), .bool true] w fun e w' => e = .returned (.bool false) ∧ w = w' := by
 have heq := ztt c k
 have hb : (c == k) = false := beq_eq_false_iff_ne.2 hck
 have y1 := ybv
 have y2 := ybw
 have y3 := ybx
 go_enter Tryz.func65, Tryz.ntmps65
 go_wp2_with fail
 refine wp_loop_rounds 1 ?_
 rw [rounds_succ]
 go_wp2
 go_ret
 exact ⟨rfl, rfl⟩
theorem ybz (b o : Nat) (c k : Int) (hck : c ≠ k) (w : World) (hc : w.cell? ⟨b, o, none⟩ = some (.int .i64 c)) (hu : w.cell? ⟨b, o + 3, none⟩ = some .nilIface) :
 Calls Tryz.prog 65 #[.iface 83 (.pointer (some ⟨b, o, none⟩)), .iface 28 (.int .i64 k), .bool true] w fun e w' => e = .returned (.bool false) ∧ w' = w.alloc (.cells #[.iface 28 (.int .i64 c)] 40) := by
 have y4 := ztw
 have y5 := no_is
 have y6 := ztx
 have y7 := zty
 have y8 := run_eql_iface_types (P := Tryz.prog) 83 28 (.pointer (some ⟨b, o, none⟩)) (.int .i64 k) Tryz.underlying40 (by decide)
 go_enter Tryz.func65, Tryz.ntmps65
 go_wp2_with fail
 refine wp_loop_rounds 1 ?_
 rw [rounds_succ]
 go_wp2_with (go_at_call 317; refine (zua _ _ _ _ hc hu).mono ?_; rintro e w' ⟨rfl, rfl⟩)
 refine wp_loop_rounds 2 ?_
 rw [rounds_succ]
 go_wp2_with (go_at_call 65; refine (yby _ _ hck _).mono ?_; rintro e w' ⟨rfl, rfl⟩)
 rw [rounds_succ]
 go_wp2_with fail
 go_ret
 exact ⟨rfl, rfl⟩
theorem yca (b o : Nat) (c k : Int) (hck : c ≠ k) (w : World) (hc : w.cell? ⟨b, o, none⟩ = some (.int .i64 c)) (hu : w.cell? ⟨b, o + 3, none⟩ = some .nilIface) :
 Calls Tryz.prog 26 #[.iface 83 (.pointer (some ⟨b, o, none⟩)), .iface 28 (.int .i64 k)] w fun e w' => e = .returned (.bool false) ∧ w' = w.alloc (.cells #[.iface 28 (.int .i64 c)] 40) := by
 have x1 := @run_callFunc_extern Tryz.prog 64 _ Extern.ReflectliteType.typeOf Tryz.func64 (by kernel_rfl) (by kernel_rfl) (by kernel_rfl) (by kernel_rfl)
 have y1 := to_en
 have y2 := ztv
 have y3 := m_cmp
 go_enter Tryz.func26, Tryz.ntmps26
 go_wp2_with (go_at_call 65; refine (ybz _ _ _ _ hck _ hc hu).mono ?_; rintro e w' ⟨rfl, rfl⟩)
 go_ret
 exact ⟨rfl, rfl⟩
abbrev fV (b : Nat) : Value := .iface 83 (.pointer (some ⟨b, 0, none⟩))
theorem ycb {w : World} {b o : Nat} {v : Value} (O : Obj) (h : w.cell? ⟨b, o, none⟩ = some v) : (w.alloc O).cell? ⟨b, o, none⟩ = some v := by
 rw [World.cell?_alloc_old _ _ _ (Nat.ne_of_lt (World.block_lt_of_cell? _ _ h))]; exact h
theorem ycc (b : Nat) (c : Int) (t : TypeId) (u : Value) (w : World) (hc : w.cell? ⟨b, 0, none⟩ = some (.int .i64 c)) (hu : w.cell? ⟨b, 3, none⟩ = some (.iface t u)) :
 Calls Tryz.prog 317 #[.pointer (some ⟨b, 0, none⟩)] w fun e w' => e = .returned (.slice (some ⟨w.heap.size, 0, none⟩) 2 2) ∧ w'.cell? ⟨w.heap.size, 0, none⟩ = some (.iface 28 (.int .i64 c)) ∧ w'.cell? ⟨w.heap.size, 1, none⟩ = some (.iface t u) ∧ Below w.heap.size w w' := by
 go_enter Tryz.func317, Tryz.ntmps317
 go_wp2_with fail
 go_region_held3 (fun w' => w'.cell? ⟨b, 0, none⟩ = some (.int .i64 c) ∧ w'.cell? ⟨b, 3, none⟩ = some (.iface t u)) (first | exact ⟨hc, hu⟩ | exact ⟨ycb _ hc, ycb _ hu⟩ | fail) (first | fail)
 go_wp2_with fail
 go_ret
 have hb := (Below.refl w.heap.size w).alloc (Nat.le_refl _) (.cells #[.iface 28 (.int .i64 c), .iface t u] 40)
 refine ⟨rfl, ?_, ?_, ⟨hb.os, hb.tape, hb.output, hb.size, hb.block⟩⟩
 · show (w.alloc _).cell? _ = _
   rw [World.cell?_alloc_at _ _ _ _ rfl]; rfl
 · show (w.alloc _).cell? _ = _
   rw [World.cell?_alloc_at _ _ _ _ rfl]; rfl
theorem is_top (b : Nat) (c : Int) (t : TypeId) (u : Value) (w : World) (hc : w.cell? ⟨b, 0, none⟩ = some (.int .i64 c)) (hu : w.cell? ⟨b, 3, none⟩ = some (.iface t u)) :
 Calls Tryz.prog 65 #[fV b, .iface 28 (.int .i64 c), .bool true] w fun e w' => e = .returned (.bool true) ∧ Below w.heap.size w w' := by
 have y4 := ztw
 have y5 := no_is
 have y6 := ztx
 have y7 := zty
 have y8 := run_eql_iface_types (P := Tryz.prog) 83 28 (.pointer (some ⟨b, 0, none⟩)) (.int .i64 c) Tryz.underlying40 (by decide)
 go_enter Tryz.func65, Tryz.ntmps65
 go_wp2_with fail
 refine wp_loop_rounds 1 ?_
 rw [rounds_succ]
 go_wp2_with (go_at_call 317; refine (ycc _ _ _ _ _ hc hu).mono ?_; rintro e w3 ⟨rfl, u0, u1, hb3⟩; have HB3 := hid hb3; clear hb3)
 refine wp_loop_rounds 1 ?_
 rw [rounds_succ]
 go_wp2_with (go_at_call 65; refine (ztz _ _).mono ?_; rintro e w' ⟨rfl, rfl⟩)
 go_ret
 exact ⟨rfl, HB3.out⟩
theorem ycd (b b2 : Nat) (c k : Int) (hck : c ≠ k) (w : World) (hc : w.cell? ⟨b, 0, none⟩ = some (.int .i64 c)) (hu : w.cell? ⟨b, 3, none⟩ = some (fV b2)) (hc2 : w.cell? ⟨b2, 0, none⟩ = some (.int .i64 k)) (hu2 : w.cell? ⟨b2, 3, none⟩ = some .nilIface) :
 Calls Tryz.prog 65 #[fV b, .iface 28 (.int .i64 k), .bool true] w fun e w' => e = .returned (.bool true) ∧ Below w.heap.size w w' := by
 have y4 := ztw
 have y5 := no_is
 have y6 := ztx
 have y7 := zty
 have y8 := run_eql_iface_types (P := Tryz.prog) 83 28 (.pointer (some ⟨b, 0, none⟩)) (.int .i64 k) Tryz.underlying40 (by decide)
 have HI : Hid (∀ W, Below w.heap.size w W → Calls Tryz.prog 65 #[fV b2, .iface 28 (.int .i64 k), .bool true] W fun e w' => e = .returned (.bool true) ∧ Below W.heap.size W w') := hid (fun W g =>
  (zub b2 0 k W ((g.cell (World.block_lt_of_cell? _ _ hc2)).trans hc2) ((g.cell (World.block_lt_of_cell? _ _ hu2)).trans hu2)).mono (by
    rintro e w' ⟨rfl, rfl⟩
    exact ⟨rfl, (Below.refl _ _).alloc (Nat.le_refl _) _⟩))
 go_enter Tryz.func65, Tryz.ntmps65
 go_wp2_with fail
 refine wp_loop_rounds 1 ?_
 rw [rounds_succ]
 go_wp2_with (go_at_call 317; refine (ycc _ _ _ _ _ hc hu).mono ?_; rintro e w3 ⟨rfl, u0, u1, hb3⟩; have HB3 := hid hb3; clear hb3)
 refine wp_loop_rounds 2 ?_
 rw [rounds_succ]
 go_wp2_with (go_at_call 65; refine (yby _ _ hck _).mono ?_; rintro e w' ⟨rfl, rfl⟩)
 rw [rounds_succ]
 go_wp2_with fail
 refine (HI.out _ HB3.out).mono ?_
 rintro e w' ⟨rfl, hb⟩
 go_wp2_with fail
 go_ret
 exact ⟨rfl, HB3.out.trans (hb.mono HB3.out.size)⟩
theorem is_two (b : Nat) (c : Int) (t : TypeId) (u : Value) (w : World) (hc : w.cell? ⟨b, 0, none⟩ = some (.int .i64 c)) (hu : w.cell? ⟨b, 3, none⟩ = some (.iface t u)) :
 Calls Tryz.prog 26 #[fV b, .iface 28 (.int .i64 c)] w fun e w' => e = .returned (.bool true) ∧ Below w.heap.size w w' := by
 have x1 := @run_callFunc_extern Tryz.prog 64 _ Extern.ReflectliteType.typeOf Tryz.func64 (by kernel_rfl) (by kernel_rfl) (by kernel_rfl) (by kernel_rfl)
 have y1 := to_en
 have y2 := ztv
 have y3 := m_cmp
 go_enter Tryz.func26, Tryz.ntmps26
 go_wp2_with (go_at_call 65; refine (is_top b c t u w hc hu).mono ?_; rintro e w' ⟨rfl, hb⟩)
 go_ret
 exact ⟨rfl, hb⟩
theorem yce (b b2 : Nat) (c k : Int) (hck : c ≠ k) (w : World) (hc : w.cell? ⟨b, 0, none⟩ = some (.int .i64 c)) (hu : w.cell? ⟨b, 3, none⟩ = some (fV b2)) (hc2 : w.cell? ⟨b2, 0, none⟩ = some (.int .i64 k)) (hu2 : w.cell? ⟨b2, 3, none⟩ = some .nilIface) :
 Calls Tryz.prog 26 #[fV b, .iface 28 (.int .i64 k)] w fun e w' => e = .returned (.bool true) ∧ Below w.heap.size w w' := by
 have x1 := @run_callFunc_extern Tryz.prog 64 _ Extern.ReflectliteType.typeOf Tryz.func64 (by kernel_rfl) (by kernel_rfl) (by kernel_rfl) (by kernel_rfl)
 have y1 := to_en
 have y2 := ztv
 have y3 := m_cmp
 go_enter Tryz.func26, Tryz.ntmps26
 go_wp2_with (go_at_call 65; refine (ycd b b2 c k hck w hc hu hc2 hu2).mono ?_; rintro e w' ⟨rfl, hb⟩)
 go_ret
 exact ⟨rfl, hb⟩
end ErrU
end
section
open Go.RowKit Go.Sort
namespace EvN
open StrC EvF EvC EvA
abbrev pt (n : Nat) : Value := .pointer (some ⟨n, 0, none⟩)
abbrev kindV (n : Nat) : Value := .func (.func 79) #[] #[pt n]
abbrev textV (n : Nat) : Value := .func (.func 81) #[] #[pt n]
abbrev wordV (b : Nat) : Value := .func (.func 83) #[pt b] #[]
abbrev uintV (b : Nat) : Value := .func (.func 84) #[pt b] #[]
abbrev rdL (n b : Nat) : List Value := [kindV n, textV n, textV n, textV n, wordV b, uintV b]
abbrev rdgZ : Obj := .cells #[.nilFunc, .nilFunc, .nilFunc, .nilFunc, .nilFunc, .nilFunc] 49
theorem ycf : (Tryz.prog.info? 49).map (·.size) = some 6 := by kernel_rfl
theorem out_no (b : Nat) (w : World) : Calls Tryz.prog 35 #[pt b] w fun e w' => e = .returned (.agg (rdL w.heap.size b).toArray) ∧ w'.heap[w.heap.size]? = some (.cells #[pt b] 79) ∧ Below w.heap.size w w' := by
 have h0 := heap_alloc_new w (.cells #[pt b] 79)
 have hz : ((w.alloc (.cells #[pt b] 79)).alloc rdgZ).heap[w.heap.size + 1]? = some rdgZ := by have := heap_alloc_new (w.alloc (.cells #[pt b] 79)) rdgZ; simpa using this
 have h1 : ((w.alloc (.cells #[pt b] 79)).alloc rdgZ).heap[w.heap.size]? = some (.cells #[pt b] 79) := by rw [heap_alloc_old _ _ (by simp)]; exact h0
 have HB0 : Hid (Below w.heap.size w ((w.alloc (.cells #[pt b] 79)).alloc rdgZ)) := hid (chW (alW w _) (alW _ _))
 have c0 : ((w.alloc (.cells #[pt b] 79)).alloc rdgZ).cell? ⟨w.heap.size, 0, none⟩ = some (pt b) := by simp [World.cell?, h1]
 have hinf := ycf
 have hone : ((rdL w.heap.size b).toArray.all (·.oneCell')) = true := by simp [Value.oneCell']
 have H1 := hid h1
 clear h1 h0
 go_enter Tryz.func35, Tryz.ntmps35
 go_wp2_with (first | (refine wpList_store_row rfl 49 _ _ rfl (w.heap.size + 1) (rdL w.heap.size b).toArray rfl rfl _ _ hz hinf rfl hone ?_) | fail)
 refine bodyPost_ret (zsh rfl _ _ (w.heap.size + 1) _ (rdL w.heap.size b).toArray _ _ rfl (setRow_heap _ _ _ _ _ _ hz) Tryz.underlying49 rfl hinf) rfl ?_
 refine ⟨rfl, ?_, below_setRow HB0.out (by omega) _⟩
 exact ((below_setRow (Below.refl (w.heap.size + 1) ((w.alloc (.cells #[pt b] 79)).alloc rdgZ)) (Nat.le_refl _) _).block w.heap.size (by omega)).trans H1.out
theorem ycg (w : World) (x y : Obj) : ((w.alloc x).alloc y).heap[w.heap.size]? = some x ∧ ((w.alloc x).alloc y).heap[w.heap.size + 1]? = some y ∧ Below w.heap.size w ((w.alloc x).alloc y) ∧ ((w.alloc x).alloc y).heap.size = w.heap.size + 2 := by
 refine ⟨?_, ?_, chW (alW w _) (alW _ _), by simp⟩
 · rw [heap_alloc_old _ _ (by simp)]; exact heap_alloc_new w _
 · have := heap_alloc_new (w.alloc x) y; simpa using this
end EvN
end
end Go.Proofs.YtfbegbmjmhnplaaGreatDoor
