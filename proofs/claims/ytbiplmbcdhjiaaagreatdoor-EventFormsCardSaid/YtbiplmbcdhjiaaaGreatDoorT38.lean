/-
  What the proof of EventForms stands on, part 38.
-/
import Derived.LaidEql
import Derived.RowKitTokens
import Derived.Stop.Asserts
import Derived.Test.YtbiplmbcdhjiaaaGreatDoorT37
set_option linter.unusedSimpArgs false
set_option linter.unusedVariables false
set_option maxHeartbeats 16000000
namespace Go.Proofs.YtbiplmbcdhjiaaaGreatDoor
open Go.Lib (hid)
section
open Go.RowKit Go.Sort
namespace EvA
open StrC EvF EvC TextR CodeM CodeC
open VerC (Vw)
theorem ybq {l : B} (h : NameM.holder l = true) : l.length ≤ 64 := by
 unfold NameM.holder at h
 simp only [Bool.and_eq_true, decide_eq_true_eq] at h
 exact h.1.1.2
theorem ybr {l : B} (h : NameM.isN l = true) : l.length ≤ 64 := by
 unfold NameM.isN at h
 simp only [Bool.and_eq_true] at h
 exact (NameM.zuu.1 h.1).2.1
theorem isT_le {l : B} (h : VerM.isT l = true) : l.length ≤ 128 := by
 unfold VerM.isT VerM.readB at h
 by_cases hl : l.length ≤ 128
 · exact hl
 · rw [if_neg hl] at h; cases h
theorem span_le {l : B} (h : spanIs l = true) : l.length ≤ 128 := by
 unfold spanIs at h
 have h2 := of_decide_eq_true h
 unfold SpanC.formO SpanC.readO at h2
 by_cases hl : l.length ≤ 128
 · exact hl
 · rw [if_neg hl] at h2; cases h2
theorem ybs {b : Bool} {l : B} {f : B → Bool} {n : Nat} (h : fieldOk b l (f l) = true) (hf : f l = true → l.length ≤ n) : l.length ≤ n := by
 unfold fieldOk at h
 cases b with
 | true => simp only [if_true, Bool.and_eq_true] at h; exact hf h.2
 | false =>
   simp only [Bool.false_eq_true, if_false, decide_eq_true_eq] at h
   rw [h]
   exact Nat.zero_le _
theorem need_le {L : List (B × B)} (h : needsM L = true) : L.length ≤ 64 ∧ ∀ p ∈ L, p.1.length ≤ 64 ∧ p.2.length ≤ 128 := by
 unfold needsM at h
 simp only [Bool.and_eq_true, decide_eq_true_eq, List.all_eq_true] at h
 refine ⟨h.1, fun p hp => ?_⟩
 obtain ⟨j, hj, e⟩ := List.mem_iff_getElem.1 hp
 have hk := h.2 j (by simpa using hj)
 unfold okN at hk
 have e2 : L.getD j ([], []) = p := by rw [← e]; simp [hj]
 rw [e2] at hk
 simp only [Bool.and_eq_true] at hk
 exact ⟨ybr hk.1, span_le hk.2.1⟩
theorem ybt {w : World} {e : EvG} (hs : EvIn w e) (h : mayD e = true) : EvSm e := by
 unfold mayD at h
 simp only [Bool.and_eq_true] at h
 obtain ⟨hk, hw, hn, hv, hh, hr, hl⟩ := h
 have hk := of_decide_eq_true hk
 have hneed : e.needs.length ≤ 64 ∧ ∀ p ∈ e.needs, p.1.length ≤ 64 ∧ p.2.length ≤ 128 := by
  by_cases h2 : e.k = 2
  · unfold lastOk at hl
    rw [if_pos h2] at hl
    simp only [Bool.and_eq_true] at hl
    exact need_le hl.2.2
  · have h78 : nm e.k 78 = false := by
     have : ∀ k, 1 ≤ k → k ≤ 10 → k ≠ 2 → nm k 78 = false := by
      intro k h1 h10 hne
      rcases (by omega : k = 1 ∨ k = 3 ∨ k = 4 ∨ k = 5 ∨ k = 6 ∨ k = 7 ∨ k = 8 ∨ k = 9 ∨ k = 10) with rfl | rfl | rfl | rfl | rfl | rfl | rfl | rfl | rfl <;> rfl
     exact this e.k hk.1 hk.2 h2
    unfold restOk at hr
    rw [h78] at hr
    simp only [Bool.and_eq_true, Bool.false_or, decide_eq_true_eq] at hr
    rw [hr.2.1.2.2]
    exact ⟨by decide, fun p hp => by cases hp⟩
 have hnote : e.note.length ≤ 256 := by
  by_cases h116 : nm e.k 116 = true
  · unfold lastOk at hl
    by_cases h2 : e.k = 2
    · rw [h2] at h116; cases h116
    rw [if_neg h2] at hl
    by_cases h5 : e.k = 5
    · rw [if_pos h5] at hl; exact of_decide_eq_true hl
    · rw [if_neg h5] at hl
      by_cases h9 : e.k = 9 ∨ e.k = 10
      · rw [if_pos h9] at hl; exact Nat.le_trans (ybq hl) (by decide)
      · exfalso
        have : ∀ k, 1 ≤ k → k ≤ 10 → k ≠ 5 → ¬ (k = 9 ∨ k = 10) → nm k 116 = false := by
         intro k h1 h10 hne hne2
         rcases (by omega : k = 1 ∨ k = 2 ∨ k = 3 ∨ k = 4 ∨ k = 6 ∨ k = 7 ∨ k = 8) with rfl | rfl | rfl | rfl | rfl | rfl | rfl <;> rfl
        rw [this e.k hk.1 hk.2 h5 h9] at h116
        cases h116
  · unfold restOk at hr
    rw [Bool.not_eq_true] at h116
    rw [h116] at hr
    simp only [Bool.and_eq_true, Bool.false_or, decide_eq_true_eq] at hr
    rw [hr.2.2]
    exact Nat.zero_le _
 exact ⟨Nat.le_trans (ybq hw) (by decide), Nat.le_trans (ybs hn ybr) (by decide), Nat.le_trans (ybs hv isT_le) (by decide), Nat.le_trans (ybs hh ybq) (by decide), Nat.le_trans hnote (by decide), hneed.1,
  fun p hp => ⟨Nat.le_trans (hneed.2 p hp).1 (by decide), Nat.le_trans (hneed.2 p hp).2 (by decide)⟩, by have := hs.sum; omega, by have := hs.n; omega, by have := hs.size; omega⟩
theorem ybu {c : Nat} : ∀ {L : List B}, (∀ x ∈ L, x.length ≤ c) → Lib.lens L ≤ c * L.length
 | [], _ => by simp [Lib.lens]
 | x :: r, h => by
   have ih := ybu (L := r) (fun y hy => h y (List.mem_cons_of_mem _ hy))
   have hx := h x List.mem_cons_self
   simp only [Lib.lens, List.map_cons, List.sum_cons, List.length_cons] at ih ⊢
   rw [Nat.mul_succ]
   omega
theorem join_le {c : Nat} {x : B} {r : List B} {sep : B} (hs : sep.length ≤ 1) (h : ∀ y ∈ x :: r, y.length ≤ c) : (Lib.join (x :: r) sep).length ≤ (c + 1) * (r.length + 1) := by
 rw [Lib.join_length]
 have h1 := ybu h
 have h2 : sep.length * r.length ≤ 1 * r.length := Nat.mul_le_mul_right _ hs
 rw [List.length_cons] at h1
 rw [Nat.succ_mul]
 omega
theorem ybv {w : World} {D : Nat} {v : Value} {L : List ByteArray} (h : OwnT w D v L) (h0 : 0 < L.length) (sep : ByteArray) (hl : L.length ≤ 3000) (hj : (Lib.join (L.map (·.data.toList)) sep.data.toList).length ≤ 10000000) :
 Calls Tryz.prog 34 #[v, .string sep] w fun e w' => e = .returned (.string ⟨(Lib.join (L.map (·.data.toList)) sep.data.toList).toArray⟩) ∧ Below w.heap.size w w' := by
 have h1 : w.ownsRow D 9 1 v L.length (L.map Value.string) := h
 rcases h.2 with ⟨hnil, hz⟩ | ⟨g, cp, cur, rfl, hbase, hblk, hcp, _⟩
 · omega
 · exact Tryz.strings_Join g 0 cp L sep w (fun j x hx => by
    have hjl : j < L.length := (List.getElem?_eq_some_iff.1 hx).1
    rw [Nat.zero_add, h1.cellAt j (by omega)]
    simp [hx]) (Array.getElem?_eq_some_iff.1 hblk).1 (by omega) hcp (by omega)
theorem map_str (L : List B) : (L.map str).map (·.data.toList) = L := by
 rw [List.map_map]
 conv => rhs; rw [← List.map_id L]
 rfl
section
variable {tx sx ox : B → B} {ux nx : Nat → B}
theorem part_le {e : EvG} (hs : EvSm e) (ht : ∀ s : B, s.length ≤ 1000 → (tx s).length ≤ 2010 ∧ (sx s).length ≤ 2010 ∧ (ox s).length ≤ 2010) (hu : ∀ n, n < 18446744073709551616 → (ux n).length ≤ 2010 ∧ (nx n).length ≤ 2010) (x : Int) :
 (partG tx sx ox ux nx e x).length ≤ 200 ∧ ∀ y ∈ partG tx sx ox ux nx e x, y.length ≤ 2010 := by
 have one : ∀ z : B, z.length ≤ 2010 → ([z] : List B).length ≤ 200 ∧ ∀ y ∈ [z], y.length ≤ 2010 := fun z hz => ⟨by simp, fun y hy => by rw [List.mem_singleton.1 hy]; exact hz⟩
 unfold partG
 (repeat' split)
 · exact one _ (ht _ hs.who).1
 · exact one _ (ht _ hs.name).1
 · exact one _ (ht _ hs.ver).1
 · refine ⟨by rw [List.length_cons, zzl]; have := hs.few; omega, fun y hy => ?_⟩
   rcases List.mem_cons.1 hy with rfl | hy
   · exact (hu _ (by have := hs.few; omega)).2
   · obtain ⟨p, hp, hy⟩ := List.mem_flatMap.1 hy
     obtain ⟨h1, h2⟩ := hs.need p hp
     simp only [List.mem_cons, List.not_mem_nil, or_false] at hy
     rcases hy with rfl | rfl
     · exact (ht _ h1).1
     · exact (ht _ h2).2.1
 · exact one _ (hu _ hs.sum).1
 · exact one _ (hu _ (by have := hs.n; omega)).2
 · exact one _ (hu _ (by have := hs.size; omega)).2
 · exact one _ (ht _ hs.holder).1
 · exact one _ (ht _ hs.note).1
 · exact one _ (ht _ hs.note).2.2
theorem ybw {e : EvG} (hs : EvSm e) (ht : ∀ s : B, s.length ≤ 1000 → (tx s).length ≤ 2010 ∧ (sx s).length ≤ 2010 ∧ (ox s).length ≤ 2010) (hu : ∀ n, n < 18446744073709551616 → (ux n).length ≤ 2010 ∧ (nx n).length ≤ 2010) (L : List Int) :
 (L.flatMap (partG tx sx ox ux nx e)).length ≤ 200 * L.length ∧ ∀ y ∈ L.flatMap (partG tx sx ox ux nx e), y.length ≤ 2010 := by
 induction L with
 | nil => exact ⟨by simp, fun y hy => by simp at hy⟩
 | cons x r ih =>
   have hx := part_le hs ht hu x
   rw [List.flatMap_cons]
   refine ⟨by rw [List.length_append, List.length_cons]; have := ih.1; have := hx.1; omega, fun y hy => ?_⟩
   rcases List.mem_append.1 hy with hy | hy
   · exact hx.2 y hy
   · exact ih.2 y hy
end
theorem ybx {w : World} {D : Nat} {v : Value} {P : List ByteArray} {c : B} {R : List B} {sep : B} (h : OwnT w D v P) (hP : P = (c :: R).map str) (hc : c.length ≤ 2010) (hR : R.length ≤ 2000 ∧ ∀ y ∈ R, y.length ≤ 2010) (hs : sep.length ≤ 1) :
 Calls Tryz.prog 34 #[v, .string (str sep)] w fun e w' => e = .returned (.string (str (Lib.join (c :: R) sep))) ∧ Below w.heap.size w w' := by
 have hl : P.length = R.length + 1 := by rw [hP]; simp
 have hm : P.map (·.data.toList) = c :: R := by rw [hP]; exact map_str _
 have hj : (Lib.join (P.map (·.data.toList)) (str sep).data.toList).length ≤ 10000000 := by
  rw [hm, zbm]
  have := join_le (c := 2010) (x := c) (r := R) (sep := sep) hs (fun y hy => by
   rcases List.mem_cons.1 hy with rfl | hy
   · exact hc
   · exact hR.2 y hy)
  have := hR.1
  omega
 have h2 := ybv h (by omega) (str sep) (by omega) hj
 rw [hm, zbm] at h2
 exact h2
set_option maxRecDepth 100000 in
theorem yby (e : EvG) (w : World) (hs : EvIn w e) (hv : Vw w) : Calls Tryz.prog 8 #[evV e] w fun r w' => r = .returned (.tuple #[.string (str (if mayD e then bytesM e (fieldsM e.k) else [])), .int .i64 (mayC (mayD e))]) ∧ Below w.heap.size w w' := by
 have hB0 := alW w (evO e)
 have hr := heap_alloc_new w (evO e)
 have HR2 : Hid (∀ W, Below (w.alloc (evO e)).heap.size (w.alloc (evO e)) W → W.heap[w.heap.size]? = some (evO e)) := hid (fun W h => (h.block _ (by simp)).trans hr)
 have HM := hid (pmay_any e _ (hs.gr hB0) (hv.gr hB0))
 have HB := hid hB0
 have HUP : Hid (∀ W, Below (w.alloc (evO e)).heap.size (w.alloc (evO e)) W → Below w.heap.size w W) := hid (fun W h => HB.out.trans (h.mono HB.out.size))
 obtain ⟨c0, c1, c2, c3, c4, c5, c6, c7, c8, c9⟩ := ztd (HR2.out _ (Below.refl _ _))
 rcases (Bool.eq_false_or_eq_true (mayD e)).symm with hm | hm
 · rw [hm] at HM ⊢
   simp only [Bool.false_eq_true, if_false]
   have HMC : Hid (mayC false = 90) := hid rfl
   have hmc : mayC false = 90 := rfl
   rw [hmc] at HM ⊢
   clear hm hr hB0 hs hv hmc
   go_enter Tryz.func8, Tryz.ntmps8
   go_wp2_with fail
   refine HM.out.mono ?_
   rintro r w1 ⟨rfl, hb1⟩
   have HB1 := hid (HUP.out _ hb1)
   clear hb1 c0 c1 c2 c3 c4 c5 c6 c7 c8 c9
   go_wp2_with fail
   go_ret2
   exact ⟨rfl, HB1.out⟩
 · have hk : 1 ≤ e.k ∧ e.k ≤ 10 := by
    unfold mayD at hm
    rw [Bool.and_eq_true] at hm
    exact of_decide_eq_true hm.1
   have hsm := ybt hs hm
   rw [hm] at HM ⊢
   simp only [if_true]
   have hmc : mayC true = 0 := rfl
   rw [hmc] at HM ⊢
   have HPL := ybw (tx := textB) (sx := textB) (ox := textB) (ux := (fun n => wordB n 8)) (nx := uintB) hsm (fun s h => ⟨Nat.le_trans (ybc s h) (by decide), Nat.le_trans (ybc s h) (by decide), Nat.le_trans (ybc s h) (by decide)⟩) (fun n h => ⟨by rw [zwq]; decide, Nat.le_trans (zyo n h) (by decide)⟩) (fieldsM e.k)
   have HAB := hid zzc
   have HEV : Hid (∀ W, Below w.heap.size w W → Calls Tryz.prog 36 #[.agg wrB.toArray, evV e] W fun e' w' => ∃ v P, e' = .returned v ∧ P = ([UInt8.ofNat e.k] :: (fieldsM e.k).flatMap (partG textB textB textB (fun n => wordB n 8) uintB e)).map str ∧ OwnT w' W.heap.size v P ∧ Below W.heap.size W w') := hid (fun W hW =>
    zzo 74 75 75 75 76 77 textB textB textB (fun n => wordB n 8) uintB [UInt8.ofNat e.k] e (fieldsM e.k) W (ybh e.k) (yax e.k) (Nat.le_trans (yay e.k) (by decide)) (ybi hk) hsm (hs.needs.gr hW)
     (fun X _ => zyx e.k (UInt8.ofNat e.k) (by have := hk.2; simp; omega) X) (yao W) (yao W) (yao W) (yap W) (yaq W) ent_1 ent_2 ent_2 ent_2 ent_3 ent_4)
   have HJ : Hid (∀ W D v P, OwnT W D v P → P = ([UInt8.ofNat e.k] :: (fieldsM e.k).flatMap (partG textB textB textB (fun n => wordB n 8) uintB e)).map str → Calls Tryz.prog 34 #[v, .string ⟨#[]⟩] W fun e' w' => e' = .returned (.string (str (bytesM e (fieldsM e.k)))) ∧ Below W.heap.size W w') := hid (fun W D v P ho hP => by
    have h := ybx (sep := []) ho hP (by simp) ⟨Nat.le_trans HPL.1 (by have := yay e.k; omega), HPL.2⟩ (by decide)
    rw [show Lib.join ([UInt8.ofNat e.k] :: (fieldsM e.k).flatMap (partG textB textB textB (fun n => wordB n 8) uintB e)) [] = bytesM e (fieldsM e.k) from zwx e (fieldsM e.k)] at h
    exact h)
   generalize bytesM e (fieldsM e.k) = OUT at *
   generalize ([UInt8.ofNat e.k] :: (fieldsM e.k).flatMap (partG textB textB textB (fun n => wordB n 8) uintB e)).map str = PL at *
   clear HPL hm hr hB0 hs hv hmc hsm hk
   go_enter Tryz.func8, Tryz.ntmps8
   go_wp2_with fail
   refine HM.out.mono ?_
   rintro r w1 ⟨rfl, hb1⟩
   have HB1 := hid hb1
   clear hb1 c0 c1 c2 c3 c4 c5 c6 c7 c8 c9
   obtain ⟨c0, c1, c2, c3, c4, c5, c6, c7, c8, c9⟩ := ztd (HR2.out _ HB1.out)
   go_wp2_with fail
   have HB2 : Hid (Below (w.alloc (evO e)).heap.size (w.alloc (evO e)) w1.drew) := hid HB1.out.drew
   go_region_held3 (fun w' => w'.cell? ⟨w.heap.size, 0, none⟩ = some (.int .u8 e.k) ∧ w'.cell? ⟨w.heap.size, 1, none⟩ = some (.string (str e.who)) ∧ w'.cell? ⟨w.heap.size, 2, none⟩ = some (.string (str e.name)) ∧ w'.cell? ⟨w.heap.size, 3, none⟩ = some (.string (str e.ver)) ∧ w'.cell? ⟨w.heap.size, 4, none⟩ = some (.slice e.na e.needs.length e.nc) ∧ w'.cell? ⟨w.heap.size, 5, none⟩ = some (.int .u64 e.sum) ∧ w'.cell? ⟨w.heap.size, 6, none⟩ = some (.int .u32 e.n) ∧ w'.cell? ⟨w.heap.size, 7, none⟩ = some (.int .u32 e.size) ∧ w'.cell? ⟨w.heap.size, 8, none⟩ = some (.string (str e.holder)) ∧ w'.cell? ⟨w.heap.size, 9, none⟩ = some (.string (str e.note)))
    (first | exact ⟨c0, c1, c2, c3, c4, c5, c6, c7, c8, c9⟩ | exact ztd (HR2.out _ HB2.out) | exact hk3 | exact hk4 | exact hk5 | fail)
    (first
      | (go_at_call 35; refine (HAB.out _).mono ?_; rintro e' w3 ⟨rfl, hb3⟩; have HB3 := hid (HB2.out.trans (hb3.mono HB2.out.size)); have hk3 := ztd (HR2.out _ HB3.out); clear hb3)
      | (go_at_call 36; refine (HEV.out _ (HUP.out _ HB3.out)).mono ?_; rintro e' w4 ⟨v, P, rfl, hP4, ho4, hb4⟩; have HB4 := hid (HB3.out.trans (hb4.mono HB3.out.size)); have hk4 := ztd (HR2.out _ HB4.out); have HO4 := hid (HJ.out _ _ _ _ ho4 hP4); clear hb4 ho4 hP4)
      | (go_at_call 34; refine HO4.out.mono ?_; rintro e' w5 ⟨rfl, hb5⟩; have HB5 := hid (HB4.out.trans (hb5.mono HB4.out.size)); have hk5 := ztd (HR2.out _ HB5.out); clear hb5)
      | fail)
   all_goals (go_wp2_with fail)
   all_goals go_ret2
   all_goals exact ⟨rfl, HUP.out _ HB5.out⟩
set_option maxRecDepth 100000 in
theorem ybz (e : EvG) (w : World) (hs : EvIn w e) (hv : Vw w) (hw : ∀ k, k < 11 → w.cell? ⟨0, k, none⟩ = some (.string (str (kw k)))) : Calls Tryz.prog 9 #[evV e] w fun r w' => r = .returned (.tuple #[.string (str (if mayD e then lineM (kw e.k) e (fieldsM e.k) else [])), .int .i64 (mayC (mayD e))]) ∧ Below w.heap.size w w' := by
 have hB0 := alW w (evO e)
 have hr := heap_alloc_new w (evO e)
 have HR2 : Hid (∀ W, Below (w.alloc (evO e)).heap.size (w.alloc (evO e)) W → W.heap[w.heap.size]? = some (evO e)) := hid (fun W h => (h.block _ (by simp)).trans hr)
 have HM := hid (pmay_any e _ (hs.gr hB0) (hv.gr hB0))
 have HB := hid hB0
 have HUP : Hid (∀ W, Below (w.alloc (evO e)).heap.size (w.alloc (evO e)) W → Below w.heap.size w W) := hid (fun W h => HB.out.trans (h.mono HB.out.size))
 obtain ⟨c0, c1, c2, c3, c4, c5, c6, c7, c8, c9⟩ := ztd (HR2.out _ (Below.refl _ _))
 rcases (Bool.eq_false_or_eq_true (mayD e)).symm with hm | hm
 · rw [hm] at HM ⊢
   simp only [Bool.false_eq_true, if_false]
   have HMC : Hid (mayC false = 90) := hid rfl
   have hmc : mayC false = 90 := rfl
   rw [hmc] at HM ⊢
   clear hm hr hB0 hs hv hw hmc
   go_enter Tryz.func9, Tryz.ntmps9
   go_wp2_with fail
   refine HM.out.mono ?_
   rintro r w1 ⟨rfl, hb1⟩
   have HB1 := hid (HUP.out _ hb1)
   clear hb1 c0 c1 c2 c3 c4 c5 c6 c7 c8 c9
   go_wp2_with fail
   go_ret2
   exact ⟨rfl, HB1.out⟩
 · have hk : 1 ≤ e.k ∧ e.k ≤ 10 := by
    unfold mayD at hm
    rw [Bool.and_eq_true] at hm
    exact of_decide_eq_true hm.1
   have hsm := ybt hs hm
   rw [hm] at HM ⊢
   simp only [if_true]
   have hmc : mayC true = 0 := rfl
   rw [hmc] at HM ⊢
   have HPL := ybw (tx := id) (sx := (swapB 32 95)) (ox := noteT) (ux := (fun n => SumM.digits n 16)) (nx := Lib.decDigits) hsm (fun s h => ⟨Nat.le_trans h (by decide), by rw [zxf]; omega, by unfold noteT; split; (simp); (rw [zxc]; omega)⟩) (fun n h => ⟨by rw [SumM.zwi]; decide, Nat.le_trans (dec20 n h) (by decide)⟩) (fieldsM e.k)
   have HAB := hid zzd
   have HEV : Hid (∀ W, Below w.heap.size w W → Calls Tryz.prog 36 #[.agg wrT.toArray, evV e] W fun e' w' => ∃ v P, e' = .returned v ∧ P = ((kw e.k) :: (fieldsM e.k).flatMap (partG id (swapB 32 95) noteT (fun n => SumM.digits n 16) Lib.decDigits e)).map str ∧ OwnT w' W.heap.size v P ∧ Below W.heap.size W w') := hid (fun W hW =>
    zzo 79 80 81 83 85 86 id (swapB 32 95) noteT (fun n => SumM.digits n 16) Lib.decDigits (kw e.k) e (fieldsM e.k) W (ybh e.k) (yax e.k) (Nat.le_trans (yay e.k) (by decide)) (ybi hk) hsm (hs.needs.gr hW)
     (fun X hX => (zyy e.k (kw e.k) X (((hW.trans (hX.mono hW.size)).cell (World.block_lt_of_cell? _ _ (hw e.k (by omega)))).trans (hw e.k (by omega))) (by omega)).mono (fun _ _ h => ⟨h.1, h.2 ▸ Below.refl _ _⟩)) (yan W) (yaj W (hv.gr hW)) (yak W) (yal W) (yam W (hv.gr hW)) ent_5 ent_6 ent_7 ent_8 ent_9 ent_10)
   have HJ : Hid (∀ W D v P, OwnT W D v P → P = ((kw e.k) :: (fieldsM e.k).flatMap (partG id (swapB 32 95) noteT (fun n => SumM.digits n 16) Lib.decDigits e)).map str → Calls Tryz.prog 34 #[v, .string ⟨#[32]⟩] W fun e' w' => e' = .returned (.string (str (lineM (kw e.k) e (fieldsM e.k)))) ∧ Below W.heap.size W w') := hid (fun W D v P ho hP => by
    have h := ybx (sep := [32]) ho hP (Nat.le_trans (zzr e.k) (by decide)) ⟨Nat.le_trans HPL.1 (by have := yay e.k; omega), HPL.2⟩ (by decide)
    rw [show Lib.join ((kw e.k) :: (fieldsM e.k).flatMap (partG id (swapB 32 95) noteT (fun n => SumM.digits n 16) Lib.decDigits e)) [32] = lineM (kw e.k) e (fieldsM e.k) from zwy (kw e.k) e (fieldsM e.k)] at h
    exact h)
   generalize lineM (kw e.k) e (fieldsM e.k) = OUT at *
   generalize ((kw e.k) :: (fieldsM e.k).flatMap (partG id (swapB 32 95) noteT (fun n => SumM.digits n 16) Lib.decDigits e)).map str = PL at *
   clear HPL hm hr hB0 hs hv hw hmc hsm hk
   go_enter Tryz.func9, Tryz.ntmps9
   go_wp2_with fail
   refine HM.out.mono ?_
   rintro r w1 ⟨rfl, hb1⟩
   have HB1 := hid hb1
   clear hb1 c0 c1 c2 c3 c4 c5 c6 c7 c8 c9
   obtain ⟨c0, c1, c2, c3, c4, c5, c6, c7, c8, c9⟩ := ztd (HR2.out _ HB1.out)
   go_wp2_with fail
   have HB2 : Hid (Below (w.alloc (evO e)).heap.size (w.alloc (evO e)) w1.drew) := hid HB1.out.drew
   go_region_held3 (fun w' => w'.cell? ⟨w.heap.size, 0, none⟩ = some (.int .u8 e.k) ∧ w'.cell? ⟨w.heap.size, 1, none⟩ = some (.string (str e.who)) ∧ w'.cell? ⟨w.heap.size, 2, none⟩ = some (.string (str e.name)) ∧ w'.cell? ⟨w.heap.size, 3, none⟩ = some (.string (str e.ver)) ∧ w'.cell? ⟨w.heap.size, 4, none⟩ = some (.slice e.na e.needs.length e.nc) ∧ w'.cell? ⟨w.heap.size, 5, none⟩ = some (.int .u64 e.sum) ∧ w'.cell? ⟨w.heap.size, 6, none⟩ = some (.int .u32 e.n) ∧ w'.cell? ⟨w.heap.size, 7, none⟩ = some (.int .u32 e.size) ∧ w'.cell? ⟨w.heap.size, 8, none⟩ = some (.string (str e.holder)) ∧ w'.cell? ⟨w.heap.size, 9, none⟩ = some (.string (str e.note)))
    (first | exact ⟨c0, c1, c2, c3, c4, c5, c6, c7, c8, c9⟩ | exact ztd (HR2.out _ HB2.out) | exact hk3 | exact hk4 | exact hk5 | fail)
    (first
      | (go_at_call 37; refine (HAB.out _).mono ?_; rintro e' w3 ⟨rfl, hb3⟩; have HB3 := hid (HB2.out.trans (hb3.mono HB2.out.size)); have hk3 := ztd (HR2.out _ HB3.out); clear hb3)
      | (go_at_call 36; refine (HEV.out _ (HUP.out _ HB3.out)).mono ?_; rintro e' w4 ⟨v, P, rfl, hP4, ho4, hb4⟩; have HB4 := hid (HB3.out.trans (hb4.mono HB3.out.size)); have hk4 := ztd (HR2.out _ HB4.out); have HO4 := hid (HJ.out _ _ _ _ ho4 hP4); clear hb4 ho4 hP4)
      | (go_at_call 34; refine HO4.out.mono ?_; rintro e' w5 ⟨rfl, hb5⟩; have HB5 := hid (HB4.out.trans (hb5.mono HB4.out.size)); have hk5 := ztd (HR2.out _ HB5.out); clear hb5)
      | fail)
   all_goals (go_wp2_with fail)
   all_goals go_ret2
   all_goals exact ⟨rfl, HUP.out _ HB5.out⟩
end EvA
end
section
open Go.RowKit Go.Sort
namespace EvN
open StrC EvF EvC EvA
abbrev rdO : Obj := .cells #[.bool true, .string ⟨#[]⟩, .int .i64 0] 138
abbrev nilB : Obj := .cells #[.int .i64 20, .string ⟨#[]⟩, .int .i64 0, .nilIface] 55
theorem yca {w : World} {g i : Nat} {cs : Array Value} {t : TypeId} {fr : Nat × Nat} {v : Value} (h : w.heap[g]? = some (.cells cs t fr)) (hv : cs.setIfInBounds i v = cs) : Below w.heap.size w (w.setCell ⟨g, i, none⟩ v) :=
 ⟨rfl, rfl, rfl, by simp, fun k hk => by
  by_cases hkg : k = g
  · subst hkg; rw [ztq h, hv, h]
  · exact ztr i v hkg⟩
theorem ycb {w : World} {b : Nat} (h : w.heap[b]? = some rdO) : w.cell? ⟨b, 0, none⟩ = some (.bool true) ∧ w.cell? ⟨b, 1, none⟩ = some (.string ⟨#[]⟩) ∧ w.cell? ⟨b, 2, none⟩ = some (.int .i64 0) := by
 refine ⟨?_, ?_, ?_⟩ <;> simp [World.cell?, h]
theorem new_no (w : World) : Calls Tryz.prog 49 #[.string ⟨#[]⟩] w fun e w' => e = .returned (.pointer (some ⟨w.heap.size, 0, none⟩)) ∧ w' = w.alloc rdO := by
 go_enter Tryz.func49, Tryz.ntmps49
 go_wp2_with fail
 go_ret
 exact ⟨rfl, rfl⟩
theorem at_no (b : Nat) (w : World) (h : w.heap[b]? = some rdO) : Calls Tryz.prog 53 #[.pointer (some ⟨b, 0, none⟩)] w fun e w' => e = .returned (.int .i64 0) ∧ w = w' := by
 obtain ⟨-, -, h1⟩ := ycb h
 clear h
 go_enter Tryz.func53, Tryz.ntmps53
 go_wp2_with fail
 go_ret
 exact ⟨rfl, rfl⟩
theorem rest_no (b : Nat) (w : World) (h : w.heap[b]? = some rdO) : Calls Tryz.prog 106 #[.pointer (some ⟨b, 0, none⟩)] w fun e w' => e = .returned (.string ⟨#[]⟩) ∧ Below w.heap.size w w' := by
 obtain ⟨-, h2, h1⟩ := ycb h
 have hcut : ∀ w : World, (Instr.slice 9 (.string ⟨#[]⟩) (some (.int .i64 0)) none none).run Tryz.prog w = .ok (.string ⟨#[]⟩) w := by
  intro w
  rw [run_slice_string_l w 9 ⟨#[]⟩ Tryz.underlying9 .i64 0 (by decide) (by decide)]
  rfl
 clear h
 go_enter Tryz.func106, Tryz.ntmps106
 go_wp2_with fail
 go_quiet (fail)
 go_wp2_with fail
 go_ret
 exact ⟨rfl, ⟨rfl, rfl, rfl, Nat.le_refl _, fun _ _ => rfl⟩⟩
theorem ycc (b : Nat) (w : World) (h : w.heap[b]? = some rdO) : Calls Tryz.prog 131 #[.pointer (some ⟨b, 0, none⟩), .int .u64 1] w fun e w' => e = .returned (.tuple #[.string ⟨#[]⟩, .int .i64 20]) ∧ Below w.heap.size w w' := by
 have HR := hid (rest_no b w h)
 clear h
 go_enter Tryz.func131, Tryz.ntmps131
 go_wp2_with fail
 refine HR.out.mono ?_
 rintro e w1 ⟨rfl, hb⟩
 go_wp2_with fail
 go_ret2
 exact ⟨rfl, hb⟩
def endN (n : Nat) : Value := .func (.func 139) #[] #[.pointer (some ⟨n, 0, none⟩), .pointer (some ⟨n + 1, 0, none⟩)]
theorem ycd (b : Nat) (w : World) (h : w.heap[b]? = some rdO) :
 Calls Tryz.prog 105 #[.pointer (some ⟨b, 0, none⟩)] w fun e w' => e = .returned (endN w.heap.size) ∧ w' = (w.alloc (.cells #[.pointer (some ⟨b, 0, none⟩)] 82)).alloc (.cells #[.int .i64 0] 3) := by
 have HA := hid (at_no b (w.alloc (.cells #[.pointer (some ⟨b, 0, none⟩)] 82)) ((alW w _).block b (Array.getElem?_eq_some_iff.1 h).1 |>.trans h))
 clear h
 go_enter Tryz.func105, Tryz.ntmps105
 go_wp2_with fail
 refine HA.out.mono ?_
 rintro e w' ⟨rfl, rfl⟩
 go_wp2_with fail
 go_ret
 exact ⟨rfl, rfl⟩
theorem end_no (n b : Nat) (w : World) (hc : w.cell? ⟨n, 0, none⟩ = some (.pointer (some ⟨b, 0, none⟩))) (hf : w.cell? ⟨n + 1, 0, none⟩ = some (.int .i64 0)) (h : w.heap[b]? = some rdO) :
 Calls Tryz.prog 139 #[.int .i64 20, .pointer (some ⟨n, 0, none⟩), .pointer (some ⟨n + 1, 0, none⟩)] w fun e w' =>
  e = .returned (.iface 51 (.pointer (some ⟨w.heap.size, 0, none⟩))) ∧ Below w.heap.size w w' ∧ w'.heap[w.heap.size]? = some nilB := by
 obtain ⟨h1, -, h2⟩ := ycb h
 have h3 := zts h 2
 have HB := hid (yca (i := 2) (v := .int .i64 0) h rfl)
 clear h
 go_enter Tryz.func139, Tryz.ntmps139
 go_wp2_with fail
 go_ret
 refine ⟨by simp, HB.out.alloc (by simp) _, ?_⟩
 have := heap_alloc_new (w.setCell ⟨b, 2, none⟩ (.int .i64 0)) nilB
 simpa using this
theorem byte_no (b : Nat) (w : World) (h : w.heap[b]? = some rdO) :
 Calls Tryz.prog 92 #[.pointer (some ⟨b, 0, none⟩)] w fun e w' => ∃ f, e = .returned (.tuple #[.int .u8 0, .iface 51 (.pointer (some ⟨f, 0, none⟩))]) ∧ w.heap.size ≤ f ∧ w'.heap[f]? = some nilB ∧ Below w.heap.size w w' := by
 have hb2 : Below w.heap.size w ((w.alloc (.cells #[.pointer (some ⟨b, 0, none⟩)] 82)).alloc (.cells #[.int .i64 0] 3)) := chW (alW w _) (alW _ _)
 have HG := hid (ycd b w h)
 have HP := hid (ycc b _ ((hb2.block b (Array.getElem?_eq_some_iff.1 h).1).trans h))
 have hs : ((w.alloc (.cells #[.pointer (some ⟨b, 0, none⟩)] 82)).alloc (.cells #[.int .i64 0] 3)).heap.size = w.heap.size + 2 := by simp
 have hk1 : ((w.alloc (.cells #[.pointer (some ⟨b, 0, none⟩)] 82)).alloc (.cells #[.int .i64 0] 3)).heap[w.heap.size]? = some (.cells #[.pointer (some ⟨b, 0, none⟩)] 82) := by rw [heap_alloc_old _ _ (by simp)]; exact heap_alloc_new w _
 have hk2 : ((w.alloc (.cells #[.pointer (some ⟨b, 0, none⟩)] 82)).alloc (.cells #[.int .i64 0] 3)).heap[w.heap.size + 1]? = some (.cells #[.int .i64 0] 3) := by have := heap_alloc_new (w.alloc (.cells #[.pointer (some ⟨b, 0, none⟩)] 82)) (.cells #[.int .i64 0] 3); simpa using this
 have HE : Hid (∀ W, Below (w.heap.size + 2) ((w.alloc (.cells #[.pointer (some ⟨b, 0, none⟩)] 82)).alloc (.cells #[.int .i64 0] 3)) W → Calls Tryz.prog 139 #[.int .i64 20, .pointer (some ⟨w.heap.size, 0, none⟩), .pointer (some ⟨w.heap.size + 1, 0, none⟩)] W fun e w' =>
  e = .returned (.iface 51 (.pointer (some ⟨W.heap.size, 0, none⟩))) ∧ Below W.heap.size W w' ∧ w'.heap[W.heap.size]? = some nilB) := hid (fun W hb => end_no w.heap.size b W (by simp [World.cell?, (hb.block w.heap.size (by omega)).trans hk1]) (by simp [World.cell?, (hb.block (w.heap.size + 1) (by omega)).trans hk2]) ((hb.block b (by have := (Array.getElem?_eq_some_iff.1 h).1; omega)).trans ((hb2.block b (Array.getElem?_eq_some_iff.1 h).1).trans h)))
 have HB2 := hid hb2
 have HS := hid hs
 clear hb2 hs hk1 hk2 h
 go_enter Tryz.func92, Tryz.ntmps92
 go_wp2_with fail
 refine HG.out.mono ?_
 rintro e w1 ⟨rfl, rfl⟩
 unfold endN
 go_wp2_with fail
 refine HP.out.mono ?_
 rintro e w2 ⟨rfl, hb⟩
 have HB3 := hid (hb.mono (Nat.le_of_eq HS.out.symm))
 clear hb
 go_wp2_with fail
 refine (HE.out _ HB3.out).mono ?_
 rintro e w3 ⟨rfl, hb4, hf⟩
 go_wp2_with fail
 go_ret2
 exact ⟨_, rfl, by have := HB3.out.size; have := HS.out; omega, hf, (HB2.out.trans (HB3.out.mono (by omega))).trans (hb4.mono (by have := HB3.out.size; have := HS.out; omega))⟩
end EvN
end
section
open Go.RowKit Go.Extern.Stop Go.Stop Go.Extern
namespace ErrC
theorem eql_in (d : Nat) (a b : Int) (w : World) : (Op.equalIn (d + 2) 42 (.iface 30 (.int .i64 a)) (.iface 30 (.int .i64 b))).run Tryz.prog w = .ok (a == b) w := by
 obtain ⟨i, hi, hc⟩ := Option.map_eq_some_iff.1 (show (Tryz.prog.info? 30).map (·.comparable) = some true by kernel_rfl)
 simp [Op.equalIn, run_underlying Tryz.underlying42, run_underlying Tryz.underlying30, typeInfo, hi, hc]
theorem yce (a b : Int) (w : World) : (binOp .eql 42 (.iface 30 (.int .i64 a)) (.iface 30 (.int .i64 b))).run Tryz.prog w = .ok (.bool (a == b)) w := by
 simp only [binOp]
 simp [Op.equal, Op.maxDepth, eql_in 9998 a b w]
theorem to_en (v : Value) (w : World) : (ReflectliteType.typeOf #[.iface 30 v]).run Tryz.prog w = .ok (.iface 165 (.agg #[.pointer (some ⟨15, 30, none⟩)])) w := by kernel_rfl
theorem ycf : (Go.Extern.find Tryz.f335).isSome = true := by kernel_rfl
theorem ycg (w : World) : (callFunc 335 #[.agg #[.pointer (some ⟨15, 30, none⟩)]]).run Tryz.prog w = .ok (.value (.bool true)) w := by
 rw [run_callFunc_extern Tryz.func335 (by kernel_rfl) (by kernel_rfl) (by kernel_rfl) (Option.some_get ycf).symm,
  show (((Go.Extern.find Tryz.f335).get ycf) #[.agg #[.pointer (some ⟨15, 30, none⟩)]]).run Tryz.prog w = .ok (.bool true) w from by kernel_rfl]
 rfl
theorem m_cmp (v : Value) (w : World) : (Go.method 502 165 v "Comparable").run Tryz.prog w = .ok (335, v) w := by kernel_rfl
theorem ych (v : Value) (w : World) : (Go.method 502 51 v "Unwrap").run Tryz.prog w = .ok (328, v) w := by kernel_rfl
theorem no_is (v : Value) (xT : TypeId) (w : World) : (Instr.typeAssert (.iface 51 v) xT 176 true).run Tryz.prog w = .ok (.tuple #[.nilIface, .bool false]) w := run_typeAssert_lacksB Tryz.underlying176 (by kernel_rfl) (by kernel_rfl) v xT w
theorem yci (v : Value) (xT : TypeId) (w : World) : (Instr.typeAssert (.iface 51 v) xT 172 true).run Tryz.prog w = .ok (.tuple #[.nilIface, .bool false]) w := run_typeAssert_lacksB Tryz.underlying172 (by kernel_rfl) (by kernel_rfl) v xT w
theorem ycj (v : Value) (xT : TypeId) (w : World) : (Instr.typeAssert (.iface 51 v) xT 173 true).run Tryz.prog w = .ok (.tuple #[.iface 51 v, .bool true]) w := run_typeAssert_hasB Tryz.underlying173 (by kernel_rfl) v xT w
theorem yck (c : Int) (w : World) :
 Calls Tryz.prog 62 #[.iface 30 (.int .i64 c), .iface 30 (.int .i64 c), .bool true] w fun e w' => e = .returned (.bool true) ∧ w = w' := by
 have heq := yce c c
 go_enter Tryz.func62, Tryz.ntmps62
 go_wp2_with fail
 refine wp_loop_rounds 1 ?_
 rw [rounds_succ]
 go_wp2
 go_ret
 exact ⟨rfl, rfl⟩
theorem ycl (b o : Nat) (c : Int) (w : World) (hc : w.cell? ⟨b, o, none⟩ = some (.int .i64 c)) (hu : w.cell? ⟨b, o + 3, none⟩ = some .nilIface) :
 Calls Tryz.prog 328 #[.pointer (some ⟨b, o, none⟩)] w fun e w' => e = .returned (.slice (some ⟨w.heap.size, 0, none⟩) 1 1) ∧ w' = w.alloc (.cells #[.iface 30 (.int .i64 c)] 42) := by
 go_enter Tryz.func328, Tryz.ntmps328
 go_wp2
 go_ret
 exact ⟨rfl, rfl⟩
theorem ycm (b o : Nat) (c : Int) (w : World) (hc : w.cell? ⟨b, o, none⟩ = some (.int .i64 c)) (hu : w.cell? ⟨b, o + 3, none⟩ = some .nilIface) :
 Calls Tryz.prog 62 #[.iface 51 (.pointer (some ⟨b, o, none⟩)), .iface 30 (.int .i64 c), .bool true] w fun e w' => e = .returned (.bool true) ∧ w' = w.alloc (.cells #[.iface 30 (.int .i64 c)] 42) := by
 have y4 := ych
 have y5 := no_is
 have y6 := yci
 have y7 := ycj
 have y8 := run_eql_iface_types (P := Tryz.prog) 51 30 (.pointer (some ⟨b, o, none⟩)) (.int .i64 c) Tryz.underlying42 (by decide)
 go_enter Tryz.func62, Tryz.ntmps62
 go_wp2_with fail
 refine wp_loop_rounds 1 ?_
 rw [rounds_succ]
 go_wp2_with (go_at_call 328; refine (ycl _ _ _ _ hc hu).mono ?_; rintro e w' ⟨rfl, rfl⟩)
 refine wp_loop_rounds 1 ?_
 rw [rounds_succ]
 go_wp2_with (go_at_call 62; refine (yck _ _).mono ?_; rintro e w' ⟨rfl, rfl⟩)
 go_ret
 exact ⟨rfl, rfl⟩
end ErrC
end
end Go.Proofs.YtbiplmbcdhjiaaaGreatDoor
