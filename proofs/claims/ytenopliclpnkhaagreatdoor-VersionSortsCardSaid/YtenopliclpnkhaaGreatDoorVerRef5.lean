/-
  The document's own answers for layer 7: Order, Same, Least, Next: one contract a function.
-/
import Derived.Test.YtenopliclpnkhaaGreatDoorVerRef4
namespace Go.Proofs.YtenopliclpnkhaaGreatDoor
open Go.RowKit
namespace VerC
open VerM StrC TextR
set_option linter.unusedSimpArgs false

/-- how the document's Order ends -/
def rordE (a b : B) : Ending := match readB a, readB b with | some v, some u => .returned (.tuple #[.int .i64 (cmpV v u), .int .i64 0]) | _, _ => .returned (.tuple #[.int .i64 0, .int .i64 70])
theorem rordE_some {a b : B} {v u : Ver} (h1 : readB a = some v) (h2 : readB b = some u) : rordE a b = .returned (.tuple #[.int .i64 (cmpV v u), .int .i64 0]) := by unfold rordE; rw [h1, h2]
theorem rordE_none1 {a b : B} (h1 : readB a = none) : rordE a b = .returned (.tuple #[.int .i64 0, .int .i64 70]) := by unfold rordE; rw [h1]
theorem rordE_none2 {a b : B} (h2 : readB b = none) : rordE a b = .returned (.tuple #[.int .i64 0, .int .i64 70]) := by unfold rordE; rw [h2]; split <;> simp_all
set_option maxHeartbeats 4000000 in
set_option maxRecDepth 100000 in
theorem rOrderT_any (a b : B) (w : World) :
    Calls Tryz.prog 14 #[.string (str a), .string (str b)] w fun e w' => e = rordE a b ∧ Below w.heap.size w w' := by
  have HR := Lib.hid (rRead_val a w)
  go_enter Tryz.func14, Tryz.ntmps14
  go_wp2_with (go_at_call 27; refine HR.out.mono ?_; rintro e w2 ⟨x2, rfl, he, hb⟩; refine Hid.out ?_)
  refine Lib.hid ?_
  have HB := Lib.hid hb
  clear hb
  rcases readE_cases he with ⟨v, a1, c1, hv1, rfl, hT1⟩ | ⟨hv1, rfl⟩
  · have HV1 := Lib.hid hv1
    have HT1 := Lib.hid hT1
    have HB1 := Lib.hid (HB.out.alloc HB.out.size (verO v.a v.b v.c a1 v.pre.length c1))
    have HR2 := Lib.hid (rRead_val b (w2.alloc (verO v.a v.b v.c a1 v.pre.length c1)))
    have hn1 := heap_alloc_new w2 (verO v.a v.b v.c a1 v.pre.length c1)
    have hs1 : (w2.alloc (verO v.a v.b v.c a1 v.pre.length c1)).heap.size = w2.heap.size + 1 := by simp
    clear hv1 hT1 he HR
    go_wp2_with (go_at_call 27; refine HR2.out.mono ?_; rintro e w3 ⟨x3, rfl, he, hb⟩; refine Hid.out ?_)
    refine Lib.hid ?_
    have hr3 := (hb.block w2.heap.size (by rw [hs1]; omega)).trans hn1
    have HB3 := Lib.hid (HB1.out.trans (hb.mono (by have := HB.out.size; rw [hs1]; omega)))
    have HT3 := Lib.hid ((HT1.out.alloc (verO v.a v.b v.c a1 v.pre.length c1)).gr hb)
    clear hb HR2 hn1 hs1 HB1 HT1
    rcases readE_cases he with ⟨u, a2, c2, hv2, rfl, hT2⟩ | ⟨hv2, rfl⟩
    · have HE := Lib.hid (rordE_some HV1.out hv2)
      have hm1 := (read_text HV1.out).2.2
      have hm2 := (read_text hv2).2.2
      have hw3 : w2.heap.size < w3.heap.size := (Array.getElem?_eq_some_iff.1 hr3).1
      have hr4 := (heap_alloc_old w3 (verO u.a u.b u.c a2 u.pre.length c2) (r := w2.heap.size) hw3).trans hr3
      have hn4 := heap_alloc_new w3 (verO u.a u.b u.c a2 u.pre.length c2)
      have HB4 := Lib.hid (HB3.out.alloc HB3.out.size (verO u.a u.b u.c a2 u.pre.length c2))
      have HC := Lib.hid (rCmp_any v u a1 c1 a2 c2 (w3.alloc (verO u.a u.b u.c a2 u.pre.length c2)) (HT3.out.alloc _) (hT2.alloc _) hm1 hm2)
      have hs4 : w3.heap.size ≤ (w3.alloc (verO u.a u.b u.c a2 u.pre.length c2)).heap.size := by simp
      clear hm1 hm2 hT2 hv2 he HV1 hr3
      go_wp2_with (first
        | (refine wpList_load_row rfl 32 _ rfl w2.heap.size rfl _ _ _ _ hr4 Tryz.underlying32 rfl info_ver ?_)
        | (refine wpList_load_row rfl 32 _ rfl w3.heap.size rfl _ _ _ _ hn4 Tryz.underlying32 rfl info_ver ?_)
        | (go_at_call 28; refine HC.out.mono ?_; rintro e w5 ⟨rfl, hb5⟩))
      go_ret2
      exact ⟨by rw [HE.out]; rfl, HB4.out.trans (hb5.mono HB4.out.size)⟩
    · have HE := Lib.hid (rordE_none2 (a := a) hv2)
      have HB4 := Lib.hid (HB3.out.alloc HB3.out.size (verO 0 0 0 none 0 0))
      clear hv2 he HV1 hr3 HT3
      go_wp2_with fail
      go_ret2
      exact ⟨by rw [HE.out]; rfl, HB4.out⟩
  · have HE := Lib.hid (rordE_none1 (b := b) hv1)
    have HB1 := Lib.hid (HB.out.alloc HB.out.size (verO 0 0 0 none 0 0))
    have HR2 := Lib.hid (rRead_val b (w2.alloc (verO 0 0 0 none 0 0)))
    have hs1 : (w2.alloc (verO 0 0 0 none 0 0)).heap.size = w2.heap.size + 1 := by simp
    clear hv1 he HR
    go_wp2_with (go_at_call 27; refine HR2.out.mono ?_; rintro e w3 ⟨x3, rfl, he, hb⟩; refine Hid.out ?_)
    refine Lib.hid ?_
    have HB3 := Lib.hid (HB1.out.trans (hb.mono (by have := HB.out.size; rw [hs1]; omega)))
    clear hb HR2 hs1 HB1
    rcases readE_cases he with ⟨u, a2, c2, hv2, rfl, hT2⟩ | ⟨hv2, rfl⟩
    · have HB4 := Lib.hid (HB3.out.alloc HB3.out.size (verO u.a u.b u.c a2 u.pre.length c2))
      clear hT2 hv2 he
      go_wp2_with fail
      go_ret2
      exact ⟨by rw [HE.out]; rfl, HB4.out⟩
    · have HB4 := Lib.hid (HB3.out.alloc HB3.out.size (verO 0 0 0 none 0 0))
      clear hv2 he
      go_wp2_with fail
      go_ret2
      exact ⟨by rw [HE.out]; rfl, HB4.out⟩
/-- the same version -/
def sameB (v u : Ver) : Bool := decide (v.a = u.a) && decide (v.b = u.b) && decide (v.c = u.c) && decide (v.pre = u.pre)
theorem same_no {v u : Ver} (h : ¬ (v.a = u.a ∧ v.b = u.b ∧ v.c = u.c ∧ v.pre.length = u.pre.length)) : sameB v u = false := by
  unfold sameB
  rw [Bool.eq_false_iff]
  intro e
  simp only [Bool.and_eq_true, decide_eq_true_eq] at e
  exact h ⟨e.1.1.1, e.1.1.2, e.1.2, by rw [e.2]⟩
theorem same_self (v : Ver) : sameB v v = true := by simp [sameB]
theorem take_same {p q : TL} {k : Nat} (h1 : k < p.length) (h2 : k < q.length) : (p.take (k + 1) = q.take (k + 1)) ↔ p.take k = q.take k ∧ p.getD k [] = q.getD k [] := by
  rw [List.take_add_one, List.take_add_one, List.getElem?_eq_getElem h1, List.getElem?_eq_getElem h2]
  constructor
  · intro e
    have hl : (p.take k).length = (q.take k).length := by rw [List.length_take, List.length_take]; omega
    have := List.append_inj e hl
    exact ⟨this.1, by simpa [h1, h2] using this.2⟩
  · rintro ⟨e1, e2⟩
    rw [e1]
    congr 1
    simpa [h1, h2] using e2
theorem str_bne {a b : B} : ((str a).toList != (str b).toList) = !decide (a = b) := by rw [bne, str_beq]
end VerC
end Go.Proofs.YtenopliclpnkhaaGreatDoor
