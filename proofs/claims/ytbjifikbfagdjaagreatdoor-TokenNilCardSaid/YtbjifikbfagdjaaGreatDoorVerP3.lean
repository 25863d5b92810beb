/-
  Package version's Is, Cmp, Order: one contract a function.
-/
import Derived.Test.YtbjifikbfagdjaaGreatDoorVerCmp
namespace Go.Proofs.YtbjifikbfagdjaaGreatDoor
open Go.RowKit
namespace VerC
open VerM StrC TextR
set_option linter.unusedSimpArgs false

theorem readE_ret {l : B} {w : World} {e : Ending} (h : ReadE l w e) : ∃ x, e = .returned x := by
  unfold ReadE at h
  split at h
  · obtain ⟨a, cap, he, _⟩ := h; exact ⟨_, he⟩
  · exact ⟨_, h⟩
/-- package version's Read, its value by name -/
theorem pRead_val (l : B) (w : World) (hv : Vw w) :
    Calls Tryz.prog 160 #[.string (str l)] w fun e w' => ∃ x, e = .returned x ∧ ReadE l w' (.returned x) ∧ Below w.heap.size w w' :=
  (pRead_any l w hv).mono fun e w' ⟨he, hb⟩ => by
    obtain ⟨x, rfl⟩ := readE_ret he
    exact ⟨x, rfl, he, hb⟩
set_option maxHeartbeats 1000000 in
theorem pIs_any (l : B) (w : World) (hv : Vw w) :
    Calls Tryz.prog 135 #[.string (str l)] w fun e w' => e = .returned (.bool (isT l)) ∧ Below w.heap.size w w' := by
  have HR := Lib.hid (pRead_val l w hv)
  clear hv
  go_enter Tryz.func135, Tryz.ntmps135
  go_wp2_with (go_at_call 160; refine HR.out.mono ?_; rintro e w2 ⟨x2, rfl, he, hb⟩; refine Hid.out ?_)
  refine Lib.hid ?_
  have HB := Lib.hid hb
  have HS := Lib.hid hb.size
  clear hb
  rcases readE_cases he with ⟨v, a, cap, hv, rfl, hT⟩ | ⟨hv, rfl⟩
  · have HI := Lib.hid (isT_of hv)
    clear hv hT he
    go_wp2_with fail
    go_ret
    exact ⟨by rw [HI.out]; rfl, HB.out.alloc HS.out _⟩
  · have HI := Lib.hid (isT_no hv)
    clear hv he
    go_wp2_with fail
    go_ret
    exact ⟨by rw [HI.out]; rfl, HB.out.alloc HS.out _⟩
/-- how Order ends -/
def ordE (a b : B) : Ending := match readB a, readB b with | some v, some u => .returned (.tuple #[.int .i64 (cmpV v u), .int .i64 0]) | _, _ => .returned (.tuple #[.int .i64 0, .int .i64 70])
theorem ordE_some {a b : B} {v u : Ver} (h1 : readB a = some v) (h2 : readB b = some u) : ordE a b = .returned (.tuple #[.int .i64 (cmpV v u), .int .i64 0]) := by unfold ordE; rw [h1, h2]
theorem ordE_none1 {a b : B} (h1 : readB a = none) : ordE a b = .returned (.tuple #[.int .i64 0, .int .i64 70]) := by unfold ordE; rw [h1]
theorem ordE_none2 {a b : B} (h2 : readB b = none) : ordE a b = .returned (.tuple #[.int .i64 0, .int .i64 70]) := by unfold ordE; rw [h2]; split <;> simp_all
set_option maxHeartbeats 4000000 in
set_option maxRecDepth 100000 in
theorem pOrder_any (a b : B) (w : World) (hv : Vw w) :
    Calls Tryz.prog 139 #[.string (str a), .string (str b)] w fun e w' => e = ordE a b ∧ Below w.heap.size w w' := by
  have HR := Lib.hid (pRead_val a w hv)
  have HV := Lib.hid hv
  clear hv
  go_enter Tryz.func139, Tryz.ntmps139
  go_wp2_with (go_at_call 160; refine HR.out.mono ?_; rintro e w2 ⟨x2, rfl, he, hb⟩; refine Hid.out ?_)
  refine Lib.hid ?_
  have HB := Lib.hid hb
  clear hb
  rcases readE_cases he with ⟨v, a1, c1, hv1, rfl, hT1⟩ | ⟨hv1, rfl⟩
  · have HV1 := Lib.hid hv1
    have HT1 := Lib.hid hT1
    have HB1 := Lib.hid (HB.out.alloc HB.out.size (verO v.a v.b v.c a1 v.pre.length c1))
    have HR2 := Lib.hid (pRead_val b (w2.alloc (verO v.a v.b v.c a1 v.pre.length c1)) (HV.out.gr HB1.out))
    have hn1 := heap_alloc_new w2 (verO v.a v.b v.c a1 v.pre.length c1)
    have hs1 : (w2.alloc (verO v.a v.b v.c a1 v.pre.length c1)).heap.size = w2.heap.size + 1 := by simp
    clear hv1 hT1 he HR
    go_wp2_with (go_at_call 160; refine HR2.out.mono ?_; rintro e w3 ⟨x3, rfl, he, hb⟩; refine Hid.out ?_)
    refine Lib.hid ?_
    have hr3 := (hb.block w2.heap.size (by rw [hs1]; omega)).trans hn1
    have HB3 := Lib.hid (HB1.out.trans (hb.mono (by have := HB.out.size; rw [hs1]; omega)))
    have HT3 := Lib.hid ((HT1.out.alloc (verO v.a v.b v.c a1 v.pre.length c1)).gr hb)
    clear hb HR2 hn1 hs1 HB1 HT1
    rcases readE_cases he with ⟨u, a2, c2, hv2, rfl, hT2⟩ | ⟨hv2, rfl⟩
    · have HE := Lib.hid (ordE_some HV1.out hv2)
      have hm1 := (read_text HV1.out).2.2
      have hm2 := (read_text hv2).2.2
      have hw3 : w2.heap.size < w3.heap.size := (Array.getElem?_eq_some_iff.1 hr3).1
      have hr4 := (heap_alloc_old w3 (verO u.a u.b u.c a2 u.pre.length c2) (r := w2.heap.size) hw3).trans hr3
      have hn4 := heap_alloc_new w3 (verO u.a u.b u.c a2 u.pre.length c2)
      have HB4 := Lib.hid (HB3.out.alloc HB3.out.size (verO u.a u.b u.c a2 u.pre.length c2))
      have HC := Lib.hid (pcompare_any v u a1 c1 a2 c2 (w3.alloc (verO u.a u.b u.c a2 u.pre.length c2)) (HT3.out.alloc _) (hT2.alloc _) hm1 hm2)
      have hs4 : w3.heap.size ≤ (w3.alloc (verO u.a u.b u.c a2 u.pre.length c2)).heap.size := by simp
      clear hm1 hm2 hT2 hv2 he HV1 hr3
      go_wp2_with (first
        | (refine wpList_load_row rfl 190 _ rfl w2.heap.size rfl _ _ _ _ hr4 Tryz.underlying190 rfl info_ver ?_)
        | (refine wpList_load_row rfl 190 _ rfl w3.heap.size rfl _ _ _ _ hn4 Tryz.underlying190 rfl info_ver ?_)
        | (go_at_call 164; refine HC.out.mono ?_; rintro e w5 ⟨rfl, hg5⟩))
      go_ret2
      exact ⟨by rw [HE.out]; rfl, HB4.out.trans (hg5.below.mono HB4.out.size)⟩
    · have HE := Lib.hid (ordE_none2 (a := a) hv2)
      have HB4 := Lib.hid (HB3.out.alloc HB3.out.size (verO 0 0 0 none 0 0))
      clear hv2 he HV1 hr3 HT3
      go_wp2_with fail
      go_ret2
      exact ⟨by rw [HE.out]; rfl, HB4.out⟩
  · have HE := Lib.hid (ordE_none1 (b := b) hv1)
    have HB1 := Lib.hid (HB.out.alloc HB.out.size (verO 0 0 0 none 0 0))
    have HR2 := Lib.hid (pRead_val b (w2.alloc (verO 0 0 0 none 0 0)) (HV.out.gr HB1.out))
    have hs1 : (w2.alloc (verO 0 0 0 none 0 0)).heap.size = w2.heap.size + 1 := by simp
    clear hv1 he HR
    go_wp2_with (go_at_call 160; refine HR2.out.mono ?_; rintro e w3 ⟨x3, rfl, he, hb⟩; refine Hid.out ?_)
    refine Lib.hid ?_
    have HB3 := Lib.hid (HB1.out.trans (hb.mono (by have := HB.out.size; rw [hs1]; omega)))
    clear hb HR2 hs1 HB1
    rcases readE_cases he with ⟨u, a2, c2, hv2, rfl, hT2⟩ | ⟨hv2, rfl⟩
    · have HB4 := Lib.hid (HB3.out.alloc HB3.out.size (verO u.a u.b u.c a2 u.pre.length c2))
      clear hT2 hv2 he
      go_wp2_with fail
      go_ret2
      exact ⟨by rw [HE.out]; rfl, HB4.out⟩
    · have HB4 := Lib.hid (HB3.out.alloc HB3.out.size (verO 0 0 0 none 0 0))
      clear hv2 he
      go_wp2_with fail
      go_ret2
      exact ⟨by rw [HE.out]; rfl, HB4.out⟩
end VerC
end Go.Proofs.YtbjifikbfagdjaaGreatDoor
