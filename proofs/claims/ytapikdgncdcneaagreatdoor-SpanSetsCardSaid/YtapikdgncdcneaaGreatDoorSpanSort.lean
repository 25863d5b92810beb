/-
  slices.SortFunc at package span's stretches, by where they begin.
-/
import Derived.Test.YtapikdgncdcneaaGreatDoorSpanP4
import Derived.Test.YtapikdgncdcneaaGreatDoorSpanSortLay
namespace Go.Proofs.YtapikdgncdcneaaGreatDoor
open Go.RowKit
namespace SpanC
open VerM SpanM StrC TextR VerC Go.Sort Go.Shelf
set_option linter.unusedSimpArgs false

theorem st_agg (w : World) : (isAgg 73).run Tryz.prog w = .ok true w := by kernel_rfl
theorem st_size (w : World) : (Go.sizeOf 73).run Tryz.prog w = .ok 10 w := by kernel_rfl
set_option maxHeartbeats 2000000 in
set_option maxRecDepth 100000 in
theorem prise_any (x y : StR) (w : World) (hx : StOk w x) (hy : StOk w y) :
    Calls Tryz.prog 67 #[stV x, stV y] w fun e w' => e = .returned (.int .i64 (cE x.st.f y.st.f)) ∧ Gr w w' := by
  have HC := Lib.hid (fun w' (g : Gr w w') => pcmp_any x.f y.f w' (hx.f.gr g.below) (hy.f.gr g.below))
  have HG : Hid (Gr w ((w.alloc (stO x)).alloc (stO y))) := Lib.hid (((Gr.refl w).alloc _).alloc _)
  obtain ⟨r, hr⟩ : ∃ r, cE x.f.ed y.f.ed = r := ⟨_, rfl⟩
  have HE : Hid (cE x.st.f y.st.f = r) := Lib.hid hr
  rw [hr] at HC
  clear hx hy hr
  obtain ⟨⟨vx, ax, cx, s1⟩, ⟨vx2, ax2, cx2, s12⟩⟩ := x
  obtain ⟨⟨vy, ay, cy, s2⟩, ⟨vy2, ay2, cy2, s22⟩⟩ := y
  dsimp only at *
  go_enter Tryz.func67, Tryz.ntmps67
  go_wp2_with (go_at_call 54; refine (HC.out _ HG.out).mono ?_; rintro e w2 ⟨rfl, hg2⟩)
  go_ret
  exact ⟨by rw [HE.out]; rfl, HG.out.trans hg2⟩
/-- a stretch whose texts lie in the world ahead of the sort -/
structure TS (w : World) where
  x : StR
  ok : StOk w x
instance (w : World) : Inhabited (TS w) := ⟨⟨⟨⟨zeroV, none, 0, 0⟩, ⟨zeroV, none, 0, 0⟩⟩, ⟨⟨⟨zeroV_may, by show 0 ≤ 2; omega, fun h => by cases h⟩, Txs.nil _ _ _, fun b f e => (by cases e), fun _ => ⟨rfl, rfl⟩⟩, ⟨⟨zeroV_may, by show 0 ≤ 2; omega, fun h => by cases h⟩, Txs.nil _ _ _, fun b f e => (by cases e), fun _ => ⟨rfl, rfl⟩⟩⟩⟩⟩
def encTS {w : World} (x : TS w) : List Value := stL x.x
def cmpTS {w : World} (x y : TS w) : Int := cE x.x.st.f y.x.st.f
theorem swoTS (w : World) : Go.Sort.SWO (ltOf (cmpTS (w := w))) where
  irrefl x := by unfold ltOf cmpTS; rw [cE_self]; rfl
  trans x y z h1 h2 := by
    unfold ltOf cmpTS at *
    rw [decide_eq_true_eq] at *
    exact lt_le h1 (by omega)
  ntrans x y z h1 h2 := by
    unfold ltOf cmpTS at *
    rw [decide_eq_false_iff_not] at *
    intro h3
    have a1 := cE_anti x.x.st.f y.x.st.f
    have a2 := cE_anti y.x.st.f z.x.st.f
    have := lt_le h3 (show cE z.x.st.f y.x.st.f ≤ 0 by have := cE_anti z.x.st.f y.x.st.f; omega)
    omega
theorem ts_at {w : World} (x : TS w) {α : Type} [Inhabited α] (enc : α → List Value) (k blk m : Nat) (dk : Array α) (os : Array Obj) (hb : ¬ IsText w blk) : StOk (sortWorldK enc k w blk 0 m dk os) x.x :=
  x.ok.keep hb fun j hj hne => (RowKC.grownBy_sortedK enc k dk).block j hj (by simp; exact fun e => hne e)
theorem psortSt_any (blk cap : Nat) (w : World) (d : Array (TS w)) (hH : HoldsK encTS 10 w blk 0 d) (hblk : blk < w.heap.size) (hb : ¬ IsText w blk) (hsz : d.size < 4611686018427387904) :
    Calls Tryz.prog 66 #[.slice (some ⟨blk, 0, none⟩) d.size cap, .func (.func 67) #[] #[]] w fun e w' =>
      e = .returned (.tuple #[]) ∧ ∃ d' n os, Go.Sort.PermIn 0 d.size d d' ∧ Go.Sort.SortedIn (ltOf cmpTS) 0 d.size d' ∧ w' = sortWorldK encTS 10 w blk 0 n d' os := by
  have eg : ∀ args w, (callFunc 67 args).run Tryz.prog w = .ok (.enter 67 args) w := enters_of Tryz.func67 (by kernel_rfl) rfl
  exact AnyQ.slices_SortFunc Tryz.sortSt 10 st_agg st_size encTS (fun _ => rfl) (fun x => st_ones x.x) cmpTS (swoTS w) 67 #[] blk 0 cap d w eg
    (fun m os dk _ x y => (prise_any x.x y.x _ (ts_at x _ _ _ _ _ _ hb) (ts_at y _ _ _ _ _ _ hb)).mono fun _ _ h => ⟨h.1, h.2.grow⟩) hH hblk hsz
/-- what the sort leaves -/
theorem sorted_sts {w : World} {d d' : Array (TS w)} (hp : Go.Sort.PermIn 0 d.size d d') (hs : Go.Sort.SortedIn (ltOf cmpTS) 0 d.size d') : d'.size = d.size ∧ (d'.toList.map (fun x => x.x.st)).Pairwise (fun a b => cE a.f b.f ≤ 0) ∧ (∀ x, x ∈ d'.toList.map (·.x) ↔ x ∈ d.toList.map (·.x)) := by
  obtain ⟨h1, _, h2⟩ := hp
  refine ⟨h1, ?_, fun x => ?_⟩
  · rw [List.pairwise_map, List.pairwise_iff_getElem]
    intro i j hi hj hij
    have := hs i j (by omega) hij (by simpa [h1] using hj)
    unfold ltOf at this
    rw [decide_eq_false_iff_not] at this
    simp only [Array.length_toList] at hi hj
    rw [getElem!_pos d' i hi, getElem!_pos d' j hj] at this
    unfold cmpTS at this
    have a := cE_anti d'[i].x.st.f d'[j].x.st.f
    simp only [Array.getElem_toList]
    omega
  · have e1 : d'.extract 0 d.size = d' := by rw [← h1]; simp
    have e2 : d.extract 0 d.size = d := by simp
    rw [e1, e2] at h2
    exact (h2.map (·.x)).mem_iff
end SpanC
end Go.Proofs.YtapikdgncdcneaaGreatDoor
