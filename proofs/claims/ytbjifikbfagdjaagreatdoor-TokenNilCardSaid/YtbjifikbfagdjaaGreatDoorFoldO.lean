/-
  Package fold: Of one account's event.
-/
import Derived.Test.YtbjifikbfagdjaaGreatDoorFoldG
namespace Go.Proofs.YtbjifikbfagdjaaGreatDoor
open Go.RowKit Go.Maps Go.Sort
namespace FoldC
open StrC EvF EvC EvA TextR EvN
open VerC (Vw)
set_option linter.unusedSimpArgs false
set_option linter.unusedVariables false
set_option maxRecDepth 100000

abbrev eZ : Obj := .cells #[.int .u8 0, .string ⟨#[]⟩, .string ⟨#[]⟩, .string ⟨#[]⟩, .slice none 0 0, .int .u64 0, .int .u32 0, .int .u32 0, .string ⟨#[]⟩, .string ⟨#[]⟩] 51
/-- a state with one account -/
structure OneE (e : EvG) (w : World) (r : Ending) (w' : World) : Prop where
  ex : ∃ s m1 m2 m3 m4 m5, r = .returned (.tuple #[pS s, .int .i64 1, .nilIface]) ∧ StA w' s 1 m1 m2 m3 m4 m5 1 0 ((DataW.map [] : DataW Unit).put (keyS e.who) (.lit (.int .u64 e.sum))) (.map []) ∧ w.heap.size ≤ s ∧ w.heap.size ≤ m1 ∧ m1 ≠ s ∧ m1 ≠ m2 ∧ m2 ≠ s
  low : Below w.heap.size w w'
set_option maxHeartbeats 4000000 in
theorem of_1 {w : World} {g : Nat} (e : EvG) (hg : w.heap[g]? = some (evO e)) (hk : e.k = 1) (hz : EvSz e) (hl : e.who.length ≤ maxLen) (hv : Vw w) (t : ByteArray) (ht : w.cell? ⟨1, 1, none⟩ = some (.string t))
    (hn : e.na = none) (hn2 : e.needs = []) (hn3 : e.nc = 0) (hm : mayL e true [0, 4] = true) (hsum : (Lit.int .u64 e.sum).wf = true) :
    Calls Tryz.prog 28 #[.slice (some ⟨g, 0, none⟩) 1 1] w (OneE e w) := by
  have HNEW := Lib.hid (new_any w)
  have HW6 : ∃ W6, W6 = ((((((w.alloc (.map #[] 0)).alloc (.map #[] 0)).alloc (.map #[] 0)).alloc (.map #[] 0)).alloc (.map #[] 0)).alloc (stO 0 w.heap.size (w.heap.size + 1) (w.heap.size + 2) (w.heap.size + 3) (w.heap.size + 4))) := ⟨_, rfl⟩
  obtain ⟨W6, hW6⟩ := HW6
  rw [← hW6] at HNEW
  have hb6 : Below w.heap.size w W6 := by rw [hW6]; exact chW (alW w _) (chW (alW _ _) (chW (alW _ _) (chW (alW _ _) (chW (alW _ _) (alW _ _)))))
  have hs6 : StA W6 (w.heap.size + 5) 0 w.heap.size (w.heap.size + 1) (w.heap.size + 2) (w.heap.size + 3) (w.heap.size + 4) 0 0 (.map []) (.map []) := by
    rw [hW6]
    refine ⟨?_, ?_, ?_⟩
    · have := heap_alloc_new (((((w.alloc (.map #[] 0)).alloc (.map #[] 0)).alloc (.map #[] 0)).alloc (.map #[] 0)).alloc (.map #[] 0)) (stO 0 w.heap.size (w.heap.size + 1) (w.heap.size + 2) (w.heap.size + 3) (w.heap.size + 4))
      simpa using this
    · exact (((((World.ownsMap_made w _ _ _).alloc _).alloc _).alloc _).alloc _).alloc _
    · have := ((((World.ownsMap_made (w.alloc (.map #[] 0)) Tryz.prog 9 eM).alloc (.map #[] 0)).alloc (.map #[] 0)).alloc (.map #[] 0)).alloc (stO 0 w.heap.size (w.heap.size + 1) (w.heap.size + 2) (w.heap.size + 3) (w.heap.size + 4))
      simpa using this
  clear hW6
  have hgl : g < w.heap.size := (Array.getElem?_eq_some_iff.1 hg).1
  have hg6 := (hb6.block g hgl).trans hg
  have hzz := heap_alloc_new W6 eZ
  have hb8 : Below W6.heap.size W6 (W6.alloc (evO e)) := alW W6 _
  have hr8 : (W6.alloc (evO e)).heap[W6.heap.size]? = some (evO e) := heap_alloc_new W6 _
  have hb68 : Below w.heap.size w (W6.alloc (evO e)) := chW hb6 hb8
  have HAP := Lib.hid (apply_1 (hs6.gr hb8) (by omega) (by omega) (by omega) e hk hz hl (hv.gr hb68) t ((hb68.cell (World.block_lt_of_cell? _ _ ht)).trans ht) hn hn2 hn3 hm (by rfl) (by rfl) (by unfold maxLen; omega) hsum (by omega) (by omega) 0)
  have HB68 := Lib.hid hb68
  have HG6 : W6.heap[g]? = some (evO e) := hg6
  have hga : ((W6.alloc eZ)).heap[g]? = some (evO e) := by rw [heap_alloc_old _ _ (Array.getElem?_eq_some_iff.1 hg6).1]; exact hg6
  have HSZ : Hid (w.heap.size ≤ W6.heap.size) := Lib.hid hb6.size
  clear hg hk hz hl hv ht hn hn2 hn3 hm hsum hb6 hs6 hgl hg6 hb8 hb68
  go_enter Tryz.func28, Tryz.ntmps28
  go_wp2_with fail
  refine HNEW.out.mono ?_
  rintro r w1 ⟨rfl, rfl⟩
  go_wp2_with fail
  refine wp_loop_rounds 2 ?_
  rw [rounds_succ]
  go_wp2_with (first
    | (refine wpList_load_row rfl 51 _ rfl g rfl _ _ _ _ HG6 Tryz.underlying51 rfl info_ev ?_)
    | (refine wpList_store_row rfl 51 _ _ rfl W6.heap.size (evL e).toArray rfl rfl _ _ hzz info_ev rfl (ev_one e) ?_)
    | (refine wpList_load_row rfl 51 _ rfl W6.heap.size rfl _ _ _ _ hr8 Tryz.underlying51 rfl info_ev ?_)
    | fail)
  refine HAP.out.mono ?_
  rintro r w9 ⟨rfl, HE⟩
  have HE' := Lib.hid HE
  clear HE hzz hr8 hga HG6
  go_wp2_with fail
  rw [rounds_succ]
  go_wp2_with fail
  go_ret3
  refine ⟨⟨_, _, _, _, _, _, rfl, HE'.out.st, by omega, Nat.le_refl _, by omega, by omega, by omega⟩, ?_⟩
  exact HE'.out.kp.low HB68.out HB68.out.size (fun k hk => by rcases hk with rfl | rfl <;> omega)
end FoldC
end Go.Proofs.YtbjifikbfagdjaaGreatDoor
