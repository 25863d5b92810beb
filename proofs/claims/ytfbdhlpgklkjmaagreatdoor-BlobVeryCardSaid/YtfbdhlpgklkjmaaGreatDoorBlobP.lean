/-
  Package blob's order of blobs, and what slices.SortFunc makes of a row of them.
-/
import Derived.Test.YtfbdhlpgklkjmaaGreatDoorBlobMath
import Derived.Test.YtfbdhlpgklkjmaaGreatDoorBlobLay
import Derived.Test.YtfbdhlpgklkjmaaGreatDoorVerMem
import Derived.Test.YtfbdhlpgklkjmaaGreatDoorRowK
import Derived.WalkKit
import Derived.Lib.Hide
import Derived.Deep.RegionHeld3
namespace Go.Proofs.YtfbdhlpgklkjmaaGreatDoor
open Go.RowKit Go.Sort Go.Shelf
namespace BlobC
open BlobM
set_option linter.unusedSimpArgs false
set_option linter.unusedVariables false

theorem pcmp64_any (x y : Nat) (w : World) : Calls Tryz.prog 59 #[.int .u64 x, .int .u64 y] w fun e w' => e = .returned (.int .i64 (cmpN x y)) ∧ w = w' := by
  have H := Lib.hid (show cmpN x y = if x < y then -1 else if y < x then 1 else 0 from rfl)
  generalize cmpN x y = r at *
  go_enter Tryz.func59, Tryz.ntmps59
  go_wp2
  all_goals go_ret
  all_goals exact ⟨by rw [H.out]; (repeat' split) <;> first | rfl | omega, rfl⟩
theorem pcmp32_any (x y : Nat) (w : World) : Calls Tryz.prog 60 #[.int .u32 x, .int .u32 y] w fun e w' => e = .returned (.int .i64 (cmpN x y)) ∧ w = w' := by
  have H := Lib.hid (show cmpN x y = if x < y then -1 else if y < x then 1 else 0 from rfl)
  generalize cmpN x y = r at *
  go_enter Tryz.func60, Tryz.ntmps60
  go_wp2
  all_goals go_ret
  all_goals exact ⟨by rw [H.out]; (repeat' split) <;> first | rfl | omega, rfl⟩
theorem por_any (x y : Int) (g : Nat) (w : World) (c0 : w.cell? ⟨g, 0, none⟩ = some (.int .i64 x)) (c1 : w.cell? ⟨g, 1, none⟩ = some (.int .i64 y)) :
    Calls Tryz.prog 58 #[.slice (some ⟨g, 0, none⟩) 2 2] w fun e w' => e = .returned (.int .i64 (if x ≠ 0 then x else y)) ∧ w = w' := by
  obtain ⟨r, hr⟩ : ∃ r, r = (if x ≠ 0 then x else y) := ⟨_, rfl⟩
  rw [← hr]
  have H := Lib.hid hr
  clear hr
  go_enter Tryz.func58, Tryz.ntmps58
  go_wp2
  refine wp_loop_rounds 3 ?_
  rw [rounds_succ]
  by_cases hx : x = 0
  · subst hx
    go_wp2_with fail
    rw [rounds_succ]
    by_cases hy : y = 0
    · subst hy
      go_wp2_with fail
      rw [rounds_succ]
      go_wp2_with fail
      go_ret
      exact ⟨by rw [H.out]; simp, rfl⟩
    · have hd : decide (y = 0) = false := decide_eq_false hy
      go_wp2_with fail
      go_ret
      exact ⟨by rw [H.out]; simp, rfl⟩
  · have hd : decide (x = 0) = false := decide_eq_false hx
    go_wp2_with fail
    go_ret
    exact ⟨by rw [H.out]; simp [hx], rfl⟩
abbrev bV (x : Bl) : Value := .agg #[.int .u64 x.1, .int .u32 x.2]
abbrev bO (x : Bl) : Obj := .cells #[.int .u64 x.1, .int .u32 x.2] 38
theorem b_cells {w : World} {g : Nat} {x : Bl} (h : w.heap[g]? = some (bO x)) : w.cell? ⟨g, 0, none⟩ = some (.int .u64 x.1) ∧ w.cell? ⟨g, 1, none⟩ = some (.int .u32 x.2) := by
  refine ⟨?_, ?_⟩ <;> simp [World.cell?, h]
set_option maxHeartbeats 4000000 in
theorem order_any (x y : Bl) (w : World) : Calls Tryz.prog 33 #[bV x, bV y] w fun e w' => e = .returned (.int .i64 (cmpB x y)) ∧ VerC.Gr w w' := by
  obtain ⟨a0, a1⟩ := b_cells (heap_alloc_new w (bO x))
  obtain ⟨b0, b1⟩ := b_cells (heap_alloc_new (w.alloc (bO x)) (bO y))
  have q0 := VerC.cell_on (bO y) a0
  have q1 := VerC.cell_on (bO y) a1
  have HC : Hid (cmpB x y = if cmpN x.1 y.1 ≠ 0 then cmpN x.1 y.1 else cmpN x.2 y.2) := Lib.hid rfl
  have HC1 := Lib.hid (fun w => pcmp64_any x.1 y.1 w)
  have HC2 := Lib.hid (fun w => pcmp32_any x.2 y.2 w)
  have HG : Hid (VerC.Gr w ((w.alloc (bO x)).alloc (bO y))) := Lib.hid (((VerC.Gr.refl w).alloc _).alloc _)
  have hs : (w.alloc (bO x)).heap.size = w.heap.size + 1 := by simp
  rw [hs] at b0 b1
  clear a0 a1
  generalize cmpB x y = R at *
  generalize cmpN x.1 y.1 = c1 at *
  generalize cmpN x.2 y.2 = c2 at *
  go_enter Tryz.func33, Tryz.ntmps33
  go_upto_region 1 with fail
  generalize hW : (w.alloc (bO x)).alloc (bO y) = W at *
  have hlt : w.heap.size + 1 < W.heap.size := World.block_lt_of_cell? _ _ b0
  have HO : Hid (∀ W0 : World, Calls Tryz.prog 58 #[.slice (some ⟨W0.heap.size, 0, none⟩) 2 2] (W0.alloc (.cells #[.int .i64 c1, .int .i64 c2] 3)).drew fun e w' => e = .returned (.int .i64 R) ∧ (W0.alloc (.cells #[.int .i64 c1, .int .i64 c2] 3)).drew = w') := Lib.hid (fun W0 => by rw [HC.out]; exact por_any c1 c2 W0.heap.size _ (by show (W0.alloc _).cell? _ = _; rw [World.cell?_alloc_at _ _ _ _ rfl]; rfl) (by show (W0.alloc _).cell? _ = _; rw [World.cell?_alloc_at _ _ _ _ rfl]; rfl))
  go_region_held3 (fun w' => w'.cell? ⟨w.heap.size, 0, none⟩ = some (.int .u64 x.1) ∧ w'.cell? ⟨w.heap.size, 1, none⟩ = some (.int .u32 x.2) ∧ w'.cell? ⟨w.heap.size + 1, 0, none⟩ = some (.int .u64 y.1) ∧ w'.cell? ⟨w.heap.size + 1, 1, none⟩ = some (.int .u32 y.2))
    (first | exact ⟨q0, q1, b0, b1⟩ | exact ⟨VerC.cell_on _ q0, VerC.cell_on _ q1, VerC.cell_on _ b0, VerC.cell_on _ b1⟩ | fail)
    (first
      | (go_at_call 59; refine (HC1.out _).mono ?_; rintro e w' ⟨rfl, rfl⟩)
      | (go_at_call 60; refine (HC2.out _).mono ?_; rintro e w' ⟨rfl, rfl⟩)
      | (go_at_call 58; refine (HO.out _).mono ?_; rintro e w' ⟨rfl, rfl⟩)
      | fail)
  all_goals (go_wp2_with fail)
  all_goals go_ret
  all_goals exact ⟨rfl, (HG.out.alloc _).drew⟩
def encB (x : Bl) : List Value := [.int .u64 x.1, .int .u32 x.2]
theorem encB_length (x : Bl) : (encB x).length = 2 := rfl
theorem bl_agg (w : World) : (isAgg 38).run Tryz.prog w = .ok true w := by kernel_rfl
theorem bl_size (w : World) : (Go.sizeOf 38).run Tryz.prog w = .ok 2 w := by kernel_rfl
theorem psortBl_any (blk cap : Nat) (w : World) (d : Array Bl) (hH : HoldsK encB 2 w blk 0 d) (hblk : blk < w.heap.size) (hsz : d.size < 4611686018427387904) :
    Calls Tryz.prog 32 #[.slice (some ⟨blk, 0, none⟩) d.size cap, .func (.func 33) #[] #[]] w fun e w' =>
      e = .returned (.tuple #[]) ∧ ∃ d' n os, Go.Sort.PermIn 0 d.size d d' ∧ Go.Sort.SortedIn (ltOf cmpB) 0 d.size d' ∧ w' = sortWorldK encB 2 w blk 0 n d' os := by
  have eg : ∀ args w, (callFunc 33 args).run Tryz.prog w = .ok (.enter 33 args) w := enters_of Tryz.func33 (by kernel_rfl) rfl
  exact AnyQ.slices_SortFunc Tryz.sortBl 2 bl_agg bl_size encB (fun _ => rfl) (fun x v hv => by simp only [encB, List.mem_cons, List.not_mem_nil, or_false] at hv; rcases hv with rfl | rfl <;> rfl) cmpB swoB 33 #[] blk 0 cap d w eg
    (fun m os dk _ x y => (order_any x y _).mono fun _ _ h => ⟨h.1, h.2.grow⟩) hH hblk hsz
theorem sorted_bls {d d' : Array Bl} (hp : Go.Sort.PermIn 0 d.size d d') (hs : Go.Sort.SortedIn (ltOf cmpB) 0 d.size d') : d'.size = d.size ∧ d'.toList.Pairwise (fun a b => ¬ cmpB b a < 0) ∧ ∀ x, x ∈ d'.toList ↔ x ∈ d.toList := by
  obtain ⟨h1, _, h2⟩ := hp
  refine ⟨h1, ?_, fun x => ?_⟩
  · rw [List.pairwise_iff_getElem]
    intro i j hi hj hij
    have := hs i j (by omega) hij (by simpa [h1] using hj)
    unfold ltOf at this
    rw [decide_eq_false_iff_not] at this
    simp only [Array.length_toList] at hi hj
    rw [getElem!_pos d' i hi, getElem!_pos d' j hj] at this
    simpa using this
  · have e1 : d'.extract 0 d.size = d' := by rw [← h1]; simp
    have e2 : d.extract 0 d.size = d := by simp
    rw [e1, e2] at h2
    exact h2.mem_iff
end BlobC
end Go.Proofs.YtfbdhlpgklkjmaaGreatDoor
