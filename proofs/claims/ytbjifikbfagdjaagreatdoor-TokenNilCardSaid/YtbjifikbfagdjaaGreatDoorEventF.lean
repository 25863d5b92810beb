/-
  Which fields a kind of events names (wip/gen/eventfields.py writes this text).
-/
import Derived.Test.YtbjifikbfagdjaaGreatDoorEventLay
import Derived.Test.YtbjifikbfagdjaaGreatDoorStrB
import Derived.Sort.OwnSortedInts
import Derived.Laws.AppendOwn
import Derived.OwnWalk
import Derived.Lib.Hide
import Derived.WalkKit
namespace Go.Proofs.YtbjifikbfagdjaaGreatDoor
open Go.RowKit Go.Sort Go.Shelf
namespace EvF
set_option linter.unusedSimpArgs false
set_option linter.unusedVariables false

/-- the fields that a kind names, in order -/
def fieldsM (k : Nat) : List Int := match k with
  | 1 => [0, 4]
  | 2 => [0, 1, 2, 3, 4, 5, 6]
  | 3 => [0, 1, 2]
  | 4 => [0, 1, 2]
  | 5 => [0, 1, 2, 9]
  | 6 => [0, 1, 7]
  | 7 => [0, 1, 7]
  | 8 => [0, 7]
  | 9 => [0, 7, 8]
  | 10 => [0, 7, 8]
  | _ => []
theorem info_fd : (Tryz.prog.info? 144).map (fun i => (i.zero, i.size, i.bytes)) = some (some (.int .i64 0), 1, 8) := by kernel_rfl
def FRow (w : World) (D : Nat) (v : Value) (L : List Int) : Prop := w.ownsRow D 144 1 v L.length (L.map (Value.int .i64))
def FieldsE (L : List Int) (w : World) (e : Ending) (w' : World) : Prop := ∃ v, e = .returned v ∧ FRow w' w.heap.size v L ∧ Below w.heap.size w w'
theorem cells_newF (w : World) (l : List Value) (t : TypeId) : ∀ j u, l[j]? = some u → (w.alloc (.cells l.toArray t)).cell? ((⟨w.heap.size, 0, none⟩ : Addr).add j) = some u := by
  intro j u hu
  rw [Go.WideShapes.add_plain, Nat.zero_add]
  simp only [World.cell?, heap_alloc_new]
  simpa using hu
theorem ints_one (l : List Int) : ∀ u ∈ l.map (Value.int .i64), u.oneCell' = true := by
  intro u hu
  obtain ⟨x, -, rfl⟩ := List.mem_map.1 hu
  rfl
theorem merge_is {zs ss : List Int} (hp : zs.Perm ss) (hs : ss.Pairwise (· ≤ ·)) : zs.mergeSort (fun x y => decide (x ≤ y)) = ss := by
  have h1 : (zs.mergeSort (fun x y => decide (x ≤ y))).Pairwise (fun x y => decide (x ≤ y) = true) := List.pairwise_mergeSort (fun a b c => by simp; omega) (fun a b => by simp; omega) zs
  have h2 := List.mergeSort_perm zs (fun x y => decide (x ≤ y))
  exact List.Perm.eq_of_pairwise (le := fun x y => x ≤ y) (fun a b _ _ h k => Int.le_antisymm h k) (h1.imp fun h => by simpa using h) hs (h2.trans hp)
/-- slices.Sort at a row of fields of one's own -/
theorem sort_row {w : World} {D : Nat} {v : Value} (zs ss : List Int) (hm : zs.mergeSort (fun x y => decide (x ≤ y)) = ss) (hl : ss.length = zs.length) (h0 : 0 < zs.length) (hs : zs.length ≤ 1000) (hown : FRow w D v zs) :
    ∃ g cp, v = .slice (some ⟨g, 0, none⟩) zs.length cp ∧ D ≤ g ∧ Calls Tryz.prog 114 #[.slice (some ⟨g, 0, none⟩) zs.length cp] w fun e w' => e = .returned (.tuple #[]) ∧ FRow w' D (.slice (some ⟨g, 0, none⟩) zs.length cp) ss ∧ w.grownBy w' (some g) := by
  rcases hown.2 with ⟨hnil, hz⟩ | ⟨g, cp, cur, rfl, hbase, hblk, h1, h2, h3, h4⟩
  · omega
  · have hgl : g < w.heap.size := (Array.getElem?_eq_some_iff.1 hblk).1
    refine ⟨g, cp, rfl, hbase, (AnyG.slices_Sort_int Tryz.sortFd g 0 cp zs w (holds_of_blockI hblk (by rw [Nat.mul_one] at h4; exact h4)) hgl (by omega)).mono ?_⟩
    rintro e w' ⟨rfl, n, os, rfl⟩
    rw [hm]
    have ho := ownsRow_sortedI (n := n) (os := os) hl hbase hblk h1 h2 h3
    refine ⟨rfl, ?_, grownBy_sortedI _⟩
    unfold FRow
    rw [hl]
    exact ho
set_option maxHeartbeats 1000000 in
set_option maxRecDepth 100000 in
theorem fields_1 (w : World) : Calls Tryz.prog 81 #[.int .u8 1] w (FieldsE [0, 4] w) := by
  obtain ⟨i0, hi, hz0, hz1, hz2⟩ := info_parts info_fd
  have hm : ([0, 4] : List Int).mergeSort (fun x y => decide (x ≤ y)) = [0, 4] := merge_is (by decide) (by decide)
  go_enter Tryz.func81, Tryz.ntmps81
  go_wp2_with (first | (at_builtin; refine wpList_append_own _ rfl _ _ 143 rfl w.heap.size 144 i0 (.int .i64 0) 1 8 Tryz.underlying143 hi hz0 hz1 hz2 rfl (by decide) _ 0 [] rfl (World.ownsRow.alloc (World.ownsRow_nil w w.heap.size 144 1) _) ⟨w.heap.size, 0, none⟩ 2 2 [.int .i64 0, .int .i64 4] rfl rfl ?c1 ?c2 ?c3 ?c4 ?c5 ?_) | fail)
  case c1 => exact cells_newF w [.int .i64 0, .int .i64 4] 144
  case c2 => exact ints_one [0, 4]
  case c3 => unfold maxLen; decide
  case c4 => decide
  case c5 => simp
  intro v1 w1 hown1 hg1 _
  have hb1 : Below w.heap.size w w1 := ((Below.refl w.heap.size w).alloc (Nat.le_refl _) _).grown hg1 (by simp) (fun j hj => by cases hj)
  have hrow : FRow w1 w.heap.size v1 [0, 4] := hown1
  obtain ⟨g, cp, rfl, hbase, HS⟩ := sort_row [0, 4] [0, 4] hm rfl (by decide) (by decide) hrow
  have HSH := Lib.hid HS
  have HB := Lib.hid hb1
  clear HS
  go_wp2_with (first | (go_at_call 114; refine HSH.out.mono ?_; rintro e w' ⟨rfl, ho, hg⟩) | fail)
  go_ret
  exact ⟨_, rfl, ho, HB.out.grown hg HB.out.size (fun j hj => by cases hj; exact hbase)⟩
set_option maxHeartbeats 1000000 in
set_option maxRecDepth 100000 in
theorem fields_2 (w : World) : Calls Tryz.prog 81 #[.int .u8 2] w (FieldsE [0, 1, 2, 3, 4, 5, 6] w) := by
  obtain ⟨i0, hi, hz0, hz1, hz2⟩ := info_parts info_fd
  have hm : ([1, 2, 3, 5, 6, 0, 4] : List Int).mergeSort (fun x y => decide (x ≤ y)) = [0, 1, 2, 3, 4, 5, 6] := merge_is (by decide) (by decide)
  go_enter Tryz.func81, Tryz.ntmps81
  go_wp2_with (first | (at_builtin; refine wpList_append_own _ rfl _ _ 143 rfl w.heap.size 144 i0 (.int .i64 0) 1 8 Tryz.underlying143 hi hz0 hz1 hz2 rfl (by decide) _ 0 [] rfl (World.ownsRow.alloc (World.ownsRow_nil w w.heap.size 144 1) _) ⟨w.heap.size, 0, none⟩ 5 5 [.int .i64 1, .int .i64 2, .int .i64 3, .int .i64 5, .int .i64 6] rfl rfl ?c1 ?c2 ?c3 ?c4 ?c5 ?_) | fail)
  case c1 => exact cells_newF w [.int .i64 1, .int .i64 2, .int .i64 3, .int .i64 5, .int .i64 6] 144
  case c2 => exact ints_one [1, 2, 3, 5, 6]
  case c3 => unfold maxLen; decide
  case c4 => decide
  case c5 => simp
  intro v1 w1 hown1 hg1 _
  have hb1 : Below w.heap.size w w1 := ((Below.refl w.heap.size w).alloc (Nat.le_refl _) _).grown hg1 (by simp) (fun j hj => by cases hj)
  go_wp2_with (first | (at_builtin; refine wpList_append_own _ rfl _ _ 143 rfl w.heap.size 144 i0 (.int .i64 0) 1 8 Tryz.underlying143 hi hz0 hz1 hz2 rfl (by decide) _ 5 ([1, 2, 3, 5, 6].map (Value.int .i64)) rfl (World.ownsRow.alloc hown1 _) ⟨w1.heap.size, 0, none⟩ 2 2 [.int .i64 0, .int .i64 4] rfl rfl ?c1 ?c2 ?c3 ?c4 ?c5 ?_) | fail)
  case c1 => exact cells_newF w1 [.int .i64 0, .int .i64 4] 144
  case c2 => exact ints_one [0, 4]
  case c3 => unfold maxLen; decide
  case c4 => decide
  case c5 => have := hb1.size; simp; omega
  intro v2 w2 hown2 hg2 _
  have hb2 : Below w.heap.size w w2 := (hb1.alloc hb1.size _).grown hg2 (by have := hb1.size; simp; omega) (fun j hj => (World.ownsRow.lt hown1 j hj).1)
  have hrow : FRow w2 w.heap.size v2 [1, 2, 3, 5, 6, 0, 4] := hown2
  obtain ⟨g, cp, rfl, hbase, HS⟩ := sort_row [1, 2, 3, 5, 6, 0, 4] [0, 1, 2, 3, 4, 5, 6] hm rfl (by decide) (by decide) hrow
  have HSH := Lib.hid HS
  have HB := Lib.hid hb2
  clear HS
  go_wp2_with (first | (go_at_call 114; refine HSH.out.mono ?_; rintro e w' ⟨rfl, ho, hg⟩) | fail)
  go_ret
  exact ⟨_, rfl, ho, HB.out.grown hg HB.out.size (fun j hj => by cases hj; exact hbase)⟩
set_option maxHeartbeats 1000000 in
set_option maxRecDepth 100000 in
theorem fields_3 (w : World) : Calls Tryz.prog 81 #[.int .u8 3] w (FieldsE [0, 1, 2] w) := by
  obtain ⟨i0, hi, hz0, hz1, hz2⟩ := info_parts info_fd
  have hm : ([0, 1, 2] : List Int).mergeSort (fun x y => decide (x ≤ y)) = [0, 1, 2] := merge_is (by decide) (by decide)
  go_enter Tryz.func81, Tryz.ntmps81
  go_wp2_with (first | (at_builtin; refine wpList_append_own _ rfl _ _ 143 rfl w.heap.size 144 i0 (.int .i64 0) 1 8 Tryz.underlying143 hi hz0 hz1 hz2 rfl (by decide) _ 0 [] rfl (World.ownsRow.alloc (World.ownsRow_nil w w.heap.size 144 1) _) ⟨w.heap.size, 0, none⟩ 3 3 [.int .i64 0, .int .i64 1, .int .i64 2] rfl rfl ?c1 ?c2 ?c3 ?c4 ?c5 ?_) | fail)
  case c1 => exact cells_newF w [.int .i64 0, .int .i64 1, .int .i64 2] 144
  case c2 => exact ints_one [0, 1, 2]
  case c3 => unfold maxLen; decide
  case c4 => decide
  case c5 => simp
  intro v1 w1 hown1 hg1 _
  have hb1 : Below w.heap.size w w1 := ((Below.refl w.heap.size w).alloc (Nat.le_refl _) _).grown hg1 (by simp) (fun j hj => by cases hj)
  have hrow : FRow w1 w.heap.size v1 [0, 1, 2] := hown1
  obtain ⟨g, cp, rfl, hbase, HS⟩ := sort_row [0, 1, 2] [0, 1, 2] hm rfl (by decide) (by decide) hrow
  have HSH := Lib.hid HS
  have HB := Lib.hid hb1
  clear HS
  go_wp2_with (first | (go_at_call 114; refine HSH.out.mono ?_; rintro e w' ⟨rfl, ho, hg⟩) | fail)
  go_ret
  exact ⟨_, rfl, ho, HB.out.grown hg HB.out.size (fun j hj => by cases hj; exact hbase)⟩
set_option maxHeartbeats 1000000 in
set_option maxRecDepth 100000 in
theorem fields_4 (w : World) : Calls Tryz.prog 81 #[.int .u8 4] w (FieldsE [0, 1, 2] w) := by
  obtain ⟨i0, hi, hz0, hz1, hz2⟩ := info_parts info_fd
  have hm : ([0, 1, 2] : List Int).mergeSort (fun x y => decide (x ≤ y)) = [0, 1, 2] := merge_is (by decide) (by decide)
  go_enter Tryz.func81, Tryz.ntmps81
  go_wp2_with (first | (at_builtin; refine wpList_append_own _ rfl _ _ 143 rfl w.heap.size 144 i0 (.int .i64 0) 1 8 Tryz.underlying143 hi hz0 hz1 hz2 rfl (by decide) _ 0 [] rfl (World.ownsRow.alloc (World.ownsRow_nil w w.heap.size 144 1) _) ⟨w.heap.size, 0, none⟩ 3 3 [.int .i64 0, .int .i64 1, .int .i64 2] rfl rfl ?c1 ?c2 ?c3 ?c4 ?c5 ?_) | fail)
  case c1 => exact cells_newF w [.int .i64 0, .int .i64 1, .int .i64 2] 144
  case c2 => exact ints_one [0, 1, 2]
  case c3 => unfold maxLen; decide
  case c4 => decide
  case c5 => simp
  intro v1 w1 hown1 hg1 _
  have hb1 : Below w.heap.size w w1 := ((Below.refl w.heap.size w).alloc (Nat.le_refl _) _).grown hg1 (by simp) (fun j hj => by cases hj)
  have hrow : FRow w1 w.heap.size v1 [0, 1, 2] := hown1
  obtain ⟨g, cp, rfl, hbase, HS⟩ := sort_row [0, 1, 2] [0, 1, 2] hm rfl (by decide) (by decide) hrow
  have HSH := Lib.hid HS
  have HB := Lib.hid hb1
  clear HS
  go_wp2_with (first | (go_at_call 114; refine HSH.out.mono ?_; rintro e w' ⟨rfl, ho, hg⟩) | fail)
  go_ret
  exact ⟨_, rfl, ho, HB.out.grown hg HB.out.size (fun j hj => by cases hj; exact hbase)⟩
set_option maxHeartbeats 1000000 in
set_option maxRecDepth 100000 in
theorem fields_5 (w : World) : Calls Tryz.prog 81 #[.int .u8 5] w (FieldsE [0, 1, 2, 9] w) := by
  obtain ⟨i0, hi, hz0, hz1, hz2⟩ := info_parts info_fd
  have hm : ([9, 0, 1, 2] : List Int).mergeSort (fun x y => decide (x ≤ y)) = [0, 1, 2, 9] := merge_is (by decide) (by decide)
  go_enter Tryz.func81, Tryz.ntmps81
  go_wp2_with (first | (at_builtin; refine wpList_append_own _ rfl _ _ 143 rfl w.heap.size 144 i0 (.int .i64 0) 1 8 Tryz.underlying143 hi hz0 hz1 hz2 rfl (by decide) _ 0 [] rfl (World.ownsRow.alloc (World.ownsRow_nil w w.heap.size 144 1) _) ⟨w.heap.size, 0, none⟩ 1 1 [.int .i64 9] rfl rfl ?c1 ?c2 ?c3 ?c4 ?c5 ?_) | fail)
  case c1 => exact cells_newF w [.int .i64 9] 144
  case c2 => exact ints_one [9]
  case c3 => unfold maxLen; decide
  case c4 => decide
  case c5 => simp
  intro v1 w1 hown1 hg1 _
  have hb1 : Below w.heap.size w w1 := ((Below.refl w.heap.size w).alloc (Nat.le_refl _) _).grown hg1 (by simp) (fun j hj => by cases hj)
  go_wp2_with (first | (at_builtin; refine wpList_append_own _ rfl _ _ 143 rfl w.heap.size 144 i0 (.int .i64 0) 1 8 Tryz.underlying143 hi hz0 hz1 hz2 rfl (by decide) _ 1 ([9].map (Value.int .i64)) rfl (World.ownsRow.alloc hown1 _) ⟨w1.heap.size, 0, none⟩ 3 3 [.int .i64 0, .int .i64 1, .int .i64 2] rfl rfl ?c1 ?c2 ?c3 ?c4 ?c5 ?_) | fail)
  case c1 => exact cells_newF w1 [.int .i64 0, .int .i64 1, .int .i64 2] 144
  case c2 => exact ints_one [0, 1, 2]
  case c3 => unfold maxLen; decide
  case c4 => decide
  case c5 => have := hb1.size; simp; omega
  intro v2 w2 hown2 hg2 _
  have hb2 : Below w.heap.size w w2 := (hb1.alloc hb1.size _).grown hg2 (by have := hb1.size; simp; omega) (fun j hj => (World.ownsRow.lt hown1 j hj).1)
  have hrow : FRow w2 w.heap.size v2 [9, 0, 1, 2] := hown2
  obtain ⟨g, cp, rfl, hbase, HS⟩ := sort_row [9, 0, 1, 2] [0, 1, 2, 9] hm rfl (by decide) (by decide) hrow
  have HSH := Lib.hid HS
  have HB := Lib.hid hb2
  clear HS
  go_wp2_with (first | (go_at_call 114; refine HSH.out.mono ?_; rintro e w' ⟨rfl, ho, hg⟩) | fail)
  go_ret
  exact ⟨_, rfl, ho, HB.out.grown hg HB.out.size (fun j hj => by cases hj; exact hbase)⟩
set_option maxHeartbeats 1000000 in
set_option maxRecDepth 100000 in
theorem fields_6 (w : World) : Calls Tryz.prog 81 #[.int .u8 6] w (FieldsE [0, 1, 7] w) := by
  obtain ⟨i0, hi, hz0, hz1, hz2⟩ := info_parts info_fd
  have hm : ([0, 1, 7] : List Int).mergeSort (fun x y => decide (x ≤ y)) = [0, 1, 7] := merge_is (by decide) (by decide)
  go_enter Tryz.func81, Tryz.ntmps81
  go_wp2_with (first | (at_builtin; refine wpList_append_own _ rfl _ _ 143 rfl w.heap.size 144 i0 (.int .i64 0) 1 8 Tryz.underlying143 hi hz0 hz1 hz2 rfl (by decide) _ 0 [] rfl (World.ownsRow.alloc (World.ownsRow_nil w w.heap.size 144 1) _) ⟨w.heap.size, 0, none⟩ 3 3 [.int .i64 0, .int .i64 1, .int .i64 7] rfl rfl ?c1 ?c2 ?c3 ?c4 ?c5 ?_) | fail)
  case c1 => exact cells_newF w [.int .i64 0, .int .i64 1, .int .i64 7] 144
  case c2 => exact ints_one [0, 1, 7]
  case c3 => unfold maxLen; decide
  case c4 => decide
  case c5 => simp
  intro v1 w1 hown1 hg1 _
  have hb1 : Below w.heap.size w w1 := ((Below.refl w.heap.size w).alloc (Nat.le_refl _) _).grown hg1 (by simp) (fun j hj => by cases hj)
  have hrow : FRow w1 w.heap.size v1 [0, 1, 7] := hown1
  obtain ⟨g, cp, rfl, hbase, HS⟩ := sort_row [0, 1, 7] [0, 1, 7] hm rfl (by decide) (by decide) hrow
  have HSH := Lib.hid HS
  have HB := Lib.hid hb1
  clear HS
  go_wp2_with (first | (go_at_call 114; refine HSH.out.mono ?_; rintro e w' ⟨rfl, ho, hg⟩) | fail)
  go_ret
  exact ⟨_, rfl, ho, HB.out.grown hg HB.out.size (fun j hj => by cases hj; exact hbase)⟩
set_option maxHeartbeats 1000000 in
set_option maxRecDepth 100000 in
theorem fields_7 (w : World) : Calls Tryz.prog 81 #[.int .u8 7] w (FieldsE [0, 1, 7] w) := by
  obtain ⟨i0, hi, hz0, hz1, hz2⟩ := info_parts info_fd
  have hm : ([0, 1, 7] : List Int).mergeSort (fun x y => decide (x ≤ y)) = [0, 1, 7] := merge_is (by decide) (by decide)
  go_enter Tryz.func81, Tryz.ntmps81
  go_wp2_with (first | (at_builtin; refine wpList_append_own _ rfl _ _ 143 rfl w.heap.size 144 i0 (.int .i64 0) 1 8 Tryz.underlying143 hi hz0 hz1 hz2 rfl (by decide) _ 0 [] rfl (World.ownsRow.alloc (World.ownsRow_nil w w.heap.size 144 1) _) ⟨w.heap.size, 0, none⟩ 3 3 [.int .i64 0, .int .i64 1, .int .i64 7] rfl rfl ?c1 ?c2 ?c3 ?c4 ?c5 ?_) | fail)
  case c1 => exact cells_newF w [.int .i64 0, .int .i64 1, .int .i64 7] 144
  case c2 => exact ints_one [0, 1, 7]
  case c3 => unfold maxLen; decide
  case c4 => decide
  case c5 => simp
  intro v1 w1 hown1 hg1 _
  have hb1 : Below w.heap.size w w1 := ((Below.refl w.heap.size w).alloc (Nat.le_refl _) _).grown hg1 (by simp) (fun j hj => by cases hj)
  have hrow : FRow w1 w.heap.size v1 [0, 1, 7] := hown1
  obtain ⟨g, cp, rfl, hbase, HS⟩ := sort_row [0, 1, 7] [0, 1, 7] hm rfl (by decide) (by decide) hrow
  have HSH := Lib.hid HS
  have HB := Lib.hid hb1
  clear HS
  go_wp2_with (first | (go_at_call 114; refine HSH.out.mono ?_; rintro e w' ⟨rfl, ho, hg⟩) | fail)
  go_ret
  exact ⟨_, rfl, ho, HB.out.grown hg HB.out.size (fun j hj => by cases hj; exact hbase)⟩
set_option maxHeartbeats 1000000 in
set_option maxRecDepth 100000 in
theorem fields_8 (w : World) : Calls Tryz.prog 81 #[.int .u8 8] w (FieldsE [0, 7] w) := by
  obtain ⟨i0, hi, hz0, hz1, hz2⟩ := info_parts info_fd
  have hm : ([0, 7] : List Int).mergeSort (fun x y => decide (x ≤ y)) = [0, 7] := merge_is (by decide) (by decide)
  go_enter Tryz.func81, Tryz.ntmps81
  go_wp2_with (first | (at_builtin; refine wpList_append_own _ rfl _ _ 143 rfl w.heap.size 144 i0 (.int .i64 0) 1 8 Tryz.underlying143 hi hz0 hz1 hz2 rfl (by decide) _ 0 [] rfl (World.ownsRow.alloc (World.ownsRow_nil w w.heap.size 144 1) _) ⟨w.heap.size, 0, none⟩ 2 2 [.int .i64 0, .int .i64 7] rfl rfl ?c1 ?c2 ?c3 ?c4 ?c5 ?_) | fail)
  case c1 => exact cells_newF w [.int .i64 0, .int .i64 7] 144
  case c2 => exact ints_one [0, 7]
  case c3 => unfold maxLen; decide
  case c4 => decide
  case c5 => simp
  intro v1 w1 hown1 hg1 _
  have hb1 : Below w.heap.size w w1 := ((Below.refl w.heap.size w).alloc (Nat.le_refl _) _).grown hg1 (by simp) (fun j hj => by cases hj)
  have hrow : FRow w1 w.heap.size v1 [0, 7] := hown1
  obtain ⟨g, cp, rfl, hbase, HS⟩ := sort_row [0, 7] [0, 7] hm rfl (by decide) (by decide) hrow
  have HSH := Lib.hid HS
  have HB := Lib.hid hb1
  clear HS
  go_wp2_with (first | (go_at_call 114; refine HSH.out.mono ?_; rintro e w' ⟨rfl, ho, hg⟩) | fail)
  go_ret
  exact ⟨_, rfl, ho, HB.out.grown hg HB.out.size (fun j hj => by cases hj; exact hbase)⟩
set_option maxHeartbeats 1000000 in
set_option maxRecDepth 100000 in
theorem fields_9 (w : World) : Calls Tryz.prog 81 #[.int .u8 9] w (FieldsE [0, 7, 8] w) := by
  obtain ⟨i0, hi, hz0, hz1, hz2⟩ := info_parts info_fd
  have hm : ([8, 0, 7] : List Int).mergeSort (fun x y => decide (x ≤ y)) = [0, 7, 8] := merge_is (by decide) (by decide)
  go_enter Tryz.func81, Tryz.ntmps81
  go_wp2_with (first | (at_builtin; refine wpList_append_own _ rfl _ _ 143 rfl w.heap.size 144 i0 (.int .i64 0) 1 8 Tryz.underlying143 hi hz0 hz1 hz2 rfl (by decide) _ 0 [] rfl (World.ownsRow.alloc (World.ownsRow_nil w w.heap.size 144 1) _) ⟨w.heap.size, 0, none⟩ 1 1 [.int .i64 8] rfl rfl ?c1 ?c2 ?c3 ?c4 ?c5 ?_) | fail)
  case c1 => exact cells_newF w [.int .i64 8] 144
  case c2 => exact ints_one [8]
  case c3 => unfold maxLen; decide
  case c4 => decide
  case c5 => simp
  intro v1 w1 hown1 hg1 _
  have hb1 : Below w.heap.size w w1 := ((Below.refl w.heap.size w).alloc (Nat.le_refl _) _).grown hg1 (by simp) (fun j hj => by cases hj)
  go_wp2_with (first | (at_builtin; refine wpList_append_own _ rfl _ _ 143 rfl w.heap.size 144 i0 (.int .i64 0) 1 8 Tryz.underlying143 hi hz0 hz1 hz2 rfl (by decide) _ 1 ([8].map (Value.int .i64)) rfl (World.ownsRow.alloc hown1 _) ⟨w1.heap.size, 0, none⟩ 2 2 [.int .i64 0, .int .i64 7] rfl rfl ?c1 ?c2 ?c3 ?c4 ?c5 ?_) | fail)
  case c1 => exact cells_newF w1 [.int .i64 0, .int .i64 7] 144
  case c2 => exact ints_one [0, 7]
  case c3 => unfold maxLen; decide
  case c4 => decide
  case c5 => have := hb1.size; simp; omega
  intro v2 w2 hown2 hg2 _
  have hb2 : Below w.heap.size w w2 := (hb1.alloc hb1.size _).grown hg2 (by have := hb1.size; simp; omega) (fun j hj => (World.ownsRow.lt hown1 j hj).1)
  have hrow : FRow w2 w.heap.size v2 [8, 0, 7] := hown2
  obtain ⟨g, cp, rfl, hbase, HS⟩ := sort_row [8, 0, 7] [0, 7, 8] hm rfl (by decide) (by decide) hrow
  have HSH := Lib.hid HS
  have HB := Lib.hid hb2
  clear HS
  go_wp2_with (first | (go_at_call 114; refine HSH.out.mono ?_; rintro e w' ⟨rfl, ho, hg⟩) | fail)
  go_ret
  exact ⟨_, rfl, ho, HB.out.grown hg HB.out.size (fun j hj => by cases hj; exact hbase)⟩
set_option maxHeartbeats 1000000 in
set_option maxRecDepth 100000 in
theorem fields_10 (w : World) : Calls Tryz.prog 81 #[.int .u8 10] w (FieldsE [0, 7, 8] w) := by
  obtain ⟨i0, hi, hz0, hz1, hz2⟩ := info_parts info_fd
  have hm : ([8, 0, 7] : List Int).mergeSort (fun x y => decide (x ≤ y)) = [0, 7, 8] := merge_is (by decide) (by decide)
  go_enter Tryz.func81, Tryz.ntmps81
  go_wp2_with (first | (at_builtin; refine wpList_append_own _ rfl _ _ 143 rfl w.heap.size 144 i0 (.int .i64 0) 1 8 Tryz.underlying143 hi hz0 hz1 hz2 rfl (by decide) _ 0 [] rfl (World.ownsRow.alloc (World.ownsRow_nil w w.heap.size 144 1) _) ⟨w.heap.size, 0, none⟩ 1 1 [.int .i64 8] rfl rfl ?c1 ?c2 ?c3 ?c4 ?c5 ?_) | fail)
  case c1 => exact cells_newF w [.int .i64 8] 144
  case c2 => exact ints_one [8]
  case c3 => unfold maxLen; decide
  case c4 => decide
  case c5 => simp
  intro v1 w1 hown1 hg1 _
  have hb1 : Below w.heap.size w w1 := ((Below.refl w.heap.size w).alloc (Nat.le_refl _) _).grown hg1 (by simp) (fun j hj => by cases hj)
  go_wp2_with (first | (at_builtin; refine wpList_append_own _ rfl _ _ 143 rfl w.heap.size 144 i0 (.int .i64 0) 1 8 Tryz.underlying143 hi hz0 hz1 hz2 rfl (by decide) _ 1 ([8].map (Value.int .i64)) rfl (World.ownsRow.alloc hown1 _) ⟨w1.heap.size, 0, none⟩ 2 2 [.int .i64 0, .int .i64 7] rfl rfl ?c1 ?c2 ?c3 ?c4 ?c5 ?_) | fail)
  case c1 => exact cells_newF w1 [.int .i64 0, .int .i64 7] 144
  case c2 => exact ints_one [0, 7]
  case c3 => unfold maxLen; decide
  case c4 => decide
  case c5 => have := hb1.size; simp; omega
  intro v2 w2 hown2 hg2 _
  have hb2 : Below w.heap.size w w2 := (hb1.alloc hb1.size _).grown hg2 (by have := hb1.size; simp; omega) (fun j hj => (World.ownsRow.lt hown1 j hj).1)
  have hrow : FRow w2 w.heap.size v2 [8, 0, 7] := hown2
  obtain ⟨g, cp, rfl, hbase, HS⟩ := sort_row [8, 0, 7] [0, 7, 8] hm rfl (by decide) (by decide) hrow
  have HSH := Lib.hid HS
  have HB := Lib.hid hb2
  clear HS
  go_wp2_with (first | (go_at_call 114; refine HSH.out.mono ?_; rintro e w' ⟨rfl, ho, hg⟩) | fail)
  go_ret
  exact ⟨_, rfl, ho, HB.out.grown hg HB.out.size (fun j hj => by cases hj; exact hbase)⟩

end EvF
end Go.Proofs.YtbjifikbfagdjaaGreatDoor
