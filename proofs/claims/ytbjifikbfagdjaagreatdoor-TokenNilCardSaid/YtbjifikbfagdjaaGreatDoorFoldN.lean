/-
  Package fold: the keys of a map, rising; a state's accounts.
-/
import Derived.Test.YtbjifikbfagdjaaGreatDoorFoldG
import Derived.Test.YtbjifikbfagdjaaGreatDoorNameLay
import Derived.Maps.OwnSet
import Derived.Maps.RangeWalk
import Derived.Maps.AppendAt
import Derived.Sort.KeysCollected
import Derived.Sort.OwnSorted
namespace Go.Proofs.YtbjifikbfagdjaaGreatDoor
open Go.RowKit Go.Maps Go.Sort
namespace FoldC
open StrC EvF EvC EvA TextR EvN
set_option linter.unusedSimpArgs false
set_option linter.unusedVariables false
set_option maxRecDepth 100000

/-- keys that rise, and are all that the map has -/
structure Keys (D : DataW Unit) (ks : List (List UInt8)) : Prop where
  rise : ks.Pairwise (fun a b => a < b)
  mem : ∀ x, x ∈ ks ↔ Maps.has D (.string x) = true
theorem keys_perm {D : DataW Unit} {ks ss : List (List UInt8)} (h : Keys D ks) (hn : ss.Nodup) (hm : ∀ x, x ∈ ss ↔ Maps.has D (.string x) = true) : ss.Perm ks := by
  refine (List.perm_ext_iff_of_nodup hn (h.rise.imp (fun h e => by rw [e] at h; exact List.lt_irrefl _ h))).2 fun x => ?_
  rw [hm x, h.mem]
theorem keys_sort {D : DataW Unit} {ks ss : List (List UInt8)} (h : Keys D ks) (hp : ss.Perm ks) : ss.mergeSort (fun x y => decide (x ≤ y)) = ks := by
  have tr : ∀ a b c : List UInt8, leB a b = true → leB b c = true → leB a c = true := fun a b c h1 h2 => by simp only [leB, decide_eq_true_eq] at *; exact List.le_trans h1 h2
  have tt : ∀ a b : List UInt8, (leB a b || leB b a) = true := fun a b => by simp only [leB, Bool.or_eq_true, decide_eq_true_eq]; exact List.le_total a b
  refine List.Perm.eq_of_pairwise (le := fun a b => leB a b = true) (fun a b _ _ h1 h2 => ?_) (List.pairwise_mergeSort tr tt ss) (h.rise.imp (fun h => ?_)) ((List.mergeSort_perm ss leB).trans hp)
  · simp only [leB, decide_eq_true_eq] at h1 h2
    exact List.le_antisymm h1 h2
  · simp only [leB, decide_eq_true_eq]
    exact List.le_of_lt h
theorem keys_cells (ks : List (List UInt8)) : ks.map encStr = (ks.map str).map Value.string := by
  rw [List.map_map]
  apply List.map_congr_left
  intro f _
  rfl
set_option maxHeartbeats 4000000 in
theorem names_any {m n : Nat} {D : DataW Unit} {w : World} (hown : w.ownsMap Tryz.prog 9 RA m n D) (hsz : Maps.size D ≤ 65536) {ks : List (List UInt8)} (hk : Keys D ks) :
    Calls Tryz.prog 36 #[.map (some m)] w fun e w' => ∃ u, e = .returned u ∧ OwnT w' w.heap.size u (ks.map str) ∧ Below w.heap.size w w' := by
  have hbl : m < w.heap.size := hown.lt
  have HK := Lib.hid hk
  have hmax : Maps.size D ≤ maxLen := by unfold maxLen; omega
  clear hk
  obtain ⟨i0, hi, hz0, hz1, hz2⟩ := info_parts TextR.info_text
  go_enter Tryz.func36, Tryz.ntmps36
  go_wp2_with (first
    | (at_range; refine wpList_range_own _ rfl _ 78 rfl 9 29 keyed Tryz.underlying78 _ m n _ rfl hown ?_; intro w2 hrg0 hg0 hs0)
    | fail)
  go_frame
  go_loopw [3] (fun v wr => ∃ (left : Lit → Bool) (cnt : Nat) (ss : List (List UInt8)), wr.ranges Tryz.prog 9 RA m w.heap.size n D left cnt ∧ ss.length + cnt ≤ Maps.size D ∧
      wr.ownsRow w.heap.size 9 1 v ss.length (ss.map encStr) ∧ Hid (Collected D left ss) ∧ Below w.heap.size w wr)
    (fun _ wr => wr.rangeLeft m w.heap.size)
  case atStart =>
    exact ⟨_, _, [], hrg0, by simp, World.ownsRow_nil _ _ _ _, Lib.hid (Collected.start D), (Below.refl _ _).grown hg0 (Nat.le_refl _) (fun j hj => by cases hj)⟩
  case round =>
    obtain ⟨left, cnt, ss, hrg, hcs, hrow, HC, hnx⟩ := hrel
    rename World => wr
    go_wp2_with (at_next; refine wpList_next_ranges _ rfl _ rfl 9 keyed RA encStr (id : Value → Value) (fun key kl hk => by obtain ⟨x, hx, _⟩ := Maps.keyOf_str Tryz.underlying9 hk; exact ⟨x, hx⟩) (fun v y _ => ⟨v, rfl⟩) m w.heap.size n _ _ _ rfl hrg ?_ ?_)
    · intro hc0 hl0
      have hpm := keys_perm HK.out HC.out.1 (fun x => by rw [HC.out.2 x, hl0]; simp)
      rcases hrow.2 with ⟨rfl, hz⟩ | ⟨g, cap, cur, rfl, hbase, hb, h1, h2, h3, h4⟩
      · have hks : ks = [] := by
          have hz' : ss = [] := List.eq_nil_of_length_eq_zero hz
          subst hz'
          exact List.perm_nil.1 hpm.symm
        have hc := Tryz.slices_Sort_string_none none 0 wr
        go_wp2_with fail
        refine hc.mono ?_
        rintro e w' ⟨rfl, rfl⟩
        go_wp2_with fail
        go_ret
        exact ⟨_, rfl, by rw [hks]; exact OwnT.nil _ _, hnx⟩
      have hH : Holds encStr wr g 0 ss.toArray := holds_of_block hb (by simpa using h4)
      have hgl : g < wr.heap.size := (Array.getElem?_eq_some_iff.1 hb).1
      have hc := Tryz.slices_Sort_string g 0 cap ss wr hH hgl (by omega)
      go_wp2_with fail
      refine hc.mono ?_
      rintro e w' ⟨rfl, nn, os, rfl⟩
      go_wp2_with fail
      go_ret
      have hsort := keys_sort HK.out hpm
      refine ⟨_, rfl, ?_, hnx.grown (grownBy_sorted _) hnx.size (fun j hj => by cases hj; exact hbase)⟩
      rw [hsort]
      have hlen : ks.length = ss.length := hpm.length_eq.symm
      have hrw := ownsRow_sorted (w := wr) (n := nn) (os := os) (e := 9) (ss := ss) (ts := ks) hlen hbase hb h1 h2 h3
      rw [keys_cells] at hrw
      have hl2 : ss.length = (ks.map str).length := by rw [← hlen]; simp
      unfold OwnT
      rw [hl2] at hrw ⊢
      exact hrw
    · intro x c kl yd yp w3 cnt2 hkey hlk hv hat hrg2 hlt hg2 hs2 hen
      obtain ⟨x', ex, rfl, _⟩ := Maps.keyOf_str Tryz.underlying9 hkey
      obtain rfl : x = x' := encStr_inj ex
      have hrow2 := hrow.kept hg2 (Or.inr (row_ne_iter hrow hrg).symm)
      clear hs2
      go_wp2_with (at_builtin; refine wpList_append_own _ rfl _ _ 63 rfl w.heap.size 9 i0 (.string ⟨#[]⟩) 1 16 Tryz.underlying63 hi hz0 hz1 hz2 rfl (by decide) _ _ _ rfl (hrow2.alloc _) ⟨w3.heap.size, 0, none⟩ 1 1 [encStr x] rfl rfl (cell_one_new _ _ _) (by simp [Value.oneCell', encStr]) (by unfold maxLen at *; omega) (by omega) (by have := hnx.size; have := hg2.size; simp; omega) ?_; intro v' w4 hown' hg3 hnil3)
      have hrg3 := (hrg2.alloc _).kept hg3 (row_ne_low hrow2 hbl) (row_ne_iter hrow2 hrg2)
      go_roundw
      case rel =>
        refine ⟨_, cnt2, ss ++ [x], hrg3, by simp; omega, by simpa using hown', Lib.hid (HC.out.step hlk hat), ?_⟩
        exact ((hnx.grown hg2 hnx.size (fun j hj => by cases hj; exact Nat.le_refl _)).alloc (by have := hnx.size; have := hg2.size; omega) _).grown hg3 (by have := hnx.size; have := hg2.size; simp; omega) (fun j hj => (hrow2.lt j hj).1)
      case measure => rw [hrg3.left_eq, hrg.left_eq]; exact hlt
end FoldC
end Go.Proofs.YtbjifikbfagdjaaGreatDoor
