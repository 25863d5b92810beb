/-
  Package disk's Names: the map's keys, sorted.
-/
import Derived.Test.YticonagffdaacaaGreatDoorDiskC6
import Derived.Test.YticonagffdaacaaGreatDoorSortLay
import Derived.Sort.KeysCollected
import Derived.Sort.OwnSorted
namespace Go.Proofs.YticonagffdaacaaGreatDoor
open Go.RowKit Go.Maps Go.Sort
namespace DiskP
open DiskM DiskC ErrC

def keysN (fs : FL) : List (List UInt8) := fs.map (fun f => f.1.data.toList)
theorem keysN_mem {fs : FL} (hs : Sorted fs) (x : List UInt8) : x ∈ keysN fs ↔ hasF ⟨x.toArray⟩ fs = true := by
  rw [has_mem hs]
  unfold keysN
  rw [List.mem_map]
  constructor
  · rintro ⟨f, hf, rfl⟩; exact ⟨f, hf, by simp⟩
  · rintro ⟨f, hf, h⟩; exact ⟨f, hf, by rw [h]⟩
theorem less_lt {a b : ByteArray} (h : lessN a b = true) : a.data.toList < b.data.toList := by
  unfold lessN at h
  rw [bytesLess_eq] at h
  rw [ByteArray.toList_eq, ByteArray.toList_eq] at h
  simpa using h
theorem keysN_sorted {fs : FL} (hs : Sorted fs) : (keysN fs).Pairwise (fun a b => a < b) := by
  unfold keysN
  rw [List.pairwise_map]
  exact hs.imp (fun h => less_lt h)
theorem keysN_sort {fs : FL} (hs : Sorted fs) {ss : List (List UInt8)} (hp : ss.Perm (keysN fs)) : ss.mergeSort (fun x y => decide (x ≤ y)) = keysN fs := by
  have tr : ∀ a b c : List UInt8, leB a b = true → leB b c = true → leB a c = true := fun a b c h1 h2 => by simp only [leB, decide_eq_true_eq] at *; exact List.le_trans h1 h2
  have to : ∀ a b : List UInt8, (leB a b || leB b a) = true := fun a b => by simp only [leB, Bool.or_eq_true, decide_eq_true_eq]; exact List.le_total a b
  refine List.Perm.eq_of_pairwise (le := fun a b => leB a b = true) (fun a b _ _ h1 h2 => ?_) (List.pairwise_mergeSort tr to ss) ((keysN_sorted hs).imp (fun h => ?_)) ((List.mergeSort_perm ss leB).trans hp)
  · simp only [leB, decide_eq_true_eq] at h1 h2
    exact List.le_antisymm h1 h2
  · simp only [leB, decide_eq_true_eq]
    exact List.le_of_lt h
theorem keysN_perm {fs : FL} (hs : Sorted fs) {ss : List (List UInt8)} {D : DataW Unit} (hd : ∀ n, Maps.has D (keyN n) = hasF n fs) (hn : ss.Nodup) (hm : ∀ x, x ∈ ss ↔ Maps.has D (.string x) = true) : ss.Perm (keysN fs) := by
  refine (List.perm_ext_iff_of_nodup hn ((keysN_sorted hs).imp (fun h e => by rw [e] at h; exact List.lt_irrefl _ h))).2 fun x => ?_
  rw [hm x, keysN_mem hs, ← hd]
theorem keysN_cells (fs : FL) : (keysN fs).map encStr = (fs.map (·.1)).map Value.string := by
  unfold keysN
  rw [List.map_map, List.map_map]
  apply List.map_congr_left
  intro f _
  simp [encStr]
set_option maxRecDepth 100000 in
set_option maxHeartbeats 1000000 in
theorem names_dead {B b m : Nat} {F : Nat → Prop} {cut : Int} {s : DS} {D : DataW Unit} {vals : ByteArray → Value} {w : World} (h : Dsk B w b F cut s m D vals) (hd : s.dead = true) :
    Calls Tryz.prog 35 #[.pointer (some ⟨b, 0, none⟩)] w fun e w' => ∃ u, e = .returned u ∧ TextR.OwnT w' w.heap.size u (namesS s) ∧ Below w.heap.size w w' := by
  have k3 := h.c3
  have HT := Lib.hid (there_any b m w h.c0)
  rw [hd] at k3
  rw [show namesS s = [] by unfold namesS; rw [if_pos hd]]
  clear h hd
  go_enter Tryz.func35, Tryz.ntmps35
  go_wp2_with fail
  refine HT.out.mono ?_
  rintro e w1 ⟨rfl, rfl⟩
  go_wp2_with fail
  go_ret
  exact ⟨_, rfl, TextR.OwnT.nil _ _, Below.refl _ _⟩
set_option maxRecDepth 100000 in
set_option maxHeartbeats 4000000 in
theorem names_live {B b m : Nat} {F : Nat → Prop} {cut : Int} {s : DS} {D : DataW Unit} {vals : ByteArray → Value} {w : World} (h : Dsk B w b F cut s m D vals) (hd : s.dead = false) (hl : s.fs.length ≤ 65536) :
    Calls Tryz.prog 35 #[.pointer (some ⟨b, 0, none⟩)] w fun e w' => ∃ u, e = .returned u ∧ TextR.OwnT w' w.heap.size u (namesS s) ∧ Below w.heap.size w w' := by
  have k0 := h.c0
  have k3 := h.c3
  have HT := Lib.hid (there_any b m w h.c0)
  rw [hd] at k3
  rw [show namesS s = s.fs.map (·.1) by unfold namesS; rw [if_neg (by rw [hd]; decide)]]
  have hown := h.files.map
  have hsz := h.files.size
  have hbl : m < w.heap.size := h.files.lt m h.files.fm
  have HSO := Lib.hid h.files.sorted
  have HDOM := Lib.hid h.files.dom
  have hmax : Maps.size D ≤ maxLen := by rw [hsz]; unfold maxLen; omega
  have hbytes : 16 * Maps.size D ≤ 140737488355328 := by rw [hsz]; omega
  clear h hd hl hsz
  generalize s.fs.length = n at *
  obtain ⟨i0, hi, hz0, hz1, hz2⟩ := info_parts TextR.info_text
  go_enter Tryz.func35, Tryz.ntmps35
  go_wp2_with fail
  refine HT.out.mono ?_
  rintro e w0 ⟨rfl, rfl⟩
  go_wp2_with (first
    | (at_len; refine wpList_len_own _ rfl _ 42 rfl 9 67 Tryz.underlying42 _ m n _ rfl hown ?_)
    | (at_make; refine wpList_make_own _ rfl _ _ 65 rfl w.heap.size 9 i0 (.string ⟨#[]⟩) 1 Tryz.underlying65 hi hz0 hz1 _ _ _ (Maps.size D) rfl rfl rfl (by rw [hz2]; omega) hmax (Nat.le_refl _) ?_; intro w1 hrow1 hg1; have k1 : w1.cell? ⟨b, 0, none⟩ = some (.map (some m)) := hg1.cell k0 (by simp))
    | (at_range; refine wpList_range_own _ rfl _ 42 rfl 9 67 keyed Tryz.underlying42 _ m n _ rfl (hown.kept hg1 (by simp)) ?_; intro w2 hrg0 hg0 hs0))
  go_frame
  go_loopw [3] (fun v wr => ∃ (left : Lit → Bool) (cnt : Nat) (ss : List (List UInt8)), wr.ranges Tryz.prog 9 eR m w1.heap.size n D left cnt ∧ ss.length + cnt ≤ Maps.size D ∧
      wr.ownsRow w.heap.size 9 1 v ss.length (ss.map encStr) ∧ v ≠ .slice none 0 0 ∧ Hid (Collected D left ss) ∧ Below w.heap.size w wr)
    (fun _ wr => wr.rangeLeft m w1.heap.size)
  case atStart =>
    exact ⟨_, _, [], hrg0, by simp, hrow1.kept hg0 (Or.inr (by simp [Value.ownBlock])), by simp, Lib.hid (Collected.start D),
      ((Below.refl _ _).grown hg1 (Nat.le_refl _) (fun j hj => by cases hj)).grown hg0 hg1.size (fun j hj => by cases hj)⟩
  case round =>
    obtain ⟨left, cnt, ss, hrg, hcs, hrow, hnn, HC, hnx⟩ := hrel
    rename World => wr
    go_wp2_with (at_next; refine wpList_next_ranges _ rfl _ rfl 9 keyed eR encStr (id : Value → Value) (fun key kl hk => by obtain ⟨x, hx, _⟩ := Maps.keyOf_str Tryz.underlying9 hk; exact ⟨x, hx⟩) (fun v y _ => ⟨v, rfl⟩) m w1.heap.size n _ _ _ rfl hrg ?_ ?_)
    · intro hc0 hl0
      rcases hrow.2 with ⟨hnil, _⟩ | ⟨g, cap, cur, rfl, hbase, hb, h1, h2, h3, h4⟩
      · exact absurd hnil hnn
      have hH : Holds encStr wr g 0 ss.toArray := holds_of_block hb (by simpa using h4)
      have hgl : g < wr.heap.size := (Array.getElem?_eq_some_iff.1 hb).1
      have hc := Tryz.slices_Sort_string g 0 cap ss wr hH hgl (by unfold maxLen at *; omega)
      go_wp2_with fail
      refine hc.mono ?_
      rintro e w' ⟨rfl, nn, os, rfl⟩
      go_wp2_with fail
      go_ret
      have hpm := keysN_perm HSO.out HDOM.out HC.out.1 (fun x => by rw [HC.out.2 x, hl0]; simp)
      have hsort := keysN_sort HSO.out hpm
      refine ⟨_, rfl, ?_, hnx.grown (grownBy_sorted _) hnx.size (fun j hj => by cases hj; exact hbase)⟩
      rw [hsort]
      have hlen : (keysN s.fs).length = ss.length := hpm.length_eq.symm
      have hrw := ownsRow_sorted (w := wr) (n := nn) (os := os) (e := 9) (ss := ss) (ts := keysN s.fs) hlen hbase hb h1 h2 h3
      rw [keysN_cells] at hrw
      have hl2 : ss.length = (s.fs.map (·.1)).length := by rw [← hlen]; simp [keysN]
      rw [hl2] at hrw ⊢
      exact hrw
    · intro x c kl yd yp w3 cnt2 hkey hlk hv hat hrg2 hlt hg2 hs2 hen
      obtain ⟨x', ex, rfl, _⟩ := Maps.keyOf_str Tryz.underlying9 hkey
      obtain rfl : x = x' := encStr_inj ex
      have hrow2 := hrow.kept hg2 (Or.inr (row_ne_iter hrow hrg).symm)
      clear hs2
      go_wp2_with (at_builtin; refine wpList_append_own _ rfl _ _ 65 rfl w.heap.size 9 i0 (.string ⟨#[]⟩) 1 16 Tryz.underlying65 hi hz0 hz1 hz2 rfl (by decide) _ _ _ rfl (hrow2.alloc _) ⟨w3.heap.size, 0, none⟩ 1 1 [encStr x] rfl rfl (cell_one_new _ _ _) (by simp [Value.oneCell', encStr]) (by unfold maxLen at *; omega) (by omega) (by have := hnx.size; have := hg2.size; simp; omega) ?_; intro v' w4 hown' hg3 hnil3)
      have hrg3 := (hrg2.alloc _).kept hg3 (row_ne_low hrow2 hbl) (row_ne_iter hrow2 hrg2)
      go_roundw
      case rel =>
        refine ⟨_, cnt2, ss ++ [x], hrg3, by simp; omega, by simpa using hown', fun hv' => by have := (hnil3.1 hv').2; omega, Lib.hid (HC.out.step hlk hat), ?_⟩
        exact ((hnx.grown hg2 hnx.size (fun j hj => by cases hj; exact hg1.size)).alloc (by have := hnx.size; have := hg2.size; omega) _).grown hg3 (by have := hnx.size; have := hg2.size; simp; omega) (fun j hj => (hrow2.lt j hj).1)
      case measure => rw [hrg3.left_eq, hrg.left_eq]; exact hlt
end DiskP
end Go.Proofs.YticonagffdaacaaGreatDoor
