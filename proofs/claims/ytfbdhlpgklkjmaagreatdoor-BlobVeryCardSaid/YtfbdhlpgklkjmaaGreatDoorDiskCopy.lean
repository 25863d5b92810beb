/-
  Package disk's Copy (under way).
-/
import Derived.Test.YtfbdhlpgklkjmaaGreatDoorDiskR
import Derived.Deep.RegionHeld3
import Derived.Test.YtfbdhlpgklkjmaaGreatDoorDiskMath3
import Derived.Maps.RangeWalk
import Derived.Sort.KeysCollected
namespace Go.Proofs.YtfbdhlpgklkjmaaGreatDoor
open Go.RowKit Go.Maps Go.Sort
namespace DiskP
open DiskM DiskC ErrC

theorem make_hint (k : Nat) (W : World) : (Instr.makeMap 55 (some (.int .i64 (k : Int)))).run Tryz.prog W = .ok (.map (some W.heap.size)) (W.alloc (.map #[] 0)) := by
  simp [Instr.makeMap, run_underlying Tryz.underlying55, asInt, asIntOf, Result.andThen]
/-- the copy, behind some of the rounds: what has come of the map is laid -/
structure CopyAt (w wr : World) (s : DS) (cut : Int) (left : Lit → Bool) (fd : FL) : Prop where
  files : ∃ D2 vals2, Files NoEx wr w.heap.size w.heap.size (w.heap.size + 1) (fun i => i = w.heap.size ∨ i = w.heap.size + 1) fd D2 vals2 ∧ ∀ n, Full (vals2 n)
  c0 : wr.cell? ⟨w.heap.size, 0, none⟩ = some (.map (some (w.heap.size + 1)))
  c1 : wr.cell? ⟨w.heap.size, 1, none⟩ = some (.int .i64 cut)
  c2 : wr.cell? ⟨w.heap.size, 2, none⟩ = some (.int .i64 s.count)
  c3 : wr.cell? ⟨w.heap.size, 3, none⟩ = some (.bool s.dead)
  free : ∀ j, wr.frozen? ⟨w.heap.size, j, none⟩ = false
  said : ∀ n, hasF n fd = (hasF n s.fs && !left (keyN n))
  bytes : ∀ n, hasF n fd = true → bytesF n fd = bytesF n s.fs
  sub : ∀ n, left (keyN n) = true → hasF n s.fs = true
  below : Below w.heap.size w wr
theorem CopyAt.done {w wr : World} {s : DS} {cut : Int} {left : Lit → Bool} {fd : FL} (h : CopyAt w wr s cut left fd) (h0 : ∀ k, left k = false) (hs : Sorted s.fs) (hc : cut < 0 ∨ (s.count : Int) ≤ cut) :
    IsP w.heap.size wr w.heap.size (fun i => i = w.heap.size ∨ i = w.heap.size + 1) cut s := by
  obtain ⟨D2, vals2, hf, -⟩ := h.files
  have e : fd = s.fs := sorted_ext hf.sorted hs (fun n => by rw [h.said n, h0]; simp) (fun n hn => h.bytes n hn)
  rw [e] at hf
  exact ⟨w.heap.size + 1, D2, vals2, h.c0, h.c1, h.c2, h.c3, h.free, hf, hc, h.below.size⟩
theorem CopyAt.start {w w2 : World} {s : DS} {cut : Int} {left : Lit → Bool} (hl : ∀ n, left (keyN n) = hasF n s.fs)
    (hg : ((w.alloc (.cells #[.map (some (w.heap.size + 1)), .int .i64 cut, .int .i64 s.count, .bool s.dead] 57)).alloc (.map #[] 0)).grownBy w2 none) : CopyAt w w2 s cut left [] := by
  have k : Keeps (fun _ => False) ((w.alloc (.cells #[.map (some (w.heap.size + 1)), .int .i64 cut, .int .i64 s.count, .bool s.dead] 57)).alloc (.map #[] 0)) w2 := by
    have := keeps_of_grown hg
    exact ⟨this.os, this.tape, this.output, this.size, fun i hi _ => this.block i hi (by simp)⟩
  have c : ∀ j u, [Value.map (some (w.heap.size + 1)), .int .i64 cut, .int .i64 s.count, .bool s.dead][j]? = some u → ((w.alloc (.cells #[.map (some (w.heap.size + 1)), .int .i64 cut, .int .i64 s.count, .bool s.dead] 57)).alloc (.map #[] 0)).cell? ⟨w.heap.size, j, none⟩ = some u := by
    intro j u hu
    rw [World.cell?_alloc_lt _ _ _ (by simp), World.cell?_alloc_at _ _ _ _ rfl]
    match j, hu with
    | 0, hu => exact hu
    | 1, hu => exact hu
    | 2, hu => exact hu
    | 3, hu => exact hu
    | j + 4, hu => simp at hu
  have hsz : w.heap.size + 1 < ((w.alloc (.cells #[.map (some (w.heap.size + 1)), .int .i64 cut, .int .i64 s.count, .bool s.dead] 57)).alloc (.map #[] 0)).heap.size := by simp
  have e : w2.heap[w.heap.size]? = _ := k.block w.heap.size (by omega) (fun h => h)
  have hfr : ∀ j, w2.frozen? ⟨w.heap.size, j, none⟩ = false := fun j => by
    rw [World.frozen?_of_block (a := ⟨w.heap.size, j, none⟩) e]; simp
  have cc : ∀ j u, [Value.map (some (w.heap.size + 1)), .int .i64 cut, .int .i64 s.count, .bool s.dead][j]? = some u → w2.cell? ⟨w.heap.size, j, none⟩ = some u := fun j u hu => by
    rw [World.cell?_of_block (a := ⟨w.heap.size, j, none⟩) e]; exact c j u hu
  have hf0 : Files NoEx ((w.alloc (.cells #[.map (some (w.heap.size + 1)), .int .i64 cut, .int .i64 s.count, .bool s.dead] 57)).alloc (.map #[] 0)) w.heap.size w.heap.size (w.heap.size + 1) (fun i => i = w.heap.size ∨ i = w.heap.size + 1) [] (.map []) (fun _ => .slice none 0 0) := by
    have hm := World.ownsMap_made (w.alloc (.cells #[.map (some (w.heap.size + 1)), .int .i64 cut, .int .i64 s.count, .bool s.dead] 57)) Tryz.prog 9 eR
    rw [show (w.alloc (.cells #[.map (some (w.heap.size + 1)), .int .i64 cut, .int .i64 s.count, .bool s.dead] 57)).heap.size = w.heap.size + 1 by simp] at hm
    exact ⟨hm, rfl, fun n => rfl, fun n => rfl, fun n _ => ⟨Or.inl ⟨rfl, rfl⟩, fun g e => (by cases e), Or.inl (Or.inl rfl)⟩, Sorted.nil, fun i hi => by simp; omega, Or.inl rfl, Or.inr rfl, by omega⟩
  have hb0 : Below w.heap.size w ((w.alloc (.cells #[.map (some (w.heap.size + 1)), .int .i64 cut, .int .i64 s.count, .bool s.dead] 57)).alloc (.map #[] 0)) := ((Below.refl _ _).alloc (Nat.le_refl _) _).alloc (by simp) _
  exact ⟨⟨_, _, hf0.keeps k (fun _ _ h => h) (fun _ h => h.elim), fun _ => Or.inl rfl⟩, cc 0 _ rfl, cc 1 _ rfl, cc 2 _ rfl, cc 3 _ rfl, hfr, fun n => by rw [hl n]; show false = _; simp, fun n hn => (by cases hn), fun n hn => (by rw [← hl n]; exact hn), hb0.trans (k.toBelow (fun _ h => h.elim) hb0.size)⟩
theorem CopyAt.step {w wr w3 : World} {s : DS} {cut : Int} {left : Lit → Bool} {fd : FL} (h : CopyAt w wr s cut left fd) (k : Keeps (fun i => w.heap.size + 2 ≤ i) wr w3) (nm : ByteArray) (hh : hasF nm s.fs = true) (v' : Value)
    (hb : Byt w3 v' (bytesF nm s.fs)) (hfull : Full v') (hblk : ∀ g, v'.ownBlock = some g → g < w.heap.size) (hn : nm.size ≤ 128) (hlen : fd.length < maxLen)
    (hk1 : (keyN nm).sameKey (keyN nm) = true) (hk2 : ∀ n, n ≠ nm → (keyN n).sameKey (keyN nm) = false) :
    ∃ w4, (Instr.mapUpdate 55 (.map (some (w.heap.size + 1))) (.string nm) v').run Tryz.prog w3 = .ok () w4 ∧ CopyAt w w4 s cut (fun z => left z && !z.sameKey (keyN nm)) (layF nm (bytesF nm s.fs) fd) ∧ w3.grownBy w4 (some (w.heap.size + 1)) := by
  obtain ⟨D2, vals2, hf, hfu⟩ := h.files
  have hf1 : Files (· = nm) w3 w.heap.size w.heap.size (w.heap.size + 1) (fun i => i = w.heap.size ∨ i = w.heap.size + 1) fd D2 vals2 := by
    refine hf.turn k (by omega) (fun n g _ hg => ?_) (fun _ e => e.elim) (fun _ e => e) (fun i hi => Nat.lt_of_lt_of_le (hf.lt i hi) k.size)
    have := ((hf.file n (fun e => e)).blk g hg).2.2
    omega
  obtain ⟨w4, hrun, hm, hg⟩ := hf1.map.update keyed Tryz.underlying55 hlen (keyOfN hn) (eR_ok hb.ok)
  have hput := hf1.put hm hg hb (fun g hg => ⟨by have := hblk g hg; omega, by have := hblk g hg; omega, Or.inr (hblk g hg)⟩) (Or.inl hfull) (fun n g _ hnf => absurd (hfu n) hnf)
  have hblt : w.heap.size < wr.heap.size := hf.lt _ hf.fb
  have e : w4.heap[w.heap.size]? = wr.heap[w.heap.size]? := (hg.block _ (Nat.lt_of_lt_of_le hblt k.size) (fun e => by simp at e)).trans (k.block _ hblt (by omega))
  have ec : ∀ j, w4.cell? ⟨w.heap.size, j, none⟩ = wr.cell? ⟨w.heap.size, j, none⟩ := fun j => World.cell?_of_block (a := ⟨w.heap.size, j, none⟩) e
  have ef : ∀ j, w4.frozen? ⟨w.heap.size, j, none⟩ = wr.frozen? ⟨w.heap.size, j, none⟩ := fun j => World.frozen?_of_block (a := ⟨w.heap.size, j, none⟩) e
  refine ⟨w4, hrun, ⟨⟨_, _, hput, fun n => ?_⟩, by rw [ec]; exact h.c0, by rw [ec]; exact h.c1, by rw [ec]; exact h.c2, by rw [ec]; exact h.c3, fun j => by rw [ef]; exact h.free j, fun n => ?_, fun n hn => ?_, fun n hn => h.sub n (by simp at hn; exact hn.1), ?_⟩, hg⟩
  · by_cases e1 : n = nm
    · subst e1; rw [upd_same]; exact hfull
    · rw [upd_other e1]; exact hfu n
  · by_cases e1 : n = nm
    · subst e1; rw [(has_lay n _ fd).1, hh, hk1]; simp
    · rw [(has_lay_other e1 hf.sorted).1, h.said n, hk2 n e1]; simp
  · by_cases e1 : n = nm
    · subst e1; rw [(has_lay n _ fd).2]
    · rw [(has_lay_other e1 hf.sorted).1] at hn
      rw [(has_lay_other e1 hf.sorted).2]
      exact h.bytes n hn
  · exact (h.below.trans (k.toBelow (fun i hi => by omega) h.below.size)).grown hg (Nat.le_trans h.below.size k.size) (fun j hj => by cases hj; omega)
theorem sorted_le {a b : FL} (ha : Sorted a) (hb : Sorted b) (h : ∀ n, hasF n a = true → hasF n b = true ∧ bytesF n b = bytesF n a) : a.length ≤ b.length := by
  have hs := sorted_sub ha hb h
  have hp : a.Perm (b.filter (inB a)) := (List.perm_ext_iff_of_nodup (sorted_nodup ha) ((sorted_nodup hb).filter _)).2 (fun f => by
    rw [List.mem_filter, inB_iff]
    exact ⟨fun h => ⟨hs f h, h⟩, fun h => h.2⟩)
  rw [hp.length_eq]
  exact List.length_filter_le _ _
/-- a slice without the room behind it -/
def clipV : Value → Value
  | .slice (some a) l _ => .slice (some a) l l
  | v => v
theorem clip_is {w : World} {v : Value} {x : ByteArray} (h : Byt w v x) : Byt w (clipV v) x ∧ Full (clipV v) ∧ (clipV v).ownBlock = v.ownBlock := by
  rcases h with ⟨rfl, rfl⟩ | ⟨g, cap, rfl, hl, hm, hg, hc⟩
  · exact ⟨Or.inl ⟨rfl, rfl⟩, Or.inl rfl, rfl⟩
  · exact ⟨Or.inr ⟨g, x.size, rfl, Nat.le_refl _, Nat.le_trans hl hm, hg, hc⟩, Or.inr ⟨g, x.size, rfl⟩, rfl⟩
end DiskP
end Go.Proofs.YtfbdhlpgklkjmaaGreatDoor
