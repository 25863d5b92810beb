/-
  Package disk's files, whole: what turns elsewhere leaves them; one file is laid, one is taken.
-/
import Derived.Test.YticonagffdaacaaGreatDoorDiskP
namespace Go.Proofs.YticonagffdaacaaGreatDoor
open Go.RowKit Go.Maps
namespace DiskP
open DiskM DiskC
open Go.Lib (strCells strCells_length)

def upd (vals : ByteArray → Value) (n : ByteArray) (v : Value) : ByteArray → Value := fun k => if k.data.toList == n.data.toList then v else vals k
theorem upd_same (vals : ByteArray → Value) (n : ByteArray) (v : Value) : upd vals n v n = v := by simp [upd]
theorem upd_other {vals : ByteArray → Value} {n k : ByteArray} {v : Value} (h : k ≠ n) : upd vals n v k = vals k := by
  unfold upd
  rw [if_neg]
  intro e
  exact h (ByteArray.ext (Array.toList_inj.1 (beq_iff_eq.1 e)))
structure FileAt (w : World) (B b m : Nat) (F : Nat → Prop) (vals : ByteArray → Value) (n x : ByteArray) : Prop where
  byt : Byt w (vals n) x
  blk : ∀ g, (vals n).ownBlock = some g → g ≠ b ∧ g ≠ m ∧ (F g ∨ g < B)
  room : Full (vals n) ∨ (Own w (vals n) x ∧ ∀ g, (vals n).ownBlock = some g → F g ∧ ∀ n', n' ≠ n → (vals n').ownBlock ≠ some g)
structure Files (ex : ByteArray → Prop) (w : World) (B b m : Nat) (F : Nat → Prop) (fs : FL) (D : DataW Unit) (vals : ByteArray → Value) : Prop where
  map : w.ownsMap Tryz.prog 9 eR m fs.length D
  size : Maps.size D = fs.length
  dom : ∀ n, Maps.has D (keyN n) = hasF n fs
  at_ : ∀ n, D.atKey (keyN n) .nil = encV (vals n)
  file : ∀ n, ¬ ex n → FileAt w B b m F vals n (bytesF n fs)
  sorted : Sorted fs
  lt : ∀ i, F i → i < w.heap.size
  fb : F b
  fm : F m
  bm : b ≠ m
abbrev NoEx : ByteArray → Prop := fun _ => False
theorem Byt.lt {w : World} {v : Value} {x : ByteArray} (h : Byt w v x) : ∀ g, v.ownBlock = some g → g < w.heap.size := by
  intro g hg
  rcases h with ⟨rfl, -⟩ | ⟨g', cap, rfl, -, -, h3, -⟩
  · cases hg
  · cases hg; exact h3
theorem ownsMap_keeps {w w' : World} {k : TypeId} {R : Value → Option (DataW Unit × List MemPlace)} {m n : Nat} {D : DataW Unit} (h : w.ownsMap Tryz.prog k R m n D) (hb : w'.heap[m]? = w.heap[m]?) : w'.ownsMap Tryz.prog k R m n D := by
  obtain ⟨es, clock, h1, r⟩ := h
  exact ⟨es, clock, hb.trans h1, r⟩
theorem ownsMap_tight {w : World} {k : TypeId} {R : Value → Option (DataW Unit × List MemPlace)} {m n : Nat} {D : DataW Unit} (h : w.ownsMap Tryz.prog k R m n D) : w.ownsMap Tryz.prog k R m (Maps.size D) D := by
  obtain ⟨es, clock, h1, h2, h3, h4⟩ := h
  refine ⟨es, clock, h1, h2, ?_, h4⟩
  rw [h4, Maps.size_eq, length_sorted]
  simp
/-- what turns in blocks where no file lies -/
theorem Files.turn {ex ex' : ByteArray → Prop} {w w1 : World} {B b m : Nat} {F F' S : Nat → Prop} {fs : FL} {D : DataW Unit} {vals : ByteArray → Value} (h : Files ex w B b m F fs D vals) (k : Keeps S w w1) (hm : ¬ S m)
    (hv : ∀ n g, ¬ ex' n → (vals n).ownBlock = some g → ¬ S g) (hex : ∀ n, ex n → ex' n) (hF : ∀ i, F i → F' i) (hlt : ∀ i, F' i → i < w1.heap.size) : Files ex' w1 B b m F' fs D vals where
  map := ownsMap_keeps h.map (k.block m (h.lt m h.fm) hm)
  size := h.size
  dom := h.dom
  at_ := h.at_
  file := fun n hn => by
    have f := h.file n (fun e => hn (hex n e))
    have hb : ∀ g, (vals n).ownBlock = some g → w1.heap[g]? = w.heap[g]? := fun g hg => k.block g (f.byt.lt g hg) (hv n g hn hg)
    refine ⟨f.byt.keeps k.size hb, fun g hg => ?_, ?_⟩
    · obtain ⟨h1, h2, h3⟩ := f.blk g hg
      exact ⟨h1, h2, h3.imp (hF g) id⟩
    · rcases f.room with hr | ⟨hr, h2⟩
      · exact Or.inl hr
      · exact Or.inr ⟨hr.keeps hb, fun g hg => ⟨hF g (h2 g hg).1, (h2 g hg).2⟩⟩
  sorted := h.sorted
  lt := hlt
  fb := hF b h.fb
  fm := hF m h.fm
  bm := h.bm
theorem Files.keeps {ex : ByteArray → Prop} {w w1 : World} {B b m : Nat} {F S : Nat → Prop} {fs : FL} {D : DataW Unit} {vals : ByteArray → Value} (h : Files ex w B b m F fs D vals) (k : Keeps S w w1) (hS : ∀ i, F i → ¬ S i) (hB : ∀ i, S i → B ≤ i) : Files ex w1 B b m F fs D vals :=
  h.turn k (hS m h.fm) (fun n g hn hg hs => by
    rcases ((h.file n hn).blk g hg).2.2 with h1 | h1
    · exact hS g h1 hs
    · have := hB g hs; omega) (fun _ e => e) (fun _ e => e) (fun i hi => Nat.lt_of_lt_of_le (h.lt i hi) k.size)
theorem keeps_of_grown {w w' : World} {row : Option Nat} (h : w.grownBy w' row) : Keeps (fun i => row = some i) w w' := ⟨h.os, h.tape, h.output, h.size, fun k hk hn => h.block k hk (fun e => hn e.symm)⟩
theorem files_tidy {ex : ByteArray → Prop} {w : World} {B b m : Nat} {F : Nat → Prop} {fs : FL} {D : DataW Unit} {vals : ByteArray → Value} (h : Files ex w B b m F fs D vals) : Maps.Tidy D := h.map.tidy keyed
/-- one file is laid -/
theorem Files.put {w w' : World} {B b m : Nat} {F : Nat → Prop} {fs : FL} {D : DataW Unit} {vals : ByteArray → Value} {name x : ByteArray} {v' : Value} (h : Files (· = name) w B b m F fs D vals)
    (hm : w'.ownsMap Tryz.prog 9 eR m (fs.length + 1) (D.put (keyN name) (encV v'))) (hg : w.grownBy w' (some m)) (hb : Byt w v' x) (hblk : ∀ g, v'.ownBlock = some g → g ≠ b ∧ g ≠ m ∧ (F g ∨ g < B))
    (hroom : Full v' ∨ (Own w v' x ∧ ∀ g, v'.ownBlock = some g → F g ∧ ∀ n', n' ≠ name → (vals n').ownBlock ≠ some g))
    (hoth : ∀ n g, n ≠ name → ¬ Full (vals n) → (vals n).ownBlock = some g → v'.ownBlock ≠ some g) :
    Files NoEx w' B b m F (layF name x fs) (D.put (keyN name) (encV v')) (upd vals name v') := by
  have hT := files_tidy h
  have hsz : Maps.size (D.put (keyN name) (encV v')) = (layF name x fs).length := by rw [Maps.size_put hT, h.dom, h.size, lay_len']
  have hkeep : ∀ g, g ≠ m → g < w.heap.size → w'.heap[g]? = w.heap[g]? := fun g hgm hgl => hg.block g hgl (fun e => hgm (by simpa using e))
  refine ⟨by rw [← hsz]; exact ownsMap_tight hm, hsz, fun n => ?_, fun n => ?_, fun n _ => ?_, h.sorted.lay, fun i hi => Nat.lt_of_lt_of_le (h.lt i hi) hg.size, h.fb, h.fm, h.bm⟩
  · by_cases hn : n = name
    · subst hn
      rw [Maps.has_put_same hT.isMap (keyN_key n), (has_lay n x fs).1]
    · rw [Maps.has_put_other (keyN_ne hn), h.dom, (has_lay_other hn h.sorted).1]
  · by_cases hn : n = name
    · subst hn
      rw [Maps.atKey_put_same hT.isMap (keyN_key n), upd_same]
    · rw [Maps.atKey_put_other (keyN_ne hn), h.at_, upd_other hn]
  · by_cases hn : n = name
    · subst hn
      have hbb : ∀ g, v'.ownBlock = some g → w'.heap[g]? = w.heap[g]? := fun g hg' => hkeep g (hblk g hg').2.1 (hb.lt g hg')
      refine ⟨?_, ?_, ?_⟩
      · rw [upd_same, (has_lay n x fs).2]; exact hb.keeps hg.size hbb
      · rw [upd_same]; exact hblk
      · rw [upd_same, (has_lay n x fs).2]
        rcases hroom with hr | ⟨hr, h2⟩
        · exact Or.inl hr
        · exact Or.inr ⟨hr.keeps hbb, fun g hg' => ⟨(h2 g hg').1, fun n' hn' => by rw [upd_other hn']; exact (h2 g hg').2 n' hn'⟩⟩
    · have f := h.file n hn
      have hbb : ∀ g, (vals n).ownBlock = some g → w'.heap[g]? = w.heap[g]? := fun g hg' => hkeep g (f.blk g hg').2.1 (f.byt.lt g hg')
      refine ⟨?_, ?_, ?_⟩
      · rw [upd_other hn, (has_lay_other hn h.sorted).2]; exact f.byt.keeps hg.size hbb
      · rw [upd_other hn]; exact f.blk
      · rw [upd_other hn, (has_lay_other hn h.sorted).2]
        by_cases hfull : Full (vals n)
        · exact Or.inl hfull
        · rcases f.room with hr | ⟨hr, h2⟩
          · exact absurd hr hfull
          · refine Or.inr ⟨hr.keeps hbb, fun g hg' => ⟨(h2 g hg').1, fun n' hn' => ?_⟩⟩
            by_cases hn2 : n' = name
            · subst hn2; rw [upd_same]; exact hoth n g hn hfull hg'
            · rw [upd_other hn2]; exact (h2 g hg').2 n' hn'
/-- one file is taken -/
theorem Files.del {w w' : World} {B b m : Nat} {F : Nat → Prop} {fs : FL} {D : DataW Unit} {vals : ByteArray → Value} {name : ByteArray} (h : Files NoEx w B b m F fs D vals)
    (hm : w'.ownsMap Tryz.prog 9 eR m fs.length (D.del (keyN name))) (hg : w.grownBy w' (some m)) :
    Files NoEx w' B b m F (takeF name fs) (D.del (keyN name)) (upd vals name (.slice none 0 0)) := by
  have hT := files_tidy h
  have hsz : Maps.size (D.del (keyN name)) = (takeF name fs).length := by
    have h1 := Maps.size_del (k := keyN name) hT
    have h2 := take_len1 (m := name) fs
    rw [h.dom, h.size] at h1
    omega
  have hkeep : ∀ g, g ≠ m → g < w.heap.size → w'.heap[g]? = w.heap[g]? := fun g hgm hgl => hg.block g hgl (fun e => hgm (by simpa using e))
  refine ⟨by rw [← hsz]; exact ownsMap_tight hm, hsz, fun n => ?_, fun n => ?_, fun n _ => ?_, h.sorted.take, fun i hi => Nat.lt_of_lt_of_le (h.lt i hi) hg.size, h.fb, h.fm, h.bm⟩
  · by_cases hn : n = name
    · subst hn
      rw [Maps.has_del_same, (has_take h.sorted).1]
    · rw [Maps.has_del_other (keyN_ne hn), h.dom, (has_take_other hn h.sorted).1]
  · by_cases hn : n = name
    · subst hn
      rw [Maps.atKey_del_same, upd_same]; rfl
    · rw [Maps.atKey_del_other (keyN_ne hn), h.at_, upd_other hn]
  · by_cases hn : n = name
    · subst hn
      rw [(has_take h.sorted).2]
      exact ⟨by rw [upd_same]; exact Or.inl ⟨rfl, rfl⟩, by rw [upd_same]; intro g hg; exact absurd hg (by simp [Value.ownBlock]), by rw [upd_same]; exact Or.inl (Or.inl rfl)⟩
    · have f := h.file n (fun e => e)
      have hbb : ∀ g, (vals n).ownBlock = some g → w'.heap[g]? = w.heap[g]? := fun g hg' => hkeep g (f.blk g hg').2.1 (f.byt.lt g hg')
      refine ⟨?_, ?_, ?_⟩
      · rw [upd_other hn, (has_take_other hn h.sorted).2]; exact f.byt.keeps hg.size hbb
      · rw [upd_other hn]; exact f.blk
      · rw [upd_other hn, (has_take_other hn h.sorted).2]
        rcases f.room with hr | ⟨hr, h2⟩
        · exact Or.inl hr
        · refine Or.inr ⟨hr.keeps hbb, fun g hg' => ⟨(h2 g hg').1, fun n' hn' => ?_⟩⟩
          by_cases hn2 : n' = name
          · subst hn2; rw [upd_same]; intro e; cases e
          · rw [upd_other hn2]; exact (h2 g hg').2 n' hn'
/-- what a look-up finds -/
theorem Files.look {ex : ByteArray → Prop} {w : World} {B b m : Nat} {F : Nat → Prop} {fs : FL} {D : DataW Unit} {vals : ByteArray → Value} (h : Files ex w B b m F fs D vals) {n : ByteArray} (hn : ¬ ex n) {v : Value} {ps : List MemPlace} (hv : eR v = some (D.atKey (keyN n) .nil, ps)) : v = vals n := by
  obtain ⟨h1, h2⟩ := eR_inv hv
  refine encV_inj h1 (h.file n hn).byt.ok ?_
  rw [← h.at_ n]
  exact (congrArg Prod.fst h2).symm
theorem Files.absent {ex : ByteArray → Prop} {w : World} {B b m : Nat} {F : Nat → Prop} {fs : FL} {D : DataW Unit} {vals : ByteArray → Value} (h : Files ex w B b m F fs D vals) {n : ByteArray} (hn : ¬ ex n) (hh : hasF n fs = false) : vals n = .slice none 0 0 := by
  have e := h.at_ n
  rw [Maps.atKey_of_not_has (by rw [h.dom, hh])] at e
  rcases okV_cases (h.file n hn).byt.ok with e2 | ⟨g, l, c, e2⟩
  · exact e2
  · rw [e2] at e; cases e
theorem Byt.len {w : World} {v : Value} {x : ByteArray} (h : Byt w v x) : ∃ a c, v = .slice a x.size c ∧ x.size ≤ c := by
  rcases h with ⟨rfl, rfl⟩ | ⟨g, cap, rfl, h1, -⟩
  · exact ⟨_, _, rfl, Nat.le_refl _⟩
  · exact ⟨_, _, rfl, h1⟩
theorem Byt.size_le {w : World} {v : Value} {x : ByteArray} (h : Byt w v x) : x.size ≤ maxLen := by
  rcases h with ⟨rfl, rfl⟩ | ⟨g, cap, rfl, h1, h2, -⟩
  · exact Nat.zero_le _
  · omega
end DiskP
end Go.Proofs.YticonagffdaacaaGreatDoor
