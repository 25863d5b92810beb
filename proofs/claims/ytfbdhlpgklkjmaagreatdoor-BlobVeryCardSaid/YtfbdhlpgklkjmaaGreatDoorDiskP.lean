/-
  Package disk's files: a map of slices of bytes. What block m holds for a list of files of the document, over which blocks; what one store and one delete make of it.
  Package disk's files, whole: what turns elsewhere leaves them; one file is laid, one is taken.
-/
import Derived.Test.YtfbdhlpgklkjmaaGreatDoorChecked
import Derived.Test.YtfbdhlpgklkjmaaGreatDoorDiskKeeps
import Derived.Test.YtfbdhlpgklkjmaaGreatDoorDiskMath3
import Derived.Lib.AppendStr
import Derived.Maps.OwnSet
import Derived.Maps.RangeWalk
import Derived.Maps.AppendAt
namespace Go.Proofs.YtfbdhlpgklkjmaaGreatDoor
open Go.RowKit Go.Maps
namespace DiskP
open DiskM DiskC
open Go.Lib (strCells strCells_length)

/-- the shapes that a file's slice has: nil, or from a block's head -/
def okV : Value → Bool
  | .slice none l c => l == 0 && c == 0
  | .slice (some a) _ _ => a.off == 0 && a.spot.isNone
  | _ => false
def encV : Value → DataW Unit
  | .slice (some a) l c => .agg [.lit (.int .i64 a.block), .lit (.int .i64 l), .lit (.int .i64 c)]
  | _ => .nil
def eR (v : Value) : Option (DataW Unit × List MemPlace) := if okV v then some (encV v, []) else none
theorem okV_slice (g l c : Nat) : okV (.slice (some ⟨g, 0, none⟩) l c) = true := rfl
theorem okV_cases {v : Value} (h : okV v = true) : v = .slice none 0 0 ∨ ∃ g l c, v = .slice (some ⟨g, 0, none⟩) l c := by
  unfold okV at h
  split at h
  · simp at h; obtain ⟨rfl, rfl⟩ := h; exact Or.inl rfl
  · rename_i a l c
    obtain ⟨g, o, p⟩ := a
    simp at h
    obtain ⟨rfl, rfl⟩ := h
    exact Or.inr ⟨g, l, c, rfl⟩
  · cases h
theorem encV_inj {v u : Value} (hv : okV v = true) (hu : okV u = true) (h : encV v = encV u) : v = u := by
  rcases okV_cases hv with rfl | ⟨g, l, c, rfl⟩ <;> rcases okV_cases hu with rfl | ⟨g', l', c', rfl⟩
  · rfl
  · simp [encV] at h
  · simp [encV] at h
  · simp [encV] at h
    obtain ⟨h1, h2, h3⟩ := h
    have e1 : g = g' := by omega
    have e2 : l = l' := by omega
    have e3 : c = c' := by omega
    rw [e1, e2, e3]
theorem eR_ok {v : Value} (h : okV v = true) : eR v = some (encV v, []) := by unfold eR; rw [if_pos h]
theorem eR_inv {v : Value} {y : DataW Unit × List MemPlace} (h : eR v = some y) : okV v = true ∧ y = (encV v, []) := by
  unfold eR at h
  split at h
  · rename_i hk; exact ⟨hk, by simpa using h.symm⟩
  · cases h
abbrev keyN (n : ByteArray) : Lit := .string n.data.toList
theorem keyN_inj {a b : ByteArray} (h : keyN a = keyN b) : a = b := ByteArray.ext (Array.toList_inj.1 (by simpa [keyN] using h))
theorem keyN_ne {a b : ByteArray} (h : a ≠ b) : keyN a ≠ keyN b := fun e => h (keyN_inj e)
theorem keyN_key (n : ByteArray) : WideAt.IsKeyLit (keyN n) := trivial
theorem keyed : Keyed Tryz.prog 9 := string_keyed Tryz.underlying9
theorem keyOfN {n : ByteArray} (h : n.size ≤ 128) : keyOf Tryz.prog 9 (.string n) = some (keyN n) := Go.WideMaps.keyOf_string_mk Tryz.underlying9 (by unfold maxLen; omega)

/-! ### a file's bytes -/
def Byt (w : World) (v : Value) (x : ByteArray) : Prop :=
  (v = .slice none 0 0 ∧ x = ⟨#[]⟩) ∨ ∃ g cap, v = .slice (some ⟨g, 0, none⟩) x.size cap ∧ x.size ≤ cap ∧ cap ≤ maxLen ∧ g < w.heap.size ∧ ∀ j u, (strCells x)[j]? = some u → w.cell? ⟨g, j, none⟩ = some u
def Own (w : World) (v : Value) (x : ByteArray) : Prop := w.ownsRow 0 5 1 v x.size (strCells x)
/-- there is no room behind -/
def Full (v : Value) : Prop := v = .slice none 0 0 ∨ ∃ g n, v = .slice (some ⟨g, 0, none⟩) n n
theorem plain_add (g j : Nat) : (⟨g, 0, none⟩ : Addr).add j = ⟨g, j, none⟩ := by rw [Go.WideShapes.add_plain]; simp
theorem size0 {x : ByteArray} (h : x.size = 0) : x = ⟨#[]⟩ := ByteArray.ext (Array.eq_empty_of_size_eq_zero h)
theorem Own.byt {w : World} {v : Value} {x : ByteArray} (h : Own w v x) : Byt w v x := by
  have hl := fun g hg => h.lt g hg
  have hc := fun g hg => World.ownsRow.cells h (g := g) hg
  rcases h.2 with ⟨rfl, h0⟩ | ⟨g, cap, cur, rfl, -, hb, hn, hm, -⟩
  · exact Or.inl ⟨rfl, size0 h0⟩
  · exact Or.inr ⟨g, cap, rfl, hn, hm, (hl g rfl).2, fun j u hu => by have := hc g rfl j u hu; rwa [plain_add] at this⟩
theorem Byt.ok {w : World} {v : Value} {x : ByteArray} (h : Byt w v x) : okV v = true := by
  rcases h with ⟨rfl, -⟩ | ⟨g, cap, rfl, -⟩
  · rfl
  · exact okV_slice _ _ _
theorem Byt.keeps {w w' : World} {v : Value} {x : ByteArray} (h : Byt w v x) (hs : w.heap.size ≤ w'.heap.size) (hb : ∀ g, v.ownBlock = some g → w'.heap[g]? = w.heap[g]?) : Byt w' v x := by
  rcases h with h | ⟨g, cap, rfl, h1, h2, h3, h4⟩
  · exact Or.inl h
  · refine Or.inr ⟨g, cap, rfl, h1, h2, by omega, fun j u hu => ?_⟩
    rw [World.cell?_of_block (a := ⟨g, j, none⟩) (hb g rfl)]; exact h4 j u hu
theorem Own.keeps {w w' : World} {v : Value} {x : ByteArray} (h : Own w v x) (hb : ∀ g, v.ownBlock = some g → w'.heap[g]? = w.heap[g]?) : Own w' v x := by
  obtain ⟨h1, h2⟩ := h
  refine ⟨h1, ?_⟩
  rcases h2 with h2 | ⟨g, cap, cur, rfl, h3, h4, r⟩
  · exact Or.inl h2
  · exact Or.inr ⟨g, cap, cur, rfl, h3, (hb g rfl).trans h4, r⟩

theorem strCells_append (a b : ByteArray) : strCells (a ++ b) = strCells a ++ strCells b := by
  unfold strCells
  rw [ByteArray.data_append, Array.toList_append, List.map_append]
theorem info_byte : (Tryz.prog.info? 5).map (fun i => (i.zero, i.size, i.bytes)) = some (some (.int .u8 0), 1, 1) := by kernel_rfl
/-- a new row, in a new block -/
theorem grown_row (w : World) (x s : ByteArray) (old : Nat) (hz : x.size + s.size ≤ 1099511627776) :
    Own (w.drew.alloc (.cells ((strCells x).toArray ++ (strCells s).toArray ++ Builtin.zeroCells (Value.int .u8 0).cells (grownCap w (x.size + s.size) old 5 - (x.size + s.size))) 5)) (.slice (some ⟨w.heap.size, 0, none⟩) (x.size + s.size) (grownCap w (x.size + s.size) old 5)) (x ++ s) ∧
    w.grownBy (w.drew.alloc (.cells ((strCells x).toArray ++ (strCells s).toArray ++ Builtin.zeroCells (Value.int .u8 0).cells (grownCap w (x.size + s.size) old 5 - (x.size + s.size))) 5)) none := by
  have hge := grownCap_ge w (x.size + s.size) old 5
  have hcm : grownCap w (x.size + s.size) old 5 ≤ maxLen := grownCap_le_maxLen w (x.size + s.size) old _ (by unfold maxLen; omega)
  have hx : (x ++ s).size = x.size + s.size := ByteArray.size_append
  have hl : (strCells (x ++ s)).length = (x.size + s.size) * 1 := by rw [strCells_length, hx, Nat.mul_one]
  refine ⟨?_, ⟨rfl, rfl, rfl, by simp, fun k hk _ => heap_alloc_old w.drew _ hk⟩⟩
  unfold Own
  rw [hx]
  refine ⟨hl, .inr ⟨w.heap.size, _, _, rfl, Nat.zero_le _, heap_alloc_new w.drew _, hge, hcm, ?_, ?_⟩⟩
  · have hz1 : (Value.int IntKind.u8 0).cells.size = 1 := rfl
    simp only [Array.size_append, List.size_toArray, size_zeroCells, hz1, strCells_length]
    omega
  · simp only [Array.toList_append, List.append_assoc]
    rw [← List.append_assoc, ← strCells_append, ← hl]
    exact List.take_left
/-- append(v, s...): nothing, in the file's own row, or in a new one -/
theorem run_app (w : World) (ty : TypeId) (v : Value) (x s : ByteArray) (hb : Byt w v x) (hr : Full v ∨ Own w v x) (hz : x.size + s.size ≤ 1099511627776) :
    ∃ v' w', (Builtin.append_ #[45, 9] ty #[v, .string s]).run Tryz.prog w = .ok v' w' ∧ Byt w' v' (x ++ s) ∧
      ((v' = v ∧ w' = w ∧ s.size = 0) ∨ (¬ Full v ∧ v'.ownBlock = v.ownBlock ∧ Own w' v' (x ++ s) ∧ w.grownBy w' v.ownBlock ∧ w'.heap.size = w.heap.size) ∨ (v'.ownBlock = some w.heap.size ∧ Own w' v' (x ++ s) ∧ w.grownBy w' none ∧ w'.heap.size = w.heap.size + 1)) := by
  obtain ⟨i, hi, hz0, hz1, hz2⟩ := info_parts info_byte
  have ht := Tryz.underlying45
  have hu := Tryz.underlying9
  have hx : (x ++ s).size = x.size + s.size := ByteArray.size_append
  by_cases h0 : s.size = 0
  · have e0 := size0 h0
    have hx : x ++ s = x := by rw [e0]; exact ByteArray.append_empty
    rw [hx]
    refine ⟨v, w, ?_, hb, Or.inl ⟨rfl, rfl, h0⟩⟩
    have hf := Lib.run_firstCells_string (P := Tryz.prog) w 1 s
    rw [h0] at hf
    have hsc : strCells s = [] := List.eq_nil_of_length_eq_zero (by rw [strCells_length]; exact h0)
    rcases hb with ⟨rfl, -⟩ | ⟨g, cap, rfl, h1, h2, h3, h4⟩
    · simp [Builtin.append_, run_underlying ht, run_underlying hu, sizeOf, typeInfo, hi, hz1, Builtin.lenOf, h0, hf]
    · rw [hsc] at hf
      simp [Builtin.append_, run_underlying ht, run_underlying hu, sizeOf, typeInfo, hi, hz1, Builtin.lenOf, h0, hf, h1, storeCells, Result.andThen, Sem.run_pure]
  · rcases hb with ⟨rfl, rfl⟩ | ⟨g, cap, rfl, h1, h2, h3, h4⟩
    · have hr2 := run_append_nil_string (P := Tryz.prog) w 45 9 ty 5 i (.int .u8 0) ht hu hi hz0 s (by omega) (by omega) (by rw [hz2]; omega)
      have hg := grown_row w ⟨#[]⟩ s 0 hz
      have e1 : (s.data.map fun b => Value.int .u8 b.toNat) = (strCells s).toArray := by
        apply Array.ext'
        simp [strCells]
      have e2 : strCells ⟨#[]⟩ = [] := rfl
      have e3 : (⟨#[]⟩ : ByteArray).size = 0 := rfl
      rw [e1] at hr2
      rw [e2, e3] at hg
      simp only [Nat.zero_add, Array.empty_append] at hg
      exact ⟨_, _, hr2, hg.1.byt, Or.inr (Or.inr ⟨rfl, hg.1, hg.2, by simp⟩)⟩
    · by_cases hroom : x.size + s.size ≤ cap
      · have hown : Own w (.slice (some ⟨g, 0, none⟩) x.size cap) x := by
          rcases hr with hr | hr
          · rcases hr with hr | ⟨g', n, hr⟩
            · cases hr
            · cases hr; omega
          · exact hr
        rcases hown.2 with ⟨h5, -⟩ | ⟨g', cap', cur, h5, -, hg, hnc, hcm, hcs, htake⟩
        · cases h5
        · cases h5
          have hcs' : cur.size = cap := by simpa using hcs
          have hr2 := Lib.run_append_room_string (P := Tryz.prog) w 45 9 ty 5 i ht hu hi hz1 g x.size cap cur hg s hroom (by omega)
          have hl : (strCells (x ++ s)).length = (x.size + s.size) * 1 := by rw [strCells_length, hx, Nat.mul_one]
          have hO : Own (w.setRow g (cur.toList.take x.size ++ strCells s ++ cur.toList.drop (x.size + s.size)).toArray) (.slice (some ⟨g, 0, none⟩) (x.size + s.size) cap) (x ++ s) := by
            unfold Own
            rw [hx]
            refine ⟨hl, .inr ⟨g, cap, _, rfl, Nat.zero_le _, setRow_heap w g cur _ _ _ hg, hroom, hcm, ?_, ?_⟩⟩
            · simp only [List.size_toArray, List.length_append, List.length_take, List.length_drop, Array.length_toList, strCells_length]
              omega
            · have ht' : cur.toList.take x.size = strCells x := by simpa using htake
              rw [ht', ← strCells_append, ← hl]
              exact List.take_left
          exact ⟨_, _, hr2, hO.byt, Or.inr (Or.inl ⟨fun hF => by
            rcases hF with hF | ⟨g2, n2, hF⟩
            · cases hF
            · cases hF; omega, rfl, hO, ⟨rfl, rfl, rfl, by simp, fun k _ hk => setRow_other w g k _ (fun e => hk (by simp [Value.ownBlock, e]))⟩, by simp⟩)⟩
      · have holds : ∀ j u, (strCells x)[j]? = some u → w.cell? ((⟨g, 0, none⟩ : Addr).add j) = some u := fun j u hu => by rw [plain_add]; exact h4 j u hu
        have hr2 := Lib.run_append_grow_string (P := Tryz.prog) w 45 9 ty 5 i (.int .u8 0) ht hu hi hz0 ⟨g, 0, none⟩ x.size cap (strCells x) (by rw [hz1, strCells_length]; omega) holds s (by omega) (by omega) (by rw [hz2]; exact growslice_fits (by omega) (by omega))
        have hg := grown_row w x s cap hz
        exact ⟨_, _, hr2, hg.1.byt, Or.inr (Or.inr ⟨rfl, hg.1, hg.2, by simp⟩)⟩
end DiskP
end Go.Proofs.YtfbdhlpgklkjmaaGreatDoor
namespace Go.Proofs.YtfbdhlpgklkjmaaGreatDoor
open Go.RowKit Go.Maps
namespace DiskP
open DiskM DiskC
open Go.Lib (strCells strCells_length)

def upd (vals : ByteArray → Value) (n : ByteArray) (v : Value) : ByteArray → Value := fun k => if k.data.toList == n.data.toList then v else vals k
theorem upd_same (vals : ByteArray → Value) (n : ByteArray) (v : Value) : upd vals n v n = v := by simp [upd]
theorem upd_other {vals : ByteArray → Value} {n k : ByteArray} {v : Value} (h : k ≠ n) : upd vals n v k = vals k := by
  unfold upd
  rw [if_neg]
  intro e
  exact h (ByteArray.ext (Array.toList_inj.1 (beq_iff_eq.1 e)))
structure FileAt (w : World) (B b m : Nat) (F : Nat → Prop) (vals : ByteArray → Value) (n x : ByteArray) : Prop where
  byt : Byt w (vals n) x
  blk : ∀ g, (vals n).ownBlock = some g → g ≠ b ∧ g ≠ m ∧ (F g ∨ g < B)
  room : Full (vals n) ∨ (Own w (vals n) x ∧ ∀ g, (vals n).ownBlock = some g → F g ∧ ∀ n', n' ≠ n → (vals n').ownBlock ≠ some g)
structure Files (ex : ByteArray → Prop) (w : World) (B b m : Nat) (F : Nat → Prop) (fs : FL) (D : DataW Unit) (vals : ByteArray → Value) : Prop where
  map : w.ownsMap Tryz.prog 9 eR m fs.length D
  size : Maps.size D = fs.length
  dom : ∀ n, Maps.has D (keyN n) = hasF n fs
  at_ : ∀ n, D.atKey (keyN n) .nil = encV (vals n)
  file : ∀ n, ¬ ex n → FileAt w B b m F vals n (bytesF n fs)
  sorted : Sorted fs
  lt : ∀ i, F i → i < w.heap.size
  fb : F b
  fm : F m
  bm : b ≠ m
abbrev NoEx : ByteArray → Prop := fun _ => False
theorem Byt.lt {w : World} {v : Value} {x : ByteArray} (h : Byt w v x) : ∀ g, v.ownBlock = some g → g < w.heap.size := by
  intro g hg
  rcases h with ⟨rfl, -⟩ | ⟨g', cap, rfl, -, -, h3, -⟩
  · cases hg
  · cases hg; exact h3
theorem ownsMap_keeps {w w' : World} {k : TypeId} {R : Value → Option (DataW Unit × List MemPlace)} {m n : Nat} {D : DataW Unit} (h : w.ownsMap Tryz.prog k R m n D) (hb : w'.heap[m]? = w.heap[m]?) : w'.ownsMap Tryz.prog k R m n D := by
  obtain ⟨es, clock, h1, r⟩ := h
  exact ⟨es, clock, hb.trans h1, r⟩
theorem ownsMap_tight {w : World} {k : TypeId} {R : Value → Option (DataW Unit × List MemPlace)} {m n : Nat} {D : DataW Unit} (h : w.ownsMap Tryz.prog k R m n D) : w.ownsMap Tryz.prog k R m (Maps.size D) D := by
  obtain ⟨es, clock, h1, h2, h3, h4⟩ := h
  refine ⟨es, clock, h1, h2, ?_, h4⟩
  rw [h4, Maps.size_eq, length_sorted]
  simp
/-- what turns in blocks where no file lies -/
theorem Files.turn {ex ex' : ByteArray → Prop} {w w1 : World} {B b m : Nat} {F F' S : Nat → Prop} {fs : FL} {D : DataW Unit} {vals : ByteArray → Value} (h : Files ex w B b m F fs D vals) (k : Keeps S w w1) (hm : ¬ S m)
    (hv : ∀ n g, ¬ ex' n → (vals n).ownBlock = some g → ¬ S g) (hex : ∀ n, ex n → ex' n) (hF : ∀ i, F i → F' i) (hlt : ∀ i, F' i → i < w1.heap.size) : Files ex' w1 B b m F' fs D vals where
  map := ownsMap_keeps h.map (k.block m (h.lt m h.fm) hm)
  size := h.size
  dom := h.dom
  at_ := h.at_
  file := fun n hn => by
    have f := h.file n (fun e => hn (hex n e))
    have hb : ∀ g, (vals n).ownBlock = some g → w1.heap[g]? = w.heap[g]? := fun g hg => k.block g (f.byt.lt g hg) (hv n g hn hg)
    refine ⟨f.byt.keeps k.size hb, fun g hg => ?_, ?_⟩
    · obtain ⟨h1, h2, h3⟩ := f.blk g hg
      exact ⟨h1, h2, h3.imp (hF g) id⟩
    · rcases f.room with hr | ⟨hr, h2⟩
      · exact Or.inl hr
      · exact Or.inr ⟨hr.keeps hb, fun g hg => ⟨hF g (h2 g hg).1, (h2 g hg).2⟩⟩
  sorted := h.sorted
  lt := hlt
  fb := hF b h.fb
  fm := hF m h.fm
  bm := h.bm
theorem Files.keeps {ex : ByteArray → Prop} {w w1 : World} {B b m : Nat} {F S : Nat → Prop} {fs : FL} {D : DataW Unit} {vals : ByteArray → Value} (h : Files ex w B b m F fs D vals) (k : Keeps S w w1) (hS : ∀ i, F i → ¬ S i) (hB : ∀ i, S i → B ≤ i) : Files ex w1 B b m F fs D vals :=
  h.turn k (hS m h.fm) (fun n g hn hg hs => by
    rcases ((h.file n hn).blk g hg).2.2 with h1 | h1
    · exact hS g h1 hs
    · have := hB g hs; omega) (fun _ e => e) (fun _ e => e) (fun i hi => Nat.lt_of_lt_of_le (h.lt i hi) k.size)
theorem keeps_of_grown {w w' : World} {row : Option Nat} (h : w.grownBy w' row) : Keeps (fun i => row = some i) w w' := ⟨h.os, h.tape, h.output, h.size, fun k hk hn => h.block k hk (fun e => hn e.symm)⟩
theorem files_tidy {ex : ByteArray → Prop} {w : World} {B b m : Nat} {F : Nat → Prop} {fs : FL} {D : DataW Unit} {vals : ByteArray → Value} (h : Files ex w B b m F fs D vals) : Maps.Tidy D := h.map.tidy keyed
/-- one file is laid -/
theorem Files.put {w w' : World} {B b m : Nat} {F : Nat → Prop} {fs : FL} {D : DataW Unit} {vals : ByteArray → Value} {name x : ByteArray} {v' : Value} (h : Files (· = name) w B b m F fs D vals)
    (hm : w'.ownsMap Tryz.prog 9 eR m (fs.length + 1) (D.put (keyN name) (encV v'))) (hg : w.grownBy w' (some m)) (hb : Byt w v' x) (hblk : ∀ g, v'.ownBlock = some g → g ≠ b ∧ g ≠ m ∧ (F g ∨ g < B))
    (hroom : Full v' ∨ (Own w v' x ∧ ∀ g, v'.ownBlock = some g → F g ∧ ∀ n', n' ≠ name → (vals n').ownBlock ≠ some g))
    (hoth : ∀ n g, n ≠ name → ¬ Full (vals n) → (vals n).ownBlock = some g → v'.ownBlock ≠ some g) :
    Files NoEx w' B b m F (layF name x fs) (D.put (keyN name) (encV v')) (upd vals name v') := by
  have hT := files_tidy h
  have hsz : Maps.size (D.put (keyN name) (encV v')) = (layF name x fs).length := by rw [Maps.size_put hT, h.dom, h.size, lay_len']
  have hkeep : ∀ g, g ≠ m → g < w.heap.size → w'.heap[g]? = w.heap[g]? := fun g hgm hgl => hg.block g hgl (fun e => hgm (by simpa using e))
  refine ⟨by rw [← hsz]; exact ownsMap_tight hm, hsz, fun n => ?_, fun n => ?_, fun n _ => ?_, h.sorted.lay, fun i hi => Nat.lt_of_lt_of_le (h.lt i hi) hg.size, h.fb, h.fm, h.bm⟩
  · by_cases hn : n = name
    · subst hn
      rw [Maps.has_put_same hT.isMap (keyN_key n), (has_lay n x fs).1]
    · rw [Maps.has_put_other (keyN_ne hn), h.dom, (has_lay_other hn h.sorted).1]
  · by_cases hn : n = name
    · subst hn
      rw [Maps.atKey_put_same hT.isMap (keyN_key n), upd_same]
    · rw [Maps.atKey_put_other (keyN_ne hn), h.at_, upd_other hn]
  · by_cases hn : n = name
    · subst hn
      have hbb : ∀ g, v'.ownBlock = some g → w'.heap[g]? = w.heap[g]? := fun g hg' => hkeep g (hblk g hg').2.1 (hb.lt g hg')
      refine ⟨?_, ?_, ?_⟩
      · rw [upd_same, (has_lay n x fs).2]; exact hb.keeps hg.size hbb
      · rw [upd_same]; exact hblk
      · rw [upd_same, (has_lay n x fs).2]
        rcases hroom with hr | ⟨hr, h2⟩
        · exact Or.inl hr
        · exact Or.inr ⟨hr.keeps hbb, fun g hg' => ⟨(h2 g hg').1, fun n' hn' => by rw [upd_other hn']; exact (h2 g hg').2 n' hn'⟩⟩
    · have f := h.file n hn
      have hbb : ∀ g, (vals n).ownBlock = some g → w'.heap[g]? = w.heap[g]? := fun g hg' => hkeep g (f.blk g hg').2.1 (f.byt.lt g hg')
      refine ⟨?_, ?_, ?_⟩
      · rw [upd_other hn, (has_lay_other hn h.sorted).2]; exact f.byt.keeps hg.size hbb
      · rw [upd_other hn]; exact f.blk
      · rw [upd_other hn, (has_lay_other hn h.sorted).2]
        by_cases hfull : Full (vals n)
        · exact Or.inl hfull
        · rcases f.room with hr | ⟨hr, h2⟩
          · exact absurd hr hfull
          · refine Or.inr ⟨hr.keeps hbb, fun g hg' => ⟨(h2 g hg').1, fun n' hn' => ?_⟩⟩
            by_cases hn2 : n' = name
            · subst hn2; rw [upd_same]; exact hoth n g hn hfull hg'
            · rw [upd_other hn2]; exact (h2 g hg').2 n' hn'
/-- one file is taken -/
theorem Files.del {w w' : World} {B b m : Nat} {F : Nat → Prop} {fs : FL} {D : DataW Unit} {vals : ByteArray → Value} {name : ByteArray} (h : Files NoEx w B b m F fs D vals)
    (hm : w'.ownsMap Tryz.prog 9 eR m fs.length (D.del (keyN name))) (hg : w.grownBy w' (some m)) :
    Files NoEx w' B b m F (takeF name fs) (D.del (keyN name)) (upd vals name (.slice none 0 0)) := by
  have hT := files_tidy h
  have hsz : Maps.size (D.del (keyN name)) = (takeF name fs).length := by
    have h1 := Maps.size_del (k := keyN name) hT
    have h2 := take_len1 (m := name) fs
    rw [h.dom, h.size] at h1
    omega
  have hkeep : ∀ g, g ≠ m → g < w.heap.size → w'.heap[g]? = w.heap[g]? := fun g hgm hgl => hg.block g hgl (fun e => hgm (by simpa using e))
  refine ⟨by rw [← hsz]; exact ownsMap_tight hm, hsz, fun n => ?_, fun n => ?_, fun n _ => ?_, h.sorted.take, fun i hi => Nat.lt_of_lt_of_le (h.lt i hi) hg.size, h.fb, h.fm, h.bm⟩
  · by_cases hn : n = name
    · subst hn
      rw [Maps.has_del_same, (has_take h.sorted).1]
    · rw [Maps.has_del_other (keyN_ne hn), h.dom, (has_take_other hn h.sorted).1]
  · by_cases hn : n = name
    · subst hn
      rw [Maps.atKey_del_same, upd_same]; rfl
    · rw [Maps.atKey_del_other (keyN_ne hn), h.at_, upd_other hn]
  · by_cases hn : n = name
    · subst hn
      rw [(has_take h.sorted).2]
      exact ⟨by rw [upd_same]; exact Or.inl ⟨rfl, rfl⟩, by rw [upd_same]; intro g hg; exact absurd hg (by simp [Value.ownBlock]), by rw [upd_same]; exact Or.inl (Or.inl rfl)⟩
    · have f := h.file n (fun e => e)
      have hbb : ∀ g, (vals n).ownBlock = some g → w'.heap[g]? = w.heap[g]? := fun g hg' => hkeep g (f.blk g hg').2.1 (f.byt.lt g hg')
      refine ⟨?_, ?_, ?_⟩
      · rw [upd_other hn, (has_take_other hn h.sorted).2]; exact f.byt.keeps hg.size hbb
      · rw [upd_other hn]; exact f.blk
      · rw [upd_other hn, (has_take_other hn h.sorted).2]
        rcases f.room with hr | ⟨hr, h2⟩
        · exact Or.inl hr
        · refine Or.inr ⟨hr.keeps hbb, fun g hg' => ⟨(h2 g hg').1, fun n' hn' => ?_⟩⟩
          by_cases hn2 : n' = name
          · subst hn2; rw [upd_same]; intro e; cases e
          · rw [upd_other hn2]; exact (h2 g hg').2 n' hn'
/-- what a look-up finds -/
theorem Files.look {ex : ByteArray → Prop} {w : World} {B b m : Nat} {F : Nat → Prop} {fs : FL} {D : DataW Unit} {vals : ByteArray → Value} (h : Files ex w B b m F fs D vals) {n : ByteArray} (hn : ¬ ex n) {v : Value} {ps : List MemPlace} (hv : eR v = some (D.atKey (keyN n) .nil, ps)) : v = vals n := by
  obtain ⟨h1, h2⟩ := eR_inv hv
  refine encV_inj h1 (h.file n hn).byt.ok ?_
  rw [← h.at_ n]
  exact (congrArg Prod.fst h2).symm
theorem Files.absent {ex : ByteArray → Prop} {w : World} {B b m : Nat} {F : Nat → Prop} {fs : FL} {D : DataW Unit} {vals : ByteArray → Value} (h : Files ex w B b m F fs D vals) {n : ByteArray} (hn : ¬ ex n) (hh : hasF n fs = false) : vals n = .slice none 0 0 := by
  have e := h.at_ n
  rw [Maps.atKey_of_not_has (by rw [h.dom, hh])] at e
  rcases okV_cases (h.file n hn).byt.ok with e2 | ⟨g, l, c, e2⟩
  · exact e2
  · rw [e2] at e; cases e
theorem Byt.len {w : World} {v : Value} {x : ByteArray} (h : Byt w v x) : ∃ a c, v = .slice a x.size c ∧ x.size ≤ c := by
  rcases h with ⟨rfl, rfl⟩ | ⟨g, cap, rfl, h1, -⟩
  · exact ⟨_, _, rfl, Nat.le_refl _⟩
  · exact ⟨_, _, rfl, h1⟩
theorem Byt.size_le {w : World} {v : Value} {x : ByteArray} (h : Byt w v x) : x.size ≤ maxLen := by
  rcases h with ⟨rfl, rfl⟩ | ⟨g, cap, rfl, h1, h2, -⟩
  · exact Nat.zero_le _
  · omega
end DiskP
end Go.Proofs.YtfbdhlpgklkjmaaGreatDoor
