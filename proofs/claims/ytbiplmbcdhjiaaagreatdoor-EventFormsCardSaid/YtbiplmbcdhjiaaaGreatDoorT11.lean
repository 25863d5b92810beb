/-
  What the proof of EventForms stands on, part 11.
-/
import Derived.Deep.CutRange
import Derived.Laws.OwnMore
import Derived.Lib.QuietBelow
import Derived.Shelf.SlSortCmp.NoneTotal
import Derived.Shelf.SlSortFuncK.ComposeK
import Derived.Shelf.Slices.CompactS
import Derived.Sort.OwnSorted
import Derived.Test.YtbiplmbcdhjiaaaGreatDoorT09
set_option linter.unusedSimpArgs false
set_option linter.unusedVariables false
set_option maxHeartbeats 16000000
namespace Go.Proofs.YtbiplmbcdhjiaaaGreatDoor
open Go.Lib (hid)
section
open Go.RowKit
namespace VerC
open VerM StrC TextR
def encT (l : B) : Value := .string (str l)
theorem info_text : (Tryz.prog.info? 9).map (fun i => (i.zero, i.size, i.bytes)) = some (some (.string ⟨#[]⟩), 1, 16) := by kernel_rfl
def OwnS (w : World) (B : Nat) (v : Value) (l : TL) : Prop := w.ownsRow B 9 1 v l.length (l.map encT)
theorem OwnS.nil (w : World) (B : Nat) : OwnS w B (.slice none 0 0) [] := World.ownsRow_nil _ _ _ _
theorem zid {w w' : World} (h : Below w.heap.size w w') : w.grownBy w' none := ⟨h.os, h.tape, h.output, h.size, fun k hk _ => h.block k hk⟩
theorem OwnS.below {w w' : World} {B : Nat} {v : Value} {l : TL} (h : OwnS w B v l) (hb : Below w.heap.size w w') : OwnS w' B v l := World.ownsRow.kept h (zid hb) (Classical.em _)
theorem snocS {w : World} {B n : Nat} {v : Value} {l : TL} {s : List UInt8} (h : w.ownsRow B 9 1 v (n + 1) (l.map encT ++ [encT s])) (hn : n = l.length) : OwnS w B v (l ++ [s]) := by
 unfold OwnS
 rw [List.map_append, List.map_singleton, List.length_append, List.length_singleton, ← hn]
 exact h
theorem OwnS.open_ {w : World} {B : Nat} {v : Value} {l : TL} (h : OwnS w B v l) (hp : 0 < l.length) : ∃ g cp, v = .slice (some ⟨g, 0, none⟩) l.length cp ∧ B ≤ g ∧ g < w.heap.size ∧ l.length ≤ cp ∧ cp ≤ maxLen ∧
 (∀ i, i < l.length → w.cell? ⟨g, i, none⟩ = some (.string (str (l.getD i [])))) ∧ (∀ i, w.frozen? ⟨g, i, none⟩ = false) := by
 have h' : w.ownsRow B 9 1 v l.length (l.map encT) := h
 have hlt := h'.lt
 have h0 := h'
 obtain ⟨_, ⟨rfl, h1⟩ | ⟨g, cp, cur, rfl, hg0, hblk, hle, hcm, hsz, htk⟩⟩ := h'
 · omega
 · refine ⟨g, cp, rfl, hg0, (hlt g rfl).2, hle, hcm, fun i hi => ?_, fun i => h0.frozenAt i⟩
   rw [h0.cellAt i (by omega)]
   simp [hi]; rfl
end VerC
end
section

end
section
open Go.RowKit
namespace VerC
open VerM StrC TextR Go.Sort Go.Shelf
structure TD (w : World) (blk : Nat) where
 s : B
 v : Ver
 a : Option Addr
 c : Nat
 read : readB s = some v
 txs : Txs w a c v.pre
 far : ∀ b o, a = some ⟨b, o, none⟩ → b ≠ blk
instance (w : World) (blk : Nat) : Inhabited (TD w blk) := ⟨⟨[48, 46, 48, 46, 48], ⟨0, 0, 0, []⟩, none, 0, by rfl, Txs.nil _ _ _, fun b o h => by cases h⟩⟩
end VerC
end
section
namespace RowKC
open Go Go.Sort
theorem zie {α : Type} [Inhabited α] (enc : α → List Value) (k : Nat) (hk : ∀ x, (enc x).length = k) : ∀ (l : List α) (j : Nat), j < l.length * k → (l.flatMap enc)[j]? = some ((enc l[j / k]!)[j % k]!)
 | [], j, h => by simp at h
 | x :: l, j, h => by
  have k0 : 0 < k := by
   rcases Nat.eq_zero_or_pos k with e | e
   · subst e; simp at h
   · exact e
  rw [List.flatMap_cons]
  by_cases hj : j < k
  · rw [List.getElem?_append_left (by rw [hk]; exact hj), Nat.div_eq_of_lt hj, Nat.mod_eq_of_lt hj]
    simp [hk, hj]
  · rw [List.length_cons, Nat.add_mul, Nat.one_mul] at h
    rw [List.getElem?_append_right (by rw [hk]; omega), hk, zie enc k hk l (j - k) (by omega), Nat.mod_eq_sub_mod (a := j) (b := k) (by omega), Nat.div_eq_sub_div (a := j) (b := k) k0 (by omega)]
    simp
theorem zif {α : Type} (enc : α → List Value) (k : Nat) (hk : ∀ x, (enc x).length = k) : ∀ (l : List α), (l.flatMap enc).length = l.length * k
 | [] => by simp
 | x :: l => by rw [List.flatMap_cons, List.length_append, hk, zif enc k hk l, List.length_cons, Nat.add_mul, Nat.one_mul, Nat.add_comm]
theorem zig {α : Type} [Inhabited α] (d : Array α) (i : Nat) : d.toList[i]! = d[i]! := by
 by_cases h : i < d.size
 · rw [getElem!_pos d i h, getElem!_pos d.toList i (by simpa using h)]; simp
 · rw [getElem!_neg d i h, getElem!_neg d.toList i (by simpa using h)]
theorem zih {α : Type} [Inhabited α] (enc : α → List Value) (k : Nat) (hk : ∀ x, (enc x).length = k) (d : Array α) : (flatK enc k d).toList = d.toList.flatMap enc := by
 apply List.ext_getElem?
 intro j
 by_cases hj : j < d.size * k
 · rw [zie enc k hk d.toList j (by simpa using hj), Array.getElem?_toList, Array.getElem?_eq_getElem (by simpa using hj)]
   have := get_flatK enc k d j hj
   rw [getElem!_pos _ j (by simpa using hj)] at this
   rw [this, zig d (j / k)]
 · rw [List.getElem?_eq_none (by simpa using hj), List.getElem?_eq_none (by rw [zif enc k hk]; simpa using hj)]
theorem zii {α : Type} [Inhabited α] (enc : α → List Value) (k : Nat) (hk : ∀ x, (enc x).length = k) {w : World} {base g cap : Nat} {e : TypeId} {d : Array α} (h : w.ownsRow base e k (.slice (some ⟨g, 0, none⟩) d.size cap) d.size (d.toList.flatMap enc)) : HoldsK enc k w g 0 d := by
 intro j hj
 have hj' : j < d.size * k := by simpa using hj
 refine ⟨?_, by rw [Nat.zero_add]; exact h.frozenAt j⟩
 rw [Nat.zero_add, h.cellAt j hj', zie enc k hk d.toList j (by simpa using hj'), get_flatK enc k d j hj', zig d (j / k)]
 rfl
theorem zij {w : World} {g n : Nat} {os : Array Obj} {cur : Array Value} {e : TypeId} {fr : Nat × Nat} (F : Array Value) (hb : w.heap[g]? = some (.cells cur e fr)) :
 (grow (putRow id (Sort.ahead w n) g 0 F) os).heap[g]? = some (.cells (putCells id 0 F cur) e fr) := by
 have hg : g < w.heap.size := (Array.getElem?_eq_some_iff.1 hb).1
 rw [heap_grow_old _ _ (by simpa using hg)]
 simp [putRow, mapBlock, Sort.ahead, Array.getElem?_modify, hb, onCells]
theorem zik {α : Type} [Inhabited α] (enc : α → List Value) (k : Nat) {w : World} {g n : Nat} {os : Array Obj} (d : Array α) : w.grownBy (sortWorldK enc k w g 0 n d os) (some g) := by
 unfold sortWorldK putRowK
 refine ⟨rfl, rfl, rfl, by simp, fun k hk hne => ?_⟩
 rw [heap_grow_old _ _ (by simpa using hk)]
 have : g ≠ k := fun e => hne (by rw [e])
 simp [putRow, mapBlock, Sort.ahead, Array.getElem?_modify, this]
theorem zil (cur F : Array Value) (h : F.size ≤ cur.size) : (putCells id 0 F cur).toList.take F.size = F.toList := by
 apply List.ext_getElem?
 intro j
 by_cases hj : j < F.size
 · rw [List.getElem?_take_of_lt hj, Array.getElem?_toList, Array.getElem?_toList]
   simp [putCells, hj, show j < cur.size by omega]
 · rw [List.getElem?_take_eq_none (by omega), List.getElem?_eq_none (by simp; omega)]
theorem zim {α : Type} [Inhabited α] (enc : α → List Value) (k : Nat) (hk : ∀ x, (enc x).length = k) {w : World} {base g cap n m : Nat} {e : TypeId} {xs : List Value} {os : Array Obj} {d : Array α} (hm : d.size = m) (h : w.ownsRow base e k (.slice (some ⟨g, 0, none⟩) m cap) m xs) :
 (sortWorldK enc k w g 0 n d os).ownsRow base e k (.slice (some ⟨g, 0, none⟩) m cap) m (d.toList.flatMap enc) := by
 subst hm
 rcases h.2 with ⟨h0, _⟩ | ⟨g', cap', cur, e1, hbase, hb, h1, h2, h3, h4⟩
 · cases h0
 simp only [Value.slice.injEq, Option.some.injEq, Addr.mk.injEq, and_true, true_and] at e1
 obtain ⟨rfl, rfl⟩ := e1
 refine ⟨by rw [zif enc k hk]; simp, .inr ⟨g, cap, _, rfl, hbase, zij _ hb, h1, h2, by simp [putCells, h3], ?_⟩⟩
 rw [← zih enc k hk, ← size_flatK enc k d]
 exact zil cur _ (by rw [size_flatK, h3]; exact Nat.mul_le_mul_right _ h1)
end RowKC
end
end Go.Proofs.YtbiplmbcdhjiaaaGreatDoor
