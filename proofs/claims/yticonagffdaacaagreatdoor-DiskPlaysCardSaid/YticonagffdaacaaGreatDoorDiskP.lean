/-
  Package disk's files: a map of slices of bytes. What block m holds for a list of files of the document, over which blocks; what one store and one delete make of it.
-/
import Derived.Test.YticonagffdaacaaGreatDoorChecked
import Derived.Test.YticonagffdaacaaGreatDoorDiskKeeps
import Derived.Test.YticonagffdaacaaGreatDoorDiskMath3
import Derived.Lib.AppendStr
import Derived.Maps.OwnSet
import Derived.Maps.RangeWalk
import Derived.Maps.AppendAt
namespace Go.Proofs.YticonagffdaacaaGreatDoor
open Go.RowKit Go.Maps
namespace DiskP
open DiskM DiskC
open Go.Lib (strCells strCells_length)

/-- the shapes that a file's slice has: nil, or from a block's head -/
def okV : Value → Bool
  | .slice none l c => l == 0 && c == 0
  | .slice (some a) _ _ => a.off == 0 && a.spot.isNone
  | _ => false
def encV : Value → DataW Unit
  | .slice (some a) l c => .agg [.lit (.int .i64 a.block), .lit (.int .i64 l), .lit (.int .i64 c)]
  | _ => .nil
def eR (v : Value) : Option (DataW Unit × List MemPlace) := if okV v then some (encV v, []) else none
theorem okV_slice (g l c : Nat) : okV (.slice (some ⟨g, 0, none⟩) l c) = true := rfl
theorem okV_cases {v : Value} (h : okV v = true) : v = .slice none 0 0 ∨ ∃ g l c, v = .slice (some ⟨g, 0, none⟩) l c := by
  unfold okV at h
  split at h
  · simp at h; obtain ⟨rfl, rfl⟩ := h; exact Or.inl rfl
  · rename_i a l c
    obtain ⟨g, o, p⟩ := a
    simp at h
    obtain ⟨rfl, rfl⟩ := h
    exact Or.inr ⟨g, l, c, rfl⟩
  · cases h
theorem encV_inj {v u : Value} (hv : okV v = true) (hu : okV u = true) (h : encV v = encV u) : v = u := by
  rcases okV_cases hv with rfl | ⟨g, l, c, rfl⟩ <;> rcases okV_cases hu with rfl | ⟨g', l', c', rfl⟩
  · rfl
  · simp [encV] at h
  · simp [encV] at h
  · simp [encV] at h
    obtain ⟨h1, h2, h3⟩ := h
    have e1 : g = g' := by omega
    have e2 : l = l' := by omega
    have e3 : c = c' := by omega
    rw [e1, e2, e3]
theorem eR_ok {v : Value} (h : okV v = true) : eR v = some (encV v, []) := by unfold eR; rw [if_pos h]
theorem eR_inv {v : Value} {y : DataW Unit × List MemPlace} (h : eR v = some y) : okV v = true ∧ y = (encV v, []) := by
  unfold eR at h
  split at h
  · rename_i hk; exact ⟨hk, by simpa using h.symm⟩
  · cases h
abbrev keyN (n : ByteArray) : Lit := .string n.data.toList
theorem keyN_inj {a b : ByteArray} (h : keyN a = keyN b) : a = b := ByteArray.ext (Array.toList_inj.1 (by simpa [keyN] using h))
theorem keyN_ne {a b : ByteArray} (h : a ≠ b) : keyN a ≠ keyN b := fun e => h (keyN_inj e)
theorem keyN_key (n : ByteArray) : WideAt.IsKeyLit (keyN n) := trivial
theorem keyed : Keyed Tryz.prog 9 := string_keyed Tryz.underlying9
theorem keyOfN {n : ByteArray} (h : n.size ≤ 128) : keyOf Tryz.prog 9 (.string n) = some (keyN n) := Go.WideMaps.keyOf_string_mk Tryz.underlying9 (by unfold maxLen; omega)

/-! ### a file's bytes -/
def Byt (w : World) (v : Value) (x : ByteArray) : Prop :=
  (v = .slice none 0 0 ∧ x = ⟨#[]⟩) ∨ ∃ g cap, v = .slice (some ⟨g, 0, none⟩) x.size cap ∧ x.size ≤ cap ∧ cap ≤ maxLen ∧ g < w.heap.size ∧ ∀ j u, (strCells x)[j]? = some u → w.cell? ⟨g, j, none⟩ = some u
def Own (w : World) (v : Value) (x : ByteArray) : Prop := w.ownsRow 0 5 1 v x.size (strCells x)
/-- there is no room behind -/
def Full (v : Value) : Prop := v = .slice none 0 0 ∨ ∃ g n, v = .slice (some ⟨g, 0, none⟩) n n
theorem plain_add (g j : Nat) : (⟨g, 0, none⟩ : Addr).add j = ⟨g, j, none⟩ := by rw [Go.WideShapes.add_plain]; simp
theorem size0 {x : ByteArray} (h : x.size = 0) : x = ⟨#[]⟩ := ByteArray.ext (Array.eq_empty_of_size_eq_zero h)
theorem Own.byt {w : World} {v : Value} {x : ByteArray} (h : Own w v x) : Byt w v x := by
  have hl := fun g hg => h.lt g hg
  have hc := fun g hg => World.ownsRow.cells h (g := g) hg
  rcases h.2 with ⟨rfl, h0⟩ | ⟨g, cap, cur, rfl, -, hb, hn, hm, -⟩
  · exact Or.inl ⟨rfl, size0 h0⟩
  · exact Or.inr ⟨g, cap, rfl, hn, hm, (hl g rfl).2, fun j u hu => by have := hc g rfl j u hu; rwa [plain_add] at this⟩
theorem Byt.ok {w : World} {v : Value} {x : ByteArray} (h : Byt w v x) : okV v = true := by
  rcases h with ⟨rfl, -⟩ | ⟨g, cap, rfl, -⟩
  · rfl
  · exact okV_slice _ _ _
theorem Byt.keeps {w w' : World} {v : Value} {x : ByteArray} (h : Byt w v x) (hs : w.heap.size ≤ w'.heap.size) (hb : ∀ g, v.ownBlock = some g → w'.heap[g]? = w.heap[g]?) : Byt w' v x := by
  rcases h with h | ⟨g, cap, rfl, h1, h2, h3, h4⟩
  · exact Or.inl h
  · refine Or.inr ⟨g, cap, rfl, h1, h2, by omega, fun j u hu => ?_⟩
    rw [World.cell?_of_block (a := ⟨g, j, none⟩) (hb g rfl)]; exact h4 j u hu
theorem Own.keeps {w w' : World} {v : Value} {x : ByteArray} (h : Own w v x) (hb : ∀ g, v.ownBlock = some g → w'.heap[g]? = w.heap[g]?) : Own w' v x := by
  obtain ⟨h1, h2⟩ := h
  refine ⟨h1, ?_⟩
  rcases h2 with h2 | ⟨g, cap, cur, rfl, h3, h4, r⟩
  · exact Or.inl h2
  · exact Or.inr ⟨g, cap, cur, rfl, h3, (hb g rfl).trans h4, r⟩

theorem strCells_append (a b : ByteArray) : strCells (a ++ b) = strCells a ++ strCells b := by
  unfold strCells
  rw [ByteArray.data_append, Array.toList_append, List.map_append]
theorem info_byte : (Tryz.prog.info? 5).map (fun i => (i.zero, i.size, i.bytes)) = some (some (.int .u8 0), 1, 1) := by kernel_rfl
/-- a new row, in a new block -/
theorem grown_row (w : World) (x s : ByteArray) (old : Nat) (hz : x.size + s.size ≤ 1099511627776) :
    Own (w.drew.alloc (.cells ((strCells x).toArray ++ (strCells s).toArray ++ Builtin.zeroCells (Value.int .u8 0).cells (grownCap w (x.size + s.size) old 5 - (x.size + s.size))) 5)) (.slice (some ⟨w.heap.size, 0, none⟩) (x.size + s.size) (grownCap w (x.size + s.size) old 5)) (x ++ s) ∧
    w.grownBy (w.drew.alloc (.cells ((strCells x).toArray ++ (strCells s).toArray ++ Builtin.zeroCells (Value.int .u8 0).cells (grownCap w (x.size + s.size) old 5 - (x.size + s.size))) 5)) none := by
  have hge := grownCap_ge w (x.size + s.size) old 5
  have hcm : grownCap w (x.size + s.size) old 5 ≤ maxLen := grownCap_le_maxLen w (x.size + s.size) old _ (by unfold maxLen; omega)
  have hx : (x ++ s).size = x.size + s.size := ByteArray.size_append
  have hl : (strCells (x ++ s)).length = (x.size + s.size) * 1 := by rw [strCells_length, hx, Nat.mul_one]
  refine ⟨?_, ⟨rfl, rfl, rfl, by simp, fun k hk _ => heap_alloc_old w.drew _ hk⟩⟩
  unfold Own
  rw [hx]
  refine ⟨hl, .inr ⟨w.heap.size, _, _, rfl, Nat.zero_le _, heap_alloc_new w.drew _, hge, hcm, ?_, ?_⟩⟩
  · have hz1 : (Value.int IntKind.u8 0).cells.size = 1 := rfl
    simp only [Array.size_append, List.size_toArray, size_zeroCells, hz1, strCells_length]
    omega
  · simp only [Array.toList_append, List.append_assoc]
    rw [← List.append_assoc, ← strCells_append, ← hl]
    exact List.take_left
/-- append(v, s...): nothing, in the file's own row, or in a new one -/
theorem run_app (w : World) (ty : TypeId) (v : Value) (x s : ByteArray) (hb : Byt w v x) (hr : Full v ∨ Own w v x) (hz : x.size + s.size ≤ 1099511627776) :
    ∃ v' w', (Builtin.append_ #[67, 9] ty #[v, .string s]).run Tryz.prog w = .ok v' w' ∧ Byt w' v' (x ++ s) ∧
      ((v' = v ∧ w' = w ∧ s.size = 0) ∨ (¬ Full v ∧ v'.ownBlock = v.ownBlock ∧ Own w' v' (x ++ s) ∧ w.grownBy w' v.ownBlock ∧ w'.heap.size = w.heap.size) ∨ (v'.ownBlock = some w.heap.size ∧ Own w' v' (x ++ s) ∧ w.grownBy w' none ∧ w'.heap.size = w.heap.size + 1)) := by
  obtain ⟨i, hi, hz0, hz1, hz2⟩ := info_parts info_byte
  have ht := Tryz.underlying67
  have hu := Tryz.underlying9
  have hx : (x ++ s).size = x.size + s.size := ByteArray.size_append
  by_cases h0 : s.size = 0
  · have e0 := size0 h0
    have hx : x ++ s = x := by rw [e0]; exact ByteArray.append_empty
    rw [hx]
    refine ⟨v, w, ?_, hb, Or.inl ⟨rfl, rfl, h0⟩⟩
    have hf := Lib.run_firstCells_string (P := Tryz.prog) w 1 s
    rw [h0] at hf
    have hsc : strCells s = [] := List.eq_nil_of_length_eq_zero (by rw [strCells_length]; exact h0)
    rcases hb with ⟨rfl, -⟩ | ⟨g, cap, rfl, h1, h2, h3, h4⟩
    · simp [Builtin.append_, run_underlying ht, run_underlying hu, sizeOf, typeInfo, hi, hz1, Builtin.lenOf, h0, hf]
    · rw [hsc] at hf
      simp [Builtin.append_, run_underlying ht, run_underlying hu, sizeOf, typeInfo, hi, hz1, Builtin.lenOf, h0, hf, h1, storeCells, Result.andThen, Sem.run_pure]
  · rcases hb with ⟨rfl, rfl⟩ | ⟨g, cap, rfl, h1, h2, h3, h4⟩
    · have hr2 := run_append_nil_string (P := Tryz.prog) w 67 9 ty 5 i (.int .u8 0) ht hu hi hz0 s (by omega) (by omega) (by rw [hz2]; omega)
      have hg := grown_row w ⟨#[]⟩ s 0 hz
      have e1 : (s.data.map fun b => Value.int .u8 b.toNat) = (strCells s).toArray := by
        apply Array.ext'
        simp [strCells]
      have e2 : strCells ⟨#[]⟩ = [] := rfl
      have e3 : (⟨#[]⟩ : ByteArray).size = 0 := rfl
      rw [e1] at hr2
      rw [e2, e3] at hg
      simp only [Nat.zero_add, Array.empty_append] at hg
      exact ⟨_, _, hr2, hg.1.byt, Or.inr (Or.inr ⟨rfl, hg.1, hg.2, by simp⟩)⟩
    · by_cases hroom : x.size + s.size ≤ cap
      · have hown : Own w (.slice (some ⟨g, 0, none⟩) x.size cap) x := by
          rcases hr with hr | hr
          · rcases hr with hr | ⟨g', n, hr⟩
            · cases hr
            · cases hr; omega
          · exact hr
        rcases hown.2 with ⟨h5, -⟩ | ⟨g', cap', cur, h5, -, hg, hnc, hcm, hcs, htake⟩
        · cases h5
        · cases h5
          have hcs' : cur.size = cap := by simpa using hcs
          have hr2 := Lib.run_append_room_string (P := Tryz.prog) w 67 9 ty 5 i ht hu hi hz1 g x.size cap cur hg s hroom (by omega)
          have hl : (strCells (x ++ s)).length = (x.size + s.size) * 1 := by rw [strCells_length, hx, Nat.mul_one]
          have hO : Own (w.setRow g (cur.toList.take x.size ++ strCells s ++ cur.toList.drop (x.size + s.size)).toArray) (.slice (some ⟨g, 0, none⟩) (x.size + s.size) cap) (x ++ s) := by
            unfold Own
            rw [hx]
            refine ⟨hl, .inr ⟨g, cap, _, rfl, Nat.zero_le _, setRow_heap w g cur _ _ _ hg, hroom, hcm, ?_, ?_⟩⟩
            · simp only [List.size_toArray, List.length_append, List.length_take, List.length_drop, Array.length_toList, strCells_length]
              omega
            · have ht' : cur.toList.take x.size = strCells x := by simpa using htake
              rw [ht', ← strCells_append, ← hl]
              exact List.take_left
          exact ⟨_, _, hr2, hO.byt, Or.inr (Or.inl ⟨fun hF => by
            rcases hF with hF | ⟨g2, n2, hF⟩
            · cases hF
            · cases hF; omega, rfl, hO, ⟨rfl, rfl, rfl, by simp, fun k _ hk => setRow_other w g k _ (fun e => hk (by simp [Value.ownBlock, e]))⟩, by simp⟩)⟩
      · have holds : ∀ j u, (strCells x)[j]? = some u → w.cell? ((⟨g, 0, none⟩ : Addr).add j) = some u := fun j u hu => by rw [plain_add]; exact h4 j u hu
        have hr2 := Lib.run_append_grow_string (P := Tryz.prog) w 67 9 ty 5 i (.int .u8 0) ht hu hi hz0 ⟨g, 0, none⟩ x.size cap (strCells x) (by rw [hz1, strCells_length]; omega) holds s (by omega) (by omega) (by rw [hz2]; exact growslice_fits (by omega) (by omega))
        have hg := grown_row w x s cap hz
        exact ⟨_, _, hr2, hg.1.byt, Or.inr (Or.inr ⟨rfl, hg.1, hg.2, by simp⟩)⟩
end DiskP
end Go.Proofs.YticonagffdaacaaGreatDoor
