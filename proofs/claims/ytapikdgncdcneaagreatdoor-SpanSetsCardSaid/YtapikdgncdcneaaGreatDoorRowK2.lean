/-
  Rows of a call's own whose elements have several cells each: one element stored; cut at a place, whatever is written behind it.
-/
import Derived.Test.YtapikdgncdcneaaGreatDoorRowK
import Derived.Test.YtapikdgncdcneaaGreatDoorVerRef2
import Derived.Deep.MidRow
namespace Go.Proofs.YtapikdgncdcneaaGreatDoor
open Go.RowKit
namespace RowKC
open Go Go.Sort VerC
set_option linter.unusedSimpArgs false
theorem heap_setCells (g : Nat) : ∀ (vs : List Value) (s : Nat) (w : World) (cur : Array Value) (e : TypeId) (fr : Nat × Nat), w.heap[g]? = some (.cells cur e fr) →
    ∃ cur', (w.setCells g s vs).heap[g]? = some (.cells cur' e fr) ∧ cur'.size = cur.size ∧ (∀ t, t < s ∨ s + vs.length ≤ t → cur'[t]? = cur[t]?) ∧ ∀ j, j < vs.length → s + j < cur.size → cur'[s + j]? = vs[j]?
  | [], s, w, cur, e, fr, h => ⟨cur, h, rfl, fun _ _ => rfl, fun j hj => by simp at hj⟩
  | v :: r, s, w, cur, e, fr, h => by
    obtain ⟨cur', h1, h2, h3, h4⟩ := heap_setCells g r (s + 1) (w.setCell ⟨g, s, none⟩ v) (cur.setIfInBounds s v) e fr (setCell_row h s v)
    refine ⟨cur', h1, by rw [h2]; simp, fun t ht => ?_, fun j hj hs => ?_⟩
    · have hl : (v :: r).length = r.length + 1 := rfl
      rw [h3 t (by omega), Array.getElem?_setIfInBounds]
      rw [if_neg (by omega)]
    · match j with
      | 0 =>
        rw [h3 (s + 0) (by omega), Array.getElem?_setIfInBounds, if_pos (by omega), if_pos (by omega)]
        rfl
      | j + 1 =>
        have := h4 j (by simpa using hj) (by simp; omega)
        rw [show s + (j + 1) = s + 1 + j from by omega, this]
        rfl
theorem flat_get? {α : Type} [Inhabited α] (enc : α → List Value) (k : Nat) (hk : ∀ x, (enc x).length = k) (l : List α) (j : Nat) : (l.flatMap enc)[j]? = if j < l.length * k then some ((enc l[j / k]!)[j % k]!) else none := by
  split
  · rename_i h; exact flat_get enc k hk l j h
  · rename_i h; exact List.getElem?_eq_none (by rw [flat_length enc k hk]; omega)
theorem set_bang {α : Type} [Inhabited α] (l : List α) (i t : Nat) (x : α) (hi : i < l.length) : (l.set i x)[t]! = if t = i then x else l[t]! := by
  by_cases h : t < l.length
  · rw [getElem!_pos (l.set i x) t (by simpa using h), List.getElem_set]
    by_cases e : i = t
    · subst e; simp
    · rw [if_neg e, if_neg (fun h => e h.symm), getElem!_pos l t h]
  · rw [getElem!_neg (l.set i x) t (by simpa using h), if_neg (by omega), getElem!_neg l t h]
/-- an element stored -/
theorem own_set {α : Type} [Inhabited α] (enc : α → List Value) (k : Nat) (hk : ∀ x, (enc x).length = k) {w : World} {B g n cp : Nat} {e : TypeId} {L : List α} (h : w.ownsRow B e k (.slice (some ⟨g, 0, none⟩) n cp) n (L.flatMap enc)) (hL : L.length = n) (i : Nat) (hi : i < n) (x : α) :
    (w.setCells g (i * k) (enc x)).ownsRow B e k (.slice (some ⟨g, 0, none⟩) n cp) n ((L.set i x).flatMap enc) := by
  obtain ⟨hl, ⟨h0, _⟩ | ⟨g', cp', cur, e1, hbase, hb, h1, h2, h3, h4⟩⟩ := h
  · cases h0
  simp only [Value.slice.injEq, Option.some.injEq, Addr.mk.injEq, and_true, true_and] at e1
  obtain ⟨rfl, rfl⟩ := e1
  obtain ⟨cur', c1, c2, c3, c4⟩ := heap_setCells g (enc x) (i * k) w cur e (0, 0) hb
  refine ⟨by rw [flat_length enc k hk, List.length_set, hL], .inr ⟨g, cp, cur', rfl, hbase, c1, h1, h2, by rw [c2]; exact h3, ?_⟩⟩
  have hik : i * k + k ≤ n * k := by
    have := Nat.mul_le_mul_right k (show i + 1 ≤ n from hi); rwa [Nat.add_mul, Nat.one_mul] at this
  have hnc : n * k ≤ cp * k := Nat.mul_le_mul_right k h1
  apply List.ext_getElem?
  intro t
  rw [flat_get? enc k hk, List.length_set, hL]
  by_cases ht : t < n * k
  · rw [if_pos ht, List.getElem?_take_of_lt ht, Array.getElem?_toList]
    have k0 : 0 < k := by
      rcases Nat.eq_zero_or_pos k with e | e
      · subst e; simp at ht
      · exact e
    have hold : cur[t]? = some ((enc L[t / k]!)[t % k]!) := by
      have := congrArg (fun l : List Value => l[t]?) h4
      rw [List.getElem?_take_of_lt ht, Array.getElem?_toList, flat_get? enc k hk, hL, if_pos ht] at this
      exact this
    rw [set_bang L _ _ x (by omega)]
    by_cases hb2 : i * k ≤ t ∧ t < i * k + k
    · have e2 : t / k = i := (blk_iff k i t k0).1 hb2
      have e3 : t % k = t - i * k := by rw [Nat.mod_eq_sub_div_mul, e2]
      rw [if_pos e2, e3]
      have := c4 (t - i * k) (by rw [hk]; omega) (by omega)
      rw [show i * k + (t - i * k) = t from by omega] at this
      rw [this, List.getElem?_eq_getElem (by rw [hk]; omega), getElem!_pos (enc x) _ (by rw [hk]; omega)]
    · rw [if_neg (fun e => hb2 ((blk_iff k i t k0).2 e)), c3 t (by rw [hk]; omega)]
      exact hold
  · rw [if_neg ht, List.getElem?_eq_none (by rw [List.length_take]; omega)]
/-- cells stored anywhere in a row -/
theorem own_put {w : World} {B g n cp k : Nat} {e : TypeId} {xs xs' : List Value} (h : w.ownsRow B e k (.slice (some ⟨g, 0, none⟩) n cp) n xs) (s : Nat) (vs : List Value) (hs : s + vs.length ≤ n * k) (hl : xs'.length = n * k)
    (hx : ∀ t, t < n * k → xs'[t]? = if s ≤ t ∧ t < s + vs.length then vs[t - s]? else xs[t]?) : (w.setCells g s vs).ownsRow B e k (.slice (some ⟨g, 0, none⟩) n cp) n xs' := by
  obtain ⟨hl0, ⟨h0, _⟩ | ⟨g', cp', cur, e1, hbase, hb, h1, h2, h3, h4⟩⟩ := h
  · cases h0
  simp only [Value.slice.injEq, Option.some.injEq, Addr.mk.injEq, and_true, true_and] at e1
  obtain ⟨rfl, rfl⟩ := e1
  obtain ⟨cur', c1, c2, c3, c4⟩ := heap_setCells g vs s w cur e (0, 0) hb
  refine ⟨hl, .inr ⟨g, cp, cur', rfl, hbase, c1, h1, h2, by rw [c2]; exact h3, ?_⟩⟩
  have hnc : n * k ≤ cp * k := Nat.mul_le_mul_right k h1
  apply List.ext_getElem?
  intro t
  by_cases ht : t < n * k
  · rw [List.getElem?_take_of_lt ht, Array.getElem?_toList, hx t ht]
    split
    · rename_i hb2
      have := c4 (t - s) (by omega) (by omega)
      rwa [show s + (t - s) = t from by omega] at this
    · rename_i hb2
      rw [c3 t (by omega)]
      have := congrArg (fun l : List Value => l[t]?) h4
      rw [List.getElem?_take_of_lt ht, Array.getElem?_toList] at this
      exact this
  · rw [List.getElem?_take_eq_none (by omega), List.getElem?_eq_none (by omega)]
/-- cut at a place, whatever is written behind it -/
theorem own_tail {w : World} {B g n cp k : Nat} {e : TypeId} {xs : List Value} (h : w.ownsRow B e k (.slice (some ⟨g, 0, none⟩) n cp) n xs) (i : Nat) (hi : i ≤ n) (vs : List Value) :
    (w.setCells g (i * k) vs).ownsRow B e k (.slice (some ⟨g, 0, none⟩) i cp) i (xs.take (i * k)) := by
  obtain ⟨hl, ⟨h0, _⟩ | ⟨g', cp', cur, e1, hbase, hb, h1, h2, h3, h4⟩⟩ := h
  · cases h0
  simp only [Value.slice.injEq, Option.some.injEq, Addr.mk.injEq, and_true, true_and] at e1
  obtain ⟨rfl, rfl⟩ := e1
  obtain ⟨cur', c1, c2, c3, _⟩ := heap_setCells g vs (i * k) w cur e (0, 0) hb
  have hik : i * k ≤ n * k := Nat.mul_le_mul_right k hi
  refine ⟨by rw [List.length_take, hl]; omega, .inr ⟨g, cp, cur', rfl, hbase, c1, by omega, h2, by rw [c2]; exact h3, ?_⟩⟩
  rw [← h4, List.take_take, Nat.min_eq_left hik]
  apply List.ext_getElem?
  intro t
  by_cases ht : t < i * k
  · rw [List.getElem?_take_of_lt ht, List.getElem?_take_of_lt ht, Array.getElem?_toList, Array.getElem?_toList, c3 t (.inl ht)]
  · rw [List.getElem?_take_eq_none (by omega), List.getElem?_take_eq_none (by omega)]
theorem flat_take {α : Type} (enc : α → List Value) (k : Nat) (hk : ∀ x, (enc x).length = k) : ∀ (L : List α) (i : Nat), (L.flatMap enc).take (i * k) = (L.take i).flatMap enc
  | [], i => by simp
  | x :: L, 0 => by simp
  | x :: L, i + 1 => by
    rw [List.flatMap_cons, List.take_succ_cons, List.flatMap_cons, Nat.add_mul, Nat.one_mul, List.take_append, hk, List.take_of_length_le (by rw [hk]; omega), show i * k + k - k = i * k from by omega, flat_take enc k hk L i]
theorem run_clear_rows {P : Program} (w : World) (t e ty : TypeId) (z : Value) (ht : P.underlying t = some (.slice e)) (hv : ∀ w, (zeroValue e).run P w = .ok z w) (h1 : ∀ v ∈ z.cells, v.oneCell' = true) (b o n c : Nat) (hn : 0 < n) (hz : 0 < z.cells.size)
    (hc : ∀ j, j < n * z.cells.size → (w.cell? ⟨b, o + j, none⟩).isSome = true) (hf : ∀ j, w.frozen? ⟨b, o + j, none⟩ = false) :
    ∃ vs, (Builtin.clear_ #[t] ty #[.slice (some ⟨b, o, none⟩) n c]).run P w = .ok (.tuple #[]) (w.setCells b o vs) := by
  have hsz : (Builtin.zeroCells z.cells n).toList.length = n * z.cells.size := by simp [Builtin.zeroCells]
  have hst := run_storeCells_cells (P := P) b o (Builtin.zeroCells z.cells n).toList 0 w (by rw [hsz]; intro j hj; exact hc j hj) (fun j _ => hf _) (by
    intro v hv'
    simp only [Builtin.zeroCells, Array.toList_map, List.mem_map] at hv'
    obtain ⟨a, _, rfl⟩ := hv'
    have hlt : a % z.cells.size < z.cells.size := Nat.mod_lt _ hz
    first
      | (rw [getElem!_pos z.cells _ hlt]; exact h1 _ (Array.getElem_mem hlt))
      | (have := h1 _ (Array.getElem_mem hlt); simpa [hlt] using this))
  simp only [Nat.add_zero] at hst
  obtain ⟨m, rfl⟩ : ∃ m, n = m + 1 := ⟨n - 1, by omega⟩
  refine ⟨(Builtin.zeroCells z.cells (m + 1)).toList, ?_⟩
  simp [Builtin.clear_, run_underlying ht, hv, hst]
end RowKC
end Go.Proofs.YtapikdgncdcneaaGreatDoor
