/-
  What the proof of EvBoth stands on, part 8.
-/
import Derived.Ground.NamesProg
import Derived.Ground.SlsfProg
import Derived.Test.YtfbegbmjmhnplaaGreatDoorT07
set_option linter.unusedSimpArgs false
set_option linter.unusedVariables false
set_option maxHeartbeats 16000000
namespace Go.Proofs.YtfbegbmjmhnplaaGreatDoor
open Go.Lib (hid)
section
open Go.RowKit
namespace RowKC
open Go Go.Sort VerC
theorem zhs (g : Nat) : ∀ (vs : List Value) (s : Nat) (w : World) (cur : Array Value) (e : TypeId) (fr : Nat × Nat), w.heap[g]? = some (.cells cur e fr) →
 ∃ cur', (w.setCells g s vs).heap[g]? = some (.cells cur' e fr) ∧ cur'.size = cur.size ∧ (∀ t, t < s ∨ s + vs.length ≤ t → cur'[t]? = cur[t]?) ∧ ∀ j, j < vs.length → s + j < cur.size → cur'[s + j]? = vs[j]?
 | [], s, w, cur, e, fr, h => ⟨cur, h, rfl, fun _ _ => rfl, fun j hj => by simp at hj⟩
 | v :: r, s, w, cur, e, fr, h => by
   obtain ⟨cur', h1, h2, h3, h4⟩ := zhs g r (s + 1) (w.setCell ⟨g, s, none⟩ v) (cur.setIfInBounds s v) e fr (zck h s v)
   refine ⟨cur', h1, by rw [h2]; simp, fun t ht => ?_, fun j hj hs => ?_⟩
   · have hl : (v :: r).length = r.length + 1 := rfl
     rw [h3 t (by omega), Array.getElem?_setIfInBounds]
     rw [if_neg (by omega)]
   · match j with
     | 0 =>
       rw [h3 (s + 0) (by omega), Array.getElem?_setIfInBounds, if_pos (by omega), if_pos (by omega)]
       rfl
     | j + 1 =>
       have := h4 j (by simpa using hj) (by simp; omega)
       rw [show s + (j + 1) = s + 1 + j from by omega, this]
       rfl
theorem zht {α : Type} [Inhabited α] (enc : α → List Value) (k : Nat) (hk : ∀ x, (enc x).length = k) (l : List α) (j : Nat) : (l.flatMap enc)[j]? = if j < l.length * k then some ((enc l[j / k]!)[j % k]!) else none := by
 split
 · rename_i h; exact zge enc k hk l j h
 · rename_i h; exact List.getElem?_eq_none (by rw [zgf enc k hk]; omega)
theorem zhu {α : Type} [Inhabited α] (l : List α) (i t : Nat) (x : α) (hi : i < l.length) : (l.set i x)[t]! = if t = i then x else l[t]! := by
 by_cases h : t < l.length
 · rw [getElem!_pos (l.set i x) t (by simpa using h), List.getElem_set]
   by_cases e : i = t
   · subst e; simp
   · rw [if_neg e, if_neg (fun h => e h.symm), getElem!_pos l t h]
 · rw [getElem!_neg (l.set i x) t (by simpa using h), if_neg (by omega), getElem!_neg l t h]
theorem own_set {α : Type} [Inhabited α] (enc : α → List Value) (k : Nat) (hk : ∀ x, (enc x).length = k) {w : World} {B g n cp : Nat} {e : TypeId} {L : List α} (h : w.ownsRow B e k (.slice (some ⟨g, 0, none⟩) n cp) n (L.flatMap enc)) (hL : L.length = n) (i : Nat) (hi : i < n) (x : α) :
 (w.setCells g (i * k) (enc x)).ownsRow B e k (.slice (some ⟨g, 0, none⟩) n cp) n ((L.set i x).flatMap enc) := by
 obtain ⟨hl, ⟨h0, _⟩ | ⟨g', cp', cur, e1, hbase, hb, h1, h2, h3, h4⟩⟩ := h
 · cases h0
 simp only [Value.slice.injEq, Option.some.injEq, Addr.mk.injEq, and_true, true_and] at e1
 obtain ⟨rfl, rfl⟩ := e1
 obtain ⟨cur', c1, c2, c3, c4⟩ := zhs g (enc x) (i * k) w cur e (0, 0) hb
 refine ⟨by rw [zgf enc k hk, List.length_set, hL], .inr ⟨g, cp, cur', rfl, hbase, c1, h1, h2, by rw [c2]; exact h3, ?_⟩⟩
 have hik : i * k + k ≤ n * k := by
  have := Nat.mul_le_mul_right k (show i + 1 ≤ n from hi); rwa [Nat.add_mul, Nat.one_mul] at this
 have hnc : n * k ≤ cp * k := Nat.mul_le_mul_right k h1
 apply List.ext_getElem?
 intro t
 rw [zht enc k hk, List.length_set, hL]
 by_cases ht : t < n * k
 · rw [if_pos ht, List.getElem?_take_of_lt ht, Array.getElem?_toList]
   have k0 : 0 < k := by
    rcases Nat.eq_zero_or_pos k with e | e
    · subst e; simp at ht
    · exact e
   have hold : cur[t]? = some ((enc L[t / k]!)[t % k]!) := by
    have := congrArg (fun l : List Value => l[t]?) h4
    rw [List.getElem?_take_of_lt ht, Array.getElem?_toList, zht enc k hk, hL, if_pos ht] at this
    exact this
   rw [zhu L _ _ x (by omega)]
   by_cases hb2 : i * k ≤ t ∧ t < i * k + k
   · have e2 : t / k = i := (blk_iff k i t k0).1 hb2
     have e3 : t % k = t - i * k := by rw [Nat.mod_eq_sub_div_mul, e2]
     rw [if_pos e2, e3]
     have := c4 (t - i * k) (by rw [hk]; omega) (by omega)
     rw [show i * k + (t - i * k) = t from by omega] at this
     rw [this, List.getElem?_eq_getElem (by rw [hk]; omega), getElem!_pos (enc x) _ (by rw [hk]; omega)]
   · rw [if_neg (fun e => hb2 ((blk_iff k i t k0).2 e)), c3 t (by rw [hk]; omega)]
     exact hold
 · rw [if_neg ht, List.getElem?_eq_none (by rw [List.length_take]; omega)]
theorem own_put {w : World} {B g n cp k : Nat} {e : TypeId} {xs xs' : List Value} (h : w.ownsRow B e k (.slice (some ⟨g, 0, none⟩) n cp) n xs) (s : Nat) (vs : List Value) (hs : s + vs.length ≤ n * k) (hl : xs'.length = n * k)
 (hx : ∀ t, t < n * k → xs'[t]? = if s ≤ t ∧ t < s + vs.length then vs[t - s]? else xs[t]?) : (w.setCells g s vs).ownsRow B e k (.slice (some ⟨g, 0, none⟩) n cp) n xs' := by
 obtain ⟨hl0, ⟨h0, _⟩ | ⟨g', cp', cur, e1, hbase, hb, h1, h2, h3, h4⟩⟩ := h
 · cases h0
 simp only [Value.slice.injEq, Option.some.injEq, Addr.mk.injEq, and_true, true_and] at e1
 obtain ⟨rfl, rfl⟩ := e1
 obtain ⟨cur', c1, c2, c3, c4⟩ := zhs g vs s w cur e (0, 0) hb
 refine ⟨hl, .inr ⟨g, cp, cur', rfl, hbase, c1, h1, h2, by rw [c2]; exact h3, ?_⟩⟩
 have hnc : n * k ≤ cp * k := Nat.mul_le_mul_right k h1
 apply List.ext_getElem?
 intro t
 by_cases ht : t < n * k
 · rw [List.getElem?_take_of_lt ht, Array.getElem?_toList, hx t ht]
   split
   · rename_i hb2
     have := c4 (t - s) (by omega) (by omega)
     rwa [show s + (t - s) = t from by omega] at this
   · rename_i hb2
     rw [c3 t (by omega)]
     have := congrArg (fun l : List Value => l[t]?) h4
     rw [List.getElem?_take_of_lt ht, Array.getElem?_toList] at this
     exact this
 · rw [List.getElem?_take_eq_none (by omega), List.getElem?_eq_none (by omega)]
theorem zhv {w : World} {B g n cp k : Nat} {e : TypeId} {xs : List Value} (h : w.ownsRow B e k (.slice (some ⟨g, 0, none⟩) n cp) n xs) (i : Nat) (hi : i ≤ n) (vs : List Value) :
 (w.setCells g (i * k) vs).ownsRow B e k (.slice (some ⟨g, 0, none⟩) i cp) i (xs.take (i * k)) := by
 obtain ⟨hl, ⟨h0, _⟩ | ⟨g', cp', cur, e1, hbase, hb, h1, h2, h3, h4⟩⟩ := h
 · cases h0
 simp only [Value.slice.injEq, Option.some.injEq, Addr.mk.injEq, and_true, true_and] at e1
 obtain ⟨rfl, rfl⟩ := e1
 obtain ⟨cur', c1, c2, c3, _⟩ := zhs g vs (i * k) w cur e (0, 0) hb
 have hik : i * k ≤ n * k := Nat.mul_le_mul_right k hi
 refine ⟨by rw [List.length_take, hl]; omega, .inr ⟨g, cp, cur', rfl, hbase, c1, by omega, h2, by rw [c2]; exact h3, ?_⟩⟩
 rw [← h4, List.take_take, Nat.min_eq_left hik]
 apply List.ext_getElem?
 intro t
 by_cases ht : t < i * k
 · rw [List.getElem?_take_of_lt ht, List.getElem?_take_of_lt ht, Array.getElem?_toList, Array.getElem?_toList, c3 t (.inl ht)]
 · rw [List.getElem?_take_eq_none (by omega), List.getElem?_take_eq_none (by omega)]
theorem zhw {α : Type} (enc : α → List Value) (k : Nat) (hk : ∀ x, (enc x).length = k) : ∀ (L : List α) (i : Nat), (L.flatMap enc).take (i * k) = (L.take i).flatMap enc
 | [], i => by simp
 | x :: L, 0 => by simp
 | x :: L, i + 1 => by
   rw [List.flatMap_cons, List.take_succ_cons, List.flatMap_cons, Nat.add_mul, Nat.one_mul, List.take_append, hk, List.take_of_length_le (by rw [hk]; omega), show i * k + k - k = i * k from by omega, zhw enc k hk L i]
theorem zhx {P : Program} (w : World) (t e ty : TypeId) (z : Value) (ht : P.underlying t = some (.slice e)) (hv : ∀ w, (zeroValue e).run P w = .ok z w) (h1 : ∀ v ∈ z.cells, v.oneCell' = true) (b o n c : Nat) (hn : 0 < n) (hz : 0 < z.cells.size)
 (hc : ∀ j, j < n * z.cells.size → (w.cell? ⟨b, o + j, none⟩).isSome = true) (hf : ∀ j, w.frozen? ⟨b, o + j, none⟩ = false) :
 ∃ vs, (Builtin.clear_ #[t] ty #[.slice (some ⟨b, o, none⟩) n c]).run P w = .ok (.tuple #[]) (w.setCells b o vs) := by
 have hsz : (Builtin.zeroCells z.cells n).toList.length = n * z.cells.size := by simp [Builtin.zeroCells]
 have hst := run_storeCells_cells (P := P) b o (Builtin.zeroCells z.cells n).toList 0 w (by rw [hsz]; intro j hj; exact hc j hj) (fun j _ => hf _) (by
  intro v hv'
  simp only [Builtin.zeroCells, Array.toList_map, List.mem_map] at hv'
  obtain ⟨a, _, rfl⟩ := hv'
  have hlt : a % z.cells.size < z.cells.size := Nat.mod_lt _ hz
  first
   | (rw [getElem!_pos z.cells _ hlt]; exact h1 _ (Array.getElem_mem hlt))
   | (have := h1 _ (Array.getElem_mem hlt); simpa [hlt] using this))
 simp only [Nat.add_zero] at hst
 obtain ⟨m, rfl⟩ : ∃ m, n = m + 1 := ⟨n - 1, by omega⟩
 refine ⟨(Builtin.zeroCells z.cells (m + 1)).toList, ?_⟩
 simp [Builtin.clear_, run_underlying ht, hv, hst]
end RowKC
end
section
open Go.RowKit
namespace SpanC
open VerM SpanM StrC TextR VerC
def zhy (L : List StR) : Nat := L.findIdx fun x => empB x.st
def idxE (L : List StR) : Int := if zhy L < L.length then (zhy L : Int) else -1
def full (L : List StR) : List StR := L.filter fun x => !empB x.st
set_option maxRecDepth 100000 in
theorem pindex_any (v : Value) (L : List StR) (w : World) (B : Nat) (hr : StRow w B v L) (hok : AllOk w L) (hl : L.length ≤ 1000000) :
 Calls Tryz.prog 255 #[v, .func (.func 234) #[] #[]] w fun e w' => e = .returned (.int .i64 (idxE L)) ∧ Below w.heap.size w w' := by
 obtain ⟨va, cp, rfl⟩ := hr.value
 have HR := hid hr
 have HOK := hid hok
 clear hr hok
 go_enter Tryz.func255, Tryz.ntmps255
 go_wp2_with fail
 go_loopw [5, 8] (fun _ i wr => ∃ k : Nat, i = .int .i64 k ∧ k ≤ L.length ∧ Hid (∀ j, j < k → ∀ x, L[j]? = some x → empB x.st = false) ∧ Hid (Below w.heap.size w wr)) (fun _ i _ => L.length - (intOf i).toNat)
 case atStart => exact ⟨0, rfl, Nat.zero_le _, hid (fun j hj => by omega), hid (Below.refl _ _)⟩
 case round =>
  obtain ⟨k, rfl, hk, HN, HW⟩ := hrel
  rename World => wr
  by_cases hlt : k < L.length
  · have hdec : decide (k < L.length) = true := by simpa using hlt
    obtain ⟨g, x, hx, hxm, hxs, rfl, -, -, hg, -, -, c0, c1, c2, c3, c4, c5, c6, c7, c8, c9⟩ := (HR.out.below HW.out).at k hlt
    have HX := hid hxs
    have HE := hid (zgt x wr ((HOK.out x hxm).gr HW.out))
    obtain ⟨eb, heb⟩ : ∃ b, empB x.st = b := ⟨_, rfl⟩
    have HEB := hid heb
    rw [heb] at HE
    clear hx hxm hxs heb
    cases eb with
    | true =>
      have HF : Hid (idxE L = k) := hid (by
       have : zhy L = k := by
        unfold zhy
        rw [List.findIdx_eq hlt]
        refine ⟨by rw [show L[k] = x from by have := HX.out; rw [List.getElem?_eq_getElem hlt] at this; exact Option.some.inj this]; exact HEB.out, fun j hj => ?_⟩
        have := HN.out j hj L[j] (List.getElem?_eq_getElem (by omega))
        simpa using this
       unfold idxE; rw [this, if_pos hlt])
      go_wp2_with (go_at_call 234; refine HE.out.mono ?_; rintro e w2 ⟨rfl, hg2⟩)
      go_ret
      exact ⟨by rw [HF.out]; rfl, HW.out.trans (hg2.below.mono HW.out.size)⟩
    | false =>
      go_wp2_with (go_at_call 234; refine HE.out.mono ?_; rintro e w2 ⟨rfl, hg2⟩)
      go_roundw
      case rel => exact ⟨k + 1, by go_num, hlt, hid (fun j hj y hy => by
       rcases Nat.lt_or_ge j k with h | h
       · exact HN.out j h y hy
       · have : j = k := by omega
         subst this
         rw [HX.out] at hy
         rw [← Option.some.inj hy]; exact HEB.out), hid (HW.out.trans (hg2.below.mono HW.out.size))⟩
      case measure => simp [intOf]; omega
  · have hdec : decide (k < L.length) = false := by simpa using hlt
    have HF : Hid (idxE L = -1) := hid (by
     have : zhy L = L.length := by
      unfold zhy
      rw [List.findIdx_eq_length]
      intro x hx
      obtain ⟨j, hj, rfl⟩ := List.getElem_of_mem hx
      exact HN.out j (by omega) _ (List.getElem?_eq_getElem hj)
     unfold idxE; rw [this, if_neg (Nat.lt_irrefl _)])
    go_wp2_with fail
    go_ret
    exact ⟨by rw [HF.out]; rfl, HW.out⟩
structure DelI (L R : List StR) (i j : Nat) : Prop where
 len : R.length = L.length
 lt : i < j
 le : j ≤ L.length
 low : R.take i = full (L.take j)
 high : ∀ t, i ≤ t → R[t]? = L[t]?
theorem zhz {L : List StR} {j : Nat} {x : StR} (h : L[j]? = some x) : full (L.take (j + 1)) = full (L.take j) ++ (if empB x.st then [] else [x]) := by
 unfold full
 rw [List.take_add_one, List.filter_append, h]
 cases hx : empB x.st <;> simp [hx]
theorem DelI.start {L : List StR} (h : zhy L < L.length) : DelI L L (zhy L) (zhy L + 1) := by
 refine ⟨rfl, Nat.lt_succ_self _, h, ?_, fun _ _ => rfl⟩
 have h1 : empB (L[zhy L]).st = true := List.findIdx_getElem (w := h)
 rw [zhz (List.getElem?_eq_getElem h), if_pos h1, List.append_nil]
 unfold full
 symm
 rw [List.filter_eq_self]
 intro x hx
 obtain ⟨j, hj, rfl⟩ := List.getElem_of_mem hx
 rw [List.length_take] at hj
 rw [List.getElem_take]
 have := List.not_of_lt_findIdx (p := fun x : StR => empB x.st) (xs := L) (i := j) (by unfold zhy at hj; omega)
 simpa using this
theorem DelI.keep {L R : List StR} {i j : Nat} {x : StR} (h : DelI L R i j) (hx : L[j]? = some x) (he : empB x.st = false) : DelI L (R.set i x) (i + 1) (j + 1) := by
 have hj := (List.getElem?_eq_some_iff.1 hx).1
 have hlt := h.lt
 refine ⟨by rw [List.length_set]; exact h.len, by omega, hj, ?_, fun t ht => ?_⟩
 · rw [zhz hx, he, ← h.low, List.take_add_one, List.take_set_of_le (Nat.le_refl _), List.getElem?_set_self (by rw [h.len]; omega)]
   rfl
 · rw [List.getElem?_set_ne (by omega)]; exact h.high t (by omega)
theorem DelI.skip {L R : List StR} {i j : Nat} {x : StR} (h : DelI L R i j) (hx : L[j]? = some x) (he : empB x.st = true) : DelI L R i (j + 1) := by
 have hj := (List.getElem?_eq_some_iff.1 hx).1
 have hlt := h.lt
 exact ⟨h.len, by omega, hj, by rw [zhz hx, he, h.low]; simp, h.high⟩
theorem StRow.there {w : World} {B : Nat} {a : Option Addr} {n cp : Nat} {L : List StR} (h : StRow w B (.slice a n cp) L) (i : Nat) (hi : i < L.length) : ∃ g, a = some ⟨g, 0, none⟩ ∧ n = L.length ∧ n ≤ cp ∧ B ≤ g ∧ g < w.heap.size ∧ ¬ IsText w g ∧ w.there g (i * 10) 10 ∧ (∀ j, j < (n - i) * 10 → (w.cell? ⟨g, i * 10 + j, none⟩).isSome = true) ∧ ∀ j, w.frozen? ⟨g, j, none⟩ = false := by
 have h' : w.ownsRow B 266 10 (.slice a n cp) L.length (L.flatMap stL) := h
 have hlt := h'.lt
 have h0 := h'
 obtain ⟨_, ⟨h1, h2⟩ | ⟨g, cp', cur, e1, hg0, hblk, hc1, hc2, hc3, _⟩⟩ := h'
 · omega
 simp only [Value.slice.injEq] at e1
 obtain ⟨rfl, rfl, rfl⟩ := e1
 have key : ∀ t, t < L.length * 10 → (w.cell? ⟨g, t, none⟩).isSome = true := fun t ht => by
  rw [h0.cellAt t ht, RowKC.zge stL 10 zhm L t ht]; rfl
 exact ⟨g, rfl, rfl, hc1, hg0, (hlt g rfl).2, zhi hblk (by decide), fun j hj => ⟨key _ (by omega), h0.frozenAt _⟩, fun j hj => key _ (by omega), fun j => h0.frozenAt j⟩
theorem below_setCells {w w' : World} {B : Nat} (h : Below B w w') (g o : Nat) (vs : List Value) (hg : B ≤ g) : Below B w (w'.setCells g o vs) := by
 induction vs generalizing o w' with
 | nil => exact h
 | cons v r ih => rw [World.setCells]; exact ih (h.setCell (show B ≤ (⟨g, o, none⟩ : Addr).block from hg) v) (o + 1)
def Els (ob : Option Nat) (w w' : World) : Prop := ∀ k, k < w.heap.size → ob ≠ some k → w'.heap[k]? = w.heap[k]?
theorem Els.below {ob : Option Nat} {w a b : World} (h : Els ob w a) (hs : w.heap.size ≤ a.heap.size) (g : Below a.heap.size a b) : Els ob w b := fun k hk hn => (g.block k (by omega)).trans (h k hk hn)
theorem Els.of_below {ob : Option Nat} {w a : World} (g : Below w.heap.size w a) : Els ob w a := fun k hk _ => g.block k hk
theorem Els.setCells {g : Nat} {w a : World} (h : Els (some g) w a) (o : Nat) (vs : List Value) : Els (some g) w (a.setCells g o vs) := fun k hk hn => (zhb a g (fun e => hn (by rw [e])) _ _).trans (h k hk hn)
theorem zero_st (w : World) : (zeroValue 266).run Tryz.prog w = .ok (.agg #[.int .u32 0, .int .u32 0, .int .u32 0, .slice none 0 0, .int .i64 0, .int .u32 0, .int .u32 0, .int .u32 0, .slice none 0 0, .int .i64 0]) w := by kernel_rfl
set_option maxRecDepth 100000 in
theorem zib (v : Value) (L : List StR) (w : World) (B : Nat) (hB : B ≤ w.heap.size) (hr : StRow w B v L) (hok : AllOk w L) (hl : L.length ≤ 1000000) :
 Calls Tryz.prog 233 #[v, .func (.func 234) #[] #[]] w fun e w' => ∃ u, e = .returned u ∧ StRow w' B u (full L) ∧ AllOk w' (full L) ∧ Below B w w' ∧ Els v.ownBlock w w' ∧ u.ownBlock = v.ownBlock := by
 obtain ⟨va, cp, rfl⟩ := hr.value
 have HR := hid hr
 have HOK := hid hok
 have HI := hid (pindex_any _ L w B hr hok hl)
 have HBB := hid hB
 clear hr hok hB
 by_cases hf : zhy L < L.length
 rotate_left
 · have HFL : Hid (full L = L) := hid (by
    unfold full
    rw [List.filter_eq_self]
    intro x hx
    have : zhy L = L.length := by have := List.findIdx_le_length (p := fun x : StR => empB x.st) (xs := L); unfold zhy at hf ⊢; omega
    unfold zhy at this
    rw [List.findIdx_eq_length] at this
    simpa using this x hx)
   have hidx : idxE L = -1 := by unfold idxE; rw [if_neg hf]
   rw [hidx] at HI
   clear hf hidx
   go_enter Tryz.func233, Tryz.ntmps233
   go_wp2_with (go_at_call 255; refine HI.out.mono ?_; rintro e w2 ⟨rfl, hb⟩)
   go_ret
   exact ⟨_, rfl, by rw [HFL.out]; exact HR.out.below hb, by rw [HFL.out]; exact HOK.out.gr hb, hb.mono HBB.out, Els.of_below hb, rfl⟩
 · have hidx : idxE L = (zhy L : Int) := by unfold idxE; rw [if_pos hf]
   rw [hidx] at HI
   have HS := hid (DelI.start hf)
   obtain ⟨g, rfl, -, hcp, hBg, hgl, hng, -, -, -⟩ := HR.out.there (zhy L) hf
   have d1 : ((zhy L : Int) == -1) = false := beq_eq_false_iff_ne.2 (by omega)
   have HNG := hid hng
   have HL0 : Hid (0 < L.length) := hid (by omega)
   clear hidx hng
   generalize zhy L = k0 at *
   go_enter Tryz.func233, Tryz.ntmps233
   go_wp2_with (go_at_call 255; refine HI.out.mono ?_; rintro e w1 ⟨rfl, hb⟩; refine Hid.out ?_)
   refine hid ?_
   have HR1 := hid (HR.out.below hb)
   have HOK1 := hid (HOK.out.gr hb)
   have HB1 : Hid (Below B w w1 ∧ Els (some g) w w1) := hid ⟨hb.mono HBB.out, Els.of_below hb⟩
   have hg1 : g < w1.heap.size := Nat.lt_of_lt_of_le hgl hb.size
   clear HR HOK hb HI HNG hgl
   go_wp2_with fail
   go_loopw [5, 6, 7] (fun i j _ wq => ∃ (ki kj : Nat) (R : List StR), i = .int .i64 ki ∧ j = .int .i64 kj ∧ Hid (DelI L R ki kj) ∧ Hid (StRow wq B (.slice (some ⟨g, 0, none⟩) L.length cp) R) ∧ Hid (AllOk wq L) ∧ Hid (Below B w wq ∧ Els (some g) w wq)) (fun _ j _ _ => L.length - (intOf j).toNat)
   case atStart => exact ⟨k0, k0 + 1, L, rfl, by go_num, HS, HR1, HOK1, HB1⟩
   case round =>
    obtain ⟨ki, kj, R, rfl, rfl, HD, HRW, HOW, HBW⟩ := hrel
    rename World => wq
    have hij := HD.out.lt
    have hjl := HD.out.le
    have hRl := HD.out.len
    by_cases hlt : kj < L.length
    · have hdec : decide (kj < L.length) = true := by simpa using hlt
      obtain ⟨g', x, hx, hxm, hxs, hge, -, -, hg, hnt, -, c0, c1, c2, c3, c4, c5, c6, c7, c8, c9⟩ := HRW.out.at kj (by omega)
      cases hge
      have hxL : L[kj]? = some x := by rw [← HD.out.high kj (by omega)]; exact hxs
      have HX := hid hxL
      have HXO := hid (HOW.out x (List.mem_of_getElem? hxL))
      have hnx := heap_alloc_new wq (stO x)
      obtain ⟨q0, q1, q2, q3, q4, q5, q6, q7, q8, q9⟩ := zgn hnx
      have HNX := hid hnx
      have HE := hid (zgt x (wq.alloc (stO x)) (HXO.out.gr ((Below.refl _ wq).alloc (Nat.le_refl _) _)))
      obtain ⟨eb, heb⟩ : ∃ b, empB x.st = b := ⟨_, rfl⟩
      have HEB := hid heb
      rw [heb] at HE
      have HGQ : Hid (g < wq.heap.size) := hid hg
      clear hx hxm hxs hxL heb hnx hnt hRl
      cases eb with
      | true =>
        go_wp2_with (go_at_call 234; refine HE.out.mono ?_; rintro e w2 ⟨rfl, hg2⟩)
        go_roundw
        case rel => exact ⟨ki, kj + 1, R, rfl, by go_num, hid (HD.out.skip HX.out HEB.out), hid (HRW.out.below (((Below.refl _ wq).alloc (Nat.le_refl _) _).trans (hg2.below.mono (by simp)))), hid (HOW.out.gr (((Below.refl _ wq).alloc (Nat.le_refl _) _).trans (hg2.below.mono (by simp)))), hid ⟨HBW.out.1.trans ((((Below.refl _ wq).alloc (Nat.le_refl _) _).trans (hg2.below.mono (by simp))).mono (Nat.le_trans HBB.out HBW.out.1.size)), HBW.out.2.below HBW.out.1.size (((Below.refl _ wq).alloc (Nat.le_refl _) _).trans (hg2.below.mono (by simp)))⟩⟩
        case measure => simp [intOf]; omega
      | false =>
        go_wp2_with (go_at_call 234; refine HE.out.mono ?_; rintro e w2 ⟨rfl, hg2⟩; refine Hid.out ?_)
        refine hid ?_
        have HW2 : Hid (Below wq.heap.size wq w2) := hid (((Below.refl _ wq).alloc (Nat.le_refl _) _).trans (hg2.below.mono (by simp)))
        have hX2 := (hg2.below.block wq.heap.size (by simp)).trans HNX.out
        clear q0 q1 q2 q3 q4 q5 q6 q7 q8 q9 c0 c1 c2 c3 c4 c5 c6 c7 c8 c9 hg2 HE
        obtain ⟨q0, q1, q2, q3, q4, q5, q6, q7, q8, q9⟩ := zgn hX2
        have hrow2 := HRW.out.below HW2.out
        obtain ⟨g', hge, -, -, -, -, hnt, hth, -, -⟩ := hrow2.there ki (by have := HD.out.len; omega)
        cases hge
        have h2 : w2.ownsRow B 266 10 (.slice (some ⟨g, 0, none⟩) L.length cp) L.length (R.flatMap stL) := by
         have h := hrow2
         unfold StRow at h
         rwa [HD.out.len] at h
        obtain ⟨w3, e3⟩ : ∃ w3, w2.setCells g (ki * 10) (stL x) = w3 := ⟨_, rfl⟩
        have HROW3 : Hid (StRow w3 B (.slice (some ⟨g, 0, none⟩) L.length cp) (R.set ki x)) := hid (by
         rw [← e3]
         unfold StRow
         rw [List.length_set, HD.out.len]
         exact RowKC.own_set stL 10 zhm h2 HD.out.len ki (by omega) x)
        have HOK3 : Hid (AllOk w3 L) := hid (fun y hy => by
         rw [← e3]
         exact ((HOW.out.gr HW2.out) y hy).keep hnt fun k _ hk => zhb w2 g hk _ _)
        have HB3 : Hid (Below B w w3 ∧ Els (some g) w w3) := hid (by
         have h := HBW.out.1.trans (HW2.out.mono (Nat.le_trans HBB.out HBW.out.1.size))
         rw [← e3]
         exact ⟨below_setCells h g _ _ hBg, (HBW.out.2.below HBW.out.1.size HW2.out).setCells _ _⟩)
        have HE3 := hid e3
        have HTH := hid hth
        clear e3 h2 hrow2 hnt hth hX2 HW2
        go_wp2_with (refine wpList_store_mid rfl 266 _ _ rfl g (ki * 10) (stL x).toArray rfl rfl HTH.out zgw (zgy x) ?_; change wpList _ _ _ _ _ (w2.setCells g (ki * 10) (stL x)); rw [HE3.out]; clear HTH HE3 q0 q1 q2 q3 q4 q5 q6 q7 q8 q9)
        go_roundw
        case rel => exact ⟨ki + 1, kj + 1, R.set ki x, by go_num, by go_num, hid (HD.out.keep HX.out HEB.out), HROW3, HOK3, HB3⟩
        case measure => simp [intOf]; omega
    · have hdec : decide (kj < L.length) = false := by simpa using hlt
      have hke : kj = L.length := by omega
      subst hke
      obtain ⟨g', hge, -, -, -, -, hnt, -, hcells, hfz⟩ := HRW.out.there ki (by omega)
      cases hge
      obtain ⟨vs, hcl⟩ := RowKC.zhx (P := Tryz.prog) wq 228 266 0 _ Tryz.underlying228 zero_st (by intro u hu; simp [Value.cells] at hu; (repeat' (rcases hu with hu | hu)) <;> first | rfl | (subst hu; rfl)) g (ki * 10) (L.length - ki) (cp - ki) (by omega) (by simp [Value.cells]) (by intro j hj; exact hcells j (by simpa [Value.cells] using hj)) (fun j => hfz _)
      have h2 : wq.ownsRow B 266 10 (.slice (some ⟨g, 0, none⟩) L.length cp) L.length (R.flatMap stL) := by
       have h := HRW.out
       unfold StRow at h
       rwa [HD.out.len] at h
      obtain ⟨w3, e3⟩ : ∃ w3, wq.setCells g (ki * 10) vs = w3 := ⟨_, rfl⟩
      have hfull : R.take ki = full L := by have h := HD.out.low; rwa [List.take_length] at h
      have hfl : (full L).length = ki := by rw [← hfull, List.length_take]; omega
      have HROW3 : Hid (StRow w3 B (.slice (some ⟨g, 0, none⟩) ki cp) (full L)) := hid (by
       rw [← e3]
       unfold StRow
       rw [hfl, ← hfull, ← RowKC.zhw stL 10 zhm]
       exact RowKC.zhv h2 ki (by omega) vs)
      have HOK3 : Hid (AllOk w3 (full L)) := hid (fun y hy => by
       rw [← e3]
       exact (HOW.out y (List.mem_filter.1 hy).1).keep hnt fun k _ hk => zhb wq g hk _ _)
      have HB3 : Hid (Below B w w3 ∧ Els (some g) w w3) := hid (by
       rw [← e3]
       exact ⟨below_setCells HBW.out.1 g _ _ hBg, HBW.out.2.setCells _ _⟩)
      rw [e3] at hcl
      clear e3 h2 hfull hfl hnt hcells hfz HD HRW HOW HBW hRl
      go_wp2_with fail
      go_ret
      exact ⟨_, rfl, HROW3.out, HOK3.out, HB3.out.1, HB3.out.2, rfl⟩
end SpanC
end
end Go.Proofs.YtfbegbmjmhnplaaGreatDoor
section
namespace Go.Proofs
open Go.Shelf
def Tryz.sortSt_ren : Go.Shelf.Ren := ⟨fun | 6 => 235 | 15 => 114 | 14 => 256 | 28 => 146 | 29 => 147 | 20 => 268 | 21 => 269 | 22 => 270 | 23 => 271 | 24 => 272 | 25 => 273 | 26 => 274 | 27 => 275 | 46 => 282 | 47 => 175 | 48 => 176 | 49 => 283 | 50 => 284 | 57 => 291 | n => n, fun | 22 => 228 | 24 => 266 | 25 => 294 | 3 => 3 | 39 => 107 | 0 => 0 | 53 => 25 | 55 => 24 | 4 => 4 | 46 => 186 | 45 => 185 | 50 => 191 | 5 => 5 | 9 => 9 | 66 => 219 | 70 => 223 | 76 => 253 | 77 => 254 | n => n, fun | n => n⟩
theorem Tryz.sortSt : Go.Proofs.SlLaysF0.n6 Tryz.prog Tryz.sortSt_ren := {
 mixed := by kernel_rfl
 f6 := ⟨Tryz.f235.name, by decide, Tryz.func235.trans (congrArg some (by kernel_rfl))⟩
 f14 := ⟨Tryz.f256.name, by decide, Tryz.func256.trans (congrArg some (by kernel_rfl))⟩
 f15 := Tryz.func114.trans (congrArg some (by kernel_rfl))
 f20 := ⟨Tryz.f268.name, by decide, Tryz.func268.trans (congrArg some (by kernel_rfl))⟩
 f21 := ⟨Tryz.f269.name, by decide, Tryz.func269.trans (congrArg some (by kernel_rfl))⟩
 f22 := ⟨Tryz.f270.name, by decide, Tryz.func270.trans (congrArg some (by kernel_rfl))⟩
 f23 := ⟨Tryz.f271.name, by decide, Tryz.func271.trans (congrArg some (by kernel_rfl))⟩
 f24 := ⟨Tryz.f272.name, by decide, Tryz.func272.trans (congrArg some (by kernel_rfl))⟩
 f25 := ⟨Tryz.f273.name, by decide, Tryz.func273.trans (congrArg some (by kernel_rfl))⟩
 f26 := ⟨Tryz.f274.name, by decide, Tryz.func274.trans (congrArg some (by kernel_rfl))⟩
 f27 := ⟨Tryz.f275.name, by decide, Tryz.func275.trans (congrArg some (by kernel_rfl))⟩
 f28 := Tryz.func146.trans (congrArg some (by kernel_rfl))
 f29 := Tryz.func147.trans (congrArg some (by kernel_rfl))
 f46 := ⟨Tryz.f282.name, by decide, Tryz.func282.trans (congrArg some (by kernel_rfl))⟩
 f47 := Tryz.func175.trans (congrArg some (by kernel_rfl))
 f48 := Tryz.func176.trans (congrArg some (by kernel_rfl))
 f49 := ⟨Tryz.f283.name, by decide, Tryz.func283.trans (congrArg some (by kernel_rfl))⟩
 f50 := ⟨Tryz.f284.name, by decide, Tryz.func284.trans (congrArg some (by kernel_rfl))⟩
 f57 := ⟨Tryz.f291.name, by decide, Tryz.func291.trans (congrArg some (by kernel_rfl))⟩
 t0 := Tryz.underlying0
 a0 := Tryz.isAgg0
 z0 := Tryz.sizeOf0
 v0 := Tryz.zeroValue0
 t3 := Tryz.underlying3
 a3 := Tryz.isAgg3
 z3 := Tryz.sizeOf3
 v3 := Tryz.zeroValue3
 t4 := Tryz.underlying4
 a4 := Tryz.isAgg4
 z4 := Tryz.sizeOf4
 v4 := Tryz.zeroValue4
 t5 := Tryz.underlying5
 a5 := Tryz.isAgg5
 z5 := Tryz.sizeOf5
 v5 := Tryz.zeroValue5
 t9 := Tryz.underlying9
 a9 := Tryz.isAgg9
 z9 := Tryz.sizeOf9
 v9 := Tryz.zeroValue9
 t22 := Tryz.underlying228
 a22 := Tryz.isAgg228
 z22 := Tryz.sizeOf228
 v22 := Tryz.zeroValue228
 t25 := Tryz.underlying294
 a25 := Tryz.isAgg294
 z25 := Tryz.sizeOf294
 v25 := Tryz.zeroValue294
 t39 := Tryz.underlying107
 a39 := Tryz.isAgg107
 z39 := Tryz.sizeOf107
 v39 := Tryz.zeroValue107
 t45 := Tryz.underlying185
 a45 := Tryz.isAgg185
 z45 := Tryz.sizeOf185
 v45 := Tryz.zeroValue185
 t46 := Tryz.underlying186
 a46 := Tryz.isAgg186
 z46 := Tryz.sizeOf186
 v46 := Tryz.zeroValue186
 t50 := Tryz.underlying191
 a50 := Tryz.isAgg191
 z50 := Tryz.sizeOf191
 v50 := Tryz.zeroValue191
 t53 := Tryz.underlying25
 a53 := Tryz.isAgg25
 z53 := Tryz.sizeOf25
 v53 := Tryz.zeroValue25
 t55 := Tryz.underlying24
 a55 := Tryz.isAgg24
 z55 := Tryz.sizeOf24
 v55 := Tryz.zeroValue24
 t66 := Tryz.underlying219
 a66 := Tryz.isAgg219
 z66 := Tryz.sizeOf219
 v66 := Tryz.zeroValue219
 t70 := Tryz.underlying223
 a70 := Tryz.isAgg223
 z70 := Tryz.sizeOf223
 v70 := Tryz.zeroValue223
 t76 := Tryz.underlying253
 a76 := Tryz.isAgg253
 z76 := Tryz.sizeOf253
 v76 := Tryz.zeroValue253
 t77 := Tryz.underlying254
 a77 := Tryz.isAgg254
 z77 := Tryz.sizeOf254
 v77 := Tryz.zeroValue254 }
end Go.Proofs
end
namespace Go.Proofs.YtfbegbmjmhnplaaGreatDoor
open Go.Lib (hid)
section
open Go.RowKit
namespace SpanC
open VerM SpanM StrC TextR VerC Go.Sort Go.Shelf
theorem st_agg (w : World) : (isAgg 266).run Tryz.prog w = .ok true w := by kernel_rfl
theorem st_size (w : World) : (Go.sizeOf 266).run Tryz.prog w = .ok 10 w := by kernel_rfl
set_option maxRecDepth 100000 in
theorem zic (x y : StR) (w : World) (hx : StOk w x) (hy : StOk w y) :
 Calls Tryz.prog 236 #[stV x, stV y] w fun e w' => e = .returned (.int .i64 (cE x.st.f y.st.f)) ∧ Gr w w' := by
 have HC := hid (fun w' (g : Gr w w') => zgs x.f y.f w' (hx.f.gr g.below) (hy.f.gr g.below))
 have HG : Hid (Gr w ((w.alloc (stO x)).alloc (stO y))) := hid (((Gr.refl w).alloc _).alloc _)
 obtain ⟨r, hr⟩ : ∃ r, cE x.f.ed y.f.ed = r := ⟨_, rfl⟩
 have HE : Hid (cE x.st.f y.st.f = r) := hid hr
 rw [hr] at HC
 clear hx hy hr
 obtain ⟨⟨vx, ax, cx, s1⟩, ⟨vx2, ax2, cx2, s12⟩⟩ := x
 obtain ⟨⟨vy, ay, cy, s2⟩, ⟨vy2, ay2, cy2, s22⟩⟩ := y
 dsimp only at *
 go_enter Tryz.func236, Tryz.ntmps236
 go_wp2_with (go_at_call 237; refine (HC.out _ HG.out).mono ?_; rintro e w2 ⟨rfl, hg2⟩)
 go_ret
 exact ⟨by rw [HE.out]; rfl, HG.out.trans hg2⟩
structure TS (w : World) where
 x : StR
 ok : StOk w x
instance (w : World) : Inhabited (TS w) := ⟨⟨⟨⟨zeroV, none, 0, 0⟩, ⟨zeroV, none, 0, 0⟩⟩, ⟨⟨⟨zfm, by show 0 ≤ 2; omega, fun h => by cases h⟩, Txs.nil _ _ _, fun b f e => (by cases e), fun _ => ⟨rfl, rfl⟩⟩, ⟨⟨zfm, by show 0 ≤ 2; omega, fun h => by cases h⟩, Txs.nil _ _ _, fun b f e => (by cases e), fun _ => ⟨rfl, rfl⟩⟩⟩⟩⟩
def encTS {w : World} (x : TS w) : List Value := stL x.x
def cmpTS {w : World} (x y : TS w) : Int := cE x.x.st.f y.x.st.f
theorem swoTS (w : World) : Go.Sort.SWO (ltOf (cmpTS (w := w))) where
 irrefl x := by unfold ltOf cmpTS; rw [zfp]; rfl
 trans x y z h1 h2 := by
  unfold ltOf cmpTS at *
  rw [decide_eq_true_eq] at *
  exact lt_le h1 (by omega)
 ntrans x y z h1 h2 := by
  unfold ltOf cmpTS at *
  rw [decide_eq_false_iff_not] at *
  intro h3
  have a1 := zfq x.x.st.f y.x.st.f
  have a2 := zfq y.x.st.f z.x.st.f
  have := lt_le h3 (show cE z.x.st.f y.x.st.f ≤ 0 by have := zfq z.x.st.f y.x.st.f; omega)
  omega
theorem ts_at {w : World} (x : TS w) {α : Type} [Inhabited α] (enc : α → List Value) (k blk m : Nat) (dk : Array α) (os : Array Obj) (hb : ¬ IsText w blk) : StOk (sortWorldK enc k w blk 0 m dk os) x.x :=
 x.ok.keep hb fun j hj hne => (RowKC.zgk enc k dk).block j hj (by simp; exact fun e => hne e)
theorem zid (blk cap : Nat) (w : World) (d : Array (TS w)) (hH : HoldsK encTS 10 w blk 0 d) (hblk : blk < w.heap.size) (hb : ¬ IsText w blk) (hsz : d.size < 4611686018427387904) :
 Calls Tryz.prog 235 #[.slice (some ⟨blk, 0, none⟩) d.size cap, .func (.func 236) #[] #[]] w fun e w' =>
  e = .returned (.tuple #[]) ∧ ∃ d' n os, Go.Sort.PermIn 0 d.size d d' ∧ Go.Sort.SortedIn (ltOf cmpTS) 0 d.size d' ∧ w' = sortWorldK encTS 10 w blk 0 n d' os := by
 have eg : ∀ args w, (callFunc 236 args).run Tryz.prog w = .ok (.enter 236 args) w := enters_of Tryz.func236 (by kernel_rfl) rfl
 exact AnyQ.slices_SortFunc Tryz.sortSt 10 st_agg st_size encTS (fun _ => rfl) (fun x => zhq x.x) cmpTS (swoTS w) 236 #[] blk 0 cap d w eg
  (fun m os dk _ x y => (zic x.x y.x _ (ts_at x _ _ _ _ _ _ hb) (ts_at y _ _ _ _ _ _ hb)).mono fun _ _ h => ⟨h.1, h.2.grow⟩) hH hblk hsz
theorem zie {w : World} {d d' : Array (TS w)} (hp : Go.Sort.PermIn 0 d.size d d') (hs : Go.Sort.SortedIn (ltOf cmpTS) 0 d.size d') : d'.size = d.size ∧ (d'.toList.map (fun x => x.x.st)).Pairwise (fun a b => cE a.f b.f ≤ 0) ∧ (∀ x, x ∈ d'.toList.map (·.x) ↔ x ∈ d.toList.map (·.x)) := by
 obtain ⟨h1, _, h2⟩ := hp
 refine ⟨h1, ?_, fun x => ?_⟩
 · rw [List.pairwise_map, List.pairwise_iff_getElem]
   intro i j hi hj hij
   have := hs i j (by omega) hij (by simpa [h1] using hj)
   unfold ltOf at this
   rw [decide_eq_false_iff_not] at this
   simp only [Array.length_toList] at hi hj
   rw [getElem!_pos d' i hi, getElem!_pos d' j hj] at this
   unfold cmpTS at this
   have a := zfq d'[i].x.st.f d'[j].x.st.f
   simp only [Array.getElem_toList]
   omega
 · have e1 : d'.extract 0 d.size = d' := by rw [← h1]; simp
   have e2 : d.extract 0 d.size = d := by simp
   rw [e1, e2] at h2
   exact (h2.map (·.x)).mem_iff
end SpanC
end
end Go.Proofs.YtfbegbmjmhnplaaGreatDoor
