/-
  The laws' own function Twin of events: the same event, its needs in memory of their own.
-/
import Derived.Test.YtnkednjklfpblaaGreatDoorEventSame
import Derived.Laws.CopyOwn
import Derived.OwnWalk
namespace Go.Proofs.YtnkednjklfpblaaGreatDoor
open Go.RowKit
namespace EvC
open EvA StrC AppC
set_option linter.unusedSimpArgs false
set_option linter.unusedVariables false

theorem flat_need : ∀ (L : List (B × B)) (i j : Nat), i < L.length → j < 2 → (L.flatMap needL)[i * 2 + j]? = some ((needL L[i]!)[j]!)
  | [], _, _, h, _ => absurd h (by simp)
  | x :: L, 0, j, _, hj => by
    have : j = 0 ∨ j = 1 := by omega
    rcases this with rfl | rfl <;> rfl
  | x :: L, i + 1, j, h, hj => by
    have ih := flat_need L i j (by simpa using h) hj
    show (needL x ++ L.flatMap needL)[(i + 1) * 2 + j]? = _
    rw [List.getElem?_append_right (by simp; omega)]
    have : (i + 1) * 2 + j - (needL x).length = i * 2 + j := by simp; omega
    rw [this, ih]
    rfl
theorem flat_len : ∀ (L : List (B × B)), (L.flatMap needL).length = L.length * 2
  | [] => rfl
  | x :: L => by
    show (needL x ++ L.flatMap needL).length = _
    rw [List.length_append, flat_len L, List.length_cons]
    show 2 + L.length * 2 = (L.length + 1) * 2
    omega
theorem need_ones (L : List (B × B)) : ∀ u ∈ L.flatMap needL, u.oneCell' = true := by
  intro u hu
  obtain ⟨x, _, hx⟩ := List.mem_flatMap.1 hu
  simp only [List.mem_cons, List.not_mem_nil, or_false] at hx
  rcases hx with rfl | rfl <;> rfl
theorem ne_news {w : World} {a : Option Addr} {c : Nat} {L : List (B × B)} (h : NeIn w a c L) : ∀ ad, a = some ad → ∀ j u, (L.flatMap needL)[j]? = some u → w.cell? (ad.add j) = some u := by
  intro ad e j u hu
  have hj : j < L.length * 2 := by
    have := (List.getElem?_eq_some_iff.1 hu).1
    rwa [flat_len] at this
  obtain ⟨g, o, e2, hc⟩ := h.cells (by omega)
  rw [e] at e2
  cases e2
  have hk := hc (j / 2) (by omega) (j % 2) (by omega)
  have e3 := flat_need L (j / 2) (j % 2) (by omega) (by omega)
  rw [show j / 2 * 2 + j % 2 = j from by omega] at e3
  rw [e3] at hu
  rw [Go.WideShapes.add_plain, ← hu, ← hk]
  congr 2
  omega
theorem own_needs {w : World} {N : Nat} {v : Value} {L : List (B × B)} (h : w.ownsRow N 33 2 v L.length (L.flatMap needL)) (hf : L.length * 32 ≤ 140737488351232) (hs : ∀ x ∈ L, x.1.length ≤ 140737488351232 ∧ x.2.length ≤ 140737488351232) :
    ∃ a c, v = .slice a L.length c ∧ NeIn w a c L := by
  have h' := h
  obtain ⟨_, ⟨rfl, h0⟩ | ⟨g, cp, cur, rfl, hg0, hblk, hle, _⟩⟩ := h'
  · have : L = [] := List.length_eq_zero_iff.1 h0
    subst this
    exact ⟨none, 0, rfl, NeIn.no w⟩
  · refine ⟨_, cp, rfl, hle, hf, hs, fun h0 => ⟨g, 0, rfl, fun i hi j hj => ?_⟩⟩
    rw [Nat.zero_add, h.cellAt (i * 2 + j) (by omega), flat_need L i j hi hj]
theorem ne_keep {w w' : World} {a : Option Addr} {c : Nat} {L : List (B × B)} (h : NeIn w a c L) (g : ∀ b o, a = some ⟨b, o, none⟩ → w'.heap[b]? = w.heap[b]?) : NeIn w' a c L :=
  ⟨h.le, h.few, h.short, fun h0 => by
    obtain ⟨b, o, e, hc⟩ := h.cells h0
    exact ⟨b, o, e, fun i hi j hj => by rw [World.cell?_of_block (a := ⟨b, o + i * 2 + j, none⟩) (g b o e)]; exact hc i hi j hj⟩⟩
theorem info_need : (Tryz.prog.info? 33).map (fun i => (i.zero, i.size, i.bytes)) = some (some (.agg #[.string ⟨#[]⟩, .string ⟨#[]⟩]), 2, 32) := by kernel_rfl
theorem info_ev : (Tryz.prog.info? 27).map (·.size) = some 10 := by kernel_rfl
theorem ev_one (e : EvG) : ((evL e).toArray.all (·.oneCell')) = true := by simp [Value.oneCell']
abbrev evZ : Obj := .cells #[.int .u8 0, .string ⟨#[]⟩, .string ⟨#[]⟩, .string ⟨#[]⟩, .slice none 0 0, .int .u64 0, .int .u32 0, .int .u32 0, .string ⟨#[]⟩, .string ⟨#[]⟩] 27
theorem set_row {w : World} {g : Nat} {cs : Array Value} {t : TypeId} {fr : Nat × Nat} (h : w.heap[g]? = some (.cells cs t fr)) (i : Nat) (v : Value) : (w.setCell ⟨g, i, none⟩ v).heap[g]? = some (.cells (cs.setIfInBounds i v) t fr) := by
  unfold World.setCell
  simp [Array.getElem?_modify, h]
theorem set_else {w : World} {g k : Nat} (i : Nat) (v : Value) (h : k ≠ g) : (w.setCell ⟨g, i, none⟩ v).heap[k]? = w.heap[k]? := Below.heap_setCell w ⟨g, i, none⟩ v k h
theorem no_frozen {w : World} {g : Nat} {cs : Array Value} {t : TypeId} (h : w.heap[g]? = some (.cells cs t (0, 0))) (i : Nat) : w.frozen? ⟨g, i, none⟩ = false := by simp [World.frozen?, h]
theorem res_c {P : Program} {fn : Func} {p : Tmp} {ty : TypeId} (h : fn.results = #[.cell p ty]) (tmps : Array Value) (w : World) (g : Nat) (t : TypeId) (cs : Array Value) (fr : Nat × Nat) (d : TypeDesc)
    (hp : tmps.getD p undef = .pointer (some ⟨g, 0, none⟩)) (hg : w.heap[g]? = some (.cells cs t fr))
    (hu : P.underlying ty = some d) (hd : (match d with | .struct _ | .array _ _ => true | _ => false) = true) (hi : (P.info? ty).map (·.size) = some cs.size) :
    (results fn tmps).run P w = .ok (.agg cs) w := by
  have hp' : tmps[p]?.getD undef = .pointer (some ⟨g, 0, none⟩) := by simpa using hp
  simp [results, h, hp', asAddr, run_loadVar_row w g t ty cs fr d hg hu hd hi]
/-- the same event, its needs elsewhere -/
def atE (e : EvG) (a : Option Addr) (c : Nat) : EvG := ⟨e.k, e.who, e.name, e.ver, a, c, e.needs, e.sum, e.n, e.size, e.holder, e.note⟩
theorem sameE_at (e b : EvG) (a a' : Option Addr) (c c' : Nat) : sameE (atE e a c) (atE b a' c') = sameE e b := rfl
set_option maxHeartbeats 4000000 in
set_option maxRecDepth 100000 in
theorem twinE_any (e : EvG) (w : World) (hN : NeIn w e.na e.nc e.needs) :
    Calls Tryz.prog 5 #[evV e] w fun r w' => ∃ a c, r = .returned (evV (atE e a c)) ∧ NeIn w' a c e.needs ∧ Below w.heap.size w w' := by
  obtain ⟨i0, hi, hz0, hz1, hz2⟩ := info_parts info_need
  have hnew := heap_alloc_new w (evO e)
  have hB0 : Below w.heap.size w (w.alloc (evO e)) := (Below.refl _ w).alloc (Nat.le_refl _) _
  have hr1 := (heap_alloc_old (w.alloc (evO e)) evZ (r := w.heap.size) (by simp)).trans hnew
  have hn1 := heap_alloc_new (w.alloc (evO e)) evZ
  have hs1 : (w.alloc (evO e)).heap.size = w.heap.size + 1 := by simp
  rw [hs1] at hn1
  have HB1 := Lib.hid (hB0.alloc hB0.size evZ)
  have HT2 := Lib.hid (hN.gr HB1.out)
  have hs2 : ((w.alloc (evO e)).alloc evZ).heap.size = w.heap.size + 2 := by simp
  have HS2 := Lib.hid hs2
  have HR1 := Lib.hid hr1
  have HN1 := Lib.hid hn1
  have HFEW := Lib.hid hN.few
  have HSH := Lib.hid hN.short
  obtain ⟨x0, x1, x2, x3, x4, x5, x6, x7, x8, x9⟩ := ev_cells hr1
  clear hN hnew hB0 hs1 hr1 hn1 hs2 x0 x1 x2 x3 x5 x6 x7 x8 x9
  go_enter Tryz.func5, Tryz.ntmps5
  go_wp2_with (at_builtin; (refine wpList_append_anyc _ rfl _ _ 23 rfl (w.heap.size + 2) 33 i0 _ 2 32 Tryz.underlying23 hi hz0 hz1 hz2 rfl (by decide) _ _ _ rfl (World.ownsRow_nil _ _ _ _) e.na e.needs.length e.nc (e.needs.flatMap needL) rfl HT2.out.nil_ (flat_len _) (ne_news HT2.out) (need_ones _) ?c4 ?c5 ?c6 ?_))
  case c4 => have := HFEW.out; unfold maxLen; omega
  case c5 => have := HFEW.out; omega
  case c6 => rw [HS2.out]; exact Nat.le_refl _
  intro v' w3 hown hg
  have hB3 : Below w.heap.size w w3 := HB1.out.grown hg (by rw [HS2.out]; omega) (fun k hk => by cases hk)
  have hr3 : w3.heap[w.heap.size]? = some (evO e) := (hg.block w.heap.size (by rw [HS2.out]; omega) (by simp [Value.ownBlock])).trans HR1.out
  have hn3 : w3.heap[w.heap.size + 1]? = some evZ := (hg.block (w.heap.size + 1) (by rw [HS2.out]; omega) (by simp [Value.ownBlock])).trans HN1.out
  have hO : w3.ownsRow (w.heap.size + 2) 33 2 v' e.needs.length (e.needs.flatMap needL) := by simpa using hown
  obtain ⟨a', c', rfl, hT3⟩ := own_needs hO HFEW.out HSH.out
  have HOW := Lib.hid hO
  have HT3 := Lib.hid hT3
  have HB3 := Lib.hid hB3
  clear hown hg hO hT3 hB3 HT2 HS2 HR1 HN1 x4
  have hr4 : (w3.setCell ⟨w.heap.size, 4, none⟩ (.slice a' e.needs.length c')).heap[w.heap.size]? = some (evO (atE e a' c')) := set_row hr3 4 _
  have hn4 : (w3.setCell ⟨w.heap.size, 4, none⟩ (.slice a' e.needs.length c')).heap[w.heap.size + 1]? = some evZ := (set_else 4 _ (by omega)).trans hn3
  have f4 := no_frozen hr3 4
  obtain ⟨x0, x1, x2, x3, x4, x5, x6, x7, x8, x9⟩ := ev_cells hr3
  have HB4 : Hid (Below w.heap.size w (w3.setCell ⟨w.heap.size, 4, none⟩ (.slice a' e.needs.length c'))) := Lib.hid (HB3.out.setCell (show w.heap.size ≤ (⟨w.heap.size, 4, none⟩ : Addr).block from Nat.le_refl _) _)
  have HOW5 : Hid (NeIn ((w3.setCell ⟨w.heap.size, 4, none⟩ (.slice a' e.needs.length c')).setRow (w.heap.size + 1) (evL (atE e a' c')).toArray) a' c' e.needs) := Lib.hid (ne_keep HT3.out (fun b o ea => by
    subst ea
    have hlt := (World.ownsRow.lt HOW.out b rfl).1
    rw [setRow_other _ _ _ _ (by omega), set_else 4 _ (by omega)]))
  clear hn3 x0 x1 x2 x3 x5 x6 x7 x8 x9 HB3
  go_wp2_with (first
    | (refine wpList_load_row rfl 27 _ rfl w.heap.size rfl _ _ _ _ hr4 Tryz.underlying27 rfl info_ev ?_)
    | (refine wpList_store_row rfl 27 _ _ rfl (w.heap.size + 1) (evL (atE e a' c')).toArray rfl rfl _ _ hn4 info_ev rfl (ev_one _) ?_)
    | fail)
  refine bodyPost_ret (res_c rfl _ _ (w.heap.size + 1) _ _ _ _ rfl (setRow_heap _ _ _ _ _ _ hn4) Tryz.underlying27 rfl info_ev) rfl ?_
  exact ⟨a', c', rfl, HOW5.out, below_setRow HB4.out (by omega) _⟩
end EvC
end Go.Proofs.YtnkednjklfpblaaGreatDoor
