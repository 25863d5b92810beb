/-
  The laws' own function Twin of events: the same event, its needs in memory of their own.
-/
import Derived.Test.YtbjifikbfagdjaaGreatDoorEventSame
import Derived.Laws.CopyOwn
import Derived.OwnWalk
namespace Go.Proofs.YtbjifikbfagdjaaGreatDoor
open Go.RowKit
namespace EvC
open EvA StrC AppC
set_option linter.unusedSimpArgs false
set_option linter.unusedVariables false

theorem flat_need : ∀ (L : List (B × B)) (i j : Nat), i < L.length → j < 2 → (L.flatMap needL)[i * 2 + j]? = some ((needL L[i]!)[j]!)
  | [], _, _, h, _ => absurd h (by simp)
  | x :: L, 0, j, _, hj => by
    have : j = 0 ∨ j = 1 := by omega
    rcases this with rfl | rfl <;> rfl
  | x :: L, i + 1, j, h, hj => by
    have ih := flat_need L i j (by simpa using h) hj
    show (needL x ++ L.flatMap needL)[(i + 1) * 2 + j]? = _
    rw [List.getElem?_append_right (by simp; omega)]
    have : (i + 1) * 2 + j - (needL x).length = i * 2 + j := by simp; omega
    rw [this, ih]
    rfl
theorem flat_len : ∀ (L : List (B × B)), (L.flatMap needL).length = L.length * 2
  | [] => rfl
  | x :: L => by
    show (needL x ++ L.flatMap needL).length = _
    rw [List.length_append, flat_len L, List.length_cons]
    show 2 + L.length * 2 = (L.length + 1) * 2
    omega
theorem need_ones (L : List (B × B)) : ∀ u ∈ L.flatMap needL, u.oneCell' = true := by
  intro u hu
  obtain ⟨x, _, hx⟩ := List.mem_flatMap.1 hu
  simp only [List.mem_cons, List.not_mem_nil, or_false] at hx
  rcases hx with rfl | rfl <;> rfl
theorem ne_news {w : World} {a : Option Addr} {c : Nat} {L : List (B × B)} (h : NeIn w a c L) : ∀ ad, a = some ad → ∀ j u, (L.flatMap needL)[j]? = some u → w.cell? (ad.add j) = some u := by
  intro ad e j u hu
  have hj : j < L.length * 2 := by
    have := (List.getElem?_eq_some_iff.1 hu).1
    rwa [flat_len] at this
  obtain ⟨g, o, e2, hc⟩ := h.cells (by omega)
  rw [e] at e2
  cases e2
  have hk := hc (j / 2) (by omega) (j % 2) (by omega)
  have e3 := flat_need L (j / 2) (j % 2) (by omega) (by omega)
  rw [show j / 2 * 2 + j % 2 = j from by omega] at e3
  rw [e3] at hu
  rw [Go.WideShapes.add_plain, ← hu, ← hk]
  congr 2
  omega
theorem own_needs {w : World} {N : Nat} {v : Value} {L : List (B × B)} (h : w.ownsRow N 179 2 v L.length (L.flatMap needL)) (hf : L.length * 32 ≤ 140737488351232) (hs : ∀ x ∈ L, x.1.length ≤ 140737488351232 ∧ x.2.length ≤ 140737488351232) :
    ∃ a c, v = .slice a L.length c ∧ NeIn w a c L := by
  have h' := h
  obtain ⟨_, ⟨rfl, h0⟩ | ⟨g, cp, cur, rfl, hg0, hblk, hle, _⟩⟩ := h'
  · have : L = [] := List.length_eq_zero_iff.1 h0
    subst this
    exact ⟨none, 0, rfl, NeIn.no w⟩
  · refine ⟨_, cp, rfl, hle, hf, hs, fun h0 => ⟨g, 0, rfl, fun i hi j hj => ?_⟩⟩
    rw [Nat.zero_add, h.cellAt (i * 2 + j) (by omega), flat_need L i j hi hj]
theorem ne_keep {w w' : World} {a : Option Addr} {c : Nat} {L : List (B × B)} (h : NeIn w a c L) (g : ∀ b o, a = some ⟨b, o, none⟩ → w'.heap[b]? = w.heap[b]?) : NeIn w' a c L :=
  ⟨h.le, h.few, h.short, fun h0 => by
    obtain ⟨b, o, e, hc⟩ := h.cells h0
    exact ⟨b, o, e, fun i hi j hj => by rw [World.cell?_of_block (a := ⟨b, o + i * 2 + j, none⟩) (g b o e)]; exact hc i hi j hj⟩⟩
theorem info_need : (Tryz.prog.info? 179).map (fun i => (i.zero, i.size, i.bytes)) = some (some (.agg #[.string ⟨#[]⟩, .string ⟨#[]⟩]), 2, 32) := by kernel_rfl
theorem info_ev : (Tryz.prog.info? 51).map (·.size) = some 10 := by kernel_rfl
theorem ev_one (e : EvG) : ((evL e).toArray.all (·.oneCell')) = true := by simp [Value.oneCell']
abbrev evZ : Obj := .cells #[.int .u8 0, .string ⟨#[]⟩, .string ⟨#[]⟩, .string ⟨#[]⟩, .slice none 0 0, .int .u64 0, .int .u32 0, .int .u32 0, .string ⟨#[]⟩, .string ⟨#[]⟩] 51
theorem set_row {w : World} {g : Nat} {cs : Array Value} {t : TypeId} {fr : Nat × Nat} (h : w.heap[g]? = some (.cells cs t fr)) (i : Nat) (v : Value) : (w.setCell ⟨g, i, none⟩ v).heap[g]? = some (.cells (cs.setIfInBounds i v) t fr) := by
  unfold World.setCell
  simp [Array.getElem?_modify, h]
theorem set_else {w : World} {g k : Nat} (i : Nat) (v : Value) (h : k ≠ g) : (w.setCell ⟨g, i, none⟩ v).heap[k]? = w.heap[k]? := Below.heap_setCell w ⟨g, i, none⟩ v k h
theorem no_frozen {w : World} {g : Nat} {cs : Array Value} {t : TypeId} (h : w.heap[g]? = some (.cells cs t (0, 0))) (i : Nat) : w.frozen? ⟨g, i, none⟩ = false := by simp [World.frozen?, h]
theorem res_c {P : Program} {fn : Func} {p : Tmp} {ty : TypeId} (h : fn.results = #[.cell p ty]) (tmps : Array Value) (w : World) (g : Nat) (t : TypeId) (cs : Array Value) (fr : Nat × Nat) (d : TypeDesc)
    (hp : tmps.getD p undef = .pointer (some ⟨g, 0, none⟩)) (hg : w.heap[g]? = some (.cells cs t fr))
    (hu : P.underlying ty = some d) (hd : (match d with | .struct _ | .array _ _ => true | _ => false) = true) (hi : (P.info? ty).map (·.size) = some cs.size) :
    (results fn tmps).run P w = .ok (.agg cs) w := by
  have hp' : tmps[p]?.getD undef = .pointer (some ⟨g, 0, none⟩) := by simpa using hp
  simp [results, h, hp', asAddr, run_loadVar_row w g t ty cs fr d hg hu hd hi]
/-- the same event, its needs elsewhere -/
def atE (e : EvG) (a : Option Addr) (c : Nat) : EvG := ⟨e.k, e.who, e.name, e.ver, a, c, e.needs, e.sum, e.n, e.size, e.holder, e.note⟩
theorem sameE_at (e b : EvG) (a a' : Option Addr) (c c' : Nat) : sameE (atE e a c) (atE b a' c') = sameE e b := rfl
end EvC
end Go.Proofs.YtbjifikbfagdjaaGreatDoor
