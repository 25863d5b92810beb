/-
  A row of texts of a call's own: one text more behind it; what is written elsewhere leaves it as it is.
-/
import Derived.Test.YtbjifikbfagdjaaGreatDoorChecked
import Derived.WalkKit
namespace Go.Proofs.YtbjifikbfagdjaaGreatDoor
open Go.RowKit
namespace TextR
theorem info_text : (Tryz.prog.info? 9).map (fun i => (i.zero, i.size, i.bytes)) = some (some (.string ⟨#[]⟩), 1, 16) := by kernel_rfl
def OwnT (w : World) (B : Nat) (v : Value) (L : List ByteArray) : Prop := w.ownsRow B 9 1 v L.length (L.map Value.string)
theorem OwnT.nil (w : World) (B : Nat) : OwnT w B (.slice none 0 0) [] := World.ownsRow_nil _ _ _ _
theorem one_text (s : ByteArray) : ∀ u ∈ [Value.string s], u.oneCell' = true := by
  intro u hu
  rw [List.mem_singleton] at hu
  subst hu
  rfl
theorem text_cell (w : World) (v : Value) (t : TypeId) : ∀ j u, [v][j]? = some u → (w.alloc (.cells #[v] t)).cell? ((⟨w.heap.size, 0, none⟩ : Addr).add j) = some u := by
  intro j u hu
  match j with
  | 0 =>
    rw [Go.WideShapes.add_plain, World.cell?_alloc_at _ _ _ _ rfl]
    simpa using hu
  | j + 1 => simp at hu
theorem snoc {w : World} {B n : Nat} {v : Value} {L : List ByteArray} {s : ByteArray} (h : w.ownsRow B 9 1 v (n + 1) (L.map Value.string ++ [Value.string s])) (hn : n = L.length) : OwnT w B v (L ++ [s]) := by
  unfold OwnT
  rw [List.map_append, List.map_singleton, List.length_append, List.length_singleton, ← hn]
  exact h
theorem OwnT.open_ {w : World} {B : Nat} {v : Value} {L : List ByteArray} (h : OwnT w B v L) : ∃ a cp, v = .slice a L.length cp ∧ (0 < L.length → ∃ g, a = some ⟨g, 0, none⟩ ∧ B ≤ g ∧ g < w.heap.size ∧ ∀ i (hi : i < L.length), w.cell? ⟨g, i, none⟩ = some (.string L[i])) := by
  have h' : w.ownsRow B 9 1 v L.length (L.map Value.string) := h
  have hcs : ∀ g, v.ownBlock = some g → _ := fun g hg => h'.cells hg
  have hlt := h'.lt
  obtain ⟨_, ⟨rfl, h0⟩ | ⟨g, cp, cur, rfl, hg0, hblk, hle, hcm, hsz, htk⟩⟩ := h'
  · exact ⟨none, 0, by rw [h0], fun h => by omega⟩
  · refine ⟨_, cp, rfl, fun _ => ⟨g, rfl, hg0, (hlt g rfl).2, fun i hi => ?_⟩⟩
    have := hcs g rfl i (.string L[i]) (by simp [hi])
    rw [Go.WideShapes.add_plain, Nat.zero_add] at this
    exact this
end TextR
end Go.Proofs.YtbjifikbfagdjaaGreatDoor
