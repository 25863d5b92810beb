/-
  What the proof of EventForms stands on, part 3.
-/
import Derived.Laws.AppendOwn
import Derived.Test.YtbiplmbcdhjiaaaGreatDoorT01
set_option linter.unusedSimpArgs false
set_option linter.unusedVariables false
set_option maxHeartbeats 16000000
namespace Go.Proofs.YtbiplmbcdhjiaaaGreatDoor
open Go.Lib (hid)
section
open Go.RowKit
namespace TextR
theorem info_text : (Tryz.prog.info? 9).map (fun i => (i.zero, i.size, i.bytes)) = some (some (.string ⟨#[]⟩), 1, 16) := by kernel_rfl
def OwnT (w : World) (B : Nat) (v : Value) (L : List ByteArray) : Prop := w.ownsRow B 9 1 v L.length (L.map Value.string)
theorem OwnT.nil (w : World) (B : Nat) : OwnT w B (.slice none 0 0) [] := World.ownsRow_nil _ _ _ _
theorem zda (s : ByteArray) : ∀ u ∈ [Value.string s], u.oneCell' = true := by
 intro u hu
 rw [List.mem_singleton] at hu
 subst hu
 rfl
theorem zdb (w : World) (v : Value) (t : TypeId) : ∀ j u, [v][j]? = some u → (w.alloc (.cells #[v] t)).cell? ((⟨w.heap.size, 0, none⟩ : Addr).add j) = some u := by
 intro j u hu
 match j with
 | 0 =>
  rw [Go.WideShapes.add_plain, World.cell?_alloc_at _ _ _ _ rfl]
  simpa using hu
 | j + 1 => simp at hu
theorem snoc {w : World} {B n : Nat} {v : Value} {L : List ByteArray} {s : ByteArray} (h : w.ownsRow B 9 1 v (n + 1) (L.map Value.string ++ [Value.string s])) (hn : n = L.length) : OwnT w B v (L ++ [s]) := by
 unfold OwnT
 rw [List.map_append, List.map_singleton, List.length_append, List.length_singleton, ← hn]
 exact h
theorem OwnT.open_ {w : World} {B : Nat} {v : Value} {L : List ByteArray} (h : OwnT w B v L) : ∃ a cp, v = .slice a L.length cp ∧ (0 < L.length → ∃ g, a = some ⟨g, 0, none⟩ ∧ B ≤ g ∧ g < w.heap.size ∧ ∀ i (hi : i < L.length), w.cell? ⟨g, i, none⟩ = some (.string L[i])) := by
 have h' : w.ownsRow B 9 1 v L.length (L.map Value.string) := h
 have hcs : ∀ g, v.ownBlock = some g → _ := fun g hg => h'.cells hg
 have hlt := h'.lt
 obtain ⟨_, ⟨rfl, h0⟩ | ⟨g, cp, cur, rfl, hg0, hblk, hle, hcm, hsz, htk⟩⟩ := h'
 · exact ⟨none, 0, by rw [h0], fun h => by omega⟩
 · refine ⟨_, cp, rfl, fun _ => ⟨g, rfl, hg0, (hlt g rfl).2, fun i hi => ?_⟩⟩
   have := hcs g rfl i (.string L[i]) (by simp [hi])
   rw [Go.WideShapes.add_plain, Nat.zero_add] at this
   exact this
end TextR
end
section
open Go.RowKit
namespace TextR
theorem zdc (n : Nat) (h : n ≤ 12000000000000) : Builtin.nextslicecap (n + 1) n * 16 ≤ 281474976710656 := by
 unfold Builtin.nextslicecap
 split
 · omega
 · split
   · omega
   · rw [growBy_four]
     repeat' split
     all_goals omega
theorem run_one {P : Program} (w : World) (B : Nat) (t ty e : TypeId) (i : TypeInfo) (z : Value) (ht : P.underlying t = some (.slice e)) (hi : P.info? e = some i) (hz : i.zero = some z)
 (hsize : i.size = 1) (hby : i.bytes = 16) (hzs : z.cells.size = 1) (v : Value) (n : Nat) (xs : List Value) (hown : w.ownsRow B e 1 v n xs)
 (a : Addr) (c : Nat) (u : Value) (hu : ∀ j x, [u][j]? = some x → w.cell? (a.add j) = some x) (h1 : u.oneCell' = true) (hn : n ≤ 12000000000000) (hB : B ≤ w.heap.size) :
 ∃ v' w', (Builtin.append_ #[t, t] ty #[v, .slice (some a) 1 c]).run P w = .ok v' w' ∧ w'.ownsRow B e 1 v' (n + 1) (xs ++ [u]) ∧ w.grownBy w' v.ownBlock := by
 have h1' : ∀ x ∈ [u], x.oneCell' = true := by
  intro x hx
  rw [List.mem_singleton] at hx
  subst hx
  exact h1
 by_cases hb : (n + 1) * 16 ≤ 140737488355328
 · obtain ⟨v', w', hr, h2, h3, -⟩ := run_append_own (P := P) w B t ty e i z 1 16 ht hi hz hsize hby hzs (by decide) v n xs hown a 1 c [u] rfl hu h1' (by unfold maxLen; omega) hb hB
   exact ⟨v', w', hr, h2, h3⟩
 · have hlen : (xs ++ [u]).length = (n + 1) * 1 := by rw [List.length_append, hown.1]; simp
   have hholds := fun g (hg : v.ownBlock = some g) => hown.cells hg
   rcases hown.2 with ⟨rfl, h0⟩ | ⟨g, cap, cur, rfl, hbg, hg, hnc, hcm, hcs, htake⟩
   · omega
   · by_cases hroom : n + 1 ≤ cap
     · have hr := run_append_room (P := P) w t ty e i ht hi g n cap cur hg a 1 c [u] (by rw [hsize]; rfl) hu h1' hroom (by rw [hsize, hcs]; simp; omega)
       refine ⟨_, _, hr, ⟨hlen, .inr ⟨g, cap, _, rfl, hbg, setRow_heap w g cur _ e _ hg, hroom, hcm, ?_, ?_⟩⟩, ⟨rfl, rfl, rfl, by simp, fun k _ hk => setRow_other w g k _ (fun e => hk (by simp [Value.ownBlock, e]))⟩⟩
       · simp only [hsize, List.size_toArray, List.length_append, List.length_take, List.length_drop, Array.length_toList, List.length_singleton]
         omega
       · rw [hsize, htake, ← hlen]
         exact List.take_left
     · obtain rfl : cap = n := by omega
       have hr := run_append_grow (P := P) w t ty e i z ht hi hz ⟨g, 0, none⟩ cap cap xs (by rw [hsize]; exact hown.1) (hholds g rfl) a 1 c [u] (by rw [hsize]; rfl) hu (by omega) (by omega) (by rw [hby]; exact zdc cap hn)
       have hge := grownCap_ge w (cap + 1) cap e
       have hgm := grownCap_le_maxLen w (cap + 1) cap e (by unfold maxLen; omega)
       refine ⟨_, _, hr, ⟨hlen, .inr ⟨w.heap.size, _, _, rfl, hB, heap_alloc_new w.drew _, hge, hgm, ?_, ?_⟩⟩, ⟨rfl, rfl, rfl, by simp, fun k hk _ => heap_alloc_old w.drew _ hk⟩⟩
       · have hxl := hown.1
         simp only [Array.size_append, List.size_toArray, size_zeroCells, hzs, hxl, List.length_singleton]
         omega
       · simp only [Array.toList_append, List.append_assoc]
         rw [← List.append_assoc, ← hlen]
         exact List.take_left
theorem zdd {P : Program} {w : World} {ops : Array Oper} {rest : List Oper} {o : Oper} {a : Act} {Q : Exit → Act → World → Prop} (hgd : o.guard = none) (s x : Operand) (t : TypeId)
 (ho : o.op = .call { callee := .builtin .append, args := #[s, x], argTypes := #[t, t] })
 (B : Nat) (e : TypeId) (i : TypeInfo) (z : Value) (ht : P.underlying t = some (.slice e)) (hi : P.info? e = some i) (hz : i.zero = some z)
 (hsize : i.size = 1) (hby : i.bytes = 16) (hzs : z.cells.size = 1) (v : Value) (n : Nat) (xs : List Value) (hs : a.eval s = v) (hown : w.ownsRow B e 1 v n xs)
 (ad : Addr) (c : Nat) (u : Value) (hx : a.eval x = .slice (some ad) 1 c) (hu : ∀ j y, [u][j]? = some y → w.cell? (ad.add j) = some y) (h1 : u.oneCell' = true) (hn : n ≤ 12000000000000) (hB : B ≤ w.heap.size)
 (h : ∀ v' w', w'.ownsRow B e 1 v' (n + 1) (xs ++ [u]) → w.grownBy w' v.ownBlock → wpList P ops Q rest (a.put o.dst v') w') : wpList P ops Q (o :: rest) a w :=
 wpList_plain hgd fun K hK => by
  obtain ⟨v', w', hr, h2, h3⟩ := run_one (P := P) w B t o.type e i z ht hi hz hsize hby hzs v n xs hown ad c u hu h1 hn hB
  unfold Oper.wp execOp
  simp only [ho, resolve, invoke, builtin, Sem.run_bind, Sem.run_pure, Result.andThen_ok, List.map_toArray, List.map_cons, List.map_nil, hs, hx, hr]
  exact hK _ _ (h v' w' h2 h3)
end TextR
end
end Go.Proofs.YtbiplmbcdhjiaaaGreatDoor
