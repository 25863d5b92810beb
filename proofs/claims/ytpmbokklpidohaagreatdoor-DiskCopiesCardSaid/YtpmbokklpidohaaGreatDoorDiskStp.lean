/-
  A row of steps that came in: what each step says; both disks, new.
-/
import Derived.Test.YtpmbokklpidohaaGreatDoorDiskWhole
import Derived.Test.YtpmbokklpidohaaGreatDoorStructs
namespace Go.Proofs.YtpmbokklpidohaaGreatDoor
open Go.RowKit
namespace DiskP
open DiskM DiskC ErrC

/-- a step: what to do, a name, a text, a number -/
structure Stp where
  D : Int
  name : ByteArray
  x : ByteArray
  N : Int
structure Stp.Fits (t : Stp) : Prop where
  name : t.name.size ≤ 4611686018427387904
  text : t.x.size ≤ 281474976710656
  num : t.N ≤ 9223372036854775807
/-- the steps' row, from ⟨g, o⟩ on -/
structure StpAt (w : World) (g p : Nat) (t : Stp) : Prop where
  c0 : w.cell? ⟨g, p, none⟩ = some (.int .i64 t.D)
  c1 : w.cell? ⟨g, p + 1, none⟩ = some (.string t.name)
  c2 : w.cell? ⟨g, p + 2, none⟩ = some (.string t.x)
  c3 : w.cell? ⟨g, p + 3, none⟩ = some (.int .i64 t.N)
theorem StpAt.below {B : Nat} {w w' : World} {g p : Nat} {t : Stp} (h : StpAt w g p t) (hb : Below B w w') (hg : g < B) : StpAt w' g p t :=
  ⟨by rw [hb.cell hg]; exact h.c0, by rw [hb.cell hg]; exact h.c1, by rw [hb.cell hg]; exact h.c2, by rw [hb.cell hg]; exact h.c3⟩
def Steps (w : World) (g o : Nat) (L : List Stp) : Prop := ∀ i (hi : i < L.length), StpAt w g (o + i * 4) L[i] ∧ L[i].Fits
/-- both disks, new -/
theorem pair_new {B : Nat} {w w1 w2 : World} {b : Nat} {F : Nat → Prop} {cut : Int} (hB : B = w.heap.size) (hv : Vars w) (hr : RP B w1 b F cut ⟨[], 0, false⟩) (hb : Below w.heap.size w w1) (hF : ∀ i, F i → w.heap.size ≤ i)
    (h2 : w2 = w1.alloc (.cells #[.slice none 0 0, .int .i64 cut, .int .i64 0, .bool false] 37)) : Pair (RP B) w2 b F w1.heap.size (.slice none 0 0) cut ⟨[], 0, false⟩ B ∧ Below B w w2 := by
  subst hB h2
  have hD := disk_dev w.heap.size
  have hb2 : Below w1.heap.size w1 (w1.alloc (.cells #[.slice none 0 0, .int .i64 cut, .int .i64 0, .bool false] 37)) := (Below.refl _ _).alloc (Nat.le_refl _) _
  have hfoot : ∀ i, Foot w1.heap.size (.slice none 0 0) i → i = w1.heap.size := by
    intro i hi
    rcases hi with h | h
    · exact h
    · cases h
  refine ⟨⟨hD.keeps hr (Keeps.of_below (S := fun _ => False) hb2) (fun _ _ h => h) (fun _ h => h.elim), dnew_is cut w1, fun i hi hf => ?_, hF, fun i hi => ?_, ?_, (hv.below hb).below hb2, DiskC.Vars.g0 hv, DiskC.Vars.g1 hv⟩, hb.trans (hb2.mono hb.size)⟩
  · have := hfoot i hf
    have := hD.lt hr i hi
    omega
  · rw [hfoot i hi]; exact hb.size
  · exact Nat.le_trans hb.size hb2.size
def intL : Lit → Int
  | .int _ n => n
  | _ => 0
def txtL : Lit → ByteArray
  | .string s => ⟨s.toArray⟩
  | _ => ⟨#[]⟩
def stpOf (row : List Lit) : Stp := ⟨intL (row.getD 0 .nil), txtL (row.getD 1 .nil), txtL (row.getD 2 .nil), intL (row.getD 3 .nil)⟩
theorem int_le {a : Int} (h : (Lit.int .i64 a).wf = true) : a ≤ 9223372036854775807 := by
  have h2 : IntKind.i64.min ≤ a ∧ a ≤ IntKind.i64.max := by simpa [Lit.wf] using h
  have h3 : IntKind.i64.max = 9223372036854775807 := by decide
  omega
theorem row_step {row : List Lit} (h : Frame.RowOf [.int .i64, .text, .text, .int .i64] row) (hS : ∀ l ∈ row, ∀ s, l = .string s → s.length ≤ 140737488351232) : (stpOf row).Fits ∧ (row.getD 0 .nil).value = .int .i64 (stpOf row).D ∧ (row.getD 1 .nil).value = .string (stpOf row).name ∧ (row.getD 2 .nil).value = .string (stpOf row).x ∧ (row.getD 3 .nil).value = .int .i64 (stpOf row).N := by
  obtain ⟨hl, hf⟩ := h
  match row, hl, hf, hS with
  | [a, b, c, d], _, hf, hS =>
    obtain ⟨n, rfl, hn⟩ := hf 0 (.int .i64) a rfl rfl
    obtain ⟨s, rfl, hs⟩ := hf 1 .text b rfl rfl
    obtain ⟨t, rfl, ht⟩ := hf 2 .text c rfl rfl
    obtain ⟨m, rfl, hm⟩ := hf 3 (.int .i64) d rfl rfl
    have l1 : s.size ≤ 140737488351232 := by have := hS (.string s.data.toList) (by simp) _ rfl; simpa using this
    have l2 : t.size ≤ 140737488351232 := by have := hS (.string t.data.toList) (by simp) _ rfl; simpa using this
    exact ⟨⟨by show s.size ≤ _; omega, by show t.size ≤ _; omega, int_le hm⟩, rfl, rfl, rfl, rfl⟩
theorem rows_steps {w : World} {x : Addr} {len cap : Nat} {z : List (List Lit)} (hl : len ≤ cap) (hz : z.length = cap) (hr : ∀ row ∈ z, Frame.RowOf [.int .i64, .text, .text, .int .i64] row) (hS : Frame.Short z)
    (hc : ∀ i, i < cap → ∀ j, j < 4 → w.cell? (x.add (i * 4 + j)) = some ((z.getD i []).getD j .nil).value) (h0 : 0 < len) :
    ∃ g o, x = ⟨g, o, none⟩ ∧ g < w.heap.size ∧ ((z.take len).map stpOf).length = len ∧ Steps w g o ((z.take len).map stpOf) := by
  obtain ⟨g, o, spot⟩ := x
  have hspot : spot = none := by simpa [Addr.add] using World.cell?_spot (hc 0 (by omega) 0 (by omega))
  subst hspot
  have hb : g < w.heap.size := World.block_lt_of_cell? _ _ (by simpa [Addr.add] using hc 0 (by omega) 0 (by omega))
  have hlen : ((z.take len).map stpOf).length = len := by rw [List.length_map, List.length_take]; omega
  refine ⟨g, o, rfl, hb, hlen, fun i hi => ?_⟩
  have hi' : i < len := by omega
  have hiz : i < z.length := by omega
  have e : ((z.take len).map stpOf)[i] = stpOf z[i] := by simp
  rw [e]
  have hg : z.getD i [] = z[i] := by simp [List.getD, hiz]
  obtain ⟨hF, v0, v1, v2, v3⟩ := row_step (hr z[i] (List.getElem_mem hiz)) (hS z[i] (List.getElem_mem hiz))
  have hcell : ∀ j, j < 4 → w.cell? ⟨g, o + (i * 4 + j), none⟩ = some (z[i].getD j .nil).value := fun j hj => by
    have := hc i (by omega) j hj
    rw [hg] at this
    rw [← Go.WideShapes.add_plain]
    exact this
  refine ⟨⟨?_, ?_, ?_, ?_⟩, hF⟩
  · have := hcell 0 (by omega); rw [v0] at this; exact this
  · have := hcell 1 (by omega); rw [v1] at this; exact this
  · have := hcell 2 (by omega); rw [v2] at this; exact this
  · have := hcell 3 (by omega); rw [v3] at this; exact this
end DiskP
end Go.Proofs.YtpmbokklpidohaaGreatDoor
