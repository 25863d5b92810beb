/-
  The document's examples of layer 11 hold: yanklinelaw11.alive answers true, and writes nothing that was there.
-/
import Derived.Test.YtfbdhlpgklkjmaaGreatDoorPathP
namespace Go.Proofs.YtfbdhlpgklkjmaaGreatDoor
open Go.RowKit
namespace PathC
open PathM StrC
open VerM (B val dig)
set_option linter.unusedSimpArgs false
set_option linter.unusedVariables false

theorem log_one : mkE (logN 1) = .returned (.tuple #[.string ⟨#[108, 111, 103, 47, 48, 48, 48, 48, 48, 48, 48, 49]⟩, .int .i64 0]) := by kernel_rfl
theorem old_cells {w : World} {g : Nat} {k n s p : Int} {nm : ByteArray} (h : w.heap[g]? = some (.cells #[.int .u8 k, .int .i64 n, .int .u64 s, .int .u32 p, .string nm] 75)) (o : Obj) :
    (w.alloc o).cell? ⟨g, 0, none⟩ = some (.int .u8 k) ∧ (w.alloc o).cell? ⟨g, 1, none⟩ = some (.int .i64 n) ∧ (w.alloc o).cell? ⟨g, 2, none⟩ = some (.int .u64 s) ∧ (w.alloc o).cell? ⟨g, 3, none⟩ = some (.int .u32 p) ∧ (w.alloc o).cell? ⟨g, 4, none⟩ = some (.string nm) := by
  have hl : g < w.heap.size := (Array.getElem?_eq_some_iff.1 h).1
  have e : ∀ i v, w.cell? ⟨g, i, none⟩ = some v → (w.alloc o).cell? ⟨g, i, none⟩ = some v := fun i v hv => by rw [World.cell?_alloc_old _ _ _ (Nat.ne_of_lt hl)]; exact hv
  refine ⟨e _ _ ?_, e _ _ ?_, e _ _ ?_, e _ _ ?_, e _ _ ?_⟩ <;> simp [World.cell?, h]
def ffB : B := [98, 108, 111, 98, 47, 48, 48, 48, 48, 48, 48, 48, 48, 48, 48, 48, 48, 48, 48, 102, 102, 45, 50]
def l1B : B := [108, 111, 103, 47, 49]
theorem read_ff11 : readP NameM.isN ffB = some ⟨2, 0, 255, 2, []⟩ := by
  have e : ffB = blobN 255 2 := by kernel_rfl
  rw [e]; exact read_blobN NameM.isN 255 2 (by decide) (by decide) (by decide)
theorem read_l1 : readP NameM.isN l1B = none := by
  rw [read_log (by decide)]; decide +kernel
end PathC
end Go.Proofs.YtfbdhlpgklkjmaaGreatDoor
