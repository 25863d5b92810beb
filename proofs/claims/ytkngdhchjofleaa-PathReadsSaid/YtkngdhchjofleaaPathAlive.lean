/-
  The document's examples of layer 11 hold: yanklinelaw11.alive answers true, and writes nothing that was there.
-/
import Derived.Test.YtkngdhchjofleaaPathP
namespace Go.Proofs.Ytkngdhchjofleaa
open Go.RowKit
namespace PathC
open PathM StrC
open VerM (B val dig)
set_option linter.unusedSimpArgs false
set_option linter.unusedVariables false

theorem log_one : mkE (logN 1) = .returned (.tuple #[.string ⟨#[108, 111, 103, 47, 48, 48, 48, 48, 48, 48, 48, 49]⟩, .int .i64 0]) := by kernel_rfl
theorem old_cells {w : World} {g : Nat} {k n s p : Int} {nm : ByteArray} (h : w.heap[g]? = some (.cells #[.int .u8 k, .int .i64 n, .int .u64 s, .int .u32 p, .string nm] 29)) (o : Obj) :
    (w.alloc o).cell? ⟨g, 0, none⟩ = some (.int .u8 k) ∧ (w.alloc o).cell? ⟨g, 1, none⟩ = some (.int .i64 n) ∧ (w.alloc o).cell? ⟨g, 2, none⟩ = some (.int .u64 s) ∧ (w.alloc o).cell? ⟨g, 3, none⟩ = some (.int .u32 p) ∧ (w.alloc o).cell? ⟨g, 4, none⟩ = some (.string nm) := by
  have hl : g < w.heap.size := (Array.getElem?_eq_some_iff.1 h).1
  have e : ∀ i v, w.cell? ⟨g, i, none⟩ = some v → (w.alloc o).cell? ⟨g, i, none⟩ = some v := fun i v hv => by rw [World.cell?_alloc_old _ _ _ (Nat.ne_of_lt hl)]; exact hv
  refine ⟨e _ _ ?_, e _ _ ?_, e _ _ ?_, e _ _ ?_, e _ _ ?_⟩ <;> simp [World.cell?, h]
def ffB : B := [98, 108, 111, 98, 47, 48, 48, 48, 48, 48, 48, 48, 48, 48, 48, 48, 48, 48, 48, 102, 102, 45, 50]
def l1B : B := [108, 111, 103, 47, 49]
theorem read_ff11 : readP NameM.isN ffB = some ⟨2, 0, 255, 2, []⟩ := by
  have e : ffB = blobN 255 2 := by kernel_rfl
  rw [e]; exact read_blobN NameM.isN 255 2 (by decide) (by decide) (by decide)
theorem read_l1 : readP NameM.isN l1B = none := by
  rw [read_log (by decide)]; decide +kernel
set_option maxHeartbeats 1000000 in
theorem alive_any (w : World) : Calls Try.prog 7 #[] w fun e w' => e = .returned (.bool true) ∧ Below w.heap.size w w' := by
  have H1 := Lib.hid (pLog_any 1 w (by decide) (by decide))
  rw [log_one] at H1
  have H2 : Hid (∀ w, Calls Try.prog 4 #[.string ⟨#[98, 108, 111, 98, 47, 48, 48, 48, 48, 48, 48, 48, 48, 48, 48, 48, 48, 48, 48, 102, 102, 45, 50]⟩] w fun e w' => e = .returned (.tuple #[.agg #[.int .u8 2, .int .i64 0, .int .u64 255, .int .u32 2, .string ⟨#[]⟩], .int .i64 0]) ∧ Below w.heap.size w w') := Lib.hid (fun w => (pRead_any ffB w (by decide)).mono fun e w' h => ⟨by rw [h.1, read_ff11]; rfl, h.2⟩)
  have H3 : Hid (∀ w, Calls Try.prog 4 #[.string ⟨#[108, 111, 103, 47, 49]⟩] w fun e w' => e = .returned (.tuple #[.agg #[.int .u8 0, .int .i64 0, .int .u64 0, .int .u32 0, .string ⟨#[]⟩], .int .i64 110]) ∧ Below w.heap.size w w') := Lib.hid (fun w => (pRead_any l1B w (by decide)).mono fun e w' h => ⟨by rw [h.1, read_l1]; rfl, h.2⟩)
  go_enter Try.func7, Try.ntmps7
  go_wp2_with (first
    | (go_at_call 21; refine H1.out.mono ?_; rintro e w1 ⟨rfl, hb1⟩)
    | (go_at_call 4; with_reducible refine (H2.out _).mono ?_; rintro e w2 ⟨rfl, hb2⟩)
    | (go_at_call 4; with_reducible refine (H3.out _).mono ?_; rintro e w3 ⟨rfl, hb3⟩; have r3 := (hb3.block w2.heap.size (by simp)).trans (heap_alloc_new w2 (.cells #[.int .u8 2, .int .i64 0, .int .u64 255, .int .u32 2, .string ⟨#[]⟩] 29)); obtain ⟨q0, q1, q2, q3, q4⟩ := old_cells r3 (.cells #[.int .u8 0, .int .i64 0, .int .u64 0, .int .u32 0, .string ⟨#[]⟩] 29); have HB3 := Lib.hid hb3; clear hb3 r3))
  go_ret
  have b2 : Below w.heap.size w (w2.alloc (.cells #[.int .u8 2, .int .i64 0, .int .u64 255, .int .u32 2, .string ⟨#[]⟩] 29)) := (hb1.trans (hb2.mono hb1.size)).alloc (by have := hb1.size; have := hb2.size; omega) _
  have b3 := b2.trans (HB3.out.mono b2.size)
  exact ⟨rfl, b3.alloc b3.size _⟩
end PathC
end Go.Proofs.Ytkngdhchjofleaa
