/-
  Reading nothing: package code's reader at no bytes, package event's reading of it, the fault.
-/
import Derived.Test.YtnkednjklfpblaaGreatDoorEventK
import Derived.Test.YtnkednjklfpblaaGreatDoorEventW
import Derived.Test.YtnkednjklfpblaaGreatDoorEventTwin
import Derived.Test.YtnkednjklfpblaaGreatDoorVerCmp
import Derived.Test.YtnkednjklfpblaaGreatDoorStrB
import Derived.Deep.RegionHeld3
import Derived.Laws.CopyOwn
namespace Go.Proofs.YtnkednjklfpblaaGreatDoor
open Go.RowKit Go.Sort
namespace EvN
open StrC EvF EvC EvA
set_option linter.unusedSimpArgs false
set_option linter.unusedVariables false

abbrev rdO : Obj := .cells #[.bool true, .string ⟨#[]⟩, .int .i64 0] 90
abbrev nilB : Obj := .cells #[.int .i64 20, .string ⟨#[]⟩, .int .i64 0, .nilIface] 65
theorem setCell_is {w : World} {g i : Nat} {cs : Array Value} {t : TypeId} {fr : Nat × Nat} {v : Value} (h : w.heap[g]? = some (.cells cs t fr)) (hv : cs.setIfInBounds i v = cs) : Below w.heap.size w (w.setCell ⟨g, i, none⟩ v) :=
  ⟨rfl, rfl, rfl, by simp, fun k hk => by
    by_cases hkg : k = g
    · subst hkg; rw [set_row h, hv, h]
    · exact set_else i v hkg⟩
theorem rd_cells {w : World} {b : Nat} (h : w.heap[b]? = some rdO) : w.cell? ⟨b, 0, none⟩ = some (.bool true) ∧ w.cell? ⟨b, 1, none⟩ = some (.string ⟨#[]⟩) ∧ w.cell? ⟨b, 2, none⟩ = some (.int .i64 0) := by
  refine ⟨?_, ?_, ?_⟩ <;> simp [World.cell?, h]
theorem new_no (w : World) : Calls Tryz.prog 18 #[.string ⟨#[]⟩] w fun e w' => e = .returned (.pointer (some ⟨w.heap.size, 0, none⟩)) ∧ w' = w.alloc rdO := by
  go_enter Tryz.func18, Tryz.ntmps18
  go_wp2_with fail
  go_ret
  exact ⟨rfl, rfl⟩
theorem at_no (b : Nat) (w : World) (h : w.heap[b]? = some rdO) : Calls Tryz.prog 22 #[.pointer (some ⟨b, 0, none⟩)] w fun e w' => e = .returned (.int .i64 0) ∧ w = w' := by
  obtain ⟨-, -, h1⟩ := rd_cells h
  clear h
  go_enter Tryz.func22, Tryz.ntmps22
  go_wp2_with fail
  go_ret
  exact ⟨rfl, rfl⟩
theorem rest_no (b : Nat) (w : World) (h : w.heap[b]? = some rdO) : Calls Tryz.prog 61 #[.pointer (some ⟨b, 0, none⟩)] w fun e w' => e = .returned (.string ⟨#[]⟩) ∧ Below w.heap.size w w' := by
  obtain ⟨-, h2, h1⟩ := rd_cells h
  have hcut : ∀ w : World, (Instr.slice 9 (.string ⟨#[]⟩) (some (.int .i64 0)) none none).run Tryz.prog w = .ok (.string ⟨#[]⟩) w := by
    intro w
    rw [run_slice_string_l w 9 ⟨#[]⟩ Tryz.underlying9 .i64 0 (by decide) (by decide)]
    rfl
  clear h
  go_enter Tryz.func61, Tryz.ntmps61
  go_wp2_with fail
  go_quiet (fail)
  go_wp2_with fail
  go_ret
  exact ⟨rfl, ⟨rfl, rfl, rfl, Nat.le_refl _, fun _ _ => rfl⟩⟩
theorem piece_no (b : Nat) (w : World) (h : w.heap[b]? = some rdO) : Calls Tryz.prog 73 #[.pointer (some ⟨b, 0, none⟩), .int .u64 1] w fun e w' => e = .returned (.tuple #[.string ⟨#[]⟩, .int .i64 20]) ∧ Below w.heap.size w w' := by
  have HR := Lib.hid (rest_no b w h)
  clear h
  go_enter Tryz.func73, Tryz.ntmps73
  go_wp2_with fail
  refine HR.out.mono ?_
  rintro e w1 ⟨rfl, hb⟩
  go_wp2_with fail
  go_ret2
  exact ⟨rfl, hb⟩
def endN (n : Nat) : Value := .func (.func 81) #[] #[.pointer (some ⟨n, 0, none⟩), .pointer (some ⟨n + 1, 0, none⟩)]
theorem begin_no (b : Nat) (w : World) (h : w.heap[b]? = some rdO) :
    Calls Tryz.prog 60 #[.pointer (some ⟨b, 0, none⟩)] w fun e w' => e = .returned (endN w.heap.size) ∧ w' = (w.alloc (.cells #[.pointer (some ⟨b, 0, none⟩)] 52)).alloc (.cells #[.int .i64 0] 3) := by
  have HA := Lib.hid (at_no b (w.alloc (.cells #[.pointer (some ⟨b, 0, none⟩)] 52)) ((alW w _).block b (Array.getElem?_eq_some_iff.1 h).1 |>.trans h))
  clear h
  go_enter Tryz.func60, Tryz.ntmps60
  go_wp2_with fail
  refine HA.out.mono ?_
  rintro e w' ⟨rfl, rfl⟩
  go_wp2_with fail
  go_ret
  exact ⟨rfl, rfl⟩
theorem end_no (n b : Nat) (w : World) (hc : w.cell? ⟨n, 0, none⟩ = some (.pointer (some ⟨b, 0, none⟩))) (hf : w.cell? ⟨n + 1, 0, none⟩ = some (.int .i64 0)) (h : w.heap[b]? = some rdO) :
    Calls Tryz.prog 81 #[.int .i64 20, .pointer (some ⟨n, 0, none⟩), .pointer (some ⟨n + 1, 0, none⟩)] w fun e w' =>
      e = .returned (.iface 63 (.pointer (some ⟨w.heap.size, 0, none⟩))) ∧ Below w.heap.size w w' ∧ w'.heap[w.heap.size]? = some nilB := by
  obtain ⟨h1, -, h2⟩ := rd_cells h
  have h3 := no_frozen h 2
  have HB := Lib.hid (setCell_is (i := 2) (v := .int .i64 0) h rfl)
  clear h
  go_enter Tryz.func81, Tryz.ntmps81
  go_wp2_with fail
  go_ret
  refine ⟨by simp, HB.out.alloc (by simp) _, ?_⟩
  have := heap_alloc_new (w.setCell ⟨b, 2, none⟩ (.int .i64 0)) nilB
  simpa using this
theorem byte_no (b : Nat) (w : World) (h : w.heap[b]? = some rdO) :
    Calls Tryz.prog 47 #[.pointer (some ⟨b, 0, none⟩)] w fun e w' => ∃ f, e = .returned (.tuple #[.int .u8 0, .iface 63 (.pointer (some ⟨f, 0, none⟩))]) ∧ w.heap.size ≤ f ∧ w'.heap[f]? = some nilB ∧ Below w.heap.size w w' := by
  have hb2 : Below w.heap.size w ((w.alloc (.cells #[.pointer (some ⟨b, 0, none⟩)] 52)).alloc (.cells #[.int .i64 0] 3)) := chW (alW w _) (alW _ _)
  have HG := Lib.hid (begin_no b w h)
  have HP := Lib.hid (piece_no b _ ((hb2.block b (Array.getElem?_eq_some_iff.1 h).1).trans h))
  have hs : ((w.alloc (.cells #[.pointer (some ⟨b, 0, none⟩)] 52)).alloc (.cells #[.int .i64 0] 3)).heap.size = w.heap.size + 2 := by simp
  have hk1 : ((w.alloc (.cells #[.pointer (some ⟨b, 0, none⟩)] 52)).alloc (.cells #[.int .i64 0] 3)).heap[w.heap.size]? = some (.cells #[.pointer (some ⟨b, 0, none⟩)] 52) := by rw [heap_alloc_old _ _ (by simp)]; exact heap_alloc_new w _
  have hk2 : ((w.alloc (.cells #[.pointer (some ⟨b, 0, none⟩)] 52)).alloc (.cells #[.int .i64 0] 3)).heap[w.heap.size + 1]? = some (.cells #[.int .i64 0] 3) := by have := heap_alloc_new (w.alloc (.cells #[.pointer (some ⟨b, 0, none⟩)] 52)) (.cells #[.int .i64 0] 3); simpa using this
  have HE : Hid (∀ W, Below (w.heap.size + 2) ((w.alloc (.cells #[.pointer (some ⟨b, 0, none⟩)] 52)).alloc (.cells #[.int .i64 0] 3)) W → Calls Tryz.prog 81 #[.int .i64 20, .pointer (some ⟨w.heap.size, 0, none⟩), .pointer (some ⟨w.heap.size + 1, 0, none⟩)] W fun e w' =>
      e = .returned (.iface 63 (.pointer (some ⟨W.heap.size, 0, none⟩))) ∧ Below W.heap.size W w' ∧ w'.heap[W.heap.size]? = some nilB) := Lib.hid (fun W hb => end_no w.heap.size b W (by simp [World.cell?, (hb.block w.heap.size (by omega)).trans hk1]) (by simp [World.cell?, (hb.block (w.heap.size + 1) (by omega)).trans hk2]) ((hb.block b (by have := (Array.getElem?_eq_some_iff.1 h).1; omega)).trans ((hb2.block b (Array.getElem?_eq_some_iff.1 h).1).trans h)))
  have HB2 := Lib.hid hb2
  have HS := Lib.hid hs
  clear hb2 hs hk1 hk2 h
  go_enter Tryz.func47, Tryz.ntmps47
  go_wp2_with fail
  refine HG.out.mono ?_
  rintro e w1 ⟨rfl, rfl⟩
  unfold endN
  go_wp2_with fail
  refine HP.out.mono ?_
  rintro e w2 ⟨rfl, hb⟩
  have HB3 := Lib.hid (hb.mono (Nat.le_of_eq HS.out.symm))
  clear hb
  go_wp2_with fail
  refine (HE.out _ HB3.out).mono ?_
  rintro e w3 ⟨rfl, hb4, hf⟩
  go_wp2_with fail
  go_ret2
  exact ⟨_, rfl, by have := HB3.out.size; have := HS.out; omega, hf, (HB2.out.trans (HB3.out.mono (by omega))).trans (hb4.mono (by have := HB3.out.size; have := HS.out; omega))⟩
end EvN
end Go.Proofs.YtnkednjklfpblaaGreatDoor
