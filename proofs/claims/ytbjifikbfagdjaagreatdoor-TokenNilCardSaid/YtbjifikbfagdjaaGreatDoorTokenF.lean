/-
  Package token: whether a token is free.
-/
import Derived.Test.YtbjifikbfagdjaaGreatDoorTokenW
namespace Go.Proofs.YtbjifikbfagdjaaGreatDoor
open Go.RowKit Go.Maps Go.Sort
namespace TokC
open StrC EvF EvC EvA TextR EvN FoldC
open ErrC (IsFault Vars ErrType)
set_option linter.unusedSimpArgs false
set_option linter.unusedVariables false
set_option maxRecDepth 100000

theorem errT_gr {w w' : World} (h : ErrType w) (hb : Below w.heap.size w w') : ErrType w' := by
  unfold ErrType; rw [hb.cell (World.block_lt_of_cell? _ _ h)]; exact h
abbrev ptO : Obj := .cells #[.pointer none] 68
theorem pt_cell (w : World) : (w.alloc ptO).cell? ⟨w.heap.size, 0, none⟩ = some (.pointer none) := by rw [World.cell?_alloc_at _ _ _ _ rfl]; rfl
theorem free_nil (l : List UInt8) (w : World) (hv : ErrType w) : Calls Tryz.prog 13 #[.pointer none, .string (str l)] w (FaultP (.bool false) 1 w) := by
  have HW := Lib.hid (who_nil l w)
  have HV := Lib.hid hv
  clear hv
  go_enter Tryz.func13, Tryz.ntmps13
  go_wp2_with fail
  refine HW.out.mono ?_
  rintro r w1 ⟨f, rfl, hf1, hf2, hb1⟩
  have hz := heap_alloc_new w1 ptO
  have hfl : f < w1.heap.size := (Array.getElem?_eq_some_iff.1 hf1).1
  have hf3 : (w1.alloc ptO).heap[f]? = some (fO 1 ⟨#[]⟩ (-1)) := by rw [heap_alloc_old _ _ hfl]; exact hf1
  have HA := Lib.hid (ErrC.as_found ⟨f, 0, none⟩ ⟨w1.heap.size, 0, none⟩ (.pointer none) (w1.alloc ptO) (errT_gr (errT_gr HV.out hb1) (alW w1 ptO)) (pt_cell w1) (no_frozen hz 0))
  have HF1 := Lib.hid hf1
  have HF3 := Lib.hid hf3
  have HF2 := Lib.hid hf2
  have HFL := Lib.hid hfl
  have HB1 := Lib.hid hb1
  clear hf1 hf2 hb1 hz hfl hf3
  go_wp2_with fail
  refine HA.out.mono ?_
  rintro r w2 ⟨rfl, ht, hb2⟩
  have hblk : w2.heap[f]? = some (fO 1 ⟨#[]⟩ (-1)) := (hb2.block f HFL.out).trans HF3.out
  obtain ⟨d0, d1, d2, d3⟩ := fault_is hblk
  have HBK := Lib.hid hblk
  have HB2 := Lib.hid (HB1.out.trans (((alW w1 ptO).trans (hb2.mono (Nat.le_refl _))).mono HB1.out.size))
  clear hb2 hblk
  go_wp2_with fail
  go_ret2
  exact ⟨f, rfl, HBK.out, HF2.out, HB2.out⟩
/-- is it nobody's? -/
def freeO : Option (List UInt8) → Bool
  | some _ => false
  | none => true
theorem free_of {w : World} {s : Nat} {l : List UInt8} {o : Option (List UInt8)} (hw : Calls Tryz.prog 11 #[pS s, .string (str l)] w (WhoE o w)) (hv : ErrType w) :
    Calls Tryz.prog 13 #[pS s, .string (str l)] w fun r w' => r = .returned (.tuple #[.bool (freeO o), .nilIface]) ∧ Below w.heap.size w w' := by
  have HW := Lib.hid hw
  have HV := Lib.hid hv
  clear hv hw
  cases o with
  | some k =>
    go_enter Tryz.func13, Tryz.ntmps13
    go_wp2_with fail
    refine HW.out.mono ?_
    rintro r w1 ⟨rfl, hb1⟩
    have HB1 := Lib.hid (chW hb1 (alW w1 ptO))
    have HN := Lib.hid (ErrC.as_nil (.iface 70 (.pointer (some ⟨w1.heap.size, 0, none⟩))) (w1.alloc ptO))
    clear hb1
    go_wp2_with fail
    refine HN.out.mono ?_
    rintro r w2 ⟨rfl, rfl⟩
    go_wp2_with fail
    go_ret2
    exact ⟨rfl, HB1.out⟩
  | none =>
    go_enter Tryz.func13, Tryz.ntmps13
    go_wp2_with fail
    refine HW.out.mono ?_
    rintro r w1 ⟨f, rfl, hf1, hf2, hb1⟩
    have hz := heap_alloc_new w1 ptO
    have hfl : f < w1.heap.size := (Array.getElem?_eq_some_iff.1 hf1).1
    have hf3 : (w1.alloc ptO).heap[f]? = some (fO 6 ⟨#[]⟩ (-1)) := by rw [heap_alloc_old _ _ hfl]; exact hf1
    have HA := Lib.hid (ErrC.as_found ⟨f, 0, none⟩ ⟨w1.heap.size, 0, none⟩ (.pointer none) (w1.alloc ptO) (errT_gr (errT_gr HV.out hb1) (alW w1 ptO)) (pt_cell w1) (no_frozen hz 0))
    have HF3 := Lib.hid hf3
    have HFL := Lib.hid hfl
    have HB1 := Lib.hid hb1
    clear hf1 hf2 hb1 hz hfl hf3
    go_wp2_with fail
    refine HA.out.mono ?_
    rintro r w2 ⟨rfl, ht, hb2⟩
    have hblk : w2.heap[f]? = some (fO 6 ⟨#[]⟩ (-1)) := (hb2.block f HFL.out).trans HF3.out
    obtain ⟨d0, d1, d2, d3⟩ := fault_is hblk
    have HB2 := Lib.hid (HB1.out.trans (((alW w1 ptO).trans (hb2.mono (Nat.le_refl _))).mono HB1.out.size))
    clear hb2 hblk
    go_wp2_with fail
    go_ret2
    exact ⟨rfl, HB2.out⟩
end TokC
end Go.Proofs.YtbjifikbfagdjaaGreatDoor
