/-
  Package fold: a state as its cells hold it; New, and the calls that ask a state's accounts and teams.
-/
import Derived.Test.YtbjifikbfagdjaaGreatDoorStrB
import Derived.WalkKit
import Derived.Test.YtbjifikbfagdjaaGreatDoorTextRow
import Derived.Maps.OwnSet
import Derived.Laws.Cover3
import Derived.Maps.RangeWalk
import Derived.Maps.AppendAt
import Derived.Sort.KeysCollected
namespace Go.Proofs.YtbjifikbfagdjaaGreatDoor
open Go.RowKit Go.Maps Go.Sort
namespace FoldC
open StrC TextR
set_option linter.unusedSimpArgs false
set_option linter.unusedVariables false
set_option maxRecDepth 100000

abbrev pS (n : Nat) : Value := .pointer (some ⟨n, 0, none⟩)
abbrev stL (h : Int) (m1 m2 m3 m4 m5 : Nat) : List Value := [.int .i64 h, .map (some m1), .map (some m2), .map (some m3), .map (some m4), .map (some m5)]
abbrev stO (h : Int) (m1 m2 m3 m4 m5 : Nat) : Obj := .cells (stL h m1 m2 m3 m4 m5).toArray 84
theorem st_cells {h : Int} {m1 m2 m3 m4 m5 p : Nat} {W : World} (hh : W.heap[p]? = some (stO h m1 m2 m3 m4 m5)) : W.cell? ⟨p, 0, none⟩ = some (.int .i64 h) ∧ W.cell? ⟨p, 1, none⟩ = some (.map (some m1)) ∧ W.cell? ⟨p, 2, none⟩ = some (.map (some m2)) ∧ W.cell? ⟨p, 3, none⟩ = some (.map (some m3)) ∧ W.cell? ⟨p, 4, none⟩ = some (.map (some m4)) ∧ W.cell? ⟨p, 5, none⟩ = some (.map (some m5)) := by
  refine ⟨?_, ?_, ?_, ?_, ?_, ?_⟩ <;> simp [World.cell?, hh]
/-- how the sum of a token reads; how the block of a set -/
noncomputable abbrev RA : Value → Option (DataW Unit × List MemPlace) := plainElem Tryz.prog 29
def eM : Value → Option (DataW Unit × List MemPlace)
  | .map none => some (.nil, [])
  | .map (some b) => some (.lit (.int .i64 b), [])
  | _ => none
abbrev keyS (l : List UInt8) : Lit := .string l
theorem keyed : Keyed Tryz.prog 9 := string_keyed Tryz.underlying9
theorem keyOfS {l : List UInt8} (h : l.length ≤ maxLen) : keyOf Tryz.prog 9 (.string (str l)) = some (keyS l) := by
  have := Go.WideMaps.keyOf_string_mk (P := Tryz.prog) (s := str l) Tryz.underlying9 (by rw [str_size]; exact h)
  simpa [str] using this
theorem zeroU (w : World) : (zeroValue 29).run Tryz.prog w = .ok (.int .u64 0) w := by kernel_rfl
theorem zeroM (w : World) : (zeroValue 114).run Tryz.prog w = .ok (.map none) w := by kernel_rfl
/-- a state: its accounts and teams as the maps read -/
structure StA (w : World) (s : Nat) (h : Int) (m1 m2 m3 m4 m5 n1 n2 : Nat) (D1 D2 : DataW Unit) : Prop where
  st : w.heap[s]? = some (stO h m1 m2 m3 m4 m5)
  acc : w.ownsMap Tryz.prog 9 RA m1 n1 D1
  tea : w.ownsMap Tryz.prog 9 eM m2 n2 D2
theorem new_any (w : World) : Calls Tryz.prog 17 #[] w fun e w' => e = .returned (pS (w.heap.size + 5)) ∧ w' = ((((((w.alloc (.map #[] 0)).alloc (.map #[] 0)).alloc (.map #[] 0)).alloc (.map #[] 0)).alloc (.map #[] 0)).alloc (stO 0 w.heap.size (w.heap.size + 1) (w.heap.size + 2) (w.heap.size + 3) (w.heap.size + 4))) := by
  have hmm := @run_makeMap Tryz.prog
  go_enter Tryz.func17, Tryz.ntmps17
  go_wp2_with fail
  go_ret
  exact ⟨by simp, by simp⟩
theorem there_st {w : World} {s : Nat} {h : Int} {m1 m2 m3 m4 m5 : Nat} (hh : w.heap[s]? = some (stO h m1 m2 m3 m4 m5)) : Calls Tryz.prog 56 #[pS s] w fun e w' => e = .returned (.bool true) ∧ w = w' := by
  obtain ⟨c0, c1, c2, c3, c4, c5⟩ := st_cells hh
  clear hh
  have hmn : ∀ w : World, (binOp .neq 78 (.map (some m1)) (.map none)).run Tryz.prog w = .ok (.bool true) w := fun w => run_neq_map_nil w 78 9 29 (some m1) Tryz.underlying78
  go_enter Tryz.func56, Tryz.ntmps56
  go_wp2_with fail
  go_ret
  exact ⟨rfl, rfl⟩
theorem there_nil (w : World) : Calls Tryz.prog 56 #[.pointer none] w fun e w' => e = .returned (.bool false) ∧ w = w' := by
  go_enter Tryz.func56, Tryz.ntmps56
  go_wp2_with fail
  go_ret
  exact ⟨rfl, rfl⟩
theorem isacc_any {w : World} {s : Nat} {h : Int} {m1 m2 m3 m4 m5 n1 n2 : Nat} {D1 D2 : DataW Unit} (hs : StA w s h m1 m2 m3 m4 m5 n1 n2 D1 D2) (l : List UInt8) (hl : l.length ≤ maxLen) :
    Calls Tryz.prog 59 #[pS s, .string (str l)] w fun e w' => e = .returned (.bool (Maps.has D1 (keyS l))) ∧ w = w' := by
  obtain ⟨c0, c1, c2, c3, c4, c5⟩ := st_cells hs.st
  have HS := Lib.hid hs
  have HK := Lib.hid (keyOfS hl)
  clear hs hl
  go_enter Tryz.func59, Tryz.ntmps59
  go_wp2_with (at_lookup; refine wpList_lookup_own_ok_int _ rfl _ _ 78 rfl 9 29 .u64 keyed Tryz.underlying78 Tryz.underlying29 (zeroU _) m1 n1 D1 rfl HS.out.acc _ _ rfl HK.out ?_; intro c hat hwc)
  go_ret
  exact ⟨rfl, rfl⟩
theorem ishold_any {w : World} {s : Nat} {h : Int} {m1 m2 m3 m4 m5 n1 n2 : Nat} {D1 D2 : DataW Unit} (hs : StA w s h m1 m2 m3 m4 m5 n1 n2 D1 D2) (l : List UInt8) (hl : l.length ≤ maxLen) :
    Calls Tryz.prog 100 #[pS s, .string (str l)] w fun e w' => e = .returned (.bool (Maps.has D2 (keyS l) || Maps.has D1 (keyS l))) ∧ w = w' := by
  obtain ⟨c0, c1, c2, c3, c4, c5⟩ := st_cells hs.st
  have HS := Lib.hid hs
  have HK := Lib.hid (keyOfS hl)
  have HA := Lib.hid (isacc_any hs l hl)
  clear hs hl
  generalize Maps.has D1 (keyS l) = b1 at *
  obtain ⟨b2, hb2⟩ : ∃ b2, Maps.has D2 (keyS l) = b2 := ⟨_, rfl⟩
  rw [hb2]
  have HB2 := Lib.hid hb2
  clear hb2
  cases b2 with
  | true =>
    go_enter Tryz.func100, Tryz.ntmps100
    go_wp2_with (at_lookup; refine wpList_lookup_own_ok _ rfl _ _ 79 rfl 9 114 keyed Tryz.underlying79 eM (zeroM _) .nil [] rfl m2 n2 D2 rfl HS.out.tea _ _ rfl HK.out ?_; intro v ps hv; clear hv; rw [HB2.out])
    go_ret
    exact ⟨rfl, rfl⟩
  | false =>
    go_enter Tryz.func100, Tryz.ntmps100
    go_wp2_with (first | (at_lookup; refine wpList_lookup_own_ok _ rfl _ _ 79 rfl 9 114 keyed Tryz.underlying79 eM (zeroM _) .nil [] rfl m2 n2 D2 rfl HS.out.tea _ _ rfl HK.out ?_; intro v ps hv; clear hv; rw [HB2.out]) | (go_at_call 59; refine HA.out.mono ?_; rintro e w' ⟨rfl, rfl⟩) | fail)
    go_ret
    exact ⟨by simp, rfl⟩
end FoldC
end Go.Proofs.YtbjifikbfagdjaaGreatDoor
