/-
  errors.Is where a *api.Fault has another one under it (nothing under that): by its own number, by the other's. (Beside it: the texts of ErrIsNo that speak of numbers alone, so that a seat without disks has them.)
-/
import Derived.Test.YtbjifikbfagdjaaGreatDoorErrIs
import Derived.WalkKit
import Derived.Lib.Hide
import Derived.Deep.RegionHeld3
namespace Go.Proofs.YtbjifikbfagdjaaGreatDoor
open Go.RowKit Go.Extern.Stop Go.Stop Go.Extern
namespace ErrU
open ErrC
theorem no_is_en (v : Value) (xT : TypeId) (w : World) : (Instr.typeAssert (.iface 27 v) xT 158 true).run Tryz.prog w = .ok (.tuple #[.nilIface, .bool false]) w := run_typeAssert_lacksB Tryz.underlying158 (by kernel_rfl) (by kernel_rfl) v xT w
theorem no_unwrap_en (v : Value) (xT : TypeId) (w : World) : (Instr.typeAssert (.iface 27 v) xT 134 true).run Tryz.prog w = .ok (.tuple #[.nilIface, .bool false]) w := run_typeAssert_lacksB Tryz.underlying134 (by kernel_rfl) (by kernel_rfl) v xT w
theorem no_unwraps_en (v : Value) (xT : TypeId) (w : World) : (Instr.typeAssert (.iface 27 v) xT 136 true).run Tryz.prog w = .ok (.tuple #[.nilIface, .bool false]) w := run_typeAssert_lacksB Tryz.underlying136 (by kernel_rfl) (by kernel_rfl) v xT w

theorem is_number_no (c k : Int) (hck : c ≠ k) (w : World) :
    Calls Tryz.prog 52 #[.iface 27 (.int .i64 c), .iface 27 (.int .i64 k), .bool true] w fun e w' => e = .returned (.bool false) ∧ w = w' := by
  have heq := eql_errno c k
  have hb : (c == k) = false := beq_eq_false_iff_ne.2 hck
  have y1 := no_is_en
  have y2 := no_unwrap_en
  have y3 := no_unwraps_en
  go_enter Tryz.func52, Tryz.ntmps52
  go_wp2_with fail
  refine wp_loop_rounds 1 ?_
  rw [rounds_succ]
  go_wp2
  go_ret
  exact ⟨rfl, rfl⟩

set_option maxHeartbeats 1000000 in
theorem is_fault_no (b o : Nat) (c k : Int) (hck : c ≠ k) (w : World) (hc : w.cell? ⟨b, o, none⟩ = some (.int .i64 c)) (hu : w.cell? ⟨b, o + 3, none⟩ = some .nilIface) :
    Calls Tryz.prog 52 #[.iface 68 (.pointer (some ⟨b, o, none⟩)), .iface 27 (.int .i64 k), .bool true] w fun e w' => e = .returned (.bool false) ∧ w' = w.alloc (.cells #[.iface 27 (.int .i64 c)] 36) := by
  have y4 := m_unwrap
  have y5 := no_is
  have y6 := no_unwrap
  have y7 := has_unwraps
  have y8 := run_eql_iface_types (P := Tryz.prog) 68 27 (.pointer (some ⟨b, o, none⟩)) (.int .i64 k) Tryz.underlying36 (by decide)
  go_enter Tryz.func52, Tryz.ntmps52
  go_wp2_with fail
  refine wp_loop_rounds 1 ?_
  rw [rounds_succ]
  go_wp2_with (go_at_call 358; refine (unwrap_one _ _ _ _ hc hu).mono ?_; rintro e w' ⟨rfl, rfl⟩)
  refine wp_loop_rounds 2 ?_
  rw [rounds_succ]
  go_wp2_with (go_at_call 52; refine (is_number_no _ _ hck _).mono ?_; rintro e w' ⟨rfl, rfl⟩)
  rw [rounds_succ]
  go_wp2_with fail
  go_ret
  exact ⟨rfl, rfl⟩

theorem is_one_no (b o : Nat) (c k : Int) (hck : c ≠ k) (w : World) (hc : w.cell? ⟨b, o, none⟩ = some (.int .i64 c)) (hu : w.cell? ⟨b, o + 3, none⟩ = some .nilIface) :
    Calls Tryz.prog 34 #[.iface 68 (.pointer (some ⟨b, o, none⟩)), .iface 27 (.int .i64 k)] w fun e w' => e = .returned (.bool false) ∧ w' = w.alloc (.cells #[.iface 27 (.int .i64 c)] 36) := by
  have x1 := @run_callFunc_extern Tryz.prog 51 _ Extern.ReflectliteType.typeOf Tryz.func51 (by kernel_rfl) (by kernel_rfl) (by kernel_rfl) (by kernel_rfl)
  have y1 := to_en
  have y2 := cmp_en
  have y3 := m_cmp
  go_enter Tryz.func34, Tryz.ntmps34
  go_wp2_with (go_at_call 52; refine (is_fault_no _ _ _ _ hck _ hc hu).mono ?_; rintro e w' ⟨rfl, rfl⟩)
  go_ret
  exact ⟨rfl, rfl⟩

abbrev fV (b : Nat) : Value := .iface 68 (.pointer (some ⟨b, 0, none⟩))
theorem cell_onU {w : World} {b o : Nat} {v : Value} (O : Obj) (h : w.cell? ⟨b, o, none⟩ = some v) : (w.alloc O).cell? ⟨b, o, none⟩ = some v := by
  rw [World.cell?_alloc_old _ _ _ (Nat.ne_of_lt (World.block_lt_of_cell? _ _ h))]; exact h
theorem unwrap_two (b : Nat) (c : Int) (t : TypeId) (u : Value) (w : World) (hc : w.cell? ⟨b, 0, none⟩ = some (.int .i64 c)) (hu : w.cell? ⟨b, 3, none⟩ = some (.iface t u)) :
    Calls Tryz.prog 358 #[.pointer (some ⟨b, 0, none⟩)] w fun e w' => e = .returned (.slice (some ⟨w.heap.size, 0, none⟩) 2 2) ∧ w'.cell? ⟨w.heap.size, 0, none⟩ = some (.iface 27 (.int .i64 c)) ∧ w'.cell? ⟨w.heap.size, 1, none⟩ = some (.iface t u) ∧ Below w.heap.size w w' := by
  go_enter Tryz.func358, Tryz.ntmps358
  go_wp2_with fail
  go_region_held3 (fun w' => w'.cell? ⟨b, 0, none⟩ = some (.int .i64 c) ∧ w'.cell? ⟨b, 3, none⟩ = some (.iface t u)) (first | exact ⟨hc, hu⟩ | exact ⟨cell_onU _ hc, cell_onU _ hu⟩ | fail) (first | fail)
  go_wp2_with fail
  go_ret
  have hb := (Below.refl w.heap.size w).alloc (Nat.le_refl _) (.cells #[.iface 27 (.int .i64 c), .iface t u] 36)
  refine ⟨rfl, ?_, ?_, ⟨hb.os, hb.tape, hb.output, hb.size, hb.block⟩⟩
  · show (w.alloc _).cell? _ = _
    rw [World.cell?_alloc_at _ _ _ _ rfl]; rfl
  · show (w.alloc _).cell? _ = _
    rw [World.cell?_alloc_at _ _ _ _ rfl]; rfl
set_option maxHeartbeats 1000000 in
theorem is_top (b : Nat) (c : Int) (t : TypeId) (u : Value) (w : World) (hc : w.cell? ⟨b, 0, none⟩ = some (.int .i64 c)) (hu : w.cell? ⟨b, 3, none⟩ = some (.iface t u)) :
    Calls Tryz.prog 52 #[fV b, .iface 27 (.int .i64 c), .bool true] w fun e w' => e = .returned (.bool true) ∧ Below w.heap.size w w' := by
  have y4 := m_unwrap
  have y5 := no_is
  have y6 := no_unwrap
  have y7 := has_unwraps
  have y8 := run_eql_iface_types (P := Tryz.prog) 68 27 (.pointer (some ⟨b, 0, none⟩)) (.int .i64 c) Tryz.underlying36 (by decide)
  go_enter Tryz.func52, Tryz.ntmps52
  go_wp2_with fail
  refine wp_loop_rounds 1 ?_
  rw [rounds_succ]
  go_wp2_with (go_at_call 358; refine (unwrap_two _ _ _ _ _ hc hu).mono ?_; rintro e w3 ⟨rfl, u0, u1, hb3⟩; have HB3 := Lib.hid hb3; clear hb3)
  refine wp_loop_rounds 1 ?_
  rw [rounds_succ]
  go_wp2_with (go_at_call 52; refine (is_number _ _).mono ?_; rintro e w' ⟨rfl, rfl⟩)
  go_ret
  exact ⟨rfl, HB3.out⟩
set_option maxHeartbeats 1000000 in
theorem is_under (b b2 : Nat) (c k : Int) (hck : c ≠ k) (w : World) (hc : w.cell? ⟨b, 0, none⟩ = some (.int .i64 c)) (hu : w.cell? ⟨b, 3, none⟩ = some (fV b2)) (hc2 : w.cell? ⟨b2, 0, none⟩ = some (.int .i64 k)) (hu2 : w.cell? ⟨b2, 3, none⟩ = some .nilIface) :
    Calls Tryz.prog 52 #[fV b, .iface 27 (.int .i64 k), .bool true] w fun e w' => e = .returned (.bool true) ∧ Below w.heap.size w w' := by
  have y4 := m_unwrap
  have y5 := no_is
  have y6 := no_unwrap
  have y7 := has_unwraps
  have y8 := run_eql_iface_types (P := Tryz.prog) 68 27 (.pointer (some ⟨b, 0, none⟩)) (.int .i64 k) Tryz.underlying36 (by decide)
  have HI : Hid (∀ W, Below w.heap.size w W → Calls Tryz.prog 52 #[fV b2, .iface 27 (.int .i64 k), .bool true] W fun e w' => e = .returned (.bool true) ∧ Below W.heap.size W w') := Lib.hid (fun W g =>
    (is_fault b2 0 k W ((g.cell (World.block_lt_of_cell? _ _ hc2)).trans hc2) ((g.cell (World.block_lt_of_cell? _ _ hu2)).trans hu2)).mono (by
      rintro e w' ⟨rfl, rfl⟩
      exact ⟨rfl, (Below.refl _ _).alloc (Nat.le_refl _) _⟩))
  go_enter Tryz.func52, Tryz.ntmps52
  go_wp2_with fail
  refine wp_loop_rounds 1 ?_
  rw [rounds_succ]
  go_wp2_with (go_at_call 358; refine (unwrap_two _ _ _ _ _ hc hu).mono ?_; rintro e w3 ⟨rfl, u0, u1, hb3⟩; have HB3 := Lib.hid hb3; clear hb3)
  refine wp_loop_rounds 2 ?_
  rw [rounds_succ]
  go_wp2_with (go_at_call 52; refine (is_number_no _ _ hck _).mono ?_; rintro e w' ⟨rfl, rfl⟩)
  rw [rounds_succ]
  go_wp2_with fail
  refine (HI.out _ HB3.out).mono ?_
  rintro e w' ⟨rfl, hb⟩
  go_wp2_with fail
  go_ret
  exact ⟨rfl, HB3.out.trans (hb.mono HB3.out.size)⟩
theorem is_two (b : Nat) (c : Int) (t : TypeId) (u : Value) (w : World) (hc : w.cell? ⟨b, 0, none⟩ = some (.int .i64 c)) (hu : w.cell? ⟨b, 3, none⟩ = some (.iface t u)) :
    Calls Tryz.prog 34 #[fV b, .iface 27 (.int .i64 c)] w fun e w' => e = .returned (.bool true) ∧ Below w.heap.size w w' := by
  have x1 := @run_callFunc_extern Tryz.prog 51 _ Extern.ReflectliteType.typeOf Tryz.func51 (by kernel_rfl) (by kernel_rfl) (by kernel_rfl) (by kernel_rfl)
  have y1 := to_en
  have y2 := cmp_en
  have y3 := m_cmp
  go_enter Tryz.func34, Tryz.ntmps34
  go_wp2_with (go_at_call 52; refine (is_top b c t u w hc hu).mono ?_; rintro e w' ⟨rfl, hb⟩)
  go_ret
  exact ⟨rfl, hb⟩
theorem is_two_under (b b2 : Nat) (c k : Int) (hck : c ≠ k) (w : World) (hc : w.cell? ⟨b, 0, none⟩ = some (.int .i64 c)) (hu : w.cell? ⟨b, 3, none⟩ = some (fV b2)) (hc2 : w.cell? ⟨b2, 0, none⟩ = some (.int .i64 k)) (hu2 : w.cell? ⟨b2, 3, none⟩ = some .nilIface) :
    Calls Tryz.prog 34 #[fV b, .iface 27 (.int .i64 k)] w fun e w' => e = .returned (.bool true) ∧ Below w.heap.size w w' := by
  have x1 := @run_callFunc_extern Tryz.prog 51 _ Extern.ReflectliteType.typeOf Tryz.func51 (by kernel_rfl) (by kernel_rfl) (by kernel_rfl) (by kernel_rfl)
  have y1 := to_en
  have y2 := cmp_en
  have y3 := m_cmp
  go_enter Tryz.func34, Tryz.ntmps34
  go_wp2_with (go_at_call 52; refine (is_under b b2 c k hck w hc hu hc2 hu2).mono ?_; rintro e w' ⟨rfl, hb⟩)
  go_ret
  exact ⟨rfl, hb⟩
end ErrU
end Go.Proofs.YtbjifikbfagdjaaGreatDoor
