/-
  errors.Is where the error is a *api.Fault with nothing under it, and what is looked for is its own number: it is found. The library's own text is walked.
-/
import Derived.Test.YtbjifikbfagdjaaGreatDoorChecked
import Derived.WalkKit
import Derived.LaidEql
import Derived.Stop.Asserts
import Derived.RowKitTokens
namespace Go.Proofs.YtbjifikbfagdjaaGreatDoor
open Go.RowKit Go.Extern.Stop Go.Stop Go.Extern
namespace ErrC

/-- '==' of two errors that are numbers of one type -/
theorem eql_in (d : Nat) (a b : Int) (w : World) : (Op.equalIn (d + 2) 36 (.iface 27 (.int .i64 a)) (.iface 27 (.int .i64 b))).run Tryz.prog w = .ok (a == b) w := by
  obtain ⟨i, hi, hc⟩ := Option.map_eq_some_iff.1 (show (Tryz.prog.info? 27).map (·.comparable) = some true by kernel_rfl)
  simp [Op.equalIn, run_underlying Tryz.underlying36, run_underlying Tryz.underlying27, typeInfo, hi, hc]
theorem eql_errno (a b : Int) (w : World) : (binOp .eql 36 (.iface 27 (.int .i64 a)) (.iface 27 (.int .i64 b))).run Tryz.prog w = .ok (.bool (a == b)) w := by
  simp only [binOp]
  simp [Op.equal, Op.maxDepth, eql_in 9998 a b w]

theorem to_en (v : Value) (w : World) : (ReflectliteType.typeOf #[.iface 27 v]).run Tryz.prog w = .ok (.iface 127 (.agg #[.pointer (some ⟨15, 27, none⟩)])) w := by kernel_rfl
theorem cmp_is : (Go.Extern.find Tryz.f364).isSome = true := by kernel_rfl
/-- a number's type is comparable -/
theorem cmp_en (w : World) : (callFunc 364 #[.agg #[.pointer (some ⟨15, 27, none⟩)]]).run Tryz.prog w = .ok (.value (.bool true)) w := by
  rw [run_callFunc_extern Tryz.func364 (by kernel_rfl) (by kernel_rfl) (by kernel_rfl) (Option.some_get cmp_is).symm,
    show (((Go.Extern.find Tryz.f364).get cmp_is) #[.agg #[.pointer (some ⟨15, 27, none⟩)]]).run Tryz.prog w = .ok (.bool true) w from by kernel_rfl]
  rfl
theorem m_cmp (v : Value) (w : World) : (Go.method 531 127 v "Comparable").run Tryz.prog w = .ok (364, v) w := by kernel_rfl
theorem m_unwrap (v : Value) (w : World) : (Go.method 531 68 v "Unwrap").run Tryz.prog w = .ok (358, v) w := by kernel_rfl
theorem no_is (v : Value) (xT : TypeId) (w : World) : (Instr.typeAssert (.iface 68 v) xT 158 true).run Tryz.prog w = .ok (.tuple #[.nilIface, .bool false]) w := run_typeAssert_lacksB Tryz.underlying158 (by kernel_rfl) (by kernel_rfl) v xT w
theorem no_unwrap (v : Value) (xT : TypeId) (w : World) : (Instr.typeAssert (.iface 68 v) xT 134 true).run Tryz.prog w = .ok (.tuple #[.nilIface, .bool false]) w := run_typeAssert_lacksB Tryz.underlying134 (by kernel_rfl) (by kernel_rfl) v xT w
theorem has_unwraps (v : Value) (xT : TypeId) (w : World) : (Instr.typeAssert (.iface 68 v) xT 136 true).run Tryz.prog w = .ok (.tuple #[.iface 68 v, .bool true]) w := run_typeAssert_hasB Tryz.underlying136 (by kernel_rfl) v xT w

theorem is_number (c : Int) (w : World) :
    Calls Tryz.prog 52 #[.iface 27 (.int .i64 c), .iface 27 (.int .i64 c), .bool true] w fun e w' => e = .returned (.bool true) ∧ w = w' := by
  have heq := eql_errno c c
  go_enter Tryz.func52, Tryz.ntmps52
  go_wp2_with fail
  refine wp_loop_rounds 1 ?_
  rw [rounds_succ]
  go_wp2
  go_ret
  exact ⟨rfl, rfl⟩

theorem unwrap_one (b o : Nat) (c : Int) (w : World) (hc : w.cell? ⟨b, o, none⟩ = some (.int .i64 c)) (hu : w.cell? ⟨b, o + 3, none⟩ = some .nilIface) :
    Calls Tryz.prog 358 #[.pointer (some ⟨b, o, none⟩)] w fun e w' => e = .returned (.slice (some ⟨w.heap.size, 0, none⟩) 1 1) ∧ w' = w.alloc (.cells #[.iface 27 (.int .i64 c)] 36) := by
  go_enter Tryz.func358, Tryz.ntmps358
  go_wp2
  go_ret
  exact ⟨rfl, rfl⟩

set_option maxHeartbeats 1000000 in
theorem is_fault (b o : Nat) (c : Int) (w : World) (hc : w.cell? ⟨b, o, none⟩ = some (.int .i64 c)) (hu : w.cell? ⟨b, o + 3, none⟩ = some .nilIface) :
    Calls Tryz.prog 52 #[.iface 68 (.pointer (some ⟨b, o, none⟩)), .iface 27 (.int .i64 c), .bool true] w fun e w' => e = .returned (.bool true) ∧ w' = w.alloc (.cells #[.iface 27 (.int .i64 c)] 36) := by
  have y4 := m_unwrap
  have y5 := no_is
  have y6 := no_unwrap
  have y7 := has_unwraps
  have y8 := run_eql_iface_types (P := Tryz.prog) 68 27 (.pointer (some ⟨b, o, none⟩)) (.int .i64 c) Tryz.underlying36 (by decide)
  go_enter Tryz.func52, Tryz.ntmps52
  go_wp2_with fail
  refine wp_loop_rounds 1 ?_
  rw [rounds_succ]
  go_wp2_with (go_at_call 358; refine (unwrap_one _ _ _ _ hc hu).mono ?_; rintro e w' ⟨rfl, rfl⟩)
  refine wp_loop_rounds 1 ?_
  rw [rounds_succ]
  go_wp2_with (go_at_call 52; refine (is_number _ _).mono ?_; rintro e w' ⟨rfl, rfl⟩)
  go_ret
  exact ⟨rfl, rfl⟩

theorem is_one (b o : Nat) (c : Int) (w : World) (hc : w.cell? ⟨b, o, none⟩ = some (.int .i64 c)) (hu : w.cell? ⟨b, o + 3, none⟩ = some .nilIface) :
    Calls Tryz.prog 34 #[.iface 68 (.pointer (some ⟨b, o, none⟩)), .iface 27 (.int .i64 c)] w fun e w' => e = .returned (.bool true) ∧ w' = w.alloc (.cells #[.iface 27 (.int .i64 c)] 36) := by
  have x1 := @run_callFunc_extern Tryz.prog 51 _ Extern.ReflectliteType.typeOf Tryz.func51 (by kernel_rfl) (by kernel_rfl) (by kernel_rfl) (by kernel_rfl)
  have y1 := to_en
  have y2 := cmp_en
  have y3 := m_cmp
  go_enter Tryz.func34, Tryz.ntmps34
  go_wp2_with (go_at_call 52; refine (is_fault _ _ _ _ hc hu).mono ?_; rintro e w' ⟨rfl, rfl⟩)
  go_ret
  exact ⟨rfl, rfl⟩
end ErrC
end Go.Proofs.YtbjifikbfagdjaaGreatDoor
