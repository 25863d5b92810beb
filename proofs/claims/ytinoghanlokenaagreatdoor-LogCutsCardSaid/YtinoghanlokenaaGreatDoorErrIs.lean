/-
  errors.Is where the error is a *api.Fault with nothing under it, and what is looked for is its own number: it is found. The library's own text is walked.
-/
import Derived.Test.YtinoghanlokenaaGreatDoorChecked
import Derived.WalkKit
import Derived.LaidEql
import Derived.Stop.Asserts
import Derived.RowKitTokens
namespace Go.Proofs.YtinoghanlokenaaGreatDoor
open Go.RowKit Go.Extern.Stop Go.Stop Go.Extern
namespace ErrC

/-- '==' of two errors that are numbers of one type -/
theorem eql_in (d : Nat) (a b : Int) (w : World) : (Op.equalIn (d + 2) 29 (.iface 79 (.int .i64 a)) (.iface 79 (.int .i64 b))).run Tryz.prog w = .ok (a == b) w := by
  obtain ⟨i, hi, hc⟩ := Option.map_eq_some_iff.1 (show (Tryz.prog.info? 79).map (·.comparable) = some true by kernel_rfl)
  simp [Op.equalIn, run_underlying Tryz.underlying29, run_underlying Tryz.underlying79, typeInfo, hi, hc]
theorem eql_errno (a b : Int) (w : World) : (binOp .eql 29 (.iface 79 (.int .i64 a)) (.iface 79 (.int .i64 b))).run Tryz.prog w = .ok (.bool (a == b)) w := by
  simp only [binOp]
  simp [Op.equal, Op.maxDepth, eql_in 9998 a b w]

theorem to_en (v : Value) (w : World) : (ReflectliteType.typeOf #[.iface 79 v]).run Tryz.prog w = .ok (.iface 135 (.agg #[.pointer (some ⟨7, 79, none⟩)])) w := by kernel_rfl
theorem cmp_is : (Go.Extern.find Tryz.f187).isSome = true := by kernel_rfl
/-- a number's type is comparable -/
theorem cmp_en (w : World) : (callFunc 187 #[.agg #[.pointer (some ⟨7, 79, none⟩)]]).run Tryz.prog w = .ok (.value (.bool true)) w := by
  rw [run_callFunc_extern Tryz.func187 (by kernel_rfl) (by kernel_rfl) (by kernel_rfl) (Option.some_get cmp_is).symm,
    show (((Go.Extern.find Tryz.f187).get cmp_is) #[.agg #[.pointer (some ⟨7, 79, none⟩)]]).run Tryz.prog w = .ok (.bool true) w from by kernel_rfl]
  rfl
theorem m_cmp (v : Value) (w : World) : (Go.method 349 135 v "Comparable").run Tryz.prog w = .ok (187, v) w := by kernel_rfl
theorem m_unwrap (v : Value) (w : World) : (Go.method 349 107 v "Unwrap").run Tryz.prog w = .ok (184, v) w := by kernel_rfl
theorem no_is (v : Value) (xT : TypeId) (w : World) : (Instr.typeAssert (.iface 107 v) xT 137 true).run Tryz.prog w = .ok (.tuple #[.nilIface, .bool false]) w := run_typeAssert_lacksB Tryz.underlying137 (by kernel_rfl) (by kernel_rfl) v xT w
theorem no_unwrap (v : Value) (xT : TypeId) (w : World) : (Instr.typeAssert (.iface 107 v) xT 140 true).run Tryz.prog w = .ok (.tuple #[.nilIface, .bool false]) w := run_typeAssert_lacksB Tryz.underlying140 (by kernel_rfl) (by kernel_rfl) v xT w
theorem has_unwraps (v : Value) (xT : TypeId) (w : World) : (Instr.typeAssert (.iface 107 v) xT 142 true).run Tryz.prog w = .ok (.tuple #[.iface 107 v, .bool true]) w := run_typeAssert_hasB Tryz.underlying142 (by kernel_rfl) v xT w

theorem is_number (c : Int) (w : World) :
    Calls Tryz.prog 73 #[.iface 79 (.int .i64 c), .iface 79 (.int .i64 c), .bool true] w fun e w' => e = .returned (.bool true) ∧ w = w' := by
  have heq := eql_errno c c
  go_enter Tryz.func73, Tryz.ntmps73
  go_wp2_with fail
  refine wp_loop_rounds 1 ?_
  rw [rounds_succ]
  go_wp2
  go_ret
  exact ⟨rfl, rfl⟩

theorem unwrap_one (b o : Nat) (c : Int) (w : World) (hc : w.cell? ⟨b, o, none⟩ = some (.int .i64 c)) (hu : w.cell? ⟨b, o + 3, none⟩ = some .nilIface) :
    Calls Tryz.prog 184 #[.pointer (some ⟨b, o, none⟩)] w fun e w' => e = .returned (.slice (some ⟨w.heap.size, 0, none⟩) 1 1) ∧ w' = w.alloc (.cells #[.iface 79 (.int .i64 c)] 29) := by
  go_enter Tryz.func184, Tryz.ntmps184
  go_wp2
  go_ret
  exact ⟨rfl, rfl⟩

set_option maxHeartbeats 1000000 in
theorem is_fault (b o : Nat) (c : Int) (w : World) (hc : w.cell? ⟨b, o, none⟩ = some (.int .i64 c)) (hu : w.cell? ⟨b, o + 3, none⟩ = some .nilIface) :
    Calls Tryz.prog 73 #[.iface 107 (.pointer (some ⟨b, o, none⟩)), .iface 79 (.int .i64 c), .bool true] w fun e w' => e = .returned (.bool true) ∧ w' = w.alloc (.cells #[.iface 79 (.int .i64 c)] 29) := by
  have y4 := m_unwrap
  have y5 := no_is
  have y6 := no_unwrap
  have y7 := has_unwraps
  have y8 := run_eql_iface_types (P := Tryz.prog) 107 79 (.pointer (some ⟨b, o, none⟩)) (.int .i64 c) Tryz.underlying29 (by decide)
  go_enter Tryz.func73, Tryz.ntmps73
  go_wp2_with fail
  refine wp_loop_rounds 1 ?_
  rw [rounds_succ]
  go_wp2_with (go_at_call 184; refine (unwrap_one _ _ _ _ hc hu).mono ?_; rintro e w' ⟨rfl, rfl⟩)
  refine wp_loop_rounds 1 ?_
  rw [rounds_succ]
  go_wp2_with (go_at_call 73; refine (is_number _ _).mono ?_; rintro e w' ⟨rfl, rfl⟩)
  go_ret
  exact ⟨rfl, rfl⟩

theorem is_one (b o : Nat) (c : Int) (w : World) (hc : w.cell? ⟨b, o, none⟩ = some (.int .i64 c)) (hu : w.cell? ⟨b, o + 3, none⟩ = some .nilIface) :
    Calls Tryz.prog 34 #[.iface 107 (.pointer (some ⟨b, o, none⟩)), .iface 79 (.int .i64 c)] w fun e w' => e = .returned (.bool true) ∧ w' = w.alloc (.cells #[.iface 79 (.int .i64 c)] 29) := by
  have x1 := @run_callFunc_extern Tryz.prog 72 _ Extern.ReflectliteType.typeOf Tryz.func72 (by kernel_rfl) (by kernel_rfl) (by kernel_rfl) (by kernel_rfl)
  have y1 := to_en
  have y2 := cmp_en
  have y3 := m_cmp
  go_enter Tryz.func34, Tryz.ntmps34
  go_wp2_with (go_at_call 73; refine (is_fault _ _ _ _ hc hu).mono ?_; rintro e w' ⟨rfl, rfl⟩)
  go_ret
  exact ⟨rfl, rfl⟩
end ErrC
end Go.Proofs.YtinoghanlokenaaGreatDoor
