/-
  errors.Is where the error is a *api.Fault with nothing under it, and what is looked for is its own number: it is found. The library's own text is walked.
-/
import Derived.Test.YtnkednjklfpblaaGreatDoorChecked
import Derived.WalkKit
import Derived.LaidEql
import Derived.Stop.Asserts
import Derived.RowKitTokens
namespace Go.Proofs.YtnkednjklfpblaaGreatDoor
open Go.RowKit Go.Extern.Stop Go.Stop Go.Extern
namespace ErrC

/-- '==' of two errors that are numbers of one type -/
theorem eql_in (d : Nat) (a b : Int) (w : World) : (Op.equalIn (d + 2) 38 (.iface 34 (.int .i64 a)) (.iface 34 (.int .i64 b))).run Tryz.prog w = .ok (a == b) w := by
  obtain ⟨i, hi, hc⟩ := Option.map_eq_some_iff.1 (show (Tryz.prog.info? 34).map (·.comparable) = some true by kernel_rfl)
  simp [Op.equalIn, run_underlying Tryz.underlying38, run_underlying Tryz.underlying34, typeInfo, hi, hc]
theorem eql_errno (a b : Int) (w : World) : (binOp .eql 38 (.iface 34 (.int .i64 a)) (.iface 34 (.int .i64 b))).run Tryz.prog w = .ok (.bool (a == b)) w := by
  simp only [binOp]
  simp [Op.equal, Op.maxDepth, eql_in 9998 a b w]

theorem to_en (v : Value) (w : World) : (ReflectliteType.typeOf #[.iface 34 v]).run Tryz.prog w = .ok (.iface 112 (.agg #[.pointer (some ⟨9, 34, none⟩)])) w := by kernel_rfl
theorem cmp_is : (Go.Extern.find Tryz.f249).isSome = true := by kernel_rfl
/-- a number's type is comparable -/
theorem cmp_en (w : World) : (callFunc 249 #[.agg #[.pointer (some ⟨9, 34, none⟩)]]).run Tryz.prog w = .ok (.value (.bool true)) w := by
  rw [run_callFunc_extern Tryz.func249 (by kernel_rfl) (by kernel_rfl) (by kernel_rfl) (Option.some_get cmp_is).symm,
    show (((Go.Extern.find Tryz.f249).get cmp_is) #[.agg #[.pointer (some ⟨9, 34, none⟩)]]).run Tryz.prog w = .ok (.bool true) w from by kernel_rfl]
  rfl
theorem m_cmp (v : Value) (w : World) : (Go.method 419 112 v "Comparable").run Tryz.prog w = .ok (249, v) w := by kernel_rfl
theorem m_unwrap (v : Value) (w : World) : (Go.method 419 63 v "Unwrap").run Tryz.prog w = .ok (244, v) w := by kernel_rfl
theorem no_is (v : Value) (xT : TypeId) (w : World) : (Instr.typeAssert (.iface 63 v) xT 114 true).run Tryz.prog w = .ok (.tuple #[.nilIface, .bool false]) w := run_typeAssert_lacksB Tryz.underlying114 (by kernel_rfl) (by kernel_rfl) v xT w
theorem no_unwrap (v : Value) (xT : TypeId) (w : World) : (Instr.typeAssert (.iface 63 v) xT 117 true).run Tryz.prog w = .ok (.tuple #[.nilIface, .bool false]) w := run_typeAssert_lacksB Tryz.underlying117 (by kernel_rfl) (by kernel_rfl) v xT w
theorem has_unwraps (v : Value) (xT : TypeId) (w : World) : (Instr.typeAssert (.iface 63 v) xT 118 true).run Tryz.prog w = .ok (.tuple #[.iface 63 v, .bool true]) w := run_typeAssert_hasB Tryz.underlying118 (by kernel_rfl) v xT w

theorem is_number (c : Int) (w : World) :
    Calls Tryz.prog 24 #[.iface 34 (.int .i64 c), .iface 34 (.int .i64 c), .bool true] w fun e w' => e = .returned (.bool true) ∧ w = w' := by
  have heq := eql_errno c c
  go_enter Tryz.func24, Tryz.ntmps24
  go_wp2_with fail
  refine wp_loop_rounds 1 ?_
  rw [rounds_succ]
  go_wp2
  go_ret
  exact ⟨rfl, rfl⟩

theorem unwrap_one (b o : Nat) (c : Int) (w : World) (hc : w.cell? ⟨b, o, none⟩ = some (.int .i64 c)) (hu : w.cell? ⟨b, o + 3, none⟩ = some .nilIface) :
    Calls Tryz.prog 244 #[.pointer (some ⟨b, o, none⟩)] w fun e w' => e = .returned (.slice (some ⟨w.heap.size, 0, none⟩) 1 1) ∧ w' = w.alloc (.cells #[.iface 34 (.int .i64 c)] 38) := by
  go_enter Tryz.func244, Tryz.ntmps244
  go_wp2
  go_ret
  exact ⟨rfl, rfl⟩

set_option maxHeartbeats 1000000 in
theorem is_fault (b o : Nat) (c : Int) (w : World) (hc : w.cell? ⟨b, o, none⟩ = some (.int .i64 c)) (hu : w.cell? ⟨b, o + 3, none⟩ = some .nilIface) :
    Calls Tryz.prog 24 #[.iface 63 (.pointer (some ⟨b, o, none⟩)), .iface 34 (.int .i64 c), .bool true] w fun e w' => e = .returned (.bool true) ∧ w' = w.alloc (.cells #[.iface 34 (.int .i64 c)] 38) := by
  have y4 := m_unwrap
  have y5 := no_is
  have y6 := no_unwrap
  have y7 := has_unwraps
  have y8 := run_eql_iface_types (P := Tryz.prog) 63 34 (.pointer (some ⟨b, o, none⟩)) (.int .i64 c) Tryz.underlying38 (by decide)
  go_enter Tryz.func24, Tryz.ntmps24
  go_wp2_with fail
  refine wp_loop_rounds 1 ?_
  rw [rounds_succ]
  go_wp2_with (go_at_call 244; refine (unwrap_one _ _ _ _ hc hu).mono ?_; rintro e w' ⟨rfl, rfl⟩)
  refine wp_loop_rounds 1 ?_
  rw [rounds_succ]
  go_wp2_with (go_at_call 24; refine (is_number _ _).mono ?_; rintro e w' ⟨rfl, rfl⟩)
  go_ret
  exact ⟨rfl, rfl⟩

theorem is_one (b o : Nat) (c : Int) (w : World) (hc : w.cell? ⟨b, o, none⟩ = some (.int .i64 c)) (hu : w.cell? ⟨b, o + 3, none⟩ = some .nilIface) :
    Calls Tryz.prog 12 #[.iface 63 (.pointer (some ⟨b, o, none⟩)), .iface 34 (.int .i64 c)] w fun e w' => e = .returned (.bool true) ∧ w' = w.alloc (.cells #[.iface 34 (.int .i64 c)] 38) := by
  have x1 := @run_callFunc_extern Tryz.prog 23 _ Extern.ReflectliteType.typeOf Tryz.func23 (by kernel_rfl) (by kernel_rfl) (by kernel_rfl) (by kernel_rfl)
  have y1 := to_en
  have y2 := cmp_en
  have y3 := m_cmp
  go_enter Tryz.func12, Tryz.ntmps12
  go_wp2_with (go_at_call 24; refine (is_fault _ _ _ _ hc hu).mono ?_; rintro e w' ⟨rfl, rfl⟩)
  go_ret
  exact ⟨rfl, rfl⟩
end ErrC
end Go.Proofs.YtnkednjklfpblaaGreatDoor
