/-
  errors.Is where the error is a *api.Fault with nothing under it, and what is looked for is its own number: it is found. The library's own text is walked.
-/
import Derived.Test.YtfbdhlpgklkjmaaGreatDoorChecked
import Derived.WalkKit
import Derived.LaidEql
import Derived.Stop.Asserts
import Derived.RowKitTokens
namespace Go.Proofs.YtfbdhlpgklkjmaaGreatDoor
open Go.RowKit Go.Extern.Stop Go.Stop Go.Extern
namespace ErrC

/-- '==' of two errors that are numbers of one type -/
theorem eql_in (d : Nat) (a b : Int) (w : World) : (Op.equalIn (d + 2) 28 (.iface 59 (.int .i64 a)) (.iface 59 (.int .i64 b))).run Tryz.prog w = .ok (a == b) w := by
  obtain ⟨i, hi, hc⟩ := Option.map_eq_some_iff.1 (show (Tryz.prog.info? 59).map (·.comparable) = some true by kernel_rfl)
  simp [Op.equalIn, run_underlying Tryz.underlying28, run_underlying Tryz.underlying59, typeInfo, hi, hc]
theorem eql_errno (a b : Int) (w : World) : (binOp .eql 28 (.iface 59 (.int .i64 a)) (.iface 59 (.int .i64 b))).run Tryz.prog w = .ok (.bool (a == b)) w := by
  simp only [binOp]
  simp [Op.equal, Op.maxDepth, eql_in 9998 a b w]

theorem to_en (v : Value) (w : World) : (ReflectliteType.typeOf #[.iface 59 v]).run Tryz.prog w = .ok (.iface 160 (.agg #[.pointer (some ⟨5, 59, none⟩)])) w := by kernel_rfl
theorem cmp_is : (Go.Extern.find Tryz.f166).isSome = true := by kernel_rfl
/-- a number's type is comparable -/
theorem cmp_en (w : World) : (callFunc 166 #[.agg #[.pointer (some ⟨5, 59, none⟩)]]).run Tryz.prog w = .ok (.value (.bool true)) w := by
  rw [run_callFunc_extern Tryz.func166 (by kernel_rfl) (by kernel_rfl) (by kernel_rfl) (Option.some_get cmp_is).symm,
    show (((Go.Extern.find Tryz.f166).get cmp_is) #[.agg #[.pointer (some ⟨5, 59, none⟩)]]).run Tryz.prog w = .ok (.bool true) w from by kernel_rfl]
  rfl
theorem m_cmp (v : Value) (w : World) : (Go.method 331 160 v "Comparable").run Tryz.prog w = .ok (166, v) w := by kernel_rfl
theorem m_unwrap (v : Value) (w : World) : (Go.method 331 84 v "Unwrap").run Tryz.prog w = .ok (160, v) w := by kernel_rfl
theorem no_is (v : Value) (xT : TypeId) (w : World) : (Instr.typeAssert (.iface 84 v) xT 172 true).run Tryz.prog w = .ok (.tuple #[.nilIface, .bool false]) w := run_typeAssert_lacksB Tryz.underlying172 (by kernel_rfl) (by kernel_rfl) v xT w
theorem no_unwrap (v : Value) (xT : TypeId) (w : World) : (Instr.typeAssert (.iface 84 v) xT 167 true).run Tryz.prog w = .ok (.tuple #[.nilIface, .bool false]) w := run_typeAssert_lacksB Tryz.underlying167 (by kernel_rfl) (by kernel_rfl) v xT w
theorem has_unwraps (v : Value) (xT : TypeId) (w : World) : (Instr.typeAssert (.iface 84 v) xT 169 true).run Tryz.prog w = .ok (.tuple #[.iface 84 v, .bool true]) w := run_typeAssert_hasB Tryz.underlying169 (by kernel_rfl) v xT w

theorem is_number (c : Int) (w : World) :
    Calls Tryz.prog 75 #[.iface 59 (.int .i64 c), .iface 59 (.int .i64 c), .bool true] w fun e w' => e = .returned (.bool true) ∧ w = w' := by
  have heq := eql_errno c c
  go_enter Tryz.func75, Tryz.ntmps75
  go_wp2_with fail
  refine wp_loop_rounds 1 ?_
  rw [rounds_succ]
  go_wp2
  go_ret
  exact ⟨rfl, rfl⟩

theorem unwrap_one (b o : Nat) (c : Int) (w : World) (hc : w.cell? ⟨b, o, none⟩ = some (.int .i64 c)) (hu : w.cell? ⟨b, o + 3, none⟩ = some .nilIface) :
    Calls Tryz.prog 160 #[.pointer (some ⟨b, o, none⟩)] w fun e w' => e = .returned (.slice (some ⟨w.heap.size, 0, none⟩) 1 1) ∧ w' = w.alloc (.cells #[.iface 59 (.int .i64 c)] 28) := by
  go_enter Tryz.func160, Tryz.ntmps160
  go_wp2
  go_ret
  exact ⟨rfl, rfl⟩

set_option maxHeartbeats 1000000 in
theorem is_fault (b o : Nat) (c : Int) (w : World) (hc : w.cell? ⟨b, o, none⟩ = some (.int .i64 c)) (hu : w.cell? ⟨b, o + 3, none⟩ = some .nilIface) :
    Calls Tryz.prog 75 #[.iface 84 (.pointer (some ⟨b, o, none⟩)), .iface 59 (.int .i64 c), .bool true] w fun e w' => e = .returned (.bool true) ∧ w' = w.alloc (.cells #[.iface 59 (.int .i64 c)] 28) := by
  have y4 := m_unwrap
  have y5 := no_is
  have y6 := no_unwrap
  have y7 := has_unwraps
  have y8 := run_eql_iface_types (P := Tryz.prog) 84 59 (.pointer (some ⟨b, o, none⟩)) (.int .i64 c) Tryz.underlying28 (by decide)
  go_enter Tryz.func75, Tryz.ntmps75
  go_wp2_with fail
  refine wp_loop_rounds 1 ?_
  rw [rounds_succ]
  go_wp2_with (go_at_call 160; refine (unwrap_one _ _ _ _ hc hu).mono ?_; rintro e w' ⟨rfl, rfl⟩)
  refine wp_loop_rounds 1 ?_
  rw [rounds_succ]
  go_wp2_with (go_at_call 75; refine (is_number _ _).mono ?_; rintro e w' ⟨rfl, rfl⟩)
  go_ret
  exact ⟨rfl, rfl⟩

theorem is_one (b o : Nat) (c : Int) (w : World) (hc : w.cell? ⟨b, o, none⟩ = some (.int .i64 c)) (hu : w.cell? ⟨b, o + 3, none⟩ = some .nilIface) :
    Calls Tryz.prog 50 #[.iface 84 (.pointer (some ⟨b, o, none⟩)), .iface 59 (.int .i64 c)] w fun e w' => e = .returned (.bool true) ∧ w' = w.alloc (.cells #[.iface 59 (.int .i64 c)] 28) := by
  have x1 := @run_callFunc_extern Tryz.prog 74 _ Extern.ReflectliteType.typeOf Tryz.func74 (by kernel_rfl) (by kernel_rfl) (by kernel_rfl) (by kernel_rfl)
  have y1 := to_en
  have y2 := cmp_en
  have y3 := m_cmp
  go_enter Tryz.func50, Tryz.ntmps50
  go_wp2_with (go_at_call 75; refine (is_fault _ _ _ _ hc hu).mono ?_; rintro e w' ⟨rfl, rfl⟩)
  go_ret
  exact ⟨rfl, rfl⟩
end ErrC
end Go.Proofs.YtfbdhlpgklkjmaaGreatDoor
