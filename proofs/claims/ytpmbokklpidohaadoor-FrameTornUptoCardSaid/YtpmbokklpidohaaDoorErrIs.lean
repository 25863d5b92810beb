/-
  errors.Is where the error is a *api.Fault with nothing under it, and what is looked for is its own number: it is found. The library's own text is walked.
-/
import Derived.Test.YtpmbokklpidohaaDoorChecked
import Derived.WalkKit
import Derived.LaidEql
import Derived.Stop.Asserts
import Derived.RowKitTokens
namespace Go.Proofs.YtpmbokklpidohaaDoor
open Go.RowKit Go.Extern.Stop Go.Stop Go.Extern
namespace ErrC

/-- '==' of two errors that are numbers of one type -/
theorem eql_in (d : Nat) (a b : Int) (w : World) : (Op.equalIn (d + 2) 23 (.iface 47 (.int .i64 a)) (.iface 47 (.int .i64 b))).run Tryd.prog w = .ok (a == b) w := by
  obtain ⟨i, hi, hc⟩ := Option.map_eq_some_iff.1 (show (Tryd.prog.info? 47).map (·.comparable) = some true by kernel_rfl)
  simp [Op.equalIn, run_underlying Tryd.underlying23, run_underlying Tryd.underlying47, typeInfo, hi, hc]
theorem eql_errno (a b : Int) (w : World) : (binOp .eql 23 (.iface 47 (.int .i64 a)) (.iface 47 (.int .i64 b))).run Tryd.prog w = .ok (.bool (a == b)) w := by
  simp only [binOp]
  simp [Op.equal, Op.maxDepth, eql_in 9998 a b w]

theorem to_en (v : Value) (w : World) : (ReflectliteType.typeOf #[.iface 47 v]).run Tryd.prog w = .ok (.iface 86 (.agg #[.pointer (some ⟨4, 47, none⟩)])) w := by kernel_rfl
theorem cmp_is : (Go.Extern.find Tryd.f80).isSome = true := by kernel_rfl
/-- a number's type is comparable -/
theorem cmp_en (w : World) : (callFunc 80 #[.agg #[.pointer (some ⟨4, 47, none⟩)]]).run Tryd.prog w = .ok (.value (.bool true)) w := by
  rw [run_callFunc_extern Tryd.func80 (by kernel_rfl) (by kernel_rfl) (by kernel_rfl) (Option.some_get cmp_is).symm,
    show (((Go.Extern.find Tryd.f80).get cmp_is) #[.agg #[.pointer (some ⟨4, 47, none⟩)]]).run Tryd.prog w = .ok (.bool true) w from by kernel_rfl]
  rfl
theorem m_cmp (v : Value) (w : World) : (Go.method 244 86 v "Comparable").run Tryd.prog w = .ok (80, v) w := by kernel_rfl
theorem m_unwrap (v : Value) (w : World) : (Go.method 244 60 v "Unwrap").run Tryd.prog w = .ok (74, v) w := by kernel_rfl
theorem no_is (v : Value) (xT : TypeId) (w : World) : (Instr.typeAssert (.iface 60 v) xT 98 true).run Tryd.prog w = .ok (.tuple #[.nilIface, .bool false]) w := run_typeAssert_lacksB Tryd.underlying98 (by kernel_rfl) (by kernel_rfl) v xT w
theorem no_unwrap (v : Value) (xT : TypeId) (w : World) : (Instr.typeAssert (.iface 60 v) xT 93 true).run Tryd.prog w = .ok (.tuple #[.nilIface, .bool false]) w := run_typeAssert_lacksB Tryd.underlying93 (by kernel_rfl) (by kernel_rfl) v xT w
theorem has_unwraps (v : Value) (xT : TypeId) (w : World) : (Instr.typeAssert (.iface 60 v) xT 95 true).run Tryd.prog w = .ok (.tuple #[.iface 60 v, .bool true]) w := run_typeAssert_hasB Tryd.underlying95 (by kernel_rfl) v xT w

theorem is_number (c : Int) (w : World) :
    Calls Tryd.prog 38 #[.iface 47 (.int .i64 c), .iface 47 (.int .i64 c), .bool true] w fun e w' => e = .returned (.bool true) ∧ w = w' := by
  have heq := eql_errno c c
  go_enter Tryd.func38, Tryd.ntmps38
  go_wp2_with fail
  refine wp_loop_rounds 1 ?_
  rw [rounds_succ]
  go_wp2
  go_ret
  exact ⟨rfl, rfl⟩

theorem unwrap_one (b o : Nat) (c : Int) (w : World) (hc : w.cell? ⟨b, o, none⟩ = some (.int .i64 c)) (hu : w.cell? ⟨b, o + 3, none⟩ = some .nilIface) :
    Calls Tryd.prog 74 #[.pointer (some ⟨b, o, none⟩)] w fun e w' => e = .returned (.slice (some ⟨w.heap.size, 0, none⟩) 1 1) ∧ w' = w.alloc (.cells #[.iface 47 (.int .i64 c)] 23) := by
  go_enter Tryd.func74, Tryd.ntmps74
  go_wp2
  go_ret
  exact ⟨rfl, rfl⟩

set_option maxHeartbeats 1000000 in
theorem is_fault (b o : Nat) (c : Int) (w : World) (hc : w.cell? ⟨b, o, none⟩ = some (.int .i64 c)) (hu : w.cell? ⟨b, o + 3, none⟩ = some .nilIface) :
    Calls Tryd.prog 38 #[.iface 60 (.pointer (some ⟨b, o, none⟩)), .iface 47 (.int .i64 c), .bool true] w fun e w' => e = .returned (.bool true) ∧ w' = w.alloc (.cells #[.iface 47 (.int .i64 c)] 23) := by
  have y4 := m_unwrap
  have y5 := no_is
  have y6 := no_unwrap
  have y7 := has_unwraps
  have y8 := run_eql_iface_types (P := Tryd.prog) 60 47 (.pointer (some ⟨b, o, none⟩)) (.int .i64 c) Tryd.underlying23 (by decide)
  go_enter Tryd.func38, Tryd.ntmps38
  go_wp2_with fail
  refine wp_loop_rounds 1 ?_
  rw [rounds_succ]
  go_wp2_with (go_at_call 74; refine (unwrap_one _ _ _ _ hc hu).mono ?_; rintro e w' ⟨rfl, rfl⟩)
  refine wp_loop_rounds 1 ?_
  rw [rounds_succ]
  go_wp2_with (go_at_call 38; refine (is_number _ _).mono ?_; rintro e w' ⟨rfl, rfl⟩)
  go_ret
  exact ⟨rfl, rfl⟩

theorem is_one (b o : Nat) (c : Int) (w : World) (hc : w.cell? ⟨b, o, none⟩ = some (.int .i64 c)) (hu : w.cell? ⟨b, o + 3, none⟩ = some .nilIface) :
    Calls Tryd.prog 29 #[.iface 60 (.pointer (some ⟨b, o, none⟩)), .iface 47 (.int .i64 c)] w fun e w' => e = .returned (.bool true) ∧ w' = w.alloc (.cells #[.iface 47 (.int .i64 c)] 23) := by
  have x1 := @run_callFunc_extern Tryd.prog 37 _ Extern.ReflectliteType.typeOf Tryd.func37 (by kernel_rfl) (by kernel_rfl) (by kernel_rfl) (by kernel_rfl)
  have y1 := to_en
  have y2 := cmp_en
  have y3 := m_cmp
  go_enter Tryd.func29, Tryd.ntmps29
  go_wp2_with (go_at_call 38; refine (is_fault _ _ _ _ hc hu).mono ?_; rintro e w' ⟨rfl, rfl⟩)
  go_ret
  exact ⟨rfl, rfl⟩
end ErrC
end Go.Proofs.YtpmbokklpidohaaDoor
