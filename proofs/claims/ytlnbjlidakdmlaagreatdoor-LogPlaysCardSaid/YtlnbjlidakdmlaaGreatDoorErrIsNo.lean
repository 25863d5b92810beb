/-
  errors.Is where the error is nil, or a *api.Fault with nothing under it, whatever number is looked for.
-/
import Derived.Test.YtlnbjlidakdmlaaGreatDoorErrIs
import Derived.Test.YtlnbjlidakdmlaaGreatDoorDiskErr
namespace Go.Proofs.YtlnbjlidakdmlaaGreatDoor
open Go.RowKit Go.Extern.Stop Go.Stop Go.Extern
namespace ErrC

theorem no_is_en (v : Value) (xT : TypeId) (w : World) : (Instr.typeAssert (.iface 69 v) xT 133 true).run Tryz.prog w = .ok (.tuple #[.nilIface, .bool false]) w := run_typeAssert_lacksB Tryz.underlying133 (by kernel_rfl) (by kernel_rfl) v xT w
theorem no_unwrap_en (v : Value) (xT : TypeId) (w : World) : (Instr.typeAssert (.iface 69 v) xT 136 true).run Tryz.prog w = .ok (.tuple #[.nilIface, .bool false]) w := run_typeAssert_lacksB Tryz.underlying136 (by kernel_rfl) (by kernel_rfl) v xT w
theorem no_unwraps_en (v : Value) (xT : TypeId) (w : World) : (Instr.typeAssert (.iface 69 v) xT 138 true).run Tryz.prog w = .ok (.tuple #[.nilIface, .bool false]) w := run_typeAssert_lacksB Tryz.underlying138 (by kernel_rfl) (by kernel_rfl) v xT w

theorem is_number_no (c k : Int) (hck : c ≠ k) (w : World) :
    Calls Tryz.prog 68 #[.iface 69 (.int .i64 c), .iface 69 (.int .i64 k), .bool true] w fun e w' => e = .returned (.bool false) ∧ w = w' := by
  have heq := eql_errno c k
  have hb : (c == k) = false := beq_eq_false_iff_ne.2 hck
  have y1 := no_is_en
  have y2 := no_unwrap_en
  have y3 := no_unwraps_en
  go_enter Tryz.func68, Tryz.ntmps68
  go_wp2_with fail
  refine wp_loop_rounds 1 ?_
  rw [rounds_succ]
  go_wp2
  go_ret
  exact ⟨rfl, rfl⟩

set_option maxHeartbeats 1000000 in
theorem is_fault_no (b o : Nat) (c k : Int) (hck : c ≠ k) (w : World) (hc : w.cell? ⟨b, o, none⟩ = some (.int .i64 c)) (hu : w.cell? ⟨b, o + 3, none⟩ = some .nilIface) :
    Calls Tryz.prog 68 #[.iface 102 (.pointer (some ⟨b, o, none⟩)), .iface 69 (.int .i64 k), .bool true] w fun e w' => e = .returned (.bool false) ∧ w' = w.alloc (.cells #[.iface 69 (.int .i64 c)] 29) := by
  have y4 := m_unwrap
  have y5 := no_is
  have y6 := no_unwrap
  have y7 := has_unwraps
  have y8 := run_eql_iface_types (P := Tryz.prog) 102 69 (.pointer (some ⟨b, o, none⟩)) (.int .i64 k) Tryz.underlying29 (by decide)
  go_enter Tryz.func68, Tryz.ntmps68
  go_wp2_with fail
  refine wp_loop_rounds 1 ?_
  rw [rounds_succ]
  go_wp2_with (go_at_call 180; refine (unwrap_one _ _ _ _ hc hu).mono ?_; rintro e w' ⟨rfl, rfl⟩)
  refine wp_loop_rounds 2 ?_
  rw [rounds_succ]
  go_wp2_with (go_at_call 68; refine (is_number_no _ _ hck _).mono ?_; rintro e w' ⟨rfl, rfl⟩)
  rw [rounds_succ]
  go_wp2_with fail
  go_ret
  exact ⟨rfl, rfl⟩

theorem is_one_no (b o : Nat) (c k : Int) (hck : c ≠ k) (w : World) (hc : w.cell? ⟨b, o, none⟩ = some (.int .i64 c)) (hu : w.cell? ⟨b, o + 3, none⟩ = some .nilIface) :
    Calls Tryz.prog 25 #[.iface 102 (.pointer (some ⟨b, o, none⟩)), .iface 69 (.int .i64 k)] w fun e w' => e = .returned (.bool false) ∧ w' = w.alloc (.cells #[.iface 69 (.int .i64 c)] 29) := by
  have x1 := @run_callFunc_extern Tryz.prog 67 _ Extern.ReflectliteType.typeOf Tryz.func67 (by kernel_rfl) (by kernel_rfl) (by kernel_rfl) (by kernel_rfl)
  have y1 := to_en
  have y2 := cmp_en
  have y3 := m_cmp
  go_enter Tryz.func25, Tryz.ntmps25
  go_wp2_with (go_at_call 68; refine (is_fault_no _ _ _ _ hck _ hc hu).mono ?_; rintro e w' ⟨rfl, rfl⟩)
  go_ret
  exact ⟨rfl, rfl⟩
theorem eql_none (t : TypeId) (x : Value) (w : World) : (binOp .eql 29 .nilIface (.iface t x)).run Tryz.prog w = .ok (.bool false) w := run_eql_iface_nil_left w t x Tryz.underlying29
theorem is_none (t : TypeId) (x : Value) (w : World) :
    Calls Tryz.prog 25 #[.nilIface, .iface t x] w fun e w' => e = .returned (.bool false) ∧ w = w' := by
  have y1 := eql_none t x
  go_enter Tryz.func25, Tryz.ntmps25
  go_wp2_with fail
  go_ret
  exact ⟨rfl, rfl⟩
/-- of whatever a call of the disk hands back -/
theorem is_of {w0 w : World} {ev : Value} {c : Nat} {t : ByteArray} (h : DiskC.DErr w0 w ev c t) (k : Nat) (hk : k ≠ 0) :
    Calls Tryz.prog 25 #[ev, .iface 69 (.int .i64 k)] w fun e w' => e = .returned (.bool (decide (c = k))) ∧ Below w.heap.size w w' := by
  rcases h with ⟨rfl, rfl⟩ | ⟨h0, f, rfl, -, hF⟩
  · refine (is_none _ _ w).mono ?_
    rintro e w' ⟨rfl, rfl⟩
    exact ⟨by rw [decide_eq_false (fun h => hk h.symm)], Below.refl _ _⟩
  · by_cases hck : c = k
    · subst hck
      refine (is_one f 0 c w hF.code hF.under).mono ?_
      rintro e w' ⟨rfl, rfl⟩
      exact ⟨by simp, (Below.refl _ _).alloc (Nat.le_refl _) _⟩
    · refine (is_one_no f 0 c k (by omega) w hF.code hF.under).mono ?_
      rintro e w' ⟨rfl, rfl⟩
      exact ⟨by simp [hck], (Below.refl _ _).alloc (Nat.le_refl _) _⟩
end ErrC
end Go.Proofs.YtlnbjlidakdmlaaGreatDoor
