/-
  errors.As where the error is a *api.Fault and so is what is looked for: it is found at once, and the variable that was handed in is set. The library's own text is walked; what reflectlite answers at this program's types stands in closed facts.
-/
import Derived.Test.YtbjifikbfagdjaaGreatDoorChecked
import Derived.WalkKit
import Derived.LaidEql
import Derived.Stop.Asserts
import Derived.RowKitTokens
namespace Go.Proofs.YtbjifikbfagdjaaGreatDoor
open Go.RowKit Go.Extern.Stop Go.Stop Go.Extern
namespace ErrC

theorem as_nil (t : Value) (w : World) : Calls Tryz.prog 26 #[.nilIface, t] w fun e w' => e = .returned (.bool false) ∧ w = w' := by
  go_enter Tryz.func26, Tryz.ntmps26
  go_wp2
  go_ret
  exact ⟨rfl, rfl⟩

/-! ### closed facts -/
theorem vo_pp (t : Addr) (w : World) : (ReflectliteValue.unpack (.iface 70 (.pointer (some t)))).run Tryz.prog w = .ok (.agg #[.pointer (some ⟨15, 70, none⟩), .pointer (some ⟨w.heap.size, 0, none⟩), .int .u64 150]) (w.alloc (.cells #[.pointer (some t)] 70)) := by kernel_rfl
theorem ty_pp (a : Addr) (w : World) : (ReflectliteValue.methodAny (ReflectliteValue.valueError "reflectlite.Value.Type" 0) (fun t _ _ _ => ReflectliteType.toType t) #[.agg #[.pointer (some ⟨15, 70, none⟩), .pointer (some a), .int .u64 150]]).run Tryz.prog w = .ok (.iface 127 (.agg #[.pointer (some ⟨15, 70, none⟩)])) w := by kernel_rfl
theorem m_kind (v : Value) (w : World) : (Go.method 531 127 (.agg #[v]) "Kind").run Tryz.prog w = .ok (352, v) w := by kernel_rfl
theorem m_elem (v : Value) (w : World) : (Go.method 531 127 (.agg #[v]) "Elem").run Tryz.prog w = .ok (365, .agg #[v]) w := by kernel_rfl
theorem m_imp (v : Value) (w : World) : (Go.method 531 127 (.agg #[v]) "Implements").run Tryz.prog w = .ok (366, .agg #[v]) w := by kernel_rfl
theorem m_asg (v : Value) (w : World) : (Go.method 531 127 (.agg #[v]) "AssignableTo").run Tryz.prog w = .ok (363, .agg #[v]) w := by kernel_rfl
theorem kind_pp (w : World) : ((ReflectliteType.abiMethod fun t => (fun a : Nat => Value.int IntKind.u8 (a : Int)) <$> Rtype.kind t) #[.pointer (some ⟨15, 70, none⟩)]).run Tryz.prog w = .ok (.int .u8 22) w := by kernel_rfl
theorem kind_fp (w : World) : ((ReflectliteType.abiMethod fun t => (fun a : Nat => Value.int IntKind.u8 (a : Int)) <$> Rtype.kind t) #[.pointer (some ⟨15, 68, none⟩)]).run Tryz.prog w = .ok (.int .u8 22) w := by kernel_rfl
theorem el_pp (w : World) : (ReflectliteType.method ReflectliteType.elem #[.agg #[.pointer (some ⟨15, 70, none⟩)]]).run Tryz.prog w = .ok (.iface 127 (.agg #[.pointer (some ⟨15, 68, none⟩)])) w := by kernel_rfl
theorem imp_fp (w : World) : (ReflectliteType.relation "Implements" ReflectliteType.implements_ #[.agg #[.pointer (some ⟨15, 68, none⟩)], .iface 127 (.agg #[.pointer (some ⟨15, 36, none⟩)])]).run Tryz.prog w = .ok (.bool true) w := by kernel_rfl
theorem to_fp (v : Value) (w : World) : (ReflectliteType.typeOf #[.iface 68 v]).run Tryz.prog w = .ok (.iface 127 (.agg #[.pointer (some ⟨15, 68, none⟩)])) w := by kernel_rfl
theorem asg_fp (w : World) : (ReflectliteType.relation "AssignableTo" ReflectliteType.assignableTo #[.agg #[.pointer (some ⟨15, 68, none⟩)], .iface 127 (.agg #[.pointer (some ⟨15, 68, none⟩)])]).run Tryz.prog w = .ok (.bool true) w := by kernel_rfl
theorem vo_fp (e : Addr) (w : World) : (ReflectliteValue.unpack (.iface 68 (.pointer (some e)))).run Tryz.prog w = .ok (.agg #[.pointer (some ⟨15, 68, none⟩), .pointer (some ⟨w.heap.size, 0, none⟩), .int .u64 150]) (w.alloc (.cells #[.pointer (some e)] 68)) := by kernel_rfl

/-! ### what reads or writes memory -/
theorem parts_pp (a : Addr) (w : World) : (ReflectliteValue.parts (.agg #[.pointer (some ⟨15, 70, none⟩), .pointer (some a), .int .u64 150])).run Tryz.prog w = .ok (some (70, a, 150)) w := by kernel_rfl
theorem parts_var (a : Addr) (w : World) : (ReflectliteValue.parts (.agg #[.pointer (some ⟨15, 68, none⟩), .pointer (some a), .int .u64 406])).run Tryz.prog w = .ok (some (68, a, 406)) w := by kernel_rfl
theorem parts_fp (a : Addr) (w : World) : (ReflectliteValue.parts (.agg #[.pointer (some ⟨15, 68, none⟩), .pointer (some a), .int .u64 150])).run Tryz.prog w = .ok (some (68, a, 150)) w := by kernel_rfl
theorem elem_pp (w : World) : (Rtype.elem? 70).run Tryz.prog w = .ok (some 68) w := by kernel_rfl
theorem mk_fp (p : Addr) (w : World) : (ReflectliteValue.mk 68 p ReflectliteValue.flagAddr).run Tryz.prog w = .ok (.agg #[.pointer (some ⟨15, 68, none⟩), .pointer (some p), .int .u64 406]) w := by kernel_rfl
theorem direct_fp (w : World) : (Rtype.directlyAssignable 68 68).run Tryz.prog w = .ok true w := by kernel_rfl
theorem size_fp (w : World) : (sizeOf 68).run Tryz.prog w = .ok 1 w := by kernel_rfl
theorem method_is (z : Sem Value) (g : TypeId → Addr → Nat → Nat → Sem Value) (v : Value) :
    ReflectliteValue.method z g #[v] = (do match ← ReflectliteValue.parts v with | none => z | some (t, a, fl) => g t a fl (fl % 32)) := rfl
theorem nil_pp (a p : Addr) (W : World) (ha : W.cell? a = some (.pointer (some p))) :
    (ReflectliteValue.method (ReflectliteValue.valueError "reflectlite.Value.IsNil" 0) ReflectliteValue.isNil #[.agg #[.pointer (some ⟨15, 70, none⟩), .pointer (some a), .int .u64 150]]).run Tryz.prog W = .ok (.bool false) W := by
  rw [method_is]
  simp only [Sem.run_bind, parts_pp, Result.andThen]
  simp [ReflectliteValue.isNil, loadVar, isAgg, underlying, Tryz.underlying70, ha, Result.andThen]
theorem elemV_pp (a p : Addr) (W : World) (ha : W.cell? a = some (.pointer (some p))) :
    (ReflectliteValue.method (ReflectliteValue.valueError "reflectlite.Value.Elem" 0) ReflectliteValue.elem #[.agg #[.pointer (some ⟨15, 70, none⟩), .pointer (some a), .int .u64 150]]).run Tryz.prog W
      = .ok (.agg #[.pointer (some ⟨15, 68, none⟩), .pointer (some p), .int .u64 406]) W := by
  rw [method_is]
  simp only [Sem.run_bind, parts_pp, Result.andThen]
  simp [ReflectliteValue.elem, loadVar, isAgg, underlying, Tryz.underlying70, ha, Result.andThen, elem_pp, mk_fp]
theorem set_fp (ta b e : Addr) (old : Value) (W : World) (hb : W.cell? b = some (.pointer (some e))) (ht : W.cell? ta = some old) (hf : W.frozen? ta = false) :
    (ReflectliteValue.set #[.agg #[.pointer (some ⟨15, 68, none⟩), .pointer (some ta), .int .u64 406], .agg #[.pointer (some ⟨15, 68, none⟩), .pointer (some b), .int .u64 150]]).run Tryz.prog W = .ok (.tuple #[]) (W.setCell ta (.pointer (some e))) := by
  delta ReflectliteValue.set
  change Sem.run Tryz.prog (Bind.bind (ReflectliteValue.parts (.agg #[.pointer (some ⟨15, 68, none⟩), .pointer (some ta), .int .u64 406])) fun a => Bind.bind (ReflectliteValue.parts (.agg #[.pointer (some ⟨15, 68, none⟩), .pointer (some b), .int .u64 150])) _) W = _
  rw [Sem.run_bind, parts_var]
  simp only [Sem.run_bind, parts_fp, Result.andThen]
  simp [ReflectliteValue.flagAddr, loadVar, isAgg, underlying, Tryz.underlying68, hb, Result.andThen, direct_fp, storeVar, Value.cells, storeCells, Addr.add]
  rw [run_store Tryz.prog W ta _ _ (by rfl)]
  simp [ht, hf]

/-- what the listed variable holds -/
def ErrType (w : World) : Prop := w.cell? ⟨0, 0, none⟩ = some (.iface 127 (.agg #[.pointer (some ⟨15, 36, none⟩)]))
/-- the box that reflectlite makes of the variable's address -/
def boxV (n : Nat) : Array Value := #[.pointer (some ⟨15, 70, none⟩), .pointer (some ⟨n, 0, none⟩), .int .u64 150]
def asW1 (w : World) (t : Addr) : World := w.alloc (.cells #[.pointer (some t)] 70)
def asW2 (w : World) (t : Addr) : World := (asW1 w t).alloc (.cells (boxV w.heap.size) 95)
def asW3 (w : World) (t : Addr) : World := (asW2 w t).alloc (.cells (boxV w.heap.size) 95)
def asW4 (w : World) (t e : Addr) : World := (asW3 w t).alloc (.cells #[.pointer (some e)] 68)
theorem asW_size (w : World) (t e : Addr) : (asW1 w t).heap.size = w.heap.size + 1 ∧ (asW2 w t).heap.size = w.heap.size + 2 ∧ (asW3 w t).heap.size = w.heap.size + 3 ∧ (asW4 w t e).heap.size = w.heap.size + 4 := by
  simp [asW1, asW2, asW3, asW4]
theorem asW_below (w : World) (t e : Addr) (B : Nat) (h : B ≤ w.heap.size) : Below B w (asW1 w t) ∧ Below B w (asW2 w t) ∧ Below B w (asW3 w t) ∧ Below B w (asW4 w t e) := by
  have h1 : Below B w (asW1 w t) := (Below.refl _ _).alloc h _
  have h2 : Below B w (asW2 w t) := h1.alloc (by simp [asW1]; omega) _
  have h3 : Below B w (asW3 w t) := h2.alloc (by simp [asW1, asW2]; omega) _
  have h4 : Below B w (asW4 w t e) := h3.alloc (by simp [asW1, asW2, asW3]; omega) _
  exact ⟨h1, h2, h3, h4⟩

set_option maxHeartbeats 4000000 in
theorem as_hit (e t : Addr) (old : Value) (w : World) (hg : ErrType w) (ht0 : w.cell? t = some old) (hf0 : w.frozen? t = false) :
    Calls Tryz.prog 26 #[.iface 68 (.pointer (some e)), .iface 70 (.pointer (some t))] w fun ev w' => ev = .returned (.bool true) ∧ w' = (asW4 w t e).setCell t (.pointer (some e)) := by
  have x1 := @run_callFunc_extern Tryz.prog 38 _ (fun args => ReflectliteValue.unpack (args.getD 0 (.tuple #[]))) Tryz.func38 (by kernel_rfl) (by kernel_rfl) (by kernel_rfl) (by kernel_rfl)
  have x2 := @run_callFunc_extern Tryz.prog 39 _ (ReflectliteValue.methodAny (ReflectliteValue.valueError "reflectlite.Value.Type" 0) (fun t _ _ _ => ReflectliteType.toType t)) Tryz.func39 (by kernel_rfl) (by kernel_rfl) (by kernel_rfl) (by kernel_rfl)
  have x3 := @run_callFunc_extern Tryz.prog 40 _ (ReflectliteValue.method (ReflectliteValue.valueError "reflectlite.Value.IsNil" 0) ReflectliteValue.isNil) Tryz.func40 (by kernel_rfl) (by kernel_rfl) (by kernel_rfl) (by kernel_rfl)
  have x4 := @run_callFunc_extern Tryz.prog 352 _ (ReflectliteType.abiMethod fun t => do pure (.int .u8 (← Rtype.kind t))) Tryz.func352 (by kernel_rfl) (by kernel_rfl) (by kernel_rfl) (by kernel_rfl)
  have x5 := @run_callFunc_extern Tryz.prog 365 _ (ReflectliteType.method ReflectliteType.elem) Tryz.func365 (by kernel_rfl) (by kernel_rfl) (by kernel_rfl) (by kernel_rfl)
  have x6 := @run_callFunc_extern Tryz.prog 366 _ (ReflectliteType.relation "Implements" ReflectliteType.implements_) Tryz.func366 (by kernel_rfl) (by kernel_rfl) (by kernel_rfl) (by kernel_rfl)
  have x7 := @run_callFunc_extern Tryz.prog 51 _ (ReflectliteType.typeOf) Tryz.func51 (by kernel_rfl) (by kernel_rfl) (by kernel_rfl) (by kernel_rfl)
  have x8 := @run_callFunc_extern Tryz.prog 363 _ (ReflectliteType.relation "AssignableTo" ReflectliteType.assignableTo) Tryz.func363 (by kernel_rfl) (by kernel_rfl) (by kernel_rfl) (by kernel_rfl)
  have x9 := @run_callFunc_extern Tryz.prog 54 _ (ReflectliteValue.method (ReflectliteValue.valueError "reflectlite.Value.Elem" 0) ReflectliteValue.elem) Tryz.func54 (by kernel_rfl) (by kernel_rfl) (by kernel_rfl) (by kernel_rfl)
  have x10 := @run_callFunc_extern Tryz.prog 55 _ (ReflectliteValue.set) Tryz.func55 (by kernel_rfl) (by kernel_rfl) (by kernel_rfl) (by kernel_rfl)
  have y1 := to_fp
  have y2 := m_asg
  have y3 := asg_fp
  have y4 := vo_fp
  have y5 := vo_pp
  have y6 := ty_pp
  have y7 := m_kind
  have y8 := m_elem
  have y9 := m_imp
  have y10 := kind_pp
  have y11 := kind_fp
  have y12 := el_pp
  have y13 := imp_fp
  have htl : t.block < w.heap.size := World.block_lt_of_cell? _ _ ht0
  have hlt : 0 < w.heap.size := World.block_lt_of_cell? _ _ hg
  have y14 := nil_pp ⟨w.heap.size, 0, none⟩ t ((w.alloc (.cells #[.pointer (some t)] 70)).alloc (.cells #[.pointer (some ⟨15, 70, none⟩), .pointer (some ⟨w.heap.size, 0, none⟩), .int .u64 150] 95)) (by simp)
  have y15 := elemV_pp ⟨w.heap.size, 0, none⟩ t (((w.alloc (.cells #[.pointer (some t)] 70)).alloc (.cells #[.pointer (some ⟨15, 70, none⟩), .pointer (some ⟨w.heap.size, 0, none⟩), .int .u64 150] 95)).alloc (.cells #[.pointer (some ⟨15, 70, none⟩), .pointer (some ⟨w.heap.size, 0, none⟩), .int .u64 150] 95)) (by rw [World.cell?_alloc_lt _ _ ⟨w.heap.size, 0, none⟩ (by simp; omega)]; simp)
  have hg2 : ((w.alloc (.cells #[.pointer (some t)] 70)).alloc (.cells #[.pointer (some ⟨15, 70, none⟩), .pointer (some ⟨w.heap.size, 0, none⟩), .int .u64 150] 95)).cell? ⟨0, 0, none⟩ = some (.iface 127 (.agg #[.pointer (some ⟨15, 36, none⟩)])) := by
    rw [World.cell?_alloc_lt _ _ ⟨0, 0, none⟩ (by simp <;> omega), World.cell?_alloc_lt _ _ ⟨0, 0, none⟩ hlt]; exact hg
  have y16 := set_fp t ⟨w.heap.size + 1 + 1 + 1, 0, none⟩ e old ((((w.alloc (.cells #[.pointer (some t)] 70)).alloc (.cells #[.pointer (some ⟨15, 70, none⟩), .pointer (some ⟨w.heap.size, 0, none⟩), .int .u64 150] 95)).alloc (.cells #[.pointer (some ⟨15, 70, none⟩), .pointer (some ⟨w.heap.size, 0, none⟩), .int .u64 150] 95)).alloc (.cells #[.pointer (some e)] 68))
    (by rw [World.cell?_alloc_at _ _ _ _ (by simp)]; rfl)
    (by rw [World.cell?_alloc_lt _ _ t (by simp; omega), World.cell?_alloc_lt _ _ t (by simp; omega), World.cell?_alloc_lt _ _ t (by simp; omega), World.cell?_alloc_lt _ _ t htl]; exact ht0)
    (by rw [World.frozen?_alloc_old _ _ t (by simp; omega), World.frozen?_alloc_old _ _ t (by simp; omega), World.frozen?_alloc_old _ _ t (by simp; omega), World.frozen?_alloc_old _ _ t (Nat.ne_of_lt htl)]; exact hf0)
  clear hg
  go_enter Tryz.func26, Tryz.ntmps26
  go_wp2
  refine wp_loop_rounds 1 ?_
  rw [rounds_succ]
  go_wp2
  go_ret
  exact ⟨rfl, rfl⟩
end ErrC
end Go.Proofs.YtbjifikbfagdjaaGreatDoor
