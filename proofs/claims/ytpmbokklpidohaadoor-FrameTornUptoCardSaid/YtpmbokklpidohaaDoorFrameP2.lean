/-
  Package frame's first: whether a record stands at the front of bytes, and its payload.
-/
import Derived.Test.YtpmbokklpidohaaDoorFrameP
import Derived.ChangeKeysEq
import Derived.Laws.StructEq
import Derived.Laws.CopyRow
namespace Go.Proofs.YtpmbokklpidohaaDoor
open Go.RowKit
namespace FrameC
open FrameM
open CodeM (wordB wordB_length byteV)

/-! ### two heads held against each other -/
theorem info_byte : (Tryd.prog.info? 5).map (fun i => (i.zero, i.size, i.bytes)) = some (some (.int .u8 0), 1, 1) := by kernel_rfl
theorem cells_u8 : Tryd.prog.cellsOf 5 = 1 := by kernel_rfl
theorem plain_u8 : Tryd.prog.plainKey 5 = true := by kernel_rfl
theorem items_any (xs ys : List UInt8) (w : World) : ∀ is : List Nat, (∀ i ∈ is, i < xs.length ∧ i < ys.length) →
    (Op.eqItems 9999 5 1 (bytesV xs) (bytesV ys) is).run Tryd.prog w = .ok (is.all fun i => xs[i]? == ys[i]?) w
  | [], _ => by simp [Op.eqItems]
  | i :: is, h => by
    obtain ⟨h1, h2⟩ := h i (by simp)
    have e1 := run_part_plain (P := Tryd.prog) w plain_u8 (xs := bytesV xs) (off := i) (bytesV_get xs i h1)
    have e2 := run_part_plain (P := Tryd.prog) w plain_u8 (xs := bytesV ys) (off := i) (bytesV_get ys i h2)
    have e3 := run_equalIn_int (P := Tryd.prog) w 9998 5 .u8 .u8 (xs[i].toNat : Int) (ys[i].toNat : Int) Tryd.underlying5
    have e4 : (((xs[i].toNat : Int)) == ((ys[i].toNat : Int))) = (xs[i]? == ys[i]?) := by
      rw [List.getElem?_eq_getElem h1, List.getElem?_eq_getElem h2, Bool.eq_iff_iff, beq_iff_eq, beq_iff_eq, Option.some.injEq, ← UInt8.toNat_inj]
      omega
    have ih := items_any xs ys w is (fun j hj => h j (by simp [hj]))
    simp only [Op.eqItems, Nat.mul_one, Sem.run_bind, e1, e2, e3, Result.andThen_ok, e4]
    cases hb : xs[i]? == ys[i]? with
    | false => simp [hb]
    | true => simp only [Bool.not_true, Bool.false_eq_true, if_false, ih, List.all_cons, hb, Bool.true_and]
theorem all_iff (xs ys : List UInt8) (n : Nat) (hx : xs.length = n) (hy : ys.length = n) : ((List.range n).all fun i => xs[i]? == ys[i]?) = decide (xs = ys) := by
  rw [Bool.eq_iff_iff, List.all_eq_true, decide_eq_true_iff]
  constructor
  · intro h
    apply List.ext_getElem?
    intro i
    by_cases hi : i < n
    · exact beq_iff_eq.1 (h i (List.mem_range.2 hi))
    · rw [List.getElem?_eq_none (by omega), List.getElem?_eq_none (by omega)]
  · rintro rfl i _
    exact beq_self_eq_true _
theorem neq_any (xs ys : List UInt8) (hx : xs.length = 12) (hy : ys.length = 12) (w : World) : (binOp .neq 49 (.agg (bytesV xs)) (.agg (bytesV ys))).run Tryd.prog w = .ok (.bool (!decide (xs = ys))) w := by
  obtain ⟨i, hi, -, -, -⟩ := info_parts info_byte
  rw [run_neq_struct, run_equalIn_array w 9999 (bytesV xs) (bytesV ys) Tryd.underlying49 hi, cells_u8, items_any xs ys w (List.range 12) (fun i h => by have := List.mem_range.1 h; omega), all_iff xs ys 12 hx hy]
  rfl

theorem equal_any (xs ys : List UInt8) (hx : xs.length = 12) (hy : ys.length = 12) (w : World) : (Op.equalIn 10000 49 (.agg (bytesV xs)) (.agg (bytesV ys))).run Tryd.prog w = .ok (decide (xs = ys)) w := by
  obtain ⟨i, hi, -, -, -⟩ := info_parts info_byte
  rw [run_equalIn_array w 9999 (bytesV xs) (bytesV ys) Tryd.underlying49 hi, cells_u8, items_any xs ys w (List.range 12) (fun i h => by have := List.mem_range.1 h; omega), all_iff xs ys 12 hx hy]
/-! ### copy(h[:], s) -/
theorem run_copy_head (l : List UInt8) (g : Nat) (ty : TypeId) (w : World) (hg : w.heap[g]? = some (.cells (bytesV zeros) 49 (0, 0))) :
    (Builtin.copy_ #[32, 9] ty #[.slice (some ⟨g, 0, none⟩) 12 12, .string (str l)]).run Tryd.prog w = .ok (.int .i64 ((min l.length 12 : Nat) : Int)) (w.setRow g (bytesV (l.take 12 ++ zeros.drop l.length))) := by
  have hvs : (((l.take 12).map byteV)).length = min l.length 12 := by rw [List.length_map, List.length_take, Nat.min_comm]
  have hst := run_storeCells_at Tryd.prog g 0 49 ((l.take 12).map byteV) 0 (bytesV zeros) w hg (by rw [hvs, bytesV_size]; exact Nat.le_trans (Nat.le_of_eq (by simp)) (Nat.min_le_right l.length 12)) (by
    intro v hv
    obtain ⟨c, _, rfl⟩ := List.mem_map.1 hv
    rfl)
  rw [hvs] at hst
  obtain ⟨i, hi, -, -, -⟩ := info_parts info_byte
  have hmin : Nat.min (str l).size 12 = min l.length 12 := by rw [str_size]
  have htk : List.take (min l.length 12) (List.map (fun b : UInt8 => Value.int IntKind.u8 (b.toNat : Int)) l) = (l.take 12).map byteV := by
    rw [← List.map_take]
    have e : l.take (min l.length 12) = l.take 12 := by
      by_cases h : l.length ≤ 12
      · exact (List.take_of_length_le (by omega)).trans (List.take_of_length_le h).symm
      · rw [Nat.min_eq_right (by omega)]
    rw [e]
    rfl
  have hdz : zeros.drop (min l.length 12) = zeros.drop l.length := by
    by_cases h : l.length ≤ 12
    · rw [Nat.min_eq_left h]
    · rw [Nat.min_eq_right (by omega), List.drop_of_length_le (show zeros.length ≤ 12 from Nat.le_refl _), List.drop_of_length_le (show zeros.length ≤ l.length from Nat.le_of_lt (Nat.lt_of_not_le h))]
  have hrow : ((bytesV zeros).toList.take (0 + 0) ++ (l.take 12).map byteV ++ (bytesV zeros).toList.drop (0 + 0 + min l.length 12)).toArray = bytesV (l.take 12 ++ zeros.drop l.length) := by
    unfold bytesV
    rw [Nat.zero_add, Nat.zero_add, List.take_zero, List.nil_append, List.map_append, ← hdz, ← List.map_drop]
  rw [hrow] at hst
  simp [Builtin.copy_, run_underlying Tryd.underlying32, Builtin.lenOf, Builtin.firstCells, sizeOf, typeInfo, hi, hmin, str_list]
  rw [htk, hst]
  rfl
theorem wpList_copy_eq {P : Program} (w : World) {ops : Array Oper} {rest : List Oper} {o : Oper} {a : Act} {Q : Exit → Act → World → Prop} (hgd : o.guard = none) (d s : Operand) (t t' : TypeId)
    (ho : o.op = .call { callee := .builtin .copy, args := #[d, s], argTypes := #[t, t'] }) (v u : Value) (hd : a.eval d = v) (hs : a.eval s = u) {v' : Value} {w' : World}
    (hr : (Builtin.copy_ #[t, t'] o.type #[v, u]).run P w = .ok v' w') (h : wpList P ops Q rest (a.put o.dst v') w') : wpList P ops Q (o :: rest) a w :=
  wpList_plain hgd fun _ hK => by
    unfold Oper.wp execOp
    simp only [ho, resolve, invoke, builtin, Sem.run_bind, Sem.run_pure, Result.andThen_ok, List.map_toArray, List.map_cons, List.map_nil, hd, hs, hr]
    exact hK _ _ h

theorem zeros_eq : bytesV zeros = #[.int .u8 0, .int .u8 0, .int .u8 0, .int .u8 0, .int .u8 0, .int .u8 0, .int .u8 0, .int .u8 0, .int .u8 0, .int .u8 0, .int .u8 0, .int .u8 0] := rfl
/-- a head's twelve cells -/
theorem twelve (H : List UInt8) (h : H.length = 12) : ∃ c0 c1 c2 c3 c4 c5 c6 c7 c8 c9 c10 c11, H = [c0, c1, c2, c3, c4, c5, c6, c7, c8, c9, c10, c11] := by
  match H, h with
  | [c0, c1, c2, c3, c4, c5, c6, c7, c8, c9, c10, c11], _ => exact ⟨c0, c1, c2, c3, c4, c5, c6, c7, c8, c9, c10, c11, rfl⟩
structure Cells12 (w : World) (g : Nat) (c0 c1 c2 c3 c4 c5 c6 c7 c8 c9 c10 c11 : UInt8) : Prop where
  k0 : w.cell? ⟨g, 0, none⟩ = some (.int .u8 (c0.toNat : Int))
  k1 : w.cell? ⟨g, 1, none⟩ = some (.int .u8 (c1.toNat : Int))
  k2 : w.cell? ⟨g, 2, none⟩ = some (.int .u8 (c2.toNat : Int))
  k3 : w.cell? ⟨g, 3, none⟩ = some (.int .u8 (c3.toNat : Int))
  k4 : w.cell? ⟨g, 4, none⟩ = some (.int .u8 (c4.toNat : Int))
  k5 : w.cell? ⟨g, 5, none⟩ = some (.int .u8 (c5.toNat : Int))
  k6 : w.cell? ⟨g, 6, none⟩ = some (.int .u8 (c6.toNat : Int))
  k7 : w.cell? ⟨g, 7, none⟩ = some (.int .u8 (c7.toNat : Int))
  k8 : w.cell? ⟨g, 8, none⟩ = some (.int .u8 (c8.toNat : Int))
  k9 : w.cell? ⟨g, 9, none⟩ = some (.int .u8 (c9.toNat : Int))
  k10 : w.cell? ⟨g, 10, none⟩ = some (.int .u8 (c10.toNat : Int))
  k11 : w.cell? ⟨g, 11, none⟩ = some (.int .u8 (c11.toNat : Int))
theorem cells12 {w : World} {g : Nat} {t : TypeId} {c0 c1 c2 c3 c4 c5 c6 c7 c8 c9 c10 c11 : UInt8} (h : w.heap[g]? = some (.cells (bytesV [c0, c1, c2, c3, c4, c5, c6, c7, c8, c9, c10, c11]) t (0, 0))) : Cells12 w g c0 c1 c2 c3 c4 c5 c6 c7 c8 c9 c10 c11 := by
  constructor <;> · rw [cell_of_row w g _ _ t _ h]; rfl
theorem Cells12.below {w w' : World} {g : Nat} {c0 c1 c2 c3 c4 c5 c6 c7 c8 c9 c10 c11 : UInt8} (h : Cells12 w g c0 c1 c2 c3 c4 c5 c6 c7 c8 c9 c10 c11) (hb : Below w.heap.size w w') : Cells12 w' g c0 c1 c2 c3 c4 c5 c6 c7 c8 c9 c10 c11 := by
  have hlt : g < w.heap.size := World.block_lt_of_cell? _ _ h.k0
  constructor
  · rw [hb.cell hlt]; exact h.k0
  · rw [hb.cell hlt]; exact h.k1
  · rw [hb.cell hlt]; exact h.k2
  · rw [hb.cell hlt]; exact h.k3
  · rw [hb.cell hlt]; exact h.k4
  · rw [hb.cell hlt]; exact h.k5
  · rw [hb.cell hlt]; exact h.k6
  · rw [hb.cell hlt]; exact h.k7
  · rw [hb.cell hlt]; exact h.k8
  · rw [hb.cell hlt]; exact h.k9
  · rw [hb.cell hlt]; exact h.k10
  · rw [hb.cell hlt]; exact h.k11
/-! ### first -/
theorem len_take12 (l : List UInt8) : lenB (l.take 12) = lenB l := by unfold lenB; rw [List.take_take]; rfl
theorem sl_to_u (l : List UInt8) (n : Nat) (h1 : n ≤ l.length) (w : World) :
    (Instr.slice 9 (.string (str l)) none (some (.int .u64 (n : Int))) none).run Tryd.prog w = .ok (.string (str (l.take n))) w := by
  rw [run_slice_string_h w 9 (str l) Tryd.underlying9 .u64 _ (by omega) (by rw [str_size]; omega), Int.toNat_natCast, str_extract]; rfl
def FirstE (l : List UInt8) (w : World) (e : Ending) (w' : World) : Prop := e = .returned (.tuple #[.string (str (frontP l)), .int .i64 (frontE l : Nat)]) ∧ Below w.heap.size w w'
theorem first_bad {l : List UInt8} {c : Nat} (h : frontE l = c) (hc : c ≠ 0) : (.returned (.tuple #[.string (str (frontP l)), .int .i64 (frontE l : Nat)]) : Ending) = .returned (.tuple #[.string (str []), .int .i64 (c : Int)]) := by simp [frontP, h, hc]
theorem first_ok {l : List UInt8} (h : frontE l = 0) : (.returned (.tuple #[.string (str (frontP l)), .int .i64 (frontE l : Nat)]) : Ending) = .returned (.tuple #[.string (str (payB l)), .int .i64 0]) := by simp [frontP, h]

set_option maxHeartbeats 4000000 in
set_option maxRecDepth 100000 in
theorem first_any (l : List UInt8) (w : World) (hp : l.length ≤ 4611686018427387000) :
    Calls Tryd.prog 24 #[.string (str l)] w (FirstE l w) := by
  have hsz := str_size l
  have hnew := heap_alloc_new w (.cells (bytesV zeros) 49)
  have hcopy := run_copy_head l w.heap.size 3 (w.alloc (.cells (bytesV zeros) 49)) hnew
  have hB : Hid (Below w.heap.size w ((w.alloc (.cells (bytesV zeros) 49)).setRow w.heap.size (bytesV (l.take 12 ++ zeros.drop l.length)))) := Lib.hid (below_setRow ((Below.refl _ _).alloc (Nat.le_refl _) _) (Nat.le_refl _) _)
  have hrow := setRow_heap _ _ _ (bytesV (l.take 12 ++ zeros.drop l.length)) _ _ hnew
  have hc12 : Hid (12 ≤ l.length → l.take 12 ++ zeros.drop l.length = l.take 12) := Lib.hid (fun h => by rw [List.drop_of_length_le (show zeros.length ≤ l.length from h), List.append_nil])
  generalize hw1 : (w.alloc (.cells (bytesV zeros) 49)).setRow w.heap.size (bytesV (l.take 12 ++ zeros.drop l.length)) = w1 at *
  rw [zeros_eq] at hcopy
  clear hw1 hnew
  have HROW := Lib.hid hrow
  clear hrow
  by_cases h12 : l.length < 12
  · have hE := Lib.hid (first_bad (front_short l h12) (by decide))
    have ht : decide (((min l.length 12 : Nat) : Int) < 12) = true := by simp; omega
    go_enter Tryd.func24, Tryd.ntmps24
    go_wp2_with fail
    go_ret2
    exact ⟨hE.out.symm, hB.out⟩
  · have ht : decide (((min l.length 12 : Nat) : Int) < 12) = false := by simp; omega
    have hmin : min l.length 12 = 12 := by omega
    rw [hmin] at hcopy
    have hH := hc12.out (by omega)
    rw [hH] at HROW
    have hHl : (l.take 12).length = 12 := by rw [List.length_take]; omega
    have s1 := sl_from l 12 12 rfl (by omega)
    have HL := Lib.hid (len_take12 l)
    obtain ⟨m, hm⟩ : ∃ m, l.length = 12 + m := ⟨l.length - 12, by omega⟩
    have hdl : (str (l.drop 12)).size = m := by rw [str_size, List.length_drop]; omega
    clear hH hc12 ht hmin
    have HN := Lib.hid (lenB_lt l)
    have ht1 := Lib.hid (show (l.take 12).take 4 = l.take 4 by rw [List.take_take]; rfl)
    obtain ⟨c0, c1, c2, c3, c4, c5, c6, c7, c8, c9, c10, c11, hHH⟩ := twelve _ hHl
    rw [hHH] at HROW HL
    have HC := Lib.hid (cells12 HROW.out)
    have k0 := HC.out.k0
    have k1 := HC.out.k1
    have k2 := HC.out.k2
    have k3 := HC.out.k3
    have k4 := HC.out.k4
    have k5 := HC.out.k5
    have k6 := HC.out.k6
    have k7 := HC.out.k7
    have k8 := HC.out.k8
    have k9 := HC.out.k9
    have k10 := HC.out.k10
    have k11 := HC.out.k11
    have HHH := Lib.hid hHH
    clear hHH hHl HROW
    go_enter Tryd.func24, Tryd.ntmps24
    go_wp2_with fail
    go_region_with (first
      | (go_at_call 30
         refine (length_any [c0, c1, c2, c3, c4, c5, c6, c7, c8, c9, c10, c11] rfl _).mono ?_
         rw [HL.out]
         rintro e w2 ⟨rfl, hb2⟩
         have HB2 : Hid (Below w1.heap.size w1 w2) := Lib.hid ⟨hb2.os, hb2.tape, hb2.output, hb2.size, hb2.block⟩
         clear hb2))
    have HBB := Lib.hid (hB.out.trans (HB2.out.mono hB.out.size))
    have HC2 := Lib.hid (HC.out.below HB2.out)
    clear k0 k1 k2 k3 k4 k5 k6 k7 k8 k9 k10 k11 HC HB2 hB hcopy s1
    by_cases hlong : 131072 < lenB l
    · have hE := Lib.hid (first_bad (front_long l h12 hlong) (by decide))
      generalize lenB l = n at *
      have ht2 : decide (131072 < (n : Int)) = true := by simp; omega
      go_wp2_with fail
      go_ret2
      exact ⟨hE.out.symm, HBB.out⟩
    · by_cases htorn : l.length < 12 + lenB l
      · have hE := Lib.hid (first_bad (front_torn l h12 hlong htorn) (by decide))
        have hm2 : m < lenB l := by omega
        generalize lenB l = n at *
        have ht2 : decide (131072 < (n : Int)) = false := by simp; omega
        have ht3 : decide ((m : Int) < (n : Int)) = true := by simp; omega
        go_wp2_with fail
        go_ret2
        exact ⟨hE.out.symm, HBB.out⟩
      · have hm2 : ¬ m < lenB l := by omega
        have hok := Lib.hid (fun h => first_ok (front_ok l h12 hlong htorn h))
        have hbad := Lib.hid (fun h => first_bad (front_bad l h12 hlong htorn h) (by decide))
        have hhead := Lib.hid (head_iff l htorn)
        have s2 := sl_to_u (l.drop 12) (lenB l) (by rw [List.length_drop]; omega)
        change ∀ w, _ = Result.ok (Value.string (str (payB l))) w at s2
        have hpl := Lib.hid (payB_length l htorn)
        rw [HHH.out] at hhead
        generalize lenB l = n at *
        have ht2 : decide (131072 < (n : Int)) = false := by simp; omega
        have ht3 : decide ((m : Int) < (n : Int)) = false := by simp; omega
        generalize payB l = P at *
        by_cases hs : [c0, c1, c2, c3, c4, c5, c6, c7, c8, c9, c10, c11] = headB P
        · have hE := Lib.hid (hok.out (hhead.out.1 hs))
          clear hok hbad hhead
          have hneq : ∀ w, (binOp .neq 49 (.agg #[.int .u8 (c0.toNat : Int), .int .u8 (c1.toNat : Int), .int .u8 (c2.toNat : Int), .int .u8 (c3.toNat : Int), .int .u8 (c4.toNat : Int), .int .u8 (c5.toNat : Int), .int .u8 (c6.toNat : Int), .int .u8 (c7.toNat : Int), .int .u8 (c8.toNat : Int), .int .u8 (c9.toNat : Int), .int .u8 (c10.toNat : Int), .int .u8 (c11.toNat : Int)]) (.agg (bytesV (headB P)))).run Tryd.prog w = .ok (.bool false) w := fun w => (neq_any [c0, c1, c2, c3, c4, c5, c6, c7, c8, c9, c10, c11] (headB P) rfl (headB_length P) w).trans (by simp [hs])
          have heql : ∀ w, (Op.equalIn 10000 49 (.agg #[.int .u8 (c0.toNat : Int), .int .u8 (c1.toNat : Int), .int .u8 (c2.toNat : Int), .int .u8 (c3.toNat : Int), .int .u8 (c4.toNat : Int), .int .u8 (c5.toNat : Int), .int .u8 (c6.toNat : Int), .int .u8 (c7.toNat : Int), .int .u8 (c8.toNat : Int), .int .u8 (c9.toNat : Int), .int .u8 (c10.toNat : Int), .int .u8 (c11.toNat : Int)]) (.agg (bytesV (headB P)))).run Tryd.prog w = .ok true w := fun w => (equal_any [c0, c1, c2, c3, c4, c5, c6, c7, c8, c9, c10, c11] (headB P) rfl (headB_length P) w).trans (by simp [hs])
          clear hs
          have k0 := HC2.out.k0
          have k1 := HC2.out.k1
          have k2 := HC2.out.k2
          have k3 := HC2.out.k3
          have k4 := HC2.out.k4
          have k5 := HC2.out.k5
          have k6 := HC2.out.k6
          have k7 := HC2.out.k7
          have k8 := HC2.out.k8
          have k9 := HC2.out.k9
          have k10 := HC2.out.k10
          have k11 := HC2.out.k11
          go_wp2_with fail
          go_region_with (first
            | (go_at_call 19
               refine (headOf_any P _ (by have := hpl.out; have := HN.out; omega)).mono ?_
               rintro e w3 ⟨rfl, hb3⟩
               have HB3 : Hid (Below w2.heap.size w2 w3) := Lib.hid ⟨hb3.os, hb3.tape, hb3.output, hb3.size, hb3.block⟩
               have HC3 := HC2.out.below HB3.out
               have q0 := HC3.k0
               have q1 := HC3.k1
               have q2 := HC3.k2
               have q3 := HC3.k3
               have q4 := HC3.k4
               have q5 := HC3.k5
               have q6 := HC3.k6
               have q7 := HC3.k7
               have q8 := HC3.k8
               have q9 := HC3.k9
               have q10 := HC3.k10
               have q11 := HC3.k11
               clear hb3 HC3))
          all_goals
            have HBE := Lib.hid (HBB.out.trans (HB3.out.mono HBB.out.size))
            go_wp2_with fail
            go_ret2
            exact ⟨hE.out.symm, HBE.out⟩
        · have hE := Lib.hid (hbad.out (fun h => hs (hhead.out.2 h)))
          clear hok hbad hhead
          have hneq : ∀ w, (binOp .neq 49 (.agg #[.int .u8 (c0.toNat : Int), .int .u8 (c1.toNat : Int), .int .u8 (c2.toNat : Int), .int .u8 (c3.toNat : Int), .int .u8 (c4.toNat : Int), .int .u8 (c5.toNat : Int), .int .u8 (c6.toNat : Int), .int .u8 (c7.toNat : Int), .int .u8 (c8.toNat : Int), .int .u8 (c9.toNat : Int), .int .u8 (c10.toNat : Int), .int .u8 (c11.toNat : Int)]) (.agg (bytesV (headB P)))).run Tryd.prog w = .ok (.bool true) w := fun w => (neq_any [c0, c1, c2, c3, c4, c5, c6, c7, c8, c9, c10, c11] (headB P) rfl (headB_length P) w).trans (by simp [hs])
          have heql : ∀ w, (Op.equalIn 10000 49 (.agg #[.int .u8 (c0.toNat : Int), .int .u8 (c1.toNat : Int), .int .u8 (c2.toNat : Int), .int .u8 (c3.toNat : Int), .int .u8 (c4.toNat : Int), .int .u8 (c5.toNat : Int), .int .u8 (c6.toNat : Int), .int .u8 (c7.toNat : Int), .int .u8 (c8.toNat : Int), .int .u8 (c9.toNat : Int), .int .u8 (c10.toNat : Int), .int .u8 (c11.toNat : Int)]) (.agg (bytesV (headB P)))).run Tryd.prog w = .ok false w := fun w => (equal_any [c0, c1, c2, c3, c4, c5, c6, c7, c8, c9, c10, c11] (headB P) rfl (headB_length P) w).trans (by simp [hs])
          clear hs
          have k0 := HC2.out.k0
          have k1 := HC2.out.k1
          have k2 := HC2.out.k2
          have k3 := HC2.out.k3
          have k4 := HC2.out.k4
          have k5 := HC2.out.k5
          have k6 := HC2.out.k6
          have k7 := HC2.out.k7
          have k8 := HC2.out.k8
          have k9 := HC2.out.k9
          have k10 := HC2.out.k10
          have k11 := HC2.out.k11
          go_wp2_with fail
          go_region_with (first
            | (go_at_call 19
               refine (headOf_any P _ (by have := hpl.out; have := HN.out; omega)).mono ?_
               rintro e w3 ⟨rfl, hb3⟩
               have HB3 : Hid (Below w2.heap.size w2 w3) := Lib.hid ⟨hb3.os, hb3.tape, hb3.output, hb3.size, hb3.block⟩
               have HC3 := HC2.out.below HB3.out
               have q0 := HC3.k0
               have q1 := HC3.k1
               have q2 := HC3.k2
               have q3 := HC3.k3
               have q4 := HC3.k4
               have q5 := HC3.k5
               have q6 := HC3.k6
               have q7 := HC3.k7
               have q8 := HC3.k8
               have q9 := HC3.k9
               have q10 := HC3.k10
               have q11 := HC3.k11
               clear hb3 HC3))
          all_goals
            have HBE := Lib.hid (HBB.out.trans (HB3.out.mono HBB.out.size))
            go_wp2_with fail
            go_ret2
            exact ⟨hE.out.symm, HBE.out⟩
end FrameC
end Go.Proofs.YtpmbokklpidohaaDoor
