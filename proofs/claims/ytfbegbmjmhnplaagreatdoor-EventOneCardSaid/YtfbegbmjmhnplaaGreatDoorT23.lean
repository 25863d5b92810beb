/-
  What the proof of EvBoth stands on, part 23.
-/
import Derived.BigRegion
import Derived.ChangeAlike
import Derived.LaidEql
import Derived.Laws.BytesString
import Derived.Lib.IndexBytes
import Derived.Lib.ItoaWalk
import Derived.Lib.SlBytesRow
import Derived.RegionTactic
import Derived.RowKitTokens
import Derived.Stop.Asserts
import Derived.WalkSpells
import Derived.Test.YtfbegbmjmhnplaaGreatDoorT22
set_option linter.unusedSimpArgs false
set_option linter.unusedVariables false
set_option maxHeartbeats 16000000
namespace Go.Proofs.YtfbegbmjmhnplaaGreatDoor
open Go.Lib (hid)
section
open Go.RowKit Go.Sort
namespace EvA
open StrC EvF TextR CodeM
def fldS (k : Nat) : B := match k with
 | 1 => [119, 115]
 | 2 => [119, 110, 118, 101, 115, 78, 122]
 | 3 => [119, 110, 118]
 | 4 => [119, 110, 118]
 | 5 => [119, 110, 118, 116]
 | 6 => [119, 110, 104]
 | 7 => [119, 110, 104]
 | 8 => [119, 104]
 | 9 => [119, 104, 116]
 | 10 => [119, 104, 116]
 | _ => []
theorem zti {k : Nat} : k = 1 ∨ k = 2 ∨ k = 3 ∨ k = 4 ∨ k = 5 ∨ k = 6 ∨ k = 7 ∨ k = 8 ∨ k = 9 ∨ k = 10 ∨ (k = 0 ∨ 11 ≤ k) := by omega
def ltB (a b : B) : Bool := Op.bytesLess (str a).toList (str b).toList
def ztj (s : B) : Bool := decide (SpanC.formO s = some s)
def okN (L : List (B × B)) (j : Nat) : Bool := NameM.isN (L.getD j ([], [])).1 && (ztj (L.getD j ([], [])).2 && (decide (j = 0) || ltB (L.getD (j - 1) ([], [])).1 (L.getD j ([], [])).1))
def ztk (L : List (B × B)) : Bool := decide (L.length ≤ 64) && (List.range L.length).all (okN L)
theorem ztl {L : List (B × B)} {j : Nat} (h : (List.range j).all (okN L) = true) (hj : okN L j = true) : (List.range (j + 1)).all (okN L) = true := by
 rw [List.range_succ, List.all_append, h]
 simp [hj]
theorem ztm {L : List (B × B)} {j : Nat} (hj : j < L.length) (h : okN L j = false) : ztk L = false := by
 unfold ztk
 have : (List.range L.length).all (okN L) = false := by
  rw [List.all_eq_false]
  exact ⟨j, by simpa using hj, by simp [h]⟩
 rw [this, Bool.and_false]
theorem NeIn.at2 {w : World} {a : Option Addr} {c : Nat} {L : List (B × B)} (h : NeIn w a c L) (i : Nat) (hi : i < L.length) : ∃ (g o : Nat), a = some ⟨g, o, none⟩ ∧ ∀ j, j < L.length →
 w.cell? ⟨g, o + j * 2, none⟩ = some (.string (str (L.getD j ([], [])).1)) ∧ w.cell? ⟨g, o + j * 2 + 1, none⟩ = some (.string (str (L.getD j ([], [])).2)) := by
 obtain ⟨g, o, rfl, key⟩ := h.cells (by omega)
 refine ⟨g, o, rfl, fun j hj => ?_⟩
 have k := key j hj
 have e : L[j]! = L.getD j ([], []) := by rw [getElem!_pos L j hj]; simp [hj]
 rw [e] at k
 exact ⟨k 0 (by omega), k 1 (by omega)⟩
end EvA
end
section
open Go.RowKit Go.Sort
namespace EvA
open StrC EvF EvC TextR CodeM
theorem ztn {k : Nat} (h : k = 0 ∨ 11 ≤ k) : zrk k = [] := by
 unfold zrk
 split <;> first | omega | rfl
theorem zto (k : Nat) : ∀ x ∈ zrk k, 0 ≤ x ∧ x ≤ 9 := by
 unfold zrk
 split <;> decide
theorem ztp (k : Nat) : (zrk k).length ≤ 7 := by
 unfold zrk
 split <;> decide
theorem ztq (l : B) (h : l.length ≤ 1000) : (textB l).length ≤ 1010 := by
 unfold textB
 have := CodeC.zqi l.length (by omega)
 rw [List.length_append]
 omega
end EvA
end
section
open Go.RowKit
namespace CodeC
open CodeM
structure Only (b : Nat) (w w' : World) : Prop where
 os : w'.os = w.os
 tape : w'.tape = w.tape
 output : w'.output = w.output
 size : w'.heap.size = w.heap.size
 block : ∀ k, k ≠ b → w'.heap[k]? = w.heap[k]?
theorem Only.refl (b : Nat) (w : World) : Only b w w := ⟨rfl, rfl, rfl, rfl, fun _ _ => rfl⟩
theorem Only.drewN {b : Nat} {a w : World} (h : Only b a w) (q : Nat) : Only b a (w.drewN q) := ⟨h.os, h.tape, h.output, h.size, h.block⟩
theorem Only.set {b : Nat} {a w : World} (h : Only b a w) (o : Nat) (v : Value) : Only b a (w.setCell ⟨b, o, none⟩ v) :=
 ⟨h.os, h.tape, h.output, by simpa using h.size, fun k hk => by rw [Below.heap_setCell w ⟨b, o, none⟩ v k hk]; exact h.block k hk⟩
theorem ztr (s : ByteArray) (k : Nat) (h : k < s.size) (w : World) : (Instr.index 9 (.string s) (.int .i64 (k : Int))).run Tryz.prog w = .ok (.int .u8 (s[k].toNat : Int)) w := by
 rw [run_index_string w 9 s .i64 _ Tryz.underlying9, dif_pos ⟨by omega, by omega⟩]
 have e : ((k : Int)).toNat = k := by omega
 simp only [e]
def cap (n : Int) : Nat := n.toNat
theorem zts (s : ByteArray) : s.extract 0 0 = ⟨#[]⟩ := by
 have h : (s.extract 0 0).size = 0 := by simp
 apply ByteArray.ext
 exact Array.eq_empty_of_size_eq_zero h
end CodeC
end
section
open Go.RowKit Go.Extern.Stop Go.Stop Go.Extern
namespace ErrC
theorem eql_in (d : Nat) (a b : Int) (w : World) : (Op.equalIn (d + 2) 40 (.iface 28 (.int .i64 a)) (.iface 28 (.int .i64 b))).run Tryz.prog w = .ok (a == b) w := by
 obtain ⟨i, hi, hc⟩ := Option.map_eq_some_iff.1 (show (Tryz.prog.info? 28).map (·.comparable) = some true by kernel_rfl)
 simp [Op.equalIn, run_underlying Tryz.underlying40, run_underlying Tryz.underlying28, typeInfo, hi, hc]
theorem ztt (a b : Int) (w : World) : (binOp .eql 40 (.iface 28 (.int .i64 a)) (.iface 28 (.int .i64 b))).run Tryz.prog w = .ok (.bool (a == b)) w := by
 simp only [binOp]
 simp [Op.equal, Op.maxDepth, eql_in 9998 a b w]
theorem to_en (v : Value) (w : World) : (ReflectliteType.typeOf #[.iface 28 v]).run Tryz.prog w = .ok (.iface 149 (.agg #[.pointer (some ⟨9, 28, none⟩)])) w := by kernel_rfl
theorem ztu : (Go.Extern.find Tryz.f322).isSome = true := by kernel_rfl
theorem ztv (w : World) : (callFunc 322 #[.agg #[.pointer (some ⟨9, 28, none⟩)]]).run Tryz.prog w = .ok (.value (.bool true)) w := by
 rw [run_callFunc_extern Tryz.func322 (by kernel_rfl) (by kernel_rfl) (by kernel_rfl) (Option.some_get ztu).symm,
  show (((Go.Extern.find Tryz.f322).get ztu) #[.agg #[.pointer (some ⟨9, 28, none⟩)]]).run Tryz.prog w = .ok (.bool true) w from by kernel_rfl]
 rfl
theorem m_cmp (v : Value) (w : World) : (Go.method 474 149 v "Comparable").run Tryz.prog w = .ok (322, v) w := by kernel_rfl
theorem ztw (v : Value) (w : World) : (Go.method 474 83 v "Unwrap").run Tryz.prog w = .ok (317, v) w := by kernel_rfl
theorem no_is (v : Value) (xT : TypeId) (w : World) : (Instr.typeAssert (.iface 83 v) xT 151 true).run Tryz.prog w = .ok (.tuple #[.nilIface, .bool false]) w := run_typeAssert_lacksB Tryz.underlying151 (by kernel_rfl) (by kernel_rfl) v xT w
theorem ztx (v : Value) (xT : TypeId) (w : World) : (Instr.typeAssert (.iface 83 v) xT 154 true).run Tryz.prog w = .ok (.tuple #[.nilIface, .bool false]) w := run_typeAssert_lacksB Tryz.underlying154 (by kernel_rfl) (by kernel_rfl) v xT w
theorem zty (v : Value) (xT : TypeId) (w : World) : (Instr.typeAssert (.iface 83 v) xT 155 true).run Tryz.prog w = .ok (.tuple #[.iface 83 v, .bool true]) w := run_typeAssert_hasB Tryz.underlying155 (by kernel_rfl) v xT w
theorem ztz (c : Int) (w : World) :
 Calls Tryz.prog 65 #[.iface 28 (.int .i64 c), .iface 28 (.int .i64 c), .bool true] w fun e w' => e = .returned (.bool true) ∧ w = w' := by
 have heq := ztt c c
 go_enter Tryz.func65, Tryz.ntmps65
 go_wp2_with fail
 refine wp_loop_rounds 1 ?_
 rw [rounds_succ]
 go_wp2
 go_ret
 exact ⟨rfl, rfl⟩
theorem zua (b o : Nat) (c : Int) (w : World) (hc : w.cell? ⟨b, o, none⟩ = some (.int .i64 c)) (hu : w.cell? ⟨b, o + 3, none⟩ = some .nilIface) :
 Calls Tryz.prog 317 #[.pointer (some ⟨b, o, none⟩)] w fun e w' => e = .returned (.slice (some ⟨w.heap.size, 0, none⟩) 1 1) ∧ w' = w.alloc (.cells #[.iface 28 (.int .i64 c)] 40) := by
 go_enter Tryz.func317, Tryz.ntmps317
 go_wp2
 go_ret
 exact ⟨rfl, rfl⟩
theorem zub (b o : Nat) (c : Int) (w : World) (hc : w.cell? ⟨b, o, none⟩ = some (.int .i64 c)) (hu : w.cell? ⟨b, o + 3, none⟩ = some .nilIface) :
 Calls Tryz.prog 65 #[.iface 83 (.pointer (some ⟨b, o, none⟩)), .iface 28 (.int .i64 c), .bool true] w fun e w' => e = .returned (.bool true) ∧ w' = w.alloc (.cells #[.iface 28 (.int .i64 c)] 40) := by
 have y4 := ztw
 have y5 := no_is
 have y6 := ztx
 have y7 := zty
 have y8 := run_eql_iface_types (P := Tryz.prog) 83 28 (.pointer (some ⟨b, o, none⟩)) (.int .i64 c) Tryz.underlying40 (by decide)
 go_enter Tryz.func65, Tryz.ntmps65
 go_wp2_with fail
 refine wp_loop_rounds 1 ?_
 rw [rounds_succ]
 go_wp2_with (go_at_call 317; refine (zua _ _ _ _ hc hu).mono ?_; rintro e w' ⟨rfl, rfl⟩)
 refine wp_loop_rounds 1 ?_
 rw [rounds_succ]
 go_wp2_with (go_at_call 65; refine (ztz _ _).mono ?_; rintro e w' ⟨rfl, rfl⟩)
 go_ret
 exact ⟨rfl, rfl⟩
end ErrC
end
section
open Go.RowKit
namespace ErrC
structure IsFault (w : World) (b o : Nat) (c : Int) (s : ByteArray) (a : Int) : Prop where
 code : w.cell? ⟨b, o, none⟩ = some (.int .i64 c)
 what : w.cell? ⟨b, o + 1, none⟩ = some (.string s)
 at_ : w.cell? ⟨b, o + 2, none⟩ = some (.int .i64 a)
 under : w.cell? ⟨b, o + 3, none⟩ = some .nilIface
theorem IsFault.below {w w' : World} {b o : Nat} {c a : Int} {s : ByteArray} (h : IsFault w b o c s a) {B : Nat} (hb : Below B w w') (hB : b < B) : IsFault w' b o c s a :=
 ⟨by rw [hb.cell hB]; exact h.code, by rw [hb.cell hB]; exact h.what, by rw [hb.cell hB]; exact h.at_, by rw [hb.cell hB]; exact h.under⟩
theorem IsFault.lt {w : World} {b o : Nat} {c a : Int} {s : ByteArray} (h : IsFault w b o c s a) : b < w.heap.size := World.block_lt_of_cell? _ _ h.code
theorem sz (a b : ByteArray) : (a ++ b).size = a.size + b.size := ByteArray.size_append
end ErrC
end
section
open Go.RowKit
namespace CodeC
open CodeM ErrC
structure IsRdr (w : World) (b o : Nat) (s : ByteArray) (k : Nat) : Prop where
 made : w.cell? ⟨b, o, none⟩ = some (.bool true)
 text : w.cell? ⟨b, o + 1, none⟩ = some (.string s)
 at_ : w.cell? ⟨b, o + 2, none⟩ = some (.int .i64 k)
 free : w.frozen? ⟨b, o + 2, none⟩ = false
theorem IsRdr.drewN {w : World} {b o k : Nat} {s : ByteArray} (h : IsRdr w b o s k) (q : Nat) : IsRdr (w.drewN q) b o s k := ⟨by simpa using h.made, by simpa using h.text, by simpa using h.at_, by simpa using h.free⟩
theorem IsRdr.lt {w : World} {b o k : Nat} {s : ByteArray} (h : IsRdr w b o s k) : b < w.heap.size := World.block_lt_of_cell? _ _ h.made
theorem IsRdr.below {w w' : World} {b o k B : Nat} {s : ByteArray} (h : IsRdr w b o s k) (hb : Below B w w') (hB : b < B) : IsRdr w' b o s k :=
 ⟨by rw [hb.cell hB]; exact h.made, by rw [hb.cell hB]; exact h.text, by rw [hb.cell hB]; exact h.at_, by rw [hb.frozen hB]; exact h.free⟩
theorem IsRdr.put {w : World} {b o k : Nat} {s : ByteArray} (h : IsRdr w b o s k) (z : Int) (n : Nat) (hz : z = (n : Int)) : IsRdr (w.setCell ⟨b, o + 2, none⟩ (.int .i64 z)) b o s n := by
 subst hz
 exact ⟨by rw [World.cell?_setCell_other _ _ _ _ (fun e => by have := congrArg Addr.off e; simp at this)]; exact h.made,
  by rw [World.cell?_setCell_other _ _ _ _ (fun e => by have := congrArg Addr.off e; simp at this)]; exact h.text, World.cell?_setCell_same _ _ _ h.at_, by simpa using h.free⟩
structure But (b : Nat) (w w' : World) : Prop where
 os : w'.os = w.os
 tape : w'.tape = w.tape
 output : w'.output = w.output
 size : w.heap.size ≤ w'.heap.size
 block : ∀ k, k < w.heap.size → k ≠ b → w'.heap[k]? = w.heap[k]?
theorem But.refl (b : Nat) (w : World) : But b w w := ⟨rfl, rfl, rfl, Nat.le_refl _, fun _ _ _ => rfl⟩
theorem But.trans {b : Nat} {x y z : World} (h : But b x y) (k : But b y z) : But b x z :=
 ⟨k.os.trans h.os, k.tape.trans h.tape, k.output.trans h.output, Nat.le_trans h.size k.size, fun i hi hb => (k.block i (Nat.lt_of_lt_of_le hi h.size) hb).trans (h.block i hi hb)⟩
theorem But.of_below {b : Nat} {w w' : World} (h : Below w.heap.size w w') : But b w w' := ⟨h.os, h.tape, h.output, h.size, fun k hk _ => h.block k hk⟩
theorem But.of_only {b : Nat} {w w' : World} (h : Only b w w') : But b w w' := ⟨h.os, h.tape, h.output, by rw [h.size]; exact Nat.le_refl _, fun k _ hk => h.block k hk⟩
theorem But.cell {b : Nat} {w w' : World} (h : But b w w') {p : Addr} (hp : p.block < w.heap.size) (hb : p.block ≠ b) : w'.cell? p = w.cell? p := World.cell?_of_block (w := w) (h.block p.block hp hb)
theorem But.alloc {b : Nat} {a w : World} (h : But b a w) (o : Obj) : But b a (w.alloc o) := h.trans (But.of_below ((Below.refl _ _).alloc (Nat.le_refl _) _))
theorem But.set {b : Nat} {a w : World} (h : But b a w) (o : Nat) (v : Value) : But b a (w.setCell ⟨b, o, none⟩ v) := h.trans (But.of_only ((Only.refl _ _).set _ _))
theorem But.drewN {b : Nat} {a w : World} (h : But b a w) (q : Nat) : But b a (w.drewN q) := ⟨h.os, h.tape, h.output, h.size, h.block⟩
theorem at_is (b o : Nat) (s : ByteArray) (k : Nat) (w : World) (hr : IsRdr w b o s k) : Calls Tryz.prog 37 #[.pointer (some ⟨b, o, none⟩)] w fun e w' => e = .returned (.int .i64 k) ∧ w = w' := by
 have h1 := hr.at_
 clear hr
 go_enter Tryz.func37, Tryz.ntmps37
 go_wp2_with fail
 go_ret
 exact ⟨rfl, rfl⟩
theorem zuc (w : World) : Calls Tryz.prog 86 #[.pointer none] w fun e w' => e = .returned (.string ⟨#[]⟩) ∧ w = w' := by
 go_enter Tryz.func86, Tryz.ntmps86
 go_wp2_with fail
 go_ret
 exact ⟨rfl, rfl⟩
theorem cut_rest (s : ByteArray) (k : Nat) (h : k ≤ s.size) (w : World) : (Instr.slice 9 (.string s) (some (.int .i64 (k : Int))) none none).run Tryz.prog w = .ok (.string (s.extract k s.size)) w := by
 rw [run_slice_string_l w 9 s Tryz.underlying9 .i64 (k : Int) (by omega) (by omega)]
 rfl
theorem zud (b o : Nat) (s : ByteArray) (k : Nat) (w : World) (hk : k ≤ s.size) (hr : IsRdr w b o s k) : Calls Tryz.prog 86 #[.pointer (some ⟨b, o, none⟩)] w fun e w' => e = .returned (.string (s.extract k s.size)) ∧ ∃ q, w' = w.drewN q := by
 have h1 := hr.at_
 have h2 := hr.text
 have hcut := cut_rest s k hk
 clear hr
 go_enter Tryz.func86, Tryz.ntmps86
 go_wp2_with fail
 go_quiet (fail)
 go_wp2_with fail
 go_ret
 exact ⟨rfl, _, rfl⟩
def endF (n : Nat) : Value := .func (.func 123) #[] #[.pointer (some ⟨n, 0, none⟩), .pointer (some ⟨n + 1, 0, none⟩)]
theorem zue (b o : Nat) (s : ByteArray) (k : Nat) (w : World) (hr : IsRdr w b o s k) :
 Calls Tryz.prog 85 #[.pointer (some ⟨b, o, none⟩)] w fun e w' => e = .returned (endF w.heap.size) ∧ w' = (w.alloc (.cells #[.pointer (some ⟨b, o, none⟩)] 79)).alloc (.cells #[.int .i64 k] 3) := by
 have hr1 := hid (hr.below ((Below.refl _ _).alloc (Nat.le_refl _) (.cells #[.pointer (some ⟨b, o, none⟩)] 79)) hr.lt)
 clear hr
 go_enter Tryz.func85, Tryz.ntmps85
 go_wp2_with fail
 refine (at_is b o s k _ hr1.out).mono ?_
 rintro e w' ⟨rfl, rfl⟩
 go_wp2_with fail
 go_ret
 exact ⟨rfl, rfl⟩
def IsErr (w w' : World) (v : Value) (c : Nat) (a : Int) : Prop := (c = 0 ∧ v = .nilIface) ∨ (c ≠ 0 ∧ ∃ f, v = .iface 83 (.pointer (some ⟨f, 0, none⟩)) ∧ w.heap.size ≤ f ∧ IsFault w' f 0 c ⟨#[]⟩ a)
theorem zuf (n b o : Nat) (s : ByteArray) (k : Nat) (w : World) (hc : w.cell? ⟨n, 0, none⟩ = some (.pointer (some ⟨b, o, none⟩))) (hr : IsRdr w b o s k) :
 Calls Tryz.prog 123 #[.int .i64 0, .pointer (some ⟨n, 0, none⟩), .pointer (some ⟨n + 1, 0, none⟩)] w fun e w' => e = .returned .nilIface ∧ w = w' := by
 have h1 := hr.made
 clear hr
 go_enter Tryz.func123, Tryz.ntmps123
 go_wp2_with fail
 go_ret
 exact ⟨rfl, rfl⟩
theorem end_err (n b o : Nat) (s : ByteArray) (k k0 c : Nat) (w : World) (h0 : c ≠ 0) (hc : w.cell? ⟨n, 0, none⟩ = some (.pointer (some ⟨b, o, none⟩))) (hf : w.cell? ⟨n + 1, 0, none⟩ = some (.int .i64 k0)) (hr : IsRdr w b o s k) :
 Calls Tryz.prog 123 #[.int .i64 c, .pointer (some ⟨n, 0, none⟩), .pointer (some ⟨n + 1, 0, none⟩)] w fun e w' =>
  e = .returned (.iface 83 (.pointer (some ⟨w.heap.size, 0, none⟩))) ∧ w' = (w.setCell ⟨b, o + 2, none⟩ (.int .i64 k0)).alloc (.cells #[.int .i64 c, .string ⟨#[]⟩, .int .i64 k0, .nilIface] 85) := by
 have h1 := hr.made
 have h2 := hr.at_
 have h3 := hr.free
 have hc0 : ((c : Int) == 0) = false := beq_eq_false_iff_ne.2 (by omega)
 clear hr
 go_enter Tryz.func123, Tryz.ntmps123
 go_wp2_with fail
 go_ret
 exact ⟨rfl, rfl⟩
theorem zug (n : Int) (w : World) (h : n ≤ 9223372036854775807) : Calls Tryz.prog 153 #[.int .i64 n] w fun e w' => e = .returned (.int .u64 (cap n)) ∧ w = w' := by
 have hmx : max n 0 = ((cap n : Nat) : Int) := by unfold cap; omega
 have hb : cap n ≤ 9223372036854775807 := by unfold cap; omega
 clear h
 generalize cap n = m at *
 go_enter Tryz.func153, Tryz.ntmps153
 go_wp2_with fail
 go_ret
 exact ⟨rfl, rfl⟩
theorem zuh (s : ByteArray) (w : World) : Calls Tryz.prog 34 #[.string s] w fun e w' => e = .returned (.pointer (some ⟨w.heap.size, 0, none⟩)) ∧ w' = w.alloc (.cells #[.bool true, .string s, .int .i64 0] 126) := by
 go_enter Tryz.func34, Tryz.ntmps34
 go_wp2_with fail
 go_ret
 exact ⟨rfl, rfl⟩
end CodeC
end
section
open Go.RowKit
namespace CodeC
open CodeM ErrC
def nEnd (v e : Nat) : Ending := .returned (.tuple #[.int .u64 v, .int .i64 e])
theorem zui {most k v e p q : Nat} {l : List UInt8} (h : uRes most k l = (v, e, p, q)) : .returned (.tuple #[.int .u64 v, .int .i64 e]) = nEnd (uRes most k l).1 (uRes most k l).2.1 := by rw [h]; rfl
theorem num_none (most : Nat) (w : World) :
 Calls Tryz.prog 122 #[.pointer none, .int .u64 most] w fun e w' => e = nEnd 0 20 ∧ w = w' := by
 go_enter Tryz.func122, Tryz.ntmps122
 go_wp2_with fail
 refine (zuc _).mono ?_
 rintro e w' ⟨rfl, rfl⟩
 go_wp2_with fail
 refine wp_loop_rounds 1 ?_; rw [rounds_succ]; go_wp2_with fail
 go_ret2
 exact ⟨rfl, rfl⟩
theorem zuj (s : ByteArray) (k : Nat) : (s.extract k s.size).data.toList = s.data.toList.drop k ∧ (s.extract k s.size).size = s.size - k :=
 ⟨Lib.extract_to_end s k, by simp⟩
theorem zuk (c : Nat) (h : c < 256) : bits .andNot .u8 (c : Int) 128 = (c : Int) % 128 := by
 have H : ∀ n : Fin 256, bits .andNot .u8 (n.val : Int) 128 = (n.val : Int) % 128 := by decide +kernel
 exact H ⟨c, h⟩
theorem zul {n x : Nat} {l : List UInt8} (h : n ≠ 10) (hl : l = []) : ur n x l = .inl 20 := by subst hl; simp [ur, h]
set_option maxRecDepth 100000 in
theorem zum (b o : Nat) (s : ByteArray) (k : Nat) (most : Nat) (w : World) (hk : k ≤ s.size) (hs : s.size ≤ 4611686018427387904) (hm : most < 18446744073709551616) (hr : IsRdr w b o s k) :
 Calls Tryz.prog 122 #[.pointer (some ⟨b, o, none⟩), .int .u64 most] w fun e w' =>
  e = nEnd (uRes most k (s.data.toList.drop k)).1 (uRes most k (s.data.toList.drop k)).2.1 ∧ IsRdr w' b o s (uRes most k (s.data.toList.drop k)).2.2.2 ∧ Only b w w' := by
 have HR := hid hr
 have h1 := hr.at_
 have h2 := hr.free
 have h3 := hr.made
 clear hr
 have HM := hid hm; clear hm
 obtain ⟨hRd, hRs⟩ := zuj s k
 have HRd := hid hRd; clear hRd
 have HRs := hid hRs; clear hRs
 go_enter Tryz.func122, Tryz.ntmps122
 go_wp2_with fail
 refine (zud b o s k _ hk HR.out).mono ?_
 rintro e w1 ⟨rfl, q, rfl⟩
 generalize s.extract k s.size = R at *
 have hRsz : R.size ≤ 4611686018427387904 := by have := HRs.out; omega
 go_wp2_with fail
 go_loopw [7, 15] (fun vx vn wr => ∃ (n x : Nat), vx = .int .u64 x ∧ vn = .int .i64 n ∧ n ≤ 9 ∧ n ≤ R.size ∧ x < 128 ^ n ∧ wr = w.drewN q ∧ Hid (ur 0 0 (s.data.toList.drop k) = ur n x (R.data.toList.drop n))) (fun _ vn _ => 10 - (intOf vn).toNat)
 case atStart => exact ⟨0, 0, rfl, rfl, by omega, by omega, by decide, rfl, hid (by rw [HRd.out]; rfl)⟩
 case round =>
  obtain ⟨n, x, rfl, rfl, hn, hnR, hx, rfl, HU⟩ := hrel
  have HX := hid hx; clear hx
  by_cases hend : R.size ≤ n
  · have HE := hid (zmr (most := most) (k := k) (l := s.data.toList.drop k) (e := 20) (by rw [HU.out, zmn R n hend]; exact zul (by omega) rfl))
    have hd : decide ((n : Int) < min (R.size : Int) 10) = false := by simp; omega
    go_wp2_with fail
    go_ret2
    exact ⟨zui HE.out, by rw [HE.out]; exact HR.out.drewN _, (Only.refl _ _).drewN _⟩
  · have hlt : n < R.size := by omega
    have hd : decide ((n : Int) < min (R.size : Int) 10) = true := by simp; omega
    have hc := R[n].toNat_lt
    have hidx := ztr R n hlt
    have hdc := zmm R n hlt
    have HD := hid hdc; clear hdc
    generalize R[n] = c at *
    by_cases hA : n = 9 ∧ c.toNat ≠ 1
    · have HE := hid (zmr (most := most) (k := k) (l := s.data.toList.drop k) (e := 21) (by
       rw [HU.out, HD.out, ur, if_neg (by omega)]
       by_cases h : 1 < c.toNat
       · rw [if_pos ⟨hA.1, h⟩]
       · rw [if_neg (by omega), if_pos (by omega), if_pos (by omega)]))
      have t9 : ((n : Int) == 9) = true := beq_iff_eq.2 (by omega)
      have tc : ((c.toNat : Int) != 1) = true := bne_iff_ne.2 (by omega)
      clear hA
      go_wp2_with fail
      go_ret2
      exact ⟨zui HE.out, by rw [HE.out]; exact HR.out.drewN _, (Only.refl _ _).drewN _⟩
    · have h9c : n = 9 → c.toNat % 128 ≤ 1 := fun e => by omega
      have hor := zmp x n c.toNat HX.out hn h9c
      have hnx := hid (zmq x n (c.toNat % 128) HX.out (Nat.mod_lt _ (by decide)))
      have hand := zuk c.toNat hc
      by_cases hB : c.toNat < 128
      · have hn10 : n ≠ 10 := by omega
        by_cases hC : c.toNat = 0 ∧ 0 < n
        · have HE := hid (zmr (most := most) (k := k) (l := s.data.toList.drop k) (e := 21) (by rw [HU.out, HD.out, ur, if_neg hn10, if_neg (by omega), if_pos hB, if_pos hC]))
          have t9 : ((n : Int) == 9) = false := beq_eq_false_iff_ne.2 (by omega)
          have tz : ((c.toNat : Int) == 0) = true := beq_iff_eq.2 (by omega)
          have hn0 : 0 < n := hC.2
          clear hA hC h9c hn10 hnx
          go_wp2_with fail
          go_ret2
          exact ⟨zui HE.out, by rw [HE.out]; exact HR.out.drewN _, (Only.refl _ _).drewN _⟩
        · have hur : ur 0 0 (s.data.toList.drop k) = .inr (x + c.toNat % 128 * 128 ^ n, n + 1) := by rw [HU.out, HD.out, ur, if_neg hn10, if_neg (by omega), if_pos hB, if_neg hC]
          have hX : x + c.toNat % 128 * 128 ^ n < 18446744073709551616 := by have h1 := zmo n (c.toNat % 128) hn (Nat.mod_lt _ (by decide)) h9c; rw [Nat.add_mul, Nat.one_mul] at h1; have := HX.out; omega
          have hkn1 : k + (n + 1) ≤ s.size := by have := HRs.out; omega
          have h3 : (((n : Int) == 9) = true ∧ ((c.toNat : Int) != 1) = false ∧ ((c.toNat : Int) == 0) = false) ∨ (((n : Int) == 9) = false ∧ ((c.toNat : Int) == 0) = true ∧ n ≤ 0) ∨ (((n : Int) == 9) = false ∧ ((c.toNat : Int) == 0) = false) := by
           by_cases e9 : n = 9
           · exact Or.inl ⟨beq_iff_eq.2 (by omega), by rw [bne_eq_false_iff_eq]; omega, beq_eq_false_iff_ne.2 (by omega)⟩
           · by_cases ez : c.toNat = 0
             · exact Or.inr (Or.inl ⟨beq_eq_false_iff_ne.2 (by omega), beq_iff_eq.2 (by omega), by omega⟩)
             · exact Or.inr (Or.inr ⟨beq_eq_false_iff_ne.2 (by omega), beq_eq_false_iff_ne.2 (by omega)⟩)
          clear hC hA h9c hnx hn10
          generalize x + c.toNat % 128 * 128 ^ n = X at *
          have HUR := hid hur; clear hur
          have hXm : X ≤ 18446744073709551615 := by omega
          clear hX
          by_cases hmost : most < X
          · have HE := hid (zms HUR.out hmost (k := k))
            have tm : decide (most < X) = true := by simpa using hmost
            rcases h3 with ⟨t9, tc, tz⟩ | ⟨t9, tz, tn⟩ | ⟨t9, tz⟩
            all_goals
             go_wp2_with fail
             go_ret2
             exact ⟨zui HE.out, by rw [HE.out]; exact HR.out.drewN _, (Only.refl _ _).drewN _⟩
          · have HE := hid (zmt HUR.out hmost (k := k))
            have tm : decide (most < X) = false := by simpa using hmost
            rcases h3 with ⟨t9, tc, tz⟩ | ⟨t9, tz, tn⟩ | ⟨t9, tz⟩
            all_goals
             go_wp2_with fail
             go_ret2
             refine ⟨zui HE.out, ?_, ((Only.refl _ _).drewN _).set _ _⟩
             rw [HE.out]
             show IsRdr _ b o s (k + (n + 1))
             exact (HR.out.drewN _).put _ _ (by omega)
      · have hn10 : n ≠ 10 := by omega
        have HN := hid (show ur n x (c :: R.data.toList.drop (n + 1)) = ur (n + 1) (x + c.toNat % 128 * 128 ^ n) (R.data.toList.drop (n + 1)) by rw [ur, if_neg hn10, if_neg (by omega), if_neg hB])
        have h8 : n ≤ 8 := by omega
        have t9 : ((n : Int) == 9) = false := beq_eq_false_iff_ne.2 (by omega)
        clear h9c hA hn10
        generalize x + c.toNat % 128 * 128 ^ n = X at *
        go_wp2_with fail
        go_roundw
        case rel => exact ⟨n + 1, X, rfl, by go_num, by omega, by omega, hnx.out, by first | rfl | trivial, hid (by rw [HU.out, HD.out, HN.out])⟩
        case measure => simp [intOf]; omega
end CodeC
end
section
open Go.RowKit
namespace CodeC
open CodeM ErrC
def pEnd (t : ByteArray) (e : Nat) : Ending := .returned (.tuple #[.string t, .int .i64 e])
theorem zun (R : ByteArray) (n : Nat) (h : n ≤ R.size) (w : World) : (Instr.slice 9 (.string R) none (some (.int .u64 (n : Int))) none).run Tryz.prog w = .ok (.string (R.extract 0 n)) w := by
 rw [run_slice_string_h w 9 R Tryz.underlying9 .u64 (n : Int) (by omega) (by omega)]
 rfl
theorem zuo (s : ByteArray) (k n : Nat) (h : k + n ≤ s.size) : (s.extract k s.size).extract 0 n = s.extract k (k + n) := by
 apply ByteArray.ext
 apply Array.toList_inj.1
 rw [Lib.extract_data, Lib.extract_data, Lib.extract_data, List.drop_zero, List.take_take]
 congr 1
 omega
theorem zup (b o : Nat) (s : ByteArray) (k n : Nat) (w : World) (hk : k ≤ s.size) (hs : s.size ≤ 4611686018427387904) (hn : s.size - k < n) (hr : IsRdr w b o s k) :
 Calls Tryz.prog 120 #[.pointer (some ⟨b, o, none⟩), .int .u64 n] w fun e w' => e = pEnd ⟨#[]⟩ 20 ∧ ∃ q, w' = w.drewN q := by
 have HR := hid hr; clear hr
 obtain ⟨-, hRs⟩ := zuj s k
 go_enter Tryz.func120, Tryz.ntmps120
 go_wp2_with fail
 refine (zud b o s k _ hk HR.out).mono ?_
 rintro e w1 ⟨rfl, q, rfl⟩
 generalize s.extract k s.size = R at *
 have hlt : R.size < n := by omega
 have hRsz : R.size ≤ 4611686018427387904 := by omega
 clear hRs
 have hd : decide (R.size < n) = true := by simpa using hlt
 go_wp2_with fail
 go_ret2
 exact ⟨rfl, _, rfl⟩
theorem zuq (b o : Nat) (s : ByteArray) (k n : Nat) (w : World) (hk : k + n ≤ s.size) (hs : s.size ≤ 4611686018427387904) (hr : IsRdr w b o s k) :
 Calls Tryz.prog 120 #[.pointer (some ⟨b, o, none⟩), .int .u64 n] w fun e w' => e = pEnd (s.extract k (k + n)) 0 ∧ IsRdr w' b o s (k + n) ∧ Only b w w' := by
 have HR := hid hr
 have h1 := hr.at_
 have h2 := hr.free
 clear hr
 obtain ⟨-, hRs⟩ := zuj s k
 have hf := zuo s k n hk
 have HF := hid hf; clear hf
 go_enter Tryz.func120, Tryz.ntmps120
 go_wp2_with fail
 refine (zud b o s k _ (by omega) HR.out).mono ?_
 rintro e w1 ⟨rfl, q, rfl⟩
 generalize s.extract k s.size = R at *
 have hlt : n ≤ R.size := by omega
 have hRsz : R.size ≤ 4611686018427387904 := by omega
 clear hRs
 have hd : decide (R.size < n) = false := by simpa using hlt
 have hcut := zun R n hlt
 go_wp2_with fail
 go_ret2
 exact ⟨by rw [HF.out]; rfl, (HR.out.drewN _).put _ _ (by omega), ((Only.refl _ _).drewN _).set _ _⟩
def OneE (s : ByteArray) (c k b o : Nat) (w : World) (e : Ending) (w' : World) : Prop :=
 e = pEnd (s.extract (tRes c k s).1 (tRes c k s).2.1) (tRes c k s).2.2.1 ∧ Only b w w' ∧ ∃ k', k' ≤ s.size ∧ IsRdr w' b o s k' ∧ ((tRes c k s).2.2.1 = 0 → k' = (tRes c k s).2.2.2.2)
theorem Only.trans {b : Nat} {x y z : World} (h : Only b x y) (k : Only b y z) : Only b x z := ⟨k.os.trans h.os, k.tape.trans h.tape, k.output.trans h.output, k.size.trans h.size, fun i hi => (k.block i hi).trans (h.block i hi)⟩
theorem one_is (b o : Nat) (s : ByteArray) (k : Nat) (m : Int) (w : World) (hk : k ≤ s.size) (hs : s.size ≤ 4611686018427387904) (h : m ≤ 9223372036854775807) (hr : IsRdr w b o s k) :
 Calls Tryz.prog 121 #[.pointer (some ⟨b, o, none⟩), .int .i64 m] w (OneE s (cap m) k b o w) := by
 have HR := hid hr; clear hr
 have hc := zmv (cap m) k s hk
 have hcap : cap m < 18446744073709551616 := by unfold cap; omega
 go_enter Tryz.func121, Tryz.ntmps121
 go_wp2_with fail
 refine (zug m _ h).mono ?_
 rintro e w' ⟨rfl, rfl⟩
 go_wp2_with fail
 refine (zum b o s k (cap m) _ hk hs hcap HR.out).mono ?_
 rintro e w1 ⟨rfl, hr1, ho1⟩
 rcases hc with ⟨e, he, he2, hu⟩ | ⟨v, d, hv, hd, hu⟩
 · have HT := hid (zmw hu he)
   rw [hu] at hr1 ⊢
   have te : ((e : Int) != 0) = true := bne_iff_ne.2 (by omega)
   have HR1 := hid hr1
   have HO := hid ho1
   clear hr1 ho1 hu he
   unfold nEnd
   go_wp2_with fail
   go_ret2
   unfold OneE
   rw [HT.out]
   exact ⟨by unfold pEnd; rw [zts]; rfl, HO.out, k, hk, HR1.out, fun _ => rfl⟩
 · rw [hu] at hr1 ⊢
   have HR1 := hid hr1
   have HO := hid ho1
   clear hr1 ho1 hcap
   generalize k + d = q at *
   unfold nEnd
   by_cases hq : s.size - q < v
   · have HT := hid (zmx hu hq)
     clear hu
     go_wp2_with fail
     refine (zup b o s q v _ hd hs hq HR1.out).mono ?_
     rintro e w2 ⟨rfl, z, rfl⟩
     unfold pEnd
     go_wp2_with fail
     go_ret2
     unfold OneE
     rw [HT.out]
     exact ⟨by unfold pEnd; rw [zts]; rfl, HO.out.drewN _, q, hd, HR1.out.drewN _, fun h => by cases h⟩
   · have HT := hid (zmy hu hq)
     clear hu
     go_wp2_with fail
     refine (zuq b o s q v _ (by omega) hs HR1.out).mono ?_
     rintro e w2 ⟨rfl, hr2, ho2⟩
     unfold pEnd
     have HR2 := hid hr2
     have HO2 := hid ho2
     clear hr2 ho2
     go_wp2_with fail
     go_ret2
     unfold OneE
     rw [HT.out]
     exact ⟨rfl, HO.out.trans HO2.out, q + v, by omega, HR2.out, fun _ => rfl⟩
end CodeC
end
section
namespace CodeM
theorem zur (most k : Nat) (s : ByteArray) (hk : k ≤ s.size) :
 (∃ e, e ≠ 0 ∧ e ≤ 22 ∧ tRes most k s = (0, 0, e, k, k)) ∨ (∃ a q, a ≤ q ∧ q ≤ s.size ∧ k ≤ q ∧ tRes most k s = (a, q, 0, 0, q)) := by
 rcases zmv most k s hk with ⟨e, he, he2, hu⟩ | ⟨v, d, hv, hd, hu⟩
 · exact Or.inl ⟨e, he, he2, zmw hu he⟩
 · by_cases hq : s.size - (k + d) < v
   · exact Or.inl ⟨20, by decide, by decide, zmx hu hq⟩
   · exact Or.inr ⟨k + d, k + d + v, by omega, by omega, by omega, zmy hu hq⟩
def wv (x : Nat) (l : List UInt8) : Nat := l.foldl (fun a c => a * 256 + c.toNat) x
theorem wv_snoc (x : Nat) (l : List UInt8) (c : UInt8) : wv x (l ++ [c]) = wv x l * 256 + c.toNat := by simp [wv]
theorem zus : ∀ (l : List UInt8) (x : Nat), wv x l < (x + 1) * 256 ^ l.length
 | [], x => by simp [wv]
 | c :: l, x => by
   have h := zus l (x * 256 + c.toNat)
   have hc := c.toNat_lt
   have e : wv x (c :: l) = wv (x * 256 + c.toNat) l := rfl
   rw [e, List.length_cons, Nat.pow_succ, Nat.mul_comm (256 ^ l.length) 256, ← Nat.mul_assoc]
   exact Nat.lt_of_lt_of_le h (Nat.mul_le_mul_right _ (by omega))
theorem wv_lt (l : List UInt8) : wv 0 l < 256 ^ l.length := by have := zus l 0; simpa using this
theorem zut (x : Nat) : ∀ (k a : Nat), wv a (wordB x k) = a * 256 ^ k + x % 256 ^ k
 | 0, a => by simp [wv, wordB]; omega
 | k + 1, a => by
   have e : wv a (wordB x (k + 1)) = wv (a * 256 + x / 256 ^ k % 256) (wordB x k) := by
    rw [wordB]
    show wv (a * 256 + (UInt8.ofNat (x / 256 ^ k % 256)).toNat) _ = _
    rw [UInt8.toNat_ofNat_of_lt' (Nat.mod_lt _ (by decide))]
   rw [e, zut x k, Nat.add_mul, Nat.pow_succ, Nat.mod_mul, Nat.mul_assoc, Nat.mul_comm 256, Nat.mul_comm (x / 256 ^ k % 256)]
   omega
def wRes (k : Nat) (s : ByteArray) : Nat × Nat × Nat × Nat := if s.size - k < 8 then (0, 20, k, k) else (wv 0 ((s.data.toList.drop k).take 8), 0, 0, k + 8)
theorem zuu {k : Nat} {s : ByteArray} (h : s.size - k < 8) : wRes k s = (0, 20, k, k) := by simp [wRes, h]
theorem zuv {k : Nat} {s : ByteArray} (h : ¬ s.size - k < 8) : wRes k s = (wv 0 ((s.data.toList.drop k).take 8), 0, 0, k + 8) := by simp [wRes, h]
theorem or_byte (x c : Nat) (hx : x < 72057594037927936) (hc : c < 256) : bits .or .u64 ((x : Int) * 256) (c : Int) = ((x * 256 + c : Nat) : Int) := by
 rw [show (x : Int) * 256 = ((x * 256 : Nat) : Int) by omega, bits_or_u64_nat _ _ (by omega) (by omega)]
 congr 1
 have e3 : x * 256 = x <<< 8 := by rw [Nat.shiftLeft_eq]
 rw [e3, ← Nat.shiftLeft_add_eq_or_of_lt (by omega)]
end CodeM
end
section
open Go.RowKit
namespace CodeC
open CodeM ErrC
def OwnT (w : World) (B : Nat) (v : Value) (L : List ByteArray) : Prop := w.ownsRow B 9 1 v L.length (L.map Value.string)
end CodeC
end
end Go.Proofs.YtfbegbmjmhnplaaGreatDoor
