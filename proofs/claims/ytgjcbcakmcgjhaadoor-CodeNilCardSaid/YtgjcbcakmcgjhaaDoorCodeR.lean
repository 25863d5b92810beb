/-
  Package code's reader, its small parts: the place, the rest, the closure by which each call ends, a bound.
-/
import Derived.Test.YtgjcbcakmcgjhaaDoorCodeRefR
import Derived.Test.YtgjcbcakmcgjhaaDoorErrTold
namespace Go.Proofs.YtgjcbcakmcgjhaaDoor
open Go.RowKit
namespace CodeC
open CodeM ErrC

/-- the program's reader, as its cells hold it -/
structure IsRdr (w : World) (b o : Nat) (s : ByteArray) (k : Nat) : Prop where
  made : w.cell? ⟨b, o, none⟩ = some (.bool true)
  text : w.cell? ⟨b, o + 1, none⟩ = some (.string s)
  at_ : w.cell? ⟨b, o + 2, none⟩ = some (.int .i64 k)
  free : w.frozen? ⟨b, o + 2, none⟩ = false
theorem IsRdr.drewN {w : World} {b o k : Nat} {s : ByteArray} (h : IsRdr w b o s k) (q : Nat) : IsRdr (w.drewN q) b o s k := ⟨by simpa using h.made, by simpa using h.text, by simpa using h.at_, by simpa using h.free⟩
theorem IsRdr.lt {w : World} {b o k : Nat} {s : ByteArray} (h : IsRdr w b o s k) : b < w.heap.size := World.block_lt_of_cell? _ _ h.made
theorem IsRdr.below {w w' : World} {b o k B : Nat} {s : ByteArray} (h : IsRdr w b o s k) (hb : Below B w w') (hB : b < B) : IsRdr w' b o s k :=
  ⟨by rw [hb.cell hB]; exact h.made, by rw [hb.cell hB]; exact h.text, by rw [hb.cell hB]; exact h.at_, by rw [hb.frozen hB]; exact h.free⟩
theorem IsRdr.put {w : World} {b o k : Nat} {s : ByteArray} (h : IsRdr w b o s k) (z : Int) (n : Nat) (hz : z = (n : Int)) : IsRdr (w.setCell ⟨b, o + 2, none⟩ (.int .i64 z)) b o s n := by
  subst hz
  exact ⟨by rw [World.cell?_setCell_other _ _ _ _ (fun e => by have := congrArg Addr.off e; simp at this)]; exact h.made,
    by rw [World.cell?_setCell_other _ _ _ _ (fun e => by have := congrArg Addr.off e; simp at this)]; exact h.text, World.cell?_setCell_same _ _ _ h.at_, by simpa using h.free⟩

/-- of what was there only block b may have been written; new blocks may have been made -/
structure But (b : Nat) (w w' : World) : Prop where
  os : w'.os = w.os
  tape : w'.tape = w.tape
  output : w'.output = w.output
  size : w.heap.size ≤ w'.heap.size
  block : ∀ k, k < w.heap.size → k ≠ b → w'.heap[k]? = w.heap[k]?
theorem But.refl (b : Nat) (w : World) : But b w w := ⟨rfl, rfl, rfl, Nat.le_refl _, fun _ _ _ => rfl⟩
theorem But.trans {b : Nat} {x y z : World} (h : But b x y) (k : But b y z) : But b x z :=
  ⟨k.os.trans h.os, k.tape.trans h.tape, k.output.trans h.output, Nat.le_trans h.size k.size, fun i hi hb => (k.block i (Nat.lt_of_lt_of_le hi h.size) hb).trans (h.block i hi hb)⟩
theorem But.of_below {b : Nat} {w w' : World} (h : Below w.heap.size w w') : But b w w' := ⟨h.os, h.tape, h.output, h.size, fun k hk _ => h.block k hk⟩
theorem But.of_only {b : Nat} {w w' : World} (h : Only b w w') : But b w w' := ⟨h.os, h.tape, h.output, by rw [h.size]; exact Nat.le_refl _, fun k _ hk => h.block k hk⟩
theorem But.below {b B : Nat} {w w' : World} (h : But b w w') (hB : B ≤ b) (hw : B ≤ w.heap.size) : Below B w w' := ⟨h.os, h.tape, h.output, h.size, fun k hk => h.block k (by omega) (by omega)⟩
theorem But.cell {b : Nat} {w w' : World} (h : But b w w') {p : Addr} (hp : p.block < w.heap.size) (hb : p.block ≠ b) : w'.cell? p = w.cell? p := World.cell?_of_block (w := w) (h.block p.block hp hb)
theorem But.frozen {b : Nat} {w w' : World} (h : But b w w') {p : Addr} (hp : p.block < w.heap.size) (hb : p.block ≠ b) : w'.frozen? p = w.frozen? p := World.frozen?_of_block (w := w) (h.block p.block hp hb)
theorem But.alloc {b : Nat} {a w : World} (h : But b a w) (o : Obj) : But b a (w.alloc o) := h.trans (But.of_below ((Below.refl _ _).alloc (Nat.le_refl _) _))
theorem But.set {b : Nat} {a w : World} (h : But b a w) (o : Nat) (v : Value) : But b a (w.setCell ⟨b, o, none⟩ v) := h.trans (But.of_only ((Only.refl _ _).set _ _))
theorem But.drewN {b : Nat} {a w : World} (h : But b a w) (q : Nat) : But b a (w.drewN q) := ⟨h.os, h.tape, h.output, h.size, h.block⟩
theorem IsRef.but {w w' : World} {b o k c : Nat} {s : ByteArray} (h : IsRef w b o s k) (hb : But c w w') (hB : b ≠ c) : IsRef w' b o s k := by
  have hlt : b < w.heap.size := World.block_lt_of_cell? _ _ h.text
  exact ⟨by rw [hb.cell hlt hB]; exact h.text, by rw [hb.cell hlt hB]; exact h.at_, by rw [hb.frozen hlt hB]; exact h.free⟩
theorem IsRdr.but {w w' : World} {b o k c : Nat} {s : ByteArray} (h : IsRdr w b o s k) (hb : But c w w') (hB : b ≠ c) : IsRdr w' b o s k :=
  ⟨by rw [hb.cell h.lt hB]; exact h.made, by rw [hb.cell h.lt hB]; exact h.text, by rw [hb.cell h.lt hB]; exact h.at_, by rw [hb.frozen h.lt hB]; exact h.free⟩

theorem at_none (w : World) : Calls Tryd.prog 19 #[.pointer none] w fun e w' => e = .returned (.int .i64 0) ∧ w = w' := by
  go_enter Tryd.func19, Tryd.ntmps19
  go_wp2_with fail
  go_ret
  exact ⟨rfl, rfl⟩
theorem at_is (b o : Nat) (s : ByteArray) (k : Nat) (w : World) (hr : IsRdr w b o s k) : Calls Tryd.prog 19 #[.pointer (some ⟨b, o, none⟩)] w fun e w' => e = .returned (.int .i64 k) ∧ w = w' := by
  have h1 := hr.at_
  clear hr
  go_enter Tryd.func19, Tryd.ntmps19
  go_wp2_with fail
  go_ret
  exact ⟨rfl, rfl⟩
theorem rest_none (w : World) : Calls Tryd.prog 20 #[.pointer none] w fun e w' => e = .returned (.string ⟨#[]⟩) ∧ w = w' := by
  go_enter Tryd.func20, Tryd.ntmps20
  go_wp2_with fail
  go_ret
  exact ⟨rfl, rfl⟩
theorem cut_rest (s : ByteArray) (k : Nat) (h : k ≤ s.size) (w : World) : (Instr.slice 9 (.string s) (some (.int .i64 (k : Int))) none none).run Tryd.prog w = .ok (.string (s.extract k s.size)) w := by
  rw [run_slice_string_l w 9 s Tryd.underlying9 .i64 (k : Int) (by omega) (by omega)]
  rfl
theorem rest_is (b o : Nat) (s : ByteArray) (k : Nat) (w : World) (hk : k ≤ s.size) (hr : IsRdr w b o s k) : Calls Tryd.prog 20 #[.pointer (some ⟨b, o, none⟩)] w fun e w' => e = .returned (.string (s.extract k s.size)) ∧ ∃ q, w' = w.drewN q := by
  have h1 := hr.at_
  have h2 := hr.text
  have hcut := cut_rest s k hk
  clear hr
  go_enter Tryd.func20, Tryd.ntmps20
  go_wp2_with fail
  go_quiet (fail)
  go_wp2_with fail
  go_ret
  exact ⟨rfl, _, rfl⟩

/-- the closure: its two captured variables -/
def endF (n : Nat) : Value := .func (.func 43) #[] #[.pointer (some ⟨n, 0, none⟩), .pointer (some ⟨n + 1, 0, none⟩)]
theorem begin_is (b o : Nat) (s : ByteArray) (k : Nat) (w : World) (hr : IsRdr w b o s k) :
    Calls Tryd.prog 36 #[.pointer (some ⟨b, o, none⟩)] w fun e w' => e = .returned (endF w.heap.size) ∧ w' = (w.alloc (.cells #[.pointer (some ⟨b, o, none⟩)] 31)).alloc (.cells #[.int .i64 k] 3) := by
  have hr1 := Lib.hid (hr.below ((Below.refl _ _).alloc (Nat.le_refl _) (.cells #[.pointer (some ⟨b, o, none⟩)] 31)) hr.lt)
  clear hr
  go_enter Tryd.func36, Tryd.ntmps36
  go_wp2_with fail
  refine (at_is b o s k _ hr1.out).mono ?_
  rintro e w' ⟨rfl, rfl⟩
  go_wp2_with fail
  go_ret
  exact ⟨rfl, rfl⟩
theorem begin_none (w : World) :
    Calls Tryd.prog 36 #[.pointer none] w fun e w' => e = .returned (endF w.heap.size) ∧ w' = (w.alloc (.cells #[.pointer none] 31)).alloc (.cells #[.int .i64 0] 3) := by
  go_enter Tryd.func36, Tryd.ntmps36
  go_wp2_with fail
  refine (at_none _).mono ?_
  rintro e w' ⟨rfl, rfl⟩
  go_wp2_with fail
  go_ret
  exact ⟨rfl, rfl⟩

/-- an error of a call: nil, or the fault of that number, of nothing, there, in new memory -/
def IsErr (w w' : World) (v : Value) (c : Nat) (a : Int) : Prop := (c = 0 ∧ v = .nilIface) ∨ (c ≠ 0 ∧ ∃ f, v = .iface 88 (.pointer (some ⟨f, 0, none⟩)) ∧ w.heap.size ≤ f ∧ IsFault w' f 0 c ⟨#[]⟩ a)

theorem end_ok (n b o : Nat) (s : ByteArray) (k : Nat) (w : World) (hc : w.cell? ⟨n, 0, none⟩ = some (.pointer (some ⟨b, o, none⟩))) (hr : IsRdr w b o s k) :
    Calls Tryd.prog 43 #[.int .i64 0, .pointer (some ⟨n, 0, none⟩), .pointer (some ⟨n + 1, 0, none⟩)] w fun e w' => e = .returned .nilIface ∧ w = w' := by
  have h1 := hr.made
  clear hr
  go_enter Tryd.func43, Tryd.ntmps43
  go_wp2_with fail
  go_ret
  exact ⟨rfl, rfl⟩
theorem end_err (n b o : Nat) (s : ByteArray) (k k0 c : Nat) (w : World) (h0 : c ≠ 0) (hc : w.cell? ⟨n, 0, none⟩ = some (.pointer (some ⟨b, o, none⟩))) (hf : w.cell? ⟨n + 1, 0, none⟩ = some (.int .i64 k0)) (hr : IsRdr w b o s k) :
    Calls Tryd.prog 43 #[.int .i64 c, .pointer (some ⟨n, 0, none⟩), .pointer (some ⟨n + 1, 0, none⟩)] w fun e w' =>
      e = .returned (.iface 88 (.pointer (some ⟨w.heap.size, 0, none⟩))) ∧ w' = (w.setCell ⟨b, o + 2, none⟩ (.int .i64 k0)).alloc (.cells #[.int .i64 c, .string ⟨#[]⟩, .int .i64 k0, .nilIface] 90) := by
  have h1 := hr.made
  have h2 := hr.at_
  have h3 := hr.free
  have hc0 : ((c : Int) == 0) = false := beq_eq_false_iff_ne.2 (by omega)
  clear hr
  go_enter Tryd.func43, Tryd.ntmps43
  go_wp2_with fail
  go_ret
  exact ⟨rfl, rfl⟩
theorem end_none (n : Nat) (c : Int) (w : World) (hc : w.cell? ⟨n, 0, none⟩ = some (.pointer none)) :
    Calls Tryd.prog 43 #[.int .i64 c, .pointer (some ⟨n, 0, none⟩), .pointer (some ⟨n + 1, 0, none⟩)] w fun e w' =>
      e = .returned (.iface 88 (.pointer (some ⟨w.heap.size, 0, none⟩))) ∧ w' = w.alloc (.cells #[.int .i64 1, .string ⟨#[]⟩, .int .i64 (-1), .nilIface] 90) := by
  go_enter Tryd.func43, Tryd.ntmps43
  go_wp2_with fail
  go_ret
  exact ⟨rfl, rfl⟩

theorem bound_any (n : Int) (w : World) (h : n ≤ 9223372036854775807) : Calls Tryd.prog 44 #[.int .i64 n] w fun e w' => e = .returned (.int .u64 (cap n)) ∧ w = w' := by
  have hmx : max n 0 = ((cap n : Nat) : Int) := by unfold cap; omega
  have hb : cap n ≤ 9223372036854775807 := by unfold cap; omega
  clear h
  generalize cap n = m at *
  go_enter Tryd.func44, Tryd.ntmps44
  go_wp2_with fail
  go_ret
  exact ⟨rfl, rfl⟩
theorem new_any (s : ByteArray) (w : World) : Calls Tryd.prog 17 #[.string s] w fun e w' => e = .returned (.pointer (some ⟨w.heap.size, 0, none⟩)) ∧ w' = w.alloc (.cells #[.bool true, .string s, .int .i64 0] 61) := by
  go_enter Tryd.func17, Tryd.ntmps17
  go_wp2_with fail
  go_ret
  exact ⟨rfl, rfl⟩
theorem new_is (s : ByteArray) (w : World) : IsRdr (w.alloc (.cells #[.bool true, .string s, .int .i64 0] 61)) w.heap.size 0 s 0 :=
  ⟨by simp, by simp, by simp, by simp⟩
end CodeC
end Go.Proofs.YtgjcbcakmcgjhaaDoor
