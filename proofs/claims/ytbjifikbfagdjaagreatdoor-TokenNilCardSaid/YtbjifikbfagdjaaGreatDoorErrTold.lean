/-
  What the statements' own question ('told', 'is': one text in all layers that have it) tells of an error: of nil, and of a *api.Fault with nothing under it: its number, what it is of, where.
-/
import Derived.Test.YtbjifikbfagdjaaGreatDoorErrAs
import Derived.Test.YtbjifikbfagdjaaGreatDoorErrIs
import Derived.Test.YtbjifikbfagdjaaGreatDoorErrText
import Derived.WalkSmall
namespace Go.Proofs.YtbjifikbfagdjaaGreatDoor
open Go.RowKit
namespace ErrC

/-- the package-level variables that the law's road reads -/
structure Vars (w : World) : Prop where
  err : ErrType w
  pow : PowTab w
theorem Vars.below {w w' : World} (h : Vars w) (hb : Below w.heap.size w w') : Vars w' :=
  ⟨by unfold ErrType; rw [hb.cell (World.block_lt_of_cell? _ _ h.err)]; exact h.err, h.pow.below hb⟩

theorem as_found (e t : Addr) (old : Value) (w : World) (hg : ErrType w) (ht0 : w.cell? t = some old) (hf0 : w.frozen? t = false) :
    Calls Tryz.prog 26 #[.iface 68 (.pointer (some e)), .iface 70 (.pointer (some t))] w fun ev w' => ev = .returned (.bool true) ∧ w'.cell? t = some (.pointer (some e)) ∧ Below t.block w w' := by
  refine (as_hit e t old w hg ht0 hf0).mono ?_
  rintro ev w' ⟨rfl, rfl⟩
  have hlt : t.block < w.heap.size := World.block_lt_of_cell? _ _ ht0
  have hb := (asW_below w t e w.heap.size (Nat.le_refl _)).2.2.2
  have hc : (asW4 w t e).cell? t = some old := by rw [hb.cell hlt]; exact ht0
  exact ⟨rfl, World.cell?_setCell_same _ _ _ hc, (hb.mono (Nat.le_of_lt hlt)).setCell (Nat.le_refl _) _⟩

theorem told_nil (w : World) : Calls Tryz.prog 27 #[.nilIface] w fun e w' => e = .returned (.tuple #[.int .i64 0, .string ⟨#[]⟩, .int .i64 (-1)]) ∧ w = w' := by
  go_enter Tryz.func27, Tryz.ntmps27
  go_wp2_with fail
  go_ret3
  exact ⟨rfl, rfl⟩

theorem m_error (v : Value) (w : World) : (Go.method 531 68 v "Error").run Tryz.prog w = .ok (357, v) w := by kernel_rfl

theorem toList_ne (t : ByteArray) (h : 6 ≤ t.size) : t.toList.isEmpty = false := by
  rw [ByteArray.toList_eq]
  have hl : t.data.toList.length = t.size := by simp
  cases e : t.data.toList with
  | nil => rw [e] at hl; simp at hl; omega
  | cons x r => rfl

set_option maxHeartbeats 4000000 in
theorem told_fault (b o : Nat) (c : Nat) (s : ByteArray) (a : Int) (w : World) (h : c ≤ 9223372036854775807) (ha : a ≤ 9223372036854775807) (hs : s.size ≤ 4611686018427387904) (hf : IsFault w b o c s a) (hv : Vars w) :
    Calls Tryz.prog 27 #[.iface 68 (.pointer (some ⟨b, o, none⟩))] w fun e w' => e = .returned (.tuple #[.int .i64 c, .string s, .int .i64 a]) ∧ Below w.heap.size w w' := by
  have hlt := hf.lt
  have y1 := m_error
  have HV := Lib.hid hv; clear hv
  have HF := Lib.hid hf; clear hf
  go_enter Tryz.func27, Tryz.ntmps27
  go_wp2_with fail
  have hb0 : Below w.heap.size w (w.alloc (.cells #[.pointer none] 68)) := (Below.refl _ _).alloc (Nat.le_refl _) _
  refine (as_found ⟨b, o, none⟩ ⟨w.heap.size, 0, none⟩ (.pointer none) _ (HV.out.below hb0).err (by simp) (by simp)).mono ?_
  rintro e w1 ⟨rfl, hc1, hb1⟩
  have hB1 : Below w.heap.size w w1 := hb0.trans hb1
  have HF1 := Lib.hid (HF.out.below hB1 hlt)
  have HV1 := Lib.hid (HV.out.below hB1)
  have HB1 := Lib.hid hB1
  have k1 := HF1.out.code
  clear hb0 hb1 hB1
  go_wp2_with fail
  refine (is_one b o c _ HF1.out.code HF1.out.under).mono ?_
  rintro e w2 ⟨rfl, hw2⟩
  have hb2 : Below w1.heap.size w1 w2 := by rw [hw2]; exact (Below.refl _ _).alloc (Nat.le_refl _) _
  have hlt1 : b < w1.heap.size := HF1.out.lt
  have hsz1 := HB1.out.size
  have htl1 : w.heap.size < w1.heap.size := World.block_lt_of_cell? _ _ hc1
  have hc2 : w2.cell? ⟨w.heap.size, 0, none⟩ = some (.pointer (some ⟨b, o, none⟩)) := by rw [hb2.cell htl1]; exact hc1
  have HF2 := Lib.hid (HF1.out.below hb2 hlt1)
  have HV2 := Lib.hid (HV1.out.below hb2)
  have HB2 := Lib.hid (HB1.out.trans (hb2.mono hsz1))
  clear k1 hc1 hw2 hb2 hlt1 hsz1 HF1 HV1 HB1 HF HV
  go_wp2_with fail
  refine (fault_text b o c s a _ h ha hs HF2.out HV2.out.pow).mono ?_
  rintro e w3 ⟨t, rfl, ht1, ht2, hb3⟩
  have hsz2 := HB2.out.size
  have hlt2 : b < w2.heap.size := HF2.out.lt
  have htl2 : w.heap.size < w2.heap.size := World.block_lt_of_cell? _ _ hc2
  have hc3 : w3.cell? ⟨w.heap.size, 0, none⟩ = some (.pointer (some ⟨b, o, none⟩)) := by rw [hb3.cell htl2]; exact hc2
  have f3 := HF2.out.below hb3 hlt2
  have k0 := f3.code
  have k1 := f3.what
  have k2 := f3.at_
  have HB3 := Lib.hid (HB2.out.trans (hb3.mono hsz2))
  have hne : t.toList.isEmpty = false := toList_ne t ht1
  clear hb3 f3 hc2 HB2 HV2 HF2
  go_wp2_with fail
  go_quiet (fail)
  go_wp2_with fail
  go_ret3
  exact ⟨rfl, below_drewN HB3.out _⟩

theorem is_nil (s : ByteArray) (a : Int) (w : World) : Calls Tryz.prog 14 #[.nilIface, .int .i64 0, .string s, .int .i64 a] w fun e w' => e = .returned (.bool true) ∧ w = w' := by
  go_enter Tryz.func14, Tryz.ntmps14
  go_wp2_with fail
  go_ret
  exact ⟨rfl, rfl⟩
theorem is_that (b o : Nat) (c : Nat) (s : ByteArray) (a : Int) (w : World) (h0 : c ≠ 0) (h : c ≤ 9223372036854775807) (ha : a ≤ 9223372036854775807) (hs : s.size ≤ 4611686018427387904) (hf : IsFault w b o c s a) (hv : Vars w) :
    Calls Tryz.prog 14 #[.iface 68 (.pointer (some ⟨b, o, none⟩)), .int .i64 c, .string s, .int .i64 a] w fun e w' => e = .returned (.bool true) ∧ Below w.heap.size w w' := by
  have hc : ((c : Int) == 0) = false := beq_eq_false_iff_ne.2 (by omega)
  have HF := Lib.hid hf; clear hf
  have HV := Lib.hid hv; clear hv
  go_enter Tryz.func14, Tryz.ntmps14
  go_wp2_with fail
  refine (told_fault b o c s a _ h ha hs HF.out HV.out).mono ?_
  rintro e w' ⟨rfl, hb⟩
  go_wp2_with fail
  go_ret
  exact ⟨rfl, hb⟩
end ErrC
end Go.Proofs.YtbjifikbfagdjaaGreatDoor
