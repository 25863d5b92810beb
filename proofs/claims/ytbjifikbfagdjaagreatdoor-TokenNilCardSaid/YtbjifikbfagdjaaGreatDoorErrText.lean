/-
  The text of a *api.Fault with nothing under it is never empty; to make it writes nothing that was there.
-/
import Derived.Test.YtbjifikbfagdjaaGreatDoorItoa
import Derived.BigQuiet
namespace Go.Proofs.YtbjifikbfagdjaaGreatDoor
open Go.RowKit
namespace ErrC

theorem PowTab.below {w w' : World} (h : PowTab w) (hb : Below w.heap.size w w') : PowTab w' := fun i hi => by
  obtain ⟨x, hx⟩ := h i hi
  exact ⟨x, by rw [hb.cell (World.block_lt_of_cell? _ _ hx)]; exact hx⟩

def WordE (w : World) (e : Ending) (w' : World) : Prop := ∃ s : ByteArray, e = .returned (.string s) ∧ 6 ≤ s.size ∧ s.size ≤ 70 ∧ Below w.heap.size w w'
def WordF (n : Nat) (w : World) (e : Ending) (w' : World) : Prop := ∃ s : ByteArray, e = .returned (.string s) ∧ 6 ≤ s.size ∧ s.size ≤ n + 200 ∧ Below w.heap.size w w'

theorem errno_text (c : Nat) (w : World) (h : c ≤ 9223372036854775807) (ht : PowTab w) : Calls Tryz.prog 356 #[.int .i64 c] w (WordE w) := by
  have HT := Lib.hid ht; clear ht
  go_enter Tryz.func356, Tryz.ntmps356
  go_wp2_with fail
  refine (itoa_any c _ h HT.out).mono ?_
  rintro e w' ⟨s, rfl, hs, hb⟩
  have HB := Lib.hid hb; clear hb
  go_wp2_with fail
  go_ret
  exact ⟨_, rfl, by rw [ByteArray.size_append]; show 6 ≤ 6 + s.size; omega, by rw [ByteArray.size_append]; show 6 + s.size ≤ 70; omega, HB.out⟩

/-- a fault with nothing under it, as its cells hold it -/
structure IsFault (w : World) (b o : Nat) (c : Int) (s : ByteArray) (a : Int) : Prop where
  code : w.cell? ⟨b, o, none⟩ = some (.int .i64 c)
  what : w.cell? ⟨b, o + 1, none⟩ = some (.string s)
  at_ : w.cell? ⟨b, o + 2, none⟩ = some (.int .i64 a)
  under : w.cell? ⟨b, o + 3, none⟩ = some .nilIface
theorem IsFault.below {w w' : World} {b o : Nat} {c a : Int} {s : ByteArray} (h : IsFault w b o c s a) {B : Nat} (hb : Below B w w') (hB : b < B) : IsFault w' b o c s a :=
  ⟨by rw [hb.cell hB]; exact h.code, by rw [hb.cell hB]; exact h.what, by rw [hb.cell hB]; exact h.at_, by rw [hb.cell hB]; exact h.under⟩
theorem IsFault.lt {w : World} {b o : Nat} {c a : Int} {s : ByteArray} (h : IsFault w b o c s a) : b < w.heap.size := World.block_lt_of_cell? _ _ h.code

theorem sz (a b : ByteArray) : (a ++ b).size = a.size + b.size := ByteArray.size_append
set_option maxHeartbeats 1000000 in
theorem fault_below (b o : Nat) (c : Nat) (s : ByteArray) (a : Int) (w : World) (h : c ≤ 9223372036854775807) (ha : a < 0) (hs : s.size ≤ 4611686018427387904) (hf : IsFault w b o c s a) (ht : PowTab w) :
    Calls Tryz.prog 357 #[.pointer (some ⟨b, o, none⟩)] w (WordF s.size w) := by
  obtain ⟨c0, c1, c2, c3⟩ := hf
  have hlt : b < w.heap.size := World.block_lt_of_cell? _ _ c0
  have HT := Lib.hid ht; clear ht
  go_enter Tryz.func357, Tryz.ntmps357
  go_wp2_with fail
  refine (errno_text c _ h HT.out).mono ?_
  rintro e w1 ⟨t, rfl, ht1, ht2, hb⟩
  have d1 : w1.cell? ⟨b, o + 1, none⟩ = some (.string s) := by rw [hb.cell hlt]; exact c1
  have d2 : w1.cell? ⟨b, o + 2, none⟩ = some (.int .i64 a) := by rw [hb.cell hlt]; exact c2
  have d3 : w1.cell? ⟨b, o + 3, none⟩ = some .nilIface := by rw [hb.cell hlt]; exact c3
  have HT1 := Lib.hid (HT.out.below hb)
  have hlt1 : b < w1.heap.size := World.block_lt_of_cell? _ _ d1
  have hsz := hb.size
  have HB := Lib.hid hb
  clear c0 c1 c2 c3 hb
  go_wp2_with fail
  all_goals go_ret
  · exact ⟨_, rfl, by rw [sz, sz]; omega, by rw [sz, sz]; show t.size + (1 + s.size) ≤ _; omega, HB.out⟩
  · exact ⟨_, rfl, ht1, by omega, HB.out⟩

set_option maxHeartbeats 1000000 in
theorem fault_at (b o : Nat) (c : Nat) (s : ByteArray) (a : Nat) (w : World) (h : c ≤ 9223372036854775807) (ha : a ≤ 9223372036854775807) (hs : s.size ≤ 4611686018427387904) (hf : IsFault w b o c s a) (ht : PowTab w) :
    Calls Tryz.prog 357 #[.pointer (some ⟨b, o, none⟩)] w (WordF s.size w) := by
  obtain ⟨c0, c1, c2, c3⟩ := hf
  have hlt : b < w.heap.size := World.block_lt_of_cell? _ _ c0
  have HT := Lib.hid ht; clear ht
  go_enter Tryz.func357, Tryz.ntmps357
  go_wp2_with fail
  refine (errno_text c _ h HT.out).mono ?_
  rintro e w1 ⟨t, rfl, ht1, ht2, hb⟩
  have d1 : w1.cell? ⟨b, o + 1, none⟩ = some (.string s) := by rw [hb.cell hlt]; exact c1
  have d2 : w1.cell? ⟨b, o + 2, none⟩ = some (.int .i64 a) := by rw [hb.cell hlt]; exact c2
  have d3 : w1.cell? ⟨b, o + 3, none⟩ = some .nilIface := by rw [hb.cell hlt]; exact c3
  have HT1 := Lib.hid (HT.out.below hb)
  have hlt1 : b < w1.heap.size := World.block_lt_of_cell? _ _ d1
  have hsz := hb.size
  have HB := Lib.hid hb
  clear c0 c1 c2 c3 hb
  go_wp2_with fail
  all_goals
    refine (itoa_any a _ ha HT1.out).mono ?_
    rintro e w2 ⟨u, rfl, hu, hb2⟩
    have e3 : w2.cell? ⟨b, o + 3, none⟩ = some .nilIface := by rw [hb2.cell hlt1]; exact d3
    have HB2 := Lib.hid hb2
    clear hb2 d1 d2 d3
    go_wp2_with fail
    go_ret
  · exact ⟨_, rfl, by simp only [sz]; omega, by simp only [sz]; show t.size + (1 + s.size) + (4 + u.size) ≤ _; omega, HB.out.trans (HB2.out.mono hsz)⟩
  · exact ⟨_, rfl, by simp only [sz]; omega, by simp only [sz]; show t.size + (4 + u.size) ≤ _; omega, HB.out.trans (HB2.out.mono hsz)⟩

theorem fault_text (b o : Nat) (c : Nat) (s : ByteArray) (a : Int) (w : World) (h : c ≤ 9223372036854775807) (ha : a ≤ 9223372036854775807) (hs : s.size ≤ 4611686018427387904) (hf : IsFault w b o c s a) (ht : PowTab w) :
    Calls Tryz.prog 357 #[.pointer (some ⟨b, o, none⟩)] w (WordF s.size w) := by
  by_cases h0 : a < 0
  · exact fault_below b o c s a w h h0 hs hf ht
  · obtain ⟨n, rfl⟩ := Int.eq_ofNat_of_zero_le (show 0 ≤ a by omega)
    exact fault_at b o c s n w h (by omega) hs hf ht
end ErrC
end Go.Proofs.YtbjifikbfagdjaaGreatDoor
