/-
  Bytes as a text: sums, one byte of it; the text of one byte.
-/
import Derived.Test.YtbjifikbfagdjaaGreatDoorChecked
import Derived.WalkKit
import Derived.Lib.Hide
import Derived.Lib.Strings
import Derived.Laws.IdiomStrings
import Derived.Laws.BytesArg
import Derived.WalkSmall
namespace Go.Proofs.YtbjifikbfagdjaaGreatDoor
open Go.RowKit
namespace StrC

/-- bytes as a text -/
def str (l : List UInt8) : ByteArray := ⟨l.toArray⟩
theorem str_size (l : List UInt8) : (str l).size = l.length := by show l.toArray.size = _; simp
theorem str_list (l : List UInt8) : (str l).data.toList = l := rfl
theorem str_of (s : ByteArray) : s = str s.data.toList := by apply ByteArray.ext; simp [str]
theorem str_inj {a b : List UInt8} (h : str a = str b) : a = b := by have := congrArg (fun s : ByteArray => s.data.toList) h; simpa [str] using this
theorem str_eq (a b : List UInt8) : (str a = str b) = (a = b) := propext ⟨str_inj, fun h => by rw [h]⟩
theorem str_add (a b : List UInt8) : str a ++ str b = str (a ++ b) := by apply ByteArray.ext; simp [str]
theorem add_any (a b : List UInt8) (w : World) (h : a.length + b.length ≤ 4611686018427387904) : (Op.stringOp .add (str a) (str b)).run Tryz.prog w = .ok (.string (str (a ++ b))) w := by
  rw [run_string_add_sum (P := Tryz.prog) w (str a) (str b) (by rw [str_size, str_size]; omega), str_add]
theorem idx_any (l : List UInt8) (x : Int) (a : Nat) (hx : x = a) (h : a < l.length) (w : World) : (Instr.index 9 (.string (str l)) (.int .i64 x)).run Tryz.prog w = .ok (.int .u8 ((l.getD a 0).toNat : Int)) w := by
  subst hx
  rw [run_index_string w 9 (str l) .i64 _ Tryz.underlying9, dif_pos ⟨by omega, by rw [str_size]; omega⟩]
  simp only [Int.toNat_natCast]
  have e : l.getD a 0 = l[a] := by simp [h]
  rw [e]
  rfl
theorem str_beq (a b : List UInt8) : ((str a).toList == (str b).toList) = decide (a = b) := by rw [ByteArray.toList_eq, ByteArray.toList_eq, str_list, str_list, Bool.eq_iff_iff]; simp
theorem str_bne (a b : List UInt8) : ((str a).toList != (str b).toList) = decide (a ≠ b) := by unfold bne; rw [str_beq]; simp
theorem lit_beq (x : ByteArray) (b : List UInt8) : (x.toList == (str b).toList) = decide (x.data.toList = b) := by rw [ByteArray.toList_eq, ByteArray.toList_eq, str_list, Bool.eq_iff_iff]; simp
theorem beq_lit (x : ByteArray) (b : List UInt8) : ((str b).toList == x.toList) = decide (b = x.data.toList) := by rw [ByteArray.toList_eq, ByteArray.toList_eq, str_list, Bool.eq_iff_iff]; simp
theorem list_beq (x b : List UInt8) : (x == (str b).toList) = decide (x = b) := by rw [ByteArray.toList_eq, str_list, Bool.eq_iff_iff]; simp
theorem beq_list (b x : List UInt8) : ((str b).toList == x) = decide (b = x) := by rw [ByteArray.toList_eq, str_list, Bool.eq_iff_iff]; simp
/-- what is written above stays above -/
theorem chain {B : Nat} {w w1 w2 : World} (hB : B ≤ w.heap.size) (h1 : Below B w w1) (h2 : Below w1.heap.size w1 w2) : Below B w w2 := h1.trans (h2.mono (Nat.le_trans hB h1.size))
theorem retB {a b : Bool} (h : a = b) : Ending.returned (.bool a) = Ending.returned (.bool b) := by rw [h]
/-- 'string([]byte{c})' -/
theorem one_any (b cap : Nat) (c : UInt8) (w : World) (h : w.cell? ⟨b, 0, none⟩ = some (.int .u8 (c.toNat : Int))) :
    (convert 241 9 (.slice (some ⟨b, 0, none⟩) 1 cap)).run Tryz.prog w = .ok (.string (str [c])) w :=
  run_convert_bytes_back (P := Tryz.prog) w 241 9 5 ⟨b, 0, none⟩ cap [c] Tryz.underlying241 Tryz.underlying5 Tryz.underlying9 (fun j hj => by
    have : j = 0 := by simpa using hj
    subst this
    rw [Go.WideShapes.add_plain]; exact h)
theorem one_new (x : Int) (d : UInt8) (h : (d.toNat : Int) = x) (w : World) :
    (convert 241 9 (.slice (some ⟨w.heap.size, 0, none⟩) 1 1)).run Tryz.prog (w.alloc (.cells #[.int .u8 x] 5)) = .ok (.string (str [d])) (w.alloc (.cells #[.int .u8 x] 5)) :=
  one_any _ 1 d _ (by rw [World.cell?_alloc_at _ _ _ _ rfl, h]; rfl)
end StrC
end Go.Proofs.YtbjifikbfagdjaaGreatDoor
