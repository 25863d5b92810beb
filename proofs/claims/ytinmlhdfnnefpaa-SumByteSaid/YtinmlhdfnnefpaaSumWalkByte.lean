/-
  The statement of one byte, walked: the text's bytes in new memory, one of them turned, the two sums.
-/
import Derived.Test.YtinmlhdfnnefpaaSumAlive
import Derived.Laws.IdiomStrings
namespace Go.Proofs.Ytinmlhdfnnefpaa
open Go.RowKit
namespace SumC
open SumM

/-- '[]byte(s)': new memory that holds the bytes -/
theorem bytes_new (s : ByteArray) (w : World) : ∃ cap w1, (convert 9 38 (.string s)).run Try.prog w = .ok (.slice (some ⟨w.heap.size, 0, none⟩) s.size cap) w1 ∧
    (∀ j (h : j < s.size), w1.cell? ⟨w.heap.size, j, none⟩ = some (.int .u8 (s[j].toNat : Int))) ∧ (∀ j, j < s.size → w1.frozen? ⟨w.heap.size, j, none⟩ = false) ∧ Below w.heap.size w w1 := by
  refine ⟨_, _, run_bytes_of_string w 9 38 5 s Try.underlying9 Try.underlying38 Try.underlying5, ?_, ?_, ?_⟩
  · intro j h
    have e := World.cell?_alloc_mark w.drew (bytesRow s (grownCap w s.size 0 5)) 5 ((bytesRow s (grownCap w s.size 0 5)).size, (bytesRow s (grownCap w s.size 0 5)).size + 1) j
    exact e.trans (bytesRow_at s _ j h)
  · intro j h
    have e := World.frozen?_alloc_mark w.drew (bytesRow s (grownCap w s.size 0 5)) 5 (bytesRow s (grownCap w s.size 0 5)).size ((bytesRow s (grownCap w s.size 0 5)).size + 1) j
    refine e.trans ?_
    have hs : s.size ≤ (bytesRow s (grownCap w s.size 0 5)).size := by simp [bytesRow]
    rw [decide_eq_false (by omega)]; rfl
  · exact ((Below.refl w.heap.size w).drew).alloc (Nat.le_refl _) _

/-- 'string(b)' behind the store of one byte -/
theorem bytes_back (s : ByteArray) (B cap i : Nat) (w1 : World) (c : UInt8) (hi : i < s.size) (hc : ∀ j (h : j < s.size), w1.cell? ⟨B, j, none⟩ = some (.int .u8 (s[j].toNat : Int))) :
    (convert 38 9 (.slice (some ⟨B, 0, none⟩) s.size cap)).run Try.prog (w1.setCell ⟨B, i, none⟩ (.int .u8 (c.toNat : Int))) = .ok (.string ⟨(s.data.toList.set i c).toArray⟩) (w1.setCell ⟨B, i, none⟩ (.int .u8 (c.toNat : Int))) := by
  have hl : (s.data.toList.set i c).length = s.size := by simp
  have h := run_convert_bytes_back (P := Try.prog) (w1.setCell ⟨B, i, none⟩ (.int .u8 (c.toNat : Int))) 38 9 5 ⟨B, 0, none⟩ cap (s.data.toList.set i c) Try.underlying38 Try.underlying5 Try.underlying9 (fun j hj => by
    rw [Go.WideShapes.add_plain, Nat.zero_add]
    have hj' : j < s.size := by rw [hl] at hj; exact hj
    by_cases e : j = i
    · subst e
      rw [World.cell?_setCell_same _ _ _ (hc j hj')]
      simp
    · rw [World.cell?_setCell_other _ _ _ _ (fun h => e (by cases h; rfl)), hc j hj']
      rw [List.getElem_set_ne (by omega)]
      rfl)
  rw [hl] at h
  exact h

set_option maxHeartbeats 400000 in
theorem byte_none (s : ByteArray) (at_ by_ : Int) (w : World) (h : s.size = 0 ∨ by_ % 256 = 0) :
    Calls Try.prog 7 #[.string s, .int .i64 at_, .int .i64 by_] w fun e w' => e = .returned (.bool true) ∧ Below w.heap.size w w' := by
  have ha := and_low8 by_
  by_cases h0 : s.size = 0
  · have hb : ((s.size : Int) == 0) = true := by rw [h0]; rfl
    clear h h0
    go_enter Try.func7, Try.ntmps7
    go_wp2_with fail
    refine (alive_any _).mono ?_
    rintro e w' ⟨rfl, hb⟩
    go_wp2_with fail
    go_ret
    exact ⟨rfl, hb⟩
  · have hb : ((s.size : Int) == 0) = false := by simpa using h0
    have h8 : by_ % 256 = 0 := h.resolve_left h0
    have hz : (by_ % 256 == 0) = true := by simpa using h8
    clear h h0 h8
    go_enter Try.func7, Try.ntmps7
    go_wp2_with fail
    refine (alive_any _).mono ?_
    rintro e w' ⟨rfl, hb⟩
    go_wp2_with fail
    go_ret
    exact ⟨rfl, hb⟩

set_option maxHeartbeats 400000 in
theorem byte_some (s : ByteArray) (at_ by_ : Int) (w : World) (hm : s.size ≤ maxLen) (h0 : 0 < s.size) (h8 : ¬ by_ % 256 = 0) :
    Calls Try.prog 7 #[.string s, .int .i64 at_, .int .i64 by_] w fun e w' => e = .returned (.bool true) ∧ Below w.heap.size w w' := by
  have hm' := hm
  unfold maxLen at hm'
  have ha := and_low8 by_
  have hb : ((s.size : Int) == 0) = false := beq_eq_false_iff_ne.2 (by omega)
  have hz : (by_ % 256 == 0) = false := by simpa using h8
  obtain ⟨q, hq⟩ : ∃ q : Nat, at_ % 16777216 = (q : Int) ∧ q < 16777216 := ⟨(at_ % 16777216).toNat, by omega, by omega⟩
  have hq2 : bits .and .i64 at_ 16777215 = (q : Int) := by rw [and_low24]; exact hq.1
  have hq3 := hq.2
  have hi : q % s.size < s.size := Nat.mod_lt _ h0
  obtain ⟨cap, w1, hrun, hcell, hfr, hbel⟩ := bytes_new s w
  have hci := hcell (q % s.size) hi
  have hfi := hfr (q % s.size) hi
  have hx := xor_byte s[q % s.size] by_
  have hn := xor_ne s[q % s.size] _ (lowByte_ne _ h8)
  generalize s[q % s.size] ^^^ lowByte by_ = c at *
  have hback := bytes_back s w.heap.size cap (q % s.size) w1 c hi hcell
  have HB := Lib.hid hbel
  have HN : (fnv ofNone (s.data.toList.set (q % s.size) c) != fnv ofNone s.data.toList) = true := fnv_set s.data.toList (q % s.size) (by simpa using hi) c hn
  have hlen : (⟨(s.data.toList.set (q % s.size) c).toArray⟩ : ByteArray).size ≤ maxLen := by
    show (s.data.toList.set (q % s.size) c).toArray.size ≤ maxLen
    rw [List.size_toArray, List.length_set, Array.length_toList]
    exact hm
  generalize s.data.toList.set (q % s.size) c = l at *
  clear hcell hfr hbel hq h8 hn
  go_enter Try.func7, Try.ntmps7
  go_wp2_with fail
  refine (of_any _ _ hlen).mono ?_
  rintro e w' ⟨rfl, rfl⟩
  go_wp2_with fail
  refine (of_any _ _ hm).mono ?_
  rintro e w' ⟨rfl, rfl⟩
  go_wp2_with fail
  refine (alive_any _).mono ?_
  rintro e w3 ⟨rfl, hb3⟩
  go_wp2_with fail
  go_ret
  exact ⟨rfl, (HB.out.setCell (Nat.le_refl _) _).trans (hb3.mono (by simpa using HB.out.size))⟩
end SumC
end Go.Proofs.Ytinmlhdfnnefpaa
