/-
  strconv.Itoa at a number from 0 on: some text of at most 64 bytes; what was there is as it was.
-/
import Derived.Test.YtpmbokklpidohaaDoorItoaB
import Derived.Laws.BytesArg
namespace Go.Proofs.YtpmbokklpidohaaDoor
open Go.RowKit
namespace ErrC

theorem RowOk.nums {blk off : Nat} {w : World} : ∀ {n : Nat}, RowOk blk off n w → ∃ ns : List Int, ns.length = n ∧ ∀ i, i < n → w.cell? ⟨blk, off + i, none⟩ = some (.int .u8 (ns.getD i 0))
  | 0, _ => ⟨[], rfl, fun _ h => by omega⟩
  | n + 1, h => by
    obtain ⟨ns, hl, hc⟩ := RowOk.nums (n := n) (fun t ht => h t (by omega))
    obtain ⟨⟨x, hx⟩, _⟩ := h n (by omega)
    refine ⟨ns ++ [x], by simp [hl], fun i hi => ?_⟩
    by_cases e : i = n
    · subst e; rw [hx]; simp [List.getD, hl]
    · rw [hc i (by omega)]; simp [List.getD, List.getElem?_append_left (show i < ns.length by omega)]
theorem text_of_row {blk off n : Nat} {w : World} (cap : Nat) (h : RowOk blk off n w) : ∃ s : ByteArray, s.size = n ∧ (convert 32 9 (.slice (some ⟨blk, off, none⟩) n cap)).run Tryd.prog w = .ok (.string s) w := by
  obtain ⟨ns, hl, hc⟩ := h.nums
  have e := run_convert_bytes_arg (P := Tryd.prog) w 32 5 Tryd.underlying32 Tryd.underlying5 blk off n cap ns hl hc 9 Tryd.underlying9
  exact ⟨_, (strOfNums_size ns).trans hl, e⟩

set_option maxHeartbeats 1000000 in
theorem formatInt_small (i : Nat) (w : World) (h : i < 100) : Calls Tryd.prog 61 #[.int .i64 i, .int .i64 10] w (SomeText w) := by
  go_enter Tryd.func61, Tryd.ntmps61
  go_wp2_with fail
  refine (small_any i _ h).mono ?_
  rintro e w' ⟨s, rfl, hs, hb⟩
  go_wp2_with fail
  go_ret
  exact ⟨s, rfl, hs, hb⟩

theorem cut_array (b d : Nat) (w : World) (h : d ≤ 20) :
    (Instr.sliceAt 117 (.pointer (some ⟨b, 0, none⟩)) (some (.int .i64 1)) (some (.int .i64 (1 + (d : Int)))) none).run Tryd.prog w = .ok (.slice (some ⟨b, 1, none⟩) d 23) w := by
  rcases (by omega : d = 0 ∨ d = 1 ∨ d = 2 ∨ d = 3 ∨ d = 4 ∨ d = 5 ∨ d = 6 ∨ d = 7 ∨ d = 8 ∨ d = 9 ∨ d = 10 ∨ d = 11 ∨ d = 12 ∨ d = 13 ∨ d = 14 ∨ d = 15 ∨ d = 16 ∨ d = 17 ∨ d = 18 ∨ d = 19 ∨ d = 20) with rfl | rfl | rfl | rfl | rfl | rfl | rfl | rfl | rfl | rfl | rfl | rfl | rfl | rfl | rfl | rfl | rfl | rfl | rfl | rfl | rfl <;> kernel_rfl

set_option maxHeartbeats 1000000 in
set_option maxRecDepth 100000 in
theorem formatInt_big (i : Nat) (w : World) (h : 100 ≤ i) (h1 : i ≤ 9223372036854775807) (ht : PowTab w) : Calls Tryd.prog 61 #[.int .i64 i, .int .i64 10] w (SomeText w) := by
  have HT := Lib.hid ht; clear ht
  go_enter Tryd.func61, Tryd.ntmps61
  go_wp2_with fail
  refine (digits_any i _ (by omega) (by omega) ?_).mono ?_
  · intro j hj
    obtain ⟨x, hx⟩ := HT.out j hj
    exact ⟨x, by rw [World.cell?_alloc_lt _ _ _ (World.block_lt_of_cell? _ _ hx)]; exact hx⟩
  rintro e w' ⟨d, rfl, hd, rfl⟩
  have hcut := fun w' => cut_array w.heap.size d w' hd
  go_wp2_with fail
  have hrow : RowOk w.heap.size 1 d (w.alloc (.cells (Array.replicate 24 (.int .u8 0)) 117)) := fun t ht => by
    refine ⟨⟨0, ?_⟩, World.frozen?_alloc_at _ _ _ _ rfl⟩
    rw [World.cell?_alloc_at _ _ _ _ rfl]
    rw [Array.getElem?_replicate, if_pos (by omega)]
  refine (format_any w.heap.size 1 23 d i _ (by omega) (by omega) hd hrow).mono ?_
  rintro e w2 ⟨rfl, hr2, hb2⟩
  obtain ⟨s, hs, hcv⟩ := text_of_row 23 hr2
  have HB := Lib.hid hb2
  clear hb2 hr2
  go_wp2_with fail
  go_ret
  exact ⟨s, rfl, by omega, ((Below.refl w.heap.size w).alloc (Nat.le_refl _) _).trans HB.out⟩

theorem formatInt_any (i : Nat) (w : World) (h1 : i ≤ 9223372036854775807) (ht : PowTab w) : Calls Tryd.prog 61 #[.int .i64 i, .int .i64 10] w (SomeText w) := by
  by_cases h : i < 100
  · exact formatInt_small i w h
  · exact formatInt_big i w (by omega) h1 ht
theorem itoa_in (i : Nat) (w : World) (h1 : i ≤ 9223372036854775807) (ht : PowTab w) : Calls Tryd.prog 60 #[.int .i64 i] w (SomeText w) := by
  go_enter Tryd.func60, Tryd.ntmps60
  go_wp2_with fail
  refine (formatInt_any i _ h1 ht).mono ?_
  rintro e w' ⟨s, rfl, hs, hb⟩
  go_wp2_with fail
  go_ret
  exact ⟨s, rfl, hs, hb⟩
theorem itoa_any (i : Nat) (w : World) (h1 : i ≤ 9223372036854775807) (ht : PowTab w) : Calls Tryd.prog 59 #[.int .i64 i] w (SomeText w) := by
  go_enter Tryd.func59, Tryd.ntmps59
  go_wp2_with fail
  refine (itoa_in i _ h1 ht).mono ?_
  rintro e w' ⟨s, rfl, hs, hb⟩
  go_wp2_with fail
  go_ret
  exact ⟨s, rfl, hs, hb⟩
end ErrC
end Go.Proofs.YtpmbokklpidohaaDoor
