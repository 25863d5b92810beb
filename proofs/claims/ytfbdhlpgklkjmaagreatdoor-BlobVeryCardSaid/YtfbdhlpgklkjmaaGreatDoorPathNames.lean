/-
  Package path's names of files (layer 11): strconv.FormatUint at base 10; Stage, Page, Blob; the law's 'made' and 'alive'.
-/
import Derived.Test.YtfbdhlpgklkjmaaGreatDoorPathP
import Derived.Lib.ItoaMem
import Derived.Lib.AppendIntMem
import Derived.Lib.ItoaWalk
import Derived.BigCall
import Derived.BigGuard
import Derived.Lib.QuietBelow
import Derived.BigQuiet
import Derived.Deep.QuietTactic
import Derived.Deep.CutBlock
import Derived.Handy
namespace Go.Proofs.YtfbdhlpgklkjmaaGreatDoor
open Go.RowKit Go.Sort
namespace PathC
open PathM StrC
open VerM (B val dig)
set_option linter.unusedSimpArgs false
set_option linter.unusedVariables false

/-- the table of the powers of ten reads as its text -/
def Tab (w : World) : Prop := Lib.TabIs Tryz.prog w "internal/strconv.uint64pow10" .u64 Lib.pow10Tab
theorem Tab.below {w w' : World} (h : Tab w) (g : Below w.heap.size w w') : Tab w' := Lib.tabBelow_of_tabIs h _ g

set_option maxHeartbeats 4000000 in
set_option maxRecDepth 100000 in
theorem format_in (u : Nat) (w : World) (hu64 : u < 18446744073709551616) (htab : Tab w) :
    Calls Tryz.prog 64 #[.int .u64 u, .int .i64 10] w fun e w' => e = .returned (.string (str (Lib.decDigits u))) ∧ Below w.heap.size w w' := by
  by_cases hs : u < 100
  · have hd : decide ((u : Int) < 100) = true := decide_eq_true (by omega)
    have hd' : decide (u < 100) = true := decide_eq_true hs
    have HS := Lib.hid (fun w => Tryz.internal_strconv_small u hs w)
    have hcv : IntKind.i64.wrap (u : Int) = u := IntWalk.i64_in _ ⟨by omega, by omega⟩
    clear hs
    go_enter Tryz.func64, Tryz.ntmps64
    go_wp2_with (go_at_call 102; refine (HS.out _).mono ?_; rintro e w' ⟨rfl, rfl⟩)
    go_ret
    exact ⟨rfl, Below.refl _ _⟩
  · have hd : decide ((u : Int) < 100) = false := decide_eq_false (by omega)
    have hd' : decide (u < 100) = false := decide_eq_false hs
    have hu1 : 1 ≤ u := by omega
    have hnd20 : Lib.nDigits u ≤ 20 := by have := Lib.numDigits_eq u hu1 hu64; split at this <;> omega
    have hal : Tryz.prog.arrayLen 155 = 24 := by kernel_rfl
    have hsl : ∀ W, (Instr.sliceAt 155 (.pointer (some ⟨w.heap.size, 0, none⟩)) none (some (.int .i64 (Lib.nDigits u : Int))) none).run Tryz.prog W = .ok (.slice (some ⟨w.heap.size, 0, none⟩) (Lib.nDigits u) 24) W := fun W => by
      rw [run_sliceAt_array_h W 155 ⟨w.heap.size, 0, none⟩ (by kernel_rfl) .i64 (Lib.nDigits u : Int) (by omega) (by rw [hal]; omega)]
      go_simp
    have hH0 := Lib.holds_zero0 w 155 (Lib.nDigits u) (by omega)
    have hfmt := Tryz.internal_strconv_formatBase10 w.heap.size 0 24 u (Array.replicate (Lib.nDigits u) 0) (w.alloc (.cells Lib.zeros24 155)) hH0 (by rw [Array.size_replicate]; exact Lib.lt_pow_nDigits u) hu64 (by rw [Array.size_replicate]; omega)
    rw [Array.size_replicate] at hfmt
    have HH0 := Lib.hid hH0
    have HND := Lib.hid (fun w h => Tryz.internal_strconv_numDigits u hu1 hu64 w h)
    have HT := Lib.hid (Lib.tabIs_alloc htab (.cells Lib.zeros24 155))
    have HF := Lib.hid hfmt
    have HU := Lib.hid hu64
    clear hH0 hal hfmt hs htab hu64
    go_enter Tryz.func64, Tryz.ntmps64
    go_wp2_with (first
      | (go_at_call 103; refine (HND.out _ HT.out).mono ?_; rintro e w' ⟨rfl, rfl⟩))
    refine HF.out.mono ?_
    rintro e w' ⟨rfl, k, v', dk, rfl, hF⟩
    have hcv : (convert 45 9 (.slice (some ⟨w.heap.size, 0, none⟩) (Lib.nDigits u) 24)).run Tryz.prog ((putRow (fun (b : UInt8) => Value.int .u8 (b.toNat : Int)) (w.alloc (.cells Lib.zeros24 155)) w.heap.size 0 dk).drewN k) = .ok (.string (str (Lib.decDigits u))) ((putRow (fun (b : UInt8) => Value.int .u8 (b.toNat : Int)) (w.alloc (.cells Lib.zeros24 155)) w.heap.size 0 dk).drewN k) := by
      have h := run_convert_bytes_back (P := Tryz.prog) ((putRow (fun (b : UInt8) => Value.int .u8 (b.toNat : Int)) (w.alloc (.cells Lib.zeros24 155)) w.heap.size 0 dk).drewN k) 45 9 5 ⟨w.heap.size, 0, none⟩ 24 (Lib.decDigits u) Tryz.underlying45 Tryz.underlying5 Tryz.underlying9 (fun j hj => by
        have hi : j < (Lib.decDigits u).length := by simpa using hj
        rw [Lib.row_is_numeral hF j hi, Lib.add_plain, World.cell?_drewN]
        exact cell?_putRow (fun (b : UInt8) => Value.int .u8 (b.toNat : Int)) _ w.heap.size 0 _ dk HH0.out (by rw [hF.size, Array.size_replicate]) j (by rw [hF.size]; rw [Lib.decDigits_length] at hi; exact hi))
      rw [Lib.decDigits_length] at h
      exact h
    obtain ⟨os, eo⟩ := Lib.fin_at w (.cells Lib.zeros24 155) dk k 0
    have hb : Below w.heap.size w ((putRow (fun (b : UInt8) => Value.int .u8 (b.toNat : Int)) (w.alloc (.cells Lib.zeros24 155)) w.heap.size 0 dk).drewN k) := by rw [eo]; exact Lib.below_grow _ w (Nat.le_refl _) k os
    have HB := Lib.hid hb
    generalize (putRow (fun (b : UInt8) => Value.int .u8 (b.toNat : Int)) (w.alloc (.cells Lib.zeros24 155)) w.heap.size 0 dk).drewN k = W2 at *
    clear eo HF HH0 hb hF
    go_wp2_with fail
    go_ret
    exact ⟨rfl, HB.out⟩
theorem format_any (u : Nat) (w : World) (hu64 : u < 18446744073709551616) (htab : Tab w) :
    Calls Tryz.prog 43 #[.int .u64 u, .int .i64 10] w fun e w' => e = .returned (.string (str (Lib.decDigits u))) ∧ Below w.heap.size w w' := by
  have H := Lib.hid (format_in u w hu64 htab)
  go_enter Tryz.func43, Tryz.ntmps43
  go_wp2_with (go_at_call 64; refine H.out.mono ?_; rintro e w' ⟨rfl, hb⟩)
  go_ret
  exact ⟨rfl, hb⟩

/-! ### Stage, Page -/
set_option maxHeartbeats 1000000 in
theorem pStage_any (n : Int) (w : World) (h0 : -9223372036854775808 ≤ n) (hn : n ≤ 9223372036854775807) (htab : Tab w) :
    Calls Tryz.prog 46 #[.int .i64 n] w fun e w' => e = mkE (stageN n) ∧ Below w.heap.size w w' := by
  by_cases hlo : n < 1
  · have H := Lib.hid (show stageN n = [] by unfold stageN; rw [if_pos (.inl hlo)])
    have d1 : decide (n < 1) = true := decide_eq_true hlo
    clear hlo
    go_enter Tryz.func46, Tryz.ntmps46
    go_wp2_with fail
    go_ret2
    exact ⟨by rw [H.out]; rfl, Below.refl _ _⟩
  have d1 : decide (n < 1) = false := decide_eq_false hlo
  by_cases hhi : 2147483647 < n
  · have H := Lib.hid (show stageN n = [] by unfold stageN; rw [if_pos (.inr hhi)])
    have d2 : decide (2147483647 < n) = true := decide_eq_true hhi
    clear hlo hhi
    go_enter Tryz.func46, Tryz.ntmps46
    go_wp2_with fail
    go_ret2
    exact ⟨by rw [H.out]; rfl, Below.refl _ _⟩
  have d2 : decide (2147483647 < n) = false := decide_eq_false hhi
  obtain ⟨m, rfl⟩ : ∃ m : Nat, n = m := ⟨n.toNat, by omega⟩
  have H := Lib.hid (show mkE (stageN (m : Int)) = .returned (.tuple #[.string (str (stageH ++ [47] ++ Lib.decDigits m)), .int .i64 0]) by
    have e : stageN (m : Int) = stageH ++ [47] ++ Lib.decDigits m := by unfold stageN; rw [if_neg (by omega)]; simp
    rw [e, mkE_some (by simp)])
  have hdl := dec_length m 9 (by simp; omega)
  have ha := fun w => add_lit ⟨#[115, 116, 97, 103, 101, 47]⟩ (stageH ++ [47]) (Lib.decDigits m) rfl (by decide) (by omega) w
  have hit : Lib.itoa (m : Int) = Lib.decDigits m := by unfold Lib.itoa; rw [if_neg (by omega)]; rfl
  have HI := Lib.hid (Tryz.strconv_Itoa (m : Int) h0 hn w htab)
  rw [hit] at HI
  generalize mkE (stageN (m : Int)) = RE at *
  clear hlo hhi h0 hn hdl hit
  go_enter Tryz.func46, Tryz.ntmps46
  go_wp2_with (go_at_call 65; refine HI.out.mono ?_; rintro e w' ⟨rfl, k, os, rfl⟩; rw [show (⟨(Lib.decDigits m).toArray⟩ : ByteArray) = str (Lib.decDigits m) from rfl])
  go_ret2
  exact ⟨by rw [H.out]; rfl, Lib.below_grow _ w (Nat.le_refl _) k os⟩
theorem isN_length {l : B} (h : NameM.isN l = true) : l.length ≤ 64 := by
  unfold NameM.isN at h
  rw [Bool.and_eq_true] at h
  exact (NameM.may_iff.1 h.1).2.1
/-! ### Blob -/
abbrev blobO (s n : Int) : Obj := .cells #[.int .u64 s, .int .u32 n] 38
theorem blob_cells {w : World} {g : Nat} {s n : Int} (h : w.heap[g]? = some (blobO s n)) : w.cell? ⟨g, 0, none⟩ = some (.int .u64 s) ∧ w.cell? ⟨g, 1, none⟩ = some (.int .u32 n) := by
  refine ⟨?_, ?_⟩ <;> simp [World.cell?, h]
set_option maxHeartbeats 2000000 in
set_option maxRecDepth 100000 in
theorem pBlob_any (s n : Nat) (w : World) (hs : s < 18446744073709551616) (hn : n ≤ 4294967295) (htab : Tab w) :
    Calls Tryz.prog 25 #[.agg #[.int .u64 s, .int .u32 n]] w fun e w' => e = mkE (blobN s n) ∧ Below w.heap.size w w' := by
  obtain ⟨c0, c1⟩ := blob_cells (heap_alloc_new w (blobO s n))
  have HB := Lib.hid ((Below.refl _ w).alloc (Nat.le_refl _) (blobO s n))
  by_cases hlo : n < 1
  · obtain rfl : n = 0 := by omega
    have H := Lib.hid (show mkE (blobN s 0) = .returned (.tuple #[.string (str []), .int .i64 110]) from rfl)
    generalize mkE (blobN s 0) = RE at *
    clear hlo
    go_enter Tryz.func25, Tryz.ntmps25
    go_wp2_with fail
    go_ret2
    exact ⟨by rw [H.out]; rfl, HB.out⟩
  have H := Lib.hid (show mkE (blobN s n) = .returned (.tuple #[.string (str (blobH ++ [47] ++ SumM.digits s 16 ++ [45] ++ Lib.decDigits n)), .int .i64 0]) by
    have e : blobN s n = blobH ++ [47] ++ SumM.digits s 16 ++ [45] ++ Lib.decDigits n := by unfold blobN; rw [if_neg hlo]; simp
    rw [e, mkE_some (by simp)])
  have hz : decide (n = 0) = false := decide_eq_false (by omega)
  have hz2 : ((n : Int) == 0) = false := by rw [beq_eq_false_iff_ne]; omega
  have hdl := dec_length n 9 (by simp; omega)
  have hsl := SumM.digits_length s 16
  have HT : Hid (∀ W, Calls Tryz.prog 42 #[.int .u64 s] W fun e w' => e = .returned (.string (str (SumM.digits s 16))) ∧ Below W.heap.size W w') := Lib.hid (fun W => SumC.text_any s W hs)
  have HF := Lib.hid (fun W (h : Tab W) => format_any n W (by omega) h)
  have HTB := Lib.hid (htab.below HB.out)
  generalize mkE (blobN s n) = RE at *
  generalize Lib.decDigits n = D at *
  generalize SumM.digits s 16 = T at *
  have ha := fun w => add_lit ⟨#[98, 108, 111, 98, 47]⟩ (blobH ++ [47]) T rfl (by decide) (by omega) w
  have hb := fun w => add_lit' ⟨#[45]⟩ [45] (blobH ++ [47] ++ T) rfl (by decide) (by simp [blobH]; omega) w
  have hc := fun w => add_any (blobH ++ [47] ++ T ++ [45]) D w (by simp [blobH]; omega)
  have hconv : IntKind.u64.wrap (n : Int) = (n : Int) := by rw [IntKind.wrap_u64]; omega
  generalize blobH ++ [47] ++ T ++ [45] ++ D = X at *
  generalize blobH ++ [47] ++ T ++ [45] = V at *
  generalize blobH ++ [47] ++ T = U at *
  clear hdl hsl hlo hs hn htab
  go_enter Tryz.func25, Tryz.ntmps25
  go_upto_region 3 with fail
  generalize w.alloc (blobO s n) = W at *
  have k0 := cell_regrown c0
  have k1 := cell_regrown c1
  clear c0 c1
  have cT : ∀ d os, Calls Tryz.prog 42 _ (Go.Sort.grow (redrawn W d) os) _ := fun d os => Calls.regrown_of (HT.out _)
  have cF : ∀ d os, Calls Tryz.prog 43 _ (Go.Sort.grow (redrawn W d) os) _ := fun d os => Calls.regrown_of (HF.out _ (HTB.out.below (below_regrown W d os)))
  refine wp_region_quiet_below (by kernel_rfl) (by kernel_rfl) ?_
  repeat (quiet_step (first | exact cT _ _ | exact cF _ _))
  refine wpQuiet_nil ?_
  intro _ hw'
  obtain ⟨⟨dq, osq⟩, hw''⟩ := hw'
  subst hw''
  have HB2 := Lib.hid (below_regrown W dq osq)
  clear cT cF k0 k1
  generalize Go.Sort.grow (redrawn W dq) osq = W9 at *
  go_wp2_with fail
  go_ret2
  exact ⟨by rw [H.out]; rfl, HB.out.trans (HB2.out.mono (by have := HB.out.size; omega))⟩

/-! ### the law's own words -/
end PathC
end Go.Proofs.YtfbdhlpgklkjmaaGreatDoor
