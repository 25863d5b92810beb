/-
  The law PathBack (layer 11), walked: one way for each case of the number, the blob, the name.
-/
import Derived.Test.YtkngdhchjofleaaDoorPathLaws
import Derived.Laws.Cover1
namespace Go.Proofs.YtkngdhchjofleaaDoor
open Go.RowKit
namespace PathC
open PathM StrC
open VerM (B val dig)
set_option linter.unusedSimpArgs false
set_option linter.unusedVariables false

/-- what the law's worlds keep: the blob that came in lies where it was boxed -/
structure St (w W : World) (s n : Int) : Prop where
  below : Below w.heap.size w W
  row : W.heap[w.heap.size]? = some (blobO s n)
theorem St.next {w W W' : World} {s n : Int} (h : St w W s n) (b : Below W.heap.size W W') : St w W' s n :=
  ⟨Below.next h.below b, (b.block _ (Array.getElem?_eq_some_iff.1 h.row).1).trans h.row⟩
theorem St.alloc {w W : World} {s n : Int} (h : St w W s n) (o : Obj) : St w (W.alloc o) s n :=
  h.next ((Below.refl _ W).alloc (Nat.le_refl _) o)
theorem St.start (w : World) (s n : Int) : St w (w.alloc (blobO s n)) s n := ⟨(Below.refl _ w).alloc (Nat.le_refl _) _, heap_alloc_new w _⟩
theorem mk_some {l : B} (h : l ≠ []) (e : Ending) (h2 : e = mkE l) : e = .returned (.tuple #[.string (str l), .int .i64 0]) := by rw [h2, mkE_some h]
theorem mk_none {l : B} (h : l = []) (e : Ending) (h2 : e = mkE l) : e = .returned (.tuple #[.string ⟨#[]⟩, .int .i64 110]) := by rw [h2, h]; rfl
theorem logN_ne {n : Int} (h : 1 ≤ n ∧ n ≤ 99999999) : logN n ≠ [] := by unfold logN; rw [if_neg (by omega)]; simp
theorem logN_no {n : Int} (h : n < 1 ∨ 99999999 < n) : logN n = [] := by unfold logN; rw [if_pos h]
theorem stageN_ne {n : Int} (h : 1 ≤ n ∧ n ≤ 2147483647) : stageN n ≠ [] := by unfold stageN; rw [if_neg (by omega)]; simp
theorem stageN_no {n : Int} (h : n < 1 ∨ 2147483647 < n) : stageN n = [] := by unfold stageN; rw [if_pos h]
theorem blobN_ne {s n : Nat} (h : 1 ≤ n) : blobN s n ≠ [] := by unfold blobN; rw [if_neg (by omega)]; simp
theorem pageN_ne {l : B} (h : NameM.isN l = true) : pageN NameM.isN l ≠ [] := by unfold pageN; rw [if_pos h]; simp
theorem pageN_no {l : B} (h : NameM.isN l = false) : pageN NameM.isN l = [] := by unfold pageN; rw [h]; rfl
theorem len_le {l : B} (h : l.length ≤ 9223372036854775000) : l.length ≤ 9223372036854775807 := by omega
theorem read_some {l : B} {p : Pth} {w : World} (hl : l.length ≤ 9223372036854775807) (h : readP NameM.isN l = some p) :
    Calls Tryd.prog 15 #[.string (str l)] w fun e w' => e = .returned (.tuple #[.agg #[.int .u8 p.kind, .int .i64 p.n, .int .u64 p.sum, .int .u32 p.part, .string (str p.name)], .int .i64 0]) ∧ Below w.heap.size w w' :=
  (pRead_any l w hl).mono fun e w' x => ⟨by rw [x.1, h]; rfl, x.2⟩
theorem now_cells {w : World} {g : Nat} {k n s p : Int} {nm : ByteArray} (h : w.heap[g]? = some (.cells #[.int .u8 k, .int .i64 n, .int .u64 s, .int .u32 p, .string nm] 39)) :
    w.cell? ⟨g, 0, none⟩ = some (.int .u8 k) ∧ w.cell? ⟨g, 1, none⟩ = some (.int .i64 n) ∧ w.cell? ⟨g, 2, none⟩ = some (.int .u64 s) ∧ w.cell? ⟨g, 3, none⟩ = some (.int .u32 p) ∧ w.cell? ⟨g, 4, none⟩ = some (.string nm) := by
  refine ⟨?_, ?_, ?_, ?_, ?_⟩ <;> simp [World.cell?, h]
theorem logN_len (n : Int) : (logN n).length ≤ 9223372036854775807 := by unfold logN; split <;> simp [logH, LogM.dig_length]
theorem stageN_len {n : Int} (h : n ≤ 9223372036854775807) : (stageN n).length ≤ 9223372036854775807 := by
  unfold stageN
  split
  · simp
  · have := dec_length n.toNat 9 (by simp; omega)
    simp [stageH]; omega
theorem blobN_len {s n : Nat} (h : n ≤ 4294967295) : (blobN s n).length ≤ 9223372036854775807 := by
  unfold blobN
  split
  · simp
  · have := dec_length n 9 (by simp; omega)
    simp [blobH, SumM.digits_length]; omega
theorem pageN_len (l : B) : (pageN NameM.isN l).length ≤ 9223372036854775807 := by
  unfold pageN
  split
  · rename_i h
    have := isN_length h
    simp [pageH]; omega
  · simp
set_option maxHeartbeats 4000000 in
set_option maxRecDepth 100000 in
theorem back_any (n m : Int) (sm part : Nat) (l : B) (w : World) (h0 : -9223372036854775808 ≤ n) (hn : n ≤ 9223372036854775807) (h1 : -9223372036854775808 ≤ m) (hm : m ≤ 9223372036854775807) (hs : sm < 18446744073709551616) (hp : part ≤ 4294967295) (hl : l.length ≤ 9223372036854775807) (hv : Tab w) :
    Calls Tryd.prog 4 #[.int .i64 n, .int .i64 m, .agg #[.int .u64 sm, .int .u32 part], .string (str l)] w fun e w' => e = .returned (.bool true) ∧ Below w.heap.size w w' := by
  have HS := Lib.hid (St.start w sm part)
  have HV := Lib.hid hv
  clear hv
  by_cases hc : 1 ≤ n ∧ n ≤ 99999999
  · by_cases hcm : 1 ≤ m ∧ m ≤ 99999999
    · skip
      by_cases hpt : 1 ≤ part
      · rcases Bool.eq_false_or_eq_true (NameM.isN l) with hi | hi
        · skip
          -- both_m True True
          have HLn := Lib.hid (fun w => (pLog_any n w h0 hn).mono fun e w' x => (⟨mk_some (logN_ne hc) e x.1, x.2⟩ : _ ∧ Below w.heap.size w w'))
          have HRl : Hid (∀ w, Calls Tryd.prog 15 #[.string (str (logN n))] w fun e w' => e = .returned (.tuple #[.agg #[.int .u8 1, .int .i64 n, .int .u64 0, .int .u32 0, .string ⟨#[]⟩], .int .i64 0]) ∧ Below w.heap.size w w') := Lib.hid (fun w => (read_some (logN_len n) (by have := read_logN NameM.isN n.toNat (by omega) (by omega); rw [Int.toNat_of_nonneg (by omega)] at this; exact this)).mono fun e w' x => ⟨by rw [x.1]; simp only [Int.toNat_of_nonneg (show 0 ≤ n by omega)]; rfl, x.2⟩)
          have HLm := Lib.hid (fun w => (pLog_any m w h1 hm).mono fun e w' x => (⟨mk_some (logN_ne hcm) e x.1, x.2⟩ : _ ∧ Below w.heap.size w w'))
          have hless : Op.bytesLess (str (logN n)).toList (str (logN m)).toList = decide (n < m) := by have := less_logN n.toNat m.toNat (by omega) (by omega) (by omega) (by omega); rw [Int.toNat_of_nonneg (by omega), Int.toNat_of_nonneg (by omega)] at this; rw [ByteArray.toList_eq, ByteArray.toList_eq, str_list, str_list, this]; simp only [decide_eq_decide]; omega
          have HSt := Lib.hid (fun w (h : Tab w) => (pStage_any n w h0 hn h).mono fun e w' x => (⟨mk_some (stageN_ne (by omega)) e x.1, x.2⟩ : _ ∧ Below w.heap.size w w'))
          have HRs : Hid (∀ w, Calls Tryd.prog 15 #[.string (str (stageN n))] w fun e w' => e = .returned (.tuple #[.agg #[.int .u8 4, .int .i64 n, .int .u64 0, .int .u32 0, .string ⟨#[]⟩], .int .i64 0]) ∧ Below w.heap.size w w') := Lib.hid (fun w => (read_some (stageN_len hn) (by have := read_stageN NameM.isN n.toNat (by omega) (by omega); rw [Int.toNat_of_nonneg (by omega)] at this; exact this)).mono fun e w' x => ⟨by rw [x.1]; simp only [Int.toNat_of_nonneg (show 0 ≤ n by omega)]; rfl, x.2⟩)
          have HBl := Lib.hid (fun w (h : Tab w) => (pBlob_any sm part w hs hp h).mono fun e w' x => (⟨mk_some (blobN_ne (by omega)) e x.1, x.2⟩ : _ ∧ Below w.heap.size w w'))
          have HRb : Hid (∀ w, Calls Tryd.prog 15 #[.string (str (blobN sm part))] w fun e w' => e = .returned (.tuple #[.agg #[.int .u8 2, .int .i64 0, .int .u64 sm, .int .u32 part, .string ⟨#[]⟩], .int .i64 0]) ∧ Below w.heap.size w w') := Lib.hid (fun w => (read_some (blobN_len hp) (read_blobN NameM.isN sm part hs (by omega) hp)).mono fun e w' x => ⟨by rw [x.1]; rfl, x.2⟩)
          have HPa := Lib.hid (fun w => (pPage_any l w hl).mono fun e w' x => (⟨mk_some (pageN_ne hi) e x.1, x.2⟩ : _ ∧ Below w.heap.size w w'))
          have HRp : Hid (∀ w, Calls Tryd.prog 15 #[.string (str (pageN NameM.isN l))] w fun e w' => e = .returned (.tuple #[.agg #[.int .u8 3, .int .i64 0, .int .u64 0, .int .u32 0, .string (str l)], .int .i64 0]) ∧ Below w.heap.size w w') := Lib.hid (fun w => (read_some (pageN_len l) (read_pageN NameM.isN l hi)).mono fun e w' x => ⟨by rw [x.1]; rfl, x.2⟩)
          clear h0 hn h1 hm hs hp hl hc hpt hi hcm
          generalize logN n = L1 at *
          generalize logN m = L2 at *
          generalize stageN n = L3 at *
          generalize blobN sm part = L4 at *
          generalize pageN NameM.isN l = L5 at *
          go_enter Tryd.func4, Tryd.ntmps4
          go_wp2_with (first
            | (go_at_call 5; with_reducible refine (HLn.out _).mono ?_; rintro e wa ⟨rfl, hb⟩; replace HS := Lib.hid (St.next (by first | exact HS.out | exact HS.out.alloc _ | exact (HS.out.alloc _).alloc _) hb); clear hb)
            | (go_at_call 15; with_reducible refine (HRl.out _).mono ?_; rintro e wb ⟨rfl, hb⟩; replace HS := Lib.hid (St.next (by first | exact HS.out | exact HS.out.alloc _ | exact (HS.out.alloc _).alloc _) hb); clear hb)
            | (go_at_call 5; with_reducible refine (HLm.out _).mono ?_; rintro e wc ⟨rfl, hb⟩; have r3 := (hb.block wb.heap.size (by simp)).trans (heap_alloc_new wb (.cells #[.int .u8 1, .int .i64 n, .int .u64 0, .int .u32 0, .string ⟨#[]⟩] 39)); obtain ⟨q0, q1, q2, q3, q4⟩ := now_cells r3; clear r3; replace HS := Lib.hid (St.next (by first | exact HS.out | exact HS.out.alloc _ | exact (HS.out.alloc _).alloc _) hb); clear hb)
            | (go_at_call 6; refine (HSt.out _ (HV.out.below HS.out.below)).mono ?_; rintro e wd ⟨rfl, hb⟩; replace HS := Lib.hid (St.next (by first | exact HS.out | exact HS.out.alloc _ | exact (HS.out.alloc _).alloc _) hb); clear hb)
            | (go_at_call 15; with_reducible refine (HRs.out _).mono ?_; rintro e we ⟨rfl, hb⟩; replace HS := Lib.hid (St.next (by first | exact HS.out | exact HS.out.alloc _ | exact (HS.out.alloc _).alloc _) hb); clear hb; obtain ⟨c0, c1⟩ := blob_cells (HS.out.alloc (.cells #[.int .u8 4, .int .i64 n, .int .u64 0, .int .u32 0, .string ⟨#[]⟩] 39)).row)
            | (go_at_call 7; refine (HBl.out _ (HV.out.below (by first | exact HS.out.below | exact (HS.out.alloc _).below))).mono ?_; rintro e wf ⟨rfl, hb⟩; replace HS := Lib.hid (St.next (by first | exact HS.out | exact HS.out.alloc _ | exact (HS.out.alloc _).alloc _) hb); clear hb; clear c0 c1)
            | (go_at_call 15; with_reducible refine (HRb.out _).mono ?_; rintro e wg ⟨rfl, hb⟩; replace HS := Lib.hid (St.next (by first | exact HS.out | exact HS.out.alloc _ | exact (HS.out.alloc _).alloc _) hb); clear hb; obtain ⟨c0, c1⟩ := blob_cells (HS.out.alloc (.cells #[.int .u8 2, .int .i64 0, .int .u64 sm, .int .u32 part, .string ⟨#[]⟩] 39)).row)
            | (go_at_call 8; refine (HPa.out _).mono ?_; rintro e wh ⟨rfl, hb⟩; replace HS := Lib.hid (St.next (by first | exact HS.out | exact HS.out.alloc _ | exact (HS.out.alloc _).alloc _) hb); clear hb)
            | (go_at_call 15; with_reducible refine (HRp.out _).mono ?_; rintro e wi ⟨rfl, hb⟩; replace HS := Lib.hid (St.next (by first | exact HS.out | exact HS.out.alloc _ | exact (HS.out.alloc _).alloc _) hb); clear hb)
            | (go_at_call 14; refine (alive_any _).mono ?_; rintro e wj ⟨rfl, hb⟩; replace HS := Lib.hid (St.next (by first | exact HS.out | exact HS.out.alloc _ | exact (HS.out.alloc _).alloc _) hb); clear hb))
          go_ret
          exact ⟨rfl, HS.out.below⟩
        · skip
          -- both_m True False
          have HLn := Lib.hid (fun w => (pLog_any n w h0 hn).mono fun e w' x => (⟨mk_some (logN_ne hc) e x.1, x.2⟩ : _ ∧ Below w.heap.size w w'))
          have HRl : Hid (∀ w, Calls Tryd.prog 15 #[.string (str (logN n))] w fun e w' => e = .returned (.tuple #[.agg #[.int .u8 1, .int .i64 n, .int .u64 0, .int .u32 0, .string ⟨#[]⟩], .int .i64 0]) ∧ Below w.heap.size w w') := Lib.hid (fun w => (read_some (logN_len n) (by have := read_logN NameM.isN n.toNat (by omega) (by omega); rw [Int.toNat_of_nonneg (by omega)] at this; exact this)).mono fun e w' x => ⟨by rw [x.1]; simp only [Int.toNat_of_nonneg (show 0 ≤ n by omega)]; rfl, x.2⟩)
          have HLm := Lib.hid (fun w => (pLog_any m w h1 hm).mono fun e w' x => (⟨mk_some (logN_ne hcm) e x.1, x.2⟩ : _ ∧ Below w.heap.size w w'))
          have hless : Op.bytesLess (str (logN n)).toList (str (logN m)).toList = decide (n < m) := by have := less_logN n.toNat m.toNat (by omega) (by omega) (by omega) (by omega); rw [Int.toNat_of_nonneg (by omega), Int.toNat_of_nonneg (by omega)] at this; rw [ByteArray.toList_eq, ByteArray.toList_eq, str_list, str_list, this]; simp only [decide_eq_decide]; omega
          have HSt := Lib.hid (fun w (h : Tab w) => (pStage_any n w h0 hn h).mono fun e w' x => (⟨mk_some (stageN_ne (by omega)) e x.1, x.2⟩ : _ ∧ Below w.heap.size w w'))
          have HRs : Hid (∀ w, Calls Tryd.prog 15 #[.string (str (stageN n))] w fun e w' => e = .returned (.tuple #[.agg #[.int .u8 4, .int .i64 n, .int .u64 0, .int .u32 0, .string ⟨#[]⟩], .int .i64 0]) ∧ Below w.heap.size w w') := Lib.hid (fun w => (read_some (stageN_len hn) (by have := read_stageN NameM.isN n.toNat (by omega) (by omega); rw [Int.toNat_of_nonneg (by omega)] at this; exact this)).mono fun e w' x => ⟨by rw [x.1]; simp only [Int.toNat_of_nonneg (show 0 ≤ n by omega)]; rfl, x.2⟩)
          have HBl := Lib.hid (fun w (h : Tab w) => (pBlob_any sm part w hs hp h).mono fun e w' x => (⟨mk_some (blobN_ne (by omega)) e x.1, x.2⟩ : _ ∧ Below w.heap.size w w'))
          have HRb : Hid (∀ w, Calls Tryd.prog 15 #[.string (str (blobN sm part))] w fun e w' => e = .returned (.tuple #[.agg #[.int .u8 2, .int .i64 0, .int .u64 sm, .int .u32 part, .string ⟨#[]⟩], .int .i64 0]) ∧ Below w.heap.size w w') := Lib.hid (fun w => (read_some (blobN_len hp) (read_blobN NameM.isN sm part hs (by omega) hp)).mono fun e w' x => ⟨by rw [x.1]; rfl, x.2⟩)
          have HPa := Lib.hid (fun w => (pPage_any l w hl).mono fun e w' x => (⟨mk_none (pageN_no hi) e x.1, x.2⟩ : _ ∧ Below w.heap.size w w'))
          clear h0 hn h1 hm hs hp hl hc hpt hi hcm
          generalize logN n = L1 at *
          generalize logN m = L2 at *
          generalize stageN n = L3 at *
          generalize blobN sm part = L4 at *
          go_enter Tryd.func4, Tryd.ntmps4
          go_wp2_with (first
            | (go_at_call 5; with_reducible refine (HLn.out _).mono ?_; rintro e wa ⟨rfl, hb⟩; replace HS := Lib.hid (St.next (by first | exact HS.out | exact HS.out.alloc _ | exact (HS.out.alloc _).alloc _) hb); clear hb)
            | (go_at_call 15; with_reducible refine (HRl.out _).mono ?_; rintro e wb ⟨rfl, hb⟩; replace HS := Lib.hid (St.next (by first | exact HS.out | exact HS.out.alloc _ | exact (HS.out.alloc _).alloc _) hb); clear hb)
            | (go_at_call 5; with_reducible refine (HLm.out _).mono ?_; rintro e wc ⟨rfl, hb⟩; have r3 := (hb.block wb.heap.size (by simp)).trans (heap_alloc_new wb (.cells #[.int .u8 1, .int .i64 n, .int .u64 0, .int .u32 0, .string ⟨#[]⟩] 39)); obtain ⟨q0, q1, q2, q3, q4⟩ := now_cells r3; clear r3; replace HS := Lib.hid (St.next (by first | exact HS.out | exact HS.out.alloc _ | exact (HS.out.alloc _).alloc _) hb); clear hb)
            | (go_at_call 6; refine (HSt.out _ (HV.out.below HS.out.below)).mono ?_; rintro e wd ⟨rfl, hb⟩; replace HS := Lib.hid (St.next (by first | exact HS.out | exact HS.out.alloc _ | exact (HS.out.alloc _).alloc _) hb); clear hb)
            | (go_at_call 15; with_reducible refine (HRs.out _).mono ?_; rintro e we ⟨rfl, hb⟩; replace HS := Lib.hid (St.next (by first | exact HS.out | exact HS.out.alloc _ | exact (HS.out.alloc _).alloc _) hb); clear hb; obtain ⟨c0, c1⟩ := blob_cells (HS.out.alloc (.cells #[.int .u8 4, .int .i64 n, .int .u64 0, .int .u32 0, .string ⟨#[]⟩] 39)).row)
            | (go_at_call 7; refine (HBl.out _ (HV.out.below (by first | exact HS.out.below | exact (HS.out.alloc _).below))).mono ?_; rintro e wf ⟨rfl, hb⟩; replace HS := Lib.hid (St.next (by first | exact HS.out | exact HS.out.alloc _ | exact (HS.out.alloc _).alloc _) hb); clear hb; clear c0 c1)
            | (go_at_call 15; with_reducible refine (HRb.out _).mono ?_; rintro e wg ⟨rfl, hb⟩; replace HS := Lib.hid (St.next (by first | exact HS.out | exact HS.out.alloc _ | exact (HS.out.alloc _).alloc _) hb); clear hb; obtain ⟨c0, c1⟩ := blob_cells (HS.out.alloc (.cells #[.int .u8 2, .int .i64 0, .int .u64 sm, .int .u32 part, .string ⟨#[]⟩] 39)).row)
            | (go_at_call 8; refine (HPa.out _).mono ?_; rintro e wh ⟨rfl, hb⟩; replace HS := Lib.hid (St.next (by first | exact HS.out | exact HS.out.alloc _ | exact (HS.out.alloc _).alloc _) hb); clear hb)
            | (go_at_call 14; refine (alive_any _).mono ?_; rintro e wj ⟨rfl, hb⟩; replace HS := Lib.hid (St.next (by first | exact HS.out | exact HS.out.alloc _ | exact (HS.out.alloc _).alloc _) hb); clear hb))
          go_ret
          exact ⟨rfl, HS.out.below⟩
      · rcases Bool.eq_false_or_eq_true (NameM.isN l) with hi | hi
        · skip
          -- both_m False True
          have HLn := Lib.hid (fun w => (pLog_any n w h0 hn).mono fun e w' x => (⟨mk_some (logN_ne hc) e x.1, x.2⟩ : _ ∧ Below w.heap.size w w'))
          have HRl : Hid (∀ w, Calls Tryd.prog 15 #[.string (str (logN n))] w fun e w' => e = .returned (.tuple #[.agg #[.int .u8 1, .int .i64 n, .int .u64 0, .int .u32 0, .string ⟨#[]⟩], .int .i64 0]) ∧ Below w.heap.size w w') := Lib.hid (fun w => (read_some (logN_len n) (by have := read_logN NameM.isN n.toNat (by omega) (by omega); rw [Int.toNat_of_nonneg (by omega)] at this; exact this)).mono fun e w' x => ⟨by rw [x.1]; simp only [Int.toNat_of_nonneg (show 0 ≤ n by omega)]; rfl, x.2⟩)
          have HLm := Lib.hid (fun w => (pLog_any m w h1 hm).mono fun e w' x => (⟨mk_some (logN_ne hcm) e x.1, x.2⟩ : _ ∧ Below w.heap.size w w'))
          have hless : Op.bytesLess (str (logN n)).toList (str (logN m)).toList = decide (n < m) := by have := less_logN n.toNat m.toNat (by omega) (by omega) (by omega) (by omega); rw [Int.toNat_of_nonneg (by omega), Int.toNat_of_nonneg (by omega)] at this; rw [ByteArray.toList_eq, ByteArray.toList_eq, str_list, str_list, this]; simp only [decide_eq_decide]; omega
          have HSt := Lib.hid (fun w (h : Tab w) => (pStage_any n w h0 hn h).mono fun e w' x => (⟨mk_some (stageN_ne (by omega)) e x.1, x.2⟩ : _ ∧ Below w.heap.size w w'))
          have HRs : Hid (∀ w, Calls Tryd.prog 15 #[.string (str (stageN n))] w fun e w' => e = .returned (.tuple #[.agg #[.int .u8 4, .int .i64 n, .int .u64 0, .int .u32 0, .string ⟨#[]⟩], .int .i64 0]) ∧ Below w.heap.size w w') := Lib.hid (fun w => (read_some (stageN_len hn) (by have := read_stageN NameM.isN n.toNat (by omega) (by omega); rw [Int.toNat_of_nonneg (by omega)] at this; exact this)).mono fun e w' x => ⟨by rw [x.1]; simp only [Int.toNat_of_nonneg (show 0 ≤ n by omega)]; rfl, x.2⟩)
          have HBl := Lib.hid (fun w (h : Tab w) => (pBlob_any sm part w hs hp h).mono fun e w' x => (⟨mk_none (show blobN sm part = [] by unfold blobN; rw [if_pos (by omega)]) e x.1, x.2⟩ : _ ∧ Below w.heap.size w w'))
          have HPa := Lib.hid (fun w => (pPage_any l w hl).mono fun e w' x => (⟨mk_some (pageN_ne hi) e x.1, x.2⟩ : _ ∧ Below w.heap.size w w'))
          have HRp : Hid (∀ w, Calls Tryd.prog 15 #[.string (str (pageN NameM.isN l))] w fun e w' => e = .returned (.tuple #[.agg #[.int .u8 3, .int .i64 0, .int .u64 0, .int .u32 0, .string (str l)], .int .i64 0]) ∧ Below w.heap.size w w') := Lib.hid (fun w => (read_some (pageN_len l) (read_pageN NameM.isN l hi)).mono fun e w' x => ⟨by rw [x.1]; rfl, x.2⟩)
          clear h0 hn h1 hm hs hp hl hc hpt hi hcm
          generalize logN n = L1 at *
          generalize logN m = L2 at *
          generalize stageN n = L3 at *
          generalize pageN NameM.isN l = L5 at *
          go_enter Tryd.func4, Tryd.ntmps4
          go_wp2_with (first
            | (go_at_call 5; with_reducible refine (HLn.out _).mono ?_; rintro e wa ⟨rfl, hb⟩; replace HS := Lib.hid (St.next (by first | exact HS.out | exact HS.out.alloc _ | exact (HS.out.alloc _).alloc _) hb); clear hb)
            | (go_at_call 15; with_reducible refine (HRl.out _).mono ?_; rintro e wb ⟨rfl, hb⟩; replace HS := Lib.hid (St.next (by first | exact HS.out | exact HS.out.alloc _ | exact (HS.out.alloc _).alloc _) hb); clear hb)
            | (go_at_call 5; with_reducible refine (HLm.out _).mono ?_; rintro e wc ⟨rfl, hb⟩; have r3 := (hb.block wb.heap.size (by simp)).trans (heap_alloc_new wb (.cells #[.int .u8 1, .int .i64 n, .int .u64 0, .int .u32 0, .string ⟨#[]⟩] 39)); obtain ⟨q0, q1, q2, q3, q4⟩ := now_cells r3; clear r3; replace HS := Lib.hid (St.next (by first | exact HS.out | exact HS.out.alloc _ | exact (HS.out.alloc _).alloc _) hb); clear hb)
            | (go_at_call 6; refine (HSt.out _ (HV.out.below HS.out.below)).mono ?_; rintro e wd ⟨rfl, hb⟩; replace HS := Lib.hid (St.next (by first | exact HS.out | exact HS.out.alloc _ | exact (HS.out.alloc _).alloc _) hb); clear hb)
            | (go_at_call 15; with_reducible refine (HRs.out _).mono ?_; rintro e we ⟨rfl, hb⟩; replace HS := Lib.hid (St.next (by first | exact HS.out | exact HS.out.alloc _ | exact (HS.out.alloc _).alloc _) hb); clear hb; obtain ⟨c0, c1⟩ := blob_cells (HS.out.alloc (.cells #[.int .u8 4, .int .i64 n, .int .u64 0, .int .u32 0, .string ⟨#[]⟩] 39)).row)
            | (go_at_call 7; refine (HBl.out _ (HV.out.below (by first | exact HS.out.below | exact (HS.out.alloc _).below))).mono ?_; rintro e wf ⟨rfl, hb⟩; replace HS := Lib.hid (St.next (by first | exact HS.out | exact HS.out.alloc _ | exact (HS.out.alloc _).alloc _) hb); clear hb; clear c0 c1)
            | (go_at_call 8; refine (HPa.out _).mono ?_; rintro e wh ⟨rfl, hb⟩; replace HS := Lib.hid (St.next (by first | exact HS.out | exact HS.out.alloc _ | exact (HS.out.alloc _).alloc _) hb); clear hb)
            | (go_at_call 15; with_reducible refine (HRp.out _).mono ?_; rintro e wi ⟨rfl, hb⟩; replace HS := Lib.hid (St.next (by first | exact HS.out | exact HS.out.alloc _ | exact (HS.out.alloc _).alloc _) hb); clear hb)
            | (go_at_call 14; refine (alive_any _).mono ?_; rintro e wj ⟨rfl, hb⟩; replace HS := Lib.hid (St.next (by first | exact HS.out | exact HS.out.alloc _ | exact (HS.out.alloc _).alloc _) hb); clear hb))
          go_ret
          exact ⟨rfl, HS.out.below⟩
        · skip
          -- both_m False False
          have HLn := Lib.hid (fun w => (pLog_any n w h0 hn).mono fun e w' x => (⟨mk_some (logN_ne hc) e x.1, x.2⟩ : _ ∧ Below w.heap.size w w'))
          have HRl : Hid (∀ w, Calls Tryd.prog 15 #[.string (str (logN n))] w fun e w' => e = .returned (.tuple #[.agg #[.int .u8 1, .int .i64 n, .int .u64 0, .int .u32 0, .string ⟨#[]⟩], .int .i64 0]) ∧ Below w.heap.size w w') := Lib.hid (fun w => (read_some (logN_len n) (by have := read_logN NameM.isN n.toNat (by omega) (by omega); rw [Int.toNat_of_nonneg (by omega)] at this; exact this)).mono fun e w' x => ⟨by rw [x.1]; simp only [Int.toNat_of_nonneg (show 0 ≤ n by omega)]; rfl, x.2⟩)
          have HLm := Lib.hid (fun w => (pLog_any m w h1 hm).mono fun e w' x => (⟨mk_some (logN_ne hcm) e x.1, x.2⟩ : _ ∧ Below w.heap.size w w'))
          have hless : Op.bytesLess (str (logN n)).toList (str (logN m)).toList = decide (n < m) := by have := less_logN n.toNat m.toNat (by omega) (by omega) (by omega) (by omega); rw [Int.toNat_of_nonneg (by omega), Int.toNat_of_nonneg (by omega)] at this; rw [ByteArray.toList_eq, ByteArray.toList_eq, str_list, str_list, this]; simp only [decide_eq_decide]; omega
          have HSt := Lib.hid (fun w (h : Tab w) => (pStage_any n w h0 hn h).mono fun e w' x => (⟨mk_some (stageN_ne (by omega)) e x.1, x.2⟩ : _ ∧ Below w.heap.size w w'))
          have HRs : Hid (∀ w, Calls Tryd.prog 15 #[.string (str (stageN n))] w fun e w' => e = .returned (.tuple #[.agg #[.int .u8 4, .int .i64 n, .int .u64 0, .int .u32 0, .string ⟨#[]⟩], .int .i64 0]) ∧ Below w.heap.size w w') := Lib.hid (fun w => (read_some (stageN_len hn) (by have := read_stageN NameM.isN n.toNat (by omega) (by omega); rw [Int.toNat_of_nonneg (by omega)] at this; exact this)).mono fun e w' x => ⟨by rw [x.1]; simp only [Int.toNat_of_nonneg (show 0 ≤ n by omega)]; rfl, x.2⟩)
          have HBl := Lib.hid (fun w (h : Tab w) => (pBlob_any sm part w hs hp h).mono fun e w' x => (⟨mk_none (show blobN sm part = [] by unfold blobN; rw [if_pos (by omega)]) e x.1, x.2⟩ : _ ∧ Below w.heap.size w w'))
          have HPa := Lib.hid (fun w => (pPage_any l w hl).mono fun e w' x => (⟨mk_none (pageN_no hi) e x.1, x.2⟩ : _ ∧ Below w.heap.size w w'))
          clear h0 hn h1 hm hs hp hl hc hpt hi hcm
          generalize logN n = L1 at *
          generalize logN m = L2 at *
          generalize stageN n = L3 at *
          go_enter Tryd.func4, Tryd.ntmps4
          go_wp2_with (first
            | (go_at_call 5; with_reducible refine (HLn.out _).mono ?_; rintro e wa ⟨rfl, hb⟩; replace HS := Lib.hid (St.next (by first | exact HS.out | exact HS.out.alloc _ | exact (HS.out.alloc _).alloc _) hb); clear hb)
            | (go_at_call 15; with_reducible refine (HRl.out _).mono ?_; rintro e wb ⟨rfl, hb⟩; replace HS := Lib.hid (St.next (by first | exact HS.out | exact HS.out.alloc _ | exact (HS.out.alloc _).alloc _) hb); clear hb)
            | (go_at_call 5; with_reducible refine (HLm.out _).mono ?_; rintro e wc ⟨rfl, hb⟩; have r3 := (hb.block wb.heap.size (by simp)).trans (heap_alloc_new wb (.cells #[.int .u8 1, .int .i64 n, .int .u64 0, .int .u32 0, .string ⟨#[]⟩] 39)); obtain ⟨q0, q1, q2, q3, q4⟩ := now_cells r3; clear r3; replace HS := Lib.hid (St.next (by first | exact HS.out | exact HS.out.alloc _ | exact (HS.out.alloc _).alloc _) hb); clear hb)
            | (go_at_call 6; refine (HSt.out _ (HV.out.below HS.out.below)).mono ?_; rintro e wd ⟨rfl, hb⟩; replace HS := Lib.hid (St.next (by first | exact HS.out | exact HS.out.alloc _ | exact (HS.out.alloc _).alloc _) hb); clear hb)
            | (go_at_call 15; with_reducible refine (HRs.out _).mono ?_; rintro e we ⟨rfl, hb⟩; replace HS := Lib.hid (St.next (by first | exact HS.out | exact HS.out.alloc _ | exact (HS.out.alloc _).alloc _) hb); clear hb; obtain ⟨c0, c1⟩ := blob_cells (HS.out.alloc (.cells #[.int .u8 4, .int .i64 n, .int .u64 0, .int .u32 0, .string ⟨#[]⟩] 39)).row)
            | (go_at_call 7; refine (HBl.out _ (HV.out.below (by first | exact HS.out.below | exact (HS.out.alloc _).below))).mono ?_; rintro e wf ⟨rfl, hb⟩; replace HS := Lib.hid (St.next (by first | exact HS.out | exact HS.out.alloc _ | exact (HS.out.alloc _).alloc _) hb); clear hb; clear c0 c1)
            | (go_at_call 8; refine (HPa.out _).mono ?_; rintro e wh ⟨rfl, hb⟩; replace HS := Lib.hid (St.next (by first | exact HS.out | exact HS.out.alloc _ | exact (HS.out.alloc _).alloc _) hb); clear hb)
            | (go_at_call 14; refine (alive_any _).mono ?_; rintro e wj ⟨rfl, hb⟩; replace HS := Lib.hid (St.next (by first | exact HS.out | exact HS.out.alloc _ | exact (HS.out.alloc _).alloc _) hb); clear hb))
          go_ret
          exact ⟨rfl, HS.out.below⟩
    · skip
      by_cases hpt : 1 ≤ part
      · rcases Bool.eq_false_or_eq_true (NameM.isN l) with hi | hi
        · skip
          -- both_no True True
          have HLn := Lib.hid (fun w => (pLog_any n w h0 hn).mono fun e w' x => (⟨mk_some (logN_ne hc) e x.1, x.2⟩ : _ ∧ Below w.heap.size w w'))
          have HRl : Hid (∀ w, Calls Tryd.prog 15 #[.string (str (logN n))] w fun e w' => e = .returned (.tuple #[.agg #[.int .u8 1, .int .i64 n, .int .u64 0, .int .u32 0, .string ⟨#[]⟩], .int .i64 0]) ∧ Below w.heap.size w w') := Lib.hid (fun w => (read_some (logN_len n) (by have := read_logN NameM.isN n.toNat (by omega) (by omega); rw [Int.toNat_of_nonneg (by omega)] at this; exact this)).mono fun e w' x => ⟨by rw [x.1]; simp only [Int.toNat_of_nonneg (show 0 ≤ n by omega)]; rfl, x.2⟩)
          have HLm := Lib.hid (fun w => (pLog_any m w h1 hm).mono fun e w' x => (⟨mk_none (logN_no (by omega)) e x.1, x.2⟩ : _ ∧ Below w.heap.size w w'))
          have HSt := Lib.hid (fun w (h : Tab w) => (pStage_any n w h0 hn h).mono fun e w' x => (⟨mk_some (stageN_ne (by omega)) e x.1, x.2⟩ : _ ∧ Below w.heap.size w w'))
          have HRs : Hid (∀ w, Calls Tryd.prog 15 #[.string (str (stageN n))] w fun e w' => e = .returned (.tuple #[.agg #[.int .u8 4, .int .i64 n, .int .u64 0, .int .u32 0, .string ⟨#[]⟩], .int .i64 0]) ∧ Below w.heap.size w w') := Lib.hid (fun w => (read_some (stageN_len hn) (by have := read_stageN NameM.isN n.toNat (by omega) (by omega); rw [Int.toNat_of_nonneg (by omega)] at this; exact this)).mono fun e w' x => ⟨by rw [x.1]; simp only [Int.toNat_of_nonneg (show 0 ≤ n by omega)]; rfl, x.2⟩)
          have HBl := Lib.hid (fun w (h : Tab w) => (pBlob_any sm part w hs hp h).mono fun e w' x => (⟨mk_some (blobN_ne (by omega)) e x.1, x.2⟩ : _ ∧ Below w.heap.size w w'))
          have HRb : Hid (∀ w, Calls Tryd.prog 15 #[.string (str (blobN sm part))] w fun e w' => e = .returned (.tuple #[.agg #[.int .u8 2, .int .i64 0, .int .u64 sm, .int .u32 part, .string ⟨#[]⟩], .int .i64 0]) ∧ Below w.heap.size w w') := Lib.hid (fun w => (read_some (blobN_len hp) (read_blobN NameM.isN sm part hs (by omega) hp)).mono fun e w' x => ⟨by rw [x.1]; rfl, x.2⟩)
          have HPa := Lib.hid (fun w => (pPage_any l w hl).mono fun e w' x => (⟨mk_some (pageN_ne hi) e x.1, x.2⟩ : _ ∧ Below w.heap.size w w'))
          have HRp : Hid (∀ w, Calls Tryd.prog 15 #[.string (str (pageN NameM.isN l))] w fun e w' => e = .returned (.tuple #[.agg #[.int .u8 3, .int .i64 0, .int .u64 0, .int .u32 0, .string (str l)], .int .i64 0]) ∧ Below w.heap.size w w') := Lib.hid (fun w => (read_some (pageN_len l) (read_pageN NameM.isN l hi)).mono fun e w' x => ⟨by rw [x.1]; rfl, x.2⟩)
          clear h0 hn h1 hm hs hp hl hc hpt hi hcm
          generalize logN n = L1 at *
          generalize stageN n = L3 at *
          generalize blobN sm part = L4 at *
          generalize pageN NameM.isN l = L5 at *
          go_enter Tryd.func4, Tryd.ntmps4
          go_wp2_with (first
            | (go_at_call 5; with_reducible refine (HLn.out _).mono ?_; rintro e wa ⟨rfl, hb⟩; replace HS := Lib.hid (St.next (by first | exact HS.out | exact HS.out.alloc _ | exact (HS.out.alloc _).alloc _) hb); clear hb)
            | (go_at_call 15; with_reducible refine (HRl.out _).mono ?_; rintro e wb ⟨rfl, hb⟩; replace HS := Lib.hid (St.next (by first | exact HS.out | exact HS.out.alloc _ | exact (HS.out.alloc _).alloc _) hb); clear hb)
            | (go_at_call 5; with_reducible refine (HLm.out _).mono ?_; rintro e wc ⟨rfl, hb⟩; have r3 := (hb.block wb.heap.size (by simp)).trans (heap_alloc_new wb (.cells #[.int .u8 1, .int .i64 n, .int .u64 0, .int .u32 0, .string ⟨#[]⟩] 39)); obtain ⟨q0, q1, q2, q3, q4⟩ := now_cells r3; clear r3; replace HS := Lib.hid (St.next (by first | exact HS.out | exact HS.out.alloc _ | exact (HS.out.alloc _).alloc _) hb); clear hb)
            | (go_at_call 6; refine (HSt.out _ (HV.out.below HS.out.below)).mono ?_; rintro e wd ⟨rfl, hb⟩; replace HS := Lib.hid (St.next (by first | exact HS.out | exact HS.out.alloc _ | exact (HS.out.alloc _).alloc _) hb); clear hb)
            | (go_at_call 15; with_reducible refine (HRs.out _).mono ?_; rintro e we ⟨rfl, hb⟩; replace HS := Lib.hid (St.next (by first | exact HS.out | exact HS.out.alloc _ | exact (HS.out.alloc _).alloc _) hb); clear hb; obtain ⟨c0, c1⟩ := blob_cells (HS.out.alloc (.cells #[.int .u8 4, .int .i64 n, .int .u64 0, .int .u32 0, .string ⟨#[]⟩] 39)).row)
            | (go_at_call 7; refine (HBl.out _ (HV.out.below (by first | exact HS.out.below | exact (HS.out.alloc _).below))).mono ?_; rintro e wf ⟨rfl, hb⟩; replace HS := Lib.hid (St.next (by first | exact HS.out | exact HS.out.alloc _ | exact (HS.out.alloc _).alloc _) hb); clear hb; clear c0 c1)
            | (go_at_call 15; with_reducible refine (HRb.out _).mono ?_; rintro e wg ⟨rfl, hb⟩; replace HS := Lib.hid (St.next (by first | exact HS.out | exact HS.out.alloc _ | exact (HS.out.alloc _).alloc _) hb); clear hb; obtain ⟨c0, c1⟩ := blob_cells (HS.out.alloc (.cells #[.int .u8 2, .int .i64 0, .int .u64 sm, .int .u32 part, .string ⟨#[]⟩] 39)).row)
            | (go_at_call 8; refine (HPa.out _).mono ?_; rintro e wh ⟨rfl, hb⟩; replace HS := Lib.hid (St.next (by first | exact HS.out | exact HS.out.alloc _ | exact (HS.out.alloc _).alloc _) hb); clear hb)
            | (go_at_call 15; with_reducible refine (HRp.out _).mono ?_; rintro e wi ⟨rfl, hb⟩; replace HS := Lib.hid (St.next (by first | exact HS.out | exact HS.out.alloc _ | exact (HS.out.alloc _).alloc _) hb); clear hb)
            | (go_at_call 14; refine (alive_any _).mono ?_; rintro e wj ⟨rfl, hb⟩; replace HS := Lib.hid (St.next (by first | exact HS.out | exact HS.out.alloc _ | exact (HS.out.alloc _).alloc _) hb); clear hb))
          go_ret
          exact ⟨rfl, HS.out.below⟩
        · skip
          -- both_no True False
          have HLn := Lib.hid (fun w => (pLog_any n w h0 hn).mono fun e w' x => (⟨mk_some (logN_ne hc) e x.1, x.2⟩ : _ ∧ Below w.heap.size w w'))
          have HRl : Hid (∀ w, Calls Tryd.prog 15 #[.string (str (logN n))] w fun e w' => e = .returned (.tuple #[.agg #[.int .u8 1, .int .i64 n, .int .u64 0, .int .u32 0, .string ⟨#[]⟩], .int .i64 0]) ∧ Below w.heap.size w w') := Lib.hid (fun w => (read_some (logN_len n) (by have := read_logN NameM.isN n.toNat (by omega) (by omega); rw [Int.toNat_of_nonneg (by omega)] at this; exact this)).mono fun e w' x => ⟨by rw [x.1]; simp only [Int.toNat_of_nonneg (show 0 ≤ n by omega)]; rfl, x.2⟩)
          have HLm := Lib.hid (fun w => (pLog_any m w h1 hm).mono fun e w' x => (⟨mk_none (logN_no (by omega)) e x.1, x.2⟩ : _ ∧ Below w.heap.size w w'))
          have HSt := Lib.hid (fun w (h : Tab w) => (pStage_any n w h0 hn h).mono fun e w' x => (⟨mk_some (stageN_ne (by omega)) e x.1, x.2⟩ : _ ∧ Below w.heap.size w w'))
          have HRs : Hid (∀ w, Calls Tryd.prog 15 #[.string (str (stageN n))] w fun e w' => e = .returned (.tuple #[.agg #[.int .u8 4, .int .i64 n, .int .u64 0, .int .u32 0, .string ⟨#[]⟩], .int .i64 0]) ∧ Below w.heap.size w w') := Lib.hid (fun w => (read_some (stageN_len hn) (by have := read_stageN NameM.isN n.toNat (by omega) (by omega); rw [Int.toNat_of_nonneg (by omega)] at this; exact this)).mono fun e w' x => ⟨by rw [x.1]; simp only [Int.toNat_of_nonneg (show 0 ≤ n by omega)]; rfl, x.2⟩)
          have HBl := Lib.hid (fun w (h : Tab w) => (pBlob_any sm part w hs hp h).mono fun e w' x => (⟨mk_some (blobN_ne (by omega)) e x.1, x.2⟩ : _ ∧ Below w.heap.size w w'))
          have HRb : Hid (∀ w, Calls Tryd.prog 15 #[.string (str (blobN sm part))] w fun e w' => e = .returned (.tuple #[.agg #[.int .u8 2, .int .i64 0, .int .u64 sm, .int .u32 part, .string ⟨#[]⟩], .int .i64 0]) ∧ Below w.heap.size w w') := Lib.hid (fun w => (read_some (blobN_len hp) (read_blobN NameM.isN sm part hs (by omega) hp)).mono fun e w' x => ⟨by rw [x.1]; rfl, x.2⟩)
          have HPa := Lib.hid (fun w => (pPage_any l w hl).mono fun e w' x => (⟨mk_none (pageN_no hi) e x.1, x.2⟩ : _ ∧ Below w.heap.size w w'))
          clear h0 hn h1 hm hs hp hl hc hpt hi hcm
          generalize logN n = L1 at *
          generalize stageN n = L3 at *
          generalize blobN sm part = L4 at *
          go_enter Tryd.func4, Tryd.ntmps4
          go_wp2_with (first
            | (go_at_call 5; with_reducible refine (HLn.out _).mono ?_; rintro e wa ⟨rfl, hb⟩; replace HS := Lib.hid (St.next (by first | exact HS.out | exact HS.out.alloc _ | exact (HS.out.alloc _).alloc _) hb); clear hb)
            | (go_at_call 15; with_reducible refine (HRl.out _).mono ?_; rintro e wb ⟨rfl, hb⟩; replace HS := Lib.hid (St.next (by first | exact HS.out | exact HS.out.alloc _ | exact (HS.out.alloc _).alloc _) hb); clear hb)
            | (go_at_call 5; with_reducible refine (HLm.out _).mono ?_; rintro e wc ⟨rfl, hb⟩; have r3 := (hb.block wb.heap.size (by simp)).trans (heap_alloc_new wb (.cells #[.int .u8 1, .int .i64 n, .int .u64 0, .int .u32 0, .string ⟨#[]⟩] 39)); obtain ⟨q0, q1, q2, q3, q4⟩ := now_cells r3; clear r3; replace HS := Lib.hid (St.next (by first | exact HS.out | exact HS.out.alloc _ | exact (HS.out.alloc _).alloc _) hb); clear hb)
            | (go_at_call 6; refine (HSt.out _ (HV.out.below HS.out.below)).mono ?_; rintro e wd ⟨rfl, hb⟩; replace HS := Lib.hid (St.next (by first | exact HS.out | exact HS.out.alloc _ | exact (HS.out.alloc _).alloc _) hb); clear hb)
            | (go_at_call 15; with_reducible refine (HRs.out _).mono ?_; rintro e we ⟨rfl, hb⟩; replace HS := Lib.hid (St.next (by first | exact HS.out | exact HS.out.alloc _ | exact (HS.out.alloc _).alloc _) hb); clear hb; obtain ⟨c0, c1⟩ := blob_cells (HS.out.alloc (.cells #[.int .u8 4, .int .i64 n, .int .u64 0, .int .u32 0, .string ⟨#[]⟩] 39)).row)
            | (go_at_call 7; refine (HBl.out _ (HV.out.below (by first | exact HS.out.below | exact (HS.out.alloc _).below))).mono ?_; rintro e wf ⟨rfl, hb⟩; replace HS := Lib.hid (St.next (by first | exact HS.out | exact HS.out.alloc _ | exact (HS.out.alloc _).alloc _) hb); clear hb; clear c0 c1)
            | (go_at_call 15; with_reducible refine (HRb.out _).mono ?_; rintro e wg ⟨rfl, hb⟩; replace HS := Lib.hid (St.next (by first | exact HS.out | exact HS.out.alloc _ | exact (HS.out.alloc _).alloc _) hb); clear hb; obtain ⟨c0, c1⟩ := blob_cells (HS.out.alloc (.cells #[.int .u8 2, .int .i64 0, .int .u64 sm, .int .u32 part, .string ⟨#[]⟩] 39)).row)
            | (go_at_call 8; refine (HPa.out _).mono ?_; rintro e wh ⟨rfl, hb⟩; replace HS := Lib.hid (St.next (by first | exact HS.out | exact HS.out.alloc _ | exact (HS.out.alloc _).alloc _) hb); clear hb)
            | (go_at_call 14; refine (alive_any _).mono ?_; rintro e wj ⟨rfl, hb⟩; replace HS := Lib.hid (St.next (by first | exact HS.out | exact HS.out.alloc _ | exact (HS.out.alloc _).alloc _) hb); clear hb))
          go_ret
          exact ⟨rfl, HS.out.below⟩
      · rcases Bool.eq_false_or_eq_true (NameM.isN l) with hi | hi
        · skip
          -- both_no False True
          have HLn := Lib.hid (fun w => (pLog_any n w h0 hn).mono fun e w' x => (⟨mk_some (logN_ne hc) e x.1, x.2⟩ : _ ∧ Below w.heap.size w w'))
          have HRl : Hid (∀ w, Calls Tryd.prog 15 #[.string (str (logN n))] w fun e w' => e = .returned (.tuple #[.agg #[.int .u8 1, .int .i64 n, .int .u64 0, .int .u32 0, .string ⟨#[]⟩], .int .i64 0]) ∧ Below w.heap.size w w') := Lib.hid (fun w => (read_some (logN_len n) (by have := read_logN NameM.isN n.toNat (by omega) (by omega); rw [Int.toNat_of_nonneg (by omega)] at this; exact this)).mono fun e w' x => ⟨by rw [x.1]; simp only [Int.toNat_of_nonneg (show 0 ≤ n by omega)]; rfl, x.2⟩)
          have HLm := Lib.hid (fun w => (pLog_any m w h1 hm).mono fun e w' x => (⟨mk_none (logN_no (by omega)) e x.1, x.2⟩ : _ ∧ Below w.heap.size w w'))
          have HSt := Lib.hid (fun w (h : Tab w) => (pStage_any n w h0 hn h).mono fun e w' x => (⟨mk_some (stageN_ne (by omega)) e x.1, x.2⟩ : _ ∧ Below w.heap.size w w'))
          have HRs : Hid (∀ w, Calls Tryd.prog 15 #[.string (str (stageN n))] w fun e w' => e = .returned (.tuple #[.agg #[.int .u8 4, .int .i64 n, .int .u64 0, .int .u32 0, .string ⟨#[]⟩], .int .i64 0]) ∧ Below w.heap.size w w') := Lib.hid (fun w => (read_some (stageN_len hn) (by have := read_stageN NameM.isN n.toNat (by omega) (by omega); rw [Int.toNat_of_nonneg (by omega)] at this; exact this)).mono fun e w' x => ⟨by rw [x.1]; simp only [Int.toNat_of_nonneg (show 0 ≤ n by omega)]; rfl, x.2⟩)
          have HBl := Lib.hid (fun w (h : Tab w) => (pBlob_any sm part w hs hp h).mono fun e w' x => (⟨mk_none (show blobN sm part = [] by unfold blobN; rw [if_pos (by omega)]) e x.1, x.2⟩ : _ ∧ Below w.heap.size w w'))
          have HPa := Lib.hid (fun w => (pPage_any l w hl).mono fun e w' x => (⟨mk_some (pageN_ne hi) e x.1, x.2⟩ : _ ∧ Below w.heap.size w w'))
          have HRp : Hid (∀ w, Calls Tryd.prog 15 #[.string (str (pageN NameM.isN l))] w fun e w' => e = .returned (.tuple #[.agg #[.int .u8 3, .int .i64 0, .int .u64 0, .int .u32 0, .string (str l)], .int .i64 0]) ∧ Below w.heap.size w w') := Lib.hid (fun w => (read_some (pageN_len l) (read_pageN NameM.isN l hi)).mono fun e w' x => ⟨by rw [x.1]; rfl, x.2⟩)
          clear h0 hn h1 hm hs hp hl hc hpt hi hcm
          generalize logN n = L1 at *
          generalize stageN n = L3 at *
          generalize pageN NameM.isN l = L5 at *
          go_enter Tryd.func4, Tryd.ntmps4
          go_wp2_with (first
            | (go_at_call 5; with_reducible refine (HLn.out _).mono ?_; rintro e wa ⟨rfl, hb⟩; replace HS := Lib.hid (St.next (by first | exact HS.out | exact HS.out.alloc _ | exact (HS.out.alloc _).alloc _) hb); clear hb)
            | (go_at_call 15; with_reducible refine (HRl.out _).mono ?_; rintro e wb ⟨rfl, hb⟩; replace HS := Lib.hid (St.next (by first | exact HS.out | exact HS.out.alloc _ | exact (HS.out.alloc _).alloc _) hb); clear hb)
            | (go_at_call 5; with_reducible refine (HLm.out _).mono ?_; rintro e wc ⟨rfl, hb⟩; have r3 := (hb.block wb.heap.size (by simp)).trans (heap_alloc_new wb (.cells #[.int .u8 1, .int .i64 n, .int .u64 0, .int .u32 0, .string ⟨#[]⟩] 39)); obtain ⟨q0, q1, q2, q3, q4⟩ := now_cells r3; clear r3; replace HS := Lib.hid (St.next (by first | exact HS.out | exact HS.out.alloc _ | exact (HS.out.alloc _).alloc _) hb); clear hb)
            | (go_at_call 6; refine (HSt.out _ (HV.out.below HS.out.below)).mono ?_; rintro e wd ⟨rfl, hb⟩; replace HS := Lib.hid (St.next (by first | exact HS.out | exact HS.out.alloc _ | exact (HS.out.alloc _).alloc _) hb); clear hb)
            | (go_at_call 15; with_reducible refine (HRs.out _).mono ?_; rintro e we ⟨rfl, hb⟩; replace HS := Lib.hid (St.next (by first | exact HS.out | exact HS.out.alloc _ | exact (HS.out.alloc _).alloc _) hb); clear hb; obtain ⟨c0, c1⟩ := blob_cells (HS.out.alloc (.cells #[.int .u8 4, .int .i64 n, .int .u64 0, .int .u32 0, .string ⟨#[]⟩] 39)).row)
            | (go_at_call 7; refine (HBl.out _ (HV.out.below (by first | exact HS.out.below | exact (HS.out.alloc _).below))).mono ?_; rintro e wf ⟨rfl, hb⟩; replace HS := Lib.hid (St.next (by first | exact HS.out | exact HS.out.alloc _ | exact (HS.out.alloc _).alloc _) hb); clear hb; clear c0 c1)
            | (go_at_call 8; refine (HPa.out _).mono ?_; rintro e wh ⟨rfl, hb⟩; replace HS := Lib.hid (St.next (by first | exact HS.out | exact HS.out.alloc _ | exact (HS.out.alloc _).alloc _) hb); clear hb)
            | (go_at_call 15; with_reducible refine (HRp.out _).mono ?_; rintro e wi ⟨rfl, hb⟩; replace HS := Lib.hid (St.next (by first | exact HS.out | exact HS.out.alloc _ | exact (HS.out.alloc _).alloc _) hb); clear hb)
            | (go_at_call 14; refine (alive_any _).mono ?_; rintro e wj ⟨rfl, hb⟩; replace HS := Lib.hid (St.next (by first | exact HS.out | exact HS.out.alloc _ | exact (HS.out.alloc _).alloc _) hb); clear hb))
          go_ret
          exact ⟨rfl, HS.out.below⟩
        · skip
          -- both_no False False
          have HLn := Lib.hid (fun w => (pLog_any n w h0 hn).mono fun e w' x => (⟨mk_some (logN_ne hc) e x.1, x.2⟩ : _ ∧ Below w.heap.size w w'))
          have HRl : Hid (∀ w, Calls Tryd.prog 15 #[.string (str (logN n))] w fun e w' => e = .returned (.tuple #[.agg #[.int .u8 1, .int .i64 n, .int .u64 0, .int .u32 0, .string ⟨#[]⟩], .int .i64 0]) ∧ Below w.heap.size w w') := Lib.hid (fun w => (read_some (logN_len n) (by have := read_logN NameM.isN n.toNat (by omega) (by omega); rw [Int.toNat_of_nonneg (by omega)] at this; exact this)).mono fun e w' x => ⟨by rw [x.1]; simp only [Int.toNat_of_nonneg (show 0 ≤ n by omega)]; rfl, x.2⟩)
          have HLm := Lib.hid (fun w => (pLog_any m w h1 hm).mono fun e w' x => (⟨mk_none (logN_no (by omega)) e x.1, x.2⟩ : _ ∧ Below w.heap.size w w'))
          have HSt := Lib.hid (fun w (h : Tab w) => (pStage_any n w h0 hn h).mono fun e w' x => (⟨mk_some (stageN_ne (by omega)) e x.1, x.2⟩ : _ ∧ Below w.heap.size w w'))
          have HRs : Hid (∀ w, Calls Tryd.prog 15 #[.string (str (stageN n))] w fun e w' => e = .returned (.tuple #[.agg #[.int .u8 4, .int .i64 n, .int .u64 0, .int .u32 0, .string ⟨#[]⟩], .int .i64 0]) ∧ Below w.heap.size w w') := Lib.hid (fun w => (read_some (stageN_len hn) (by have := read_stageN NameM.isN n.toNat (by omega) (by omega); rw [Int.toNat_of_nonneg (by omega)] at this; exact this)).mono fun e w' x => ⟨by rw [x.1]; simp only [Int.toNat_of_nonneg (show 0 ≤ n by omega)]; rfl, x.2⟩)
          have HBl := Lib.hid (fun w (h : Tab w) => (pBlob_any sm part w hs hp h).mono fun e w' x => (⟨mk_none (show blobN sm part = [] by unfold blobN; rw [if_pos (by omega)]) e x.1, x.2⟩ : _ ∧ Below w.heap.size w w'))
          have HPa := Lib.hid (fun w => (pPage_any l w hl).mono fun e w' x => (⟨mk_none (pageN_no hi) e x.1, x.2⟩ : _ ∧ Below w.heap.size w w'))
          clear h0 hn h1 hm hs hp hl hc hpt hi hcm
          generalize logN n = L1 at *
          generalize stageN n = L3 at *
          go_enter Tryd.func4, Tryd.ntmps4
          go_wp2_with (first
            | (go_at_call 5; with_reducible refine (HLn.out _).mono ?_; rintro e wa ⟨rfl, hb⟩; replace HS := Lib.hid (St.next (by first | exact HS.out | exact HS.out.alloc _ | exact (HS.out.alloc _).alloc _) hb); clear hb)
            | (go_at_call 15; with_reducible refine (HRl.out _).mono ?_; rintro e wb ⟨rfl, hb⟩; replace HS := Lib.hid (St.next (by first | exact HS.out | exact HS.out.alloc _ | exact (HS.out.alloc _).alloc _) hb); clear hb)
            | (go_at_call 5; with_reducible refine (HLm.out _).mono ?_; rintro e wc ⟨rfl, hb⟩; have r3 := (hb.block wb.heap.size (by simp)).trans (heap_alloc_new wb (.cells #[.int .u8 1, .int .i64 n, .int .u64 0, .int .u32 0, .string ⟨#[]⟩] 39)); obtain ⟨q0, q1, q2, q3, q4⟩ := now_cells r3; clear r3; replace HS := Lib.hid (St.next (by first | exact HS.out | exact HS.out.alloc _ | exact (HS.out.alloc _).alloc _) hb); clear hb)
            | (go_at_call 6; refine (HSt.out _ (HV.out.below HS.out.below)).mono ?_; rintro e wd ⟨rfl, hb⟩; replace HS := Lib.hid (St.next (by first | exact HS.out | exact HS.out.alloc _ | exact (HS.out.alloc _).alloc _) hb); clear hb)
            | (go_at_call 15; with_reducible refine (HRs.out _).mono ?_; rintro e we ⟨rfl, hb⟩; replace HS := Lib.hid (St.next (by first | exact HS.out | exact HS.out.alloc _ | exact (HS.out.alloc _).alloc _) hb); clear hb; obtain ⟨c0, c1⟩ := blob_cells (HS.out.alloc (.cells #[.int .u8 4, .int .i64 n, .int .u64 0, .int .u32 0, .string ⟨#[]⟩] 39)).row)
            | (go_at_call 7; refine (HBl.out _ (HV.out.below (by first | exact HS.out.below | exact (HS.out.alloc _).below))).mono ?_; rintro e wf ⟨rfl, hb⟩; replace HS := Lib.hid (St.next (by first | exact HS.out | exact HS.out.alloc _ | exact (HS.out.alloc _).alloc _) hb); clear hb; clear c0 c1)
            | (go_at_call 8; refine (HPa.out _).mono ?_; rintro e wh ⟨rfl, hb⟩; replace HS := Lib.hid (St.next (by first | exact HS.out | exact HS.out.alloc _ | exact (HS.out.alloc _).alloc _) hb); clear hb)
            | (go_at_call 14; refine (alive_any _).mono ?_; rintro e wj ⟨rfl, hb⟩; replace HS := Lib.hid (St.next (by first | exact HS.out | exact HS.out.alloc _ | exact (HS.out.alloc _).alloc _) hb); clear hb))
          go_ret
          exact ⟨rfl, HS.out.below⟩
  · by_cases hc2 : 1 ≤ n ∧ n ≤ 2147483647
    · skip
      by_cases hpt : 1 ≤ part
      · rcases Bool.eq_false_or_eq_true (NameM.isN l) with hi | hi
        · skip
          -- stage True True
          have HLn := Lib.hid (fun w => (pLog_any n w h0 hn).mono fun e w' x => (⟨mk_none (logN_no (by omega)) e x.1, x.2⟩ : _ ∧ Below w.heap.size w w'))
          have HSt := Lib.hid (fun w (h : Tab w) => (pStage_any n w h0 hn h).mono fun e w' x => (⟨mk_some (stageN_ne (by omega)) e x.1, x.2⟩ : _ ∧ Below w.heap.size w w'))
          have HRs : Hid (∀ w, Calls Tryd.prog 15 #[.string (str (stageN n))] w fun e w' => e = .returned (.tuple #[.agg #[.int .u8 4, .int .i64 n, .int .u64 0, .int .u32 0, .string ⟨#[]⟩], .int .i64 0]) ∧ Below w.heap.size w w') := Lib.hid (fun w => (read_some (stageN_len hn) (by have := read_stageN NameM.isN n.toNat (by omega) (by omega); rw [Int.toNat_of_nonneg (by omega)] at this; exact this)).mono fun e w' x => ⟨by rw [x.1]; simp only [Int.toNat_of_nonneg (show 0 ≤ n by omega)]; rfl, x.2⟩)
          have HBl := Lib.hid (fun w (h : Tab w) => (pBlob_any sm part w hs hp h).mono fun e w' x => (⟨mk_some (blobN_ne (by omega)) e x.1, x.2⟩ : _ ∧ Below w.heap.size w w'))
          have HRb : Hid (∀ w, Calls Tryd.prog 15 #[.string (str (blobN sm part))] w fun e w' => e = .returned (.tuple #[.agg #[.int .u8 2, .int .i64 0, .int .u64 sm, .int .u32 part, .string ⟨#[]⟩], .int .i64 0]) ∧ Below w.heap.size w w') := Lib.hid (fun w => (read_some (blobN_len hp) (read_blobN NameM.isN sm part hs (by omega) hp)).mono fun e w' x => ⟨by rw [x.1]; rfl, x.2⟩)
          have HPa := Lib.hid (fun w => (pPage_any l w hl).mono fun e w' x => (⟨mk_some (pageN_ne hi) e x.1, x.2⟩ : _ ∧ Below w.heap.size w w'))
          have HRp : Hid (∀ w, Calls Tryd.prog 15 #[.string (str (pageN NameM.isN l))] w fun e w' => e = .returned (.tuple #[.agg #[.int .u8 3, .int .i64 0, .int .u64 0, .int .u32 0, .string (str l)], .int .i64 0]) ∧ Below w.heap.size w w') := Lib.hid (fun w => (read_some (pageN_len l) (read_pageN NameM.isN l hi)).mono fun e w' x => ⟨by rw [x.1]; rfl, x.2⟩)
          clear h0 hn h1 hm hs hp hl hc hc2 hpt hi
          generalize stageN n = L3 at *
          generalize blobN sm part = L4 at *
          generalize pageN NameM.isN l = L5 at *
          go_enter Tryd.func4, Tryd.ntmps4
          go_wp2_with (first
            | (go_at_call 5; with_reducible refine (HLn.out _).mono ?_; rintro e wa ⟨rfl, hb⟩; replace HS := Lib.hid (St.next (by first | exact HS.out | exact HS.out.alloc _ | exact (HS.out.alloc _).alloc _) hb); clear hb)
            | (go_at_call 6; refine (HSt.out _ (HV.out.below HS.out.below)).mono ?_; rintro e wd ⟨rfl, hb⟩; replace HS := Lib.hid (St.next (by first | exact HS.out | exact HS.out.alloc _ | exact (HS.out.alloc _).alloc _) hb); clear hb)
            | (go_at_call 15; with_reducible refine (HRs.out _).mono ?_; rintro e we ⟨rfl, hb⟩; replace HS := Lib.hid (St.next (by first | exact HS.out | exact HS.out.alloc _ | exact (HS.out.alloc _).alloc _) hb); clear hb; obtain ⟨c0, c1⟩ := blob_cells (HS.out.alloc (.cells #[.int .u8 4, .int .i64 n, .int .u64 0, .int .u32 0, .string ⟨#[]⟩] 39)).row)
            | (go_at_call 7; refine (HBl.out _ (HV.out.below (by first | exact HS.out.below | exact (HS.out.alloc _).below))).mono ?_; rintro e wf ⟨rfl, hb⟩; replace HS := Lib.hid (St.next (by first | exact HS.out | exact HS.out.alloc _ | exact (HS.out.alloc _).alloc _) hb); clear hb; clear c0 c1)
            | (go_at_call 15; with_reducible refine (HRb.out _).mono ?_; rintro e wg ⟨rfl, hb⟩; replace HS := Lib.hid (St.next (by first | exact HS.out | exact HS.out.alloc _ | exact (HS.out.alloc _).alloc _) hb); clear hb; obtain ⟨c0, c1⟩ := blob_cells (HS.out.alloc (.cells #[.int .u8 2, .int .i64 0, .int .u64 sm, .int .u32 part, .string ⟨#[]⟩] 39)).row)
            | (go_at_call 8; refine (HPa.out _).mono ?_; rintro e wh ⟨rfl, hb⟩; replace HS := Lib.hid (St.next (by first | exact HS.out | exact HS.out.alloc _ | exact (HS.out.alloc _).alloc _) hb); clear hb)
            | (go_at_call 15; with_reducible refine (HRp.out _).mono ?_; rintro e wi ⟨rfl, hb⟩; replace HS := Lib.hid (St.next (by first | exact HS.out | exact HS.out.alloc _ | exact (HS.out.alloc _).alloc _) hb); clear hb)
            | (go_at_call 14; refine (alive_any _).mono ?_; rintro e wj ⟨rfl, hb⟩; replace HS := Lib.hid (St.next (by first | exact HS.out | exact HS.out.alloc _ | exact (HS.out.alloc _).alloc _) hb); clear hb))
          go_ret
          exact ⟨rfl, HS.out.below⟩
        · skip
          -- stage True False
          have HLn := Lib.hid (fun w => (pLog_any n w h0 hn).mono fun e w' x => (⟨mk_none (logN_no (by omega)) e x.1, x.2⟩ : _ ∧ Below w.heap.size w w'))
          have HSt := Lib.hid (fun w (h : Tab w) => (pStage_any n w h0 hn h).mono fun e w' x => (⟨mk_some (stageN_ne (by omega)) e x.1, x.2⟩ : _ ∧ Below w.heap.size w w'))
          have HRs : Hid (∀ w, Calls Tryd.prog 15 #[.string (str (stageN n))] w fun e w' => e = .returned (.tuple #[.agg #[.int .u8 4, .int .i64 n, .int .u64 0, .int .u32 0, .string ⟨#[]⟩], .int .i64 0]) ∧ Below w.heap.size w w') := Lib.hid (fun w => (read_some (stageN_len hn) (by have := read_stageN NameM.isN n.toNat (by omega) (by omega); rw [Int.toNat_of_nonneg (by omega)] at this; exact this)).mono fun e w' x => ⟨by rw [x.1]; simp only [Int.toNat_of_nonneg (show 0 ≤ n by omega)]; rfl, x.2⟩)
          have HBl := Lib.hid (fun w (h : Tab w) => (pBlob_any sm part w hs hp h).mono fun e w' x => (⟨mk_some (blobN_ne (by omega)) e x.1, x.2⟩ : _ ∧ Below w.heap.size w w'))
          have HRb : Hid (∀ w, Calls Tryd.prog 15 #[.string (str (blobN sm part))] w fun e w' => e = .returned (.tuple #[.agg #[.int .u8 2, .int .i64 0, .int .u64 sm, .int .u32 part, .string ⟨#[]⟩], .int .i64 0]) ∧ Below w.heap.size w w') := Lib.hid (fun w => (read_some (blobN_len hp) (read_blobN NameM.isN sm part hs (by omega) hp)).mono fun e w' x => ⟨by rw [x.1]; rfl, x.2⟩)
          have HPa := Lib.hid (fun w => (pPage_any l w hl).mono fun e w' x => (⟨mk_none (pageN_no hi) e x.1, x.2⟩ : _ ∧ Below w.heap.size w w'))
          clear h0 hn h1 hm hs hp hl hc hc2 hpt hi
          generalize stageN n = L3 at *
          generalize blobN sm part = L4 at *
          go_enter Tryd.func4, Tryd.ntmps4
          go_wp2_with (first
            | (go_at_call 5; with_reducible refine (HLn.out _).mono ?_; rintro e wa ⟨rfl, hb⟩; replace HS := Lib.hid (St.next (by first | exact HS.out | exact HS.out.alloc _ | exact (HS.out.alloc _).alloc _) hb); clear hb)
            | (go_at_call 6; refine (HSt.out _ (HV.out.below HS.out.below)).mono ?_; rintro e wd ⟨rfl, hb⟩; replace HS := Lib.hid (St.next (by first | exact HS.out | exact HS.out.alloc _ | exact (HS.out.alloc _).alloc _) hb); clear hb)
            | (go_at_call 15; with_reducible refine (HRs.out _).mono ?_; rintro e we ⟨rfl, hb⟩; replace HS := Lib.hid (St.next (by first | exact HS.out | exact HS.out.alloc _ | exact (HS.out.alloc _).alloc _) hb); clear hb; obtain ⟨c0, c1⟩ := blob_cells (HS.out.alloc (.cells #[.int .u8 4, .int .i64 n, .int .u64 0, .int .u32 0, .string ⟨#[]⟩] 39)).row)
            | (go_at_call 7; refine (HBl.out _ (HV.out.below (by first | exact HS.out.below | exact (HS.out.alloc _).below))).mono ?_; rintro e wf ⟨rfl, hb⟩; replace HS := Lib.hid (St.next (by first | exact HS.out | exact HS.out.alloc _ | exact (HS.out.alloc _).alloc _) hb); clear hb; clear c0 c1)
            | (go_at_call 15; with_reducible refine (HRb.out _).mono ?_; rintro e wg ⟨rfl, hb⟩; replace HS := Lib.hid (St.next (by first | exact HS.out | exact HS.out.alloc _ | exact (HS.out.alloc _).alloc _) hb); clear hb; obtain ⟨c0, c1⟩ := blob_cells (HS.out.alloc (.cells #[.int .u8 2, .int .i64 0, .int .u64 sm, .int .u32 part, .string ⟨#[]⟩] 39)).row)
            | (go_at_call 8; refine (HPa.out _).mono ?_; rintro e wh ⟨rfl, hb⟩; replace HS := Lib.hid (St.next (by first | exact HS.out | exact HS.out.alloc _ | exact (HS.out.alloc _).alloc _) hb); clear hb)
            | (go_at_call 14; refine (alive_any _).mono ?_; rintro e wj ⟨rfl, hb⟩; replace HS := Lib.hid (St.next (by first | exact HS.out | exact HS.out.alloc _ | exact (HS.out.alloc _).alloc _) hb); clear hb))
          go_ret
          exact ⟨rfl, HS.out.below⟩
      · rcases Bool.eq_false_or_eq_true (NameM.isN l) with hi | hi
        · skip
          -- stage False True
          have HLn := Lib.hid (fun w => (pLog_any n w h0 hn).mono fun e w' x => (⟨mk_none (logN_no (by omega)) e x.1, x.2⟩ : _ ∧ Below w.heap.size w w'))
          have HSt := Lib.hid (fun w (h : Tab w) => (pStage_any n w h0 hn h).mono fun e w' x => (⟨mk_some (stageN_ne (by omega)) e x.1, x.2⟩ : _ ∧ Below w.heap.size w w'))
          have HRs : Hid (∀ w, Calls Tryd.prog 15 #[.string (str (stageN n))] w fun e w' => e = .returned (.tuple #[.agg #[.int .u8 4, .int .i64 n, .int .u64 0, .int .u32 0, .string ⟨#[]⟩], .int .i64 0]) ∧ Below w.heap.size w w') := Lib.hid (fun w => (read_some (stageN_len hn) (by have := read_stageN NameM.isN n.toNat (by omega) (by omega); rw [Int.toNat_of_nonneg (by omega)] at this; exact this)).mono fun e w' x => ⟨by rw [x.1]; simp only [Int.toNat_of_nonneg (show 0 ≤ n by omega)]; rfl, x.2⟩)
          have HBl := Lib.hid (fun w (h : Tab w) => (pBlob_any sm part w hs hp h).mono fun e w' x => (⟨mk_none (show blobN sm part = [] by unfold blobN; rw [if_pos (by omega)]) e x.1, x.2⟩ : _ ∧ Below w.heap.size w w'))
          have HPa := Lib.hid (fun w => (pPage_any l w hl).mono fun e w' x => (⟨mk_some (pageN_ne hi) e x.1, x.2⟩ : _ ∧ Below w.heap.size w w'))
          have HRp : Hid (∀ w, Calls Tryd.prog 15 #[.string (str (pageN NameM.isN l))] w fun e w' => e = .returned (.tuple #[.agg #[.int .u8 3, .int .i64 0, .int .u64 0, .int .u32 0, .string (str l)], .int .i64 0]) ∧ Below w.heap.size w w') := Lib.hid (fun w => (read_some (pageN_len l) (read_pageN NameM.isN l hi)).mono fun e w' x => ⟨by rw [x.1]; rfl, x.2⟩)
          clear h0 hn h1 hm hs hp hl hc hc2 hpt hi
          generalize stageN n = L3 at *
          generalize pageN NameM.isN l = L5 at *
          go_enter Tryd.func4, Tryd.ntmps4
          go_wp2_with (first
            | (go_at_call 5; with_reducible refine (HLn.out _).mono ?_; rintro e wa ⟨rfl, hb⟩; replace HS := Lib.hid (St.next (by first | exact HS.out | exact HS.out.alloc _ | exact (HS.out.alloc _).alloc _) hb); clear hb)
            | (go_at_call 6; refine (HSt.out _ (HV.out.below HS.out.below)).mono ?_; rintro e wd ⟨rfl, hb⟩; replace HS := Lib.hid (St.next (by first | exact HS.out | exact HS.out.alloc _ | exact (HS.out.alloc _).alloc _) hb); clear hb)
            | (go_at_call 15; with_reducible refine (HRs.out _).mono ?_; rintro e we ⟨rfl, hb⟩; replace HS := Lib.hid (St.next (by first | exact HS.out | exact HS.out.alloc _ | exact (HS.out.alloc _).alloc _) hb); clear hb; obtain ⟨c0, c1⟩ := blob_cells (HS.out.alloc (.cells #[.int .u8 4, .int .i64 n, .int .u64 0, .int .u32 0, .string ⟨#[]⟩] 39)).row)
            | (go_at_call 7; refine (HBl.out _ (HV.out.below (by first | exact HS.out.below | exact (HS.out.alloc _).below))).mono ?_; rintro e wf ⟨rfl, hb⟩; replace HS := Lib.hid (St.next (by first | exact HS.out | exact HS.out.alloc _ | exact (HS.out.alloc _).alloc _) hb); clear hb; clear c0 c1)
            | (go_at_call 8; refine (HPa.out _).mono ?_; rintro e wh ⟨rfl, hb⟩; replace HS := Lib.hid (St.next (by first | exact HS.out | exact HS.out.alloc _ | exact (HS.out.alloc _).alloc _) hb); clear hb)
            | (go_at_call 15; with_reducible refine (HRp.out _).mono ?_; rintro e wi ⟨rfl, hb⟩; replace HS := Lib.hid (St.next (by first | exact HS.out | exact HS.out.alloc _ | exact (HS.out.alloc _).alloc _) hb); clear hb)
            | (go_at_call 14; refine (alive_any _).mono ?_; rintro e wj ⟨rfl, hb⟩; replace HS := Lib.hid (St.next (by first | exact HS.out | exact HS.out.alloc _ | exact (HS.out.alloc _).alloc _) hb); clear hb))
          go_ret
          exact ⟨rfl, HS.out.below⟩
        · skip
          -- stage False False
          have HLn := Lib.hid (fun w => (pLog_any n w h0 hn).mono fun e w' x => (⟨mk_none (logN_no (by omega)) e x.1, x.2⟩ : _ ∧ Below w.heap.size w w'))
          have HSt := Lib.hid (fun w (h : Tab w) => (pStage_any n w h0 hn h).mono fun e w' x => (⟨mk_some (stageN_ne (by omega)) e x.1, x.2⟩ : _ ∧ Below w.heap.size w w'))
          have HRs : Hid (∀ w, Calls Tryd.prog 15 #[.string (str (stageN n))] w fun e w' => e = .returned (.tuple #[.agg #[.int .u8 4, .int .i64 n, .int .u64 0, .int .u32 0, .string ⟨#[]⟩], .int .i64 0]) ∧ Below w.heap.size w w') := Lib.hid (fun w => (read_some (stageN_len hn) (by have := read_stageN NameM.isN n.toNat (by omega) (by omega); rw [Int.toNat_of_nonneg (by omega)] at this; exact this)).mono fun e w' x => ⟨by rw [x.1]; simp only [Int.toNat_of_nonneg (show 0 ≤ n by omega)]; rfl, x.2⟩)
          have HBl := Lib.hid (fun w (h : Tab w) => (pBlob_any sm part w hs hp h).mono fun e w' x => (⟨mk_none (show blobN sm part = [] by unfold blobN; rw [if_pos (by omega)]) e x.1, x.2⟩ : _ ∧ Below w.heap.size w w'))
          have HPa := Lib.hid (fun w => (pPage_any l w hl).mono fun e w' x => (⟨mk_none (pageN_no hi) e x.1, x.2⟩ : _ ∧ Below w.heap.size w w'))
          clear h0 hn h1 hm hs hp hl hc hc2 hpt hi
          generalize stageN n = L3 at *
          go_enter Tryd.func4, Tryd.ntmps4
          go_wp2_with (first
            | (go_at_call 5; with_reducible refine (HLn.out _).mono ?_; rintro e wa ⟨rfl, hb⟩; replace HS := Lib.hid (St.next (by first | exact HS.out | exact HS.out.alloc _ | exact (HS.out.alloc _).alloc _) hb); clear hb)
            | (go_at_call 6; refine (HSt.out _ (HV.out.below HS.out.below)).mono ?_; rintro e wd ⟨rfl, hb⟩; replace HS := Lib.hid (St.next (by first | exact HS.out | exact HS.out.alloc _ | exact (HS.out.alloc _).alloc _) hb); clear hb)
            | (go_at_call 15; with_reducible refine (HRs.out _).mono ?_; rintro e we ⟨rfl, hb⟩; replace HS := Lib.hid (St.next (by first | exact HS.out | exact HS.out.alloc _ | exact (HS.out.alloc _).alloc _) hb); clear hb; obtain ⟨c0, c1⟩ := blob_cells (HS.out.alloc (.cells #[.int .u8 4, .int .i64 n, .int .u64 0, .int .u32 0, .string ⟨#[]⟩] 39)).row)
            | (go_at_call 7; refine (HBl.out _ (HV.out.below (by first | exact HS.out.below | exact (HS.out.alloc _).below))).mono ?_; rintro e wf ⟨rfl, hb⟩; replace HS := Lib.hid (St.next (by first | exact HS.out | exact HS.out.alloc _ | exact (HS.out.alloc _).alloc _) hb); clear hb; clear c0 c1)
            | (go_at_call 8; refine (HPa.out _).mono ?_; rintro e wh ⟨rfl, hb⟩; replace HS := Lib.hid (St.next (by first | exact HS.out | exact HS.out.alloc _ | exact (HS.out.alloc _).alloc _) hb); clear hb)
            | (go_at_call 14; refine (alive_any _).mono ?_; rintro e wj ⟨rfl, hb⟩; replace HS := Lib.hid (St.next (by first | exact HS.out | exact HS.out.alloc _ | exact (HS.out.alloc _).alloc _) hb); clear hb))
          go_ret
          exact ⟨rfl, HS.out.below⟩
    · skip
      by_cases hpt : 1 ≤ part
      · rcases Bool.eq_false_or_eq_true (NameM.isN l) with hi | hi
        · skip
          -- none True True
          have HLn := Lib.hid (fun w => (pLog_any n w h0 hn).mono fun e w' x => (⟨mk_none (logN_no (by omega)) e x.1, x.2⟩ : _ ∧ Below w.heap.size w w'))
          have HSt := Lib.hid (fun w (h : Tab w) => (pStage_any n w h0 hn h).mono fun e w' x => (⟨mk_none (stageN_no (by omega)) e x.1, x.2⟩ : _ ∧ Below w.heap.size w w'))
          have HBl := Lib.hid (fun w (h : Tab w) => (pBlob_any sm part w hs hp h).mono fun e w' x => (⟨mk_some (blobN_ne (by omega)) e x.1, x.2⟩ : _ ∧ Below w.heap.size w w'))
          have HRb : Hid (∀ w, Calls Tryd.prog 15 #[.string (str (blobN sm part))] w fun e w' => e = .returned (.tuple #[.agg #[.int .u8 2, .int .i64 0, .int .u64 sm, .int .u32 part, .string ⟨#[]⟩], .int .i64 0]) ∧ Below w.heap.size w w') := Lib.hid (fun w => (read_some (blobN_len hp) (read_blobN NameM.isN sm part hs (by omega) hp)).mono fun e w' x => ⟨by rw [x.1]; rfl, x.2⟩)
          have HPa := Lib.hid (fun w => (pPage_any l w hl).mono fun e w' x => (⟨mk_some (pageN_ne hi) e x.1, x.2⟩ : _ ∧ Below w.heap.size w w'))
          have HRp : Hid (∀ w, Calls Tryd.prog 15 #[.string (str (pageN NameM.isN l))] w fun e w' => e = .returned (.tuple #[.agg #[.int .u8 3, .int .i64 0, .int .u64 0, .int .u32 0, .string (str l)], .int .i64 0]) ∧ Below w.heap.size w w') := Lib.hid (fun w => (read_some (pageN_len l) (read_pageN NameM.isN l hi)).mono fun e w' x => ⟨by rw [x.1]; rfl, x.2⟩)
          clear h0 hn h1 hm hs hp hl hc hc2 hpt hi
          generalize blobN sm part = L4 at *
          generalize pageN NameM.isN l = L5 at *
          go_enter Tryd.func4, Tryd.ntmps4
          go_wp2_with (first
            | (go_at_call 5; with_reducible refine (HLn.out _).mono ?_; rintro e wa ⟨rfl, hb⟩; replace HS := Lib.hid (St.next (by first | exact HS.out | exact HS.out.alloc _ | exact (HS.out.alloc _).alloc _) hb); clear hb)
            | (go_at_call 6; refine (HSt.out _ (HV.out.below HS.out.below)).mono ?_; rintro e wd ⟨rfl, hb⟩; replace HS := Lib.hid (St.next (by first | exact HS.out | exact HS.out.alloc _ | exact (HS.out.alloc _).alloc _) hb); clear hb; obtain ⟨c0, c1⟩ := blob_cells HS.out.row)
            | (go_at_call 7; refine (HBl.out _ (HV.out.below (by first | exact HS.out.below | exact (HS.out.alloc _).below))).mono ?_; rintro e wf ⟨rfl, hb⟩; replace HS := Lib.hid (St.next (by first | exact HS.out | exact HS.out.alloc _ | exact (HS.out.alloc _).alloc _) hb); clear hb; clear c0 c1)
            | (go_at_call 15; with_reducible refine (HRb.out _).mono ?_; rintro e wg ⟨rfl, hb⟩; replace HS := Lib.hid (St.next (by first | exact HS.out | exact HS.out.alloc _ | exact (HS.out.alloc _).alloc _) hb); clear hb; obtain ⟨c0, c1⟩ := blob_cells (HS.out.alloc (.cells #[.int .u8 2, .int .i64 0, .int .u64 sm, .int .u32 part, .string ⟨#[]⟩] 39)).row)
            | (go_at_call 8; refine (HPa.out _).mono ?_; rintro e wh ⟨rfl, hb⟩; replace HS := Lib.hid (St.next (by first | exact HS.out | exact HS.out.alloc _ | exact (HS.out.alloc _).alloc _) hb); clear hb)
            | (go_at_call 15; with_reducible refine (HRp.out _).mono ?_; rintro e wi ⟨rfl, hb⟩; replace HS := Lib.hid (St.next (by first | exact HS.out | exact HS.out.alloc _ | exact (HS.out.alloc _).alloc _) hb); clear hb)
            | (go_at_call 14; refine (alive_any _).mono ?_; rintro e wj ⟨rfl, hb⟩; replace HS := Lib.hid (St.next (by first | exact HS.out | exact HS.out.alloc _ | exact (HS.out.alloc _).alloc _) hb); clear hb))
          go_ret
          exact ⟨rfl, HS.out.below⟩
        · skip
          -- none True False
          have HLn := Lib.hid (fun w => (pLog_any n w h0 hn).mono fun e w' x => (⟨mk_none (logN_no (by omega)) e x.1, x.2⟩ : _ ∧ Below w.heap.size w w'))
          have HSt := Lib.hid (fun w (h : Tab w) => (pStage_any n w h0 hn h).mono fun e w' x => (⟨mk_none (stageN_no (by omega)) e x.1, x.2⟩ : _ ∧ Below w.heap.size w w'))
          have HBl := Lib.hid (fun w (h : Tab w) => (pBlob_any sm part w hs hp h).mono fun e w' x => (⟨mk_some (blobN_ne (by omega)) e x.1, x.2⟩ : _ ∧ Below w.heap.size w w'))
          have HRb : Hid (∀ w, Calls Tryd.prog 15 #[.string (str (blobN sm part))] w fun e w' => e = .returned (.tuple #[.agg #[.int .u8 2, .int .i64 0, .int .u64 sm, .int .u32 part, .string ⟨#[]⟩], .int .i64 0]) ∧ Below w.heap.size w w') := Lib.hid (fun w => (read_some (blobN_len hp) (read_blobN NameM.isN sm part hs (by omega) hp)).mono fun e w' x => ⟨by rw [x.1]; rfl, x.2⟩)
          have HPa := Lib.hid (fun w => (pPage_any l w hl).mono fun e w' x => (⟨mk_none (pageN_no hi) e x.1, x.2⟩ : _ ∧ Below w.heap.size w w'))
          clear h0 hn h1 hm hs hp hl hc hc2 hpt hi
          generalize blobN sm part = L4 at *
          go_enter Tryd.func4, Tryd.ntmps4
          go_wp2_with (first
            | (go_at_call 5; with_reducible refine (HLn.out _).mono ?_; rintro e wa ⟨rfl, hb⟩; replace HS := Lib.hid (St.next (by first | exact HS.out | exact HS.out.alloc _ | exact (HS.out.alloc _).alloc _) hb); clear hb)
            | (go_at_call 6; refine (HSt.out _ (HV.out.below HS.out.below)).mono ?_; rintro e wd ⟨rfl, hb⟩; replace HS := Lib.hid (St.next (by first | exact HS.out | exact HS.out.alloc _ | exact (HS.out.alloc _).alloc _) hb); clear hb; obtain ⟨c0, c1⟩ := blob_cells HS.out.row)
            | (go_at_call 7; refine (HBl.out _ (HV.out.below (by first | exact HS.out.below | exact (HS.out.alloc _).below))).mono ?_; rintro e wf ⟨rfl, hb⟩; replace HS := Lib.hid (St.next (by first | exact HS.out | exact HS.out.alloc _ | exact (HS.out.alloc _).alloc _) hb); clear hb; clear c0 c1)
            | (go_at_call 15; with_reducible refine (HRb.out _).mono ?_; rintro e wg ⟨rfl, hb⟩; replace HS := Lib.hid (St.next (by first | exact HS.out | exact HS.out.alloc _ | exact (HS.out.alloc _).alloc _) hb); clear hb; obtain ⟨c0, c1⟩ := blob_cells (HS.out.alloc (.cells #[.int .u8 2, .int .i64 0, .int .u64 sm, .int .u32 part, .string ⟨#[]⟩] 39)).row)
            | (go_at_call 8; refine (HPa.out _).mono ?_; rintro e wh ⟨rfl, hb⟩; replace HS := Lib.hid (St.next (by first | exact HS.out | exact HS.out.alloc _ | exact (HS.out.alloc _).alloc _) hb); clear hb)
            | (go_at_call 14; refine (alive_any _).mono ?_; rintro e wj ⟨rfl, hb⟩; replace HS := Lib.hid (St.next (by first | exact HS.out | exact HS.out.alloc _ | exact (HS.out.alloc _).alloc _) hb); clear hb))
          go_ret
          exact ⟨rfl, HS.out.below⟩
      · rcases Bool.eq_false_or_eq_true (NameM.isN l) with hi | hi
        · skip
          -- none False True
          have HLn := Lib.hid (fun w => (pLog_any n w h0 hn).mono fun e w' x => (⟨mk_none (logN_no (by omega)) e x.1, x.2⟩ : _ ∧ Below w.heap.size w w'))
          have HSt := Lib.hid (fun w (h : Tab w) => (pStage_any n w h0 hn h).mono fun e w' x => (⟨mk_none (stageN_no (by omega)) e x.1, x.2⟩ : _ ∧ Below w.heap.size w w'))
          have HBl := Lib.hid (fun w (h : Tab w) => (pBlob_any sm part w hs hp h).mono fun e w' x => (⟨mk_none (show blobN sm part = [] by unfold blobN; rw [if_pos (by omega)]) e x.1, x.2⟩ : _ ∧ Below w.heap.size w w'))
          have HPa := Lib.hid (fun w => (pPage_any l w hl).mono fun e w' x => (⟨mk_some (pageN_ne hi) e x.1, x.2⟩ : _ ∧ Below w.heap.size w w'))
          have HRp : Hid (∀ w, Calls Tryd.prog 15 #[.string (str (pageN NameM.isN l))] w fun e w' => e = .returned (.tuple #[.agg #[.int .u8 3, .int .i64 0, .int .u64 0, .int .u32 0, .string (str l)], .int .i64 0]) ∧ Below w.heap.size w w') := Lib.hid (fun w => (read_some (pageN_len l) (read_pageN NameM.isN l hi)).mono fun e w' x => ⟨by rw [x.1]; rfl, x.2⟩)
          clear h0 hn h1 hm hs hp hl hc hc2 hpt hi
          generalize pageN NameM.isN l = L5 at *
          go_enter Tryd.func4, Tryd.ntmps4
          go_wp2_with (first
            | (go_at_call 5; with_reducible refine (HLn.out _).mono ?_; rintro e wa ⟨rfl, hb⟩; replace HS := Lib.hid (St.next (by first | exact HS.out | exact HS.out.alloc _ | exact (HS.out.alloc _).alloc _) hb); clear hb)
            | (go_at_call 6; refine (HSt.out _ (HV.out.below HS.out.below)).mono ?_; rintro e wd ⟨rfl, hb⟩; replace HS := Lib.hid (St.next (by first | exact HS.out | exact HS.out.alloc _ | exact (HS.out.alloc _).alloc _) hb); clear hb; obtain ⟨c0, c1⟩ := blob_cells HS.out.row)
            | (go_at_call 7; refine (HBl.out _ (HV.out.below (by first | exact HS.out.below | exact (HS.out.alloc _).below))).mono ?_; rintro e wf ⟨rfl, hb⟩; replace HS := Lib.hid (St.next (by first | exact HS.out | exact HS.out.alloc _ | exact (HS.out.alloc _).alloc _) hb); clear hb; clear c0 c1)
            | (go_at_call 8; refine (HPa.out _).mono ?_; rintro e wh ⟨rfl, hb⟩; replace HS := Lib.hid (St.next (by first | exact HS.out | exact HS.out.alloc _ | exact (HS.out.alloc _).alloc _) hb); clear hb)
            | (go_at_call 15; with_reducible refine (HRp.out _).mono ?_; rintro e wi ⟨rfl, hb⟩; replace HS := Lib.hid (St.next (by first | exact HS.out | exact HS.out.alloc _ | exact (HS.out.alloc _).alloc _) hb); clear hb)
            | (go_at_call 14; refine (alive_any _).mono ?_; rintro e wj ⟨rfl, hb⟩; replace HS := Lib.hid (St.next (by first | exact HS.out | exact HS.out.alloc _ | exact (HS.out.alloc _).alloc _) hb); clear hb))
          go_ret
          exact ⟨rfl, HS.out.below⟩
        · skip
          -- none False False
          have HLn := Lib.hid (fun w => (pLog_any n w h0 hn).mono fun e w' x => (⟨mk_none (logN_no (by omega)) e x.1, x.2⟩ : _ ∧ Below w.heap.size w w'))
          have HSt := Lib.hid (fun w (h : Tab w) => (pStage_any n w h0 hn h).mono fun e w' x => (⟨mk_none (stageN_no (by omega)) e x.1, x.2⟩ : _ ∧ Below w.heap.size w w'))
          have HBl := Lib.hid (fun w (h : Tab w) => (pBlob_any sm part w hs hp h).mono fun e w' x => (⟨mk_none (show blobN sm part = [] by unfold blobN; rw [if_pos (by omega)]) e x.1, x.2⟩ : _ ∧ Below w.heap.size w w'))
          have HPa := Lib.hid (fun w => (pPage_any l w hl).mono fun e w' x => (⟨mk_none (pageN_no hi) e x.1, x.2⟩ : _ ∧ Below w.heap.size w w'))
          clear h0 hn h1 hm hs hp hl hc hc2 hpt hi
          go_enter Tryd.func4, Tryd.ntmps4
          go_wp2_with (first
            | (go_at_call 5; with_reducible refine (HLn.out _).mono ?_; rintro e wa ⟨rfl, hb⟩; replace HS := Lib.hid (St.next (by first | exact HS.out | exact HS.out.alloc _ | exact (HS.out.alloc _).alloc _) hb); clear hb)
            | (go_at_call 6; refine (HSt.out _ (HV.out.below HS.out.below)).mono ?_; rintro e wd ⟨rfl, hb⟩; replace HS := Lib.hid (St.next (by first | exact HS.out | exact HS.out.alloc _ | exact (HS.out.alloc _).alloc _) hb); clear hb; obtain ⟨c0, c1⟩ := blob_cells HS.out.row)
            | (go_at_call 7; refine (HBl.out _ (HV.out.below (by first | exact HS.out.below | exact (HS.out.alloc _).below))).mono ?_; rintro e wf ⟨rfl, hb⟩; replace HS := Lib.hid (St.next (by first | exact HS.out | exact HS.out.alloc _ | exact (HS.out.alloc _).alloc _) hb); clear hb; clear c0 c1)
            | (go_at_call 8; refine (HPa.out _).mono ?_; rintro e wh ⟨rfl, hb⟩; replace HS := Lib.hid (St.next (by first | exact HS.out | exact HS.out.alloc _ | exact (HS.out.alloc _).alloc _) hb); clear hb)
            | (go_at_call 14; refine (alive_any _).mono ?_; rintro e wj ⟨rfl, hb⟩; replace HS := Lib.hid (St.next (by first | exact HS.out | exact HS.out.alloc _ | exact (HS.out.alloc _).alloc _) hb); clear hb))
          go_ret
          exact ⟨rfl, HS.out.below⟩
end PathC
end Go.Proofs.YtkngdhchjofleaaDoor
