/-
  The document's own answer for layer 11: what a text says as the name of a file.
-/
import Derived.Test.YtkngdhchjofleaaPathDoc
namespace Go.Proofs.Ytkngdhchjofleaa
open Go.RowKit
namespace PathC
open PathM StrC
open VerM (B val dig)
set_option linter.unusedSimpArgs false
set_option linter.unusedVariables false

set_option maxHeartbeats 1000000 in
set_option maxRecDepth 100000 in
theorem rRead_any (l : B) (w : World) (hl : l.length ≤ 9223372036854775807) :
    Calls Try.prog 5 #[.string (str l)] w fun e w' => e = .returned (rpV (readP NameM.isN l)) ∧ Below w.heap.size w w' := by
  have hl' : l.length ≤ 9223372036854775807 := by omega
  have hnew := rzero w
  have HB := Lib.hid ((Below.refl _ w).alloc (Nat.le_refl _) (rpthO 0 0 0 0 []))
  have hrl := bhd_length 47 l
  rcases which NameM.isN isN_nil l with h | h | h | h | ⟨h1, h2, h3, h4, hn⟩
  · -- log
    have S1 := Lib.hid (starts_yes logH l ⟨#[108, 111, 103, 47]⟩ rfl logH_47 (by decide) hl' h)
    have S2 := Lib.hid (starts_no stageH l ⟨#[115, 116, 97, 103, 101, 47]⟩ rfl stageH_47 (by decide) hl' (other h.1 (by decide)))
    have S3 := Lib.hid (starts_no pageH l ⟨#[112, 97, 103, 101, 47]⟩ rfl pageH_47 (by decide) hl' (other h.1 (by decide)))
    have S4 := Lib.hid (starts_no blobH l ⟨#[98, 108, 111, 98, 47]⟩ rfl blobH_47 (by decide) hl' (other h.1 (by decide)))
    have HR := Lib.hid (read_log (is := NameM.isN) h.1)
    have HA := Lib.hid (log_again (bhd 47 l) _ rfl)
    have HO := Lib.hid (log_none (bhd 47 l) _ rfl)
    have NR := Lib.hid (fun w => rnumber11_any (bhd 47 l) w (by omega))
    have HE := Lib.hid h.2
    have hb : -1 ≤ numD (bhd 47 l) ∧ numD (bhd 47 l) ≤ 9223372036854775807 := numD_bound _
    clear h
    generalize bhd 47 l = r at *
    generalize numD r = n at *
    by_cases hn0 : 0 < n
    · have d0 : decide (0 < n) = true := decide_eq_true hn0
      have HM := Lib.hid (fun w => rLog_any n w (by omega) hb.2)
      by_cases hm : logN n = logH ++ 47 :: r
      · have HP := Lib.hid (HA.out.1 ⟨hn0, hm⟩)
        have heq : ((str (logN n)).toList == (str l).toList) = true := by rw [str_beq, decide_eq_true_eq, hm]; exact HE.out.symm
        have HF := Lib.hid (show readP NameM.isN l = some ⟨1, n.toNat, 0, 0, []⟩ by rw [HR.out, HP.out])
        have HT := Lib.hid (show ((n.toNat : Nat) : Int) = n by omega)
        clear hm hn0 hb hl hl' hrl
        generalize logN n = m at *
        go_enter Try.func5, Try.ntmps5
        go_wp2_with (first
          | (go_at_call 14; with_reducible refine (S1.out _).mono ?_; rintro e w' ⟨rfl, rfl⟩)
          | (go_at_call 14; with_reducible refine (S2.out _).mono ?_; rintro e w' ⟨rfl, rfl⟩)
          | (go_at_call 14; with_reducible refine (S3.out _).mono ?_; rintro e w' ⟨rfl, rfl⟩)
          | (go_at_call 14; with_reducible refine (S4.out _).mono ?_; rintro e w' ⟨rfl, rfl⟩)
          | (go_at_call 15; with_reducible refine (number_nil _).mono ?_; rintro e w' ⟨rfl, rfl⟩)
          | (go_at_call 15; refine (NR.out _).mono ?_; rintro e w' ⟨rfl, rfl⟩)
          | (go_at_call 16; refine (HM.out _).mono ?_; rintro e w' ⟨rfl, rfl⟩)
          | (refine wpList_store_row rfl 34 _ _ rfl w.heap.size #[.int .i64 0, .int .i64 0, .int .u64 0, .int .u32 0, .string (str [])] rfl rfl _ _ hnew info_rpth rfl (rpth_one _ _ _ _ _) ?_))
        refine bodyPost_ret (res_ct rfl _ _ w.heap.size _ #[.int .i64 1, .int .i64 n, .int .u64 0, .int .u32 0, .string (str [])] _ _ rfl (heap_alloc_new w _) Try.underlying34 rfl info_rpth) rfl ?_
        refine ⟨?_, (Below.refl _ w).alloc (Nat.le_refl _) _⟩
        rw [HF.out]; unfold rpV rpthV; rw [pt_some]; simp only [HT.out]; rfl
      · have HP := Lib.hid (HO.out (fun x => hm x.2))
        have heq : ((str (logN n)).toList == (str l).toList) = false := by rw [str_beq, decide_eq_false_iff_not]; intro x; exact hm (x.trans HE.out)
        have HF := Lib.hid (show readP NameM.isN l = none by rw [HR.out, HP.out])
        clear hm hn0 hb hl hl' hrl
        generalize logN n = m at *
        go_enter Try.func5, Try.ntmps5
        go_wp2_with (first
          | (go_at_call 14; with_reducible refine (S1.out _).mono ?_; rintro e w' ⟨rfl, rfl⟩)
          | (go_at_call 14; with_reducible refine (S2.out _).mono ?_; rintro e w' ⟨rfl, rfl⟩)
          | (go_at_call 14; with_reducible refine (S3.out _).mono ?_; rintro e w' ⟨rfl, rfl⟩)
          | (go_at_call 14; with_reducible refine (S4.out _).mono ?_; rintro e w' ⟨rfl, rfl⟩)
          | (go_at_call 15; with_reducible refine (number_nil _).mono ?_; rintro e w' ⟨rfl, rfl⟩)
          | (go_at_call 15; refine (NR.out _).mono ?_; rintro e w' ⟨rfl, rfl⟩)
          | (go_at_call 16; refine (HM.out _).mono ?_; rintro e w' ⟨rfl, rfl⟩)
          | (refine wpList_store_row rfl 34 _ _ rfl w.heap.size #[.int .i64 0, .int .i64 0, .int .u64 0, .int .u32 0, .string (str [])] rfl rfl _ _ hnew info_rpth rfl (rpth_one _ _ _ _ _) ?_))
        refine bodyPost_ret (res_ct rfl _ _ w.heap.size _ #[.int .i64 0, .int .i64 0, .int .u64 0, .int .u32 0, .string (str [])] _ _ rfl (setRow_heap _ _ _ _ _ _ hnew) Try.underlying34 rfl info_rpth) rfl ?_
        exact ⟨by rw [HF.out]; rfl, below_setRow HB.out (Nat.le_refl _) _⟩
    · have d0 : decide (0 < n) = false := decide_eq_false hn0
      have HP := Lib.hid (HO.out (fun x => hn0 x.1))
      have HF := Lib.hid (show readP NameM.isN l = none by rw [HR.out, HP.out])
      clear hn0 hb hl hl' hrl
      go_enter Try.func5, Try.ntmps5
      go_wp2_with (first
        | (go_at_call 14; with_reducible refine (S1.out _).mono ?_; rintro e w' ⟨rfl, rfl⟩)
        | (go_at_call 14; with_reducible refine (S2.out _).mono ?_; rintro e w' ⟨rfl, rfl⟩)
        | (go_at_call 14; with_reducible refine (S3.out _).mono ?_; rintro e w' ⟨rfl, rfl⟩)
        | (go_at_call 14; with_reducible refine (S4.out _).mono ?_; rintro e w' ⟨rfl, rfl⟩)
        | (go_at_call 15; with_reducible refine (number_nil _).mono ?_; rintro e w' ⟨rfl, rfl⟩)
        | (go_at_call 15; refine (NR.out _).mono ?_; rintro e w' ⟨rfl, rfl⟩)
        | (refine wpList_store_row rfl 34 _ _ rfl w.heap.size #[.int .i64 0, .int .i64 0, .int .u64 0, .int .u32 0, .string (str [])] rfl rfl _ _ hnew info_rpth rfl (rpth_one _ _ _ _ _) ?_))
      refine bodyPost_ret (res_ct rfl _ _ w.heap.size _ #[.int .i64 0, .int .i64 0, .int .u64 0, .int .u32 0, .string (str [])] _ _ rfl (setRow_heap _ _ _ _ _ _ hnew) Try.underlying34 rfl info_rpth) rfl ?_
      exact ⟨by rw [HF.out]; rfl, below_setRow HB.out (Nat.le_refl _) _⟩
  · -- stage
    have S1 := Lib.hid (starts_no logH l ⟨#[108, 111, 103, 47]⟩ rfl logH_47 (by decide) hl' (other h.1 (by decide)))
    have S2 := Lib.hid (starts_yes stageH l ⟨#[115, 116, 97, 103, 101, 47]⟩ rfl stageH_47 (by decide) hl' h)
    have S3 := Lib.hid (starts_no pageH l ⟨#[112, 97, 103, 101, 47]⟩ rfl pageH_47 (by decide) hl' (other h.1 (by decide)))
    have S4 := Lib.hid (starts_no blobH l ⟨#[98, 108, 111, 98, 47]⟩ rfl blobH_47 (by decide) hl' (other h.1 (by decide)))
    have HR := Lib.hid (read_stage (is := NameM.isN) h.1)
    have HA := Lib.hid (stage_again (bhd 47 l) _ rfl)
    have HO := Lib.hid (stage_none (bhd 47 l) _ rfl)
    have NR := Lib.hid (fun w => rnumber11_any (bhd 47 l) w (by omega))
    have HE := Lib.hid h.2
    have hb : -1 ≤ numD (bhd 47 l) ∧ numD (bhd 47 l) ≤ 9223372036854775807 := numD_bound _
    clear h
    generalize bhd 47 l = r at *
    generalize numD r = n at *
    by_cases hn0 : 0 < n
    · have d0 : decide (0 < n) = true := decide_eq_true hn0
      have HM := Lib.hid (fun w => rStage_any n w (by omega) hb.2)
      by_cases hm : stageN n = stageH ++ 47 :: r
      · have HP := Lib.hid (HA.out.1 ⟨hn0, hm⟩)
        have heq : ((str (stageN n)).toList == (str l).toList) = true := by rw [str_beq, decide_eq_true_eq, hm]; exact HE.out.symm
        have HF := Lib.hid (show readP NameM.isN l = some ⟨4, n.toNat, 0, 0, []⟩ by rw [HR.out, HP.out])
        have HT := Lib.hid (show ((n.toNat : Nat) : Int) = n by omega)
        clear hm hn0 hb hl hl' hrl
        generalize stageN n = m at *
        go_enter Try.func5, Try.ntmps5
        go_wp2_with (first
          | (go_at_call 14; with_reducible refine (S1.out _).mono ?_; rintro e w' ⟨rfl, rfl⟩)
          | (go_at_call 14; with_reducible refine (S2.out _).mono ?_; rintro e w' ⟨rfl, rfl⟩)
          | (go_at_call 14; with_reducible refine (S3.out _).mono ?_; rintro e w' ⟨rfl, rfl⟩)
          | (go_at_call 14; with_reducible refine (S4.out _).mono ?_; rintro e w' ⟨rfl, rfl⟩)
          | (go_at_call 15; with_reducible refine (number_nil _).mono ?_; rintro e w' ⟨rfl, rfl⟩)
          | (go_at_call 15; refine (NR.out _).mono ?_; rintro e w' ⟨rfl, rfl⟩)
          | (go_at_call 17; refine (HM.out _).mono ?_; rintro e w' ⟨rfl, rfl⟩)
          | (refine wpList_store_row rfl 34 _ _ rfl w.heap.size #[.int .i64 0, .int .i64 0, .int .u64 0, .int .u32 0, .string (str [])] rfl rfl _ _ hnew info_rpth rfl (rpth_one _ _ _ _ _) ?_))
        refine bodyPost_ret (res_ct rfl _ _ w.heap.size _ #[.int .i64 4, .int .i64 n, .int .u64 0, .int .u32 0, .string (str [])] _ _ rfl (heap_alloc_new w _) Try.underlying34 rfl info_rpth) rfl ?_
        refine ⟨?_, (Below.refl _ w).alloc (Nat.le_refl _) _⟩
        rw [HF.out]; unfold rpV rpthV; rw [pt_some]; simp only [HT.out]; rfl
      · have HP := Lib.hid (HO.out (fun x => hm x.2))
        have heq : ((str (stageN n)).toList == (str l).toList) = false := by rw [str_beq, decide_eq_false_iff_not]; intro x; exact hm (x.trans HE.out)
        have HF := Lib.hid (show readP NameM.isN l = none by rw [HR.out, HP.out])
        clear hm hn0 hb hl hl' hrl
        generalize stageN n = m at *
        go_enter Try.func5, Try.ntmps5
        go_wp2_with (first
          | (go_at_call 14; with_reducible refine (S1.out _).mono ?_; rintro e w' ⟨rfl, rfl⟩)
          | (go_at_call 14; with_reducible refine (S2.out _).mono ?_; rintro e w' ⟨rfl, rfl⟩)
          | (go_at_call 14; with_reducible refine (S3.out _).mono ?_; rintro e w' ⟨rfl, rfl⟩)
          | (go_at_call 14; with_reducible refine (S4.out _).mono ?_; rintro e w' ⟨rfl, rfl⟩)
          | (go_at_call 15; with_reducible refine (number_nil _).mono ?_; rintro e w' ⟨rfl, rfl⟩)
          | (go_at_call 15; refine (NR.out _).mono ?_; rintro e w' ⟨rfl, rfl⟩)
          | (go_at_call 17; refine (HM.out _).mono ?_; rintro e w' ⟨rfl, rfl⟩)
          | (refine wpList_store_row rfl 34 _ _ rfl w.heap.size #[.int .i64 0, .int .i64 0, .int .u64 0, .int .u32 0, .string (str [])] rfl rfl _ _ hnew info_rpth rfl (rpth_one _ _ _ _ _) ?_))
        refine bodyPost_ret (res_ct rfl _ _ w.heap.size _ #[.int .i64 0, .int .i64 0, .int .u64 0, .int .u32 0, .string (str [])] _ _ rfl (setRow_heap _ _ _ _ _ _ hnew) Try.underlying34 rfl info_rpth) rfl ?_
        exact ⟨by rw [HF.out]; rfl, below_setRow HB.out (Nat.le_refl _) _⟩
    · have d0 : decide (0 < n) = false := decide_eq_false hn0
      have HP := Lib.hid (HO.out (fun x => hn0 x.1))
      have HF := Lib.hid (show readP NameM.isN l = none by rw [HR.out, HP.out])
      clear hn0 hb hl hl' hrl
      go_enter Try.func5, Try.ntmps5
      go_wp2_with (first
        | (go_at_call 14; with_reducible refine (S1.out _).mono ?_; rintro e w' ⟨rfl, rfl⟩)
        | (go_at_call 14; with_reducible refine (S2.out _).mono ?_; rintro e w' ⟨rfl, rfl⟩)
        | (go_at_call 14; with_reducible refine (S3.out _).mono ?_; rintro e w' ⟨rfl, rfl⟩)
        | (go_at_call 14; with_reducible refine (S4.out _).mono ?_; rintro e w' ⟨rfl, rfl⟩)
        | (go_at_call 15; with_reducible refine (number_nil _).mono ?_; rintro e w' ⟨rfl, rfl⟩)
        | (go_at_call 15; refine (NR.out _).mono ?_; rintro e w' ⟨rfl, rfl⟩)
        | (refine wpList_store_row rfl 34 _ _ rfl w.heap.size #[.int .i64 0, .int .i64 0, .int .u64 0, .int .u32 0, .string (str [])] rfl rfl _ _ hnew info_rpth rfl (rpth_one _ _ _ _ _) ?_))
      refine bodyPost_ret (res_ct rfl _ _ w.heap.size _ #[.int .i64 0, .int .i64 0, .int .u64 0, .int .u32 0, .string (str [])] _ _ rfl (setRow_heap _ _ _ _ _ _ hnew) Try.underlying34 rfl info_rpth) rfl ?_
      exact ⟨by rw [HF.out]; rfl, below_setRow HB.out (Nat.le_refl _) _⟩
  · -- page
    have S1 := Lib.hid (starts_no logH l ⟨#[108, 111, 103, 47]⟩ rfl logH_47 (by decide) hl' (other h.1 (by decide)))
    have S2 := Lib.hid (starts_no stageH l ⟨#[115, 116, 97, 103, 101, 47]⟩ rfl stageH_47 (by decide) hl' (other h.1 (by decide)))
    have S3 := Lib.hid (starts_yes pageH l ⟨#[112, 97, 103, 101, 47]⟩ rfl pageH_47 (by decide) hl' h)
    have S4 := Lib.hid (starts_no blobH l ⟨#[98, 108, 111, 98, 47]⟩ rfl blobH_47 (by decide) hl' (other h.1 (by decide)))
    have HR := Lib.hid (read_page (is := NameM.isN) h.1)
    have HI := Lib.hid (fun w => NameC.ris_any (bhd 47 l) w (by omega))
    clear h
    generalize bhd 47 l = r at *
    rcases Bool.eq_false_or_eq_true (NameM.isN r) with hi | hi
    · have HF := Lib.hid (show readP NameM.isN l = some ⟨3, 0, 0, 0, r⟩ by rw [HR.out]; unfold pageR; rw [hi]; rfl)
      rw [hi] at HI
      clear hi hl hl' hrl
      go_enter Try.func5, Try.ntmps5
      go_wp2_with (first
        | (go_at_call 14; with_reducible refine (S1.out _).mono ?_; rintro e w' ⟨rfl, rfl⟩)
        | (go_at_call 14; with_reducible refine (S2.out _).mono ?_; rintro e w' ⟨rfl, rfl⟩)
        | (go_at_call 14; with_reducible refine (S3.out _).mono ?_; rintro e w' ⟨rfl, rfl⟩)
        | (go_at_call 14; with_reducible refine (S4.out _).mono ?_; rintro e w' ⟨rfl, rfl⟩)
        | (go_at_call 15; with_reducible refine (number_nil _).mono ?_; rintro e w' ⟨rfl, rfl⟩)
        | (go_at_call 18; refine (HI.out _).mono ?_; rintro e w2 ⟨rfl, hb⟩; have hrow := (hb.block w.heap.size (by simp)).trans hnew; have HB2 := Lib.hid (HB.out.trans (hb.mono (by simp))); have HS2 := Lib.hid hb.size; clear hb; obtain ⟨q0, q1, q2, q3, q4⟩ := rpth_cells hrow; have f0 := cells_frozen hrow 0; have f1 := cells_frozen hrow 1; have f2 := cells_frozen hrow 2; have f3 := cells_frozen hrow 3; have f4 := cells_frozen hrow 4)
        | (refine wpList_store_row rfl 34 _ _ rfl w.heap.size #[.int .i64 0, .int .i64 0, .int .u64 0, .int .u32 0, .string (str [])] rfl rfl _ _ hrow info_rpth rfl (rpth_one _ _ _ _ _) ?_))
      refine bodyPost_ret (res_ct rfl _ _ w.heap.size _ #[.int .i64 3, .int .i64 0, .int .u64 0, .int .u32 0, .string (str r)] _ _ rfl (setCell_rowp (setCell_rowp (setCell_rowp (setCell_rowp (setCell_rowp hrow 0 _) 1 _) 2 _) 3 _) 4 _) Try.underlying34 rfl info_rpth) rfl ?_
      exact ⟨by rw [HF.out]; rfl, ((((HB2.out.setCell (Nat.le_refl _) _).setCell (Nat.le_refl _) _).setCell (Nat.le_refl _) _).setCell (Nat.le_refl _) _).setCell (Nat.le_refl _) _⟩
    · have HF := Lib.hid (show readP NameM.isN l = none by rw [HR.out]; unfold pageR; rw [hi]; rfl)
      rw [hi] at HI
      clear hi hl hl' hrl
      go_enter Try.func5, Try.ntmps5
      go_wp2_with (first
        | (go_at_call 14; with_reducible refine (S1.out _).mono ?_; rintro e w' ⟨rfl, rfl⟩)
        | (go_at_call 14; with_reducible refine (S2.out _).mono ?_; rintro e w' ⟨rfl, rfl⟩)
        | (go_at_call 14; with_reducible refine (S3.out _).mono ?_; rintro e w' ⟨rfl, rfl⟩)
        | (go_at_call 14; with_reducible refine (S4.out _).mono ?_; rintro e w' ⟨rfl, rfl⟩)
        | (go_at_call 15; with_reducible refine (number_nil _).mono ?_; rintro e w' ⟨rfl, rfl⟩)
        | (go_at_call 18; refine (HI.out _).mono ?_; rintro e w2 ⟨rfl, hb⟩; have hrow := (hb.block w.heap.size (by simp)).trans hnew; have HB2 := Lib.hid (HB.out.trans (hb.mono (by simp))); have HS2 := Lib.hid hb.size; clear hb)
        | (refine wpList_store_row rfl 34 _ _ rfl w.heap.size #[.int .i64 0, .int .i64 0, .int .u64 0, .int .u32 0, .string (str [])] rfl rfl _ _ hrow info_rpth rfl (rpth_one _ _ _ _ _) ?_))
      refine bodyPost_ret (res_ct rfl _ _ w.heap.size _ #[.int .i64 0, .int .i64 0, .int .u64 0, .int .u32 0, .string (str [])] _ _ rfl (setRow_heap _ _ _ _ _ _ hrow) Try.underlying34 rfl info_rpth) rfl ?_
      exact ⟨by rw [HF.out]; rfl, below_setRow HB2.out (Nat.le_refl _) _⟩
  · -- blob
    have S1 := Lib.hid (starts_no logH l ⟨#[108, 111, 103, 47]⟩ rfl logH_47 (by decide) hl' (other h.1 (by decide)))
    have S2 := Lib.hid (starts_no stageH l ⟨#[115, 116, 97, 103, 101, 47]⟩ rfl stageH_47 (by decide) hl' (other h.1 (by decide)))
    have S3 := Lib.hid (starts_no pageH l ⟨#[112, 97, 103, 101, 47]⟩ rfl pageH_47 (by decide) hl' (other h.1 (by decide)))
    have S4 := Lib.hid (starts_yes blobH l ⟨#[98, 108, 111, 98, 47]⟩ rfl blobH_47 (by decide) hl' h)
    have HR := Lib.hid (read_blob (is := NameM.isN) h.1)
    have HE := Lib.hid h.2
    clear h
    generalize bhd 47 l = r at *
    have hsr := str_size r
    have HY := Lib.hid (fun s n (x : BlobD r s n) => blob_again x)
    have HNO := Lib.hid (fun (x : ∀ s n, ¬ BlobD r s n) => (show readP NameM.isN l = none by
      rw [HR.out]
      cases e : blobR r with
      | none => rfl
      | some p => obtain ⟨s, n, -, y⟩ := blob_some e; exact absurd y (x s n)))
    by_cases h17 : 17 < r.length
    · have d17 : decide (17 < (r.length : Int)) = true := decide_eq_true (by omega)
      have c1 := fun w => sl_to r 16 16 rfl (by omega) w
      have c2 := fun w => sl_from r 17 17 rfl (by omega) w
      have RD : Hid (∀ w, Calls Try.prog 19 #[.string (str (r.take 16))] w fun e w' => e = .returned (.tuple #[.int .u64 (SumM.readN (r.take 16)), .int .i64 (SumM.readE (r.take 16))]) ∧ w = w') := Lib.hid (fun w => SumC.rread_any (str (r.take 16)) w (by rw [str_size, List.length_take]; unfold maxLen; omega))
      have NR := Lib.hid (fun w => rnumber11_any (r.drop 17) w (by rw [List.length_drop]; omega))
      have hb : -1 ≤ numD (r.drop 17) ∧ numD (r.drop 17) ≤ 9223372036854775807 := numD_bound _
      have HNO2 := Lib.hid (fun (x : ∀ s, SumM.read (r.take 16) = some s → 0 < numD (r.drop 17) → numD (r.drop 17) < 4294967296 → ¬ blobN s.toNat (numD (r.drop 17)).toNat = blobH ++ 47 :: r) => HNO.out (fun s n y => x s y.2.1 (by rw [y.2.2.1]; exact y.2.2.2.1) (by rw [y.2.2.1]; exact y.2.2.2.2.1) (by rw [y.2.2.1]; exact y.2.2.2.2.2)))
      have HYES := Lib.hid (fun s (y1 : SumM.read (r.take 16) = some s) (y2 : 0 < numD (r.drop 17)) (y3 : numD (r.drop 17) < 4294967296) (y4 : blobN s.toNat (numD (r.drop 17)).toNat = blobH ++ 47 :: r) => (show readP NameM.isN l = _ from HR.out.trans (HY.out s _ ⟨h17, y1, rfl, y2, y3, y4⟩)))
      generalize r.drop 17 = q at *
      generalize numD q = n at *
      cases hrd : SumM.read (r.take 16) with
      | none =>
        have HF := Lib.hid (HNO2.out (fun s y => by rw [hrd] at y; cases y))
        have er : SumM.readE (r.take 16) = 10 := by unfold SumM.readE; rw [hrd]; rfl
        rw [er] at RD
        clear hrd er HNO2 HYES HNO HY h17 hl hl' hrl hb
        generalize r.take 16 = q0 at *
        go_enter Try.func5, Try.ntmps5
        go_wp2_with (first
          | (go_at_call 14; with_reducible refine (S1.out _).mono ?_; rintro e w' ⟨rfl, rfl⟩)
          | (go_at_call 14; with_reducible refine (S2.out _).mono ?_; rintro e w' ⟨rfl, rfl⟩)
          | (go_at_call 14; with_reducible refine (S3.out _).mono ?_; rintro e w' ⟨rfl, rfl⟩)
          | (go_at_call 14; with_reducible refine (S4.out _).mono ?_; rintro e w' ⟨rfl, rfl⟩)
          | (go_at_call 15; with_reducible refine (number_nil _).mono ?_; rintro e w' ⟨rfl, rfl⟩)
          | (go_at_call 19; refine (RD.out _).mono ?_; rintro e w' ⟨rfl, rfl⟩)
          | (go_at_call 15; refine (NR.out _).mono ?_; rintro e w' ⟨rfl, rfl⟩)
          | (refine wpList_store_row rfl 34 _ _ rfl w.heap.size #[.int .i64 0, .int .i64 0, .int .u64 0, .int .u32 0, .string (str [])] rfl rfl _ _ hnew info_rpth rfl (rpth_one _ _ _ _ _) ?_))
        refine bodyPost_ret (res_ct rfl _ _ w.heap.size _ #[.int .i64 0, .int .i64 0, .int .u64 0, .int .u32 0, .string (str [])] _ _ rfl (setRow_heap _ _ _ _ _ _ hnew) Try.underlying34 rfl info_rpth) rfl ?_
        exact ⟨by rw [HF.out]; rfl, below_setRow HB.out (Nat.le_refl _) _⟩
      | some s =>
        obtain ⟨-, s0, s1, -⟩ := read_back hrd
        have er : SumM.readE (r.take 16) = 0 := by unfold SumM.readE; rw [hrd]; rfl
        have en : SumM.readN (r.take 16) = s := by unfold SumM.readN; rw [hrd]; rfl
        rw [er, en] at RD
        rw [hrd] at HNO2 HYES
        clear er en hrd HNO HY
        generalize r.take 16 = q0 at *
        by_cases hn0 : 0 < n
        · have d0 : decide (0 < n) = true := decide_eq_true hn0
          by_cases hn1 : n < 4294967296
          · have d1 : decide (n < 4294967296) = true := decide_eq_true hn1
            obtain ⟨s, rfl⟩ : ∃ m : Nat, s = m := ⟨s.toNat, by omega⟩
            obtain ⟨n, rfl⟩ : ∃ m : Nat, n = m := ⟨n.toNat, by omega⟩
            have hcv : IntKind.u32.wrap (n : Int) = (n : Int) := by rw [IntKind.wrap_u32]; omega
            have hcv2 : (n : Int) % 4294967296 = (n : Int) := by omega
            have hcv3 : n % 4294967296 = n := Nat.mod_eq_of_lt (by omega)
            have d1' : decide (n < 4294967296) = true := decide_eq_true (by omega)
            have d0' : decide (0 < n) = true := decide_eq_true (by omega)
            have HM := Lib.hid (fun w => rBlob_any s n w (by omega) (by omega))
            have HNO3 := Lib.hid (fun (x : ¬ blobN s n = blobH ++ 47 :: r) => HNO2.out (fun z y _ _ => by cases y; exact x))
            have HYES3 := Lib.hid (fun (x : blobN s n = blobH ++ 47 :: r) => HYES.out _ rfl hn0 hn1 x)
            clear HNO2 HYES
            by_cases hm : blobN s n = blobH ++ 47 :: r
            · have heq : ((str (blobN s n)).toList == (str l).toList) = true := by rw [str_beq, decide_eq_true_eq, hm]; exact HE.out.symm
              have HF := Lib.hid (HYES3.out hm)
              clear hm hn0 hn1 hb hl hl' hrl h17 s0 s1 HNO3 HYES3
              generalize blobN s n = m at *
              go_enter Try.func5, Try.ntmps5
              go_wp2_with (first
                | (go_at_call 14; with_reducible refine (S1.out _).mono ?_; rintro e w' ⟨rfl, rfl⟩)
                | (go_at_call 14; with_reducible refine (S2.out _).mono ?_; rintro e w' ⟨rfl, rfl⟩)
                | (go_at_call 14; with_reducible refine (S3.out _).mono ?_; rintro e w' ⟨rfl, rfl⟩)
                | (go_at_call 14; with_reducible refine (S4.out _).mono ?_; rintro e w' ⟨rfl, rfl⟩)
                | (go_at_call 15; with_reducible refine (number_nil _).mono ?_; rintro e w' ⟨rfl, rfl⟩)
                | (go_at_call 19; refine (RD.out _).mono ?_; rintro e w' ⟨rfl, rfl⟩)
                | (go_at_call 15; refine (NR.out _).mono ?_; rintro e w' ⟨rfl, rfl⟩)
                | (go_at_call 20; refine (HM.out _).mono ?_; rintro e w' ⟨rfl, rfl⟩)
                | (refine wpList_store_row rfl 34 _ _ rfl w.heap.size #[.int .i64 0, .int .i64 0, .int .u64 0, .int .u32 0, .string (str [])] rfl rfl _ _ hnew info_rpth rfl (rpth_one _ _ _ _ _) ?_))
              refine bodyPost_ret (res_ct rfl _ _ w.heap.size _ #[.int .i64 2, .int .i64 0, .int .u64 s, .int .u32 n, .string (str [])] _ _ rfl (heap_alloc_new w _) Try.underlying34 rfl info_rpth) rfl ?_
              exact ⟨by rw [HF.out]; rfl, (Below.refl _ w).alloc (Nat.le_refl _) _⟩
            · have heq : ((str (blobN s n)).toList == (str l).toList) = false := by rw [str_beq, decide_eq_false_iff_not]; intro x; exact hm (x.trans HE.out)
              have HF := Lib.hid (HNO3.out hm)
              clear hm hn0 hn1 hb hl hl' hrl h17 s0 s1 HNO3 HYES3
              generalize blobN s n = m at *
              go_enter Try.func5, Try.ntmps5
              go_wp2_with (first
                | (go_at_call 14; with_reducible refine (S1.out _).mono ?_; rintro e w' ⟨rfl, rfl⟩)
                | (go_at_call 14; with_reducible refine (S2.out _).mono ?_; rintro e w' ⟨rfl, rfl⟩)
                | (go_at_call 14; with_reducible refine (S3.out _).mono ?_; rintro e w' ⟨rfl, rfl⟩)
                | (go_at_call 14; with_reducible refine (S4.out _).mono ?_; rintro e w' ⟨rfl, rfl⟩)
                | (go_at_call 15; with_reducible refine (number_nil _).mono ?_; rintro e w' ⟨rfl, rfl⟩)
                | (go_at_call 19; refine (RD.out _).mono ?_; rintro e w' ⟨rfl, rfl⟩)
                | (go_at_call 15; refine (NR.out _).mono ?_; rintro e w' ⟨rfl, rfl⟩)
                | (go_at_call 20; refine (HM.out _).mono ?_; rintro e w' ⟨rfl, rfl⟩)
                | (refine wpList_store_row rfl 34 _ _ rfl w.heap.size #[.int .i64 0, .int .i64 0, .int .u64 0, .int .u32 0, .string (str [])] rfl rfl _ _ hnew info_rpth rfl (rpth_one _ _ _ _ _) ?_))
              refine bodyPost_ret (res_ct rfl _ _ w.heap.size _ #[.int .i64 0, .int .i64 0, .int .u64 0, .int .u32 0, .string (str [])] _ _ rfl (setRow_heap _ _ _ _ _ _ hnew) Try.underlying34 rfl info_rpth) rfl ?_
              exact ⟨by rw [HF.out]; rfl, below_setRow HB.out (Nat.le_refl _) _⟩
          · have d1 : decide (n < 4294967296) = false := decide_eq_false hn1
            have HF := Lib.hid (HNO2.out (fun _ _ _ x => absurd x hn1))
            clear HNO2 HYES hn0 hn1 hb hl hl' hrl h17 s0 s1
            go_enter Try.func5, Try.ntmps5
            go_wp2_with (first
              | (go_at_call 14; with_reducible refine (S1.out _).mono ?_; rintro e w' ⟨rfl, rfl⟩)
              | (go_at_call 14; with_reducible refine (S2.out _).mono ?_; rintro e w' ⟨rfl, rfl⟩)
              | (go_at_call 14; with_reducible refine (S3.out _).mono ?_; rintro e w' ⟨rfl, rfl⟩)
              | (go_at_call 14; with_reducible refine (S4.out _).mono ?_; rintro e w' ⟨rfl, rfl⟩)
              | (go_at_call 15; with_reducible refine (number_nil _).mono ?_; rintro e w' ⟨rfl, rfl⟩)
              | (go_at_call 19; refine (RD.out _).mono ?_; rintro e w' ⟨rfl, rfl⟩)
              | (go_at_call 15; refine (NR.out _).mono ?_; rintro e w' ⟨rfl, rfl⟩)
              | (refine wpList_store_row rfl 34 _ _ rfl w.heap.size #[.int .i64 0, .int .i64 0, .int .u64 0, .int .u32 0, .string (str [])] rfl rfl _ _ hnew info_rpth rfl (rpth_one _ _ _ _ _) ?_))
            refine bodyPost_ret (res_ct rfl _ _ w.heap.size _ #[.int .i64 0, .int .i64 0, .int .u64 0, .int .u32 0, .string (str [])] _ _ rfl (setRow_heap _ _ _ _ _ _ hnew) Try.underlying34 rfl info_rpth) rfl ?_
            exact ⟨by rw [HF.out]; rfl, below_setRow HB.out (Nat.le_refl _) _⟩
        · have d0 : decide (0 < n) = false := decide_eq_false hn0
          have HF := Lib.hid (HNO2.out (fun _ _ x _ => absurd x hn0))
          clear HNO2 HYES hn0 hb hl hl' hrl h17 s0 s1
          go_enter Try.func5, Try.ntmps5
          go_wp2_with (first
            | (go_at_call 14; with_reducible refine (S1.out _).mono ?_; rintro e w' ⟨rfl, rfl⟩)
            | (go_at_call 14; with_reducible refine (S2.out _).mono ?_; rintro e w' ⟨rfl, rfl⟩)
            | (go_at_call 14; with_reducible refine (S3.out _).mono ?_; rintro e w' ⟨rfl, rfl⟩)
            | (go_at_call 14; with_reducible refine (S4.out _).mono ?_; rintro e w' ⟨rfl, rfl⟩)
            | (go_at_call 15; with_reducible refine (number_nil _).mono ?_; rintro e w' ⟨rfl, rfl⟩)
            | (go_at_call 19; refine (RD.out _).mono ?_; rintro e w' ⟨rfl, rfl⟩)
            | (go_at_call 15; refine (NR.out _).mono ?_; rintro e w' ⟨rfl, rfl⟩)
            | (refine wpList_store_row rfl 34 _ _ rfl w.heap.size #[.int .i64 0, .int .i64 0, .int .u64 0, .int .u32 0, .string (str [])] rfl rfl _ _ hnew info_rpth rfl (rpth_one _ _ _ _ _) ?_))
          refine bodyPost_ret (res_ct rfl _ _ w.heap.size _ #[.int .i64 0, .int .i64 0, .int .u64 0, .int .u32 0, .string (str [])] _ _ rfl (setRow_heap _ _ _ _ _ _ hnew) Try.underlying34 rfl info_rpth) rfl ?_
          exact ⟨by rw [HF.out]; rfl, below_setRow HB.out (Nat.le_refl _) _⟩
    · have d17 : decide (17 < (r.length : Int)) = false := decide_eq_false (by omega)
      have HF := Lib.hid (HNO.out (fun s n y => h17 y.1))
      clear HNO HY h17 hl hl' hrl
      go_enter Try.func5, Try.ntmps5
      go_wp2_with (first
        | (go_at_call 14; with_reducible refine (S1.out _).mono ?_; rintro e w' ⟨rfl, rfl⟩)
        | (go_at_call 14; with_reducible refine (S2.out _).mono ?_; rintro e w' ⟨rfl, rfl⟩)
        | (go_at_call 14; with_reducible refine (S3.out _).mono ?_; rintro e w' ⟨rfl, rfl⟩)
        | (go_at_call 14; with_reducible refine (S4.out _).mono ?_; rintro e w' ⟨rfl, rfl⟩)
        | (go_at_call 15; with_reducible refine (number_nil _).mono ?_; rintro e w' ⟨rfl, rfl⟩)
        | (refine wpList_store_row rfl 34 _ _ rfl w.heap.size #[.int .i64 0, .int .i64 0, .int .u64 0, .int .u32 0, .string (str [])] rfl rfl _ _ hnew info_rpth rfl (rpth_one _ _ _ _ _) ?_))
      refine bodyPost_ret (res_ct rfl _ _ w.heap.size _ #[.int .i64 0, .int .i64 0, .int .u64 0, .int .u32 0, .string (str [])] _ _ rfl (setRow_heap _ _ _ _ _ _ hnew) Try.underlying34 rfl info_rpth) rfl ?_
      exact ⟨by rw [HF.out]; rfl, below_setRow HB.out (Nat.le_refl _) _⟩
  · -- none
    have S1 := Lib.hid (starts_no logH l ⟨#[108, 111, 103, 47]⟩ rfl logH_47 (by decide) hl' h1)
    have S2 := Lib.hid (starts_no stageH l ⟨#[115, 116, 97, 103, 101, 47]⟩ rfl stageH_47 (by decide) hl' h2)
    have S3 := Lib.hid (starts_no pageH l ⟨#[112, 97, 103, 101, 47]⟩ rfl pageH_47 (by decide) hl' h3)
    have S4 := Lib.hid (starts_no blobH l ⟨#[98, 108, 111, 98, 47]⟩ rfl blobH_47 (by decide) hl' h4)
    clear h1 h2 h3 h4 hl hl' hrl
    have HF := Lib.hid hn
    clear hn
    go_enter Try.func5, Try.ntmps5
    go_wp2_with (first
      | (go_at_call 14; with_reducible refine (S1.out _).mono ?_; rintro e w' ⟨rfl, rfl⟩)
      | (go_at_call 14; with_reducible refine (S2.out _).mono ?_; rintro e w' ⟨rfl, rfl⟩)
      | (go_at_call 14; with_reducible refine (S3.out _).mono ?_; rintro e w' ⟨rfl, rfl⟩)
      | (go_at_call 14; with_reducible refine (S4.out _).mono ?_; rintro e w' ⟨rfl, rfl⟩)
      | (go_at_call 15; with_reducible refine (number_nil _).mono ?_; rintro e w' ⟨rfl, rfl⟩)
      | (refine wpList_store_row rfl 34 _ _ rfl w.heap.size #[.int .i64 0, .int .i64 0, .int .u64 0, .int .u32 0, .string (str [])] rfl rfl _ _ hnew info_rpth rfl (rpth_one _ _ _ _ _) ?_))
    refine bodyPost_ret (res_ct rfl _ _ w.heap.size _ #[.int .i64 0, .int .i64 0, .int .u64 0, .int .u32 0, .string (str [])] _ _ rfl (setRow_heap _ _ _ _ _ _ hnew) Try.underlying34 rfl info_rpth) rfl ?_
    exact ⟨by rw [HF.out]; rfl, below_setRow HB.out (Nat.le_refl _) _⟩
end PathC
end Go.Proofs.Ytkngdhchjofleaa
