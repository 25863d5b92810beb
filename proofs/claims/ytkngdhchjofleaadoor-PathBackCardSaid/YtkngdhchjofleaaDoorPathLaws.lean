/-
  The laws PathMakes and PathBack (layer 11), walked.
-/
import Derived.Test.YtkngdhchjofleaaDoorPathNames
import Derived.Test.YtkngdhchjofleaaDoorPathAlive
namespace Go.Proofs.YtkngdhchjofleaaDoor
open Go.RowKit
namespace PathC
open PathM StrC
open VerM (B val dig)
set_option linter.unusedSimpArgs false
set_option linter.unusedVariables false

theorem Below.next {w a b : World} (h : Below w.heap.size w a) (k : Below a.heap.size a b) : Below w.heap.size w b := h.trans (k.mono h.size)
set_option maxHeartbeats 2000000 in
theorem makes_any (n : Int) (sm part : Nat) (l : B) (w : World) (h0 : -9223372036854775808 ≤ n) (hn : n ≤ 9223372036854775807) (hs : sm < 18446744073709551616) (hp : part ≤ 4294967295) (hl : l.length ≤ 9223372036854775807) (hv : Tab w) :
    Calls Tryd.prog 3 #[.int .i64 n, .agg #[.int .u64 sm, .int .u32 part], .string (str l)] w fun e w' => e = .returned (.bool true) ∧ Below w.heap.size w w' := by
  have hnew := heap_alloc_new w (blobO sm part)
  have HB0 := Lib.hid ((Below.refl _ w).alloc (Nat.le_refl _) (blobO sm part))
  have HL := Lib.hid (fun w => pLog_any n w h0 hn)
  have HS := Lib.hid (fun w (h : Tab w) => pStage_any n w h0 hn h)
  have HBl := Lib.hid (fun w (h : Tab w) => pBlob_any sm part w hs hp h)
  have HP := Lib.hid (fun w => pPage_any l w hl)
  have RL := Lib.hid (fun w => rLog_any n w h0 hn)
  have RS := Lib.hid (fun w => rStage_any n w h0 hn)
  have RB := Lib.hid (fun w => rBlob_any sm part w hs hp)
  have RP := Lib.hid (fun w => rPage_any l w hl (fun h => isN_length h))
  have M1 := Lib.hid (fun w => made_yes (logN n) w)
  have M2 := Lib.hid (fun w => made_yes (stageN n) w)
  have M3 := Lib.hid (fun w => made_yes (blobN sm part) w)
  have M4 := Lib.hid (fun w => made_yes (pageN NameM.isN l) w)
  have HV := Lib.hid hv
  unfold mkE at HL HS HBl HP
  generalize errN (logN n) = e1 at *
  generalize errN (stageN n) = e2 at *
  generalize errN (blobN sm part) = e3 at *
  generalize errN (pageN NameM.isN l) = e4 at *
  generalize logN n = n1 at *
  generalize stageN n = n2 at *
  generalize blobN sm part = n3 at *
  generalize pageN NameM.isN l = n4 at *
  clear hv h0 hn hs hp hl
  obtain ⟨c0, c1⟩ := blob_cells hnew
  go_enter Tryd.func3, Tryd.ntmps3
  go_wp2_with (go_at_call 5; refine (HL.out _).mono ?_; rintro e wa ⟨rfl, hb⟩; have HBa := Lib.hid (Below.next HB0.out hb); have hra := (hb.block w.heap.size (by simp)).trans hnew; clear hb hnew c0 c1)
  go_wp2_with (go_at_call 6; refine (HS.out _ (HV.out.below HBa.out)).mono ?_; rintro e wb ⟨rfl, hb⟩; have hgb := (Array.getElem?_eq_some_iff.1 hra).1; have HBb := Lib.hid (Below.next HBa.out hb); have hrb := (hb.block w.heap.size hgb).trans hra; obtain ⟨c0, c1⟩ := blob_cells hrb; clear hb hra hgb)
  go_wp2_with (go_at_call 7; refine (HBl.out _ (HV.out.below HBb.out)).mono ?_; rintro e wc ⟨rfl, hb⟩; have hgc := (Array.getElem?_eq_some_iff.1 hrb).1; have HBc := Lib.hid (Below.next HBb.out hb); have hrc := (hb.block w.heap.size hgc).trans hrb; clear hb hrb hgc c0 c1)
  go_wp2_with (go_at_call 8; refine (HP.out _).mono ?_; rintro e wd ⟨rfl, hb⟩; have hgd := (Array.getElem?_eq_some_iff.1 hrc).1; have HBd := Lib.hid (Below.next HBc.out hb); have hrd := (hb.block w.heap.size hgd).trans hrc; obtain ⟨c0, c1⟩ := blob_cells hrd; clear hb hrc hgd)
  go_wp2_with (first
    | (go_at_call 10; refine (RL.out _).mono ?_; rintro e w' ⟨rfl, rfl⟩)
    | (go_at_call 11; refine (RS.out _).mono ?_; rintro e w' ⟨rfl, rfl⟩)
    | (go_at_call 12; refine (RB.out _).mono ?_; rintro e w' ⟨rfl, rfl⟩)
    | (go_at_call 13; refine (RP.out _).mono ?_; rintro e we ⟨rfl, hb⟩)
    | (go_at_call 9; with_reducible refine (M1.out _).mono ?_; rintro e w' ⟨rfl, rfl⟩)
    | (go_at_call 9; with_reducible refine (M2.out _).mono ?_; rintro e w' ⟨rfl, rfl⟩)
    | (go_at_call 9; with_reducible refine (M3.out _).mono ?_; rintro e w' ⟨rfl, rfl⟩)
    | (go_at_call 9; with_reducible refine (M4.out _).mono ?_; rintro e w' ⟨rfl, rfl⟩)
    | (go_at_call 14; refine (alive_any _).mono ?_; rintro e wf ⟨rfl, hb2⟩))
  go_ret
  exact ⟨rfl, Below.next (Below.next HBd.out hb) hb2⟩
end PathC
end Go.Proofs.YtkngdhchjofleaaDoor
