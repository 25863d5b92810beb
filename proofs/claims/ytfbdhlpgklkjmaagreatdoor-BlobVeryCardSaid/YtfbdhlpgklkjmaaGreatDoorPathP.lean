/-
  Package path's calls (layer 11) that both seats have: numbers, Cut at one byte, Read, Log: one contract a function.
-/
import Derived.Test.YtfbdhlpgklkjmaaGreatDoorPathDoc2
import Derived.Test.YtfbdhlpgklkjmaaGreatDoorPathLay
import Derived.Test.YtfbdhlpgklkjmaaGreatDoorNameP2
import Derived.Lib.SlBytesRow
namespace Go.Proofs.YtfbdhlpgklkjmaaGreatDoor
open Go.RowKit
namespace PathC
open PathM StrC
open VerM (B val dig)
set_option linter.unusedSimpArgs false
set_option linter.unusedVariables false

/-! ### strings.Cut at one byte -/
theorem index_at (d : UInt8) (l : B) : (Lib.indexByte l d = -1 ∧ ahd d l = l ∧ bhd d l = []) ∨ ∃ k : Nat, Lib.indexByte l d = (k : Int) ∧ k < l.length ∧ l.take k = ahd d l ∧ l.drop (k + 1) = bhd d l := by
  rcases VerM.firstAt d l with h | ⟨x, r, e, hx⟩
  · exact .inl ⟨by rw [← Lib.index_one]; exact VerM.index_none' h, (ahd_none h).1, (ahd_none h).2⟩
  · subst e
    refine .inr ⟨x.length, by rw [← Lib.index_one]; exact VerM.index_hit' r hx, by simp, ?_, ?_⟩
    · rw [(ahd_hit r hx).1]; simp
    · rw [(ahd_hit r hx).2, show x ++ d :: r = (x ++ [d]) ++ r by simp, List.drop_left' (by simp)]
theorem sl_two (l : B) (k : Nat) (h : k < l.length) (w : World) : (Instr.slice 9 (.string (str l)) (some (.int .i64 ((k : Int) + 1))) none none).run Tryz.prog w = .ok (.string (str (l.drop (k + 1)))) w := sl_from l _ (k + 1) (by omega) (by omega) w
set_option maxHeartbeats 1000000 in
theorem pcut_in (d : UInt8) (l : B) (w : World) (hl : l.length ≤ 9223372036854775807) :
    Calls Tryz.prog 76 #[.string (str l), .string ⟨#[d]⟩] w fun e w' => ∃ b, e = .returned (.tuple #[.string (str (ahd d l)), .string (str (bhd d l)), .bool b]) ∧ ∃ n, w' = w.drewN n := by
  have hs := str_size l
  have HI := Lib.hid (Tryz.stringslite_Index_one (str l) d w)
  rw [str_list] at HI
  rcases index_at d l with ⟨e1, e2, e3⟩ | ⟨k, e1, e2, e3, e4⟩
  · rw [e2, e3]
    rw [e1] at HI
    clear e1 e2 e3
    go_enter Tryz.func76, Tryz.ntmps76
    go_wp2_with (go_at_call 109; refine HI.out.mono ?_; rintro e w' ⟨rfl, rfl⟩)
    go_ret3
    exact ⟨_, rfl, 0, rfl⟩
  · rw [← e3, ← e4]
    rw [e1] at HI
    have c1 := fun w => sl_to l (k : Int) k rfl (by omega) w
    have c2 := fun w => sl_two l k e2 w
    have hk0 : (0 : Int) ≤ k := by omega
    have hd : decide (0 ≤ (k : Int)) = true := decide_eq_true hk0
    have HK := Lib.hid e2
    have hw : IntKind.i64.wrap ((k : Int) + 1) = (k : Int) + 1 := IntWalk.i64_in _ ⟨by omega, by omega⟩
    clear e1 e2 e3 e4
    generalize l.take k = A at *
    generalize l.drop (k + 1) = C at *
    go_enter Tryz.func76, Tryz.ntmps76
    go_wp2_with (go_at_call 109; refine HI.out.mono ?_; rintro e w' ⟨rfl, rfl⟩)
    go_region_o
    go_wp2
    go_ret3
    exact ⟨_, rfl, 1, rfl⟩
theorem pcut_one (d : UInt8) (l : B) (w : World) (hl : l.length ≤ 9223372036854775807) :
    Calls Tryz.prog 51 #[.string (str l), .string ⟨#[d]⟩] w fun e w' => ∃ b, e = .returned (.tuple #[.string (str (ahd d l)), .string (str (bhd d l)), .bool b]) ∧ ∃ n, w' = w.drewN n := by
  have H := Lib.hid (pcut_in d l w hl)
  generalize ahd d l = A at *
  generalize bhd d l = C at *
  go_enter Tryz.func51, Tryz.ntmps51
  go_wp2_with (go_at_call 76; refine H.out.mono ?_; rintro e w' ⟨b, rfl, n, rfl⟩)
  go_ret3
  exact ⟨_, rfl, n, rfl⟩

/-! ### numbers -/
/-- digits that say a number from 1 to a bound -/
def numM (most : Nat) (l : B) : Option Nat := if l.all dig = true ∧ 1 ≤ val l ∧ val l ≤ most then some (val l) else none
def numE (most : Nat) (l : B) : Ending := .returned (.tuple #[.int .u64 (((numM most l).getD 0 : Nat) : Int), .bool (numM most l).isSome])
theorem numE_none {most : Nat} {l : B} (h : ¬ (l.all dig = true ∧ 1 ≤ val l ∧ val l ≤ most)) : numE most l = .returned (.tuple #[.int .u64 0, .bool false]) := by unfold numE numM; rw [if_neg h]; rfl
theorem numE_some {most : Nat} {l : B} (h : l.all dig = true ∧ 1 ≤ val l ∧ val l ≤ most) : numE most l = .returned (.tuple #[.int .u64 ((val l : Nat) : Int), .bool true]) := by unfold numE numM; rw [if_pos h]; rfl
theorem numE_end {most : Nat} {l : B} (h : l.all dig = true) (h2 : val l ≤ most) : numE most l = .returned (.tuple #[.int .u64 ((val l : Nat) : Int), .bool (decide (0 < val l))]) := by
  by_cases h0 : 1 ≤ val l
  · rw [numE_some ⟨h, h0, h2⟩, decide_eq_true (by omega)]
  · rw [numE_none (fun x => h0 x.2.1), decide_eq_false (by omega), show val l = 0 by omega]; rfl
set_option maxHeartbeats 1000000 in
theorem pnumber_any (most : Nat) (l : B) (w : World) (hl : l.length ≤ 9223372036854775807) (hm : most ≤ 4294967295) :
    Calls Tryz.prog 77 #[.string (str l), .int .u64 most] w fun e w' => e = numE most l ∧ w = w' := by
  have hs := str_size l
  have HX := Lib.hid (fun a (h : a < l.length) => idx_any l a a rfl h)
  have HS := Lib.hid (fun k (h : k < l.length) => VerC.val_take l k h)
  have HD := Lib.hid (fun k (h : k < l.length) => all_dig_take (l := l) h)
  have HN := Lib.hid (fun k (h : (l.take k).all dig = false) => numE_none (most := most) (l := l) (fun x => by rw [VerC.all_not dig l k h] at x; cases x.1))
  have HN2 := Lib.hid (fun k (h : most < val (l.take k)) => numE_none (most := most) (l := l) (fun x => by have := val_take_le l k; omega))
  have HE := Lib.hid (fun (h : (l.take l.length).all dig = true) (h2 : val (l.take l.length) ≤ most) => (numE_end (most := most) (l := l) (by rw [List.take_length] at h; exact h) (by rw [List.take_length] at h2; exact h2)))
  have HV := Lib.hid (show val (l.take l.length) = val l by rw [List.take_length])
  generalize numE most l = RE at *
  go_enter Tryz.func77, Tryz.ntmps77
  go_wp2_with fail
  go_loop [6, 11] (fun n i => ∃ k : Nat, k ≤ l.length ∧ i = .int .i64 k ∧ n = .int .u64 ((val (l.take k) : Nat) : Int) ∧ Hid ((l.take k).all dig = true) ∧ Hid (val (l.take k) ≤ most)) (fun _ i => l.length - (intOf i).toNat)
  case atStart => exact ⟨0, Nat.zero_le _, rfl, rfl, Lib.hid rfl, Lib.hid (Nat.zero_le _)⟩
  case round =>
    obtain ⟨k, hk, rfl, rfl, HA, HM⟩ := hrel
    by_cases hlt : k < l.length
    · have hdec : decide (k < l.length) = true := by simpa using hlt
      have hx := HX.out k hlt
      have hn := Lib.hid (HS.out k hlt)
      have ha := Lib.hid (HD.out k hlt)
      have hno := Lib.hid (HN.out (k + 1))
      have hno2 := Lib.hid (HN2.out (k + 1))
      have hv := HM.out
      generalize l.getD k 0 = c at *
      generalize val (l.take k) = v at *
      have hc := c.toNat_lt
      by_cases h1 : c.toNat < 48
      · have H := Lib.hid (hno.out (by rw [ha.out, dig_iff]; simp; omega))
        have d1 : decide ((c.toNat : Int) < 48) = true := decide_eq_true (by omega)
        have d1' : decide (c.toNat < 48) = true := decide_eq_true h1
        clear hno hno2
        go_wp2_with fail
        go_ret2
        exact ⟨by rw [H.out]; rfl, rfl⟩
      have d1 : decide ((c.toNat : Int) < 48) = false := decide_eq_false (by omega)
      have d1' : decide (c.toNat < 48) = false := decide_eq_false h1
      by_cases h2 : 57 < c.toNat
      · have H := Lib.hid (hno.out (by rw [ha.out, dig_iff]; simp; omega))
        have d2 : decide (57 < (c.toNat : Int)) = true := decide_eq_true (by omega)
        have d2' : decide (57 < c.toNat) = true := decide_eq_true h2
        clear hno hno2 h1
        go_wp2_with fail
        go_ret2
        exact ⟨by rw [H.out]; rfl, rfl⟩
      have d2 : decide (57 < (c.toNat : Int)) = false := decide_eq_false (by omega)
      have d2' : decide (57 < c.toNat) = false := decide_eq_false h2
      have H := Lib.hid (show (l.take (k + 1)).all dig = true by rw [ha.out, HA.out, dig_iff]; simp; omega)
      obtain ⟨q, hq⟩ : ∃ q : Nat, q = c.toNat - 48 := ⟨_, rfl⟩
      have e1 : IntKind.u8.wrap ((c.toNat : Int) - 48) = (q : Int) := by rw [IntWalk.u8_in _ ⟨by omega, by omega⟩]; omega
      have hq9 : q ≤ 9 := by omega
      rw [← hq] at hn
      have e2 : IntKind.u64.wrap ((v : Int) * 10) = ((10 * v : Nat) : Int) := by rw [IntWalk.u64_in _ ⟨by omega, by omega⟩]; omega
      obtain ⟨z, hz⟩ : ∃ z : Nat, z = 10 * v := ⟨_, rfl⟩
      have hzb : z ≤ 42949672950 := by omega
      rw [← hz] at e2 hn
      obtain ⟨y, hy⟩ : ∃ y : Nat, y = z + q := ⟨_, rfl⟩
      rw [← hy] at hn
      have e3 : IntKind.u64.wrap ((z : Int) + (q : Int)) = (y : Int) := by rw [IntWalk.u64_in _ ⟨by omega, by omega⟩]; omega
      have e4 : IntKind.u64.wrap (q : Int) = (q : Int) := by rw [IntWalk.u64_in _ ⟨by omega, by omega⟩]
      have HH := Lib.hid (show k + 1 ≤ l.length by omega)
      clear hno ha hq hz hy h1 h2
      by_cases hov : most < y
      · have H2 := Lib.hid (hno2.out (by rw [hn.out]; exact hov))
        have d3 : decide ((most : Int) < (y : Int)) = true := decide_eq_true (by omega)
        have d3' : decide (most < y) = true := decide_eq_true hov
        clear hno2
        go_wp2_with fail
        go_ret2
        exact ⟨by rw [H2.out]; rfl, rfl⟩
      · have d3 : decide ((most : Int) < (y : Int)) = false := decide_eq_false (by omega)
        have d3' : decide (most < y) = false := decide_eq_false hov
        have HY := Lib.hid (show val (l.take (k + 1)) ≤ most by rw [hn.out]; omega)
        clear hno2 hov
        go_wp2_with fail
        go_round
        case rel => exact ⟨k + 1, HH.out, by go_num, by rw [hn.out], H, HY⟩
        case measure => simp [intOf]; have := HH.out; omega
    · have hdec : decide (k < l.length) = false := by simpa using hlt
      have hke : k = l.length := by omega
      subst hke
      have H := Lib.hid (HE.out HA.out HM.out)
      rw [HV.out]
      have hv : val l ≤ 4294967295 := by have := HM.out; rw [HV.out] at this; omega
      generalize val l = v at *
      clear hlt
      go_wp2_with fail
      go_ret2
      exact ⟨by rw [H.out]; first | rfl | simp, rfl⟩
theorem plain_numM (most : Nat) (l : B) : plain most l = if (l.getD 0 0).toNat = 48 then none else numM most l := by
  unfold plain numM
  by_cases h : (l.getD 0 0).toNat = 48
  · rw [if_pos h, if_neg (fun x => x.2.1 h)]
  · rw [if_neg h]
    by_cases h2 : l.all dig = true ∧ 1 ≤ val l ∧ val l ≤ most
    · rw [if_pos h2, if_pos ⟨h2.1, h, h2.2⟩]
    · rw [if_neg h2, if_neg (fun x => h2 ⟨x.1, x.2.2⟩)]
theorem pre_48 (l : B) : Lib.hasPrefix l [48] = decide ((l.getD 0 0).toNat = 48) := by
  unfold Lib.hasPrefix
  cases l with
  | nil => rfl
  | cons c r =>
    show (([48] : B).isPrefixOf (c :: r)) = decide (c.toNat = 48)
    rw [Bool.eq_iff_iff, decide_eq_true_eq]
    simp only [List.isPrefixOf, Bool.and_true, beq_iff_eq]
    constructor
    · intro h; rw [← h]; rfl
    · intro h; exact (UInt8.toNat_inj.1 h).symm
def plE (most : Nat) (l : B) : Ending := .returned (.tuple #[.int .u64 (((plain most l).getD 0 : Nat) : Int), .bool (plain most l).isSome])
theorem pplain_any (most : Nat) (l : B) (w : World) (hl : l.length ≤ 9223372036854775807) (hm : most ≤ 4294967295) :
    Calls Tryz.prog 79 #[.string (str l), .int .u64 most] w fun e w' => e = plE most l ∧ w = w' := by
  have HP := Lib.hid (Tryz.strings_HasPrefix (str l) ⟨#[48]⟩ w)
  rw [str_list, show (⟨#[48]⟩ : ByteArray).data.toList = [48] from rfl, pre_48] at HP
  have HN := Lib.hid (fun w => pnumber_any most l w hl hm)
  by_cases h : (l.getD 0 0).toNat = 48
  · have H := Lib.hid (show plE most l = .returned (.tuple #[.int .u64 0, .bool false]) by unfold plE; rw [plain_numM, if_pos h]; rfl)
    rw [decide_eq_true h] at HP
    clear h
    go_enter Tryz.func79, Tryz.ntmps79
    go_wp2_with (go_at_call 111; refine HP.out.mono ?_; rintro e w' ⟨rfl, rfl⟩)
    go_ret2
    exact ⟨by rw [H.out]; rfl, rfl⟩
  · have H := Lib.hid (show plE most l = .returned (.tuple #[.int .u64 (((numM most l).getD 0 : Nat) : Int), .bool (numM most l).isSome]) by unfold plE; rw [plain_numM, if_neg h])
    rw [decide_eq_false h] at HP
    unfold numE at HN
    generalize (((numM most l).getD 0 : Nat) : Int) = n at *
    generalize (numM most l).isSome = b at *
    clear h
    go_enter Tryz.func79, Tryz.ntmps79
    go_wp2_with (first
      | (go_at_call 111; refine HP.out.mono ?_; rintro e w' ⟨rfl, rfl⟩)
      | (go_at_call 77; refine (HN.out _).mono ?_; rintro e w' ⟨rfl, rfl⟩))
    go_ret2
    exact ⟨by rw [H.out]; rfl, rfl⟩

/-! ### what a name says, by kinds -/
theorem below_drewN {B : Nat} {w w' : World} (h : Below B w w') (n : Nat) : Below B w (w'.drewN n) := ⟨h.os, h.tape, h.output, h.size, h.block⟩
abbrev pthV (k n s p : Int) (nm : B) : Value := .agg #[.int .u8 k, .int .i64 n, .int .u64 s, .int .u32 p, .string (str nm)]
abbrev pthO (k n s p : Int) (nm : B) : Obj := .cells #[.int .u8 k, .int .i64 n, .int .u64 s, .int .u32 p, .string (str nm)] 75
theorem info_pth : (Tryz.prog.info? 75).map (·.size) = some 5 := by kernel_rfl
theorem pth_one (k n s p : Int) (nm : B) : (#[Value.int .u8 k, .int .i64 n, .int .u64 s, .int .u32 p, .string (str nm)].all (·.oneCell')) = true := by simp [Value.oneCell']
def ppV (o : Option Pth) : Value := .tuple #[pthV (pt o).kind (pt o).n (pt o).sum (pt o).part (pt o).name, .int .i64 (er o)]
theorem pzero (w : World) : (w.alloc (pthO 0 0 0 0 [])).heap[w.heap.size]? = some (pthO 0 0 0 0 []) := heap_alloc_new w _
theorem pth_cells {w : World} {g : Nat} {k n s p : Int} {nm : B} (h : w.heap[g]? = some (pthO k n s p nm)) :
    w.cell? ⟨g, 0, none⟩ = some (.int .u8 k) ∧ w.cell? ⟨g, 1, none⟩ = some (.int .i64 n) ∧ w.cell? ⟨g, 2, none⟩ = some (.int .u64 s) ∧ w.cell? ⟨g, 3, none⟩ = some (.int .u32 p) ∧ w.cell? ⟨g, 4, none⟩ = some (.string (str nm)) := by
  refine ⟨?_, ?_, ?_, ?_, ?_⟩ <;> simp [World.cell?, h]
/-- what the program's number says of a log's file -/
theorem logR_num (r : B) (h : r.length = 8) : logR r = (numM 99999999 r).map fun n => ⟨1, n, 0, 0, []⟩ := by
  unfold logR numM
  by_cases h2 : r.all dig = true ∧ 1 ≤ val r
  · have hlt := VerC.val_lt r h2.1
    rw [h] at hlt
    have hlt' : val r < 100000000 := by simpa using hlt
    rw [if_pos ⟨h, h2.1, h2.2⟩, if_pos ⟨h2.1, h2.2, by omega⟩]; rfl
  · rw [if_neg (fun x => h2 ⟨x.2.1, x.2.2⟩), if_neg (fun x => h2 ⟨x.1, x.2.1⟩)]; rfl
theorem stageR_num (r : B) : stageR r = (plain 2147483647 r).map fun n => ⟨4, n, 0, 0, []⟩ := by unfold stageR; cases plain 2147483647 r <;> rfl
theorem numM_le {most : Nat} {r : B} {n : Nat} (h : numM most r = some n) : n ≤ most := by unfold numM at h; split at h <;> simp at h; omega
theorem plain_le {most : Nat} {r : B} {n : Nat} (h : plain most r = some n) : n ≤ most := (plain_iff.1 h).2.2
set_option maxHeartbeats 1000000 in
theorem preadLog_any (r : B) (w : World) (hl : r.length ≤ 9223372036854775807) :
    Calls Tryz.prog 52 #[.string (str r)] w fun e w' => e = .returned (ppV (logR r)) ∧ Below w.heap.size w w' := by
  have hs := str_size r
  have hnew := pzero w
  have HB := Lib.hid ((Below.refl _ w).alloc (Nat.le_refl _) (pthO 0 0 0 0 []))
  by_cases h8 : r.length = 8
  · have hd : ((r.length : Int) != 8) = false := by rw [h8]; rfl
    have hd2 : ((r.length : Int) == 8) = true := by rw [h8]; rfl
    have HR := Lib.hid (logR_num r h8)
    have HN := Lib.hid (fun w => pnumber_any 99999999 r w (by omega) (by omega))
    unfold numE at HN
    have HL := Lib.hid (fun n (h : numM 99999999 r = some n) => numM_le h)
    have H8 := Lib.hid h8
    clear h8 hl
    generalize numM 99999999 r = o at *
    cases o with
    | none =>
      simp only [Option.getD_none, Option.isSome_none] at HN
      go_enter Tryz.func52, Tryz.ntmps52
      go_wp2_with (first
        | (go_at_call 77; refine (HN.out _).mono ?_; rintro e w' ⟨rfl, rfl⟩)
        | (refine wpList_store_row rfl 75 _ _ rfl w.heap.size #[.int .u8 0, .int .i64 0, .int .u64 0, .int .u32 0, .string (str [])] rfl rfl _ _ hnew info_pth rfl (pth_one _ _ _ _ _) ?_))
      refine bodyPost_ret (res_ct rfl _ _ w.heap.size _ #[.int .u8 0, .int .i64 0, .int .u64 0, .int .u32 0, .string (str [])] _ _ rfl (setRow_heap _ _ _ _ _ _ hnew) Tryz.underlying75 rfl info_pth) rfl ?_
      exact ⟨by rw [HR.out]; rfl, below_setRow HB.out (Nat.le_refl _) _⟩
    | some n =>
      simp only [Option.getD_some, Option.isSome_some] at HN
      have hn := HL.out n rfl
      have hcv : IntKind.i64.wrap (n : Int) = (n : Int) := IntWalk.i64_in _ ⟨by omega, by omega⟩
      go_enter Tryz.func52, Tryz.ntmps52
      go_wp2_with (first
        | (go_at_call 77; refine (HN.out _).mono ?_; rintro e w' ⟨rfl, rfl⟩)
        | (refine wpList_store_row rfl 75 _ _ rfl w.heap.size #[.int .u8 0, .int .i64 0, .int .u64 0, .int .u32 0, .string (str [])] rfl rfl _ _ hnew info_pth rfl (pth_one _ _ _ _ _) ?_))
      refine bodyPost_ret (res_ct rfl _ _ w.heap.size _ #[.int .u8 1, .int .i64 n, .int .u64 0, .int .u32 0, .string (str [])] _ _ rfl (heap_alloc_new w _) Tryz.underlying75 rfl info_pth) rfl ?_
      exact ⟨by rw [HR.out]; rfl, (Below.refl _ w).alloc (Nat.le_refl _) _⟩
  · have hd : ((r.length : Int) != 8) = true := by rw [bne_iff_ne]; omega
    have hd2 : ((r.length : Int) == 8) = false := by rw [beq_eq_false_iff_ne]; omega
    have HR := Lib.hid (show logR r = none by unfold logR; rw [if_neg (fun x => h8 x.1)])
    clear h8 hl
    go_enter Tryz.func52, Tryz.ntmps52
    go_wp2_with (first
      | (refine wpList_store_row rfl 75 _ _ rfl w.heap.size #[.int .u8 0, .int .i64 0, .int .u64 0, .int .u32 0, .string (str [])] rfl rfl _ _ hnew info_pth rfl (pth_one _ _ _ _ _) ?_))
    refine bodyPost_ret (res_ct rfl _ _ w.heap.size _ #[.int .u8 0, .int .i64 0, .int .u64 0, .int .u32 0, .string (str [])] _ _ rfl (setRow_heap _ _ _ _ _ _ hnew) Tryz.underlying75 rfl info_pth) rfl ?_
    exact ⟨by rw [HR.out]; rfl, below_setRow HB.out (Nat.le_refl _) _⟩
set_option maxHeartbeats 1000000 in
theorem preadStage_any (r : B) (w : World) (hl : r.length ≤ 9223372036854775807) :
    Calls Tryz.prog 55 #[.string (str r)] w fun e w' => e = .returned (ppV (stageR r)) ∧ Below w.heap.size w w' := by
  have hnew := pzero w
  have HB := Lib.hid ((Below.refl _ w).alloc (Nat.le_refl _) (pthO 0 0 0 0 []))
  have HR := Lib.hid (stageR_num r)
  have HN := Lib.hid (fun w => pplain_any 2147483647 r w (by omega) (by omega))
  unfold plE at HN
  have HL := Lib.hid (fun n (h : plain 2147483647 r = some n) => plain_le h)
  clear hl
  generalize plain 2147483647 r = o at *
  cases o with
  | none =>
    simp only [Option.getD_none, Option.isSome_none] at HN
    go_enter Tryz.func55, Tryz.ntmps55
    go_wp2_with (first
      | (go_at_call 79; refine (HN.out _).mono ?_; rintro e w' ⟨rfl, rfl⟩)
      | (refine wpList_store_row rfl 75 _ _ rfl w.heap.size #[.int .u8 0, .int .i64 0, .int .u64 0, .int .u32 0, .string (str [])] rfl rfl _ _ hnew info_pth rfl (pth_one _ _ _ _ _) ?_))
    refine bodyPost_ret (res_ct rfl _ _ w.heap.size _ #[.int .u8 0, .int .i64 0, .int .u64 0, .int .u32 0, .string (str [])] _ _ rfl (setRow_heap _ _ _ _ _ _ hnew) Tryz.underlying75 rfl info_pth) rfl ?_
    exact ⟨by rw [HR.out]; rfl, below_setRow HB.out (Nat.le_refl _) _⟩
  | some n =>
    simp only [Option.getD_some, Option.isSome_some] at HN
    have hn := HL.out n rfl
    have hcv : IntKind.i64.wrap (n : Int) = (n : Int) := IntWalk.i64_in _ ⟨by omega, by omega⟩
    go_enter Tryz.func55, Tryz.ntmps55
    go_wp2_with (first
      | (go_at_call 79; refine (HN.out _).mono ?_; rintro e w' ⟨rfl, rfl⟩)
      | (refine wpList_store_row rfl 75 _ _ rfl w.heap.size #[.int .u8 0, .int .i64 0, .int .u64 0, .int .u32 0, .string (str [])] rfl rfl _ _ hnew info_pth rfl (pth_one _ _ _ _ _) ?_))
    refine bodyPost_ret (res_ct rfl _ _ w.heap.size _ #[.int .u8 4, .int .i64 n, .int .u64 0, .int .u32 0, .string (str [])] _ _ rfl (heap_alloc_new w _) Tryz.underlying75 rfl info_pth) rfl ?_
    exact ⟨by rw [HR.out]; rfl, (Below.refl _ w).alloc (Nat.le_refl _) _⟩
theorem pform_any (r : B) (w : World) (hl : r.length ≤ 9223372036854775807) :
    Calls Tryz.prog 80 #[.string (str r)] w fun e w' => e = .returned (.bool (NameM.isN r)) ∧ Below w.heap.size w w' := by
  have H := Lib.hid (NameC.is_any r w hl)
  go_enter Tryz.func80, Tryz.ntmps80
  go_wp2_with (go_at_call 112; refine H.out.mono ?_; rintro e w' ⟨rfl, hb⟩)
  go_ret
  exact ⟨rfl, hb⟩
set_option maxHeartbeats 1000000 in
theorem preadPage_any (r : B) (w : World) (hl : r.length ≤ 9223372036854775807) :
    Calls Tryz.prog 54 #[.string (str r)] w fun e w' => e = .returned (ppV (pageR NameM.isN r)) ∧ Below w.heap.size w w' := by
  have hnew := pzero w
  have HB := Lib.hid ((Below.refl _ w).alloc (Nat.le_refl _) (pthO 0 0 0 0 []))
  have HI := Lib.hid (fun w => pform_any r w hl)
  clear hl
  rcases Bool.eq_false_or_eq_true (NameM.isN r) with hi | hi
  · have HR := Lib.hid (show pageR NameM.isN r = some ⟨3, 0, 0, 0, r⟩ by unfold pageR; rw [hi]; rfl)
    rw [hi] at HI
    clear hi
    go_enter Tryz.func54, Tryz.ntmps54
    go_wp2_with (first
      | (go_at_call 80; refine (HI.out _).mono ?_; rintro e w2 ⟨rfl, hb⟩; have hrow := (hb.block w.heap.size (by simp)).trans hnew; have HB2 := Lib.hid (HB.out.trans (hb.mono (by simp))); have HS2 := Lib.hid hb.size; clear hb; obtain ⟨q0, q1, q2, q3, q4⟩ := pth_cells hrow; have f0 := cells_frozen hrow 0; have f1 := cells_frozen hrow 1; have f2 := cells_frozen hrow 2; have f3 := cells_frozen hrow 3; have f4 := cells_frozen hrow 4)
      | (refine wpList_store_row rfl 75 _ _ rfl w.heap.size #[.int .u8 0, .int .i64 0, .int .u64 0, .int .u32 0, .string (str [])] rfl rfl _ _ hrow info_pth rfl (pth_one _ _ _ _ _) ?_))
    refine bodyPost_ret (res_ct rfl _ _ w.heap.size _ #[.int .u8 3, .int .i64 0, .int .u64 0, .int .u32 0, .string (str r)] _ _ rfl (setCell_rowp (setCell_rowp (setCell_rowp (setCell_rowp (setCell_rowp hrow 0 _) 1 _) 2 _) 3 _) 4 _) Tryz.underlying75 rfl info_pth) rfl ?_
    exact ⟨by rw [HR.out]; rfl, ((((HB2.out.setCell (Nat.le_refl _) _).setCell (Nat.le_refl _) _).setCell (Nat.le_refl _) _).setCell (Nat.le_refl _) _).setCell (Nat.le_refl _) _⟩
  · have HR := Lib.hid (show pageR NameM.isN r = none by unfold pageR; rw [hi]; rfl)
    rw [hi] at HI
    clear hi
    go_enter Tryz.func54, Tryz.ntmps54
    go_wp2_with (first
      | (go_at_call 80; refine (HI.out _).mono ?_; rintro e w2 ⟨rfl, hb⟩; have hrow := (hb.block w.heap.size (by simp)).trans hnew; have HB2 := Lib.hid (HB.out.trans (hb.mono (by simp))); have HS2 := Lib.hid hb.size; clear hb)
      | (refine wpList_store_row rfl 75 _ _ rfl w.heap.size #[.int .u8 0, .int .i64 0, .int .u64 0, .int .u32 0, .string (str [])] rfl rfl _ _ hrow info_pth rfl (pth_one _ _ _ _ _) ?_))
    refine bodyPost_ret (res_ct rfl _ _ w.heap.size _ #[.int .u8 0, .int .i64 0, .int .u64 0, .int .u32 0, .string (str [])] _ _ rfl (setRow_heap _ _ _ _ _ _ hrow) Tryz.underlying75 rfl info_pth) rfl ?_
    exact ⟨by rw [HR.out]; rfl, below_setRow HB2.out (Nat.le_refl _) _⟩
set_option maxHeartbeats 1000000 in
theorem preadBlob_any (r : B) (w : World) (hl : r.length ≤ 9223372036854775807) :
    Calls Tryz.prog 53 #[.string (str r)] w fun e w' => e = .returned (ppV (blobR r)) ∧ Below w.heap.size w w' := by
  have hnew := pzero w
  have HB := Lib.hid ((Below.refl _ w).alloc (Nat.le_refl _) (pthO 0 0 0 0 []))
  have HC := Lib.hid (fun w => pcut_one 45 r w hl)
  have ha := ahd_length 45 r
  have hb := bhd_length 45 r
  have HS : Hid (∀ w, Calls Tryz.prog 78 #[.string (str (ahd 45 r))] w fun e w' => e = .returned (.tuple #[.int .u64 (SumM.readN (ahd 45 r)), .int .i64 (SumM.readE (ahd 45 r))]) ∧ w = w') := Lib.hid (fun w => SumC.read_any (str (ahd 45 r)) w (by rw [str_size]; unfold maxLen; omega))
  have HN := Lib.hid (fun w => pplain_any 4294967295 (bhd 45 r) w (by omega) (by omega))
  unfold plE at HN
  have HL := Lib.hid (fun n (h : plain 4294967295 (bhd 45 r) = some n) => plain_le h)
  have HR := Lib.hid (show blobR r = match SumM.read (ahd 45 r), plain 4294967295 (bhd 45 r) with | some s, some n => some ⟨2, 0, s, n, []⟩ | _, _ => none from rfl)
  have HRE : Hid (SumM.readE (ahd 45 r) = if (SumM.read (ahd 45 r)).isSome then 0 else 10) := Lib.hid rfl
  have HRN : Hid (SumM.readN (ahd 45 r) = (SumM.read (ahd 45 r)).getD 0) := Lib.hid rfl
  clear ha hb hl
  generalize plain 4294967295 (bhd 45 r) = o at *
  generalize SumM.readE (ahd 45 r) = se at *
  generalize SumM.readN (ahd 45 r) = sn at *
  generalize SumM.read (ahd 45 r) = so at *
  generalize ahd 45 r = x at *
  generalize bhd 45 r = y at *
  cases so with
  | none =>
    have e1 : se = 10 := HRE.out
    have e2 : sn = 0 := HRN.out
    subst e1; subst e2
    cases o with
    | none =>
      simp only [Option.getD_none, Option.isSome_none] at HN
      have hrd : ∀ k, ((w.alloc (pthO 0 0 0 0 [])).drewN k).heap[w.heap.size]? = some (pthO 0 0 0 0 []) := fun k => hnew
      go_enter Tryz.func53, Tryz.ntmps53
      go_wp2_with (first
        | (go_at_call 51; refine (HC.out _).mono ?_; rintro e w2 ⟨bb, rfl, dn, rfl⟩)
        | (go_at_call 78; refine (HS.out _).mono ?_; rintro e w' ⟨rfl, rfl⟩)
        | (go_at_call 79; refine (HN.out _).mono ?_; rintro e w' ⟨rfl, rfl⟩)
        | (refine wpList_store_row rfl 75 _ _ rfl w.heap.size #[.int .u8 0, .int .i64 0, .int .u64 0, .int .u32 0, .string (str [])] rfl rfl _ _ (hrd _) info_pth rfl (pth_one _ _ _ _ _) ?_))
      refine bodyPost_ret (res_ct rfl _ _ w.heap.size _ #[.int .u8 0, .int .i64 0, .int .u64 0, .int .u32 0, .string (str [])] _ _ rfl (setRow_heap _ _ _ _ _ _ (hrd _)) Tryz.underlying75 rfl info_pth) rfl ?_
      exact ⟨by rw [HR.out]; rfl, below_setRow (below_drewN HB.out _) (Nat.le_refl _) _⟩
    | some n =>
      simp only [Option.getD_some, Option.isSome_some] at HN
      have hn := HL.out n rfl
      have hcv : IntKind.u32.wrap (n : Int) = (n : Int) := by rw [IntKind.wrap_u32]; omega
      have hcv2 : (n : Int) % 4294967296 = (n : Int) := by omega
      have hcv3 : n % 4294967296 = n := Nat.mod_eq_of_lt (by omega)
      have hrd : ∀ k, ((w.alloc (pthO 0 0 0 0 [])).drewN k).heap[w.heap.size]? = some (pthO 0 0 0 0 []) := fun k => hnew
      go_enter Tryz.func53, Tryz.ntmps53
      go_wp2_with (first
        | (go_at_call 51; refine (HC.out _).mono ?_; rintro e w2 ⟨bb, rfl, dn, rfl⟩)
        | (go_at_call 78; refine (HS.out _).mono ?_; rintro e w' ⟨rfl, rfl⟩)
        | (go_at_call 79; refine (HN.out _).mono ?_; rintro e w' ⟨rfl, rfl⟩)
        | (refine wpList_store_row rfl 75 _ _ rfl w.heap.size #[.int .u8 0, .int .i64 0, .int .u64 0, .int .u32 0, .string (str [])] rfl rfl _ _ (hrd _) info_pth rfl (pth_one _ _ _ _ _) ?_))
      refine bodyPost_ret (res_ct rfl _ _ w.heap.size _ #[.int .u8 0, .int .i64 0, .int .u64 0, .int .u32 0, .string (str [])] _ _ rfl (setRow_heap _ _ _ _ _ _ (hrd _)) Tryz.underlying75 rfl info_pth) rfl ?_
      exact ⟨by rw [HR.out]; rfl, below_setRow (below_drewN HB.out _) (Nat.le_refl _) _⟩
  | some s =>
    have e1 : se = 0 := HRE.out
    have e2 : sn = s := HRN.out
    subst e1; subst e2
    cases o with
    | none =>
      simp only [Option.getD_none, Option.isSome_none] at HN
      have hrd : ∀ k, ((w.alloc (pthO 0 0 0 0 [])).drewN k).heap[w.heap.size]? = some (pthO 0 0 0 0 []) := fun k => hnew
      go_enter Tryz.func53, Tryz.ntmps53
      go_wp2_with (first
        | (go_at_call 51; refine (HC.out _).mono ?_; rintro e w2 ⟨bb, rfl, dn, rfl⟩)
        | (go_at_call 78; refine (HS.out _).mono ?_; rintro e w' ⟨rfl, rfl⟩)
        | (go_at_call 79; refine (HN.out _).mono ?_; rintro e w' ⟨rfl, rfl⟩)
        | (refine wpList_store_row rfl 75 _ _ rfl w.heap.size #[.int .u8 0, .int .i64 0, .int .u64 0, .int .u32 0, .string (str [])] rfl rfl _ _ (hrd _) info_pth rfl (pth_one _ _ _ _ _) ?_))
      refine bodyPost_ret (res_ct rfl _ _ w.heap.size _ #[.int .u8 0, .int .i64 0, .int .u64 0, .int .u32 0, .string (str [])] _ _ rfl (setRow_heap _ _ _ _ _ _ (hrd _)) Tryz.underlying75 rfl info_pth) rfl ?_
      exact ⟨by rw [HR.out]; rfl, below_setRow (below_drewN HB.out _) (Nat.le_refl _) _⟩
    | some n =>
      simp only [Option.getD_some, Option.isSome_some] at HN
      have hn := HL.out n rfl
      have hcv : IntKind.u32.wrap (n : Int) = (n : Int) := by rw [IntKind.wrap_u32]; omega
      have hcv2 : (n : Int) % 4294967296 = (n : Int) := by omega
      have hcv3 : n % 4294967296 = n := Nat.mod_eq_of_lt (by omega)
      have hrd : ∀ k, ((w.alloc (pthO 0 0 0 0 [])).drewN k).heap[w.heap.size]? = some (pthO 0 0 0 0 []) := fun k => hnew
      go_enter Tryz.func53, Tryz.ntmps53
      go_wp2_with (first
        | (go_at_call 51; refine (HC.out _).mono ?_; rintro e w2 ⟨bb, rfl, dn, rfl⟩)
        | (go_at_call 78; refine (HS.out _).mono ?_; rintro e w' ⟨rfl, rfl⟩)
        | (go_at_call 79; refine (HN.out _).mono ?_; rintro e w' ⟨rfl, rfl⟩)
        | (refine wpList_store_row rfl 75 _ _ rfl w.heap.size #[.int .u8 0, .int .i64 0, .int .u64 0, .int .u32 0, .string (str [])] rfl rfl _ _ (hrd _) info_pth rfl (pth_one _ _ _ _ _) ?_))
      refine bodyPost_ret (res_ct rfl _ _ w.heap.size _ #[.int .u8 2, .int .i64 0, .int .u64 sn, .int .u32 n, .string (str [])] _ _ rfl (setCell_rowp (setCell_rowp (setCell_rowp (setCell_rowp (setCell_rowp (hrd dn) 0 _) 1 _) 2 _) 3 _) 4 _) Tryz.underlying75 rfl info_pth) rfl ?_
      exact ⟨by rw [HR.out]; rfl, (((((below_drewN HB.out _).setCell (Nat.le_refl _) _).setCell (Nat.le_refl _) _).setCell (Nat.le_refl _) _).setCell (Nat.le_refl _) _).setCell (Nat.le_refl _) _⟩

/-! ### Read -/
theorem lit_is (g h : B) (p : ByteArray) (hp : p = str h) : ((str g).toList == p.toList) = decide (g = h) := by subst hp; exact str_beq g h
set_option maxHeartbeats 1000000 in
theorem pRead_any (l : B) (w : World) (hl : l.length ≤ 9223372036854775807) :
    Calls Tryz.prog 31 #[.string (str l)] w fun e w' => e = .returned (ppV (readP NameM.isN l)) ∧ Below w.heap.size w w' := by
  have hnew := pzero w
  have HB := Lib.hid ((Below.refl _ w).alloc (Nat.le_refl _) (pthO 0 0 0 0 []))
  have hrl := bhd_length 47 l
  have HC := Lib.hid (fun w => pcut_one 47 l w hl)
  have HL := Lib.hid (fun w => preadLog_any (bhd 47 l) w (by omega))
  have HBl := Lib.hid (fun w => preadBlob_any (bhd 47 l) w (by omega))
  have HP := Lib.hid (fun w => preadPage_any (bhd 47 l) w (by omega))
  have HS := Lib.hid (fun w => preadStage_any (bhd 47 l) w (by omega))
  have HR : Hid (readP NameM.isN l = if ahd 47 l = logH then logR (bhd 47 l) else if ahd 47 l = blobH then blobR (bhd 47 l) else if ahd 47 l = pageH then pageR NameM.isN (bhd 47 l) else if ahd 47 l = stageH then stageR (bhd 47 l) else none) := Lib.hid rfl
  clear hrl hl
  unfold ppV at *
  generalize readP NameM.isN l = RR at *
  generalize ahd 47 l = x at *
  generalize bhd 47 l = y at *
  have b1 : ((str x).toList == [108, 111, 103]) = decide (x = logH) := StrC.beq_list x _
  have b2 : ((str x).toList == [98, 108, 111, 98]) = decide (x = blobH) := StrC.beq_list x _
  have b3 : ((str x).toList == [112, 97, 103, 101]) = decide (x = pageH) := StrC.beq_list x _
  have b4 : ((str x).toList == [115, 116, 97, 103, 101]) = decide (x = stageH) := StrC.beq_list x _
  have hrd : ∀ k, ((w.alloc (pthO 0 0 0 0 [])).drewN k).heap[w.heap.size]? = some (pthO 0 0 0 0 []) := fun k => hnew
  by_cases hx : x = logH
  · have HF := Lib.hid (show RR = logR y by rw [HR.out];  rw [if_pos hx])
    rw [decide_eq_true hx] at b1
    rw [decide_eq_false (by rw [hx]; decide)] at b2
    rw [decide_eq_false (by rw [hx]; decide)] at b3
    rw [decide_eq_false (by rw [hx]; decide)] at b4
    rw [HF.out]
    clear hx HR HF
    generalize logR y = o at *
    generalize ((pt o).kind : Int) = k1 at *
    generalize ((pt o).n : Int) = k2 at *
    generalize (pt o).sum = k3 at *
    generalize ((pt o).part : Int) = k4 at *
    generalize (pt o).name = k5 at *
    generalize er o = k6 at *
    go_enter Tryz.func31, Tryz.ntmps31
    go_wp2_with (first
      | (go_at_call 51; refine (HC.out _).mono ?_; rintro e w2 ⟨bb, rfl, dn, rfl⟩)
      | (go_at_call 52; refine (HL.out _).mono ?_; rintro e w3 ⟨rfl, hb⟩; have hrow := (hb.block w.heap.size (by simp)).trans (hrd dn); have HB2 := Lib.hid ((below_drewN HB.out dn).trans (hb.mono (by simp))); clear hb; obtain ⟨q0, q1, q2, q3, q4⟩ := pth_cells hrow; have f0 := cells_frozen hrow 0; have f1 := cells_frozen hrow 1; have f2 := cells_frozen hrow 2; have f3 := cells_frozen hrow 3; have f4 := cells_frozen hrow 4))
    refine bodyPost_ret (res_ct rfl _ _ w.heap.size _ #[.int .u8 k1, .int .i64 k2, .int .u64 k3, .int .u32 k4, .string (str k5)] _ _ rfl (setCell_rowp (setCell_rowp (setCell_rowp (setCell_rowp (setCell_rowp hrow 0 _) 1 _) 2 _) 3 _) 4 _) Tryz.underlying75 rfl info_pth) rfl ?_
    exact ⟨rfl, ((((HB2.out.setCell (Nat.le_refl _) _).setCell (Nat.le_refl _) _).setCell (Nat.le_refl _) _).setCell (Nat.le_refl _) _).setCell (Nat.le_refl _) _⟩
  have n0 := hx
  clear hx
  by_cases hx : x = blobH
  · have HF := Lib.hid (show RR = blobR y by rw [HR.out]; rw [if_neg n0];  rw [if_pos hx])
    rw [decide_eq_false n0] at b1
    rw [decide_eq_true hx] at b2
    rw [decide_eq_false (by rw [hx]; decide)] at b3
    rw [decide_eq_false (by rw [hx]; decide)] at b4
    rw [HF.out]
    clear hx HR HF
    generalize blobR y = o at *
    generalize ((pt o).kind : Int) = k1 at *
    generalize ((pt o).n : Int) = k2 at *
    generalize (pt o).sum = k3 at *
    generalize ((pt o).part : Int) = k4 at *
    generalize (pt o).name = k5 at *
    generalize er o = k6 at *
    go_enter Tryz.func31, Tryz.ntmps31
    go_wp2_with (first
      | (go_at_call 51; refine (HC.out _).mono ?_; rintro e w2 ⟨bb, rfl, dn, rfl⟩)
      | (go_at_call 53; refine (HBl.out _).mono ?_; rintro e w3 ⟨rfl, hb⟩; have hrow := (hb.block w.heap.size (by simp)).trans (hrd dn); have HB2 := Lib.hid ((below_drewN HB.out dn).trans (hb.mono (by simp))); clear hb; obtain ⟨q0, q1, q2, q3, q4⟩ := pth_cells hrow; have f0 := cells_frozen hrow 0; have f1 := cells_frozen hrow 1; have f2 := cells_frozen hrow 2; have f3 := cells_frozen hrow 3; have f4 := cells_frozen hrow 4))
    refine bodyPost_ret (res_ct rfl _ _ w.heap.size _ #[.int .u8 k1, .int .i64 k2, .int .u64 k3, .int .u32 k4, .string (str k5)] _ _ rfl (setCell_rowp (setCell_rowp (setCell_rowp (setCell_rowp (setCell_rowp hrow 0 _) 1 _) 2 _) 3 _) 4 _) Tryz.underlying75 rfl info_pth) rfl ?_
    exact ⟨rfl, ((((HB2.out.setCell (Nat.le_refl _) _).setCell (Nat.le_refl _) _).setCell (Nat.le_refl _) _).setCell (Nat.le_refl _) _).setCell (Nat.le_refl _) _⟩
  have n1 := hx
  clear hx
  by_cases hx : x = pageH
  · have HF := Lib.hid (show RR = pageR NameM.isN y by rw [HR.out]; rw [if_neg n0]; rw [if_neg n1];  rw [if_pos hx])
    rw [decide_eq_false n0] at b1
    rw [decide_eq_false n1] at b2
    rw [decide_eq_true hx] at b3
    rw [decide_eq_false (by rw [hx]; decide)] at b4
    rw [HF.out]
    clear hx HR HF
    generalize pageR NameM.isN y = o at *
    generalize ((pt o).kind : Int) = k1 at *
    generalize ((pt o).n : Int) = k2 at *
    generalize (pt o).sum = k3 at *
    generalize ((pt o).part : Int) = k4 at *
    generalize (pt o).name = k5 at *
    generalize er o = k6 at *
    go_enter Tryz.func31, Tryz.ntmps31
    go_wp2_with (first
      | (go_at_call 51; refine (HC.out _).mono ?_; rintro e w2 ⟨bb, rfl, dn, rfl⟩)
      | (go_at_call 54; refine (HP.out _).mono ?_; rintro e w3 ⟨rfl, hb⟩; have hrow := (hb.block w.heap.size (by simp)).trans (hrd dn); have HB2 := Lib.hid ((below_drewN HB.out dn).trans (hb.mono (by simp))); clear hb; obtain ⟨q0, q1, q2, q3, q4⟩ := pth_cells hrow; have f0 := cells_frozen hrow 0; have f1 := cells_frozen hrow 1; have f2 := cells_frozen hrow 2; have f3 := cells_frozen hrow 3; have f4 := cells_frozen hrow 4))
    refine bodyPost_ret (res_ct rfl _ _ w.heap.size _ #[.int .u8 k1, .int .i64 k2, .int .u64 k3, .int .u32 k4, .string (str k5)] _ _ rfl (setCell_rowp (setCell_rowp (setCell_rowp (setCell_rowp (setCell_rowp hrow 0 _) 1 _) 2 _) 3 _) 4 _) Tryz.underlying75 rfl info_pth) rfl ?_
    exact ⟨rfl, ((((HB2.out.setCell (Nat.le_refl _) _).setCell (Nat.le_refl _) _).setCell (Nat.le_refl _) _).setCell (Nat.le_refl _) _).setCell (Nat.le_refl _) _⟩
  have n2 := hx
  clear hx
  by_cases hx : x = stageH
  · have HF := Lib.hid (show RR = stageR y by rw [HR.out]; rw [if_neg n0]; rw [if_neg n1]; rw [if_neg n2];  rw [if_pos hx])
    rw [decide_eq_false n0] at b1
    rw [decide_eq_false n1] at b2
    rw [decide_eq_false n2] at b3
    rw [decide_eq_true hx] at b4
    rw [HF.out]
    clear hx HR HF
    generalize stageR y = o at *
    generalize ((pt o).kind : Int) = k1 at *
    generalize ((pt o).n : Int) = k2 at *
    generalize (pt o).sum = k3 at *
    generalize ((pt o).part : Int) = k4 at *
    generalize (pt o).name = k5 at *
    generalize er o = k6 at *
    go_enter Tryz.func31, Tryz.ntmps31
    go_wp2_with (first
      | (go_at_call 51; refine (HC.out _).mono ?_; rintro e w2 ⟨bb, rfl, dn, rfl⟩)
      | (go_at_call 55; refine (HS.out _).mono ?_; rintro e w3 ⟨rfl, hb⟩; have hrow := (hb.block w.heap.size (by simp)).trans (hrd dn); have HB2 := Lib.hid ((below_drewN HB.out dn).trans (hb.mono (by simp))); clear hb; obtain ⟨q0, q1, q2, q3, q4⟩ := pth_cells hrow; have f0 := cells_frozen hrow 0; have f1 := cells_frozen hrow 1; have f2 := cells_frozen hrow 2; have f3 := cells_frozen hrow 3; have f4 := cells_frozen hrow 4))
    refine bodyPost_ret (res_ct rfl _ _ w.heap.size _ #[.int .u8 k1, .int .i64 k2, .int .u64 k3, .int .u32 k4, .string (str k5)] _ _ rfl (setCell_rowp (setCell_rowp (setCell_rowp (setCell_rowp (setCell_rowp hrow 0 _) 1 _) 2 _) 3 _) 4 _) Tryz.underlying75 rfl info_pth) rfl ?_
    exact ⟨rfl, ((((HB2.out.setCell (Nat.le_refl _) _).setCell (Nat.le_refl _) _).setCell (Nat.le_refl _) _).setCell (Nat.le_refl _) _).setCell (Nat.le_refl _) _⟩
  have n3 := hx
  clear hx
  · have HF := Lib.hid (show RR = none by rw [HR.out, if_neg n0, if_neg n1, if_neg n2, if_neg n3])
    rw [decide_eq_false n0] at b1
    rw [decide_eq_false n1] at b2
    rw [decide_eq_false n2] at b3
    rw [decide_eq_false n3] at b4
    clear n0 n1 n2 n3 HR
    go_enter Tryz.func31, Tryz.ntmps31
    go_wp2_with (first
      | (go_at_call 51; refine (HC.out _).mono ?_; rintro e w2 ⟨bb, rfl, dn, rfl⟩)
      | (refine wpList_store_row rfl 75 _ _ rfl w.heap.size #[.int .u8 0, .int .i64 0, .int .u64 0, .int .u32 0, .string (str [])] rfl rfl _ _ (hrd _) info_pth rfl (pth_one _ _ _ _ _) ?_))
    refine bodyPost_ret (res_ct rfl _ _ w.heap.size _ #[.int .u8 0, .int .i64 0, .int .u64 0, .int .u32 0, .string (str [])] _ _ rfl (setRow_heap _ _ _ _ _ _ (hrd _)) Tryz.underlying75 rfl info_pth) rfl ?_
    exact ⟨by rw [HF.out]; rfl, below_setRow (below_drewN HB.out _) (Nat.le_refl _) _⟩

/-! ### Log -/
def byteV (c : UInt8) : Value := .int .u8 (c.toNat : Int)
/-- the array behind k rounds -/
def arr8 (n k : Nat) : Array Value := (List.replicate (8 - k) (Value.int .u8 0) ++ (LogM.dig n k).map byteV).toArray
theorem arr8_size (n k : Nat) (h : k ≤ 8) : (arr8 n k).size = 8 := by simp [arr8, LogM.dig_length]; omega
theorem arr8_zero (n : Nat) : arr8 n 0 = #[.int .u8 0, .int .u8 0, .int .u8 0, .int .u8 0, .int .u8 0, .int .u8 0, .int .u8 0, .int .u8 0] := rfl
theorem arr8_set (n k : Nat) (h : k < 8) : (arr8 n k).setIfInBounds (7 - k) (byteV (UInt8.ofNat (48 + n / 10 ^ k % 10))) = arr8 n (k + 1) := by
  unfold arr8
  rw [show 8 - k = (7 - k) + 1 from by omega, show 8 - (k + 1) = 7 - k from by omega]
  simp only [List.setIfInBounds_toArray, SumM.set_last, LogM.dig, List.map_cons]
theorem arr8_get (n k : Nat) (h : k < 8) : ∃ v, (arr8 n k)[7 - k]? = some v := by
  have := arr8_size n k (by omega)
  exact ⟨(arr8 n k)[7 - k], by simp⟩
theorem arr8_bytes (n : Nat) (i : Nat) (h : i < (str (LogM.dig n 8)).size) : (arr8 n 8)[i]? = some (.int .u8 (((str (LogM.dig n 8))[i]'h).toNat : Int)) := by
  have hl : i < (LogM.dig n 8).length := by rw [str_size] at h; exact h
  have e : (str (LogM.dig n 8))[i]'h = (LogM.dig n 8)[i]'hl := rfl
  rw [e]
  simp [arr8, List.getElem?_eq_getElem hl, byteV]
theorem div10 (n k : Nat) : n / 10 ^ k / 10 = n / 10 ^ (k + 1) := by rw [Nat.div_div_eq_div_mul, Nat.pow_succ]
/-- how a name that is made ends -/
def mkE (l : B) : Ending := .returned (.tuple #[.string (str l), .int .i64 (errN l)])
theorem mkE_nil : mkE [] = .returned (.tuple #[.string (str []), .int .i64 110]) := rfl
theorem mkE_some {l : B} (h : l ≠ []) : mkE l = .returned (.tuple #[.string (str l), .int .i64 0]) := by unfold mkE errN; rw [if_neg h]
end PathC
end Go.Proofs.YtfbdhlpgklkjmaaGreatDoor
