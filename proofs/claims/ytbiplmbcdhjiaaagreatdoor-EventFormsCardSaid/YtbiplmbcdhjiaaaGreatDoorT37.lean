/-
  What the proof of EventForms stands on, part 37.
-/
import Derived.Test.YtbiplmbcdhjiaaaGreatDoorT34
import Derived.Test.YtbiplmbcdhjiaaaGreatDoorT35
import Derived.Test.YtbiplmbcdhjiaaaGreatDoorT36
set_option linter.unusedSimpArgs false
set_option linter.unusedVariables false
set_option maxHeartbeats 16000000
namespace Go.Proofs.YtbiplmbcdhjiaaaGreatDoor
open Go.Lib (hid)
section
open Go.RowKit Go.Sort
namespace EvA
open StrC EvF EvC TextR CodeM
def blanks (L : List B) : B := L.flatMap (fun t => 32 :: t)
theorem ybe (a : B) (f g : B → B) (L : List (B × B)) : blanks (a :: L.flatMap (fun p => [f p.1, g p.2])) = ([32] ++ a) ++ L.flatMap (fun p => (([32] ++ f p.1) ++ [32]) ++ g p.2) := by
 unfold blanks
 rw [List.flatMap_cons]
 congr 1
 induction L with
 | nil => rfl
 | cons p r ih => rw [List.flatMap_cons, List.flatMap_append, ih, List.flatMap_cons]; simp
theorem fields_8 (k : Nat) : ∀ x ∈ fieldsM k, x = 8 → ¬ k = 5 := by
 intro x hx h8 h5
 subst h5
 subst h8
 revert hx
 decide
theorem fields_9 (k : Nat) : ∀ x ∈ fieldsM k, x = 9 → k = 5 := by
 rcases zxi (k := k) with rfl | rfl | rfl | rfl | rfl | rfl | rfl | rfl | rfl | rfl | h
 case inr.inr.inr.inr.inr.inr.inr.inr.inr.inr => rw [yav h]; intro x hx; cases hx
 all_goals decide
theorem dec20 (n : Nat) (h : n < 18446744073709551616) : (Lib.decDigits n).length ≤ 20 := VerC.zce 19 n (by omega)
set_option maxRecDepth 100000 in
theorem ybf (e : EvG) (hk : e.k ≤ 255) (hsm : EvSm e) (w : World) (hN : NeIn w e.na e.nc e.needs) :
 Calls Tryz.prog 18 #[evV e] w fun r w' => r = .returned (.string (str (lineM (kw e.k) e (fieldsM e.k)))) ∧ Below w.heap.size w w' := by
 have HB := hid (alW w (evO e))
 have HRW : Hid (∀ W, Below (w.heap.size + 1) (w.alloc (evO e)) W → W.heap[w.heap.size]? = some (evO e)) := hid (fun W hb => (hb.block _ (by simp)).trans (heap_alloc_new w (evO e)))
 have HS0 : Hid ((w.alloc (evO e)).heap.size = w.heap.size + 1) := hid (by simp)
 have HN := hid hN
 have HSM := hid hsm
 have HF := hid (fun W => zxk e.k W)
 have HLT : Hid (∀ j, j < (fieldsM e.k).length → (fldS e.k).getD j 0 = ltr ((fieldsM e.k).getD j 0)) := hid (fun j hj => by rw [yaw]; simp [hj])
 have HFD : Hid (∀ j, j < (fieldsM e.k).length → 0 ≤ (fieldsM e.k).getD j 0 ∧ (fieldsM e.k).getD j 0 ≤ 9) := hid (fun j hj => yax e.k _ (by simp [hj]))
 have HF8 : Hid (∀ j, j < (fieldsM e.k).length → (fieldsM e.k).getD j 0 = 8 → ¬ e.k = 5) := hid (fun j hj h => fields_8 e.k _ (by simp [hj]) h)
 have HF9 : Hid (∀ j, j < (fieldsM e.k).length → (fieldsM e.k).getD j 0 = 9 → e.k = 5) := hid (fun j hj h => fields_9 e.k _ (by simp [hj]) h)
 have hll : (fldS e.k).length = (fieldsM e.k).length := by rw [yaw, List.length_map]
 have hl7 := yay e.k
 have hkl := zzr e.k
 have HW := hid (zzt e.k hk (w.alloc (evO e)))
 have HBM : Hid (∀ A, A = kw e.k ++ (fieldsM e.k).flatMap (fun x => blanks (partT e x)) → A = lineM (kw e.k) e (fieldsM e.k)) := hid (fun A h => h)
 generalize lineM (kw e.k) e (fieldsM e.k) = BM at *
 generalize fldS e.k = l at *
 generalize fieldsM e.k = L at *
 generalize kw e.k = c at *
 have hsz := zbl l
 obtain ⟨c0, -, -, -, -, -, -, -, -, -⟩ := ztd (HRW.out _ (Below.refl _ _))
 clear hN hsm
 go_enter Tryz.func18, Tryz.ntmps18
 go_wp2_with fail
 refine HW.out.mono ?_
 rintro r w1 ⟨rfl, hb1⟩
 have HW1 : Hid (Below (w.heap.size + 1) (w.alloc (evO e)) w1) := hid (hb1.mono (Nat.le_of_eq HS0.out.symm))
 have c0' := (ztd (HRW.out _ HW1.out)).1
 clear c0 hb1 HW
 go_wp2_with (first | (go_at_call 41; refine (HF.out _).mono ?_; rintro r w' ⟨rfl, rfl⟩) | fail)
 clear c0'
 go_loopw [3, 5, 6] (fun vs vi _ wr => ∃ (j : Nat) (A : B), vs = .string (str A) ∧ vi = .int .i64 j ∧ j ≤ L.length ∧ A.length ≤ 200000 * j + 20 ∧ Hid (A = c ++ (L.take j).flatMap (fun x => blanks (partT e x))) ∧ Hid (Below (w.heap.size + 1) (w.alloc (evO e)) wr)) (fun _ vi _ _ => L.length - (intOf vi).toNat)
 case atStart => exact ⟨0, c, rfl, rfl, Nat.zero_le _, by omega, hid (by simp), HW1⟩
 case round =>
  obtain ⟨j, A, rfl, rfl, hj, hAl, HA, HI⟩ := hrel
  rename World => wr
  clear HW1
  by_cases hlt : j < L.length
  · have hdec : decide (j < l.length) = true := decide_eq_true (by omega)
    have hidx := zbo l (j : Int) j rfl (by omega : j < l.length) wr
    rw [HLT.out j hlt] at hidx
    have hadd0 : (Op.stringOp .add (str A) { data := #[32] }).run Tryz.prog wr = .ok (.string (str (A ++ [32]))) wr := addB A [32] (by simp; omega) wr
    obtain ⟨A0, hA0⟩ : ∃ A0, A ++ [32] = A0 := ⟨_, rfl⟩
    have hA0l : A0.length = A.length + 1 := by rw [← hA0]; simp
    have HST : Hid (∀ x Q, L.getD j 0 = x → [32] ++ Q = blanks (partT e x) → A0 ++ Q = c ++ (L.take (j + 1)).flatMap (fun x => blanks (partT e x))) := hid (fun x Q hx hQ => by rw [← hA0, List.append_assoc]; exact yaz HA.out hlt hx hQ)
    rw [hA0] at hadd0
    have h8 := HF8.out j hlt
    have h9 := HF9.out j hlt
    obtain ⟨f0, f9⟩ := HFD.out j hlt
    have hx : L.getD j 0 = 0 ∨ L.getD j 0 = 1 ∨ L.getD j 0 = 2 ∨ L.getD j 0 = 3 ∨ L.getD j 0 = 4 ∨ L.getD j 0 = 5 ∨ L.getD j 0 = 6 ∨ L.getD j 0 = 7 ∨ L.getD j 0 = 8 ∨ L.getD j 0 = 9 := by omega
    clear f0 f9 HA hA0
    rcases hx with hx | hx | hx | hx | hx | hx | hx | hx | hx | hx <;> rw [hx] at hidx h8 h9 <;> replace HST := hid (fun Q => HST.out _ Q hx) <;> clear hx
    · replace hidx : (Instr.index 9 (.string (str l)) (.int .i64 (j : Int))).run Tryz.prog wr = .ok (.int .u8 119) wr := hidx
      have b1 : wr.cell? ⟨w.heap.size, 1, none⟩ = some (.string (str e.who)) := by simp [World.cell?, HRW.out _ HI.out]
      have hbd : e.who.length ≤ 1000 := HSM.out.who
      have hadd := addB A0 e.who (by omega) wr
      have HNX := hid (HST.out e.who (by simp [partT, partG, blanks]))
      clear HST h8 h9
      go_wp2_with fail
      go_roundw
      case rel => exact ⟨j + 1, A0 ++ e.who, rfl, by go_num, hlt, by rw [List.length_append]; omega, HNX, HI⟩
      case measure => simp [intOf]; omega
    · replace hidx : (Instr.index 9 (.string (str l)) (.int .i64 (j : Int))).run Tryz.prog wr = .ok (.int .u8 110) wr := hidx
      have b1 : wr.cell? ⟨w.heap.size, 2, none⟩ = some (.string (str e.name)) := by simp [World.cell?, HRW.out _ HI.out]
      have hbd : e.name.length ≤ 1000 := HSM.out.name
      have hadd := addB A0 e.name (by omega) wr
      have HNX := hid (HST.out e.name (by simp [partT, partG, blanks]))
      clear HST h8 h9
      go_wp2_with fail
      go_roundw
      case rel => exact ⟨j + 1, A0 ++ e.name, rfl, by go_num, hlt, by rw [List.length_append]; omega, HNX, HI⟩
      case measure => simp [intOf]; omega
    · replace hidx : (Instr.index 9 (.string (str l)) (.int .i64 (j : Int))).run Tryz.prog wr = .ok (.int .u8 118) wr := hidx
      have b1 : wr.cell? ⟨w.heap.size, 3, none⟩ = some (.string (str e.ver)) := by simp [World.cell?, HRW.out _ HI.out]
      have hbd : e.ver.length ≤ 1000 := HSM.out.ver
      have hadd := addB A0 e.ver (by omega) wr
      have HNX := hid (HST.out e.ver (by simp [partT, partG, blanks]))
      clear HST h8 h9
      go_wp2_with fail
      go_roundw
      case rel => exact ⟨j + 1, A0 ++ e.ver, rfl, by go_num, hlt, by rw [List.length_append]; omega, HNX, HI⟩
      case measure => simp [intOf]; omega
    · replace hidx : (Instr.index 9 (.string (str l)) (.int .i64 (j : Int))).run Tryz.prog wr = .ok (.int .u8 101) wr := hidx
      have b1 : wr.cell? ⟨w.heap.size, 4, none⟩ = some (.slice e.na e.needs.length e.nc) := by simp [World.cell?, HRW.out _ HI.out]
      have hfew := HSM.out.few
      have HC : Hid (Calls Tryz.prog 46 #[.int .u64 e.needs.length] wr fun r w' => r = .returned (.string (str (Lib.decDigits e.needs.length))) ∧ wr = w') := hid (VerC.zcg e.needs.length wr (by omega))
      have hcv : IntKind.u64.wrap (e.needs.length : Int) = e.needs.length := IntWalk.u64_in _ ⟨by omega, by omega⟩
      have hbd : (Lib.decDigits e.needs.length).length ≤ 20 := dec20 _ (by omega)
      have hadd := addB A0 (Lib.decDigits e.needs.length) (by omega) wr
      obtain ⟨A1, hA1⟩ : ∃ A1, A0 ++ Lib.decDigits e.needs.length = A1 := ⟨_, rfl⟩
      rw [hA1] at hadd
      have hA1l : A1.length ≤ A0.length + 20 := by rw [← hA1, List.length_append]; omega
      have HNX : Hid (A1 ++ e.needs.flatMap (fun p => (([32] ++ p.1) ++ [32]) ++ swapB 32 95 p.2) = c ++ (L.take (j + 1)).flatMap (fun x => blanks (partT e x))) := hid (by
       rw [← hA1, List.append_assoc]
       exact HST.out _ (by rw [← List.append_assoc]; exact (ybe (Lib.decDigits e.needs.length) id (swapB 32 95) e.needs).symm))
      clear hA1 HST h8 h9
      go_wp2_with (first | (go_at_call 46; refine HC.out.mono ?_; rintro r w' ⟨rfl, rfl⟩) | fail)
      clear hidx b1 HC hcv hadd hadd0
      go_loopw [3, 6] (fun vs vi wx => ∃ (i : Nat) (A2 : B), vs = .string (str A2) ∧ vi = .int .i64 i ∧ i ≤ e.needs.length ∧ A2.length ≤ 2100 * i + A1.length ∧ Hid (A2 = A1 ++ (e.needs.take i).flatMap (fun p => (([32] ++ p.1) ++ [32]) ++ swapB 32 95 p.2)) ∧ Hid (Below (w.heap.size + 1) (w.alloc (evO e)) wx)) (fun _ vi _ => e.needs.length - (intOf vi).toNat)
      case atStart => exact ⟨0, A1, rfl, rfl, Nat.zero_le _, by omega, hid (by simp), HI⟩
      case round =>
       obtain ⟨i, A2, rfl, rfl, hi, hA2l, HA2, HI4⟩ := hrel
       rename World => wx
       have HWX := hid (HB.out.trans (HI4.out.mono (by omega : w.heap.size ≤ w.heap.size + 1)))
       have b4 : wx.cell? ⟨w.heap.size, 4, none⟩ = some (.slice e.na e.needs.length e.nc) := by simp [World.cell?, HRW.out _ HI4.out]
       by_cases hi2 : i < e.needs.length
       · have hdec2 : decide (i < e.needs.length) = true := decide_eq_true hi2
         obtain ⟨g, o, p, hp, hx, ha, k0, k1⟩ := (HN.out.gr HWX.out).at i hi2
         obtain ⟨hp1, hp2⟩ := HSM.out.need p hp
         rw [ha] at b4
         have HNS := hid (yba (f := fun p => (([32] ++ p.1) ++ [32]) ++ swapB 32 95 p.2) HA2.out hx)
         have hl2 : (swapB 32 95 p.2).length ≤ 1000 := by rw [zxf]; exact hp2
         have hadd1 : ∀ W, (Op.stringOp .add (str A2) { data := #[32] }).run Tryz.prog W = .ok (.string (str (A2 ++ [32]))) W := addB A2 [32] (by simp; omega)
         obtain ⟨A3, hA3⟩ : ∃ A3, A2 ++ [32] = A3 := ⟨_, rfl⟩
         rw [hA3] at hadd1
         have hA3l : A3.length ≤ A2.length + 1 := by rw [← hA3, List.length_append]; simp
         have hadd2 := addB A3 p.1 (by omega)
         obtain ⟨A4, hA4⟩ : ∃ A4, A3 ++ p.1 = A4 := ⟨_, rfl⟩
         rw [hA4] at hadd2
         have hA4l : A4.length ≤ A3.length + 1000 := by rw [← hA4, List.length_append]; omega
         have hadd3 : ∀ W, (Op.stringOp .add (str A4) { data := #[32] }).run Tryz.prog W = .ok (.string (str (A4 ++ [32]))) W := addB A4 [32] (by simp; omega)
         obtain ⟨A5, hA5⟩ : ∃ A5, A4 ++ [32] = A5 := ⟨_, rfl⟩
         rw [hA5] at hadd3
         have hA5l : A5.length ≤ A4.length + 1 := by rw [← hA5, List.length_append]; simp
         have hadd4 := addB A5 (swapB 32 95 p.2) (by omega)
         obtain ⟨A6, hA6⟩ : ∃ A6, A5 ++ swapB 32 95 p.2 = A6 := ⟨_, rfl⟩
         rw [hA6] at hadd4
         have hA6l : A6.length ≤ A5.length + 1000 := by rw [← hA6, List.length_append]; omega
         have HNS4 : Hid (A6 = A1 ++ (e.needs.take (i + 1)).flatMap (fun p => (([32] ++ p.1) ++ [32]) ++ swapB 32 95 p.2)) := hid (by rw [← HNS.out, ← hA6, ← hA5, ← hA4, ← hA3]; simp)
         have HT2 : Hid (∀ W, Calls Tryz.prog 48 #[.string (str p.2), .int .u8 32, .int .u8 95] W fun r w' => r = .returned (.string (str (swapB 32 95 p.2))) ∧ Below W.heap.size W w') := hid (fun W => zzq p.2 32 95 W hp2)
         clear hp hx ha hA3 hA4 hA5 hA6 HA2 HNS
         generalize swapB 32 95 p.2 = t2 at *
         go_upto_region 31 with fail
         have cT2 : ∀ d os, Calls Tryz.prog 48 #[.string (str p.2), .int .u8 32, .int .u8 95] (Go.Sort.grow (redrawn wx d) os) _ := fun d os => Calls.regrown_of (HT2.out _)
         have kb := cell_regrown b4
         have k0' := cell_regrown k0
         have k1' := cell_regrown k1
         clear b4 k0 k1
         refine wp_region_quiet_below (by kernel_rfl) (by kernel_rfl) ?_
         repeat (go_big_quiet_step (first | (with_reducible exact cT2 _ _)))
         refine wpQuiet_nil ?_
         intro _ hw'
         obtain ⟨⟨dq, osq⟩, hw''⟩ := hw'
         subst hw''
         have HI5 := hid (HI4.out.trans ((below_regrown wx dq osq).mono (Nat.le_trans (Nat.le_of_eq HS0.out.symm) HI4.out.size)))
         clear cT2 kb k0' k1' hadd1 hadd2 hadd3 hadd4
         go_wp2_with fail
         go_roundw
         case rel => exact ⟨i + 1, A6, rfl, by go_num, hi2, by omega, HNS4, HI5⟩
         case measure => simp [intOf]; omega
       · have hie : i = e.needs.length := by omega
         have hdec2 : decide (i < e.needs.length) = false := decide_eq_false hi2
         have HE := hid (show A2 = c ++ (L.take (j + 1)).flatMap (fun x => blanks (partT e x)) by rw [HA2.out, hie, List.take_length]; exact HNX.out)
         go_wp2_with fail
         go_roundw
         case rel => exact ⟨j + 1, A2, rfl, by go_num, hlt, by omega, HE, HI4⟩
         case measure => simp [intOf]; omega
    · replace hidx : (Instr.index 9 (.string (str l)) (.int .i64 (j : Int))).run Tryz.prog wr = .ok (.int .u8 115) wr := hidx
      have b1 : wr.cell? ⟨w.heap.size, 5, none⟩ = some (.int .u64 e.sum) := by simp [World.cell?, HRW.out _ HI.out]
      have HC : Hid (Calls Tryz.prog 45 #[.int .u64 e.sum] wr fun r w' => r = .returned (.string (str (SumM.digits e.sum 16))) ∧ wr = w') := hid (zzu e.sum wr HSM.out.sum)
      have hbd : (SumM.digits e.sum 16).length ≤ 2000 := (by rw [SumM.zwi]; omega)
      have hadd := addB A0 (SumM.digits e.sum 16) (by omega) wr
      have HNX := hid (HST.out (SumM.digits e.sum 16) (by simp [partT, partG, blanks]))
      clear HST h8 h9
      go_wp2_with (first | (go_at_call 45; refine HC.out.mono ?_; rintro r w' ⟨rfl, rfl⟩) | fail)
      go_roundw
      case rel => exact ⟨j + 1, A0 ++ (SumM.digits e.sum 16), rfl, by go_num, hlt, by rw [List.length_append]; omega, HNX, HI⟩
      case measure => simp [intOf]; omega
    · replace hidx : (Instr.index 9 (.string (str l)) (.int .i64 (j : Int))).run Tryz.prog wr = .ok (.int .u8 78) wr := hidx
      have b1 : wr.cell? ⟨w.heap.size, 6, none⟩ = some (.int .u32 e.n) := by simp [World.cell?, HRW.out _ HI.out]
      have hcv : IntKind.u64.wrap (e.n : Int) = e.n := IntWalk.u64_in _ ⟨by omega, by have := HSM.out.n; omega⟩
      have HC : Hid (Calls Tryz.prog 46 #[.int .u64 e.n] wr fun r w' => r = .returned (.string (str (Lib.decDigits e.n))) ∧ wr = w') := hid (VerC.zcg e.n wr (by have := HSM.out.n; omega))
      have hbd : (Lib.decDigits e.n).length ≤ 2000 := (Nat.le_trans (dec20 e.n (by have := HSM.out.n; omega)) (by decide))
      have hadd := addB A0 (Lib.decDigits e.n) (by omega) wr
      have HNX := hid (HST.out (Lib.decDigits e.n) (by simp [partT, partG, blanks]))
      clear HST h8 h9
      go_wp2_with (first | (go_at_call 46; refine HC.out.mono ?_; rintro r w' ⟨rfl, rfl⟩) | fail)
      go_roundw
      case rel => exact ⟨j + 1, A0 ++ (Lib.decDigits e.n), rfl, by go_num, hlt, by rw [List.length_append]; omega, HNX, HI⟩
      case measure => simp [intOf]; omega
    · replace hidx : (Instr.index 9 (.string (str l)) (.int .i64 (j : Int))).run Tryz.prog wr = .ok (.int .u8 122) wr := hidx
      have b1 : wr.cell? ⟨w.heap.size, 7, none⟩ = some (.int .u32 e.size) := by simp [World.cell?, HRW.out _ HI.out]
      have hcv : IntKind.u64.wrap (e.size : Int) = e.size := IntWalk.u64_in _ ⟨by omega, by have := HSM.out.size; omega⟩
      have HC : Hid (Calls Tryz.prog 46 #[.int .u64 e.size] wr fun r w' => r = .returned (.string (str (Lib.decDigits e.size))) ∧ wr = w') := hid (VerC.zcg e.size wr (by have := HSM.out.size; omega))
      have hbd : (Lib.decDigits e.size).length ≤ 2000 := (Nat.le_trans (dec20 e.size (by have := HSM.out.size; omega)) (by decide))
      have hadd := addB A0 (Lib.decDigits e.size) (by omega) wr
      have HNX := hid (HST.out (Lib.decDigits e.size) (by simp [partT, partG, blanks]))
      clear HST h8 h9
      go_wp2_with (first | (go_at_call 46; refine HC.out.mono ?_; rintro r w' ⟨rfl, rfl⟩) | fail)
      go_roundw
      case rel => exact ⟨j + 1, A0 ++ (Lib.decDigits e.size), rfl, by go_num, hlt, by rw [List.length_append]; omega, HNX, HI⟩
      case measure => simp [intOf]; omega
    · replace hidx : (Instr.index 9 (.string (str l)) (.int .i64 (j : Int))).run Tryz.prog wr = .ok (.int .u8 104) wr := hidx
      have b1 : wr.cell? ⟨w.heap.size, 8, none⟩ = some (.string (str e.holder)) := by simp [World.cell?, HRW.out _ HI.out]
      have hbd : e.holder.length ≤ 1000 := HSM.out.holder
      have hadd := addB A0 e.holder (by omega) wr
      have HNX := hid (HST.out e.holder (by simp [partT, partG, blanks]))
      clear HST h8 h9
      go_wp2_with fail
      go_roundw
      case rel => exact ⟨j + 1, A0 ++ e.holder, rfl, by go_num, hlt, by rw [List.length_append]; omega, HNX, HI⟩
      case measure => simp [intOf]; omega
    · replace hidx : (Instr.index 9 (.string (str l)) (.int .i64 (j : Int))).run Tryz.prog wr = .ok (.int .u8 116) wr := hidx
      have b1 : wr.cell? ⟨w.heap.size, 9, none⟩ = some (.string (str e.note)) := by simp [World.cell?, HRW.out _ HI.out]
      have hbd : e.note.length ≤ 1000 := HSM.out.note
      have hadd := addB A0 e.note (by omega) wr
      have HNX := hid (HST.out e.note (by simp [partT, partG, blanks]))
      have c0 := (ztd (HRW.out _ HI.out)).1
      have hn5 : ¬ e.k = 5 := h8 rfl
      have hn6 : ¬ (e.k : Int) = 5 := by omega
      clear HST h8 h9
      go_wp2_with fail
      go_roundw
      case rel => exact ⟨j + 1, A0 ++ e.note, rfl, by go_num, hlt, by rw [List.length_append]; omega, HNX, HI⟩
      case measure => simp [intOf]; omega
    · replace hidx : (Instr.index 9 (.string (str l)) (.int .i64 (j : Int))).run Tryz.prog wr = .ok (.int .u8 116) wr := hidx
      have b1 : wr.cell? ⟨w.heap.size, 9, none⟩ = some (.string (str e.note)) := by simp [World.cell?, HRW.out _ HI.out]
      have c0 := (ztd (HRW.out _ HI.out)).1
      rw [h9 rfl] at c0
      have HC : Hid (Calls Tryz.prog 47 #[.string (str e.note)] wr fun r w' => r = .returned (.string (str (noteT e.note))) ∧ wr = w') := hid (yab e.note wr HSM.out.note)
      have hbd : (noteT e.note).length ≤ 2000 := (by have := HSM.out.note; unfold noteT; split; (simp); (rw [zxc]; omega))
      have hadd := addB A0 (noteT e.note) (by omega) wr
      have HNX := hid (HST.out (noteT e.note) (by simp [partT, partG, blanks]))
      clear HST h8 h9
      go_wp2_with (first | (go_at_call 47; refine HC.out.mono ?_; rintro r w' ⟨rfl, rfl⟩) | fail)
      go_roundw
      case rel => exact ⟨j + 1, A0 ++ (noteT e.note), rfl, by go_num, hlt, by rw [List.length_append]; omega, HNX, HI⟩
      case measure => simp [intOf]; omega
  · have hdec : decide (j < l.length) = false := decide_eq_false (by omega)
    have hje : j = L.length := by omega
    have HR := hid (HBM.out A (by rw [HA.out, hje, List.take_length]))
    go_wp2_with fail
    go_ret
    exact ⟨by rw [HR.out]; rfl, HB.out.trans (HI.out.mono (by omega))⟩
end EvA
end
section
open Go.RowKit Go.Sort
namespace EvA
open StrC EvF EvC TextR CodeM CodeC
open VerC (Vw)
theorem ybg (k : Nat) (h : 11 ≤ k) (w : World) : Calls Tryz.prog 32 #[.int .u8 k] w (FieldsE [] w) := by
 have h1 : ¬ k = 1 := by omega
 have h2 : ¬ k = 2 := by omega
 have h3 : ¬ k = 3 := by omega
 have h4 : ¬ k = 4 := by omega
 have h5 : ¬ k = 5 := by omega
 have h6 : ¬ k = 6 := by omega
 have h7 : ¬ k = 7 := by omega
 have h8 : ¬ k = 8 := by omega
 have h9 : ¬ k = 9 := by omega
 have h10 : ¬ k = 10 := by omega
 clear h
 go_enter Tryz.func32, Tryz.ntmps32
 go_wp2_with fail
 refine (EvN.zuc _).mono ?_
 rintro e w' ⟨rfl, rfl⟩
 go_wp2_with fail
 go_ret
 exact ⟨_, rfl, World.ownsRow_nil _ _ _ _, Below.refl _ _⟩
theorem ybh (k : Nat) : Fds k (fieldsM k) := by
 rcases zxi (k := k) with rfl | rfl | rfl | rfl | rfl | rfl | rfl | rfl | rfl | rfl | h | h
 · exact fun w => zso w
 · exact fun w => zsp w
 · exact fun w => zsq w
 · exact fun w => zsr w
 · exact fun w => zss w
 · exact fun w => zst w
 · exact fun w => zsu w
 · exact fun w => EvF.fields_8 w
 · exact fun w => EvF.fields_9 w
 · exact fun w => zsv w
 · subst h; exact fun w => EvN.zud w
 · rw [yav (Or.inr h)]; exact fun w => ybg k h w
theorem ybi {k : Nat} (h : 1 ≤ k ∧ k ≤ 10) : 0 < (fieldsM k).length := by
 rcases (by omega : k = 1 ∨ k = 2 ∨ k = 3 ∨ k = 4 ∨ k = 5 ∨ k = 6 ∨ k = 7 ∨ k = 8 ∨ k = 9 ∨ k = 10) with rfl | rfl | rfl | rfl | rfl | rfl | rfl | rfl | rfl | rfl <;> decide
theorem EvIn.sz {w : World} {e : EvG} (h : EvIn w e) : EvSz e := ⟨Nat.le_trans h.who (by decide), Nat.le_trans h.name (by decide), Nat.le_trans h.holder (by decide), Nat.le_trans h.note (by decide)⟩
theorem ybj (e : EvG) (hk : e.k = 0 ∨ 11 ≤ e.k) (w : World) : Calls Tryz.prog 7 #[evV e] w fun r w' => r = .returned (.int .i64 90) ∧ Below w.heap.size w w' := by
 have hf : Fds e.k [] := by have h := ybh e.k; rwa [yav hk] at h
 have HIK := hid (ztv hf)
 have HB := hid (alW w (evO e))
 have c0 := (ztd (heap_alloc_new w (evO e))).1
 clear hf hk
 go_enter Tryz.func7, Tryz.ntmps7
 go_wp2_with fail
 refine (HIK.out _).mono ?_
 rintro e1 w1 ⟨rfl, hb1⟩
 have HB1 := hid (HB.out.trans (hb1.mono HB.out.size))
 clear hb1 c0
 go_wp2_with fail
 go_ret
 exact ⟨rfl, HB1.out⟩
theorem pmay_any (e : EvG) (w : World) (hs : EvIn w e) (hv : Vw w) : Calls Tryz.prog 7 #[evV e] w fun r w' => r = .returned (.int .i64 (mayC (mayD e))) ∧ Below w.heap.size w w' := by
 by_cases h : 1 ≤ e.k ∧ e.k ≤ 10
 · rw [zxw e h]
   exact may_any e (needsM e.needs) (fieldsM e.k) (ybh e.k) (ybi h) (yax e.k) (Nat.le_trans (yay e.k) (by decide)) w hs.sz hv (zyf e w hs.needs hv) hs.needs
 · rw [zxx e (by omega)]
   exact ybj e (by omega) w
theorem ybk (k : Nat) : (fieldsM k).contains 1 = (fldS k).contains 110 := by
 rcases zxi (k := k) with rfl | rfl | rfl | rfl | rfl | rfl | rfl | rfl | rfl | rfl | h
 case inr.inr.inr.inr.inr.inr.inr.inr.inr.inr => rw [yav h, zxj h]; rfl
 all_goals rfl
theorem ybl {l : List Int} {j : Nat} {c : Int} (hj : j < l.length) : (l.take (j + 1)).contains c = ((l.take j).contains c || (l.getD j 0 == c)) := by
 have e : l.getD j 0 = l[j] := by simp [hj]
 rw [e, List.take_add_one, List.getElem?_eq_getElem hj, Bool.eq_iff_iff, Bool.or_eq_true, List.contains_iff_mem, List.contains_iff_mem, List.mem_append, beq_iff_eq, Option.toList_some, List.mem_singleton]
 constructor <;> (rintro (h | h)) <;> first | exact Or.inl h | exact Or.inr h.symm
theorem pindex_any (a : Option Addr) (cp : Nat) (L : List Int) (x : Int) (w : World) (hl : L.length ≤ 100) (hc : 0 < L.length → ∃ g, a = some ⟨g, 0, none⟩ ∧ ∀ i, i < L.length → w.cell? ⟨g, i, none⟩ = some (.int .i64 (L.getD i 0))) :
 Calls Tryz.prog 88 #[.slice a L.length cp, .int .i64 x] w fun e w' => ∃ r : Int, e = .returned (.int .i64 r) ∧ decide (0 ≤ r) = L.contains x ∧ w = w' := by
 have HC := hid hc
 obtain ⟨r0, hr0⟩ : ∃ r0, L.contains x = r0 := ⟨_, rfl⟩
 have HR0 := hid hr0
 rw [hr0]
 clear hr0 hc
 go_enter Tryz.func88, Tryz.ntmps88
 go_wp2_with fail
 go_loop [5, 8] (fun _ i => ∃ j : Nat, i = .int .i64 j ∧ j ≤ L.length ∧ Hid ((L.take j).contains x = false)) (fun _ i => L.length - (intOf i).toNat)
 case atStart => exact ⟨0, rfl, Nat.zero_le _, hid (by simp)⟩
 case round =>
  obtain ⟨j, rfl, hj, HA⟩ := hrel
  by_cases hlt : j < L.length
  · have hdec : decide (j < L.length) = true := by simpa using hlt
    obtain ⟨g, rfl, hcl⟩ := HC.out (by omega)
    have hcell := hcl j hlt
    have HT := hid (ybl (c := x) hlt)
    clear hcl
    by_cases hx : L.getD j 0 = x
    · have HR : Hid (r0 = true) := hid (by rw [← HR0.out, ← hx, List.contains_iff_mem]; simp [hlt])
      rw [hx] at hcell
      clear hx HT
      go_wp2_with fail
      go_ret
      exact ⟨j, rfl, by rw [HR.out]; simp, rfl⟩
    · have HR : Hid ((L.take (j + 1)).contains x = false) := hid (by rw [HT.out, HA.out]; simpa using hx)
      generalize L.getD j 0 = y at *
      have hx2 : ¬ x = y := fun h => hx h.symm
      clear HT
      go_wp2_with fail
      go_round
      case rel => exact ⟨j + 1, by go_num, by omega, HR⟩
      case measure => simp [intOf]; omega
  · have hdec : decide (j < L.length) = false := by simpa using hlt
    have HR : Hid (r0 = false) := hid (by have h := HA.out; rw [List.take_of_length_le (by omega)] at h; rw [← HR0.out, h])
    go_wp2_with fail
    go_ret
    exact ⟨-1, rfl, by rw [HR.out]; rfl, rfl⟩
theorem ybm (a : Option Addr) (cp : Nat) (L : List Int) (x : Int) (w : World) (hl : L.length ≤ 100) (hc : 0 < L.length → ∃ g, a = some ⟨g, 0, none⟩ ∧ ∀ i, i < L.length → w.cell? ⟨g, i, none⟩ = some (.int .i64 (L.getD i 0))) :
 Calls Tryz.prog 38 #[.slice a L.length cp, .int .i64 x] w fun e w' => e = .returned (.bool (L.contains x)) ∧ w = w' := by
 have HX := hid (pindex_any a cp L x w hl hc)
 generalize L.contains x = b at *
 clear hc
 go_enter Tryz.func38, Tryz.ntmps38
 go_wp2_with (first | (go_at_call 88; refine HX.out.mono ?_; rintro e w' ⟨r, rfl, hr, rfl⟩) | fail)
 go_ret
 exact ⟨by rw [← hr]; simp, rfl⟩
theorem ybn (e : EvG) (w : World) : Calls Tryz.prog 10 #[evV e] w fun r w' => r = .returned (.tuple #[.string (str (aboutM e).1), .bool (aboutM e).2]) ∧ Below w.heap.size w w' := by
 have HB := hid (alW w (evO e))
 have HF := hid (ybh e.k (w.alloc (evO e)))
 have hl := yay e.k
 have HR2 : Hid (∀ W, Below (w.alloc (evO e)).heap.size (w.alloc (evO e)) W → W.heap[w.heap.size]? = some (evO e)) := hid (fun W h => (h.block _ (by simp)).trans (heap_alloc_new w _))
 have c0 := (ztd (HR2.out _ (Below.refl _ _))).1
 have HA : Hid (aboutM e = if (fieldsM e.k).contains 1 then (e.name, true) else ([], false)) := hid (by rw [ybk]; rfl)
 generalize aboutM e = am at *
 generalize fieldsM e.k = L at *
 have HCN : Hid (∀ a cp W, (0 < L.length → ∃ g, a = some ⟨g, 0, none⟩ ∧ ∀ i, i < L.length → W.cell? ⟨g, i, none⟩ = some (.int .i64 (L.getD i 0))) → Calls Tryz.prog 38 #[.slice a L.length cp, .int .i64 1] W fun e w' => e = .returned (.bool (L.contains 1)) ∧ W = w') := hid (fun a cp W h => ybm a cp L 1 W (by omega) h)
 generalize L.contains 1 = b at *
 cases b with
 | true =>
   go_enter Tryz.func10, Tryz.ntmps10
   go_wp2_with fail
   refine HF.out.mono ?_
   rintro r w1 ⟨v, rfl, hrow, hb1⟩
   obtain ⟨a, cp, rfl, hcell⟩ := ztu hrow
   have HX := hid (HCN.out a cp w1 (fun h => by obtain ⟨g, e1, _, _, h2⟩ := hcell h; exact ⟨g, e1, h2⟩))
   have HB1 := hid (HB.out.trans (hb1.mono HB.out.size))
   have c2 := (ztd (HR2.out _ hb1)).2.2.1
   clear hrow hcell hb1 c0
   go_wp2_with (first | (go_at_call 38; refine HX.out.mono ?_; rintro r w' ⟨rfl, rfl⟩) | fail)
   go_ret2
   exact ⟨by rw [HA.out]; rfl, HB1.out⟩
 | false =>
   go_enter Tryz.func10, Tryz.ntmps10
   go_wp2_with fail
   refine HF.out.mono ?_
   rintro r w1 ⟨v, rfl, hrow, hb1⟩
   obtain ⟨a, cp, rfl, hcell⟩ := ztu hrow
   have HX := hid (HCN.out a cp w1 (fun h => by obtain ⟨g, e1, _, _, h2⟩ := hcell h; exact ⟨g, e1, h2⟩))
   have HB1 := hid (HB.out.trans (hb1.mono HB.out.size))
   clear hrow hcell hb1 c0
   go_wp2_with (first | (go_at_call 38; refine HX.out.mono ?_; rintro r w' ⟨rfl, rfl⟩) | fail)
   go_ret2
   exact ⟨by rw [HA.out]; rfl, HB1.out⟩
def wordC (k : Nat) : Int := if 1 ≤ k ∧ k ≤ 10 then 0 else 2
theorem ybo {k : Nat} (h : k = 0 ∨ 11 ≤ k) : kw k = [] := by
 rcases h with rfl | h
 · rfl
 · unfold kw
   rw [List.getD_eq_getElem?_getD, List.getElem?_eq_none (by show 11 ≤ k; omega)]
   rfl
theorem ybp (k : Nat) (hk : k ≤ 255) (w : World) (hw : ∀ k, k < 11 → w.cell? ⟨0, k, none⟩ = some (.string (str (kw k)))) :
 Calls Tryz.prog 12 #[.int .u8 k] w fun r w' => r = .returned (.tuple #[.string (str (kw k)), .int .i64 (wordC k)]) ∧ Below w.heap.size w w' := by
 have HIK := hid (ztv (ybh k) w)
 by_cases h : 1 ≤ k ∧ k ≤ 10
 · rw [decide_eq_true (ybi h)] at HIK
   have HC : Hid (wordC k = 0) := hid (if_pos h)
   have HW : Hid (∀ W, Below w.heap.size w W → W.cell? ⟨0, k, none⟩ = some (.string (str (kw k)))) := hid (fun W hb => (hb.cell (World.block_lt_of_cell? _ _ (hw k (by omega)))).trans (hw k (by omega)))
   have h11 : k < 11 := by omega
   generalize kw k = t at *
   generalize wordC k = cw at *
   clear hw
   go_enter Tryz.func12, Tryz.ntmps12
   go_wp2_with fail
   refine HIK.out.mono ?_
   rintro r w1 ⟨rfl, hb1⟩
   have HB1 := hid hb1
   have hc := HW.out w1 hb1
   clear hb1
   go_wp2_with fail
   go_ret2
   exact ⟨by rw [HC.out]; rfl, HB1.out⟩
 · have hn : k = 0 ∨ 11 ≤ k := by omega
   rw [yav hn] at HIK
   have HC : Hid (wordC k = 2) := hid (if_neg h)
   have HK := hid (ybo hn)
   generalize kw k = t at *
   generalize wordC k = cw at *
   clear hw h hn
   go_enter Tryz.func12, Tryz.ntmps12
   go_wp2_with fail
   refine HIK.out.mono ?_
   rintro r w1 ⟨rfl, hb1⟩
   have HB1 := hid hb1
   clear hb1
   go_wp2_with fail
   go_ret2
   exact ⟨by rw [HC.out, HK.out]; rfl, HB1.out⟩
end EvA
end
end Go.Proofs.YtbiplmbcdhjiaaaGreatDoor
