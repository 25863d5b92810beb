/-
  What the proof of EventForms stands on, part 36.
-/
import Derived.Test.YtbiplmbcdhjiaaaGreatDoorT33
set_option linter.unusedSimpArgs false
set_option linter.unusedVariables false
set_option maxHeartbeats 16000000
namespace Go.Proofs.YtbiplmbcdhjiaaaGreatDoor
open Go.Lib (hid)
section
open Go.RowKit Go.Sort
namespace EvA
open StrC EvF EvC TextR CodeM
def ltr (x : Int) : UInt8 := if x = 0 then 119 else if x = 1 then 110 else if x = 2 then 118 else if x = 3 then 101 else if x = 4 then 115 else if x = 5 then 78 else if x = 6 then 122 else if x = 7 then 104 else 116
theorem yav {k : Nat} (h : k = 0 ∨ 11 ≤ k) : fieldsM k = [] := by
 unfold fieldsM
 split <;> first | omega | rfl
theorem yaw (k : Nat) : fldS k = (fieldsM k).map ltr := by
 rcases zxi (k := k) with rfl | rfl | rfl | rfl | rfl | rfl | rfl | rfl | rfl | rfl | h
 case inr.inr.inr.inr.inr.inr.inr.inr.inr.inr => rw [zxj h, yav h]; rfl
 all_goals rfl
theorem yax (k : Nat) : ∀ x ∈ fieldsM k, 0 ≤ x ∧ x ≤ 9 := by
 unfold fieldsM
 split <;> decide
theorem yay (k : Nat) : (fieldsM k).length ≤ 7 := by
 unfold fieldsM
 split <;> decide
theorem yaz {f : Int → B} {L : List Int} {j : Nat} {A c Q : B} {x : Int} (hA : A = c ++ (L.take j).flatMap f) (hj : j < L.length) (hx : L.getD j 0 = x) (hQ : Q = f x) : A ++ Q = c ++ (L.take (j + 1)).flatMap f := by
 have e : L[j]? = some x := by rw [← hx]; simp [hj]
 rw [List.take_add_one, e, hA, hQ]
 simp
theorem yba {f : B × B → B} {L : List (B × B)} {i : Nat} {A c : B} {p : B × B} (hA : A = c ++ (L.take i).flatMap f) (hi : L[i]? = some p) : A ++ f p = c ++ (L.take (i + 1)).flatMap f := by
 rw [List.take_add_one, hi, hA]
 simp
theorem addB (a b : B) (h : a.length + b.length ≤ 4611686018427387904) : ∀ w : World, (Op.stringOp .add (str a) (str b)).run Tryz.prog w = .ok (.string (str (a ++ b))) w := fun w => zbn a b w h
theorem ybb (a : B) (f g : B → B) (L : List (B × B)) : (a :: L.flatMap (fun p => [f p.1, g p.2])).flatten = a ++ L.flatMap (fun p => f p.1 ++ g p.2) := by
 rw [List.flatten_cons]
 congr 1
 induction L with
 | nil => rfl
 | cons p r ih => rw [List.flatMap_cons, List.flatten_append, ih, List.flatMap_cons]; simp
theorem ybc (l : B) (h : l.length ≤ 1000) : (textB l).length ≤ 1010 := by
 unfold textB
 have := CodeC.zyo l.length (by omega)
 rw [List.length_append]
 omega
set_option maxRecDepth 100000 in
theorem ybd (e : EvG) (hk : e.k ≤ 255) (hsm : EvSm e) (w : World) (hN : NeIn w e.na e.nc e.needs) :
 Calls Tryz.prog 17 #[evV e] w fun r w' => r = .returned (.string (str (bytesM e (fieldsM e.k)))) ∧ Below w.heap.size w w' := by
 have HB := hid (alW w (evO e))
 have HRW : Hid (∀ W, Below (w.heap.size + 1) (w.alloc (evO e)) W → W.heap[w.heap.size]? = some (evO e)) := hid (fun W hb => (hb.block _ (by simp)).trans (heap_alloc_new w (evO e)))
 have HS0 : Hid ((w.alloc (evO e)).heap.size = w.heap.size + 1) := hid (by simp)
 have HN := hid hN
 have HSM := hid hsm
 have HF := hid (fun W => zxk e.k W)
 have HLT : Hid (∀ j, j < (fieldsM e.k).length → (fldS e.k).getD j 0 = ltr ((fieldsM e.k).getD j 0)) := hid (fun j hj => by rw [yaw]; simp [hj])
 have HFD : Hid (∀ j, j < (fieldsM e.k).length → 0 ≤ (fieldsM e.k).getD j 0 ∧ (fieldsM e.k).getD j 0 ≤ 9) := hid (fun j hj => yax e.k _ (by simp [hj]))
 have hll : (fldS e.k).length = (fieldsM e.k).length := by rw [yaw, List.length_map]
 have hl7 := yay e.k
 have HBM : Hid (∀ A, A = [UInt8.ofNat e.k] ++ (fieldsM e.k).flatMap (fun x => (partB e x).flatten) → A = bytesM e (fieldsM e.k)) := hid (fun A h => h)
 generalize bytesM e (fieldsM e.k) = BM at *
 generalize fldS e.k = l at *
 generalize fieldsM e.k = L at *
 have hsz := zbl l
 obtain ⟨c0, -, -, -, -, -, -, -, -, -⟩ := ztd (HRW.out _ (Below.refl _ _))
 have hcv := zbs e.k (UInt8.ofNat e.k) (by simp; omega) (w.alloc (evO e))
 rw [show (w.alloc (evO e)).heap.size = w.heap.size + 1 from by simp] at hcv
 clear hN hsm hk
 go_enter Tryz.func17, Tryz.ntmps17
 go_wp2_with fail
 have HW1 : Hid (Below (w.heap.size + 1) (w.alloc (evO e)) ((w.alloc (evO e)).alloc (.cells #[.int .u8 e.k] 5))) := hid ((alW _ _).mono (by simp))
 have c0' := (ztd (HRW.out _ HW1.out)).1
 clear c0 hcv
 go_wp2_with (first | (go_at_call 41; refine (HF.out _).mono ?_; rintro r w' ⟨rfl, rfl⟩) | fail)
 clear c0'
 go_loopw [3, 5, 6] (fun vs vi _ wr => ∃ (j : Nat) (A : B), vs = .string (str A) ∧ vi = .int .i64 j ∧ j ≤ L.length ∧ A.length ≤ 200000 * j + 20 ∧ Hid (A = [UInt8.ofNat e.k] ++ (L.take j).flatMap (fun x => (partB e x).flatten)) ∧ Hid (Below (w.heap.size + 1) (w.alloc (evO e)) wr)) (fun _ vi _ _ => L.length - (intOf vi).toNat)
 case atStart => exact ⟨0, [UInt8.ofNat e.k], rfl, rfl, Nat.zero_le _, by simp, hid (by simp), HW1⟩
 case round =>
  obtain ⟨j, A, rfl, rfl, hj, hAl, HA, HI⟩ := hrel
  rename World => wr
  clear HW1
  by_cases hlt : j < L.length
  · have hdec : decide (j < l.length) = true := decide_eq_true (by omega)
    have HST : Hid (∀ x Q, L.getD j 0 = x → Q = (partB e x).flatten → A ++ Q = [UInt8.ofNat e.k] ++ (L.take (j + 1)).flatMap (fun x => (partB e x).flatten)) := hid (fun x Q hx hQ => yaz HA.out hlt hx hQ)
    have hidx := zbo l (j : Int) j rfl (by omega : j < l.length) wr
    rw [HLT.out j hlt] at hidx
    obtain ⟨f0, f9⟩ := HFD.out j hlt
    have hx : L.getD j 0 = 0 ∨ L.getD j 0 = 1 ∨ L.getD j 0 = 2 ∨ L.getD j 0 = 3 ∨ L.getD j 0 = 4 ∨ L.getD j 0 = 5 ∨ L.getD j 0 = 6 ∨ L.getD j 0 = 7 ∨ L.getD j 0 = 8 ∨ L.getD j 0 = 9 := by omega
    clear f0 f9 HA
    rcases hx with hx | hx | hx | hx | hx | hx | hx | hx | hx | hx <;> rw [hx] at hidx <;> replace HST := hid (fun Q => HST.out _ Q hx) <;> clear hx
    · replace hidx : (Instr.index 9 (.string (str l)) (.int .i64 (j : Int))).run Tryz.prog wr = .ok (.int .u8 119) wr := hidx
      have b1 : wr.cell? ⟨w.heap.size, 1, none⟩ = some (.string (str e.who)) := by simp [World.cell?, HRW.out _ HI.out]
      have HC : Hid (Calls Tryz.prog 42 #[.string (str e.who)] wr fun r w' => r = .returned (.string (str (textB e.who))) ∧ Below wr.heap.size wr w') := hid (CodeC.zyp (str e.who) wr (by rw [zbl]; have := HSM.out.who; omega))
      have hbd : (textB e.who).length ≤ 1010 := (ybc _ HSM.out.who)
      go_wp2_with fail
      refine HC.out.mono ?_
      rintro r w3 ⟨rfl, hb3⟩
      have HI3 := hid (HI.out.trans (hb3.mono (Nat.le_trans (Nat.le_of_eq HS0.out.symm) HI.out.size)))
      have hadd := addB A (textB e.who) (by omega) w3
      have HNX := hid (HST.out (textB e.who) (by simp [partB, partG]))
      clear hb3 b1 HC hidx HST
      go_wp2_with fail
      go_roundw
      case rel => exact ⟨j + 1, A ++ (textB e.who), rfl, by go_num, hlt, by rw [List.length_append]; omega, HNX, HI3⟩
      case measure => simp [intOf]; omega
    · replace hidx : (Instr.index 9 (.string (str l)) (.int .i64 (j : Int))).run Tryz.prog wr = .ok (.int .u8 110) wr := hidx
      have b1 : wr.cell? ⟨w.heap.size, 2, none⟩ = some (.string (str e.name)) := by simp [World.cell?, HRW.out _ HI.out]
      have HC : Hid (Calls Tryz.prog 42 #[.string (str e.name)] wr fun r w' => r = .returned (.string (str (textB e.name))) ∧ Below wr.heap.size wr w') := hid (CodeC.zyp (str e.name) wr (by rw [zbl]; have := HSM.out.name; omega))
      have hbd : (textB e.name).length ≤ 1010 := (ybc _ HSM.out.name)
      go_wp2_with fail
      refine HC.out.mono ?_
      rintro r w3 ⟨rfl, hb3⟩
      have HI3 := hid (HI.out.trans (hb3.mono (Nat.le_trans (Nat.le_of_eq HS0.out.symm) HI.out.size)))
      have hadd := addB A (textB e.name) (by omega) w3
      have HNX := hid (HST.out (textB e.name) (by simp [partB, partG]))
      clear hb3 b1 HC hidx HST
      go_wp2_with fail
      go_roundw
      case rel => exact ⟨j + 1, A ++ (textB e.name), rfl, by go_num, hlt, by rw [List.length_append]; omega, HNX, HI3⟩
      case measure => simp [intOf]; omega
    · replace hidx : (Instr.index 9 (.string (str l)) (.int .i64 (j : Int))).run Tryz.prog wr = .ok (.int .u8 118) wr := hidx
      have b1 : wr.cell? ⟨w.heap.size, 3, none⟩ = some (.string (str e.ver)) := by simp [World.cell?, HRW.out _ HI.out]
      have HC : Hid (Calls Tryz.prog 42 #[.string (str e.ver)] wr fun r w' => r = .returned (.string (str (textB e.ver))) ∧ Below wr.heap.size wr w') := hid (CodeC.zyp (str e.ver) wr (by rw [zbl]; have := HSM.out.ver; omega))
      have hbd : (textB e.ver).length ≤ 1010 := (ybc _ HSM.out.ver)
      go_wp2_with fail
      refine HC.out.mono ?_
      rintro r w3 ⟨rfl, hb3⟩
      have HI3 := hid (HI.out.trans (hb3.mono (Nat.le_trans (Nat.le_of_eq HS0.out.symm) HI.out.size)))
      have hadd := addB A (textB e.ver) (by omega) w3
      have HNX := hid (HST.out (textB e.ver) (by simp [partB, partG]))
      clear hb3 b1 HC hidx HST
      go_wp2_with fail
      go_roundw
      case rel => exact ⟨j + 1, A ++ (textB e.ver), rfl, by go_num, hlt, by rw [List.length_append]; omega, HNX, HI3⟩
      case measure => simp [intOf]; omega
    · replace hidx : (Instr.index 9 (.string (str l)) (.int .i64 (j : Int))).run Tryz.prog wr = .ok (.int .u8 101) wr := hidx
      have b1 : wr.cell? ⟨w.heap.size, 4, none⟩ = some (.slice e.na e.needs.length e.nc) := by simp [World.cell?, HRW.out _ HI.out]
      have hfew := HSM.out.few
      have HC : Hid (Calls Tryz.prog 44 #[.int .u64 e.needs.length] wr fun r w' => r = .returned (.string (str (uintB e.needs.length))) ∧ Below wr.heap.size wr w') := hid (CodeC.zym e.needs.length wr (by omega))
      have hcv : IntKind.u64.wrap (e.needs.length : Int) = e.needs.length := IntWalk.u64_in _ ⟨by omega, by omega⟩
      have hbd : (uintB e.needs.length).length ≤ 10 := CodeC.zyo _ (by omega)
      go_wp2_with fail
      refine HC.out.mono ?_
      rintro r w3 ⟨rfl, hb3⟩
      have HI3 := hid (HI.out.trans (hb3.mono (Nat.le_trans (Nat.le_of_eq HS0.out.symm) HI.out.size)))
      have hadd := addB A (uintB e.needs.length) (by omega) w3
      obtain ⟨A1, hA1⟩ : ∃ A1, A ++ uintB e.needs.length = A1 := ⟨_, rfl⟩
      rw [hA1] at hadd
      have hA1l : A1.length ≤ A.length + 10 := by rw [← hA1, List.length_append]; omega
      have HA1 := hid hA1
      have HNX : Hid (A1 ++ e.needs.flatMap (fun p => textB p.1 ++ textB p.2) = [UInt8.ofNat e.k] ++ (L.take (j + 1)).flatMap (fun x => (partB e x).flatten)) := hid (by rw [← hA1, List.append_assoc]; exact HST.out _ (by rw [← ybb]; rfl))
      clear hA1 hb3 b1 HC hidx HST hcv
      go_wp2_with fail
      go_loopw [3, 6] (fun vs vi wx => ∃ (i : Nat) (A2 : B), vs = .string (str A2) ∧ vi = .int .i64 i ∧ i ≤ e.needs.length ∧ A2.length ≤ 2100 * i + A1.length ∧ Hid (A2 = A1 ++ (e.needs.take i).flatMap (fun p => textB p.1 ++ textB p.2)) ∧ Hid (Below (w.heap.size + 1) (w.alloc (evO e)) wx)) (fun _ vi _ => e.needs.length - (intOf vi).toNat)
      case atStart => exact ⟨0, A1, rfl, rfl, Nat.zero_le _, by omega, hid (by simp), HI3⟩
      case round =>
       obtain ⟨i, A2, rfl, rfl, hi, hA2l, HA2, HI4⟩ := hrel
       rename World => wx
       clear hadd
       have HWX := hid (HB.out.trans (HI4.out.mono (by omega : w.heap.size ≤ w.heap.size + 1)))
       have b4 : wx.cell? ⟨w.heap.size, 4, none⟩ = some (.slice e.na e.needs.length e.nc) := by simp [World.cell?, HRW.out _ HI4.out]
       by_cases hi2 : i < e.needs.length
       · have hdec2 : decide (i < e.needs.length) = true := decide_eq_true hi2
         obtain ⟨g, o, p, hp, hx, ha, k0, k1⟩ := (HN.out.gr HWX.out).at i hi2
         obtain ⟨hp1, hp2⟩ := HSM.out.need p hp
         rw [ha] at b4
         have HNS := hid (yba (f := fun p => textB p.1 ++ textB p.2) HA2.out hx)
         have hl1 := ybc p.1 hp1
         have hl2 := ybc p.2 hp2
         have hadd1 := addB A2 (textB p.1) (by omega)
         obtain ⟨A3, hA3⟩ : ∃ A3, A2 ++ textB p.1 = A3 := ⟨_, rfl⟩
         rw [hA3] at hadd1
         have hA3l : A3.length ≤ A2.length + 1010 := by rw [← hA3, List.length_append]; omega
         have hadd2 := addB A3 (textB p.2) (by omega)
         obtain ⟨A4, hA4⟩ : ∃ A4, A3 ++ textB p.2 = A4 := ⟨_, rfl⟩
         rw [hA4] at hadd2
         have hA4l : A4.length ≤ A3.length + 1010 := by rw [← hA4, List.length_append]; omega
         have HNS4 : Hid (A4 = A1 ++ (e.needs.take (i + 1)).flatMap (fun p => textB p.1 ++ textB p.2)) := hid (by rw [← HNS.out, ← hA4, ← hA3, List.append_assoc])
         have HT1 : Hid (∀ W, Calls Tryz.prog 42 #[.string (str p.1)] W fun r w' => r = .returned (.string (str (textB p.1))) ∧ Below W.heap.size W w') := hid (fun W => CodeC.zyp (str p.1) W (by rw [zbl]; omega))
         have HT2 : Hid (∀ W, Calls Tryz.prog 42 #[.string (str p.2)] W fun r w' => r = .returned (.string (str (textB p.2))) ∧ Below W.heap.size W w') := hid (fun W => CodeC.zyp (str p.2) W (by rw [zbl]; omega))
         clear hp hx ha hA3 hA4 HA2 HNS
         generalize textB p.1 = t1 at *
         generalize textB p.2 = t2 at *
         go_upto_region 28 with fail
         have cT1 : ∀ d os, Calls Tryz.prog 42 #[.string (str p.1)] (Go.Sort.grow (redrawn wx d) os) _ := fun d os => Calls.regrown_of (HT1.out _)
         have cT2 : ∀ d os, Calls Tryz.prog 42 #[.string (str p.2)] (Go.Sort.grow (redrawn wx d) os) _ := fun d os => Calls.regrown_of (HT2.out _)
         have kb := cell_regrown b4
         have k0' := cell_regrown k0
         have k1' := cell_regrown k1
         clear b4 k0 k1
         refine wp_region_quiet_below (by kernel_rfl) (by kernel_rfl) ?_
         repeat (go_big_quiet_step (first | (with_reducible exact cT1 _ _) | (with_reducible exact cT2 _ _)))
         refine wpQuiet_nil ?_
         intro _ hw'
         obtain ⟨⟨dq, osq⟩, hw''⟩ := hw'
         subst hw''
         have HI5 := hid (HI4.out.trans ((below_regrown wx dq osq).mono (Nat.le_trans (Nat.le_of_eq HS0.out.symm) HI4.out.size)))
         clear cT1 cT2 kb k0' k1' hadd1 hadd2
         go_wp2_with fail
         go_roundw
         case rel => exact ⟨i + 1, A4, rfl, by go_num, hi2, by omega, HNS4, HI5⟩
         case measure => simp [intOf]; omega
       · have hie : i = e.needs.length := by omega
         have hdec2 : decide (i < e.needs.length) = false := decide_eq_false hi2
         have HE := hid (show A2 = [UInt8.ofNat e.k] ++ (L.take (j + 1)).flatMap (fun x => (partB e x).flatten) by rw [HA2.out, hie, List.take_length]; exact HNX.out)
         go_wp2_with fail
         go_roundw
         case rel => exact ⟨j + 1, A2, rfl, by go_num, hlt, by omega, HE, HI4⟩
         case measure => simp [intOf]; omega
    · replace hidx : (Instr.index 9 (.string (str l)) (.int .i64 (j : Int))).run Tryz.prog wr = .ok (.int .u8 115) wr := hidx
      have b1 : wr.cell? ⟨w.heap.size, 5, none⟩ = some (.int .u64 e.sum) := by simp [World.cell?, HRW.out _ HI.out]
      have HC : Hid (Calls Tryz.prog 43 #[.int .u64 e.sum] wr fun r w' => r = .returned (.string (str (wordB e.sum 8))) ∧ Below wr.heap.size wr w') := hid (CodeC.zyi e.sum wr HSM.out.sum)
      have hbd : (wordB e.sum 8).length ≤ 1010 := (by rw [zwq]; omega)
      go_wp2_with fail
      refine HC.out.mono ?_
      rintro r w3 ⟨rfl, hb3⟩
      have HI3 := hid (HI.out.trans (hb3.mono (Nat.le_trans (Nat.le_of_eq HS0.out.symm) HI.out.size)))
      have hadd := addB A (wordB e.sum 8) (by omega) w3
      have HNX := hid (HST.out (wordB e.sum 8) (by simp [partB, partG]))
      clear hb3 b1 HC hidx HST
      go_wp2_with fail
      go_roundw
      case rel => exact ⟨j + 1, A ++ (wordB e.sum 8), rfl, by go_num, hlt, by rw [List.length_append]; omega, HNX, HI3⟩
      case measure => simp [intOf]; omega
    · replace hidx : (Instr.index 9 (.string (str l)) (.int .i64 (j : Int))).run Tryz.prog wr = .ok (.int .u8 78) wr := hidx
      have b1 : wr.cell? ⟨w.heap.size, 6, none⟩ = some (.int .u32 e.n) := by simp [World.cell?, HRW.out _ HI.out]
      have HC : Hid (Calls Tryz.prog 44 #[.int .u64 e.n] wr fun r w' => r = .returned (.string (str (uintB e.n))) ∧ Below wr.heap.size wr w') := hid (CodeC.zym e.n wr (by have := HSM.out.n; omega))
      have hcv : IntKind.u64.wrap (e.n : Int) = e.n := IntWalk.u64_in _ ⟨by omega, by have := HSM.out.n; omega⟩
      have hbd : (uintB e.n).length ≤ 1010 := (Nat.le_trans (CodeC.zyo e.n (by have := HSM.out.n; omega)) (by decide))
      go_wp2_with fail
      refine HC.out.mono ?_
      rintro r w3 ⟨rfl, hb3⟩
      have HI3 := hid (HI.out.trans (hb3.mono (Nat.le_trans (Nat.le_of_eq HS0.out.symm) HI.out.size)))
      have hadd := addB A (uintB e.n) (by omega) w3
      have HNX := hid (HST.out (uintB e.n) (by simp [partB, partG]))
      clear hb3 b1 HC hidx HST
      go_wp2_with fail
      go_roundw
      case rel => exact ⟨j + 1, A ++ (uintB e.n), rfl, by go_num, hlt, by rw [List.length_append]; omega, HNX, HI3⟩
      case measure => simp [intOf]; omega
    · replace hidx : (Instr.index 9 (.string (str l)) (.int .i64 (j : Int))).run Tryz.prog wr = .ok (.int .u8 122) wr := hidx
      have b1 : wr.cell? ⟨w.heap.size, 7, none⟩ = some (.int .u32 e.size) := by simp [World.cell?, HRW.out _ HI.out]
      have HC : Hid (Calls Tryz.prog 44 #[.int .u64 e.size] wr fun r w' => r = .returned (.string (str (uintB e.size))) ∧ Below wr.heap.size wr w') := hid (CodeC.zym e.size wr (by have := HSM.out.size; omega))
      have hcv : IntKind.u64.wrap (e.size : Int) = e.size := IntWalk.u64_in _ ⟨by omega, by have := HSM.out.size; omega⟩
      have hbd : (uintB e.size).length ≤ 1010 := (Nat.le_trans (CodeC.zyo e.size (by have := HSM.out.size; omega)) (by decide))
      go_wp2_with fail
      refine HC.out.mono ?_
      rintro r w3 ⟨rfl, hb3⟩
      have HI3 := hid (HI.out.trans (hb3.mono (Nat.le_trans (Nat.le_of_eq HS0.out.symm) HI.out.size)))
      have hadd := addB A (uintB e.size) (by omega) w3
      have HNX := hid (HST.out (uintB e.size) (by simp [partB, partG]))
      clear hb3 b1 HC hidx HST
      go_wp2_with fail
      go_roundw
      case rel => exact ⟨j + 1, A ++ (uintB e.size), rfl, by go_num, hlt, by rw [List.length_append]; omega, HNX, HI3⟩
      case measure => simp [intOf]; omega
    · replace hidx : (Instr.index 9 (.string (str l)) (.int .i64 (j : Int))).run Tryz.prog wr = .ok (.int .u8 104) wr := hidx
      have b1 : wr.cell? ⟨w.heap.size, 8, none⟩ = some (.string (str e.holder)) := by simp [World.cell?, HRW.out _ HI.out]
      have HC : Hid (Calls Tryz.prog 42 #[.string (str e.holder)] wr fun r w' => r = .returned (.string (str (textB e.holder))) ∧ Below wr.heap.size wr w') := hid (CodeC.zyp (str e.holder) wr (by rw [zbl]; have := HSM.out.holder; omega))
      have hbd : (textB e.holder).length ≤ 1010 := (ybc _ HSM.out.holder)
      go_wp2_with fail
      refine HC.out.mono ?_
      rintro r w3 ⟨rfl, hb3⟩
      have HI3 := hid (HI.out.trans (hb3.mono (Nat.le_trans (Nat.le_of_eq HS0.out.symm) HI.out.size)))
      have hadd := addB A (textB e.holder) (by omega) w3
      have HNX := hid (HST.out (textB e.holder) (by simp [partB, partG]))
      clear hb3 b1 HC hidx HST
      go_wp2_with fail
      go_roundw
      case rel => exact ⟨j + 1, A ++ (textB e.holder), rfl, by go_num, hlt, by rw [List.length_append]; omega, HNX, HI3⟩
      case measure => simp [intOf]; omega
    · replace hidx : (Instr.index 9 (.string (str l)) (.int .i64 (j : Int))).run Tryz.prog wr = .ok (.int .u8 116) wr := hidx
      have b1 : wr.cell? ⟨w.heap.size, 9, none⟩ = some (.string (str e.note)) := by simp [World.cell?, HRW.out _ HI.out]
      have HC : Hid (Calls Tryz.prog 42 #[.string (str e.note)] wr fun r w' => r = .returned (.string (str (textB e.note))) ∧ Below wr.heap.size wr w') := hid (CodeC.zyp (str e.note) wr (by rw [zbl]; have := HSM.out.note; omega))
      have hbd : (textB e.note).length ≤ 1010 := (ybc _ HSM.out.note)
      go_wp2_with fail
      refine HC.out.mono ?_
      rintro r w3 ⟨rfl, hb3⟩
      have HI3 := hid (HI.out.trans (hb3.mono (Nat.le_trans (Nat.le_of_eq HS0.out.symm) HI.out.size)))
      have hadd := addB A (textB e.note) (by omega) w3
      have HNX := hid (HST.out (textB e.note) (by simp [partB, partG]))
      clear hb3 b1 HC hidx HST
      go_wp2_with fail
      go_roundw
      case rel => exact ⟨j + 1, A ++ (textB e.note), rfl, by go_num, hlt, by rw [List.length_append]; omega, HNX, HI3⟩
      case measure => simp [intOf]; omega
    · replace hidx : (Instr.index 9 (.string (str l)) (.int .i64 (j : Int))).run Tryz.prog wr = .ok (.int .u8 116) wr := hidx
      have b1 : wr.cell? ⟨w.heap.size, 9, none⟩ = some (.string (str e.note)) := by simp [World.cell?, HRW.out _ HI.out]
      have HC : Hid (Calls Tryz.prog 42 #[.string (str e.note)] wr fun r w' => r = .returned (.string (str (textB e.note))) ∧ Below wr.heap.size wr w') := hid (CodeC.zyp (str e.note) wr (by rw [zbl]; have := HSM.out.note; omega))
      have hbd : (textB e.note).length ≤ 1010 := (ybc _ HSM.out.note)
      go_wp2_with fail
      refine HC.out.mono ?_
      rintro r w3 ⟨rfl, hb3⟩
      have HI3 := hid (HI.out.trans (hb3.mono (Nat.le_trans (Nat.le_of_eq HS0.out.symm) HI.out.size)))
      have hadd := addB A (textB e.note) (by omega) w3
      have HNX := hid (HST.out (textB e.note) (by simp [partB, partG]))
      clear hb3 b1 HC hidx HST
      go_wp2_with fail
      go_roundw
      case rel => exact ⟨j + 1, A ++ (textB e.note), rfl, by go_num, hlt, by rw [List.length_append]; omega, HNX, HI3⟩
      case measure => simp [intOf]; omega
  · have hdec : decide (j < l.length) = false := decide_eq_false (by omega)
    have hje : j = L.length := by omega
    have HR := hid (HBM.out A (by rw [HA.out, hje, List.take_length]))
    go_wp2_with fail
    go_ret
    exact ⟨by rw [HR.out]; rfl, HB.out.trans (HI.out.mono (by omega))⟩
end EvA
end
end Go.Proofs.YtbiplmbcdhjiaaaGreatDoor
