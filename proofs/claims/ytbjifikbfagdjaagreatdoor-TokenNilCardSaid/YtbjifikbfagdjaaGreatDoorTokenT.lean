/-
  Package token: which texts may be tokens, whose one is, whether it is free.
-/
import Derived.Test.YtbjifikbfagdjaaGreatDoorFoldN
import Derived.Test.YtbjifikbfagdjaaGreatDoorSumCore
import Derived.Test.YtbjifikbfagdjaaGreatDoorErrTold
import Derived.Test.YtbjifikbfagdjaaGreatDoorErrTwo
namespace Go.Proofs.YtbjifikbfagdjaaGreatDoor
open Go.RowKit Go.Maps Go.Sort
namespace TokC
open StrC EvF EvC EvA TextR EvN FoldC
open ErrC (IsFault Vars ErrType)
set_option linter.unusedSimpArgs false
set_option linter.unusedVariables false
set_option maxRecDepth 100000

/-- may a byte stand in a token? -/
def okB (b : UInt8) : Bool := decide (33 ≤ b.toNat) && decide (b.toNat ≤ 126)
def tokB (l : List UInt8) : Bool := decide (1 ≤ l.length) && decide (l.length ≤ 64) && l.all okB
def tokC (l : List UInt8) : Int := if tokB l then 0 else 130
theorem tok_len {l : List UInt8} (h : ¬ (1 ≤ l.length ∧ l.length ≤ 64)) : tokC l = 130 := by
  unfold tokC tokB
  have : (decide (1 ≤ l.length) && decide (l.length ≤ 64)) = false := by
    rw [Bool.and_eq_false_iff, decide_eq_false_iff_not, decide_eq_false_iff_not]; omega
  rw [this]; rfl
theorem tok_bad {l : List UInt8} {j : Nat} (hj : j < l.length) (h : okB (l.getD j 0) = false) : tokC l = 130 := by
  unfold tokC tokB
  have : l.all okB = false := by
    cases ha : l.all okB with
    | false => rfl
    | true =>
      have := List.all_eq_true.1 ha (l.getD j 0) (by simp [hj])
      rw [h] at this
      cases this
  rw [this]; simp
theorem tok_good {l : List UInt8} (h : 1 ≤ l.length ∧ l.length ≤ 64) (ha : (l.take l.length).all okB = true) : tokC l = 0 := by
  unfold tokC tokB
  rw [List.take_length] at ha
  rw [ha, decide_eq_true h.1, decide_eq_true h.2]; rfl
theorem okB_take {l : List UInt8} (j : Nat) (hj : j < l.length) : (l.take (j + 1)).all okB = ((l.take j).all okB && okB (l.getD j 0)) := by
  rw [List.take_add_one, List.getElem?_eq_getElem hj, List.all_append]
  simp [hj]
theorem tidx (l : List UInt8) (j : Nat) (h : j < l.length) (w : World) : (Instr.index 9 (.string (str l)) (.int .i64 (j : Int))).run Tryz.prog w = .ok (.int .u8 ((l.getD j 0).toNat : Int)) w := by
  rw [run_index_string w 9 (str l) .i64 _ Tryz.underlying9, dif_pos ⟨by omega, by rw [str_size]; omega⟩]
  simp only [Int.toNat_natCast]
  have : l.getD j 0 = l[j] := by simp [h]
  rw [this]
  rfl
set_option maxHeartbeats 4000000 in
theorem tmay_any (l : List UInt8) (w : World) (hl : l.length ≤ 9223372036854775807) :
    Calls Tryz.prog 7 #[.string (str l)] w fun e w' => e = .returned (.int .i64 (tokC l)) ∧ w = w' := by
  by_cases hb : 1 ≤ l.length ∧ l.length ≤ 64
  rotate_left
  · have HC := Lib.hid (tok_len hb)
    have hsz := str_size l
    by_cases h1 : 1 ≤ l.length
    · have d1 : decide ((l.length : Int) < 1) = false := by rw [decide_eq_false_iff_not]; omega
      have d2 : decide ((64 : Int) < (l.length : Int)) = true := by rw [decide_eq_true_eq]; omega
      clear hb h1
      go_enter Tryz.func7, Tryz.ntmps7
      go_wp2_with fail
      go_ret
      exact ⟨by rw [HC.out]; rfl, rfl⟩
    · have d1 : decide ((l.length : Int) < 1) = true := by rw [decide_eq_true_eq]; omega
      clear hb h1
      go_enter Tryz.func7, Tryz.ntmps7
      go_wp2_with fail
      go_ret
      exact ⟨by rw [HC.out]; rfl, rfl⟩
  · have hsz := str_size l
    have d1 : decide ((l.length : Int) < 1) = false := by rw [decide_eq_false_iff_not]; omega
    have d2 : decide ((64 : Int) < (l.length : Int)) = false := by rw [decide_eq_false_iff_not]; omega
    have HL := Lib.hid hb
    clear hb
    go_enter Tryz.func7, Tryz.ntmps7
    go_wp2_with fail
    go_loopw [3, 14] (fun _ i wr => ∃ j : Nat, i = .int .i64 j ∧ j ≤ l.length ∧ Hid ((l.take j).all okB = true) ∧ Hid (w = wr)) (fun _ i _ => l.length - (intOf i).toNat)
    case atStart => exact ⟨0, rfl, Nat.zero_le _, Lib.hid rfl, Lib.hid rfl⟩
    case round =>
      obtain ⟨j, rfl, hj, HA, HW⟩ := hrel
      rename World => wr
      have hj64 : j ≤ 64 := by have := HL.out; omega
      by_cases hlt : j < l.length
      · have hdec : decide ((j : Int) < (l.length : Int)) = true := by simpa using hlt
        have hdec2 : decide (j < l.length) = true := by simpa using hlt
        have hix := tidx l j hlt
        have HT := Lib.hid (okB_take j hlt)
        have HB := Lib.hid (fun h => tok_bad (l := l) (j := j) hlt h)
        have hok : okB (l.getD j 0) = (decide (33 ≤ (l.getD j 0).toNat) && decide ((l.getD j 0).toNat ≤ 126)) := rfl
        have HOK := Lib.hid hok
        clear hok
        generalize (l.getD j 0).toNat = c at *
        generalize okB (l.getD j 0) = ob at *
        by_cases h33 : c < 33
        · have e1 : decide ((c : Int) < 33) = true := by rw [decide_eq_true_eq]; omega
          have HF : Hid (ob = false) := Lib.hid (by rw [HOK.out, decide_eq_false (by omega)]; rfl)
          clear h33
          go_wp2_with fail
          go_ret
          exact ⟨by rw [HB.out HF.out]; rfl, HW.out⟩
        · have e1 : decide ((c : Int) < 33) = false := by rw [decide_eq_false_iff_not]; omega
          by_cases h126 : 126 < c
          · have e2 : decide ((126 : Int) < (c : Int)) = true := by rw [decide_eq_true_eq]; omega
            have HF : Hid (ob = false) := Lib.hid (by rw [HOK.out, decide_eq_false (p := c ≤ 126) (by omega), Bool.and_false])
            clear h33 h126
            go_wp2_with fail
            go_ret
            exact ⟨by rw [HB.out HF.out]; rfl, HW.out⟩
          · have e2 : decide ((126 : Int) < (c : Int)) = false := by rw [decide_eq_false_iff_not]; omega
            have HF : Hid (ob = true) := Lib.hid (by rw [HOK.out, decide_eq_true (by omega), decide_eq_true (by omega)]; rfl)
            clear h33 h126
            go_wp2_with fail
            go_roundw
            case rel => exact ⟨j + 1, by go_num, by omega, Lib.hid (by rw [HT.out, HA.out, HF.out]; rfl), HW⟩
            case measure => simp [intOf]; omega
      · have hjl : j = l.length := by omega
        subst hjl
        have HG := Lib.hid (tok_good HL.out HA.out)
        go_wp2_with fail
        go_ret
        exact ⟨by rw [HG.out]; rfl, HW.out⟩
/-- the sum of what may be a token; 0 else -/
def tokS (l : List UInt8) : Int := if tokB l then SumM.fnv SumC.ofNone l else 0
theorem tokC_cases (l : List UInt8) : (tokB l = true ∧ tokC l = 0) ∨ (tokB l = false ∧ tokC l = 130) := by
  unfold tokC
  cases tokB l <;> simp
theorem tsum_any (l : List UInt8) (w : World) (hl : l.length ≤ maxLen) :
    Calls Tryz.prog 8 #[.string (str l)] w fun e w' => e = .returned (.tuple #[.int .u64 (tokS l), .int .i64 (tokC l)]) ∧ w = w' := by
  have HM := Lib.hid (tmay_any l w (by unfold maxLen at hl; omega))
  have HO := Lib.hid (SumC.of_any (str l) w (by rw [str_size]; exact hl))
  have hS : tokS l = if tokB l then SumM.fnv SumC.ofNone l else 0 := rfl
  rcases tokC_cases l with ⟨h1, h2⟩ | ⟨h1, h2⟩
  · rw [h1] at hS
    rw [h2] at HM ⊢
    have HS := Lib.hid hS
    clear hS h1 h2 hl
    go_enter Tryz.func8, Tryz.ntmps8
    go_wp2_with fail
    refine HM.out.mono ?_
    rintro e w' ⟨rfl, rfl⟩
    go_wp2_with fail
    refine HO.out.mono ?_
    rintro e w' ⟨rfl, rfl⟩
    go_wp2_with fail
    go_ret2
    exact ⟨by rw [HS.out]; rfl, rfl⟩
  · rw [h1] at hS
    rw [h2] at HM ⊢
    have HS := Lib.hid hS
    clear hS h1 h2 hl
    go_enter Tryz.func8, Tryz.ntmps8
    go_wp2_with fail
    refine HM.out.mono ?_
    rintro e w' ⟨rfl, rfl⟩
    go_wp2_with fail
    go_ret2
    exact ⟨by rw [HS.out]; rfl, rfl⟩
theorem Fits_nil (e : EvG) (w : World) : Calls Tryz.prog 35 #[.pointer none, evV e] w (FaultE 1 ⟨#[]⟩ (-1) w) := by
  have HF := Lib.hid (sfits_nil e (-1) (w.alloc (evO e)))
  have hB0 := alW w (evO e)
  have hs0 : (w.alloc (evO e)).heap.size = w.heap.size + 1 := by simp
  obtain ⟨c0, c1, c2, c3, c4, c5, c6, c7, c8, c9⟩ := ev_cells (heap_alloc_new w (evO e))
  have HB0 := Lib.hid hB0
  have HS0 := Lib.hid hs0
  clear hB0 hs0
  go_enter Tryz.func35, Tryz.ntmps35
  go_wp2_with fail
  refine HF.out.mono ?_
  rintro r w1 ⟨f, rfl, hf1, hf2, hb⟩
  have HF1 := Lib.hid hf1
  have HF2 := Lib.hid hf2
  have HB := Lib.hid (chW HB0.out hb)
  clear hf1 hf2 hb
  go_wp2_with fail
  go_ret
  exact ⟨f, rfl, HF1.out, by have := HF2.out; rw [HS0.out] at this; omega, HB.out⟩
theorem Fits_0 {w : World} {s : Nat} {h : Int} {m1 m2 m3 m4 m5 : Nat} (hh : w.heap[s]? = some (stO h m1 m2 m3 m4 m5)) : Calls Tryz.prog 35 #[pS s, evV (kindE 0)] w (FaultE 90 ⟨#[]⟩ (-1) w) := by
  have hB0 := alW w (evO (kindE 0))
  have HF := Lib.hid (sfits_0 (w := w.alloc (evO (kindE 0))) ((hB0.block s (Array.getElem?_eq_some_iff.1 hh).1).trans hh) (-1))
  have hs0 : (w.alloc (evO (kindE 0))).heap.size = w.heap.size + 1 := by simp
  obtain ⟨c0, c1, c2, c3, c4, c5, c6, c7, c8, c9⟩ := ev_cells (heap_alloc_new w (evO (kindE 0)))
  have HB0 := Lib.hid hB0
  have HS0 := Lib.hid hs0
  clear hB0 hs0 hh
  unfold kindE at *
  go_enter Tryz.func35, Tryz.ntmps35
  go_wp2_with fail
  refine HF.out.mono ?_
  rintro r w1 ⟨f, rfl, hf1, hf2, hb⟩
  have HF1 := Lib.hid hf1
  have HF2 := Lib.hid hf2
  have HB := Lib.hid (chW HB0.out hb)
  clear hf1 hf2 hb
  go_wp2_with fail
  go_ret
  exact ⟨f, rfl, HF1.out, by have := HF2.out; rw [HS0.out] at this; omega, HB.out⟩
theorem tthere_nil (w : World) : Calls Tryz.prog 21 #[.pointer none] w fun r w' => r = .returned (.bool false) ∧ Below w.heap.size w w' := by
  have HF := Lib.hid (Fits_nil (kindE 0) w)
  unfold kindE at HF
  go_enter Tryz.func21, Tryz.ntmps21
  go_wp2_with fail
  refine HF.out.mono ?_
  rintro r w1 ⟨f, rfl, hf1, hf2, hb⟩
  obtain ⟨d0, d1, d2, d3⟩ := fault_is hf1
  have HIS := Lib.hid (ErrC.is_one f 0 1 w1 d0 d3)
  have HB := Lib.hid hb
  clear hf1 hf2 hb d0 d1 d2 d3
  go_wp2_with fail
  refine HIS.out.mono ?_
  rintro r w2 ⟨rfl, rfl⟩
  have HB2 := Lib.hid (chW HB.out (alW w1 (.cells #[.iface 27 (.int .i64 1)] 36)))
  go_wp2_with fail
  go_ret
  exact ⟨rfl, HB2.out⟩
theorem tthere_st {w : World} {s : Nat} {h : Int} {m1 m2 m3 m4 m5 : Nat} (hh : w.heap[s]? = some (stO h m1 m2 m3 m4 m5)) : Calls Tryz.prog 21 #[pS s] w fun r w' => r = .returned (.bool true) ∧ Below w.heap.size w w' := by
  have HF := Lib.hid (Fits_0 hh)
  unfold kindE at HF
  clear hh
  go_enter Tryz.func21, Tryz.ntmps21
  go_wp2_with fail
  refine HF.out.mono ?_
  rintro r w1 ⟨f, rfl, hf1, hf2, hb⟩
  obtain ⟨d0, d1, d2, d3⟩ := fault_is hf1
  have HIS := Lib.hid (ErrU.is_one_no f 0 90 1 (by decide) w1 d0 d3)
  have HB := Lib.hid hb
  clear hf1 hf2 hb d0 d1 d2 d3
  go_wp2_with fail
  refine HIS.out.mono ?_
  rintro r w2 ⟨rfl, rfl⟩
  have HB2 := Lib.hid (chW HB.out (alW w1 (.cells #[.iface 27 (.int .i64 90)] 36)))
  go_wp2_with fail
  go_ret
  exact ⟨rfl, HB2.out⟩
/-- an answer beside a fault -/
def FaultP (v : Value) (c : Int) (w : World) (r : Ending) (w' : World) : Prop := ∃ f, r = .returned (.tuple #[v, fV f]) ∧ w'.heap[f]? = some (fO c ⟨#[]⟩ (-1)) ∧ w.heap.size ≤ f ∧ Below w.heap.size w w'
theorem who_nil (l : List UInt8) (w : World) : Calls Tryz.prog 11 #[.pointer none, .string (str l)] w (FaultP (.string ⟨#[]⟩) 1 w) := by
  have HT := Lib.hid (tthere_nil w)
  have HTF := Lib.hid (tfault_any 1)
  go_enter Tryz.func11, Tryz.ntmps11
  go_wp2_with fail
  refine HT.out.mono ?_
  rintro r w1 ⟨rfl, hb⟩
  have HB := Lib.hid hb
  clear hb
  go_wp2_with fail
  refine (HTF.out w1).mono ?_
  rintro r w2 ⟨f, rfl, hf1, hf2, hb2⟩
  have HF1 := Lib.hid hf1
  have HF2 := Lib.hid hf2
  have HB2 := Lib.hid (chW HB.out hb2)
  clear hf1 hf2 hb2
  go_wp2_with fail
  go_ret2
  exact ⟨f, rfl, HF1.out, Nat.le_trans HB.out.size HF2.out, HB2.out⟩
end TokC
end Go.Proofs.YtbjifikbfagdjaaGreatDoor
