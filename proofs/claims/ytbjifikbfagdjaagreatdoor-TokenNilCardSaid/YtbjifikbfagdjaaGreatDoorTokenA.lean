/-
  The statements' own 'alive' of layer 13: true; the law TokenNil.
-/
import Derived.Test.YtbjifikbfagdjaaGreatDoorTokenF
import Derived.Test.YtbjifikbfagdjaaGreatDoorFoldO
namespace Go.Proofs.YtbjifikbfagdjaaGreatDoor
open Go.RowKit Go.Maps Go.Sort
namespace TokC
open StrC EvF EvC EvA TextR EvN FoldC
open VerC (Vw)
open ErrC (IsFault Vars ErrType)
set_option linter.unusedSimpArgs false
set_option linter.unusedVariables false
set_option maxRecDepth 100000

abbrev aliceL : List UInt8 := [97, 108, 105, 99, 101]
def e1 : EvG := ⟨1, [97, 108, 105, 99, 101], [], [], none, 0, [], 16654208175385433931, 0, 0, [], []⟩
theorem tokS_abc : tokS [97, 98, 99] = 16654208175385433931 := by decide +kernel
theorem tokS_abd : tokS [97, 98, 100] = 16654213672943574986 := by decide +kernel
theorem tokB_abc : tokB [97, 98, 99] = true := by decide +kernel
theorem tokB_abd : tokB [97, 98, 100] = true := by decide +kernel
theorem tokC_abc : tokC [97, 98, 99] = 0 := by decide +kernel
theorem tokC_blank : tokC [97, 32, 98] = 130 := by decide +kernel
theorem may_e1 : mayL e1 true [0, 4] = true := by decide +kernel
theorem sz_e1 : EvSz e1 := ⟨by decide, by decide, by decide, by decide⟩
abbrev D1a : DataW Unit := (DataW.map [] : DataW Unit).put (keyS aliceL) (.lit (.int .u64 (16654208175385433931 : Nat)))
theorem key_a : WideAt.IsKeyLit (keyS aliceL) := trivial
theorem has_D1a (x : List UInt8) : Maps.has D1a (.string x) = decide (x = aliceL) := by
  by_cases hx : x = aliceL
  · subst hx
    rw [decide_eq_true rfl]
    exact has_put_same isMap_empty key_a _
  · rw [decide_eq_false hx]
    have : (Lit.string x) ≠ keyS aliceL := fun h => hx (by injection h)
    rw [has_put_other this]
    rfl
theorem keys_D1a : Keys D1a [aliceL] := ⟨by simp, fun x => by rw [has_D1a]; simp⟩
theorem size_D1a : Maps.size D1a ≤ 65536 := by decide +kernel
theorem at_D1a : D1a.atKey (keyS aliceL) (.lit (.int .u64 0)) = .lit (.int .u64 16654208175385433931) := by
  exact atKey_put_same isMap_empty key_a _ _
set_option maxHeartbeats 8000000 in
theorem alive_any (w : World) (hv : Vw w) (he : ErrType w) (t : ByteArray) (ht : w.cell? ⟨1, 1, none⟩ = some (.string t)) :
    Calls Tryz.prog 15 #[] w fun e w' => e = .returned (.bool true) ∧ Below w.heap.size w w' := by
  have HSUM : Hid (∀ W, Calls Tryz.prog 8 #[.string ⟨#[97, 98, 99]⟩] W fun e w' => e = .returned (.tuple #[.int .u64 16654208175385433931, .int .i64 0]) ∧ W = w') := Lib.hid (fun W => by
    have := tsum_any [97, 98, 99] W (by decide)
    rw [tokS_abc, tokC_abc] at this
    exact this)
  have HMAY : Hid (∀ W, Calls Tryz.prog 7 #[.string ⟨#[97, 32, 98]⟩] W fun e w' => e = .returned (.int .i64 130) ∧ W = w') := Lib.hid (fun W => by
    have := tmay_any [97, 32, 98] W (by decide)
    rw [tokC_blank] at this
    exact this)
  have hB1 := alW w (evO e1)
  have HOF := Lib.hid (of_1 e1 (heap_alloc_new w (evO e1)) rfl sz_e1 (by decide) (hv.gr hB1) t ((hB1.cell (World.block_lt_of_cell? _ _ ht)).trans ht) rfl rfl rfl may_e1 (by decide))
  have HWHO : Hid (∀ W s m1 m2 m3 m4 m5, StA W s 1 m1 m2 m3 m4 m5 1 0 D1a (.map []) → Calls Tryz.prog 11 #[pS s, .string ⟨#[97, 98, 99]⟩] W fun r w' => r = .returned (.tuple #[.string ⟨#[97, 108, 105, 99, 101]⟩, .nilIface]) ∧ Below W.heap.size W w') := Lib.hid (fun W s m1 m2 m3 m4 m5 hs => by
    have := who_st hs size_D1a keys_D1a (by decide) (by decide) (fun _ => 16654208175385433931) (fun k hk => by rw [List.mem_singleton] at hk; subst hk; exact at_D1a) [97, 98, 99] (by decide) tokB_abc
    rw [tokS_abc] at this
    exact this)
  have HFREE : Hid (∀ W s m1 m2 m3 m4 m5, ErrType W → StA W s 1 m1 m2 m3 m4 m5 1 0 D1a (.map []) → Calls Tryz.prog 13 #[pS s, .string ⟨#[97, 98, 100]⟩] W fun r w' => r = .returned (.tuple #[.bool true, .nilIface]) ∧ Below W.heap.size W w') := Lib.hid (fun W s m1 m2 m3 m4 m5 hE hs => by
    have := who_st hs size_D1a keys_D1a (by decide) (by decide) (fun _ => 16654208175385433931) (fun k hk => by rw [List.mem_singleton] at hk; subst hk; exact at_D1a) [97, 98, 100] (by decide) tokB_abd
    rw [tokS_abd] at this
    exact free_of this hE)
  have HE := Lib.hid he
  have HB1 := Lib.hid hB1
  clear hv he ht hB1
  go_enter Tryz.func15, Tryz.ntmps15
  go_wp2_with fail
  refine (HSUM.out _).mono ?_
  rintro r w1 ⟨rfl, rfl⟩
  go_wp2_with fail
  refine HOF.out.mono ?_
  rintro r w2 ⟨⟨s, m1, m2, m3, m4, m5, rfl, hs, -, -, -, -, -⟩, hb2⟩
  have HS2 := Lib.hid hs
  have HB2 := Lib.hid (chW HB1.out hb2)
  clear hs hb2
  go_wp2_with fail
  refine (HWHO.out _ _ _ _ _ _ _ HS2.out).mono ?_
  rintro r w3 ⟨rfl, hb3⟩
  have HS3 := Lib.hid (HS2.out.gr hb3)
  have HB3 := Lib.hid (chW HB2.out hb3)
  clear hb3
  go_wp2_with fail
  refine (HFREE.out _ _ _ _ _ _ _ (errT_gr HE.out HB3.out) HS3.out).mono ?_
  rintro r w4 ⟨rfl, hb4⟩
  have HB4 := Lib.hid (chW HB3.out hb4)
  clear hb4
  go_wp2_with (first | (go_at_call 7; refine (HMAY.out _).mono ?_; rintro r w5 ⟨rfl, rfl⟩) | fail)
  go_ret
  exact ⟨rfl, HB4.out⟩
/-- what the law's calls read -/
structure VarsK (w : World) : Prop where
  vw : Vw w
  vars : Vars w
  word : ∃ t, w.cell? ⟨1, 1, none⟩ = some (.string t)
theorem VarsK.gr {w w' : World} (h : VarsK w) (hb : Below w.heap.size w w') : VarsK w' :=
  ⟨h.vw.gr hb, h.vars.below hb, by obtain ⟨t, ht⟩ := h.word; exact ⟨t, (hb.cell (World.block_lt_of_cell? _ _ ht)).trans ht⟩⟩
set_option maxHeartbeats 4000000 in
theorem nil_law (l : List UInt8) (w : World) (hv : VarsK w) : Calls Tryz.prog 5 #[.string (str l)] w fun e w' => e = .returned (.bool true) ∧ Below w.heap.size w w' := by
  have HW := Lib.hid (who_nil l w)
  have HF : Hid (∀ W, ErrType W → Calls Tryz.prog 13 #[.pointer none, .string (str l)] W (FaultP (.bool false) 1 W)) := Lib.hid (fun W h => free_nil l W h)
  have HIS : Hid (∀ W f, W.heap[f]? = some (fO 1 ⟨#[]⟩ (-1)) → Vars W → Calls Tryz.prog 14 #[fV f, .int .i64 1, .string ⟨#[]⟩, .int .i64 (-1)] W fun e w' => e = .returned (.bool true) ∧ Below W.heap.size W w') := Lib.hid (fun W f hf h => ErrC.is_that f 0 1 ⟨#[]⟩ (-1) W (by decide) (by decide) (by decide) (by decide) (fault_is hf) h)
  have HAL : Hid (∀ W, VarsK W → Calls Tryz.prog 15 #[] W fun e w' => e = .returned (.bool true) ∧ Below W.heap.size W w') := Lib.hid (fun W h => by obtain ⟨t, ht⟩ := h.word; exact alive_any W h.vw h.vars.err t ht)
  have HV := Lib.hid hv
  clear hv
  go_enter Tryz.func5, Tryz.ntmps5
  go_wp2_with fail
  refine HW.out.mono ?_
  rintro r w1 ⟨f1, rfl, hf1, hl1, hb1⟩
  have HF1 := Lib.hid hf1
  have HB1 := Lib.hid hb1
  clear hf1 hl1 hb1
  go_wp2_with fail
  refine (HF.out _ (HV.out.gr HB1.out).vars.err).mono ?_
  rintro r w2 ⟨f2, rfl, hf2, hl2, hb2⟩
  have HF2 := Lib.hid hf2
  have HF1b := Lib.hid ((hb2.block f1 (Array.getElem?_eq_some_iff.1 HF1.out).1).trans HF1.out)
  have HB2 := Lib.hid (chW HB1.out hb2)
  clear hf2 hl2 hb2
  go_wp2_with fail
  refine (HIS.out _ _ HF1b.out (HV.out.gr HB2.out).vars).mono ?_
  rintro r w3 ⟨rfl, hb3⟩
  have HF2b := Lib.hid ((hb3.block f2 (Array.getElem?_eq_some_iff.1 HF2.out).1).trans HF2.out)
  have HB3 := Lib.hid (chW HB2.out hb3)
  clear hb3
  go_wp2_with fail
  refine (HIS.out _ _ HF2b.out (HV.out.gr HB3.out).vars).mono ?_
  rintro r w4 ⟨rfl, hb4⟩
  have HB4 := Lib.hid (chW HB3.out hb4)
  clear hb4
  go_wp2_with fail
  refine (HAL.out _ (HV.out.gr HB4.out)).mono ?_
  rintro r w5 ⟨rfl, hb5⟩
  have HB5 := Lib.hid (chW HB4.out hb5)
  clear hb5
  go_wp2_with fail
  go_ret
  exact ⟨rfl, HB5.out⟩
end TokC
end Go.Proofs.YtbjifikbfagdjaaGreatDoor
