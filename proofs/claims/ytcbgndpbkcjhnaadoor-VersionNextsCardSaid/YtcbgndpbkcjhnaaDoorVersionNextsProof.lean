/-
  Proved: whatever version and part: the next version of a part (of a twin in memory of its own), whether the version is a release, and the least version with the same numbers, each with its error number, are the document's own answers (P7.2); the least one's identifiers lie in memory of their own: written over, they leave the version as it was; alive() answers true: VersionNexts returns true and writes nothing that was there.
  Conditions: the listed variables read as the program's text lays them (the card ties them); of package bytealg's MaxLen nothing is asked but that it is a number.
-/
import Derived.Test.YtcbgndpbkcjhnaaDoorCards
import Derived.Test.YtcbgndpbkcjhnaaDoorTie
import Derived.Test.YtcbgndpbkcjhnaaDoorVerVars
import Derived.Test.YtcbgndpbkcjhnaaDoorVerNexts
import Derived.Test.YtcbgndpbkcjhnaaDoorVerGlue
import Derived.WalkKit
import Derived.ProofKit
import Derived.OpenShut
import Derived.ShutString
import Derived.ChangeOld
import Derived.Below
import Derived.SizedLaws
import Derived.LaidLaws
import Derived.Deep.DeepHandedRow
import Derived.SevenTiedAt
import Derived.Test.YtcbgndpbkcjhnaaDoorVerArg
namespace Go.Proofs.YtcbgndpbkcjhnaaDoor.versionNexts
open Go.ChangeShapes Go.WideShapes Go.ChangeAt Go.RowKit
open Go.ChangeMaps (open_string shut_string)
open VerC VerM StrC
set_option linter.unusedVariables false
set_option linter.unusedSimpArgs false

theorem own : ownKnob Tryd.prog.godebug = none := by kernel_rfl
theorem laidOut : laidOutB Tryd.prog = true := by kernel_rfl

theorem walk (x0 y0 q0 : Int) (a0 : Option Addr) (len0 cap0 : Nat) (z0 : List ByteArray) (a1 : Int) (w : World) (wx0 : (Lit.int .u32 x0).wf = true) (wy0 : (Lit.int .u32 y0).wf = true) (wq0 : (Lit.int .u32 q0).wf = true) (w0 : VerArg.TextsIn w a0 len0 cap0 z0) (r0 : cap0 * 16 ≤ 140737488351232) (w1 : (Lit.int .i64 a1).wf = true) (hv : VerC.Vw w) :
    Calls Tryd.prog 5 #[.agg #[.int .u32 x0, .int .u32 y0, .int .u32 q0, .slice a0 len0 cap0], .int .i64 a1] w fun e w' => e = .returned (.bool true) ∧ Below w.heap.size w w' := by
  obtain ⟨hA0, hl0⟩ := arg_of w0 r0
  have h := nexts_any ⟨x0.toNat, y0.toNat, q0.toNat, lists z0 len0⟩ a0 cap0 a1 w hv hA0
  dsimp only at h
  rw [u32_nat wx0, u32_nat wy0, u32_nat wq0, hl0] at h
  exact h

set_option maxRecDepth 100000 in
theorem contract (H : Type) (enc : TypeId × Value → H) (W : World) (base : Nat) (args : Array Value) (ds gs : List (DataW H)) (before : List MemPlace)
    (hval0 : ∀ (j : Nat) t v, Tryd.f5.params[j]? = some t → args[j]? = some v → Value.okWide Tryd.prog W .any base t v)
    (hW : DataW.Whole enc Tryd.prog Tryd.f5.params.toList Rows.versionNextsSpec.vars false W args.toList ds gs before)
    (hsz0 : (DataW.weightsEach Tryd.prog (Tryd.f5.params.toList ++ (OpenSpec.ofChange Rows.versionNextsSpec).bare.plain.varTypes Tryd.prog) (ds ++ gs)).all (· ≤ reachBytes) = true)
    (hv : VerC.Vw W) (hk : True) :
    Calls Tryd.prog 5 args W fun e W' => ∃ v, e = .returned v ∧ Rows.versionNextsSpec.post enc Tryd.prog Tryd.f5 false true false false W args v W' := by
  have hval : ∀ (j : Nat) t v, Tryd.f5.params[j]? = some t → args[j]? = some v → Value.okWide Tryd.prog W .any base t v := hval0
  have hW' := hW
  obtain ⟨p, q, hA0, hV, rfl, hfz, hnd⟩ := hW
  have hA : DataW.TrodAll enc Tryd.prog W 0 (fun _ => true) true Tryd.f5.params.toList args.toList ds p := hA0
  have hsz : (DataW.weightsEach Tryd.prog (Tryd.f5.params.toList ++ Rows.versionNextsSpec.plain.varTypes Tryd.prog) (ds ++ gs)).all (· ≤ reachBytes) = true := hsz0
  rw [Tryd.params5] at hA hval hsz
  obtain ⟨v0, vs0, d0, ds0, p0, q0, hargs, rfl, rfl, h0, rr0⟩ := trodAll_cons hA
  obtain ⟨v1, vs1, d1, ds1, p1, q1, rfl, rfl, rfl, h1, rr1⟩ := trodAll_cons rr0
  obtain ⟨rfl, rfl, rfl⟩ := trodAll_nil rr1
  obtain rfl : args = #[v0, v1] := by cases args; simp_all
  obtain ⟨rfl, rfl⟩ := trodVars_none hV
  have k0 := h0
  have lt0 : ∀ x ∈ p0, x.block < W.heap.size := by obtain ⟨m, hm⟩ := k0; exact DataW.trod_lt m _ _ _ hm
  obtain ⟨x0, y0, q0, a0, len0, cap0, z0, e0, rfl, wx0, wy0, wq0, w0, hd0, he0⟩ := VerArg.open_ver Tryd.underlying25 (by kernel_rfl) (by kernel_rfl) Tryd.underlying22 Tryd.underlying22 Tryd.underlying22 Tryd.underlying23 Tryd.underlying9 (by kernel_rfl) (hval 0 25 v0 rfl rfl) h0
  have r0 : cap0 * 16 ≤ 140737488351232 := by
    have hss := VerArg.sized_struct hsz (j := 0) (t := 25) rfl (by rw [hd0]; rfl) Tryd.underlying25
    rcases he0 with ⟨_, hc0⟩ | hes
    · omega
    · have hb := sized_slice hss (j := 3) (t := 23) (e := 9) rfl (by rw [hes]; rfl) Tryd.underlying23
      rw [show Tryd.prog.bytesOf 9 = 16 from by kernel_rfl] at hb
      rcases w0 with ⟨_, _, hc0, _⟩ | ⟨x, _, hl, _, hz, _⟩
      · omega
      · simp [Go.ChangeShapes.strs, reachBytes] at hb; omega
  obtain ⟨a1, rfl, rfl, rfl, w1⟩ := open_int Tryd.underlying3 (hval 1 3 v1 rfl rfl) h1
  clear hA0 hval0
  refine (walk x0 y0 q0 a0 len0 cap0 z0 a1 W wx0 wy0 wq0 w0 r0 w1 hv).mono fun e W' ⟨he, bel⟩ => ?_
  subst he
  exact ⟨_, rfl, _, _, _, [], _, [], hW', trodAll_mk1 (shut_bool Tryd.underlying4 _), (trodAll_cons_mk (Below.trod laidOut (by kernel_rfl) (of_decide_eq_true (by kernel_rfl)) k0 bel lt0) (trodAll_cons_mk (shut_int Tryd.underlying3 w1) trodAll_mk0)), rfl, bel.frame _, fun h => by cases h⟩

theorem reads (os : Os) {H : Type} (enc : TypeId × Value → H) : ∃ places, DataW.whole enc Tryd.prog ((VerC.laidW os).forCall (fun _ _ => 0) ⟨#[], #[.agg #[.int .u32 0, .int .u32 0, .int .u32 0, .slice none 0 0], .int .i64 0], []⟩).memory Tryd.f5.params.toList Rows.versionNextsSpec.vars false (#[.agg #[.int .u32 0, .int .u32 0, .int .u32 0, .slice none 0 0], .int .i64 0] : Array Value).toList 8 = some ([.agg [.lit (.int .u32 0), .lit (.int .u32 0), .lit (.int .u32 0), .nil], .lit (.int .i64 0)], [], places) :=
  ⟨[], by kernel_rfl⟩

set_option maxRecDepth 100000 in
theorem lifted (os : Os) (started : os.Started) (H : Type) (enc : TypeId × Value → H) (F : Stop.Interp) :
    ReturnsInHanded {} Tryd.checked os 5 .any ((OpenSpec.ofChange Rows.versionNextsSpec).preRow enc Tryd.prog Tryd.f5 Rows.versionNextsRow.domain false Rows.versionNextsRow.laid) (((OpenSpec.ofChange Rows.versionNextsSpec).at F).post enc Tryd.prog Tryd.f5 false true false false) := by
  obtain ⟨places, hx⟩ := reads os enc
  refine returnsInHanded_of_row (C := Tryd.checked) (s := (OpenSpec.ofChange Rows.versionNextsSpec)) own started (by kernel_rfl) Tryd.func5
    (witness_row_at (enc := enc) (C := Tryd.checked) false (VerC.laidW os) #[.agg #[.int .u32 0, .int .u32 0, .int .u32 0, .slice none 0 0], .int .i64 0] (VerC.laidW_os os) (by kernel_rfl) (by kernel_rfl) (by kernel_rfl)
      (OpenSpec.preRow_of_cond 8 hx (by kernel_rfl) (fun k hk => by cases hk) (by kernel_rfl) (VerC.laidW_met os _))) ?_
  intro W base args ds gs before hval hW _ hcond hsz hL hsh _
  exact contract H enc W base args ds gs before hval hW hsz (VerC.vw_of hL hsh) trivial

theorem said : Rows.VersionNextsSaid :=
  OpenClaim.holds_of_cond 5 Tryd.f5 rfl rfl rfl rfl rfl rfl rfl ⟨rfl, rfl, rfl, rfl, rfl⟩ rfl rfl rfl rfl rfl (by kernel_rfl) Tryd.func5 (by kernel_rfl)
    (of_decide_eq_true (by kernel_rfl)) (by unfold Func.isWrapper; first | (rw [if_pos (by decide +kernel)]; kernel_rfl) | (rw [if_neg (by decide +kernel)]; exact ⟨rfl, rfl⟩))
    (fun os started H enc _ F => by rw [OpenClaim.pre_eq_preRow]; exact lifted os started H enc F)

theorem plain (f : FuncId) (fn : Func) (hf : Tryd.pinned.checked.prog.funcNamed "yankline/yanklinelaw07.VersionNexts" = some f) (hfn : Tryd.pinned.checked.prog.funcs[f]? = some fn) :
    true = Tryd.pinned.checked.prog.looks [] ∧ ∀ (j : Nat) t, fn.params[j]? = some t → Tryd.pinned.checked.prog.wantsStandIn t = false := by
  obtain rfl : f = 5 := Option.some.inj ((show Tryd.prog.funcNamed "yankline/yanklinelaw07.VersionNexts" = some 5 by kernel_rfl).symm.trans hf) |>.symm
  obtain rfl : fn = Tryd.f5 := (Option.some.inj (Tryd.func5.symm.trans hfn)).symm
  refine ⟨by kernel_rfl, fun j t ht => ?_⟩
  rw [Tryd.params5] at ht
  have hall : ([25, 3] : List Nat).all (fun t => !(Tryd.prog.wantsStandIn t)) = true := by kernel_rfl
  have h := List.all_eq_true.1 hall t (Array.mem_toList_iff.2 (Array.mem_of_getElem? ht))
  have h2 : Tryd.prog.wantsStandIn t = false := by simpa using h
  exact h2

theorem card : Rows.VersionNextsCardSaid :=
  Claim7.holds_tied_plain_at .later [] _ _ _ _ said (fun _ h => by cases h) (by kernel_rfl) (fun _ h => by cases h) versionNexts_row_tie rfl ⟨rfl, rfl⟩ (by kernel_rfl) rfl plain (by kernel_rfl)

end Go.Proofs.YtcbgndpbkcjhnaaDoor.versionNexts
namespace Go.Proofs.YtcbgndpbkcjhnaaDoor
theorem versionNexts_holds : Rows.VersionNextsCardSaid := versionNexts.card
#print axioms versionNexts_holds
end Go.Proofs.YtcbgndpbkcjhnaaDoor
