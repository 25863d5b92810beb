/-
  Proved: whatever number i and whatever text s: log.Open of no disk hands back no log and the fault 1 of nothing; a log that is not there answers the fault 1 of nothing at At(i) (with no text) and at Append(s), has no records, none from i on, no files, is not broken, and its All tells nothing, to its end (P5, DOC's rules); alive() answers true ahead of it and behind: LogNil returns true and writes nothing that was there.
  Conditions: the library's tables that the row lists read as the program's text lays them (the card ties them).
-/
import Derived.Test.YtinoghanlokenaaGreatDoorCards
import Derived.Test.YtinoghanlokenaaGreatDoorTie
import Derived.Test.YtinoghanlokenaaGreatDoorLogVars
import Derived.Test.YtinoghanlokenaaGreatDoorLogVars
import Derived.Test.YtinoghanlokenaaGreatDoorLogNilP
import Derived.WalkKit
import Derived.ProofKit
import Derived.OpenShut
import Derived.ShutString
import Derived.ChangeOld
import Derived.Below
import Derived.SizedLaws
import Derived.LaidLaws
import Derived.Deep.DeepHandedRow
import Derived.SevenTiedAt
namespace Go.Proofs.YtinoghanlokenaaGreatDoor.logNil
open Go.ChangeShapes Go.WideShapes Go.ChangeAt Go.RowKit
open Go.ChangeMaps (open_string shut_string)
open LogP LogC FrameC DiskM DiskC ErrC
set_option linter.unusedVariables false
set_option linter.unusedSimpArgs false

theorem own : ownKnob Tryz.prog.godebug = none := by kernel_rfl
theorem laidOut : laidOutB Tryz.prog = true := by kernel_rfl

set_option maxRecDepth 100000 in
set_option maxHeartbeats 8000000 in
theorem walk (a0 : Int) (a1 : ByteArray) (w : World) (w0 : (Lit.int .i64 a0).wf = true) (w1 : a1.size ≤ maxLen) (r1 : a1.size ≤ 140737488351232) (hv : LogP.VarsT w) :
    Calls Tryz.prog 5 #[.int .i64 a0, .string a1] w fun e w' => e = .returned (.bool true) ∧ Below w.heap.size w w' := by
  have HV := Lib.hid hv
  clear hv w0 w1 r1
  have hcmp : ∀ (x y : Nat) (w : World), (binOp .eql 63 (.func (.func 90) #[] #[.pointer (some ⟨x, 0, none⟩), .pointer (some ⟨y, 0, none⟩)]) .nilFunc).run Tryz.prog w = .ok (.bool false) w := fun x y w => by kernel_rfl
  refine (callsIn_wide (n := 6)).1 ?_
  refine callsIn_of_wp_marks Tryz.func5 rfl trivial ?_ rfl
  simp only [Tryz.ntmps5, List.size_toArray, List.length_cons, List.length_nil, Nat.reduceAdd, Nat.reduceSub, Array.replicate_succ, Array.replicate_zero, List.push_toArray, List.append_toArray, List.nil_append, List.cons_append]
  gi_wp2_with (refine ⟨trivial, ?_⟩; gi_at_call 24; refine (callsIn_wide.2 (lalive_any w HV.out)).mono ?_)
  rintro e w1 ⟨rfl, hb⟩
  have HB1 := Lib.hid hb
  have HV1 := Lib.hid (HV.out.below hb)
  clear hb
  gi_wp2_with (refine ⟨trivial, ?_⟩; gi_at_call 8; refine (callsIn_wide.2 (open_nil w1 HV1.out)).mono ?_)
  rintro e w2 ⟨ev2, rfl, he, hb⟩
  have HB2 := Lib.hid (HB1.out.trans (hb.mono HB1.out.size))
  have HV2 := Lib.hid (HV1.out.below hb)
  have HE2 := Lib.hid he
  clear hb he
  gi_wp2_with (refine ⟨trivial, ?_⟩; gi_at_call 27; refine (callsIn_wide.2 (at_nil a0 w2)).mono ?_)
  rintro e w3 ⟨ev3, rfl, he, hb⟩
  have HB3 := Lib.hid (HB2.out.trans (hb.mono HB2.out.size))
  have HV3 := Lib.hid (HV2.out.below hb)
  have HB23 := Lib.hid hb
  have HE3 := Lib.hid he
  clear hb he
  gi_wp2_with (refine ⟨trivial, ?_⟩; gi_at_call 28; refine (callsIn_wide.2 (all_any none w3)).mono ?_)
  rintro e w4 ⟨rfl, hw4⟩
  have HB34 : Hid (Below w3.heap.size w3 w4) := Lib.hid (by rw [hw4]; exact (walkW_facts none 0 w3).2.2.2)
  clear hw4
  unfold walkF
  gi_wp2_with (refine ⟨trivial, ?_⟩; gi_at_call 28; refine (callsIn_wide.2 (all_any none _)).mono ?_)
  rintro e w6 ⟨rfl, hw6⟩
  have hs5 : (w4.alloc (.cells #[.int .i64 0] 3)).heap.size = w4.heap.size + 1 := by simp
  obtain ⟨k0, k1, k2, k3⟩ := walkW_facts none 0 (w4.alloc (.cells #[.int .i64 0] 3))
  rw [← hw6] at k0 k1 k2 k3
  rw [hs5] at k0 k1 k2
  have hb5 : Below w4.heap.size w4 (w4.alloc (.cells #[.int .i64 0] 3)) := (Below.refl _ _).alloc (Nat.le_refl _) _
  have HBX : Hid (Boxed w6 w4.heap.size 3 (.int .i64 0)) := Lib.hid ((k3.block _ (by rw [hs5]; omega)).trans (Boxed.new w4 3 (.int .i64 0)))
  have HB46 : Hid (Below w4.heap.size w4 w6) := Lib.hid (hb5.trans (k3.mono (by rw [hs5]; omega)))
  have HB36 := Lib.hid (HB34.out.trans (HB46.out.mono HB34.out.size))
  have HB6 := Lib.hid (HB3.out.trans (HB36.out.mono HB3.out.size))
  have HD2 : Hid (DErr w1 w3 ev2 1 (str [])) := Lib.hid ((FErr.derr HE2.out).keeps (Keeps.of_below (S := fun _ => False) HB23.out) (fun _ h => h.elim))
  have HD3 : Hid (DErr w2 w3 ev3 1 (str [])) := Lib.hid (FErr.derr HE3.out)
  have HK1 := Lib.hid k1
  have HSZ := Lib.hid k0
  clear hw6 hs5 k0 k1 k2 k3 hb5 HE2 HE3 HB34 HB46 HB23 HB1 HB2
  unfold walkF
  gi_wp2_with fail
  refine wpIn_rangeFunc_ownG rfl (by decide) (gf := 90) (lb := #[.pointer (some ⟨(w4.heap.size + 1), 0, none⟩), .pointer (some ⟨(w4.heap.size + 1) + 1, 0, none⟩)]) rfl trivial (enters_of Tryz.func90 (by kernel_rfl) rfl)
    (walk_stops_nil 5 (by decide) (w4.heap.size + 1) ((w4.heap.size + 1) + 1) w6.heap.size HK1.out) belowK_t (belowK_b (Nat.le_refl _)) (Below.refl _ _) (fun _ => rfl)
    (fun (pre : List (Nat × ByteArray)) W => Boxed W w4.heap.size 3 (.int .i64 0) ∧ Below w6.heap.size w6 W)
    (fun _ _ _ => False)
    (OwnFrom.and (Own.from (boxed_own w4.heap.size 3 (fun (_ : List (Nat × ByteArray)) => .int .i64 0)) _) (ownFrom_below (Nat.le_refl _) (Nat.le_refl _)))
    (fun _ _ _ _ _ hs _ _ => hs)
    ⟨HBX.out, Below.refl _ _⟩ (fun (x : Nat × ByteArray) => { tmps := #[.int .i64 a0, .string a1, undef, undef, .bool false, .pointer none, ev2, .pointer none, .string ⟨#[]⟩, ev3, .pointer (some ⟨w4.heap.size, 0, none⟩), .bool true, .bool false, .tuple #[.pointer none, ev2], .tuple #[.pointer none, ev2], .pointer none, ev2, .tuple #[.string ⟨#[]⟩, ev3], .pointer none, .int .i64 a0, .tuple #[.string ⟨#[]⟩, ev3], .string ⟨#[]⟩, ev3, .pointer none, walkF w3.heap.size (w3.heap.size + 1), .bool false, .pointer none, walkF (w4.heap.size + 1) ((w4.heap.size + 1) + 1), .int .i64 (x.1 : Int), .string x.2, undef, undef, undef, undef, undef, undef, undef, undef, undef, undef, undef, undef, undef, undef, undef, undef, undef, undef, undef, undef, undef, undef, undef, undef, undef, undef, undef, undef, undef, undef, undef, undef, undef, undef, undef, undef, undef, undef, undef, undef, undef, undef, undef, undef, undef, undef, undef, undef, undef, undef, undef], defers := [] }) ?assign ?body ?done ?stop
  case assign =>
    intro l x W K hK
    dsimp only [encW]
    gi_wp2
    exact hK
  case body =>
    rintro l pre x W - hlt
    exact absurd hlt (Nat.not_lt_zero _)
  case stop =>
    rintro D c pre W _ _ h _
    exact h.elim
  case done =>
    rintro D ys w7 hD - ⟨hv, hB⟩ hK
    have hc0 := hv.cell
    have HD := Lib.hid hD
    have HK := Lib.hid hK
    have HB7 := Lib.hid (HB36.out.trans (hB.mono HB36.out.size))
    have HBC := Lib.hid hv
    have HDL : Hid (D < w7.heap.size) := Lib.hid (Array.getElem?_eq_some_iff.1 hK).1
    have HBL : Hid (w4.heap.size < w7.heap.size) := Lib.hid hv.lt
    clear hv hB hK hD hc0
    gi_wp2_with (refine ⟨trivial, ?_⟩; gi_at_call 10; refine (callsIn_wide.2 (is_derr (HD2.out.keeps (Keeps.of_below (S := fun _ => False) HB7.out) (fun _ h => h.elim)) (by decide) (by decide) (HV3.out.below HB7.out).vars)).mono ?_)
    rintro e w8 ⟨rfl, hb⟩
    have HB78 := Lib.hid hb
    have HB8 := Lib.hid (HB7.out.trans (hb.mono HB7.out.size))
    clear hb
    gi_wp2_with (refine ⟨trivial, ?_⟩; gi_at_call 10; refine (callsIn_wide.2 (is_derr (HD3.out.keeps (Keeps.of_below (S := fun _ => False) HB8.out) (fun _ h => h.elim)) (by decide) (by decide) (HV3.out.below HB8.out).vars)).mono ?_)
    rintro e w9 ⟨rfl, hb⟩
    have HB79 := Lib.hid (HB78.out.trans (hb.mono HB78.out.size))
    have HB9 := Lib.hid (HB8.out.trans (hb.mono HB8.out.size))
    clear hb
    gi_wp2_with (refine ⟨trivial, ?_⟩; gi_at_call 11; refine (callsIn_wide.2 (append_nil a1 w9)).mono ?_)
    rintro e w10 ⟨ev10, rfl, he, hb⟩
    have HE10 : Hid (DErr w9 w10 ev10 1 (str [])) := Lib.hid (FErr.derr he)
    have HB710 := Lib.hid (HB79.out.trans (hb.mono HB79.out.size))
    have HB10 := Lib.hid (HB9.out.trans (hb.mono HB9.out.size))
    clear hb he
    gi_wp2_with (refine ⟨trivial, ?_⟩; gi_at_call 10; refine (callsIn_wide.2 (is_derr HE10.out (by decide) (by decide) (HV3.out.below HB10.out).vars)).mono ?_)
    rintro e w11 ⟨rfl, hb⟩
    have HB711 := Lib.hid (HB710.out.trans (hb.mono HB710.out.size))
    have HB11 := Lib.hid (HB10.out.trans (hb.mono HB10.out.size))
    clear hb
    gi_wp2_with (refine ⟨trivial, ?_⟩; gi_at_call 29; refine (callsIn_wide.2 (len_nil w11)).mono ?_)
    rintro e w12 ⟨rfl, rfl⟩
    gi_wp2_with (refine ⟨trivial, ?_⟩; gi_at_call 30; refine (callsIn_wide.2 (from_nil a0 w11)).mono ?_)
    rintro e w12 ⟨rfl, hb⟩
    have HB712 := Lib.hid (HB711.out.trans (hb.mono HB711.out.size))
    have HB12 := Lib.hid (HB11.out.trans (hb.mono HB11.out.size))
    clear hb
    gi_wp2_with (refine ⟨trivial, ?_⟩; gi_at_call 31; refine (callsIn_wide.2 (files_nil w12)).mono ?_)
    rintro e w13 ⟨rfl, rfl⟩
    have hc0 : w12.cell? ⟨w4.heap.size, 0, none⟩ = some (.int .i64 0) := by rw [HB712.out.cell HBL.out]; exact HBC.out.cell
    gi_wp2_with (refine ⟨trivial, ?_⟩; gi_at_call 13; refine (callsIn_wide.2 (broken_nil w12)).mono ?_)
    rintro e w13 ⟨rfl, rfl⟩
    gi_wp2_with (refine ⟨trivial, ?_⟩; gi_at_call 24; refine (callsIn_wide.2 (lalive_any w12 (HV3.out.below HB12.out))).mono ?_)
    rintro e w14 ⟨rfl, hb⟩
    have HB714 := Lib.hid (HB712.out.trans (hb.mono HB712.out.size))
    have HB14 := Lib.hid (HB3.out.trans ((HB12.out.trans (hb.mono HB12.out.size)).mono HB3.out.size))
    clear hb
    gi_wp2_with fail
    have hK : w14.heap[D]? = some (.deferred (some [])) := (HB714.out.block D HDL.out).trans HK.out
    refine ⟨by simp, .inl ⟨_, _, rfl, run_takeDeferred hK, ?_⟩⟩
    exact ⟨_, results_tmp rfl _ _ _, rfl, HB14.out.trans (belowK_b (w := w) (Nat.le_refl _) w14 D _ _ (by have := HB6.out.size; have := HD.out; omega) hK rfl rfl)⟩

set_option maxRecDepth 100000 in
theorem contract (H : Type) (enc : TypeId × Value → H) (W : World) (base : Nat) (args : Array Value) (ds gs : List (DataW H)) (before : List MemPlace)
    (hval0 : ∀ (j : Nat) t v, Tryz.f5.params[j]? = some t → args[j]? = some v → Value.okWide Tryz.prog W .any base t v)
    (hW : DataW.Whole enc Tryz.prog Tryz.f5.params.toList Rows.logNilSpec.vars false W args.toList ds gs before)
    (hsz0 : (DataW.weightsEach Tryz.prog (Tryz.f5.params.toList ++ (OpenSpec.ofChange Rows.logNilSpec).bare.plain.varTypes Tryz.prog) (ds ++ gs)).all (· ≤ reachBytes) = true)
    (hv : LogP.VarsT W) (hk : True) :
    Calls Tryz.prog 5 args W fun e W' => ∃ v, e = .returned v ∧ Rows.logNilSpec.post enc Tryz.prog Tryz.f5 false true false false W args v W' := by
  have hval : ∀ (j : Nat) t v, Tryz.f5.params[j]? = some t → args[j]? = some v → Value.okWide Tryz.prog W .any base t v := hval0
  have hW' := hW
  obtain ⟨p, q, hA0, hV, rfl, hfz, hnd⟩ := hW
  have hA : DataW.TrodAll enc Tryz.prog W 0 (fun _ => true) true Tryz.f5.params.toList args.toList ds p := hA0
  have hsz : (DataW.weightsEach Tryz.prog (Tryz.f5.params.toList ++ Rows.logNilSpec.plain.varTypes Tryz.prog) (ds ++ gs)).all (· ≤ reachBytes) = true := hsz0
  rw [Tryz.params5] at hA hval hsz
  obtain ⟨v0, vs0, d0, ds0, p0, q0, hargs, rfl, rfl, h0, rr0⟩ := trodAll_cons hA
  obtain ⟨v1, vs1, d1, ds1, p1, q1, rfl, rfl, rfl, h1, rr1⟩ := trodAll_cons rr0
  obtain ⟨rfl, rfl, rfl⟩ := trodAll_nil rr1
  obtain rfl : args = #[v0, v1] := by cases args; simp_all
  obtain ⟨rfl, rfl⟩ := trodVars_none hV
  obtain ⟨a0, rfl, rfl, rfl, w0⟩ := open_int Tryz.underlying3 (hval 0 3 v0 rfl rfl) h0
  obtain ⟨a1, rfl, rfl, rfl, w1⟩ := open_string Tryz.underlying9 (hval 1 9 v1 rfl rfl) h1
  have r1 : a1.size ≤ 140737488351232 := by have := sized_string hsz (j := 1) (t := 9) (bytes := a1.data.toList) rfl rfl; simpa [reachBytes] using this
  clear hA0 hval0
  refine (walk a0 a1 W w0 w1 r1 hv).mono fun e W' ⟨he, bel⟩ => ?_
  subst he
  exact ⟨_, rfl, _, _, _, [], _, [], hW', trodAll_mk1 (shut_bool Tryz.underlying4 _), (trodAll_cons_mk (shut_int Tryz.underlying3 w0) (trodAll_cons_mk (shut_string Tryz.underlying9 w1) trodAll_mk0)), rfl, bel.frame _, fun h => by cases h⟩

theorem reads (os : Os) {H : Type} (enc : TypeId × Value → H) : ∃ places, DataW.whole enc Tryz.prog ((LogP.laidW os).forCall (fun _ _ => 0) ⟨#[], #[.int .i64 0, .string ByteArray.empty], []⟩).memory Tryz.f5.params.toList Rows.logNilSpec.vars false (#[.int .i64 0, .string ByteArray.empty] : Array Value).toList 8 = some ([.lit (.int .i64 0), .lit (.string [])], [], places) :=
  ⟨[], by kernel_rfl⟩

set_option maxRecDepth 100000 in
theorem lifted (os : Os) (started : os.Started) (H : Type) (enc : TypeId × Value → H) (F : Stop.Interp) :
    ReturnsInHanded {} Tryz.checked os 5 .any ((OpenSpec.ofChange Rows.logNilSpec).preRow enc Tryz.prog Tryz.f5 Rows.logNilRow.domain false Rows.logNilRow.laid) (((OpenSpec.ofChange Rows.logNilSpec).at F).post enc Tryz.prog Tryz.f5 false true false false) := by
  obtain ⟨places, hx⟩ := reads os enc
  refine returnsInHanded_of_row (C := Tryz.checked) (s := (OpenSpec.ofChange Rows.logNilSpec)) own started (by kernel_rfl) Tryz.func5
    (witness_row_at (enc := enc) (C := Tryz.checked) false (LogP.laidW os) #[.int .i64 0, .string ByteArray.empty] (LogP.laidW_os os) (by kernel_rfl) (by kernel_rfl) (by kernel_rfl)
      (OpenSpec.preRow_of_cond 8 hx (by kernel_rfl) (fun k hk => by cases hk) (by kernel_rfl) (LogP.laidW_met os _))) ?_
  intro W base args ds gs before hval hW _ hcond hsz hL hsh _
  exact contract H enc W base args ds gs before hval hW hsz (LogP.varsT_of hL hsh) trivial

theorem said : Rows.LogNilSaid :=
  OpenClaim.holds_of_cond 5 Tryz.f5 rfl rfl rfl rfl rfl rfl rfl ⟨rfl, rfl, rfl, rfl, rfl⟩ rfl rfl rfl rfl rfl (by kernel_rfl) Tryz.func5 (by kernel_rfl)
    (of_decide_eq_true (by kernel_rfl)) (by unfold Func.isWrapper; first | (rw [if_pos (by decide +kernel)]; kernel_rfl) | (rw [if_neg (by decide +kernel)]; exact ⟨rfl, rfl⟩))
    (fun os started H enc _ F => by rw [OpenClaim.pre_eq_preRow]; exact lifted os started H enc F)

theorem plain (f : FuncId) (fn : Func) (hf : Tryz.pinned.checked.prog.funcNamed "yankline/yanklinelaw05.LogNil" = some f) (hfn : Tryz.pinned.checked.prog.funcs[f]? = some fn) :
    true = Tryz.pinned.checked.prog.looks [] ∧ ∀ (j : Nat) t, fn.params[j]? = some t → Tryz.pinned.checked.prog.wantsStandIn t = false := by
  obtain rfl : f = 5 := Option.some.inj ((show Tryz.prog.funcNamed "yankline/yanklinelaw05.LogNil" = some 5 by kernel_rfl).symm.trans hf) |>.symm
  obtain rfl : fn = Tryz.f5 := (Option.some.inj (Tryz.func5.symm.trans hfn)).symm
  refine ⟨by kernel_rfl, fun j t ht => ?_⟩
  rw [Tryz.params5] at ht
  have hall : ([3, 9] : List Nat).all (fun t => !(Tryz.prog.wantsStandIn t)) = true := by kernel_rfl
  have h := List.all_eq_true.1 hall t (Array.mem_toList_iff.2 (Array.mem_of_getElem? ht))
  have h2 : Tryz.prog.wantsStandIn t = false := by simpa using h
  exact h2

theorem card : Rows.LogNilCardSaid :=
  Claim7.holds_tied_plain_at .later [] _ _ _ _ said (fun _ h => by cases h) (by kernel_rfl) (fun _ h => by cases h) logNil_row_tie rfl ⟨rfl, rfl⟩ (by kernel_rfl) rfl plain (by kernel_rfl)

end Go.Proofs.YtinoghanlokenaaGreatDoor.logNil
namespace Go.Proofs.YtinoghanlokenaaGreatDoor
theorem logNil_holds : Rows.LogNilCardSaid := logNil.card
#print axioms logNil_holds
end Go.Proofs.YtinoghanlokenaaGreatDoor
