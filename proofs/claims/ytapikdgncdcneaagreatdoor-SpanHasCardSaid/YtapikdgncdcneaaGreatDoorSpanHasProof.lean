/-
  Proved: whatever list of intervals (of at most 40; a longer one asks alive() alone) and whatever version: Has of them is the document's own answer (P8.2): whether the version is in the span, or the number of why that can't be asked; alive() answers true: SpanHas returns true and writes nothing that was there.
  Conditions: the listed variables read as the program's text lays them (the card ties them); of package bytealg's MaxLen nothing is asked but that it is a number.
-/
import Derived.Test.YtapikdgncdcneaaGreatDoorCards
import Derived.Test.YtapikdgncdcneaaGreatDoorTie
import Derived.Test.YtapikdgncdcneaaGreatDoorSpanRefP
import Derived.Test.YtapikdgncdcneaaGreatDoorSpanTwLaw
import Derived.WalkKit
import Derived.ProofKit
import Derived.OpenShut
import Derived.ShutString
import Derived.ChangeOld
import Derived.Below
import Derived.SizedLaws
import Derived.LaidLaws
import Derived.Deep.DeepHandedRow
import Derived.SevenTiedAt
import Derived.Test.YtapikdgncdcneaaGreatDoorVerArg
namespace Go.Proofs.YtapikdgncdcneaaGreatDoor.spanHas
open Go.ChangeShapes Go.WideShapes Go.ChangeAt Go.RowKit
open Go.ChangeMaps (open_string shut_string)
open SpanC VerC VerM StrC TextR SpanArg
set_option linter.unusedVariables false
set_option linter.unusedSimpArgs false

theorem own : ownKnob Tryz.prog.godebug = none := by kernel_rfl
theorem laidOut : laidOutB Tryz.prog = true := by kernel_rfl

theorem walk (a0 : Option Addr) (cap0 : Nat) (z0 : List SpanC.IvG) (x1 y1 q1 : Int) (a1 : Option Addr) (len1 cap1 : Nat) (z1 : List ByteArray) (w : World) (w0 : SpanArg.IArg w a0 z0) (r0 : cap0 * 104 ≤ 140737488351232) (wx1 : (Lit.int .u32 x1).wf = true) (wy1 : (Lit.int .u32 y1).wf = true) (wq1 : (Lit.int .u32 q1).wf = true) (w1 : VerArg.TextsIn w a1 len1 cap1 z1) (r1 : cap1 * 16 ≤ 140737488351232) (hv : VerC.Vw w) :
    Calls Tryz.prog 4 #[.slice a0 z0.length cap0, .agg #[.int .u32 x1, .int .u32 y1, .int .u32 q1, .slice a1 len1 cap1]] w fun e w' => e = .returned (.bool true) ∧ Below w.heap.size w w' := by
  obtain ⟨na, rfl, -⟩ := nat_u32 wx1
  obtain ⟨nb, rfl, -⟩ := nat_u32 wy1
  obtain ⟨nc, rfl, -⟩ := nat_u32 wq1
  have key : ∃ p : TL, p.length = len1 ∧ Txs w a1 cap1 p := by
    rcases w1 with ⟨rfl, rfl, rfl, rfl⟩ | ⟨x, rfl, hl, hm, hz, hcell, hsz⟩
    · exact ⟨[], rfl, Txs.nil _ _ _⟩
    · have hsh : ∀ t ∈ (z1.take len1).map (fun s => s.data.toList), t.length ≤ 9223372036854775807 := fun t ht => by
        obtain ⟨s, hs, rfl⟩ := List.mem_map.1 ht
        have h1 := hsz s (List.mem_of_mem_take hs)
        have e : s.data.toList.length = s.size := Array.length_toList
        unfold maxLen at h1
        omega
      have hll : ((z1.take len1).map fun s => s.data.toList).length = len1 := by simp; omega
      refine ⟨(z1.take len1).map fun s => s.data.toList, hll, ⟨by rw [hll]; omega, hsh, by rw [hll]; omega, fun h0 => ?_⟩⟩
      rw [hll] at h0
      obtain ⟨b, off, spot⟩ := x
      have hspot : spot = none := by simpa [Addr.add] using World.cell?_spot (hcell 0 (by omega))
      subst hspot
      refine ⟨b, off, rfl, fun i hi => ?_⟩
      rw [hll] at hi
      have h1 : i < z1.length := by omega
      rw [← Go.WideShapes.add_plain, hcell i h1, List.getD_eq_getElem?_getD, List.getD_eq_getElem?_getD, List.getElem?_map, List.getElem?_take_of_lt hi, List.getElem?_eq_getElem h1]
      exact congrArg (fun s => some (Value.string s)) (str_of _)
  obtain ⟨p, rfl, hT⟩ := key
  exact has_law a0 cap0 z0 ⟨na, nb, nc, p⟩ a1 cap1 w hv w0 hT

set_option maxRecDepth 100000 in
theorem contract (H : Type) (enc : TypeId × Value → H) (W : World) (base : Nat) (args : Array Value) (ds gs : List (DataW H)) (before : List MemPlace)
    (hval0 : ∀ (j : Nat) t v, Tryz.f4.params[j]? = some t → args[j]? = some v → Value.okWide Tryz.prog W .any base t v)
    (hW : DataW.Whole enc Tryz.prog Tryz.f4.params.toList Rows.spanHasSpec.vars false W args.toList ds gs before)
    (hsz0 : (DataW.weightsEach Tryz.prog (Tryz.f4.params.toList ++ (OpenSpec.ofChange Rows.spanHasSpec).bare.plain.varTypes Tryz.prog) (ds ++ gs)).all (· ≤ reachBytes) = true)
    (hv : VerC.Vw W) (hk : True) :
    Calls Tryz.prog 4 args W fun e W' => ∃ v, e = .returned v ∧ Rows.spanHasSpec.post enc Tryz.prog Tryz.f4 false true false false W args v W' := by
  have hval : ∀ (j : Nat) t v, Tryz.f4.params[j]? = some t → args[j]? = some v → Value.okWide Tryz.prog W .any base t v := hval0
  have hW' := hW
  obtain ⟨p, q, hA0, hV, rfl, hfz, hnd⟩ := hW
  have hA : DataW.TrodAll enc Tryz.prog W 0 (fun _ => true) true Tryz.f4.params.toList args.toList ds p := hA0
  have hsz : (DataW.weightsEach Tryz.prog (Tryz.f4.params.toList ++ Rows.spanHasSpec.plain.varTypes Tryz.prog) (ds ++ gs)).all (· ≤ reachBytes) = true := hsz0
  rw [Tryz.params4] at hA hval hsz
  obtain ⟨v0, vs0, d0, ds0, p0, q0, hargs, rfl, rfl, h0, rr0⟩ := trodAll_cons hA
  obtain ⟨v1, vs1, d1, ds1, p1, q1, rfl, rfl, rfl, h1, rr1⟩ := trodAll_cons rr0
  obtain ⟨rfl, rfl, rfl⟩ := trodAll_nil rr1
  obtain rfl : args = #[v0, v1] := by cases args; simp_all
  obtain ⟨rfl, rfl⟩ := trodVars_none hV
  obtain ⟨a0, len0, cap0, rfl⟩ := okWide_slice Tryz.underlying22 (hval 0 22 v0 rfl rfl)
  have k0 := h0
  have lt0 : ∀ x ∈ p0, x.block < W.heap.size := by obtain ⟨m, hm⟩ := k0; exact DataW.trod_lt m _ _ _ hm
  obtain ⟨z0, hl0, hc0, r0, w0⟩ : ∃ L : List SpanC.IvG, len0 = List.length L ∧ List.length L ≤ cap0 ∧ cap0 * 104 ≤ reachBytes ∧ SpanArg.IArg W a0 L := by
    obtain ⟨fuel, hf⟩ := h0
    obtain ⟨a, c, L, e, h1, h2, h3⟩ := SpanArg.open_ivs (by simpa [Value.cells] using hf) (SpanArg.OkW.top hsz (j := 0) rfl rfl)
    obtain ⟨ea, el, ec⟩ := Value.slice.inj e
    subst ea ec
    exact ⟨L, el, h1, h2, h3⟩
  subst hl0
  have r0 : cap0 * 104 ≤ 140737488351232 := r0
  have k1 := h1
  have lt1 : ∀ x ∈ p1, x.block < W.heap.size := by obtain ⟨m, hm⟩ := k1; exact DataW.trod_lt m _ _ _ hm
  obtain ⟨x1, y1, q1, a1, len1, cap1, z1, e1, rfl, wx1, wy1, wq1, w1, hd1, he1⟩ := VerArg.open_ver Tryz.underlying36 (by kernel_rfl) (by kernel_rfl) Tryz.underlying33 Tryz.underlying33 Tryz.underlying33 Tryz.underlying34 Tryz.underlying9 (by kernel_rfl) (hval 1 36 v1 rfl rfl) h1
  have r1 : cap1 * 16 ≤ 140737488351232 := by
    have hss := VerArg.sized_struct hsz (j := 1) (t := 36) rfl (by rw [hd1]; rfl) Tryz.underlying36
    rcases he1 with ⟨_, hc0⟩ | hes
    · omega
    · have hb := sized_slice hss (j := 3) (t := 34) (e := 9) rfl (by rw [hes]; rfl) Tryz.underlying34
      rw [show Tryz.prog.bytesOf 9 = 16 from by kernel_rfl] at hb
      rcases w1 with ⟨_, _, hc0, _⟩ | ⟨x, _, hl, _, hz, _⟩
      · omega
      · simp [Go.ChangeShapes.strs, reachBytes] at hb; omega
  clear hA0 hval0
  refine (walk a0 cap0 z0 x1 y1 q1 a1 len1 cap1 z1 W w0 r0 wx1 wy1 wq1 w1 r1 hv).mono fun e W' ⟨he, bel⟩ => ?_
  subst he
  exact ⟨_, rfl, _, _, _, [], _, [], hW', trodAll_mk1 (shut_bool Tryz.underlying4 _), (trodAll_cons_mk (Below.trod laidOut (by kernel_rfl) (of_decide_eq_true (by kernel_rfl)) k0 bel lt0) (trodAll_cons_mk (Below.trod laidOut (by kernel_rfl) (of_decide_eq_true (by kernel_rfl)) k1 bel lt1) trodAll_mk0)), rfl, bel.frame _, fun h => by cases h⟩

theorem reads (os : Os) {H : Type} (enc : TypeId × Value → H) : ∃ places, DataW.whole enc Tryz.prog ((VerC.laidW os).forCall (fun _ _ => 0) ⟨#[], #[.slice none 0 0, .agg #[.int .u32 0, .int .u32 0, .int .u32 0, .slice none 0 0]], []⟩).memory Tryz.f4.params.toList Rows.spanHasSpec.vars false (#[.slice none 0 0, .agg #[.int .u32 0, .int .u32 0, .int .u32 0, .slice none 0 0]] : Array Value).toList 8 = some ([.nil, .agg [.lit (.int .u32 0), .lit (.int .u32 0), .lit (.int .u32 0), .nil]], [], places) :=
  ⟨[], by kernel_rfl⟩

set_option maxRecDepth 100000 in
theorem lifted (os : Os) (started : os.Started) (H : Type) (enc : TypeId × Value → H) (F : Stop.Interp) :
    ReturnsInHanded {} Tryz.checked os 4 .any ((OpenSpec.ofChange Rows.spanHasSpec).preRow enc Tryz.prog Tryz.f4 Rows.spanHasRow.domain false Rows.spanHasRow.laid) (((OpenSpec.ofChange Rows.spanHasSpec).at F).post enc Tryz.prog Tryz.f4 false true false false) := by
  obtain ⟨places, hx⟩ := reads os enc
  refine returnsInHanded_of_row (C := Tryz.checked) (s := (OpenSpec.ofChange Rows.spanHasSpec)) own started (by kernel_rfl) Tryz.func4
    (witness_row_at (enc := enc) (C := Tryz.checked) false (VerC.laidW os) #[.slice none 0 0, .agg #[.int .u32 0, .int .u32 0, .int .u32 0, .slice none 0 0]] (VerC.laidW_os os) (by kernel_rfl) (by kernel_rfl) (by kernel_rfl)
      (OpenSpec.preRow_of_cond 8 hx (by kernel_rfl) (fun k hk => by cases hk) (by kernel_rfl) (VerC.laidW_met os _))) ?_
  intro W base args ds gs before hval hW _ hcond hsz hL hsh _
  exact contract H enc W base args ds gs before hval hW hsz (VerC.vw_of hL hsh) trivial

theorem said : Rows.SpanHasSaid :=
  OpenClaim.holds_of_cond 4 Tryz.f4 rfl rfl rfl rfl rfl rfl rfl ⟨rfl, rfl, rfl, rfl, rfl⟩ rfl rfl rfl rfl rfl (by kernel_rfl) Tryz.func4 (by kernel_rfl)
    (of_decide_eq_true (by kernel_rfl)) (by unfold Func.isWrapper; first | (rw [if_pos (by decide +kernel)]; kernel_rfl) | (rw [if_neg (by decide +kernel)]; exact ⟨rfl, rfl⟩))
    (fun os started H enc _ F => by rw [OpenClaim.pre_eq_preRow]; exact lifted os started H enc F)

theorem plain (f : FuncId) (fn : Func) (hf : Tryz.pinned.checked.prog.funcNamed "yankline/yanklinelaw08.SpanHas" = some f) (hfn : Tryz.pinned.checked.prog.funcs[f]? = some fn) :
    true = Tryz.pinned.checked.prog.looks [] ∧ ∀ (j : Nat) t, fn.params[j]? = some t → Tryz.pinned.checked.prog.wantsStandIn t = false := by
  obtain rfl : f = 4 := Option.some.inj ((show Tryz.prog.funcNamed "yankline/yanklinelaw08.SpanHas" = some 4 by kernel_rfl).symm.trans hf) |>.symm
  obtain rfl : fn = Tryz.f4 := (Option.some.inj (Tryz.func4.symm.trans hfn)).symm
  refine ⟨by kernel_rfl, fun j t ht => ?_⟩
  rw [Tryz.params4] at ht
  have hall : ([22, 36] : List Nat).all (fun t => !(Tryz.prog.wantsStandIn t)) = true := by kernel_rfl
  have h := List.all_eq_true.1 hall t (Array.mem_toList_iff.2 (Array.mem_of_getElem? ht))
  have h2 : Tryz.prog.wantsStandIn t = false := by simpa using h
  exact h2

theorem card : Rows.SpanHasCardSaid :=
  Claim7.holds_tied_plain_at .later [] _ _ _ _ said (fun _ h => by cases h) (by kernel_rfl) (fun _ h => by cases h) spanHas_row_tie rfl ⟨rfl, rfl⟩ (by kernel_rfl) rfl plain (by kernel_rfl)

end Go.Proofs.YtapikdgncdcneaaGreatDoor.spanHas
namespace Go.Proofs.YtapikdgncdcneaaGreatDoor
theorem spanHas_holds : Rows.SpanHasCardSaid := spanHas.card
#print axioms spanHas_holds
end Go.Proofs.YtapikdgncdcneaaGreatDoor
