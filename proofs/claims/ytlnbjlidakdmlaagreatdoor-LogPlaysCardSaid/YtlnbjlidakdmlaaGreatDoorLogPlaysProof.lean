/-
  Proved: whatever cut (an integer of 64 bits) and whatever row l of steps (what to do, a number, a text: of any length, nil or not): of the first 40 steps those whose text is of at most 4000 bytes (appends, restarts with a cut and opened anew, files appended to and put by somebody else), made of package log's log over package disk's disk and of the document's: both logs are there or neither, both answer alike, say the same, and leave the same raw writes and the same files (P5); alive() answers true: LogPlays returns true and changes nothing that was there.
  Conditions: the error type's variable of package errors and the table of powers of ten read as the program's text lays them (the card ties them).
-/
import Derived.Test.YtlnbjlidakdmlaaGreatDoorCards
import Derived.Test.YtlnbjlidakdmlaaGreatDoorTie
import Derived.Test.YtlnbjlidakdmlaaGreatDoorLogVars
import Derived.Test.YtlnbjlidakdmlaaGreatDoorLogVars
import Derived.Test.YtlnbjlidakdmlaaGreatDoorLogPlays
import Derived.WalkKit
import Derived.ProofKit
import Derived.OpenShut
import Derived.ShutString
import Derived.ChangeOld
import Derived.Below
import Derived.SizedLaws
import Derived.LaidLaws
import Derived.Deep.DeepHandedRow
import Derived.SevenTiedAt
import Derived.Test.YtlnbjlidakdmlaaGreatDoorStructs
namespace Go.Proofs.YtlnbjlidakdmlaaGreatDoor.logPlays
open Go.ChangeShapes Go.WideShapes Go.ChangeAt Go.RowKit
open Go.ChangeMaps (open_string shut_string)
open LogP LogM FrameM FrameC DiskM DiskC ErrC
set_option linter.unusedVariables false
set_option linter.unusedSimpArgs false

theorem own : ownKnob Tryz.prog.godebug = none := by kernel_rfl
theorem laidOut : laidOutB Tryz.prog = true := by kernel_rfl

set_option maxRecDepth 100000 in
set_option maxHeartbeats 8000000 in
theorem walk (a0 : Int) (a1 : Option Addr) (len1 cap1 : Nat) (z1 : List (List Lit)) (w : World) (w0 : (Lit.int .i64 a0).wf = true) (w1 : Frame.IsStructs [.int .i64, .int .i64, .text] w a1 len1 cap1 z1) (r1 : cap1 * 32 ≤ 140737488351232 ∧ Frame.Short z1) (hv : LogP.VarsT w) :
    Calls Tryz.prog 3 #[.int .i64 a0, .slice a1 len1 cap1] w fun e w' => e = .returned (.bool true) ∧ Below w.heap.size w w' := by
  obtain ⟨-, hsh⟩ := r1
  rcases w1 with ⟨rfl, rfl, rfl, rfl⟩ | ⟨x, rfl, hl, hm, hz, hrow, hcell⟩
  · exact lplays_none a0 none 0 w hv
  · by_cases h0 : 0 < len1
    · obtain ⟨g, o, rfl, hg, hlen, hs⟩ := rows_steps hl hz hrow hsh hcell h0
      have hp := lplays_some a0 g o cap1 _ w (by rw [hlen]; exact h0) hg hs hv
      rw [hlen] at hp
      exact hp
    · obtain rfl : len1 = 0 := by omega
      exact lplays_none a0 _ cap1 w hv

set_option maxRecDepth 100000 in
theorem contract (H : Type) (enc : TypeId × Value → H) (W : World) (base : Nat) (args : Array Value) (ds gs : List (DataW H)) (before : List MemPlace)
    (hval0 : ∀ (j : Nat) t v, Tryz.f3.params[j]? = some t → args[j]? = some v → Value.okWide Tryz.prog W .any base t v)
    (hW : DataW.Whole enc Tryz.prog Tryz.f3.params.toList Rows.logPlaysSpec.vars false W args.toList ds gs before)
    (hsz0 : (DataW.weightsEach Tryz.prog (Tryz.f3.params.toList ++ (OpenSpec.ofChange Rows.logPlaysSpec).bare.plain.varTypes Tryz.prog) (ds ++ gs)).all (· ≤ reachBytes) = true)
    (hv : LogP.VarsT W) (hk : True) :
    Calls Tryz.prog 3 args W fun e W' => ∃ v, e = .returned v ∧ Rows.logPlaysSpec.post enc Tryz.prog Tryz.f3 false true false false W args v W' := by
  have hval : ∀ (j : Nat) t v, Tryz.f3.params[j]? = some t → args[j]? = some v → Value.okWide Tryz.prog W .any base t v := hval0
  have hW' := hW
  obtain ⟨p, q, hA0, hV, rfl, hfz, hnd⟩ := hW
  have hA : DataW.TrodAll enc Tryz.prog W 0 (fun _ => true) true Tryz.f3.params.toList args.toList ds p := hA0
  have hsz : (DataW.weightsEach Tryz.prog (Tryz.f3.params.toList ++ Rows.logPlaysSpec.plain.varTypes Tryz.prog) (ds ++ gs)).all (· ≤ reachBytes) = true := hsz0
  rw [Tryz.params3] at hA hval hsz
  obtain ⟨v0, vs0, d0, ds0, p0, q0, hargs, rfl, rfl, h0, rr0⟩ := trodAll_cons hA
  obtain ⟨v1, vs1, d1, ds1, p1, q1, rfl, rfl, rfl, h1, rr1⟩ := trodAll_cons rr0
  obtain ⟨rfl, rfl, rfl⟩ := trodAll_nil rr1
  obtain rfl : args = #[v0, v1] := by cases args; simp_all
  obtain ⟨rfl, rfl⟩ := trodVars_none hV
  obtain ⟨a0, rfl, rfl, rfl, w0⟩ := open_int Tryz.underlying3 (hval 0 3 v0 rfl rfl) h0
  obtain ⟨a1, len1, cap1, rfl⟩ := okWide_slice Tryz.underlying22 (hval 1 22 v1 rfl rfl)
  have k1 := h1
  have lt1 : ∀ x ∈ p1, x.block < W.heap.size := by obtain ⟨m, hm⟩ := k1; exact DataW.trod_lt m _ _ _ hm
  obtain ⟨z1, w1, r1, ub1⟩ : ∃ zs, Frame.IsStructs [.int .i64, .int .i64, .text] W a1 len1 cap1 zs ∧ (cap1 * 32 ≤ 140737488351232 ∧ Frame.Short zs) ∧ Frame.bulkRows zs + 1 ≤ Rows.uptoBulk d1 := by
    obtain ⟨fuel, hf⟩ := h1
    have ho := @Frame.open_structs H enc Tryz.prog W 0 true _ _ _ [.int .i64, .int .i64, .text] _ _ _ Tryz.underlying22 Tryz.underlying37 (by kernel_rfl) (by kernel_rfl) rfl (by
      intro j f k h1 h2
      rcases j with _ | _ | _ | j
      · simp at h1 h2; subst h1; subst h2; exact Tryz.underlying3
      · simp at h1 h2; subst h1; subst h2; exact Tryz.underlying3
      · simp at h1 h2; subst h1; subst h2; exact Tryz.underlying9
      · simp at h1) hf
    rcases ho with ⟨hcs, hx⟩ | ⟨x, l, c, zs, hcs, hl, hm, hz, hx, hrow, hcell⟩
    · simp [Value.cells] at hcs
      obtain ⟨rfl, rfl, rfl⟩ := hcs
      simp only at hx
      subst hx
      exact ⟨[], .inl ⟨rfl, rfl, rfl, rfl⟩, ⟨by omega, Frame.short_nil⟩, by simp [Rows.uptoBulk, Frame.bulkRows]⟩
    · simp [Value.cells] at hcs
      obtain ⟨rfl, rfl, rfl⟩ := hcs
      simp only at hx
      subst hx
      have hb := sized_slice hsz (j := 1) (t := 22) (e := 37) rfl rfl Tryz.underlying22
      rw [show Tryz.prog.bytesOf 37 = 32 from by kernel_rfl] at hb
      have hsh := Frame.sized_rows (ks := [.int .i64, .int .i64, .text]) hsz (j := 1) (t := 22) (e := 37) rfl rfl Tryz.underlying22 Tryz.underlying37 rfl hrow
      exact ⟨zs, .inr ⟨_, rfl, hl, hm, hz, hrow, hcell⟩, ⟨by simp [Frame.aggs, reachBytes] at hb; omega, hsh⟩, by simp only [Rows.uptoBulk]; rw [Frame.bulk_aggs, Frame.bulk_aggs, ← Frame.bulkRows_append, List.take_append_drop]; exact Nat.le_refl _⟩
  clear hA0 hval0
  refine (walk a0 a1 len1 cap1 z1 W w0 w1 r1 hv).mono fun e W' ⟨he, bel⟩ => ?_
  subst he
  exact ⟨_, rfl, _, _, _, [], _, [], hW', trodAll_mk1 (shut_bool Tryz.underlying4 _), (trodAll_cons_mk (shut_int Tryz.underlying3 w0) (trodAll_cons_mk (Below.trod laidOut (by kernel_rfl) (of_decide_eq_true (by kernel_rfl)) k1 bel lt1) trodAll_mk0)), rfl, bel.frame _, fun h => by cases h⟩

theorem reads (os : Os) {H : Type} (enc : TypeId × Value → H) : ∃ places, DataW.whole enc Tryz.prog ((LogP.laidW os).forCall (fun _ _ => 0) ⟨#[], #[.int .i64 0, .slice none 0 0], []⟩).memory Tryz.f3.params.toList Rows.logPlaysSpec.vars false (#[.int .i64 0, .slice none 0 0] : Array Value).toList 8 = some ([.lit (.int .i64 0), .nil], [], places) :=
  ⟨[], by kernel_rfl⟩

set_option maxRecDepth 100000 in
theorem lifted (os : Os) (started : os.Started) (H : Type) (enc : TypeId × Value → H) (F : Stop.Interp) :
    ReturnsInHanded {} Tryz.checked os 3 .any ((OpenSpec.ofChange Rows.logPlaysSpec).preRow enc Tryz.prog Tryz.f3 Rows.logPlaysRow.domain false Rows.logPlaysRow.laid) (((OpenSpec.ofChange Rows.logPlaysSpec).at F).post enc Tryz.prog Tryz.f3 false true false false) := by
  obtain ⟨places, hx⟩ := reads os enc
  refine returnsInHanded_of_row (C := Tryz.checked) (s := (OpenSpec.ofChange Rows.logPlaysSpec)) own started (by kernel_rfl) Tryz.func3
    (witness_row_at (enc := enc) (C := Tryz.checked) false (LogP.laidW os) #[.int .i64 0, .slice none 0 0] (LogP.laidW_os os) (by kernel_rfl) (by kernel_rfl) (by kernel_rfl)
      (OpenSpec.preRow_of_cond 8 hx (by kernel_rfl) (fun k hk => by cases hk) (by kernel_rfl) (LogP.laidW_met os _))) ?_
  intro W base args ds gs before hval hW _ hcond hsz hL hsh _
  exact contract H enc W base args ds gs before hval hW hsz (LogP.varsT_of hL hsh) trivial

theorem said : Rows.LogPlaysSaid :=
  OpenClaim.holds_of_cond 3 Tryz.f3 rfl rfl rfl rfl rfl rfl rfl ⟨rfl, rfl, rfl, rfl, rfl⟩ rfl rfl rfl rfl rfl (by kernel_rfl) Tryz.func3 (by kernel_rfl)
    (of_decide_eq_true (by kernel_rfl)) (by unfold Func.isWrapper; first | (rw [if_pos (by decide +kernel)]; kernel_rfl) | (rw [if_neg (by decide +kernel)]; exact ⟨rfl, rfl⟩))
    (fun os started H enc _ F => by rw [OpenClaim.pre_eq_preRow]; exact lifted os started H enc F)

theorem plain (f : FuncId) (fn : Func) (hf : Tryz.pinned.checked.prog.funcNamed "yankline/yanklinelaw05.LogPlays" = some f) (hfn : Tryz.pinned.checked.prog.funcs[f]? = some fn) :
    true = Tryz.pinned.checked.prog.looks [] ∧ ∀ (j : Nat) t, fn.params[j]? = some t → Tryz.pinned.checked.prog.wantsStandIn t = false := by
  obtain rfl : f = 3 := Option.some.inj ((show Tryz.prog.funcNamed "yankline/yanklinelaw05.LogPlays" = some 3 by kernel_rfl).symm.trans hf) |>.symm
  obtain rfl : fn = Tryz.f3 := (Option.some.inj (Tryz.func3.symm.trans hfn)).symm
  refine ⟨by kernel_rfl, fun j t ht => ?_⟩
  rw [Tryz.params3] at ht
  have hall : ([3, 22] : List Nat).all (fun t => !(Tryz.prog.wantsStandIn t)) = true := by kernel_rfl
  have h := List.all_eq_true.1 hall t (Array.mem_toList_iff.2 (Array.mem_of_getElem? ht))
  have h2 : Tryz.prog.wantsStandIn t = false := by simpa using h
  exact h2

theorem card : Rows.LogPlaysCardSaid :=
  Claim7.holds_tied_plain_at .later [] _ _ _ _ said (fun _ h => by cases h) (by kernel_rfl) (fun _ h => by cases h) logPlays_row_tie rfl ⟨rfl, rfl⟩ (by kernel_rfl) rfl plain (by kernel_rfl)

end Go.Proofs.YtlnbjlidakdmlaaGreatDoor.logPlays
namespace Go.Proofs.YtlnbjlidakdmlaaGreatDoor
theorem logPlays_holds : Rows.LogPlaysCardSaid := logPlays.card
#print axioms logPlays_holds
end Go.Proofs.YtlnbjlidakdmlaaGreatDoor
