/-
  Proved: whatever bytes s and whatever list of calls (numbers, words, bytes, texts, lists of texts, the end; with any bounds): the reader answers each of the first 200 of them as the document says, with its error and its place, and stands where it must (P2.2 to P2.4); alive() answers true: CodeReads returns true and writes nothing that was there.
  Conditions: the error type's variable of package errors reads as the program's text lays it (the card ties it).
-/
import Derived.Test.YtgjcbcakmcgjhaaDoorCards
import Derived.Test.YtgjcbcakmcgjhaaDoorTie
import Derived.Test.YtgjcbcakmcgjhaaDoorErrVars
import Derived.Test.YtgjcbcakmcgjhaaDoorCodeWalkReads
import Derived.WalkKit
import Derived.ProofKit
import Derived.OpenShut
import Derived.ShutString
import Derived.ChangeOld
import Derived.Below
import Derived.SizedLaws
import Derived.LaidLaws
import Derived.Deep.DeepHandedRow
import Derived.SevenTiedAt
import Derived.Test.YtgjcbcakmcgjhaaDoorStructs
namespace Go.Proofs.YtgjcbcakmcgjhaaDoor.codeReads
open Go.ChangeShapes Go.WideShapes Go.ChangeAt Go.RowKit
open Go.ChangeMaps (open_string shut_string)
open CodeC CodeM ErrC
set_option linter.unusedVariables false
set_option linter.unusedSimpArgs false

theorem own : ownKnob Tryd.prog.godebug = none := by kernel_rfl
theorem laidOut : laidOutB Tryd.prog = true := by kernel_rfl

theorem walk (a0 : ByteArray) (a1 : Option Addr) (len1 cap1 : Nat) (z1 : List (List Lit)) (w : World) (w0 : a0.size ≤ maxLen) (r0 : a0.size ≤ 140737488351232) (w1 : Frame.IsStructs [.int .i64, .int .u64, .int .i64, .int .i64] w a1 len1 cap1 z1) (r1 : cap1 * 32 ≤ 140737488351232) (hv : ErrC.Vars w) :
    Calls Tryd.prog 4 #[.string a0, .slice a1 len1 cap1] w fun e w' => e = .returned (.bool true) ∧ Below w.heap.size w w' := by
  rcases w1 with ⟨rfl, rfl, rfl, rfl⟩ | ⟨x, rfl, hl, hm, hz, hrow, hcell⟩
  · exact reads_none a0 none 0 w hv
  · by_cases h0 : 0 < len1
    · have hstep : ∀ i, i < len1 → ∃ (D T E : Int) (M : Nat), M < 18446744073709551616 ∧ T ≤ 9223372036854775807 ∧ E ≤ 9223372036854775807 ∧
          w.cell? (x.add (i * 4)) = some (.int .i64 D) ∧ w.cell? (x.add (i * 4 + 1)) = some (.int .u64 M) ∧ w.cell? (x.add (i * 4 + 2)) = some (.int .i64 T) ∧ w.cell? (x.add (i * 4 + 3)) = some (.int .i64 E) := by
        intro i hi
        have hin : i < z1.length := by omega
        obtain ⟨hlen, hfit⟩ := hrow z1[i] (List.getElem_mem hin)
        have hget : z1.getD i [] = z1[i] := by simp [hin]
        have c := fun j (hj : j < 4) => hcell i (by omega) j hj
        rw [hget] at c
        generalize z1[i] = row at *
        match row, hlen with
        | [l0, l1, l2, l3], _ =>
          obtain ⟨D, rfl, hD⟩ := hfit 0 _ _ rfl rfl
          obtain ⟨M, rfl, hM⟩ := hfit 1 _ _ rfl rfl
          obtain ⟨T, rfl, hT⟩ := hfit 2 _ _ rfl rfl
          obtain ⟨E, rfl, hE⟩ := hfit 3 _ _ rfl rfl
          obtain ⟨m, rfl, hm⟩ := nat_u64 hM
          exact ⟨D, T, E, m, hm, (int_i64 hT).2, (int_i64 hE).2, c 0 (by decide), c 1 (by decide), c 2 (by decide), c 3 (by decide)⟩
      obtain ⟨b, off, spot⟩ := x
      have hspot : spot = none := by
        obtain ⟨D, _, _, _, _, _, _, h, _⟩ := hstep 0 h0
        simpa [Addr.add] using World.cell?_spot h
      subst hspot
      have hb : b < w.heap.size := by
        obtain ⟨D, _, _, _, _, _, _, h, _⟩ := hstep 0 h0
        rw [Go.WideShapes.add_plain] at h
        exact World.block_lt_of_cell? _ _ h
      refine reads_some a0 b off len1 cap1 w (by omega) hb (fun i hi => ?_) hv
      obtain ⟨D, T, E, M, hM, hT, hE, c0, c1, c2, c3⟩ := hstep i hi
      rw [Go.WideShapes.add_plain] at c0 c1 c2 c3
      exact ⟨D, T, E, M, hM, hT, hE, c0, c1, c2, c3⟩
    · obtain rfl : len1 = 0 := by omega
      exact reads_none a0 _ _ w hv

set_option maxRecDepth 100000 in
theorem contract (H : Type) (enc : TypeId × Value → H) (W : World) (base : Nat) (args : Array Value) (ds gs : List (DataW H)) (before : List MemPlace)
    (hval0 : ∀ (j : Nat) t v, Tryd.f4.params[j]? = some t → args[j]? = some v → Value.okWide Tryd.prog W .any base t v)
    (hW : DataW.Whole enc Tryd.prog Tryd.f4.params.toList Rows.codeReadsSpec.vars false W args.toList ds gs before)
    (hsz0 : (DataW.weightsEach Tryd.prog (Tryd.f4.params.toList ++ (OpenSpec.ofChange Rows.codeReadsSpec).bare.plain.varTypes Tryd.prog) (ds ++ gs)).all (· ≤ reachBytes) = true)
    (hv : ErrC.Vars W) (hk : True) :
    Calls Tryd.prog 4 args W fun e W' => ∃ v, e = .returned v ∧ Rows.codeReadsSpec.post enc Tryd.prog Tryd.f4 false true false false W args v W' := by
  have hval : ∀ (j : Nat) t v, Tryd.f4.params[j]? = some t → args[j]? = some v → Value.okWide Tryd.prog W .any base t v := hval0
  have hW' := hW
  obtain ⟨p, q, hA0, hV, rfl, hfz, hnd⟩ := hW
  have hA : DataW.TrodAll enc Tryd.prog W 0 (fun _ => true) true Tryd.f4.params.toList args.toList ds p := hA0
  have hsz : (DataW.weightsEach Tryd.prog (Tryd.f4.params.toList ++ Rows.codeReadsSpec.plain.varTypes Tryd.prog) (ds ++ gs)).all (· ≤ reachBytes) = true := hsz0
  rw [Tryd.params4] at hA hval hsz
  obtain ⟨v0, vs0, d0, ds0, p0, q0, hargs, rfl, rfl, h0, rr0⟩ := trodAll_cons hA
  obtain ⟨v1, vs1, d1, ds1, p1, q1, rfl, rfl, rfl, h1, rr1⟩ := trodAll_cons rr0
  obtain ⟨rfl, rfl, rfl⟩ := trodAll_nil rr1
  obtain rfl : args = #[v0, v1] := by cases args; simp_all
  obtain ⟨rfl, rfl⟩ := trodVars_none hV
  obtain ⟨a0, rfl, rfl, rfl, w0⟩ := open_string Tryd.underlying9 (hval 0 9 v0 rfl rfl) h0
  obtain ⟨a1, len1, cap1, rfl⟩ := okWide_slice Tryd.underlying30 (hval 1 30 v1 rfl rfl)
  have k1 := h1
  have lt1 : ∀ x ∈ p1, x.block < W.heap.size := by obtain ⟨m, hm⟩ := k1; exact DataW.trod_lt m _ _ _ hm
  obtain ⟨z1, w1, r1, ub1⟩ : ∃ zs, Frame.IsStructs [.int .i64, .int .u64, .int .i64, .int .i64] W a1 len1 cap1 zs ∧ cap1 * 32 ≤ 140737488351232 ∧ Frame.bulkRows zs + 1 ≤ Rows.uptoBulk d1 := by
    obtain ⟨fuel, hf⟩ := h1
    have ho := @Frame.open_structs H enc Tryd.prog W 0 true _ _ _ [.int .i64, .int .u64, .int .i64, .int .i64] _ _ _ Tryd.underlying30 Tryd.underlying38 (by kernel_rfl) (by kernel_rfl) rfl (by
      intro j f k h1 h2
      rcases j with _ | _ | _ | _ | j
      · simp at h1 h2; subst h1; subst h2; exact Tryd.underlying3
      · simp at h1 h2; subst h1; subst h2; exact Tryd.underlying22
      · simp at h1 h2; subst h1; subst h2; exact Tryd.underlying3
      · simp at h1 h2; subst h1; subst h2; exact Tryd.underlying3
      · simp at h1) hf
    rcases ho with ⟨hcs, hx⟩ | ⟨x, l, c, zs, hcs, hl, hm, hz, hx, hrow, hcell⟩
    · simp [Value.cells] at hcs
      obtain ⟨rfl, rfl, rfl⟩ := hcs
      simp only at hx
      subst hx
      exact ⟨[], .inl ⟨rfl, rfl, rfl, rfl⟩, by omega, by simp [Rows.uptoBulk, Frame.bulkRows]⟩
    · simp [Value.cells] at hcs
      obtain ⟨rfl, rfl, rfl⟩ := hcs
      simp only at hx
      subst hx
      have hb := sized_slice hsz (j := 1) (t := 30) (e := 38) rfl rfl Tryd.underlying30
      rw [show Tryd.prog.bytesOf 38 = 32 from by kernel_rfl] at hb
      exact ⟨zs, .inr ⟨_, rfl, hl, hm, hz, hrow, hcell⟩, by simp [Frame.aggs, reachBytes] at hb; omega, by simp only [Rows.uptoBulk]; rw [Frame.bulk_aggs, Frame.bulk_aggs, ← Frame.bulkRows_append, List.take_append_drop]; exact Nat.le_refl _⟩
  have r0 : a0.size ≤ 140737488351232 := by have := sized_string hsz (j := 0) (t := 9) (bytes := a0.data.toList) rfl rfl; simpa [reachBytes] using this
  clear hA0 hval0
  refine (walk a0 a1 len1 cap1 z1 W w0 r0 w1 r1 hv).mono fun e W' ⟨he, bel⟩ => ?_
  subst he
  exact ⟨_, rfl, _, _, _, [], _, [], hW', trodAll_mk1 (shut_bool Tryd.underlying4 _), (trodAll_cons_mk (shut_string Tryd.underlying9 w0) (trodAll_cons_mk (Below.trod laidOut (by kernel_rfl) (of_decide_eq_true (by kernel_rfl)) k1 bel lt1) trodAll_mk0)), rfl, bel.frame _, fun h => by cases h⟩

theorem reads (os : Os) {H : Type} (enc : TypeId × Value → H) : ∃ places, DataW.whole enc Tryd.prog ((ErrC.laidWorld os).forCall (fun _ _ => 0) ⟨#[], #[.string ByteArray.empty, .slice none 0 0], []⟩).memory Tryd.f4.params.toList Rows.codeReadsSpec.vars false (#[.string ByteArray.empty, .slice none 0 0] : Array Value).toList 8 = some ([.lit (.string []), .nil], [], places) :=
  ⟨[], by kernel_rfl⟩

set_option maxRecDepth 100000 in
theorem lifted (os : Os) (started : os.Started) (H : Type) (enc : TypeId × Value → H) (F : Stop.Interp) :
    ReturnsInHanded {} Tryd.checked os 4 .any ((OpenSpec.ofChange Rows.codeReadsSpec).preRow enc Tryd.prog Tryd.f4 Rows.codeReadsRow.domain false Rows.codeReadsRow.laid) (((OpenSpec.ofChange Rows.codeReadsSpec).at F).post enc Tryd.prog Tryd.f4 false true false false) := by
  obtain ⟨places, hx⟩ := reads os enc
  refine returnsInHanded_of_row (C := Tryd.checked) (s := (OpenSpec.ofChange Rows.codeReadsSpec)) own started (by kernel_rfl) Tryd.func4
    (witness_row_at (enc := enc) (C := Tryd.checked) false (ErrC.laidWorld os) #[.string ByteArray.empty, .slice none 0 0] rfl (by kernel_rfl) (by kernel_rfl) (by kernel_rfl)
      (OpenSpec.preRow_of_cond 8 hx (by kernel_rfl) (fun k hk => by cases hk) (by kernel_rfl) (ErrC.laid_met os _))) ?_
  intro W base args ds gs before hval hW _ hcond hsz hL hsh _
  exact contract H enc W base args ds gs before hval hW hsz (ErrC.vars_of hL hsh) trivial

theorem said : Rows.CodeReadsSaid :=
  OpenClaim.holds_of_cond 4 Tryd.f4 rfl rfl rfl rfl rfl rfl rfl ⟨rfl, rfl, rfl, rfl, rfl⟩ rfl rfl rfl rfl rfl (by kernel_rfl) Tryd.func4 (by kernel_rfl)
    (of_decide_eq_true (by kernel_rfl)) (by unfold Func.isWrapper; first | (rw [if_pos (by decide +kernel)]; kernel_rfl) | (rw [if_neg (by decide +kernel)]; exact ⟨rfl, rfl⟩))
    (fun os started H enc _ F => by rw [OpenClaim.pre_eq_preRow]; exact lifted os started H enc F)

theorem plain (f : FuncId) (fn : Func) (hf : Tryd.pinned.checked.prog.funcNamed "yankline/yanklinelaw02.CodeReads" = some f) (hfn : Tryd.pinned.checked.prog.funcs[f]? = some fn) :
    true = Tryd.pinned.checked.prog.looks [] ∧ ∀ (j : Nat) t, fn.params[j]? = some t → Tryd.pinned.checked.prog.wantsStandIn t = false := by
  obtain rfl : f = 4 := Option.some.inj ((show Tryd.prog.funcNamed "yankline/yanklinelaw02.CodeReads" = some 4 by kernel_rfl).symm.trans hf) |>.symm
  obtain rfl : fn = Tryd.f4 := (Option.some.inj (Tryd.func4.symm.trans hfn)).symm
  refine ⟨by kernel_rfl, fun j t ht => ?_⟩
  rw [Tryd.params4] at ht
  have hall : ([9, 30] : List Nat).all (fun t => !(Tryd.prog.wantsStandIn t)) = true := by kernel_rfl
  have h := List.all_eq_true.1 hall t (Array.mem_toList_iff.2 (Array.mem_of_getElem? ht))
  have h2 : Tryd.prog.wantsStandIn t = false := by simpa using h
  exact h2

theorem card : Rows.CodeReadsCardSaid :=
  Claim7.holds_tied_plain_at .later [] _ _ _ _ said (fun _ h => by cases h) (by kernel_rfl) (fun _ h => by cases h) codeReads_row_tie rfl ⟨rfl, rfl⟩ (by kernel_rfl) rfl plain (by kernel_rfl)

end Go.Proofs.YtgjcbcakmcgjhaaDoor.codeReads
namespace Go.Proofs.YtgjcbcakmcgjhaaDoor
theorem codeReads_holds : Rows.CodeReadsCardSaid := codeReads.card
#print axioms codeReads_holds
end Go.Proofs.YtgjcbcakmcgjhaaDoor
