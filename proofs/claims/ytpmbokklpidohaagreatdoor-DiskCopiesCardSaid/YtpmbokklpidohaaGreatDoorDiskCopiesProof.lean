/-
  Proved: whatever cut (an integer of 64 bits) and whatever two rows l and k of steps (what to do, a name, a text, a number: of any length, nil or not): behind the first 40 steps of l (those whose text is of fewer than 4096 bytes), made of package disk's disk and of the document's, the copy of each has the same files, the first 40 steps of k made of the copies have the same answers, and the disks themselves stand as they stood: the same files, raw writes, dead or not; they have the same files as their copies where the document's have (P3.4); alive() answers true: DiskCopies returns true and changes nothing that was there.
  Conditions: the error type's variable of package errors reads as the program's text lays it (the card ties it).
-/
import Derived.Test.YtpmbokklpidohaaGreatDoorCards
import Derived.Test.YtpmbokklpidohaaGreatDoorTie
import Derived.Test.YtpmbokklpidohaaGreatDoorErrVars
import Derived.Test.YtpmbokklpidohaaGreatDoorDiskCopies
import Derived.WalkKit
import Derived.ProofKit
import Derived.OpenShut
import Derived.ShutString
import Derived.ChangeOld
import Derived.Below
import Derived.SizedLaws
import Derived.LaidLaws
import Derived.Deep.DeepHandedRow
import Derived.SevenTiedAt
import Derived.Test.YtpmbokklpidohaaGreatDoorStructs
namespace Go.Proofs.YtpmbokklpidohaaGreatDoor.diskCopies
open Go.ChangeShapes Go.WideShapes Go.ChangeAt Go.RowKit
open Go.ChangeMaps (open_string shut_string)
open DiskP DiskM DiskC ErrC
set_option linter.unusedVariables false
set_option linter.unusedSimpArgs false

theorem own : ownKnob Tryz.prog.godebug = none := by kernel_rfl
theorem laidOut : laidOutB Tryz.prog = true := by kernel_rfl

theorem walk (a0 : Int) (a1 : Option Addr) (len1 cap1 : Nat) (z1 : List (List Lit)) (a2 : Option Addr) (len2 cap2 : Nat) (z2 : List (List Lit)) (w : World) (w0 : (Lit.int .i64 a0).wf = true) (w1 : Frame.IsStructs [.int .i64, .text, .text, .int .i64] w a1 len1 cap1 z1) (r1 : cap1 * 48 ≤ 140737488351232 ∧ Frame.Short z1) (w2 : Frame.IsStructs [.int .i64, .text, .text, .int .i64] w a2 len2 cap2 z2) (r2 : cap2 * 48 ≤ 140737488351232 ∧ Frame.Short z2) (hv : ErrC.Vars w) :
    Calls Tryz.prog 3 #[.int .i64 a0, .slice a1 len1 cap1, .slice a2 len2 cap2] w fun e w' => e = .returned (.bool true) ∧ Below w.heap.size w w' := by
  exact copies_rows a0 a1 a2 len1 cap1 len2 cap2 z1 z2 w w1 r1.2 w2 r2.2 hv

set_option maxRecDepth 100000 in
theorem contract (H : Type) (enc : TypeId × Value → H) (W : World) (base : Nat) (args : Array Value) (ds gs : List (DataW H)) (before : List MemPlace)
    (hval0 : ∀ (j : Nat) t v, Tryz.f3.params[j]? = some t → args[j]? = some v → Value.okWide Tryz.prog W .any base t v)
    (hW : DataW.Whole enc Tryz.prog Tryz.f3.params.toList Rows.diskCopiesSpec.vars false W args.toList ds gs before)
    (hsz0 : (DataW.weightsEach Tryz.prog (Tryz.f3.params.toList ++ (OpenSpec.ofChange Rows.diskCopiesSpec).bare.plain.varTypes Tryz.prog) (ds ++ gs)).all (· ≤ reachBytes) = true)
    (hv : ErrC.Vars W) (hk : True) :
    Calls Tryz.prog 3 args W fun e W' => ∃ v, e = .returned v ∧ Rows.diskCopiesSpec.post enc Tryz.prog Tryz.f3 false true false false W args v W' := by
  have hval : ∀ (j : Nat) t v, Tryz.f3.params[j]? = some t → args[j]? = some v → Value.okWide Tryz.prog W .any base t v := hval0
  have hW' := hW
  obtain ⟨p, q, hA0, hV, rfl, hfz, hnd⟩ := hW
  have hA : DataW.TrodAll enc Tryz.prog W 0 (fun _ => true) true Tryz.f3.params.toList args.toList ds p := hA0
  have hsz : (DataW.weightsEach Tryz.prog (Tryz.f3.params.toList ++ Rows.diskCopiesSpec.plain.varTypes Tryz.prog) (ds ++ gs)).all (· ≤ reachBytes) = true := hsz0
  rw [Tryz.params3] at hA hval hsz
  obtain ⟨v0, vs0, d0, ds0, p0, q0, hargs, rfl, rfl, h0, rr0⟩ := trodAll_cons hA
  obtain ⟨v1, vs1, d1, ds1, p1, q1, rfl, rfl, rfl, h1, rr1⟩ := trodAll_cons rr0
  obtain ⟨v2, vs2, d2, ds2, p2, q2, rfl, rfl, rfl, h2, rr2⟩ := trodAll_cons rr1
  obtain ⟨rfl, rfl, rfl⟩ := trodAll_nil rr2
  obtain rfl : args = #[v0, v1, v2] := by cases args; simp_all
  obtain ⟨rfl, rfl⟩ := trodVars_none hV
  obtain ⟨a0, rfl, rfl, rfl, w0⟩ := open_int Tryz.underlying3 (hval 0 3 v0 rfl rfl) h0
  obtain ⟨a1, len1, cap1, rfl⟩ := okWide_slice Tryz.underlying22 (hval 1 22 v1 rfl rfl)
  have k1 := h1
  have lt1 : ∀ x ∈ p1, x.block < W.heap.size := by obtain ⟨m, hm⟩ := k1; exact DataW.trod_lt m _ _ _ hm
  obtain ⟨z1, w1, r1, ub1⟩ : ∃ zs, Frame.IsStructs [.int .i64, .text, .text, .int .i64] W a1 len1 cap1 zs ∧ (cap1 * 48 ≤ 140737488351232 ∧ Frame.Short zs) ∧ Frame.bulkRows zs + 1 ≤ Rows.uptoBulk d1 := by
    obtain ⟨fuel, hf⟩ := h1
    have ho := @Frame.open_structs H enc Tryz.prog W 0 true _ _ _ [.int .i64, .text, .text, .int .i64] _ _ _ Tryz.underlying22 Tryz.underlying28 (by kernel_rfl) (by kernel_rfl) rfl (by
      intro j f k h1 h2
      rcases j with _ | _ | _ | _ | j
      · simp at h1 h2; subst h1; subst h2; exact Tryz.underlying3
      · simp at h1 h2; subst h1; subst h2; exact Tryz.underlying9
      · simp at h1 h2; subst h1; subst h2; exact Tryz.underlying9
      · simp at h1 h2; subst h1; subst h2; exact Tryz.underlying3
      · simp at h1) hf
    rcases ho with ⟨hcs, hx⟩ | ⟨x, l, c, zs, hcs, hl, hm, hz, hx, hrow, hcell⟩
    · simp [Value.cells] at hcs
      obtain ⟨rfl, rfl, rfl⟩ := hcs
      simp only at hx
      subst hx
      exact ⟨[], .inl ⟨rfl, rfl, rfl, rfl⟩, ⟨by omega, Frame.short_nil⟩, by simp [Rows.uptoBulk, Frame.bulkRows]⟩
    · simp [Value.cells] at hcs
      obtain ⟨rfl, rfl, rfl⟩ := hcs
      simp only at hx
      subst hx
      have hb := sized_slice hsz (j := 1) (t := 22) (e := 28) rfl rfl Tryz.underlying22
      rw [show Tryz.prog.bytesOf 28 = 48 from by kernel_rfl] at hb
      have hsh := Frame.sized_rows (ks := [.int .i64, .text, .text, .int .i64]) hsz (j := 1) (t := 22) (e := 28) rfl rfl Tryz.underlying22 Tryz.underlying28 rfl hrow
      exact ⟨zs, .inr ⟨_, rfl, hl, hm, hz, hrow, hcell⟩, ⟨by simp [Frame.aggs, reachBytes] at hb; omega, hsh⟩, by simp only [Rows.uptoBulk]; rw [Frame.bulk_aggs, Frame.bulk_aggs, ← Frame.bulkRows_append, List.take_append_drop]; exact Nat.le_refl _⟩
  obtain ⟨a2, len2, cap2, rfl⟩ := okWide_slice Tryz.underlying22 (hval 2 22 v2 rfl rfl)
  have k2 := h2
  have lt2 : ∀ x ∈ p2, x.block < W.heap.size := by obtain ⟨m, hm⟩ := k2; exact DataW.trod_lt m _ _ _ hm
  obtain ⟨z2, w2, r2, ub2⟩ : ∃ zs, Frame.IsStructs [.int .i64, .text, .text, .int .i64] W a2 len2 cap2 zs ∧ (cap2 * 48 ≤ 140737488351232 ∧ Frame.Short zs) ∧ Frame.bulkRows zs + 1 ≤ Rows.uptoBulk d2 := by
    obtain ⟨fuel, hf⟩ := h2
    have ho := @Frame.open_structs H enc Tryz.prog W 0 true _ _ _ [.int .i64, .text, .text, .int .i64] _ _ _ Tryz.underlying22 Tryz.underlying28 (by kernel_rfl) (by kernel_rfl) rfl (by
      intro j f k h1 h2
      rcases j with _ | _ | _ | _ | j
      · simp at h1 h2; subst h1; subst h2; exact Tryz.underlying3
      · simp at h1 h2; subst h1; subst h2; exact Tryz.underlying9
      · simp at h1 h2; subst h1; subst h2; exact Tryz.underlying9
      · simp at h1 h2; subst h1; subst h2; exact Tryz.underlying3
      · simp at h1) hf
    rcases ho with ⟨hcs, hx⟩ | ⟨x, l, c, zs, hcs, hl, hm, hz, hx, hrow, hcell⟩
    · simp [Value.cells] at hcs
      obtain ⟨rfl, rfl, rfl⟩ := hcs
      simp only at hx
      subst hx
      exact ⟨[], .inl ⟨rfl, rfl, rfl, rfl⟩, ⟨by omega, Frame.short_nil⟩, by simp [Rows.uptoBulk, Frame.bulkRows]⟩
    · simp [Value.cells] at hcs
      obtain ⟨rfl, rfl, rfl⟩ := hcs
      simp only at hx
      subst hx
      have hb := sized_slice hsz (j := 2) (t := 22) (e := 28) rfl rfl Tryz.underlying22
      rw [show Tryz.prog.bytesOf 28 = 48 from by kernel_rfl] at hb
      have hsh := Frame.sized_rows (ks := [.int .i64, .text, .text, .int .i64]) hsz (j := 2) (t := 22) (e := 28) rfl rfl Tryz.underlying22 Tryz.underlying28 rfl hrow
      exact ⟨zs, .inr ⟨_, rfl, hl, hm, hz, hrow, hcell⟩, ⟨by simp [Frame.aggs, reachBytes] at hb; omega, hsh⟩, by simp only [Rows.uptoBulk]; rw [Frame.bulk_aggs, Frame.bulk_aggs, ← Frame.bulkRows_append, List.take_append_drop]; exact Nat.le_refl _⟩
  clear hA0 hval0
  refine (walk a0 a1 len1 cap1 z1 a2 len2 cap2 z2 W w0 w1 r1 w2 r2 hv).mono fun e W' ⟨he, bel⟩ => ?_
  subst he
  exact ⟨_, rfl, _, _, _, [], _, [], hW', trodAll_mk1 (shut_bool Tryz.underlying4 _), (trodAll_cons_mk (shut_int Tryz.underlying3 w0) (trodAll_cons_mk (Below.trod laidOut (by kernel_rfl) (of_decide_eq_true (by kernel_rfl)) k1 bel lt1) (trodAll_cons_mk (Below.trod laidOut (by kernel_rfl) (of_decide_eq_true (by kernel_rfl)) k2 bel lt2) trodAll_mk0))), rfl, bel.frame _, fun h => by cases h⟩

theorem reads (os : Os) {H : Type} (enc : TypeId × Value → H) : ∃ places, DataW.whole enc Tryz.prog ((ErrC.laidWorld os).forCall (fun _ _ => 0) ⟨#[], #[.int .i64 0, .slice none 0 0, .slice none 0 0], []⟩).memory Tryz.f3.params.toList Rows.diskCopiesSpec.vars false (#[.int .i64 0, .slice none 0 0, .slice none 0 0] : Array Value).toList 8 = some ([.lit (.int .i64 0), .nil, .nil], [], places) :=
  ⟨[], by kernel_rfl⟩

set_option maxRecDepth 100000 in
theorem lifted (os : Os) (started : os.Started) (H : Type) (enc : TypeId × Value → H) (F : Stop.Interp) :
    ReturnsInHanded {} Tryz.checked os 3 .any ((OpenSpec.ofChange Rows.diskCopiesSpec).preRow enc Tryz.prog Tryz.f3 Rows.diskCopiesRow.domain false Rows.diskCopiesRow.laid) (((OpenSpec.ofChange Rows.diskCopiesSpec).at F).post enc Tryz.prog Tryz.f3 false true false false) := by
  obtain ⟨places, hx⟩ := reads os enc
  refine returnsInHanded_of_row (C := Tryz.checked) (s := (OpenSpec.ofChange Rows.diskCopiesSpec)) own started (by kernel_rfl) Tryz.func3
    (witness_row_at (enc := enc) (C := Tryz.checked) false (ErrC.laidWorld os) #[.int .i64 0, .slice none 0 0, .slice none 0 0] rfl (by kernel_rfl) (by kernel_rfl) (by kernel_rfl)
      (OpenSpec.preRow_of_cond 8 hx (by kernel_rfl) (fun k hk => by cases hk) (by kernel_rfl) (ErrC.laid_met os _))) ?_
  intro W base args ds gs before hval hW _ hcond hsz hL hsh _
  exact contract H enc W base args ds gs before hval hW hsz (ErrC.vars_of hL hsh) trivial

theorem said : Rows.DiskCopiesSaid :=
  OpenClaim.holds_of_cond 3 Tryz.f3 rfl rfl rfl rfl rfl rfl rfl ⟨rfl, rfl, rfl, rfl, rfl⟩ rfl rfl rfl rfl rfl (by kernel_rfl) Tryz.func3 (by kernel_rfl)
    (of_decide_eq_true (by kernel_rfl)) (by unfold Func.isWrapper; first | (rw [if_pos (by decide +kernel)]; kernel_rfl) | (rw [if_neg (by decide +kernel)]; exact ⟨rfl, rfl⟩))
    (fun os started H enc _ F => by rw [OpenClaim.pre_eq_preRow]; exact lifted os started H enc F)

theorem plain (f : FuncId) (fn : Func) (hf : Tryz.pinned.checked.prog.funcNamed "yankline/yanklinelaw03.DiskCopies" = some f) (hfn : Tryz.pinned.checked.prog.funcs[f]? = some fn) :
    true = Tryz.pinned.checked.prog.looks [] ∧ ∀ (j : Nat) t, fn.params[j]? = some t → Tryz.pinned.checked.prog.wantsStandIn t = false := by
  obtain rfl : f = 3 := Option.some.inj ((show Tryz.prog.funcNamed "yankline/yanklinelaw03.DiskCopies" = some 3 by kernel_rfl).symm.trans hf) |>.symm
  obtain rfl : fn = Tryz.f3 := (Option.some.inj (Tryz.func3.symm.trans hfn)).symm
  refine ⟨by kernel_rfl, fun j t ht => ?_⟩
  rw [Tryz.params3] at ht
  have hall : ([3, 22, 22] : List Nat).all (fun t => !(Tryz.prog.wantsStandIn t)) = true := by kernel_rfl
  have h := List.all_eq_true.1 hall t (Array.mem_toList_iff.2 (Array.mem_of_getElem? ht))
  have h2 : Tryz.prog.wantsStandIn t = false := by simpa using h
  exact h2

theorem card : Rows.DiskCopiesCardSaid :=
  Claim7.holds_tied_plain_at .later [] _ _ _ _ said (fun _ h => by cases h) (by kernel_rfl) (fun _ h => by cases h) diskCopies_row_tie rfl ⟨rfl, rfl⟩ (by kernel_rfl) rfl plain (by kernel_rfl)

end Go.Proofs.YtpmbokklpidohaaGreatDoor.diskCopies
namespace Go.Proofs.YtpmbokklpidohaaGreatDoor
theorem diskCopies_holds : Rows.DiskCopiesCardSaid := diskCopies.card
#print axioms diskCopies_holds
end Go.Proofs.YtpmbokklpidohaaGreatDoor
