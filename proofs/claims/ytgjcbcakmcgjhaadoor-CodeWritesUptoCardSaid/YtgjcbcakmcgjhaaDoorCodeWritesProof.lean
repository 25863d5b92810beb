/-
  Proved: whatever number n, whatever text s and whatever list l of texts, all together of at most 1048576 values and letters: code.Uint(n), code.Word(n), code.Text(s) and code.Texts(l...) are the document's own answers (P2.1), and alive() answers true: CodeWrites returns true and writes nothing that was there.
  Conditions: the bound on what comes in (its second form); the error type's variable of package errors reads as the program's text lays it (the card ties it).
-/
import Derived.Test.YtgjcbcakmcgjhaaDoorCards
import Derived.Test.YtgjcbcakmcgjhaaDoorTie
import Derived.Test.YtgjcbcakmcgjhaaDoorErrVars
import Derived.Test.YtgjcbcakmcgjhaaDoorCodeWalkW
import Derived.WalkKit
import Derived.ProofKit
import Derived.OpenShut
import Derived.ShutString
import Derived.ChangeOld
import Derived.Below
import Derived.SizedLaws
import Derived.LaidLaws
import Derived.Deep.DeepHandedRow
import Derived.SevenTiedAt
import Derived.SliceStrings
namespace Go.Proofs.YtgjcbcakmcgjhaaDoor.codeWrites
open Go.ChangeShapes Go.WideShapes Go.ChangeAt Go.RowKit
open Go.ChangeMaps (open_string shut_string)
open CodeC CodeM ErrC
set_option linter.unusedVariables false
set_option linter.unusedSimpArgs false

theorem own : ownKnob Tryd.prog.godebug = none := by kernel_rfl
theorem laidOut : laidOutB Tryd.prog = true := by kernel_rfl

/-- a slice of texts that came in: nil, or a row of 'cap' texts, the first 'len' its elements -/
def IsTexts (w : World) (a : Option Addr) (len cap : Nat) (zs : List ByteArray) : Prop :=
  (a = none ∧ len = 0 ∧ cap = 0 ∧ zs = []) ∨
  ∃ x, a = some x ∧ len ≤ cap ∧ cap ≤ maxLen ∧ zs.length = cap ∧ (∀ i, i < zs.length → w.cell? (x.add i) = some (.string (zs.getD i ByteArray.empty))) ∧ ∀ s ∈ zs, s.size ≤ maxLen
/-- how many texts and letters -/
def bulkTexts : List ByteArray → Nat
  | [] => 0
  | s :: r => s.size + 1 + bulkTexts r
theorem bulkTexts_append (l r : List ByteArray) : bulkTexts (l ++ r) = bulkTexts l + bulkTexts r := by
  induction l with
  | nil => simp [bulkTexts]
  | cons x l ih => simp only [List.cons_append, bulkTexts, ih]; omega
theorem bulk_strs {H : Type} (l : List ByteArray) : Rows.uptoBulkAll (strs (H := H) l) = bulkTexts l := by
  induction l with
  | nil => rfl
  | cons x r ih => simp only [strs, List.map_cons, Rows.uptoBulkAll, Rows.uptoBulk, bulkTexts] at ih ⊢; rw [ih]; simp

theorem texts_len : ∀ l : List ByteArray, (textsB l).length ≤ 11 * bulkTexts l
  | [] => by simp [textsB]
  | s :: r => by
    have h := texts_len r
    have e : s.data.toList.length = s.size := by simp
    have h1 := uintB_le (s.size + 1) s.size (Nat.lt_of_lt_of_le (Nat.lt_succ_self _) (Nat.le_of_lt (Nat.lt_pow_self (by decide)))) (by omega)
    simp only [textsB, textB, bulkTexts, List.length_append, e]
    omega
theorem walk (a0 : Int) (a1 : ByteArray) (a2 : Option Addr) (len2 cap2 : Nat) (z2 : List ByteArray) (w : World) (w0 : (Lit.int .u64 a0).wf = true) (w1 : a1.size ≤ maxLen) (r1 : a1.size ≤ 140737488351232) (w2 : IsTexts w a2 len2 cap2 z2) (r2 : cap2 * 16 ≤ 140737488351232) (hv : ErrC.Vars w) (hu : 1 + (a1.size + 1) + (bulkTexts z2 + 1) ≤ 1048576) :
    Calls Tryd.prog 3 #[.int .u64 a0, .string a1, .slice a2 len2 cap2] w fun e w' => e = .returned (.bool true) ∧ Below w.heap.size w w' := by
  obtain ⟨n, rfl, hn⟩ := nat_u64 w0
  have hlen := texts_len (z2.take len2)
  have hbt : bulkTexts (z2.take len2) ≤ bulkTexts z2 := by
    have e := bulkTexts_append (z2.take len2) (z2.drop len2)
    rw [List.take_append_drop] at e
    omega
  rcases w2 with ⟨rfl, rfl, rfl, rfl⟩ | ⟨x, rfl, hl, hm, hz, hcell, hsz⟩
  · exact writes_any n a1 _ _ w hn (by omega) hv (fun w' _ => ctexts_none none 0 w') (fun w' _ => rtexts_none none 0 w')
  · by_cases h0 : 0 < len2
    · obtain ⟨b, o, rfl, hb, hc⟩ := texts_plain hcell (by omega)
      refine writes_any n a1 _ ⟨(listB (z2.take len2)).toArray⟩ w hn (by omega) hv (fun w' h => ?_) (fun w' h => ?_)
      · exact ctexts_some b o len2 cap2 z2 w' (by omega) (by unfold maxLen at hm; omega) (Nat.lt_of_lt_of_le hb h.size) (fun i hi => by rw [h.cell hb]; exact hc i (by omega)) (by omega)
      · exact rtexts_some b o len2 cap2 z2 w' (by omega) (by unfold maxLen at hm; omega) (Nat.lt_of_lt_of_le hb h.size) (fun i hi => by rw [h.cell hb]; exact hc i (by omega)) (by omega)
    · obtain rfl : len2 = 0 := by omega
      exact writes_any n a1 _ _ w hn (by omega) hv (fun w' _ => ctexts_none _ _ w') (fun w' _ => rtexts_none _ _ w')

set_option maxRecDepth 100000 in
theorem contract (H : Type) (enc : TypeId × Value → H) (W : World) (base : Nat) (args : Array Value) (ds gs : List (DataW H)) (before : List MemPlace)
    (hval0 : ∀ (j : Nat) t v, Tryd.f3.params[j]? = some t → args[j]? = some v → Value.okWide Tryd.prog W .any base t v)
    (hW : DataW.Whole enc Tryd.prog Tryd.f3.params.toList Rows.codeWritesSpec.vars false W args.toList ds gs before)
    (hsz0 : (DataW.weightsEach Tryd.prog (Tryd.f3.params.toList ++ (Rows.OpenSpec.upto Rows.codeWritesSpec).bare.plain.varTypes Tryd.prog) (ds ++ gs)).all (· ≤ reachBytes) = true)
    (hv : ErrC.Vars W) (hk : Rows.uptoSmall H (ds ++ gs) = true) :
    Calls Tryd.prog 3 args W fun e W' => ∃ v, e = .returned v ∧ Rows.codeWritesSpec.post enc Tryd.prog Tryd.f3 false true false false W args v W' := by
  have hval : ∀ (j : Nat) t v, Tryd.f3.params[j]? = some t → args[j]? = some v → Value.okWide Tryd.prog W .any base t v := hval0
  have hW' := hW
  obtain ⟨p, q, hA0, hV, rfl, hfz, hnd⟩ := hW
  have hA : DataW.TrodAll enc Tryd.prog W 0 (fun _ => true) true Tryd.f3.params.toList args.toList ds p := hA0
  have hsz : (DataW.weightsEach Tryd.prog (Tryd.f3.params.toList ++ Rows.codeWritesSpec.plain.varTypes Tryd.prog) (ds ++ gs)).all (· ≤ reachBytes) = true := hsz0
  rw [Tryd.params3] at hA hval hsz
  obtain ⟨v0, vs0, d0, ds0, p0, q0, hargs, rfl, rfl, h0, rr0⟩ := trodAll_cons hA
  obtain ⟨v1, vs1, d1, ds1, p1, q1, rfl, rfl, rfl, h1, rr1⟩ := trodAll_cons rr0
  obtain ⟨v2, vs2, d2, ds2, p2, q2, rfl, rfl, rfl, h2, rr2⟩ := trodAll_cons rr1
  obtain ⟨rfl, rfl, rfl⟩ := trodAll_nil rr2
  obtain rfl : args = #[v0, v1, v2] := by cases args; simp_all
  obtain ⟨rfl, rfl⟩ := trodVars_none hV
  obtain ⟨a0, rfl, rfl, rfl, w0⟩ := open_int Tryd.underlying22 (hval 0 22 v0 rfl rfl) h0
  obtain ⟨a1, rfl, rfl, rfl, w1⟩ := open_string Tryd.underlying9 (hval 1 9 v1 rfl rfl) h1
  obtain ⟨a2, len2, cap2, rfl⟩ := okWide_slice Tryd.underlying23 (hval 2 23 v2 rfl rfl)
  have k2 := h2
  have lt2 : ∀ x ∈ p2, x.block < W.heap.size := by obtain ⟨m, hm⟩ := k2; exact DataW.trod_lt m _ _ _ hm
  obtain ⟨z2, w2, r2, ub2⟩ : ∃ zs, IsTexts W a2 len2 cap2 zs ∧ cap2 * 16 ≤ 140737488351232 ∧ (bulkTexts zs + 1) ≤ Rows.uptoBulk d2 := by
    obtain ⟨fuel, hf⟩ := h2
    rcases open_strings Tryd.underlying23 Tryd.underlying9 (by kernel_rfl) hf with ⟨hcs, hx⟩ | ⟨x, l, c, zs, hcs, _, hl, hm, hz, hx, hcell, hwz⟩
    · simp [Value.cells] at hcs
      obtain ⟨rfl, rfl, rfl⟩ := hcs
      simp only [Prod.mk.injEq] at hx
      obtain ⟨hd, _⟩ := hx
      subst hd
      exact ⟨[], .inl ⟨rfl, rfl, rfl, rfl⟩, by omega, by simp [Rows.uptoBulk, bulkTexts]⟩
    · simp [Value.cells] at hcs
      obtain ⟨rfl, rfl, rfl⟩ := hcs
      simp only [Prod.mk.injEq] at hx
      obtain ⟨hd, _⟩ := hx
      subst hd
      have hb := sized_slice hsz (j := 2) (t := 23) (e := 9) rfl rfl Tryd.underlying23
      have hz' : zs.length = cap2 := by simpa using hz
      rw [show Tryd.prog.bytesOf 9 = 16 from by kernel_rfl] at hb
      exact ⟨zs, .inr ⟨_, rfl, hl, hm, hz', hcell, hwz⟩, by simp [strs, reachBytes] at hb; omega, by simp only [Rows.uptoBulk]; rw [bulk_strs, bulk_strs]; rw [← bulkTexts_append, List.take_append_drop]; exact Nat.le_refl _⟩
  have r1 : a1.size ≤ 140737488351232 := by have := sized_string hsz (j := 1) (t := 9) (bytes := a1.data.toList) rfl rfl; simpa [reachBytes] using this
  have hu : 1 + (a1.size + 1) + (bulkTexts z2 + 1) ≤ 1048576 := by
    have h : Rows.uptoBulkAll _ ≤ 1048576 := of_decide_eq_true hk
    simp only [List.append_nil, Rows.uptoBulkAll, Rows.uptoBulk, Array.length_toList] at h
    have e : ∀ b : ByteArray, b.data.size = b.size := fun _ => rfl
    simp only [e] at h
    omega
  clear hA0 hval0
  refine (walk a0 a1 a2 len2 cap2 z2 W w0 w1 r1 w2 r2 hv hu).mono fun e W' ⟨he, bel⟩ => ?_
  subst he
  exact ⟨_, rfl, _, _, _, [], _, [], hW', trodAll_mk1 (shut_bool Tryd.underlying4 _), (trodAll_cons_mk (shut_int Tryd.underlying22 w0) (trodAll_cons_mk (shut_string Tryd.underlying9 w1) (trodAll_cons_mk (Below.trod laidOut (by kernel_rfl) (of_decide_eq_true (by kernel_rfl)) k2 bel lt2) trodAll_mk0))), rfl, bel.frame _, fun h => by cases h⟩

theorem reads (os : Os) {H : Type} (enc : TypeId × Value → H) : ∃ places, DataW.whole enc Tryd.prog ((ErrC.laidWorld os).forCall (fun _ _ => 0) ⟨#[], #[.int .u64 0, .string ByteArray.empty, .slice none 0 0], []⟩).memory Tryd.f3.params.toList Rows.codeWritesSpec.vars false (#[.int .u64 0, .string ByteArray.empty, .slice none 0 0] : Array Value).toList 8 = some ([.lit (.int .u64 0), .lit (.string []), .nil], [], places) :=
  ⟨[], by kernel_rfl⟩

set_option maxRecDepth 100000 in
theorem lifted (os : Os) (started : os.Started) (H : Type) (enc : TypeId × Value → H) (F : Stop.Interp) :
    ReturnsInHanded {} Tryd.checked os 3 .any ((Rows.OpenSpec.upto Rows.codeWritesSpec).preRow enc Tryd.prog Tryd.f3 Rows.codeWritesUptoRow.domain false Rows.codeWritesUptoRow.laid) (((Rows.OpenSpec.upto Rows.codeWritesSpec).at F).post enc Tryd.prog Tryd.f3 false true false false) := by
  obtain ⟨places, hx⟩ := reads os enc
  refine returnsInHanded_of_row (C := Tryd.checked) (s := (Rows.OpenSpec.upto Rows.codeWritesSpec)) own started (by kernel_rfl) Tryd.func3
    (witness_row_at (enc := enc) (C := Tryd.checked) false (ErrC.laidWorld os) #[.int .u64 0, .string ByteArray.empty, .slice none 0 0] rfl (by kernel_rfl) (by kernel_rfl) (by kernel_rfl)
      (OpenSpec.preRow_of_cond 8 hx (by kernel_rfl) (fun k hk => by cases hk; kernel_rfl) (by kernel_rfl) (ErrC.laid_met os _))) ?_
  intro W base args ds gs before hval hW _ hcond hsz hL hsh _
  exact contract H enc W base args ds gs before hval hW hsz (ErrC.vars_of hL hsh) (hcond _ rfl)

theorem said : Rows.CodeWritesUptoSaid :=
  OpenClaim.holds_of_cond 3 Tryd.f3 rfl rfl rfl rfl rfl rfl rfl ⟨rfl, rfl, rfl, rfl, rfl⟩ rfl rfl rfl rfl rfl (by kernel_rfl) Tryd.func3 (by kernel_rfl)
    (of_decide_eq_true (by kernel_rfl)) (by unfold Func.isWrapper; first | (rw [if_pos (by decide +kernel)]; kernel_rfl) | (rw [if_neg (by decide +kernel)]; exact ⟨rfl, rfl⟩))
    (fun os started H enc _ F => by rw [OpenClaim.pre_eq_preRow]; exact lifted os started H enc F)

theorem plain (f : FuncId) (fn : Func) (hf : Tryd.pinned.checked.prog.funcNamed "yankline/yanklinelaw02.CodeWrites" = some f) (hfn : Tryd.pinned.checked.prog.funcs[f]? = some fn) :
    true = Tryd.pinned.checked.prog.looks [] ∧ ∀ (j : Nat) t, fn.params[j]? = some t → Tryd.pinned.checked.prog.wantsStandIn t = false := by
  obtain rfl : f = 3 := Option.some.inj ((show Tryd.prog.funcNamed "yankline/yanklinelaw02.CodeWrites" = some 3 by kernel_rfl).symm.trans hf) |>.symm
  obtain rfl : fn = Tryd.f3 := (Option.some.inj (Tryd.func3.symm.trans hfn)).symm
  refine ⟨by kernel_rfl, fun j t ht => ?_⟩
  rw [Tryd.params3] at ht
  have hall : ([22, 9, 23] : List Nat).all (fun t => !(Tryd.prog.wantsStandIn t)) = true := by kernel_rfl
  have h := List.all_eq_true.1 hall t (Array.mem_toList_iff.2 (Array.mem_of_getElem? ht))
  have h2 : Tryd.prog.wantsStandIn t = false := by simpa using h
  exact h2

theorem card : Rows.CodeWritesUptoCardSaid :=
  Claim7.holds_tied_plain_at .later [] _ _ _ _ said (fun _ h => by cases h) (by kernel_rfl) (fun _ h => by cases h) codeWritesUpto_row_tie rfl ⟨rfl, rfl⟩ (by kernel_rfl) rfl plain (by kernel_rfl)

end Go.Proofs.YtgjcbcakmcgjhaaDoor.codeWrites
namespace Go.Proofs.YtgjcbcakmcgjhaaDoor
theorem codeWrites_holds : Rows.CodeWritesUptoCardSaid := codeWrites.card
#print axioms codeWrites_holds
end Go.Proofs.YtgjcbcakmcgjhaaDoor
