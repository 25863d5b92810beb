/-
  Proved: whatever text and whatever list of texts (of at most 60; a longer one asks alive() alone): Pick of them is the document's own answer (P8.3): the greatest version of the list that is in the span, or that there is none, or the number of why not; the list stays as it is, and alive() answers true: SpanPicks returns true and writes nothing that was there.
  Conditions: the listed variables read as the program's text lays them (the card ties them); of package bytealg's MaxLen nothing is asked but that it is a number.
-/
import Derived.Test.YtgoocnmbihjmlaaGreatDoorCards
import Derived.Test.YtgoocnmbihjmlaaGreatDoorTie
import Derived.Test.YtgoocnmbihjmlaaGreatDoorSpanRefP
import Derived.Test.YtgoocnmbihjmlaaGreatDoorSpanRefP
import Derived.WalkKit
import Derived.ProofKit
import Derived.OpenShut
import Derived.ShutString
import Derived.ChangeOld
import Derived.Below
import Derived.SizedLaws
import Derived.LaidLaws
import Derived.Deep.DeepHandedRow
import Derived.SevenTiedAt
import Derived.SliceStrings
namespace Go.Proofs.YtgoocnmbihjmlaaGreatDoor.spanPicks
open Go.ChangeShapes Go.WideShapes Go.ChangeAt Go.RowKit
open Go.ChangeMaps (open_string shut_string)
open SpanC VerC VerM StrC TextR
set_option linter.unusedVariables false
set_option linter.unusedSimpArgs false

theorem own : ownKnob Tryz.prog.godebug = none := by kernel_rfl
theorem laidOut : laidOutB Tryz.prog = true := by kernel_rfl

/-- a slice of texts that came in: nil, or a row of 'cap' texts, the first 'len' its elements -/
def IsTexts (w : World) (a : Option Addr) (len cap : Nat) (zs : List ByteArray) : Prop :=
  (a = none ∧ len = 0 ∧ cap = 0 ∧ zs = []) ∨
  ∃ x, a = some x ∧ len ≤ cap ∧ cap ≤ maxLen ∧ zs.length = cap ∧ (∀ i, i < zs.length → w.cell? (x.add i) = some (.string (zs.getD i ByteArray.empty))) ∧ ∀ s ∈ zs, s.size ≤ maxLen
/-- how many texts and letters -/
def bulkTexts : List ByteArray → Nat
  | [] => 0
  | s :: r => s.size + 1 + bulkTexts r
theorem bulkTexts_append (l r : List ByteArray) : bulkTexts (l ++ r) = bulkTexts l + bulkTexts r := by
  induction l with
  | nil => simp [bulkTexts]
  | cons x l ih => simp only [List.cons_append, bulkTexts, ih]; omega
theorem bulk_strs {H : Type} (l : List ByteArray) : Rows.uptoBulkAll (strs (H := H) l) = bulkTexts l := by
  induction l with
  | nil => rfl
  | cons x r ih => simp only [strs, List.map_cons, Rows.uptoBulkAll, Rows.uptoBulk, bulkTexts] at ih ⊢; rw [ih]; simp

theorem walk (a0 : ByteArray) (a1 : Option Addr) (len1 cap1 : Nat) (z1 : List ByteArray) (w : World) (w0 : a0.size ≤ maxLen) (r0 : a0.size ≤ 140737488351232) (w1 : IsTexts w a1 len1 cap1 z1) (r1 : cap1 * 16 ≤ 140737488351232) (hv : VerC.Vw w) :
    Calls Tryz.prog 7 #[.string a0, .slice a1 len1 cap1] w fun e w' => e = .returned (.bool true) ∧ Below w.heap.size w w' := by
  have l0 : a0.data.toList.length ≤ 9223372036854775807 := by have e : a0.data.toList.length = a0.size := Array.length_toList
                                                              omega
  by_cases h60 : 60 < len1
  · exact picks_long a0 a1 len1 cap1 w hv h60
  rw [str_of a0]
  rcases w1 with ⟨rfl, rfl, rfl, rfl⟩ | ⟨x, rfl, hl, hm, hz, hcell, hsz⟩
  · exact picks_none a0.data.toList w hv l0
  · by_cases h0 : 0 < len1
    · obtain ⟨b, o, rfl, hb, hc⟩ : ∃ b off, x = ⟨b, off, none⟩ ∧ b < w.heap.size ∧ ∀ j, j < z1.length → w.cell? ⟨b, off + j, none⟩ = some (.string (z1.getD j ByteArray.empty)) := by
        obtain ⟨b, off, spot⟩ := x
        have hspot : spot = none := by simpa [Addr.add] using World.cell?_spot (hcell 0 (by omega))
        subst hspot
        exact ⟨b, off, rfl, World.block_lt_of_cell? _ _ (by simpa [Addr.add] using hcell 0 (by omega)), fun j hj => by rw [← Go.WideShapes.add_plain]; exact hcell j hj⟩
      have hll : ((z1.take len1).map fun s => s.data.toList).length = len1 := by simp; omega
      have hget : ∀ i, i < len1 → str (((z1.take len1).map fun s => s.data.toList).getD i []) = z1.getD i ByteArray.empty := fun i hi => by
        have h1 : i < z1.length := by omega
        rw [List.getD_eq_getElem?_getD, List.getElem?_map, List.getElem?_take_of_lt hi, List.getElem?_eq_getElem h1, List.getD_eq_getElem?_getD, List.getElem?_eq_getElem h1]
        exact (str_of _).symm
      have hsh : ∀ t ∈ (z1.take len1).map (fun s => s.data.toList), t.length ≤ 9223372036854775807 := fun t ht => by
        obtain ⟨s, hs, rfl⟩ := List.mem_map.1 ht
        have h1 := hsz s (List.mem_of_mem_take hs)
        have e : s.data.toList.length = s.size := Array.length_toList
        unfold maxLen at h1
        omega
      have h := picks_some a0.data.toList b o cap1 ((z1.take len1).map fun s => s.data.toList) w hv l0 (by omega) (by omega) (by omega) hb hsh (fun i hi => by rw [hget i (by omega)]; exact hc i (by omega))
      rw [hll] at h
      exact h
    · obtain rfl : len1 = 0 := by omega
      exact picks_empty a0.data.toList x cap1 w hv l0

set_option maxRecDepth 100000 in
theorem contract (H : Type) (enc : TypeId × Value → H) (W : World) (base : Nat) (args : Array Value) (ds gs : List (DataW H)) (before : List MemPlace)
    (hval0 : ∀ (j : Nat) t v, Tryz.f7.params[j]? = some t → args[j]? = some v → Value.okWide Tryz.prog W .any base t v)
    (hW : DataW.Whole enc Tryz.prog Tryz.f7.params.toList Rows.spanPicksSpec.vars false W args.toList ds gs before)
    (hsz0 : (DataW.weightsEach Tryz.prog (Tryz.f7.params.toList ++ (OpenSpec.ofChange Rows.spanPicksSpec).bare.plain.varTypes Tryz.prog) (ds ++ gs)).all (· ≤ reachBytes) = true)
    (hv : VerC.Vw W) (hk : True) :
    Calls Tryz.prog 7 args W fun e W' => ∃ v, e = .returned v ∧ Rows.spanPicksSpec.post enc Tryz.prog Tryz.f7 false true false false W args v W' := by
  have hval : ∀ (j : Nat) t v, Tryz.f7.params[j]? = some t → args[j]? = some v → Value.okWide Tryz.prog W .any base t v := hval0
  have hW' := hW
  obtain ⟨p, q, hA0, hV, rfl, hfz, hnd⟩ := hW
  have hA : DataW.TrodAll enc Tryz.prog W 0 (fun _ => true) true Tryz.f7.params.toList args.toList ds p := hA0
  have hsz : (DataW.weightsEach Tryz.prog (Tryz.f7.params.toList ++ Rows.spanPicksSpec.plain.varTypes Tryz.prog) (ds ++ gs)).all (· ≤ reachBytes) = true := hsz0
  rw [Tryz.params7] at hA hval hsz
  obtain ⟨v0, vs0, d0, ds0, p0, q0, hargs, rfl, rfl, h0, rr0⟩ := trodAll_cons hA
  obtain ⟨v1, vs1, d1, ds1, p1, q1, rfl, rfl, rfl, h1, rr1⟩ := trodAll_cons rr0
  obtain ⟨rfl, rfl, rfl⟩ := trodAll_nil rr1
  obtain rfl : args = #[v0, v1] := by cases args; simp_all
  obtain ⟨rfl, rfl⟩ := trodVars_none hV
  obtain ⟨a0, rfl, rfl, rfl, w0⟩ := open_string Tryz.underlying9 (hval 0 9 v0 rfl rfl) h0
  obtain ⟨a1, len1, cap1, rfl⟩ := okWide_slice Tryz.underlying41 (hval 1 41 v1 rfl rfl)
  have k1 := h1
  have lt1 : ∀ x ∈ p1, x.block < W.heap.size := by obtain ⟨m, hm⟩ := k1; exact DataW.trod_lt m _ _ _ hm
  obtain ⟨z1, w1, r1, ub1⟩ : ∃ zs, IsTexts W a1 len1 cap1 zs ∧ cap1 * 16 ≤ 140737488351232 ∧ (bulkTexts zs + 1) ≤ Rows.uptoBulk d1 := by
    obtain ⟨fuel, hf⟩ := h1
    rcases open_strings Tryz.underlying41 Tryz.underlying9 (by kernel_rfl) hf with ⟨hcs, hx⟩ | ⟨x, l, c, zs, hcs, _, hl, hm, hz, hx, hcell, hwz⟩
    · simp [Value.cells] at hcs
      obtain ⟨rfl, rfl, rfl⟩ := hcs
      simp only [Prod.mk.injEq] at hx
      obtain ⟨hd, _⟩ := hx
      subst hd
      exact ⟨[], .inl ⟨rfl, rfl, rfl, rfl⟩, by omega, by simp [Rows.uptoBulk, bulkTexts]⟩
    · simp [Value.cells] at hcs
      obtain ⟨rfl, rfl, rfl⟩ := hcs
      simp only [Prod.mk.injEq] at hx
      obtain ⟨hd, _⟩ := hx
      subst hd
      have hb := sized_slice hsz (j := 1) (t := 41) (e := 9) rfl rfl Tryz.underlying41
      have hz' : zs.length = cap1 := by simpa using hz
      rw [show Tryz.prog.bytesOf 9 = 16 from by kernel_rfl] at hb
      exact ⟨zs, .inr ⟨_, rfl, hl, hm, hz', hcell, hwz⟩, by simp [strs, reachBytes] at hb; omega, by simp only [Rows.uptoBulk]; rw [bulk_strs, bulk_strs]; rw [← bulkTexts_append, List.take_append_drop]; exact Nat.le_refl _⟩
  have r0 : a0.size ≤ 140737488351232 := by have := sized_string hsz (j := 0) (t := 9) (bytes := a0.data.toList) rfl rfl; simpa [reachBytes] using this
  clear hA0 hval0
  refine (walk a0 a1 len1 cap1 z1 W w0 r0 w1 r1 hv).mono fun e W' ⟨he, bel⟩ => ?_
  subst he
  exact ⟨_, rfl, _, _, _, [], _, [], hW', trodAll_mk1 (shut_bool Tryz.underlying4 _), (trodAll_cons_mk (shut_string Tryz.underlying9 w0) (trodAll_cons_mk (Below.trod laidOut (by kernel_rfl) (of_decide_eq_true (by kernel_rfl)) k1 bel lt1) trodAll_mk0)), rfl, bel.frame _, fun h => by cases h⟩

theorem reads (os : Os) {H : Type} (enc : TypeId × Value → H) : ∃ places, DataW.whole enc Tryz.prog ((VerC.laidW os).forCall (fun _ _ => 0) ⟨#[], #[.string ByteArray.empty, .slice none 0 0], []⟩).memory Tryz.f7.params.toList Rows.spanPicksSpec.vars false (#[.string ByteArray.empty, .slice none 0 0] : Array Value).toList 8 = some ([.lit (.string []), .nil], [], places) :=
  ⟨[], by kernel_rfl⟩

set_option maxRecDepth 100000 in
theorem lifted (os : Os) (started : os.Started) (H : Type) (enc : TypeId × Value → H) (F : Stop.Interp) :
    ReturnsInHanded {} Tryz.checked os 7 .any ((OpenSpec.ofChange Rows.spanPicksSpec).preRow enc Tryz.prog Tryz.f7 Rows.spanPicksRow.domain false Rows.spanPicksRow.laid) (((OpenSpec.ofChange Rows.spanPicksSpec).at F).post enc Tryz.prog Tryz.f7 false true false false) := by
  obtain ⟨places, hx⟩ := reads os enc
  refine returnsInHanded_of_row (C := Tryz.checked) (s := (OpenSpec.ofChange Rows.spanPicksSpec)) own started (by kernel_rfl) Tryz.func7
    (witness_row_at (enc := enc) (C := Tryz.checked) false (VerC.laidW os) #[.string ByteArray.empty, .slice none 0 0] (VerC.laidW_os os) (by kernel_rfl) (by kernel_rfl) (by kernel_rfl)
      (OpenSpec.preRow_of_cond 8 hx (by kernel_rfl) (fun k hk => by cases hk) (by kernel_rfl) (VerC.laidW_met os _))) ?_
  intro W base args ds gs before hval hW _ hcond hsz hL hsh _
  exact contract H enc W base args ds gs before hval hW hsz (VerC.vw_of hL hsh) trivial

theorem said : Rows.SpanPicksSaid :=
  OpenClaim.holds_of_cond 7 Tryz.f7 rfl rfl rfl rfl rfl rfl rfl ⟨rfl, rfl, rfl, rfl, rfl⟩ rfl rfl rfl rfl rfl (by kernel_rfl) Tryz.func7 (by kernel_rfl)
    (of_decide_eq_true (by kernel_rfl)) (by unfold Func.isWrapper; first | (rw [if_pos (by decide +kernel)]; kernel_rfl) | (rw [if_neg (by decide +kernel)]; exact ⟨rfl, rfl⟩))
    (fun os started H enc _ F => by rw [OpenClaim.pre_eq_preRow]; exact lifted os started H enc F)

theorem plain (f : FuncId) (fn : Func) (hf : Tryz.pinned.checked.prog.funcNamed "yankline/yanklinelaw08.SpanPicks" = some f) (hfn : Tryz.pinned.checked.prog.funcs[f]? = some fn) :
    true = Tryz.pinned.checked.prog.looks [] ∧ ∀ (j : Nat) t, fn.params[j]? = some t → Tryz.pinned.checked.prog.wantsStandIn t = false := by
  obtain rfl : f = 7 := Option.some.inj ((show Tryz.prog.funcNamed "yankline/yanklinelaw08.SpanPicks" = some 7 by kernel_rfl).symm.trans hf) |>.symm
  obtain rfl : fn = Tryz.f7 := (Option.some.inj (Tryz.func7.symm.trans hfn)).symm
  refine ⟨by kernel_rfl, fun j t ht => ?_⟩
  rw [Tryz.params7] at ht
  have hall : ([9, 41] : List Nat).all (fun t => !(Tryz.prog.wantsStandIn t)) = true := by kernel_rfl
  have h := List.all_eq_true.1 hall t (Array.mem_toList_iff.2 (Array.mem_of_getElem? ht))
  have h2 : Tryz.prog.wantsStandIn t = false := by simpa using h
  exact h2

theorem card : Rows.SpanPicksCardSaid :=
  Claim7.holds_tied_plain_at .later [] _ _ _ _ said (fun _ h => by cases h) (by kernel_rfl) (fun _ h => by cases h) spanPicks_row_tie rfl ⟨rfl, rfl⟩ (by kernel_rfl) rfl plain (by kernel_rfl)

end Go.Proofs.YtgoocnmbihjmlaaGreatDoor.spanPicks
namespace Go.Proofs.YtgoocnmbihjmlaaGreatDoor
theorem spanPicks_holds : Rows.SpanPicksCardSaid := spanPicks.card
#print axioms spanPicks_holds
end Go.Proofs.YtgoocnmbihjmlaaGreatDoor
