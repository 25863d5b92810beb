/-
  Package token: whose a token is, of a state; whether it is free.
-/
import Derived.Test.YtbjifikbfagdjaaGreatDoorTokenT
namespace Go.Proofs.YtbjifikbfagdjaaGreatDoor
open Go.RowKit Go.Maps Go.Sort
namespace TokC
open StrC EvF EvC EvA TextR EvN FoldC
open ErrC (IsFault Vars ErrType)
set_option linter.unusedSimpArgs false
set_option linter.unusedVariables false
set_option maxRecDepth 100000

theorem own_low {w : World} {B B' : Nat} {v : Value} {L : List ByteArray} (h : OwnT w B v L) (hb : B' ≤ B) : OwnT w B' v L := by
  have h' : w.ownsRow B 9 1 v L.length (L.map Value.string) := h
  obtain ⟨h1, ⟨rfl, h0⟩ | ⟨g, cp, cur, rfl, hg0, r⟩⟩ := h'
  · exact ⟨h1, .inl ⟨rfl, h0⟩⟩
  · exact ⟨h1, .inr ⟨g, cp, cur, rfl, Nat.le_trans hb hg0, r⟩⟩
theorem accounts_any {w : World} {s : Nat} {h : Int} {m1 m2 m3 m4 m5 n1 n2 : Nat} {D1 D2 : DataW Unit} (hs : StA w s h m1 m2 m3 m4 m5 n1 n2 D1 D2) (hsz : Maps.size D1 ≤ 65536) {ks : List (List UInt8)} (hk : Keys D1 ks) :
    Calls Tryz.prog 23 #[pS s] w fun e w' => ∃ u, e = .returned u ∧ OwnT w' w.heap.size u (ks.map str) ∧ Below w.heap.size w w' := by
  have HT := Lib.hid (told_any hs.st)
  have HN : Hid (∀ W, Below w.heap.size w W → Calls Tryz.prog 36 #[.map (some m1)] W fun e w' => ∃ u, e = .returned u ∧ OwnT w' W.heap.size u (ks.map str) ∧ Below W.heap.size W w') := Lib.hid (fun W hb => names_any (hs.gr hb).acc hsz hk)
  have hfl := fld_st1 h m1 m2 m3 m4 m5
  clear hs hsz hk
  go_enter Tryz.func23, Tryz.ntmps23
  go_wp2_with fail
  refine HT.out.mono ?_
  rintro r w1 ⟨rfl, hb⟩
  have HB := Lib.hid hb
  clear hb
  go_wp2_with fail
  refine (HN.out _ HB.out).mono ?_
  rintro r w2 ⟨u, rfl, hu, hb2⟩
  have HU := Lib.hid (own_low hu HB.out.size)
  have HB2 := Lib.hid (chW HB.out hb2)
  clear hu hb2
  go_wp2_with fail
  go_ret
  exact ⟨u, rfl, HU.out, HB2.out⟩
/-- the first of the accounts with that sum -/
def whoL (ks : List (List UInt8)) (f : List UInt8 → Int) (n : Int) : Option (List UInt8) := ks.find? fun k => f k == n
def WhoE (o : Option (List UInt8)) (w : World) (r : Ending) (w' : World) : Prop :=
  match o with
  | some k => r = .returned (.tuple #[.string (str k), .nilIface]) ∧ Below w.heap.size w w'
  | none => FaultP (.string ⟨#[]⟩) 6 w r w'
theorem who_hit {ks : List (List UInt8)} {f : List UInt8 → Int} {n : Int} {j : Nat} (hj : j < ks.length) (hno : ∀ i, i < j → f (ks.getD i []) ≠ n) (h : f (ks.getD j []) = n) : whoL ks f n = some (ks.getD j []) := by
  unfold whoL
  have e : ks.getD j [] = ks[j] := by simp [hj]
  rw [List.find?_eq_some_iff_getElem]
  refine ⟨by simpa using h, j, hj, e.symm, fun i hi => ?_⟩
  have := hno i hi
  simpa [show i < ks.length by omega] using this
theorem who_none {ks : List (List UInt8)} {f : List UInt8 → Int} {n : Int} (hno : ∀ i, i < ks.length → f (ks.getD i []) ≠ n) : whoL ks f n = none := by
  unfold whoL
  rw [List.find?_eq_none]
  intro k hk
  obtain ⟨i, hi, rfl⟩ := List.getElem_of_mem hk
  have := hno i hi
  simpa [hi] using this
set_option maxHeartbeats 4000000 in
theorem who_st {w : World} {s : Nat} {h : Int} {m1 m2 m3 m4 m5 n1 n2 : Nat} {D1 D2 : DataW Unit} (hs : StA w s h m1 m2 m3 m4 m5 n1 n2 D1 D2) (hsz : Maps.size D1 ≤ 65536) {ks : List (List UInt8)} (hk : Keys D1 ks) (hkn : ks.length ≤ 65536) (hkl : ∀ k ∈ ks, k.length ≤ maxLen) (f : List UInt8 → Int) (hf : ∀ k ∈ ks, D1.atKey (keyS k) (.lit (.int .u64 0)) = .lit (.int .u64 (f k))) (l : List UInt8) (hl : l.length ≤ maxLen) (ht : tokB l = true) :
    Calls Tryz.prog 11 #[pS s, .string (str l)] w (WhoE (whoL ks f (tokS l)) w) := by
  have HT := Lib.hid (tthere_st hs.st)
  have HSU : Hid (∀ W, Calls Tryz.prog 8 #[.string (str l)] W fun e w' => e = .returned (.tuple #[.int .u64 (tokS l), .int .i64 0]) ∧ W = w') := Lib.hid (fun W => by
    have := tsum_any l W hl
    rw [show tokC l = 0 by unfold tokC; rw [ht]; rfl] at this
    exact this)
  have HAC : Hid (∀ W, Below w.heap.size w W → Calls Tryz.prog 23 #[pS s] W fun e w' => ∃ u, e = .returned u ∧ OwnT w' W.heap.size u (ks.map str) ∧ Below W.heap.size W w') := Lib.hid (fun W hb => accounts_any (hs.gr hb) hsz hk)
  have HAK : Hid (∀ W, Below w.heap.size w W → ∀ j, j < ks.length → Calls Tryz.prog 24 #[pS s, .string (str (ks.getD j []))] W fun r w' => (∃ b : Bool, r = .returned (.tuple #[.int .u64 (f (ks.getD j [])), .bool b])) ∧ Below W.heap.size W w') := Lib.hid (fun W hb j hj => by
    have hm : ks.getD j [] ∈ ks := by simp [hj]
    refine (account_any (hs.gr hb) (ks.getD j []) (hkl _ hm)).mono ?_
    rintro r w' ⟨⟨c, rfl, hc⟩, hb'⟩
    rw [hf _ hm] at hc
    have : f (ks.getD j []) = c := by injection hc with h1; injection h1
    exact ⟨⟨_, by rw [this]⟩, hb'⟩)
  have HTF := Lib.hid (tfault_any 6)
  have HHIT : Hid (∀ j, j < ks.length → (∀ i, i < j → f (ks.getD i []) ≠ tokS l) → f (ks.getD j []) = tokS l → whoL ks f (tokS l) = some (ks.getD j [])) := Lib.hid (fun j hj hno h => who_hit hj hno h)
  have HNO : Hid ((∀ i, i < ks.length → f (ks.getD i []) ≠ tokS l) → whoL ks f (tokS l) = none) := Lib.hid (fun h => who_none h)
  have HKN := Lib.hid hkn
  clear hs hsz hk hkl hf hl ht hkn
  generalize whoL ks f (tokS l) = wo at *
  generalize tokS l = tn at *
  go_enter Tryz.func11, Tryz.ntmps11
  go_wp2_with fail
  refine HT.out.mono ?_
  rintro r w1 ⟨rfl, hb⟩
  have HB1 := Lib.hid hb
  clear hb
  go_wp2_with fail
  refine (HSU.out _).mono ?_
  rintro r w2 ⟨rfl, rfl⟩
  go_wp2_with fail
  refine (HAC.out _ HB1.out).mono ?_
  rintro r w3 ⟨u, rfl, hu, hb3⟩
  obtain ⟨a, cp, rfl, hcell⟩ := hu.open_
  have HB3 := Lib.hid (chW HB1.out hb3)
  have HCL : Hid (∀ W, Below w3.heap.size w3 W → ∀ j, j < ks.length → ∃ g, a = some ⟨g, 0, none⟩ ∧ W.cell? ⟨g, j, none⟩ = some (.string (str (ks.getD j [])))) := Lib.hid (fun W hb j hj => by
    obtain ⟨g, rfl, hg0, hg1, hc⟩ := hcell (by simp; omega)
    refine ⟨g, rfl, ?_⟩
    rw [World.cell?_of_block (a := ⟨g, j, none⟩) (hb.block g hg1), hc j (by simp; omega)]
    simp [hj])
  clear hu hb3 hcell
  rw [List.length_map]
  go_wp2_with fail
  go_loopw [9, 10, 11, 28] (fun _ _ _ i wr => ∃ j : Nat, i = .int .i64 j ∧ j ≤ ks.length ∧ Hid (∀ i, i < j → f (ks.getD i []) ≠ tn) ∧ Hid (Below w3.heap.size w3 wr)) (fun _ _ _ i _ => ks.length - (intOf i).toNat)
  case atStart => exact ⟨0, rfl, Nat.zero_le _, Lib.hid (fun i hi => by omega), Lib.hid (Below.refl _ _)⟩
  case round =>
    obtain ⟨j, rfl, hj, HN, HI⟩ := hrel
    rename World => wr
    have HBW := Lib.hid (HB3.out.trans (HI.out.mono HB3.out.size))
    have hj2 : j ≤ 65536 := by have := HKN.out; omega
    by_cases hlt : j < ks.length
    · have hdec : decide (j < ks.length) = true := by simpa using hlt
      have hdec2 : decide ((j : Int) < (ks.length : Int)) = true := by simpa using hlt
      obtain ⟨g, rfl, hcell⟩ := HCL.out wr HI.out j hlt
      have HA := Lib.hid (HAK.out wr HBW.out j hlt)
      have HH := Lib.hid (HHIT.out j hlt HN.out)
      have HNX : Hid (f (ks.getD j []) ≠ tn → ∀ i, i < j + 1 → f (ks.getD i []) ≠ tn) := Lib.hid (fun h i hi => by
        by_cases hij : i = j
        · subst hij; exact h
        · exact HN.out i (by omega))
      generalize ks.getD j [] = kj at *
      generalize hfj : f kj = fj at *
      go_wp2_with fail
      refine HA.out.mono ?_
      rintro r w4 ⟨⟨b, rfl⟩, hb4⟩
      have HI4 := Lib.hid (HI.out.trans (hb4.mono HI.out.size))
      have HB4 := Lib.hid (HBW.out.trans (hb4.mono HBW.out.size))
      clear hb4 hcell
      by_cases hq : fj = tn
      · have e1 : (fj == tn) = true := by simpa using hq
        have HO := Lib.hid (HH.out hq)
        clear hq
        go_wp2_with fail
        go_ret2
        rw [HO.out]
        exact ⟨rfl, HB4.out⟩
      · have e1 : (fj == tn) = false := by simpa using hq
        have HO := Lib.hid (HNX.out hq)
        clear hq
        go_wp2_with fail
        go_roundw
        case rel => exact ⟨j + 1, by go_num, by omega, HO, HI4⟩
        case measure => simp [intOf]; omega
    · have hjl : j = ks.length := by omega
      subst hjl
      have HO := Lib.hid (HNO.out HN.out)
      go_wp2_with fail
      refine (HTF.out _).mono ?_
      rintro r w4 ⟨g, rfl, hf1, hf2, hb4⟩
      have HF1 := Lib.hid hf1
      have HF2 := Lib.hid hf2
      have HB4 := Lib.hid (HBW.out.trans (hb4.mono HBW.out.size))
      clear hf1 hf2 hb4
      go_wp2_with fail
      go_ret2
      rw [HO.out]
      exact ⟨g, rfl, HF1.out, Nat.le_trans HBW.out.size HF2.out, HB4.out⟩
end TokC
end Go.Proofs.YtbjifikbfagdjaaGreatDoor
