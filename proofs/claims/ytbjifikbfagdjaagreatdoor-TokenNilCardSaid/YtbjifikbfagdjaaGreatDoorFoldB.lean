/-
  Package fold: whether an account's event fits, and what it makes.
-/
import Derived.Test.YtbjifikbfagdjaaGreatDoorFoldA
import Derived.Test.YtbjifikbfagdjaaGreatDoorEventMay
import Derived.StillTailTactics
namespace Go.Proofs.YtbjifikbfagdjaaGreatDoor
open Go.RowKit Go.Maps Go.Sort
namespace FoldC
open StrC EvF EvC EvA TextR EvN
open VerC (Vw)
set_option linter.unusedSimpArgs false
set_option linter.unusedVariables false
set_option maxRecDepth 100000

/-- what was there is as it was, but for some blocks -/
structure Kp (X : Nat → Prop) (w w' : World) : Prop where
  os : w'.os = w.os
  tape : w'.tape = w.tape
  output : w'.output = w.output
  size : w.heap.size ≤ w'.heap.size
  block : ∀ k, k < w.heap.size → ¬ X k → w'.heap[k]? = w.heap[k]?
theorem Kp.of {X : Nat → Prop} {w w' : World} (h : Below w.heap.size w w') : Kp X w w' := ⟨h.os, h.tape, h.output, h.size, fun k hk _ => h.block k hk⟩
theorem Kp.refl (X : Nat → Prop) (w : World) : Kp X w w := Kp.of (Below.refl _ _)
theorem Kp.trans {X : Nat → Prop} {w w' w'' : World} (h : Kp X w w') (k : Kp X w' w'') : Kp X w w'' :=
  ⟨k.os.trans h.os, k.tape.trans h.tape, k.output.trans h.output, Nat.le_trans h.size k.size, fun i hi hx => (k.block i (Nat.lt_of_lt_of_le hi h.size) hx).trans (h.block i hi hx)⟩
theorem Kp.set {X : Nat → Prop} {w w' : World} (h : Kp X w w') {p : Nat} (hp : X p) (i : Nat) (v : Value) : Kp X w (w'.setCell ⟨p, i, none⟩ v) :=
  ⟨h.os, h.tape, h.output, by simpa using h.size, fun k hk hx => by
    have hne : k ≠ p := fun e => hx (e ▸ hp)
    rw [set_else i v hne]
    exact h.block k hk hx⟩
theorem Kp.turn {X : Nat → Prop} {w w' w'' : World} (h : Kp X w w') {m : Nat} (hm : X m) (ht : w'.mapTurned w'' m) : Kp X w w'' := by
  have g := ht.grown
  obtain ⟨es, clock, es', clock', hb, rfl⟩ := ht
  exact ⟨h.os, h.tape, h.output, Nat.le_trans h.size (by simp [ChangeMaps.setBlock]), fun k hk hx => (g.block k (Nat.lt_of_lt_of_le hk h.size) (fun e => hx (by cases e; exact hm))).trans (h.block k hk hx)⟩
theorem Kp.low {X : Nat → Prop} {D : Nat} {w0 w w' : World} (h : Kp X w w') (h0 : Below D w0 w) (hD : D ≤ w.heap.size) (hx : ∀ k, X k → D ≤ k) : Below D w0 w' :=
  h0.trans ⟨h.os, h.tape, h.output, h.size, fun k hk => h.block k (Nat.lt_of_lt_of_le hk hD) (fun hX => absurd (hx k hX) (by omega))⟩
theorem own_blk {w w' : World} {k : TypeId} {R : Value → Option (DataW Unit × List MemPlace)} {m n : Nat} {D : DataW Unit} (h : w.ownsMap Tryz.prog k R m n D) (hb : w'.heap[m]? = w.heap[m]?) : w'.ownsMap Tryz.prog k R m n D := by
  obtain ⟨es, clock, h1, r⟩ := h
  exact ⟨es, clock, hb.trans h1, r⟩
theorem StA.lt {w : World} {s : Nat} {h : Int} {m1 m2 m3 m4 m5 n1 n2 : Nat} {D1 D2 : DataW Unit} (hs : StA w s h m1 m2 m3 m4 m5 n1 n2 D1 D2) : s < w.heap.size ∧ m1 < w.heap.size ∧ m2 < w.heap.size :=
  ⟨(Array.getElem?_eq_some_iff.1 hs.st).1, hs.acc.lt, hs.tea.lt⟩
theorem StA.gr {w w' : World} {s : Nat} {h : Int} {m1 m2 m3 m4 m5 n1 n2 : Nat} {D1 D2 : DataW Unit} (hs : StA w s h m1 m2 m3 m4 m5 n1 n2 D1 D2) (hb : Below w.heap.size w w') : StA w' s h m1 m2 m3 m4 m5 n1 n2 D1 D2 :=
  ⟨(hb.block _ hs.lt.1).trans hs.st, own_blk hs.acc (hb.block _ hs.lt.2.1), own_blk hs.tea (hb.block _ hs.lt.2.2)⟩
theorem accfits_any {w : World} {s : Nat} {h : Int} {m1 m2 m3 m4 m5 n1 n2 : Nat} {D1 D2 : DataW Unit} (hs : StA w s h m1 m2 m3 m4 m5 n1 n2 D1 D2) (e : EvG) (hl : e.who.length ≤ maxLen) :
    Calls Tryz.prog 60 #[pS s, evV e] w fun r w' => r = .returned (.bool (!(Maps.has D2 (keyS e.who) || Maps.has D1 (keyS e.who)))) ∧ w' = w.alloc (evO e) := by
  have HA := Lib.hid (ishold_any (hs.gr (alW w (evO e))) e.who hl)
  obtain ⟨c0, c1, c2, c3, c4, c5, c6, c7, c8, c9⟩ := ev_cells (heap_alloc_new w (evO e))
  clear hs hl
  generalize (Maps.has D2 (keyS e.who) || Maps.has D1 (keyS e.who)) = bb at *
  go_enter Tryz.func60, Tryz.ntmps60
  go_wp2_with (first | (go_at_call 100; refine HA.out.mono ?_; rintro r w' ⟨rfl, rfl⟩) | fail)
  go_ret
  exact ⟨rfl, rfl⟩
abbrev deedL : List Value := [.nilFunc, .nilFunc, .func (.func 60) #[] #[], .func (.func 61) #[] #[], .func (.func 62) #[] #[], .func (.func 63) #[] #[], .func (.func 64) #[] #[], .func (.func 65) #[] #[], .func (.func 66) #[] #[], .func (.func 67) #[] #[], .func (.func 68) #[] #[], .func (.func 69) #[] #[], .func (.func 70) #[] #[], .func (.func 71) #[] #[], .func (.func 72) #[] #[], .func (.func 73) #[] #[], .func (.func 74) #[] #[], .func (.func 75) #[] #[], .func (.func 76) #[] #[], .func (.func 77) #[] #[], .func (.func 78) #[] #[], .func (.func 79) #[] #[]]
abbrev deedZ : Obj := .cells #[.nilFunc, .nilFunc, .nilFunc, .nilFunc, .nilFunc, .nilFunc, .nilFunc, .nilFunc, .nilFunc, .nilFunc, .nilFunc, .nilFunc, .nilFunc, .nilFunc, .nilFunc, .nilFunc, .nilFunc, .nilFunc, .nilFunc, .nilFunc, .nilFunc, .nilFunc] 109
theorem info_deed : (Tryz.prog.info? 109).map (·.size) = some deedL.toArray.size := by kernel_rfl
theorem deed_one : (deedL.toArray.all (·.oneCell')) = true := by kernel_rfl
theorem res_c1 {P : Program} {fn : Func} {p : Tmp} {ty : TypeId} (h : fn.results = #[.cell p ty]) (tmps : Array Value) (w : World) (g : Nat) (t : TypeId) (cs : Array Value) (fr : Nat × Nat) (d : TypeDesc)
    (hp : tmps.getD p undef = .pointer (some ⟨g, 0, none⟩)) (hg : w.heap[g]? = some (.cells cs t fr))
    (hu : P.underlying ty = some d) (hd : (match d with | .struct _ | .array _ _ => true | _ => false) = true) (hi : (P.info? ty).map (·.size) = some cs.size) :
    (results fn tmps).run P w = .ok (.agg cs) w := by
  have hp' : tmps[p]?.getD undef = .pointer (some ⟨g, 0, none⟩) := by simpa using hp
  simp [results, h, hp', asAddr, run_loadVar_row w g t ty cs fr d hg hu hd hi]
theorem deeds_any (w : World) : Calls Tryz.prog 43 #[] w fun r w' => r = .returned (.agg deedL.toArray) ∧ Below w.heap.size w w' := by
  have hz := heap_alloc_new w deedZ
  have HB := Lib.hid (below_setRow (alW w deedZ) (Nat.le_refl _) deedL.toArray)
  go_enter Tryz.func43, Tryz.ntmps43
  go_wp2_with (first | (refine wpList_store_row rfl 109 _ _ rfl w.heap.size deedL.toArray rfl rfl _ _ hz info_deed rfl deed_one ?_) | fail)
  refine bodyPost_ret (res_c1 rfl _ _ w.heap.size _ deedL.toArray _ _ rfl (setRow_heap _ _ _ _ _ _ hz) Tryz.underlying109 rfl info_deed) rfl ?_
  exact ⟨rfl, HB.out⟩
end FoldC
end Go.Proofs.YtbjifikbfagdjaaGreatDoor
