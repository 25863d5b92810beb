/-
  Package event's writing of an event whose kind names who, name and version alone (yank, unyank): as bytes, as a line.
-/
import Derived.Test.YtnkednjklfpblaaGreatDoorEventF
import Derived.Test.YtnkednjklfpblaaGreatDoorEventArg
import Derived.Test.YtnkednjklfpblaaGreatDoorCodeW
import Derived.Test.YtnkednjklfpblaaGreatDoorVerMem
import Derived.Test.YtnkednjklfpblaaGreatDoorTextRow
import Derived.Test.YtnkednjklfpblaaGreatDoorVerLay
import Derived.Deep.RegionHeld3
import Derived.Laws.CopyOwn
import Derived.Maps.AppendAt
namespace Go.Proofs.YtnkednjklfpblaaGreatDoor
open Go.RowKit Go.Sort
namespace EvA
open StrC EvF TextR CodeM CodeC
set_option linter.unusedSimpArgs false
set_option linter.unusedVariables false

theorem kindB_any (k : Nat) (c : UInt8) (hc : (c.toNat : Int) = k) (w : World) : Calls Tryz.prog 32 #[.int .u8 k] w fun e w' => e = .returned (.string (str [c])) ∧ Below w.heap.size w w' := by
  have hcv := one_new k c hc w
  have HB := Lib.hid ((Below.refl w.heap.size w).alloc (Nat.le_refl _) (.cells #[.int .u8 k] 5))
  go_enter Tryz.func32, Tryz.ntmps32
  go_wp2_with fail
  go_ret
  exact ⟨rfl, HB.out⟩
theorem kindT_any (k : Nat) (t : B) (w : World) (h : w.cell? ⟨0, k, none⟩ = some (.string (str t))) (hk : k < 11) : Calls Tryz.prog 37 #[.int .u8 k] w fun e w' => e = .returned (.string (str t)) ∧ w = w' := by
  go_enter Tryz.func37, Tryz.ntmps37
  go_wp2_with fail
  go_ret
  exact ⟨rfl, rfl⟩
theorem textT_any (s : ByteArray) (w : World) : Calls Tryz.prog 38 #[.string s] w fun e w' => e = .returned (.string s) ∧ w = w' := by
  go_enter Tryz.func38, Tryz.ntmps38
  go_wp2_with fail
  go_ret
  exact ⟨rfl, rfl⟩
abbrev wrB : List Value := [.func (.func 32) #[] #[], .func (.func 33) #[] #[], .func (.func 33) #[] #[], .func (.func 33) #[] #[], .func (.func 34) #[] #[], .func (.func 35) #[] #[]]
abbrev wrT : List Value := [.func (.func 37) #[] #[], .func (.func 38) #[] #[], .func (.func 39) #[] #[], .func (.func 41) #[] #[], .func (.func 43) #[] #[], .func (.func 44) #[] #[]]
abbrev wrO (l : List Value) : Obj := .cells l.toArray 49
abbrev wrZ : Obj := .cells #[.nilFunc, .nilFunc, .nilFunc, .nilFunc, .nilFunc, .nilFunc] 49
theorem res_cW {P : Program} {fn : Func} {p : Tmp} {ty : TypeId} (h : fn.results = #[.cell p ty]) (tmps : Array Value) (w : World) (g : Nat) (t : TypeId) (cs : Array Value) (fr : Nat × Nat) (d : TypeDesc)
    (hp : tmps.getD p undef = .pointer (some ⟨g, 0, none⟩)) (hg : w.heap[g]? = some (.cells cs t fr))
    (hu : P.underlying ty = some d) (hd : (match d with | .struct _ | .array _ _ => true | _ => false) = true) (hi : (P.info? ty).map (·.size) = some cs.size) :
    (results fn tmps).run P w = .ok (.agg cs) w := by
  have hp' : tmps[p]?.getD undef = .pointer (some ⟨g, 0, none⟩) := by simpa using hp
  simp [results, h, hp', asAddr, run_loadVar_row w g t ty cs fr d hg hu hd hi]
theorem info_wr : (Tryz.prog.info? 49).map (·.size) = some 6 := by kernel_rfl
theorem asBytes_any (w : World) : Calls Tryz.prog 15 #[] w fun e w' => e = .returned (.agg wrB.toArray) ∧ Below w.heap.size w w' := by
  have hz := heap_alloc_new w wrZ
  have HB0 := Lib.hid ((Below.refl w.heap.size w).alloc (Nat.le_refl _) wrZ)
  have hinf := info_wr
  have hone : (wrB.toArray.all (·.oneCell')) = true := by simp [Value.oneCell']
  go_enter Tryz.func15, Tryz.ntmps15
  go_wp2_with (first | (refine wpList_store_row rfl 49 _ _ rfl w.heap.size wrB.toArray rfl rfl _ _ hz hinf rfl hone ?_) | fail)
  refine bodyPost_ret (res_cW rfl _ _ w.heap.size _ wrB.toArray _ _ rfl (setRow_heap _ _ _ _ _ _ hz) Tryz.underlying49 rfl hinf) rfl ?_
  exact ⟨rfl, below_setRow HB0.out (Nat.le_refl _) _⟩
theorem inLine_any (w : World) : Calls Tryz.prog 17 #[] w fun e w' => e = .returned (.agg wrT.toArray) ∧ Below w.heap.size w w' := by
  have hz := heap_alloc_new w wrZ
  have HB0 := Lib.hid ((Below.refl w.heap.size w).alloc (Nat.le_refl _) wrZ)
  have hinf := info_wr
  have hone : (wrT.toArray.all (·.oneCell')) = true := by simp [Value.oneCell']
  go_enter Tryz.func17, Tryz.ntmps17
  go_wp2_with (first | (refine wpList_store_row rfl 49 _ _ rfl w.heap.size wrT.toArray rfl rfl _ _ hz hinf rfl hone ?_) | fail)
  refine bodyPost_ret (res_cW rfl _ _ w.heap.size _ wrT.toArray _ _ rfl (setRow_heap _ _ _ _ _ _ hz) Tryz.underlying49 rfl hinf) rfl ?_
  exact ⟨rfl, below_setRow HB0.out (Nat.le_refl _) _⟩
theorem built_row (w : World) (s : ByteArray) (D : Nat) (hD : D ≤ w.heap.size) : OwnT (w.alloc (.cells #[.string s] 9)) D (.slice (some ⟨w.heap.size, 0, none⟩) 1 1) [s] :=
  ⟨rfl, .inr ⟨w.heap.size, 1, _, rfl, hD, heap_alloc_new w _, Nat.le_refl _, by unfold maxLen; omega, rfl, rfl⟩⟩
theorem own_on {w w' : World} {D : Nat} {v : Value} {L : List ByteArray} (h : OwnT w D v L) (hb : Below w.heap.size w w') : OwnT w' D v L := by
  obtain ⟨h1, h2 | ⟨g, cap, cur, rfl, h3, h4, h5⟩⟩ := h
  · exact ⟨h1, .inl h2⟩
  · exact ⟨h1, .inr ⟨g, cap, cur, rfl, h3, (hb.block g (Array.getElem?_eq_some_iff.1 h4).1).trans h4, h5⟩⟩
theorem fds_at {w w' : World} {v : Value} {L : List Int} (h : FRow w' w.heap.size v L) (h0 : 0 < L.length) : ∃ g cp, v = .slice (some ⟨g, 0, none⟩) L.length cp ∧ w.heap.size ≤ g ∧ g < w'.heap.size ∧ ∀ i, i < L.length → w'.cell? ⟨g, i, none⟩ = some (.int .i64 (L.getD i 0)) := by
  have h1 : w'.ownsRow w.heap.size 75 1 v L.length (L.map (Value.int .i64)) := h
  rcases h.2 with ⟨hnil, hz⟩ | ⟨g, cp, cur, rfl, hbase, hblk, _⟩
  · omega
  · refine ⟨g, cp, rfl, hbase, (Array.getElem?_eq_some_iff.1 hblk).1, fun i hi => ?_⟩
    rw [h1.cellAt i (by omega)]
    simp [hi]
def FdsK (k : Nat) (L : List Int) : Prop := ∀ w, Calls Tryz.prog 27 #[.int .u8 k] w (FieldsE L w)
theorem chW {a b c : World} (h : Below a.heap.size a b) (k : Below b.heap.size b c) : Below a.heap.size a c := h.trans (k.mono h.size)
theorem alW (w : World) (o : Obj) : Below w.heap.size w (w.alloc o) := (Below.refl _ _).alloc (Nat.le_refl _) o
/-- a row of texts grew: what lies below it, and the row of fields made after it, stay -/
structure WrI (w W0 w2 : World) (g : Nat) (wr : World) (v : Value) (L : List ByteArray) : Prop where
  own : OwnT wr w.heap.size v L
  low : Below (w.heap.size + 2) W0 wr
  fld : wr.heap[g]? = w2.heap[g]?
  at_ : ∀ b, v.ownBlock = some b → w.heap.size + 2 ≤ b ∧ b ≠ g
  size : w2.heap.size ≤ wr.heap.size
theorem WrI.on {w W0 w2 wr w' : World} {g : Nat} {v : Value} {L : List ByteArray} (h : WrI w W0 w2 g wr v L) (hg : g < w2.heap.size) (hb : Below wr.heap.size wr w') (hW : w.heap.size + 2 ≤ W0.heap.size) : WrI w W0 w2 g w' v L :=
  ⟨own_on h.own hb, h.low.trans (hb.mono (Nat.le_trans hW h.low.size)), (hb.block g (Nat.lt_of_lt_of_le hg h.size)).trans h.fld, h.at_, Nat.le_trans h.size hb.size⟩
theorem WrI.add {w W0 w2 wr w' : World} {g : Nat} {v v' : Value} {L : List ByteArray} {s : ByteArray} (h : WrI w W0 w2 g wr v L) (hg : g < w2.heap.size) (hW : w.heap.size + 2 ≤ W0.heap.size) (hown : w'.ownsRow w.heap.size 9 1 v' (L.length + 1) (L.map Value.string ++ [.string s]))
    (hgr : wr.grownBy w' v.ownBlock) (hat : v'.ownBlock = v.ownBlock ∨ v'.ownBlock = some wr.heap.size) : WrI w W0 w2 g w' v' (L ++ [s]) := by
  refine ⟨snoc hown rfl, h.low.grown hgr (Nat.le_trans hW h.low.size) (fun j hj => (h.at_ j hj).1), (hgr.block g (Nat.lt_of_lt_of_le hg h.size) (fun e => (h.at_ g e.symm).2 rfl)).trans h.fld, fun b hb => ?_, Nat.le_trans h.size hgr.size⟩
  rcases hat with e | e
  · exact h.at_ b (e.symm.trans hb)
  · rw [e] at hb
    cases hb
    exact ⟨Nat.le_trans hW h.low.size, by have := h.size; omega⟩
set_option maxHeartbeats 8000000 in
set_option maxRecDepth 100000 in
theorem eventB_yank (e : EvG) (c : UInt8) (hc : (c.toNat : Int) = e.k) (hF : FdsK e.k [0, 1, 2]) (h1 : e.who.length ≤ 1000) (h2 : e.name.length ≤ 1000) (h3 : e.ver.length ≤ 1000) (w : World)  :
    Calls Tryz.prog 16 #[.agg wrB.toArray, evV e] w fun e' w' => ∃ v, e' = .returned v ∧ OwnT w' w.heap.size v [str [c], str (textB e.who), str (textB e.name), str (textB e.ver)] ∧ Below w.heap.size w w' := by
  obtain ⟨i0, hi, hz0, hz1, hz2⟩ := info_parts info_text
  have hB0 : Below w.heap.size w ((w.alloc (wrO wrB)).alloc (evO e)) := chW (alW w _) (alW _ _)
  have hs0 : ((w.alloc (wrO wrB)).alloc (evO e)).heap.size = w.heap.size + 2 := by simp
  have hr1 : ((w.alloc (wrO wrB)).alloc (evO e)).heap[w.heap.size]? = some (wrO wrB) := by rw [heap_alloc_old _ _ (by simp)]; exact heap_alloc_new w _
  have hr2 : ((w.alloc (wrO wrB)).alloc (evO e)).heap[w.heap.size + 1]? = some (evO e) := by have := heap_alloc_new (w.alloc (wrO wrB)) (evO e); simpa using this
  generalize hW0 : (w.alloc (wrO wrB)).alloc (evO e) = W0 at *
  have HC : Hid (∀ W, Below (w.heap.size + 2) W0 W → W.cell? ⟨w.heap.size, 0, none⟩ = some (.func (.func 32) #[] #[]) ∧ W.cell? ⟨w.heap.size, 1, none⟩ = some (.func (.func 33) #[] #[]) ∧
      W.cell? ⟨w.heap.size + 1, 0, none⟩ = some (.int .u8 e.k) ∧ W.cell? ⟨w.heap.size + 1, 1, none⟩ = some (.string (str e.who)) ∧ W.cell? ⟨w.heap.size + 1, 2, none⟩ = some (.string (str e.name)) ∧ W.cell? ⟨w.heap.size + 1, 3, none⟩ = some (.string (str e.ver))) := Lib.hid (fun W hb => by
    have k1 := (hb.block w.heap.size (by omega)).trans hr1
    have k2 := (hb.block (w.heap.size + 1) (by omega)).trans hr2
    refine ⟨?_, ?_, ?_, ?_, ?_, ?_⟩ <;> simp [World.cell?, k1, k2])
  have HW0 : Hid (w.heap.size + 2 ≤ W0.heap.size) := Lib.hid (by omega)
  have HB0 := Lib.hid hB0
  have HF := Lib.hid hF
  have HTX : Hid (∀ (s : B), s.length ≤ 1000 → ∀ W, Calls Tryz.prog 33 #[.string (str s)] W fun e w' => e = .returned (.string (str (textB s))) ∧ Below W.heap.size W w') := Lib.hid (fun s hs W => ctext_any (str s) W (by rw [str_size]; omega))
  have HT1 := Lib.hid (HTX.out e.who h1)
  have HT2 := Lib.hid (HTX.out e.name h2)
  have HT3 := Lib.hid (HTX.out e.ver h3)
  have HKK : Hid (Calls Tryz.prog 32 #[.int .u8 e.k] W0 fun e w' => e = .returned (.string (str [c])) ∧ Below W0.heap.size W0 w') := Lib.hid (kindB_any e.k c hc _)
  obtain ⟨a0, a1, b0, b1, b2, b3⟩ := HC.out _ (Below.refl _ _)
  subst hW0
  clear hB0 hr1 hr2 hF h1 h2 h3 HTX
  go_enter Tryz.func16, Tryz.ntmps16
  go_wp2_with fail
  refine HKK.out.mono ?_
  rintro e1 w1 ⟨rfl, hb1⟩
  have HBA := Lib.hid ((hb1.mono HW0.out).trans ((alW w1 (.cells #[.string (str [c])] 9)).mono (Nat.le_trans HW0.out hb1.size)))
  have HL1 : Hid (w.heap.size + 2 ≤ w1.heap.size) := Lib.hid (Nat.le_trans HW0.out hb1.size)
  obtain ⟨a0', a1', b0', b1', b2', b3'⟩ := HC.out _ HBA.out
  clear hb1 a0 a1 b0 b1 b2 b3
  go_wp2_with fail
  refine (HF.out _).mono ?_
  rintro e2 w2 ⟨v, rfl, hrow, hb2⟩
  obtain ⟨g, cp, rfl, hg0, hg1, hcl⟩ := fds_at hrow (by decide)
  have hg0' : w1.heap.size + 1 ≤ g := by simpa using hg0
  have HI0 : Hid (WrI w ((w.alloc (wrO wrB)).alloc (evO e)) w2 g w2 (.slice (some ⟨w1.heap.size, 0, none⟩) 1 1) [str [c]]) := Lib.hid
    ⟨own_on (built_row w1 (str [c]) w.heap.size (by have := HL1.out; omega)) hb2, HBA.out.trans (hb2.mono (by have := HL1.out; simp; omega)), rfl, fun b hb => by cases hb; exact ⟨HL1.out, by show w1.heap.size ≠ g; omega⟩, Nat.le_refl _⟩
  have HG := Lib.hid hg1
  have HFC : Hid (∀ W : World, W.heap[g]? = w2.heap[g]? → W.cell? ⟨g, 0, none⟩ = some (.int .i64 0) ∧ W.cell? ⟨g, 1, none⟩ = some (.int .i64 1) ∧ W.cell? ⟨g, 2, none⟩ = some (.int .i64 2)) := Lib.hid (fun W hk =>
    ⟨(World.cell?_of_block (a := ⟨g, 0, none⟩) hk).trans (hcl 0 (by decide)), (World.cell?_of_block (a := ⟨g, 1, none⟩) hk).trans (hcl 1 (by decide)), (World.cell?_of_block (a := ⟨g, 2, none⟩) hk).trans (hcl 2 (by decide))⟩)
  clear hrow hb2 hcl hg0 hg0' hg1 a0' a1' b0' b1' b2' b3' HBA HKK
  go_wp2_with fail
  go_loopw [5, 7, 18] (fun vp _ i wr => ∃ j : Nat, i = .int .i64 j ∧ j ≤ 3 ∧ Hid (WrI w ((w.alloc (wrO wrB)).alloc (evO e)) w2 g wr vp (str [c] :: [str (textB e.who), str (textB e.name), str (textB e.ver)].take j))) (fun _ _ i _ => 3 - (intOf i).toNat)
  case atStart => exact ⟨0, rfl, by omega, HI0⟩
  case round =>
    obtain ⟨j, rfl, hj, HI⟩ := hrel
    rename World => wr
    clear HI0
    obtain ⟨f0, f1, f2⟩ := HFC.out wr HI.out.fld
    obtain ⟨a0, a1, b0, b1, b2, b3⟩ := HC.out _ HI.out.low
    have hj4 : j = 0 ∨ j = 1 ∨ j = 2 ∨ j = 3 := by omega
    rcases hj4 with rfl | rfl | rfl | rfl
    · go_wp2_with fail
      refine (HT1.out _).mono ?_
      rintro e3 w3 ⟨rfl, hb3⟩
      have HI3 := Lib.hid ((HI.out.on HG.out hb3 HW0.out).on HG.out (alW w3 (.cells #[.string (str (textB e.who))] 9)) HW0.out)
      have HB3 : Hid (w.heap.size ≤ (w3.alloc (.cells #[.string (str (textB e.who))] 9)).heap.size) := Lib.hid (by have := HI3.out.low.size; have := HW0.out; omega)
      clear hb3 f0 f1 f2 a0 a1 b0 b1 b2 b3
      go_wp2_with (first | (at_builtin; refine wpList_append_own_at _ rfl _ _ 44 rfl w.heap.size 9 i0 (.string ⟨#[]⟩) 1 16 Tryz.underlying44 hi hz0 hz1 hz2 rfl (by decide) _ 1 ((str [c] :: [str (textB e.who), str (textB e.name), str (textB e.ver)].take 0).map Value.string) rfl HI3.out.own ⟨w3.heap.size, 0, none⟩ 1 1 [.string (str (textB e.who))] rfl rfl ?c1 ?c2 ?c3 ?c4 ?c5 ?_) | fail)
      case c1 => exact text_cell w3 (.string (str (textB e.who))) 9
      case c2 => exact one_text _
      case c3 => unfold maxLen; decide
      case c4 => decide
      case c5 => exact HB3.out
      intro v' w4 hown4 hg4 _ hat4
      have HI4 := Lib.hid (HI3.out.add HG.out HW0.out hown4 hg4 (by simpa using hat4))
      clear hown4 hg4 hat4
      go_wp2_with fail
      go_roundw
      case rel => exact ⟨1, rfl, by omega, HI4⟩
      case measure => simp [intOf]
    · go_wp2_with fail
      refine (HT2.out _).mono ?_
      rintro e3 w3 ⟨rfl, hb3⟩
      have HI3 := Lib.hid ((HI.out.on HG.out hb3 HW0.out).on HG.out (alW w3 (.cells #[.string (str (textB e.name))] 9)) HW0.out)
      have HB3 : Hid (w.heap.size ≤ (w3.alloc (.cells #[.string (str (textB e.name))] 9)).heap.size) := Lib.hid (by have := HI3.out.low.size; have := HW0.out; omega)
      clear hb3 f0 f1 f2 a0 a1 b0 b1 b2 b3
      go_wp2_with (first | (at_builtin; refine wpList_append_own_at _ rfl _ _ 44 rfl w.heap.size 9 i0 (.string ⟨#[]⟩) 1 16 Tryz.underlying44 hi hz0 hz1 hz2 rfl (by decide) _ 2 ((str [c] :: [str (textB e.who), str (textB e.name), str (textB e.ver)].take 1).map Value.string) rfl HI3.out.own ⟨w3.heap.size, 0, none⟩ 1 1 [.string (str (textB e.name))] rfl rfl ?c1 ?c2 ?c3 ?c4 ?c5 ?_) | fail)
      case c1 => exact text_cell w3 (.string (str (textB e.name))) 9
      case c2 => exact one_text _
      case c3 => unfold maxLen; decide
      case c4 => decide
      case c5 => exact HB3.out
      intro v' w4 hown4 hg4 _ hat4
      have HI4 := Lib.hid (HI3.out.add HG.out HW0.out hown4 hg4 (by simpa using hat4))
      clear hown4 hg4 hat4
      go_wp2_with fail
      go_roundw
      case rel => exact ⟨2, rfl, by omega, HI4⟩
      case measure => simp [intOf]
    · go_wp2_with fail
      refine (HT3.out _).mono ?_
      rintro e3 w3 ⟨rfl, hb3⟩
      have HI3 := Lib.hid ((HI.out.on HG.out hb3 HW0.out).on HG.out (alW w3 (.cells #[.string (str (textB e.ver))] 9)) HW0.out)
      have HB3 : Hid (w.heap.size ≤ (w3.alloc (.cells #[.string (str (textB e.ver))] 9)).heap.size) := Lib.hid (by have := HI3.out.low.size; have := HW0.out; omega)
      clear hb3 f0 f1 f2 a0 a1 b0 b1 b2 b3
      go_wp2_with (first | (at_builtin; refine wpList_append_own_at _ rfl _ _ 44 rfl w.heap.size 9 i0 (.string ⟨#[]⟩) 1 16 Tryz.underlying44 hi hz0 hz1 hz2 rfl (by decide) _ 3 ((str [c] :: [str (textB e.who), str (textB e.name), str (textB e.ver)].take 2).map Value.string) rfl HI3.out.own ⟨w3.heap.size, 0, none⟩ 1 1 [.string (str (textB e.ver))] rfl rfl ?c1 ?c2 ?c3 ?c4 ?c5 ?_) | fail)
      case c1 => exact text_cell w3 (.string (str (textB e.ver))) 9
      case c2 => exact one_text _
      case c3 => unfold maxLen; decide
      case c4 => decide
      case c5 => exact HB3.out
      intro v' w4 hown4 hg4 _ hat4
      have HI4 := Lib.hid (HI3.out.add HG.out HW0.out hown4 hg4 (by simpa using hat4))
      clear hown4 hg4 hat4
      go_wp2_with fail
      go_roundw
      case rel => exact ⟨3, rfl, by omega, HI4⟩
      case measure => simp [intOf]
    · go_wp2_with fail
      go_ret
      exact ⟨_, rfl, HI.out.own, HB0.out.trans (HI.out.low.mono (by omega))⟩
set_option maxHeartbeats 8000000 in
set_option maxRecDepth 100000 in
theorem eventT_yank (e : EvG) (t : B) (hk : e.k < 11) (hF : FdsK e.k [0, 1, 2]) (h1 : e.who.length ≤ 1000) (h2 : e.name.length ≤ 1000) (h3 : e.ver.length ≤ 1000) (w : World) (ht : w.cell? ⟨0, e.k, none⟩ = some (.string (str t))) :
    Calls Tryz.prog 16 #[.agg wrT.toArray, evV e] w fun e' w' => ∃ v, e' = .returned v ∧ OwnT w' w.heap.size v [str t, str (id e.who), str (id e.name), str (id e.ver)] ∧ Below w.heap.size w w' := by
  obtain ⟨i0, hi, hz0, hz1, hz2⟩ := info_parts info_text
  have hB0 : Below w.heap.size w ((w.alloc (wrO wrT)).alloc (evO e)) := chW (alW w _) (alW _ _)
  have hs0 : ((w.alloc (wrO wrT)).alloc (evO e)).heap.size = w.heap.size + 2 := by simp
  have hr1 : ((w.alloc (wrO wrT)).alloc (evO e)).heap[w.heap.size]? = some (wrO wrT) := by rw [heap_alloc_old _ _ (by simp)]; exact heap_alloc_new w _
  have hr2 : ((w.alloc (wrO wrT)).alloc (evO e)).heap[w.heap.size + 1]? = some (evO e) := by have := heap_alloc_new (w.alloc (wrO wrT)) (evO e); simpa using this
  generalize hW0 : (w.alloc (wrO wrT)).alloc (evO e) = W0 at *
  have HC : Hid (∀ W, Below (w.heap.size + 2) W0 W → W.cell? ⟨w.heap.size, 0, none⟩ = some (.func (.func 37) #[] #[]) ∧ W.cell? ⟨w.heap.size, 1, none⟩ = some (.func (.func 38) #[] #[]) ∧
      W.cell? ⟨w.heap.size + 1, 0, none⟩ = some (.int .u8 e.k) ∧ W.cell? ⟨w.heap.size + 1, 1, none⟩ = some (.string (str e.who)) ∧ W.cell? ⟨w.heap.size + 1, 2, none⟩ = some (.string (str e.name)) ∧ W.cell? ⟨w.heap.size + 1, 3, none⟩ = some (.string (str e.ver))) := Lib.hid (fun W hb => by
    have k1 := (hb.block w.heap.size (by omega)).trans hr1
    have k2 := (hb.block (w.heap.size + 1) (by omega)).trans hr2
    refine ⟨?_, ?_, ?_, ?_, ?_, ?_⟩ <;> simp [World.cell?, k1, k2])
  have HW0 : Hid (w.heap.size + 2 ≤ W0.heap.size) := Lib.hid (by omega)
  have HB0 := Lib.hid hB0
  have HF := Lib.hid hF
  have HTX : Hid (∀ (s : B), s.length ≤ 1000 → ∀ W, Calls Tryz.prog 38 #[.string (str s)] W fun e w' => e = .returned (.string (str (id s))) ∧ Below W.heap.size W w') := Lib.hid (fun s hs W => (textT_any (str s) W).mono (fun _ _ h => ⟨h.1, by rw [h.2]; exact Below.refl _ _⟩))
  have HT1 := Lib.hid (HTX.out e.who h1)
  have HT2 := Lib.hid (HTX.out e.name h2)
  have HT3 := Lib.hid (HTX.out e.ver h3)
  have HKK : Hid (Calls Tryz.prog 37 #[.int .u8 e.k] W0 fun e w' => e = .returned (.string (str t)) ∧ Below W0.heap.size W0 w') := Lib.hid ((kindT_any e.k t _ ((hB0.cell (World.block_lt_of_cell? _ _ ht)).trans ht) hk).mono (fun _ _ h => ⟨h.1, by rw [h.2]; exact Below.refl _ _⟩))
  obtain ⟨a0, a1, b0, b1, b2, b3⟩ := HC.out _ (Below.refl _ _)
  subst hW0
  clear hB0 hr1 hr2 hF h1 h2 h3 HTX
  go_enter Tryz.func16, Tryz.ntmps16
  go_wp2_with fail
  refine HKK.out.mono ?_
  rintro e1 w1 ⟨rfl, hb1⟩
  have HBA := Lib.hid ((hb1.mono HW0.out).trans ((alW w1 (.cells #[.string (str t)] 9)).mono (Nat.le_trans HW0.out hb1.size)))
  have HL1 : Hid (w.heap.size + 2 ≤ w1.heap.size) := Lib.hid (Nat.le_trans HW0.out hb1.size)
  obtain ⟨a0', a1', b0', b1', b2', b3'⟩ := HC.out _ HBA.out
  clear hb1 a0 a1 b0 b1 b2 b3
  go_wp2_with fail
  refine (HF.out _).mono ?_
  rintro e2 w2 ⟨v, rfl, hrow, hb2⟩
  obtain ⟨g, cp, rfl, hg0, hg1, hcl⟩ := fds_at hrow (by decide)
  have hg0' : w1.heap.size + 1 ≤ g := by simpa using hg0
  have HI0 : Hid (WrI w ((w.alloc (wrO wrT)).alloc (evO e)) w2 g w2 (.slice (some ⟨w1.heap.size, 0, none⟩) 1 1) [str t]) := Lib.hid
    ⟨own_on (built_row w1 (str t) w.heap.size (by have := HL1.out; omega)) hb2, HBA.out.trans (hb2.mono (by have := HL1.out; simp; omega)), rfl, fun b hb => by cases hb; exact ⟨HL1.out, by show w1.heap.size ≠ g; omega⟩, Nat.le_refl _⟩
  have HG := Lib.hid hg1
  have HFC : Hid (∀ W : World, W.heap[g]? = w2.heap[g]? → W.cell? ⟨g, 0, none⟩ = some (.int .i64 0) ∧ W.cell? ⟨g, 1, none⟩ = some (.int .i64 1) ∧ W.cell? ⟨g, 2, none⟩ = some (.int .i64 2)) := Lib.hid (fun W hk =>
    ⟨(World.cell?_of_block (a := ⟨g, 0, none⟩) hk).trans (hcl 0 (by decide)), (World.cell?_of_block (a := ⟨g, 1, none⟩) hk).trans (hcl 1 (by decide)), (World.cell?_of_block (a := ⟨g, 2, none⟩) hk).trans (hcl 2 (by decide))⟩)
  clear hrow hb2 hcl hg0 hg0' hg1 a0' a1' b0' b1' b2' b3' HBA HKK
  go_wp2_with fail
  go_loopw [5, 7, 18] (fun vp _ i wr => ∃ j : Nat, i = .int .i64 j ∧ j ≤ 3 ∧ Hid (WrI w ((w.alloc (wrO wrT)).alloc (evO e)) w2 g wr vp (str t :: [str (id e.who), str (id e.name), str (id e.ver)].take j))) (fun _ _ i _ => 3 - (intOf i).toNat)
  case atStart => exact ⟨0, rfl, by omega, HI0⟩
  case round =>
    obtain ⟨j, rfl, hj, HI⟩ := hrel
    rename World => wr
    clear HI0
    obtain ⟨f0, f1, f2⟩ := HFC.out wr HI.out.fld
    obtain ⟨a0, a1, b0, b1, b2, b3⟩ := HC.out _ HI.out.low
    have hj4 : j = 0 ∨ j = 1 ∨ j = 2 ∨ j = 3 := by omega
    rcases hj4 with rfl | rfl | rfl | rfl
    · go_wp2_with fail
      refine (HT1.out _).mono ?_
      rintro e3 w3 ⟨rfl, hb3⟩
      have HI3 := Lib.hid ((HI.out.on HG.out hb3 HW0.out).on HG.out (alW w3 (.cells #[.string (str (id e.who))] 9)) HW0.out)
      have HB3 : Hid (w.heap.size ≤ (w3.alloc (.cells #[.string (str (id e.who))] 9)).heap.size) := Lib.hid (by have := HI3.out.low.size; have := HW0.out; omega)
      clear hb3 f0 f1 f2 a0 a1 b0 b1 b2 b3
      go_wp2_with (first | (at_builtin; refine wpList_append_own_at _ rfl _ _ 44 rfl w.heap.size 9 i0 (.string ⟨#[]⟩) 1 16 Tryz.underlying44 hi hz0 hz1 hz2 rfl (by decide) _ 1 ((str t :: [str (id e.who), str (id e.name), str (id e.ver)].take 0).map Value.string) rfl HI3.out.own ⟨w3.heap.size, 0, none⟩ 1 1 [.string (str (id e.who))] rfl rfl ?c1 ?c2 ?c3 ?c4 ?c5 ?_) | fail)
      case c1 => exact text_cell w3 (.string (str (id e.who))) 9
      case c2 => exact one_text _
      case c3 => unfold maxLen; decide
      case c4 => decide
      case c5 => exact HB3.out
      intro v' w4 hown4 hg4 _ hat4
      have HI4 := Lib.hid (HI3.out.add HG.out HW0.out hown4 hg4 (by simpa using hat4))
      clear hown4 hg4 hat4
      go_wp2_with fail
      go_roundw
      case rel => exact ⟨1, rfl, by omega, HI4⟩
      case measure => simp [intOf]
    · go_wp2_with fail
      refine (HT2.out _).mono ?_
      rintro e3 w3 ⟨rfl, hb3⟩
      have HI3 := Lib.hid ((HI.out.on HG.out hb3 HW0.out).on HG.out (alW w3 (.cells #[.string (str (id e.name))] 9)) HW0.out)
      have HB3 : Hid (w.heap.size ≤ (w3.alloc (.cells #[.string (str (id e.name))] 9)).heap.size) := Lib.hid (by have := HI3.out.low.size; have := HW0.out; omega)
      clear hb3 f0 f1 f2 a0 a1 b0 b1 b2 b3
      go_wp2_with (first | (at_builtin; refine wpList_append_own_at _ rfl _ _ 44 rfl w.heap.size 9 i0 (.string ⟨#[]⟩) 1 16 Tryz.underlying44 hi hz0 hz1 hz2 rfl (by decide) _ 2 ((str t :: [str (id e.who), str (id e.name), str (id e.ver)].take 1).map Value.string) rfl HI3.out.own ⟨w3.heap.size, 0, none⟩ 1 1 [.string (str (id e.name))] rfl rfl ?c1 ?c2 ?c3 ?c4 ?c5 ?_) | fail)
      case c1 => exact text_cell w3 (.string (str (id e.name))) 9
      case c2 => exact one_text _
      case c3 => unfold maxLen; decide
      case c4 => decide
      case c5 => exact HB3.out
      intro v' w4 hown4 hg4 _ hat4
      have HI4 := Lib.hid (HI3.out.add HG.out HW0.out hown4 hg4 (by simpa using hat4))
      clear hown4 hg4 hat4
      go_wp2_with fail
      go_roundw
      case rel => exact ⟨2, rfl, by omega, HI4⟩
      case measure => simp [intOf]
    · go_wp2_with fail
      refine (HT3.out _).mono ?_
      rintro e3 w3 ⟨rfl, hb3⟩
      have HI3 := Lib.hid ((HI.out.on HG.out hb3 HW0.out).on HG.out (alW w3 (.cells #[.string (str (id e.ver))] 9)) HW0.out)
      have HB3 : Hid (w.heap.size ≤ (w3.alloc (.cells #[.string (str (id e.ver))] 9)).heap.size) := Lib.hid (by have := HI3.out.low.size; have := HW0.out; omega)
      clear hb3 f0 f1 f2 a0 a1 b0 b1 b2 b3
      go_wp2_with (first | (at_builtin; refine wpList_append_own_at _ rfl _ _ 44 rfl w.heap.size 9 i0 (.string ⟨#[]⟩) 1 16 Tryz.underlying44 hi hz0 hz1 hz2 rfl (by decide) _ 3 ((str t :: [str (id e.who), str (id e.name), str (id e.ver)].take 2).map Value.string) rfl HI3.out.own ⟨w3.heap.size, 0, none⟩ 1 1 [.string (str (id e.ver))] rfl rfl ?c1 ?c2 ?c3 ?c4 ?c5 ?_) | fail)
      case c1 => exact text_cell w3 (.string (str (id e.ver))) 9
      case c2 => exact one_text _
      case c3 => unfold maxLen; decide
      case c4 => decide
      case c5 => exact HB3.out
      intro v' w4 hown4 hg4 _ hat4
      have HI4 := Lib.hid (HI3.out.add HG.out HW0.out hown4 hg4 (by simpa using hat4))
      clear hown4 hg4 hat4
      go_wp2_with fail
      go_roundw
      case rel => exact ⟨3, rfl, by omega, HI4⟩
      case measure => simp [intOf]
    · go_wp2_with fail
      go_ret
      exact ⟨_, rfl, HI.out.own, HB0.out.trans (HI.out.low.mono (by omega))⟩
end EvA
end Go.Proofs.YtnkednjklfpblaaGreatDoor
