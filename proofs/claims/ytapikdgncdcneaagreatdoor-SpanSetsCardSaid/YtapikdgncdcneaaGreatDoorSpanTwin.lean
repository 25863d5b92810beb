/-
  The laws' own function twin of a span: the same intervals in memory of their own.
-/
import Derived.Test.YtapikdgncdcneaaGreatDoorSpanArg
import Derived.Test.YtapikdgncdcneaaGreatDoorSpanOps
import Derived.Maps.AppendAt
import Derived.Laws.OwnMore
namespace Go.Proofs.YtapikdgncdcneaaGreatDoor
open Go.RowKit
namespace SpanC
open VerM VerC StrC TextR SpanArg
set_option linter.unusedSimpArgs false
set_option linter.unusedVariables false

/-! ### texts of a call's own -/
theorem TxK.keep {w w' : World} {a : Option Addr} {c : Nat} {p : TL} (h : TxK w a c p) {X : Nat} (hX : ¬ IsText w X) (g : ∀ j, j ≠ X → j < w.heap.size → w'.heap[j]? = w.heap[j]?) : TxK w' a c p := by
  have hne : ∀ b f, a = some ⟨b, f, none⟩ → b ≠ X ∧ b < w.heap.size := fun b f e => ⟨fun e2 => hX (e2 ▸ h.kind b f e), (h.kind b f e).lt⟩
  refine ⟨⟨h.txs.cap, h.txs.short, h.txs.few, fun h0 => ?_⟩, fun b f e => (h.kind b f e).of (g b (hne b f e).1 (hne b f e).2), h.nil⟩
  obtain ⟨b, o, e, hc⟩ := h.txs.cells h0
  exact ⟨b, o, e, fun i hi => by rw [World.cell?_of_block (a := ⟨b, o + i, none⟩) (g b (hne b o e).1 (hne b o e).2)]; exact hc i hi⟩
theorem IvTx.keep {w w' : World} {x : IvG} (h : IvTx w x) {X : Nat} (hX : ¬ IsText w X) (g : ∀ j, j ≠ X → j < w.heap.size → w'.heap[j]? = w.heap[j]?) : IvTx w' x := ⟨h.l.keep hX g, h.h.keep hX g⟩
theorem own_txk {w : World} {N : Nat} {v : Value} {p : TL} (h : OwnT w N v (p.map str)) (hs : ∀ s ∈ p, s.length ≤ 9223372036854775807) (hf : p.length ≤ 281474976710656) : ∃ a cap, v = .slice a p.length cap ∧ TxK w a cap p := by
  obtain ⟨a, cap, rfl, hT⟩ := own_txs h hs hf
  have h' : w.ownsRow N 9 1 (.slice a p.length cap) (p.map str).length ((p.map str).map Value.string) := h
  refine ⟨a, cap, rfl, ⟨hT, fun b f e => ?_, fun e => ?_⟩⟩
  · obtain ⟨_, ⟨e0, h0⟩ | ⟨g, cp2, cur, e0, hg0, hblk, hle, hcm, hsz, htk⟩⟩ := h'
    · obtain ⟨ea, -, -⟩ := Value.slice.inj e0
      rw [ea] at e; cases e
    · obtain ⟨ea, -, -⟩ := Value.slice.inj e0
      rw [ea] at e; cases e; exact ⟨_, _, hblk⟩
  · obtain ⟨_, ⟨e0, h0⟩ | ⟨g, cp2, cur, e0, hg0, hblk, hle, hcm, hsz, htk⟩⟩ := h'
    · obtain ⟨-, -, ec⟩ := Value.slice.inj e0
      exact ⟨by simpa using h0, ec⟩
    · obtain ⟨ea, -, -⟩ := Value.slice.inj e0
      rw [ea] at e; cases e
theorem one_texts (Z : TL) : ∀ u ∈ (Z.map str).map Value.string, u.oneCell' = true := by
  intro u hu
  obtain ⟨s, -, rfl⟩ := List.mem_map.1 hu
  rfl
/-- 'append([]string(nil), l...)' -/
theorem wpList_copy {P : Program} {w : World} {ops : Array Oper} {rest : List Oper} {o : Oper} {a : Act} {Q : Exit → Act → World → Prop} (hgd : o.guard = none) (s x : Operand) (t : TypeId)
    (ho : o.op = .call { callee := .builtin .append, args := #[s, x], argTypes := #[t, t] })
    (i : TypeInfo) (z : Value) (ht : P.underlying t = some (.slice 9)) (hi : P.info? 9 = some i) (hz : i.zero = some z)
    (hsize : i.size = 1) (hby : i.bytes = 16) (hzs : z.cells.size = 1) (hs : a.eval s = .slice none 0 0)
    (aa : Option Addr) (cap : Nat) (Z : TL) (hx : a.eval x = .slice aa Z.length cap) (hT : Txs w aa cap Z) (hnil : aa = none → cap = 0) (hn : Z.length ≤ 8796093022000)
    (h : ∀ a' c' w', TxK w' a' c' Z → w.grownBy w' none → wpList P ops Q rest (a.put o.dst (.slice a' Z.length c')) w') : wpList P ops Q (o :: rest) a w := by
  refine wpList_plain hgd fun K hK => ?_
  have hown : w.ownsRow w.heap.size 9 1 (.slice none 0 0) 0 [] := World.ownsRow_nil _ _ _ _
  have key : ∃ v' w', (Builtin.append_ #[t, t] o.type #[.slice none 0 0, .slice aa Z.length cap]).run P w = .ok v' w' ∧ w'.ownsRow w.heap.size 9 1 v' (0 + Z.length) ([] ++ (Z.map str).map Value.string) ∧ w.grownBy w' none := by
    cases aa with
    | none =>
      have hc := hnil rfl
      have hz0 : Z = [] := by
        apply Classical.byContradiction
        intro hne
        obtain ⟨b, f, e, -⟩ := hT.cells (List.length_pos_iff.2 hne)
        cases e
      subst hz0 hc
      exact ⟨_, w, run_append_owned_none (P := P) (w := w) w.heap.size t o.type 9 i 1 ht hi (.slice none 0 0) 0 _ hown, by simpa using hown, ⟨rfl, rfl, rfl, Nat.le_refl _, fun _ _ _ => rfl⟩⟩
    | some ad =>
      have hcs : ∀ j u, ((Z.map str).map Value.string)[j]? = some u → w.cell? (ad.add j) = some u := by
        intro j u hu
        have hj : j < Z.length := by
          have := (List.getElem?_eq_some_iff.1 hu).1
          simpa using this
        obtain ⟨b, f, e, hc⟩ := hT.cells (by omega)
        cases e
        rw [Go.WideShapes.add_plain, hc j hj, ← hu]
        simp [hj]
      obtain ⟨v', w', hr, h2, h3, _, h5⟩ := run_append_own_at (P := P) w w.heap.size t o.type 9 i z 1 16 ht hi hz hsize hby hzs (by decide) (.slice none 0 0) 0 _ hown ad Z.length cap _ (by simp) hcs (one_texts Z) (by unfold maxLen; omega) (by omega) (Nat.le_refl _)
      exact ⟨v', w', hr, h2, h3⟩
  obtain ⟨v', w', hr, h2, h3⟩ := key
  have hO : OwnT w' w.heap.size v' (Z.map str) := by unfold OwnT; simpa using h2
  obtain ⟨a', c', rfl, hK2⟩ := own_txk hO hT.short hT.few
  unfold Oper.wp execOp
  simp only [ho, resolve, invoke, builtin, Sem.run_bind, Sem.run_pure, Result.andThen_ok, List.map_toArray, List.map_cons, List.map_nil, hs, hx, hr]
  exact hK _ _ (h a' c' w' hK2 h3)

/-! ### intervals alike but for where their texts lie -/
def strip (x : IvG) : IvG := ⟨x.lv, none, 0, x.lo, x.hv, none, 0, x.ho, x.e⟩
theorem iv_no_text {w : World} {g : Nat} {x : IvG} (h : w.heap[g]? = some (gvO x)) : ¬ IsText w g := no_text h (by decide)
theorem gv_set3 {w : World} {g : Nat} {x : IvG} (h : w.heap[g]? = some (gvO x)) (a : Option Addr) (c : Nat) : (w.setCell ⟨g, 3, none⟩ (.slice a x.lv.pre.length c)).heap[g]? = some (gvO { x with la := a, lc := c }) := setCell_row h 3 _
theorem gv_set8 {w : World} {g : Nat} {x : IvG} (h : w.heap[g]? = some (gvO x)) (a : Option Addr) (c : Nat) : (w.setCell ⟨g, 8, none⟩ (.slice a x.hv.pre.length c)).heap[g]? = some (gvO { x with ha := a, hc := c }) := setCell_row h 8 _
theorem heap_set {w : World} {g i : Nat} {v : Value} : ∀ j, j ≠ g → j < w.heap.size → (w.setCell ⟨g, i, none⟩ v).heap[j]? = w.heap[j]? := fun j hj _ => setCell_else i v hj
theorem tx_grown {w w' : World} {x : IvG} {B n k : Nat} {e : TypeId} {v : Value} {xs : List Value} (h : IvTx w x) (hown : w.ownsRow B e k v n xs) (he : e ≠ 9) (hg : w.grownBy w' v.ownBlock) : IvTx w' x := by
  rcases hown.2 with ⟨rfl, _⟩ | ⟨g, cp, cur, rfl, _, hb, _⟩
  · exact h.gr ⟨hg.os, hg.tape, hg.output, hg.size, fun j hj => hg.block j hj (by simp [Value.ownBlock])⟩
  · exact h.keep (no_text hb he) fun j hne hj => hg.block j hj (by simp [Value.ownBlock]; exact fun e => hne e)
/-- what the loop of twin finds and leaves -/
structure Tw (w wr : World) (u : Value) (L L' : List IvG) (k : Nat) : Prop where
  len : L'.length = k
  same : L'.map strip = (L.take k).map strip
  row : IvRow wr w.heap.size u L'
  txs : ∀ x ∈ L', IvTx wr x
  below : Below w.heap.size w wr
theorem take_snoc' {L : List IvG} {k : Nat} {x : IvG} (h : L[k]? = some x) : L.take (k + 1) = L.take k ++ [x] := by rw [List.take_add_one, h]; rfl
set_option maxHeartbeats 4000000 in
set_option maxRecDepth 100000 in
theorem twin_any (a : Option Addr) (cp : Nat) (L : List IvG) (w : World) (hA : IArg w a L) (hl : L.length ≤ 1000) :
    Calls Tryz.prog 7 #[.slice a L.length cp] w fun e w' => ∃ a' cp' L', e = .returned (.slice a' L.length cp') ∧ L'.length = L.length ∧ L'.map strip = L.map strip ∧ IvArg w' a' L' ∧ Below w.heap.size w w' := by
  obtain ⟨i0, hi, hz0, hz1, hz2⟩ := info_parts info_str
  obtain ⟨j0, hj, hy0, hy1, hy2⟩ := info_parts info_iv
  have HA := Lib.hid hA
  have HL := Lib.hid hl
  clear hA hl
  go_enter Tryz.func7, Tryz.ntmps7
  go_wp2_with fail
  go_loopw [3, 4] (fun u i wr => ∃ (k : Nat) (L' : List IvG), i = .int .i64 k ∧ k ≤ L.length ∧ Hid (Tw w wr u L L' k)) (fun _ i _ => L.length - (intOf i).toNat)
  case atStart => exact ⟨0, [], rfl, Nat.zero_le _, Lib.hid ⟨rfl, rfl, World.ownsRow_nil _ _ _ _, fun x h => (by cases h), Below.refl _ _⟩⟩
  case round =>
    obtain ⟨k, L', rfl, hk, HI⟩ := hrel
    rename World => wr
    by_cases hlt : k < L.length
    · have hdec : decide (k < L.length) = true := by simpa using hlt
      obtain ⟨g, o, x, hx, hxm, hxs, rfl, c0, c1, c2, c3, c4, c5, c6, c7, c8, c9, c10⟩ := (HA.out.gr HI.out.below).row.at k hlt
      have hnx := heap_alloc_new wr (gvO x)
      have HT1 := Lib.hid ((HA.out.gr HI.out.below).txs x hxm)
      have HXS := Lib.hid hxs
      have HB1 := Lib.hid ((Below.refl _ wr).alloc (Nat.le_refl _) (gvO x))
      clear hx hxm hxs
      have hk1 : IntKind.i64.wrap ((k : Int) + 1) = ((k + 1 : Nat) : Int) := by have := HL.out; rw [IntWalk.i64_in _ ⟨by omega, by omega⟩]; omega
      obtain ⟨q0, q1, q2, q3, q4, q5, q6, q7, q8, q9, q10⟩ := gv_cells hnx
      have HNX := Lib.hid hnx
      clear hnx
      go_wp2_with (at_builtin; refine wpList_copy rfl _ _ 34 rfl i0 (.string ⟨#[]⟩) Tryz.underlying34 hi hz0 hz1 hz2 rfl rfl x.la x.lc x.lv.pre rfl (HT1.out.l.gr HB1.out).txs HT1.out.l.nil HT1.out.l.size ?_)
      intro a1 l1 w2 hk2 hg2
      have hb2 : Below (wr.alloc (gvO x)).heap.size (wr.alloc (gvO x)) w2 := (Below.refl _ _).grown hg2 (Nat.le_refl _) (fun _ h => by cases h)
      have hn2 := (hb2.block wr.heap.size (by simp)).trans HNX.out
      have HB2 : Hid (Below wr.heap.size wr (w2.setCell ⟨wr.heap.size, 3, none⟩ (.slice a1 x.lv.pre.length l1))) := Lib.hid ((HB1.out.trans (hb2.mono HB1.out.size)).setCell (Nat.le_refl _) _)
      have HK2 := Lib.hid (hk2.keep (w' := w2.setCell ⟨wr.heap.size, 3, none⟩ (.slice a1 x.lv.pre.length l1)) (iv_no_text hn2) heap_set)
      have HN2 := Lib.hid (gv_set3 hn2 a1 l1)
      have HT2 := Lib.hid (HT1.out.h.gr HB2.out)
      have f3 := ver_frozen hn2 3
      clear q0 q1 q2 q3 q4 q5 q6 q7 q8 q9 q10 c0 c1 c2 c3 c4 c5 c6 c7 c8 c9 c10 HNX hk2 hg2 hb2
      obtain ⟨q0, q1, q2, q3, q4, q5, q6, q7, q8, q9, q10⟩ := gv_cells hn2
      clear hn2
      go_wp2_with (at_builtin; refine wpList_copy rfl _ _ 34 rfl i0 (.string ⟨#[]⟩) Tryz.underlying34 hi hz0 hz1 hz2 rfl rfl x.ha x.hc x.hv.pre rfl HT2.out.txs HT2.out.nil HT2.out.size ?_)
      intro a2 l2 w4 hk4 hg4
      have hb4 : Below (w2.setCell ⟨wr.heap.size, 3, none⟩ (.slice a1 x.lv.pre.length l1)).heap.size (w2.setCell ⟨wr.heap.size, 3, none⟩ (.slice a1 x.lv.pre.length l1)) w4 := (Below.refl _ _).grown hg4 (Nat.le_refl _) (fun _ h => by cases h)
      have hn4 := (hb4.block wr.heap.size (Array.getElem?_eq_some_iff.1 HN2.out).1).trans HN2.out
      have HB4 : Hid (Below wr.heap.size wr (w4.setCell ⟨wr.heap.size, 8, none⟩ (.slice a2 x.hv.pre.length l2))) := Lib.hid ((HB2.out.trans (hb4.mono HB2.out.size)).setCell (Nat.le_refl _) _)
      have HKL := Lib.hid ((HK2.out.gr hb4).keep (w' := w4.setCell ⟨wr.heap.size, 8, none⟩ (.slice a2 x.hv.pre.length l2)) (iv_no_text hn4) heap_set)
      have HKH := Lib.hid (hk4.keep (w' := w4.setCell ⟨wr.heap.size, 8, none⟩ (.slice a2 x.hv.pre.length l2)) (iv_no_text hn4) heap_set)
      have hn5 := gv_set8 hn4 a2 l2
      have f8 := ver_frozen hn4 8
      clear q0 q1 q2 q3 q4 q5 q6 q7 q8 q9 q10 f3 HN2 HK2 HT2 hk4 hg4 hb4
      obtain ⟨q0, q1, q2, q3, q4, q5, q6, q7, q8, q9, q10⟩ := gv_cells hn4
      obtain ⟨p0, p1, p2, p3, p4, p5, p6, p7, p8, p9, p10⟩ := gv_cells hn5
      clear hn4 hn5
      have HOW : Hid ((w4.setCell ⟨wr.heap.size, 8, none⟩ (.slice a2 x.hv.pre.length l2)).ownsRow w.heap.size 53 11 u3 k (L'.flatMap gvL)) := Lib.hid (by
        have h := HI.out.row.below' HB4.out
        unfold IvRow at h
        rwa [HI.out.len] at h)
      go_wp2_with (at_builtin; refine wpList_append_own _ rfl _ _ 22 rfl w.heap.size 53 j0 _ 11 104 Tryz.underlying22 hj hy0 hy1 hy2 rfl (by decide) _ _ _ rfl (HOW.out.alloc _) ⟨w4.heap.size, 0, none⟩ 1 1 (gvL ⟨x.lv, a1, l1, x.lo, x.hv, a2, l2, x.ho, x.e⟩) rfl rfl ?c1 ?c2 ?c3 ?c4 ?c5 ?_)
      case c2 => simp [Value.oneCell']
      case c3 => unfold maxLen; have := HL.out; omega
      case c4 => have := HL.out; omega
      case c5 => have := HB4.out.size; have := HI.out.below.size; simp at *; omega
      intro v6 w6 hown6 hg6 _
      have HG6 := Lib.hid hg6
      have HO6 := Lib.hid hown6
      clear hg6 hown6 q0 q1 q2 q3 q4 q5 q6 q7 q8 q9 q10 p0 p1 p2 p3 p4 p5 p6 p7 p8 p9 p10 f8
      have HNEXT : Hid (Tw w w6 v6 L (L' ++ [⟨x.lv, a1, l1, x.lo, x.hv, a2, l2, x.ho, x.e⟩]) (k + 1)) := Lib.hid (by
        have hb5 := HI.out.below.trans (HB4.out.mono HI.out.below.size)
        have hnew : IvTx (w4.setCell ⟨wr.heap.size, 8, none⟩ (.slice a2 x.hv.pre.length l2)) ⟨x.lv, a1, l1, x.lo, x.hv, a2, l2, x.ho, x.e⟩ := ⟨HKL.out, HKH.out⟩
        have step : ∀ y, IvTx (w4.setCell ⟨wr.heap.size, 8, none⟩ (.slice a2 x.hv.pre.length l2)) y → IvTx w6 y := fun y hy => tx_grown (hy.gr ((Below.refl _ _).alloc (Nat.le_refl _) _)) (HOW.out.alloc _) (by decide) HG6.out
        refine ⟨by rw [List.length_append, HI.out.len]; rfl, ?_, ?_, ?_, ?_⟩
        · rw [List.map_append, HI.out.same, take_snoc' HXS.out, List.map_append]; rfl
        · have h := HO6.out
          unfold IvRow
          rw [List.length_append, List.flatMap_append, HI.out.len]
          simpa using h
        · intro y hy
          rcases List.mem_append.1 hy with hy | hy
          · exact step y ((HI.out.txs y hy).gr HB4.out)
          · rw [List.mem_singleton.1 hy]; exact step _ hnew
        · exact (hb5.alloc hb5.size _).grown HG6.out (Nat.le_trans hb5.size (by simp)) (fun j hj => (World.ownsRow.lt HOW.out j hj).1))
      clear HOW HKL HKH HB4 HB2 HB1 HG6 HO6
      go_wp2_with fail
      go_roundw
      case rel => exact ⟨k + 1, _, by go_num, by omega, HNEXT⟩
      case measure => simp [intOf]; omega
    · have hdec : decide (k < L.length) = false := by simpa using hlt
      have hke : k = L.length := by omega
      subst hke
      obtain ⟨a', cp', rfl⟩ := HI.out.row.value
      have HLN : Hid (L'.length = L.length) := Lib.hid HI.out.len
      rw [HLN.out]
      go_wp2_with fail
      go_ret
      exact ⟨a', cp', L', rfl, HLN.out, by have := HI.out.same; rwa [List.take_length] at this, ⟨HI.out.row.in_, HI.out.txs⟩, HI.out.below⟩
end SpanC
end Go.Proofs.YtapikdgncdcneaaGreatDoor
