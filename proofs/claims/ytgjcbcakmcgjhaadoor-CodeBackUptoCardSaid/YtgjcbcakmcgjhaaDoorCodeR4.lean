/-
  Package code's reader: a list of texts.
-/
import Derived.Test.YtgjcbcakmcgjhaaDoorCodeR3
import Derived.Test.YtgjcbcakmcgjhaaDoorCodeMath2
namespace Go.Proofs.YtgjcbcakmcgjhaaDoor
open Go.RowKit
namespace CodeC
open CodeM ErrC

theorem info_text : (Tryd.prog.info? 9).map (fun i => (i.zero, i.size, i.bytes)) = some (some (.string ⟨#[]⟩), 1, 16) := by kernel_rfl
/-- a row of texts of the call's own -/
def OwnT (w : World) (B : Nat) (v : Value) (L : List ByteArray) : Prop := w.ownsRow B 9 1 v L.length (L.map Value.string)
theorem OwnT.nil (w : World) (B : Nat) : OwnT w B (.slice none 0 0) [] := World.ownsRow_nil _ _ _ _
theorem ownsRow_of_blocks {w w' : World} {B n : Nat} {e : TypeId} {v : Value} {xs : List Value} (h : w.ownsRow B e 1 v n xs) (hb : ∀ g, B ≤ g → g < w.heap.size → w'.heap[g]? = w.heap[g]?) : w'.ownsRow B e 1 v n xs := by
  obtain ⟨h1, h2⟩ := h
  refine ⟨h1, ?_⟩
  rcases h2 with h2 | ⟨g, cap, cur, hv, hg, hh, r⟩
  · exact Or.inl h2
  · have hlt : g < w.heap.size := by
      apply Classical.byContradiction
      intro hn
      have : w.heap[g]? = none := by simp; omega
      rw [this] at hh; cases hh
    exact Or.inr ⟨g, cap, cur, hv, hg, by rw [hb g hg hlt]; exact hh, r⟩
theorem OwnT.but {w w' : World} {B b : Nat} {v : Value} {L : List ByteArray} (h : OwnT w B v L) (hb : But b w w') (hB : b < B) : OwnT w' B v L :=
  ownsRow_of_blocks h fun g hg hl => hb.block g hl (by omega)
theorem OwnT.below {w w' : World} {B : Nat} {v : Value} {L : List ByteArray} (h : OwnT w B v L) (hb : Below w.heap.size w w') : OwnT w' B v L :=
  ownsRow_of_blocks h fun g _ hl => hb.block g hl
theorem OwnT.mono {w : World} {B B' : Nat} {v : Value} {L : List ByteArray} (h : OwnT w B v L) (hB : B' ≤ B) : OwnT w B' v L := by
  obtain ⟨h1, h2⟩ := h
  refine ⟨h1, ?_⟩
  rcases h2 with h2 | ⟨g, cap, cur, hv, hg, hh, r⟩
  · exact Or.inl h2
  · exact Or.inr ⟨g, cap, cur, hv, by omega, hh, r⟩
theorem one_text (s : ByteArray) : ∀ u ∈ [Value.string s], u.oneCell' = true := by
  intro u hu
  rw [List.mem_singleton] at hu
  subst hu
  rfl
theorem own_text_snoc {w : World} {B n : Nat} {v : Value} {L : List ByteArray} {s : ByteArray} (h : w.ownsRow B 9 1 v (n + 1) (L.map Value.string ++ [Value.string s])) (hn : n = L.length) : OwnT w B v (L ++ [s]) := by
  unfold OwnT
  rw [List.map_append, List.map_singleton, List.length_append, List.length_singleton, ← hn]
  exact h

theorem But.then_below {b : Nat} {x y z : World} (h : But b x y) (k : Below x.heap.size y z) : But b x z :=
  ⟨k.os.trans h.os, k.tape.trans h.tape, k.output.trans h.output, Nat.le_trans h.size k.size, fun i hi hb => (k.block i hi).trans (h.block i hi hb)⟩
/-- the list's answer: the texts in a row of the call's own, the error; the reader stands somewhere, behind them if there is none -/
def ListE (L : List ByteArray) (er z : Nat) (b o : Nat) (s : ByteArray) (w : World) (e : Ending) (w' : World) : Prop :=
  ∃ v k', e = .returned (.tuple #[v, .int .i64 er]) ∧ OwnT w' w.heap.size v L ∧ IsRdr w' b o s k' ∧ k' ≤ s.size ∧ (er = 0 → k' = z) ∧ But b w w'

/-- the list's answer, in one word of the mathematics -/
def lsRes (most each k : Nat) (s : ByteArray) : List ByteArray × Nat × Nat :=
  let u := uRes most k (s.data.toList.drop k)
  if u.2.1 = 0 then lRes each s u.1 u.2.2.2 else ([], u.2.1, k)
theorem lsRes_err {most each k e : Nat} {s : ByteArray} (h : uRes most k (s.data.toList.drop k) = (0, e, k, k)) (he : e ≠ 0) : lsRes most each k s = ([], e, k) := by simp [lsRes, h, he]
theorem lsRes_ok {most each k v q : Nat} {s : ByteArray} (h : uRes most k (s.data.toList.drop k) = (v, 0, 0, q)) : lsRes most each k s = lRes each s v q := by simp [lsRes, h]

set_option maxHeartbeats 4000000 in
set_option maxRecDepth 100000 in
theorem list_is (b o : Nat) (s : ByteArray) (k : Nat) (m c : Int) (w : World) (hk : k ≤ s.size) (hs : s.size ≤ 4611686018427387904) (hm : m ≤ 65536) (hc : c ≤ 9223372036854775807) (hr : IsRdr w b o s k) :
    Calls Tryd.prog 40 #[.pointer (some ⟨b, o, none⟩), .int .i64 m, .int .i64 c] w
      (ListE (lsRes (cap m) (cap c) k s).1 (lsRes (cap m) (cap c) k s).2.1 (lsRes (cap m) (cap c) k s).2.2 b o s w) := by
  obtain ⟨i0, hi, hz0, hz1, hz2⟩ := info_parts info_text
  have hbw := hr.lt
  have HR := Lib.hid hr; clear hr
  have hu0 := uRes_cases (cap m) k s hk
  have hcap : cap m ≤ 65536 := by unfold cap; omega
  go_enter Tryd.func40, Tryd.ntmps40
  go_wp2_with fail
  refine (bound_any m _ (by omega)).mono ?_
  rintro e w' ⟨rfl, rfl⟩
  go_wp2_with fail
  refine (num_is b o s k (cap m) _ hk hs (by omega) HR.out).mono ?_
  rintro e w1 ⟨rfl, hr1, ho1⟩
  rcases hu0 with ⟨e, he, he2, hu⟩ | ⟨n, d, hn, hd, hu⟩
  · have HT := Lib.hid (lsRes_err (each := cap c) hu he)
    rw [hu] at hr1 ⊢
    have te : ((e : Int) != 0) = true := bne_iff_ne.2 (by omega)
    have HR1 := Lib.hid hr1
    have HO := Lib.hid ho1
    clear hr1 ho1 hu he
    unfold nEnd
    go_wp2_with fail
    go_ret2
    rw [HT.out]
    exact ⟨_, k, rfl, OwnT.nil _ _, HR1.out, hk, fun _ => rfl, But.of_only HO.out⟩
  · have HT := Lib.hid (lsRes_ok (each := cap c) hu)
    rw [hu] at hr1 ⊢
    have HR1 := Lib.hid hr1
    have HO := Lib.hid ho1
    have hn2 : n ≤ 65536 := by omega
    clear hr1 ho1 hu hn hcap
    generalize k + d = q0 at *
    unfold nEnd
    go_wp2_with fail
    go_loopw [10, 24] (fun vl vi wr => ∃ (j q : Nat) (L : List ByteArray), j ≤ n ∧ vi = .int .u64 j ∧ q ≤ s.size ∧ Hid (L.length = j) ∧ Hid (lRes (cap c) s n q0 = pre L (lRes (cap c) s (n - j) q)) ∧ Hid (OwnT wr w.heap.size vl L) ∧ Hid (IsRdr wr b o s q) ∧ Hid (But b w wr)) (fun _ vi _ => n - (intOf vi).toNat)
    case atStart => exact ⟨0, q0, [], Nat.zero_le _, rfl, hd, Lib.hid rfl, Lib.hid (by rw [pre_nil _ (lRes_clean _ _ _ _)]; rfl), Lib.hid (OwnT.nil _ _), HR1, Lib.hid (But.of_only HO.out)⟩
    case round =>
      obtain ⟨j, q, L, hj, rfl, hq, HLj, HL, HOT, HRq, HB⟩ := hrel
      rename World => wr
      by_cases hlt : j < n
      · have hdec : decide (j < n) = true := by simpa using hlt
        have hn1 : n - j = (n - (j + 1)) + 1 := by omega
        have HN1 := Lib.hid hn1; clear hn1
        have ht := tRes_cases (cap c) q s hq
        go_wp2_with fail
        refine (one_is b o s q c _ hq hs hc HRq.out).mono ?_
        rintro e w2 ⟨rfl, ho2, q2, hq2, hr2, hz⟩
        rcases ht with ⟨e, he, he2, ht⟩ | ⟨a, z, h1, h2, h3, ht⟩
        · have HE := Lib.hid (show lRes (cap c) s n q0 = ([], e, q) by rw [HL.out, HN1.out, lRes_err ht he, pre_err _ he])
          rw [ht]
          have te : ((e : Int) != 0) = true := bne_iff_ne.2 (by omega)
          have HR2 := Lib.hid hr2
          have HO2 := Lib.hid ho2
          have HEE := Lib.hid he
          clear hr2 ho2 ht hz he
          unfold pEnd
          go_wp2_with fail
          go_ret2
          rw [HT.out, HE.out]
          exact ⟨_, q2, rfl, OwnT.nil _ _, HR2.out, hq2, fun h => absurd h HEE.out, HB.out.trans (But.of_only HO2.out)⟩
        · have HE := Lib.hid (show lRes (cap c) s n q0 = pre (L ++ [s.extract a z]) (lRes (cap c) s (n - (j + 1)) z) by rw [HL.out, HN1.out, lRes_ok ht, pre_pre])
          rw [ht] at hz
          rw [ht]
          have e2 : q2 = z := hz rfl
          subst e2
          have HR2 := Lib.hid hr2
          have HB2 := Lib.hid (HB.out.trans (But.of_only ho2))
          have hown := HOT.out.but (But.of_only ho2) hbw
          unfold OwnT at hown
          rw [HLj.out] at hown
          clear hr2 ho2 ht hz
          unfold pEnd
          dsimp only
          generalize s.extract a q2 = x at *
          go_wp2_with (at_builtin; refine wpList_append_own _ rfl _ _ 23 rfl w.heap.size 9 i0 (.string ⟨#[]⟩) 1 16 Tryd.underlying23 hi hz0 hz1 hz2 rfl (by decide) _ _ _ rfl (hown.alloc _) ⟨w2.heap.size, 0, none⟩ 1 1 [.string x] rfl rfl ?c1 ?c2 ?c3 ?c4 ?c5 ?_)
          case c1 => exact cell_one _ _ _
          case c2 => exact one_text _
          case c3 => unfold maxLen; omega
          case c4 => omega
          case c5 => have := HB2.out.size; simp; omega
          intro v' w3 hown' hg _
          have hB3 : Below w.heap.size w2 w3 := (((Below.refl _ _).alloc HB2.out.size _)).grown hg (by have := HB2.out.size; simp; omega) (fun g hg => (hown.lt g hg).1)
          have hO3 := own_text_snoc hown' HLj.out.symm
          have H3 := Lib.hid hB3
          have HO3 := Lib.hid hO3
          clear hown' hg hB3 hown hO3
          go_wp2_with fail
          go_roundw
          case rel => exact ⟨j + 1, q2, L ++ [x], by omega, by go_num, hq2, Lib.hid (by rw [List.length_append, HLj.out]; rfl), HE, HO3, Lib.hid (HR2.out.below H3.out hbw), Lib.hid (HB2.out.then_below H3.out)⟩
          case measure => simp [intOf]; omega
      · have hdec : decide (j < n) = false := by simpa using hlt
        have HE := Lib.hid (show lRes (cap c) s n q0 = (L, 0, q) by rw [HL.out, show n - j = 0 by omega, lRes_zero, pre_ok])
        go_wp2_with fail
        go_ret2
        rw [HT.out, HE.out]
        exact ⟨_, q, rfl, HOT.out, HRq.out, hq, fun _ => rfl, HB.out⟩
end CodeC
end Go.Proofs.YtgjcbcakmcgjhaaDoor
