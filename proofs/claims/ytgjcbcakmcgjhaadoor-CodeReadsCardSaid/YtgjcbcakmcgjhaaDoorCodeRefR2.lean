/-
  What the document's own reader of layer 2 reads, more: words, lists of texts.
-/
import Derived.Test.YtgjcbcakmcgjhaaDoorCodeR6
namespace Go.Proofs.YtgjcbcakmcgjhaaDoor
open Go.RowKit
namespace CodeC
open CodeM ErrC

def wEnd (v e p : Nat) : Ending := .returned (.tuple #[.int .u64 v, .int .i64 e, .int .i64 p])
set_option maxHeartbeats 4000000 in
theorem rrword_any (b o : Nat) (s : ByteArray) (k : Nat) (w : World) (hk : k ≤ s.size) (hs : s.size ≤ 4611686018427387904) (hr : IsRef w b o s k) :
    Calls Tryd.prog 30 #[.pointer (some ⟨b, o, none⟩)] w fun e w' => e = wEnd (wRes k s).1 (wRes k s).2.1 (wRes k s).2.2.1 ∧ IsRef w' b o s (wRes k s).2.2.2 ∧ Only b w w' := by
  have HR := Lib.hid hr
  obtain ⟨h0, h1, h2⟩ := hr
  have esub : IntKind.i64.wrap ((s.size : Int) - (k : Int)) = (s.size : Int) - (k : Int) := IntWalk.i64_in _ ⟨by omega, by omega⟩
  by_cases h8 : s.size - k < 8
  · rw [wRes_short h8]
    have hd : decide ((s.size : Int) - (k : Int) < 8) = true := by simp; omega
    go_enter Tryd.func30, Tryd.ntmps30
    go_wp2_with fail
    go_quiet (fail)
    go_wp2_with fail
    go_quiet (fail)
    go_wp2_with fail
    go_ret3
    exact ⟨rfl, by repeat (first | exact HR.out | apply IsRef.drewN), by repeat (first | exact Only.refl _ _ | apply Only.drewN)⟩
  · rw [wRes_ok h8]
    have hd : decide ((s.size : Int) - (k : Int) < 8) = false := by simp; omega
    have hk8 : k + 8 ≤ s.size := by omega
    go_enter Tryd.func30, Tryd.ntmps30
    go_wp2_with fail
    go_quiet (fail)
    go_wp2_with fail
    clear hd esub h8
    go_loopw [5, 6] (fun vx vi wr => ∃ (i x q : Nat), i ≤ 8 ∧ vi = .int .i64 i ∧ vx = .int .u64 x ∧ x < 256 ^ i ∧ Hid (x = wv 0 ((s.data.toList.drop k).take i)) ∧ wr = w.drewN q) (fun _ vi _ => 8 - (intOf vi).toNat)
    case atStart => exact ⟨0, 0, _, by omega, rfl, rfl, by decide, Lib.hid rfl, rfl⟩
    case round =>
      obtain ⟨i, x, q, hi, rfl, rfl, hx, HX, rfl⟩ := hrel
      by_cases hi8 : i < 8
      · have hki : k + i < s.size := by omega
        have hidx := idx_at s k i hki
        have hadd : IntKind.i64.wrap ((k : Int) + (i : Int)) = (k : Int) + (i : Int) := IntWalk.i64_in _ ⟨by omega, by omega⟩
        have hc := s[k + i].toNat_lt
        have htk := take_more s.data.toList k i (by simpa using hki)
        have hget : s.data.toList[k + i]'(by simpa using hki) = s[k + i] := by rw [Array.getElem_toList]; rfl
        rw [hget] at htk
        have HT := Lib.hid htk; clear htk hget
        have hx7 : x < 72057594037927936 := Nat.lt_of_lt_of_le hx (Nat.le_trans (Nat.pow_le_pow_right (by decide) (show i ≤ 7 by omega)) (by decide))
        have hob := or_byte x s[k + i].toNat hx7 hc
        have hnx : x * 256 + s[k + i].toNat < 256 ^ (i + 1) := by rw [Nat.pow_succ]; omega
        have HNX := Lib.hid hnx
        have hwr : IntKind.u64.wrap ((x : Int) * 256) = (x : Int) * 256 := IntWalk.u64_in _ ⟨by omega, by omega⟩
        have hwr2 : IntKind.u64.wrap ((x : Int) * 2 ^ 8) = (x : Int) * 256 := IntWalk.u64_in _ ⟨by omega, by omega⟩
        clear hnx hx
        generalize s[k + i] = c at *
        go_wp2_with fail
        go_quiet (fail)
        go_wp2_with fail
        go_roundw
        case rel => exact ⟨i + 1, x * 256 + c.toNat, _, by omega, by go_num, by go_num, HNX.out, Lib.hid (by rw [HT.out, wv_snoc, HX.out]), rfl⟩
        case measure => simp [intOf]; omega
      · obtain rfl : i = 8 := by omega
        have hadd : IntKind.i64.wrap ((k : Int) + 8) = (k : Int) + 8 := IntWalk.i64_in _ ⟨by omega, by omega⟩
        go_wp2_with fail
        go_ret3
        refine ⟨by unfold wEnd; rw [← HX.out]; rfl, ?_, ?_⟩
        · refine IsRef.put (k := k) ?_ _ (k + 8) ?_
          · repeat (first | exact HR.out | apply IsRef.drewN)
          · omega
        · repeat (first | exact Only.refl _ _ | apply Only.drewN | apply Only.set)

/-- what the document's Texts answers -/
def RTextsE (L : List ByteArray) (er p q b o : Nat) (s : ByteArray) (w : World) (e : Ending) (w' : World) : Prop :=
  ∃ v, e = .returned (.tuple #[v, .int .i64 er, .int .i64 p]) ∧ OwnT w' w.heap.size v L ∧ IsRef w' b o s q ∧ But b w w'
theorem IsRef.lt {w : World} {b o k : Nat} {s : ByteArray} (h : IsRef w b o s k) : b < w.heap.size := World.block_lt_of_cell? _ _ h.text
theorem IsRef.below {w w' : World} {b o k B : Nat} {s : ByteArray} (h : IsRef w b o s k) (hb : Below B w w') (hB : b < B) : IsRef w' b o s k :=
  ⟨by rw [hb.cell hB]; exact h.text, by rw [hb.cell hB]; exact h.at_, by rw [hb.frozen hB]; exact h.free⟩
set_option maxHeartbeats 4000000 in
set_option maxRecDepth 100000 in
theorem rrtexts_is (b o : Nat) (s : ByteArray) (k : Nat) (m c : Int) (w : World) (hk : k ≤ s.size) (hs : s.size ≤ 4611686018427387904) (hm : m ≤ 65536) (hc : c ≤ 9223372036854775807) (hr : IsRef w b o s k) :
    Calls Tryd.prog 34 #[.pointer (some ⟨b, o, none⟩), .int .i64 m, .int .i64 c] w
      (RTextsE (tsRes (cap m) (cap c) k s).1 (tsRes (cap m) (cap c) k s).2.1 (tsRes (cap m) (cap c) k s).2.2.1 (tsRes (cap m) (cap c) k s).2.2.2 b o s w) := by
  obtain ⟨i0, hi, hz0, hz1, hz2⟩ := info_parts info_text
  have hbw := hr.lt
  have h1 := hr.at_
  have HR := Lib.hid hr; clear hr
  have hu0 := uRes_cases (cap m) k s hk
  have hcap : cap m ≤ 65536 := by unfold cap; omega
  go_enter Tryd.func34, Tryd.ntmps34
  go_wp2_with fail
  refine (rmost_any m _ (by omega)).mono ?_
  rintro e w' ⟨rfl, rfl⟩
  go_wp2_with fail
  refine (rruint_any b o s k (cap m) _ hk hs (by omega) HR.out).mono ?_
  rintro e w1 ⟨rfl, hr1, ho1⟩
  clear h1
  rcases hu0 with ⟨e, he, he2, hu⟩ | ⟨n, d, hn, hd, hu⟩
  · have HT := Lib.hid (tsRes_err (each := cap c) hu he)
    rw [hu] at hr1 ⊢
    have te : ((e : Int) != 0) = true := bne_iff_ne.2 (by omega)
    have HR1 := Lib.hid hr1
    have HO := Lib.hid ho1
    clear hr1 ho1 hu he
    unfold uEnd
    go_wp2_with fail
    go_ret3
    rw [HT.out]
    exact ⟨_, rfl, OwnT.nil _ _, HR1.out, But.of_only HO.out⟩
  · have HUU := Lib.hid hu
    rw [hu] at hr1 ⊢
    have HR1 := Lib.hid hr1
    have HO := Lib.hid ho1
    have hn2 : n ≤ 65536 := by omega
    clear hr1 ho1 hu hn hcap
    generalize k + d = q0 at *
    unfold uEnd
    go_wp2_with fail
    go_loopw [13, 14] (fun vl vi wr => ∃ (j q : Nat) (L : List ByteArray), j ≤ n ∧ vi = .int .u64 j ∧ q ≤ s.size ∧ Hid (L.length = j) ∧ Hid (lRes (cap c) s n q0 = pre L (lRes (cap c) s (n - j) q)) ∧ Hid (OwnT wr w.heap.size vl L) ∧ Hid (IsRef wr b o s q) ∧ Hid (But b w wr)) (fun _ vi _ => n - (intOf vi).toNat)
    case atStart => exact ⟨0, q0, [], Nat.zero_le _, rfl, hd, Lib.hid rfl, Lib.hid (by rw [pre_nil _ (lRes_clean _ _ _ _)]; rfl), Lib.hid (OwnT.nil _ _), HR1, Lib.hid (But.of_only HO.out)⟩
    case round =>
      obtain ⟨j, q, L, hj, rfl, hq, HLj, HL, HOT, HRq, HB⟩ := hrel
      rename World => wr
      by_cases hlt : j < n
      · have hdec : decide (j < n) = true := by simpa using hlt
        have hn1 : n - j = (n - (j + 1)) + 1 := by omega
        have HN1 := Lib.hid hn1; clear hn1
        have ht := tRes_cases (cap c) q s hq
        go_wp2_with fail
        refine (rrtext_any b o s q c _ hq hs hc HRq.out).mono ?_
        rintro e w2 ⟨rfl, hr2, ho2⟩
        rcases ht with ⟨e, he, he2, ht⟩ | ⟨a, z, g1, g2, g3, ht⟩
        · have HE := Lib.hid (show lRes (cap c) s n q0 = ([], e, q) by rw [HL.out, HN1.out, lRes_err ht he, pre_err _ he])
          rw [ht] at hr2 ⊢
          have te : ((e : Int) != 0) = true := bne_iff_ne.2 (by omega)
          have h2 := hr2.at_
          have h3 := hr2.free
          have HR2 := Lib.hid hr2
          have HO2 := Lib.hid ho2
          have HEE := Lib.hid he
          clear hr2 ho2 ht he
          unfold tEnd
          go_wp2_with fail
          go_ret3
          rw [tsRes_in HUU.out HE.out HEE.out]
          exact ⟨_, rfl, OwnT.nil _ _, HR2.out.set k, (HB.out.trans (But.of_only HO2.out)).set _ _⟩
        · have HE := Lib.hid (show lRes (cap c) s n q0 = pre (L ++ [s.extract a z]) (lRes (cap c) s (n - (j + 1)) z) by rw [HL.out, HN1.out, lRes_ok ht, pre_pre])
          rw [ht] at hr2 ⊢
          have HR2 := Lib.hid hr2
          have HB2 := Lib.hid (HB.out.trans (But.of_only ho2))
          have hown := HOT.out.but (But.of_only ho2) hbw
          unfold OwnT at hown
          rw [HLj.out] at hown
          clear hr2 ho2 ht
          unfold tEnd
          dsimp only
          generalize s.extract a z = x at *
          go_wp2_with (at_builtin; refine wpList_append_own _ rfl _ _ 23 rfl w.heap.size 9 i0 (.string ⟨#[]⟩) 1 16 Tryd.underlying23 hi hz0 hz1 hz2 rfl (by decide) _ _ _ rfl (hown.alloc _) ⟨w2.heap.size, 0, none⟩ 1 1 [.string x] rfl rfl ?c1 ?c2 ?c3 ?c4 ?c5 ?_)
          first | (case c1 => exact cell_one _ _ _) | skip
          case c2 => first | exact one_text _ | rfl
          case c3 => unfold maxLen; omega
          case c4 => omega
          case c5 => have := HB2.out.size; simp; omega
          intro v' w3 hown' hg _
          have hB3 : Below w.heap.size w2 w3 := (((Below.refl _ _).alloc HB2.out.size _)).grown hg (by have := HB2.out.size; simp; omega) (fun g hg => (hown.lt g hg).1)
          have hO3 := own_text_snoc hown' HLj.out.symm
          have H3 := Lib.hid hB3
          have HO3 := Lib.hid hO3
          clear hown' hg hB3 hown hO3
          go_wp2_with fail
          go_roundw
          case rel => exact ⟨j + 1, z, L ++ [x], by omega, by go_num, g2, Lib.hid (by rw [List.length_append, HLj.out]; rfl), HE, HO3, Lib.hid (HR2.out.below H3.out hbw), Lib.hid (HB2.out.then_below H3.out)⟩
          case measure => simp [intOf]; omega
      · have hdec : decide (j < n) = false := by simpa using hlt
        have HE := Lib.hid (show lRes (cap c) s n q0 = (L, 0, q) by rw [HL.out, show n - j = 0 by omega, lRes_zero, pre_ok])
        go_wp2_with fail
        go_ret3
        rw [tsRes_ok HUU.out HE.out]
        exact ⟨_, rfl, HOT.out, HRq.out, HB.out⟩
end CodeC
end Go.Proofs.YtgjcbcakmcgjhaaDoor
