/-
  Package code's reader: words, bytes; a reader that is not there.
-/
import Derived.Test.YtgjcbcakmcgjhaaDoorCodeR5
import Derived.Deep.QuietTactic
namespace Go.Proofs.YtgjcbcakmcgjhaaDoor
open Go.RowKit
namespace CodeC
open CodeM ErrC

theorem take_at (s : ByteArray) (i : Nat) (h : i < s.size) : s.data.toList.take (i + 1) = s.data.toList.take i ++ [s[i]] := by
  rw [List.take_succ_eq_append_getElem (by simpa using h)]; rfl

set_option maxHeartbeats 2000000 in
theorem rword_is (b o : Nat) (s : ByteArray) (k : Nat) (w : World) (hk : k ≤ s.size) (hs : s.size ≤ 4611686018427387904) (hr : IsRdr w b o s k) :
    Calls Tryd.prog 22 #[.pointer (some ⟨b, o, none⟩)] w
      (MethE (.int .u64 (wRes k s).1) (wRes k s).2.1 k (wRes k s).2.2.2 b o s w) := by
  have hlt := hr.lt
  have HR := Lib.hid hr; clear hr
  by_cases h8 : s.size - k < 8
  · rw [wRes_short h8]
    go_enter Tryd.func22, Tryd.ntmps22
    go_wp2_with fail
    refine (beg_is b o s k _ HR.out).mono ?_
    rintro e w1 ⟨rfl, hg⟩
    have HG := Lib.hid hg; clear hg
    unfold endF
    go_wp2_with fail
    refine (piece_short b o s k 8 _ hk hs h8 (HR.out.below HG.out.below hlt)).mono ?_
    rintro e w2 ⟨rfl, q, rfl⟩
    have HG2 := Lib.hid (HG.out.only (((But.refl b _).drewN q)) hlt)
    have HB2 := Lib.hid ((But.of_below HG.out.below).trans ((But.refl b _).drewN q))
    have HR2 := Lib.hid ((HR.out.below HG.out.below hlt).drewN q)
    unfold pEnd
    go_wp2_with fail
    refine wp_loop_rounds 1 ?_; rw [rounds_succ]; go_wp2_with fail
    refine (fin_any w.heap.size b o s _ k 20 _ w rfl hlt HG2.out HR2.out).mono ?_
    rintro e w3 ⟨ev, rfl, he, hr3, hb3⟩
    have HE := Lib.hid he; clear he
    have HR3 := Lib.hid hr3; clear hr3
    have HB3 := Lib.hid hb3; clear hb3
    go_wp2_with fail
    go_ret2
    exact ⟨_, rfl, HE.out, by simpa using HR3.out, HB2.out.trans HB3.out⟩
  · rw [wRes_ok h8]
    have hS : (s.extract k (k + 8)).data.toList = (s.data.toList.drop k).take 8 := by rw [Lib.extract_data]; congr 1; omega
    have hSs : (s.extract k (k + 8)).size = 8 := by simp; omega
    have HS := Lib.hid hS; clear hS
    go_enter Tryd.func22, Tryd.ntmps22
    go_wp2_with fail
    refine (beg_is b o s k _ HR.out).mono ?_
    rintro e w1 ⟨rfl, hg⟩
    have HG := Lib.hid hg; clear hg
    unfold endF
    go_wp2_with fail
    refine (piece_ok b o s k 8 _ (by omega) hs (HR.out.below HG.out.below hlt)).mono ?_
    rintro e w2 ⟨rfl, hr2, ho2⟩
    have HG2 := Lib.hid (HG.out.only (But.of_only ho2) hlt)
    have HB2 := Lib.hid ((But.of_below HG.out.below).trans (But.of_only ho2))
    have HR2 := Lib.hid hr2
    clear hr2 ho2
    unfold pEnd
    generalize s.extract k (k + 8) = S at *
    have hl : S.size ≤ 8 := by omega
    have hl2 : 8 ≤ S.size := by omega
    clear hSs
    go_wp2_with fail
    go_loopw [7, 18] (fun vx vi wr => ∃ (i x : Nat), i ≤ 8 ∧ vi = .int .i64 i ∧ vx = .int .u64 x ∧ x < 256 ^ i ∧ Hid (x = wv 0 (S.data.toList.take i)) ∧ wr = w2) (fun _ vi _ => 8 - (intOf vi).toNat)
    case atStart => exact ⟨0, 0, by omega, rfl, rfl, by decide, Lib.hid rfl, rfl⟩
    case round =>
      obtain ⟨i, x, hi, rfl, rfl, hx, HX, rfl⟩ := hrel
      by_cases hi8 : i < 8
      · have hiS : i < S.size := by omega
        have hdec : decide (i < S.size) = true := by simpa using hiS
        have hidx := idx_one S i hiS
        have hc := S[i].toNat_lt
        have htk := take_at S i hiS
        have HT := Lib.hid htk; clear htk
        have hx7 : x < 72057594037927936 := Nat.lt_of_lt_of_le hx (Nat.le_trans (Nat.pow_le_pow_right (by decide) (show i ≤ 7 by omega)) (by decide))
        have hob := or_byte x S[i].toNat hx7 hc
        have hnx : x * 256 + S[i].toNat < 256 ^ (i + 1) := by rw [Nat.pow_succ]; omega
        have HNX := Lib.hid hnx
        have HXX := Lib.hid hx
        clear hnx hx
        generalize S[i] = c at *
        go_wp2_with fail
        go_roundw
        case rel => exact ⟨i + 1, x * 256 + c.toNat, by omega, by go_num, by go_num, HNX.out, Lib.hid (by rw [HT.out, wv_snoc, HX.out]), by first | rfl | trivial⟩
        case measure => simp [intOf]; omega
      · obtain rfl : i = 8 := by omega
        have hdec : decide (8 < S.size) = false := by simp; omega
        go_wp2_with fail
        refine (fin_any w.heap.size b o s _ k 0 _ w rfl hlt HG2.out HR2.out).mono ?_
        rintro e w3 ⟨ev, rfl, he, hr3, hb3⟩
        have HE := Lib.hid he; clear he
        have HR3 := Lib.hid hr3; clear hr3
        have HB3 := Lib.hid hb3; clear hb3
        go_wp2_with fail
        go_ret2
        have ex : x = wv 0 ((s.data.toList.drop k).take 8) := by rw [HX.out, HS.out, List.take_take]; rfl
        exact ⟨_, by rw [← ex]; rfl, HE.out, by simpa using HR3.out, HB2.out.trans HB3.out⟩

/-- what Byte answers: the byte, the error, the place behind -/
def bRes (k : Nat) (s : ByteArray) : Nat × Nat × Nat := if h : k < s.size then (s[k].toNat, 0, k + 1) else (0, 20, k)
set_option maxHeartbeats 2000000 in
theorem rbyte_is (b o : Nat) (s : ByteArray) (k : Nat) (w : World) (hk : k ≤ s.size) (hs : s.size ≤ 4611686018427387904) (hr : IsRdr w b o s k) :
    Calls Tryd.prog 31 #[.pointer (some ⟨b, o, none⟩)] w
      (MethE (.int .u8 (bRes k s).1) (bRes k s).2.1 k (bRes k s).2.2 b o s w) := by
  have hlt := hr.lt
  have HR := Lib.hid hr; clear hr
  by_cases h1 : k < s.size
  · obtain ⟨c, hc⟩ : ∃ c, c = s[k] := ⟨_, rfl⟩
    have e1 : bRes k s = (c.toNat, 0, k + 1) := by rw [hc]; simp [bRes, h1]
    rw [e1]
    clear e1
    have hS : s.extract k (k + 1) = ⟨#[c]⟩ := by
      apply ByteArray.ext
      apply Array.toList_inj.1
      rw [Lib.extract_data, drop_cons s k h1, show k + 1 - k = 1 by omega, hc]
      simp
    clear hc
    have HS := Lib.hid hS; clear hS
    have hidx : ∀ (c : UInt8) (w : World), (Instr.index 9 (.string ⟨#[c]⟩) (.int .i64 0)).run Tryd.prog w = .ok (.int .u8 (c.toNat : Int)) w := by
      intro c w
      exact idx_one ⟨#[c]⟩ 0 (by show 0 < 1; decide) w
    go_enter Tryd.func31, Tryd.ntmps31
    go_wp2_with fail
    refine (beg_is b o s k _ HR.out).mono ?_
    rintro e w1 ⟨rfl, hg⟩
    have HG := Lib.hid hg; clear hg
    unfold endF
    go_wp2_with fail
    refine (piece_ok b o s k 1 _ (by omega) hs (HR.out.below HG.out.below hlt)).mono ?_
    rintro e w2 ⟨rfl, hr2, ho2⟩
    have HG2 := Lib.hid (HG.out.only (But.of_only ho2) hlt)
    have HB2 := Lib.hid ((But.of_below HG.out.below).trans (But.of_only ho2))
    have HR2 := Lib.hid hr2
    clear hr2 ho2
    unfold pEnd
    rw [HS.out]
    have hend := fun q => end_ok w.heap.size b o s (k + 1) (w2.drewN q) (by simpa using HG2.out.1) (HR2.out.drewN q)
    have HEND := Lib.hid hend; clear hend
    go_wp2_with fail
    go_quiet ((go_at_call 43; exact Calls.quiet_of_same ((HEND.out _).mono fun _ _ ⟨he, hw⟩ => ⟨he, hw.symm⟩)))
    go_wp2_with fail
    go_ret2
    exact ⟨_, rfl, Or.inl ⟨rfl, rfl⟩, HR2.out.drewN _, HB2.out.drewN _⟩
  · have e1 : bRes k s = (0, 20, k) := by simp [bRes, h1]
    rw [e1]
    clear e1
    go_enter Tryd.func31, Tryd.ntmps31
    go_wp2_with fail
    refine (beg_is b o s k _ HR.out).mono ?_
    rintro e w1 ⟨rfl, hg⟩
    have HG := Lib.hid hg; clear hg
    unfold endF
    go_wp2_with fail
    refine (piece_short b o s k 1 _ hk hs (by omega) (HR.out.below HG.out.below hlt)).mono ?_
    rintro e w2 ⟨rfl, q, rfl⟩
    have HG2 := Lib.hid (HG.out.only (((But.refl b _).drewN q)) hlt)
    have HB2 := Lib.hid ((But.of_below HG.out.below).trans ((But.refl b _).drewN q))
    have HR2 := Lib.hid ((HR.out.below HG.out.below hlt).drewN q)
    unfold pEnd
    go_wp2_with fail
    refine (fin_any w.heap.size b o s _ k 20 _ w rfl hlt HG2.out HR2.out).mono ?_
    rintro e w3 ⟨ev, rfl, he, hr3, hb3⟩
    have HE := Lib.hid he; clear he
    have HR3 := Lib.hid hr3; clear hr3
    have HB3 := Lib.hid hb3; clear hb3
    go_wp2_with fail
    go_ret2
    exact ⟨_, rfl, HE.out, by simpa using HR3.out, HB2.out.trans HB3.out⟩

/-! ### a reader that is not there -/
/-- the fault of a call of what is not there -/
def NilE (ev : Value) (w w' : World) : Prop := ∃ f, ev = .iface 88 (.pointer (some ⟨f, 0, none⟩)) ∧ w.heap.size ≤ f ∧ IsFault w' f 0 1 ⟨#[]⟩ (-1) ∧ Below w.heap.size w w'
theorem fin_none (n : Nat) (c : Int) (w w0 : World) (hc : w.cell? ⟨n, 0, none⟩ = some (.pointer none)) (hb : Below w0.heap.size w0 w) :
    Calls Tryd.prog 43 #[.int .i64 c, .pointer (some ⟨n, 0, none⟩), .pointer (some ⟨n + 1, 0, none⟩)] w fun e w' => ∃ ev, e = .returned ev ∧ NilE ev w0 w' := by
  refine (end_none n c w hc).mono ?_
  rintro e w' ⟨rfl, rfl⟩
  refine ⟨_, rfl, _, rfl, hb.size, ⟨?_, ?_, ?_, ?_⟩, hb.alloc hb.size _⟩
  · rw [World.cell?_alloc_at _ _ _ _ rfl]; rfl
  · rw [World.cell?_alloc_at _ _ _ _ rfl]; rfl
  · rw [World.cell?_alloc_at _ _ _ _ rfl]; rfl
  · rw [World.cell?_alloc_at _ _ _ _ rfl]; rfl
theorem beg_none (w : World) :
    Calls Tryd.prog 36 #[.pointer none] w fun e w' => e = .returned (endF w.heap.size) ∧ Begun w w' (.pointer none) 0 := by
  refine (begin_none w).mono ?_
  rintro e w' ⟨rfl, rfl⟩
  refine ⟨rfl, ?_, ?_, ?_⟩
  · rw [World.cell?_alloc_lt _ _ _ (by simp)]; simp
  · rw [World.cell?_alloc_at _ _ _ _ (by simp)]; rfl
  · exact ((Below.refl _ _).alloc (Nat.le_refl _) _).alloc (by simp) _
theorem ruint_nil (most : Nat) (w : World) : Calls Tryd.prog 21 #[.pointer none, .int .u64 most] w fun e w' => ∃ ev, e = .returned (.tuple #[.int .u64 0, ev]) ∧ NilE ev w w' := by
  go_enter Tryd.func21, Tryd.ntmps21
  go_wp2_with fail
  refine (beg_none _).mono ?_
  rintro e w1 ⟨rfl, hg⟩
  have HG := Lib.hid hg; clear hg
  unfold endF
  go_wp2_with fail
  refine (num_none _ _).mono ?_
  rintro e w' ⟨rfl, rfl⟩
  unfold nEnd
  go_wp2_with fail
  refine (fin_none w.heap.size _ _ w HG.out.rdr HG.out.below).mono ?_
  rintro e w3 ⟨ev, rfl, he⟩
  have HE := Lib.hid he; clear he
  go_wp2_with fail
  go_ret2
  exact ⟨_, rfl, HE.out⟩
theorem rtext_nil (m : Int) (w : World) (h : m ≤ 9223372036854775807) : Calls Tryd.prog 23 #[.pointer none, .int .i64 m] w fun e w' => ∃ ev, e = .returned (.tuple #[.string ⟨#[]⟩, ev]) ∧ NilE ev w w' := by
  go_enter Tryd.func23, Tryd.ntmps23
  go_wp2_with fail
  refine (beg_none _).mono ?_
  rintro e w1 ⟨rfl, hg⟩
  have HG := Lib.hid hg; clear hg
  unfold endF
  go_wp2_with fail
  refine (one_none m _ h).mono ?_
  rintro e w' ⟨rfl, rfl⟩
  unfold pEnd
  go_wp2_with fail
  refine (fin_none w.heap.size _ _ w HG.out.rdr HG.out.below).mono ?_
  rintro e w3 ⟨ev, rfl, he⟩
  have HE := Lib.hid he; clear he
  go_wp2_with fail
  go_ret2
  exact ⟨_, rfl, HE.out⟩
theorem rend_nil (w : World) : Calls Tryd.prog 25 #[.pointer none] w fun e w' => ∃ ev, e = .returned ev ∧ NilE ev w w' := by
  go_enter Tryd.func25, Tryd.ntmps25
  go_wp2_with fail
  refine (beg_none _).mono ?_
  rintro e w1 ⟨rfl, hg⟩
  have HG := Lib.hid hg; clear hg
  unfold endF
  go_wp2_with fail
  refine (rest_none _).mono ?_
  rintro e w' ⟨rfl, rfl⟩
  go_wp2_with fail
  refine (fin_none w.heap.size _ _ w HG.out.rdr HG.out.below).mono ?_
  rintro e w3 ⟨ev, rfl, he⟩
  have HE := Lib.hid he; clear he
  go_wp2_with fail
  go_ret
  exact ⟨_, rfl, HE.out⟩
end CodeC
end Go.Proofs.YtgjcbcakmcgjhaaDoor
