/-
  What the proof of EvBoth stands on, part 24.
-/
import Derived.Test.YtfbegbmjmhnplaaGreatDoorT23
set_option linter.unusedSimpArgs false
set_option linter.unusedVariables false
set_option maxHeartbeats 16000000
namespace Go.Proofs.YtfbegbmjmhnplaaGreatDoor
open Go.Lib (hid)
section
open Go.RowKit
namespace CodeC
open CodeM ErrC
structure Begun (w w' : World) (r : Value) (k : Nat) : Prop where
 rdr : w'.cell? ⟨w.heap.size, 0, none⟩ = some r
 from_ : w'.cell? ⟨w.heap.size + 1, 0, none⟩ = some (.int .i64 k)
 below : Below w.heap.size w w'
theorem Begun.only {w w1 w2 : World} {r : Value} {k b : Nat} (h : Begun w w1 r k) (ho : But b w1 w2) (hb : b < w.heap.size) :
 w2.cell? ⟨w.heap.size, 0, none⟩ = some r ∧ w2.cell? ⟨w.heap.size + 1, 0, none⟩ = some (.int .i64 k) ∧ w.heap.size ≤ w2.heap.size := by
 have l1 := World.block_lt_of_cell? _ _ h.rdr
 have l2 := World.block_lt_of_cell? _ _ h.from_
 exact ⟨by rw [ho.cell l1 (by show w.heap.size ≠ b; omega)]; exact h.rdr, by rw [ho.cell l2 (by show w.heap.size + 1 ≠ b; omega)]; exact h.from_, Nat.le_trans h.below.size ho.size⟩
theorem zuw (b o : Nat) (s : ByteArray) (k : Nat) (w : World) (hr : IsRdr w b o s k) :
 Calls Tryz.prog 85 #[.pointer (some ⟨b, o, none⟩)] w fun e w' => e = .returned (endF w.heap.size) ∧ Begun w w' (.pointer (some ⟨b, o, none⟩)) k := by
 refine (zue b o s k w hr).mono ?_
 rintro e w' ⟨rfl, rfl⟩
 refine ⟨rfl, ?_, ?_, ?_⟩
 · rw [World.cell?_alloc_lt _ _ _ (by simp)]; simp
 · rw [World.cell?_alloc_at _ _ _ _ (by simp)]; rfl
 · exact ((Below.refl _ _).alloc (Nat.le_refl _) _).alloc (by simp) _
def MethE (val : Value) (er k q b o : Nat) (s : ByteArray) (w : World) (e : Ending) (w' : World) : Prop :=
 ∃ ev, e = .returned (.tuple #[val, ev]) ∧ IsErr w w' ev er k ∧ IsRdr w' b o s q ∧ But b w w'
def EndE (er k q b o : Nat) (s : ByteArray) (w : World) (e : Ending) (w' : World) : Prop :=
 ∃ ev, e = .returned ev ∧ IsErr w w' ev er k ∧ IsRdr w' b o s q ∧ But b w w'
theorem zux (n b o : Nat) (s : ByteArray) (k k0 c : Nat) (w w0 : World) (hn : n = w0.heap.size) (hb : b < n) (hg : w.cell? ⟨w0.heap.size, 0, none⟩ = some (.pointer (some ⟨b, o, none⟩)) ∧ w.cell? ⟨w0.heap.size + 1, 0, none⟩ = some (.int .i64 k0) ∧ w0.heap.size ≤ w.heap.size) (hr : IsRdr w b o s k) :
 Calls Tryz.prog 123 #[.int .i64 c, .pointer (some ⟨n, 0, none⟩), .pointer (some ⟨n + 1, 0, none⟩)] w fun e w' =>
  ∃ ev, e = .returned ev ∧ IsErr w0 w' ev c k0 ∧ IsRdr w' b o s (if c = 0 then k else k0) ∧ But b w w' := by
 subst hn
 by_cases h0 : c = 0
 · subst h0
   refine (zuf _ b o s k w hg.1 hr).mono ?_
   rintro e w' ⟨rfl, rfl⟩
   exact ⟨_, rfl, Or.inl ⟨rfl, rfl⟩, by simpa using hr, But.refl _ _⟩
 · refine (end_err _ b o s k k0 c w h0 hg.1 hg.2.1 hr).mono ?_
   rintro e w' ⟨rfl, rfl⟩
   have hs := hg.2.2
   have hlt := hr.lt
   have e4 : (w.setCell ⟨b, o + 2, none⟩ (.int .i64 k0)).heap.size = w.heap.size := by simp
   refine ⟨_, rfl, Or.inr ⟨h0, _, rfl, hs, ?_, ?_, ?_, ?_⟩, ?_, ((But.refl _ _).set _ _).alloc _⟩
   · rw [World.cell?_alloc_at _ _ _ _ (by simp)]; rfl
   · rw [World.cell?_alloc_at _ _ _ _ (by simp)]; rfl
   · rw [World.cell?_alloc_at _ _ _ _ (by simp)]; rfl
   · rw [World.cell?_alloc_at _ _ _ _ (by simp)]; rfl
   · rw [if_neg h0]
     exact (hr.put _ k0 rfl).below ((Below.refl _ _).alloc (Nat.le_refl _) _) (by rw [e4]; exact hlt)
theorem zuy (b o : Nat) (s : ByteArray) (k : Nat) (most : Nat) (w : World) (hk : k ≤ s.size) (hs : s.size ≤ 4611686018427387904) (hm : most < 18446744073709551616) (hr : IsRdr w b o s k) :
 Calls Tryz.prog 84 #[.pointer (some ⟨b, o, none⟩), .int .u64 most] w
  (MethE (.int .u64 (uRes most k (s.data.toList.drop k)).1) (uRes most k (s.data.toList.drop k)).2.1 k (uRes most k (s.data.toList.drop k)).2.2.2 b o s w) := by
 have hlt := hr.lt
 have HR := hid hr; clear hr
 have hu := zmv most k s hk
 go_enter Tryz.func84, Tryz.ntmps84
 go_wp2_with fail
 refine (zuw b o s k _ HR.out).mono ?_
 rintro e w1 ⟨rfl, hg⟩
 have HG := hid hg; clear hg
 unfold endF
 go_wp2_with fail
 refine (zum b o s k most _ hk hs hm (HR.out.below HG.out.below hlt)).mono ?_
 rintro e w2 ⟨rfl, hr2, ho2⟩
 have HG2 := hid (HG.out.only (But.of_only ho2) hlt)
 have HB2 := hid ((But.of_below HG.out.below).trans (But.of_only ho2))
 have HR2 := hid hr2
 clear ho2 hr2
 unfold nEnd
 go_wp2_with fail
 refine (zux w.heap.size b o s _ k _ _ w rfl hlt HG2.out HR2.out).mono ?_
 rintro e w3 ⟨ev, rfl, he, hr3, hb3⟩
 have HE := hid he; clear he
 have HR3 := hid hr3; clear hr3
 have HB3 := hid hb3; clear hb3
 go_wp2_with fail
 go_ret2
 refine ⟨_, rfl, HE.out, ?_, HB2.out.trans HB3.out⟩
 have h := HR3.out
 rcases hu with ⟨e, he, he2, hu⟩ | ⟨v, d, hv, hd, hu⟩
 · rw [hu] at h ⊢; simpa [he] using h
 · rw [hu] at h ⊢; simpa using h
theorem zuz (b o : Nat) (s : ByteArray) (k : Nat) (m : Int) (w : World) (hk : k ≤ s.size) (hs : s.size ≤ 4611686018427387904) (hm : m ≤ 9223372036854775807) (hr : IsRdr w b o s k) :
 Calls Tryz.prog 82 #[.pointer (some ⟨b, o, none⟩), .int .i64 m] w
  (MethE (.string (s.extract (tRes (cap m) k s).1 (tRes (cap m) k s).2.1)) (tRes (cap m) k s).2.2.1 k (tRes (cap m) k s).2.2.2.2 b o s w) := by
 have hlt := hr.lt
 have HR := hid hr; clear hr
 have hu := zur (cap m) k s hk
 go_enter Tryz.func82, Tryz.ntmps82
 go_wp2_with fail
 refine (zuw b o s k _ HR.out).mono ?_
 rintro e w1 ⟨rfl, hg⟩
 have HG := hid hg; clear hg
 unfold endF
 go_wp2_with fail
 refine (one_is b o s k m _ hk hs hm (HR.out.below HG.out.below hlt)).mono ?_
 rintro e w2 ⟨rfl, ho2, k2, hk2, hr2, hz2⟩
 have HG2 := hid (HG.out.only (But.of_only ho2) hlt)
 have HB2 := hid ((But.of_below HG.out.below).trans (But.of_only ho2))
 have HR2 := hid hr2
 have HZ2 := hid hz2
 clear ho2 hr2 hz2
 unfold pEnd
 go_wp2_with fail
 refine (zux w.heap.size b o s _ k _ _ w rfl hlt HG2.out HR2.out).mono ?_
 rintro e w3 ⟨ev, rfl, he, hr3, hb3⟩
 have HE := hid he; clear he
 have HR3 := hid hr3; clear hr3
 have HB3 := hid hb3; clear hb3
 go_wp2_with fail
 go_ret2
 refine ⟨_, rfl, HE.out, ?_, HB2.out.trans HB3.out⟩
 have h := HR3.out
 have hz := HZ2.out
 rcases hu with ⟨e, he, he2, hu⟩ | ⟨a, q, h1, h2, h3, hu⟩
 · rw [hu] at h ⊢; simpa [he] using h
 · rw [hu] at h hz ⊢
   have := hz rfl
   simp only at this
   subst this
   simpa using h
def endC (k : Nat) (s : ByteArray) : Nat := if k < s.size then 23 else 0
theorem rend_is (b o : Nat) (s : ByteArray) (k : Nat) (w : World) (hk : k ≤ s.size) (hr : IsRdr w b o s k) :
 Calls Tryz.prog 36 #[.pointer (some ⟨b, o, none⟩)] w (EndE (endC k s) k k b o s w) := by
 have hlt := hr.lt
 have HR := hid hr; clear hr
 obtain ⟨-, hRs⟩ := zuj s k
 have HRs := hid hRs; clear hRs
 by_cases hz : k < s.size
 · have HC : endC k s = 23 := by unfold endC; simp [hz]
   rw [HC]
   clear HC
   go_enter Tryz.func36, Tryz.ntmps36
   go_wp2_with fail
   refine (zuw b o s k _ HR.out).mono ?_
   rintro e w1 ⟨rfl, hg⟩
   have HG := hid hg; clear hg
   unfold endF
   go_wp2_with fail
   refine (zud b o s k _ hk (HR.out.below HG.out.below hlt)).mono ?_
   rintro e w2 ⟨rfl, q, rfl⟩
   generalize s.extract k s.size = R at *
   have HG2 := hid (HG.out.only (((But.refl b _).drewN q)) hlt)
   have HB2 := hid ((But.of_below HG.out.below).trans ((But.refl b _).drewN q))
   have HR2 := hid ((HR.out.below HG.out.below hlt).drewN q)
   have h1 : R.toList.isEmpty = false := by
    rw [ByteArray.toList_eq]
    cases e : R.data.toList with
    | nil =>
       have e2 : R.data.toList.length = R.size := by simp
       rw [e] at e2; have := HRs.out; simp at e2; omega
    | cons x r => rfl
   go_wp2_with fail
   refine (zux w.heap.size b o s _ k 23 _ w rfl hlt HG2.out HR2.out).mono ?_
   rintro e w3 ⟨ev, rfl, he, hr3, hb3⟩
   have HE := hid he; clear he
   have HR3 := hid hr3; clear hr3
   have HB3 := hid hb3; clear hb3
   go_wp2_with fail
   go_ret
   exact ⟨_, rfl, HE.out, by simpa using HR3.out, HB2.out.trans HB3.out⟩
 · have HC : endC k s = 0 := by unfold endC; simp [hz]
   rw [HC]
   clear HC
   go_enter Tryz.func36, Tryz.ntmps36
   go_wp2_with fail
   refine (zuw b o s k _ HR.out).mono ?_
   rintro e w1 ⟨rfl, hg⟩
   have HG := hid hg; clear hg
   unfold endF
   go_wp2_with fail
   refine (zud b o s k _ hk (HR.out.below HG.out.below hlt)).mono ?_
   rintro e w2 ⟨rfl, q, rfl⟩
   generalize s.extract k s.size = R at *
   have HG2 := hid (HG.out.only (((But.refl b _).drewN q)) hlt)
   have HB2 := hid ((But.of_below HG.out.below).trans ((But.refl b _).drewN q))
   have HR2 := hid ((HR.out.below HG.out.below hlt).drewN q)
   have h1 : R.toList = [] := by
    rw [ByteArray.toList_eq]
    have e2 : R.data.toList.length = R.size := by simp
    have := HRs.out
    exact List.eq_nil_of_length_eq_zero (by omega)
   have h2 : R.toList.isEmpty = true := by rw [h1]; rfl
   go_wp2_with fail
   refine (zux w.heap.size b o s _ k 0 _ w rfl hlt HG2.out HR2.out).mono ?_
   rintro e w3 ⟨ev, rfl, he, hr3, hb3⟩
   have HE := hid he; clear he
   have HR3 := hid hr3; clear hr3
   have HB3 := hid hb3; clear hb3
   go_wp2_with fail
   go_ret
   exact ⟨_, rfl, HE.out, by simpa using HR3.out, HB2.out.trans HB3.out⟩
end CodeC
end
section
open Go.RowKit
namespace CodeC
open CodeM ErrC
theorem take_at (s : ByteArray) (i : Nat) (h : i < s.size) : s.data.toList.take (i + 1) = s.data.toList.take i ++ [s[i]] := by
 rw [List.take_succ_eq_append_getElem (by simpa using h)]; rfl
theorem zva (b o : Nat) (s : ByteArray) (k : Nat) (w : World) (hk : k ≤ s.size) (hs : s.size ≤ 4611686018427387904) (hr : IsRdr w b o s k) :
 Calls Tryz.prog 83 #[.pointer (some ⟨b, o, none⟩)] w
  (MethE (.int .u64 (wRes k s).1) (wRes k s).2.1 k (wRes k s).2.2.2 b o s w) := by
 have hlt := hr.lt
 have HR := hid hr; clear hr
 by_cases h8 : s.size - k < 8
 · rw [zuu h8]
   go_enter Tryz.func83, Tryz.ntmps83
   go_wp2_with fail
   refine (zuw b o s k _ HR.out).mono ?_
   rintro e w1 ⟨rfl, hg⟩
   have HG := hid hg; clear hg
   unfold endF
   go_wp2_with fail
   refine (zup b o s k 8 _ hk hs h8 (HR.out.below HG.out.below hlt)).mono ?_
   rintro e w2 ⟨rfl, q, rfl⟩
   have HG2 := hid (HG.out.only (((But.refl b _).drewN q)) hlt)
   have HB2 := hid ((But.of_below HG.out.below).trans ((But.refl b _).drewN q))
   have HR2 := hid ((HR.out.below HG.out.below hlt).drewN q)
   unfold pEnd
   go_wp2_with fail
   refine wp_loop_rounds 1 ?_; rw [rounds_succ]; go_wp2_with fail
   refine (zux w.heap.size b o s _ k 20 _ w rfl hlt HG2.out HR2.out).mono ?_
   rintro e w3 ⟨ev, rfl, he, hr3, hb3⟩
   have HE := hid he; clear he
   have HR3 := hid hr3; clear hr3
   have HB3 := hid hb3; clear hb3
   go_wp2_with fail
   go_ret2
   exact ⟨_, rfl, HE.out, by simpa using HR3.out, HB2.out.trans HB3.out⟩
 · rw [zuv h8]
   have hS : (s.extract k (k + 8)).data.toList = (s.data.toList.drop k).take 8 := by rw [Lib.extract_data]; congr 1; omega
   have hSs : (s.extract k (k + 8)).size = 8 := by simp; omega
   have HS := hid hS; clear hS
   go_enter Tryz.func83, Tryz.ntmps83
   go_wp2_with fail
   refine (zuw b o s k _ HR.out).mono ?_
   rintro e w1 ⟨rfl, hg⟩
   have HG := hid hg; clear hg
   unfold endF
   go_wp2_with fail
   refine (zuq b o s k 8 _ (by omega) hs (HR.out.below HG.out.below hlt)).mono ?_
   rintro e w2 ⟨rfl, hr2, ho2⟩
   have HG2 := hid (HG.out.only (But.of_only ho2) hlt)
   have HB2 := hid ((But.of_below HG.out.below).trans (But.of_only ho2))
   have HR2 := hid hr2
   clear hr2 ho2
   unfold pEnd
   generalize s.extract k (k + 8) = S at *
   have hl : S.size ≤ 8 := by omega
   have hl2 : 8 ≤ S.size := by omega
   clear hSs
   go_wp2_with fail
   go_loopw [7, 18] (fun vx vi wr => ∃ (i x : Nat), i ≤ 8 ∧ vi = .int .i64 i ∧ vx = .int .u64 x ∧ x < 256 ^ i ∧ Hid (x = wv 0 (S.data.toList.take i)) ∧ wr = w2) (fun _ vi _ => 8 - (intOf vi).toNat)
   case atStart => exact ⟨0, 0, by omega, rfl, rfl, by decide, hid rfl, rfl⟩
   case round =>
    obtain ⟨i, x, hi, rfl, rfl, hx, HX, rfl⟩ := hrel
    by_cases hi8 : i < 8
    · have hiS : i < S.size := by omega
      have hdec : decide (i < S.size) = true := by simpa using hiS
      have hidx := ztr S i hiS
      have hc := S[i].toNat_lt
      have htk := take_at S i hiS
      have HT := hid htk; clear htk
      have hx7 : x < 72057594037927936 := Nat.lt_of_lt_of_le hx (Nat.le_trans (Nat.pow_le_pow_right (by decide) (show i ≤ 7 by omega)) (by decide))
      have hob := or_byte x S[i].toNat hx7 hc
      have hnx : x * 256 + S[i].toNat < 256 ^ (i + 1) := by rw [Nat.pow_succ]; omega
      have HNX := hid hnx
      have HXX := hid hx
      clear hnx hx
      generalize S[i] = c at *
      go_wp2_with fail
      go_roundw
      case rel => exact ⟨i + 1, x * 256 + c.toNat, by omega, by go_num, by go_num, HNX.out, hid (by rw [HT.out, wv_snoc, HX.out]), by first | rfl | trivial⟩
      case measure => simp [intOf]; omega
    · obtain rfl : i = 8 := by omega
      have hdec : decide (8 < S.size) = false := by simp; omega
      go_wp2_with fail
      refine (zux w.heap.size b o s _ k 0 _ w rfl hlt HG2.out HR2.out).mono ?_
      rintro e w3 ⟨ev, rfl, he, hr3, hb3⟩
      have HE := hid he; clear he
      have HR3 := hid hr3; clear hr3
      have HB3 := hid hb3; clear hb3
      go_wp2_with fail
      go_ret2
      have ex : x = wv 0 ((s.data.toList.drop k).take 8) := by rw [HX.out, HS.out, List.take_take]; rfl
      exact ⟨_, by rw [← ex]; rfl, HE.out, by simpa using HR3.out, HB2.out.trans HB3.out⟩
def bRes (k : Nat) (s : ByteArray) : Nat × Nat × Nat := if h : k < s.size then (s[k].toNat, 0, k + 1) else (0, 20, k)
theorem zvb (b o : Nat) (s : ByteArray) (k : Nat) (w : World) (hk : k ≤ s.size) (hs : s.size ≤ 4611686018427387904) (hr : IsRdr w b o s k) :
 Calls Tryz.prog 80 #[.pointer (some ⟨b, o, none⟩)] w
  (MethE (.int .u8 (bRes k s).1) (bRes k s).2.1 k (bRes k s).2.2 b o s w) := by
 have hlt := hr.lt
 have HR := hid hr; clear hr
 by_cases h1 : k < s.size
 · obtain ⟨c, hc⟩ : ∃ c, c = s[k] := ⟨_, rfl⟩
   have e1 : bRes k s = (c.toNat, 0, k + 1) := by rw [hc]; simp [bRes, h1]
   rw [e1]
   clear e1
   have hS : s.extract k (k + 1) = ⟨#[c]⟩ := by
    apply ByteArray.ext
    apply Array.toList_inj.1
    rw [Lib.extract_data, zmm s k h1, show k + 1 - k = 1 by omega, hc]
    simp
   clear hc
   have HS := hid hS; clear hS
   have hidx : ∀ (c : UInt8) (w : World), (Instr.index 9 (.string ⟨#[c]⟩) (.int .i64 0)).run Tryz.prog w = .ok (.int .u8 (c.toNat : Int)) w := by
    intro c w
    exact ztr ⟨#[c]⟩ 0 (by show 0 < 1; decide) w
   go_enter Tryz.func80, Tryz.ntmps80
   go_wp2_with fail
   refine (zuw b o s k _ HR.out).mono ?_
   rintro e w1 ⟨rfl, hg⟩
   have HG := hid hg; clear hg
   unfold endF
   go_wp2_with fail
   refine (zuq b o s k 1 _ (by omega) hs (HR.out.below HG.out.below hlt)).mono ?_
   rintro e w2 ⟨rfl, hr2, ho2⟩
   have HG2 := hid (HG.out.only (But.of_only ho2) hlt)
   have HB2 := hid ((But.of_below HG.out.below).trans (But.of_only ho2))
   have HR2 := hid hr2
   clear hr2 ho2
   unfold pEnd
   rw [HS.out]
   have hend := fun q => zuf w.heap.size b o s (k + 1) (w2.drewN q) (by simpa using HG2.out.1) (HR2.out.drewN q)
   have HEND := hid hend; clear hend
   go_wp2_with fail
   go_quiet ((go_at_call 123; exact Calls.quiet_of_same ((HEND.out _).mono fun _ _ ⟨he, hw⟩ => ⟨he, hw.symm⟩)))
   go_wp2_with fail
   go_ret2
   exact ⟨_, rfl, Or.inl ⟨rfl, rfl⟩, HR2.out.drewN _, HB2.out.drewN _⟩
 · have e1 : bRes k s = (0, 20, k) := by simp [bRes, h1]
   rw [e1]
   clear e1
   go_enter Tryz.func80, Tryz.ntmps80
   go_wp2_with fail
   refine (zuw b o s k _ HR.out).mono ?_
   rintro e w1 ⟨rfl, hg⟩
   have HG := hid hg; clear hg
   unfold endF
   go_wp2_with fail
   refine (zup b o s k 1 _ hk hs (by omega) (HR.out.below HG.out.below hlt)).mono ?_
   rintro e w2 ⟨rfl, q, rfl⟩
   have HG2 := hid (HG.out.only (((But.refl b _).drewN q)) hlt)
   have HB2 := hid ((But.of_below HG.out.below).trans ((But.refl b _).drewN q))
   have HR2 := hid ((HR.out.below HG.out.below hlt).drewN q)
   unfold pEnd
   go_wp2_with fail
   refine (zux w.heap.size b o s _ k 20 _ w rfl hlt HG2.out HR2.out).mono ?_
   rintro e w3 ⟨ev, rfl, he, hr3, hb3⟩
   have HE := hid he; clear he
   have HR3 := hid hr3; clear hr3
   have HB3 := hid hb3; clear hb3
   go_wp2_with fail
   go_ret2
   exact ⟨_, rfl, HE.out, by simpa using HR3.out, HB2.out.trans HB3.out⟩
end CodeC
end
section
open Go.RowKit Go.Sort
namespace EvA
open StrC EvF EvC TextR CodeM CodeC
def cutB (s : ByteArray) (a b : Nat) : B := (s.extract a b).data.toList
theorem zvc (s : ByteArray) (a b : Nat) : s.extract a b = str (cutB s a b) := zbo _
def fldR (s : ByteArray) (k : Nat) (e : EvG) (x : Int) : EvG × Nat × Nat × Nat :=
 let t := tRes 65536 k s
 let u := uRes 4294967295 k (s.data.toList.drop k)
 let v := wRes k s
 if x = 0 then ({ e with who := cutB s t.1 t.2.1 }, t.2.2.1, t.2.2.2.1, t.2.2.2.2)
 else if x = 1 then ({ e with name := cutB s t.1 t.2.1 }, t.2.2.1, t.2.2.2.1, t.2.2.2.2)
 else if x = 2 then ({ e with ver := cutB s t.1 t.2.1 }, t.2.2.1, t.2.2.2.1, t.2.2.2.2)
 else if x = 4 then ({ e with sum := v.1 }, v.2.1, v.2.2.1, v.2.2.2)
 else if x = 5 then ({ e with n := u.1 }, u.2.1, u.2.2.1, u.2.2.2)
 else if x = 6 then ({ e with size := u.1 }, u.2.1, u.2.2.1, u.2.2.2)
 else if x = 7 then ({ e with holder := cutB s t.1 t.2.1 }, t.2.2.1, t.2.2.2.1, t.2.2.2.2)
 else ({ e with note := cutB s t.1 t.2.1 }, t.2.2.1, t.2.2.2.1, t.2.2.2.2)
theorem zvd {most k : Nat} {l : List UInt8} : (uRes most k l).1 ≤ most := by
 unfold uRes
 split
 · exact Nat.zero_le _
 · split
   · exact Nat.zero_le _
   · simp; omega
abbrev zO9 : Obj := .cells #[.int .u8 0, .string ⟨#[]⟩, .string ⟨#[]⟩, .string ⟨#[]⟩, .slice none 0 0, .int .u64 0, .int .u32 0, .int .u32 0, .string ⟨#[]⟩, .string ⟨#[]⟩] 27
end EvA
end
section
open Go.RowKit Go.Sort
namespace EvA
open StrC EvF EvC TextR CodeM CodeC
def ndsR (s : ByteArray) : Nat → Nat → List (B × B) → List (B × B) × Nat × Nat × Nat
 | 0, k, P => (P, 0, 0, k)
 | n + 1, k, P =>
   let a := tRes 65536 k s
   if a.2.2.1 ≠ 0 then (P, a.2.2.1, a.2.2.2.1, a.2.2.2.2) else
   let b := tRes 65536 a.2.2.2.2 s
   if b.2.2.1 ≠ 0 then (P, b.2.2.1, b.2.2.2.1, b.2.2.2.2) else ndsR s n b.2.2.2.2 (P ++ [(cutB s a.1 a.2.1, cutB s b.1 b.2.1)])
def zve (s : ByteArray) (k : Nat) : List (B × B) × Nat × Nat × Nat :=
 let u := uRes 64 k (s.data.toList.drop k)
 if u.2.1 ≠ 0 then ([], u.2.1, u.2.2.1, u.2.2.2) else ndsR s u.1 u.2.2.2 []
theorem zvf (a b : B) : ∀ u ∈ needL (a, b), u.oneCell' = true := by
 intro u hu
 simp only [List.mem_cons, List.not_mem_nil, or_false] at hu
 rcases hu with rfl | rfl <;> rfl
theorem info_nd : (Tryz.prog.info? 63).map (fun i => (i.zero, i.size, i.bytes)) = some (some (.agg #[.string ⟨#[]⟩, .string ⟨#[]⟩]), 2, 32) := by kernel_rfl
theorem zvg {w : World} {D : Nat} {v : Value} {n : Nat} {xs : List Value} (h : w.ownsRow D 63 2 v n xs) : ∃ a m c, v = .slice a m c := by
 rcases h.2 with ⟨h1, -⟩ | ⟨g, cap, cur, e1, -⟩
 · exact ⟨_, _, _, h1⟩
 · exact ⟨_, _, _, e1⟩
end EvA
end
section
open Go.RowKit Go.Sort
namespace EvS
open StrC EvF EvC EvA TextR CodeM CodeC
structure RdF (σ : Type) where
 kind : σ → Nat × Nat × Nat × σ
 text : σ → B × Nat × Nat × σ
 span : σ → B × Nat × Nat × σ
 note : σ → B × Nat × Nat × σ
 sum : σ → Nat × Nat × Nat × σ
 num : Nat → σ → Nat × Nat × Nat × σ
structure RdFn where
 fk : FuncId
 bk : Array Value
 ck : Array Value
 ft : FuncId
 bt : Array Value
 ct : Array Value
 fs : FuncId
 bs : Array Value
 cs : Array Value
 fo : FuncId
 bo : Array Value
 co : Array Value
 fu : FuncId
 bu : Array Value
 cu : Array Value
 fn : FuncId
 bn : Array Value
 cn : Array Value
abbrev rdV (q : RdFn) : List Value := [.func (.func q.fk) q.bk q.ck, .func (.func q.ft) q.bt q.ct, .func (.func q.fs) q.bs q.cs, .func (.func q.fo) q.bo q.co, .func (.func q.fu) q.bu q.cu, .func (.func q.fn) q.bn q.cn]
abbrev rdgS (q : RdFn) : Obj := .cells (rdV q).toArray 49
structure RdOk {σ : Type} (b L : Nat) (St : World → σ → Prop) (IsE : World → World → Value → Nat → Nat → Prop) (q : RdFn) (R : RdF σ) : Prop where
 src : Src b L St IsE
 kind : Part (fun n : Nat => .int .u8 n) b L St IsE q.fk (q.bk ++ q.ck) R.kind
 text : Part (fun s : B => .string (str s)) b L St IsE q.ft (q.bt ++ q.ct) R.text
 span : Part (fun s : B => .string (str s)) b L St IsE q.fs (q.bs ++ q.cs) R.span
 note : Part (fun s : B => .string (str s)) b L St IsE q.fo (q.bo ++ q.co) R.note
 sum : Part (fun n : Nat => .int .u64 n) b L St IsE q.fu (q.bu ++ q.cu) R.sum
 n64 : Part (fun n : Nat => .int .u64 n) b L St IsE q.fn (q.bn ++ #[.int .u64 64] ++ q.cn) (R.num 64)
 n32 : Part (fun n : Nat => .int .u64 n) b L St IsE q.fn (q.bn ++ #[.int .u64 4294967295] ++ q.cn) (R.num 4294967295)
 ek : EntS q.fk
 et : EntS q.ft
 es : EntS q.fs
 eo : EntS q.fo
 eu : EntS q.fu
 en : EntS q.fn
 kle : ∀ x, (R.kind x).1 ≤ 255
 tle : ∀ x, (R.text x).1.length ≤ 140737488351232
 sle : ∀ x, (R.span x).1.length ≤ 140737488351232
 ole : ∀ x, (R.note x).1.length ≤ 140737488351232
 ule : ∀ x, (R.sum x).1 ≤ 18446744073709551615
 m64 : ∀ x, (R.num 64 x).2.1 = 0 → (R.num 64 x).1 ≤ 64
 m32 : ∀ x, (R.num 4294967295 x).1 ≤ 18446744073709551615
theorem zvh {w : World} {p : Nat} {q : RdFn} (h : w.heap[p]? = some (rdgS q)) : w.cell? ⟨p, 0, none⟩ = some (.func (.func q.fk) q.bk q.ck) ∧ w.cell? ⟨p, 1, none⟩ = some (.func (.func q.ft) q.bt q.ct) ∧ w.cell? ⟨p, 2, none⟩ = some (.func (.func q.fs) q.bs q.cs) ∧
 w.cell? ⟨p, 3, none⟩ = some (.func (.func q.fo) q.bo q.co) ∧ w.cell? ⟨p, 4, none⟩ = some (.func (.func q.fu) q.bu q.cu) ∧ w.cell? ⟨p, 5, none⟩ = some (.func (.func q.fn) q.bn q.cn) := by
 refine ⟨?_, ?_, ?_, ?_, ?_, ?_⟩ <;> simp [World.cell?, h]
def ndsF {σ : Type} (R : RdF σ) : Nat → σ → List (B × B) → List (B × B) × Nat × Nat × σ
 | 0, x, P => (P, 0, 0, x)
 | n + 1, x, P => if (R.text x).2.1 ≠ 0 then ([], (R.text x).2) else if (R.span (R.text x).2.2.2).2.1 ≠ 0 then ([], (R.span (R.text x).2.2.2).2) else ndsF R n (R.span (R.text x).2.2.2).2.2.2 (P ++ [((R.text x).1, (R.span (R.text x).2.2.2).1)])
def shortF {σ : Type} (R : RdF σ) (x : σ) : Nat × Nat × Nat × σ := ((R.num 4294967295 x).1 % 4294967296, (R.num 4294967295 x).2)
def zvi {σ : Type} (R : RdF σ) (x : σ) : List (B × B) × Nat × Nat × σ :=
 if (R.num 64 x).2.1 ≠ 0 then ([], (R.num 64 x).2) else ndsF R (R.num 64 x).1 (R.num 64 x).2.2.2 []
theorem Src.after {σ : Type} {b L : Nat} {St : World → σ → Prop} {IsE : World → World → Value → Nat → Nat → Prop} (H : Src b L St IsE) {W W' : World} {x : σ} (h : St W x) (hL : L ≤ W.heap.size) (hb : Below W.heap.size W W') : St W' x := H.stay h (fun j hj => hb.block j (by omega))
set_option maxRecDepth 100000 in
theorem zvj {σ : Type} {b L : Nat} {St : World → σ → Prop} {IsE : World → World → Value → Nat → Nat → Prop} {q : RdFn} {R : RdF σ} (H : RdOk b L St IsE q R) :
 Part (fun n : Nat => .int .u32 n) b L St IsE 52 #[.agg (rdV q).toArray] (shortF R) := by
 intro w x hL hst
 have hr := heap_alloc_new w (rdgS q)
 obtain ⟨-, -, -, -, -, c5⟩ := zvh hr
 have hb0 := alW w (rdgS q)
 have HN := hid (H.n32 _ x (Nat.le_trans hL hb0.size) (H.src.after hst hL hb0))
 have HUP : Hid (∀ W1 v c a, IsE (w.alloc (rdgS q)) W1 v c a → IsE w W1 v c a) := hid (fun _ _ _ _ h => H.src.up h hb0.size)
 have HO : Hid (Oth b w (w.alloc (rdgS q))) := hid (Oth.of_below hb0)
 have hm := H.m32 x
 obtain ⟨m, hmm⟩ : ∃ m : Nat, m = (R.num 4294967295 x).1 % 4294967296 := ⟨_, rfl⟩
 have hcv : IntKind.u32.wrap ((R.num 4294967295 x).1 : Int) = (m : Int) := by rw [hmm]; simp [IntKind.wrap, IntKind.bits, IntKind.signed]
 have HMM : Hid (shortF R x = (m, (R.num 4294967295 x).2)) := hid (by rw [hmm]; rfl)
 have en := H.en
 unfold EntS at en
 clear hr hb0 hst H hmm hm
 go_enter Tryz.func52, Tryz.ntmps52
 go_wp2_with fail
 refine HN.out.mono ?_
 rintro e w2 ⟨ev, rfl, hie, hst2, ho2⟩
 have HI := hid hie
 have HS := hid hst2
 have HO2 := hid (HO.out.trans ho2)
 clear hie hst2 ho2
 go_wp2_with fail
 go_ret2
 rw [HMM.out]
 exact ⟨ev, rfl, HUP.out _ _ _ _ HI.out, HS.out, HO2.out⟩
structure NdJ {σ : Type} (b : Nat) (St : World → σ → Prop) (q : RdFn) (w wr : World) (x : σ) (v : Value) (P : List (B × B)) : Prop where
 row : wr.heap[w.heap.size]? = some (rdgS q)
 own : wr.ownsRow (w.heap.size + 1) 63 2 v P.length (P.flatMap needL)
 st : St wr x
 oth : Oth b w wr
 size : w.heap.size + 1 ≤ wr.heap.size
theorem own_but {w w' : World} {D : Nat} {v : Value} {n : Nat} {xs : List Value} (h : w.ownsRow D 63 2 v n xs) (hb : ∀ j, D ≤ j → j < w.heap.size → w'.heap[j]? = w.heap[j]?) : w'.ownsRow D 63 2 v n xs := by
 obtain ⟨h1, h2 | ⟨g, cap, cur, e1, h3, h4, h5⟩⟩ := h
 · exact ⟨h1, .inl h2⟩
 · exact ⟨h1, .inr ⟨g, cap, cur, e1, h3, (hb g h3 (zpf h4)).trans h4, h5⟩⟩
theorem NdJ.but {σ : Type} {b : Nat} {St : World → σ → Prop} {q : RdFn} {w wr w2 : World} {x y : σ} {v : Value} {P : List (B × B)} (h : NdJ b St q w wr x v P) (hb : b < w.heap.size) (hs : St w2 y) (ho : Oth b wr w2) : NdJ b St q w w2 y v P :=
 ⟨(ho.block _ (by have := h.size; omega) (by omega)).trans h.row, own_but h.own (fun j hj hl => ho.block j hl (by omega)), hs, h.oth.trans ho, Nat.le_trans h.size ho.size⟩
abbrev zNd : Obj := .cells #[.string ⟨#[]⟩, .string ⟨#[]⟩] 63
theorem own_set {w : World} {D nd i : Nat} {u : Value} {v : Value} {n : Nat} {xs : List Value} (h : w.ownsRow D 63 2 v n xs) (hne : ∀ g, v.ownBlock = some g → g ≠ nd) : (w.setCell ⟨nd, i, none⟩ u).ownsRow D 63 2 v n xs := by
 obtain ⟨h1, h2 | ⟨g, cap, cur, e1, h3, h4, h5⟩⟩ := h
 · exact ⟨h1, .inl h2⟩
 · exact ⟨h1, .inr ⟨g, cap, cur, e1, h3, (zpd i u (hne g (by rw [e1]; rfl))).trans h4, h5⟩⟩
theorem NdJ.set {σ : Type} {b L : Nat} {St : World → σ → Prop} {IsE : World → World → Value → Nat → Nat → Prop} (H : Src b L St IsE) {q : RdFn} {w wr : World} {x : σ} {v : Value} {P : List (B × B)} {nd : Nat} (h : NdJ b St q w wr x v P) (hL : L ≤ w.heap.size) (hnd : w.heap.size + 1 ≤ nd) (hne : ∀ g, v.ownBlock = some g → g ≠ nd) (i : Nat) (u : Value) :
 NdJ b St q w (wr.setCell ⟨nd, i, none⟩ u) x v P :=
 ⟨(zpd i u (by omega)).trans h.row, own_set h.own hne, H.stay h.st (fun j hj => zpd i u (by omega)), ⟨h.oth.os, h.oth.tape, h.oth.output, by simpa using h.oth.size, fun k hk hb => (zpd i u (by omega)).trans (h.oth.block k hk hb)⟩, by simpa using h.size⟩
theorem NdJ.add {σ : Type} {b L : Nat} {St : World → σ → Prop} {IsE : World → World → Value → Nat → Nat → Prop} (H : Src b L St IsE) {q : RdFn} {w w6 w7 : World} {x : σ} {v v' : Value} {P : List (B × B)} {u : B × B} {nd : Obj} (h : NdJ b St q w w6 x v P) (hL : L ≤ w.heap.size) (hg : (w6.alloc nd).grownBy w7 v.ownBlock)
 (hown : w7.ownsRow (w.heap.size + 1) 63 2 v' (P.length + 1) (P.flatMap needL ++ needL u)) : NdJ b St q w w7 x v' (P ++ [u]) := by
 have hs6 := h.size
 have key : ∀ j, j < w.heap.size + 1 → w7.heap[j]? = w6.heap[j]? := fun j hj => (hg.block j (by simp; omega) (fun e1 => by have := (World.ownsRow.lt h.own j e1.symm).1; omega)).trans (Below.heap_alloc _ _ _ (by omega))
 have hB : Below 0 w6 w7 := ((Below.refl 0 w6).alloc (Nat.zero_le _) nd).grown hg (Nat.zero_le _) (fun _ _ => Nat.zero_le _)
 refine ⟨(key _ (by omega)).trans h.row, ?_, H.stay h.st (fun j hj => key j (by omega)), ⟨hB.os.trans h.oth.os, hB.tape.trans h.oth.tape, hB.output.trans h.oth.output, Nat.le_trans h.oth.size hB.size, fun k hk hb => (key k (by omega)).trans (h.oth.block k hk hb)⟩, Nat.le_trans hs6 hB.size⟩
 rw [List.length_append, List.flatMap_append]
 simpa using hown
theorem zvk {w : World} {N : Nat} {v : Value} {L : List (B × B)} (h : w.ownsRow N 63 2 v L.length (L.flatMap needL)) (hf : L.length * 32 ≤ 140737488351232) (hs : ∀ x ∈ L, x.1.length ≤ 140737488351232 ∧ x.2.length ≤ 140737488351232) :
 ∃ a c, v = .slice a L.length c ∧ NeIn w a c L ∧ ∀ g, a = some g → N ≤ g.block := by
 obtain ⟨a, c, e, hn⟩ := zoy h hf hs
 refine ⟨a, c, e, hn, fun g hg => ?_⟩
 rcases h.2 with ⟨h1, -⟩ | ⟨g1, cap, cur, e1, h3, -⟩
 · rw [e, hg] at h1
   cases h1
 · rw [e, hg] at e1
   cases e1
   exact h3
theorem zvl {w : World} {p : Nat} {t1 t2 : ByteArray} (h : w.heap[p]? = some (.cells #[.string t1, .string t2] 63)) : w.cell? ⟨p, 0, none⟩ = some (.string t1) ∧ w.cell? ⟨p, 1, none⟩ = some (.string t2) := by
 constructor <;> simp [World.cell?, h]
set_option maxRecDepth 100000 in
theorem zvm {σ : Type} {b L : Nat} {St : World → σ → Prop} {IsE : World → World → Value → Nat → Nat → Prop} {q : RdFn} {R : RdF σ} (H : RdOk b L St IsE q R) :
 PartN b L St IsE 49 #[.agg (rdV q).toArray] (zvi R) := by
 intro w x hL hst
 have hr := heap_alloc_new w (rdgS q)
 obtain ⟨-, -, -, -, -, c5⟩ := zvh hr
 have hb0 := alW w (rdgS q)
 have hblt : b < w.heap.size := Nat.lt_of_lt_of_le H.src.lt hL
 have HN := hid (H.n64 _ x (Nat.le_trans hL hb0.size) (H.src.after hst hL hb0))
 have HJ0 : Hid (∀ w2 y, St w2 y → Oth b (w.alloc (rdgS q)) w2 → NdJ b St q w w2 y (.slice none 0 0) []) := hid (fun w2 y hs ho => by
  have h0 : NdJ b St q w (w.alloc (rdgS q)) x (.slice none 0 0) [] := ⟨hr, World.ownsRow_nil _ _ _ _, H.src.after hst hL hb0, Oth.of_below hb0, by simp⟩
  exact h0.but hblt hs ho)
 have HUP : Hid (∀ W0 W1 v c a, w.heap.size ≤ W0.heap.size → IsE W0 W1 v c a → IsE w W1 v c a) := hid (fun _ _ _ _ _ hs h => H.src.up h hs)
 have hm := H.m64 x
 have HB := hid hblt
 have en := H.en
 have et := H.et
 have es := H.es
 unfold EntS at en et es
 have HT : Hid (∀ W y, L ≤ W.heap.size → St W y → Calls Tryz.prog q.ft (q.bt ++ q.ct) W fun e w' => ∃ ev, e = .returned (.tuple #[.string (str (R.text y).1), ev]) ∧ IsE W w' ev (R.text y).2.1 (R.text y).2.2.1 ∧ St w' (R.text y).2.2.2 ∧ Oth b W w') := hid H.text
 have HSP : Hid (∀ W y, L ≤ W.heap.size → St W y → Calls Tryz.prog q.fs (q.bs ++ q.cs) W fun e w' => ∃ ev, e = .returned (.tuple #[.string (str (R.span y).1), ev]) ∧ IsE W w' ev (R.span y).2.1 (R.span y).2.2.1 ∧ St w' (R.span y).2.2.2 ∧ Oth b W w') := hid H.span
 have HQ : Hid (zvi R x = if (R.num 64 x).2.1 ≠ 0 then ([], (R.num 64 x).2) else ndsF R (R.num 64 x).1 (R.num 64 x).2.2.2 []) := hid rfl
 have HSRC := hid H.src
 have HTL := hid H.tle
 have HSL := hid H.sle
 have HL := hid hL
 obtain ⟨⟨cnt, er, p, y⟩, hU⟩ : ∃ U, R.num 64 x = U := ⟨_, rfl⟩
 rw [hU] at HN HQ hm
 simp only at HN HQ hm
 clear hr hb0 hst H hU hblt hL
 go_enter Tryz.func49, Tryz.ntmps49
 go_wp2_with fail
 refine HN.out.mono ?_
 rintro e w2 ⟨ev, rfl, hie, hst2, ho2⟩
 have HJ := hid (HJ0.out w2 y hst2 ho2)
 clear hst2 ho2 HN HJ0
 by_cases he : er = 0
 · subst he
   replace hm := hm rfl
   obtain rfl := HSRC.out.none_ hie
   have hq : zvi R x = ndsF R cnt y [] := by rw [HQ.out, if_neg (by simp)]
   obtain ⟨i0, hi, hz0, hz1, hz2⟩ := info_parts info_nd
   clear HQ hie c5
   go_wp2_with fail
   go_loopw [6, 18] (fun l i wr => ∃ (j : Nat) (P : List (B × B)) (xj : σ) (v : Value), v = l ∧ i = .int .u64 j ∧ j ≤ cnt ∧ P.length = j ∧ (∀ u ∈ P, u.1.length ≤ 140737488351232 ∧ u.2.length ≤ 140737488351232) ∧ Hid (zvi R x = ndsF R (cnt - j) xj P) ∧ Hid (NdJ b St q w wr xj l P)) (fun _ i _ => cnt - (intOf i).toNat)
   case atStart => exact ⟨0, [], y, _, rfl, rfl, Nat.zero_le _, rfl, fun u hu => (by cases hu), hid hq, HJ⟩
   case round =>
    obtain ⟨j, P, xj, l5, hl5, rfl, hj, hPl, hPs, HQJ, HI⟩ := hrel
    subst hl5
    rename World => wr
    clear HJ hq
    by_cases hlt : j < cnt
    · have hdec : decide (j < cnt) = true := decide_eq_true hlt
      have hs1 : cnt - j = (cnt - (j + 1)) + 1 := by omega
      have HQK : Hid (zvi R x = if (R.text xj).2.1 ≠ 0 then ([], (R.text xj).2) else if (R.span (R.text xj).2.2.2).2.1 ≠ 0 then ([], (R.span (R.text xj).2.2.2).2) else ndsF R (cnt - (j + 1)) (R.span (R.text xj).2.2.2).2.2.2 (P ++ [((R.text xj).1, (R.span (R.text xj).2.2.2).1)])) := hid (by rw [HQJ.out, hs1]; rfl)
      have HOB0 : Hid (∀ g, l5.ownBlock = some g → g ≠ wr.heap.size) := hid (fun g hg => by have := (World.ownsRow.lt HI.out.own g hg).2; omega)
      have hnb := alW wr zNd
      have HI1 : Hid (NdJ b St q w (wr.alloc zNd) xj _ P) := hid (HI.out.but HB.out (HSRC.out.after HI.out.st (Nat.le_trans HL.out (Nat.le_trans (Nat.le_succ _) HI.out.size)) hnb) (Oth.of_below hnb))
      have HW1 : Hid (w.heap.size ≤ (wr.alloc zNd).heap.size) := hid (Nat.le_trans (Nat.le_succ _) HI1.out.size)
      have HTX := hid (HT.out _ xj (Nat.le_trans HL.out HW1.out) HI1.out.st)
      have HTLj := hid (HTL.out xj)
      obtain ⟨-, c1, -, -, -, -⟩ := zvh HI1.out.row
      have hnd : (wr.alloc zNd).heap[wr.heap.size]? = some zNd := heap_alloc_new wr zNd
      have HND := hid hnd
      have HNL : Hid (w.heap.size + 1 ≤ wr.heap.size) := hid HI.out.size
      obtain ⟨⟨t1, er2, p2, y2⟩, hU2⟩ : ∃ U, R.text xj = U := ⟨_, rfl⟩
      rw [hU2] at HTX HQK HTLj
      simp only at HTX HQK HTLj
      clear hU2 HQJ hs1 hnb HI hnd
      go_wp2_with fail
      refine HTX.out.mono ?_
      rintro e w3 ⟨ev3, rfl, hie, hst3, ho3⟩
      have hnd3 := (ho3.block _ (zpf HND.out) (by have := HB.out; have := HNL.out; omega)).trans HND.out
      have HI3 := hid (HI1.out.but HB.out hst3 ho3)
      have n0 : w3.cell? ⟨wr.heap.size, 0, none⟩ = some (.string ⟨#[]⟩) := by simp [World.cell?, hnd3]
      have n1 := zpe hnd3 0
      have hn4 := zpc hnd3 0 (.string (str t1))
      have HOB : Hid (∀ g, l5.ownBlock = some g → g ≠ wr.heap.size) := HOB0
      have hn4 := zpc hnd3 0 (.string (str t1))
      have HN4 : Hid ((w3.setCell ⟨wr.heap.size, 0, none⟩ (.string (str t1))).heap[wr.heap.size]? = some (.cells #[.string (str t1), .string ⟨#[]⟩] 63)) := hid (by rw [hn4]; rfl)
      have HI4 : Hid (NdJ b St q w (w3.setCell ⟨wr.heap.size, 0, none⟩ (.string (str t1))) y2 l5 P) := hid (HI3.out.set HSRC.out HL.out HNL.out HOB.out 0 _)
      have HE3 : Hid (IsE w (w3.setCell ⟨wr.heap.size, 0, none⟩ (.string (str t1))) ev3 er2 p2) := hid (HUP.out _ _ _ _ _ HW1.out (HSRC.out.keep hie (by simp) (fun j hj hl => zpd 0 _ (by simp at hj; omega))))
      clear hnd3 hn4 hst3 ho3 HTX HI3 HI1
      by_cases he2 : er2 = 0
      · subst he2
        obtain rfl := HSRC.out.none_ hie
        have HQ3 : Hid (zvi R x = if (R.span y2).2.1 ≠ 0 then ([], (R.span y2).2) else ndsF R (cnt - (j + 1)) (R.span y2).2.2.2 (P ++ [(t1, (R.span y2).1)])) := hid (by rw [HQK.out, if_neg (by simp)])
        obtain ⟨-, -, c2, -, -, -⟩ := zvh HI4.out.row
        have HW4 : Hid (w.heap.size ≤ (w3.setCell ⟨wr.heap.size, 0, none⟩ (.string (str t1))).heap.size) := hid (Nat.le_trans (Nat.le_succ _) HI4.out.size)
        have HSX := hid (HSP.out _ y2 (Nat.le_trans HL.out HW4.out) HI4.out.st)
        have HSLj := hid (HSL.out y2)
        obtain ⟨⟨t2, er3, p3, y3⟩, hU3⟩ : ∃ U, R.span y2 = U := ⟨_, rfl⟩
        rw [hU3] at HSX HQ3 HSLj
        simp only at HSX HQ3 HSLj
        clear hU3 HQK hie HE3
        go_wp2_with fail
        refine HSX.out.mono ?_
        rintro e w5 ⟨ev5, rfl, hie, hst5, ho5⟩
        have hnd5 := (ho5.block _ (zpf HN4.out) (by have := HB.out; have := HNL.out; omega)).trans HN4.out
        have HI5 := hid (HI4.out.but HB.out hst5 ho5)
        obtain ⟨-, n1⟩ := zvl hnd5
        have nf := zpe hnd5 1
        have hn6 := zpc hnd5 1 (.string (str t2))
        have HN6 : Hid ((w5.setCell ⟨wr.heap.size, 1, none⟩ (.string (str t2))).heap[wr.heap.size]? = some (.cells #[.string (str t1), .string (str t2)] 63)) := hid (by rw [hn6]; rfl)
        have HI6 : Hid (NdJ b St q w (w5.setCell ⟨wr.heap.size, 1, none⟩ (.string (str t2))) y3 l5 P) := hid (HI5.out.set HSRC.out HL.out HNL.out HOB.out 1 _)
        have HE5 : Hid (IsE w (w5.setCell ⟨wr.heap.size, 1, none⟩ (.string (str t2))) ev5 er3 p3) := hid (HUP.out _ _ _ _ _ HW4.out (HSRC.out.keep hie (by simp) (fun j hj hl => zpd 1 _ (by have := zpf HN4.out; omega))))
        clear hnd5 hn6 hst5 ho5 HSX HI5 HI4 c2
        by_cases he3 : er3 = 0
        · subst he3
          obtain rfl := HSRC.out.none_ hie
          have HQ5 : Hid (zvi R x = ndsF R (cnt - (j + 1)) y3 (P ++ [(t1, t2)])) := hid (by rw [HQ3.out, if_neg (by simp)])
          obtain ⟨m0, m1⟩ := zvl HN6.out
          have hPs1 : P.length + 1 ≤ 64 := by omega
          have HS6 : Hid (w.heap.size + 1 ≤ ((w5.setCell ⟨wr.heap.size, 1, none⟩ (.string (str t2))).alloc (.cells (needL (t1, t2)).toArray 63)).heap.size) := hid (Nat.le_trans HI6.out.size (alW _ _).size)
          have HNC := hid (ztd (w5.setCell ⟨wr.heap.size, 1, none⟩ (.string (str t2))) (needL (t1, t2)) 63)
          have hz5 : (w5.setCell ⟨wr.heap.size, 1, none⟩ (.string (str t2))).heap.size = w5.heap.size := by simp
          rw [hz5] at HNC
          clear hz5
          have HI6' := HI6
          clear HQ3 hie HE5
          go_wp2_with (first | (at_builtin; refine wpList_append_own _ rfl _ _ 23 rfl (w.heap.size + 1) 63 i0 (.agg #[.string ⟨#[]⟩, .string ⟨#[]⟩]) 2 32 Tryz.underlying23 hi hz0 hz1 hz2 rfl (by decide) _ P.length (P.flatMap needL) rfl (HI6.out.own.alloc _) ⟨w5.heap.size, 0, none⟩ 1 1 (needL (t1, t2)) rfl rfl ?c1 ?c2 ?c3 ?c4 ?c5 ?_) | fail)
          case c1 => exact HNC.out
          case c2 => exact zvf t1 t2
          case c3 => unfold maxLen; omega
          case c4 => omega
          case c5 => exact HS6.out
          intro v' w7 hown7 hg7 _
          obtain ⟨sa, sm, sc, hsh⟩ := zvg hown7
          subst hsh
          have HI7 := hid (HI6'.out.add HSRC.out HL.out hg7 (by rw [hPl]; exact hown7))
          have HPS : ∀ u ∈ P ++ [(t1, t2)], u.1.length ≤ 140737488351232 ∧ u.2.length ≤ 140737488351232 := by
           intro u hu
           rcases List.mem_append.1 hu with hu | hu
           · exact hPs u hu
           · rw [List.mem_singleton.1 hu]; exact ⟨HTLj.out, HSLj.out⟩
          clear hown7 hg7 HI6 HI6' m0 m1
          go_wp2_with fail
          go_roundw
          case rel => exact ⟨j + 1, P ++ [(t1, t2)], y3, _, rfl, by go_num, hlt, by simp [hPl], HPS, HQ5, HI7⟩
          case measure => simp [intOf]; omega
        · obtain ⟨t, u, rfl⟩ := HSRC.out.some_ he3 hie
          have hq : zvi R x = ([], er3, p3, y3) := by rw [HQ3.out, if_pos he3]
          clear hie HQ3
          go_wp2_with fail
          go_ret2
          rw [hq]
          exact ⟨_, none, 0, rfl, NeIn.no _, fun g h => (by cases h), HE5.out, HI6.out.st, HI6.out.oth⟩
      · obtain ⟨t, u, rfl⟩ := HSRC.out.some_ he2 hie
        have hq : zvi R x = ([], er2, p2, y2) := by rw [HQK.out, if_pos he2]
        clear hie HQK
        go_wp2_with fail
        go_ret2
        rw [hq]
        exact ⟨_, none, 0, rfl, NeIn.no _, fun g h => (by cases h), HE3.out, HI4.out.st, HI4.out.oth⟩
    · have hje : cnt - j = 0 := by omega
      have hdec : decide (j < cnt) = false := decide_eq_false hlt
      have hq : zvi R x = (P, 0, 0, xj) := by rw [HQJ.out, hje]; rfl
      obtain ⟨a, c, hsl, hne, hge⟩ := zvk HI.out.own (by omega) hPs
      subst hsl
      have HNE := hid hne
      have HGE := hid hge
      clear hne hge HQJ
      go_wp2_with fail
      go_ret2
      rw [hq]
      exact ⟨_, a, c, rfl, HNE.out, fun g h => Nat.le_trans (Nat.le_succ _) (HGE.out g h), HSRC.out.nil_, HI.out.st, HI.out.oth⟩
 · obtain ⟨t, u, rfl⟩ := HSRC.out.some_ he hie
   have hq : zvi R x = ([], er, p, y) := by rw [HQ.out, if_pos he]
   have HE := hid (HUP.out _ _ _ _ _ (by simp) hie)
   clear hie HQ c5
   go_wp2_with fail
   go_ret2
   rw [hq]
   exact ⟨_, none, 0, rfl, NeIn.no _, fun g h => (by cases h), HE.out, HJ.out.st, HJ.out.oth⟩
end EvS
end
end Go.Proofs.YtfbegbmjmhnplaaGreatDoor
