/-
  Package code's reader: a piece, a text, a list of texts (where the reader stands behind an error is left open here: the closure puts it back).
-/
import Derived.Test.YtgjcbcakmcgjhaaDoorCodeR2
import Derived.Laws.AppendOwnNone
namespace Go.Proofs.YtgjcbcakmcgjhaaDoor
open Go.RowKit
namespace CodeC
open CodeM ErrC

def pEnd (t : ByteArray) (e : Nat) : Ending := .returned (.tuple #[.string t, .int .i64 e])

theorem piece_none (n : Nat) (w : World) (hn : 0 < n) :
    Calls Tryd.prog 38 #[.pointer none, .int .u64 n] w fun e w' => e = pEnd ⟨#[]⟩ 20 ∧ w = w' := by
  go_enter Tryd.func38, Tryd.ntmps38
  go_wp2_with fail
  refine (rest_none _).mono ?_
  rintro e w' ⟨rfl, rfl⟩
  go_wp2_with fail
  go_ret2
  exact ⟨rfl, rfl⟩
theorem cut_front (R : ByteArray) (n : Nat) (h : n ≤ R.size) (w : World) : (Instr.slice 9 (.string R) none (some (.int .u64 (n : Int))) none).run Tryd.prog w = .ok (.string (R.extract 0 n)) w := by
  rw [run_slice_string_h w 9 R Tryd.underlying9 .u64 (n : Int) (by omega) (by omega)]
  rfl
theorem front_of_rest (s : ByteArray) (k n : Nat) (h : k + n ≤ s.size) : (s.extract k s.size).extract 0 n = s.extract k (k + n) := by
  apply ByteArray.ext
  apply Array.toList_inj.1
  rw [Lib.extract_data, Lib.extract_data, Lib.extract_data, List.drop_zero, List.take_take]
  congr 1
  omega
set_option maxHeartbeats 1000000 in
theorem piece_short (b o : Nat) (s : ByteArray) (k n : Nat) (w : World) (hk : k ≤ s.size) (hs : s.size ≤ 4611686018427387904) (hn : s.size - k < n) (hr : IsRdr w b o s k) :
    Calls Tryd.prog 38 #[.pointer (some ⟨b, o, none⟩), .int .u64 n] w fun e w' => e = pEnd ⟨#[]⟩ 20 ∧ ∃ q, w' = w.drewN q := by
  have HR := Lib.hid hr; clear hr
  obtain ⟨-, hRs⟩ := rest_facts s k
  go_enter Tryd.func38, Tryd.ntmps38
  go_wp2_with fail
  refine (rest_is b o s k _ hk HR.out).mono ?_
  rintro e w1 ⟨rfl, q, rfl⟩
  generalize s.extract k s.size = R at *
  have hlt : R.size < n := by omega
  have hRsz : R.size ≤ 4611686018427387904 := by omega
  clear hRs
  have hd : decide (R.size < n) = true := by simpa using hlt
  go_wp2_with fail
  go_ret2
  exact ⟨rfl, _, rfl⟩
set_option maxHeartbeats 1000000 in
theorem piece_ok (b o : Nat) (s : ByteArray) (k n : Nat) (w : World) (hk : k + n ≤ s.size) (hs : s.size ≤ 4611686018427387904) (hr : IsRdr w b o s k) :
    Calls Tryd.prog 38 #[.pointer (some ⟨b, o, none⟩), .int .u64 n] w fun e w' => e = pEnd (s.extract k (k + n)) 0 ∧ IsRdr w' b o s (k + n) ∧ Only b w w' := by
  have HR := Lib.hid hr
  have h1 := hr.at_
  have h2 := hr.free
  clear hr
  obtain ⟨-, hRs⟩ := rest_facts s k
  have hf := front_of_rest s k n hk
  have HF := Lib.hid hf; clear hf
  go_enter Tryd.func38, Tryd.ntmps38
  go_wp2_with fail
  refine (rest_is b o s k _ (by omega) HR.out).mono ?_
  rintro e w1 ⟨rfl, q, rfl⟩
  generalize s.extract k s.size = R at *
  have hlt : n ≤ R.size := by omega
  have hRsz : R.size ≤ 4611686018427387904 := by omega
  clear hRs
  have hd : decide (R.size < n) = false := by simpa using hlt
  have hcut := cut_front R n hlt
  go_wp2_with fail
  go_ret2
  exact ⟨by rw [HF.out]; rfl, (HR.out.drewN _).put _ _ (by omega), ((Only.refl _ _).drewN _).set _ _⟩

theorem one_none (m : Int) (w : World) (h : m ≤ 9223372036854775807) :
    Calls Tryd.prog 39 #[.pointer none, .int .i64 m] w fun e w' => e = pEnd ⟨#[]⟩ 20 ∧ w = w' := by
  go_enter Tryd.func39, Tryd.ntmps39
  go_wp2_with fail
  refine (bound_any m _ h).mono ?_
  rintro e w' ⟨rfl, rfl⟩
  go_wp2_with fail
  refine (num_none _ _).mono ?_
  rintro e w' ⟨rfl, rfl⟩
  unfold nEnd
  go_wp2_with fail
  go_ret2
  exact ⟨rfl, rfl⟩

def OneE (s : ByteArray) (c k b o : Nat) (w : World) (e : Ending) (w' : World) : Prop :=
  e = pEnd (s.extract (tRes c k s).1 (tRes c k s).2.1) (tRes c k s).2.2.1 ∧ Only b w w' ∧ ∃ k', k' ≤ s.size ∧ IsRdr w' b o s k' ∧ ((tRes c k s).2.2.1 = 0 → k' = (tRes c k s).2.2.2.2)
theorem Only.trans {b : Nat} {x y z : World} (h : Only b x y) (k : Only b y z) : Only b x z := ⟨k.os.trans h.os, k.tape.trans h.tape, k.output.trans h.output, k.size.trans h.size, fun i hi => (k.block i hi).trans (h.block i hi)⟩

set_option maxHeartbeats 1000000 in
theorem one_is (b o : Nat) (s : ByteArray) (k : Nat) (m : Int) (w : World) (hk : k ≤ s.size) (hs : s.size ≤ 4611686018427387904) (h : m ≤ 9223372036854775807) (hr : IsRdr w b o s k) :
    Calls Tryd.prog 39 #[.pointer (some ⟨b, o, none⟩), .int .i64 m] w (OneE s (cap m) k b o w) := by
  have HR := Lib.hid hr; clear hr
  have hc := uRes_cases (cap m) k s hk
  have hcap : cap m < 18446744073709551616 := by unfold cap; omega
  go_enter Tryd.func39, Tryd.ntmps39
  go_wp2_with fail
  refine (bound_any m _ h).mono ?_
  rintro e w' ⟨rfl, rfl⟩
  go_wp2_with fail
  refine (num_is b o s k (cap m) _ hk hs hcap HR.out).mono ?_
  rintro e w1 ⟨rfl, hr1, ho1⟩
  rcases hc with ⟨e, he, he2, hu⟩ | ⟨v, d, hv, hd, hu⟩
  · have HT := Lib.hid (tRes_err hu he)
    rw [hu] at hr1 ⊢
    have te : ((e : Int) != 0) = true := bne_iff_ne.2 (by omega)
    have HR1 := Lib.hid hr1
    have HO := Lib.hid ho1
    clear hr1 ho1 hu he
    unfold nEnd
    go_wp2_with fail
    go_ret2
    unfold OneE
    rw [HT.out]
    exact ⟨by unfold pEnd; rw [extract_none]; rfl, HO.out, k, hk, HR1.out, fun _ => rfl⟩
  · rw [hu] at hr1 ⊢
    have HR1 := Lib.hid hr1
    have HO := Lib.hid ho1
    clear hr1 ho1 hcap
    generalize k + d = q at *
    unfold nEnd
    by_cases hq : s.size - q < v
    · have HT := Lib.hid (tRes_short hu hq)
      clear hu
      go_wp2_with fail
      refine (piece_short b o s q v _ hd hs hq HR1.out).mono ?_
      rintro e w2 ⟨rfl, z, rfl⟩
      unfold pEnd
      go_wp2_with fail
      go_ret2
      unfold OneE
      rw [HT.out]
      exact ⟨by unfold pEnd; rw [extract_none]; rfl, HO.out.drewN _, q, hd, HR1.out.drewN _, fun h => by cases h⟩
    · have HT := Lib.hid (tRes_ok hu hq)
      clear hu
      go_wp2_with fail
      refine (piece_ok b o s q v _ (by omega) hs HR1.out).mono ?_
      rintro e w2 ⟨rfl, hr2, ho2⟩
      unfold pEnd
      have HR2 := Lib.hid hr2
      have HO2 := Lib.hid ho2
      clear hr2 ho2
      go_wp2_with fail
      go_ret2
      unfold OneE
      rw [HT.out]
      exact ⟨rfl, HO.out.trans HO2.out, q + v, by omega, HR2.out, fun _ => rfl⟩
end CodeC
end Go.Proofs.YtgjcbcakmcgjhaaDoor
