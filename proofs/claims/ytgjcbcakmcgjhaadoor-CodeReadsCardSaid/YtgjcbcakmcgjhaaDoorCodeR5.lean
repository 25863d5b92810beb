/-
  Package code's reader: its methods: one contract each.
-/
import Derived.Test.YtgjcbcakmcgjhaaDoorCodeR4
namespace Go.Proofs.YtgjcbcakmcgjhaaDoor
open Go.RowKit
namespace CodeC
open CodeM ErrC

/-- behind the beginning of a call: the closure's two variables lie in new memory -/
structure Begun (w w' : World) (r : Value) (k : Nat) : Prop where
  rdr : w'.cell? ⟨w.heap.size, 0, none⟩ = some r
  from_ : w'.cell? ⟨w.heap.size + 1, 0, none⟩ = some (.int .i64 k)
  below : Below w.heap.size w w'
theorem Begun.only {w w1 w2 : World} {r : Value} {k b : Nat} (h : Begun w w1 r k) (ho : But b w1 w2) (hb : b < w.heap.size) :
    w2.cell? ⟨w.heap.size, 0, none⟩ = some r ∧ w2.cell? ⟨w.heap.size + 1, 0, none⟩ = some (.int .i64 k) ∧ w.heap.size ≤ w2.heap.size := by
  have l1 := World.block_lt_of_cell? _ _ h.rdr
  have l2 := World.block_lt_of_cell? _ _ h.from_
  exact ⟨by rw [ho.cell l1 (by show w.heap.size ≠ b; omega)]; exact h.rdr, by rw [ho.cell l2 (by show w.heap.size + 1 ≠ b; omega)]; exact h.from_, Nat.le_trans h.below.size ho.size⟩
theorem beg_is (b o : Nat) (s : ByteArray) (k : Nat) (w : World) (hr : IsRdr w b o s k) :
    Calls Tryd.prog 36 #[.pointer (some ⟨b, o, none⟩)] w fun e w' => e = .returned (endF w.heap.size) ∧ Begun w w' (.pointer (some ⟨b, o, none⟩)) k := by
  refine (begin_is b o s k w hr).mono ?_
  rintro e w' ⟨rfl, rfl⟩
  refine ⟨rfl, ?_, ?_, ?_⟩
  · rw [World.cell?_alloc_lt _ _ _ (by simp)]; simp
  · rw [World.cell?_alloc_at _ _ _ _ (by simp)]; rfl
  · exact ((Below.refl _ _).alloc (Nat.le_refl _) _).alloc (by simp) _

/-- what a call of a reader answers: a value and an error, told there; the place behind -/
def MethE (val : Value) (er k q b o : Nat) (s : ByteArray) (w : World) (e : Ending) (w' : World) : Prop :=
  ∃ ev, e = .returned (.tuple #[val, ev]) ∧ IsErr w w' ev er k ∧ IsRdr w' b o s q ∧ But b w w'
def EndE (er k q b o : Nat) (s : ByteArray) (w : World) (e : Ending) (w' : World) : Prop :=
  ∃ ev, e = .returned ev ∧ IsErr w w' ev er k ∧ IsRdr w' b o s q ∧ But b w w'

/-- the closure, at an error's number or none -/
theorem fin_any (n b o : Nat) (s : ByteArray) (k k0 c : Nat) (w w0 : World) (hn : n = w0.heap.size) (hb : b < n) (hg : w.cell? ⟨w0.heap.size, 0, none⟩ = some (.pointer (some ⟨b, o, none⟩)) ∧ w.cell? ⟨w0.heap.size + 1, 0, none⟩ = some (.int .i64 k0) ∧ w0.heap.size ≤ w.heap.size) (hr : IsRdr w b o s k) :
    Calls Tryd.prog 43 #[.int .i64 c, .pointer (some ⟨n, 0, none⟩), .pointer (some ⟨n + 1, 0, none⟩)] w fun e w' =>
      ∃ ev, e = .returned ev ∧ IsErr w0 w' ev c k0 ∧ IsRdr w' b o s (if c = 0 then k else k0) ∧ But b w w' := by
  subst hn
  by_cases h0 : c = 0
  · subst h0
    refine (end_ok _ b o s k w hg.1 hr).mono ?_
    rintro e w' ⟨rfl, rfl⟩
    exact ⟨_, rfl, Or.inl ⟨rfl, rfl⟩, by simpa using hr, But.refl _ _⟩
  · refine (end_err _ b o s k k0 c w h0 hg.1 hg.2.1 hr).mono ?_
    rintro e w' ⟨rfl, rfl⟩
    have hs := hg.2.2
    have hlt := hr.lt
    have e4 : (w.setCell ⟨b, o + 2, none⟩ (.int .i64 k0)).heap.size = w.heap.size := by simp
    refine ⟨_, rfl, Or.inr ⟨h0, _, rfl, hs, ?_, ?_, ?_, ?_⟩, ?_, ((But.refl _ _).set _ _).alloc _⟩
    · rw [World.cell?_alloc_at _ _ _ _ (by simp)]; rfl
    · rw [World.cell?_alloc_at _ _ _ _ (by simp)]; rfl
    · rw [World.cell?_alloc_at _ _ _ _ (by simp)]; rfl
    · rw [World.cell?_alloc_at _ _ _ _ (by simp)]; rfl
    · rw [if_neg h0]
      exact (hr.put _ k0 rfl).below ((Below.refl _ _).alloc (Nat.le_refl _) _) (by rw [e4]; exact hlt)

set_option maxHeartbeats 1000000 in
theorem ruint_is (b o : Nat) (s : ByteArray) (k : Nat) (most : Nat) (w : World) (hk : k ≤ s.size) (hs : s.size ≤ 4611686018427387904) (hm : most < 18446744073709551616) (hr : IsRdr w b o s k) :
    Calls Tryd.prog 21 #[.pointer (some ⟨b, o, none⟩), .int .u64 most] w
      (MethE (.int .u64 (uRes most k (s.data.toList.drop k)).1) (uRes most k (s.data.toList.drop k)).2.1 k (uRes most k (s.data.toList.drop k)).2.2.2 b o s w) := by
  have hlt := hr.lt
  have HR := Lib.hid hr; clear hr
  have hu := uRes_cases most k s hk
  go_enter Tryd.func21, Tryd.ntmps21
  go_wp2_with fail
  refine (beg_is b o s k _ HR.out).mono ?_
  rintro e w1 ⟨rfl, hg⟩
  have HG := Lib.hid hg; clear hg
  unfold endF
  go_wp2_with fail
  refine (num_is b o s k most _ hk hs hm (HR.out.below HG.out.below hlt)).mono ?_
  rintro e w2 ⟨rfl, hr2, ho2⟩
  have HG2 := Lib.hid (HG.out.only (But.of_only ho2) hlt)
  have HB2 := Lib.hid ((But.of_below HG.out.below).trans (But.of_only ho2))
  have HR2 := Lib.hid hr2
  clear ho2 hr2
  unfold nEnd
  go_wp2_with fail
  refine (fin_any w.heap.size b o s _ k _ _ w rfl hlt HG2.out HR2.out).mono ?_
  rintro e w3 ⟨ev, rfl, he, hr3, hb3⟩
  have HE := Lib.hid he; clear he
  have HR3 := Lib.hid hr3; clear hr3
  have HB3 := Lib.hid hb3; clear hb3
  go_wp2_with fail
  go_ret2
  refine ⟨_, rfl, HE.out, ?_, HB2.out.trans HB3.out⟩
  have h := HR3.out
  rcases hu with ⟨e, he, he2, hu⟩ | ⟨v, d, hv, hd, hu⟩
  · rw [hu] at h ⊢; simpa [he] using h
  · rw [hu] at h ⊢; simpa using h

set_option maxHeartbeats 1000000 in
theorem rtext_is (b o : Nat) (s : ByteArray) (k : Nat) (m : Int) (w : World) (hk : k ≤ s.size) (hs : s.size ≤ 4611686018427387904) (hm : m ≤ 9223372036854775807) (hr : IsRdr w b o s k) :
    Calls Tryd.prog 23 #[.pointer (some ⟨b, o, none⟩), .int .i64 m] w
      (MethE (.string (s.extract (tRes (cap m) k s).1 (tRes (cap m) k s).2.1)) (tRes (cap m) k s).2.2.1 k (tRes (cap m) k s).2.2.2.2 b o s w) := by
  have hlt := hr.lt
  have HR := Lib.hid hr; clear hr
  have hu := tRes_cases (cap m) k s hk
  go_enter Tryd.func23, Tryd.ntmps23
  go_wp2_with fail
  refine (beg_is b o s k _ HR.out).mono ?_
  rintro e w1 ⟨rfl, hg⟩
  have HG := Lib.hid hg; clear hg
  unfold endF
  go_wp2_with fail
  refine (one_is b o s k m _ hk hs hm (HR.out.below HG.out.below hlt)).mono ?_
  rintro e w2 ⟨rfl, ho2, k2, hk2, hr2, hz2⟩
  have HG2 := Lib.hid (HG.out.only (But.of_only ho2) hlt)
  have HB2 := Lib.hid ((But.of_below HG.out.below).trans (But.of_only ho2))
  have HR2 := Lib.hid hr2
  have HZ2 := Lib.hid hz2
  clear ho2 hr2 hz2
  unfold pEnd
  go_wp2_with fail
  refine (fin_any w.heap.size b o s _ k _ _ w rfl hlt HG2.out HR2.out).mono ?_
  rintro e w3 ⟨ev, rfl, he, hr3, hb3⟩
  have HE := Lib.hid he; clear he
  have HR3 := Lib.hid hr3; clear hr3
  have HB3 := Lib.hid hb3; clear hb3
  go_wp2_with fail
  go_ret2
  refine ⟨_, rfl, HE.out, ?_, HB2.out.trans HB3.out⟩
  have h := HR3.out
  have hz := HZ2.out
  rcases hu with ⟨e, he, he2, hu⟩ | ⟨a, q, h1, h2, h3, hu⟩
  · rw [hu] at h ⊢; simpa [he] using h
  · rw [hu] at h hz ⊢
    have := hz rfl
    simp only at this
    subst this
    simpa using h

theorem ts_of_ls (most each k : Nat) (s : ByteArray) (hk : k ≤ s.size) : tsRes most each k s = (if (lsRes most each k s).2.1 = 0 then ((lsRes most each k s).1, 0, 0, (lsRes most each k s).2.2) else ([], (lsRes most each k s).2.1, k, k)) := by
  rcases uRes_cases most k s hk with ⟨e, he, he2, hu⟩ | ⟨v, d, hv, hd, hu⟩
  · rw [lsRes_err hu he, tsRes_err hu he]; simp [he]
  · rw [lsRes_ok hu]; simp only [tsRes, hu, if_true]
theorem ls_clean (most each k : Nat) (s : ByteArray) (hk : k ≤ s.size) (h : (lsRes most each k s).2.1 ≠ 0) : (lsRes most each k s).1 = [] := by
  rcases uRes_cases most k s hk with ⟨e, he, he2, hu⟩ | ⟨v, d, hv, hd, hu⟩
  · rw [lsRes_err hu he]
  · rw [lsRes_ok hu] at h ⊢; exact lRes_clean _ _ _ _ h
/-- what Texts answers -/
def TextsE (L : List ByteArray) (er k q b o : Nat) (s : ByteArray) (w : World) (e : Ending) (w' : World) : Prop :=
  ∃ v ev, e = .returned (.tuple #[v, ev]) ∧ OwnT w' w.heap.size v L ∧ IsErr w w' ev er k ∧ IsRdr w' b o s q ∧ But b w w'
set_option maxHeartbeats 1000000 in
theorem rtexts_is (b o : Nat) (s : ByteArray) (k : Nat) (m c : Int) (w : World) (hk : k ≤ s.size) (hs : s.size ≤ 4611686018427387904) (hm : m ≤ 65536) (hc : c ≤ 9223372036854775807) (hr : IsRdr w b o s k) :
    Calls Tryd.prog 24 #[.pointer (some ⟨b, o, none⟩), .int .i64 m, .int .i64 c] w
      (TextsE (tsRes (cap m) (cap c) k s).1 (tsRes (cap m) (cap c) k s).2.1 k (tsRes (cap m) (cap c) k s).2.2.2 b o s w) := by
  have hlt := hr.lt
  have HR := Lib.hid hr; clear hr
  have HTS := Lib.hid (ts_of_ls (cap m) (cap c) k s hk)
  have hcl := ls_clean (cap m) (cap c) k s hk
  have HCL := Lib.hid hcl; clear hcl
  go_enter Tryd.func24, Tryd.ntmps24
  go_wp2_with fail
  refine (beg_is b o s k _ HR.out).mono ?_
  rintro e w1 ⟨rfl, hg⟩
  have HG := Lib.hid hg; clear hg
  unfold endF
  go_wp2_with fail
  refine (list_is b o s k m c _ hk hs hm hc (HR.out.below HG.out.below hlt)).mono ?_
  rintro e w2 ⟨v, k2, rfl, hown, hr2, hk2, hz2, hb2⟩
  generalize lsRes (cap m) (cap c) k s = r at *
  obtain ⟨L, er, z⟩ := r
  dsimp only at *
  have HG2 := Lib.hid (HG.out.only hb2 hlt)
  have HB2 := Lib.hid ((But.of_below HG.out.below).trans hb2)
  have HO2 := Lib.hid (hown.mono HG.out.below.size)
  have HR2 := Lib.hid hr2
  have HZ2 := Lib.hid hz2
  clear hb2 hr2 hz2 hown
  go_wp2_with fail
  refine (fin_any w.heap.size b o s _ k _ _ w rfl hlt HG2.out HR2.out).mono ?_
  rintro e w3 ⟨ev, rfl, he, hr3, hb3⟩
  have HE := Lib.hid he; clear he
  have HR3 := Lib.hid hr3; clear hr3
  have HB3 := Lib.hid hb3; clear hb3
  go_wp2_with fail
  go_ret2
  have h := HR3.out
  have hz := HZ2.out
  have hcl := HCL.out
  have ho := HO2.out.but HB3.out hlt
  by_cases h0 : er = 0
  · subst h0
    have := hz rfl
    subst this
    rw [HTS.out]
    exact ⟨_, _, rfl, ho, HE.out, by simpa using h, HB2.out.trans HB3.out⟩
  · have := hcl h0
    subst this
    rw [HTS.out]
    simp only [if_neg h0] at h ⊢
    exact ⟨_, _, rfl, ho, HE.out, h, HB2.out.trans HB3.out⟩

def endC (k : Nat) (s : ByteArray) : Nat := if k < s.size then 23 else 0
set_option maxHeartbeats 1000000 in
theorem rend_is (b o : Nat) (s : ByteArray) (k : Nat) (w : World) (hk : k ≤ s.size) (hr : IsRdr w b o s k) :
    Calls Tryd.prog 25 #[.pointer (some ⟨b, o, none⟩)] w (EndE (endC k s) k k b o s w) := by
  have hlt := hr.lt
  have HR := Lib.hid hr; clear hr
  obtain ⟨-, hRs⟩ := rest_facts s k
  have HRs := Lib.hid hRs; clear hRs
  by_cases hz : k < s.size
  · have HC : endC k s = 23 := by unfold endC; simp [hz]
    rw [HC]
    clear HC
    go_enter Tryd.func25, Tryd.ntmps25
    go_wp2_with fail
    refine (beg_is b o s k _ HR.out).mono ?_
    rintro e w1 ⟨rfl, hg⟩
    have HG := Lib.hid hg; clear hg
    unfold endF
    go_wp2_with fail
    refine (rest_is b o s k _ hk (HR.out.below HG.out.below hlt)).mono ?_
    rintro e w2 ⟨rfl, q, rfl⟩
    generalize s.extract k s.size = R at *
    have HG2 := Lib.hid (HG.out.only (((But.refl b _).drewN q)) hlt)
    have HB2 := Lib.hid ((But.of_below HG.out.below).trans ((But.refl b _).drewN q))
    have HR2 := Lib.hid ((HR.out.below HG.out.below hlt).drewN q)
    have h1 : R.toList.isEmpty = false := by
      rw [ByteArray.toList_eq]
      cases e : R.data.toList with
      | nil => have e2 : R.data.toList.length = R.size := by simp
               rw [e] at e2; have := HRs.out; simp at e2; omega
      | cons x r => rfl
    go_wp2_with fail
    refine (fin_any w.heap.size b o s _ k 23 _ w rfl hlt HG2.out HR2.out).mono ?_
    rintro e w3 ⟨ev, rfl, he, hr3, hb3⟩
    have HE := Lib.hid he; clear he
    have HR3 := Lib.hid hr3; clear hr3
    have HB3 := Lib.hid hb3; clear hb3
    go_wp2_with fail
    go_ret
    exact ⟨_, rfl, HE.out, by simpa using HR3.out, HB2.out.trans HB3.out⟩
  · have HC : endC k s = 0 := by unfold endC; simp [hz]
    rw [HC]
    clear HC
    go_enter Tryd.func25, Tryd.ntmps25
    go_wp2_with fail
    refine (beg_is b o s k _ HR.out).mono ?_
    rintro e w1 ⟨rfl, hg⟩
    have HG := Lib.hid hg; clear hg
    unfold endF
    go_wp2_with fail
    refine (rest_is b o s k _ hk (HR.out.below HG.out.below hlt)).mono ?_
    rintro e w2 ⟨rfl, q, rfl⟩
    generalize s.extract k s.size = R at *
    have HG2 := Lib.hid (HG.out.only (((But.refl b _).drewN q)) hlt)
    have HB2 := Lib.hid ((But.of_below HG.out.below).trans ((But.refl b _).drewN q))
    have HR2 := Lib.hid ((HR.out.below HG.out.below hlt).drewN q)
    have h1 : R.toList = [] := by
      rw [ByteArray.toList_eq]
      have e2 : R.data.toList.length = R.size := by simp
      have := HRs.out
      exact List.eq_nil_of_length_eq_zero (by omega)
    have h2 : R.toList.isEmpty = true := by rw [h1]; rfl
    go_wp2_with fail
    refine (fin_any w.heap.size b o s _ k 0 _ w rfl hlt HG2.out HR2.out).mono ?_
    rintro e w3 ⟨ev, rfl, he, hr3, hb3⟩
    have HE := Lib.hid he; clear he
    have HR3 := Lib.hid hr3; clear hr3
    have HB3 := Lib.hid hb3; clear hb3
    go_wp2_with fail
    go_ret
    exact ⟨_, rfl, HE.out, by simpa using HR3.out, HB2.out.trans HB3.out⟩
end CodeC
end Go.Proofs.YtgjcbcakmcgjhaaDoor
