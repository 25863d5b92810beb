/-
  One call of both readers, the program's and the document's: they answer alike, and stand at one place behind it (wip/gen/step.py writes this text).
-/
import Derived.Test.YtgjcbcakmcgjhaaDoorCodeRefR2
import Derived.Test.YtgjcbcakmcgjhaaDoorCodeWalkOne
import Derived.BigQuiet
namespace Go.Proofs.YtgjcbcakmcgjhaaDoor
open Go.RowKit
namespace CodeC
open CodeM ErrC

theorem IsErr.but {w w1 w2 : World} {ev : Value} {c n : Nat} {a : Int} (h : IsErr w w1 ev c a) (hb : But n w1 w2) (hn : n < w.heap.size) : IsErr w w2 ev c a := by
  rcases h with h | ⟨h0, f, hv, hf, hF⟩
  · exact Or.inl h
  · have hlt := hF.lt
    exact Or.inr ⟨h0, f, hv, hf, ⟨by rw [hb.cell hlt (show f ≠ n by omega)]; exact hF.code, by rw [hb.cell hlt (show f ≠ n by omega)]; exact hF.what, by rw [hb.cell hlt (show f ≠ n by omega)]; exact hF.at_, by rw [hb.cell hlt (show f ≠ n by omega)]; exact hF.under⟩⟩
theorem IsErr.below {w w1 w2 : World} {ev : Value} {c : Nat} {a : Int} (h : IsErr w w1 ev c a) (hb : Below w1.heap.size w1 w2) : IsErr w w2 ev c a := by
  rcases h with h | ⟨h0, f, hv, hf, hF⟩
  · exact Or.inl h
  · exact Or.inr ⟨h0, f, hv, hf, hF.below hb hF.lt⟩

/-- a list's slice and its cells -/
theorem list_val {w : World} {B : Nat} {v : Value} {L : List ByteArray} (h : OwnT w B v L) : ∃ a cp, v = .slice a L.length cp ∧ (0 < L.length → ∃ g, a = some ⟨g, 0, none⟩ ∧ g < w.heap.size ∧ ∀ i, i < L.length → w.cell? ⟨g, i, none⟩ = some (.string (L.getD i ByteArray.empty))) := by
  rcases own_open h with ⟨rfl, rfl⟩ | ⟨g, cp, rfl, hg, hlt, hm, hc⟩
  · exact ⟨none, 0, rfl, fun h => absurd h (by simp)⟩
  · exact ⟨_, cp, rfl, fun _ => ⟨g, rfl, hlt, fun i hi => by have := hc i hi; rwa [Nat.zero_add] at this⟩⟩
/-- both stand at one place, and below B nothing was written -/
def StepE (b o x y : Nat) (s : ByteArray) (B : Nat) (w : World) (e : Ending) (w' : World) : Prop :=
  e = .returned (.bool true) ∧ ∃ k, k ≤ s.size ∧ IsRdr w' b o s k ∧ IsRef w' x y s k ∧ Below B w w'
/-- a step, as it is handed in: its box -/
def boxS (D T E : Int) (M : Nat) (w : World) : World := w.alloc (.cells #[.int .i64 D, .int .u64 M, .int .i64 T, .int .i64 E] 38)
theorem boxS_facts (D T E : Int) (M : Nat) (w : World) : (boxS D T E M w).cell? ⟨w.heap.size, 0, none⟩ = some (.int .i64 D) ∧ (boxS D T E M w).cell? ⟨w.heap.size, 1, none⟩ = some (.int .u64 M) ∧ (boxS D T E M w).cell? ⟨w.heap.size, 2, none⟩ = some (.int .i64 T) ∧ (boxS D T E M w).cell? ⟨w.heap.size, 3, none⟩ = some (.int .i64 E) ∧ Below w.heap.size w (boxS D T E M w) ∧ (boxS D T E M w).heap.size = w.heap.size + 1 := by
  unfold boxS
  refine ⟨?_, ?_, ?_, ?_, (Below.refl _ _).alloc (Nat.le_refl _) _, by simp⟩
  · rw [World.cell?_alloc_at _ _ _ _ rfl]; rfl
  · rw [World.cell?_alloc_at _ _ _ _ rfl]; rfl
  · rw [World.cell?_alloc_at _ _ _ _ rfl]; rfl
  · rw [World.cell?_alloc_at _ _ _ _ rfl]; rfl
structure Both (w : World) (b o x y : Nat) (s : ByteArray) (k B : Nat) : Prop where
  rdr : IsRdr w b o s k
  ref : IsRef w x y s k
  ne : b ≠ x
  hb : B ≤ b
  hx : B ≤ x
  hw : B ≤ w.heap.size
  le : k ≤ s.size
  sz : s.size ≤ 4611686018427387904
  vars : Vars w
  g0 : 0 < B
  g1 : 1 < B

theorem Vars.belowB {w w' : World} {B : Nat} (h : Vars w) (hb : Below B w w') (h0 : 0 < B) (h1 : 1 < B) : Vars w' :=
  ⟨by unfold ErrType; rw [hb.cell h0]; exact h.err, fun i hi => by obtain ⟨z, hz⟩ := h.pow i hi; exact ⟨z, by rw [hb.cell h1]; exact hz⟩⟩
theorem rrbyte_any (b o : Nat) (s : ByteArray) (k : Nat) (w : World) (hs : s.size ≤ 4611686018427387904) (hr : IsRef w b o s k) :
    Calls Tryd.prog 32 #[.pointer (some ⟨b, o, none⟩)] w fun e w' => (∃ p : Nat, e = .returned (.tuple #[.int .u8 (bRes k s).1, .int .i64 (bRes k s).2.1, .int .i64 p]) ∧ ((bRes k s).2.1 ≠ 0 → p = k)) ∧ IsRef w' b o s (bRes k s).2.2 ∧ Only b w w' := by
  by_cases h : k < s.size
  · have e1 : bRes k s = (s[k].toNat, 0, k + 1) := by simp [bRes, h]
    rw [e1]
    refine (rrbyte_ok b o s k w h hs hr).mono ?_
    rintro e w' ⟨rfl, h1, h2⟩
    exact ⟨⟨0, rfl, fun h => absurd rfl h⟩, h1, h2⟩
  · have e1 : bRes k s = (0, 20, k) := by simp [bRes, h]
    rw [e1]
    refine (rrbyte_short b o s k w (by omega) hr).mono ?_
    rintro e w' ⟨rfl, h1, h2⟩
    exact ⟨⟨k, rfl, fun _ => rfl⟩, h1, h2⟩
theorem rrend_any (b o : Nat) (s : ByteArray) (k : Nat) (w : World) (hr : IsRef w b o s k) :
    Calls Tryd.prog 35 #[.pointer (some ⟨b, o, none⟩)] w fun e w' => (∃ p : Nat, e = .returned (.tuple #[.int .i64 (endC k s), .int .i64 p]) ∧ (endC k s ≠ 0 → p = k)) ∧ IsRef w' b o s k ∧ Only b w w' := by
  by_cases h : k < s.size
  · have e1 : endC k s = 23 := by simp [endC, h]
    rw [e1]
    refine (rrend_rest b o s k w h hr).mono ?_
    rintro e w' ⟨rfl, h1, h2⟩
    exact ⟨⟨k, rfl, fun _ => rfl⟩, h1, h2⟩
  · have e1 : endC k s = 0 := by simp [endC, h]
    rw [e1]
    refine (rrend_ok b o s k w (by omega) hr).mono ?_
    rintro e w' ⟨rfl, h1, h2⟩
    exact ⟨⟨0, rfl, fun h => absurd rfl h⟩, h1, h2⟩
theorem uRes_facts (most k : Nat) (s : ByteArray) (hk : k ≤ s.size) : (uRes most k (s.data.toList.drop k)).2.1 ≤ 22 ∧ ((uRes most k (s.data.toList.drop k)).2.1 ≠ 0 → (uRes most k (s.data.toList.drop k)).2.2.1 = k) ∧ (uRes most k (s.data.toList.drop k)).2.2.2 ≤ s.size := by
  rcases uRes_cases most k s hk with ⟨e, he, he2, hu⟩ | ⟨v, d, hv, hd, hu⟩
  · rw [hu]; exact ⟨he2, fun _ => rfl, hk⟩
  · rw [hu]; exact ⟨Nat.zero_le 22, fun h => absurd rfl h, hd⟩
theorem wRes_facts (k : Nat) (s : ByteArray) (hk : k ≤ s.size) : (wRes k s).2.1 ≤ 22 ∧ ((wRes k s).2.1 ≠ 0 → (wRes k s).2.2.1 = k) ∧ (wRes k s).2.2.2 ≤ s.size := by
  by_cases h : s.size - k < 8
  · rw [wRes_short h]; exact ⟨show 20 ≤ 22 by decide, fun _ => rfl, hk⟩
  · rw [wRes_ok h]; exact ⟨Nat.zero_le 22, fun h => absurd rfl h, by show k + 8 ≤ _; omega⟩
theorem bRes_facts (k : Nat) (s : ByteArray) (hk : k ≤ s.size) : (bRes k s).2.1 ≤ 22 ∧ (bRes k s).2.2 ≤ s.size := by
  by_cases h : k < s.size
  · have e1 : bRes k s = (s[k].toNat, 0, k + 1) := by simp [bRes, h]
    rw [e1]; exact ⟨Nat.zero_le 22, by show k + 1 ≤ _; omega⟩
  · have e1 : bRes k s = (0, 20, k) := by simp [bRes, h]
    rw [e1]; exact ⟨show 20 ≤ 22 by decide, hk⟩
theorem tRes_facts (most k : Nat) (s : ByteArray) (hk : k ≤ s.size) : (tRes most k s).2.2.1 ≤ 22 ∧ ((tRes most k s).2.2.1 ≠ 0 → (tRes most k s).2.2.2.1 = k) ∧ (tRes most k s).2.2.2.2 ≤ s.size := by
  rcases tRes_cases most k s hk with ⟨e, he, he2, hu⟩ | ⟨a, q, h1, h2, h3, hu⟩
  · rw [hu]; exact ⟨he2, fun _ => rfl, hk⟩
  · rw [hu]; exact ⟨Nat.zero_le 22, fun h => absurd rfl h, h2⟩
theorem tsRes_facts (most each k : Nat) (s : ByteArray) (hk : k ≤ s.size) : (tsRes most each k s).2.1 ≤ 22 ∧ ((tsRes most each k s).2.1 ≠ 0 → (tsRes most each k s).2.2.1 = k) ∧ (tsRes most each k s).2.2.2 ≤ s.size ∧ (tsRes most each k s).1.length ≤ most := by
  rcases tsRes_cases most each k s hk with ⟨e, he, he2, hu⟩ | ⟨l, q, h1, h2, h3, hu⟩
  · rw [hu]; exact ⟨he2, fun _ => rfl, hk, Nat.zero_le _⟩
  · rw [hu]; exact ⟨Nat.zero_le 22, fun h => absurd rfl h, h1, h3⟩

set_option maxHeartbeats 4000000 in
set_option maxRecDepth 100000 in
theorem step_uint (b o x y k B M : Nat) (T E : Int) (s : ByteArray) (w : World) (h : Both w b o x y s k B) (hM : M < 18446744073709551616) :
    Calls Tryd.prog 18 #[.pointer (some ⟨b, o, none⟩), .pointer (some ⟨x, y, none⟩), .agg #[.int .i64 0, .int .u64 M, .int .i64 T, .int .i64 E]] w (StepE b o x y s B w) := by
  have HH := Lib.hid h
  have hlb := h.rdr.lt
  have hlx := h.ref.lt
  obtain ⟨c0, c1, c2, c3, hbx, hsz⟩ := boxS_facts 0 T E M w
  have HBX := Lib.hid hbx; clear hbx
  have HSZ := Lib.hid hsz; clear hsz
  have HR0 := Lib.hid (h.rdr.below HBX.out hlb)
  have HX0 := Lib.hid (h.ref.below HBX.out hlx)
  have HNE := Lib.hid h.ne
  clear h
  obtain ⟨f1, f2, f3⟩ := uRes_facts M k s HH.out.le
  have HM := Lib.hid hM; clear hM
  go_enter Tryd.func18, Tryd.ntmps18
  go_wp2_with fail
  refine (ruint_is b o s k M (boxS 0 T E M w) HH.out.le HH.out.sz HM.out HR0.out).mono ?_
  rintro e w1 ⟨ev, rfl, he, hr, hb⟩
  have HE1 := Lib.hid he; clear he
  have HR1 := Lib.hid hr; clear hr
  have HX1 := Lib.hid (HX0.out.but hb HNE.out.symm)
  have HB1 := Lib.hid ((HBX.out.mono HH.out.hw).trans (hb.below HH.out.hb (by rw [HSZ.out]; have := HH.out.hw; omega)))
  have d1 : w1.cell? ⟨w.heap.size, 1, none⟩ = some (.int .u64 M) := by rw [hb.cell (by rw [HSZ.out]; exact Nat.lt_succ_self _) (show w.heap.size ≠ b by omega)]; exact c1
  have d2 : w1.cell? ⟨w.heap.size, 2, none⟩ = some (.int .i64 T) := by rw [hb.cell (by rw [HSZ.out]; exact Nat.lt_succ_self _) (show w.heap.size ≠ b by omega)]; exact c2
  have d3 : w1.cell? ⟨w.heap.size, 3, none⟩ = some (.int .i64 E) := by rw [hb.cell (by rw [HSZ.out]; exact Nat.lt_succ_self _) (show w.heap.size ≠ b by omega)]; exact c3
  have HSZ1 := Lib.hid hb.size
  clear hb c0 c1 c2 c3
  go_wp2_with fail
  refine (rruint_any x y s k M w1 HH.out.le HH.out.sz HM.out HX1.out).mono ?_
  rintro e w2 ⟨rfl, hx, ho⟩
  have HBU := Lib.hid (show But x w1 w2 from But.of_only ho)
  clear ho
  have HX2 := Lib.hid hx; clear hx
  have HR2 := Lib.hid (HR1.out.but HBU.out HNE.out)
  have HE2 := Lib.hid (HE1.out.but HBU.out (by rw [HSZ.out]; omega))
  have HB2 := Lib.hid (HB1.out.trans (HBU.out.below HH.out.hx (Nat.le_trans HH.out.hw (by have := HB1.out.size; omega))))
  have HV2 := Lib.hid (Vars.belowB HH.out.vars HB2.out HH.out.g0 HH.out.g1)
  clear d1 d2 d3
  generalize uRes M k (s.data.toList.drop k) = u at *
  obtain ⟨v, er, p, q⟩ := u
  dsimp only at *
  have HP := Lib.hid f2; clear f2
  have HQ := Lib.hid f3; clear f3
  unfold uEnd
  go_wp2_with fail
  refine (is_err (w0 := boxS 0 T E M w) (c := er) (a := (k : Int)) HE2.out (by omega) (by have := HH.out.le; have := HH.out.sz; omega) (p : Int) (fun h => by rw [HP.out h]) HV2.out).mono ?_
  rintro e w3 ⟨rfl, hb3⟩
  have HB3 := Lib.hid (HB2.out.trans (hb3.mono (Nat.le_trans HH.out.hw HB2.out.size)))
  have HR3 := Lib.hid (HR2.out.below hb3 HR2.out.lt)
  have HX3 := Lib.hid (HX2.out.below hb3 HX2.out.lt)
  clear hb3
  go_wp2_with fail
  go_ret
  exact ⟨rfl, q, HQ.out, HR3.out, HX3.out, HB3.out⟩

set_option maxHeartbeats 4000000 in
set_option maxRecDepth 100000 in
theorem step_word (b o x y k B M : Nat) (T E : Int) (s : ByteArray) (w : World) (h : Both w b o x y s k B) :
    Calls Tryd.prog 18 #[.pointer (some ⟨b, o, none⟩), .pointer (some ⟨x, y, none⟩), .agg #[.int .i64 1, .int .u64 M, .int .i64 T, .int .i64 E]] w (StepE b o x y s B w) := by
  have HH := Lib.hid h
  have hlb := h.rdr.lt
  have hlx := h.ref.lt
  obtain ⟨c0, c1, c2, c3, hbx, hsz⟩ := boxS_facts 1 T E M w
  have HBX := Lib.hid hbx; clear hbx
  have HSZ := Lib.hid hsz; clear hsz
  have HR0 := Lib.hid (h.rdr.below HBX.out hlb)
  have HX0 := Lib.hid (h.ref.below HBX.out hlx)
  have HNE := Lib.hid h.ne
  clear h
  obtain ⟨f1, f2, f3⟩ := wRes_facts k s HH.out.le
  go_enter Tryd.func18, Tryd.ntmps18
  go_wp2_with fail
  refine (rword_is b o s k (boxS 1 T E M w) HH.out.le HH.out.sz HR0.out).mono ?_
  rintro e w1 ⟨ev, rfl, he, hr, hb⟩
  have HE1 := Lib.hid he; clear he
  have HR1 := Lib.hid hr; clear hr
  have HX1 := Lib.hid (HX0.out.but hb HNE.out.symm)
  have HB1 := Lib.hid ((HBX.out.mono HH.out.hw).trans (hb.below HH.out.hb (by rw [HSZ.out]; have := HH.out.hw; omega)))
  have d1 : w1.cell? ⟨w.heap.size, 1, none⟩ = some (.int .u64 M) := by rw [hb.cell (by rw [HSZ.out]; exact Nat.lt_succ_self _) (show w.heap.size ≠ b by omega)]; exact c1
  have d2 : w1.cell? ⟨w.heap.size, 2, none⟩ = some (.int .i64 T) := by rw [hb.cell (by rw [HSZ.out]; exact Nat.lt_succ_self _) (show w.heap.size ≠ b by omega)]; exact c2
  have d3 : w1.cell? ⟨w.heap.size, 3, none⟩ = some (.int .i64 E) := by rw [hb.cell (by rw [HSZ.out]; exact Nat.lt_succ_self _) (show w.heap.size ≠ b by omega)]; exact c3
  have HSZ1 := Lib.hid hb.size
  clear hb c0 c1 c2 c3
  go_wp2_with fail
  refine (rrword_any x y s k w1 HH.out.le HH.out.sz HX1.out).mono ?_
  rintro e w2 ⟨rfl, hx, ho⟩
  have HBU := Lib.hid (show But x w1 w2 from But.of_only ho)
  clear ho
  have HX2 := Lib.hid hx; clear hx
  have HR2 := Lib.hid (HR1.out.but HBU.out HNE.out)
  have HE2 := Lib.hid (HE1.out.but HBU.out (by rw [HSZ.out]; omega))
  have HB2 := Lib.hid (HB1.out.trans (HBU.out.below HH.out.hx (Nat.le_trans HH.out.hw (by have := HB1.out.size; omega))))
  have HV2 := Lib.hid (Vars.belowB HH.out.vars HB2.out HH.out.g0 HH.out.g1)
  clear d1 d2 d3
  generalize wRes k s = u at *
  obtain ⟨v, er, p, q⟩ := u
  dsimp only at *
  have HP := Lib.hid f2; clear f2
  have HQ := Lib.hid f3; clear f3
  unfold wEnd
  go_wp2_with fail
  refine (is_err (w0 := boxS 1 T E M w) (c := er) (a := (k : Int)) HE2.out (by omega) (by have := HH.out.le; have := HH.out.sz; omega) (p : Int) (fun h => by rw [HP.out h]) HV2.out).mono ?_
  rintro e w3 ⟨rfl, hb3⟩
  have HB3 := Lib.hid (HB2.out.trans (hb3.mono (Nat.le_trans HH.out.hw HB2.out.size)))
  have HR3 := Lib.hid (HR2.out.below hb3 HR2.out.lt)
  have HX3 := Lib.hid (HX2.out.below hb3 HX2.out.lt)
  clear hb3
  go_wp2_with fail
  go_ret
  exact ⟨rfl, q, HQ.out, HR3.out, HX3.out, HB3.out⟩

set_option maxHeartbeats 4000000 in
set_option maxRecDepth 100000 in
theorem step_byte (b o x y k B M : Nat) (T E : Int) (s : ByteArray) (w : World) (h : Both w b o x y s k B) :
    Calls Tryd.prog 18 #[.pointer (some ⟨b, o, none⟩), .pointer (some ⟨x, y, none⟩), .agg #[.int .i64 2, .int .u64 M, .int .i64 T, .int .i64 E]] w (StepE b o x y s B w) := by
  have HH := Lib.hid h
  have hlb := h.rdr.lt
  have hlx := h.ref.lt
  obtain ⟨c0, c1, c2, c3, hbx, hsz⟩ := boxS_facts 2 T E M w
  have HBX := Lib.hid hbx; clear hbx
  have HSZ := Lib.hid hsz; clear hsz
  have HR0 := Lib.hid (h.rdr.below HBX.out hlb)
  have HX0 := Lib.hid (h.ref.below HBX.out hlx)
  have HNE := Lib.hid h.ne
  clear h
  obtain ⟨f1, f3⟩ := bRes_facts k s HH.out.le
  go_enter Tryd.func18, Tryd.ntmps18
  go_wp2_with fail
  refine (rbyte_is b o s k (boxS 2 T E M w) HH.out.le HH.out.sz HR0.out).mono ?_
  rintro e w1 ⟨ev, rfl, he, hr, hb⟩
  have HE1 := Lib.hid he; clear he
  have HR1 := Lib.hid hr; clear hr
  have HX1 := Lib.hid (HX0.out.but hb HNE.out.symm)
  have HB1 := Lib.hid ((HBX.out.mono HH.out.hw).trans (hb.below HH.out.hb (by rw [HSZ.out]; have := HH.out.hw; omega)))
  have d1 : w1.cell? ⟨w.heap.size, 1, none⟩ = some (.int .u64 M) := by rw [hb.cell (by rw [HSZ.out]; exact Nat.lt_succ_self _) (show w.heap.size ≠ b by omega)]; exact c1
  have d2 : w1.cell? ⟨w.heap.size, 2, none⟩ = some (.int .i64 T) := by rw [hb.cell (by rw [HSZ.out]; exact Nat.lt_succ_self _) (show w.heap.size ≠ b by omega)]; exact c2
  have d3 : w1.cell? ⟨w.heap.size, 3, none⟩ = some (.int .i64 E) := by rw [hb.cell (by rw [HSZ.out]; exact Nat.lt_succ_self _) (show w.heap.size ≠ b by omega)]; exact c3
  have HSZ1 := Lib.hid hb.size
  clear hb c0 c1 c2 c3
  go_wp2_with fail
  refine (rrbyte_any x y s k w1 HH.out.sz HX1.out).mono ?_
  rintro e w2 ⟨⟨p, rfl, f2⟩, hx, ho⟩
  have HBU := Lib.hid (show But x w1 w2 from But.of_only ho)
  clear ho
  have HX2 := Lib.hid hx; clear hx
  have HR2 := Lib.hid (HR1.out.but HBU.out HNE.out)
  have HE2 := Lib.hid (HE1.out.but HBU.out (by rw [HSZ.out]; omega))
  have HB2 := Lib.hid (HB1.out.trans (HBU.out.below HH.out.hx (Nat.le_trans HH.out.hw (by have := HB1.out.size; omega))))
  have HV2 := Lib.hid (Vars.belowB HH.out.vars HB2.out HH.out.g0 HH.out.g1)
  clear d1 d2 d3
  generalize bRes k s = u at *
  obtain ⟨v, er, q⟩ := u
  dsimp only at *
  have HP := Lib.hid f2; clear f2
  have HQ := Lib.hid f3; clear f3
  go_wp2_with fail
  refine (is_err (w0 := boxS 2 T E M w) (c := er) (a := (k : Int)) HE2.out (by omega) (by have := HH.out.le; have := HH.out.sz; omega) (p : Int) (fun h => by rw [HP.out h]) HV2.out).mono ?_
  rintro e w3 ⟨rfl, hb3⟩
  have HB3 := Lib.hid (HB2.out.trans (hb3.mono (Nat.le_trans HH.out.hw HB2.out.size)))
  have HR3 := Lib.hid (HR2.out.below hb3 HR2.out.lt)
  have HX3 := Lib.hid (HX2.out.below hb3 HX2.out.lt)
  clear hb3
  go_wp2_with fail
  go_ret
  exact ⟨rfl, q, HQ.out, HR3.out, HX3.out, HB3.out⟩

set_option maxHeartbeats 4000000 in
set_option maxRecDepth 100000 in
theorem step_text (b o x y k B M : Nat) (T E : Int) (s : ByteArray) (w : World) (h : Both w b o x y s k B) (hT : T ≤ 9223372036854775807) :
    Calls Tryd.prog 18 #[.pointer (some ⟨b, o, none⟩), .pointer (some ⟨x, y, none⟩), .agg #[.int .i64 3, .int .u64 M, .int .i64 T, .int .i64 E]] w (StepE b o x y s B w) := by
  have HH := Lib.hid h
  have hlb := h.rdr.lt
  have hlx := h.ref.lt
  obtain ⟨c0, c1, c2, c3, hbx, hsz⟩ := boxS_facts 3 T E M w
  have HBX := Lib.hid hbx; clear hbx
  have HSZ := Lib.hid hsz; clear hsz
  have HR0 := Lib.hid (h.rdr.below HBX.out hlb)
  have HX0 := Lib.hid (h.ref.below HBX.out hlx)
  have HNE := Lib.hid h.ne
  clear h
  obtain ⟨f1, f2, f3⟩ := tRes_facts (cap T) k s HH.out.le
  go_enter Tryd.func18, Tryd.ntmps18
  go_wp2_with fail
  refine (rtext_is b o s k T (boxS 3 T E M w) HH.out.le HH.out.sz hT HR0.out).mono ?_
  rintro e w1 ⟨ev, rfl, he, hr, hb⟩
  have HE1 := Lib.hid he; clear he
  have HR1 := Lib.hid hr; clear hr
  have HX1 := Lib.hid (HX0.out.but hb HNE.out.symm)
  have HB1 := Lib.hid ((HBX.out.mono HH.out.hw).trans (hb.below HH.out.hb (by rw [HSZ.out]; have := HH.out.hw; omega)))
  have d1 : w1.cell? ⟨w.heap.size, 1, none⟩ = some (.int .u64 M) := by rw [hb.cell (by rw [HSZ.out]; exact Nat.lt_succ_self _) (show w.heap.size ≠ b by omega)]; exact c1
  have d2 : w1.cell? ⟨w.heap.size, 2, none⟩ = some (.int .i64 T) := by rw [hb.cell (by rw [HSZ.out]; exact Nat.lt_succ_self _) (show w.heap.size ≠ b by omega)]; exact c2
  have d3 : w1.cell? ⟨w.heap.size, 3, none⟩ = some (.int .i64 E) := by rw [hb.cell (by rw [HSZ.out]; exact Nat.lt_succ_self _) (show w.heap.size ≠ b by omega)]; exact c3
  have HSZ1 := Lib.hid hb.size
  clear hb c0 c1 c2 c3
  go_wp2_with fail
  refine (rrtext_any x y s k T w1 HH.out.le HH.out.sz hT HX1.out).mono ?_
  rintro e w2 ⟨rfl, hx, ho⟩
  have HBU := Lib.hid (show But x w1 w2 from But.of_only ho)
  clear ho
  have HX2 := Lib.hid hx; clear hx
  have HR2 := Lib.hid (HR1.out.but HBU.out HNE.out)
  have HE2 := Lib.hid (HE1.out.but HBU.out (by rw [HSZ.out]; omega))
  have HB2 := Lib.hid (HB1.out.trans (HBU.out.below HH.out.hx (Nat.le_trans HH.out.hw (by have := HB1.out.size; omega))))
  have HV2 := Lib.hid (Vars.belowB HH.out.vars HB2.out HH.out.g0 HH.out.g1)
  clear d1 d2 d3
  generalize tRes (cap T) k s = u at *
  obtain ⟨a1, a2, er, p, q⟩ := u
  dsimp only at *
  have HP := Lib.hid f2; clear f2
  have HQ := Lib.hid f3; clear f3
  unfold tEnd
  generalize s.extract a1 a2 = t at *
  go_wp2_with fail
  refine (is_err (w0 := boxS 3 T E M w) (c := er) (a := (k : Int)) HE2.out (by omega) (by have := HH.out.le; have := HH.out.sz; omega) (p : Int) (fun h => by rw [HP.out h]) HV2.out).mono ?_
  rintro e w3 ⟨rfl, hb3⟩
  have HB3 := Lib.hid (HB2.out.trans (hb3.mono (Nat.le_trans HH.out.hw HB2.out.size)))
  have HR3 := Lib.hid (HR2.out.below hb3 HR2.out.lt)
  have HX3 := Lib.hid (HX2.out.below hb3 HX2.out.lt)
  clear hb3
  go_wp2_with fail
  go_ret
  exact ⟨rfl, q, HQ.out, HR3.out, HX3.out, HB3.out⟩

set_option maxHeartbeats 4000000 in
set_option maxRecDepth 100000 in
theorem step_end (b o x y k B M : Nat) (D T E : Int) (s : ByteArray) (w : World) (h : Both w b o x y s k B) (hd0 : D ≠ 0) (hd1 : D ≠ 1) (hd2 : D ≠ 2) (hd3 : D ≠ 3) (hd4 : D ≠ 4) :
    Calls Tryd.prog 18 #[.pointer (some ⟨b, o, none⟩), .pointer (some ⟨x, y, none⟩), .agg #[.int .i64 D, .int .u64 M, .int .i64 T, .int .i64 E]] w (StepE b o x y s B w) := by
  have HH := Lib.hid h
  have hlb := h.rdr.lt
  have hlx := h.ref.lt
  obtain ⟨c0, c1, c2, c3, hbx, hsz⟩ := boxS_facts D T E M w
  have HBX := Lib.hid hbx; clear hbx
  have HSZ := Lib.hid hsz; clear hsz
  have HR0 := Lib.hid (h.rdr.below HBX.out hlb)
  have HX0 := Lib.hid (h.ref.below HBX.out hlx)
  have HNE := Lib.hid h.ne
  clear h c0 c1 c2 c3
  have t0 : (D == 0) = false := beq_eq_false_iff_ne.2 hd0
  have t1 : (D == 1) = false := beq_eq_false_iff_ne.2 hd1
  have t2 : (D == 2) = false := beq_eq_false_iff_ne.2 hd2
  have t3 : (D == 3) = false := beq_eq_false_iff_ne.2 hd3
  have t4 : (D == 4) = false := beq_eq_false_iff_ne.2 hd4
  clear hd0 hd1 hd2 hd3 hd4
  have hc : endC k s ≤ 22 + 1 := by unfold endC; split <;> omega
  go_enter Tryd.func18, Tryd.ntmps18
  go_wp2_with fail
  refine (rrend_any x y s k (boxS D T E M w) HX0.out).mono ?_
  rintro e w1 ⟨⟨p, rfl, f2⟩, hx, ho⟩
  have HP := Lib.hid f2; clear f2
  have HX1 := Lib.hid hx; clear hx
  have HBU := Lib.hid (But.of_only ho); clear ho
  have HR1 := Lib.hid (HR0.out.but HBU.out HNE.out)
  have HB1 := Lib.hid ((HBX.out.mono HH.out.hw).trans (HBU.out.below HH.out.hx (by rw [HSZ.out]; have := HH.out.hw; omega)))
  have hs1 := HBU.out.size
  rw [HSZ.out] at hs1
  go_wp2_with fail
  refine (rend_is b o s k w1 HH.out.le HR1.out).mono ?_
  rintro e w2 ⟨ev, rfl, he, hr, hb⟩
  have HE2 := Lib.hid he; clear he
  have HR2 := Lib.hid hr; clear hr
  have HX2 := Lib.hid (HX1.out.but hb HNE.out.symm)
  have HB2 := Lib.hid (HB1.out.trans (hb.below HH.out.hb (Nat.le_trans HH.out.hw HB1.out.size)))
  have HV2 := Lib.hid (Vars.belowB HH.out.vars HB2.out HH.out.g0 HH.out.g1)
  clear hb
  generalize endC k s = er at *
  go_wp2_with fail
  refine (is_err (w0 := w1) (c := er) (a := (k : Int)) HE2.out (by omega) (by have := HH.out.le; have := HH.out.sz; omega) (p : Int) (fun h => by rw [HP.out h]) HV2.out).mono ?_
  rintro e w3 ⟨rfl, hb3⟩
  have HB3 := Lib.hid (HB2.out.trans (hb3.mono (Nat.le_trans HH.out.hw HB2.out.size)))
  have HR3 := Lib.hid (HR2.out.below hb3 HR2.out.lt)
  have HX3 := Lib.hid (HX2.out.below hb3 HX2.out.lt)
  clear hb3
  go_wp2_with fail
  go_ret
  exact ⟨rfl, k, HH.out.le, HR3.out, HX3.out, HB3.out⟩

set_option maxHeartbeats 4000000 in
set_option maxRecDepth 100000 in
theorem step_long (b o x y k B M : Nat) (T E : Int) (s : ByteArray) (w : World) (h : Both w b o x y s k B) (hT : 65536 < T) :
    Calls Tryd.prog 18 #[.pointer (some ⟨b, o, none⟩), .pointer (some ⟨x, y, none⟩), .agg #[.int .i64 4, .int .u64 M, .int .i64 T, .int .i64 E]] w (StepE b o x y s B w) := by
  have HH := Lib.hid h
  have hlb := h.rdr.lt
  have hlx := h.ref.lt
  obtain ⟨c0, c1, c2, c3, hbx, hsz⟩ := boxS_facts 4 T E M w
  have HBX := Lib.hid hbx; clear hbx
  have HSZ := Lib.hid hsz; clear hsz
  have HR0 := Lib.hid (h.rdr.below HBX.out hlb)
  have td : decide (65536 < T) = true := by simpa using hT
  have HX0 := Lib.hid (h.ref.below HBX.out hlx)
  have HNE := Lib.hid h.ne
  clear h
  go_enter Tryd.func18, Tryd.ntmps18
  go_wp2_with fail
  go_ret
  exact ⟨rfl, k, HH.out.le, HR0.out, HX0.out, HBX.out.mono HH.out.hw⟩

set_option maxHeartbeats 4000000 in
set_option maxRecDepth 100000 in
theorem step_texts (b o x y k B M : Nat) (T E : Int) (s : ByteArray) (w : World) (h : Both w b o x y s k B) (hT : T ≤ 65536) (hE : E ≤ 9223372036854775807) :
    Calls Tryd.prog 18 #[.pointer (some ⟨b, o, none⟩), .pointer (some ⟨x, y, none⟩), .agg #[.int .i64 4, .int .u64 M, .int .i64 T, .int .i64 E]] w (StepE b o x y s B w) := by
  have HH := Lib.hid h
  have hlb := h.rdr.lt
  have hlx := h.ref.lt
  obtain ⟨c0, c1, c2, c3, hbx, hsz⟩ := boxS_facts 4 T E M w
  have HBX := Lib.hid hbx; clear hbx
  have HSZ := Lib.hid hsz; clear hsz
  have HR0 := Lib.hid (h.rdr.below HBX.out hlb)
  have HX0 := Lib.hid (h.ref.below HBX.out hlx)
  have HNE := Lib.hid h.ne
  clear h
  obtain ⟨f1, f2, f3, f4⟩ := tsRes_facts (cap T) (cap E) k s HH.out.le
  have td : decide (65536 < T) = false := by simpa using hT
  have hTc : cap T ≤ 65536 := by unfold cap; omega
  go_enter Tryd.func18, Tryd.ntmps18
  go_wp2_with fail
  refine (rtexts_is b o s k T E (boxS 4 T E M w) HH.out.le HH.out.sz hT hE HR0.out).mono ?_
  rintro e w1 ⟨v1, ev, rfl, hown, he, hr, hb⟩
  have HE1 := Lib.hid he; clear he
  have HR1 := Lib.hid hr; clear hr
  have HX1 := Lib.hid (HX0.out.but hb HNE.out.symm)
  have HB1 := Lib.hid ((HBX.out.mono HH.out.hw).trans (hb.below HH.out.hb (by rw [HSZ.out]; have := HH.out.hw; omega)))
  have d1 : w1.cell? ⟨w.heap.size, 1, none⟩ = some (.int .u64 M) := by rw [hb.cell (by rw [HSZ.out]; exact Nat.lt_succ_self _) (show w.heap.size ≠ b by omega)]; exact c1
  have d2 : w1.cell? ⟨w.heap.size, 2, none⟩ = some (.int .i64 T) := by rw [hb.cell (by rw [HSZ.out]; exact Nat.lt_succ_self _) (show w.heap.size ≠ b by omega)]; exact c2
  have d3 : w1.cell? ⟨w.heap.size, 3, none⟩ = some (.int .i64 E) := by rw [hb.cell (by rw [HSZ.out]; exact Nat.lt_succ_self _) (show w.heap.size ≠ b by omega)]; exact c3
  have HSZ1 := Lib.hid hb.size
  clear hb c0 c1 c2 c3
  go_wp2_with fail
  refine (rrtexts_is x y s k T E w1 HH.out.le HH.out.sz hT hE HX1.out).mono ?_
  rintro e w2 ⟨v2, rfl, hown2, hx, ho⟩
  have HBU := Lib.hid (show But x w1 w2 from ho)
  have hownB := hown.but HBU.out (by rw [HSZ.out]; omega)
  clear ho hown
  have HX2 := Lib.hid hx; clear hx
  have HR2 := Lib.hid (HR1.out.but HBU.out HNE.out)
  have HE2 := Lib.hid (HE1.out.but HBU.out (by rw [HSZ.out]; omega))
  have HB2 := Lib.hid (HB1.out.trans (HBU.out.below HH.out.hx (Nat.le_trans HH.out.hw (by have := HB1.out.size; omega))))
  have HV2 := Lib.hid (Vars.belowB HH.out.vars HB2.out HH.out.g0 HH.out.g1)
  clear d1 d2 d3
  generalize tsRes (cap T) (cap E) k s = u at *
  obtain ⟨L, er, p, q⟩ := u
  dsimp only at *
  have HP := Lib.hid f2; clear f2
  have HQ := Lib.hid f3; clear f3
  rcases list_val hownB with ⟨a1, cp1, rfl, g1⟩
  rcases list_val hown2 with ⟨a2, cp2, rfl, g2⟩
  have G1 := Lib.hid g1
  have G2 := Lib.hid g2
  clear g1 g2 hownB hown2
  have tne : ((L.length : Int) != (L.length : Int)) = false := by simp
  have hlen : L.length ≤ 65536 := by omega
  go_wp2_with fail
  refine (is_err (w0 := boxS 4 T E M w) (c := er) (a := (k : Int)) HE2.out (by omega) (by have := HH.out.le; have := HH.out.sz; omega) (p : Int) (fun h => by rw [HP.out h]) HV2.out).mono ?_
  rintro e w3 ⟨rfl, hb3⟩
  have HB3 := Lib.hid (HB2.out.trans (hb3.mono (Nat.le_trans HH.out.hw HB2.out.size)))
  have HR3 := Lib.hid (HR2.out.below hb3 HR2.out.lt)
  have HX3 := Lib.hid (HX2.out.below hb3 HX2.out.lt)
  have HK3 := Lib.hid hb3
  clear hb3
  go_wp2_with fail
  go_loopw [32] (fun i wr => ∃ j z : Nat, j ≤ L.length ∧ i = .int .i64 j ∧ wr = w3.drewN z) (fun i _ => L.length - (intOf i).toNat)
  case atStart => exact ⟨0, 0, Nat.zero_le _, rfl, rfl⟩
  case round =>
    obtain ⟨j, z, hj, rfl, rfl⟩ := hrel
    by_cases hlt : j < L.length
    · have hdec : decide (j < L.length) = true := by simpa using hlt
      obtain ⟨r1, rfl, hr1, hc1⟩ := G1.out (by omega)
      obtain ⟨r2, rfl, hr2, hc2⟩ := G2.out (by omega)
      have k1 : w3.cell? ⟨r1, j, none⟩ = some (.string (L.getD j ByteArray.empty)) := by rw [HK3.out.cell hr1]; exact hc1 j hlt
      have k2 : w3.cell? ⟨r2, j, none⟩ = some (.string (L.getD j ByteArray.empty)) := by rw [HK3.out.cell hr2]; exact hc2 j hlt
      clear hc1 hc2
      generalize L.getD j ByteArray.empty = t at *
      go_wp2_with fail
      go_quiet (fail)
      go_wp2_with fail
      go_roundw
      case rel => exact ⟨j + 1, _, by omega, by go_num, rfl⟩
      case measure => simp [intOf]; omega
    · have hdec : decide (j < L.length) = false := by simpa using hlt
      go_wp2_with fail
      go_ret
      exact ⟨rfl, q, HQ.out, HR3.out.drewN z, HX3.out.drewN z, below_drewN HB3.out z⟩
end CodeC
end Go.Proofs.YtgjcbcakmcgjhaaDoor
