/-
  The document's own answers for layer 7: Order, Same, Least, Next: one contract a function.
-/
import Derived.Test.YtapikdgncdcneaaGreatDoorVerRef4
namespace Go.Proofs.YtapikdgncdcneaaGreatDoor
open Go.RowKit
namespace VerC
open VerM StrC TextR
set_option linter.unusedSimpArgs false

/-- how the document's Order ends -/
def rordE (a b : B) : Ending := match readB a, readB b with | some v, some u => .returned (.tuple #[.int .i64 (cmpV v u), .int .i64 0]) | _, _ => .returned (.tuple #[.int .i64 0, .int .i64 70])
theorem rordE_some {a b : B} {v u : Ver} (h1 : readB a = some v) (h2 : readB b = some u) : rordE a b = .returned (.tuple #[.int .i64 (cmpV v u), .int .i64 0]) := by unfold rordE; rw [h1, h2]
theorem rordE_none1 {a b : B} (h1 : readB a = none) : rordE a b = .returned (.tuple #[.int .i64 0, .int .i64 70]) := by unfold rordE; rw [h1]
theorem rordE_none2 {a b : B} (h2 : readB b = none) : rordE a b = .returned (.tuple #[.int .i64 0, .int .i64 70]) := by unfold rordE; rw [h2]; split <;> simp_all
/-- the same version -/
def sameB (v u : Ver) : Bool := decide (v.a = u.a) && decide (v.b = u.b) && decide (v.c = u.c) && decide (v.pre = u.pre)
theorem same_no {v u : Ver} (h : ¬ (v.a = u.a ∧ v.b = u.b ∧ v.c = u.c ∧ v.pre.length = u.pre.length)) : sameB v u = false := by
  unfold sameB
  rw [Bool.eq_false_iff]
  intro e
  simp only [Bool.and_eq_true, decide_eq_true_eq] at e
  exact h ⟨e.1.1.1, e.1.1.2, e.1.2, by rw [e.2]⟩
theorem same_self (v : Ver) : sameB v v = true := by simp [sameB]
theorem take_same {p q : TL} {k : Nat} (h1 : k < p.length) (h2 : k < q.length) : (p.take (k + 1) = q.take (k + 1)) ↔ p.take k = q.take k ∧ p.getD k [] = q.getD k [] := by
  rw [List.take_add_one, List.take_add_one, List.getElem?_eq_getElem h1, List.getElem?_eq_getElem h2]
  constructor
  · intro e
    have hl : (p.take k).length = (q.take k).length := by rw [List.length_take, List.length_take]; omega
    have := List.append_inj e hl
    exact ⟨this.1, by simpa [h1, h2] using this.2⟩
  · rintro ⟨e1, e2⟩
    rw [e1]
    congr 1
    simpa [h1, h2] using e2
theorem str_bne {a b : B} : ((str a).toList != (str b).toList) = !decide (a = b) := by rw [bne, str_beq]
set_option maxHeartbeats 2000000 in
set_option maxRecDepth 100000 in
theorem rSame_any (v u : Ver) (a1 : Option Addr) (c1 : Nat) (a2 : Option Addr) (c2 : Nat) (w : World) (hT1 : Txs w a1 c1 v.pre) (hT2 : Txs w a2 c2 u.pre) :
    Calls Tryz.prog 31 #[verV v.a v.b v.c a1 v.pre.length c1, verV u.a u.b u.c a2 u.pre.length c2] w fun e w' => e = .returned (.bool (sameB v u)) ∧ Below w.heap.size w w' := by
  have HNO := Lib.hid (fun h => same_no (v := v) (u := u) h)
  have HY := Lib.hid (show v.a = u.a → v.b = u.b → v.c = u.c → sameB v u = decide (v.pre = u.pre) from fun h1 h2 h3 => by unfold sameB; rw [h1, h2, h3]; simp)
  obtain ⟨na, nb, nc, p⟩ := v
  obtain ⟨ma, mb, mc, q⟩ := u
  dsimp only at *
  generalize sameB ⟨na, nb, nc, p⟩ ⟨ma, mb, mc, q⟩ = r at *
  have HB0 := Lib.hid (((Below.refl _ w).alloc (Nat.le_refl _) (verO na nb nc a1 p.length c1)).alloc (by simp) (verO ma mb mc a2 q.length c2))
  have e1 : ((na : Int) != (ma : Int)) = !decide (na = ma) := by rw [bne]; congr 1; rw [Bool.eq_iff_iff]; simp; omega
  have e2 : ((nb : Int) != (mb : Int)) = !decide (nb = mb) := by rw [bne]; congr 1; rw [Bool.eq_iff_iff]; simp; omega
  have e3 : ((nc : Int) != (mc : Int)) = !decide (nc = mc) := by rw [bne]; congr 1; rw [Bool.eq_iff_iff]; simp; omega
  have e4 : ((p.length : Int) != (q.length : Int)) = !decide (p.length = q.length) := by rw [bne]; congr 1; rw [Bool.eq_iff_iff]; simp; omega
  by_cases hall : na = ma ∧ nb = mb ∧ nc = mc ∧ p.length = q.length
  rotate_left
  · have H := Lib.hid (HNO.out hall)
    generalize hb1 : decide (na = ma) = b1 at *
    generalize hb2 : decide (nb = mb) = b2 at *
    generalize hb3 : decide (nc = mc) = b3 at *
    generalize hb4 : decide (p.length = q.length) = b4 at *
    have hb : (b1 && b2 && b3 && b4) = false := by
      rw [Bool.eq_false_iff]; intro e
      rw [← hb1, ← hb2, ← hb3, ← hb4] at e
      simp only [Bool.and_eq_true, decide_eq_true_eq] at e
      exact hall ⟨e.1.1.1, e.1.1.2, e.1.2, e.2⟩
    clear hall HNO HY hT1 hT2 hb1 hb2 hb3 hb4
    generalize (na : Int) = xa at *
    generalize (nb : Int) = xb at *
    generalize (nc : Int) = xc at *
    generalize (ma : Int) = ya at *
    generalize (mb : Int) = yb at *
    generalize (mc : Int) = yc at *
    cases b1 <;> cases b2 <;> cases b3 <;> cases b4 <;> first | (exfalso; revert hb; decide) | skip
    all_goals clear hb
    all_goals go_enter Tryz.func31, Tryz.ntmps31
    all_goals go_wp2_with fail
    all_goals go_ret
    all_goals exact ⟨by rw [H.out]; rfl, HB0.out⟩
  obtain ⟨rfl, rfl, rfl, hlen⟩ := hall
  have HR := Lib.hid (HY.out rfl rfl rfl)
  have HT := Lib.hid (fun k (h1 : k < p.length) (h2 : k < q.length) => take_same h1 h2)
  have HE1 : Hid (p.take p.length = q.take q.length ↔ p = q) := Lib.hid (by rw [List.take_length, List.take_length])
  have hr1 := (heap_alloc_old (w.alloc (verO na nb nc a1 p.length c1)) (verO na nb nc a2 q.length c2) (r := w.heap.size) (by simp)).trans (heap_alloc_new w (verO na nb nc a1 p.length c1))
  have hr2 := heap_alloc_new (w.alloc (verO na nb nc a1 p.length c1)) (verO na nb nc a2 q.length c2)
  rw [show (w.alloc (verO na nb nc a1 p.length c1)).heap.size = w.heap.size + 1 by simp] at hr2
  have HTA := Lib.hid ((hT1.alloc (verO na nb nc a1 p.length c1)).alloc (verO na nb nc a2 q.length c2))
  have HTB := Lib.hid ((hT2.alloc (verO na nb nc a1 p.length c1)).alloc (verO na nb nc a2 q.length c2))
  have HLEN := Lib.hid hlen
  have e4' : ((p.length : Int) != (q.length : Int)) = false := by rw [hlen]; simp
  clear HNO HY hT1 hT2 e1 e2 e3 e4 hlen
  generalize (na : Int) = xa at *
  generalize (nb : Int) = xb at *
  generalize (nc : Int) = xc at *
  go_enter Tryz.func31, Tryz.ntmps31
  go_wp2_with fail
  obtain ⟨P0, P1, P2, P3⟩ := ver_cells hr1
  obtain ⟨Q0, Q1, Q2, Q3⟩ := ver_cells hr2
  clear P0 P1 P2 Q0 Q1 Q2 hr1 hr2
  generalize (w.alloc (verO xa xb xc a1 p.length c1)).alloc (verO xa xb xc a2 q.length c2) = W at *
  go_loopw [5] (fun iv wr => ∃ k n : Nat, k ≤ p.length ∧ iv = .int .i64 k ∧ Hid (p.take k = q.take k) ∧ wr = W.drewN n) (fun iv _ => p.length - (intOf iv).toNat)
  case atStart => exact ⟨0, 0, Nat.zero_le _, rfl, Lib.hid (by simp), rfl⟩
  case round =>
    obtain ⟨k, n, hk, rfl, HK, rfl⟩ := hrel
    by_cases hlt : k < p.length
    · have hdec : decide (k < p.length) = true := by simpa using hlt
      have hlt2 : k < q.length := by have := HLEN.out; omega
      obtain ⟨b1, o1, rfl, hc1⟩ := HTA.out.cells (by omega)
      obtain ⟨b2, o2, rfl, hc2⟩ := HTB.out.cells (by omega)
      have hck1 := hc1 k hlt
      have hck2 := hc2 k hlt2
      have HTK := Lib.hid (HT.out k hlt hlt2)
      have hfew := HTA.out.few
      clear hc1 hc2
      have hb := str_bne (a := p.getD k []) (b := q.getD k [])
      generalize p.getD k [] = s at *
      generalize q.getD k [] = u at *
      by_cases hsu : s = u
      · have hb2 : ((str s).toList == (str u).toList) = true := by rw [str_beq]; simp [hsu]
        have HN := Lib.hid (HTK.out.2 ⟨HK.out, hsu⟩)
        clear hb hsu
        go_wp2_with fail
        go_quiet (fail)
        go_wp2_with fail
        go_roundw
        case rel => exact ⟨k + 1, _, by omega, by go_num, HN, rfl⟩
        case measure => simp [intOf]; omega
      · have hb2 : ((str s).toList == (str u).toList) = false := by rw [str_beq]; simp [hsu]
        have HN := Lib.hid (show r = false by
          rw [HR.out, decide_eq_false_iff_not]
          intro e
          have := HTK.out.1 (by rw [e])
          exact hsu this.2)
        clear hb hsu
        go_wp2_with fail
        go_quiet (fail)
        go_wp2_with fail
        go_ret
        exact ⟨by rw [HN.out]; rfl, below_drewN (below_drewN HB0.out _) _⟩
    · have hdec : decide (k < p.length) = false := by simpa using hlt
      have HN := Lib.hid (show r = true by
        rw [HR.out, decide_eq_true_eq]
        refine HE1.out.1 ?_
        have h1 : k = p.length := by omega
        have h2 := HK.out
        rw [h1] at h2
        rw [← HLEN.out]
        exact h2)
      go_wp2_with fail
      go_ret
      exact ⟨by rw [HN.out]; rfl, below_drewN HB0.out _⟩
end VerC
end Go.Proofs.YtapikdgncdcneaaGreatDoor
