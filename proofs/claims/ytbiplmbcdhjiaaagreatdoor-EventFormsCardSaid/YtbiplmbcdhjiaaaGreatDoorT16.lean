/-
  What the proof of EventForms stands on, part 16.
-/
import Derived.Test.YtbiplmbcdhjiaaaGreatDoorT15
set_option linter.unusedSimpArgs false
set_option linter.unusedVariables false
set_option maxHeartbeats 16000000
namespace Go.Proofs.YtbiplmbcdhjiaaaGreatDoor
open Go.Lib (hid)
section
open Go.RowKit
namespace SpanC
open VerM SpanM StrC TextR VerC
end SpanC
open Go.RowKit
namespace SpanC
open VerM SpanM
end SpanC
open Go.RowKit
namespace SpanC
open VerM SpanM
theorem zkp {v : Ver} (h : may v = true) : cmpV (leastV zeroV) v ≤ 0 := by
 by_cases h1 : v.a = 0
 · by_cases h2 : v.b = 0
   · by_cases h3 : v.c = 0
     · exact zbk h h1 h2 h3
     · unfold cmpV lex leastV zeroV
       simp only [h1, h2, zbj, ne_eq, not_true, if_false]
       rw [show cmpN 0 v.c = -1 from if_pos (by omega), if_pos (by decide)]
       decide
   · unfold cmpV lex leastV zeroV
     simp only [h1, zbj, ne_eq, not_true, if_false]
     rw [show cmpN 0 v.b = -1 from if_pos (by omega), if_pos (by decide)]
     decide
 · unfold cmpV lex leastV zeroV
   simp only [ne_eq]
   rw [show cmpN 0 v.a = -1 from if_pos (by omega), if_pos (by decide)]
   decide
theorem zkq {v : Ver} (h : may v = true) (k : Nat) : cE allS.f ⟨v, k⟩ ≤ 0 := by
 have h1 := zkp h
 unfold cE VerM.lex late allS
 simp only [show ¬ ((0 : Nat) = 2) from by decide, if_false]
 by_cases h2 : cmpN 0 (if k = 2 then 1 else 0) ≠ 0
 · rw [if_pos h2]
   unfold cmpN at h2 ⊢
   (repeat' split) <;> omega
 · rw [if_neg h2]
   by_cases h3 : cmpV (leastV zeroV) v ≠ 0
   · rw [if_pos h3]; exact h1
   · rw [if_neg h3]
     unfold cmpN
     (repeat' split) <;> omega
theorem zkr (v : Ver) {k : Nat} (hk : k ≠ 2) : cE ⟨v, k⟩ allS.t < 0 := by
 unfold cE VerM.lex late allS
 simp only [hk, if_false, if_true]
 rw [if_pos (by decide)]
 decide
theorem zks {L : List IvG} (h : spanB L = true) : SpanM.Can (spanM L) := by
 unfold spanB at h
 rw [Bool.and_eq_true, List.all_eq_true] at h
 have hg : ∀ i (hi : i < L.length), cE (toSt L[i]).f.ed (toSt L[i]).t.ed < 0 ∧ (∀ j (hj : j + 1 = i), cE (toSt (L[j]'(by omega))).t.ed (toSt L[i]).f.ed < 0) := by
  intro i hi
  have := h.2 i (List.mem_range.2 hi)
  unfold goodAt empB at this
  rw [getElem!_pos L i hi] at this
  simp only [Bool.and_eq_true, Bool.or_eq_true, decide_eq_true_iff, Bool.not_eq_true', decide_eq_false_iff_not] at this
  refine ⟨?_, ?_⟩
  · have h2 : ¬ 0 ≤ cE (toSt L[i]).f.ed (toSt L[i]).t.ed := this.1.2
    omega
  · intro j hj
    have h2 := this.2.resolve_left (by omega)
    rw [getElem!_pos L (i - 1) (by omega)] at h2
    have e : i - 1 = j := by omega
    subst e
    exact h2
 have hp : ∀ d i (hi : i + d + 1 < L.length), cE (toSt (L[i]'(by omega))).t.ed (toSt L[i + d + 1]).f.ed < 0 := by
  intro d
  induction d with
  | zero => intro i hi; exact (hg (i + 1) hi).2 i rfl
  | succ d ih =>
   intro i hi
   have h1 := ih i (by omega)
   have h2 := (hg (i + d + 1) (by omega)).1
   have h3 := (hg (i + d + 1 + 1) hi).2 (i + d + 1) rfl
   exact lt_le h1 (by have := lt_le h2 (show cE _ _ ≤ 0 from by exact Int.le_of_lt h3); exact Int.le_of_lt this)
 unfold spanM
 refine ⟨fun s hs => ?_, ?_⟩
 · obtain ⟨x, hx, rfl⟩ := List.mem_map.1 hs
   obtain ⟨i, hi, rfl⟩ := List.mem_iff_getElem.1 hx
   exact (hg i hi).1
 · rw [List.pairwise_map, List.pairwise_iff_getElem]
   intro i j hi hj hij
   have := hp (j - i - 1) i (by omega)
   have e : i + (j - i - 1) + 1 = j := by omega
   simp only [e] at this
   exact this
theorem zkt {L : List IvG} (h : spanB L = true) : ∀ x ∈ L, rightB x = true := by
 unfold spanB at h
 rw [Bool.and_eq_true, List.all_eq_true] at h
 intro x hx
 obtain ⟨i, hi, rfl⟩ := List.mem_iff_getElem.1 hx
 have := h.2 i (List.mem_range.2 hi)
 unfold goodAt at this
 rw [getElem!_pos L i hi] at this
 simp only [Bool.and_eq_true] at this
 exact this.1.1
end SpanC
open Go.RowKit
namespace SpanC
open VerM SpanM StrC TextR VerC
section
variable {P : Program} (w : World)
theorem zku {ops : Array Oper} {rest : List Oper} {o : Oper} {a : Act} {Q : Exit → Act → World → Prop} (hgd : o.guard = none) (s x : Operand) (t : TypeId)
 (ho : o.op = .call { callee := .builtin .append, args := #[s, x], argTypes := #[t, t] })
 (base : Nat) (e : TypeId) (i : TypeInfo) (z : Value) (size bytes : Nat) (ht : P.underlying t = some (.slice e)) (hi : P.info? e = some i) (hz : i.zero = some z)
 (hsize : i.size = size) (hby : i.bytes = bytes) (hzs : z.cells.size = size) (hsz : 0 < size)
 (v : Value) (n : Nat) (xs : List Value) (hs : a.eval s = v) (hown : w.ownsRow base e size v n xs)
 (ax : Option Addr) (m c : Nat) (news : List Value) (hx : a.eval x = .slice ax m c) (hnil : ax = none → m = 0 ∧ c = 0) (hl : news.length = m * size) (hnews : ∀ ad, ax = some ad → ∀ j u, news[j]? = some u → w.cell? (ad.add j) = some u) (h1 : ∀ u ∈ news, u.oneCell' = true)
 (h63 : n + m ≤ maxLen) (hbytes : (n + m) * bytes ≤ 140737488355328) (hbase : base ≤ w.heap.size)
 (h : ∀ v' w', w'.ownsRow base e size v' (n + m) (xs ++ news) → w.grownBy w' v.ownBlock → wpList P ops Q rest (a.put o.dst v') w') : wpList P ops Q (o :: rest) a w := by
 cases ax with
 | some ad => exact wpList_append_own w hgd s x t ho base e i z size bytes ht hi hz hsize hby hzs hsz v n xs hs hown ad m c news hx hl (hnews ad rfl) h1 h63 hbytes hbase fun v' w' g1 g2 _ => h v' w' g1 g2
 | none =>
  obtain ⟨rfl, rfl⟩ := hnil rfl
  obtain rfl : news = [] := List.eq_nil_of_length_eq_zero (by simpa using hl)
  refine wpList_append_own_none hgd s x t ho base e i size ht hi v n xs hs hown hx ?_
  exact h v w (by simpa using hown) ⟨rfl, rfl, rfl, Nat.le_refl _, fun _ _ _ => rfl⟩
end
end SpanC
end
end Go.Proofs.YtbiplmbcdhjiaaaGreatDoor
