/-
  Texts of a version where rows are written; how Read ends, parted.
-/
import Derived.Test.YtbjifikbfagdjaaGreatDoorVerRef2
namespace Go.Proofs.YtbjifikbfagdjaaGreatDoor
open Go.RowKit
namespace VerC
open VerM StrC TextR
set_option linter.unusedSimpArgs false

theorem isT_of {l : B} {v : Ver} (h : readB l = some v) : isT l = true := by unfold isT; rw [h]; rfl
theorem isT_no {l : B} (h : readB l = none) : isT l = false := by unfold isT; rw [h]; rfl
theorem readE_cases {l : B} {w : World} {x : Value} (h : ReadE l w (.returned x)) : (∃ v a cap, readB l = some v ∧ x = .tuple #[verV v.a v.b v.c a v.pre.length cap, .int .i64 0] ∧ Txs w a cap v.pre) ∨ (readB l = none ∧ x = .tuple #[verV 0 0 0 none 0 0, .int .i64 70]) := by
  unfold ReadE at h
  split at h
  · rename_i v hv; obtain ⟨a, cap, he, hT⟩ := h; injection he with he; exact .inl ⟨v, a, cap, hv, he, hT⟩
  · rename_i hv; injection h with h; exact .inr ⟨hv, h⟩
/-- texts stay where a row of a version's own is written -/
theorem Txs.setRow {w : World} {a : Option Addr} {cap : Nat} {p : TL} (h : Txs w a cap p) {g : Nat} {x y z : Int} {a2 : Option Addr} {n c2 : Nat} (hg : w.heap[g]? = some (verO x y z a2 n c2)) (cs : Array Value) : Txs (w.setRow g cs) a cap p := by
  refine ⟨h.cap, h.short, h.few, fun h0 => ?_⟩
  obtain ⟨b, o, e, hcell⟩ := h.cells h0
  refine ⟨b, o, e, fun i hi => ?_⟩
  have hci := hcell i hi
  have hbc : b ≠ g := fun e => by rw [e] at hci; exact ver_no_text hg _ _ hci
  have := setRow_other w g b cs hbc
  unfold World.cell? at hci ⊢
  rw [this]
  exact hci
theorem Txs.alloc {w : World} {a : Option Addr} {cap : Nat} {p : TL} (h : Txs w a cap p) (O : Obj) : Txs (w.alloc O) a cap p := h.gr ((Below.refl _ w).alloc (Nat.le_refl _) O)
def cmpI (x y : Int) : Int := if x < y then -1 else if y < x then 1 else 0
theorem cmpI_N (a b : Nat) : cmpI a b = cmpN a b := by unfold cmpI cmpN; simp
def cmpP (p q : TL) : Int := if p.length = 0 ∨ q.length = 0 then (if p.length = q.length then 0 else if 0 < p.length then -1 else 1) else ordL p q
theorem cmpV_is (v w : Ver) : cmpV v w = if cmpI v.a w.a ≠ 0 then cmpI v.a w.a else if cmpI v.b w.b ≠ 0 then cmpI v.b w.b else if cmpI v.c w.c ≠ 0 then cmpI v.c w.c else cmpP v.pre w.pre := by
  have h : lex (fun v w : Ver => cmpN (rel v) (rel w)) (fun v w => ordL v.pre w.pre) v w = cmpP v.pre w.pre := by
    obtain ⟨_, _, _, p⟩ := v
    obtain ⟨_, _, _, q⟩ := w
    cases p <;> cases q <;> simp [lex, rel, cmpP, cmpN, ordL]
  rw [cmpI_N, cmpI_N, cmpI_N]
  show lex _ (lex _ (lex _ (lex (fun v w : Ver => cmpN (rel v) (rel w)) (fun v w => ordL v.pre w.pre)))) v w = _
  unfold lex at h ⊢
  rw [h]
theorem ordL_drop (p q : TL) (k : Nat) (h1 : k < p.length) (h2 : k < q.length) : ordL (p.drop k) (q.drop k) = if ordI (p.getD k []) (q.getD k []) ≠ 0 then ordI (p.getD k []) (q.getD k []) else ordL (p.drop (k + 1)) (q.drop (k + 1)) := by
  rw [List.drop_eq_getElem_cons h1, List.drop_eq_getElem_cons h2, ordL]
  simp [h1, h2]
theorem ordL_end (p q : TL) (k : Nat) (h : k ≤ p.length ∧ k ≤ q.length ∧ (k = p.length ∨ k = q.length)) : ordL (p.drop k) (q.drop k) = cmpI p.length q.length := by
  rw [cmpI_N]
  unfold cmpN
  obtain ⟨h1, h2, h3⟩ := h
  by_cases e1 : k = p.length
  · by_cases e2 : k = q.length
    · rw [List.drop_eq_nil_of_le (by omega), List.drop_eq_nil_of_le (by omega), if_neg (by omega), if_neg (by omega)]; rfl
    · rw [show p.drop k = [] from List.drop_eq_nil_of_le (by omega), List.drop_eq_getElem_cons (show k < q.length by omega), if_pos (by omega)]; rfl
  · have e2 : k = q.length := by omega
    rw [show q.drop k = [] from List.drop_eq_nil_of_le (by omega), List.drop_eq_getElem_cons (show k < p.length by omega), if_neg (by omega), if_pos (by omega)]; rfl
end VerC
end Go.Proofs.YtbjifikbfagdjaaGreatDoor
