/-
  Records put together and cut off anywhere: what all of them are then.
-/
import Derived.Test.YtpmbokklpidohaaDoorFrameMath
namespace Go.Proofs.YtpmbokklpidohaaDoor.FrameM

/-- the records of payloads, one behind the other -/
def recsB : List (List UInt8) → List UInt8
  | [] => []
  | p :: r => recB p ++ recsB r
theorem recs_append (a b : List (List UInt8)) : recsB (a ++ b) = recsB a ++ recsB b := by
  induction a with
  | nil => rfl
  | cons p r ih => simp [recsB, ih]
theorem recs_step (ps : List (List UInt8)) (i : Nat) (h : i < ps.length) : recsB (ps.take (i + 1)) = recsB (ps.take i) ++ recB ps[i] := by
  rw [List.take_succ_eq_append_getElem h, recs_append]; simp [recsB]
theorem recs_len_step (ps : List (List UInt8)) (i : Nat) (h : i < ps.length) : (recsB (ps.take (i + 1))).length = (recsB (ps.take i)).length + (12 + ps[i].length) := by
  rw [recs_step ps i h, List.length_append, recB_length]
/-- cut off behind n whole ones -/
theorem all_torn : ∀ (n : Nat) (ps : List (List UInt8)) (c : Nat), (∀ p ∈ ps, p.length ≤ 131072) → n ≤ ps.length → (recsB (ps.take n)).length ≤ c →
    (n < ps.length → c < (recsB (ps.take (n + 1))).length) → c ≤ (recsB ps).length →
    allB ((recsB ps).take c) = (ps.take n, (recsB (ps.take n)).length, if c = (recsB (ps.take n)).length then 0 else 40)
  | 0, [], c, _, _, _, _, hc => by
    simp [recsB] at hc
    simp [recsB, all_nil, hc]
  | 0, p :: r, c, hp, _, _, h1, _ => by
    have h1' := h1 (by simp)
    simp [recsB, recB_length] at h1'
    by_cases h0 : c = 0
    · subst h0; simp [recsB, all_nil]
    · have e : recsB (p :: r) = recB p ++ recsB r := rfl
      have hf := front_cut p (recsB r) (hp p (by simp)) c h1'
      rw [e, all_bad _ (by
        intro hh
        have := congrArg List.length hh
        rw [List.length_take, List.length_append, recB_length] at this
        simp at this
        omega) (by rw [hf]; decide), hf]
      simp [recsB, h0]
  | n + 1, [], c, _, hn, _, _, _ => by simp at hn
  | n + 1, p :: r, c, hp, hn, h0, h1, hc => by
    have e : recsB (p :: r) = recB p ++ recsB r := rfl
    have e1 : (recsB ((p :: r).take (n + 1))).length = (12 + p.length) + (recsB (r.take n)).length := by
      show (recB p ++ recsB (r.take n)).length = _
      rw [List.length_append, recB_length]
    have e2 : (recsB ((p :: r).take (n + 1 + 1))).length = (12 + p.length) + (recsB (r.take (n + 1))).length := by
      show (recB p ++ recsB (r.take (n + 1))).length = _
      rw [List.length_append, recB_length]
    have e3 : (recsB (p :: r)).length = (12 + p.length) + (recsB r).length := by rw [e, List.length_append, recB_length]
    rw [e1] at h0
    rw [e3] at hc
    have ht : (recsB (p :: r)).take c = recB p ++ (recsB r).take (c - (12 + p.length)) := by
      rw [e, List.take_append, List.take_of_length_le (by rw [recB_length]; omega), recB_length]
    have ih := all_torn n r (c - (12 + p.length)) (fun q hq => hp q (by simp [hq])) (by simp at hn; omega) (by omega) (fun h => by have := h1 (by simp; omega); rw [e2] at this; omega) (by omega)
    rw [ht, all_rec p _ (hp p (by simp)), ih, e1]
    simp only [List.take_succ_cons]
    by_cases hx : c = 12 + p.length + (recsB (r.take n)).length
    · rw [if_pos hx, if_pos (by omega)]
    · rw [if_neg hx, if_neg (by omega)]
/-- where each of the first n ends -/
def endsB (ps : List (List UInt8)) (n : Nat) : List Nat := (List.range n).map fun k => (recsB (ps.take (k + 1))).length
theorem ends_length (ps : List (List UInt8)) (n : Nat) : (endsB ps n).length = n := by simp [endsB]
theorem ends_get (ps : List (List UInt8)) (n i : Nat) (h : i < n) : (endsB ps n)[i]? = some (recsB (ps.take (i + 1))).length := by simp [endsB, h]
theorem ends_snoc (ps : List (List UInt8)) (n : Nat) : endsB ps (n + 1) = endsB ps n ++ [(recsB (ps.take (n + 1))).length] := by simp [endsB, List.range_succ]
end Go.Proofs.YtpmbokklpidohaaDoor.FrameM
