/-
  The order of versions: a total order; Least is at most each version with the same numbers; lists in order, each once: there is but one.
-/
import Derived.Test.YtbjifikbfagdjaaGreatDoorVerMath
import Derived.Lib.SlicesCompact
namespace Go.Proofs.YtbjifikbfagdjaaGreatDoor
namespace VerM
set_option linter.unusedSimpArgs false
set_option linter.unusedVariables false
/-- what holds one thing against another -/
structure Pre {α : Type} (f : α → α → Int) : Prop where
  anti : ∀ a b, f a b = - f b a
  trans : ∀ a b c, f a b ≤ 0 → f b c ≤ 0 → f a c ≤ 0
def lex {α : Type} (f g : α → α → Int) (a b : α) : Int := if f a b ≠ 0 then f a b else g a b
theorem Pre.lex {α : Type} {f g : α → α → Int} (hf : Pre f) (hg : Pre g) : Pre (lex f g) := by
  refine ⟨fun a b => ?_, fun a b c h1 h2 => ?_⟩
  · have e1 := hf.anti a b
    have e2 := hg.anti a b
    unfold VerM.lex
    by_cases h : f b a = 0
    · rw [h] at e1
      rw [if_neg (by omega), if_neg (by omega)]; exact e2
    · rw [if_pos (by omega), if_pos (by omega)]; exact e1
  · have tf := hf.trans a b c
    have tg := hg.trans a b c
    have t1 := hf.trans c a b
    have t2 := hf.trans b c a
    have a1 := hf.anti a c
    have a2 := hf.anti b c
    have a3 := hf.anti a b
    unfold VerM.lex at h1 h2 ⊢
    split at h1 <;> split at h2 <;> split <;> omega
theorem Pre.key {α β : Type} {f : β → β → Int} (hf : Pre f) (k : α → β) : Pre (fun a b => f (k a) (k b)) := ⟨fun _ _ => hf.anti _ _, fun _ _ _ => hf.trans _ _ _⟩
def cmpN (a b : Nat) : Int := if a < b then -1 else if b < a then 1 else 0
theorem cmpN_pre : Pre cmpN := by
  refine ⟨fun a b => ?_, fun a b c => ?_⟩
  · unfold cmpN; (repeat' split) <;> omega
  · unfold cmpN; (repeat' split) <;> omega
theorem cmpN_zero {a b : Nat} (h : cmpN a b = 0) : a = b := by unfold cmpN at h; (repeat' split at h) <;> omega
def cmpB (a b : B) : Int := if a = b then 0 else if a < b then -1 else 1
theorem cmpB_pre : Pre cmpB := by
  refine ⟨fun a b => ?_, fun a b c h1 h2 => ?_⟩
  · unfold cmpB
    by_cases h : a = b
    · rw [if_pos h, if_pos h.symm]; rfl
    · rw [if_neg h, if_neg (Ne.symm h)]
      rcases Classical.em (a < b) with h1 | h1
      · rw [if_pos h1, if_neg (fun h2 => List.lt_irrefl _ (List.lt_trans h1 h2))]
      · rw [if_neg h1, if_pos (by
          rcases Classical.em (b < a) with h2 | h2
          · exact h2
          · exact absurd (List.le_antisymm (List.not_lt.1 h2) (List.not_lt.1 h1)) h)]; rfl
  · have key : ∀ x y : B, cmpB x y ≤ 0 ↔ x ≤ y := by
      intro x y
      unfold cmpB
      split
      · rename_i e; subst e; simp [List.le_refl]
      · rename_i e
        split
        · rename_i hl; exact ⟨fun _ => List.le_of_lt hl, fun _ => by decide⟩
        · rename_i hl; exact ⟨fun h => absurd h (by decide), fun h => absurd (List.le_antisymm h (List.not_lt.1 hl)) e⟩
    rw [key] at h1 h2 ⊢
    exact List.le_trans h1 h2
theorem cmpB_zero {a b : B} (h : cmpB a b = 0) : a = b := by
  unfold cmpB at h
  split at h
  · assumption
  · split at h <;> simp at h
/-- identifiers -/
def kindI (a : B) : Nat := if digs a then 0 else 1
def lenI (a : B) : Nat := if digs a then a.length else 0
def ordI : B → B → Int := lex (fun a b => cmpN (kindI a) (kindI b)) (lex (fun a b => cmpN (lenI a) (lenI b)) cmpB)
theorem ordI_pre : Pre ordI := (cmpN_pre.key kindI).lex ((cmpN_pre.key lenI).lex cmpB_pre)
theorem lex_zero {α : Type} {f g : α → α → Int} {a b : α} (h : lex f g a b = 0) : f a b = 0 ∧ g a b = 0 := by
  unfold lex at h
  by_cases h1 : f a b = 0
  · rw [if_neg (by omega)] at h; exact ⟨h1, h⟩
  · rw [if_pos h1] at h; exact absurd h h1
theorem ordI_zero {a b : B} (h : ordI a b = 0) : a = b := cmpB_zero (lex_zero (lex_zero h).2).2
theorem ordI_self (a : B) : ordI a a = 0 := by have := ordI_pre.anti a a; omega
/-- as a program says it -/
theorem ordI_is (a b : B) : ordI a b = if a = b then 0 else if digs a = digs b then (if digs a = true ∧ a.length ≠ b.length then (if a.length < b.length then -1 else 1) else if a < b then -1 else 1) else if digs a = true then -1 else 1 := by
  by_cases e : a = b
  · rw [if_pos e, e]; exact ordI_self b
  · rw [if_neg e]
    unfold ordI lex
    dsimp only
    unfold kindI lenI cmpN cmpB
    rw [if_neg e]
    rcases Bool.eq_false_or_eq_true (digs a) with ha | ha <;> rcases Bool.eq_false_or_eq_true (digs b) with hb | hb <;> simp only [ha, hb, Bool.false_eq_true, if_false, Nat.lt_irrefl, ne_eq, not_true, if_true, false_and, true_and, Nat.zero_lt_one, Nat.not_lt_zero]
    · by_cases h : a.length = b.length
      · simp [h]
      · rcases Nat.lt_or_gt_of_ne h with h1 | h1
        · simp [h1, h]
        · simp [Nat.not_lt_of_gt h1, h1, h]
    · simp
    · simp
def ordL : TL → TL → Int
  | [], [] => 0
  | [], _ :: _ => -1
  | _ :: _, [] => 1
  | x :: l, y :: r => if ordI x y ≠ 0 then ordI x y else ordL l r
theorem ordL_anti : ∀ a b, ordL a b = - ordL b a
  | [], [] => rfl
  | [], _ :: _ => rfl
  | _ :: _, [] => rfl
  | x :: l, y :: r => by
    have h1 := ordI_pre.anti x y
    have h2 := ordL_anti l r
    unfold ordL
    by_cases h : ordI y x = 0
    · rw [if_neg (by omega), if_neg (by omega)]; exact h2
    · rw [if_pos (by omega), if_pos (by omega)]; exact h1
theorem ordL_trans : ∀ a b c, ordL a b ≤ 0 → ordL b c ≤ 0 → ordL a c ≤ 0
  | [], _, [], _, _ => by simp [ordL]
  | [], _, _ :: _, _, _ => by simp [ordL]
  | _ :: _, [], _, h, _ => by simp [ordL] at h
  | _ :: _, _ :: _, [], _, h => by simp [ordL] at h
  | x :: l, y :: r, z :: t, h1, h2 => by
    have ih := ordL_trans l r t
    have tf := ordI_pre.trans x y z
    have t1 := ordI_pre.trans z x y
    have t2 := ordI_pre.trans y z x
    have a1 := ordI_pre.anti x z
    have a2 := ordI_pre.anti y z
    have a3 := ordI_pre.anti x y
    unfold ordL at h1 h2 ⊢
    split at h1 <;> split at h2 <;> split <;> omega
theorem ordL_pre : Pre ordL := ⟨ordL_anti, ordL_trans⟩
theorem ordL_zero : ∀ {a b : TL}, ordL a b = 0 → a = b
  | [], [], _ => rfl
  | [], _ :: _, h => by simp [ordL] at h
  | _ :: _, [], h => by simp [ordL] at h
  | x :: l, y :: r, h => by
    unfold ordL at h
    by_cases p : ordI x y = 0
    · rw [if_neg (by omega)] at h; rw [ordI_zero p, ordL_zero h]
    · rw [if_pos p] at h; exact absurd h p
def rel (v : Ver) : Nat := match v.pre with | [] => 1 | _ :: _ => 0
def cmpV : Ver → Ver → Int := lex (fun v w => cmpN v.a w.a) (lex (fun v w => cmpN v.b w.b) (lex (fun v w => cmpN v.c w.c) (lex (fun v w => cmpN (rel v) (rel w)) (fun v w => ordL v.pre w.pre))))
theorem cmpV_pre : Pre cmpV := (cmpN_pre.key Ver.a).lex ((cmpN_pre.key Ver.b).lex ((cmpN_pre.key Ver.c).lex ((cmpN_pre.key rel).lex (ordL_pre.key Ver.pre))))
theorem cmpV_zero {v w : Ver} (h : cmpV v w = 0) : v = w := by
  obtain ⟨h1, h⟩ := lex_zero h
  obtain ⟨h2, h⟩ := lex_zero h
  obtain ⟨h3, h⟩ := lex_zero h
  obtain ⟨_, h⟩ := lex_zero h
  have e1 := cmpN_zero h1
  have e2 := cmpN_zero h2
  have e3 := cmpN_zero h3
  have e4 := ordL_zero h
  cases v; cases w; simp only [Ver.mk.injEq]; exact ⟨e1, e2, e3, e4⟩
theorem cmpV_self (v : Ver) : cmpV v v = 0 := by have := cmpV_pre.anti v v; omega
/-- the number 0, as an identifier -/
def nought : B := [48]
theorem nought_le {y : B} (h : ident y = true) : ordI nought y ≤ 0 := by
  rw [ordI_is]
  split
  · decide
  · rename_i hne
    have hn : digs nought = true := by decide
    rw [hn]
    split
    · rename_i hd
      have hd := hd.symm
      unfold ident at h
      simp only [Bool.and_eq_true, decide_eq_true_eq, Bool.or_eq_true, Bool.not_eq_true'] at h
      obtain ⟨⟨⟨h1, h2⟩, h3⟩, h4⟩ := h
      split
      · rw [if_pos (by simp [nought] at *; omega)]; decide
      · rename_i hl
        have hl1 : y.length = 1 := by simp [nought] at hl; omega
        obtain ⟨c, rfl⟩ := List.length_eq_one_iff.1 hl1
        have hc : dig c = true := by unfold digs at hd; simpa using hd
        rw [if_pos ?_]; decide
        simp only [dig, Bool.and_eq_true, decide_eq_true_eq] at hc
        have hc0 : (48 : UInt8) ≠ c := fun e => hne (by rw [nought, e])
        have hlt : (48 : UInt8) < c := UInt8.lt_iff_toNat_lt.2 (by
          have : c.toNat ≠ 48 := fun e => hc0 (UInt8.toNat_inj.1 (by rw [e]; rfl))
          show 48 < c.toNat
          omega)
        exact List.Lex.rel hlt
    · simp
/-- the least version with these numbers -/
def leastV (v : Ver) : Ver := ⟨v.a, v.b, v.c, [nought]⟩
theorem cmpN_self (a : Nat) : cmpN a a = 0 := by unfold cmpN; simp
theorem least_le {v w : Ver} (h : may w = true) (ha : w.a = v.a) (hb : w.b = v.b) (hc : w.c = v.c) : cmpV (leastV v) w ≤ 0 := by
  unfold cmpV lex leastV
  simp only [ha, hb, hc, cmpN_self, ne_eq, not_true, if_false]
  cases hp : w.pre with
  | nil => unfold rel; rw [hp]; exact (by decide : (if cmpN 0 1 ≠ 0 then cmpN 0 1 else ordL [nought] []) ≤ 0)
  | cons y r =>
    have e : cmpN (rel ⟨v.a, v.b, v.c, [nought]⟩) (rel w) = 0 := by unfold rel; rw [hp]; rfl
    rw [e, if_neg (by simp)]
    have hy : ident y = true := by
      unfold may at h
      rw [hp] at h
      simp only [List.all_cons, Bool.and_eq_true] at h
      exact h.2.1
    have := nought_le hy
    unfold ordL
    split
    · exact this
    · cases r <;> simp [ordL]

/-- texts in order -/
def ordT (s t : B) : Int := match readB s, readB t with | some v, some w => cmpV v w | _, _ => 0
def isT (s : B) : Bool := (readB s).isSome
theorem ordT_some {s t : B} {v w : Ver} (h1 : readB s = some v) (h2 : readB t = some w) : ordT s t = cmpV v w := by unfold ordT; rw [h1, h2]
theorem isT_some {s : B} (h : isT s = true) : ∃ v, readB s = some v := Option.isSome_iff_exists.1 h
theorem ordT_zero {s t : B} (h1 : isT s = true) (h2 : isT t = true) (h : ordT s t = 0) : s = t := by
  obtain ⟨v, hv⟩ := isT_some h1
  obtain ⟨w, hw⟩ := isT_some h2
  rw [ordT_some hv hw] at h
  rw [cmpV_zero h] at hv
  exact read_inj hv hw
theorem ordT_anti {s t : B} : ordT s t = - ordT t s := by
  unfold ordT
  cases readB s <;> cases readB t <;> simp
  exact cmpV_pre.anti _ _
theorem ordT_trans {s t u : B} (ht : isT t = true) (h1 : ordT s t ≤ 0) (h2 : ordT t u ≤ 0) : ordT s u ≤ 0 := by
  obtain ⟨w, hw⟩ := isT_some ht
  unfold ordT at *
  rw [hw] at h1 h2
  cases hs : readB s <;> cases hu : readB u <;> simp only [hs, hu] at * <;> try omega
  exact cmpV_pre.trans _ _ _ h1 h2
theorem ordT_self (s : B) : ordT s s = 0 := by have := @ordT_anti s s; omega
/-- rising, each once -/
def SV (l : TL) : Prop := l.Pairwise (fun a b => ordT a b < 0) ∧ ∀ x ∈ l, isT x = true
theorem SV.nodup {l : TL} (h : SV l) : l.Nodup := List.Pairwise.imp (fun h e => by rw [e, ordT_self] at h; omega) h.1
theorem SV.ext {a b : TL} (ha : SV a) (hb : SV b) (h : ∀ x, x ∈ a ↔ x ∈ b) : a = b := by
  have hp : a.Perm b := (List.perm_ext_iff_of_nodup ha.nodup hb.nodup).2 h
  exact List.Perm.eq_of_pairwise (le := fun x y : B => ordT x y < 0) (fun x y _ _ h1 h2 => by have := @ordT_anti x y; omega) ha.1 hb.1 hp
theorem SV.nil : SV [] := ⟨List.Pairwise.nil, fun x h => by simp at h⟩
theorem SV.insert {o : TL} {x : B} {k : Nat} (h : SV o) (hx : isT x = true) (h1 : ∀ y ∈ o.take k, ordT y x < 0) (h2 : ∀ y ∈ o.drop k, ordT x y < 0) : SV (o.take k ++ x :: o.drop k) := by
  have hs : (o.take k ++ o.drop k).Pairwise (fun a b => ordT a b < 0) := by rw [List.take_append_drop]; exact h.1
  refine ⟨?_, fun y hy => ?_⟩
  · rw [List.pairwise_append] at hs ⊢
    refine ⟨hs.1, List.pairwise_cons.2 ⟨h2, hs.2.1⟩, fun a ha b hb => ?_⟩
    rcases List.mem_cons.1 hb with e | e
    · rw [e]; exact h1 a ha
    · exact hs.2.2 a ha b e
  · rw [List.mem_append, List.mem_cons] at hy
    rcases hy with hy | hy | hy
    · exact h.2 y (List.mem_of_mem_take hy)
    · rw [hy]; exact hx
    · exact h.2 y (List.mem_of_mem_drop hy)
/-- what Compact leaves of texts in order -/
theorem compactV (d : Array B) (hs : d.toList.Pairwise (fun a b => ordT a b ≤ 0)) (ht : ∀ x ∈ d.toList, isT x = true) : ∀ m, m ≤ d.size → SV (Lib.compactUpTo d m) ∧ (∀ x, x ∈ Lib.compactUpTo d m ↔ x ∈ d.toList.take m)
  | 0, _ => ⟨⟨List.Pairwise.nil, fun x h => by simp [Lib.compactUpTo] at h⟩, fun x => by simp [Lib.compactUpTo]⟩
  | m + 1, hm => by
    obtain ⟨i1, i2⟩ := compactV d hs ht m (by omega)
    have hml : m < d.toList.length := by simp; omega
    have hget : d[m]! = d.toList[m] := by simp [show m < d.size from by omega]
    have htake : d.toList.take (m + 1) = d.toList.take m ++ [d.toList[m]] := by rw [List.take_add_one]; simp [show m < d.size from by omega]
    have hle : ∀ y ∈ d.toList.take m, ordT y d.toList[m] ≤ 0 := by
      intro y hy
      obtain ⟨j, hj, e⟩ := List.getElem_of_mem hy
      rw [List.length_take] at hj
      rw [← e, List.getElem_take]
      exact List.pairwise_iff_getElem.1 hs j m (by omega) hml (by omega)
    have htm : isT d.toList[m] = true := ht _ (List.getElem_mem hml)
    rw [Lib.compactUpTo_succ]
    split
    · rename_i hk
      refine ⟨⟨?_, fun x hx => ?_⟩, fun x => ?_⟩
      · rw [List.pairwise_append]
        refine ⟨i1.1, List.pairwise_singleton _ _, fun a ha b hb => ?_⟩
        rw [List.mem_singleton] at hb
        rw [hb, hget]
        have ha' := (i2 a).1 ha
        have hta : isT a = true := i1.2 a ha
        have hle' := hle a ha'
        rcases Int.lt_or_eq_of_le hle' with h0 | h0
        · exact h0
        · exfalso
          have e := ordT_zero hta htm h0
          cases m with
          | zero => simp at ha'
          | succ p =>
            have hne : d[p + 1]! ≠ d[p]! := by simpa [Lib.keeps] using hk
            have hp : d[p]! = d.toList[p] := by simp [show p < d.size from by omega]
            rw [hget, hp] at hne
            obtain ⟨j, hj, ej⟩ := List.getElem_of_mem ha'
            rw [List.length_take] at hj
            rw [List.getElem_take] at ej
            have htp : isT d.toList[p] = true := ht _ (List.getElem_mem (by omega))
            have h1 : ordT a d.toList[p] ≤ 0 := by
              rw [← ej]
              rcases Nat.lt_or_ge j p with h | h
              · exact List.pairwise_iff_getElem.1 hs j p (by omega) (by omega) h
              · have : j = p := by omega
                subst this; rw [ordT_self]; exact Int.le_refl _
            have h2 : ordT d.toList[p] d.toList[p + 1] ≤ 0 := List.pairwise_iff_getElem.1 hs p (p + 1) (by omega) hml (by omega)
            rw [e] at h1
            have h3 := @ordT_anti d.toList[p] d.toList[p + 1]
            exact hne (ordT_zero htm htp (by omega))
      · rw [List.mem_append, List.mem_singleton, hget] at hx
        rcases hx with hx | hx
        · exact i1.2 x hx
        · rw [hx]; exact htm
      · rw [List.mem_append, i2, htake, List.mem_append, List.mem_singleton, List.mem_singleton, hget]
    · rename_i hk
      rw [List.append_nil]
      refine ⟨i1, fun x => ?_⟩
      rw [i2, htake, List.mem_append, List.mem_singleton]
      refine ⟨Or.inl, fun h => ?_⟩
      rcases h with h | h
      · exact h
      · cases m with
        | zero => simp [Lib.keeps] at hk
        | succ p =>
          have he : d[p + 1]! = d[p]! := by simpa [Lib.keeps] using hk
          have hp : d[p]! = d.toList[p] := by simp [show p < d.size from by omega]
          rw [hget, hp] at he
          rw [h, he]
          exact List.mem_take_iff_getElem.2 ⟨p, by simp; omega, rfl⟩
end VerM
end Go.Proofs.YtbjifikbfagdjaaGreatDoor
