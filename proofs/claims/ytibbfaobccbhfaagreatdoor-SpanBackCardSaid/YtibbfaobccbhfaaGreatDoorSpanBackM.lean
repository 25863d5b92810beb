/-
  The text of a span, read back: its alternatives and comparisons are cut apart where they were joined.
-/
import Derived.Test.YtibbfaobccbhfaaGreatDoorSpanAns
namespace Go.Proofs.YtibbfaobccbhfaaGreatDoor
open Go.RowKit
namespace SpanC
open VerM SpanM StrC TextR VerC
set_option linter.unusedSimpArgs false

theorem occ_or {s : B} {j : Nat} (h : Lib.occAt s orB j = true) : s[j]? = some 32 ∧ s[j + 1]? = some 124 := by
  unfold Lib.occAt at h
  obtain ⟨r, hr⟩ := List.isPrefixOf_iff_prefix.1 h
  have h0 : (s.drop j)[0]? = some 32 := by rw [← hr]; rfl
  have h1 : (s.drop j)[1]? = some 124 := by rw [← hr]; rfl
  rw [List.getElem?_drop] at h0 h1
  exact ⟨by simpa using h0, h1⟩
theorem cut_or (x r : B) (h : ∀ c ∈ x, c ≠ 124) : Lib.cut (x ++ orB ++ r) orB = (x, r, true) := by
  have hi : Lib.index (x ++ orB ++ r) orB = x.length := by
    refine Lib.index_first (by simp) ?_ fun j hj => ?_
    · unfold Lib.occAt
      rw [List.append_assoc, List.drop_left]
      exact List.isPrefixOf_iff_prefix.2 ⟨r, rfl⟩
    · cases ho : Lib.occAt (x ++ orB ++ r) orB j with
      | false => rfl
      | true =>
        obtain ⟨-, h2⟩ := occ_or ho
        rw [List.append_assoc] at h2
        rcases Nat.lt_or_ge (j + 1) x.length with h3 | h3
        · rw [List.getElem?_append_left h3] at h2
          exact absurd rfl (h 124 (List.mem_of_getElem? h2))
        · have e : j + 1 = x.length := by omega
          rw [e, List.getElem?_append_right (Nat.le_refl _), Nat.sub_self] at h2
          cases h2
  unfold Lib.cut
  rw [if_pos (by rw [hi]; omega), hi]
  simp
theorem cut_or_none (x : B) (h : ∀ c ∈ x, c ≠ 124) : Lib.cut x orB = (x, [], false) := by
  have hi : Lib.index x orB = -1 := Lib.index_none fun j _ => by
    cases ho : Lib.occAt x orB j with
    | false => rfl
    | true => exact absurd rfl (h 124 (List.mem_of_getElem? (occ_or ho).2))
  unfold Lib.cut
  rw [if_neg (by rw [hi]; decide)]
theorem parts_or : ∀ (x : B) (r : List B), (∀ t ∈ x :: r, ∀ c ∈ t, c ≠ 124) → partsB orB (Lib.join (x :: r) orB) = x :: r
  | x, [], h => by
    rw [Lib.join_one, partsB_eq (by decide), cut_or_none x (h x List.mem_cons_self)]
    rfl
  | x, y :: r, h => by
    have hj : Lib.join (x :: y :: r) orB = x ++ orB ++ Lib.join (y :: r) orB := by
      rw [Lib.join_cons, Lib.join_cons]
      simp [Lib.joinTail]
    rw [hj, partsB_eq (by decide), cut_or x _ (h x List.mem_cons_self)]
    simp only [if_true]
    rw [parts_or y r fun t ht => h t (List.mem_cons_of_mem _ ht)]
theorem cut_sp (x r : B) (h : ∀ c ∈ x, c ≠ 32) : Lib.cut (x ++ 32 :: r) [32] = (x, r, true) := by
  have hi := index_hit' (d := 32) r h
  unfold Lib.cut
  rw [if_pos (by rw [hi]; omega), hi]
  simp
theorem cut_sp_none (x : B) (h : ∀ c ∈ x, c ≠ 32) : Lib.cut x [32] = (x, [], false) := by
  have hi := index_none' (d := 32) h
  unfold Lib.cut
  rw [if_neg (by rw [hi]; decide)]
theorem parts_one (x : B) (h : ∀ c ∈ x, c ≠ 32) : partsB [32] x = [x] := by
  rw [partsB_eq (by decide), cut_sp_none x h]; rfl
theorem parts_two (x y : B) (hx : ∀ c ∈ x, c ≠ 32) (hy : ∀ c ∈ y, c ≠ 32) : partsB [32] (x ++ 32 :: y) = [x, y] := by
  rw [partsB_eq (by decide), cut_sp x y hx]
  simp only [if_true]
  rw [parts_one y hy]
/-! ### a version's text, read -/
theorem dig_ten {i : Nat} (h : i < 10) : (UInt8.ofNat (48 + i)).toNat = 48 + i := by
  rw [UInt8.toNat_ofNat']
  exact Nat.mod_eq_of_lt (by omega)
/-- a numeral: digits, none padded, that number -/
theorem dec_all (n : Nat) : (Lib.decDigits n).all dig = true ∧ Lib.decDigits n ≠ [] ∧ val (Lib.decDigits n) = n ∧ (0 < n → (Lib.decDigits n).getD 0 0 ≠ 48) := by
  induction n using Nat.strongRecOn with
  | _ n ih =>
    by_cases h : n < 10
    · rw [Lib.decDigits_one h]
      have h2 := dig_ten h
      refine ⟨?_, by simp, ?_, fun h0 e => ?_⟩
      · simp only [List.all_cons, List.all_nil, Bool.and_true, dig, h2, Bool.and_eq_true, decide_eq_true_eq]
        omega
      · show 10 * 0 + ((UInt8.ofNat (48 + n)).toNat - 48) = n
        rw [h2]; omega
      · have : (UInt8.ofNat (48 + n)).toNat = 48 := by
          have e' : UInt8.ofNat (48 + n) = 48 := e
          rw [e']; rfl
        omega
    · obtain ⟨h1, h2, h3, h4⟩ := ih (n / 10) (by omega)
      have hd : n % 10 < 10 := Nat.mod_lt _ (by decide)
      have h5 := dig_ten hd
      rw [Lib.decDigits, dif_neg h]
      refine ⟨?_, by simp, ?_, fun _ => ?_⟩
      · rw [List.all_append, h1, Bool.true_and]
        simp only [List.all_cons, List.all_nil, Bool.and_true, dig, h5, Bool.and_eq_true, decide_eq_true_eq]
        omega
      · rw [val_snoc, h3, h5]; omega
      · have hl : 0 < (Lib.decDigits (n / 10)).length := List.length_pos_iff.2 h2
        rw [List.getD_eq_getElem?_getD, List.getElem?_append_left hl, ← List.getD_eq_getElem?_getD]
        exact h4 (by omega)
theorem dec_pad (n : Nat) : padded (Lib.decDigits n) = false := by
  by_cases h : n < 10
  · rw [Lib.decDigits_one h]; rfl
  · have := (dec_all n).2.2.2 (by omega)
    unfold padded
    rw [Bool.and_eq_false_iff]; right
    rw [decide_eq_false_iff_not]
    intro e
    exact this (UInt8.toNat_inj.1 (by rw [e]; rfl))
theorem numb_of {n : Nat} (h : n ≤ mx) : numb (Lib.decDigits n) = some n := by
  obtain ⟨h1, h2, h3, -⟩ := dec_all n
  unfold numb
  rw [h3, if_pos ⟨by unfold digs; rw [h1]; simpa using h2, dec_pad n, h⟩]
theorem dec_byte {n : Nat} {c : UInt8} (h : c ∈ Lib.decDigits n) : 48 ≤ c.toNat ∧ c.toNat ≤ 57 := by
  have := (List.all_eq_true.1 (dec_all n).1) c h
  unfold dig at this
  simpa using this
theorem pieces_of_join (d : UInt8) : ∀ (x : B) (r : List B), (∀ t ∈ x :: r, ∀ c ∈ t, c ≠ d) → pieces d (Lib.join (x :: r) [d]) = x :: r
  | x, [], h => by rw [Lib.join_one]; exact pieces_none (h x List.mem_cons_self)
  | x, y :: r, h => by
    have hj : Lib.join (x :: y :: r) [d] = x ++ d :: Lib.join (y :: r) [d] := by
      rw [Lib.join_cons, Lib.join_cons]
      simp [Lib.joinTail]
    rw [hj, pieces_hit _ (h x List.mem_cons_self), pieces_of_join d y r fun t ht => h t (List.mem_cons_of_mem _ ht)]
theorem ident_byte {t : B} (h : ident t = true) {c : UInt8} (hc : c ∈ t) : c ≠ 46 ∧ c ≠ 32 ∧ c ≠ 124 := by
  unfold ident at h
  simp only [Bool.and_eq_true] at h
  have := List.all_eq_true.1 h.1.2 c hc
  unfold okI dig at this
  simp only [Bool.or_eq_true, Bool.and_eq_true, decide_eq_true_eq] at this
  refine ⟨fun e => ?_, fun e => ?_, fun e => ?_⟩ <;> subst e <;> simp at this
theorem read_of {v : Ver} (h : textOk v = true) : readB (text v) = some v := by
  unfold textOk at h
  rw [Bool.and_eq_true, decide_eq_true_eq] at h
  obtain ⟨hm, hl⟩ := h
  obtain ⟨a, b, c, p⟩ := v
  have hm' := hm
  unfold may at hm'
  simp only [Bool.and_eq_true, decide_eq_true_eq] at hm'
  obtain ⟨⟨⟨⟨ha, hb⟩, hc⟩, -⟩, hp⟩ := hm'
  have key : ∀ n, ∀ x ∈ Lib.decDigits n, x ≠ 46 ∧ x ≠ 45 := fun n x hx => by
    have := dec_byte hx
    refine ⟨fun e => ?_, fun e => ?_⟩ <;> subst e <;> simp at this
  obtain ⟨X, hX⟩ : ∃ X, Lib.decDigits a ++ 46 :: (Lib.decDigits b ++ 46 :: Lib.decDigits c) = X := ⟨_, rfl⟩
  have hX45 : ∀ x ∈ X, x ≠ 45 := fun x hx => by
    rw [← hX] at hx
    simp only [List.mem_append, List.mem_cons] at hx
    rcases hx with h | h | h | h | h
    · exact (key a x h).2
    · subst h; decide
    · exact (key b x h).2
    · subst h; decide
    · exact (key c x h).2
  have hXp : pieces 46 X = [Lib.decDigits a, Lib.decDigits b, Lib.decDigits c] := by
    rw [← hX, pieces_hit _ (fun x hx => (key a x hx).1), pieces_hit _ (fun x hx => (key b x hx).1), pieces_none (fun x hx => (key c x hx).1)]
  have ht : text ⟨a, b, c, p⟩ = X ++ preL p := by unfold text; rw [← hX]; simp
  have hhi : head (text ⟨a, b, c, p⟩) = X ∧ ids (text ⟨a, b, c, p⟩) = p := by
    rw [ht]
    cases p with
    | nil => simpa [preL] using head_none hX45
    | cons q r =>
      show head (X ++ 45 :: Lib.join (q :: r) [46]) = X ∧ ids (X ++ 45 :: Lib.join (q :: r) [46]) = q :: r
      obtain ⟨e1, e2⟩ := head_hit (Lib.join (q :: r) [46]) hX45
      refine ⟨e1, e2.trans (pieces_of_join 46 q r fun t ht c hc => ?_)⟩
      exact (ident_byte (List.all_eq_true.1 hp t ht) hc).1
  unfold readB
  rw [if_pos hl, hhi.1, hXp]
  show readV _ _ _ (ids _) = _
  rw [hhi.2]
  unfold readV
  rw [numb_of ha, numb_of hb, numb_of hc]
  simp only
  rw [if_pos hm]
/-! ### a stretch's text, read -/
theorem text_bytes {v : Ver} (h : may v = true) : ∀ c ∈ text v, c ≠ 32 ∧ c ≠ 124 := by
  unfold may at h
  simp only [Bool.and_eq_true, decide_eq_true_eq] at h
  have hp := h.2
  have key : ∀ n, ∀ x ∈ Lib.decDigits n, x ≠ 32 ∧ x ≠ 124 := fun n x hx => by
    have := dec_byte hx
    refine ⟨fun e => ?_, fun e => ?_⟩ <;> subst e <;> simp at this
  have hj : ∀ (r : List B), (∀ t ∈ r, ident t = true) → ∀ c ∈ Lib.join r [46], c ≠ 32 ∧ c ≠ 124 := by
    intro r
    induction r with
    | nil => intro _ c hc; rw [Lib.join_nil] at hc; cases hc
    | cons x r ih =>
      intro hr c hc
      cases r with
      | nil =>
        rw [Lib.join_one] at hc
        exact (ident_byte (hr x List.mem_cons_self) hc).2
      | cons y r =>
        have e : Lib.join (x :: y :: r) [46] = x ++ 46 :: Lib.join (y :: r) [46] := by
          rw [Lib.join_cons, Lib.join_cons]
          simp [Lib.joinTail]
        rw [e] at hc
        simp only [List.mem_append, List.mem_cons] at hc
        rcases hc with h | h | h
        · exact (ident_byte (hr x List.mem_cons_self) h).2
        · subst h; decide
        · exact ih (fun t ht => hr t (List.mem_cons_of_mem _ ht)) c h
  intro c hc
  unfold text at hc
  simp only [List.mem_append, List.mem_cons] at hc
  rcases hc with h | h | h | h | h | h
  · exact key _ c h
  · subst h; decide
  · exact key _ c h
  · subst h; decide
  · exact key _ c h
  · unfold preL at h
    split at h
    · cases h
    · rename_i q r e
      rcases List.mem_cons.1 h with h | h
      · subst h; decide
      · exact hj _ (fun t ht => List.all_eq_true.1 hp t ht) c h
theorem text_head (v : Ver) : ∃ c r, text v = c :: r ∧ signC.contains c = false := by
  obtain ⟨h1, h2, -, -⟩ := dec_all v.a
  unfold text
  cases hd : Lib.decDigits v.a with
  | nil => exact absurd hd h2
  | cons c r =>
    refine ⟨c, _, rfl, ?_⟩
    have := dec_byte (n := v.a) (c := c) (by rw [hd]; exact List.mem_cons_self)
    unfold signC
    simp only [List.contains_cons, List.contains_nil, Bool.or_false, Bool.or_eq_false_iff, beq_eq_false_iff_ne]
    refine ⟨?_, ?_, ?_, ?_, ?_⟩ <;> (intro e; subst e; simp at this)
theorem comp_of {g : B} {v : Ver} (hg : ∀ c ∈ g, signC.contains c = true) (h : textOk v = true) : compM (g ++ text v) = signM g v := by
  obtain ⟨c, r, hc, hn⟩ := text_head v
  have e1 : sgnB (g ++ text v) = g := by
    unfold sgnB
    rw [List.takeWhile_append_of_pos hg, hc, List.takeWhile_cons, hn]
    simp
  have e2 : bodB (g ++ text v) = text v := by
    unfold bodB
    rw [List.dropWhile_append_of_pos hg, hc, List.dropWhile_cons, hn]
    simp
  unfold compM
  rw [e1, e2, read_of h]
theorem compared_some {g t : B} {v : Ver} (h : comparedO g v = some t) : textOk v = true ∧ t = g ++ text v := by
  unfold comparedO at h
  split at h
  · rename_i h1; cases h; exact ⟨h1, rfl⟩
  · cases h
theorem ok_may {v : Ver} (h : textOk v = true) : may v = true := by
  unfold textOk at h
  rw [Bool.and_eq_true] at h
  exact h.1
/-- one comparison, alone in its alternative -/
theorem alt_one {g : B} {v : Ver} (h0 : g ≠ []) (hg : ∀ c ∈ g, signC.contains c = true) (h : textOk v = true) : altM (g ++ text v) = (signM g v).map (meetS allS) := by
  obtain ⟨c, r, hc, hn⟩ := text_head v
  have h32 : ∀ x ∈ g ++ text v, x ≠ 32 := fun x hx => by
    rcases List.mem_append.1 hx with hx | hx
    · intro e; subst e; exact absurd (hg 32 hx) (by decide)
    · exact (text_bytes (ok_may h) x hx).1
  cases g with
  | nil => exact absurd rfl h0
  | cons q g' =>
    have hq := hg q List.mem_cons_self
    have n1 : (q :: g') ++ text v ≠ [42] := fun e => by
      rw [List.cons_append] at e
      injection e with e1 _
      subst e1; exact absurd hq (by decide)
    have n2 : (q :: g') ++ text v ≠ [33] := fun e => by
      rw [List.cons_append] at e
      injection e with e1 _
      subst e1; exact absurd hq (by decide)
    unfold altM
    rw [if_neg n1, if_neg n2, parts_one _ h32]
    show accM [q :: g' ++ text v] [0] = _
    unfold accM
    simp only [List.foldl_cons, List.foldl_nil, Option.bind_some]
    rw [if_neg (by decide)]
    show (compM (q :: g' ++ text v)).map (meetS allS) = _
    rw [comp_of hg h]
/-- two comparisons in one alternative -/
theorem alt_two {g k : B} {v u : Ver} (h0 : g ≠ []) (hg : ∀ c ∈ g, signC.contains c = true) (hk : ∀ c ∈ k, signC.contains c = true) (h : textOk v = true) (h2 : textOk u = true) :
    altM (g ++ text v ++ 32 :: (k ++ text u)) = (signM g v).bind fun a => (signM k u).map fun b => meetS (meetS allS a) b := by
  have n32 : ∀ {g : B} {v : Ver}, (∀ c ∈ g, signC.contains c = true) → textOk v = true → ∀ x ∈ g ++ text v, x ≠ 32 := fun {g v} hg h x hx => by
    rcases List.mem_append.1 hx with hx | hx
    · intro e; subst e; exact absurd (hg 32 hx) (by decide)
    · exact (text_bytes (ok_may h) x hx).1
  cases g with
  | nil => exact absurd rfl h0
  | cons q g' =>
    have hq := hg q List.mem_cons_self
    have n1 : (q :: g') ++ text v ++ 32 :: (k ++ text u) ≠ [42] := fun e => by
      rw [List.cons_append, List.cons_append] at e
      injection e with e1 _
      subst e1; exact absurd hq (by decide)
    have n2 : (q :: g') ++ text v ++ 32 :: (k ++ text u) ≠ [33] := fun e => by
      rw [List.cons_append, List.cons_append] at e
      injection e with e1 _
      subst e1; exact absurd hq (by decide)
    unfold altM
    rw [if_neg n1, if_neg n2, parts_two _ _ (n32 hg h) (n32 hk h2)]
    show accM [q :: g' ++ text v, k ++ text u] [0, 1] = _
    unfold accM
    simp only [List.foldl_cons, List.foldl_nil, Option.bind_some]
    rw [if_neg (by decide), if_neg (by decide)]
    show ((compM (q :: g' ++ text v)).map (meetS allS)).bind (fun a => (compM (k ++ text u)).map (meetS a)) = _
    rw [comp_of hg h, comp_of hk h2]
    cases signM (q :: g') v <;> rfl
theorem above_spec {f : Ed} {l : B} (hs : f.s ≤ 1) (h : aboveO f = some l) : (l = [] ∧ f = allS.f) ∨ ∃ g, g ≠ [] ∧ (∀ c ∈ g, signC.contains c = true) ∧ textOk f.v = true ∧ l = g ++ text f.v ∧ signM g f.v = some ⟨f, allS.t⟩ := by
  unfold aboveO at h
  split at h
  · rename_i h0
    cases h
    exact .inl ⟨rfl, cE_zero h0⟩
  · split at h
    · rename_i h1
      obtain ⟨e1, e2⟩ := compared_some h
      refine .inr ⟨[62], by simp, by decide, e1, e2, ?_⟩
      obtain ⟨v, s⟩ := f
      have : s = 1 := h1
      subst this; rfl
    · rename_i h1
      obtain ⟨e1, e2⟩ := compared_some h
      refine .inr ⟨[62, 61], by simp, by decide, e1, e2, ?_⟩
      obtain ⟨v, s⟩ := f
      have h2 : s ≤ 1 := hs
      have h3 : ¬ s = 1 := h1
      obtain rfl : s = 0 := by omega
      rfl
theorem below_spec {t : Ed} {l : B} (hw : wfE t) (h : belowO t = some l) : (l = [] ∧ t = allS.t) ∨ ∃ g, g ≠ [] ∧ (∀ c ∈ g, signC.contains c = true) ∧ textOk t.v = true ∧ l = g ++ text t.v ∧ signM g t.v = some ⟨allS.f, t⟩ := by
  obtain ⟨v, s⟩ := t
  have hs : s ≤ 2 := hw.2.1
  have hz : s = 2 → v = zeroV := hw.2.2
  unfold belowO at h
  dsimp only at h
  split at h
  · rename_i h0
    cases h
    subst h0
    rw [hz rfl]
    exact .inl ⟨rfl, rfl⟩
  · rename_i h0
    split at h
    · rename_i h1
      obtain ⟨e1, e2⟩ := compared_some h
      subst h1
      exact .inr ⟨[60], by simp, by decide, e1, e2, rfl⟩
    · rename_i h1
      obtain ⟨e1, e2⟩ := compared_some h
      obtain rfl : s = 1 := by omega
      exact .inr ⟨[60, 61], by simp, by decide, e1, e2, rfl⟩
theorem sign_no {g : B} {v : Ver} (hg : ∀ c ∈ g, signC.contains c = true) (h : textOk v = true) : ∀ c ∈ g ++ text v, c ≠ 124 := fun c hc => by
  rcases List.mem_append.1 hc with hc | hc
  · intro e; subst e; exact absurd (hg 124 hc) (by decide)
  · exact (text_bytes (ok_may h) c hc).2
/-- a stretch's text says it -/
theorem one_read {s : St} {t : B} (hf : wfE s.f) (ht : wfE s.t) (hne : cE s.f s.t < 0) (h : oneO s = some t) : (∃ s', altM t = some s' ∧ ∀ e, inS e s' ↔ inS e s) ∧ ∀ c ∈ t, c ≠ 124 := by
  have hl := front_low hf ht hne
  have hin : ∀ e, inS e s → inS e allS := fun e hi => ⟨le_trans (all_front hf.1 s.f.s) hi.1, lt_le hi.2 (all_upto ht)⟩
  unfold oneO at h
  split at h
  · rename_i h0
    have e0 := cE_zero h0
    obtain ⟨e1, e2⟩ := compared_some h
    obtain ⟨⟨v, k⟩, b⟩ := s
    have e3 : b = ⟨v, 1⟩ := e0.symm
    subst e3
    have hk : k ≤ 1 := hl
    have hk0 : k = 0 := by
      rcases (by omega : k = 0 ∨ k = 1) with h | h
      · exact h
      · subst h
        have : cE (⟨v, 1⟩ : Ed) ⟨v, 1⟩ < 0 := hne
        rw [cE_self] at this; omega
    subst hk0
    subst e2
    refine ⟨⟨_, by rw [alt_one (by simp) (by decide) e1]; rfl, fun e => ?_⟩, sign_no (by decide) e1⟩
    rw [inS_meet]
    exact ⟨fun h => h.2, fun h => ⟨hin e h, h⟩⟩
  · split at h
    · rename_i l k hl1 hk1
      cases h
      rcases above_spec hl hl1 with ⟨rfl, ef⟩ | ⟨g, g0, gs, gt, rfl, gm⟩
      · rcases below_spec ht hk1 with ⟨rfl, et⟩ | ⟨g2, g20, g2s, g2t, rfl, g2m⟩
        · refine ⟨⟨allS, rfl, fun e => ?_⟩, by decide⟩
          obtain ⟨f, b⟩ := s
          have e1 : f = allS.f := ef
          have e2 : b = allS.t := et
          subst e1; subst e2
          exact Iff.rfl
        · have hj : joinO [] (g2 ++ text s.t.v) = g2 ++ text s.t.v := by
            unfold joinO
            rw [if_neg (fun h => g20 (List.append_eq_nil_iff.1 h.2).1), if_pos (.inl rfl)]; rfl
          rw [hj]
          refine ⟨⟨_, by rw [alt_one g20 g2s g2t, g2m]; rfl, fun e => ?_⟩, sign_no g2s g2t⟩
          rw [inS_meet]
          obtain ⟨f, b⟩ := s
          have e1 : f = allS.f := ef
          subst e1
          exact ⟨fun h => h.2, fun h => ⟨hin e h, h⟩⟩
      · rcases below_spec ht hk1 with ⟨rfl, et⟩ | ⟨g2, g20, g2s, g2t, rfl, g2m⟩
        · have hj : joinO (g ++ text s.f.v) [] = g ++ text s.f.v := by
            unfold joinO
            rw [if_neg (fun h => g0 (List.append_eq_nil_iff.1 h.1).1), if_pos (.inr rfl), List.append_nil]
          rw [hj]
          refine ⟨⟨_, by rw [alt_one g0 gs gt, gm]; rfl, fun e => ?_⟩, sign_no gs gt⟩
          rw [inS_meet]
          obtain ⟨f, b⟩ := s
          have e1 : b = allS.t := et
          subst e1
          exact ⟨fun h => h.2, fun h => ⟨hin e h, h⟩⟩
        · have hj : joinO (g ++ text s.f.v) (g2 ++ text s.t.v) = g ++ text s.f.v ++ 32 :: (g2 ++ text s.t.v) := by
            unfold joinO
            rw [if_neg (fun h => g0 (List.append_eq_nil_iff.1 h.1).1), if_neg (fun h => by
              rcases h with h | h
              · exact g0 (List.append_eq_nil_iff.1 h).1
              · exact g20 (List.append_eq_nil_iff.1 h).1)]
          rw [hj]
          refine ⟨⟨_, by rw [alt_two g0 gs g2s gt g2t, gm, g2m]; rfl, fun e => ?_⟩, fun c hc => ?_⟩
          · rw [inS_meet, inS_meet]
            exact ⟨fun h => ⟨h.1.2.1, h.2.2⟩, fun h => ⟨⟨hin e h, h.1, (hin e h).2⟩, (hin e h).1, h.2⟩⟩
          · rcases List.mem_append.1 hc with hc | hc
            · exact sign_no gs gt c hc
            · rcases List.mem_cons.1 hc with hc | hc
              · subst hc; decide
              · exact sign_no g2s g2t c hc
    · cases h
def altS (x : B) : St := (altM x).getD zeroR.st
theorem accR_all {X : List B} (hX : ∀ x ∈ X, (altM x).isSome = true) (hl : X.length ≤ 16) : ∀ n, n ≤ X.length → accR X (List.range n) = some ((X.map altS).take n)
  | 0, _ => by simp [accR]
  | n + 1, hn => by
    rw [List.range_succ, accR_snoc, accR_all hX hl n (by omega), if_neg (by omega)]
    have hx : X.getD n [] = X[n] := by rw [List.getD_eq_getElem?_getD, List.getElem?_eq_getElem (by omega)]; rfl
    rw [hx]
    obtain ⟨s, hs⟩ := Option.isSome_iff_exists.1 (hX X[n] (List.getElem_mem _))
    have hg : (X.map altS)[n]? = some s := by
      rw [List.getElem?_map, List.getElem?_eq_getElem (by omega)]
      show some (altS X[n]) = _
      unfold altS
      rw [hs]; rfl
    rw [List.take_add_one, hg, hs]
    rfl
theorem zero_empty (e : Ed) : ¬ inS e zeroR.st := fun h => by
  have := inS_some h
  have e2 : cE zeroR.st.f zeroR.st.t = 0 := cE_self _
  omega
/-- a span's text says it -/
theorem write_read {l : List St} {t : B} (hc : SpanM.Can l) (hw : ∀ s ∈ l, wfE s.f ∧ wfE s.t) (hl : l.length ≤ 16) (h : writeO l = some t) : ∃ l', readO t = some l' ∧ formM l' = l := by
  cases l with
  | nil =>
    unfold writeO at h
    rw [if_pos rfl] at h
    cases h
    refine ⟨[zeroR.st], by kernel_rfl, ?_⟩
    refine (formM_eq Can.nil fun e => ?_).symm
    rw [inL_one]
    exact ⟨fun h => absurd h (inL_nil e), fun h => absurd h (zero_empty e)⟩
  | cons x r =>
    unfold writeO at h
    rw [if_neg (by simp)] at h
    split at h
    · rename_i hall
      split at h
      · rename_i hlen
        cases h
        have key : ∀ s ∈ x :: r, (∃ s', altM (oneT s) = some s' ∧ ∀ e, inS e s' ↔ inS e s) ∧ ∀ c ∈ oneT s, c ≠ 124 := fun s hs => by
          obtain ⟨o, ho⟩ := Option.isSome_iff_exists.1 (List.all_eq_true.1 hall s hs)
          have e : oneT s = o := by unfold oneT; rw [ho]; rfl
          rw [e]
          exact one_read (hw s hs).1 (hw s hs).2 (hc.1 s hs) ho
        have hp : partsB orB (Lib.join ((x :: r).map oneT) orB) = (x :: r).map oneT := by
          rw [List.map_cons]
          refine parts_or _ _ fun t ht => ?_
          rw [← List.map_cons] at ht
          obtain ⟨s, hs, rfl⟩ := List.mem_map.1 ht
          exact (key s hs).2
        have ha := accR_all (X := (x :: r).map oneT) (fun t ht => by
          obtain ⟨s, hs, rfl⟩ := List.mem_map.1 ht
          obtain ⟨⟨s', hs', -⟩, -⟩ := key s hs
          rw [hs']; rfl) (by rw [List.length_map]; exact hl) ((x :: r).map oneT).length (Nat.le_refl _)
        refine ⟨(((x :: r).map oneT).map altS).take ((x :: r).map oneT).length, ?_, ?_⟩
        · unfold readO
          rw [if_pos hlen, hp, ha]
        · rw [List.take_of_length_le (by rw [List.length_map]; exact Nat.le_refl _)]
          refine (formM_congr fun e => ?_).trans (formM_of hc)
          constructor
          · rintro ⟨y, hy, hi⟩
            rw [List.map_map] at hy
            obtain ⟨s, hs, rfl⟩ := List.mem_map.1 hy
            obtain ⟨⟨s', hs', hiff⟩, -⟩ := key s hs
            have e1 : (altS ∘ oneT) s = s' := by show altS (oneT s) = s'; unfold altS; rw [hs']; rfl
            rw [e1] at hi
            exact ⟨s, hs, (hiff e).1 hi⟩
          · rintro ⟨s, hs, hi⟩
            obtain ⟨⟨s', hs', hiff⟩, -⟩ := key s hs
            have e1 : (altS ∘ oneT) s = s' := by show altS (oneT s) = s'; unfold altS; rw [hs']; rfl
            refine ⟨s', ?_, (hiff e).2 hi⟩
            rw [List.map_map]
            exact List.mem_map.2 ⟨s, hs, e1⟩
      · cases h
    · cases h
theorem accR_few {L : List B} {l : List St} (h : accR L (List.range L.length) = some l) : L.length ≤ 16 := by
  rcases Nat.lt_or_ge 16 L.length with h1 | h1
  · have h2 : accR L (List.range 17) = none := by
      rw [List.range_succ, accR_snoc, if_pos rfl]
    rw [accR_stop h2 h1] at h
    cases h
  · exact h1
theorem readO_few {s : B} {l : List St} (h : readO s = some l) : l.length ≤ 16 := by
  unfold readO at h
  split at h
  · have h1 := accR_len _ h
    rw [List.length_range] at h1
    have := accR_few h
    omega
  · cases h
set_option maxHeartbeats 16000000 in
set_option maxRecDepth 100000 in
theorem back_law (s : B) (w : World) (hv : Vw w) (ls : s.length ≤ 9223372036854775807) :
    Calls Tryz.prog 9 #[.string (str s)] w fun e w' => e = .returned (.bool true) ∧ Below w.heap.size w w' := by
  have HAL := Lib.hid (fun w' (g : Below w.heap.size w w') => alive_any w' (hv.gr g))
  have HF1 := Lib.hid (fun w' (g : Below w.heap.size w w') => pForm_any s w' (hv.gr g) ls)
  rcases hfo : formO s with _ | t
  · have HR1 := Lib.hid ((pReadS_any s w hv ls).mono fun _ _ h => h.to)
    rw [hfo] at HF1
    generalize str s = ts at *
    clear hv ls hfo
    go_enter Tryz.func9, Tryz.ntmps9
    go_wp2_with (first
      | (go_at_call 10; refine HR1.out.mono ?_; rintro e w1 ⟨hb1, a1, c1, n1, L1, rfl, hn1⟩; have HB1 := Lib.hid hb1; clear hb1 hn1)
      | (go_at_call 12; refine (HF1.out _ HB1.out).mono ?_; rintro e w2 ⟨rfl, hb2⟩; unfold outO; dsimp only; have HB2 := Lib.hid (HB1.out.trans (hb2.mono HB1.out.size)); clear hb2)
      | (go_at_call 17; refine (HAL.out _ HB2.out).mono ?_; rintro e w5 ⟨rfl, hb5⟩; have HB5 := Lib.hid (HB2.out.trans (hb5.mono HB2.out.size)); clear hb5))
    go_ret
    exact ⟨rfl, HB5.out⟩
  · obtain ⟨l0, hr0, hw0⟩ : ∃ l0, readO s = some l0 ∧ writeO (formM l0) = some t := by
      unfold formO at hfo
      cases hr : readO s with
      | none => rw [hr] at hfo; cases hfo
      | some l0 => rw [hr] at hfo; exact ⟨l0, rfl, hfo⟩
    have hl0 : (formM l0).length ≤ 16 := Nat.le_trans (formM_len l0) (readO_few hr0)
    have HR1 := Lib.hid ((pReadS_any s w hv ls).mono fun e w' (h : ReadsE s w e w') => (show Below w.heap.size w w' ∧ ∃ u L, e = .returned (.tuple #[u, .int .i64 0]) ∧ Ans w' w.heap.size u L l0 from (by unfold ReadsE at h; rw [hr0] at h; exact SetE.ans h hl0)))
    have htl : t.length ≤ 9223372036854775807 := by
      unfold writeO at hw0
      split at hw0
      · cases hw0; decide
      · split at hw0
        · split at hw0
          · rename_i hlen; cases hw0; omega
          · cases hw0
        · cases hw0
    have HW : Hid (∀ L, spanB L = true → spanM L = formM l0 → ∃ l', readO t = some l' ∧ formM l' = spanM L) := Lib.hid (fun L hg hm => write_read (spanB_can hg) (fun x hx => by
      unfold spanM at hx
      obtain ⟨y, hy, rfl⟩ := List.mem_map.1 hx
      have := toSt_wf (spanB_right hg y hy)
      exact ⟨this.1, this.2.1⟩) (by unfold spanM; rw [List.length_map]; exact spanB_len hg) (by rw [hm]; exact hw0))
    have HFT : Hid (∀ l', readO t = some l' → formM l' = formM l0 → formO t = some t) := Lib.hid (fun l' h1 h2 => by unfold formO; rw [h1]; show writeO (formM l') = some t; rw [h2, hw0])
    have HF2 := Lib.hid (fun w' (g : Below w.heap.size w w') => pForm_any t w' (hv.gr g) htl)
    have HR2 := Lib.hid (fun w' (g : Below w.heap.size w w') => pReadS_any t w' (hv.gr g) htl)
    have HIS := Lib.hid (fun w' (g : Below w.heap.size w w') => pIs_any t w' (hv.gr g) htl)
    rw [hfo] at HF1
    generalize str s = ts at *
    clear hv ls hfo hw0 hr0 hl0 htl
    go_enter Tryz.func9, Tryz.ntmps9
    go_wp2_with (go_at_call 10; refine HR1.out.mono ?_; rintro e w1 ⟨hb1, u1, L1, rfl, ⟨a1, c1, rfl, hi1⟩, hrow1, hg1, hm1⟩; have HB1 := Lib.hid hb1; have HI1 := Lib.hid hi1; have HG1 := Lib.hid hg1; have HM1 := Lib.hid hm1; clear hb1 hi1 hrow1 hg1 hm1; refine Hid.out ?_)
    refine Lib.hid ?_
    obtain ⟨l', hr', hm'⟩ := HW.out L1 HG1.out HM1.out
    have hft := HFT.out l' hr' (hm'.trans HM1.out)
    have hlm : (formM l').length ≤ 16 := by rw [hm']; unfold spanM; rw [List.length_map]; exact spanB_len HG1.out
    have HR2' := Lib.hid (fun w' (g : Below w.heap.size w w') => (HR2.out w' g).mono fun e w'' (h : ReadsE t w' e w'') => (show Below w'.heap.size w' w'' ∧ ∃ u L, e = .returned (.tuple #[u, .int .i64 0]) ∧ Ans w'' w'.heap.size u L l' from (by unfold ReadsE at h; rw [hr'] at h; exact SetE.ans h hlm)))
    have HF2' := HF2
    rw [hft] at HF2' HIS
    have hdt : decide (some t = some t) = true := decide_eq_true rfl
    rw [hdt] at HIS
    have HMM := Lib.hid hm'
    have htt : ((str t).toList == (str t).toList) = true := by simp
    clear HR2 HF2 HFT HW hr' hm' hft hlm hdt
    go_wp2_with (go_at_call 12; refine (HF1.out _ HB1.out).mono ?_; rintro e w2 ⟨rfl, hb2⟩; unfold outO; dsimp only; have HB2 := Lib.hid (HB1.out.trans (hb2.mono HB1.out.size)); have HI2 := Lib.hid (HI1.out.below hb2); clear hb2; refine Hid.out ?_)
    refine Lib.hid ?_
    have HMY := Lib.hid (pMayS_any a1 c1 L1 w2 HI2.out)
    have hmc : mayC L1 = 0 := by unfold mayC; rw [if_pos HG1.out]
    rw [hmc] at HMY
    clear hmc HF1
    go_wp2_with (go_at_call 19; refine HMY.out.mono ?_; rintro e w3 ⟨rfl, hb3⟩; have HB3 := Lib.hid (HB2.out.trans (hb3.mono HB2.out.size)); have HI3 := Lib.hid (HI2.out.below hb3); clear hb3; refine Hid.out ?_)
    refine Lib.hid ?_
    clear HMY HI2 HB1 HR1 HI1
    go_wp2_with (go_at_call 10; refine (HR2'.out _ HB3.out).mono ?_; rintro e w4 ⟨hb4, u2, K, rfl, ⟨a2, c2, rfl, hi4⟩, hrow4, hg4, hm4⟩; have HB4 := Lib.hid (HB3.out.trans (hb4.mono HB3.out.size)); have HK4 := Lib.hid hi4; have HG4 := Lib.hid hg4; have HM4 := Lib.hid hm4; have HI4 := Lib.hid (HI3.out.below hb4); clear hb4 hi4 hrow4 hg4 hm4; refine Hid.out ?_)
    refine Lib.hid ?_
    clear HR2' HI3 HB2 HB3
    obtain ⟨hsl, hss⟩ := same_all HG4.out HG1.out (HM4.out.trans HMM.out)
    have HSM := Lib.hid (fun w' (g : Below w4.heap.size w4 w') => rsame_yes a2 c2 K a1 c1 L1 w' (HK4.out.below g) (HI4.out.below g) (by have := spanB_len HG4.out; omega) hsl hss)
    clear hsl hss
    go_upto_region 9 with (go_at_call 12; refine (HF2'.out _ HB4.out).mono ?_; rintro e w5 ⟨rfl, hb5⟩; unfold outO; dsimp only; have HB5 := Lib.hid (HB4.out.trans (hb5.mono HB4.out.size)); have HSS := Lib.hid (HSM.out w5 hb5); clear hb5)
    clear HF2' HSM HK4 HI4 HB4
    go_wp2_with (first
      | (go_at_call 14; refine HSS.out.mono ?_; rintro e w6 ⟨rfl, hb6⟩; have HB6 := Lib.hid (HB5.out.trans (hb6.mono HB5.out.size)); clear hb6)
      | (go_at_call 15; refine (HIS.out _ HB6.out).mono ?_; rintro e w7 ⟨rfl, hb7⟩; have HB7 := Lib.hid (HB6.out.trans (hb7.mono HB6.out.size)); clear hb7)
      | (go_at_call 17; refine (HAL.out _ HB7.out).mono ?_; rintro e w8 ⟨rfl, hb8⟩; have HB8 := Lib.hid (HB7.out.trans (hb8.mono HB7.out.size)); clear hb8))
    go_ret
    exact ⟨rfl, HB8.out⟩
end SpanC
end Go.Proofs.YtibbfaobccbhfaaGreatDoor
