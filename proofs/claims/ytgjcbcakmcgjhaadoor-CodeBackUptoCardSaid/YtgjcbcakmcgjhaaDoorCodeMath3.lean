/-
  The plain mathematics of layer 2, there and back: what was read is written as it was; what was written is read, whatever stands behind it. It names nothing of the program.
-/
import Derived.Test.YtgjcbcakmcgjhaaDoorCodeMath2
import Derived.Lib.IndexBytes
namespace Go.Proofs.YtgjcbcakmcgjhaaDoor.CodeM

/-! ### what was read is written as it was -/
theorem ur_back : ∀ (l : List UInt8) (n x v m : Nat), ur n x l = .inr (v, m) → ∃ y, v = x + y * 128 ^ n ∧ n ≤ m ∧ uintB y = l.take (m - n) ∧ (n = 0 ∨ 1 ≤ y)
  | [], n, x, v, m, h => by rw [ur] at h; split at h <;> cases h
  | c :: r, n, x, v, m, h => by
    have hc := c.toNat_lt
    rw [ur] at h
    split at h
    · cases h
    · split at h
      · cases h
      · split at h
        · rename_i hlt
          split at h
          · cases h
          · cases h
            refine ⟨c.toNat, by rw [Nat.mod_eq_of_lt hlt], by omega, ?_, by omega⟩
            rw [uintB_small _ (by omega), show n + 1 - n = 1 by omega]
            simp
        · obtain ⟨y, h1, h2, h3, h4⟩ := ur_back r _ _ _ _ h
          have hy : 1 ≤ y := by omega
          refine ⟨c.toNat % 128 + 128 * y, ?_, by omega, ?_, by omega⟩
          · rw [h1, Nat.pow_succ, Nat.add_mul, Nat.mul_comm 128 y, Nat.mul_assoc, Nat.mul_comm 128 (128 ^ n), Nat.add_assoc]
          · rw [uintB_big _ (by omega), show (c.toNat % 128 + 128 * y) % 128 + 128 = c.toNat by omega, show (c.toNat % 128 + 128 * y) / 128 = y by omega, h3, show m - n = (m - (n + 1)) + 1 by omega]
            simp
theorem uRes_back {most k v q : Nat} {s : ByteArray} (h : uRes most k (s.data.toList.drop k) = (v, 0, 0, q)) : k ≤ q ∧ v ≤ most ∧ uintB v = (s.data.toList.drop k).take (q - k) := by
  unfold uRes at h
  cases hu : ur 0 0 (s.data.toList.drop k) with
  | inl e =>
    rw [hu] at h
    simp only [Prod.mk.injEq] at h
    obtain ⟨-, he, hk, -⟩ := h
    exfalso
    have hl : ∀ (l : List UInt8) (n x e : Nat), ur n x l = .inl e → e ≠ 0 := by
      intro l
      induction l with
      | nil => intro n x e h; rw [ur] at h; split at h <;> (cases h; decide)
      | cons c r ih =>
        intro n x e h
        rw [ur] at h
        split at h
        · cases h; decide
        · split at h
          · cases h; decide
          · split at h
            · split at h
              · cases h; decide
              · cases h
            · exact ih _ _ _ h
    exact hl _ _ _ _ hu he
  | inr p =>
    obtain ⟨v', m⟩ := p
    rw [hu] at h
    simp only at h
    split at h
    · simp at h
    · rename_i hm
      simp only [Prod.mk.injEq] at h
      obtain ⟨rfl, -, -, rfl⟩ := h
      obtain ⟨y, h1, h2, h3, h4⟩ := ur_back _ _ _ _ _ hu
      refine ⟨by omega, by omega, ?_⟩
      rw [show v' = y by simpa using h1, h3]
      congr 1; omega
theorem take_take_drop (l : List UInt8) (k a q : Nat) (h1 : k ≤ a) (h2 : a ≤ q) : (l.drop k).take (a - k) ++ (l.drop a).take (q - a) = (l.drop k).take (q - k) := by
  have e : l.drop a = (l.drop k).drop (a - k) := by rw [List.drop_drop]; congr 1; omega
  rw [e, show q - k = (a - k) + (q - a) by omega, List.take_add]
theorem tRes_back {most k a b q : Nat} {s : ByteArray} (hk : k ≤ s.size) (h : tRes most k s = (a, b, 0, 0, q)) : k ≤ q ∧ q ≤ s.size ∧ textB (s.extract a b).data.toList = (s.data.toList.drop k).take (q - k) := by
  rcases uRes_cases most k s hk with ⟨e, he, he2, hu⟩ | ⟨v, d, hv, hd, hu⟩
  · rw [tRes_err hu he] at h
    simp only [Prod.mk.injEq] at h
    exact absurd h.2.2.1 he
  · obtain ⟨h1, h2, h3⟩ := uRes_back hu
    by_cases hq : s.size - (k + d) < v
    · rw [tRes_short hu hq] at h
      simp at h
    · rw [tRes_ok hu hq] at h
      simp only [Prod.mk.injEq] at h
      obtain ⟨rfl, rfl, -, -, rfl⟩ := h
      refine ⟨by omega, by omega, ?_⟩
      have hd : (s.extract (k + d) (k + d + v)).data.toList = (s.data.toList.drop (k + d)).take v := by rw [Lib.extract_data]; congr 1; omega
      have hl : ((s.data.toList.drop (k + d)).take v).length = v := by
        have e : s.data.toList.length = s.size := by simp
        rw [List.length_take, List.length_drop, e]; omega
      unfold textB
      rw [hd, hl, h3, show v = k + d + v - (k + d) by omega]
      have := take_take_drop s.data.toList k (k + d) (k + d + v) (by omega) (by omega)
      simpa using this
theorem lRes_back {each : Nat} {s : ByteArray} : ∀ {n k q : Nat} {L : List ByteArray}, k ≤ s.size → lRes each s n k = (L, 0, q) → k ≤ q ∧ q ≤ s.size ∧ textsB L = (s.data.toList.drop k).take (q - k)
  | 0, k, q, L, hk, h => by
    simp only [lRes, Prod.mk.injEq] at h
    obtain ⟨rfl, -, rfl⟩ := h
    exact ⟨Nat.le_refl _, hk, by simp [textsB]⟩
  | n + 1, k, q, L, hk, h => by
    rcases tRes_cases each k s hk with ⟨e, he, he2, ht⟩ | ⟨a, z, h1, h2, h3, ht⟩
    · rw [lRes_err ht he] at h
      simp only [Prod.mk.injEq] at h
      exact absurd h.2.1 he
    · rw [lRes_ok ht] at h
      cases hr : lRes each s n z with
      | mk M p =>
        obtain ⟨e, y⟩ := p
        rw [hr] at h
        simp only [pre, Prod.mk.injEq] at h
        obtain ⟨hL, rfl, rfl⟩ := h
        simp only [if_true] at hL
        subst hL
        obtain ⟨g1, g2, g3⟩ := lRes_back h2 hr
        obtain ⟨f1, f2, f3⟩ := tRes_back hk ht
        refine ⟨by omega, g2, ?_⟩
        show textB (s.extract a z).data.toList ++ textsB M = _
        rw [f3, g3]
        exact take_take_drop s.data.toList k z y f1 g1
theorem tsRes_back {most each k q : Nat} {s : ByteArray} {L : List ByteArray} (hk : k ≤ s.size) (h : tsRes most each k s = (L, 0, 0, q)) : k ≤ q ∧ q ≤ s.size ∧ listB L = (s.data.toList.drop k).take (q - k) := by
  rcases uRes_cases most k s hk with ⟨e, he, he2, hu⟩ | ⟨v, d, hv, hd, hu⟩
  · rw [tsRes_err hu he] at h
    simp only [Prod.mk.injEq] at h
    exact absurd h.2.1 he
  · obtain ⟨h1, h2, h3⟩ := uRes_back hu
    cases hr : lRes each s v (k + d) with
    | mk M p =>
      obtain ⟨e, y⟩ := p
      by_cases he : e = 0
      · subst he
        rw [tsRes_ok hu hr] at h
        simp only [Prod.mk.injEq] at h
        obtain ⟨rfl, -, -, rfl⟩ := h
        obtain ⟨g1, g2, g3⟩ := lRes_back hd hr
        have hlen := (lRes_le each s v (k + d) hd).2.2.2 (by rw [hr])
        rw [hr] at hlen
        refine ⟨by omega, g2, ?_⟩
        show uintB M.length ++ textsB M = _
        rw [show M.length = v from hlen, h3, g3]
        exact take_take_drop s.data.toList k (k + d) y (by omega) g1
      · rw [tsRes_in hu hr he] at h
        simp only [Prod.mk.injEq] at h
        exact absurd h.2.1 he

/-! ### what was written is read -/
theorem ur_there (y k x : Nat) (r : List UInt8) (h : y * 128 ^ k + x < 18446744073709551616) (hx : x < 128 ^ k) (h0 : k = 0 ∨ 1 ≤ y) : ur k x (uintB y ++ r) = .inr (x + y * 128 ^ k, k + (uintB y).length) := by
  have hk : k ≤ 9 := by
    rcases h0 with h0 | h0
    · omega
    · exact pow_bound k y (y * 128 ^ k) (Nat.le_refl _) h0 (by omega)
  have h9 : k = 9 → y ≤ 1 := by
    intro e
    subst e
    have : (128 : Nat) ^ 9 = 9223372036854775808 := by decide
    omega
  induction y using Nat.strongRecOn generalizing k x with
  | _ y ih =>
    by_cases hb : 127 < y
    · rw [uintB_big y hb, List.cons_append, ur, if_neg (by omega), UInt8.toNat_ofNat_of_lt' (show y % 128 + 128 < 256 by omega), if_neg (by omega), if_neg (by omega)]
      have hk9 : k ≠ 9 := fun e => by have := h9 e; omega
      have e1 : (y % 128 + 128) % 128 = y % 128 := by omega
      have e2 : y = y % 128 + 128 * (y / 128) := by omega
      have e3 : y * 128 ^ k = y % 128 * 128 ^ k + y / 128 * 128 ^ (k + 1) := by
        rw [Nat.pow_succ, Nat.mul_comm (128 ^ k) 128, ← Nat.mul_assoc, Nat.mul_comm (y / 128) 128, ← Nat.add_mul, ← e2]
      have hx' : x + y % 128 * 128 ^ k < 128 ^ (k + 1) := next_lt x k _ hx (Nat.mod_lt _ (by decide))
      rw [e1, ih (y / 128) (by omega) (k + 1) (x + y % 128 * 128 ^ k) (by omega) hx' (Or.inr (by omega)) (by omega) (fun e => by
        have hy8 : k = 8 := by omega
        subst hy8
        have : (128 : Nat) ^ 8 = 72057594037927936 := by decide
        omega)]
      rw [List.length_cons]
      congr 2
      · omega
      · omega
    · rw [uintB_small y hb, List.singleton_append, ur, if_neg (by omega), UInt8.toNat_ofNat_of_lt' (show y < 256 by omega), if_neg (by omega), if_pos (by omega), if_neg (by omega), Nat.mod_eq_of_lt (by omega)]
      rfl
theorem uRes_there {most k v : Nat} {s : ByteArray} {r : List UInt8} (h : s.data.toList.drop k = uintB v ++ r) (hv : v < 18446744073709551616) (hm : v ≤ most) : uRes most k (s.data.toList.drop k) = (v, 0, 0, k + (uintB v).length) := by
  have := ur_there v 0 0 r (by simpa using hv) (by decide) (Or.inl rfl)
  rw [h, uRes, this]
  simp
  omega
theorem drop_there {l a r : List UInt8} {k : Nat} (h : l.drop k = a ++ r) : l.drop (k + a.length) = r := by
  rw [← List.drop_drop, h, List.drop_left]
theorem tRes_there {most k : Nat} {s t : ByteArray} {r : List UInt8} (hk : k ≤ s.size) (h : s.data.toList.drop k = textB t.data.toList ++ r) (hv : t.size < 18446744073709551616) (hm : t.size ≤ most) :
    tRes most k s = (k + (uintB t.size).length, k + (textB t.data.toList).length, 0, 0, k + (textB t.data.toList).length) ∧ s.extract (k + (uintB t.size).length) (k + (textB t.data.toList).length) = t ∧ k + (textB t.data.toList).length ≤ s.size := by
  have e : t.data.toList.length = t.size := by simp
  have es : s.data.toList.length = s.size := by simp
  have e2 : (textB t.data.toList).length = (uintB t.size).length + t.size := by rw [textB, List.length_append, e]
  have h1 : s.data.toList.drop k = uintB t.size ++ (t.data.toList ++ r) := by rw [h, textB, e, List.append_assoc]
  have hu := uRes_there h1 hv hm
  have h2 := drop_there h1
  have hl := congrArg List.length h
  rw [List.length_drop, List.length_append, es] at hl
  rw [e2] at hl ⊢
  refine ⟨?_, ?_, by omega⟩
  · rw [tRes_ok hu (by omega), Nat.add_assoc]
  · apply ByteArray.ext
    apply Array.toList_inj.1
    rw [Lib.extract_data, h2, show k + ((uintB t.size).length + t.size) - (k + (uintB t.size).length) = t.size by omega, ← e, List.take_left]
theorem lRes_there {each : Nat} {s : ByteArray} : ∀ (L : List ByteArray) (k : Nat) (r : List UInt8), k ≤ s.size → s.data.toList.drop k = textsB L ++ r → (∀ t ∈ L, t.size < 18446744073709551616 ∧ t.size ≤ each) →
    lRes each s L.length k = (L, 0, k + (textsB L).length)
  | [], k, r, hk, h, ha => by simp [lRes, textsB]
  | t :: L, k, r, hk, h, ha => by
    have h1 : s.data.toList.drop k = textB t.data.toList ++ (textsB L ++ r) := by rw [h, textsB, List.append_assoc]
    obtain ⟨g1, g2, g3⟩ := tRes_there hk h1 (ha t (by simp)).1 (ha t (by simp)).2
    have h2 := drop_there h1
    rw [List.length_cons, lRes_ok g1, lRes_there L _ r g3 h2 (fun u hu => ha u (by simp [hu])), g2]
    simp [pre, textsB, Nat.add_assoc]
theorem tsRes_there {most each k : Nat} {s : ByteArray} {r : List UInt8} (L : List ByteArray) (hk : k ≤ s.size) (h : s.data.toList.drop k = listB L ++ r) (hl : L.length ≤ most) (hv : L.length < 18446744073709551616) (ha : ∀ t ∈ L, t.size < 18446744073709551616 ∧ t.size ≤ each) :
    tsRes most each k s = (L, 0, 0, k + (listB L).length) := by
  have h1 : s.data.toList.drop k = uintB L.length ++ (textsB L ++ r) := by rw [h, listB, List.append_assoc]
  have hu := uRes_there h1 hv hl
  have h2 := drop_there h1
  have hle : k + (uintB L.length).length ≤ s.size := by
    have es : s.data.toList.length = s.size := by simp
    have hl := congrArg List.length h1
    rw [List.length_drop, List.length_append, es] at hl
    omega
  have hr := lRes_there L _ r hle h2 ha
  rw [tsRes_ok hu hr, listB, List.length_append, Nat.add_assoc]
theorem wRes_there {k x : Nat} {s : ByteArray} {r : List UInt8} (h : s.data.toList.drop k = wordB x 8 ++ r) (hx : x < 18446744073709551616) : wRes k s = (x, 0, 0, k + 8) := by
  have es : s.data.toList.length = s.size := by simp
  have hl := congrArg List.length h
  rw [List.length_drop, List.length_append, es, wordB_length] at hl
  have e8 : (wordB x 8 ++ r).take 8 = wordB x 8 := by
    rw [List.take_append_of_le_length (by rw [wordB_length]; omega), List.take_of_length_le (by rw [wordB_length]; omega)]
  rw [wRes_ok (by omega), h, e8, wv_wordB]
  congr 1
  omega
end Go.Proofs.YtgjcbcakmcgjhaaDoor.CodeM
