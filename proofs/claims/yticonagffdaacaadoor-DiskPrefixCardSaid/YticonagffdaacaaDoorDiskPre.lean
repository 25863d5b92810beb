/-
  The plain mathematics of DiskPrefix: what a cut leaves of pieces.
-/
import Derived.Test.YticonagffdaacaaDoorDiskFit
import Derived.Test.YticonagffdaacaaDoorDiskMath3
import Derived.Lib.IndexBytes
namespace Go.Proofs.YticonagffdaacaaDoor
namespace DiskC
open DiskM

theorem ba_ext {a b : ByteArray} (h : a.data.toList = b.data.toList) : a = b := ByteArray.ext (Array.toList_inj.1 h)
theorem ext_data (x : ByteArray) (a b : Nat) : (x.extract a b).data.toList = (x.data.toList.drop a).take (b - a) := Lib.extract_data x a b
theorem len_data (x : ByteArray) : x.data.toList.length = x.size := Array.length_toList
theorem join_front (a x : ByteArray) (r : Nat) (h : ¬ x.size ≤ 32) : (a ++ x.extract 0 (min x.size 32)) ++ (x.extract 32 x.size).extract 0 (min (x.extract 32 x.size).size (32 * r)) = a ++ x.extract 0 (min x.size (32 * (r + 1))) := by
  apply ba_ext
  simp only [ByteArray.data_append, Array.toList_append, ext_data, List.drop_zero, Nat.sub_zero, List.append_assoc]
  congr 1
  have hs : (x.extract 32 x.size).size = x.size - 32 := by simp
  have hl := len_data x
  rw [hs, Nat.min_eq_right (show 32 ≤ x.size by omega), List.take_take]
  have e : min x.size (32 * (r + 1)) = 32 + min (min (x.size - 32) (32 * r)) (x.size - 32) := by omega
  rw [e, List.take_add]
theorem all_front (x : ByteArray) (k : Nat) (h : x.size ≤ k) : x.extract 0 (min x.size k) = x := by
  apply ba_ext
  rw [ext_data, List.drop_zero, Nat.sub_zero, Nat.min_eq_left h, ← len_data, List.take_length]
theorem no_front (x : ByteArray) : x.extract 0 (min x.size 0) = ⟨#[]⟩ := by
  apply ba_ext
  rw [ext_data, List.drop_zero, Nat.sub_zero, Nat.min_zero, List.take_zero]
theorem app_empty (a : ByteArray) : a ++ ⟨#[]⟩ = a := ByteArray.append_empty
theorem empty_app (a : ByteArray) : (⟨#[]⟩ : ByteArray) ++ a = a := ByteArray.empty_append
theorem adds_cut {cut : Int} {name : ByteArray} : ∀ (fuel : Nat) (x : ByteArray) (s : DS) (rem : Nat), x.size < fuel → s.dead = false → cut = (s.count : Int) + (rem : Int) → bytesF name (addsS cut name fuel x s).2.fs = bytesF name s.fs ++ x.extract 0 (min x.size (32 * rem))
  | 0, x, s, rem, h, _, _ => by omega
  | k + 1, x, s, 0, h, hd, hc => by
    have hr : rawB cut s.count s.dead = false := by unfold rawB; rw [hd]; simp; omega
    rw [addsS_no hr, Nat.mul_zero, no_front, app_empty]
  | k + 1, x, s, r + 1, h, hd, hc => by
    have hr : rawB cut s.count s.dead = true := by unfold rawB; rw [hd]; simp; omega
    by_cases hx : x.size ≤ 32
    · rw [addsS_last hr hx]
      show bytesF name (layF _ _ _) = _
      rw [(has_lay _ _ _).2, all_front x 32 hx, all_front x _ (by omega)]
    · rw [addsS_more hr hx, adds_cut k _ ⟨layF name (bytesF name s.fs ++ x.extract 0 (min x.size 32)) s.fs, s.count + 1, s.dead⟩ r (by simp; omega) hd (by show cut = ((s.count + 1 : Nat) : Int) + r; omega)]
      show bytesF name (layF _ _ _) ++ _ = _
      rw [(has_lay _ _ _).2]
      exact join_front _ x r hx
theorem adds_all {cut : Int} {name : ByteArray} (hcut : cut < 0) : ∀ (fuel : Nat) (x : ByteArray) (s : DS), x.size < fuel → s.dead = false → (addsS cut name fuel x s).1 = true ∧ bytesF name (addsS cut name fuel x s).2.fs = bytesF name s.fs ++ x ∧ (addsS cut name fuel x s).2.dead = false
  | 0, x, s, h, _ => by omega
  | k + 1, x, s, h, hd => by
    have hr : rawB cut s.count s.dead = true := by unfold rawB; rw [hd]; simp; omega
    by_cases hx : x.size ≤ 32
    · rw [addsS_last hr hx]
      refine ⟨rfl, ?_, hd⟩
      show bytesF name (layF _ _ _) = _
      rw [(has_lay _ _ _).2, all_front x 32 hx]
    · rw [addsS_more hr hx]
      obtain ⟨h1, h2, h3⟩ := adds_all hcut k (x.extract 32 x.size) ⟨layF name (bytesF name s.fs ++ x.extract 0 (min x.size 32)) s.fs, s.count + 1, s.dead⟩ (by simp; omega) hd
      refine ⟨h1, h2.trans ?_, h3⟩
      show bytesF name (layF _ _ _) ++ _ = _
      rw [(has_lay _ _ _).2]
      have := join_front (bytesF name s.fs) x x.size hx
      rw [all_front x (32 * (x.size + 1)) (by omega), all_front (x.extract 32 x.size) (32 * x.size) (by simp; omega)] at this
      exact this
theorem adds_has {cut : Int} {name : ByteArray} : ∀ (fuel : Nat) (x : ByteArray) (s : DS), hasF name s.fs = true → hasF name (addsS cut name fuel x s).2.fs = true
  | 0, _, _, h => h
  | k + 1, x, s, h => by
    by_cases hr : rawB cut s.count s.dead = true
    · by_cases hx : x.size ≤ 32
      · rw [addsS_last hr hx]; exact (has_lay _ _ _).1
      · rw [addsS_more hr hx]; exact adds_has k _ _ (has_lay _ _ _).1
    · rw [addsS_no (by simpa using hr)]; exact h
def nF : ByteArray := ⟨#[102]⟩
/-- what a file has behind a call that was cut after k raw writes (below 0: never) -/
def aftS (before text : ByteArray) (put : Bool) (k : Int) : ByteArray :=
  if k < 0 then (if put then text else before ++ text)
  else if put then (if k = 0 then before else text.extract 0 (min text.size (32 * (k.toNat - 1)))) else before ++ text.extract 0 (min text.size (32 * k.toNat))
theorem pre_put (before : ByteArray) (h : before.size ≤ 4000) : ∃ fs c, putS (-1) nF before ⟨[], 0, false⟩ = (0, ⟨fs, c, false⟩) ∧ hasF nF fs = true ∧ bytesF nF fs = before ∧ Good fs := by
  have hg := put_good (cut := -1) (name := nF) (x := before) (s := ⟨[], 0, false⟩) ⟨Nat.zero_le _, fun f h => by cases h⟩
  have hc : ¬ (16777216 < before.size ∨ (hasF nF ([] : FL) = false ∧ 65536 ≤ ([] : FL).length)) := by
    intro e
    rcases e with e | ⟨-, e⟩
    · omega
    · simp at e
  unfold putS at hg ⊢
  rw [if_neg (by decide), if_neg (by decide), if_neg hc, if_neg (by decide)] at hg ⊢
  by_cases h0 : before.size = 0
  · rw [if_pos h0] at hg ⊢
    have e0 : before = ⟨#[]⟩ := ByteArray.ext (Array.eq_empty_of_size_eq_zero h0)
    rw [e0]
    exact ⟨_, _, rfl, (has_lay _ _ _).1, (has_lay _ _ _).2, hg.1⟩
  · rw [if_neg h0] at hg ⊢
    obtain ⟨h1, h2, h3⟩ := adds_all (cut := -1) (name := nF) (by decide) (before.size + 1) before ⟨layF nF ⟨#[]⟩ [], 0 + 1, false⟩ (Nat.lt_succ_self _) rfl
    have h4 := adds_has (cut := -1) (name := nF) (before.size + 1) before ⟨layF nF ⟨#[]⟩ [], 0 + 1, false⟩ (has_lay nF ⟨#[]⟩ []).1
    have e : bytesF nF (layF nF ⟨#[]⟩ []) = ⟨#[]⟩ := (has_lay _ _ _).2
    unfold addsR at hg ⊢
    generalize hR : addsS (-1) nF (before.size + 1) before ⟨layF nF ⟨#[]⟩ [], 0 + 1, false⟩ = R at *
    obtain ⟨ok, fs, c, d⟩ := R
    dsimp only at h1 h2 h3 h4 hg
    subst h1 h3
    exact ⟨fs, c, rfl, h4, by rw [h2]; show bytesF nF (layF _ _ _) ++ _ = _; rw [e, empty_app], hg.1⟩
theorem pre_step (before text : ByteArray) (put : Bool) (k : Int) (hk : k = -1 ∨ 0 ≤ k) (hsz : before.size + text.size ≤ 4000) (fs : FL) (hh : hasF nF fs = true) (hb : bytesF nF fs = before) (hg : Good fs) :
    hasF nF (if put then (putS k nF text ⟨fs, 0, false⟩).2 else (appendS k nF text ⟨fs, 0, false⟩).2).fs = true ∧ bytesF nF (if put then (putS k nF text ⟨fs, 0, false⟩).2 else (appendS k nF text ⟨fs, 0, false⟩).2).fs = aftS before text put k ∧
      Good (if put then (putS k nF text ⟨fs, 0, false⟩).2 else (appendS k nF text ⟨fs, 0, false⟩).2).fs := by
  have hgp := put_good (cut := k) (name := nF) (x := text) (s := ⟨fs, 0, false⟩) hg
  have hga := append_good (cut := k) (name := nF) (x := text) (s := ⟨fs, 0, false⟩) hg
  cases put
  · simp only [Bool.false_eq_true, if_false]
    refine ⟨?_, ?_, hga.1⟩
    · unfold appendS
      rw [if_neg (by decide), if_neg (show ¬ ((⟨fs, 0, false⟩ : DS).dead = true) from fun e => by cases e)]
      rw [if_neg (by rw [hh]; show ¬ (16777216 < (bytesF nF fs).size + text.size ∨ _); rw [hb]; intro e; rcases e with e | ⟨e, -⟩; omega; cases e)]
      exact adds_has _ _ _ hh
    · unfold appendS aftS
      rw [if_neg (by decide), if_neg (show ¬ ((⟨fs, 0, false⟩ : DS).dead = true) from fun e => by cases e)]
      rw [if_neg (by rw [hh]; show ¬ (16777216 < (bytesF nF fs).size + text.size ∨ _); rw [hb]; intro e; rcases e with e | ⟨e, -⟩; omega; cases e)]
      show bytesF nF (addsS k nF (text.size + 1) text ⟨fs, 0, false⟩).2.fs = _
      rcases hk with rfl | hk
      · rw [(adds_all (cut := -1) (name := nF) (by decide) _ _ _ (Nat.lt_succ_self _) rfl).2.1, if_pos (by decide)]
        show bytesF nF fs ++ text = _
        rw [hb]; rfl
      · rw [adds_cut _ _ _ k.toNat (Nat.lt_succ_self _) rfl (by show k = ((0 : Nat) : Int) + _; omega), if_neg (by omega)]
        show bytesF nF fs ++ _ = _
        rw [hb]; rfl
  · simp only [if_true]
    have hc : ¬ (16777216 < text.size ∨ (hasF nF fs = false ∧ 65536 ≤ fs.length)) := by
      rw [hh]; intro e
      rcases e with e | ⟨e, -⟩
      · omega
      · cases e
    by_cases hr : rawB k ((⟨fs, 0, false⟩ : DS).count : Int) (⟨fs, 0, false⟩ : DS).dead = false
    · have hk0 : k = 0 := by
        unfold rawB at hr; simp at hr; omega
      subst hk0
      have e : putS 0 nF text ⟨fs, 0, false⟩ = (5, ⟨fs, 0, true⟩) := by unfold putS; rw [if_neg (by decide), if_neg (show ¬ ((⟨fs, 0, false⟩ : DS).dead = true) from fun e => by cases e), if_neg hc, if_pos (show rawB 0 ((⟨fs, 0, false⟩ : DS).count : Int) (⟨fs, 0, false⟩ : DS).dead = false from rfl)]
      rw [e]
      exact ⟨hh, by rw [hb]; rfl, hg⟩
    · have hk1 : k = -1 ∨ 1 ≤ k := by
        rcases hk with h | h
        · exact Or.inl h
        · right
          by_cases h0 : k = 0
          · subst h0; exact absurd rfl hr
          · omega
      by_cases h0 : text.size = 0
      · have e : putS k nF text ⟨fs, 0, false⟩ = (0, ⟨layF nF ⟨#[]⟩ fs, 1, false⟩) := by unfold putS; rw [if_neg (by decide), if_neg (show ¬ ((⟨fs, 0, false⟩ : DS).dead = true) from fun e => by cases e), if_neg hc, if_neg hr, if_pos h0]
        have e0 : text = ⟨#[]⟩ := ByteArray.ext (Array.eq_empty_of_size_eq_zero h0)
        rw [e] at hgp ⊢
        refine ⟨(has_lay _ _ _).1, ?_, hgp.1⟩
        show bytesF nF (layF _ _ _) = _
        rw [(has_lay _ _ _).2]
        unfold aftS
        rcases hk1 with rfl | hk1
        · rw [if_pos (by decide), if_pos rfl, e0]
        · rw [if_neg (by omega), if_pos rfl, if_neg (by omega), all_front _ _ (by omega), e0]
      · have e : putS k nF text ⟨fs, 0, false⟩ = (code5 (addsR k nF text ⟨layF nF ⟨#[]⟩ fs, 1, false⟩).1, (addsR k nF text ⟨layF nF ⟨#[]⟩ fs, 1, false⟩).2) := by unfold putS; rw [if_neg (by decide), if_neg (show ¬ ((⟨fs, 0, false⟩ : DS).dead = true) from fun e => by cases e), if_neg hc, if_neg hr, if_neg h0]
        rw [e] at hgp ⊢
        refine ⟨adds_has _ _ _ (has_lay _ _ _).1, ?_, hgp.1⟩
        show bytesF nF (addsS k nF (text.size + 1) text ⟨layF nF ⟨#[]⟩ fs, 1, false⟩).2.fs = _
        have eb : bytesF nF (layF nF ⟨#[]⟩ fs) = ⟨#[]⟩ := (has_lay _ _ _).2
        unfold aftS
        rcases hk1 with rfl | hk1
        · rw [(adds_all (cut := -1) (name := nF) (by decide) _ _ _ (Nat.lt_succ_self _) rfl).2.1, if_pos (by decide), if_pos rfl]
          show bytesF nF (layF _ _ _) ++ _ = _
          rw [eb, empty_app]
        · rw [adds_cut _ _ _ (k.toNat - 1) (Nat.lt_succ_self _) rfl (by show k = ((1 : Nat) : Int) + _; omega), if_neg (by omega), if_pos rfl, if_neg (by omega)]
          show bytesF nF (layF _ _ _) ++ _ = _
          rw [eb, empty_app]
end DiskC
end Go.Proofs.YticonagffdaacaaDoor
