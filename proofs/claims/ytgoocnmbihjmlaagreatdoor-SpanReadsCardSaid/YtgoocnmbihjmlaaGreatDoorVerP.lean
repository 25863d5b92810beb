/-
  Package version's small functions: digit, padded, kindOf, identifier, numbers, version, May: one contract a function.
-/
import Derived.Test.YtgoocnmbihjmlaaGreatDoorVerRef3
import Derived.Test.YtgoocnmbihjmlaaGreatDoorVerNum
namespace Go.Proofs.YtgoocnmbihjmlaaGreatDoor
open Go.RowKit
namespace VerC
open VerM StrC TextR
set_option linter.unusedSimpArgs false

theorem pdigit_any (c : Nat) (hc : c < 256) (w : World) :
    Calls Tryz.prog 111 #[.int .u8 (c : Int)] w fun e w' => e = .returned (.bool (decide (48 ≤ c) && decide (c ≤ 57))) ∧ w = w' := by
  have e1 : decide ((48 : Int) ≤ (c : Int)) = decide (48 ≤ c) := by simp only [show ((48 : Int) ≤ (c : Int)) = (48 ≤ c) from propext ⟨fun h => by omega, fun h => by omega⟩]
  have e2 : decide ((c : Int) ≤ (57 : Int)) = decide (c ≤ 57) := by simp only [show ((c : Int) ≤ (57 : Int)) = (c ≤ 57) from propext ⟨fun h => by omega, fun h => by omega⟩]
  rw [← e1, ← e2]
  clear e1 e2
  go_enter Tryz.func111, Tryz.ntmps111
  go_wp2
  all_goals go_ret
  all_goals exact ⟨by first | (simp [*]; done) | (simp [*]; omega), rfl⟩
theorem ppadded_any (l : B) (w : World) (hl : l.length ≤ 9223372036854775807) :
    Calls Tryz.prog 113 #[.string (str l)] w fun e w' => e = .returned (.bool (padded l)) ∧ w = w' := by
  have hs := str_size l
  by_cases h1 : 1 < l.length
  · have H := Lib.hid (show padded l = decide ((l.getD 0 0).toNat = 48) from padded_head h1)
    have hx0 := idx_any l 0 0 rfl (by omega)
    have d1 : decide ((1 : Int) < (l.length : Int)) = true := decide_eq_true (by omega)
    generalize l.getD 0 0 = c at *
    have e1 : ((c.toNat : Int) == 48) = decide (c.toNat = 48) := by rw [Bool.eq_iff_iff]; simp; omega
    go_enter Tryz.func113, Tryz.ntmps113
    go_wp2_with fail
    go_ret
    exact ⟨by rw [H.out, ← e1]; rfl, rfl⟩
  · have H := Lib.hid (show padded l = false by unfold padded; rw [decide_eq_false h1]; rfl)
    have d1 : decide ((1 : Int) < (l.length : Int)) = false := decide_eq_false (by omega)
    go_enter Tryz.func113, Tryz.ntmps113
    go_wp2_with fail
    go_ret
    exact ⟨by rw [H.out]; rfl, rfl⟩
/-- what an identifier is: 0 a word, 1 digits -/
def kindP (l : B) : Int := if l.all dig then 1 else 0
theorem kindP_no {l : B} (h : l.all dig = false) : kindP l = 0 := by unfold kindP; rw [h]; rfl
theorem kindP_yes {l : B} (h : l.all dig = true) : kindP l = 1 := by unfold kindP; rw [h]; rfl
set_option maxHeartbeats 1000000 in
theorem pkind_any (l : B) (w : World) (hl : l.length ≤ 9223372036854775807) :
    Calls Tryz.prog 112 #[.string (str l)] w fun e w' => e = .returned (.int .i64 (kindP l)) ∧ w = w' := by
  have hs := str_size l
  have HX := Lib.hid (fun a (h : a < l.length) => idx_any l a a rfl h)
  have HS := Lib.hid (all_succ dig l)
  have HE := Lib.hid (show (l.take l.length).all dig = l.all dig by rw [List.take_length])
  have HNO := Lib.hid (fun k h => kindP_no (all_not dig l k h))
  have HY := Lib.hid (fun h => kindP_yes (l := l) h)
  generalize kindP l = r at *
  go_enter Tryz.func112, Tryz.ntmps112
  go_wp2_with fail
  go_loop [3, 6] (fun _ i => ∃ k : Nat, k ≤ l.length ∧ i = .int .i64 k ∧ (l.take k).all dig = true) (fun _ i => l.length - (intOf i).toNat)
  case atStart => exact ⟨0, Nat.zero_le _, rfl, rfl⟩
  case round =>
    obtain ⟨k, hk, rfl, ha⟩ := hrel
    have HQ := Lib.hid ha; clear ha
    by_cases hlt : k < l.length
    · have hdec : decide (k < l.length) = true := by simpa using hlt
      have hx := HX.out k hlt
      have hn := Lib.hid (HS.out k hlt)
      have HD := Lib.hid (show dig (l.getD k 0) = (decide (48 ≤ (l.getD k 0).toNat) && decide ((l.getD k 0).toNat ≤ 57)) from rfl)
      have hc := (l.getD k 0).toNat_lt
      have HC := Lib.hid (fun w => pdigit_any (l.getD k 0).toNat hc w)
      rw [← HD.out] at HC
      clear HD hc
      generalize l.getD k 0 = c at *
      generalize dig c = dc at *
      go_wp2_with (go_at_call 111; refine (HC.out _).mono ?_; rintro e w' ⟨rfl, rfl⟩)
      · go_ret
        exact ⟨by rw [HNO.out (k + 1) (by rw [hn.out, HQ.out]; rename_i h; simpa using h)]; rfl, rfl⟩
      · exact ⟨⟨k + 1, by omega, by go_num, by rw [hn.out, HQ.out]; rename_i h; simpa using h⟩, by simp [intOf]; omega⟩
    · have hdec : decide (k < l.length) = false := by simpa using hlt
      have H := Lib.hid (HY.out (by rw [← HE.out, show l.length = k from by omega, HQ.out]))
      go_wp2
      go_ret
      exact ⟨by rw [H.out]; rfl, rfl⟩
/-- ident, by its parts -/
theorem ident_is (l : B) : ident l = (decide (1 ≤ l.length) && decide (l.length ≤ 16) && l.all okI && (decide (kindP l = 0) || !padded l)) := by
  unfold ident digs kindP
  by_cases h : 1 ≤ l.length
  · have hne : l ≠ [] := fun e => by rw [e] at h; simp at h
    simp only [hne, ne_eq, not_false_eq_true, decide_true, Bool.and_true]
    cases l.all dig <;> simp
  · simp [h]
theorem identP_size_no {l : B} (h : ¬ (1 ≤ l.length ∧ l.length ≤ 16)) : ident l = false := by
  unfold ident
  have : (decide (1 ≤ l.length) && decide (l.length ≤ 16)) = false := by
    rw [Bool.eq_false_iff]; intro e; simp only [Bool.and_eq_true, decide_eq_true_eq] at e; exact h e
  rw [this]; rfl
theorem identP_no {l : B} (h : l.all okI = false) : ident l = false := by unfold ident; rw [h]; simp
theorem identP_yes {l : B} (h1 : 1 ≤ l.length) (h2 : l.length ≤ 16) (h : l.all okI = true) : ident l = (decide (kindP l = 0) || !padded l) := by
  rw [ident_is, h, decide_eq_true h1, decide_eq_true h2]; rfl
set_option maxHeartbeats 2000000 in
theorem pident_any (l : B) (w : World) (hl : l.length ≤ 9223372036854775807) :
    Calls Tryz.prog 79 #[.string (str l)] w fun e w' => e = .returned (.bool (ident l)) ∧ w = w' := by
  have hs := str_size l
  by_cases hz : 1 ≤ l.length ∧ l.length ≤ 16
  rotate_left
  · have H := Lib.hid (identP_size_no hz)
    by_cases h1 : 1 ≤ l.length
    · have d1 : decide ((l.length : Int) < 1) = false := decide_eq_false (by omega)
      have d2 : decide ((16 : Int) < (l.length : Int)) = true := decide_eq_true (by omega)
      clear hz h1
      go_enter Tryz.func79, Tryz.ntmps79
      go_wp2_with fail
      go_ret
      exact ⟨by rw [H.out]; rfl, rfl⟩
    · have d1 : decide ((l.length : Int) < 1) = true := decide_eq_true (by omega)
      clear hz h1
      go_enter Tryz.func79, Tryz.ntmps79
      go_wp2_with fail
      go_ret
      exact ⟨by rw [H.out]; rfl, rfl⟩
  obtain ⟨h1, h2⟩ := hz
  have d1 : decide ((l.length : Int) < 1) = false := decide_eq_false (by omega)
  have d2 : decide ((16 : Int) < (l.length : Int)) = false := decide_eq_false (by omega)
  have HX := Lib.hid (fun a (h : a < l.length) => idx_any l a a rfl h)
  have HS := Lib.hid (all_succ okI l)
  have HE := Lib.hid (show (l.take l.length).all okI = l.all okI by rw [List.take_length])
  have HNO := Lib.hid (fun k h => identP_no (all_not okI l k h))
  have HY := Lib.hid (fun h => identP_yes (l := l) h1 h2 h)
  have HK := Lib.hid (fun w => pkind_any l w hl)
  have HP := Lib.hid (fun w => ppadded_any l w hl)
  have hkk : kindP l = 0 ∨ kindP l = 1 := by unfold kindP; split <;> simp
  generalize ident l = r at *
  generalize padded l = pd at *
  generalize kindP l = kd at *
  clear h1
  go_enter Tryz.func79, Tryz.ntmps79
  go_wp2_with fail
  clear d1 d2
  go_loop [3, 4, 15] (fun _ _ i => ∃ k : Nat, k ≤ l.length ∧ i = .int .i64 k ∧ (l.take k).all okI = true) (fun _ _ i => l.length - (intOf i).toNat)
  case atStart => exact ⟨0, Nat.zero_le _, rfl, rfl⟩
  case round =>
    obtain ⟨k, hk, rfl, ha⟩ := hrel
    have HQ := Lib.hid ha; clear ha
    by_cases hlt : k < l.length
    · have hdec : decide (k < l.length) = true := by simpa using hlt
      have hx := HX.out k hlt
      have hn := HS.out k hlt
      rw [HQ.out, Bool.true_and] at hn
      have HD := Lib.hid (show dig (l.getD k 0) = (decide (48 ≤ (l.getD k 0).toNat) && decide ((l.getD k 0).toNat ≤ 57)) from rfl)
      have hc := (l.getD k 0).toNat_lt
      have HC := Lib.hid (fun w => pdigit_any (l.getD k 0).toNat hc w)
      rw [← HD.out] at HC
      clear HD hc
      have hok : okI (l.getD k 0) = (dig (l.getD k 0) || (decide ((97 : Int) ≤ ((l.getD k 0).toNat : Int)) && decide (((l.getD k 0).toNat : Int) ≤ 122)) || (((l.getD k 0).toNat : Int) == 45)) := by
        unfold okI
        congr 1
        · congr 1
          congr 1
          · rw [Bool.eq_iff_iff]; simp; omega
          · rw [Bool.eq_iff_iff]; simp; omega
        · rw [Bool.eq_iff_iff]; simp; omega
      rw [hok] at hn
      clear hok
      generalize l.getD k 0 = c at *
      generalize dig c = b0 at *
      generalize hb1 : decide ((97 : Int) ≤ (c.toNat : Int)) = b1 at *
      generalize hb2 : decide ((c.toNat : Int) ≤ 122) = b2 at *
      generalize hb3 : ((c.toNat : Int) == 45) = b3 at *
      have hb4 : ((c.toNat : Int) != 45) = !b3 := by rw [← hb3]; rfl
      have HN := Lib.hid hn
      clear hn
      cases b0 <;> cases b1 <;> cases b2 <;> cases b3
      all_goals (go_wp2_with (go_at_call 111; refine (HC.out _).mono ?_; rintro e w' ⟨rfl, rfl⟩))
      all_goals first
        | exact ⟨⟨k + 1, by omega, by go_num, HN.out⟩, by simp [intOf]; omega⟩
        | (go_ret; exact ⟨by rw [HNO.out (k + 1) HN.out]; rfl, rfl⟩)
    · have hdec : decide (k < l.length) = false := by simpa using hlt
      have H := HY.out (by rw [← HE.out, show l.length = k from by omega, HQ.out])
      have HH := Lib.hid H
      clear H HNO HY HS HX HE
      rcases hkk with h | h
      · subst h
        go_wp2_with (first
          | (go_at_call 112; refine (HK.out _).mono ?_; rintro e w' ⟨rfl, rfl⟩)
          | (go_at_call 113; refine (HP.out _).mono ?_; rintro e w' ⟨rfl, rfl⟩))
        go_ret
        exact ⟨by rw [HH.out]; rfl, rfl⟩
      · subst h
        go_wp2_with (first
          | (go_at_call 112; refine (HK.out _).mono ?_; rintro e w' ⟨rfl, rfl⟩)
          | (go_at_call 113; refine (HP.out _).mono ?_; rintro e w' ⟨rfl, rfl⟩))
        go_ret
        exact ⟨by rw [HH.out]; rfl, rfl⟩
end VerC
end Go.Proofs.YtgoocnmbihjmlaaGreatDoor
