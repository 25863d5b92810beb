/-
  Package version's order: compareIdentifiers, compare, Cmp, Order: one contract a function.
-/
import Derived.Test.YtgoocnmbihjmlaaGreatDoorVerWorld
import Derived.Test.YtgoocnmbihjmlaaGreatDoorVerTxs
namespace Go.Proofs.YtgoocnmbihjmlaaGreatDoor
open Go.RowKit
namespace VerC
open VerM StrC TextR
set_option linter.unusedSimpArgs false

theorem compareBytes_is : ∀ a b : B, Lib.compareBytes a b = cmpB a b
  | [], [] => rfl
  | [], y :: r => by unfold Lib.compareBytes cmpB; simp
  | x :: l, [] => by unfold Lib.compareBytes cmpB; simp
  | x :: l, y :: r => by
    have ih := compareBytes_is l r
    unfold Lib.compareBytes
    unfold cmpB at ih ⊢
    simp only [List.cons.injEq, List.cons_lt_cons_iff]
    by_cases h1 : x < y
    · have hne : x ≠ y := fun e => by subst e; exact absurd h1 (UInt8.lt_irrefl x)
      simp [h1, hne]
    · by_cases h2 : y < x
      · have hne : x ≠ y := fun e => by subst e; exact absurd h2 (UInt8.lt_irrefl x)
        simp [h1, h2, hne]
      · have he : x = y := UInt8.le_antisymm (UInt8.not_lt.1 h2) (UInt8.not_lt.1 h1)
        subst he
        simp only [UInt8.lt_irrefl, if_false, true_and, false_or]
        exact ih
theorem digs_all {a : B} (h : a ≠ []) : digs a = a.all dig := by unfold digs; simp [h]
theorem kindP_cases {a : B} (h : a ≠ []) : (kindP a = 1 ∧ digs a = true) ∨ (kindP a = 0 ∧ digs a = false) := by
  rw [digs_all h]; unfold kindP; cases a.all dig <;> simp
/-- the five ways of two identifiers -/
theorem ordI_ways {a b : B} (ha : a ≠ []) (hb : b ≠ []) : (kindP a = 1 ∧ kindP b = 0 ∧ ordI a b = -1) ∨ (kindP a = 0 ∧ kindP b = 1 ∧ ordI a b = 1) ∨ (kindP a = 1 ∧ kindP b = 1 ∧ a.length ≠ b.length ∧ ordI a b = Lib.compareInt a.length b.length) ∨
    (kindP a = 1 ∧ kindP b = 1 ∧ a.length = b.length ∧ ordI a b = Lib.compareBytes a b) ∨ (kindP a = 0 ∧ kindP b = 0 ∧ ordI a b = Lib.compareBytes a b) := by
  rw [compareBytes_is, ordI_is]
  have hne : digs a ≠ digs b → a ≠ b := fun h e => h (by rw [e])
  rcases kindP_cases ha with ⟨h1, h2⟩ | ⟨h1, h2⟩ <;> rcases kindP_cases hb with ⟨h3, h4⟩ | ⟨h3, h4⟩
  · by_cases hl : a.length = b.length
    · right; right; right; left
      refine ⟨h1, h3, hl, ?_⟩
      unfold cmpB
      simp [h2, h4, hl]
    · right; right; left
      refine ⟨h1, h3, hl, ?_⟩
      have : a ≠ b := fun e => hl (by rw [e])
      unfold Lib.compareInt
      simp only [this, if_false, h2, h4, if_true, true_and, ne_eq, hl, not_false_eq_true]
      by_cases h5 : a.length < b.length
      · simp [h5]
      · simp [h5]; omega
  · left; exact ⟨h1, h3, by rw [if_neg (hne (by rw [h2, h4]; simp)), if_neg (by rw [h2, h4]; simp), if_pos h2]⟩
  · right; left; exact ⟨h1, h3, by rw [if_neg (hne (by rw [h2, h4]; simp)), if_neg (by rw [h2, h4]; simp), if_neg (by rw [h2]; simp)]⟩
  · right; right; right; right
    refine ⟨h1, h3, ?_⟩
    unfold cmpB
    simp [h2, h4]
theorem pcmpInt_any (x y : Int) (w : World) : Calls Tryz.prog 118 #[.int .i64 x, .int .i64 y] w fun e w' => e = .returned (.int .i64 (Lib.compareInt x y)) ∧ w = w' := by
  have H := Lib.hid (show Lib.compareInt x y = if x < y then -1 else if x > y then 1 else 0 from rfl)
  generalize Lib.compareInt x y = r at *
  go_enter Tryz.func118, Tryz.ntmps118
  go_wp2
  all_goals go_ret
  all_goals exact ⟨by rw [H.out]; (repeat' split) <;> first | rfl | omega, rfl⟩
theorem pcmpU_any (x y : Int) (w : World) : Calls Tryz.prog 145 #[.int .u32 x, .int .u32 y] w fun e w' => e = .returned (.int .i64 (cmpI x y)) ∧ w = w' := by
  have H := Lib.hid (show cmpI x y = if x < y then -1 else if y < x then 1 else 0 from rfl)
  generalize cmpI x y = r at *
  go_enter Tryz.func145, Tryz.ntmps145
  go_wp2
  all_goals go_ret
  all_goals exact ⟨by rw [H.out]; (repeat' split) <;> first | rfl | omega, rfl⟩
set_option maxHeartbeats 2000000 in
theorem pcmpIdent_any (a b : B) (w : World) (ha : a ≠ []) (hb : b ≠ []) (hla : a.length ≤ 1000) (hlb : b.length ≤ 1000) :
    Calls Tryz.prog 120 #[.string (str a), .string (str b)] w fun e w' => e = .returned (.int .i64 (ordI a b)) ∧ Gr w w' := by
  have hsa := str_size a
  have hsb := str_size b
  have HA := Lib.hid (fun w => pkind_any a w (by omega))
  have HB := Lib.hid (fun w => pkind_any b w (by omega))
  have HC := Lib.hid (fun w => Tryz.strings_Compare (str a) (str b) w)
  rw [str_ab, str_ab] at HC
  have H := ordI_ways ha hb
  generalize ordI a b = r at *
  generalize kindP a = ka at *
  generalize kindP b = kb at *
  have TK := Lib.hid hla
  rcases H with ⟨rfl, rfl, rfl⟩ | ⟨rfl, rfl, rfl⟩ | ⟨rfl, rfl, hl, rfl⟩ | ⟨rfl, rfl, hl, rfl⟩ | ⟨rfl, rfl, rfl⟩
  · go_enter Tryz.func120, Tryz.ntmps120
    go_wp2_with (first
      | (go_at_call 112; clear TK; refine (HA.out _).mono ?_; rintro e w' ⟨rfl, rfl⟩)
      | (go_at_call 112; refine (HB.out _).mono ?_; rintro e w' ⟨rfl, rfl⟩))
    go_ret
    exact ⟨rfl, (Gr.refl w).alloc _⟩
  · go_enter Tryz.func120, Tryz.ntmps120
    go_wp2_with (first
      | (go_at_call 112; clear TK; refine (HA.out _).mono ?_; rintro e w' ⟨rfl, rfl⟩)
      | (go_at_call 112; refine (HB.out _).mono ?_; rintro e w' ⟨rfl, rfl⟩))
    go_ret
    exact ⟨rfl, (Gr.refl w).alloc _⟩
  · have d1 : ((a.length : Int) != (b.length : Int)) = true := by rw [bne_iff_ne]; omega
    generalize hr : Lib.compareInt (a.length : Int) (b.length : Int) = r at *
    have HR := Lib.hid hr
    clear hr
    go_enter Tryz.func120, Tryz.ntmps120
    go_wp2_with (first
      | (go_at_call 112; clear TK; refine (HA.out _).mono ?_; rintro e w' ⟨rfl, rfl⟩)
      | (go_at_call 112; refine (HB.out _).mono ?_; rintro e w' ⟨rfl, rfl⟩)
      | (go_at_call 118; refine (pcmpInt_any _ _ _).mono ?_; rintro e w' ⟨rfl, rfl⟩))
    go_ret
    exact ⟨by rw [← HR.out]; rfl, (Gr.refl w).alloc _⟩
  · have d1 : ((a.length : Int) != (b.length : Int)) = false := by rw [hl]; simp
    generalize Lib.compareBytes a b = r at *
    clear hl
    go_enter Tryz.func120, Tryz.ntmps120
    go_wp2_with (first
      | (go_at_call 112; clear TK; refine (HA.out _).mono ?_; rintro e w' ⟨rfl, rfl⟩)
      | (go_at_call 112; refine (HB.out _).mono ?_; rintro e w' ⟨rfl, rfl⟩)
      | (go_at_call 147; refine (HC.out _).mono ?_; rintro e w' ⟨rfl, rfl⟩))
    go_ret
    exact ⟨rfl, (Gr.refl w).alloc _⟩
  · generalize Lib.compareBytes a b = r at *
    go_enter Tryz.func120, Tryz.ntmps120
    go_wp2_with (first
      | (go_at_call 112; clear TK; refine (HA.out _).mono ?_; rintro e w' ⟨rfl, rfl⟩)
      | (go_at_call 112; refine (HB.out _).mono ?_; rintro e w' ⟨rfl, rfl⟩)
      | (go_at_call 147; refine (HC.out _).mono ?_; rintro e w' ⟨rfl, rfl⟩))
    go_ret
    exact ⟨rfl, (Gr.refl w).alloc _⟩
end VerC
end Go.Proofs.YtgoocnmbihjmlaaGreatDoor
