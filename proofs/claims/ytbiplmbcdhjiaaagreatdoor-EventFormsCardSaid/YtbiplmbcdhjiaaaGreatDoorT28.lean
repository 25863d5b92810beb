/-
  What the proof of EventForms stands on, part 28.
-/
import Derived.Test.YtbiplmbcdhjiaaaGreatDoorT27
set_option linter.unusedSimpArgs false
set_option linter.unusedVariables false
set_option maxHeartbeats 16000000
namespace Go.Proofs.YtbiplmbcdhjiaaaGreatDoor
open Go.Lib (hid)
section
open Go.RowKit
namespace NameC
open NameM StrC
theorem zuv (c : UInt8) (w : World) :
 Calls Tryz.prog 141 #[.int .u8 (c.toNat : Int)] w fun e w' => e = .returned (.bool (letter c)) ∧ w = w' := by
 have H := hid (show letter c = ((decide (97 ≤ c.toNat) && decide (c.toNat ≤ 122)) || (decide (65 ≤ c.toNat) && decide (c.toNat ≤ 90)) || (decide (48 ≤ c.toNat) && decide (c.toNat ≤ 57))) from rfl)
 generalize letter c = L at *
 have hc : c.toNat < 256 := c.toNat_lt
 generalize c.toNat = n at *
 go_enter Tryz.func141, Tryz.ntmps141
 go_wp2
 all_goals go_ret
 all_goals (refine ⟨retB ?_, rfl⟩; rw [H.out, Bool.eq_iff_iff]; simp only [Bool.or_eq_true, Bool.and_eq_true, decide_eq_true_eq, Bool.false_eq_true, true_iff, false_iff]; omega)
theorem all_succ (p : UInt8 → Bool) (l : List UInt8) (k : Nat) (h : k < l.length) : (l.take (k + 1)).all p = ((l.take k).all p && p (l.getD k 0)) := by
 rw [List.take_add_one, List.all_append]; simp [h]
theorem all_not (p : UInt8 → Bool) (l : List UInt8) (k : Nat) (h : (l.take k).all p = false) : l.all p = false := by
 rw [← List.take_append_drop k l, List.all_append, h]; rfl
theorem rmay_any (l : List UInt8) (w : World) (hl : l.length ≤ 9223372036854775807) :
 Calls Tryz.prog 112 #[.string (str l)] w fun e w' => e = .returned (.bool (may l)) ∧ w = w' := by
 have hs := zbl l
 rcases Nat.lt_or_ge l.length 1 with h1 | h1
 · have H := hid (show may l = false by unfold may; rw [decide_eq_false (by omega)]; rfl)
   go_enter Tryz.func112, Tryz.ntmps112
   go_wp2_with fail
   all_goals go_ret
   all_goals exact ⟨retB H.out.symm, rfl⟩
 rcases Nat.lt_or_ge 64 l.length with h2 | h2
 · have H := hid (show may l = false by unfold may; rw [decide_eq_false (p := l.length ≤ 64) (by omega)]; simp)
   go_enter Tryz.func112, Tryz.ntmps112
   go_wp2_with fail
   all_goals go_ret
   all_goals exact ⟨retB H.out.symm, rfl⟩
 have hx0 := zbo l 0 0 rfl (by omega)
 have hx1 := zbo l ((l.length : Int) - 1) (l.length - 1) (by omega) (by omega)
 have HX := hid (fun a (h : a < l.length) => zbo l a a rfl h)
 have HM := hid (show may l = (letter (l.getD 0 0) && letter (l.getD (l.length - 1) 0) && l.all okB) by unfold may; rw [decide_eq_true (by omega), decide_eq_true (p := l.length ≤ 64) (by omega)]; rfl)
 have HS := hid (all_succ okB l)
 have HA := hid (show (l.take 0).all okB = true from rfl)
 have HE := hid (show (l.take l.length).all okB = l.all okB by rw [List.take_length])
 generalize l.getD 0 0 = c0 at *
 generalize l.getD (l.length - 1) 0 = c1 at *
 have d1 : decide ((l.length : Int) < 1) = false := decide_eq_false (by omega)
 have d2 : decide (64 < (l.length : Int)) = false := decide_eq_false (by omega)
 rcases Bool.eq_false_or_eq_true (letter c0) with hb0 | hb0
 rotate_left
 · go_enter Tryz.func112, Tryz.ntmps112
   go_wp2_with (go_at_call 141; refine (zuv _ _).mono ?_; rintro e w' ⟨rfl, rfl⟩)
   all_goals go_ret
   all_goals exact ⟨retB (by rw [HM.out, hb0]; rfl), rfl⟩
 rcases Bool.eq_false_or_eq_true (letter c1) with hb1 | hb1
 rotate_left
 · go_enter Tryz.func112, Tryz.ntmps112
   go_wp2_with (go_at_call 141; refine (zuv _ _).mono ?_; rintro e w' ⟨rfl, rfl⟩)
   all_goals go_ret
   all_goals exact ⟨retB (by rw [HM.out, hb1]; simp), rfl⟩
 rw [hb0, hb1, Bool.true_and, Bool.true_and] at HM
 go_enter Tryz.func112, Tryz.ntmps112
 go_wp2_with (go_at_call 141; refine (zuv _ _).mono ?_; rintro e w' ⟨rfl, rfl⟩)
 clear hx0 hx1 hb0 hb1
 go_loop [3, 4] (fun i _ => ∃ k : Nat, k ≤ l.length ∧ i = .int .i64 k ∧ (l.take k).all okB = true) (fun i _ => l.length - (intOf i).toNat)
 case atStart => exact ⟨0, Nat.zero_le _, rfl, HA.out⟩
 case round =>
  obtain ⟨k, hk, rfl, ha⟩ := hrel
  have HQ := hid ha; clear ha
  by_cases hlt : k < l.length
  · have hdec : decide (k < l.length) = true := by simpa using hlt
    have hx := HX.out k hlt
    have hn := hid (HS.out k hlt)
    generalize l.getD k 0 = c at *
    go_wp2_with (go_at_call 141; refine (zuv _ _).mono ?_; rintro e w' ⟨rfl, rfl⟩)
    all_goals (first
     | (go_ret; refine ⟨retB ?_, rfl⟩; rw [HM.out]; refine (all_not okB l (k + 1) ?_).symm; rw [hn.out, HQ.out]; simp only [bne_iff_ne, ne_eq] at *; simp only [okB, sign, Bool.true_and, Bool.or_eq_false_iff, decide_eq_false_iff_not]; exact ⟨by simpa using ‹¬ letter c = true›, by omega⟩)
     | (refine ⟨⟨k + 1, by omega, by go_num, ?_⟩, by simp [intOf]; omega⟩; rw [hn.out, HQ.out]; simp only [okB, sign, Bool.true_and, Bool.or_eq_true, decide_eq_true_eq]; first | (left; assumption) | (right; omega) | (right; simp only [bne_eq_false_iff_eq] at *; omega)))
  · have hdec : decide (k < l.length) = false := by simpa using hlt
    go_wp2
    go_ret
    exact ⟨retB (by rw [HM.out, ← HE.out, show l.length = k from by omega, HQ.out]), rfl⟩
theorem st_pair (s l : List UInt8) (k : Nat) (h : k < l.length) (hc : letter (l.getD k 0) = true) : (st s (l.take (k + 1))).1 = (st s (l.take k)).1 ++ (if (st s (l.take k)).2 then s else []) ++ [low (l.getD k 0)] ∧ (st s (l.take (k + 1))).2 = false := by
 rw [zue s l k h]; unfold NameM.step; rw [if_pos hc]; exact ⟨rfl, rfl⟩
theorem zuw (s l : List UInt8) (k : Nat) (h : k < l.length) (hc : letter (l.getD k 0) = false) : (st s (l.take (k + 1))).1 = (st s (l.take k)).1 ∧ (st s (l.take (k + 1))).2 = true := by
 rw [zue s l k h]; unfold NameM.step; rw [if_neg (by rw [hc]; decide)]; exact ⟨rfl, rfl⟩
theorem zux (s l : List UInt8) (k : Nat) (hs : s.length ≤ 1) (h : k ≤ l.length) : (st s (l.take k)).1.length ≤ k := by
 have := zui s (l.take k) hs
 rw [List.length_take] at this
 omega
theorem zuy (c : UInt8) : ((low c).toNat : Int) = if 65 ≤ c.toNat ∧ c.toNat ≤ 90 then (c.toNat : Int) + 32 else c.toNat := by
 rw [zug]; split <;> simp
set_option maxRecDepth 100000 in
theorem zuz (l s : List UInt8) (w : World) (hl : l.length ≤ 64) (hs1 : s.length ≤ 1) :
 Calls Tryz.prog 113 #[.string (str l), .string (str s)] w fun e w' => e = .returned (.string (str (formD s l))) ∧ Below w.heap.size w w' := by
 have hs := zbl l
 have HX := hid (fun a (h : a < l.length) => zbo l a a rfl h)
 have HS := hid (fun k h hc => st_pair s l k h hc)
 have HS' := hid (fun k h hc => zuw s l k h hc)
 have HB := hid (fun k h => zux s l k hs1 h)
 have HA := hid (zbn)
 have HO := hid (zbr)
 have HE := hid (show formD s l = (st s (l.take l.length)).1 by rw [st_all s l _ (Nat.le_refl _)]; rfl)
 have H0 := hid (show (st s (l.take 0)) = ([], false) from rfl)
 have HL := hid hs1
 clear hs1
 go_enter Tryz.func113, Tryz.ntmps113
 go_wp2_with fail
 go_loopw [5, 6, 7, 8] (fun o r i _ wr => ∃ k : Nat, k ≤ l.length ∧ i = .int .i64 k ∧ o = .string (str (st s (l.take k)).1) ∧ r = .bool (st s (l.take k)).2 ∧ Below w.heap.size w wr) (fun _ _ i _ _ => l.length - (intOf i).toNat)
 case atStart => exact ⟨0, Nat.zero_le _, rfl, by rw [H0.out]; rfl, by rw [H0.out], Below.refl _ _⟩
 case round =>
  obtain ⟨k, hk, rfl, rfl, rfl, hb⟩ := hrel
  have hbl := HB.out k hk
  by_cases hlt : k < l.length
  · have hdec : decide (k < l.length) = true := by simpa using hlt
    have hx := HX.out k hlt
    have HS1 := hid (HS.out k hlt)
    have HS2 := hid (HS'.out k hlt)
    generalize l.getD k 0 = c at *
    have HC := hid (zuy c)
    have hc : c.toNat < 256 := c.toNat_lt
    rcases Bool.eq_false_or_eq_true (letter c) with hlet | hlet
    · obtain ⟨e1, e2⟩ := HS1.out hlet
      have E1 := hid e1
      have E2 := hid e2
      clear e1 e2
      have HB2 := hid hb; clear hb
      generalize (st s (l.take k)).1 = O at *
      have hcv : ∀ w : World, (if 65 ≤ c.toNat ∧ c.toNat ≤ 90 then (convert 80 9 (.slice (some ⟨w.heap.size, 0, none⟩) 1 1)).run Tryz.prog (w.alloc (.cells #[.int .u8 ((c.toNat : Int) + 32)] 5)) = .ok (.string (str [low c])) (w.alloc (.cells #[.int .u8 ((c.toNat : Int) + 32)] 5))
       else (convert 80 9 (.slice (some ⟨w.heap.size, 0, none⟩) 1 1)).run Tryz.prog (w.alloc (.cells #[.int .u8 (c.toNat : Int)] 5)) = .ok (.string (str [low c])) (w.alloc (.cells #[.int .u8 (c.toNat : Int)] 5))) := fun w => by
       split
       · rename_i h; exact zbs _ (low c) (by rw [HC.out, if_pos h]) w
       · rename_i h; exact zbs _ (low c) (by rw [HC.out, if_neg h]) w
      rcases Bool.eq_false_or_eq_true (st s (l.take k)).2 with hr | hr
      · rw [hr] at E1 ⊢
        have hO1 : (O ++ s).length ≤ k + 1 := by rw [List.length_append]; have := HL.out; omega
        have ha1 := fun w => zbn O s w (by rw [List.length_append] at hO1; omega)
        have ha2 := fun w => zbn (O ++ s) [low c] w (by simp at hO1 ⊢; omega)
        by_cases hcap : 65 ≤ c.toNat ∧ c.toNat ≤ 90
        · have hcw := hcv wr
          rw [if_pos hcap] at hcw
          clear hcv
          go_wp2_with (go_at_call 141; refine (zuv _ _).mono ?_; rintro e w' ⟨rfl, rfl⟩)
          go_roundw
          case rel => exact ⟨k + 1, by omega, by go_num, by rw [E1.out]; simp, by rw [E2.out], HB2.out.alloc HB2.out.size _⟩
          case measure => simp [intOf]; omega
        · have hcw := hcv wr
          rw [if_neg hcap] at hcw
          clear hcv
          go_wp2_with (go_at_call 141; refine (zuv _ _).mono ?_; rintro e w' ⟨rfl, rfl⟩)
          all_goals exact ⟨⟨k + 1, by omega, by go_num, by rw [E1.out]; simp, by rw [E2.out], HB2.out.alloc HB2.out.size _⟩, by simp [intOf]; omega⟩
      · rw [hr] at E1 ⊢
        have ha2 := fun w => zbn O [low c] w (by simp; omega)
        by_cases hcap : 65 ≤ c.toNat ∧ c.toNat ≤ 90
        · have hcw := hcv wr
          rw [if_pos hcap] at hcw
          clear hcv
          go_wp2_with (go_at_call 141; refine (zuv _ _).mono ?_; rintro e w' ⟨rfl, rfl⟩)
          go_roundw
          case rel => exact ⟨k + 1, by omega, by go_num, by rw [E1.out]; simp, by rw [E2.out], HB2.out.alloc HB2.out.size _⟩
          case measure => simp [intOf]; omega
        · have hcw := hcv wr
          rw [if_neg hcap] at hcw
          clear hcv
          go_wp2_with (go_at_call 141; refine (zuv _ _).mono ?_; rintro e w' ⟨rfl, rfl⟩)
          all_goals exact ⟨⟨k + 1, by omega, by go_num, by rw [E1.out]; simp, by rw [E2.out], HB2.out.alloc HB2.out.size _⟩, by simp [intOf]; omega⟩
    · obtain ⟨e1, e2⟩ := HS2.out hlet
      have E1 := hid e1
      have E2 := hid e2
      clear e1 e2
      have HB2 := hid hb; clear hb
      generalize (st s (l.take k)).1 = O at *
      go_wp2_with (go_at_call 141; refine (zuv _ _).mono ?_; rintro e w' ⟨rfl, rfl⟩)
      go_roundw
      case rel => exact ⟨k + 1, by omega, by go_num, by rw [E1.out], by rw [E2.out], HB2.out⟩
      case measure => simp [intOf]; omega
  · have hdec : decide (k < l.length) = false := by simpa using hlt
    have HB2 := hid hb; clear hb
    go_wp2
    go_ret
    exact ⟨by rw [HE.out, show l.length = k from by omega]; rfl, HB2.out⟩
theorem may_len {l : List UInt8} (h : may l = true) : l.length ≤ 64 := (zuu.1 h).2.1
theorem zva (l : List UInt8) (w : World) (hl : l.length ≤ 9223372036854775807) :
 Calls Tryz.prog 63 #[.string (str l)] w fun e w' => e = .returned (.tuple #[.string (str (norm l)), .int .i64 (code l)]) ∧ Below w.heap.size w w' := by
 have HM := hid (rmay_any l w hl)
 rcases Bool.eq_false_or_eq_true (may l) with hm | hm
 · have H1 := hid (show norm l = formD [45] l by unfold norm; rw [if_pos hm])
   have H2 := hid (show code l = 0 by unfold code; rw [if_pos hm])
   have HF := hid (zuz l [45] w (may_len hm) (by decide))
   go_enter Tryz.func63, Tryz.ntmps63
   go_wp2_with (first
    | (go_at_call 112; refine HM.out.mono ?_; rintro e w' ⟨rfl, rfl⟩)
    | (go_at_call 113; refine HF.out.mono ?_; rintro e w' ⟨rfl, hb⟩))
   go_ret2
   rw [H1.out, H2.out]
   exact ⟨rfl, hb⟩
 · have H1 := hid (show norm l = [] by unfold norm; rw [if_neg (by rw [hm]; decide)])
   have H2 := hid (show code l = 60 by unfold code; rw [if_neg (by rw [hm]; decide)])
   go_enter Tryz.func63, Tryz.ntmps63
   go_wp2_with (go_at_call 112; refine HM.out.mono ?_; rintro e w' ⟨rfl, rfl⟩)
   go_ret2
   rw [H1.out, H2.out]
   exact ⟨rfl, Below.refl _ _⟩
theorem zvb (l : List UInt8) (w : World) (hl : l.length ≤ 9223372036854775807) :
 Calls Tryz.prog 27 #[.string (str l)] w fun e w' => e = .returned (.bool (isN l)) ∧ Below w.heap.size w w' := by
 have HN := hid (zva l w hl)
 rcases Bool.eq_false_or_eq_true (may l) with hm | hm
 · have hc : code l = 0 := by unfold code; rw [if_pos hm]
   have H1 := hid (show isN l = decide (norm l = l) by unfold isN norm; rw [if_pos hm, hm, Bool.true_and])
   rw [hc] at HN
   clear hc
   generalize norm l = n at *
   go_enter Tryz.func27, Tryz.ntmps27
   go_wp2_with (go_at_call 63; refine HN.out.mono ?_; rintro e w' ⟨rfl, hb⟩)
   go_ret
   exact ⟨retB (by rw [zbp, H1.out]), hb⟩
 · have hc : code l = 60 := by unfold code; rw [if_neg (by rw [hm]; decide)]
   have H1 := hid (show isN l = false by unfold isN; rw [hm]; rfl)
   rw [hc] at HN
   clear hc
   go_enter Tryz.func27, Tryz.ntmps27
   go_wp2_with (go_at_call 63; refine HN.out.mono ?_; rintro e w' ⟨rfl, hb⟩)
   all_goals go_ret
   all_goals exact ⟨retB H1.out.symm, hb⟩
theorem zvc (l : List UInt8) (w : World) (hl : l.length ≤ 9223372036854775807) :
 Calls Tryz.prog 25 #[.string (str l)] w fun e w' => e = .returned (.bool (holder l)) ∧ w = w' := by
 have hs := zbl l
 rcases Nat.lt_or_ge l.length 1 with h1 | h1
 · have H := hid (show holder l = false by unfold holder; rw [decide_eq_false (by omega)]; rfl)
   go_enter Tryz.func25, Tryz.ntmps25
   go_wp2_with fail
   all_goals go_ret
   all_goals exact ⟨retB H.out.symm, rfl⟩
 rcases Nat.lt_or_ge 64 l.length with h2 | h2
 · have H := hid (show holder l = false by unfold holder; rw [decide_eq_false (p := l.length ≤ 64) (by omega)]; simp)
   go_enter Tryz.func25, Tryz.ntmps25
   go_wp2_with fail
   all_goals go_ret
   all_goals exact ⟨retB H.out.symm, rfl⟩
 have hx0 := zbo l 0 0 rfl (by omega)
 have HX := hid (fun a (h : a < l.length) => zbo l a a rfl h)
 have HM := hid (show holder l = ((decide (97 ≤ (l.getD 0 0).toNat) && decide ((l.getD 0 0).toNat ≤ 122)) && l.all holdB) by unfold holder; rw [decide_eq_true (by omega), decide_eq_true (p := l.length ≤ 64) (by omega)]; rfl)
 have HS := hid (all_succ holdB l)
 have HA := hid (show (l.take 0).all holdB = true from rfl)
 have HE := hid (show (l.take l.length).all holdB = l.all holdB by rw [List.take_length])
 generalize l.getD 0 0 = c0 at *
 have d1 : decide ((l.length : Int) < 1) = false := decide_eq_false (by omega)
 have d2 : decide (64 < (l.length : Int)) = false := decide_eq_false (by omega)
 have hc0 : c0.toNat < 256 := c0.toNat_lt
 by_cases hb : 97 ≤ c0.toNat ∧ c0.toNat ≤ 122
 rotate_left
 · have H := hid (show holder l = false by rw [HM.out, Bool.and_eq_false_iff]; left; rw [Bool.and_eq_false_iff, decide_eq_false_iff_not, decide_eq_false_iff_not]; omega)
   go_enter Tryz.func25, Tryz.ntmps25
   go_wp2_with fail
   all_goals go_ret
   all_goals exact ⟨retB H.out.symm, rfl⟩
 have HM2 := hid (show holder l = l.all holdB by rw [HM.out, decide_eq_true hb.1, decide_eq_true hb.2]; rfl)
 obtain ⟨hb1, hb2⟩ := hb
 go_enter Tryz.func25, Tryz.ntmps25
 go_wp2_with fail
 clear hx0 hb1 hb2
 go_loop [3] (fun i => ∃ k : Nat, k ≤ l.length ∧ i = .int .i64 k ∧ (l.take k).all holdB = true) (fun i => l.length - (intOf i).toNat)
 case atStart => exact ⟨0, Nat.zero_le _, rfl, HA.out⟩
 case round =>
  obtain ⟨k, hk, rfl, ha⟩ := hrel
  have HQ := hid ha; clear ha
  by_cases hlt : k < l.length
  · have hdec : decide (k < l.length) = true := by simpa using hlt
    have hx := HX.out k hlt
    have hn := hid (HS.out k hlt)
    generalize l.getD k 0 = c at *
    have hc : c.toNat < 256 := c.toNat_lt
    go_wp2_with fail
    all_goals (first
     | (go_ret; refine ⟨retB ?_, rfl⟩; rw [HM2.out]; refine (all_not holdB l (k + 1) ?_).symm; rw [hn.out, HQ.out]; simp only [holdB, Bool.true_and, Bool.or_eq_false_iff, Bool.and_eq_false_iff, decide_eq_false_iff_not]; omega)
     | (refine ⟨⟨k + 1, by omega, by go_num, ?_⟩, by simp [intOf]; omega⟩; rw [hn.out, HQ.out]; simp only [holdB, Bool.true_and, Bool.or_eq_true, Bool.and_eq_true, decide_eq_true_eq]; omega))
  · have hdec : decide (k < l.length) = false := by simpa using hlt
    go_wp2
    go_ret
    exact ⟨retB (by rw [HM2.out, ← HE.out, show l.length = k from by omega, HQ.out]), rfl⟩
end NameC
end
end Go.Proofs.YtbiplmbcdhjiaaaGreatDoor
section
namespace Go.Proofs
open Go.Shelf
def Tryz.lays155_ren : Go.Shelf.Ren := ⟨fun | 155 => 82 | 154 => 129 | 138 => 165 | 165 => 71 | 143 => 166 | 166 => 72 | 197 => 167 | 169 => 73 | 195 => 193 | 218 => 194 | 240 => 125 | 241 => 126 | 219 => 195 | 260 => 196 | 276 => 163 | 277 => 164 | 217 => 222 | 225 => 223 | 224 => 224 | 267 => 225 | 266 => 252 | 314 => 253 | n => n, fun | 9 => 9 | 3 => 3 | 4 => 4 | 72 => 128 | 0 => 0 | 76 => 130 | 105 => 229 | 21 => 21 | 5 => 5 | 70 => 126 | 20 => 20 | 37 => 80 | 75 => 42 | 127 => 191 | 164 => 104 | 46 => 136 | 119 => 295 | 139 => 298 | 138 => 297 | 146 => 318 | 51 => 25 | 80 => 103 | n => n, fun | 1 => 2 | 3 => 4 | 4 => 5 | n => n⟩
theorem Tryz.lays155 : Go.Proofs.Lays.n155 Tryz.prog Tryz.lays155_ren := {
 mixed := by kernel_rfl
 f138 := Tryz.func165.trans (congrArg some (by kernel_rfl))
 f143 := Tryz.func166.trans (congrArg some (by kernel_rfl))
 f154 := Tryz.func129.trans (congrArg some (by kernel_rfl))
 f155 := Tryz.func82.trans (congrArg some (by kernel_rfl))
 f165 := Tryz.func71.trans (congrArg some (by kernel_rfl))
 f166 := Tryz.func72.trans (congrArg some (by kernel_rfl))
 f169 := Tryz.func73.trans (congrArg some (by kernel_rfl))
 f195 := Tryz.func193.trans (congrArg some (by kernel_rfl))
 f197 := Tryz.func167.trans (congrArg some (by kernel_rfl))
 f217 := Tryz.func222.trans (congrArg some (by kernel_rfl))
 f218 := Tryz.func194.trans (congrArg some (by kernel_rfl))
 f219 := Tryz.func195.trans (congrArg some (by kernel_rfl))
 f224 := Tryz.func224.trans (congrArg some (by kernel_rfl))
 f225 := Tryz.func223.trans (congrArg some (by kernel_rfl))
 f240 := Tryz.func125.trans (congrArg some (by kernel_rfl))
 f241 := Tryz.func126.trans (congrArg some (by kernel_rfl))
 f260 := Tryz.func196.trans (congrArg some (by kernel_rfl))
 f266 := Tryz.func252.trans (congrArg some (by kernel_rfl))
 f267 := Tryz.func225.trans (congrArg some (by kernel_rfl))
 f276 := Tryz.func163.trans (congrArg some (by kernel_rfl))
 f277 := Tryz.func164.trans (congrArg some (by kernel_rfl))
 f314 := Tryz.func253.trans (congrArg some (by kernel_rfl))
 t0 := Tryz.underlying0
 a0 := Tryz.isAgg0
 z0 := Tryz.sizeOf0
 v0 := Tryz.zeroValue0
 t3 := Tryz.underlying3
 a3 := Tryz.isAgg3
 z3 := Tryz.sizeOf3
 v3 := Tryz.zeroValue3
 t4 := Tryz.underlying4
 a4 := Tryz.isAgg4
 z4 := Tryz.sizeOf4
 v4 := Tryz.zeroValue4
 t5 := Tryz.underlying5
 a5 := Tryz.isAgg5
 z5 := Tryz.sizeOf5
 v5 := Tryz.zeroValue5
 t9 := Tryz.underlying9
 a9 := Tryz.isAgg9
 z9 := Tryz.sizeOf9
 v9 := Tryz.zeroValue9
 t20 := Tryz.underlying20
 a20 := Tryz.isAgg20
 z20 := Tryz.sizeOf20
 v20 := Tryz.zeroValue20
 t21 := Tryz.underlying21
 a21 := Tryz.isAgg21
 z21 := Tryz.sizeOf21
 v21 := Tryz.zeroValue21
 t37 := Tryz.underlying80
 a37 := Tryz.isAgg80
 z37 := Tryz.sizeOf80
 v37 := Tryz.zeroValue80
 t46 := Tryz.underlying136
 a46 := Tryz.isAgg136
 z46 := Tryz.sizeOf136
 v46 := Tryz.zeroValue136
 t51 := Tryz.underlying25
 a51 := Tryz.isAgg25
 z51 := Tryz.sizeOf25
 v51 := Tryz.zeroValue25
 t70 := Tryz.underlying126
 a70 := Tryz.isAgg126
 z70 := Tryz.sizeOf126
 v70 := Tryz.zeroValue126
 t72 := Tryz.underlying128
 a72 := Tryz.isAgg128
 z72 := Tryz.sizeOf128
 v72 := Tryz.zeroValue128
 t75 := Tryz.underlying42
 a75 := Tryz.isAgg42
 z75 := Tryz.sizeOf42
 v75 := Tryz.zeroValue42
 t76 := Tryz.underlying130
 a76 := Tryz.isAgg130
 z76 := Tryz.sizeOf130
 v76 := Tryz.zeroValue130
 t105 := Tryz.underlying229
 a105 := Tryz.isAgg229
 z105 := Tryz.sizeOf229
 v105 := Tryz.zeroValue229
 t119 := Tryz.underlying295
 a119 := Tryz.isAgg295
 z119 := Tryz.sizeOf295
 t127 := Tryz.underlying191
 a127 := Tryz.isAgg191
 z127 := Tryz.sizeOf191
 v127 := Tryz.zeroValue191
 t138 := Tryz.underlying297
 a138 := Tryz.isAgg297
 z138 := Tryz.sizeOf297
 v138 := Tryz.zeroValue297
 t139 := Tryz.underlying298
 a139 := Tryz.isAgg298
 z139 := Tryz.sizeOf298
 v139 := Tryz.zeroValue298
 t146 := Tryz.underlying318
 a146 := Tryz.isAgg318
 z146 := Tryz.sizeOf318
 v146 := Tryz.zeroValue318
 t164 := Tryz.underlying104
 a164 := Tryz.isAgg104
 z164 := Tryz.sizeOf104
 v164 := Tryz.zeroValue104
 g1 := by kernel_rfl
 g3 := by kernel_rfl
 g4 := by kernel_rfl }
theorem Tryz.Builder_Extra_155 : Builder.Extra Tryz.prog Tryz.lays155_ren := {
 sizeBuilder := by kernel_rfl
 liesBuilder := by kernel_rfl
 t5 := Tryz.underlying5
 a5 := Tryz.isAgg5
 z5 := Tryz.sizeOf5
 v5 := Tryz.zeroValue5
 infoByte := by kernel_rfl
 cellsByte := by kernel_rfl
 sizeByte := by kernel_rfl
 neB5 := by decide }
open Go.RowKit Go.Lib in
/-- strings.ReplaceAll: "ReplaceAll returns a copy of the string s with all non-overlapping instances of old replaced by new.": AT AN old THAT IS NOT EMPTY: 'Lib.replaceAll s old new'. (LAID: no walk: one application.) -/
theorem Tryz.strings_ReplaceAll (s old new : ByteArray) (m : Int) (w : World) (hs : s.size < 4294967281) (hm : w.cell? ⟨2, 0, none⟩ = some (.int .i64 m)) (h1 : 1 ≤ old.size) (hlen : s.size + Lib.countB s old * new.size ≤ 140737488355328) :
 Calls Tryz.prog 82 #[.string s, .string old, .string new] w fun e w' =>
  e = .returned (.string ⟨(Lib.replaceAll s.data.toList old.data.toList new.data.toList).toArray⟩) ∧ Below w.heap.size w w' := Any.strings_ReplaceAll Tryz.lays155 Tryz.Builder_Extra_155 s old new m w hs hm h1 hlen
end Go.Proofs
end
namespace Go.Proofs.YtbiplmbcdhjiaaaGreatDoor
open Go.Lib (hid)
end Go.Proofs.YtbiplmbcdhjiaaaGreatDoor
