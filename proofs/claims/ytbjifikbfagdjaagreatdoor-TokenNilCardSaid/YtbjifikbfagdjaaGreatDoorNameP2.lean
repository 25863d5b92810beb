/-
  Package name's calls over two names, squashes, reserved names, holders' names: one contract a function.
-/
import Derived.Test.YtbjifikbfagdjaaGreatDoorNameP
namespace Go.Proofs.YtbjifikbfagdjaaGreatDoor
open Go.RowKit
namespace NameC
open NameM StrC
set_option linter.unusedSimpArgs false

/-- what strings.ReplaceAll reads of memory: some number in package bytealg's MaxLen -/
def Mx (w : World) : Prop := ∃ m, w.cell? ⟨2, 0, none⟩ = some (.int .i64 m)
theorem block_lt {w : World} {b o : Nat} {v : Value} (h : w.cell? ⟨b, o, none⟩ = some v) : b < w.heap.size := by
  apply Classical.byContradiction
  intro hn
  have : w.heap[b]? = none := by simp; omega
  simp [World.cell?, this] at h
theorem Mx.below {w w' : World} (h : Mx w) (hb : Below w.heap.size w w') : Mx w' := by
  obtain ⟨m, hm⟩ := h
  exact ⟨m, by rw [hb.cell (block_lt hm)]; exact hm⟩
theorem Mx.under {w w' : World} {B : Nat} (h : Mx w) (hb : Below B w w') (hB : 2 < B) : Mx w' := by
  obtain ⟨m, hm⟩ := h
  exact ⟨m, by rw [hb.cell (by exact hB)]; exact hm⟩
/-- a form without its signs -/
def sq (l : List UInt8) : List UInt8 := l.filter (· != 45)
theorem sq_norm (l : List UInt8) : sq (norm l) = squash l := by
  unfold sq norm squash
  split
  · exact formD_filter l
  · rfl
theorem squashed_any (l : List UInt8) (w : World) (hm : Mx w) (hl : l.length ≤ 64) :
    Calls Tryz.prog 162 #[.string (str l)] w fun e w' => e = .returned (.string (str (sq l))) ∧ Below w.heap.size w w' := by
  obtain ⟨m, hm⟩ := hm
  have HR := Lib.hid (Tryz.strings_ReplaceAll (str l) (str [45]) (str []) m w (by rw [str_size]; omega) hm (by rw [str_size]; decide) (by rw [str_size, str_size]; simp; omega))
  go_enter Tryz.func162, Tryz.ntmps162
  go_wp2_with (go_at_call 189; refine HR.out.mono ?_; rintro e w' ⟨rfl, hb⟩)
  go_ret
  refine ⟨?_, hb⟩
  rw [str_list, str_list, str_list, replace_filter]
  rfl
theorem both_any (a b : List UInt8) (w : World) (ha : a.length ≤ 9223372036854775807) (hb : b.length ≤ 9223372036854775807) :
    Calls Tryz.prog 163 #[.string (str a), .string (str b)] w fun e w' => e = .returned (.tuple #[.string (str (norm a)), .string (str (norm b)), .bool (may a && may b)]) ∧ Below w.heap.size w w' := by
  have HA := Lib.hid (fun w => norm_any a w ha)
  have HB := Lib.hid (fun w => norm_any b w hb)
  have TK := Lib.hid ha
  have hca : code a = if may a then 0 else 60 := rfl
  have hcb : code b = if may b then 0 else 60 := rfl
  rcases Bool.eq_false_or_eq_true (may a) with hma | hma <;> rcases Bool.eq_false_or_eq_true (may b) with hmb | hmb <;> simp only [hma, hmb, if_true, if_false, Bool.false_eq_true] at hca hcb <;> rw [hca] at HA <;> rw [hcb] at HB <;> rw [hma, hmb] <;> clear hca hcb
  all_goals (go_enter Tryz.func163, Tryz.ntmps163)
  all_goals (go_wp2_with (first
    | (go_at_call 159; clear TK; refine (HA.out _).mono ?_; rintro e w1 ⟨rfl, hb1⟩)
    | (go_at_call 159; refine (HB.out _).mono ?_; rintro e w2 ⟨rfl, hb2⟩)))
  all_goals go_ret3
  all_goals exact ⟨rfl, chain (Nat.le_refl _) hb1 hb2⟩
set_option maxHeartbeats 1000000 in
theorem is_any (l : List UInt8) (w : World) (hl : l.length ≤ 9223372036854775807) :
    Calls Tryz.prog 134 #[.string (str l)] w fun e w' => e = .returned (.bool (isN l)) ∧ Below w.heap.size w w' := by
  have HN := Lib.hid (norm_any l w hl)
  rcases Bool.eq_false_or_eq_true (may l) with hm | hm
  · have hc : code l = 0 := by unfold code; rw [if_pos hm]
    have H1 := Lib.hid (show isN l = decide (norm l = l) by unfold isN norm; rw [if_pos hm, hm, Bool.true_and])
    rw [hc] at HN
    clear hc
    generalize norm l = n at *
    go_enter Tryz.func134, Tryz.ntmps134
    go_wp2_with (go_at_call 159; refine HN.out.mono ?_; rintro e w' ⟨rfl, hb⟩)
    go_ret
    exact ⟨retB (by rw [str_beq, H1.out]), hb⟩
  · have hc : code l = 60 := by unfold code; rw [if_neg (by rw [hm]; decide)]
    have H1 := Lib.hid (show isN l = false by unfold isN; rw [hm]; rfl)
    rw [hc] at HN
    clear hc
    go_enter Tryz.func134, Tryz.ntmps134
    go_wp2_with (go_at_call 159; refine HN.out.mono ?_; rintro e w' ⟨rfl, hb⟩)
    all_goals go_ret
    all_goals exact ⟨retB H1.out.symm, hb⟩
theorem same_eq {a b : List UInt8} (h : (may a && may b) = true) : same a b = decide (norm a = norm b) ∧ like a b = (decide (norm a ≠ norm b) && decide (sq (norm a) = sq (norm b))) := by
  have h' := h
  rw [Bool.and_eq_true] at h'
  rw [sq_norm, sq_norm]
  unfold same like norm squash
  rw [h'.1, h'.2]
  exact ⟨rfl, rfl⟩
theorem same_no {a b : List UInt8} (h : (may a && may b) = false) : same a b = false ∧ like a b = false := by
  unfold same like
  rw [h]
  exact ⟨rfl, rfl⟩
set_option maxHeartbeats 1000000 in
theorem like_any (a b : List UInt8) (w : World) (hM : Mx w) (ha : a.length ≤ 9223372036854775807) (hb : b.length ≤ 9223372036854775807) :
    Calls Tryz.prog 138 #[.string (str a), .string (str b)] w fun e w' => e = .returned (.bool (like a b)) ∧ Below w.heap.size w w' := by
  have HB := Lib.hid (both_any a b w ha hb)
  have HM := Lib.hid hM
  clear hM
  rcases Bool.eq_false_or_eq_true (may a && may b) with hm | hm
  · have H1 := Lib.hid (same_eq hm).2
    have HLA := Lib.hid (norm_len a)
    have HLB := Lib.hid (norm_len b)
    rw [hm] at HB
    generalize norm a = na at *
    generalize norm b = nb at *
    have TK := Lib.hid HLA
    go_enter Tryz.func138, Tryz.ntmps138
    go_wp2_with (first
      | (go_at_call 163; refine HB.out.mono ?_; rintro e w1 ⟨rfl, hb1⟩)
      | (go_at_call 162; clear TK; refine (squashed_any na _ (HM.out.below hb1) HLA.out).mono ?_; rintro e w2 ⟨rfl, hb2⟩)
      | (go_at_call 162; refine (squashed_any nb _ ((HM.out.below hb1).below hb2) HLB.out).mono ?_; rintro e w3 ⟨rfl, hb3⟩))
    all_goals go_ret
    all_goals refine ⟨retB ?_, by first | exact chain (Nat.le_refl _) (chain (Nat.le_refl _) hb1 hb2) hb3 | exact hb1⟩
    all_goals (rw [H1.out]; clear H1; (try simp only [str_beq, str_bne, ByteArray.toList_eq, str_list] at *); rw [Bool.eq_iff_iff]; simp_all)
  · have H1 := Lib.hid (same_no hm).2
    rw [hm] at HB
    go_enter Tryz.func138, Tryz.ntmps138
    go_wp2_with (go_at_call 163; refine HB.out.mono ?_; rintro e w' ⟨rfl, hb1⟩)
    all_goals go_ret
    all_goals exact ⟨retB H1.out.symm, hb1⟩
theorem squash_any (l : List UInt8) (w : World) (hM : Mx w) (hl : l.length ≤ 9223372036854775807) :
    Calls Tryz.prog 137 #[.string (str l)] w fun e w' => e = .returned (.tuple #[.string (str (squash l)), .int .i64 (code l)]) ∧ Below w.heap.size w w' := by
  have HN := Lib.hid (norm_any l w hl)
  have HM := Lib.hid hM
  have HL := Lib.hid (norm_len l)
  clear hM
  have e := sq_norm l
  rw [← e]
  clear e
  generalize norm l = n at *
  generalize code l = cd at *
  go_enter Tryz.func137, Tryz.ntmps137
  go_wp2_with (first
    | (go_at_call 159; refine HN.out.mono ?_; rintro e w1 ⟨rfl, hb1⟩)
    | (go_at_call 162; refine (squashed_any n _ (HM.out.below hb1) HL.out).mono ?_; rintro e w2 ⟨rfl, hb2⟩))
  go_ret2
  exact ⟨rfl, chain (Nat.le_refl _) hb1 hb2⟩
theorem reserved_eq (l : List UInt8) : reserved l = decide (squash l ∈ words) := by
  unfold reserved squash
  rcases Bool.eq_false_or_eq_true (may l) with hm | hm
  · rw [hm]; rfl
  · rw [hm]; rfl
/-- the number that Holder answers -/
def holdCode (l : List UInt8) : Int := if holder l then 0 else 61
theorem hold_no {l : List UInt8} (h : holder l = false) : holdCode l = 61 := by unfold holdCode; rw [h]; rfl
theorem hold_mid {l : List UInt8} {k : Nat} (hk : k < l.length) (h : holdB (l.getD k 0) = false) : holder l = false := by
  have : l.all holdB = false := by
    refine all_not holdB l (k + 1) ?_
    rw [all_succ holdB l k hk, h, Bool.and_false]
  unfold holder; rw [this]; simp
theorem hold_first {l : List UInt8} (h : ¬ (97 ≤ (l.getD 0 0).toNat ∧ (l.getD 0 0).toNat ≤ 122)) : holder l = false := by
  have : (decide (97 ≤ (l.getD 0 0).toNat) && decide ((l.getD 0 0).toNat ≤ 122)) = false := by
    rw [Bool.and_eq_false_iff, decide_eq_false_iff_not, decide_eq_false_iff_not]; omega
  unfold holder; rw [this]; simp

theorem hold_all {l : List UInt8} (h1 : 1 ≤ l.length) (h2 : l.length ≤ 64) (h3 : 97 ≤ (l.getD 0 0).toNat ∧ (l.getD 0 0).toNat ≤ 122) (h4 : l.all holdB = true) : holdCode l = 0 := by
  unfold holdCode holder
  rw [decide_eq_true h1, decide_eq_true h2, decide_eq_true h3.1, decide_eq_true h3.2, h4]; rfl
theorem kind_hold {c : UInt8} (h : holdB c = true) : (kindN c.toNat = 4 ∧ (97 ≤ c.toNat ∧ c.toNat ≤ 122) ∨ kindN c.toNat = 2 ∧ ¬ (97 ≤ c.toNat ∧ c.toNat ≤ 122)) ∧ c.toNat < 128 := by
  simp only [holdB, Bool.or_eq_true, Bool.and_eq_true, decide_eq_true_eq] at h
  unfold kindN
  refine ⟨?_, by omega⟩
  repeat' split
  all_goals omega
theorem kind_nohold {c : UInt8} (h : holdB c = false) : kindN c.toNat ≠ 4 ∧ kindN c.toNat ≠ 2 := by
  simp only [holdB, Bool.or_eq_false_iff, Bool.and_eq_false_iff, decide_eq_false_iff_not] at h
  unfold kindN
  repeat' split
  all_goals omega
/-- what a round of Holder finds and leaves -/
structure HoldI (l : List UInt8) (B : Nat) (w wr : World) (k : Nat) : Prop where
  le : k ≤ l.length
  it : wr.heap[B]? = some (.stringIter (str l) k)
  below : Below B w wr
  ok : (l.take k).all holdB = true
  first : 0 < k → (97 ≤ (l.getD 0 0).toNat ∧ (l.getD 0 0).toNat ≤ 122)
set_option maxHeartbeats 2000000 in
set_option maxRecDepth 100000 in
theorem holder_any (l : List UInt8) (w : World) (hl : l.length ≤ 9223372036854775807) :
    Calls Tryz.prog 133 #[.string (str l)] w fun e w' => e = .returned (.int .i64 (holdCode l)) ∧ Below w.heap.size w w' := by
  by_cases hb : 1 ≤ l.length ∧ l.length ≤ 64
  rotate_left
  · have hf : (decide (1 ≤ l.length) && decide (l.length ≤ 64)) = false := by
      rw [Bool.and_eq_false_iff, decide_eq_false_iff_not, decide_eq_false_iff_not]; omega
    have HC := Lib.hid (hold_no (l := l) (by unfold holder; rw [hf]; rfl))
    have HFC := Lib.hid (fits_any l w hl)
    rw [hf] at HFC
    clear hf hb
    go_enter Tryz.func133, Tryz.ntmps133
    go_wp2_with (go_at_call 157; refine HFC.out.mono ?_; rintro e w' ⟨rfl, rfl⟩)
    go_ret
    exact ⟨retI HC.out.symm, Below.refl _ _⟩
  obtain ⟨h1, h2⟩ := hb
  have hs := str_size l
  have hf : (decide (1 ≤ l.length) && decide (l.length ≤ 64)) = true := by rw [decide_eq_true h1, decide_eq_true h2]; rfl
  have HFC := Lib.hid (fits_any l w hl)
  rw [hf] at HFC
  clear hf
  go_enter Tryz.func133, Tryz.ntmps133
  go_wp2_with (go_at_call 157; refine HFC.out.mono ?_; rintro e w' ⟨rfl, rfl⟩)
  go_loopw [3, 4, 5] (fun _ _ _ wr => ∃ k : Nat, HoldI l w.heap.size w wr k) (fun _ _ _ wr => l.length - wr.iterPos w.heap.size)
  case atStart => exact ⟨0, Nat.zero_le _, World.iter_heap _ _ _, (Below.refl _ _).alloc (Nat.le_refl _) _, rfl, fun h => absurd h (by decide)⟩
  case round =>
    obtain ⟨k, HI⟩ := hrel
    rename World => wr
    have hit := HI.it
    by_cases hlt : k < l.length
    · rcases Nat.lt_or_ge (l.getD k 0).toNat 128 with hasc | hasc
      · have hnx := next_ascii wr w.heap.size l k hit hlt hasc
        have hit2 := Lib.iterAt_heap wr w.heap.size (str l) k (k + 1) hit
        have hbw := Lib.below_iterAt HI.below (Nat.le_refl _) (str l) (k + 1)
        have HBW := Lib.hid hbw
        have HK := Lib.hid (fun w => kind_any (l.getD k 0).toNat w (by omega))
        rcases Bool.eq_false_or_eq_true (holdB (l.getD k 0)) with hh | hh
        · have HST := Lib.hid (show (97 ≤ (l.getD k 0).toNat ∧ (l.getD k 0).toNat ≤ 122 ∨ 0 < k) → HoldI l w.heap.size w (wr.iterAt w.heap.size (str l) (k + 1)) (k + 1) from fun hx => ⟨hlt, hit2, hbw, by rw [all_succ holdB l k hlt, HI.ok, hh]; rfl, fun _ => by
            rcases Nat.eq_zero_or_pos k with e0 | e0
            · subst e0; rcases hx with hx | hx; exact hx; omega
            · exact HI.first e0⟩)
          rcases (kind_hold hh).1 with ⟨hkd, hsm⟩ | ⟨hkd, hsm⟩
          · rw [hkd] at HK
            clear HI hbw hh
            generalize l.getD k 0 = c at *
            generalize wr.iterAt w.heap.size (str l) (k + 1) = wd at *
            go_wp2_with (go_at_call 158; refine (HK.out _).mono ?_; rintro e w' ⟨rfl, rfl⟩)
            go_roundw
            case rel => exact ⟨k + 1, HST.out (Or.inl hsm)⟩
            case measure => rw [iterPos_of hit, iterPos_of hit2]; omega
          · rw [hkd] at HK
            by_cases hk0 : k = 0
            · have HC := Lib.hid (hold_no (l := l) (hold_first (by rw [hk0] at hsm; exact hsm)))
              clear HI hbw hh HST hsm
              generalize l.getD k 0 = c at *
              subst hk0
              generalize wr.iterAt w.heap.size (str l) (0 + 1) = wd at *
              go_wp2_with (go_at_call 158; refine (HK.out _).mono ?_; rintro e w' ⟨rfl, rfl⟩)
              go_ret
              exact ⟨retI HC.out.symm, HBW.out⟩
            · have hd0 : ((k : Int) == 0) = false := by rw [beq_eq_false_iff_ne]; omega
              clear HI hbw hh hsm
              generalize l.getD k 0 = c at *
              generalize wr.iterAt w.heap.size (str l) (k + 1) = wd at *
              go_wp2_with (go_at_call 158; refine (HK.out _).mono ?_; rintro e w' ⟨rfl, rfl⟩)
              go_roundw
              case rel => exact ⟨k + 1, HST.out (Or.inr (by omega))⟩
              case measure => rw [iterPos_of hit, iterPos_of hit2]; omega
        · have HC := Lib.hid (hold_no (hold_mid hlt hh))
          obtain ⟨hn4, hn2⟩ := kind_nohold hh
          have hb4 : (kindN (l.getD k 0).toNat != 4) = true := by rw [bne_iff_ne]; exact hn4
          have hb2 : (kindN (l.getD k 0).toNat != 2) = true := by rw [bne_iff_ne]; exact hn2
          clear HI hbw hh
          generalize kindN (l.getD k 0).toNat = K at *
          generalize l.getD k 0 = c at *
          generalize wr.iterAt w.heap.size (str l) (k + 1) = wd at *
          go_wp2_with (go_at_call 158; refine (HK.out _).mono ?_; rintro e w' ⟨rfl, rfl⟩)
          all_goals go_ret
          all_goals exact ⟨retI HC.out.symm, HBW.out⟩
      · obtain ⟨n, k', hn1, hn2, hnx⟩ := next_high wr w.heap.size l k hit hlt hasc
        have HBW := Lib.hid (Lib.below_iterAt HI.below (Nat.le_refl _) (str l) k')
        have HC := Lib.hid (hold_no (hold_mid hlt (by simp only [holdB, Bool.or_eq_false_iff, Bool.and_eq_false_iff, decide_eq_false_iff_not]; omega)))
        have HK := Lib.hid (fun w => kind_any n w hn2)
        rw [kind_high hn1] at HK
        clear HI
        generalize wr.iterAt w.heap.size (str l) k' = wd at *
        go_wp2_with (go_at_call 158; refine (HK.out _).mono ?_; rintro e w' ⟨rfl, rfl⟩)
        all_goals go_ret
        all_goals exact ⟨retI HC.out.symm, HBW.out⟩
    · have hke : k = l.length := by have := HI.le; omega
      subst hke
      have hnx := next_end wr w.heap.size l l.length hit hlt
      have HC := Lib.hid (hold_all h1 h2 (HI.first (by omega)) (by have := HI.ok; rwa [List.take_length] at this))
      have HBW := Lib.hid HI.below
      clear HI
      go_wp2
      go_ret
      exact ⟨retI HC.out.symm, HBW.out⟩
end NameC
end Go.Proofs.YtbjifikbfagdjaaGreatDoor
