/-
  The statement of records put together and cut off anywhere, walked.
-/
import Derived.Test.YtpmbokklpidohaaDoorFrameAlive
import Derived.Test.YtpmbokklpidohaaDoorFrameTornM
namespace Go.Proofs.YtpmbokklpidohaaDoor
open Go.RowKit
namespace FrameC
open FrameM TextR ErrC
open SumM (and_low24)

theorem info_int : (Tryd.prog.info? 3).map (fun i => (i.zero, i.size, i.bytes)) = some (some (.int .i64 0), 1, 8) := by kernel_rfl
/-- a row of integers of a call's own -/
def intsV (L : List Nat) : List Value := L.map fun k : Nat => Value.int .i64 (k : Int)
def OwnI (w : World) (B : Nat) (v : Value) (L : List Nat) : Prop := w.ownsRow B 3 1 v L.length (intsV L)
theorem OwnI.nil (w : World) (B : Nat) : OwnI w B (.slice none 0 0) [] := World.ownsRow_nil _ _ _ _
theorem OwnI.below {w w' : World} {B : Nat} {v : Value} {L : List Nat} (h : OwnI w B v L) (hb : Below w.heap.size w w') : OwnI w' B v L :=
  World.ownsRow.kept h (row := none) ⟨hb.os, hb.tape, hb.output, hb.size, fun k hk _ => hb.block k hk⟩ (by cases v.ownBlock <;> simp)
theorem OwnI.lt {w : World} {B : Nat} {v : Value} {L : List Nat} (h : OwnI w B v L) : ∀ k, v.ownBlock = some k → B ≤ k := fun k hk => (World.ownsRow.lt h k hk).1
theorem OwnI.snoc {w : World} {B n : Nat} {v : Value} {L : List Nat} {x : Nat} (h : w.ownsRow B 3 1 v (n + 1) (intsV L ++ [Value.int .i64 (x : Int)])) (hn : n = L.length) : OwnI w B v (L ++ [x]) := by
  unfold OwnI
  rw [List.length_append, List.length_singleton, ← hn]
  simpa [intsV] using h
theorem OwnI.open_ {w : World} {B : Nat} {v : Value} {L : List Nat} (h : OwnI w B v L) : ∃ a cp, v = .slice a L.length cp ∧ (0 < L.length → ∃ g, a = some ⟨g, 0, none⟩ ∧ g < w.heap.size ∧ ∀ (i x : Nat), L[i]? = some x → w.cell? ⟨g, i, none⟩ = some (.int .i64 (x : Int))) := by
  have h' : w.ownsRow B 3 1 v L.length (intsV L) := h
  have hcs : ∀ g, v.ownBlock = some g → _ := fun g hg => h'.cells hg
  have hlt := h'.lt
  obtain ⟨_, ⟨rfl, h0⟩ | ⟨g, cp, cur, rfl, hg0, hblk, hle, hcm, hsz, htk⟩⟩ := h'
  · exact ⟨none, 0, by rw [h0], fun h => by omega⟩
  · refine ⟨_, cp, rfl, fun _ => ⟨g, rfl, (hlt g rfl).2, fun i x hx => ?_⟩⟩
    have := hcs g rfl i (.int .i64 (x : Int)) (by simp [intsV, hx])
    rw [Go.WideShapes.add_plain, Nat.zero_add] at this
    exact this
theorem one_int (n : Int) : ∀ u ∈ [Value.int .i64 n], u.oneCell' = true := by
  intro u hu
  rw [List.mem_singleton] at hu
  subst hu
  rfl

set_option maxHeartbeats 16000000 in
set_option maxRecDepth 100000 in
theorem torn_some (ps : List (List UInt8)) (b o cap : Nat) (cut : Int) (w : World) (hm : ps.length ≤ 9223372036854775807) (hb : b < w.heap.size)
    (hc : ∀ i (h : i < ps.length), w.cell? ⟨b, o + i, none⟩ = some (.string (str ps[i]))) (hs : ∀ p ∈ ps, p.length ≤ 9223372036854775807) (hv : Vars w) :
    Calls Tryd.prog 6 #[.slice (some ⟨b, o, none⟩) ps.length cap, .int .i64 cut] w fun e w' => e = .returned (.bool true) ∧ Below w.heap.size w w' := by
  have HV := Lib.hid hv; clear hv
  have HC := Lib.hid hc; clear hc
  have HS := Lib.hid hs; clear hs
  obtain ⟨i0, hi0, hz0, hz1, hz2⟩ := info_parts info_int
  obtain ⟨q, hq⟩ : ∃ q : Nat, cut % 16777216 = (q : Int) ∧ q < 16777216 := ⟨(cut % 16777216).toNat, by omega, by omega⟩
  have hq2 : bits .and .i64 cut 16777215 = (q : Int) := by rw [and_low24]; exact hq.1
  have hq3 := hq.2
  clear hq
  go_enter Tryd.func6, Tryd.ntmps6
  go_wp2_with fail
  go_loopw [5, 6, 7] (fun vs ve vi wr => ∃ i : Nat, i ≤ ps.length ∧ i ≤ 40 ∧ vi = .int .i64 i ∧ vs = .string (str (recsB (ps.take i))) ∧ Hid (∀ p ∈ ps.take i, p.length ≤ 131072) ∧ (recsB (ps.take i)).length ≤ 151100 ∧ Hid (OwnI wr w.heap.size ve (endsB ps i)) ∧ Hid (Below w.heap.size w wr)) (fun _ _ vi _ => ps.length - (intOf vi).toNat)
  case atStart => exact ⟨0, Nat.zero_le _, Nat.zero_le _, rfl, rfl, Lib.hid (by simp), by simp [recsB], Lib.hid (OwnI.nil _ _), Lib.hid (Below.refl _ _)⟩
  case round =>
    obtain ⟨i, hi, hi40, rfl, rfl, HP, hS, HO, HB⟩ := hrel
    rename World => wr
    have hsz := str_size (recsB (ps.take i))
    by_cases hg : i < ps.length ∧ i < 40 ∧ (recsB (ps.take i)).length < 20000
    · obtain ⟨g1, g2, g3⟩ := hg
      have hdec1 : decide (i < ps.length) = true := by simpa using g1
      have hdec2 : decide ((i : Int) < 40) = true := by simp; omega
      have hdec3 : decide (((recsB (ps.take i)).length : Int) < 20000) = true := by simp; omega
      have hcell : wr.cell? ⟨b, o + i, none⟩ = some (.string (str ps[i])) := by rw [HB.out.cell hb]; exact HC.out i g1
      have hpz := str_size ps[i]
      have hple := HS.out ps[i] (List.getElem_mem g1)
      by_cases hlong : 131072 < ps[i].length
      · have h1 := Lib.hid (fun w => of_long ps[i] w hlong hple)
        have hdec4 : decide (131072 < (ps[i].length : Int)) = true := by simp; omega
        have hbw := Lib.hid (World.block_lt_of_cell? _ _ hcell)
        generalize ps[i] = p at *
        go_wp2_with fail
        refine (h1.out _).mono ?_
        rintro e w1 ⟨f, rfl, hb1⟩
        have hcell1 : w1.cell? ⟨b, o + i, none⟩ = some (.string (str p)) := by rw [hb1.cell hbw.out]; exact hcell
        have HB1 := Lib.hid (HB.out.trans (hb1.mono HB.out.size)); clear hb1 hcell
        go_wp2_with fail
        refine (alive_any _ (HV.out.below HB1.out)).mono ?_
        rintro e w2 ⟨rfl, hb2⟩
        have HB2 := Lib.hid (HB1.out.trans (hb2.mono HB1.out.size)); clear hb2
        go_wp2_with fail
        go_ret
        exact ⟨rfl, HB2.out⟩
      · have h1 := Lib.hid (fun w => of_ok ps[i] w (by omega))
        have hst := recs_step ps i g1
        have HSL := Lib.hid (recs_len_step ps i g1)
        have hadd : ∀ w, (Op.stringOp .add (str (recsB (ps.take i))) (str (recB ps[i]))).run Tryd.prog w = .ok (.string (str (recsB (ps.take (i + 1))))) w := fun w => by
          rw [hst]; exact add_any _ _ w (by rw [recB_length]; omega)
        have hsz2 := str_size (recsB (ps.take (i + 1)))
        have HEN := Lib.hid (ends_snoc ps i)
        have HP2 : Hid (∀ p ∈ ps.take (i + 1), p.length ≤ 131072) := Lib.hid (fun p hp => by
          rw [List.take_succ_eq_append_getElem g1, List.mem_append, List.mem_singleton] at hp
          rcases hp with hp | rfl
          · exact HP.out p hp
          · omega)
        have hel := ends_length ps i
        clear hst
        generalize hEE : endsB ps i = E at *
        clear hEE
        generalize ps[i] = p at *
        generalize hS2 : recsB (ps.take (i + 1)) = S2 at *
        have HS2 := Lib.hid hS2; clear hS2
        generalize recsB (ps.take i) = S at *
        go_wp2_with fail
        refine (h1.out _).mono ?_
        rintro e w1 ⟨rfl, hb1⟩
        have HB1 := Lib.hid (HB.out.trans (hb1.mono HB.out.size))
        have HO1 := Lib.hid (HO.out.below hb1)
        clear hb1 HO HB hcell
        go_wp2_with (at_builtin; refine wpList_append_own _ rfl _ _ 43 rfl w.heap.size 3 i0 (.int .i64 0) 1 8 Tryd.underlying43 hi0 hz0 hz1 hz2 rfl (by decide) _ _ _ rfl (World.ownsRow.alloc HO1.out _) ⟨w1.heap.size, 0, none⟩ 1 1 [.int .i64 (S2.length : Int)] rfl rfl ?c1 ?c2 ?c3 ?c4 ?c5 ?_)
        case c1 => exact text_cell _ _ _
        case c2 => exact one_int _
        case c3 => unfold maxLen; omega
        case c4 => omega
        case c5 => have := HB1.out.size; simp; omega
        intro v' w2 hown' hgr _
        have HB2 : Hid (Below w.heap.size w w2) := Lib.hid ((HB1.out.alloc HB1.out.size _).grown hgr (by have := HB1.out.size; simp; omega) HO1.out.lt)
        have HO2 := Lib.hid (OwnI.snoc hown' hel.symm)
        rw [← HEN.out] at HO2
        clear hown' hgr HO1 HB1
        go_wp2_with fail
        go_roundw
        case rel => exact ⟨i + 1, by omega, by omega, by go_num, by rw [HS2.out], HP2, by rw [HS2.out]; have := HSL.out; omega, HO2, HB2⟩
        case measure => simp [intOf]; omega
    · have hel := ends_length ps i
      have HEG := Lib.hid (ends_get ps i)
      have HTT := Lib.hid (all_torn (ps := ps.take i))
      obtain ⟨a6, cp6, rfl, h6⟩ := HO.out.open_
      rw [hel] at h6 ⊢
      have H6 := Lib.hid h6; clear h6 HO
      obtain ⟨c, hcq⟩ : ∃ c, c = q % ((recsB (ps.take i)).length + 1) := ⟨_, rfl⟩
      have hmod : (q : Int) % (((recsB (ps.take i)).length : Int) + 1) = (c : Int) := by rw [hcq]; simp
      have hcl : c ≤ (recsB (ps.take i)).length := by have := Nat.mod_lt q (show 0 < (recsB (ps.take i)).length + 1 by omega); omega
      have hs1 := sl_to (recsB (ps.take i)) c c rfl hcl
      have htl : (ps.take i).length = i := by rw [List.length_take]; omega
      have HTK := Lib.hid (fun n (h : n ≤ i) => show (ps.take i).take n = ps.take n by rw [List.take_take, Nat.min_eq_left h])
      clear hcq
      generalize hSS : recsB (ps.take i) = S at *
      have h3 : (¬ i < ps.length) ∨ (i < ps.length ∧ ¬ i < 40) ∨ (i < ps.length ∧ i < 40 ∧ ¬ S.length < 20000) := by omega
      clear hg
      rcases h3 with g | ⟨g, g'⟩ | ⟨g, g', g''⟩
      · have hdec1 : decide (i < ps.length) = false := by simpa using g
        clear g
        go_wp2_with fail
        go_loop [10, 11] (fun vn ve => ∃ n : Nat, n ≤ i ∧ vn = .int .i64 n ∧ ve = .int .i64 ((recsB (ps.take n)).length : Nat) ∧ (recsB (ps.take n)).length ≤ c) (fun vn _ => i - (intOf vn).toNat)
        case atStart => exact ⟨0, Nat.zero_le _, rfl, rfl, Nat.zero_le _⟩
        case round =>
          obtain ⟨n, hn, rfl, rfl, hec⟩ := hrel
          by_cases hgo : n < i ∧ (recsB (ps.take (n + 1))).length ≤ c
          · obtain ⟨n1, n2⟩ := hgo
            obtain ⟨g6, rfl, -, hc6⟩ := H6.out (by omega)
            have hx := hc6 n _ (HEG.out n n1)
            generalize he2 : (recsB (ps.take (n + 1))).length = e2 at *
            have HE2 := Lib.hid he2; clear he2
            have ddec1 : decide (n < i) = true := by simpa using n1
            have ddec2 : decide ((e2 : Int) ≤ (c : Int)) = true := by simp; omega
            clear hc6
            go_wp2_with fail
            go_round
            case rel => exact ⟨n + 1, by omega, by go_num, by rw [HE2.out], by rw [HE2.out]; exact n2⟩
            case measure => simp [intOf]; omega
          · have hall := HTT.out n c HP.out (by omega) (by rw [HTK.out n hn]; exact hec) (fun h => by rw [HTK.out (n + 1) (by omega)]; have : ¬ (recsB (ps.take (n + 1))).length ≤ c := fun h' => hgo ⟨by omega, h'⟩; omega) hcl
            rw [HTK.out n hn] at hall
            have hnl : ((ps.take n).map str).length = n := by rw [List.length_map, List.length_take]; omega
            have hlc : (S.take c).length = c := by rw [List.length_take]; omega
            have h1 := Lib.hid (fun w => all_any (S.take c) w (by omega))
            unfold AllE at h1
            rw [hall] at h1
            have HLC : Hid (∀ (j : Nat) (h : j < ((ps.take n).map str).length), ∃ h' : j < ps.length, ((ps.take n).map str)[j] = str ps[j]) := Lib.hid (fun j h => ⟨by omega, by simp⟩)
            generalize (ps.take n).map str = L at *
            generalize he : (recsB (ps.take n)).length = e0 at *
            dsimp only at h1
            clear he hall hlc hSS HTT HTK HP hel htl
            rcases (by omega : ¬ n < i ∨ n < i) with k | k
            · have ddec1 : decide (n < i) = false := by simpa using k
              clear hgo H6
              by_cases hx : c = e0
              · subst hx
                rw [if_pos rfl] at h1
                go_wp2_with fail
                refine (h1.out _).mono ?_
                rintro e w4 ⟨v4, ev4, rfl, ho, hfe, hb4⟩
                obtain ⟨a4, cp4, rfl, h4c⟩ := ho.open_
                obtain rfl := hfe.nil
                have HB4 := Lib.hid (HB.out.trans (hb4.mono HB.out.size))
                have H4C := Lib.hid h4c
                clear h4c ho hfe hb4
                go_wp2_with fail
                go_loopw [15] (fun vi wx => ∃ j qq : Nat, j ≤ n ∧ vi = .int .i64 j ∧ wx = w4.drewN qq) (fun vi _ => n - (intOf vi).toNat)
                case atStart => exact ⟨0, 0, Nat.zero_le _, rfl, rfl⟩
                case round =>
                  obtain ⟨j, qq, hj, rfl, rfl⟩ := hrel
                  by_cases hjn : j < n
                  · have edec : decide (j < n) = true := by simpa using hjn
                    obtain ⟨g4, rfl, -, -, hc4⟩ := H4C.out (by omega)
                    obtain ⟨hjp, hjs⟩ := HLC.out j (by omega)
                    have k4 := hc4 j (by omega)
                    rw [hjs] at k4
                    have k5 : w4.cell? ⟨b, o + j, none⟩ = some (.string (str ps[j])) := by rw [HB4.out.cell hb]; exact HC.out j hjp
                    clear hc4 hjs
                    have hts := str_same ps[j]
                    generalize ps[j] = tt at *
                    go_wp2_with fail
                    go_quiet (fail)
                    go_wp2_with fail
                    go_roundw
                    case rel => exact ⟨j + 1, _, by omega, by go_num, rfl⟩
                    case measure => simp [intOf]; omega
                  · have edec : decide (j < n) = false := by simpa using hjn
                    have HBQ := Lib.hid (drewN_below HB4.out qq)
                    clear H4C
                    go_wp2_with fail
                    refine (alive_any _ (HV.out.below HBQ.out)).mono ?_
                    rintro e w7 ⟨rfl, hb7⟩
                    have HB7 := Lib.hid (HBQ.out.trans (hb7.mono HBQ.out.size)); clear hb7
                    go_wp2_with fail
                    go_ret
                    exact ⟨rfl, HB7.out⟩
              · have hbx : ((c : Int) == (e0 : Int)) = false := beq_eq_false_iff_ne.2 (by omega)
                rw [if_neg hx] at h1
                clear hx
                go_wp2_with fail
                refine (h1.out _).mono ?_
                rintro e w4 ⟨v4, ev4, rfl, ho, hfe, hb4⟩
                obtain ⟨a4, cp4, rfl, h4c⟩ := ho.open_
                have HE4 := Lib.hid hfe
                rcases hfe with ⟨h40, -⟩ | ⟨-, f4, rfl, -, -⟩
                · exact absurd h40 (by decide)
                have HB4 := Lib.hid (HB.out.trans (hb4.mono HB.out.size))
                have H4C := Lib.hid h4c
                clear h4c ho hb4
                go_wp2_with fail
                go_loopw [15] (fun vi wx => ∃ j qq : Nat, j ≤ n ∧ vi = .int .i64 j ∧ wx = w4.drewN qq) (fun vi _ => n - (intOf vi).toNat)
                case atStart => exact ⟨0, 0, Nat.zero_le _, rfl, rfl⟩
                case round =>
                  obtain ⟨j, qq, hj, rfl, rfl⟩ := hrel
                  by_cases hjn : j < n
                  · have edec : decide (j < n) = true := by simpa using hjn
                    obtain ⟨g4, rfl, -, -, hc4⟩ := H4C.out (by omega)
                    obtain ⟨hjp, hjs⟩ := HLC.out j (by omega)
                    have k4 := hc4 j (by omega)
                    rw [hjs] at k4
                    have k5 : w4.cell? ⟨b, o + j, none⟩ = some (.string (str ps[j])) := by rw [HB4.out.cell hb]; exact HC.out j hjp
                    clear hc4 hjs
                    have hts := str_same ps[j]
                    generalize ps[j] = tt at *
                    go_wp2_with fail
                    go_quiet (fail)
                    go_wp2_with fail
                    go_roundw
                    case rel => exact ⟨j + 1, _, by omega, by go_num, rfl⟩
                    case measure => simp [intOf]; omega
                  · have edec : decide (j < n) = false := by simpa using hjn
                    have HBQ := Lib.hid (drewN_below HB4.out qq)
                    clear H4C
                    go_wp2_with fail
                    refine (is_ferr ((HE4.out).below (drewN_below (Below.refl _ _) qq)) (by decide) (by omega) e0 (fun _ => rfl) (HV.out.below HBQ.out)).mono ?_
                    rintro e w6 ⟨rfl, hb6⟩
                    have HBQ2 := Lib.hid (HBQ.out.trans (hb6.mono HBQ.out.size)); clear hb6
                    go_wp2_with fail
                    refine (alive_any _ (HV.out.below HBQ2.out)).mono ?_
                    rintro e w7 ⟨rfl, hb7⟩
                    have HB7 := Lib.hid (HBQ2.out.trans (hb7.mono HBQ2.out.size)); clear hb7
                    go_wp2_with fail
                    go_ret
                    exact ⟨rfl, HB7.out⟩
            · obtain ⟨g6, rfl, -, hc6⟩ := H6.out (by omega)
              have hx6 := hc6 n _ (HEG.out n k)
              have hgt : ¬ (recsB (ps.take (n + 1))).length ≤ c := fun h => hgo ⟨k, h⟩
              generalize (recsB (ps.take (n + 1))).length = e2 at *
              have ddec1 : decide (n < i) = true := by simpa using k
              have ddec2 : decide ((e2 : Int) ≤ (c : Int)) = false := by simp; omega
              clear hc6 HEG
              clear hgo H6
              by_cases hx : c = e0
              · subst hx
                rw [if_pos rfl] at h1
                go_wp2_with fail
                refine (h1.out _).mono ?_
                rintro e w4 ⟨v4, ev4, rfl, ho, hfe, hb4⟩
                obtain ⟨a4, cp4, rfl, h4c⟩ := ho.open_
                obtain rfl := hfe.nil
                have HB4 := Lib.hid (HB.out.trans (hb4.mono HB.out.size))
                have H4C := Lib.hid h4c
                clear h4c ho hfe hb4
                go_wp2_with fail
                go_loopw [15] (fun vi wx => ∃ j qq : Nat, j ≤ n ∧ vi = .int .i64 j ∧ wx = w4.drewN qq) (fun vi _ => n - (intOf vi).toNat)
                case atStart => exact ⟨0, 0, Nat.zero_le _, rfl, rfl⟩
                case round =>
                  obtain ⟨j, qq, hj, rfl, rfl⟩ := hrel
                  by_cases hjn : j < n
                  · have edec : decide (j < n) = true := by simpa using hjn
                    obtain ⟨g4, rfl, -, -, hc4⟩ := H4C.out (by omega)
                    obtain ⟨hjp, hjs⟩ := HLC.out j (by omega)
                    have k4 := hc4 j (by omega)
                    rw [hjs] at k4
                    have k5 : w4.cell? ⟨b, o + j, none⟩ = some (.string (str ps[j])) := by rw [HB4.out.cell hb]; exact HC.out j hjp
                    clear hc4 hjs
                    have hts := str_same ps[j]
                    generalize ps[j] = tt at *
                    go_wp2_with fail
                    go_quiet (fail)
                    go_wp2_with fail
                    go_roundw
                    case rel => exact ⟨j + 1, _, by omega, by go_num, rfl⟩
                    case measure => simp [intOf]; omega
                  · have edec : decide (j < n) = false := by simpa using hjn
                    have HBQ := Lib.hid (drewN_below HB4.out qq)
                    clear H4C
                    go_wp2_with fail
                    refine (alive_any _ (HV.out.below HBQ.out)).mono ?_
                    rintro e w7 ⟨rfl, hb7⟩
                    have HB7 := Lib.hid (HBQ.out.trans (hb7.mono HBQ.out.size)); clear hb7
                    go_wp2_with fail
                    go_ret
                    exact ⟨rfl, HB7.out⟩
              · have hbx : ((c : Int) == (e0 : Int)) = false := beq_eq_false_iff_ne.2 (by omega)
                rw [if_neg hx] at h1
                clear hx
                go_wp2_with fail
                refine (h1.out _).mono ?_
                rintro e w4 ⟨v4, ev4, rfl, ho, hfe, hb4⟩
                obtain ⟨a4, cp4, rfl, h4c⟩ := ho.open_
                have HE4 := Lib.hid hfe
                rcases hfe with ⟨h40, -⟩ | ⟨-, f4, rfl, -, -⟩
                · exact absurd h40 (by decide)
                have HB4 := Lib.hid (HB.out.trans (hb4.mono HB.out.size))
                have H4C := Lib.hid h4c
                clear h4c ho hb4
                go_wp2_with fail
                go_loopw [15] (fun vi wx => ∃ j qq : Nat, j ≤ n ∧ vi = .int .i64 j ∧ wx = w4.drewN qq) (fun vi _ => n - (intOf vi).toNat)
                case atStart => exact ⟨0, 0, Nat.zero_le _, rfl, rfl⟩
                case round =>
                  obtain ⟨j, qq, hj, rfl, rfl⟩ := hrel
                  by_cases hjn : j < n
                  · have edec : decide (j < n) = true := by simpa using hjn
                    obtain ⟨g4, rfl, -, -, hc4⟩ := H4C.out (by omega)
                    obtain ⟨hjp, hjs⟩ := HLC.out j (by omega)
                    have k4 := hc4 j (by omega)
                    rw [hjs] at k4
                    have k5 : w4.cell? ⟨b, o + j, none⟩ = some (.string (str ps[j])) := by rw [HB4.out.cell hb]; exact HC.out j hjp
                    clear hc4 hjs
                    have hts := str_same ps[j]
                    generalize ps[j] = tt at *
                    go_wp2_with fail
                    go_quiet (fail)
                    go_wp2_with fail
                    go_roundw
                    case rel => exact ⟨j + 1, _, by omega, by go_num, rfl⟩
                    case measure => simp [intOf]; omega
                  · have edec : decide (j < n) = false := by simpa using hjn
                    have HBQ := Lib.hid (drewN_below HB4.out qq)
                    clear H4C
                    go_wp2_with fail
                    refine (is_ferr ((HE4.out).below (drewN_below (Below.refl _ _) qq)) (by decide) (by omega) e0 (fun _ => rfl) (HV.out.below HBQ.out)).mono ?_
                    rintro e w6 ⟨rfl, hb6⟩
                    have HBQ2 := Lib.hid (HBQ.out.trans (hb6.mono HBQ.out.size)); clear hb6
                    go_wp2_with fail
                    refine (alive_any _ (HV.out.below HBQ2.out)).mono ?_
                    rintro e w7 ⟨rfl, hb7⟩
                    have HB7 := Lib.hid (HBQ2.out.trans (hb7.mono HBQ2.out.size)); clear hb7
                    go_wp2_with fail
                    go_ret
                    exact ⟨rfl, HB7.out⟩
      · have hdec1 : decide (i < ps.length) = true := by simpa using g
        have hdec2 : decide ((i : Int) < 40) = false := by simp; omega
        clear g g'
        go_wp2_with fail
        go_loop [10, 11] (fun vn ve => ∃ n : Nat, n ≤ i ∧ vn = .int .i64 n ∧ ve = .int .i64 ((recsB (ps.take n)).length : Nat) ∧ (recsB (ps.take n)).length ≤ c) (fun vn _ => i - (intOf vn).toNat)
        case atStart => exact ⟨0, Nat.zero_le _, rfl, rfl, Nat.zero_le _⟩
        case round =>
          obtain ⟨n, hn, rfl, rfl, hec⟩ := hrel
          by_cases hgo : n < i ∧ (recsB (ps.take (n + 1))).length ≤ c
          · obtain ⟨n1, n2⟩ := hgo
            obtain ⟨g6, rfl, -, hc6⟩ := H6.out (by omega)
            have hx := hc6 n _ (HEG.out n n1)
            generalize he2 : (recsB (ps.take (n + 1))).length = e2 at *
            have HE2 := Lib.hid he2; clear he2
            have ddec1 : decide (n < i) = true := by simpa using n1
            have ddec2 : decide ((e2 : Int) ≤ (c : Int)) = true := by simp; omega
            clear hc6
            go_wp2_with fail
            go_round
            case rel => exact ⟨n + 1, by omega, by go_num, by rw [HE2.out], by rw [HE2.out]; exact n2⟩
            case measure => simp [intOf]; omega
          · have hall := HTT.out n c HP.out (by omega) (by rw [HTK.out n hn]; exact hec) (fun h => by rw [HTK.out (n + 1) (by omega)]; have : ¬ (recsB (ps.take (n + 1))).length ≤ c := fun h' => hgo ⟨by omega, h'⟩; omega) hcl
            rw [HTK.out n hn] at hall
            have hnl : ((ps.take n).map str).length = n := by rw [List.length_map, List.length_take]; omega
            have hlc : (S.take c).length = c := by rw [List.length_take]; omega
            have h1 := Lib.hid (fun w => all_any (S.take c) w (by omega))
            unfold AllE at h1
            rw [hall] at h1
            have HLC : Hid (∀ (j : Nat) (h : j < ((ps.take n).map str).length), ∃ h' : j < ps.length, ((ps.take n).map str)[j] = str ps[j]) := Lib.hid (fun j h => ⟨by omega, by simp⟩)
            generalize (ps.take n).map str = L at *
            generalize he : (recsB (ps.take n)).length = e0 at *
            dsimp only at h1
            clear he hall hlc hSS HTT HTK HP hel htl
            rcases (by omega : ¬ n < i ∨ n < i) with k | k
            · have ddec1 : decide (n < i) = false := by simpa using k
              clear hgo H6
              by_cases hx : c = e0
              · subst hx
                rw [if_pos rfl] at h1
                go_wp2_with fail
                refine (h1.out _).mono ?_
                rintro e w4 ⟨v4, ev4, rfl, ho, hfe, hb4⟩
                obtain ⟨a4, cp4, rfl, h4c⟩ := ho.open_
                obtain rfl := hfe.nil
                have HB4 := Lib.hid (HB.out.trans (hb4.mono HB.out.size))
                have H4C := Lib.hid h4c
                clear h4c ho hfe hb4
                go_wp2_with fail
                go_loopw [15] (fun vi wx => ∃ j qq : Nat, j ≤ n ∧ vi = .int .i64 j ∧ wx = w4.drewN qq) (fun vi _ => n - (intOf vi).toNat)
                case atStart => exact ⟨0, 0, Nat.zero_le _, rfl, rfl⟩
                case round =>
                  obtain ⟨j, qq, hj, rfl, rfl⟩ := hrel
                  by_cases hjn : j < n
                  · have edec : decide (j < n) = true := by simpa using hjn
                    obtain ⟨g4, rfl, -, -, hc4⟩ := H4C.out (by omega)
                    obtain ⟨hjp, hjs⟩ := HLC.out j (by omega)
                    have k4 := hc4 j (by omega)
                    rw [hjs] at k4
                    have k5 : w4.cell? ⟨b, o + j, none⟩ = some (.string (str ps[j])) := by rw [HB4.out.cell hb]; exact HC.out j hjp
                    clear hc4 hjs
                    have hts := str_same ps[j]
                    generalize ps[j] = tt at *
                    go_wp2_with fail
                    go_quiet (fail)
                    go_wp2_with fail
                    go_roundw
                    case rel => exact ⟨j + 1, _, by omega, by go_num, rfl⟩
                    case measure => simp [intOf]; omega
                  · have edec : decide (j < n) = false := by simpa using hjn
                    have HBQ := Lib.hid (drewN_below HB4.out qq)
                    clear H4C
                    go_wp2_with fail
                    refine (alive_any _ (HV.out.below HBQ.out)).mono ?_
                    rintro e w7 ⟨rfl, hb7⟩
                    have HB7 := Lib.hid (HBQ.out.trans (hb7.mono HBQ.out.size)); clear hb7
                    go_wp2_with fail
                    go_ret
                    exact ⟨rfl, HB7.out⟩
              · have hbx : ((c : Int) == (e0 : Int)) = false := beq_eq_false_iff_ne.2 (by omega)
                rw [if_neg hx] at h1
                clear hx
                go_wp2_with fail
                refine (h1.out _).mono ?_
                rintro e w4 ⟨v4, ev4, rfl, ho, hfe, hb4⟩
                obtain ⟨a4, cp4, rfl, h4c⟩ := ho.open_
                have HE4 := Lib.hid hfe
                rcases hfe with ⟨h40, -⟩ | ⟨-, f4, rfl, -, -⟩
                · exact absurd h40 (by decide)
                have HB4 := Lib.hid (HB.out.trans (hb4.mono HB.out.size))
                have H4C := Lib.hid h4c
                clear h4c ho hb4
                go_wp2_with fail
                go_loopw [15] (fun vi wx => ∃ j qq : Nat, j ≤ n ∧ vi = .int .i64 j ∧ wx = w4.drewN qq) (fun vi _ => n - (intOf vi).toNat)
                case atStart => exact ⟨0, 0, Nat.zero_le _, rfl, rfl⟩
                case round =>
                  obtain ⟨j, qq, hj, rfl, rfl⟩ := hrel
                  by_cases hjn : j < n
                  · have edec : decide (j < n) = true := by simpa using hjn
                    obtain ⟨g4, rfl, -, -, hc4⟩ := H4C.out (by omega)
                    obtain ⟨hjp, hjs⟩ := HLC.out j (by omega)
                    have k4 := hc4 j (by omega)
                    rw [hjs] at k4
                    have k5 : w4.cell? ⟨b, o + j, none⟩ = some (.string (str ps[j])) := by rw [HB4.out.cell hb]; exact HC.out j hjp
                    clear hc4 hjs
                    have hts := str_same ps[j]
                    generalize ps[j] = tt at *
                    go_wp2_with fail
                    go_quiet (fail)
                    go_wp2_with fail
                    go_roundw
                    case rel => exact ⟨j + 1, _, by omega, by go_num, rfl⟩
                    case measure => simp [intOf]; omega
                  · have edec : decide (j < n) = false := by simpa using hjn
                    have HBQ := Lib.hid (drewN_below HB4.out qq)
                    clear H4C
                    go_wp2_with fail
                    refine (is_ferr ((HE4.out).below (drewN_below (Below.refl _ _) qq)) (by decide) (by omega) e0 (fun _ => rfl) (HV.out.below HBQ.out)).mono ?_
                    rintro e w6 ⟨rfl, hb6⟩
                    have HBQ2 := Lib.hid (HBQ.out.trans (hb6.mono HBQ.out.size)); clear hb6
                    go_wp2_with fail
                    refine (alive_any _ (HV.out.below HBQ2.out)).mono ?_
                    rintro e w7 ⟨rfl, hb7⟩
                    have HB7 := Lib.hid (HBQ2.out.trans (hb7.mono HBQ2.out.size)); clear hb7
                    go_wp2_with fail
                    go_ret
                    exact ⟨rfl, HB7.out⟩
            · obtain ⟨g6, rfl, -, hc6⟩ := H6.out (by omega)
              have hx6 := hc6 n _ (HEG.out n k)
              have hgt : ¬ (recsB (ps.take (n + 1))).length ≤ c := fun h => hgo ⟨k, h⟩
              generalize (recsB (ps.take (n + 1))).length = e2 at *
              have ddec1 : decide (n < i) = true := by simpa using k
              have ddec2 : decide ((e2 : Int) ≤ (c : Int)) = false := by simp; omega
              clear hc6 HEG
              clear hgo H6
              by_cases hx : c = e0
              · subst hx
                rw [if_pos rfl] at h1
                go_wp2_with fail
                refine (h1.out _).mono ?_
                rintro e w4 ⟨v4, ev4, rfl, ho, hfe, hb4⟩
                obtain ⟨a4, cp4, rfl, h4c⟩ := ho.open_
                obtain rfl := hfe.nil
                have HB4 := Lib.hid (HB.out.trans (hb4.mono HB.out.size))
                have H4C := Lib.hid h4c
                clear h4c ho hfe hb4
                go_wp2_with fail
                go_loopw [15] (fun vi wx => ∃ j qq : Nat, j ≤ n ∧ vi = .int .i64 j ∧ wx = w4.drewN qq) (fun vi _ => n - (intOf vi).toNat)
                case atStart => exact ⟨0, 0, Nat.zero_le _, rfl, rfl⟩
                case round =>
                  obtain ⟨j, qq, hj, rfl, rfl⟩ := hrel
                  by_cases hjn : j < n
                  · have edec : decide (j < n) = true := by simpa using hjn
                    obtain ⟨g4, rfl, -, -, hc4⟩ := H4C.out (by omega)
                    obtain ⟨hjp, hjs⟩ := HLC.out j (by omega)
                    have k4 := hc4 j (by omega)
                    rw [hjs] at k4
                    have k5 : w4.cell? ⟨b, o + j, none⟩ = some (.string (str ps[j])) := by rw [HB4.out.cell hb]; exact HC.out j hjp
                    clear hc4 hjs
                    have hts := str_same ps[j]
                    generalize ps[j] = tt at *
                    go_wp2_with fail
                    go_quiet (fail)
                    go_wp2_with fail
                    go_roundw
                    case rel => exact ⟨j + 1, _, by omega, by go_num, rfl⟩
                    case measure => simp [intOf]; omega
                  · have edec : decide (j < n) = false := by simpa using hjn
                    have HBQ := Lib.hid (drewN_below HB4.out qq)
                    clear H4C
                    go_wp2_with fail
                    refine (alive_any _ (HV.out.below HBQ.out)).mono ?_
                    rintro e w7 ⟨rfl, hb7⟩
                    have HB7 := Lib.hid (HBQ.out.trans (hb7.mono HBQ.out.size)); clear hb7
                    go_wp2_with fail
                    go_ret
                    exact ⟨rfl, HB7.out⟩
              · have hbx : ((c : Int) == (e0 : Int)) = false := beq_eq_false_iff_ne.2 (by omega)
                rw [if_neg hx] at h1
                clear hx
                go_wp2_with fail
                refine (h1.out _).mono ?_
                rintro e w4 ⟨v4, ev4, rfl, ho, hfe, hb4⟩
                obtain ⟨a4, cp4, rfl, h4c⟩ := ho.open_
                have HE4 := Lib.hid hfe
                rcases hfe with ⟨h40, -⟩ | ⟨-, f4, rfl, -, -⟩
                · exact absurd h40 (by decide)
                have HB4 := Lib.hid (HB.out.trans (hb4.mono HB.out.size))
                have H4C := Lib.hid h4c
                clear h4c ho hb4
                go_wp2_with fail
                go_loopw [15] (fun vi wx => ∃ j qq : Nat, j ≤ n ∧ vi = .int .i64 j ∧ wx = w4.drewN qq) (fun vi _ => n - (intOf vi).toNat)
                case atStart => exact ⟨0, 0, Nat.zero_le _, rfl, rfl⟩
                case round =>
                  obtain ⟨j, qq, hj, rfl, rfl⟩ := hrel
                  by_cases hjn : j < n
                  · have edec : decide (j < n) = true := by simpa using hjn
                    obtain ⟨g4, rfl, -, -, hc4⟩ := H4C.out (by omega)
                    obtain ⟨hjp, hjs⟩ := HLC.out j (by omega)
                    have k4 := hc4 j (by omega)
                    rw [hjs] at k4
                    have k5 : w4.cell? ⟨b, o + j, none⟩ = some (.string (str ps[j])) := by rw [HB4.out.cell hb]; exact HC.out j hjp
                    clear hc4 hjs
                    have hts := str_same ps[j]
                    generalize ps[j] = tt at *
                    go_wp2_with fail
                    go_quiet (fail)
                    go_wp2_with fail
                    go_roundw
                    case rel => exact ⟨j + 1, _, by omega, by go_num, rfl⟩
                    case measure => simp [intOf]; omega
                  · have edec : decide (j < n) = false := by simpa using hjn
                    have HBQ := Lib.hid (drewN_below HB4.out qq)
                    clear H4C
                    go_wp2_with fail
                    refine (is_ferr ((HE4.out).below (drewN_below (Below.refl _ _) qq)) (by decide) (by omega) e0 (fun _ => rfl) (HV.out.below HBQ.out)).mono ?_
                    rintro e w6 ⟨rfl, hb6⟩
                    have HBQ2 := Lib.hid (HBQ.out.trans (hb6.mono HBQ.out.size)); clear hb6
                    go_wp2_with fail
                    refine (alive_any _ (HV.out.below HBQ2.out)).mono ?_
                    rintro e w7 ⟨rfl, hb7⟩
                    have HB7 := Lib.hid (HBQ2.out.trans (hb7.mono HBQ2.out.size)); clear hb7
                    go_wp2_with fail
                    go_ret
                    exact ⟨rfl, HB7.out⟩
      · have hdec1 : decide (i < ps.length) = true := by simpa using g
        have hdec2 : decide ((i : Int) < 40) = true := by simp; omega
        have hdec3 : decide ((S.length : Int) < 20000) = false := by simp; omega
        clear g g' g''
        go_wp2_with fail
        go_loop [10, 11] (fun vn ve => ∃ n : Nat, n ≤ i ∧ vn = .int .i64 n ∧ ve = .int .i64 ((recsB (ps.take n)).length : Nat) ∧ (recsB (ps.take n)).length ≤ c) (fun vn _ => i - (intOf vn).toNat)
        case atStart => exact ⟨0, Nat.zero_le _, rfl, rfl, Nat.zero_le _⟩
        case round =>
          obtain ⟨n, hn, rfl, rfl, hec⟩ := hrel
          by_cases hgo : n < i ∧ (recsB (ps.take (n + 1))).length ≤ c
          · obtain ⟨n1, n2⟩ := hgo
            obtain ⟨g6, rfl, -, hc6⟩ := H6.out (by omega)
            have hx := hc6 n _ (HEG.out n n1)
            generalize he2 : (recsB (ps.take (n + 1))).length = e2 at *
            have HE2 := Lib.hid he2; clear he2
            have ddec1 : decide (n < i) = true := by simpa using n1
            have ddec2 : decide ((e2 : Int) ≤ (c : Int)) = true := by simp; omega
            clear hc6
            go_wp2_with fail
            go_round
            case rel => exact ⟨n + 1, by omega, by go_num, by rw [HE2.out], by rw [HE2.out]; exact n2⟩
            case measure => simp [intOf]; omega
          · have hall := HTT.out n c HP.out (by omega) (by rw [HTK.out n hn]; exact hec) (fun h => by rw [HTK.out (n + 1) (by omega)]; have : ¬ (recsB (ps.take (n + 1))).length ≤ c := fun h' => hgo ⟨by omega, h'⟩; omega) hcl
            rw [HTK.out n hn] at hall
            have hnl : ((ps.take n).map str).length = n := by rw [List.length_map, List.length_take]; omega
            have hlc : (S.take c).length = c := by rw [List.length_take]; omega
            have h1 := Lib.hid (fun w => all_any (S.take c) w (by omega))
            unfold AllE at h1
            rw [hall] at h1
            have HLC : Hid (∀ (j : Nat) (h : j < ((ps.take n).map str).length), ∃ h' : j < ps.length, ((ps.take n).map str)[j] = str ps[j]) := Lib.hid (fun j h => ⟨by omega, by simp⟩)
            generalize (ps.take n).map str = L at *
            generalize he : (recsB (ps.take n)).length = e0 at *
            dsimp only at h1
            clear he hall hlc hSS HTT HTK HP hel htl
            rcases (by omega : ¬ n < i ∨ n < i) with k | k
            · have ddec1 : decide (n < i) = false := by simpa using k
              clear hgo H6
              by_cases hx : c = e0
              · subst hx
                rw [if_pos rfl] at h1
                go_wp2_with fail
                refine (h1.out _).mono ?_
                rintro e w4 ⟨v4, ev4, rfl, ho, hfe, hb4⟩
                obtain ⟨a4, cp4, rfl, h4c⟩ := ho.open_
                obtain rfl := hfe.nil
                have HB4 := Lib.hid (HB.out.trans (hb4.mono HB.out.size))
                have H4C := Lib.hid h4c
                clear h4c ho hfe hb4
                go_wp2_with fail
                go_loopw [15] (fun vi wx => ∃ j qq : Nat, j ≤ n ∧ vi = .int .i64 j ∧ wx = w4.drewN qq) (fun vi _ => n - (intOf vi).toNat)
                case atStart => exact ⟨0, 0, Nat.zero_le _, rfl, rfl⟩
                case round =>
                  obtain ⟨j, qq, hj, rfl, rfl⟩ := hrel
                  by_cases hjn : j < n
                  · have edec : decide (j < n) = true := by simpa using hjn
                    obtain ⟨g4, rfl, -, -, hc4⟩ := H4C.out (by omega)
                    obtain ⟨hjp, hjs⟩ := HLC.out j (by omega)
                    have k4 := hc4 j (by omega)
                    rw [hjs] at k4
                    have k5 : w4.cell? ⟨b, o + j, none⟩ = some (.string (str ps[j])) := by rw [HB4.out.cell hb]; exact HC.out j hjp
                    clear hc4 hjs
                    have hts := str_same ps[j]
                    generalize ps[j] = tt at *
                    go_wp2_with fail
                    go_quiet (fail)
                    go_wp2_with fail
                    go_roundw
                    case rel => exact ⟨j + 1, _, by omega, by go_num, rfl⟩
                    case measure => simp [intOf]; omega
                  · have edec : decide (j < n) = false := by simpa using hjn
                    have HBQ := Lib.hid (drewN_below HB4.out qq)
                    clear H4C
                    go_wp2_with fail
                    refine (alive_any _ (HV.out.below HBQ.out)).mono ?_
                    rintro e w7 ⟨rfl, hb7⟩
                    have HB7 := Lib.hid (HBQ.out.trans (hb7.mono HBQ.out.size)); clear hb7
                    go_wp2_with fail
                    go_ret
                    exact ⟨rfl, HB7.out⟩
              · have hbx : ((c : Int) == (e0 : Int)) = false := beq_eq_false_iff_ne.2 (by omega)
                rw [if_neg hx] at h1
                clear hx
                go_wp2_with fail
                refine (h1.out _).mono ?_
                rintro e w4 ⟨v4, ev4, rfl, ho, hfe, hb4⟩
                obtain ⟨a4, cp4, rfl, h4c⟩ := ho.open_
                have HE4 := Lib.hid hfe
                rcases hfe with ⟨h40, -⟩ | ⟨-, f4, rfl, -, -⟩
                · exact absurd h40 (by decide)
                have HB4 := Lib.hid (HB.out.trans (hb4.mono HB.out.size))
                have H4C := Lib.hid h4c
                clear h4c ho hb4
                go_wp2_with fail
                go_loopw [15] (fun vi wx => ∃ j qq : Nat, j ≤ n ∧ vi = .int .i64 j ∧ wx = w4.drewN qq) (fun vi _ => n - (intOf vi).toNat)
                case atStart => exact ⟨0, 0, Nat.zero_le _, rfl, rfl⟩
                case round =>
                  obtain ⟨j, qq, hj, rfl, rfl⟩ := hrel
                  by_cases hjn : j < n
                  · have edec : decide (j < n) = true := by simpa using hjn
                    obtain ⟨g4, rfl, -, -, hc4⟩ := H4C.out (by omega)
                    obtain ⟨hjp, hjs⟩ := HLC.out j (by omega)
                    have k4 := hc4 j (by omega)
                    rw [hjs] at k4
                    have k5 : w4.cell? ⟨b, o + j, none⟩ = some (.string (str ps[j])) := by rw [HB4.out.cell hb]; exact HC.out j hjp
                    clear hc4 hjs
                    have hts := str_same ps[j]
                    generalize ps[j] = tt at *
                    go_wp2_with fail
                    go_quiet (fail)
                    go_wp2_with fail
                    go_roundw
                    case rel => exact ⟨j + 1, _, by omega, by go_num, rfl⟩
                    case measure => simp [intOf]; omega
                  · have edec : decide (j < n) = false := by simpa using hjn
                    have HBQ := Lib.hid (drewN_below HB4.out qq)
                    clear H4C
                    go_wp2_with fail
                    refine (is_ferr ((HE4.out).below (drewN_below (Below.refl _ _) qq)) (by decide) (by omega) e0 (fun _ => rfl) (HV.out.below HBQ.out)).mono ?_
                    rintro e w6 ⟨rfl, hb6⟩
                    have HBQ2 := Lib.hid (HBQ.out.trans (hb6.mono HBQ.out.size)); clear hb6
                    go_wp2_with fail
                    refine (alive_any _ (HV.out.below HBQ2.out)).mono ?_
                    rintro e w7 ⟨rfl, hb7⟩
                    have HB7 := Lib.hid (HBQ2.out.trans (hb7.mono HBQ2.out.size)); clear hb7
                    go_wp2_with fail
                    go_ret
                    exact ⟨rfl, HB7.out⟩
            · obtain ⟨g6, rfl, -, hc6⟩ := H6.out (by omega)
              have hx6 := hc6 n _ (HEG.out n k)
              have hgt : ¬ (recsB (ps.take (n + 1))).length ≤ c := fun h => hgo ⟨k, h⟩
              generalize (recsB (ps.take (n + 1))).length = e2 at *
              have ddec1 : decide (n < i) = true := by simpa using k
              have ddec2 : decide ((e2 : Int) ≤ (c : Int)) = false := by simp; omega
              clear hc6 HEG
              clear hgo H6
              by_cases hx : c = e0
              · subst hx
                rw [if_pos rfl] at h1
                go_wp2_with fail
                refine (h1.out _).mono ?_
                rintro e w4 ⟨v4, ev4, rfl, ho, hfe, hb4⟩
                obtain ⟨a4, cp4, rfl, h4c⟩ := ho.open_
                obtain rfl := hfe.nil
                have HB4 := Lib.hid (HB.out.trans (hb4.mono HB.out.size))
                have H4C := Lib.hid h4c
                clear h4c ho hfe hb4
                go_wp2_with fail
                go_loopw [15] (fun vi wx => ∃ j qq : Nat, j ≤ n ∧ vi = .int .i64 j ∧ wx = w4.drewN qq) (fun vi _ => n - (intOf vi).toNat)
                case atStart => exact ⟨0, 0, Nat.zero_le _, rfl, rfl⟩
                case round =>
                  obtain ⟨j, qq, hj, rfl, rfl⟩ := hrel
                  by_cases hjn : j < n
                  · have edec : decide (j < n) = true := by simpa using hjn
                    obtain ⟨g4, rfl, -, -, hc4⟩ := H4C.out (by omega)
                    obtain ⟨hjp, hjs⟩ := HLC.out j (by omega)
                    have k4 := hc4 j (by omega)
                    rw [hjs] at k4
                    have k5 : w4.cell? ⟨b, o + j, none⟩ = some (.string (str ps[j])) := by rw [HB4.out.cell hb]; exact HC.out j hjp
                    clear hc4 hjs
                    have hts := str_same ps[j]
                    generalize ps[j] = tt at *
                    go_wp2_with fail
                    go_quiet (fail)
                    go_wp2_with fail
                    go_roundw
                    case rel => exact ⟨j + 1, _, by omega, by go_num, rfl⟩
                    case measure => simp [intOf]; omega
                  · have edec : decide (j < n) = false := by simpa using hjn
                    have HBQ := Lib.hid (drewN_below HB4.out qq)
                    clear H4C
                    go_wp2_with fail
                    refine (alive_any _ (HV.out.below HBQ.out)).mono ?_
                    rintro e w7 ⟨rfl, hb7⟩
                    have HB7 := Lib.hid (HBQ.out.trans (hb7.mono HBQ.out.size)); clear hb7
                    go_wp2_with fail
                    go_ret
                    exact ⟨rfl, HB7.out⟩
              · have hbx : ((c : Int) == (e0 : Int)) = false := beq_eq_false_iff_ne.2 (by omega)
                rw [if_neg hx] at h1
                clear hx
                go_wp2_with fail
                refine (h1.out _).mono ?_
                rintro e w4 ⟨v4, ev4, rfl, ho, hfe, hb4⟩
                obtain ⟨a4, cp4, rfl, h4c⟩ := ho.open_
                have HE4 := Lib.hid hfe
                rcases hfe with ⟨h40, -⟩ | ⟨-, f4, rfl, -, -⟩
                · exact absurd h40 (by decide)
                have HB4 := Lib.hid (HB.out.trans (hb4.mono HB.out.size))
                have H4C := Lib.hid h4c
                clear h4c ho hb4
                go_wp2_with fail
                go_loopw [15] (fun vi wx => ∃ j qq : Nat, j ≤ n ∧ vi = .int .i64 j ∧ wx = w4.drewN qq) (fun vi _ => n - (intOf vi).toNat)
                case atStart => exact ⟨0, 0, Nat.zero_le _, rfl, rfl⟩
                case round =>
                  obtain ⟨j, qq, hj, rfl, rfl⟩ := hrel
                  by_cases hjn : j < n
                  · have edec : decide (j < n) = true := by simpa using hjn
                    obtain ⟨g4, rfl, -, -, hc4⟩ := H4C.out (by omega)
                    obtain ⟨hjp, hjs⟩ := HLC.out j (by omega)
                    have k4 := hc4 j (by omega)
                    rw [hjs] at k4
                    have k5 : w4.cell? ⟨b, o + j, none⟩ = some (.string (str ps[j])) := by rw [HB4.out.cell hb]; exact HC.out j hjp
                    clear hc4 hjs
                    have hts := str_same ps[j]
                    generalize ps[j] = tt at *
                    go_wp2_with fail
                    go_quiet (fail)
                    go_wp2_with fail
                    go_roundw
                    case rel => exact ⟨j + 1, _, by omega, by go_num, rfl⟩
                    case measure => simp [intOf]; omega
                  · have edec : decide (j < n) = false := by simpa using hjn
                    have HBQ := Lib.hid (drewN_below HB4.out qq)
                    clear H4C
                    go_wp2_with fail
                    refine (is_ferr ((HE4.out).below (drewN_below (Below.refl _ _) qq)) (by decide) (by omega) e0 (fun _ => rfl) (HV.out.below HBQ.out)).mono ?_
                    rintro e w6 ⟨rfl, hb6⟩
                    have HBQ2 := Lib.hid (HBQ.out.trans (hb6.mono HBQ.out.size)); clear hb6
                    go_wp2_with fail
                    refine (alive_any _ (HV.out.below HBQ2.out)).mono ?_
                    rintro e w7 ⟨rfl, hb7⟩
                    have HB7 := Lib.hid (HBQ2.out.trans (hb7.mono HBQ2.out.size)); clear hb7
                    go_wp2_with fail
                    go_ret
                    exact ⟨rfl, HB7.out⟩
end FrameC
end Go.Proofs.YtpmbokklpidohaaDoor
