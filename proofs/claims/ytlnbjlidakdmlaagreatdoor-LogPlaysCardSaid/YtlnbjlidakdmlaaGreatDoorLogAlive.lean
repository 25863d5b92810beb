/-
  The statements' own 'alive' of layer 5.
-/
import Derived.Test.YtlnbjlidakdmlaaGreatDoorLogOpen
import Derived.Test.YtlnbjlidakdmlaaGreatDoorLogInv
import Derived.Test.YtlnbjlidakdmlaaGreatDoorDiskR
namespace Go.Proofs.YtlnbjlidakdmlaaGreatDoor
open Go.RowKit
set_option linter.unusedVariables false
namespace LogP
open LogM FrameM FrameC TextR DiskM DiskC LogC ErrC

/-- an error that is asked for its number, nothing, its place -/
theorem is_ferr {w0 w : World} {ev : Value} {c : Nat} {a : Int} (he : FErr w0 w ev c a) (hc : c ≤ 100) (ha : a ≤ 9223372036854775807) (a' : Int) (haa : c ≠ 0 → a' = a) (hv : Vars w) :
    Calls Tryz.prog 8 #[ev, .int .i64 c, .string ⟨#[]⟩, .int .i64 a'] w fun e w' => e = .returned (.bool true) ∧ Below w.heap.size w w' := by
  rcases he with ⟨rfl, rfl⟩ | ⟨h0, f, rfl, hf, hF⟩
  · refine (is_nil _ _ w).mono ?_
    rintro e w' ⟨rfl, rfl⟩
    exact ⟨rfl, Below.refl _ _⟩
  · rw [haa h0]
    exact is_that f 0 c ⟨#[]⟩ a w h0 (by omega) ha (by show 0 ≤ _; decide) hF hv
theorem appendL_five {cut : Int} {pl : List UInt8} {L : List (List UInt8)} {br : Bool} {s : DS} (h : (appendL cut pl L br s).1 = 5) : (appendS cut (str (fileB (L.length / 64 + 1))) (str (recB pl)) s).1 = 5 := by
  unfold appendL at h
  split at h
  · cases h
  · split at h
    · cases h
    · split at h
      · cases h
      · exact h
theorem adds_live {cut : Int} {name : ByteArray} (hcut : cut < 0) : ∀ (fuel : Nat) (x : ByteArray) (s : DS), x.size < fuel → s.dead = false → (addsS cut name fuel x s).1 = true
  | 0, x, s, h, _ => by omega
  | k + 1, x, s, h, hd => by
    have hr : rawB cut s.count s.dead = true := by unfold rawB; rw [hd]; simp; omega
    by_cases hx : x.size ≤ 32
    · rw [addsS_last hr hx]
    · rw [addsS_more hr hx]
      exact adds_live hcut k _ _ (by rw [rest_size]; omega) hd
theorem append_live5 {cut : Int} (hcut : cut < 0) (name x : ByteArray) (s : DS) (hd : s.dead = false) : (appendS cut name x s).1 ≠ 5 := by
  unfold appendS
  have h := adds_live hcut (name := name) (x.size + 1) x s (Nat.lt_succ_self _) hd
  change (addsR cut name x s).1 = true at h
  rw [hd]
  split
  · show (2 : Nat) ≠ 5; decide
  · rw [if_neg (by decide)]
    split
    · show (4 : Nat) ≠ 5; decide
    · show code5 (addsR cut name x s).1 ≠ 5
      rw [h]; decide
theorem appendL_good {cut : Int} {pl : List UInt8} {L : List (List UInt8)} {br : Bool} {s : DS} (h : DiskC.Good s.fs) : DiskC.Good (appendL cut pl L br s).2.2.2.2.fs ∧ (appendL cut pl L br s).2.2.2.2.count ≤ s.count + pl.length + 13 := by
  have hg := append_good (cut := cut) (name := str (fileB (L.length / 64 + 1))) (x := str (recB pl)) h
  rw [str_size, recB_length] at hg
  unfold appendL
  split
  · exact ⟨h, by show s.count ≤ _; omega⟩
  · split
    · exact ⟨h, by show s.count ≤ _; omega⟩
    · split
      · exact ⟨hg.1, by have := hg.2; show (appendS _ _ _ _).2.count ≤ _; omega⟩
      · exact ⟨hg.1, by have := hg.2; show (appendS _ _ _ _).2.count ≤ _; omega⟩
theorem may_appendL {cut : Int} {pl : List UInt8} {L : List (List UInt8)} {br : Bool} {s : DS} (h : DiskP.May s.fs) : DiskP.May (appendL cut pl L br s).2.2.2.2.fs := by
  unfold appendL
  split
  · exact h
  · split
    · exact h
    · split
      · exact DiskP.may_append h
      · exact DiskP.may_append h
/-- one record more, where nothing is cut -/
theorem append_live {cut : Int} (hcut : cut < 0) {fs : FL} {L : List (List UInt8)} (h : InvT fs L []) (hg : DiskC.Good fs) (p : List UInt8) (hp : p.length ≤ 131072) (hl : fs.length < 1000) (hb : L.length < 10000) (c : Nat) :
    ∃ fs' c', appendL cut p L false ⟨fs, c, false⟩ = (0, str [], L ++ [p], false, ⟨fs', c', false⟩) ∧ InvT fs' (L ++ [p]) [] ∧ fs'.length ≤ fs.length + 1 ∧ DiskC.Good fs' ∧ c' ≤ c + p.length + 13 := by
  have hG := appendL_good (cut := cut) (pl := p) (L := L) (br := false) (s := ⟨fs, c, false⟩) hg
  rcases h.append p hp hl hb cut c with ⟨fs', c', e, hi, hle⟩ | ⟨fs', c', T, e, -, -⟩
  · rw [e] at hG
    exact ⟨fs', c', e, hi, hle, hG.1, hG.2⟩
  · exact absurd (appendL_five (by rw [e])) (append_live5 hcut _ _ _ rfl)

set_option maxHeartbeats 8000000 in
set_option maxRecDepth 100000 in
theorem lalive_any (w : World) (hv : VarsT w) : Calls Tryz.prog 22 #[] w fun e w' => e = .returned (.bool true) ∧ Below w.heap.size w w' := by
  have HD := Lib.hid (DiskP.disk_dev w.heap.size)
  have HV := Lib.hid hv
  have HO1 := Lib.hid (InvT.empty.open_ (-1) 0)
  have HS1 := Lib.hid (InvT.empty.log 0 false)
  have hG0 : DiskC.Good [] := ⟨Nat.zero_le _, fun f h => by cases h⟩
  obtain ⟨fs1, n1, e1, i1, l1, g1, b1⟩ := append_live (cut := -1) (by decide) InvT.empty hG0 [97] (by decide) (by decide) (by decide) 0
  have l1' : fs1.length ≤ 1 := l1
  have b1' : n1 ≤ 14 := b1
  obtain ⟨fs2, n2, e2, i2, l2, g2, b2⟩ := append_live (cut := -1) (by decide) i1 g1 [98] (by decide) (by omega) (by decide) n1
  have b2' : n2 ≤ n1 + 14 := b2
  have HO2 := Lib.hid (i2.open_ (-1) n2)
  have HS2 := Lib.hid (i2.log n2 false)
  have HE1 := Lib.hid e1
  have HE2 := Lib.hid e2
  have HG1 := Lib.hid g1
  have HG2 := Lib.hid g2
  have hn2 : n2 ≤ 28 := by omega
  have HM : Hid (DiskP.May fs2) := Lib.hid (by
    have m1 : DiskP.May (appendL (-1) [97] [] false ⟨[], 0, false⟩).2.2.2.2.fs := may_appendL DiskP.May.nil
    rw [e1] at m1
    have m2 : DiskP.May (appendL (-1) [98] ([] ++ [[97]]) false ⟨fs1, n1, false⟩).2.2.2.2.fs := may_appendL m1
    rw [e2] at m2
    exact m2)
  clear hv e1 i1 l1 g1 b1 l1' e2 i2 l2 g2 b2 b2'
  go_enter Tryz.func22, Tryz.ntmps22
  go_wp2_with fail
  refine (HD.out.new (-1) (Nat.le_refl _)).mono ?_
  rintro e w1 ⟨b, F, rfl, hr, hb, hF⟩
  have HL1 := Lib.hid (show Ln w.heap.size (DiskP.RP w.heap.size) w1 b F (-1) ⟨[], 0, false⟩ from ⟨hr, hF, hb.size, (HV.out.below hb).vars, DiskC.Vars.g0 HV.out.vars, DiskC.Vars.g1 HV.out.vars⟩)
  have HB1 := Lib.hid hb
  clear hr hb hF
  go_wp2_with fail
  refine (popen_any HD.out HL1.out (HV.out.below HB1.out) hG0 (fun _ h => by cases h) (Nat.zero_le _)).mono ?_
  unfold POpenE
  rw [HO1.out, HS1.out]
  dsimp only
  rintro e w2 (⟨-, p, nb, lv, F1, rfl, hp, hk, -, -⟩ | ⟨h, -⟩)
  rotate_left
  · exact absurd rfl h
  have HP2 := Lib.hid hp
  have HB2 := Lib.hid (HB1.out.trans (hk.toBelow HL1.out.low HL1.out.hw))
  clear hp hk
  go_wp2_with fail
  refine (pappend_any HD.out [97] HP2.out hG0 (Nat.zero_le _) (by decide) (by decide)).mono ?_
  unfold PAppE
  rw [HE1.out]
  dsimp only
  rintro e w3 ⟨ev, lv1, F2, rfl, he, hp, hk, -⟩
  obtain rfl := derr_nil he
  have HP3 := Lib.hid hp
  have HB3 := Lib.hid (HB2.out.trans (hk.toBelow HP2.out.low2 HP2.out.hw))
  clear hp hk he
  go_wp2_with fail
  refine (pappend_any HD.out [98] HP3.out HG1.out (by show n1 ≤ _; omega) (by decide) (by decide)).mono ?_
  unfold PAppE
  rw [HE2.out]
  dsimp only
  rintro e w4 ⟨ev, lv2, F3, rfl, he, hp, hk, -⟩
  obtain rfl := derr_nil he
  have HP4 := Lib.hid hp
  have HB4 := Lib.hid (HB3.out.trans (hk.toBelow HP3.out.low2 HP3.out.hw))
  clear hp hk he
  go_wp2_with fail
  refine (popen_any HD.out HP4.out.ln HP4.out.vars HG2.out HM.out (by show n2 ≤ _; omega)).mono ?_
  unfold POpenE
  rw [HO2.out, HS2.out]
  dsimp only
  rintro e w5 (⟨-, p5, nb5, lv5, F5, rfl, hp, hk, -, -⟩ | ⟨h, -⟩)
  rotate_left
  · exact absurd rfl h
  have HP5 := Lib.hid hp
  have HQ5 := Lib.hid (HP4.out.pl.keeps hk HP4.out.dis)
  have HB5 := Lib.hid (HB4.out.trans (hk.toBelow HP4.out.low HP4.out.hw))
  clear hp hk
  go_wp2_with fail
  refine (at_any 1 HP5.out.pl).mono ?_
  unfold AtE
  rintro e w6 ⟨ev6, rfl, he, hb⟩
  obtain rfl := ferr_nil he
  have HB6 := Lib.hid hb
  have hT : atT ([] ++ [[97]] ++ [[98]]) 1 = ⟨#[98]⟩ := rfl
  rw [hT]
  clear hb he hT
  go_wp2_with fail
  refine (at_any 2 (HP5.out.pl.below HB6.out)).mono ?_
  unfold AtE
  rintro e w7 ⟨ev7, rfl, he, hb⟩
  have HB7 := Lib.hid (HB6.out.trans (hb.mono HB6.out.size))
  have HE7 : Hid (FErr w6 w7 ev7 2 2) := Lib.hid he
  clear hb he
  go_wp2_with fail
  refine (len_any (HQ5.out.below HB7.out)).mono ?_
  rintro e w8 ⟨rfl, rfl⟩
  go_wp2_with fail
  refine (len_any (HP5.out.pl.below HB7.out)).mono ?_
  rintro e w8 ⟨rfl, rfl⟩
  go_wp2_with fail
  refine (is_ferr HE7.out (by decide) (by decide) 2 (fun _ => rfl) (HP5.out.vars.below HB7.out).vars).mono ?_
  rintro e w8 ⟨rfl, hb⟩
  have HB8 := Lib.hid (HB7.out.trans (hb.mono HB7.out.size))
  clear hb
  go_wp2_with fail
  go_ret
  exact ⟨rfl, HB5.out.trans (HB8.out.mono HB5.out.size)⟩
end LogP
end Go.Proofs.YtlnbjlidakdmlaaGreatDoor
