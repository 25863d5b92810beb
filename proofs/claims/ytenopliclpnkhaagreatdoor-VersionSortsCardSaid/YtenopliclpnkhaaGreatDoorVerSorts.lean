/-
  The statement of many versions, walked: the copy of the list, both calls of Sort, the loop that holds both against each other and writes over, the loop over the list.
-/
import Derived.Test.YtenopliclpnkhaaGreatDoorVerSortP
import Derived.Test.YtenopliclpnkhaaGreatDoorVerTotal
import Derived.Laws.AppendOwnNone
namespace Go.Proofs.YtenopliclpnkhaaGreatDoor
open Go.RowKit
namespace VerC
open VerM StrC TextR Go.Sort
set_option linter.unusedSimpArgs false

theorem sorts_long (a : Option Addr) (len cap : Nat) (w : World) (hM : Vw w) (h : 200 < len) :
    Calls Tryz.prog 3 #[.slice a len cap] w fun e w' => e = .returned (.bool true) ∧ Below w.heap.size w w' := by
  have HM := Lib.hid hM
  have hd : decide ((200 : Int) < (len : Int)) = true := decide_eq_true (by omega)
  go_enter Tryz.func3, Tryz.ntmps3
  go_wp2_with (go_at_call 4; refine (alive_any _ HM.out).mono ?_; rintro e w' ⟨rfl, hb⟩)
  go_ret
  exact ⟨rfl, hb⟩
set_option maxHeartbeats 1000000 in
theorem sorts_none (w : World) (hM : Vw w) :
    Calls Tryz.prog 3 #[.slice none 0 0] w fun e w' => e = .returned (.bool true) ∧ Below w.heap.size w w' := by
  have HM := Lib.hid hM
  obtain ⟨i0, hi, hz0, hz1, hz2⟩ := info_parts info_text
  go_enter Tryz.func3, Tryz.ntmps3
  go_wp2_with (at_builtin; refine wpList_append_own_none rfl _ _ 22 rfl w.heap.size 9 i0 1 Tryz.underlying22 hi _ _ _ rfl (World.ownsRow_nil _ _ _ _) rfl ?_)
  refine (psortv_none _ _ _).mono ?_
  rintro e w' ⟨rfl, rfl⟩
  go_wp2_with fail
  refine (rsortv_none _ _ _).mono ?_
  rintro e w' ⟨rfl, rfl⟩
  go_wp2_with fail
  refine wp_loop_rounds 1 ?_; rw [rounds_succ]; go_wp2_with fail
  refine wp_loop_rounds 1 ?_; rw [rounds_succ]; go_wp2_with fail
  refine (alive_any _ HM.out).mono ?_
  rintro e w' ⟨rfl, hb⟩
  go_wp2_with fail
  go_ret
  exact ⟨rfl, hb⟩
set_option maxHeartbeats 1000000 in
theorem sorts_empty (x : Addr) (cap : Nat) (w : World) (hM : Vw w) :
    Calls Tryz.prog 3 #[.slice (some x) 0 cap] w fun e w' => e = .returned (.bool true) ∧ Below w.heap.size w w' := by
  have HM := Lib.hid hM
  obtain ⟨i0, hi, hz0, hz1, hz2⟩ := info_parts info_text
  go_enter Tryz.func3, Tryz.ntmps3
  go_wp2_with (at_builtin; refine wpList_append_own _ rfl _ _ 22 rfl w.heap.size 9 i0 (.string ⟨#[]⟩) 1 16 Tryz.underlying22 hi hz0 hz1 hz2 rfl (by decide) _ _ _ rfl (World.ownsRow_nil _ _ _ _) x 0 cap [] rfl rfl ?c2 ?c3 ?c4 ?c5 ?c6 ?_)
  case c2 => intro j u hu; simp at hu
  case c3 => intro u hu; cases hu
  case c4 => decide
  case c5 => decide
  case c6 => exact Nat.le_refl _
  intro v' w1 hown hg hnil
  obtain rfl : v' = .slice none 0 0 := by simpa using hnil
  have hB : Below w.heap.size w w1 := (Below.refl _ _).grown hg (Nat.le_refl _) (fun k hk => by cases hk)
  have HB := Lib.hid hB
  clear hg hB hown hnil
  go_wp2_with fail
  refine (psortv_none _ _ _).mono ?_
  rintro e w' ⟨rfl, rfl⟩
  go_wp2_with fail
  refine (rsortv_none _ _ _).mono ?_
  rintro e w' ⟨rfl, rfl⟩
  go_wp2_with fail
  refine wp_loop_rounds 1 ?_; rw [rounds_succ]; go_wp2_with fail
  refine wp_loop_rounds 1 ?_; rw [rounds_succ]; go_wp2_with fail
  refine (alive_any _ (HM.out.gr HB.out)).mono ?_
  rintro e w3 ⟨rfl, hb3⟩
  go_wp2_with fail
  go_ret
  exact ⟨rfl, chain (Nat.le_refl _) HB.out hb3⟩

/-- a slice's texts at a plain address, where there is one at all -/
theorem texts_at {w : World} {a : Addr} {zs : List ByteArray} (h : ∀ i, i < zs.length → w.cell? (a.add i) = some (.string (zs.getD i ByteArray.empty))) (hp : 0 < zs.length) :
    ∃ b off, a = ⟨b, off, none⟩ ∧ b < w.heap.size ∧ ∀ j, j < zs.length → w.cell? ⟨b, off + j, none⟩ = some (.string (zs.getD j ByteArray.empty)) := by
  obtain ⟨b, off, spot⟩ := a
  have hspot : spot = none := by simpa [Addr.add] using World.cell?_spot (h 0 hp)
  subst hspot
  exact ⟨b, off, rfl, World.block_lt_of_cell? _ _ (by simpa [Addr.add] using h 0 hp), fun j hj => by rw [← Go.WideShapes.add_plain]; exact h j hj⟩
theorem text_le {zs : List ByteArray} (h : ∀ s ∈ zs, s.size ≤ maxLen) (i : Nat) (hi : i < zs.length) : (zs.getD i ByteArray.empty).size ≤ maxLen := by
  simpa [hi] using h zs[i] (List.getElem_mem hi)
theorem texts_news {w : World} {b o : Nat} {L : TL} (h : TextsIn w b o L) : ∀ j u, (L.map encT)[j]? = some u → w.cell? ((⟨b, o, none⟩ : Addr).add j) = some u := by
  intro j u hu
  have hj : j < L.length := by
    have := (List.getElem?_eq_some_iff.1 hu).1
    simpa using this
  rw [Go.WideShapes.add_plain, h j hj, ← hu]
  simp [hj]; rfl
/-- what a round of the loop over both lists finds and leaves -/
structure BothI (R : TL) (wk wq : World) (g1 g2 i : Nat) : Prop where
  le : i ≤ R.length
  one : ∀ t, i ≤ t → t < R.length → wq.cell? ⟨g1, t, none⟩ = some (.string (str (R.getD t [])))
  two : ∀ t, t < R.length → wq.cell? ⟨g2, t, none⟩ = some (.string (str (R.getD t [])))
  frozen : ∀ t, wq.frozen? ⟨g1, t, none⟩ = false
  below : Below wk.heap.size wk wq
theorem BothI.step {R : TL} {wk wq : World} {g1 g2 i : Nat} (h : BothI R wk wq g1 g2 i) (hlt : i < R.length) (hne : g1 ≠ g2) (hg : wk.heap.size ≤ g1) (q : Nat) (v : Value) : BothI R wk ((wq.drewN q).setCell ⟨g1, i, none⟩ v) g1 g2 (i + 1) := by
  refine ⟨hlt, fun t h1 h2 => ?_, fun t h2 => ?_, fun t => ?_, (below_drewN h.below q).setCell hg _⟩
  · rw [World.cell?_setCell_other _ _ _ _ (fun e => by cases e; omega)]; simpa using h.one t (by omega) h2
  · rw [World.cell?_setCell_other _ _ _ _ (fun e => by cases e; exact hne rfl)]; simpa using h.two t h2
  · simpa using h.frozen t

set_option maxHeartbeats 8000000 in
set_option maxRecDepth 100000 in
theorem sorts_some (b o cap : Nat) (L : TL) (w : World) (hM : Vw w) (hp : 0 < L.length) (hL : L.length ≤ 200) (hb : b < w.heap.size) (hc : TextsIn w b o L) :
    Calls Tryz.prog 3 #[.slice (some ⟨b, o, none⟩) L.length cap] w fun e w' => e = .returned (.bool true) ∧ Below w.heap.size w w' := by
  have HM := Lib.hid hM
  obtain ⟨i0, hi, hz0, hz1, hz2⟩ := info_parts info_text
  have HC := Lib.hid hc
  have hd : decide ((200 : Int) < (L.length : Int)) = false := decide_eq_false (by omega)
  clear hc hM
  go_enter Tryz.func3, Tryz.ntmps3
  go_wp2_with (at_builtin; refine wpList_append_own _ rfl _ _ 22 rfl w.heap.size 9 i0 (.string ⟨#[]⟩) 1 16 Tryz.underlying22 hi hz0 hz1 hz2 rfl (by decide) _ _ _ rfl (World.ownsRow_nil _ _ _ _) ⟨b, o, none⟩ L.length cap (L.map encT) rfl ?c1 ?c2 ?c3 ?c4 ?c5 ?c6 ?_)
  first | (case c1 => simp) | skip
  case c2 => exact texts_news HC.out
  case c3 => intro u hu; rw [List.mem_map] at hu; obtain ⟨s, _, rfl⟩ := hu; rfl
  case c4 => unfold maxLen; omega
  case c5 => omega
  case c6 => exact Nat.le_refl _
  intro v' wk hown hg _
  have hownk : OwnS wk w.heap.size v' L := by unfold OwnS; simpa using hown
  obtain ⟨g, cp, rfl, hg0, hgl, hcp, hcm, hcells, hfr⟩ := hownk.open_ hp
  have HBK := Lib.hid ((Below.refl _ _).grown hg (Nat.le_refl _) (fun k hk => by cases hk) : Below w.heap.size w wk)
  have hck : TextsIn wk g 0 L := fun i hi => by rw [Nat.zero_add]; exact hcells i hi
  have HCK := Lib.hid hck
  clear hg hown hownk hcells hfr hck
  have hbk : b < wk.heap.size := by have := HBK.out.size; omega
  have HCB := Lib.hid (HC.out.below HBK.out hb)
  have HP := Lib.hid (psortv_any g 0 cp L wk (HM.out.gr HBK.out) hp hL hgl HCK.out)
  go_wp2_with fail
  refine HP.out.mono ?_
  rintro e w1 ⟨hb1, he1, he2⟩
  have HB1 := Lib.hid hb1
  have HQ := Lib.hid (rsortv_any b o cap L w1 hp hL (by have := hb1.size; omega) (HCB.out.below hb1 hbk))
  clear HP hb1
  rcases Bool.eq_false_or_eq_true (L.all isT) with hall | hall
  · obtain ⟨a1, c1, R, rfl, ho1, hs1, hm1⟩ := he2 hall
    have hRp : 0 < R.length := List.length_pos_of_mem ((hm1 (L.getD 0 [])).2 (by rw [getD_at hp]; exact List.getElem_mem hp))
    obtain ⟨g1, c1', hv1, hg10, hg1l, hc1, hcm1, hcl1, hf1⟩ := ho1.open_ hRp
    simp only [Value.slice.injEq, true_and] at hv1
    obtain ⟨rfl, rfl⟩ := hv1
    have HC1 := Lib.hid hcl1
    have HF1 := Lib.hid hf1
    have HS1 := Lib.hid (And.intro hs1 hm1)
    clear he1 he2 hcl1 hf1 ho1 hs1 hm1
    go_wp2_with fail
    refine HQ.out.mono ?_
    rintro e w2 ⟨hb2, he1, he2⟩
    obtain ⟨a2, c2, R2, rfl, ho2, hs2, hm2⟩ := he2 hall
    obtain rfl : R2 = R := SV.ext hs2 HS1.out.1 fun x => (hm2 x).trans (HS1.out.2 x).symm
    obtain ⟨g2, c2', hv2, hg20, hg2l, hc2, hcm2, hcl2, hf2⟩ := ho2.open_ hRp
    simp only [Value.slice.injEq, true_and] at hv2
    obtain ⟨rfl, rfl⟩ := hv2
    have HB2 := Lib.hid hb2
    have hrl : R2.length ≤ 9223372036854775807 := by unfold maxLen at hcm1; omega
    have HST : Hid (BothI R2 wk w2 g1 g2 0) := Lib.hid ⟨Nat.zero_le _, fun t _ ht => by rw [hb2.cell (by exact hg1l)]; exact HC1.out t ht, hcl2, fun t => by rw [hb2.frozen (by exact hg1l)]; exact HF1.out t, chain (Nat.le_refl _) HB1.out hb2⟩
    have hne : g1 ≠ g2 := by omega
    clear he1 he2 hcl2 hf2 hb2 HQ HC1 HF1 ho2 hs2 hm2 HS1
    rename TL => R
    go_wp2_with fail
    go_loopw [8] (fun iv wq => ∃ i : Nat, iv = .int .i64 i ∧ Hid (BothI R wk wq g1 g2 i)) (fun iv _ => R.length - (intOf iv).toNat)
    case atStart => exact ⟨0, rfl, HST⟩
    case round =>
      obtain ⟨i, rfl, HI⟩ := hrel
      rename World => wq
      have hil := HI.out.le
      by_cases hlt : i < R.length
      · have hdec : decide (i < R.length) = true := by simpa using hlt
        have hx1 := HI.out.one i (Nat.le_refl _) hlt
        have hx2 := HI.out.two i hlt
        have hfz := HI.out.frozen i
        have HSTEP := Lib.hid (fun q v => HI.out.step hlt hne hg10 q v)
        generalize R.getD i [] = s at *
        go_wp2
        go_quiet (fail)
        go_wp2
        go_roundw
        case rel => exact ⟨i + 1, by go_num, Lib.hid (HSTEP.out _ _)⟩
        case measure => simp [intOf]; omega
      · have hdec : decide (i < R.length) = false := by simpa using hlt
        have HBQ := Lib.hid HI.out.below
        clear HI
        have HKQ := Lib.hid (HCK.out.below HBQ.out hgl)
        have HLQ := Lib.hid (HCB.out.below HBQ.out hbk)
        have HMQ := Lib.hid ((HM.out.gr HBK.out).gr HBQ.out)
        have HBA := Lib.hid (HBK.out.trans (HBQ.out.mono HBK.out.size))
        go_wp2_with fail
        go_loopw [9] (fun iv wr => ∃ k n : Nat, k ≤ L.length ∧ iv = .int .i64 k ∧ wr = wq.drewN n) (fun iv _ => L.length - (intOf iv).toNat)
        case atStart => exact ⟨0, 0, Nat.zero_le _, rfl, rfl⟩
        case round =>
          obtain ⟨k, n, hk, rfl, rfl⟩ := hrel
          by_cases hlk : k < L.length
          · have hdk : decide (k < L.length) = true := by simpa using hlk
            have hcb := HLQ.out k hlk
            have hcg : wq.cell? ⟨g, k, none⟩ = some (.string (str (L.getD k []))) := by have := HKQ.out k hlk; rwa [Nat.zero_add] at this
            generalize L.getD k [] = s at *
            go_wp2
            go_quiet (fail)
            go_wp2
            go_roundw
            case rel => exact ⟨k + 1, _, by omega, by go_num, rfl⟩
            case measure => simp [intOf]; omega
          · have hdk : decide (k < L.length) = false := by simpa using hlk
            have HMD : Hid (Vw (wq.drewN n)) := Lib.hid (HMQ.out.gr (below_drewN (Below.refl _ _) n))
            go_wp2_with fail
            refine (alive_any _ HMD.out).mono ?_
            rintro e w5 ⟨rfl, hb5⟩
            go_wp2_with fail
            go_ret
            exact ⟨rfl, chain (Nat.le_refl _) (below_drewN HBA.out n) hb5⟩
  · obtain rfl := he1 hall
    clear he1 he2
    go_wp2_with fail
    refine HQ.out.mono ?_
    rintro e w2 ⟨hb2, he1, he2⟩
    obtain rfl := he1 hall
    have HBQ := Lib.hid (chain (Nat.le_refl _) HB1.out hb2)
    clear he1 he2 hb2 HQ
    rename World => wq
    go_wp2_with fail
    refine wp_loop_rounds 1 ?_
    rw [rounds_succ]
    have HKQ := Lib.hid (HCK.out.below HBQ.out hgl)
    have HLQ := Lib.hid (HCB.out.below HBQ.out hbk)
    have HMQ := Lib.hid ((HM.out.gr HBK.out).gr HBQ.out)
    have HBA := Lib.hid (HBK.out.trans (HBQ.out.mono HBK.out.size))
    go_wp2_with fail
    go_loopw [9] (fun iv wr => ∃ k n : Nat, k ≤ L.length ∧ iv = .int .i64 k ∧ wr = wq.drewN n) (fun iv _ => L.length - (intOf iv).toNat)
    case atStart => exact ⟨0, 0, Nat.zero_le _, rfl, rfl⟩
    case round =>
      obtain ⟨k, n, hk, rfl, rfl⟩ := hrel
      by_cases hlk : k < L.length
      · have hdk : decide (k < L.length) = true := by simpa using hlk
        have hcb := HLQ.out k hlk
        have hcg : wq.cell? ⟨g, k, none⟩ = some (.string (str (L.getD k []))) := by have := HKQ.out k hlk; rwa [Nat.zero_add] at this
        generalize L.getD k [] = s at *
        go_wp2
        go_quiet (fail)
        go_wp2
        go_roundw
        case rel => exact ⟨k + 1, _, by omega, by go_num, rfl⟩
        case measure => simp [intOf]; omega
      · have hdk : decide (k < L.length) = false := by simpa using hlk
        have HMD : Hid (Vw (wq.drewN n)) := Lib.hid (HMQ.out.gr (below_drewN (Below.refl _ _) n))
        go_wp2_with fail
        refine (alive_any _ HMD.out).mono ?_
        rintro e w5 ⟨rfl, hb5⟩
        go_wp2_with fail
        go_ret
        exact ⟨rfl, chain (Nat.le_refl _) (below_drewN HBA.out n) hb5⟩
end VerC
end Go.Proofs.YtenopliclpnkhaaGreatDoor
