/-
  Every script of appends, cuts, and files that somebody else wrote: LogPlays.
-/
import Derived.Test.YtlnbjlidakdmlaaGreatDoorLogPS
import Derived.Test.YtlnbjlidakdmlaaGreatDoorStructs
import Derived.Test.YtlnbjlidakdmlaaGreatDoorDiskRef6
import Derived.Deep.RegionWith
import Derived.Deep.RegionHeld3
import Derived.Deep.CutRange
import Derived.Deep.CutBlock
namespace Go.Proofs.YtlnbjlidakdmlaaGreatDoor
open Go.RowKit
set_option linter.unusedVariables false
namespace LogP
open LogM FrameM FrameC TextR DiskM DiskC LogC ErrC

/-- a step: what to do, a number, a text -/
structure Stp where
  D : Int
  N : Int
  x : List UInt8
structure StpAt (w : World) (g p : Nat) (t : Stp) : Prop where
  c0 : w.cell? ⟨g, p, none⟩ = some (.int .i64 t.D)
  c1 : w.cell? ⟨g, p + 1, none⟩ = some (.int .i64 t.N)
  c2 : w.cell? ⟨g, p + 2, none⟩ = some (.string (str t.x))
theorem StpAt.below {B : Nat} {w w' : World} {g p : Nat} {t : Stp} (h : StpAt w g p t) (hb : Below B w w') (hg : g < B) : StpAt w' g p t :=
  ⟨by rw [hb.cell hg]; exact h.c0, by rw [hb.cell hg]; exact h.c1, by rw [hb.cell hg]; exact h.c2⟩
def Steps (w : World) (g o : Nat) (L : List Stp) : Prop := ∀ i (hi : i < L.length), StpAt w g (o + i * 3) L[i] ∧ L[i].x.length ≤ 281474976710656
/-- both disks, new -/
theorem pair_new {B : Nat} {w w1 w2 : World} {b : Nat} {F : Nat → Prop} {cut : Int} (hB : B = w.heap.size) (hv : VarsT w) (hr : DiskP.RP B w1 b F cut ⟨[], 0, false⟩) (hb : Below w.heap.size w w1) (hF : ∀ i, F i → w.heap.size ≤ i)
    (h2 : w2 = w1.alloc (.cells #[.slice none 0 0, .int .i64 cut, .int .i64 0, .bool false] 54)) : DS2 B w2 b w1.heap.size cut ⟨[], 0, false⟩ ∧ Below B w w2 := by
  subst hB h2
  have hD := DiskP.disk_dev w.heap.size
  have hb2 : Below w1.heap.size w1 (w1.alloc (.cells #[.slice none 0 0, .int .i64 cut, .int .i64 0, .bool false] 54)) := (Below.refl _ _).alloc (Nat.le_refl _) _
  have hfoot : ∀ i, Foot w1.heap.size (.slice none 0 0) i → i = w1.heap.size := by
    intro i hi
    rcases hi with h | h
    · exact h
    · cases h
  have hbb : Below w.heap.size w (w1.alloc (.cells #[.slice none 0 0, .int .i64 cut, .int .i64 0, .bool false] 54)) := hb.trans (hb2.mono hb.size)
  refine ⟨⟨⟨F, _, ⟨hD.keeps hr (Keeps.of_below (S := fun _ => False) hb2) (fun _ _ h => h) (fun _ h => h.elim), dnew_is cut w1, fun i hi hf => ?_, hF, fun i hi => ?_, ?_, (hv.vars.below hb).below hb2, DiskC.Vars.g0 hv.vars, DiskC.Vars.g1 hv.vars⟩⟩, hv.belowG hbb (DiskC.Vars.g0 hv.vars) (DiskC.Vars.g1 hv.vars)⟩, hbb⟩
  · have := hfoot i hf
    have := hD.lt hr i hi
    omega
  · rw [hfoot i hi]; exact hb.size
  · exact Nat.le_trans hb.size hb2.size
/-- the bounds that a script keeps -/
def Bnd (i : Nat) (L : List (List UInt8)) (s : DS) : Prop := DiskC.Good s.fs ∧ s.count ≤ 700000 * i + 70000 ∧ L.length ≤ 4200000 + 100 * i
theorem Bnd.next {i : Nat} {L : List (List UInt8)} {s : DS} (h : Bnd i L s) : Bnd (i + 1) L s := ⟨h.1, by have := h.2.1; omega, by have := h.2.2; omega⟩
/-- what stands between two steps -/
def LS (B : Nat) (w0 w : World) (b y : Nat) (av bv : Value) (i : Nat) : Prop := ∃ cut L s, PS B w b y av bv cut L s ∧ Bnd i L s ∧ Below B w0 w
theorem empty_good : DiskC.Good [] := ⟨Nat.zero_le _, fun f h => by cases h⟩
theorem may_size {m : ByteArray} (h : mayB m = true) : m.size ≤ 128 := by unfold mayB at h; simp only [Bool.and_eq_true, decide_eq_true_eq] at h; exact h.2
theorem remove_code (cut : Int) (name : ByteArray) (s : DS) : (removeS cut name s).1 ≤ 6 := by
  unfold removeS; repeat' split
  all_goals (first | decide | omega)
theorem trunc_code (cut : Int) (name : ByteArray) (n : Int) (s : DS) : (truncS cut name n s).1 ≤ 6 := by
  unfold truncS; repeat' split
  all_goals (first | decide | omega)
theorem append_code (cut : Int) (name x : ByteArray) (s : DS) : (appendS cut name x s).1 ≤ 6 := by
  unfold appendS code5
  repeat' split
  all_goals simp
theorem drop_told (cut : Int) (n : Nat) : ∀ (l : List ByteArray) (s : DS), (∀ m ∈ l, mayB m = true) → (dropS cut n l s).1 ≤ 6 ∧ (dropS cut n l s).2.1.size ≤ 128
  | [], s, _ => ⟨Nat.zero_le _, by show (str []).size ≤ 128; decide⟩
  | m :: r, s, h => by
    unfold dropS
    split
    · split
      · exact drop_told cut n r _ (fun k hk => h k (List.mem_cons_of_mem _ hk))
      · exact ⟨remove_code cut m s, may_size (h m List.mem_cons_self)⟩
    · exact drop_told cut n r s (fun k hk => h k (List.mem_cons_of_mem _ hk))
theorem open_told (cut : Int) (s : DS) (hm : ∀ f ∈ s.fs, mayB f.1 = true) : (openS cut s).1 ≤ 6 ∧ (openS cut s).2.1.size ≤ 128 := by
  have hd := drop_told cut (lastN s.fs) (namesS s) s (fun m hm' => by
    unfold namesS at hm'
    split at hm'
    · cases hm'
    · obtain ⟨f, hf, rfl⟩ := List.mem_map.1 hm'; exact hm f hf)
  unfold openS
  split
  · exact ⟨by show 5 ≤ 6; omega, may_size (may_name 1)⟩
  · split
    · unfold tornS
      split
      · exact ⟨Nat.zero_le _, by show (str []).size ≤ 128; decide⟩
      · split
        · exact ⟨Nat.zero_le _, by show (str []).size ≤ 128; decide⟩
        · exact ⟨trunc_code _ _ _ _, may_size (may_name _)⟩
    · exact hd
theorem appendL_told (cut : Int) (pl : List UInt8) (L : List (List UInt8)) (br : Bool) (s : DS) : (appendL cut pl L br s).1 ≤ 6 ∧ (appendL cut pl L br s).2.1.size ≤ 128 := by
  unfold appendL
  split
  · exact ⟨by show 3 ≤ 6; omega, by show (str []).size ≤ 128; decide⟩
  · split
    · exact ⟨by show 4 ≤ 6; omega, by show (str []).size ≤ 128; decide⟩
    · split
      · exact ⟨Nat.zero_le _, by show (str []).size ≤ 128; decide⟩
      · exact ⟨append_code _ _ _ _, may_size (may_name _)⟩
theorem appendL_len (cut : Int) (pl : List UInt8) (L : List (List UInt8)) (br : Bool) (s : DS) : (appendL cut pl L br s).2.2.1.length ≤ L.length + 1 := by
  unfold appendL
  split
  · exact Nat.le_succ _
  · split
    · exact Nat.le_succ _
    · split
      · show (L ++ [pl]).length ≤ _; simp
      · exact Nat.le_succ _
theorem c_is {w0 w : World} {ev : Value} {c : Nat} {tx t2 : ByteArray} (h : DErr w0 w ev c tx) (ht : c ≠ 0 → t2 = tx) (hc : c ≤ 6 ∧ tx.size ≤ 128) (hv : VarsT w) :
    Calls Tryz.prog 8 #[ev, .int .i64 c, .string t2, .int .i64 (-1)] w fun e w' => e = .returned (.bool true) ∧ Below w.heap.size w w' := by
  by_cases hz : c = 0
  · subst hz
    obtain rfl := derr_nil h
    refine (is_nil t2 (-1) w).mono ?_
    rintro e w2 ⟨rfl, rfl⟩
    exact ⟨rfl, Below.refl _ _⟩
  · rw [ht hz]
    exact is_derr h (by omega) (by have := hc.2; omega) hv.vars
theorem PS.form {B : Nat} {w : World} {b y : Nat} {av bv : Value} {cut : Int} {L : List (List UInt8)} {s : DS} (h : PS B w b y av bv cut L s) : (av = .pointer none ∧ bv = .pointer none) ∨ ∃ p q, av = .pointer (some ⟨p, 0, none⟩) ∧ bv = .pointer (some ⟨q, 0, none⟩) := by
  rcases h with ⟨h1, h2, _⟩ | ⟨p, _, q, _, _, _, _, _, h1, h2, _⟩
  · exact .inl ⟨h1, h2⟩
  · exact .inr ⟨p, q, h1, h2⟩
theorem PS.may {B : Nat} {w : World} {b y : Nat} {av bv : Value} {cut : Int} {L : List (List UInt8)} {s : DS} (h : PS B w b y av bv cut L s) : (∀ f ∈ s.fs, mayB f.1 = true) ∧ Sorted s.fs := by
  obtain ⟨⟨F, v, hp⟩, _⟩ := h.two
  exact rp_form hp.rep

set_option maxRecDepth 100000 in
set_option maxHeartbeats 8000000 in
theorem lplays_some (cut : Int) (g o cap : Nat) (S : List Stp) (w : World) (h0 : 0 < S.length) (hg : g < w.heap.size) (hs : Steps w g o S) (hv : VarsT w) :
    Calls Tryz.prog 3 #[.int .i64 cut, .slice (some ⟨g, o, none⟩) S.length cap] w fun e w' => e = .returned (.bool true) ∧ Below w.heap.size w w' := by
  have HD := Lib.hid (DiskP.disk_dev w.heap.size)
  have HV := Lib.hid hv
  have HS := Lib.hid hs
  have HGG := Lib.hid hg
  have H0 := Lib.hid h0
  clear hv hs hg h0
  go_enter Tryz.func3, Tryz.ntmps3
  go_wp2_with fail
  refine (HD.out.new cut (Nat.le_refl _)).mono ?_
  rintro e w1 ⟨b, F, rfl, hr, hb, hF⟩
  have HN := Lib.hid (fun w2 h2 => pair_new (w2 := w2) rfl HV.out hr hb hF h2)
  clear hr hb hF
  go_wp2_with fail
  refine (dnew_any cut w1).mono ?_
  rintro e w2 ⟨rfl, h2⟩
  have HP := Lib.hid (HN.out w2 h2).1
  have HB := Lib.hid (HN.out w2 h2).2
  clear HN h2
  generalize w1.heap.size = y at *
  clear w1
  go_wp2_with fail
  refine (c_open1 HP.out empty_good (Nat.zero_le _)).mono ?_
  rintro e w3 ⟨av, ev, rfl, he, hm, hb⟩
  have HE := Lib.hid he
  have HMO := Lib.hid hm
  have HB3 := Lib.hid (HB.out.trans hb)
  clear he hm hb
  go_wp2_with fail
  refine (c_open2 HMO.out HE.out empty_good Sorted.nil (Nat.zero_le _)).mono ?_
  rintro e w4 ⟨bv, t2, rfl, ht2, hps, he, hb⟩
  have HPS := Lib.hid hps
  have HE4 := Lib.hid he
  have HB4 := Lib.hid (HB3.out.trans hb)
  clear hps he hb
  have HT2 := Lib.hid ht2
  clear ht2
  have HTL := Lib.hid (open_told cut ⟨[], 0, false⟩ (fun f h => by cases h))
  have HL0 : Hid (Bnd 0 (logS ⟨[], 0, false⟩) (openS cut ⟨[], 0, false⟩).2.2) := Lib.hid (by
    have h1 := open_good (cut := cut) (s := ⟨[], 0, false⟩) empty_good
    have h2 := log_len (s := ⟨[], 0, false⟩) empty_good
    have h3 := h1.2
    exact ⟨h1.1, by show _ ≤ 700000 * 0 + 70000; simp only at h3 ⊢; omega, by omega⟩)
  generalize openS cut ⟨[], 0, false⟩ = os at *
  generalize logS ⟨[], 0, false⟩ = ls at *
  go_upto_region 5 with fail
  go_cut [45] from 34 to 45 (fun v45 wx => v45 = .bool false ∧ Hid (PS w.heap.size wx b y av bv cut ls os.2.2) ∧ Hid (Below w.heap.size w wx))
  case first =>
    have HIS := Lib.hid (c_is HE4.out HT2.out HTL.out HPS.out.two.vars)
    rcases HPS.out.form with ⟨rfl, rfl⟩ | ⟨p, q, rfl, rfl⟩
    all_goals go_wp2_with (go_at_call 8; refine HIS.out.mono ?_; rintro e w5 ⟨rfl, hb5⟩)
    all_goals go_meet
    all_goals exact ⟨rfl, Lib.hid (HPS.out.below hb5), Lib.hid (HB4.out.trans (hb5.mono HB4.out.size))⟩
  case rest =>
    obtain ⟨rfl, HPS5, HB5⟩ := hcut
    go_wp2_with fail
    go_loopw [7, 8, 9, 10, 11, 12, 13, 14, 15, 16, 17, 18] (fun av _ bv _ _ vi _ _ _ _ _ _ wr => ∃ i : Nat, vi = .int .i64 i ∧ i ≤ S.length ∧ i ≤ 40 ∧ Hid (LS w.heap.size w wr b y av bv i)) (fun _ _ _ _ _ vi _ _ _ _ _ _ _ => 41 - (intOf vi).toNat)
    case atStart => exact ⟨0, rfl, Nat.zero_le _, by omega, Lib.hid ⟨_, _, _, HPS5.out, HL0.out, HB5.out⟩⟩
    case round =>
      obtain ⟨i, rfl, hi, hi2, HLS⟩ := hrel
      rename World => wr
      by_cases hlt : i < S.length
      · by_cases h40 : i < 40
        · have hdec : decide (i < S.length) = true := by simpa using hlt
          have hdec2 : decide ((i : Int) < 40) = true := by simpa using (by omega : (i : Int) < 40)
          obtain ⟨cut1, L, s, hps, hbn, hbw⟩ := HLS.out
          have hst := (HS.out i hlt).1.below hbw HGG.out
          have HX := Lib.hid (HS.out i hlt).2
          have c0 := hst.c0
          have c1 := hst.c1
          have c2 := hst.c2
          clear hst
          generalize S[i] = t at *
          obtain ⟨D, N, x⟩ := t
          dsimp only at *
          have hsx := str_size x
          have HPSR := Lib.hid hps
          have HBN := Lib.hid hbn
          have HBW := Lib.hid hbw
          clear hps hbn hbw HLS
          have hba : Below wr.heap.size wr (wr.alloc (.cells #[.int .i64 D, .int .i64 N, .string (str x)] 37)) := (Below.refl _ _).alloc (Nat.le_refl _) _
          have HPX := Lib.hid (HPSR.out.guard (.cells #[.int .i64 D, .int .i64 N, .string (str x)] 37))
          have HBA := Lib.hid (HBW.out.trans (hba.mono HBW.out.size))
          have HST : Hid (wr.heap.size < (wr.alloc (.cells #[.int .i64 D, .int .i64 N, .string (str x)] 37)).heap.size) := Lib.hid (by simp)
          clear hba
          by_cases hx4 : 4000 < x.length
          · have hdx : decide (4000 < (x.length : Int)) = true := decide_eq_true (by omega)
            go_wp2_with fail
            go_roundw
            case rel => exact ⟨i + 1, by go_num, by omega, by omega, Lib.hid ⟨cut1, L, s, HPX.out.ps, HBN.out.next, HBA.out⟩⟩
            case measure => simp [intOf]; omega
          · have hdx : decide (4000 < (x.length : Int)) = false := decide_eq_false (by omega)
            have HX4 : Hid (x.length ≤ 4000) := Lib.hid (by omega)
            clear hx4
            go_upto_block 2 with fail
            go_cut [7, 8, 9, 10, 11, 14, 15, 16, 17, 18] from 46 to 184 (fun v7 _ v9 _ _ _ _ _ _ _ wx => Hid (LS w.heap.size w wx b y v7 v9 (i + 1)))
            case first =>
              have hs0 : (wr.alloc (.cells #[.int .i64 D, .int .i64 N, .string (str x)] 37)).cell? ⟨wr.heap.size, 0, none⟩ = some (.int .i64 D) := by rw [World.cell?_alloc_at _ _ _ _ rfl]; rfl
              have hs1 : (wr.alloc (.cells #[.int .i64 D, .int .i64 N, .string (str x)] 37)).cell? ⟨wr.heap.size, 1, none⟩ = some (.int .i64 N) := by rw [World.cell?_alloc_at _ _ _ _ rfl]; rfl
              have hs2 : (wr.alloc (.cells #[.int .i64 D, .int .i64 N, .string (str x)] 37)).cell? ⟨wr.heap.size, 2, none⟩ = some (.string (str x)) := by rw [World.cell?_alloc_at _ _ _ _ rfl]; rfl
              generalize wr.alloc (.cells #[.int .i64 D, .int .i64 N, .string (str x)] 37) = wa at *
              generalize wr.heap.size = st at *
              clear c0 c1 c2
              by_cases hD0 : D = 0
              · subst hD0
                obtain ⟨m, hm1, hm2⟩ : ∃ m : Nat, max (1 : Int) (min N 70) = (m : Int) ∧ m ≤ 70 := ⟨(max (1 : Int) (min N 70)).toNat, by omega, by omega⟩
                go_wp2_with fail
                go_loopw [14, 15, 16, 17] (fun nv _ _ _ wx => ∃ n : Nat, nv = .int .i64 n ∧ n ≤ 70 ∧ Hid (∃ L2 s2, PSx st w.heap.size wx b y u7 u9 cut1 L2 s2 ∧ DiskC.Good s2.fs ∧ s2.count ≤ 700000 * i + 70000 + 5000 * n ∧ L2.length ≤ 4200000 + 100 * i + n ∧ Below w.heap.size w wx ∧ wx.heap[st]? = wa.heap[st]? ∧ st < wx.heap.size)) (fun nv _ _ _ _ => 71 - (intOf nv).toNat)
                case atStart => exact ⟨0, rfl, by omega, Lib.hid ⟨L, s, HPX.out, HBN.out.1, by have := HBN.out.2.1; omega, by have := HBN.out.2.2; omega, HBA.out, rfl, HST.out⟩⟩
                case round =>
                  obtain ⟨n, rfl, hn, HN⟩ := hrel
                  rename World => wx
                  obtain ⟨L2, s2, hx, hg2, hc2, hl2, hb2, hh2, hst2⟩ := HN.out
                  have hs1x : wx.cell? ⟨st, 1, none⟩ = some (.int .i64 N) := by rw [World.cell?_of_block (a := ⟨st, 1, none⟩) hh2]; exact hs1
                  have hs2x : wx.cell? ⟨st, 2, none⟩ = some (.string (str x)) := by rw [World.cell?_of_block (a := ⟨st, 2, none⟩) hh2]; exact hs2
                  have HPX2 := Lib.hid hx
                  have HG2 := Lib.hid hg2
                  have HC2 := Lib.hid hc2
                  have HL2 := Lib.hid hl2
                  have HB2 := Lib.hid hb2
                  have HH2 := Lib.hid hh2
                  have HST2 := Lib.hid hst2
                  have HEND : Hid (LS w.heap.size w wx b y u7 u9 (i + 1)) := Lib.hid ⟨cut1, L2, s2, hx.ps, ⟨hg2, by omega, by omega⟩, hb2⟩
                  clear hx hg2 hc2 hl2 hb2 hh2 hst2 HN
                  by_cases hnm : n < m
                  · have hdn : decide ((n : Int) < (m : Int)) = true := decide_eq_true (by omega)
                    have hdn' : decide (n < m) = true := decide_eq_true hnm
                    rcases HPX2.out.ps.form with ⟨rfl, rfl⟩ | ⟨p, q, rfl, rfl⟩
                    · go_wp2_with fail
                      go_meet
                      case rel => exact HEND
                    · go_wp2_with fail
                      refine (x_la1 x HPX2.out HST2.out HG2.out (by have := HC2.out; omega) (by have := HL2.out; omega) (by have := HX4.out; omega)).mono ?_
                      rintro e w6 ⟨ev3, br, rfl, he, hm, hh, hb⟩
                      have HM6 := Lib.hid hm
                      have HE6 := Lib.hid he
                      have HB6 := Lib.hid (HB2.out.trans hb)
                      have HH6 := Lib.hid (hh.trans HH2.out)
                      have hs26 : w6.cell? ⟨st, 2, none⟩ = some (.string (str x)) := by rw [World.cell?_of_block (a := ⟨st, 2, none⟩) hh]; exact hs2x
                      have HST6 : Hid (st < w6.heap.size) := Lib.hid (World.block_lt_of_cell? _ _ hs26)
                      clear hm he hh hb
                      go_wp2_with fail
                      refine (x_la2 HM6.out HE6.out HST6.out ⟨HG2.out.1, HG2.out.2, by have := HC2.out; omega⟩ (by have := HL2.out; omega) (by have := HX4.out; omega)).mono ?_
                      rintro e w7 ⟨rfl, hx7, ⟨lv, nb, hpl⟩, hq2, he7, hh7, hb7⟩
                      have HTOLD := Lib.hid (appendL_told cut1 x L2 br s2)
                      have HGD := Lib.hid (appendL_good (cut := cut1) (pl := x) (L := L2) (br := br) HG2.out)
                      have HLEN := Lib.hid (appendL_len cut1 x L2 br s2)
                      generalize appendL cut1 x L2 br s2 = r at *
                      obtain ⟨rc, rt, rl, rb, rs⟩ := r
                      dsimp only at *
                      have HE7 := Lib.hid he7
                      have HPX7 := Lib.hid hx7
                      have HPL7 := Lib.hid hpl
                      have HB7 := Lib.hid (HB6.out.trans hb7)
                      have HH7 := Lib.hid (hh7.trans HH6.out)
                      have HST7 : Hid (st < w7.heap.size) := Lib.hid (World.block_lt_of_cell? _ _ (show w7.cell? ⟨st, 2, none⟩ = some (.string (str x)) by rw [World.cell?_of_block (a := ⟨st, 2, none⟩) hh7]; exact hs26))
                      have hbd : Below w7.heap.size w7 w7.drew := ⟨rfl, rfl, rfl, Nat.le_refl _, fun _ _ => rfl⟩
                      have HED := Lib.hid (DErr.keeps he7 (Keeps.of_below (S := fun _ => False) hbd) (fun _ h => h.elim))
                      have HVD := Lib.hid ((hx7.ps.two.below hbd).vars)
                      have hqd : w7.drew.cell? ⟨q, 2, none⟩ = some (.bool rb) := hq2
                      have hqf := World.block_lt_of_cell? _ _ hq2
                      clear hx7 hpl he7 hh7 hb7 hbd
                      go_upto_region 20 with fail
                      go_region_held3 (fun w' => w'.cell? ⟨q, 2, none⟩ = some (.bool rb)) (first | exact hqd | exact hq2 | exact k11)
                        (first
                          | (go_at_call 8
                             refine (c_is HED.out (fun _ => rfl) HTOLD.out HVD.out).mono ?_
                             rintro e w8 ⟨rfl, hb⟩
                             have HB8 : Hid (Below w7.heap.size w7 w8) := Lib.hid ⟨hb.os, hb.tape, hb.output, hb.size, hb.block⟩
                             have k11 : w8.cell? ⟨q, 2, none⟩ = some (.bool rb) := by rw [hb.cell (by exact hqf)]; exact hqd
                             clear hb)
                          | (go_at_call 11
                             refine (broken_any (HPL7.out.below HB8.out)).mono ?_
                             rintro e w9 ⟨rfl, rfl⟩))
                      all_goals
                        go_wp2_with fail
                        go_roundw
                        case measure => simp [intOf]; omega
                        exact ⟨n + 1, by go_num, by omega, Lib.hid ⟨rl, rs, HPX7.out.below HB8.out, HGD.out.1, by have h1 := HGD.out.2; have h2 := HC2.out; have h3 := HX4.out; omega, by have h1 := HLEN.out; have h2 := HL2.out; omega, HB7.out.trans (HB8.out.mono HB7.out.size), (HB8.out.block st HST7.out).trans HH7.out, Nat.lt_of_lt_of_le HST7.out HB8.out.size⟩⟩
                  · have hdn : decide ((n : Int) < (m : Int)) = false := decide_eq_false (by omega)
                    have hdn' : decide (n < m) = false := decide_eq_false hnm
                    go_wp2_with fail
                    go_meet
                    case rel => exact HEND
              · have hd0 : (D == 0) = false := by rw [beq_eq_false_iff_ne]; exact hD0
                by_cases hD1 : D = 1
                · subst hD1
                  have hcs : s.count ≤ 549755000000 := by have := HBN.out.2.1; omega
                  go_wp2_with fail
                  refine (x_restart1 HPX.out HST.out N).mono ?_
                  rintro e w6 ⟨rfl, hm, hh, hb⟩
                  have HMR := Lib.hid hm
                  have HB6 := Lib.hid (HBA.out.trans hb)
                  have hs1 : w6.cell? ⟨st, 1, none⟩ = some (.int .i64 N) := by rw [World.cell?_of_block (a := ⟨st, 1, none⟩) hh]; exact hs1
                  clear hm hh hb
                  go_wp2_with fail
                  refine (c_restart2 HMR.out HBN.out.1).mono ?_
                  rintro e w7 ⟨rfl, hm, hb⟩
                  have HD7 := Lib.hid hm
                  have HB7 := Lib.hid (HB6.out.trans hb)
                  clear hm hb
                  go_wp2_with fail
                  refine (c_open1 HD7.out HBN.out.1 (Nat.zero_le _)).mono ?_
                  rintro e w8 ⟨av, ev2, rfl, he, hm, hb⟩
                  have HE8 := Lib.hid he
                  have HM8 := Lib.hid hm
                  have HB8 := Lib.hid (HB7.out.trans hb)
                  clear he hm hb
                  go_wp2_with fail
                  refine (c_open2 HM8.out HE8.out HBN.out.1 HPSR.out.may.2 (Nat.zero_le _)).mono ?_
                  rintro e w9 ⟨bv, t3, rfl, ht3, hps, he, hb⟩
                  have HPS9 := Lib.hid hps
                  have HE9 := Lib.hid he
                  have HB9 := Lib.hid (HB8.out.trans hb)
                  have HT3 := Lib.hid ht3
                  clear hps he hb ht3
                  have HTL2 := Lib.hid (open_told N ⟨s.fs, 0, false⟩ HPSR.out.may.1)
                  have HBE : Hid (Bnd (i + 1) (logS ⟨s.fs, 0, false⟩) (openS N ⟨s.fs, 0, false⟩).2.2) := Lib.hid (by
                    have h1 := open_good (cut := N) (s := ⟨s.fs, 0, false⟩) HBN.out.1
                    have h2 := log_len (s := ⟨s.fs, 0, false⟩) HBN.out.1
                    have h3 := h1.2
                    exact ⟨h1.1, by show _ ≤ 700000 * (i + 1) + 70000; simp only at h3 ⊢; omega, by omega⟩)
                  generalize openS N ⟨s.fs, 0, false⟩ = o2 at *
                  generalize logS ⟨s.fs, 0, false⟩ = l2 at *
                  have HIS := Lib.hid (c_is HE9.out HT3.out HTL2.out HPS9.out.two.vars)
                  rcases HPS9.out.form with ⟨rfl, rfl⟩ | ⟨p, q, rfl, rfl⟩
                  all_goals go_wp2_with (go_at_call 8; refine HIS.out.mono ?_; rintro e w10 ⟨rfl, hb10⟩)
                  all_goals go_meet
                  all_goals exact Lib.hid ⟨_, _, _, HPS9.out.below hb10, HBE.out, HB9.out.trans (hb10.mono HB9.out.size)⟩
                · have hd1 : (D == 1) = false := by rw [beq_eq_false_iff_ne]; exact hD1
                  have hcs : s.count ≤ 549755813888 := by have := HBN.out.2.1; omega
                  have hfit : Fit s := ⟨HBN.out.1.1, HBN.out.1.2, hcs⟩
                  have HFIT := Lib.hid hfit
                  have HCS := Lib.hid hcs
                  clear hfit hcs
                  by_cases hD2 : D = 2
                  · subst hD2
                    go_wp2_with (go_at_call 14; refine (file_any N _).mono ?_; rintro e w6 ⟨nm, rfl, -, hb⟩; have HPX6 := Lib.hid (HPX.out.below hb); have HB6 := Lib.hid (HBA.out.trans (hb.mono HBA.out.size)); have hs06 : w6.cell? ⟨st, 0, none⟩ = some (.int .i64 2) := (hb.cell HST.out).trans hs0; have hs26 : w6.cell? ⟨st, 2, none⟩ = some (.string (str x)) := (hb.cell HST.out).trans hs2; have HST6 : Hid (st < w6.heap.size) := Lib.hid (Nat.lt_of_lt_of_le HST.out hb.size); clear hb)
                    refine (x_append1 HPX6.out HST6.out HBN.out.1 HCS.out nm (str x)).mono ?_
                    rintro e w7 ⟨⟨ev3, rfl⟩, hm, hh, hb⟩
                    have HM7 := Lib.hid hm
                    have HB7 := Lib.hid (HB6.out.trans hb)
                    have hs27 : w7.cell? ⟨st, 2, none⟩ = some (.string (str x)) := by rw [World.cell?_of_block (a := ⟨st, 2, none⟩) hh]; exact hs26
                    have hs07 : w7.cell? ⟨st, 0, none⟩ = some (.int .i64 2) := by rw [World.cell?_of_block (a := ⟨st, 0, none⟩) hh]; exact hs06
                    clear hm hh hb
                    go_wp2_with fail
                    refine (c_append2 HM7.out HFIT.out (by rw [str_size]; exact HX4.out)).mono ?_
                    rintro e w8 ⟨⟨ev4, rfl⟩, hps, hb⟩
                    have HP8 := Lib.hid hps
                    have HB8 := Lib.hid (HB7.out.trans hb)
                    clear hps hb
                    go_wp2_with fail
                    go_meet
                    case rel =>
                      have h1 := append_good (cut := cut1) (name := nm) (x := str x) HBN.out.1
                      have h2 := HBN.out.2
                      have h3 := HX4.out
                      rw [str_size] at h1
                      exact Lib.hid ⟨cut1, L, _, HP8.out, ⟨h1.1, by have := h1.2; omega, by omega⟩, HB8.out⟩
                  · have hd2 : (D == 2) = false := by rw [beq_eq_false_iff_ne]; exact hD2
                    by_cases hD3 : D = 3
                    · subst hD3
                      go_wp2_with (go_at_call 14; refine (file_any N _).mono ?_; rintro e w6 ⟨nm, rfl, -, hb⟩; have HPX6 := Lib.hid (HPX.out.below hb); have HB6 := Lib.hid (HBA.out.trans (hb.mono HBA.out.size)); have hs06 : w6.cell? ⟨st, 0, none⟩ = some (.int .i64 3) := (hb.cell HST.out).trans hs0; have hs26 : w6.cell? ⟨st, 2, none⟩ = some (.string (str x)) := (hb.cell HST.out).trans hs2; have HST6 : Hid (st < w6.heap.size) := Lib.hid (Nat.lt_of_lt_of_le HST.out hb.size); clear hb)
                      refine (x_put1 HPX6.out HST6.out HBN.out.1 HCS.out nm (str x)).mono ?_
                      rintro e w7 ⟨⟨ev3, rfl⟩, hm, hh, hb⟩
                      have HM7 := Lib.hid hm
                      have HB7 := Lib.hid (HB6.out.trans hb)
                      have hs27 : w7.cell? ⟨st, 2, none⟩ = some (.string (str x)) := by rw [World.cell?_of_block (a := ⟨st, 2, none⟩) hh]; exact hs26
                      have hs07 : w7.cell? ⟨st, 0, none⟩ = some (.int .i64 3) := by rw [World.cell?_of_block (a := ⟨st, 0, none⟩) hh]; exact hs06
                      clear hm hh hb
                      go_wp2_with fail
                      refine (c_put2 HM7.out HFIT.out).mono ?_
                      rintro e w8 ⟨⟨ev4, rfl⟩, hps, hb⟩
                      have HP8 := Lib.hid hps
                      have HB8 := Lib.hid (HB7.out.trans hb)
                      clear hps hb
                      go_wp2_with fail
                      go_meet
                      case rel =>
                        have h1 := put_good (cut := cut1) (name := nm) (x := str x) HBN.out.1
                        have h2 := HBN.out.2
                        have h3 := HX4.out
                        rw [str_size] at h1
                        exact Lib.hid ⟨cut1, L, _, HP8.out, ⟨h1.1, by have := h1.2; omega, by omega⟩, HB8.out⟩
                    · have hd3 : (D == 3) = false := by rw [beq_eq_false_iff_ne]; exact hD3
                      go_wp2_with fail
                      go_meet
                      case rel => exact Lib.hid ⟨cut1, L, s, HPX.out.ps, HBN.out.next, HBA.out⟩
            case rest =>
              obtain ⟨cut2, L2, s2, hps, hbn, hbw⟩ := hcut.out
              clear hcut
              have HP2 := Lib.hid hps
              have HBN2 := Lib.hid hbn
              have HBW2 := Lib.hid hbw
              clear hps hbn hbw
              have hme : 41 - (i + 1) < 41 - i := by omega
              have HI1 := Lib.hid (show i + 1 ≤ S.length ∧ i + 1 ≤ 40 from ⟨hlt, h40⟩)
              have HPD : Hid (PS w.heap.size wc.drew b y u7 u9 cut2 L2 s2) := Lib.hid (HP2.out.below ⟨rfl, rfl, rfl, Nat.le_refl _, fun _ _ => rfl⟩)
              have HBD : Hid (Below w.heap.size w wc.drew) := Lib.hid (HBW2.out.trans ⟨rfl, rfl, rfl, Nat.le_refl _, fun _ _ => rfl⟩)
              have HL2 : Hid (L2.length ≤ 10000000) := Lib.hid (by have := HBN2.out.2.2; omega)
              have hcn : wc.drew.cell? ⟨y, 2, none⟩ = some (.int .i64 s2.count) := HPD.out.two.count
              have hcn0 : wc.cell? ⟨y, 2, none⟩ = some (.int .i64 s2.count) := HP2.out.two.count
              go_upto_region 38 with fail
              go_region_held3 (fun w' => w'.cell? ⟨y, 2, none⟩ = some (.int .i64 s2.count)) (first | exact hcn | exact hcn0 | exact k11 | exact k12 | exact k13)
                (first
                  | (go_at_call 19
                     refine (c_stands HPD.out HL2.out).mono ?_
                     rintro e w11 ⟨rfl, hp, hb⟩
                     have HP11 := Lib.hid hp
                     have k11 := hp.two.count
                     have HB11 := Lib.hid (HBD.out.trans (hb.mono HBD.out.size))
                     clear hp hb)
                  | (go_at_call 20
                     refine (c_writes HP11.out HBN2.out.1).mono ?_
                     rintro e w12 ⟨rfl, hp, hb⟩
                     have HP12 := Lib.hid hp
                     have k12 := hp.two.count
                     have HB12 := Lib.hid (HB11.out.trans (hb.mono HB11.out.size))
                     clear hp hb)
                  | (go_at_call 21
                     refine (c_files HP12.out HBN2.out.1).mono ?_
                     rintro e w13 ⟨rfl, hp, hb⟩
                     have HP13 := Lib.hid hp
                     have k13 := hp.two.count
                     have HB13 := Lib.hid (HB12.out.trans (hb.mono HB12.out.size))
                     clear hp hb))
              all_goals
                go_wp2_with fail
                go_roundw
                case measure => simp [intOf]; omega
                exact ⟨i + 1, by go_num, HI1.out.1, HI1.out.2, Lib.hid ⟨cut2, L2, s2, HP13.out, HBN2.out, HB13.out⟩⟩
        · have hdec : decide (i < S.length) = true := by simpa using hlt
          have hdec2 : decide ((i : Int) < 40) = false := by simpa using (by omega : ¬ (i : Int) < 40)
          obtain ⟨cut1, L, s, hps, hbn, hbw⟩ := HLS.out
          have HPS6 := Lib.hid hps
          have HB6 := Lib.hid hbw
          clear hps hbw hbn
          go_wp2_with fail
          refine (lalive_any wr HPS6.out.two.vars).mono ?_
          rintro e w6 ⟨rfl, hb⟩
          have HB7 := Lib.hid (HB6.out.trans (hb.mono HB6.out.size))
          clear hb
          go_wp2_with fail
          go_ret
          exact ⟨rfl, HB7.out⟩
      · have hdec : decide (i < S.length) = false := by simpa using hlt
        obtain ⟨cut1, L, s, hps, hbn, hbw⟩ := HLS.out
        have HPS6 := Lib.hid hps
        have HB6 := Lib.hid hbw
        clear hps hbw hbn
        go_wp2_with fail
        refine (lalive_any wr HPS6.out.two.vars).mono ?_
        rintro e w6 ⟨rfl, hb⟩
        have HB7 := Lib.hid (HB6.out.trans (hb.mono HB6.out.size))
        clear hb
        go_wp2_with fail
        go_ret
        exact ⟨rfl, HB7.out⟩
set_option maxRecDepth 100000 in
set_option maxHeartbeats 8000000 in
theorem lplays_none (cut : Int) (a : Option Addr) (cap : Nat) (w : World) (hv : VarsT w) :
    Calls Tryz.prog 3 #[.int .i64 cut, .slice a 0 cap] w fun e w' => e = .returned (.bool true) ∧ Below w.heap.size w w' := by
  have HD := Lib.hid (DiskP.disk_dev w.heap.size)
  have HV := Lib.hid hv
  clear hv
  go_enter Tryz.func3, Tryz.ntmps3
  go_wp2_with fail
  refine (HD.out.new cut (Nat.le_refl _)).mono ?_
  rintro e w1 ⟨b, F, rfl, hr, hb, hF⟩
  have HN := Lib.hid (fun w2 h2 => pair_new (w2 := w2) rfl HV.out hr hb hF h2)
  clear hr hb hF
  go_wp2_with fail
  refine (dnew_any cut w1).mono ?_
  rintro e w2 ⟨rfl, h2⟩
  have HP := Lib.hid (HN.out w2 h2).1
  have HB := Lib.hid (HN.out w2 h2).2
  clear HN h2
  generalize w1.heap.size = y at *
  clear w1
  go_wp2_with fail
  refine (c_open1 HP.out empty_good (Nat.zero_le _)).mono ?_
  rintro e w3 ⟨av, ev, rfl, he, hm, hb⟩
  have HE := Lib.hid he
  have HMO := Lib.hid hm
  have HB3 := Lib.hid (HB.out.trans hb)
  clear he hm hb
  go_wp2_with fail
  refine (c_open2 HMO.out HE.out empty_good Sorted.nil (Nat.zero_le _)).mono ?_
  rintro e w4 ⟨bv, t2, rfl, ht2, hps, he, hb⟩
  have HPS := Lib.hid hps
  have HE4 := Lib.hid he
  have HB4 := Lib.hid (HB3.out.trans hb)
  clear hps he hb
  have HT2 := Lib.hid ht2
  clear ht2
  have HTL := Lib.hid (open_told cut ⟨[], 0, false⟩ (fun f h => by cases h))
  generalize openS cut ⟨[], 0, false⟩ = os at *
  generalize logS ⟨[], 0, false⟩ = ls at *
  have HIS := Lib.hid (c_is HE4.out HT2.out HTL.out HPS.out.two.vars)
  rcases HPS.out.form with ⟨rfl, rfl⟩ | ⟨p, q, rfl, rfl⟩
  all_goals
    go_wp2_with (go_at_call 8; refine HIS.out.mono ?_; rintro e w5 ⟨rfl, hb5⟩)
    have HV5 := Lib.hid (HPS.out.below hb5).two.vars
    have HB5 := Lib.hid (HB4.out.trans (hb5.mono HB4.out.size))
    refine wp_loop_rounds 1 ?_
    rw [rounds_succ]
    go_wp2_with fail
    refine (lalive_any _ HV5.out).mono ?_
    rintro e w6 ⟨rfl, hb6⟩
    have HB6 := Lib.hid (HB5.out.trans (hb6.mono HB5.out.size))
    go_wp2_with fail
    go_ret
    exact ⟨rfl, HB6.out⟩
def intL : Lit → Int
  | .int _ n => n
  | _ => 0
def txtL : Lit → List UInt8
  | .string s => s
  | _ => []
def stpOf (row : List Lit) : Stp := ⟨intL (row.getD 0 .nil), intL (row.getD 1 .nil), txtL (row.getD 2 .nil)⟩
theorem row_step {row : List Lit} (h : Frame.RowOf [.int .i64, .int .i64, .text] row) (hS : ∀ l ∈ row, ∀ s, l = .string s → s.length ≤ 140737488351232) : (stpOf row).x.length ≤ 281474976710656 ∧ (row.getD 0 .nil).value = .int .i64 (stpOf row).D ∧ (row.getD 1 .nil).value = .int .i64 (stpOf row).N ∧ (row.getD 2 .nil).value = .string (str (stpOf row).x) := by
  obtain ⟨hl, hf⟩ := h
  match row, hl, hf, hS with
  | [a, b, c], _, hf, hS =>
    obtain ⟨n, rfl, hn⟩ := hf 0 (.int .i64) a rfl rfl
    obtain ⟨m, rfl, hm⟩ := hf 1 (.int .i64) b rfl rfl
    obtain ⟨t, rfl, ht⟩ := hf 2 .text c rfl rfl
    have l2 : t.data.toList.length ≤ 140737488351232 := hS (.string t.data.toList) (by simp) _ rfl
    exact ⟨by show t.data.toList.length ≤ _; omega, rfl, rfl, rfl⟩
theorem rows_steps {w : World} {x : Addr} {len cap : Nat} {z : List (List Lit)} (hl : len ≤ cap) (hz : z.length = cap) (hr : ∀ row ∈ z, Frame.RowOf [.int .i64, .int .i64, .text] row) (hS : Frame.Short z)
    (hc : ∀ i, i < cap → ∀ j, j < 3 → w.cell? (x.add (i * 3 + j)) = some ((z.getD i []).getD j .nil).value) (h0 : 0 < len) :
    ∃ g o, x = ⟨g, o, none⟩ ∧ g < w.heap.size ∧ ((z.take len).map stpOf).length = len ∧ Steps w g o ((z.take len).map stpOf) := by
  obtain ⟨g, o, spot⟩ := x
  have hspot : spot = none := by simpa [Addr.add] using World.cell?_spot (hc 0 (by omega) 0 (by omega))
  subst hspot
  have hb : g < w.heap.size := World.block_lt_of_cell? _ _ (by simpa [Addr.add] using hc 0 (by omega) 0 (by omega))
  have hlen : ((z.take len).map stpOf).length = len := by rw [List.length_map, List.length_take]; omega
  refine ⟨g, o, rfl, hb, hlen, fun i hi => ?_⟩
  have hi' : i < len := by omega
  have hiz : i < z.length := by omega
  have e : ((z.take len).map stpOf)[i] = stpOf z[i] := by simp
  rw [e]
  have hg : z.getD i [] = z[i] := by simp [List.getD, hiz]
  obtain ⟨hF, v0, v1, v2⟩ := row_step (hr z[i] (List.getElem_mem hiz)) (hS z[i] (List.getElem_mem hiz))
  have hcell : ∀ j, j < 3 → w.cell? ⟨g, o + (i * 3 + j), none⟩ = some (z[i].getD j .nil).value := fun j hj => by
    have := hc i (by omega) j hj
    rw [hg] at this
    rw [← Go.WideShapes.add_plain]
    exact this
  refine ⟨⟨?_, ?_, ?_⟩, hF⟩
  · have := hcell 0 (by omega); rw [v0] at this; exact this
  · have := hcell 1 (by omega); rw [v1] at this; exact this
  · have := hcell 2 (by omega); rw [v2] at this; exact this
end LogP
end Go.Proofs.YtlnbjlidakdmlaaGreatDoor
