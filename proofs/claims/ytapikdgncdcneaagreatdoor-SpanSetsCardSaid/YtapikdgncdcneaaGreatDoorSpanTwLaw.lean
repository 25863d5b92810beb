/-
  The laws SpanTexts and SpanHas (layer 8), walked.
-/
import Derived.Test.YtapikdgncdcneaaGreatDoorSpanTwin
import Derived.Test.YtapikdgncdcneaaGreatDoorSpanRefP
namespace Go.Proofs.YtapikdgncdcneaaGreatDoor
open Go.RowKit
namespace SpanC
open VerM VerC StrC TextR SpanArg
set_option linter.unusedSimpArgs false
set_option linter.unusedVariables false

/-! ### what is alike but for where the texts lie -/
theorem strip_st (x : IvG) : (toSt (strip x)).st = (toSt x).st := by
  obtain ⟨lv, la, lc, lo, hv, ha, hc, ho, e⟩ := x
  cases e <;> rfl
theorem strip_right (x : IvG) : rightB (strip x) = rightB x := rfl
theorem strip_map {A C : List IvG} (h : A.map strip = C.map strip) : A.length = C.length := by
  have := congrArg List.length h
  simpa using this
theorem strip_at {A C : List IvG} (h : A.map strip = C.map strip) (i : Nat) : strip A[i]! = strip C[i]! := by
  have e : ∀ L : List IvG, strip L[i]! = (L.map strip)[i]! := by
    intro L
    rw [List.getElem!_eq_getElem?_getD, List.getElem!_eq_getElem?_getD, List.getElem?_map]
    cases L[i]? <;> rfl
  rw [e A, e C, h]
theorem strip_spanM {A C : List IvG} (h : A.map strip = C.map strip) : spanM A = spanM C := by
  have e : ∀ L : List IvG, spanM L = (L.map strip).map (fun x => (toSt x).st) := by
    intro L
    unfold spanM
    rw [List.map_map]
    apply List.map_congr_left
    intro x _
    exact (strip_st x).symm
  rw [e A, e C, h]
theorem strip_good {A C : List IvG} (h : A.map strip = C.map strip) (i : Nat) : goodAt A i = goodAt C i := by
  have h1 := strip_at h i
  have h2 := strip_at h (i - 1)
  have r : rightB A[i]! = rightB C[i]! := by rw [← strip_right, h1, strip_right]
  have s : (toSt A[i]!).st = (toSt C[i]!).st := by rw [← strip_st, h1, strip_st]
  have s2 : (toSt A[i - 1]!).st = (toSt C[i - 1]!).st := by rw [← strip_st, h2, strip_st]
  unfold goodAt
  have t1 : (toSt A[i - 1]!).t.ed = (toSt C[i - 1]!).t.ed := congrArg SpanM.St.t s2
  have t2 : (toSt A[i]!).f.ed = (toSt C[i]!).f.ed := congrArg SpanM.St.f s
  rw [r, s, t1, t2]
theorem strip_span {A C : List IvG} (h : A.map strip = C.map strip) : spanB A = spanB C := by
  unfold spanB
  rw [strip_map h]
  congr 1
  have e : goodAt A = goodAt C := funext (strip_good h)
  rw [e]
theorem strip_same {A C : List IvG} (h : A.map strip = C.map strip) : ∀ (i : Nat) (x y : IvG), A[i]? = some x → C[i]? = some y → SameI x y := by
  intro i x y hx hy
  have h1 : (A.map strip)[i]? = some (strip x) := by rw [List.getElem?_map, hx]; rfl
  have h2 : (C.map strip)[i]? = some (strip y) := by rw [List.getElem?_map, hy]; rfl
  rw [h, h2] at h1
  have e := Option.some.inj h1
  have e1 := congrArg IvG.lv e
  have e2 := congrArg IvG.lo e
  have e3 := congrArg IvG.hv e
  have e4 := congrArg IvG.ho e
  have e5 := congrArg IvG.e e
  exact ⟨e1.symm, e2.symm, e3.symm, e4.symm, e5.symm⟩
theorem outO_is (o : Option B) : ∃ (t : B) (n : Int), outO o = .returned (.tuple #[.string (str t), .int .i64 n]) := by
  cases o with
  | none => exact ⟨[], 80, rfl⟩
  | some t => exact ⟨t, 0, rfl⟩

/-! ### SpanTexts -/
set_option maxHeartbeats 2000000 in
set_option maxRecDepth 100000 in
theorem texts_law (a : Option Addr) (cp : Nat) (L : List IvG) (w : World) (hv : Vw w) (hA : IArg w a L) :
    Calls Tryz.prog 3 #[.slice a L.length cp] w fun e w' => e = .returned (.bool true) ∧ Below w.heap.size w w' := by
  have HV := Lib.hid hv
  generalize hbb : decide (40 < (L.length : Int)) = bb
  cases bb
  rotate_left
  · have hbb' : decide (40 < L.length) = true := decide_eq_true (by have := of_decide_eq_true hbb; omega)
    clear hA
    go_enter Tryz.func3, Tryz.ntmps3
    go_wp2_with (go_at_call 6; refine (alive_any _ HV.out).mono ?_; rintro e w' ⟨rfl, hb⟩)
    go_ret
    exact ⟨rfl, hb⟩
  have hlt : L.length ≤ 40 := by have := of_decide_eq_false hbb; omega
  have HT := Lib.hid (twin_any a cp L w hA (by omega))
  have HA := Lib.hid hA
  obtain ⟨t, n, hO⟩ := outO_is (textO L)
  have HO := Lib.hid hO
  have HD : Hid (∀ w', Below w.heap.size w w' → Calls Tryz.prog 10 #[.slice a L.length cp] w' fun e w'' => e = .returned (.tuple #[.string (str t), .int .i64 n]) ∧ Below w'.heap.size w' w'') := Lib.hid (fun w' g => (rText8_any (K := False) a cp L w' (hA.gr g).rarg (by omega)).mono fun e w'' h => ⟨h.1.trans HO.out, h.2⟩)
  have HM := Lib.hid (fun w' (g : Below w.heap.size w w') => rMay8_any (K := False) a cp L w' (hA.gr g).rarg (by omega))
  have HL := Lib.hid hlt
  have hmay : mayC L = 0 ∨ mayC L = 80 := by unfold mayC; split <;> simp
  have HMC : Hid (spanB L = decide (mayC L = 0)) := Lib.hid (by unfold mayC; cases spanB L <;> rfl)
  have heq : ((str t).toList == (str t).toList) = true := by simp
  have hnn : (n == n) = true := by simp
  clear hA hO hlt
  go_enter Tryz.func3, Tryz.ntmps3
  go_wp2_with (go_at_call 7; refine HT.out.mono ?_; rintro e w1 ⟨a', cp', L', rfl, hlen, hst, harg, hb1⟩; refine Hid.out ?_)
  refine Lib.hid ?_
  have HB1 := Lib.hid hb1
  have HG := Lib.hid harg
  have HP : Hid (∀ w', Below w1.heap.size w1 w' → Calls Tryz.prog 8 #[.slice a' L.length cp'] w' fun e w'' => e = .returned (.int .i64 (mayC L)) ∧ Below w'.heap.size w' w'') := Lib.hid (fun w' g => by
    have h := pMayS_any a' cp' L' w' (harg.below g)
    rw [hlen] at h
    have e : mayC L' = mayC L := by unfold mayC; rw [strip_span hst]
    rw [e] at h; exact h)
  have HTX : Hid (∀ w', Below w1.heap.size w1 w' → Calls Tryz.prog 9 #[.slice a' L.length cp'] w' fun e w'' => e = .returned (.tuple #[.string (str t), .int .i64 n]) ∧ Below w'.heap.size w' w'') := Lib.hid (fun w' g => by
    have h := pTextS_any a' cp' L' w' (HV.out.gr (HB1.out.trans (g.mono HB1.out.size))) (harg.below g)
    rw [hlen] at h
    have e : textO L' = textO L := by unfold textO; rw [strip_span hst, strip_spanM hst]
    rw [e, HO.out] at h; exact h)
  have HSA : Hid (∀ w', Below w1.heap.size w1 w' → Calls Tryz.prog 12 #[.slice a' L.length cp', .slice a L.length cp] w' fun e w'' => e = .returned (.bool true) ∧ Below w'.heap.size w' w'') := Lib.hid (fun w' g => by
    have h := rsameR_yes (K := False) a' cp' L' a cp L w' (harg.below g).rarg (HA.out.gr (HB1.out.trans (g.mono HB1.out.size))).rarg (by have := HL.out; omega) hlen (strip_same hst)
    rw [hlen] at h; exact h)
  clear hb1 harg hlen hst HT
  rw [HMC.out] at HM
  generalize mayC L = mc at *
  go_wp2_with (go_at_call 8; refine (HP.out w1 (Below.refl _ _)).mono ?_; rintro e w2 ⟨rfl, hb2⟩; have HB2 := Lib.hid hb2; clear hb2)
  go_wp2_with (go_at_call 9; refine (HTX.out w2 HB2.out).mono ?_; rintro e w3 ⟨rfl, hb3⟩; have HB3 := Lib.hid (HB2.out.trans (hb3.mono HB2.out.size)); clear hb3)
  go_wp2_with (go_at_call 10; refine (HD.out w3 (HB1.out.trans (HB3.out.mono HB1.out.size))).mono ?_; rintro e w4 ⟨rfl, hb4⟩; have HB4 := Lib.hid (HB3.out.trans (hb4.mono HB3.out.size)); clear hb4)
  rcases hmay with rfl | rfl
  all_goals
    go_wp2_with (first
      | (go_at_call 11; refine (HM.out w4 (HB1.out.trans (HB4.out.mono HB1.out.size))).mono ?_; rintro e w5 ⟨rfl, hb5⟩; have HB5 := Lib.hid (HB4.out.trans (hb5.mono HB4.out.size)); clear hb5)
      | (go_at_call 12; refine (HSA.out w5 HB5.out).mono ?_; rintro e w6 ⟨rfl, hb6⟩; have HB6 := Lib.hid (HB5.out.trans (hb6.mono HB5.out.size)); clear hb6)
      | (go_at_call 6; refine (alive_any _ (HV.out.gr (HB1.out.trans (HB6.out.mono HB1.out.size)))).mono ?_; rintro e w7 ⟨rfl, hb7⟩; have HB7 := Lib.hid (HB6.out.trans (hb7.mono HB6.out.size)); clear hb7))
    go_ret
    exact ⟨rfl, HB1.out.trans (HB7.out.mono HB1.out.size)⟩

/-! ### SpanHas -/
theorem hasOut_is {A C : List IvG} (h : A.map strip = C.map strip) (y : Ver) : hasOut A y = hasOut C y := by unfold hasOut; rw [strip_span h, strip_spanM h]
theorem has_twin {a' : Option Addr} {cp' : Nat} {L' L : List IvG} {y : Ver} {b : Option Addr} {c : Nat} {W : World} {E : Ending} (hlen : L'.length = L.length) (hst : L'.map strip = L.map strip) (harg : IvArg W a' L') (hy : Txs W b c y.pre) (hE : hasOut L y = E) :
    Calls Tryz.prog 13 #[.slice a' L.length cp', verV y.a y.b y.c b y.pre.length c] W fun e w' => e = E ∧ Below W.heap.size W w' := by
  have h := pHasX_any a' cp' L' y b c W harg hy
  rw [hlen, hasOut_is hst, hE] at h
  exact h
set_option maxHeartbeats 2000000 in
set_option maxRecDepth 100000 in
theorem has_law (a : Option Addr) (cp : Nat) (L : List IvG) (y : Ver) (b : Option Addr) (c : Nat) (w : World) (hv : Vw w) (hA : IArg w a L) (hy : Txs w b c y.pre) :
    Calls Tryz.prog 4 #[.slice a L.length cp, verV y.a y.b y.c b y.pre.length c] w fun e w' => e = .returned (.bool true) ∧ Below w.heap.size w w' := by
  have HV := Lib.hid hv
  have hnew := heap_alloc_new w (verO y.a y.b y.c b y.pre.length c)
  have HB0 := Lib.hid ((Below.refl _ w).alloc (Nat.le_refl _) (verO y.a y.b y.c b y.pre.length c))
  generalize hbb : decide (40 < (L.length : Int)) = bb
  cases bb
  rotate_left
  · have hbb' : decide (40 < L.length) = true := decide_eq_true (by have := of_decide_eq_true hbb; omega)
    clear hA hy
    go_enter Tryz.func4, Tryz.ntmps4
    go_wp2_with (go_at_call 6; refine (alive_any _ (HV.out.gr HB0.out)).mono ?_; rintro e w' ⟨rfl, hb⟩)
    go_ret
    exact ⟨rfl, HB0.out.trans (hb.mono HB0.out.size)⟩
  have hlt : L.length ≤ 40 := by have := of_decide_eq_false hbb; omega
  have HM := Lib.hid (fun w' (g : Below w.heap.size w w') => rMay8_any (K := False) a cp L w' (hA.gr g).rarg (by omega))
  have HVM := Lib.hid (fun w' (g : Below w.heap.size w w') => rmay_any y b c w' (hy.gr g))
  have HY := Lib.hid hy
  have HRH := Lib.hid (fun w' (g : Below w.heap.size w w') (hs : spanB L = true) (hm : may y = true) => rHas_any (K := False) a cp L y b c w' (hA.gr g).rarg (spanB_right hs) (by have := spanB_len hs; omega) ⟨hy.gr g, fun k => k.elim⟩ hm)
  have HTW := Lib.hid (fun w' (g : Below w.heap.size w w') => twin_any a cp L w' (hA.gr g) (by omega))
  clear hlt hA hy
  have hlt1 : w.heap.size < (w.alloc (verO y.a y.b y.c b y.pre.length c)).heap.size := by simp
  obtain ⟨q0, q1, q2, q3⟩ := ver_cells hnew
  have HKS : Hid (∀ w', Below (w.alloc (verO y.a y.b y.c b y.pre.length c)).heap.size (w.alloc (verO y.a y.b y.c b y.pre.length c)) w' → w'.cell? ⟨w.heap.size, 0, none⟩ = some (.int .u32 y.a) ∧ w'.cell? ⟨w.heap.size, 1, none⟩ = some (.int .u32 y.b) ∧ w'.cell? ⟨w.heap.size, 2, none⟩ = some (.int .u32 y.c) ∧ w'.cell? ⟨w.heap.size, 3, none⟩ = some (.slice b y.pre.length c)) := Lib.hid (fun w' h => ver_cells ((h.block _ hlt1).trans hnew))
  clear hnew hlt1
  rcases Bool.eq_false_or_eq_true (spanB L) with hs | hs
  rotate_left
  · -- no span
    have HE : Hid (hasOut L y = .returned (.tuple #[.bool false, .int .i64 80])) := Lib.hid (by unfold hasOut; rw [hs]; rfl)
    rw [hs] at HM
    clear HVM HRH hs
    go_enter Tryz.func4, Tryz.ntmps4
    go_upto_region 3 with fail
    generalize w.alloc (verO y.a y.b y.c b y.pre.length c) = w1 at *
    have HD1 : Hid (Below w1.heap.size w1 w1.drew) := Lib.hid ((Gr.refl w1).drew).below
    have HG1 : Hid (∀ w', Below w1.heap.size w1 w' → Below w.heap.size w w') := Lib.hid (fun w' g => HB0.out.trans (g.mono HB0.out.size))
    go_region_held3 (fun w' => w'.cell? ⟨w.heap.size, 0, none⟩ = some (.int .u32 y.a) ∧ w'.cell? ⟨w.heap.size, 1, none⟩ = some (.int .u32 y.b) ∧ w'.cell? ⟨w.heap.size, 2, none⟩ = some (.int .u32 y.c) ∧ w'.cell? ⟨w.heap.size, 3, none⟩ = some (.slice b y.pre.length c))
      (first | exact ⟨q0, q1, q2, q3⟩ | assumption)
      (first
        | (go_at_call 7; refine (HTW.out w1.drew (HG1.out _ HD1.out)).mono ?_; rintro e w2 ⟨a', cp', L', rfl, hlen, hst, harg, hb2⟩; have hS2 := HKS.out w2 (HD1.out.trans (hb2.mono HD1.out.size)); have HB2 : Hid (Below w1.heap.size w1 w2) := Lib.hid (HD1.out.trans (hb2.mono HD1.out.size)); have HC := Lib.hid (has_twin (cp' := cp') hlen hst harg (HY.out.gr (HG1.out _ HB2.out)) HE.out); clear hlen hst harg hb2)
        | (go_at_call 13; refine HC.out.mono ?_; rintro e w3 ⟨rfl, hb3⟩; have hS3 := HKS.out w3 (HB2.out.trans (hb3.mono HB2.out.size)); have HB3 : Hid (Below w1.heap.size w1 w3) := Lib.hid (HB2.out.trans (hb3.mono HB2.out.size)); clear hb3))
    all_goals clear hS2 hS3 q0 q1 q2 q3
    all_goals
      go_wp2_with (first
        | (go_at_call 11; refine (HM.out w3 (HG1.out _ HB3.out)).mono ?_; rintro e w4 ⟨rfl, hb4⟩; have HB4 : Hid (Below w1.heap.size w1 w4) := Lib.hid (HB3.out.trans (hb4.mono HB3.out.size)); clear hb4)
        | (go_at_call 6; refine (alive_any _ (HV.out.gr (HG1.out _ HB4.out))).mono ?_; rintro e w9 ⟨rfl, hb9⟩))
      go_ret
      exact ⟨rfl, HG1.out _ (HB4.out.trans (hb9.mono HB4.out.size))⟩
  rcases Bool.eq_false_or_eq_true (may y) with hm | hm
  rotate_left
  · -- no version
    have HE : Hid (hasOut L y = .returned (.tuple #[.bool false, .int .i64 70])) := Lib.hid (by unfold hasOut; rw [hs, hm]; rfl)
    rw [hs] at HM
    rw [hm] at HVM
    clear HRH hs hm
    go_enter Tryz.func4, Tryz.ntmps4
    go_upto_region 3 with fail
    generalize w.alloc (verO y.a y.b y.c b y.pre.length c) = w1 at *
    have HD1 : Hid (Below w1.heap.size w1 w1.drew) := Lib.hid ((Gr.refl w1).drew).below
    have HG1 : Hid (∀ w', Below w1.heap.size w1 w' → Below w.heap.size w w') := Lib.hid (fun w' g => HB0.out.trans (g.mono HB0.out.size))
    go_region_held3 (fun w' => w'.cell? ⟨w.heap.size, 0, none⟩ = some (.int .u32 y.a) ∧ w'.cell? ⟨w.heap.size, 1, none⟩ = some (.int .u32 y.b) ∧ w'.cell? ⟨w.heap.size, 2, none⟩ = some (.int .u32 y.c) ∧ w'.cell? ⟨w.heap.size, 3, none⟩ = some (.slice b y.pre.length c))
      (first | exact ⟨q0, q1, q2, q3⟩ | assumption)
      (first
        | (go_at_call 7; refine (HTW.out w1.drew (HG1.out _ HD1.out)).mono ?_; rintro e w2 ⟨a', cp', L', rfl, hlen, hst, harg, hb2⟩; have hS2 := HKS.out w2 (HD1.out.trans (hb2.mono HD1.out.size)); have HB2 : Hid (Below w1.heap.size w1 w2) := Lib.hid (HD1.out.trans (hb2.mono HD1.out.size)); have HC := Lib.hid (has_twin (cp' := cp') hlen hst harg (HY.out.gr (HG1.out _ HB2.out)) HE.out); clear hlen hst harg hb2)
        | (go_at_call 13; refine HC.out.mono ?_; rintro e w3 ⟨rfl, hb3⟩; have hS3 := HKS.out w3 (HB2.out.trans (hb3.mono HB2.out.size)); have HB3 : Hid (Below w1.heap.size w1 w3) := Lib.hid (HB2.out.trans (hb3.mono HB2.out.size)); clear hb3))
    all_goals clear hS2 hS3 q0 q1 q2 q3
    all_goals
      go_wp2_with (first
        | (go_at_call 11; refine (HM.out w3 (HG1.out _ HB3.out)).mono ?_; rintro e w4 ⟨rfl, hb4⟩; have HB4 : Hid (Below w1.heap.size w1 w4) := Lib.hid (HB3.out.trans (hb4.mono HB3.out.size)); clear hb4; obtain ⟨q0, q1, q2, q3⟩ := HKS.out w4 HB4.out)
        | (go_at_call 14; refine (HVM.out w4 (HG1.out _ HB4.out)).mono ?_; rintro e w5 ⟨rfl, hg5⟩; have HB5 : Hid (Below w1.heap.size w1 w5) := Lib.hid (HB4.out.trans (hg5.below.mono HB4.out.size)); clear hg5 q0 q1 q2 q3)
        | (go_at_call 6; refine (alive_any _ (HV.out.gr (HG1.out _ HB5.out))).mono ?_; rintro e w9 ⟨rfl, hb9⟩))
      go_ret
      exact ⟨rfl, HG1.out _ (HB5.out.trans (hb9.mono HB5.out.size))⟩
  · -- both
    have HE : Hid (hasOut L y = .returned (.tuple #[.bool (hasL (spanM L) y), .int .i64 0])) := Lib.hid (by unfold hasOut; rw [hs, hm]; rfl)
    have HR2 := Lib.hid (fun w' g => HRH.out w' g hs hm)
    rw [hs] at HM
    rw [hm] at HVM
    clear HRH hs hm
    generalize hasL (spanM L) y = hb at *
    go_enter Tryz.func4, Tryz.ntmps4
    go_upto_region 3 with fail
    generalize w.alloc (verO y.a y.b y.c b y.pre.length c) = w1 at *
    have HD1 : Hid (Below w1.heap.size w1 w1.drew) := Lib.hid ((Gr.refl w1).drew).below
    have HG1 : Hid (∀ w', Below w1.heap.size w1 w' → Below w.heap.size w w') := Lib.hid (fun w' g => HB0.out.trans (g.mono HB0.out.size))
    go_region_held3 (fun w' => w'.cell? ⟨w.heap.size, 0, none⟩ = some (.int .u32 y.a) ∧ w'.cell? ⟨w.heap.size, 1, none⟩ = some (.int .u32 y.b) ∧ w'.cell? ⟨w.heap.size, 2, none⟩ = some (.int .u32 y.c) ∧ w'.cell? ⟨w.heap.size, 3, none⟩ = some (.slice b y.pre.length c))
      (first | exact ⟨q0, q1, q2, q3⟩ | assumption)
      (first
        | (go_at_call 7; refine (HTW.out w1.drew (HG1.out _ HD1.out)).mono ?_; rintro e w2 ⟨a', cp', L', rfl, hlen, hst, harg, hb2⟩; have hS2 := HKS.out w2 (HD1.out.trans (hb2.mono HD1.out.size)); have HB2 : Hid (Below w1.heap.size w1 w2) := Lib.hid (HD1.out.trans (hb2.mono HD1.out.size)); have HC := Lib.hid (has_twin (cp' := cp') hlen hst harg (HY.out.gr (HG1.out _ HB2.out)) HE.out); clear hlen hst harg hb2)
        | (go_at_call 13; refine HC.out.mono ?_; rintro e w3 ⟨rfl, hb3⟩; have hS3 := HKS.out w3 (HB2.out.trans (hb3.mono HB2.out.size)); have HB3 : Hid (Below w1.heap.size w1 w3) := Lib.hid (HB2.out.trans (hb3.mono HB2.out.size)); clear hb3))
    all_goals clear hS2 hS3 q0 q1 q2 q3
    all_goals
      have hbe : (hb == hb) = true := by cases hb <;> rfl
      go_wp2_with (first
        | (go_at_call 11; refine (HM.out w3 (HG1.out _ HB3.out)).mono ?_; rintro e w4 ⟨rfl, hb4⟩; have HB4 : Hid (Below w1.heap.size w1 w4) := Lib.hid (HB3.out.trans (hb4.mono HB3.out.size)); clear hb4; obtain ⟨q0, q1, q2, q3⟩ := HKS.out w4 HB4.out)
        | (go_at_call 14; refine (HVM.out w4 (HG1.out _ HB4.out)).mono ?_; rintro e w5 ⟨rfl, hg5⟩; have HB5 : Hid (Below w1.heap.size w1 w5) := Lib.hid (HB4.out.trans (hg5.below.mono HB4.out.size)); clear hg5 q0 q1 q2 q3; obtain ⟨q0, q1, q2, q3⟩ := HKS.out w5 HB5.out)
        | (go_at_call 15; refine (HR2.out w5 (HG1.out _ HB5.out)).mono ?_; rintro e w6 ⟨rfl, hb6⟩; have HB6 : Hid (Below w1.heap.size w1 w6) := Lib.hid (HB5.out.trans (hb6.mono HB5.out.size)); clear hb6 q0 q1 q2 q3)
        | (go_at_call 6; refine (alive_any _ (HV.out.gr (HG1.out _ HB6.out))).mono ?_; rintro e w9 ⟨rfl, hb9⟩))
      go_ret
      exact ⟨rfl, HG1.out _ (HB6.out.trans (hb9.mono HB6.out.size))⟩
end SpanC
end Go.Proofs.YtapikdgncdcneaaGreatDoor
