/-
  The statement of any two versions, compared, walked.
-/
import Derived.Test.YtcbgndpbkcjhnaaDoorVerTwin
import Derived.Test.YtcbgndpbkcjhnaaDoorVerLeast
import Derived.Deep.RegionHeld3
namespace Go.Proofs.YtcbgndpbkcjhnaaDoor
open Go.RowKit
namespace VerC
open VerM StrC TextR
set_option linter.unusedSimpArgs false

theorem rord_ord (a b : B) : rordE a b = ordE a b := rfl
def cmpT (v u : Ver) : Int := if may v && may u then cmpV v u else 0
def cmpC (v u : Ver) : Int := if may v && may u then 0 else 70
theorem cmpE_val (v u : Ver) : cmpE v u = .returned (.tuple #[.int .i64 (cmpT v u), .int .i64 (cmpC v u)]) := by
  unfold cmpE cmpT cmpC; split <;> rfl
set_option maxHeartbeats 8000000 in
set_option maxRecDepth 100000 in
theorem orders_any (v u : Ver) (a1 : Option Addr) (c1 : Nat) (a2 : Option Addr) (c2 : Nat) (s t : B) (w : World) (hv : Vw w) (hT1 : Arg w a1 c1 v.pre) (hT2 : Arg w a2 c2 u.pre) :
    Calls Tryd.prog 4 #[verV v.a v.b v.c a1 v.pre.length c1, verV u.a u.b u.c a2 u.pre.length c2, .string (str s), .string (str t)] w fun e w' => e = .returned (.bool true) ∧ Below w.heap.size w w' := by
  have hr1 := (heap_alloc_old (w.alloc (verO v.a v.b v.c a1 v.pre.length c1)) (verO u.a u.b u.c a2 u.pre.length c2) (r := w.heap.size) (by simp)).trans (heap_alloc_new w (verO v.a v.b v.c a1 v.pre.length c1))
  have hr2 := heap_alloc_new (w.alloc (verO v.a v.b v.c a1 v.pre.length c1)) (verO u.a u.b u.c a2 u.pre.length c2)
  have hs1 : (w.alloc (verO v.a v.b v.c a1 v.pre.length c1)).heap.size = w.heap.size + 1 := by simp
  rw [hs1] at hr2
  have hb0 : Below w.heap.size w ((w.alloc (verO v.a v.b v.c a1 v.pre.length c1)).alloc (verO u.a u.b u.c a2 u.pre.length c2)) := ((Below.refl _ w).alloc (Nat.le_refl _) _).alloc (by simp) _
  have hs2 : ((w.alloc (verO v.a v.b v.c a1 v.pre.length c1)).alloc (verO u.a u.b u.c a2 u.pre.length c2)).heap.size = w.heap.size + 2 := by simp
  have HA1 := Lib.hid (hT1.gr hb0)
  have HW1 := Lib.hid hT1
  have HW2 := Lib.hid hT2
  have HA2 := Lib.hid (hT2.gr hb0)
  have HB0 := Lib.hid hb0
  have HV := Lib.hid hv
  clear hv hT1 hT2 hb0 hs1
  go_enter Tryd.func4, Tryd.ntmps4
  go_wp2_with fail
  generalize (w.alloc (verO v.a v.b v.c a1 v.pre.length c1)).alloc (verO u.a u.b u.c a2 u.pre.length c2) = W at *
  obtain ⟨P0, P1, P2, P3⟩ := ver_cells hr1
  obtain ⟨Q0, Q1, Q2, Q3⟩ := ver_cells hr2
  have T1 := Lib.hid HV
  have HBD : Hid (Below w.heap.size w W.drew) := Lib.hid (below_drew HB0.out)
  go_region_held3 (fun w' => w'.cell? ⟨w.heap.size, 0, none⟩ = some (.int .u32 v.a) ∧ w'.cell? ⟨w.heap.size, 1, none⟩ = some (.int .u32 v.b) ∧ w'.cell? ⟨w.heap.size, 2, none⟩ = some (.int .u32 v.c) ∧ w'.cell? ⟨w.heap.size, 3, none⟩ = some (.slice a1 v.pre.length c1) ∧ w'.cell? ⟨w.heap.size + 1, 0, none⟩ = some (.int .u32 u.a) ∧ w'.cell? ⟨w.heap.size + 1, 1, none⟩ = some (.int .u32 u.b) ∧ w'.cell? ⟨w.heap.size + 1, 2, none⟩ = some (.int .u32 u.c) ∧ w'.cell? ⟨w.heap.size + 1, 3, none⟩ = some (.slice a2 u.pre.length c2)) (first | exact ⟨P0, P1, P2, P3, Q0, Q1, Q2, Q3⟩ | assumption)
    (first
      | (go_at_call 8; clear T1; refine (twin_any v a1 c1 _ HA1.out.drew).mono ?_; rintro e w3 ⟨⟨a1', c1', rfl, hT1⟩, hb3⟩; have hk8 := keep8 (by assumption) hb3; have HB3 := Lib.hid (HBD.out.trans (hb3.mono HBD.out.size)); have HA23 := Lib.hid (HA2.out.drew.gr hb3); have HT13 := Lib.hid hT1; clear hT1 hb3)
      | (go_at_call 8; refine (twin_any u a2 c2 _ HA23.out).mono ?_; rintro e w4 ⟨⟨a2', c2', rfl, hT2⟩, hb4⟩; have hk8' := keep8 (by assumption) hb4; have HB4 := Lib.hid (HB3.out.trans (hb4.mono HB3.out.size)); have HT14 := Lib.hid (HT13.out.gr hb4); have HT24 := Lib.hid hT2; clear hT2 hb4)
      | (go_at_call 19; refine (pCmp_any v u a1' c1' a2' c2' _ HT14.out HT24.out).mono ?_; rintro e w5 ⟨he, hb5⟩; rw [cmpE_val] at he; subst he; have hk8'' := keep8 (by assumption) hb5; have HB5 := Lib.hid (HB4.out.trans (hb5.mono HB4.out.size)); clear hb5))
  obtain ⟨p0, p1, p2, p3, p4, p5, p6, p7⟩ := hk8''
  clear P0 P1 P2 P3 Q0 Q1 Q2 Q3 hk8 hk8' HA1 HA2 HA23 HT13 HT14 HT24 HB3 HB4 HBD HB0 hr1 hr2 hs2
  have HM1 := Lib.hid (fun w' (h : Txs w' a1 c1 v.pre) => rmay_any v a1 c1 w' h)
  have HM2 := Lib.hid (fun w' (h : Txs w' a2 c2 u.pre) => rmay_any u a2 c2 w' h)
  have HRC := Lib.hid (fun w' h1 h2 m1 m2 => rCmp_any v u a1 c1 a2 c2 w' h1 h2 m1 m2)
  have HO1 := Lib.hid (fun w' h => pOrder_any s t w' h)
  have HO2 := Lib.hid (fun w' => rOrderT_any s t w')
  rw [ordE_val] at HO1
  rw [rord_ord, ordE_val] at HO2
  have hcc : ordC s t = 0 ∨ ordC s t = 70 := by unfold ordC; split <;> simp
  generalize ordT s t = ot at *
  generalize ordC s t = oc at *
  have hd1 : (ot == ot) = true := by simp
  have hvc : cmpT v u = if may v && may u then cmpV v u else 0 := rfl
  have hvd : cmpC v u = if may v && may u then 0 else 70 := rfl
  generalize cmpT v u = ct at *
  generalize cmpC v u = cd at *
  rcases Bool.eq_false_or_eq_true (may v) with m1 | m1 <;> rcases Bool.eq_false_or_eq_true (may u) with m2 | m2
  all_goals rw [m1, m2] at hvc hvd
  all_goals simp only [Bool.and_self, Bool.and_false, Bool.false_and, Bool.and_true, Bool.true_and, if_true, if_false, Bool.false_eq_true] at hvc hvd
  all_goals subst hvc hvd
  all_goals rw [m1] at HM1
  all_goals rw [m2] at HM2
  all_goals have T2 := Lib.hid HV
  all_goals rcases hcc with rfl | rfl
  all_goals (go_wp2_with (first
    | (go_at_call 12; clear T2; refine (HM1.out _ (HW1.out.gr HB5.out).txs).mono ?_; rintro e w6 ⟨rfl, hg6⟩; obtain ⟨s0, s1, s2, s3, s4, s5, s6, s7⟩ := keep8 ⟨p0, p1, p2, p3, p4, p5, p6, p7⟩ hg6.below; have HB6 := Lib.hid (HB5.out.trans (hg6.below.mono HB5.out.size)); clear hg6 p0 p1 p2 p3 p4 p5 p6 p7)
    | (go_at_call 12; refine (HM2.out _ (HW2.out.gr HB6.out).txs).mono ?_; rintro e w7 ⟨rfl, hg7⟩; obtain ⟨t0, t1, t2, t3, t4, t5, t6, t7⟩ := keep8 ⟨s0, s1, s2, s3, s4, s5, s6, s7⟩ hg7.below; have HB7 := Lib.hid (HB6.out.trans (hg7.below.mono HB6.out.size)); clear hg7 s0 s1 s2 s3 s4 s5 s6 s7)
    | (go_at_call 20; refine (HRC.out _ (HW1.out.gr HB7.out).txs (HW2.out.gr HB7.out).txs m1 m2).mono ?_; rintro e w8 ⟨rfl, hb8⟩; have HB8 := Lib.hid (HB7.out.trans (hb8.mono HB7.out.size)); clear hb8 t0 t1 t2 t3 t4 t5 t6 t7)
    | (go_at_call 21; refine (HO1.out _ (by first | exact HV.out.gr HB8.out | exact HV.out.gr HB7.out | exact HV.out.gr HB6.out)).mono ?_; rintro e w9 ⟨rfl, hb9⟩; have HB9 := Lib.hid (by first | exact HB8.out.trans (hb9.mono HB8.out.size) | exact HB7.out.trans (hb9.mono HB7.out.size) | exact HB6.out.trans (hb9.mono HB6.out.size) : Below w.heap.size w w9); clear hb9)
    | (go_at_call 22; refine (HO2.out _).mono ?_; rintro e w10 ⟨rfl, hb10⟩; have HB10 := Lib.hid (HB9.out.trans (hb10.mono HB9.out.size)); clear hb10)
    | (go_at_call 18; refine (alive_any _ (HV.out.gr HB10.out)).mono ?_; rintro e w11 ⟨rfl, hb11⟩; have HB11 := Lib.hid (HB10.out.trans (hb11.mono HB10.out.size)); clear hb11)))
  all_goals go_ret
  all_goals exact ⟨rfl, HB11.out⟩
end VerC
end Go.Proofs.YtcbgndpbkcjhnaaDoor
