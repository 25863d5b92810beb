/-
  The document's own answers for layer 7: Is, Cmp, Order, Same: one contract a function.
-/
import Derived.Test.YtapikdgncdcneaaGreatDoorVerTxs
namespace Go.Proofs.YtapikdgncdcneaaGreatDoor
open Go.RowKit
namespace VerC
open VerM StrC TextR
set_option linter.unusedSimpArgs false

theorem rreadE_ret {l : B} {w : World} {e : Ending} (h : ReadE l w e) : ∃ x, e = .returned x := by
  unfold ReadE at h
  split at h
  · obtain ⟨a, cap, he, _⟩ := h; exact ⟨_, he⟩
  · exact ⟨_, h⟩
/-! ### two versions -/
theorem rcmpI_any (x y : Int) (w : World) : Calls Tryz.prog 90 #[.int .u32 x, .int .u32 y] w fun e w' => e = .returned (.int .i64 (cmpI x y)) ∧ w = w' := by
  have H := Lib.hid (show cmpI x y = if x < y then -1 else if y < x then 1 else 0 from rfl)
  generalize cmpI x y = r at *
  go_enter Tryz.func90, Tryz.ntmps90
  go_wp2
  all_goals go_ret
  all_goals exact ⟨by rw [H.out]; (repeat' split) <;> first | rfl | omega, rfl⟩
set_option maxHeartbeats 4000000 in
set_option maxRecDepth 100000 in
theorem rCmp_any (v u : Ver) (a1 : Option Addr) (c1 : Nat) (a2 : Option Addr) (c2 : Nat) (w : World) (hT1 : Txs w a1 c1 v.pre) (hT2 : Txs w a2 c2 u.pre) (hm1 : may v = true) (hm2 : may u = true) :
    Calls Tryz.prog 57 #[verV v.a v.b v.c a1 v.pre.length c1, verV u.a u.b u.c a2 u.pre.length c2] w fun e w' => e = .returned (.int .i64 (cmpV v u)) ∧ Below w.heap.size w w' := by
  have HV := Lib.hid (cmpV_is v u)
  obtain ⟨-, -, -, p8, hp1⟩ := may_parts hm1
  obtain ⟨-, -, -, q8, hp2⟩ := may_parts hm2
  have HSP := Lib.hid (fun s (h : s ∈ v.pre) => (ident_size (hp1 s h)).2)
  have HSQ := Lib.hid (fun s (h : s ∈ u.pre) => (ident_size (hp2 s h)).2)
  generalize cmpV v u = R at *
  obtain ⟨na, nb, nc, p⟩ := v
  obtain ⟨ma, mb, mc, q⟩ := u
  dsimp only at *
  have HB0 := Lib.hid (((Below.refl _ w).alloc (Nat.le_refl _) (verO na nb nc a1 p.length c1)).alloc (by simp) (verO ma mb mc a2 q.length c2))
  have HC := Lib.hid rcmpI_any
  clear hm1 hm2 hp1 hp2
  generalize (na : Int) = xa at *
  generalize (nb : Int) = xb at *
  generalize (nc : Int) = xc at *
  generalize (ma : Int) = ya at *
  generalize (mb : Int) = yb at *
  generalize (mc : Int) = yc at *
  generalize hra : cmpI xa ya = ra at *
  generalize hrb : cmpI xb yb = rb at *
  generalize hrc : cmpI xc yc = rc at *
  have HA := Lib.hid hra
  have HBB := Lib.hid hrb
  have HCC := Lib.hid hrc
  clear hra hrb hrc
  by_cases za : ra = 0
  rotate_left
  · have d1 : (ra == 0) = false := beq_eq_false_iff_ne.2 za
    have d2 : (ra != 0) = true := by rw [bne_iff_ne]; exact za
    rw [if_pos za] at HV
    clear za hT1 hT2
    go_enter Tryz.func57, Tryz.ntmps57
    go_wp2_with (go_at_call 90; refine (HC.out _ _ _).mono ?_; rintro e w' ⟨rfl, rfl⟩; first | rw [HA.out] | rw [HBB.out] | rw [HCC.out])
    go_ret
    exact ⟨by rw [HV.out]; rfl, HB0.out⟩
  rw [if_neg (by simpa using za)] at HV
  by_cases zb : rb = 0
  rotate_left
  · have d1 : (rb == 0) = false := beq_eq_false_iff_ne.2 zb
    have d2 : (rb != 0) = true := by rw [bne_iff_ne]; exact zb
    rw [if_pos zb] at HV
    clear zb hT1 hT2
    subst za
    go_enter Tryz.func57, Tryz.ntmps57
    go_wp2_with (go_at_call 90; refine (HC.out _ _ _).mono ?_; rintro e w' ⟨rfl, rfl⟩; first | rw [HA.out] | rw [HBB.out] | rw [HCC.out])
    go_ret
    exact ⟨by rw [HV.out]; rfl, HB0.out⟩
  rw [if_neg (by simpa using zb)] at HV
  by_cases zc : rc = 0
  rotate_left
  · have d1 : (rc == 0) = false := beq_eq_false_iff_ne.2 zc
    have d2 : (rc != 0) = true := by rw [bne_iff_ne]; exact zc
    rw [if_pos zc] at HV
    clear zc hT1 hT2
    subst za
    subst zb
    go_enter Tryz.func57, Tryz.ntmps57
    go_wp2_with (go_at_call 90; refine (HC.out _ _ _).mono ?_; rintro e w' ⟨rfl, rfl⟩; first | rw [HA.out] | rw [HBB.out] | rw [HCC.out])
    go_ret
    exact ⟨by rw [HV.out]; rfl, HB0.out⟩
  rw [if_neg (by simpa using zc)] at HV
  subst za
  subst zb
  subst zc
  by_cases hp : p = []
  · subst hp
    have HRR := Lib.hid (show R = if q.length = 0 then 0 else 1 by rw [HV.out]; unfold cmpP; cases q <;> simp)
    clear hT1 hT2 HV
    by_cases hq : q = []
    · subst hq
      have HR2 := Lib.hid (show R = 0 by rw [HRR.out]; rfl)
      go_enter Tryz.func57, Tryz.ntmps57
      go_wp2_with (go_at_call 90; refine (HC.out _ _ _).mono ?_; rintro e w' ⟨rfl, rfl⟩; first | rw [HA.out] | rw [HBB.out] | rw [HCC.out])
      go_ret
      exact ⟨by rw [HR2.out]; rfl, HB0.out⟩
    · have hql := List.length_pos_iff.2 hq
      have HR2 := Lib.hid (show R = 1 by rw [HRR.out, if_neg (by omega)])
      have d1 : ((q.length : Int) == 0) = false := beq_eq_false_iff_ne.2 (by omega)
      have d2 : ((0 : Int) == (q.length : Int)) = false := beq_eq_false_iff_ne.2 (by omega)
      clear hq hql
      go_enter Tryz.func57, Tryz.ntmps57
      go_wp2_with (go_at_call 90; refine (HC.out _ _ _).mono ?_; rintro e w' ⟨rfl, rfl⟩; first | rw [HA.out] | rw [HBB.out] | rw [HCC.out])
      go_ret
      exact ⟨by rw [HR2.out]; rfl, HB0.out⟩
  have hpl := List.length_pos_iff.2 hp
  have d1 : ((p.length : Int) == 0) = false := beq_eq_false_iff_ne.2 (by omega)
  by_cases hq : q = []
  · subst hq
    have HR2 := Lib.hid (show R = -1 by rw [HV.out]; unfold cmpP; rw [if_pos (by simp), if_neg (by simpa using hp), if_pos hpl])
    have d2 : decide (0 < p.length) = true := decide_eq_true hpl
    clear hp hpl hT1 hT2 HV
    go_enter Tryz.func57, Tryz.ntmps57
    go_wp2_with (go_at_call 90; refine (HC.out _ _ _).mono ?_; rintro e w' ⟨rfl, rfl⟩; first | rw [HA.out] | rw [HBB.out] | rw [HCC.out])
    go_ret
    exact ⟨by rw [HR2.out]; rfl, HB0.out⟩
  have hql := List.length_pos_iff.2 hq
  have d2 : ((q.length : Int) == 0) = false := beq_eq_false_iff_ne.2 (by omega)
  have HRL := Lib.hid (show R = ordL p q by rw [HV.out]; unfold cmpP; rw [if_neg (by omega)])
  have HS := Lib.hid (ordL_drop p q)
  have HE := Lib.hid (ordL_end p q)
  have H0 : Hid (ordL p q = ordL (p.drop 0) (q.drop 0)) := Lib.hid (by simp)
  have HT1 := Lib.hid hT1
  have HT2 := Lib.hid hT2
  clear hp hq hT1 hT2 HV hpl hql
  go_enter Tryz.func57, Tryz.ntmps57
  go_wp2_with (go_at_call 90; refine (HC.out _ _ _).mono ?_; rintro e w' ⟨rfl, rfl⟩; first | rw [HA.out] | rw [HBB.out] | rw [HCC.out])
  have hr1 := (heap_alloc_old (w.alloc (verO xa xb xc a1 p.length c1)) (verO ya yb yc a2 q.length c2) (r := w.heap.size) (by simp)).trans (heap_alloc_new w (verO xa xb xc a1 p.length c1))
  have hr2 := heap_alloc_new (w.alloc (verO xa xb xc a1 p.length c1)) (verO ya yb yc a2 q.length c2)
  rw [show (w.alloc (verO xa xb xc a1 p.length c1)).heap.size = w.heap.size + 1 by simp] at hr2
  have HTA := Lib.hid ((HT1.out.alloc (verO xa xb xc a1 p.length c1)).alloc (verO ya yb yc a2 q.length c2))
  have HTB := Lib.hid ((HT2.out.alloc (verO xa xb xc a1 p.length c1)).alloc (verO ya yb yc a2 q.length c2))
  obtain ⟨P0, P1, P2, P3⟩ := ver_cells hr1
  obtain ⟨Q0, Q1, Q2, Q3⟩ := ver_cells hr2
  clear P0 P1 P2 Q0 Q1 Q2 hr1 hr2
  generalize (w.alloc (verO xa xb xc a1 p.length c1)).alloc (verO ya yb yc a2 q.length c2) = W at *
  go_loopw [6, 7] (fun iv _ wr => ∃ k n : Nat, k ≤ p.length ∧ k ≤ q.length ∧ iv = .int .i64 k ∧ Hid (R = ordL (p.drop k) (q.drop k)) ∧ wr = W.drewN n) (fun iv _ _ => p.length - (intOf iv).toNat)
  case atStart => exact ⟨0, 0, Nat.zero_le _, Nat.zero_le _, rfl, Lib.hid (by rw [HRL.out]; exact H0.out), rfl⟩
  case round =>
    obtain ⟨k, n, hk1, hk2, rfl, HR, rfl⟩ := hrel
    by_cases hlt : k < p.length
    · have hdec : decide (k < p.length) = true := by simpa using hlt
      by_cases hlt2 : k < q.length
      · have hdec2 : decide (k < q.length) = true := by simpa using hlt2
        obtain ⟨b1, o1, rfl, hc1⟩ := HTA.out.cells (by omega)
        obtain ⟨b2, o2, rfl, hc2⟩ := HTB.out.cells (by omega)
        have hck1 := hc1 k hlt
        have hck2 := hc2 k hlt2
        have h1 := HSP.out (p.getD k []) (by rw [List.getD_eq_getElem?_getD, List.getElem?_eq_getElem hlt]; exact List.getElem_mem hlt)
        have h2 := HSQ.out (q.getD k []) (by rw [List.getD_eq_getElem?_getD, List.getElem?_eq_getElem hlt2]; exact List.getElem_mem hlt2)
        have HO := HS.out k hlt hlt2
        rw [← HR.out] at HO
        clear hc1 hc2
        generalize p.getD k [] = s at *
        generalize q.getD k [] = u at *
        have HOR := Lib.hid (fun w => rorder_any s u w (by omega) (by omega))
        generalize ordI s u = r at *
        clear h1 h2
        by_cases hr : r = 0
        · have d3 : (r != 0) = false := by rw [hr]; rfl
          have HN := Lib.hid (show R = ordL (p.drop (k + 1)) (q.drop (k + 1)) by rw [HO, if_neg (by simpa using hr)])
          clear hr HO
          go_wp2_with fail
          go_quiet ((go_at_call 91; exact (HOR.out _).mono fun _ _ h => ⟨h.1, _, h.2.symm⟩))
          go_wp2_with fail
          go_roundw
          case rel => exact ⟨k + 1, _, by omega, by omega, by go_num, HN, rfl⟩
          case measure => simp [intOf]; omega
        · have d3 : (r != 0) = true := by rw [bne_iff_ne]; exact hr
          have HN := Lib.hid (show R = r by rw [HO, if_pos hr])
          clear hr HO
          go_wp2_with fail
          go_quiet ((go_at_call 91; exact (HOR.out _).mono fun _ _ h => ⟨h.1, _, h.2.symm⟩))
          go_wp2_with fail
          go_ret
          exact ⟨by rw [HN.out]; rfl, below_drewN HB0.out _⟩
      · have hdec2 : decide (k < q.length) = false := by simpa using hlt2
        have HN := Lib.hid (show R = cmpI p.length q.length by rw [HR.out, HE.out k ⟨hk1, hk2, by omega⟩])
        go_wp2_with (go_at_call 90; refine (HC.out _ _ _).mono ?_; rintro e w' ⟨rfl, rfl⟩; rw [← HN.out])
        go_ret
        exact ⟨rfl, below_drewN HB0.out _⟩
    · have hdec : decide (k < p.length) = false := by simpa using hlt
      have HN := Lib.hid (show R = cmpI p.length q.length by rw [HR.out, HE.out k ⟨hk1, hk2, by omega⟩])
      go_wp2_with (go_at_call 90; refine (HC.out _ _ _).mono ?_; rintro e w' ⟨rfl, rfl⟩; rw [← HN.out])
      go_ret
      exact ⟨rfl, below_drewN HB0.out _⟩
end VerC
end Go.Proofs.YtapikdgncdcneaaGreatDoor
