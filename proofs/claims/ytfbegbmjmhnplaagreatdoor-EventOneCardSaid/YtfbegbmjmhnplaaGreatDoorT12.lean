/-
  What the proof of EvBoth stands on, part 12.
-/
import Derived.Test.YtfbegbmjmhnplaaGreatDoorT10
import Derived.Test.YtfbegbmjmhnplaaGreatDoorT11
set_option linter.unusedSimpArgs false
set_option linter.unusedVariables false
set_option maxHeartbeats 16000000
namespace Go.Proofs.YtfbegbmjmhnplaaGreatDoor
open Go.Lib (hid)
section
open Go.RowKit
namespace SpanC
open VerM SpanM StrC TextR VerC
def ziz (g : B) (v : Ver) : Ending := if zap v then .returned (.tuple #[.string (str (g ++ text v)), .int .i64 0]) else .returned (.tuple #[.string (str []), .int .i64 80])
set_option maxRecDepth 100000 in
theorem zja (g : B) (x : EdR) (w : World) (hv : Vw w) (hx : EdOk w x) (hg : g.length ≤ 2) :
 Calls Tryz.prog 238 #[.string (str g), edV x] w fun e w' => e = ziz g x.v ∧ Below w.heap.size w w' := by
 have HB0 : Hid (Below w.heap.size w (w.alloc (edO x))) := hid ((Below.refl _ w).alloc (Nat.le_refl _) _)
 have HT := hid (ziy x.v x.a x.c (w.alloc (edO x)) (hv.gr HB0.out) (hx.txs.gr HB0.out))
 have HE : Hid (ziz g x.v = _) := hid (by unfold ziz; rfl)
 obtain ⟨q0, q1, q2, q3, q4⟩ := zgo (heap_alloc_new w (edO x))
 clear hv hx
 rcases Bool.eq_false_or_eq_true (zap x.v) with ht | ht
 · have hlen : (text x.v).length ≤ 128 := by
    unfold zap at ht
    simp only [Bool.and_eq_true, decide_eq_true_eq] at ht
    exact ht.2
   have hadd := fun w => zbp g (text x.v) w (by omega)
   have HF : Hid (textE x.v = .returned (.tuple #[.string (str (text x.v)), .int .i64 0])) := hid (by unfold textE; rw [ht]; rfl)
   rw [HF.out] at HT
   generalize text x.v = tx at *
   go_enter Tryz.func238, Tryz.ntmps238
   go_wp2_with (go_at_call 259; refine HT.out.mono ?_; rintro e w1 ⟨rfl, hb1⟩)
   go_ret2
   exact ⟨by rw [HE.out, ht]; rfl, HB0.out.trans (hb1.mono HB0.out.size)⟩
 · have HF : Hid (textE x.v = .returned (.tuple #[.string (str []), .int .i64 70])) := hid (by unfold textE; rw [ht]; rfl)
   rw [HF.out] at HT
   go_enter Tryz.func238, Tryz.ntmps238
   go_wp2_with (go_at_call 259; refine HT.out.mono ?_; rintro e w1 ⟨rfl, hb1⟩)
   go_ret2
   exact ⟨by rw [HE.out, ht]; rfl, HB0.out.trans (hb1.mono HB0.out.size)⟩
def zjb (e : Ed) : Ending := if e.s = 2 then .returned (.tuple #[.string (str []), .int .i64 0]) else if e.s = 0 then ziz [60] e.v else ziz [60, 61] e.v
theorem zjc (g : B) (v : Ver) : ∃ (t : B) (n : Int), ziz g v = .returned (.tuple #[.string (str t), .int .i64 n]) := by
 unfold ziz
 split
 · exact ⟨_, _, rfl⟩
 · exact ⟨_, _, rfl⟩
set_option maxRecDepth 100000 in
theorem zjd (x : EdR) (w : World) (hv : Vw w) (hx : EdOk w x) :
 Calls Tryz.prog 240 #[edV x] w fun e w' => e = zjb x.ed ∧ Below w.heap.size w w' := by
 have HB0 : Hid (Below w.heap.size w (w.alloc (edO x))) := hid ((Below.refl _ w).alloc (Nat.le_refl _) _)
 have HT := hid (fun g hg => zja g x (w.alloc (edO x)) (hv.gr HB0.out) (hx.gr HB0.out) hg)
 have HE : Hid (zjb x.ed = if x.s = 2 then .returned (.tuple #[.string (str []), .int .i64 0]) else if x.s = 0 then ziz [60] x.v else ziz [60, 61] x.v) := hid rfl
 obtain ⟨q0, q1, q2, q3, q4⟩ := zgo (heap_alloc_new w (edO x))
 clear hv hx
 by_cases h2 : x.s = 2
 · have d2 : ((x.s : Int) == 2) = true := by rw [h2]; rfl
   have HE2 := hid (HE.out.trans (if_pos h2))
   clear HE h2 HT
   go_enter Tryz.func240, Tryz.ntmps240
   go_wp2_with fail
   go_ret2
   exact ⟨by rw [HE2.out]; rfl, HB0.out⟩
 · have d2 : ((x.s : Int) == 2) = false := beq_eq_false_iff_ne.2 (by omega)
   by_cases h0 : x.s = 0
   · have d0 : ((x.s : Int) == 0) = true := by rw [h0]; rfl
     have HE2 := hid ((HE.out.trans (if_neg h2)).trans (if_pos h0))
     have HT2 := hid (HT.out [60] (by decide))
     obtain ⟨t, n, e1⟩ := zjc [60] x.v
     rw [e1] at HE2 HT2
     clear HE h2 h0 HT e1
     go_enter Tryz.func240, Tryz.ntmps240
     go_wp2_with (go_at_call 238; refine HT2.out.mono ?_; rintro e w1 ⟨rfl, hb1⟩)
     go_ret2
     exact ⟨by rw [HE2.out]; rfl, HB0.out.trans (hb1.mono HB0.out.size)⟩
   · have d0 : ((x.s : Int) == 0) = false := beq_eq_false_iff_ne.2 (by omega)
     have HE2 := hid ((HE.out.trans (if_neg h2)).trans (if_neg h0))
     have HT2 := hid (HT.out [60, 61] (by decide))
     obtain ⟨t, n, e1⟩ := zjc [60, 61] x.v
     rw [e1] at HE2 HT2
     clear HE h2 h0 HT e1
     go_enter Tryz.func240, Tryz.ntmps240
     go_wp2_with (go_at_call 238; refine HT2.out.mono ?_; rintro e w1 ⟨rfl, hb1⟩)
     go_ret2
     exact ⟨by rw [HE2.out]; rfl, HB0.out.trans (hb1.mono HB0.out.size)⟩
end SpanC
open Go.RowKit
namespace SpanC
open VerM SpanM StrC TextR VerC
def zje (e : Ed) : Ending := if cE e allS.f = 0 then .returned (.tuple #[.string (str []), .int .i64 0]) else if e.s = 1 then ziz [62] e.v else ziz [62, 61] e.v
set_option maxRecDepth 100000 in
theorem zjf (x : EdR) (w : World) (hv : Vw w) (hx : EdOk w x) :
 Calls Tryz.prog 239 #[edV x] w fun e w' => e = zje x.ed ∧ Below w.heap.size w w' := by
 have HB0 : Hid (Below w.heap.size w (w.alloc (edO x))) := hid ((Below.refl _ w).alloc (Nat.le_refl _) _)
 have hnx := heap_alloc_new w (edO x)
 have hlt : w.heap.size < (w.alloc (edO x)).heap.size := by simp
 have HV1 := hid (hv.gr HB0.out)
 have HX1 := hid (hx.gr HB0.out)
 have HE : Hid (zje x.ed = if cE x.ed allS.f = 0 then .returned (.tuple #[.string (str []), .int .i64 0]) else if x.s = 1 then ziz [62] x.v else ziz [62, 61] x.v) := hid rfl
 obtain ⟨r, hr⟩ : ∃ r, cE x.ed allS.f = r := ⟨_, rfl⟩
 rw [hr] at HE
 have HR := hid hr
 obtain ⟨q0, q1, q2, q3, q4⟩ := zgo hnx
 have HN := hid hnx
 have HLT := hid hlt
 clear hv hx hr hnx
 go_enter Tryz.func239, Tryz.ntmps239
 go_upto_region 1 with fail
 generalize w.alloc (edO x) = w1 at *
 have HD1 : Hid (Below w1.heap.size w1 w1.drew) := hid ((Gr.refl w1).drew).below
 have HKS : Hid (∀ w', Below w1.heap.size w1 w' → w'.cell? ⟨w.heap.size, 0, none⟩ = some (.int .u32 x.v.a) ∧ w'.cell? ⟨w.heap.size, 1, none⟩ = some (.int .u32 x.v.b) ∧ w'.cell? ⟨w.heap.size, 2, none⟩ = some (.int .u32 x.v.c) ∧ w'.cell? ⟨w.heap.size, 3, none⟩ = some (.slice x.a x.v.pre.length x.c) ∧ w'.cell? ⟨w.heap.size, 4, none⟩ = some (.int .i64 x.s)) := hid (fun w' h => ⟨(h.cell hlt).trans q0, (h.cell hlt).trans q1, (h.cell hlt).trans q2, (h.cell hlt).trans q3, (h.cell hlt).trans q4⟩)
 go_cut [4] from 5 to 9 (fun u wx => u = .bool (r == 0) ∧ Hid (Below w1.heap.size w1 wx))
 case first =>
  go_region_held3 (fun w' => w'.cell? ⟨w.heap.size, 0, none⟩ = some (.int .u32 x.v.a) ∧ w'.cell? ⟨w.heap.size, 1, none⟩ = some (.int .u32 x.v.b) ∧ w'.cell? ⟨w.heap.size, 2, none⟩ = some (.int .u32 x.v.c) ∧ w'.cell? ⟨w.heap.size, 3, none⟩ = some (.slice x.a x.v.pre.length x.c) ∧ w'.cell? ⟨w.heap.size, 4, none⟩ = some (.int .i64 x.s))
   (first | exact ⟨q0, q1, q2, q3, q4⟩ | assumption)
   (first
     | (go_at_call 230; refine (zhl _).mono ?_; rintro e w2 ⟨r0, rfl, hst0, hok0, hb2⟩; have hft := zii r0; have HB2 : Hid (Below w1.heap.size w1 w2) := hid (by first | exact hb2 | exact HD1.out.trans (hb2.mono HD1.out.size)); have hS2 := HKS.out w2 HB2.out; have HC : Hid (Calls Tryz.prog 237 #[edV x, edV r0.f] w2 fun e w' => e = .returned (.int .i64 r) ∧ Gr w2 w') := hid (by have h := zgs x r0.f w2 (HX1.out.gr HB2.out) hok0.f; rw [show r0.f.ed = allS.f from congrArg St.f hst0, HR.out] at h; exact h); clear hst0 hok0 hb2)
     | (go_at_call 237; refine HC.out.mono ?_; rintro e w3 ⟨rfl, hg3⟩; have HB3 : Hid (Below w1.heap.size w1 w3) := hid (HB2.out.trans (hg3.below.mono HB2.out.size)); have hS3 := HKS.out w3 HB3.out; clear hg3))
  all_goals (go_wp2_with fail; go_meet; exact ⟨rfl, HB3⟩)
 case rest =>
  obtain ⟨rfl, HBX⟩ := hcut
  obtain ⟨k0, k1, k2, k3, k4⟩ := HKS.out _ HBX.out
  have HT := hid (fun g hg => zja g x wc (HV1.out.gr HBX.out) (HX1.out.gr HBX.out) hg)
  have HBW := hid (HB0.out.trans (HBX.out.mono HB0.out.size))
  clear q0 q1 q2 q3 q4 HKS HD1 HN HLT hlt
  by_cases h2 : r = 0
  · have d2 : (r == 0) = true := by rw [h2]; rfl
    have HE2 := hid (HE.out.trans (if_pos h2))
    clear HE h2 HT HR
    go_wp2_with fail
    go_ret2
    exact ⟨by rw [HE2.out]; rfl, HBW.out⟩
  · have d2 : (r == 0) = false := beq_eq_false_iff_ne.2 h2
    by_cases h0 : x.s = 1
    · have d0 : ((x.s : Int) == 1) = true := by rw [h0]; rfl
      have HE2 := hid ((HE.out.trans (if_neg h2)).trans (if_pos h0))
      have HT2 := hid (HT.out [62] (by decide))
      obtain ⟨t, n, e1⟩ := zjc [62] x.v
      rw [e1] at HE2 HT2
      clear HE h2 h0 HT e1 HR
      go_wp2_with (go_at_call 238; refine HT2.out.mono ?_; rintro e w4 ⟨rfl, hb1⟩)
      go_ret2
      exact ⟨by rw [HE2.out]; rfl, HBW.out.trans (hb1.mono HBW.out.size)⟩
    · have d0 : ((x.s : Int) == 1) = false := beq_eq_false_iff_ne.2 (by omega)
      have HE2 := hid ((HE.out.trans (if_neg h2)).trans (if_neg h0))
      have HT2 := hid (HT.out [62, 61] (by decide))
      obtain ⟨t, n, e1⟩ := zjc [62, 61] x.v
      rw [e1] at HE2 HT2
      clear HE h2 h0 HT e1 HR
      go_wp2_with (go_at_call 238; refine HT2.out.mono ?_; rintro e w4 ⟨rfl, hb1⟩)
      go_ret2
      exact ⟨by rw [HE2.out]; rfl, HBW.out.trans (hb1.mono HBW.out.size)⟩
end SpanC
open Go.RowKit
namespace SpanC
open VerM SpanM StrC TextR VerC
def outO (o : Option B) : Ending := match o with
 | some t => .returned (.tuple #[.string (str t), .int .i64 0])
 | none => .returned (.tuple #[.string (str []), .int .i64 80])
def zjg (g : B) (v : Ver) : Option B := if zap v then some (g ++ text v) else none
def zjh (e : Ed) : Option B := if cE e allS.f = 0 then some [] else if e.s = 1 then zjg [62] e.v else zjg [62, 61] e.v
def zji (e : Ed) : Option B := if e.s = 2 then some [] else if e.s = 0 then zjg [60] e.v else zjg [60, 61] e.v
def joinO (l h : B) : B := if l = [] ∧ h = [] then [42] else if l = [] ∨ h = [] then l ++ h else l ++ 32 :: h
def oneO (s : St) : Option B := if cE ⟨s.f.v, 1⟩ s.t = 0 then zjg [61] s.t.v else match zjh s.f, zji s.t with
 | some l, some h => some (joinO l h)
 | _, _ => none
theorem zjj (g : B) (v : Ver) : ziz g v = outO (zjg g v) := by unfold ziz zjg outO; split <;> rfl
theorem zjk (e : Ed) : zje e = outO (zjh e) := by
 unfold zje zjh
 split
 · rfl
 · split <;> exact zjj _ _
theorem zjl (e : Ed) : zjb e = outO (zji e) := by
 unfold zjb zji
 split
 · rfl
 · split <;> exact zjj _ _
theorem zjm {g t : B} {v : Ver} (h : zjg g v = some t) (hg : g.length ≤ 2) : t.length ≤ 130 := by
 unfold zjg at h
 split at h
 · rename_i ht
   unfold zap at ht
   simp only [Bool.and_eq_true, decide_eq_true_eq] at ht
   cases h
   rw [List.length_append]; omega
 · cases h
theorem zjn {e : Ed} {t : B} (h : zjh e = some t) : t.length ≤ 130 := by
 unfold zjh at h
 split at h
 · cases h; exact Nat.zero_le _
 · split at h <;> exact zjm h (by decide)
theorem zjo {e : Ed} {t : B} (h : zji e = some t) : t.length ≤ 130 := by
 unfold zji at h
 split at h
 · cases h; exact Nat.zero_le _
 · split at h <;> exact zjm h (by decide)
theorem zjp (l : B) : (l = [] ∧ (str l).toList.isEmpty = true) ∨ (l ≠ [] ∧ (str l).toList.isEmpty = false) := by
 rw [ByteArray.toList_eq, zbn]
 cases l with
 | nil => exact .inl ⟨rfl, rfl⟩
 | cons x r => exact .inr ⟨fun h => (by cases h), rfl⟩
set_option maxRecDepth 100000 in
theorem zjq (x : StR) (w : World) (hv : Vw w) (hx : StOk w x) :
 Calls Tryz.prog 210 #[stV x] w fun e w' => e = outO (oneO x.st) ∧ Below w.heap.size w w' := by
 have HB0 : Hid (Below w.heap.size w (w.alloc (stO x))) := hid ((Below.refl _ w).alloc (Nat.le_refl _) _)
 have hnx := heap_alloc_new w (stO x)
 have hlt : w.heap.size < (w.alloc (stO x)).heap.size := by simp
 have HV1 := hid (hv.gr HB0.out)
 have HX1 := hid (hx.gr HB0.out)
 obtain ⟨r, hr⟩ : ∃ r, cE ⟨x.f.v, 1⟩ x.t.ed = r := ⟨_, rfl⟩
 have HO : Hid (oneO x.st = if r = 0 then zjg [61] x.t.v else match zjh x.f.ed, zji x.t.ed with | some l, some h => some (joinO l h) | _, _ => none) := hid (by rw [← hr]; rfl)
 have HC := hid (zgs ⟨x.f.v, x.f.a, x.f.c, 1⟩ x.t _ ⟨⟨HX1.out.f.wf.1, by show 1 ≤ 2; omega, fun h => by cases h⟩, HX1.out.f.txs, HX1.out.f.kind, HX1.out.f.nil⟩ HX1.out.t)
 change Hid (Calls _ _ _ _ fun e w' => e = .returned (.int .i64 (cE ⟨x.f.v, 1⟩ x.t.ed)) ∧ _) at HC
 rw [hr] at HC
 obtain ⟨q0, q1, q2, q3, q4, q5, q6, q7, q8, q9⟩ := zgn hnx
 have HN := hid hnx
 have HLT := hid hlt
 clear hv hx hr hnx hlt
 go_enter Tryz.func210, Tryz.ntmps210
 go_wp2_with (go_at_call 237; refine HC.out.mono ?_; rintro e w2 ⟨rfl, hg2⟩; refine Hid.out ?_)
 refine hid ?_
 have hn2 := (hg2.below.block _ HLT.out).trans HN.out
 have hl2 : w.heap.size < w2.heap.size := Nat.lt_of_lt_of_le HLT.out hg2.below.size
 have HB2 := hid (HB0.out.trans (hg2.below.mono HB0.out.size))
 have HV2 := hid (HV1.out.gr hg2.below)
 have HX2 := hid (HX1.out.gr hg2.below)
 clear hg2 q0 q1 q2 q3 q4 q5 q6 q7 q8 q9 HN HLT HB0 HV1 HX1 HC
 obtain ⟨q0, q1, q2, q3, q4, q5, q6, q7, q8, q9⟩ := zgn hn2
 have HN2 := hid hn2
 have HL2 := hid hl2
 clear hn2 hl2
 by_cases h0 : r = 0
 · have d0 : (r == 0) = true := by rw [h0]; rfl
   have HT := hid (zja [61] x.t w2 HV2.out HX2.out.t (by decide))
   have HE := hid (HO.out.trans (if_pos h0))
   rw [zjj] at HT
   obtain ⟨o, ho⟩ : ∃ o, zjg [61] x.t.v = o := ⟨_, rfl⟩
   rw [ho] at HT HE
   clear h0 HO ho
   cases o with
   | none =>
     unfold outO at HT
     go_wp2_with (go_at_call 238; refine HT.out.mono ?_; rintro e w3 ⟨rfl, hb3⟩)
     go_ret2
     exact ⟨by rw [HE.out]; rfl, HB2.out.trans (hb3.mono HB2.out.size)⟩
   | some t =>
     unfold outO at HT
     go_wp2_with (go_at_call 238; refine HT.out.mono ?_; rintro e w3 ⟨rfl, hb3⟩)
     go_ret2
     exact ⟨by rw [HE.out]; rfl, HB2.out.trans (hb3.mono HB2.out.size)⟩
 have d0 : (r == 0) = false := beq_eq_false_iff_ne.2 h0
 have HE := hid (HO.out.trans (if_neg h0))
 have HA := hid (zjf x.f w2 HV2.out HX2.out.f)
 have HAL := hid (fun t h => @zjn x.f.ed t h)
 have HBL := hid (fun t h => @zjo x.t.ed t h)
 rw [zjk] at HA
 have HBB := hid (fun w' (g : Below w2.heap.size w2 w') => zjd x.t w' (HV2.out.gr g) (HX2.out.gr g).t)
 rw [zjl] at HBB
 generalize zjh x.f.ed = oa at *
 generalize zji x.t.ed = ob at *
 clear h0 HO
 cases oa with
 | none =>
   unfold outO at HA
   go_wp2_with (go_at_call 239; refine HA.out.mono ?_; rintro e w3 ⟨rfl, hb3⟩)
   go_ret2
   exact ⟨by rw [HE.out]; rfl, HB2.out.trans (hb3.mono HB2.out.size)⟩
 | some l =>
   have hll := HAL.out l rfl
   change Hid (Calls _ _ _ _ fun e w' => e = .returned (.tuple #[.string (str l), .int .i64 0]) ∧ _) at HA
   go_wp2_with (go_at_call 239; refine HA.out.mono ?_; rintro e w3 ⟨rfl, hb3⟩; refine Hid.out ?_)
   refine hid ?_
   have hn3 := (hb3.block _ HL2.out).trans HN2.out
   have HT := hid (HBB.out w3 hb3)
   have HB3 := hid (HB2.out.trans (hb3.mono HB2.out.size))
   clear hb3 q0 q1 q2 q3 q4 q5 q6 q7 q8 q9 HN2 HL2 HA HBB HAL
   obtain ⟨q0, q1, q2, q3, q4, q5, q6, q7, q8, q9⟩ := zgn hn3
   clear hn3
   cases ob with
   | none =>
     change Hid (Calls _ _ _ _ fun e w' => e = .returned (.tuple #[.string (str []), .int .i64 80]) ∧ _) at HT
     go_wp2_with (go_at_call 240; refine HT.out.mono ?_; rintro e w4 ⟨rfl, hb4⟩)
     go_ret2
     exact ⟨by rw [HE.out]; rfl, HB3.out.trans (hb4.mono HB3.out.size)⟩
   | some h =>
     have hhl := HBL.out h rfl
     change Hid (Calls _ _ _ _ fun e w' => e = .returned (.tuple #[.string (str h), .int .i64 0]) ∧ _) at HT
     have HE2 : Hid (oneO x.st = some (joinO l h)) := hid HE.out
     have a1 := fun w => zbp l h w (by omega)
     have a2 := fun w => zbp l [32] w (by simp; omega)
     have a3 := fun w => zbp (l ++ [32]) h w (by simp; omega)
     have hlit : (⟨#[32]⟩ : ByteArray) = str [32] := rfl
     clear HE HBL hll hhl
     rcases zjp l with ⟨e1, k1⟩ | ⟨e1, k1⟩ <;> rcases zjp h with ⟨e2, k2⟩ | ⟨e2, k2⟩
     · have HJ : Hid (joinO l h = [42]) := hid (by unfold joinO; rw [if_pos ⟨e1, e2⟩])
       clear e1 e2
       go_wp2_with (go_at_call 240; refine HT.out.mono ?_; rintro e w4 ⟨rfl, hb4⟩)
       go_ret2
       exact ⟨by rw [HE2.out, HJ.out]; rfl, HB3.out.trans (hb4.mono HB3.out.size)⟩
     · have HJ : Hid (joinO l h = l ++ h) := hid (by unfold joinO; rw [if_neg (fun h => e2 h.2), if_pos (.inl e1)])
       clear e1 e2
       go_wp2_with (go_at_call 240; refine HT.out.mono ?_; rintro e w4 ⟨rfl, hb4⟩)
       go_ret2
       exact ⟨by rw [HE2.out, HJ.out]; rfl, HB3.out.trans (hb4.mono HB3.out.size)⟩
     · have HJ : Hid (joinO l h = l ++ h) := hid (by unfold joinO; rw [if_neg (fun h => e1 h.1), if_pos (.inr e2)])
       clear e1 e2
       go_wp2_with (go_at_call 240; refine HT.out.mono ?_; rintro e w4 ⟨rfl, hb4⟩)
       go_ret2
       exact ⟨by rw [HE2.out, HJ.out]; rfl, HB3.out.trans (hb4.mono HB3.out.size)⟩
     · have HJ : Hid (joinO l h = l ++ 32 :: h) := hid (by unfold joinO; rw [if_neg (fun h => e1 h.1), if_neg (fun h => h.elim e1 e2)])
       clear e1 e2
       go_wp2_with (go_at_call 240; refine HT.out.mono ?_; rintro e w4 ⟨rfl, hb4⟩)
       go_ret2
       exact ⟨by rw [HE2.out, HJ.out]; rfl, HB3.out.trans (hb4.mono HB3.out.size)⟩
end SpanC
open Go.RowKit
namespace SpanC
open VerM SpanM StrC TextR VerC
def orB : B := [32, 124, 124, 32]
def oneT (s : St) : B := (oneO s).getD []
def zjr (l : List St) : Option B := if l = [] then some [33] else if l.all (fun s => (oneO s).isSome) then (if (Lib.join (l.map oneT) orB).length ≤ 128 then some (Lib.join (l.map oneT) orB) else none) else none
theorem zjs {s : St} {t : B} (h : oneO s = some t) : t.length ≤ 300 := by
 unfold oneO at h
 split at h
 · have := zjm h (by decide); omega
 · split at h
   · rename_i l h2 e1 e2
     have h3 := zjn e1
     have h4 := zjo e2
     cases h
     unfold joinO
     split
     · decide
     · split
       · rw [List.length_append]; omega
       · rw [List.length_append, List.length_cons]; omega
   · cases h
theorem zjt (s : St) : (oneT s).length ≤ 300 := by
 unfold oneT
 cases h : oneO s with
 | none => exact Nat.zero_le _
 | some t => exact zjs h
theorem zju (sep : B) (m : Nat) : ∀ p : TL, (∀ s ∈ p, s.length ≤ m) → (Lib.joinTail sep p).length ≤ p.length * (m + sep.length)
 | [], _ => by simp [Lib.joinTail]
 | x :: r, h => by
   have h1 := h x List.mem_cons_self
   have h2 := zju sep m r (fun s hs => h s (List.mem_cons_of_mem _ hs))
   unfold Lib.joinTail at h2 ⊢
   rw [List.map_cons, List.flatten_cons, List.length_append, List.length_append, List.length_cons, Nat.add_mul, Nat.one_mul]
   omega
theorem zjv (sep : B) (m : Nat) (p : TL) (h : ∀ s ∈ p, s.length ≤ m) : (Lib.join p sep).length ≤ p.length * (m + sep.length) := by
 cases p with
 | nil => rw [Lib.join_nil]; exact Nat.zero_le _
 | cons x r =>
   have h1 := h x List.mem_cons_self
   have h2 := zju sep m r (fun s hs => h s (List.mem_cons_of_mem _ hs))
   rw [Lib.join_cons, List.length_append, List.length_cons, Nat.add_mul, Nat.one_mul]
   omega
theorem zjw (p : TL) (v : Value) (B0 : Nat) (w : World) (ho : OwnS w B0 v p) (hm : ∀ s ∈ p, s.length ≤ 300) (hp : 0 < p.length) (h8 : p.length ≤ 1000) :
 Calls Tryz.prog 27 #[v, .string ⟨#[32, 124, 124, 32]⟩] w fun e w' => e = .returned (.string (str (Lib.join p orB))) ∧ Below w.heap.size w w' := by
 obtain ⟨g, cp, rfl, hg0, hgl, hcp, hcm, hc, -⟩ := ho.open_ hp
 have hj : (Lib.join p orB).length ≤ 1000000 := by
  have h := zjv orB 300 p hm
  have h2 : p.length * (300 + orB.length) ≤ 1000 * 304 := Nat.mul_le_mul h8 (by decide)
  omega
 have hmap : (p.map str).map (·.data.toList) = p := by
  rw [List.map_map]
  conv => rhs; rw [← List.map_id p]
  apply List.map_congr_left
  intro s _
  simp [str]
 have h := Tryz.strings_Join g 0 cp (p.map str) ⟨#[32, 124, 124, 32]⟩ w (fun j x hx => by
  rw [List.getElem?_map] at hx
  obtain ⟨s, hs, rfl⟩ := Option.map_eq_some_iff.1 hx
  have hjl : j < p.length := (List.getElem?_eq_some_iff.1 hs).1
  rw [Nat.zero_add, hc j hjl, List.getD_eq_getElem?_getD, hs]; rfl) hgl (by rw [List.length_map]; omega) (by rw [List.length_map]; exact hcp) (by rw [hmap]; show (Lib.join p orB).length ≤ _; omega)
 rw [hmap, List.length_map] at h
 exact h
set_option maxRecDepth 100000 in
theorem zjx (v : Value) (L : List StR) (w : World) (hv : Vw w) (hr : StRow w 0 v L) (hok : AllOk w L) (hl : L.length ≤ 1000) :
 Calls Tryz.prog 185 #[v] w fun e w' => e = outO (zjr (L.map StR.st)) ∧ Below w.heap.size w w' := by
 obtain ⟨j0, hj, jz0, jz1, jz2⟩ := info_parts VerC.info_text
 obtain ⟨va, cp, rfl⟩ := hr.value
 have HR := hid hr
 have HOK := hid hok
 have HV := hid hv
 have HO : Hid (zjr (L.map StR.st) = if L.map StR.st = [] then some [33] else if (L.map StR.st).all (fun s => (oneO s).isSome) then (if (Lib.join ((L.map StR.st).map oneT) orB).length ≤ 128 then some (Lib.join ((L.map StR.st).map oneT) orB) else none) else none) := hid rfl
 clear hr hok hv
 by_cases hL0 : L.length = 0
 · have hL : L = [] := List.length_eq_zero_iff.1 hL0
   subst hL
   clear hL0
   simp only [List.length_nil]
   go_enter Tryz.func185, Tryz.ntmps185
   go_wp2_with fail
   go_ret2
   exact ⟨by rw [HO.out]; rfl, Below.refl _ _⟩
 have d0 : ((L.length : Int) == 0) = false := beq_eq_false_iff_ne.2 (by omega)
 have HO2 := hid (HO.out.trans (if_neg (by intro e; apply hL0; have := congrArg List.length e; simpa using this)))
 have HPOS : Hid (0 < L.length) := hid (by omega)
 clear HO hL0
 go_enter Tryz.func185, Tryz.ntmps185
 go_wp2_with fail
 go_loopw [4, 6, 7, 8, 15] (fun u _ _ _ i wq => ∃ k : Nat, i = .int .i64 k ∧ k ≤ L.length ∧ Hid (((L.map StR.st).take k).all (fun s => (oneO s).isSome) = true) ∧ Hid (OwnS wq w.heap.size u (((L.map StR.st).take k).map oneT)) ∧ Hid (Below w.heap.size w wq)) (fun _ _ _ _ i _ => L.length - (intOf i).toNat)
 case atStart => exact ⟨0, rfl, Nat.zero_le _, hid (by simp), hid (by simpa using OwnS.nil _ _), hid (Below.refl _ _)⟩
 case round =>
  obtain ⟨k, rfl, hk, HALL, HROW, HW⟩ := hrel
  rename World => wq
  by_cases hlt : k < L.length
  · have hdec : decide (k < L.length) = true := by simpa using hlt
    obtain ⟨g, x, hx, hxm, hxs, rfl, -, -, hg, -, -, c0, c1, c2, c3, c4, c5, c6, c7, c8, c9⟩ := (HR.out.below HW.out).at k hlt
    have HXS : Hid ((L.map StR.st)[k]? = some x.st) := hid (by rw [List.getElem?_map, hxs]; rfl)
    have hnx := heap_alloc_new wq (stO x)
    obtain ⟨q0, q1, q2, q3, q4, q5, q6, q7, q8, q9⟩ := zgn hnx
    have HB1 := hid (HW.out.alloc HW.out.size (stO x))
    have hb4 : Below wq.heap.size wq (wq.alloc (stO x)) := (Below.refl _ wq).alloc (Nat.le_refl _) _
    have HR4 := hid (HROW.out.below hb4)
    have H1 := hid (zjq x (wq.alloc (stO x)) (HV.out.gr HB1.out) (((HOK.out x hxm).gr HW.out).gr hb4))
    obtain ⟨o, ho⟩ : ∃ o, oneO x.st = o := ⟨_, rfl⟩
    have HOO := hid ho
    rw [ho] at H1
    clear hx hxm hxs hnx hb4 ho
    cases o with
    | none =>
      change Hid (Calls _ _ _ _ fun e w' => e = .returned (.tuple #[.string (str []), .int .i64 80]) ∧ _) at H1
      have HE : Hid (zjr (L.map StR.st) = none) := hid (by
       rw [HO2.out, if_neg]
       intro h
       have := List.all_eq_true.1 h x.st (List.mem_of_getElem? HXS.out)
       rw [HOO.out] at this; cases this)
      go_wp2_with (go_at_call 210; refine H1.out.mono ?_; rintro e w2 ⟨rfl, hb2⟩)
      go_ret2
      exact ⟨by rw [HE.out]; rfl, HB1.out.trans (hb2.mono HB1.out.size)⟩
    | some t =>
      change Hid (Calls _ _ _ _ fun e w' => e = .returned (.tuple #[.string (str t), .int .i64 0]) ∧ _) at H1
      have HT : Hid (oneT x.st = t) := hid (by unfold oneT; rw [HOO.out]; rfl)
      go_wp2_with (go_at_call 210; refine H1.out.mono ?_; rintro e w2 ⟨rfl, hb2⟩; refine Hid.out ?_)
      refine hid ?_
      have hown := HR4.out.below hb2
      unfold OwnS at hown
      have hFk : (((L.map StR.st).take k).map oneT).length = k := by rw [List.length_map, List.length_take, List.length_map]; omega
      rw [hFk] at hown
      have HOW := hid hown
      have HB2 := hid (HB1.out.trans (hb2.mono HB1.out.size))
      clear hb2 HR4 H1 q0 q1 q2 q3 q4 q5 q6 q7 q8 q9 c0 c1 c2 c3 c4 c5 c6 c7 c8 c9
      go_wp2_with (at_builtin; refine wpList_append_own _ rfl _ _ 52 rfl w.heap.size 9 j0 (.string ⟨#[]⟩) 1 16 Tryz.underlying52 hj jz0 jz1 jz2 rfl (by decide) _ _ _ rfl (hown.alloc _) ⟨w2.heap.size, 0, none⟩ 1 1 [encT t] rfl rfl ?c1 ?c2 ?c3 ?c4 ?c5 ?_)
      case c1 => exact zho w2 [encT t] 9
      case c2 => simp [Value.oneCell', encT]
      case c3 => unfold maxLen; omega
      case c4 => omega
      case c5 => have := HB2.out.size; simp; omega
      intro v' w4 hown4 hg4 _
      have HNEXT : Hid (OwnS w4 w.heap.size v' (((L.map StR.st).take (k + 1)).map oneT)) := hid (by
       rw [zfx HXS.out, List.map_append, List.map_singleton, HT.out]
       exact snocS (by rw [List.map_take, List.map_take, List.map_map, List.map_map]; exact hown4) hFk.symm)
      have HALL2 : Hid (((L.map StR.st).take (k + 1)).all (fun s => (oneO s).isSome) = true) := hid (by
       rw [zfx HXS.out, List.all_append, HALL.out]; simp [HOO.out])
      have HBW : Hid (Below w.heap.size w w4) := hid ((HB2.out.alloc HB2.out.size _).grown hg4 (by simp; have := HB2.out.size; omega) (fun j hj => (World.ownsRow.lt HOW.out j hj).1))
      clear hown4 hg4 hown
      go_wp2_with fail
      go_roundw
      case rel => exact ⟨k + 1, by go_num, hlt, HALL2, HNEXT, HBW⟩
      case measure => simp [intOf]; omega
  · have hdec : decide (k < L.length) = false := by simpa using hlt
    have hke : k = L.length := by omega
    have hT : (L.map StR.st).take k = L.map StR.st := List.take_of_length_le (by rw [List.length_map]; omega)
    have HA := hid (show (L.map StR.st).all (fun s => (oneO s).isSome) = true by have := HALL.out; rwa [hT] at this)
    have hrow := HROW.out
    rw [hT] at hrow
    have HJ := hid (zjw ((L.map StR.st).map oneT) u4 w.heap.size wq hrow (fun s hs => by
     obtain ⟨x, _, rfl⟩ := List.mem_map.1 hs
     exact zjt x) (by rw [List.length_map, List.length_map]; exact HPOS.out) (by rw [List.length_map, List.length_map]; exact hl))
    have HO3 := hid (HO2.out.trans (if_pos HA.out))
    have hsz := zbm (Lib.join ((L.map StR.st).map oneT) orB)
    generalize Lib.join ((L.map StR.st).map oneT) orB = jt at *
    clear hrow hT hke
    by_cases h128 : jt.length ≤ 128
    · have d1 : decide ((128 : Int) < (jt.length : Int)) = false := decide_eq_false (by omega)
      have HE := hid (HO3.out.trans (if_pos h128))
      clear HO3 HO2 h128
      go_wp2_with (go_at_call 27; refine HJ.out.mono ?_; rintro e w2 ⟨rfl, hb2⟩)
      go_ret2
      exact ⟨by rw [HE.out]; rfl, HW.out.trans (hb2.mono HW.out.size)⟩
    · have d1 : decide ((128 : Int) < (jt.length : Int)) = true := decide_eq_true (by omega)
      have HE := hid (HO3.out.trans (if_neg h128))
      clear HO3 HO2 h128
      go_wp2_with (go_at_call 27; refine HJ.out.mono ?_; rintro e w2 ⟨rfl, hb2⟩)
      go_ret2
      exact ⟨by rw [HE.out]; rfl, HW.out.trans (hb2.mono HW.out.size)⟩
end SpanC
open Go.RowKit
namespace SpanC
open VerM SpanM StrC TextR VerC
end SpanC
end
end Go.Proofs.YtfbegbmjmhnplaaGreatDoor
