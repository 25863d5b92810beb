/-
  What the proof of EvBoth stands on, part 2.
-/
import Derived.Test.YtfbegbmjmhnplaaGreatDoorT01
set_option linter.unusedSimpArgs false
set_option linter.unusedVariables false
set_option maxHeartbeats 16000000
namespace Go.Proofs.YtfbegbmjmhnplaaGreatDoor
open Go.Lib (hid)
section
open Go.RowKit
namespace VerC
open VerM StrC TextR
theorem zcz (c : Nat) (hc : c < 256) (w : World) :
 Calls Tryz.prog 205 #[.int .u8 (c : Int)] w fun e w' => e = .returned (.bool (decide (48 ≤ c) && decide (c ≤ 57))) ∧ w = w' := by
 have e1 : decide ((48 : Int) ≤ (c : Int)) = decide (48 ≤ c) := by simp only [show ((48 : Int) ≤ (c : Int)) = (48 ≤ c) from propext ⟨fun h => by omega, fun h => by omega⟩]
 have e2 : decide ((c : Int) ≤ (57 : Int)) = decide (c ≤ 57) := by simp only [show ((c : Int) ≤ (57 : Int)) = (c ≤ 57) from propext ⟨fun h => by omega, fun h => by omega⟩]
 rw [← e1, ← e2]
 clear e1 e2
 go_enter Tryz.func205, Tryz.ntmps205
 go_wp2
 all_goals go_ret
 all_goals exact ⟨by first | (simp [*]; done) | (simp [*]; omega), rfl⟩
theorem zda (l : B) (w : World) (hl : l.length ≤ 9223372036854775807) :
 Calls Tryz.prog 181 #[.string (str l)] w fun e w' => e = .returned (.bool (padded l)) ∧ w = w' := by
 have hs := zbm l
 by_cases h1 : 1 < l.length
 · have H := hid (show padded l = decide ((l.getD 0 0).toNat = 48) from zbv h1)
   have hx0 := zbq l 0 0 rfl (by omega)
   have d1 : decide ((1 : Int) < (l.length : Int)) = true := decide_eq_true (by omega)
   generalize l.getD 0 0 = c at *
   have e1 : ((c.toNat : Int) == 48) = decide (c.toNat = 48) := by rw [Bool.eq_iff_iff]; simp; omega
   go_enter Tryz.func181, Tryz.ntmps181
   go_wp2_with fail
   go_ret
   exact ⟨by rw [H.out, ← e1]; rfl, rfl⟩
 · have H := hid (show padded l = false by unfold padded; rw [decide_eq_false h1]; rfl)
   have d1 : decide ((1 : Int) < (l.length : Int)) = false := decide_eq_false (by omega)
   go_enter Tryz.func181, Tryz.ntmps181
   go_wp2_with fail
   go_ret
   exact ⟨by rw [H.out]; rfl, rfl⟩
def kindP (l : B) : Int := if l.all dig then 1 else 0
theorem zdb {l : B} (h : l.all dig = false) : kindP l = 0 := by unfold kindP; rw [h]; rfl
theorem zdc {l : B} (h : l.all dig = true) : kindP l = 1 := by unfold kindP; rw [h]; rfl
theorem zdd (l : B) (w : World) (hl : l.length ≤ 9223372036854775807) :
 Calls Tryz.prog 206 #[.string (str l)] w fun e w' => e = .returned (.int .i64 (kindP l)) ∧ w = w' := by
 have hs := zbm l
 have HX := hid (fun a (h : a < l.length) => zbq l a a rfl h)
 have HS := hid (all_succ dig l)
 have HE := hid (show (l.take l.length).all dig = l.all dig by rw [List.take_length])
 have HNO := hid (fun k h => zdb (all_not dig l k h))
 have HY := hid (fun h => zdc (l := l) h)
 generalize kindP l = r at *
 go_enter Tryz.func206, Tryz.ntmps206
 go_wp2_with fail
 go_loop [3, 6] (fun _ i => ∃ k : Nat, k ≤ l.length ∧ i = .int .i64 k ∧ (l.take k).all dig = true) (fun _ i => l.length - (intOf i).toNat)
 case atStart => exact ⟨0, Nat.zero_le _, rfl, rfl⟩
 case round =>
  obtain ⟨k, hk, rfl, ha⟩ := hrel
  have HQ := hid ha; clear ha
  by_cases hlt : k < l.length
  · have hdec : decide (k < l.length) = true := by simpa using hlt
    have hx := HX.out k hlt
    have hn := hid (HS.out k hlt)
    have HD := hid (show dig (l.getD k 0) = (decide (48 ≤ (l.getD k 0).toNat) && decide ((l.getD k 0).toNat ≤ 57)) from rfl)
    have hc := (l.getD k 0).toNat_lt
    have HC := hid (fun w => zcz (l.getD k 0).toNat hc w)
    rw [← HD.out] at HC
    clear HD hc
    generalize l.getD k 0 = c at *
    generalize dig c = dc at *
    go_wp2_with (go_at_call 205; refine (HC.out _).mono ?_; rintro e w' ⟨rfl, rfl⟩)
    · go_ret
      exact ⟨by rw [HNO.out (k + 1) (by rw [hn.out, HQ.out]; rename_i h; simpa using h)]; rfl, rfl⟩
    · exact ⟨⟨k + 1, by omega, by go_num, by rw [hn.out, HQ.out]; rename_i h; simpa using h⟩, by simp [intOf]; omega⟩
  · have hdec : decide (k < l.length) = false := by simpa using hlt
    have H := hid (HY.out (by rw [← HE.out, show l.length = k from by omega, HQ.out]))
    go_wp2
    go_ret
    exact ⟨by rw [H.out]; rfl, rfl⟩
theorem zde (l : B) : ident l = (decide (1 ≤ l.length) && decide (l.length ≤ 16) && l.all okI && (decide (kindP l = 0) || !padded l)) := by
 unfold ident digs kindP
 by_cases h : 1 ≤ l.length
 · have hne : l ≠ [] := fun e => by rw [e] at h; simp at h
   simp only [hne, ne_eq, not_false_eq_true, decide_true, Bool.and_true]
   cases l.all dig <;> simp
 · simp [h]
theorem zdf {l : B} (h : ¬ (1 ≤ l.length ∧ l.length ≤ 16)) : ident l = false := by
 unfold ident
 have : (decide (1 ≤ l.length) && decide (l.length ≤ 16)) = false := by
  rw [Bool.eq_false_iff]; intro e; simp only [Bool.and_eq_true, decide_eq_true_eq] at e; exact h e
 rw [this]; rfl
theorem zdg {l : B} (h : l.all okI = false) : ident l = false := by unfold ident; rw [h]; simp
theorem zdh {l : B} (h1 : 1 ≤ l.length) (h2 : l.length ≤ 16) (h : l.all okI = true) : ident l = (decide (kindP l = 0) || !padded l) := by
 rw [zde, h, decide_eq_true h1, decide_eq_true h2]; rfl
theorem zdi (l : B) (w : World) (hl : l.length ≤ 9223372036854775807) :
 Calls Tryz.prog 183 #[.string (str l)] w fun e w' => e = .returned (.bool (ident l)) ∧ w = w' := by
 have hs := zbm l
 by_cases hz : 1 ≤ l.length ∧ l.length ≤ 16
 rotate_left
 · have H := hid (zdf hz)
   by_cases h1 : 1 ≤ l.length
   · have d1 : decide ((l.length : Int) < 1) = false := decide_eq_false (by omega)
     have d2 : decide ((16 : Int) < (l.length : Int)) = true := decide_eq_true (by omega)
     clear hz h1
     go_enter Tryz.func183, Tryz.ntmps183
     go_wp2_with fail
     go_ret
     exact ⟨by rw [H.out]; rfl, rfl⟩
   · have d1 : decide ((l.length : Int) < 1) = true := decide_eq_true (by omega)
     clear hz h1
     go_enter Tryz.func183, Tryz.ntmps183
     go_wp2_with fail
     go_ret
     exact ⟨by rw [H.out]; rfl, rfl⟩
 obtain ⟨h1, h2⟩ := hz
 have d1 : decide ((l.length : Int) < 1) = false := decide_eq_false (by omega)
 have d2 : decide ((16 : Int) < (l.length : Int)) = false := decide_eq_false (by omega)
 have HX := hid (fun a (h : a < l.length) => zbq l a a rfl h)
 have HS := hid (all_succ okI l)
 have HE := hid (show (l.take l.length).all okI = l.all okI by rw [List.take_length])
 have HNO := hid (fun k h => zdg (all_not okI l k h))
 have HY := hid (fun h => zdh (l := l) h1 h2 h)
 have HK := hid (fun w => zdd l w hl)
 have HP := hid (fun w => zda l w hl)
 have hkk : kindP l = 0 ∨ kindP l = 1 := by unfold kindP; split <;> simp
 generalize ident l = r at *
 generalize padded l = pd at *
 generalize kindP l = kd at *
 clear h1
 go_enter Tryz.func183, Tryz.ntmps183
 go_wp2_with fail
 clear d1 d2
 go_loop [3, 4, 15] (fun _ _ i => ∃ k : Nat, k ≤ l.length ∧ i = .int .i64 k ∧ (l.take k).all okI = true) (fun _ _ i => l.length - (intOf i).toNat)
 case atStart => exact ⟨0, Nat.zero_le _, rfl, rfl⟩
 case round =>
  obtain ⟨k, hk, rfl, ha⟩ := hrel
  have HQ := hid ha; clear ha
  by_cases hlt : k < l.length
  · have hdec : decide (k < l.length) = true := by simpa using hlt
    have hx := HX.out k hlt
    have hn := HS.out k hlt
    rw [HQ.out, Bool.true_and] at hn
    have HD := hid (show dig (l.getD k 0) = (decide (48 ≤ (l.getD k 0).toNat) && decide ((l.getD k 0).toNat ≤ 57)) from rfl)
    have hc := (l.getD k 0).toNat_lt
    have HC := hid (fun w => zcz (l.getD k 0).toNat hc w)
    rw [← HD.out] at HC
    clear HD hc
    have hok : okI (l.getD k 0) = (dig (l.getD k 0) || (decide ((97 : Int) ≤ ((l.getD k 0).toNat : Int)) && decide (((l.getD k 0).toNat : Int) ≤ 122)) || (((l.getD k 0).toNat : Int) == 45)) := by
     unfold okI
     congr 1
     · congr 1
       congr 1
       · rw [Bool.eq_iff_iff]; simp; omega
       · rw [Bool.eq_iff_iff]; simp; omega
     · rw [Bool.eq_iff_iff]; simp; omega
    rw [hok] at hn
    clear hok
    generalize l.getD k 0 = c at *
    generalize dig c = b0 at *
    generalize hb1 : decide ((97 : Int) ≤ (c.toNat : Int)) = b1 at *
    generalize hb2 : decide ((c.toNat : Int) ≤ 122) = b2 at *
    generalize hb3 : ((c.toNat : Int) == 45) = b3 at *
    have hb4 : ((c.toNat : Int) != 45) = !b3 := by rw [← hb3]; rfl
    have HN := hid hn
    clear hn
    cases b0 <;> cases b1 <;> cases b2 <;> cases b3
    all_goals (go_wp2_with (go_at_call 205; refine (HC.out _).mono ?_; rintro e w' ⟨rfl, rfl⟩))
    all_goals first
     | exact ⟨⟨k + 1, by omega, by go_num, HN.out⟩, by simp [intOf]; omega⟩
     | (go_ret; exact ⟨by rw [HNO.out (k + 1) HN.out]; rfl, rfl⟩)
  · have hdec : decide (k < l.length) = false := by simpa using hlt
    have H := HY.out (by rw [← HE.out, show l.length = k from by omega, HQ.out])
    have HH := hid H
    clear H HNO HY HS HX HE
    rcases hkk with h | h
    · subst h
      go_wp2_with (first
       | (go_at_call 206; refine (HK.out _).mono ?_; rintro e w' ⟨rfl, rfl⟩)
       | (go_at_call 181; refine (HP.out _).mono ?_; rintro e w' ⟨rfl, rfl⟩))
      go_ret
      exact ⟨by rw [HH.out]; rfl, rfl⟩
    · subst h
      go_wp2_with (first
       | (go_at_call 206; refine (HK.out _).mono ?_; rintro e w' ⟨rfl, rfl⟩)
       | (go_at_call 181; refine (HP.out _).mono ?_; rintro e w' ⟨rfl, rfl⟩))
      go_ret
      exact ⟨by rw [HH.out]; rfl, rfl⟩
end VerC
open Go.RowKit
namespace VerC
open VerM StrC TextR
abbrev arrV (x y z : Int) : Value := .agg #[.int .u32 x, .int .u32 y, .int .u32 z]
theorem zdj {P : Program} {fn : Func} {p : Tmp} {ty : TypeId} (h : fn.results = #[.cell p ty]) (tmps : Array Value) (w : World) (g : Nat) (t : TypeId) (cs : Array Value) (fr : Nat × Nat) (d : TypeDesc)
 (hp : tmps.getD p undef = .pointer (some ⟨g, 0, none⟩)) (hg : w.heap[g]? = some (.cells cs t fr))
 (hu : P.underlying ty = some d) (hd : (match d with | .struct _ | .array _ _ => true | _ => false) = true) (hi : (P.info? ty).map (·.size) = some cs.size) :
 (results fn tmps).run P w = .ok (.agg cs) w := by
 have hp' : tmps[p]?.getD undef = .pointer (some ⟨g, 0, none⟩) := by simpa using hp
 simp [results, h, hp', asAddr, run_loadVar_row w g t ty cs fr d hg hu hd hi]
theorem zdk : (Tryz.prog.info? 195).map (·.size) = some 3 := by kernel_rfl
theorem zdl (x y z : Int) (a : Option Addr) (n cap : Nat) (w : World) :
 Calls Tryz.prog 182 #[verV x y z a n cap] w fun e w' => e = .returned (arrV x y z) ∧ Gr w w' := by
 have hnew := heap_alloc_new (w.alloc (verO x y z a n cap)) (.cells #[.int .u32 x, .int .u32 y, .int .u32 z] 195)
 have hsz : (w.alloc (verO x y z a n cap)).heap.size = w.heap.size + 1 := by simp
 rw [hsz] at hnew
 go_enter Tryz.func182, Tryz.ntmps182
 go_wp2_with fail
 refine bodyPost_ret (zdj rfl _ _ (w.heap.size + 1) _ _ _ _ rfl hnew Tryz.underlying195 rfl zdk) rfl ?_
 exact ⟨rfl, ((Gr.refl w).alloc _).alloc _⟩
theorem zdm (x y z : Int) (w : World) :
 Calls Tryz.prog 150 #[arrV x y z] w fun e w' => e = .returned (verV x y z none 0 0) ∧ Gr w w' := by
 have hnew := heap_alloc_new (w.alloc (.cells #[.int .u32 x, .int .u32 y, .int .u32 z] 195)) (verO x y z none 0 0)
 have hsz : (w.alloc (.cells #[.int .u32 x, .int .u32 y, .int .u32 z] 195)).heap.size = w.heap.size + 1 := by simp
 rw [hsz] at hnew
 go_enter Tryz.func150, Tryz.ntmps150
 go_wp2_with fail
 refine bodyPost_ret (zdj rfl _ _ (w.heap.size + 1) _ _ _ _ rfl hnew Tryz.underlying145 rfl zcf) rfl ?_
 exact ⟨rfl, ((Gr.refl w).alloc _).alloc _⟩
theorem zdn (x y z : Int) : (∀ w, (Instr.index 195 (arrV x y z) (.int .i64 0)).run Tryz.prog w = .ok (.int .u32 x) w) ∧ (∀ w, (Instr.index 195 (arrV x y z) (.int .i64 1)).run Tryz.prog w = .ok (.int .u32 y) w) ∧ ∀ w, (Instr.index 195 (arrV x y z) (.int .i64 2)).run Tryz.prog w = .ok (.int .u32 z) w := by
 refine ⟨fun w => ?_, fun w => ?_, fun w => ?_⟩ <;> simp [Instr.index, run_underlying Tryz.underlying195, asIntOf, go_sem]
def mayE (v : Ver) : Int := if may v = true then 0 else 70
theorem zdo {v : Ver} (h : may v = false) : mayE v = 70 := by unfold mayE; rw [h]; rfl
theorem zdp {v : Ver} (h : may v = true) : mayE v = 0 := by unfold mayE; rw [h]; rfl
set_option maxRecDepth 100000 in
theorem pmay_any (v : Ver) (a : Option Addr) (cap : Nat) (w : World) (hT : Txs w a cap v.pre) :
 Calls Tryz.prog 151 #[verV v.a v.b v.c a v.pre.length cap] w fun e w' => e = .returned (.int .i64 (mayE v)) ∧ Gr w w' := by
 obtain ⟨i0, i1, i2⟩ := zdn v.a v.b v.c
 have HN := hid (zdl v.a v.b v.c a v.pre.length cap)
 have hg0 : Gr w (w.alloc (verO v.a v.b v.c a v.pre.length cap)) := (Gr.refl w).alloc _
 have hsz : (w.alloc (verO v.a v.b v.c a v.pre.length cap)).heap.size = w.heap.size + 1 := by simp
 have hnew := heap_alloc_new w (verO v.a v.b v.c a v.pre.length cap)
 have HNO := hid (fun h => may_not (v := v) h)
 have HA := hid (fun k h => zdo (may_no (v := v) (tl_not ident v.pre k h)))
 have HY := hid (fun h1 h2 h3 h4 h => zdp (zbx (v := v) h1 h2 h3 h4 h))
 have HX := hid (fun h => zdo (HNO.out h))
 generalize mayE v = r at *
 clear HNO
 obtain ⟨na, nb, nc, p⟩ := v
 dsimp only at *
 have HG0 := hid hg0
 have HT := hid hT
 have HNEW := hid hnew
 have HSZ := hid hsz
 clear hg0 hT hnew hsz
 by_cases h1 : na ≤ mx
 rotate_left
 · have H := hid (HX.out (fun e => h1 e.1))
   have d1 : decide (2147483647 < (na : Int)) = true := by unfold mx at h1; exact decide_eq_true (by omega)
   clear h1
   go_enter Tryz.func151, Tryz.ntmps151
   go_wp2_with (first
    | (refine wpList_load_row rfl 145 _ rfl w.heap.size rfl _ _ _ _ (heap_alloc_new w _) Tryz.underlying145 rfl zcf ?_)
    | (go_at_call 182; refine (HN.out _).mono ?_; rintro e w1 ⟨rfl, hg1⟩))
   refine wp_loop_rounds 1 ?_
   rw [rounds_succ]
   clear HN HA HY HX HT HNEW HSZ
   go_wp2_with fail
   go_ret
   exact ⟨by rw [H.out]; rfl, HG0.out.trans hg1⟩
 have d1 : decide (2147483647 < (na : Int)) = false := by unfold mx at h1; exact decide_eq_false (by omega)
 by_cases h2 : nb ≤ mx
 rotate_left
 · have H := hid (HX.out (fun e => h2 e.2.1))
   have d2 : decide (2147483647 < (nb : Int)) = true := by unfold mx at h2; exact decide_eq_true (by omega)
   clear h1 h2
   go_enter Tryz.func151, Tryz.ntmps151
   go_wp2_with (first
    | (refine wpList_load_row rfl 145 _ rfl w.heap.size rfl _ _ _ _ (heap_alloc_new w _) Tryz.underlying145 rfl zcf ?_)
    | (go_at_call 182; refine (HN.out _).mono ?_; rintro e w1 ⟨rfl, hg1⟩))
   refine wp_loop_rounds 2 ?_
   rw [rounds_succ]
   clear HN HA HY HX HT HNEW HSZ
   go_wp2_with fail
   rw [rounds_succ]
   go_wp2_with fail
   go_ret
   exact ⟨by rw [H.out]; rfl, HG0.out.trans hg1⟩
 have d2 : decide (2147483647 < (nb : Int)) = false := by unfold mx at h2; exact decide_eq_false (by omega)
 by_cases h3 : nc ≤ mx
 rotate_left
 · have H := hid (HX.out (fun e => h3 e.2.2.1))
   have d3 : decide (2147483647 < (nc : Int)) = true := by unfold mx at h3; exact decide_eq_true (by omega)
   clear h1 h2 h3
   go_enter Tryz.func151, Tryz.ntmps151
   go_wp2_with (first
    | (refine wpList_load_row rfl 145 _ rfl w.heap.size rfl _ _ _ _ (heap_alloc_new w _) Tryz.underlying145 rfl zcf ?_)
    | (go_at_call 182; refine (HN.out _).mono ?_; rintro e w1 ⟨rfl, hg1⟩))
   refine wp_loop_rounds 3 ?_
   rw [rounds_succ]
   clear HN HA HY HX HT HNEW HSZ
   go_wp2_with fail
   rw [rounds_succ]
   go_wp2_with fail
   rw [rounds_succ]
   go_wp2_with fail
   go_ret
   exact ⟨by rw [H.out]; rfl, HG0.out.trans hg1⟩
 have d3 : decide (2147483647 < (nc : Int)) = false := by unfold mx at h3; exact decide_eq_false (by omega)
 have HY2 := hid (HY.out h1 h2 h3)
 have HX2 := hid (fun (h : ¬ p.length ≤ 8) => HX.out (fun e => h e.2.2.2))
 have HS := hid (tl_succ ident p)
 have HE := hid (show (p.take p.length).all ident = p.all ident by rw [List.take_length])
 clear h1 h2 h3 HX HY
 go_enter Tryz.func151, Tryz.ntmps151
 go_wp2_with (first
  | (refine wpList_load_row rfl 145 _ rfl w.heap.size rfl _ _ _ _ (heap_alloc_new w _) Tryz.underlying145 rfl zcf ?_)
  | (go_at_call 182; refine (HN.out _).mono ?_; rintro e w1 ⟨rfl, hg1⟩))
 have hr1 := (hg1.below.block w.heap.size (by rw [HSZ.out]; omega)).trans HNEW.out
 have HT1 := hid (HT.out.gr (HG0.out.trans hg1).below)
 have HG1 := hid (HG0.out.trans hg1)
 obtain ⟨q0, q1, q2, q3⟩ := zch hr1
 clear hg1 hr1 HN HT HG0 HNEW HSZ
 refine wp_loop_rounds 4 ?_
 rw [rounds_succ]
 go_wp2_with fail
 rw [rounds_succ]
 go_wp2_with fail
 rw [rounds_succ]
 go_wp2_with fail
 rw [rounds_succ]
 by_cases h4 : p.length ≤ 8
 rotate_left
 · have H := hid (HX2.out h4)
   have d4 : decide (8 < (p.length : Int)) = true := decide_eq_true (by omega)
   go_wp2_with fail
   go_ret
   exact ⟨by rw [H.out]; rfl, HG1.out⟩
 have d4 : decide (8 < (p.length : Int)) = false := decide_eq_false (by omega)
 have HY3 := hid (HY2.out h4)
 clear HY2 HX2 i0 i1 i2 d1 d2 d3
 go_wp2_with fail
 clear q0 q1 q2 q3
 go_loop [6, 22] (fun _ i => ∃ k : Nat, k ≤ p.length ∧ i = .int .i64 k ∧ (p.take k).all ident = true) (fun _ i => p.length - (intOf i).toNat)
 case atStart => exact ⟨0, Nat.zero_le _, rfl, rfl⟩
 case round =>
  obtain ⟨k, hk, rfl, ha⟩ := hrel
  have HQ := hid ha; clear ha
  by_cases hlt : k < p.length
  · have hdec : decide (k < p.length) = true := by simpa using hlt
    have hn := hid (HS.out k hlt)
    obtain ⟨b, o, rfl, hc⟩ := HT1.out.cells (by omega)
    have hck := hc k hlt
    have hsl := HT1.out.mem k hlt
    clear hc
    generalize p.getD k [] = s at *
    have HI := hid (fun w => zdi s w (by omega))
    generalize ident s = is at *
    go_wp2_with (go_at_call 183; refine (HI.out _).mono ?_; rintro e w' ⟨rfl, rfl⟩)
    · go_ret
      exact ⟨by rw [HA.out (k + 1) (by rw [hn.out, HQ.out]; rename_i h; simpa using h)]; rfl, HG1.out⟩
    · exact ⟨⟨k + 1, by omega, by go_num, by rw [hn.out, HQ.out]; rename_i h; simpa using h⟩, by simp [intOf]; omega⟩
  · have hdec : decide (k < p.length) = false := by simpa using hlt
    have H := hid (HY3.out (by rw [← HE.out, show p.length = k from by omega, HQ.out]))
    go_wp2
    go_ret
    exact ⟨by rw [H.out]; rfl, HG1.out⟩
end VerC
end
end Go.Proofs.YtfbegbmjmhnplaaGreatDoor
