/-
  What the proof of EvBoth stands on, part 7.
-/
import Derived.Deep.MidRow
import Derived.Laws.AppendOwnNone
import Derived.Test.YtfbegbmjmhnplaaGreatDoorT06
set_option linter.unusedSimpArgs false
set_option linter.unusedVariables false
set_option maxHeartbeats 16000000
namespace Go.Proofs.YtfbegbmjmhnplaaGreatDoor
open Go.Lib (hid)
section
open Go.RowKit
namespace SpanC
open VerM SpanM StrC TextR VerC
structure EdR where
 v : Ver
 a : Option Addr
 c : Nat
 s : Nat
structure StR where
 f : EdR
 t : EdR
def EdR.ed (x : EdR) : Ed := ⟨x.v, x.s⟩
def StR.st (x : StR) : St := ⟨x.f.ed, x.t.ed⟩
abbrev edL (x : EdR) : List Value := [.int .u32 x.v.a, .int .u32 x.v.b, .int .u32 x.v.c, .slice x.a x.v.pre.length x.c, .int .i64 x.s]
abbrev stL (x : StR) : List Value := [.int .u32 x.f.v.a, .int .u32 x.f.v.b, .int .u32 x.f.v.c, .slice x.f.a x.f.v.pre.length x.f.c, .int .i64 x.f.s, .int .u32 x.t.v.a, .int .u32 x.t.v.b, .int .u32 x.t.v.c, .slice x.t.a x.t.v.pre.length x.t.c, .int .i64 x.t.s]
abbrev edV (x : EdR) : Value := .agg (edL x).toArray
abbrev stV (x : StR) : Value := .agg (stL x).toArray
abbrev edO (x : EdR) : Obj := .cells (edL x).toArray 264
abbrev stO (x : StR) : Obj := .cells (stL x).toArray 266
structure EdOk (w : World) (x : EdR) : Prop where
 wf : wfE x.ed
 txs : Txs w x.a x.c x.v.pre
 kind : ∀ b f, x.a = some ⟨b, f, none⟩ → IsText w b
 nil : x.a = none → x.v.pre.length = 0 ∧ x.c = 0
theorem EdOk.gr {w w' : World} {x : EdR} (h : EdOk w x) (g : Below w.heap.size w w') : EdOk w' x := ⟨h.wf, h.txs.gr g, fun b f e => (h.kind b f e).below g, h.nil⟩
structure EdX (w : World) (x : EdR) : Prop where
 wf : wfE x.ed
 txs : Txs w x.a x.c x.v.pre
theorem EdOk.x {w : World} {x : EdR} (h : EdOk w x) : EdX w x := ⟨h.wf, h.txs⟩
structure StOk (w : World) (x : StR) : Prop where
 f : EdOk w x.f
 t : EdOk w x.t
theorem StOk.gr {w w' : World} {x : StR} (h : StOk w x) (g : Below w.heap.size w w') : StOk w' x := ⟨h.f.gr g, h.t.gr g⟩
theorem zgn {w : World} {g : Nat} {x : StR} (h : w.heap[g]? = some (stO x)) :
 w.cell? ⟨g, 0, none⟩ = some (.int .u32 x.f.v.a) ∧ w.cell? ⟨g, 1, none⟩ = some (.int .u32 x.f.v.b) ∧ w.cell? ⟨g, 2, none⟩ = some (.int .u32 x.f.v.c) ∧ w.cell? ⟨g, 3, none⟩ = some (.slice x.f.a x.f.v.pre.length x.f.c) ∧ w.cell? ⟨g, 4, none⟩ = some (.int .i64 x.f.s) ∧
 w.cell? ⟨g, 5, none⟩ = some (.int .u32 x.t.v.a) ∧ w.cell? ⟨g, 6, none⟩ = some (.int .u32 x.t.v.b) ∧ w.cell? ⟨g, 7, none⟩ = some (.int .u32 x.t.v.c) ∧ w.cell? ⟨g, 8, none⟩ = some (.slice x.t.a x.t.v.pre.length x.t.c) ∧ w.cell? ⟨g, 9, none⟩ = some (.int .i64 x.t.s) := by
 refine ⟨?_, ?_, ?_, ?_, ?_, ?_, ?_, ?_, ?_, ?_⟩ <;> simp [World.cell?, h]
theorem zgo {w : World} {g : Nat} {x : EdR} (h : w.heap[g]? = some (edO x)) :
 w.cell? ⟨g, 0, none⟩ = some (.int .u32 x.v.a) ∧ w.cell? ⟨g, 1, none⟩ = some (.int .u32 x.v.b) ∧ w.cell? ⟨g, 2, none⟩ = some (.int .u32 x.v.c) ∧ w.cell? ⟨g, 3, none⟩ = some (.slice x.a x.v.pre.length x.c) ∧ w.cell? ⟨g, 4, none⟩ = some (.int .i64 x.s) := by
 refine ⟨?_, ?_, ?_, ?_, ?_⟩ <;> simp [World.cell?, h]
theorem zgp (x y : Nat) (w : World) : Calls Tryz.prog 257 #[.int .i64 x, .int .i64 y] w fun e w' => e = .returned (.int .i64 (cmpN x y)) ∧ w = w' := by
 have H := hid (show cmpN x y = if x < y then -1 else if y < x then 1 else 0 from rfl)
 generalize cmpN x y = r at *
 go_enter Tryz.func257, Tryz.ntmps257
 go_wp2
 all_goals go_ret
 all_goals exact ⟨by rw [H.out]; (repeat' split) <;> first | rfl | omega, rfl⟩
theorem zgq {v u : Ver} (h1 : may v = true) (h2 : may u = true) : VerC.cmpE v u = .returned (.tuple #[.int .i64 (cmpV v u), .int .i64 0]) := by unfold VerC.cmpE; rw [h1, h2]; rfl
set_option maxRecDepth 100000 in
theorem zgr (x y : EdR) (w : World) (hx : EdX w x) (hy : EdX w y) :
 Calls Tryz.prog 237 #[edV x, edV y] w fun e w' => e = .returned (.int .i64 (cE x.ed y.ed)) ∧ Gr w w' := by
 have HV : Hid (cE x.ed y.ed = _) := hid (cE_is hx.wf hy.wf)
 have HX := hid hx
 have HY := hid hy
 have H1 := hid (fun w' (g : Gr w w') => (zfc x.v y.v x.a x.c y.a y.c w' (hx.txs.gr g.below) (hy.txs.gr g.below)).mono fun _ _ h => And.intro (h.1.trans (zgq hx.wf.1 hy.wf.1)) h.2)
 have HS := hid (fun w => zgp x.s y.s w)
 have sx := hx.wf.2.1
 have sy := hy.wf.2.1
 change x.s ≤ 2 at sx
 change y.s ≤ 2 at sy
 clear hx hy
 obtain ⟨vx, ax, cx, s1⟩ := x
 obtain ⟨vy, ay, cy, s2⟩ := y
 dsimp only [EdR.ed] at *
 generalize cE ⟨vx, s1⟩ ⟨vy, s2⟩ = r at *
 have hw1 := heap_alloc_old (w.alloc (edO ⟨vx, ax, cx, s1⟩)) (edO ⟨vy, ay, cy, s2⟩) (r := w.heap.size) (by simp)
 have hn1 := hw1.trans (heap_alloc_new w (edO ⟨vx, ax, cx, s1⟩))
 have hn2 := heap_alloc_new (w.alloc (edO ⟨vx, ax, cx, s1⟩)) (edO ⟨vy, ay, cy, s2⟩)
 have hs1 : (w.alloc (edO ⟨vx, ax, cx, s1⟩)).heap.size = w.heap.size + 1 := by simp
 rw [hs1] at hn2
 have HG : Hid (Gr w ((w.alloc (edO ⟨vx, ax, cx, s1⟩)).alloc (edO ⟨vy, ay, cy, s2⟩))) := hid (((Gr.refl w).alloc _).alloc _)
 clear hw1 hs1
 obtain ⟨q0, q1, q2, q3, q4⟩ := zgo hn1
 obtain ⟨p0, p1, p2, p3, p4⟩ := zgo hn2
 clear hn1 hn2
 by_cases h1 : s1 = 2
 · subst h1
   have HR := hid (show r = cmpN 2 s2 from HV.out.trans (if_pos (.inl rfl)))
   clear HV H1
   go_enter Tryz.func237, Tryz.ntmps237
   go_wp2_with (go_at_call 257; refine (HS.out _).mono ?_; rintro e w' ⟨rfl, rfl⟩)
   go_ret
   exact ⟨by rw [HR.out]; rfl, HG.out⟩
 have d1 : ((s1 : Int) == 2) = false := beq_eq_false_iff_ne.2 (by omega)
 by_cases h2 : s2 = 2
 · subst h2
   have HR := hid (show r = cmpN s1 2 from HV.out.trans (if_pos (.inr rfl)))
   clear HV H1
   go_enter Tryz.func237, Tryz.ntmps237
   go_wp2_with (go_at_call 257; refine (HS.out _).mono ?_; rintro e w' ⟨rfl, rfl⟩)
   go_ret
   exact ⟨by rw [HR.out]; rfl, HG.out⟩
 have d2 : ((s2 : Int) == 2) = false := beq_eq_false_iff_ne.2 (by omega)
 have HR := hid (show r = if cmpV vx vy ≠ 0 then cmpV vx vy else cmpN s1 s2 from HV.out.trans (if_neg (fun h => h.elim h1 h2)))
 clear HV h1 h2
 generalize cmpV vx vy = c at *
 by_cases hc : c = 0
 · subst hc
   have HQ4 := hid q4
   have HP4 := hid p4
   go_enter Tryz.func237, Tryz.ntmps237
   go_wp2_with (go_at_call 258; refine (H1.out _ HG.out).mono ?_; rintro e w' ⟨rfl, hg⟩; refine Hid.out ?_)
   refine hid ?_
   have hq4 := (hg.below.cell (World.block_lt_of_cell? _ _ HQ4.out)).trans HQ4.out
   have hp4 := (hg.below.cell (World.block_lt_of_cell? _ _ HP4.out)).trans HP4.out
   have HG2 := hid (HG.out.trans hg)
   have HR2 := hid (HR.out.trans (if_neg (by simp)))
   clear q0 q1 q2 q3 q4 p0 p1 p2 p3 p4 HQ4 HP4 hg HR
   go_wp2_with (go_at_call 257; refine (HS.out _).mono ?_; rintro e w' ⟨rfl, rfl⟩)
   go_ret
   exact ⟨by rw [HR2.out]; rfl, HG2.out⟩
 · have dc : (c != 0) = true := by rw [bne_iff_ne]; exact hc
   have HR2 := hid (HR.out.trans (if_pos hc))
   clear HR hc
   go_enter Tryz.func237, Tryz.ntmps237
   go_wp2_with (go_at_call 258; refine (H1.out _ HG.out).mono ?_; rintro e w' ⟨rfl, hg⟩)
   go_ret
   exact ⟨by rw [HR2.out]; rfl, HG.out.trans hg⟩
theorem zgs (x y : EdR) (w : World) (hx : EdOk w x) (hy : EdOk w y) :
 Calls Tryz.prog 237 #[edV x, edV y] w fun e w' => e = .returned (.int .i64 (cE x.ed y.ed)) ∧ Gr w w' := zgr x y w hx.x hy.x
def empB (s : St) : Bool := decide (0 ≤ cE s.f s.t)
set_option maxRecDepth 100000 in
theorem zgt (x : StR) (w : World) (hx : StOk w x) :
 Calls Tryz.prog 234 #[stV x] w fun e w' => e = .returned (.bool (empB x.st)) ∧ Gr w w' := by
 have HX := hid (hx.gr ((Below.refl _ w).alloc (Nat.le_refl _) (stO x)))
 have HG : Hid (Gr w (w.alloc (stO x))) := hid ((Gr.refl w).alloc _)
 have H := hid (zgs x.f x.t _ HX.out.f HX.out.t)
 obtain ⟨q0, q1, q2, q3, q4, q5, q6, q7, q8, q9⟩ := zgn (heap_alloc_new w (stO x))
 obtain ⟨r, hr⟩ : ∃ r, cE x.f.ed x.t.ed = r := ⟨_, rfl⟩
 rw [hr] at H
 have HE : Hid (empB x.st = decide (0 ≤ r)) := hid (by rw [← hr]; rfl)
 obtain ⟨⟨vx, ax, cx, s1⟩, ⟨vy, ay, cy, s2⟩⟩ := x
 dsimp only at *
 clear hx hr HX
 go_enter Tryz.func234, Tryz.ntmps234
 go_wp2_with (go_at_call 237; refine H.out.mono ?_; rintro e w' ⟨rfl, hg⟩)
 go_ret
 exact ⟨by rw [HE.out]; rfl, HG.out.trans hg⟩
def meetR (s t : StR) : StR := ⟨if cE s.f.ed t.f.ed < 0 then t.f else s.f, if 0 < cE s.t.ed t.t.ed then t.t else s.t⟩
theorem zgu (s t : StR) : (meetR s t).st = meetS s.st t.st := by
 unfold meetR meetS StR.st
 congr 1
 · dsimp only; split <;> rfl
 · dsimp only; split <;> rfl
theorem zgv {w : World} {s t : StR} (h1 : StOk w s) (h2 : StOk w t) : StOk w (meetR s t) := by
 unfold meetR
 refine ⟨?_, ?_⟩
 · dsimp only; split
   · exact h2.f
   · exact h1.f
 · dsimp only; split
   · exact h2.t
   · exact h1.t
theorem zgw : (Tryz.prog.info? 266).map (·.size) = some 10 := by kernel_rfl
theorem zgx : (Tryz.prog.info? 264).map (·.size) = some 5 := by kernel_rfl
theorem zgy (x : StR) : ((stL x).toArray.all (·.oneCell')) = true := by simp [Value.oneCell']
theorem zgz (x : EdR) : ((edL x).toArray.all (·.oneCell')) = true := by simp [Value.oneCell']
theorem zha (w : World) (g : Nat) : ∀ (o : Nat) (vs : List Value), (w.setCells g o vs).heap.size = w.heap.size := by
 intro o vs
 induction vs generalizing o w with
 | nil => rfl
 | cons v r ih => rw [World.setCells, ih]; simp
theorem zhb (w : World) (g : Nat) {k : Nat} (hk : k ≠ g) : ∀ (o : Nat) (vs : List Value), (w.setCells g o vs).heap[k]? = w.heap[k]? := by
 intro o vs
 induction vs generalizing o w with
 | nil => rfl
 | cons v r ih => rw [World.setCells, ih]; exact zcl o v hk
theorem zhc {w w' : World} (h : Gr w w') (g o : Nat) (vs : List Value) (hg : w.heap.size ≤ g) : Gr w (w'.setCells g o vs) := by
 induction vs generalizing o w' with
 | nil => exact h
 | cons v r ih => rw [World.setCells]; exact ih (h.set g o v hg) (o + 1)
theorem zhd {w w' : World} (h : Gr w w') {g : Nat} (hg : w.heap.size ≤ g) (cs : Array Value) : Gr w (w'.setRow g cs) := ⟨below_setRow h.below hg cs, h.drawn⟩
theorem zhe {w : World} {g o n : Nat} {cs : Array Value} {t : TypeId} (h : w.heap[g]? = some (.cells cs t (0, 0))) (hn : o + n ≤ cs.size) : w.there g o n := fun j hj => by
 refine ⟨?_, by simp [World.frozen?, h]⟩
 simp [World.cell?, h, show o + j < cs.size by omega]
theorem zhf {w : World} {g : Nat} {x : StR} (h : w.heap[g]? = some (stO x)) (e : EdR) : ∃ w', w.setCells g 0 (edL e) = w' ∧ w'.heap[g]? = some (stO ⟨e, x.t⟩) ∧ (∀ k, k ≠ g → w'.heap[k]? = w.heap[k]?) ∧ (∀ w0, Gr w0 w → w0.heap.size ≤ g → Gr w0 w') ∧ ∀ n, n < w.heap.size → n < w'.heap.size :=
 ⟨_, rfl, zck (zck (zck (zck (zck h 0 _) 1 _) 2 _) 3 _) 4 _, fun k hk => zhb w g hk _ _, fun w0 h0 hg => zhc h0 g _ _ hg, fun n hn => by rw [zha]; exact hn⟩
theorem zhg {w : World} {g : Nat} {x : StR} (h : w.heap[g]? = some (stO x)) (e : EdR) : ∃ w', w.setCells g 5 (edL e) = w' ∧ w'.heap[g]? = some (stO ⟨x.f, e⟩) ∧ (∀ k, k ≠ g → w'.heap[k]? = w.heap[k]?) ∧ (∀ w0, Gr w0 w → w0.heap.size ≤ g → Gr w0 w') ∧ ∀ n, n < w.heap.size → n < w'.heap.size :=
 ⟨_, rfl, zck (zck (zck (zck (zck h 5 _) 6 _) 7 _) 8 _) 9 _, fun k hk => zhb w g hk _ _, fun w0 h0 hg => zhc h0 g _ _ hg, fun n hn => by rw [zha]; exact hn⟩
set_option maxRecDepth 100000 in
theorem zhh (x y : StR) (w : World) (hx : StOk w x) (hy : StOk w y) :
 Calls Tryz.prog 232 #[stV x, stV y] w fun e w' => e = .returned (stV (meetR x y)) ∧ Gr w w' := by
 have HX := hid hx
 have HY := hid hy
 have H1 := hid (fun w' (g : Gr w w') => zgs x.f y.f w' (hx.f.gr g.below) (hy.f.gr g.below))
 have H2 := hid (fun w' (g : Gr w w') => zgs x.t y.t w' (hx.t.gr g.below) (hy.t.gr g.below))
 obtain ⟨r1, hr1⟩ : ∃ r, cE x.f.ed y.f.ed = r := ⟨_, rfl⟩
 obtain ⟨r2, hr2⟩ : ∃ r, cE x.t.ed y.t.ed = r := ⟨_, rfl⟩
 have HM : Hid (meetR x y = ⟨if r1 < 0 then y.f else x.f, if 0 < r2 then y.t else x.t⟩) := hid (by unfold meetR; rw [hr1, hr2])
 rw [hr1] at H1
 rw [hr2] at H2
 clear hr1 hr2 hx hy HX HY
 obtain ⟨⟨vx, ax, cx, s1⟩, ⟨vx2, ax2, cx2, s12⟩⟩ := x
 obtain ⟨⟨vy, ay, cy, s2⟩, ⟨vy2, ay2, cy2, s22⟩⟩ := y
 dsimp only at *
 have hnew := heap_alloc_new w (stO ⟨⟨vx, ax, cx, s1⟩, ⟨vx2, ax2, cx2, s12⟩⟩)
 have hz1 : (w.alloc (stO ⟨⟨vx, ax, cx, s1⟩, ⟨vx2, ax2, cx2, s12⟩⟩)).heap.size = w.heap.size + 1 := by simp
 have hz2 : ((w.alloc (stO ⟨⟨vx, ax, cx, s1⟩, ⟨vx2, ax2, cx2, s12⟩⟩)).alloc (stO ⟨⟨vy, ay, cy, s2⟩, ⟨vy2, ay2, cy2, s22⟩⟩)).heap.size = w.heap.size + 2 := by simp
 have hA3 := (heap_alloc_old ((w.alloc (stO ⟨⟨vx, ax, cx, s1⟩, ⟨vx2, ax2, cx2, s12⟩⟩)).alloc (stO ⟨⟨vy, ay, cy, s2⟩, ⟨vy2, ay2, cy2, s22⟩⟩)) (.cells #[.int .u32 0, .int .u32 0, .int .u32 0, .slice none 0 0, .int .i64 0, .int .u32 0, .int .u32 0, .int .u32 0, .slice none 0 0, .int .i64 0] 266) (r := w.heap.size) (by omega)).trans
  ((heap_alloc_old (w.alloc (stO ⟨⟨vx, ax, cx, s1⟩, ⟨vx2, ax2, cx2, s12⟩⟩)) (stO ⟨⟨vy, ay, cy, s2⟩, ⟨vy2, ay2, cy2, s22⟩⟩) (r := w.heap.size) (by omega)).trans hnew)
 have hB2 := heap_alloc_new (w.alloc (stO ⟨⟨vx, ax, cx, s1⟩, ⟨vx2, ax2, cx2, s12⟩⟩)) (stO ⟨⟨vy, ay, cy, s2⟩, ⟨vy2, ay2, cy2, s22⟩⟩)
 rw [hz1] at hB2
 have hB3 := (heap_alloc_old ((w.alloc (stO ⟨⟨vx, ax, cx, s1⟩, ⟨vx2, ax2, cx2, s12⟩⟩)).alloc (stO ⟨⟨vy, ay, cy, s2⟩, ⟨vy2, ay2, cy2, s22⟩⟩)) (.cells #[.int .u32 0, .int .u32 0, .int .u32 0, .slice none 0 0, .int .i64 0, .int .u32 0, .int .u32 0, .int .u32 0, .slice none 0 0, .int .i64 0] 266) (r := w.heap.size + 1) (by omega)).trans
  hB2
 have hC3 := heap_alloc_new ((w.alloc (stO ⟨⟨vx, ax, cx, s1⟩, ⟨vx2, ax2, cx2, s12⟩⟩)).alloc (stO ⟨⟨vy, ay, cy, s2⟩, ⟨vy2, ay2, cy2, s22⟩⟩)) (.cells #[.int .u32 0, .int .u32 0, .int .u32 0, .slice none 0 0, .int .i64 0, .int .u32 0, .int .u32 0, .int .u32 0, .slice none 0 0, .int .i64 0] 266)
 rw [hz2] at hC3
 have hs3 : w.heap.size + 2 < (((w.alloc (stO ⟨⟨vx, ax, cx, s1⟩, ⟨vx2, ax2, cx2, s12⟩⟩)).alloc (stO ⟨⟨vy, ay, cy, s2⟩, ⟨vy2, ay2, cy2, s22⟩⟩)).alloc (.cells #[.int .u32 0, .int .u32 0, .int .u32 0, .slice none 0 0, .int .i64 0, .int .u32 0, .int .u32 0, .int .u32 0, .slice none 0 0, .int .i64 0] 266)).heap.size := (Array.getElem?_eq_some_iff.1 hC3).1
 have HG3 : Hid (Gr w (((w.alloc (stO ⟨⟨vx, ax, cx, s1⟩, ⟨vx2, ax2, cx2, s12⟩⟩)).alloc (stO ⟨⟨vy, ay, cy, s2⟩, ⟨vy2, ay2, cy2, s22⟩⟩)).alloc (.cells #[.int .u32 0, .int .u32 0, .int .u32 0, .slice none 0 0, .int .i64 0, .int .u32 0, .int .u32 0, .int .u32 0, .slice none 0 0, .int .i64 0] 266))) := hid ((((Gr.refl w).alloc _).alloc _).alloc _)
 clear hnew hz1 hz2 hB2
 --<meet
 by_cases h1 : r1 < 0 <;> by_cases h2 : 0 < r2
 · have d1 : decide (r1 < 0) = true := decide_eq_true h1
   have d2 : decide (0 < r2) = true := decide_eq_true h2
   have HMM : Hid (meetR ⟨⟨vx, ax, cx, s1⟩, ⟨vx2, ax2, cx2, s12⟩⟩ ⟨⟨vy, ay, cy, s2⟩, ⟨vy2, ay2, cy2, s22⟩⟩ = ⟨⟨vy, ay, cy, s2⟩, ⟨vy2, ay2, cy2, s22⟩⟩) := hid (by rw [HM.out, if_pos h1, if_pos h2])
   clear h1 h2 HM
   go_enter Tryz.func232, Tryz.ntmps232
   go_wp2_with fail
   generalize ((w.alloc (stO ⟨⟨vx, ax, cx, s1⟩, ⟨vx2, ax2, cx2, s12⟩⟩)).alloc (stO ⟨⟨vy, ay, cy, s2⟩, ⟨vy2, ay2, cy2, s22⟩⟩)).alloc (.cells #[.int .u32 0, .int .u32 0, .int .u32 0, .slice none 0 0, .int .i64 0, .int .u32 0, .int .u32 0, .int .u32 0, .slice none 0 0, .int .i64 0] 266) = W3 at *
   refine (H1.out W3 HG3.out).mono ?_
   rintro e w4 ⟨rfl, hg4⟩
   refine Hid.out ?_
   refine hid ?_
   have hA4 := (hg4.below.block _ (by omega)).trans hA3
   have hB4 := (hg4.below.block _ (by omega)).trans hB3
   have hC4 := (hg4.below.block _ (by omega)).trans hC3
   have hs4 : w.heap.size + 2 < w4.heap.size := Nat.lt_of_lt_of_le hs3 hg4.below.size
   have HG4 := hid (HG3.out.trans hg4)
   clear hg4 hA3 hB3 hC3 HG3 H1 hs3
   obtain ⟨p0, p1, p2, p3, p4, p5, p6, p7, p8, p9⟩ := zgn hB4
   obtain ⟨w5, e5, hA5, hE5, hG5, hs5'⟩ := zhf hA4 ⟨vy, ay, cy, s2⟩
   have hB5 := hid ((hE5 _ (by omega : w.heap.size + 1 ≠ w.heap.size)).trans hB4)
   have hC5 := (hE5 _ (by omega : w.heap.size + 2 ≠ w.heap.size)).trans hC4
   have HG5 := hid (hG5 _ HG4.out (Nat.le_refl _))
   have hs5 := hs5' _ hs4
   have HT := hid (zhe (o := 0) (n := 5) hA4 (by simp))
   have HA5 := hid hA5
   have HE5 := hid e5
   clear hA4 hB4 hC4 HG4 hE5 hG5 hs4 hA5 hs5' e5
   go_wp2_with (refine wpList_store_mid rfl 264 _ _ rfl w.heap.size 0 (edL ⟨vy, ay, cy, s2⟩).toArray rfl rfl HT.out zgx (zgz _) ?_; change wpList _ _ _ _ _ (w4.setCells w.heap.size 0 (edL ⟨vy, ay, cy, s2⟩)); rw [HE5.out]; clear HT HE5 p0 p1 p2 p3 p4 p5 p6 p7 p8 p9; have hA5 := HA5.out; have hB5 := hB5.out; obtain ⟨q0, q1, q2, q3, q4, q5, q6, q7, q8, q9⟩ := zgn hA5; obtain ⟨p0, p1, p2, p3, p4, p5, p6, p7, p8, p9⟩ := zgn hB5)
   refine (H2.out _ HG5.out).mono ?_
   rintro e w6 ⟨rfl, hg6⟩
   refine Hid.out ?_
   refine hid ?_
   have hA6 := (hg6.below.block _ (by omega)).trans hA5
   have hB6 := (hg6.below.block _ (by omega)).trans hB5
   have hC6 := (hg6.below.block _ (by omega)).trans hC5
   have HG6 := hid (HG5.out.trans hg6)
   clear hs5 hg6 hA5 hB5 hC5 HG5 H2 q0 q1 q2 q3 q4 q5 q6 q7 q8 q9 p0 p1 p2 p3 p4 p5 p6 p7 p8 p9
   obtain ⟨p0, p1, p2, p3, p4, p5, p6, p7, p8, p9⟩ := zgn hB6
   obtain ⟨w7, e7, hA7, hE7, hG7, -⟩ := zhg hA6 ⟨vy2, ay2, cy2, s22⟩
   have hC7 := (hE7 _ (by omega : w.heap.size + 2 ≠ w.heap.size)).trans hC6
   have HG7 := hid (hG7 _ HG6.out (Nat.le_refl _))
   have HT := hid (zhe (o := 5) (n := 5) hA6 (by simp))
   have HC7 := hid hC7
   have HA7 := hid hA7
   have HE7 := hid e7
   clear hB6 hC6 HG6 hE7 hG7 hA6 hA7 hC7 e7
   go_wp2_with (first
    | (refine wpList_store_row rfl 266 _ _ rfl (w.heap.size + 2) (stL ⟨⟨vy, ay, cy, s2⟩, ⟨vy2, ay2, cy2, s22⟩⟩).toArray rfl rfl _ _ hC8 zgw rfl (zgy _) ?_)
    | (refine wpList_store_mid rfl 264 _ _ rfl w.heap.size 5 (edL ⟨vy2, ay2, cy2, s22⟩).toArray rfl rfl HT.out zgx (zgz _) ?_; change wpList _ _ _ _ _ (w6.setCells w.heap.size 5 (edL ⟨vy2, ay2, cy2, s22⟩)); rw [HE7.out]; clear HT HE7 p0 p1 p2 p3 p4 p5 p6 p7 p8 p9; have hC8 := HC7.out; obtain ⟨q0, q1, q2, q3, q4, q5, q6, q7, q8, q9⟩ := zgn HA7.out))
   have hC7 := HC7.out
   refine bodyPost_ret (results_cell_row rfl _ _ (w.heap.size + 2) _ (stL ⟨⟨vy, ay, cy, s2⟩, ⟨vy2, ay2, cy2, s22⟩⟩).toArray _ _ rfl (setRow_heap _ _ _ _ _ _ hC7) Tryz.underlying266 rfl zgw) rfl ?_
   exact ⟨by rw [HMM.out], zhd HG7.out (by omega) _⟩
 · have d1 : decide (r1 < 0) = true := decide_eq_true h1
   have d2 : decide (0 < r2) = false := decide_eq_false h2
   have HMM : Hid (meetR ⟨⟨vx, ax, cx, s1⟩, ⟨vx2, ax2, cx2, s12⟩⟩ ⟨⟨vy, ay, cy, s2⟩, ⟨vy2, ay2, cy2, s22⟩⟩ = ⟨⟨vy, ay, cy, s2⟩, ⟨vx2, ax2, cx2, s12⟩⟩) := hid (by rw [HM.out, if_pos h1, if_neg h2])
   clear h1 h2 HM
   go_enter Tryz.func232, Tryz.ntmps232
   go_wp2_with fail
   generalize ((w.alloc (stO ⟨⟨vx, ax, cx, s1⟩, ⟨vx2, ax2, cx2, s12⟩⟩)).alloc (stO ⟨⟨vy, ay, cy, s2⟩, ⟨vy2, ay2, cy2, s22⟩⟩)).alloc (.cells #[.int .u32 0, .int .u32 0, .int .u32 0, .slice none 0 0, .int .i64 0, .int .u32 0, .int .u32 0, .int .u32 0, .slice none 0 0, .int .i64 0] 266) = W3 at *
   refine (H1.out W3 HG3.out).mono ?_
   rintro e w4 ⟨rfl, hg4⟩
   refine Hid.out ?_
   refine hid ?_
   have hA4 := (hg4.below.block _ (by omega)).trans hA3
   have hB4 := (hg4.below.block _ (by omega)).trans hB3
   have hC4 := (hg4.below.block _ (by omega)).trans hC3
   have hs4 : w.heap.size + 2 < w4.heap.size := Nat.lt_of_lt_of_le hs3 hg4.below.size
   have HG4 := hid (HG3.out.trans hg4)
   clear hg4 hA3 hB3 hC3 HG3 H1 hs3
   obtain ⟨p0, p1, p2, p3, p4, p5, p6, p7, p8, p9⟩ := zgn hB4
   obtain ⟨w5, e5, hA5, hE5, hG5, hs5'⟩ := zhf hA4 ⟨vy, ay, cy, s2⟩
   have hB5 := hid ((hE5 _ (by omega : w.heap.size + 1 ≠ w.heap.size)).trans hB4)
   have hC5 := (hE5 _ (by omega : w.heap.size + 2 ≠ w.heap.size)).trans hC4
   have HG5 := hid (hG5 _ HG4.out (Nat.le_refl _))
   have hs5 := hs5' _ hs4
   have HT := hid (zhe (o := 0) (n := 5) hA4 (by simp))
   have HA5 := hid hA5
   have HE5 := hid e5
   clear hA4 hB4 hC4 HG4 hE5 hG5 hs4 hA5 hs5' e5
   go_wp2_with (refine wpList_store_mid rfl 264 _ _ rfl w.heap.size 0 (edL ⟨vy, ay, cy, s2⟩).toArray rfl rfl HT.out zgx (zgz _) ?_; change wpList _ _ _ _ _ (w4.setCells w.heap.size 0 (edL ⟨vy, ay, cy, s2⟩)); rw [HE5.out]; clear HT HE5 p0 p1 p2 p3 p4 p5 p6 p7 p8 p9; have hA5 := HA5.out; have hB5 := hB5.out; obtain ⟨q0, q1, q2, q3, q4, q5, q6, q7, q8, q9⟩ := zgn hA5; obtain ⟨p0, p1, p2, p3, p4, p5, p6, p7, p8, p9⟩ := zgn hB5)
   refine (H2.out _ HG5.out).mono ?_
   rintro e w6 ⟨rfl, hg6⟩
   refine Hid.out ?_
   refine hid ?_
   have hA6 := (hg6.below.block _ (by omega)).trans hA5
   have hB6 := (hg6.below.block _ (by omega)).trans hB5
   have hC6 := (hg6.below.block _ (by omega)).trans hC5
   have HG6 := hid (HG5.out.trans hg6)
   clear hs5 hg6 hA5 hB5 hC5 HG5 H2 q0 q1 q2 q3 q4 q5 q6 q7 q8 q9 p0 p1 p2 p3 p4 p5 p6 p7 p8 p9
   have hA7 := hA6; have hC7 := hC6; have HG7 := HG6
   clear hA6 hC6 HG6 hB6
   generalize hw7 : w6 = w7 at *
   clear hw7
   go_wp2_with (first
    | (refine wpList_load_row rfl 266 _ rfl w.heap.size rfl _ _ _ _ hA7 Tryz.underlying266 rfl zgw ?_)
    | (refine wpList_store_row rfl 266 _ _ rfl (w.heap.size + 2) (stL ⟨⟨vy, ay, cy, s2⟩, ⟨vx2, ax2, cx2, s12⟩⟩).toArray rfl rfl _ _ hC7 zgw rfl (zgy _) ?_))
   refine bodyPost_ret (results_cell_row rfl _ _ (w.heap.size + 2) _ (stL ⟨⟨vy, ay, cy, s2⟩, ⟨vx2, ax2, cx2, s12⟩⟩).toArray _ _ rfl (setRow_heap _ _ _ _ _ _ hC7) Tryz.underlying266 rfl zgw) rfl ?_
   exact ⟨by rw [HMM.out], zhd HG7.out (by omega) _⟩
 · have d1 : decide (r1 < 0) = false := decide_eq_false h1
   have d2 : decide (0 < r2) = true := decide_eq_true h2
   have HMM : Hid (meetR ⟨⟨vx, ax, cx, s1⟩, ⟨vx2, ax2, cx2, s12⟩⟩ ⟨⟨vy, ay, cy, s2⟩, ⟨vy2, ay2, cy2, s22⟩⟩ = ⟨⟨vx, ax, cx, s1⟩, ⟨vy2, ay2, cy2, s22⟩⟩) := hid (by rw [HM.out, if_neg h1, if_pos h2])
   clear h1 h2 HM
   go_enter Tryz.func232, Tryz.ntmps232
   go_wp2_with fail
   generalize ((w.alloc (stO ⟨⟨vx, ax, cx, s1⟩, ⟨vx2, ax2, cx2, s12⟩⟩)).alloc (stO ⟨⟨vy, ay, cy, s2⟩, ⟨vy2, ay2, cy2, s22⟩⟩)).alloc (.cells #[.int .u32 0, .int .u32 0, .int .u32 0, .slice none 0 0, .int .i64 0, .int .u32 0, .int .u32 0, .int .u32 0, .slice none 0 0, .int .i64 0] 266) = W3 at *
   refine (H1.out W3 HG3.out).mono ?_
   rintro e w4 ⟨rfl, hg4⟩
   refine Hid.out ?_
   refine hid ?_
   have hA4 := (hg4.below.block _ (by omega)).trans hA3
   have hB4 := (hg4.below.block _ (by omega)).trans hB3
   have hC4 := (hg4.below.block _ (by omega)).trans hC3
   have hs4 : w.heap.size + 2 < w4.heap.size := Nat.lt_of_lt_of_le hs3 hg4.below.size
   have HG4 := hid (HG3.out.trans hg4)
   clear hg4 hA3 hB3 hC3 HG3 H1 hs3
   have hA5 := hA4; have hB5 := hB4; have hC5 := hC4; have HG5 := HG4; have hs5 := hs4
   clear hA4 hB4 hC4 HG4 hs4
   generalize hw5 : w4 = w5 at *
   clear hw5
   obtain ⟨q0, q1, q2, q3, q4, q5, q6, q7, q8, q9⟩ := zgn hA5
   obtain ⟨p0, p1, p2, p3, p4, p5, p6, p7, p8, p9⟩ := zgn hB5
   go_wp2_with (go_at_call 237; refine (H2.out _ HG5.out).mono ?_; rintro e w6 ⟨rfl, hg6⟩; refine Hid.out ?_)
   refine hid ?_
   have hA6 := (hg6.below.block _ (by omega)).trans hA5
   have hB6 := (hg6.below.block _ (by omega)).trans hB5
   have hC6 := (hg6.below.block _ (by omega)).trans hC5
   have HG6 := hid (HG5.out.trans hg6)
   clear hs5 hg6 hA5 hB5 hC5 HG5 H2 q0 q1 q2 q3 q4 q5 q6 q7 q8 q9 p0 p1 p2 p3 p4 p5 p6 p7 p8 p9
   obtain ⟨p0, p1, p2, p3, p4, p5, p6, p7, p8, p9⟩ := zgn hB6
   obtain ⟨w7, e7, hA7, hE7, hG7, -⟩ := zhg hA6 ⟨vy2, ay2, cy2, s22⟩
   have hC7 := (hE7 _ (by omega : w.heap.size + 2 ≠ w.heap.size)).trans hC6
   have HG7 := hid (hG7 _ HG6.out (Nat.le_refl _))
   have HT := hid (zhe (o := 5) (n := 5) hA6 (by simp))
   have HC7 := hid hC7
   have HA7 := hid hA7
   have HE7 := hid e7
   clear hB6 hC6 HG6 hE7 hG7 hA6 hA7 hC7 e7
   go_wp2_with (first
    | (refine wpList_store_row rfl 266 _ _ rfl (w.heap.size + 2) (stL ⟨⟨vx, ax, cx, s1⟩, ⟨vy2, ay2, cy2, s22⟩⟩).toArray rfl rfl _ _ hC8 zgw rfl (zgy _) ?_)
    | (refine wpList_store_mid rfl 264 _ _ rfl w.heap.size 5 (edL ⟨vy2, ay2, cy2, s22⟩).toArray rfl rfl HT.out zgx (zgz _) ?_; change wpList _ _ _ _ _ (w6.setCells w.heap.size 5 (edL ⟨vy2, ay2, cy2, s22⟩)); rw [HE7.out]; clear HT HE7 p0 p1 p2 p3 p4 p5 p6 p7 p8 p9; have hC8 := HC7.out; obtain ⟨q0, q1, q2, q3, q4, q5, q6, q7, q8, q9⟩ := zgn HA7.out))
   have hC7 := HC7.out
   refine bodyPost_ret (results_cell_row rfl _ _ (w.heap.size + 2) _ (stL ⟨⟨vx, ax, cx, s1⟩, ⟨vy2, ay2, cy2, s22⟩⟩).toArray _ _ rfl (setRow_heap _ _ _ _ _ _ hC7) Tryz.underlying266 rfl zgw) rfl ?_
   exact ⟨by rw [HMM.out], zhd HG7.out (by omega) _⟩
 · have d1 : decide (r1 < 0) = false := decide_eq_false h1
   have d2 : decide (0 < r2) = false := decide_eq_false h2
   have HMM : Hid (meetR ⟨⟨vx, ax, cx, s1⟩, ⟨vx2, ax2, cx2, s12⟩⟩ ⟨⟨vy, ay, cy, s2⟩, ⟨vy2, ay2, cy2, s22⟩⟩ = ⟨⟨vx, ax, cx, s1⟩, ⟨vx2, ax2, cx2, s12⟩⟩) := hid (by rw [HM.out, if_neg h1, if_neg h2])
   clear h1 h2 HM
   go_enter Tryz.func232, Tryz.ntmps232
   go_wp2_with fail
   generalize ((w.alloc (stO ⟨⟨vx, ax, cx, s1⟩, ⟨vx2, ax2, cx2, s12⟩⟩)).alloc (stO ⟨⟨vy, ay, cy, s2⟩, ⟨vy2, ay2, cy2, s22⟩⟩)).alloc (.cells #[.int .u32 0, .int .u32 0, .int .u32 0, .slice none 0 0, .int .i64 0, .int .u32 0, .int .u32 0, .int .u32 0, .slice none 0 0, .int .i64 0] 266) = W3 at *
   refine (H1.out W3 HG3.out).mono ?_
   rintro e w4 ⟨rfl, hg4⟩
   refine Hid.out ?_
   refine hid ?_
   have hA4 := (hg4.below.block _ (by omega)).trans hA3
   have hB4 := (hg4.below.block _ (by omega)).trans hB3
   have hC4 := (hg4.below.block _ (by omega)).trans hC3
   have hs4 : w.heap.size + 2 < w4.heap.size := Nat.lt_of_lt_of_le hs3 hg4.below.size
   have HG4 := hid (HG3.out.trans hg4)
   clear hg4 hA3 hB3 hC3 HG3 H1 hs3
   have hA5 := hA4; have hB5 := hB4; have hC5 := hC4; have HG5 := HG4; have hs5 := hs4
   clear hA4 hB4 hC4 HG4 hs4
   generalize hw5 : w4 = w5 at *
   clear hw5
   obtain ⟨q0, q1, q2, q3, q4, q5, q6, q7, q8, q9⟩ := zgn hA5
   obtain ⟨p0, p1, p2, p3, p4, p5, p6, p7, p8, p9⟩ := zgn hB5
   go_wp2_with (go_at_call 237; refine (H2.out _ HG5.out).mono ?_; rintro e w6 ⟨rfl, hg6⟩; refine Hid.out ?_)
   refine hid ?_
   have hA6 := (hg6.below.block _ (by omega)).trans hA5
   have hB6 := (hg6.below.block _ (by omega)).trans hB5
   have hC6 := (hg6.below.block _ (by omega)).trans hC5
   have HG6 := hid (HG5.out.trans hg6)
   clear hs5 hg6 hA5 hB5 hC5 HG5 H2 q0 q1 q2 q3 q4 q5 q6 q7 q8 q9 p0 p1 p2 p3 p4 p5 p6 p7 p8 p9
   have hA7 := hA6; have hC7 := hC6; have HG7 := HG6
   clear hA6 hC6 HG6 hB6
   generalize hw7 : w6 = w7 at *
   clear hw7
   go_wp2_with (first
    | (refine wpList_load_row rfl 266 _ rfl w.heap.size rfl _ _ _ _ hA7 Tryz.underlying266 rfl zgw ?_)
    | (refine wpList_store_row rfl 266 _ _ rfl (w.heap.size + 2) (stL ⟨⟨vx, ax, cx, s1⟩, ⟨vx2, ax2, cx2, s12⟩⟩).toArray rfl rfl _ _ hC7 zgw rfl (zgy _) ?_))
   refine bodyPost_ret (results_cell_row rfl _ _ (w.heap.size + 2) _ (stL ⟨⟨vx, ax, cx, s1⟩, ⟨vx2, ax2, cx2, s12⟩⟩).toArray _ _ rfl (setRow_heap _ _ _ _ _ _ hC7) Tryz.underlying266 rfl zgw) rfl ?_
   exact ⟨by rw [HMM.out], zhd HG7.out (by omega) _⟩
 --meet>
end SpanC
open Go.RowKit
namespace SpanC
open VerM SpanM StrC TextR VerC
theorem zhi {w : World} {g : Nat} {cs : Array Value} {t : TypeId} {fr : Nat × Nat} (h : w.heap[g]? = some (.cells cs t fr)) (ht : t ≠ 9) : ¬ IsText w g := fun ⟨c, f, h2⟩ => by
 rw [h] at h2
 injection h2 with h2
 injection h2 with _ h2 _
 exact ht h2
theorem EdOk.keep {w w' : World} {x : EdR} (h : EdOk w x) {g : Nat} (hg : ¬ IsText w g) (hk : ∀ k, k < w.heap.size → k ≠ g → w'.heap[k]? = w.heap[k]?) : EdOk w' x := by
 have key : ∀ b f, x.a = some ⟨b, f, none⟩ → w'.heap[b]? = w.heap[b]? := fun b f e => hk b (h.kind b f e).lt (fun e2 => hg (e2 ▸ h.kind b f e))
 refine ⟨h.wf, ⟨h.txs.cap, h.txs.short, h.txs.few, fun h0 => ?_⟩, fun b f e => (h.kind b f e).of (key b f e), h.nil⟩
 obtain ⟨b, o, e, hc⟩ := h.txs.cells h0
 exact ⟨b, o, e, fun i hi => (World.cell?_of_block (a := ⟨b, o + i, none⟩) (key b o e)).trans (hc i hi)⟩
theorem StOk.keep {w w' : World} {x : StR} (h : StOk w x) {g : Nat} (hg : ¬ IsText w g) (hk : ∀ k, k < w.heap.size → k ≠ g → w'.heap[k]? = w.heap[k]?) : StOk w' x := ⟨h.f.keep hg hk, h.t.keep hg hk⟩
def allS : St := ⟨⟨zbk zeroV, 0⟩, ⟨zeroV, 2⟩⟩
theorem zhj : may (zbk zeroV) = true := by rfl
theorem zhk : wfE allS.f ∧ wfE allS.t := ⟨⟨zhj, by decide, fun h => by cases h⟩, ⟨zfm, by decide, fun _ => rfl⟩⟩
def allR (g : Nat) : StR := ⟨⟨zbk zeroV, some ⟨g, 0, none⟩, 1, 0⟩, ⟨zeroV, none, 0, 2⟩⟩
def StE (s : St) (w : World) (e : Ending) (w' : World) : Prop := ∃ r : StR, e = .returned (stV r) ∧ r.st = s ∧ StOk w' r ∧ Below w.heap.size w w'
set_option maxRecDepth 100000 in
theorem zhl (w : World) : Calls Tryz.prog 230 #[] w (StE allS w) := by
 have HL := hid (fun w' => (zfd zeroV none 0 w' (Txs.nil _ _ _)).mono fun e w'' (h : LeastE zeroV w' e w'') => (⟨h.2.2 zfm, h.1⟩ : (∃ g, e = .returned (.tuple #[verV zeroV.a zeroV.b zeroV.c (some ⟨g, 0, none⟩) 1 1, .int .i64 0]) ∧ LeastI w' w'' g) ∧ Below w'.heap.size w' w''))
 have hn := heap_alloc_new w (.cells #[.int .u32 0, .int .u32 0, .int .u32 0, .slice none 0 0, .int .i64 0, .int .u32 0, .int .u32 0, .int .u32 0, .slice none 0 0, .int .i64 0] 266)
 have HB0 : Hid (Below w.heap.size w (w.alloc (.cells #[.int .u32 0, .int .u32 0, .int .u32 0, .slice none 0 0, .int .i64 0, .int .u32 0, .int .u32 0, .int .u32 0, .slice none 0 0, .int .i64 0] 266))) := hid ((Below.refl _ w).alloc (Nat.le_refl _) _)
 go_enter Tryz.func230, Tryz.ntmps230
 go_wp2_with fail
 generalize w.alloc (.cells #[.int .u32 0, .int .u32 0, .int .u32 0, .slice none 0 0, .int .i64 0, .int .u32 0, .int .u32 0, .int .u32 0, .slice none 0 0, .int .i64 0] 266) = W at *
 have hlt : w.heap.size < W.heap.size := (Array.getElem?_eq_some_iff.1 hn).1
 refine (HL.out W).mono ?_
 rintro e w1 ⟨⟨g, rfl, hL⟩, hb⟩
 refine Hid.out ?_
 refine hid ?_
 have hn1 := (hb.block _ hlt).trans hn
 have HI := hid hL
 have HB1 := hid (HB0.out.trans (hb.mono HB0.out.size))
 have hg : W.heap.size ≤ g := hL.ge
 have hl1 : w.heap.size < w1.heap.size := (Array.getElem?_eq_some_iff.1 hn1).1
 have hn2 := (heap_alloc_old w1 (verO 0 0 0 (some ⟨g, 0, none⟩) 1 1) (r := w.heap.size) hl1).trans hn1
 have HB2 := hid (HB1.out.alloc HB1.out.size (verO 0 0 0 (some ⟨g, 0, none⟩) 1 1))
 have HTX := hid (hL.txs.alloc (verO 0 0 0 (some ⟨g, 0, none⟩) 1 1))
 have HKI := hid (hL.kind.below ((Below.refl _ w1).alloc (Nat.le_refl _) (verO 0 0 0 (some ⟨g, 0, none⟩) 1 1)))
 clear hn hL hb hn1 HB0 HB1 HI hl1
 go_wp2_with (refine wpList_store_row rfl 266 _ _ rfl w.heap.size (stL (allR g)).toArray rfl rfl _ _ hn2 zgw rfl (zgy _) ?_)
 refine bodyPost_ret (results_cell_row rfl _ _ w.heap.size _ (stL (allR g)).toArray _ _ rfl (setRow_heap _ _ _ _ _ _ hn2) Tryz.underlying266 rfl zgw) rfl ?_
 exact ⟨allR g, rfl, rfl, StOk.keep ⟨⟨zhk.1, HTX.out, fun b f e => (by cases e; exact HKI.out), fun e => (by cases e)⟩, ⟨zhk.2, Txs.nil _ _ _, fun b f e => (by cases e), fun _ => ⟨rfl, rfl⟩⟩⟩ (zhi hn2 (by decide)) (fun k _ hk => Go.setRow_other _ _ _ _ hk), below_setRow HB2.out (Nat.le_refl _) _⟩
def StRow (w : World) (B : Nat) (v : Value) (L : List StR) : Prop := w.ownsRow B 266 10 v L.length (L.flatMap stL)
def AllOk (w : World) (L : List StR) : Prop := ∀ x ∈ L, StOk w x
theorem AllOk.gr {w w' : World} {L : List StR} (h : AllOk w L) (g : Below w.heap.size w w') : AllOk w' L := fun x hx => (h x hx).gr g
theorem StRow.below {w w' : World} {B : Nat} {v : Value} {L : List StR} (h : StRow w B v L) (g : Below w.heap.size w w') : StRow w' B v L := World.ownsRow.kept h (zgd g) (Classical.em _)
theorem StRow.value {w : World} {B : Nat} {v : Value} {L : List StR} (h : StRow w B v L) : ∃ a cp, v = .slice a L.length cp := by
 rcases h.2 with ⟨rfl, h0⟩ | ⟨g, cp, cur, rfl, _⟩
 · exact ⟨none, 0, by rw [h0]⟩
 · exact ⟨_, _, rfl⟩
theorem zhm (x : StR) : (stL x).length = 10 := rfl
instance : Inhabited EdR := ⟨⟨⟨0, 0, 0, []⟩, none, 0, 0⟩⟩
instance : Inhabited StR := ⟨⟨default, default⟩⟩
theorem StRow.at {w : World} {B : Nat} {a : Option Addr} {n cp : Nat} {L : List StR} (h : StRow w B (.slice a n cp) L) (i : Nat) (hi : i < L.length) : ∃ (g : Nat) (x : StR), x = L[i]! ∧ x ∈ L ∧ L[i]? = some x ∧ a = some ⟨g, 0, none⟩ ∧ n = L.length ∧ B ≤ g ∧ g < w.heap.size ∧ ¬ IsText w g ∧ (∀ j, w.frozen? ⟨g, j, none⟩ = false) ∧
 w.cell? ⟨g, i * 10, none⟩ = some (.int .u32 x.f.v.a) ∧ w.cell? ⟨g, i * 10 + 1, none⟩ = some (.int .u32 x.f.v.b) ∧ w.cell? ⟨g, i * 10 + 2, none⟩ = some (.int .u32 x.f.v.c) ∧ w.cell? ⟨g, i * 10 + 3, none⟩ = some (.slice x.f.a x.f.v.pre.length x.f.c) ∧ w.cell? ⟨g, i * 10 + 4, none⟩ = some (.int .i64 x.f.s) ∧
 w.cell? ⟨g, i * 10 + 5, none⟩ = some (.int .u32 x.t.v.a) ∧ w.cell? ⟨g, i * 10 + 6, none⟩ = some (.int .u32 x.t.v.b) ∧ w.cell? ⟨g, i * 10 + 7, none⟩ = some (.int .u32 x.t.v.c) ∧ w.cell? ⟨g, i * 10 + 8, none⟩ = some (.slice x.t.a x.t.v.pre.length x.t.c) ∧ w.cell? ⟨g, i * 10 + 9, none⟩ = some (.int .i64 x.t.s) := by
 have h' : w.ownsRow B 266 10 (.slice a n cp) L.length (L.flatMap stL) := h
 have hlt := h'.lt
 have h0 := h'
 obtain ⟨_, ⟨h1, h2⟩ | ⟨g, cp', cur, e1, hg0, hblk, _⟩⟩ := h'
 · omega
 simp only [Value.slice.injEq] at e1
 obtain ⟨rfl, rfl, rfl⟩ := e1
 have key : ∀ c, c < 10 → w.cell? ⟨g, i * 10 + c, none⟩ = some ((stL L[i]!)[c]!) := fun c hc => by
  rw [h0.cellAt (i * 10 + c) (by omega), RowKC.zge stL 10 zhm L _ (by omega), show (i * 10 + c) / 10 = i from by omega, show (i * 10 + c) % 10 = c from by omega]
 have hx : L[i]? = some L[i]! := by rw [List.getElem?_eq_getElem hi, getElem!_pos L i hi]
 exact ⟨g, L[i]!, rfl, List.mem_of_getElem? hx, hx, rfl, rfl, hg0, (hlt g rfl).2, zhi hblk (by decide), fun j => h0.frozenAt j, key 0 (by omega), key 1 (by omega), key 2 (by omega), key 3 (by omega), key 4 (by omega), key 5 (by omega), key 6 (by omega), key 7 (by omega), key 8 (by omega), key 9 (by omega)⟩
end SpanC
end
section
open Go.RowKit
namespace VerC
open VerM StrC TextR Go.Sort Go.Shelf
structure RecT where
 s : B
 v : Ver
 a : Option Addr
 c : Nat
instance : Inhabited RecT := ⟨⟨[], ⟨0, 0, 0, []⟩, none, 0⟩⟩
theorem zhn (l : B) (w : World) (hv : Vw w) :
 Calls Tryz.prog 118 #[.string (str l)] w fun e w' => ∃ x, e = .returned x ∧ ReadE l w' (.returned x) ∧ Below w.heap.size w w' ∧ NewE w.heap.size w' (.returned x) :=
 (zei l w hv).mono fun e w' ⟨⟨he, hb⟩, hn⟩ => by
   obtain ⟨x, rfl⟩ := zfa he
   exact ⟨x, rfl, he, hb, hn⟩
theorem zho (w : World) (l : List Value) (t : TypeId) : ∀ j u, l[j]? = some u → (w.alloc (.cells l.toArray t)).cell? ((⟨w.heap.size, 0, none⟩ : Addr).add j) = some u := by
 intro j u hu
 rw [Go.WideShapes.add_plain, Nat.zero_add]
 simp only [World.cell?, heap_alloc_new]
 simpa using hu
end VerC
end
section
open Go.RowKit
namespace SpanC
open VerM SpanM StrC TextR VerC
structure IvG where
 lv : Ver
 la : Option Addr
 lc : Nat
 lo : Bool
 hv : Ver
 ha : Option Addr
 hc : Nat
 ho : Bool
 e : Bool
instance : Inhabited IvG := ⟨⟨⟨0, 0, 0, []⟩, none, 0, false, ⟨0, 0, 0, []⟩, none, 0, false, false⟩⟩
theorem zhp {w w' : World} {x : StR} {B n k : Nat} {e : TypeId} {v : Value} {xs : List Value} (h : StOk w x) (hown : w.ownsRow B e k v n xs) (he : e ≠ 9) (hg : w.grownBy w' v.ownBlock) : StOk w' x := by
 rcases hown.2 with ⟨rfl, _⟩ | ⟨g, cp, cur, rfl, _, hb, _⟩
 · exact h.gr ⟨hg.os, hg.tape, hg.output, hg.size, fun j hj => hg.block j hj (by simp [Value.ownBlock])⟩
 · exact h.keep (zhi hb he) fun j hj hne => hg.block j hj (by simp [Value.ownBlock]; exact fun e => hne e)
theorem step_append_own {P : Program} {w : World} {ops : Array Oper} {o : Oper} {a : Act} {K : Act → World → Prop} {Q : Exit → Act → World → Prop} {E : Prop} (hgd : o.guard = none) (s x : Operand) (t : TypeId)
 (ho : o.op = .call { callee := .builtin .append, args := #[s, x], argTypes := #[t, t] })
 (base : Nat) (e : TypeId) (i : TypeInfo) (z : Value) (size bytes : Nat) (ht : P.underlying t = some (.slice e)) (hi : P.info? e = some i) (hz : i.zero = some z)
 (hsize : i.size = size) (hby : i.bytes = bytes) (hzs : z.cells.size = size) (hsz : 0 < size)
 (v : Value) (n : Nat) (xs : List Value) (hs : a.eval s = v) (hown : w.ownsRow base e size v n xs)
 (ad : Addr) (m c : Nat) (news : List Value) (hx : a.eval x = .slice (some ad) m c) (hl : news.length = m * size) (hnews : ∀ j u, news[j]? = some u → w.cell? (ad.add j) = some u) (h1 : ∀ u ∈ news, u.oneCell' = true)
 (h63 : n + m ≤ maxLen) (hbytes : (n + m) * bytes ≤ 140737488355328) (hbase : base ≤ w.heap.size)
 (h : ∀ v' w', w'.ownsRow base e size v' (n + m) (xs ++ news) → w.grownBy w' v.ownBlock → K (a.put o.dst v') w') :
 if Region.wanted o (yielded ops a.tmps) = true then Oper.wp P o a w K Q else E := by
 have hw : Region.wanted o (yielded ops a.tmps) = true := by simp [Region.wanted, hgd]
 rw [if_pos hw]
 obtain ⟨v', w', hr, h2, h3, _⟩ := run_append_own (P := P) w base t o.type e i z size bytes ht hi hz hsize hby hzs hsz v n xs hown ad m c news hl hnews h1 h63 hbytes hbase
 unfold Oper.wp execOp
 simp only [ho, resolve, invoke, builtin, Sem.run_bind, Sem.run_pure, Result.andThen_ok, List.map_toArray, List.map_cons, List.map_nil, hs, hx, hr]
 exact h v' w' h2 h3
end SpanC
end
section
open Go.RowKit
namespace SpanC
open VerM SpanM StrC TextR VerC
def zeroB (v : Ver) (o : Bool) : Bool := decide (cmpV v zeroV = 0) && !o
def rightB (x : IvG) : Bool := may x.lv && may x.hv && (!x.e || zeroB x.hv x.ho)
def toSt (x : IvG) : StR := ⟨⟨x.lv, x.la, x.lc, if x.lo then 1 else 0⟩, if x.e then ⟨zeroV, none, 0, 2⟩ else ⟨x.hv, x.ha, x.hc, if x.ho then 0 else 1⟩⟩
end SpanC
end
section
open Go.RowKit
namespace SpanC
open VerM SpanM StrC TextR VerC
def goodAt (L : List IvG) (i : Nat) : Bool := rightB L[i]! && !empB (toSt L[i]!).st && (decide (i = 0) || decide (cE (toSt L[i - 1]!).t.ed (toSt L[i]!).f.ed < 0))
def spanB (L : List IvG) : Bool := decide (L.length ≤ 16) && (List.range L.length).all (goodAt L)
theorem zhq (x : StR) : ∀ u ∈ stL x, u.oneCell' = true := by
 intro u hu
 simp only [List.mem_cons, List.not_mem_nil, or_false] at hu
 rcases hu with rfl | rfl | rfl | rfl | rfl | rfl | rfl | rfl | rfl | rfl <;> rfl
theorem zhr : (Tryz.prog.info? 266).map (fun i => (i.zero, i.size, i.bytes)) = some (some (.agg #[.int .u32 0, .int .u32 0, .int .u32 0, .slice none 0 0, .int .i64 0, .int .u32 0, .int .u32 0, .int .u32 0, .slice none 0 0, .int .i64 0]), 10, 96) := by kernel_rfl
end SpanC
end
end Go.Proofs.YtfbegbmjmhnplaaGreatDoor
