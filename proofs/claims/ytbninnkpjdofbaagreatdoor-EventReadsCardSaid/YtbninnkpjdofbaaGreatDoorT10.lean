/-
  What the proof of EventReads stands on, part 10.
-/
import Derived.Deep.MidRow
import Derived.Laws.AppendOwnNone
import Derived.Test.YtbninnkpjdofbaaGreatDoorT09
set_option linter.unusedSimpArgs false
set_option linter.unusedVariables false
set_option maxHeartbeats 16000000
namespace Go.Proofs.YtbninnkpjdofbaaGreatDoor
open Go.Lib (hid)
section
open Go.RowKit
namespace SpanC
open VerM SpanM StrC TextR VerC
structure EdR where
 v:Ver
 a:Option Addr
 c:Nat
 s:Nat
structure StR where
 f:EdR
 t:EdR
def EdR.ed(x:EdR):Ed:=⟨x.v,x.s⟩
def StR.st(x:StR):St:=⟨x.f.ed,x.t.ed⟩
abbrev edL(x:EdR):List Value:=[.int .u32 x.v.a,.int .u32 x.v.b,.int .u32 x.v.c,.slice x.a x.v.pre.length x.c,.int .i64 x.s]
abbrev stL(x:StR):List Value:=[.int .u32 x.f.v.a,.int .u32 x.f.v.b,.int .u32 x.f.v.c,.slice x.f.a x.f.v.pre.length x.f.c,.int .i64 x.f.s,.int .u32 x.t.v.a,.int .u32 x.t.v.b,.int .u32 x.t.v.c,.slice x.t.a x.t.v.pre.length x.t.c,.int .i64 x.t.s]
abbrev edV(x:EdR):Value:=.agg (edL x).toArray
abbrev stV(x:StR):Value:=.agg (stL x).toArray
abbrev edO(x:EdR):Obj:=.cells (edL x).toArray 300
abbrev stO(x:StR):Obj:=.cells (stL x).toArray 302
structure EdOk (w:World) (x:EdR):Prop where
 wf:wfE x.ed
 txs:Txs w x.a x.c x.v.pre
 kind:∀b f,x.a=some ⟨b,f,none⟩→IsText w b
 nil:x.a=none→x.v.pre.length=0∧x.c=0
theorem EdOk.gr{w w':World}{x:EdR}(h:EdOk w x)(g:Below w.heap.size w w'):EdOk w' x:=⟨h.wf,h.txs.gr g,fun b f e=>(h.kind b f e).below g,h.nil⟩
structure EdX (w:World) (x:EdR):Prop where
 wf:wfE x.ed
 txs:Txs w x.a x.c x.v.pre
theorem EdOk.x{w:World}{x:EdR}(h:EdOk w x):EdX w x:=⟨h.wf,h.txs⟩
structure StOk (w:World) (x:StR):Prop where
 f:EdOk w x.f
 t:EdOk w x.t
theorem StOk.gr{w w':World}{x:StR}(h:StOk w x)(g:Below w.heap.size w w'):StOk w' x:=⟨h.f.gr g,h.t.gr g⟩
theorem zit{w:World}{g:Nat}{x:StR}(h:w.heap[g]?=some (stO x)):
 w.cell? ⟨g,0,none⟩=some (.int .u32 x.f.v.a)∧w.cell? ⟨g,1,none⟩=some (.int .u32 x.f.v.b)∧w.cell? ⟨g,2,none⟩=some (.int .u32 x.f.v.c)∧w.cell? ⟨g,3,none⟩=some (.slice x.f.a x.f.v.pre.length x.f.c)∧w.cell? ⟨g,4,none⟩=some (.int .i64 x.f.s)∧
 w.cell? ⟨g,5,none⟩=some (.int .u32 x.t.v.a)∧w.cell? ⟨g,6,none⟩=some (.int .u32 x.t.v.b)∧w.cell? ⟨g,7,none⟩=some (.int .u32 x.t.v.c)∧w.cell? ⟨g,8,none⟩=some (.slice x.t.a x.t.v.pre.length x.t.c)∧w.cell? ⟨g,9,none⟩=some (.int .i64 x.t.s):=by
 refine⟨?_,?_,?_,?_,?_,?_,?_,?_,?_,?_⟩<;>simp[World.cell?,h]
theorem ziu{w:World}{g:Nat}{x:EdR}(h:w.heap[g]?=some (edO x)):
 w.cell? ⟨g,0,none⟩=some (.int .u32 x.v.a)∧w.cell? ⟨g,1,none⟩=some (.int .u32 x.v.b)∧w.cell? ⟨g,2,none⟩=some (.int .u32 x.v.c)∧w.cell? ⟨g,3,none⟩=some (.slice x.a x.v.pre.length x.c)∧w.cell? ⟨g,4,none⟩=some (.int .i64 x.s):=by
 refine⟨?_,?_,?_,?_,?_⟩<;>simp[World.cell?,h]
theorem ziv(x y:Nat)(w:World):Calls Tryz.prog 275 #[.int .i64 x,.int .i64 y] w fun e w'=>e= .returned (.int .i64 (cmpN x y))∧w=w':=by
 have H:=hid (show cmpN x y=if x<y then -1 else if y<x then 1 else 0 from rfl);generalize cmpN x y=r at*;go_enter Tryz.func275,Tryz.ntmps275;go_wp2
 all_goals go_ret
 all_goals exact⟨by rw[H.out];(repeat' split)<;>first|rfl|omega,rfl⟩
theorem ziw{v u:Ver}(h1:may v=true)(h2:may u=true):VerC.cmpE v u= .returned (.tuple #[.int .i64 (cmpV v u),.int .i64 0]):=by unfold VerC.cmpE;rw[h1,h2];rfl
set_option maxRecDepth 100000 in
theorem zix(x y:EdR)(w:World)(hx:EdX w x)(hy:EdX w y):
 Calls Tryz.prog 255 #[edV x,edV y] w fun e w'=>e= .returned (.int .i64 (cE x.ed y.ed))∧Gr w w':=by
 have HV:Hid (cE x.ed y.ed=_):=hid (cE_is hx.wf hy.wf);have HX:=hid hx;have HY:=hid hy;have H1:=hid (fun w' (g:Gr w w')=>(zgx x.v y.v x.a x.c y.a y.c w' (hx.txs.gr g.below) (hy.txs.gr g.below)).mono fun _ _ h=>And.intro (h.1.trans (ziw hx.wf.1 hy.wf.1)) h.2);have HS:=hid (fun w=>ziv x.s y.s w);have sx:=hx.wf.2.1;have sy:=hy.wf.2.1
 change x.s≤2 at sx
 change y.s≤2 at sy;clear hx hy;obtain⟨vx,ax,cx,s1⟩:=x;obtain⟨vy,ay,cy,s2⟩:=y
 dsimp only[EdR.ed] at*
 generalize cE ⟨vx,s1⟩ ⟨vy,s2⟩=r at*;have hw1:=heap_alloc_old (w.alloc (edO ⟨vx,ax,cx,s1⟩)) (edO ⟨vy,ay,cy,s2⟩) (r:=w.heap.size) (by simp);have hn1:=hw1.trans (heap_alloc_new w (edO ⟨vx,ax,cx,s1⟩));have hn2:=heap_alloc_new (w.alloc (edO ⟨vx,ax,cx,s1⟩)) (edO ⟨vy,ay,cy,s2⟩);have hs1:(w.alloc (edO ⟨vx,ax,cx,s1⟩)).heap.size=w.heap.size+1:=by simp
 rw[hs1] at hn2;have HG:Hid (Gr w ((w.alloc (edO ⟨vx,ax,cx,s1⟩)).alloc (edO ⟨vy,ay,cy,s2⟩))):=hid (((Gr.refl w).alloc _).alloc _);clear hw1 hs1;obtain⟨q0,q1,q2,q3,q4⟩:=ziu hn1;obtain⟨p0,p1,p2,p3,p4⟩:=ziu hn2;clear hn1 hn2;by_cases h1:s1=2
 · subst h1
   have HR:=hid (show r=cmpN 2 s2 from HV.out.trans (if_pos (.inl rfl)));clear HV H1;go_enter Tryz.func255,Tryz.ntmps255;go_wp2_with (go_at_call 275;refine(HS.out _).mono ?_;rintro e w' ⟨rfl,rfl⟩)
   go_ret;exact⟨by rw[HR.out];rfl,HG.out⟩
 have d1:((s1:Int) == 2)=false:=beq_eq_false_iff_ne.2 (by omega);by_cases h2:s2=2
 · subst h2
   have HR:=hid (show r=cmpN s1 2 from HV.out.trans (if_pos (.inr rfl)));clear HV H1;go_enter Tryz.func255,Tryz.ntmps255;go_wp2_with (go_at_call 275;refine(HS.out _).mono ?_;rintro e w' ⟨rfl,rfl⟩)
   go_ret;exact⟨by rw[HR.out];rfl,HG.out⟩
 have d2:((s2:Int) == 2)=false:=beq_eq_false_iff_ne.2 (by omega);have HR:=hid (show r=if cmpV vx vy≠0 then cmpV vx vy else cmpN s1 s2 from HV.out.trans (if_neg (fun h=>h.elim h1 h2)));clear HV h1 h2;generalize cmpV vx vy=c at*;by_cases hc:c=0
 · subst hc
   have HQ4:=hid q4;have HP4:=hid p4;go_enter Tryz.func255,Tryz.ntmps255;go_wp2_with (go_at_call 276;refine(H1.out _ HG.out).mono ?_;rintro e w' ⟨rfl,hg⟩;refine Hid.out ?_)
   refine hid ?_;have hq4:=(hg.below.cell (World.block_lt_of_cell? _ _ HQ4.out)).trans HQ4.out;have hp4:=(hg.below.cell (World.block_lt_of_cell? _ _ HP4.out)).trans HP4.out;have HG2:=hid (HG.out.trans hg);have HR2:=hid (HR.out.trans (if_neg (by simp)));clear q0 q1 q2 q3 q4 p0 p1 p2 p3 p4 HQ4 HP4 hg HR;go_wp2_with (go_at_call 275;refine(HS.out _).mono ?_;rintro e w' ⟨rfl,rfl⟩)
   go_ret;exact⟨by rw[HR2.out];rfl,HG2.out⟩
 · have dc:(c != 0)=true:=by rw[bne_iff_ne];exact hc
   have HR2:=hid (HR.out.trans (if_pos hc));clear HR hc;go_enter Tryz.func255,Tryz.ntmps255;go_wp2_with (go_at_call 276;refine(H1.out _ HG.out).mono ?_;rintro e w' ⟨rfl,hg⟩)
   go_ret;exact⟨by rw[HR2.out];rfl,HG.out.trans hg⟩
theorem ziy(x y:EdR)(w:World)(hx:EdOk w x)(hy:EdOk w y):
 Calls Tryz.prog 255 #[edV x,edV y] w fun e w'=>e= .returned (.int .i64 (cE x.ed y.ed))∧Gr w w':=zix x y w hx.x hy.x
def empB(s:St):Bool:=decide (0≤cE s.f s.t)
set_option maxRecDepth 100000 in
theorem ziz(x:StR)(w:World)(hx:StOk w x):
 Calls Tryz.prog 252 #[stV x] w fun e w'=>e= .returned (.bool (empB x.st))∧Gr w w':=by
 have HX:=hid (hx.gr ((Below.refl _ w).alloc (Nat.le_refl _) (stO x)));have HG:Hid (Gr w (w.alloc (stO x))):=hid ((Gr.refl w).alloc _);have H:=hid (ziy x.f x.t _ HX.out.f HX.out.t);obtain⟨q0,q1,q2,q3,q4,q5,q6,q7,q8,q9⟩:=zit (heap_alloc_new w (stO x));obtain⟨r,hr⟩:∃r,cE x.f.ed x.t.ed=r:=⟨_,rfl⟩;rw[hr] at H;have HE:Hid (empB x.st=decide (0≤r)):=hid (by rw[←hr];rfl);obtain⟨⟨vx,ax,cx,s1⟩,⟨vy,ay,cy,s2⟩⟩:=x
 dsimp only at*
 clear hx hr HX;go_enter Tryz.func252,Tryz.ntmps252;go_wp2_with (go_at_call 255;refine H.out.mono ?_;rintro e w' ⟨rfl,hg⟩)
 go_ret;exact⟨by rw[HE.out];rfl,HG.out.trans hg⟩
def meetR(s t:StR):StR:=⟨if cE s.f.ed t.f.ed<0 then t.f else s.f,if 0<cE s.t.ed t.t.ed then t.t else s.t⟩
theorem zja(s t:StR):(meetR s t).st=meetS s.st t.st:=by
 unfold meetR meetS StR.st
 congr 1
 · dsimp only;split<;>rfl
 · dsimp only;split<;>rfl
theorem zjb{w:World}{s t:StR}(h1:StOk w s)(h2:StOk w t):StOk w (meetR s t):=by
 unfold meetR;refine⟨?_,?_⟩
 · dsimp only;split
   · exact h2.f
   · exact h1.f
 · dsimp only;split
   · exact h2.t
   · exact h1.t
theorem zjc:(Tryz.prog.info? 302).map (·.size)=some 10:=by kernel_rfl
theorem zjd:(Tryz.prog.info? 300).map (·.size)=some 5:=by kernel_rfl
theorem zje(x:StR):((stL x).toArray.all (·.oneCell'))=true:=by simp[Value.oneCell']
theorem zjf(x:EdR):((edL x).toArray.all (·.oneCell'))=true:=by simp[Value.oneCell']
theorem zjg(w:World)(g:Nat):∀(o:Nat) (vs:List Value),(w.setCells g o vs).heap.size=w.heap.size:=by
 intro o vs
 induction vs generalizing o w with
 | nil=>rfl
 | cons v r ih=>rw[World.setCells,ih];simp
theorem zjh(w:World)(g:Nat){k:Nat}(hk:k≠g):∀(o:Nat) (vs:List Value),(w.setCells g o vs).heap[k]?=w.heap[k]?:=by
 intro o vs
 induction vs generalizing o w with
 | nil=>rfl
 | cons v r ih=>rw[World.setCells,ih];exact zea o v hk
theorem zji{w w':World}(h:Gr w w')(g o:Nat)(vs:List Value)(hg:w.heap.size≤g):Gr w (w'.setCells g o vs):=by
 induction vs generalizing o w' with
 | nil=>exact h
 | cons v r ih=>rw[World.setCells];exact ih (h.set g o v hg) (o+1)
theorem zjj{w w':World}(h:Gr w w'){g:Nat}(hg:w.heap.size≤g)(cs:Array Value):Gr w (w'.setRow g cs):=⟨below_setRow h.below hg cs,h.drawn⟩
theorem zjk{w:World}{g o n:Nat}{cs:Array Value}{t:TypeId}(h:w.heap[g]?=some (.cells cs t (0,0)))(hn:o+n≤cs.size):w.there g o n:=fun j hj=>by
 refine⟨?_,by simp[World.frozen?,h]⟩;simp[World.cell?,h,show o+j<cs.size by omega]
theorem zjl{w:World}{g:Nat}{x:StR}(h:w.heap[g]?=some (stO x))(e:EdR):∃w',w.setCells g 0 (edL e)=w'∧w'.heap[g]?=some (stO ⟨e,x.t⟩)∧(∀k,k≠g→w'.heap[k]?=w.heap[k]?)∧(∀w0,Gr w0 w→w0.heap.size≤g→Gr w0 w')∧∀n,n<w.heap.size→n<w'.heap.size:=
 ⟨_,rfl,zdz (zdz (zdz (zdz (zdz h 0 _) 1 _) 2 _) 3 _) 4 _,fun k hk=>zjh w g hk _ _,fun w0 h0 hg=>zji h0 g _ _ hg,fun n hn=>by rw[zjg];exact hn⟩
theorem zjm{w:World}{g:Nat}{x:StR}(h:w.heap[g]?=some (stO x))(e:EdR):∃w',w.setCells g 5 (edL e)=w'∧w'.heap[g]?=some (stO ⟨x.f,e⟩)∧(∀k,k≠g→w'.heap[k]?=w.heap[k]?)∧(∀w0,Gr w0 w→w0.heap.size≤g→Gr w0 w')∧∀n,n<w.heap.size→n<w'.heap.size:=
 ⟨_,rfl,zdz (zdz (zdz (zdz (zdz h 5 _) 6 _) 7 _) 8 _) 9 _,fun k hk=>zjh w g hk _ _,fun w0 h0 hg=>zji h0 g _ _ hg,fun n hn=>by rw[zjg];exact hn⟩
set_option maxRecDepth 100000 in
theorem zjn(x y:StR)(w:World)(hx:StOk w x)(hy:StOk w y):
 Calls Tryz.prog 250 #[stV x,stV y] w fun e w'=>e= .returned (stV (meetR x y))∧Gr w w':=by
 have HX:=hid hx;have HY:=hid hy;have H1:=hid (fun w' (g:Gr w w')=>ziy x.f y.f w' (hx.f.gr g.below) (hy.f.gr g.below));have H2:=hid (fun w' (g:Gr w w')=>ziy x.t y.t w' (hx.t.gr g.below) (hy.t.gr g.below));obtain⟨r1,hr1⟩:∃r,cE x.f.ed y.f.ed=r:=⟨_,rfl⟩;obtain⟨r2,hr2⟩:∃r,cE x.t.ed y.t.ed=r:=⟨_,rfl⟩;have HM:Hid (meetR x y=⟨if r1<0 then y.f else x.f,if 0<r2 then y.t else x.t⟩):=hid (by unfold meetR;rw[hr1,hr2]);rw[hr1] at H1;rw[hr2] at H2;clear hr1 hr2 hx hy HX HY;obtain⟨⟨vx,ax,cx,s1⟩,⟨vx2,ax2,cx2,s12⟩⟩:=x;obtain⟨⟨vy,ay,cy,s2⟩,⟨vy2,ay2,cy2,s22⟩⟩:=y
 dsimp only at*
 have hnew:=heap_alloc_new w (stO ⟨⟨vx,ax,cx,s1⟩,⟨vx2,ax2,cx2,s12⟩⟩);have hz1:(w.alloc (stO ⟨⟨vx,ax,cx,s1⟩,⟨vx2,ax2,cx2,s12⟩⟩)).heap.size=w.heap.size+1:=by simp
 have hz2:((w.alloc (stO ⟨⟨vx,ax,cx,s1⟩,⟨vx2,ax2,cx2,s12⟩⟩)).alloc (stO ⟨⟨vy,ay,cy,s2⟩,⟨vy2,ay2,cy2,s22⟩⟩)).heap.size=w.heap.size+2:=by simp
 have hA3:=(heap_alloc_old ((w.alloc (stO ⟨⟨vx,ax,cx,s1⟩,⟨vx2,ax2,cx2,s12⟩⟩)).alloc (stO ⟨⟨vy,ay,cy,s2⟩,⟨vy2,ay2,cy2,s22⟩⟩)) (.cells #[.int .u32 0,.int .u32 0,.int .u32 0,.slice none 0 0,.int .i64 0,.int .u32 0,.int .u32 0,.int .u32 0,.slice none 0 0,.int .i64 0] 302) (r:=w.heap.size) (by omega)).trans
  ((heap_alloc_old (w.alloc (stO ⟨⟨vx,ax,cx,s1⟩,⟨vx2,ax2,cx2,s12⟩⟩)) (stO ⟨⟨vy,ay,cy,s2⟩,⟨vy2,ay2,cy2,s22⟩⟩) (r:=w.heap.size) (by omega)).trans hnew)
 have hB2:=heap_alloc_new (w.alloc (stO ⟨⟨vx,ax,cx,s1⟩,⟨vx2,ax2,cx2,s12⟩⟩)) (stO ⟨⟨vy,ay,cy,s2⟩,⟨vy2,ay2,cy2,s22⟩⟩);rw[hz1] at hB2
 have hB3:=(heap_alloc_old ((w.alloc (stO ⟨⟨vx,ax,cx,s1⟩,⟨vx2,ax2,cx2,s12⟩⟩)).alloc (stO ⟨⟨vy,ay,cy,s2⟩,⟨vy2,ay2,cy2,s22⟩⟩)) (.cells #[.int .u32 0,.int .u32 0,.int .u32 0,.slice none 0 0,.int .i64 0,.int .u32 0,.int .u32 0,.int .u32 0,.slice none 0 0,.int .i64 0] 302) (r:=w.heap.size+1) (by omega)).trans
  hB2
 have hC3:=heap_alloc_new ((w.alloc (stO ⟨⟨vx,ax,cx,s1⟩,⟨vx2,ax2,cx2,s12⟩⟩)).alloc (stO ⟨⟨vy,ay,cy,s2⟩,⟨vy2,ay2,cy2,s22⟩⟩)) (.cells #[.int .u32 0,.int .u32 0,.int .u32 0,.slice none 0 0,.int .i64 0,.int .u32 0,.int .u32 0,.int .u32 0,.slice none 0 0,.int .i64 0] 302);rw[hz2] at hC3;have hs3:w.heap.size+2<(((w.alloc (stO ⟨⟨vx,ax,cx,s1⟩,⟨vx2,ax2,cx2,s12⟩⟩)).alloc (stO ⟨⟨vy,ay,cy,s2⟩,⟨vy2,ay2,cy2,s22⟩⟩)).alloc (.cells #[.int .u32 0,.int .u32 0,.int .u32 0,.slice none 0 0,.int .i64 0,.int .u32 0,.int .u32 0,.int .u32 0,.slice none 0 0,.int .i64 0] 302)).heap.size:=(Array.getElem?_eq_some_iff.1 hC3).1;have HG3:Hid (Gr w (((w.alloc (stO ⟨⟨vx,ax,cx,s1⟩,⟨vx2,ax2,cx2,s12⟩⟩)).alloc (stO ⟨⟨vy,ay,cy,s2⟩,⟨vy2,ay2,cy2,s22⟩⟩)).alloc (.cells #[.int .u32 0,.int .u32 0,.int .u32 0,.slice none 0 0,.int .i64 0,.int .u32 0,.int .u32 0,.int .u32 0,.slice none 0 0,.int .i64 0] 302))):=hid ((((Gr.refl w).alloc _).alloc _).alloc _);clear hnew hz1 hz2 hB2
 --<meet
 by_cases h1:r1<0<;>by_cases h2:0<r2
 · have d1:decide (r1<0)=true:=decide_eq_true h1
   have d2:decide (0<r2)=true:=decide_eq_true h2;have HMM:Hid (meetR ⟨⟨vx,ax,cx,s1⟩,⟨vx2,ax2,cx2,s12⟩⟩ ⟨⟨vy,ay,cy,s2⟩,⟨vy2,ay2,cy2,s22⟩⟩=⟨⟨vy,ay,cy,s2⟩,⟨vy2,ay2,cy2,s22⟩⟩):=hid (by rw[HM.out,if_pos h1,if_pos h2]);clear h1 h2 HM;go_enter Tryz.func250,Tryz.ntmps250;go_wp2_with fail;generalize ((w.alloc (stO ⟨⟨vx,ax,cx,s1⟩,⟨vx2,ax2,cx2,s12⟩⟩)).alloc (stO ⟨⟨vy,ay,cy,s2⟩,⟨vy2,ay2,cy2,s22⟩⟩)).alloc (.cells #[.int .u32 0,.int .u32 0,.int .u32 0,.slice none 0 0,.int .i64 0,.int .u32 0,.int .u32 0,.int .u32 0,.slice none 0 0,.int .i64 0] 302)=W3 at*;refine(H1.out W3 HG3.out).mono ?_;rintro e w4 ⟨rfl,hg4⟩;refine Hid.out ?_;refine hid ?_;have hA4:=(hg4.below.block _ (by omega)).trans hA3;have hB4:=(hg4.below.block _ (by omega)).trans hB3;have hC4:=(hg4.below.block _ (by omega)).trans hC3;have hs4:w.heap.size+2<w4.heap.size:=Nat.lt_of_lt_of_le hs3 hg4.below.size;have HG4:=hid (HG3.out.trans hg4);clear hg4 hA3 hB3 hC3 HG3 H1 hs3;obtain⟨p0,p1,p2,p3,p4,p5,p6,p7,p8,p9⟩:=zit hB4;obtain⟨w5,e5,hA5,hE5,hG5,hs5'⟩:=zjl hA4 ⟨vy,ay,cy,s2⟩;have hB5:=hid ((hE5 _ (by omega:w.heap.size+1≠w.heap.size)).trans hB4);have hC5:=(hE5 _ (by omega:w.heap.size+2≠w.heap.size)).trans hC4;have HG5:=hid (hG5 _ HG4.out (Nat.le_refl _));have hs5:=hs5' _ hs4;have HT:=hid (zjk (o:=0) (n:=5) hA4 (by simp));have HA5:=hid hA5;have HE5:=hid e5;clear hA4 hB4 hC4 HG4 hE5 hG5 hs4 hA5 hs5' e5;go_wp2_with (refine wpList_store_mid rfl 300 _ _ rfl w.heap.size 0 (edL ⟨vy,ay,cy,s2⟩).toArray rfl rfl HT.out zjd (zjf _) ?_;change wpList _ _ _ _ _ (w4.setCells w.heap.size 0 (edL ⟨vy,ay,cy,s2⟩));rw[HE5.out];clear HT HE5 p0 p1 p2 p3 p4 p5 p6 p7 p8 p9;have hA5:=HA5.out;have hB5:=hB5.out;obtain⟨q0,q1,q2,q3,q4,q5,q6,q7,q8,q9⟩:=zit hA5;obtain⟨p0,p1,p2,p3,p4,p5,p6,p7,p8,p9⟩:=zit hB5)
   refine(H2.out _ HG5.out).mono ?_;rintro e w6 ⟨rfl,hg6⟩;refine Hid.out ?_;refine hid ?_;have hA6:=(hg6.below.block _ (by omega)).trans hA5;have hB6:=(hg6.below.block _ (by omega)).trans hB5;have hC6:=(hg6.below.block _ (by omega)).trans hC5;have HG6:=hid (HG5.out.trans hg6);clear hs5 hg6 hA5 hB5 hC5 HG5 H2 q0 q1 q2 q3 q4 q5 q6 q7 q8 q9 p0 p1 p2 p3 p4 p5 p6 p7 p8 p9;obtain⟨p0,p1,p2,p3,p4,p5,p6,p7,p8,p9⟩:=zit hB6;obtain⟨w7,e7,hA7,hE7,hG7,-⟩:=zjm hA6 ⟨vy2,ay2,cy2,s22⟩;have hC7:=(hE7 _ (by omega:w.heap.size+2≠w.heap.size)).trans hC6;have HG7:=hid (hG7 _ HG6.out (Nat.le_refl _));have HT:=hid (zjk (o:=5) (n:=5) hA6 (by simp));have HC7:=hid hC7;have HA7:=hid hA7;have HE7:=hid e7;clear hB6 hC6 HG6 hE7 hG7 hA6 hA7 hC7 e7
   go_wp2_with (first
    | (refine wpList_store_row rfl 302 _ _ rfl (w.heap.size+2) (stL ⟨⟨vy,ay,cy,s2⟩,⟨vy2,ay2,cy2,s22⟩⟩).toArray rfl rfl _ _ hC8 zjc rfl (zje _) ?_)
    | (refine wpList_store_mid rfl 300 _ _ rfl w.heap.size 5 (edL ⟨vy2,ay2,cy2,s22⟩).toArray rfl rfl HT.out zjd (zjf _) ?_;change wpList _ _ _ _ _ (w6.setCells w.heap.size 5 (edL ⟨vy2,ay2,cy2,s22⟩));rw[HE7.out];clear HT HE7 p0 p1 p2 p3 p4 p5 p6 p7 p8 p9;have hC8:=HC7.out;obtain⟨q0,q1,q2,q3,q4,q5,q6,q7,q8,q9⟩:=zit HA7.out))
   have hC7:=HC7.out;refine bodyPost_ret (results_cell_row rfl _ _ (w.heap.size+2) _ (stL ⟨⟨vy,ay,cy,s2⟩,⟨vy2,ay2,cy2,s22⟩⟩).toArray _ _ rfl (setRow_heap _ _ _ _ _ _ hC7) Tryz.underlying302 rfl zjc) rfl ?_;exact⟨by rw[HMM.out],zjj HG7.out (by omega) _⟩
 · have d1:decide (r1<0)=true:=decide_eq_true h1
   have d2:decide (0<r2)=false:=decide_eq_false h2;have HMM:Hid (meetR ⟨⟨vx,ax,cx,s1⟩,⟨vx2,ax2,cx2,s12⟩⟩ ⟨⟨vy,ay,cy,s2⟩,⟨vy2,ay2,cy2,s22⟩⟩=⟨⟨vy,ay,cy,s2⟩,⟨vx2,ax2,cx2,s12⟩⟩):=hid (by rw[HM.out,if_pos h1,if_neg h2]);clear h1 h2 HM;go_enter Tryz.func250,Tryz.ntmps250;go_wp2_with fail;generalize ((w.alloc (stO ⟨⟨vx,ax,cx,s1⟩,⟨vx2,ax2,cx2,s12⟩⟩)).alloc (stO ⟨⟨vy,ay,cy,s2⟩,⟨vy2,ay2,cy2,s22⟩⟩)).alloc (.cells #[.int .u32 0,.int .u32 0,.int .u32 0,.slice none 0 0,.int .i64 0,.int .u32 0,.int .u32 0,.int .u32 0,.slice none 0 0,.int .i64 0] 302)=W3 at*;refine(H1.out W3 HG3.out).mono ?_;rintro e w4 ⟨rfl,hg4⟩;refine Hid.out ?_;refine hid ?_;have hA4:=(hg4.below.block _ (by omega)).trans hA3;have hB4:=(hg4.below.block _ (by omega)).trans hB3;have hC4:=(hg4.below.block _ (by omega)).trans hC3;have hs4:w.heap.size+2<w4.heap.size:=Nat.lt_of_lt_of_le hs3 hg4.below.size;have HG4:=hid (HG3.out.trans hg4);clear hg4 hA3 hB3 hC3 HG3 H1 hs3;obtain⟨p0,p1,p2,p3,p4,p5,p6,p7,p8,p9⟩:=zit hB4;obtain⟨w5,e5,hA5,hE5,hG5,hs5'⟩:=zjl hA4 ⟨vy,ay,cy,s2⟩;have hB5:=hid ((hE5 _ (by omega:w.heap.size+1≠w.heap.size)).trans hB4);have hC5:=(hE5 _ (by omega:w.heap.size+2≠w.heap.size)).trans hC4;have HG5:=hid (hG5 _ HG4.out (Nat.le_refl _));have hs5:=hs5' _ hs4;have HT:=hid (zjk (o:=0) (n:=5) hA4 (by simp));have HA5:=hid hA5;have HE5:=hid e5;clear hA4 hB4 hC4 HG4 hE5 hG5 hs4 hA5 hs5' e5;go_wp2_with (refine wpList_store_mid rfl 300 _ _ rfl w.heap.size 0 (edL ⟨vy,ay,cy,s2⟩).toArray rfl rfl HT.out zjd (zjf _) ?_;change wpList _ _ _ _ _ (w4.setCells w.heap.size 0 (edL ⟨vy,ay,cy,s2⟩));rw[HE5.out];clear HT HE5 p0 p1 p2 p3 p4 p5 p6 p7 p8 p9;have hA5:=HA5.out;have hB5:=hB5.out;obtain⟨q0,q1,q2,q3,q4,q5,q6,q7,q8,q9⟩:=zit hA5;obtain⟨p0,p1,p2,p3,p4,p5,p6,p7,p8,p9⟩:=zit hB5)
   refine(H2.out _ HG5.out).mono ?_;rintro e w6 ⟨rfl,hg6⟩;refine Hid.out ?_;refine hid ?_;have hA6:=(hg6.below.block _ (by omega)).trans hA5;have hB6:=(hg6.below.block _ (by omega)).trans hB5;have hC6:=(hg6.below.block _ (by omega)).trans hC5;have HG6:=hid (HG5.out.trans hg6);clear hs5 hg6 hA5 hB5 hC5 HG5 H2 q0 q1 q2 q3 q4 q5 q6 q7 q8 q9 p0 p1 p2 p3 p4 p5 p6 p7 p8 p9;have hA7:=hA6;have hC7:=hC6;have HG7:=HG6;clear hA6 hC6 HG6 hB6;generalize hw7:w6=w7 at*;clear hw7
   go_wp2_with (first
    | (refine wpList_load_row rfl 302 _ rfl w.heap.size rfl _ _ _ _ hA7 Tryz.underlying302 rfl zjc ?_)
    | (refine wpList_store_row rfl 302 _ _ rfl (w.heap.size+2) (stL ⟨⟨vy,ay,cy,s2⟩,⟨vx2,ax2,cx2,s12⟩⟩).toArray rfl rfl _ _ hC7 zjc rfl (zje _) ?_))
   refine bodyPost_ret (results_cell_row rfl _ _ (w.heap.size+2) _ (stL ⟨⟨vy,ay,cy,s2⟩,⟨vx2,ax2,cx2,s12⟩⟩).toArray _ _ rfl (setRow_heap _ _ _ _ _ _ hC7) Tryz.underlying302 rfl zjc) rfl ?_;exact⟨by rw[HMM.out],zjj HG7.out (by omega) _⟩
 · have d1:decide (r1<0)=false:=decide_eq_false h1
   have d2:decide (0<r2)=true:=decide_eq_true h2;have HMM:Hid (meetR ⟨⟨vx,ax,cx,s1⟩,⟨vx2,ax2,cx2,s12⟩⟩ ⟨⟨vy,ay,cy,s2⟩,⟨vy2,ay2,cy2,s22⟩⟩=⟨⟨vx,ax,cx,s1⟩,⟨vy2,ay2,cy2,s22⟩⟩):=hid (by rw[HM.out,if_neg h1,if_pos h2]);clear h1 h2 HM;go_enter Tryz.func250,Tryz.ntmps250;go_wp2_with fail;generalize ((w.alloc (stO ⟨⟨vx,ax,cx,s1⟩,⟨vx2,ax2,cx2,s12⟩⟩)).alloc (stO ⟨⟨vy,ay,cy,s2⟩,⟨vy2,ay2,cy2,s22⟩⟩)).alloc (.cells #[.int .u32 0,.int .u32 0,.int .u32 0,.slice none 0 0,.int .i64 0,.int .u32 0,.int .u32 0,.int .u32 0,.slice none 0 0,.int .i64 0] 302)=W3 at*;refine(H1.out W3 HG3.out).mono ?_;rintro e w4 ⟨rfl,hg4⟩;refine Hid.out ?_;refine hid ?_;have hA4:=(hg4.below.block _ (by omega)).trans hA3;have hB4:=(hg4.below.block _ (by omega)).trans hB3;have hC4:=(hg4.below.block _ (by omega)).trans hC3;have hs4:w.heap.size+2<w4.heap.size:=Nat.lt_of_lt_of_le hs3 hg4.below.size;have HG4:=hid (HG3.out.trans hg4);clear hg4 hA3 hB3 hC3 HG3 H1 hs3;have hA5:=hA4;have hB5:=hB4;have hC5:=hC4;have HG5:=HG4;have hs5:=hs4;clear hA4 hB4 hC4 HG4 hs4;generalize hw5:w4=w5 at*;clear hw5;obtain⟨q0,q1,q2,q3,q4,q5,q6,q7,q8,q9⟩:=zit hA5;obtain⟨p0,p1,p2,p3,p4,p5,p6,p7,p8,p9⟩:=zit hB5;go_wp2_with (go_at_call 255;refine(H2.out _ HG5.out).mono ?_;rintro e w6 ⟨rfl,hg6⟩;refine Hid.out ?_)
   refine hid ?_;have hA6:=(hg6.below.block _ (by omega)).trans hA5;have hB6:=(hg6.below.block _ (by omega)).trans hB5;have hC6:=(hg6.below.block _ (by omega)).trans hC5;have HG6:=hid (HG5.out.trans hg6);clear hs5 hg6 hA5 hB5 hC5 HG5 H2 q0 q1 q2 q3 q4 q5 q6 q7 q8 q9 p0 p1 p2 p3 p4 p5 p6 p7 p8 p9;obtain⟨p0,p1,p2,p3,p4,p5,p6,p7,p8,p9⟩:=zit hB6;obtain⟨w7,e7,hA7,hE7,hG7,-⟩:=zjm hA6 ⟨vy2,ay2,cy2,s22⟩;have hC7:=(hE7 _ (by omega:w.heap.size+2≠w.heap.size)).trans hC6;have HG7:=hid (hG7 _ HG6.out (Nat.le_refl _));have HT:=hid (zjk (o:=5) (n:=5) hA6 (by simp));have HC7:=hid hC7;have HA7:=hid hA7;have HE7:=hid e7;clear hB6 hC6 HG6 hE7 hG7 hA6 hA7 hC7 e7
   go_wp2_with (first
    | (refine wpList_store_row rfl 302 _ _ rfl (w.heap.size+2) (stL ⟨⟨vx,ax,cx,s1⟩,⟨vy2,ay2,cy2,s22⟩⟩).toArray rfl rfl _ _ hC8 zjc rfl (zje _) ?_)
    | (refine wpList_store_mid rfl 300 _ _ rfl w.heap.size 5 (edL ⟨vy2,ay2,cy2,s22⟩).toArray rfl rfl HT.out zjd (zjf _) ?_;change wpList _ _ _ _ _ (w6.setCells w.heap.size 5 (edL ⟨vy2,ay2,cy2,s22⟩));rw[HE7.out];clear HT HE7 p0 p1 p2 p3 p4 p5 p6 p7 p8 p9;have hC8:=HC7.out;obtain⟨q0,q1,q2,q3,q4,q5,q6,q7,q8,q9⟩:=zit HA7.out))
   have hC7:=HC7.out;refine bodyPost_ret (results_cell_row rfl _ _ (w.heap.size+2) _ (stL ⟨⟨vx,ax,cx,s1⟩,⟨vy2,ay2,cy2,s22⟩⟩).toArray _ _ rfl (setRow_heap _ _ _ _ _ _ hC7) Tryz.underlying302 rfl zjc) rfl ?_;exact⟨by rw[HMM.out],zjj HG7.out (by omega) _⟩
 · have d1:decide (r1<0)=false:=decide_eq_false h1
   have d2:decide (0<r2)=false:=decide_eq_false h2;have HMM:Hid (meetR ⟨⟨vx,ax,cx,s1⟩,⟨vx2,ax2,cx2,s12⟩⟩ ⟨⟨vy,ay,cy,s2⟩,⟨vy2,ay2,cy2,s22⟩⟩=⟨⟨vx,ax,cx,s1⟩,⟨vx2,ax2,cx2,s12⟩⟩):=hid (by rw[HM.out,if_neg h1,if_neg h2]);clear h1 h2 HM;go_enter Tryz.func250,Tryz.ntmps250;go_wp2_with fail;generalize ((w.alloc (stO ⟨⟨vx,ax,cx,s1⟩,⟨vx2,ax2,cx2,s12⟩⟩)).alloc (stO ⟨⟨vy,ay,cy,s2⟩,⟨vy2,ay2,cy2,s22⟩⟩)).alloc (.cells #[.int .u32 0,.int .u32 0,.int .u32 0,.slice none 0 0,.int .i64 0,.int .u32 0,.int .u32 0,.int .u32 0,.slice none 0 0,.int .i64 0] 302)=W3 at*;refine(H1.out W3 HG3.out).mono ?_;rintro e w4 ⟨rfl,hg4⟩;refine Hid.out ?_;refine hid ?_;have hA4:=(hg4.below.block _ (by omega)).trans hA3;have hB4:=(hg4.below.block _ (by omega)).trans hB3;have hC4:=(hg4.below.block _ (by omega)).trans hC3;have hs4:w.heap.size+2<w4.heap.size:=Nat.lt_of_lt_of_le hs3 hg4.below.size;have HG4:=hid (HG3.out.trans hg4);clear hg4 hA3 hB3 hC3 HG3 H1 hs3;have hA5:=hA4;have hB5:=hB4;have hC5:=hC4;have HG5:=HG4;have hs5:=hs4;clear hA4 hB4 hC4 HG4 hs4;generalize hw5:w4=w5 at*;clear hw5;obtain⟨q0,q1,q2,q3,q4,q5,q6,q7,q8,q9⟩:=zit hA5;obtain⟨p0,p1,p2,p3,p4,p5,p6,p7,p8,p9⟩:=zit hB5;go_wp2_with (go_at_call 255;refine(H2.out _ HG5.out).mono ?_;rintro e w6 ⟨rfl,hg6⟩;refine Hid.out ?_)
   refine hid ?_;have hA6:=(hg6.below.block _ (by omega)).trans hA5;have hB6:=(hg6.below.block _ (by omega)).trans hB5;have hC6:=(hg6.below.block _ (by omega)).trans hC5;have HG6:=hid (HG5.out.trans hg6);clear hs5 hg6 hA5 hB5 hC5 HG5 H2 q0 q1 q2 q3 q4 q5 q6 q7 q8 q9 p0 p1 p2 p3 p4 p5 p6 p7 p8 p9;have hA7:=hA6;have hC7:=hC6;have HG7:=HG6;clear hA6 hC6 HG6 hB6;generalize hw7:w6=w7 at*;clear hw7
   go_wp2_with (first
    | (refine wpList_load_row rfl 302 _ rfl w.heap.size rfl _ _ _ _ hA7 Tryz.underlying302 rfl zjc ?_)
    | (refine wpList_store_row rfl 302 _ _ rfl (w.heap.size+2) (stL ⟨⟨vx,ax,cx,s1⟩,⟨vx2,ax2,cx2,s12⟩⟩).toArray rfl rfl _ _ hC7 zjc rfl (zje _) ?_))
   refine bodyPost_ret (results_cell_row rfl _ _ (w.heap.size+2) _ (stL ⟨⟨vx,ax,cx,s1⟩,⟨vx2,ax2,cx2,s12⟩⟩).toArray _ _ rfl (setRow_heap _ _ _ _ _ _ hC7) Tryz.underlying302 rfl zjc) rfl ?_;exact⟨by rw[HMM.out],zjj HG7.out (by omega) _⟩
 --meet>
end SpanC
open Go.RowKit
namespace SpanC
open VerM SpanM StrC TextR VerC
theorem zjo{w:World}{g:Nat}{cs:Array Value}{t:TypeId}{fr:Nat×Nat}(h:w.heap[g]?=some (.cells cs t fr))(ht:t≠9):¬IsText w g:=fun⟨c,f,h2⟩=>by
 rw[h] at h2
 injection h2 with h2
 injection h2 with _ h2 _
 exact ht h2
theorem EdOk.keep{w w':World}{x:EdR}(h:EdOk w x){g:Nat}(hg:¬IsText w g)(hk:∀k,k<w.heap.size→k≠g→w'.heap[k]?=w.heap[k]?):EdOk w' x:=by
 have key:∀b f,x.a=some ⟨b,f,none⟩→w'.heap[b]?=w.heap[b]?:=fun b f e=>hk b (h.kind b f e).lt (fun e2=>hg (e2 ▸ h.kind b f e))
 refine⟨h.wf,⟨h.txs.cap,h.txs.short,h.txs.few,fun h0=>?_⟩,fun b f e=>(h.kind b f e).of (key b f e),h.nil⟩;obtain⟨b,o,e,hc⟩:=h.txs.cells h0;exact⟨b,o,e,fun i hi=>(World.cell?_of_block (a:=⟨b,o+i,none⟩) (key b o e)).trans (hc i hi)⟩
theorem StOk.keep{w w':World}{x:StR}(h:StOk w x){g:Nat}(hg:¬IsText w g)(hk:∀k,k<w.heap.size→k≠g→w'.heap[k]?=w.heap[k]?):StOk w' x:=⟨h.f.keep hg hk,h.t.keep hg hk⟩
def allS:St:=⟨⟨zbl zeroV,0⟩,⟨zeroV,2⟩⟩
theorem zjp:may (zbl zeroV)=true:=by rfl
theorem zjq:wfE allS.f∧wfE allS.t:=⟨⟨zjp,by decide,fun h=>by cases h⟩,⟨zho,by decide,fun _=>rfl⟩⟩
def allR(g:Nat):StR:=⟨⟨zbl zeroV,some ⟨g,0,none⟩,1,0⟩,⟨zeroV,none,0,2⟩⟩
def StE(s:St)(w:World)(e:Ending)(w':World):Prop:=∃r:StR,e= .returned (stV r)∧r.st=s∧StOk w' r∧Below w.heap.size w w'
set_option maxRecDepth 100000 in
theorem zjr(w:World):Calls Tryz.prog 248 #[] w (StE allS w):=by
 have HL:=hid (fun w'=>(zgy zeroV none 0 w' (Txs.nil _ _ _)).mono fun e w'' (h:LeastE zeroV w' e w'')=>(⟨h.2.2 zho,h.1⟩:(∃g,e= .returned (.tuple #[verV zeroV.a zeroV.b zeroV.c (some ⟨g,0,none⟩) 1 1,.int .i64 0])∧LeastI w' w'' g)∧Below w'.heap.size w' w''));have hn:=heap_alloc_new w (.cells #[.int .u32 0,.int .u32 0,.int .u32 0,.slice none 0 0,.int .i64 0,.int .u32 0,.int .u32 0,.int .u32 0,.slice none 0 0,.int .i64 0] 302);have HB0:Hid (Below w.heap.size w (w.alloc (.cells #[.int .u32 0,.int .u32 0,.int .u32 0,.slice none 0 0,.int .i64 0,.int .u32 0,.int .u32 0,.int .u32 0,.slice none 0 0,.int .i64 0] 302))):=hid ((Below.refl _ w).alloc (Nat.le_refl _) _);go_enter Tryz.func248,Tryz.ntmps248;go_wp2_with fail;generalize w.alloc (.cells #[.int .u32 0,.int .u32 0,.int .u32 0,.slice none 0 0,.int .i64 0,.int .u32 0,.int .u32 0,.int .u32 0,.slice none 0 0,.int .i64 0] 302)=W at*;have hlt:w.heap.size<W.heap.size:=(Array.getElem?_eq_some_iff.1 hn).1;refine(HL.out W).mono ?_;rintro e w1 ⟨⟨g,rfl,hL⟩,hb⟩;refine Hid.out ?_;refine hid ?_;have hn1:=(hb.block _ hlt).trans hn;have HI:=hid hL;have HB1:=hid (HB0.out.trans (hb.mono HB0.out.size));have hg:W.heap.size≤g:=hL.ge;have hl1:w.heap.size<w1.heap.size:=(Array.getElem?_eq_some_iff.1 hn1).1;have hn2:=(heap_alloc_old w1 (verO 0 0 0 (some ⟨g,0,none⟩) 1 1) (r:=w.heap.size) hl1).trans hn1;have HB2:=hid (HB1.out.alloc HB1.out.size (verO 0 0 0 (some ⟨g,0,none⟩) 1 1));have HTX:=hid (hL.txs.alloc (verO 0 0 0 (some ⟨g,0,none⟩) 1 1));have HKI:=hid (hL.kind.below ((Below.refl _ w1).alloc (Nat.le_refl _) (verO 0 0 0 (some ⟨g,0,none⟩) 1 1)));clear hn hL hb hn1 HB0 HB1 HI hl1;go_wp2_with (refine wpList_store_row rfl 302 _ _ rfl w.heap.size (stL (allR g)).toArray rfl rfl _ _ hn2 zjc rfl (zje _) ?_)
 refine bodyPost_ret (results_cell_row rfl _ _ w.heap.size _ (stL (allR g)).toArray _ _ rfl (setRow_heap _ _ _ _ _ _ hn2) Tryz.underlying302 rfl zjc) rfl ?_;exact⟨allR g,rfl,rfl,StOk.keep ⟨⟨zjq.1,HTX.out,fun b f e=>(by cases e;exact HKI.out),fun e=>(by cases e)⟩,⟨zjq.2,Txs.nil _ _ _,fun b f e=>(by cases e),fun _=>⟨rfl,rfl⟩⟩⟩ (zjo hn2 (by decide)) (fun k _ hk=>Go.setRow_other _ _ _ _ hk),below_setRow HB2.out (Nat.le_refl _) _⟩
def StRow(w:World)(B:Nat)(v:Value)(L:List StR):Prop:=w.ownsRow B 302 10 v L.length (L.flatMap stL)
def AllOk(w:World)(L:List StR):Prop:=∀x∈L,StOk w x
theorem AllOk.gr{w w':World}{L:List StR}(h:AllOk w L)(g:Below w.heap.size w w'):AllOk w' L:=fun x hx=>(h x hx).gr g
theorem StRow.below{w w':World}{B:Nat}{v:Value}{L:List StR}(h:StRow w B v L)(g:Below w.heap.size w w'):StRow w' B v L:=World.ownsRow.kept h (zij g) (Classical.em _)
theorem StRow.value{w:World}{B:Nat}{v:Value}{L:List StR}(h:StRow w B v L):∃a cp,v= .slice a L.length cp:=by
 rcases h.2 with ⟨rfl,h0⟩|⟨g,cp,cur,rfl,_⟩
 · exact⟨none,0,by rw[h0]⟩
 · exact⟨_,_,rfl⟩
theorem zjs(x:StR):(stL x).length=10:=rfl
instance:Inhabited EdR:=⟨⟨⟨0,0,0,[]⟩,none,0,0⟩⟩
instance:Inhabited StR:=⟨⟨default,default⟩⟩
theorem StRow.at{w:World}{B:Nat}{a:Option Addr}{n cp:Nat}{L:List StR}(h:StRow w B (.slice a n cp) L)(i:Nat)(hi:i<L.length):∃(g:Nat) (x:StR),x=L[i]! ∧x∈L∧L[i]?=some x∧a=some ⟨g,0,none⟩∧n=L.length∧B≤g∧g<w.heap.size∧¬IsText w g∧(∀j,w.frozen? ⟨g,j,none⟩=false)∧
 w.cell? ⟨g,i*10,none⟩=some (.int .u32 x.f.v.a)∧w.cell? ⟨g,i*10+1,none⟩=some (.int .u32 x.f.v.b)∧w.cell? ⟨g,i*10+2,none⟩=some (.int .u32 x.f.v.c)∧w.cell? ⟨g,i*10+3,none⟩=some (.slice x.f.a x.f.v.pre.length x.f.c)∧w.cell? ⟨g,i*10+4,none⟩=some (.int .i64 x.f.s)∧
 w.cell? ⟨g,i*10+5,none⟩=some (.int .u32 x.t.v.a)∧w.cell? ⟨g,i*10+6,none⟩=some (.int .u32 x.t.v.b)∧w.cell? ⟨g,i*10+7,none⟩=some (.int .u32 x.t.v.c)∧w.cell? ⟨g,i*10+8,none⟩=some (.slice x.t.a x.t.v.pre.length x.t.c)∧w.cell? ⟨g,i*10+9,none⟩=some (.int .i64 x.t.s):=by
 have h':w.ownsRow B 302 10 (.slice a n cp) L.length (L.flatMap stL):=h;have hlt:=h'.lt;have h0:=h';obtain⟨_,⟨h1,h2⟩|⟨g,cp',cur,e1,hg0,hblk,_⟩⟩:=h'
 · omega
 simp only[Value.slice.injEq] at e1;obtain⟨rfl,rfl,rfl⟩:=e1
 have key:∀c,c<10→w.cell? ⟨g,i*10+c,none⟩=some ((stL L[i]!)[c]!):=fun c hc=>by
  rw[h0.cellAt (i*10+c) (by omega),RowKC.zik stL 10 zjs L _ (by omega),show (i*10+c) / 10=i from by omega,show (i*10+c) % 10=c from by omega]
 have hx:L[i]?=some L[i]! :=by rw[List.getElem?_eq_getElem hi,getElem!_pos L i hi]
 exact⟨g,L[i]!,rfl,List.mem_of_getElem? hx,hx,rfl,rfl,hg0,(hlt g rfl).2,zjo hblk (by decide),fun j=>h0.frozenAt j,key 0 (by omega),key 1 (by omega),key 2 (by omega),key 3 (by omega),key 4 (by omega),key 5 (by omega),key 6 (by omega),key 7 (by omega),key 8 (by omega),key 9 (by omega)⟩
end SpanC
end
section
open Go.RowKit
namespace SpanC
open VerM SpanM StrC TextR VerC
theorem own_kind{w:World}{B:Nat}{a:Option Addr}{n c:Nat}{l:List ByteArray}(h:OwnT w B (.slice a n c) l):(∀b f,a=some ⟨b,f,none⟩→B≤b∧IsText w b)∧(a=none→n=0∧c=0):=by
 rcases h.2 with ⟨h0,h1⟩|⟨g,cp,cur,e1,hg0,hblk,_⟩
 · injection h0 with h0 h2 h3
   exact⟨fun b f e=>(by rw[h0] at e;cases e),fun _=>⟨h2,h3⟩⟩
 · injection e1 with e1 _ _
   exact⟨fun b f e=>(by rw[e1] at e;cases e;exact⟨hg0,_,_,hblk⟩),fun e=>(by rw[e1] at e;cases e)⟩
end SpanC
end
section
open Go.RowKit
namespace VerC
open VerM StrC TextR Go.Sort Go.Shelf
structure RecT where
 s:B
 v:Ver
 a:Option Addr
 c:Nat
instance:Inhabited RecT:=⟨⟨[],⟨0,0,0,[]⟩,none,0⟩⟩
theorem zjt(l:B)(w:World)(hv:Vw w):
 Calls Tryz.prog 140 #[.string (str l)] w fun e w'=>∃x,e= .returned x∧ReadE l w' (.returned x)∧Below w.heap.size w w'∧NewE w.heap.size w' (.returned x):=
 (zgd l w hv).mono fun e w' ⟨⟨he,hb⟩,hn⟩=>by
   obtain⟨x,rfl⟩:=zgv he;exact⟨x,rfl,he,hb,hn⟩
theorem zju(w:World)(l:List Value)(t:TypeId):∀j u,l[j]?=some u→(w.alloc (.cells l.toArray t)).cell? ((⟨w.heap.size,0,none⟩:Addr).add j)=some u:=by
 intro j u hu;rw[Go.WideShapes.add_plain,Nat.zero_add];simp only[World.cell?,heap_alloc_new]
 simpa using hu
end VerC
end
section
open Go.RowKit
namespace SpanC
open VerM SpanM StrC TextR VerC
structure IvG where
 lv:Ver
 la:Option Addr
 lc:Nat
 lo:Bool
 hv:Ver
 ha:Option Addr
 hc:Nat
 ho:Bool
 e:Bool
instance:Inhabited IvG:=⟨⟨⟨0,0,0,[]⟩,none,0,false,⟨0,0,0,[]⟩,none,0,false,false⟩⟩
abbrev gvL(x:IvG):List Value:=[.int .u32 x.lv.a,.int .u32 x.lv.b,.int .u32 x.lv.c,.slice x.la x.lv.pre.length x.lc,.bool x.lo,.int .u32 x.hv.a,.int .u32 x.hv.b,.int .u32 x.hv.c,.slice x.ha x.hv.pre.length x.hc,.bool x.ho,.bool x.e]
theorem zjv(x:IvG):(gvL x).length=11:=rfl
abbrev gvO(x:IvG):Obj:=.cells (gvL x).toArray 286
abbrev gvV(x:IvG):Value:=.agg (gvL x).toArray
def IvRow(w:World)(B:Nat)(v:Value)(L:List IvG):Prop:=w.ownsRow B 286 11 v L.length (L.flatMap gvL)
theorem zjw:(Tryz.prog.info? 286).map (fun i=>(i.zero,i.size,i.bytes))=some (some (.agg #[.int .u32 0,.int .u32 0,.int .u32 0,.slice none 0 0,.bool false,.int .u32 0,.int .u32 0,.int .u32 0,.slice none 0 0,.bool false,.bool false]),11,104):=by kernel_rfl
theorem IvRow.below'{w w':World}{B:Nat}{v:Value}{L:List IvG}(h:IvRow w B v L)(g:Below w.heap.size w w'):IvRow w' B v L:=World.ownsRow.kept h (zij g) (Classical.em _)
theorem zjx(x:IvG):∀u∈gvL x,u.oneCell'=true:=by
 intro u hu;simp only[List.mem_cons,List.not_mem_nil,or_false] at hu;rcases hu with rfl|rfl|rfl|rfl|rfl|rfl|rfl|rfl|rfl|rfl|rfl<;>rfl
theorem zjy{w w':World}{x:StR}{B n k:Nat}{e:TypeId}{v:Value}{xs:List Value}(h:StOk w x)(hown:w.ownsRow B e k v n xs)(he:e≠9)(hg:w.grownBy w' v.ownBlock):StOk w' x:=by
 rcases hown.2 with ⟨rfl,_⟩|⟨g,cp,cur,rfl,_,hb,_⟩
 · exact h.gr ⟨hg.os,hg.tape,hg.output,hg.size,fun j hj=>hg.block j hj (by simp[Value.ownBlock])⟩
 · exact h.keep (zjo hb he) fun j hj hne=>hg.block j hj (by simp[Value.ownBlock];exact fun e=>hne e)
end SpanC
end
section
open Go.RowKit
namespace SpanC
open VerM SpanM StrC TextR VerC
def zeroB(v:Ver)(o:Bool):Bool:=decide (cmpV v zeroV=0) && !o
def zjz(x:IvG):Bool:=may x.lv && may x.hv && (!x.e || zeroB x.hv x.ho)
def toSt(x:IvG):StR:=⟨⟨x.lv,x.la,x.lc,if x.lo then 1 else 0⟩,if x.e then ⟨zeroV,none,0,2⟩ else ⟨x.hv,x.ha,x.hc,if x.ho then 0 else 1⟩⟩
theorem zka{w:World}{g:Nat}{x:IvG}(h:w.heap[g]?=some (gvO x)):
 w.cell? ⟨g,0,none⟩=some (.int .u32 x.lv.a)∧w.cell? ⟨g,1,none⟩=some (.int .u32 x.lv.b)∧w.cell? ⟨g,2,none⟩=some (.int .u32 x.lv.c)∧w.cell? ⟨g,3,none⟩=some (.slice x.la x.lv.pre.length x.lc)∧w.cell? ⟨g,4,none⟩=some (.bool x.lo)∧
 w.cell? ⟨g,5,none⟩=some (.int .u32 x.hv.a)∧w.cell? ⟨g,6,none⟩=some (.int .u32 x.hv.b)∧w.cell? ⟨g,7,none⟩=some (.int .u32 x.hv.c)∧w.cell? ⟨g,8,none⟩=some (.slice x.ha x.hv.pre.length x.hc)∧w.cell? ⟨g,9,none⟩=some (.bool x.ho)∧w.cell? ⟨g,10,none⟩=some (.bool x.e):=by
 refine⟨?_,?_,?_,?_,?_,?_,?_,?_,?_,?_,?_⟩<;>simp[World.cell?,h]
end SpanC
end
end Go.Proofs.YtbninnkpjdofbaaGreatDoor
