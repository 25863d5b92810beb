/-
  What the proof of EventReads stands on, part 13.
-/
import Derived.Test.YtbninnkpjdofbaaGreatDoorT12
set_option linter.unusedSimpArgs false
set_option linter.unusedVariables false
set_option maxHeartbeats 16000000
namespace Go.Proofs.YtbninnkpjdofbaaGreatDoor
open Go.Lib (hid)
section
open Go.RowKit
namespace SpanC
open VerM SpanM StrC TextR VerC
abbrev bdL(v:Ver)(a:Option Addr)(c:Nat)(o:Bool):List Value:=[.int .u32 v.a,.int .u32 v.b,.int .u32 v.c,.slice a v.pre.length c,.bool o]
abbrev bdO(v:Ver)(a:Option Addr)(c:Nat)(o:Bool):Obj:=.cells (bdL v a c o).toArray 284
theorem zle{w:World}{g:Nat}{v:Ver}{a:Option Addr}{c:Nat}{o:Bool}(h:w.heap[g]?=some (bdO v a c o)):
 w.cell? ⟨g,0,none⟩=some (.int .u32 v.a)∧w.cell? ⟨g,1,none⟩=some (.int .u32 v.b)∧w.cell? ⟨g,2,none⟩=some (.int .u32 v.c)∧w.cell? ⟨g,3,none⟩=some (.slice a v.pre.length c)∧w.cell? ⟨g,4,none⟩=some (.bool o):=by
 refine⟨?_,?_,?_,?_,?_⟩<;>simp[World.cell?,h]
def sideF(o:Bool):Nat:=if o then 1 else 0
theorem low_is(v u:Ver)(o p:Bool):cE ⟨v,sideF o⟩ ⟨u,sideF p⟩=if cmpV v u≠0 then cmpV v u else if o=p then 0 else if p then -1 else 1:=by
 cases o<;>cases p<;>(unfold cE VerM.lex late sideF;simp[cmpN])
set_option maxRecDepth 100000 in
theorem zlf(v u:Ver)(a1 a2:Option Addr)(c1 c2:Nat)(o p:Bool)(w:World)(hT1:Txs w a1 c1 v.pre)(hT2:Txs w a2 c2 u.pre)(hm1:may v=true)(hm2:may u=true):
 Calls Tryz.prog 239 #[.agg (bdL v a1 c1 o).toArray,.agg (bdL u a2 c2 p).toArray] w fun e w'=>e= .returned (.int .i64 (cE ⟨v,sideF o⟩ ⟨u,sideF p⟩))∧Below w.heap.size w w':=by
 have HR:=hid (low_is v u o p);have hb1:Below w.heap.size w ((w.alloc (bdO v a1 c1 o)).alloc (bdO u a2 c2 p)):=((Below.refl _ w).alloc (Nat.le_refl _) _).alloc (by simp) _;have HC:=hid (zhc v u a1 c1 a2 c2 ((w.alloc (bdO v a1 c1 o)).alloc (bdO u a2 c2 p)) (hT1.gr hb1) (hT2.gr hb1) hm1 hm2);have HB1:=hid hb1;have hn1:((w.alloc (bdO v a1 c1 o)).alloc (bdO u a2 c2 p)).heap[w.heap.size]?=some (bdO v a1 c1 o):=(((Below.refl _ (w.alloc (bdO v a1 c1 o))).alloc (Nat.le_refl _) (bdO u a2 c2 p)).block _ (by simp)).trans (heap_alloc_new w _)
 have hn2:((w.alloc (bdO v a1 c1 o)).alloc (bdO u a2 c2 p)).heap[w.heap.size+1]?=some (bdO u a2 c2 p):=by
  have:=heap_alloc_new (w.alloc (bdO v a1 c1 o)) (bdO u a2 c2 p)
  rwa [show (w.alloc (bdO v a1 c1 o)).heap.size=w.heap.size+1 by simp] at this
 generalize hr:cmpV v u=r at*;generalize cE ⟨v,sideF o⟩ ⟨u,sideF p⟩=res at*;obtain⟨q0,q1,q2,q3,-⟩:=zle hn1;obtain⟨s0,s1,s2,s3,-⟩:=zle hn2;have HN1:=hid hn1;have HN2:=hid hn2;clear hT1 hT2 hm1 hm2 hb1 hn1 hn2 hr;go_enter Tryz.func239,Tryz.ntmps239;go_wp2_with (go_at_call 243;refine HC.out.mono ?_;rintro e w2 ⟨rfl,hb⟩;refine Hid.out ?_)
 refine hid ?_;have HB2:=hid (HB1.out.trans (hb.mono HB1.out.size));have hn1:=(hb.block _ (by simp;try omega)).trans HN1.out;have hn2:=(hb.block _ (by simp;try omega)).trans HN2.out;clear q0 q1 q2 q3 s0 s1 s2 s3 hb HN1 HN2 HC HB1;obtain⟨-,-,-,-,q4⟩:=zle hn1;obtain⟨-,-,-,-,s4⟩:=zle hn2;clear hn1 hn2;by_cases h0:r=0
 · subst h0
   cases o<;>cases p
   all_goals
    go_wp2_with fail;go_ret;exact⟨by rw[HR.out];rfl,HB2.out⟩
 · have d0:(r != 0)=true:=bne_iff_ne.2 h0
   have HR2:Hid (res=r):=hid (by rw[HR.out,if_pos h0]);clear HR h0;go_wp2_with fail;go_ret;exact⟨by rw[HR2.out];rfl,HB2.out⟩
structure TxQ (K:Prop) (w:World) (a:Option Addr) (c:Nat) (p:TL):Prop where
 txs:Txs w a c p
 k:K→∀b f,a=some ⟨b,f,none⟩→IsText w b
variable {K:Prop}
theorem TxQ.gr{w w':World}{a:Option Addr}{c:Nat}{p:TL}(h:TxQ K w a c p)(g:Below w.heap.size w w'):TxQ K w' a c p:=⟨h.txs.gr g,fun k b f e=>(h.k k b f e).below g⟩
theorem TxQ.nil(w:World)(c:Nat):TxQ K w none c []:=⟨Txs.nil _ _ _,fun _ b f e=>(by cases e)⟩
structure TI (K:Prop) (w:World) (x:IvG):Prop where
 l:TxQ K w x.la x.lc x.lv.pre
 h:TxQ K w x.ha x.hc x.hv.pre
theorem TI.gr{w w':World}{x:IvG}(h:TI K w x)(g:Below w.heap.size w w'):TI K w' x:=⟨h.l.gr g,h.h.gr g⟩
abbrev fE(x:IvG):Ed:=(toSt x).f.ed
abbrev tE(x:IvG):Ed:=(toSt x).t.ed
theorem zlg(x:IvG):(toSt x).st=⟨fE x,tE x⟩:=rfl
theorem zlh{x:IvG}(h:zjz x=true):may x.lv=true∧may x.hv=true:=by
 unfold zjz at h;simp only[Bool.and_eq_true] at h;exact h.1
theorem zli{x:IvG}(h:x.e=true):tE x=⟨zeroV,2⟩:=by unfold tE toSt EdR.ed;rw[if_pos h]
theorem zlj{x:IvG}(h:x.e=false):tE x=⟨x.hv,if x.ho then 0 else 1⟩:=by unfold tE toSt EdR.ed;rw[h];rfl
theorem fE_is(x:IvG):fE x=⟨x.lv,if x.lo then 1 else 0⟩:=rfl
theorem zlk{v u:Ver}{n m:Nat}(hn:n≤1)(hm:m≤1):cE ⟨v,n⟩ ⟨u,m⟩=if cmpV v u≠0 then cmpV v u else cmpN n m:=by
 have a:late ⟨v,n⟩=0:=by unfold late;rw[if_neg];show ¬n=2;omega
 have b:late ⟨u,m⟩=0:=by unfold late;rw[if_neg];show ¬m=2;omega
 unfold cE VerM.lex;simp only[a,b];simp[cmpN]
theorem zll{v:Ver}{n:Nat}(hn:n≤1):cE ⟨v,n⟩ ⟨zeroV,2⟩= -1:=by
 have a:late ⟨v,n⟩=0:=by unfold late;rw[if_neg];show ¬n=2;omega
 unfold cE VerM.lex;simp only[a,show late ⟨zeroV,2⟩=1 from rfl]
 rfl
theorem zlm{v:Ver}{n:Nat}(hn:n≤1):cE ⟨zeroV,2⟩ ⟨v,n⟩=1:=by rw[zhs,zll hn];rfl
theorem zln(b:Bool):(if b then 0 else 1:Nat)≤1:=by cases b<;>decide
theorem zlo(b:Bool):(if b then 1 else 0:Nat)≤1:=by cases b<;>decide
theorem high_is(x y:IvG):cE (tE x) (tE y)=if x.e then (if y.e then 0 else 1) else if y.e then -1 else if cmpV x.hv y.hv≠0 then cmpV x.hv y.hv else if x.ho=y.ho then 0 else if x.ho then -1 else 1:=by
 cases hx:x.e<;>cases hy:y.e
 · rw[zlj hx,zlj hy,zlk (zln _) (zln _)]
   cases x.ho<;>cases y.ho<;>simp[cmpN]
 · rw[zlj hx,zli hy,zll (zln _)];simp
 · rw[zli hx,zlj hy,zlm (zln _)];simp
 · rw[zli hx,zli hy,zhr];simp
set_option maxRecDepth 100000 in
theorem zlp(x y:IvG)(w:World)(hx:TI K w x)(hy:TI K w y)(rx:zjz x=true)(ry:zjz y=true):
 Calls Tryz.prog 241 #[gvV x,gvV y] w fun e w'=>e= .returned (.int .i64 (cE (tE x) (tE y)))∧Below w.heap.size w w':=by
 have HR:=hid (high_is x y);have hb1:Below w.heap.size w ((w.alloc (gvO x)).alloc (gvO y)):=((Below.refl _ w).alloc (Nat.le_refl _) _).alloc (by simp) _;have HC:=hid (zhc x.hv y.hv x.ha x.hc y.ha y.hc ((w.alloc (gvO x)).alloc (gvO y)) (hx.h.gr hb1).txs (hy.h.gr hb1).txs (zlh rx).2 (zlh ry).2);have HB1:=hid hb1;have hn1:((w.alloc (gvO x)).alloc (gvO y)).heap[w.heap.size]?=some (gvO x):=(((Below.refl _ (w.alloc (gvO x))).alloc (Nat.le_refl _) (gvO y)).block _ (by simp)).trans (heap_alloc_new w _)
 have hn2:((w.alloc (gvO x)).alloc (gvO y)).heap[w.heap.size+1]?=some (gvO y):=by
  have:=heap_alloc_new (w.alloc (gvO x)) (gvO y)
  rwa [show (w.alloc (gvO x)).heap.size=w.heap.size+1 by simp] at this
 generalize hr:cmpV x.hv y.hv=r at*;generalize cE (tE x) (tE y)=res at*;have HN1:=hid hn1;have HN2:=hid hn2;obtain⟨q0,q1,q2,q3,q4,q5,q6,q7,q8,q9,q10⟩:=zka hn1;obtain⟨p0,p1,p2,p3,p4,p5,p6,p7,p8,p9,p10⟩:=zka hn2;obtain⟨lv,la,lc,lo,hv,ha,hc,ho,xe⟩:=x;obtain⟨lv',la',lc',lo',hv',ha',hc',ho',ye⟩:=y
 dsimp only at*
 clear hx hy rx ry hb1 hn1 hn2 hr;cases xe<;>cases ye
 · go_enter Tryz.func241,Tryz.ntmps241
   go_wp2_with (go_at_call 243;refine HC.out.mono ?_;rintro e w2 ⟨rfl,hb⟩;refine Hid.out ?_)
   refine hid ?_;have HB2:=hid (HB1.out.trans (hb.mono HB1.out.size));have hn1:=(hb.block _ (by simp;try omega)).trans HN1.out;have hn2:=(hb.block _ (by simp;try omega)).trans HN2.out;clear q0 q1 q2 q3 q4 q5 q6 q7 q8 q9 q10 p0 p1 p2 p3 p4 p5 p6 p7 p8 p9 p10 hb HN1 HN2 HC HB1;obtain⟨-,-,-,-,-,-,-,-,-,q9,-⟩:=zka hn1;obtain⟨-,-,-,-,-,-,-,-,-,p9,-⟩:=zka hn2;clear hn1 hn2;by_cases h0:r=0
   · subst h0
     cases ho<;>cases ho'
     all_goals
      go_wp2_with fail;go_ret;exact⟨by rw[HR.out];rfl,HB2.out⟩
   · have d0:(r != 0)=true:=bne_iff_ne.2 h0
     have HR2:Hid (res=r):=hid (by rw[HR.out];simp[h0]);clear HR h0;go_wp2_with fail;go_ret;exact⟨by rw[HR2.out];rfl,HB2.out⟩
 all_goals
  go_enter Tryz.func241,Tryz.ntmps241;go_wp2_with fail;go_ret;exact⟨by rw[HR.out];rfl,HB1.out⟩
theorem zlq(x:IvG):empB (toSt x).st=if x.e then false else if 0<cmpV x.lv x.hv then true else if cmpV x.lv x.hv=0 then (x.lo || x.ho) else false:=by
 rw[zlg];unfold empB
 dsimp only
 cases hx:x.e
 · rw[fE_is,zlj hx,zlk (zlo _) (zln _)]
   by_cases h0:cmpV x.lv x.hv=0
   · rw[h0]
     cases x.lo<;>cases x.ho<;>simp[cmpN]
   · rw[if_pos h0]
     by_cases h1:0<cmpV x.lv x.hv
     · have:0≤cmpV x.lv x.hv:=by omega
       simp[h1,this]
     · have:¬0≤cmpV x.lv x.hv:=by omega
       simp[h0,h1,this]
 · rw[fE_is,zli hx,zll (zlo _)];rfl
set_option maxRecDepth 100000 in
theorem zlr(x:IvG)(w:World)(hx:TI K w x)(rx:zjz x=true):
 Calls Tryz.prog 238 #[gvV x] w fun e w'=>e= .returned (.bool (empB (toSt x).st))∧Below w.heap.size w w':=by
 have HR:=hid (zlq x);have hb1:Below w.heap.size w (w.alloc (gvO x)):=(Below.refl _ w).alloc (Nat.le_refl _) _;have HC:=hid (zhc x.lv x.hv x.la x.lc x.ha x.hc (w.alloc (gvO x)) (hx.l.gr hb1).txs (hx.h.gr hb1).txs (zlh rx).1 (zlh rx).2);have HB1:=hid hb1;have hn1:(w.alloc (gvO x)).heap[w.heap.size]?=some (gvO x):=heap_alloc_new w _;generalize hr:cmpV x.lv x.hv=r at*;generalize empB (toSt x).st=res at*;have HN1:=hid hn1;obtain⟨q0,q1,q2,q3,q4,q5,q6,q7,q8,q9,q10⟩:=zka hn1;obtain⟨lv,la,lc,lo,hv,ha,hc,ho,xe⟩:=x
 dsimp only at*
 clear hx rx hb1 hn1 hr;cases xe
 · go_enter Tryz.func238,Tryz.ntmps238
   go_wp2_with (go_at_call 243;refine HC.out.mono ?_;rintro e w2 ⟨rfl,hb⟩;refine Hid.out ?_)
   refine hid ?_;have HB2:=hid (HB1.out.trans (hb.mono HB1.out.size));have hn1:=(hb.block _ (by simp;try omega)).trans HN1.out;clear q0 q1 q2 q3 q4 q5 q6 q7 q8 q9 q10 hb HN1 HC HB1;obtain⟨-,-,-,-,q4,-,-,-,-,q9,-⟩:=zka hn1;clear hn1;by_cases h0:0<r
   · have d0:decide (0<r)=true:=decide_eq_true h0
     have HR2:Hid (res=true):=hid (by rw[HR.out];simp[h0]);clear HR h0;go_wp2_with fail;go_ret;exact⟨by rw[HR2.out];rfl,HB2.out⟩
   · have d0:decide (0<r)=false:=decide_eq_false h0
     by_cases h1:r=0
     · subst h1
       cases lo<;>cases ho
       all_goals
        go_wp2_with fail;go_ret;exact⟨by rw[HR.out];rfl,HB2.out⟩
     · have d1:(r == 0)=false:=beq_eq_false_iff_ne.2 h1
       have HR2:Hid (res=false):=hid (by rw[HR.out];simp[h0,h1]);clear HR h0 h1;go_wp2_with fail;go_ret;exact⟨by rw[HR2.out];rfl,HB2.out⟩
 · go_enter Tryz.func238,Tryz.ntmps238
   go_wp2_with fail;go_ret;exact⟨by rw[HR.out];rfl,HB1.out⟩
def touB(x y:IvG):Bool:= !decide (cE (tE x) (fE y)<0)
theorem tou_is(x y:IvG):touB x y=if x.e then true else if 0<cmpV x.hv y.lv then true else if cmpV x.hv y.lv=0 then !(x.ho && y.lo) else false:=by
 unfold touB;cases hx:x.e
 · rw[fE_is,zlj hx,zlk (zln _) (zlo _)]
   by_cases h0:cmpV x.hv y.lv=0
   · rw[h0]
     cases x.ho<;>cases y.lo<;>simp[cmpN]
   · rw[if_pos h0]
     by_cases h1:0<cmpV x.hv y.lv
     · have:¬cmpV x.hv y.lv<0:=by omega
       simp[h1,this]
     · have:cmpV x.hv y.lv<0:=by omega
       simp[h0,h1,this]
 · rw[fE_is,zli hx,zlm (zlo _)];rfl
set_option maxRecDepth 100000 in
theorem zls(x y:IvG)(w:World)(hx:TI K w x)(hy:TI K w y)(rx:zjz x=true)(ry:zjz y=true):
 Calls Tryz.prog 240 #[gvV x,gvV y] w fun e w'=>e= .returned (.bool (touB x y))∧Below w.heap.size w w':=by
 have HR:=hid (tou_is x y);have hb1:Below w.heap.size w ((w.alloc (gvO x)).alloc (gvO y)):=((Below.refl _ w).alloc (Nat.le_refl _) _).alloc (by simp) _;have HC:=hid (zhc x.hv y.lv x.ha x.hc y.la y.lc ((w.alloc (gvO x)).alloc (gvO y)) (hx.h.gr hb1).txs (hy.l.gr hb1).txs (zlh rx).2 (zlh ry).1);have HB1:=hid hb1;have hn1:((w.alloc (gvO x)).alloc (gvO y)).heap[w.heap.size]?=some (gvO x):=(((Below.refl _ (w.alloc (gvO x))).alloc (Nat.le_refl _) (gvO y)).block _ (by simp)).trans (heap_alloc_new w _)
 have hn2:((w.alloc (gvO x)).alloc (gvO y)).heap[w.heap.size+1]?=some (gvO y):=by
  have:=heap_alloc_new (w.alloc (gvO x)) (gvO y)
  rwa [show (w.alloc (gvO x)).heap.size=w.heap.size+1 by simp] at this
 generalize hr:cmpV x.hv y.lv=r at*;generalize touB x y=res at*;have HN1:=hid hn1;have HN2:=hid hn2;obtain⟨q0,q1,q2,q3,q4,q5,q6,q7,q8,q9,q10⟩:=zka hn1;obtain⟨p0,p1,p2,p3,p4,p5,p6,p7,p8,p9,p10⟩:=zka hn2;obtain⟨lv,la,lc,lo,hv,ha,hc,ho,xe⟩:=x;obtain⟨lv',la',lc',lo',hv',ha',hc',ho',ye⟩:=y
 dsimp only at*
 clear hx hy rx ry hb1 hn1 hn2 hr;cases xe
 · go_enter Tryz.func240,Tryz.ntmps240
   go_wp2_with (go_at_call 243;refine HC.out.mono ?_;rintro e w2 ⟨rfl,hb⟩;refine Hid.out ?_)
   refine hid ?_;have HB2:=hid (HB1.out.trans (hb.mono HB1.out.size));have hn1:=(hb.block _ (by simp;try omega)).trans HN1.out;have hn2:=(hb.block _ (by simp;try omega)).trans HN2.out;clear q0 q1 q2 q3 q4 q5 q6 q7 q8 q9 q10 p0 p1 p2 p3 p4 p5 p6 p7 p8 p9 p10 hb HN1 HN2 HC HB1;obtain⟨-,-,-,-,-,-,-,-,-,q9,-⟩:=zka hn1;obtain⟨-,-,-,-,p4,-,-,-,-,-,-⟩:=zka hn2;clear hn1 hn2;by_cases h0:0<r
   · have d0:decide (0<r)=true:=decide_eq_true h0
     have HR2:Hid (res=true):=hid (by rw[HR.out];simp[h0]);clear HR h0;go_wp2_with fail;go_ret;exact⟨by rw[HR2.out];rfl,HB2.out⟩
   · have d0:decide (0<r)=false:=decide_eq_false h0
     by_cases h1:r=0
     · subst h1
       cases ho<;>cases lo'
       all_goals
        go_wp2_with fail;go_ret;exact⟨by rw[HR.out];rfl,HB2.out⟩
     · have d1:(r == 0)=false:=beq_eq_false_iff_ne.2 h1
       have HR2:Hid (res=false):=hid (by rw[HR.out];simp[h0,h1]);clear HR h0 h1;go_wp2_with fail;go_ret;exact⟨by rw[HR2.out];rfl,HB2.out⟩
 · go_enter Tryz.func240,Tryz.ntmps240
   go_wp2_with fail;go_ret;exact⟨by rw[HR.out];rfl,HB1.out⟩
theorem same_eq{v u:Ver}(h:sameB v u=true):v=u:=by
 unfold sameB at h;simp only[Bool.and_eq_true,decide_eq_true_eq] at h;cases v;cases u;simp_all
theorem zlt(v:Ver)(o:Bool):(may v && zeroB v o)=(!o && sameB v zeroV):=by
 by_cases h:v=zeroV
 · subst h
   unfold zeroB;rw[zho,zbj,zhd];cases o<;>rfl
 · have h1:sameB v zeroV=false:=Bool.eq_false_iff.2 fun e=>h (same_eq e)
   have h2:decide (cmpV v zeroV=0)=false:=decide_eq_false fun e=>h (zbi e)
   unfold zeroB;rw[h1,h2];cases may v<;>cases o<;>rfl
set_option maxRecDepth 100000 in
theorem zlu(x:IvG)(w:World)(hx:TI K w x):
 Calls Tryz.prog 242 #[gvV x] w fun e w'=>e= .returned (.bool (zjz x))∧Below w.heap.size w w':=by
 have HX:=hid hx
 have HR:Hid (zjz x=if may x.lv then (if x.e then (!x.ho && sameB x.hv zeroV) else may x.hv) else false):=hid (by
  unfold zjz;cases x.e
  · cases may x.lv<;>cases may x.hv<;>simp
  · rw[←zlt]
    cases may x.lv<;>cases may x.hv<;>simp)
 have hb1:Below w.heap.size w (w.alloc (gvO x)):=(Below.refl _ w).alloc (Nat.le_refl _) _;have HM:=hid ((rmay_any x.lv x.la x.lc (w.alloc (gvO x)) (hx.l.gr hb1).txs).mono fun _ _ h=>And.intro h.1 h.2.below);have HM2:=hid (fun w' (g:Below w.heap.size w w')=>(rmay_any x.hv x.ha x.hc w' (hx.h.gr g).txs).mono fun _ _ h=>And.intro h.1 h.2.below);have HS2:=hid (fun w' (g:Below w.heap.size w w')=>zhf x.hv zeroV x.ha x.hc none 0 w' (hx.h.gr g).txs (Txs.nil _ _ _));have HB1:=hid hb1;have hn1:(w.alloc (gvO x)).heap[w.heap.size]?=some (gvO x):=heap_alloc_new w _;generalize zjz x=res at*;generalize may x.lv=m1 at*;generalize may x.hv=m2 at*;generalize sameB x.hv zeroV=s2 at*;have HN1:=hid hn1;obtain⟨q0,q1,q2,q3,q4,q5,q6,q7,q8,q9,q10⟩:=zka hn1;obtain⟨lv,la,lc,lo,hv,ha,hc,ho,xe⟩:=x
 dsimp only at*
 clear hx hb1 hn1 HX;cases m1
 · go_enter Tryz.func242,Tryz.ntmps242
   go_wp2_with (go_at_call 148;refine HM.out.mono ?_;rintro e w2 ⟨rfl,hb⟩)
   go_ret;exact⟨by rw[HR.out];rfl,HB1.out.trans (hb.mono HB1.out.size)⟩
 · go_enter Tryz.func242,Tryz.ntmps242
   go_wp2_with (go_at_call 148;refine HM.out.mono ?_;rintro e w2 ⟨rfl,hb⟩;refine Hid.out ?_)
   refine hid ?_;have HB2:=hid (HB1.out.trans (hb.mono HB1.out.size));have hn1:=(hb.block _ (by simp;try omega)).trans HN1.out;have HMM:=hid (HM2.out _ HB2.out);have HSS:=hid (HS2.out _ HB2.out);clear q0 q1 q2 q3 q4 q5 q6 q7 q8 q9 q10 hb HN1 HM HB1 HM2 HS2;obtain⟨q0,q1,q2,q3,q4,q5,q6,q7,q8,q9,q10⟩:=zka hn1;clear hn1;cases xe
   · go_wp2_with (go_at_call 148;refine HMM.out.mono ?_;rintro e w3 ⟨rfl,hb⟩)
     go_ret;exact⟨by rw[HR.out];rfl,HB2.out.trans (hb.mono HB2.out.size)⟩
   · cases ho
     · go_wp2_with (go_at_call 264;refine HSS.out.mono ?_;rintro e w3 ⟨rfl,hb⟩)
       go_ret;exact⟨by rw[HR.out];rfl,HB2.out.trans (hb.mono HB2.out.size)⟩
     · go_wp2_with fail
       go_ret;exact⟨by rw[HR.out];rfl,HB2.out⟩
end SpanC
open Go.RowKit
namespace SpanC
open VerM SpanM StrC TextR VerC
variable {K:Prop}
structure RArg (K:Prop) (w:World) (a:Option Addr) (L:List IvG):Prop where
 row:IvIn w a L.length L
 txs:∀x∈L,TI K w x
theorem RArg.gr{w w':World}{a:Option Addr}{L:List IvG}(h:RArg K w a L)(g:Below w.heap.size w w'):RArg K w' a L:=⟨h.row.below g,fun x hx=>(h.txs x hx).gr g⟩
structure RL (K:Prop) (w:World) (B:Nat) (u:Value) (L:List IvG):Prop where
 row:IvRow w B u L
 txs:∀x∈L,TI K w x
 ok:∀x∈L,zjz x=true
theorem RL.gr{w w':World}{B:Nat}{u:Value}{L:List IvG}(h:RL K w B u L)(g:Below w.heap.size w w'):RL K w' B u L:=⟨h.row.below' g,fun x hx=>(h.txs x hx).gr g,h.ok⟩
theorem zlv{w:World}{B B':Nat}{v:Value}{L:List IvG}(h:IvRow w B v L)(hb:B'≤B):IvRow w B' v L:=by
 obtain⟨hl,⟨h0,h1⟩|⟨g',cp',cur,e1,hbase,hb',h1,h2,h3,h4⟩⟩:=h
 · exact⟨hl,.inl ⟨h0,h1⟩⟩
 · exact⟨hl,.inr ⟨g',cp',cur,e1,by omega,hb',h1,h2,h3,h4⟩⟩
theorem RL.base{w:World}{B B':Nat}{u:Value}{L:List IvG}(h:RL K w B u L)(hb:B'≤B):RL K w B' u L:=⟨zlv h.row hb,h.txs,h.ok⟩
theorem RL.arg{w:World}{B:Nat}{u:Value}{L:List IvG}(h:RL K w B u L):∃a cp,u= .slice a L.length cp∧RArg K w a L:=by
 obtain⟨a,cp,rfl⟩:=h.row.value;exact⟨a,cp,rfl,h.row.in_,h.txs⟩
theorem zlw(w:World)(B:Nat):IvRow w B (.slice none 0 0) []:=World.ownsRow_nil _ _ _ _
theorem RL.nil(w:World)(B:Nat):RL K w B (.slice none 0 0) []:=⟨zlw w B,fun x h=>(by cases h),fun x h=>(by cases h)⟩
theorem IvRow.at{w:World}{B:Nat}{a:Option Addr}{n cp:Nat}{L:List IvG}(h:IvRow w B (.slice a n cp) L)(i:Nat)(hi:i<L.length):∃(g:Nat) (x:IvG),L[i]?=some x∧a=some ⟨g,0,none⟩∧n=L.length∧B≤g∧g<w.heap.size∧(∀j,w.frozen? ⟨g,j,none⟩=false)∧
 w.cell? ⟨g,i*11,none⟩=some (.int .u32 x.lv.a)∧w.cell? ⟨g,i*11+1,none⟩=some (.int .u32 x.lv.b)∧w.cell? ⟨g,i*11+2,none⟩=some (.int .u32 x.lv.c)∧w.cell? ⟨g,i*11+3,none⟩=some (.slice x.la x.lv.pre.length x.lc)∧w.cell? ⟨g,i*11+4,none⟩=some (.bool x.lo)∧
 w.cell? ⟨g,i*11+5,none⟩=some (.int .u32 x.hv.a)∧w.cell? ⟨g,i*11+6,none⟩=some (.int .u32 x.hv.b)∧w.cell? ⟨g,i*11+7,none⟩=some (.int .u32 x.hv.c)∧w.cell? ⟨g,i*11+8,none⟩=some (.slice x.ha x.hv.pre.length x.hc)∧w.cell? ⟨g,i*11+9,none⟩=some (.bool x.ho)∧w.cell? ⟨g,i*11+10,none⟩=some (.bool x.e):=by
 have h':w.ownsRow B 286 11 (.slice a n cp) L.length (L.flatMap gvL):=h;have hlt:=h'.lt;have h0:=h';obtain⟨_,⟨h1,h2⟩|⟨g,cp',cur,e1,hg0,hblk,_⟩⟩:=h'
 · omega
 simp only[Value.slice.injEq] at e1;obtain⟨rfl,rfl,rfl⟩:=e1
 have key:∀c,c<11→w.cell? ⟨g,i*11+c,none⟩=some ((gvL L[i]!)[c]!):=fun c hc=>by
  rw[h0.cellAt (i*11+c) (by omega),RowKC.zik gvL 11 zjv L _ (by omega),show (i*11+c) / 11=i from by omega,show (i*11+c) % 11=c from by omega]
 have hx:L[i]?=some L[i]! :=by rw[List.getElem?_eq_getElem hi,getElem!_pos L i hi]
 exact⟨g,L[i]!,hx,rfl,rfl,hg0,(hlt g rfl).2,fun j=>h0.frozenAt j,key 0 (by omega),key 1 (by omega),key 2 (by omega),key 3 (by omega),key 4 (by omega),key 5 (by omega),key 6 (by omega),key 7 (by omega),key 8 (by omega),key 9 (by omega),key 10 (by omega)⟩
def putH(y x:IvG):IvG:=⟨y.lv,y.la,y.lc,y.lo,x.hv,x.ha,x.hc,x.ho,y.e⟩
def putHE(y x:IvG):IvG:=⟨y.lv,y.la,y.lc,y.lo,x.hv,x.ha,x.hc,x.ho,x.e⟩
abbrev hiL(x:IvG):List Value:=[.int .u32 x.hv.a,.int .u32 x.hv.b,.int .u32 x.hv.c,.slice x.ha x.hv.pre.length x.hc,.bool x.ho]
theorem zlx:(Tryz.prog.info? 284).map (·.size)=some 5:=by kernel_rfl
theorem zly:(Tryz.prog.info? 286).map (·.size)=some 11:=by kernel_rfl
theorem zlz(x:IvG):((gvL x).toArray.all (·.oneCell'))=true:=by simp[Value.oneCell']
theorem zma(x:IvG):((hiL x).toArray.all (·.oneCell'))=true:=by simp[Value.oneCell']
theorem zmb{w:World}{B g n cp:Nat}{A:List IvG}{y:IvG}(h:w.ownsRow B 286 11 (.slice (some ⟨g,0,none⟩) n cp) n (A.flatMap gvL))(hA:A.length=n)(p:Nat)(hp:A[p]?=some y)(x:IvG):
 (w.setCells g (p*11+5) (hiL x)).ownsRow B 286 11 (.slice (some ⟨g,0,none⟩) n cp) n ((A.set p (putH y x)).flatMap gvL):=by
 have hlt:=(List.getElem?_eq_some_iff.1 hp).1;refine RowKC.zkh h (p*11+5) (hiL x) (by simp;omega) (by rw[RowKC.zil gvL 11 zjv,List.length_set,hA]) fun t ht=>?_
 rw[RowKC.zik gvL 11 zjv _ t (by rw[List.length_set,hA];exact ht),RowKC.zik gvL 11 zjv A t (by rw[hA];exact ht),RowKC.zkg A p _ _ hlt];have hx:A[p]! =y:=by rw[getElem!_pos A p hlt];rw[List.getElem?_eq_getElem hlt] at hp;exact Option.some.inj hp
 by_cases hq:t / 11=p
 · rw[if_pos hq,hq,hx]
   obtain⟨c,hc,rfl⟩:∃c,c<11∧t=p*11+c:=⟨t % 11,Nat.mod_lt _ (by decide),by omega⟩;rw[show (p*11+c) % 11=c from by omega]
   match c,hc with
   | 0,_=>rw[if_neg (by omega)];rfl
   | 1,_=>rw[if_neg (by omega)];rfl
   | 2,_=>rw[if_neg (by omega)];rfl
   | 3,_=>rw[if_neg (by omega)];rfl
   | 4,_=>rw[if_neg (by omega)];rfl
   | 5,_=>rw[if_pos (by simp),show p*11+5-(p*11+5)=0 from by omega];rfl
   | 6,_=>rw[if_pos (by simp),show p*11+6-(p*11+5)=1 from by omega];rfl
   | 7,_=>rw[if_pos (by simp),show p*11+7-(p*11+5)=2 from by omega];rfl
   | 8,_=>rw[if_pos (by simp),show p*11+8-(p*11+5)=3 from by omega];rfl
   | 9,_=>rw[if_pos (by simp),show p*11+9-(p*11+5)=4 from by omega];rfl
   | 10,_=>rw[if_neg (by simp)];rfl
 · rw[if_neg hq,if_neg (by simp;omega)]
theorem zmc{w:World}{B g n cp:Nat}{A:List IvG}{y:IvG}(h:w.ownsRow B 286 11 (.slice (some ⟨g,0,none⟩) n cp) n (A.flatMap gvL))(hA:A.length=n)(p:Nat)(hp:A[p]?=some y)(z:IvG)(hz:z={ y with e:=z.e }):
 (w.setCell ⟨g,p*11+10,none⟩ (.bool z.e)).ownsRow B 286 11 (.slice (some ⟨g,0,none⟩) n cp) n ((A.set p z).flatMap gvL):=by
 have hlt:=(List.getElem?_eq_some_iff.1 hp).1;rw[show w.setCell ⟨g,p*11+10,none⟩ (.bool z.e)=w.setCells g (p*11+10) [.bool z.e] from rfl];refine RowKC.zkh h (p*11+10) [.bool z.e] (by simp;omega) (by rw[RowKC.zil gvL 11 zjv,List.length_set,hA]) fun t ht=>?_
 rw[RowKC.zik gvL 11 zjv _ t (by rw[List.length_set,hA];exact ht),RowKC.zik gvL 11 zjv A t (by rw[hA];exact ht),RowKC.zkg A p _ _ hlt];have hx:A[p]! =y:=by rw[getElem!_pos A p hlt];rw[List.getElem?_eq_getElem hlt] at hp;exact Option.some.inj hp
 by_cases hq:t / 11=p
 · rw[if_pos hq,hq,hx]
   obtain⟨c,hc,rfl⟩:∃c,c<11∧t=p*11+c:=⟨t % 11,Nat.mod_lt _ (by decide),by omega⟩;rw[show (p*11+c) % 11=c from by omega]
   match c,hc with
   | 0,_=>rw[if_neg (by omega),hz];rfl
   | 1,_=>rw[if_neg (by omega),hz];rfl
   | 2,_=>rw[if_neg (by omega),hz];rfl
   | 3,_=>rw[if_neg (by omega),hz];rfl
   | 4,_=>rw[if_neg (by omega),hz];rfl
   | 5,_=>rw[if_neg (by omega),hz];rfl
   | 6,_=>rw[if_neg (by omega),hz];rfl
   | 7,_=>rw[if_neg (by omega),hz];rfl
   | 8,_=>rw[if_neg (by omega),hz];rfl
   | 9,_=>rw[if_neg (by omega),hz];rfl
   | 10,_=>rw[if_pos (by simp),show p*11+10-(p*11+10)=0 from by omega];rfl
 · rw[if_neg hq,if_neg (by simp;omega)]
theorem zmd{α:Type}{R:α→α→Prop}(ht:∀a b c,R a b→R b c→R a c){S:List α}{k:Nat}{x:α}(h:S.Pairwise R)(h1:k=0∨∃y,S[k-1]?=some y∧R y x)(h2:∀y∈S.drop k,R x y):(S.take k++x :: S.drop k).Pairwise R:=by
 rw[List.pairwise_append];have hs:(S.take k++S.drop k).Pairwise R:=by rw[List.take_append_drop];exact h
 rw[List.pairwise_append] at hs;refine⟨hs.1,List.pairwise_cons.2 ⟨h2,hs.2.1⟩,fun a ha b hb=>?_⟩;rcases List.mem_cons.1 hb with rfl|hb
 · rcases h1 with rfl|⟨y,hy,hr⟩
   · simp at ha
   · cases k with
     | zero=>simp at ha
     | succ p=>
       rw[Nat.add_sub_cancel] at hy;have h3:=hs.1;rw[List.take_add_one,hy] at ha h3;rcases List.mem_append.1 ha with ha|ha
       · exact ht a y b ((List.pairwise_append.1 h3).2.2 a ha y (by simp)) hr
       · simp at ha;rw[ha];exact hr
 · exact hs.2.2 a ha b hb
theorem mem_ins{α:Type}{S:List α}{k:Nat}{x y:α}:y∈S.take k++x :: S.drop k↔y=x∨y∈S:=by
 constructor
 · intro h
   rcases List.mem_append.1 h with h|h
   · exact .inr (List.mem_of_mem_take h)
   · rcases List.mem_cons.1 h with h|h
     · exact .inl h
     · exact .inr (List.mem_of_mem_drop h)
 · rintro(h|h)
   · exact List.mem_append_right _ (List.mem_cons.2 (.inl h))
   · rw[←List.take_append_drop k S] at h
     rcases List.mem_append.1 h with h|h
     · exact List.mem_append_left _ h
     · exact List.mem_append_right _ (List.mem_cons.2 (.inr h))
theorem zme{α:Type}{S:List α}{m:Nat}{y z:α}(hm:S[m]?=some z):(S.take (m+1)++y :: S.drop (m+1)).set (m+1) z=S.take m++z :: S.drop m:=by
 have hl:=(List.getElem?_eq_some_iff.1 hm).1;have hz:=(List.getElem?_eq_some_iff.1 hm).2;have e1:(S.take (m+1)).length=m+1:=by rw[List.length_take];omega
 rw[List.set_append_right _ _ (by omega),e1,Nat.sub_self,List.set_cons_zero,List.take_add_one,hm,List.drop_eq_getElem_cons hl,hz];simp
theorem zmf{α:Type}{S:List α}{m:Nat}{y:α}(hm:m<S.length):(S.take (m+1)++y :: S.drop (m+1))[m]?=S[m]?:=by
 rw[List.getElem?_append_left (by rw[List.length_take];omega),List.getElem?_take_of_lt (by omega)]
theorem zmg{α:Type}{S:List α}{k:Nat}{y x:α}(hk:k≤S.length):(S.take k++y :: S.drop k).set k x=S.take k++x :: S.drop k:=by
 have e1:(S.take k).length=k:=by rw[List.length_take];omega
 rw[List.set_append_right _ _ (by omega),e1,Nat.sub_self,List.set_cons_zero]
theorem zmh{α:Type}{S:List α}{k:Nat}{y:α}(hk:k≤S.length):(S.take k++y :: S.drop k).length=S.length+1:=by
 rw[List.length_append,List.length_take,List.length_cons,List.length_drop];omega
abbrev zI:IvG:=⟨⟨0,0,0,[]⟩,none,0,false,⟨0,0,0,[]⟩,none,0,false,false⟩
structure JoinS (L:List IvG) (w wq:World) (v:Value) (S:List IvG) (i:Nat):Prop where
 row:IvRow wq w.heap.size v S
 mem:∀x,x∈S↔x∈L.take i∧empB (toSt x).st=false
 rise:S.Pairwise (fun a b=>cE (fE a) (fE b)≤0)
 len:S.length≤i
 below:Below w.heap.size w wq
theorem JoinS.skip{L:List IvG}{w wq:World}{v:Value}{S:List IvG}{i:Nat}{x:IvG}(h:JoinS L w wq v S i)(hx:L[i]?=some x)(he:empB (toSt x).st=true){wq':World}(hb:Below wq.heap.size wq wq'):JoinS L w wq' v S (i+1):=by
 refine⟨h.row.below' hb,fun y=>?_,h.rise,by have:=h.len;omega,h.below.trans (hb.mono h.below.size)⟩;rw[h.mem,List.take_add_one,hx]
 constructor
 · rintro⟨h1,h2⟩;exact⟨List.mem_append_left _ h1,h2⟩
 · rintro⟨h1,h2⟩
   rcases List.mem_append.1 h1 with h1|h1
   · exact⟨h1,h2⟩
   · simp at h1;rw[h1,he] at h2;cases h2
theorem JoinS.more{L:List IvG}{w wq:World}{v:Value}{S:List IvG}{i:Nat}{x:IvG}(h:JoinS L w wq v S i)(hx:L[i]?=some x)(he:empB (toSt x).st=false){wq':World}{v':Value}{k:Nat}(hk:k≤S.length)
 (h1:k=0∨∃y,S[k-1]?=some y∧cE (fE y) (fE x)≤0) (h2:∀y∈S.drop k,cE (fE x) (fE y)≤0) (hr:IvRow wq' w.heap.size v' (S.take k++x :: S.drop k)) (hb:Below w.heap.size w wq'):JoinS L w wq' v' (S.take k++x :: S.drop k) (i+1):=by
 refine⟨hr,fun y=>?_,zmd (R:=fun a b=>cE (fE a) (fE b)≤0) (fun a b c g1 g2=>le_trans g1 g2) h.rise h1 h2,by rw[zmh hk];have:=h.len;omega,hb⟩;rw[mem_ins,h.mem,List.take_add_one,hx]
 constructor
 · rintro(h1|⟨h1,h2⟩)
   · rw[h1];exact⟨List.mem_append_right _ (by simp),he⟩
   · exact⟨List.mem_append_left _ h1,h2⟩
 · rintro⟨h1,h2⟩
   rcases List.mem_append.1 h1 with h1|h1
   · exact .inr ⟨h1,h2⟩
   · simp at h1;exact .inl h1
theorem zmi(y x:IvG)(w:World)(hy:TI K w y)(hx:TI K w x)(ry:zjz y=true)(rx:zjz x=true):
 Calls Tryz.prog 239 #[.agg (bdL y.lv y.la y.lc y.lo).toArray,.agg (bdL x.lv x.la x.lc x.lo).toArray] w fun e w'=>e= .returned (.int .i64 (cE (fE y) (fE x)))∧Below w.heap.size w w':=
 zlf y.lv x.lv y.la x.la y.lc x.lc y.lo x.lo w hy.l.txs hx.l.txs (zlh ry).1 (zlh rx).1
structure JoinO (K:Prop) (D:List IvG) (w wr wq:World) (u:Value) (A:List IvG) (k:Nat):Prop where
 put:PutI (spanM D) k (spanM A)
 row:IvRow wq wr.heap.size u A
 txs:∀x∈A,TI K w x∧zjz x=true
 below:Below wr.heap.size wr wq
 len:A.length≤k
theorem zmj(L:List IvG):(spanM L).length=L.length:=by unfold spanM;rw[List.length_map]
theorem zmk(A C:List IvG):spanM (A++C)=spanM A++spanM C:=by unfold spanM;rw[List.map_append]
theorem zml{L:List IvG}{i:Nat}{x:IvG}(h:L[i]?=some x):(spanM L)[i]?=some (toSt x).st:=by unfold spanM;rw[List.getElem?_map,h];rfl
theorem zmm{L:List IvG}{s:St}:s∈spanM L↔∃x∈L,(toSt x).st=s:=by unfold spanM;rw[List.mem_map]
theorem zmn{D L:List IvG}(h:∀x,x∈D↔x∈L∧empB (toSt x).st=false)(e:Ed):inL e (spanM D)↔inL e (spanM L):=by
 constructor
 · rintro⟨s,hs,hi⟩
   obtain⟨x,hx,rfl⟩:=zmm.1 hs;exact⟨_,zmm.2 ⟨x,((h x).1 hx).1,rfl⟩,hi⟩
 · rintro⟨s,hs,hi⟩
   obtain⟨x,hx,rfl⟩:=zmm.1 hs;refine⟨_,zmm.2 ⟨x,(h x).2 ⟨hx,?_⟩,rfl⟩,hi⟩;have:=zht hi
   unfold empB;exact decide_eq_false (by omega)
theorem zmo{D L:List IvG}(h:∀x,x∈D↔x∈L∧empB (toSt x).st=false)(hs:D.Pairwise (fun a b=>cE (fE a) (fE b)≤0)):Rises (spanM D):=by
 refine⟨?_,fun s hs=>?_⟩
 · unfold spanM
   rw[List.pairwise_map];exact hs
 · obtain⟨x,hx,rfl⟩:=zmm.1 hs
   have:=((h x).1 hx).2
   unfold empB at this;have:=of_decide_eq_false this
   omega
theorem zmp{y x:IvG}(h1:zjz y=true)(h2:zjz x=true):zjz (putHE y x)=true:=by
 unfold zjz putHE at*;simp only[Bool.and_eq_true] at*;exact⟨⟨h1.1.1,h2.1.2⟩,h2.2⟩
theorem JoinO.more{D:List IvG}{w wr wq wq':World}{u u':Value}{A:List IvG}{k:Nat}{x:IvG}(h:JoinO K D w wr wq u A k)(hD:Rises (spanM D))(hx:D[k]?=some x)(hxt:TI K w x∧zjz x=true)
 (ha:∀y,A.getLast?=some y→cE (tE y) (fE x)<0) (hr:IvRow wq' wr.heap.size u' (A++ [x])) (hb:Below wr.heap.size wr wq'):JoinO K D w wr wq' u' (A++ [x]) (k+1):=by
 refine⟨?_,hr,fun y hy=>?_,hb,by have:=h.len;simp;omega⟩
 · rw[zmk]
   refine h.put.more hD (zml hx) ?_;rcases List.eq_nil_or_concat A with rfl|⟨A',y,rfl⟩
   · intro z hz;cases hz
   · rw[List.concat_eq_append] at*
     have hc:=h.put.can;rw[zmk] at hc ⊢;exact hc.ends (ha y (by simp))
 · rcases List.mem_append.1 hy with hy|hy
   · exact h.txs y hy
   · rw[List.mem_singleton.1 hy];exact hxt
theorem JoinO.wide{D:List IvG}{w wr wq wq':World}{u u':Value}{A:List IvG}{k:Nat}{x y:IvG}(h:JoinO K D w wr wq u (A++ [y]) k)(hD:Rises (spanM D))(hx:D[k]?=some x)(hxt:TI K w x∧zjz x=true)
 (h1:¬cE (tE y) (fE x)<0) (h2:cE (tE y) (tE x)<0) (hr:IvRow wq' wr.heap.size u' (A++ [putHE y x])) (hb:Below wr.heap.size wr wq'):JoinO K D w wr wq' u' (A++ [putHE y x]) (k+1):=by
 have hy:=h.txs y (by simp);refine⟨?_,hr,fun z hz=>?_,hb,by have:=h.len;simp at this ⊢;omega⟩
 · have hp:=h.put
   rw[zmk] at hp ⊢;exact hp.wide hD (zml hx) (by have:=zhs (fE x) (tE y);show cE (fE x) (tE y)≤0;omega) h2
 · rcases List.mem_append.1 hz with hz|hz
   · exact h.txs z (List.mem_append_left _ hz)
   · rw[List.mem_singleton.1 hz];exact⟨⟨hy.1.l,hxt.1.h⟩,zmp hy.2 hxt.2⟩
theorem JoinO.skip{D:List IvG}{w wr wq wq':World}{u:Value}{A:List IvG}{k:Nat}{x y:IvG}(h:JoinO K D w wr wq u (A++ [y]) k)(hD:Rises (spanM D))(hx:D[k]?=some x)
 (h2:¬cE (tE y) (tE x)<0) (hb:Below wq.heap.size wq wq'):JoinO K D w wr wq' u (A++ [y]) (k+1):=by
 refine⟨?_,h.row.below' hb,h.txs,h.below.trans (hb.mono h.below.size),by have:=h.len;omega⟩;have hp:=h.put;rw[zmk] at hp ⊢;exact hp.skip hD (zml hx) (by have:=zhs (tE x) (tE y);show cE (tE x) (tE y)≤0;omega)
set_option maxRecDepth 100000 in
theorem zmq(a:Option Addr)(cp:Nat)(L:List IvG)(w:World)(h:RArg K w a L)(hr:∀x∈L,zjz x=true)(hl:L.length≤1000):
 Calls Tryz.prog 215 #[.slice a L.length cp] w fun e w'=>∃u R,e= .returned u∧RL K w' w.heap.size u R∧spanM R=formM (spanM L)∧Below w.heap.size w w':=by
 obtain⟨i0,hi,hz0,hz1,hz2⟩:=info_parts zjw;have H:=hid h;have HR:=hid hr;clear h hr;go_enter Tryz.func215,Tryz.ntmps215;go_wp2_with fail;go_loopw [3,4,5,6] (fun v i _ _ wq=>∃(k:Nat) (S:List IvG),i= .int .i64 k∧k≤L.length∧Hid (JoinS L w wq v S k)) (fun _ i _ _ _=>L.length-(intOf i).toNat)
 case atStart=>exact⟨0,[],rfl,Nat.zero_le _,hid ⟨zlw _ _,fun x=>by simp,List.Pairwise.nil,Nat.zero_le _,Below.refl _ _⟩⟩
 case round=>
  obtain⟨m,S,rfl,hm,HI⟩:=hrel;rename World=>wr
  obtain⟨va,cpS,rfl⟩:=HI.out.row.value;have hsl:S.length≤1000:=by have:=HI.out.len;omega
  by_cases hlt:m<L.length
  · have hdec:decide (m<L.length)=true:=by simpa using hlt
    obtain⟨g,o,x,-,hxm,hxs,rfl,c0,c1,c2,c3,c4,c5,c6,c7,c8,c9,c10⟩:=(H.out.gr HI.out.below).row.at m hlt;have HXS:=hid hxs;have HXR:=hid (HR.out x hxm);have HXT:=hid (H.out.txs x hxm);have HEM:=hid (zlr x wr (HXT.out.gr HI.out.below) HXR.out)
    have HCX:Hid (∀wq,Below wr.heap.size wr wq→wq.cell? ⟨g,o+m*11,none⟩=some (.int .u32 x.lv.a)∧wq.cell? ⟨g,o+m*11+1,none⟩=some (.int .u32 x.lv.b)∧wq.cell? ⟨g,o+m*11+2,none⟩=some (.int .u32 x.lv.c)∧wq.cell? ⟨g,o+m*11+3,none⟩=some (.slice x.la x.lv.pre.length x.lc)∧wq.cell? ⟨g,o+m*11+4,none⟩=some (.bool x.lo)∧
     wq.cell? ⟨g,o+m*11+5,none⟩=some (.int .u32 x.hv.a)∧wq.cell? ⟨g,o+m*11+6,none⟩=some (.int .u32 x.hv.b)∧wq.cell? ⟨g,o+m*11+7,none⟩=some (.int .u32 x.hv.c)∧wq.cell? ⟨g,o+m*11+8,none⟩=some (.slice x.ha x.hv.pre.length x.hc)∧wq.cell? ⟨g,o+m*11+9,none⟩=some (.bool x.ho)∧wq.cell? ⟨g,o+m*11+10,none⟩=some (.bool x.e)):=hid (fun wq hq=>by
     have hg:g<wr.heap.size:=World.block_lt_of_cell? _ _ c0;exact⟨(hq.cell hg).trans c0,(hq.cell hg).trans c1,(hq.cell hg).trans c2,(hq.cell hg).trans c3,(hq.cell hg).trans c4,(hq.cell hg).trans c5,(hq.cell hg).trans c6,(hq.cell hg).trans c7,(hq.cell hg).trans c8,(hq.cell hg).trans c9,(hq.cell hg).trans c10⟩)
    obtain⟨eb,heb⟩:∃b,empB (toSt x).st=b:=⟨_,rfl⟩;rw[heb] at HEM;have HEB:=hid heb;clear hxm hxs heb;cases eb with
    | true=>
      go_wp2_with (go_at_call 238;refine HEM.out.mono ?_;rintro e w1 ⟨rfl,hb1⟩)
      go_roundw
      case rel=>exact⟨m+1,S,by go_num,hlt,hid (HI.out.skip HXS.out HEB.out hb1)⟩
      case measure=>simp[intOf];omega
    | false=>
      go_upto_block 2 with (go_at_call 238;refine HEM.out.mono ?_;rintro e w1 ⟨rfl,hb1⟩)
      have HB1:=hid hb1;clear hb1 c0 c1 c2 c3 c4 c5 c6 c7 c8 c9 c10;go_cut [5] from 10 to 68 (fun v5 wx=>∃k:Nat,v5= .int .i64 k∧k≤S.length∧Hid (Below w1.heap.size w1 wx)∧Hid (∀y∈S.drop k,cE (fE x) (fE y)≤0)∧Hid (k=0∨∃y,S[k-1]?=some y∧cE (fE y) (fE x)≤0))
      case first=>
       go_wp2_with fail;go_loopw [5] (fun kv wq=>∃k:Nat,kv= .int .i64 k∧k≤S.length∧Hid (Below w1.heap.size w1 wq)∧Hid (∀y∈S.drop k,cE (fE x) (fE y)≤0)) (fun kv _=>(intOf kv).toNat)
       case atStart=>exact⟨S.length,rfl,Nat.le_refl _,hid (Below.refl _ _),hid (by simp)⟩
       case round=>
        obtain⟨k,rfl,hk,HBQ,HD⟩:=hrel;rename World=>wq
        rcases Nat.eq_zero_or_pos k with hk0|hk0
        · subst hk0
          go_wp2_with fail;refine wp_region_quiet_below (by kernel_rfl) (by kernel_rfl) ?_
          repeat (first|go_big_quiet_step (fail)|quiet_step (fail))
          refine wpQuiet_nil ?_;intro _ hw';obtain⟨⟨dq,osq⟩,hw''⟩:=hw';subst hw'';have HBQ2:=hid (HBQ.out.trans ((below_regrown wq dq osq).mono HBQ.out.size));go_wp2_with fail;go_meet
          case rel=>exact⟨0,rfl,Nat.zero_le _,HBQ2,HD,hid (Or.inl rfl)⟩
        · obtain⟨p,rfl⟩:∃p,k=p+1:=⟨k-1,by omega⟩
          have HWQ:=hid (HB1.out.trans (HBQ.out.mono HB1.out.size));obtain⟨g',y,hys,rfl,-,-,-,-,d0,d1,d2,d3,d4,-⟩:=(HI.out.row.below' HWQ.out).at p (by omega);obtain⟨c0,c1,c2,c3,c4,-⟩:=HCX.out wq HWQ.out;have kc0:=cell_regrown c0;have kc1:=cell_regrown c1;have kc2:=cell_regrown c2;have kc3:=cell_regrown c3;have kc4:=cell_regrown c4;have kd0:=cell_regrown d0;have kd1:=cell_regrown d1;have kd2:=cell_regrown d2;have kd3:=cell_regrown d3;have kd4:=cell_regrown d4;have hpos:decide ((0:Int)<((p+1:Nat):Int))=true:=decide_eq_true (by omega);have HYL:=hid ((HI.out.mem y).1 (List.mem_of_getElem? hys)).1;have HYM:=hid (List.mem_of_mem_take HYL.out);have HWW:=hid (HI.out.below.trans (HWQ.out.mono HI.out.below.size));have HLO:=hid (fun d os=>zmi y x (Go.Sort.grow (redrawn wq d) os) (((H.out.txs y HYM.out).gr HWW.out).gr (below_regrown wq d os)) ((HXT.out.gr HWW.out).gr (below_regrown wq d os)) (HR.out y HYM.out) HXR.out);obtain⟨r,hr⟩:∃r,cE (fE y) (fE x)=r:=⟨_,rfl⟩;rw[hr] at HLO;have cO:∀d os,Calls Tryz.prog 239 #[.agg (bdL y.lv y.la y.lc y.lo).toArray,.agg (bdL x.lv x.la x.lc x.lo).toArray] (Go.Sort.grow (redrawn wq d) os) _:=fun d os=>Calls.regrown_of (HLO.out d os)
          have HYS:=hid hys;have HRR:=hid hr;have hpl:p<S.length:=by omega
          clear c0 c1 c2 c3 c4 d0 d1 d2 d3 d4 hys hr;by_cases hxy:0<r
          · have hdc:decide (0<r)=true:=decide_eq_true hxy
            have HD2:Hid (∀z∈S.drop p,cE (fE x) (fE z)≤0):=hid (fun z hz=>by
             rw[List.drop_eq_getElem_cons hpl] at hz;rcases List.mem_cons.1 hz with hz|hz
             · have e:=HYS.out
               rw[List.getElem?_eq_getElem hpl] at e;rw[hz,Option.some.inj e,zhs,HRR.out];omega
             · exact HD.out z hz)
            clear hxy;go_wp2_with fail;refine wp_region_quiet_below (by kernel_rfl) (by kernel_rfl) ?_
            repeat (first|go_big_quiet_step (exact cO _ _)|quiet_step (exact cO _ _))
            refine wpQuiet_nil ?_;intro _ hw';obtain⟨⟨dq,osq⟩,hw''⟩:=hw';subst hw'';have HBQ2:=hid (HBQ.out.trans ((below_regrown wq dq osq).mono HBQ.out.size));go_wp2_with fail;go_roundw
            case rel=>exact⟨p,by go_num,by omega,HBQ2,HD2⟩
            case measure=>simp[intOf]
          · have hdc:decide (0<r)=false:=decide_eq_false hxy
            have HLE:Hid (p+1=0∨∃y,S[p+1-1]?=some y∧cE (fE y) (fE x)≤0):=hid (Or.inr ⟨y,HYS.out,by rw[HRR.out];omega⟩);clear hxy;go_wp2_with fail;refine wp_region_quiet_below (by kernel_rfl) (by kernel_rfl) ?_
            repeat (first|go_big_quiet_step (exact cO _ _)|quiet_step (exact cO _ _))
            refine wpQuiet_nil ?_;intro _ hw';obtain⟨⟨dq,osq⟩,hw''⟩:=hw';subst hw'';have HBQ2:=hid (HBQ.out.trans ((below_regrown wq dq osq).mono HBQ.out.size));go_wp2_with fail;go_meet
            case rel=>exact⟨p+1,rfl,hk,HBQ2,HD,HLE⟩
      case rest=>
       obtain⟨k,rfl,hk,HBX,HBIG,HSM⟩:=hcut;have HRC:=hid (HB1.out.trans (HBX.out.mono HB1.out.size));have HB0:=hid (HI.out.below.trans (HRC.out.mono HI.out.below.size));have hownd:wc.ownsRow w.heap.size 286 11 (.slice va S.length cpS) S.length (S.flatMap gvL):=HI.out.row.below' HRC.out;have HOWN:=hid hownd;go_wp2_with (at_builtin;refine wpList_append_own _ rfl _ _ 246 rfl w.heap.size 286 i0 _ 11 104 Tryz.underlying246 hi hz0 hz1 hz2 rfl (by decide) _ _ _ rfl (hownd.alloc _) ⟨wc.heap.size,0,none⟩ 1 1 (gvL zI) rfl rfl ?c1 ?c2 ?c3 ?c4 ?c5 ?_)
       case c1=>exact zju wc (gvL zI) 286
       case c2=>exact zjx zI
       case c3=>unfold maxLen;omega
       case c4=>omega
       case c5=>have:=HB0.out.size;simp;omega
       intro v' w4 hown4 hg4 _;have HB4:=hid ((HB0.out.alloc HB0.out.size _).grown hg4 (by have:=HB0.out.size;simp;omega) (fun j hj=>(World.ownsRow.lt HOWN.out j hj).1));have HC4:Hid (Below wr.heap.size wr w4∨True):=hid (.inr trivial)
       have hrow4:IvRow w4 w.heap.size v' (S++ [zI]):=by
        unfold IvRow;rw[List.flatMap_append,List.length_append]
        simpa using hown4
       obtain⟨a4,cp4,rfl⟩:=hrow4.value;obtain⟨g4,-,-,rfl,-,hg40,-⟩:=hrow4.at 0 (by simp)
       have HO4:Hid (w4.ownsRow w.heap.size 286 11 (.slice (some ⟨g4,0,none⟩) (S.length+1) cp4) (S.length+1) ((S++ [zI]).flatMap gvL)):=hid (by
        have h:=hrow4;unfold IvRow at h;rw[show (S++ [zI]).length=S.length+1 from by simp] at h;exact h)
       rw[show (S++ [zI]).length=S.length+1 from by simp];have HXW:Hid (∀wq,Below w.heap.size w wq→wq.cell? ⟨g,o+m*11,none⟩=some (.int .u32 x.lv.a)∧wq.cell? ⟨g,o+m*11+1,none⟩=some (.int .u32 x.lv.b)∧wq.cell? ⟨g,o+m*11+2,none⟩=some (.int .u32 x.lv.c)∧wq.cell? ⟨g,o+m*11+3,none⟩=some (.slice x.la x.lv.pre.length x.lc)∧wq.cell? ⟨g,o+m*11+4,none⟩=some (.bool x.lo)∧
       wq.cell? ⟨g,o+m*11+5,none⟩=some (.int .u32 x.hv.a)∧wq.cell? ⟨g,o+m*11+6,none⟩=some (.int .u32 x.hv.b)∧wq.cell? ⟨g,o+m*11+7,none⟩=some (.int .u32 x.hv.c)∧wq.cell? ⟨g,o+m*11+8,none⟩=some (.slice x.ha x.hv.pre.length x.hc)∧wq.cell? ⟨g,o+m*11+9,none⟩=some (.bool x.ho)∧wq.cell? ⟨g,o+m*11+10,none⟩=some (.bool x.e)):=hid (fun wq hq=>by
        obtain⟨g',o',x',-,-,hx',e',c0,c1,c2,c3,c4,c5,c6,c7,c8,c9,c10⟩:=(H.out.gr hq).row.at m hlt;cases e'
        obtain rfl:x'=x:=Option.some.inj (hx'.symm.trans HXS.out);exact⟨c0,c1,c2,c3,c4,c5,c6,c7,c8,c9,c10⟩)
       clear hown4 hg4 hrow4 hownd HC4;go_wp2
       go_loopw [6] (fun jv wq=>∃(j:Nat) (y:IvG),jv= .int .i64 j∧k≤j∧j≤S.length∧Hid (wq.ownsRow w.heap.size 286 11 (.slice (some ⟨g4,0,none⟩) (S.length+1) cp4) (S.length+1) ((S.take j++y :: S.drop j).flatMap gvL))∧Hid (Below w.heap.size w wq)) (fun jv _=>(intOf jv).toNat)
       case atStart=>exact⟨S.length,zI,by go_num,hk,Nat.le_refl _,hid (by simpa using HO4.out),HB4⟩
       case round=>
        obtain⟨j,y,rfl,hkj,hjl,HO,HBQ⟩:=hrel;rename World=>wq
        have HLN:Hid ((S.take j++y :: S.drop j).length=S.length+1):=hid (zmh hjl);have HRW:Hid (IvRow wq w.heap.size (.slice (some ⟨g4,0,none⟩) (S.length+1) cp4) (S.take j++y :: S.drop j)):=hid (by unfold IvRow;rw[HLN.out];exact HO.out)
        have HTH:Hid (∀q,q≤S.length→wq.there g4 (q*11) 11):=hid (fun q hq c hc=>by
         refine⟨?_,HO.out.frozenAt _⟩;rw[HO.out.cellAt _ (by omega),RowKC.zik gvL 11 zjv _ _ (by rw[HLN.out];omega)];rfl)
        by_cases hjk:k<j
        · obtain⟨p,rfl⟩:∃p,j=p+1:=⟨j-1,by omega⟩
          have hdk:decide (k<p+1)=true:=decide_eq_true hjk;obtain⟨g5,z,hzs,hge,-,-,-,-,d0,d1,d2,d3,d4,d5,d6,d7,d8,d9,d10⟩:=HRW.out.at p (by rw[HLN.out];omega);cases hge
          rw[zmf (by omega)] at hzs;have HST:=RowKC.own_set gvL 11 zjv HO.out HLN.out (p+1) (by omega) z;rw[zme hzs] at HST;obtain⟨w7,e7⟩:∃w7,wq.setCells g4 ((p+1)*11) (gvL z)=w7:=⟨_,rfl⟩;have HB7:Hid (Below w.heap.size w w7):=hid (by rw[←e7];exact below_setCells HBQ.out g4 _ _ hg40);rw[e7] at HST;have HS7:=hid HST;have HE7:=hid e7;have HT7:=hid (HTH.out (p+1) (by omega));clear HST e7 hzs;go_wp2_with (refine wpList_store_mid rfl 286 _ _ rfl g4 ((p+1)*11) (gvL z).toArray rfl rfl HT7.out zly (zlz z) ?_;change wpList _ _ _ _ _ (wq.setCells g4 ((p+1)*11) (gvL z));rw[HE7.out];clear HT7 HE7 d0 d1 d2 d3 d4 d5 d6 d7 d8 d9 d10)
          go_roundw
          case rel=>exact⟨p,z,by go_num,by omega,by omega,HS7,HB7⟩
          case measure=>simp[intOf]
        · obtain rfl:j=k:=by omega
          have hdk:decide (j<j)=false:=decide_eq_false hjk;obtain⟨c0,c1,c2,c3,c4,c5,c6,c7,c8,c9,c10⟩:=HXW.out wq HBQ.out;have HST:=RowKC.own_set gvL 11 zjv HO.out HLN.out j (by omega) x;rw[zmg hjl] at HST;obtain⟨w7,e7⟩:∃w7,wq.setCells g4 (j*11) (gvL x)=w7:=⟨_,rfl⟩;have HB7:Hid (Below w.heap.size w w7):=hid (by rw[←e7];exact below_setCells HBQ.out g4 _ _ hg40);rw[e7] at HST;have HS7:Hid (IvRow w7 w.heap.size (.slice (some ⟨g4,0,none⟩) (S.length+1) cp4) (S.take j++x :: S.drop j)):=hid (by unfold IvRow;rw[zmh hjl];exact HST);have HE7:=hid e7;have HT7:=hid (HTH.out j hjl);clear HST e7;go_wp2_with (refine wpList_store_mid rfl 286 _ _ rfl g4 (j*11) (gvL x).toArray rfl rfl HT7.out zly (zlz x) ?_;change wpList _ _ _ _ _ (wq.setCells g4 (j*11) (gvL x));rw[HE7.out];clear HT7 HE7 c0 c1 c2 c3 c4 c5 c6 c7 c8 c9 c10)
          go_roundw
          case rel=>exact⟨m+1,_,by go_num,hlt,hid (HI.out.more HXS.out HEB.out hjl HSM.out HBIG.out HS7.out HB7.out)⟩
          case measure=>simp[intOf];omega
  · have hdec:decide (m<L.length)=false:=by simpa using hlt
    have HME:Hid (∀x,x∈S↔x∈L∧empB (toSt x).st=false):=hid (fun x=>by rw[HI.out.mem,List.take_of_length_le (by omega)]);have HRI:=hid (zmo HME.out HI.out.rise);have HSE:=hid (zmn HME.out);have HXX:Hid (∀x∈S,TI K w x∧zjz x=true):=hid (fun x hx=>⟨H.out.txs x ((HME.out x).1 hx).1,HR.out x ((HME.out x).1 hx).1⟩);have HWR:=hid HI.out.below;have HRS:=hid HI.out.row;clear hlt hm;go_wp2_with fail;clear hdec;go_loopw [7,8,9] (fun u i _ wq=>∃(k:Nat) (A:List IvG),i= .int .i64 k∧k≤S.length∧Hid (JoinO K S w wr wq u A k)) (fun _ i _ _=>S.length-(intOf i).toNat)
    case atStart=>exact⟨0,[],rfl,Nat.zero_le _,hid ⟨PutI.start _,zlw _ _,fun x h=>(by cases h),Below.refl _ _,Nat.le_refl _⟩⟩
    case round=>
     obtain⟨k,A,rfl,hk,HO⟩:=hrel;rename World=>wq
     by_cases hlt:k<S.length
     · have hdec:decide (k<S.length)=true:=by simpa using hlt
       obtain⟨gd,x,hxs,rfl,-,-,hgd,-,c0,c1,c2,c3,c4,c5,c6,c7,c8,c9,c10⟩:=HRS.out.at k hlt;have HXS:=hid hxs;have HXT:=hid (HXX.out x (List.mem_of_getElem? hxs))
       have HCX:Hid (∀wz,Below wr.heap.size wr wz→wz.cell? ⟨gd,k*11,none⟩=some (.int .u32 x.lv.a)∧wz.cell? ⟨gd,k*11+1,none⟩=some (.int .u32 x.lv.b)∧wz.cell? ⟨gd,k*11+2,none⟩=some (.int .u32 x.lv.c)∧wz.cell? ⟨gd,k*11+3,none⟩=some (.slice x.la x.lv.pre.length x.lc)∧wz.cell? ⟨gd,k*11+4,none⟩=some (.bool x.lo)∧
        wz.cell? ⟨gd,k*11+5,none⟩=some (.int .u32 x.hv.a)∧wz.cell? ⟨gd,k*11+6,none⟩=some (.int .u32 x.hv.b)∧wz.cell? ⟨gd,k*11+7,none⟩=some (.int .u32 x.hv.c)∧wz.cell? ⟨gd,k*11+8,none⟩=some (.slice x.ha x.hv.pre.length x.hc)∧wz.cell? ⟨gd,k*11+9,none⟩=some (.bool x.ho)∧wz.cell? ⟨gd,k*11+10,none⟩=some (.bool x.e)):=hid (fun wz hq=>
        ⟨(hq.cell hgd).trans c0,(hq.cell hgd).trans c1,(hq.cell hgd).trans c2,(hq.cell hgd).trans c3,(hq.cell hgd).trans c4,(hq.cell hgd).trans c5,(hq.cell hgd).trans c6,(hq.cell hgd).trans c7,(hq.cell hgd).trans c8,(hq.cell hgd).trans c9,(hq.cell hgd).trans c10⟩)
       clear hxs c0 c1 c2 c3 c4 c5 c6 c7 c8 c9 c10;have hal:A.length≤1000:=by have:=HO.out.len;omega
       obtain⟨av,cpA,rfl⟩:=HO.out.row.value;rcases List.eq_nil_or_concat A with rfl|⟨A',y,hAe⟩
       · simp only[List.length_nil] at*
         go_wp2_with fail;refine wp_region_quiet_below (by kernel_rfl) (by kernel_rfl) ?_
         repeat (first|go_big_quiet_step (fail)|quiet_step (fail))
         refine wpQuiet_nil ?_;intro _ hw';obtain⟨⟨dq,osq⟩,hw''⟩:=hw';subst hw'';have HBQ:=hid (below_regrown wq dq osq);generalize Go.Sort.grow (redrawn wq dq) osq=w5 at*;have HB5:=hid (HO.out.below.trans (HBQ.out.mono HO.out.below.size));obtain⟨c0,c1,c2,c3,c4,c5,c6,c7,c8,c9,c10⟩:=HCX.out w5 HB5.out
         have hrow:w5.ownsRow wr.heap.size 286 11 (.slice av 0 cpA) 0 []:=by
          have h:=HO.out.row.below' HBQ.out;unfold IvRow at h
          simpa using h
         have HOWN:=hid hrow;have HBW:=hid HB5.out;have HSZ:=hid HB5.out.size;go_wp2_with (at_builtin;refine wpList_append_own _ rfl _ _ 246 rfl wr.heap.size 286 i0 _ 11 104 Tryz.underlying246 hi hz0 hz1 hz2 rfl (by decide) _ _ _ rfl (hrow.alloc _) ⟨w5.heap.size,0,none⟩ 1 1 (gvL x) rfl rfl ?c1 ?c2 ?c3 ?c4 ?c5 ?_)
         case c1=>exact zju w5 (gvL x) 286
         case c2=>exact zjx x
         case c3=>unfold maxLen;omega
         case c4=>omega
         case c5=>have:=HSZ.out;simp;omega
         intro v' w6 hown6 hg6 _
         have HROW6:Hid (IvRow w6 wr.heap.size v' ([]++ [x])):=hid (by
          unfold IvRow;rw[List.flatMap_append,List.length_append]
          simpa using hown6)
         have HB6:=hid ((HBW.out.alloc HBW.out.size _).grown hg6 (by have:=HSZ.out;simp;omega) (fun j hj=>(World.ownsRow.lt HOWN.out j hj).1));have HNEXT:Hid (JoinO K S w wr w6 v' ([]++ [x]) (k+1)):=hid (HO.out.more HRI.out HXS.out HXT.out (fun y hy=>by cases hy) HROW6.out HB6.out);clear hown6 hg6 hrow;go_wp2_with fail;go_roundw
         case rel=>exact⟨k+1,_,by go_num,hlt,HNEXT⟩
         case measure=>simp[intOf];omega
       · rw[List.concat_eq_append] at hAe
         subst hAe;have hAl:(A'++ [y]).length=A'.length+1:=by simp
         obtain⟨p,hp⟩:∃p,A'.length=p:=⟨_,rfl⟩;obtain⟨go,z,hzs,rfl,-,hgo,hgol,-,d0,d1,d2,d3,d4,d5,d6,d7,d8,d9,d10⟩:=HO.out.row.at p (by rw[hAl];omega)
         have hzy:z=y:=by
          rw[←hp,List.getElem?_append_right (Nat.le_refl _),Nat.sub_self] at hzs;exact(Option.some.inj hzs).symm
         subst hzy;obtain⟨c0,c1,c2,c3,c4,c5,c6,c7,c8,c9,c10⟩:=HCX.out wq HO.out.below;have hneg:decide ((p:Int)<0)=false:=decide_eq_false (by omega);have hpos:decide ((0:Int)<((p+1:Nat):Int))=true:=decide_eq_true (by omega);have HP:=hid hp;have HAL:Hid ((A'++ [z]).length=p+1):=hid (by rw[hAl,hp])
         have HOW0:Hid (wq.ownsRow wr.heap.size 286 11 (.slice (some ⟨go,0,none⟩) (p+1) cpA) (p+1) ((A'++ [z]).flatMap gvL)):=hid (by
          have h:=HO.out.row;unfold IvRow at h
          rwa [HAL.out] at h)
         have hpb:p+1≤1000:=by rw[HAL.out] at hal;exact hal
         have HZT:=hid (HO.out.txs z (by simp));have HWW:=hid (HWR.out.trans (HO.out.below.mono HWR.out.size));rw[hAl,hp];clear hal;have kc0:=cell_regrown c0;have kd0:=cell_regrown d0;have kc1:=cell_regrown c1;have kd1:=cell_regrown d1;have kc2:=cell_regrown c2;have kd2:=cell_regrown d2;have kc3:=cell_regrown c3;have kd3:=cell_regrown d3;have kc4:=cell_regrown c4;have kd4:=cell_regrown d4;have kc5:=cell_regrown c5;have kd5:=cell_regrown d5;have kc6:=cell_regrown c6;have kd6:=cell_regrown d6;have kc7:=cell_regrown c7;have kd7:=cell_regrown d7;have kc8:=cell_regrown c8;have kd8:=cell_regrown d8;have kc9:=cell_regrown c9;have kd9:=cell_regrown d9;have kc10:=cell_regrown c10;have kd10:=cell_regrown d10;have HTO:=hid (fun d os=>zls z x (Go.Sort.grow (redrawn wq d) os) ((HZT.out.1.gr HWW.out).gr (below_regrown wq d os)) ((HXT.out.1.gr HWW.out).gr (below_regrown wq d os)) HZT.out.2 HXT.out.2);obtain⟨tb,htb⟩:∃b,touB z x=b:=⟨_,rfl⟩;rw[htb] at HTO;have cT:∀d os,Calls Tryz.prog 240 #[gvV z,gvV x] (Go.Sort.grow (redrawn wq d) os) _:=fun d os=>Calls.regrown_of (HTO.out d os)
         have HTB:=hid htb;clear c0 c1 c2 c3 c4 c5 c6 c7 c8 c9 c10 d0 d1 d2 d3 d4 d5 d6 d7 d8 d9 d10 hzs hAl hp htb;cases tb with
         | false=>
           have HLT:Hid (cE (tE z) (fE x)<0):=hid (by
            have h:=HTB.out;unfold touB at h
            simpa using h)
           go_wp2_with fail;refine wp_region_quiet_below (by kernel_rfl) (by kernel_rfl) ?_
           repeat (first|go_big_quiet_step (exact cT _ _)|quiet_step (exact cT _ _))
           refine wpQuiet_nil ?_;intro _ hw';obtain⟨⟨dq,osq⟩,hw''⟩:=hw';subst hw'';have HBQ:=hid (below_regrown wq dq osq);clear cT kc0 kc1 kc2 kc3 kc4 kc5 kc6 kc7 kc8 kc9 kc10 kd0 kd1 kd2 kd3 kd4 kd5 kd6 kd7 kd8 kd9 kd10;generalize Go.Sort.grow (redrawn wq dq) osq=w5 at*;have HBW:=hid (HO.out.below.trans (HBQ.out.mono HO.out.below.size));have HSZ:=hid HBW.out.size;obtain⟨c0,c1,c2,c3,c4,c5,c6,c7,c8,c9,c10⟩:=HCX.out w5 HBW.out;have hrow:w5.ownsRow wr.heap.size 286 11 (.slice (some ⟨go,0,none⟩) (p+1) cpA) (p+1) ((A'++ [z]).flatMap gvL):=World.ownsRow.kept HOW0.out (zij HBQ.out) (Classical.em _);have HOWN:=hid hrow;clear hneg hpos;go_wp2_with (at_builtin;refine wpList_append_own _ rfl _ _ 246 rfl wr.heap.size 286 i0 _ 11 104 Tryz.underlying246 hi hz0 hz1 hz2 rfl (by decide) _ _ _ rfl (hrow.alloc _) ⟨w5.heap.size,0,none⟩ 1 1 (gvL x) rfl rfl ?c1 ?c2 ?c3 ?c4 ?c5 ?_)
           case c1=>exact zju w5 (gvL x) 286
           case c2=>exact zjx x
           case c3=>unfold maxLen;omega
           case c4=>omega
           case c5=>have:=HSZ.out;simp;omega
           intro v' w6 hown6 hg6 _
           have HROW6:Hid (IvRow w6 wr.heap.size v' ((A'++ [z])++ [x])):=hid (by
            unfold IvRow;rw[List.flatMap_append,List.length_append]
            simpa[HAL.out] using hown6)
           have HB6:=hid ((HBW.out.alloc HBW.out.size _).grown hg6 (by have:=HSZ.out;simp;omega) (fun j hj=>(World.ownsRow.lt HOWN.out j hj).1));have HNEXT:Hid (JoinO K S w wr w6 v' ((A'++ [z])++ [x]) (k+1)):=hid (HO.out.more HRI.out HXS.out HXT.out (fun y hy=>by rw[List.getLast?_concat] at hy;cases hy;exact HLT.out) HROW6.out HB6.out);clear hown6 hg6 hrow;go_wp2_with fail;go_roundw
           case rel=>exact⟨k+1,_,by go_num,hlt,HNEXT⟩
           case measure=>simp[intOf];omega
         | true=>
           have HLT:Hid (¬cE (tE z) (fE x)<0):=hid (by
            have h:=HTB.out;unfold touB at h
            simpa using h)
           go_wp2_with fail;refine wp_region_quiet_below (by kernel_rfl) (by kernel_rfl) ?_
           repeat (first|go_big_quiet_step (exact cT _ _)|quiet_step (exact cT _ _))
           refine wpQuiet_nil ?_;intro _ hw';obtain⟨⟨dq,osq⟩,hw''⟩:=hw';subst hw'';have HBQ:=hid (below_regrown wq dq osq);clear cT kc0 kc1 kc2 kc3 kc4 kc5 kc6 kc7 kc8 kc9 kc10 kd0 kd1 kd2 kd3 kd4 kd5 kd6 kd7 kd8 kd9 kd10;generalize Go.Sort.grow (redrawn wq dq) osq=w5 at*;have HBW:=hid (HO.out.below.trans (HBQ.out.mono HO.out.below.size));obtain⟨c0,c1,c2,c3,c4,c5,c6,c7,c8,c9,c10⟩:=HCX.out w5 HBW.out;have hrow:w5.ownsRow wr.heap.size 286 11 (.slice (some ⟨go,0,none⟩) (p+1) cpA) (p+1) ((A'++ [z]).flatMap gvL):=World.ownsRow.kept HOW0.out (zij HBQ.out) (Classical.em _);have HOWN:=hid hrow;have hiv:IvRow w5 wr.heap.size (.slice (some ⟨go,0,none⟩) (p+1) cpA) (A'++ [z]):=by unfold IvRow;rw[HAL.out];exact hrow
           obtain⟨g5,z',hzs,hge,-,-,-,hfr,d0,d1,d2,d3,d4,d5,d6,d7,d8,d9,d10⟩:=hiv.at p (by rw[HAL.out];omega);cases hge
           have hzy:z'=z:=by
            rw[←HP.out,List.getElem?_append_right (Nat.le_refl _),Nat.sub_self] at hzs;exact(Option.some.inj hzs).symm
           subst hzy;have kc0:=cell_regrown c0;have kd0:=cell_regrown d0;have kc1:=cell_regrown c1;have kd1:=cell_regrown d1;have kc2:=cell_regrown c2;have kd2:=cell_regrown d2;have kc3:=cell_regrown c3;have kd3:=cell_regrown d3;have kc4:=cell_regrown c4;have kd4:=cell_regrown d4;have kc5:=cell_regrown c5;have kd5:=cell_regrown d5;have kc6:=cell_regrown c6;have kd6:=cell_regrown d6;have kc7:=cell_regrown c7;have kd7:=cell_regrown d7;have kc8:=cell_regrown c8;have kd8:=cell_regrown d8;have kc9:=cell_regrown c9;have kd9:=cell_regrown d9;have kc10:=cell_regrown c10;have kd10:=cell_regrown d10;have HW5:=hid (HWR.out.trans (HBW.out.mono HWR.out.size));have HHI:=hid (fun d os=>zlp z' x (Go.Sort.grow (redrawn w5 d) os) ((HZT.out.1.gr HW5.out).gr (below_regrown w5 d os)) ((HXT.out.1.gr HW5.out).gr (below_regrown w5 d os)) HZT.out.2 HXT.out.2);obtain⟨r,hr⟩:∃r,cE (tE z') (tE x)=r:=⟨_,rfl⟩;rw[hr] at HHI;have cH:∀d os,Calls Tryz.prog 241 #[gvV z',gvV x] (Go.Sort.grow (redrawn w5 d) os) _:=fun d os=>Calls.regrown_of (HHI.out d os)
           have HR2:=hid hr;clear c0 c1 c2 c3 c4 c5 c6 c7 c8 c9 c10 d0 d1 d2 d3 d4 d5 d6 d7 d8 d9 d10 hzs hr hiv hrow hfr;by_cases hr0:r<0
           · have hdr:decide (r<0)=true:=decide_eq_true hr0
             have HRL:Hid (cE (tE z') (tE x)<0):=hid (by rw[HR2.out];exact hr0);clear hr0;go_wp2_with fail;refine wp_region_quiet_below (by kernel_rfl) (by kernel_rfl) ?_
             repeat (first|go_big_quiet_step (exact cH _ _)|quiet_step (exact cH _ _))
             refine wpQuiet_nil ?_;intro _ hw';obtain⟨⟨dq,osq⟩,hw''⟩:=hw';subst hw'';have HBQ2:=hid (below_regrown w5 dq osq);clear cH kc0 kc1 kc2 kc3 kc4 kc5 kc6 kc7 kc8 kc9 kc10 kd0 kd1 kd2 kd3 kd4 kd5 kd6 kd7 kd8 kd9 kd10;generalize Go.Sort.grow (redrawn w5 dq) osq=w6 at*;have HB6:=hid (HBW.out.trans (HBQ2.out.mono HBW.out.size));obtain⟨c0,c1,c2,c3,c4,c5,c6,c7,c8,c9,c10⟩:=HCX.out w6 HB6.out;have hrow:w6.ownsRow wr.heap.size 286 11 (.slice (some ⟨go,0,none⟩) (p+1) cpA) (p+1) ((A'++ [z']).flatMap gvL):=World.ownsRow.kept HOWN.out (zij HBQ2.out) (Classical.em _)
             have HTH:Hid (w6.there go (p*11+5) 5):=hid (fun c hc=>by
              refine⟨?_,hrow.frozenAt _⟩;rw[show p*11+5+c=p*11+(5+c) from by omega,hrow.cellAt _ (by omega),RowKC.zik gvL 11 zjv _ _ (by rw[HAL.out];omega)];rfl)
             have hzl:(A'++ [z'])[p]?=some z':=by rw[←HP.out,List.getElem?_append_right (Nat.le_refl _),Nat.sub_self];rfl
             have H7:=zmb hrow HAL.out p hzl x;obtain⟨w7,e7⟩:∃w7,w6.setCells go (p*11+5) (hiL x)=w7:=⟨_,rfl⟩;have HB7:Hid (Below wr.heap.size wr w7):=hid (by rw[←e7];exact below_setCells HB6.out go _ _ hgo);rw[e7] at H7;have hl7:((A'++ [z']).set p (putH z' x)).length=p+1:=by rw[List.length_set];exact HAL.out
             have hz7:((A'++ [z']).set p (putH z' x))[p]?=some (putH z' x):=by rw[List.getElem?_set_self (by rw[HAL.out];omega)]
             have hiv7:IvRow w7 wr.heap.size (.slice (some ⟨go,0,none⟩) (p+1) cpA) ((A'++ [z']).set p (putH z' x)):=by unfold IvRow;rw[hl7];exact H7
             obtain⟨g7,z7,hzs7,hge7,-,-,-,hfr7,-,-,-,-,-,-,-,-,-,-,y10⟩:=hiv7.at p (by rw[hl7];omega);cases hge7
             obtain rfl:z7=putH z' x:=Option.some.inj (hzs7.symm.trans hz7);obtain⟨-,-,-,-,-,-,-,-,-,-,x10⟩:=HCX.out w7 HB7.out;have H8:=zmc H7 hl7 p hz7 (putHE z' x) rfl;rw[List.set_set] at H8
             have hset:(A'++ [z']).set p (putHE z' x)=A'++ [putHE z' x]:=by
              rw[←HP.out,List.set_append_right _ _ (Nat.le_refl _),Nat.sub_self];rfl
             rw[hset] at H8
             have HROW8:Hid (IvRow (w7.setCell ⟨go,p*11+10,none⟩ (.bool x.e)) wr.heap.size (.slice (some ⟨go,0,none⟩) (p+1) cpA) (A'++ [putHE z' x])):=hid (by
              unfold IvRow;rw[show (A'++ [putHE z' x]).length=p+1 from by simp;exact HP.out];exact H8)
             have HNEXT:Hid (JoinO K S w wr (w7.setCell ⟨go,p*11+10,none⟩ (.bool x.e)) (.slice (some ⟨go,0,none⟩) (p+1) cpA) (A'++ [putHE z' x]) (k+1)):=hid (HO.out.wide HRI.out HXS.out HXT.out (by have:=HLT.out;omega) HRL.out HROW8.out (HB7.out.setCell hgo _));have hf7:=hfr7 (p*11+10);have HE7:=hid e7;have HX10:=hid x10;have HY10:=hid y10;clear e7 H7 H8 hset hiv7 hl7 hz7 hzs7 hzl hrow hfr7 x10 y10;have HF7:=hid hf7;clear hf7;go_wp2_with (refine wpList_store_mid rfl 284 _ _ rfl go (p*11+5) (hiL x).toArray rfl rfl HTH.out zlx (zma x) ?_;change wpList _ _ _ _ _ (w6.setCells go (p*11+5) (hiL x));rw[HE7.out];clear HTH HE7 c0 c1 c2 c3 c4 c5 c6 c7 c8 c9 c10;have x10:=HX10.out;have y10:=HY10.out;have hf7:=HF7.out)
             go_roundw
             case rel=>exact⟨k+1,_,by go_num,hlt,HNEXT⟩
             case measure=>simp[intOf];omega
           · have hdr:decide (r<0)=false:=decide_eq_false hr0
             have HRL:Hid (¬cE (tE z') (tE x)<0):=hid (by rw[HR2.out];exact hr0);clear hr0;go_wp2_with fail;refine wp_region_quiet_below (by kernel_rfl) (by kernel_rfl) ?_
             repeat (first|go_big_quiet_step (exact cH _ _)|quiet_step (exact cH _ _))
             refine wpQuiet_nil ?_;intro _ hw';obtain⟨⟨dq,osq⟩,hw''⟩:=hw';subst hw'';have HBQ2:=hid (below_regrown w5 dq osq);clear cH kc0 kc1 kc2 kc3 kc4 kc5 kc6 kc7 kc8 kc9 kc10 kd0 kd1 kd2 kd3 kd4 kd5 kd6 kd7 kd8 kd9 kd10;generalize Go.Sort.grow (redrawn w5 dq) osq=w6 at*
             have HNEXT:Hid (JoinO K S w wr w6 (.slice (some ⟨go,0,none⟩) (p+1) cpA) (A'++ [z']) (k+1)):=hid (by
              have h:=HO.out;rw[HAL.out] at h;exact h.skip HRI.out HXS.out (by have:=HRL.out;omega) (HBQ.out.trans (HBQ2.out.mono HBQ.out.size)))
             go_wp2_with fail;go_roundw
             case rel=>exact⟨k+1,_,by go_num,hlt,HNEXT⟩
             case measure=>simp[intOf];omega
     · have hdec:decide (k<S.length)=false:=by simpa using hlt
       have HE:Hid (spanM A=formM (spanM L)):=hid (zig HO.out.put.can fun e=>by
        rw[HO.out.put.set,List.take_of_length_le (by rw[zmj];omega),HSE.out])
       go_wp2_with fail;go_ret;exact⟨_,A,rfl,⟨zlv HO.out.row HWR.out.size,fun x hx=>((HO.out.txs x hx).1.gr HWR.out).gr HO.out.below,fun x hx=>(HO.out.txs x hx).2⟩,HE.out,HWR.out.trans (HO.out.below.mono HWR.out.size)⟩
end SpanC
open Go.RowKit
namespace SpanC
open VerM SpanM StrC TextR VerC
variable {K:Prop}
def putL(x y:IvG):IvG:=⟨y.lv,y.la,y.lc,y.lo,x.hv,x.ha,x.hc,x.ho,x.e⟩
def meetI1(x y:IvG):IvG:=if cE (fE x) (fE y)<0 then putL x y else x
def meetI(x y:IvG):IvG:=if cE (tE y) (tE x)<0 then putHE (meetI1 x y) y else meetI1 x y
abbrev loL(x:IvG):List Value:=[.int .u32 x.lv.a,.int .u32 x.lv.b,.int .u32 x.lv.c,.slice x.la x.lv.pre.length x.lc,.bool x.lo]
theorem lo_all(x:IvG):((loL x).toArray.all (·.oneCell'))=true:=by simp[Value.oneCell']
theorem zmr{x y:IvG}(h1:zjz x=true)(h2:zjz y=true):zjz (putL x y)=true:=by
 unfold zjz putL at*;simp only[Bool.and_eq_true] at*;exact⟨⟨h2.1.1,h1.1.2⟩,h1.2⟩
theorem zms{w:World}{x y:IvG}(hx:TI K w x∧zjz x=true)(hy:TI K w y∧zjz y=true):TI K w (meetI1 x y)∧zjz (meetI1 x y)=true:=by
 unfold meetI1
 split
 · exact⟨⟨hy.1.l,hx.1.h⟩,zmr hx.2 hy.2⟩
 · exact hx
theorem zmt{w:World}{x y:IvG}(hx:TI K w x∧zjz x=true)(hy:TI K w y∧zjz y=true):TI K w (meetI x y)∧zjz (meetI x y)=true:=by
 have h:=zms hx hy;unfold meetI
 split
 · exact⟨⟨h.1.l,hy.1.h⟩,zmp h.2 hy.2⟩
 · exact h
theorem zmu(x y:IvG):tE (meetI1 x y)=tE x:=by unfold meetI1;split<;>rfl
theorem zmv(x y:IvG):(toSt (meetI x y)).st=meetS (toSt x).st (toSt y).st:=by
 have e1:fE (meetI x y)=if cE (fE x) (fE y)<0 then fE y else fE x:=by
  unfold meetI meetI1
  split<;>split<;>rfl
 have e2:tE (meetI x y)=if cE (tE y) (tE x)<0 then tE y else tE x:=by
  unfold meetI
  split
  · rfl
  · exact zmu x y
 rw[zlg,e1,e2];unfold meetS
 have e3:(0<cE (toSt x).st.t (toSt y).st.t)↔(cE (tE y) (tE x)<0):=by
  have:=zhs (tE x) (tE y)
  show (0<cE (tE x) (tE y))↔_;omega
 simp only[e3]
 rfl
theorem iv_setL{w:World}{g:Nat}{x:IvG}(h:w.heap[g]?=some (gvO x))(y:IvG):∃w',w.setCells g 0 (loL y)=w'∧w'.heap[g]?=some (gvO (putL x y)):=
 ⟨_,rfl,zdz (zdz (zdz (zdz (zdz h 0 _) 1 _) 2 _) 3 _) 4 _⟩
theorem zmw{w:World}{g:Nat}{x:IvG}(h:w.heap[g]?=some (gvO x))(y:IvG):∃w',w.setCells g 5 (hiL y)=w'∧w'.heap[g]?=some (gvO (putH x y)):=
 ⟨_,rfl,zdz (zdz (zdz (zdz (zdz h 5 _) 6 _) 7 _) 8 _) 9 _⟩
theorem zmx{w:World}{g:Nat}{x y:IvG}(h:w.heap[g]?=some (gvO (putH x y))):(w.setCell ⟨g,10,none⟩ (.bool y.e)).heap[g]?=some (gvO (putHE x y)):=zdz h 10 _
structure MeetR (K:Prop) (A C:List IvG) (w wq:World) (u:Value) (i j:Nat) (M:List IvG):Prop where
 st:spanM M=meets ((spanM A).take i) (spanM C)++(((spanM A)[i]?.toList).flatMap fun s=>((spanM C).take j).map fun t=>meetS s t)
 row:IvRow wq w.heap.size u M
 txs:∀z∈M,TI K w z∧zjz z=true
 below:Below w.heap.size w wq
 len:M.length=i*C.length+j
theorem MeetR.more{A C:List IvG}{w wq wq':World}{u u':Value}{i j:Nat}{M:List IvG}{x y:IvG}(h:MeetR K A C w wq u i j M)(hx:A[i]?=some x)(hy:C[j]?=some y)(hxt:TI K w x∧zjz x=true)(hyt:TI K w y∧zjz y=true)
 (hr:IvRow wq' w.heap.size u' (M++ [meetI x y])) (hb:Below w.heap.size w wq'):MeetR K A C w wq' u' i (j+1) (M++ [meetI x y]):=by
 refine⟨?_,hr,fun z hz=>?_,hb,by rw[List.length_append,h.len];simp;omega⟩
 · rw[zmk,h.st,zml hx,List.append_assoc]
   congr 1
   simp only[Option.toList_some,List.flatMap_cons,List.flatMap_nil,List.append_nil];rw[List.take_add_one,zml hy,List.map_append];simp[spanM,zmv]
 · rcases List.mem_append.1 hz with hz|hz
   · exact h.txs z hz
   · rw[List.mem_singleton.1 hz];exact zmt hxt hyt
theorem MeetR.next{A C:List IvG}{w wq:World}{u:Value}{i j:Nat}{M:List IvG}{x:IvG}(h:MeetR K A C w wq u i j M)(hx:A[i]?=some x)(hj:j=C.length):MeetR K A C w wq u (i+1) 0 M:=by
 refine⟨?_,h.row,h.txs,h.below,by rw[h.len,hj,Nat.add_mul,Nat.one_mul];rfl⟩;have e:(spanM C).take C.length=spanM C:=List.take_of_length_le (by rw[zmj];exact Nat.le_refl _);rw[h.st,zml hx,zkx _ _ i _ (zml hx),hj,e];cases (spanM A)[i+1]? <;>simp
set_option maxRecDepth 100000 in
theorem zmy(a1:Option Addr)(p1:Nat)(A:List IvG)(a2:Option Addr)(p2:Nat)(C:List IvG)(w:World)(h1:RArg K w a1 A)(h2:RArg K w a2 C)(r1:∀x∈A,zjz x=true)(r2:∀x∈C,zjz x=true)(l1:A.length≤20)(l2:C.length≤20):
 Calls Tryz.prog 237 #[.slice a1 A.length p1,.slice a2 C.length p2] w fun e w'=>∃u R,e= .returned u∧RL K w' w.heap.size u R∧spanM R=formM (meets (spanM A) (spanM C))∧Below w.heap.size w w':=by
 obtain⟨i0,hi,hz0,hz1,hz2⟩:=info_parts zjw;have H1:=hid h1;have H2:=hid h2;have HR1:=hid (fun x (hx:x∈A)=>And.intro (h1.txs x hx) (r1 x hx));have HR2:=hid (fun x (hx:x∈C)=>And.intro (h2.txs x hx) (r2 x hx));clear h1 h2 r1 r2;go_enter Tryz.func237,Tryz.ntmps237;go_wp2_with fail;go_loopw [5,6,7,8] (fun u i _ _ wq=>∃(k:Nat) (M:List IvG),i= .int .i64 k∧k≤A.length∧Hid (MeetR K A C w wq u k 0 M)) (fun _ i _ _ _=>A.length-(intOf i).toNat)
 case atStart=>exact⟨0,[],rfl,Nat.zero_le _,hid ⟨by simp[meets,spanM],zlw _ _,fun x h=>(by cases h),Below.refl _ _,by simp⟩⟩
 case round=>
  obtain⟨k,M,rfl,hk,HI⟩:=hrel;rename World=>wr
  by_cases hlt:k<A.length
  · have hdec:decide (k<A.length)=true:=by simpa using hlt
    go_wp2_with fail;go_loopw [5,7,8] (fun u j _ wq=>∃(m:Nat) (M:List IvG),j= .int .i64 m∧m≤C.length∧Hid (MeetR K A C w wq u k m M)) (fun _ j _ _=>C.length-(intOf j).toNat)
    case atStart=>exact⟨0,M,rfl,Nat.zero_le _,HI⟩
    case round=>
     obtain⟨m,M2,rfl,hm,HJ⟩:=hrel;rename World=>wq
     by_cases hlt2:m<C.length
     · have hdec2:decide (m<C.length)=true:=by simpa using hlt2
       obtain⟨va,cpM,rfl⟩:=HJ.out.row.value;obtain⟨g,o,x,-,hxm,hxs,rfl,c0,c1,c2,c3,c4,c5,c6,c7,c8,c9,c10⟩:=(H1.out.gr HJ.out.below).row.at k hlt;obtain⟨g',o',y,-,hym,hys,rfl,d0,d1,d2,d3,d4,d5,d6,d7,d8,d9,d10⟩:=(H2.out.gr HJ.out.below).row.at m hlt2;have HXT:=hid (HR1.out x hxm);have HYT:=hid (HR2.out y hym);have HXS:=hid hxs;have HYS:=hid hys;have hgy:g'<wq.heap.size:=World.block_lt_of_cell? _ _ d0;have HDY:Hid (∀wz,Below wq.heap.size wq wz→wz.cell? ⟨g',o'+m*11,none⟩=some (.int .u32 y.lv.a)∧wz.cell? ⟨g',o'+m*11+1,none⟩=some (.int .u32 y.lv.b)∧wz.cell? ⟨g',o'+m*11+2,none⟩=some (.int .u32 y.lv.c)∧wz.cell? ⟨g',o'+m*11+3,none⟩=some (.slice y.la y.lv.pre.length y.lc)∧wz.cell? ⟨g',o'+m*11+4,none⟩=some (.bool y.lo)∧wz.cell? ⟨g',o'+m*11+5,none⟩=some (.int .u32 y.hv.a)∧wz.cell? ⟨g',o'+m*11+6,none⟩=some (.int .u32 y.hv.b)∧wz.cell? ⟨g',o'+m*11+7,none⟩=some (.int .u32 y.hv.c)∧wz.cell? ⟨g',o'+m*11+8,none⟩=some (.slice y.ha y.hv.pre.length y.hc)∧wz.cell? ⟨g',o'+m*11+9,none⟩=some (.bool y.ho)∧wz.cell? ⟨g',o'+m*11+10,none⟩=some (.bool y.e)):=hid (fun wz hq=>⟨(hq.cell hgy).trans d0,(hq.cell hgy).trans d1,(hq.cell hgy).trans d2,(hq.cell hgy).trans d3,(hq.cell hgy).trans d4,(hq.cell hgy).trans d5,(hq.cell hgy).trans d6,(hq.cell hgy).trans d7,(hq.cell hgy).trans d8,(hq.cell hgy).trans d9,(hq.cell hgy).trans d10⟩)
       have hml:M2.length≤1000:=by
        have h:=HJ.out.len;have:k*C.length≤20*20:=Nat.mul_le_mul (by omega) (by omega)
        omega
       have HB4:Hid (Below wq.heap.size wq (wq.alloc (gvO x))):=hid ((Below.refl _ wq).alloc (Nat.le_refl _) _);have hn4:=heap_alloc_new wq (gvO x);clear hxm hxs hym hys d0 d1 d2 d3 d4 d5 d6 d7 d8 d9 d10;go_upto_region 9 with fail
       clear c0 c1 c2 c3 c4 c5 c6 c7 c8 c9 c10;generalize wq.alloc (gvO x)=w4 at*;obtain⟨e0,e1,e2,e3,e4,e5,e6,e7,e8,e9,e10⟩:=zka hn4;obtain⟨d0,d1,d2,d3,d4,d5,d6,d7,d8,d9,d10⟩:=HDY.out w4 HB4.out;have HN4:=hid hn4;have hx4:wq.heap.size<w4.heap.size:=(Array.getElem?_eq_some_iff.1 hn4).1;have HX4:=hid hx4;have kc0:=cell_regrown e0;have kd0:=cell_regrown d0;have kc1:=cell_regrown e1;have kd1:=cell_regrown d1;have kc2:=cell_regrown e2;have kd2:=cell_regrown d2;have kc3:=cell_regrown e3;have kd3:=cell_regrown d3;have kc4:=cell_regrown e4;have kd4:=cell_regrown d4;have HW4:=hid (HJ.out.below.trans (HB4.out.mono HJ.out.below.size));have HLO:=hid (fun d os=>zmi x y (Go.Sort.grow (redrawn w4 d) os) ((HXT.out.1.gr HW4.out).gr (below_regrown w4 d os)) ((HYT.out.1.gr HW4.out).gr (below_regrown w4 d os)) HXT.out.2 HYT.out.2);obtain⟨q1,hq1⟩:∃r,cE (fE x) (fE y)=r:=⟨_,rfl⟩;rw[hq1] at HLO;have cL:∀d os,Calls Tryz.prog 239 #[.agg (bdL x.lv x.la x.lc x.lo).toArray,.agg (bdL y.lv y.la y.lc y.lo).toArray] (Go.Sort.grow (redrawn w4 d) os) _:=fun d os=>Calls.regrown_of (HLO.out d os)
       have HQ1:=hid hq1;clear hq1 hn4 hx4 hgy d0 d1 d2 d3 d4 d5 d6 d7 d8 d9 d10 e0 e1 e2 e3 e4 e5 e6 e7 e8 e9 e10;by_cases h0:q1<0
       · have HX1:Hid (meetI1 x y=putL x y):=hid (by unfold meetI1;rw[if_pos (by rw[HQ1.out];exact h0)])
         have dq1:decide (q1<0)=true:=decide_eq_true h0;clear h0;go_wp2_with fail;refine wp_region_quiet_below (by kernel_rfl) (by kernel_rfl) ?_
         repeat (first|go_big_quiet_step (exact cL _ _)|quiet_step (exact cL _ _))
         refine wpQuiet_nil ?_;intro _ hw';obtain⟨⟨dq,osq⟩,hw''⟩:=hw';subst hw'';have HBQ:=hid (below_regrown w4 dq osq);clear cL kc0 kd0 kc1 kd1 kc2 kd2 kc3 kd3 kc4 kd4;generalize Go.Sort.grow (redrawn w4 dq) osq=w5 at*;have HB5:=hid (HB4.out.trans (HBQ.out.mono HB4.out.size));have hn5:=(HBQ.out.block _ HX4.out).trans HN4.out;obtain⟨d0,d1,d2,d3,d4,d5,d6,d7,d8,d9,d10⟩:=HDY.out w5 HB5.out;have HTH:=hid (zjk (o:=0) (n:=5) hn5 (by simp));obtain⟨w6,e6,hn6⟩:=iv_setL hn5 y;have HB6:Hid (Below wq.heap.size wq w6):=hid (by rw[←e6];exact below_setCells HB5.out _ _ _ (Nat.le_refl _));have HE6:=hid e6;have HN6:=hid hn6;clear e6 hn6 hn5;go_upto_region 11 with (refine wpList_store_mid rfl 284 _ _ rfl wq.heap.size 0 (loL y).toArray rfl rfl HTH.out zlx (lo_all y) ?_;change wpList _ _ _ _ _ (w5.setCells wq.heap.size 0 (loL y));rw[HE6.out];clear HTH HE6 d0 d1 d2 d3 d4 d5 d6 d7 d8 d9 d10)
         have hn6:=HN6.out;rw[←HX1.out] at hn6;have HM1:=hid (zms HXT.out HYT.out);obtain⟨x1,hx1⟩:∃z,meetI1 x y=z:=⟨_,rfl⟩;have HTX:Hid (tE x1=tE x):=hid (by rw[←hx1];exact zmu x y);have HMI:Hid (meetI x y=if cE (tE y) (tE x1)<0 then putHE x1 y else x1):=hid (by unfold meetI;rw[hx1,HTX.out]);rw[hx1] at hn6 HM1;clear hx1 HX1;obtain⟨e0,e1,e2,e3,e4,e5,e6,e7,e8,e9,e10⟩:=zka hn6;obtain⟨d0,d1,d2,d3,d4,d5,d6,d7,d8,d9,d10⟩:=HDY.out w6 HB6.out;have kc0:=cell_regrown e0;have kd0:=cell_regrown d0;have kc1:=cell_regrown e1;have kd1:=cell_regrown d1;have kc2:=cell_regrown e2;have kd2:=cell_regrown d2;have kc3:=cell_regrown e3;have kd3:=cell_regrown d3;have kc4:=cell_regrown e4;have kd4:=cell_regrown d4;have kc5:=cell_regrown e5;have kd5:=cell_regrown d5;have kc6:=cell_regrown e6;have kd6:=cell_regrown d6;have kc7:=cell_regrown e7;have kd7:=cell_regrown d7;have kc8:=cell_regrown e8;have kd8:=cell_regrown d8;have kc9:=cell_regrown e9;have kd9:=cell_regrown d9;have kc10:=cell_regrown e10;have kd10:=cell_regrown d10;have HN6:=hid hn6;have HX6:Hid (wq.heap.size<w6.heap.size):=hid (Array.getElem?_eq_some_iff.1 hn6).1;have HW6:=hid (HJ.out.below.trans (HB6.out.mono HJ.out.below.size));have HHI:=hid (fun d os=>zlp y x1 (Go.Sort.grow (redrawn w6 d) os) ((HYT.out.1.gr HW6.out).gr (below_regrown w6 d os)) ((HM1.out.1.gr HW6.out).gr (below_regrown w6 d os)) HYT.out.2 HM1.out.2);obtain⟨q2,hq2⟩:∃r,cE (tE y) (tE x1)=r:=⟨_,rfl⟩;rw[hq2] at HHI HMI;have cH:∀d os,Calls Tryz.prog 241 #[gvV y,gvV x1] (Go.Sort.grow (redrawn w6 d) os) _:=fun d os=>Calls.regrown_of (HHI.out d os)
         clear hq2 hn6 d0 d1 d2 d3 d4 d5 d6 d7 d8 d9 d10 e0 e1 e2 e3 e4 e5 e6 e7 e8 e9 e10;by_cases h0:q2<0
         · have dq2:decide (q2<0)=true:=decide_eq_true h0
           have HMM:Hid (meetI x y=putHE x1 y):=hid (by rw[HMI.out,if_pos h0]);clear h0;go_wp2_with fail;refine wp_region_quiet_below (by kernel_rfl) (by kernel_rfl) ?_
           repeat (first|go_big_quiet_step (exact cH _ _)|quiet_step (exact cH _ _))
           refine wpQuiet_nil ?_;intro _ hw';obtain⟨⟨dq,osq⟩,hw''⟩:=hw';subst hw'';have HBQ2:=hid (below_regrown w6 dq osq);clear cH kc0 kc1 kc2 kc3 kc4 kc5 kc6 kc7 kc8 kc9 kc10 kd0 kd1 kd2 kd3 kd4 kd5 kd6 kd7 kd8 kd9 kd10;generalize Go.Sort.grow (redrawn w6 dq) osq=w7 at*;have HB7:=hid (HB6.out.trans (HBQ2.out.mono HB6.out.size));have hn7:=(HBQ2.out.block _ HX6.out).trans HN6.out;obtain⟨d0,d1,d2,d3,d4,d5,d6,d7,d8,d9,d10⟩:=HDY.out w7 HB7.out;have HTH:=hid (zjk (o:=5) (n:=5) hn7 (by simp));obtain⟨w8,e8,hn8⟩:=zmw hn7 y;have HB8:Hid (Below wq.heap.size wq w8):=hid (by rw[←e8];exact below_setCells HB7.out _ _ _ (Nat.le_refl _));obtain⟨-,-,-,-,-,-,-,-,-,-,z10⟩:=HDY.out w8 HB8.out;have hx10:w8.cell? ⟨wq.heap.size,10,none⟩=some (.bool x1.e):=(zka hn8).2.2.2.2.2.2.2.2.2.2;have hf10:w8.frozen? ⟨wq.heap.size,10,none⟩=false:=zeb hn8 10;have HN9:=hid (zmx hn8);have HB9:Hid (Below wq.heap.size wq (w8.setCell ⟨wq.heap.size,10,none⟩ (.bool y.e))):=hid (HB8.out.setCell (Nat.le_refl _) _);have HE8:=hid e8;have HZ10:=hid z10;have HX10:=hid hx10;have HF10:=hid hf10;clear e8 hn8 hn7 z10 hx10 hf10;go_upto_region 14 with (refine wpList_store_mid rfl 284 _ _ rfl wq.heap.size 5 (hiL y).toArray rfl rfl HTH.out zlx (zma y) ?_;change wpList _ _ _ _ _ (w7.setCells wq.heap.size 5 (hiL y));rw[HE8.out];clear HTH HE8 d0 d1 d2 d3 d4 d5 d6 d7 d8 d9 d10;have z10:=HZ10.out;have hx10:=HX10.out;have hf10:=HF10.out)
           generalize w8.setCell ⟨wq.heap.size,10,none⟩ (.bool y.e)=w9 at*;clear z10 hx10 hf10 HZ10 HX10 HF10;have hn9:=HN9.out;rw[←HMM.out] at hn9;have HZT:=hid (HMM.out);clear HMM;obtain⟨z,hz⟩:∃z,meetI x y=z:=⟨_,rfl⟩;have HZ:=hid hz;rw[hz] at hn9;clear hz;obtain⟨e0,e1,e2,e3,e4,e5,e6,e7,e8,e9,e10⟩:=zka hn9;clear hn9;have hrow:w9.ownsRow w.heap.size 286 11 (.slice va M2.length cpM) M2.length (M2.flatMap gvL):=HJ.out.row.below' HB9.out;have HOWN:=hid hrow;have HW9:=hid (HJ.out.below.trans (HB9.out.mono HJ.out.below.size));have HSZ:=hid HW9.out.size;go_wp2_with (at_builtin;refine wpList_append_own _ rfl _ _ 246 rfl w.heap.size 286 i0 _ 11 104 Tryz.underlying246 hi hz0 hz1 hz2 rfl (by decide) _ _ _ rfl (hrow.alloc _) ⟨w9.heap.size,0,none⟩ 1 1 (gvL z) rfl rfl ?c1 ?c2 ?c3 ?c4 ?c5 ?_)
           case c1=>exact zju w9 (gvL z) 286
           case c2=>exact zjx z
           case c3=>unfold maxLen;omega
           case c4=>omega
           case c5=>have:=HSZ.out;simp;omega
           intro v' w10 hown10 hg10 _
           have HNEXT:Hid (MeetR K A C w w10 v' k (m+1) (M2++ [z])):=hid (by
            rw[←HZ.out];refine HJ.out.more HXS.out HYS.out HXT.out HYT.out ?_ ((HW9.out.alloc HW9.out.size _).grown hg10 (by have:=HSZ.out;simp;omega) (fun j hj=>(World.ownsRow.lt HOWN.out j hj).1));rw[HZ.out];unfold IvRow;rw[List.flatMap_append,List.length_append]
            simpa using hown10)
           clear hown10 hg10 hrow e0 e1 e2 e3 e4 e5 e6 e7 e8 e9 e10;go_wp2_with fail;go_roundw
           case rel=>exact⟨m+1,_,by go_num,hlt2,HNEXT⟩
           case measure=>simp[intOf];omega
         · have dq2:decide (q2<0)=false:=decide_eq_false h0
           have HMM:Hid (meetI x y=x1):=hid (by rw[HMI.out,if_neg h0]);clear h0;go_wp2_with fail;refine wp_region_quiet_below (by kernel_rfl) (by kernel_rfl) ?_
           repeat (first|go_big_quiet_step (exact cH _ _)|quiet_step (exact cH _ _))
           refine wpQuiet_nil ?_;intro _ hw';obtain⟨⟨dq,osq⟩,hw''⟩:=hw';subst hw'';have HBQ2:=hid (below_regrown w6 dq osq);clear cH kc0 kc1 kc2 kc3 kc4 kc5 kc6 kc7 kc8 kc9 kc10 kd0 kd1 kd2 kd3 kd4 kd5 kd6 kd7 kd8 kd9 kd10;generalize Go.Sort.grow (redrawn w6 dq) osq=w7 at*;have HB7:=hid (HB6.out.trans (HBQ2.out.mono HB6.out.size));have hn7:=(HBQ2.out.block _ HX6.out).trans HN6.out;have hn9:=hn7;have HB9:=HB7;clear hn7;generalize hw9:w7=w9 at*;clear hw9;rw[←HMM.out] at hn9;have HZT:=hid (HMM.out);clear HMM;obtain⟨z,hz⟩:∃z,meetI x y=z:=⟨_,rfl⟩;have HZ:=hid hz;rw[hz] at hn9;clear hz;obtain⟨e0,e1,e2,e3,e4,e5,e6,e7,e8,e9,e10⟩:=zka hn9;clear hn9;have hrow:w9.ownsRow w.heap.size 286 11 (.slice va M2.length cpM) M2.length (M2.flatMap gvL):=HJ.out.row.below' HB9.out;have HOWN:=hid hrow;have HW9:=hid (HJ.out.below.trans (HB9.out.mono HJ.out.below.size));have HSZ:=hid HW9.out.size;go_wp2_with (at_builtin;refine wpList_append_own _ rfl _ _ 246 rfl w.heap.size 286 i0 _ 11 104 Tryz.underlying246 hi hz0 hz1 hz2 rfl (by decide) _ _ _ rfl (hrow.alloc _) ⟨w9.heap.size,0,none⟩ 1 1 (gvL z) rfl rfl ?c1 ?c2 ?c3 ?c4 ?c5 ?_)
           case c1=>exact zju w9 (gvL z) 286
           case c2=>exact zjx z
           case c3=>unfold maxLen;omega
           case c4=>omega
           case c5=>have:=HSZ.out;simp;omega
           intro v' w10 hown10 hg10 _
           have HNEXT:Hid (MeetR K A C w w10 v' k (m+1) (M2++ [z])):=hid (by
            rw[←HZ.out];refine HJ.out.more HXS.out HYS.out HXT.out HYT.out ?_ ((HW9.out.alloc HW9.out.size _).grown hg10 (by have:=HSZ.out;simp;omega) (fun j hj=>(World.ownsRow.lt HOWN.out j hj).1));rw[HZ.out];unfold IvRow;rw[List.flatMap_append,List.length_append]
            simpa using hown10)
           clear hown10 hg10 hrow e0 e1 e2 e3 e4 e5 e6 e7 e8 e9 e10;go_wp2_with fail;go_roundw
           case rel=>exact⟨m+1,_,by go_num,hlt2,HNEXT⟩
           case measure=>simp[intOf];omega
       · have HX1:Hid (meetI1 x y=x):=hid (by unfold meetI1;rw[if_neg (by rw[HQ1.out];exact h0)])
         have dq1:decide (q1<0)=false:=decide_eq_false h0;clear h0;go_wp2_with fail;refine wp_region_quiet_below (by kernel_rfl) (by kernel_rfl) ?_
         repeat (first|go_big_quiet_step (exact cL _ _)|quiet_step (exact cL _ _))
         refine wpQuiet_nil ?_;intro _ hw';obtain⟨⟨dq,osq⟩,hw''⟩:=hw';subst hw'';have HBQ:=hid (below_regrown w4 dq osq);clear cL kc0 kd0 kc1 kd1 kc2 kd2 kc3 kd3 kc4 kd4;generalize Go.Sort.grow (redrawn w4 dq) osq=w5 at*;have HB5:=hid (HB4.out.trans (HBQ.out.mono HB4.out.size));have hn5:=(HBQ.out.block _ HX4.out).trans HN4.out;have hn6:=hn5;have HB6:=HB5;clear hn5;generalize hw6:w5=w6 at*;clear hw6;rw[←HX1.out] at hn6;have HM1:=hid (zms HXT.out HYT.out);obtain⟨x1,hx1⟩:∃z,meetI1 x y=z:=⟨_,rfl⟩;have HTX:Hid (tE x1=tE x):=hid (by rw[←hx1];exact zmu x y);have HMI:Hid (meetI x y=if cE (tE y) (tE x1)<0 then putHE x1 y else x1):=hid (by unfold meetI;rw[hx1,HTX.out]);rw[hx1] at hn6 HM1;clear hx1 HX1;obtain⟨e0,e1,e2,e3,e4,e5,e6,e7,e8,e9,e10⟩:=zka hn6;obtain⟨d0,d1,d2,d3,d4,d5,d6,d7,d8,d9,d10⟩:=HDY.out w6 HB6.out;have kc0:=cell_regrown e0;have kd0:=cell_regrown d0;have kc1:=cell_regrown e1;have kd1:=cell_regrown d1;have kc2:=cell_regrown e2;have kd2:=cell_regrown d2;have kc3:=cell_regrown e3;have kd3:=cell_regrown d3;have kc4:=cell_regrown e4;have kd4:=cell_regrown d4;have kc5:=cell_regrown e5;have kd5:=cell_regrown d5;have kc6:=cell_regrown e6;have kd6:=cell_regrown d6;have kc7:=cell_regrown e7;have kd7:=cell_regrown d7;have kc8:=cell_regrown e8;have kd8:=cell_regrown d8;have kc9:=cell_regrown e9;have kd9:=cell_regrown d9;have kc10:=cell_regrown e10;have kd10:=cell_regrown d10;have HN6:=hid hn6;have HX6:Hid (wq.heap.size<w6.heap.size):=hid (Array.getElem?_eq_some_iff.1 hn6).1;have HW6:=hid (HJ.out.below.trans (HB6.out.mono HJ.out.below.size));have HHI:=hid (fun d os=>zlp y x1 (Go.Sort.grow (redrawn w6 d) os) ((HYT.out.1.gr HW6.out).gr (below_regrown w6 d os)) ((HM1.out.1.gr HW6.out).gr (below_regrown w6 d os)) HYT.out.2 HM1.out.2);obtain⟨q2,hq2⟩:∃r,cE (tE y) (tE x1)=r:=⟨_,rfl⟩;rw[hq2] at HHI HMI;have cH:∀d os,Calls Tryz.prog 241 #[gvV y,gvV x1] (Go.Sort.grow (redrawn w6 d) os) _:=fun d os=>Calls.regrown_of (HHI.out d os)
         clear hq2 hn6 d0 d1 d2 d3 d4 d5 d6 d7 d8 d9 d10 e0 e1 e2 e3 e4 e5 e6 e7 e8 e9 e10;by_cases h0:q2<0
         · have dq2:decide (q2<0)=true:=decide_eq_true h0
           have HMM:Hid (meetI x y=putHE x1 y):=hid (by rw[HMI.out,if_pos h0]);clear h0;go_wp2_with fail;refine wp_region_quiet_below (by kernel_rfl) (by kernel_rfl) ?_
           repeat (first|go_big_quiet_step (exact cH _ _)|quiet_step (exact cH _ _))
           refine wpQuiet_nil ?_;intro _ hw';obtain⟨⟨dq,osq⟩,hw''⟩:=hw';subst hw'';have HBQ2:=hid (below_regrown w6 dq osq);clear cH kc0 kc1 kc2 kc3 kc4 kc5 kc6 kc7 kc8 kc9 kc10 kd0 kd1 kd2 kd3 kd4 kd5 kd6 kd7 kd8 kd9 kd10;generalize Go.Sort.grow (redrawn w6 dq) osq=w7 at*;have HB7:=hid (HB6.out.trans (HBQ2.out.mono HB6.out.size));have hn7:=(HBQ2.out.block _ HX6.out).trans HN6.out;obtain⟨d0,d1,d2,d3,d4,d5,d6,d7,d8,d9,d10⟩:=HDY.out w7 HB7.out;have HTH:=hid (zjk (o:=5) (n:=5) hn7 (by simp));obtain⟨w8,e8,hn8⟩:=zmw hn7 y;have HB8:Hid (Below wq.heap.size wq w8):=hid (by rw[←e8];exact below_setCells HB7.out _ _ _ (Nat.le_refl _));obtain⟨-,-,-,-,-,-,-,-,-,-,z10⟩:=HDY.out w8 HB8.out;have hx10:w8.cell? ⟨wq.heap.size,10,none⟩=some (.bool x1.e):=(zka hn8).2.2.2.2.2.2.2.2.2.2;have hf10:w8.frozen? ⟨wq.heap.size,10,none⟩=false:=zeb hn8 10;have HN9:=hid (zmx hn8);have HB9:Hid (Below wq.heap.size wq (w8.setCell ⟨wq.heap.size,10,none⟩ (.bool y.e))):=hid (HB8.out.setCell (Nat.le_refl _) _);have HE8:=hid e8;have HZ10:=hid z10;have HX10:=hid hx10;have HF10:=hid hf10;clear e8 hn8 hn7 z10 hx10 hf10;go_upto_region 14 with (refine wpList_store_mid rfl 284 _ _ rfl wq.heap.size 5 (hiL y).toArray rfl rfl HTH.out zlx (zma y) ?_;change wpList _ _ _ _ _ (w7.setCells wq.heap.size 5 (hiL y));rw[HE8.out];clear HTH HE8 d0 d1 d2 d3 d4 d5 d6 d7 d8 d9 d10;have z10:=HZ10.out;have hx10:=HX10.out;have hf10:=HF10.out)
           generalize w8.setCell ⟨wq.heap.size,10,none⟩ (.bool y.e)=w9 at*;clear z10 hx10 hf10 HZ10 HX10 HF10;have hn9:=HN9.out;rw[←HMM.out] at hn9;have HZT:=hid (HMM.out);clear HMM;obtain⟨z,hz⟩:∃z,meetI x y=z:=⟨_,rfl⟩;have HZ:=hid hz;rw[hz] at hn9;clear hz;obtain⟨e0,e1,e2,e3,e4,e5,e6,e7,e8,e9,e10⟩:=zka hn9;clear hn9;have hrow:w9.ownsRow w.heap.size 286 11 (.slice va M2.length cpM) M2.length (M2.flatMap gvL):=HJ.out.row.below' HB9.out;have HOWN:=hid hrow;have HW9:=hid (HJ.out.below.trans (HB9.out.mono HJ.out.below.size));have HSZ:=hid HW9.out.size;go_wp2_with (at_builtin;refine wpList_append_own _ rfl _ _ 246 rfl w.heap.size 286 i0 _ 11 104 Tryz.underlying246 hi hz0 hz1 hz2 rfl (by decide) _ _ _ rfl (hrow.alloc _) ⟨w9.heap.size,0,none⟩ 1 1 (gvL z) rfl rfl ?c1 ?c2 ?c3 ?c4 ?c5 ?_)
           case c1=>exact zju w9 (gvL z) 286
           case c2=>exact zjx z
           case c3=>unfold maxLen;omega
           case c4=>omega
           case c5=>have:=HSZ.out;simp;omega
           intro v' w10 hown10 hg10 _
           have HNEXT:Hid (MeetR K A C w w10 v' k (m+1) (M2++ [z])):=hid (by
            rw[←HZ.out];refine HJ.out.more HXS.out HYS.out HXT.out HYT.out ?_ ((HW9.out.alloc HW9.out.size _).grown hg10 (by have:=HSZ.out;simp;omega) (fun j hj=>(World.ownsRow.lt HOWN.out j hj).1));rw[HZ.out];unfold IvRow;rw[List.flatMap_append,List.length_append]
            simpa using hown10)
           clear hown10 hg10 hrow e0 e1 e2 e3 e4 e5 e6 e7 e8 e9 e10;go_wp2_with fail;go_roundw
           case rel=>exact⟨m+1,_,by go_num,hlt2,HNEXT⟩
           case measure=>simp[intOf];omega
         · have dq2:decide (q2<0)=false:=decide_eq_false h0
           have HMM:Hid (meetI x y=x1):=hid (by rw[HMI.out,if_neg h0]);clear h0;go_wp2_with fail;refine wp_region_quiet_below (by kernel_rfl) (by kernel_rfl) ?_
           repeat (first|go_big_quiet_step (exact cH _ _)|quiet_step (exact cH _ _))
           refine wpQuiet_nil ?_;intro _ hw';obtain⟨⟨dq,osq⟩,hw''⟩:=hw';subst hw'';have HBQ2:=hid (below_regrown w6 dq osq);clear cH kc0 kc1 kc2 kc3 kc4 kc5 kc6 kc7 kc8 kc9 kc10 kd0 kd1 kd2 kd3 kd4 kd5 kd6 kd7 kd8 kd9 kd10;generalize Go.Sort.grow (redrawn w6 dq) osq=w7 at*;have HB7:=hid (HB6.out.trans (HBQ2.out.mono HB6.out.size));have hn7:=(HBQ2.out.block _ HX6.out).trans HN6.out;have hn9:=hn7;have HB9:=HB7;clear hn7;generalize hw9:w7=w9 at*;clear hw9;rw[←HMM.out] at hn9;have HZT:=hid (HMM.out);clear HMM;obtain⟨z,hz⟩:∃z,meetI x y=z:=⟨_,rfl⟩;have HZ:=hid hz;rw[hz] at hn9;clear hz;obtain⟨e0,e1,e2,e3,e4,e5,e6,e7,e8,e9,e10⟩:=zka hn9;clear hn9;have hrow:w9.ownsRow w.heap.size 286 11 (.slice va M2.length cpM) M2.length (M2.flatMap gvL):=HJ.out.row.below' HB9.out;have HOWN:=hid hrow;have HW9:=hid (HJ.out.below.trans (HB9.out.mono HJ.out.below.size));have HSZ:=hid HW9.out.size;go_wp2_with (at_builtin;refine wpList_append_own _ rfl _ _ 246 rfl w.heap.size 286 i0 _ 11 104 Tryz.underlying246 hi hz0 hz1 hz2 rfl (by decide) _ _ _ rfl (hrow.alloc _) ⟨w9.heap.size,0,none⟩ 1 1 (gvL z) rfl rfl ?c1 ?c2 ?c3 ?c4 ?c5 ?_)
           case c1=>exact zju w9 (gvL z) 286
           case c2=>exact zjx z
           case c3=>unfold maxLen;omega
           case c4=>omega
           case c5=>have:=HSZ.out;simp;omega
           intro v' w10 hown10 hg10 _
           have HNEXT:Hid (MeetR K A C w w10 v' k (m+1) (M2++ [z])):=hid (by
            rw[←HZ.out];refine HJ.out.more HXS.out HYS.out HXT.out HYT.out ?_ ((HW9.out.alloc HW9.out.size _).grown hg10 (by have:=HSZ.out;simp;omega) (fun j hj=>(World.ownsRow.lt HOWN.out j hj).1));rw[HZ.out];unfold IvRow;rw[List.flatMap_append,List.length_append]
            simpa using hown10)
           clear hown10 hg10 hrow e0 e1 e2 e3 e4 e5 e6 e7 e8 e9 e10;go_wp2_with fail;go_roundw
           case rel=>exact⟨m+1,_,by go_num,hlt2,HNEXT⟩
           case measure=>simp[intOf];omega
     · have hdec2:decide (m<C.length)=false:=by simpa using hlt2
       obtain⟨x,hxs⟩:∃x,A[k]?=some x:=⟨_,List.getElem?_eq_getElem hlt⟩;have HNEXT:Hid (MeetR K A C w wq u5 (k+1) 0 M2):=hid (HJ.out.next hxs (by omega));clear hxs;go_wp2_with fail;go_roundw
       case rel=>exact⟨k+1,_,by go_num,hlt,HNEXT⟩
       case measure=>simp[intOf];omega
  · have hdec:decide (k<A.length)=false:=by simpa using hlt
    have HST:Hid (spanM M=meets (spanM A) (spanM C)):=hid (by
     rw[HI.out.st,List.take_of_length_le (by rw[zmj];omega),List.getElem?_eq_none (by rw[zmj];omega)];simp)
    obtain⟨va,cpM,rfl⟩:=HI.out.row.value
    have HFM:=hid (zmq va cpM M wr ⟨HI.out.row.in_,fun z hz=>(HI.out.txs z hz).1.gr HI.out.below⟩ (fun z hz=>(HI.out.txs z hz).2) (by
     have h:=HI.out.len;have:k*C.length≤20*20:=Nat.mul_le_mul (by omega) (by omega)
     omega))
    rw[HST.out] at HFM;go_wp2_with (go_at_call 215;refine HFM.out.mono ?_;rintro e w5 ⟨u5,R,rfl,hr5,hm5,hb5⟩;have HR5:=hid hr5;have HM5:=hid hm5;have HB5:=hid (HI.out.below.trans (hb5.mono HI.out.below.size));clear hr5 hm5 hb5)
    go_ret;exact⟨_,R,rfl,HR5.out.base HI.out.below.size,HM5.out,HB5.out⟩
end SpanC
end
end Go.Proofs.YtbninnkpjdofbaaGreatDoor
