/-
  What the proof of EventReads stands on, part 23.
-/
import Derived.Ground.NamesProg
import Derived.Ground.SlgnProg
import Derived.Handy
import Derived.Shelf.SortG.Plain
import Derived.Test.YtbninnkpjdofbaaGreatDoorProg
import Derived.Test.YtbninnkpjdofbaaGreatDoorT22
set_option linter.unusedSimpArgs false
set_option linter.unusedVariables false
set_option maxHeartbeats 16000000
namespace Go.Proofs.YtbninnkpjdofbaaGreatDoor
open Go.Lib (hid)
section
open Go.RowKit
namespace EvS
open StrC EvA EvC
structure Oth (b:Nat) (w w':World):Prop where
 os:w'.os=w.os
 tape:w'.tape=w.tape
 output:w'.output=w.output
 size:w.heap.size≤w'.heap.size
 block:∀k,k<w.heap.size→k≠b→w'.heap[k]?=w.heap[k]?
theorem Oth.refl(b:Nat)(w:World):Oth b w w:=⟨rfl,rfl,rfl,Nat.le_refl _,fun _ _ _=>rfl⟩
theorem Oth.trans{b:Nat}{x y z:World}(h:Oth b x y)(k:Oth b y z):Oth b x z:=
 ⟨k.os.trans h.os,k.tape.trans h.tape,k.output.trans h.output,Nat.le_trans h.size k.size,fun i hi hb=>(k.block i (Nat.lt_of_lt_of_le hi h.size) hb).trans (h.block i hi hb)⟩
theorem Oth.of_below{b:Nat}{w w':World}(h:Below w.heap.size w w'):Oth b w w':=⟨h.os,h.tape,h.output,h.size,fun i hi _=>h.block i hi⟩
theorem Oth.drew(b:Nat)(w:World):Oth b w w.drew:=⟨rfl,rfl,rfl,Nat.le_refl _,fun _ _ _=>rfl⟩
structure Oth3 (b e f:Nat) (w w':World):Prop where
 os:w'.os=w.os
 tape:w'.tape=w.tape
 output:w'.output=w.output
 size:w.heap.size≤w'.heap.size
 block:∀k,k<w.heap.size→k≠b→k≠e→k≠f→w'.heap[k]?=w.heap[k]?
theorem Oth3.refl(b e f:Nat)(w:World):Oth3 b e f w w:=⟨rfl,rfl,rfl,Nat.le_refl _,fun _ _ _ _ _=>rfl⟩
theorem Oth3.trans{b e f:Nat}{x y z:World}(h:Oth3 b e f x y)(k:Oth3 b e f y z):Oth3 b e f x z:=
 ⟨k.os.trans h.os,k.tape.trans h.tape,k.output.trans h.output,Nat.le_trans h.size k.size,fun i hi hb he hf=>(k.block i (Nat.lt_of_lt_of_le hi h.size) hb he hf).trans (h.block i hi hb he hf)⟩
theorem Oth.to3{b:Nat}(e f:Nat){w w':World}(h:Oth b w w'):Oth3 b e f w w':=⟨h.os,h.tape,h.output,h.size,fun k hk hb _ _=>h.block k hk hb⟩
theorem Oth3.set_e{b e f:Nat}{w w':World}(h:Oth3 b e f w w')(i:Nat)(v:Value):Oth3 b e f w (w'.setCell ⟨e,i,none⟩ v):=
 ⟨h.os,h.tape,h.output,by simpa using h.size,fun k hk hb he hf=>(zvn i v he).trans (h.block k hk hb he hf)⟩
theorem Oth3.set_f{b e f:Nat}{w w':World}(h:Oth3 b e f w w')(i:Nat)(v:Value):Oth3 b e f w (w'.setCell ⟨f,i,none⟩ v):=
 ⟨h.os,h.tape,h.output,by simpa using h.size,fun k hk hb he hf=>(zvn i v hf).trans (h.block k hk hb he hf)⟩
structure Src {σ:Type} (b L:Nat) (St:World→σ→Prop) (IsE:World→World→Value→Nat→Nat→Prop):Prop where
 lt:b<L
 stay:∀{W W':World} {x:σ},St W x→(∀j,j<L→W'.heap[j]?=W.heap[j]?)→St W' x
 keep:∀{W0 W W':World} {v:Value} {c a:Nat},IsE W0 W v c a→W.heap.size≤W'.heap.size→(∀j,W0.heap.size≤j→j<W.heap.size→W'.heap[j]?=W.heap[j]?)→IsE W0 W' v c a
 up:∀{W0 W1 W:World} {v:Value} {c a:Nat},IsE W1 W v c a→W0.heap.size≤W1.heap.size→IsE W0 W v c a
 none_:∀{W0 W:World} {v:Value} {a:Nat},IsE W0 W v 0 a→v= .nilIface
 nil_:∀{W0 W:World} {a:Nat},IsE W0 W .nilIface 0 a
 some_:∀{W0 W:World} {v:Value} {c a:Nat},c≠0→IsE W0 W v c a→∃t u,v= .iface t u
def Part{σ α:Type}(C:α→Value)(b L:Nat)(St:World→σ→Prop)(IsE:World→World→Value→Nat→Nat→Prop)(F:FuncId)(args:Array Value)(r:σ→α×Nat×Nat×σ):Prop:=
 ∀W x,L≤W.heap.size→St W x→Calls Tryz.prog F args W fun e w'=>∃ev,e= .returned (.tuple #[C (r x).1,ev])∧IsE W w' ev (r x).2.1 (r x).2.2.1∧St w' (r x).2.2.2∧Oth b W w'
def PartN{σ:Type}(b L:Nat)(St:World→σ→Prop)(IsE:World→World→Value→Nat→Nat→Prop)(F:FuncId)(args:Array Value)(r:σ→List (B×B)×Nat×Nat×σ):Prop:=
 ∀W x,L≤W.heap.size→St W x→Calls Tryz.prog F args W fun e w'=>∃ev a c,e= .returned (.tuple #[.slice a (r x).1.length c,ev])∧NeIn w' a c (r x).1∧(∀g,a=some g→W.heap.size≤g.block)∧IsE W w' ev (r x).2.1 (r x).2.2.1∧St w' (r x).2.2.2∧Oth b W w'
def EntS(F:FuncId):Prop:=∀(args:Array Value) (w:World),Sem.run Tryz.prog (callFunc F args) w= .ok (.enter F args) w
abbrev ptS(n:Nat):Value:=.pointer (some ⟨n,0,none⟩)
abbrev cloV(I:FuncId)(n:Nat):Value:=.func (.func I) #[] #[ptS (n+1),ptS n]
def IntoE{σ α:Type}(C:α→Value)(b:Nat)(St:World→σ→Prop)(IsE:World→World→Value→Nat→Nat→Prop)(r:α×Nat×Nat×σ)(pa:Addr)(W:World)(e:Ending)(w':World):Prop:=
 ∃v w1,e= .returned v∧IsE W w1 v r.2.1 r.2.2.1∧St w1 r.2.2.2∧Oth b W w1∧w'=w1.setCell pa (C r.1)
def IntoN{σ:Type}(b:Nat)(St:World→σ→Prop)(IsE:World→World→Value→Nat→Nat→Prop)(r:List (B×B)×Nat×Nat×σ)(pa:Addr)(W:World)(e:Ending)(w':World):Prop:=
 ∃v w1 a c,e= .returned v∧NeIn w1 a c r.1∧(∀g,a=some g→W.heap.size≤g.block)∧IsE W w1 v r.2.1 r.2.2.1∧St w1 r.2.2.2∧Oth b W w1∧w'=w1.setCell pa (.slice a r.1.length c)
theorem cell1{w:World}{g:Nat}{v:Value}{t:TypeId}(h:w.heap[g]?=some (.cells #[v] t)):w.cell? ⟨g,0,none⟩=some v:=by simp[World.cell?,h]
theorem zvp{w:World}{g:Nat}{o:Obj}(h:w.heap[g]?=some o):g<w.heap.size:=(Array.getElem?_eq_some_iff.1 h).1
theorem zvq{w:World}{g i:Nat}{cs:Array Value}{t:TypeId}(h:w.heap[g]?=some (.cells cs t)):w.frozen? ⟨g,i,none⟩=false:=by unfold World.frozen?;simp only[h];rfl
theorem zvr{b L n ev i:Nat}{F:FuncId}{bs cs:Array Value}{W:World}{vs:Array Value}{t t1 t2:TypeId}{u:Value}(hb:b<L)(hn:L≤n)(he:L≤ev)(h0:W.heap[n]?=some (.cells #[.pointer (some ⟨ev,i,none⟩)] t1))(h1:W.heap[n+1]?=some (.cells #[.func (.func F) bs cs] t2))
 (hev:W.heap[ev]?=some (.cells vs t)) (hu:vs[i]?=some u) (hne:n≠ev∧n+1≠ev):
 (∀w',Oth b W w'→w'.cell? ⟨n,0,none⟩=some (.pointer (some ⟨ev,i,none⟩))∧w'.cell? ⟨n+1,0,none⟩=some (.func (.func F) bs cs))∧
 (∀w',Oth b W w'→w'.cell? ⟨ev,i,none⟩=some u∧w'.frozen? ⟨ev,i,none⟩=false)∧
 (∀(w':World) (v:Value),w'.cell? ⟨n,0,none⟩=some (.pointer (some ⟨ev,i,none⟩))∧w'.cell? ⟨n+1,0,none⟩=some (.func (.func F) bs cs)→(w'.setCell ⟨ev,i,none⟩ v).cell? ⟨n,0,none⟩=some (.pointer (some ⟨ev,i,none⟩))∧(w'.setCell ⟨ev,i,none⟩ v).cell? ⟨n+1,0,none⟩=some (.func (.func F) bs cs)):=
 ⟨fun w' h=>⟨cell1 ((h.block n (zvp h0) (by omega)).trans h0),cell1 ((h.block (n+1) (zvp h1) (by omega)).trans h1)⟩,
  fun w' h=>(by
   have h2:=(h.block ev (zvp hev) (by omega)).trans hev;exact⟨by simp[World.cell?,h2,hu],zvq h2⟩),
  fun w' v h=>⟨(World.cell?_of_block (a:=⟨n,0,none⟩) (zvn i v hne.1)).trans h.1,(World.cell?_of_block (a:=⟨n+1,0,none⟩) (zvn i v hne.2)).trans h.2⟩⟩
set_option maxRecDepth 100000 in
theorem mkS(pa:Addr)(fq:Fn)(bs cs:Array Value)(w:World):Calls Tryz.prog 61 #[.pointer (some pa),.func fq bs cs] w fun e w'=>e= .returned (cloV 116 w.heap.size)∧w'=(w.alloc (.cells #[.pointer (some pa)] 129)).alloc (.cells #[.func fq bs cs] 60):=by
 go_enter Tryz.func61,Tryz.ntmps61;go_wp2_with fail;go_ret;exact⟨by simp,rfl⟩
set_option maxRecDepth 100000 in
theorem runS{σ:Type}{b L:Nat}{St:World→σ→Prop}{IsE:World→World→Value→Nat→Nat→Prop}(HS:Src b L St IsE)(F:FuncId)(bs cs:Array Value)(r:σ→B×Nat×Nat×σ)(hp:Part (fun s:B=>.string (str s)) b L St IsE F (bs++cs) r)(eF:EntS F)
 (n ev i:Nat) (W:World) (x:σ) (hst:St W x) (hL:L≤W.heap.size) (hn:L≤n) (he:L≤ev) (h0:W.heap[n]?=some (.cells #[.pointer (some ⟨ev,i,none⟩)] 129)) (h1:W.heap[n+1]?=some (.cells #[.func (.func F) bs cs] 60))
 (vs:Array Value) (t:TypeId) (u:Value) (hev:W.heap[ev]?=some (.cells vs t)) (hu:vs[i]?=some u) (hne:n≠ev∧n+1≠ev):
 Calls Tryz.prog 116 #[ptS (n+1),ptS n] W (IntoE (fun s:B=>.string (str s)) b St IsE (r x) ⟨ev,i,none⟩ W):=by
 have hb:=HS.lt;obtain⟨hc,he',hse⟩:=zvr (F:=F) (bs:=bs) (cs:=cs) hb hn he h0 h1 hev hu hne;have HC:=hid hc;have HE:=hid he';have HSE:=hid hse;have HP:=hid (hp W.drew x hL (HS.stay hst (fun _ _=>rfl)));obtain⟨c0,c1⟩:=HC.out W (Oth.refl _ _);have HUP:Hid (∀W1 v c a,IsE W.drew W1 v c a→IsE W W1 v c a):=hid (fun _ _ _ _ h=>HS.up h (Nat.le_refl _));have HO:Hid (Oth b W W.drew):=hid (Oth.drew _ _);unfold EntS at eF;clear hp hst h0 h1 hev hu HS hb hne hc he' hse;go_enter Tryz.func116,Tryz.ntmps116;go_wp2_with fail
 go_region_held3 (fun w'=>w'.cell? ⟨n,0,none⟩=some (.pointer (some ⟨ev,i,none⟩))∧w'.cell? ⟨n+1,0,none⟩=some (.func (.func F) bs cs))
  (first|exact⟨c0,c1⟩|exact hk3|exact HSE.out _ _ hk3|fail)
  (first
    | (refine HP.out.mono ?_;rintro e w3 ⟨v3,rfl,hie,hst3,ho3⟩;have HO3:=hid (HO.out.trans ho3);have HI3:=hid hie;have HS3:=hid hst3;have hk3:=HC.out _ HO3.out;obtain⟨e0,e1⟩:=HE.out _ HO3.out;clear ho3 hie hst3)
    | fail)
 all_goals (go_wp2_with fail)
 all_goals go_ret
 all_goals exact⟨v3,w3,rfl,HUP.out _ _ _ _ HI3.out,HS3.out,HO3.out,rfl⟩
set_option maxRecDepth 100000 in
theorem mkN(pa:Addr)(fq:Fn)(bs cs:Array Value)(w:World):Calls Tryz.prog 62 #[.pointer (some pa),.func fq bs cs] w fun e w'=>e= .returned (cloV 117 w.heap.size)∧w'=(w.alloc (.cells #[.pointer (some pa)] 131)).alloc (.cells #[.func fq bs cs] 132):=by
 go_enter Tryz.func62,Tryz.ntmps62;go_wp2_with fail;go_ret;exact⟨by simp,rfl⟩
set_option maxRecDepth 100000 in
theorem runN{σ:Type}{b L:Nat}{St:World→σ→Prop}{IsE:World→World→Value→Nat→Nat→Prop}(HS:Src b L St IsE)(F:FuncId)(bs cs:Array Value)(r:σ→List (B×B)×Nat×Nat×σ)(hp:PartN b L St IsE F (bs++cs) r)(eF:EntS F)
 (n ev i:Nat) (W:World) (x:σ) (hst:St W x) (hL:L≤W.heap.size) (hn:L≤n) (he:L≤ev) (h0:W.heap[n]?=some (.cells #[.pointer (some ⟨ev,i,none⟩)] 131)) (h1:W.heap[n+1]?=some (.cells #[.func (.func F) bs cs] 132))
 (vs:Array Value) (t:TypeId) (u:Value) (hev:W.heap[ev]?=some (.cells vs t)) (hu:vs[i]?=some u) (hne:n≠ev∧n+1≠ev):
 Calls Tryz.prog 117 #[ptS (n+1),ptS n] W (IntoN b St IsE (r x) ⟨ev,i,none⟩ W):=by
 have hb:=HS.lt;obtain⟨hc,he',hse⟩:=zvr (F:=F) (bs:=bs) (cs:=cs) hb hn he h0 h1 hev hu hne;have HC:=hid hc;have HE:=hid he';have HSE:=hid hse;have HP:=hid (hp W.drew x hL (HS.stay hst (fun _ _=>rfl)));obtain⟨c0,c1⟩:=HC.out W (Oth.refl _ _);have HUP:Hid (∀W1 v c a,IsE W.drew W1 v c a→IsE W W1 v c a):=hid (fun _ _ _ _ h=>HS.up h (Nat.le_refl _));have HO:Hid (Oth b W W.drew):=hid (Oth.drew _ _);unfold EntS at eF;clear hp hst h0 h1 hev hu HS hb hne hc he' hse;go_enter Tryz.func117,Tryz.ntmps117;go_wp2_with fail
 go_region_held3 (fun w'=>w'.cell? ⟨n,0,none⟩=some (.pointer (some ⟨ev,i,none⟩))∧w'.cell? ⟨n+1,0,none⟩=some (.func (.func F) bs cs))
  (first|exact⟨c0,c1⟩|exact hk3|exact HSE.out _ _ hk3|fail)
  (first
    | (refine HP.out.mono ?_;rintro e w3 ⟨v3,a3,d3,rfl,hne,hge,hie,hst3,ho3⟩;have HO3:=hid (HO.out.trans ho3);have HI3:=hid hie;have HS3:=hid hst3;have HN3:=hid hne;have HG3:=hid hge;clear hne hge;have hk3:=HC.out _ HO3.out;obtain⟨e0,e1⟩:=HE.out _ HO3.out;clear ho3 hie hst3)
    | fail)
 all_goals (go_wp2_with fail)
 all_goals go_ret
 all_goals exact⟨v3,w3,a3,d3,rfl,HN3.out,HG3.out,HUP.out _ _ _ _ HI3.out,HS3.out,HO3.out,rfl⟩
set_option maxRecDepth 100000 in
theorem mkU(pa:Addr)(fq:Fn)(bs cs:Array Value)(w:World):Calls Tryz.prog 64 #[.pointer (some pa),.func fq bs cs] w fun e w'=>e= .returned (cloV 118 w.heap.size)∧w'=(w.alloc (.cells #[.pointer (some pa)] 134)).alloc (.cells #[.func fq bs cs] 61):=by
 go_enter Tryz.func64,Tryz.ntmps64;go_wp2_with fail;go_ret;exact⟨by simp,rfl⟩
set_option maxRecDepth 100000 in
theorem runU{σ:Type}{b L:Nat}{St:World→σ→Prop}{IsE:World→World→Value→Nat→Nat→Prop}(HS:Src b L St IsE)(F:FuncId)(bs cs:Array Value)(r:σ→Nat×Nat×Nat×σ)(hp:Part (fun n:Nat=>.int .u64 n) b L St IsE F (bs++cs) r)(eF:EntS F)
 (n ev i:Nat) (W:World) (x:σ) (hst:St W x) (hL:L≤W.heap.size) (hn:L≤n) (he:L≤ev) (h0:W.heap[n]?=some (.cells #[.pointer (some ⟨ev,i,none⟩)] 134)) (h1:W.heap[n+1]?=some (.cells #[.func (.func F) bs cs] 61))
 (vs:Array Value) (t:TypeId) (u:Value) (hev:W.heap[ev]?=some (.cells vs t)) (hu:vs[i]?=some u) (hne:n≠ev∧n+1≠ev):
 Calls Tryz.prog 118 #[ptS (n+1),ptS n] W (IntoE (fun n:Nat=>.int .u64 n) b St IsE (r x) ⟨ev,i,none⟩ W):=by
 have hb:=HS.lt;obtain⟨hc,he',hse⟩:=zvr (F:=F) (bs:=bs) (cs:=cs) hb hn he h0 h1 hev hu hne;have HC:=hid hc;have HE:=hid he';have HSE:=hid hse;have HP:=hid (hp W.drew x hL (HS.stay hst (fun _ _=>rfl)));obtain⟨c0,c1⟩:=HC.out W (Oth.refl _ _);have HUP:Hid (∀W1 v c a,IsE W.drew W1 v c a→IsE W W1 v c a):=hid (fun _ _ _ _ h=>HS.up h (Nat.le_refl _));have HO:Hid (Oth b W W.drew):=hid (Oth.drew _ _);unfold EntS at eF;clear hp hst h0 h1 hev hu HS hb hne hc he' hse;go_enter Tryz.func118,Tryz.ntmps118;go_wp2_with fail
 go_region_held3 (fun w'=>w'.cell? ⟨n,0,none⟩=some (.pointer (some ⟨ev,i,none⟩))∧w'.cell? ⟨n+1,0,none⟩=some (.func (.func F) bs cs))
  (first|exact⟨c0,c1⟩|exact hk3|exact HSE.out _ _ hk3|fail)
  (first
    | (refine HP.out.mono ?_;rintro e w3 ⟨v3,rfl,hie,hst3,ho3⟩;have HO3:=hid (HO.out.trans ho3);have HI3:=hid hie;have HS3:=hid hst3;have hk3:=HC.out _ HO3.out;obtain⟨e0,e1⟩:=HE.out _ HO3.out;clear ho3 hie hst3)
    | fail)
 all_goals (go_wp2_with fail)
 all_goals go_ret
 all_goals exact⟨v3,w3,rfl,HUP.out _ _ _ _ HI3.out,HS3.out,HO3.out,rfl⟩
set_option maxRecDepth 100000 in
theorem mkV(pa:Addr)(fq:Fn)(bs cs:Array Value)(w:World):Calls Tryz.prog 65 #[.pointer (some pa),.func fq bs cs] w fun e w'=>e= .returned (cloV 119 w.heap.size)∧w'=(w.alloc (.cells #[.pointer (some pa)] 136)).alloc (.cells #[.func fq bs cs] 137):=by
 go_enter Tryz.func65,Tryz.ntmps65;go_wp2_with fail;go_ret;exact⟨by simp,rfl⟩
set_option maxRecDepth 100000 in
theorem runV{σ:Type}{b L:Nat}{St:World→σ→Prop}{IsE:World→World→Value→Nat→Nat→Prop}(HS:Src b L St IsE)(F:FuncId)(bs cs:Array Value)(r:σ→Nat×Nat×Nat×σ)(hp:Part (fun n:Nat=>.int .u32 n) b L St IsE F (bs++cs) r)(eF:EntS F)
 (n ev i:Nat) (W:World) (x:σ) (hst:St W x) (hL:L≤W.heap.size) (hn:L≤n) (he:L≤ev) (h0:W.heap[n]?=some (.cells #[.pointer (some ⟨ev,i,none⟩)] 136)) (h1:W.heap[n+1]?=some (.cells #[.func (.func F) bs cs] 137))
 (vs:Array Value) (t:TypeId) (u:Value) (hev:W.heap[ev]?=some (.cells vs t)) (hu:vs[i]?=some u) (hne:n≠ev∧n+1≠ev):
 Calls Tryz.prog 119 #[ptS (n+1),ptS n] W (IntoE (fun n:Nat=>.int .u32 n) b St IsE (r x) ⟨ev,i,none⟩ W):=by
 have hb:=HS.lt;obtain⟨hc,he',hse⟩:=zvr (F:=F) (bs:=bs) (cs:=cs) hb hn he h0 h1 hev hu hne;have HC:=hid hc;have HE:=hid he';have HSE:=hid hse;have HP:=hid (hp W.drew x hL (HS.stay hst (fun _ _=>rfl)));obtain⟨c0,c1⟩:=HC.out W (Oth.refl _ _);have HUP:Hid (∀W1 v c a,IsE W.drew W1 v c a→IsE W W1 v c a):=hid (fun _ _ _ _ h=>HS.up h (Nat.le_refl _));have HO:Hid (Oth b W W.drew):=hid (Oth.drew _ _);unfold EntS at eF;clear hp hst h0 h1 hev hu HS hb hne hc he' hse;go_enter Tryz.func119,Tryz.ntmps119;go_wp2_with fail
 go_region_held3 (fun w'=>w'.cell? ⟨n,0,none⟩=some (.pointer (some ⟨ev,i,none⟩))∧w'.cell? ⟨n+1,0,none⟩=some (.func (.func F) bs cs))
  (first|exact⟨c0,c1⟩|exact hk3|exact HSE.out _ _ hk3|fail)
  (first
    | (refine HP.out.mono ?_;rintro e w3 ⟨v3,rfl,hie,hst3,ho3⟩;have HO3:=hid (HO.out.trans ho3);have HI3:=hid hie;have HS3:=hid hst3;have hk3:=HC.out _ HO3.out;obtain⟨e0,e1⟩:=HE.out _ HO3.out;clear ho3 hie hst3)
    | fail)
 all_goals (go_wp2_with fail)
 all_goals go_ret
 all_goals exact⟨v3,w3,rfl,HUP.out _ _ _ _ HI3.out,HS3.out,HO3.out,rfl⟩
set_option maxRecDepth 100000 in
theorem mkK(pa:Addr)(fq:Fn)(bs cs:Array Value)(w:World):Calls Tryz.prog 67 #[.pointer (some pa),.func fq bs cs] w fun e w'=>e= .returned (cloV 120 w.heap.size)∧w'=(w.alloc (.cells #[.pointer (some pa)] 140)).alloc (.cells #[.func fq bs cs] 59):=by
 go_enter Tryz.func67,Tryz.ntmps67;go_wp2_with fail;go_ret;exact⟨by simp,rfl⟩
set_option maxRecDepth 100000 in
theorem runK{σ:Type}{b L:Nat}{St:World→σ→Prop}{IsE:World→World→Value→Nat→Nat→Prop}(HS:Src b L St IsE)(F:FuncId)(bs cs:Array Value)(r:σ→Nat×Nat×Nat×σ)(hp:Part (fun n:Nat=>.int .u8 n) b L St IsE F (bs++cs) r)(eF:EntS F)
 (n ev i:Nat) (W:World) (x:σ) (hst:St W x) (hL:L≤W.heap.size) (hn:L≤n) (he:L≤ev) (h0:W.heap[n]?=some (.cells #[.pointer (some ⟨ev,i,none⟩)] 140)) (h1:W.heap[n+1]?=some (.cells #[.func (.func F) bs cs] 59))
 (vs:Array Value) (t:TypeId) (u:Value) (hev:W.heap[ev]?=some (.cells vs t)) (hu:vs[i]?=some u) (hne:n≠ev∧n+1≠ev):
 Calls Tryz.prog 120 #[ptS (n+1),ptS n] W (IntoE (fun n:Nat=>.int .u8 n) b St IsE (r x) ⟨ev,i,none⟩ W):=by
 have hb:=HS.lt;obtain⟨hc,he',hse⟩:=zvr (F:=F) (bs:=bs) (cs:=cs) hb hn he h0 h1 hev hu hne;have HC:=hid hc;have HE:=hid he';have HSE:=hid hse;have HP:=hid (hp W.drew x hL (HS.stay hst (fun _ _=>rfl)));obtain⟨c0,c1⟩:=HC.out W (Oth.refl _ _);have HUP:Hid (∀W1 v c a,IsE W.drew W1 v c a→IsE W W1 v c a):=hid (fun _ _ _ _ h=>HS.up h (Nat.le_refl _));have HO:Hid (Oth b W W.drew):=hid (Oth.drew _ _);unfold EntS at eF;clear hp hst h0 h1 hev hu HS hb hne hc he' hse;go_enter Tryz.func120,Tryz.ntmps120;go_wp2_with fail
 go_region_held3 (fun w'=>w'.cell? ⟨n,0,none⟩=some (.pointer (some ⟨ev,i,none⟩))∧w'.cell? ⟨n+1,0,none⟩=some (.func (.func F) bs cs))
  (first|exact⟨c0,c1⟩|exact hk3|exact HSE.out _ _ hk3|fail)
  (first
    | (refine HP.out.mono ?_;rintro e w3 ⟨v3,rfl,hie,hst3,ho3⟩;have HO3:=hid (HO.out.trans ho3);have HI3:=hid hie;have HS3:=hid hst3;have hk3:=HC.out _ HO3.out;obtain⟨e0,e1⟩:=HE.out _ HO3.out;clear ho3 hie hst3)
    | fail)
 all_goals (go_wp2_with fail)
 all_goals go_ret
 all_goals exact⟨v3,w3,rfl,HUP.out _ _ _ _ HI3.out,HS3.out,HO3.out,rfl⟩
end EvS
end
end Go.Proofs.YtbninnkpjdofbaaGreatDoor
section
namespace Go.Proofs
open Go.Shelf
def Tryz.sortFd_ren:Go.Shelf.Ren:=⟨fun | 53=>99 | 64=>136 | 63=>135 | 78=>165 | 79=>166 | 70=>156 | 71=>157 | 72=>158 | 73=>159 | 74=>160 | 75=>161 | 59=>162 | 76=>163 | 77=>164 | 88=>192 | 89=>193 | 90=>194 | 91=>195 | 92=>196 | 68=>197 | 96=>221|n=>n,fun | 22=>116 | 23=>118 | 3=>3 | 51=>170 | 0=>0 | 67=>25 | 69=>24 | 4=>4 | 61=>224 | 60=>223 | 44=>229 | 5=>5 | 9=>9 | 75=>256 | 79=>260 | 83=>290 | 84=>77|n=>n,fun|n=>n⟩
theorem Tryz.sortFd:Go.Proofs.SlLaysN.n53 Tryz.prog Tryz.sortFd_ren:={
 mixed:=by kernel_rfl
 f53:=⟨Tryz.f99.name,by decide,Tryz.func99.trans (congrArg some (by kernel_rfl))⟩
 f59:=⟨Tryz.f162.name,by decide,Tryz.func162.trans (congrArg some (by kernel_rfl))⟩
 f63:=⟨Tryz.f135.name,by decide,Tryz.func135.trans (congrArg some (by kernel_rfl))⟩
 f64:=Tryz.func136.trans (congrArg some (by kernel_rfl))
 f68:=⟨Tryz.f197.name,by decide,Tryz.func197.trans (congrArg some (by kernel_rfl))⟩
 f70:=⟨Tryz.f156.name,by decide,Tryz.func156.trans (congrArg some (by kernel_rfl))⟩
 f71:=⟨Tryz.f157.name,by decide,Tryz.func157.trans (congrArg some (by kernel_rfl))⟩
 f72:=⟨Tryz.f158.name,by decide,Tryz.func158.trans (congrArg some (by kernel_rfl))⟩
 f73:=⟨Tryz.f159.name,by decide,Tryz.func159.trans (congrArg some (by kernel_rfl))⟩
 f74:=⟨Tryz.f160.name,by decide,Tryz.func160.trans (congrArg some (by kernel_rfl))⟩
 f75:=⟨Tryz.f161.name,by decide,Tryz.func161.trans (congrArg some (by kernel_rfl))⟩
 f76:=⟨Tryz.f163.name,by decide,Tryz.func163.trans (congrArg some (by kernel_rfl))⟩
 f77:=⟨Tryz.f164.name,by decide,Tryz.func164.trans (congrArg some (by kernel_rfl))⟩
 f78:=Tryz.func165.trans (congrArg some (by kernel_rfl))
 f79:=Tryz.func166.trans (congrArg some (by kernel_rfl))
 f88:=⟨Tryz.f192.name,by decide,Tryz.func192.trans (congrArg some (by kernel_rfl))⟩
 f89:=Tryz.func193.trans (congrArg some (by kernel_rfl))
 f90:=Tryz.func194.trans (congrArg some (by kernel_rfl))
 f91:=⟨Tryz.f195.name,by decide,Tryz.func195.trans (congrArg some (by kernel_rfl))⟩
 f92:=⟨Tryz.f196.name,by decide,Tryz.func196.trans (congrArg some (by kernel_rfl))⟩
 f96:=⟨Tryz.f221.name,by decide,Tryz.func221.trans (congrArg some (by kernel_rfl))⟩
 t0:=Tryz.underlying0
 a0:=Tryz.isAgg0
 z0:=Tryz.sizeOf0
 v0:=Tryz.zeroValue0
 t3:=Tryz.underlying3
 a3:=Tryz.isAgg3
 z3:=Tryz.sizeOf3
 v3:=Tryz.zeroValue3
 t4:=Tryz.underlying4
 a4:=Tryz.isAgg4
 z4:=Tryz.sizeOf4
 v4:=Tryz.zeroValue4
 t5:=Tryz.underlying5
 a5:=Tryz.isAgg5
 z5:=Tryz.sizeOf5
 v5:=Tryz.zeroValue5
 t9:=Tryz.underlying9
 a9:=Tryz.isAgg9
 z9:=Tryz.sizeOf9
 v9:=Tryz.zeroValue9
 t22:=Tryz.underlying116
 a22:=Tryz.isAgg116
 z22:=Tryz.sizeOf116
 v22:=Tryz.zeroValue116
 t23:=Tryz.underlying118
 a23:=Tryz.isAgg118
 z23:=Tryz.sizeOf118
 v23:=Tryz.zeroValue118
 t44:=Tryz.underlying229
 a44:=Tryz.isAgg229
 z44:=Tryz.sizeOf229
 v44:=Tryz.zeroValue229
 t51:=Tryz.underlying170
 a51:=Tryz.isAgg170
 z51:=Tryz.sizeOf170
 v51:=Tryz.zeroValue170
 t60:=Tryz.underlying223
 a60:=Tryz.isAgg223
 z60:=Tryz.sizeOf223
 v60:=Tryz.zeroValue223
 t61:=Tryz.underlying224
 a61:=Tryz.isAgg224
 z61:=Tryz.sizeOf224
 v61:=Tryz.zeroValue224
 t67:=Tryz.underlying25
 a67:=Tryz.isAgg25
 z67:=Tryz.sizeOf25
 v67:=Tryz.zeroValue25
 t69:=Tryz.underlying24
 a69:=Tryz.isAgg24
 z69:=Tryz.sizeOf24
 v69:=Tryz.zeroValue24
 t75:=Tryz.underlying256
 a75:=Tryz.isAgg256
 z75:=Tryz.sizeOf256
 v75:=Tryz.zeroValue256
 t79:=Tryz.underlying260
 a79:=Tryz.isAgg260
 z79:=Tryz.sizeOf260
 v79:=Tryz.zeroValue260
 t83:=Tryz.underlying290
 a83:=Tryz.isAgg290
 z83:=Tryz.sizeOf290
 v83:=Tryz.zeroValue290
 t84:=Tryz.underlying77
 a84:=Tryz.isAgg77
 z84:=Tryz.sizeOf77
 v84:=Tryz.zeroValue77 }
end Go.Proofs
end
namespace Go.Proofs.YtbninnkpjdofbaaGreatDoor
open Go.Lib (hid)
end Go.Proofs.YtbninnkpjdofbaaGreatDoor
