/-
  What the proof of EventReads stands on, part 9.
-/
import Derived.Deep.CutRange
import Derived.Laws.OwnMore
import Derived.Lib.QuietBelow
import Derived.Shelf.SlSortCmp.NoneTotal
import Derived.Shelf.SlSortFuncK.ComposeK
import Derived.Shelf.Slices.CompactS
import Derived.Sort.OwnSorted
import Derived.Test.YtbninnkpjdofbaaGreatDoorT08
set_option linter.unusedSimpArgs false
set_option linter.unusedVariables false
set_option maxHeartbeats 16000000
namespace Go.Proofs.YtbninnkpjdofbaaGreatDoor
open Go.Lib (hid)
section
namespace SpanM
open VerM
structure Ed where
 v:Ver
 s:Nat
structure St where
 f:Ed
 t:Ed
def zeroV:Ver:=⟨0,0,0,[]⟩
theorem zho:may zeroV=true:=by rfl
def wfE(e:Ed):Prop:=may e.v=true∧e.s≤2∧(e.s=2→e.v=zeroV)
def late(e:Ed):Nat:=if e.s=2 then 1 else 0
def cE:Ed→Ed→Int:=lex (fun a b=>cmpN (late a) (late b)) (lex (fun a b=>cmpV a.v b.v) (fun a b=>cmpN a.s b.s))
theorem zhp:Pre cE:=(zau.key late).lex ((zbh.key Ed.v).lex (zau.key Ed.s))
theorem zhq{a b:Ed}(h:cE a b=0):a=b:=by
 have h2:=(zaz h).2;have e1:=zbi (zaz h2).1;have e2:=zav (zaz h2).2;cases a;cases b;simp_all
theorem zhr(a:Ed):cE a a=0:=by have:=zhp.anti a a;omega
theorem zhs(a b:Ed):cE a b= - cE b a:=zhp.anti a b
theorem le_trans{a b c:Ed}(h1:cE a b≤0)(h2:cE b c≤0):cE a c≤0:=zhp.trans a b c h1 h2
theorem lt_le{a b c:Ed}(h1:cE a b<0)(h2:cE b c≤0):cE a c<0:=by
 have h3:=le_trans (show cE a b≤0 by omega) h2;rcases Int.lt_or_eq_of_le h3 with h|h
 · exact h
 · have e:=zhq h
   subst e;have:=zhs a b
   omega
theorem le_lt{a b c:Ed}(h1:cE a b≤0)(h2:cE b c<0):cE a c<0:=by
 have h3:=le_trans h1 (show cE b c≤0 by omega);rcases Int.lt_or_eq_of_le h3 with h|h
 · exact h
 · have e:=zhq h
   subst e;have:=zhs a b
   omega
theorem cE_is{a b:Ed}(ha:wfE a)(hb:wfE b):cE a b=if a.s=2∨b.s=2 then cmpN a.s b.s else if cmpV a.v b.v≠0 then cmpV a.v b.v else cmpN a.s b.s:=by
 have a2:=ha.2.1;have b2:=hb.2.1;unfold cE VerM.lex late;by_cases h1:a.s=2<;>by_cases h2:b.s=2
 · have e:cmpV a.v b.v=0:=by rw[ha.2.2 h1,hb.2.2 h2,zbj]
   simp[h1,h2,cmpN,e]
 · have:b.s<2:=by omega
   simp[h1,h2,cmpN,this];omega
 · have:a.s<2:=by omega
   simp[h1,h2,cmpN,this]
 · simp only[h1,h2,if_false,or_self,ne_eq]
   rw[if_neg (by simp[cmpN])]
def inS(e:Ed)(s:St):Prop:=cE s.f e≤0∧cE e s.t<0
def inL(e:Ed)(l:List St):Prop:=∃s,s∈l∧inS e s
theorem zht{e:Ed}{s:St}(h:inS e s):cE s.f s.t<0:=le_lt h.1 h.2
theorem zhu{s:St}(h:cE s.f s.t<0):inS s.f s:=⟨by rw[zhr];exact Int.le_refl _,h⟩
theorem zhv(e:Ed):¬inL e []:=fun⟨_,h,_⟩=>by cases h
theorem zhw{e:Ed}{s:St}{l:List St}:inL e (s :: l)↔inS e s∨inL e l:=by
 constructor
 · rintro⟨x,hx,hi⟩
   rcases List.mem_cons.1 hx with h|h
   · exact .inl (h ▸ hi)
   · exact .inr ⟨x,h,hi⟩
 · rintro(h|⟨x,hx,hi⟩)
   · exact⟨s,List.mem_cons_self,h⟩
   · exact⟨x,List.mem_cons_of_mem _ hx,hi⟩
theorem zhx{e:Ed}{a b:List St}:inL e (a++b)↔inL e a∨inL e b:=by
 constructor
 · rintro⟨x,hx,hi⟩
   rcases List.mem_append.1 hx with h|h
   · exact .inl ⟨x,h,hi⟩
   · exact .inr ⟨x,h,hi⟩
 · rintro(⟨x,hx,hi⟩|⟨x,hx,hi⟩)
   · exact⟨x,List.mem_append_left _ hx,hi⟩
   · exact⟨x,List.mem_append_right _ hx,hi⟩
theorem zhy{e:Ed}{s:St}:inL e [s]↔inS e s:=by rw[zhw];exact or_iff_left (zhv e)
def Can(l:List St):Prop:=(∀s∈l,cE s.f s.t<0)∧l.Pairwise (fun a b=>cE a.t b.f<0)
theorem Can.nil:Can []:=⟨fun s h=>(by cases h),List.Pairwise.nil⟩
theorem Can.tail{s:St}{l:List St}(h:Can (s :: l)):Can l:=⟨fun x hx=>h.1 x (List.mem_cons_of_mem _ hx),(List.pairwise_cons.1 h.2).2⟩
theorem Can.first{s:St}{l:List St}(h:Can (s :: l)){e:Ed}(he:inL e l):cE s.t e<0:=by
 obtain⟨x,hx,hi⟩:=he;exact lt_le ((List.pairwise_cons.1 h.2).1 x hx) hi.1
theorem Can.least{s:St}{l:List St}(h:Can (s :: l)){e:Ed}(he:inL e (s :: l)):cE s.f e≤0:=by
 rcases zhw.1 he with hi|hi
 · exact hi.1
 · have h1:=h.first hi
   have h2:=h.1 s List.mem_cons_self;have:=lt_le h2 (show cE s.t e≤0 by omega)
   omega
theorem Can.ext:∀{a b:List St},Can a→Can b→(∀e,inL e a↔inL e b)→a=b
 | [],[],_,_,_=>rfl
 | [],y :: b,_,hb,h=>absurd ((h y.f).2 (zhw.2 (.inl (zhu (hb.1 y List.mem_cons_self))))) (zhv _)
 | x :: a,[],ha,_,h=>absurd ((h x.f).1 (zhw.2 (.inl (zhu (ha.1 x List.mem_cons_self))))) (zhv _)
 | x :: a,y :: b,ha,hb,h=>by
   have hx:=ha.1 x List.mem_cons_self;have hy:=hb.1 y List.mem_cons_self
   have e1:x.f=y.f:=by
    have h1:=hb.least ((h x.f).1 (zhw.2 (.inl (zhu hx))));have h2:=ha.least ((h y.f).2 (zhw.2 (.inl (zhu hy))));have:=zhs x.f y.f
    exact zhq (by omega)
   have noX:¬inL x.t (x :: a):=fun hi=>by
    rcases zhw.1 hi with hi|hi
    · have:=hi.2;rw[zhr] at this;omega
    · have:=ha.first hi;rw[zhr] at this;omega
   have noY:¬inL y.t (y :: b):=fun hi=>by
    rcases zhw.1 hi with hi|hi
    · have:=hi.2;rw[zhr] at this;omega
    · have:=hb.first hi;rw[zhr] at this;omega
   have e2:x.t=y.t:=by
    by_cases h1:cE x.t y.t<0
    · exact absurd ((h x.t).2 (zhw.2 (.inl ⟨by rw[←e1];omega,h1⟩))) noX
    · by_cases h2:cE y.t x.t<0
      · exact absurd ((h y.t).1 (zhw.2 (.inl ⟨by rw[e1];omega,h2⟩))) noY
      · have:=zhs x.t y.t
        exact zhq (by omega)
   have e:x=y:=by cases x;cases y;simp_all
   subst e
   have ht:a=b:=Can.ext ha.tail hb.tail fun e=>by
    constructor
    · intro hi
      have h1:=ha.first hi;rcases zhw.1 ((h e).1 (zhw.2 (.inr hi))) with h2|h2
      · have:=h2.2;have:=zhs x.t e;omega
      · exact h2
    · intro hi
      have h1:=hb.first hi;rcases zhw.1 ((h e).2 (zhw.2 (.inr hi))) with h2|h2
      · have:=h2.2;have:=zhs x.t e;omega
      · exact h2
   rw[ht]
def meetS(s t:St):St:=⟨if cE s.f t.f<0 then t.f else s.f,if 0<cE s.t t.t then t.t else s.t⟩
theorem zhz{e:Ed}{s t:St}:inS e (meetS s t)↔inS e s∧inS e t:=by
 unfold inS meetS;have a1:=zhs s.f t.f;have a2:=zhs s.t t.t
 constructor
 · rintro⟨h1,h2⟩
   dsimp only at h1 h2
   refine⟨⟨?_,?_⟩,?_,?_⟩
   · split at h1
     · exact le_trans (by omega) h1
     · exact h1
   · split at h2
     · exact lt_le h2 (by omega)
     · exact h2
   · split at h1
     · exact h1
     · exact le_trans (by omega) h1
   · split at h2
     · exact h2
     · exact lt_le h2 (by omega)
 · rintro⟨⟨h1,h2⟩,h3,h4⟩
   dsimp only
   refine⟨?_,?_⟩
   · split<;>assumption
   · split<;>assumption
def meets(a b:List St):List St:=a.flatMap fun s=>b.map fun t=>meetS s t
theorem zia{e:Ed}{a b:List St}:inL e (meets a b)↔inL e a∧inL e b:=by
 unfold meets inL
 constructor
 · rintro⟨x,hx,hi⟩
   obtain⟨s,hs,hx⟩:=List.mem_flatMap.1 hx;obtain⟨t,ht,rfl⟩:=List.mem_map.1 hx;obtain⟨h1,h2⟩:=zhz.1 hi;exact⟨⟨s,hs,h1⟩,t,ht,h2⟩
 · rintro⟨⟨s,hs,h1⟩,t,ht,h2⟩
   exact⟨meetS s t,List.mem_flatMap.2 ⟨s,hs,List.mem_map.2 ⟨t,ht,rfl⟩⟩,zhz.2 ⟨h1,h2⟩⟩
structure PutI (D:List St) (i:Nat) (A:List St):Prop where
 le:i≤D.length
 can:Can A
 set:∀e,inL e A↔inL e (D.take i)
 low:∀x∈A,∃d∈D.take i,x.f=d.f
theorem PutI.start(D:List St):PutI D 0 []:=⟨Nat.zero_le _,Can.nil,fun e=>by simp,fun x h=>by cases h⟩
def Rises(D:List St):Prop:=D.Pairwise (fun a b=>cE a.f b.f≤0)∧∀s∈D,cE s.f s.t<0
theorem zib{D:List St}{i:Nat}{s:St}(h:D[i]?=some s):D.take (i+1)=D.take i++ [s]:=by rw[List.take_add_one,h];rfl
theorem Rises.upto{D:List St}(h:Rises D){i:Nat}{s:St}(hs:D[i]?=some s):∀d∈D.take i,cE d.f s.f≤0:=by
 intro d hd;obtain⟨hi,e⟩:=List.getElem?_eq_some_iff.1 hs;obtain⟨j,hj,ej⟩:=List.getElem_of_mem hd;rw[List.length_take] at hj;rw[List.getElem_take] at ej;rw[←ej,←e];exact List.pairwise_iff_getElem.1 h.1 j i (by omega) hi (by omega)
theorem PutI.low'{D A:List St}{i:Nat}{s:St}(h:PutI D i A)(hD:Rises D)(hs:D[i]?=some s):∀x∈A,cE x.f s.f≤0:=by
 intro x hx;obtain⟨d,hd,e⟩:=h.low x hx;rw[e];exact hD.upto hs d hd
theorem PutI.ne{D:List St}(hD:Rises D){i:Nat}{s:St}(hs:D[i]?=some s):cE s.f s.t<0:=hD.2 s (List.mem_of_getElem? hs)
theorem PutI.more{D A:List St}{i:Nat}{s:St}(h:PutI D i A)(hD:Rises D)(hs:D[i]?=some s)(ha:∀x∈A,cE x.t s.f<0):PutI D (i+1) (A++ [s]):=by
 have hi:=(List.getElem?_eq_some_iff.1 hs).1;refine⟨hi,⟨fun x hx=>?_,?_⟩,fun e=>?_,fun x hx=>?_⟩
 · rcases List.mem_append.1 hx with hx|hx
   · exact h.can.1 x hx
   · rw[List.mem_singleton.1 hx];exact PutI.ne hD hs
 · rw[List.pairwise_append]
   exact⟨h.can.2,List.pairwise_singleton _ _,fun a ha' b hb=>by rw[List.mem_singleton.1 hb];exact ha a ha'⟩
 · rw[zhx,zib hs,zhx,h.set]
 · rw[zib hs]
   rcases List.mem_append.1 hx with hx|hx
   · obtain⟨d,hd,e⟩:=h.low x hx
     exact⟨d,List.mem_append_left _ hd,e⟩
   · exact⟨s,List.mem_append_right _ List.mem_cons_self,by rw[List.mem_singleton.1 hx]⟩
theorem Can.init{A:List St}{x:St}(h:Can (A++ [x])):Can A∧cE x.f x.t<0∧∀a∈A,cE a.t x.f<0:=by
 have h2:=List.pairwise_append.1 h.2;exact⟨⟨fun s hs=>h.1 s (List.mem_append_left _ hs),h2.1⟩,h.1 x (List.mem_append_right _ List.mem_cons_self),fun a ha=>h2.2.2 a ha x List.mem_cons_self⟩
theorem Can.ends{A:List St}{x:St}(h:Can (A++ [x])){e:Ed}(he:cE x.t e<0):∀a∈A++ [x],cE a.t e<0:=by
 obtain⟨_,h1,h2⟩:=h.init;intro a ha;rcases List.mem_append.1 ha with ha|ha
 · exact lt_le (h2 a ha) (by have:=lt_le h1 (show cE x.t e≤0 by omega);omega)
 · rw[List.mem_singleton.1 ha];exact he
theorem PutI.wide{D A:List St}{i:Nat}{s x:St}(h:PutI D i (A++ [x]))(hD:Rises D)(hs:D[i]?=some s)(h1:cE s.f x.t≤0)(h2:cE x.t s.t<0):PutI D (i+1) (A++ [⟨x.f,s.t⟩]):=by
 have hi:=(List.getElem?_eq_some_iff.1 hs).1;obtain⟨c1,c2,c3⟩:=h.can.init;have hl:=h.low' hD hs x (List.mem_append_right _ List.mem_cons_self);refine⟨hi,⟨fun y hy=>?_,?_⟩,fun e=>?_,fun y hy=>?_⟩
 · rcases List.mem_append.1 hy with hy|hy
   · exact c1.1 y hy
   · rw[List.mem_singleton.1 hy];exact lt_le c2 (show cE x.t s.t≤0 by omega)
 · rw[List.pairwise_append]
   exact⟨c1.2,List.pairwise_singleton _ _,fun a ha b hb=>by rw[List.mem_singleton.1 hb];exact c3 a ha⟩
 · have hset:=h.set e
   rw[zhx,zhy] at hset;rw[zhx,zhy,zib hs,zhx,zhy,←hset,or_assoc];refine or_congr_right ?_
   constructor
   · rintro⟨g1,g2⟩
     by_cases hx:cE e x.t<0
     · exact .inl ⟨g1,hx⟩
     · exact .inr ⟨le_trans h1 (by have:=zhs e x.t;omega),g2⟩
   · rintro(⟨g1,g2⟩|⟨g1,g2⟩)
     · exact⟨g1,by have:=lt_le g2 (show cE x.t s.t≤0 by omega);omega⟩
     · exact⟨le_trans hl g1,g2⟩
 · rw[zib hs]
   rcases List.mem_append.1 hy with hy|hy
   · obtain⟨d,hd,e⟩:=h.low y (List.mem_append_left _ hy)
     exact⟨d,List.mem_append_left _ hd,e⟩
   · obtain⟨d,hd,e⟩:=h.low x (List.mem_append_right _ List.mem_cons_self)
     exact⟨d,List.mem_append_left _ hd,by rw[List.mem_singleton.1 hy];exact e⟩
theorem PutI.skip{D A:List St}{i:Nat}{s x:St}(h:PutI D i (A++ [x]))(hD:Rises D)(hs:D[i]?=some s)(h2:cE s.t x.t≤0):PutI D (i+1) (A++ [x]):=by
 have hi:=(List.getElem?_eq_some_iff.1 hs).1;have hl:=h.low' hD hs x (List.mem_append_right _ List.mem_cons_self);refine⟨hi,h.can,fun e=>?_,fun y hy=>?_⟩
 · have hset:=h.set e
   rw[zib hs,zhx (a:=D.take i),zhy,←hset];refine⟨.inl,fun hh=>?_⟩;rcases hh with hh|⟨g1,g2⟩
   · exact hh
   · rw[zhx,zhy]
     exact .inr ⟨le_trans hl g1,lt_le g2 h2⟩
 · obtain⟨d,hd,e⟩:=h.low y hy
   rw[zib hs];exact⟨d,List.mem_append_left _ hd,e⟩
def sorted(l:List St):List St:=(l.filter fun s=>decide (cE s.f s.t<0)).mergeSort fun a b=>decide (cE a.f b.f≤0)
def put(A:List St)(s:St):List St:=match A.getLast? with
 | none=>[s]
 | some x=>if cE x.t s.f<0 then A++ [s] else if cE x.t s.t<0 then A.dropLast++ [⟨x.f,s.t⟩] else A
def formM(l:List St):List St:=(sorted l).foldl put []
theorem zic{l:List St}(s:St):s∈sorted l↔s∈l∧cE s.f s.t<0:=by
 unfold sorted;rw[(List.mergeSort_perm _ _).mem_iff,List.mem_filter,decide_eq_true_eq]
theorem zid(l:List St):Rises (sorted l):=by
 refine⟨?_,fun s hs=>((zic s).1 hs).2⟩;refine List.Pairwise.imp (fun h=>by simpa using h) (List.pairwise_mergeSort (le:=fun a b:St=>decide (cE a.f b.f≤0)) ?_ ?_ _)
 · intro a b c h1 h2
   simp only[decide_eq_true_eq] at*;exact le_trans h1 h2
 · intro a b
   simp only[Bool.or_eq_true,decide_eq_true_eq];have:=zhs a.f b.f
   omega
theorem zie{l:List St}(e:Ed):inL e (sorted l)↔inL e l:=by
 constructor
 · rintro⟨s,hs,hi⟩
   exact⟨s,((zic s).1 hs).1,hi⟩
 · rintro⟨s,hs,hi⟩
   exact⟨s,(zic s).2 ⟨hs,zht hi⟩,hi⟩
theorem PutI.put{D A:List St}{i:Nat}{s:St}(h:PutI D i A)(hD:Rises D)(hs:D[i]?=some s):PutI D (i+1) (SpanM.put A s):=by
 unfold SpanM.put
 split
 · rename_i e
   rw[List.getLast?_eq_none_iff] at e;subst e;exact h.more hD hs fun x hx=>by cases hx
 · rename_i x e
   obtain⟨A',rfl⟩:=List.getLast?_eq_some_iff.1 e
   split
   · rename_i h1
     exact h.more hD hs (h.can.ends h1)
   · rename_i h1
     have:=zhs x.t s.f
     split
     · rename_i h2
       rw[List.dropLast_concat];exact h.wide hD hs (by omega) h2
     · rename_i h2
       have:=zhs x.t s.t
       exact h.skip hD hs (by omega)
theorem PutI.all{D:List St}(hD:Rises D):∀i,i≤D.length→PutI D i ((D.take i).foldl SpanM.put [])
 | 0,_=>PutI.start D
 | i+1,h=>by
   have hs:D[i]?=some D[i]:=List.getElem?_eq_getElem (by omega);rw[zib hs,List.foldl_append];exact(PutI.all hD i (by omega)).put hD hs
theorem zif(l:List St):Can (formM l)∧∀e,inL e (formM l)↔inL e l:=by
 have h:=PutI.all (zid l) (sorted l).length (Nat.le_refl _);rw[List.take_length] at h;refine⟨h.can,fun e=>?_⟩;have:=h.set e
 rw[List.take_length,zie] at this;exact this
theorem zig{l R:List St}(h1:Can R)(h2:∀e,inL e R↔inL e l):R=formM l:=Can.ext h1 (zif l).1 fun e=>(h2 e).trans ((zif l).2 e).symm
theorem zih{l:List St}(h:Can l):formM l=l:=(zig h fun _=>Iff.rfl).symm
theorem zii{a b:List St}(h:∀e,inL e a↔inL e b):formM a=formM b:=zig (zif a).1 fun e=>((zif a).2 e).trans (h e)
end SpanM
end
section
open Go.RowKit
namespace VerC
open VerM StrC TextR
def encT(l:B):Value:=.string (str l)
theorem info_text:(Tryz.prog.info? 9).map (fun i=>(i.zero,i.size,i.bytes))=some (some (.string ⟨#[]⟩),1,16):=by kernel_rfl
def OwnS(w:World)(B:Nat)(v:Value)(l:TL):Prop:=w.ownsRow B 9 1 v l.length (l.map encT)
theorem OwnS.nil(w:World)(B:Nat):OwnS w B (.slice none 0 0) []:=World.ownsRow_nil _ _ _ _
theorem zij{w w':World}(h:Below w.heap.size w w'):w.grownBy w' none:=⟨h.os,h.tape,h.output,h.size,fun k hk _=>h.block k hk⟩
theorem OwnS.below{w w':World}{B:Nat}{v:Value}{l:TL}(h:OwnS w B v l)(hb:Below w.heap.size w w'):OwnS w' B v l:=World.ownsRow.kept h (zij hb) (Classical.em _)
theorem snocS{w:World}{B n:Nat}{v:Value}{l:TL}{s:List UInt8}(h:w.ownsRow B 9 1 v (n+1) (l.map encT++ [encT s]))(hn:n=l.length):OwnS w B v (l++ [s]):=by
 unfold OwnS;rw[List.map_append,List.map_singleton,List.length_append,List.length_singleton,←hn];exact h
theorem OwnS.open_{w:World}{B:Nat}{v:Value}{l:TL}(h:OwnS w B v l)(hp:0<l.length):∃g cp,v= .slice (some ⟨g,0,none⟩) l.length cp∧B≤g∧g<w.heap.size∧l.length≤cp∧cp≤maxLen∧
 (∀i,i<l.length→w.cell? ⟨g,i,none⟩=some (.string (str (l.getD i []))))∧(∀i,w.frozen? ⟨g,i,none⟩=false):=by
 have h':w.ownsRow B 9 1 v l.length (l.map encT):=h;have hlt:=h'.lt;have h0:=h';obtain⟨_,⟨rfl,h1⟩|⟨g,cp,cur,rfl,hg0,hblk,hle,hcm,hsz,htk⟩⟩:=h'
 · omega
 · refine⟨g,cp,rfl,hg0,(hlt g rfl).2,hle,hcm,fun i hi=>?_,fun i=>h0.frozenAt i⟩
   rw[h0.cellAt i (by omega)];simp[hi];rfl
theorem take_next{F:TL}{i:Nat}(hlt:i<F.length):F.take (i+1)=F.take i++ [F.getD i []]:=by rw[List.take_add_one];simp[hlt]
end VerC
end
section

end
section
open Go.RowKit
namespace VerC
open VerM StrC TextR Go.Sort Go.Shelf
structure TD (w:World) (blk:Nat) where
 s:B
 v:Ver
 a:Option Addr
 c:Nat
 read:readB s=some v
 txs:Txs w a c v.pre
 far:∀b o,a=some ⟨b,o,none⟩→b≠blk
instance (w:World) (blk:Nat):Inhabited (TD w blk):=⟨⟨[48,46,48,46,48],⟨0,0,0,[]⟩,none,0,by rfl,Txs.nil _ _ _,fun b o h=>by cases h⟩⟩
end VerC
end
section
namespace RowKC
open Go Go.Sort
theorem zik{α:Type}[Inhabited α](enc:α→List Value)(k:Nat)(hk:∀x,(enc x).length=k):∀(l:List α) (j:Nat),j<l.length*k→(l.flatMap enc)[j]?=some ((enc l[j / k]!)[j % k]!)
 | [],j,h=>by simp at h
 | x :: l,j,h=>by
   have k0:0<k:=by
    rcases Nat.eq_zero_or_pos k with e|e
    · subst e;simp at h
    · exact e
   rw[List.flatMap_cons];by_cases hj:j<k
   · rw[List.getElem?_append_left (by rw[hk];exact hj),Nat.div_eq_of_lt hj,Nat.mod_eq_of_lt hj]
     simp[hk,hj]
   · rw[List.length_cons,Nat.add_mul,Nat.one_mul] at h
     rw[List.getElem?_append_right (by rw[hk];omega),hk,zik enc k hk l (j-k) (by omega),Nat.mod_eq_sub_mod (a:=j) (b:=k) (by omega),Nat.div_eq_sub_div (a:=j) (b:=k) k0 (by omega)];simp
theorem zil{α:Type}(enc:α→List Value)(k:Nat)(hk:∀x,(enc x).length=k):∀(l:List α),(l.flatMap enc).length=l.length*k
 | []=>by simp
 | x :: l=>by rw[List.flatMap_cons,List.length_append,hk,zil enc k hk l,List.length_cons,Nat.add_mul,Nat.one_mul,Nat.add_comm]
theorem zim{α:Type}[Inhabited α](d:Array α)(i:Nat):d.toList[i]! =d[i]! :=by
 by_cases h:i<d.size
 · rw[getElem!_pos d i h,getElem!_pos d.toList i (by simpa using h)];simp
 · rw[getElem!_neg d i h,getElem!_neg d.toList i (by simpa using h)]
theorem zin{α:Type}[Inhabited α](enc:α→List Value)(k:Nat)(hk:∀x,(enc x).length=k)(d:Array α):(flatK enc k d).toList=d.toList.flatMap enc:=by
 apply List.ext_getElem?
 intro j;by_cases hj:j<d.size*k
 · rw[zik enc k hk d.toList j (by simpa using hj),Array.getElem?_toList,Array.getElem?_eq_getElem (by simpa using hj)]
   have:=get_flatK enc k d j hj
   rw[getElem!_pos _ j (by simpa using hj)] at this;rw[this,zim d (j / k)]
 · rw[List.getElem?_eq_none (by simpa using hj),List.getElem?_eq_none (by rw[zil enc k hk];simpa using hj)]
theorem zio{α:Type}[Inhabited α](enc:α→List Value)(k:Nat)(hk:∀x,(enc x).length=k){w:World}{base g cap:Nat}{e:TypeId}{d:Array α}(h:w.ownsRow base e k (.slice (some ⟨g,0,none⟩) d.size cap) d.size (d.toList.flatMap enc)):HoldsK enc k w g 0 d:=by
 intro j hj;have hj':j<d.size*k:=by simpa using hj
 refine⟨?_,by rw[Nat.zero_add];exact h.frozenAt j⟩;rw[Nat.zero_add,h.cellAt j hj',zik enc k hk d.toList j (by simpa using hj'),get_flatK enc k d j hj',zim d (j / k)]
 rfl
theorem zip{w:World}{g n:Nat}{os:Array Obj}{cur:Array Value}{e:TypeId}{fr:Nat×Nat}(F:Array Value)(hb:w.heap[g]?=some (.cells cur e fr)):
 (grow (putRow id (Sort.ahead w n) g 0 F) os).heap[g]?=some (.cells (putCells id 0 F cur) e fr):=by
 have hg:g<w.heap.size:=(Array.getElem?_eq_some_iff.1 hb).1;rw[heap_grow_old _ _ (by simpa using hg)];simp[putRow,mapBlock,Sort.ahead,Array.getElem?_modify,hb,onCells]
theorem ziq{α:Type}[Inhabited α](enc:α→List Value)(k:Nat){w:World}{g n:Nat}{os:Array Obj}(d:Array α):w.grownBy (sortWorldK enc k w g 0 n d os) (some g):=by
 unfold sortWorldK putRowK;refine⟨rfl,rfl,rfl,by simp,fun k hk hne=>?_⟩;rw[heap_grow_old _ _ (by simpa using hk)];have:g≠k:=fun e=>hne (by rw[e])
 simp[putRow,mapBlock,Sort.ahead,Array.getElem?_modify,this]
theorem zir(cur F:Array Value)(h:F.size≤cur.size):(putCells id 0 F cur).toList.take F.size=F.toList:=by
 apply List.ext_getElem?
 intro j;by_cases hj:j<F.size
 · rw[List.getElem?_take_of_lt hj,Array.getElem?_toList,Array.getElem?_toList]
   simp[putCells,hj,show j<cur.size by omega]
 · rw[List.getElem?_take_eq_none (by omega),List.getElem?_eq_none (by simp;omega)]
theorem zis{α:Type}[Inhabited α](enc:α→List Value)(k:Nat)(hk:∀x,(enc x).length=k){w:World}{base g cap n m:Nat}{e:TypeId}{xs:List Value}{os:Array Obj}{d:Array α}(hm:d.size=m)(h:w.ownsRow base e k (.slice (some ⟨g,0,none⟩) m cap) m xs):
 (sortWorldK enc k w g 0 n d os).ownsRow base e k (.slice (some ⟨g,0,none⟩) m cap) m (d.toList.flatMap enc):=by
 subst hm;rcases h.2 with ⟨h0,_⟩|⟨g',cap',cur,e1,hbase,hb,h1,h2,h3,h4⟩
 · cases h0
 simp only[Value.slice.injEq,Option.some.injEq,Addr.mk.injEq,and_true,true_and] at e1;obtain⟨rfl,rfl⟩:=e1;refine⟨by rw[zil enc k hk];simp,.inr ⟨g,cap,_,rfl,hbase,zip _ hb,h1,h2,by simp[putCells,h3],?_⟩⟩;rw[←zin enc k hk,←size_flatK enc k d];exact zir cur _ (by rw[size_flatK,h3];exact Nat.mul_le_mul_right _ h1)
end RowKC
end
end Go.Proofs.YtbninnkpjdofbaaGreatDoor
