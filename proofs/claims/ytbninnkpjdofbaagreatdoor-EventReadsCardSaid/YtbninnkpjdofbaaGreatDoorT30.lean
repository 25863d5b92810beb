/-
  What the proof of EventReads stands on, part 30.
-/
import Derived.Test.YtbninnkpjdofbaaGreatDoorT29
set_option linter.unusedSimpArgs false
set_option linter.unusedVariables false
set_option maxHeartbeats 16000000
namespace Go.Proofs.YtbninnkpjdofbaaGreatDoor
open Go.Lib (hid)
section
open Go.RowKit Go.Sort
namespace EvA
open StrC EvF EvC TextR CodeM CodeC
def ndsR(s:ByteArray):Nat→Nat→List (B×B)→List (B×B)×Nat×Nat×Nat
 | 0,k,P=>(P,0,0,k)
 | n+1,k,P=>
   let a:=tRes 65536 k s
   if a.2.2.1≠0 then (P,a.2.2.1,a.2.2.2.1,a.2.2.2.2) else
   let b:=tRes 65536 a.2.2.2.2 s
   if b.2.2.1≠0 then (P,b.2.2.1,b.2.2.2.1,b.2.2.2.2) else ndsR s n b.2.2.2.2 (P++ [(cutB s a.1 a.2.1,cutB s b.1 b.2.1)])
def ybh(s:ByteArray)(k:Nat):List (B×B)×Nat×Nat×Nat:=
 let u:=uRes 64 k (s.data.toList.drop k)
 if u.2.1≠0 then ([],u.2.1,u.2.2.1,u.2.2.2) else ndsR s u.1 u.2.2.2 []
abbrev xL(e:EvG)(v:Value):List Value:=[.int .u8 e.k,.string (str e.who),.string (str e.name),.string (str e.ver),v,.int .u64 e.sum,.int .u32 e.n,.int .u32 e.size,.string (str e.holder),.string (str e.note)]
abbrev xO(e:EvG)(v:Value):Obj:=.cells (xL e v).toArray 27
theorem ybi{w:World}{p:Nat}{e:EvG}{v:Value}(h:w.heap[p]?=some (xO e v)):w.cell? ⟨p,0,none⟩=some (.int .u8 e.k)∧w.cell? ⟨p,1,none⟩=some (.string (str e.who))∧w.cell? ⟨p,2,none⟩=some (.string (str e.name))∧w.cell? ⟨p,3,none⟩=some (.string (str e.ver))∧w.cell? ⟨p,4,none⟩=some v∧w.cell? ⟨p,5,none⟩=some (.int .u64 e.sum)∧w.cell? ⟨p,6,none⟩=some (.int .u32 e.n)∧w.cell? ⟨p,7,none⟩=some (.int .u32 e.size)∧w.cell? ⟨p,8,none⟩=some (.string (str e.holder))∧w.cell? ⟨p,9,none⟩=some (.string (str e.note)):=by
 refine⟨?_,?_,?_,?_,?_,?_,?_,?_,?_,?_⟩<;>simp[World.cell?,h]
theorem ybj(a b:B):∀u∈needL (a,b),u.oneCell'=true:=by
 intro u hu;simp only[List.mem_cons,List.not_mem_nil,or_false] at hu;rcases hu with rfl|rfl<;>rfl
theorem ybk:(Tryz.prog.info? 81).map (fun i=>(i.zero,i.size,i.bytes))=some (some (.agg #[.string ⟨#[]⟩,.string ⟨#[]⟩]),2,32):=by kernel_rfl
structure NdI (w wr:World) (e:EvG) (b o:Nat) (s:ByteArray) (k:Nat) (v:Value) (P:List (B×B)):Prop where
 row:wr.heap[w.heap.size]?=some (xO e v)
 res:wr.heap[w.heap.size+1]?=some zO9
 own:wr.ownsRow (w.heap.size+2) 81 2 v P.length (P.flatMap needL)
 ref:IsRef wr b o s k
 os:wr.os=w.os
 tape:wr.tape=w.tape
 out:wr.output=w.output
 size:w.heap.size+2≤wr.heap.size
 block:∀j,j<w.heap.size→j≠b→wr.heap[j]?=w.heap[j]?
theorem NdI.own_one{w wr:World}{e:EvG}{b o k:Nat}{s:ByteArray}{v:Value}{P:List (B×B)}(h:NdI w wr e b o s k v P):v.oneCell'=true:=by
 rcases h.own.2 with ⟨h1,-⟩|⟨g,cap,cur,e1,-⟩
 · rw[h1];rfl
 · rw[e1];rfl
theorem NdI.only{w wr w2:World}{e:EvG}{b o k k2:Nat}{s:ByteArray}{v:Value}{P:List (B×B)}(h:NdI w wr e b o s k v P)(hb:b<w.heap.size)(hr:IsRef w2 b o s k2)(ho:Only b wr w2):NdI w w2 e b o s k2 v P:=by
 refine⟨(ho.block _ (by omega)).trans h.row,(ho.block _ (by omega)).trans h.res,?_,hr,ho.os.trans h.os,ho.tape.trans h.tape,ho.output.trans h.out,by rw[ho.size];exact h.size,fun j hj hne=>(ho.block j hne).trans (h.block j hj hne)⟩;obtain⟨h1,h2|⟨g,cap,cur,e1,h3,h4,h5⟩⟩:=h.own
 · exact⟨h1,.inl h2⟩
 · exact⟨h1,.inr ⟨g,cap,cur,e1,h3,(ho.block g (by omega)).trans h4,h5⟩⟩
theorem x_one{e:EvG}{v:Value}(hv:v.oneCell'=true):((xL e v).toArray.all (·.oneCell'))=true:=by
 simp[Value.oneCell'];exact hv
def NdsE(e:EvG)(b o:Nat)(s:ByteArray)(k:Nat)(w:World)(r:Ending)(w':World):Prop:=∃v,r= .returned (.tuple #[.agg (xL e v).toArray,.int .i64 (ybh s k).2.1,.int .i64 (ybh s k).2.2.1])∧w'.ownsRow w.heap.size 81 2 v (ybh s k).1.length ((ybh s k).1.flatMap needL)∧IsRef w' b o s (ybh s k).2.2.2∧
 (w'.os=w.os∧w'.tape=w.tape∧w'.output=w.output∧w.heap.size≤w'.heap.size∧∀j,j<w.heap.size→j≠b→w'.heap[j]?=w.heap[j]?)
theorem ybl{w:World}{D:Nat}{v:Value}{n:Nat}{xs:List Value}(h:w.ownsRow D 81 2 v n xs):∃a m c,v= .slice a m c:=by
 rcases h.2 with ⟨h1,-⟩|⟨g,cap,cur,e1,-⟩
 · exact⟨_,_,_,h1⟩
 · exact⟨_,_,_,e1⟩
theorem ybm{w w':World}{D:Nat}{v:Value}{n:Nat}{xs:List Value}(h:w.ownsRow D 81 2 v n xs)(hb:∀j,D≤j→w'.heap[j]?=w.heap[j]?):w'.ownsRow D 81 2 v n xs:=by
 obtain⟨h1,h2|⟨g,cap,cur,e1,h3,h4,h5⟩⟩:=h
 · exact⟨h1,.inl h2⟩
 · exact⟨h1,.inr ⟨g,cap,cur,e1,h3,(hb g h3).trans h4,h5⟩⟩
theorem ybn{w:World}{D E:Nat}{v:Value}{n:Nat}{xs:List Value}(h:w.ownsRow D 81 2 v n xs)(hb:E≤D):w.ownsRow E 81 2 v n xs:=by
 obtain⟨h1,h2|⟨g,cap,cur,e1,h3,h4,h5⟩⟩:=h
 · exact⟨h1,.inl h2⟩
 · exact⟨h1,.inr ⟨g,cap,cur,e1,Nat.le_trans hb h3,h4,h5⟩⟩
theorem NdI.add{w w4 w5:World}{e:EvG}{b o k:Nat}{s:ByteArray}{v v':Value}{P:List (B×B)}{x:B×B}{nd:Obj}(h:NdI w w4 e b o s k v P)(hb:b<w.heap.size)(hg:(w4.alloc nd).grownBy w5 v.ownBlock)
 (hown:w5.ownsRow (w.heap.size+2) 81 2 v' (P.length+1) (P.flatMap needL++needL x)):w5.heap[w.heap.size]?=some (xO e v)∧NdI w (w5.setCell ⟨w.heap.size,4,none⟩ v') e b o s k v' (P++ [x]):=by
 have hs4:=h.size;have key:∀j,j<w.heap.size+2→w5.heap[j]?=w4.heap[j]?:=fun j hj=>(hg.block j (by simp;omega) (fun e1=>by have:=(World.ownsRow.lt h.own j e1.symm).1;omega)).trans (Below.heap_alloc _ _ _ (by omega))
 have hB:Below 0 w4 w5:=((Below.refl 0 w4).alloc (Nat.zero_le _) nd).grown hg (Nat.zero_le _) (fun _ _=>Nat.zero_le _);have hrow:=(key w.heap.size (by omega)).trans h.row;refine⟨hrow,zvm hrow 4 v',(zvn 4 v' (by omega)).trans ((key _ (by omega)).trans h.res),?_,ybe h.ref ((zvn 4 v' (by omega)).trans (key b (by omega))),hB.os.trans h.os,hB.tape.trans h.tape,hB.output.trans h.out,?_,fun j hj hne=>(zvn 4 v' (by omega)).trans ((key j (by omega)).trans (h.block j hj hne))⟩
 · have h2:=ybm hown (w':=w5.setCell ⟨w.heap.size,4,none⟩ v') (fun j hj=>zvn 4 v' (by omega))
   rw[List.length_append,List.flatMap_append]
   simpa using h2
 · have:=hB.size
   simp
   omega
theorem NdI.end_{w wr:World}{e:EvG}{b o k:Nat}{s:ByteArray}{v:Value}{P:List (B×B)}(h:NdI w wr e b o s k v P)(hb:b<w.heap.size){k0 er p:Nat}(hN:ybh s k0=(P,er,p,k)):
 NdsE e b o s k0 w (.returned (.tuple #[.agg (xL e v).toArray,.int .i64 er,.int .i64 p])) (wr.setRow (w.heap.size+1) (xL e v).toArray):=by
 have e1:∀j,j≠w.heap.size+1→(wr.setRow (w.heap.size+1) (xL e v).toArray).heap[j]?=wr.heap[j]?:=fun j hj=>setRow_other _ _ j _ hj
 have hsz:=(below_setRow (Below.refl 0 wr) (Nat.zero_le (w.heap.size+1)) (xL e v).toArray).size;unfold NdsE;rw[hN];refine⟨v,rfl,ybn (ybm h.own fun j hj=>e1 j (by omega)) (by omega),ybe h.ref (e1 b (by omega)),h.os,h.tape,h.out,Nat.le_trans (by have:=h.size;omega) hsz,fun j hj hne=>(e1 j (by omega)).trans (h.block j hj hne)⟩
set_option maxRecDepth 100000 in
theorem ybo(e:EvG)(b o:Nat)(s:ByteArray)(k:Nat)(w:World)(hk:k≤s.size)(hs:s.size≤4611686018427387904)(hr:IsRef w b o s k)(hna:e.na=none)(hnc:e.nc=0)(hnn:e.needs=[]):
 Calls Tryz.prog 28 #[.pointer (some ⟨b,o,none⟩),evV e,.int .u8 101] w (NdsE e b o s k w):=by
 have hlt:=hr.lt;have hb2:Below w.heap.size w ((w.alloc (evO e)).alloc zO9):=chW (alW w _) (alW _ _);have hr2:IsRef ((w.alloc (evO e)).alloc zO9) b o s k:=hr.below hb2 hr.lt
 have hrow:((w.alloc (evO e)).alloc zO9).heap[w.heap.size]?=some (xO e (.slice none 0 0)):=by
  rw[heap_alloc_old _ _ (by simp),heap_alloc_new];unfold evO xO evL xL;rw[hna,hnc,hnn]
  rfl
 have hres:((w.alloc (evO e)).alloc zO9).heap[w.heap.size+1]?=some zO9:=by have:=heap_alloc_new (w.alloc (evO e)) zO9;simpa using this
 have HI0:Hid (NdI w ((w.alloc (evO e)).alloc zO9) e b o s k (.slice none 0 0) []):=hid ⟨hrow,hres,World.ownsRow_nil _ _ _ _,hr2,hb2.os,hb2.tape,hb2.output,by simp,fun j hj _=>hb2.block j hj⟩;have HC:=hid (zzp b o s k 64 _ hk hs (by decide) hr2);have HQ:Hid (ybh s k=if (uRes 64 k (s.data.toList.drop k)).2.1≠0 then ([],(uRes 64 k (s.data.toList.drop k)).2.1,(uRes 64 k (s.data.toList.drop k)).2.2.1,(uRes 64 k (s.data.toList.drop k)).2.2.2) else ndsR s (uRes 64 k (s.data.toList.drop k)).1 (uRes 64 k (s.data.toList.drop k)).2.2.2 []):=hid rfl;have hle:=ybf (most:=64) (k:=k) (l:=s.data.toList.drop k);obtain⟨⟨cnt,er,p,q⟩,hU⟩:∃U,uRes 64 k (s.data.toList.drop k)=U:=⟨_,rfl⟩;rw[hU] at HC HQ hle;simp only at HC HQ hle;unfold uEnd at HC;have HLT:=hid hlt;have hu2:=hid hU;clear hr hr2 hb2 hrow hres hU hlt;go_enter Tryz.func28,Tryz.ntmps28;go_wp2_with fail;refine HC.out.mono ?_;rintro r w2 ⟨rfl,hr3,ho⟩;have HI2:=hid (HI0.out.only HLT.out hr3 ho);clear hr3 ho HC HI0;rcases zwu 64 k s hk with ⟨er',he,he2,hu⟩|⟨v',n',hv',hn',hu⟩
 · rw[hu2.out] at hu
   cases hu
   have hq:ybh s k=([],er,k,k):=by rw[HQ.out,if_pos he]
   have hne:¬(er:Int)=0:=by omega
   obtain⟨c0,c1,c2,c3,c4,c5,c6,c7,c8,c9⟩:=ybi HI2.out.row;have hz3:=HI2.out.res;have HE:=hid (HI2.out.end_ HLT.out hq);clear he he2 hq;go_wp2_with (first | (refine wpList_store_row rfl 27 _ _ rfl (w.heap.size+1) (xL e (.slice none 0 0)).toArray rfl rfl _ _ hz3 zvk rfl (x_one rfl) ?_)|fail)
   refine bodyPost_ret (ybd rfl _ _ (w.heap.size+1) _ (xL e (.slice none 0 0)).toArray _ _ rfl (setRow_heap _ _ _ _ _ _ hz3) Tryz.underlying27 rfl zvk) rfl ?_;exact HE.out
 · rw[hu2.out] at hu
   cases hu
   have hq:ybh s k=ndsR s cnt (k+n') []:=by rw[HQ.out,if_neg (by simp)]
   obtain⟨i0,hi,hz0,hz1,hz2⟩:=info_parts ybk;have HI2':=HI2;clear hu2 HQ;go_wp2_with fail;go_loopw [20,21,22,23,24] (fun i _ _ _ _ wr=>∃(j:Nat) (P:List (B×B)) (v:Value) (kj:Nat),i= .int .u64 j∧j≤cnt∧P.length=j∧kj≤s.size∧Hid (ybh s k=ndsR s (cnt-j) kj P)∧Hid (NdI w wr e b o s kj v P)) (fun i _ _ _ _ _=>cnt-(intOf i).toNat)
   case atStart=>exact⟨0,[],.slice none 0 0,k+n',rfl,Nat.zero_le _,rfl,hn',hid hq,HI2'⟩
   case round=>
    obtain⟨j,P,v,kj,rfl,hj,hPl,hkj,HQJ,HI⟩:=hrel;rename World=>wr
    clear HI2 HI2' hq;by_cases hlt:j<cnt
    · have hdec:decide (j<cnt)=true:=decide_eq_true hlt
      have hs1:cnt-j=(cnt-(j+1))+1:=by omega
      have HT:=hid (zzy b o s kj 65536 wr hkj hs (by decide) HI.out.ref);rw[show cap 65536=65536 from rfl] at HT;rcases yao 65536 kj s hkj with ⟨er2,he,he2,ht⟩|⟨a1,q1,ha1,hq1,hk1,ht⟩
      · have hq2:ybh s k=(P,er2,kj,kj):=by rw[HQJ.out,hs1];simp[ndsR,ht,he]
        have hne:¬(er2:Int)=0:=by omega
        rw[ht] at HT;simp only at HT;unfold tEnd at HT;clear ht he he2 HQJ hs1;go_wp2_with fail;refine HT.out.mono ?_;rintro r w3 ⟨rfl,hr3,ho⟩;have HI3:=hid (HI.out.only HLT.out hr3 ho);clear hr3 ho HT;obtain⟨c0,c1,c2,c3,c4,c5,c6,c7,c8,c9⟩:=ybi HI3.out.row;have hz3:=HI3.out.res;have HE:=hid (HI3.out.end_ HLT.out hq2);have hv1:=HI3.out.own_one;have h10:(xL e v).toArray.size=10:=rfl;clear hq2;go_wp2_with (first | (refine wpList_store_row rfl 27 _ _ rfl (w.heap.size+1) (xL e v).toArray rfl rfl _ _ hz3 zvk rfl (x_one hv1) ?_)|fail)
        refine bodyPost_ret (ybd rfl _ _ (w.heap.size+1) _ (xL e v).toArray _ _ rfl (setRow_heap _ _ _ _ _ _ hz3) Tryz.underlying27 rfl zvk) rfl ?_;exact HE.out
      · rw[ht] at HT
        simp only at HT;unfold tEnd at HT;rw[ybc] at HT;have HQK:Hid (ybh s k=if (tRes 65536 q1 s).2.2.1≠0 then (P,(tRes 65536 q1 s).2.2.1,(tRes 65536 q1 s).2.2.2.1,(tRes 65536 q1 s).2.2.2.2) else ndsR s (cnt-(j+1)) (tRes 65536 q1 s).2.2.2.2 (P++ [(cutB s a1 q1,cutB s (tRes 65536 q1 s).1 (tRes 65536 q1 s).2.1)])):=hid (by rw[HQJ.out,hs1];simp only[ndsR,ht];rfl);generalize cutB s a1 q1=t1 at*;clear ht HQJ hs1 ha1 hk1;go_wp2_with fail;refine HT.out.mono ?_;rintro r w3 ⟨rfl,hr3,ho⟩;have HI3:=hid (HI.out.only HLT.out hr3 ho);have HT2:=hid (zzy b o s q1 65536 w3 hq1 hs (by decide) HI3.out.ref);rw[show cap 65536=65536 from rfl] at HT2;clear hr3 ho HT;rcases yao 65536 q1 s hq1 with ⟨er3,he,he2,ht⟩|⟨a2,q2,ha2,hq2,hk2,ht⟩
        · have hq3:ybh s k=(P,er3,q1,q1):=by rw[HQK.out,ht];simp[he]
          have hne:¬(er3:Int)=0:=by omega
          rw[ht] at HT2;simp only at HT2;unfold tEnd at HT2;clear ht he he2 HQK;go_wp2_with fail;refine HT2.out.mono ?_;rintro r w4 ⟨rfl,hr3,ho⟩;have HI4:=hid (HI3.out.only HLT.out hr3 ho);clear hr3 ho HT2;obtain⟨c0,c1,c2,c3,c4,c5,c6,c7,c8,c9⟩:=ybi HI4.out.row;have hz3:=HI4.out.res;have HE:=hid (HI4.out.end_ HLT.out hq3);have hv1:=HI4.out.own_one;have h10:(xL e v).toArray.size=10:=rfl;clear hq3;go_wp2_with (first | (refine wpList_store_row rfl 27 _ _ rfl (w.heap.size+1) (xL e v).toArray rfl rfl _ _ hz3 zvk rfl (x_one hv1) ?_)|fail)
          refine bodyPost_ret (ybd rfl _ _ (w.heap.size+1) _ (xL e v).toArray _ _ rfl (setRow_heap _ _ _ _ _ _ hz3) Tryz.underlying27 rfl zvk) rfl ?_;exact HE.out
        · have HQL:Hid (ybh s k=ndsR s (cnt-(j+1)) q2 (P++ [(t1,cutB s a2 q2)])):=hid (by rw[HQK.out,ht];simp)
          rw[ht] at HT2;simp only at HT2;unfold tEnd at HT2;rw[ybc] at HT2;generalize cutB s a2 q2=t2 at*;clear ht HQK ha2 hk2;go_wp2_with fail;refine HT2.out.mono ?_;rintro r w4 ⟨rfl,hr3,ho⟩;have HI4:=hid (HI3.out.only HLT.out hr3 ho);clear hr3 ho HT2;have c4:=(ybi HI4.out.row).2.2.2.2.1;have hPs:P.length+1≤64:=by omega
          have HS4:Hid (w.heap.size+2≤(w4.alloc (.cells (needL (t1,t2)).toArray 81)).heap.size):=hid (by have:=HI4.out.size;simp;omega);have HI4':=HI4;go_wp2_with (first | (at_builtin;refine wpList_append_own _ rfl _ _ 23 rfl (w.heap.size+2) 81 i0 (.agg #[.string ⟨#[]⟩,.string ⟨#[]⟩]) 2 32 Tryz.underlying23 hi hz0 hz1 hz2 rfl (by decide) v P.length (P.flatMap needL) rfl (HI4.out.own.alloc _) ⟨w4.heap.size,0,none⟩ 1 1 (needL (t1,t2)) rfl rfl ?c1 ?c2 ?c3 ?c4 ?c5 ?_)|fail)
          case c1=>exact zyq w4 (needL (t1,t2)) 81
          case c2=>exact ybj t1 t2
          case c3=>unfold maxLen;omega
          case c4=>omega
          case c5=>exact HS4.out
          intro v' w5 hown5 hg5 _;obtain⟨sa,sm,sc,hsh⟩:=ybl hown5;subst hsh;obtain⟨hrow5,hi5⟩:=HI4'.out.add HLT.out hg5 (by rw[hPl];exact hown5);have HI5:=hid hi5;have d4:=(ybi hrow5).2.2.2.2.1;have ffz:=zvo hrow5 4;clear hown5 hg5 hi5 hrow5 c4 HI4 HI4' HI3 HI;go_wp2_with fail;go_roundw
          case rel=>exact⟨j+1,P++ [(t1,t2)],_,q2,by go_num,hlt,by simp[hPl],hq2,HQL,HI5⟩
          case measure=>simp[intOf];omega
    · have hje:cnt-j=0:=by omega
      have hdec:decide (j<cnt)=false:=decide_eq_false hlt;have hq2:ybh s k=(P,0,0,kj):=by rw[HQJ.out,hje];rfl
      obtain⟨c0,c1,c2,c3,c4,c5,c6,c7,c8,c9⟩:=ybi HI.out.row;have hz3:=HI.out.res;have HE:=hid (HI.out.end_ HLT.out hq2);have hv1:=HI.out.own_one;have h10:(xL e v).toArray.size=10:=rfl;clear hq2;go_wp2_with (first | (refine wpList_store_row rfl 27 _ _ rfl (w.heap.size+1) (xL e v).toArray rfl rfl _ _ hz3 zvk rfl (x_one hv1) ?_)|fail)
      refine bodyPost_ret (ybd rfl _ _ (w.heap.size+1) _ (xL e v).toArray _ _ rfl (setRow_heap _ _ _ _ _ _ hz3) Tryz.underlying27 rfl zvk) rfl ?_;exact HE.out
end EvA
end
section
open Go.RowKit Go.Sort
namespace EvS
open StrC EvF EvC EvA TextR CodeM CodeC
structure RdF (σ:Type) where
 kind:σ→Nat×Nat×Nat×σ
 text:σ→B×Nat×Nat×σ
 span:σ→B×Nat×Nat×σ
 note:σ→B×Nat×Nat×σ
 sum:σ→Nat×Nat×Nat×σ
 num:Nat→σ→Nat×Nat×Nat×σ
structure RdFn where
 fk:FuncId
 bk:Array Value
 ck:Array Value
 ft:FuncId
 bt:Array Value
 ct:Array Value
 fs:FuncId
 bs:Array Value
 cs:Array Value
 fo:FuncId
 bo:Array Value
 co:Array Value
 fu:FuncId
 bu:Array Value
 cu:Array Value
 fn:FuncId
 bn:Array Value
 cn:Array Value
abbrev rdV(q:RdFn):List Value:=[.func (.func q.fk) q.bk q.ck,.func (.func q.ft) q.bt q.ct,.func (.func q.fs) q.bs q.cs,.func (.func q.fo) q.bo q.co,.func (.func q.fu) q.bu q.cu,.func (.func q.fn) q.bn q.cn]
abbrev rdgS(q:RdFn):Obj:=.cells (rdV q).toArray 64
structure RdOk {σ:Type} (b L:Nat) (St:World→σ→Prop) (IsE:World→World→Value→Nat→Nat→Prop) (q:RdFn) (R:RdF σ):Prop where
 src:Src b L St IsE
 kind:Part (fun n:Nat=>.int .u8 n) b L St IsE q.fk (q.bk++q.ck) R.kind
 text:Part (fun s:B=>.string (str s)) b L St IsE q.ft (q.bt++q.ct) R.text
 span:Part (fun s:B=>.string (str s)) b L St IsE q.fs (q.bs++q.cs) R.span
 note:Part (fun s:B=>.string (str s)) b L St IsE q.fo (q.bo++q.co) R.note
 sum:Part (fun n:Nat=>.int .u64 n) b L St IsE q.fu (q.bu++q.cu) R.sum
 n64:Part (fun n:Nat=>.int .u64 n) b L St IsE q.fn (q.bn++ #[.int .u64 64]++q.cn) (R.num 64)
 n32:Part (fun n:Nat=>.int .u64 n) b L St IsE q.fn (q.bn++ #[.int .u64 4294967295]++q.cn) (R.num 4294967295)
 ek:EntS q.fk
 et:EntS q.ft
 es:EntS q.fs
 eo:EntS q.fo
 eu:EntS q.fu
 en:EntS q.fn
 kle:∀x,(R.kind x).1≤255
 tle:∀x,(R.text x).1.length≤140737488351232
 sle:∀x,(R.span x).1.length≤140737488351232
 m64:∀x,(R.num 64 x).1≤64
 m32:∀x,(R.num 4294967295 x).1≤4294967295
theorem ybp{w:World}{p:Nat}{q:RdFn}(h:w.heap[p]?=some (rdgS q)):w.cell? ⟨p,0,none⟩=some (.func (.func q.fk) q.bk q.ck)∧w.cell? ⟨p,1,none⟩=some (.func (.func q.ft) q.bt q.ct)∧w.cell? ⟨p,2,none⟩=some (.func (.func q.fs) q.bs q.cs)∧
 w.cell? ⟨p,3,none⟩=some (.func (.func q.fo) q.bo q.co)∧w.cell? ⟨p,4,none⟩=some (.func (.func q.fu) q.bu q.cu)∧w.cell? ⟨p,5,none⟩=some (.func (.func q.fn) q.bn q.cn):=by
 refine⟨?_,?_,?_,?_,?_,?_⟩<;>simp[World.cell?,h]
def ndsF{σ:Type}(R:RdF σ):Nat→σ→List (B×B)→List (B×B)×Nat×Nat×σ
 | 0,x,P=>(P,0,0,x)
 | n+1,x,P=>if (R.text x).2.1≠0 then ([],(R.text x).2) else if (R.span (R.text x).2.2.2).2.1≠0 then ([],(R.span (R.text x).2.2.2).2) else ndsF R n (R.span (R.text x).2.2.2).2.2.2 (P++ [((R.text x).1,(R.span (R.text x).2.2.2).1)])
def ybq{σ:Type}(R:RdF σ)(x:σ):List (B×B)×Nat×Nat×σ:=
 if (R.num 64 x).2.1≠0 then ([],(R.num 64 x).2) else ndsF R (R.num 64 x).1 (R.num 64 x).2.2.2 []
theorem Src.after{σ:Type}{b L:Nat}{St:World→σ→Prop}{IsE:World→World→Value→Nat→Nat→Prop}(H:Src b L St IsE){W W':World}{x:σ}(h:St W x)(hL:L≤W.heap.size)(hb:Below W.heap.size W W'):St W' x:=H.stay h (fun j hj=>hb.block j (by omega))
set_option maxRecDepth 100000 in
theorem ybr{σ:Type}{b L:Nat}{St:World→σ→Prop}{IsE:World→World→Value→Nat→Nat→Prop}{q:RdFn}{R:RdF σ}(H:RdOk b L St IsE q R):
 Part (fun n:Nat=>.int .u32 n) b L St IsE 66 #[.agg (rdV q).toArray] (R.num 4294967295):=by
 intro w x hL hst;have hr:=heap_alloc_new w (rdgS q);obtain⟨-,-,-,-,-,c5⟩:=ybp hr;have hb0:=alW w (rdgS q);have HN:=hid (H.n32 _ x (Nat.le_trans hL hb0.size) (H.src.after hst hL hb0));have HUP:Hid (∀W1 v c a,IsE (w.alloc (rdgS q)) W1 v c a→IsE w W1 v c a):=hid (fun _ _ _ _ h=>H.src.up h hb0.size);have HO:Hid (Oth b w (w.alloc (rdgS q))):=hid (Oth.of_below hb0);have hm:=H.m32 x;have hcv:IntKind.u32.wrap ((R.num 4294967295 x).1:Int)=(R.num 4294967295 x).1:=by rw[IntWalk.u32_in _ ⟨by omega,by omega⟩]
 have en:=H.en;unfold EntS at en;clear hr hb0 hst H;go_enter Tryz.func66,Tryz.ntmps66;go_wp2_with fail;refine HN.out.mono ?_;rintro e w2 ⟨ev,rfl,hie,hst2,ho2⟩;have HI:=hid hie;have HS:=hid hst2;have HO2:=hid (HO.out.trans ho2);clear hie hst2 ho2;go_wp2_with fail;go_ret2
 exact⟨ev,rfl,HUP.out _ _ _ _ HI.out,HS.out,HO2.out⟩
structure NdJ {σ:Type} (b:Nat) (St:World→σ→Prop) (q:RdFn) (w wr:World) (x:σ) (v:Value) (P:List (B×B)):Prop where
 row:wr.heap[w.heap.size]?=some (rdgS q)
 own:wr.ownsRow (w.heap.size+1) 81 2 v P.length (P.flatMap needL)
 st:St wr x
 oth:Oth b w wr
 size:w.heap.size+1≤wr.heap.size
theorem own_but{w w':World}{D:Nat}{v:Value}{n:Nat}{xs:List Value}(h:w.ownsRow D 81 2 v n xs)(hb:∀j,D≤j→j<w.heap.size→w'.heap[j]?=w.heap[j]?):w'.ownsRow D 81 2 v n xs:=by
 obtain⟨h1,h2|⟨g,cap,cur,e1,h3,h4,h5⟩⟩:=h
 · exact⟨h1,.inl h2⟩
 · exact⟨h1,.inr ⟨g,cap,cur,e1,h3,(hb g h3 (zvp h4)).trans h4,h5⟩⟩
theorem NdJ.but{σ:Type}{b:Nat}{St:World→σ→Prop}{q:RdFn}{w wr w2:World}{x y:σ}{v:Value}{P:List (B×B)}(h:NdJ b St q w wr x v P)(hb:b<w.heap.size)(hs:St w2 y)(ho:Oth b wr w2):NdJ b St q w w2 y v P:=
 ⟨(ho.block _ (by have:=h.size;omega) (by omega)).trans h.row,own_but h.own (fun j hj hl=>ho.block j hl (by omega)),hs,h.oth.trans ho,Nat.le_trans h.size ho.size⟩
abbrev zNd:Obj:=.cells #[.string ⟨#[]⟩,.string ⟨#[]⟩] 81
theorem own_set{w:World}{D nd i:Nat}{u:Value}{v:Value}{n:Nat}{xs:List Value}(h:w.ownsRow D 81 2 v n xs)(hne:∀g,v.ownBlock=some g→g≠nd):(w.setCell ⟨nd,i,none⟩ u).ownsRow D 81 2 v n xs:=by
 obtain⟨h1,h2|⟨g,cap,cur,e1,h3,h4,h5⟩⟩:=h
 · exact⟨h1,.inl h2⟩
 · exact⟨h1,.inr ⟨g,cap,cur,e1,h3,(zvn i u (hne g (by rw[e1];rfl))).trans h4,h5⟩⟩
theorem NdJ.set{σ:Type}{b L:Nat}{St:World→σ→Prop}{IsE:World→World→Value→Nat→Nat→Prop}(H:Src b L St IsE){q:RdFn}{w wr:World}{x:σ}{v:Value}{P:List (B×B)}{nd:Nat}(h:NdJ b St q w wr x v P)(hL:L≤w.heap.size)(hnd:w.heap.size+1≤nd)(hne:∀g,v.ownBlock=some g→g≠nd)(i:Nat)(u:Value):
 NdJ b St q w (wr.setCell ⟨nd,i,none⟩ u) x v P:=
 ⟨(zvn i u (by omega)).trans h.row,own_set h.own hne,H.stay h.st (fun j hj=>zvn i u (by omega)),⟨h.oth.os,h.oth.tape,h.oth.output,by simpa using h.oth.size,fun k hk hb=>(zvn i u (by omega)).trans (h.oth.block k hk hb)⟩,by simpa using h.size⟩
theorem NdJ.add{σ:Type}{b L:Nat}{St:World→σ→Prop}{IsE:World→World→Value→Nat→Nat→Prop}(H:Src b L St IsE){q:RdFn}{w w6 w7:World}{x:σ}{v v':Value}{P:List (B×B)}{u:B×B}{nd:Obj}(h:NdJ b St q w w6 x v P)(hL:L≤w.heap.size)(hg:(w6.alloc nd).grownBy w7 v.ownBlock)
 (hown:w7.ownsRow (w.heap.size+1) 81 2 v' (P.length+1) (P.flatMap needL++needL u)):NdJ b St q w w7 x v' (P++ [u]):=by
 have hs6:=h.size;have key:∀j,j<w.heap.size+1→w7.heap[j]?=w6.heap[j]?:=fun j hj=>(hg.block j (by simp;omega) (fun e1=>by have:=(World.ownsRow.lt h.own j e1.symm).1;omega)).trans (Below.heap_alloc _ _ _ (by omega))
 have hB:Below 0 w6 w7:=((Below.refl 0 w6).alloc (Nat.zero_le _) nd).grown hg (Nat.zero_le _) (fun _ _=>Nat.zero_le _);refine⟨(key _ (by omega)).trans h.row,?_,H.stay h.st (fun j hj=>key j (by omega)),⟨hB.os.trans h.oth.os,hB.tape.trans h.oth.tape,hB.output.trans h.oth.output,Nat.le_trans h.oth.size hB.size,fun k hk hb=>(key k (by omega)).trans (h.oth.block k hk hb)⟩,Nat.le_trans hs6 hB.size⟩;rw[List.length_append,List.flatMap_append]
 simpa using hown
theorem ybs{w:World}{N:Nat}{v:Value}{L:List (B×B)}(h:w.ownsRow N 81 2 v L.length (L.flatMap needL))(hf:L.length*32≤140737488351232)(hs:∀x∈L,x.1.length≤140737488351232∧x.2.length≤140737488351232):
 ∃a c,v= .slice a L.length c∧NeIn w a c L∧∀g,a=some g→N≤g.block:=by
 obtain⟨a,c,e,hn⟩:=zvi h hf hs;refine⟨a,c,e,hn,fun g hg=>?_⟩;rcases h.2 with ⟨h1,-⟩|⟨g1,cap,cur,e1,h3,-⟩
 · rw[e,hg] at h1
   cases h1
 · rw[e,hg] at e1
   cases e1
   exact h3
theorem ybt{w:World}{p:Nat}{t1 t2:ByteArray}(h:w.heap[p]?=some (.cells #[.string t1,.string t2] 81)):w.cell? ⟨p,0,none⟩=some (.string t1)∧w.cell? ⟨p,1,none⟩=some (.string t2):=by
 constructor<;>simp[World.cell?,h]
set_option maxRecDepth 100000 in
theorem ybu{σ:Type}{b L:Nat}{St:World→σ→Prop}{IsE:World→World→Value→Nat→Nat→Prop}{q:RdFn}{R:RdF σ}(H:RdOk b L St IsE q R):
 PartN b L St IsE 63 #[.agg (rdV q).toArray] (ybq R):=by
 intro w x hL hst;have hr:=heap_alloc_new w (rdgS q);obtain⟨-,-,-,-,-,c5⟩:=ybp hr;have hb0:=alW w (rdgS q);have hblt:b<w.heap.size:=Nat.lt_of_lt_of_le H.src.lt hL;have HN:=hid (H.n64 _ x (Nat.le_trans hL hb0.size) (H.src.after hst hL hb0))
 have HJ0:Hid (∀w2 y,St w2 y→Oth b (w.alloc (rdgS q)) w2→NdJ b St q w w2 y (.slice none 0 0) []):=hid (fun w2 y hs ho=>by
  have h0:NdJ b St q w (w.alloc (rdgS q)) x (.slice none 0 0) []:=⟨hr,World.ownsRow_nil _ _ _ _,H.src.after hst hL hb0,Oth.of_below hb0,by simp⟩;exact h0.but hblt hs ho)
 have HUP:Hid (∀W0 W1 v c a,w.heap.size≤W0.heap.size→IsE W0 W1 v c a→IsE w W1 v c a):=hid (fun _ _ _ _ _ hs h=>H.src.up h hs);have hm:=H.m64 x;have HB:=hid hblt;have en:=H.en;have et:=H.et;have es:=H.es;unfold EntS at en et es;have HT:Hid (∀W y,L≤W.heap.size→St W y→Calls Tryz.prog q.ft (q.bt++q.ct) W fun e w'=>∃ev,e= .returned (.tuple #[.string (str (R.text y).1),ev])∧IsE W w' ev (R.text y).2.1 (R.text y).2.2.1∧St w' (R.text y).2.2.2∧Oth b W w'):=hid H.text;have HSP:Hid (∀W y,L≤W.heap.size→St W y→Calls Tryz.prog q.fs (q.bs++q.cs) W fun e w'=>∃ev,e= .returned (.tuple #[.string (str (R.span y).1),ev])∧IsE W w' ev (R.span y).2.1 (R.span y).2.2.1∧St w' (R.span y).2.2.2∧Oth b W w'):=hid H.span;have HQ:Hid (ybq R x=if (R.num 64 x).2.1≠0 then ([],(R.num 64 x).2) else ndsF R (R.num 64 x).1 (R.num 64 x).2.2.2 []):=hid rfl;have HSRC:=hid H.src;have HTL:=hid H.tle;have HSL:=hid H.sle;have HL:=hid hL;obtain⟨⟨cnt,er,p,y⟩,hU⟩:∃U,R.num 64 x=U:=⟨_,rfl⟩;rw[hU] at HN HQ hm;simp only at HN HQ hm;clear hr hb0 hst H hU hblt hL;go_enter Tryz.func63,Tryz.ntmps63;go_wp2_with fail;refine HN.out.mono ?_;rintro e w2 ⟨ev,rfl,hie,hst2,ho2⟩;have HJ:=hid (HJ0.out w2 y hst2 ho2);clear hst2 ho2 HN HJ0;by_cases he:er=0
 · subst he
   obtain rfl:=HSRC.out.none_ hie;have hq:ybq R x=ndsF R cnt y []:=by rw[HQ.out,if_neg (by simp)]
   obtain⟨i0,hi,hz0,hz1,hz2⟩:=info_parts ybk;clear HQ hie c5;go_wp2_with fail;go_loopw [6,18] (fun l i wr=>∃(j:Nat) (P:List (B×B)) (xj:σ) (v:Value),v=l∧i= .int .u64 j∧j≤cnt∧P.length=j∧(∀u∈P,u.1.length≤140737488351232∧u.2.length≤140737488351232)∧Hid (ybq R x=ndsF R (cnt-j) xj P)∧Hid (NdJ b St q w wr xj l P)) (fun _ i _=>cnt-(intOf i).toNat)
   case atStart=>exact⟨0,[],y,_,rfl,rfl,Nat.zero_le _,rfl,fun u hu=>(by cases hu),hid hq,HJ⟩
   case round=>
    obtain⟨j,P,xj,l5,hl5,rfl,hj,hPl,hPs,HQJ,HI⟩:=hrel;subst hl5;rename World=>wr
    clear HJ hq;by_cases hlt:j<cnt
    · have hdec:decide (j<cnt)=true:=decide_eq_true hlt
      have hs1:cnt-j=(cnt-(j+1))+1:=by omega
      have HQK:Hid (ybq R x=if (R.text xj).2.1≠0 then ([],(R.text xj).2) else if (R.span (R.text xj).2.2.2).2.1≠0 then ([],(R.span (R.text xj).2.2.2).2) else ndsF R (cnt-(j+1)) (R.span (R.text xj).2.2.2).2.2.2 (P++ [((R.text xj).1,(R.span (R.text xj).2.2.2).1)])):=hid (by rw[HQJ.out,hs1];rfl);have HOB0:Hid (∀g,l5.ownBlock=some g→g≠wr.heap.size):=hid (fun g hg=>by have:=(World.ownsRow.lt HI.out.own g hg).2;omega);have hnb:=alW wr zNd;have HI1:Hid (NdJ b St q w (wr.alloc zNd) xj _ P):=hid (HI.out.but HB.out (HSRC.out.after HI.out.st (Nat.le_trans HL.out (Nat.le_trans (Nat.le_succ _) HI.out.size)) hnb) (Oth.of_below hnb));have HW1:Hid (w.heap.size≤(wr.alloc zNd).heap.size):=hid (Nat.le_trans (Nat.le_succ _) HI1.out.size);have HTX:=hid (HT.out _ xj (Nat.le_trans HL.out HW1.out) HI1.out.st);have HTLj:=hid (HTL.out xj);obtain⟨-,c1,-,-,-,-⟩:=ybp HI1.out.row;have hnd:(wr.alloc zNd).heap[wr.heap.size]?=some zNd:=heap_alloc_new wr zNd;have HND:=hid hnd;have HNL:Hid (w.heap.size+1≤wr.heap.size):=hid HI.out.size;obtain⟨⟨t1,er2,p2,y2⟩,hU2⟩:∃U,R.text xj=U:=⟨_,rfl⟩;rw[hU2] at HTX HQK HTLj;simp only at HTX HQK HTLj;clear hU2 HQJ hs1 hnb HI hnd;go_wp2_with fail;refine HTX.out.mono ?_;rintro e w3 ⟨ev3,rfl,hie,hst3,ho3⟩;have hnd3:=(ho3.block _ (zvp HND.out) (by have:=HB.out;have:=HNL.out;omega)).trans HND.out;have HI3:=hid (HI1.out.but HB.out hst3 ho3);have n0:w3.cell? ⟨wr.heap.size,0,none⟩=some (.string ⟨#[]⟩):=by simp[World.cell?,hnd3]
      have n1:=zvo hnd3 0;have hn4:=zvm hnd3 0 (.string (str t1));have HOB:Hid (∀g,l5.ownBlock=some g→g≠wr.heap.size):=HOB0;have hn4:=zvm hnd3 0 (.string (str t1));have HN4:Hid ((w3.setCell ⟨wr.heap.size,0,none⟩ (.string (str t1))).heap[wr.heap.size]?=some (.cells #[.string (str t1),.string ⟨#[]⟩] 81)):=hid (by rw[hn4];rfl);have HI4:Hid (NdJ b St q w (w3.setCell ⟨wr.heap.size,0,none⟩ (.string (str t1))) y2 l5 P):=hid (HI3.out.set HSRC.out HL.out HNL.out HOB.out 0 _);have HE3:Hid (IsE w (w3.setCell ⟨wr.heap.size,0,none⟩ (.string (str t1))) ev3 er2 p2):=hid (HUP.out _ _ _ _ _ HW1.out (HSRC.out.keep hie (by simp) (fun j hj hl=>zvn 0 _ (by simp at hj;omega))));clear hnd3 hn4 hst3 ho3 HTX HI3 HI1;by_cases he2:er2=0
      · subst he2
        obtain rfl:=HSRC.out.none_ hie;have HQ3:Hid (ybq R x=if (R.span y2).2.1≠0 then ([],(R.span y2).2) else ndsF R (cnt-(j+1)) (R.span y2).2.2.2 (P++ [(t1,(R.span y2).1)])):=hid (by rw[HQK.out,if_neg (by simp)]);obtain⟨-,-,c2,-,-,-⟩:=ybp HI4.out.row;have HW4:Hid (w.heap.size≤(w3.setCell ⟨wr.heap.size,0,none⟩ (.string (str t1))).heap.size):=hid (Nat.le_trans (Nat.le_succ _) HI4.out.size);have HSX:=hid (HSP.out _ y2 (Nat.le_trans HL.out HW4.out) HI4.out.st);have HSLj:=hid (HSL.out y2);obtain⟨⟨t2,er3,p3,y3⟩,hU3⟩:∃U,R.span y2=U:=⟨_,rfl⟩;rw[hU3] at HSX HQ3 HSLj;simp only at HSX HQ3 HSLj;clear hU3 HQK hie HE3;go_wp2_with fail;refine HSX.out.mono ?_;rintro e w5 ⟨ev5,rfl,hie,hst5,ho5⟩;have hnd5:=(ho5.block _ (zvp HN4.out) (by have:=HB.out;have:=HNL.out;omega)).trans HN4.out;have HI5:=hid (HI4.out.but HB.out hst5 ho5);obtain⟨-,n1⟩:=ybt hnd5;have nf:=zvo hnd5 1;have hn6:=zvm hnd5 1 (.string (str t2));have HN6:Hid ((w5.setCell ⟨wr.heap.size,1,none⟩ (.string (str t2))).heap[wr.heap.size]?=some (.cells #[.string (str t1),.string (str t2)] 81)):=hid (by rw[hn6];rfl);have HI6:Hid (NdJ b St q w (w5.setCell ⟨wr.heap.size,1,none⟩ (.string (str t2))) y3 l5 P):=hid (HI5.out.set HSRC.out HL.out HNL.out HOB.out 1 _);have HE5:Hid (IsE w (w5.setCell ⟨wr.heap.size,1,none⟩ (.string (str t2))) ev5 er3 p3):=hid (HUP.out _ _ _ _ _ HW4.out (HSRC.out.keep hie (by simp) (fun j hj hl=>zvn 1 _ (by have:=zvp HN4.out;omega))));clear hnd5 hn6 hst5 ho5 HSX HI5 HI4 c2;by_cases he3:er3=0
        · subst he3
          obtain rfl:=HSRC.out.none_ hie;have HQ5:Hid (ybq R x=ndsF R (cnt-(j+1)) y3 (P++ [(t1,t2)])):=hid (by rw[HQ3.out,if_neg (by simp)]);obtain⟨m0,m1⟩:=ybt HN6.out;have hPs1:P.length+1≤64:=by omega
          have HS6:Hid (w.heap.size+1≤((w5.setCell ⟨wr.heap.size,1,none⟩ (.string (str t2))).alloc (.cells (needL (t1,t2)).toArray 81)).heap.size):=hid (Nat.le_trans HI6.out.size (alW _ _).size);have HNC:=hid (zyq (w5.setCell ⟨wr.heap.size,1,none⟩ (.string (str t2))) (needL (t1,t2)) 81);have hz5:(w5.setCell ⟨wr.heap.size,1,none⟩ (.string (str t2))).heap.size=w5.heap.size:=by simp
          rw[hz5] at HNC;clear hz5;have HI6':=HI6;clear HQ3 hie HE5;go_wp2_with (first | (at_builtin;refine wpList_append_own _ rfl _ _ 23 rfl (w.heap.size+1) 81 i0 (.agg #[.string ⟨#[]⟩,.string ⟨#[]⟩]) 2 32 Tryz.underlying23 hi hz0 hz1 hz2 rfl (by decide) _ P.length (P.flatMap needL) rfl (HI6.out.own.alloc _) ⟨w5.heap.size,0,none⟩ 1 1 (needL (t1,t2)) rfl rfl ?c1 ?c2 ?c3 ?c4 ?c5 ?_)|fail)
          case c1=>exact HNC.out
          case c2=>exact ybj t1 t2
          case c3=>unfold maxLen;omega
          case c4=>omega
          case c5=>exact HS6.out
          intro v' w7 hown7 hg7 _;obtain⟨sa,sm,sc,hsh⟩:=ybl hown7;subst hsh;have HI7:=hid (HI6'.out.add HSRC.out HL.out hg7 (by rw[hPl];exact hown7))
          have HPS:∀u∈P++ [(t1,t2)],u.1.length≤140737488351232∧u.2.length≤140737488351232:=by
           intro u hu;rcases List.mem_append.1 hu with hu|hu
           · exact hPs u hu
           · rw[List.mem_singleton.1 hu];exact⟨HTLj.out,HSLj.out⟩
          clear hown7 hg7 HI6 HI6' m0 m1;go_wp2_with fail;go_roundw
          case rel=>exact⟨j+1,P++ [(t1,t2)],y3,_,rfl,by go_num,hlt,by simp[hPl],HPS,HQ5,HI7⟩
          case measure=>simp[intOf];omega
        · obtain⟨t,u,rfl⟩:=HSRC.out.some_ he3 hie
          have hq:ybq R x=([],er3,p3,y3):=by rw[HQ3.out,if_pos he3]
          clear hie HQ3;go_wp2_with fail;go_ret2
          rw[hq];exact⟨_,none,0,rfl,NeIn.no _,fun g h=>(by cases h),HE5.out,HI6.out.st,HI6.out.oth⟩
      · obtain⟨t,u,rfl⟩:=HSRC.out.some_ he2 hie
        have hq:ybq R x=([],er2,p2,y2):=by rw[HQK.out,if_pos he2]
        clear hie HQK;go_wp2_with fail;go_ret2
        rw[hq];exact⟨_,none,0,rfl,NeIn.no _,fun g h=>(by cases h),HE3.out,HI4.out.st,HI4.out.oth⟩
    · have hje:cnt-j=0:=by omega
      have hdec:decide (j<cnt)=false:=decide_eq_false hlt;have hq:ybq R x=(P,0,0,xj):=by rw[HQJ.out,hje];rfl
      obtain⟨a,c,hsl,hne,hge⟩:=ybs HI.out.own (by omega) hPs;subst hsl;have HNE:=hid hne;have HGE:=hid hge;clear hne hge HQJ;go_wp2_with fail;go_ret2
      rw[hq];exact⟨_,a,c,rfl,HNE.out,fun g h=>Nat.le_trans (Nat.le_succ _) (HGE.out g h),HSRC.out.nil_,HI.out.st,HI.out.oth⟩
 · obtain⟨t,u,rfl⟩:=HSRC.out.some_ he hie
   have hq:ybq R x=([],er,p,y):=by rw[HQ.out,if_pos he]
   have HE:=hid (HUP.out _ _ _ _ _ (by simp) hie);clear hie HQ c5;go_wp2_with fail;go_ret2
   rw[hq];exact⟨_,none,0,rfl,NeIn.no _,fun g h=>(by cases h),HE.out,HJ.out.st,HJ.out.oth⟩
end EvS
end
end Go.Proofs.YtbninnkpjdofbaaGreatDoor
