/-
  What the proof of EventReads stands on, part 8.
-/
import Derived.Lib.SliceRun
import Derived.Test.YtbninnkpjdofbaaGreatDoorT07
set_option linter.unusedSimpArgs false
set_option linter.unusedVariables false
set_option maxHeartbeats 16000000
namespace Go.Proofs.YtbninnkpjdofbaaGreatDoor
open Go.Lib (hid)
section
open Go.RowKit
namespace VerC
open VerM StrC TextR
theorem zgz{l:B}{w:World}{e:Ending}(h:ReadE l w e):∃x,e= .returned x:=by
 unfold ReadE at h
 split at h
 · obtain⟨a,cap,he,_⟩:=h;exact⟨_,he⟩
 · exact⟨_,h⟩
theorem zha(l:B)(w:World):
 Calls Tryz.prog 124 #[.string (str l)] w fun e w'=>∃x,e= .returned x∧ReadE l w' (.returned x)∧Below w.heap.size w w':=
 (zel l w).mono fun e w' ⟨he,hb⟩=>by
   obtain⟨x,rfl⟩:=zgz he;exact⟨x,rfl,he,hb⟩
theorem rIs_any(l:B)(w:World):
 Calls Tryz.prog 76 #[.string (str l)] w fun e w'=>e= .returned (.bool (isT l))∧Below w.heap.size w w':=by
 have HR:=hid (zha l w);go_enter Tryz.func76,Tryz.ntmps76;go_wp2_with (go_at_call 124;refine HR.out.mono ?_;rintro e w2 ⟨x2,rfl,he,hb⟩;refine Hid.out ?_)
 refine hid ?_;have hnew:=heap_alloc_new w2 (verO 0 0 0 none 0 0);have HB:=hid (hb.alloc hb.size (verO 0 0 0 none 0 0));have HS:=hid hb.size;clear hb;rcases zfu he with ⟨v,a,cap,hv,rfl,hT⟩|⟨hv,rfl⟩
 · have HI:=hid (zft hv)
   clear hv hT he;go_wp2_with (refine wpList_store_row rfl 196 _ _ rfl w2.heap.size #[.int .u32 v.a,.int .u32 v.b,.int .u32 v.c,.slice a v.pre.length cap] rfl rfl _ _ hnew zdu rfl (zdv _ _ _ _ _ _) ?_)
   go_ret;exact⟨retB HI.out.symm,below_setRow HB.out HS.out _⟩
 · have HI:=hid (isT_no hv)
   clear hv he;go_wp2_with (refine wpList_store_row rfl 196 _ _ rfl w2.heap.size #[.int .u32 0,.int .u32 0,.int .u32 0,.slice none 0 0] rfl rfl _ _ hnew zdu rfl (zdv _ _ _ _ _ _) ?_)
   go_ret;exact⟨retB HI.out.symm,below_setRow HB.out HS.out _⟩
theorem zhb(x y:Int)(w:World):Calls Tryz.prog 265 #[.int .u32 x,.int .u32 y] w fun e w'=>e= .returned (.int .i64 (cmpI x y))∧w=w':=by
 have H:=hid (show cmpI x y=if x<y then -1 else if y<x then 1 else 0 from rfl);generalize cmpI x y=r at*;go_enter Tryz.func265,Tryz.ntmps265;go_wp2
 all_goals go_ret
 all_goals exact⟨by rw[H.out];(repeat' split)<;>first|rfl|omega,rfl⟩
set_option maxRecDepth 100000 in
theorem zhc(v u:Ver)(a1:Option Addr)(c1:Nat)(a2:Option Addr)(c2:Nat)(w:World)(hT1:Txs w a1 c1 v.pre)(hT2:Txs w a2 c2 u.pre)(hm1:may v=true)(hm2:may u=true):
 Calls Tryz.prog 243 #[verV v.a v.b v.c a1 v.pre.length c1,verV u.a u.b u.c a2 u.pre.length c2] w fun e w'=>e= .returned (.int .i64 (cmpV v u))∧Below w.heap.size w w':=by
 have HV:=hid (zfw v u);obtain⟨-,-,-,p8,hp1⟩:=zdp hm1;obtain⟨-,-,-,q8,hp2⟩:=zdp hm2;have HSP:=hid (fun s (h:s∈v.pre)=>(zdq (hp1 s h)).2);have HSQ:=hid (fun s (h:s∈u.pre)=>(zdq (hp2 s h)).2);generalize cmpV v u=R at*;obtain⟨na,nb,nc,p⟩:=v;obtain⟨ma,mb,mc,q⟩:=u
 dsimp only at*
 have HB0:=hid (((Below.refl _ w).alloc (Nat.le_refl _) (verO na nb nc a1 p.length c1)).alloc (by simp) (verO ma mb mc a2 q.length c2));have HC:=hid zhb;clear hm1 hm2 hp1 hp2;generalize (na:Int)=xa at*;generalize (nb:Int)=xb at*;generalize (nc:Int)=xc at*;generalize (ma:Int)=ya at*;generalize (mb:Int)=yb at*;generalize (mc:Int)=yc at*;generalize hra:cmpI xa ya=ra at*;generalize hrb:cmpI xb yb=rb at*;generalize hrc:cmpI xc yc=rc at*;have HA:=hid hra;have HBB:=hid hrb;have HCC:=hid hrc;clear hra hrb hrc;by_cases za:ra=0
 rotate_left
 · have d1:(ra == 0)=false:=beq_eq_false_iff_ne.2 za
   have d2:(ra != 0)=true:=by rw[bne_iff_ne];exact za
   rw[if_pos za] at HV;clear za hT1 hT2;go_enter Tryz.func243,Tryz.ntmps243;go_wp2_with (go_at_call 265;refine(HC.out _ _ _).mono ?_;rintro e w' ⟨rfl,rfl⟩;first|rw[HA.out]|rw[HBB.out]|rw[HCC.out])
   go_ret;exact⟨by rw[HV.out];rfl,HB0.out⟩
 rw[if_neg (by simpa using za)] at HV;by_cases zb:rb=0
 rotate_left
 · have d1:(rb == 0)=false:=beq_eq_false_iff_ne.2 zb
   have d2:(rb != 0)=true:=by rw[bne_iff_ne];exact zb
   rw[if_pos zb] at HV;clear zb hT1 hT2;subst za;go_enter Tryz.func243,Tryz.ntmps243;go_wp2_with (go_at_call 265;refine(HC.out _ _ _).mono ?_;rintro e w' ⟨rfl,rfl⟩;first|rw[HA.out]|rw[HBB.out]|rw[HCC.out])
   go_ret;exact⟨by rw[HV.out];rfl,HB0.out⟩
 rw[if_neg (by simpa using zb)] at HV;by_cases zc:rc=0
 rotate_left
 · have d1:(rc == 0)=false:=beq_eq_false_iff_ne.2 zc
   have d2:(rc != 0)=true:=by rw[bne_iff_ne];exact zc
   rw[if_pos zc] at HV;clear zc hT1 hT2;subst za;subst zb;go_enter Tryz.func243,Tryz.ntmps243;go_wp2_with (go_at_call 265;refine(HC.out _ _ _).mono ?_;rintro e w' ⟨rfl,rfl⟩;first|rw[HA.out]|rw[HBB.out]|rw[HCC.out])
   go_ret;exact⟨by rw[HV.out];rfl,HB0.out⟩
 rw[if_neg (by simpa using zc)] at HV;subst za;subst zb;subst zc;by_cases hp:p=[]
 · subst hp
   have HRR:=hid (show R=if q.length=0 then 0 else 1 by rw[HV.out];unfold cmpP;cases q<;>simp);clear hT1 hT2 HV;by_cases hq:q=[]
   · subst hq
     have HR2:=hid (show R=0 by rw[HRR.out];rfl);go_enter Tryz.func243,Tryz.ntmps243;go_wp2_with (go_at_call 265;refine(HC.out _ _ _).mono ?_;rintro e w' ⟨rfl,rfl⟩;first|rw[HA.out]|rw[HBB.out]|rw[HCC.out])
     go_ret;exact⟨by rw[HR2.out];rfl,HB0.out⟩
   · have hql:=List.length_pos_iff.2 hq
     have HR2:=hid (show R=1 by rw[HRR.out,if_neg (by omega)]);have d1:((q.length:Int) == 0)=false:=beq_eq_false_iff_ne.2 (by omega);have d2:((0:Int) == (q.length:Int))=false:=beq_eq_false_iff_ne.2 (by omega);clear hq hql;go_enter Tryz.func243,Tryz.ntmps243;go_wp2_with (go_at_call 265;refine(HC.out _ _ _).mono ?_;rintro e w' ⟨rfl,rfl⟩;first|rw[HA.out]|rw[HBB.out]|rw[HCC.out])
     go_ret;exact⟨by rw[HR2.out];rfl,HB0.out⟩
 have hpl:=List.length_pos_iff.2 hp;have d1:((p.length:Int) == 0)=false:=beq_eq_false_iff_ne.2 (by omega);by_cases hq:q=[]
 · subst hq
   have HR2:=hid (show R= -1 by rw[HV.out];unfold cmpP;rw[if_pos (by simp),if_neg (by simpa using hp),if_pos hpl]);have d2:decide (0<p.length)=true:=decide_eq_true hpl;clear hp hpl hT1 hT2 HV;go_enter Tryz.func243,Tryz.ntmps243;go_wp2_with (go_at_call 265;refine(HC.out _ _ _).mono ?_;rintro e w' ⟨rfl,rfl⟩;first|rw[HA.out]|rw[HBB.out]|rw[HCC.out])
   go_ret;exact⟨by rw[HR2.out];rfl,HB0.out⟩
 have hql:=List.length_pos_iff.2 hq;have d2:((q.length:Int) == 0)=false:=beq_eq_false_iff_ne.2 (by omega);have HRL:=hid (show R=ordL p q by rw[HV.out];unfold cmpP;rw[if_neg (by omega)]);have HS:=hid (zfx p q);have HE:=hid (zfy p q);have H0:Hid (ordL p q=ordL (p.drop 0) (q.drop 0)):=hid (by simp);have HT1:=hid hT1;have HT2:=hid hT2;clear hp hq hT1 hT2 HV hpl hql;go_enter Tryz.func243,Tryz.ntmps243;go_wp2_with (go_at_call 265;refine(HC.out _ _ _).mono ?_;rintro e w' ⟨rfl,rfl⟩;first|rw[HA.out]|rw[HBB.out]|rw[HCC.out])
 have hr1:=(heap_alloc_old (w.alloc (verO xa xb xc a1 p.length c1)) (verO ya yb yc a2 q.length c2) (r:=w.heap.size) (by simp)).trans (heap_alloc_new w (verO xa xb xc a1 p.length c1));have hr2:=heap_alloc_new (w.alloc (verO xa xb xc a1 p.length c1)) (verO ya yb yc a2 q.length c2);rw[show (w.alloc (verO xa xb xc a1 p.length c1)).heap.size=w.heap.size+1 by simp] at hr2;have HTA:=hid ((HT1.out.alloc (verO xa xb xc a1 p.length c1)).alloc (verO ya yb yc a2 q.length c2));have HTB:=hid ((HT2.out.alloc (verO xa xb xc a1 p.length c1)).alloc (verO ya yb yc a2 q.length c2));obtain⟨P0,P1,P2,P3⟩:=zdw hr1;obtain⟨Q0,Q1,Q2,Q3⟩:=zdw hr2;clear P0 P1 P2 Q0 Q1 Q2 hr1 hr2;generalize (w.alloc (verO xa xb xc a1 p.length c1)).alloc (verO ya yb yc a2 q.length c2)=W at*;go_loopw [6,7] (fun iv _ wr=>∃k n:Nat,k≤p.length∧k≤q.length∧iv= .int .i64 k∧Hid (R=ordL (p.drop k) (q.drop k))∧wr=W.drewN n) (fun iv _ _=>p.length-(intOf iv).toNat)
 case atStart=>exact⟨0,0,Nat.zero_le _,Nat.zero_le _,rfl,hid (by rw[HRL.out];exact H0.out),rfl⟩
 case round=>
  obtain⟨k,n,hk1,hk2,rfl,HR,rfl⟩:=hrel;by_cases hlt:k<p.length
  · have hdec:decide (k<p.length)=true:=by simpa using hlt
    by_cases hlt2:k<q.length
    · have hdec2:decide (k<q.length)=true:=by simpa using hlt2
      obtain⟨b1,o1,rfl,hc1⟩:=HTA.out.cells (by omega);obtain⟨b2,o2,rfl,hc2⟩:=HTB.out.cells (by omega);have hck1:=hc1 k hlt;have hck2:=hc2 k hlt2;have h1:=HSP.out (p.getD k []) (by rw[List.getD_eq_getElem?_getD,List.getElem?_eq_getElem hlt];exact List.getElem_mem hlt);have h2:=HSQ.out (q.getD k []) (by rw[List.getD_eq_getElem?_getD,List.getElem?_eq_getElem hlt2];exact List.getElem_mem hlt2);have HO:=HS.out k hlt hlt2;rw[←HR.out] at HO;clear hc1 hc2;generalize p.getD k []=s at*;generalize q.getD k []=u at*;have HOR:=hid (fun w=>zcw s u w (by omega) (by omega));generalize ordI s u=r at*;clear h1 h2;by_cases hr:r=0
      · have d3:(r != 0)=false:=by rw[hr];rfl
        have HN:=hid (show R=ordL (p.drop (k+1)) (q.drop (k+1)) by rw[HO,if_neg (by simpa using hr)]);clear hr HO;go_wp2_with fail;go_quiet ((go_at_call 266;exact(HOR.out _).mono fun _ _ h=>⟨h.1,_,h.2.symm⟩))
        go_wp2_with fail;go_roundw
        case rel=>exact⟨k+1,_,by omega,by omega,by go_num,HN,rfl⟩
        case measure=>simp[intOf];omega
      · have d3:(r != 0)=true:=by rw[bne_iff_ne];exact hr
        have HN:=hid (show R=r by rw[HO,if_pos hr]);clear hr HO;go_wp2_with fail;go_quiet ((go_at_call 266;exact(HOR.out _).mono fun _ _ h=>⟨h.1,_,h.2.symm⟩))
        go_wp2_with fail;go_ret;exact⟨by rw[HN.out];rfl,below_drewN HB0.out _⟩
    · have hdec2:decide (k<q.length)=false:=by simpa using hlt2
      have HN:=hid (show R=cmpI p.length q.length by rw[HR.out,HE.out k ⟨hk1,hk2,by omega⟩]);go_wp2_with (go_at_call 265;refine(HC.out _ _ _).mono ?_;rintro e w' ⟨rfl,rfl⟩;rw[←HN.out])
      go_ret;exact⟨rfl,below_drewN HB0.out _⟩
  · have hdec:decide (k<p.length)=false:=by simpa using hlt
    have HN:=hid (show R=cmpI p.length q.length by rw[HR.out,HE.out k ⟨hk1,hk2,by omega⟩]);go_wp2_with (go_at_call 265;refine(HC.out _ _ _).mono ?_;rintro e w' ⟨rfl,rfl⟩;rw[←HN.out])
    go_ret;exact⟨rfl,below_drewN HB0.out _⟩
end VerC
end
section
open Go.RowKit
namespace VerC
open VerM StrC TextR
def sameB(v u:Ver):Bool:=decide (v.a=u.a) && decide (v.b=u.b) && decide (v.c=u.c) && decide (v.pre=u.pre)
theorem same_no{v u:Ver}(h:¬(v.a=u.a∧v.b=u.b∧v.c=u.c∧v.pre.length=u.pre.length)):sameB v u=false:=by
 unfold sameB;rw[Bool.eq_false_iff];intro e;simp only[Bool.and_eq_true,decide_eq_true_eq] at e;exact h ⟨e.1.1.1,e.1.1.2,e.1.2,by rw[e.2]⟩
theorem zhd(v:Ver):sameB v v=true:=by simp[sameB]
theorem zhe{p q:TL}{k:Nat}(h1:k<p.length)(h2:k<q.length):(p.take (k+1)=q.take (k+1))↔p.take k=q.take k∧p.getD k []=q.getD k []:=by
 rw[List.take_add_one,List.take_add_one,List.getElem?_eq_getElem h1,List.getElem?_eq_getElem h2]
 constructor
 · intro e
   have hl:(p.take k).length=(q.take k).length:=by rw[List.length_take,List.length_take];omega
   have:=List.append_inj e hl
   exact⟨this.1,by simpa[h1,h2] using this.2⟩
 · rintro⟨e1,e2⟩
   rw[e1]
   congr 1
   simpa[h1,h2] using e2
theorem str_bne{a b:B}:((str a).toList != (str b).toList)= !decide (a=b):=by rw[bne,zbs]
set_option maxRecDepth 100000 in
theorem zhf(v u:Ver)(a1:Option Addr)(c1:Nat)(a2:Option Addr)(c2:Nat)(w:World)(hT1:Txs w a1 c1 v.pre)(hT2:Txs w a2 c2 u.pre):
 Calls Tryz.prog 264 #[verV v.a v.b v.c a1 v.pre.length c1,verV u.a u.b u.c a2 u.pre.length c2] w fun e w'=>e= .returned (.bool (sameB v u))∧Below w.heap.size w w':=by
 have HNO:=hid (fun h=>same_no (v:=v) (u:=u) h);have HY:=hid (show v.a=u.a→v.b=u.b→v.c=u.c→sameB v u=decide (v.pre=u.pre) from fun h1 h2 h3=>by unfold sameB;rw[h1,h2,h3];simp);obtain⟨na,nb,nc,p⟩:=v;obtain⟨ma,mb,mc,q⟩:=u
 dsimp only at*
 generalize sameB ⟨na,nb,nc,p⟩ ⟨ma,mb,mc,q⟩=r at*;have HB0:=hid (((Below.refl _ w).alloc (Nat.le_refl _) (verO na nb nc a1 p.length c1)).alloc (by simp) (verO ma mb mc a2 q.length c2));have e1:((na:Int) != (ma:Int))= !decide (na=ma):=by rw[bne];congr 1;rw[Bool.eq_iff_iff];simp;omega
 have e2:((nb:Int) != (mb:Int))= !decide (nb=mb):=by rw[bne];congr 1;rw[Bool.eq_iff_iff];simp;omega
 have e3:((nc:Int) != (mc:Int))= !decide (nc=mc):=by rw[bne];congr 1;rw[Bool.eq_iff_iff];simp;omega
 have e4:((p.length:Int) != (q.length:Int))= !decide (p.length=q.length):=by rw[bne];congr 1;rw[Bool.eq_iff_iff];simp;omega
 by_cases hall:na=ma∧nb=mb∧nc=mc∧p.length=q.length
 rotate_left
 · have H:=hid (HNO.out hall)
   generalize hb1:decide (na=ma)=b1 at*;generalize hb2:decide (nb=mb)=b2 at*;generalize hb3:decide (nc=mc)=b3 at*;generalize hb4:decide (p.length=q.length)=b4 at*
   have hb:(b1 && b2 && b3 && b4)=false:=by
    rw[Bool.eq_false_iff];intro e;rw[←hb1,←hb2,←hb3,←hb4] at e;simp only[Bool.and_eq_true,decide_eq_true_eq] at e;exact hall ⟨e.1.1.1,e.1.1.2,e.1.2,e.2⟩
   clear hall HNO HY hT1 hT2 hb1 hb2 hb3 hb4;generalize (na:Int)=xa at*;generalize (nb:Int)=xb at*;generalize (nc:Int)=xc at*;generalize (ma:Int)=ya at*;generalize (mb:Int)=yb at*;generalize (mc:Int)=yc at*;cases b1<;>cases b2<;>cases b3<;>cases b4<;>first | (exfalso;revert hb;decide)|skip
   all_goals clear hb
   all_goals go_enter Tryz.func264,Tryz.ntmps264
   all_goals go_wp2_with fail
   all_goals go_ret
   all_goals exact⟨by rw[H.out];rfl,HB0.out⟩
 obtain⟨rfl,rfl,rfl,hlen⟩:=hall;have HR:=hid (HY.out rfl rfl rfl);have HT:=hid (fun k (h1:k<p.length) (h2:k<q.length)=>zhe h1 h2);have HE1:Hid (p.take p.length=q.take q.length↔p=q):=hid (by rw[List.take_length,List.take_length]);have hr1:=(heap_alloc_old (w.alloc (verO na nb nc a1 p.length c1)) (verO na nb nc a2 q.length c2) (r:=w.heap.size) (by simp)).trans (heap_alloc_new w (verO na nb nc a1 p.length c1));have hr2:=heap_alloc_new (w.alloc (verO na nb nc a1 p.length c1)) (verO na nb nc a2 q.length c2);rw[show (w.alloc (verO na nb nc a1 p.length c1)).heap.size=w.heap.size+1 by simp] at hr2;have HTA:=hid ((hT1.alloc (verO na nb nc a1 p.length c1)).alloc (verO na nb nc a2 q.length c2));have HTB:=hid ((hT2.alloc (verO na nb nc a1 p.length c1)).alloc (verO na nb nc a2 q.length c2));have HLEN:=hid hlen;have e4':((p.length:Int) != (q.length:Int))=false:=by rw[hlen];simp
 clear HNO HY hT1 hT2 e1 e2 e3 e4 hlen;generalize (na:Int)=xa at*;generalize (nb:Int)=xb at*;generalize (nc:Int)=xc at*;go_enter Tryz.func264,Tryz.ntmps264;go_wp2_with fail;obtain⟨P0,P1,P2,P3⟩:=zdw hr1;obtain⟨Q0,Q1,Q2,Q3⟩:=zdw hr2;clear P0 P1 P2 Q0 Q1 Q2 hr1 hr2;generalize (w.alloc (verO xa xb xc a1 p.length c1)).alloc (verO xa xb xc a2 q.length c2)=W at*;go_loopw [5] (fun iv wr=>∃k n:Nat,k≤p.length∧iv= .int .i64 k∧Hid (p.take k=q.take k)∧wr=W.drewN n) (fun iv _=>p.length-(intOf iv).toNat)
 case atStart=>exact⟨0,0,Nat.zero_le _,rfl,hid (by simp),rfl⟩
 case round=>
  obtain⟨k,n,hk,rfl,HK,rfl⟩:=hrel;by_cases hlt:k<p.length
  · have hdec:decide (k<p.length)=true:=by simpa using hlt
    have hlt2:k<q.length:=by have:=HLEN.out;omega
    obtain⟨b1,o1,rfl,hc1⟩:=HTA.out.cells (by omega);obtain⟨b2,o2,rfl,hc2⟩:=HTB.out.cells (by omega);have hck1:=hc1 k hlt;have hck2:=hc2 k hlt2;have HTK:=hid (HT.out k hlt hlt2);have hfew:=HTA.out.few;clear hc1 hc2;have hb:=str_bne (a:=p.getD k []) (b:=q.getD k []);generalize p.getD k []=s at*;generalize q.getD k []=u at*;by_cases hsu:s=u
    · have hb2:((str s).toList == (str u).toList)=true:=by rw[zbs];simp[hsu]
      have HN:=hid (HTK.out.2 ⟨HK.out,hsu⟩);clear hb hsu;go_wp2_with fail;go_quiet (fail)
      go_wp2_with fail;go_roundw
      case rel=>exact⟨k+1,_,by omega,by go_num,HN,rfl⟩
      case measure=>simp[intOf];omega
    · have hb2:((str s).toList == (str u).toList)=false:=by rw[zbs];simp[hsu]
      have HN:=hid (show r=false by
       rw[HR.out,decide_eq_false_iff_not];intro e;have:=HTK.out.1 (by rw[e])
       exact hsu this.2)
      clear hb hsu;go_wp2_with fail;go_quiet (fail)
      go_wp2_with fail;go_ret;exact⟨by rw[HN.out];rfl,below_drewN (below_drewN HB0.out _) _⟩
  · have hdec:decide (k<p.length)=false:=by simpa using hlt
    have HN:=hid (show r=true by
     rw[HR.out,decide_eq_true_eq];refine HE1.out.1 ?_;have h1:k=p.length:=by omega
     have h2:=HK.out;rw[h1] at h2;rw[←HLEN.out];exact h2)
    go_wp2_with fail;go_ret;exact⟨by rw[HN.out];rfl,below_drewN HB0.out _⟩
end VerC
end
section
open Go.RowKit
namespace VerC
open VerM StrC TextR
def nextV(v:Ver)(k:Int):Option Ver:=
 if k=0 then (if v.a=mx then none else some ⟨v.a+1,0,0,[]⟩)
 else if k=1 then (if v.b=mx then none else some ⟨v.a,v.b+1,0,[]⟩)
 else if k=2 then (if v.c=mx then none else some ⟨v.a,v.b,v.c+1,[]⟩)
 else none
def nxV(v:Ver)(k:Int):Ver:=if may v=true then (nextV v k).getD ⟨0,0,0,[]⟩ else ⟨0,0,0,[]⟩
def nxC(v:Ver)(k:Int):Int:=if may v=true then (if (nextV v k).isSome then 0 else 2) else 70
theorem nx_no{v:Ver}(k:Int)(h:may v=false):nxV v k=⟨0,0,0,[]⟩∧nxC v k=70:=by unfold nxV nxC;rw[h];exact⟨rfl,rfl⟩
theorem zhg{v:Ver}{k:Int}(h:may v=true)(hn:nextV v k=none):nxV v k=⟨0,0,0,[]⟩∧nxC v k=2:=by unfold nxV nxC;rw[h,hn];exact⟨rfl,rfl⟩
theorem zhh{v u:Ver}{k:Int}(h:may v=true)(hn:nextV v k=some u):nxV v k=u∧nxC v k=0:=by unfold nxV nxC;rw[h,hn];exact⟨rfl,rfl⟩
theorem zhi(v:Ver)(k:Int):((k<0∨3≤k)∧nextV v k=none)∨(k=0∧v.a=mx∧nextV v k=none)∨(k=0∧v.a≠mx∧nextV v k=some ⟨v.a+1,0,0,[]⟩)∨
 (k=1∧v.b=mx∧nextV v k=none)∨(k=1∧v.b≠mx∧nextV v k=some ⟨v.a,v.b+1,0,[]⟩)∨(k=2∧v.c=mx∧nextV v k=none)∨(k=2∧v.c≠mx∧nextV v k=some ⟨v.a,v.b,v.c+1,[]⟩):=by
 unfold nextV;by_cases h0:k=0
 · subst h0
   by_cases h:v.a=mx<;>simp[h]
 · by_cases h1:k=1
   · subst h1
     by_cases h:v.b=mx<;>simp[h]
   · by_cases h2:k=2
     · subst h2
       by_cases h:v.c=mx<;>simp[h]
     · left
       refine⟨by omega,?_⟩;simp[h0,h1,h2]
theorem zhj(w:World):(zeroValue 25).run Tryz.prog w= .ok (.int .u32 0) w:=by kernel_rfl
theorem zhk(w:World)(g:Nat)(x y z:Int)(h:w.heap[g]?=some (arrO x y z)):∃w',(Builtin.clear_ #[368] 0 #[.slice (some ⟨g,1,none⟩) 2 2]).run Tryz.prog w= .ok (.tuple #[]) w'∧
 w'.heap[g]?=some (arrO x 0 0)∧(∀k,k≠g→w'.heap[k]?=w.heap[k]?)∧(∀B,B≤g→Below B w w'):=by
 obtain⟨c0,c1,c2⟩:=zfz h;refine⟨(w.setCell ⟨g,1,none⟩ (.int .u32 0)).setCell ⟨g,2,none⟩ (.int .u32 0),?_,zdz (zdz h 1 _) 2 _,fun k hk=>(zea 2 _ hk).trans (zea 1 _ hk),fun B hB=>((Below.refl B w).setCell (show B≤(⟨g,1,none⟩:Addr).block from hB) _).setCell (show B≤(⟨g,2,none⟩:Addr).block from hB) _⟩
 exact Lib.run_clear_slice w 368 25 0 (.int .u32 0) Tryz.underlying368 zhj rfl rfl g 1 2 2 (by decide) (fun j hj=>by
  match j,hj with
  | 0,_=>rw[c1];rfl
  | 1,_=>rw[c2];rfl) (fun j _=>zga h _)
theorem zhl(w:World)(g:Nat)(x y z:Int)(h:w.heap[g]?=some (arrO x y z)):∃w',(Builtin.clear_ #[368] 0 #[.slice (some ⟨g,2,none⟩) 1 1]).run Tryz.prog w= .ok (.tuple #[]) w'∧
 w'.heap[g]?=some (arrO x y 0)∧(∀k,k≠g→w'.heap[k]?=w.heap[k]?)∧(∀B,B≤g→Below B w w'):=by
 obtain⟨c0,c1,c2⟩:=zfz h;refine⟨w.setCell ⟨g,2,none⟩ (.int .u32 0),?_,zdz h 2 _,fun k hk=>zea 2 _ hk,fun B hB=>(Below.refl B w).setCell (show B≤(⟨g,2,none⟩:Addr).block from hB) _⟩
 exact Lib.run_clear_slice w 368 25 0 (.int .u32 0) Tryz.underlying368 zhj rfl rfl g 2 1 1 (by decide) (fun j hj=>by
  match j,hj with
  | 0,_=>rw[c2];rfl) (fun j _=>zga h _)
theorem zhm(w:World)(g:Nat):(Builtin.clear_ #[368] 0 #[.slice (some ⟨g,0,none⟩) 0 0]).run Tryz.prog w= .ok (.tuple #[]) w:=by
 simp[Builtin.clear_,run_underlying Tryz.underlying368,zhj,Builtin.zeroCells]
set_option maxRecDepth 100000 in
theorem zhn(v:Ver)(k:Int)(a:Option Addr)(cap:Nat)(w:World)(hT:Txs w a cap v.pre):
 Calls Tryz.prog 285 #[verV v.a v.b v.c a v.pre.length cap,.int .i64 k] w fun e w'=>e= .returned (.tuple #[verV (nxV v k).a (nxV v k).b (nxV v k).c none 0 0,.int .i64 (nxC v k)])∧Below w.heap.size w w':=by
 have hT1:=hT.gr ((Below.refl _ w).alloc (Nat.le_refl _) (verO v.a v.b v.c a v.pre.length cap));have HM:=hid (fun w' (h:Txs w' a cap v.pre)=>pmay_any v a cap w' h);have hs1:(w.alloc (verO v.a v.b v.c a v.pre.length cap)).heap.size=w.heap.size+1:=by simp
 have hnew:=heap_alloc_new w (verO v.a v.b v.c a v.pre.length cap);have hr1:=(heap_alloc_old (w.alloc (verO v.a v.b v.c a v.pre.length cap)) (verO 0 0 0 none 0 0) (r:=w.heap.size) (by rw[hs1];omega)).trans hnew;have hn1:=heap_alloc_new (w.alloc (verO v.a v.b v.c a v.pre.length cap)) (verO 0 0 0 none 0 0);rw[hs1] at hn1;have HB1:Hid (Below w.heap.size w ((w.alloc (verO v.a v.b v.c a v.pre.length cap)).alloc (verO 0 0 0 none 0 0))):=hid (((Below.refl _ w).alloc (Nat.le_refl _) _).alloc (by rw[hs1];omega) _);have HT1:=hid (hT1.alloc (verO 0 0 0 none 0 0));have hs2:((w.alloc (verO v.a v.b v.c a v.pre.length cap)).alloc (verO 0 0 0 none 0 0)).heap.size=w.heap.size+2:=by simp
 clear hT hT1 hs1 hnew;rcases Bool.eq_false_or_eq_true (may v) with hm|hm
 rotate_left
 · obtain⟨e1,e2⟩:=nx_no k hm
   have HE1:=hid e1;have HE2:=hid e2;rw[zfh hm] at HM;clear e1 e2;go_enter Tryz.func285,Tryz.ntmps285;go_wp2_with fail;generalize (w.alloc (verO v.a v.b v.c a v.pre.length cap)).alloc (verO 0 0 0 none 0 0)=W at*;refine(HM.out W HT1.out).mono ?_;rintro e w2 ⟨rfl,hg2⟩;refine Hid.out ?_;refine hid ?_;have hn2:=(hg2.below.block (w.heap.size+1) (by omega)).trans hn1;have HB2:=hid (HB1.out.trans (hg2.below.mono HB1.out.size));clear hg2 HM HT1 HB1 hs2 hr1 hn1;go_wp2_with (refine wpList_store_row rfl 196 _ _ rfl (w.heap.size+1) #[.int .u32 0,.int .u32 0,.int .u32 0,.slice none 0 0] rfl rfl _ _ hn2 zdu rfl (zdv _ _ _ _ _ _) ?_)
   refine bodyPost_ret (zdy rfl _ _ (w.heap.size+1) _ #[.int .u32 0,.int .u32 0,.int .u32 0,.slice none 0 0] _ _ rfl (setRow_heap _ _ _ _ _ _ hn2) Tryz.underlying196 rfl zdu) rfl ?_;exact⟨by rw[HE1.out,HE2.out];rfl,below_setRow HB2.out (by omega) _⟩
 have HN:=hid (fun w'=>zfe v.a v.b v.c a v.pre.length cap w');obtain⟨hma,hmb,hmc,-,-⟩:=zdp hm;rw[zfi hm] at HM;have hw:=zhi v k;go_enter Tryz.func285,Tryz.ntmps285;go_wp2_with fail;generalize (w.alloc (verO v.a v.b v.c a v.pre.length cap)).alloc (verO 0 0 0 none 0 0)=W at*;refine(HM.out W HT1.out).mono ?_;rintro e w2 ⟨rfl,hg2⟩;refine Hid.out ?_;refine hid ?_;have hr2:=(hg2.below.block w.heap.size (by omega)).trans hr1;have hn2:=(hg2.below.block (w.heap.size+1) (by omega)).trans hn1;have HB2:=hid (HB1.out.trans (hg2.below.mono HB1.out.size));clear hg2 HM HT1 HB1 hs2 hr1 hn1
 go_wp2_with (first
  | (refine wpList_load_row rfl 196 _ rfl w.heap.size rfl _ _ _ _ hr2 Tryz.underlying196 rfl zdu ?_)
  | (go_at_call 200;refine(HN.out _).mono ?_;rintro e w3 ⟨rfl,hg3⟩;refine Hid.out ?_))
 refine hid ?_;have hn3:=(hg3.below.block (w.heap.size+1) (Array.getElem?_eq_some_iff.1 hn2).1).trans hn2;have HB3:=hid (HB2.out.trans (hg3.below.mono HB2.out.size));have hl3:w.heap.size+1<w3.heap.size:=(Array.getElem?_eq_some_iff.1 hn3).1;clear hg3 hn2 hr2 HB2 HN;rcases hw with ⟨hk,hx⟩|⟨rfl,hq,hx⟩|⟨rfl,hq,hx⟩|⟨rfl,hq,hx⟩|⟨rfl,hq,hx⟩|⟨rfl,hq,hx⟩|⟨rfl,hq,hx⟩
 · rcases hk with hk|hk
   · have d1:decide (k<0)=true:=decide_eq_true hk
     obtain⟨e1,e2⟩:=zhg hm hx;have HE1:=hid e1;have HE2:=hid e2;have hn4:=(heap_alloc_old w3 (.cells #[.int .u32 v.a,.int .u32 v.b,.int .u32 v.c] 233) (r:=w.heap.size+1) hl3).trans hn3;have HB4:=hid (HB3.out.alloc HB3.out.size (.cells #[.int .u32 v.a,.int .u32 v.b,.int .u32 v.c] 233));clear e1 e2 hx hma hmb hmc hn3;go_wp2_with (refine wpList_store_row rfl 196 _ _ rfl (w.heap.size+1) #[.int .u32 0,.int .u32 0,.int .u32 0,.slice none 0 0] rfl rfl _ _ hn4 zdu rfl (zdv _ _ _ _ _ _) ?_)
     refine bodyPost_ret (zdy rfl _ _ (w.heap.size+1) _ #[.int .u32 0,.int .u32 0,.int .u32 0,.slice none 0 0] _ _ rfl (setRow_heap _ _ _ _ _ _ hn4) Tryz.underlying196 rfl zdu) rfl ?_;exact⟨by rw[HE1.out,HE2.out];rfl,below_setRow HB4.out (by omega) _⟩
   · have d1:decide (k<0)=false:=decide_eq_false (by omega)
     have d2:decide (3≤k)=true:=decide_eq_true hk;obtain⟨e1,e2⟩:=zhg hm hx;have HE1:=hid e1;have HE2:=hid e2;have hn4:=(heap_alloc_old w3 (.cells #[.int .u32 v.a,.int .u32 v.b,.int .u32 v.c] 233) (r:=w.heap.size+1) hl3).trans hn3;have HB4:=hid (HB3.out.alloc HB3.out.size (.cells #[.int .u32 v.a,.int .u32 v.b,.int .u32 v.c] 233));clear e1 e2 hx hma hmb hmc hn3;go_wp2_with (refine wpList_store_row rfl 196 _ _ rfl (w.heap.size+1) #[.int .u32 0,.int .u32 0,.int .u32 0,.slice none 0 0] rfl rfl _ _ hn4 zdu rfl (zdv _ _ _ _ _ _) ?_)
     refine bodyPost_ret (zdy rfl _ _ (w.heap.size+1) _ #[.int .u32 0,.int .u32 0,.int .u32 0,.slice none 0 0] _ _ rfl (setRow_heap _ _ _ _ _ _ hn4) Tryz.underlying196 rfl zdu) rfl ?_;exact⟨by rw[HE1.out,HE2.out];rfl,below_setRow HB4.out (by omega) _⟩
 · have dq:((v.a:Int) == 2147483647)=true:=by rw[hq];rfl
   clear hq;obtain⟨e1,e2⟩:=zhg hm hx;have HE1:=hid e1;have HE2:=hid e2;have hn4:=(heap_alloc_old w3 (.cells #[.int .u32 v.a,.int .u32 v.b,.int .u32 v.c] 233) (r:=w.heap.size+1) hl3).trans hn3;have HB4:=hid (HB3.out.alloc HB3.out.size (.cells #[.int .u32 v.a,.int .u32 v.b,.int .u32 v.c] 233));clear e1 e2 hx hma hmb hmc hn3;go_wp2_with (refine wpList_store_row rfl 196 _ _ rfl (w.heap.size+1) #[.int .u32 0,.int .u32 0,.int .u32 0,.slice none 0 0] rfl rfl _ _ hn4 zdu rfl (zdv _ _ _ _ _ _) ?_)
   refine bodyPost_ret (zdy rfl _ _ (w.heap.size+1) _ #[.int .u32 0,.int .u32 0,.int .u32 0,.slice none 0 0] _ _ rfl (setRow_heap _ _ _ _ _ _ hn4) Tryz.underlying196 rfl zdu) rfl ?_;exact⟨by rw[HE1.out,HE2.out];rfl,below_setRow HB4.out (by omega) _⟩
 · obtain⟨e1,e2⟩:=zhh hm hx
   have HE1:=hid e1;have HE2:=hid e2;have dq:((v.a:Int) == 2147483647)=false:=by unfold mx at hq;rw[beq_eq_false_iff_ne];omega
   have hu:(v.a:Int)+1≤4294967295:=by unfold mx at hma;omega
   have hn4:=(heap_alloc_old w3 (.cells #[.int .u32 ((v.a:Int)+1),.int .u32 (v.b),.int .u32 (v.c)] 233) (r:=w.heap.size+1) hl3).trans hn3;have HB4:=hid (HB3.out.alloc HB3.out.size (.cells #[.int .u32 ((v.a:Int)+1),.int .u32 (v.b),.int .u32 (v.c)] 233));obtain⟨w5,hcl,hA5,hel5,hbl5⟩:=zhk (w3.alloc (.cells #[.int .u32 ((v.a:Int)+1),.int .u32 (v.b),.int .u32 (v.c)] 233)) w3.heap.size ((v.a:Int)+1) (v.b) (v.c) (heap_alloc_new w3 _);have hn5:=(hel5 (w.heap.size+1) (by omega)).trans hn4;have HB5:=hid (HB4.out.trans (hbl5 w.heap.size (by omega)));have HVR:=hid (zff ((v.a:Int)+1) (0) (0));clear e1 e2 hx hma hmb hmc hq hel5 hbl5 hn4 HB4 hn3 HB3
   go_wp2_with (first
    | (refine wpList_load_row rfl 233 _ rfl w3.heap.size rfl _ _ _ _ hA5 Tryz.underlying233 rfl zfd ?_)
    | (go_at_call 169;refine(HVR.out _).mono ?_;rintro e w6 ⟨rfl,hg6⟩;refine Hid.out ?_))
   refine hid ?_;have hn6:=(hg6.below.block (w.heap.size+1) (Array.getElem?_eq_some_iff.1 hn5).1).trans hn5;have HB6:=hid (HB5.out.trans (hg6.below.mono HB5.out.size));clear hg6 hn5 HB5 hA5 hcl;go_wp2_with (refine wpList_store_row rfl 196 _ _ rfl (w.heap.size+1) #[.int .u32 ((v.a:Int)+1),.int .u32 (0),.int .u32 (0),.slice none 0 0] rfl rfl _ _ hn6 zdu rfl (zdv _ _ _ _ _ _) ?_)
   refine bodyPost_ret (zdy rfl _ _ (w.heap.size+1) _ #[.int .u32 ((v.a:Int)+1),.int .u32 (0),.int .u32 (0),.slice none 0 0] _ _ rfl (setRow_heap _ _ _ _ _ _ hn6) Tryz.underlying196 rfl zdu) rfl ?_;exact⟨by rw[HE1.out,HE2.out];rfl,below_setRow HB6.out (by omega) _⟩
 · have dq:((v.b:Int) == 2147483647)=true:=by rw[hq];rfl
   clear hq;obtain⟨e1,e2⟩:=zhg hm hx;have HE1:=hid e1;have HE2:=hid e2;have hn4:=(heap_alloc_old w3 (.cells #[.int .u32 v.a,.int .u32 v.b,.int .u32 v.c] 233) (r:=w.heap.size+1) hl3).trans hn3;have HB4:=hid (HB3.out.alloc HB3.out.size (.cells #[.int .u32 v.a,.int .u32 v.b,.int .u32 v.c] 233));clear e1 e2 hx hma hmb hmc hn3;go_wp2_with (refine wpList_store_row rfl 196 _ _ rfl (w.heap.size+1) #[.int .u32 0,.int .u32 0,.int .u32 0,.slice none 0 0] rfl rfl _ _ hn4 zdu rfl (zdv _ _ _ _ _ _) ?_)
   refine bodyPost_ret (zdy rfl _ _ (w.heap.size+1) _ #[.int .u32 0,.int .u32 0,.int .u32 0,.slice none 0 0] _ _ rfl (setRow_heap _ _ _ _ _ _ hn4) Tryz.underlying196 rfl zdu) rfl ?_;exact⟨by rw[HE1.out,HE2.out];rfl,below_setRow HB4.out (by omega) _⟩
 · obtain⟨e1,e2⟩:=zhh hm hx
   have HE1:=hid e1;have HE2:=hid e2;have dq:((v.b:Int) == 2147483647)=false:=by unfold mx at hq;rw[beq_eq_false_iff_ne];omega
   have hu:(v.b:Int)+1≤4294967295:=by unfold mx at hmb;omega
   have hn4:=(heap_alloc_old w3 (.cells #[.int .u32 (v.a),.int .u32 ((v.b:Int)+1),.int .u32 (v.c)] 233) (r:=w.heap.size+1) hl3).trans hn3;have HB4:=hid (HB3.out.alloc HB3.out.size (.cells #[.int .u32 (v.a),.int .u32 ((v.b:Int)+1),.int .u32 (v.c)] 233));obtain⟨w5,hcl,hA5,hel5,hbl5⟩:=zhl (w3.alloc (.cells #[.int .u32 (v.a),.int .u32 ((v.b:Int)+1),.int .u32 (v.c)] 233)) w3.heap.size (v.a) ((v.b:Int)+1) (v.c) (heap_alloc_new w3 _);have hn5:=(hel5 (w.heap.size+1) (by omega)).trans hn4;have HB5:=hid (HB4.out.trans (hbl5 w.heap.size (by omega)));have HVR:=hid (zff (v.a) ((v.b:Int)+1) (0));clear e1 e2 hx hma hmb hmc hq hel5 hbl5 hn4 HB4 hn3 HB3
   go_wp2_with (first
    | (refine wpList_load_row rfl 233 _ rfl w3.heap.size rfl _ _ _ _ hA5 Tryz.underlying233 rfl zfd ?_)
    | (go_at_call 169;refine(HVR.out _).mono ?_;rintro e w6 ⟨rfl,hg6⟩;refine Hid.out ?_))
   refine hid ?_;have hn6:=(hg6.below.block (w.heap.size+1) (Array.getElem?_eq_some_iff.1 hn5).1).trans hn5;have HB6:=hid (HB5.out.trans (hg6.below.mono HB5.out.size));clear hg6 hn5 HB5 hA5 hcl;go_wp2_with (refine wpList_store_row rfl 196 _ _ rfl (w.heap.size+1) #[.int .u32 (v.a),.int .u32 ((v.b:Int)+1),.int .u32 (0),.slice none 0 0] rfl rfl _ _ hn6 zdu rfl (zdv _ _ _ _ _ _) ?_)
   refine bodyPost_ret (zdy rfl _ _ (w.heap.size+1) _ #[.int .u32 (v.a),.int .u32 ((v.b:Int)+1),.int .u32 (0),.slice none 0 0] _ _ rfl (setRow_heap _ _ _ _ _ _ hn6) Tryz.underlying196 rfl zdu) rfl ?_;exact⟨by rw[HE1.out,HE2.out];rfl,below_setRow HB6.out (by omega) _⟩
 · have dq:((v.c:Int) == 2147483647)=true:=by rw[hq];rfl
   clear hq;obtain⟨e1,e2⟩:=zhg hm hx;have HE1:=hid e1;have HE2:=hid e2;have hn4:=(heap_alloc_old w3 (.cells #[.int .u32 v.a,.int .u32 v.b,.int .u32 v.c] 233) (r:=w.heap.size+1) hl3).trans hn3;have HB4:=hid (HB3.out.alloc HB3.out.size (.cells #[.int .u32 v.a,.int .u32 v.b,.int .u32 v.c] 233));clear e1 e2 hx hma hmb hmc hn3;go_wp2_with (refine wpList_store_row rfl 196 _ _ rfl (w.heap.size+1) #[.int .u32 0,.int .u32 0,.int .u32 0,.slice none 0 0] rfl rfl _ _ hn4 zdu rfl (zdv _ _ _ _ _ _) ?_)
   refine bodyPost_ret (zdy rfl _ _ (w.heap.size+1) _ #[.int .u32 0,.int .u32 0,.int .u32 0,.slice none 0 0] _ _ rfl (setRow_heap _ _ _ _ _ _ hn4) Tryz.underlying196 rfl zdu) rfl ?_;exact⟨by rw[HE1.out,HE2.out];rfl,below_setRow HB4.out (by omega) _⟩
 · obtain⟨e1,e2⟩:=zhh hm hx
   have HE1:=hid e1;have HE2:=hid e2;have dq:((v.c:Int) == 2147483647)=false:=by unfold mx at hq;rw[beq_eq_false_iff_ne];omega
   have hu:(v.c:Int)+1≤4294967295:=by unfold mx at hmc;omega
   have hn5:=(heap_alloc_old w3 (.cells #[.int .u32 v.a,.int .u32 v.b,.int .u32 ((v.c:Int)+1)] 233) (r:=w.heap.size+1) hl3).trans hn3;have HB5:=hid (HB3.out.alloc HB3.out.size (.cells #[.int .u32 v.a,.int .u32 v.b,.int .u32 ((v.c:Int)+1)] 233));have hA5:=heap_alloc_new w3 (.cells #[.int .u32 v.a,.int .u32 v.b,.int .u32 ((v.c:Int)+1)] 233);have hcl:=zhm (w3.alloc (.cells #[.int .u32 v.a,.int .u32 v.b,.int .u32 ((v.c:Int)+1)] 233)) w3.heap.size;have HVR:=hid (zff (v.a) (v.b) ((v.c:Int)+1));clear e1 e2 hx hma hmb hmc hq hn3 HB3
   go_wp2_with (first
    | (refine wpList_load_row rfl 233 _ rfl w3.heap.size rfl _ _ _ _ hA5 Tryz.underlying233 rfl zfd ?_)
    | (go_at_call 169;refine(HVR.out _).mono ?_;rintro e w6 ⟨rfl,hg6⟩;refine Hid.out ?_))
   refine hid ?_;have hn6:=(hg6.below.block (w.heap.size+1) (Array.getElem?_eq_some_iff.1 hn5).1).trans hn5;have HB6:=hid (HB5.out.trans (hg6.below.mono HB5.out.size));clear hg6 hn5 HB5 hA5 hcl;go_wp2_with (refine wpList_store_row rfl 196 _ _ rfl (w.heap.size+1) #[.int .u32 (v.a),.int .u32 (v.b),.int .u32 ((v.c:Int)+1),.slice none 0 0] rfl rfl _ _ hn6 zdu rfl (zdv _ _ _ _ _ _) ?_)
   refine bodyPost_ret (zdy rfl _ _ (w.heap.size+1) _ #[.int .u32 (v.a),.int .u32 (v.b),.int .u32 ((v.c:Int)+1),.slice none 0 0] _ _ rfl (setRow_heap _ _ _ _ _ _ hn6) Tryz.underlying196 rfl zdu) rfl ?_;exact⟨by rw[HE1.out,HE2.out];rfl,below_setRow HB6.out (by omega) _⟩
end VerC
end
end Go.Proofs.YtbninnkpjdofbaaGreatDoor
