/-
  What the proof of EventReads stands on, part 3.
-/
import Derived.Deep.RegionHeld
import Derived.Laws.CopyOwn
import Derived.Lib.ParseIntBCases
import Derived.Test.YtbninnkpjdofbaaGreatDoorT02
set_option linter.unusedSimpArgs false
set_option linter.unusedVariables false
set_option maxHeartbeats 16000000
namespace Go.Proofs.YtbninnkpjdofbaaGreatDoor
open Go.Lib (hid)
section
open Go.RowKit
namespace VerC
open VerM StrC TextR
theorem zdi(l:List UInt8)(a b:Nat):(str l).extract a b=str ((l.take b).drop a):=by
 apply ByteArray.ext
 simp[str,List.extract_eq_take_drop,List.drop_take]
theorem zdj(l:List UInt8)(x y:Int)(a b:Nat)(hx:x=a)(hy:y=b)(h1:a≤b)(h2:b≤l.length)(w:World):
 (Instr.slice 9 (.string (str l)) (some (.int .i64 x)) (some (.int .i64 y)) none).run Tryz.prog w= .ok (.string (str ((l.take b).drop a))) w:=by
 subst hx;subst hy;rw[run_slice_string w 9 (str l) .i64 .i64 _ _ Tryz.underlying9 (by omega) (by omega) (by rw[zbo];omega),Int.toNat_natCast,Int.toNat_natCast,zdi]
theorem zdk(l:List UInt8)(x:Int)(a:Nat)(hx:x=a)(h1:a≤l.length)(w:World):
 (Instr.slice 9 (.string (str l)) (some (.int .i64 x)) none none).run Tryz.prog w= .ok (.string (str (l.drop a))) w:=by
 subst hx;rw[run_slice_string_l w 9 (str l) Tryz.underlying9 .i64 _ (by omega) (by rw[zbo];omega),Int.toNat_natCast,zdi,zbo,List.take_of_length_le (Nat.le_refl _)]
theorem sl_to(l:List UInt8)(x:Int)(a:Nat)(hx:x=a)(h1:a≤l.length)(w:World):
 (Instr.slice 9 (.string (str l)) none (some (.int .i64 x)) none).run Tryz.prog w= .ok (.string (str (l.take a))) w:=by
 subst hx;rw[run_slice_string_h w 9 (str l) Tryz.underlying9 .i64 _ (by omega) (by rw[zbo];omega),Int.toNat_natCast,zdi];rfl
theorem zdl{w:World}{B:Nat}{v:Value}{L:List ByteArray}(h:OwnT w B v L):∀k,v.ownBlock=some k→B≤k:=fun k hk=>(World.ownsRow.lt h k hk).1
theorem zdm{w:World}{K:Nat}{v:Value}{p:TL}(h:OwnT w K v (p.map str))(hs:∀s∈p,s.length≤9223372036854775807)(hf:p.length≤281474976710656):∃a cap,v= .slice a p.length cap∧Txs w a cap p:=by
 have hn:(p.map str).length=p.length:=List.length_map ..;obtain⟨a,cp,e,hc⟩:=h.open_;rw[hn] at e;refine⟨a,cp,e,?_,hs,hf,fun h0=>?_⟩
 · rcases h.2 with ⟨e1,e2⟩|⟨g,cap,cur,e1,hb,hg,hle,rest⟩
   · rw[hn] at e2;omega
   · rw[hn] at e1 hle
     rw[e1] at e
     injection e with _ _ e3
     omega
 · obtain⟨g,ea,_,_,hcell⟩:=hc (by omega)
   refine⟨g,0,ea,fun i hi=>?_⟩;rw[Nat.zero_add,hcell i (by omega)];simp[hi]
theorem zdn(p:TL)(k:Nat)(h:k<p.length):preL (p.take (k+1))=(preL (p.take k)++(if k=0 then [45] else [46]))++p.getD k []:=by
 match p,h with
 | x :: r,h=>
   cases k with
   | zero=>simp[preL,Lib.join,List.intercalate]
   | succ k=>
     have hk:k<r.length:=by simpa using h
     rw[List.take_succ_cons,List.take_succ_cons]
     show 45 :: Lib.join (x :: r.take (k+1)) [46]=(45 :: Lib.join (x :: r.take k) [46]++_)++_;rw[Lib.join_cons,Lib.join_cons,Lib.joinTail_take_succ [46] r k (r.getD k []) (by rw[List.getD_eq_getElem?_getD,List.getElem?_eq_getElem hk];rfl)];simp
theorem zdo(p:TL)(n:Nat)(h:∀s∈p,s.length≤n):∀k,k≤p.length→(preL (p.take k)).length≤(n+1)*k
 | 0,_=>by simp[preL]
 | k+1,hk=>by
   have ih:=zdo p n h k (by omega);rw[zdn p k (by omega)];have:(p.getD k []).length≤n:=by rw[List.getD_eq_getElem?_getD,List.getElem?_eq_getElem (by omega)];exact h _ (List.getElem_mem (by omega))
   rw[Nat.mul_succ]
   split<;>simp at* <;>omega
theorem zdp{v:Ver}(h:may v=true):v.a≤mx∧v.b≤mx∧v.c≤mx∧v.pre.length≤8∧∀s∈v.pre,ident s=true:=by
 unfold may at h;simp only[Bool.and_eq_true,decide_eq_true_eq] at h;exact⟨h.1.1.1.1,h.1.1.1.2,h.1.1.2,h.1.2,fun s hs=>List.all_eq_true.1 h.2 s hs⟩
theorem zdq{s:B}(h:ident s=true):1≤s.length∧s.length≤16:=by
 unfold ident at h;simp only[Bool.and_eq_true,decide_eq_true_eq] at h;exact⟨h.1.1.1,h.1.1.2⟩
theorem zdr{n:Nat}(h:n≤mx):(Lib.decDigits n).length≤10:=zch 9 n (by unfold mx at h;omega)
theorem zds{v:Ver}(h:may v=true):(text v).length≤200:=by
 obtain⟨h1,h2,h3,h4,h5⟩:=zdp h;have e1:=zdr h1;have e2:=zdr h2;have e3:=zdr h3;have e4:=zdo v.pre 16 (fun s hs=>(zdq (h5 s hs)).2) v.pre.length (Nat.le_refl _);rw[List.take_length] at e4;unfold text;simp
 omega
theorem wrap_u64(n:Nat)(h:n≤2147483647):IntKind.u64.wrap (n:Int)=n:=by simp[IntKind.wrap,IntKind.bits,IntKind.signed];omega
theorem cut_on{l:B}{k q:Nat}(hq:q≤k)(hk:k<l.length):(l.take (k+1)).drop q=(l.take k).drop q++ [l.getD k 0]:=by
 rw[List.take_add_one,List.getElem?_eq_getElem hk,List.drop_append_of_le_length (by rw[List.length_take];omega)];simp[hk]
theorem cut_hit{l:B}{d:UInt8}{k q:Nat}(hq:q≤k)(hk:k<l.length)(hc:l.getD k 0=d)(hn:∀c∈(l.take k).drop q,c≠d):pieces d (l.drop q)=(l.take k).drop q :: pieces d (l.drop (k+1)):=by
 have e:l.drop q=(l.take k).drop q++d :: l.drop (k+1):=by
  have h0:l=l.take k++l.drop k:=(List.take_append_drop k l).symm;have h1:l.drop k=d :: l.drop (k+1):=by rw[List.drop_eq_getElem_cons hk,←hc];simp[hk]
  conv=>lhs;rw[h0,h1]
  rw[List.drop_append_of_le_length (by rw[List.length_take];omega)]
 rw[e,zac _ hn]
theorem cut_end{l:B}{d:UInt8}{q:Nat}(hn:∀c∈(l.take l.length).drop q,c≠d):pieces d (l.drop q)=[(l.take l.length).drop q]:=by
 rw[List.take_length] at*;exact zab hn
structure CutI (l:B) (d:UInt8) (k q:Nat) (done:TL):Prop where
 le:k≤l.length+1
 few:done.length≤k
 on:k≤l.length→q≤k∧(∀c∈(l.take k).drop q,c≠d)∧pieces d l=done++pieces d (l.drop q)
 out:k=l.length+1→pieces d l=done
theorem CutI.start(l:B)(d:UInt8):CutI l d 0 0 []:=⟨by omega,by simp,fun _=>⟨Nat.le_refl _,by simp,by simp⟩,fun h=>by omega⟩
theorem CutI.hit{l:B}{d:UInt8}{k q:Nat}{done:TL}(h:CutI l d k q done)(hk:k<l.length)(hc:l.getD k 0=d):CutI l d (k+1) (k+1) (done++ [(l.take k).drop q]):=by
 obtain⟨h1,h2,h3⟩:=h.on (by omega);have hf:=h.few;refine⟨by omega,by simp;omega,fun _=>⟨Nat.le_refl _,?_,?_⟩,fun e=>by omega⟩
 · intro c hc2
   rw[List.drop_eq_nil_of_le (by rw[List.length_take];omega)] at hc2;simp at hc2
 · rw[h3,cut_hit h1 hk hc h2];simp
theorem CutI.last{l:B}{d:UInt8}{q:Nat}{done:TL}(h:CutI l d l.length q done):CutI l d (l.length+1) (l.length+1) (done++ [(l.take l.length).drop q]):=by
 obtain⟨h1,h2,h3⟩:=h.on (by omega);have hf:=h.few;refine⟨by omega,by simp;omega,fun e=>by omega,fun _=>?_⟩;rw[h3,cut_end h2]
theorem CutI.next{l:B}{d:UInt8}{k q:Nat}{done:TL}(h:CutI l d k q done)(hk:k<l.length)(hc:l.getD k 0≠d):CutI l d (k+1) q done:=by
 obtain⟨h1,h2,h3⟩:=h.on (by omega);have hf:=h.few;refine⟨by omega,by omega,fun _=>⟨by omega,?_,h3⟩,fun e=>by omega⟩;rw[cut_on h1 hk];intro c hcm;rcases List.mem_append.1 hcm with e|e
 · exact h2 c e
 · rw[List.mem_singleton] at e;rw[e];exact hc
set_option maxRecDepth 100000 in
theorem zdt(l:B)(d:UInt8)(w:World)(hl:l.length≤1000000):
 Calls Tryz.prog 38 #[.string (str l),.int .u8 (d.toNat:Int)] w fun e w'=>∃v,e= .returned v∧OwnT w' w.heap.size v ((pieces d l).map str)∧Below w.heap.size w w':=by
 have hs:=zbo l;obtain⟨i0,hi,hz0,hz1,hz2⟩:=info_parts info_text;have HX:=hid (fun a (h:a<l.length)=>zbr l a a rfl h);have hd:=d.toNat_lt;go_enter Tryz.func38,Tryz.ntmps38;go_wp2_with fail;go_loopw [5,6,7] (fun vl vq vk wr=>∃(k q:Nat) (ms:TL),vq= .int .i64 q∧vk= .int .i64 k∧Hid (CutI l d k q ms)∧Hid (OwnT wr w.heap.size vl (ms.map str))∧Hid (Below w.heap.size w wr)) (fun _ _ vk _=>l.length+1-(intOf vk).toNat)
 case atStart=>exact⟨0,0,[],rfl,rfl,hid (CutI.start l d),hid (OwnT.nil _ _),hid (Below.refl _ _)⟩
 case round=>
  obtain⟨k,q,ms,rfl,rfl,HI,HO,HB⟩:=hrel;rename World=>wr
  have hle:=HI.out.le;have hfew:=HI.out.few;by_cases hk:k≤l.length
  · have hdec:decide ((k:Int)≤(l.length:Int))=true:=decide_eq_true (by omega)
    obtain⟨hq,hon1,hon2⟩:=HI.out.on hk;have hsl:=zdj l q k q k rfl rfl hq hk;clear hon1 hon2;obtain⟨L,hL⟩:∃L,L=ms.map str:=⟨_,rfl⟩;have hLl:L.length=ms.length:=by rw[hL,List.length_map]
    have HO1:=HO.out;rw[←hL] at HO1;have HL:=hid hL;clear hL;obtain⟨P,hP⟩:∃P,P=(l.take k).drop q:=⟨_,rfl⟩;rw[←hP] at hsl;have HPP:=hid hP;clear hP;have HLL:=hid hLl;clear hLl;have HL2:L.length≤1000001:=by rw[HLL.out];omega
    rcases Nat.lt_or_ge k l.length with hlt|hge
    · have hx:=HX.out k hlt
      have HHIT:=hid (fun h=>HI.out.hit hlt h);have HNEXT:=hid (fun h=>HI.out.next hlt h);have hkl:((k:Int) == (l.length:Int))=false:=beq_eq_false_iff_ne.2 (by omega);generalize l.getD k 0=c at*;by_cases hc:c=d
      · have HH:=hid (HHIT.out hc)
        subst hc;clear HHIT HNEXT;go_wp2_with (at_builtin;refine zdh rfl _ _ 98 rfl w.heap.size 9 i0 (.string ⟨#[]⟩) Tryz.underlying98 hi hz0 hz1 hz2 rfl _ _ _ rfl (World.ownsRow.alloc HO1 _) ⟨wr.heap.size,0,none⟩ 1 (.string (str P)) rfl (zdf _ _ _) rfl ?c1 ?c2 ?_)
        case c1=>omega
        case c2=>have:=HB.out.size;simp;omega
        intro v' w2 hown' hg;have HB2:Hid (Below w.heap.size w w2):=hid ((HB.out.alloc HB.out.size _).grown hg (by have:=HB.out.size;simp;omega) (zdl HO1));have HO2:=hid (snoc hown' rfl);clear hown' hg HO1 HB;go_wp2_with fail;go_roundw
        case rel=>exact⟨k+1,k+1,ms++ [P],by go_num,by go_num,by rw[HPP.out];exact HH,by rw[List.map_append,List.map_singleton,←HL.out];exact HO2,HB2⟩
        case measure=>(simp [intOf];try omega)
      · have HH:=hid (HNEXT.out hc)
        have hcn:((c.toNat:Int) == (d.toNat:Int))=false:=beq_eq_false_iff_ne.2 (fun e=>hc (UInt8.toNat_inj.1 (by omega)));clear HHIT HNEXT hc;go_wp2_with fail;go_roundw
        case rel=>exact⟨k+1,q,ms,rfl,by go_num,HH,HO,HB⟩
        case measure=>(simp [intOf];try omega)
    · obtain rfl:k=l.length:=by omega
      have HH:=hid HI.out.last;go_wp2_with (at_builtin;refine zdh rfl _ _ 98 rfl w.heap.size 9 i0 (.string ⟨#[]⟩) Tryz.underlying98 hi hz0 hz1 hz2 rfl _ _ _ rfl (World.ownsRow.alloc HO1 _) ⟨wr.heap.size,0,none⟩ 1 (.string (str P)) rfl (zdf _ _ _) rfl ?c1 ?c2 ?_)
      case c1=>omega
      case c2=>have:=HB.out.size;simp;omega
      intro v' w2 hown' hg;have HB2:Hid (Below w.heap.size w w2):=hid ((HB.out.alloc HB.out.size _).grown hg (by have:=HB.out.size;simp;omega) (zdl HO1));have HO2:=hid (snoc hown' rfl);clear hown' hg HO1 HB;go_wp2_with fail;go_roundw
      case rel=>exact⟨l.length+1,l.length+1,ms++ [P],by go_num,by go_num,by rw[HPP.out];exact HH,by rw[List.map_append,List.map_singleton,←HL.out];exact HO2,HB2⟩
      case measure=>(simp [intOf];try omega)
  · have hdec:decide ((k:Int)≤(l.length:Int))=false:=decide_eq_false (by omega)
    have HH:=hid (HI.out.out (by omega));go_wp2_with fail;go_ret;exact⟨_,rfl,by rw[HH.out];exact HO.out,HB.out⟩
end VerC
open Go.RowKit
namespace VerC
open VerM StrC TextR
theorem zdu:(Tryz.prog.info? 196).map (·.size)=some 4:=by kernel_rfl
theorem zdv(x y z:Int)(a:Option Addr)(n cap:Nat):(#[Value.int .u32 x,.int .u32 y,.int .u32 z,.slice a n cap].all (·.oneCell'))=true:=by simp[Value.oneCell']
abbrev verV(x y z:Int)(a:Option Addr)(n cap:Nat):Value:=.agg #[.int .u32 x,.int .u32 y,.int .u32 z,.slice a n cap]
abbrev verO(x y z:Int)(a:Option Addr)(n cap:Nat):Obj:=.cells #[.int .u32 x,.int .u32 y,.int .u32 z,.slice a n cap] 196
theorem zdw{w:World}{g:Nat}{x y z:Int}{a:Option Addr}{n cap:Nat}(h:w.heap[g]?=some (verO x y z a n cap)):
 w.cell? ⟨g,0,none⟩=some (.int .u32 x)∧w.cell? ⟨g,1,none⟩=some (.int .u32 y)∧w.cell? ⟨g,2,none⟩=some (.int .u32 z)∧w.cell? ⟨g,3,none⟩=some (.slice a n cap):=by
 refine⟨?_,?_,?_,?_⟩<;>simp[World.cell?,h]
theorem zdx{w:World}{g:Nat}{x y z:Int}{a:Option Addr}{n cap:Nat}(h:w.heap[g]?=some (verO x y z a n cap))(j:Nat)(s:ByteArray):w.cell? ⟨g,j,none⟩≠some (.string s):=by
 obtain⟨h0,h1,h2,h3⟩:=zdw h
 match j with
 | 0=>rw[h0];simp
 | 1=>rw[h1];simp
 | 2=>rw[h2];simp
 | 3=>rw[h3];simp
 | j+4=>simp[World.cell?,h]
def textE(v:Ver):Ending:=if zao v then .returned (.tuple #[.string (str (text v)),.int .i64 0]) else .returned (.tuple #[.string (str []),.int .i64 70])
theorem zdy{P:Program}{fn:Func}{p q:Tmp}{ty:TypeId}(h:fn.results=#[.cell p ty,.tmp q])(tmps:Array Value)(w:World)(g:Nat)(t:TypeId)(cs:Array Value)(fr:Nat×Nat)(d:TypeDesc)
 (hp:tmps.getD p undef= .pointer (some ⟨g,0,none⟩)) (hg:w.heap[g]?=some (.cells cs t fr))
 (hu:P.underlying ty=some d) (hd:(match d with | .struct _ | .array _ _=>true | _=>false)=true) (hi:(P.info? ty).map (·.size)=some cs.size):
 (results fn tmps).run P w= .ok (.tuple #[.agg cs,tmps.getD q undef]) w:=by
 have hp':tmps[p]?.getD undef= .pointer (some ⟨g,0,none⟩):=by simpa using hp
 simp[results,h,hp',asAddr,run_loadVar_row w g t ty cs fr d hg hu hd hi]
theorem zdz{w:World}{g:Nat}{cs:Array Value}{t:TypeId}{fr:Nat×Nat}(h:w.heap[g]?=some (.cells cs t fr))(i:Nat)(v:Value):(w.setCell ⟨g,i,none⟩ v).heap[g]?=some (.cells (cs.setIfInBounds i v) t fr):=by
 unfold World.setCell;simp[Array.getElem?_modify,h]
theorem zea{w:World}{g k:Nat}(i:Nat)(v:Value)(h:k≠g):(w.setCell ⟨g,i,none⟩ v).heap[k]?=w.heap[k]?:=Below.heap_setCell w ⟨g,i,none⟩ v k h
theorem zeb{w:World}{g:Nat}{cs:Array Value}{t:TypeId}(h:w.heap[g]?=some (.cells cs t (0,0)))(i:Nat):w.frozen? ⟨g,i,none⟩=false:=by simp[World.frozen?,h]
def ReadE(l:B)(w:World)(e:Ending):Prop:=match readB l with
 | some v=>∃a cap,e= .returned (.tuple #[verV v.a v.b v.c a v.pre.length cap,.int .i64 0])∧Txs w a cap v.pre
 | none=>e= .returned (.tuple #[verV 0 0 0 none 0 0,.int .i64 70])
theorem zec{l:B}{w:World}(h:readB l=none):ReadE l w (.returned (.tuple #[verV 0 0 0 none 0 0,.int .i64 70])):=by unfold ReadE;rw[h]
theorem zed{l:B}{w:World}{v:Ver}{a:Option Addr}{cap:Nat}(h:readB l=some v)(hT:Txs w a cap v.pre):ReadE l w (.returned (.tuple #[verV v.a v.b v.c a v.pre.length cap,.int .i64 0])):=by unfold ReadE;rw[h];exact⟨a,cap,rfl,hT⟩
theorem zee{l:B}(h:128<l.length):readB l=none:=by unfold readB;rw[if_neg (by omega)]
theorem zef{l:B}(h:l.length≤128)(hp:(pieces 46 (head l)).length≠3):readB l=none:=by
 unfold readB;rw[if_pos h]
 split
 · rename_i e;rw[e] at hp;exact absurd rfl hp
 · rfl
theorem zeg{l x y z:B}(h:l.length≤128)(hp:pieces 46 (head l)=[x,y,z]):readB l=readV x y z (ids l):=by unfold readB;rw[if_pos h,hp]
theorem zeh(l:B):(head l).length≤l.length:=by unfold head;exact(List.takeWhile_prefix _).length_le
theorem zei(l:B):(ids l=[]∧head l=l∧∀c∈l,c≠45)∨∃k,k<l.length∧l.getD k 0=45∧head l=l.take k∧ids l=pieces 46 (l.drop (k+1))∧∀c∈l.take k,c≠45:=by
 rcases zag 45 l with h|⟨x,r,e,hx⟩
 · exact .inl ⟨(zal h).2,(zal h).1,h⟩
 · subst e
   refine .inr ⟨x.length,by simp,by simp,?_,?_,?_⟩
   · rw[(zam r hx).1];simp
   · rw[(zam r hx).2,←List.drop_drop];simp
   · simpa using hx
theorem zej(l:B):(ids l).length≤l.length+1:=by
 rcases zei l with ⟨h,_⟩|⟨k,hk,_,_,h,_⟩
 · rw[h];simp
 · rw[h];have:=zad 46 (l.drop (k+1));rw[List.length_drop] at this;omega
theorem zek(l:B):∀s∈ids l,s.length≤l.length:=by
 rcases zei l with ⟨h,_⟩|⟨k,hk,_,_,h,_⟩
 · rw[h];simp
 · rw[h];intro s hs;have:=zae 46 (l.drop (k+1)) s hs;rw[List.length_drop] at this;omega
set_option maxRecDepth 100000 in
theorem zel(l:B)(w:World):
 Calls Tryz.prog 124 #[.string (str l)] w fun e w'=>ReadE l w' e∧Below w.heap.size w w':=by
 have hs:=zbo l;have hnew:=heap_alloc_new w (verO 0 0 0 none 0 0);have HB0:=hid ((Below.refl _ w).alloc (Nat.le_refl _) (verO 0 0 0 none 0 0));rcases Nat.lt_or_ge 128 l.length with hl|hl
 · have HNO:=hid (zee hl)
   have hd:decide (128<(l.length:Int))=true:=decide_eq_true (by omega);clear hl;go_enter Tryz.func124,Tryz.ntmps124;go_wp2_with (refine wpList_store_row rfl 196 _ _ rfl w.heap.size #[.int .u32 0,.int .u32 0,.int .u32 0,.slice none 0 0] rfl rfl _ _ hnew zdu rfl (zdv _ _ _ _ _ _) ?_)
   refine bodyPost_ret (zdy rfl _ _ w.heap.size _ #[.int .u32 0,.int .u32 0,.int .u32 0,.slice none 0 0] _ _ rfl (setRow_heap _ _ _ _ _ _ hnew) Tryz.underlying196 rfl zdu) rfl ?_;exact⟨zec HNO.out,below_setRow HB0.out (Nat.le_refl _) _⟩
 have hd:decide (128<(l.length:Int))=false:=decide_eq_false (by omega);have hsz1:(w.alloc (verO 0 0 0 none 0 0)).heap.size=w.heap.size+1:=by simp
 have HHL:=hid (zeh l);have HX:=hid (fun a (h:a<l.length)=>zbr l a a rfl h);go_enter Tryz.func124,Tryz.ntmps124;go_upto_block 0 with fail
 go_cut [4] from 6 to 37 (fun v4 wx=>∃(a:Option Addr) (cap:Nat),v4= .string (str (head l))∧Hid (wx.heap[w.heap.size]?=some (verO 0 0 0 none 0 0))∧Hid (wx.heap[w.heap.size+1]?=some (verO 0 0 0 a (ids l).length cap))∧Hid (Txs wx a cap (ids l))∧Hid (Below w.heap.size w wx))
 case first=>
  have hnew2:=heap_alloc_new (w.alloc (verO 0 0 0 none 0 0)) (verO 0 0 0 none 0 0);have hold2:=(heap_alloc_old (w.alloc (verO 0 0 0 none 0 0)) (verO 0 0 0 none 0 0) (r:=w.heap.size) (by rw[hsz1];omega)).trans hnew;have HB1:=hid (HB0.out.alloc HB0.out.size (verO 0 0 0 none 0 0));have hsz2:((w.alloc (verO 0 0 0 none 0 0)).alloc (verO 0 0 0 none 0 0)).heap.size=w.heap.size+2:=by simp
  rw[hsz1] at hnew2;go_wp2_with fail;generalize (w.alloc (verO 0 0 0 none 0 0)).alloc (verO 0 0 0 none 0 0)=W at*;go_loop [4,6] (fun v i=>∃k:Nat,v= .string (str l)∧k≤l.length∧i= .int .i64 k∧Hid (∀c∈l.take k,c≠45)) (fun _ i=>l.length-(intOf i).toNat)
  case atStart=>exact⟨0,rfl,Nat.zero_le _,rfl,hid (by simp)⟩
  case round=>
   obtain⟨k,rfl,hk,rfl,HQ⟩:=hrel;by_cases hlt:k<l.length
   · have hdec:decide (k<l.length)=true:=by simpa using hlt
     have hx:=HX.out k hlt;by_cases hc:l.getD k 0=45
     · have hel:l=l.take k++45 :: l.drop (k+1):=by
        have h1:l.drop k=45 :: l.drop (k+1):=by rw[List.drop_eq_getElem_cons hlt,←hc];simp[hlt]
        rw[←h1,List.take_append_drop]
       have hhd:head l=l.take k∧ids l=pieces 46 (l.drop (k+1)):=by
        have:=zam (l.drop (k+1)) HQ.out
        rw[←hel] at this;exact this
       have HHD:=hid hhd.1;have hs1:=sl_to l k k rfl (by omega);have hs2:=zdk l ((k:Int)+1) (k+1) (by omega) (by omega);have HCUT:=hid (fun w=>zdt (l.drop (k+1)) 46 w (by rw[List.length_drop];omega));rw[←hhd.2] at HCUT;have HF:=hid (zej l);have HSH:=hid (zek l);clear hhd hel;generalize l.getD k 0=c at*;have d45:((c.toNat:Int) == 45)=true:=by rw[hc];rfl
       clear hc;go_wp2_with (go_at_call 38;refine(HCUT.out _).mono ?_;rintro e w3 ⟨v,rfl,ho,hb⟩;refine Hid.out ?_)
       refine hid ?_;obtain⟨a,cap,rfl,hT⟩:=zdm ho (fun s hs=>by have:=HSH.out s hs;omega) (by have:=HF.out;omega);have hr3:=(hb.block w.heap.size (by omega)).trans hold2;have hc3:=(hb.block (w.heap.size+1) (by omega)).trans hnew2;obtain⟨q0,q1,q2,q3⟩:=zdw hc3;have hf:=zeb hc3 3;have HB3:=hid (HB1.out.trans (hb.mono (by omega)));have HT3:=hid hT;have hbs:=hb.size;clear ho hb hT;go_wp2_with fail;go_meet
       case rel=>
        refine⟨a,cap,by rw[HHD.out],hid ((zea 3 _ (by omega)).trans hr3),hid (zdz hc3 3 _),hid ⟨HT3.out.cap,HT3.out.short,HT3.out.few,fun h0=>?_⟩,hid (HB3.out.trans ⟨rfl,rfl,rfl,by simp,fun q hq=>zea 3 _ (by omega)⟩)⟩;obtain⟨b,o,e,hcell⟩:=HT3.out.cells h0;refine⟨b,o,e,fun i hi=>?_⟩;have hci:=hcell i hi;have hbc:b≠w.heap.size+1:=fun e=>by rw[e] at hci;exact zdx hc3 _ _ hci
        rw[World.cell?_setCell_far _ _ _ _ (Ne.symm hbc)];exact hci
     · have HN:=hid (show ∀c∈l.take (k+1),c≠45 from fun c hcm=>by
        rw[List.take_add_one,List.getElem?_eq_getElem hlt] at hcm;rcases List.mem_append.1 hcm with e|e
        · exact HQ.out c e
        · have:c=l[k]:=by simpa using e
          rw[this];intro e2;exact hc (by rw[List.getD_eq_getElem?_getD,List.getElem?_eq_getElem hlt];exact e2))
       generalize l.getD k 0=c at*;have d45:((c.toNat:Int) == 45)=false:=beq_eq_false_iff_ne.2 (fun e=>hc (UInt8.toNat_inj.1 (by show c.toNat=45;omega)));clear hc;go_wp2_with fail;go_round
       case rel=>exact⟨k+1,rfl,by omega,by go_num,HN⟩
       case measure=>(simp [intOf];try omega)
   · have hdec:decide (k<l.length)=false:=by simpa using hlt
     have hke:l.take k=l:=List.take_of_length_le (by omega);have HHN:=hid (zal (s:=l) (by have:=HQ.out;rw[hke] at this;exact this));go_wp2_with fail;go_meet
     case rel=>exact⟨none,0,by rw[HHN.out.1],hid hold2,hid (by rw[HHN.out.2];exact hnew2),hid (by rw[HHN.out.2];exact Txs.nil _ _ _),HB1⟩
 case rest=>
  obtain⟨a,cap,rfl,HR,HC,HT,HB⟩:=hcut;have HCUT:=hid (fun w=>zdt (head l) 46 w (by have:=HHL.out;omega));have hwl:w.heap.size+1<wc.heap.size:=(Array.getElem?_eq_some_iff.1 HC.out).1;have HPL:=hid (zad 46 (head l));have HPM:=hid (zae 46 (head l));have HRP:=hid (fun h=>zef hl h);have HR3:=hid (fun x y z h=>zeg (x:=x) (y:=y) (z:=z) hl h);have HFEW:=hid (zej l);clear hsz1 hnew HB0;go_wp2_with (go_at_call 38;refine(HCUT.out _).mono ?_;rintro e w2 ⟨v,rfl,ho,hb⟩;refine Hid.out ?_)
  refine hid ?_;obtain⟨a2,cap2,rfl,hT2⟩:=zdm ho (fun s hs=>by have:=HPM.out s hs;have:=HHL.out;omega) (by have:=HPL.out;have:=HHL.out;omega);have hr2:=(hb.block w.heap.size (by omega)).trans HR.out;have hc2:=(hb.block (w.heap.size+1) (by omega)).trans HC.out;have HT2:=hid (HT.out.gr hb);have HB2:=hid (HB.out.trans (hb.mono (by omega)));have hbs:=hb.size;clear ho hb HR HC HT HB;by_cases hp:(pieces 46 (head l)).length=3
  rotate_left
  · have HNO:=hid (HRP.out hp)
    have dn:(((pieces 46 (head l)).length:Int) != 3)=true:=by rw[bne_iff_ne];omega
    clear hp;go_wp2_with (refine wpList_store_row rfl 196 _ _ rfl w.heap.size #[.int .u32 0,.int .u32 0,.int .u32 0,.slice none 0 0] rfl rfl _ _ hr2 zdu rfl (zdv _ _ _ _ _ _) ?_)
    refine bodyPost_ret (zdy rfl _ _ w.heap.size _ #[.int .u32 0,.int .u32 0,.int .u32 0,.slice none 0 0] _ _ rfl (setRow_heap _ _ _ _ _ _ hr2) Tryz.underlying196 rfl zdu) rfl ?_;exact⟨zec HNO.out,below_setRow HB2.out (Nat.le_refl _) _⟩
  obtain⟨x,y,z,hxyz⟩:∃x y z,pieces 46 (head l)=[x,y,z]:=by
   match pieces 46 (head l),hp with
   | [x,y,z],_=>exact⟨x,y,z,rfl⟩
  have HRV:=hid (HR3.out x y z hxyz);have hlx:=fun s (hs:s∈[x,y,z])=>HPM.out s (by rw[hxyz];exact hs)
  have hhl:=HHL.out;have NX:=hid (fun w=>zcq x w (by have:=hlx x (by simp);omega));have NY:=hid (fun w=>zcq y w (by have:=hlx y (by simp);omega));have NZ:=hid (fun w=>zcq z w (by have:=hlx z (by simp);omega));rw[hxyz] at hT2 ⊢;clear HPM HPL HRP HR3 hp hxyz hlx;obtain⟨b2,o2,rfl,hcl⟩:=hT2.cells (by simp);have e0:w2.cell? ⟨b2,o2,none⟩=some (.string (str x)):=hcl 0 (by simp);have e1:w2.cell? ⟨b2,o2+1,none⟩=some (.string (str y)):=hcl 1 (by simp);have e2:w2.cell? ⟨b2,o2+2,none⟩=some (.string (str z)):=hcl 2 (by simp);have f0:=zeb hc2 0;have f1:=zeb hc2 1;have f2:=zeb hc2 2;obtain⟨q0,q1,q2,q3⟩:=zdw hc2;have TK1:=hid hhl;have TK2:=hid hhl;clear hcl hT2 hhl
  go_upto_region 20 with (first
   | (go_at_call 147;clear TK1;refine(NX.out _).mono ?_;rintro e w' ⟨xa,rfl,hxa,rfl⟩)
   | (go_at_call 147;clear TK2;refine(NY.out _).mono ?_;rintro e w' ⟨xb,rfl,hxb,rfl⟩)
   | (go_at_call 147;refine(NZ.out _).mono ?_;rintro e w' ⟨xc,rfl,hxc,rfl⟩))
  have hc5:(((w2.setCell ⟨w.heap.size+1,0,none⟩ (.int .u32 xa)).setCell ⟨w.heap.size+1,1,none⟩ (.int .u32 xb)).setCell ⟨w.heap.size+1,2,none⟩ (.int .u32 xc)).heap[w.heap.size+1]?=some (verO xa xb xc a (ids l).length cap):=zdz (zdz (zdz hc2 0 _) 1 _) 2 _
  have hr5:(((w2.setCell ⟨w.heap.size+1,0,none⟩ (.int .u32 xa)).setCell ⟨w.heap.size+1,1,none⟩ (.int .u32 xb)).setCell ⟨w.heap.size+1,2,none⟩ (.int .u32 xc)).heap[w.heap.size]?=some (verO 0 0 0 none 0 0):=by
   rw[zea 2 _ (by omega),zea 1 _ (by omega),zea 0 _ (by omega)];exact hr2
  have HT5:Hid (Txs (((w2.setCell ⟨w.heap.size+1,0,none⟩ (.int .u32 xa)).setCell ⟨w.heap.size+1,1,none⟩ (.int .u32 xb)).setCell ⟨w.heap.size+1,2,none⟩ (.int .u32 xc)) a cap (ids l)):=by
   refine hid ⟨HT2.out.cap,HT2.out.short,HT2.out.few,fun h0=>?_⟩;obtain⟨b,o,e,hcell⟩:=HT2.out.cells h0;refine⟨b,o,e,fun i hi=>?_⟩;have hci:=hcell i hi;have hbc:w.heap.size+1≠b:=fun e=>by rw[←e] at hci;exact zdx hc2 _ _ hci
   rw[World.cell?_setCell_far _ _ _ _ hbc,World.cell?_setCell_far _ _ _ _ hbc,World.cell?_setCell_far _ _ _ _ hbc];exact hci
  have HB5:Hid (Below w.heap.size w (((w2.setCell ⟨w.heap.size+1,0,none⟩ (.int .u32 xa)).setCell ⟨w.heap.size+1,1,none⟩ (.int .u32 xb)).setCell ⟨w.heap.size+1,2,none⟩ (.int .u32 xc))):=
   hid (HB2.out.trans ⟨rfl,rfl,rfl,by simp,fun q hq=>by rw[zea 2 _ (by omega),zea 1 _ (by omega),zea 0 _ (by omega)]⟩)
  clear hc2 hr2 HT2 HB2 e0 e1 e2 f0 f1 f2 q0 q1 q2 q3;generalize (((w2.setCell ⟨w.heap.size+1,0,none⟩ (.int .u32 xa)).setCell ⟨w.heap.size+1,1,none⟩ (.int .u32 xb)).setCell ⟨w.heap.size+1,2,none⟩ (.int .u32 xc))=W5 at*;have hw5:w.heap.size+1<W5.heap.size:=(Array.getElem?_eq_some_iff.1 hc5).1;clear NX NY NZ;have hno:∀u,(numb u).isSome=false→numb u=none:=fun u h=>by cases hh:numb u;rfl;rw[hh] at h;cases h
  have HVX:=hid hxa;have HVY:=hid hxb;have HVZ:=hid hxc;clear hxa hxb hxc;by_cases hbx:(numb x).isSome=true
  rotate_left
  · have hbx':(numb x).isSome=false:=by simpa using hbx
    have HNO:=hid (show readB l=none by rw[HRV.out];unfold readV;rw[hno x hbx']);rw[hbx'];clear hbx hbx' hno;go_wp2_with (refine wpList_store_row rfl 196 _ _ rfl w.heap.size #[.int .u32 0,.int .u32 0,.int .u32 0,.slice none 0 0] rfl rfl _ _ hr5 zdu rfl (zdv _ _ _ _ _ _) ?_)
    refine bodyPost_ret (zdy rfl _ _ w.heap.size _ #[.int .u32 0,.int .u32 0,.int .u32 0,.slice none 0 0] _ _ rfl (setRow_heap _ _ _ _ _ _ hr5) Tryz.underlying196 rfl zdu) rfl ?_;exact⟨zec HNO.out,below_setRow HB5.out (Nat.le_refl _) _⟩
  by_cases hby:(numb y).isSome=true
  rotate_left
  · have hby':(numb y).isSome=false:=by simpa using hby
    have HNO:=hid (show readB l=none by rw[HRV.out];unfold readV;rw[hno y hby'];split<;>simp_all);rw[hbx,hby'];clear hbx hby hby' hno;go_wp2_with (refine wpList_store_row rfl 196 _ _ rfl w.heap.size #[.int .u32 0,.int .u32 0,.int .u32 0,.slice none 0 0] rfl rfl _ _ hr5 zdu rfl (zdv _ _ _ _ _ _) ?_)
    refine bodyPost_ret (zdy rfl _ _ w.heap.size _ #[.int .u32 0,.int .u32 0,.int .u32 0,.slice none 0 0] _ _ rfl (setRow_heap _ _ _ _ _ _ hr5) Tryz.underlying196 rfl zdu) rfl ?_;exact⟨zec HNO.out,below_setRow HB5.out (Nat.le_refl _) _⟩
  by_cases hbz:(numb z).isSome=true
  rotate_left
  · have hbz':(numb z).isSome=false:=by simpa using hbz
    have HNO:=hid (show readB l=none by rw[HRV.out];unfold readV;rw[hno z hbz'];split<;>simp_all);rw[hbx,hby,hbz'];clear hbx hby hbz hbz' hno;go_wp2_with (refine wpList_store_row rfl 196 _ _ rfl w.heap.size #[.int .u32 0,.int .u32 0,.int .u32 0,.slice none 0 0] rfl rfl _ _ hr5 zdu rfl (zdv _ _ _ _ _ _) ?_)
    refine bodyPost_ret (zdy rfl _ _ w.heap.size _ #[.int .u32 0,.int .u32 0,.int .u32 0,.slice none 0 0] _ _ rfl (setRow_heap _ _ _ _ _ _ hr5) Tryz.underlying196 rfl zdu) rfl ?_;exact⟨zec HNO.out,below_setRow HB5.out (Nat.le_refl _) _⟩
  obtain⟨na,hna⟩:=Option.isSome_iff_exists.1 hbx;obtain⟨nb,hnb⟩:=Option.isSome_iff_exists.1 hby;obtain⟨nc,hnc⟩:=Option.isSome_iff_exists.1 hbz;have ea:=HVX.out na hna;have eb:=HVY.out nb hnb;have ec:=HVZ.out nc hnc;subst ea eb ec;rw[hbx,hby,hbz];have HV:=hid (show readB l=if may ⟨na,nb,nc,ids l⟩ then some ⟨na,nb,nc,ids l⟩ else none by rw[HRV.out];unfold readV;rw[hna,hnb,hnc]);clear hbx hby hbz hna hnb hnc HVX HVY HVZ hno HRV;have HM:=hid (rmay_any ⟨na,nb,nc,ids l⟩ a cap W5 HT5.out);obtain⟨q0,q1,q2,q3⟩:=zdw hc5;rcases Bool.eq_false_or_eq_true (may ⟨na,nb,nc,ids l⟩) with hm|hm
  · have HSO:=hid (show readB l=some ⟨na,nb,nc,ids l⟩ by rw[HV.out,hm];rfl)
    rw[hm] at HM;clear hm HV;go_wp2_with (go_at_call 148;refine HM.out.mono ?_;rintro e w6 ⟨rfl,hg6⟩;refine Hid.out ?_)
    refine hid ?_;have hr6:=(hg6.below.block w.heap.size (by omega)).trans hr5;have hc6:=(hg6.below.block (w.heap.size+1) (by omega)).trans hc5;have HT6:=hid (HT5.out.gr hg6.below);have HB6:=hid (HB5.out.trans (hg6.below.mono (by omega)));have hw6:w.heap.size<w6.heap.size:=(Array.getElem?_eq_some_iff.1 hr6).1;clear hg6 HM hr5 hc5 HT5 HB5 q0 q1 q2 q3
    go_wp2_with (first
     | (refine wpList_load_row rfl 196 _ rfl (w.heap.size+1) rfl _ _ _ _ hc6 Tryz.underlying196 rfl zdu ?_)
     | (refine wpList_store_row rfl 196 _ _ rfl w.heap.size #[.int .u32 na,.int .u32 nb,.int .u32 nc,.slice a (ids l).length cap] rfl rfl _ _ hr6 zdu rfl (zdv _ _ _ _ _ _) ?_))
    refine bodyPost_ret (zdy rfl _ _ w.heap.size _ #[.int .u32 na,.int .u32 nb,.int .u32 nc,.slice a (ids l).length cap] _ _ rfl (setRow_heap _ _ _ _ _ _ hr6) Tryz.underlying196 rfl zdu) rfl ?_;refine⟨zed (v:=⟨na,nb,nc,ids l⟩) HSO.out ⟨HT6.out.cap,HT6.out.short,HT6.out.few,fun h0=>?_⟩,below_setRow HB6.out (Nat.le_refl _) _⟩;obtain⟨b,o,e,hcell⟩:=HT6.out.cells h0;refine⟨b,o,e,fun i hi=>?_⟩;have hci:=hcell i hi;have hbc:b≠w.heap.size:=fun e=>by rw[e] at hci;exact zdx hr6 _ _ hci
    have:=setRow_other w6 w.heap.size b #[.int .u32 na,.int .u32 nb,.int .u32 nc,.slice a (ids l).length cap] hbc
    unfold World.cell? at hci ⊢;rw[this];exact hci
  · have HNO:=hid (show readB l=none by rw[HV.out,hm];rfl)
    rw[hm] at HM;clear hm HV;go_wp2_with (go_at_call 148;refine HM.out.mono ?_;rintro e w6 ⟨rfl,hg6⟩;refine Hid.out ?_)
    refine hid ?_;have hr6:=(hg6.below.block w.heap.size (by omega)).trans hr5;have HB6:=hid (HB5.out.trans (hg6.below.mono (by omega)));clear hg6 HM hr5 hc5 HT5 HB5 q0 q1 q2 q3;go_wp2_with (refine wpList_store_row rfl 196 _ _ rfl w.heap.size #[.int .u32 0,.int .u32 0,.int .u32 0,.slice none 0 0] rfl rfl _ _ hr6 zdu rfl (zdv _ _ _ _ _ _) ?_)
    refine bodyPost_ret (zdy rfl _ _ w.heap.size _ #[.int .u32 0,.int .u32 0,.int .u32 0,.slice none 0 0] _ _ rfl (setRow_heap _ _ _ _ _ _ hr6) Tryz.underlying196 rfl zdu) rfl ?_;exact⟨zec HNO.out,below_setRow HB6.out (Nat.le_refl _) _⟩
end VerC
end
section
namespace VerM
def valF(acc:Nat)(s:B):Nat:=s.foldl (fun n c=>10*n+(c.toNat-48)) acc
theorem zem:∀(s:B) (acc:Nat),acc≤valF acc s
 | [],acc=>Nat.le_refl _
 | c :: r,acc=>by
   have:=zem r (10*acc+(c.toNat-48))
   show acc≤valF (10*acc+(c.toNat-48)) r;omega
theorem zen:∀(l:B) (acc u:Nat),acc≤4294967295→(Lib.parseUintM 4294967295 acc l= .ok u↔l.all dig=true∧valF acc l≤4294967295∧u=valF acc l)
 | [],acc,u,h=>by
   show Lib.NumEnd.ok acc= .ok u↔_
   constructor
   · intro e;cases e;exact⟨rfl,h,rfl⟩
   · rintro⟨_,_,e⟩;rw[e];rfl
 | c :: r,acc,u,h=>by
   rw[Lib.parseUintM,List.all_cons];by_cases hd:48≤c.toNat∧c.toNat≤57
   · have hdc:dig c=true:=by simp[dig,hd.1,hd.2]
     rw[if_pos hd,hdc,Bool.true_and,if_neg (by omega)];have e:valF acc (c :: r)=valF (acc*10+(c.toNat-48)) r:=by rw[Nat.mul_comm];rfl
     rw[e];by_cases hm:4294967295<acc*10+(c.toNat-48)
     · rw[if_pos hm]
       constructor
       · intro e;cases e
       · rintro⟨_,h2,_⟩
         have:=zem r (acc*10+(c.toNat-48))
         omega
     · rw[if_neg hm]
       exact zen r _ u (by omega)
   · have hdc:dig c=false:=by
      unfold dig;rw[Bool.and_eq_false_iff,decide_eq_false_iff_not,decide_eq_false_iff_not];omega
     rw[if_neg hd,hdc,Bool.false_and]
     constructor
     · intro e;cases e
     · rintro⟨h1,_⟩;cases h1
theorem zeo(l:B)(u:Nat):Lib.parseUintB 32 l= .ok u↔digs l=true∧val l≤4294967295∧u=val l:=by
 unfold Lib.parseUintB digs;by_cases h:l=[]
 · rw[if_pos h]
   constructor
   · intro e;cases e
   · rintro⟨h1,_⟩;rw[h] at h1;simp at h1
 · rw[if_neg h]
   have:=zen l 0 u (by omega)
   rw[show (2:Nat) ^ 32-1=4294967295 from rfl,this];simp only[Bool.and_eq_true,decide_eq_true_eq,ne_eq,h,not_false_eq_true,and_true]
   rfl
def pnum(l:B):Option Nat:=match Lib.parseUintB 32 l with | .ok u=>if padded l=true then none else some u | _=>none
theorem zep{l:B}{u:Nat}(h:Lib.parseUintB 32 l= .ok u):pnum l=if padded l=true then none else some u:=by unfold pnum;rw[h]
theorem zeq{l:B}(h:∀u,Lib.parseUintB 32 l≠.ok u):pnum l=none:=by
 unfold pnum
 split
 · rename_i u e;exact absurd e (h u)
 · rfl
theorem zer(l:B):numb l=match pnum l with|some n=>if n≤mx then some n else none|none=>none:=by
 cases hq:Lib.parseUintB 32 l with
 | ok u=>
   rw[zep hq];obtain⟨h1,h2,h3⟩:=(zeo l u).1 hq;unfold numb;rcases Bool.eq_false_or_eq_true (padded l) with hp|hp
   · rw[hp];simp
   · rw[hp,h1];simp[h3]
 | _=>
   rw[zeq (fun u e=>by rw[hq] at e;cases e)];unfold numb;rw[if_neg];rintro⟨h1,h2,h3⟩;have:=(zeo l (val l)).2 ⟨h1,by unfold mx at h3;omega,rfl⟩
   rw[hq] at this;cases this
theorem readV_p(x y z:B)(p:TL):readV x y z p=match pnum x,pnum y,pnum z with|some a,some b,some c=>if may ⟨a,b,c,p⟩ then some ⟨a,b,c,p⟩ else none | _,_,_=>none:=by
 have hm:∀{a b c:Nat},¬(a≤mx∧b≤mx∧c≤mx)→may ⟨a,b,c,p⟩=false:=by
  intro a b c h;unfold may
  dsimp only
  rw[Bool.eq_false_iff];intro e;simp only[Bool.and_eq_true,decide_eq_true_eq] at e;exact h ⟨e.1.1.1.1,e.1.1.1.2,e.1.1.2⟩
 unfold readV;rw[zer x,zer y,zer z];cases pnum x with
 | none=>rfl
 | some a=>
   cases pnum y with
   | none=>by_cases ha:a≤mx<;>simp[ha]
   | some b=>
     cases pnum z with
     | none=>by_cases ha:a≤mx<;>by_cases hb:b≤mx<;>simp[ha,hb]
     | some c=>
       by_cases ha:a≤mx
       · by_cases hb:b≤mx
         · by_cases hc:c≤mx
           · simp[ha,hb,hc]
           · simp[ha,hb,hc,hm (a:=a) (b:=b) (c:=c) (fun h=>hc h.2.2)]
         · simp[ha,hb,hm (a:=a) (b:=b) (c:=c) (fun h=>hb h.2.1)]
       · simp[ha,hm (a:=a) (b:=b) (c:=c) (fun h=>ha h.1)]
end VerM
end
end Go.Proofs.YtbninnkpjdofbaaGreatDoor
