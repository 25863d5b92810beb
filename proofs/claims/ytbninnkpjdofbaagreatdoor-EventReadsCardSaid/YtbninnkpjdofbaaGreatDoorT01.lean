/-
  What the proof of EventReads stands on, part 1.
-/
import Derived.Laws.BytesArg
import Derived.Laws.IdiomStrings
import Derived.Lib.Hide
import Derived.Lib.ItoaNum
import Derived.Lib.Join
import Derived.Lib.ParseIntB
import Derived.Lib.SlicesCompact
import Derived.Lib.SplitLaws
import Derived.Lib.Strings
import Derived.Test.YtbninnkpjdofbaaGreatDoorChecked
import Derived.WalkKit
import Derived.WalkSmall
set_option linter.unusedSimpArgs false
set_option linter.unusedVariables false
set_option maxHeartbeats 16000000
namespace Go.Proofs.YtbninnkpjdofbaaGreatDoor
end Go.Proofs.YtbninnkpjdofbaaGreatDoor
namespace Go.Proofs.YtbninnkpjdofbaaGreatDoor.VerM
end Go.Proofs.YtbninnkpjdofbaaGreatDoor.VerM
namespace Go.Proofs.YtbninnkpjdofbaaGreatDoor.StrC
end Go.Proofs.YtbninnkpjdofbaaGreatDoor.StrC
namespace Go.Proofs.YtbninnkpjdofbaaGreatDoor.VerC
end Go.Proofs.YtbninnkpjdofbaaGreatDoor.VerC
namespace Go.Proofs.YtbninnkpjdofbaaGreatDoor.TextR
end Go.Proofs.YtbninnkpjdofbaaGreatDoor.TextR
namespace Go.Proofs
end Go.Proofs
namespace Go.Proofs.YtbninnkpjdofbaaGreatDoor.SpanM
end Go.Proofs.YtbninnkpjdofbaaGreatDoor.SpanM
namespace Go.Proofs.YtbninnkpjdofbaaGreatDoor.RowKC
end Go.Proofs.YtbninnkpjdofbaaGreatDoor.RowKC
namespace Go.Proofs.YtbninnkpjdofbaaGreatDoor.SpanC
end Go.Proofs.YtbninnkpjdofbaaGreatDoor.SpanC
namespace Go.Proofs.YtbninnkpjdofbaaGreatDoor.RoundR
end Go.Proofs.YtbninnkpjdofbaaGreatDoor.RoundR
namespace Go.Proofs.YtbninnkpjdofbaaGreatDoor.EvN
end Go.Proofs.YtbninnkpjdofbaaGreatDoor.EvN
namespace Go.Proofs.YtbninnkpjdofbaaGreatDoor.ErrC
end Go.Proofs.YtbninnkpjdofbaaGreatDoor.ErrC
namespace Go.Proofs.YtbninnkpjdofbaaGreatDoor.EvV
end Go.Proofs.YtbninnkpjdofbaaGreatDoor.EvV
namespace Go.Proofs.YtbninnkpjdofbaaGreatDoor.EvA
end Go.Proofs.YtbninnkpjdofbaaGreatDoor.EvA
namespace Go.Proofs.YtbninnkpjdofbaaGreatDoor.AppC
end Go.Proofs.YtbninnkpjdofbaaGreatDoor.AppC
namespace Go.Proofs.YtbninnkpjdofbaaGreatDoor.EvC
end Go.Proofs.YtbninnkpjdofbaaGreatDoor.EvC
namespace Go.Proofs.YtbninnkpjdofbaaGreatDoor.EvS
end Go.Proofs.YtbninnkpjdofbaaGreatDoor.EvS
namespace Go.Proofs.YtbninnkpjdofbaaGreatDoor.EvF
end Go.Proofs.YtbninnkpjdofbaaGreatDoor.EvF
namespace Go.Proofs.YtbninnkpjdofbaaGreatDoor.CodeM
end Go.Proofs.YtbninnkpjdofbaaGreatDoor.CodeM
namespace Go.Proofs.YtbninnkpjdofbaaGreatDoor.CodeC
end Go.Proofs.YtbninnkpjdofbaaGreatDoor.CodeC
namespace Go.Proofs.YtbninnkpjdofbaaGreatDoor.SumM
end Go.Proofs.YtbninnkpjdofbaaGreatDoor.SumM
namespace Go.Proofs.YtbninnkpjdofbaaGreatDoor.NameM
end Go.Proofs.YtbninnkpjdofbaaGreatDoor.NameM
namespace Go.Proofs.YtbninnkpjdofbaaGreatDoor.NameC
end Go.Proofs.YtbninnkpjdofbaaGreatDoor.NameC
namespace Go.Proofs.YtbninnkpjdofbaaGreatDoor.SumC
end Go.Proofs.YtbninnkpjdofbaaGreatDoor.SumC
namespace Go.Proofs.YtbninnkpjdofbaaGreatDoor.Flow
end Go.Proofs.YtbninnkpjdofbaaGreatDoor.Flow
namespace Go.Proofs.YtbninnkpjdofbaaGreatDoor.FlowN
end Go.Proofs.YtbninnkpjdofbaaGreatDoor.FlowN
namespace Go.Proofs.YtbninnkpjdofbaaGreatDoor.ErrU
end Go.Proofs.YtbninnkpjdofbaaGreatDoor.ErrU
namespace Go.Proofs.YtbninnkpjdofbaaGreatDoor.FmtC
end Go.Proofs.YtbninnkpjdofbaaGreatDoor.FmtC
namespace Go.Proofs.YtbninnkpjdofbaaGreatDoor.EvR
end Go.Proofs.YtbninnkpjdofbaaGreatDoor.EvR
namespace Go.Proofs.YtbninnkpjdofbaaGreatDoor
open Go.Lib (hid)
section
namespace VerM
abbrev B:=List UInt8
abbrev TL:=List B
structure Ver where
 a:Nat
 b:Nat
 c:Nat
 pre:TL
def dig(c:UInt8):Bool:=decide (48≤c.toNat) && decide (c.toNat≤57)
def digs(s:B):Bool:=s.all dig && decide (s≠[])
def okI(c:UInt8):Bool:=dig c || (decide (97≤c.toNat) && decide (c.toNat≤122)) || decide (c.toNat=45)
def padded(s:B):Bool:=decide (1<s.length) && decide ((s.getD 0 0).toNat=48)
def ident(s:B):Bool:=decide (1≤s.length) && decide (s.length≤16) && s.all okI && (!digs s || !padded s)
def mx:Nat:=2147483647
def may(v:Ver):Bool:=decide (v.a≤mx) && decide (v.b≤mx) && decide (v.c≤mx) && decide (v.pre.length≤8) && v.pre.all ident
def pieces(d:UInt8):B→TL
 | []=>[[]]
 | c :: r=>if c=d then [] :: pieces d r else
   match pieces d r with
   | []=>[[c]]
   | p :: q=>(c :: p) :: q
theorem zaa(d:UInt8)(s:B):pieces d s≠[]:=by
 cases s with
 | nil=>simp[pieces]
 | cons c r=>simp only[pieces];split;simp;split<;>simp
theorem zab{d:UInt8}{x:B}(h:∀c∈x,c≠d):pieces d x=[x]:=by
 induction x with
 | nil=>rfl
 | cons c r ih=>
   rw[pieces,if_neg (h c (by simp)),ih (fun c hc=>h c (by simp[hc]))]
theorem zac{d:UInt8}{x:B}(r:B)(h:∀c∈x,c≠d):pieces d (x++d :: r)=x :: pieces d r:=by
 induction x with
 | nil=>simp[pieces]
 | cons c t ih=>
   rw[List.cons_append,pieces,if_neg (h c (by simp)),ih (fun c hc=>h c (by simp[hc]))]
theorem zad(d:UInt8)(s:B):(pieces d s).length≤s.length+1:=by
 induction s with
 | nil=>simp[pieces]
 | cons c r ih=>
   rw[pieces]
   split
   · simp;exact ih
   · split
     · simp
     · rename_i h;rw[h] at ih;simp at ih ⊢;omega
theorem zae(d:UInt8)(s:B):∀p∈pieces d s,p.length≤s.length:=by
 induction s with
 | nil=>simp[pieces]
 | cons c r ih=>
   rw[pieces]
   split
   · intro p hp
     rcases List.mem_cons.1 hp with e|e
     · rw[e];simp
     · have:=ih p e;simp;omega
   · split
     · rename_i h;exact absurd h (zaa d r)
     · rename_i q l h
       rw[h] at ih;intro p hp;rcases List.mem_cons.1 hp with e|e
       · have:=ih q (by simp);rw[e];simp;omega
       · have:=ih p (by simp[e]);simp;omega
theorem zaf(d:UInt8)(s:B):Lib.join (pieces d s) [d]=s:=by
 induction s with
 | nil=>rfl
 | cons c r ih=>
   rw[pieces]
   split
   · rename_i h
     subst h;obtain⟨p,q,e⟩:=List.exists_cons_of_ne_nil (zaa c r);rw[e] at ih ⊢;rw[Lib.join_cons] at ih ⊢;rw[Lib.joinTail,List.map_cons,List.flatten_cons,List.nil_append];rw[Lib.joinTail] at ih;rw[List.append_assoc,ih];rfl
   · split
     · rename_i h;exact absurd h (zaa d r)
     · rename_i p q h
       rw[h] at ih;rw[Lib.join_cons] at ih ⊢;rw[List.cons_append,ih]
theorem zag(d:UInt8)(s:B):(∀c∈s,c≠d)∨∃x r,s=x++d :: r∧∀c∈x,c≠d:=by
 induction s with
 | nil=>exact .inl (by simp)
 | cons c t ih=>
   by_cases h:c=d
   · exact .inr ⟨[],t,by rw[h];rfl,by simp⟩
   · rcases ih with ih|⟨x,r,e,hx⟩
     · refine .inl fun y hy=>?_
       rcases List.mem_cons.1 hy with e|e
       · rw[e];exact h
       · exact ih y e
     · refine .inr ⟨c :: x,r,by rw[e];rfl,fun y hy=>?_⟩
       rcases List.mem_cons.1 hy with e|e
       · rw[e];exact h
       · exact hx y e
theorem zah{d:UInt8}{s:B}(h:∀c∈s,c≠d):Lib.index s [d]= -1:=by
 refine Lib.index_none fun j _=>?_
 cases ho:Lib.occAt s [d] j with
 | false=>rfl
 | true=>
   have:=Lib.occAt_head (t:=[]) rfl ho
   exact absurd rfl (h d (List.mem_of_getElem? this))
theorem zai{d:UInt8}{x:B}(r:B)(h:∀c∈x,c≠d):Lib.index (x++d :: r) [d]=x.length:=by
 refine Lib.index_first (by simp) ?_ fun j hj=>?_
 · unfold Lib.occAt;simp
 · cases ho:Lib.occAt (x++d :: r) [d] j with
   | false=>rfl
   | true=>
     have:=Lib.occAt_head (t:=[]) rfl ho
     rw[List.getElem?_append_left hj] at this;exact absurd rfl (h d (List.mem_of_getElem? this))
theorem zaj(d:UInt8):∀(k:Nat) (s:B),s.length≤k→Lib.splitK [d] 0 (Lib.count s [d]) s=pieces d s:=by
 intro k
 induction k with
 | zero=>
   intro s hs;have:s=[]:=List.length_eq_zero_iff.1 (by omega)
   subst this
   rfl
 | succ k ih=>
   intro s hs;rcases zag d s with h|⟨x,r,e,hx⟩
   · have hi:=zah h
     rw[Lib.count_miss hi,zab h];rfl
   · subst e
     have hi:=zai r hx;have hc:=Lib.count_hit (sub:=[d]) (by simp) hi;rw[hc,zac r hx,Nat.add_comm];unfold Lib.splitK;rw[hi,if_neg (by simp)];have e1:((x.length:Int)).toNat+0=x.length:=by omega
     have e2:((x.length:Int)).toNat+ [d].length=x.length+1:=by simp
     rw[e1,e2];have e3:(x++d :: r).take x.length=x:=by simp
     have e4:(x++d :: r).drop (x.length+1)=r:=by rw[←List.drop_drop];simp
     rw[e3,e4];have e5:x.length+ [d].length=x.length+1:=rfl;rw[e5,e4,ih r (by simp at hs;omega)]
theorem zak(d:UInt8)(s:B):Lib.split s [d]=pieces d s:=zaj d s.length s (Nat.le_refl _)
def head(s:B):B:=s.takeWhile (fun c=>decide (c≠45))
def rest(s:B):B:=s.dropWhile (fun c=>decide (c≠45))
def ids(s:B):TL:=match rest s with | []=>[] | _ :: r=>pieces 46 r
theorem tw_all{p:UInt8→Bool}{s:B}(h:∀c∈s,p c=true):s.takeWhile p=s∧s.dropWhile p=[]:=by
 induction s with
 | nil=>exact⟨rfl,rfl⟩
 | cons c r ih=>
   have hc:=h c (by simp);have:=ih (fun c hc=>h c (by simp[hc]))
   rw[List.takeWhile_cons,List.dropWhile_cons,hc];exact⟨by rw[if_pos rfl,this.1],by rw[if_pos rfl,this.2]⟩
theorem zal{s:B}(h:∀c∈s,c≠45):head s=s∧ids s=[]:=by
 have h0:=tw_all (p:=fun c=>decide (c≠45)) (s:=s) (fun c hc=>by simpa using h c hc);have h1:head s=s:=h0.1;have h2:rest s=[]:=h0.2;exact⟨h1,by unfold ids;rw[h2]⟩
theorem zam{x:B}(r:B)(h:∀c∈x,c≠45):head (x++45 :: r)=x∧ids (x++45 :: r)=pieces 46 r:=by
 have h1:head (x++45 :: r)=x:=by
  unfold head;rw[List.takeWhile_append_of_pos (by intro c hc;simpa using h c hc)];simp
 have h2:rest (x++45 :: r)=45 :: r:=by
  unfold rest;rw[List.dropWhile_append_of_pos (by intro c hc;simpa using h c hc)];simp
 exact⟨h1,by unfold ids;rw[h2]⟩
def val(s:B):Nat:=s.foldl (fun n c=>10*n+(c.toNat-48)) 0
theorem zan(s:B)(c:UInt8):val (s++ [c])=10*val s+(c.toNat-48):=by unfold val;rw[List.foldl_append];rfl
def numb(s:B):Option Nat:=if digs s=true∧padded s=false∧val s≤mx then some (val s) else none
def readV(x y z:B)(p:TL):Option Ver:=
 match numb x,numb y,numb z with
 | some a,some b,some c=>if may ⟨a,b,c,p⟩ then some ⟨a,b,c,p⟩ else none
 | _,_,_=>none
def readB(s:B):Option Ver:=
 if s.length≤128 then
  match pieces 46 (head s) with
  | [x,y,z]=>readV x y z (ids s)
  | _=>none
 else none
def preL(p:TL):B:=match p with | []=>[] | _ :: _=>45 :: Lib.join p [46]
def text(v:Ver):B:=Lib.decDigits v.a++46 :: (Lib.decDigits v.b++46 :: (Lib.decDigits v.c++preL v.pre))
def zao(v:Ver):Bool:=may v && decide ((text v).length≤128)
theorem zap{c:UInt8}(h:dig c=true):UInt8.ofNat (48+(c.toNat-48))=c:=by
 simp only[dig,Bool.and_eq_true,decide_eq_true_eq] at h;rw[show 48+(c.toNat-48)=c.toNat by omega];exact UInt8.ofNat_toNat
theorem zaq{P:B→Prop}(h0:P [])(h1:∀s c,P s→P (s++ [c]))(s:B):P s:=by
 rw[←List.reverse_reverse s]
 induction s.reverse with
 | nil=>exact h0
 | cons c r ih=>rw[List.reverse_cons];exact h1 _ _ ih
theorem dec_val:∀s:B,s≠[]→s.all dig=true→padded s=false→Lib.decDigits (val s)=s:=by
 intro s
 induction s using zaq with
 | h0=>intro h;exact absurd rfl h
 | h1 s c ih=>
   intro _ ha hp;rw[List.all_append,Bool.and_eq_true] at ha;obtain⟨ha1,ha2⟩:=ha;have hc:dig c=true:=by simpa using ha2
   have hb:=zap hc;have hc9:c.toNat-48<10:=by simp only[dig,Bool.and_eq_true,decide_eq_true_eq] at hc;omega
   rw[zan];by_cases hs:s=[]
   · subst hs
     show Lib.decDigits (10*0+_)=_;rw[Nat.mul_zero,Nat.zero_add,Lib.decDigits_one hc9,hb];rfl
   · have hlen:0<s.length:=List.length_pos_iff.2 hs
     have hp2:s.getD 0 0≠48:=by
      intro e;unfold padded at hp;have h1:(s++ [c]).getD 0 0=s.getD 0 0:=by rw[List.getD_eq_getElem?_getD,List.getD_eq_getElem?_getD,List.getElem?_append_left hlen]
      rw[h1,e,List.length_append,decide_eq_true (by simp;omega)] at hp;exact absurd hp (by decide)
     have hp3:padded s=false:=by
      unfold padded;rw[Bool.and_eq_false_iff];right;rw[decide_eq_false_iff_not];intro e;exact hp2 (UInt8.toNat_inj.1 (by rw[e];rfl))
     have ih':=ih hs ha1 hp3
     have hv:0<val s:=by
      rcases Nat.eq_zero_or_pos (val s) with h|h
      · rw[h,Lib.decDigits_one (by decide)] at ih'
        exact absurd (by rw[←ih'];rfl) hp2
      · exact h
     rw[Lib.decDigits,dif_neg (by omega),show (10*val s+(c.toNat-48)) / 10=val s by omega,show (10*val s+(c.toNat-48)) % 10=c.toNat-48 by omega,ih',hb]
theorem zar{s:B}{n:Nat}(h:numb s=some n):Lib.decDigits n=s∧n≤mx:=by
 unfold numb at h
 split at h
 · rename_i hc
   obtain⟨h1,h2,h3⟩:=hc;cases h
   unfold digs at h1;rw[Bool.and_eq_true,decide_eq_true_eq] at h1;exact⟨dec_val s h1.2 h1.1 h2,h3⟩
 · cases h
theorem zas{s:B}{v:Ver}(h:readB s=some v):s.length≤128∧may v=true∧∃x y z,pieces 46 (head s)=[x,y,z]∧numb x=some v.a∧numb y=some v.b∧numb z=some v.c∧v.pre=ids s:=by
 unfold readB at h
 split at h
 · rename_i hl
   split at h
   · rename_i x y z hp
     unfold readV at h
     split at h
     · rename_i a b c h1 h2 h3
       split at h
       · rename_i hm;cases h;exact⟨hl,hm,x,y,z,hp,h1,h2,h3,rfl⟩
       · cases h
     · cases h
   · cases h
 · cases h
theorem zat{s:B}{v:Ver}(h:readB s=some v):text v=s∧s.length≤128∧may v=true:=by
 obtain⟨hl,hm,x,y,z,hp,h1,h2,h3,h4⟩:=zas h;refine⟨?_,hl,hm⟩;unfold text;rw[(zar h1).1,(zar h2).1,(zar h3).1,h4];have hj:=zaf 46 (head s);rw[hp] at hj;have hh:head s=x++46 :: (y++46 :: z):=by rw[←hj];simp[Lib.join,List.intercalate]
 rcases zag 45 s with h|⟨u,r,e,hu⟩
 · obtain⟨e1,e2⟩:=zal h
   rw[e2]
   show x++46 :: (y++46 :: (z++ []))=s;rw[List.append_nil,←hh,e1]
 · subst e
   obtain⟨e1,e2⟩:=zam r hu;rw[e2];obtain⟨p,q,e3⟩:=List.exists_cons_of_ne_nil (zaa 46 r);have hr:=zaf 46 r;rw[e3] at hr ⊢
   show x++46 :: (y++46 :: (z++45 :: Lib.join (p :: q) [46]))=_;rw[hr];rw[e1] at hh;rw[hh];simp
end VerM
end
section
namespace VerM
structure Pre {α:Type} (f:α→α→Int):Prop where
 anti:∀a b,f a b= - f b a
 trans:∀a b c,f a b≤0→f b c≤0→f a c≤0
def lex{α:Type}(f g:α→α→Int)(a b:α):Int:=if f a b≠0 then f a b else g a b
theorem Pre.lex{α:Type}{f g:α→α→Int}(hf:Pre f)(hg:Pre g):Pre (lex f g):=by
 refine⟨fun a b=>?_,fun a b c h1 h2=>?_⟩
 · have e1:=hf.anti a b
   have e2:=hg.anti a b;unfold VerM.lex;by_cases h:f b a=0
   · rw[h] at e1
     rw[if_neg (by omega),if_neg (by omega)];exact e2
   · rw[if_pos (by omega),if_pos (by omega)];exact e1
 · have tf:=hf.trans a b c
   have tg:=hg.trans a b c;have t1:=hf.trans c a b;have t2:=hf.trans b c a;have a1:=hf.anti a c;have a2:=hf.anti b c;have a3:=hf.anti a b;unfold VerM.lex at h1 h2 ⊢
   split at h1<;>split at h2<;>split<;>omega
theorem Pre.key{α β:Type}{f:β→β→Int}(hf:Pre f)(k:α→β):Pre (fun a b=>f (k a) (k b)):=⟨fun _ _=>hf.anti _ _,fun _ _ _=>hf.trans _ _ _⟩
def cmpN(a b:Nat):Int:=if a<b then -1 else if b<a then 1 else 0
theorem zau:Pre cmpN:=by
 refine⟨fun a b=>?_,fun a b c=>?_⟩
 · unfold cmpN;(repeat' split)<;>omega
 · unfold cmpN;(repeat' split)<;>omega
theorem zav{a b:Nat}(h:cmpN a b=0):a=b:=by unfold cmpN at h;(repeat' split at h)<;>omega
def cmpB(a b:B):Int:=if a=b then 0 else if a<b then -1 else 1
theorem zaw:Pre cmpB:=by
 refine⟨fun a b=>?_,fun a b c h1 h2=>?_⟩
 · unfold cmpB
   by_cases h:a=b
   · rw[if_pos h,if_pos h.symm];rfl
   · rw[if_neg h,if_neg (Ne.symm h)]
     rcases Classical.em (a<b) with h1|h1
     · rw[if_pos h1,if_neg (fun h2=>List.lt_irrefl _ (List.lt_trans h1 h2))]
     · rw[if_neg h1,if_pos (by
        rcases Classical.em (b<a) with h2|h2
        · exact h2
        · exact absurd (List.le_antisymm (List.not_lt.1 h2) (List.not_lt.1 h1)) h)];rfl
 · have key:∀x y:B,cmpB x y≤0↔x≤y:=by
    intro x y;unfold cmpB
    split
    · rename_i e;subst e;simp[List.le_refl]
    · rename_i e
      split
      · rename_i hl;exact⟨fun _=>List.le_of_lt hl,fun _=>by decide⟩
      · rename_i hl;exact⟨fun h=>absurd h (by decide),fun h=>absurd (List.le_antisymm h (List.not_lt.1 hl)) e⟩
   rw[key] at h1 h2 ⊢;exact List.le_trans h1 h2
theorem zax{a b:B}(h:cmpB a b=0):a=b:=by
 unfold cmpB at h
 split at h
 · assumption
 · split at h<;>simp at h
def kindI(a:B):Nat:=if digs a then 0 else 1
def lenI(a:B):Nat:=if digs a then a.length else 0
def ordI:B→B→Int:=lex (fun a b=>cmpN (kindI a) (kindI b)) (lex (fun a b=>cmpN (lenI a) (lenI b)) cmpB)
theorem zay:Pre ordI:=(zau.key kindI).lex ((zau.key lenI).lex zaw)
theorem zaz{α:Type}{f g:α→α→Int}{a b:α}(h:lex f g a b=0):f a b=0∧g a b=0:=by
 unfold lex at h;by_cases h1:f a b=0
 · rw[if_neg (by omega)] at h;exact⟨h1,h⟩
 · rw[if_pos h1] at h;exact absurd h h1
theorem zba{a b:B}(h:ordI a b=0):a=b:=zax (zaz (zaz h).2).2
theorem zbb(a:B):ordI a a=0:=by have:=zay.anti a a;omega
theorem zbc(a b:B):ordI a b=if a=b then 0 else if digs a=digs b then (if digs a=true∧a.length≠b.length then (if a.length<b.length then -1 else 1) else if a<b then -1 else 1) else if digs a=true then -1 else 1:=by
 by_cases e:a=b
 · rw[if_pos e,e];exact zbb b
 · rw[if_neg e]
   unfold ordI lex
   dsimp only
   unfold kindI lenI cmpN cmpB;rw[if_neg e];rcases Bool.eq_false_or_eq_true (digs a) with ha|ha<;>rcases Bool.eq_false_or_eq_true (digs b) with hb|hb<;>simp only[ha,hb,Bool.false_eq_true,if_false,Nat.lt_irrefl,ne_eq,not_true,if_true,false_and,true_and,Nat.zero_lt_one,Nat.not_lt_zero]
   · by_cases h:a.length=b.length
     · simp[h]
     · rcases Nat.lt_or_gt_of_ne h with h1|h1
       · simp[h1,h]
       · simp[Nat.not_lt_of_gt h1,h1,h]
   · simp
   · simp
def ordL:TL→TL→Int
 | [],[]=>0
 | [],_ :: _=> -1
 | _ :: _,[]=>1
 | x :: l,y :: r=>if ordI x y≠0 then ordI x y else ordL l r
theorem zbd:∀a b,ordL a b= - ordL b a
 | [],[]=>rfl
 | [],_ :: _=>rfl
 | _ :: _,[]=>rfl
 | x :: l,y :: r=>by
   have h1:=zay.anti x y;have h2:=zbd l r;unfold ordL;by_cases h:ordI y x=0
   · rw[if_neg (by omega),if_neg (by omega)];exact h2
   · rw[if_pos (by omega),if_pos (by omega)];exact h1
theorem zbe:∀a b c,ordL a b≤0→ordL b c≤0→ordL a c≤0
 | [],_,[],_,_=>by simp[ordL]
 | [],_,_ :: _,_,_=>by simp[ordL]
 | _ :: _,[],_,h,_=>by simp[ordL] at h
 | _ :: _,_ :: _,[],_,h=>by simp[ordL] at h
 | x :: l,y :: r,z :: t,h1,h2=>by
   have ih:=zbe l r t;have tf:=zay.trans x y z;have t1:=zay.trans z x y;have t2:=zay.trans y z x;have a1:=zay.anti x z;have a2:=zay.anti y z;have a3:=zay.anti x y;unfold ordL at h1 h2 ⊢
   split at h1<;>split at h2<;>split<;>omega
theorem zbf:Pre ordL:=⟨zbd,zbe⟩
theorem zbg:∀{a b:TL},ordL a b=0→a=b
 | [],[],_=>rfl
 | [],_ :: _,h=>by simp[ordL] at h
 | _ :: _,[],h=>by simp[ordL] at h
 | x :: l,y :: r,h=>by
   unfold ordL at h;by_cases p:ordI x y=0
   · rw[if_neg (by omega)] at h;rw[zba p,zbg h]
   · rw[if_pos p] at h;exact absurd h p
def rel(v:Ver):Nat:=match v.pre with | []=>1 | _ :: _=>0
def cmpV:Ver→Ver→Int:=lex (fun v w=>cmpN v.a w.a) (lex (fun v w=>cmpN v.b w.b) (lex (fun v w=>cmpN v.c w.c) (lex (fun v w=>cmpN (rel v) (rel w)) (fun v w=>ordL v.pre w.pre))))
theorem zbh:Pre cmpV:=(zau.key Ver.a).lex ((zau.key Ver.b).lex ((zau.key Ver.c).lex ((zau.key rel).lex (zbf.key Ver.pre))))
theorem zbi{v w:Ver}(h:cmpV v w=0):v=w:=by
 obtain⟨h1,h⟩:=zaz h;obtain⟨h2,h⟩:=zaz h;obtain⟨h3,h⟩:=zaz h;obtain⟨_,h⟩:=zaz h;have e1:=zav h1;have e2:=zav h2;have e3:=zav h3;have e4:=zbg h;cases v;cases w;simp only[Ver.mk.injEq];exact⟨e1,e2,e3,e4⟩
theorem zbj(v:Ver):cmpV v v=0:=by have:=zbh.anti v v;omega
def nought:B:=[48]
theorem zbk{y:B}(h:ident y=true):ordI nought y≤0:=by
 rw[zbc]
 split
 · decide
 · rename_i hne
   have hn:digs nought=true:=by decide
   rw[hn]
   split
   · rename_i hd
     have hd:=hd.symm;unfold ident at h;simp only[Bool.and_eq_true,decide_eq_true_eq,Bool.or_eq_true,Bool.not_eq_true'] at h;obtain⟨⟨⟨h1,h2⟩,h3⟩,h4⟩:=h
     split
     · rw[if_pos (by simp[nought] at *;omega)];decide
     · rename_i hl
       have hl1:y.length=1:=by simp[nought] at hl;omega
       obtain⟨c,rfl⟩:=List.length_eq_one_iff.1 hl1;have hc:dig c=true:=by unfold digs at hd;simpa using hd
       rw[if_pos ?_];decide;simp only[dig,Bool.and_eq_true,decide_eq_true_eq] at hc;have hc0:(48:UInt8)≠c:=fun e=>hne (by rw[nought,e])
       have hlt:(48:UInt8)<c:=UInt8.lt_iff_toNat_lt.2 (by
        have:c.toNat≠48:=fun e=>hc0 (UInt8.toNat_inj.1 (by rw[e];rfl))
        show 48<c.toNat;omega)
       exact List.Lex.rel hlt
   · simp
def zbl(v:Ver):Ver:=⟨v.a,v.b,v.c,[nought]⟩
theorem zbm(a:Nat):cmpN a a=0:=by unfold cmpN;simp
theorem zbn{v w:Ver}(h:may w=true)(ha:w.a=v.a)(hb:w.b=v.b)(hc:w.c=v.c):cmpV (zbl v) w≤0:=by
 unfold cmpV lex zbl;simp only[ha,hb,hc,zbm,ne_eq,not_true,if_false];cases hp:w.pre with
 | nil=>unfold rel;rw[hp];exact(by decide:(if cmpN 0 1≠0 then cmpN 0 1 else ordL [nought] [])≤0)
 | cons y r=>
   have e:cmpN (rel ⟨v.a,v.b,v.c,[nought]⟩) (rel w)=0:=by unfold rel;rw[hp];rfl
   rw[e,if_neg (by simp)]
   have hy:ident y=true:=by
    unfold may at h;rw[hp] at h;simp only[List.all_cons,Bool.and_eq_true] at h;exact h.2.1
   have:=zbk hy
   unfold ordL
   split
   · exact this
   · cases r<;>simp[ordL]
def isT(s:B):Bool:=(readB s).isSome
end VerM
end
section
open Go.RowKit
namespace StrC
def str(l:List UInt8):ByteArray:=⟨l.toArray⟩
theorem zbo(l:List UInt8):(str l).size=l.length:=by show l.toArray.size=_;simp
theorem zbp(l:List UInt8):(str l).data.toList=l:=rfl
theorem str_of(s:ByteArray):s=str s.data.toList:=by apply ByteArray.ext;simp[str]
theorem str_add(a b:List UInt8):str a++str b=str (a++b):=by apply ByteArray.ext;simp[str]
theorem zbq(a b:List UInt8)(w:World)(h:a.length+b.length≤4611686018427387904):(Op.stringOp .add (str a) (str b)).run Tryz.prog w= .ok (.string (str (a++b))) w:=by
 rw[run_string_add_sum (P:=Tryz.prog) w (str a) (str b) (by rw[zbo,zbo];omega),str_add]
theorem zbr(l:List UInt8)(x:Int)(a:Nat)(hx:x=a)(h:a<l.length)(w:World):(Instr.index 9 (.string (str l)) (.int .i64 x)).run Tryz.prog w= .ok (.int .u8 ((l.getD a 0).toNat:Int)) w:=by
 subst hx;rw[run_index_string w 9 (str l) .i64 _ Tryz.underlying9,dif_pos ⟨by omega,by rw[zbo];omega⟩];simp only[Int.toNat_natCast];have e:l.getD a 0=l[a]:=by simp[h]
 rw[e]
 rfl
theorem zbs(a b:List UInt8):((str a).toList == (str b).toList)=decide (a=b):=by rw[ByteArray.toList_eq,ByteArray.toList_eq,zbp,zbp,Bool.eq_iff_iff];simp
theorem str_bne(a b:List UInt8):((str a).toList != (str b).toList)=decide (a≠b):=by unfold bne;rw[zbs];simp
theorem beq_lit(x:ByteArray)(b:List UInt8):((str b).toList == x.toList)=decide (b=x.data.toList):=by rw[ByteArray.toList_eq,ByteArray.toList_eq,zbp,Bool.eq_iff_iff];simp
theorem zbt(b x:List UInt8):((str b).toList == x)=decide (b=x):=by rw[ByteArray.toList_eq,zbp,Bool.eq_iff_iff];simp
theorem chain{B:Nat}{w w1 w2:World}(hB:B≤w.heap.size)(h1:Below B w w1)(h2:Below w1.heap.size w1 w2):Below B w w2:=h1.trans (h2.mono (Nat.le_trans hB h1.size))
theorem retB{a b:Bool}(h:a=b):Ending.returned (.bool a)=Ending.returned (.bool b):=by rw[h]
theorem zbu(b cap:Nat)(c:UInt8)(w:World)(h:w.cell? ⟨b,0,none⟩=some (.int .u8 (c.toNat:Int))):
 (convert 171 9 (.slice (some ⟨b,0,none⟩) 1 cap)).run Tryz.prog w= .ok (.string (str [c])) w:=
 run_convert_bytes_back (P:=Tryz.prog) w 171 9 5 ⟨b,0,none⟩ cap [c] Tryz.underlying171 Tryz.underlying5 Tryz.underlying9 (fun j hj=>by
  have:j=0:=by simpa using hj
  subst this;rw[Go.WideShapes.add_plain];exact h)
theorem zbv(x:Int)(d:UInt8)(h:(d.toNat:Int)=x)(w:World):
 (convert 171 9 (.slice (some ⟨w.heap.size,0,none⟩) 1 1)).run Tryz.prog (w.alloc (.cells #[.int .u8 x] 5))= .ok (.string (str [d])) (w.alloc (.cells #[.int .u8 x] 5)):=
 zbu _ 1 d _ (by rw[World.cell?_alloc_at _ _ _ _ rfl,h];rfl)
end StrC
end
end Go.Proofs.YtbninnkpjdofbaaGreatDoor
