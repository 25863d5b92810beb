/-
  What the proof of EventReads stands on, part 28.
-/
import Derived.Test.YtbninnkpjdofbaaGreatDoorT27
set_option linter.unusedSimpArgs false
set_option linter.unusedVariables false
set_option maxHeartbeats 16000000
namespace Go.Proofs.YtbninnkpjdofbaaGreatDoor
open Go.Lib (hid)
section
namespace CodeM
theorem yao(most k:Nat)(s:ByteArray)(hk:k≤s.size):
 (∃e,e≠0∧e≤22∧tRes most k s=(0,0,e,k,k))∨(∃a q,a≤q∧q≤s.size∧k≤q∧tRes most k s=(a,q,0,0,q)):=by
 rcases zwu most k s hk with ⟨e,he,he2,hu⟩|⟨v,d,hv,hd,hu⟩
 · exact Or.inl ⟨e,he,he2,zwv hu he⟩
 · by_cases hq:s.size-(k+d)<v
   · exact Or.inl ⟨20,by decide,by decide,zww hu hq⟩
   · exact Or.inr ⟨k+d,k+d+v,by omega,by omega,by omega,zwx hu hq⟩
def wv(x:Nat)(l:List UInt8):Nat:=l.foldl (fun a c=>a*256+c.toNat) x
theorem yap(x:Nat)(l:List UInt8)(c:UInt8):wv x (l++ [c])=wv x l*256+c.toNat:=by simp[wv]
theorem yaq:∀(l:List UInt8) (x:Nat),wv x l<(x+1)*256 ^ l.length
 | [],x=>by simp[wv]
 | c :: l,x=>by
   have h:=yaq l (x*256+c.toNat);have hc:=c.toNat_lt;have e:wv x (c :: l)=wv (x*256+c.toNat) l:=rfl;rw[e,List.length_cons,Nat.pow_succ,Nat.mul_comm (256 ^ l.length) 256,←Nat.mul_assoc];exact Nat.lt_of_lt_of_le h (Nat.mul_le_mul_right _ (by omega))
theorem wv_lt(l:List UInt8):wv 0 l<256 ^ l.length:=by have:=yaq l 0;simpa using this
def wRes(k:Nat)(s:ByteArray):Nat×Nat×Nat×Nat:=if s.size-k<8 then (0,20,k,k) else (wv 0 ((s.data.toList.drop k).take 8),0,0,k+8)
theorem yar{k:Nat}{s:ByteArray}(h:s.size-k<8):wRes k s=(0,20,k,k):=by simp[wRes,h]
theorem yas{k:Nat}{s:ByteArray}(h:¬s.size-k<8):wRes k s=(wv 0 ((s.data.toList.drop k).take 8),0,0,k+8):=by simp[wRes,h]
theorem yat(x c:Nat)(hx:x<72057594037927936)(hc:c<256):bits .or .u64 ((x:Int)*256) (c:Int)=((x*256+c:Nat):Int):=by
 rw[show (x:Int)*256=((x*256:Nat):Int) by omega,bits_or_u64_nat _ _ (by omega) (by omega)]
 congr 1
 have e3:x*256=x <<< 8:=by rw[Nat.shiftLeft_eq]
 rw[e3,←Nat.shiftLeft_add_eq_or_of_lt (by omega)]
theorem yau(l:List UInt8)(k i:Nat)(h:k+i<l.length):(l.drop k).take (i+1)=(l.drop k).take i++ [l[k+i]]:=by
 rw[List.take_succ_eq_append_getElem (by simp;omega)];simp
end CodeM
end
section
open Go.RowKit
namespace CodeC
open CodeM ErrC
def OwnT(w:World)(B:Nat)(v:Value)(L:List ByteArray):Prop:=w.ownsRow B 9 1 v L.length (L.map Value.string)
end CodeC
end
section
open Go.RowKit
namespace CodeC
open CodeM ErrC
structure Begun (w w':World) (r:Value) (k:Nat):Prop where
 rdr:w'.cell? ⟨w.heap.size,0,none⟩=some r
 from_:w'.cell? ⟨w.heap.size+1,0,none⟩=some (.int .i64 k)
 below:Below w.heap.size w w'
theorem Begun.only{w w1 w2:World}{r:Value}{k b:Nat}(h:Begun w w1 r k)(ho:But b w1 w2)(hb:b<w.heap.size):
 w2.cell? ⟨w.heap.size,0,none⟩=some r∧w2.cell? ⟨w.heap.size+1,0,none⟩=some (.int .i64 k)∧w.heap.size≤w2.heap.size:=by
 have l1:=World.block_lt_of_cell? _ _ h.rdr;have l2:=World.block_lt_of_cell? _ _ h.from_;exact⟨by rw[ho.cell l1 (by show w.heap.size≠b;omega)];exact h.rdr,by rw[ho.cell l2 (by show w.heap.size+1≠b;omega)];exact h.from_,Nat.le_trans h.below.size ho.size⟩
theorem yav(b o:Nat)(s:ByteArray)(k:Nat)(w:World)(hr:IsRdr w b o s k):
 Calls Tryz.prog 68 #[.pointer (some ⟨b,o,none⟩)] w fun e w'=>e= .returned (endF w.heap.size)∧Begun w w' (.pointer (some ⟨b,o,none⟩)) k:=by
 refine(yac b o s k w hr).mono ?_;rintro e w' ⟨rfl,rfl⟩;refine⟨rfl,?_,?_,?_⟩
 · rw[World.cell?_alloc_lt _ _ _ (by simp)];simp
 · rw[World.cell?_alloc_at _ _ _ _ (by simp)];rfl
 · exact((Below.refl _ _).alloc (Nat.le_refl _) _).alloc (by simp) _
def MethE(val:Value)(er k q b o:Nat)(s:ByteArray)(w:World)(e:Ending)(w':World):Prop:=
 ∃ev,e= .returned (.tuple #[val,ev])∧IsErr w w' ev er k∧IsRdr w' b o s q∧But b w w'
def EndE(er k q b o:Nat)(s:ByteArray)(w:World)(e:Ending)(w':World):Prop:=
 ∃ev,e= .returned ev∧IsErr w w' ev er k∧IsRdr w' b o s q∧But b w w'
theorem yaw(n b o:Nat)(s:ByteArray)(k k0 c:Nat)(w w0:World)(hn:n=w0.heap.size)(hb:b<n)(hg:w.cell? ⟨w0.heap.size,0,none⟩=some (.pointer (some ⟨b,o,none⟩))∧w.cell? ⟨w0.heap.size+1,0,none⟩=some (.int .i64 k0)∧w0.heap.size≤w.heap.size)(hr:IsRdr w b o s k):
 Calls Tryz.prog 121 #[.int .i64 c,.pointer (some ⟨n,0,none⟩),.pointer (some ⟨n+1,0,none⟩)] w fun e w'=>
  ∃ev,e= .returned ev∧IsErr w0 w' ev c k0∧IsRdr w' b o s (if c=0 then k else k0)∧But b w w':=by
 subst hn;by_cases h0:c=0
 · subst h0
   refine(yad _ b o s k w hg.1 hr).mono ?_;rintro e w' ⟨rfl,rfl⟩;exact⟨_,rfl,Or.inl ⟨rfl,rfl⟩,by simpa using hr,But.refl _ _⟩
 · refine(end_err _ b o s k k0 c w h0 hg.1 hg.2.1 hr).mono ?_
   rintro e w' ⟨rfl,rfl⟩;have hs:=hg.2.2;have hlt:=hr.lt;have e4:(w.setCell ⟨b,o+2,none⟩ (.int .i64 k0)).heap.size=w.heap.size:=by simp
   refine⟨_,rfl,Or.inr ⟨h0,_,rfl,hs,?_,?_,?_,?_⟩,?_,((But.refl _ _).set _ _).alloc _⟩
   · rw[World.cell?_alloc_at _ _ _ _ (by simp)];rfl
   · rw[World.cell?_alloc_at _ _ _ _ (by simp)];rfl
   · rw[World.cell?_alloc_at _ _ _ _ (by simp)];rfl
   · rw[World.cell?_alloc_at _ _ _ _ (by simp)];rfl
   · rw[if_neg h0]
     exact(hr.put _ k0 rfl).below ((Below.refl _ _).alloc (Nat.le_refl _) _) (by rw[e4];exact hlt)
theorem yax(b o:Nat)(s:ByteArray)(k:Nat)(most:Nat)(w:World)(hk:k≤s.size)(hs:s.size≤4611686018427387904)(hm:most<18446744073709551616)(hr:IsRdr w b o s k):
 Calls Tryz.prog 59 #[.pointer (some ⟨b,o,none⟩),.int .u64 most] w
  (MethE (.int .u64 (uRes most k (s.data.toList.drop k)).1) (uRes most k (s.data.toList.drop k)).2.1 k (uRes most k (s.data.toList.drop k)).2.2.2 b o s w):=by
 have hlt:=hr.lt;have HR:=hid hr;clear hr;have hu:=zwu most k s hk;go_enter Tryz.func59,Tryz.ntmps59;go_wp2_with fail;refine(yav b o s k _ HR.out).mono ?_;rintro e w1 ⟨rfl,hg⟩;have HG:=hid hg;clear hg;unfold endF;go_wp2_with fail;refine(yaj b o s k most _ hk hs hm (HR.out.below HG.out.below hlt)).mono ?_;rintro e w2 ⟨rfl,hr2,ho2⟩;have HG2:=hid (HG.out.only (But.of_only ho2) hlt);have HB2:=hid ((But.of_below HG.out.below).trans (But.of_only ho2));have HR2:=hid hr2;clear ho2 hr2;unfold nEnd;go_wp2_with fail;refine(yaw w.heap.size b o s _ k _ _ w rfl hlt HG2.out HR2.out).mono ?_;rintro e w3 ⟨ev,rfl,he,hr3,hb3⟩;have HE:=hid he;clear he;have HR3:=hid hr3;clear hr3;have HB3:=hid hb3;clear hb3;go_wp2_with fail;go_ret2
 refine⟨_,rfl,HE.out,?_,HB2.out.trans HB3.out⟩;have h:=HR3.out;rcases hu with ⟨e,he,he2,hu⟩|⟨v,d,hv,hd,hu⟩
 · rw[hu] at h ⊢;simpa[he] using h
 · rw[hu] at h ⊢;simpa using h
theorem yay(b o:Nat)(s:ByteArray)(k:Nat)(m:Int)(w:World)(hk:k≤s.size)(hs:s.size≤4611686018427387904)(hm:m≤9223372036854775807)(hr:IsRdr w b o s k):
 Calls Tryz.prog 57 #[.pointer (some ⟨b,o,none⟩),.int .i64 m] w
  (MethE (.string (s.extract (tRes (cap m) k s).1 (tRes (cap m) k s).2.1)) (tRes (cap m) k s).2.2.1 k (tRes (cap m) k s).2.2.2.2 b o s w):=by
 have hlt:=hr.lt;have HR:=hid hr;clear hr;have hu:=yao (cap m) k s hk;go_enter Tryz.func57,Tryz.ntmps57;go_wp2_with fail;refine(yav b o s k _ HR.out).mono ?_;rintro e w1 ⟨rfl,hg⟩;have HG:=hid hg;clear hg;unfold endF;go_wp2_with fail;refine(one_is b o s k m _ hk hs hm (HR.out.below HG.out.below hlt)).mono ?_;rintro e w2 ⟨rfl,ho2,k2,hk2,hr2,hz2⟩;have HG2:=hid (HG.out.only (But.of_only ho2) hlt);have HB2:=hid ((But.of_below HG.out.below).trans (But.of_only ho2));have HR2:=hid hr2;have HZ2:=hid hz2;clear ho2 hr2 hz2;unfold pEnd;go_wp2_with fail;refine(yaw w.heap.size b o s _ k _ _ w rfl hlt HG2.out HR2.out).mono ?_;rintro e w3 ⟨ev,rfl,he,hr3,hb3⟩;have HE:=hid he;clear he;have HR3:=hid hr3;clear hr3;have HB3:=hid hb3;clear hb3;go_wp2_with fail;go_ret2
 refine⟨_,rfl,HE.out,?_,HB2.out.trans HB3.out⟩;have h:=HR3.out;have hz:=HZ2.out;rcases hu with ⟨e,he,he2,hu⟩|⟨a,q,h1,h2,h3,hu⟩
 · rw[hu] at h ⊢;simpa[he] using h
 · rw[hu] at h hz ⊢
   have:=hz rfl
   simp only at this;subst this
   simpa using h
def endC(k:Nat)(s:ByteArray):Nat:=if k<s.size then 23 else 0
theorem rend_is(b o:Nat)(s:ByteArray)(k:Nat)(w:World)(hk:k≤s.size)(hr:IsRdr w b o s k):
 Calls Tryz.prog 24 #[.pointer (some ⟨b,o,none⟩)] w (EndE (endC k s) k k b o s w):=by
 have hlt:=hr.lt;have HR:=hid hr;clear hr;obtain⟨-,hRs⟩:=yag s k;have HRs:=hid hRs;clear hRs;by_cases hz:k<s.size
 · have HC:endC k s=23:=by unfold endC;simp[hz]
   rw[HC];clear HC;go_enter Tryz.func24,Tryz.ntmps24;go_wp2_with fail;refine(yav b o s k _ HR.out).mono ?_;rintro e w1 ⟨rfl,hg⟩;have HG:=hid hg;clear hg;unfold endF;go_wp2_with fail;refine(yab b o s k _ hk (HR.out.below HG.out.below hlt)).mono ?_;rintro e w2 ⟨rfl,q,rfl⟩;generalize s.extract k s.size=R at*;have HG2:=hid (HG.out.only (((But.refl b _).drewN q)) hlt);have HB2:=hid ((But.of_below HG.out.below).trans ((But.refl b _).drewN q));have HR2:=hid ((HR.out.below HG.out.below hlt).drewN q)
   have h1:R.toList.isEmpty=false:=by
    rw[ByteArray.toList_eq];cases e:R.data.toList with
    | nil=>
     have e2:R.data.toList.length=R.size:=by simp
     rw[e] at e2;have:=HRs.out;simp at e2;omega
    | cons x r=>rfl
   go_wp2_with fail;refine(yaw w.heap.size b o s _ k 23 _ w rfl hlt HG2.out HR2.out).mono ?_;rintro e w3 ⟨ev,rfl,he,hr3,hb3⟩;have HE:=hid he;clear he;have HR3:=hid hr3;clear hr3;have HB3:=hid hb3;clear hb3;go_wp2_with fail;go_ret;exact⟨_,rfl,HE.out,by simpa using HR3.out,HB2.out.trans HB3.out⟩
 · have HC:endC k s=0:=by unfold endC;simp[hz]
   rw[HC];clear HC;go_enter Tryz.func24,Tryz.ntmps24;go_wp2_with fail;refine(yav b o s k _ HR.out).mono ?_;rintro e w1 ⟨rfl,hg⟩;have HG:=hid hg;clear hg;unfold endF;go_wp2_with fail;refine(yab b o s k _ hk (HR.out.below HG.out.below hlt)).mono ?_;rintro e w2 ⟨rfl,q,rfl⟩;generalize s.extract k s.size=R at*;have HG2:=hid (HG.out.only (((But.refl b _).drewN q)) hlt);have HB2:=hid ((But.of_below HG.out.below).trans ((But.refl b _).drewN q));have HR2:=hid ((HR.out.below HG.out.below hlt).drewN q)
   have h1:R.toList=[]:=by
    rw[ByteArray.toList_eq];have e2:R.data.toList.length=R.size:=by simp
    have:=HRs.out
    exact List.eq_nil_of_length_eq_zero (by omega)
   have h2:R.toList.isEmpty=true:=by rw[h1];rfl
   go_wp2_with fail;refine(yaw w.heap.size b o s _ k 0 _ w rfl hlt HG2.out HR2.out).mono ?_;rintro e w3 ⟨ev,rfl,he,hr3,hb3⟩;have HE:=hid he;clear he;have HR3:=hid hr3;clear hr3;have HB3:=hid hb3;clear hb3;go_wp2_with fail;go_ret;exact⟨_,rfl,HE.out,by simpa using HR3.out,HB2.out.trans HB3.out⟩
end CodeC
end
section
open Go.RowKit
namespace CodeC
open CodeM ErrC
theorem take_at(s:ByteArray)(i:Nat)(h:i<s.size):s.data.toList.take (i+1)=s.data.toList.take i++ [s[i]]:=by
 rw[List.take_succ_eq_append_getElem (by simpa using h)];rfl
theorem yaz(b o:Nat)(s:ByteArray)(k:Nat)(w:World)(hk:k≤s.size)(hs:s.size≤4611686018427387904)(hr:IsRdr w b o s k):
 Calls Tryz.prog 58 #[.pointer (some ⟨b,o,none⟩)] w
  (MethE (.int .u64 (wRes k s).1) (wRes k s).2.1 k (wRes k s).2.2.2 b o s w):=by
 have hlt:=hr.lt;have HR:=hid hr;clear hr;by_cases h8:s.size-k<8
 · rw[yar h8]
   go_enter Tryz.func58,Tryz.ntmps58;go_wp2_with fail;refine(yav b o s k _ HR.out).mono ?_;rintro e w1 ⟨rfl,hg⟩;have HG:=hid hg;clear hg;unfold endF;go_wp2_with fail;refine(yam b o s k 8 _ hk hs h8 (HR.out.below HG.out.below hlt)).mono ?_;rintro e w2 ⟨rfl,q,rfl⟩;have HG2:=hid (HG.out.only (((But.refl b _).drewN q)) hlt);have HB2:=hid ((But.of_below HG.out.below).trans ((But.refl b _).drewN q));have HR2:=hid ((HR.out.below HG.out.below hlt).drewN q);unfold pEnd;go_wp2_with fail;refine wp_loop_rounds 1 ?_;rw[rounds_succ];go_wp2_with fail;refine(yaw w.heap.size b o s _ k 20 _ w rfl hlt HG2.out HR2.out).mono ?_;rintro e w3 ⟨ev,rfl,he,hr3,hb3⟩;have HE:=hid he;clear he;have HR3:=hid hr3;clear hr3;have HB3:=hid hb3;clear hb3;go_wp2_with fail;go_ret2
   exact⟨_,rfl,HE.out,by simpa using HR3.out,HB2.out.trans HB3.out⟩
 · rw[yas h8]
   have hS:(s.extract k (k+8)).data.toList=(s.data.toList.drop k).take 8:=by rw[Lib.extract_data];congr 1;omega
   have hSs:(s.extract k (k+8)).size=8:=by simp;omega
   have HS:=hid hS;clear hS;go_enter Tryz.func58,Tryz.ntmps58;go_wp2_with fail;refine(yav b o s k _ HR.out).mono ?_;rintro e w1 ⟨rfl,hg⟩;have HG:=hid hg;clear hg;unfold endF;go_wp2_with fail;refine(yan b o s k 8 _ (by omega) hs (HR.out.below HG.out.below hlt)).mono ?_;rintro e w2 ⟨rfl,hr2,ho2⟩;have HG2:=hid (HG.out.only (But.of_only ho2) hlt);have HB2:=hid ((But.of_below HG.out.below).trans (But.of_only ho2));have HR2:=hid hr2;clear hr2 ho2;unfold pEnd;generalize s.extract k (k+8)=S at*;have hl:S.size≤8:=by omega
   have hl2:8≤S.size:=by omega
   clear hSs;go_wp2_with fail;go_loopw [7,18] (fun vx vi wr=>∃(i x:Nat),i≤8∧vi= .int .i64 i∧vx= .int .u64 x∧x<256 ^ i∧Hid (x=wv 0 (S.data.toList.take i))∧wr=w2) (fun _ vi _=>8-(intOf vi).toNat)
   case atStart=>exact⟨0,0,by omega,rfl,rfl,by decide,hid rfl,rfl⟩
   case round=>
    obtain⟨i,x,hi,rfl,rfl,hx,HX,rfl⟩:=hrel;by_cases hi8:i<8
    · have hiS:i<S.size:=by omega
      have hdec:decide (i<S.size)=true:=by simpa using hiS
      have hidx:=zzq S i hiS;have hc:=S[i].toNat_lt;have htk:=take_at S i hiS;have HT:=hid htk;clear htk;have hx7:x<72057594037927936:=Nat.lt_of_lt_of_le hx (Nat.le_trans (Nat.pow_le_pow_right (by decide) (show i≤7 by omega)) (by decide));have hob:=yat x S[i].toNat hx7 hc;have hnx:x*256+S[i].toNat<256 ^ (i+1):=by rw[Nat.pow_succ];omega
      have HNX:=hid hnx;have HXX:=hid hx;clear hnx hx;generalize S[i]=c at*;go_wp2_with fail;go_roundw
      case rel=>exact⟨i+1,x*256+c.toNat,by omega,by go_num,by go_num,HNX.out,hid (by rw[HT.out,yap,HX.out]),by first|rfl|trivial⟩
      case measure=>simp[intOf];omega
    · obtain rfl:i=8:=by omega
      have hdec:decide (8<S.size)=false:=by simp;omega
      go_wp2_with fail;refine(yaw w.heap.size b o s _ k 0 _ w rfl hlt HG2.out HR2.out).mono ?_;rintro e w3 ⟨ev,rfl,he,hr3,hb3⟩;have HE:=hid he;clear he;have HR3:=hid hr3;clear hr3;have HB3:=hid hb3;clear hb3;go_wp2_with fail;go_ret2
      have ex:x=wv 0 ((s.data.toList.drop k).take 8):=by rw[HX.out,HS.out,List.take_take];rfl
      exact⟨_,by rw[←ex];rfl,HE.out,by simpa using HR3.out,HB2.out.trans HB3.out⟩
def bRes(k:Nat)(s:ByteArray):Nat×Nat×Nat:=if h:k<s.size then (s[k].toNat,0,k+1) else (0,20,k)
theorem yba(b o:Nat)(s:ByteArray)(k:Nat)(w:World)(hk:k≤s.size)(hs:s.size≤4611686018427387904)(hr:IsRdr w b o s k):
 Calls Tryz.prog 55 #[.pointer (some ⟨b,o,none⟩)] w
  (MethE (.int .u8 (bRes k s).1) (bRes k s).2.1 k (bRes k s).2.2 b o s w):=by
 have hlt:=hr.lt;have HR:=hid hr;clear hr;by_cases h1:k<s.size
 · obtain⟨c,hc⟩:∃c,c=s[k]:=⟨_,rfl⟩
   have e1:bRes k s=(c.toNat,0,k+1):=by rw[hc];simp[bRes,h1]
   rw[e1];clear e1
   have hS:s.extract k (k+1)=⟨#[c]⟩:=by
    apply ByteArray.ext
    apply Array.toList_inj.1
    rw[Lib.extract_data,zwl s k h1,show k+1-k=1 by omega,hc];simp
   clear hc;have HS:=hid hS;clear hS
   have hidx:∀(c:UInt8) (w:World),(Instr.index 9 (.string ⟨#[c]⟩) (.int .i64 0)).run Tryz.prog w= .ok (.int .u8 (c.toNat:Int)) w:=by
    intro c w;exact zzq ⟨#[c]⟩ 0 (by show 0<1;decide) w
   go_enter Tryz.func55,Tryz.ntmps55;go_wp2_with fail;refine(yav b o s k _ HR.out).mono ?_;rintro e w1 ⟨rfl,hg⟩;have HG:=hid hg;clear hg;unfold endF;go_wp2_with fail;refine(yan b o s k 1 _ (by omega) hs (HR.out.below HG.out.below hlt)).mono ?_;rintro e w2 ⟨rfl,hr2,ho2⟩;have HG2:=hid (HG.out.only (But.of_only ho2) hlt);have HB2:=hid ((But.of_below HG.out.below).trans (But.of_only ho2));have HR2:=hid hr2;clear hr2 ho2;unfold pEnd;rw[HS.out];have hend:=fun q=>yad w.heap.size b o s (k+1) (w2.drewN q) (by simpa using HG2.out.1) (HR2.out.drewN q)
   have HEND:=hid hend;clear hend;go_wp2_with fail;go_quiet ((go_at_call 121;exact Calls.quiet_of_same ((HEND.out _).mono fun _ _ ⟨he,hw⟩=>⟨he,hw.symm⟩)))
   go_wp2_with fail;go_ret2
   exact⟨_,rfl,Or.inl ⟨rfl,rfl⟩,HR2.out.drewN _,HB2.out.drewN _⟩
 · have e1:bRes k s=(0,20,k):=by simp[bRes,h1]
   rw[e1];clear e1;go_enter Tryz.func55,Tryz.ntmps55;go_wp2_with fail;refine(yav b o s k _ HR.out).mono ?_;rintro e w1 ⟨rfl,hg⟩;have HG:=hid hg;clear hg;unfold endF;go_wp2_with fail;refine(yam b o s k 1 _ hk hs (by omega) (HR.out.below HG.out.below hlt)).mono ?_;rintro e w2 ⟨rfl,q,rfl⟩;have HG2:=hid (HG.out.only (((But.refl b _).drewN q)) hlt);have HB2:=hid ((But.of_below HG.out.below).trans ((But.refl b _).drewN q));have HR2:=hid ((HR.out.below HG.out.below hlt).drewN q);unfold pEnd;go_wp2_with fail;refine(yaw w.heap.size b o s _ k 20 _ w rfl hlt HG2.out HR2.out).mono ?_;rintro e w3 ⟨ev,rfl,he,hr3,hb3⟩;have HE:=hid he;clear he;have HR3:=hid hr3;clear hr3;have HB3:=hid hb3;clear hb3;go_wp2_with fail;go_ret2
   exact⟨_,rfl,HE.out,by simpa using HR3.out,HB2.out.trans HB3.out⟩
end CodeC
end
section
open Go.RowKit
namespace CodeC
open CodeM ErrC
def wEnd(v e p:Nat):Ending:=.returned (.tuple #[.int .u64 v,.int .i64 e,.int .i64 p])
theorem ybb(b o:Nat)(s:ByteArray)(k:Nat)(w:World)(hk:k≤s.size)(hs:s.size≤4611686018427387904)(hr:IsRef w b o s k):
 Calls Tryz.prog 71 #[.pointer (some ⟨b,o,none⟩)] w fun e w'=>e=wEnd (wRes k s).1 (wRes k s).2.1 (wRes k s).2.2.1∧IsRef w' b o s (wRes k s).2.2.2∧Only b w w':=by
 have HR:=hid hr;obtain⟨h0,h1,h2⟩:=hr;have esub:IntKind.i64.wrap ((s.size:Int)-(k:Int))=(s.size:Int)-(k:Int):=IntWalk.i64_in _ ⟨by omega,by omega⟩;by_cases h8:s.size-k<8
 · rw[yar h8]
   have hd:decide ((s.size:Int)-(k:Int)<8)=true:=by simp;omega
   go_enter Tryz.func71,Tryz.ntmps71;go_wp2_with fail;go_quiet (fail)
   go_wp2_with fail;go_quiet (fail)
   go_wp2_with fail;go_ret3
   exact⟨rfl,by repeat (first|exact HR.out|apply IsRef.drewN),by repeat (first|exact Only.refl _ _|apply Only.drewN)⟩
 · rw[yas h8]
   have hd:decide ((s.size:Int)-(k:Int)<8)=false:=by simp;omega
   have hk8:k+8≤s.size:=by omega
   go_enter Tryz.func71,Tryz.ntmps71;go_wp2_with fail;go_quiet (fail)
   go_wp2_with fail;clear hd esub h8;go_loopw [5,6] (fun vx vi wr=>∃(i x q:Nat),i≤8∧vi= .int .i64 i∧vx= .int .u64 x∧x<256 ^ i∧Hid (x=wv 0 ((s.data.toList.drop k).take i))∧wr=w.drewN q) (fun _ vi _=>8-(intOf vi).toNat)
   case atStart=>exact⟨0,0,_,by omega,rfl,rfl,by decide,hid rfl,rfl⟩
   case round=>
    obtain⟨i,x,q,hi,rfl,rfl,hx,HX,rfl⟩:=hrel;by_cases hi8:i<8
    · have hki:k+i<s.size:=by omega
      have hidx:=zzn s k i hki;have hadd:IntKind.i64.wrap ((k:Int)+(i:Int))=(k:Int)+(i:Int):=IntWalk.i64_in _ ⟨by omega,by omega⟩;have hc:=s[k+i].toNat_lt;have htk:=yau s.data.toList k i (by simpa using hki);have hget:s.data.toList[k+i]'(by simpa using hki)=s[k+i]:=by rw[Array.getElem_toList];rfl
      rw[hget] at htk;have HT:=hid htk;clear htk hget;have hx7:x<72057594037927936:=Nat.lt_of_lt_of_le hx (Nat.le_trans (Nat.pow_le_pow_right (by decide) (show i≤7 by omega)) (by decide));have hob:=yat x s[k+i].toNat hx7 hc;have hnx:x*256+s[k+i].toNat<256 ^ (i+1):=by rw[Nat.pow_succ];omega
      have HNX:=hid hnx;have hwr:IntKind.u64.wrap ((x:Int)*256)=(x:Int)*256:=IntWalk.u64_in _ ⟨by omega,by omega⟩;have hwr2:IntKind.u64.wrap ((x:Int)*2 ^ 8)=(x:Int)*256:=IntWalk.u64_in _ ⟨by omega,by omega⟩;clear hnx hx;generalize s[k+i]=c at*;go_wp2_with fail;go_quiet (fail)
      go_wp2_with fail;go_roundw
      case rel=>exact⟨i+1,x*256+c.toNat,_,by omega,by go_num,by go_num,HNX.out,hid (by rw[HT.out,yap,HX.out]),rfl⟩
      case measure=>simp[intOf];omega
    · obtain rfl:i=8:=by omega
      have hadd:IntKind.i64.wrap ((k:Int)+8)=(k:Int)+8:=IntWalk.i64_in _ ⟨by omega,by omega⟩;go_wp2_with fail;go_ret3
      refine⟨by unfold wEnd;rw[←HX.out];rfl,?_,?_⟩
      · refine IsRef.put (k:=k) ?_ _ (k+8) ?_
        · repeat (first|exact HR.out|apply IsRef.drewN)
        · omega
      · repeat (first|exact Only.refl _ _|apply Only.drewN|apply Only.set)
theorem IsRef.lt{w:World}{b o k:Nat}{s:ByteArray}(h:IsRef w b o s k):b<w.heap.size:=World.block_lt_of_cell? _ _ h.text
theorem IsRef.below{w w':World}{b o k B:Nat}{s:ByteArray}(h:IsRef w b o s k)(hb:Below B w w')(hB:b<B):IsRef w' b o s k:=
 ⟨by rw[hb.cell hB];exact h.text,by rw[hb.cell hB];exact h.at_,by rw[hb.frozen hB];exact h.free⟩
end CodeC
end
end Go.Proofs.YtbninnkpjdofbaaGreatDoor
