/-
  What the proof of EventReads stands on, part 27.
-/
import Derived.Lib.IndexBytes
import Derived.Test.YtbninnkpjdofbaaGreatDoorT21
import Derived.Test.YtbninnkpjdofbaaGreatDoorT24
set_option linter.unusedSimpArgs false
set_option linter.unusedVariables false
set_option maxHeartbeats 16000000
namespace Go.Proofs.YtbninnkpjdofbaaGreatDoor
open Go.Lib (hid)
section
open Go.RowKit
namespace CodeC
open CodeM
structure IsRef (w:World) (b o:Nat) (s:ByteArray) (k:Nat):Prop where
 text:w.cell? ⟨b,o,none⟩=some (.string s)
 at_:w.cell? ⟨b,o+1,none⟩=some (.int .i64 k)
 free:w.frozen? ⟨b,o+1,none⟩=false
theorem zzn(s:ByteArray)(k n:Nat)(h:k+n<s.size)(w:World):(Instr.index 9 (.string s) (.int .i64 ((k:Int)+(n:Int)))).run Tryz.prog w= .ok (.int .u8 (s[k+n].toNat:Int)) w:=by
 rw[run_index_string w 9 s .i64 _ Tryz.underlying9,dif_pos ⟨by omega,by omega⟩];have e:((k:Int)+(n:Int)).toNat=k+n:=by omega
 simp only[e]
structure Only (b:Nat) (w w':World):Prop where
 os:w'.os=w.os
 tape:w'.tape=w.tape
 output:w'.output=w.output
 size:w'.heap.size=w.heap.size
 block:∀k,k≠b→w'.heap[k]?=w.heap[k]?
theorem Only.refl(b:Nat)(w:World):Only b w w:=⟨rfl,rfl,rfl,rfl,fun _ _=>rfl⟩
theorem Only.drewN{b:Nat}{a w:World}(h:Only b a w)(q:Nat):Only b a (w.drewN q):=⟨h.os,h.tape,h.output,h.size,h.block⟩
theorem Only.set{b:Nat}{a w:World}(h:Only b a w)(o:Nat)(v:Value):Only b a (w.setCell ⟨b,o,none⟩ v):=
 ⟨h.os,h.tape,h.output,by simpa using h.size,fun k hk=>by rw[Below.heap_setCell w ⟨b,o,none⟩ v k hk];exact h.block k hk⟩
theorem Only.below{b B:Nat}{w w':World}(h:Only b w w')(hB:B≤b):Below B w w':=⟨h.os,h.tape,h.output,by rw[h.size];exact Nat.le_refl _,fun k hk=>h.block k (by omega)⟩
theorem IsRef.drewN{w:World}{b o k:Nat}{s:ByteArray}(h:IsRef w b o s k)(q:Nat):IsRef (w.drewN q) b o s k:=⟨by simpa using h.text,by simpa using h.at_,by simpa using h.free⟩
theorem IsRef.set{w:World}{b o k:Nat}{s:ByteArray}(h:IsRef w b o s k)(n:Nat):IsRef (w.setCell ⟨b,o+1,none⟩ (.int .i64 n)) b o s n:=
 ⟨by rw[World.cell?_setCell_other _ _ _ _ (fun e=>by have:=congrArg Addr.off e;simp at this)];exact h.text,World.cell?_setCell_same _ _ _ h.at_,by simpa using h.free⟩
theorem IsRef.put{w:World}{b o k:Nat}{s:ByteArray}(h:IsRef w b o s k)(z:Int)(n:Nat)(hz:z=(n:Int)):IsRef (w.setCell ⟨b,o+1,none⟩ (.int .i64 z)) b o s n:=by
 subst hz;exact h.set n
def uEnd(v e p:Nat):Ending:=.returned (.tuple #[.int .u64 v,.int .i64 e,.int .i64 p])
theorem zzo{most k v e p q:Nat}{l:List UInt8}(h:uRes most k l=(v,e,p,q)):uEnd (uRes most k l).1 (uRes most k l).2.1 (uRes most k l).2.2.1= .returned (.tuple #[.int .u64 v,.int .i64 e,.int .i64 p]):=by rw[h];rfl
set_option maxRecDepth 100000 in
theorem zzp(b o:Nat)(s:ByteArray)(k:Nat)(most:Nat)(w:World)(hk:k≤s.size)(hs:s.size≤4611686018427387904)(hm:most<18446744073709551616)(hr:IsRef w b o s k):
 Calls Tryz.prog 72 #[.pointer (some ⟨b,o,none⟩),.int .u64 most] w fun e w'=>
  e=uEnd (uRes most k (s.data.toList.drop k)).1 (uRes most k (s.data.toList.drop k)).2.1 (uRes most k (s.data.toList.drop k)).2.2.1∧IsRef w' b o s (uRes most k (s.data.toList.drop k)).2.2.2∧Only b w w':=by
 have HR:=hid hr;obtain⟨h0,h1,h2⟩:=hr;have HM:=hid hm;clear hm;go_enter Tryz.func72,Tryz.ntmps72;go_wp2_with fail;go_loopw [7,8,9] (fun vx vn vc wr=>∃(n x q:Nat),vx= .int .u64 x∧vn= .int .i64 n∧n≤10∧k+n≤s.size∧x<128 ^ n∧wr=w.drewN q∧Hid (ur 0 0 (s.data.toList.drop k)=ur n x (s.data.toList.drop (k+n)))) (fun _ vn _ _=>10-(intOf vn).toNat)
 case atStart=>exact⟨0,0,0,rfl,rfl,by omega,by omega,by decide,rfl,hid rfl⟩
 case round=>
  obtain⟨n,x,q,rfl,rfl,hn,hkn,hx,rfl,HU⟩:=hrel;have HX:=hid hx;clear hx;by_cases h10:n=10
  · have t10:((n:Int) == 10)=true:=beq_iff_eq.2 (by omega)
    have HE:=hid (zwq (most:=most) (k:=k) (l:=s.data.toList.drop k) (e:=21) (by rw[HU.out];cases s.data.toList.drop (k+n)<;>simp[ur,h10]));clear h10;go_wp2_with fail;go_quiet (fail)
    go_wp2_with fail;go_ret3
    exact⟨(zzo HE.out).symm,by rw[HE.out];repeat (first|exact HR.out|apply IsRef.drewN),by repeat (first|exact Only.refl _ _|apply Only.drewN)⟩
  · have t10:((n:Int) == 10)=false:=beq_eq_false_iff_ne.2 (by omega)
    by_cases hend:s.size≤k+n
    · have HE:=hid (zwq (most:=most) (k:=k) (l:=s.data.toList.drop k) (e:=20) (by rw[HU.out,zwm s (k+n) hend];simp[ur,h10]))
      go_wp2_with fail;go_quiet (fail)
      go_wp2_with fail;go_quiet (fail)
      go_wp2_with fail;go_ret3
      exact⟨(zzo HE.out).symm,by rw[HE.out];repeat (first|exact HR.out|apply IsRef.drewN),by repeat (first|exact Only.refl _ _|apply Only.drewN)⟩
    · have hlt:k+n<s.size:=by omega
      have hc:=s[k+n].toNat_lt;have hd1:decide (s.size≤k+n)=false:=by simpa using hlt
      have hidx:=zzn s k n hlt;go_wp2_with fail;go_quiet (fail)
      go_wp2_with fail;go_quiet (fail)
      have hdc:=zwl s (k+n) hlt;have HD:=hid hdc;clear hdc;clear hidx;generalize s[k+n]=c at*;by_cases hA:n=9∧1<c.toNat
      · have HE:=hid (zwq (most:=most) (k:=k) (l:=s.data.toList.drop k) (e:=21) (by rw[HU.out,HD.out];simp[ur,hA]))
        have t9:((n:Int) == 9)=true:=beq_iff_eq.2 (by omega);have tc:decide (1<c.toNat)=true:=by simpa using hA.2
        have tc2:=hA.2;clear hA;go_wp2_with fail;go_quiet (fail)
        go_wp2_with fail;go_ret3
        exact⟨(zzo HE.out).symm,by rw[HE.out];repeat (first|exact HR.out|apply IsRef.drewN),by repeat (first|exact Only.refl _ _|apply Only.drewN)⟩
      · have hn9:n≤9:=by omega
        have h9c:n=9→c.toNat % 128≤1:=fun e=>by have:¬1<c.toNat:=fun h=>hA ⟨e,h⟩;omega
        have hor:=zwo x n c.toNat HX.out hn9 h9c;have hnx:=hid (zwp x n (c.toNat % 128) HX.out (Nat.mod_lt _ (by decide)));have hand:bits .and .u8 (c.toNat:Int) 127=(c.toNat:Int) % 128:=bits_mask .u8 8 (by decide) wraps_u8 7 (by decide) _ (by omega) (by omega);by_cases hB:c.toNat<128
        · have t128:decide (c.toNat<128)=true:=by simpa using hB
          have t9c:n=9→decide (1<c.toNat)=false:=fun e=>by have:¬1<c.toNat:=fun h=>hA ⟨e,h⟩;simpa using this
          by_cases hC:c.toNat=0∧0<n
          · have HE:=hid (zwq (most:=most) (k:=k) (l:=s.data.toList.drop k) (e:=21) (by rw[HU.out,HD.out,ur,if_neg h10,if_neg hA,if_pos hB,if_pos hC]))
            have tz:((c.toNat:Int) == 0)=true:=beq_iff_eq.2 (by omega);have tn:decide (1<(n:Int)+1)=true:=by simp;omega
            have tn2:1<(n:Int)+1:=by omega
            have hz:=hC.1;by_cases h9:n=9
            · have t9:((n:Int) == 9)=true:=beq_iff_eq.2 (by omega)
              have tc:=t9c h9;have hle:c.toNat≤1:=by omega
              clear hA hC h9c t9c hz h9 h10;go_wp2_with fail;go_quiet (fail)
              go_wp2_with fail;go_ret3
              exact⟨(zzo HE.out).symm,by rw[HE.out];repeat (first|exact HR.out|apply IsRef.drewN),by repeat (first|exact Only.refl _ _|apply Only.drewN)⟩
            · have t9:((n:Int) == 9)=false:=beq_eq_false_iff_ne.2 (by omega)
              clear hA hC h9c t9c hz h9 h10;go_wp2_with fail;go_quiet (fail)
              go_wp2_with fail;go_ret3
              exact⟨(zzo HE.out).symm,by rw[HE.out];repeat (first|exact HR.out|apply IsRef.drewN),by repeat (first|exact Only.refl _ _|apply Only.drewN)⟩
          · have hur:ur 0 0 (s.data.toList.drop k)= .inr (x+c.toNat % 128*128 ^ n,n+1):=by rw[HU.out,HD.out,ur,if_neg h10,if_neg hA,if_pos hB,if_neg hC]
            have hX:x+c.toNat % 128*128 ^ n<18446744073709551616:=by have h1:=zwn n (c.toNat % 128) hn9 (Nat.mod_lt _ (by decide)) h9c;rw[Nat.add_mul,Nat.one_mul] at h1;have:=HX.out;omega
            have hnz:(c.toNat=0→n=0):=fun e=>by omega
            have hkn1:k+(n+1)≤s.size:=by omega
            clear hC hA h9c hnx;generalize x+c.toNat % 128*128 ^ n=X at*;have HUR:=hid hur;clear hur
            have h3:(((n:Int) == 9)=true∧c.toNat≤1∧((c.toNat:Int) == 0)=false)∨(((n:Int) == 9)=false∧((c.toNat:Int) == 0)=true∧n≤0)∨(((n:Int) == 9)=false∧((c.toNat:Int) == 0)=false):=by
             by_cases e9:n=9
             · have:¬1<c.toNat:=by simpa using t9c e9
               exact Or.inl ⟨beq_iff_eq.2 (by omega),by omega,beq_eq_false_iff_ne.2 (fun e=>by have:=hnz (by omega);omega)⟩
             · by_cases ez:c.toNat=0
               · exact Or.inr (Or.inl ⟨beq_eq_false_iff_ne.2 (by omega),beq_iff_eq.2 (by omega),by have:=hnz ez;omega⟩)
               · exact Or.inr (Or.inr ⟨beq_eq_false_iff_ne.2 (by omega),beq_eq_false_iff_ne.2 (by omega)⟩)
            clear hnz t9c h10;have hXm:X≤18446744073709551615:=by omega
            clear hX;by_cases hmost:most<X
            · have HE:=hid (zwr HUR.out hmost (k:=k))
              have tm:decide (most<X)=true:=by simpa using hmost
              rcases h3 with ⟨t9,tle,tz⟩|⟨t9,tz,tn⟩|⟨t9,tz⟩
              all_goals
               go_wp2_with fail;go_quiet (fail)
               go_wp2_with fail;go_ret3
               exact⟨(zzo HE.out).symm,by rw[HE.out];repeat (first|exact HR.out|apply IsRef.drewN),by repeat (first|exact Only.refl _ _|apply Only.drewN)⟩
            · have HE:=hid (zws HUR.out hmost (k:=k))
              have tm:decide (most<X)=false:=by simpa using hmost
              rcases h3 with ⟨t9,tle,tz⟩|⟨t9,tz,tn⟩|⟨t9,tz⟩
              all_goals
               go_wp2_with fail;go_ret3
               refine⟨(zzo HE.out).symm,?_,?_⟩
               · rw[HE.out]
                 repeat apply IsRef.drewN
                 refine IsRef.put (k:=k) ?_ _ (k+(n+1)) ?_
                 · repeat (first|exact HR.out|apply IsRef.drewN)
                 · omega
               · repeat (first|exact Only.refl _ _|apply Only.drewN|apply Only.set)
        · have t128:decide (c.toNat<128)=false:=by simpa using hB
          have HN:=hid (show ur n x (c :: s.data.toList.drop (k+n+1))=ur (n+1) (x+c.toNat % 128*128 ^ n) (s.data.toList.drop (k+(n+1))) by rw[ur,if_neg h10,if_neg hA,if_neg hB];rfl);have h9:n≠9:=by omega
          have t9:((n:Int) == 9)=false:=beq_eq_false_iff_ne.2 (by omega);clear h9c hA;generalize x+c.toNat % 128*128 ^ n=X at*;go_wp2_with fail;go_roundw
          case rel=>exact⟨n+1,X,_,rfl,by go_num,by omega,by omega,hnx.out,rfl,hid (by rw[HU.out,HD.out,HN.out])⟩
          case measure=>simp[intOf];omega
theorem zzq(s:ByteArray)(k:Nat)(h:k<s.size)(w:World):(Instr.index 9 (.string s) (.int .i64 (k:Int))).run Tryz.prog w= .ok (.int .u8 (s[k].toNat:Int)) w:=by
 rw[run_index_string w 9 s .i64 _ Tryz.underlying9,dif_pos ⟨by omega,by omega⟩];have e:((k:Int)).toNat=k:=by omega
 simp only[e]
theorem zzr(b o:Nat)(s:ByteArray)(k:Nat)(w:World)(hk:s.size≤k)(hr:IsRef w b o s k):
 Calls Tryz.prog 26 #[.pointer (some ⟨b,o,none⟩)] w fun e w'=>e= .returned (.tuple #[.int .u8 0,.int .i64 20,.int .i64 k])∧IsRef w' b o s k∧Only b w w':=by
 have HR:=hid hr;obtain⟨h0,h1,h2⟩:=hr;have hd:decide (s.size≤k)=true:=by simpa using hk
 go_enter Tryz.func26,Tryz.ntmps26;go_wp2_with fail;go_quiet (fail)
 go_wp2_with fail;go_quiet (fail)
 go_wp2_with fail;go_ret3
 exact⟨rfl,by repeat (first|exact HR.out|apply IsRef.drewN),by repeat (first|exact Only.refl _ _|apply Only.drewN)⟩
theorem zzs(b o:Nat)(s:ByteArray)(k:Nat)(w:World)(hk:k<s.size)(hs:s.size≤4611686018427387904)(hr:IsRef w b o s k):
 Calls Tryz.prog 26 #[.pointer (some ⟨b,o,none⟩)] w fun e w'=>e= .returned (.tuple #[.int .u8 (s[k].toNat:Int),.int .i64 0,.int .i64 0])∧IsRef w' b o s (k+1)∧Only b w w':=by
 have HR:=hid hr;obtain⟨h0,h1,h2⟩:=hr;have hd:decide (s.size≤k)=false:=by simpa using hk
 have hidx:=zzq s k hk;go_enter Tryz.func26,Tryz.ntmps26;go_wp2_with fail;go_quiet (fail)
 go_wp2_with fail;go_quiet (fail)
 go_wp2_with fail;go_ret3
 refine⟨rfl,?_,by repeat (first|exact Only.refl _ _|apply Only.drewN|apply Only.set)⟩
 repeat apply IsRef.drewN
 refine IsRef.put (k:=k) ?_ _ (k+1) ?_
 · repeat (first|exact HR.out|apply IsRef.drewN)
 · omega
theorem zzt(b o:Nat)(s:ByteArray)(k:Nat)(w:World)(hk:k<s.size)(hr:IsRef w b o s k):
 Calls Tryz.prog 29 #[.pointer (some ⟨b,o,none⟩)] w fun e w'=>e= .returned (.tuple #[.int .i64 23,.int .i64 k])∧IsRef w' b o s k∧Only b w w':=by
 have HR:=hid hr;obtain⟨h0,h1,h2⟩:=hr;have hd:decide (k<s.size)=true:=by simpa using hk
 go_enter Tryz.func29,Tryz.ntmps29;go_wp2_with fail;go_quiet (fail)
 go_wp2_with fail;go_quiet (fail)
 go_wp2_with fail;go_ret2
 exact⟨rfl,by repeat (first|exact HR.out|apply IsRef.drewN),by repeat (first|exact Only.refl _ _|apply Only.drewN)⟩
theorem zzu(b o:Nat)(s:ByteArray)(k:Nat)(w:World)(hk:s.size≤k)(hr:IsRef w b o s k):
 Calls Tryz.prog 29 #[.pointer (some ⟨b,o,none⟩)] w fun e w'=>e= .returned (.tuple #[.int .i64 0,.int .i64 0])∧IsRef w' b o s k∧Only b w w':=by
 have HR:=hid hr;obtain⟨h0,h1,h2⟩:=hr;have hd:decide (k<s.size)=false:=by simpa using hk
 go_enter Tryz.func29,Tryz.ntmps29;go_wp2_with fail;go_quiet (fail)
 go_wp2_with fail;go_ret2
 exact⟨rfl,by repeat (first|exact HR.out|apply IsRef.drewN),by repeat (first|exact Only.refl _ _|apply Only.drewN)⟩
def cap(n:Int):Nat:=n.toNat
theorem zzv(n:Int)(w:World)(h:n≤9223372036854775807):Calls Tryz.prog 122 #[.int .i64 n] w fun e w'=>e= .returned (.int .u64 (cap n))∧w=w':=by
 by_cases h0:n<0
 · have e:cap n=0:=by unfold cap;omega
   rw[e];go_enter Tryz.func122,Tryz.ntmps122;go_wp2_with fail;go_ret;exact⟨rfl,rfl⟩
 · obtain⟨m,rfl⟩:=Int.eq_ofNat_of_zero_le (show 0≤n by omega)
   have e:cap (m:Int)=m:=by unfold cap;omega
   rw[e];go_enter Tryz.func122,Tryz.ntmps122;go_wp2_with fail;go_ret;exact⟨rfl,rfl⟩
def tEnd(s:ByteArray)(a b e p:Nat):Ending:=.returned (.tuple #[.string (s.extract a b),.int .i64 e,.int .i64 p])
theorem zzw(s:ByteArray):s.extract 0 0=⟨#[]⟩:=by
 have h:(s.extract 0 0).size=0:=by simp
 apply ByteArray.ext
 exact Array.eq_empty_of_size_eq_zero h
theorem zzx(s:ByteArray)(q v:Nat)(h:q+v≤s.size)(w:World):(Instr.slice 9 (.string s) (some (.int .i64 (q:Int))) (some (.int .i64 ((q:Int)+(v:Int)))) none).run Tryz.prog w= .ok (.string (s.extract q (q+v))) w:=by
 rw[run_slice_string w 9 s .i64 .i64 _ _ Tryz.underlying9 (by omega) (by omega) (by omega)];have e1:((q:Int)).toNat=q:=by omega
 have e2:((q:Int)+(v:Int)).toNat=q+v:=by omega
 rw[e1,e2]
theorem zzy(b o:Nat)(s:ByteArray)(k:Nat)(n:Int)(w:World)(hk:k≤s.size)(hs:s.size≤4611686018427387904)(hn:n≤9223372036854775807)(hr:IsRef w b o s k):
 Calls Tryz.prog 70 #[.pointer (some ⟨b,o,none⟩),.int .i64 n] w fun e w'=>
  e=tEnd s (tRes (cap n) k s).1 (tRes (cap n) k s).2.1 (tRes (cap n) k s).2.2.1 (tRes (cap n) k s).2.2.2.1∧IsRef w' b o s (tRes (cap n) k s).2.2.2.2∧Only b w w':=by
 have HR:=hid hr;have h1:=hr.at_;have hc:=zwu (cap n) k s hk;have hcap:cap n<18446744073709551616:=by unfold cap;omega
 go_enter Tryz.func70,Tryz.ntmps70;go_wp2_with fail;refine(zzv n _ hn).mono ?_;rintro e w' ⟨rfl,rfl⟩;go_wp2_with fail;refine(zzp b o s k (cap n) _ hk hs hcap HR.out).mono ?_;rintro e w1 ⟨rfl,hr1,ho1⟩;clear h1;rcases hc with ⟨e,he,he2,hu⟩|⟨v,m,hv,hm,hu⟩
 · have HT:=hid (zwv hu he)
   rw[hu] at hr1 ⊢;have te:((e:Int) != 0)=true:=by simpa using he
   have HR1:=hid hr1;have HO:=hid ho1;clear hr1 ho1 hr hu he;unfold uEnd;go_wp2_with fail;go_ret3
   rw[HT.out];exact⟨by unfold tEnd;rw[zzw];rfl,HR1.out,HO.out⟩
 · rw[hu] at hr1 ⊢
   have h2:=hr1.text;have h3:=hr1.at_;have h4:=hr1.free;have HR1:=hid hr1;have HO:=hid ho1;have hvm:v<18446744073709551616:=by omega
   clear hr1 ho1 hr hcap;generalize k+m=q at*;have e1:IntKind.i64.wrap ((s.size:Int)-(q:Int))=(s.size:Int)-(q:Int):=IntWalk.i64_in _ ⟨by omega,by omega⟩;have e2:IntKind.u64.wrap ((s.size:Int)-(q:Int))=(s.size:Int)-(q:Int):=IntWalk.u64_in _ ⟨by omega,by omega⟩;by_cases hq:s.size-q<v
   · have HT:=hid (zww hu hq)
     have tq:decide ((s.size:Int)-(q:Int)<(v:Int))=true:=by simp;omega
     unfold uEnd;clear hu;go_wp2_with fail;go_quiet (fail)
     go_wp2_with fail;go_ret3
     rw[HT.out];refine⟨by unfold tEnd;rw[zzw];rfl,?_,?_⟩
     · repeat apply IsRef.drewN
       refine IsRef.put (k:=q) ?_ _ k ?_
       · repeat (first|exact HR1.out|apply IsRef.drewN)
       · rfl
     · repeat (first|exact HO.out|apply Only.drewN|apply Only.set)
   · have HT:=hid (zwx hu hq)
     have tq:decide ((s.size:Int)-(q:Int)<(v:Int))=false:=by simp;omega
     unfold uEnd;clear hu;have e3:IntKind.i64.wrap (v:Int)=(v:Int):=IntWalk.i64_in _ ⟨by omega,by omega⟩;have e4:IntKind.i64.wrap ((q:Int)+(v:Int))=(q:Int)+(v:Int):=IntWalk.i64_in _ ⟨by omega,by omega⟩;have hcut:=zzx s q v (by omega);go_wp2_with fail;go_quiet (fail)
     go_wp2_with fail;go_quiet (fail)
     go_wp2_with fail;go_ret3
     rw[HT.out];refine⟨rfl,?_,?_⟩
     · repeat apply IsRef.drewN
       refine IsRef.put (k:=q) ?_ _ (q+v) ?_
       · repeat (first|exact HR1.out|apply IsRef.drewN)
       · omega
     · repeat (first|exact HO.out|apply Only.drewN|apply Only.set)
end CodeC
end
section
open Go.RowKit
namespace CodeC
open CodeM ErrC
structure IsRdr (w:World) (b o:Nat) (s:ByteArray) (k:Nat):Prop where
 made:w.cell? ⟨b,o,none⟩=some (.bool true)
 text:w.cell? ⟨b,o+1,none⟩=some (.string s)
 at_:w.cell? ⟨b,o+2,none⟩=some (.int .i64 k)
 free:w.frozen? ⟨b,o+2,none⟩=false
theorem IsRdr.drewN{w:World}{b o k:Nat}{s:ByteArray}(h:IsRdr w b o s k)(q:Nat):IsRdr (w.drewN q) b o s k:=⟨by simpa using h.made,by simpa using h.text,by simpa using h.at_,by simpa using h.free⟩
theorem IsRdr.lt{w:World}{b o k:Nat}{s:ByteArray}(h:IsRdr w b o s k):b<w.heap.size:=World.block_lt_of_cell? _ _ h.made
theorem IsRdr.below{w w':World}{b o k B:Nat}{s:ByteArray}(h:IsRdr w b o s k)(hb:Below B w w')(hB:b<B):IsRdr w' b o s k:=
 ⟨by rw[hb.cell hB];exact h.made,by rw[hb.cell hB];exact h.text,by rw[hb.cell hB];exact h.at_,by rw[hb.frozen hB];exact h.free⟩
theorem IsRdr.put{w:World}{b o k:Nat}{s:ByteArray}(h:IsRdr w b o s k)(z:Int)(n:Nat)(hz:z=(n:Int)):IsRdr (w.setCell ⟨b,o+2,none⟩ (.int .i64 z)) b o s n:=by
 subst hz
 exact⟨by rw[World.cell?_setCell_other _ _ _ _ (fun e=>by have:=congrArg Addr.off e;simp at this)];exact h.made,
  by rw[World.cell?_setCell_other _ _ _ _ (fun e=>by have:=congrArg Addr.off e;simp at this)];exact h.text,World.cell?_setCell_same _ _ _ h.at_,by simpa using h.free⟩
structure But (b:Nat) (w w':World):Prop where
 os:w'.os=w.os
 tape:w'.tape=w.tape
 output:w'.output=w.output
 size:w.heap.size≤w'.heap.size
 block:∀k,k<w.heap.size→k≠b→w'.heap[k]?=w.heap[k]?
theorem But.refl(b:Nat)(w:World):But b w w:=⟨rfl,rfl,rfl,Nat.le_refl _,fun _ _ _=>rfl⟩
theorem But.trans{b:Nat}{x y z:World}(h:But b x y)(k:But b y z):But b x z:=
 ⟨k.os.trans h.os,k.tape.trans h.tape,k.output.trans h.output,Nat.le_trans h.size k.size,fun i hi hb=>(k.block i (Nat.lt_of_lt_of_le hi h.size) hb).trans (h.block i hi hb)⟩
theorem But.of_below{b:Nat}{w w':World}(h:Below w.heap.size w w'):But b w w':=⟨h.os,h.tape,h.output,h.size,fun k hk _=>h.block k hk⟩
theorem But.of_only{b:Nat}{w w':World}(h:Only b w w'):But b w w':=⟨h.os,h.tape,h.output,by rw[h.size];exact Nat.le_refl _,fun k _ hk=>h.block k hk⟩
theorem But.cell{b:Nat}{w w':World}(h:But b w w'){p:Addr}(hp:p.block<w.heap.size)(hb:p.block≠b):w'.cell? p=w.cell? p:=World.cell?_of_block (w:=w) (h.block p.block hp hb)
theorem But.alloc{b:Nat}{a w:World}(h:But b a w)(o:Obj):But b a (w.alloc o):=h.trans (But.of_below ((Below.refl _ _).alloc (Nat.le_refl _) _))
theorem But.set{b:Nat}{a w:World}(h:But b a w)(o:Nat)(v:Value):But b a (w.setCell ⟨b,o,none⟩ v):=h.trans (But.of_only ((Only.refl _ _).set _ _))
theorem But.drewN{b:Nat}{a w:World}(h:But b a w)(q:Nat):But b a (w.drewN q):=⟨h.os,h.tape,h.output,h.size,h.block⟩
theorem at_is(b o:Nat)(s:ByteArray)(k:Nat)(w:World)(hr:IsRdr w b o s k):Calls Tryz.prog 25 #[.pointer (some ⟨b,o,none⟩)] w fun e w'=>e= .returned (.int .i64 k)∧w=w':=by
 have h1:=hr.at_;clear hr;go_enter Tryz.func25,Tryz.ntmps25;go_wp2_with fail;go_ret;exact⟨rfl,rfl⟩
theorem zzz(w:World):Calls Tryz.prog 69 #[.pointer none] w fun e w'=>e= .returned (.string ⟨#[]⟩)∧w=w':=by
 go_enter Tryz.func69,Tryz.ntmps69;go_wp2_with fail;go_ret;exact⟨rfl,rfl⟩
theorem yaa(s:ByteArray)(k:Nat)(h:k≤s.size)(w:World):(Instr.slice 9 (.string s) (some (.int .i64 (k:Int))) none none).run Tryz.prog w= .ok (.string (s.extract k s.size)) w:=by
 rw[run_slice_string_l w 9 s Tryz.underlying9 .i64 (k:Int) (by omega) (by omega)]
 rfl
theorem yab(b o:Nat)(s:ByteArray)(k:Nat)(w:World)(hk:k≤s.size)(hr:IsRdr w b o s k):Calls Tryz.prog 69 #[.pointer (some ⟨b,o,none⟩)] w fun e w'=>e= .returned (.string (s.extract k s.size))∧∃q,w'=w.drewN q:=by
 have h1:=hr.at_;have h2:=hr.text;have hcut:=yaa s k hk;clear hr;go_enter Tryz.func69,Tryz.ntmps69;go_wp2_with fail;go_quiet (fail)
 go_wp2_with fail;go_ret;exact⟨rfl,_,rfl⟩
def endF(n:Nat):Value:=.func (.func 121) #[] #[.pointer (some ⟨n,0,none⟩),.pointer (some ⟨n+1,0,none⟩)]
theorem yac(b o:Nat)(s:ByteArray)(k:Nat)(w:World)(hr:IsRdr w b o s k):
 Calls Tryz.prog 68 #[.pointer (some ⟨b,o,none⟩)] w fun e w'=>e= .returned (endF w.heap.size)∧w'=(w.alloc (.cells #[.pointer (some ⟨b,o,none⟩)] 57)).alloc (.cells #[.int .i64 k] 3):=by
 have hr1:=hid (hr.below ((Below.refl _ _).alloc (Nat.le_refl _) (.cells #[.pointer (some ⟨b,o,none⟩)] 57)) hr.lt);clear hr;go_enter Tryz.func68,Tryz.ntmps68;go_wp2_with fail;refine(at_is b o s k _ hr1.out).mono ?_;rintro e w' ⟨rfl,rfl⟩;go_wp2_with fail;go_ret;exact⟨rfl,rfl⟩
def IsErr(w w':World)(v:Value)(c:Nat)(a:Int):Prop:=(c=0∧v= .nilIface)∨(c≠0∧∃f,v= .iface 40 (.pointer (some ⟨f,0,none⟩))∧w.heap.size≤f∧IsFault w' f 0 c ⟨#[]⟩ a)
theorem yad(n b o:Nat)(s:ByteArray)(k:Nat)(w:World)(hc:w.cell? ⟨n,0,none⟩=some (.pointer (some ⟨b,o,none⟩)))(hr:IsRdr w b o s k):
 Calls Tryz.prog 121 #[.int .i64 0,.pointer (some ⟨n,0,none⟩),.pointer (some ⟨n+1,0,none⟩)] w fun e w'=>e= .returned .nilIface∧w=w':=by
 have h1:=hr.made;clear hr;go_enter Tryz.func121,Tryz.ntmps121;go_wp2_with fail;go_ret;exact⟨rfl,rfl⟩
theorem end_err(n b o:Nat)(s:ByteArray)(k k0 c:Nat)(w:World)(h0:c≠0)(hc:w.cell? ⟨n,0,none⟩=some (.pointer (some ⟨b,o,none⟩)))(hf:w.cell? ⟨n+1,0,none⟩=some (.int .i64 k0))(hr:IsRdr w b o s k):
 Calls Tryz.prog 121 #[.int .i64 c,.pointer (some ⟨n,0,none⟩),.pointer (some ⟨n+1,0,none⟩)] w fun e w'=>
  e= .returned (.iface 40 (.pointer (some ⟨w.heap.size,0,none⟩)))∧w'=(w.setCell ⟨b,o+2,none⟩ (.int .i64 k0)).alloc (.cells #[.int .i64 c,.string ⟨#[]⟩,.int .i64 k0,.nilIface] 45):=by
 have h1:=hr.made;have h2:=hr.at_;have h3:=hr.free;have hc0:((c:Int) == 0)=false:=beq_eq_false_iff_ne.2 (by omega);clear hr;go_enter Tryz.func121,Tryz.ntmps121;go_wp2_with fail;go_ret;exact⟨rfl,rfl⟩
theorem yae(n:Int)(w:World)(h:n≤9223372036854775807):Calls Tryz.prog 144 #[.int .i64 n] w fun e w'=>e= .returned (.int .u64 (cap n))∧w=w':=by
 have hmx:max n 0=((cap n:Nat):Int):=by unfold cap;omega
 have hb:cap n≤9223372036854775807:=by unfold cap;omega
 clear h;generalize cap n=m at*;go_enter Tryz.func144,Tryz.ntmps144;go_wp2_with fail;go_ret;exact⟨rfl,rfl⟩
theorem new_any(s:ByteArray)(w:World):Calls Tryz.prog 21 #[.string s] w fun e w'=>e= .returned (.pointer (some ⟨w.heap.size,0,none⟩))∧w'=w.alloc (.cells #[.bool true,.string s,.int .i64 0] 122):=by
 go_enter Tryz.func21,Tryz.ntmps21;go_wp2_with fail;go_ret;exact⟨rfl,rfl⟩
end CodeC
end
section
open Go.RowKit
namespace CodeC
open CodeM ErrC
def nEnd(v e:Nat):Ending:=.returned (.tuple #[.int .u64 v,.int .i64 e])
theorem yaf{most k v e p q:Nat}{l:List UInt8}(h:uRes most k l=(v,e,p,q)):.returned (.tuple #[.int .u64 v,.int .i64 e])=nEnd (uRes most k l).1 (uRes most k l).2.1:=by rw[h];rfl
theorem num_none(most:Nat)(w:World):
 Calls Tryz.prog 115 #[.pointer none,.int .u64 most] w fun e w'=>e=nEnd 0 20∧w=w':=by
 go_enter Tryz.func115,Tryz.ntmps115;go_wp2_with fail;refine(zzz _).mono ?_;rintro e w' ⟨rfl,rfl⟩;go_wp2_with fail;refine wp_loop_rounds 1 ?_;rw[rounds_succ];go_wp2_with fail;go_ret2
 exact⟨rfl,rfl⟩
theorem yag(s:ByteArray)(k:Nat):(s.extract k s.size).data.toList=s.data.toList.drop k∧(s.extract k s.size).size=s.size-k:=
 ⟨Lib.extract_to_end s k,by simp⟩
theorem yah(c:Nat)(h:c<256):bits .andNot .u8 (c:Int) 128=(c:Int) % 128:=by
 have H:∀n:Fin 256,bits .andNot .u8 (n.val:Int) 128=(n.val:Int) % 128:=by decide +kernel
 exact H ⟨c,h⟩
theorem yai{n x:Nat}{l:List UInt8}(h:n≠10)(hl:l=[]):ur n x l= .inl 20:=by subst hl;simp[ur,h]
set_option maxRecDepth 100000 in
theorem yaj(b o:Nat)(s:ByteArray)(k:Nat)(most:Nat)(w:World)(hk:k≤s.size)(hs:s.size≤4611686018427387904)(hm:most<18446744073709551616)(hr:IsRdr w b o s k):
 Calls Tryz.prog 115 #[.pointer (some ⟨b,o,none⟩),.int .u64 most] w fun e w'=>
  e=nEnd (uRes most k (s.data.toList.drop k)).1 (uRes most k (s.data.toList.drop k)).2.1∧IsRdr w' b o s (uRes most k (s.data.toList.drop k)).2.2.2∧Only b w w':=by
 have HR:=hid hr;have h1:=hr.at_;have h2:=hr.free;have h3:=hr.made;clear hr;have HM:=hid hm;clear hm;obtain⟨hRd,hRs⟩:=yag s k;have HRd:=hid hRd;clear hRd;have HRs:=hid hRs;clear hRs;go_enter Tryz.func115,Tryz.ntmps115;go_wp2_with fail;refine(yab b o s k _ hk HR.out).mono ?_;rintro e w1 ⟨rfl,q,rfl⟩;generalize s.extract k s.size=R at*;have hRsz:R.size≤4611686018427387904:=by have:=HRs.out;omega
 go_wp2_with fail;go_loopw [7,15] (fun vx vn wr=>∃(n x:Nat),vx= .int .u64 x∧vn= .int .i64 n∧n≤9∧n≤R.size∧x<128 ^ n∧wr=w.drewN q∧Hid (ur 0 0 (s.data.toList.drop k)=ur n x (R.data.toList.drop n))) (fun _ vn _=>10-(intOf vn).toNat)
 case atStart=>exact⟨0,0,rfl,rfl,by omega,by omega,by decide,rfl,hid (by rw[HRd.out];rfl)⟩
 case round=>
  obtain⟨n,x,rfl,rfl,hn,hnR,hx,rfl,HU⟩:=hrel;have HX:=hid hx;clear hx;by_cases hend:R.size≤n
  · have HE:=hid (zwq (most:=most) (k:=k) (l:=s.data.toList.drop k) (e:=20) (by rw[HU.out,zwm R n hend];exact yai (by omega) rfl))
    have hd:decide ((n:Int)<min (R.size:Int) 10)=false:=by simp;omega
    go_wp2_with fail;go_ret2
    exact⟨yaf HE.out,by rw[HE.out];exact HR.out.drewN _,(Only.refl _ _).drewN _⟩
  · have hlt:n<R.size:=by omega
    have hd:decide ((n:Int)<min (R.size:Int) 10)=true:=by simp;omega
    have hc:=R[n].toNat_lt;have hidx:=zzq R n hlt;have hdc:=zwl R n hlt;have HD:=hid hdc;clear hdc;generalize R[n]=c at*;by_cases hA:n=9∧c.toNat≠1
    · have HE:=hid (zwq (most:=most) (k:=k) (l:=s.data.toList.drop k) (e:=21) (by
       rw[HU.out,HD.out,ur,if_neg (by omega)];by_cases h:1<c.toNat
       · rw[if_pos ⟨hA.1,h⟩]
       · rw[if_neg (by omega),if_pos (by omega),if_pos (by omega)]))
      have t9:((n:Int) == 9)=true:=beq_iff_eq.2 (by omega);have tc:((c.toNat:Int) != 1)=true:=bne_iff_ne.2 (by omega);clear hA;go_wp2_with fail;go_ret2
      exact⟨yaf HE.out,by rw[HE.out];exact HR.out.drewN _,(Only.refl _ _).drewN _⟩
    · have h9c:n=9→c.toNat % 128≤1:=fun e=>by omega
      have hor:=zwo x n c.toNat HX.out hn h9c;have hnx:=hid (zwp x n (c.toNat % 128) HX.out (Nat.mod_lt _ (by decide)));have hand:=yah c.toNat hc;by_cases hB:c.toNat<128
      · have hn10:n≠10:=by omega
        by_cases hC:c.toNat=0∧0<n
        · have HE:=hid (zwq (most:=most) (k:=k) (l:=s.data.toList.drop k) (e:=21) (by rw[HU.out,HD.out,ur,if_neg hn10,if_neg (by omega),if_pos hB,if_pos hC]))
          have t9:((n:Int) == 9)=false:=beq_eq_false_iff_ne.2 (by omega);have tz:((c.toNat:Int) == 0)=true:=beq_iff_eq.2 (by omega);have hn0:0<n:=hC.2;clear hA hC h9c hn10 hnx;go_wp2_with fail;go_ret2
          exact⟨yaf HE.out,by rw[HE.out];exact HR.out.drewN _,(Only.refl _ _).drewN _⟩
        · have hur:ur 0 0 (s.data.toList.drop k)= .inr (x+c.toNat % 128*128 ^ n,n+1):=by rw[HU.out,HD.out,ur,if_neg hn10,if_neg (by omega),if_pos hB,if_neg hC]
          have hX:x+c.toNat % 128*128 ^ n<18446744073709551616:=by have h1:=zwn n (c.toNat % 128) hn (Nat.mod_lt _ (by decide)) h9c;rw[Nat.add_mul,Nat.one_mul] at h1;have:=HX.out;omega
          have hkn1:k+(n+1)≤s.size:=by have:=HRs.out;omega
          have h3:(((n:Int) == 9)=true∧((c.toNat:Int) != 1)=false∧((c.toNat:Int) == 0)=false)∨(((n:Int) == 9)=false∧((c.toNat:Int) == 0)=true∧n≤0)∨(((n:Int) == 9)=false∧((c.toNat:Int) == 0)=false):=by
           by_cases e9:n=9
           · exact Or.inl ⟨beq_iff_eq.2 (by omega),by rw[bne_eq_false_iff_eq];omega,beq_eq_false_iff_ne.2 (by omega)⟩
           · by_cases ez:c.toNat=0
             · exact Or.inr (Or.inl ⟨beq_eq_false_iff_ne.2 (by omega),beq_iff_eq.2 (by omega),by omega⟩)
             · exact Or.inr (Or.inr ⟨beq_eq_false_iff_ne.2 (by omega),beq_eq_false_iff_ne.2 (by omega)⟩)
          clear hC hA h9c hnx hn10;generalize x+c.toNat % 128*128 ^ n=X at*;have HUR:=hid hur;clear hur;have hXm:X≤18446744073709551615:=by omega
          clear hX;by_cases hmost:most<X
          · have HE:=hid (zwr HUR.out hmost (k:=k))
            have tm:decide (most<X)=true:=by simpa using hmost
            rcases h3 with ⟨t9,tc,tz⟩|⟨t9,tz,tn⟩|⟨t9,tz⟩
            all_goals
             go_wp2_with fail;go_ret2
             exact⟨yaf HE.out,by rw[HE.out];exact HR.out.drewN _,(Only.refl _ _).drewN _⟩
          · have HE:=hid (zws HUR.out hmost (k:=k))
            have tm:decide (most<X)=false:=by simpa using hmost
            rcases h3 with ⟨t9,tc,tz⟩|⟨t9,tz,tn⟩|⟨t9,tz⟩
            all_goals
             go_wp2_with fail;go_ret2
             refine⟨yaf HE.out,?_,((Only.refl _ _).drewN _).set _ _⟩;rw[HE.out]
             show IsRdr _ b o s (k+(n+1));exact(HR.out.drewN _).put _ _ (by omega)
      · have hn10:n≠10:=by omega
        have HN:=hid (show ur n x (c :: R.data.toList.drop (n+1))=ur (n+1) (x+c.toNat % 128*128 ^ n) (R.data.toList.drop (n+1)) by rw[ur,if_neg hn10,if_neg (by omega),if_neg hB]);have h8:n≤8:=by omega
        have t9:((n:Int) == 9)=false:=beq_eq_false_iff_ne.2 (by omega);clear h9c hA hn10;generalize x+c.toNat % 128*128 ^ n=X at*;go_wp2_with fail;go_roundw
        case rel=>exact⟨n+1,X,rfl,by go_num,by omega,by omega,hnx.out,by first|rfl|trivial,hid (by rw[HU.out,HD.out,HN.out])⟩
        case measure=>simp[intOf];omega
end CodeC
end
section
open Go.RowKit
namespace CodeC
open CodeM ErrC
def pEnd(t:ByteArray)(e:Nat):Ending:=.returned (.tuple #[.string t,.int .i64 e])
theorem yak(R:ByteArray)(n:Nat)(h:n≤R.size)(w:World):(Instr.slice 9 (.string R) none (some (.int .u64 (n:Int))) none).run Tryz.prog w= .ok (.string (R.extract 0 n)) w:=by
 rw[run_slice_string_h w 9 R Tryz.underlying9 .u64 (n:Int) (by omega) (by omega)]
 rfl
theorem yal(s:ByteArray)(k n:Nat)(h:k+n≤s.size):(s.extract k s.size).extract 0 n=s.extract k (k+n):=by
 apply ByteArray.ext
 apply Array.toList_inj.1
 rw[Lib.extract_data,Lib.extract_data,Lib.extract_data,List.drop_zero,List.take_take]
 congr 1
 omega
theorem yam(b o:Nat)(s:ByteArray)(k n:Nat)(w:World)(hk:k≤s.size)(hs:s.size≤4611686018427387904)(hn:s.size-k<n)(hr:IsRdr w b o s k):
 Calls Tryz.prog 113 #[.pointer (some ⟨b,o,none⟩),.int .u64 n] w fun e w'=>e=pEnd ⟨#[]⟩ 20∧∃q,w'=w.drewN q:=by
 have HR:=hid hr;clear hr;obtain⟨-,hRs⟩:=yag s k;go_enter Tryz.func113,Tryz.ntmps113;go_wp2_with fail;refine(yab b o s k _ hk HR.out).mono ?_;rintro e w1 ⟨rfl,q,rfl⟩;generalize s.extract k s.size=R at*;have hlt:R.size<n:=by omega
 have hRsz:R.size≤4611686018427387904:=by omega
 clear hRs;have hd:decide (R.size<n)=true:=by simpa using hlt
 go_wp2_with fail;go_ret2
 exact⟨rfl,_,rfl⟩
theorem yan(b o:Nat)(s:ByteArray)(k n:Nat)(w:World)(hk:k+n≤s.size)(hs:s.size≤4611686018427387904)(hr:IsRdr w b o s k):
 Calls Tryz.prog 113 #[.pointer (some ⟨b,o,none⟩),.int .u64 n] w fun e w'=>e=pEnd (s.extract k (k+n)) 0∧IsRdr w' b o s (k+n)∧Only b w w':=by
 have HR:=hid hr;have h1:=hr.at_;have h2:=hr.free;clear hr;obtain⟨-,hRs⟩:=yag s k;have hf:=yal s k n hk;have HF:=hid hf;clear hf;go_enter Tryz.func113,Tryz.ntmps113;go_wp2_with fail;refine(yab b o s k _ (by omega) HR.out).mono ?_;rintro e w1 ⟨rfl,q,rfl⟩;generalize s.extract k s.size=R at*;have hlt:n≤R.size:=by omega
 have hRsz:R.size≤4611686018427387904:=by omega
 clear hRs;have hd:decide (R.size<n)=false:=by simpa using hlt
 have hcut:=yak R n hlt;go_wp2_with fail;go_ret2
 exact⟨by rw[HF.out];rfl,(HR.out.drewN _).put _ _ (by omega),((Only.refl _ _).drewN _).set _ _⟩
def OneE(s:ByteArray)(c k b o:Nat)(w:World)(e:Ending)(w':World):Prop:=
 e=pEnd (s.extract (tRes c k s).1 (tRes c k s).2.1) (tRes c k s).2.2.1∧Only b w w'∧∃k',k'≤s.size∧IsRdr w' b o s k'∧((tRes c k s).2.2.1=0→k'=(tRes c k s).2.2.2.2)
theorem Only.trans{b:Nat}{x y z:World}(h:Only b x y)(k:Only b y z):Only b x z:=⟨k.os.trans h.os,k.tape.trans h.tape,k.output.trans h.output,k.size.trans h.size,fun i hi=>(k.block i hi).trans (h.block i hi)⟩
theorem one_is(b o:Nat)(s:ByteArray)(k:Nat)(m:Int)(w:World)(hk:k≤s.size)(hs:s.size≤4611686018427387904)(h:m≤9223372036854775807)(hr:IsRdr w b o s k):
 Calls Tryz.prog 114 #[.pointer (some ⟨b,o,none⟩),.int .i64 m] w (OneE s (cap m) k b o w):=by
 have HR:=hid hr;clear hr;have hc:=zwu (cap m) k s hk;have hcap:cap m<18446744073709551616:=by unfold cap;omega
 go_enter Tryz.func114,Tryz.ntmps114;go_wp2_with fail;refine(yae m _ h).mono ?_;rintro e w' ⟨rfl,rfl⟩;go_wp2_with fail;refine(yaj b o s k (cap m) _ hk hs hcap HR.out).mono ?_;rintro e w1 ⟨rfl,hr1,ho1⟩;rcases hc with ⟨e,he,he2,hu⟩|⟨v,d,hv,hd,hu⟩
 · have HT:=hid (zwv hu he)
   rw[hu] at hr1 ⊢;have te:((e:Int) != 0)=true:=bne_iff_ne.2 (by omega);have HR1:=hid hr1;have HO:=hid ho1;clear hr1 ho1 hu he;unfold nEnd;go_wp2_with fail;go_ret2
   unfold OneE;rw[HT.out];exact⟨by unfold pEnd;rw[zzw];rfl,HO.out,k,hk,HR1.out,fun _=>rfl⟩
 · rw[hu] at hr1 ⊢
   have HR1:=hid hr1;have HO:=hid ho1;clear hr1 ho1 hcap;generalize k+d=q at*;unfold nEnd;by_cases hq:s.size-q<v
   · have HT:=hid (zww hu hq)
     clear hu;go_wp2_with fail;refine(yam b o s q v _ hd hs hq HR1.out).mono ?_;rintro e w2 ⟨rfl,z,rfl⟩;unfold pEnd;go_wp2_with fail;go_ret2
     unfold OneE;rw[HT.out];exact⟨by unfold pEnd;rw[zzw];rfl,HO.out.drewN _,q,hd,HR1.out.drewN _,fun h=>by cases h⟩
   · have HT:=hid (zwx hu hq)
     clear hu;go_wp2_with fail;refine(yan b o s q v _ (by omega) hs HR1.out).mono ?_;rintro e w2 ⟨rfl,hr2,ho2⟩;unfold pEnd;have HR2:=hid hr2;have HO2:=hid ho2;clear hr2 ho2;go_wp2_with fail;go_ret2
     unfold OneE;rw[HT.out];exact⟨rfl,HO.out.trans HO2.out,q+v,by omega,HR2.out,fun _=>rfl⟩
end CodeC
end
end Go.Proofs.YtbninnkpjdofbaaGreatDoor
