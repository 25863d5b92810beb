/-
  What the proof of EventReads stands on, part 37.
-/
import Derived.BigCall
import Derived.BigGuard
import Derived.Lib.ItoaMem
import Derived.Test.YtbninnkpjdofbaaGreatDoorT34
import Derived.Test.YtbninnkpjdofbaaGreatDoorT35
import Derived.Test.YtbninnkpjdofbaaGreatDoorT36
set_option linter.unusedSimpArgs false
set_option linter.unusedVariables false
set_option maxHeartbeats 16000000
namespace Go.Proofs.YtbninnkpjdofbaaGreatDoor
open Go.Lib (hid)
section
open Go.RowKit Go.Sort
namespace EvA
open StrC EvF EvC TextR CodeM
theorem fields_8(k:Nat):∀x∈zvs k,x=8→¬k=5:=by
 intro x hx h8 h5;subst h5;subst h8
 revert hx
 decide
theorem fields_9(k:Nat):∀x∈zvs k,x=9→k=5:=by
 rcases zyz (k:=k) with rfl|rfl|rfl|rfl|rfl|rfl|rfl|rfl|rfl|rfl|h
 case inr.inr.inr.inr.inr.inr.inr.inr.inr.inr=>rw[zzk h];intro x hx;cases hx
 all_goals decide
end EvA
end
section
open Go.RowKit Go.Sort
namespace EvA
open StrC EvF EvC TextR CodeM CodeC
open VerC (Vw)
theorem ygy(k:Nat)(h:11≤k)(w:World):Calls Tryz.prog 50 #[.int .u8 k] w (FieldsE [] w):=by
 have h1:¬k=1:=by omega
 have h2:¬k=2:=by omega
 have h3:¬k=3:=by omega
 have h4:¬k=4:=by omega
 have h5:¬k=5:=by omega
 have h6:¬k=6:=by omega
 have h7:¬k=7:=by omega
 have h8:¬k=8:=by omega
 have h9:¬k=9:=by omega
 have h10:¬k=10:=by omega
 clear h;go_enter Tryz.func50,Tryz.ntmps50;go_wp2_with fail;refine(EvN.ycg _).mono ?_;rintro e w' ⟨rfl,rfl⟩;go_wp2_with fail;go_ret;exact⟨_,rfl,World.ownsRow_nil _ _ _ _,Below.refl _ _⟩
theorem ygz(k:Nat):Fds k (zvs k):=by
 rcases zyz (k:=k) with rfl|rfl|rfl|rfl|rfl|rfl|rfl|rfl|rfl|rfl|h|h
 · exact fun w=>zvy w
 · exact fun w=>zvz w
 · exact fun w=>zwa w
 · exact fun w=>zwb w
 · exact fun w=>zwc w
 · exact fun w=>zwd w
 · exact fun w=>zwe w
 · exact fun w=>EvF.fields_8 w
 · exact fun w=>EvF.fields_9 w
 · exact fun w=>zwf w
 · subst h;exact fun w=>EvN.ych w
 · rw[zzk (Or.inr h)];exact fun w=>ygy k h w
theorem yha{k:Nat}(h:1≤k∧k≤10):0<(zvs k).length:=by
 rcases (by omega:k=1∨k=2∨k=3∨k=4∨k=5∨k=6∨k=7∨k=8∨k=9∨k=10) with rfl|rfl|rfl|rfl|rfl|rfl|rfl|rfl|rfl|rfl<;>decide
theorem EvIn.sz{w:World}{e:EvG}(h:EvIn w e):EvSz e:=⟨Nat.le_trans h.who (by decide),Nat.le_trans h.name (by decide),Nat.le_trans h.holder (by decide),Nat.le_trans h.note (by decide)⟩
theorem yhb(e:EvG)(hk:e.k=0∨11≤e.k)(w:World):Calls Tryz.prog 18 #[evV e] w fun r w'=>r= .returned (.int .i64 90)∧Below w.heap.size w w':=by
 have hf:Fds e.k []:=by have h:=ygz e.k;rwa [zzk hk] at h
 have HIK:=hid (zxt hf);have HB:=hid (alW w (evO e));have c0:=(zvb (heap_alloc_new w (evO e))).1;clear hf hk;go_enter Tryz.func18,Tryz.ntmps18;go_wp2_with fail;refine(HIK.out _).mono ?_;rintro e1 w1 ⟨rfl,hb1⟩;have HB1:=hid (HB.out.trans (hb1.mono HB.out.size));clear hb1 c0;go_wp2_with fail;go_ret;exact⟨rfl,HB1.out⟩
theorem pmay_any(e:EvG)(w:World)(hs:EvIn w e)(hv:Vw w):Calls Tryz.prog 18 #[evV e] w fun r w'=>r= .returned (.int .i64 (mayC (mayD e)))∧Below w.heap.size w w':=by
 by_cases h:1≤e.k∧e.k≤10
 · rw[ydv e h]
   exact may_any e (zzg e.needs) (zvs e.k) (ygz e.k) (yha h) (zzl e.k) (Nat.le_trans (zzm e.k) (by decide)) w hs.sz hv (ygs e w hs.needs hv) hs.needs
 · rw[ydw e (by omega)]
   exact yhb e (by omega) w
end EvA
end
section
open Go.RowKit Go.Sort
namespace EvS
open StrC EvF EvC EvA TextR CodeM CodeC ErrC
def StB(s:ByteArray)(b n:Nat)(W:World)(k:Nat):Prop:=IsRdr W b 0 s k∧k≤s.size∧W.heap[n]?=some (.cells #[ptS b] 57)
def IsB(W0 W:World)(v:Value)(c a:Nat):Prop:=IsErr W0 W v c (a:Int)
theorem yhc{b:Nat}{w w':World}(h:But b w w'):Oth b w w':=⟨h.os,h.tape,h.output,h.size,h.block⟩
theorem yhd{W W':World}{b k:Nat}{s:ByteArray}(h:IsRdr W b 0 s k)(hb:W'.heap[b]?=W.heap[b]?):IsRdr W' b 0 s k:=
 ⟨(World.cell?_of_block (a:=⟨b,0,none⟩) hb).trans h.made,(World.cell?_of_block (a:=⟨b,0+1,none⟩) hb).trans h.text,(World.cell?_of_block (a:=⟨b,0+2,none⟩) hb).trans h.at_,(World.frozen?_of_block (a:=⟨b,0+2,none⟩) hb).trans h.free⟩
theorem yhe{W W':World}{f:Nat}{c a:Int}{t:ByteArray}(h:IsFault W f 0 c t a)(hb:W'.heap[f]?=W.heap[f]?):IsFault W' f 0 c t a:=
 ⟨(World.cell?_of_block (a:=⟨f,0,none⟩) hb).trans h.code,(World.cell?_of_block (a:=⟨f,0+1,none⟩) hb).trans h.what,(World.cell?_of_block (a:=⟨f,0+2,none⟩) hb).trans h.at_,(World.cell?_of_block (a:=⟨f,0+3,none⟩) hb).trans h.under⟩
theorem srcB(s:ByteArray)(b n:Nat)(hb:b<n):Src b (n+1) (StB s b n) IsB where
 lt:=by omega
 stay:=fun⟨h1,h2,h3⟩ hw=>⟨yhd h1 (hw b (by omega)),h2,(hw n (by omega)).trans h3⟩
 keep:=fun h hs hw=>by
  rcases h with h|⟨h1,f,h2,h3,h4⟩
  · exact .inl h
  · exact .inr ⟨h1,f,h2,h3,yhe h4 (hw f h3 h4.lt)⟩
 up:=fun h hs=>by
  rcases h with h|⟨h1,f,h2,h3,h4⟩
  · exact .inl h
  · exact .inr ⟨h1,f,h2,Nat.le_trans hs h3,h4⟩
 none_:=fun h=>by
  rcases h with h|⟨h1,-⟩
  · exact h.2
  · exact absurd rfl h1
 nil_:=.inl ⟨rfl,rfl⟩
 some_:=fun hc h=>by
  rcases h with h|⟨h1,f,h2,-⟩
  · exact absurd h.1 hc
  · exact⟨_,_,h2⟩
def textB(s:ByteArray)(k:Nat):B×Nat×Nat×Nat:=(cutB s (tRes 65536 k s).1 (tRes 65536 k s).2.1,(tRes 65536 k s).2.2.1,k,(tRes 65536 k s).2.2.2.2)
def rdB(s:ByteArray):RdF Nat where
 kind:=fun k=>((bRes k s).1,(bRes k s).2.1,k,(bRes k s).2.2)
 text:=textB s
 span:=textB s
 note:=textB s
 sum:=fun k=>((wRes k s).1,(wRes k s).2.1,k,(wRes k s).2.2.2)
 num:=fun m k=>((uRes m k (s.data.toList.drop k)).1,(uRes m k (s.data.toList.drop k)).2.1,k,(uRes m k (s.data.toList.drop k)).2.2.2)
abbrev rdQ(n b:Nat):RdFn:={ fk:=54,bk:=#[],ck:=#[ptS n],ft:=56,bt:=#[],ct:=#[ptS n],fs:=56,bs:=#[],cs:=#[ptS n],fo:=56,bo:=#[],co:=#[ptS n],fu:=58,bu:=#[ptS b],cu:=#[],fn:=59,bn:=#[ptS b],cn:=#[] }
theorem b_in{k:Nat}{s:ByteArray}(hk:k≤s.size):(bRes k s).2.2≤s.size:=by
 unfold bRes
 split
 · simp only;omega
 · exact hk
theorem kindB_any(s:ByteArray)(b n:Nat)(hb:b<n)(hs:s.size≤4611686018427387904):Part (fun n:Nat=>.int .u8 n) b (n+1) (StB s b n) IsB 54 #[ptS n] (rdB s).kind:=by
 intro W k hL hst;obtain⟨h1,h2,h3⟩:=hst;have c0:=cell1 h3;have HB:=hid (yba b 0 s k W h2 hs h1);have HN:=hid h3;have HK:=hid h2;have HLN:=hid (zvp h3);clear h1 h2 h3;go_enter Tryz.func54,Tryz.ntmps54;go_wp2_with fail;refine HB.out.mono ?_;rintro e w2 ⟨ev,rfl,hie,hr2,hbt⟩;have HI:=hid hie;have HR:=hid hr2;have HBT:=hid hbt;clear hie hr2 hbt c0;go_wp2_with fail;go_ret2
 exact⟨ev,rfl,HI.out,⟨HR.out,b_in HK.out,(HBT.out.block n HLN.out (by omega)).trans HN.out⟩,yhc HBT.out⟩
theorem yhf(s:ByteArray)(b n:Nat)(hb:b<n)(hs:s.size≤4611686018427387904):Part (fun t:B=>.string (str t)) b (n+1) (StB s b n) IsB 56 #[ptS n] (textB s):=by
 intro W k hL hst;obtain⟨h1,h2,h3⟩:=hst;have c0:=cell1 h3;have HB:=hid (yay b 0 s k 65536 W h2 hs (by decide) h1);have HN:=hid h3;have HK:=hid h2;have HLN:=hid (zvp h3);clear h1 h2 h3;go_enter Tryz.func56,Tryz.ntmps56;go_wp2_with fail;refine HB.out.mono ?_;rintro e w2 ⟨ev,rfl,hie,hr2,hbt⟩;have HI:=hid hie;have HR:=hid hr2;have HBT:=hid hbt;clear hie hr2 hbt c0;go_wp2_with fail;go_ret2
 refine⟨ev,?_,HI.out,⟨HR.out,t_in HK.out,(HBT.out.block n HLN.out (by omega)).trans HN.out⟩,yhc HBT.out⟩;rw[ybc]
 rfl
theorem yhg(s:ByteArray)(b n:Nat)(hb:b<n)(hs:s.size≤4611686018427387904):Part (fun n:Nat=>.int .u64 n) b (n+1) (StB s b n) IsB 58 #[ptS b] (rdB s).sum:=by
 intro W k hL hst;obtain⟨h1,h2,h3⟩:=hst;refine(yaz b 0 s k W h2 hs h1).mono ?_;rintro e w2 ⟨ev,rfl,hie,hr2,hbt⟩;exact⟨ev,rfl,hie,⟨hr2,w_in h2,(hbt.block n (zvp h3) (by omega)).trans h3⟩,yhc hbt⟩
theorem yhh(s:ByteArray)(b n m:Nat)(hb:b<n)(hs:s.size≤4611686018427387904)(hm:m<18446744073709551616):Part (fun n:Nat=>.int .u64 n) b (n+1) (StB s b n) IsB 59 #[ptS b,.int .u64 m] ((rdB s).num m):=by
 intro W k hL hst;obtain⟨h1,h2,h3⟩:=hst;refine(yax b 0 s k m W h2 hs hm h1).mono ?_;rintro e w2 ⟨ev,rfl,hie,hr2,hbt⟩;exact⟨ev,rfl,hie,⟨hr2,u_in h2,(hbt.block n (zvp h3) (by omega)).trans h3⟩,yhc hbt⟩
theorem ent_o1:EntS 54:=by intro args w;kernel_rfl
theorem yhi:EntS 56:=by intro args w;kernel_rfl
theorem ent_wd:EntS 58:=by intro args w;kernel_rfl
theorem ent_un:EntS 59:=by intro args w;kernel_rfl
theorem b_le(k:Nat)(s:ByteArray):(bRes k s).1≤255:=by
 unfold bRes
 split
 · rename_i h
   have:=s[k].toNat_lt
   simp only;omega
 · exact Nat.zero_le _
theorem okB(s:ByteArray)(b n:Nat)(hb:b<n)(hs:s.size≤4611686018427387904):RdOk b (n+1) (StB s b n) IsB (rdQ n b) (rdB s) where
 src:=srcB s b n hb
 kind:=by simpa using kindB_any s b n hb hs
 text:=by
  have h:=yhf s b n hb hs;rw[show (#[]++ #[ptS n]:Array Value)=#[ptS n] from rfl];exact h
 span:=by
  have h:=yhf s b n hb hs;rw[show (#[]++ #[ptS n]:Array Value)=#[ptS n] from rfl];exact h
 note:=by
  have h:=yhf s b n hb hs;rw[show (#[]++ #[ptS n]:Array Value)=#[ptS n] from rfl];exact h
 sum:=by simpa using yhg s b n hb hs
 n64:=by simpa using yhh s b n 64 hb hs (by decide)
 n32:=by simpa using yhh s b n 4294967295 hb hs (by decide)
 ek:=ent_o1
 et:=yhi
 es:=yhi
 eo:=yhi
 eu:=ent_wd
 en:=ent_un
 kle:=fun k=>b_le k s
 tle:=fun k=>Nat.le_trans (t_len 65536 k s) (by decide)
 sle:=fun k=>Nat.le_trans (t_len 65536 k s) (by decide)
 m64:=fun k=>ybf
 m32:=fun k=>ybf
structure Alike {α:Type} (x:α×Nat×Nat×Nat) (y:α×Nat×Nat×Nat):Prop where
 er:x.2.1=y.2.1
 nx:x.2.2.2=y.2.2.2
 at_:y.2.1≠0→x.2.2.1=y.2.2.1
 val:y.2.1=0→x.1=y.1
theorem t_at{k:Nat}{s:ByteArray}(hk:k≤s.size)(h:(tRes 65536 k s).2.2.1≠0):k=(tRes 65536 k s).2.2.2.1:=by
 rcases yao 65536 k s hk with ⟨e,-,-,hu⟩|⟨a,q,-,-,-,hu⟩
 · rw[hu]
 · rw[hu] at h;exact absurd rfl h
theorem u_at{m k:Nat}{s:ByteArray}(hk:k≤s.size)(h:(uRes m k (s.data.toList.drop k)).2.1≠0):k=(uRes m k (s.data.toList.drop k)).2.2.1:=by
 rcases zwu m k s hk with ⟨e,-,-,hu⟩|⟨a,q,-,-,hu⟩
 · rw[hu]
 · rw[hu] at h;exact absurd rfl h
theorem w_at{k:Nat}{s:ByteArray}(h:(wRes k s).2.1≠0):k=(wRes k s).2.2.1:=by
 by_cases h8:s.size-k<8
 · rw[yar h8]
 · rw[yas h8] at h;exact absurd rfl h
theorem yhj(s:ByteArray):∀(n k:Nat) (P:List (B×B)),k≤s.size→Alike (ndsF (rdB s) n k P) (ndsR s n k P)
 | 0,k,P,hk=>⟨rfl,rfl,fun h=>absurd rfl h,fun _=>rfl⟩
 | n+1,k,P,hk=>by
   obtain⟨⟨a1,b1,e1,p1,q1⟩,hT⟩:∃T,tRes 65536 k s=T:=⟨_,rfl⟩;have hx:(rdB s).text k=(cutB s a1 b1,e1,k,q1):=by show textB s k=_;unfold textB;rw[hT]
   have hk1:q1≤s.size:=by have:=t_in hk;rw[hT] at this;exact this
   have ha1:e1≠0→k=p1:=fun h=>by have:=t_at hk (by rw[hT];exact h);rw[hT] at this;exact this
   obtain⟨⟨a2,b2,e2,p2,q2⟩,hT2⟩:∃T,tRes 65536 q1 s=T:=⟨_,rfl⟩;have hx2:(rdB s).span q1=(cutB s a2 b2,e2,q1,q2):=by show textB s q1=_;unfold textB;rw[hT2]
   have hk2:q2≤s.size:=by have:=t_in hk1;rw[hT2] at this;exact this
   have ha2:e2≠0→q1=p2:=fun h=>by have:=t_at hk1 (by rw[hT2];exact h);rw[hT2] at this;exact this
   have IH:=yhj s n q2 (P++ [(cutB s a1 b1,cutB s a2 b2)]) hk2;rw[ndsF,ndsR];simp only[hT,hx,hT2,hx2];by_cases h1:e1=0
   · subst h1
     by_cases h2:e2=0
     · subst h2
       simp only[ne_eq,not_true_eq_false,if_false];exact IH
     · simp only[h2,ne_eq,not_true_eq_false,not_false_eq_true,if_true,if_false]
       exact⟨rfl,rfl,fun _=>ha2 h2,fun h=>absurd h h2⟩
   · simp only[h1,ne_eq,not_false_eq_true,if_true]
     exact⟨rfl,rfl,fun _=>ha1 h1,fun h=>absurd h h1⟩
theorem yhk(s:ByteArray)(k:Nat)(hk:k≤s.size):Alike (ybq (rdB s) k) (ybh s k):=by
 obtain⟨⟨v1,e1,p1,q1⟩,hT⟩:∃T,uRes 64 k (s.data.toList.drop k)=T:=⟨_,rfl⟩
 have hx:(rdB s).num 64 k=(v1,e1,k,q1):=by
  show ((uRes 64 k (s.data.toList.drop k)).1,(uRes 64 k (s.data.toList.drop k)).2.1,k,(uRes 64 k (s.data.toList.drop k)).2.2.2)=_;rw[hT]
 have hk1:q1≤s.size:=by have:=u_in (m:=64) hk;rw[hT] at this;exact this
 have ha1:e1≠0→k=p1:=fun h=>by have:=u_at (m:=64) hk (by rw[hT];exact h);rw[hT] at this;exact this
 have IH:=yhj s v1 q1 [] hk1;unfold ybq ybh;simp only[hT,hx];by_cases h1:e1=0
 · subst h1
   simp only[ne_eq,not_true_eq_false,if_false];exact IH
 · simp only[h1,ne_eq,not_false_eq_true,if_true]
   exact⟨rfl,rfl,fun _=>ha1 h1,fun _=>rfl⟩
theorem yhl(s:ByteArray)(k:Nat)(hk:k≤s.size)(e:EvG)(x:Int):Alike (oneF (rdB s) x k e) (allR s k e x):=by
 have hn:=yhk s k hk;obtain⟨⟨a1,b1,e1,p1,q1⟩,hT⟩:∃T,tRes 65536 k s=T:=⟨_,rfl⟩;have hx:(rdB s).text k=(cutB s a1 b1,e1,k,q1):=by show textB s k=_;unfold textB;rw[hT]
 have hx':(rdB s).note k=(cutB s a1 b1,e1,k,q1):=hx;have ha1:e1≠0→k=p1:=fun h=>by have:=t_at hk (by rw[hT];exact h);rw[hT] at this;exact this
 obtain⟨⟨v2,e2,p2,q2⟩,hU⟩:∃T,uRes 4294967295 k (s.data.toList.drop k)=T:=⟨_,rfl⟩
 have hy:(rdB s).num 4294967295 k=(v2,e2,k,q2):=by
  show ((uRes 4294967295 k (s.data.toList.drop k)).1,(uRes 4294967295 k (s.data.toList.drop k)).2.1,k,(uRes 4294967295 k (s.data.toList.drop k)).2.2.2)=_;rw[hU]
 have ha2:e2≠0→k=p2:=fun h=>by have:=u_at (m:=4294967295) hk (by rw[hU];exact h);rw[hU] at this;exact this
 obtain⟨⟨v3,e3,p3,q3⟩,hV⟩:∃T,wRes k s=T:=⟨_,rfl⟩
 have hz:(rdB s).sum k=(v3,e3,k,q3):=by
  show ((wRes k s).1,(wRes k s).2.1,k,(wRes k s).2.2.2)=_;rw[hV]
 have ha3:e3≠0→k=p3:=fun h=>by have:=w_at (k:=k) (s:=s) (by rw[hV];exact h);rw[hV] at this;exact this
 unfold oneF allR fldR;simp only[hx,hx',hy,hz,hT,hU,hV];by_cases h3:x=3
 · subst h3
   refine⟨hn.er,hn.nx,fun h=>hn.at_ h,fun h=>?_⟩
   show { e with needs:=(ybq (rdB s) k).1 }={ e with needs:=(ybh s k).1 };rw[hn.val h]
 rw[if_neg h3,if_neg h3];by_cases h0:x=0
 · rw[if_pos h0,if_pos h0];exact⟨rfl,rfl,ha1,fun _=>rfl⟩
 rw[if_neg h0,if_neg h0];by_cases h1:x=1
 · rw[if_pos h1,if_pos h1];exact⟨rfl,rfl,ha1,fun _=>rfl⟩
 rw[if_neg h1,if_neg h1];by_cases h2:x=2
 · rw[if_pos h2,if_pos h2];exact⟨rfl,rfl,ha1,fun _=>rfl⟩
 rw[if_neg h2,if_neg h2];by_cases h4:x=4
 · rw[if_pos h4,if_pos h4];exact⟨rfl,rfl,ha3,fun _=>rfl⟩
 rw[if_neg h4,if_neg h4];by_cases h5:x=5
 · rw[if_pos h5,if_pos h5];exact⟨rfl,rfl,ha2,fun _=>rfl⟩
 rw[if_neg h5,if_neg h5];by_cases h6:x=6
 · rw[if_pos h6,if_pos h6];exact⟨rfl,rfl,ha2,fun _=>rfl⟩
 rw[if_neg h6,if_neg h6];by_cases h7:x=7
 · rw[if_pos h7,if_pos h7];exact⟨rfl,rfl,ha1,fun _=>rfl⟩
 rw[if_neg h7,if_neg h7];by_cases h8:x=8
 · rw[if_pos h8];exact⟨rfl,rfl,ha1,fun _=>rfl⟩
 rw[if_neg h8];exact⟨rfl,rfl,ha1,fun _=>rfl⟩
theorem yhm(s:ByteArray):∀(L:List Int) (k:Nat) (e:EvG),k≤s.size→Alike (foldF (rdB s) L k e) (foldR s L k e)
 | [],k,e,_=>⟨rfl,rfl,fun h=>absurd rfl h,fun _=>rfl⟩
 | x :: r,k,e,hk=>by
   have h1:=yhl s k hk e x;rw[foldF,foldR];by_cases h0:(allR s k e x).2.1≠0
   · rw[if_pos h0,if_pos (by rw[h1.er];exact h0)]
     exact h1
   · rw[if_neg h0,if_neg (by rw[h1.er];exact h0)]
     have hv:=h1.val (by simpa using h0);rw[hv,h1.nx];exact yhm s r _ _ (yfx x hk)
theorem yhn(s:ByteArray):bRes 0 s=fstR s:=by
 unfold bRes fstR
 rfl
end EvS
end
section
open Go.RowKit Go.Sort
namespace EvS
open StrC EvF EvC EvA TextR CodeM CodeC ErrC ErrU
open VerC (Vw)
abbrev flt9(f:Nat):Value:=.iface 40 (.pointer (some ⟨f,0,none⟩))
abbrev topO(y f:Nat):Obj:=.cells #[.int .i64 90,.string ⟨#[]⟩,.int .i64 y,flt9 f] 45
abbrev oneO:Obj:=.cells #[.int .i64 90,.string ⟨#[]⟩,.int .i64 0,.nilIface] 45
theorem yho(c:Int)(w:World):Calls Tryz.prog 14 #[.iface 43 (.int .i64 c),.iface 43 (.int .i64 c)] w fun e w'=>e= .returned (.bool true)∧w=w':=by
 have x1:=@run_callFunc_extern Tryz.prog 35 _ Extern.ReflectliteType.typeOf Tryz.func35 (by kernel_rfl) (by kernel_rfl) (by kernel_rfl) (by kernel_rfl);have y1:=to_en;have y2:=zts;have y3:=m_cmp;go_enter Tryz.func14,Tryz.ntmps14;go_wp2_with (go_at_call 36;refine(ztw c _).mono ?_;rintro e w' ⟨rfl,rfl⟩)
 go_ret;exact⟨rfl,rfl⟩
theorem Oth.low{b B:Nat}{w w':World}(h:Oth b w w')(hb:B≤b)(hB:B≤w.heap.size):Below B w w':=⟨h.os,h.tape,h.output,h.size,fun k hk=>h.block k (by omega) (by omega)⟩
theorem rdr_new{W:World}{b:Nat}{s:ByteArray}(h:W.heap[b]?=some (.cells #[.bool true,.string s,.int .i64 0] 122)):IsRdr W b 0 s 0:=⟨by simp[World.cell?,h],by simp[World.cell?,h],by simp[World.cell?,h],zvq h⟩
theorem yhp{W:World}{f r:Nat}{c a:Int}{t:ByteArray}(hf:IsFault W f 0 c t a)(hr:W.heap[r]?=some zE0):f≠r:=by
 rintro rfl;have h1:=hf.code;simp[World.cell?,hr] at h1
structure RdS (w:World) (s:ByteArray) (y:Nat) (W:World):Prop where
 res:W.heap[w.heap.size]?=some zE0
 rdr:IsRdr W (w.heap.size+1) 0 s y
 low:Below w.heap.size w W
 sz:w.heap.size+3≤W.heap.size
theorem RdS.gr{w W W':World}{s:ByteArray}{y:Nat}(h:RdS w s y W)(hb:Below W.heap.size W W'):RdS w s y W':=
 ⟨(hb.block _ (zvp h.res)).trans h.res,yhd h.rdr (hb.block _ h.rdr.lt),h.low.trans (hb.mono h.low.size),Nat.le_trans h.sz hb.size⟩
theorem RdS.but{w W W':World}{s:ByteArray}{y y2:Nat}(h:RdS w s y W)(hb:Oth (w.heap.size+1) W W')(hr:IsRdr W' (w.heap.size+1) 0 s y2):RdS w s y2 W':=
 ⟨(hb.block _ (zvp h.res) (by omega)).trans h.res,hr,h.low.trans (hb.low (by omega) h.low.size),Nat.le_trans h.sz hb.size⟩
def ReadP(s:ByteArray)(w:World)(r:Ending)(w':World):Prop:=Below w.heap.size w w'∧
 (((readD s).2.1=true∧∃a c,r= .returned (.tuple #[evV (atE (readD s).1 a c),.nilIface])∧NeIn w' a c (readD s).1.needs)∨
 ((readD s).2.1=false∧(readD s).2.2.2=0∧(readD s).2.2.1=0∧∃g,r= .returned (.tuple #[evV (EvA.kindV 0),flt9 g])∧w.heap.size≤g∧w'.heap[g]?=some oneO)∨
 ((readD s).2.1=false∧(readD s).2.2.2≠0∧(readD s).2.2.2≤23∧(readD s).2.2.1≤s.size∧∃g f,r= .returned (.tuple #[evV (EvA.kindV 0),flt9 g])∧w.heap.size≤g∧w'.heap[g]?=some (topO (readD s).2.2.1 f)∧IsFault w' f 0 (readD s).2.2.2 ⟨#[]⟩ (readD s).2.2.1))
theorem t_er{k:Nat}{s:ByteArray}(hk:k≤s.size):(tRes 65536 k s).2.2.1≤22∧((tRes 65536 k s).2.2.1≠0→(tRes 65536 k s).2.2.2.1=(tRes 65536 k s).2.2.2.2):=by
 rcases yao 65536 k s hk with ⟨e,-,h2,hu⟩|⟨a,q,-,-,-,hu⟩
 · rw[hu];exact⟨h2,fun _=>rfl⟩
 · rw[hu];exact⟨Nat.zero_le _,fun h=>absurd rfl h⟩
theorem u_er{m k:Nat}{s:ByteArray}(hk:k≤s.size):(uRes m k (s.data.toList.drop k)).2.1≤22∧((uRes m k (s.data.toList.drop k)).2.1≠0→(uRes m k (s.data.toList.drop k)).2.2.1=(uRes m k (s.data.toList.drop k)).2.2.2):=by
 rcases zwu m k s hk with ⟨e,-,h2,hu⟩|⟨a,q,-,-,hu⟩
 · rw[hu];exact⟨h2,fun _=>rfl⟩
 · rw[hu];exact⟨Nat.zero_le _,fun h=>absurd rfl h⟩
theorem w_er{k:Nat}{s:ByteArray}:(wRes k s).2.1≤22∧((wRes k s).2.1≠0→(wRes k s).2.2.1=(wRes k s).2.2.2):=by
 by_cases h8:s.size-k<8
 · rw[yar h8];exact⟨by show (20:Nat)≤22;decide,fun _=>rfl⟩
 · rw[yas h8];exact⟨Nat.zero_le _,fun h=>absurd rfl h⟩
theorem yhq{s:ByteArray}:∀(n k:Nat) (P:List (B×B)),k≤s.size→(ndsR s n k P).2.1≤22∧((ndsR s n k P).2.1≠0→(ndsR s n k P).2.2.1=(ndsR s n k P).2.2.2)
 | 0,k,P,_=>⟨Nat.zero_le _,fun h=>absurd rfl h⟩
 | n+1,k,P,hk=>by
   have h1:=t_in hk;have h2:=t_in h1;rw[ndsR];simp only
   split
   · exact t_er hk
   · split
     · exact t_er h1
     · exact yhq n _ _ h2
theorem yhr{s:ByteArray}{k:Nat}{e:EvG}(x:Int)(hk:k≤s.size):(allR s k e x).2.1≤22∧((allR s k e x).2.1≠0→(allR s k e x).2.2.1=(allR s k e x).2.2.2):=by
 have ht:=t_er hk;have hu:=u_er (m:=4294967295) hk;have hw:=w_er (k:=k) (s:=s);unfold allR
 split
 · unfold ybh
   have h6:=u_er (m:=64) hk;have h7:=u_in (m:=64) hk;simp only
   split
   · exact h6
   · exact yhq _ _ _ h7
 · unfold fldR
   simp only
   (repeat' split)<;>assumption
theorem yhs{s:ByteArray}:∀(L:List Int) (k:Nat) (e:EvG),k≤s.size→(foldR s L k e).2.1≤22∧((foldR s L k e).2.1≠0→(foldR s L k e).2.2.1=(foldR s L k e).2.2.2)∧(foldR s L k e).2.2.2≤s.size
 | [],k,e,hk=>⟨Nat.zero_le _,fun h=>absurd rfl h,hk⟩
 | x :: r,k,e,hk=>by
   rw[foldR]
   split
   · exact⟨(yhr x hk).1,(yhr x hk).2,yfx x hk⟩
   · exact yhs r _ _ (yfx x hk)
def ClsF(s:ByteArray)(w2 w3:World)(v:Value)(y:Nat):Prop:=∃f c:Nat,v=flt9 f∧c≠0∧c≤22∧y≤s.size∧w2.heap.size≤f∧IsFault w3 f 0 c ⟨#[]⟩ y∧readD s=(EvA.kindV 0,false,y,c)
def ClsN(s:ByteArray)(v:Value):Prop:=v= .iface 43 (.int .i64 90)∧readD s=(EvA.kindV 0,false,0,0)
def ClsK(s:ByteArray)(w3:World)(K:Nat)(e:EvG)(v:Value)(y:Nat):Prop:=v= .nilIface∧y≤s.size∧∃g a c,e=atE g a c∧Sh g∧NeIn w3 a c g.needs∧(∀p,a=some p→K≤p.block)∧readD s=if y<s.size then (EvA.kindV 0,false,y,23) else if mayD g=false then (EvA.kindV 0,false,0,0) else (g,true,0,0)
theorem zG_is(k:Nat):zG k=EvA.kindV k:=rfl
theorem cls(s:ByteArray)(b n:Nat)(w2 w3:World)(r:Ending)(h:EvE b w2.heap.size (StB s b n) IsB (rdB s) 0 w2 r w3):∃e v y,r= .returned (.tuple #[evV e,v])∧Oth b w2 w3∧IsRdr w3 b 0 s y∧(ClsF s w2 w3 v y∨ClsN s v∨ClsK s w3 w2.heap.size e v y):=by
 obtain⟨e,v,hr,ho,y,hst,hor⟩:=h;refine⟨e,v,y,hr,ho,hst.1,?_⟩;have hy:=hst.2.1
 have hD:readD s=if (fstR s).2.1≠0 then (EvA.kindV 0,false,0,(fstR s).2.1) else if zvs (fstR s).1=[] then (EvA.kindV 0,false,0,0) else
  if (foldR s (zvs (fstR s).1) (fstR s).2.2 (EvA.kindV (fstR s).1)).2.1≠0 then (EvA.kindV 0,false,(foldR s (zvs (fstR s).1) (fstR s).2.2 (EvA.kindV (fstR s).1)).2.2.1,(foldR s (zvs (fstR s).1) (fstR s).2.2 (EvA.kindV (fstR s).1)).2.1)
  else if (foldR s (zvs (fstR s).1) (fstR s).2.2 (EvA.kindV (fstR s).1)).2.2.2<s.size then (EvA.kindV 0,false,(foldR s (zvs (fstR s).1) (fstR s).2.2 (EvA.kindV (fstR s).1)).2.2.2,23)
  else if mayD (foldR s (zvs (fstR s).1) (fstR s).2.2 (EvA.kindV (fstR s).1)).1=false then (EvA.kindV 0,false,0,0) else ((foldR s (zvs (fstR s).1) (fstR s).2.2 (EvA.kindV (fstR s).1)).1,true,0,0):=rfl
 have hkd:(rdB s).kind 0=((fstR s).1,(fstR s).2.1,0,(fstR s).2.2):=by
  show ((bRes 0 s).1,(bRes 0 s).2.1,0,(bRes 0 s).2.2)=_;rw[yhn]
 have hin:(fstR s).2.2≤s.size:=by rw[←yhn];exact b_in (Nat.zero_le _)
 have hf0:(fstR s).2.1≠0→(fstR s).2.1≤22∧(fstR s).2.2=0:=by
  unfold fstR
  split
  · intro h;exact absurd rfl h
  · intro _;exact⟨by decide,rfl⟩
 have hk255:(fstR s).1≤255:=by rw[←yhn];exact b_le 0 s
 rw[hkd] at hor;simp only[zG_is] at hor;have hal:=yhm s (zvs (fstR s).1) (fstR s).2.2 (EvA.kindV (fstR s).1) hin;have her:=yhs (zvs (fstR s).1) (fstR s).2.2 (EvA.kindV (fstR s).1) hin;have hsh:=yfy (s:=s) (zvs (fstR s).1) (fstR s).2.2 (EvA.kindV (fstR s).1) (yfu hk255);generalize foldF (rdB s) (zvs (fstR s).1) (fstR s).2.2 (EvA.kindV (fstR s).1)=F at*;generalize foldR s (zvs (fstR s).1) (fstR s).2.2 (EvA.kindV (fstR s).1)=G at*;rcases hor with ⟨h1,-,h3,rfl⟩|⟨h1,h2,rfl,rfl⟩|⟨h1,h2,-,h4,h5,rfl⟩|⟨h1,h2,rfl,h4,rfl,a,c,rfl,h5,h6⟩
 · rcases h3 with ⟨h3,-⟩|⟨h3,f,rfl,h5,h6⟩
   · exact absurd h3 h1
   · obtain⟨k1,k2⟩:=hf0 h1
     rw[if_pos h1] at hD;refine .inl ⟨f,(fstR s).2.1,rfl,h1,k1,hy,h5,?_,?_⟩
     · rw[k2];exact h6
     · rw[k2];exact hD
 · rw[if_neg (by simpa using h1),if_pos h2] at hD
   exact .inr (.inl ⟨rfl,hD⟩)
 · rw[if_neg (by simpa using h1),if_neg h2] at hD
   have h4':G.2.1≠0:=by rw[←hal.er];exact h4
   rw[if_pos h4'] at hD;rcases h5 with ⟨h3,-⟩|⟨h3,f,rfl,h7,h6⟩
   · exact absurd h3 h4
   · rw[hal.nx] at hy
     refine .inl ⟨f,G.2.1,rfl,h4',her.1,by rw[hal.nx];exact her.2.2,h7,?_,?_⟩
     · rw[hal.nx,←her.2.1 h4',←hal.at_ h4',←hal.er];exact h6
     · rw[hal.nx,←her.2.1 h4'];exact hD
 · rw[if_neg (by simpa using h1),if_neg h2] at hD
   have h4':G.2.1=0:=by rw[←hal.er];exact h4
   rw[if_neg (by simpa using h4')] at hD;have hv:=hal.val h4';refine .inr (.inr ⟨rfl,hy,G.1,a,c,by rw[hv],hsh,?_,h6,?_⟩)
   · rw[hv] at h5;exact h5
   · rw[hal.nx];exact hD
theorem sh_in{w:World}{g:EvG}{a:Option Addr}{c:Nat}(h:Sh g)(hn:NeIn w a c g.needs):EvIn w (atE g a c):=
 ⟨h.k,h.sum,h.n,h.size,Nat.le_trans h.who (by decide),Nat.le_trans h.name (by decide),Nat.le_trans h.ver (by decide),Nat.le_trans h.holder (by decide),Nat.le_trans h.note (by decide),hn⟩
set_option maxRecDepth 100000 in
theorem pread_any(s:ByteArray)(w:World)(hs:s.size≤4611686018427387904)(hv:Vw w):Calls Tryz.prog 7 #[.string s] w (ReadP s w):=by
 have h0:=heap_alloc_new w zE0;have hb0:=alW w zE0;have hs0:(w.alloc zE0).heap.size=w.heap.size+1:=by simp
 have hn1:=heap_alloc_new (w.alloc zE0) (.cells #[.bool true,.string s,.int .i64 0] 122);have hb1:=alW (w.alloc zE0) (.cells #[.bool true,.string s,.int .i64 0] 122);have hs1:((w.alloc zE0).alloc (.cells #[.bool true,.string s,.int .i64 0] 122)).heap.size=w.heap.size+2:=by simp
 rw[hs0] at hn1;have hrd1:IsRdr ((w.alloc zE0).alloc (.cells #[.bool true,.string s,.int .i64 0] 122)) (w.heap.size+1) 0 s 0:=rdr_new hn1;have hz1:((w.alloc zE0).alloc (.cells #[.bool true,.string s,.int .i64 0] 122)).heap[w.heap.size]?=some zE0:=(hb1.block _ (by omega)).trans h0;have HLOW:Hid (Below w.heap.size w ((w.alloc zE0).alloc (.cells #[.bool true,.string s,.int .i64 0] 122))):=hid (hb0.trans (hb1.mono (by omega)));have HZ1:=hid hz1;have HR1:=hid hrd1;have HS0:=hid hs0;have HS1:=hid hs1;have HS:=hid hs;have HV:=hid hv;clear h0 hb0 hs0 hn1 hb1 hs1 hrd1 hz1 hs hv;go_enter Tryz.func7,Tryz.ntmps7;go_wp2_with fail;refine(new_any s _).mono ?_;rintro r w1 ⟨rfl,rfl⟩;rw[HS0.out];generalize (w.alloc zE0).alloc (.cells #[.bool true,.string s,.int .i64 0] 122)=w1 at*;go_wp2_with fail;refine(EvN.out_no _ _).mono ?_;rintro r w2 ⟨rfl,hn2,hb2⟩;rw[HS1.out] at hn2
 have HR2:Hid (RdS w s 0 w2):=hid (by
  have hl:=zvp hn2;exact⟨(hb2.block _ (by have:=HS1.out;omega)).trans HZ1.out,yhd HR1.out (hb2.block _ (by have:=HS1.out;omega)),HLOW.out.trans (hb2.mono (by have:=HS1.out;omega)),by omega⟩)
 have HEV:=hid (yfk (okB s (w.heap.size+1) (w.heap.size+2) (by omega) HS.out) (fun k _=>ygz k) w2 0 (by have:=HR2.out.sz;omega) ⟨HR2.out.rdr,Nat.zero_le _,hn2⟩);rw[HS1.out];clear hn2 hb2;go_wp2_with fail;refine HEV.out.mono ?_;intro r w3 hr;obtain⟨e,v,y,rfl,ho,hrd,hcls⟩:=cls s _ _ _ _ _ hr;have HR3:Hid (RdS w s y w3):=hid (HR2.out.but ho hrd);have hz3:=heap_alloc_new w3 zE0;have hb4:Below w3.heap.size w3 ((w3.alloc zE0).setRow w3.heap.size (evL e).toArray):=below_setRow (alW w3 zE0) (Nat.le_refl _) _;have HR4:Hid (RdS w s y ((w3.alloc zE0).setRow w3.heap.size (evL e).toArray)):=hid (HR3.out.gr hb4);have hev4:((w3.alloc zE0).setRow w3.heap.size (evL e).toArray).heap[w3.heap.size]?=some (evO e):=setRow_heap _ _ _ _ _ _ hz3;have HEV4:=hid hev4;have HB4:=hid hb4;clear hr ho hrd HEV hev4 hb4;rcases hcls with ⟨f,c,rfl,hc0,hc22,hys,hf2,hfl,hD⟩|⟨rfl,hD⟩|⟨rfl,hys,g,a,c,he,hsh,hne,hge,hD⟩
 · have HF:Hid (IsFault ((w3.alloc zE0).setRow w3.heap.size (evL e).toArray) f 0 c ⟨#[]⟩ y):=hid (yhe hfl (HB4.out.block f hfl.lt))
   have HC0:=hid hc0;have HYS:=hid hys;have HDD:=hid hD;have HR:=HR4;have hc22':c≤23:=by omega
   clear hfl hf2 hc0 hys hD;go_wp2_with (first | (refine wpList_store_row rfl 27 _ _ rfl w3.heap.size (evL e).toArray rfl rfl _ _ hz3 zvk rfl (zvl _) ?_)|fail)
   clear hz3;generalize (w3.alloc zE0).setRow w3.heap.size (evL e).toArray=w4 at*;have hc4:=HF.out.code;have hu4:=HF.out.under;have HIS:=hid (yge f 0 c 90 (by omega) w4 hc4 hu4);clear hc4 hu4;go_wp2_with fail;refine HIS.out.mono ?_;rintro r w5 ⟨rfl,rfl⟩;have hb5:=alW w4 (.cells #[.iface 43 (.int .i64 c)] 29);have HR5:=hid (HR.out.gr hb5);have HF5:=hid (yhe HF.out (hb5.block f HF.out.lt));clear hb5 HIS;generalize w4.alloc (.cells #[.iface 43 (.int .i64 c)] 29)=w6 at*;have HAT:=hid (at_is (w.heap.size+1) 0 s y w6 HR5.out.rdr);go_wp2_with fail;refine HAT.out.mono ?_;rintro r w7 ⟨rfl,rfl⟩;have hb8:=alW w6 (topO y f);have HR8:=hid (HR5.out.gr hb8);have HF8:=hid (yhe HF5.out (hb8.block f HF5.out.lt));have HG8:=hid (heap_alloc_new w6 (topO y f));have HL6:=hid HR5.out.sz;have hz8:=HR8.out.res;have hfne:f≠w.heap.size:=yhp HF8.out hz8;have HFN:=hid hfne;clear hb8 HAT hfne;go_wp2_with (first | (refine wpList_store_row rfl 27 _ _ rfl w.heap.size (evL (EvA.kindV 0)).toArray rfl rfl _ _ hz8 zvk rfl (zvl _) ?_)|fail)
   refine bodyPost_ret (yew rfl _ _ w.heap.size _ (evL (EvA.kindV 0)).toArray _ _ rfl (setRow_heap _ _ _ _ _ _ hz8) Tryz.underlying27 rfl zvk) rfl ?_;have hset:∀j,j≠w.heap.size→((w6.alloc (topO y f)).setRow w.heap.size (evL (EvA.kindV 0)).toArray).heap[j]?=(w6.alloc (topO y f)).heap[j]?:=fun j hj=>setRow_other _ _ j _ hj
   refine⟨below_setRow HR8.out.low (Nat.le_refl _) _,.inr (.inr ?_)⟩;rw[HDD.out];exact⟨rfl,HC0.out,by omega,HYS.out,w6.heap.size,f,rfl,by have:=HL6.out;omega,(hset _ (by have:=HL6.out;omega)).trans HG8.out,yhe HF8.out (hset f HFN.out)⟩
 · have HDD:=hid hD
   have HR:=HR4;clear hD;go_wp2_with (first | (refine wpList_store_row rfl 27 _ _ rfl w3.heap.size (evL e).toArray rfl rfl _ _ hz3 zvk rfl (zvl _) ?_)|fail)
   clear hz3;generalize (w3.alloc zE0).setRow w3.heap.size (evL e).toArray=w4 at*;have HIS:=hid (yho 90 w4);go_wp2_with fail;refine HIS.out.mono ?_;rintro r w5 ⟨rfl,rfl⟩;have hb8:=alW w4 oneO;have HR8:=hid (HR.out.gr hb8);have HG8:=hid (heap_alloc_new w4 oneO);have HL6:=hid HR.out.sz;have hz8:=HR8.out.res;clear hb8 HIS;go_wp2_with (first | (refine wpList_store_row rfl 27 _ _ rfl w.heap.size (evL (EvA.kindV 0)).toArray rfl rfl _ _ hz8 zvk rfl (zvl _) ?_)|fail)
   refine bodyPost_ret (yew rfl _ _ w.heap.size _ (evL (EvA.kindV 0)).toArray _ _ rfl (setRow_heap _ _ _ _ _ _ hz8) Tryz.underlying27 rfl zvk) rfl ?_;refine⟨below_setRow HR8.out.low (Nat.le_refl _) _,.inr (.inl ?_)⟩;rw[HDD.out];exact⟨rfl,rfl,rfl,w4.heap.size,rfl,by have:=HL6.out;omega,(setRow_other _ _ _ _ (by have:=HL6.out;omega)).trans HG8.out⟩
 · have HDD:=hid hD
   have HYS:=hid hys;have HNE:=hid hne;have HSH:=hid hsh;have HE:=hid he;have HGE:=hid hge;have hw3:=HR3.out.sz;have HNE4:Hid (NeIn ((w3.alloc zE0).setRow w3.heap.size (evL e).toArray) a c g.needs):=hid (hne.gr HB4.out);clear hD hys hne hsh hge he;go_wp2_with (first | (refine wpList_store_row rfl 27 _ _ rfl w3.heap.size (evL e).toArray rfl rfl _ _ hz3 zvk rfl (zvl _) ?_)|fail)
   clear hz3;generalize (w3.alloc zE0).setRow w3.heap.size (evL e).toArray=w4 at*;have HEN:=hid (rend_is (w.heap.size+1) 0 s y w4 HYS.out HR4.out.rdr);by_cases hlt:y<s.size
   · have hD2:readD s=(EvA.kindV 0,false,y,23):=by rw[HDD.out,if_pos hlt]
     have HD2:=hid hD2;have hce:endC y s=23:=by unfold endC;rw[if_pos hlt]
     rw[hce] at HEN;clear hD2 hce;go_wp2_with fail;refine HEN.out.mono ?_;rintro r w8 ⟨ev,rfl,hie,hrd8,hbt⟩;rcases hie with ⟨h,-⟩|⟨-,f,rfl,hf2,hfl⟩
     · exact absurd h (by decide)
     have HR:Hid (RdS w s y w8):=hid (HR4.out.but (yhc hbt) hrd8);have HF:=hid hfl;have HC0:Hid ((23:Nat)≠0):=hid (by decide);have hev8:=(hbt.block _ (zvp HEV4.out) (by omega)).trans HEV4.out;obtain⟨c,hc23⟩:∃c:Nat,c=23:=⟨_,rfl⟩;rw[←hc23] at HF HC0 HD2;have hc22':c≤23:=by omega
     have hc90:20≤c:=by omega
     clear hc23 hf2 hfl hrd8 hbt;go_wp2_with fail;have hc4:=HF.out.code;have hu4:=HF.out.under;have HIS:=hid (yge f 0 c 90 (by omega) w8 hc4 hu4);clear hc4 hu4;go_wp2_with fail;refine HIS.out.mono ?_;rintro r w5 ⟨rfl,rfl⟩;have hb5:=alW w8 (.cells #[.iface 43 (.int .i64 c)] 29);have HR5:=hid (HR.out.gr hb5);have HF5:=hid (yhe HF.out (hb5.block f HF.out.lt));clear hb5 HIS;generalize w8.alloc (.cells #[.iface 43 (.int .i64 c)] 29)=w6 at*;have HAT:=hid (at_is (w.heap.size+1) 0 s y w6 HR5.out.rdr);go_wp2_with fail;refine HAT.out.mono ?_;rintro r w7 ⟨rfl,rfl⟩;have hb8:=alW w6 (topO y f);have HR8:=hid (HR5.out.gr hb8);have HF8:=hid (yhe HF5.out (hb8.block f HF5.out.lt));have HG8:=hid (heap_alloc_new w6 (topO y f));have HL6:=hid HR5.out.sz;have hz8:=HR8.out.res;have hfne:f≠w.heap.size:=yhp HF8.out hz8;have HFN:=hid hfne;clear hb8 HAT hfne;go_wp2_with (first | (refine wpList_store_row rfl 27 _ _ rfl w.heap.size (evL (EvA.kindV 0)).toArray rfl rfl _ _ hz8 zvk rfl (zvl _) ?_)|fail)
     refine bodyPost_ret (yew rfl _ _ w.heap.size _ (evL (EvA.kindV 0)).toArray _ _ rfl (setRow_heap _ _ _ _ _ _ hz8) Tryz.underlying27 rfl zvk) rfl ?_;have hset:∀j,j≠w.heap.size→((w6.alloc (topO y f)).setRow w.heap.size (evL (EvA.kindV 0)).toArray).heap[j]?=(w6.alloc (topO y f)).heap[j]?:=fun j hj=>setRow_other _ _ j _ hj
     refine⟨below_setRow HR8.out.low (Nat.le_refl _) _,.inr (.inr ?_)⟩;rw[HD2.out];exact⟨rfl,HC0.out,by omega,HYS.out,w6.heap.size,f,rfl,by have:=HL6.out;omega,(hset _ (by have:=HL6.out;omega)).trans HG8.out,yhe HF8.out (hset f HFN.out)⟩
   · have hD2:readD s=if mayD g=false then (EvA.kindV 0,false,0,0) else (g,true,0,0):=by rw[HDD.out,if_neg hlt]
     have HD2:=hid hD2;have hce:endC y s=0:=by unfold endC;rw[if_neg hlt]
     rw[hce] at HEN;clear hD2 hce;go_wp2_with fail;refine HEN.out.mono ?_;rintro r w8 ⟨ev,rfl,hie,hrd8,hbt⟩;rcases hie with ⟨-,rfl⟩|⟨h,-⟩
     case inr=>exact absurd rfl h
     have HR8':Hid (RdS w s y w8):=hid (HR4.out.but (yhc hbt) hrd8);have hev8:w8.heap[w3.heap.size]?=some (evO e):=(hbt.block _ (zvp HEV4.out) (by omega)).trans HEV4.out;have hne8:NeIn w8 a c g.needs:=yfb HNE4.out (fun p hl o hp=>hbt.block p hl (by have:=HGE.out _ hp;have:=HR2.out.sz;simp only at *;omega));have HV8:=hid (HV.out.gr HR8'.out.low);have HMY:=hid (pmay_any e w8 (by rw[HE.out];exact sh_in HSH.out hne8) HV8.out);have hmd:mayD e=mayD g:=by rw[HE.out];rfl
     rw[hmd] at HMY;have HEV8:=hid hev8;have HNE8:=hid hne8;clear hrd8 hbt hmd hne8;by_cases hmy:mayD g=false
     · have hD3:readD s=(EvA.kindV 0,false,0,0):=by rw[HD2.out,if_pos hmy]
       have HDD:=hid hD3;rw[hmy] at HMY;unfold mayC at HMY;clear hD3;obtain⟨p0,p1,p2,p3,p4,p5,p6,p7,p8,p9⟩:=zvb hev8;go_wp2_with fail;refine HMY.out.mono ?_;rintro r w9 ⟨rfl,hb9⟩;have HR:Hid (RdS w s y w9):=hid (HR8'.out.gr hb9);clear hb9 hev8 p0 p1 p2 p3 p4 p5 p6 p7 p8 p9;go_wp2_with fail;have HIS:=hid (yho 90 w9);go_wp2_with fail;refine HIS.out.mono ?_;rintro r w5 ⟨rfl,rfl⟩;have hb8:=alW w9 oneO;have HR8:=hid (HR.out.gr hb8);have HG8:=hid (heap_alloc_new w9 oneO);have HL6:=hid HR.out.sz;have hz8:=HR8.out.res;clear hb8 HIS;go_wp2_with (first | (refine wpList_store_row rfl 27 _ _ rfl w.heap.size (evL (EvA.kindV 0)).toArray rfl rfl _ _ hz8 zvk rfl (zvl _) ?_)|fail)
       refine bodyPost_ret (yew rfl _ _ w.heap.size _ (evL (EvA.kindV 0)).toArray _ _ rfl (setRow_heap _ _ _ _ _ _ hz8) Tryz.underlying27 rfl zvk) rfl ?_;refine⟨below_setRow HR8.out.low (Nat.le_refl _) _,.inr (.inl ?_)⟩;rw[HDD.out];exact⟨rfl,rfl,rfl,w9.heap.size,rfl,by have:=HL6.out;omega,(setRow_other _ _ _ _ (by have:=HL6.out;omega)).trans HG8.out⟩
     · have hmy':mayD g=true:=by simpa using hmy
       have hD3:readD s=(g,true,0,0):=by rw[HD2.out,if_neg hmy]
       have HDD:=hid hD3;rw[hmy'] at HMY;unfold mayC at HMY;clear hD3;obtain⟨p0,p1,p2,p3,p4,p5,p6,p7,p8,p9⟩:=zvb hev8;go_wp2_with fail;refine HMY.out.mono ?_;rintro r w9 ⟨rfl,hb9⟩;have HR:Hid (RdS w s y w9):=hid (HR8'.out.gr hb9);have hev9:=(hb9.block _ (zvp HEV8.out)).trans HEV8.out;have HNE9:=hid (HNE8.out.gr hb9);have hz9:=HR.out.res;clear hb9 hev8 p0 p1 p2 p3 p4 p5 p6 p7 p8 p9;obtain⟨p0,p1,p2,p3,p4,p5,p6,p7,p8,p9⟩:=zvb hev9;go_wp2_with (first | (refine wpList_store_row rfl 27 _ _ rfl w.heap.size (evL e).toArray rfl rfl _ _ hz9 zvk rfl (zvl _) ?_)|fail)
       refine bodyPost_ret (yew rfl _ _ w.heap.size _ (evL e).toArray _ _ rfl (setRow_heap _ _ _ _ _ _ hz9) Tryz.underlying27 rfl zvk) rfl ?_;refine⟨below_setRow HR.out.low (Nat.le_refl _) _,.inl ?_⟩;rw[HDD.out];exact⟨rfl,a,c,by rw[HE.out];rfl,yfb HNE9.out (fun p hl o hp=>setRow_other _ _ _ _ (by have:=HGE.out _ hp;have:=HR2.out.sz;simp only at *;omega))⟩
end EvS
end
end Go.Proofs.YtbninnkpjdofbaaGreatDoor
