/-
  What the proof of EventReads stands on, part 35.
-/
import Derived.Test.YtbninnkpjdofbaaGreatDoorT33
set_option linter.unusedSimpArgs false
set_option linter.unusedVariables false
set_option maxHeartbeats 16000000
namespace Go.Proofs.YtbninnkpjdofbaaGreatDoor
open Go.Lib (hid)
section
open Go.RowKit Go.Sort
namespace EvA
open StrC EvF EvC TextR CodeM CodeC
def ltrF(x:Int):Nat:=if x=0 then 119 else if x=1 then 110 else if x=2 then 118 else if x=3 then 101 else if x=4 then 115 else if x=5 then 78 else if x=6 then 122 else if x=7 then 104 else 116
theorem yfl(k:Nat):fldS k=(zvs k).map (fun x=>UInt8.ofNat (ltrF x)):=by
 rcases zyz (k:=k) with rfl|rfl|rfl|rfl|rfl|rfl|rfl|rfl|rfl|rfl|h
 case inr.inr.inr.inr.inr.inr.inr.inr.inr.inr=>
  rw[zza h]
  have:zvs k=[]:=by
   unfold zvs
   split<;>first|omega|rfl
  rw[this]
  rfl
 all_goals rfl
def allR(s:ByteArray)(k:Nat)(e:EvG)(x:Int):EvG×Nat×Nat×Nat:=
 if x=3 then ({ e with needs:=(ybh s k).1 },(ybh s k).2.1,(ybh s k).2.2.1,(ybh s k).2.2.2) else fldR s k e x
theorem t_len(most k:Nat)(s:ByteArray):(cutB s (tRes most k s).1 (tRes most k s).2.1).length≤most:=by
 unfold tRes cutB;simp only
 split
 · split
   · simp
   · have:=ybf (most:=most) (k:=k) (l:=s.data.toList.drop k)
     simp
     omega
 · simp
theorem yfm(s:ByteArray):∀(n k:Nat) (P:List (B×B)),(ndsR s n k P).1.length≤P.length+n
 | 0,k,P=>Nat.le_refl _
 | n+1,k,P=>by
   rw[ndsR];simp only
   split
   · exact Nat.le_add_right _ _
   · split
     · exact Nat.le_add_right _ _
     · have:=yfm s n (tRes 65536 (tRes 65536 k s).2.2.2.2 s).2.2.2.2 (P++ [(cutB s (tRes 65536 k s).1 (tRes 65536 k s).2.1,cutB s (tRes 65536 (tRes 65536 k s).2.2.2.2 s).1 (tRes 65536 (tRes 65536 k s).2.2.2.2 s).2.1)])
       simp at this;omega
theorem few_put{P:List (B×B)}{u:B×B}(h:∀x∈P,x.1.length≤65536∧x.2.length≤65536)(hu:u.1.length≤65536∧u.2.length≤65536):∀x∈P++ [u],x.1.length≤65536∧x.2.length≤65536:=by
 intro x hx;rcases List.mem_append.1 hx with hx|hx
 · exact h x hx
 · rw[List.mem_singleton.1 hx];exact hu
theorem yfn(s:ByteArray):∀(n k:Nat) (P:List (B×B)),(∀x∈P,x.1.length≤65536∧x.2.length≤65536)→∀x∈(ndsR s n k P).1,x.1.length≤65536∧x.2.length≤65536
 | 0,k,P,h=>h
 | n+1,k,P,h=>by
   rw[ndsR];simp only
   split
   · exact h
   · split
     · exact h
     · have h1:=t_len 65536 k s
       have h2:=t_len 65536 (tRes 65536 k s).2.2.2.2 s;generalize cutB s (tRes 65536 k s).1 (tRes 65536 k s).2.1=A at h1 ⊢;generalize cutB s (tRes 65536 (tRes 65536 k s).2.2.2.2 s).1 (tRes 65536 (tRes 65536 k s).2.2.2.2 s).2.1=C at h2 ⊢;exact yfn s n _ _ (few_put (u:=(A,C)) h ⟨h1,h2⟩)
theorem yfo(s:ByteArray)(k:Nat):(ybh s k).1.length≤64:=by
 unfold ybh;simp only
 split
 · exact Nat.zero_le _
 · have h1:=yfm s (uRes 64 k (s.data.toList.drop k)).1 (uRes 64 k (s.data.toList.drop k)).2.2.2 []
   have h2:=ybf (most:=64) (k:=k) (l:=s.data.toList.drop k);simp at h1;omega
theorem yfp(s:ByteArray)(k:Nat):∀x∈(ybh s k).1,x.1.length≤65536∧x.2.length≤65536:=by
 unfold ybh;simp only
 split
 · intro x hx;cases hx
 · exact yfn s _ _ _ (fun x hx=>by cases hx)
theorem yfq{w:World}{N:Nat}{v:Value}{L:List (B×B)}(h:w.ownsRow N 81 2 v L.length (L.flatMap needL))(hf:L.length≤64)(hs:∀x∈L,x.1.length≤65536∧x.2.length≤65536):
 ∃a c,v= .slice a L.length c∧NeIn w a c L∧∀g,a=some g→N≤g.block:=by
 obtain⟨a,c,e,hn⟩:=zvi h (by omega) (fun x hx=>⟨Nat.le_trans (hs x hx).1 (by omega),Nat.le_trans (hs x hx).2 (by omega)⟩);refine⟨a,c,e,hn,fun g hg=>?_⟩;rcases h.2 with ⟨h1,-⟩|⟨g1,cap,cur,e1,h3,-⟩
 · rw[e,hg] at h1
   cases h1
 · rw[e,hg] at e1
   cases e1
   exact h3
def AllE(e:EvG)(x:Int)(b o:Nat)(s:ByteArray)(k:Nat)(w:World)(r:Ending)(w':World):Prop:=∃a c,r= .returned (.tuple #[evV (atE (allR s k e x).1 a c),.int .i64 (allR s k e x).2.1,.int .i64 (allR s k e x).2.2.1])∧
 (x≠3→a=e.na∧c=e.nc)∧(x=3→NeIn w' a c (allR s k e x).1.needs∧∀g,a=some g→w.heap.size≤g.block)∧IsRef w' b o s (allR s k e x).2.2.2∧
 (w'.os=w.os∧w'.tape=w.tape∧w'.output=w.output∧w.heap.size≤w'.heap.size∧∀j,j<w.heap.size→j≠b→w'.heap[j]?=w.heap[j]?)
theorem yfr(s:ByteArray)(k:Nat)(e:EvG)(x:Int):(fldR s k e x).1.na=e.na∧(fldR s k e x).1.nc=e.nc∧(fldR s k e x).1.needs=e.needs∧(fldR s k e x).1.k=e.k:=by
 unfold fldR;simp only
 (repeat' split)<;>exact⟨rfl,rfl,rfl,rfl⟩
theorem yfs{e:EvG}{x:Int}{b o k:Nat}{s:ByteArray}{w:World}(hx:x≠3){r:Ending}{w':World}(h:FldE (fldR s k e x).1 (fldR s k e x).2.1 (fldR s k e x).2.2.1 (fldR s k e x).2.2.2 b o s w r w'):AllE e x b o s k w r w':=by
 obtain⟨h1,h2,h3⟩:=h;have hA:allR s k e x=fldR s k e x:=by unfold allR;rw[if_neg hx]
 obtain⟨k1,k2,-,-⟩:=yfr s k e x;refine⟨e.na,e.nc,?_,fun _=>⟨rfl,rfl⟩,fun h=>absurd h hx,by rw[hA];exact h2,h3⟩;rw[h1,hA];have:atE (fldR s k e x).1 e.na e.nc=(fldR s k e x).1:=by rw[←k1,←k2];rfl
 rw[this]
theorem yft(e:EvG)(x:Int)(b o:Nat)(s:ByteArray)(k:Nat)(w:World)(hx:x=0∨x=1∨x=2∨x=3∨x=4∨x=5∨x=6∨x=7∨x=8∨x=9)(hk:k≤s.size)(hs:s.size≤4611686018427387904)(hr:IsRef w b o s k)
 (hn:x=3→e.na=none∧e.nc=0∧e.needs=[]):
 Calls Tryz.prog 28 #[.pointer (some ⟨b,o,none⟩),evV e,.int .u8 (ltrF x)] w (AllE e x b o s k w):=by
 rcases hx with rfl|rfl|rfl|rfl|rfl|rfl|rfl|rfl|rfl|rfl
 · exact(rfld_0 e b o s k w hk hs hr).mono fun r w' h=>yfs (by decide) h
 · exact(rfld_1 e b o s k w hk hs hr).mono fun r w' h=>yfs (by decide) h
 · exact(rfld_2 e b o s k w hk hs hr).mono fun r w' h=>yfs (by decide) h
 · obtain⟨h1,h2,h3⟩:=hn rfl
   refine(ybo e b o s k w hk hs hr h1 h2 h3).mono fun r w' h=>?_
   obtain⟨v,g1,g2,g3,g4⟩:=h;obtain⟨a,c,e1,hne,hb⟩:=yfq g2 (yfo s k) (yfp s k);subst e1;exact⟨a,c,g1,fun h=>absurd rfl h,fun _=>⟨hne,hb⟩,g3,g4⟩
 · exact(rfld_4 e b o s k w hk hs hr).mono fun r w' h=>yfs (by decide) h
 · exact(rfld_5 e b o s k w hk hs hr).mono fun r w' h=>yfs (by decide) h
 · exact(rfld_6 e b o s k w hk hs hr).mono fun r w' h=>yfs (by decide) h
 · exact(rfld_7 e b o s k w hk hs hr).mono fun r w' h=>yfs (by decide) h
 · exact(ybg e b o s k w hk hs hr).mono fun r w' h=>yfs (x:=8) (by decide) h
 · exact(ybg e b o s k w hk hs hr).mono fun r w' h=>yfs (by decide) h
end EvA
end
section
open Go.RowKit Go.Sort
namespace EvA
open StrC EvF EvC TextR CodeM CodeC
def foldR(s:ByteArray):List Int→Nat→EvG→EvG×Nat×Nat×Nat
 | [],k,e=>(e,0,0,k)
 | x :: r,k,e=>if (allR s k e x).2.1≠0 then allR s k e x else foldR s r (allR s k e x).2.2.2 (allR s k e x).1
def kindV(k:Nat):EvG:=⟨k,[],[],[],none,0,[],0,0,0,[],[]⟩
def fstR(s:ByteArray):Nat×Nat×Nat:=if h:0<s.size then (s[0].toNat,0,1) else (0,20,0)
def readD(s:ByteArray):EvG×Bool×Nat×Nat:=
 let c:=fstR s
 let f:=foldR s (zvs c.1) c.2.2 (kindV c.1)
 if c.2.1≠0 then (kindV 0,false,0,c.2.1)
 else if zvs c.1=[] then (kindV 0,false,0,0)
 else if f.2.1≠0 then (kindV 0,false,f.2.2.1,f.2.1)
 else if f.2.2.2<s.size then (kindV 0,false,f.2.2.2,23)
 else if mayD f.1=false then (kindV 0,false,0,0)
 else (f.1,true,0,0)
structure Sh (e:EvG):Prop where
 k:e.k≤255
 sum:e.sum≤18446744073709551615
 n:e.n≤4294967295
 size:e.size≤4294967295
 who:e.who.length≤65536
 name:e.name.length≤65536
 ver:e.ver.length≤65536
 holder:e.holder.length≤65536
 note:e.note.length≤65536
 few:e.needs.length≤64
 short:∀x∈e.needs,x.1.length≤65536∧x.2.length≤65536
theorem yfu{k:Nat}(h:k≤255):Sh (kindV k):=
 ⟨h,Nat.zero_le _,Nat.zero_le _,Nat.zero_le _,Nat.zero_le _,Nat.zero_le _,Nat.zero_le _,Nat.zero_le _,Nat.zero_le _,Nat.zero_le _,fun x hx=>by cases hx⟩
theorem w_most(k:Nat)(s:ByteArray):(wRes k s).1≤18446744073709551615:=by
 unfold wRes
 split
 · exact Nat.zero_le _
 · have h:=wv_lt ((s.data.toList.drop k).take 8)
   have h2:((s.data.toList.drop k).take 8).length≤8:=by simp;omega
   have h3:256 ^ ((s.data.toList.drop k).take 8).length≤256 ^ 8:=Nat.pow_le_pow_right (by decide) h2;have h4:(256:Nat) ^ 8=18446744073709551616:=by decide
   simp only;omega
theorem yfv{s:ByteArray}{k:Nat}{e:EvG}(x:Int)(h:Sh e):Sh (allR s k e x).1:=by
 obtain⟨h1,h2,h3,h4,h5,h6,h7,h8,h9,h10,h11⟩:=h;have ht:=t_len 65536 k s;have hu:=ybf (most:=4294967295) (k:=k) (l:=s.data.toList.drop k);have hw:=w_most k s;unfold allR
 split
 · exact⟨h1,h2,h3,h4,h5,h6,h7,h8,h9,yfo s k,yfp s k⟩
 · unfold fldR
   simp only
   split
   · exact⟨h1,h2,h3,h4,ht,h6,h7,h8,h9,h10,h11⟩
   split
   · exact⟨h1,h2,h3,h4,h5,ht,h7,h8,h9,h10,h11⟩
   split
   · exact⟨h1,h2,h3,h4,h5,h6,ht,h8,h9,h10,h11⟩
   split
   · exact⟨h1,hw,h3,h4,h5,h6,h7,h8,h9,h10,h11⟩
   split
   · exact⟨h1,h2,hu,h4,h5,h6,h7,h8,h9,h10,h11⟩
   split
   · exact⟨h1,h2,h3,hu,h5,h6,h7,h8,h9,h10,h11⟩
   split
   · exact⟨h1,h2,h3,h4,h5,h6,h7,ht,h9,h10,h11⟩
   · exact⟨h1,h2,h3,h4,h5,h6,h7,h8,ht,h10,h11⟩
theorem t_in{k:Nat}{s:ByteArray}(hk:k≤s.size):(tRes 65536 k s).2.2.2.2≤s.size:=by
 rcases yao 65536 k s hk with ⟨e,-,-,h⟩|⟨a,q,-,hq,-,h⟩
 · rw[h];exact hk
 · rw[h];exact hq
theorem u_in{m k:Nat}{s:ByteArray}(hk:k≤s.size):(uRes m k (s.data.toList.drop k)).2.2.2≤s.size:=by
 rcases zwu m k s hk with ⟨e,he,he2,hu⟩|⟨v,d,hv,hd,hu⟩
 · rw[hu];exact hk
 · rw[hu];simp only;omega
theorem w_in{k:Nat}{s:ByteArray}(hk:k≤s.size):(wRes k s).2.2.2≤s.size:=by
 unfold wRes
 split
 · exact hk
 · simp only;omega
theorem yfw{s:ByteArray}:∀(n k:Nat) (P:List (B×B)),k≤s.size→(ndsR s n k P).2.2.2≤s.size
 | 0,k,P,h=>h
 | n+1,k,P,h=>by
   have h1:=t_in h;have h2:=t_in h1;rw[ndsR];simp only
   split
   · exact h1
   · split
     · exact h2
     · exact yfw n _ _ h2
theorem yfx{s:ByteArray}{k:Nat}{e:EvG}(x:Int)(hk:k≤s.size):(allR s k e x).2.2.2≤s.size:=by
 have ht:=t_in hk;have hu:=u_in (m:=4294967295) hk;have hw:=w_in hk;unfold allR
 split
 · unfold ybh
   have h6:=u_in (m:=64) hk;simp only
   split
   · exact h6
   · exact yfw _ _ _ h6
 · unfold fldR
   simp only
   (repeat' split)<;>assumption
theorem yfy{s:ByteArray}:∀(L:List Int) (k:Nat) (e:EvG),Sh e→Sh (foldR s L k e).1
 | [],k,e,h=>h
 | x :: r,k,e,h=>by
   rw[foldR]
   split
   · exact yfv x h
   · exact yfy r _ _ (yfv x h)
end EvA
end
section
open Go.RowKit Go.Extern.Stop Go.Stop Go.Extern
namespace ErrU
open ErrC
theorem yfz(v:Value)(xT:TypeId)(w:World):(Instr.typeAssert (.iface 43 v) xT 162 true).run Tryz.prog w= .ok (.tuple #[.nilIface,.bool false]) w:=run_typeAssert_lacksB Tryz.underlying162 (by kernel_rfl) (by kernel_rfl) v xT w
theorem yga(v:Value)(xT:TypeId)(w:World):(Instr.typeAssert (.iface 43 v) xT 158 true).run Tryz.prog w= .ok (.tuple #[.nilIface,.bool false]) w:=run_typeAssert_lacksB Tryz.underlying158 (by kernel_rfl) (by kernel_rfl) v xT w
theorem ygb(v:Value)(xT:TypeId)(w:World):(Instr.typeAssert (.iface 43 v) xT 159 true).run Tryz.prog w= .ok (.tuple #[.nilIface,.bool false]) w:=run_typeAssert_lacksB Tryz.underlying159 (by kernel_rfl) (by kernel_rfl) v xT w
theorem ygc(c k:Int)(hck:c≠k)(w:World):
 Calls Tryz.prog 36 #[.iface 43 (.int .i64 c),.iface 43 (.int .i64 k),.bool true] w fun e w'=>e= .returned (.bool false)∧w=w':=by
 have heq:=ztq c k;have hb:(c == k)=false:=beq_eq_false_iff_ne.2 hck;have y1:=yfz;have y2:=yga;have y3:=ygb;go_enter Tryz.func36,Tryz.ntmps36;go_wp2_with fail;refine wp_loop_rounds 1 ?_;rw[rounds_succ];go_wp2
 go_ret;exact⟨rfl,rfl⟩
theorem ygd(b o:Nat)(c k:Int)(hck:c≠k)(w:World)(hc:w.cell? ⟨b,o,none⟩=some (.int .i64 c))(hu:w.cell? ⟨b,o+3,none⟩=some .nilIface):
 Calls Tryz.prog 36 #[.iface 40 (.pointer (some ⟨b,o,none⟩)),.iface 43 (.int .i64 k),.bool true] w fun e w'=>e= .returned (.bool false)∧w'=w.alloc (.cells #[.iface 43 (.int .i64 c)] 29):=by
 have y4:=ztt;have y5:=no_is;have y6:=ztu;have y7:=ztv;have y8:=run_eql_iface_types (P:=Tryz.prog) 40 43 (.pointer (some ⟨b,o,none⟩)) (.int .i64 k) Tryz.underlying29 (by decide);go_enter Tryz.func36,Tryz.ntmps36;go_wp2_with fail;refine wp_loop_rounds 1 ?_;rw[rounds_succ];go_wp2_with (go_at_call 336;refine(ztx _ _ _ _ hc hu).mono ?_;rintro e w' ⟨rfl,rfl⟩)
 refine wp_loop_rounds 2 ?_;rw[rounds_succ];go_wp2_with (go_at_call 36;refine(ygc _ _ hck _).mono ?_;rintro e w' ⟨rfl,rfl⟩)
 rw[rounds_succ];go_wp2_with fail;go_ret;exact⟨rfl,rfl⟩
theorem yge(b o:Nat)(c k:Int)(hck:c≠k)(w:World)(hc:w.cell? ⟨b,o,none⟩=some (.int .i64 c))(hu:w.cell? ⟨b,o+3,none⟩=some .nilIface):
 Calls Tryz.prog 14 #[.iface 40 (.pointer (some ⟨b,o,none⟩)),.iface 43 (.int .i64 k)] w fun e w'=>e= .returned (.bool false)∧w'=w.alloc (.cells #[.iface 43 (.int .i64 c)] 29):=by
 have x1:=@run_callFunc_extern Tryz.prog 35 _ Extern.ReflectliteType.typeOf Tryz.func35 (by kernel_rfl) (by kernel_rfl) (by kernel_rfl) (by kernel_rfl);have y1:=to_en;have y2:=zts;have y3:=m_cmp;go_enter Tryz.func14,Tryz.ntmps14;go_wp2_with (go_at_call 36;refine(ygd _ _ _ _ hck _ hc hu).mono ?_;rintro e w' ⟨rfl,rfl⟩)
 go_ret;exact⟨rfl,rfl⟩
abbrev fV(b:Nat):Value:=.iface 40 (.pointer (some ⟨b,0,none⟩))
theorem ygf{w:World}{b o:Nat}{v:Value}(O:Obj)(h:w.cell? ⟨b,o,none⟩=some v):(w.alloc O).cell? ⟨b,o,none⟩=some v:=by
 rw[World.cell?_alloc_old _ _ _ (Nat.ne_of_lt (World.block_lt_of_cell? _ _ h))];exact h
theorem ygg(b:Nat)(c:Int)(t:TypeId)(u:Value)(w:World)(hc:w.cell? ⟨b,0,none⟩=some (.int .i64 c))(hu:w.cell? ⟨b,3,none⟩=some (.iface t u)):
 Calls Tryz.prog 336 #[.pointer (some ⟨b,0,none⟩)] w fun e w'=>e= .returned (.slice (some ⟨w.heap.size,0,none⟩) 2 2)∧w'.cell? ⟨w.heap.size,0,none⟩=some (.iface 43 (.int .i64 c))∧w'.cell? ⟨w.heap.size,1,none⟩=some (.iface t u)∧Below w.heap.size w w':=by
 go_enter Tryz.func336,Tryz.ntmps336;go_wp2_with fail;go_region_held3 (fun w'=>w'.cell? ⟨b,0,none⟩=some (.int .i64 c)∧w'.cell? ⟨b,3,none⟩=some (.iface t u)) (first|exact⟨hc,hu⟩|exact⟨ygf _ hc,ygf _ hu⟩|fail) (first|fail)
 go_wp2_with fail;go_ret;have hb:=(Below.refl w.heap.size w).alloc (Nat.le_refl _) (.cells #[.iface 43 (.int .i64 c),.iface t u] 29);refine⟨rfl,?_,?_,⟨hb.os,hb.tape,hb.output,hb.size,hb.block⟩⟩
 · show (w.alloc _).cell? _=_
   rw[World.cell?_alloc_at _ _ _ _ rfl];rfl
 · show (w.alloc _).cell? _=_
   rw[World.cell?_alloc_at _ _ _ _ rfl];rfl
theorem is_top(b:Nat)(c:Int)(t:TypeId)(u:Value)(w:World)(hc:w.cell? ⟨b,0,none⟩=some (.int .i64 c))(hu:w.cell? ⟨b,3,none⟩=some (.iface t u)):
 Calls Tryz.prog 36 #[fV b,.iface 43 (.int .i64 c),.bool true] w fun e w'=>e= .returned (.bool true)∧Below w.heap.size w w':=by
 have y4:=ztt;have y5:=no_is;have y6:=ztu;have y7:=ztv;have y8:=run_eql_iface_types (P:=Tryz.prog) 40 43 (.pointer (some ⟨b,0,none⟩)) (.int .i64 c) Tryz.underlying29 (by decide);go_enter Tryz.func36,Tryz.ntmps36;go_wp2_with fail;refine wp_loop_rounds 1 ?_;rw[rounds_succ];go_wp2_with (go_at_call 336;refine(ygg _ _ _ _ _ hc hu).mono ?_;rintro e w3 ⟨rfl,u0,u1,hb3⟩;have HB3:=hid hb3;clear hb3)
 refine wp_loop_rounds 1 ?_;rw[rounds_succ];go_wp2_with (go_at_call 36;refine(ztw _ _).mono ?_;rintro e w' ⟨rfl,rfl⟩)
 go_ret;exact⟨rfl,HB3.out⟩
theorem ygh(b b2:Nat)(c k:Int)(hck:c≠k)(w:World)(hc:w.cell? ⟨b,0,none⟩=some (.int .i64 c))(hu:w.cell? ⟨b,3,none⟩=some (fV b2))(hc2:w.cell? ⟨b2,0,none⟩=some (.int .i64 k))(hu2:w.cell? ⟨b2,3,none⟩=some .nilIface):
 Calls Tryz.prog 36 #[fV b,.iface 43 (.int .i64 k),.bool true] w fun e w'=>e= .returned (.bool true)∧Below w.heap.size w w':=by
 have y4:=ztt;have y5:=no_is;have y6:=ztu;have y7:=ztv;have y8:=run_eql_iface_types (P:=Tryz.prog) 40 43 (.pointer (some ⟨b,0,none⟩)) (.int .i64 k) Tryz.underlying29 (by decide)
 have HI:Hid (∀W,Below w.heap.size w W→Calls Tryz.prog 36 #[fV b2,.iface 43 (.int .i64 k),.bool true] W fun e w'=>e= .returned (.bool true)∧Below W.heap.size W w'):=hid (fun W g=>
  (zty b2 0 k W ((g.cell (World.block_lt_of_cell? _ _ hc2)).trans hc2) ((g.cell (World.block_lt_of_cell? _ _ hu2)).trans hu2)).mono (by
    rintro e w' ⟨rfl,rfl⟩;exact⟨rfl,(Below.refl _ _).alloc (Nat.le_refl _) _⟩))
 go_enter Tryz.func36,Tryz.ntmps36;go_wp2_with fail;refine wp_loop_rounds 1 ?_;rw[rounds_succ];go_wp2_with (go_at_call 336;refine(ygg _ _ _ _ _ hc hu).mono ?_;rintro e w3 ⟨rfl,u0,u1,hb3⟩;have HB3:=hid hb3;clear hb3)
 refine wp_loop_rounds 2 ?_;rw[rounds_succ];go_wp2_with (go_at_call 36;refine(ygc _ _ hck _).mono ?_;rintro e w' ⟨rfl,rfl⟩)
 rw[rounds_succ];go_wp2_with fail;refine(HI.out _ HB3.out).mono ?_;rintro e w' ⟨rfl,hb⟩;go_wp2_with fail;go_ret;exact⟨rfl,HB3.out.trans (hb.mono HB3.out.size)⟩
theorem ygi(b:Nat)(c:Int)(t:TypeId)(u:Value)(w:World)(hc:w.cell? ⟨b,0,none⟩=some (.int .i64 c))(hu:w.cell? ⟨b,3,none⟩=some (.iface t u)):
 Calls Tryz.prog 14 #[fV b,.iface 43 (.int .i64 c)] w fun e w'=>e= .returned (.bool true)∧Below w.heap.size w w':=by
 have x1:=@run_callFunc_extern Tryz.prog 35 _ Extern.ReflectliteType.typeOf Tryz.func35 (by kernel_rfl) (by kernel_rfl) (by kernel_rfl) (by kernel_rfl);have y1:=to_en;have y2:=zts;have y3:=m_cmp;go_enter Tryz.func14,Tryz.ntmps14;go_wp2_with (go_at_call 36;refine(is_top b c t u w hc hu).mono ?_;rintro e w' ⟨rfl,hb⟩)
 go_ret;exact⟨rfl,hb⟩
theorem ygj(b b2:Nat)(c k:Int)(hck:c≠k)(w:World)(hc:w.cell? ⟨b,0,none⟩=some (.int .i64 c))(hu:w.cell? ⟨b,3,none⟩=some (fV b2))(hc2:w.cell? ⟨b2,0,none⟩=some (.int .i64 k))(hu2:w.cell? ⟨b2,3,none⟩=some .nilIface):
 Calls Tryz.prog 14 #[fV b,.iface 43 (.int .i64 k)] w fun e w'=>e= .returned (.bool true)∧Below w.heap.size w w':=by
 have x1:=@run_callFunc_extern Tryz.prog 35 _ Extern.ReflectliteType.typeOf Tryz.func35 (by kernel_rfl) (by kernel_rfl) (by kernel_rfl) (by kernel_rfl);have y1:=to_en;have y2:=zts;have y3:=m_cmp;go_enter Tryz.func14,Tryz.ntmps14;go_wp2_with (go_at_call 36;refine(ygh b b2 c k hck w hc hu hc2 hu2).mono ?_;rintro e w' ⟨rfl,hb⟩)
 go_ret;exact⟨rfl,hb⟩
end ErrU
end
section
open Go.RowKit Go.Sort
namespace EvN
open StrC EvF EvC EvA
abbrev pt(n:Nat):Value:=.pointer (some ⟨n,0,none⟩)
abbrev kindV(n:Nat):Value:=.func (.func 54) #[] #[pt n]
abbrev textV(n:Nat):Value:=.func (.func 56) #[] #[pt n]
abbrev wordV(b:Nat):Value:=.func (.func 58) #[pt b] #[]
abbrev uintV(b:Nat):Value:=.func (.func 59) #[pt b] #[]
abbrev rdL(n b:Nat):List Value:=[kindV n,textV n,textV n,textV n,wordV b,uintV b]
abbrev rdgZ:Obj:=.cells #[.nilFunc,.nilFunc,.nilFunc,.nilFunc,.nilFunc,.nilFunc] 64
theorem ygk:(Tryz.prog.info? 64).map (·.size)=some 6:=by kernel_rfl
theorem out_no(b:Nat)(w:World):Calls Tryz.prog 22 #[pt b] w fun e w'=>e= .returned (.agg (rdL w.heap.size b).toArray)∧w'.heap[w.heap.size]?=some (.cells #[pt b] 57)∧Below w.heap.size w w':=by
 have h0:=heap_alloc_new w (.cells #[pt b] 57);have hz:((w.alloc (.cells #[pt b] 57)).alloc rdgZ).heap[w.heap.size+1]?=some rdgZ:=by have:=heap_alloc_new (w.alloc (.cells #[pt b] 57)) rdgZ;simpa using this
 have h1:((w.alloc (.cells #[pt b] 57)).alloc rdgZ).heap[w.heap.size]?=some (.cells #[pt b] 57):=by rw[heap_alloc_old _ _ (by simp)];exact h0
 have HB0:Hid (Below w.heap.size w ((w.alloc (.cells #[pt b] 57)).alloc rdgZ)):=hid (chW (alW w _) (alW _ _));have c0:((w.alloc (.cells #[pt b] 57)).alloc rdgZ).cell? ⟨w.heap.size,0,none⟩=some (pt b):=by simp[World.cell?,h1]
 have hinf:=ygk;have hone:((rdL w.heap.size b).toArray.all (·.oneCell'))=true:=by simp[Value.oneCell']
 have H1:=hid h1;clear h1 h0;go_enter Tryz.func22,Tryz.ntmps22;go_wp2_with (first | (refine wpList_store_row rfl 64 _ _ rfl (w.heap.size+1) (rdL w.heap.size b).toArray rfl rfl _ _ hz hinf rfl hone ?_)|fail)
 refine bodyPost_ret (zxj rfl _ _ (w.heap.size+1) _ (rdL w.heap.size b).toArray _ _ rfl (setRow_heap _ _ _ _ _ _ hz) Tryz.underlying64 rfl hinf) rfl ?_;refine⟨rfl,?_,below_setRow HB0.out (by omega) _⟩;exact((below_setRow (Below.refl (w.heap.size+1) ((w.alloc (.cells #[pt b] 57)).alloc rdgZ)) (Nat.le_refl _) _).block w.heap.size (by omega)).trans H1.out
end EvN
end
section
open Go.RowKit Go.Sort
namespace EvA
open StrC EvF EvC TextR CodeM
open VerC (Vw)
theorem ygl:∀(x y:List UInt8),Op.bytesLess x y=false→Op.bytesLess y x=false→x=y
 | [],[],_,_=>rfl
 | [],_ :: _,h,_=>by simp[Op.bytesLess] at h
 | _ :: _,[],_,h=>by simp[Op.bytesLess] at h
 | a :: x,b :: y,h1,h2=>by
   unfold Op.bytesLess at h1 h2;by_cases hab:a=b
   · subst hab
     simp at h1 h2;rw[ygl x y h1 h2]
   · have:a.toNat≠b.toNat:=fun h=>hab (UInt8.toNat_inj.1 h)
     simp[hab,Ne.symm hab,UInt8.lt_iff_toNat_lt] at h1 h2;omega
theorem ygm:∀x:List UInt8,Op.bytesLess x x=false
 | []=>rfl
 | a :: x=>by unfold Op.bytesLess;simp[ygm x]
theorem ygn:∀(x y:List UInt8),Op.bytesLess x y=true→Op.bytesLess y x=false
 | [],[],h=>by simp[Op.bytesLess] at h
 | [],_ :: _,_=>by simp[Op.bytesLess]
 | _ :: _,[],h=>by simp[Op.bytesLess] at h
 | a :: x,b :: y,h=>by
   unfold Op.bytesLess at h ⊢;by_cases hab:a=b
   · subst hab
     simp at h ⊢;exact ygn x y h
   · simp[hab,Ne.symm hab,UInt8.lt_iff_toNat_lt] at h ⊢
     omega
theorem le_notL(a b:List UInt8):(Op.bytesLess a b || a == b)= !Op.bytesLess b a:=by
 cases h1:Op.bytesLess a b with
 | true=>rw[ygn a b h1];rfl
 | false=>
   cases h2:Op.bytesLess b a with
   | true=>
     have:¬a=b:=fun e=>by rw[e,ygm] at h2;cases h2
     simp[this]
   | false=>rw[ygl a b h1 h2];simp
theorem lt_no{b:B}(h:NameM.isN b=true):ltB [] b=true:=by
 unfold ltB;rw[ByteArray.toList_eq,ByteArray.toList_eq,zbp,zbp];cases b with
 | nil=>rw[ydq] at h;cases h
 | cons c r=>rfl
def lastN(L:List (B×B))(j:Nat):B:=if j=0 then [] else (L.getD (j-1) ([],[])).1
theorem ygo(L:List (B×B))(j:Nat):okN L j=(ltB (lastN L j) (L.getD j ([],[])).1 && (NameM.isN (L.getD j ([],[])).1 && zzf (L.getD j ([],[])).2)):=by
 unfold okN lastN;by_cases hj:j=0
 · subst hj
   simp only[decide_true,Bool.true_or,Bool.and_true,if_true];cases h:NameM.isN (L.getD 0 ([],[])).1 with
   | false=>simp
   | true=>rw[lt_no h];rfl
 · rw[if_neg hj]
   simp only[hj,decide_false,Bool.false_or];cases NameM.isN (L.getD j ([],[])).1<;>cases zzf (L.getD j ([],[])).2<;>simp
theorem ygp(L:List (B×B))(j:Nat):lastN L (j+1)=(L.getD j ([],[])).1:=by unfold lastN;rw[if_neg (by omega)];rfl
theorem ygq{w:World}{p:Nat}{a b:B}(h:w.heap[p]?=some (.cells #[.string (str a),.string (str b)] 81)):w.cell? ⟨p,0,none⟩=some (.string (str a))∧w.cell? ⟨p,1,none⟩=some (.string (str b)):=by
 constructor<;>simp[World.cell?,h]
set_option maxRecDepth 100000 in
theorem ygr(a:Option Addr)(c:Nat)(L:List (B×B))(w:World)(hN:NeIn w a c L)(hv:Vw w):Calls Tryz.prog 103 #[.slice a L.length c] w fun r w'=>r= .returned (.bool (zzg L))∧Below w.heap.size w w':=by
 by_cases hm:L.length≤64
 case neg=>
  have hd:decide (64<L.length)=true:=decide_eq_true (by omega);have hd2:decide ((64:Int)<(L.length:Int))=true:=decide_eq_true (by omega);have HR:Hid (zzg L=false):=hid (by unfold zzg;rw[decide_eq_false hm,Bool.false_and]);clear hN hm;go_enter Tryz.func103,Tryz.ntmps103;go_wp2_with fail;go_ret;exact⟨by rw[HR.out];rfl,Below.refl _ _⟩
 case pos=>
  have hd:decide (64<L.length)=false:=decide_eq_false (by omega);have hd2:decide ((64:Int)<(L.length:Int))=false:=decide_eq_false (by omega);have HN:=hid hN;have HV:=hid hv;have HM:=hid hm;clear hN hv;go_enter Tryz.func103,Tryz.ntmps103;go_wp2_with fail;go_loopw [3,5,11] (fun vl _ i wr=>∃(j:Nat) (last:B),i= .int .i64 j∧vl= .string (str last)∧j≤L.length∧Hid (last=lastN L j)∧Hid ((List.range j).all (okN L)=true)∧Hid (Below w.heap.size w wr)) (fun _ _ i _=>L.length-(intOf i).toNat)
  case atStart=>exact⟨0,[],rfl,rfl,Nat.zero_le _,hid rfl,hid rfl,hid (Below.refl _ _)⟩
  case round=>
   obtain⟨j,last,rfl,rfl,hj,HLA,HA,HI⟩:=hrel;rename World=>wr
   by_cases hlt:j<L.length
   · have hdec:decide (j<L.length)=true:=by simpa using hlt
     obtain⟨g,o,rfl,hk⟩:=(HN.out.gr HI.out).at2 j hlt;obtain⟨k0,k1⟩:=hk j hlt;have HSH:Hid ((L.getD j ([],[])).1.length≤140737488351232∧(L.getD j ([],[])).2.length≤140737488351232):=hid (HN.out.short _ (by simp[hlt]));have HRN:Hid (okN L j=false→zzg L=false):=hid (zzi hlt);have HRX:Hid (okN L j=true→(List.range (j+1)).all (okN L)=true):=hid (zzh HA.out);have HOK:Hid (okN L j=(ltB last (L.getD j ([],[])).1 && (NameM.isN (L.getD j ([],[])).1 && zzf (L.getD j ([],[])).2))):=hid (by rw[HLA.out];exact ygo L j);have HLN:=hid (ygp L j);generalize hn1:(L.getD j ([],[])).1=n1 at*;generalize hs1:(L.getD j ([],[])).2=s1 at*;generalize okN L j=okj at*;have HBA:Hid (Below w.heap.size w (wr.alloc (.cells #[.string (str n1),.string (str s1)] 81))):=hid (HI.out.trans ((alW wr _).mono HI.out.size));have HPB:Hid (∀W,Below (wr.alloc (.cells #[.string (str n1),.string (str s1)] 81)).heap.size (wr.alloc (.cells #[.string (str n1),.string (str s1)] 81)) W→W.heap[wr.heap.size]?=some (.cells #[.string (str n1),.string (str s1)] 81)):=hid (fun W h=>(h.block _ (by simp)).trans (heap_alloc_new wr _));obtain⟨q0,q1⟩:=ygq (HPB.out _ (Below.refl _ _));have hlb:(Op.bytesLess (str n1).toList (str last).toList || (str n1).toList == (str last).toList)= !ltB last n1:=le_notL _ _;have HNI:=hid (NameC.ydd n1 (wr.alloc (.cells #[.string (str n1),.string (str s1)] 81)) (by have:=HSH.out.1;omega));have HSI:Hid (∀W,Below w.heap.size w W→Calls Tryz.prog 141 #[.string (str s1)] W fun r w'=>r= .returned (.bool (zzf s1))∧Below W.heap.size W w'):=hid (fun W h=>SpanC.pIs_any s1 W (HV.out.gr h) (by have:=HSH.out.2;omega));generalize ltB last n1=b1 at*;generalize NameM.isN n1=b2 at*;generalize zzf s1=b3 at*;clear hn1 hs1 hk HA HLA;have HSH2:=HSH;clear HSH;rcases (Bool.eq_false_or_eq_true b1).symm with rfl|rfl
     · have HR:=hid (HRN.out (by rw[HOK.out];rfl))
       go_wp2_with fail;go_ret;exact⟨by rw[HR.out];rfl,HBA.out⟩
     rcases (Bool.eq_false_or_eq_true b2).symm with rfl|rfl
     · have HR:=hid (HRN.out (by rw[HOK.out];rfl))
       go_wp2_with (first | (go_at_call 101;refine HNI.out.mono ?_;rintro r w1 ⟨rfl,hb1⟩;have HB1:=hid (HBA.out.trans (hb1.mono HBA.out.size));clear hb1)|fail)
       go_ret;exact⟨by rw[HR.out];rfl,HB1.out⟩
     rcases (Bool.eq_false_or_eq_true b3).symm with rfl|rfl
     · have HR:=hid (HRN.out (by rw[HOK.out];rfl))
       go_wp2_with (first | (go_at_call 101;refine HNI.out.mono ?_;rintro r w1 ⟨rfl,hb1⟩;have HB1:=hid (HBA.out.trans (hb1.mono HBA.out.size));obtain⟨q0,q1⟩:=ygq (HPB.out _ hb1);clear hb1) | (go_at_call 141;refine(HSI.out _ HB1.out).mono ?_;rintro r w2 ⟨rfl,hb2⟩;have HB2:=hid (HB1.out.trans (hb2.mono HB1.out.size));clear hb2)|fail)
       go_ret;exact⟨by rw[HR.out];rfl,HB2.out⟩
     have HX:=hid (HRX.out (by rw[HOK.out];rfl));go_wp2_with (first | (go_at_call 101;refine HNI.out.mono ?_;rintro r w1 ⟨rfl,hb1⟩;have HB1:=hid (HBA.out.trans (hb1.mono HBA.out.size));have HP1:=hid hb1;obtain⟨q0,q1⟩:=ygq (HPB.out _ hb1);clear hb1) | (go_at_call 141;refine(HSI.out _ HB1.out).mono ?_;rintro r w2 ⟨rfl,hb2⟩;have HB2:=hid (HB1.out.trans (hb2.mono HB1.out.size));obtain⟨p0,p1⟩:=ygq (HPB.out _ (HP1.out.trans (hb2.mono HP1.out.size)));clear hb2 q0 q1)|fail)
     go_roundw
     case rel=>exact⟨j+1,n1,by go_num,rfl,hlt,hid HLN.out.symm,HX,HB2⟩
     case measure=>simp[intOf];omega
   · have hdec:decide (j<L.length)=false:=by simpa using hlt
     have hje:j=L.length:=by omega
     have HR:Hid (zzg L=true):=hid (by unfold zzg;rw[decide_eq_true HM.out,←hje,HA.out];rfl);go_wp2_with fail;go_ret;exact⟨by rw[HR.out];rfl,HI.out⟩
theorem ygs(e:EvG)(w:World)(hN:NeIn w e.na e.nc e.needs)(hv:Vw w):FitN e (zzg e.needs) w:=fun W h=>ygr e.na e.nc e.needs W (hN.gr h) (hv.gr h)
end EvA
end
section
open Go.RowKit Go.Sort
namespace EvA
open StrC EvF EvC TextR CodeM CodeC
def wordsL:List B:=[[],[97,99,99,111,117,110,116],[112,117,98,108,105,115,104],[121,97,110,107],[117,110,121,97,110,107],[100,101,112,114,101,99,97,116,101],[111,119,110],[100,105,115,111,119,110],[116,101,97,109],[106,111,105,110],[108,101,97,118,101]]
end EvA
end
end Go.Proofs.YtbninnkpjdofbaaGreatDoor
section
namespace Go.Proofs
open Go.Shelf
end Go.Proofs
end
namespace Go.Proofs.YtbninnkpjdofbaaGreatDoor
open Go.Lib (hid)
end Go.Proofs.YtbninnkpjdofbaaGreatDoor
