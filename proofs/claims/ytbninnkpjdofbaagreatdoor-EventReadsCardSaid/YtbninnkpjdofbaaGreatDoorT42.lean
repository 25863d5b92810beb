/-
  What the proof of EventReads stands on, part 42.
-/
import Derived.Test.YtbninnkpjdofbaaGreatDoorT25
set_option linter.unusedSimpArgs false
set_option linter.unusedVariables false
set_option maxHeartbeats 16000000
namespace Go.Proofs.YtbninnkpjdofbaaGreatDoor
open Go.Lib (hid)
section
open Go.RowKit
namespace EvC
open EvA StrC AppC
set_option maxRecDepth 100000 in
theorem yiy(a b:EvG)(w:World)(ha:NeIn w a.na a.nc a.needs)(hb:NeIn w b.na b.nc b.needs):
 Calls Tryz.prog 9 #[evV a,evV b] w fun e w'=>e= .returned (.bool (sameE a b))∧Below w.heap.size w w':=by
 have hb1:Below w.heap.size w (w.alloc (evO a)):=(Below.refl _ w).alloc (Nat.le_refl _) _;have hb2:Below w.heap.size w ((w.alloc (evO a)).alloc (evO b)):=hb1.alloc hb1.size _;have H1:=hid (ha.gr hb2);have H2:=hid (hb.gr hb2);have HB:Hid (∀q,Below w.heap.size w (((w.alloc (evO a)).alloc (evO b)).drewN q)):=hid (fun q=>zvf hb2 q);have hn2:=heap_alloc_new (w.alloc (evO a)) (evO b);have hn1:=heap_alloc_old (w.alloc (evO a)) (evO b) (r:=w.heap.size) (by simp);rw[heap_alloc_new w (evO a)] at hn1;obtain⟨x0,x1,x2,x3,x4,x5,x6,x7,x8,x9⟩:=zvb hn1;obtain⟨y0,y1,y2,y3,y4,y5,y6,y7,y8,y9⟩:=zvb hn2;simp only[World.size_alloc] at y0 y1 y2 y3 y4 y5 y6 y7 y8 y9;clear ha hb hb1 hb2 hn1 hn2;by_cases h0:a.k=b.k
 rotate_left
 · have e0:((a.k:Int) == (b.k:Int))=false:=by rw[beq_eq_false_iff_ne];omega
   have n0:((a.k:Int) != (b.k:Int))=true:=by unfold bne;rw[e0];rfl
   have hs:sameE a b=false:=by unfold sameE;simp[h0]
   rw[hs];clear hs H1 H2 h0;go_enter Tryz.func9,Tryz.ntmps9;go_wp2_with fail;go_ret;exact⟨rfl,HB.out 0⟩
 by_cases h1:a.who=b.who
 rotate_left
 · have e0:((a.k:Int) == (b.k:Int))=true:=by rw[beq_iff_eq];omega
   have n0:((a.k:Int) != (b.k:Int))=false:=by unfold bne;rw[e0];rfl
   have e1:((str a.who).toList == (str b.who).toList)=false:=by rw[zbs];simpa using h1
   have n1:((str a.who).toList != (str b.who).toList)=true:=by unfold bne;rw[e1];rfl
   have hs:sameE a b=false:=by unfold sameE;simp[h1]
   rw[hs];clear hs H1 H2 h0 h1;go_enter Tryz.func9,Tryz.ntmps9;go_wp2_with fail;go_ret;exact⟨rfl,HB.out 0⟩
 by_cases h2:a.name=b.name
 rotate_left
 · have e0:((a.k:Int) == (b.k:Int))=true:=by rw[beq_iff_eq];omega
   have n0:((a.k:Int) != (b.k:Int))=false:=by unfold bne;rw[e0];rfl
   have e1:((str a.who).toList == (str b.who).toList)=true:=by rw[zbs];simpa using h1
   have n1:((str a.who).toList != (str b.who).toList)=false:=by unfold bne;rw[e1];rfl
   have e2:((str a.name).toList == (str b.name).toList)=false:=by rw[zbs];simpa using h2
   have n2:((str a.name).toList != (str b.name).toList)=true:=by unfold bne;rw[e2];rfl
   have hs:sameE a b=false:=by unfold sameE;simp[h2]
   rw[hs];clear hs H1 H2 h0 h1 h2;go_enter Tryz.func9,Tryz.ntmps9;go_wp2_with fail;go_ret;exact⟨rfl,HB.out 0⟩
 by_cases h3:a.ver=b.ver
 rotate_left
 · have e0:((a.k:Int) == (b.k:Int))=true:=by rw[beq_iff_eq];omega
   have n0:((a.k:Int) != (b.k:Int))=false:=by unfold bne;rw[e0];rfl
   have e1:((str a.who).toList == (str b.who).toList)=true:=by rw[zbs];simpa using h1
   have n1:((str a.who).toList != (str b.who).toList)=false:=by unfold bne;rw[e1];rfl
   have e2:((str a.name).toList == (str b.name).toList)=true:=by rw[zbs];simpa using h2
   have n2:((str a.name).toList != (str b.name).toList)=false:=by unfold bne;rw[e2];rfl
   have e3:((str a.ver).toList == (str b.ver).toList)=false:=by rw[zbs];simpa using h3
   have n3:((str a.ver).toList != (str b.ver).toList)=true:=by unfold bne;rw[e3];rfl
   have hs:sameE a b=false:=by unfold sameE;simp[h3]
   rw[hs];clear hs H1 H2 h0 h1 h2 h3;go_enter Tryz.func9,Tryz.ntmps9;go_wp2_with fail;go_ret;exact⟨rfl,HB.out 0⟩
 by_cases h5:a.sum=b.sum
 rotate_left
 · have e0:((a.k:Int) == (b.k:Int))=true:=by rw[beq_iff_eq];omega
   have n0:((a.k:Int) != (b.k:Int))=false:=by unfold bne;rw[e0];rfl
   have e1:((str a.who).toList == (str b.who).toList)=true:=by rw[zbs];simpa using h1
   have n1:((str a.who).toList != (str b.who).toList)=false:=by unfold bne;rw[e1];rfl
   have e2:((str a.name).toList == (str b.name).toList)=true:=by rw[zbs];simpa using h2
   have n2:((str a.name).toList != (str b.name).toList)=false:=by unfold bne;rw[e2];rfl
   have e3:((str a.ver).toList == (str b.ver).toList)=true:=by rw[zbs];simpa using h3
   have n3:((str a.ver).toList != (str b.ver).toList)=false:=by unfold bne;rw[e3];rfl
   have e5:((a.sum:Int) == (b.sum:Int))=false:=by rw[beq_eq_false_iff_ne];omega
   have n5:((a.sum:Int) != (b.sum:Int))=true:=by unfold bne;rw[e5];rfl
   have hs:sameE a b=false:=by unfold sameE;simp[h5]
   rw[hs];clear hs H1 H2 h0 h1 h2 h3 h5;go_enter Tryz.func9,Tryz.ntmps9;go_wp2_with fail;go_ret;exact⟨rfl,HB.out 0⟩
 by_cases h6:a.n=b.n
 rotate_left
 · have e0:((a.k:Int) == (b.k:Int))=true:=by rw[beq_iff_eq];omega
   have n0:((a.k:Int) != (b.k:Int))=false:=by unfold bne;rw[e0];rfl
   have e1:((str a.who).toList == (str b.who).toList)=true:=by rw[zbs];simpa using h1
   have n1:((str a.who).toList != (str b.who).toList)=false:=by unfold bne;rw[e1];rfl
   have e2:((str a.name).toList == (str b.name).toList)=true:=by rw[zbs];simpa using h2
   have n2:((str a.name).toList != (str b.name).toList)=false:=by unfold bne;rw[e2];rfl
   have e3:((str a.ver).toList == (str b.ver).toList)=true:=by rw[zbs];simpa using h3
   have n3:((str a.ver).toList != (str b.ver).toList)=false:=by unfold bne;rw[e3];rfl
   have e5:((a.sum:Int) == (b.sum:Int))=true:=by rw[beq_iff_eq];omega
   have n5:((a.sum:Int) != (b.sum:Int))=false:=by unfold bne;rw[e5];rfl
   have e6:((a.n:Int) == (b.n:Int))=false:=by rw[beq_eq_false_iff_ne];omega
   have n6:((a.n:Int) != (b.n:Int))=true:=by unfold bne;rw[e6];rfl
   have hs:sameE a b=false:=by unfold sameE;simp[h6]
   rw[hs];clear hs H1 H2 h0 h1 h2 h3 h5 h6;go_enter Tryz.func9,Tryz.ntmps9;go_wp2_with fail;go_ret;exact⟨rfl,HB.out 0⟩
 by_cases h7:a.size=b.size
 rotate_left
 · have e0:((a.k:Int) == (b.k:Int))=true:=by rw[beq_iff_eq];omega
   have n0:((a.k:Int) != (b.k:Int))=false:=by unfold bne;rw[e0];rfl
   have e1:((str a.who).toList == (str b.who).toList)=true:=by rw[zbs];simpa using h1
   have n1:((str a.who).toList != (str b.who).toList)=false:=by unfold bne;rw[e1];rfl
   have e2:((str a.name).toList == (str b.name).toList)=true:=by rw[zbs];simpa using h2
   have n2:((str a.name).toList != (str b.name).toList)=false:=by unfold bne;rw[e2];rfl
   have e3:((str a.ver).toList == (str b.ver).toList)=true:=by rw[zbs];simpa using h3
   have n3:((str a.ver).toList != (str b.ver).toList)=false:=by unfold bne;rw[e3];rfl
   have e5:((a.sum:Int) == (b.sum:Int))=true:=by rw[beq_iff_eq];omega
   have n5:((a.sum:Int) != (b.sum:Int))=false:=by unfold bne;rw[e5];rfl
   have e6:((a.n:Int) == (b.n:Int))=true:=by rw[beq_iff_eq];omega
   have n6:((a.n:Int) != (b.n:Int))=false:=by unfold bne;rw[e6];rfl
   have e7:((a.size:Int) == (b.size:Int))=false:=by rw[beq_eq_false_iff_ne];omega
   have n7:((a.size:Int) != (b.size:Int))=true:=by unfold bne;rw[e7];rfl
   have hs:sameE a b=false:=by unfold sameE;simp[h7]
   rw[hs];clear hs H1 H2 h0 h1 h2 h3 h5 h6 h7;go_enter Tryz.func9,Tryz.ntmps9;go_wp2_with fail;go_ret;exact⟨rfl,HB.out 0⟩
 by_cases h8:a.holder=b.holder
 rotate_left
 · have e0:((a.k:Int) == (b.k:Int))=true:=by rw[beq_iff_eq];omega
   have n0:((a.k:Int) != (b.k:Int))=false:=by unfold bne;rw[e0];rfl
   have e1:((str a.who).toList == (str b.who).toList)=true:=by rw[zbs];simpa using h1
   have n1:((str a.who).toList != (str b.who).toList)=false:=by unfold bne;rw[e1];rfl
   have e2:((str a.name).toList == (str b.name).toList)=true:=by rw[zbs];simpa using h2
   have n2:((str a.name).toList != (str b.name).toList)=false:=by unfold bne;rw[e2];rfl
   have e3:((str a.ver).toList == (str b.ver).toList)=true:=by rw[zbs];simpa using h3
   have n3:((str a.ver).toList != (str b.ver).toList)=false:=by unfold bne;rw[e3];rfl
   have e5:((a.sum:Int) == (b.sum:Int))=true:=by rw[beq_iff_eq];omega
   have n5:((a.sum:Int) != (b.sum:Int))=false:=by unfold bne;rw[e5];rfl
   have e6:((a.n:Int) == (b.n:Int))=true:=by rw[beq_iff_eq];omega
   have n6:((a.n:Int) != (b.n:Int))=false:=by unfold bne;rw[e6];rfl
   have e7:((a.size:Int) == (b.size:Int))=true:=by rw[beq_iff_eq];omega
   have n7:((a.size:Int) != (b.size:Int))=false:=by unfold bne;rw[e7];rfl
   have e8:((str a.holder).toList == (str b.holder).toList)=false:=by rw[zbs];simpa using h8
   have n8:((str a.holder).toList != (str b.holder).toList)=true:=by unfold bne;rw[e8];rfl
   have hs:sameE a b=false:=by unfold sameE;simp[h8]
   rw[hs];clear hs H1 H2 h0 h1 h2 h3 h5 h6 h7 h8;go_enter Tryz.func9,Tryz.ntmps9;go_wp2_with fail;go_ret;exact⟨rfl,HB.out 0⟩
 by_cases h9:a.note=b.note
 rotate_left
 · have e0:((a.k:Int) == (b.k:Int))=true:=by rw[beq_iff_eq];omega
   have n0:((a.k:Int) != (b.k:Int))=false:=by unfold bne;rw[e0];rfl
   have e1:((str a.who).toList == (str b.who).toList)=true:=by rw[zbs];simpa using h1
   have n1:((str a.who).toList != (str b.who).toList)=false:=by unfold bne;rw[e1];rfl
   have e2:((str a.name).toList == (str b.name).toList)=true:=by rw[zbs];simpa using h2
   have n2:((str a.name).toList != (str b.name).toList)=false:=by unfold bne;rw[e2];rfl
   have e3:((str a.ver).toList == (str b.ver).toList)=true:=by rw[zbs];simpa using h3
   have n3:((str a.ver).toList != (str b.ver).toList)=false:=by unfold bne;rw[e3];rfl
   have e5:((a.sum:Int) == (b.sum:Int))=true:=by rw[beq_iff_eq];omega
   have n5:((a.sum:Int) != (b.sum:Int))=false:=by unfold bne;rw[e5];rfl
   have e6:((a.n:Int) == (b.n:Int))=true:=by rw[beq_iff_eq];omega
   have n6:((a.n:Int) != (b.n:Int))=false:=by unfold bne;rw[e6];rfl
   have e7:((a.size:Int) == (b.size:Int))=true:=by rw[beq_iff_eq];omega
   have n7:((a.size:Int) != (b.size:Int))=false:=by unfold bne;rw[e7];rfl
   have e8:((str a.holder).toList == (str b.holder).toList)=true:=by rw[zbs];simpa using h8
   have n8:((str a.holder).toList != (str b.holder).toList)=false:=by unfold bne;rw[e8];rfl
   have e9:((str a.note).toList == (str b.note).toList)=false:=by rw[zbs];simpa using h9
   have n9:((str a.note).toList != (str b.note).toList)=true:=by unfold bne;rw[e9];rfl
   have hs:sameE a b=false:=by unfold sameE;simp[h9]
   rw[hs];clear hs H1 H2 h0 h1 h2 h3 h5 h6 h7 h8 h9;go_enter Tryz.func9,Tryz.ntmps9;go_wp2_with fail;go_ret;exact⟨rfl,HB.out 0⟩
 have e0:((a.k:Int) == (b.k:Int))=true:=by rw[beq_iff_eq];omega
 have n0:((a.k:Int) != (b.k:Int))=false:=by unfold bne;rw[e0];rfl
 have e1:((str a.who).toList == (str b.who).toList)=true:=by rw[zbs];simpa using h1
 have n1:((str a.who).toList != (str b.who).toList)=false:=by unfold bne;rw[e1];rfl
 have e2:((str a.name).toList == (str b.name).toList)=true:=by rw[zbs];simpa using h2
 have n2:((str a.name).toList != (str b.name).toList)=false:=by unfold bne;rw[e2];rfl
 have e3:((str a.ver).toList == (str b.ver).toList)=true:=by rw[zbs];simpa using h3
 have n3:((str a.ver).toList != (str b.ver).toList)=false:=by unfold bne;rw[e3];rfl
 have e5:((a.sum:Int) == (b.sum:Int))=true:=by rw[beq_iff_eq];omega
 have n5:((a.sum:Int) != (b.sum:Int))=false:=by unfold bne;rw[e5];rfl
 have e6:((a.n:Int) == (b.n:Int))=true:=by rw[beq_iff_eq];omega
 have n6:((a.n:Int) != (b.n:Int))=false:=by unfold bne;rw[e6];rfl
 have e7:((a.size:Int) == (b.size:Int))=true:=by rw[beq_iff_eq];omega
 have n7:((a.size:Int) != (b.size:Int))=false:=by unfold bne;rw[e7];rfl
 have e8:((str a.holder).toList == (str b.holder).toList)=true:=by rw[zbs];simpa using h8
 have n8:((str a.holder).toList != (str b.holder).toList)=false:=by unfold bne;rw[e8];rfl
 have e9:((str a.note).toList == (str b.note).toList)=true:=by rw[zbs];simpa using h9
 have n9:((str a.note).toList != (str b.note).toList)=false:=by unfold bne;rw[e9];rfl
 have hsame:sameE a b=decide (a.needs=b.needs):=by unfold sameE;simp[h0,h1,h2,h3,h5,h6,h7,h8,h9]
 rw[hsame];clear hsame h0 h1 h2 h3 h5 h6 h7 h8 h9;have hfew:=H1.out.few;have HLM:Hid (a.needs.length≤4398046510976):=hid (by omega);clear hfew;by_cases hl:a.needs.length=b.needs.length
 rotate_left
 · have tne:((a.needs.length:Int) != (b.needs.length:Int))=true:=by rw[bne_iff_ne];omega
   have hd:decide (a.needs=b.needs)=false:=decide_eq_false (fun e=>hl (by rw[e]));rw[hd];clear hl hd H1 H2;go_enter Tryz.func9,Tryz.ntmps9;go_wp2_with fail;go_ret;exact⟨rfl,HB.out 0⟩
 have tne:((a.needs.length:Int) != (b.needs.length:Int))=false:=by rw[bne_eq_false_iff_eq];omega
 have HL:=hid hl;clear hl;go_enter Tryz.func9,Tryz.ntmps9;go_wp2_with fail;clear tne x0 x1 x2 x3 x5 x6 x7 x8 x9 y0 y1 y2 y3 y5 y6 y7 y8 y9 e0 n0 e1 n1 e2 n2 e3 n3 e5 n5 e6 n6 e7 n7 e8 n8 e9 n9;generalize (w.alloc (evO a)).alloc (evO b)=w2 at*;go_loopw [5] (fun vi wr=>∃i q:Nat,i≤a.needs.length∧vi= .int .i64 i∧wr=w2.drewN q∧Hid (∀j,j<i→a.needs[j]?=b.needs[j]?)) (fun vi _=>a.needs.length-(intOf vi).toNat)
 case atStart=>exact⟨0,0,Nat.zero_le _,rfl,rfl,hid (fun j h=>absurd h (by omega))⟩
 case round=>
  obtain⟨i,q,hi,rfl,rfl,HS⟩:=hrel;by_cases hlt:i<a.needs.length
  · have hdec:decide (i<a.needs.length)=true:=by simpa using hlt
    have hgt:i<b.needs.length:=by have:=HL.out;omega
    have hdec2:decide (i<b.needs.length)=true:=by simpa using hgt
    obtain⟨g,o,x,-,hx,ea,z1,z2⟩:=H1.out.at i hlt;obtain⟨g',o',y,-,hy,eb,u1,u2⟩:=H2.out.at i hgt;rw[ea] at x4;rw[eb] at y4;clear ea eb;have es3:IntKind.i64.wrap (i:Int)=(i:Int):=IntWalk.i64_in _ ⟨by omega,by have:=HLM.out;omega⟩;have hib:i<4398046510976:=by have:=HLM.out;omega
    have n1':(0:Int)≤(i:Int):=by omega
    have n2':(i:Int)<(a.needs.length:Int):=by omega
    have n3':(i:Int)<(b.needs.length:Int):=by omega
    have hneq:=zvc x y
    have HSN:=hid (show x=y→∀j,j<i+1→a.needs[j]?=b.needs[j]? from fun e j hj=>by
     by_cases e2:j=i
     · subst e2;rw[hx,hy,e]
     · exact HS.out j (by omega))
    have HNO:=hid (show x≠y→decide (a.needs=b.needs)=false from fun e=>decide_eq_false (fun e2=>by
     rw[e2,hy] at hx;exact e (Option.some.inj hx).symm))
    clear hx hy;by_cases hs:x=y
    · have hdn:decide (x≠y)=false:=by simp[hs]
      rw[hdn] at hneq;have HNX:=hid (HSN.out hs);clear hs hdn;go_wp2_with fail;go_quiet (fail)
      go_wp2_with fail;go_roundw
      case rel=>exact⟨i+1,_,by omega,by go_num,rfl,HNX⟩
      case measure=>simp[intOf];omega
    · have hdn:decide (x≠y)=true:=by simp[hs]
      rw[hdn] at hneq;have HNX:=hid (HNO.out hs);clear hs hdn;go_wp2_with fail;go_quiet (fail)
      go_wp2_with fail;go_ret;rw[HNX.out,World.drewN_drewN];exact⟨rfl,HB.out _⟩
  · have hdec:decide (i<a.needs.length)=false:=by simpa using hlt
    have hdec2:decide (i<b.needs.length)=false:=by have:=HL.out;simp;omega
    have hsl:decide (a.needs=b.needs)=true:=decide_eq_true (zvd HL.out (fun j hj=>HS.out j (by omega)));have HSL:=hid hsl;clear hsl;go_wp2_with fail;go_ret;rw[HSL.out];exact⟨rfl,HB.out _⟩
end EvC
end
end Go.Proofs.YtbninnkpjdofbaaGreatDoor
