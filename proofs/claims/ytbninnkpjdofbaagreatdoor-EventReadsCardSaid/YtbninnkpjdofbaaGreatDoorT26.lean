/-
  What the proof of EventReads stands on, part 26.
-/
import Derived.Laws.BytesString
import Derived.Lib.CountLaws
import Derived.Lib.Replace
import Derived.Lib.SlBytesRow
import Derived.Test.YtbninnkpjdofbaaGreatDoorT19
import Derived.Test.YtbninnkpjdofbaaGreatDoorT25
set_option linter.unusedSimpArgs false
set_option linter.unusedVariables false
set_option maxHeartbeats 16000000
namespace Go.Proofs.YtbninnkpjdofbaaGreatDoor
open Go.Lib (hid)
section
namespace NameM
def letter(c:UInt8):Bool:=(decide (97≤c.toNat) && decide (c.toNat≤122)) || (decide (65≤c.toNat) && decide (c.toNat≤90)) || (decide (48≤c.toNat) && decide (c.toNat≤57))
def sign(c:UInt8):Bool:=decide (c.toNat=45) || decide (c.toNat=95) || decide (c.toNat=46)
def okB(c:UInt8):Bool:=letter c || sign c
def low(c:UInt8):UInt8:=if 65≤c.toNat∧c.toNat≤90 then c+32 else c
def step(s:List UInt8)(a:List UInt8×Bool)(c:UInt8):List UInt8×Bool:=
 if letter c then (a.1++(if a.2 then s else [])++ [low c],false) else (a.1,true)
def st(s l:List UInt8):List UInt8×Bool:=l.foldl (step s) ([],false)
def formD(s l:List UInt8):List UInt8:=(st s l).1
def may(l:List UInt8):Bool:=decide (1≤l.length) && decide (l.length≤64) && letter (l.getD 0 0) && letter (l.getD (l.length-1) 0) && l.all okB
def norm(l:List UInt8):List UInt8:=if may l then formD [45] l else []
def code(l:List UInt8):Int:=if may l then 0 else 60
def isN(l:List UInt8):Bool:=may l && decide (formD [45] l=l)
def words:List (List UInt8):=[[121,97,110,107,108,105,110,101],[114,101,103,105,115,116,114,121],[105,110,100,101,120],[108,111,103],[112,97,103,101],[98,108,111,98]]
def holdB(c:UInt8):Bool:=(decide (97≤c.toNat) && decide (c.toNat≤122)) || (decide (48≤c.toNat) && decide (c.toNat≤57))
def holder(l:List UInt8):Bool:=decide (1≤l.length) && decide (l.length≤64) && (decide (97≤(l.getD 0 0).toNat) && decide ((l.getD 0 0).toNat≤122)) && l.all holdB
theorem zyb{motive:List UInt8→Prop}(nil:motive [])(snoc:∀a c,motive a→motive (a++ [c]))(l:List UInt8):motive l:=by
 have h:∀n (l:List UInt8),l.length=n→motive l:=by
  intro n
  induction n with
  | zero=>intro l hl;rw[List.eq_nil_of_length_eq_zero hl];exact nil
  | succ n ih=>
    intro l hl;have hne:l≠[]:=by intro e;subst e;simp at hl
    have e:=List.dropLast_concat_getLast hne;rw[←e];exact snoc _ _ (ih _ (by simp[hl]))
 exact h _ l rfl
theorem zyc(s l:List UInt8)(k:Nat)(h:k<l.length):st s (l.take (k+1))=step s (st s (l.take k)) (l.getD k 0):=by
 unfold st;rw[List.take_add_one,List.foldl_append];simp[h]
theorem st_all(s l:List UInt8)(k:Nat)(h:l.length≤k):st s (l.take k)=st s l:=by rw[List.take_of_length_le h]
theorem zyd(s a:List UInt8)(c:UInt8):st s (a++ [c])=step s (st s a) c:=by unfold st;rw[List.foldl_append];rfl
theorem zye(c:UInt8):(low c).toNat=if 65≤c.toNat∧c.toNat≤90 then c.toNat+32 else c.toNat:=by
 unfold low
 split
 · rename_i h
   rw[UInt8.toNat_add]
   show (c.toNat+32) % 256=_;omega
 · rfl
theorem zyf{c:UInt8}(h:letter c=true):letter (low c)=true∧low (low c)=low c∧low c≠45:=by
 have hn:=zye c;have hl:letter c=true:=h;simp only[letter,Bool.or_eq_true,Bool.and_eq_true,decide_eq_true_eq] at h
 have h2:97≤(low c).toNat∧(low c).toNat≤122∨48≤(low c).toNat∧(low c).toNat≤57:=by
  rw[hn];split<;>omega
 refine⟨?_,?_,?_⟩
 · simp only[letter,Bool.or_eq_true,Bool.and_eq_true,decide_eq_true_eq];omega
 · apply UInt8.toNat_inj.1
   rw[zye (low c),if_neg (by omega)]
 · intro e;rw[e] at h2;revert h2;decide
theorem zyg(s l:List UInt8)(hs:s.length≤1):(st s l).1.length+(if (st s l).2 then 1 else 0)≤l.length:=by
 induction l using zyb with
 | nil=>simp[st]
 | snoc a c ih=>
   rw[zyd];unfold step
   split
   · simp only[List.length_append,List.length_cons,List.length_nil]
     by_cases h:(st s a).2=true
     · simp only[h,if_true] at ih ⊢;simp;omega
     · simp only[h] at ih ⊢;simp at ih ⊢;omega
   · simp only[List.length_append,List.length_cons,List.length_nil,if_true]
     have:(st s a).1.length≤a.length:=by omega
     omega
def prog(l:List UInt8):List UInt8:=(st [45] l).1++(if (st [45] l).2 then [45] else [])
theorem zyh{l:List UInt8}{c:UInt8}(h:letter c=true):prog (l++ [c])=prog l++ [low c]:=by
 unfold prog;rw[zyd];unfold step;rw[if_pos h];simp
theorem zyi{l:List UInt8}{c:UInt8}(h:letter c=false):prog (l++ [c])=if (st [45] l).2 then prog l else prog l++ [45]:=by
 unfold prog;rw[zyd];unfold step;rw[if_neg (by rw[h];decide)];by_cases e:(st [45] l).2=true
 · simp[e]
 · simp[e]
theorem zyj{l:List UInt8}(h:l≠[]):∃r c,prog l=r++ [c]∧(c=45↔(st [45] l).2=true):=by
 induction l using zyb with
 | nil=>exact absurd rfl h
 | snoc a c _=>
   by_cases hc:letter c=true
   · refine⟨prog a,low c,zyh hc,?_⟩
     rw[zyd];unfold step;rw[if_pos hc];simp[(zyf hc).2.2]
   · refine⟨(st [45] a).1,45,?_,?_⟩
     · unfold prog;rw[zyd];unfold step;rw[if_neg hc];simp
     · rw[zyd];unfold step;rw[if_neg hc];simp
theorem zyk{l:List UInt8}(h1:l≠[])(h2:letter (l.getD (l.length-1) 0)=true):prog l=formD [45] l:=by
 induction l using zyb with
 | nil=>exact absurd rfl h1
 | snoc a c _=>
   have hc:letter c=true:=by simpa using h2
   unfold prog formD;rw[zyd];unfold step;rw[if_pos hc];simp
theorem zyl(l:List UInt8):(prog l).length≤l.length:=by
 have:=zyg [45] l (by decide)
 unfold prog;by_cases e:(st [45] l).2=true
 · simp only[e,if_true] at this ⊢;simp;omega
 · simp only[e] at this ⊢;simp at this ⊢;omega
theorem zym(l:List UInt8)(k:Nat)(h:k<l.length):l.take (k+1)=l.take k++ [l.getD k 0]:=by
 rw[List.take_add_one];simp[h]
theorem zyn{c:UInt8}(h:sign c=true):letter c=false:=by
 simp only[sign,Bool.or_eq_true,decide_eq_true_eq] at h;simp only[letter,Bool.or_eq_false_iff,Bool.and_eq_false_iff,decide_eq_false_iff_not];omega
theorem zyo(s l:List UInt8)(h1:l≠[])(h:letter (l.getD 0 0)=true):(st s l).1≠[]∧(st s l).1.getD 0 0=low (l.getD 0 0):=by
 induction l using zyb with
 | nil=>exact absurd rfl h1
 | snoc a c ih=>
   rw[zyd];unfold step;by_cases ha:a=[]
   · subst ha
     have hc:letter c=true:=by simpa using h
     rw[if_pos hc];simp[st]
   · have hl:0<a.length:=List.length_pos_iff.2 ha
     have h0:(a++ [c]).getD 0 0=a.getD 0 0:=by simp[List.getD,hl]
     rw[h0] at h ⊢;obtain⟨i1,i2⟩:=ih ha h;have hp:0<(st s a).1.length:=List.length_pos_iff.2 i1
     split
     · refine⟨by simp,?_⟩
       rw[←i2,List.append_assoc];simp[List.getD,List.getElem?_append_left hp,hp]
     · exact⟨i1,i2⟩
theorem zyp{l:List UInt8}:may l=true↔(1≤l.length∧l.length≤64∧letter (l.getD 0 0)=true∧letter (l.getD (l.length-1) 0)=true∧l.all okB=true):=by
 unfold may;simp only[Bool.and_eq_true,decide_eq_true_eq]
 constructor
 · rintro⟨⟨⟨⟨a,b⟩,c⟩,d⟩,e⟩;exact⟨a,b,c,d,e⟩
 · rintro⟨a,b,c,d,e⟩;exact⟨⟨⟨⟨a,b⟩,c⟩,d⟩,e⟩
end NameM
end
section
open Go.RowKit Go.Sort
namespace EvA
open StrC EvF EvC TextR CodeM CodeC
theorem zyq(w:World)(l:List Value)(t:TypeId):∀j u,l[j]?=some u→(w.alloc (.cells l.toArray t)).cell? ((⟨w.heap.size,0,none⟩:Addr).add j)=some u:=by
 intro j u hu;rw[Go.WideShapes.add_plain,Nat.zero_add];simp only[World.cell?,heap_alloc_new]
 simpa using hu
end EvA
end
section
open Go.RowKit
namespace NameC
open NameM StrC
theorem zyr(c:UInt8)(w:World):
 Calls Tryz.prog 179 #[.int .u8 (c.toNat:Int)] w fun e w'=>e= .returned (.bool (letter c))∧w=w':=by
 have H:=hid (show letter c=((decide (97≤c.toNat) && decide (c.toNat≤122)) || (decide (65≤c.toNat) && decide (c.toNat≤90)) || (decide (48≤c.toNat) && decide (c.toNat≤57))) from rfl);generalize letter c=L at*;have hc:c.toNat<256:=c.toNat_lt;generalize c.toNat=n at*;go_enter Tryz.func179,Tryz.ntmps179;go_wp2
 all_goals go_ret
 all_goals (refine ⟨retB ?_,rfl⟩;rw[H.out,Bool.eq_iff_iff];simp only[Bool.or_eq_true,Bool.and_eq_true,decide_eq_true_eq,Bool.false_eq_true,true_iff,false_iff];omega)
theorem all_succ(p:UInt8→Bool)(l:List UInt8)(k:Nat)(h:k<l.length):(l.take (k+1)).all p=((l.take k).all p && p (l.getD k 0)):=by
 rw[List.take_add_one,List.all_append];simp[h]
theorem all_not(p:UInt8→Bool)(l:List UInt8)(k:Nat)(h:(l.take k).all p=false):l.all p=false:=by
 rw[←List.take_append_drop k l,List.all_append,h];rfl
theorem rmay_any(l:List UInt8)(w:World)(hl:l.length≤9223372036854775807):
 Calls Tryz.prog 145 #[.string (str l)] w fun e w'=>e= .returned (.bool (may l))∧w=w':=by
 have hs:=zbo l;rcases Nat.lt_or_ge l.length 1 with h1|h1
 · have H:=hid (show may l=false by unfold may;rw[decide_eq_false (by omega)];rfl)
   go_enter Tryz.func145,Tryz.ntmps145;go_wp2_with fail
   all_goals go_ret
   all_goals exact⟨retB H.out.symm,rfl⟩
 rcases Nat.lt_or_ge 64 l.length with h2|h2
 · have H:=hid (show may l=false by unfold may;rw[decide_eq_false (p:=l.length≤64) (by omega)];simp)
   go_enter Tryz.func145,Tryz.ntmps145;go_wp2_with fail
   all_goals go_ret
   all_goals exact⟨retB H.out.symm,rfl⟩
 have hx0:=zbr l 0 0 rfl (by omega);have hx1:=zbr l ((l.length:Int)-1) (l.length-1) (by omega) (by omega);have HX:=hid (fun a (h:a<l.length)=>zbr l a a rfl h);have HM:=hid (show may l=(letter (l.getD 0 0) && letter (l.getD (l.length-1) 0) && l.all okB) by unfold may;rw[decide_eq_true (by omega),decide_eq_true (p:=l.length≤64) (by omega)];rfl);have HS:=hid (all_succ okB l);have HA:=hid (show (l.take 0).all okB=true from rfl);have HE:=hid (show (l.take l.length).all okB=l.all okB by rw[List.take_length]);generalize l.getD 0 0=c0 at*;generalize l.getD (l.length-1) 0=c1 at*;have d1:decide ((l.length:Int)<1)=false:=decide_eq_false (by omega);have d2:decide (64<(l.length:Int))=false:=decide_eq_false (by omega);rcases Bool.eq_false_or_eq_true (letter c0) with hb0|hb0
 rotate_left
 · go_enter Tryz.func145,Tryz.ntmps145
   go_wp2_with (go_at_call 179;refine(zyr _ _).mono ?_;rintro e w' ⟨rfl,rfl⟩)
   all_goals go_ret
   all_goals exact⟨retB (by rw[HM.out,hb0];rfl),rfl⟩
 rcases Bool.eq_false_or_eq_true (letter c1) with hb1|hb1
 rotate_left
 · go_enter Tryz.func145,Tryz.ntmps145
   go_wp2_with (go_at_call 179;refine(zyr _ _).mono ?_;rintro e w' ⟨rfl,rfl⟩)
   all_goals go_ret
   all_goals exact⟨retB (by rw[HM.out,hb1];simp),rfl⟩
 rw[hb0,hb1,Bool.true_and,Bool.true_and] at HM;go_enter Tryz.func145,Tryz.ntmps145;go_wp2_with (go_at_call 179;refine(zyr _ _).mono ?_;rintro e w' ⟨rfl,rfl⟩)
 clear hx0 hx1 hb0 hb1;go_loop [3,4] (fun i _=>∃k:Nat,k≤l.length∧i= .int .i64 k∧(l.take k).all okB=true) (fun i _=>l.length-(intOf i).toNat)
 case atStart=>exact⟨0,Nat.zero_le _,rfl,HA.out⟩
 case round=>
  obtain⟨k,hk,rfl,ha⟩:=hrel;have HQ:=hid ha;clear ha;by_cases hlt:k<l.length
  · have hdec:decide (k<l.length)=true:=by simpa using hlt
    have hx:=HX.out k hlt;have hn:=hid (HS.out k hlt);generalize l.getD k 0=c at*;go_wp2_with (go_at_call 179;refine(zyr _ _).mono ?_;rintro e w' ⟨rfl,rfl⟩)
    all_goals (first
     | (go_ret;refine⟨retB ?_,rfl⟩;rw[HM.out];refine(all_not okB l (k+1) ?_).symm;rw[hn.out,HQ.out];simp only[bne_iff_ne,ne_eq] at *;simp only[okB,sign,Bool.true_and,Bool.or_eq_false_iff,decide_eq_false_iff_not];exact⟨by simpa using ‹¬ letter c=true›,by omega⟩)
     | (refine ⟨⟨k+1,by omega,by go_num,?_⟩,by simp[intOf];omega⟩;rw[hn.out,HQ.out];simp only[okB,sign,Bool.true_and,Bool.or_eq_true,decide_eq_true_eq];first | (left;assumption) | (right;omega) | (right;simp only[bne_eq_false_iff_eq] at *;omega)))
  · have hdec:decide (k<l.length)=false:=by simpa using hlt
    go_wp2
    go_ret;exact⟨retB (by rw[HM.out,←HE.out,show l.length=k from by omega,HQ.out]),rfl⟩
theorem st_pair(s l:List UInt8)(k:Nat)(h:k<l.length)(hc:letter (l.getD k 0)=true):(st s (l.take (k+1))).1=(st s (l.take k)).1++(if (st s (l.take k)).2 then s else [])++ [low (l.getD k 0)]∧(st s (l.take (k+1))).2=false:=by
 rw[zyc s l k h];unfold NameM.step;rw[if_pos hc];exact⟨rfl,rfl⟩
theorem zys(s l:List UInt8)(k:Nat)(h:k<l.length)(hc:letter (l.getD k 0)=false):(st s (l.take (k+1))).1=(st s (l.take k)).1∧(st s (l.take (k+1))).2=true:=by
 rw[zyc s l k h];unfold NameM.step;rw[if_neg (by rw[hc];decide)];exact⟨rfl,rfl⟩
theorem zyt(s l:List UInt8)(k:Nat)(hs:s.length≤1)(h:k≤l.length):(st s (l.take k)).1.length≤k:=by
 have:=zyg s (l.take k) hs
 rw[List.length_take] at this;omega
theorem zyu(c:UInt8):((low c).toNat:Int)=if 65≤c.toNat∧c.toNat≤90 then (c.toNat:Int)+32 else c.toNat:=by
 rw[zye];split<;>simp
set_option maxRecDepth 100000 in
theorem zyv(l s:List UInt8)(w:World)(hl:l.length≤64)(hs1:s.length≤1):
 Calls Tryz.prog 146 #[.string (str l),.string (str s)] w fun e w'=>e= .returned (.string (str (formD s l)))∧Below w.heap.size w w':=by
 have hs:=zbo l;have HX:=hid (fun a (h:a<l.length)=>zbr l a a rfl h);have HS:=hid (fun k h hc=>st_pair s l k h hc);have HS':=hid (fun k h hc=>zys s l k h hc);have HB:=hid (fun k h=>zyt s l k hs1 h);have HA:=hid (zbq);have HO:=hid (zbu);have HE:=hid (show formD s l=(st s (l.take l.length)).1 by rw[st_all s l _ (Nat.le_refl _)];rfl);have H0:=hid (show (st s (l.take 0))=([],false) from rfl);have HL:=hid hs1;clear hs1;go_enter Tryz.func146,Tryz.ntmps146;go_wp2_with fail;go_loopw [5,6,7,8] (fun o r i _ wr=>∃k:Nat,k≤l.length∧i= .int .i64 k∧o= .string (str (st s (l.take k)).1)∧r= .bool (st s (l.take k)).2∧Below w.heap.size w wr) (fun _ _ i _ _=>l.length-(intOf i).toNat)
 case atStart=>exact⟨0,Nat.zero_le _,rfl,by rw[H0.out];rfl,by rw[H0.out],Below.refl _ _⟩
 case round=>
  obtain⟨k,hk,rfl,rfl,rfl,hb⟩:=hrel;have hbl:=HB.out k hk;by_cases hlt:k<l.length
  · have hdec:decide (k<l.length)=true:=by simpa using hlt
    have hx:=HX.out k hlt;have HS1:=hid (HS.out k hlt);have HS2:=hid (HS'.out k hlt);generalize l.getD k 0=c at*;have HC:=hid (zyu c);have hc:c.toNat<256:=c.toNat_lt;rcases Bool.eq_false_or_eq_true (letter c) with hlet|hlet
    · obtain⟨e1,e2⟩:=HS1.out hlet
      have E1:=hid e1;have E2:=hid e2;clear e1 e2;have HB2:=hid hb;clear hb;generalize (st s (l.take k)).1=O at*
      have hcv:∀w:World,(if 65≤c.toNat∧c.toNat≤90 then (convert 171 9 (.slice (some ⟨w.heap.size,0,none⟩) 1 1)).run Tryz.prog (w.alloc (.cells #[.int .u8 ((c.toNat:Int)+32)] 5))= .ok (.string (str [low c])) (w.alloc (.cells #[.int .u8 ((c.toNat:Int)+32)] 5))
       else (convert 171 9 (.slice (some ⟨w.heap.size,0,none⟩) 1 1)).run Tryz.prog (w.alloc (.cells #[.int .u8 (c.toNat:Int)] 5))= .ok (.string (str [low c])) (w.alloc (.cells #[.int .u8 (c.toNat:Int)] 5))):=fun w=>by
       split
       · rename_i h;exact zbv _ (low c) (by rw[HC.out,if_pos h]) w
       · rename_i h;exact zbv _ (low c) (by rw[HC.out,if_neg h]) w
      rcases Bool.eq_false_or_eq_true (st s (l.take k)).2 with hr|hr
      · rw[hr] at E1 ⊢
        have hO1:(O++s).length≤k+1:=by rw[List.length_append];have:=HL.out;omega
        have ha1:=fun w=>zbq O s w (by rw[List.length_append] at hO1;omega)
        have ha2:=fun w=>zbq (O++s) [low c] w (by simp at hO1 ⊢;omega)
        by_cases hcap:65≤c.toNat∧c.toNat≤90
        · have hcw:=hcv wr
          rw[if_pos hcap] at hcw;clear hcv;go_wp2_with (go_at_call 179;refine(zyr _ _).mono ?_;rintro e w' ⟨rfl,rfl⟩)
          go_roundw
          case rel=>exact⟨k+1,by omega,by go_num,by rw[E1.out];simp,by rw[E2.out],HB2.out.alloc HB2.out.size _⟩
          case measure=>simp[intOf];omega
        · have hcw:=hcv wr
          rw[if_neg hcap] at hcw;clear hcv;go_wp2_with (go_at_call 179;refine(zyr _ _).mono ?_;rintro e w' ⟨rfl,rfl⟩)
          all_goals exact⟨⟨k+1,by omega,by go_num,by rw[E1.out];simp,by rw[E2.out],HB2.out.alloc HB2.out.size _⟩,by simp[intOf];omega⟩
      · rw[hr] at E1 ⊢
        have ha2:=fun w=>zbq O [low c] w (by simp;omega)
        by_cases hcap:65≤c.toNat∧c.toNat≤90
        · have hcw:=hcv wr
          rw[if_pos hcap] at hcw;clear hcv;go_wp2_with (go_at_call 179;refine(zyr _ _).mono ?_;rintro e w' ⟨rfl,rfl⟩)
          go_roundw
          case rel=>exact⟨k+1,by omega,by go_num,by rw[E1.out];simp,by rw[E2.out],HB2.out.alloc HB2.out.size _⟩
          case measure=>simp[intOf];omega
        · have hcw:=hcv wr
          rw[if_neg hcap] at hcw;clear hcv;go_wp2_with (go_at_call 179;refine(zyr _ _).mono ?_;rintro e w' ⟨rfl,rfl⟩)
          all_goals exact⟨⟨k+1,by omega,by go_num,by rw[E1.out];simp,by rw[E2.out],HB2.out.alloc HB2.out.size _⟩,by simp[intOf];omega⟩
    · obtain⟨e1,e2⟩:=HS2.out hlet
      have E1:=hid e1;have E2:=hid e2;clear e1 e2;have HB2:=hid hb;clear hb;generalize (st s (l.take k)).1=O at*;go_wp2_with (go_at_call 179;refine(zyr _ _).mono ?_;rintro e w' ⟨rfl,rfl⟩)
      go_roundw
      case rel=>exact⟨k+1,by omega,by go_num,by rw[E1.out],by rw[E2.out],HB2.out⟩
      case measure=>simp[intOf];omega
  · have hdec:decide (k<l.length)=false:=by simpa using hlt
    have HB2:=hid hb;clear hb;go_wp2
    go_ret;exact⟨by rw[HE.out,show l.length=k from by omega];rfl,HB2.out⟩
theorem may_len{l:List UInt8}(h:may l=true):l.length≤64:=(zyp.1 h).2.1
theorem zyw(l:List UInt8)(w:World)(hl:l.length≤9223372036854775807):
 Calls Tryz.prog 123 #[.string (str l)] w fun e w'=>e= .returned (.tuple #[.string (str (norm l)),.int .i64 (code l)])∧Below w.heap.size w w':=by
 have HM:=hid (rmay_any l w hl);rcases Bool.eq_false_or_eq_true (may l) with hm|hm
 · have H1:=hid (show norm l=formD [45] l by unfold norm;rw[if_pos hm])
   have H2:=hid (show code l=0 by unfold code;rw[if_pos hm]);have HF:=hid (zyv l [45] w (may_len hm) (by decide));go_enter Tryz.func123,Tryz.ntmps123
   go_wp2_with (first
    | (go_at_call 145;refine HM.out.mono ?_;rintro e w' ⟨rfl,rfl⟩)
    | (go_at_call 146;refine HF.out.mono ?_;rintro e w' ⟨rfl,hb⟩))
   go_ret2
   rw[H1.out,H2.out];exact⟨rfl,hb⟩
 · have H1:=hid (show norm l=[] by unfold norm;rw[if_neg (by rw[hm];decide)])
   have H2:=hid (show code l=60 by unfold code;rw[if_neg (by rw[hm];decide)]);go_enter Tryz.func123,Tryz.ntmps123;go_wp2_with (go_at_call 145;refine HM.out.mono ?_;rintro e w' ⟨rfl,rfl⟩)
   go_ret2
   rw[H1.out,H2.out];exact⟨rfl,Below.refl _ _⟩
theorem zyx(l:List UInt8)(w:World)(hl:l.length≤9223372036854775807):
 Calls Tryz.prog 75 #[.string (str l)] w fun e w'=>e= .returned (.bool (isN l))∧Below w.heap.size w w':=by
 have HN:=hid (zyw l w hl);rcases Bool.eq_false_or_eq_true (may l) with hm|hm
 · have hc:code l=0:=by unfold code;rw[if_pos hm]
   have H1:=hid (show isN l=decide (norm l=l) by unfold isN norm;rw[if_pos hm,hm,Bool.true_and]);rw[hc] at HN;clear hc;generalize norm l=n at*;go_enter Tryz.func75,Tryz.ntmps75;go_wp2_with (go_at_call 123;refine HN.out.mono ?_;rintro e w' ⟨rfl,hb⟩)
   go_ret;exact⟨retB (by rw[zbs,H1.out]),hb⟩
 · have hc:code l=60:=by unfold code;rw[if_neg (by rw[hm];decide)]
   have H1:=hid (show isN l=false by unfold isN;rw[hm];rfl);rw[hc] at HN;clear hc;go_enter Tryz.func75,Tryz.ntmps75;go_wp2_with (go_at_call 123;refine HN.out.mono ?_;rintro e w' ⟨rfl,hb⟩)
   all_goals go_ret
   all_goals exact⟨retB H1.out.symm,hb⟩
theorem zyy(l:List UInt8)(w:World)(hl:l.length≤9223372036854775807):
 Calls Tryz.prog 73 #[.string (str l)] w fun e w'=>e= .returned (.bool (holder l))∧w=w':=by
 have hs:=zbo l;rcases Nat.lt_or_ge l.length 1 with h1|h1
 · have H:=hid (show holder l=false by unfold holder;rw[decide_eq_false (by omega)];rfl)
   go_enter Tryz.func73,Tryz.ntmps73;go_wp2_with fail
   all_goals go_ret
   all_goals exact⟨retB H.out.symm,rfl⟩
 rcases Nat.lt_or_ge 64 l.length with h2|h2
 · have H:=hid (show holder l=false by unfold holder;rw[decide_eq_false (p:=l.length≤64) (by omega)];simp)
   go_enter Tryz.func73,Tryz.ntmps73;go_wp2_with fail
   all_goals go_ret
   all_goals exact⟨retB H.out.symm,rfl⟩
 have hx0:=zbr l 0 0 rfl (by omega);have HX:=hid (fun a (h:a<l.length)=>zbr l a a rfl h);have HM:=hid (show holder l=((decide (97≤(l.getD 0 0).toNat) && decide ((l.getD 0 0).toNat≤122)) && l.all holdB) by unfold holder;rw[decide_eq_true (by omega),decide_eq_true (p:=l.length≤64) (by omega)];rfl);have HS:=hid (all_succ holdB l);have HA:=hid (show (l.take 0).all holdB=true from rfl);have HE:=hid (show (l.take l.length).all holdB=l.all holdB by rw[List.take_length]);generalize l.getD 0 0=c0 at*;have d1:decide ((l.length:Int)<1)=false:=decide_eq_false (by omega);have d2:decide (64<(l.length:Int))=false:=decide_eq_false (by omega);have hc0:c0.toNat<256:=c0.toNat_lt;by_cases hb:97≤c0.toNat∧c0.toNat≤122
 rotate_left
 · have H:=hid (show holder l=false by rw[HM.out,Bool.and_eq_false_iff];left;rw[Bool.and_eq_false_iff,decide_eq_false_iff_not,decide_eq_false_iff_not];omega)
   go_enter Tryz.func73,Tryz.ntmps73;go_wp2_with fail
   all_goals go_ret
   all_goals exact⟨retB H.out.symm,rfl⟩
 have HM2:=hid (show holder l=l.all holdB by rw[HM.out,decide_eq_true hb.1,decide_eq_true hb.2];rfl);obtain⟨hb1,hb2⟩:=hb;go_enter Tryz.func73,Tryz.ntmps73;go_wp2_with fail;clear hx0 hb1 hb2;go_loop [3] (fun i=>∃k:Nat,k≤l.length∧i= .int .i64 k∧(l.take k).all holdB=true) (fun i=>l.length-(intOf i).toNat)
 case atStart=>exact⟨0,Nat.zero_le _,rfl,HA.out⟩
 case round=>
  obtain⟨k,hk,rfl,ha⟩:=hrel;have HQ:=hid ha;clear ha;by_cases hlt:k<l.length
  · have hdec:decide (k<l.length)=true:=by simpa using hlt
    have hx:=HX.out k hlt;have hn:=hid (HS.out k hlt);generalize l.getD k 0=c at*;have hc:c.toNat<256:=c.toNat_lt;go_wp2_with fail
    all_goals (first
     | (go_ret;refine⟨retB ?_,rfl⟩;rw[HM2.out];refine(all_not holdB l (k+1) ?_).symm;rw[hn.out,HQ.out];simp only[holdB,Bool.true_and,Bool.or_eq_false_iff,Bool.and_eq_false_iff,decide_eq_false_iff_not];omega)
     | (refine ⟨⟨k+1,by omega,by go_num,?_⟩,by simp[intOf];omega⟩;rw[hn.out,HQ.out];simp only[holdB,Bool.true_and,Bool.or_eq_true,Bool.and_eq_true,decide_eq_true_eq];omega))
  · have hdec:decide (k<l.length)=false:=by simpa using hlt
    go_wp2
    go_ret;exact⟨retB (by rw[HM2.out,←HE.out,show l.length=k from by omega,HQ.out]),rfl⟩
end NameC
end
section
open Go.RowKit Go.Sort
namespace EvA
open StrC EvF TextR CodeM
def fldS(k:Nat):B:=match k with
 | 1=>[119,115]
 | 2=>[119,110,118,101,115,78,122]
 | 3=>[119,110,118]
 | 4=>[119,110,118]
 | 5=>[119,110,118,116]
 | 6=>[119,110,104]
 | 7=>[119,110,104]
 | 8=>[119,104]
 | 9=>[119,104,116]
 | 10=>[119,104,116]
 | _=>[]
theorem zyz{k:Nat}:k=1∨k=2∨k=3∨k=4∨k=5∨k=6∨k=7∨k=8∨k=9∨k=10∨(k=0∨11≤k):=by omega
theorem zza{k:Nat}(h:k=0∨11≤k):fldS k=[]:=by
 unfold fldS
 split<;>first|omega|rfl
theorem zzb(k:Nat)(w:World):Calls Tryz.prog 27 #[.int .u8 k] w fun e w'=>e= .returned (.string (str (fldS k)))∧w=w':=by
 rcases zyz (k:=k) with rfl|rfl|rfl|rfl|rfl|rfl|rfl|rfl|rfl|rfl|h
 case inr.inr.inr.inr.inr.inr.inr.inr.inr.inr=>
  rw[zza h];have h1:¬k=1:=by omega
  have h2:¬k=2:=by omega
  have h3:¬k=3:=by omega
  have h4:¬k=4:=by omega
  have h5:¬k=5:=by omega
  have h6:¬k=6:=by omega
  have h7:¬k=7:=by omega
  have h8:¬k=8:=by omega
  have h9:¬k=9:=by omega
  have h10:¬k=10:=by omega
  clear h;go_enter Tryz.func27,Tryz.ntmps27;go_wp2_with fail
  all_goals go_ret
  all_goals exact⟨rfl,rfl⟩
 all_goals (go_enter Tryz.func27,Tryz.ntmps27)
 all_goals go_wp2_with fail
 all_goals go_ret
 all_goals exact⟨rfl,rfl⟩
theorem zzc{l:B}{j:Nat}{c:UInt8}(hj:j<l.length):(l.take (j+1)).contains c=((l.take j).contains c || (l.getD j 0 == c)):=by
 have e:l.getD j 0=l[j]:=by simp[hj]
 rw[e,List.take_add_one,List.getElem?_eq_getElem hj,Bool.eq_iff_iff,Bool.or_eq_true,List.contains_iff_mem,List.contains_iff_mem,List.mem_append,beq_iff_eq,Option.toList_some,List.mem_singleton]
 constructor<;>(rintro (h|h))<;>first|exact Or.inl h|exact Or.inr h.symm
theorem zzd(k:Nat):(fldS k).length≤7:=by
 unfold fldS
 split<;>decide
theorem zze(k:Nat)(c:UInt8)(w:World):Calls Tryz.prog 74 #[.int .u8 k,.int .u8 c.toNat] w fun e w'=>e= .returned (.bool ((fldS k).contains c))∧w=w':=by
 have HF:=hid (zzb k w);have hl:=zzd k;generalize fldS k=l at*;have hsz:=zbo l;obtain⟨r0,hr0⟩:∃r0,l.contains c=r0:=⟨_,rfl⟩;have HR0:=hid hr0;rw[hr0];clear hr0;go_enter Tryz.func74,Tryz.ntmps74;go_wp2_with fail;refine HF.out.mono ?_;rintro e w' ⟨rfl,rfl⟩;go_wp2_with fail;go_loop [6] (fun i=>∃j:Nat,i= .int .i64 j∧j≤l.length∧Hid ((l.take j).contains c=false)) (fun i=>l.length-(intOf i).toNat)
 case atStart=>exact⟨0,rfl,Nat.zero_le _,hid (by simp)⟩
 case round=>
  obtain⟨j,rfl,hj,HA⟩:=hrel;by_cases hlt:j<l.length
  · have hdec:decide (j<l.length)=true:=by simpa using hlt
    have HT:=hid (zzc (c:=c) hlt);have hidx:=zbr l (j:Int) j rfl hlt;by_cases hc:l.getD j 0=c
    · have HR:Hid (r0=true):=hid (by rw[←HR0.out,←hc,List.contains_iff_mem];simp[hlt])
      rw[hc] at hidx;go_wp2_with fail;go_ret;exact⟨by rw[HR.out];rfl,rfl⟩
    · have hne:¬(l.getD j 0).toNat=c.toNat:=fun h=>hc (UInt8.toNat_inj.1 h)
      have HR:Hid ((l.take (j+1)).contains c=false):=hid (by rw[HT.out,HA.out];simpa using hc);generalize (l.getD j 0).toNat=x at*;clear hc HT;go_wp2_with fail;go_round
      case rel=>exact⟨j+1,by go_num,by omega,HR⟩
      case measure=>simp[intOf];omega
  · have hdec:decide (j<l.length)=false:=by simpa using hlt
    have HR:Hid (r0=false):=hid (by have h:=HA.out;rw[List.take_of_length_le (by omega)] at h;rw[←HR0.out,h]);go_wp2_with fail;go_ret;exact⟨by rw[HR.out];rfl,rfl⟩
def ltB(a b:B):Bool:=Op.bytesLess (str a).toList (str b).toList
def zzf(s:B):Bool:=decide (SpanC.formO s=some s)
def okN(L:List (B×B))(j:Nat):Bool:=NameM.isN (L.getD j ([],[])).1 && (zzf (L.getD j ([],[])).2 && (decide (j=0) || ltB (L.getD (j-1) ([],[])).1 (L.getD j ([],[])).1))
def zzg(L:List (B×B)):Bool:=decide (L.length≤64) && (List.range L.length).all (okN L)
theorem zzh{L:List (B×B)}{j:Nat}(h:(List.range j).all (okN L)=true)(hj:okN L j=true):(List.range (j+1)).all (okN L)=true:=by
 rw[List.range_succ,List.all_append,h];simp[hj]
theorem zzi{L:List (B×B)}{j:Nat}(hj:j<L.length)(h:okN L j=false):zzg L=false:=by
 unfold zzg
 have:(List.range L.length).all (okN L)=false:=by
  rw[List.all_eq_false];exact⟨j,by simpa using hj,by simp[h]⟩
 rw[this,Bool.and_false]
theorem NeIn.at2{w:World}{a:Option Addr}{c:Nat}{L:List (B×B)}(h:NeIn w a c L)(i:Nat)(hi:i<L.length):∃(g o:Nat),a=some ⟨g,o,none⟩∧∀j,j<L.length→
 w.cell? ⟨g,o+j*2,none⟩=some (.string (str (L.getD j ([],[])).1))∧w.cell? ⟨g,o+j*2+1,none⟩=some (.string (str (L.getD j ([],[])).2)):=by
 obtain⟨g,o,rfl,key⟩:=h.cells (by omega);refine⟨g,o,rfl,fun j hj=>?_⟩;have k:=key j hj;have e:L[j]! =L.getD j ([],[]):=by rw[getElem!_pos L j hj];simp[hj]
 rw[e] at k;exact⟨k 0 (by omega),k 1 (by omega)⟩
set_option maxRecDepth 100000 in
theorem zzj(a:Option Addr)(c:Nat)(L:List (B×B))(w:World)(hN:NeIn w a c L):Calls Tryz.prog 77 #[.slice a L.length c] w fun e w'=>e= .returned (.bool (zzg L))∧Below w.heap.size w w':=by
 by_cases hm:L.length≤64
 case neg=>
  have hd:decide (64<L.length)=true:=decide_eq_true (by omega);have hd2:decide ((64:Int)<(L.length:Int))=true:=decide_eq_true (by omega);have HR:Hid (zzg L=false):=hid (by unfold zzg;rw[decide_eq_false hm,Bool.false_and]);clear hN hm;go_enter Tryz.func77,Tryz.ntmps77;go_wp2_with fail;go_ret;exact⟨by rw[HR.out];rfl,Below.refl _ _⟩
 case pos=>
  have hd:decide (64<L.length)=false:=decide_eq_false (by omega);have hd2:decide ((64:Int)<(L.length:Int))=false:=decide_eq_false (by omega);have HN:=hid hN;have HM:=hid hm;clear hN;go_enter Tryz.func77,Tryz.ntmps77;go_wp2_with fail;go_loopw [3] (fun i wr=>∃j:Nat,i= .int .i64 j∧j≤L.length∧Hid ((List.range j).all (okN L)=true)∧Hid (Below w.heap.size w wr)) (fun i _=>L.length-(intOf i).toNat)
  case atStart=>exact⟨0,rfl,Nat.zero_le _,hid rfl,hid (Below.refl _ _)⟩
  case round=>
   obtain⟨j,rfl,hj,HA,HI⟩:=hrel;rename World=>wr
   by_cases hlt:j<L.length
   · have hdec:decide (j<L.length)=true:=by simpa using hlt
     obtain⟨g,o,rfl,hk⟩:=(HN.out.gr HI.out).at2 j hlt;obtain⟨k0,k1⟩:=hk j hlt;have HSH:Hid ((L.getD j ([],[])).1.length≤140737488351232∧(L.getD j ([],[])).2.length≤140737488351232):=hid (HN.out.short _ (by simp[hlt]));have HRN:Hid (okN L j=false→zzg L=false):=hid (zzi hlt);have HRX:Hid (okN L j=true→(List.range (j+1)).all (okN L)=true):=hid (zzh HA.out);have HOK:Hid (okN L j=(NameM.isN (L.getD j ([],[])).1 && (zzf (L.getD j ([],[])).2 && (decide (j=0) || ltB (L.getD (j-1) ([],[])).1 (L.getD j ([],[])).1)))):=hid rfl;have HNI:=hid (fun W=>NameC.zyx (L.getD j ([],[])).1 W (Nat.le_trans HSH.out.1 (by decide)));have HSI:Hid (∀W,Calls Tryz.prog 125 #[.string (str (L.getD j ([],[])).2)] W fun e w'=>e= .returned (.bool (zzf (L.getD j ([],[])).2))∧Below W.heap.size W w'):=hid (fun W=>SpanC.ztf (L.getD j ([],[])).2 W (Nat.le_trans HSH.out.2 (by decide)));obtain⟨n1,hn1⟩:∃n1,(L.getD j ([],[])).1=n1:=⟨_,rfl⟩;obtain⟨s1,hs1⟩:∃s1,(L.getD j ([],[])).2=s1:=⟨_,rfl⟩;obtain⟨m1,hm1⟩:∃m1,(L.getD (j-1) ([],[])).1=m1:=⟨_,rfl⟩;have HPR:Hid (0<j→wr.cell? ⟨g,o+(j-1)*2,none⟩=some (.string (str m1))):=hid (fun h=>by rw[←hm1];exact(hk (j-1) (by omega)).1);rw[hn1,hs1,hm1] at HOK;rw[hn1] at HNI k0;rw[hs1] at HSI k1;clear hk hn1 hs1 hm1 HSH;generalize okN L j=okj at*;generalize NameM.isN n1=bn at*;generalize zzf s1=bs at*;go_upto_region 6 with fail
     have cI:∀d os,Calls Tryz.prog 75 _ (Go.Sort.grow (redrawn wr d) os) _:=fun d os=>Calls.regrown_of (HNI.out _)
     have cS:∀d os,Calls Tryz.prog 125 _ (Go.Sort.grow (redrawn wr d) os) _:=fun d os=>Calls.regrown_of (HSI.out _)
     have k0':=cell_regrown k0;have k1':=cell_regrown k1;clear k0 k1;rcases (Bool.eq_false_or_eq_true bn).symm with rfl|rfl
     · have HR:=hid (HRN.out (by rw[HOK.out];rfl))
       refine wp_region_quiet_below (by kernel_rfl) (by kernel_rfl) ?_
       repeat (go_big_quiet_step (first|exact cI _ _|exact cS _ _))
       refine wpQuiet_nil ?_;intro _ hw';obtain⟨⟨dq,osq⟩,hw''⟩:=hw';subst hw'';go_wp2_with fail;go_ret;exact⟨by rw[HR.out];rfl,HI.out.trans ((below_regrown wr dq osq).mono HI.out.size)⟩
     rcases (Bool.eq_false_or_eq_true bs).symm with rfl|rfl
     · have HR:=hid (HRN.out (by rw[HOK.out];rfl))
       refine wp_region_quiet_below (by kernel_rfl) (by kernel_rfl) ?_
       repeat (go_big_quiet_step (first|exact cI _ _|exact cS _ _))
       refine wpQuiet_nil ?_;intro _ hw';obtain⟨⟨dq,osq⟩,hw''⟩:=hw';subst hw'';go_wp2_with fail;go_ret;exact⟨by rw[HR.out];rfl,HI.out.trans ((below_regrown wr dq osq).mono HI.out.size)⟩
     rcases Nat.eq_zero_or_pos j with hj0|h0
     · have HX:=hid (HRX.out (by rw[HOK.out,hj0];rfl))
       have hgt:decide ((0:Int)<(j:Int))=false:=by simp[hj0]
       have hgt2:decide (0<j)=false:=by simp[hj0]
       clear hj0;refine wp_region_quiet_below (by kernel_rfl) (by kernel_rfl) ?_
       repeat (go_big_quiet_step (first|exact cI _ _|exact cS _ _))
       refine wpQuiet_nil ?_;intro _ hw';obtain⟨⟨dq,osq⟩,hw''⟩:=hw';subst hw'';go_wp2_with fail;go_roundw
       case rel=>exact⟨j+1,by go_num,hlt,HX,hid (HI.out.trans ((below_regrown wr dq osq).mono HI.out.size))⟩
       case measure=>simp[intOf];omega
     · obtain⟨i,rfl⟩:∃i,j=i+1:=⟨j-1,by omega⟩
       have m0:=HPR.out (by omega);rw[Nat.add_sub_cancel] at m0;have m0':=cell_regrown m0;have hgt:decide ((0:Int)<((i+1:Nat):Int))=true:=decide_eq_true (by omega);have hwi:IntKind.i64.wrap (i:Int)=i:=IntWalk.i64_in _ ⟨by omega,by omega⟩;have hltb:Op.bytesLess (str m1).toList (str n1).toList=ltB m1 n1:=rfl;have HOK2:Hid (okj=ltB m1 n1):=hid (by rw[HOK.out];simp);generalize ltB m1 n1=bl at*;clear m0 HOK HPR;rcases (Bool.eq_false_or_eq_true bl).symm with rfl|rfl
       · have HR:=hid (HRN.out HOK2.out)
         refine wp_region_quiet_below (by kernel_rfl) (by kernel_rfl) ?_
         repeat (go_big_quiet_step (first|exact cI _ _|exact cS _ _))
         refine wpQuiet_nil ?_;intro _ hw';obtain⟨⟨dq,osq⟩,hw''⟩:=hw';subst hw'';go_wp2_with fail;go_ret;exact⟨by rw[HR.out];rfl,HI.out.trans ((below_regrown wr dq osq).mono HI.out.size)⟩
       · have HX:=hid (HRX.out HOK2.out)
         refine wp_region_quiet_below (by kernel_rfl) (by kernel_rfl) ?_
         repeat (go_big_quiet_step (first|exact cI _ _|exact cS _ _))
         refine wpQuiet_nil ?_;intro _ hw';obtain⟨⟨dq,osq⟩,hw''⟩:=hw';subst hw'';go_wp2_with fail;go_roundw
         case rel=>exact⟨i+1+1,by go_num,hlt,HX,hid (HI.out.trans ((below_regrown wr dq osq).mono HI.out.size))⟩
         case measure=>simp[intOf];omega
   · have hdec:decide (j<L.length)=false:=by simpa using hlt
     have hje:j=L.length:=by omega
     have HR:Hid (zzg L=true):=hid (by unfold zzg;rw[decide_eq_true HM.out,←hje,HA.out];rfl);go_wp2_with fail;go_ret;exact⟨by rw[HR.out];rfl,HI.out⟩
end EvA
end
section
open Go.RowKit Go.Sort
namespace EvA
open StrC EvF EvC TextR CodeM
theorem zzk{k:Nat}(h:k=0∨11≤k):zvs k=[]:=by
 unfold zvs
 split<;>first|omega|rfl
theorem zzl(k:Nat):∀x∈zvs k,0≤x∧x≤9:=by
 unfold zvs
 split<;>decide
theorem zzm(k:Nat):(zvs k).length≤7:=by
 unfold zvs
 split<;>decide
end EvA
end
end Go.Proofs.YtbninnkpjdofbaaGreatDoor
