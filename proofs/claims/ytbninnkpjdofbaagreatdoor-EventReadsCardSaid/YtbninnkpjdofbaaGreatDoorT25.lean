/-
  What the proof of EventReads stands on, part 25.
-/
import Derived.Test.YtbninnkpjdofbaaGreatDoorT05
import Derived.Test.YtbninnkpjdofbaaGreatDoorT24
set_option linter.unusedSimpArgs false
set_option linter.unusedVariables false
set_option maxHeartbeats 16000000
namespace Go.Proofs.YtbninnkpjdofbaaGreatDoor
open Go.Lib (hid)
section
open Go.RowKit Go.Sort
namespace EvA
open StrC EvF TextR CodeM CodeC
theorem kindB_any(k:Nat)(c:UInt8)(hc:(c.toNat:Int)=k)(w:World):Calls Tryz.prog 94 #[.int .u8 k] w fun e w'=>e= .returned (.string (str [c]))∧Below w.heap.size w w':=by
 have hcv:=zbv k c hc w;have HB:=hid ((Below.refl w.heap.size w).alloc (Nat.le_refl _) (.cells #[.int .u8 k] 5));go_enter Tryz.func94,Tryz.ntmps94;go_wp2_with fail;go_ret;exact⟨rfl,HB.out⟩
theorem zxh(k:Nat)(t:B)(w:World)(h:w.cell? ⟨1,k,none⟩=some (.string (str t)))(hk:k<11):Calls Tryz.prog 104 #[.int .u8 k] w fun e w'=>e= .returned (.string (str t))∧w=w':=by
 go_enter Tryz.func104,Tryz.ntmps104;go_wp2_with fail;go_ret;exact⟨rfl,rfl⟩
theorem zxi(s:ByteArray)(w:World):Calls Tryz.prog 105 #[.string s] w fun e w'=>e= .returned (.string s)∧w=w':=by
 go_enter Tryz.func105,Tryz.ntmps105;go_wp2_with fail;go_ret;exact⟨rfl,rfl⟩
abbrev wrB:List Value:=[.func (.func 94) #[] #[],.func (.func 95) #[] #[],.func (.func 95) #[] #[],.func (.func 95) #[] #[],.func (.func 96) #[] #[],.func (.func 97) #[] #[]]
abbrev wrT:List Value:=[.func (.func 104) #[] #[],.func (.func 105) #[] #[],.func (.func 106) #[] #[],.func (.func 108) #[] #[],.func (.func 110) #[] #[],.func (.func 111) #[] #[]]
abbrev wrO(l:List Value):Obj:=.cells l.toArray 112
abbrev wrZ:Obj:=.cells #[.nilFunc,.nilFunc,.nilFunc,.nilFunc,.nilFunc,.nilFunc] 112
theorem zxj{P:Program}{fn:Func}{p:Tmp}{ty:TypeId}(h:fn.results=#[.cell p ty])(tmps:Array Value)(w:World)(g:Nat)(t:TypeId)(cs:Array Value)(fr:Nat×Nat)(d:TypeDesc)
 (hp:tmps.getD p undef= .pointer (some ⟨g,0,none⟩)) (hg:w.heap[g]?=some (.cells cs t fr))
 (hu:P.underlying ty=some d) (hd:(match d with | .struct _ | .array _ _=>true | _=>false)=true) (hi:(P.info? ty).map (·.size)=some cs.size):
 (results fn tmps).run P w= .ok (.agg cs) w:=by
 have hp':tmps[p]?.getD undef= .pointer (some ⟨g,0,none⟩):=by simpa using hp
 simp[results,h,hp',asAddr,run_loadVar_row w g t ty cs fr d hg hu hd hi]
theorem zxk:(Tryz.prog.info? 112).map (·.size)=some 6:=by kernel_rfl
theorem zxl(w:World):Calls Tryz.prog 46 #[] w fun e w'=>e= .returned (.agg wrB.toArray)∧Below w.heap.size w w':=by
 have hz:=heap_alloc_new w wrZ;have HB0:=hid ((Below.refl w.heap.size w).alloc (Nat.le_refl _) wrZ);have hinf:=zxk;have hone:(wrB.toArray.all (·.oneCell'))=true:=by simp[Value.oneCell']
 go_enter Tryz.func46,Tryz.ntmps46;go_wp2_with (first | (refine wpList_store_row rfl 112 _ _ rfl w.heap.size wrB.toArray rfl rfl _ _ hz hinf rfl hone ?_)|fail)
 refine bodyPost_ret (zxj rfl _ _ w.heap.size _ wrB.toArray _ _ rfl (setRow_heap _ _ _ _ _ _ hz) Tryz.underlying112 rfl hinf) rfl ?_;exact⟨rfl,below_setRow HB0.out (Nat.le_refl _) _⟩
theorem zxm(w:World):Calls Tryz.prog 52 #[] w fun e w'=>e= .returned (.agg wrT.toArray)∧Below w.heap.size w w':=by
 have hz:=heap_alloc_new w wrZ;have HB0:=hid ((Below.refl w.heap.size w).alloc (Nat.le_refl _) wrZ);have hinf:=zxk;have hone:(wrT.toArray.all (·.oneCell'))=true:=by simp[Value.oneCell']
 go_enter Tryz.func52,Tryz.ntmps52;go_wp2_with (first | (refine wpList_store_row rfl 112 _ _ rfl w.heap.size wrT.toArray rfl rfl _ _ hz hinf rfl hone ?_)|fail)
 refine bodyPost_ret (zxj rfl _ _ w.heap.size _ wrT.toArray _ _ rfl (setRow_heap _ _ _ _ _ _ hz) Tryz.underlying112 rfl hinf) rfl ?_;exact⟨rfl,below_setRow HB0.out (Nat.le_refl _) _⟩
theorem zxn(w:World)(s:ByteArray)(D:Nat)(hD:D≤w.heap.size):OwnT (w.alloc (.cells #[.string s] 9)) D (.slice (some ⟨w.heap.size,0,none⟩) 1 1) [s]:=
 ⟨rfl,.inr ⟨w.heap.size,1,_,rfl,hD,heap_alloc_new w _,Nat.le_refl _,by unfold maxLen;omega,rfl,rfl⟩⟩
theorem zxo{w w':World}{D:Nat}{v:Value}{L:List ByteArray}(h:OwnT w D v L)(hb:Below w.heap.size w w'):OwnT w' D v L:=by
 obtain⟨h1,h2|⟨g,cap,cur,rfl,h3,h4,h5⟩⟩:=h
 · exact⟨h1,.inl h2⟩
 · exact⟨h1,.inr ⟨g,cap,cur,rfl,h3,(hb.block g (Array.getElem?_eq_some_iff.1 h4).1).trans h4,h5⟩⟩
theorem zxp{w w':World}{v:Value}{L:List Int}(h:FRow w' w.heap.size v L)(h0:0<L.length):∃g cp,v= .slice (some ⟨g,0,none⟩) L.length cp∧w.heap.size≤g∧g<w'.heap.size∧∀i,i<L.length→w'.cell? ⟨g,i,none⟩=some (.int .i64 (L.getD i 0)):=by
 have h1:w'.ownsRow w.heap.size 118 1 v L.length (L.map (Value.int .i64)):=h;rcases h.2 with ⟨hnil,hz⟩|⟨g,cp,cur,rfl,hbase,hblk,_⟩
 · omega
 · refine⟨g,cp,rfl,hbase,(Array.getElem?_eq_some_iff.1 hblk).1,fun i hi=>?_⟩
   rw[h1.cellAt i (by omega)];simp[hi]
def FdsK(k:Nat)(L:List Int):Prop:=∀w,Calls Tryz.prog 50 #[.int .u8 k] w (FieldsE L w)
structure WrI (w W0 w2:World) (g:Nat) (wr:World) (v:Value) (L:List ByteArray):Prop where
 own:OwnT wr w.heap.size v L
 low:Below (w.heap.size+2) W0 wr
 fld:wr.heap[g]?=w2.heap[g]?
 at_:∀b,v.ownBlock=some b→w.heap.size+2≤b∧b≠g
 size:w2.heap.size≤wr.heap.size
theorem WrI.on{w W0 w2 wr w':World}{g:Nat}{v:Value}{L:List ByteArray}(h:WrI w W0 w2 g wr v L)(hg:g<w2.heap.size)(hb:Below wr.heap.size wr w')(hW:w.heap.size+2≤W0.heap.size):WrI w W0 w2 g w' v L:=
 ⟨zxo h.own hb,h.low.trans (hb.mono (Nat.le_trans hW h.low.size)),(hb.block g (Nat.lt_of_lt_of_le hg h.size)).trans h.fld,h.at_,Nat.le_trans h.size hb.size⟩
theorem WrI.add{w W0 w2 wr w':World}{g:Nat}{v v':Value}{L:List ByteArray}{s:ByteArray}(h:WrI w W0 w2 g wr v L)(hg:g<w2.heap.size)(hW:w.heap.size+2≤W0.heap.size)(hown:w'.ownsRow w.heap.size 9 1 v' (L.length+1) (L.map Value.string++ [.string s]))
 (hgr:wr.grownBy w' v.ownBlock) (hat:v'.ownBlock=v.ownBlock∨v'.ownBlock=some wr.heap.size):WrI w W0 w2 g w' v' (L++ [s]):=by
 refine⟨snoc hown rfl,h.low.grown hgr (Nat.le_trans hW h.low.size) (fun j hj=>(h.at_ j hj).1),(hgr.block g (Nat.lt_of_lt_of_le hg h.size) (fun e=>(h.at_ g e.symm).2 rfl)).trans h.fld,fun b hb=>?_,Nat.le_trans h.size hgr.size⟩;rcases hat with e|e
 · exact h.at_ b (e.symm.trans hb)
 · rw[e] at hb
   cases hb
   exact⟨Nat.le_trans hW h.low.size,by have:=h.size;omega⟩
set_option maxRecDepth 100000 in
theorem zxq(e:EvG)(c:UInt8)(hc:(c.toNat:Int)=e.k)(hF:FdsK e.k [0,1,2])(h1:e.who.length≤1000)(h2:e.name.length≤1000)(h3:e.ver.length≤1000)(w:World)  :
 Calls Tryz.prog 47 #[.agg wrB.toArray,evV e] w fun e' w'=>∃v,e'= .returned v∧OwnT w' w.heap.size v [str [c],str (textB e.who),str (textB e.name),str (textB e.ver)]∧Below w.heap.size w w':=by
 obtain⟨i0,hi,hz0,hz1,hz2⟩:=info_parts info_text;have hB0:Below w.heap.size w ((w.alloc (wrO wrB)).alloc (evO e)):=chW (alW w _) (alW _ _);have hs0:((w.alloc (wrO wrB)).alloc (evO e)).heap.size=w.heap.size+2:=by simp
 have hr1:((w.alloc (wrO wrB)).alloc (evO e)).heap[w.heap.size]?=some (wrO wrB):=by rw[heap_alloc_old _ _ (by simp)];exact heap_alloc_new w _
 have hr2:((w.alloc (wrO wrB)).alloc (evO e)).heap[w.heap.size+1]?=some (evO e):=by have:=heap_alloc_new (w.alloc (wrO wrB)) (evO e);simpa using this
 generalize hW0:(w.alloc (wrO wrB)).alloc (evO e)=W0 at*
 have HC:Hid (∀W,Below (w.heap.size+2) W0 W→W.cell? ⟨w.heap.size,0,none⟩=some (.func (.func 94) #[] #[])∧W.cell? ⟨w.heap.size,1,none⟩=some (.func (.func 95) #[] #[])∧
  W.cell? ⟨w.heap.size+1,0,none⟩=some (.int .u8 e.k)∧W.cell? ⟨w.heap.size+1,1,none⟩=some (.string (str e.who))∧W.cell? ⟨w.heap.size+1,2,none⟩=some (.string (str e.name))∧W.cell? ⟨w.heap.size+1,3,none⟩=some (.string (str e.ver))):=hid (fun W hb=>by
  have k1:=(hb.block w.heap.size (by omega)).trans hr1;have k2:=(hb.block (w.heap.size+1) (by omega)).trans hr2;refine⟨?_,?_,?_,?_,?_,?_⟩<;>simp[World.cell?,k1,k2])
 have HW0:Hid (w.heap.size+2≤W0.heap.size):=hid (by omega);have HB0:=hid hB0;have HF:=hid hF;have HTX:Hid (∀(s:B),s.length≤1000→∀W,Calls Tryz.prog 95 #[.string (str s)] W fun e w'=>e= .returned (.string (str (textB s)))∧Below W.heap.size W w'):=hid (fun s hs W=>zxg (str s) W (by rw[zbo];omega));have HT1:=hid (HTX.out e.who h1);have HT2:=hid (HTX.out e.name h2);have HT3:=hid (HTX.out e.ver h3);have HKK:Hid (Calls Tryz.prog 94 #[.int .u8 e.k] W0 fun e w'=>e= .returned (.string (str [c]))∧Below W0.heap.size W0 w'):=hid (kindB_any e.k c hc _);obtain⟨a0,a1,b0,b1,b2,b3⟩:=HC.out _ (Below.refl _ _);subst hW0;clear hB0 hr1 hr2 hF h1 h2 h3 HTX;go_enter Tryz.func47,Tryz.ntmps47;go_wp2_with fail;refine HKK.out.mono ?_;rintro e1 w1 ⟨rfl,hb1⟩;have HBA:=hid ((hb1.mono HW0.out).trans ((alW w1 (.cells #[.string (str [c])] 9)).mono (Nat.le_trans HW0.out hb1.size)));have HL1:Hid (w.heap.size+2≤w1.heap.size):=hid (Nat.le_trans HW0.out hb1.size);obtain⟨a0',a1',b0',b1',b2',b3'⟩:=HC.out _ HBA.out;clear hb1 a0 a1 b0 b1 b2 b3;go_wp2_with fail;refine(HF.out _).mono ?_;rintro e2 w2 ⟨v,rfl,hrow,hb2⟩;obtain⟨g,cp,rfl,hg0,hg1,hcl⟩:=zxp hrow (by decide);have hg0':w1.heap.size+1≤g:=by simpa using hg0
 have HI0:Hid (WrI w ((w.alloc (wrO wrB)).alloc (evO e)) w2 g w2 (.slice (some ⟨w1.heap.size,0,none⟩) 1 1) [str [c]]):=hid
  ⟨zxo (zxn w1 (str [c]) w.heap.size (by have:=HL1.out;omega)) hb2,HBA.out.trans (hb2.mono (by have:=HL1.out;simp;omega)),rfl,fun b hb=>by cases hb;exact⟨HL1.out,by show w1.heap.size≠g;omega⟩,Nat.le_refl _⟩
 have HG:=hid hg1
 have HFC:Hid (∀W:World,W.heap[g]?=w2.heap[g]?→W.cell? ⟨g,0,none⟩=some (.int .i64 0)∧W.cell? ⟨g,1,none⟩=some (.int .i64 1)∧W.cell? ⟨g,2,none⟩=some (.int .i64 2)):=hid (fun W hk=>
  ⟨(World.cell?_of_block (a:=⟨g,0,none⟩) hk).trans (hcl 0 (by decide)),(World.cell?_of_block (a:=⟨g,1,none⟩) hk).trans (hcl 1 (by decide)),(World.cell?_of_block (a:=⟨g,2,none⟩) hk).trans (hcl 2 (by decide))⟩)
 clear hrow hb2 hcl hg0 hg0' hg1 a0' a1' b0' b1' b2' b3' HBA HKK;go_wp2_with fail;go_loopw [5,7,18] (fun vp _ i wr=>∃j:Nat,i= .int .i64 j∧j≤3∧Hid (WrI w ((w.alloc (wrO wrB)).alloc (evO e)) w2 g wr vp (str [c] :: [str (textB e.who),str (textB e.name),str (textB e.ver)].take j))) (fun _ _ i _=>3-(intOf i).toNat)
 case atStart=>exact⟨0,rfl,by omega,HI0⟩
 case round=>
  obtain⟨j,rfl,hj,HI⟩:=hrel;rename World=>wr
  clear HI0;obtain⟨f0,f1,f2⟩:=HFC.out wr HI.out.fld;obtain⟨a0,a1,b0,b1,b2,b3⟩:=HC.out _ HI.out.low;have hj4:j=0∨j=1∨j=2∨j=3:=by omega
  rcases hj4 with rfl|rfl|rfl|rfl
  · go_wp2_with fail
    refine(HT1.out _).mono ?_;rintro e3 w3 ⟨rfl,hb3⟩;have HI3:=hid ((HI.out.on HG.out hb3 HW0.out).on HG.out (alW w3 (.cells #[.string (str (textB e.who))] 9)) HW0.out);have HB3:Hid (w.heap.size≤(w3.alloc (.cells #[.string (str (textB e.who))] 9)).heap.size):=hid (by have:=HI3.out.low.size;have:=HW0.out;omega);clear hb3 f0 f1 f2 a0 a1 b0 b1 b2 b3;go_wp2_with (first | (at_builtin;refine wpList_append_own_at _ rfl _ _ 98 rfl w.heap.size 9 i0 (.string ⟨#[]⟩) 1 16 Tryz.underlying98 hi hz0 hz1 hz2 rfl (by decide) _ 1 ((str [c] :: [str (textB e.who),str (textB e.name),str (textB e.ver)].take 0).map Value.string) rfl HI3.out.own ⟨w3.heap.size,0,none⟩ 1 1 [.string (str (textB e.who))] rfl rfl ?c1 ?c2 ?c3 ?c4 ?c5 ?_)|fail)
    case c1=>exact zdf w3 (.string (str (textB e.who))) 9
    case c2=>exact zde _
    case c3=>unfold maxLen;decide
    case c4=>decide
    case c5=>exact HB3.out
    intro v' w4 hown4 hg4 _ hat4;have HI4:=hid (HI3.out.add HG.out HW0.out hown4 hg4 (by simpa using hat4));clear hown4 hg4 hat4;go_wp2_with fail;go_roundw
    case rel=>exact⟨1,rfl,by omega,HI4⟩
    case measure=>simp[intOf]
  · go_wp2_with fail
    refine(HT2.out _).mono ?_;rintro e3 w3 ⟨rfl,hb3⟩;have HI3:=hid ((HI.out.on HG.out hb3 HW0.out).on HG.out (alW w3 (.cells #[.string (str (textB e.name))] 9)) HW0.out);have HB3:Hid (w.heap.size≤(w3.alloc (.cells #[.string (str (textB e.name))] 9)).heap.size):=hid (by have:=HI3.out.low.size;have:=HW0.out;omega);clear hb3 f0 f1 f2 a0 a1 b0 b1 b2 b3;go_wp2_with (first | (at_builtin;refine wpList_append_own_at _ rfl _ _ 98 rfl w.heap.size 9 i0 (.string ⟨#[]⟩) 1 16 Tryz.underlying98 hi hz0 hz1 hz2 rfl (by decide) _ 2 ((str [c] :: [str (textB e.who),str (textB e.name),str (textB e.ver)].take 1).map Value.string) rfl HI3.out.own ⟨w3.heap.size,0,none⟩ 1 1 [.string (str (textB e.name))] rfl rfl ?c1 ?c2 ?c3 ?c4 ?c5 ?_)|fail)
    case c1=>exact zdf w3 (.string (str (textB e.name))) 9
    case c2=>exact zde _
    case c3=>unfold maxLen;decide
    case c4=>decide
    case c5=>exact HB3.out
    intro v' w4 hown4 hg4 _ hat4;have HI4:=hid (HI3.out.add HG.out HW0.out hown4 hg4 (by simpa using hat4));clear hown4 hg4 hat4;go_wp2_with fail;go_roundw
    case rel=>exact⟨2,rfl,by omega,HI4⟩
    case measure=>simp[intOf]
  · go_wp2_with fail
    refine(HT3.out _).mono ?_;rintro e3 w3 ⟨rfl,hb3⟩;have HI3:=hid ((HI.out.on HG.out hb3 HW0.out).on HG.out (alW w3 (.cells #[.string (str (textB e.ver))] 9)) HW0.out);have HB3:Hid (w.heap.size≤(w3.alloc (.cells #[.string (str (textB e.ver))] 9)).heap.size):=hid (by have:=HI3.out.low.size;have:=HW0.out;omega);clear hb3 f0 f1 f2 a0 a1 b0 b1 b2 b3;go_wp2_with (first | (at_builtin;refine wpList_append_own_at _ rfl _ _ 98 rfl w.heap.size 9 i0 (.string ⟨#[]⟩) 1 16 Tryz.underlying98 hi hz0 hz1 hz2 rfl (by decide) _ 3 ((str [c] :: [str (textB e.who),str (textB e.name),str (textB e.ver)].take 2).map Value.string) rfl HI3.out.own ⟨w3.heap.size,0,none⟩ 1 1 [.string (str (textB e.ver))] rfl rfl ?c1 ?c2 ?c3 ?c4 ?c5 ?_)|fail)
    case c1=>exact zdf w3 (.string (str (textB e.ver))) 9
    case c2=>exact zde _
    case c3=>unfold maxLen;decide
    case c4=>decide
    case c5=>exact HB3.out
    intro v' w4 hown4 hg4 _ hat4;have HI4:=hid (HI3.out.add HG.out HW0.out hown4 hg4 (by simpa using hat4));clear hown4 hg4 hat4;go_wp2_with fail;go_roundw
    case rel=>exact⟨3,rfl,by omega,HI4⟩
    case measure=>simp[intOf]
  · go_wp2_with fail
    go_ret;exact⟨_,rfl,HI.out.own,HB0.out.trans (HI.out.low.mono (by omega))⟩
set_option maxRecDepth 100000 in
theorem zxr(e:EvG)(t:B)(hk:e.k<11)(hF:FdsK e.k [0,1,2])(h1:e.who.length≤1000)(h2:e.name.length≤1000)(h3:e.ver.length≤1000)(w:World)(ht:w.cell? ⟨1,e.k,none⟩=some (.string (str t))):
 Calls Tryz.prog 47 #[.agg wrT.toArray,evV e] w fun e' w'=>∃v,e'= .returned v∧OwnT w' w.heap.size v [str t,str (id e.who),str (id e.name),str (id e.ver)]∧Below w.heap.size w w':=by
 obtain⟨i0,hi,hz0,hz1,hz2⟩:=info_parts info_text;have hB0:Below w.heap.size w ((w.alloc (wrO wrT)).alloc (evO e)):=chW (alW w _) (alW _ _);have hs0:((w.alloc (wrO wrT)).alloc (evO e)).heap.size=w.heap.size+2:=by simp
 have hr1:((w.alloc (wrO wrT)).alloc (evO e)).heap[w.heap.size]?=some (wrO wrT):=by rw[heap_alloc_old _ _ (by simp)];exact heap_alloc_new w _
 have hr2:((w.alloc (wrO wrT)).alloc (evO e)).heap[w.heap.size+1]?=some (evO e):=by have:=heap_alloc_new (w.alloc (wrO wrT)) (evO e);simpa using this
 generalize hW0:(w.alloc (wrO wrT)).alloc (evO e)=W0 at*
 have HC:Hid (∀W,Below (w.heap.size+2) W0 W→W.cell? ⟨w.heap.size,0,none⟩=some (.func (.func 104) #[] #[])∧W.cell? ⟨w.heap.size,1,none⟩=some (.func (.func 105) #[] #[])∧
  W.cell? ⟨w.heap.size+1,0,none⟩=some (.int .u8 e.k)∧W.cell? ⟨w.heap.size+1,1,none⟩=some (.string (str e.who))∧W.cell? ⟨w.heap.size+1,2,none⟩=some (.string (str e.name))∧W.cell? ⟨w.heap.size+1,3,none⟩=some (.string (str e.ver))):=hid (fun W hb=>by
  have k1:=(hb.block w.heap.size (by omega)).trans hr1;have k2:=(hb.block (w.heap.size+1) (by omega)).trans hr2;refine⟨?_,?_,?_,?_,?_,?_⟩<;>simp[World.cell?,k1,k2])
 have HW0:Hid (w.heap.size+2≤W0.heap.size):=hid (by omega);have HB0:=hid hB0;have HF:=hid hF;have HTX:Hid (∀(s:B),s.length≤1000→∀W,Calls Tryz.prog 105 #[.string (str s)] W fun e w'=>e= .returned (.string (str (id s)))∧Below W.heap.size W w'):=hid (fun s hs W=>(zxi (str s) W).mono (fun _ _ h=>⟨h.1,by rw[h.2];exact Below.refl _ _⟩));have HT1:=hid (HTX.out e.who h1);have HT2:=hid (HTX.out e.name h2);have HT3:=hid (HTX.out e.ver h3);have HKK:Hid (Calls Tryz.prog 104 #[.int .u8 e.k] W0 fun e w'=>e= .returned (.string (str t))∧Below W0.heap.size W0 w'):=hid ((zxh e.k t _ ((hB0.cell (World.block_lt_of_cell? _ _ ht)).trans ht) hk).mono (fun _ _ h=>⟨h.1,by rw[h.2];exact Below.refl _ _⟩));obtain⟨a0,a1,b0,b1,b2,b3⟩:=HC.out _ (Below.refl _ _);subst hW0;clear hB0 hr1 hr2 hF h1 h2 h3 HTX;go_enter Tryz.func47,Tryz.ntmps47;go_wp2_with fail;refine HKK.out.mono ?_;rintro e1 w1 ⟨rfl,hb1⟩;have HBA:=hid ((hb1.mono HW0.out).trans ((alW w1 (.cells #[.string (str t)] 9)).mono (Nat.le_trans HW0.out hb1.size)));have HL1:Hid (w.heap.size+2≤w1.heap.size):=hid (Nat.le_trans HW0.out hb1.size);obtain⟨a0',a1',b0',b1',b2',b3'⟩:=HC.out _ HBA.out;clear hb1 a0 a1 b0 b1 b2 b3;go_wp2_with fail;refine(HF.out _).mono ?_;rintro e2 w2 ⟨v,rfl,hrow,hb2⟩;obtain⟨g,cp,rfl,hg0,hg1,hcl⟩:=zxp hrow (by decide);have hg0':w1.heap.size+1≤g:=by simpa using hg0
 have HI0:Hid (WrI w ((w.alloc (wrO wrT)).alloc (evO e)) w2 g w2 (.slice (some ⟨w1.heap.size,0,none⟩) 1 1) [str t]):=hid
  ⟨zxo (zxn w1 (str t) w.heap.size (by have:=HL1.out;omega)) hb2,HBA.out.trans (hb2.mono (by have:=HL1.out;simp;omega)),rfl,fun b hb=>by cases hb;exact⟨HL1.out,by show w1.heap.size≠g;omega⟩,Nat.le_refl _⟩
 have HG:=hid hg1
 have HFC:Hid (∀W:World,W.heap[g]?=w2.heap[g]?→W.cell? ⟨g,0,none⟩=some (.int .i64 0)∧W.cell? ⟨g,1,none⟩=some (.int .i64 1)∧W.cell? ⟨g,2,none⟩=some (.int .i64 2)):=hid (fun W hk=>
  ⟨(World.cell?_of_block (a:=⟨g,0,none⟩) hk).trans (hcl 0 (by decide)),(World.cell?_of_block (a:=⟨g,1,none⟩) hk).trans (hcl 1 (by decide)),(World.cell?_of_block (a:=⟨g,2,none⟩) hk).trans (hcl 2 (by decide))⟩)
 clear hrow hb2 hcl hg0 hg0' hg1 a0' a1' b0' b1' b2' b3' HBA HKK;go_wp2_with fail;go_loopw [5,7,18] (fun vp _ i wr=>∃j:Nat,i= .int .i64 j∧j≤3∧Hid (WrI w ((w.alloc (wrO wrT)).alloc (evO e)) w2 g wr vp (str t :: [str (id e.who),str (id e.name),str (id e.ver)].take j))) (fun _ _ i _=>3-(intOf i).toNat)
 case atStart=>exact⟨0,rfl,by omega,HI0⟩
 case round=>
  obtain⟨j,rfl,hj,HI⟩:=hrel;rename World=>wr
  clear HI0;obtain⟨f0,f1,f2⟩:=HFC.out wr HI.out.fld;obtain⟨a0,a1,b0,b1,b2,b3⟩:=HC.out _ HI.out.low;have hj4:j=0∨j=1∨j=2∨j=3:=by omega
  rcases hj4 with rfl|rfl|rfl|rfl
  · go_wp2_with fail
    refine(HT1.out _).mono ?_;rintro e3 w3 ⟨rfl,hb3⟩;have HI3:=hid ((HI.out.on HG.out hb3 HW0.out).on HG.out (alW w3 (.cells #[.string (str (id e.who))] 9)) HW0.out);have HB3:Hid (w.heap.size≤(w3.alloc (.cells #[.string (str (id e.who))] 9)).heap.size):=hid (by have:=HI3.out.low.size;have:=HW0.out;omega);clear hb3 f0 f1 f2 a0 a1 b0 b1 b2 b3;go_wp2_with (first | (at_builtin;refine wpList_append_own_at _ rfl _ _ 98 rfl w.heap.size 9 i0 (.string ⟨#[]⟩) 1 16 Tryz.underlying98 hi hz0 hz1 hz2 rfl (by decide) _ 1 ((str t :: [str (id e.who),str (id e.name),str (id e.ver)].take 0).map Value.string) rfl HI3.out.own ⟨w3.heap.size,0,none⟩ 1 1 [.string (str (id e.who))] rfl rfl ?c1 ?c2 ?c3 ?c4 ?c5 ?_)|fail)
    case c1=>exact zdf w3 (.string (str (id e.who))) 9
    case c2=>exact zde _
    case c3=>unfold maxLen;decide
    case c4=>decide
    case c5=>exact HB3.out
    intro v' w4 hown4 hg4 _ hat4;have HI4:=hid (HI3.out.add HG.out HW0.out hown4 hg4 (by simpa using hat4));clear hown4 hg4 hat4;go_wp2_with fail;go_roundw
    case rel=>exact⟨1,rfl,by omega,HI4⟩
    case measure=>simp[intOf]
  · go_wp2_with fail
    refine(HT2.out _).mono ?_;rintro e3 w3 ⟨rfl,hb3⟩;have HI3:=hid ((HI.out.on HG.out hb3 HW0.out).on HG.out (alW w3 (.cells #[.string (str (id e.name))] 9)) HW0.out);have HB3:Hid (w.heap.size≤(w3.alloc (.cells #[.string (str (id e.name))] 9)).heap.size):=hid (by have:=HI3.out.low.size;have:=HW0.out;omega);clear hb3 f0 f1 f2 a0 a1 b0 b1 b2 b3;go_wp2_with (first | (at_builtin;refine wpList_append_own_at _ rfl _ _ 98 rfl w.heap.size 9 i0 (.string ⟨#[]⟩) 1 16 Tryz.underlying98 hi hz0 hz1 hz2 rfl (by decide) _ 2 ((str t :: [str (id e.who),str (id e.name),str (id e.ver)].take 1).map Value.string) rfl HI3.out.own ⟨w3.heap.size,0,none⟩ 1 1 [.string (str (id e.name))] rfl rfl ?c1 ?c2 ?c3 ?c4 ?c5 ?_)|fail)
    case c1=>exact zdf w3 (.string (str (id e.name))) 9
    case c2=>exact zde _
    case c3=>unfold maxLen;decide
    case c4=>decide
    case c5=>exact HB3.out
    intro v' w4 hown4 hg4 _ hat4;have HI4:=hid (HI3.out.add HG.out HW0.out hown4 hg4 (by simpa using hat4));clear hown4 hg4 hat4;go_wp2_with fail;go_roundw
    case rel=>exact⟨2,rfl,by omega,HI4⟩
    case measure=>simp[intOf]
  · go_wp2_with fail
    refine(HT3.out _).mono ?_;rintro e3 w3 ⟨rfl,hb3⟩;have HI3:=hid ((HI.out.on HG.out hb3 HW0.out).on HG.out (alW w3 (.cells #[.string (str (id e.ver))] 9)) HW0.out);have HB3:Hid (w.heap.size≤(w3.alloc (.cells #[.string (str (id e.ver))] 9)).heap.size):=hid (by have:=HI3.out.low.size;have:=HW0.out;omega);clear hb3 f0 f1 f2 a0 a1 b0 b1 b2 b3;go_wp2_with (first | (at_builtin;refine wpList_append_own_at _ rfl _ _ 98 rfl w.heap.size 9 i0 (.string ⟨#[]⟩) 1 16 Tryz.underlying98 hi hz0 hz1 hz2 rfl (by decide) _ 3 ((str t :: [str (id e.who),str (id e.name),str (id e.ver)].take 2).map Value.string) rfl HI3.out.own ⟨w3.heap.size,0,none⟩ 1 1 [.string (str (id e.ver))] rfl rfl ?c1 ?c2 ?c3 ?c4 ?c5 ?_)|fail)
    case c1=>exact zdf w3 (.string (str (id e.ver))) 9
    case c2=>exact zde _
    case c3=>unfold maxLen;decide
    case c4=>decide
    case c5=>exact HB3.out
    intro v' w4 hown4 hg4 _ hat4;have HI4:=hid (HI3.out.add HG.out HW0.out hown4 hg4 (by simpa using hat4));clear hown4 hg4 hat4;go_wp2_with fail;go_roundw
    case rel=>exact⟨3,rfl,by omega,HI4⟩
    case measure=>simp[intOf]
  · go_wp2_with fail
    go_ret;exact⟨_,rfl,HI.out.own,HB0.out.trans (HI.out.low.mono (by omega))⟩
end EvA
end
section
open Go.RowKit Go.Sort
namespace EvA
open StrC EvF EvC
def Fds(k:Nat)(L:List Int):Prop:=∀w,Calls Tryz.prog 50 #[.int .u8 k] w (FieldsE L w)
theorem zxs{w w':World}{v:Value}{L:List Int}(h:FRow w' w.heap.size v L):∃a cp,v= .slice a L.length cp∧(0<L.length→∃g,a=some ⟨g,0,none⟩∧w.heap.size≤g∧g<w'.heap.size∧∀i,i<L.length→w'.cell? ⟨g,i,none⟩=some (.int .i64 (L.getD i 0))):=by
 have h0:w'.ownsRow w.heap.size 118 1 v L.length (L.map (Value.int .i64)):=h;rcases h.2 with ⟨hnil,hz⟩|⟨g,cp,cur,rfl,hbase,hblk,h1,h2,h3,h4⟩
 · exact⟨none,0,by rw[hz];exact hnil,fun h=>by omega⟩
 · refine⟨_,cp,rfl,fun _=>⟨g,rfl,hbase,(Array.getElem?_eq_some_iff.1 hblk).1,fun i hi=>?_⟩⟩
   rw[h0.cellAt i (by omega)];simp[hi]
theorem zxt{k:Nat}{L:List Int}(hL:Fds k L)(w:World):Calls Tryz.prog 48 #[.int .u8 k] w fun e w'=>e= .returned (.bool (decide (0<L.length)))∧Below w.heap.size w w':=by
 have HF:=hid (hL w);go_enter Tryz.func48,Tryz.ntmps48;go_wp2_with fail;refine HF.out.mono ?_;rintro e w1 ⟨v,rfl,hr,hb⟩;obtain⟨a,cp,rfl,-⟩:=zxs hr;have HB:=hid hb;have hd:decide (0<L.length)=decide ((0:Int)<L.length):=by simp
 clear hr hb;go_wp2_with fail;go_ret;exact⟨by simp,HB.out⟩
def zxu(e:EvG)(x:Int):EvG:=
 if x=0 then { e with who:=[] } else if x=1 then { e with name:=[] } else if x=2 then { e with ver:=[] } else if x=3 then { e with na:=none,nc:=0,needs:=[] } else if x=4 then { e with sum:=0 }
 else if x=5 then { e with n:=0 } else if x=6 then { e with size:=0 } else if x=7 then { e with holder:=[] } else { e with note:=[] }
def zxv(e:EvG)(L:List Int):EvG:=L.foldl zxu e
def kindE(k:Nat):EvG:=⟨k,[],[],[],none,0,[],0,0,0,[],[]⟩
theorem ev_v(e:EvG):evV e= .agg #[.int .u8 e.k,.string (str e.who),.string (str e.name),.string (str e.ver),.slice e.na e.needs.length e.nc,.int .u64 e.sum,.int .u32 e.n,.int .u32 e.size,.string (str e.holder),.string (str e.note)]:=rfl
theorem kind_v(k:Nat):evV (kindE k)= .agg #[.int .u8 k,.string ⟨#[]⟩,.string ⟨#[]⟩,.string ⟨#[]⟩,.slice none 0 0,.int .u64 0,.int .u32 0,.int .u32 0,.string ⟨#[]⟩,.string ⟨#[]⟩]:=by rfl
theorem zxw(e:EvG)(L:List Int)(j:Nat)(h:j<L.length):zxv e (L.take (j+1))=zxu (zxv e (L.take j)) (L.getD j 0):=by
 unfold zxv;rw[List.take_add_one,List.getElem?_eq_getElem h,List.foldl_append];simp[h]
theorem blank_k(e:EvG)(x:Int):(zxu e x).k=e.k:=by unfold zxu;(repeat' split)<;>rfl
theorem zxx{w:World}{e:EvG}(h:NeIn w e.na e.nc e.needs)(x:Int):NeIn w (zxu e x).na (zxu e x).nc (zxu e x).needs:=by
 unfold zxu
 (repeat' split)<;>first|exact h|exact NeIn.no w
theorem zxy(L:List Int):∀(e:EvG),(zxv e L).k=e.k:=by
 induction L with
 | nil=>intro e;rfl
 | cons x r ih=>intro e;show (zxv (zxu e x) r).k=_;rw[ih,blank_k]
theorem zxz{w:World}(L:List Int):∀{e:EvG},NeIn w e.na e.nc e.needs→NeIn w (zxv e L).na (zxv e L).nc (zxv e L).needs:=by
 induction L with
 | nil=>intro e h;exact h
 | cons x r ih=>intro e h;exact ih (zxx h x)
structure Lk (p:Nat) (w wr:World):Prop where
 os:wr.os=w.os
 tape:wr.tape=w.tape
 output:wr.output=w.output
 size:w.heap.size≤wr.heap.size
 block:∀k,k<w.heap.size→k≠p→wr.heap[k]?=w.heap[k]?
theorem Lk.set{p:Nat}{w wr:World}(h:Lk p w wr)(i:Nat)(v:Value):Lk p w (wr.setCell ⟨p,i,none⟩ v):=⟨h.os,h.tape,h.output,by simpa using h.size,fun k hk hne=>by rw[zvn i v hne];exact h.block k hk hne⟩
theorem Lk.low{p D:Nat}{w0 w wr:World}(h:Lk p w wr)(h0:Below D w0 w)(hp:D≤p)(hD:D≤w.heap.size):Below D w0 wr:=h0.trans ⟨h.os,h.tape,h.output,h.size,fun k hk=>h.block k (by omega) (by omega)⟩
set_option maxRecDepth 100000 in
theorem zya{e:EvG}{L:List Int}(hL:Fds e.k L)(hf:∀x∈L,0≤x∧x≤9)(hl:L.length≤100)(w:World)(hN:NeIn w e.na e.nc e.needs):
 Calls Tryz.prog 49 #[evV e] w fun e' w'=>e'= .returned (.bool (!sameE (zxv e L) (kindE e.k)))∧Below w.heap.size w w':=by
 have HF:=hid (hL (w.alloc (evO e)));have hB0:Below w.heap.size w (w.alloc (evO e)):=(Below.refl _ w).alloc (Nat.le_refl _) _;have HB0:=hid hB0;have HN0:=hid hN;have hr:=heap_alloc_new w (evO e);have HFD:Hid (∀j,j<L.length→0≤L.getD j 0∧L.getD j 0≤9):=hid (fun j hj=>hf _ (by simp[hj]));have HS:Hid (∀W,NeIn W (zxv e L).na (zxv e L).nc (zxv e L).needs→Calls Tryz.prog 20 #[evV (zxv e L),evV (kindE e.k)] W fun e' w'=>e'= .returned (.bool (sameE (zxv e L) (kindE e.k)))∧Below W.heap.size W w'):=hid (fun W h=>zvg _ _ W h (NeIn.no W));obtain⟨c0,c1,c2,c3,c4,c5,c6,c7,c8,c9⟩:=zvb hr;have hs0:(w.alloc (evO e)).heap.size=w.heap.size+1:=by simp
 clear hN hB0 hL hf;go_enter Tryz.func49,Tryz.ntmps49;go_wp2_with fail;refine HF.out.mono ?_;rintro e1 w1 ⟨v,rfl,hrow,hb⟩;obtain⟨a,cp,rfl,hcell⟩:=zxs hrow;have HCL:=hid hcell;have HB1:=hid hb;have HR1:Hid (w1.heap[w.heap.size]?=some (evO e)):=hid ((hb.block _ (by omega)).trans hr);clear hrow hcell hb hr c0 c1 c2 c3 c4 c5 c6 c7 c8 c9 HF;go_wp2_with fail;go_loopw [4,9] (fun _ i wr=>∃j:Nat,i= .int .i64 j∧j≤L.length∧Hid (wr.heap[w.heap.size]?=some (evO (zxv e (L.take j))))∧Hid (Lk w.heap.size w1 wr)) (fun _ i _=>L.length-(intOf i).toNat)
 case atStart=>exact⟨0,rfl,Nat.zero_le _,HR1,hid ⟨rfl,rfl,rfl,Nat.le_refl _,fun k _ _=>rfl⟩⟩
 case round=>
  obtain⟨j,rfl,hj,HR,HK⟩:=hrel;rename World=>wr
  have hrow:=HR.out;obtain⟨c0,c1,c2,c3,c4,c5,c6,c7,c8,c9⟩:=zvb hrow;by_cases hlt:j<L.length
  · have hdec:decide (j<L.length)=true:=by simpa using hlt
    obtain⟨g,rfl,hg0,hg1,hcl⟩:=HCL.out (by omega)
    have hc:wr.cell? ⟨g,j,none⟩=some (.int .i64 (L.getD j 0)):=by
     rw[World.cell?_of_block (a:=⟨g,j,none⟩) (HK.out.block g hg1 (by omega))];exact hcl j hlt
    have HBS:=hid (zxw e L j hlt);obtain⟨f0,f9⟩:=HFD.out j hlt;clear hcl;generalize L.getD j 0=x at*;generalize zxv e (L.take j)=ej at*;have hx:x=0∨x=1∨x=2∨x=3∨x=4∨x=5∨x=6∨x=7∨x=8∨x=9:=by omega
    clear f0 f9;rcases hx with rfl|rfl|rfl|rfl|rfl|rfl|rfl|rfl|rfl|rfl
    · have ffz:=zvo hrow 1
      clear hrow c0 c2 c3 c4 c5 c6 c7 c8 c9;go_wp2_with fail;go_roundw
      case rel=>exact⟨j+1,by go_num,by omega,hid (by rw[HBS.out,zvm HR.out];rfl),hid (HK.out.set _ _)⟩
      case measure=>simp[intOf];omega
    · have ffz:=zvo hrow 2
      clear hrow c0 c1 c3 c4 c5 c6 c7 c8 c9;go_wp2_with fail;go_roundw
      case rel=>exact⟨j+1,by go_num,by omega,hid (by rw[HBS.out,zvm HR.out];rfl),hid (HK.out.set _ _)⟩
      case measure=>simp[intOf];omega
    · have ffz:=zvo hrow 3
      clear hrow c0 c1 c2 c4 c5 c6 c7 c8 c9;go_wp2_with fail;go_roundw
      case rel=>exact⟨j+1,by go_num,by omega,hid (by rw[HBS.out,zvm HR.out];rfl),hid (HK.out.set _ _)⟩
      case measure=>simp[intOf];omega
    · have ffz:=zvo hrow 4
      clear hrow c0 c1 c2 c3 c5 c6 c7 c8 c9;go_wp2_with fail;go_roundw
      case rel=>exact⟨j+1,by go_num,by omega,hid (by rw[HBS.out,zvm HR.out];rfl),hid (HK.out.set _ _)⟩
      case measure=>simp[intOf];omega
    · have ffz:=zvo hrow 5
      clear hrow c0 c1 c2 c3 c4 c6 c7 c8 c9;go_wp2_with fail;go_roundw
      case rel=>exact⟨j+1,by go_num,by omega,hid (by rw[HBS.out,zvm HR.out];rfl),hid (HK.out.set _ _)⟩
      case measure=>simp[intOf];omega
    · have ffz:=zvo hrow 6
      clear hrow c0 c1 c2 c3 c4 c5 c7 c8 c9;go_wp2_with fail;go_roundw
      case rel=>exact⟨j+1,by go_num,by omega,hid (by rw[HBS.out,zvm HR.out];rfl),hid (HK.out.set _ _)⟩
      case measure=>simp[intOf];omega
    · have ffz:=zvo hrow 7
      clear hrow c0 c1 c2 c3 c4 c5 c6 c8 c9;go_wp2_with fail;go_roundw
      case rel=>exact⟨j+1,by go_num,by omega,hid (by rw[HBS.out,zvm HR.out];rfl),hid (HK.out.set _ _)⟩
      case measure=>simp[intOf];omega
    · have ffz:=zvo hrow 8
      clear hrow c0 c1 c2 c3 c4 c5 c6 c7 c9;go_wp2_with fail;go_roundw
      case rel=>exact⟨j+1,by go_num,by omega,hid (by rw[HBS.out,zvm HR.out];rfl),hid (HK.out.set _ _)⟩
      case measure=>simp[intOf];omega
    · have ffz:=zvo hrow 9
      clear hrow c0 c1 c2 c3 c4 c5 c6 c7 c8;go_wp2_with fail;go_roundw
      case rel=>exact⟨j+1,by go_num,by omega,hid (by rw[HBS.out,zvm HR.out];rfl),hid (HK.out.set _ _)⟩
      case measure=>simp[intOf];omega
    · have ffz:=zvo hrow 9
      clear hrow c0 c1 c2 c3 c4 c5 c6 c7 c8;go_wp2_with fail;go_roundw
      case rel=>exact⟨j+1,by go_num,by omega,hid (by rw[HBS.out,zvm HR.out];rfl),hid (HK.out.set _ _)⟩
      case measure=>simp[intOf];omega
  · have hdec:decide (j<L.length)=false:=by simpa using hlt
    have hje:j=L.length:=by omega
    subst hje;have HBW:=hid (HK.out.low (HB0.out.trans (HB1.out.mono HB0.out.size)) (Nat.le_refl _) (Nat.le_trans HB0.out.size HB1.out.size));have hk:=zxy L e;have HNE:Hid (NeIn wr (zxv e L).na (zxv e L).nc (zxv e L).needs):=hid (zxz L (HN0.out.gr HBW.out));rw[List.take_length] at c0 c1 c2 c3 c4 c5 c6 c7 c8 c9 HR;have hsw:=HS.out wr HNE.out;rw[kind_v] at hsw;rw[ev_v,hk] at hsw;have HSW:=hid hsw;clear hsw;clear hrow hlt hj;have hc0:wr.cell? ⟨w.heap.size,0,none⟩=some (.int .u8 e.k):=by rw[c0,hk]
    generalize hE:zxv e L=E at hk HNE HSW c0 c1 c2 c3 c4 c5 c6 c7 c8 c9 hc0;have HE:=hid hE;clear hE;clear HS HCL HFD HR1 HB0 HB1 HN0 HR HK HNE;go_wp2_with fail
    with_reducible refine HSW.out.mono ?_
    rintro e2 w2 ⟨rfl,hb2⟩;have HB2:=hid (HBW.out.trans (hb2.mono HBW.out.size));clear hb2;go_wp2_with fail;go_ret;exact⟨by rw[HE.out];rfl,HB2.out⟩
end EvA
end
section
namespace SumM
def dval(c:Int):Int:=if 48≤c∧c≤57 then c-48 else if 97≤c∧c≤102 then c-97+10 else -1
def rst(x d:Int):Int:=bits .or .u64 (IntKind.u64.wrap (x*16)) d
def rd:Int→List UInt8→Option Int
 | x,[]=>some x
 | x,c :: r=>if dval c.toNat<0 then none else rd (rst x (dval c.toNat)) r
def read(l:List UInt8):Option Int:=if l.length=16 then rd 0 l else none
end SumM
end
end Go.Proofs.YtbninnkpjdofbaaGreatDoor
