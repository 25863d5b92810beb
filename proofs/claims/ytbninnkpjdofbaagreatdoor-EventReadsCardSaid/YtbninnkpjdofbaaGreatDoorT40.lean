/-
  What the proof of EventReads stands on, part 40.
-/
import Derived.Test.YtbninnkpjdofbaaGreatDoorT37
set_option linter.unusedSimpArgs false
set_option linter.unusedVariables false
set_option maxHeartbeats 16000000
namespace Go.Proofs.YtbninnkpjdofbaaGreatDoor
open Go.Lib (hid)
section
open Go.RowKit
namespace ErrU
open ErrC
theorem yin{w:World}{b:Nat}{c a:Int}{u:Value}(h:w.heap[b]?=some (.cells #[.int .i64 c,.string ⟨#[]⟩,.int .i64 a,u] 45)):w.cell? ⟨b,0,none⟩=some (.int .i64 c)∧w.cell? ⟨b,1,none⟩=some (.string ⟨#[]⟩)∧w.cell? ⟨b,2,none⟩=some (.int .i64 a)∧w.cell? ⟨b,3,none⟩=some u:=by
 refine⟨?_,?_,?_,?_⟩<;>simp[World.cell?,h]
theorem yio{w w':World}{b:Nat}{o:Obj}(h:w.heap[b]?=some o)(hb:Below w.heap.size w w'):w'.heap[b]?=some o:=(hb.block b (Array.getElem?_eq_some_iff.1 h).1).trans h
theorem yip(b f:Nat)(c c2 a a2:Nat)(w:World)(hc:c≤1000)(hc2:c2≤1000)(ha:a≤4611686018427387904)(ha2:a2≤4611686018427387904)(hr:w.heap[b]?=some (.cells #[.int .i64 c,.string ⟨#[]⟩,.int .i64 a,fV f] 45))(hf:IsFault w f 0 c2 ⟨#[]⟩ a2)(ht:PowTab w):
 Calls Tryz.prog 335 #[.pointer (some ⟨b,0,none⟩)] w fun e w'=>∃t,e= .returned (.string t)∧6≤t.size∧Below w.heap.size w w':=by
 have HR:Hid (∀W,Below w.heap.size w W→W.cell? ⟨b,0,none⟩=some (.int .i64 c)∧W.cell? ⟨b,1,none⟩=some (.string ⟨#[]⟩)∧W.cell? ⟨b,2,none⟩=some (.int .i64 a)∧W.cell? ⟨b,3,none⟩=some (fV f)):=hid (fun W h=>yin (yio hr h));have HF:Hid (∀W,Below w.heap.size w W→IsFault W f 0 c2 ⟨#[]⟩ a2):=hid (fun W h=>hf.below h hf.lt);obtain⟨c0,c1,c2',c3⟩:=HR.out w (Below.refl _ _);have HT:=hid ht;have y1:=zuu;clear hr hf ht;go_enter Tryz.func335,Tryz.ntmps335;go_wp2_with fail;refine(zup c _ (by omega) HT.out).mono ?_;rintro e w1 ⟨t,rfl,ht1,ht2,hb⟩;obtain⟨d0,d1,d2,d3⟩:=HR.out w1 hb;have HB1:=hid hb;have HT1:=hid (HT.out.below hb);clear c0 c1 c2' c3 hb;go_wp2_with fail;refine(zuo a _ (by omega) HT1.out).mono ?_;rintro e w2 ⟨u,rfl,hu,hb2⟩;have HB2:=hid (HB1.out.trans (hb2.mono HB1.out.size));obtain⟨e0,e1,e2,e3⟩:=HR.out w2 HB2.out;have HT2:=hid (HT1.out.below hb2);clear d0 d1 d2 d3 hb2;go_wp2_with fail;refine(zus f 0 c2 ⟨#[]⟩ a2 _ (by omega) (by omega) (by decide) (HF.out _ HB2.out) HT2.out).mono ?_;rintro e w3 ⟨t3,rfl,ht3,ht4,hb3⟩;have HB3:=hid (HB2.out.trans (hb3.mono HB2.out.size));have hz0:(⟨#[]⟩:ByteArray).size=0:=rfl;have ht5:t3.size≤1000:=by omega
 clear e0 e1 e2 e3 hb3 ht4 hz0;go_wp2_with fail;go_ret;exact⟨_,rfl,by simp only[sz];omega,HB3.out⟩
theorem yiq(b f:Nat)(c c2 a a2:Nat)(w:World)(hc:c≤1000)(hc2:c2≤1000)(ha:a≤4611686018427387904)(ha2:a2≤4611686018427387904)(hr:w.heap[b]?=some (.cells #[.int .i64 c,.string ⟨#[]⟩,.int .i64 a,fV f] 45))(hf:IsFault w f 0 c2 ⟨#[]⟩ a2)(hv:Vars w):
 Calls Tryz.prog 11 #[fV b] w fun e w'=>e= .returned (.tuple #[.int .i64 c,.string ⟨#[]⟩,.int .i64 a])∧Below w.heap.size w w':=by
 have y1:=zuu;have hlt:=(Array.getElem?_eq_some_iff.1 hr).1;have HV:=hid hv;clear hv;have HR:Hid (∀W,Below w.heap.size w W→W.heap[b]?=some (.cells #[.int .i64 c,.string ⟨#[]⟩,.int .i64 a,fV f] 45)):=hid (fun W h=>yio hr h);have HF:Hid (∀W,Below w.heap.size w W→IsFault W f 0 c2 ⟨#[]⟩ a2):=hid (fun W h=>hf.below h hf.lt);clear hr hf;go_enter Tryz.func11,Tryz.ntmps11;go_wp2_with fail;have hb0:Below w.heap.size w (w.alloc (.cells #[.pointer none] 40)):=(Below.refl _ _).alloc (Nat.le_refl _) _;refine(zut ⟨b,0,none⟩ ⟨w.heap.size,0,none⟩ (.pointer none) _ (HV.out.below hb0).err (by simp) (by simp)).mono ?_;rintro e w1 ⟨rfl,hc1,hb1⟩;have hB1:Below w.heap.size w w1:=hb0.trans hb1;have HV1:=hid (HV.out.below hB1);have HB1:=hid hB1;obtain⟨k0,k1,k2,k3⟩:=yin (HR.out w1 hB1);have HIS:=hid (ygi b c _ _ w1 k0 k3);clear hb0 hb1 hB1;go_wp2_with fail;refine HIS.out.mono ?_;rintro e w2 ⟨rfl,hb2⟩;have htl1:w.heap.size<w1.heap.size:=World.block_lt_of_cell? _ _ hc1;have hc2':w2.cell? ⟨w.heap.size,0,none⟩=some (.pointer (some ⟨b,0,none⟩)):=by rw[hb2.cell htl1];exact hc1
 have HV2:=hid (HV1.out.below hb2);have HB2:=hid (HB1.out.trans (hb2.mono HB1.out.size));have HTX:=hid (yip b f c c2 a a2 w2 hc hc2 ha ha2 (HR.out _ HB2.out) (HF.out _ HB2.out) HV2.out.pow);clear k0 k1 k2 k3 hc1 hb2 HIS;go_wp2_with fail;refine HTX.out.mono ?_;rintro e w3 ⟨t,rfl,ht1,hb3⟩;have htl2:w.heap.size<w2.heap.size:=World.block_lt_of_cell? _ _ hc2';have hc3:w3.cell? ⟨w.heap.size,0,none⟩=some (.pointer (some ⟨b,0,none⟩)):=by rw[hb3.cell htl2];exact hc2'
 have HB3:=hid (HB2.out.trans (hb3.mono HB2.out.size));obtain⟨k0,k1,k2,-⟩:=yin (HR.out w3 HB3.out);have hne:t.toList.isEmpty=false:=zuv t ht1;clear hb3 hc2' HTX;go_wp2_with fail;go_quiet (fail)
 go_wp2_with fail;go_ret3
 exact⟨rfl,below_drewN HB3.out _⟩
end ErrU
end
section
open Go.RowKit Go.Sort
namespace EvR
open StrC EvF EvC EvA TextR CodeM CodeC ErrC ErrU EvS
open VerC (Vw)
def e0:EvG:=⟨3,[97],[98],[49,46,48,46,48],none,0,[],0,0,0,[],[]⟩
theorem yir(w:World)(hv:Vw w):Calls Tryz.prog 18 #[evV e0] w fun e w'=>e= .returned (.int .i64 0)∧Below w.heap.size w w':=by
 have h:=pmay_any e0 w ⟨by decide,by decide,by decide,by decide,by decide,by decide,by decide,by decide,by decide,NeIn.no w⟩ hv;rw[show mayD e0=true by decide +kernel] at h;exact h
theorem fds3:FdsK 3 [0,1,2]:=fun w=>zwa w
theorem yis{w:World}{D:Nat}{v:Value}{L:List ByteArray}(h:TextR.OwnT w D v L)(h0:0<L.length)(sep:ByteArray)(hl:L.length≤100)(hj:(Lib.join (L.map (·.data.toList)) sep.data.toList).length≤100000):
 Calls Tryz.prog 45 #[v,.string sep] w fun e w'=>e= .returned (.string ⟨(Lib.join (L.map (·.data.toList)) sep.data.toList).toArray⟩)∧Below w.heap.size w w':=by
 have h1:w.ownsRow D 9 1 v L.length (L.map Value.string):=h;rcases h.2 with ⟨hnil,hz⟩|⟨g,cp,cur,rfl,hbase,hblk,hcp,_⟩
 · omega
 · exact Tryz.strings_Join g 0 cp L sep w (fun j x hx=>by
    have hjl:j<L.length:=(List.getElem?_eq_some_iff.1 hx).1;rw[Nat.zero_add,h1.cellAt j (by omega)];simp[hx]) (Array.getElem?_eq_some_iff.1 hblk).1 (by omega) hcp (by omega)
theorem yit:(Lib.join (([str [3],str (textB [97]),str (textB [98]),str (textB [49,46,48,46,48])]:List ByteArray).map (·.data.toList)) (⟨#[]⟩:ByteArray).data.toList)=[3,1,97,1,98,5,49,46,48,46,48]:=by decide +kernel
set_option maxRecDepth 100000 in
theorem yiu(w:World)(hv:Vw w):Calls Tryz.prog 17 #[evV e0] w fun e w'=>e= .returned (.tuple #[.string (str [3,1,97,1,98,5,49,46,48,46,48]),.int .i64 0])∧Below w.heap.size w w':=by
 have hB0:=alW w (evO e0);have hr:=heap_alloc_new w (evO e0);have hs0:(w.alloc (evO e0)).heap.size=w.heap.size+1:=by simp
 have HC:Hid (∀W,Below (w.heap.size+1) (w.alloc (evO e0)) W→W.cell? ⟨w.heap.size,0,none⟩=some (.int .u8 3)∧W.cell? ⟨w.heap.size,1,none⟩=some (.string (str [97]))∧W.cell? ⟨w.heap.size,2,none⟩=some (.string (str [98]))∧W.cell? ⟨w.heap.size,3,none⟩=some (.string (str [49,46,48,46,48]))∧W.cell? ⟨w.heap.size,4,none⟩=some (.slice none 0 0)∧W.cell? ⟨w.heap.size,5,none⟩=some (.int .u64 0)∧W.cell? ⟨w.heap.size,6,none⟩=some (.int .u32 0)∧W.cell? ⟨w.heap.size,7,none⟩=some (.int .u32 0)∧W.cell? ⟨w.heap.size,8,none⟩=some (.string (str []))∧W.cell? ⟨w.heap.size,9,none⟩=some (.string (str []))):=hid (fun W hb=>zvb ((hb.block _ (by omega)).trans hr));have HM:=hid (yir _ (hv.gr hB0));have HAB:=hid zxl;have HEV:Hid (∀W,Calls Tryz.prog 47 #[.agg wrB.toArray,evV e0] W fun e' w'=>∃v,e'= .returned v∧TextR.OwnT w' W.heap.size v [str [3],str (textB [97]),str (textB [98]),str (textB [49,46,48,46,48])]∧Below W.heap.size W w'):=hid (fun W=>zxq e0 3 rfl fds3 (by decide) (by decide) (by decide) W)
 have HJ:Hid (∀W D v,TextR.OwnT W D v [str [3],str (textB [97]),str (textB [98]),str (textB [49,46,48,46,48])]→Calls Tryz.prog 45 #[v,.string ⟨#[]⟩] W fun e w'=>e= .returned (.string (str [3,1,97,1,98,5,49,46,48,46,48]))∧Below W.heap.size W w'):=hid (fun W D v ho=>by
  have h:=yis ho (by decide) ⟨#[]⟩ (by decide) (by rw[yit];decide);rw[yit] at h;exact h)
 obtain⟨c0,c1,c2,c3,c4,c5,c6,c7,c8,c9⟩:=HC.out _ (Below.refl _ _);have HB:=hid hB0;have HS0:=hid hs0;clear hv hr hB0 hs0;unfold e0 at*;go_enter Tryz.func17,Tryz.ntmps17;go_wp2_with fail;refine HM.out.mono ?_;rintro e1 w1 ⟨rfl,hb1⟩;have HB1:=hid (hb1.mono (Nat.le_of_eq HS0.out.symm));clear hb1 c0 c1 c2 c3 c4 c5 c6 c7 c8 c9;obtain⟨c0,c1,c2,c3,c4,c5,c6,c7,c8,c9⟩:=HC.out _ HB1.out;go_wp2_with fail;have HB2:Hid (Below (w.heap.size+1) (w.alloc (evO ⟨3,[97],[98],[49,46,48,46,48],none,0,[],0,0,0,[],[]⟩)) w1.drew):=hid (VerC.zgo HB1.out)
 go_region_held3 (fun w'=>w'.cell? ⟨w.heap.size,0,none⟩=some (.int .u8 3)∧w'.cell? ⟨w.heap.size,1,none⟩=some (.string (str [97]))∧w'.cell? ⟨w.heap.size,2,none⟩=some (.string (str [98]))∧w'.cell? ⟨w.heap.size,3,none⟩=some (.string (str [49,46,48,46,48]))∧w'.cell? ⟨w.heap.size,4,none⟩=some (.slice none 0 0)∧w'.cell? ⟨w.heap.size,5,none⟩=some (.int .u64 0)∧w'.cell? ⟨w.heap.size,6,none⟩=some (.int .u32 0)∧w'.cell? ⟨w.heap.size,7,none⟩=some (.int .u32 0)∧w'.cell? ⟨w.heap.size,8,none⟩=some (.string (str []))∧w'.cell? ⟨w.heap.size,9,none⟩=some (.string (str [])))
  (first|exact⟨c0,c1,c2,c3,c4,c5,c6,c7,c8,c9⟩|exact⟨VerC.zcx _ c0,VerC.zcx _ c1,VerC.zcx _ c2,VerC.zcx _ c3,VerC.zcx _ c4,VerC.zcx _ c5,VerC.zcx _ c6,VerC.zcx _ c7,VerC.zcx _ c8,VerC.zcx _ c9⟩|exact hk3|exact hk4|exact hk5|fail)
  (first
    | (go_at_call 46;refine(HAB.out _).mono ?_;rintro e w3 ⟨rfl,hb3⟩;have HB3:=hid (HB2.out.trans (hb3.mono (Nat.le_trans (Nat.le_of_eq HS0.out.symm) HB2.out.size)));have hk3:=HC.out _ HB3.out;clear hb3)
    | (go_at_call 47;refine(HEV.out _ ).mono ?_;rintro e w4 ⟨v,rfl,ho4,hb4⟩;have HB4:=hid (HB3.out.trans (hb4.mono (Nat.le_trans (Nat.le_of_eq HS0.out.symm) HB3.out.size)));have hk4:=HC.out _ HB4.out;have HO4:=hid ho4;clear hb4 ho4)
    | (go_at_call 45;refine(HJ.out _ _ _ HO4.out).mono ?_;rintro e w5 ⟨rfl,hb5⟩;have HB5:=hid (HB4.out.trans (hb5.mono (Nat.le_trans (Nat.le_of_eq HS0.out.symm) HB4.out.size)));have hk5:=HC.out _ HB5.out;clear hb5)
    | fail)
 all_goals (go_wp2_with fail)
 all_goals go_ret2
 all_goals exact⟨rfl,HB.out.trans (HB5.out.mono (by omega))⟩
theorem yiv:(Lib.join (([str [121,97,110,107],str (id [97]),str (id [98]),str (id [49,46,48,46,48])]:List ByteArray).map (·.data.toList)) (⟨#[32]⟩:ByteArray).data.toList)=[121,97,110,107,32,97,32,98,32,49,46,48,46,48]:=by decide +kernel
set_option maxRecDepth 100000 in
theorem text_e0(w:World)(hv:Vw w)(ht:w.cell? ⟨1,3,none⟩=some (.string (str [121,97,110,107]))):Calls Tryz.prog 19 #[evV e0] w fun e w'=>e= .returned (.tuple #[.string (str [121,97,110,107,32,97,32,98,32,49,46,48,46,48]),.int .i64 0])∧Below w.heap.size w w':=by
 have hB0:=alW w (evO e0);have hr:=heap_alloc_new w (evO e0);have hs0:(w.alloc (evO e0)).heap.size=w.heap.size+1:=by simp
 have HC:Hid (∀W,Below (w.heap.size+1) (w.alloc (evO e0)) W→W.cell? ⟨w.heap.size,0,none⟩=some (.int .u8 3)∧W.cell? ⟨w.heap.size,1,none⟩=some (.string (str [97]))∧W.cell? ⟨w.heap.size,2,none⟩=some (.string (str [98]))∧W.cell? ⟨w.heap.size,3,none⟩=some (.string (str [49,46,48,46,48]))∧W.cell? ⟨w.heap.size,4,none⟩=some (.slice none 0 0)∧W.cell? ⟨w.heap.size,5,none⟩=some (.int .u64 0)∧W.cell? ⟨w.heap.size,6,none⟩=some (.int .u32 0)∧W.cell? ⟨w.heap.size,7,none⟩=some (.int .u32 0)∧W.cell? ⟨w.heap.size,8,none⟩=some (.string (str []))∧W.cell? ⟨w.heap.size,9,none⟩=some (.string (str []))):=hid (fun W hb=>zvb ((hb.block _ (by omega)).trans hr));have HM:=hid (yir _ (hv.gr hB0));have HAB:=hid zxm;have HEV:Hid (∀W,W.cell? ⟨1,3,none⟩=some (.string (str [121,97,110,107]))→Calls Tryz.prog 47 #[.agg wrT.toArray,evV e0] W fun e' w'=>∃v,e'= .returned v∧TextR.OwnT w' W.heap.size v [str [121,97,110,107],str (id [97]),str (id [98]),str (id [49,46,48,46,48])]∧Below W.heap.size W w'):=hid (fun W h=>zxr e0 [121,97,110,107] (by decide) fds3 (by decide) (by decide) (by decide) W h)
 have HJ:Hid (∀W D v,TextR.OwnT W D v [str [121,97,110,107],str (id [97]),str (id [98]),str (id [49,46,48,46,48])]→Calls Tryz.prog 45 #[v,.string ⟨#[32]⟩] W fun e w'=>e= .returned (.string (str [121,97,110,107,32,97,32,98,32,49,46,48,46,48]))∧Below W.heap.size W w'):=hid (fun W D v ho=>by
  have h:=yis ho (by decide) ⟨#[32]⟩ (by decide) (by rw[yiv];decide);rw[yiv] at h;exact h)
 have HTW:Hid (∀W,Below (w.heap.size+1) (w.alloc (evO e0)) W→W.cell? ⟨1,3,none⟩=some (.string (str [121,97,110,107]))):=hid (fun W hb=>(hb.cell (Nat.lt_succ_of_lt (World.block_lt_of_cell? _ _ ht))).trans ((hB0.cell (World.block_lt_of_cell? _ _ ht)).trans ht));obtain⟨c0,c1,c2,c3,c4,c5,c6,c7,c8,c9⟩:=HC.out _ (Below.refl _ _);have HB:=hid hB0;have HS0:=hid hs0;clear hv hr hB0 hs0 ht;unfold e0 at*;go_enter Tryz.func19,Tryz.ntmps19;go_wp2_with fail;refine HM.out.mono ?_;rintro e1 w1 ⟨rfl,hb1⟩;have HB1:=hid (hb1.mono (Nat.le_of_eq HS0.out.symm));clear hb1 c0 c1 c2 c3 c4 c5 c6 c7 c8 c9;obtain⟨c0,c1,c2,c3,c4,c5,c6,c7,c8,c9⟩:=HC.out _ HB1.out;go_wp2_with fail;have HB2:Hid (Below (w.heap.size+1) (w.alloc (evO ⟨3,[97],[98],[49,46,48,46,48],none,0,[],0,0,0,[],[]⟩)) w1.drew):=hid (VerC.zgo HB1.out)
 go_region_held3 (fun w'=>w'.cell? ⟨w.heap.size,0,none⟩=some (.int .u8 3)∧w'.cell? ⟨w.heap.size,1,none⟩=some (.string (str [97]))∧w'.cell? ⟨w.heap.size,2,none⟩=some (.string (str [98]))∧w'.cell? ⟨w.heap.size,3,none⟩=some (.string (str [49,46,48,46,48]))∧w'.cell? ⟨w.heap.size,4,none⟩=some (.slice none 0 0)∧w'.cell? ⟨w.heap.size,5,none⟩=some (.int .u64 0)∧w'.cell? ⟨w.heap.size,6,none⟩=some (.int .u32 0)∧w'.cell? ⟨w.heap.size,7,none⟩=some (.int .u32 0)∧w'.cell? ⟨w.heap.size,8,none⟩=some (.string (str []))∧w'.cell? ⟨w.heap.size,9,none⟩=some (.string (str [])))
  (first|exact⟨c0,c1,c2,c3,c4,c5,c6,c7,c8,c9⟩|exact⟨VerC.zcx _ c0,VerC.zcx _ c1,VerC.zcx _ c2,VerC.zcx _ c3,VerC.zcx _ c4,VerC.zcx _ c5,VerC.zcx _ c6,VerC.zcx _ c7,VerC.zcx _ c8,VerC.zcx _ c9⟩|exact hk3|exact hk4|exact hk5|fail)
  (first
    | (go_at_call 52;refine(HAB.out _).mono ?_;rintro e w3 ⟨rfl,hb3⟩;have HB3:=hid (HB2.out.trans (hb3.mono (Nat.le_trans (Nat.le_of_eq HS0.out.symm) HB2.out.size)));have hk3:=HC.out _ HB3.out;clear hb3)
    | (go_at_call 47;refine(HEV.out _ (HTW.out _ HB3.out)).mono ?_;rintro e w4 ⟨v,rfl,ho4,hb4⟩;have HB4:=hid (HB3.out.trans (hb4.mono (Nat.le_trans (Nat.le_of_eq HS0.out.symm) HB3.out.size)));have hk4:=HC.out _ HB4.out;have HO4:=hid ho4;clear hb4 ho4)
    | (go_at_call 45;refine(HJ.out _ _ _ HO4.out).mono ?_;rintro e w5 ⟨rfl,hb5⟩;have HB5:=hid (HB4.out.trans (hb5.mono (Nat.le_trans (Nat.le_of_eq HS0.out.symm) HB4.out.size)));have hk5:=HC.out _ HB5.out;clear hb5)
    | fail)
 all_goals (go_wp2_with fail)
 all_goals go_ret2
 all_goals exact⟨rfl,HB.out.trans (HB5.out.mono (by omega))⟩
theorem yiw{w w':World}{e:Ending}(h:ReadP ⟨#[]⟩ w e w'):∃g f,e= .returned (.tuple #[evV (EvA.kindV 0),flt9 g])∧w'.heap[g]?=some (topO 0 f)∧IsFault w' f 0 (20:Nat) ⟨#[]⟩ (0:Nat)∧Below w.heap.size w w':=by
 have h0:(⟨#[]⟩:ByteArray).size=0:=rfl;have hD:readD ⟨#[]⟩=(EvA.kindV 0,false,0,20):=by simp[readD,fstR,h0]
 obtain⟨hb,hor⟩:=h;rw[hD] at hor;rcases hor with ⟨h1,-⟩|⟨-,h1,-⟩|⟨-,-,-,-,g,f,h1,-,h2,h3⟩
 · cases h1
 · cases h1
 · exact⟨g,f,h1,h2,h3,hb⟩
set_option maxRecDepth 100000 in
theorem yix(w:World)(hv:Vw w)(ht:w.cell? ⟨1,3,none⟩=some (.string (str [121,97,110,107]))):
 Calls Tryz.prog 10 #[] w fun e w'=>e= .returned (.bool true)∧Below w.heap.size w w':=by
 have hz:=heap_alloc_new w zO9;have hB1:Below w.heap.size w ((w.alloc zO9).setRow w.heap.size (evL e0).toArray):=below_setRow (alW w zO9) (Nat.le_refl _) _;have hr1:((w.alloc zO9).setRow w.heap.size (evL e0).toArray).heap[w.heap.size]?=some (evO e0):=setRow_heap _ _ _ _ _ _ hz;have hV1:=hv.gr hB1;have hs1:w.heap.size<((w.alloc zO9).setRow w.heap.size (evL e0).toArray).heap.size:=(Array.getElem?_eq_some_iff.1 hr1).1;have HK:=hid hs1;have ht1:=(hB1.cell (World.block_lt_of_cell? _ _ ht)).trans ht;have HB1:=hid hB1;have HBY:Hid (∀W,Vw W→Calls Tryz.prog 17 #[evV e0] W fun e w'=>e= .returned (.tuple #[.string ⟨#[3,1,97,1,98,5,49,46,48,46,48]⟩,.int .i64 0])∧Below W.heap.size W w'):=hid (fun W h=>yiu W h);have HTX:Hid (∀W,Vw W→W.cell? ⟨1,3,none⟩=some (.string (str [121,97,110,107]))→Calls Tryz.prog 19 #[evV e0] W fun e w'=>e= .returned (.tuple #[.string ⟨#[121,97,110,107,32,97,32,98,32,49,46,48,46,48]⟩,.int .i64 0])∧Below W.heap.size W w'):=hid (fun W h k=>text_e0 W h k);clear hB1 hs1;go_enter Tryz.func10,Tryz.ntmps10;go_wp2_with (first | (refine wpList_store_row rfl 27 _ _ rfl w.heap.size (evL e0).toArray rfl rfl _ _ hz zvk rfl (zvl _) ?_) | (refine wpList_load_row rfl 27 _ rfl w.heap.size rfl _ _ _ _ hr1 Tryz.underlying27 rfl zvk ?_)|fail)
 clear hz hv ht;have HR1:=hid hr1;have HV1:=hid hV1;have HT1:=hid ht1;clear hr1 hV1 ht1;generalize (w.alloc zO9).setRow w.heap.size (evL e0).toArray=w1 at*;refine(HBY.out _ HV1.out).mono ?_;rintro e w2 ⟨rfl,hb2⟩;have hr2:=(hb2.block w.heap.size HK.out).trans HR1.out;have HV2:=hid (HV1.out.gr hb2);have HT2:=hid ((hb2.cell (World.block_lt_of_cell? _ _ HT1.out)).trans HT1.out);have HB2:=hid hb2;clear hb2;go_wp2_with (first | (refine wpList_load_row rfl 27 _ rfl w.heap.size rfl _ _ _ _ hr2 Tryz.underlying27 rfl zvk ?_)|fail)
 refine(HTX.out _ HV2.out HT2.out).mono ?_;rintro e w3 ⟨rfl,hb3⟩;have HB3:=hid (chW HB2.out hb3);have HV3:=hid (HV2.out.gr hb3);clear hb3 hr2;go_wp2_with fail;refine(pread_any ⟨#[]⟩ _ (by decide) HV3.out).mono ?_;intro e w4 hr4;obtain⟨g,f,rfl,hg,hf,hb4⟩:=yiw hr4;have HB4:=hid (chW HB3.out hb4);have hz5:=heap_alloc_new w4 zO9;have hlg:=(Array.getElem?_eq_some_iff.1 hg).1;have hlf:=hf.lt
 have hg5:((w4.alloc zO9).setRow w4.heap.size (evL (EvA.kindV 0)).toArray).heap[g]?=some (topO 0 f):=by
  rw[setRow_other _ _ g _ (by omega),heap_alloc_old _ _ hlg];exact hg
 have hf5:IsFault ((w4.alloc zO9).setRow w4.heap.size (evL (EvA.kindV 0)).toArray) f 0 (20:Nat) ⟨#[]⟩ (0:Nat):=yhe hf (by rw[setRow_other _ _ f _ (by omega),heap_alloc_old _ _ hlf]);have HG5:=hid hg5;have HF5:=hid hf5;have HB5:Hid (Below w1.heap.size w1 ((w4.alloc zO9).setRow w4.heap.size (evL (EvA.kindV 0)).toArray)):=hid (below_setRow (chW HB4.out (alW w4 zO9)) HB4.out.size _);clear hb4 hg hf hlg hlf hg5 hf5;go_wp2_with (first | (refine wpList_store_row rfl 27 _ _ rfl w4.heap.size (evL (EvA.kindV 0)).toArray rfl rfl _ _ hz5 zvk rfl (zvl _) ?_)|fail)
 clear hz5;generalize (w4.alloc zO9).setRow w4.heap.size (evL (EvA.kindV 0)).toArray=w5 at*;have c0:w5.cell? ⟨g,0,none⟩=some (.int .i64 90):=by simp[World.cell?,HG5.out]
 have c3:w5.cell? ⟨g,3,none⟩=some (fV f):=by simp[World.cell?,HG5.out]
 refine(ygi g 90 _ _ w5 c0 c3).mono ?_;rintro e w6 ⟨rfl,hb6⟩;have d0:w6.cell? ⟨g,0,none⟩=some (.int .i64 90):=(hb6.cell (World.block_lt_of_cell? _ _ c0)).trans c0;have d3:w6.cell? ⟨g,3,none⟩=some (fV f):=(hb6.cell (World.block_lt_of_cell? _ _ c3)).trans c3;have hf6:=HF5.out.below hb6 HF5.out.lt;have b0:=hf6.code;have b3:=hf6.under;have HB6:=hid (chW HB5.out hb6);have HIS:=hid (ygj g f 90 20 (by decide) w6 d0 d3 b0 b3);clear c0 c3 d0 d3 b0 b3 hf6 hb6;go_wp2_with fail;refine HIS.out.mono ?_;rintro e w7 ⟨rfl,hb7⟩;have HB7:=hid (chW HB6.out hb7);clear hb7;go_wp2_with fail;go_ret;exact⟨rfl,HB1.out.trans (HB7.out.mono HB1.out.size)⟩
end EvR
end
end Go.Proofs.YtbninnkpjdofbaaGreatDoor
