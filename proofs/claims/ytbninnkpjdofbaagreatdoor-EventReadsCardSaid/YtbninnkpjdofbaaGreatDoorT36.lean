/-
  What the proof of EventReads stands on, part 36.
-/
import Derived.Test.YtbninnkpjdofbaaGreatDoorT33
set_option linter.unusedSimpArgs false
set_option linter.unusedVariables false
set_option maxHeartbeats 16000000
namespace Go.Proofs.YtbninnkpjdofbaaGreatDoor
open Go.Lib (hid)
section
open Go.RowKit Go.Sort
namespace EvA
open StrC EvF EvC TextR CodeM
theorem empty_t{l:B}(h:l=[]):(str l).toList.isEmpty=true:=by rw[ByteArray.toList_eq,zbp,h];rfl
theorem ygt{l:B}(h:¬l=[]):(str l).toList.isEmpty=false:=by rw[ByteArray.toList_eq,zbp];simp[h]
abbrev NamE(e:EvG)(w:World)(k c:Int)(b:Bool):Prop:=∀W,Below (w.alloc (evO e)).heap.size (w.alloc (evO e)) W→Calls Tryz.prog 74 #[.int .u8 k,.int .u8 c] W fun r w'=>r= .returned (.bool b)∧Hid (Below W.heap.size W w')∧Hid (Below (w.alloc (evO e)).heap.size (w.alloc (evO e)) w')∧w'.cell? ⟨w.heap.size,4,none⟩=some (.slice e.na e.needs.length e.nc)∧w'.cell? ⟨w.heap.size,5,none⟩=some (.int .u64 e.sum)∧w'.cell? ⟨w.heap.size,6,none⟩=some (.int .u32 e.n)∧w'.cell? ⟨w.heap.size,7,none⟩=some (.int .u32 e.size)∧w'.cell? ⟨w.heap.size,9,none⟩=some (.string (str e.note))
theorem ygu{e:EvG}{w W:World}(hb:Below (w.alloc (evO e)).heap.size (w.alloc (evO e)) W):W.heap[w.heap.size]?=some (evO e):=(hb.block _ (by simp)).trans (heap_alloc_new w (evO e))
theorem nm_at(e:EvG)(w:World){k:Nat}(c:UInt8)(ki ci:Int)(b:Bool)(hk:e.k=k)(h1:(k:Int)=ki)(h2:(c.toNat:Int)=ci)(h3:nm k c=b):Hid (NamE e w ki ci b):=hid (fun W h=>by
 subst h1 h2 h3;refine(zze k c W).mono ?_;rintro r w' ⟨rfl,rfl⟩;obtain⟨-,-,-,-,c4,c5,c6,c7,-,c9⟩:=zvb (ygu h);exact⟨rfl,hid (Below.refl _ _),hid h,c4,c5,c6,c7,c9⟩)
theorem ygv(e:EvG)(w:World)(hs:EvIn w e)(hk:1≤e.k∧e.k≤10):
 Hid (∀W,Below (w.alloc (evO e)).heap.size (w.alloc (evO e)) W→W.heap[w.heap.size]?=some (evO e))∧
 Hid (Calls Tryz.prog 73 #[.string (str e.who)] (w.alloc (evO e)) fun r w'=>r= .returned (.bool (NameM.holder e.who))∧Below (w.alloc (evO e)).heap.size (w.alloc (evO e)) w')∧
 Hid (∀W,Calls Tryz.prog 75 #[.string (str e.name)] W fun r w'=>r= .returned (.bool (NameM.isN e.name))∧Below W.heap.size W w')∧
 Hid (∀W,Calls Tryz.prog 76 #[.string (str e.ver)] W fun r w'=>r= .returned (.bool (VerM.isT e.ver))∧Below W.heap.size W w')∧
 Hid (∀W,Calls Tryz.prog 73 #[.string (str e.holder)] W fun r w'=>r= .returned (.bool (NameM.holder e.holder))∧Below W.heap.size W w')∧
 Hid (∀W,Calls Tryz.prog 73 #[.string (str e.note)] W fun r w'=>r= .returned (.bool (NameM.holder e.note))∧Below W.heap.size W w')∧
 Hid (∀W,Below w.heap.size w W→Calls Tryz.prog 77 #[.slice e.na e.needs.length e.nc] W fun r w'=>r= .returned (.bool (zzg e.needs))∧Below W.heap.size W w')∧
 Hid (mayD e=(NameM.holder e.who && (ydn (nm e.k 110) e.name (NameM.isN e.name) && (ydn (nm e.k 118) e.ver (VerM.isT e.ver) && (ydn (nm e.k 104) e.holder (NameM.holder e.holder) && (ydo e && ydp e))))))∧
 Hid (e.n≤4294967295∧e.size≤4294967295∧e.sum≤18446744073709551615∧e.note.length≤140737488351232∧e.needs.length*32≤140737488351232):=by
 have HHO:∀(l:B) W,l.length≤140737488351232→Calls Tryz.prog 73 #[.string (str l)] W fun r w'=>r= .returned (.bool (NameM.holder l))∧Below W.heap.size W w':=fun l W hl=>(NameC.zyy l W (by omega)).mono (fun _ _ h=>⟨h.1,h.2 ▸ Below.refl _ _⟩)
 exact⟨hid (fun W hb=>ygu hb),hid (HHO e.who _ hs.who),hid (fun W=>NameC.zyx e.name W (by have:=hs.name;omega)),hid (fun W=>VerC.rIs_any e.ver W),hid (fun W=>HHO e.holder W hs.holder),hid (fun W=>HHO e.note W hs.note),
  hid (fun W hb=>zzj e.na e.nc e.needs W (hs.needs.gr hb)),hid (by unfold mayD;rw[decide_eq_true hk];rfl),hid ⟨hs.n,hs.size,hs.sum,hs.note,hs.needs.few⟩⟩
theorem bw{w0 w W W2:World}(HB:Hid (Below w0.heap.size w0 w))(HI:Hid (Below w.heap.size w W))(h:Below W.heap.size W W2):Below w0.heap.size w0 W2:=HB.out.trans ((HI.out.trans (h.mono HI.out.size)).mono HB.out.size)
theorem em(l:B):((str l).toList.isEmpty=true∧Hid (l=[]))∨((str l).toList.isEmpty=false∧Hid (¬l=[])):=by
 by_cases h:l=[]
 · exact Or.inl ⟨empty_t h,hid h⟩
 · exact Or.inr ⟨ygt h,hid h⟩
theorem em_l(L:List (B×B)):(L.length=0∧Hid (L=[]))∨(0<L.length∧Hid (¬L=[])):=by
 cases L with
 | nil=>exact Or.inl ⟨rfl,hid rfl⟩
 | cons a r=>exact Or.inr ⟨by simp,hid (by simp)⟩
theorem em_n(n:Nat):(decide (1≤n)=true∧decide (n<1)=false∧decide ((1:Int)≤(n:Int))=true∧decide ((n:Int)<1)=false∧1≤n)∨(decide (1≤n)=false∧decide (n<1)=true∧decide ((1:Int)≤(n:Int))=false∧decide ((n:Int)<1)=true∧¬1≤n):=by
 by_cases h:1≤n
 · exact Or.inl ⟨decide_eq_true h,decide_eq_false (by omega),decide_eq_true (by omega),decide_eq_false (by omega),h⟩
 · exact Or.inr ⟨decide_eq_false h,decide_eq_true (by omega),decide_eq_false (by omega),decide_eq_true (by omega),h⟩
theorem em_s(n c:Nat)(ci:Int)(hc:(c:Int)=ci):(decide (n≤c)=true∧decide ((n:Int)≤ci)=true∧Hid (n≤c))∨(decide (n≤c)=false∧decide ((n:Int)≤ci)=false∧Hid (¬n≤c)):=by
 subst hc;by_cases h:n≤c
 · exact Or.inl ⟨decide_eq_true h,decide_eq_true (by omega),hid h⟩
 · exact Or.inr ⟨decide_eq_false h,decide_eq_false (by omega),hid h⟩
def RMayE(e:EvG)(w:World)(r:Ending)(w':World):Prop:=r= .returned (.bool (mayD e))∧Below w.heap.size w w'
set_option maxRecDepth 100000 in
theorem rmay_1(e:EvG)(hk:e.k=1)(w:World)(hs:EvIn w e):Calls Tryz.prog 30 #[evV e] w (RMayE e w):=by
 have HB:=hid (alW w (evO e));obtain⟨HRW,HWH,HIN,HIV,HIH,HIO,HNE,HMD,HLEN⟩:=ygv e w hs (by omega);have N110:=nm_at e w 110 1 110 false hk rfl rfl rfl;have N118:=nm_at e w 118 1 118 false hk rfl rfl rfl;have N104:=nm_at e w 104 1 104 false hk rfl rfl rfl;have N115:=nm_at e w 115 1 115 true hk rfl rfl rfl;have N78:=nm_at e w 78 1 78 false hk rfl rfl rfl;have N116:=nm_at e w 116 1 116 false hk rfl rfl rfl;rw[show nm e.k 110=false from by rw[hk];rfl,show nm e.k 118=false from by rw[hk];rfl,show nm e.k 104=false from by rw[hk];rfl] at HMD;have HK:=hid hk;obtain⟨c0,c1,-,-,-,-,-,-,-,-⟩:=zvb (HRW.out _ (Below.refl _ _));rw[hk] at c0;clear hs hk;generalize hmd:mayD e=md at*;unfold RMayE;rw[hmd];clear hmd;generalize hbw:NameM.holder e.who=bw at*;go_enter Tryz.func30,Tryz.ntmps30;rcases (Bool.eq_false_or_eq_true bw).symm with rfl|rfl
 · go_wp2_with (first | (go_at_call 73;refine HWH.out.mono ?_;rintro r w1 ⟨rfl,hb1⟩)|fail)
   go_ret;exact⟨by rw[HMD.out];rfl,HB.out.trans (hb1.mono HB.out.size)⟩
 go_wp2_with (first | (go_at_call 73;refine HWH.out.mono ?_;rintro r W1 ⟨rfl,hb1⟩;have HI:=hid hb1;clear hb1 c0 c1)|fail)
 skip
 have ce:W1.cell? ⟨w.heap.size,2,none⟩=some (.string (str e.name)):=by have h:=HRW.out _ HI.out;simp[World.cell?,h]
 have ke:=cell_regrown ce;clear ce;have cN:∀d os,Calls Tryz.prog 74 _ (Go.Sort.grow (redrawn W1 d) os) _:=fun d os=>Calls.regrown_of ((N110.out _ (HI.out.trans ((below_regrown W1 d os).mono HI.out.size))).mono (fun _ _ h=>⟨h.1,h.2.1.out⟩))
 have cI:∀d os,Calls Tryz.prog 75 _ (Go.Sort.grow (redrawn W1 d) os) _:=fun d os=>Calls.regrown_of (HIN.out _)
 rcases em e.name with ⟨hz,he110⟩|⟨hz,he110⟩
 all_goals
  refine wp_region_quiet_below (by kernel_rfl) (by kernel_rfl) ?_
  repeat (go_big_quiet_step (first|exact cN _ _|exact cI _ _))
  refine wpQuiet_nil ?_;intro _ hw';obtain⟨⟨dq,osq⟩,hw''⟩:=hw';subst hw''
 rotate_left
 · go_wp2_with fail
   go_ret;exact⟨by rw[HMD.out];simp[ydn,he110.out],bw HB HI (below_regrown W1 dq osq)⟩
 have HI2:=hid (HI.out.trans ((below_regrown W1 dq osq).mono HI.out.size));generalize Go.Sort.grow (redrawn W1 dq) osq=W2 at*;clear HI ke cN cI hz;have HI:=HI2;clear HI2;go_upto_region 6 with fail
 skip
 have ce:W2.cell? ⟨w.heap.size,3,none⟩=some (.string (str e.ver)):=by have h:=HRW.out _ HI.out;simp[World.cell?,h]
 have ke:=cell_regrown ce;clear ce;have cN:∀d os,Calls Tryz.prog 74 _ (Go.Sort.grow (redrawn W2 d) os) _:=fun d os=>Calls.regrown_of ((N118.out _ (HI.out.trans ((below_regrown W2 d os).mono HI.out.size))).mono (fun _ _ h=>⟨h.1,h.2.1.out⟩))
 have cI:∀d os,Calls Tryz.prog 76 _ (Go.Sort.grow (redrawn W2 d) os) _:=fun d os=>Calls.regrown_of (HIV.out _)
 rcases em e.ver with ⟨hz,he118⟩|⟨hz,he118⟩
 all_goals
  refine wp_region_quiet_below (by kernel_rfl) (by kernel_rfl) ?_
  repeat (go_big_quiet_step (first|exact cN _ _|exact cI _ _))
  refine wpQuiet_nil ?_;intro _ hw';obtain⟨⟨dq,osq⟩,hw''⟩:=hw';subst hw''
 rotate_left
 · go_wp2_with fail
   go_ret;exact⟨by rw[HMD.out];simp[ydn,he118.out],bw HB HI (below_regrown W2 dq osq)⟩
 have HI2:=hid (HI.out.trans ((below_regrown W2 dq osq).mono HI.out.size));generalize Go.Sort.grow (redrawn W2 dq) osq=W3 at*;clear HI ke cN cI hz;have HI:=HI2;clear HI2;go_upto_region 8 with fail
 skip
 have ce:W3.cell? ⟨w.heap.size,8,none⟩=some (.string (str e.holder)):=by have h:=HRW.out _ HI.out;simp[World.cell?,h]
 have ke:=cell_regrown ce;clear ce;have cN:∀d os,Calls Tryz.prog 74 _ (Go.Sort.grow (redrawn W3 d) os) _:=fun d os=>Calls.regrown_of ((N104.out _ (HI.out.trans ((below_regrown W3 d os).mono HI.out.size))).mono (fun _ _ h=>⟨h.1,h.2.1.out⟩))
 have cI:∀d os,Calls Tryz.prog 73 _ (Go.Sort.grow (redrawn W3 d) os) _:=fun d os=>Calls.regrown_of (HIH.out _)
 rcases em e.holder with ⟨hz,he104⟩|⟨hz,he104⟩
 all_goals
  refine wp_region_quiet_below (by kernel_rfl) (by kernel_rfl) ?_
  repeat (go_big_quiet_step (first|exact cN _ _|exact cI _ _))
  refine wpQuiet_nil ?_;intro _ hw';obtain⟨⟨dq,osq⟩,hw''⟩:=hw';subst hw''
 rotate_left
 · go_wp2_with fail
   go_ret;exact⟨by rw[HMD.out];simp[ydn,he104.out],bw HB HI (below_regrown W3 dq osq)⟩
 have HI2:=hid (HI.out.trans ((below_regrown W3 dq osq).mono HI.out.size));generalize Go.Sort.grow (redrawn W3 dq) osq=W4 at*;clear HI ke cN cI hz;have HI:=HI2;clear HI2;go_upto_region 10 with fail
 obtain⟨c0,c1,c2,c3,c4,c5,c6,c7,c8,c9⟩:=zvb (HRW.out _ HI.out);by_cases hn0:e.n=0
 by_cases hz0:e.size=0
 rcases em_l e.needs with ⟨hnd,hne⟩|⟨hnd,hne⟩
 rcases em e.note with ⟨hzn,hno⟩|⟨hzn,hno⟩
 all_goals (go_wp2_with (first
  | (go_at_call 74;with_reducible refine(N115.out _ HI.out).mono ?_;rintro r x0 ⟨rfl,-,HX0,c4,c5,c6,c7,c9⟩)
  | (go_at_call 74;with_reducible refine(N78.out _ HX0.out).mono ?_;rintro r x1 ⟨rfl,-,HX1,c4,c5,c6,c7,c9⟩)
  | (go_at_call 74;with_reducible refine(N116.out _ HX1.out).mono ?_;rintro r x2 ⟨rfl,-,HX2,c4,c5,c6,c7,c9⟩)
  | fail))
 all_goals go_ret
 · exact⟨by rw[HMD.out];simp[ydn,ydo,ydp,HK.out,nm,fldS,he110.out,he118.out,he104.out,hn0,hz0,hne.out,hno.out],HB.out.trans (HX2.out.mono HB.out.size)⟩
 · exact⟨by rw[HMD.out];simp[ydn,ydo,ydp,HK.out,nm,fldS,he110.out,he118.out,he104.out,hn0,hz0,hne.out,hno.out],HB.out.trans (HX2.out.mono HB.out.size)⟩
 · exact⟨by rw[HMD.out];simp[ydn,ydo,ydp,HK.out,nm,fldS,he110.out,he118.out,he104.out,hn0,hz0,hne.out],HB.out.trans (HX1.out.mono HB.out.size)⟩
 · exact⟨by rw[HMD.out];simp[ydn,ydo,ydp,HK.out,nm,fldS,he110.out,he118.out,he104.out,hn0,hz0],HB.out.trans (HX1.out.mono HB.out.size)⟩
 · exact⟨by rw[HMD.out];simp[ydn,ydo,ydp,HK.out,nm,fldS,he110.out,he118.out,he104.out,hn0],HB.out.trans (HX1.out.mono HB.out.size)⟩
set_option maxRecDepth 100000 in
theorem rmay_2(e:EvG)(hk:e.k=2)(w:World)(hs:EvIn w e):Calls Tryz.prog 30 #[evV e] w (RMayE e w):=by
 have HB:=hid (alW w (evO e));obtain⟨HRW,HWH,HIN,HIV,HIH,HIO,HNE,HMD,HLEN⟩:=ygv e w hs (by omega);have N110:=nm_at e w 110 2 110 true hk rfl rfl rfl;have N118:=nm_at e w 118 2 118 true hk rfl rfl rfl;have N104:=nm_at e w 104 2 104 false hk rfl rfl rfl;have N115:=nm_at e w 115 2 115 true hk rfl rfl rfl;have N78:=nm_at e w 78 2 78 true hk rfl rfl rfl;have N116:=nm_at e w 116 2 116 false hk rfl rfl rfl;rw[show nm e.k 110=true from by rw[hk];rfl,show nm e.k 118=true from by rw[hk];rfl,show nm e.k 104=false from by rw[hk];rfl] at HMD;have HK:=hid hk;obtain⟨c0,c1,-,-,-,-,-,-,-,-⟩:=zvb (HRW.out _ (Below.refl _ _));rw[hk] at c0;clear hs hk;generalize hmd:mayD e=md at*;unfold RMayE;rw[hmd];clear hmd;generalize hbw:NameM.holder e.who=bw at*;go_enter Tryz.func30,Tryz.ntmps30;rcases (Bool.eq_false_or_eq_true bw).symm with rfl|rfl
 · go_wp2_with (first | (go_at_call 73;refine HWH.out.mono ?_;rintro r w1 ⟨rfl,hb1⟩)|fail)
   go_ret;exact⟨by rw[HMD.out];rfl,HB.out.trans (hb1.mono HB.out.size)⟩
 go_wp2_with (first | (go_at_call 73;refine HWH.out.mono ?_;rintro r W1 ⟨rfl,hb1⟩;have HI:=hid hb1;clear hb1 c0 c1)|fail)
 generalize hb110:NameM.isN e.name=b110 at*;have ce:W1.cell? ⟨w.heap.size,2,none⟩=some (.string (str e.name)):=by have h:=HRW.out _ HI.out;simp[World.cell?,h]
 have ke:=cell_regrown ce;clear ce;have cN:∀d os,Calls Tryz.prog 74 _ (Go.Sort.grow (redrawn W1 d) os) _:=fun d os=>Calls.regrown_of ((N110.out _ (HI.out.trans ((below_regrown W1 d os).mono HI.out.size))).mono (fun _ _ h=>⟨h.1,h.2.1.out⟩))
 have cI:∀d os,Calls Tryz.prog 75 _ (Go.Sort.grow (redrawn W1 d) os) _:=fun d os=>Calls.regrown_of (HIN.out _)
 rcases em e.name with ⟨hz,he110⟩|⟨hz,he110⟩
 rotate_left
 rcases (Bool.eq_false_or_eq_true b110).symm with rfl|rfl
 all_goals
  refine wp_region_quiet_below (by kernel_rfl) (by kernel_rfl) ?_
  repeat (go_big_quiet_step (first|exact cN _ _|exact cI _ _))
  refine wpQuiet_nil ?_;intro _ hw';obtain⟨⟨dq,osq⟩,hw''⟩:=hw';subst hw''
 · go_wp2_with fail
   go_ret;exact⟨by rw[HMD.out];simp[ydn,he110.out],bw HB HI (below_regrown W1 dq osq)⟩
 rotate_left
 · go_wp2_with fail
   go_ret;exact⟨by rw[HMD.out];simp[ydn,he110.out],bw HB HI (below_regrown W1 dq osq)⟩
 have HI2:=hid (HI.out.trans ((below_regrown W1 dq osq).mono HI.out.size));generalize Go.Sort.grow (redrawn W1 dq) osq=W2 at*;clear HI ke cN cI hz;have HI:=HI2;clear HI2;go_upto_region 6 with fail
 generalize hb118:VerM.isT e.ver=b118 at*;have ce:W2.cell? ⟨w.heap.size,3,none⟩=some (.string (str e.ver)):=by have h:=HRW.out _ HI.out;simp[World.cell?,h]
 have ke:=cell_regrown ce;clear ce;have cN:∀d os,Calls Tryz.prog 74 _ (Go.Sort.grow (redrawn W2 d) os) _:=fun d os=>Calls.regrown_of ((N118.out _ (HI.out.trans ((below_regrown W2 d os).mono HI.out.size))).mono (fun _ _ h=>⟨h.1,h.2.1.out⟩))
 have cI:∀d os,Calls Tryz.prog 76 _ (Go.Sort.grow (redrawn W2 d) os) _:=fun d os=>Calls.regrown_of (HIV.out _)
 rcases em e.ver with ⟨hz,he118⟩|⟨hz,he118⟩
 rotate_left
 rcases (Bool.eq_false_or_eq_true b118).symm with rfl|rfl
 all_goals
  refine wp_region_quiet_below (by kernel_rfl) (by kernel_rfl) ?_
  repeat (go_big_quiet_step (first|exact cN _ _|exact cI _ _))
  refine wpQuiet_nil ?_;intro _ hw';obtain⟨⟨dq,osq⟩,hw''⟩:=hw';subst hw''
 · go_wp2_with fail
   go_ret;exact⟨by rw[HMD.out];simp[ydn,he118.out],bw HB HI (below_regrown W2 dq osq)⟩
 rotate_left
 · go_wp2_with fail
   go_ret;exact⟨by rw[HMD.out];simp[ydn,he118.out],bw HB HI (below_regrown W2 dq osq)⟩
 have HI2:=hid (HI.out.trans ((below_regrown W2 dq osq).mono HI.out.size));generalize Go.Sort.grow (redrawn W2 dq) osq=W3 at*;clear HI ke cN cI hz;have HI:=HI2;clear HI2;go_upto_region 8 with fail
 skip
 have ce:W3.cell? ⟨w.heap.size,8,none⟩=some (.string (str e.holder)):=by have h:=HRW.out _ HI.out;simp[World.cell?,h]
 have ke:=cell_regrown ce;clear ce;have cN:∀d os,Calls Tryz.prog 74 _ (Go.Sort.grow (redrawn W3 d) os) _:=fun d os=>Calls.regrown_of ((N104.out _ (HI.out.trans ((below_regrown W3 d os).mono HI.out.size))).mono (fun _ _ h=>⟨h.1,h.2.1.out⟩))
 have cI:∀d os,Calls Tryz.prog 73 _ (Go.Sort.grow (redrawn W3 d) os) _:=fun d os=>Calls.regrown_of (HIH.out _)
 rcases em e.holder with ⟨hz,he104⟩|⟨hz,he104⟩
 all_goals
  refine wp_region_quiet_below (by kernel_rfl) (by kernel_rfl) ?_
  repeat (go_big_quiet_step (first|exact cN _ _|exact cI _ _))
  refine wpQuiet_nil ?_;intro _ hw';obtain⟨⟨dq,osq⟩,hw''⟩:=hw';subst hw''
 rotate_left
 · go_wp2_with fail
   go_ret;exact⟨by rw[HMD.out];simp[ydn,he104.out],bw HB HI (below_regrown W3 dq osq)⟩
 have HI2:=hid (HI.out.trans ((below_regrown W3 dq osq).mono HI.out.size));generalize Go.Sort.grow (redrawn W3 dq) osq=W4 at*;clear HI ke cN cI hz;have HI:=HI2;clear HI2;go_upto_region 10 with fail
 obtain⟨c0,c1,c2,c3,c4,c5,c6,c7,c8,c9⟩:=zvb (HRW.out _ HI.out);rcases em e.note with ⟨hzn,hno⟩|⟨hzn,hno⟩
 rcases em_n e.n with ⟨d1,d2,d5,d6,hn1⟩|⟨d1,d2,d5,d6,hn1⟩
 rcases em_s e.size 65536 65536 rfl with ⟨d3,d4,hn2⟩|⟨d3,d4,hn2⟩
 all_goals (go_wp2_with (first
  | (go_at_call 74;with_reducible refine(N115.out _ HI.out).mono ?_;rintro r x0 ⟨rfl,-,HX0,c4,c5,c6,c7,c9⟩)
  | (go_at_call 74;with_reducible refine(N78.out _ HX0.out).mono ?_;rintro r x1 ⟨rfl,-,HX1,c4,c5,c6,c7,c9⟩)
  | (go_at_call 74;with_reducible refine(N116.out _ HX1.out).mono ?_;rintro r x2 ⟨rfl,-,HX2,c4,c5,c6,c7,c9⟩)
  | (go_at_call 77;refine(HNE.out _ (HB.out.trans (HX2.out.mono HB.out.size))).mono ?_;rintro r x3 ⟨rfl,hb5⟩)
  | fail))
 all_goals go_ret
 · exact⟨by rw[HMD.out];simp[ydn,ydo,ydp,HK.out,nm,fldS,he110.out,he118.out,he104.out,hno.out,hn1,hn2.out],HB.out.trans ((HX2.out.trans (hb5.mono HX2.out.size)).mono HB.out.size)⟩
 · exact⟨by rw[HMD.out];simp[ydn,ydo,ydp,HK.out,nm,fldS,he110.out,he118.out,he104.out,hno.out,hn1,hn2.out],HB.out.trans (HX2.out.mono HB.out.size)⟩
 · exact⟨by rw[HMD.out];simp[ydn,ydo,ydp,HK.out,nm,fldS,he110.out,he118.out,he104.out,hno.out,hn1],HB.out.trans (HX2.out.mono HB.out.size)⟩
 · exact⟨by rw[HMD.out];simp[ydn,ydo,ydp,HK.out,nm,fldS,he110.out,he118.out,he104.out,hno.out],HB.out.trans (HX2.out.mono HB.out.size)⟩
set_option maxRecDepth 100000 in
theorem ygw(e:EvG)(hk:e.k=3∨e.k=4)(w:World)(hs:EvIn w e):Calls Tryz.prog 30 #[evV e] w (RMayE e w):=by
 have HB:=hid (alW w (evO e));obtain⟨HRW,HWH,HIN,HIV,HIH,HIO,HNE,HMD,HLEN⟩:=ygv e w hs (by omega);have N110:=nm_at e w 110 e.k 110 true rfl rfl rfl (by rcases hk with h|h<;>rw[h]<;>rfl);have N118:=nm_at e w 118 e.k 118 true rfl rfl rfl (by rcases hk with h|h<;>rw[h]<;>rfl);have N104:=nm_at e w 104 e.k 104 false rfl rfl rfl (by rcases hk with h|h<;>rw[h]<;>rfl);have N115:=nm_at e w 115 e.k 115 false rfl rfl rfl (by rcases hk with h|h<;>rw[h]<;>rfl);have N78:=nm_at e w 78 e.k 78 false rfl rfl rfl (by rcases hk with h|h<;>rw[h]<;>rfl);have N116:=nm_at e w 116 e.k 116 false rfl rfl rfl (by rcases hk with h|h<;>rw[h]<;>rfl);rw[show nm e.k 110=true from by rcases hk with h|h<;>rw[h]<;>rfl,show nm e.k 118=true from by rcases hk with h|h<;>rw[h]<;>rfl,show nm e.k 104=false from by rcases hk with h|h<;>rw[h]<;>rfl] at HMD;have HK:=hid (show nm e.k 115=false∧nm e.k 78=false∧nm e.k 116=false from by rcases hk with h|h<;>rw[h]<;>exact⟨rfl,rfl,rfl⟩);have d2:¬e.k=2:=by omega
 have d5:¬e.k=5:=by omega
 have d9:¬e.k=9:=by omega
 have d10:¬e.k=10:=by omega
 have dl:decide (e.k<1)=false:=decide_eq_false (by omega);have dg:decide (10<e.k)=false:=decide_eq_false (by omega);have dl2:decide ((e.k:Int)<1)=false:=decide_eq_false (by omega);have dg2:decide ((10:Int)<(e.k:Int))=false:=decide_eq_false (by omega);have HKK:=hid hk;obtain⟨c0,c1,-,-,-,-,-,-,-,-⟩:=zvb (HRW.out _ (Below.refl _ _));clear hs hk;generalize hmd:mayD e=md at*;unfold RMayE;rw[hmd];clear hmd;generalize hbw:NameM.holder e.who=bw at*;go_enter Tryz.func30,Tryz.ntmps30;rcases (Bool.eq_false_or_eq_true bw).symm with rfl|rfl
 · go_wp2_with (first | (go_at_call 73;refine HWH.out.mono ?_;rintro r w1 ⟨rfl,hb1⟩)|fail)
   go_ret;exact⟨by rw[HMD.out];rfl,HB.out.trans (hb1.mono HB.out.size)⟩
 go_wp2_with (first | (go_at_call 73;refine HWH.out.mono ?_;rintro r W1 ⟨rfl,hb1⟩;have HI:=hid hb1;clear hb1 c0 c1)|fail)
 generalize hb110:NameM.isN e.name=b110 at*;have ce:W1.cell? ⟨w.heap.size,2,none⟩=some (.string (str e.name)):=by have h:=HRW.out _ HI.out;simp[World.cell?,h]
 have ke:=cell_regrown ce;clear ce;have cN:∀d os,Calls Tryz.prog 74 _ (Go.Sort.grow (redrawn W1 d) os) _:=fun d os=>Calls.regrown_of ((N110.out _ (HI.out.trans ((below_regrown W1 d os).mono HI.out.size))).mono (fun _ _ h=>⟨h.1,h.2.1.out⟩))
 have cI:∀d os,Calls Tryz.prog 75 _ (Go.Sort.grow (redrawn W1 d) os) _:=fun d os=>Calls.regrown_of (HIN.out _)
 rcases em e.name with ⟨hz,he110⟩|⟨hz,he110⟩
 rotate_left
 rcases (Bool.eq_false_or_eq_true b110).symm with rfl|rfl
 all_goals
  refine wp_region_quiet_below (by kernel_rfl) (by kernel_rfl) ?_
  repeat (go_big_quiet_step (first|exact cN _ _|exact cI _ _))
  refine wpQuiet_nil ?_;intro _ hw';obtain⟨⟨dq,osq⟩,hw''⟩:=hw';subst hw''
 · go_wp2_with fail
   go_ret;exact⟨by rw[HMD.out];simp[ydn,he110.out],bw HB HI (below_regrown W1 dq osq)⟩
 rotate_left
 · go_wp2_with fail
   go_ret;exact⟨by rw[HMD.out];simp[ydn,he110.out],bw HB HI (below_regrown W1 dq osq)⟩
 have HI2:=hid (HI.out.trans ((below_regrown W1 dq osq).mono HI.out.size));generalize Go.Sort.grow (redrawn W1 dq) osq=W2 at*;clear HI ke cN cI hz;have HI:=HI2;clear HI2;go_upto_region 6 with fail
 generalize hb118:VerM.isT e.ver=b118 at*;have ce:W2.cell? ⟨w.heap.size,3,none⟩=some (.string (str e.ver)):=by have h:=HRW.out _ HI.out;simp[World.cell?,h]
 have ke:=cell_regrown ce;clear ce;have cN:∀d os,Calls Tryz.prog 74 _ (Go.Sort.grow (redrawn W2 d) os) _:=fun d os=>Calls.regrown_of ((N118.out _ (HI.out.trans ((below_regrown W2 d os).mono HI.out.size))).mono (fun _ _ h=>⟨h.1,h.2.1.out⟩))
 have cI:∀d os,Calls Tryz.prog 76 _ (Go.Sort.grow (redrawn W2 d) os) _:=fun d os=>Calls.regrown_of (HIV.out _)
 rcases em e.ver with ⟨hz,he118⟩|⟨hz,he118⟩
 rotate_left
 rcases (Bool.eq_false_or_eq_true b118).symm with rfl|rfl
 all_goals
  refine wp_region_quiet_below (by kernel_rfl) (by kernel_rfl) ?_
  repeat (go_big_quiet_step (first|exact cN _ _|exact cI _ _))
  refine wpQuiet_nil ?_;intro _ hw';obtain⟨⟨dq,osq⟩,hw''⟩:=hw';subst hw''
 · go_wp2_with fail
   go_ret;exact⟨by rw[HMD.out];simp[ydn,he118.out],bw HB HI (below_regrown W2 dq osq)⟩
 rotate_left
 · go_wp2_with fail
   go_ret;exact⟨by rw[HMD.out];simp[ydn,he118.out],bw HB HI (below_regrown W2 dq osq)⟩
 have HI2:=hid (HI.out.trans ((below_regrown W2 dq osq).mono HI.out.size));generalize Go.Sort.grow (redrawn W2 dq) osq=W3 at*;clear HI ke cN cI hz;have HI:=HI2;clear HI2;go_upto_region 8 with fail
 skip
 have ce:W3.cell? ⟨w.heap.size,8,none⟩=some (.string (str e.holder)):=by have h:=HRW.out _ HI.out;simp[World.cell?,h]
 have ke:=cell_regrown ce;clear ce;have cN:∀d os,Calls Tryz.prog 74 _ (Go.Sort.grow (redrawn W3 d) os) _:=fun d os=>Calls.regrown_of ((N104.out _ (HI.out.trans ((below_regrown W3 d os).mono HI.out.size))).mono (fun _ _ h=>⟨h.1,h.2.1.out⟩))
 have cI:∀d os,Calls Tryz.prog 73 _ (Go.Sort.grow (redrawn W3 d) os) _:=fun d os=>Calls.regrown_of (HIH.out _)
 rcases em e.holder with ⟨hz,he104⟩|⟨hz,he104⟩
 all_goals
  refine wp_region_quiet_below (by kernel_rfl) (by kernel_rfl) ?_
  repeat (go_big_quiet_step (first|exact cN _ _|exact cI _ _))
  refine wpQuiet_nil ?_;intro _ hw';obtain⟨⟨dq,osq⟩,hw''⟩:=hw';subst hw''
 rotate_left
 · go_wp2_with fail
   go_ret;exact⟨by rw[HMD.out];simp[ydn,he104.out],bw HB HI (below_regrown W3 dq osq)⟩
 have HI2:=hid (HI.out.trans ((below_regrown W3 dq osq).mono HI.out.size));generalize Go.Sort.grow (redrawn W3 dq) osq=W4 at*;clear HI ke cN cI hz;have HI:=HI2;clear HI2;go_upto_region 10 with fail
 obtain⟨c0,c1,c2,c3,c4,c5,c6,c7,c8,c9⟩:=zvb (HRW.out _ HI.out);by_cases hsum:e.sum=0
 by_cases hn0:e.n=0
 by_cases hz0:e.size=0
 rcases em_l e.needs with ⟨hnd,hne⟩|⟨hnd,hne⟩
 rcases em e.note with ⟨hzn,hno⟩|⟨hzn,hno⟩
 all_goals (go_wp2_with (first
  | (go_at_call 74;with_reducible refine(N115.out _ HI.out).mono ?_;rintro r x0 ⟨rfl,-,HX0,c4,c5,c6,c7,c9⟩)
  | (go_at_call 74;with_reducible refine(N78.out _ HX0.out).mono ?_;rintro r x1 ⟨rfl,-,HX1,c4,c5,c6,c7,c9⟩)
  | (go_at_call 74;with_reducible refine(N116.out _ HX1.out).mono ?_;rintro r x2 ⟨rfl,-,HX2,c4,c5,c6,c7,c9⟩)
  | fail))
 all_goals go_ret
 · exact⟨by rw[HMD.out];simp[ydn,ydo,ydp,HK.out.1,HK.out.2.1,HK.out.2.2,show ¬e.k=2 from by rcases HKK.out with h|h<;>omega,show ¬e.k=5 from by rcases HKK.out with h|h<;>omega,show ¬e.k=9 from by rcases HKK.out with h|h<;>omega,show ¬e.k=10 from by rcases HKK.out with h|h<;>omega,he110.out,he118.out,he104.out,hsum,hn0,hz0,hne.out,hno.out],HB.out.trans (HX2.out.mono HB.out.size)⟩
 · exact⟨by rw[HMD.out];simp[ydn,ydo,ydp,HK.out.1,HK.out.2.1,HK.out.2.2,show ¬e.k=2 from by rcases HKK.out with h|h<;>omega,show ¬e.k=5 from by rcases HKK.out with h|h<;>omega,show ¬e.k=9 from by rcases HKK.out with h|h<;>omega,show ¬e.k=10 from by rcases HKK.out with h|h<;>omega,he110.out,he118.out,he104.out,hsum,hn0,hz0,hne.out,hno.out],HB.out.trans (HX2.out.mono HB.out.size)⟩
 · exact⟨by rw[HMD.out];simp[ydn,ydo,ydp,HK.out.1,HK.out.2.1,HK.out.2.2,show ¬e.k=2 from by rcases HKK.out with h|h<;>omega,show ¬e.k=5 from by rcases HKK.out with h|h<;>omega,show ¬e.k=9 from by rcases HKK.out with h|h<;>omega,show ¬e.k=10 from by rcases HKK.out with h|h<;>omega,he110.out,he118.out,he104.out,hsum,hn0,hz0,hne.out],HB.out.trans (HX1.out.mono HB.out.size)⟩
 · exact⟨by rw[HMD.out];simp[ydn,ydo,ydp,HK.out.1,HK.out.2.1,HK.out.2.2,show ¬e.k=2 from by rcases HKK.out with h|h<;>omega,show ¬e.k=5 from by rcases HKK.out with h|h<;>omega,show ¬e.k=9 from by rcases HKK.out with h|h<;>omega,show ¬e.k=10 from by rcases HKK.out with h|h<;>omega,he110.out,he118.out,he104.out,hsum,hn0,hz0],HB.out.trans (HX1.out.mono HB.out.size)⟩
 · exact⟨by rw[HMD.out];simp[ydn,ydo,ydp,HK.out.1,HK.out.2.1,HK.out.2.2,show ¬e.k=2 from by rcases HKK.out with h|h<;>omega,show ¬e.k=5 from by rcases HKK.out with h|h<;>omega,show ¬e.k=9 from by rcases HKK.out with h|h<;>omega,show ¬e.k=10 from by rcases HKK.out with h|h<;>omega,he110.out,he118.out,he104.out,hsum,hn0],HB.out.trans (HX1.out.mono HB.out.size)⟩
 · exact⟨by rw[HMD.out];simp[ydn,ydo,ydp,HK.out.1,HK.out.2.1,HK.out.2.2,show ¬e.k=2 from by rcases HKK.out with h|h<;>omega,show ¬e.k=5 from by rcases HKK.out with h|h<;>omega,show ¬e.k=9 from by rcases HKK.out with h|h<;>omega,show ¬e.k=10 from by rcases HKK.out with h|h<;>omega,he110.out,he118.out,he104.out,hsum],HB.out.trans (HX0.out.mono HB.out.size)⟩
set_option maxRecDepth 100000 in
theorem rmay_5(e:EvG)(hk:e.k=5)(w:World)(hs:EvIn w e):Calls Tryz.prog 30 #[evV e] w (RMayE e w):=by
 have HB:=hid (alW w (evO e));obtain⟨HRW,HWH,HIN,HIV,HIH,HIO,HNE,HMD,HLEN⟩:=ygv e w hs (by omega);have N110:=nm_at e w 110 5 110 true hk rfl rfl rfl;have N118:=nm_at e w 118 5 118 true hk rfl rfl rfl;have N104:=nm_at e w 104 5 104 false hk rfl rfl rfl;have N115:=nm_at e w 115 5 115 false hk rfl rfl rfl;have N78:=nm_at e w 78 5 78 false hk rfl rfl rfl;have N116:=nm_at e w 116 5 116 true hk rfl rfl rfl;rw[show nm e.k 110=true from by rw[hk];rfl,show nm e.k 118=true from by rw[hk];rfl,show nm e.k 104=false from by rw[hk];rfl] at HMD;have HK:=hid hk;obtain⟨c0,c1,-,-,-,-,-,-,-,-⟩:=zvb (HRW.out _ (Below.refl _ _));rw[hk] at c0;clear hs hk;generalize hmd:mayD e=md at*;unfold RMayE;rw[hmd];clear hmd;generalize hbw:NameM.holder e.who=bw at*;go_enter Tryz.func30,Tryz.ntmps30;rcases (Bool.eq_false_or_eq_true bw).symm with rfl|rfl
 · go_wp2_with (first | (go_at_call 73;refine HWH.out.mono ?_;rintro r w1 ⟨rfl,hb1⟩)|fail)
   go_ret;exact⟨by rw[HMD.out];rfl,HB.out.trans (hb1.mono HB.out.size)⟩
 go_wp2_with (first | (go_at_call 73;refine HWH.out.mono ?_;rintro r W1 ⟨rfl,hb1⟩;have HI:=hid hb1;clear hb1 c0 c1)|fail)
 generalize hb110:NameM.isN e.name=b110 at*;have ce:W1.cell? ⟨w.heap.size,2,none⟩=some (.string (str e.name)):=by have h:=HRW.out _ HI.out;simp[World.cell?,h]
 have ke:=cell_regrown ce;clear ce;have cN:∀d os,Calls Tryz.prog 74 _ (Go.Sort.grow (redrawn W1 d) os) _:=fun d os=>Calls.regrown_of ((N110.out _ (HI.out.trans ((below_regrown W1 d os).mono HI.out.size))).mono (fun _ _ h=>⟨h.1,h.2.1.out⟩))
 have cI:∀d os,Calls Tryz.prog 75 _ (Go.Sort.grow (redrawn W1 d) os) _:=fun d os=>Calls.regrown_of (HIN.out _)
 rcases em e.name with ⟨hz,he110⟩|⟨hz,he110⟩
 rotate_left
 rcases (Bool.eq_false_or_eq_true b110).symm with rfl|rfl
 all_goals
  refine wp_region_quiet_below (by kernel_rfl) (by kernel_rfl) ?_
  repeat (go_big_quiet_step (first|exact cN _ _|exact cI _ _))
  refine wpQuiet_nil ?_;intro _ hw';obtain⟨⟨dq,osq⟩,hw''⟩:=hw';subst hw''
 · go_wp2_with fail
   go_ret;exact⟨by rw[HMD.out];simp[ydn,he110.out],bw HB HI (below_regrown W1 dq osq)⟩
 rotate_left
 · go_wp2_with fail
   go_ret;exact⟨by rw[HMD.out];simp[ydn,he110.out],bw HB HI (below_regrown W1 dq osq)⟩
 have HI2:=hid (HI.out.trans ((below_regrown W1 dq osq).mono HI.out.size));generalize Go.Sort.grow (redrawn W1 dq) osq=W2 at*;clear HI ke cN cI hz;have HI:=HI2;clear HI2;go_upto_region 6 with fail
 generalize hb118:VerM.isT e.ver=b118 at*;have ce:W2.cell? ⟨w.heap.size,3,none⟩=some (.string (str e.ver)):=by have h:=HRW.out _ HI.out;simp[World.cell?,h]
 have ke:=cell_regrown ce;clear ce;have cN:∀d os,Calls Tryz.prog 74 _ (Go.Sort.grow (redrawn W2 d) os) _:=fun d os=>Calls.regrown_of ((N118.out _ (HI.out.trans ((below_regrown W2 d os).mono HI.out.size))).mono (fun _ _ h=>⟨h.1,h.2.1.out⟩))
 have cI:∀d os,Calls Tryz.prog 76 _ (Go.Sort.grow (redrawn W2 d) os) _:=fun d os=>Calls.regrown_of (HIV.out _)
 rcases em e.ver with ⟨hz,he118⟩|⟨hz,he118⟩
 rotate_left
 rcases (Bool.eq_false_or_eq_true b118).symm with rfl|rfl
 all_goals
  refine wp_region_quiet_below (by kernel_rfl) (by kernel_rfl) ?_
  repeat (go_big_quiet_step (first|exact cN _ _|exact cI _ _))
  refine wpQuiet_nil ?_;intro _ hw';obtain⟨⟨dq,osq⟩,hw''⟩:=hw';subst hw''
 · go_wp2_with fail
   go_ret;exact⟨by rw[HMD.out];simp[ydn,he118.out],bw HB HI (below_regrown W2 dq osq)⟩
 rotate_left
 · go_wp2_with fail
   go_ret;exact⟨by rw[HMD.out];simp[ydn,he118.out],bw HB HI (below_regrown W2 dq osq)⟩
 have HI2:=hid (HI.out.trans ((below_regrown W2 dq osq).mono HI.out.size));generalize Go.Sort.grow (redrawn W2 dq) osq=W3 at*;clear HI ke cN cI hz;have HI:=HI2;clear HI2;go_upto_region 8 with fail
 skip
 have ce:W3.cell? ⟨w.heap.size,8,none⟩=some (.string (str e.holder)):=by have h:=HRW.out _ HI.out;simp[World.cell?,h]
 have ke:=cell_regrown ce;clear ce;have cN:∀d os,Calls Tryz.prog 74 _ (Go.Sort.grow (redrawn W3 d) os) _:=fun d os=>Calls.regrown_of ((N104.out _ (HI.out.trans ((below_regrown W3 d os).mono HI.out.size))).mono (fun _ _ h=>⟨h.1,h.2.1.out⟩))
 have cI:∀d os,Calls Tryz.prog 73 _ (Go.Sort.grow (redrawn W3 d) os) _:=fun d os=>Calls.regrown_of (HIH.out _)
 rcases em e.holder with ⟨hz,he104⟩|⟨hz,he104⟩
 all_goals
  refine wp_region_quiet_below (by kernel_rfl) (by kernel_rfl) ?_
  repeat (go_big_quiet_step (first|exact cN _ _|exact cI _ _))
  refine wpQuiet_nil ?_;intro _ hw';obtain⟨⟨dq,osq⟩,hw''⟩:=hw';subst hw''
 rotate_left
 · go_wp2_with fail
   go_ret;exact⟨by rw[HMD.out];simp[ydn,he104.out],bw HB HI (below_regrown W3 dq osq)⟩
 have HI2:=hid (HI.out.trans ((below_regrown W3 dq osq).mono HI.out.size));generalize Go.Sort.grow (redrawn W3 dq) osq=W4 at*;clear HI ke cN cI hz;have HI:=HI2;clear HI2;go_upto_region 10 with fail
 obtain⟨c0,c1,c2,c3,c4,c5,c6,c7,c8,c9⟩:=zvb (HRW.out _ HI.out);by_cases hsum:e.sum=0
 by_cases hn0:e.n=0
 by_cases hz0:e.size=0
 rcases em_l e.needs with ⟨hnd,hne⟩|⟨hnd,hne⟩
 have hsz:=zbo e.note;rcases em_s e.note.length 256 256 rfl with ⟨d1,d2,hn1⟩|⟨d1,d2,hn1⟩
 all_goals (go_wp2_with (first
  | (go_at_call 74;with_reducible refine(N115.out _ HI.out).mono ?_;rintro r x0 ⟨rfl,-,HX0,c4,c5,c6,c7,c9⟩)
  | (go_at_call 74;with_reducible refine(N78.out _ HX0.out).mono ?_;rintro r x1 ⟨rfl,-,HX1,c4,c5,c6,c7,c9⟩)
  | (go_at_call 74;with_reducible refine(N116.out _ HX1.out).mono ?_;rintro r x2 ⟨rfl,-,HX2,c4,c5,c6,c7,c9⟩)
  | fail))
 all_goals go_ret
 · exact⟨by rw[HMD.out];simp[ydn,ydo,ydp,HK.out,nm,fldS,he110.out,he118.out,he104.out,hsum,hn0,hz0,hne.out,hn1.out],HB.out.trans (HX2.out.mono HB.out.size)⟩
 · exact⟨by rw[HMD.out];simp[ydn,ydo,ydp,HK.out,nm,fldS,he110.out,he118.out,he104.out,hsum,hn0,hz0,hne.out,hn1.out],HB.out.trans (HX2.out.mono HB.out.size)⟩
 · exact⟨by rw[HMD.out];simp[ydn,ydo,ydp,HK.out,nm,fldS,he110.out,he118.out,he104.out,hsum,hn0,hz0,hne.out],HB.out.trans (HX1.out.mono HB.out.size)⟩
 · exact⟨by rw[HMD.out];simp[ydn,ydo,ydp,HK.out,nm,fldS,he110.out,he118.out,he104.out,hsum,hn0,hz0],HB.out.trans (HX1.out.mono HB.out.size)⟩
 · exact⟨by rw[HMD.out];simp[ydn,ydo,ydp,HK.out,nm,fldS,he110.out,he118.out,he104.out,hsum,hn0],HB.out.trans (HX1.out.mono HB.out.size)⟩
 · exact⟨by rw[HMD.out];simp[ydn,ydo,ydp,HK.out,nm,fldS,he110.out,he118.out,he104.out,hsum],HB.out.trans (HX0.out.mono HB.out.size)⟩
set_option maxRecDepth 100000 in
theorem ygx(e:EvG)(hk:e.k=6∨e.k=7)(w:World)(hs:EvIn w e):Calls Tryz.prog 30 #[evV e] w (RMayE e w):=by
 have HB:=hid (alW w (evO e));obtain⟨HRW,HWH,HIN,HIV,HIH,HIO,HNE,HMD,HLEN⟩:=ygv e w hs (by omega);have N110:=nm_at e w 110 e.k 110 true rfl rfl rfl (by rcases hk with h|h<;>rw[h]<;>rfl);have N118:=nm_at e w 118 e.k 118 false rfl rfl rfl (by rcases hk with h|h<;>rw[h]<;>rfl);have N104:=nm_at e w 104 e.k 104 true rfl rfl rfl (by rcases hk with h|h<;>rw[h]<;>rfl);have N115:=nm_at e w 115 e.k 115 false rfl rfl rfl (by rcases hk with h|h<;>rw[h]<;>rfl);have N78:=nm_at e w 78 e.k 78 false rfl rfl rfl (by rcases hk with h|h<;>rw[h]<;>rfl);have N116:=nm_at e w 116 e.k 116 false rfl rfl rfl (by rcases hk with h|h<;>rw[h]<;>rfl);rw[show nm e.k 110=true from by rcases hk with h|h<;>rw[h]<;>rfl,show nm e.k 118=false from by rcases hk with h|h<;>rw[h]<;>rfl,show nm e.k 104=true from by rcases hk with h|h<;>rw[h]<;>rfl] at HMD;have HK:=hid (show nm e.k 115=false∧nm e.k 78=false∧nm e.k 116=false from by rcases hk with h|h<;>rw[h]<;>exact⟨rfl,rfl,rfl⟩);have d2:¬e.k=2:=by omega
 have d5:¬e.k=5:=by omega
 have d9:¬e.k=9:=by omega
 have d10:¬e.k=10:=by omega
 have dl:decide (e.k<1)=false:=decide_eq_false (by omega);have dg:decide (10<e.k)=false:=decide_eq_false (by omega);have dl2:decide ((e.k:Int)<1)=false:=decide_eq_false (by omega);have dg2:decide ((10:Int)<(e.k:Int))=false:=decide_eq_false (by omega);have HKK:=hid hk;obtain⟨c0,c1,-,-,-,-,-,-,-,-⟩:=zvb (HRW.out _ (Below.refl _ _));clear hs hk;generalize hmd:mayD e=md at*;unfold RMayE;rw[hmd];clear hmd;generalize hbw:NameM.holder e.who=bw at*;go_enter Tryz.func30,Tryz.ntmps30;rcases (Bool.eq_false_or_eq_true bw).symm with rfl|rfl
 · go_wp2_with (first | (go_at_call 73;refine HWH.out.mono ?_;rintro r w1 ⟨rfl,hb1⟩)|fail)
   go_ret;exact⟨by rw[HMD.out];rfl,HB.out.trans (hb1.mono HB.out.size)⟩
 go_wp2_with (first | (go_at_call 73;refine HWH.out.mono ?_;rintro r W1 ⟨rfl,hb1⟩;have HI:=hid hb1;clear hb1 c0 c1)|fail)
 generalize hb110:NameM.isN e.name=b110 at*;have ce:W1.cell? ⟨w.heap.size,2,none⟩=some (.string (str e.name)):=by have h:=HRW.out _ HI.out;simp[World.cell?,h]
 have ke:=cell_regrown ce;clear ce;have cN:∀d os,Calls Tryz.prog 74 _ (Go.Sort.grow (redrawn W1 d) os) _:=fun d os=>Calls.regrown_of ((N110.out _ (HI.out.trans ((below_regrown W1 d os).mono HI.out.size))).mono (fun _ _ h=>⟨h.1,h.2.1.out⟩))
 have cI:∀d os,Calls Tryz.prog 75 _ (Go.Sort.grow (redrawn W1 d) os) _:=fun d os=>Calls.regrown_of (HIN.out _)
 rcases em e.name with ⟨hz,he110⟩|⟨hz,he110⟩
 rotate_left
 rcases (Bool.eq_false_or_eq_true b110).symm with rfl|rfl
 all_goals
  refine wp_region_quiet_below (by kernel_rfl) (by kernel_rfl) ?_
  repeat (go_big_quiet_step (first|exact cN _ _|exact cI _ _))
  refine wpQuiet_nil ?_;intro _ hw';obtain⟨⟨dq,osq⟩,hw''⟩:=hw';subst hw''
 · go_wp2_with fail
   go_ret;exact⟨by rw[HMD.out];simp[ydn,he110.out],bw HB HI (below_regrown W1 dq osq)⟩
 rotate_left
 · go_wp2_with fail
   go_ret;exact⟨by rw[HMD.out];simp[ydn,he110.out],bw HB HI (below_regrown W1 dq osq)⟩
 have HI2:=hid (HI.out.trans ((below_regrown W1 dq osq).mono HI.out.size));generalize Go.Sort.grow (redrawn W1 dq) osq=W2 at*;clear HI ke cN cI hz;have HI:=HI2;clear HI2;go_upto_region 6 with fail
 skip
 have ce:W2.cell? ⟨w.heap.size,3,none⟩=some (.string (str e.ver)):=by have h:=HRW.out _ HI.out;simp[World.cell?,h]
 have ke:=cell_regrown ce;clear ce;have cN:∀d os,Calls Tryz.prog 74 _ (Go.Sort.grow (redrawn W2 d) os) _:=fun d os=>Calls.regrown_of ((N118.out _ (HI.out.trans ((below_regrown W2 d os).mono HI.out.size))).mono (fun _ _ h=>⟨h.1,h.2.1.out⟩))
 have cI:∀d os,Calls Tryz.prog 76 _ (Go.Sort.grow (redrawn W2 d) os) _:=fun d os=>Calls.regrown_of (HIV.out _)
 rcases em e.ver with ⟨hz,he118⟩|⟨hz,he118⟩
 all_goals
  refine wp_region_quiet_below (by kernel_rfl) (by kernel_rfl) ?_
  repeat (go_big_quiet_step (first|exact cN _ _|exact cI _ _))
  refine wpQuiet_nil ?_;intro _ hw';obtain⟨⟨dq,osq⟩,hw''⟩:=hw';subst hw''
 rotate_left
 · go_wp2_with fail
   go_ret;exact⟨by rw[HMD.out];simp[ydn,he118.out],bw HB HI (below_regrown W2 dq osq)⟩
 have HI2:=hid (HI.out.trans ((below_regrown W2 dq osq).mono HI.out.size));generalize Go.Sort.grow (redrawn W2 dq) osq=W3 at*;clear HI ke cN cI hz;have HI:=HI2;clear HI2;go_upto_region 8 with fail
 generalize hb104:NameM.holder e.holder=b104 at*;have ce:W3.cell? ⟨w.heap.size,8,none⟩=some (.string (str e.holder)):=by have h:=HRW.out _ HI.out;simp[World.cell?,h]
 have ke:=cell_regrown ce;clear ce;have cN:∀d os,Calls Tryz.prog 74 _ (Go.Sort.grow (redrawn W3 d) os) _:=fun d os=>Calls.regrown_of ((N104.out _ (HI.out.trans ((below_regrown W3 d os).mono HI.out.size))).mono (fun _ _ h=>⟨h.1,h.2.1.out⟩))
 have cI:∀d os,Calls Tryz.prog 73 _ (Go.Sort.grow (redrawn W3 d) os) _:=fun d os=>Calls.regrown_of (HIH.out _)
 rcases em e.holder with ⟨hz,he104⟩|⟨hz,he104⟩
 rotate_left
 rcases (Bool.eq_false_or_eq_true b104).symm with rfl|rfl
 all_goals
  refine wp_region_quiet_below (by kernel_rfl) (by kernel_rfl) ?_
  repeat (go_big_quiet_step (first|exact cN _ _|exact cI _ _))
  refine wpQuiet_nil ?_;intro _ hw';obtain⟨⟨dq,osq⟩,hw''⟩:=hw';subst hw''
 · go_wp2_with fail
   go_ret;exact⟨by rw[HMD.out];simp[ydn,he104.out],bw HB HI (below_regrown W3 dq osq)⟩
 rotate_left
 · go_wp2_with fail
   go_ret;exact⟨by rw[HMD.out];simp[ydn,he104.out],bw HB HI (below_regrown W3 dq osq)⟩
 have HI2:=hid (HI.out.trans ((below_regrown W3 dq osq).mono HI.out.size));generalize Go.Sort.grow (redrawn W3 dq) osq=W4 at*;clear HI ke cN cI hz;have HI:=HI2;clear HI2;go_upto_region 10 with fail
 obtain⟨c0,c1,c2,c3,c4,c5,c6,c7,c8,c9⟩:=zvb (HRW.out _ HI.out);by_cases hsum:e.sum=0
 by_cases hn0:e.n=0
 by_cases hz0:e.size=0
 rcases em_l e.needs with ⟨hnd,hne⟩|⟨hnd,hne⟩
 rcases em e.note with ⟨hzn,hno⟩|⟨hzn,hno⟩
 all_goals (go_wp2_with (first
  | (go_at_call 74;with_reducible refine(N115.out _ HI.out).mono ?_;rintro r x0 ⟨rfl,-,HX0,c4,c5,c6,c7,c9⟩)
  | (go_at_call 74;with_reducible refine(N78.out _ HX0.out).mono ?_;rintro r x1 ⟨rfl,-,HX1,c4,c5,c6,c7,c9⟩)
  | (go_at_call 74;with_reducible refine(N116.out _ HX1.out).mono ?_;rintro r x2 ⟨rfl,-,HX2,c4,c5,c6,c7,c9⟩)
  | fail))
 all_goals go_ret
 · exact⟨by rw[HMD.out];simp[ydn,ydo,ydp,HK.out.1,HK.out.2.1,HK.out.2.2,show ¬e.k=2 from by rcases HKK.out with h|h<;>omega,show ¬e.k=5 from by rcases HKK.out with h|h<;>omega,show ¬e.k=9 from by rcases HKK.out with h|h<;>omega,show ¬e.k=10 from by rcases HKK.out with h|h<;>omega,he110.out,he118.out,he104.out,hsum,hn0,hz0,hne.out,hno.out],HB.out.trans (HX2.out.mono HB.out.size)⟩
 · exact⟨by rw[HMD.out];simp[ydn,ydo,ydp,HK.out.1,HK.out.2.1,HK.out.2.2,show ¬e.k=2 from by rcases HKK.out with h|h<;>omega,show ¬e.k=5 from by rcases HKK.out with h|h<;>omega,show ¬e.k=9 from by rcases HKK.out with h|h<;>omega,show ¬e.k=10 from by rcases HKK.out with h|h<;>omega,he110.out,he118.out,he104.out,hsum,hn0,hz0,hne.out,hno.out],HB.out.trans (HX2.out.mono HB.out.size)⟩
 · exact⟨by rw[HMD.out];simp[ydn,ydo,ydp,HK.out.1,HK.out.2.1,HK.out.2.2,show ¬e.k=2 from by rcases HKK.out with h|h<;>omega,show ¬e.k=5 from by rcases HKK.out with h|h<;>omega,show ¬e.k=9 from by rcases HKK.out with h|h<;>omega,show ¬e.k=10 from by rcases HKK.out with h|h<;>omega,he110.out,he118.out,he104.out,hsum,hn0,hz0,hne.out],HB.out.trans (HX1.out.mono HB.out.size)⟩
 · exact⟨by rw[HMD.out];simp[ydn,ydo,ydp,HK.out.1,HK.out.2.1,HK.out.2.2,show ¬e.k=2 from by rcases HKK.out with h|h<;>omega,show ¬e.k=5 from by rcases HKK.out with h|h<;>omega,show ¬e.k=9 from by rcases HKK.out with h|h<;>omega,show ¬e.k=10 from by rcases HKK.out with h|h<;>omega,he110.out,he118.out,he104.out,hsum,hn0,hz0],HB.out.trans (HX1.out.mono HB.out.size)⟩
 · exact⟨by rw[HMD.out];simp[ydn,ydo,ydp,HK.out.1,HK.out.2.1,HK.out.2.2,show ¬e.k=2 from by rcases HKK.out with h|h<;>omega,show ¬e.k=5 from by rcases HKK.out with h|h<;>omega,show ¬e.k=9 from by rcases HKK.out with h|h<;>omega,show ¬e.k=10 from by rcases HKK.out with h|h<;>omega,he110.out,he118.out,he104.out,hsum,hn0],HB.out.trans (HX1.out.mono HB.out.size)⟩
 · exact⟨by rw[HMD.out];simp[ydn,ydo,ydp,HK.out.1,HK.out.2.1,HK.out.2.2,show ¬e.k=2 from by rcases HKK.out with h|h<;>omega,show ¬e.k=5 from by rcases HKK.out with h|h<;>omega,show ¬e.k=9 from by rcases HKK.out with h|h<;>omega,show ¬e.k=10 from by rcases HKK.out with h|h<;>omega,he110.out,he118.out,he104.out,hsum],HB.out.trans (HX0.out.mono HB.out.size)⟩
set_option maxRecDepth 100000 in
theorem rmay_8(e:EvG)(hk:e.k=8)(w:World)(hs:EvIn w e):Calls Tryz.prog 30 #[evV e] w (RMayE e w):=by
 have HB:=hid (alW w (evO e));obtain⟨HRW,HWH,HIN,HIV,HIH,HIO,HNE,HMD,HLEN⟩:=ygv e w hs (by omega);have N110:=nm_at e w 110 8 110 false hk rfl rfl rfl;have N118:=nm_at e w 118 8 118 false hk rfl rfl rfl;have N104:=nm_at e w 104 8 104 true hk rfl rfl rfl;have N115:=nm_at e w 115 8 115 false hk rfl rfl rfl;have N78:=nm_at e w 78 8 78 false hk rfl rfl rfl;have N116:=nm_at e w 116 8 116 false hk rfl rfl rfl;rw[show nm e.k 110=false from by rw[hk];rfl,show nm e.k 118=false from by rw[hk];rfl,show nm e.k 104=true from by rw[hk];rfl] at HMD;have HK:=hid hk;obtain⟨c0,c1,-,-,-,-,-,-,-,-⟩:=zvb (HRW.out _ (Below.refl _ _));rw[hk] at c0;clear hs hk;generalize hmd:mayD e=md at*;unfold RMayE;rw[hmd];clear hmd;generalize hbw:NameM.holder e.who=bw at*;go_enter Tryz.func30,Tryz.ntmps30;rcases (Bool.eq_false_or_eq_true bw).symm with rfl|rfl
 · go_wp2_with (first | (go_at_call 73;refine HWH.out.mono ?_;rintro r w1 ⟨rfl,hb1⟩)|fail)
   go_ret;exact⟨by rw[HMD.out];rfl,HB.out.trans (hb1.mono HB.out.size)⟩
 go_wp2_with (first | (go_at_call 73;refine HWH.out.mono ?_;rintro r W1 ⟨rfl,hb1⟩;have HI:=hid hb1;clear hb1 c0 c1)|fail)
 skip
 have ce:W1.cell? ⟨w.heap.size,2,none⟩=some (.string (str e.name)):=by have h:=HRW.out _ HI.out;simp[World.cell?,h]
 have ke:=cell_regrown ce;clear ce;have cN:∀d os,Calls Tryz.prog 74 _ (Go.Sort.grow (redrawn W1 d) os) _:=fun d os=>Calls.regrown_of ((N110.out _ (HI.out.trans ((below_regrown W1 d os).mono HI.out.size))).mono (fun _ _ h=>⟨h.1,h.2.1.out⟩))
 have cI:∀d os,Calls Tryz.prog 75 _ (Go.Sort.grow (redrawn W1 d) os) _:=fun d os=>Calls.regrown_of (HIN.out _)
 rcases em e.name with ⟨hz,he110⟩|⟨hz,he110⟩
 all_goals
  refine wp_region_quiet_below (by kernel_rfl) (by kernel_rfl) ?_
  repeat (go_big_quiet_step (first|exact cN _ _|exact cI _ _))
  refine wpQuiet_nil ?_;intro _ hw';obtain⟨⟨dq,osq⟩,hw''⟩:=hw';subst hw''
 rotate_left
 · go_wp2_with fail
   go_ret;exact⟨by rw[HMD.out];simp[ydn,he110.out],bw HB HI (below_regrown W1 dq osq)⟩
 have HI2:=hid (HI.out.trans ((below_regrown W1 dq osq).mono HI.out.size));generalize Go.Sort.grow (redrawn W1 dq) osq=W2 at*;clear HI ke cN cI hz;have HI:=HI2;clear HI2;go_upto_region 6 with fail
 skip
 have ce:W2.cell? ⟨w.heap.size,3,none⟩=some (.string (str e.ver)):=by have h:=HRW.out _ HI.out;simp[World.cell?,h]
 have ke:=cell_regrown ce;clear ce;have cN:∀d os,Calls Tryz.prog 74 _ (Go.Sort.grow (redrawn W2 d) os) _:=fun d os=>Calls.regrown_of ((N118.out _ (HI.out.trans ((below_regrown W2 d os).mono HI.out.size))).mono (fun _ _ h=>⟨h.1,h.2.1.out⟩))
 have cI:∀d os,Calls Tryz.prog 76 _ (Go.Sort.grow (redrawn W2 d) os) _:=fun d os=>Calls.regrown_of (HIV.out _)
 rcases em e.ver with ⟨hz,he118⟩|⟨hz,he118⟩
 all_goals
  refine wp_region_quiet_below (by kernel_rfl) (by kernel_rfl) ?_
  repeat (go_big_quiet_step (first|exact cN _ _|exact cI _ _))
  refine wpQuiet_nil ?_;intro _ hw';obtain⟨⟨dq,osq⟩,hw''⟩:=hw';subst hw''
 rotate_left
 · go_wp2_with fail
   go_ret;exact⟨by rw[HMD.out];simp[ydn,he118.out],bw HB HI (below_regrown W2 dq osq)⟩
 have HI2:=hid (HI.out.trans ((below_regrown W2 dq osq).mono HI.out.size));generalize Go.Sort.grow (redrawn W2 dq) osq=W3 at*;clear HI ke cN cI hz;have HI:=HI2;clear HI2;go_upto_region 8 with fail
 generalize hb104:NameM.holder e.holder=b104 at*;have ce:W3.cell? ⟨w.heap.size,8,none⟩=some (.string (str e.holder)):=by have h:=HRW.out _ HI.out;simp[World.cell?,h]
 have ke:=cell_regrown ce;clear ce;have cN:∀d os,Calls Tryz.prog 74 _ (Go.Sort.grow (redrawn W3 d) os) _:=fun d os=>Calls.regrown_of ((N104.out _ (HI.out.trans ((below_regrown W3 d os).mono HI.out.size))).mono (fun _ _ h=>⟨h.1,h.2.1.out⟩))
 have cI:∀d os,Calls Tryz.prog 73 _ (Go.Sort.grow (redrawn W3 d) os) _:=fun d os=>Calls.regrown_of (HIH.out _)
 rcases em e.holder with ⟨hz,he104⟩|⟨hz,he104⟩
 rotate_left
 rcases (Bool.eq_false_or_eq_true b104).symm with rfl|rfl
 all_goals
  refine wp_region_quiet_below (by kernel_rfl) (by kernel_rfl) ?_
  repeat (go_big_quiet_step (first|exact cN _ _|exact cI _ _))
  refine wpQuiet_nil ?_;intro _ hw';obtain⟨⟨dq,osq⟩,hw''⟩:=hw';subst hw''
 · go_wp2_with fail
   go_ret;exact⟨by rw[HMD.out];simp[ydn,he104.out],bw HB HI (below_regrown W3 dq osq)⟩
 rotate_left
 · go_wp2_with fail
   go_ret;exact⟨by rw[HMD.out];simp[ydn,he104.out],bw HB HI (below_regrown W3 dq osq)⟩
 have HI2:=hid (HI.out.trans ((below_regrown W3 dq osq).mono HI.out.size));generalize Go.Sort.grow (redrawn W3 dq) osq=W4 at*;clear HI ke cN cI hz;have HI:=HI2;clear HI2;go_upto_region 10 with fail
 obtain⟨c0,c1,c2,c3,c4,c5,c6,c7,c8,c9⟩:=zvb (HRW.out _ HI.out);by_cases hsum:e.sum=0
 by_cases hn0:e.n=0
 by_cases hz0:e.size=0
 rcases em_l e.needs with ⟨hnd,hne⟩|⟨hnd,hne⟩
 rcases em e.note with ⟨hzn,hno⟩|⟨hzn,hno⟩
 all_goals (go_wp2_with (first
  | (go_at_call 74;with_reducible refine(N115.out _ HI.out).mono ?_;rintro r x0 ⟨rfl,-,HX0,c4,c5,c6,c7,c9⟩)
  | (go_at_call 74;with_reducible refine(N78.out _ HX0.out).mono ?_;rintro r x1 ⟨rfl,-,HX1,c4,c5,c6,c7,c9⟩)
  | (go_at_call 74;with_reducible refine(N116.out _ HX1.out).mono ?_;rintro r x2 ⟨rfl,-,HX2,c4,c5,c6,c7,c9⟩)
  | fail))
 all_goals go_ret
 · exact⟨by rw[HMD.out];simp[ydn,ydo,ydp,HK.out,nm,fldS,he110.out,he118.out,he104.out,hsum,hn0,hz0,hne.out,hno.out],HB.out.trans (HX2.out.mono HB.out.size)⟩
 · exact⟨by rw[HMD.out];simp[ydn,ydo,ydp,HK.out,nm,fldS,he110.out,he118.out,he104.out,hsum,hn0,hz0,hne.out,hno.out],HB.out.trans (HX2.out.mono HB.out.size)⟩
 · exact⟨by rw[HMD.out];simp[ydn,ydo,ydp,HK.out,nm,fldS,he110.out,he118.out,he104.out,hsum,hn0,hz0,hne.out],HB.out.trans (HX1.out.mono HB.out.size)⟩
 · exact⟨by rw[HMD.out];simp[ydn,ydo,ydp,HK.out,nm,fldS,he110.out,he118.out,he104.out,hsum,hn0,hz0],HB.out.trans (HX1.out.mono HB.out.size)⟩
 · exact⟨by rw[HMD.out];simp[ydn,ydo,ydp,HK.out,nm,fldS,he110.out,he118.out,he104.out,hsum,hn0],HB.out.trans (HX1.out.mono HB.out.size)⟩
 · exact⟨by rw[HMD.out];simp[ydn,ydo,ydp,HK.out,nm,fldS,he110.out,he118.out,he104.out,hsum],HB.out.trans (HX0.out.mono HB.out.size)⟩
set_option maxRecDepth 100000 in
theorem rmay_9(e:EvG)(hk:e.k=9)(w:World)(hs:EvIn w e):Calls Tryz.prog 30 #[evV e] w (RMayE e w):=by
 have HB:=hid (alW w (evO e));obtain⟨HRW,HWH,HIN,HIV,HIH,HIO,HNE,HMD,HLEN⟩:=ygv e w hs (by omega);have N110:=nm_at e w 110 9 110 false hk rfl rfl rfl;have N118:=nm_at e w 118 9 118 false hk rfl rfl rfl;have N104:=nm_at e w 104 9 104 true hk rfl rfl rfl;have N115:=nm_at e w 115 9 115 false hk rfl rfl rfl;have N78:=nm_at e w 78 9 78 false hk rfl rfl rfl;have N116:=nm_at e w 116 9 116 true hk rfl rfl rfl;rw[show nm e.k 110=false from by rw[hk];rfl,show nm e.k 118=false from by rw[hk];rfl,show nm e.k 104=true from by rw[hk];rfl] at HMD;have HK:=hid hk;obtain⟨c0,c1,-,-,-,-,-,-,-,-⟩:=zvb (HRW.out _ (Below.refl _ _));rw[hk] at c0;clear hs hk;generalize hmd:mayD e=md at*;unfold RMayE;rw[hmd];clear hmd;generalize hbw:NameM.holder e.who=bw at*;go_enter Tryz.func30,Tryz.ntmps30;rcases (Bool.eq_false_or_eq_true bw).symm with rfl|rfl
 · go_wp2_with (first | (go_at_call 73;refine HWH.out.mono ?_;rintro r w1 ⟨rfl,hb1⟩)|fail)
   go_ret;exact⟨by rw[HMD.out];rfl,HB.out.trans (hb1.mono HB.out.size)⟩
 go_wp2_with (first | (go_at_call 73;refine HWH.out.mono ?_;rintro r W1 ⟨rfl,hb1⟩;have HI:=hid hb1;clear hb1 c0 c1)|fail)
 skip
 have ce:W1.cell? ⟨w.heap.size,2,none⟩=some (.string (str e.name)):=by have h:=HRW.out _ HI.out;simp[World.cell?,h]
 have ke:=cell_regrown ce;clear ce;have cN:∀d os,Calls Tryz.prog 74 _ (Go.Sort.grow (redrawn W1 d) os) _:=fun d os=>Calls.regrown_of ((N110.out _ (HI.out.trans ((below_regrown W1 d os).mono HI.out.size))).mono (fun _ _ h=>⟨h.1,h.2.1.out⟩))
 have cI:∀d os,Calls Tryz.prog 75 _ (Go.Sort.grow (redrawn W1 d) os) _:=fun d os=>Calls.regrown_of (HIN.out _)
 rcases em e.name with ⟨hz,he110⟩|⟨hz,he110⟩
 all_goals
  refine wp_region_quiet_below (by kernel_rfl) (by kernel_rfl) ?_
  repeat (go_big_quiet_step (first|exact cN _ _|exact cI _ _))
  refine wpQuiet_nil ?_;intro _ hw';obtain⟨⟨dq,osq⟩,hw''⟩:=hw';subst hw''
 rotate_left
 · go_wp2_with fail
   go_ret;exact⟨by rw[HMD.out];simp[ydn,he110.out],bw HB HI (below_regrown W1 dq osq)⟩
 have HI2:=hid (HI.out.trans ((below_regrown W1 dq osq).mono HI.out.size));generalize Go.Sort.grow (redrawn W1 dq) osq=W2 at*;clear HI ke cN cI hz;have HI:=HI2;clear HI2;go_upto_region 6 with fail
 skip
 have ce:W2.cell? ⟨w.heap.size,3,none⟩=some (.string (str e.ver)):=by have h:=HRW.out _ HI.out;simp[World.cell?,h]
 have ke:=cell_regrown ce;clear ce;have cN:∀d os,Calls Tryz.prog 74 _ (Go.Sort.grow (redrawn W2 d) os) _:=fun d os=>Calls.regrown_of ((N118.out _ (HI.out.trans ((below_regrown W2 d os).mono HI.out.size))).mono (fun _ _ h=>⟨h.1,h.2.1.out⟩))
 have cI:∀d os,Calls Tryz.prog 76 _ (Go.Sort.grow (redrawn W2 d) os) _:=fun d os=>Calls.regrown_of (HIV.out _)
 rcases em e.ver with ⟨hz,he118⟩|⟨hz,he118⟩
 all_goals
  refine wp_region_quiet_below (by kernel_rfl) (by kernel_rfl) ?_
  repeat (go_big_quiet_step (first|exact cN _ _|exact cI _ _))
  refine wpQuiet_nil ?_;intro _ hw';obtain⟨⟨dq,osq⟩,hw''⟩:=hw';subst hw''
 rotate_left
 · go_wp2_with fail
   go_ret;exact⟨by rw[HMD.out];simp[ydn,he118.out],bw HB HI (below_regrown W2 dq osq)⟩
 have HI2:=hid (HI.out.trans ((below_regrown W2 dq osq).mono HI.out.size));generalize Go.Sort.grow (redrawn W2 dq) osq=W3 at*;clear HI ke cN cI hz;have HI:=HI2;clear HI2;go_upto_region 8 with fail
 generalize hb104:NameM.holder e.holder=b104 at*;have ce:W3.cell? ⟨w.heap.size,8,none⟩=some (.string (str e.holder)):=by have h:=HRW.out _ HI.out;simp[World.cell?,h]
 have ke:=cell_regrown ce;clear ce;have cN:∀d os,Calls Tryz.prog 74 _ (Go.Sort.grow (redrawn W3 d) os) _:=fun d os=>Calls.regrown_of ((N104.out _ (HI.out.trans ((below_regrown W3 d os).mono HI.out.size))).mono (fun _ _ h=>⟨h.1,h.2.1.out⟩))
 have cI:∀d os,Calls Tryz.prog 73 _ (Go.Sort.grow (redrawn W3 d) os) _:=fun d os=>Calls.regrown_of (HIH.out _)
 rcases em e.holder with ⟨hz,he104⟩|⟨hz,he104⟩
 rotate_left
 rcases (Bool.eq_false_or_eq_true b104).symm with rfl|rfl
 all_goals
  refine wp_region_quiet_below (by kernel_rfl) (by kernel_rfl) ?_
  repeat (go_big_quiet_step (first|exact cN _ _|exact cI _ _))
  refine wpQuiet_nil ?_;intro _ hw';obtain⟨⟨dq,osq⟩,hw''⟩:=hw';subst hw''
 · go_wp2_with fail
   go_ret;exact⟨by rw[HMD.out];simp[ydn,he104.out],bw HB HI (below_regrown W3 dq osq)⟩
 rotate_left
 · go_wp2_with fail
   go_ret;exact⟨by rw[HMD.out];simp[ydn,he104.out],bw HB HI (below_regrown W3 dq osq)⟩
 have HI2:=hid (HI.out.trans ((below_regrown W3 dq osq).mono HI.out.size));generalize Go.Sort.grow (redrawn W3 dq) osq=W4 at*;clear HI ke cN cI hz;have HI:=HI2;clear HI2;go_upto_region 10 with fail
 obtain⟨c0,c1,c2,c3,c4,c5,c6,c7,c8,c9⟩:=zvb (HRW.out _ HI.out);by_cases hsum:e.sum=0
 by_cases hn0:e.n=0
 by_cases hz0:e.size=0
 rcases em_l e.needs with ⟨hnd,hne⟩|⟨hnd,hne⟩
 all_goals (go_wp2_with (first
  | (go_at_call 74;with_reducible refine(N115.out _ HI.out).mono ?_;rintro r x0 ⟨rfl,-,HX0,c4,c5,c6,c7,c9⟩)
  | (go_at_call 74;with_reducible refine(N78.out _ HX0.out).mono ?_;rintro r x1 ⟨rfl,-,HX1,c4,c5,c6,c7,c9⟩)
  | (go_at_call 74;with_reducible refine(N116.out _ HX1.out).mono ?_;rintro r x2 ⟨rfl,-,HX2,c4,c5,c6,c7,c9⟩)
  | (go_at_call 73;refine(HIO.out _).mono ?_;rintro r x3 ⟨rfl,hb5⟩)
  | fail))
 all_goals go_ret
 · exact⟨by rw[HMD.out];simp[ydn,ydo,ydp,HK.out,nm,fldS,he110.out,he118.out,he104.out,hsum,hn0,hz0,hne.out],HB.out.trans ((HX2.out.trans (hb5.mono HX2.out.size)).mono HB.out.size)⟩
 · exact⟨by rw[HMD.out];simp[ydn,ydo,ydp,HK.out,nm,fldS,he110.out,he118.out,he104.out,hsum,hn0,hz0,hne.out],HB.out.trans (HX1.out.mono HB.out.size)⟩
 · exact⟨by rw[HMD.out];simp[ydn,ydo,ydp,HK.out,nm,fldS,he110.out,he118.out,he104.out,hsum,hn0,hz0],HB.out.trans (HX1.out.mono HB.out.size)⟩
 · exact⟨by rw[HMD.out];simp[ydn,ydo,ydp,HK.out,nm,fldS,he110.out,he118.out,he104.out,hsum,hn0],HB.out.trans (HX1.out.mono HB.out.size)⟩
 · exact⟨by rw[HMD.out];simp[ydn,ydo,ydp,HK.out,nm,fldS,he110.out,he118.out,he104.out,hsum],HB.out.trans (HX0.out.mono HB.out.size)⟩
set_option maxRecDepth 100000 in
theorem rmay_10(e:EvG)(hk:e.k=10)(w:World)(hs:EvIn w e):Calls Tryz.prog 30 #[evV e] w (RMayE e w):=by
 have HB:=hid (alW w (evO e));obtain⟨HRW,HWH,HIN,HIV,HIH,HIO,HNE,HMD,HLEN⟩:=ygv e w hs (by omega);have N110:=nm_at e w 110 10 110 false hk rfl rfl rfl;have N118:=nm_at e w 118 10 118 false hk rfl rfl rfl;have N104:=nm_at e w 104 10 104 true hk rfl rfl rfl;have N115:=nm_at e w 115 10 115 false hk rfl rfl rfl;have N78:=nm_at e w 78 10 78 false hk rfl rfl rfl;have N116:=nm_at e w 116 10 116 true hk rfl rfl rfl;rw[show nm e.k 110=false from by rw[hk];rfl,show nm e.k 118=false from by rw[hk];rfl,show nm e.k 104=true from by rw[hk];rfl] at HMD;have HK:=hid hk;obtain⟨c0,c1,-,-,-,-,-,-,-,-⟩:=zvb (HRW.out _ (Below.refl _ _));rw[hk] at c0;clear hs hk;generalize hmd:mayD e=md at*;unfold RMayE;rw[hmd];clear hmd;generalize hbw:NameM.holder e.who=bw at*;go_enter Tryz.func30,Tryz.ntmps30;rcases (Bool.eq_false_or_eq_true bw).symm with rfl|rfl
 · go_wp2_with (first | (go_at_call 73;refine HWH.out.mono ?_;rintro r w1 ⟨rfl,hb1⟩)|fail)
   go_ret;exact⟨by rw[HMD.out];rfl,HB.out.trans (hb1.mono HB.out.size)⟩
 go_wp2_with (first | (go_at_call 73;refine HWH.out.mono ?_;rintro r W1 ⟨rfl,hb1⟩;have HI:=hid hb1;clear hb1 c0 c1)|fail)
 skip
 have ce:W1.cell? ⟨w.heap.size,2,none⟩=some (.string (str e.name)):=by have h:=HRW.out _ HI.out;simp[World.cell?,h]
 have ke:=cell_regrown ce;clear ce;have cN:∀d os,Calls Tryz.prog 74 _ (Go.Sort.grow (redrawn W1 d) os) _:=fun d os=>Calls.regrown_of ((N110.out _ (HI.out.trans ((below_regrown W1 d os).mono HI.out.size))).mono (fun _ _ h=>⟨h.1,h.2.1.out⟩))
 have cI:∀d os,Calls Tryz.prog 75 _ (Go.Sort.grow (redrawn W1 d) os) _:=fun d os=>Calls.regrown_of (HIN.out _)
 rcases em e.name with ⟨hz,he110⟩|⟨hz,he110⟩
 all_goals
  refine wp_region_quiet_below (by kernel_rfl) (by kernel_rfl) ?_
  repeat (go_big_quiet_step (first|exact cN _ _|exact cI _ _))
  refine wpQuiet_nil ?_;intro _ hw';obtain⟨⟨dq,osq⟩,hw''⟩:=hw';subst hw''
 rotate_left
 · go_wp2_with fail
   go_ret;exact⟨by rw[HMD.out];simp[ydn,he110.out],bw HB HI (below_regrown W1 dq osq)⟩
 have HI2:=hid (HI.out.trans ((below_regrown W1 dq osq).mono HI.out.size));generalize Go.Sort.grow (redrawn W1 dq) osq=W2 at*;clear HI ke cN cI hz;have HI:=HI2;clear HI2;go_upto_region 6 with fail
 skip
 have ce:W2.cell? ⟨w.heap.size,3,none⟩=some (.string (str e.ver)):=by have h:=HRW.out _ HI.out;simp[World.cell?,h]
 have ke:=cell_regrown ce;clear ce;have cN:∀d os,Calls Tryz.prog 74 _ (Go.Sort.grow (redrawn W2 d) os) _:=fun d os=>Calls.regrown_of ((N118.out _ (HI.out.trans ((below_regrown W2 d os).mono HI.out.size))).mono (fun _ _ h=>⟨h.1,h.2.1.out⟩))
 have cI:∀d os,Calls Tryz.prog 76 _ (Go.Sort.grow (redrawn W2 d) os) _:=fun d os=>Calls.regrown_of (HIV.out _)
 rcases em e.ver with ⟨hz,he118⟩|⟨hz,he118⟩
 all_goals
  refine wp_region_quiet_below (by kernel_rfl) (by kernel_rfl) ?_
  repeat (go_big_quiet_step (first|exact cN _ _|exact cI _ _))
  refine wpQuiet_nil ?_;intro _ hw';obtain⟨⟨dq,osq⟩,hw''⟩:=hw';subst hw''
 rotate_left
 · go_wp2_with fail
   go_ret;exact⟨by rw[HMD.out];simp[ydn,he118.out],bw HB HI (below_regrown W2 dq osq)⟩
 have HI2:=hid (HI.out.trans ((below_regrown W2 dq osq).mono HI.out.size));generalize Go.Sort.grow (redrawn W2 dq) osq=W3 at*;clear HI ke cN cI hz;have HI:=HI2;clear HI2;go_upto_region 8 with fail
 generalize hb104:NameM.holder e.holder=b104 at*;have ce:W3.cell? ⟨w.heap.size,8,none⟩=some (.string (str e.holder)):=by have h:=HRW.out _ HI.out;simp[World.cell?,h]
 have ke:=cell_regrown ce;clear ce;have cN:∀d os,Calls Tryz.prog 74 _ (Go.Sort.grow (redrawn W3 d) os) _:=fun d os=>Calls.regrown_of ((N104.out _ (HI.out.trans ((below_regrown W3 d os).mono HI.out.size))).mono (fun _ _ h=>⟨h.1,h.2.1.out⟩))
 have cI:∀d os,Calls Tryz.prog 73 _ (Go.Sort.grow (redrawn W3 d) os) _:=fun d os=>Calls.regrown_of (HIH.out _)
 rcases em e.holder with ⟨hz,he104⟩|⟨hz,he104⟩
 rotate_left
 rcases (Bool.eq_false_or_eq_true b104).symm with rfl|rfl
 all_goals
  refine wp_region_quiet_below (by kernel_rfl) (by kernel_rfl) ?_
  repeat (go_big_quiet_step (first|exact cN _ _|exact cI _ _))
  refine wpQuiet_nil ?_;intro _ hw';obtain⟨⟨dq,osq⟩,hw''⟩:=hw';subst hw''
 · go_wp2_with fail
   go_ret;exact⟨by rw[HMD.out];simp[ydn,he104.out],bw HB HI (below_regrown W3 dq osq)⟩
 rotate_left
 · go_wp2_with fail
   go_ret;exact⟨by rw[HMD.out];simp[ydn,he104.out],bw HB HI (below_regrown W3 dq osq)⟩
 have HI2:=hid (HI.out.trans ((below_regrown W3 dq osq).mono HI.out.size));generalize Go.Sort.grow (redrawn W3 dq) osq=W4 at*;clear HI ke cN cI hz;have HI:=HI2;clear HI2;go_upto_region 10 with fail
 obtain⟨c0,c1,c2,c3,c4,c5,c6,c7,c8,c9⟩:=zvb (HRW.out _ HI.out);by_cases hsum:e.sum=0
 by_cases hn0:e.n=0
 by_cases hz0:e.size=0
 rcases em_l e.needs with ⟨hnd,hne⟩|⟨hnd,hne⟩
 all_goals (go_wp2_with (first
  | (go_at_call 74;with_reducible refine(N115.out _ HI.out).mono ?_;rintro r x0 ⟨rfl,-,HX0,c4,c5,c6,c7,c9⟩)
  | (go_at_call 74;with_reducible refine(N78.out _ HX0.out).mono ?_;rintro r x1 ⟨rfl,-,HX1,c4,c5,c6,c7,c9⟩)
  | (go_at_call 74;with_reducible refine(N116.out _ HX1.out).mono ?_;rintro r x2 ⟨rfl,-,HX2,c4,c5,c6,c7,c9⟩)
  | (go_at_call 73;refine(HIO.out _).mono ?_;rintro r x3 ⟨rfl,hb5⟩)
  | fail))
 all_goals go_ret
 · exact⟨by rw[HMD.out];simp[ydn,ydo,ydp,HK.out,nm,fldS,he110.out,he118.out,he104.out,hsum,hn0,hz0,hne.out],HB.out.trans ((HX2.out.trans (hb5.mono HX2.out.size)).mono HB.out.size)⟩
 · exact⟨by rw[HMD.out];simp[ydn,ydo,ydp,HK.out,nm,fldS,he110.out,he118.out,he104.out,hsum,hn0,hz0,hne.out],HB.out.trans (HX1.out.mono HB.out.size)⟩
 · exact⟨by rw[HMD.out];simp[ydn,ydo,ydp,HK.out,nm,fldS,he110.out,he118.out,he104.out,hsum,hn0,hz0],HB.out.trans (HX1.out.mono HB.out.size)⟩
 · exact⟨by rw[HMD.out];simp[ydn,ydo,ydp,HK.out,nm,fldS,he110.out,he118.out,he104.out,hsum,hn0],HB.out.trans (HX1.out.mono HB.out.size)⟩
 · exact⟨by rw[HMD.out];simp[ydn,ydo,ydp,HK.out,nm,fldS,he110.out,he118.out,he104.out,hsum],HB.out.trans (HX0.out.mono HB.out.size)⟩
theorem rmay_0(e:EvG)(hk:e.k=0∨11≤e.k)(w:World):Calls Tryz.prog 30 #[evV e] w (RMayE e w):=by
 have HB:=hid (alW w (evO e));have HMD:=hid (ydw e hk);have c0:=(zvb (heap_alloc_new w (evO e))).1;generalize hmd:mayD e=md at*;unfold RMayE;rw[hmd];clear hmd;rcases hk with hk|hk
 · rw[hk] at c0
   clear hk;go_enter Tryz.func30,Tryz.ntmps30;go_wp2_with fail;go_ret;exact⟨by rw[HMD.out];rfl,HB.out⟩
 · have d1:decide (e.k<1)=false:=decide_eq_false (by omega)
   have d2:decide (10<e.k)=true:=decide_eq_true (by omega);have d3:decide ((e.k:Int)<1)=false:=decide_eq_false (by omega);have d4:decide ((10:Int)<(e.k:Int))=true:=decide_eq_true (by omega);go_enter Tryz.func30,Tryz.ntmps30;go_wp2_with fail;go_ret;exact⟨by rw[HMD.out];rfl,HB.out⟩
theorem rmay_any(e:EvG)(w:World)(hs:EvIn w e):Calls Tryz.prog 30 #[evV e] w fun r w'=>r= .returned (.bool (mayD e))∧Below w.heap.size w w':=by
 rcases zyz (k:=e.k) with h|h|h|h|h|h|h|h|h|h|h
 · exact rmay_1 e h w hs
 · exact rmay_2 e h w hs
 · exact ygw e (Or.inl h) w hs
 · exact ygw e (Or.inr h) w hs
 · exact rmay_5 e h w hs
 · exact ygx e (Or.inl h) w hs
 · exact ygx e (Or.inr h) w hs
 · exact rmay_8 e h w hs
 · exact rmay_9 e h w hs
 · exact rmay_10 e h w hs
 · exact rmay_0 e h w
end EvA
end
end Go.Proofs.YtbninnkpjdofbaaGreatDoor
