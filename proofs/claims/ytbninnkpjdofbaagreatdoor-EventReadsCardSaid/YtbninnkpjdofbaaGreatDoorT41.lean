/-
  What the proof of EventReads stands on, part 41.
-/
import Derived.Test.YtbninnkpjdofbaaGreatDoorT39
import Derived.Test.YtbninnkpjdofbaaGreatDoorT40
import Derived.Test.YtbninnkpjdofbaaGreatDoorT42
set_option linter.unusedSimpArgs false
set_option linter.unusedVariables false
set_option maxHeartbeats 16000000
namespace Go.Proofs.YtbninnkpjdofbaaGreatDoor
open Go.Lib (hid)
section
open Go.RowKit Go.Sort Go.Lib
namespace EvS
open StrC EvF EvC EvA TextR CodeM CodeC ErrC ErrU
open VerC (Vw)
theorem yiz(e:EvG)(a a':Option Addr)(c c':Nat):sameE (atE e a c) (atE e a' c')=true:=by
 unfold sameE atE;simp
def PShape(G:EvG)(ok:Bool)(at_ un:Nat)(X:EvG)(v:Value)(K:Nat)(w':World):Prop:=
 (ok=true∧v= .nilIface∧∃a c,X=atE G a c)∨
 (ok=false∧X=EvA.kindV 0∧un=0∧at_=0∧∃g,v=flt9 g∧K≤g∧w'.heap[g]?=some oneO)∨
 (ok=false∧X=EvA.kindV 0∧un≠0∧un≤23∧∃g f,v=flt9 g∧K≤g∧w'.heap[g]?=some (topO at_ f)∧IsFault w' f 0 un ⟨#[]⟩ at_)
theorem yja{s:ByteArray}{w w':World}{r:Ending}(h:ReadP s w r w'):∃X v,r= .returned (.tuple #[evV X,v])∧Below w.heap.size w w'∧NeIn w' X.na X.nc X.needs∧(readD s).2.2.1≤s.size∧PShape (readD s).1 (readD s).2.1 (readD s).2.2.1 (readD s).2.2.2 X v w.heap.size w':=by
 obtain⟨hb,⟨h1,a,c,rfl,h3⟩|⟨h1,h2,h3,g,rfl,h4,h5⟩|⟨h1,h2,h3,hs,g,f,rfl,h4,h5,h6⟩⟩:=h
 · refine⟨atE (readD s).1 a c,_,rfl,hb,h3,?_,.inl ⟨h1,rfl,a,c,rfl⟩⟩
   unfold readD at h1 ⊢;simp only at h1 ⊢
   split at h1
   · cases h1
   split at h1
   · cases h1
   split at h1
   · cases h1
   split at h1
   · cases h1
   split at h1
   · cases h1
   · rename_i k1 k2 k3 k4 k5
     rw[if_neg k1,if_neg k2,if_neg k3,if_neg k4,if_neg k5];exact Nat.zero_le _
 · exact⟨EvA.kindV 0,_,rfl,hb,NeIn.no _,by rw[h3];exact Nat.zero_le _,.inr (.inl ⟨h1,rfl,h2,h3,g,rfl,h4,h5⟩)⟩
 · exact⟨EvA.kindV 0,_,rfl,hb,NeIn.no _,hs,.inr (.inr ⟨h1,rfl,h2,h3,g,f,rfl,h4,h5,h6⟩)⟩
theorem yjb{w:World}{g:Nat}(h:w.heap[g]?=some oneO):IsFault w g 0 (90:Nat) ⟨#[]⟩ (0:Nat):=by
 refine⟨?_,?_,?_,?_⟩<;>simp[World.cell?,h]
set_option maxRecDepth 100000 in
theorem reads_law(s:ByteArray)(w:World)(hs:s.size≤4611686018427387904)(hv:EvV.VarsR w):Calls Tryz.prog 3 #[.string s] w fun r w'=>r= .returned (.bool true)∧Below w.heap.size w w':=by
 have HP:=hid (pread_any s w hs hv.vw);have HR:=hid (fun W=>yim s W hs);have HS:=hid hs;have HV:=hid hv.vw;have HEV:=hid hv.err;have HWD:Hid (∀W,Below w.heap.size w W→∀k,k<11→W.cell? ⟨1,k,none⟩=some (.string (str (EvN.wordsL.getD k [])))):=hid (fun W hb k hk=>(hb.cell (World.block_lt_of_cell? _ _ (hv.words k hk))).trans (hv.words k hk));have HAL:Hid (∀W,Below w.heap.size w W→Calls Tryz.prog 10 #[] W fun r w'=>r= .returned (.bool true)∧Below W.heap.size W w'):=hid (fun W hb=>EvR.yix W (HV.out.gr hb) (HWD.out W hb 3 (by decide)));clear hs hv;go_enter Tryz.func3,Tryz.ntmps3;go_wp2_with fail;refine HP.out.mono ?_;intro r w1 hr;obtain⟨X,v,rfl,hb1,hnx,hat,hsh⟩:=yja hr;obtain⟨⟨G,ok,at_,un⟩,hD⟩:∃D,readD s=D:=⟨_,rfl⟩;rw[hD] at hat hsh;simp only at hat hsh;have HD:=hid hD;have hz1:=heap_alloc_new w1 zO9;have hb2:Below w1.heap.size w1 ((w1.alloc zO9).setRow w1.heap.size (evL X).toArray):=below_setRow (alW w1 zO9) (Nat.le_refl _) _;have hx2:((w1.alloc zO9).setRow w1.heap.size (evL X).toArray).heap[w1.heap.size]?=some (evO X):=setRow_heap _ _ _ _ _ _ hz1;have HB1:=hid hb1;have HB2:=hid hb2;have HX2:=hid hx2;have HNX:=hid hnx;have HSH:=hid hsh;have HAT:=hid hat;clear hr hb1 hb2 hx2 hnx hsh hD hat;go_wp2_with (first | (refine wpList_store_row rfl 27 _ _ rfl w1.heap.size (evL X).toArray rfl rfl _ _ hz1 zvk rfl (zvl _) ?_)|fail)
 clear hz1;generalize (w1.alloc zO9).setRow w1.heap.size (evL X).toArray=w2 at*;refine(HR.out w2).mono ?_;intro r w3 hr;obtain⟨a2,c2,rfl,hny,-,hb3⟩:=hr;rw[HD.out] at hny ⊢;simp only at hny;obtain⟨Y,hY⟩:∃Y,Y=atE G a2 c2:=⟨_,rfl⟩;have hny':NeIn w3 Y.na Y.nc Y.needs:=by rw[hY];exact hny
 have HY:=hid hY;simp only;rw[←hY];have h30:((w3.alloc zO9).alloc zF9).heap[w3.heap.size]?=some zO9:=by rw[heap_alloc_old _ _ (by simp)];exact heap_alloc_new w3 zO9
 have h31:((w3.alloc zO9).alloc zF9).heap[w3.heap.size+1]?=some zF9:=by have:=heap_alloc_new (w3.alloc zO9) zF9;simpa using this
 have h32:∀cs,(((w3.alloc zO9).alloc zF9).setRow w3.heap.size cs).heap[w3.heap.size+1]?=some zF9:=fun cs=>by rw[setRow_other _ _ _ _ (by omega)];exact h31
 have g0:∀cs,(((w3.alloc zO9).alloc zF9).setRow w3.heap.size cs).cell? ⟨w3.heap.size+1,0,none⟩=some (.int .i64 0):=fun cs=>by unfold World.cell?;simp only[h32];rfl
 have g1:∀cs,(((w3.alloc zO9).alloc zF9).setRow w3.heap.size cs).cell? ⟨w3.heap.size+1,1,none⟩=some (.int .i64 0):=fun cs=>by unfold World.cell?;simp only[h32];rfl
 have y0:∀cs,(((w3.alloc zO9).alloc zF9).setRow w3.heap.size cs).frozen? ⟨w3.heap.size+1,0,none⟩=false:=fun cs=>by unfold World.frozen?;simp only[h32];rfl
 have y1:∀cs,(((w3.alloc zO9).alloc zF9).setRow w3.heap.size cs).frozen? ⟨w3.heap.size+1,1,none⟩=false:=fun cs=>by unfold World.frozen?;simp only[h32];rfl
 have hb4:Below w3.heap.size w3 (((((w3.alloc zO9).alloc zF9).setRow w3.heap.size (evL Y).toArray).setCell ⟨w3.heap.size+1,0,none⟩ (.int .i64 at_)).setCell ⟨w3.heap.size+1,1,none⟩ (.int .i64 un)):=
  ((below_setRow (chW (alW w3 _) (alW _ _)) (Nat.le_refl _) _).setCell (by show w3.heap.size≤w3.heap.size+1;omega) _).setCell (by show w3.heap.size≤w3.heap.size+1;omega) _
 have hy4:(((((w3.alloc zO9).alloc zF9).setRow w3.heap.size (evL Y).toArray).setCell ⟨w3.heap.size+1,0,none⟩ (.int .i64 at_)).setCell ⟨w3.heap.size+1,1,none⟩ (.int .i64 un)).heap[w3.heap.size]?=some (evO Y):=(zvn 1 _ (by omega)).trans ((zvn 0 _ (by omega)).trans (setRow_heap _ _ _ _ _ _ h30))
 have hf4:(((((w3.alloc zO9).alloc zF9).setRow w3.heap.size (evL Y).toArray).setCell ⟨w3.heap.size+1,0,none⟩ (.int .i64 at_)).setCell ⟨w3.heap.size+1,1,none⟩ (.int .i64 un)).heap[w3.heap.size+1]?=some (.cells #[.int .i64 at_,.int .i64 un] 33):=by
  have:=zvm (zvm (h32 (evL Y).toArray) 0 (.int .i64 at_)) 1 (.int .i64 un)
  simpa using this
 have HB3:Hid (Below w1.heap.size w1 w3):=hid (HB2.out.trans (hb3.mono HB2.out.size));have hx4:=(hb4.block _ (by have h1:=hb3.size;have h2:=zvp HX2.out;omega)).trans ((hb3.block _ (zvp HX2.out)).trans HX2.out);have HB4:=hid (HB3.out.trans (hb4.mono HB3.out.size));have HNY4:=hid (hny'.gr hb4);have HX4:=hid hx4;have HY4:=hid hy4;have HF4:=hid hf4;have HNX4:=hid (HNX.out.gr HB4.out);clear hny hny' hY hb3 hb4 hy4 hf4 hx4 h31;go_upto_region 3 with (first | (refine wpList_store_row rfl 27 _ _ rfl w3.heap.size (evL Y).toArray rfl rfl _ _ h30 zvk rfl (zvl _) ?_)|fail)
 clear h30 h32 g0 g1 y0 y1;generalize ((((w3.alloc zO9).alloc zF9).setRow w3.heap.size (evL Y).toArray).setCell ⟨w3.heap.size+1,0,none⟩ (.int .i64 at_)).setCell ⟨w3.heap.size+1,1,none⟩ (.int .i64 un)=W4 at*;have HW4:Hid (Below w.heap.size w W4):=hid (HB1.out.trans (HB4.out.mono HB1.out.size));obtain⟨x0,x1,x2,x3,x4,x5,x6,x7,x8,x9⟩:=zvb HX4.out;have hsh:=HSH.out;rcases hsh with ⟨rfl,rfl,a,c,hX⟩|⟨rfl,hX,rfl,rfl,g,rfl,hg1,hg2⟩|⟨rfl,hX,hu0,hu23,g,f,rfl,hg1,hg2,hf⟩
 · obtain⟨z0,z1,z2,z3,z4,z5,z6,z7,z8,z9⟩:=zvb HY4.out
   have hse:sameE X Y=true:=by rw[hX,HY.out];exact yiz _ _ _ _ _
   have HSM:=hid (yiy X Y W4 HNX4.out HNY4.out);rw[hse] at HSM;clear hse hX;go_wp2_with fail;refine HSM.out.mono ?_;rintro r w5 ⟨rfl,hb5⟩;have HW5:Hid (Below w.heap.size w w5):=hid (HW4.out.trans (hb5.mono HW4.out.size));clear hb5 x0 x1 x2 x3 x4 x5 x6 x7 x8 x9 z0 z1 z2 z3 z4 z5 z6 z7 z8 z9;go_wp2_with fail;refine(HAL.out w5 HW5.out).mono ?_;rintro r w6 ⟨rfl,hb6⟩;have HW6:Hid (Below w.heap.size w w6):=hid (HW5.out.trans (hb6.mono HW5.out.size));clear hb6;go_wp2_with fail;go_ret;exact⟨rfl,HW6.out⟩
 · have HG4:Hid (W4.heap[g]?=some oneO):=hid ((HB4.out.block g (zvp hg2)).trans hg2)
   have HTL:=hid (zuw g 0 90 ⟨#[]⟩ (0:Nat) W4 (by omega) (by omega) (by decide) (yjb HG4.out) (HEV.out.below HW4.out));have hse:sameE X (EvA.kindV 0)=true:=by rw[hX];exact yiz (EvA.kindV 0) none none 0 0
   have HSM:Hid (∀W,Below W4.heap.size W4 W→Calls Tryz.prog 9 #[evV X,evV (EvA.kindV 0)] W fun r w'=>r= .returned (.bool true)∧Below W.heap.size W w'):=hid (fun W hb=>by
    have h:=yiy X (EvA.kindV 0) W (HNX4.out.gr hb) (NeIn.no _)
    rwa [hse] at h)
   have HF4C:Hid (∀W,Below W4.heap.size W4 W→W.cell? ⟨w3.heap.size+1,0,none⟩=some (.int .i64 0)∧W.cell? ⟨w3.heap.size+1,1,none⟩=some (.int .i64 0)):=hid (fun W hb=>by
    have h:=(hb.block _ (zvp HF4.out)).trans HF4.out;exact⟨by simp[World.cell?,h],by simp[World.cell?,h]⟩)
   have HXC:=hid (fun W hb=>zvb (((hb:Below W4.heap.size W4 W).block _ (zvp HX4.out)).trans HX4.out));clear hse hX hg2 x0 x1 x2 x3 x4 x5 x6 x7 x8 x9;go_wp2_with fail;refine HTL.out.mono ?_;rintro r w5 ⟨rfl,hb5⟩;have HB5:=hid hb5;obtain⟨x0,x1,x2,x3,x4,x5,x6,x7,x8,x9⟩:=HXC.out w5 hb5;clear hb5;go_wp2_with fail;refine(HSM.out w5 HB5.out).mono ?_;rintro r w6 ⟨rfl,hb6⟩;have HB6:=hid (HB5.out.trans (hb6.mono HB5.out.size));obtain⟨q0,q1⟩:=HF4C.out w6 HB6.out;clear hb6 x0 x1 x2 x3 x4 x5 x6 x7 x8 x9;go_wp2_with fail;have hb7:=alW w6 (.cells #[.pointer none] 40);have HB7:=hid (HB6.out.trans (hb7.mono HB6.out.size));have HAS:=hid (zut ⟨g,0,none⟩ ⟨w6.heap.size,0,none⟩ (.pointer none) (w6.alloc (.cells #[.pointer none] 40)) (HEV.out.below (HW4.out.trans (HB7.out.mono HW4.out.size))).err (by simp) (by simp));clear hb7 q0 q1;refine HAS.out.mono ?_;rintro r w8 ⟨rfl,hc8,hb8⟩;have hb8':Below w6.heap.size (w6.alloc (.cells #[.pointer none] 40)) w8:=hb8;have HB8:Hid (Below W4.heap.size W4 w8):=hid (HB7.out.trans (hb8'.mono HB6.out.size));obtain⟨q0,q1⟩:=HF4C.out w8 HB8.out;have hu8:=(yjb ((HB8.out.block g (zvp HG4.out)).trans HG4.out)).under;have HW8:Hid (Below w.heap.size w w8):=hid (HW4.out.trans (HB8.out.mono HW4.out.size));clear hb8 hb8';go_wp2_with fail;refine(HAL.out w8 HW8.out).mono ?_;rintro r w9 ⟨rfl,hb9⟩;have HW9:Hid (Below w.heap.size w w9):=hid (HW8.out.trans (hb9.mono HW8.out.size));clear hb9;go_wp2_with fail;go_ret;exact⟨rfl,HW9.out⟩
 · have hs:=HS.out
   have hat:=HAT.out;have HG4:Hid (W4.heap[g]?=some (topO at_ f)):=hid ((HB4.out.block g (zvp hg2)).trans hg2);have HF9:Hid (IsFault W4 f 0 un ⟨#[]⟩ at_):=hid (hf.below HB4.out hf.lt);have HTL:=hid (yiq g f 90 un at_ at_ W4 (by omega) (by omega) (by omega) (by omega) HG4.out HF9.out (HEV.out.below HW4.out));have hse:sameE X (EvA.kindV 0)=true:=by rw[hX];exact yiz (EvA.kindV 0) none none 0 0
   have HSM:Hid (∀W,Below W4.heap.size W4 W→Calls Tryz.prog 9 #[evV X,evV (EvA.kindV 0)] W fun r w'=>r= .returned (.bool true)∧Below W.heap.size W w'):=hid (fun W hb=>by
    have h:=yiy X (EvA.kindV 0) W (HNX4.out.gr hb) (NeIn.no _)
    rwa [hse] at h)
   have HF4C:Hid (∀W,Below W4.heap.size W4 W→W.cell? ⟨w3.heap.size+1,0,none⟩=some (.int .i64 at_)∧W.cell? ⟨w3.heap.size+1,1,none⟩=some (.int .i64 un)):=hid (fun W hb=>by
    have h:=(hb.block _ (zvp HF4.out)).trans HF4.out;exact⟨by simp[World.cell?,h],by simp[World.cell?,h]⟩)
   have HXC:=hid (fun W hb=>zvb (((hb:Below W4.heap.size W4 W).block _ (zvp HX4.out)).trans HX4.out));have hne:¬(un:Int)=0:=by omega
   clear hse hX hg2 hf x0 x1 x2 x3 x4 x5 x6 x7 x8 x9;go_wp2_with fail;refine HTL.out.mono ?_;rintro r w5 ⟨rfl,hb5⟩;have HB5:=hid hb5;obtain⟨x0,x1,x2,x3,x4,x5,x6,x7,x8,x9⟩:=HXC.out w5 hb5;clear hb5;go_wp2_with fail;refine(HSM.out w5 HB5.out).mono ?_;rintro r w6 ⟨rfl,hb6⟩;have HB6:=hid (HB5.out.trans (hb6.mono HB5.out.size));obtain⟨q0,q1⟩:=HF4C.out w6 HB6.out;clear hb6 x0 x1 x2 x3 x4 x5 x6 x7 x8 x9;go_wp2_with fail;have hb7:=alW w6 (.cells #[.pointer none] 40);have HB7:=hid (HB6.out.trans (hb7.mono HB6.out.size));have HAS:=hid (zut ⟨g,0,none⟩ ⟨w6.heap.size,0,none⟩ (.pointer none) (w6.alloc (.cells #[.pointer none] 40)) (HEV.out.below (HW4.out.trans (HB7.out.mono HW4.out.size))).err (by simp) (by simp));clear hb7 q0 q1;refine HAS.out.mono ?_;rintro r w8 ⟨rfl,hc8,hb8⟩;have hb8':Below w6.heap.size (w6.alloc (.cells #[.pointer none] 40)) w8:=hb8;have HB8:Hid (Below W4.heap.size W4 w8):=hid (HB7.out.trans (hb8'.mono HB6.out.size));obtain⟨q0,q1⟩:=HF4C.out w8 HB8.out;have hu8:=(yin (yio HG4.out HB8.out)).2.2.2;have HW8:Hid (Below w.heap.size w w8):=hid (HW4.out.trans (HB8.out.mono HW4.out.size));clear hb8 hb8';have HRG:Hid (∀d os,Below W4.heap.size W4 (Go.Sort.grow (redrawn w8 d) os)):=hid (fun d os=>HB8.out.trans ((below_regrown w8 d os).mono HB8.out.size));have cIs:∀d os,Calls Tryz.prog 13 #[fV f,.int .i64 un,.string ⟨#[]⟩,.int .i64 at_] (Go.Sort.grow (redrawn w8 d) os) _:=fun d os=>Calls.regrown_of (is_that f 0 un ⟨#[]⟩ at_ _ hu0 (by omega) (by omega) (by decide) (HF9.out.below (HRG.out d os) HF9.out.lt) (HEV.out.below (HW4.out.trans ((HRG.out d os).mono HW4.out.size))))
   have cIE:∀d os,Calls Tryz.prog 14 #[fV g,.iface 43 (.int .i64 un)] (Go.Sort.grow (redrawn w8 d) os) _:=fun d os=>Calls.regrown_of (ygj g f 90 un (by omega) _ (yin (yio HG4.out (HRG.out d os))).1 (yin (yio HG4.out (HRG.out d os))).2.2.2 (HF9.out.below (HRG.out d os) HF9.out.lt).code (HF9.out.below (HRG.out d os) HF9.out.lt).under)
   have cAL:∀d os,Calls Tryz.prog 10 #[] (Go.Sort.grow (redrawn w8 d) os) _:=fun d os=>Calls.regrown_of (HAL.out _ (HW4.out.trans ((HRG.out d os).mono HW4.out.size)))
   go_upto_region 13 with fail
   have k1:=cell_regrown hc8;have k2:=cell_regrown hu8;have k3:=cell_regrown q0;have k4:=cell_regrown q1;clear hc8 hu8 q0 q1;refine wp_region_quiet_below (by kernel_rfl) (by kernel_rfl) ?_
   repeat (first|go_big_quiet_step (first|exact cIs _ _|exact cIE _ _|exact cAL _ _)|quiet_step (first|exact cIs _ _|exact cIE _ _|exact cAL _ _))
   refine wpQuiet_nil ?_;intro _ hw';obtain⟨⟨dq,osq⟩,hw''⟩:=hw';subst hw'';have HWQ:Hid (Below w.heap.size w (Go.Sort.grow (redrawn w8 dq) osq)):=hid (HW4.out.trans ((HRG.out dq osq).mono HW4.out.size));go_wp2_with fail;go_ret;exact⟨rfl,HWQ.out⟩
end EvS
end
end Go.Proofs.YtbninnkpjdofbaaGreatDoor
