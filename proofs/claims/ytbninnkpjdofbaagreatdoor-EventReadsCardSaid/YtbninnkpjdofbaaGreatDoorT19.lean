/-
  What the proof of EventReads stands on, part 19.
-/
import Derived.LaidHandle
import Derived.LaidLaws
import Derived.LaidSub
import Derived.Lay
import Derived.MakeChecks
import Derived.StillTailTactics
import Derived.Stop.Joined
import Derived.Stop.LaidErr
import Derived.Test.YtbninnkpjdofbaaGreatDoorRows
import Derived.Test.YtbninnkpjdofbaaGreatDoorT13
import Derived.Test.YtbninnkpjdofbaaGreatDoorT18
set_option linter.unusedSimpArgs false
set_option linter.unusedVariables false
set_option maxHeartbeats 16000000
namespace Go.Proofs.YtbninnkpjdofbaaGreatDoor
open Go.Lib (hid)
section
open Go.RowKit
namespace VerC
open VerM StrC TextR
set_option maxRecDepth 100000 in
theorem rLeast_any(v:Ver)(a:Option Addr)(cap:Nat)(w:World):
 Calls Tryz.prog 279 #[verV v.a v.b v.c a v.pre.length cap] w fun e w'=>Below w.heap.size w w'∧∃g,e= .returned (verV v.a v.b v.c (some ⟨g,0,none⟩) 1 1)∧Txs w' (some ⟨g,0,none⟩) 1 [nought]:=by
 obtain⟨na,nb,nc,p⟩:=v
 dsimp only at*
 generalize (na:Int)=xa at*;generalize (nb:Int)=xb at*;generalize (nc:Int)=xc at*;go_enter Tryz.func279,Tryz.ntmps279;go_wp2_with fail;have hs1:(w.alloc (verO xa xb xc (some ⟨w.heap.size+2,0,none⟩) 1 1)).heap.size=w.heap.size+1:=by simp
 have hs2:((w.alloc (verO xa xb xc (some ⟨w.heap.size+2,0,none⟩) 1 1)).alloc (verO xa xb xc (some ⟨w.heap.size+2,0,none⟩) 1 1)).heap.size=w.heap.size+2:=by simp
 have hr1:=heap_alloc_new (w.alloc (verO xa xb xc (some ⟨w.heap.size+2,0,none⟩) 1 1)) (verO xa xb xc (some ⟨w.heap.size+2,0,none⟩) 1 1);rw[hs1] at hr1;have hr2:=(heap_alloc_old ((w.alloc (verO xa xb xc (some ⟨w.heap.size+2,0,none⟩) 1 1)).alloc (verO xa xb xc (some ⟨w.heap.size+2,0,none⟩) 1 1)) (.cells #[.string ⟨#[48]⟩] 9) (r:=w.heap.size+1) (by rw[hs2];omega)).trans hr1;have hc2:=heap_alloc_new ((w.alloc (verO xa xb xc (some ⟨w.heap.size+2,0,none⟩) 1 1)).alloc (verO xa xb xc (some ⟨w.heap.size+2,0,none⟩) 1 1)) (.cells #[.string ⟨#[48]⟩] 9);rw[hs2] at hc2;have HB:=hid ((((Below.refl _ w).alloc (Nat.le_refl _) (verO xa xb xc (some ⟨w.heap.size+2,0,none⟩) 1 1)).alloc (by simp) (verO xa xb xc (some ⟨w.heap.size+2,0,none⟩) 1 1)).alloc (by simp;omega) (.cells #[.string ⟨#[48]⟩] 9));refine bodyPost_ret (zfc rfl _ _ (w.heap.size+1) _ _ _ _ rfl hr2 Tryz.underlying196 rfl zdu) rfl ?_;refine⟨HB.out,w.heap.size+2,rfl,Nat.le_refl _,fun s hs=>?_,by simp,fun _=>⟨w.heap.size+2,0,rfl,fun i hi=>?_⟩⟩
 · rw[List.mem_singleton] at hs;rw[hs];decide
 · have:i=0:=by simp at hi;omega
   subst this;unfold World.cell?;rw[show (⟨w.heap.size+2,0+0,none⟩:Addr).block=w.heap.size+2 from rfl,hc2]
   rfl
set_option maxRecDepth 100000 in
theorem zqo(v:Ver)(k:Int)(a:Option Addr)(cap:Nat)(w:World)(hT:Txs w a cap v.pre):
 Calls Tryz.prog 278 #[verV v.a v.b v.c a v.pre.length cap,.int .i64 k] w fun e w'=>e= .returned (.tuple #[verV (nxV v k).a (nxV v k).b (nxV v k).c none 0 0,.int .i64 (nxC v k)])∧Below w.heap.size w w':=by
 have hT1:=hT.gr ((Below.refl _ w).alloc (Nat.le_refl _) (verO v.a v.b v.c a v.pre.length cap));have HM:=hid (fun w' (h:Txs w' a cap v.pre)=>rmay_any v a cap w' h);have hs1:(w.alloc (verO v.a v.b v.c a v.pre.length cap)).heap.size=w.heap.size+1:=by simp
 have hnew:=heap_alloc_new w (verO v.a v.b v.c a v.pre.length cap);have hr1:=(heap_alloc_old (w.alloc (verO v.a v.b v.c a v.pre.length cap)) (verO 0 0 0 none 0 0) (r:=w.heap.size) (by rw[hs1];omega)).trans hnew;have hn1:=heap_alloc_new (w.alloc (verO v.a v.b v.c a v.pre.length cap)) (verO 0 0 0 none 0 0);rw[hs1] at hn1;have HB1:Hid (Below w.heap.size w ((w.alloc (verO v.a v.b v.c a v.pre.length cap)).alloc (verO 0 0 0 none 0 0))):=hid (((Below.refl _ w).alloc (Nat.le_refl _) _).alloc (by rw[hs1];omega) _);have HT1:=hid (hT1.alloc (verO 0 0 0 none 0 0));have hs2:((w.alloc (verO v.a v.b v.c a v.pre.length cap)).alloc (verO 0 0 0 none 0 0)).heap.size=w.heap.size+2:=by simp
 clear hT hT1 hs1 hnew;rcases Bool.eq_false_or_eq_true (may v) with hm|hm
 rotate_left
 · obtain⟨e1,e2⟩:=nx_no k hm
   have HE1:=hid e1;have HE2:=hid e2;rw[hm] at HM;clear e1 e2;go_enter Tryz.func278,Tryz.ntmps278;go_wp2_with fail;generalize (w.alloc (verO v.a v.b v.c a v.pre.length cap)).alloc (verO 0 0 0 none 0 0)=W at*;refine(HM.out W HT1.out).mono ?_;rintro e w2 ⟨rfl,hg2⟩;refine Hid.out ?_;refine hid ?_;have hn2:=(hg2.below.block (w.heap.size+1) (by omega)).trans hn1;have HB2:=hid (HB1.out.trans (hg2.below.mono HB1.out.size));clear hg2 HM HT1 HB1 hs2 hr1 hn1;go_wp2_with (refine wpList_store_row rfl 196 _ _ rfl (w.heap.size+1) #[.int .u32 0,.int .u32 0,.int .u32 0,.slice none 0 0] rfl rfl _ _ hn2 zdu rfl (zdv _ _ _ _ _ _) ?_)
   refine bodyPost_ret (zdy rfl _ _ (w.heap.size+1) _ #[.int .u32 0,.int .u32 0,.int .u32 0,.slice none 0 0] _ _ rfl (setRow_heap _ _ _ _ _ _ hn2) Tryz.underlying196 rfl zdu) rfl ?_;exact⟨by rw[HE1.out,HE2.out];rfl,below_setRow HB2.out (by omega) _⟩
 obtain⟨hma,hmb,hmc,-,-⟩:=zdp hm;rw[hm] at HM;have hw:=zhi v k;go_enter Tryz.func278,Tryz.ntmps278;go_wp2_with fail;generalize (w.alloc (verO v.a v.b v.c a v.pre.length cap)).alloc (verO 0 0 0 none 0 0)=W at*;refine(HM.out W HT1.out).mono ?_;rintro e w2 ⟨rfl,hg2⟩;refine Hid.out ?_;refine hid ?_;have hr2:=(hg2.below.block w.heap.size (by omega)).trans hr1;have hn2:=(hg2.below.block (w.heap.size+1) (by omega)).trans hn1;have HB2:=hid (HB1.out.trans (hg2.below.mono HB1.out.size));clear hg2 HM HT1 HB1 hs2 hr1 hn1;obtain⟨q0,q1,q2,q3⟩:=zdw hr2;have hl2:w.heap.size+1<w2.heap.size:=(Array.getElem?_eq_some_iff.1 hn2).1;have hn4:=(heap_alloc_old w2 (.cells #[.int .u32 v.a,.int .u32 v.b,.int .u32 v.c] 25) (r:=w.heap.size+1) hl2).trans hn2;have hA4:=heap_alloc_new w2 (.cells #[.int .u32 v.a,.int .u32 v.b,.int .u32 v.c] 25);have HB4:=hid (HB2.out.alloc HB2.out.size (.cells #[.int .u32 v.a,.int .u32 v.b,.int .u32 v.c] 25));have HN2:=hid hn2;clear hn2 hr2 q3;rcases hw with ⟨hk,hx⟩|⟨rfl,hq,hx⟩|⟨rfl,hq,hx⟩|⟨rfl,hq,hx⟩|⟨rfl,hq,hx⟩|⟨rfl,hq,hx⟩|⟨rfl,hq,hx⟩
 · rcases hk with hk|hk
   · have d1:decide (k<0)=true:=decide_eq_true hk
     obtain⟨e1,e2⟩:=zhg hm hx;have HE1:=hid e1;have HE2:=hid e2;clear e1 e2 hx hma hmb hmc;go_wp2_with (refine wpList_store_row rfl 196 _ _ rfl (w.heap.size+1) #[.int .u32 0,.int .u32 0,.int .u32 0,.slice none 0 0] rfl rfl _ _ hn4 zdu rfl (zdv _ _ _ _ _ _) ?_)
     refine bodyPost_ret (zdy rfl _ _ (w.heap.size+1) _ #[.int .u32 0,.int .u32 0,.int .u32 0,.slice none 0 0] _ _ rfl (setRow_heap _ _ _ _ _ _ hn4) Tryz.underlying196 rfl zdu) rfl ?_;exact⟨by rw[HE1.out,HE2.out];rfl,below_setRow HB4.out (by omega) _⟩
   · have d1:decide (k<0)=false:=decide_eq_false (by omega)
     have d2:decide (2<k)=true:=decide_eq_true (by omega);obtain⟨e1,e2⟩:=zhg hm hx;have HE1:=hid e1;have HE2:=hid e2;clear e1 e2 hx hma hmb hmc;go_wp2_with (refine wpList_store_row rfl 196 _ _ rfl (w.heap.size+1) #[.int .u32 0,.int .u32 0,.int .u32 0,.slice none 0 0] rfl rfl _ _ hn4 zdu rfl (zdv _ _ _ _ _ _) ?_)
     refine bodyPost_ret (zdy rfl _ _ (w.heap.size+1) _ #[.int .u32 0,.int .u32 0,.int .u32 0,.slice none 0 0] _ _ rfl (setRow_heap _ _ _ _ _ _ hn4) Tryz.underlying196 rfl zdu) rfl ?_;exact⟨by rw[HE1.out,HE2.out];rfl,below_setRow HB4.out (by omega) _⟩
 · have dq:((v.a:Int) == 2147483647)=true:=by rw[hq];rfl
   clear hq;obtain⟨e1,e2⟩:=zhg hm hx;have HE1:=hid e1;have HE2:=hid e2;clear e1 e2 hx hma hmb hmc;go_wp2_with (refine wpList_store_row rfl 196 _ _ rfl (w.heap.size+1) #[.int .u32 0,.int .u32 0,.int .u32 0,.slice none 0 0] rfl rfl _ _ hn4 zdu rfl (zdv _ _ _ _ _ _) ?_)
   refine bodyPost_ret (zdy rfl _ _ (w.heap.size+1) _ #[.int .u32 0,.int .u32 0,.int .u32 0,.slice none 0 0] _ _ rfl (setRow_heap _ _ _ _ _ _ hn4) Tryz.underlying196 rfl zdu) rfl ?_;exact⟨by rw[HE1.out,HE2.out];rfl,below_setRow HB4.out (by omega) _⟩
 · obtain⟨e1,e2⟩:=zhh hm hx
   have HE1:=hid e1;have HE2:=hid e2;have dq:((v.a:Int) == 2147483647)=false:=by unfold mx at hq;rw[beq_eq_false_iff_ne];omega
   have hu:(v.a:Int)+1≤4294967295:=by unfold mx at hma;omega
   clear e1 e2 hx hma hmb hmc hq;go_wp2_with fail;go_loopw [7] (fun iv wr=>(iv= .int .i64 1∧wr=w2.alloc (.cells #[.int .u32 ((v.a:Int)+1),.int .u32 v.b,.int .u32 v.c] 25))∨(iv= .int .i64 2∧wr=w2.alloc (.cells #[.int .u32 ((v.a:Int)+1),.int .u32 0,.int .u32 v.c] 25))∨(iv= .int .i64 3∧wr=w2.alloc (.cells #[.int .u32 ((v.a:Int)+1),.int .u32 0,.int .u32 0] 25))) (fun iv _=>3-(intOf iv).toNat)
   case atStart=>exact .inl ⟨rfl,rfl⟩
   case round=>
    rcases hrel with ⟨rfl,rfl⟩|⟨rfl,rfl⟩|⟨rfl,rfl⟩
    · go_wp2_with fail
      go_roundw
      case rel=>exact .inr (.inl ⟨by go_num,trivial⟩)
      case measure=>simp[intOf]
    · go_wp2_with fail
      go_roundw
      case rel=>exact .inr (.inr (⟨by go_num,trivial⟩))
      case measure=>simp[intOf]
    · have hn5:=(heap_alloc_old w2 (.cells #[.int .u32 ((v.a:Int)+1),.int .u32 0,.int .u32 0] 25) (r:=w.heap.size+1) hl2).trans HN2.out
      have HB5:=hid (HB2.out.alloc HB2.out.size (.cells #[.int .u32 ((v.a:Int)+1),.int .u32 0,.int .u32 0] 25));go_wp2_with fail;have c0:(w2.alloc (.cells #[.int .u32 ((v.a:Int)+1),.int .u32 0,.int .u32 0] 25)).cell? ⟨w2.heap.size,0,none⟩=some (.int .u32 ((v.a:Int)+1)):=by rw[World.cell?_alloc_at _ _ _ _ rfl];rfl
      have c1:(w2.alloc (.cells #[.int .u32 ((v.a:Int)+1),.int .u32 0,.int .u32 0] 25)).cell? ⟨w2.heap.size,1,none⟩=some (.int .u32 0):=by rw[World.cell?_alloc_at _ _ _ _ rfl];rfl
      have c2:(w2.alloc (.cells #[.int .u32 ((v.a:Int)+1),.int .u32 0,.int .u32 0] 25)).cell? ⟨w2.heap.size,2,none⟩=some (.int .u32 0):=by rw[World.cell?_alloc_at _ _ _ _ rfl];rfl
      generalize w2.alloc (.cells #[.int .u32 ((v.a:Int)+1),.int .u32 0,.int .u32 0] 25)=W5 at*;obtain⟨z0,z1,z2,z3⟩:=zdw hn5;have f0:=zeb hn5 0;have f1:=zeb hn5 1;have f2:=zeb hn5 2;have f3:=zeb hn5 3;go_still_tail 10,(by kernel_rfl)
      change wpList _ _ _ _ _ W5.drew;have HB6:=hid (zgo HB5.out);have hn6:W5.drew.heap[w.heap.size+1]?=some (verO 0 0 0 none 0 0):=hn5;generalize W5.drew=w6 at*;clear z0 z1 z2 z3 f0 f1 f2 f3 c0 c1 c2 hn5 HB5;go_wp2_with (refine wpList_store_row rfl 196 _ _ rfl (w.heap.size+1) #[.int .u32 ((v.a:Int)+1),.int .u32 0,.int .u32 0,.slice none 0 0] rfl rfl _ _ hn6 zdu rfl (zdv _ _ _ _ _ _) ?_)
      refine bodyPost_ret (zdy rfl _ _ (w.heap.size+1) _ #[.int .u32 ((v.a:Int)+1),.int .u32 0,.int .u32 0,.slice none 0 0] _ _ rfl (setRow_heap _ _ _ _ _ _ hn6) Tryz.underlying196 rfl zdu) rfl ?_;exact⟨by rw[HE1.out,HE2.out];rfl,below_setRow HB6.out (by omega) _⟩
 · have dq:((v.b:Int) == 2147483647)=true:=by rw[hq];rfl
   clear hq;obtain⟨e1,e2⟩:=zhg hm hx;have HE1:=hid e1;have HE2:=hid e2;clear e1 e2 hx hma hmb hmc;go_wp2_with (refine wpList_store_row rfl 196 _ _ rfl (w.heap.size+1) #[.int .u32 0,.int .u32 0,.int .u32 0,.slice none 0 0] rfl rfl _ _ hn4 zdu rfl (zdv _ _ _ _ _ _) ?_)
   refine bodyPost_ret (zdy rfl _ _ (w.heap.size+1) _ #[.int .u32 0,.int .u32 0,.int .u32 0,.slice none 0 0] _ _ rfl (setRow_heap _ _ _ _ _ _ hn4) Tryz.underlying196 rfl zdu) rfl ?_;exact⟨by rw[HE1.out,HE2.out];rfl,below_setRow HB4.out (by omega) _⟩
 · obtain⟨e1,e2⟩:=zhh hm hx
   have HE1:=hid e1;have HE2:=hid e2;have dq:((v.b:Int) == 2147483647)=false:=by unfold mx at hq;rw[beq_eq_false_iff_ne];omega
   have hu:(v.b:Int)+1≤4294967295:=by unfold mx at hmb;omega
   clear e1 e2 hx hma hmb hmc hq;go_wp2_with fail;go_loopw [7] (fun iv wr=>(iv= .int .i64 2∧wr=w2.alloc (.cells #[.int .u32 v.a,.int .u32 ((v.b:Int)+1),.int .u32 v.c] 25))∨(iv= .int .i64 3∧wr=w2.alloc (.cells #[.int .u32 v.a,.int .u32 ((v.b:Int)+1),.int .u32 0] 25))) (fun iv _=>3-(intOf iv).toNat)
   case atStart=>exact .inl ⟨rfl,rfl⟩
   case round=>
    rcases hrel with ⟨rfl,rfl⟩|⟨rfl,rfl⟩
    · go_wp2_with fail
      go_roundw
      case rel=>exact .inr (⟨by go_num,trivial⟩)
      case measure=>simp[intOf]
    · have hn5:=(heap_alloc_old w2 (.cells #[.int .u32 v.a,.int .u32 ((v.b:Int)+1),.int .u32 0] 25) (r:=w.heap.size+1) hl2).trans HN2.out
      have HB5:=hid (HB2.out.alloc HB2.out.size (.cells #[.int .u32 v.a,.int .u32 ((v.b:Int)+1),.int .u32 0] 25));go_wp2_with fail;have c0:(w2.alloc (.cells #[.int .u32 v.a,.int .u32 ((v.b:Int)+1),.int .u32 0] 25)).cell? ⟨w2.heap.size,0,none⟩=some (.int .u32 v.a):=by rw[World.cell?_alloc_at _ _ _ _ rfl];rfl
      have c1:(w2.alloc (.cells #[.int .u32 v.a,.int .u32 ((v.b:Int)+1),.int .u32 0] 25)).cell? ⟨w2.heap.size,1,none⟩=some (.int .u32 ((v.b:Int)+1)):=by rw[World.cell?_alloc_at _ _ _ _ rfl];rfl
      have c2:(w2.alloc (.cells #[.int .u32 v.a,.int .u32 ((v.b:Int)+1),.int .u32 0] 25)).cell? ⟨w2.heap.size,2,none⟩=some (.int .u32 0):=by rw[World.cell?_alloc_at _ _ _ _ rfl];rfl
      generalize w2.alloc (.cells #[.int .u32 v.a,.int .u32 ((v.b:Int)+1),.int .u32 0] 25)=W5 at*;obtain⟨z0,z1,z2,z3⟩:=zdw hn5;have f0:=zeb hn5 0;have f1:=zeb hn5 1;have f2:=zeb hn5 2;have f3:=zeb hn5 3;go_still_tail 10,(by kernel_rfl)
      change wpList _ _ _ _ _ W5.drew;have HB6:=hid (zgo HB5.out);have hn6:W5.drew.heap[w.heap.size+1]?=some (verO 0 0 0 none 0 0):=hn5;generalize W5.drew=w6 at*;clear z0 z1 z2 z3 f0 f1 f2 f3 c0 c1 c2 hn5 HB5;go_wp2_with (refine wpList_store_row rfl 196 _ _ rfl (w.heap.size+1) #[.int .u32 v.a,.int .u32 ((v.b:Int)+1),.int .u32 0,.slice none 0 0] rfl rfl _ _ hn6 zdu rfl (zdv _ _ _ _ _ _) ?_)
      refine bodyPost_ret (zdy rfl _ _ (w.heap.size+1) _ #[.int .u32 v.a,.int .u32 ((v.b:Int)+1),.int .u32 0,.slice none 0 0] _ _ rfl (setRow_heap _ _ _ _ _ _ hn6) Tryz.underlying196 rfl zdu) rfl ?_;exact⟨by rw[HE1.out,HE2.out];rfl,below_setRow HB6.out (by omega) _⟩
 · have dq:((v.c:Int) == 2147483647)=true:=by rw[hq];rfl
   clear hq;obtain⟨e1,e2⟩:=zhg hm hx;have HE1:=hid e1;have HE2:=hid e2;clear e1 e2 hx hma hmb hmc;go_wp2_with (refine wpList_store_row rfl 196 _ _ rfl (w.heap.size+1) #[.int .u32 0,.int .u32 0,.int .u32 0,.slice none 0 0] rfl rfl _ _ hn4 zdu rfl (zdv _ _ _ _ _ _) ?_)
   refine bodyPost_ret (zdy rfl _ _ (w.heap.size+1) _ #[.int .u32 0,.int .u32 0,.int .u32 0,.slice none 0 0] _ _ rfl (setRow_heap _ _ _ _ _ _ hn4) Tryz.underlying196 rfl zdu) rfl ?_;exact⟨by rw[HE1.out,HE2.out];rfl,below_setRow HB4.out (by omega) _⟩
 · obtain⟨e1,e2⟩:=zhh hm hx
   have HE1:=hid e1;have HE2:=hid e2;have dq:((v.c:Int) == 2147483647)=false:=by unfold mx at hq;rw[beq_eq_false_iff_ne];omega
   have hu:(v.c:Int)+1≤4294967295:=by unfold mx at hmc;omega
   clear e1 e2 hx hma hmb hmc hq;go_wp2_with fail;go_loopw [7] (fun iv wr=>(iv= .int .i64 3∧wr=w2.alloc (.cells #[.int .u32 v.a,.int .u32 v.b,.int .u32 ((v.c:Int)+1)] 25))) (fun iv _=>3-(intOf iv).toNat)
   case atStart=>exact⟨rfl,rfl⟩
   case round=>
    obtain⟨rfl,rfl⟩:=hrel;have hn5:=(heap_alloc_old w2 (.cells #[.int .u32 v.a,.int .u32 v.b,.int .u32 ((v.c:Int)+1)] 25) (r:=w.heap.size+1) hl2).trans HN2.out;have HB5:=hid (HB2.out.alloc HB2.out.size (.cells #[.int .u32 v.a,.int .u32 v.b,.int .u32 ((v.c:Int)+1)] 25));go_wp2_with fail;have c0:(w2.alloc (.cells #[.int .u32 v.a,.int .u32 v.b,.int .u32 ((v.c:Int)+1)] 25)).cell? ⟨w2.heap.size,0,none⟩=some (.int .u32 v.a):=by rw[World.cell?_alloc_at _ _ _ _ rfl];rfl
    have c1:(w2.alloc (.cells #[.int .u32 v.a,.int .u32 v.b,.int .u32 ((v.c:Int)+1)] 25)).cell? ⟨w2.heap.size,1,none⟩=some (.int .u32 v.b):=by rw[World.cell?_alloc_at _ _ _ _ rfl];rfl
    have c2:(w2.alloc (.cells #[.int .u32 v.a,.int .u32 v.b,.int .u32 ((v.c:Int)+1)] 25)).cell? ⟨w2.heap.size,2,none⟩=some (.int .u32 ((v.c:Int)+1)):=by rw[World.cell?_alloc_at _ _ _ _ rfl];rfl
    generalize w2.alloc (.cells #[.int .u32 v.a,.int .u32 v.b,.int .u32 ((v.c:Int)+1)] 25)=W5 at*;obtain⟨z0,z1,z2,z3⟩:=zdw hn5;have f0:=zeb hn5 0;have f1:=zeb hn5 1;have f2:=zeb hn5 2;have f3:=zeb hn5 3;go_still_tail 10,(by kernel_rfl)
    change wpList _ _ _ _ _ W5.drew;have HB6:=hid (zgo HB5.out);have hn6:W5.drew.heap[w.heap.size+1]?=some (verO 0 0 0 none 0 0):=hn5;generalize W5.drew=w6 at*;clear z0 z1 z2 z3 f0 f1 f2 f3 c0 c1 c2 hn5 HB5;go_wp2_with (refine wpList_store_row rfl 196 _ _ rfl (w.heap.size+1) #[.int .u32 v.a,.int .u32 v.b,.int .u32 ((v.c:Int)+1),.slice none 0 0] rfl rfl _ _ hn6 zdu rfl (zdv _ _ _ _ _ _) ?_)
    refine bodyPost_ret (zdy rfl _ _ (w.heap.size+1) _ #[.int .u32 v.a,.int .u32 v.b,.int .u32 ((v.c:Int)+1),.slice none 0 0] _ _ rfl (setRow_heap _ _ _ _ _ _ hn6) Tryz.underlying196 rfl zdu) rfl ?_;exact⟨by rw[HE1.out,HE2.out];rfl,below_setRow HB6.out (by omega) _⟩
end VerC
open Go.RowKit
namespace VerC
open VerM StrC TextR
def KT(w:World)(a:Option Addr):Prop:=∀b f,a=some ⟨b,f,none⟩→IsText w b
def KindE(w:World)(e:Ending):Prop:=∀x y z a n cap o,e= .returned (.tuple #[verV x y z a n cap,o])→KT w a
theorem zqp(w:World){o:Value}:KindE w (.returned (.tuple #[verV 0 0 0 none 0 0,o])):=fun _ _ _ _ _ _ _ h b f e=>by
 simp only[Ending.returned.injEq,Value.tuple.injEq,Array.mk.injEq,List.cons.injEq,Value.agg.injEq,Value.slice.injEq] at h;obtain⟨⟨-,-,-,⟨rfl,-⟩,-⟩,-⟩:=h;cases e
theorem zqq{w:World}{x y z:Int}{a:Option Addr}{n cap:Nat}{o:Value}(hk:KT w a):KindE w (.returned (.tuple #[verV x y z a n cap,o])):=fun _ _ _ _ _ _ _ h b f e=>by
 simp only[Ending.returned.injEq,Value.tuple.injEq,Array.mk.injEq,List.cons.injEq,Value.agg.injEq,Value.slice.injEq] at h;obtain⟨⟨-,-,-,⟨rfl,-⟩,-⟩,-⟩:=h;exact hk b f e
theorem own_kind{w:World}{B:Nat}{a:Option Addr}{n c:Nat}{L:List ByteArray}(h:OwnT w B (.slice a n c) L):KT w a:=by
 intro b f e;subst e;rcases h.2 with ⟨h0,_⟩|⟨g,cap,cur,e1,_,hb,_⟩
 · cases h0
 · cases e1;exact⟨_,_,hb⟩
theorem zqr{w:World}{g:Nat}{cs:Array Value}{t:TypeId}{fr:Nat×Nat}(h:w.heap[g]?=some (.cells cs t fr))(ht:t≠9):¬IsText w g:=fun⟨c,f,h2⟩=>by
 rw[h] at h2
 injection h2 with h2
 injection h2 with _ h2 _
 exact ht h2
set_option maxRecDepth 100000 in
theorem zqs(l:B)(w:World):
 Calls Tryz.prog 124 #[.string (str l)] w fun e w'=>(ReadE l w' e∧KindE w' e)∧Below w.heap.size w w':=by
 have hs:=zbo l;have hnew:=heap_alloc_new w (verO 0 0 0 none 0 0);have HB0:=hid ((Below.refl _ w).alloc (Nat.le_refl _) (verO 0 0 0 none 0 0));rcases Nat.lt_or_ge 128 l.length with hl|hl
 · have HNO:=hid (zee hl)
   have hd:decide (128<(l.length:Int))=true:=decide_eq_true (by omega);clear hl;go_enter Tryz.func124,Tryz.ntmps124;go_wp2_with (refine wpList_store_row rfl 196 _ _ rfl w.heap.size #[.int .u32 0,.int .u32 0,.int .u32 0,.slice none 0 0] rfl rfl _ _ hnew zdu rfl (zdv _ _ _ _ _ _) ?_)
   refine bodyPost_ret (zdy rfl _ _ w.heap.size _ #[.int .u32 0,.int .u32 0,.int .u32 0,.slice none 0 0] _ _ rfl (setRow_heap _ _ _ _ _ _ hnew) Tryz.underlying196 rfl zdu) rfl ?_;exact⟨⟨zec HNO.out,zqp _⟩,below_setRow HB0.out (Nat.le_refl _) _⟩
 have hd:decide (128<(l.length:Int))=false:=decide_eq_false (by omega);have hsz1:(w.alloc (verO 0 0 0 none 0 0)).heap.size=w.heap.size+1:=by simp
 have HHL:=hid (zeh l);have HX:=hid (fun a (h:a<l.length)=>zbr l a a rfl h);go_enter Tryz.func124,Tryz.ntmps124;go_upto_block 0 with fail
 go_cut [4] from 6 to 37 (fun v4 wx=>∃(a:Option Addr) (cap:Nat),v4= .string (str (head l))∧Hid (wx.heap[w.heap.size]?=some (verO 0 0 0 none 0 0))∧Hid (wx.heap[w.heap.size+1]?=some (verO 0 0 0 a (ids l).length cap))∧Hid (Txs wx a cap (ids l))∧Hid (KT wx a)∧Hid (Below w.heap.size w wx))
 case first=>
  have hnew2:=heap_alloc_new (w.alloc (verO 0 0 0 none 0 0)) (verO 0 0 0 none 0 0);have hold2:=(heap_alloc_old (w.alloc (verO 0 0 0 none 0 0)) (verO 0 0 0 none 0 0) (r:=w.heap.size) (by rw[hsz1];omega)).trans hnew;have HB1:=hid (HB0.out.alloc HB0.out.size (verO 0 0 0 none 0 0));have hsz2:((w.alloc (verO 0 0 0 none 0 0)).alloc (verO 0 0 0 none 0 0)).heap.size=w.heap.size+2:=by simp
  rw[hsz1] at hnew2;go_wp2_with fail;generalize (w.alloc (verO 0 0 0 none 0 0)).alloc (verO 0 0 0 none 0 0)=W at*;go_loop [4,6] (fun v i=>∃k:Nat,v= .string (str l)∧k≤l.length∧i= .int .i64 k∧Hid (∀c∈l.take k,c≠45)) (fun _ i=>l.length-(intOf i).toNat)
  case atStart=>exact⟨0,rfl,Nat.zero_le _,rfl,hid (by simp)⟩
  case round=>
   obtain⟨k,rfl,hk,rfl,HQ⟩:=hrel;by_cases hlt:k<l.length
   · have hdec:decide (k<l.length)=true:=by simpa using hlt
     have hx:=HX.out k hlt;by_cases hc:l.getD k 0=45
     · have hel:l=l.take k++45 :: l.drop (k+1):=by
        have h1:l.drop k=45 :: l.drop (k+1):=by rw[List.drop_eq_getElem_cons hlt,←hc];simp[hlt]
        rw[←h1,List.take_append_drop]
       have hhd:head l=l.take k∧ids l=pieces 46 (l.drop (k+1)):=by
        have:=zam (l.drop (k+1)) HQ.out
        rw[←hel] at this;exact this
       have HHD:=hid hhd.1;have hs1:=sl_to l k k rfl (by omega);have hs2:=zdk l ((k:Int)+1) (k+1) (by omega) (by omega);have HCUT:=hid (fun w=>zdt (l.drop (k+1)) 46 w (by rw[List.length_drop];omega));rw[←hhd.2] at HCUT;have HF:=hid (zej l);have HSH:=hid (zek l);clear hhd hel;generalize l.getD k 0=c at*;have d45:((c.toNat:Int) == 45)=true:=by rw[hc];rfl
       clear hc;go_wp2_with (go_at_call 38;refine(HCUT.out _).mono ?_;rintro e w3 ⟨v,rfl,ho,hb⟩;refine Hid.out ?_)
       refine hid ?_;obtain⟨a,cap,rfl,hT⟩:=zdm ho (fun s hs=>by have:=HSH.out s hs;omega) (by have:=HF.out;omega);have hr3:=(hb.block w.heap.size (by omega)).trans hold2;have hc3:=(hb.block (w.heap.size+1) (by omega)).trans hnew2;obtain⟨q0,q1,q2,q3⟩:=zdw hc3;have hf:=zeb hc3 3;have HB3:=hid (HB1.out.trans (hb.mono (by omega)));have HT3:=hid hT;have HK3:=hid (own_kind ho);have HC3:=hid hc3;have hbs:=hb.size;clear ho hb hT;go_wp2_with fail;go_meet
       case rel=>
        refine⟨a,cap,by rw[HHD.out],hid ((zea 3 _ (by omega)).trans hr3),hid (zdz hc3 3 _),hid ⟨HT3.out.cap,HT3.out.short,HT3.out.few,fun h0=>?_⟩,hid (fun b f e=>(HK3.out b f e).of (zea 3 _ (fun e2=>zqr HC3.out (by decide) (e2 ▸ HK3.out b f e)))),hid (HB3.out.trans ⟨rfl,rfl,rfl,by simp,fun q hq=>zea 3 _ (by omega)⟩)⟩;obtain⟨b,o,e,hcell⟩:=HT3.out.cells h0;refine⟨b,o,e,fun i hi=>?_⟩;have hci:=hcell i hi;have hbc:b≠w.heap.size+1:=fun e=>by rw[e] at hci;exact zdx hc3 _ _ hci
        rw[World.cell?_setCell_far _ _ _ _ (Ne.symm hbc)];exact hci
     · have HN:=hid (show ∀c∈l.take (k+1),c≠45 from fun c hcm=>by
        rw[List.take_add_one,List.getElem?_eq_getElem hlt] at hcm;rcases List.mem_append.1 hcm with e|e
        · exact HQ.out c e
        · have:c=l[k]:=by simpa using e
          rw[this];intro e2;exact hc (by rw[List.getD_eq_getElem?_getD,List.getElem?_eq_getElem hlt];exact e2))
       generalize l.getD k 0=c at*;have d45:((c.toNat:Int) == 45)=false:=beq_eq_false_iff_ne.2 (fun e=>hc (UInt8.toNat_inj.1 (by show c.toNat=45;omega)));clear hc;go_wp2_with fail;go_round
       case rel=>exact⟨k+1,rfl,by omega,by go_num,HN⟩
       case measure=>(simp [intOf];try omega)
   · have hdec:decide (k<l.length)=false:=by simpa using hlt
     have hke:l.take k=l:=List.take_of_length_le (by omega);have HHN:=hid (zal (s:=l) (by have:=HQ.out;rw[hke] at this;exact this));go_wp2_with fail;go_meet
     case rel=>exact⟨none,0,by rw[HHN.out.1],hid hold2,hid (by rw[HHN.out.2];exact hnew2),hid (by rw[HHN.out.2];exact Txs.nil _ _ _),hid (fun b f e=>by cases e),HB1⟩
 case rest=>
  obtain⟨a,cap,rfl,HR,HC,HT,HK,HB⟩:=hcut;have HCUT:=hid (fun w=>zdt (head l) 46 w (by have:=HHL.out;omega));have hwl:w.heap.size+1<wc.heap.size:=(Array.getElem?_eq_some_iff.1 HC.out).1;have HPL:=hid (zad 46 (head l));have HPM:=hid (zae 46 (head l));have HRP:=hid (fun h=>zef hl h);have HR3:=hid (fun x y z h=>zeg (x:=x) (y:=y) (z:=z) hl h);have HFEW:=hid (zej l);clear hsz1 hnew HB0;go_wp2_with (go_at_call 38;refine(HCUT.out _).mono ?_;rintro e w2 ⟨v,rfl,ho,hb⟩;refine Hid.out ?_)
  refine hid ?_;obtain⟨a2,cap2,rfl,hT2⟩:=zdm ho (fun s hs=>by have:=HPM.out s hs;have:=HHL.out;omega) (by have:=HPL.out;have:=HHL.out;omega);have hr2:=(hb.block w.heap.size (by omega)).trans HR.out;have hc2:=(hb.block (w.heap.size+1) (by omega)).trans HC.out;have HT2:=hid (HT.out.gr hb);have HK2:Hid (KT w2 a):=hid (fun b f e=>(HK.out b f e).below hb);have HB2:=hid (HB.out.trans (hb.mono (by omega)));have hbs:=hb.size;clear ho hb HR HC HT HB;by_cases hp:(pieces 46 (head l)).length=3
  rotate_left
  · have HNO:=hid (HRP.out hp)
    have dn:(((pieces 46 (head l)).length:Int) != 3)=true:=by rw[bne_iff_ne];omega
    clear hp;go_wp2_with (refine wpList_store_row rfl 196 _ _ rfl w.heap.size #[.int .u32 0,.int .u32 0,.int .u32 0,.slice none 0 0] rfl rfl _ _ hr2 zdu rfl (zdv _ _ _ _ _ _) ?_)
    refine bodyPost_ret (zdy rfl _ _ w.heap.size _ #[.int .u32 0,.int .u32 0,.int .u32 0,.slice none 0 0] _ _ rfl (setRow_heap _ _ _ _ _ _ hr2) Tryz.underlying196 rfl zdu) rfl ?_;exact⟨⟨zec HNO.out,zqp _⟩,below_setRow HB2.out (Nat.le_refl _) _⟩
  obtain⟨x,y,z,hxyz⟩:∃x y z,pieces 46 (head l)=[x,y,z]:=by
   match pieces 46 (head l),hp with
   | [x,y,z],_=>exact⟨x,y,z,rfl⟩
  have HRV:=hid (HR3.out x y z hxyz);have hlx:=fun s (hs:s∈[x,y,z])=>HPM.out s (by rw[hxyz];exact hs)
  have hhl:=HHL.out;have NX:=hid (fun w=>zcq x w (by have:=hlx x (by simp);omega));have NY:=hid (fun w=>zcq y w (by have:=hlx y (by simp);omega));have NZ:=hid (fun w=>zcq z w (by have:=hlx z (by simp);omega));rw[hxyz] at hT2 ⊢;clear HPM HPL HRP HR3 hp hxyz hlx;obtain⟨b2,o2,rfl,hcl⟩:=hT2.cells (by simp);have e0:w2.cell? ⟨b2,o2,none⟩=some (.string (str x)):=hcl 0 (by simp);have e1:w2.cell? ⟨b2,o2+1,none⟩=some (.string (str y)):=hcl 1 (by simp);have e2:w2.cell? ⟨b2,o2+2,none⟩=some (.string (str z)):=hcl 2 (by simp);have f0:=zeb hc2 0;have f1:=zeb hc2 1;have f2:=zeb hc2 2;obtain⟨q0,q1,q2,q3⟩:=zdw hc2;have TK1:=hid hhl;have TK2:=hid hhl;clear hcl hT2 hhl
  go_upto_region 20 with (first
   | (go_at_call 147;clear TK1;refine(NX.out _).mono ?_;rintro e w' ⟨xa,rfl,hxa,rfl⟩)
   | (go_at_call 147;clear TK2;refine(NY.out _).mono ?_;rintro e w' ⟨xb,rfl,hxb,rfl⟩)
   | (go_at_call 147;refine(NZ.out _).mono ?_;rintro e w' ⟨xc,rfl,hxc,rfl⟩))
  have hc5:(((w2.setCell ⟨w.heap.size+1,0,none⟩ (.int .u32 xa)).setCell ⟨w.heap.size+1,1,none⟩ (.int .u32 xb)).setCell ⟨w.heap.size+1,2,none⟩ (.int .u32 xc)).heap[w.heap.size+1]?=some (verO xa xb xc a (ids l).length cap):=zdz (zdz (zdz hc2 0 _) 1 _) 2 _
  have hr5:(((w2.setCell ⟨w.heap.size+1,0,none⟩ (.int .u32 xa)).setCell ⟨w.heap.size+1,1,none⟩ (.int .u32 xb)).setCell ⟨w.heap.size+1,2,none⟩ (.int .u32 xc)).heap[w.heap.size]?=some (verO 0 0 0 none 0 0):=by
   rw[zea 2 _ (by omega),zea 1 _ (by omega),zea 0 _ (by omega)];exact hr2
  have HT5:Hid (Txs (((w2.setCell ⟨w.heap.size+1,0,none⟩ (.int .u32 xa)).setCell ⟨w.heap.size+1,1,none⟩ (.int .u32 xb)).setCell ⟨w.heap.size+1,2,none⟩ (.int .u32 xc)) a cap (ids l)):=by
   refine hid ⟨HT2.out.cap,HT2.out.short,HT2.out.few,fun h0=>?_⟩;obtain⟨b,o,e,hcell⟩:=HT2.out.cells h0;refine⟨b,o,e,fun i hi=>?_⟩;have hci:=hcell i hi;have hbc:w.heap.size+1≠b:=fun e=>by rw[←e] at hci;exact zdx hc2 _ _ hci
   rw[World.cell?_setCell_far _ _ _ _ hbc,World.cell?_setCell_far _ _ _ _ hbc,World.cell?_setCell_far _ _ _ _ hbc];exact hci
  have HK5:Hid (KT (((w2.setCell ⟨w.heap.size+1,0,none⟩ (.int .u32 xa)).setCell ⟨w.heap.size+1,1,none⟩ (.int .u32 xb)).setCell ⟨w.heap.size+1,2,none⟩ (.int .u32 xc)) a):=hid (fun b f e=>(HK2.out b f e).of (by
   have hne:b≠w.heap.size+1:=fun e2=>zqr hc2 (by decide) (e2 ▸ HK2.out b f e)
   rw[zea 2 _ hne,zea 1 _ hne,zea 0 _ hne]))
  have HB5:Hid (Below w.heap.size w (((w2.setCell ⟨w.heap.size+1,0,none⟩ (.int .u32 xa)).setCell ⟨w.heap.size+1,1,none⟩ (.int .u32 xb)).setCell ⟨w.heap.size+1,2,none⟩ (.int .u32 xc))):=
   hid (HB2.out.trans ⟨rfl,rfl,rfl,by simp,fun q hq=>by rw[zea 2 _ (by omega),zea 1 _ (by omega),zea 0 _ (by omega)]⟩)
  clear hc2 hr2 HT2 HK2 HB2 e0 e1 e2 f0 f1 f2 q0 q1 q2 q3;generalize (((w2.setCell ⟨w.heap.size+1,0,none⟩ (.int .u32 xa)).setCell ⟨w.heap.size+1,1,none⟩ (.int .u32 xb)).setCell ⟨w.heap.size+1,2,none⟩ (.int .u32 xc))=W5 at*;have hw5:w.heap.size+1<W5.heap.size:=(Array.getElem?_eq_some_iff.1 hc5).1;clear NX NY NZ;have hno:∀u,(numb u).isSome=false→numb u=none:=fun u h=>by cases hh:numb u;rfl;rw[hh] at h;cases h
  have HVX:=hid hxa;have HVY:=hid hxb;have HVZ:=hid hxc;clear hxa hxb hxc;by_cases hbx:(numb x).isSome=true
  rotate_left
  · have hbx':(numb x).isSome=false:=by simpa using hbx
    have HNO:=hid (show readB l=none by rw[HRV.out];unfold readV;rw[hno x hbx']);rw[hbx'];clear hbx hbx' hno;go_wp2_with (refine wpList_store_row rfl 196 _ _ rfl w.heap.size #[.int .u32 0,.int .u32 0,.int .u32 0,.slice none 0 0] rfl rfl _ _ hr5 zdu rfl (zdv _ _ _ _ _ _) ?_)
    refine bodyPost_ret (zdy rfl _ _ w.heap.size _ #[.int .u32 0,.int .u32 0,.int .u32 0,.slice none 0 0] _ _ rfl (setRow_heap _ _ _ _ _ _ hr5) Tryz.underlying196 rfl zdu) rfl ?_;exact⟨⟨zec HNO.out,zqp _⟩,below_setRow HB5.out (Nat.le_refl _) _⟩
  by_cases hby:(numb y).isSome=true
  rotate_left
  · have hby':(numb y).isSome=false:=by simpa using hby
    have HNO:=hid (show readB l=none by rw[HRV.out];unfold readV;rw[hno y hby'];split<;>simp_all);rw[hbx,hby'];clear hbx hby hby' hno;go_wp2_with (refine wpList_store_row rfl 196 _ _ rfl w.heap.size #[.int .u32 0,.int .u32 0,.int .u32 0,.slice none 0 0] rfl rfl _ _ hr5 zdu rfl (zdv _ _ _ _ _ _) ?_)
    refine bodyPost_ret (zdy rfl _ _ w.heap.size _ #[.int .u32 0,.int .u32 0,.int .u32 0,.slice none 0 0] _ _ rfl (setRow_heap _ _ _ _ _ _ hr5) Tryz.underlying196 rfl zdu) rfl ?_;exact⟨⟨zec HNO.out,zqp _⟩,below_setRow HB5.out (Nat.le_refl _) _⟩
  by_cases hbz:(numb z).isSome=true
  rotate_left
  · have hbz':(numb z).isSome=false:=by simpa using hbz
    have HNO:=hid (show readB l=none by rw[HRV.out];unfold readV;rw[hno z hbz'];split<;>simp_all);rw[hbx,hby,hbz'];clear hbx hby hbz hbz' hno;go_wp2_with (refine wpList_store_row rfl 196 _ _ rfl w.heap.size #[.int .u32 0,.int .u32 0,.int .u32 0,.slice none 0 0] rfl rfl _ _ hr5 zdu rfl (zdv _ _ _ _ _ _) ?_)
    refine bodyPost_ret (zdy rfl _ _ w.heap.size _ #[.int .u32 0,.int .u32 0,.int .u32 0,.slice none 0 0] _ _ rfl (setRow_heap _ _ _ _ _ _ hr5) Tryz.underlying196 rfl zdu) rfl ?_;exact⟨⟨zec HNO.out,zqp _⟩,below_setRow HB5.out (Nat.le_refl _) _⟩
  obtain⟨na,hna⟩:=Option.isSome_iff_exists.1 hbx;obtain⟨nb,hnb⟩:=Option.isSome_iff_exists.1 hby;obtain⟨nc,hnc⟩:=Option.isSome_iff_exists.1 hbz;have ea:=HVX.out na hna;have eb:=HVY.out nb hnb;have ec:=HVZ.out nc hnc;subst ea eb ec;rw[hbx,hby,hbz];have HV:=hid (show readB l=if may ⟨na,nb,nc,ids l⟩ then some ⟨na,nb,nc,ids l⟩ else none by rw[HRV.out];unfold readV;rw[hna,hnb,hnc]);clear hbx hby hbz hna hnb hnc HVX HVY HVZ hno HRV;have HM:=hid (rmay_any ⟨na,nb,nc,ids l⟩ a cap W5 HT5.out);obtain⟨q0,q1,q2,q3⟩:=zdw hc5;rcases Bool.eq_false_or_eq_true (may ⟨na,nb,nc,ids l⟩) with hm|hm
  · have HSO:=hid (show readB l=some ⟨na,nb,nc,ids l⟩ by rw[HV.out,hm];rfl)
    rw[hm] at HM;clear hm HV;go_wp2_with (go_at_call 148;refine HM.out.mono ?_;rintro e w6 ⟨rfl,hg6⟩;refine Hid.out ?_)
    refine hid ?_;have hr6:=(hg6.below.block w.heap.size (by omega)).trans hr5;have hc6:=(hg6.below.block (w.heap.size+1) (by omega)).trans hc5;have HT6:=hid (HT5.out.gr hg6.below);have HK6:Hid (KT w6 a):=hid (fun b f e=>(HK5.out b f e).below hg6.below);have HB6:=hid (HB5.out.trans (hg6.below.mono (by omega)));have hw6:w.heap.size<w6.heap.size:=(Array.getElem?_eq_some_iff.1 hr6).1;clear hg6 HM hr5 hc5 HT5 HB5 q0 q1 q2 q3
    go_wp2_with (first
     | (refine wpList_load_row rfl 196 _ rfl (w.heap.size+1) rfl _ _ _ _ hc6 Tryz.underlying196 rfl zdu ?_)
     | (refine wpList_store_row rfl 196 _ _ rfl w.heap.size #[.int .u32 na,.int .u32 nb,.int .u32 nc,.slice a (ids l).length cap] rfl rfl _ _ hr6 zdu rfl (zdv _ _ _ _ _ _) ?_))
    refine bodyPost_ret (zdy rfl _ _ w.heap.size _ #[.int .u32 na,.int .u32 nb,.int .u32 nc,.slice a (ids l).length cap] _ _ rfl (setRow_heap _ _ _ _ _ _ hr6) Tryz.underlying196 rfl zdu) rfl ?_;refine⟨⟨zed (v:=⟨na,nb,nc,ids l⟩) HSO.out ⟨HT6.out.cap,HT6.out.short,HT6.out.few,fun h0=>?_⟩,zqq fun b f e=>(HK6.out b f e).of (setRow_other w6 w.heap.size b _ (fun e2=>zqr hr6 (by decide) (e2 ▸ HK6.out b f e)))⟩,below_setRow HB6.out (Nat.le_refl _) _⟩;obtain⟨b,o,e,hcell⟩:=HT6.out.cells h0;refine⟨b,o,e,fun i hi=>?_⟩;have hci:=hcell i hi;have hbc:b≠w.heap.size:=fun e=>by rw[e] at hci;exact zdx hr6 _ _ hci
    have:=setRow_other w6 w.heap.size b #[.int .u32 na,.int .u32 nb,.int .u32 nc,.slice a (ids l).length cap] hbc
    unfold World.cell? at hci ⊢;rw[this];exact hci
  · have HNO:=hid (show readB l=none by rw[HV.out,hm];rfl)
    rw[hm] at HM;clear hm HV;go_wp2_with (go_at_call 148;refine HM.out.mono ?_;rintro e w6 ⟨rfl,hg6⟩;refine Hid.out ?_)
    refine hid ?_;have hr6:=(hg6.below.block w.heap.size (by omega)).trans hr5;have HB6:=hid (HB5.out.trans (hg6.below.mono (by omega)));clear hg6 HM hr5 hc5 HT5 HB5 q0 q1 q2 q3;go_wp2_with (refine wpList_store_row rfl 196 _ _ rfl w.heap.size #[.int .u32 0,.int .u32 0,.int .u32 0,.slice none 0 0] rfl rfl _ _ hr6 zdu rfl (zdv _ _ _ _ _ _) ?_)
    refine bodyPost_ret (zdy rfl _ _ w.heap.size _ #[.int .u32 0,.int .u32 0,.int .u32 0,.slice none 0 0] _ _ rfl (setRow_heap _ _ _ _ _ _ hr6) Tryz.underlying196 rfl zdu) rfl ?_;exact⟨⟨zec HNO.out,zqp _⟩,below_setRow HB6.out (Nat.le_refl _) _⟩
theorem zqt(l:B)(w:World):
 Calls Tryz.prog 124 #[.string (str l)] w fun e w'=>∃x,e= .returned x∧ReadE l w' (.returned x)∧KindE w' (.returned x)∧Below w.heap.size w w':=
 (zqs l w).mono fun e w' ⟨⟨he,hk⟩,hb⟩=>by
   obtain⟨x,rfl⟩:=zgz he;exact⟨x,rfl,he,hk,hb⟩
end VerC
namespace SpanC
open VerM StrC TextR VerC
set_option maxRecDepth 100000 in
theorem zqu{K:Prop}(v:Ver)(a:Option Addr)(cap:Nat)(w:World):
 Calls Tryz.prog 279 #[verV v.a v.b v.c a v.pre.length cap] w fun e w'=>Below w.heap.size w w'∧∃g,e= .returned (verV v.a v.b v.c (some ⟨g,0,none⟩) 1 1)∧TxQ K w' (some ⟨g,0,none⟩) 1 [nought]:=by
 obtain⟨na,nb,nc,p⟩:=v
 dsimp only at*
 generalize (na:Int)=xa at*;generalize (nb:Int)=xb at*;generalize (nc:Int)=xc at*;go_enter Tryz.func279,Tryz.ntmps279;go_wp2_with fail;have hs1:(w.alloc (verO xa xb xc (some ⟨w.heap.size+2,0,none⟩) 1 1)).heap.size=w.heap.size+1:=by simp
 have hs2:((w.alloc (verO xa xb xc (some ⟨w.heap.size+2,0,none⟩) 1 1)).alloc (verO xa xb xc (some ⟨w.heap.size+2,0,none⟩) 1 1)).heap.size=w.heap.size+2:=by simp
 have hr1:=heap_alloc_new (w.alloc (verO xa xb xc (some ⟨w.heap.size+2,0,none⟩) 1 1)) (verO xa xb xc (some ⟨w.heap.size+2,0,none⟩) 1 1);rw[hs1] at hr1;have hr2:=(heap_alloc_old ((w.alloc (verO xa xb xc (some ⟨w.heap.size+2,0,none⟩) 1 1)).alloc (verO xa xb xc (some ⟨w.heap.size+2,0,none⟩) 1 1)) (.cells #[.string ⟨#[48]⟩] 9) (r:=w.heap.size+1) (by rw[hs2];omega)).trans hr1;have hc2:=heap_alloc_new ((w.alloc (verO xa xb xc (some ⟨w.heap.size+2,0,none⟩) 1 1)).alloc (verO xa xb xc (some ⟨w.heap.size+2,0,none⟩) 1 1)) (.cells #[.string ⟨#[48]⟩] 9);rw[hs2] at hc2;have HB:=hid ((((Below.refl _ w).alloc (Nat.le_refl _) (verO xa xb xc (some ⟨w.heap.size+2,0,none⟩) 1 1)).alloc (by simp) (verO xa xb xc (some ⟨w.heap.size+2,0,none⟩) 1 1)).alloc (by simp;omega) (.cells #[.string ⟨#[48]⟩] 9));refine bodyPost_ret (zfc rfl _ _ (w.heap.size+1) _ _ _ _ rfl hr2 Tryz.underlying196 rfl zdu) rfl ?_;refine⟨HB.out,w.heap.size+2,rfl,⟨Nat.le_refl _,fun s hs=>?_,by simp,fun _=>⟨w.heap.size+2,0,rfl,fun i hi=>?_⟩⟩,fun _ b f e=>(by cases e;exact⟨_,_,hc2⟩)⟩
 · rw[List.mem_singleton] at hs;rw[hs];decide
 · have:i=0:=by simp at hi;omega
   subst this;unfold World.cell?;rw[show (⟨w.heap.size+2,0+0,none⟩:Addr).block=w.heap.size+2 from rfl,hc2]
   rfl
end SpanC
open Go.RowKit
namespace SpanC
open VerM SpanM StrC TextR VerC
variable {K:Prop}
theorem zqv(A C:List St):formM (meets (formM A) (formM C))=formM (meets A C):=zii fun e=>by
 rw[zia,zia,(zif A).2,(zif C).2]
theorem zqw(s t:St):formM (meets (formM [s]) (formM [t]))=formM [meetS s t]:=zqv [s] [t]
def FormE(K:Prop)(l:List St)(w:World)(e:Ending)(w':World):Prop:=∃u R,e= .returned u∧RL K w' w.heap.size u R∧spanM R=formM l∧Below w.heap.size w w'
theorem FormE.base{l:List St}{w w1 w2:World}{e:Ending}(h:FormE K l w1 e w2)(hb:Below w.heap.size w w1):FormE K l w e w2:=by
 obtain⟨u,R,h1,h2,h3,h4⟩:=h;exact⟨u,R,h1,h2.base hb.size,h3,hb.trans (h4.mono hb.size)⟩
theorem zqx(W:World)(x:IvG)(B:Nat)(hB:B≤W.heap.size):IvRow (W.alloc (gvO x)) B (.slice (some ⟨W.heap.size,0,none⟩) 1 1) [x]:=
 ⟨by simp,.inr ⟨W.heap.size,1,(gvL x).toArray,rfl,hB,heap_alloc_new W _,Nat.le_refl _,by unfold maxLen;omega,by simp,by simp⟩⟩
def botV:Ver:=⟨0,0,0,[nought]⟩
theorem botV_is:allS.f=⟨botV,0⟩:=rfl
theorem zqy:may botV=true:=by rfl
set_option maxRecDepth 100000 in
theorem zqz(w:World):Calls Tryz.prog 244 #[] w fun e w'=>∃g,e= .returned (verV 0 0 0 (some ⟨g,0,none⟩) 1 1)∧TxQ K w' (some ⟨g,0,none⟩) 1 [nought]∧Below w.heap.size w w':=by
 go_enter Tryz.func244,Tryz.ntmps244;go_wp2_with fail;have hr1:=(heap_alloc_old (w.alloc (verO 0 0 0 (some ⟨w.heap.size+1,0,none⟩) 1 1)) (.cells #[.string ⟨#[48]⟩] 9) (r:=w.heap.size) (by simp)).trans (heap_alloc_new w (verO 0 0 0 (some ⟨w.heap.size+1,0,none⟩) 1 1));have hc2:=heap_alloc_new (w.alloc (verO 0 0 0 (some ⟨w.heap.size+1,0,none⟩) 1 1)) (.cells #[.string ⟨#[48]⟩] 9);rw[show (w.alloc (verO 0 0 0 (some ⟨w.heap.size+1,0,none⟩) 1 1)).heap.size=w.heap.size+1 from by simp] at hc2;have HB:=hid (((Below.refl _ w).alloc (Nat.le_refl _) (verO 0 0 0 (some ⟨w.heap.size+1,0,none⟩) 1 1)).alloc (by simp) (.cells #[.string ⟨#[48]⟩] 9));refine bodyPost_ret (zfc rfl _ _ w.heap.size _ _ _ _ rfl hr1 Tryz.underlying196 rfl zdu) rfl ?_;refine⟨w.heap.size+1,rfl,⟨⟨Nat.le_refl _,fun s hs=>?_,by simp,fun _=>⟨w.heap.size+1,0,rfl,fun i hi=>?_⟩⟩,fun _ b f e=>(by cases e;exact⟨_,_,hc2⟩)⟩,HB.out⟩
 · rw[List.mem_singleton] at hs;rw[hs];decide
 · have:i=0:=by simp at hi;omega
   subst this;unfold World.cell?;rw[show (⟨w.heap.size+1,0+0,none⟩:Addr).block=w.heap.size+1 from rfl,hc2]
   rfl
theorem zra{v:Ver}(hm:may v=true)(a:Option Addr)(c:Nat)(o:Bool):zjz ⟨v,a,c,o,⟨0,0,0,[]⟩,none,0,false,true⟩=true:=by
 unfold zjz
 dsimp only
 rw[hm]
 rfl
theorem zrb{f:Ed}(hf:f.s≤1):SpanM.Can [(⟨f,allS.t⟩:St)]:=by
 refine⟨fun x hx=>?_,List.pairwise_singleton _ _⟩;rw[List.mem_singleton.1 hx]
 show cE f allS.t<0;have:=zll (v:=f.v) hf
 show cE ⟨f.v,f.s⟩ ⟨zeroV,2⟩<0;omega
set_option maxRecDepth 100000 in
theorem zrc(v:Ver)(a:Option Addr)(c:Nat)(o:Bool)(w:World)(hT:TxQ K w a c v.pre)(hm:may v=true):
 Calls Tryz.prog 261 #[verV v.a v.b v.c a v.pre.length c,.bool o] w (FormE K [⟨⟨v,sideF o⟩,allS.t⟩] w):=by
 have hB0:Below w.heap.size w (w.alloc (verO v.a v.b v.c a v.pre.length c)):=(Below.refl _ w).alloc (Nat.le_refl _) _;have HT:=hid (hT.gr hB0);have HB0:=hid hB0
 have HF:Hid (∀W,Below w.heap.size w W→TxQ K W a c v.pre→FormE K [⟨⟨v,sideF o⟩,allS.t⟩] w (.returned (.slice (some ⟨W.heap.size,0,none⟩) 1 1)) (W.alloc (gvO ⟨v,a,c,o,⟨0,0,0,[]⟩,none,0,false,true⟩))):=hid (fun W hb ht=>by
  refine⟨_,[⟨v,a,c,o,⟨0,0,0,[]⟩,none,0,false,true⟩],rfl,⟨zqx W _ _ hb.size,fun x hx=>?_,fun x hx=>?_⟩,?_,hb.alloc hb.size _⟩
  · rw[List.mem_singleton.1 hx]
    exact⟨ht.gr ((Below.refl _ W).alloc (Nat.le_refl _) _),TxQ.nil _ _⟩
  · rw[List.mem_singleton.1 hx]
    exact zra hm a c o
  · rw[zih (zrb (f:=⟨v,sideF o⟩) (by show sideF o≤1;cases o<;>decide))]
    rfl)
 generalize FormE K [⟨⟨v,sideF o⟩,allS.t⟩] w=FE at*;obtain⟨q0,q1,q2,q3⟩:=zdw (heap_alloc_new w (verO v.a v.b v.c a v.pre.length c));clear hT hm hB0;go_enter Tryz.func261,Tryz.ntmps261;go_wp2_with fail;have h:=HF.out _ HB0.out HT.out;simp only[World.size_alloc] at h;exact h
set_option maxRecDepth 100000 in
theorem zrd(w:World):Calls Tryz.prog 235 #[] w (FormE K [allS] w):=by
 have HF:Hid (∀W g,Below w.heap.size w W→TxQ K W (some ⟨g,0,none⟩) 1 [nought]→FormE K [allS] w (.returned (.slice (some ⟨W.heap.size,0,none⟩) 1 1)) (W.alloc (gvO ⟨botV,some ⟨g,0,none⟩,1,false,⟨0,0,0,[]⟩,none,0,false,true⟩))):=hid (fun W g hb ht=>by
  refine⟨_,[⟨botV,some ⟨g,0,none⟩,1,false,⟨0,0,0,[]⟩,none,0,false,true⟩],rfl,⟨zqx W _ _ hb.size,fun x hx=>?_,fun x hx=>?_⟩,?_,hb.alloc hb.size _⟩
  · rw[List.mem_singleton.1 hx]
    exact⟨ht.gr ((Below.refl _ W).alloc (Nat.le_refl _) _),TxQ.nil _ _⟩
  · rw[List.mem_singleton.1 hx]
    exact zra zqy _ _ _
  · rw[zih (zrb (f:=allS.f) (by decide))]
    rfl)
 generalize FormE K [allS] w=FE at*;go_enter Tryz.func235,Tryz.ntmps235;go_wp2_with (go_at_call 244;refine(zqz (K:=K) _).mono ?_;rintro e w2 ⟨g,rfl,hT,hb⟩;have HT:=hid hT;have HB:=hid hb;clear hT hb)
 exact HF.out _ _ HB.out HT.out
theorem join_one(x:IvG)(g:Nat)(w:World)(h:IvRow w 0 (.slice (some ⟨g,0,none⟩) 1 1) [x])(hx:TI K w x)(hr:zjz x=true):
 Calls Tryz.prog 215 #[.slice (some ⟨g,0,none⟩) 1 1] w (FormE K [(toSt x).st] w):=
 (zmq (some ⟨g,0,none⟩) 1 [x] w ⟨h.in_,fun y hy=>by rw[List.mem_singleton.1 hy];exact hx⟩ (fun y hy=>by rw[List.mem_singleton.1 hy];exact hr) (by simp)).mono fun _ _ ⟨u,R,h1,h2,h3,h4⟩=>⟨u,R,h1,h2,h3,h4⟩
def sideH(o:Bool):Nat:=if o then 0 else 1
set_option maxRecDepth 100000 in
theorem zre(v:Ver)(a:Option Addr)(c:Nat)(o:Bool)(w:World)(hT:TxQ K w a c v.pre)(hm:may v=true):
 Calls Tryz.prog 262 #[verV v.a v.b v.c a v.pre.length c,.bool o] w (FormE K [⟨allS.f,⟨v,sideH o⟩⟩] w):=by
 have hn:=heap_alloc_new w (verO v.a v.b v.c a v.pre.length c);have hB0:Below w.heap.size w (w.alloc (verO v.a v.b v.c a v.pre.length c)):=(Below.refl _ w).alloc (Nat.le_refl _) _;have HT:=hid hT;have HB0:=hid hB0;have HM:=hid hm;obtain⟨q0,q1,q2,q3⟩:=zdw hn;clear hT hm hB0;go_enter Tryz.func262,Tryz.ntmps262;go_wp2_with fail;generalize w.alloc (verO v.a v.b v.c a v.pre.length c)=W at*;have hlt:w.heap.size<W.heap.size:=(Array.getElem?_eq_some_iff.1 hn).1;have HS:Hid (∀w',Below W.heap.size W w'→w'.cell? ⟨w.heap.size,0,none⟩=some (.int .u32 v.a)∧w'.cell? ⟨w.heap.size,1,none⟩=some (.int .u32 v.b)∧w'.cell? ⟨w.heap.size,2,none⟩=some (.int .u32 v.c)∧w'.cell? ⟨w.heap.size,3,none⟩=some (.slice a v.pre.length c)):=hid (fun w' h=>⟨(h.cell hlt).trans q0,(h.cell hlt).trans q1,(h.cell hlt).trans q2,(h.cell hlt).trans q3⟩);have HD1:Hid (Below W.heap.size W W.drew):=hid ((Gr.refl W).drew).below
 have HX:Hid (∀w2 g,Below W.heap.size W w2→TxQ K w2 (some ⟨g,0,none⟩) 1 [nought]→TI K (w2.alloc (gvO ⟨botV,some ⟨g,0,none⟩,1,false,v,a,c,o,false⟩)) ⟨botV,some ⟨g,0,none⟩,1,false,v,a,c,o,false⟩∧zjz ⟨botV,some ⟨g,0,none⟩,1,false,v,a,c,o,false⟩=true):=hid (fun w2 g hb ht=>
  ⟨⟨ht.gr ((Below.refl _ w2).alloc (Nat.le_refl _) _),(HT.out.gr (HB0.out.trans (hb.mono HB0.out.size))).gr ((Below.refl _ w2).alloc (Nat.le_refl _) _)⟩,by unfold zjz;dsimp only;rw[zqy,HM.out];rfl⟩)
 have HST:Hid (∀g,(toSt ⟨botV,some ⟨g,0,none⟩,1,false,v,a,c,o,false⟩).st=⟨allS.f,⟨v,sideH o⟩⟩):=hid (fun g=>rfl);clear hlt hn
 go_region_held3 (fun w'=>w'.cell? ⟨w.heap.size,0,none⟩=some (.int .u32 v.a)∧w'.cell? ⟨w.heap.size,1,none⟩=some (.int .u32 v.b)∧w'.cell? ⟨w.heap.size,2,none⟩=some (.int .u32 v.c)∧w'.cell? ⟨w.heap.size,3,none⟩=some (.slice a v.pre.length c))
  (first|exact⟨q0,q1,q2,q3⟩|assumption|exact HS.out _ (HB2.out.alloc HB2.out.size _)|exact HS.out _ HB3.out)
  (first
    | (go_at_call 244;refine(zqz (K:=K) W.drew).mono ?_;rintro e w2 ⟨g,rfl,hT2,hb2⟩;have HT2:=hid hT2;have HB2:Hid (Below W.heap.size W w2):=hid (HD1.out.trans (hb2.mono HD1.out.size));have hS2:=HS.out w2 HB2.out;clear hT2 hb2)
    | (go_at_call 215;refine(join_one ⟨botV,some ⟨g,0,none⟩,1,false,v,a,c,o,false⟩ w2.heap.size _ (zqx w2 _ _ (Nat.zero_le _)) (HX.out w2 g HB2.out HT2.out).1 (HX.out w2 g HB2.out HT2.out).2).mono ?_;rintro e w3 ⟨u,R,rfl,hr3,hm3,hb3⟩;have HB3:Hid (Below W.heap.size W w3):=hid ((HB2.out.alloc HB2.out.size _).trans (hb3.mono (HB2.out.alloc HB2.out.size _).size));have HR3:=hid hr3;have HM3:=hid hm3;have HBB:=hid hb3;have hS3:=HS.out w3 HB3.out;clear hr3 hm3 hb3))
 all_goals
  clear hS2 hS3;go_wp2_with fail;go_ret;exact⟨u,R,rfl,HR3.out.base (by have:=HB0.out.size;have:=HB2.out.size;simp;omega),HM3.out.trans (by rw[HST.out]),HB0.out.trans (HB3.out.mono HB0.out.size)⟩
end SpanC
open Go.RowKit
namespace SpanC
open VerM SpanM StrC TextR VerC
variable {K:Prop}
theorem zrf{v:Ver}(h1:may v=true):may (zbl v)=true:=by
 obtain⟨a1,a2,a3,-,-⟩:=zdp h1;exact zdd a1 a2 a3 (show ([nought]:TL).length≤8 by decide) (show ([nought]:TL).all ident=true by decide)
theorem zrg{v u:Ver}{n k:Nat}(hv:may v=true)(hk:k≠2):meetS ⟨⟨v,n⟩,allS.t⟩ ⟨allS.f,⟨u,k⟩⟩=⟨⟨v,n⟩,⟨u,k⟩⟩:=by
 have h1:=zkz hv n;have h2:=zla u hk;have a1:=zhs ⟨v,n⟩ allS.f;have a2:=zhs allS.t ⟨u,k⟩;unfold meetS
 dsimp only
 rw[if_neg (by omega),if_pos (by omega)]
theorem zrh{s:St}{R:List IvG}(h:spanM R=formM [s]):R.length≤1:=by
 have:=zqm [s]
 rw[←h,zmj] at this
 simpa using this
theorem zri(s t:St)(u1 u2:Value)(A C:List IvG)(w:World)(h1:RL K w 0 u1 A)(h2:RL K w 0 u2 C)(m1:spanM A=formM [s])(m2:spanM C=formM [t]):
 Calls Tryz.prog 237 #[u1,u2] w (FormE K [meetS s t] w):=by
 obtain⟨a1,p1,rfl,r1⟩:=h1.arg;obtain⟨a2,p2,rfl,r2⟩:=h2.arg;refine(zmy a1 p1 A a2 p2 C w r1 r2 h1.ok h2.ok (by have:=zrh m1;omega) (by have:=zrh m2;omega)).mono fun _ _ ⟨u,R,e,hr,hm,hb⟩=>⟨u,R,e,hr,?_,hb⟩
 rw[hm,m1,m2,zqw]
theorem RL.low{w:World}{B:Nat}{u:Value}{L:List IvG}(h:RL K w B u L):RL K w 0 u L:=h.base (Nat.zero_le _)
theorem zrj{w w':World}{g:Nat}{x y z:Int}{a:Option Addr}{n c:Nat}(h:w.heap[g]?=some (verO x y z a n c))(hb:Below w.heap.size w w'):w'.cell? ⟨g,0,none⟩=some (.int .u32 x)∧w'.cell? ⟨g,1,none⟩=some (.int .u32 y)∧w'.cell? ⟨g,2,none⟩=some (.int .u32 z)∧w'.cell? ⟨g,3,none⟩=some (.slice a n c):=zdw ((hb.block _ (Array.getElem?_eq_some_iff.1 h).1).trans h)
set_option maxRecDepth 100000 in
theorem zrk(v:Ver)(a:Option Addr)(c:Nat)(k:Int)(w:World)(hT:TxQ K w a c v.pre)(hm:may v=true):
 Calls Tryz.prog 263 #[verV v.a v.b v.c a v.pre.length c,.int .i64 k] w (FormE K [⟨⟨v,0⟩,nextE v k⟩] w):=by
 have hn:=heap_alloc_new w (verO v.a v.b v.c a v.pre.length c);have hB0:Below w.heap.size w (w.alloc (verO v.a v.b v.c a v.pre.length c)):=(Below.refl _ w).alloc (Nat.le_refl _) _;have HNX:=hid (zqo v k a c (w.alloc (verO v.a v.b v.c a v.pre.length c)) (hT.gr hB0).txs);have HT:=hid hT;have HB0:=hid hB0;have HN:=hid hn;have HM:=hid hm;obtain⟨q0,q1,q2,q3⟩:=zdw hn;have hlt:w.heap.size<(w.alloc (verO v.a v.b v.c a v.pre.length c)).heap.size:=(Array.getElem?_eq_some_iff.1 hn).1;have HLT:=hid hlt;clear hT hB0 hn hlt;rcases hnx:nextV v k with _|u
 · obtain⟨e1,e2⟩:=zhg hm hnx
   have HE:Hid (nextE v k=allS.t):=hid (by unfold nextE;rw[hnx]);rw[e1,e2] at HNX;clear hm hnx e1 e2;go_enter Tryz.func263,Tryz.ntmps263;go_wp2_with (go_at_call 278;refine HNX.out.mono ?_;rintro e w2 ⟨rfl,hb2⟩;refine Hid.out ?_)
   refine hid ?_;have HB2:=hid (HB0.out.trans (hb2.mono HB0.out.size));have hn2:=(hb2.block _ HLT.out).trans HN.out;have hn3:=(heap_alloc_old w2 (verO 0 0 0 none 0 0) (r:=w.heap.size) (Nat.lt_of_lt_of_le HLT.out hb2.size)).trans hn2;have HB3:=hid (HB2.out.alloc HB2.out.size (verO 0 0 0 none 0 0));clear q0 q1 q2 q3 hb2 hn2 HB2 HNX;obtain⟨q0,q1,q2,q3⟩:=zdw hn3;clear hn3;have HF:Hid (∀e w',FormE K [⟨⟨v,sideF false⟩,allS.t⟩] (w2.alloc (verO 0 0 0 none 0 0)) e w'→FormE K [⟨⟨v,0⟩,nextE v k⟩] w e w'):=hid (fun e w' h=>by rw[HE.out];exact h.base HB3.out);have HAB:=hid ((zrc v a c false (w2.alloc (verO 0 0 0 none 0 0)) (HT.out.gr HB3.out) HM.out).mono fun e w' h=>(show ∃u,e= .returned u∧FormE K [⟨⟨v,sideF false⟩,allS.t⟩] (w2.alloc (verO 0 0 0 none 0 0)) e w' from h.elim fun u h=>h.elim fun R h=>⟨u,h.1,u,R,h⟩));generalize FormE K [⟨⟨v,0⟩,nextE v k⟩] w=FE at*;go_wp2_with (go_at_call 261;refine HAB.out.mono ?_;rintro e w4 ⟨u,rfl,hf⟩;have HF4:=hid hf;clear hf)
   exact HF.out _ _ HF4.out
 · obtain⟨e1,e2⟩:=zhh hm hnx
   obtain⟨hum,hup⟩:=znc hm hnx;have HE:Hid (nextE v k=⟨zbl u,0⟩):=hid (by unfold nextE;rw[hnx]);have HLM:=hid (zrf hum);have HUP:=hid hup;rw[e1,e2] at HNX;have HMAB:Hid (meetS ⟨⟨v,sideF false⟩,allS.t⟩ ⟨allS.f,⟨zbl u,sideH true⟩⟩=⟨⟨v,0⟩,nextE v k⟩):=hid (by rw[HE.out];exact zrg hm (by decide));obtain⟨ua,ub,uc,up⟩:=u
   dsimp only at*
   subst hup;clear hm hnx e1 e2 hum;go_enter Tryz.func263,Tryz.ntmps263;go_wp2_with (go_at_call 278;refine HNX.out.mono ?_;rintro e w2 ⟨rfl,hb2⟩;refine Hid.out ?_)
   refine hid ?_;have HB2:=hid (HB0.out.trans (hb2.mono HB0.out.size));have hn2:=(hb2.block _ HLT.out).trans HN.out;have hl2:w.heap.size<w2.heap.size:=Nat.lt_of_lt_of_le HLT.out hb2.size;have hn3:=(heap_alloc_old w2 (verO ua ub uc none 0 0) (r:=w.heap.size) hl2).trans hn2;have hu3:=heap_alloc_new w2 (verO ua ub uc none 0 0);have HB3:=hid (HB2.out.alloc HB2.out.size (verO ua ub uc none 0 0));have HN3:=hid hn3;have HU3:=hid hu3;clear q0 q1 q2 q3 hb2 hn2 HB2 HNX hl2;obtain⟨q0,q1,q2,q3⟩:=zdw hn3;obtain⟨p0,p1,p2,p3⟩:=zdw hu3;clear hn3 hu3;go_wp2_with fail;obtain⟨gu,hgu⟩:∃gu,w2.heap.size=gu:=⟨_,rfl⟩;rw[hgu] at HU3 p0 p1 p2 p3 ⊢;clear hgu;generalize w2.alloc (verO ua ub uc none 0 0)=W at*;have HS:Hid (∀w',Below W.heap.size W w'→(w'.cell? ⟨w.heap.size,0,none⟩=some (.int .u32 v.a)∧w'.cell? ⟨w.heap.size,1,none⟩=some (.int .u32 v.b)∧w'.cell? ⟨w.heap.size,2,none⟩=some (.int .u32 v.c)∧w'.cell? ⟨w.heap.size,3,none⟩=some (.slice a v.pre.length c))∧(w'.cell? ⟨gu,0,none⟩=some (.int .u32 ua)∧w'.cell? ⟨gu,1,none⟩=some (.int .u32 ub)∧w'.cell? ⟨gu,2,none⟩=some (.int .u32 uc)∧w'.cell? ⟨gu,3,none⟩=some (.slice none 0 0))):=hid (fun w' h=>⟨zrj HN3.out h,zrj HU3.out h⟩);have HD1:Hid (Below W.heap.size W W.drew):=hid ((Gr.refl W).drew).below;have HAB:=hid (fun w' (h:Below W.heap.size W w')=>zrc v a c false w' (HT.out.gr (HB3.out.trans (h.mono HB3.out.size))) HM.out);have HLE:=hid (fun w'=>zqu (K:=K) ⟨ua,ub,uc,[]⟩ none 0 w');have HBE:=hid (fun w' g (h:TxQ K w' (some ⟨g,0,none⟩) 1 [nought])=>zre (zbl ⟨ua,ub,uc,[]⟩) (some ⟨g,0,none⟩) 1 true w' h HLM.out);have HFIN:Hid (∀w4 e w5,Below W.heap.size W w4→FormE K [meetS ⟨⟨v,sideF false⟩,allS.t⟩ ⟨allS.f,⟨zbl ⟨ua,ub,uc,[]⟩,sideH true⟩⟩] w4 e w5→FormE K [⟨⟨v,0⟩,nextE v k⟩] w e w5):=hid (fun w4 e w5 h hf=>by rw[HMAB.out] at hf;exact hf.base (HB3.out.trans (h.mono HB3.out.size)));have HMT:=hid (fun w4 (h:Below W.heap.size W w4) u1 u2 A C h1 h2 m1 m2=>(zri ⟨⟨v,sideF false⟩,allS.t⟩ ⟨allS.f,⟨zbl ⟨ua,ub,uc,[]⟩,sideH true⟩⟩ u1 u2 A C w4 h1 h2 m1 m2).mono fun e w' hf=>(show ∃u,e= .returned u∧FormE K [⟨⟨v,0⟩,nextE v k⟩] w e w'∧Below w4.heap.size w4 w' from hf.elim fun u h=>h.elim fun R h'=>⟨u,h'.1,HFIN.out w4 _ _ ‹_› ⟨u,R,h'⟩,h'.2.2.2⟩));generalize FormE K [⟨⟨v,0⟩,nextE v k⟩] w=FE at*;clear HFIN HMAB HN3 HU3
   go_region_held3 (fun w'=>(w'.cell? ⟨w.heap.size,0,none⟩=some (.int .u32 v.a)∧w'.cell? ⟨w.heap.size,1,none⟩=some (.int .u32 v.b)∧w'.cell? ⟨w.heap.size,2,none⟩=some (.int .u32 v.c)∧w'.cell? ⟨w.heap.size,3,none⟩=some (.slice a v.pre.length c))∧(w'.cell? ⟨gu,0,none⟩=some (.int .u32 ua)∧w'.cell? ⟨gu,1,none⟩=some (.int .u32 ub)∧w'.cell? ⟨gu,2,none⟩=some (.int .u32 uc)∧w'.cell? ⟨gu,3,none⟩=some (.slice none 0 0)))
    (first|exact⟨⟨q0,q1,q2,q3⟩,p0,p1,p2,p3⟩|assumption|exact HS.out _ HB5.out)
    (first
      | (go_at_call 261;refine(HAB.out W.drew HD1.out).mono ?_;rintro e wA ⟨uA,A,rfl,hrA,hmA,hbA⟩;have HBA:Hid (Below W.heap.size W wA):=hid (HD1.out.trans (hbA.mono HD1.out.size));have hSA:=HS.out wA HBA.out;have HRA:=hid hrA.low;have HMA:=hid hmA;clear hrA hmA hbA)
      | (go_at_call 279;refine(HLE.out W.drew).mono ?_;rintro e wL ⟨hbL,gl,rfl,htL⟩;have HBL:Hid (Below W.heap.size W wL):=hid (HD1.out.trans (hbL.mono HD1.out.size));have hSL:=HS.out wL HBL.out;have HTL:=hid htL;clear htL hbL)
      | (go_at_call 279;refine(HLE.out wA).mono ?_;rintro e wL ⟨hbL,gl,rfl,htL⟩;have HBL:Hid (Below W.heap.size W wL):=hid (HBA.out.trans (hbL.mono HBA.out.size));have hSL:=HS.out wL HBL.out;have HTL:=hid htL;have HRA2:=hid (HRA.out.gr hbL);clear htL hbL)
      | (go_at_call 262;refine(HBE.out wL gl HTL.out).mono ?_;rintro e wB ⟨uB,C,rfl,hrB,hmB,hbB⟩;have HBB:Hid (Below W.heap.size W wB):=hid (HBL.out.trans (hbB.mono HBL.out.size));have hSB:=HS.out wB HBB.out;have HRB:=hid hrB.low;have HMB:=hid hmB;have HRA3:Hid (∀u A,RL K wL 0 u A→RL K wB 0 u A):=hid (fun u A h=>h.gr hbB);clear hrB hmB hbB)
      | (go_at_call 261;refine(HAB.out wB HBB.out).mono ?_;rintro e wA ⟨uA,A,rfl,hrA,hmA,hbA⟩;have HBA:Hid (Below W.heap.size W wA):=hid (HBB.out.trans (hbA.mono HBB.out.size));have hSA:=HS.out wA HBA.out;have HRA:=hid hrA.low;have HMA:=hid hmA;have HRBA:=hid (HRB.out.gr hbA);clear hrA hmA hbA)
      | (go_at_call 261;refine(HAB.out wL HBL.out).mono ?_;rintro e wA ⟨uA,A,rfl,hrA,hmA,hbA⟩;have HBA:Hid (Below W.heap.size W wA):=hid (HBL.out.trans (hbA.mono HBL.out.size));have hSA:=HS.out wA HBA.out;have HRA:=hid hrA.low;have HMA:=hid hmA;have HTLA:=hid (HTL.out.gr hbA);clear hrA hmA hbA)
      | (go_at_call 262;refine(HBE.out wA gl HTLA.out).mono ?_;rintro e wB ⟨uB,C,rfl,hrB,hmB,hbB⟩;have HBB:Hid (Below W.heap.size W wB):=hid (HBA.out.trans (hbB.mono HBA.out.size));have hSB:=HS.out wB HBB.out;have HRB:=hid hrB.low;have HMB:=hid hmB;have HRAB:=hid (HRA.out.gr hbB);clear hrB hmB hbB)
      | (go_at_call 237;refine(HMT.out wA HBA.out uA uB A C HRA.out HRBA.out HMA.out HMB.out).mono ?_;rintro e w5 ⟨u5,rfl,hf5,hb5⟩;have HB5:Hid (Below W.heap.size W w5):=hid (HBA.out.trans (hb5.mono HBA.out.size));have HF5:=hid hf5;clear hf5 hb5)
      | (go_at_call 237;refine(HMT.out wB HBB.out uA uB A C HRAB.out HRB.out HMA.out HMB.out).mono ?_;rintro e w5 ⟨u5,rfl,hf5,hb5⟩;have HB5:Hid (Below W.heap.size W w5):=hid (HBB.out.trans (hb5.mono HBB.out.size));have HF5:=hid hf5;clear hf5 hb5)
      | (go_at_call 237;refine(HMT.out wB HBB.out uA uB A C (HRA3.out _ _ HRA2.out) HRB.out HMA.out HMB.out).mono ?_;rintro e w5 ⟨u5,rfl,hf5,hb5⟩;have HB5:Hid (Below W.heap.size W w5):=hid (HBB.out.trans (hb5.mono HBB.out.size));have HF5:=hid hf5;clear hf5 hb5))
   all_goals
    go_wp2_with fail;exact HF5.out
end SpanC
open Go.RowKit
namespace SpanC
open VerM SpanM StrC TextR VerC
def CompE(o:Option St)(w:World)(e:Ending)(w':World):Prop:=Below w.heap.size w w'∧(o=none→e= .returned (.tuple #[.slice none 0 0,.bool false]))∧
 ∀st,o=some st→∃u R,e= .returned (.tuple #[u,.bool true])∧RL True w' w.heap.size u R∧spanM R=formM [st]
theorem CompE.no{w w':World}(h:Below w.heap.size w w'):CompE none w (.returned (.tuple #[.slice none 0 0,.bool false])) w':=⟨h,fun _=>rfl,fun st h=>(by cases h)⟩
theorem CompE.yes{w w1 w':World}{u:Value}{st:St}(h:FormE True [st] w1 (.returned u) w')(hb:Below w.heap.size w w1):CompE (some st) w (.returned (.tuple #[u,.bool true])) w':=by
 obtain⟨u',R,h1,h2,h3,h4⟩:=h.base hb;cases h1
 exact⟨h4,fun h=>(by cases h),fun st' h=>(by cases h;exact⟨u,R,rfl,h2,h3⟩)⟩
theorem FormE.val{l:List St}{w w':World}{e:Ending}(h:FormE True l w e w'):∃u,e= .returned u∧FormE True l w (.returned u) w':=by
 obtain⟨u,R,rfl,h2,h3,h4⟩:=h;exact⟨u,rfl,u,R,rfl,h2,h3,h4⟩
theorem zrl{s:B}{k:Nat}(hk:k≤s.length)(h:∀c∈s.take k,signC.contains c=true)(h2:k=s.length∨signC.contains (s.getD k 0)=false):sgnB s=s.take k∧bodB s=s.drop k:=by
 have key:∀(x r:B),(∀c∈x,signC.contains c=true)→(r=[]∨signC.contains (r.getD 0 0)=false)→sgnB (x++r)=x∧bodB (x++r)=r:=by
  intro x r hx hr;unfold sgnB bodB
  induction x with
  | nil=>
    cases r with
    | nil=>exact⟨rfl,rfl⟩
    | cons c r=>
      rcases hr with h|h
      · cases h
      · have h':signC.contains c=false:=h
        refine⟨?_,?_⟩<;>simp only[List.nil_append,List.takeWhile_cons,List.dropWhile_cons,h']<;>first|rfl|trivial
  | cons c x ih=>
    have hc:=hx c List.mem_cons_self;obtain⟨i1,i2⟩:=ih fun d hd=>hx d (List.mem_cons_of_mem _ hd)
    refine⟨?_,?_⟩<;>simp only[List.cons_append,List.takeWhile_cons,List.dropWhile_cons,hc,if_true,i1,i2]
 have h3:=key (s.take k) (s.drop k) h (by
  rcases h2 with rfl|h2
  · exact .inl (by simp)
  · refine .inr ?_
    rw[←h2,List.getD_eq_getElem?_getD,List.getD_eq_getElem?_getD,List.getElem?_drop,Nat.add_zero])
 rwa [List.take_append_drop] at h3
theorem zrm{c:UInt8}(h:signC.contains c=true):c=60∨c=62∨c=61∨c=126∨c=94:=by
 unfold signC at h;simp only[List.contains_eq_mem,List.mem_cons,List.not_mem_nil,or_false,decide_eq_true_eq] at h;rcases h with h|h|h|h|h<;>simp[h]
theorem zrn{c:UInt8}(h:signC.contains c=false):((c.toNat:Int) == 60)=false∧((c.toNat:Int) == 62)=false∧((c.toNat:Int) == 61)=false∧((c.toNat:Int) == 126)=false∧((c.toNat:Int) == 94)=false:=by
 have key:∀d:UInt8,signC.contains d=true→((c.toNat:Int) == (d.toNat:Int))=false:=fun d hd=>beq_eq_false_iff_ne.2 fun e=>by
  have:c=d:=UInt8.toNat_inj.1 (by omega)
  rw[this,hd] at h;cases h
 exact⟨key 60 rfl,key 62 rfl,key 61 rfl,key 126 rfl,key 94 rfl⟩
set_option maxRecDepth 100000 in
theorem zro(s:B)(w:World)(hs:s.length≤9223372036854775807):
 Calls Tryz.prog 236 #[.string (str s)] w (CompE (compM s) w):=by
 have HC:Hid (compM s=match readB (bodB s) with|some v=>signM (sgnB s) v|none=>none):=hid rfl;have HX:=hid (fun a (h:a<s.length)=>zbr s a a rfl h);go_enter Tryz.func236,Tryz.ntmps236;go_upto_block 0 with fail
 go_cut [4] from 8 to 43 (fun v4 wx=>∃k:Nat,v4= .int .i64 k∧k≤s.length∧w=wx∧Hid (sgnB s=s.take k∧bodB s=s.drop k))
 case first=>
  go_wp2_with fail;go_loop [4] (fun i=>∃k:Nat,k≤s.length∧i= .int .i64 k∧Hid (∀c∈s.take k,signC.contains c=true)) (fun i=>s.length-(intOf i).toNat)
  case atStart=>exact⟨0,Nat.zero_le _,rfl,hid (by simp)⟩
  case round=>
   obtain⟨k,hk,rfl,HQ⟩:=hrel;by_cases hlt:k<s.length
   · have hdec:decide (k<s.length)=true:=by simpa using hlt
     have hx:=HX.out k hlt;rcases Bool.eq_false_or_eq_true (signC.contains (s.getD k 0)) with hc|hc
     · have HN:Hid (∀c∈s.take (k+1),signC.contains c=true):=hid (fun c hcm=>by
        rw[List.take_add_one,List.getElem?_eq_getElem hlt] at hcm;rcases List.mem_append.1 hcm with e|e
        · exact HQ.out c e
        · have:c=s[k]:=by simpa using e
          rw[this];rw[List.getD_eq_getElem?_getD,List.getElem?_eq_getElem hlt] at hc;exact hc)
       have h5:=zrm hc;clear hc;generalize s.getD k 0=c at*;rcases h5 with rfl|rfl|rfl|rfl|rfl
       all_goals
        go_wp2_with fail;go_round
        case rel=>exact⟨k+1,by omega,by go_num,HN⟩
        case measure=>(simp [intOf];try omega)
     · have HSB:=hid (zrl hk HQ.out (.inr hc))
       obtain⟨n1,n2,n3,n4,n5⟩:=zrn hc;clear hc;generalize s.getD k 0=c at*;go_wp2_with fail;go_meet
       case rel=>exact⟨k,rfl,hk,rfl,HSB⟩
   · have hdec:decide (k<s.length)=false:=by simpa using hlt
     have HSB:=hid (zrl hk HQ.out (.inl (by omega)));go_wp2_with fail;go_meet
     case rel=>exact⟨k,rfl,hk,rfl,HSB⟩
 case rest=>
  obtain⟨k,rfl,hk,rfl,HSB⟩:=hcut;have hs1:=sl_to s k k rfl (by omega);have hs2:=zdk s k k rfl (by omega);have HRD:=hid (fun w=>zqt (s.drop k) w);rw[HSB.out.1,HSB.out.2] at HC;generalize compM s=cm at*;clear HSB HX;go_wp2_with (go_at_call 124;refine(HRD.out _).mono ?_;rintro e w2 ⟨x2,rfl,he,hkk,hb2⟩;refine Hid.out ?_)
  refine hid ?_;have HB2:=hid hb2;rcases zfu he with ⟨v,a,cp,hrd,rfl,hT⟩|⟨hrd,rfl⟩
  rotate_left
  · have HE:Hid (cm=none):=hid (by rw[HC.out,hrd])
    have HB3:=hid (HB2.out.alloc HB2.out.size (verO 0 0 0 none 0 0));clear he hkk hb2 hrd HC HRD;go_wp2_with fail;go_ret2
    rw[HE.out];exact CompE.no HB3.out
  have HE:Hid (cm=signM (s.take k) v):=hid (by rw[HC.out,hrd]);have HMV:Hid (may v=true):=hid (zat hrd).2.2;have HT3:Hid (TxQ True _ a cp v.pre):=hid ((⟨hT,fun _=>hkk _ _ _ _ _ _ _ rfl⟩:TxQ True w2 a cp v.pre).gr ((Below.refl _ w2).alloc (Nat.le_refl _) (verO v.a v.b v.c a v.pre.length cp)));have HB3:=hid (HB2.out.alloc HB2.out.size (verO v.a v.b v.c a v.pre.length cp));have hv3:=heap_alloc_new w2 (verO v.a v.b v.c a v.pre.length cp);clear he hkk hb2 hrd HC HRD hT HB2;go_upto_region 7 with fail
  obtain⟨q,hq⟩:∃q,w2.heap.size=q:=⟨_,rfl⟩;rw[hq] at hv3 ⊢;clear hq;generalize w2.alloc (verO v.a v.b v.c a v.pre.length cp)=W at*;have HV3:=hid hv3;obtain⟨v0,v1,v2,v3⟩:=zdw hv3;clear hv3;go_upto_region 8 with fail
  generalize s.take k=sg at*;clear hs1 hs2 hk hs;rcases Classical.em (sg=[]) with rfl|g0
  ·
   have k0:(str []).toList.isEmpty=true:=by rw[ByteArray.toList_eq];rfl
   have k1:((str []).toList == ([61]:List UInt8))=false:=(zbt [] [61]).trans (by decide);have k2:((str []).toList == ([60]:List UInt8))=false:=(zbt [] [60]).trans (by decide);have k3:((str []).toList == ([60,61]:List UInt8))=false:=(zbt [] [60,61]).trans (by decide);have k4:((str []).toList == ([62]:List UInt8))=false:=(zbt [] [62]).trans (by decide);have k5:((str []).toList == ([62,61]:List UInt8))=false:=(zbt [] [62,61]).trans (by decide);have k6:((str []).toList == ([126]:List UInt8))=false:=(zbt [] [126]).trans (by decide);have k7:((str []).toList == ([94]:List UInt8))=false:=(zbt [] [94]).trans (by decide);have HE2:Hid (cm=some ⟨⟨v,0⟩,⟨v,1⟩⟩):=hid (HE.out.trans rfl);have HMAB:Hid (meetS ⟨⟨v,sideF false⟩,allS.t⟩ ⟨allS.f,⟨v,sideH false⟩⟩=⟨⟨v,0⟩,⟨v,1⟩⟩):=hid (zrg HMV.out (by decide));have HS:Hid (∀w',Below W.heap.size W w'→w'.cell? ⟨q,0,none⟩=some (.int .u32 v.a)∧w'.cell? ⟨q,1,none⟩=some (.int .u32 v.b)∧w'.cell? ⟨q,2,none⟩=some (.int .u32 v.c)∧w'.cell? ⟨q,3,none⟩=some (.slice a v.pre.length cp)):=hid (fun w' h=>zrj HV3.out h);have HD1:Hid (Below W.heap.size W W.drew):=hid ((Gr.refl W).drew).below;have HAB:=hid (fun w' (h:Below W.heap.size W w')=>zrc v a cp false w' (HT3.out.gr h) HMV.out);have HBE:=hid (fun w' (h:Below W.heap.size W w')=>zre v a cp false w' (HT3.out.gr h) HMV.out)
   have HMT:=hid (fun w4 (h:Below W.heap.size W w4) u1 u2 A C h1 h2 m1 m2=>(zri ⟨⟨v,sideF false⟩,allS.t⟩ ⟨allS.f,⟨v,sideH false⟩⟩ u1 u2 A C w4 h1 h2 m1 m2).mono fun e w' hf=>(show ∃u,e= .returned u∧CompE (some ⟨⟨v,0⟩,⟨v,1⟩⟩) w (.returned (.tuple #[u,.bool true])) w'∧Below w4.heap.size w4 w' from by
    obtain⟨u,he,hf2⟩:=hf.val;rw[HMAB.out] at hf2;exact⟨u,he,CompE.yes hf2 (HB3.out.trans (h.mono HB3.out.size)),hf2.elim fun _ h=>h.elim fun _ h=>h.2.2.2⟩))
   rw[←HE2.out] at HMT;generalize CompE cm w=CE at*;clear HMAB HV3 HE HE2;go_wp2_with fail
   go_region_held3 (fun w'=>w'.cell? ⟨q,0,none⟩=some (.int .u32 v.a)∧w'.cell? ⟨q,1,none⟩=some (.int .u32 v.b)∧w'.cell? ⟨q,2,none⟩=some (.int .u32 v.c)∧w'.cell? ⟨q,3,none⟩=some (.slice a v.pre.length cp))
    (first|exact⟨v0,v1,v2,v3⟩|assumption|exact HS.out _ HB5.out)
    (first
      | (go_at_call 261;refine(HAB.out W.drew HD1.out).mono ?_;rintro e wA ⟨uA,A,rfl,hrA,hmA,hbA⟩;have HBA:Hid (Below W.heap.size W wA):=hid (HD1.out.trans (hbA.mono HD1.out.size));have hSA:=HS.out wA HBA.out;have HRA:=hid hrA.low;have HMA:=hid hmA;clear hrA hmA hbA)
      | (go_at_call 262;refine(HBE.out W.drew HD1.out).mono ?_;rintro e wB ⟨uB,C,rfl,hrB,hmB,hbB⟩;have HBB:Hid (Below W.heap.size W wB):=hid (HD1.out.trans (hbB.mono HD1.out.size));have hSB:=HS.out wB HBB.out;have HRB:=hid hrB.low;have HMB:=hid hmB;clear hrB hmB hbB)
      | (go_at_call 262;refine(HBE.out wA HBA.out).mono ?_;rintro e wB ⟨uB,C,rfl,hrB,hmB,hbB⟩;have HBB:Hid (Below W.heap.size W wB):=hid (HBA.out.trans (hbB.mono HBA.out.size));have hSB:=HS.out wB HBB.out;have HRB:=hid hrB.low;have HMB:=hid hmB;have HRAB:=hid (HRA.out.gr hbB);clear hrB hmB hbB)
      | (go_at_call 261;refine(HAB.out wB HBB.out).mono ?_;rintro e wA ⟨uA,A,rfl,hrA,hmA,hbA⟩;have HBA:Hid (Below W.heap.size W wA):=hid (HBB.out.trans (hbA.mono HBB.out.size));have hSA:=HS.out wA HBA.out;have HRA:=hid hrA.low;have HMA:=hid hmA;have HRBA:=hid (HRB.out.gr hbA);clear hrA hmA hbA)
      | (go_at_call 237;refine(HMT.out wA HBA.out uA uB A C HRA.out HRBA.out HMA.out HMB.out).mono ?_;rintro e w5 ⟨u5,rfl,hf5,hb5⟩;have HB5:Hid (Below W.heap.size W w5):=hid (HBA.out.trans (hb5.mono HBA.out.size));have HF5:=hid hf5;clear hf5 hb5)
      | (go_at_call 237;refine(HMT.out wB HBB.out uA uB A C HRAB.out HRB.out HMA.out HMB.out).mono ?_;rintro e w5 ⟨u5,rfl,hf5,hb5⟩;have HB5:Hid (Below W.heap.size W w5):=hid (HBB.out.trans (hb5.mono HBB.out.size));have HF5:=hid hf5;clear hf5 hb5))
   all_goals
    go_wp2_with fail;exact HF5.out
  rcases Classical.em (sg=[61]) with rfl|g1
  ·
   have k0:(str [61]).toList.isEmpty=false:=by rw[ByteArray.toList_eq];rfl
   have k1:((str [61]).toList == ([61]:List UInt8))=true:=(zbt [61] [61]).trans (by decide);have k2:((str [61]).toList == ([60]:List UInt8))=false:=(zbt [61] [60]).trans (by decide);have k3:((str [61]).toList == ([60,61]:List UInt8))=false:=(zbt [61] [60,61]).trans (by decide);have k4:((str [61]).toList == ([62]:List UInt8))=false:=(zbt [61] [62]).trans (by decide);have k5:((str [61]).toList == ([62,61]:List UInt8))=false:=(zbt [61] [62,61]).trans (by decide);have k6:((str [61]).toList == ([126]:List UInt8))=false:=(zbt [61] [126]).trans (by decide);have k7:((str [61]).toList == ([94]:List UInt8))=false:=(zbt [61] [94]).trans (by decide);have HE2:Hid (cm=some ⟨⟨v,0⟩,⟨v,1⟩⟩):=hid (HE.out.trans rfl);have HMAB:Hid (meetS ⟨⟨v,sideF false⟩,allS.t⟩ ⟨allS.f,⟨v,sideH false⟩⟩=⟨⟨v,0⟩,⟨v,1⟩⟩):=hid (zrg HMV.out (by decide));have HS:Hid (∀w',Below W.heap.size W w'→w'.cell? ⟨q,0,none⟩=some (.int .u32 v.a)∧w'.cell? ⟨q,1,none⟩=some (.int .u32 v.b)∧w'.cell? ⟨q,2,none⟩=some (.int .u32 v.c)∧w'.cell? ⟨q,3,none⟩=some (.slice a v.pre.length cp)):=hid (fun w' h=>zrj HV3.out h);have HD1:Hid (Below W.heap.size W W.drew):=hid ((Gr.refl W).drew).below;have HAB:=hid (fun w' (h:Below W.heap.size W w')=>zrc v a cp false w' (HT3.out.gr h) HMV.out);have HBE:=hid (fun w' (h:Below W.heap.size W w')=>zre v a cp false w' (HT3.out.gr h) HMV.out)
   have HMT:=hid (fun w4 (h:Below W.heap.size W w4) u1 u2 A C h1 h2 m1 m2=>(zri ⟨⟨v,sideF false⟩,allS.t⟩ ⟨allS.f,⟨v,sideH false⟩⟩ u1 u2 A C w4 h1 h2 m1 m2).mono fun e w' hf=>(show ∃u,e= .returned u∧CompE (some ⟨⟨v,0⟩,⟨v,1⟩⟩) w (.returned (.tuple #[u,.bool true])) w'∧Below w4.heap.size w4 w' from by
    obtain⟨u,he,hf2⟩:=hf.val;rw[HMAB.out] at hf2;exact⟨u,he,CompE.yes hf2 (HB3.out.trans (h.mono HB3.out.size)),hf2.elim fun _ h=>h.elim fun _ h=>h.2.2.2⟩))
   rw[←HE2.out] at HMT;generalize CompE cm w=CE at*;clear HMAB HV3 HE HE2;go_wp2_with fail
   go_region_held3 (fun w'=>w'.cell? ⟨q,0,none⟩=some (.int .u32 v.a)∧w'.cell? ⟨q,1,none⟩=some (.int .u32 v.b)∧w'.cell? ⟨q,2,none⟩=some (.int .u32 v.c)∧w'.cell? ⟨q,3,none⟩=some (.slice a v.pre.length cp))
    (first|exact⟨v0,v1,v2,v3⟩|assumption|exact HS.out _ HB5.out)
    (first
      | (go_at_call 261;refine(HAB.out W.drew HD1.out).mono ?_;rintro e wA ⟨uA,A,rfl,hrA,hmA,hbA⟩;have HBA:Hid (Below W.heap.size W wA):=hid (HD1.out.trans (hbA.mono HD1.out.size));have hSA:=HS.out wA HBA.out;have HRA:=hid hrA.low;have HMA:=hid hmA;clear hrA hmA hbA)
      | (go_at_call 262;refine(HBE.out W.drew HD1.out).mono ?_;rintro e wB ⟨uB,C,rfl,hrB,hmB,hbB⟩;have HBB:Hid (Below W.heap.size W wB):=hid (HD1.out.trans (hbB.mono HD1.out.size));have hSB:=HS.out wB HBB.out;have HRB:=hid hrB.low;have HMB:=hid hmB;clear hrB hmB hbB)
      | (go_at_call 262;refine(HBE.out wA HBA.out).mono ?_;rintro e wB ⟨uB,C,rfl,hrB,hmB,hbB⟩;have HBB:Hid (Below W.heap.size W wB):=hid (HBA.out.trans (hbB.mono HBA.out.size));have hSB:=HS.out wB HBB.out;have HRB:=hid hrB.low;have HMB:=hid hmB;have HRAB:=hid (HRA.out.gr hbB);clear hrB hmB hbB)
      | (go_at_call 261;refine(HAB.out wB HBB.out).mono ?_;rintro e wA ⟨uA,A,rfl,hrA,hmA,hbA⟩;have HBA:Hid (Below W.heap.size W wA):=hid (HBB.out.trans (hbA.mono HBB.out.size));have hSA:=HS.out wA HBA.out;have HRA:=hid hrA.low;have HMA:=hid hmA;have HRBA:=hid (HRB.out.gr hbA);clear hrA hmA hbA)
      | (go_at_call 237;refine(HMT.out wA HBA.out uA uB A C HRA.out HRBA.out HMA.out HMB.out).mono ?_;rintro e w5 ⟨u5,rfl,hf5,hb5⟩;have HB5:Hid (Below W.heap.size W w5):=hid (HBA.out.trans (hb5.mono HBA.out.size));have HF5:=hid hf5;clear hf5 hb5)
      | (go_at_call 237;refine(HMT.out wB HBB.out uA uB A C HRAB.out HRB.out HMA.out HMB.out).mono ?_;rintro e w5 ⟨u5,rfl,hf5,hb5⟩;have HB5:Hid (Below W.heap.size W w5):=hid (HBB.out.trans (hb5.mono HBB.out.size));have HF5:=hid hf5;clear hf5 hb5))
   all_goals
    go_wp2_with fail;exact HF5.out
  rcases Classical.em (sg=[60]) with rfl|g2
  ·
   have k0:(str [60]).toList.isEmpty=false:=by rw[ByteArray.toList_eq];rfl
   have k1:((str [60]).toList == ([61]:List UInt8))=false:=(zbt [60] [61]).trans (by decide);have k2:((str [60]).toList == ([60]:List UInt8))=true:=(zbt [60] [60]).trans (by decide);have k3:((str [60]).toList == ([60,61]:List UInt8))=false:=(zbt [60] [60,61]).trans (by decide);have k4:((str [60]).toList == ([62]:List UInt8))=false:=(zbt [60] [62]).trans (by decide);have k5:((str [60]).toList == ([62,61]:List UInt8))=false:=(zbt [60] [62,61]).trans (by decide);have k6:((str [60]).toList == ([126]:List UInt8))=false:=(zbt [60] [126]).trans (by decide);have k7:((str [60]).toList == ([94]:List UInt8))=false:=(zbt [60] [94]).trans (by decide);have HE2:Hid (cm=some ⟨allS.f,⟨v,0⟩⟩):=hid (HE.out.trans rfl)
   have HCC:=hid ((zre v a cp true W HT3.out HMV.out).mono fun e w' hf=>(show ∃u,e= .returned u∧CompE (some ⟨allS.f,⟨v,0⟩⟩) w (.returned (.tuple #[u,.bool true])) w' from by
    obtain⟨u,he,hf2⟩:=hf.val;exact⟨u,he,CompE.yes hf2 HB3.out⟩))
   rw[←HE2.out] at HCC;generalize CompE cm w=CE at*;clear HV3 HE HE2;go_wp2_with (go_at_call 262;refine HCC.out.mono ?_;rintro e w5 ⟨u5,rfl,hf5⟩;have HF5:=hid hf5;clear hf5)
   exact HF5.out
  rcases Classical.em (sg=[60,61]) with rfl|g3
  ·
   have k0:(str [60,61]).toList.isEmpty=false:=by rw[ByteArray.toList_eq];rfl
   have k1:((str [60,61]).toList == ([61]:List UInt8))=false:=(zbt [60,61] [61]).trans (by decide);have k2:((str [60,61]).toList == ([60]:List UInt8))=false:=(zbt [60,61] [60]).trans (by decide);have k3:((str [60,61]).toList == ([60,61]:List UInt8))=true:=(zbt [60,61] [60,61]).trans (by decide);have k4:((str [60,61]).toList == ([62]:List UInt8))=false:=(zbt [60,61] [62]).trans (by decide);have k5:((str [60,61]).toList == ([62,61]:List UInt8))=false:=(zbt [60,61] [62,61]).trans (by decide);have k6:((str [60,61]).toList == ([126]:List UInt8))=false:=(zbt [60,61] [126]).trans (by decide);have k7:((str [60,61]).toList == ([94]:List UInt8))=false:=(zbt [60,61] [94]).trans (by decide);have HE2:Hid (cm=some ⟨allS.f,⟨v,1⟩⟩):=hid (HE.out.trans rfl)
   have HCC:=hid ((zre v a cp false W HT3.out HMV.out).mono fun e w' hf=>(show ∃u,e= .returned u∧CompE (some ⟨allS.f,⟨v,1⟩⟩) w (.returned (.tuple #[u,.bool true])) w' from by
    obtain⟨u,he,hf2⟩:=hf.val;exact⟨u,he,CompE.yes hf2 HB3.out⟩))
   rw[←HE2.out] at HCC;generalize CompE cm w=CE at*;clear HV3 HE HE2;go_wp2_with (go_at_call 262;refine HCC.out.mono ?_;rintro e w5 ⟨u5,rfl,hf5⟩;have HF5:=hid hf5;clear hf5)
   exact HF5.out
  rcases Classical.em (sg=[62]) with rfl|g4
  ·
   have k0:(str [62]).toList.isEmpty=false:=by rw[ByteArray.toList_eq];rfl
   have k1:((str [62]).toList == ([61]:List UInt8))=false:=(zbt [62] [61]).trans (by decide);have k2:((str [62]).toList == ([60]:List UInt8))=false:=(zbt [62] [60]).trans (by decide);have k3:((str [62]).toList == ([60,61]:List UInt8))=false:=(zbt [62] [60,61]).trans (by decide);have k4:((str [62]).toList == ([62]:List UInt8))=true:=(zbt [62] [62]).trans (by decide);have k5:((str [62]).toList == ([62,61]:List UInt8))=false:=(zbt [62] [62,61]).trans (by decide);have k6:((str [62]).toList == ([126]:List UInt8))=false:=(zbt [62] [126]).trans (by decide);have k7:((str [62]).toList == ([94]:List UInt8))=false:=(zbt [62] [94]).trans (by decide);have HE2:Hid (cm=some ⟨⟨v,1⟩,allS.t⟩):=hid (HE.out.trans rfl)
   have HCC:=hid ((zrc v a cp true W HT3.out HMV.out).mono fun e w' hf=>(show ∃u,e= .returned u∧CompE (some ⟨⟨v,1⟩,allS.t⟩) w (.returned (.tuple #[u,.bool true])) w' from by
    obtain⟨u,he,hf2⟩:=hf.val;exact⟨u,he,CompE.yes hf2 HB3.out⟩))
   rw[←HE2.out] at HCC;generalize CompE cm w=CE at*;clear HV3 HE HE2;go_wp2_with (go_at_call 261;refine HCC.out.mono ?_;rintro e w5 ⟨u5,rfl,hf5⟩;have HF5:=hid hf5;clear hf5)
   exact HF5.out
  rcases Classical.em (sg=[62,61]) with rfl|g5
  ·
   have k0:(str [62,61]).toList.isEmpty=false:=by rw[ByteArray.toList_eq];rfl
   have k1:((str [62,61]).toList == ([61]:List UInt8))=false:=(zbt [62,61] [61]).trans (by decide);have k2:((str [62,61]).toList == ([60]:List UInt8))=false:=(zbt [62,61] [60]).trans (by decide);have k3:((str [62,61]).toList == ([60,61]:List UInt8))=false:=(zbt [62,61] [60,61]).trans (by decide);have k4:((str [62,61]).toList == ([62]:List UInt8))=false:=(zbt [62,61] [62]).trans (by decide);have k5:((str [62,61]).toList == ([62,61]:List UInt8))=true:=(zbt [62,61] [62,61]).trans (by decide);have k6:((str [62,61]).toList == ([126]:List UInt8))=false:=(zbt [62,61] [126]).trans (by decide);have k7:((str [62,61]).toList == ([94]:List UInt8))=false:=(zbt [62,61] [94]).trans (by decide);have HE2:Hid (cm=some ⟨⟨v,0⟩,allS.t⟩):=hid (HE.out.trans rfl)
   have HCC:=hid ((zrc v a cp false W HT3.out HMV.out).mono fun e w' hf=>(show ∃u,e= .returned u∧CompE (some ⟨⟨v,0⟩,allS.t⟩) w (.returned (.tuple #[u,.bool true])) w' from by
    obtain⟨u,he,hf2⟩:=hf.val;exact⟨u,he,CompE.yes hf2 HB3.out⟩))
   rw[←HE2.out] at HCC;generalize CompE cm w=CE at*;clear HV3 HE HE2;go_wp2_with (go_at_call 261;refine HCC.out.mono ?_;rintro e w5 ⟨u5,rfl,hf5⟩;have HF5:=hid hf5;clear hf5)
   exact HF5.out
  rcases Classical.em (sg=[126]) with rfl|g6
  ·
   have k0:(str [126]).toList.isEmpty=false:=by rw[ByteArray.toList_eq];rfl
   have k1:((str [126]).toList == ([61]:List UInt8))=false:=(zbt [126] [61]).trans (by decide);have k2:((str [126]).toList == ([60]:List UInt8))=false:=(zbt [126] [60]).trans (by decide);have k3:((str [126]).toList == ([60,61]:List UInt8))=false:=(zbt [126] [60,61]).trans (by decide);have k4:((str [126]).toList == ([62]:List UInt8))=false:=(zbt [126] [62]).trans (by decide);have k5:((str [126]).toList == ([62,61]:List UInt8))=false:=(zbt [126] [62,61]).trans (by decide);have k6:((str [126]).toList == ([126]:List UInt8))=true:=(zbt [126] [126]).trans (by decide);have k7:((str [126]).toList == ([94]:List UInt8))=false:=(zbt [126] [94]).trans (by decide);have HE2:Hid (cm=some ⟨⟨v,0⟩,nextE v 1⟩):=hid (HE.out.trans rfl)
   have HCC:=hid ((zrk v a cp 1 W HT3.out HMV.out).mono fun e w' hf=>(show ∃u,e= .returned u∧CompE (some ⟨⟨v,0⟩,nextE v 1⟩) w (.returned (.tuple #[u,.bool true])) w' from by
    obtain⟨u,he,hf2⟩:=hf.val;exact⟨u,he,CompE.yes hf2 HB3.out⟩))
   rw[←HE2.out] at HCC;generalize CompE cm w=CE at*;clear HV3 HE HE2;go_wp2_with (go_at_call 263;refine HCC.out.mono ?_;rintro e w5 ⟨u5,rfl,hf5⟩;have HF5:=hid hf5;clear hf5)
   exact HF5.out
  rcases Classical.em (sg=[94]) with rfl|g7
  ·
   have k0:(str [94]).toList.isEmpty=false:=by rw[ByteArray.toList_eq];rfl
   have k1:((str [94]).toList == ([61]:List UInt8))=false:=(zbt [94] [61]).trans (by decide);have k2:((str [94]).toList == ([60]:List UInt8))=false:=(zbt [94] [60]).trans (by decide);have k3:((str [94]).toList == ([60,61]:List UInt8))=false:=(zbt [94] [60,61]).trans (by decide);have k4:((str [94]).toList == ([62]:List UInt8))=false:=(zbt [94] [62]).trans (by decide);have k5:((str [94]).toList == ([62,61]:List UInt8))=false:=(zbt [94] [62,61]).trans (by decide);have k6:((str [94]).toList == ([126]:List UInt8))=false:=(zbt [94] [126]).trans (by decide);have k7:((str [94]).toList == ([94]:List UInt8))=true:=(zbt [94] [94]).trans (by decide);have HE2:Hid (cm=some ⟨⟨v,0⟩,nextE v (heavy v)⟩):=hid (HE.out.trans rfl)
   have HCC:=hid ((zrk v a cp (heavy v) W HT3.out HMV.out).mono fun e w' hf=>(show ∃u,e= .returned u∧CompE (some ⟨⟨v,0⟩,nextE v (heavy v)⟩) w (.returned (.tuple #[u,.bool true])) w' from by
    obtain⟨u,he,hf2⟩:=hf.val;exact⟨u,he,CompE.yes hf2 HB3.out⟩))
   rw[←HE2.out] at HCC;generalize CompE cm w=CE at*;clear HV3 HE HE2;by_cases ha:v.a=0
   · have hh:heavy v=if v.b≠0 then 1 else 2:=by unfold heavy;rw[if_neg (by omega)]
     have d0:decide ((0:Int)<(v.a:Int))=false:=decide_eq_false (by omega);have n0:decide (0<v.a)=false:=decide_eq_false (by omega);by_cases hb:v.b=0
     · rw[if_neg (by omega)] at hh
       rw[hh] at HCC;have d1:decide ((0:Int)<(v.b:Int))=false:=decide_eq_false (by omega);have n1:decide (0<v.b)=false:=decide_eq_false (by omega);clear hh ha hb;go_wp2_with (go_at_call 263;refine HCC.out.mono ?_;rintro e w5 ⟨u5,rfl,hf5⟩;have HF5:=hid hf5;clear hf5)
       exact HF5.out
     · rw[if_pos hb] at hh
       rw[hh] at HCC;have d1:decide ((0:Int)<(v.b:Int))=true:=decide_eq_true (by omega);have n1:decide (0<v.b)=true:=decide_eq_true (by omega);clear hh ha hb;go_wp2_with (go_at_call 263;refine HCC.out.mono ?_;rintro e w5 ⟨u5,rfl,hf5⟩;have HF5:=hid hf5;clear hf5)
       exact HF5.out
   · have hh:heavy v=0:=by unfold heavy;rw[if_pos ha]
     rw[hh] at HCC;have d0:decide ((0:Int)<(v.a:Int))=true:=decide_eq_true (by omega);have n0:decide (0<v.a)=true:=decide_eq_true (by omega);clear hh ha;go_wp2_with (go_at_call 263;refine HCC.out.mono ?_;rintro e w5 ⟨u5,rfl,hf5⟩;have HF5:=hid hf5;clear hf5)
     exact HF5.out
  have HE2:Hid (cm=none):=hid (HE.out.trans (by unfold signM;rw[if_neg (fun h=>h.elim g0 g1),if_neg g2,if_neg g3,if_neg g4,if_neg g5,if_neg g7,if_neg g6]));have k0:(str sg).toList.isEmpty=false:=by rw[ByteArray.toList_eq,zbp];cases sg with|nil=>exact absurd rfl g0|cons c r=>rfl
  have k1:((str sg).toList == ([61]:List UInt8))=false:=(zbt sg [61]).trans (decide_eq_false g1);have k2:((str sg).toList == ([60]:List UInt8))=false:=(zbt sg [60]).trans (decide_eq_false g2);have k3:((str sg).toList == ([60,61]:List UInt8))=false:=(zbt sg [60,61]).trans (decide_eq_false g3);have k4:((str sg).toList == ([62]:List UInt8))=false:=(zbt sg [62]).trans (decide_eq_false g4);have k5:((str sg).toList == ([62,61]:List UInt8))=false:=(zbt sg [62,61]).trans (decide_eq_false g5);have k6:((str sg).toList == ([126]:List UInt8))=false:=(zbt sg [126]).trans (decide_eq_false g6);have k7:((str sg).toList == ([94]:List UInt8))=false:=(zbt sg [94]).trans (decide_eq_false g7);clear g0 g1 g2 g3 g4 g5 g6 g7;go_wp2_with fail;go_ret2
  rw[HE2.out];exact CompE.no HB3.out
end SpanC
open Go.RowKit
namespace SpanC
open VerM SpanM StrC TextR VerC
theorem occ_or{s:B}{j:Nat}(h:Lib.occAt s orB j=true):s[j]?=some 32∧s[j+1]?=some 124:=by
 unfold Lib.occAt at h;obtain⟨r,hr⟩:=List.isPrefixOf_iff_prefix.1 h;have h0:(s.drop j)[0]?=some 32:=by rw[←hr];rfl
 have h1:(s.drop j)[1]?=some 124:=by rw[←hr];rfl
 rw[List.getElem?_drop] at h0 h1;exact⟨by simpa using h0,h1⟩
theorem cut_or(x r:B)(h:∀c∈x,c≠124):Lib.cut (x++orB++r) orB=(x,r,true):=by
 have hi:Lib.index (x++orB++r) orB=x.length:=by
  refine Lib.index_first (by simp) ?_ fun j hj=>?_
  · unfold Lib.occAt
    rw[List.append_assoc,List.drop_left];exact List.isPrefixOf_iff_prefix.2 ⟨r,rfl⟩
  · cases ho:Lib.occAt (x++orB++r) orB j with
    | false=>rfl
    | true=>
      obtain⟨-,h2⟩:=occ_or ho;rw[List.append_assoc] at h2;rcases Nat.lt_or_ge (j+1) x.length with h3|h3
      · rw[List.getElem?_append_left h3] at h2
        exact absurd rfl (h 124 (List.mem_of_getElem? h2))
      · have e:j+1=x.length:=by omega
        rw[e,List.getElem?_append_right (Nat.le_refl _),Nat.sub_self] at h2;cases h2
 unfold Lib.cut;rw[if_pos (by rw[hi];omega),hi];simp
theorem cut_sp(x r:B)(h:∀c∈x,c≠32):Lib.cut (x++32 :: r) [32]=(x,r,true):=by
 have hi:=zai (d:=32) r h;unfold Lib.cut;rw[if_pos (by rw[hi];omega),hi];simp
theorem zrp(x:B)(h:∀c∈x,c≠32):Lib.cut x [32]=(x,[],false):=by
 have hi:=zah (d:=32) h;unfold Lib.cut;rw[if_neg (by rw[hi];decide)]
theorem zrq(e:Ed):¬inS e zeroR.st:=fun h=>by
 have:=zht h
 have e2:cE zeroR.st.f zeroR.st.t=0:=zhr _;omega
theorem zrr{L:List B}{l:List St}(h:accR L (List.range L.length)=some l):L.length≤16:=by
 rcases Nat.lt_or_ge 16 L.length with h1|h1
 · have h2:accR L (List.range 17)=none:=by
    rw[List.range_succ,zqb,if_pos rfl]
   rw[zqd h2 h1] at h;cases h
 · exact h1
theorem zrs{s:B}{l:List St}(h:readO s=some l):l.length≤16:=by
 unfold readO at h
 split at h
 · have h1:=zqj _ h
   rw[List.length_range] at h1;have:=zrr h
   omega
 · cases h
end SpanC
open Go.RowKit
namespace SpanC
open VerM SpanM StrC TextR VerC
theorem zrt:orB≠[]:=by unfold orB;simp
def noOr(s:B)(q k:Nat):Prop:=∀j,q≤j→j<k→Lib.occAt s orB j=false
theorem zru(s:B)(q j:Nat):Lib.occAt (s.drop q) orB j=Lib.occAt s orB (q+j):=by unfold Lib.occAt;rw[List.drop_drop]
theorem or_hit{s:B}{q k:Nat}(hq:q≤k)(hk:k+4≤s.length)(ho:Lib.occAt s orB k=true)(hn:noOr s q k):zoq orB (s.drop q)=(s.take k).drop q :: zoq orB (s.drop (k+4)):=by
 have hi:Lib.index (s.drop q) orB=((k-q:Nat):Int):=by
  refine Lib.index_first (by rw[List.length_drop];omega) ?_ fun j hj=>?_
  · rw[zru,show q+(k-q)=k from by omega];exact ho
  · rw[zru];exact hn _ (by omega) (by omega)
 have hc:Lib.cut (s.drop q) orB=((s.take k).drop q,s.drop (k+4),true):=by
  unfold Lib.cut;rw[if_pos (by rw[hi];omega),hi,List.drop_drop];rw[show ((k-q:Nat):Int).toNat=k-q from by omega,show q+(k-q+orB.length)=k+4 from by show q+(k-q+4)=k+4;omega,List.drop_take]
 rw[zov zrt,hc]
 rfl
theorem or_end{s:B}{q:Nat}(hn:∀j,q≤j→j+4≤s.length→Lib.occAt s orB j=false):zoq orB (s.drop q)=[s.drop q]:=by
 have hi:Lib.index (s.drop q) orB= -1:=Lib.index_none fun j hj=>by
  cases ho:Lib.occAt (s.drop q) orB j with
  | false=>rfl
  | true=>
    have h:=ho;rw[zru] at h;rcases Lib.occAt_room h with hr|hr
    · rw[hn (q+j) (by omega) hr] at h;cases h
    · exact absurd hr zrt
 have hc:Lib.cut (s.drop q) orB=(s.drop q,[],false):=by
  unfold Lib.cut;rw[if_neg (by rw[hi];decide)]
 rw[zov zrt,hc]
 rfl
structure PartsI (s:B) (k q:Nat) (ms:TL):Prop where
 hq:q≤k
 hk:k≤s.length
 eq:zoq orB s=ms++zoq orB (s.drop q)
 no:noOr s q k
 few:ms.length≤q
theorem PartsI.start(s:B):PartsI s 0 0 []:=⟨Nat.le_refl _,Nat.zero_le _,by simp,fun j h1 h2=>by omega,Nat.le_refl _⟩
theorem PartsI.hit{s:B}{k q:Nat}{ms:TL}(h:PartsI s k q ms)(hk:k+4≤s.length)(ho:Lib.occAt s orB k=true):PartsI s (k+4) (k+4) (ms++ [(s.take k).drop q]):=
 ⟨Nat.le_refl _,hk,by rw[h.eq,or_hit h.hq hk ho h.no];simp,fun j h1 h2=>by omega,by have:=h.few;have:=h.hq;simp;omega⟩
theorem PartsI.next{s:B}{k q:Nat}{ms:TL}(h:PartsI s k q ms)(hk:k+4≤s.length)(ho:Lib.occAt s orB k=false):PartsI s (k+1) q ms:=
 ⟨by have:=h.hq;omega,by omega,h.eq,fun j h1 h2=>by
  by_cases e:j=k
  · rw[e];exact ho
  · exact h.no j h1 (by omega),h.few⟩
theorem PartsI.out{s:B}{k q:Nat}{ms:TL}(h:PartsI s k q ms)(hk:¬k+4≤s.length):zoq orB s=ms++ [s.drop q]:=by
 rw[h.eq,or_end fun j h1 h2=>h.no j h1 (by omega)]
theorem occ_is{s:B}{k:Nat}(hk:k+4≤s.length):Lib.occAt s orB k=decide ((s.take (k+4)).drop k=orB):=by
 rw[Lib.occAt_iff_take s orB k hk,List.drop_take,show k+4-k=orB.length from by show k+4-k=4;omega];rw[Bool.eq_iff_iff];simp
set_option maxRecDepth 100000 in
theorem zrv(s:B)(w:World)(hl:s.length≤128):
 Calls Tryz.prog 212 #[.string (str s)] w fun e w'=>∃v,e= .returned v∧OwnT w' w.heap.size v ((zoq orB s).map str)∧Below w.heap.size w w':=by
 have hs:=zbo s;obtain⟨i0,hi,hz0,hz1,hz2⟩:=info_parts TextR.info_text;go_enter Tryz.func212,Tryz.ntmps212;go_wp2_with fail;go_loopw [3,4,5] (fun vl vq vk wr=>∃(k q:Nat) (ms:TL),vq= .int .i64 q∧vk= .int .i64 k∧Hid (PartsI s k q ms)∧Hid (OwnT wr w.heap.size vl (ms.map str))∧Hid (Below w.heap.size w wr)) (fun _ _ vk _=>s.length+1-(intOf vk).toNat)
 case atStart=>exact⟨0,0,[],rfl,rfl,hid (PartsI.start s),hid (OwnT.nil _ _),hid (Below.refl _ _)⟩
 case round=>
  obtain⟨k,q,ms,rfl,rfl,HI,HO,HB⟩:=hrel;rename World=>wr
  have hk1:=HI.out.hk;have hq1:=HI.out.hq;have hfew:=HI.out.few;obtain⟨L,hL⟩:∃L,L=ms.map str:=⟨_,rfl⟩;have hLl:L.length=ms.length:=by rw[hL,List.length_map]
  have HO1:=HO.out;rw[←hL] at HO1;have HL:=hid hL;clear hL;have HLL:=hid hLl;clear hLl;have HL2:L.length≤200:=by rw[HLL.out];omega
  by_cases hk:k+4≤s.length
  · have hdec:decide ((k:Int)+4≤(s.length:Int))=true:=decide_eq_true (by omega)
    have hsl:=zdj s k ((k:Int)+4) k (k+4) rfl (by omega) (by omega) hk;have hsl2:=zdj s q k q k rfl rfl hq1 hk1;have hoc:=occ_is hk;have hbe:=zbt ((s.take (k+4)).drop k) orB;have HHIT:=hid (fun h=>HI.out.hit hk h);have HNX:=hid (fun h=>HI.out.next hk h);obtain⟨P,hP⟩:∃P,P=(s.take k).drop q:=⟨_,rfl⟩;rw[←hP] at hsl2 HHIT;clear hP;obtain⟨T,hT⟩:∃T,T=(s.take (k+4)).drop k:=⟨_,rfl⟩;rw[←hT] at hsl hoc hbe;clear hT;cases ho:Lib.occAt s orB k with
    | true=>
      rw[ho] at hoc;rw[←hoc] at hbe;have hbe2:((str T).toList == ([32,124,124,32]:List UInt8))=true:=hbe;have HH:=hid (HHIT.out ho);clear HHIT HNX hoc ho hbe;go_wp2_with (at_builtin;refine zdh rfl _ _ 98 rfl w.heap.size 9 i0 (.string ⟨#[]⟩) Tryz.underlying98 hi hz0 hz1 hz2 rfl _ _ _ rfl (World.ownsRow.alloc HO1 _) ⟨wr.heap.size,0,none⟩ 1 (.string (str P)) rfl (zdf _ _ _) rfl ?c1 ?c2 ?_)
      case c1=>omega
      case c2=>have:=HB.out.size;simp;omega
      intro v' w2 hown' hg;have HB2:Hid (Below w.heap.size w w2):=hid ((HB.out.alloc HB.out.size _).grown hg (by have:=HB.out.size;simp;omega) (zdl HO1));have HO2:=hid (snoc hown' rfl);clear hown' hg HO1 HB;go_wp2_with fail;go_roundw
      case rel=>exact⟨k+4,k+4,ms++ [P],by go_num,by go_num,HH,by rw[List.map_append,List.map_singleton,←HL.out];exact HO2,HB2⟩
      case measure=>(simp [intOf];try omega)
    | false=>
      rw[ho] at hoc;rw[←hoc] at hbe;have hbe2:((str T).toList == ([32,124,124,32]:List UInt8))=false:=hbe;have HH:=hid (HNX.out ho);clear HHIT HNX hoc ho hbe;go_wp2_with fail;go_roundw
      case rel=>exact⟨k+1,q,ms,rfl,by go_num,HH,HO,HB⟩
      case measure=>(simp [intOf];try omega)
  · have hdec:decide ((k:Int)+4≤(s.length:Int))=false:=decide_eq_false (by omega)
    have HH:=hid (HI.out.out hk);have hsl2:=zdk s q q rfl (by omega);obtain⟨P,hP⟩:∃P,P=s.drop q:=⟨_,rfl⟩;rw[←hP] at hsl2 HH;clear hP;go_wp2_with (at_builtin;refine zdh rfl _ _ 98 rfl w.heap.size 9 i0 (.string ⟨#[]⟩) Tryz.underlying98 hi hz0 hz1 hz2 rfl _ _ _ rfl (World.ownsRow.alloc HO1 _) ⟨wr.heap.size,0,none⟩ 1 (.string (str P)) rfl (zdf _ _ _) rfl ?c1 ?c2 ?_)
    case c1=>omega
    case c2=>have:=HB.out.size;simp;omega
    intro v' w2 hown' hg;have HB2:Hid (Below w.heap.size w w2):=hid ((HB.out.alloc HB.out.size _).grown hg (by have:=HB.out.size;simp;omega) (zdl HO1));have HO2:=hid (snoc hown' rfl);clear hown' hg HO1 HB;go_wp2_with fail;go_ret;exact⟨_,rfl,by rw[HH.out,List.map_append,List.map_singleton,←HL.out];exact HO2.out,HB2.out⟩
end SpanC
open Go.RowKit
namespace SpanC
open VerM SpanM StrC TextR VerC
theorem zrw:∀(n:Nat) (s:B),s.length≤n→zoq [32] s=pieces 32 s:=by
 intro n
 induction n with
 | zero=>
   intro s hs;have:s=[]:=List.length_eq_zero_iff.1 (by omega)
   subst this
   rfl
 | succ n ih=>
   intro s hs;rcases zag 32 s with h|⟨x,r,rfl,hx⟩
   · rw[zov (by simp),zrp s h,zab h];rfl
   · rw[zov (by simp),cut_sp x r hx,zac r hx]
     simp only[if_true];rw[ih r (by simp at hs;omega)]
theorem zrx{L:TL}{k:Nat}{st:St}(hk:k<16)(h:accM L (List.range k)=some st):accM L (List.range (k+1))=(compM (L.getD k [])).map (meetS st):=by
 rw[List.range_succ,zpm,if_neg (by omega),h];rfl
theorem zry{L:TL}(h:16<L.length):accM L (List.range L.length)=none:=by
 refine zpo (k:=17) ?_ (by omega);rw[List.range_succ,zpm,if_pos rfl]
theorem FormE.rl{l:List St}{w w':World}{u:Value}(h:FormE True l w (.returned u) w'):∃R,RL True w' w.heap.size u R∧spanM R=formM l∧Below w.heap.size w w':=by
 obtain⟨u',R,e,h2,h3,h4⟩:=h;cases e
 exact⟨R,h2,h3,h4⟩
theorem zrz:formM [zeroR.st]=[]:=(zig SpanM.Can.nil fun e=>by
 constructor
 · intro h;exact absurd h (zhv e)
 · intro h;exact absurd ((zhy).1 h) (zrq e)).symm
set_option maxRecDepth 100000 in
theorem zsa(s:B)(w:World)(hl:s.length≤128):
 Calls Tryz.prog 213 #[.string (str s)] w (CompE (altM s) w):=by
 have hs:=zbo s;rcases Classical.em (s=[42]) with rfl|h1
 · have k0:((str [42]).toList == ([42]:List UInt8))=true:=(zbt [42] [42]).trans (by decide)
   have HE:Hid (altM [42]=some allS):=hid rfl
   have HEV:=hid ((zrd (K:=True) w).mono fun e w' hf=>(show ∃u,e= .returned u∧CompE (some allS) w (.returned (.tuple #[u,.bool true])) w' from by
    obtain⟨u,he,hf2⟩:=hf.val;exact⟨u,he,CompE.yes hf2 (Below.refl _ _)⟩))
   rw[←HE.out] at HEV;generalize CompE (altM [42]) w=CE at*;go_enter Tryz.func213,Tryz.ntmps213;go_wp2_with (go_at_call 235;refine HEV.out.mono ?_;rintro e w5 ⟨u5,rfl,hf5⟩;have HF5:=hid hf5;clear hf5)
   exact HF5.out
 rcases Classical.em (s=[33]) with rfl|h2
 · have k0:((str [33]).toList == ([42]:List UInt8))=false:=(zbt [33] [42]).trans (by decide)
   have k1:((str [33]).toList == ([33]:List UInt8))=true:=(zbt [33] [33]).trans (by decide);have HE:Hid (CompE (altM [33]) w (.returned (.tuple #[.slice none 0 0,.bool true])) w):=hid (show CompE (some zeroR.st) w _ w from ⟨Below.refl _ _,fun h=>(by cases h),fun st h=>(by cases h;exact⟨_,[],rfl,RL.nil _ _,zrz.symm⟩)⟩);go_enter Tryz.func213,Tryz.ntmps213;go_wp2_with fail;go_ret2
   exact HE.out
 have k0:((str s).toList == ([42]:List UInt8))=false:=(zbt s [42]).trans (decide_eq_false h1);have k1:((str s).toList == ([33]:List UInt8))=false:=(zbt s [33]).trans (decide_eq_false h2);have HA:Hid (altM s=accM (pieces 32 s) (List.range (pieces 32 s).length)):=hid (by unfold altM;rw[if_neg h1,if_neg h2,zrw s.length s (Nat.le_refl _)]);have HCUT:=hid (zdt s 32 w (by omega));have HPL:=hid (zad 32 s);have HPM:=hid (zae 32 s);generalize altM s=am at*;generalize pieces 32 s=L at*;have hll:L.length≤129:=by have:=HPL.out;omega
 clear h1 h2;go_enter Tryz.func213,Tryz.ntmps213;go_wp2_with (go_at_call 38;refine HCUT.out.mono ?_;rintro e w1 ⟨v,rfl,ho,hb⟩;refine Hid.out ?_)
 refine hid ?_;obtain⟨a,cap,rfl,hT⟩:=zdm ho (fun s hs=>by have:=HPM.out s hs;omega) (by omega);have HB1:=hid hb;have HT1:=hid hT;clear ho hb hT HCUT;by_cases hmany:16<L.length
 · have hd:decide (16<(L.length:Int))=true:=decide_eq_true (by omega)
   have HN:Hid (am=none):=hid (by rw[HA.out,zry hmany]);clear hmany;go_wp2_with fail;go_ret2
   rw[HN.out];exact CompE.no HB1.out
 have hd:decide (16<(L.length:Int))=false:=decide_eq_false (by omega);have HSTOP:=hid (fun k (h:accM L (List.range k)=none) (hk:k≤L.length)=>HA.out.trans (zpo h hk));go_wp2_with (go_at_call 235;refine(zrd (K:=True) w1).mono ?_;rintro e w2 hf;obtain⟨u2,rfl,hf2⟩:=hf.val;have HF2:=hid hf2;clear hf hf2;refine Hid.out ?_)
 refine hid ?_;obtain⟨R2,hr2,hm2,hb2⟩:=HF2.out.rl;have HB2:=hid (HB1.out.trans (hb2.mono HB1.out.size));have HR2:=hid (hr2.base HB1.out.size);have HM2:=hid hm2;have HT2:=hid (HT1.out.gr hb2);clear hr2 hm2 hb2 HF2 HT1 HB1;go_wp2_with fail;go_loopw [5,6,7,8] (fun u i _ _ wq=>∃(k:Nat) (R:List IvG) (st:St),i= .int .i64 k∧k≤L.length∧Hid (accM L (List.range k)=some st)∧Hid (RL True wq w.heap.size u R∧spanM R=formM [st])∧Hid (Below w2.heap.size w2 wq)) (fun _ i _ _ _=>L.length-(intOf i).toNat)
 case atStart=>exact⟨0,R2,allS,rfl,Nat.zero_le _,hid rfl,hid ⟨HR2.out,HM2.out⟩,hid (Below.refl _ _)⟩
 case round=>
  obtain⟨k,R,st,rfl,hk,HAC,HRR,HBQ⟩:=hrel;rename World=>wq
  by_cases hlt:k<L.length
  · have hdec:decide (k<L.length)=true:=by simpa using hlt
    have HTQ:=hid (HT2.out.gr HBQ.out);obtain⟨b,o,hab,hcell⟩:=HTQ.out.cells (by omega);cases hab
    have hc:=hcell k hlt;clear hcell;have HSU:=hid (zrx (L:=L) (k:=k) (by omega) HAC.out);have HCM:=hid (zro (L.getD k []) wq (HTQ.out.mem k hlt));generalize L.getD k []=x at*;rcases hcx:compM x with _|t
    · have HN:Hid (am=none):=hid (HSTOP.out (k+1) (by rw[HSU.out,hcx];rfl) hlt)
      rw[hcx] at HCM;clear hcx;go_wp2_with (go_at_call 236;refine HCM.out.mono ?_;rintro e w5 hf5;obtain rfl:=hf5.2.1 rfl;have HB5:=hid hf5.1;clear hf5)
      go_ret2
      rw[HN.out];exact CompE.no (HB2.out.trans ((HBQ.out.trans (HB5.out.mono HBQ.out.size)).mono HB2.out.size))
    · have HNX:Hid (accM L (List.range (k+1))=some (meetS st t)):=hid (by rw[HSU.out,hcx];rfl)
      rw[hcx] at HCM;clear hcx HSU;go_wp2_with (go_at_call 236;refine HCM.out.mono ?_;rintro e w5 hf5;obtain⟨uC,R5,rfl,hr5,hm5⟩:=hf5.2.2 t rfl;have HB5:=hid hf5.1;have HR5:=hid hr5;have HM5:=hid hm5;clear hf5 hr5 hm5;refine Hid.out ?_)
      refine hid ?_;have HMT:=hid ((zri st t u5 uC R R5 w5 ((HRR.out.1.low).gr HB5.out) HR5.out.low HRR.out.2 HM5.out).mono fun e w' hf=>hf.val);clear hc;go_wp2_with (go_at_call 237;refine HMT.out.mono ?_;rintro e w6 ⟨u6,rfl,hf6⟩;have HF6:=hid hf6;clear hf6;refine Hid.out ?_)
      refine hid ?_;obtain⟨R6,hr6,hm6,hb6⟩:=HF6.out.rl;have HB6:=hid (HBQ.out.trans ((HB5.out.trans (hb6.mono HB5.out.size)).mono HBQ.out.size));have HRM6:Hid (RL True w6 w.heap.size u6 R6∧spanM R6=formM [meetS st t]):=hid ⟨hr6.base (Nat.le_trans HB2.out.size (Nat.le_trans HBQ.out.size HB5.out.size)),hm6⟩;clear hr6 hm6 hb6 HF6;go_wp2_with fail;go_roundw
      case rel=>exact⟨k+1,R6,meetS st t,by go_num,hlt,HNX,HRM6,HB6⟩
      case measure=>simp[intOf];omega
  · have hdec:decide (k<L.length)=false:=by simpa using hlt
    have hke:k=L.length:=by omega
    have HN:Hid (am=some st):=hid (by rw[HA.out,←hke,HAC.out]);clear hke;go_wp2_with fail;go_ret2
    rw[HN.out];exact⟨HB2.out.trans (HBQ.out.mono HB2.out.size),fun h=>(by cases h),fun st' h=>(by cases h;exact⟨_,R,rfl,HRR.out.1,HRR.out.2⟩)⟩
end SpanC
open Go.RowKit
namespace SpanC
open VerM SpanM StrC TextR VerC
theorem IvRow.news{w:World}{B:Nat}{a:Option Addr}{n cp:Nat}{L:List IvG}(h:IvRow w B (.slice a n cp) L):n=L.length∧(a=none→n=0∧cp=0)∧∀ad,a=some ad→∀j u,(L.flatMap gvL)[j]?=some u→w.cell? (ad.add j)=some u:=by
 have h':w.ownsRow B 286 11 (.slice a n cp) L.length (L.flatMap gvL):=h;have h0:=h';obtain⟨_,⟨h1,h2⟩|⟨g,cp',cur,e1,hg0,hblk,_⟩⟩:=h'
 · simp only[Value.slice.injEq] at h1
   obtain⟨rfl,rfl,rfl⟩:=h1;exact⟨h2.symm,fun _=>⟨rfl,rfl⟩,fun ad e=>(by cases e)⟩
 · simp only[Value.slice.injEq] at e1
   obtain⟨rfl,rfl,rfl⟩:=e1;refine⟨rfl,fun e=>(by cases e),fun ad e j u hu=>?_⟩;cases e
   have hj:j<L.length*11:=by
    have:=(List.getElem?_eq_some_iff.1 hu).1
    rwa [RowKC.zil gvL 11 zjv] at this
   rw[Go.WideShapes.add_plain,Nat.zero_add,h0.cellAt j hj];exact hu
theorem gv_ones(L:List IvG):∀u∈L.flatMap gvL,u.oneCell'=true:=fun u hu=>by
 obtain⟨x,_,hx⟩:=List.mem_flatMap.1 hu;exact zjx x u hx
theorem zsb{w w':World}{x:IvG}{B n k:Nat}{e:TypeId}{v:Value}{xs:List Value}(h:TI True w x)(hown:w.ownsRow B e k v n xs)(he:e≠9)(hg:w.grownBy w' v.ownBlock):TI True w' x:=by
 have key:∀b,IsText w b→w'.heap[b]?=w.heap[b]?:=fun b hb=>by
  rcases hown.2 with ⟨rfl,_⟩|⟨g,cp,cur,rfl,_,hb2,_⟩
  · exact hg.block b hb.lt (by simp[Value.ownBlock])
  · exact hg.block b hb.lt (by
     simp only[Value.ownBlock,ne_eq,Option.some.injEq];intro e2;exact zqr hb2 he (e2 ▸ hb))
 have tq:∀{a:Option Addr} {c:Nat} {p:TL},TxQ True w a c p→TxQ True w' a c p:=fun {a c p} t=>by
  refine⟨⟨t.txs.cap,t.txs.short,t.txs.few,fun h0=>?_⟩,fun _ b f e=>(t.k trivial b f e).of (key b (t.k trivial b f e))⟩;obtain⟨b,o,e,hc⟩:=t.txs.cells h0;refine⟨b,o,e,fun i hi=>?_⟩;rw[World.cell?_of_block (a:=⟨b,o+i,none⟩) (key b (t.k trivial b o e))];exact hc i hi
 exact⟨tq h.l,tq h.h⟩
set_option maxRecDepth 100000 in
theorem zsc(a:Option Addr)(n cp:Nat)(w:World)(hn:n≤9223372036854775807):
 Calls Tryz.prog 214 #[.slice a n cp] w fun e w'=>e=(if n≤16 then .returned (.tuple #[.slice a n cp,.int .i64 0]) else .returned (.tuple #[.slice none 0 0,.int .i64 80]))∧w=w':=by
 by_cases h:n≤16
 · have hd:decide ((16:Int)<(n:Int))=false:=decide_eq_false (by omega)
   rw[if_pos h];clear h;go_enter Tryz.func214,Tryz.ntmps214;go_wp2
   go_ret2
   exact⟨rfl,rfl⟩
 · have hd:decide ((16:Int)<(n:Int))=true:=decide_eq_true (by omega)
   rw[if_neg h];clear h;go_enter Tryz.func214,Tryz.ntmps214;go_wp2
   go_ret2
   exact⟨rfl,rfl⟩
def ReadR(s:B)(w:World)(e:Ending)(w':World):Prop:=Below w.heap.size w w'∧(readO s=none→e= .returned (.tuple #[.slice none 0 0,.int .i64 80]))∧
 ∀l,readO s=some l→∃u R,e= .returned (.tuple #[u,.int .i64 0])∧RL True w' w.heap.size u R∧spanM R=formM l
theorem ReadR.no{s:B}{w w':World}(h:readO s=none)(hb:Below w.heap.size w w'):ReadR s w (.returned (.tuple #[.slice none 0 0,.int .i64 80])) w':=⟨hb,fun _=>rfl,fun l h2=>by rw[h] at h2;cases h2⟩
theorem zsd{L:TL}{k:Nat}{l:List St}(hk:k<16)(h:accR L (List.range k)=some l):accR L (List.range (k+1))=(altM (L.getD k [])).map fun t=>l++ [t]:=by
 rw[List.range_succ];unfold accR at h ⊢;rw[List.foldl_append,h];simp only[List.foldl_cons,List.foldl_nil];rw[if_neg (by omega)]
 rfl
theorem zse{L:TL}:∀(l:List Nat),l.foldl (fun o k=>if k=16 then none else o.bind fun a=>(altM (L.getD k [])).map fun t=>a++ [t]) (none:Option (List St))=none
 | []=>rfl
 | k :: l=>by
   simp only[List.foldl_cons,Option.bind_none,ite_self];exact zse l
theorem zsf{L:TL}{k n:Nat}(h:accR L (List.range k)=none)(hk:k≤n):accR L (List.range n)=none:=by
 obtain⟨m,rfl⟩:∃m,n=k+m:=⟨n-k,by omega⟩;rw[List.range_add];unfold accR at h ⊢;rw[List.foldl_append,h];exact zse _
theorem zsg(A C:List St):formM (formM A++formM C)=formM (A++C):=zii fun e=>by
 rw[zhx,zhx,(zif A).2,(zif C).2]
structure ReadI (w wq:World) (u:Value) (R:List IvG) (l:List St) (k:Nat):Prop where
 row:RL True wq w.heap.size u R
 set:formM (spanM R)=formM l
 below:Below w.heap.size w wq
 len:R.length≤k
set_option maxRecDepth 100000 in
theorem zsh(s:B)(w:World)(hl:s.length≤9223372036854775807):
 Calls Tryz.prog 182 #[.string (str s)] w (ReadR s w):=by
 have hs:=zbo s;by_cases hlong:128<s.length
 · have hd:decide (128<(s.length:Int))=true:=decide_eq_true (by omega)
   have HN:Hid (readO s=none):=hid (by unfold readO;rw[if_neg (by omega)]);clear hlong;go_enter Tryz.func182,Tryz.ntmps182;go_wp2_with fail;go_ret2
   exact ReadR.no HN.out (Below.refl _ _)
 have hd:decide (128<(s.length:Int))=false:=decide_eq_false (by omega);obtain⟨i0,hi,hz0,hz1,hz2⟩:=info_parts zjw;have HPA:=hid (zrv s w (by omega));have HRO:Hid (readO s=accR (zoq orB s) (List.range (zoq orB s).length)):=hid (by unfold readO;rw[if_pos (by omega)]);have HPL:=hid (zox zrt s);have HPM:=hid (zoy zrt s);have HNO:=hid (fun w' h hb=>ReadR.no (s:=s) (w:=w) (w':=w') h hb);have HYES:Hid (∀l u R w',readO s=some l→RL True w' w.heap.size u R→spanM R=formM l→Below w.heap.size w w'→ReadR s w (.returned (.tuple #[u,.int .i64 0])) w'):=hid (fun l u R w' h1 h2 h3 h4=>⟨h4,fun h=>(by rw[h1] at h;cases h),fun l' h=>(by rw[h1] at h;cases h;exact⟨u,R,rfl,h2,h3⟩)⟩);generalize ReadR s w=RE at*;generalize readO s=ro at*;generalize zoq orB s=L at*;have hll:L.length≤129:=by have:=HPL.out;omega
 clear hlong;go_enter Tryz.func182,Tryz.ntmps182;go_wp2_with (go_at_call 212;refine HPA.out.mono ?_;rintro e w1 ⟨v,rfl,ho,hb⟩;refine Hid.out ?_)
 refine hid ?_;obtain⟨a,cap,rfl,hT⟩:=zdm ho (fun t ht=>by have:=HPM.out t ht;omega) (by omega);have HB1:=hid hb;have HT1:=hid hT;clear ho hb hT HPA;by_cases hmany:16<L.length
 · have hd2:decide (16<(L.length:Int))=true:=decide_eq_true (by omega)
   have HN:Hid (ro=none):=hid (by
    rw[HRO.out];refine zsf (k:=17) ?_ (by omega);rw[List.range_succ];unfold accR;rw[List.foldl_append]
    rfl)
   clear hmany;go_wp2_with fail;exact HNO.out _ HN.out HB1.out
 have hd2:decide (16<(L.length:Int))=false:=decide_eq_false (by omega);have HSTOP:=hid (fun k (h:accR L (List.range k)=none) (hk:k≤L.length)=>HRO.out.trans (zsf h hk));go_wp2_with fail;go_loopw [5,6,7,8] (fun u i _ _ wq=>∃(k:Nat) (R:List IvG) (l:List St),i= .int .i64 k∧k≤L.length∧Hid (accR L (List.range k)=some l)∧Hid (ReadI w1 wq u R l k)) (fun _ i _ _ _=>L.length-(intOf i).toNat)
 case atStart=>exact⟨0,[],[],rfl,Nat.zero_le _,hid rfl,hid ⟨RL.nil _ _,rfl,Below.refl _ _,Nat.le_refl _⟩⟩
 case round=>
  obtain⟨k,R,l,rfl,hk,HAC,HI⟩:=hrel;rename World=>wq
  by_cases hlt:k<L.length
  · have hdec:decide (k<L.length)=true:=by simpa using hlt
    have HTQ:=hid (HT1.out.gr HI.out.below);obtain⟨b,o,hab,hcell⟩:=HTQ.out.cells (by omega);cases hab
    have hc:=hcell k hlt;have HSU:=hid (zsd (L:=L) (k:=k) (by omega) HAC.out)
    have HAL:=hid (zsa (L.getD k []) wq (by
     have:=HPM.out (L.getD k []) (by rw[List.getD_eq_getElem?_getD,List.getElem?_eq_getElem hlt];exact List.getElem_mem hlt)
     have:=hd
     have h2:¬128<(s.length:Int):=of_decide_eq_false hd;omega))
    clear hcell;generalize L.getD k []=x at*;rcases hcx:altM x with _|t
    · have HN:Hid (ro=none):=hid (HSTOP.out (k+1) (by rw[HSU.out,hcx];rfl) hlt)
      rw[hcx] at HAL;clear hcx;go_wp2_with (go_at_call 213;refine HAL.out.mono ?_;rintro e wC hfC;obtain rfl:=hfC.2.1 rfl;have HBC:=hid hfC.1;clear hfC)
      exact HNO.out _ HN.out (HB1.out.trans ((HI.out.below.trans (HBC.out.mono HI.out.below.size)).mono HB1.out.size))
    · have HNX:Hid (accR L (List.range (k+1))=some (l++ [t])):=hid (by rw[HSU.out,hcx];rfl)
      rw[hcx] at HAL;clear hcx HSU;go_wp2_with (go_at_call 213;refine HAL.out.mono ?_;rintro e wC hfC;obtain⟨uC,RC,rfl,hrC,hmC⟩:=hfC.2.2 t rfl;have HBC:=hid hfC.1;have HRC:=hid hrC;have HMC:=hid hmC;clear hfC hrC hmC;refine Hid.out ?_)
      refine hid ?_;obtain⟨aC,cC,rfl⟩:=HRC.out.row.value;obtain⟨-,n2,n3⟩:=HRC.out.row.news;have N2:=hid n2;have N3:=hid n3;have hone:RC.length≤1:=zrh HMC.out;have hRl:R.length≤16:=by have:=HI.out.len;omega
      have hrow:wC.ownsRow w1.heap.size 286 11 u5 R.length (R.flatMap gvL):=HI.out.row.row.below' HBC.out;have HOWN:=hid hrow;have HBW:=hid (HI.out.below.trans (HBC.out.mono HI.out.below.size));have HSZ:=hid HBW.out.size;clear n2 n3 hc;go_wp2_with (at_builtin;refine zld _ rfl _ _ 246 rfl w1.heap.size 286 i0 _ 11 104 Tryz.underlying246 hi hz0 hz1 hz2 rfl (by decide) _ _ _ rfl hrow aC RC.length cC (RC.flatMap gvL) rfl N2.out ?c1 N3.out (gv_ones RC) ?c3 ?c4 ?c5 ?_)
      case c1=>exact RowKC.zil gvL 11 zjv RC
      case c3=>unfold maxLen;omega
      case c4=>omega
      case c5=>exact HSZ.out
      intro v' w6 hown6 hg6
      have HNEXT:Hid (ReadI w1 w6 v' (R++RC) (l++ [t]) (k+1)):=hid ⟨⟨by
       unfold IvRow;rw[List.flatMap_append,List.length_append];exact hown6,fun z hz=>by
       rcases List.mem_append.1 hz with hz|hz
       · exact zsb ((HI.out.row.txs z hz).gr HBC.out) HOWN.out (by decide) hg6
       · exact zsb (HRC.out.txs z hz) HOWN.out (by decide) hg6,fun z hz=>by
       rcases List.mem_append.1 hz with hz|hz
       · exact HI.out.row.ok z hz
       · exact HRC.out.ok z hz⟩,by
       rw[zmk,←zsg,HI.out.set,HMC.out,zih (zif [t]).1,zsg],HBW.out.grown hg6 HSZ.out (fun j hj=>(World.ownsRow.lt HOWN.out j hj).1),by
       rw[List.length_append];have:=HI.out.len;omega⟩
      clear hown6 hg6 hrow;go_wp2_with fail;go_roundw
      case rel=>exact⟨k+1,_,_,by go_num,hlt,HNX,HNEXT⟩
      case measure=>simp[intOf];omega
  · have hdec:decide (k<L.length)=false:=by simpa using hlt
    have hke:k=L.length:=by omega
    have HN:Hid (ro=some l):=hid (by rw[HRO.out,←hke,HAC.out]);obtain⟨a5,c5,rfl⟩:=HI.out.row.row.value;have HJ:=hid (zmq a5 c5 R wq ⟨HI.out.row.row.in_,HI.out.row.txs⟩ HI.out.row.ok (by have:=HI.out.len;omega));rw[HI.out.set] at HJ
    have HFL:Hid ((formM l).length≤16):=hid (by
     have h:=zqm (spanM R);rw[HI.out.set,zmj] at h;have:=HI.out.len
     omega)
    clear hke;go_wp2_with (go_at_call 215;refine HJ.out.mono ?_;rintro e w6 ⟨u6,R6,rfl,hr6,hm6,hb6⟩;have HR6:=hid hr6;have HM6:=hid hm6;have HB6:=hid (HI.out.below.trans (hb6.mono HI.out.below.size));clear hr6 hm6 hb6;refine Hid.out ?_)
    refine hid ?_;obtain⟨a6,c6,rfl⟩:=HR6.out.row.value
    have hR6:R6.length≤16:=by
     have h:=HFL.out
     rwa [←HM6.out,zmj] at h
    have HLI:=hid (zsc a6 R6.length c6 w6 (by omega));rw[if_pos hR6] at HLI;go_wp2_with (go_at_call 214;refine HLI.out.mono ?_;rintro e w7 ⟨rfl,rfl⟩)
    exact HYES.out l _ R6 _ HN.out (HR6.out.base (Nat.le_trans HB1.out.size HI.out.below.size)) HM6.out (HB1.out.trans (HB6.out.mono HB1.out.size))
end SpanC
open Go.RowKit
namespace SpanC
open VerM SpanM StrC TextR VerC
variable {K:Prop}
end SpanC
open Go.RowKit
namespace SpanC
open VerM SpanM StrC TextR VerC
end SpanC
open Go.RowKit
namespace VerC
theorem cell_of_table{P:Program}{w:World}{g n:Nat}{t e:TypeId}{zero:Array Value}{k:IntKind}(h:w.ShapedOpen P)(hg:g<P.globals.size)
 (h0:((begin P (fun _ _=>0) default).world.heap[g]?).bind Obj.row?=some (zero,t)) (hz:zero.size=n) (hb:P.buildable t=true) (hc:P.cellTypes P.depth t=some (List.replicate n e)) (hu:P.underlying e=some (.int k)) (i:Nat) (hi:i<n):
 ∃m,w.cell? ⟨g,i,none⟩=some (.int k m):=by
 obtain⟨cs,hh,hs,hr⟩:=h.1 g zero t hg h0;obtain⟨ts,hts,_,hall⟩:=hr hb;rw[hc] at hts;cases hts
 have h1:i<cs.size:=by omega
 obtain⟨u,hu',hok⟩:=hall i cs[i] (by simp[h1])
 have hu2:u=e:=by
  have hl:(List.replicate n e)[i % (List.replicate n e).length]?=some u:=hu';rw[List.getElem?_replicate] at hl
  split at hl
  · exact(Option.some.inj hl).symm
  · cases hl
 subst hu2;have hcell:w.cell? ⟨g,i,none⟩=some cs[i]:=by simp[World.cell?,hh,h1]
 rw[hcell];unfold Cell.ok at hok;rw[hu] at hok;cases hv:cs[i]<;>rw[hv] at hok<;>simp at hok
 case int k' m=>exact⟨m,by rw[hok.1]⟩
theorem g_syn:Tryz.prog.globalNamed "strconv.ErrSyntax"=some 4:=by kernel_rfl
theorem g_ran:Tryz.prog.globalNamed "strconv.ErrRange"=some 5:=by kernel_rfl
theorem zsi: "*" ++ "errors.errorString"= "*errors.errorString":=by decide
theorem zsj(u:TypeId)(h:Tryz.prog.typeName? 3 u=some "*errors.errorString"):u=320:=
 typeName_ptr_named (nm:= "errors.errorString") (by rw[zsi];kernel_rfl) (by kernel_rfl) (by decide) u (by rw[zsi];exact h)
theorem zsk:Tryz.prog.cellsOf 322=1:=by kernel_rfl
theorem zsl:Tryz.prog.cellsOf 9=1:=by kernel_rfl
theorem g_pow:Tryz.prog.globalNamed "internal/strconv.uint64pow10"=some 3:=by kernel_rfl
def laidL:List (String×DataW Unit):=[("math/bits.deBruijn32tab",Rows.laid_math_bits_deBruijn32tab),("math/bits.deBruijn64tab",Rows.laid_math_bits_deBruijn64tab),("internal/strconv.uint64pow10",Rows.laid_internal_strconv_uint64pow10),("unicode/utf8.acceptRanges",Rows.laid_unicode_utf8_acceptRanges),("strconv.ErrRange",Rows.laid_strconv_ErrRange),("strconv.ErrSyntax",Rows.laid_strconv_ErrSyntax),("unicode/utf8.first",Rows.laid_unicode_utf8_first)]
theorem vw_of{W:World}(h:laidMetH Tryz.prog laidL W)(hs:W.ShapedOpen Tryz.prog):Vw W:=by
 refine⟨cell_of_table (g:=2) (n:=1) (zero:=#[.int .i64 0]) (t:=3) (e:=3) hs (of_decide_eq_true (by kernel_rfl)) (by kernel_rfl) (by kernel_rfl) (by kernel_rfl) (by kernel_rfl) Tryz.underlying3 0 (by decide),
?_,?_,?_⟩
 rotate_left 2
 have h1:=h.filter (fun x=>x.1 == "internal/strconv.uint64pow10")
 have h2:laidMet Tryz.prog [("internal/strconv.uint64pow10",Rows.laid_internal_strconv_uint64pow10)] W:=by
  rw[←MakeChecks.laidMetH_plain _ _ _ (by kernel_rfl)];exact h1
 · exact Lib.tabIs_of_head (t:=273) (e:=24) (n:=20) g_pow (by kernel_rfl) Tryz.underlying273 Tryz.underlying24 (by kernel_rfl) (by kernel_rfl) h2
 · have h3:=h.filter (fun x=>x.1 == "strconv.ErrSyntax")
   have h4:laidMet Tryz.prog [("strconv.ErrSyntax",Rows.laid_strconv_ErrSyntax)] W:=by
    rw[←MakeChecks.laidMetH_plain _ _ _ (by kernel_rfl)];exact h3
   obtain⟨a0,s0,hv0,-,-,-⟩:=laid_sentinel h4 g_syn (ti:=29) (by kernel_rfl) Tryz.underlying29 zsj Tryz.underlying320 Tryz.underlying322 rfl rfl Tryz.underlying9 zsk zsl;have h0:=World.var?_cell g_syn hv0 0;exact⟨_,by simpa using h0,.inr ⟨_,_,rfl⟩⟩
 · have h3:=h.filter (fun x=>x.1 == "strconv.ErrRange")
   have h4:laidMet Tryz.prog [("strconv.ErrRange",Rows.laid_strconv_ErrRange)] W:=by
    rw[←MakeChecks.laidMetH_plain _ _ _ (by kernel_rfl)];exact h3
   obtain⟨a0,s0,hv0,-,-,-⟩:=laid_sentinel h4 g_ran (ti:=29) (by kernel_rfl) Tryz.underlying29 zsj Tryz.underlying320 Tryz.underlying322 rfl rfl Tryz.underlying9 zsk zsl;have h0:=World.var?_cell g_ran hv0 0;exact⟨_,by simpa using h0,.inr ⟨_,_,rfl⟩⟩
def laidD:List (String×DataW Unit):=laidL.filter fun x=>x.2.handleName?.isNone
noncomputable def laidW(os:Os):World:=(World.holding Tryz.prog os ⟨#[],#[],[]⟩).layVars Tryz.prog laidD
theorem laidW_os(os:Os):(laidW os).os=os:=World.layVars_os _ _ _
set_option maxRecDepth 100000 in
theorem laidW_met(os:Os)(args:Array Value):laidMetH Tryz.prog laidL ((laidW os).forCall (fun _ _=>0) ⟨#[],args,[]⟩).memory:=
 laidMetH_of_parts (laidMet_layVars (w0:=World.holding Tryz.prog os ⟨#[],#[],[]⟩) (laidL.map (·.1)) [] (by kernel_rfl) (by kernel_rfl) (by kernel_rfl) LaidIn.none) (by kernel_rfl)
end VerC
open Go.RowKit
namespace SpanC
open VerM SpanM StrC TextR VerC
variable {K:Prop}
set_option maxRecDepth 100000 in
theorem zsm(v:Ver)(a:Option Addr)(cap:Nat)(w:World)(hT:Txs w a cap v.pre)(hm:may v=true):
 Calls Tryz.prog 245 #[.agg #[.int .u32 v.a,.int .u32 v.b,.int .u32 v.c,.slice a v.pre.length cap]] w fun e w'=>e= .returned (.string (str (text v)))∧Below w.heap.size w w':=by
 obtain⟨h1,h2,h3,h4,h5⟩:=zdp hm;have HTX:=hid (show text v=(((Lib.decDigits v.a++ [46])++Lib.decDigits v.b)++ [46])++Lib.decDigits v.c++preL v.pre by unfold text;simp);have e1:=zdr h1;have e2:=zdr h2;have e3:=zdr h3;have HP:=hid (zdo v.pre 16 (fun s hs=>(zdq (h5 s hs)).2));have HSL:=hid (fun s (hs:s∈v.pre)=>(zdq (h5 s hs)).2);unfold mx at h1 h2 h3;obtain⟨na,nb,nc,p⟩:=v
 dsimp only at*
 obtain⟨D,hD⟩:∃D:Int→B,D=fun x=>Lib.decDigits x.toNat:=⟨_,rfl⟩
 have HN:=hid (show ∀(x:Int) (w:World),x∈[(na:Int),(nb:Int),(nc:Int)]→Calls Tryz.prog 89 #[.int .u64 x] w fun e w'=>e= .returned (.string (str (D x)))∧w'=w from fun x w hx=>by
  have key:∀n:Nat,n≤2147483647→Calls Tryz.prog 89 #[.int .u64 (n:Int)] w fun e w'=>e= .returned (.string (str (D (n:Int))))∧w'=w:=fun n hn=>(zcj n w (by omega)).mono fun e w' ⟨he,hw⟩=>⟨by rw[he,hD];simp,hw.symm⟩
  simp only[List.mem_cons,List.mem_nil_iff,or_false] at hx;rcases hx with e|e|e
  · rw[e];exact key na h1
  · rw[e];exact key nb h2
  · rw[e];exact key nc h3)
 have ea:Lib.decDigits na=D na:=by rw[hD];simp
 have eb:Lib.decDigits nb=D nb:=by rw[hD];simp
 have ec:Lib.decDigits nc=D nc:=by rw[hD];simp
 rw[ea] at e1 HTX;rw[eb] at e2 HTX;rw[ec] at e3 HTX;have wa:=wrap_u64 na h1;have wb:=wrap_u64 nb h2;have wc:=wrap_u64 nc h3;have H4:=hid h4;clear h1 h2 h3 h4 ea eb ec hD;generalize (na:Int)=xa at*;generalize (nb:Int)=xb at*;generalize (nc:Int)=xc at*;have a1:∀w,(Op.stringOp .add (str (D xa)) ⟨#[46]⟩).run Tryz.prog w= .ok (.string (str (D xa++ [46]))) w:=fun w=>zbq (D xa) [46] w (by simp;omega)
 have l1:(D xa++ [46]).length≤11:=by simp;omega
 generalize D xa++ [46]=S1 at*;have a2:=fun w=>zbq S1 (D xb) w (by omega)
 have l2:(S1++D xb).length≤21:=by simp;omega
 generalize S1++D xb=S2 at*;have a3:∀w,(Op.stringOp .add (str S2) ⟨#[46]⟩).run Tryz.prog w= .ok (.string (str (S2++ [46]))) w:=fun w=>zbq S2 [46] w (by simp;omega)
 have l3:(S2++ [46]).length≤22:=by simp;omega
 generalize S2++ [46]=S3 at*;have a4:=fun w=>zbq S3 (D xc) w (by omega)
 have hNl:(S3++D xc).length≤32:=by simp;omega
 generalize S3++D xc=N at*;have HS:=hid (zdn p);have HT:=hid hT;have HE:=hid (show preL (p.take p.length)=preL p by rw[List.take_length]);clear hm hT h5;go_enter Tryz.func245,Tryz.ntmps245;go_wp2_with fail;go_quiet ((go_at_call 89;exact Calls.quiet_of_same (HN.out _ _ (by simp))))
 clear a1 a2 a3 a4 HN wa wb wc e1 e2 e3;go_wp2_with fail;go_loop [3,4] (fun s i=>∃k:Nat,k≤p.length∧i= .int .i64 k∧s= .string (str (N++preL (p.take k)))) (fun _ i=>p.length-(intOf i).toNat)
 case atStart=>exact⟨0,Nat.zero_le _,rfl,by simp[preL]⟩
 case round=>
  obtain⟨k,hk,rfl,rfl⟩:=hrel;have hpl:=HP.out k hk;by_cases hlt:k<p.length
  · have hdec:decide (k<p.length)=true:=by simpa using hlt
    have hn:=hid (HS.out k hlt);obtain⟨b,o,rfl,hc⟩:=HT.out.cells (by omega);have hck:=fun O n=>zcy O n (hc k hlt)
    have hsl:=HSL.out (p.getD k []) (by rw[List.getD_eq_getElem?_getD,List.getElem?_eq_getElem hlt];exact List.getElem_mem hlt);clear hc;generalize p.getD k []=s at*;generalize preL (p.take k)=R at*;have hp8:=H4.out;have hUl:(N++R).length≤200:=by simp;omega
    obtain⟨U,hU⟩:∃U,U=N++R:=⟨_,rfl⟩;rw[←hU] at hUl ⊢;have HU:=hid hU;clear hU hpl;by_cases hk0:k=0
    · rw[if_pos hk0] at hn
      have g1:((k:Int) == 0)=true:=by rw[hk0];rfl
      clear hk0;have b1:∀w,(Op.stringOp .add (str U) ⟨#[45]⟩).run Tryz.prog w= .ok (.string (str (U++ [45]))) w:=fun w=>zbq U [45] w (by simp;omega)
      have hVl:(U++ [45]).length≤201:=by simp;omega
      obtain⟨V,hV⟩:∃V,V=U++ [45]:=⟨_,rfl⟩;rw[←hV] at b1 hVl;have HV:=hid hV;clear hV;have b2:=fun w=>zbq V s w (by omega)
      go_wp2_with fail;exact⟨⟨k+1,by omega,by go_num,by rw[hn.out,HV.out,HU.out];simp⟩,by simp[intOf];omega⟩
    · rw[if_neg hk0] at hn
      have g1:((k:Int) == 0)=false:=beq_eq_false_iff_ne.2 (by omega);clear hk0;have b1:∀w,(Op.stringOp .add (str U) ⟨#[46]⟩).run Tryz.prog w= .ok (.string (str (U++ [46]))) w:=fun w=>zbq U [46] w (by simp;omega)
      have hVl:(U++ [46]).length≤201:=by simp;omega
      obtain⟨V,hV⟩:∃V,V=U++ [46]:=⟨_,rfl⟩;rw[←hV] at b1 hVl;have HV:=hid hV;clear hV;have b2:=fun w=>zbq V s w (by omega)
      go_wp2_with fail;exact⟨⟨k+1,by omega,by go_num,by rw[hn.out,HV.out,HU.out];simp⟩,by simp[intOf];omega⟩
  · have hdec:decide (k<p.length)=false:=by simpa using hlt
    have e:p.take k=p:=by rw[List.take_of_length_le (by omega)]
    rw[e];clear e;go_wp2
    go_ret;exact⟨by rw[HTX.out];rfl,(((Gr.refl w).alloc _).drewN _).below⟩
def zsn(x:IvG):Bool:= !x.lo && decide (cmpV x.lv botV=0)
def zso(x:IvG):B:=
 if zsn x && x.e then [42] else if !x.e && decide (cmpV x.lv x.hv=0) then 61 :: text x.lv
 else (if zsn x then [] else (if x.lo then [62] else [62,61])++text x.lv++(if x.e then [] else [32]))++(if x.e then [] else (if x.ho then [60] else [60,61])++text x.hv)
set_option maxRecDepth 100000 in
theorem zsp(x:IvG)(w:World)(hx:TI K w x)(rx:zjz x=true):
 Calls Tryz.prog 217 #[gvV x] w fun e w'=>e= .returned (.string (str (zso x)))∧Below w.heap.size w w':=by
 have hb1:Below w.heap.size w (w.alloc (gvO x)):=(Below.refl _ w).alloc (Nat.le_refl _) _;have hn1:(w.alloc (gvO x)).heap[w.heap.size]?=some (gvO x):=heap_alloc_new w _;obtain⟨m1,m2⟩:=zlh rx;have HV1:=hid (fun w' (g:Below w.heap.size w w')=>zsm x.lv x.la x.lc w' (hx.l.gr g).txs m1);have HV2:=hid (fun w' (g:Below w.heap.size w w')=>zsm x.hv x.ha x.hc w' (hx.h.gr g).txs m2);have HC:=hid (fun w' (g:Below w.heap.size w w')=>zhc x.lv x.hv x.la x.lc x.ha x.hc w' (hx.l.gr g).txs (hx.h.gr g).txs m1 m2);have HCB:=hid (fun w' gg (g:Below w.heap.size w w') (h:TxQ True w' (some ⟨gg,0,none⟩) 1 [nought])=>zhc x.lv botV x.la x.lc (some ⟨gg,0,none⟩) 1 w' (hx.l.gr g).txs h.txs m1 zqy);have t1:=zds m1;have t2:=zds m2;have HW:Hid (zso x=_):=hid (by unfold zso zsn;rfl);have HB1:=hid hb1;have HN1:=hid hn1;obtain⟨q0,q1,q2,q3,q4,q5,q6,q7,q8,q9,q10⟩:=zka hn1;obtain⟨lv,la,lc,lo,hv,ha,hc,ho,xe⟩:=x
 dsimp only at*
 generalize zso _=res at*;generalize text lv=T1 at*;generalize text hv=T2 at*;generalize cmpV lv botV=cb at*;generalize cmpV lv hv=ch at*;clear hx rx hb1 m1 m2;go_enter Tryz.func217,Tryz.ntmps217;go_upto_region 1 with fail
 generalize w.alloc (gvO _)=W at*;go_cut [3] from 5 to 16 (fun v3 wx=>v3= .bool (!lo && decide (cb=0))∧Hid (Below w.heap.size w wx)∧Hid (wx.heap[w.heap.size]?=some (gvO ⟨lv,la,lc,lo,hv,ha,hc,ho,xe⟩)))
 case first=>
  have hlt:w.heap.size<W.heap.size:=(Array.getElem?_eq_some_iff.1 hn1).1;cases lo with
  | true=>
    have k4:=cell_regrown q4;clear q0 q1 q2 q3 q4 q5 q6 q7 q8 q9 q10;go_wp2_with fail;refine wp_region_quiet_below (by kernel_rfl) (by kernel_rfl) ?_
    repeat (first|go_big_quiet_step (fail)|quiet_step (fail))
    refine wpQuiet_nil ?_;intro _ hw';obtain⟨⟨dq,osq⟩,hw''⟩:=hw';subst hw'';have HBQ:=hid (below_regrown W dq osq);clear k4;generalize Go.Sort.grow (redrawn W dq) osq=w5 at*;go_wp2_with fail;go_meet
    case rel=>exact⟨rfl,hid (HB1.out.trans (HBQ.out.mono HB1.out.size)),hid ((HBQ.out.block _ hlt).trans HN1.out)⟩
  | false=>
    have HS:Hid (∀w',Below W.heap.size W w'→w'.cell? ⟨w.heap.size,0,none⟩=some (.int .u32 lv.a)∧w'.cell? ⟨w.heap.size,1,none⟩=some (.int .u32 lv.b)∧w'.cell? ⟨w.heap.size,2,none⟩=some (.int .u32 lv.c)∧w'.cell? ⟨w.heap.size,3,none⟩=some (.slice la lv.pre.length lc)∧w'.cell? ⟨w.heap.size,4,none⟩=some (.bool false)):=hid (fun w' h=>⟨(h.cell hlt).trans q0,(h.cell hlt).trans q1,(h.cell hlt).trans q2,(h.cell hlt).trans q3,(h.cell hlt).trans q4⟩);have HD1:Hid (Below W.heap.size W W.drew):=hid ((Gr.refl W).drew).below;clear q5 q6 q7 q8 q9 q10;go_wp2_with fail
    go_region_held3 (fun w'=>w'.cell? ⟨w.heap.size,0,none⟩=some (.int .u32 lv.a)∧w'.cell? ⟨w.heap.size,1,none⟩=some (.int .u32 lv.b)∧w'.cell? ⟨w.heap.size,2,none⟩=some (.int .u32 lv.c)∧w'.cell? ⟨w.heap.size,3,none⟩=some (.slice la lv.pre.length lc)∧w'.cell? ⟨w.heap.size,4,none⟩=some (.bool false))
     (first|exact⟨q0,q1,q2,q3,q4⟩|assumption)
     (first
       | (go_at_call 244;refine(zqz (K:=True) W.drew).mono ?_;rintro e w2 ⟨g,rfl,hT2,hb2⟩;have HT2:=hid hT2;have HB2:Hid (Below W.heap.size W w2):=hid (HD1.out.trans (hb2.mono HD1.out.size));have hS2:=HS.out w2 HB2.out;clear hT2 hb2)
       | (go_at_call 243;refine(HCB.out w2 g (HB1.out.trans (HB2.out.mono HB1.out.size)) HT2.out).mono ?_;rintro e w3 ⟨rfl,hb3⟩;have HB3:Hid (Below W.heap.size W w3):=hid (HB2.out.trans (hb3.mono HB2.out.size));have hS3:=HS.out w3 HB3.out;clear hb3))
    all_goals
     clear hS2 hS3;go_wp2_with fail;go_meet
     case rel=>exact⟨by simp[Bool.beq_eq_decide_eq],hid (HB1.out.trans (HB3.out.mono HB1.out.size)),hid ((HB3.out.block _ hlt).trans HN1.out)⟩
 case rest=>
  obtain⟨rfl,HB_wc,HN⟩:=hcut;have hn_wc:=HN.out;clear q0 q1 q2 q3 q4 q5 q6 q7 q8 q9 q10 HCB HN HN1 HB1 hn1;obtain⟨q0,q1,q2,q3,q4,q5,q6,q7,q8,q9,q10⟩:=zka hn_wc;have hlw:w.heap.size<wc.heap.size:=(Array.getElem?_eq_some_iff.1 hn_wc).1;have HN_wc:=hid hn_wc;clear hn_wc;by_cases hcb:cb=0
  · subst hcb
    cases lo with
    | false=>
      cases xe with
      | true=>
        have HR:Hid (res=[42]):=hid (by rw[HW.out];simp);clear HW;go_wp2_with fail;go_ret;exact⟨by rw[HR.out];rfl,HB_wc.out⟩
      | false=>
        by_cases hch:ch=0
        · subst hch
          have a1:∀w,(Op.stringOp .add ⟨#[61]⟩ (str T1)).run Tryz.prog w= .ok (.string (str ([61]++T1))) w:=fun w=>zbq [61] T1 w (by first | (simp;done) | (simp;omega)|omega)
          have HR:Hid (res=61 :: T1):=hid (by rw[HW.out];simp[]);clear HW
          go_wp2_with (first
           | (go_at_call 243;refine(HC.out _ HB_wc.out).mono ?_;rintro e wd ⟨rfl,hbd⟩;have HB_wd:=hid (HB_wc.out.trans (hbd.mono HB_wc.out.size));have hn_wd:=(hbd.block _ hlw).trans HN_wc.out;clear hbd q0 q1 q2 q3 q4 q5 q6 q7 q8 q9 q10;obtain⟨q0,q1,q2,q3,q4,q5,q6,q7,q8,q9,q10⟩:=zka hn_wd;clear hn_wd)
           | (go_at_call 245;refine(HV1.out _ HB_wd.out).mono ?_;rintro e we ⟨rfl,hbe⟩;have HB_we:=hid (HB_wd.out.trans (hbe.mono HB_wd.out.size));clear hbe))
          go_ret;exact⟨by rw[HR.out];rfl,HB_we.out⟩
        · have dch:(ch == 0)=false:=beq_eq_false_iff_ne.2 hch
          have dch2:decide (ch=0)=false:=decide_eq_false hch;rw[dch2] at HW;clear hch dch2;cases ho with
          | true=>
            have b0:∀w,(Op.stringOp .add ⟨#[]⟩ ⟨#[60]⟩).run Tryz.prog w= .ok (.string ⟨#[60]⟩) w:=fun w=>zbq [] [60] w (by simp)
            have a5:∀w,(Op.stringOp .add ⟨#[60]⟩ (str T2)).run Tryz.prog w= .ok (.string (str ([60]++T2))) w:=fun w=>zbq [60] T2 w (by first | (simp;done) | (simp;omega))
            have HR:Hid (res=[60]++T2):=hid (by rw[HW.out];simp);clear HW;go_wp2_with (go_at_call 243;refine(HC.out _ HB_wc.out).mono ?_;rintro e wd ⟨rfl,hbd⟩;refine Hid.out ?_)
            refine hid ?_;have HB_wd:=hid (HB_wc.out.trans (hbd.mono HB_wc.out.size));have hn_wd:=(hbd.block _ hlw).trans HN_wc.out;have HN_wd:=hid hn_wd;clear hbd q0 q1 q2 q3 q4 q5 q6 q7 q8 q9 q10;obtain⟨q0,q1,q2,q3,q4,q5,q6,q7,q8,q9,q10⟩:=zka hn_wd;clear hn_wd;go_wp2_with (go_at_call 245;refine(HV2.out _ HB_wd.out).mono ?_;rintro e wz ⟨rfl,hbq⟩;refine Hid.out ?_)
            refine hid ?_;have HB_wz:=hid (HB_wd.out.trans (hbq.mono HB_wd.out.size));have hn_wz:=(hbq.block _ (Array.getElem?_eq_some_iff.1 HN_wd.out).1).trans HN_wd.out;have HN_wz:=hid hn_wz;clear hbq q0 q1 q2 q3 q4 q5 q6 q7 q8 q9 q10;obtain⟨q0,q1,q2,q3,q4,q5,q6,q7,q8,q9,q10⟩:=zka hn_wz;clear hn_wz;go_wp2_with fail;go_ret;exact⟨by rw[HR.out];rfl,HB_wz.out⟩
          | false=>
            have b0:∀w,(Op.stringOp .add ⟨#[]⟩ ⟨#[60]⟩).run Tryz.prog w= .ok (.string ⟨#[60]⟩) w:=fun w=>zbq [] [60] w (by simp)
            have b1:∀w,(Op.stringOp .add ⟨#[60]⟩ ⟨#[61]⟩).run Tryz.prog w= .ok (.string ⟨#[60,61]⟩) w:=fun w=>zbq [60] [61] w (by simp)
            have a5:∀w,(Op.stringOp .add ⟨#[60,61]⟩ (str T2)).run Tryz.prog w= .ok (.string (str ([60,61]++T2))) w:=fun w=>zbq [60,61] T2 w (by first | (simp;done) | (simp;omega))
            have HR:Hid (res=[60,61]++T2):=hid (by rw[HW.out];simp);clear HW;go_wp2_with (go_at_call 243;refine(HC.out _ HB_wc.out).mono ?_;rintro e wd ⟨rfl,hbd⟩;refine Hid.out ?_)
            refine hid ?_;have HB_wd:=hid (HB_wc.out.trans (hbd.mono HB_wc.out.size));have hn_wd:=(hbd.block _ hlw).trans HN_wc.out;have HN_wd:=hid hn_wd;clear hbd q0 q1 q2 q3 q4 q5 q6 q7 q8 q9 q10;obtain⟨q0,q1,q2,q3,q4,q5,q6,q7,q8,q9,q10⟩:=zka hn_wd;clear hn_wd;go_wp2_with (go_at_call 245;refine(HV2.out _ HB_wd.out).mono ?_;rintro e wz ⟨rfl,hbq⟩;refine Hid.out ?_)
            refine hid ?_;have HB_wz:=hid (HB_wd.out.trans (hbq.mono HB_wd.out.size));have hn_wz:=(hbq.block _ (Array.getElem?_eq_some_iff.1 HN_wd.out).1).trans HN_wd.out;have HN_wz:=hid hn_wz;clear hbq q0 q1 q2 q3 q4 q5 q6 q7 q8 q9 q10;obtain⟨q0,q1,q2,q3,q4,q5,q6,q7,q8,q9,q10⟩:=zka hn_wz;clear hn_wz;go_wp2_with fail;go_ret;exact⟨by rw[HR.out];rfl,HB_wz.out⟩
    | true=>
      cases xe with
      | true=>
        have a1:∀w,(Op.stringOp .add ⟨#[62]⟩ (str T1)).run Tryz.prog w= .ok (.string (str ([62]++T1))) w:=fun w=>zbq [62] T1 w (by first | (simp;done) | (simp;omega)|omega)
        have lG1:([62]++T1).length≤202:=by first | (simp;done) | (simp;omega)
        obtain⟨G1,hG1⟩:∃G1,G1=[62]++T1:=⟨_,rfl⟩;rw[←hG1] at lG1;rw[←hG1] at a1;have HR:Hid (res=G1):=hid (by rw[HW.out,hG1];simp);clear hG1;clear HW;go_wp2_with (go_at_call 245;refine(HV1.out _ HB_wc.out).mono ?_;rintro e wv ⟨rfl,hbq⟩;refine Hid.out ?_)
        refine hid ?_;have HB_wv:=hid (HB_wc.out.trans (hbq.mono HB_wc.out.size));have hn_wv:=(hbq.block _ (Array.getElem?_eq_some_iff.1 HN_wc.out).1).trans HN_wc.out;have HN_wv:=hid hn_wv;clear hbq q0 q1 q2 q3 q4 q5 q6 q7 q8 q9 q10;obtain⟨q0,q1,q2,q3,q4,q5,q6,q7,q8,q9,q10⟩:=zka hn_wv;clear hn_wv;go_wp2_with fail;go_ret;exact⟨by rw[HR.out];rfl,HB_wv.out⟩
      | false=>
        by_cases hch:ch=0
        · subst hch
          have a1:∀w,(Op.stringOp .add ⟨#[61]⟩ (str T1)).run Tryz.prog w= .ok (.string (str ([61]++T1))) w:=fun w=>zbq [61] T1 w (by first | (simp;done) | (simp;omega)|omega)
          have HR:Hid (res=61 :: T1):=hid (by rw[HW.out];simp[]);clear HW
          go_wp2_with (first
           | (go_at_call 243;refine(HC.out _ HB_wc.out).mono ?_;rintro e wd ⟨rfl,hbd⟩;have HB_wd:=hid (HB_wc.out.trans (hbd.mono HB_wc.out.size));have hn_wd:=(hbd.block _ hlw).trans HN_wc.out;clear hbd q0 q1 q2 q3 q4 q5 q6 q7 q8 q9 q10;obtain⟨q0,q1,q2,q3,q4,q5,q6,q7,q8,q9,q10⟩:=zka hn_wd;clear hn_wd)
           | (go_at_call 245;refine(HV1.out _ HB_wd.out).mono ?_;rintro e we ⟨rfl,hbe⟩;have HB_we:=hid (HB_wd.out.trans (hbe.mono HB_wd.out.size));clear hbe))
          go_ret;exact⟨by rw[HR.out];rfl,HB_we.out⟩
        · have dch:(ch == 0)=false:=beq_eq_false_iff_ne.2 hch
          have dch2:decide (ch=0)=false:=decide_eq_false hch;rw[dch2] at HW;clear hch dch2;cases ho with
          | true=>
            have a1:∀w,(Op.stringOp .add ⟨#[62]⟩ (str T1)).run Tryz.prog w= .ok (.string (str ([62]++T1))) w:=fun w=>zbq [62] T1 w (by first | (simp;done) | (simp;omega)|omega)
            have lG1:([62]++T1).length≤202:=by first | (simp;done) | (simp;omega)
            obtain⟨G1,hG1⟩:∃G1,G1=[62]++T1:=⟨_,rfl⟩;rw[←hG1] at lG1;rw[←hG1] at a1;have a2:∀w,(Op.stringOp .add (str G1) ⟨#[32]⟩).run Tryz.prog w= .ok (.string (str (G1++ [32]))) w:=fun w=>zbq G1 [32] w (by first | (simp;done) | (simp;omega)|omega)
            have lG2:(G1++ [32]).length≤203:=by first | (simp;done) | (simp;omega)
            obtain⟨G2,hG2⟩:∃G2,G2=G1++ [32]:=⟨_,rfl⟩;rw[←hG2] at lG2;rw[←hG2] at a2;have a3:∀w,(Op.stringOp .add (str G2) ⟨#[60]⟩).run Tryz.prog w= .ok (.string (str (G2++ [60]))) w:=fun w=>zbq G2 [60] w (by first | (simp;done) | (simp;omega)|omega)
            have lG3:(G2++ [60]).length≤204:=by first | (simp;done) | (simp;omega)
            obtain⟨G3,hG3⟩:∃G3,G3=G2++ [60]:=⟨_,rfl⟩;rw[←hG3] at lG3;rw[←hG3] at a3;have a5:∀w,(Op.stringOp .add (str G3) (str T2)).run Tryz.prog w= .ok (.string (str (G3++T2))) w:=fun w=>zbq G3 T2 w (by first | (simp;done) | (simp;omega)|omega)
            have lG5:(G3++T2).length≤404:=by first | (simp;done) | (simp;omega)
            obtain⟨G5,hG5⟩:∃G5,G5=G3++T2:=⟨_,rfl⟩;rw[←hG5] at lG5;rw[←hG5] at a5;have HR:Hid (res=G5):=hid (by rw[HW.out,hG5,hG3,hG2,hG1];simp);clear hG5;clear hG3;clear hG2;clear hG1;clear HW;go_wp2_with (go_at_call 243;refine(HC.out _ HB_wc.out).mono ?_;rintro e wd ⟨rfl,hbd⟩;refine Hid.out ?_)
            refine hid ?_;have HB_wd:=hid (HB_wc.out.trans (hbd.mono HB_wc.out.size));have hn_wd:=(hbd.block _ hlw).trans HN_wc.out;have HN_wd:=hid hn_wd;clear hbd q0 q1 q2 q3 q4 q5 q6 q7 q8 q9 q10;obtain⟨q0,q1,q2,q3,q4,q5,q6,q7,q8,q9,q10⟩:=zka hn_wd;clear hn_wd;go_wp2_with (go_at_call 245;refine(HV1.out _ HB_wd.out).mono ?_;rintro e wv ⟨rfl,hbq⟩;refine Hid.out ?_)
            refine hid ?_;have HB_wv:=hid (HB_wd.out.trans (hbq.mono HB_wd.out.size));have hn_wv:=(hbq.block _ (Array.getElem?_eq_some_iff.1 HN_wd.out).1).trans HN_wd.out;have HN_wv:=hid hn_wv;clear hbq q0 q1 q2 q3 q4 q5 q6 q7 q8 q9 q10;obtain⟨q0,q1,q2,q3,q4,q5,q6,q7,q8,q9,q10⟩:=zka hn_wv;clear hn_wv;go_wp2_with (go_at_call 245;refine(HV2.out _ HB_wv.out).mono ?_;rintro e wz ⟨rfl,hbq⟩;refine Hid.out ?_)
            refine hid ?_;have HB_wz:=hid (HB_wv.out.trans (hbq.mono HB_wv.out.size));have hn_wz:=(hbq.block _ (Array.getElem?_eq_some_iff.1 HN_wv.out).1).trans HN_wv.out;have HN_wz:=hid hn_wz;clear hbq q0 q1 q2 q3 q4 q5 q6 q7 q8 q9 q10;obtain⟨q0,q1,q2,q3,q4,q5,q6,q7,q8,q9,q10⟩:=zka hn_wz;clear hn_wz;go_wp2_with fail;go_ret;exact⟨by rw[HR.out];rfl,HB_wz.out⟩
          | false=>
            have a1:∀w,(Op.stringOp .add ⟨#[62]⟩ (str T1)).run Tryz.prog w= .ok (.string (str ([62]++T1))) w:=fun w=>zbq [62] T1 w (by first | (simp;done) | (simp;omega)|omega)
            have lG1:([62]++T1).length≤202:=by first | (simp;done) | (simp;omega)
            obtain⟨G1,hG1⟩:∃G1,G1=[62]++T1:=⟨_,rfl⟩;rw[←hG1] at lG1;rw[←hG1] at a1;have a2:∀w,(Op.stringOp .add (str G1) ⟨#[32]⟩).run Tryz.prog w= .ok (.string (str (G1++ [32]))) w:=fun w=>zbq G1 [32] w (by first | (simp;done) | (simp;omega)|omega)
            have lG2:(G1++ [32]).length≤203:=by first | (simp;done) | (simp;omega)
            obtain⟨G2,hG2⟩:∃G2,G2=G1++ [32]:=⟨_,rfl⟩;rw[←hG2] at lG2;rw[←hG2] at a2;have a3:∀w,(Op.stringOp .add (str G2) ⟨#[60]⟩).run Tryz.prog w= .ok (.string (str (G2++ [60]))) w:=fun w=>zbq G2 [60] w (by first | (simp;done) | (simp;omega)|omega)
            have lG3:(G2++ [60]).length≤204:=by first | (simp;done) | (simp;omega)
            obtain⟨G3,hG3⟩:∃G3,G3=G2++ [60]:=⟨_,rfl⟩;rw[←hG3] at lG3;rw[←hG3] at a3;have a4:∀w,(Op.stringOp .add (str G3) ⟨#[61]⟩).run Tryz.prog w= .ok (.string (str (G3++ [61]))) w:=fun w=>zbq G3 [61] w (by first | (simp;done) | (simp;omega)|omega)
            have lG4:(G3++ [61]).length≤205:=by first | (simp;done) | (simp;omega)
            obtain⟨G4,hG4⟩:∃G4,G4=G3++ [61]:=⟨_,rfl⟩;rw[←hG4] at lG4;rw[←hG4] at a4;have a5:∀w,(Op.stringOp .add (str G4) (str T2)).run Tryz.prog w= .ok (.string (str (G4++T2))) w:=fun w=>zbq G4 T2 w (by first | (simp;done) | (simp;omega)|omega)
            have lG5:(G4++T2).length≤405:=by first | (simp;done) | (simp;omega)
            obtain⟨G5,hG5⟩:∃G5,G5=G4++T2:=⟨_,rfl⟩;rw[←hG5] at lG5;rw[←hG5] at a5;have HR:Hid (res=G5):=hid (by rw[HW.out,hG5,hG4,hG3,hG2,hG1];simp);clear hG5;clear hG4;clear hG3;clear hG2;clear hG1;clear HW;go_wp2_with (go_at_call 243;refine(HC.out _ HB_wc.out).mono ?_;rintro e wd ⟨rfl,hbd⟩;refine Hid.out ?_)
            refine hid ?_;have HB_wd:=hid (HB_wc.out.trans (hbd.mono HB_wc.out.size));have hn_wd:=(hbd.block _ hlw).trans HN_wc.out;have HN_wd:=hid hn_wd;clear hbd q0 q1 q2 q3 q4 q5 q6 q7 q8 q9 q10;obtain⟨q0,q1,q2,q3,q4,q5,q6,q7,q8,q9,q10⟩:=zka hn_wd;clear hn_wd;go_wp2_with (go_at_call 245;refine(HV1.out _ HB_wd.out).mono ?_;rintro e wv ⟨rfl,hbq⟩;refine Hid.out ?_)
            refine hid ?_;have HB_wv:=hid (HB_wd.out.trans (hbq.mono HB_wd.out.size));have hn_wv:=(hbq.block _ (Array.getElem?_eq_some_iff.1 HN_wd.out).1).trans HN_wd.out;have HN_wv:=hid hn_wv;clear hbq q0 q1 q2 q3 q4 q5 q6 q7 q8 q9 q10;obtain⟨q0,q1,q2,q3,q4,q5,q6,q7,q8,q9,q10⟩:=zka hn_wv;clear hn_wv;go_wp2_with (go_at_call 245;refine(HV2.out _ HB_wv.out).mono ?_;rintro e wz ⟨rfl,hbq⟩;refine Hid.out ?_)
            refine hid ?_;have HB_wz:=hid (HB_wv.out.trans (hbq.mono HB_wv.out.size));have hn_wz:=(hbq.block _ (Array.getElem?_eq_some_iff.1 HN_wv.out).1).trans HN_wv.out;have HN_wz:=hid hn_wz;clear hbq q0 q1 q2 q3 q4 q5 q6 q7 q8 q9 q10;obtain⟨q0,q1,q2,q3,q4,q5,q6,q7,q8,q9,q10⟩:=zka hn_wz;clear hn_wz;go_wp2_with fail;go_ret;exact⟨by rw[HR.out];rfl,HB_wz.out⟩
  · have dcb:decide (cb=0)=false:=decide_eq_false hcb
    rw[dcb] at HW ⊢;clear hcb dcb;cases lo with
    | false=>
      cases xe with
      | true=>
        have a1:∀w,(Op.stringOp .add ⟨#[62,61]⟩ (str T1)).run Tryz.prog w= .ok (.string (str ([62,61]++T1))) w:=fun w=>zbq [62,61] T1 w (by first | (simp;done) | (simp;omega)|omega)
        have lG1:([62,61]++T1).length≤202:=by first | (simp;done) | (simp;omega)
        obtain⟨G1,hG1⟩:∃G1,G1=[62,61]++T1:=⟨_,rfl⟩;rw[←hG1] at lG1;rw[←hG1] at a1;have HR:Hid (res=G1):=hid (by rw[HW.out,hG1];simp);clear hG1;clear HW;go_wp2_with (go_at_call 245;refine(HV1.out _ HB_wc.out).mono ?_;rintro e wv ⟨rfl,hbq⟩;refine Hid.out ?_)
        refine hid ?_;have HB_wv:=hid (HB_wc.out.trans (hbq.mono HB_wc.out.size));have hn_wv:=(hbq.block _ (Array.getElem?_eq_some_iff.1 HN_wc.out).1).trans HN_wc.out;have HN_wv:=hid hn_wv;clear hbq q0 q1 q2 q3 q4 q5 q6 q7 q8 q9 q10;obtain⟨q0,q1,q2,q3,q4,q5,q6,q7,q8,q9,q10⟩:=zka hn_wv;clear hn_wv;go_wp2_with fail;go_ret;exact⟨by rw[HR.out];rfl,HB_wv.out⟩
      | false=>
        by_cases hch:ch=0
        · subst hch
          have a1:∀w,(Op.stringOp .add ⟨#[61]⟩ (str T1)).run Tryz.prog w= .ok (.string (str ([61]++T1))) w:=fun w=>zbq [61] T1 w (by first | (simp;done) | (simp;omega)|omega)
          have HR:Hid (res=61 :: T1):=hid (by rw[HW.out];simp[]);clear HW
          go_wp2_with (first
           | (go_at_call 243;refine(HC.out _ HB_wc.out).mono ?_;rintro e wd ⟨rfl,hbd⟩;have HB_wd:=hid (HB_wc.out.trans (hbd.mono HB_wc.out.size));have hn_wd:=(hbd.block _ hlw).trans HN_wc.out;clear hbd q0 q1 q2 q3 q4 q5 q6 q7 q8 q9 q10;obtain⟨q0,q1,q2,q3,q4,q5,q6,q7,q8,q9,q10⟩:=zka hn_wd;clear hn_wd)
           | (go_at_call 245;refine(HV1.out _ HB_wd.out).mono ?_;rintro e we ⟨rfl,hbe⟩;have HB_we:=hid (HB_wd.out.trans (hbe.mono HB_wd.out.size));clear hbe))
          go_ret;exact⟨by rw[HR.out];rfl,HB_we.out⟩
        · have dch:(ch == 0)=false:=beq_eq_false_iff_ne.2 hch
          have dch2:decide (ch=0)=false:=decide_eq_false hch;rw[dch2] at HW;clear hch dch2;cases ho with
          | true=>
            have a1:∀w,(Op.stringOp .add ⟨#[62,61]⟩ (str T1)).run Tryz.prog w= .ok (.string (str ([62,61]++T1))) w:=fun w=>zbq [62,61] T1 w (by first | (simp;done) | (simp;omega)|omega)
            have lG1:([62,61]++T1).length≤202:=by first | (simp;done) | (simp;omega)
            obtain⟨G1,hG1⟩:∃G1,G1=[62,61]++T1:=⟨_,rfl⟩;rw[←hG1] at lG1;rw[←hG1] at a1;have a2:∀w,(Op.stringOp .add (str G1) ⟨#[32]⟩).run Tryz.prog w= .ok (.string (str (G1++ [32]))) w:=fun w=>zbq G1 [32] w (by first | (simp;done) | (simp;omega)|omega)
            have lG2:(G1++ [32]).length≤203:=by first | (simp;done) | (simp;omega)
            obtain⟨G2,hG2⟩:∃G2,G2=G1++ [32]:=⟨_,rfl⟩;rw[←hG2] at lG2;rw[←hG2] at a2;have a3:∀w,(Op.stringOp .add (str G2) ⟨#[60]⟩).run Tryz.prog w= .ok (.string (str (G2++ [60]))) w:=fun w=>zbq G2 [60] w (by first | (simp;done) | (simp;omega)|omega)
            have lG3:(G2++ [60]).length≤204:=by first | (simp;done) | (simp;omega)
            obtain⟨G3,hG3⟩:∃G3,G3=G2++ [60]:=⟨_,rfl⟩;rw[←hG3] at lG3;rw[←hG3] at a3;have a5:∀w,(Op.stringOp .add (str G3) (str T2)).run Tryz.prog w= .ok (.string (str (G3++T2))) w:=fun w=>zbq G3 T2 w (by first | (simp;done) | (simp;omega)|omega)
            have lG5:(G3++T2).length≤404:=by first | (simp;done) | (simp;omega)
            obtain⟨G5,hG5⟩:∃G5,G5=G3++T2:=⟨_,rfl⟩;rw[←hG5] at lG5;rw[←hG5] at a5;have HR:Hid (res=G5):=hid (by rw[HW.out,hG5,hG3,hG2,hG1];simp);clear hG5;clear hG3;clear hG2;clear hG1;clear HW;go_wp2_with (go_at_call 243;refine(HC.out _ HB_wc.out).mono ?_;rintro e wd ⟨rfl,hbd⟩;refine Hid.out ?_)
            refine hid ?_;have HB_wd:=hid (HB_wc.out.trans (hbd.mono HB_wc.out.size));have hn_wd:=(hbd.block _ hlw).trans HN_wc.out;have HN_wd:=hid hn_wd;clear hbd q0 q1 q2 q3 q4 q5 q6 q7 q8 q9 q10;obtain⟨q0,q1,q2,q3,q4,q5,q6,q7,q8,q9,q10⟩:=zka hn_wd;clear hn_wd;go_wp2_with (go_at_call 245;refine(HV1.out _ HB_wd.out).mono ?_;rintro e wv ⟨rfl,hbq⟩;refine Hid.out ?_)
            refine hid ?_;have HB_wv:=hid (HB_wd.out.trans (hbq.mono HB_wd.out.size));have hn_wv:=(hbq.block _ (Array.getElem?_eq_some_iff.1 HN_wd.out).1).trans HN_wd.out;have HN_wv:=hid hn_wv;clear hbq q0 q1 q2 q3 q4 q5 q6 q7 q8 q9 q10;obtain⟨q0,q1,q2,q3,q4,q5,q6,q7,q8,q9,q10⟩:=zka hn_wv;clear hn_wv;go_wp2_with (go_at_call 245;refine(HV2.out _ HB_wv.out).mono ?_;rintro e wz ⟨rfl,hbq⟩;refine Hid.out ?_)
            refine hid ?_;have HB_wz:=hid (HB_wv.out.trans (hbq.mono HB_wv.out.size));have hn_wz:=(hbq.block _ (Array.getElem?_eq_some_iff.1 HN_wv.out).1).trans HN_wv.out;have HN_wz:=hid hn_wz;clear hbq q0 q1 q2 q3 q4 q5 q6 q7 q8 q9 q10;obtain⟨q0,q1,q2,q3,q4,q5,q6,q7,q8,q9,q10⟩:=zka hn_wz;clear hn_wz;go_wp2_with fail;go_ret;exact⟨by rw[HR.out];rfl,HB_wz.out⟩
          | false=>
            have a1:∀w,(Op.stringOp .add ⟨#[62,61]⟩ (str T1)).run Tryz.prog w= .ok (.string (str ([62,61]++T1))) w:=fun w=>zbq [62,61] T1 w (by first | (simp;done) | (simp;omega)|omega)
            have lG1:([62,61]++T1).length≤202:=by first | (simp;done) | (simp;omega)
            obtain⟨G1,hG1⟩:∃G1,G1=[62,61]++T1:=⟨_,rfl⟩;rw[←hG1] at lG1;rw[←hG1] at a1;have a2:∀w,(Op.stringOp .add (str G1) ⟨#[32]⟩).run Tryz.prog w= .ok (.string (str (G1++ [32]))) w:=fun w=>zbq G1 [32] w (by first | (simp;done) | (simp;omega)|omega)
            have lG2:(G1++ [32]).length≤203:=by first | (simp;done) | (simp;omega)
            obtain⟨G2,hG2⟩:∃G2,G2=G1++ [32]:=⟨_,rfl⟩;rw[←hG2] at lG2;rw[←hG2] at a2;have a3:∀w,(Op.stringOp .add (str G2) ⟨#[60]⟩).run Tryz.prog w= .ok (.string (str (G2++ [60]))) w:=fun w=>zbq G2 [60] w (by first | (simp;done) | (simp;omega)|omega)
            have lG3:(G2++ [60]).length≤204:=by first | (simp;done) | (simp;omega)
            obtain⟨G3,hG3⟩:∃G3,G3=G2++ [60]:=⟨_,rfl⟩;rw[←hG3] at lG3;rw[←hG3] at a3;have a4:∀w,(Op.stringOp .add (str G3) ⟨#[61]⟩).run Tryz.prog w= .ok (.string (str (G3++ [61]))) w:=fun w=>zbq G3 [61] w (by first | (simp;done) | (simp;omega)|omega)
            have lG4:(G3++ [61]).length≤205:=by first | (simp;done) | (simp;omega)
            obtain⟨G4,hG4⟩:∃G4,G4=G3++ [61]:=⟨_,rfl⟩;rw[←hG4] at lG4;rw[←hG4] at a4;have a5:∀w,(Op.stringOp .add (str G4) (str T2)).run Tryz.prog w= .ok (.string (str (G4++T2))) w:=fun w=>zbq G4 T2 w (by first | (simp;done) | (simp;omega)|omega)
            have lG5:(G4++T2).length≤405:=by first | (simp;done) | (simp;omega)
            obtain⟨G5,hG5⟩:∃G5,G5=G4++T2:=⟨_,rfl⟩;rw[←hG5] at lG5;rw[←hG5] at a5;have HR:Hid (res=G5):=hid (by rw[HW.out,hG5,hG4,hG3,hG2,hG1];simp);clear hG5;clear hG4;clear hG3;clear hG2;clear hG1;clear HW;go_wp2_with (go_at_call 243;refine(HC.out _ HB_wc.out).mono ?_;rintro e wd ⟨rfl,hbd⟩;refine Hid.out ?_)
            refine hid ?_;have HB_wd:=hid (HB_wc.out.trans (hbd.mono HB_wc.out.size));have hn_wd:=(hbd.block _ hlw).trans HN_wc.out;have HN_wd:=hid hn_wd;clear hbd q0 q1 q2 q3 q4 q5 q6 q7 q8 q9 q10;obtain⟨q0,q1,q2,q3,q4,q5,q6,q7,q8,q9,q10⟩:=zka hn_wd;clear hn_wd;go_wp2_with (go_at_call 245;refine(HV1.out _ HB_wd.out).mono ?_;rintro e wv ⟨rfl,hbq⟩;refine Hid.out ?_)
            refine hid ?_;have HB_wv:=hid (HB_wd.out.trans (hbq.mono HB_wd.out.size));have hn_wv:=(hbq.block _ (Array.getElem?_eq_some_iff.1 HN_wd.out).1).trans HN_wd.out;have HN_wv:=hid hn_wv;clear hbq q0 q1 q2 q3 q4 q5 q6 q7 q8 q9 q10;obtain⟨q0,q1,q2,q3,q4,q5,q6,q7,q8,q9,q10⟩:=zka hn_wv;clear hn_wv;go_wp2_with (go_at_call 245;refine(HV2.out _ HB_wv.out).mono ?_;rintro e wz ⟨rfl,hbq⟩;refine Hid.out ?_)
            refine hid ?_;have HB_wz:=hid (HB_wv.out.trans (hbq.mono HB_wv.out.size));have hn_wz:=(hbq.block _ (Array.getElem?_eq_some_iff.1 HN_wv.out).1).trans HN_wv.out;have HN_wz:=hid hn_wz;clear hbq q0 q1 q2 q3 q4 q5 q6 q7 q8 q9 q10;obtain⟨q0,q1,q2,q3,q4,q5,q6,q7,q8,q9,q10⟩:=zka hn_wz;clear hn_wz;go_wp2_with fail;go_ret;exact⟨by rw[HR.out];rfl,HB_wz.out⟩
    | true=>
      cases xe with
      | true=>
        have a1:∀w,(Op.stringOp .add ⟨#[62]⟩ (str T1)).run Tryz.prog w= .ok (.string (str ([62]++T1))) w:=fun w=>zbq [62] T1 w (by first | (simp;done) | (simp;omega)|omega)
        have lG1:([62]++T1).length≤202:=by first | (simp;done) | (simp;omega)
        obtain⟨G1,hG1⟩:∃G1,G1=[62]++T1:=⟨_,rfl⟩;rw[←hG1] at lG1;rw[←hG1] at a1;have HR:Hid (res=G1):=hid (by rw[HW.out,hG1];simp);clear hG1;clear HW;go_wp2_with (go_at_call 245;refine(HV1.out _ HB_wc.out).mono ?_;rintro e wv ⟨rfl,hbq⟩;refine Hid.out ?_)
        refine hid ?_;have HB_wv:=hid (HB_wc.out.trans (hbq.mono HB_wc.out.size));have hn_wv:=(hbq.block _ (Array.getElem?_eq_some_iff.1 HN_wc.out).1).trans HN_wc.out;have HN_wv:=hid hn_wv;clear hbq q0 q1 q2 q3 q4 q5 q6 q7 q8 q9 q10;obtain⟨q0,q1,q2,q3,q4,q5,q6,q7,q8,q9,q10⟩:=zka hn_wv;clear hn_wv;go_wp2_with fail;go_ret;exact⟨by rw[HR.out];rfl,HB_wv.out⟩
      | false=>
        by_cases hch:ch=0
        · subst hch
          have a1:∀w,(Op.stringOp .add ⟨#[61]⟩ (str T1)).run Tryz.prog w= .ok (.string (str ([61]++T1))) w:=fun w=>zbq [61] T1 w (by first | (simp;done) | (simp;omega)|omega)
          have HR:Hid (res=61 :: T1):=hid (by rw[HW.out];simp[]);clear HW
          go_wp2_with (first
           | (go_at_call 243;refine(HC.out _ HB_wc.out).mono ?_;rintro e wd ⟨rfl,hbd⟩;have HB_wd:=hid (HB_wc.out.trans (hbd.mono HB_wc.out.size));have hn_wd:=(hbd.block _ hlw).trans HN_wc.out;clear hbd q0 q1 q2 q3 q4 q5 q6 q7 q8 q9 q10;obtain⟨q0,q1,q2,q3,q4,q5,q6,q7,q8,q9,q10⟩:=zka hn_wd;clear hn_wd)
           | (go_at_call 245;refine(HV1.out _ HB_wd.out).mono ?_;rintro e we ⟨rfl,hbe⟩;have HB_we:=hid (HB_wd.out.trans (hbe.mono HB_wd.out.size));clear hbe))
          go_ret;exact⟨by rw[HR.out];rfl,HB_we.out⟩
        · have dch:(ch == 0)=false:=beq_eq_false_iff_ne.2 hch
          have dch2:decide (ch=0)=false:=decide_eq_false hch;rw[dch2] at HW;clear hch dch2;cases ho with
          | true=>
            have a1:∀w,(Op.stringOp .add ⟨#[62]⟩ (str T1)).run Tryz.prog w= .ok (.string (str ([62]++T1))) w:=fun w=>zbq [62] T1 w (by first | (simp;done) | (simp;omega)|omega)
            have lG1:([62]++T1).length≤202:=by first | (simp;done) | (simp;omega)
            obtain⟨G1,hG1⟩:∃G1,G1=[62]++T1:=⟨_,rfl⟩;rw[←hG1] at lG1;rw[←hG1] at a1;have a2:∀w,(Op.stringOp .add (str G1) ⟨#[32]⟩).run Tryz.prog w= .ok (.string (str (G1++ [32]))) w:=fun w=>zbq G1 [32] w (by first | (simp;done) | (simp;omega)|omega)
            have lG2:(G1++ [32]).length≤203:=by first | (simp;done) | (simp;omega)
            obtain⟨G2,hG2⟩:∃G2,G2=G1++ [32]:=⟨_,rfl⟩;rw[←hG2] at lG2;rw[←hG2] at a2;have a3:∀w,(Op.stringOp .add (str G2) ⟨#[60]⟩).run Tryz.prog w= .ok (.string (str (G2++ [60]))) w:=fun w=>zbq G2 [60] w (by first | (simp;done) | (simp;omega)|omega)
            have lG3:(G2++ [60]).length≤204:=by first | (simp;done) | (simp;omega)
            obtain⟨G3,hG3⟩:∃G3,G3=G2++ [60]:=⟨_,rfl⟩;rw[←hG3] at lG3;rw[←hG3] at a3;have a5:∀w,(Op.stringOp .add (str G3) (str T2)).run Tryz.prog w= .ok (.string (str (G3++T2))) w:=fun w=>zbq G3 T2 w (by first | (simp;done) | (simp;omega)|omega)
            have lG5:(G3++T2).length≤404:=by first | (simp;done) | (simp;omega)
            obtain⟨G5,hG5⟩:∃G5,G5=G3++T2:=⟨_,rfl⟩;rw[←hG5] at lG5;rw[←hG5] at a5;have HR:Hid (res=G5):=hid (by rw[HW.out,hG5,hG3,hG2,hG1];simp);clear hG5;clear hG3;clear hG2;clear hG1;clear HW;go_wp2_with (go_at_call 243;refine(HC.out _ HB_wc.out).mono ?_;rintro e wd ⟨rfl,hbd⟩;refine Hid.out ?_)
            refine hid ?_;have HB_wd:=hid (HB_wc.out.trans (hbd.mono HB_wc.out.size));have hn_wd:=(hbd.block _ hlw).trans HN_wc.out;have HN_wd:=hid hn_wd;clear hbd q0 q1 q2 q3 q4 q5 q6 q7 q8 q9 q10;obtain⟨q0,q1,q2,q3,q4,q5,q6,q7,q8,q9,q10⟩:=zka hn_wd;clear hn_wd;go_wp2_with (go_at_call 245;refine(HV1.out _ HB_wd.out).mono ?_;rintro e wv ⟨rfl,hbq⟩;refine Hid.out ?_)
            refine hid ?_;have HB_wv:=hid (HB_wd.out.trans (hbq.mono HB_wd.out.size));have hn_wv:=(hbq.block _ (Array.getElem?_eq_some_iff.1 HN_wd.out).1).trans HN_wd.out;have HN_wv:=hid hn_wv;clear hbq q0 q1 q2 q3 q4 q5 q6 q7 q8 q9 q10;obtain⟨q0,q1,q2,q3,q4,q5,q6,q7,q8,q9,q10⟩:=zka hn_wv;clear hn_wv;go_wp2_with (go_at_call 245;refine(HV2.out _ HB_wv.out).mono ?_;rintro e wz ⟨rfl,hbq⟩;refine Hid.out ?_)
            refine hid ?_;have HB_wz:=hid (HB_wv.out.trans (hbq.mono HB_wv.out.size));have hn_wz:=(hbq.block _ (Array.getElem?_eq_some_iff.1 HN_wv.out).1).trans HN_wv.out;have HN_wz:=hid hn_wz;clear hbq q0 q1 q2 q3 q4 q5 q6 q7 q8 q9 q10;obtain⟨q0,q1,q2,q3,q4,q5,q6,q7,q8,q9,q10⟩:=zka hn_wz;clear hn_wz;go_wp2_with fail;go_ret;exact⟨by rw[HR.out];rfl,HB_wz.out⟩
          | false=>
            have a1:∀w,(Op.stringOp .add ⟨#[62]⟩ (str T1)).run Tryz.prog w= .ok (.string (str ([62]++T1))) w:=fun w=>zbq [62] T1 w (by first | (simp;done) | (simp;omega)|omega)
            have lG1:([62]++T1).length≤202:=by first | (simp;done) | (simp;omega)
            obtain⟨G1,hG1⟩:∃G1,G1=[62]++T1:=⟨_,rfl⟩;rw[←hG1] at lG1;rw[←hG1] at a1;have a2:∀w,(Op.stringOp .add (str G1) ⟨#[32]⟩).run Tryz.prog w= .ok (.string (str (G1++ [32]))) w:=fun w=>zbq G1 [32] w (by first | (simp;done) | (simp;omega)|omega)
            have lG2:(G1++ [32]).length≤203:=by first | (simp;done) | (simp;omega)
            obtain⟨G2,hG2⟩:∃G2,G2=G1++ [32]:=⟨_,rfl⟩;rw[←hG2] at lG2;rw[←hG2] at a2;have a3:∀w,(Op.stringOp .add (str G2) ⟨#[60]⟩).run Tryz.prog w= .ok (.string (str (G2++ [60]))) w:=fun w=>zbq G2 [60] w (by first | (simp;done) | (simp;omega)|omega)
            have lG3:(G2++ [60]).length≤204:=by first | (simp;done) | (simp;omega)
            obtain⟨G3,hG3⟩:∃G3,G3=G2++ [60]:=⟨_,rfl⟩;rw[←hG3] at lG3;rw[←hG3] at a3;have a4:∀w,(Op.stringOp .add (str G3) ⟨#[61]⟩).run Tryz.prog w= .ok (.string (str (G3++ [61]))) w:=fun w=>zbq G3 [61] w (by first | (simp;done) | (simp;omega)|omega)
            have lG4:(G3++ [61]).length≤205:=by first | (simp;done) | (simp;omega)
            obtain⟨G4,hG4⟩:∃G4,G4=G3++ [61]:=⟨_,rfl⟩;rw[←hG4] at lG4;rw[←hG4] at a4;have a5:∀w,(Op.stringOp .add (str G4) (str T2)).run Tryz.prog w= .ok (.string (str (G4++T2))) w:=fun w=>zbq G4 T2 w (by first | (simp;done) | (simp;omega)|omega)
            have lG5:(G4++T2).length≤405:=by first | (simp;done) | (simp;omega)
            obtain⟨G5,hG5⟩:∃G5,G5=G4++T2:=⟨_,rfl⟩;rw[←hG5] at lG5;rw[←hG5] at a5;have HR:Hid (res=G5):=hid (by rw[HW.out,hG5,hG4,hG3,hG2,hG1];simp);clear hG5;clear hG4;clear hG3;clear hG2;clear hG1;clear HW;go_wp2_with (go_at_call 243;refine(HC.out _ HB_wc.out).mono ?_;rintro e wd ⟨rfl,hbd⟩;refine Hid.out ?_)
            refine hid ?_;have HB_wd:=hid (HB_wc.out.trans (hbd.mono HB_wc.out.size));have hn_wd:=(hbd.block _ hlw).trans HN_wc.out;have HN_wd:=hid hn_wd;clear hbd q0 q1 q2 q3 q4 q5 q6 q7 q8 q9 q10;obtain⟨q0,q1,q2,q3,q4,q5,q6,q7,q8,q9,q10⟩:=zka hn_wd;clear hn_wd;go_wp2_with (go_at_call 245;refine(HV1.out _ HB_wd.out).mono ?_;rintro e wv ⟨rfl,hbq⟩;refine Hid.out ?_)
            refine hid ?_;have HB_wv:=hid (HB_wd.out.trans (hbq.mono HB_wd.out.size));have hn_wv:=(hbq.block _ (Array.getElem?_eq_some_iff.1 HN_wd.out).1).trans HN_wd.out;have HN_wv:=hid hn_wv;clear hbq q0 q1 q2 q3 q4 q5 q6 q7 q8 q9 q10;obtain⟨q0,q1,q2,q3,q4,q5,q6,q7,q8,q9,q10⟩:=zka hn_wv;clear hn_wv;go_wp2_with (go_at_call 245;refine(HV2.out _ HB_wv.out).mono ?_;rintro e wz ⟨rfl,hbq⟩;refine Hid.out ?_)
            refine hid ?_;have HB_wz:=hid (HB_wv.out.trans (hbq.mono HB_wv.out.size));have hn_wz:=(hbq.block _ (Array.getElem?_eq_some_iff.1 HN_wv.out).1).trans HN_wv.out;have HN_wz:=hid hn_wz;clear hbq q0 q1 q2 q3 q4 q5 q6 q7 q8 q9 q10;obtain⟨q0,q1,q2,q3,q4,q5,q6,q7,q8,q9,q10⟩:=zka hn_wz;clear hn_wz;go_wp2_with fail;go_ret;exact⟨by rw[HR.out];rfl,HB_wz.out⟩
theorem zsq{L:List IvG}(h1:L.length≤16)(h2:∀x∈L,zjz x=true∧empB (toSt x).st=false)(h3:∀i,i+1<L.length→cE (tE L[i]!) (fE L[i+1]!)<0):spanB L=true:=by
 unfold spanB;rw[Bool.and_eq_true,decide_eq_true_eq,List.all_eq_true];refine⟨h1,fun i hi=>?_⟩;have hi':=List.mem_range.1 hi;have hm:L[i]! ∈L:=by rw[getElem!_pos L i hi'];exact List.getElem_mem hi'
 obtain⟨g1,g2⟩:=h2 _ hm;unfold zkb;rw[g1,g2];cases i with
 | zero=>rfl
 | succ k=>
   have:=h3 k hi'
   simp only[Nat.add_sub_cancel];rw[decide_eq_true this];simp
theorem good_no{L:List IvG}{i:Nat}(hi:i<L.length)(h:zkb L i=false):spanB L=false:=by
 unfold spanB;rw[Bool.and_eq_false_iff]
 exact .inr (Bool.eq_false_iff.2 fun e=>by
  have:=List.all_eq_true.1 e i (List.mem_range.2 hi)
  rw[h] at this;cases this)
theorem zsr{L:List IvG}{i:Nat}{x:IvG}(h:L[i]?=some x):L[i]! =x:=by
 obtain⟨hi,e⟩:=List.getElem?_eq_some_iff.1 h;rw[getElem!_pos L i hi,e]
set_option maxRecDepth 100000 in
theorem zss(a:Option Addr)(cp:Nat)(L:List IvG)(w:World)(h:RArg K w a L)(hl:L.length≤1000):
 Calls Tryz.prog 216 #[.slice a L.length cp] w fun e w'=>e= .returned (.bool (spanB L))∧Below w.heap.size w w':=by
 have H:=hid h;have HNO:=hid (fun i (hi:i<L.length) h=>good_no (L:=L) hi h);have HYES:=hid (fun h1 h2 h3=>zsq (L:=L) h1 h2 h3);have HLONG:Hid (16<L.length→spanB L=false):=hid (fun h=>by unfold spanB;rw[decide_eq_false (by omega)];rfl);obtain⟨sb,hsb⟩:∃sb,spanB L=sb:=⟨_,rfl⟩;rw[hsb] at HNO HYES HLONG ⊢;clear h hsb;by_cases hlong:16<L.length
 · have hd:decide (16<(L.length:Int))=true:=decide_eq_true (by omega)
   have HR:=hid (HLONG.out hlong);clear hlong;go_enter Tryz.func216,Tryz.ntmps216;go_wp2_with fail;go_ret;exact⟨by rw[HR.out];rfl,Below.refl _ _⟩
 have hd:decide (16<(L.length:Int))=false:=decide_eq_false (by omega);go_enter Tryz.func216,Tryz.ntmps216;go_wp2_with fail;go_loopw [3] (fun i wq=>∃k:Nat,i= .int .i64 k∧k≤L.length∧Hid (∀x∈L.take k,zjz x=true∧empB (toSt x).st=false)∧Hid (Below w.heap.size w wq)) (fun i _=>L.length-(intOf i).toNat)
 case atStart=>exact⟨0,rfl,Nat.zero_le _,hid (by simp),hid (Below.refl _ _)⟩
 case round=>
  obtain⟨k,rfl,hk,HG,HB⟩:=hrel;rename World=>wq
  by_cases hlt:k<L.length
  · have hdec:decide (k<L.length)=true:=by simpa using hlt
    obtain⟨g,o,x,-,hxm,hxs,rfl,c0,c1,c2,c3,c4,c5,c6,c7,c8,c9,c10⟩:=(H.out.gr HB.out).row.at k hlt;have HXS:=hid hxs;have HXT:=hid (H.out.txs x hxm);have HRI:=hid (zlu x wq (HXT.out.gr HB.out));have HG1:Hid (zjz x=false→sb=false):=hid (fun h=>HNO.out k hlt (by unfold zkb;rw[zsr HXS.out,h];rfl));have HG2:Hid (empB (toSt x).st=true→sb=false):=hid (fun h=>HNO.out k hlt (by unfold zkb;rw[zsr HXS.out,h];simp));clear hxm hxs;rcases Bool.eq_false_or_eq_true (zjz x) with hr|hr
    rotate_left
    · rw[hr] at HRI
      have HR:=hid (HG1.out hr);clear hr;go_wp2_with (go_at_call 242;refine HRI.out.mono ?_;rintro e w2 ⟨rfl,hb2⟩)
      go_ret;exact⟨by rw[HR.out];rfl,HB.out.trans (hb2.mono HB.out.size)⟩
    · have HEM:=hid (fun w' (g:Below w.heap.size w w')=>zlr x w' (HXT.out.gr g) hr)
      have HRX:=hid hr;rw[hr] at HRI;have hgl:g<wq.heap.size:=World.block_lt_of_cell? _ _ c0;obtain⟨eb,heb⟩:∃b,empB (toSt x).st=b:=⟨_,rfl⟩;have HEB:=hid heb;rw[heb] at HEM;clear hr heb;go_wp2_with (go_at_call 242;refine HRI.out.mono ?_;rintro e w2 ⟨rfl,hb2⟩;refine Hid.out ?_)
      refine hid ?_;have HB2:=hid (HB.out.trans (hb2.mono HB.out.size));have e0:=(hb2.cell hgl).trans c0;have e1:=(hb2.cell hgl).trans c1;have e2:=(hb2.cell hgl).trans c2;have e3:=(hb2.cell hgl).trans c3;have e4:=(hb2.cell hgl).trans c4;have e5:=(hb2.cell hgl).trans c5;have e6:=(hb2.cell hgl).trans c6;have e7:=(hb2.cell hgl).trans c7;have e8:=(hb2.cell hgl).trans c8;have e9:=(hb2.cell hgl).trans c9;have e10:=(hb2.cell hgl).trans c10;clear c0 c1 c2 c3 c4 c5 c6 c7 c8 c9 c10 hb2;cases eb with
      | true=>
        have HR:=hid (HG2.out HEB.out);go_wp2_with (go_at_call 238;refine(HEM.out _ HB2.out).mono ?_;rintro e w3 ⟨rfl,hb3⟩)
        go_ret;exact⟨by rw[HR.out];rfl,HB2.out.trans (hb3.mono HB2.out.size)⟩
      | false=>
        have HNX:Hid (∀y∈L.take (k+1),zjz y=true∧empB (toSt y).st=false):=hid (fun y hy=>by
         rw[List.take_add_one,HXS.out] at hy;rcases List.mem_append.1 hy with hy|hy
         · exact HG.out y hy
         · simp at hy;rw[hy];exact⟨HRX.out,HEB.out⟩)
        go_wp2_with (go_at_call 238;refine(HEM.out _ HB2.out).mono ?_;rintro e w3 ⟨rfl,hb3⟩;have HB3:=hid (HB2.out.trans (hb3.mono HB2.out.size));clear hb3)
        go_roundw
        case rel=>exact⟨k+1,by go_num,hlt,HNX,HB3⟩
        case measure=>simp[intOf];omega
  · have hdec:decide (k<L.length)=false:=by simpa using hlt
    have HALL:Hid (∀x∈L,zjz x=true∧empB (toSt x).st=false):=hid (by have h:=HG.out;rwa [List.take_of_length_le (by omega)] at h);clear hlt hk;go_wp2_with fail;clear hdec;go_loopw [4] (fun i wz=>∃k:Nat,i= .int .i64 k∧k≤L.length∧Hid (∀j,j<k→j+1<L.length→cE (tE L[j]!) (fE L[j+1]!)<0)∧Hid (Below w.heap.size w wz)) (fun i _=>L.length-(intOf i).toNat)
    case atStart=>exact⟨0,rfl,Nat.zero_le _,hid (fun j hj=>by omega),HB⟩
    case round=>
     obtain⟨k,rfl,hk,HQ,HBQ⟩:=hrel;rename World=>wz
     by_cases hlt:k+1<L.length
     · have hdec:decide ((k:Int)+1<(L.length:Int))=true:=decide_eq_true (by omega)
       have hdec2:decide (k+1<L.length)=true:=decide_eq_true hlt;obtain⟨g,o,x,-,hxm,hxs,rfl,c0,c1,c2,c3,c4,c5,c6,c7,c8,c9,c10⟩:=(H.out.gr HBQ.out).row.at k (by omega);obtain⟨g',o',y,-,hym,hys,hge,d0,d1,d2,d3,d4,d5,d6,d7,d8,d9,d10⟩:=(H.out.gr HBQ.out).row.at (k+1) hlt;cases hge
       obtain⟨rx,ex⟩:=HALL.out x hxm;obtain⟨ry,ey⟩:=HALL.out y hym;have HLO:=hid (fun d os=>zmi x y (Go.Sort.grow (redrawn wz d) os) (((H.out.txs x hxm).gr HBQ.out).gr (below_regrown wz d os)) (((H.out.txs y hym).gr HBQ.out).gr (below_regrown wz d os)) rx ry);have HTO:=hid (fun d os=>zls x y (Go.Sort.grow (redrawn wz d) os) (((H.out.txs x hxm).gr HBQ.out).gr (below_regrown wz d os)) (((H.out.txs y hym).gr HBQ.out).gr (below_regrown wz d os)) rx ry)
       have HEX:Hid (cE (fE x) (tE x)<0):=hid (by
        have h:=ex;unfold empB at h;have:=of_decide_eq_false h
        show cE (fE x) (tE x)<0;have e2:(toSt x).st.f=fE x:=rfl;have e3:(toSt x).st.t=tE x:=rfl;rw[e2,e3] at this;omega)
       have HGA:Hid (zkb L (k+1)=decide (cE (tE x) (fE y)<0)):=hid (by
        unfold zkb;rw[zsr hys,ry,ey,Nat.add_sub_cancel,zsr hxs];simp)
       have HB1:=hid (And.intro (zsr hxs) (zsr hys));have HBAD:=hid (fun h=>HNO.out (k+1) hlt h);have kc0:=cell_regrown c0;have kd0:=cell_regrown d0;have kc1:=cell_regrown c1;have kd1:=cell_regrown d1;have kc2:=cell_regrown c2;have kd2:=cell_regrown d2;have kc3:=cell_regrown c3;have kd3:=cell_regrown d3;have kc4:=cell_regrown c4;have kd4:=cell_regrown d4;have kc5:=cell_regrown c5;have kd5:=cell_regrown d5;have kc6:=cell_regrown c6;have kd6:=cell_regrown d6;have kc7:=cell_regrown c7;have kd7:=cell_regrown d7;have kc8:=cell_regrown c8;have kd8:=cell_regrown d8;have kc9:=cell_regrown c9;have kd9:=cell_regrown d9;have kc10:=cell_regrown c10;have kd10:=cell_regrown d10;obtain⟨r,hr⟩:∃r,cE (fE x) (fE y)=r:=⟨_,rfl⟩;obtain⟨tb,htb⟩:∃b,touB x y=b:=⟨_,rfl⟩;rw[hr] at HLO;rw[htb] at HTO;have cO:∀d os,Calls Tryz.prog 239 #[.agg (bdL x.lv x.la x.lc x.lo).toArray,.agg (bdL y.lv y.la y.lc y.lo).toArray] (Go.Sort.grow (redrawn wz d) os) _:=fun d os=>Calls.regrown_of (HLO.out d os)
       have cT:∀d os,Calls Tryz.prog 240 #[gvV x,gvV y] (Go.Sort.grow (redrawn wz d) os) _:=fun d os=>Calls.regrown_of (HTO.out d os)
       have HRR:=hid hr;have HTB:=hid htb;clear hxm hxs hym hys rx ex ry ey hr htb c0 c1 c2 c3 c4 c5 c6 c7 c8 c9 c10 d0 d1 d2 d3 d4 d5 d6 d7 d8 d9 d10;by_cases h0:0≤r
       · have d0:decide (0≤r)=true:=decide_eq_true h0
         have HR:Hid (sb=false):=hid (HBAD.out (by
          rw[HGA.out];refine decide_eq_false fun h=>?_
          have:=lt_le HEX.out (show cE (tE x) (fE y)≤0 by omega)
          rw[HRR.out] at this;omega))
         clear h0;go_wp2_with fail;refine wp_region_quiet_below (by kernel_rfl) (by kernel_rfl) ?_
         repeat (first|go_big_quiet_step (exact cO _ _)|quiet_step (exact cO _ _))
         refine wpQuiet_nil ?_;intro _ hw';obtain⟨⟨dq,osq⟩,hw''⟩:=hw';subst hw'';have HBN:=hid (HBQ.out.trans ((below_regrown wz dq osq).mono HBQ.out.size));go_wp2_with fail;go_ret;exact⟨by rw[HR.out];rfl,HBN.out⟩
       · have d0:decide (0≤r)=false:=decide_eq_false h0
         clear h0;cases tb with
         | true=>
           have HR:Hid (sb=false):=hid (HBAD.out (by
            have h:=HTB.out;unfold touB at h;rw[HGA.out]
            simpa using h))
           go_wp2_with fail;refine wp_region_quiet_below (by kernel_rfl) (by kernel_rfl) ?_
           repeat (first|go_big_quiet_step (first|exact cO _ _|exact cT _ _)|quiet_step (first|exact cO _ _|exact cT _ _))
           refine wpQuiet_nil ?_;intro _ hw';obtain⟨⟨dq,osq⟩,hw''⟩:=hw';subst hw'';have HBN:=hid (HBQ.out.trans ((below_regrown wz dq osq).mono HBQ.out.size));go_wp2_with fail;go_ret;exact⟨by rw[HR.out];rfl,HBN.out⟩
         | false=>
           have HNX:Hid (∀j,j<k+1→j+1<L.length→cE (tE L[j]!) (fE L[j+1]!)<0):=hid (fun j hj hj2=>by
            by_cases e:j=k
            · subst e
              rw[HB1.out.1,HB1.out.2];have h:=HTB.out;unfold touB at h
              simpa using h
            · exact HQ.out j (by omega) hj2)
           go_wp2_with fail;refine wp_region_quiet_below (by kernel_rfl) (by kernel_rfl) ?_
           repeat (first|go_big_quiet_step (first|exact cO _ _|exact cT _ _)|quiet_step (first|exact cO _ _|exact cT _ _))
           refine wpQuiet_nil ?_;intro _ hw';obtain⟨⟨dq,osq⟩,hw''⟩:=hw';subst hw'';have HBN:=hid (HBQ.out.trans ((below_regrown wz dq osq).mono HBQ.out.size));clear kc0 kd0 kc1 kd1 kc2 kd2 kc3 kd3 kc4 kd4 kc5 kd5 kc6 kd6 kc7 kd7 kc8 kd8 kc9 kd9 kc10 kd10 cO cT;go_wp2_with fail;go_roundw
           case rel=>exact⟨k+1,by go_num,by omega,HNX,HBN⟩
           case measure=>simp[intOf];omega
     · have hdec:decide ((k:Int)+1<(L.length:Int))=false:=decide_eq_false (by omega)
       have hdec2:decide (k+1<L.length)=false:=decide_eq_false hlt;have HR:Hid (sb=true):=hid (HYES.out (by omega) HALL.out (fun i hi=>HQ.out i (by omega) hi));go_wp2_with fail;go_ret;exact⟨by rw[HR.out];rfl,HBQ.out⟩
theorem zst{v:Ver}(hm:may v=true)(h:zao v=false):128<(text v).length:=by
 unfold zao at h;rw[hm,Bool.true_and] at h;have:=of_decide_eq_false h
 omega
theorem zsu(x:IvG):(cE (fE x) allS.f=0)↔zsn x=true:=by
 rw[fE_is,botV_is,zlk (zlo _) (Nat.zero_le _)];unfold zsn;by_cases h:cmpV x.lv botV=0
 · rw[h]
   cases x.lo<;>simp[cmpN]
 · rw[if_pos h]
   simp[h]
theorem zsv{x:IvG}(hm:may x.lv=true)(hl:zsn x=false):(zao x.lv=true∧zny (fE x)=some ((if x.lo then [62] else [62,61])++text x.lv))∨(128<(text x.lv).length∧zny (fE x)=none):=by
 have hn:¬cE (fE x) allS.f=0:=fun h=>by rw[(zsu x).1 h] at hl;cases hl
 unfold zny znx;rw[if_neg hn];cases ht:zao x.lv with
 | true=>
   refine .inl ⟨rfl,?_⟩;rw[fE_is]
   dsimp only
   rw[ht];cases x.lo<;>simp
 | false=>
   refine .inr ⟨zst hm ht,?_⟩;rw[fE_is]
   dsimp only
   rw[ht];cases x.lo<;>simp
theorem zsw{x:IvG}(hm:may x.hv=true)(he:x.e=false):(zao x.hv=true∧znz (tE x)=some ((if x.ho then [60] else [60,61])++text x.hv))∨(128<(text x.hv).length∧znz (tE x)=none):=by
 rw[zlj he];unfold znz znx;cases ht:zao x.hv with
 | true=>
   refine .inl ⟨rfl,?_⟩
   dsimp only
   cases x.ho<;>simp
 | false=>
   refine .inr ⟨zst hm ht,?_⟩
   dsimp only
   cases x.ho<;>simp
theorem zsx{x:IvG}(rx:zjz x=true)(ne:empB (toSt x).st=false):oneO (toSt x).st=some (zso x)∨(128<(zso x).length∧oneO (toSt x).st=none):=by
 obtain⟨m1,m2⟩:=zlh rx;have hem:=zlq x;rw[ne] at hem;unfold oneO;rw[zlg]
 dsimp only
 cases he:x.e with
 | true=>
   rw[zli he];have hne:¬cE ⟨(fE x).v,1⟩ ⟨zeroV,2⟩=0:=by rw[zll (Nat.le_refl 1)];decide
   rw[if_neg hne];have hb:znz ⟨zeroV,2⟩=some []:=rfl;rw[hb];cases hl:zsn x with
   | true=>
     have ha:zny (fE x)=some []:=by unfold zny;rw[if_pos ((zsu x).2 hl)]
     rw[ha];refine .inl ?_;unfold zso joinO;rw[hl,he];simp
   | false=>
     rcases zsv m1 hl with ⟨ht,ha⟩|⟨ht,ha⟩
     · rw[ha]
       refine .inl ?_;unfold zso joinO;rw[hl,he];cases x.lo<;>simp
     · rw[ha]
       refine .inr ⟨?_,rfl⟩;unfold zso;rw[hl,he];cases x.lo<;>simp<;>omega
 | false=>
   rw[he] at hem;simp only[Bool.false_eq_true,if_false] at hem;rw[zlj he];by_cases heq:cmpV x.lv x.hv=0
   · have hvv:=zbi heq
     rw[heq] at hem;simp at hem
     obtain⟨hlo,hho⟩:x.lo=false∧x.ho=false:=by
      cases h1:x.lo<;>cases h2:x.ho<;>simp_all
     rw[hho]
     have hz:cE ⟨(fE x).v,1⟩ ⟨x.hv,if false=true then 0 else 1⟩=0:=by
      rw[show (fE x).v=x.lv from rfl,hvv];exact zhr _
     rw[if_pos hz];unfold znx
     have hwo:zso x=61 :: text x.lv:=by
      unfold zso;rw[he,heq];simp
     rw[hwo]
     dsimp only
     rw[←hvv];cases ht:zao x.lv with
     | true=>exact .inl rfl
     | false=>exact .inr ⟨by have:=zst m1 ht;simp;omega,rfl⟩
   · have hz:¬cE ⟨(fE x).v,1⟩ ⟨x.hv,if x.ho=true then 0 else 1⟩=0:=by
      rw[show (fE x).v=x.lv from rfl,zlk (Nat.le_refl 1) (zln _),if_pos heq];exact heq
     rw[if_neg hz];have hb:=zsw m2 he;rw[zlj he] at hb
     have hwo:zso x=(if zsn x then [] else (if x.lo then [62] else [62,61])++text x.lv++ [32])++((if x.ho then [60] else [60,61])++text x.hv):=by
      unfold zso;rw[he,decide_eq_false heq];simp
     rw[hwo];cases hl:zsn x with
     | true=>
       have ha:zny (fE x)=some []:=by unfold zny;rw[if_pos ((zsu x).2 hl)]
       rw[ha];rcases hb with ⟨ht,hb⟩|⟨ht,hb⟩
       · rw[hb]
         refine .inl ?_;unfold joinO;cases x.ho<;>simp
       · rw[hb]
         refine .inr ⟨?_,rfl⟩;cases x.ho<;>simp<;>omega
     | false=>
       rcases zsv m1 hl with ⟨ht1,ha⟩|⟨ht1,ha⟩
       · rw[ha]
         rcases hb with ⟨ht,hb⟩|⟨ht,hb⟩
         · rw[hb]
           refine .inl ?_;unfold joinO;cases x.ho<;>cases x.lo<;>simp
         · rw[hb]
           refine .inr ⟨?_,rfl⟩;cases x.ho<;>cases x.lo<;>simp<;>omega
       · rw[ha]
         refine .inr ⟨?_,by rcases hb with ⟨_,hb⟩|⟨_,hb⟩<;>rw[hb]⟩;cases x.ho<;>cases x.lo<;>simp<;>omega
end SpanC
open Go.RowKit
namespace SpanC
open VerM SpanM StrC TextR VerC
variable {K:Prop}
theorem zsy(sep:B):∀(A:TL) (x:B),A≠[]→Lib.join (A++ [x]) sep=Lib.join A sep++sep++x
 | [],x,h=>absurd rfl h
 | a :: r,x,_=>by
   rw[List.cons_append,Lib.join_cons,Lib.join_cons];unfold Lib.joinTail;rw[List.map_append,List.flatten_append];simp
theorem join_ge(sep:B):∀(A:TL) (x:B),x∈A→x.length≤(Lib.join A sep).length
 | [],x,h=>by cases h
 | a :: r,x,h=>by
   rw[Lib.join_cons,List.length_append];rcases List.mem_cons.1 h with h|h
   · rw[h];omega
   · have:x.length≤(Lib.joinTail sep r).length:=by
      unfold Lib.joinTail
      induction r with
      | nil=>cases h
      | cons b r ih=>
        simp only[List.map_cons,List.flatten_cons,List.length_append];rcases List.mem_cons.1 h with h|h
        · rw[h];omega
        · have:=ih (List.mem_cons_of_mem _ h) h
          omega
     omega
theorem zsz{x:IvG}(rx:zjz x=true):(zso x).length≤410:=by
 obtain⟨m1,m2⟩:=zlh rx;have t1:=zds m1;have t2:=zds m2;unfold zso
 split
 · simp
 · split
   · simp;omega
   · cases zsn x<;>cases x.lo<;>cases x.ho<;>cases x.e<;>simp<;>omega
def joinW(L:List IvG):B:=Lib.join (L.map zso) orB
theorem zta{L:List IvG}(h:∀x∈L,zjz x=true)(hl:L.length≤16):(joinW L).length≤10000:=by
 have:=zom orB 410 (L.map zso) (fun s hs=>by
  obtain⟨x,hx,rfl⟩:=List.mem_map.1 hs;exact zsz (h x hx))
 unfold joinW;rw[List.length_map] at this;have e:orB.length=4:=rfl;rw[e] at this;have:=Nat.mul_le_mul_right 414 hl
 omega
theorem text_is{L:List IvG}(hL:spanB L=true)(hne:L≠[]):zoi (spanM L)=if (joinW L).length≤128 then some (joinW L) else none:=by
 have hr:=zlc hL;have hc:=zlb hL
 have hem:∀x∈L,empB (toSt x).st=false:=fun x hx=>by
  have:=hc.1 (toSt x).st (zmm.2 ⟨x,hx,rfl⟩)
  unfold empB;exact decide_eq_false (by omega)
 unfold zoi
 rw[if_neg (by
  intro h;unfold spanM at h;exact hne (List.map_eq_nil_iff.1 h))]
 by_cases hall:∀x∈L,oneO (toSt x).st=some (zso x)
 · have h1:(spanM L).all (fun s=>(oneO s).isSome)=true:=List.all_eq_true.2 fun s hs=>by
    obtain⟨x,hx,rfl⟩:=zmm.1 hs;rw[hall x hx];rfl
   have h2:(spanM L).map oneT=L.map zso:=by
    unfold spanM;rw[List.map_map];refine List.map_congr_left fun x hx=>?_
    show (oneO (toSt x).st).getD []=_;rw[hall x hx];rfl
   rw[if_pos h1,h2]
   rfl
 · have:∃x,x∈L∧¬oneO (toSt x).st=some (zso x):=Classical.byContradiction fun h=>hall fun x hx=>Classical.byContradiction fun h2=>h ⟨x,hx,h2⟩
   obtain⟨x,hx,hno⟩:=this;rcases zsx (hr x hx) (hem x hx) with h|⟨h1,h2⟩
   · exact absurd h hno
   · have h3:(spanM L).all (fun s=>(oneO s).isSome)=false:=Bool.eq_false_iff.2 fun h=>by
      have:=List.all_eq_true.1 h _ (zmm.2 ⟨x,hx,rfl⟩)
      rw[h2] at this;cases this
     have h4:=join_ge orB (L.map zso) (zso x) (List.mem_map.2 ⟨x,hx,rfl⟩);rw[h3,if_neg (by decide),if_neg (by unfold joinW;omega)]
theorem ztb{L:List IvG}{k:Nat}{x:IvG}(h:L[k]?=some x):joinW (L.take (k+1))=(if k=0 then [] else joinW (L.take k)++orB)++zso x:=by
 have hk:=(List.getElem?_eq_some_iff.1 h).1;unfold joinW;rw[List.take_add_one,h,List.map_append];by_cases h0:k=0
 · subst h0
   rw[if_pos rfl];exact Lib.join_one _ _
 · rw[if_neg h0]
   refine zsy orB _ _ fun e=>?_
   have e2:=congrArg List.length (List.map_eq_nil_iff.1 e);rw[List.length_take] at e2;have e3:([]:List IvG).length=0:=rfl;omega
set_option maxRecDepth 100000 in
theorem ztc(a:Option Addr)(cp:Nat)(L:List IvG)(w:World)(h:RArg K w a L)(hl:L.length≤1000):
 Calls Tryz.prog 183 #[.slice a L.length cp] w fun e w'=>e=outO (textO L)∧Below w.heap.size w w':=by
 have HM:=hid (zss a cp L w h hl);have H:=hid h;have HO:Hid (textO L=if spanB L then zoi (spanM L) else none):=hid rfl;clear h;go_enter Tryz.func183,Tryz.ntmps183;rcases Bool.eq_false_or_eq_true (spanB L) with hb|hb
 rotate_left
 · rw[hb] at HM HO
   have HR:Hid (textO L=none):=hid (by rw[HO.out];rfl);go_wp2_with (go_at_call 216;refine HM.out.mono ?_;rintro e w1 ⟨rfl,hb1⟩)
   go_ret2
   exact⟨by rw[HR.out];rfl,hb1⟩
 have HSB:=hid hb;have hl16:=zkw hb;rw[hb] at HM HO;clear hb;rcases List.eq_nil_or_concat L with rfl|⟨L',y,hLe⟩
 · have HR:Hid (textO []=some [33]):=hid rfl
   simp only[List.length_nil] at*;go_wp2_with (go_at_call 216;refine HM.out.mono ?_;rintro e w1 ⟨rfl,hb1⟩)
   go_ret2
   exact⟨by rw[HR.out];rfl,hb1⟩
 have hpos:0<L.length:=by rw[hLe];simp
 have HNE:Hid (L≠[]):=hid (fun e=>by rw[e] at hpos;simp at hpos);clear hLe;have HTX:Hid (textO L=if (joinW L).length≤128 then some (joinW L) else none):=hid (by rw[HO.out,if_pos rfl,text_is HSB.out HNE.out]);have HRG:=hid (zlc HSB.out);have hz:((L.length:Int) == 0)=false:=beq_eq_false_iff_ne.2 (by omega);have HJL:=hid (fun k=>zta (L:=L.take k) (fun x hx=>HRG.out x (List.mem_of_mem_take hx)) (by rw[List.length_take];omega));clear HO;go_wp2_with (go_at_call 216;refine HM.out.mono ?_;rintro e w1 ⟨rfl,hb1⟩;refine Hid.out ?_)
 refine hid ?_;have HB1:=hid hb1;clear hb1 HM;go_wp2_with fail;go_loopw [4,5] (fun s i wq=>∃k:Nat,i= .int .i64 k∧k≤L.length∧s= .string (str (joinW (L.take k)))∧Hid (Below w.heap.size w wq)) (fun _ i _=>L.length-(intOf i).toNat)
 case atStart=>exact⟨0,rfl,Nat.zero_le _,rfl,HB1⟩
 case round=>
  obtain⟨k,rfl,hk,rfl,HB⟩:=hrel;rename World=>wq
  by_cases hlt:k<L.length
  · have hdec:decide (k<L.length)=true:=by simpa using hlt
    obtain⟨g,o,x,-,hxm,hxs,rfl,c0,c1,c2,c3,c4,c5,c6,c7,c8,c9,c10⟩:=(H.out.gr HB.out).row.at k hlt;have HST:=hid (ztb hxs);have HWD:=hid (zsp x wq ((H.out.txs x hxm).gr HB.out) (HRG.out x hxm));have hwl:=zsz (HRG.out x hxm);have hjl:=HJL.out k;have hj0:k=0→joinW (L.take k)=[]:=fun e=>by rw[e];rfl
    clear hxm hxs;generalize joinW (L.take k)=J at*;generalize zso x=W at*;rcases Nat.eq_zero_or_pos k with hk0|hk0
    · have hJ:=hj0 hk0
      subst hJ;have HR:Hid (joinW (L.take (k+1))=[]++W):=hid (by rw[HST.out,if_pos hk0]);have d0:decide ((0:Int)<(k:Int))=false:=decide_eq_false (by omega);have n0:decide (0<k)=false:=decide_eq_false (by omega);have a1:=fun w=>zbq [] W w (by simp;omega)
      clear HST hj0 hk0;go_wp2_with (go_at_call 217;refine HWD.out.mono ?_;rintro e w2 ⟨rfl,hb2⟩;have HB2:=hid (HB.out.trans (hb2.mono HB.out.size));clear hb2)
      go_roundw
      case rel=>exact⟨k+1,by go_num,hlt,by rw[HR.out];rfl,HB2⟩
      case measure=>simp[intOf];omega
    · have HR:Hid (joinW (L.take (k+1))=(J++orB)++W):=hid (by rw[HST.out,if_neg (by omega)])
      have d0:decide ((0:Int)<(k:Int))=true:=decide_eq_true (by omega);have n0:decide (0<k)=true:=decide_eq_true hk0;have a1:∀w,(Op.stringOp .add (str J) ⟨#[32,124,124,32]⟩).run Tryz.prog w= .ok (.string (str (J++orB))) w:=fun w=>zbq J orB w (by simp[orB];omega)
      have l1:(J++orB).length≤10010:=by simp[orB];omega
      obtain⟨G,hG⟩:∃G,G=J++orB:=⟨_,rfl⟩;rw[←hG] at a1 l1;have a2:=fun w=>zbq G W w (by omega)
      have HR2:Hid (joinW (L.take (k+1))=G++W):=hid (by rw[HR.out,hG]);clear HST hj0 HR hG hk0;go_wp2_with (go_at_call 217;refine HWD.out.mono ?_;rintro e w2 ⟨rfl,hb2⟩;have HB2:=hid (HB.out.trans (hb2.mono HB.out.size));clear hb2)
      go_roundw
      case rel=>exact⟨k+1,by go_num,hlt,by rw[HR2.out],HB2⟩
      case measure=>simp[intOf];omega
  · have hdec:decide (k<L.length)=false:=by simpa using hlt
    have hke:L.take k=L:=List.take_of_length_le (by omega);have HJ:=hid (show joinW (L.take k)=joinW L by rw[hke]);have hjl:=HJL.out k;rw[HJ.out] at hjl ⊢;have hsz:=zbo (joinW L);clear hke HJ;generalize joinW L=J at*;by_cases h128:J.length≤128
    · have d0:decide (128<(J.length:Int))=false:=decide_eq_false (by omega)
      have HR:Hid (textO L=some J):=hid (by rw[HTX.out,if_pos h128]);clear h128;go_wp2_with fail;go_ret2
      exact⟨by rw[HR.out];rfl,HB.out⟩
    · have d0:decide (128<(J.length:Int))=true:=decide_eq_true (by omega)
      have HR:Hid (textO L=none):=hid (by rw[HTX.out,if_neg h128]);clear h128;go_wp2_with fail;go_ret2
      exact⟨by rw[HR.out];rfl,HB.out⟩
theorem ztd{R:List IvG}{l:List St}(hr:∀x∈R,zjz x=true)(hm:spanM R=formM l)(hl:R.length≤16):spanB R=true:=by
 have hc:=(zif l).1;rw[←hm] at hc;refine zsq hl (fun x hx=>⟨hr x hx,?_⟩) fun i hi=>?_
 · have:=hc.1 (toSt x).st (zmm.2 ⟨x,hx,rfl⟩)
   unfold empB;exact decide_eq_false (by omega)
 · have h2:=hc.2
   unfold spanM at h2;rw[List.pairwise_map] at h2;rw[getElem!_pos R i (by omega),getElem!_pos R (i+1) hi];exact List.pairwise_iff_getElem.1 h2 i (i+1) (by omega) hi (by omega)
set_option maxRecDepth 100000 in
theorem zte(s:B)(w:World)(hl:s.length≤9223372036854775807):
 Calls Tryz.prog 149 #[.string (str s)] w fun e w'=>e=outO (formO s)∧Below w.heap.size w w':=by
 have HRD:=hid (zsh s w hl);have HF:Hid (formO s=(readO s).bind fun l=>zoi (formM l)):=hid rfl;go_enter Tryz.func149,Tryz.ntmps149;rcases hro:readO s with _|l
 · have HN:Hid (readO s=none):=hid hro
   have HR:Hid (formO s=none):=hid (by rw[HF.out,hro];rfl);clear hro;go_wp2_with (go_at_call 182;refine HRD.out.mono ?_;rintro e w1 hf;obtain rfl:=hf.2.1 HN.out;have HB:=hid hf.1;clear hf)
   go_ret2
   exact⟨by rw[HR.out];rfl,HB.out⟩
 · have HN:Hid (readO s=some l):=hid hro
   have HR:Hid (formO s=zoi (formM l)):=hid (by rw[HF.out,hro];rfl);clear hro;go_wp2_with (go_at_call 182;refine HRD.out.mono ?_;rintro e w1 hf;obtain⟨u,R,rfl,hr,hm⟩:=hf.2.2 l HN.out;have HB1:=hid hf.1;have HRL:=hid hr;have HM:=hid hm;clear hf hr hm;refine Hid.out ?_)
   refine hid ?_;obtain⟨ar,cr,rfl,hra⟩:=HRL.out.arg
   have hrl:R.length≤16:=by
    have h1:=zrs HN.out;have h2:=zqm l;rw[←HM.out,zmj] at h2;omega
   have HT:=hid (ztc ar cr R w1 hra (by omega))
   have HE:Hid (textO R=formO s):=hid (by
    unfold textO;rw[ztd HRL.out.ok HM.out hrl,if_pos rfl,HR.out,HM.out])
   rw[HE.out] at HT;clear hra HE HR HF;obtain⟨fo,hfo⟩:∃fo,formO s=fo:=⟨_,rfl⟩;rw[hfo] at HT;have HFO:=hid hfo;clear hfo;cases fo with
   | none=>
     go_wp2_with (go_at_call 183;refine HT.out.mono ?_;rintro e w2 ⟨rfl,hb2⟩;unfold outO;have HB2:=hid (HB1.out.trans (hb2.mono HB1.out.size));clear hb2)
     go_ret2
     exact⟨by rw[HFO.out];rfl,HB2.out⟩
   | some t=>
     go_wp2_with (go_at_call 183;refine HT.out.mono ?_;rintro e w2 ⟨rfl,hb2⟩;unfold outO;have HB2:=hid (HB1.out.trans (hb2.mono HB1.out.size));clear hb2)
     go_ret2
     exact⟨by rw[HFO.out];rfl,HB2.out⟩
set_option maxRecDepth 100000 in
theorem ztf(s:B)(w:World)(hl:s.length≤9223372036854775807):Calls Tryz.prog 125 #[.string (str s)] w fun e w'=>e= .returned (.bool (decide (formO s=some s)))∧Below w.heap.size w w':=by
 have HR:=hid (zte s w hl)
 have HF:Hid (∀t,formO s=some t→((str t).toList == (str s).toList)=decide (formO s=some s)):=hid (fun t h=>by
  rw[h,ByteArray.toList_eq,ByteArray.toList_eq];by_cases e:t=s
  · subst e;simp
  · rw[decide_eq_false (fun h=>e (Option.some.inj h)),beq_eq_false_iff_ne]
    intro h2;exact e (by simpa[str] using h2))
 have HN:Hid (formO s=none→decide (formO s=some s)=false):=hid (fun h=>by rw[h];exact decide_eq_false (fun h=>by cases h));generalize decide (formO s=some s)=d at*;generalize formO s=fo at*;generalize str s=t at*;clear hl;cases fo with
 | none=>
   have HD:=hid (HN.out rfl);clear HN HF;go_enter Tryz.func125,Tryz.ntmps125;go_wp2_with (go_at_call 149;refine HR.out.mono ?_;rintro e w1 ⟨rfl,hb⟩;unfold outO;have HB:=hid hb;clear hb)
   go_ret;exact⟨by rw[HD.out];rfl,HB.out⟩
 | some u=>
   have hd:=HF.out u rfl;clear HN HF;go_enter Tryz.func125,Tryz.ntmps125;go_wp2_with (go_at_call 149;refine HR.out.mono ?_;rintro e w1 ⟨rfl,hb⟩;unfold outO;have HB:=hid hb;clear hb)
   go_ret;exact⟨by first|rfl|rw[hd],HB.out⟩
end SpanC
end
end Go.Proofs.YtbninnkpjdofbaaGreatDoor
