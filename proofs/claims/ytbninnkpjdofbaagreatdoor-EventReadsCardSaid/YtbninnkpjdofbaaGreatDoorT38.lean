/-
  What the proof of EventReads stands on, part 38.
-/
import Derived.Test.YtbninnkpjdofbaaGreatDoorT35
import Derived.Test.YtbninnkpjdofbaaGreatDoorT36
set_option linter.unusedSimpArgs false
set_option linter.unusedVariables false
set_option maxHeartbeats 16000000
namespace Go.Proofs.YtbninnkpjdofbaaGreatDoor
open Go.Lib (hid)
section
open Go.RowKit Go.Sort
namespace EvA
open StrC EvF EvC TextR CodeM CodeC
abbrev zF9:Obj:=.cells #[.int .i64 0,.int .i64 0] 33
abbrev rd9(s:ByteArray):Obj:=.cells #[.string s,.int .i64 0] 71
theorem yht:(Tryz.prog.info? 33).map (·.size)=some 2:=by kernel_rfl
abbrev w9(w:World)(s:ByteArray):World:=((w.alloc zO9).alloc zF9).alloc (rd9 s)
theorem yhu(w:World)(s:ByteArray)(hs:s.size≤4611686018427387904):IsRef (w9 w s) (w.heap.size+2) 0 s 0:=by
 have h:(w9 w s).heap[w.heap.size+2]?=some (rd9 s):=by have:=heap_alloc_new ((w.alloc zO9).alloc zF9) (rd9 s);simpa using this
 exact⟨by unfold World.cell?;simp only[h];rfl,by unfold World.cell?;simp only[h];rfl,by unfold World.frozen?;simp only[h];rfl⟩
theorem yhv(w:World)(s:ByteArray):(w9 w s).heap[w.heap.size]?=some zO9∧(w9 w s).heap[w.heap.size+1]?=some zF9:=by
 refine⟨?_,?_⟩
 · rw[heap_alloc_old _ _ (by simp;omega),heap_alloc_old _ _ (by simp),heap_alloc_new]
 · rw[heap_alloc_old _ _ (by simp)]
   have:=heap_alloc_new (w.alloc zO9) zF9
   simpa using this
theorem yhw{P:Program}{fn:Func}{p q r:Tmp}{ty ty2:TypeId}(h:fn.results=#[.cell p ty,.tmp q,.cell r ty2])(tmps:Array Value)(w:World)(g g2:Nat)(t t2:TypeId)(cs cs2:Array Value)(fr fr2:Nat×Nat)(d d2:TypeDesc)
 (hp:tmps.getD p undef= .pointer (some ⟨g,0,none⟩)) (hp2:tmps.getD r undef= .pointer (some ⟨g2,0,none⟩)) (hg:w.heap[g]?=some (.cells cs t fr)) (hg2:w.heap[g2]?=some (.cells cs2 t2 fr2))
 (hu:P.underlying ty=some d) (hu2:P.underlying ty2=some d2) (hd:(match d with | .struct _ | .array _ _=>true | _=>false)=true) (hd2:(match d2 with | .struct _ | .array _ _=>true | _=>false)=true)
 (hi:(P.info? ty).map (·.size)=some cs.size) (hi2:(P.info? ty2).map (·.size)=some cs2.size):
 (results fn tmps).run P w= .ok (.tuple #[.agg cs,tmps.getD q undef,.agg cs2]) w:=by
 have hp':tmps[p]?.getD undef= .pointer (some ⟨g,0,none⟩):=by simpa using hp
 have hp2':tmps[r]?.getD undef= .pointer (some ⟨g2,0,none⟩):=by simpa using hp2
 simp[results,h,hp',hp2',asAddr,run_loadVar_row w g t ty cs fr d hg hu hd hi,run_loadVar_row w g2 t2 ty2 cs2 fr2 d2 hg2 hu2 hd2 hi2]
def ReadE(s:ByteArray)(w:World)(r:Ending)(w':World):Prop:=∃a c,r= .returned (.tuple #[evV (atE (readD s).1 a c),.bool (readD s).2.1,.agg #[.int .i64 (readD s).2.2.1,.int .i64 (readD s).2.2.2]])∧
 NeIn w' a c (readD s).1.needs∧(∀g,a=some g→w.heap.size≤g.block)∧Below w.heap.size w w'
theorem all_at(s:ByteArray)(k:Nat)(e:EvG)(x:Int)(a:Option Addr)(c:Nat):allR s k (atE e a c) x=(atE (allR s k e x).1 a c,(allR s k e x).2):=by
 unfold allR
 split
 · rfl
 · unfold fldR
   simp only
   (repeat' split)<;>rfl
theorem yhx{w W:World}(hA:W.heap[w.heap.size]?=some zO9)(hF:W.heap[w.heap.size+1]?=some zF9):
 (∀u v,((W.setCell ⟨w.heap.size+1,0,none⟩ u).setCell ⟨w.heap.size+1,1,none⟩ v).heap[w.heap.size]?=some zO9)∧(∀cs,(W.setRow w.heap.size cs).heap[w.heap.size+1]?=some zF9)∧
 W.cell? ⟨w.heap.size+1,0,none⟩=some (.int .i64 0)∧W.cell? ⟨w.heap.size+1,1,none⟩=some (.int .i64 0)∧W.frozen? ⟨w.heap.size+1,0,none⟩=false∧W.frozen? ⟨w.heap.size+1,1,none⟩=false∧
 (∀cs,(W.setRow w.heap.size cs).cell? ⟨w.heap.size+1,0,none⟩=some (.int .i64 0))∧(∀cs,(W.setRow w.heap.size cs).cell? ⟨w.heap.size+1,1,none⟩=some (.int .i64 0))∧
 (∀cs,(W.setRow w.heap.size cs).frozen? ⟨w.heap.size+1,0,none⟩=false)∧∀cs,(W.setRow w.heap.size cs).frozen? ⟨w.heap.size+1,1,none⟩=false:=by
 have hF2:∀cs,(W.setRow w.heap.size cs).heap[w.heap.size+1]?=some zF9:=fun cs=>by rw[setRow_other _ _ _ _ (by omega)];exact hF
 refine⟨fun u v=>(zvn 1 v (by omega)).trans ((zvn 0 u (by omega)).trans hA),hF2,?_,?_,?_,?_,fun cs=>?_,fun cs=>?_,fun cs=>?_,fun cs=>?_⟩
 · unfold World.cell?;simp only[hF];rfl
 · unfold World.cell?;simp only[hF];rfl
 · unfold World.frozen?;simp only[hF];rfl
 · unfold World.frozen?;simp only[hF];rfl
 · unfold World.cell?;simp only[hF2];rfl
 · unfold World.cell?;simp only[hF2];rfl
 · unfold World.frozen?;simp only[hF2];rfl
 · unfold World.frozen?;simp only[hF2];rfl
theorem yhy{w W:World}(hA:W.heap[w.heap.size]?=some zO9)(hF:W.heap[w.heap.size+1]?=some zF9)(e:EvG)(x y:Value):
 (((W.setRow w.heap.size (evL e).toArray).setCell ⟨w.heap.size+1,0,none⟩ x).setCell ⟨w.heap.size+1,1,none⟩ y).heap[w.heap.size]?=some (.cells (evL e).toArray 27 (0,0))∧
 (((W.setRow w.heap.size (evL e).toArray).setCell ⟨w.heap.size+1,0,none⟩ x).setCell ⟨w.heap.size+1,1,none⟩ y).heap[w.heap.size+1]?=some (.cells #[x,y] 33 (0,0)):=by
 refine⟨(zvn 1 _ (by omega)).trans ((zvn 0 _ (by omega)).trans (setRow_heap _ _ _ _ _ _ hA)),?_⟩;have:=zvm (zvm ((yhx hA hF).2.1 (evL e).toArray) 0 x) 1 y
 simpa using this
set_option maxRecDepth 100000 in
theorem yhz(s:ByteArray)(w:World)(h0:s.size=0):Calls Tryz.prog 8 #[.string s] w (ReadE s w):=by
 have hD:readD s=(kindV 0,false,0,20):=by simp[readD,fstR,h0]
 have HB:=hid (zzr (w.heap.size+2) 0 s 0 (w9 w s) (by omega) (yhu w s (by omega)));have HW:Hid (Below w.heap.size w (w9 w s)):=hid (chW (chW (alW w _) (alW _ _)) (alW _ _));have HD:=hid hD;clear hD;go_enter Tryz.func8,Tryz.ntmps8;go_wp2_with fail;refine HB.out.mono ?_;rintro r w2 ⟨rfl,hr2,ho⟩;clear hr2;have hA:w2.heap[w.heap.size]?=some zO9:=(ho.block _ (by omega)).trans (yhv w s).1;have hF:w2.heap[w.heap.size+1]?=some zF9:=(ho.block _ (by omega)).trans (yhv w s).2;obtain⟨hA2,hF2,f0,f1,z0,z1,g0,g1,y0,y1⟩:=yhx hA hF
 go_wp2_with (first
  | (refine wpList_store_row rfl 27 _ _ rfl w.heap.size (evL (kindV 0)).toArray rfl rfl _ _ hA zvk rfl (zvl _) ?_)
  | (refine wpList_store_row rfl 27 _ _ rfl w.heap.size (evL (kindV 0)).toArray rfl rfl _ _ (hA2 _ _) zvk rfl (zvl _) ?_)
  | fail)
 obtain⟨k0,k1⟩:=yhy hA hF (kindV 0) (.int .i64 0) (.int .i64 20);refine bodyPost_ret (yhw rfl _ _ w.heap.size (w.heap.size+1) _ _ (evL (kindV 0)).toArray #[.int .i64 0,.int .i64 20] _ _ _ _ rfl rfl k0 k1 Tryz.underlying27 Tryz.underlying33 rfl rfl zvk yht) rfl ?_;rw[ReadE,HD.out];refine⟨none,0,rfl,NeIn.no _,fun g h=>(by cases h),?_⟩;have hb:=HW.out.trans (ho.below (B:=w.heap.size) (by omega));exact((below_setRow hb (Nat.le_refl _) _).setCell (by show w.heap.size≤w.heap.size+1;omega) _).setCell (by show w.heap.size≤w.heap.size+1;omega) _
set_option maxRecDepth 100000 in
theorem yia(s:ByteArray)(w:World)(h0:0<s.size)(hs:s.size≤4611686018427387904)(hk:zvs s[0].toNat=[]):Calls Tryz.prog 8 #[.string s] w (ReadE s w):=by
 have hD:readD s=(kindV 0,false,0,0):=by simp[readD,fstR,h0,hk]
 have hfl:fldS s[0].toNat=[]:=by rw[yfl,hk];rfl
 have HB:=hid (zzs (w.heap.size+2) 0 s 0 (w9 w s) h0 hs (yhu w s (by omega)));have HW:Hid (Below w.heap.size w (w9 w s)):=hid (chW (chW (alW w _) (alW _ _)) (alW _ _));have HD:=hid hD;clear hD;have hb1:s[0].toNat≤255:=by have:=s[0].toNat_lt;omega
 generalize s[0].toNat=kk at*;go_enter Tryz.func8,Tryz.ntmps8;go_wp2_with fail;refine HB.out.mono ?_;rintro r w2 ⟨rfl,hr2,ho⟩;clear hr2;have hsz:w2.heap.size=w.heap.size+3:=by rw[ho.size];simp
 have HF:=hid (fun W=>zzb kk W);have hz:(w2.alloc zO9).heap[w.heap.size+3]?=some zO9:=by rw[←hsz];exact heap_alloc_new _ _
 obtain⟨W3,e3⟩:∃W3,W3=(w2.alloc zO9).setRow (w.heap.size+3) (evL (kindV kk)).toArray:=⟨_,rfl⟩
 have q0:W3.cell? ⟨w.heap.size+3,0,none⟩=some (.int .u8 kk):=by
  rw[e3];unfold World.cell?;simp only[setRow_heap _ _ _ _ _ _ hz]
  rfl
 have hA:W3.heap[w.heap.size]?=some zO9:=by
  rw[e3,setRow_other _ _ _ _ (by omega),heap_alloc_old _ _ (by omega)];exact(ho.block _ (by omega)).trans (yhv w s).1
 have hF:W3.heap[w.heap.size+1]?=some zF9:=by
  rw[e3,setRow_other _ _ _ _ (by omega),heap_alloc_old _ _ (by omega)];exact(ho.block _ (by omega)).trans (yhv w s).2
 have HB3:Hid (Below w.heap.size w W3):=hid (by
  rw[e3];exact below_setRow ((HW.out.trans (ho.below (B:=w.heap.size) (by omega))).alloc (by omega) _) (by omega) _)
 have E3:=hid e3;have HFL:=hid hfl;clear e3 ho hfl;obtain⟨hA2,hF2,f0,f1,z0,z1,g0,g1,y0,y1⟩:=yhx hA hF
 go_wp2_with (first
  | (refine wpList_store_row rfl 27 _ _ rfl (w.heap.size+3) (evL (kindV kk)).toArray rfl rfl _ _ hz zvk rfl (zvl _) ?_;rw[←E3.out])
  | (go_at_call 27;refine(HF.out _).mono ?_;rintro r w4 ⟨rfl,rfl⟩;rw[HFL.out,show str []=(⟨#[]⟩:ByteArray) from rfl])
  | (refine wpList_store_row rfl 27 _ _ rfl w.heap.size (evL (kindV 0)).toArray rfl rfl _ _ hA zvk rfl (zvl _) ?_)
  | (refine wpList_store_row rfl 27 _ _ rfl w.heap.size (evL (kindV 0)).toArray rfl rfl _ _ (hA2 _ _) zvk rfl (zvl _) ?_)
  | fail)
 obtain⟨k0,k1⟩:=yhy hA hF (kindV 0) (.int .i64 0) (.int .i64 0);refine bodyPost_ret (yhw rfl _ _ w.heap.size (w.heap.size+1) _ _ (evL (kindV 0)).toArray #[.int .i64 0,.int .i64 0] _ _ _ _ rfl rfl k0 k1 Tryz.underlying27 Tryz.underlying33 rfl rfl zvk yht) rfl ?_;rw[ReadE,HD.out];refine⟨none,0,rfl,NeIn.no _,fun g h=>(by cases h),?_⟩;have hb:=HB3.out;exact((below_setRow hb (Nat.le_refl _) _).setCell (by show w.heap.size≤w.heap.size+1;omega) _).setCell (by show w.heap.size≤w.heap.size+1;omega) _
end EvA
end
end Go.Proofs.YtbninnkpjdofbaaGreatDoor
