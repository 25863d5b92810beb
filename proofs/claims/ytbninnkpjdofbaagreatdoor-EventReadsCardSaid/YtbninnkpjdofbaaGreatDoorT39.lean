/-
  What the proof of EventReads stands on, part 39.
-/
import Derived.Test.YtbninnkpjdofbaaGreatDoorT38
set_option linter.unusedSimpArgs false
set_option linter.unusedVariables false
set_option maxHeartbeats 16000000
namespace Go.Proofs.YtbninnkpjdofbaaGreatDoor
open Go.Lib (hid)
section
open Go.RowKit Go.Sort
namespace EvA
open StrC EvF EvC TextR CodeM CodeC
structure DcS (w:World) (s:ByteArray) (k:Nat) (e:EvG) (W:World):Prop where
 res:W.heap[w.heap.size]?=some zO9
 flt:W.heap[w.heap.size+1]?=some zF9
 ref:IsRef W (w.heap.size+2) 0 s k
 row:W.heap[w.heap.size+3]?=some (evO e)
 ne:NeIn W e.na e.nc e.needs
 na:∀g,e.na=some g→w.heap.size+4≤g.block
 low:Below w.heap.size w W
 sz:w.heap.size+4≤W.heap.size
theorem yib{w w':World}{a:Option Addr}{c:Nat}{L:List (B×B)}(h:NeIn w a c L)(g:∀b,b<w.heap.size→∀o,a=some ⟨b,o,none⟩→w'.heap[b]?=w.heap[b]?):NeIn w' a c L:=
 ⟨h.le,h.few,h.short,fun h0=>by
  obtain⟨b,o,e,hc⟩:=h.cells h0;have hl:=World.block_lt_of_cell? _ _ (hc 0 h0 0 (by decide));exact⟨b,o,e,fun i hi j hj=>by rw[World.cell?_of_block (a:=⟨b,o+i*2+j,none⟩) (g b hl o e)];exact hc i hi j hj⟩⟩
structure DcY (w:World) (s:ByteArray) (k:Nat) (ee e:EvG) (y:Nat) (W:World):Prop where
 res:W.heap[w.heap.size]?=some zO9
 flt:W.heap[w.heap.size+1]?=some zF9
 ref:IsRef W (w.heap.size+2) 0 s k
 row:W.heap[w.heap.size+3]?=some (evO ee)
 new:W.heap[y]?=some (evO e)
 ne:NeIn W e.na e.nc e.needs
 na:∀g,e.na=some g→w.heap.size+4≤g.block
 low:Below w.heap.size w W
 sz:w.heap.size+4≤W.heap.size
 y_:w.heap.size+4≤y
theorem DcY.put{w W:World}{s:ByteArray}{k y:Nat}{ee e:EvG}(h:DcY w s k ee e y W):DcS w s k e (W.setRow (w.heap.size+3) (evL e).toArray):=by
 have hs:∀j,j≠w.heap.size+3→(W.setRow (w.heap.size+3) (evL e).toArray).heap[j]?=W.heap[j]?:=fun j hj=>setRow_other _ _ j _ hj
 refine⟨(hs _ (by omega)).trans h.res,(hs _ (by omega)).trans h.flt,ybe h.ref (hs _ (by omega)),setRow_heap _ _ _ _ _ _ h.row,yib h.ne (fun b hb o he=>hs b (by have:=h.na _ he;simp only at this;omega)),h.na,below_setRow h.low (by omega) _,Nat.le_trans h.sz (below_setRow (Below.refl 0 W) (Nat.zero_le _) _).size⟩
theorem yic(s:ByteArray)(x:Int):∀(L:List Int) (k:Nat) (e:EvG),(foldR s L k e).2.1=0→
 foldR s (L++ [x]) k e=if (allR s (foldR s L k e).2.2.2 (foldR s L k e).1 x).2.1≠0 then allR s (foldR s L k e).2.2.2 (foldR s L k e).1 x else ((allR s (foldR s L k e).2.2.2 (foldR s L k e).1 x).1,0,0,(allR s (foldR s L k e).2.2.2 (foldR s L k e).1 x).2.2.2)
 | [],k,e,_=>rfl
 | z :: L,k,e,h=>by
   rw[foldR] at h;rw[List.cons_append,foldR,foldR];by_cases hz:(allR s k e z).2.1≠0
   · rw[if_pos hz] at h
     exact absurd h hz
   · rw[if_neg hz] at h
     rw[if_neg hz,if_neg hz];exact yic s x L _ _ h
theorem yid(s:ByteArray)(L2:List Int):∀(L:List Int) (k:Nat) (e:EvG),(foldR s L k e).2.1≠0→foldR s (L++L2) k e=foldR s L k e
 | [],k,e,h=>absurd rfl h
 | z :: L,k,e,h=>by
   rw[foldR] at h;rw[List.cons_append,foldR,foldR];by_cases hz:(allR s k e z).2.1≠0
   · rw[if_pos hz,if_pos hz]
   · rw[if_neg hz] at h
     rw[if_neg hz,if_neg hz];exact yid s L2 L _ _ h
theorem yie{s:ByteArray}:∀(L:List Int) (k:Nat) (e:EvG),k≤s.size→(foldR s L k e).2.2.2≤s.size
 | [],k,e,hk=>hk
 | x :: r,k,e,hk=>by
   rw[foldR]
   split
   · exact yfx x hk
   · exact yie r _ _ (yfx x hk)
theorem yif{s:ByteArray}{k:Nat}{e:EvG}{x:Int}(h:x≠3):(allR s k e x).1.needs=e.needs:=by
 unfold allR;rw[if_neg h];exact(yfr s k e x).2.2.1
theorem yig(L:List Int)(j:Nat)(hj:j<L.length):L.take (j+1)=L.take j++ [L.getD j 0]:=by
 rw[List.take_succ_eq_append_getElem hj,List.getD_eq_getElem?_getD,List.getElem?_eq_getElem hj]
 rfl
theorem yih(k:Nat):(zvs k).Nodup:=by
 unfold zvs
 split<;>decide
theorem yii(k j:Nat)(hj:j<(zvs k).length)(h3:(zvs k).getD j 0=3):∀x∈(zvs k).take j,x≠3:=by
 intro x hx e;have hn:=yih k;rw[←List.take_append_drop j (zvs k)] at hn
 have hd:(3:Int)∈(zvs k).drop j:=by
  rw[←h3,List.getD_eq_getElem?_getD,List.getElem?_eq_getElem hj];exact List.mem_iff_getElem.2 ⟨0,by simp;omega,by simp⟩
 exact(List.nodup_append.1 hn).2.2 x hx 3 hd e
theorem yij(k j:Nat)(hj:j<(zvs k).length):∀x,(zvs k).getD j 0=x→(x=0∨x=1∨x=2∨x=3∨x=4∨x=5∨x=6∨x=7∨x=8∨x=9):=by
 intro x h
 have hx:x∈zvs k:=by
  rw[←h,List.getD_eq_getElem?_getD,List.getElem?_eq_getElem hj];exact List.getElem_mem hj
 unfold zvs at hx
 split at hx<;>simp at hx<;>omega
theorem ltr_lt(x:Int):ltrF x<256:=by
 unfold ltrF
 (repeat' split)<;>decide
theorem ltr_at(k j:Nat)(hj:j<(zvs k).length):((fldS k).getD j 0).toNat=ltrF ((zvs k).getD j 0)∧(fldS k).length=(zvs k).length:=by
 rw[yfl];refine⟨?_,by simp⟩;rw[List.getD_eq_getElem?_getD,List.getElem?_map,List.getD_eq_getElem?_getD,List.getElem?_eq_getElem hj];have:=ltr_lt (zvs k)[j]
 simp
 omega
def DcL(w:World)(s:ByteArray)(kk:Nat)(j:Nat)(W:World):Prop:=∃a c,(foldR s ((zvs kk).take j) 1 (kindV kk)).2.1=0∧DcS w s (foldR s ((zvs kk).take j) 1 (kindV kk)).2.2.2 (atE (foldR s ((zvs kk).take j) 1 (kindV kk)).1 a c) W∧
 ((∀x∈(zvs kk).take j,x≠3)→a=none∧c=0∧(foldR s ((zvs kk).take j) 1 (kindV kk)).1.needs=[])
theorem dc_next{w W:World}{s:ByteArray}{kk j:Nat}{a a2:Option Addr}{c c2:Nat}(hj:j<(zvs kk).length)(h0:(foldR s ((zvs kk).take j) 1 (kindV kk)).2.1=0)(h3:(∀x∈(zvs kk).take j,x≠3)→a=none∧c=0∧(foldR s ((zvs kk).take j) 1 (kindV kk)).1.needs=[])
 (hx:(zvs kk).getD j 0≠3→a2=a∧c2=c) (he:(allR s (foldR s ((zvs kk).take j) 1 (kindV kk)).2.2.2 (foldR s ((zvs kk).take j) 1 (kindV kk)).1 ((zvs kk).getD j 0)).2.1=0)
 (h:DcS w s (allR s (foldR s ((zvs kk).take j) 1 (kindV kk)).2.2.2 (foldR s ((zvs kk).take j) 1 (kindV kk)).1 ((zvs kk).getD j 0)).2.2.2 (atE (allR s (foldR s ((zvs kk).take j) 1 (kindV kk)).2.2.2 (foldR s ((zvs kk).take j) 1 (kindV kk)).1 ((zvs kk).getD j 0)).1 a2 c2) W):DcL w s kk (j+1) W:=by
 have hs:=yic s ((zvs kk).getD j 0) _ 1 (kindV kk) h0;rw[←yig _ j hj,if_neg (by simpa using he)] at hs;refine⟨a2,c2,by rw[hs],by rw[hs];exact h,fun hall=>?_⟩;rw[yig _ j hj] at hall;have hx3:(zvs kk).getD j 0≠3:=hall _ (List.mem_append_right _ (List.mem_singleton.2 rfl));obtain⟨k1,k2,k3⟩:=h3 (fun x hx=>hall x (List.mem_append_left _ hx));obtain⟨k4,k5⟩:=hx hx3;refine⟨k4.trans k1,k5.trans k2,?_⟩;rw[hs];exact(yif hx3).trans k3
theorem dc_bad{s:ByteArray}{kk j:Nat}(hk:zvs kk≠[])(hj:j<(zvs kk).length)(h0:(foldR s ((zvs kk).take j) 1 (kindV kk)).2.1=0)(he:(allR s (foldR s ((zvs kk).take j) 1 (kindV kk)).2.2.2 (foldR s ((zvs kk).take j) 1 (kindV kk)).1 ((zvs kk).getD j 0)).2.1≠0)(hf:fstR s=(kk,0,1)):
 readD s=(kindV 0,false,(allR s (foldR s ((zvs kk).take j) 1 (kindV kk)).2.2.2 (foldR s ((zvs kk).take j) 1 (kindV kk)).1 ((zvs kk).getD j 0)).2.2.1,(allR s (foldR s ((zvs kk).take j) 1 (kindV kk)).2.2.2 (foldR s ((zvs kk).take j) 1 (kindV kk)).1 ((zvs kk).getD j 0)).2.1):=by
 have hs:=yic s ((zvs kk).getD j 0) _ 1 (kindV kk) h0;rw[←yig _ j hj,if_pos he] at hs
 have hall:foldR s (zvs kk) 1 (kindV kk)=foldR s ((zvs kk).take (j+1)) 1 (kindV kk):=by
  have h1:=yid s ((zvs kk).drop (j+1)) ((zvs kk).take (j+1)) 1 (kindV kk) (by rw[hs];exact he)
  rwa [List.take_append_drop] at h1
 unfold readD;simp only[hf];rw[if_neg (by simp),if_neg hk,hall,hs,if_pos he]
theorem dc_end{s:ByteArray}{kk:Nat}(hk:zvs kk≠[])(h0:(foldR s (zvs kk) 1 (kindV kk)).2.1=0)(hf:fstR s=(kk,0,1)):
 readD s=if (foldR s (zvs kk) 1 (kindV kk)).2.2.2<s.size then (kindV 0,false,(foldR s (zvs kk) 1 (kindV kk)).2.2.2,23) else if mayD (foldR s (zvs kk) 1 (kindV kk)).1=false then (kindV 0,false,0,0) else ((foldR s (zvs kk) 1 (kindV kk)).1,true,0,0):=by
 unfold readD;simp only[hf];rw[if_neg (by simp),if_neg hk,if_neg (by simpa using h0)]
structure FldO (w:World) (s:ByteArray) (ee:EvG) (A:EvG×Nat×Nat×Nat) (x:Int) (a2:Option Addr) (c2:Nat) (W w':World):Prop where
 one:x≠3→a2=ee.na∧c2=ee.nc
 nds:x=3→NeIn w' a2 c2 A.1.needs∧∀g,a2=some g→W.heap.size≤g.block
 ref:IsRef w' (w.heap.size+2) 0 s A.2.2.2
 os:w'.os=W.os
 tape:w'.tape=W.tape
 out:w'.output=W.output
 size:W.heap.size≤w'.heap.size
 block:∀j,j<W.heap.size→j≠w.heap.size+2→w'.heap[j]?=W.heap[j]?
theorem yik{w wr:World}{s:ByteArray}{k:Nat}{ee:EvG}(h:DcS w s k ee wr):DcS w s k ee wr.drew:=
 ⟨h.res,h.flt,⟨h.ref.text,h.ref.at_,h.ref.free⟩,h.row,⟨h.ne.le,h.ne.few,h.ne.short,h.ne.cells⟩,h.na,⟨h.low.os,h.low.tape,h.low.output,h.low.size,h.low.block⟩,h.sz⟩
theorem dcy{w W0 W7:World}{s:ByteArray}{kj k y:Nat}{ee E:EvG}(h:DcS w s kj ee W0)(os:W7.os=W0.os)(tape:W7.tape=W0.tape)(out:W7.output=W0.output)(size:W0.heap.size≤W7.heap.size)(block:∀j,j<W0.heap.size→j≠w.heap.size+2→W7.heap[j]?=W0.heap[j]?)
 (ref:IsRef W7 (w.heap.size+2) 0 s k) (new:W7.heap[y]?=some (evO E)) (ne:NeIn W7 E.na E.nc E.needs) (na:∀g,E.na=some g→w.heap.size+4≤g.block) (hy:w.heap.size+4≤y):DcY w s k ee E y W7:=by
 have hz:=h.sz
 exact⟨(block _ (by omega) (by omega)).trans h.res,(block _ (by omega) (by omega)).trans h.flt,ref,(block _ (by omega) (by omega)).trans h.row,new,ne,na,
  ⟨os.trans h.low.os,tape.trans h.low.tape,out.trans h.low.output,Nat.le_trans h.low.size size,fun j hj=>(block j (by omega) (by omega)).trans (h.low.block j hj)⟩,Nat.le_trans hz size,hy⟩
theorem dcyA{w W0 w5:World}{s:ByteArray}{kj:Nat}{ee:EvG}{A:EvG×Nat×Nat×Nat}{x:Int}{a2:Option Addr}{c2:Nat}(h:DcS w s kj ee W0)(hf:FldO w s ee A x a2 c2 W0 w5)(hn:x≠3→A.1.needs=ee.needs):
 DcY w s A.2.2.2 ee (atE A.1 a2 c2) w5.heap.size ((w5.alloc zO9).setRow w5.heap.size (evL (atE A.1 a2 c2)).toArray):=by
 have hz:=h.sz;have hs5:=hf.size;have hset:∀j,j<w5.heap.size→((w5.alloc zO9).setRow w5.heap.size (evL (atE A.1 a2 c2)).toArray).heap[j]?=w5.heap[j]?:=fun j hj=>by rw[setRow_other _ _ _ _ (by omega),heap_alloc_old _ _ hj]
 have hB:Below 0 w5 ((w5.alloc zO9).setRow w5.heap.size (evL (atE A.1 a2 c2)).toArray):=below_setRow ((Below.refl 0 w5).alloc (Nat.zero_le _) _) (Nat.zero_le _) _;refine dcy h (hB.os.trans hf.os) (hB.tape.trans hf.tape) (hB.output.trans hf.out) (Nat.le_trans hs5 hB.size) (fun j hj hjb=>(hset j (by omega)).trans (hf.block j hj hjb)) (ybe hf.ref (hset _ (by omega))) (setRow_heap _ _ _ _ _ _ (heap_alloc_new w5 zO9)) ?_ ?_ (by omega)
 · by_cases h3:x=3
   · exact yib (hf.nds h3).1 (fun b hb o _=>hset b hb)
   · obtain⟨k1,k2⟩:=hf.one h3
     subst k1 k2
     show NeIn _ ee.na ee.nc A.1.needs;rw[hn h3];exact yib h.ne (fun b hb o he=>(hset b (by omega)).trans (hf.block b hb (by have:=h.na _ he;simp only at this;omega)))
 · intro g hg
   have hg':a2=some g:=hg;by_cases h3:x=3
   · have:=(hf.nds h3).2 g hg';omega
   · rw[(hf.one h3).1] at hg';exact h.na g hg'
theorem dcyB{w W0 w5:World}{s:ByteArray}{kj:Nat}{ee:EvG}{A:EvG×Nat×Nat×Nat}{x:Int}{a2:Option Addr}{c2:Nat}(h:DcS w s kj ee W0)(hf:FldO w s ee A x a2 c2 (W0.alloc zO9) w5)(hn:x≠3→A.1.needs=ee.needs):
 DcY w s A.2.2.2 ee (atE A.1 a2 c2) W0.heap.size (w5.setRow W0.heap.size (evL (atE A.1 a2 c2)).toArray)∧w5.heap[W0.heap.size]?=some zO9∧w5.heap[w.heap.size+3]?=some (evO ee):=by
 have hz:=h.sz;have hs1:(W0.alloc zO9).heap.size=W0.heap.size+1:=by simp
 have hs5:=hf.size;have hy5:w5.heap[W0.heap.size]?=some zO9:=(hf.block _ (by omega) (by omega)).trans (heap_alloc_new W0 zO9);have hset:∀j,j≠W0.heap.size→(w5.setRow W0.heap.size (evL (atE A.1 a2 c2)).toArray).heap[j]?=w5.heap[j]?:=fun j hj=>setRow_other _ _ _ _ hj
 have hold:∀j,j<W0.heap.size→j≠w.heap.size+2→w5.heap[j]?=W0.heap[j]?:=fun j hj hjb=>(hf.block j (by omega) hjb).trans (heap_alloc_old _ _ hj)
 have hB:Below 0 w5 (w5.setRow W0.heap.size (evL (atE A.1 a2 c2)).toArray):=below_setRow (Below.refl 0 w5) (Nat.zero_le _) _;refine⟨dcy h (hB.os.trans hf.os) (hB.tape.trans hf.tape) (hB.output.trans hf.out) (Nat.le_trans (by omega) hB.size) (fun j hj hjb=>(hset j (by omega)).trans (hold j hj hjb)) (ybe hf.ref (hset _ (by omega))) (setRow_heap _ _ _ _ _ _ hy5) ?_ ?_ (by omega),hy5,(hold _ (by omega) (by omega)).trans h.row⟩
 · by_cases h3:x=3
   · exact yib (hf.nds h3).1 (fun b hb o he=>hset b (by have:=(hf.nds h3).2 _ he;simp only at this;omega))
   · obtain⟨k1,k2⟩:=hf.one h3
     subst k1 k2
     show NeIn _ ee.na ee.nc A.1.needs;rw[hn h3];exact yib h.ne (fun b hb o he=>(hset b (by omega)).trans (hold b hb (by have:=h.na _ he;simp only at this;omega)))
 · intro g hg
   have hg':a2=some g:=hg;by_cases h3:x=3
   · have:=(hf.nds h3).2 g hg';omega
   · rw[(hf.one h3).1] at hg';exact h.na g hg'
def CC(w:World)(ee:EvG)(w':World):Prop:=w'.cell? ⟨w.heap.size+3,0,none⟩=some (.int .u8 ee.k)∧w'.cell? ⟨w.heap.size+3,1,none⟩=some (.string (str ee.who))∧w'.cell? ⟨w.heap.size+3,2,none⟩=some (.string (str ee.name))∧w'.cell? ⟨w.heap.size+3,3,none⟩=some (.string (str ee.ver))∧w'.cell? ⟨w.heap.size+3,4,none⟩=some (.slice ee.na ee.needs.length ee.nc)∧w'.cell? ⟨w.heap.size+3,5,none⟩=some (.int .u64 ee.sum)∧w'.cell? ⟨w.heap.size+3,6,none⟩=some (.int .u32 ee.n)∧w'.cell? ⟨w.heap.size+3,7,none⟩=some (.int .u32 ee.size)∧w'.cell? ⟨w.heap.size+3,8,none⟩=some (.string (str ee.holder))∧w'.cell? ⟨w.heap.size+3,9,none⟩=some (.string (str ee.note))
theorem ee_in{w wr:World}{s:ByteArray}{k:Nat}{ee:EvG}(h:DcS w s k ee wr):CC w ee wr:=zvb h.row
set_option maxRecDepth 100000 in
theorem yil(s:ByteArray)(w:World)(h0:0<s.size)(hs:s.size≤4611686018427387904)(hk:zvs s[0].toNat≠[]):Calls Tryz.prog 8 #[.string s] w (ReadE s w):=by
 have HB:=hid (zzs (w.heap.size+2) 0 s 0 (w9 w s) h0 hs (yhu w s (by omega)));have HW:Hid (Below w.heap.size w (w9 w s)):=hid (chW (chW (alW w _) (alW _ _)) (alW _ _));have hb1:s[0].toNat≤255:=by have:=s[0].toNat_lt;omega
 have hf:fstR s=(s[0].toNat,0,1):=by simp[fstR,h0]
 have HS:=hid hs;have H0:=hid h0;generalize s[0].toNat=kk at*;have HF1:=hid hf;clear hf hs h0;go_enter Tryz.func8,Tryz.ntmps8;go_wp2_with fail;refine HB.out.mono ?_;rintro r w2 ⟨rfl,hr2,ho⟩;have hsz:w2.heap.size=w.heap.size+3:=by rw[ho.size];simp
 have HF:=hid (fun W=>zzb kk W);have hz:(w2.alloc zO9).heap[w.heap.size+3]?=some zO9:=by rw[←hsz];exact heap_alloc_new _ _
 obtain⟨W3,e3⟩:∃W3,W3=(w2.alloc zO9).setRow (w.heap.size+3) (evL (kindV kk)).toArray:=⟨_,rfl⟩;have hset:∀j,j<w.heap.size+3→W3.heap[j]?=w2.heap[j]?:=fun j hj=>by rw[e3,setRow_other _ _ _ _ (by omega),heap_alloc_old _ _ (by omega)]
 have hA:W3.heap[w.heap.size]?=some zO9:=(hset _ (by omega)).trans ((ho.block _ (by omega)).trans (yhv w s).1);have hF:W3.heap[w.heap.size+1]?=some zF9:=(hset _ (by omega)).trans ((ho.block _ (by omega)).trans (yhv w s).2);have hrow:W3.heap[w.heap.size+3]?=some (evO (kindV kk)):=by rw[e3];exact setRow_heap _ _ _ _ _ _ hz
 have hB3:Below w.heap.size w W3:=by
  rw[e3];exact below_setRow ((HW.out.trans (ho.below (B:=w.heap.size) (by omega))).alloc (by omega) _) (by omega) _
 have HDC:Hid (DcL w s kk 0 W3):=hid ⟨none,0,rfl,⟨hA,hF,ybe hr2 (hset _ (by omega)),hrow,NeIn.no _,fun g h=>(by cases h),hB3,by have:=(Array.getElem?_eq_some_iff.1 hrow).1;omega⟩,fun _=>⟨rfl,rfl,rfl⟩⟩;have q0:W3.cell? ⟨w.heap.size+3,0,none⟩=some (.int .u8 kk):=(zvb hrow).1;have E3:=hid e3
 have hem:(str (fldS kk)).toList.isEmpty=false:=ygt (by
  intro h;have h2:=(yfl kk).symm.trans h;exact hk (List.map_eq_nil_iff.1 h2))
 have hlen:(fldS kk).length=(zvs kk).length:=by rw[yfl];simp
 have hl7:(zvs kk).length≤7:=by
  unfold zvs
  split<;>decide
 have hsl:(str (fldS kk)).size=(zvs kk).length:=by rw[←hlen];exact zbo _
 have HK:=hid hk;clear e3 ho hr2 hset hA hF hrow hB3 hk
 go_wp2_with (first
  | (refine wpList_store_row rfl 27 _ _ rfl (w.heap.size+3) (evL (kindV kk)).toArray rfl rfl _ _ hz zvk rfl (zvl _) ?_;rw[←E3.out])
  | (go_at_call 27;refine(HF.out _).mono ?_;rintro r w4 ⟨rfl,rfl⟩)
  | fail)
 generalize hLf:zvs kk=Lf at*;go_loopw [11,12,13,14] (fun i _ _ _ wr=>∃(j:Nat),i= .int .i64 j∧j≤Lf.length∧Hid (DcL w s kk j wr)) (fun i _ _ _ _=>Lf.length-(intOf i).toNat)
 case atStart=>exact⟨0,rfl,Nat.zero_le _,HDC⟩
 case round=>
  obtain⟨j,rfl,hj,HI⟩:=hrel;rename World=>wr
  clear q0 hz HDC;by_cases hlt:j<Lf.length
  · have hdec:decide (j<Lf.length)=true:=decide_eq_true hlt
    obtain⟨a,c,h0,hdc,h3⟩:=HI.out;rw[hLf] at h0 hdc h3;obtain⟨x,hx⟩:∃x,Lf.getD j 0=x:=⟨_,rfl⟩;have hlt':j<(zvs kk).length:=by rw[hLf];exact hlt
    have hxa:=yij kk j hlt' x (by rw[hLf];exact hx);obtain⟨hl1,hl2⟩:=ltr_at kk j hlt';rw[hLf,hx] at hl1
    have hidx:∀W,(Instr.index 9 (.string (str (fldS kk))) (.int .i64 (j:Int))).run Tryz.prog W= .ok (.int .u8 (ltrF x)) W:=fun W=>by
     have h:=zbr (fldS kk) (j:Int) j rfl (by omega) W;rw[hl1] at h;exact h
    have HNX:Hid (∀a2 c2 W,(x≠3→a2=a∧c2=c)→(allR s (foldR s (Lf.take j) 1 (kindV kk)).2.2.2 (foldR s (Lf.take j) 1 (kindV kk)).1 x).2.1=0→DcS w s (allR s (foldR s (Lf.take j) 1 (kindV kk)).2.2.2 (foldR s (Lf.take j) 1 (kindV kk)).1 x).2.2.2 (atE (allR s (foldR s (Lf.take j) 1 (kindV kk)).2.2.2 (foldR s (Lf.take j) 1 (kindV kk)).1 x).1 a2 c2) W→DcL w s kk (j+1) W):=hid (fun a2 c2 W g1 g2 g3=>by
     subst hx;subst hLf;exact dc_next hlt' h0 h3 g1 g2 g3)
    have HBD:Hid ((allR s (foldR s (Lf.take j) 1 (kindV kk)).2.2.2 (foldR s (Lf.take j) 1 (kindV kk)).1 x).2.1≠0→readD s=(kindV 0,false,(allR s (foldR s (Lf.take j) 1 (kindV kk)).2.2.2 (foldR s (Lf.take j) 1 (kindV kk)).1 x).2.2.1,(allR s (foldR s (Lf.take j) 1 (kindV kk)).2.2.2 (foldR s (Lf.take j) 1 (kindV kk)).1 x).2.1)):=hid (fun g=>by
     subst hx;subst hLf;exact dc_bad HK.out hlt' h0 g HF1.out)
    have hk1:(foldR s (Lf.take j) 1 (kindV kk)).2.2.2≤s.size:=yie _ _ _ (by have:=H0.out;omega)
    have h33:x=3→(atE (foldR s (Lf.take j) 1 (kindV kk)).1 a c).na=none∧(atE (foldR s (Lf.take j) 1 (kindV kk)).1 a c).nc=0∧(atE (foldR s (Lf.take j) 1 (kindV kk)).1 a c).needs=[]:=fun e=>by
     have h:=h3 (by
      subst hLf;exact yii kk j hlt' (hx.trans e))
     exact h
    have hat:=all_at s (foldR s (Lf.take j) 1 (kindV kk)).2.2.2 (foldR s (Lf.take j) 1 (kindV kk)).1 x a c;generalize foldR s (Lf.take j) 1 (kindV kk)=F at*;obtain⟨ee,hee⟩:∃ee,ee=atE F.1 a c:=⟨_,rfl⟩;rw[←hee] at hdc h33 hat;have HNA:Hid (ee.na=a∧ee.nc=c):=hid (by rw[hee];exact⟨rfl,rfl⟩);obtain⟨kj,hkj⟩:∃kj,kj=F.2.2.2:=⟨_,rfl⟩;rw[←hkj] at hdc hk1 hat HNX HBD;obtain⟨A,hAA⟩:∃A,A=allR s kj F.1 x:=⟨_,rfl⟩;rw[←hAA] at hat HNX HBD
    have HFD:Hid (∀W,IsRef W (w.heap.size+2) 0 s kj→Calls Tryz.prog 28 #[.pointer (some ⟨w.heap.size+2,0,none⟩),evV ee,.int .u8 (ltrF x)] W fun r w'=>∃a2 c2,r= .returned (.tuple #[evV (atE A.1 a2 c2),.int .i64 A.2.1,.int .i64 A.2.2.1])∧FldO w s ee A x a2 c2 W w'):=hid (fun W hr=>by
     refine(yft ee x (w.heap.size+2) 0 s kj W hxa hk1 HS.out hr h33).mono ?_;rintro r w' ⟨a2,c2,k1,k2,k3,k4,k5,k6,k7,k8,k9⟩;rw[hat] at k1 k3 k4;exact⟨a2,c2,k1,k2,k3,k4,k5,k6,k7,k8,k9⟩)
    have HND:Hid (x≠3→A.1.needs=ee.needs):=hid (fun h=>by rw[hAA,yif h,hee];rfl);have HDC:=hid hdc;have hnew:=heap_alloc_new wr.drew zO9;have hc10:CC w ee wr.drew:=ee_in (yik hdc);unfold CC at hc10;clear hat h33 h3 h0 hdc hl1 hl2 hxa hx hk1 hkj hAA hee HI HF1 hem;go_upto_region 12 with fail
    refine wp_region_held_drew (S:=fun w'=>w'.cell? ⟨w.heap.size+3,0,none⟩=some (.int .u8 ee.k)∧w'.cell? ⟨w.heap.size+3,1,none⟩=some (.string (str ee.who))∧w'.cell? ⟨w.heap.size+3,2,none⟩=some (.string (str ee.name))∧w'.cell? ⟨w.heap.size+3,3,none⟩=some (.string (str ee.ver))∧w'.cell? ⟨w.heap.size+3,4,none⟩=some (.slice ee.na ee.needs.length ee.nc)∧w'.cell? ⟨w.heap.size+3,5,none⟩=some (.int .u64 ee.sum)∧w'.cell? ⟨w.heap.size+3,6,none⟩=some (.int .u32 ee.n)∧w'.cell? ⟨w.heap.size+3,7,none⟩=some (.int .u32 ee.size)∧w'.cell? ⟨w.heap.size+3,8,none⟩=some (.string (str ee.holder))∧w'.cell? ⟨w.heap.size+3,9,none⟩=some (.string (str ee.note))) (by kernel_rfl) hc10 (fun hHeld=>?_);refine Flow.take (i:=0) (v:=?v0) rfl (by kernel_rfl) (by kernel_rfl) (by kernel_rfl) (fun _ _ _ h=>h) (by rfl) ?hy0 (by assumption) ?rest0
    case hy0=>(intro w9 hSw;(try dsimp only at hSw);go_simp;(try with_reducible rfl))
    try simp only[Act.put,List.setIfInBounds_toArray,List.set_cons_zero,List.set_cons_succ]
    refine Flow.take (i:=1) (v:=?v1) rfl (by kernel_rfl) (by kernel_rfl) (by kernel_rfl) (fun _ _ _ h=>h) (by rfl) ?hy1 (by assumption) ?rest1
    case hy1=>(intro w9 hSw;(try dsimp only at hSw);go_simp;(try with_reducible rfl))
    try simp only[Act.put,List.setIfInBounds_toArray,List.set_cons_zero,List.set_cons_succ]
    refine Flow.take (i:=2) (v:=?v2) rfl (by kernel_rfl) (by kernel_rfl) (by kernel_rfl) (fun _ _ _ h=>h) (by rfl) ?hy2 (by assumption) ?rest2
    case hy2=>(intro w9 hSw;(try dsimp only at hSw);go_simp;(try with_reducible rfl))
    try simp only[Act.put,List.setIfInBounds_toArray,List.set_cons_zero,List.set_cons_succ]
    refine Flow.take (i:=3) (v:=?v3) rfl (by kernel_rfl) (by kernel_rfl) (by kernel_rfl) (fun _ _ _ h=>h) (by rfl) ?hy3 (by assumption) ?rest3
    case hy3=>(intro w9 hSw;(try dsimp only at hSw);go_simp;(try with_reducible rfl))
    try simp only[Act.put,List.setIfInBounds_toArray,List.set_cons_zero,List.set_cons_succ]
    refine Flow.take (i:=4) (v:=?v4) rfl (by kernel_rfl) (by kernel_rfl) (by kernel_rfl) (fun _ _ _ h=>h) (by rfl) ?hy4 (by assumption) ?rest4
    case hy4=>(intro w9 hSw;(try dsimp only at hSw);go_simp;(try with_reducible rfl))
    try simp only[Act.put,List.setIfInBounds_toArray,List.set_cons_zero,List.set_cons_succ]
    have HDC0:Hid (DcS w s kj ee wr.drew):=hid (yik HDC.out);refine wpAnyH_ready (rs:=[5,10]) (by kernel_rfl) (by simp) ?_;refine AllReadyH.cons rfl (fun K hK=>?_) (AllReadyH.cons rfl (fun K hK=>?_) AllReadyH.nil)
    · skip
      go_simp;go_at_call 28
      refine(HFD.out _ HDC0.out.ref).mono ?_;rintro r w5 ⟨a2,c2,rfl,hfo⟩;have HONE:Hid (x≠3→a2=a∧c2=c):=hid (fun h=>⟨(hfo.one h).1.trans HNA.out.1,(hfo.one h).2.trans HNA.out.2⟩);have HY0:=hid (dcyA HDC0.out hfo HND.out);have hr5:w5.heap[w.heap.size+3]?=some (evO ee):=(hfo.block _ (by have:=HDC0.out.sz;omega) (by omega)).trans HDC0.out.row;have hz5:=heap_alloc_new w5 zO9;have hr6:(w5.alloc zO9).heap[w.heap.size+3]?=some (evO ee):=(heap_alloc_old _ _ (Array.getElem?_eq_some_iff.1 hr5).1).trans hr5;refine hK.out _ _ (by have h:=zvb hr5;exact h) (fun hHeld2=>?_);clear hK K;refine Flow.take (i:=6) (v:=?v6) rfl (by kernel_rfl) (by kernel_rfl) (by kernel_rfl) (fun _ _ _ h=>h) (by rfl) ?hy6 (by assumption) ?rest6
      case hy6=>(intro w9 hSw;(try dsimp only at hSw);go_simp;(try with_reducible rfl))
      try simp only[Act.put,List.setIfInBounds_toArray,List.set_cons_zero,List.set_cons_succ]
      refine Flow.take (i:=7) (v:=?v7) rfl (by kernel_rfl) (by kernel_rfl) (by kernel_rfl) (fun _ _ _ h=>h) (by rfl) ?hy7 (by assumption) ?rest7
      case hy7=>(intro w9 hSw;(try dsimp only at hSw);go_simp;(try with_reducible rfl))
      try simp only[Act.put,List.setIfInBounds_toArray,List.set_cons_zero,List.set_cons_succ]
      refine Flow.take (i:=8) (v:=?v8) rfl (by kernel_rfl) (by kernel_rfl) (by kernel_rfl) (fun _ _ _ h=>h) (by rfl) ?hy8 (by assumption) ?rest8
      case hy8=>(intro w9 hSw;(try dsimp only at hSw);go_simp;(try with_reducible rfl))
      try simp only[Act.put,List.setIfInBounds_toArray,List.set_cons_zero,List.set_cons_succ]
      refine Flow.take (i:=9) (v:=?v9) rfl (by kernel_rfl) (by kernel_rfl) (by kernel_rfl) (fun _ _ _ h=>h) (by rfl) ?hy9 (by assumption) ?rest9
      case hy9=>(intro w9 hSw;(try dsimp only at hSw);go_simp;(try with_reducible rfl))
      try simp only[Act.put,List.setIfInBounds_toArray,List.set_cons_zero,List.set_cons_succ]
      refine wpAnyH_ready (rs:=[10]) (by kernel_rfl) (by simp) ?_;refine AllReadyH.cons rfl (fun K hK=>?_) AllReadyH.nil;go_simp;refine hK.out _ _ (by have h:=zvb hr6;exact h) (fun hHeld3=>?_);clear hK K;refine wpAnyH_ready (rs:=[11]) (by kernel_rfl) (by simp) ?_;refine AllReadyH.cons rfl (fun K hK=>?_) AllReadyH.nil;refine wp_store_row 27 (.tmp 12) (.tmp 52) rfl w5.heap.size (evL (atE A.1 a2 c2)).toArray rfl rfl _ _ hz5 zvk rfl (zvl _) ?_;refine hK.out _ _ (by have h:=zvb HY0.out.row;exact h) (fun hHeld4=>?_);clear hK K hHeld2 hHeld3;refine Flow.take (i:=12) (v:=?v12) rfl (by kernel_rfl) (by kernel_rfl) (by kernel_rfl) (fun _ _ _ h=>h) (by rfl) ?hy12 (by assumption) ?rest12
      case hy12=>(intro w9 hSw;(try dsimp only at hSw);go_simp;(try with_reducible rfl))
      try simp only[Act.put,List.setIfInBounds_toArray,List.set_cons_zero,List.set_cons_succ]
      refine Flow.take (i:=13) (v:=?v13) rfl (by kernel_rfl) (by kernel_rfl) (by kernel_rfl) (fun _ _ _ h=>h) (by rfl) ?hy13 (by assumption) ?rest13
      case hy13=>(intro w9 hSw;(try dsimp only at hSw);go_simp;(try with_reducible rfl))
      try simp only[Act.put,List.setIfInBounds_toArray,List.set_cons_zero,List.set_cons_succ]
      clear hr5 hr6 hz5 hfo;obtain⟨y,hy⟩:∃y,y=w5.heap.size:=⟨_,rfl⟩;have HY:Hid (DcY w s A.2.2.2 ee (atE A.1 a2 c2) y ((w5.alloc zO9).setRow w5.heap.size (evL (atE A.1 a2 c2)).toArray)):=hid (by rw[hy];exact HY0.out);clear HY0;rw[←hy] at HY ⊢;clear hHeld4 hy;generalize (w5.alloc zO9).setRow y (evL (atE A.1 a2 c2)).toArray=W7 at*;refine wpAnyH_done (by kernel_rfl) ?_ _;have hA:=HY.out.res;have hF:=HY.out.flt;have HB:Hid (Below w.heap.size w W7):=hid HY.out.low;have hrow7:=HY.out.row;obtain⟨p0,p1,p2,p3,p4,p5,p6,p7,p8,p9⟩:=zvb HY.out.new;clear hc10 hHeld hnew hidx;by_cases he:A.2.1=0
      · have HJ:=hid (HNX.out a2 c2 _ HONE.out he HY.out.put)
        clear hA hF;rw[he];go_wp2_with (first | (refine wpList_store_row rfl 27 _ _ rfl (w.heap.size+3) (evL (atE A.1 a2 c2)).toArray rfl rfl _ _ hrow7 zvk rfl (zvl _) ?_)|fail)
        go_roundw
        case rel=>exact⟨j+1,by go_num,hlt,HJ⟩
        case measure=>simp[intOf];omega
      · have HDD:=hid (HBD.out he)
        have hne:¬(A.2.1:Int)=0:=by omega
        clear p0 p1 p2 p3 p4 p5 p6 p7 p8 p9 hrow7;obtain⟨hA2,hF2,f0,f1,z0,z1,g0,g1,y0,y1⟩:=yhx hA hF
        go_wp2_with (first
         | (refine wpList_store_row rfl 27 _ _ rfl w.heap.size (evL (kindV 0)).toArray rfl rfl _ _ hA zvk rfl (zvl _) ?_)
         | (refine wpList_store_row rfl 27 _ _ rfl w.heap.size (evL (kindV 0)).toArray rfl rfl _ _ (hA2 _ _) zvk rfl (zvl _) ?_)
         | fail)
        obtain⟨k0,k1⟩:=yhy hA hF (kindV 0) (.int .i64 A.2.2.1) (.int .i64 A.2.1);refine bodyPost_ret (yhw rfl _ _ w.heap.size (w.heap.size+1) _ _ (evL (kindV 0)).toArray #[.int .i64 A.2.2.1,.int .i64 A.2.1] _ _ _ _ rfl rfl k0 k1 Tryz.underlying27 Tryz.underlying33 rfl rfl zvk yht) rfl ?_;rw[ReadE,HDD.out];refine⟨none,0,rfl,NeIn.no _,fun g h=>(by cases h),?_⟩;exact((below_setRow HB.out (Nat.le_refl _) _).setCell (by show w.heap.size≤w.heap.size+1;omega) _).setCell (by show w.heap.size≤w.heap.size+1;omega) _
    · skip
      go_simp;have hr1:(wr.drew.alloc zO9).heap[w.heap.size+3]?=some (evO ee):=(heap_alloc_old _ _ (Array.getElem?_eq_some_iff.1 HDC0.out.row).1).trans HDC0.out.row;have hf1:IsRef (wr.drew.alloc zO9) (w.heap.size+2) 0 s kj:=ybe HDC0.out.ref (heap_alloc_old _ _ (by have:=HDC0.out.sz;omega));refine hK.out _ _ (by have h:=zvb hr1;exact h) (fun hHeld2=>?_);clear hK K;refine wpAnyH_ready (rs:=[5]) (by kernel_rfl) (by simp) ?_;refine AllReadyH.cons rfl (fun K hK=>?_) AllReadyH.nil;go_simp;go_at_call 28
      refine(HFD.out _ hf1).mono ?_;rintro r w5 ⟨a2,c2,rfl,hfo⟩;have HONE:Hid (x≠3→a2=a∧c2=c):=hid (fun h=>⟨(hfo.one h).1.trans HNA.out.1,(hfo.one h).2.trans HNA.out.2⟩);obtain⟨hy0,hz5',hr5⟩:=dcyB HDC0.out hfo HND.out;have hz5:w5.heap[wr.heap.size]?=some zO9:=hz5';have HY0:Hid (DcY w s A.2.2.2 ee (atE A.1 a2 c2) wr.heap.size (w5.setRow wr.heap.size (evL (atE A.1 a2 c2)).toArray)):=hid hy0;clear hz5';refine hK.out _ _ (by have h:=zvb hr5;exact h) (fun hHeld3=>?_);clear hK K hy0;refine Flow.take (i:=6) (v:=?v6b) rfl (by kernel_rfl) (by kernel_rfl) (by kernel_rfl) (fun _ _ _ h=>h) (by rfl) ?hy6b (by assumption) ?rest6b
      case hy6b=>(intro w9 hSw;(try dsimp only at hSw);go_simp;(try with_reducible rfl))
      try simp only[Act.put,List.setIfInBounds_toArray,List.set_cons_zero,List.set_cons_succ]
      refine Flow.take (i:=7) (v:=?v7b) rfl (by kernel_rfl) (by kernel_rfl) (by kernel_rfl) (fun _ _ _ h=>h) (by rfl) ?hy7b (by assumption) ?rest7b
      case hy7b=>(intro w9 hSw;(try dsimp only at hSw);go_simp;(try with_reducible rfl))
      try simp only[Act.put,List.setIfInBounds_toArray,List.set_cons_zero,List.set_cons_succ]
      refine Flow.take (i:=8) (v:=?v8b) rfl (by kernel_rfl) (by kernel_rfl) (by kernel_rfl) (fun _ _ _ h=>h) (by rfl) ?hy8b (by assumption) ?rest8b
      case hy8b=>(intro w9 hSw;(try dsimp only at hSw);go_simp;(try with_reducible rfl))
      try simp only[Act.put,List.setIfInBounds_toArray,List.set_cons_zero,List.set_cons_succ]
      refine Flow.take (i:=9) (v:=?v9b) rfl (by kernel_rfl) (by kernel_rfl) (by kernel_rfl) (fun _ _ _ h=>h) (by rfl) ?hy9b (by assumption) ?rest9b
      case hy9b=>(intro w9 hSw;(try dsimp only at hSw);go_simp;(try with_reducible rfl))
      try simp only[Act.put,List.setIfInBounds_toArray,List.set_cons_zero,List.set_cons_succ]
      refine wpAnyH_ready (rs:=[11]) (by kernel_rfl) (by simp) ?_;refine AllReadyH.cons rfl (fun K hK=>?_) AllReadyH.nil;refine wp_store_row 27 (.tmp 12) (.tmp 52) rfl wr.heap.size (evL (atE A.1 a2 c2)).toArray rfl rfl _ _ hz5 zvk rfl (zvl _) ?_;refine hK.out _ _ (by have h:=zvb HY0.out.row;exact h) (fun hHeld4=>?_);clear hK K hHeld2 hHeld3;refine Flow.take (i:=12) (v:=?v12b) rfl (by kernel_rfl) (by kernel_rfl) (by kernel_rfl) (fun _ _ _ h=>h) (by rfl) ?hy12b (by assumption) ?rest12b
      case hy12b=>(intro w9 hSw;(try dsimp only at hSw);go_simp;(try with_reducible rfl))
      try simp only[Act.put,List.setIfInBounds_toArray,List.set_cons_zero,List.set_cons_succ]
      refine Flow.take (i:=13) (v:=?v13b) rfl (by kernel_rfl) (by kernel_rfl) (by kernel_rfl) (fun _ _ _ h=>h) (by rfl) ?hy13b (by assumption) ?rest13b
      case hy13b=>(intro w9 hSw;(try dsimp only at hSw);go_simp;(try with_reducible rfl))
      try simp only[Act.put,List.setIfInBounds_toArray,List.set_cons_zero,List.set_cons_succ]
      clear hHeld4 hr5 hr1 hf1 hz5 hfo;have HY:=HY0;clear HY0;generalize w5.setRow wr.heap.size (evL (atE A.1 a2 c2)).toArray=W7 at*;refine wpAnyH_done (by kernel_rfl) ?_ _;have hA:=HY.out.res;have hF:=HY.out.flt;have HB:Hid (Below w.heap.size w W7):=hid HY.out.low;have hrow7:=HY.out.row;obtain⟨p0,p1,p2,p3,p4,p5,p6,p7,p8,p9⟩:=zvb HY.out.new;clear hc10 hHeld hnew hidx;by_cases he:A.2.1=0
      · have HJ:=hid (HNX.out a2 c2 _ HONE.out he HY.out.put)
        clear hA hF;rw[he];go_wp2_with (first | (refine wpList_store_row rfl 27 _ _ rfl (w.heap.size+3) (evL (atE A.1 a2 c2)).toArray rfl rfl _ _ hrow7 zvk rfl (zvl _) ?_)|fail)
        go_roundw
        case rel=>exact⟨j+1,by go_num,hlt,HJ⟩
        case measure=>simp[intOf];omega
      · have HDD:=hid (HBD.out he)
        have hne:¬(A.2.1:Int)=0:=by omega
        clear p0 p1 p2 p3 p4 p5 p6 p7 p8 p9 hrow7;obtain⟨hA2,hF2,f0,f1,z0,z1,g0,g1,y0,y1⟩:=yhx hA hF
        go_wp2_with (first
         | (refine wpList_store_row rfl 27 _ _ rfl w.heap.size (evL (kindV 0)).toArray rfl rfl _ _ hA zvk rfl (zvl _) ?_)
         | (refine wpList_store_row rfl 27 _ _ rfl w.heap.size (evL (kindV 0)).toArray rfl rfl _ _ (hA2 _ _) zvk rfl (zvl _) ?_)
         | fail)
        obtain⟨k0,k1⟩:=yhy hA hF (kindV 0) (.int .i64 A.2.2.1) (.int .i64 A.2.1);refine bodyPost_ret (yhw rfl _ _ w.heap.size (w.heap.size+1) _ _ (evL (kindV 0)).toArray #[.int .i64 A.2.2.1,.int .i64 A.2.1] _ _ _ _ rfl rfl k0 k1 Tryz.underlying27 Tryz.underlying33 rfl rfl zvk yht) rfl ?_;rw[ReadE,HDD.out];refine⟨none,0,rfl,NeIn.no _,fun g h=>(by cases h),?_⟩;exact((below_setRow HB.out (Nat.le_refl _) _).setCell (by show w.heap.size≤w.heap.size+1;omega) _).setCell (by show w.heap.size≤w.heap.size+1;omega) _
  · obtain rfl:j=Lf.length:=by omega
    have hdec:decide (Lf.length<Lf.length)=false:=by simp
    obtain⟨a,c,h0,hdc,-⟩:=HI.out;rw[hLf,List.take_length] at h0 hdc
    have hD:readD s=if (foldR s Lf 1 (kindV kk)).2.2.2<s.size then (kindV 0,false,(foldR s Lf 1 (kindV kk)).2.2.2,23) else if mayD (foldR s Lf 1 (kindV kk)).1=false then (kindV 0,false,0,0) else ((foldR s Lf 1 (kindV kk)).1,true,0,0):=by
     subst hLf;exact dc_end HK.out h0 HF1.out
    have hsh:Sh (foldR s Lf 1 (kindV kk)).1:=yfy _ _ _ (yfu hb1);generalize foldR s Lf 1 (kindV kk)=G at*;obtain⟨ee,hee⟩:∃ee,ee=atE G.1 a c:=⟨_,rfl⟩;rw[←hee] at hdc;obtain⟨kj,hkj⟩:∃kj,kj=G.2.2.2:=⟨_,rfl⟩;rw[←hkj] at hdc hD;have HEE:=hid hee;have HSH:=hid hsh;have HD0:=hid hD;have HDC:=hid hdc;clear h0 hD hsh hee hkj HI hem;by_cases hr:kj<s.size
    · have HD1:=hid (show readD s=(kindV 0,false,kj,23) by rw[HD0.out,if_pos hr])
      have HEN:=hid (zzt (w.heap.size+2) 0 s kj wr hr hdc.ref);clear hdc;go_wp2_with fail;refine HEN.out.mono ?_;rintro r W7 ⟨rfl,hr7,ho7⟩;have hA:=(ho7.block _ (by omega)).trans HDC.out.res;have hF:=(ho7.block _ (by omega)).trans HDC.out.flt;have HB:Hid (Below w.heap.size w W7):=hid (HDC.out.low.trans (ho7.below (B:=w.heap.size) (by omega)));clear hr7 ho7;obtain⟨hA2,hF2,f0,f1,z0,z1,g0,g1,y0,y1⟩:=yhx hA hF
      go_wp2_with (first
       | (refine wpList_store_row rfl 27 _ _ rfl w.heap.size (evL (kindV 0)).toArray rfl rfl _ _ hA zvk rfl (zvl _) ?_)
       | (refine wpList_store_row rfl 27 _ _ rfl w.heap.size (evL (kindV 0)).toArray rfl rfl _ _ (hA2 _ _) zvk rfl (zvl _) ?_)
       | fail)
      obtain⟨k0,k1⟩:=yhy hA hF (kindV 0) (.int .i64 kj) (.int .i64 23);refine bodyPost_ret (yhw rfl _ _ w.heap.size (w.heap.size+1) _ _ (evL (kindV 0)).toArray #[.int .i64 kj,.int .i64 23] _ _ _ _ rfl rfl k0 k1 Tryz.underlying27 Tryz.underlying33 rfl rfl zvk yht) rfl ?_;rw[ReadE,HD1.out];refine⟨none,0,rfl,NeIn.no _,fun g h=>(by cases h),?_⟩;exact((below_setRow HB.out (Nat.le_refl _) _).setCell (by show w.heap.size≤w.heap.size+1;omega) _).setCell (by show w.heap.size≤w.heap.size+1;omega) _
    · have HD1:=hid (show readD s=if mayD G.1=false then (kindV 0,false,0,0) else (G.1,true,0,0) by rw[HD0.out,if_neg hr])
      have HEN:=hid (zzu (w.heap.size+2) 0 s kj wr (by omega) hdc.ref);clear hdc;go_wp2_with fail;refine HEN.out.mono ?_;rintro r W6 ⟨rfl,hr6,ho6⟩;have hA6:=(ho6.block _ (by omega)).trans HDC.out.res;have hF6:=(ho6.block _ (by omega)).trans HDC.out.flt;have hrow6:=(ho6.block (w.heap.size+3) (by omega)).trans HDC.out.row;have hne6:NeIn W6 ee.na ee.nc ee.needs:=yib HDC.out.ne (fun p hl o hp=>ho6.block p (by have:=HDC.out.na _ hp;simp only at this;omega));have HB6:Hid (Below w.heap.size w W6):=hid (HDC.out.low.trans (ho6.below (B:=w.heap.size) (by omega)));have HSZ6:Hid (w.heap.size+4≤W6.heap.size):=hid (by rw[ho6.size];exact HDC.out.sz)
      have hin:EvIn W6 ee:=by
       have h:=HSH.out;have he:=HEE.out;have hne:NeIn W6 ee.na ee.nc ee.needs:=hne6;rw[he] at hne ⊢;exact⟨h.k,h.sum,h.n,h.size,Nat.le_trans h.who (by decide),Nat.le_trans h.name (by decide),Nat.le_trans h.ver (by decide),Nat.le_trans h.holder (by decide),Nat.le_trans h.note (by decide),hne⟩
      have HMY:=hid (rmay_any ee W6 hin);have hmd:mayD ee=mayD G.1:=by rw[HEE.out];rfl
      rw[hmd] at HMY;have HA6:=hid hA6;have HF6:=hid hF6;have HR6:=hid hrow6;have HN6:=hid hne6;obtain⟨p0,p1,p2,p3,p4,p5,p6,p7,p8,p9⟩:=zvb hrow6;clear hA6 hF6 hrow6 hne6 hin hmd hr6 ho6;by_cases hmy:mayD G.1=false
      · have HD2:=hid (show readD s=(kindV 0,false,0,0) by rw[HD1.out,if_pos hmy])
        rw[hmy] at HMY;go_wp2_with fail;refine HMY.out.mono ?_;rintro r W7 ⟨rfl,hb7⟩;have hA:=(hb7.block _ (by have:=HSZ6.out;omega)).trans HA6.out;have hF:=(hb7.block _ (by have:=HSZ6.out;omega)).trans HF6.out;have HB:Hid (Below w.heap.size w W7):=hid (HB6.out.trans (hb7.mono HB6.out.size));clear hb7 p0 p1 p2 p3 p4 p5 p6 p7 p8 p9;obtain⟨hA2,hF2,f0,f1,z0,z1,g0,g1,y0,y1⟩:=yhx hA hF
        go_wp2_with (first
         | (refine wpList_store_row rfl 27 _ _ rfl w.heap.size (evL (kindV 0)).toArray rfl rfl _ _ hA zvk rfl (zvl _) ?_)
         | (refine wpList_store_row rfl 27 _ _ rfl w.heap.size (evL (kindV 0)).toArray rfl rfl _ _ (hA2 _ _) zvk rfl (zvl _) ?_)
         | fail)
        obtain⟨k0,k1⟩:=yhy hA hF (kindV 0) (.int .i64 0) (.int .i64 0);refine bodyPost_ret (yhw rfl _ _ w.heap.size (w.heap.size+1) _ _ (evL (kindV 0)).toArray #[.int .i64 0,.int .i64 0] _ _ _ _ rfl rfl k0 k1 Tryz.underlying27 Tryz.underlying33 rfl rfl zvk yht) rfl ?_;rw[ReadE,HD2.out];refine⟨none,0,rfl,NeIn.no _,fun g h=>(by cases h),?_⟩;exact((below_setRow HB.out (Nat.le_refl _) _).setCell (by show w.heap.size≤w.heap.size+1;omega) _).setCell (by show w.heap.size≤w.heap.size+1;omega) _
      · have hmy':mayD G.1=true:=by simpa using hmy
        have HD2:=hid (show readD s=(G.1,true,0,0) by rw[HD1.out,if_neg hmy]);rw[hmy'] at HMY;go_wp2_with fail;refine HMY.out.mono ?_;rintro r W7 ⟨rfl,hb7⟩;have hA:=(hb7.block _ (by have:=HSZ6.out;omega)).trans HA6.out;have hF:=(hb7.block _ (by have:=HSZ6.out;omega)).trans HF6.out;have hrow7:=(hb7.block _ (by have:=HSZ6.out;omega)).trans HR6.out;have HN7:=hid (HN6.out.gr hb7);have HB:Hid (Below w.heap.size w W7):=hid (HB6.out.trans (hb7.mono HB6.out.size));clear hb7 p0 p1 p2 p3 p4 p5 p6 p7 p8 p9;obtain⟨p0,p1,p2,p3,p4,p5,p6,p7,p8,p9⟩:=zvb hrow7;obtain⟨hA2,hF2,f0,f1,z0,z1,g0,g1,y0,y1⟩:=yhx hA hF
        go_wp2_with (first
         | (refine wpList_store_row rfl 27 _ _ rfl w.heap.size (evL ee).toArray rfl rfl _ _ hA zvk rfl (zvl _) ?_)
         | (refine wpList_store_row rfl 27 _ _ rfl w.heap.size (evL ee).toArray rfl rfl _ _ (hA2 _ _) zvk rfl (zvl _) ?_)
         | fail)
        obtain⟨k0,k1⟩:=yhy hA hF ee (.int .i64 0) (.int .i64 0);refine bodyPost_ret (yhw rfl _ _ w.heap.size (w.heap.size+1) _ _ (evL ee).toArray #[.int .i64 0,.int .i64 0] _ _ _ _ rfl rfl k0 k1 Tryz.underlying27 Tryz.underlying33 rfl rfl zvk yht) rfl ?_;rw[ReadE,HD2.out];refine⟨a,c,by rw[HEE.out];rfl,yib (w:=W7) ?_ (fun p hl o hp=>?_),fun g hg=>?_,?_⟩
        · have h:=HN7.out
          rw[HEE.out] at h;exact h
        · have h:=HDC.out.na ⟨p,o,none⟩ (by rw[HEE.out];exact hp)
          simp only at h;exact(zvn 1 _ (by omega)).trans ((zvn 0 _ (by omega)).trans (setRow_other _ _ _ _ (by omega)))
        · have h:=HDC.out.na g (by rw[HEE.out];exact hg)
          omega
        · exact((below_setRow HB.out (Nat.le_refl _) _).setCell (by show w.heap.size≤w.heap.size+1;omega) _).setCell (by show w.heap.size≤w.heap.size+1;omega) _
theorem yim(s:ByteArray)(w:World)(hs:s.size≤4611686018427387904):Calls Tryz.prog 8 #[.string s] w (ReadE s w):=by
 by_cases h0:s.size=0
 · exact yhz s w h0
 · have h1:0<s.size:=by omega
   by_cases hk:zvs s[0].toNat=[]
   · exact yia s w h1 hs hk
   · exact yil s w h1 hs hk
end EvA
end
end Go.Proofs.YtbninnkpjdofbaaGreatDoor
