/-
  What the proof of EventReads stands on, part 22.
-/
import Derived.Below
import Derived.ChangeArms
import Derived.ChangeSame
import Derived.Deep.DeepHandedRow
import Derived.Deep.Fields
import Derived.Deep.RegionHeld3
import Derived.Deep.Slices
import Derived.Laws.AppendOwn
import Derived.Laws.AppendOwnNone
import Derived.Laws.CopyOwn
import Derived.Laws.OwnMore
import Derived.Laws.StructEq
import Derived.Lib.QuietBelow
import Derived.OwnWalk
import Derived.SizedLaws
import Derived.SliceStrings
import Derived.StillTailTactics
import Derived.Test.YtbninnkpjdofbaaGreatDoorRows
import Derived.Test.YtbninnkpjdofbaaGreatDoorT01
set_option linter.unusedSimpArgs false
set_option linter.unusedVariables false
set_option maxHeartbeats 16000000
namespace Go.Proofs.YtbninnkpjdofbaaGreatDoor
open Go.Lib (hid)
section
namespace EvA
open Go.ChangeShapes Go.WideShapes Go.Deep Go.RowKit
open StrC
abbrev B:=List UInt8
theorem chW{a b c:World}(h:Below a.heap.size a b)(k:Below b.heap.size b c):Below a.heap.size a c:=h.trans (k.mono h.size)
theorem alW(w:World)(o:Obj):Below w.heap.size w (w.alloc o):=(Below.refl _ _).alloc (Nat.le_refl _) o
structure EvG where
 k:Nat
 who:B
 name:B
 ver:B
 na:Option Addr
 nc:Nat
 needs:List (B×B)
 sum:Nat
 n:Nat
 size:Nat
 holder:B
 note:B
abbrev evL(e:EvG):List Value:=[.int .u8 e.k,.string (str e.who),.string (str e.name),.string (str e.ver),.slice e.na e.needs.length e.nc,.int .u64 e.sum,.int .u32 e.n,.int .u32 e.size,.string (str e.holder),.string (str e.note)]
abbrev evO(e:EvG):Obj:=.cells (evL e).toArray 27
abbrev evV(e:EvG):Value:=.agg (evL e).toArray
abbrev needL(x:B×B):List Value:=[.string (str x.1),.string (str x.2)]
structure NeIn (w:World) (a:Option Addr) (c:Nat) (L:List (B×B)):Prop where
 le:L.length≤c
 few:L.length*32≤140737488351232
 short:∀x∈L,x.1.length≤140737488351232∧x.2.length≤140737488351232
 cells:0<L.length→∃g o,a=some ⟨g,o,none⟩∧∀i,i<L.length→∀j,j<2→w.cell? ⟨g,o+i*2+j,none⟩=some ((needL L[i]!)[j]!)
theorem NeIn.no(w:World):NeIn w none 0 []:=⟨Nat.le_refl _,by simp,fun x h=>(by cases h),fun h=>absurd h (by simp)⟩
theorem NeIn.gr{w w':World}{a:Option Addr}{c:Nat}{L:List (B×B)}(h:NeIn w a c L)(g:Below w.heap.size w w'):NeIn w' a c L:=
 ⟨h.le,h.few,h.short,fun h0=>by
  obtain⟨b,o,e,hc⟩:=h.cells h0;exact⟨b,o,e,fun i hi j hj=>by rw[g.cell (World.block_lt_of_cell? _ _ (hc i hi j hj))];exact hc i hi j hj⟩⟩
theorem NeIn.at{w:World}{a:Option Addr}{c:Nat}{L:List (B×B)}(h:NeIn w a c L)(i:Nat)(hi:i<L.length):∃(g o:Nat) (x:B×B),x∈L∧L[i]?=some x∧a=some ⟨g,o,none⟩∧
 w.cell? ⟨g,o+i*2,none⟩=some (.string (str x.1))∧w.cell? ⟨g,o+i*2+1,none⟩=some (.string (str x.2)):=by
 obtain⟨g,o,rfl,key⟩:=h.cells (by omega);have hx:L[i]?=some L[i]! :=by rw[List.getElem?_eq_getElem hi,getElem!_pos L i hi]
 have k:=key i hi;exact⟨g,o,L[i]!,List.mem_of_getElem? hx,hx,rfl,k 0 (by omega),k 1 (by omega)⟩
structure EvIn (w:World) (e:EvG):Prop where
 k:e.k≤255
 sum:e.sum≤18446744073709551615
 n:e.n≤4294967295
 size:e.size≤4294967295
 who:e.who.length≤140737488351232
 name:e.name.length≤140737488351232
 ver:e.ver.length≤140737488351232
 holder:e.holder.length≤140737488351232
 note:e.note.length≤140737488351232
 needs:NeIn w e.na e.nc e.needs
section
variable {H:Type} {enc:TypeId×Value→H} {w:World} {base:Nat} {held:Bool}
end
end EvA
end
section
open Go.RowKit
namespace EvC
open EvA StrC AppC
theorem zvb{w:World}{g:Nat}{e:EvG}(h:w.heap[g]?=some (evO e)):
 w.cell? ⟨g,0,none⟩=some (.int .u8 e.k)∧w.cell? ⟨g,1,none⟩=some (.string (str e.who))∧w.cell? ⟨g,2,none⟩=some (.string (str e.name))∧w.cell? ⟨g,3,none⟩=some (.string (str e.ver))∧w.cell? ⟨g,4,none⟩=some (.slice e.na e.needs.length e.nc)∧
 w.cell? ⟨g,5,none⟩=some (.int .u64 e.sum)∧w.cell? ⟨g,6,none⟩=some (.int .u32 e.n)∧w.cell? ⟨g,7,none⟩=some (.int .u32 e.size)∧w.cell? ⟨g,8,none⟩=some (.string (str e.holder))∧w.cell? ⟨g,9,none⟩=some (.string (str e.note)):=by
 refine⟨?_,?_,?_,?_,?_,?_,?_,?_,?_,?_⟩<;>(rw [cell_of_row w g _ _ _ (0,0) h];rfl)
theorem zvc(x y:B×B)(w:World):(binOp .neq 81 (.agg #[.string (str x.1),.string (str x.2)]) (.agg #[.string (str y.1),.string (str y.2)])).run Tryz.prog w= .ok (.bool (decide (x≠y))) w:=by
 have p1:∀w,(part 9 #[.string (str x.1),.string (str x.2)] 0).run Tryz.prog w= .ok (.string (str x.1)) w:=fun w=>by kernel_rfl
 have p2:∀w,(part 9 #[.string (str x.1),.string (str x.2)] 1).run Tryz.prog w= .ok (.string (str x.2)) w:=fun w=>by kernel_rfl
 have p3:∀w,(part 9 #[.string (str y.1),.string (str y.2)] 0).run Tryz.prog w= .ok (.string (str y.1)) w:=fun w=>by kernel_rfl
 have p4:∀w,(part 9 #[.string (str y.1),.string (str y.2)] 1).run Tryz.prog w= .ok (.string (str y.2)) w:=fun w=>by kernel_rfl
 rw[run_neq_struct,run_equalIn_agg w 9999 81 _ _ (by kernel_rfl) (by kernel_rfl)]
 have hfs:∃f0 f1:Field,(Tryz.prog.fieldsOf 81).toList=[f0,f1]∧(f0.name.length == 1)=false∧(f1.name.length == 1)=false∧f0.type=9∧f1.type=9∧f0.offset=0∧f1.offset=1:=
  ⟨(Tryz.prog.fieldsOf 81)[0]!,(Tryz.prog.fieldsOf 81)[1]!,by kernel_rfl,by kernel_rfl,by kernel_rfl,by kernel_rfl,by kernel_rfl,by kernel_rfl,by kernel_rfl⟩
 obtain⟨f0,f1,hf,m0,m1,t0,t1,o0,o1⟩:=hfs;have n0:f0.name≠ "_":=fun h=>by rw[h] at m0;exact absurd m0 (by decide)
 have n1:f1.name≠ "_":=fun h=>by rw[h] at m1;exact absurd m1 (by decide)
 rw[hf];simp only[Op.eqFields,n0,n1,ne_eq,not_false_eq_true,if_true,t0,t1,o0,o1,Sem.run_bind,p1,p3,Result.andThen_ok,run_equalIn_string w 9998 9 _ _ Tryz.underlying9,zbs];obtain⟨x1,x2⟩:=x;obtain⟨y1,y2⟩:=y
 dsimp only at p1 p2 p3 p4 ⊢
 by_cases h1:x1=y1
 · have e1:decide (x1=y1)=true:=decide_eq_true h1
   by_cases h2:x2=y2
   · have e2:decide (x2=y2)=true:=decide_eq_true h2
     have e3:decide ((x1,x2)≠(y1,y2))=false:=by simp[h1,h2]
     simp only[e1,e2,e3,p2,p4,Result.andThen,Bool.not_true,Bool.false_eq_true,if_false,Sem.run_bind,run_equalIn_string w 9998 9 _ _ Tryz.underlying9,zbs];simp
   · have e2:decide (x2=y2)=false:=decide_eq_false h2
     have e3:decide ((x1,x2)≠(y1,y2))=true:=by simp[h2]
     simp only[e1,e2,e3,p2,p4,Result.andThen,Bool.not_true,Bool.false_eq_true,if_false,Sem.run_bind,run_equalIn_string w 9998 9 _ _ Tryz.underlying9,zbs];simp
 · have e1:decide (x1=y1)=false:=decide_eq_false h1
   have e3:decide ((x1,x2)≠(y1,y2))=true:=by simp[h1]
   simp only[e1,e3,Result.andThen];simp
theorem zvd{L M:List (B×B)}(hl:L.length=M.length)(h:∀j,j<L.length→L[j]?=M[j]?):L=M:=by
 apply List.ext_getElem?
 intro j;by_cases hj:j<L.length
 · exact h j hj
 · rw[List.getElem?_eq_none (by omega),List.getElem?_eq_none (by omega)]
theorem zve(a1:Option Addr)(c1:Nat)(L:List (B×B))(a2:Option Addr)(c2:Nat)(M:List (B×B))(w:World)(h1:NeIn w a1 c1 L)(h2:NeIn w a2 c2 M):
 Calls Tryz.prog 53 #[.slice a1 L.length c1,.slice a2 M.length c2] w fun e w'=>e= .returned (.bool (decide (L=M)))∧∃q,w'=w.drewN q:=by
 by_cases hl:L.length=M.length
 rotate_left
 · have tne:((L.length:Int) != (M.length:Int))=true:=by rw[bne_iff_ne];omega
   have hd:decide (L=M)=false:=decide_eq_false (fun e=>hl (by rw[e]));rw[hd];clear h1 h2;go_enter Tryz.func53,Tryz.ntmps53;go_wp2_with fail;go_ret;exact⟨rfl,0,rfl⟩
 have tne:((L.length:Int) != (M.length:Int))=false:=by rw[bne_eq_false_iff_eq];omega
 have HL:=hid hl;have H1:=hid h1;have H2:=hid h2;have hlm:=h1.few;have HLM:Hid (L.length≤4398046510976):=hid (by omega);clear h1 h2 hlm;go_enter Tryz.func53,Tryz.ntmps53;go_wp2_with fail;clear hl tne;go_loopw [5,13] (fun _ vi wr=>∃i q:Nat,i≤L.length∧vi= .int .i64 i∧wr=w.drewN q∧Hid (∀j,j<i→L[j]?=M[j]?)) (fun _ vi _=>L.length-(intOf vi).toNat)
 case atStart=>exact⟨0,0,Nat.zero_le _,rfl,rfl,hid (fun j h=>absurd h (by omega))⟩
 case round=>
  obtain⟨i,q,hi,rfl,rfl,HS⟩:=hrel;by_cases hlt:i<L.length
  · have hdec:decide (i<L.length)=true:=by simpa using hlt
    have hgt:i<M.length:=by have:=HL.out;omega
    have hdec2:decide (i<M.length)=true:=by simpa using hgt
    obtain⟨g,o,x,-,hx,rfl,x1,x2⟩:=H1.out.at i hlt;obtain⟨g',o',y,-,hy,rfl,y1,y2⟩:=H2.out.at i hgt;have es3:IntKind.i64.wrap (i:Int)=(i:Int):=IntWalk.i64_in _ ⟨by omega,by have:=HLM.out;omega⟩;have hib:i<4398046510976:=by have:=HLM.out;omega
    have n1:(0:Int)≤(i:Int):=by omega
    have n2:(i:Int)<(L.length:Int):=by omega
    have n3:(i:Int)<(M.length:Int):=by omega
    have hneq:=zvc x y
    have HSN:=hid (show x=y→∀j,j<i+1→L[j]?=M[j]? from fun e j hj=>by
     by_cases e2:j=i
     · subst e2;rw[hx,hy,e]
     · exact HS.out j (by omega))
    have HNO:=hid (show x≠y→decide (L=M)=false from fun e=>decide_eq_false (fun e2=>by
     rw[e2,hy] at hx;exact e (Option.some.inj hx).symm))
    clear hx hy;by_cases hs:x=y
    · have hdn:decide (x≠y)=false:=by simp[hs]
      rw[hdn] at hneq;have HNX:=hid (HSN.out hs);clear hs hdn;go_wp2_with fail;go_quiet (fail)
      go_wp2_with fail;go_roundw
      case rel=>exact⟨i+1,_,by omega,by go_num,rfl,HNX⟩
      case measure=>simp[intOf];omega
    · have hdn:decide (x≠y)=true:=by simp[hs]
      rw[hdn] at hneq;have HNX:=hid (HNO.out hs);clear hs hdn;go_wp2_with fail;go_quiet (fail)
      go_wp2_with fail;go_ret;rw[HNX.out];exact⟨rfl,_,World.drewN_drewN _ _ _⟩
  · have hdec:decide (i<L.length)=false:=by simpa using hlt
    have hdec2:decide (i<M.length)=false:=by have:=HL.out;simp;omega
    have hsl:decide (L=M)=true:=decide_eq_true (zvd HL.out (fun j hj=>HS.out j (by omega)));have HSL:=hid hsl;clear hsl;go_wp2_with fail;go_ret;rw[HSL.out];exact⟨rfl,_,rfl⟩
def sameE(a b:EvG):Bool:=decide (a.k=b.k) && decide (a.who=b.who) && decide (a.name=b.name) && decide (a.ver=b.ver) && decide (a.needs=b.needs) && decide (a.sum=b.sum) && decide (a.n=b.n) && decide (a.size=b.size) && decide (a.holder=b.holder) && decide (a.note=b.note)
theorem zvf{B:Nat}{w w':World}(h:Below B w w')(q:Nat):Below B w (w'.drewN q):=⟨h.os,h.tape,h.output,h.size,h.block⟩
set_option maxRecDepth 100000 in
theorem zvg(a b:EvG)(w:World)(ha:NeIn w a.na a.nc a.needs)(hb:NeIn w b.na b.nc b.needs):
 Calls Tryz.prog 20 #[evV a,evV b] w fun e w'=>e= .returned (.bool (sameE a b))∧Below w.heap.size w w':=by
 have hb1:Below w.heap.size w (w.alloc (evO a)):=(Below.refl _ w).alloc (Nat.le_refl _) _;have hb2:Below w.heap.size w ((w.alloc (evO a)).alloc (evO b)):=hb1.alloc hb1.size _;have HEQ:=hid (zve a.na a.nc a.needs b.na b.nc b.needs ((w.alloc (evO a)).alloc (evO b)) (ha.gr hb2) (hb.gr hb2));have HB:Hid (∀q,Below w.heap.size w (((w.alloc (evO a)).alloc (evO b)).drewN q)):=hid (fun q=>zvf hb2 q);have hn2:=heap_alloc_new (w.alloc (evO a)) (evO b);have hn1:=heap_alloc_old (w.alloc (evO a)) (evO b) (r:=w.heap.size) (by simp);rw[heap_alloc_new w (evO a)] at hn1;obtain⟨x0,x1,x2,x3,x4,x5,x6,x7,x8,x9⟩:=zvb hn1;obtain⟨y0,y1,y2,y3,y4,y5,y6,y7,y8,y9⟩:=zvb hn2;simp only[World.size_alloc] at y0 y1 y2 y3 y4 y5 y6 y7 y8 y9;clear ha hb hb1 hb2 hn1 hn2;by_cases h0:a.k=b.k
 rotate_left
 · have e0:((a.k:Int) == (b.k:Int))=false:=by rw[beq_eq_false_iff_ne];omega
   have n0:((a.k:Int) != (b.k:Int))=true:=by unfold bne;rw[e0];rfl
   have hs:sameE a b=false:=by unfold sameE;simp[h0]
   rw[hs];clear hs h0;go_enter Tryz.func20,Tryz.ntmps20;go_wp2_with fail;go_ret;exact⟨rfl,HB.out 0⟩
 by_cases h1:a.who=b.who
 rotate_left
 · have e0:((a.k:Int) == (b.k:Int))=true:=by rw[beq_iff_eq];omega
   have n0:((a.k:Int) != (b.k:Int))=false:=by unfold bne;rw[e0];rfl
   have e1:((str a.who).toList == (str b.who).toList)=false:=by rw[zbs];simpa using h1
   have n1:((str a.who).toList != (str b.who).toList)=true:=by unfold bne;rw[e1];rfl
   have hs:sameE a b=false:=by unfold sameE;simp[h1]
   rw[hs];clear hs h0 h1;go_enter Tryz.func20,Tryz.ntmps20;go_wp2_with fail;go_ret;exact⟨rfl,HB.out 0⟩
 by_cases h2:a.name=b.name
 rotate_left
 · have e0:((a.k:Int) == (b.k:Int))=true:=by rw[beq_iff_eq];omega
   have n0:((a.k:Int) != (b.k:Int))=false:=by unfold bne;rw[e0];rfl
   have e1:((str a.who).toList == (str b.who).toList)=true:=by rw[zbs];simpa using h1
   have n1:((str a.who).toList != (str b.who).toList)=false:=by unfold bne;rw[e1];rfl
   have e2:((str a.name).toList == (str b.name).toList)=false:=by rw[zbs];simpa using h2
   have n2:((str a.name).toList != (str b.name).toList)=true:=by unfold bne;rw[e2];rfl
   have hs:sameE a b=false:=by unfold sameE;simp[h2]
   rw[hs];clear hs h0 h1 h2;go_enter Tryz.func20,Tryz.ntmps20;go_wp2_with fail;go_ret;exact⟨rfl,HB.out 0⟩
 by_cases h3:a.ver=b.ver
 rotate_left
 · have e0:((a.k:Int) == (b.k:Int))=true:=by rw[beq_iff_eq];omega
   have n0:((a.k:Int) != (b.k:Int))=false:=by unfold bne;rw[e0];rfl
   have e1:((str a.who).toList == (str b.who).toList)=true:=by rw[zbs];simpa using h1
   have n1:((str a.who).toList != (str b.who).toList)=false:=by unfold bne;rw[e1];rfl
   have e2:((str a.name).toList == (str b.name).toList)=true:=by rw[zbs];simpa using h2
   have n2:((str a.name).toList != (str b.name).toList)=false:=by unfold bne;rw[e2];rfl
   have e3:((str a.ver).toList == (str b.ver).toList)=false:=by rw[zbs];simpa using h3
   have n3:((str a.ver).toList != (str b.ver).toList)=true:=by unfold bne;rw[e3];rfl
   have hs:sameE a b=false:=by unfold sameE;simp[h3]
   rw[hs];clear hs h0 h1 h2 h3;go_enter Tryz.func20,Tryz.ntmps20;go_wp2_with fail;go_ret;exact⟨rfl,HB.out 0⟩
 by_cases h4:a.needs=b.needs
 rotate_left
 · have e0:((a.k:Int) == (b.k:Int))=true:=by rw[beq_iff_eq];omega
   have n0:((a.k:Int) != (b.k:Int))=false:=by unfold bne;rw[e0];rfl
   have e1:((str a.who).toList == (str b.who).toList)=true:=by rw[zbs];simpa using h1
   have n1:((str a.who).toList != (str b.who).toList)=false:=by unfold bne;rw[e1];rfl
   have e2:((str a.name).toList == (str b.name).toList)=true:=by rw[zbs];simpa using h2
   have n2:((str a.name).toList != (str b.name).toList)=false:=by unfold bne;rw[e2];rfl
   have e3:((str a.ver).toList == (str b.ver).toList)=true:=by rw[zbs];simpa using h3
   have n3:((str a.ver).toList != (str b.ver).toList)=false:=by unfold bne;rw[e3];rfl
   have e4:decide (a.needs=b.needs)=false:=by simpa using h4
   have hs:sameE a b=false:=by unfold sameE;simp[h4]
   rw[e4] at HEQ;rw[hs];clear hs h0 h1 h2 h3 h4;go_enter Tryz.func20,Tryz.ntmps20;go_wp2_with (go_at_call 53;refine HEQ.out.mono ?_;rintro e w' ⟨rfl,q,rfl⟩)
   go_ret;exact⟨rfl,HB.out _⟩
 by_cases h5:a.sum=b.sum
 rotate_left
 · have e0:((a.k:Int) == (b.k:Int))=true:=by rw[beq_iff_eq];omega
   have n0:((a.k:Int) != (b.k:Int))=false:=by unfold bne;rw[e0];rfl
   have e1:((str a.who).toList == (str b.who).toList)=true:=by rw[zbs];simpa using h1
   have n1:((str a.who).toList != (str b.who).toList)=false:=by unfold bne;rw[e1];rfl
   have e2:((str a.name).toList == (str b.name).toList)=true:=by rw[zbs];simpa using h2
   have n2:((str a.name).toList != (str b.name).toList)=false:=by unfold bne;rw[e2];rfl
   have e3:((str a.ver).toList == (str b.ver).toList)=true:=by rw[zbs];simpa using h3
   have n3:((str a.ver).toList != (str b.ver).toList)=false:=by unfold bne;rw[e3];rfl
   have e4:decide (a.needs=b.needs)=true:=by simpa using h4
   have e5:((a.sum:Int) == (b.sum:Int))=false:=by rw[beq_eq_false_iff_ne];omega
   have n5:((a.sum:Int) != (b.sum:Int))=true:=by unfold bne;rw[e5];rfl
   have hs:sameE a b=false:=by unfold sameE;simp[h5]
   rw[e4] at HEQ;rw[hs];clear hs h0 h1 h2 h3 h4 h5;go_enter Tryz.func20,Tryz.ntmps20;go_wp2_with (go_at_call 53;refine HEQ.out.mono ?_;rintro e w' ⟨rfl,q,rfl⟩)
   go_ret;exact⟨rfl,HB.out _⟩
 by_cases h6:a.n=b.n
 rotate_left
 · have e0:((a.k:Int) == (b.k:Int))=true:=by rw[beq_iff_eq];omega
   have n0:((a.k:Int) != (b.k:Int))=false:=by unfold bne;rw[e0];rfl
   have e1:((str a.who).toList == (str b.who).toList)=true:=by rw[zbs];simpa using h1
   have n1:((str a.who).toList != (str b.who).toList)=false:=by unfold bne;rw[e1];rfl
   have e2:((str a.name).toList == (str b.name).toList)=true:=by rw[zbs];simpa using h2
   have n2:((str a.name).toList != (str b.name).toList)=false:=by unfold bne;rw[e2];rfl
   have e3:((str a.ver).toList == (str b.ver).toList)=true:=by rw[zbs];simpa using h3
   have n3:((str a.ver).toList != (str b.ver).toList)=false:=by unfold bne;rw[e3];rfl
   have e4:decide (a.needs=b.needs)=true:=by simpa using h4
   have e5:((a.sum:Int) == (b.sum:Int))=true:=by rw[beq_iff_eq];omega
   have n5:((a.sum:Int) != (b.sum:Int))=false:=by unfold bne;rw[e5];rfl
   have e6:((a.n:Int) == (b.n:Int))=false:=by rw[beq_eq_false_iff_ne];omega
   have n6:((a.n:Int) != (b.n:Int))=true:=by unfold bne;rw[e6];rfl
   have hs:sameE a b=false:=by unfold sameE;simp[h6]
   rw[e4] at HEQ;rw[hs];clear hs h0 h1 h2 h3 h4 h5 h6;go_enter Tryz.func20,Tryz.ntmps20;go_wp2_with (go_at_call 53;refine HEQ.out.mono ?_;rintro e w' ⟨rfl,q,rfl⟩)
   go_ret;exact⟨rfl,HB.out _⟩
 by_cases h7:a.size=b.size
 rotate_left
 · have e0:((a.k:Int) == (b.k:Int))=true:=by rw[beq_iff_eq];omega
   have n0:((a.k:Int) != (b.k:Int))=false:=by unfold bne;rw[e0];rfl
   have e1:((str a.who).toList == (str b.who).toList)=true:=by rw[zbs];simpa using h1
   have n1:((str a.who).toList != (str b.who).toList)=false:=by unfold bne;rw[e1];rfl
   have e2:((str a.name).toList == (str b.name).toList)=true:=by rw[zbs];simpa using h2
   have n2:((str a.name).toList != (str b.name).toList)=false:=by unfold bne;rw[e2];rfl
   have e3:((str a.ver).toList == (str b.ver).toList)=true:=by rw[zbs];simpa using h3
   have n3:((str a.ver).toList != (str b.ver).toList)=false:=by unfold bne;rw[e3];rfl
   have e4:decide (a.needs=b.needs)=true:=by simpa using h4
   have e5:((a.sum:Int) == (b.sum:Int))=true:=by rw[beq_iff_eq];omega
   have n5:((a.sum:Int) != (b.sum:Int))=false:=by unfold bne;rw[e5];rfl
   have e6:((a.n:Int) == (b.n:Int))=true:=by rw[beq_iff_eq];omega
   have n6:((a.n:Int) != (b.n:Int))=false:=by unfold bne;rw[e6];rfl
   have e7:((a.size:Int) == (b.size:Int))=false:=by rw[beq_eq_false_iff_ne];omega
   have n7:((a.size:Int) != (b.size:Int))=true:=by unfold bne;rw[e7];rfl
   have hs:sameE a b=false:=by unfold sameE;simp[h7]
   rw[e4] at HEQ;rw[hs];clear hs h0 h1 h2 h3 h4 h5 h6 h7;go_enter Tryz.func20,Tryz.ntmps20;go_wp2_with (go_at_call 53;refine HEQ.out.mono ?_;rintro e w' ⟨rfl,q,rfl⟩)
   go_ret;exact⟨rfl,HB.out _⟩
 by_cases h8:a.holder=b.holder
 rotate_left
 · have e0:((a.k:Int) == (b.k:Int))=true:=by rw[beq_iff_eq];omega
   have n0:((a.k:Int) != (b.k:Int))=false:=by unfold bne;rw[e0];rfl
   have e1:((str a.who).toList == (str b.who).toList)=true:=by rw[zbs];simpa using h1
   have n1:((str a.who).toList != (str b.who).toList)=false:=by unfold bne;rw[e1];rfl
   have e2:((str a.name).toList == (str b.name).toList)=true:=by rw[zbs];simpa using h2
   have n2:((str a.name).toList != (str b.name).toList)=false:=by unfold bne;rw[e2];rfl
   have e3:((str a.ver).toList == (str b.ver).toList)=true:=by rw[zbs];simpa using h3
   have n3:((str a.ver).toList != (str b.ver).toList)=false:=by unfold bne;rw[e3];rfl
   have e4:decide (a.needs=b.needs)=true:=by simpa using h4
   have e5:((a.sum:Int) == (b.sum:Int))=true:=by rw[beq_iff_eq];omega
   have n5:((a.sum:Int) != (b.sum:Int))=false:=by unfold bne;rw[e5];rfl
   have e6:((a.n:Int) == (b.n:Int))=true:=by rw[beq_iff_eq];omega
   have n6:((a.n:Int) != (b.n:Int))=false:=by unfold bne;rw[e6];rfl
   have e7:((a.size:Int) == (b.size:Int))=true:=by rw[beq_iff_eq];omega
   have n7:((a.size:Int) != (b.size:Int))=false:=by unfold bne;rw[e7];rfl
   have e8:((str a.holder).toList == (str b.holder).toList)=false:=by rw[zbs];simpa using h8
   have n8:((str a.holder).toList != (str b.holder).toList)=true:=by unfold bne;rw[e8];rfl
   have hs:sameE a b=false:=by unfold sameE;simp[h8]
   rw[e4] at HEQ;rw[hs];clear hs h0 h1 h2 h3 h4 h5 h6 h7 h8;go_enter Tryz.func20,Tryz.ntmps20;go_wp2_with (go_at_call 53;refine HEQ.out.mono ?_;rintro e w' ⟨rfl,q,rfl⟩)
   go_ret;exact⟨rfl,HB.out _⟩
 by_cases h9:a.note=b.note
 rotate_left
 · have e0:((a.k:Int) == (b.k:Int))=true:=by rw[beq_iff_eq];omega
   have n0:((a.k:Int) != (b.k:Int))=false:=by unfold bne;rw[e0];rfl
   have e1:((str a.who).toList == (str b.who).toList)=true:=by rw[zbs];simpa using h1
   have n1:((str a.who).toList != (str b.who).toList)=false:=by unfold bne;rw[e1];rfl
   have e2:((str a.name).toList == (str b.name).toList)=true:=by rw[zbs];simpa using h2
   have n2:((str a.name).toList != (str b.name).toList)=false:=by unfold bne;rw[e2];rfl
   have e3:((str a.ver).toList == (str b.ver).toList)=true:=by rw[zbs];simpa using h3
   have n3:((str a.ver).toList != (str b.ver).toList)=false:=by unfold bne;rw[e3];rfl
   have e4:decide (a.needs=b.needs)=true:=by simpa using h4
   have e5:((a.sum:Int) == (b.sum:Int))=true:=by rw[beq_iff_eq];omega
   have n5:((a.sum:Int) != (b.sum:Int))=false:=by unfold bne;rw[e5];rfl
   have e6:((a.n:Int) == (b.n:Int))=true:=by rw[beq_iff_eq];omega
   have n6:((a.n:Int) != (b.n:Int))=false:=by unfold bne;rw[e6];rfl
   have e7:((a.size:Int) == (b.size:Int))=true:=by rw[beq_iff_eq];omega
   have n7:((a.size:Int) != (b.size:Int))=false:=by unfold bne;rw[e7];rfl
   have e8:((str a.holder).toList == (str b.holder).toList)=true:=by rw[zbs];simpa using h8
   have n8:((str a.holder).toList != (str b.holder).toList)=false:=by unfold bne;rw[e8];rfl
   have e9:((str a.note).toList == (str b.note).toList)=false:=by rw[zbs];simpa using h9
   have n9:((str a.note).toList != (str b.note).toList)=true:=by unfold bne;rw[e9];rfl
   have hs:sameE a b=false:=by unfold sameE;simp[h9]
   rw[e4] at HEQ;rw[hs];clear hs h0 h1 h2 h3 h4 h5 h6 h7 h8 h9;go_enter Tryz.func20,Tryz.ntmps20;go_wp2_with (go_at_call 53;refine HEQ.out.mono ?_;rintro e w' ⟨rfl,q,rfl⟩)
   go_ret;exact⟨rfl,HB.out _⟩
 have e0:((a.k:Int) == (b.k:Int))=true:=by rw[beq_iff_eq];omega
 have n0:((a.k:Int) != (b.k:Int))=false:=by unfold bne;rw[e0];rfl
 have e1:((str a.who).toList == (str b.who).toList)=true:=by rw[zbs];simpa using h1
 have n1:((str a.who).toList != (str b.who).toList)=false:=by unfold bne;rw[e1];rfl
 have e2:((str a.name).toList == (str b.name).toList)=true:=by rw[zbs];simpa using h2
 have n2:((str a.name).toList != (str b.name).toList)=false:=by unfold bne;rw[e2];rfl
 have e3:((str a.ver).toList == (str b.ver).toList)=true:=by rw[zbs];simpa using h3
 have n3:((str a.ver).toList != (str b.ver).toList)=false:=by unfold bne;rw[e3];rfl
 have e4:decide (a.needs=b.needs)=true:=by simpa using h4
 have e5:((a.sum:Int) == (b.sum:Int))=true:=by rw[beq_iff_eq];omega
 have n5:((a.sum:Int) != (b.sum:Int))=false:=by unfold bne;rw[e5];rfl
 have e6:((a.n:Int) == (b.n:Int))=true:=by rw[beq_iff_eq];omega
 have n6:((a.n:Int) != (b.n:Int))=false:=by unfold bne;rw[e6];rfl
 have e7:((a.size:Int) == (b.size:Int))=true:=by rw[beq_iff_eq];omega
 have n7:((a.size:Int) != (b.size:Int))=false:=by unfold bne;rw[e7];rfl
 have e8:((str a.holder).toList == (str b.holder).toList)=true:=by rw[zbs];simpa using h8
 have n8:((str a.holder).toList != (str b.holder).toList)=false:=by unfold bne;rw[e8];rfl
 have e9:((str a.note).toList == (str b.note).toList)=true:=by rw[zbs];simpa using h9
 have n9:((str a.note).toList != (str b.note).toList)=false:=by unfold bne;rw[e9];rfl
 have hs:sameE a b=true:=by unfold sameE;simp[h0,h1,h2,h3,h4,h5,h6,h7,h8,h9]
 rw[e4] at HEQ;rw[hs];clear hs h0 h1 h2 h3 h4 h5 h6 h7 h8 h9;go_enter Tryz.func20,Tryz.ntmps20;go_wp2_with (go_at_call 53;refine HEQ.out.mono ?_;rintro e w' ⟨rfl,q,rfl⟩)
 go_ret;exact⟨rfl,HB.out _⟩
end EvC
end
section
open Go.RowKit
namespace EvC
open EvA StrC AppC
theorem zvh:∀(L:List (B×B)) (i j:Nat),i<L.length→j<2→(L.flatMap needL)[i*2+j]?=some ((needL L[i]!)[j]!)
 | [],_,_,h,_=>absurd h (by simp)
 | x :: L,0,j,_,hj=>by
   have:j=0∨j=1:=by omega
   rcases this with rfl|rfl<;>rfl
 | x :: L,i+1,j,h,hj=>by
   have ih:=zvh L i j (by simpa using h) hj
   show (needL x++L.flatMap needL)[(i+1)*2+j]?=_;rw[List.getElem?_append_right (by simp;omega)];have:(i+1)*2+j-(needL x).length=i*2+j:=by simp;omega
   rw[this,ih]
   rfl
theorem zvi{w:World}{N:Nat}{v:Value}{L:List (B×B)}(h:w.ownsRow N 81 2 v L.length (L.flatMap needL))(hf:L.length*32≤140737488351232)(hs:∀x∈L,x.1.length≤140737488351232∧x.2.length≤140737488351232):
 ∃a c,v= .slice a L.length c∧NeIn w a c L:=by
 have h':=h;obtain⟨_,⟨rfl,h0⟩|⟨g,cp,cur,rfl,hg0,hblk,hle,_⟩⟩:=h'
 · have:L=[]:=List.length_eq_zero_iff.1 h0
   subst this;exact⟨none,0,rfl,NeIn.no w⟩
 · refine⟨_,cp,rfl,hle,hf,hs,fun h0=>⟨g,0,rfl,fun i hi j hj=>?_⟩⟩
   rw[Nat.zero_add,h.cellAt (i*2+j) (by omega),zvh L i j hi hj]
theorem zvj{w w':World}{a:Option Addr}{c:Nat}{L:List (B×B)}(h:NeIn w a c L)(g:∀b o,a=some ⟨b,o,none⟩→w'.heap[b]?=w.heap[b]?):NeIn w' a c L:=
 ⟨h.le,h.few,h.short,fun h0=>by
  obtain⟨b,o,e,hc⟩:=h.cells h0;exact⟨b,o,e,fun i hi j hj=>by rw[World.cell?_of_block (a:=⟨b,o+i*2+j,none⟩) (g b o e)];exact hc i hi j hj⟩⟩
theorem zvk:(Tryz.prog.info? 27).map (·.size)=some 10:=by kernel_rfl
theorem zvl(e:EvG):((evL e).toArray.all (·.oneCell'))=true:=by simp[Value.oneCell']
theorem zvm{w:World}{g:Nat}{cs:Array Value}{t:TypeId}{fr:Nat×Nat}(h:w.heap[g]?=some (.cells cs t fr))(i:Nat)(v:Value):(w.setCell ⟨g,i,none⟩ v).heap[g]?=some (.cells (cs.setIfInBounds i v) t fr):=by
 unfold World.setCell;simp[Array.getElem?_modify,h]
theorem zvn{w:World}{g k:Nat}(i:Nat)(v:Value)(h:k≠g):(w.setCell ⟨g,i,none⟩ v).heap[k]?=w.heap[k]?:=Below.heap_setCell w ⟨g,i,none⟩ v k h
theorem zvo{w:World}{g:Nat}{cs:Array Value}{t:TypeId}(h:w.heap[g]?=some (.cells cs t (0,0)))(i:Nat):w.frozen? ⟨g,i,none⟩=false:=by simp[World.frozen?,h]
def atE(e:EvG)(a:Option Addr)(c:Nat):EvG:=⟨e.k,e.who,e.name,e.ver,a,c,e.needs,e.sum,e.n,e.size,e.holder,e.note⟩
end EvC
end
end Go.Proofs.YtbninnkpjdofbaaGreatDoor
