/-
  What the proof of EventReads stands on, part 24.
-/
import Derived.Lib.AppendStr
import Derived.Sort.OwnSortedInts
import Derived.Test.YtbninnkpjdofbaaGreatDoorT23
set_option linter.unusedSimpArgs false
set_option linter.unusedVariables false
set_option maxHeartbeats 16000000
namespace Go.Proofs.YtbninnkpjdofbaaGreatDoor
open Go.Lib (hid)
section
open Go.RowKit Go.Sort Go.Shelf
namespace EvF
def zvs(k:Nat):List Int:=match k with
 | 1=>[0,4]
 | 2=>[0,1,2,3,4,5,6]
 | 3=>[0,1,2]
 | 4=>[0,1,2]
 | 5=>[0,1,2,9]
 | 6=>[0,1,7]
 | 7=>[0,1,7]
 | 8=>[0,7]
 | 9=>[0,7,8]
 | 10=>[0,7,8]
 | _=>[]
theorem zvt:(Tryz.prog.info? 118).map (fun i=>(i.zero,i.size,i.bytes))=some (some (.int .i64 0),1,8):=by kernel_rfl
def FRow(w:World)(D:Nat)(v:Value)(L:List Int):Prop:=w.ownsRow D 118 1 v L.length (L.map (Value.int .i64))
def FieldsE(L:List Int)(w:World)(e:Ending)(w':World):Prop:=∃v,e= .returned v∧FRow w' w.heap.size v L∧Below w.heap.size w w'
theorem zvu(w:World)(l:List Value)(t:TypeId):∀j u,l[j]?=some u→(w.alloc (.cells l.toArray t)).cell? ((⟨w.heap.size,0,none⟩:Addr).add j)=some u:=by
 intro j u hu;rw[Go.WideShapes.add_plain,Nat.zero_add];simp only[World.cell?,heap_alloc_new]
 simpa using hu
theorem zvv(l:List Int):∀u∈l.map (Value.int .i64),u.oneCell'=true:=by
 intro u hu;obtain⟨x,-,rfl⟩:=List.mem_map.1 hu
 rfl
theorem zvw{zs ss:List Int}(hp:zs.Perm ss)(hs:ss.Pairwise (·≤·)):zs.mergeSort (fun x y=>decide (x≤y))=ss:=by
 have h1:(zs.mergeSort (fun x y=>decide (x≤y))).Pairwise (fun x y=>decide (x≤y)=true):=List.pairwise_mergeSort (fun a b c=>by simp;omega) (fun a b=>by simp;omega) zs;have h2:=List.mergeSort_perm zs (fun x y=>decide (x≤y));exact List.Perm.eq_of_pairwise (le:=fun x y=>x≤y) (fun a b _ _ h k=>Int.le_antisymm h k) (h1.imp fun h=>by simpa using h) hs (h2.trans hp)
theorem zvx{w:World}{D:Nat}{v:Value}(zs ss:List Int)(hm:zs.mergeSort (fun x y=>decide (x≤y))=ss)(hl:ss.length=zs.length)(h0:0<zs.length)(hs:zs.length≤1000)(hown:FRow w D v zs):
 ∃g cp,v= .slice (some ⟨g,0,none⟩) zs.length cp∧D≤g∧Calls Tryz.prog 99 #[.slice (some ⟨g,0,none⟩) zs.length cp] w fun e w'=>e= .returned (.tuple #[])∧FRow w' D (.slice (some ⟨g,0,none⟩) zs.length cp) ss∧w.grownBy w' (some g):=by
 rcases hown.2 with ⟨hnil,hz⟩|⟨g,cp,cur,rfl,hbase,hblk,h1,h2,h3,h4⟩
 · omega
 · have hgl:g<w.heap.size:=(Array.getElem?_eq_some_iff.1 hblk).1
   refine⟨g,cp,rfl,hbase,(AnyG.slices_Sort_int Tryz.sortFd g 0 cp zs w (holds_of_blockI hblk (by rw[Nat.mul_one] at h4;exact h4)) hgl (by omega)).mono ?_⟩;rintro e w' ⟨rfl,n,os,rfl⟩;rw[hm];have ho:=ownsRow_sortedI (n:=n) (os:=os) hl hbase hblk h1 h2 h3;refine⟨rfl,?_,grownBy_sortedI _⟩;unfold FRow;rw[hl];exact ho
set_option maxRecDepth 100000 in
theorem zvy(w:World):Calls Tryz.prog 50 #[.int .u8 1] w (FieldsE [0,4] w):=by
 obtain⟨i0,hi,hz0,hz1,hz2⟩:=info_parts zvt;have hm:([0,4]:List Int).mergeSort (fun x y=>decide (x≤y))=[0,4]:=zvw (by decide) (by decide);go_enter Tryz.func50,Tryz.ntmps50;go_wp2_with (first | (at_builtin;refine wpList_append_own _ rfl _ _ 116 rfl w.heap.size 118 i0 (.int .i64 0) 1 8 Tryz.underlying116 hi hz0 hz1 hz2 rfl (by decide) _ 0 [] rfl (World.ownsRow.alloc (World.ownsRow_nil w w.heap.size 118 1) _) ⟨w.heap.size,0,none⟩ 2 2 [.int .i64 0,.int .i64 4] rfl rfl ?c1 ?c2 ?c3 ?c4 ?c5 ?_)|fail)
 case c1=>exact zvu w [.int .i64 0,.int .i64 4] 118
 case c2=>exact zvv [0,4]
 case c3=>unfold maxLen;decide
 case c4=>decide
 case c5=>simp
 intro v1 w1 hown1 hg1 _;have hb1:Below w.heap.size w w1:=((Below.refl w.heap.size w).alloc (Nat.le_refl _) _).grown hg1 (by simp) (fun j hj=>by cases hj);have hrow:FRow w1 w.heap.size v1 [0,4]:=hown1;obtain⟨g,cp,rfl,hbase,HS⟩:=zvx [0,4] [0,4] hm rfl (by decide) (by decide) hrow;have HSH:=hid HS;have HB:=hid hb1;clear HS;go_wp2_with (first | (go_at_call 99;refine HSH.out.mono ?_;rintro e w' ⟨rfl,ho,hg⟩)|fail)
 go_ret;exact⟨_,rfl,ho,HB.out.grown hg HB.out.size (fun j hj=>by cases hj;exact hbase)⟩
set_option maxRecDepth 100000 in
theorem zvz(w:World):Calls Tryz.prog 50 #[.int .u8 2] w (FieldsE [0,1,2,3,4,5,6] w):=by
 obtain⟨i0,hi,hz0,hz1,hz2⟩:=info_parts zvt;have hm:([1,2,3,5,6,0,4]:List Int).mergeSort (fun x y=>decide (x≤y))=[0,1,2,3,4,5,6]:=zvw (by decide) (by decide);go_enter Tryz.func50,Tryz.ntmps50;go_wp2_with (first | (at_builtin;refine wpList_append_own _ rfl _ _ 116 rfl w.heap.size 118 i0 (.int .i64 0) 1 8 Tryz.underlying116 hi hz0 hz1 hz2 rfl (by decide) _ 0 [] rfl (World.ownsRow.alloc (World.ownsRow_nil w w.heap.size 118 1) _) ⟨w.heap.size,0,none⟩ 5 5 [.int .i64 1,.int .i64 2,.int .i64 3,.int .i64 5,.int .i64 6] rfl rfl ?c1 ?c2 ?c3 ?c4 ?c5 ?_)|fail)
 case c1=>exact zvu w [.int .i64 1,.int .i64 2,.int .i64 3,.int .i64 5,.int .i64 6] 118
 case c2=>exact zvv [1,2,3,5,6]
 case c3=>unfold maxLen;decide
 case c4=>decide
 case c5=>simp
 intro v1 w1 hown1 hg1 _;have hb1:Below w.heap.size w w1:=((Below.refl w.heap.size w).alloc (Nat.le_refl _) _).grown hg1 (by simp) (fun j hj=>by cases hj);go_wp2_with (first | (at_builtin;refine wpList_append_own _ rfl _ _ 116 rfl w.heap.size 118 i0 (.int .i64 0) 1 8 Tryz.underlying116 hi hz0 hz1 hz2 rfl (by decide) _ 5 ([1,2,3,5,6].map (Value.int .i64)) rfl (World.ownsRow.alloc hown1 _) ⟨w1.heap.size,0,none⟩ 2 2 [.int .i64 0,.int .i64 4] rfl rfl ?c1 ?c2 ?c3 ?c4 ?c5 ?_)|fail)
 case c1=>exact zvu w1 [.int .i64 0,.int .i64 4] 118
 case c2=>exact zvv [0,4]
 case c3=>unfold maxLen;decide
 case c4=>decide
 case c5=>have:=hb1.size;simp;omega
 intro v2 w2 hown2 hg2 _;have hb2:Below w.heap.size w w2:=(hb1.alloc hb1.size _).grown hg2 (by have:=hb1.size;simp;omega) (fun j hj=>(World.ownsRow.lt hown1 j hj).1);have hrow:FRow w2 w.heap.size v2 [1,2,3,5,6,0,4]:=hown2;obtain⟨g,cp,rfl,hbase,HS⟩:=zvx [1,2,3,5,6,0,4] [0,1,2,3,4,5,6] hm rfl (by decide) (by decide) hrow;have HSH:=hid HS;have HB:=hid hb2;clear HS;go_wp2_with (first | (go_at_call 99;refine HSH.out.mono ?_;rintro e w' ⟨rfl,ho,hg⟩)|fail)
 go_ret;exact⟨_,rfl,ho,HB.out.grown hg HB.out.size (fun j hj=>by cases hj;exact hbase)⟩
set_option maxRecDepth 100000 in
theorem zwa(w:World):Calls Tryz.prog 50 #[.int .u8 3] w (FieldsE [0,1,2] w):=by
 obtain⟨i0,hi,hz0,hz1,hz2⟩:=info_parts zvt;have hm:([0,1,2]:List Int).mergeSort (fun x y=>decide (x≤y))=[0,1,2]:=zvw (by decide) (by decide);go_enter Tryz.func50,Tryz.ntmps50;go_wp2_with (first | (at_builtin;refine wpList_append_own _ rfl _ _ 116 rfl w.heap.size 118 i0 (.int .i64 0) 1 8 Tryz.underlying116 hi hz0 hz1 hz2 rfl (by decide) _ 0 [] rfl (World.ownsRow.alloc (World.ownsRow_nil w w.heap.size 118 1) _) ⟨w.heap.size,0,none⟩ 3 3 [.int .i64 0,.int .i64 1,.int .i64 2] rfl rfl ?c1 ?c2 ?c3 ?c4 ?c5 ?_)|fail)
 case c1=>exact zvu w [.int .i64 0,.int .i64 1,.int .i64 2] 118
 case c2=>exact zvv [0,1,2]
 case c3=>unfold maxLen;decide
 case c4=>decide
 case c5=>simp
 intro v1 w1 hown1 hg1 _;have hb1:Below w.heap.size w w1:=((Below.refl w.heap.size w).alloc (Nat.le_refl _) _).grown hg1 (by simp) (fun j hj=>by cases hj);have hrow:FRow w1 w.heap.size v1 [0,1,2]:=hown1;obtain⟨g,cp,rfl,hbase,HS⟩:=zvx [0,1,2] [0,1,2] hm rfl (by decide) (by decide) hrow;have HSH:=hid HS;have HB:=hid hb1;clear HS;go_wp2_with (first | (go_at_call 99;refine HSH.out.mono ?_;rintro e w' ⟨rfl,ho,hg⟩)|fail)
 go_ret;exact⟨_,rfl,ho,HB.out.grown hg HB.out.size (fun j hj=>by cases hj;exact hbase)⟩
set_option maxRecDepth 100000 in
theorem zwb(w:World):Calls Tryz.prog 50 #[.int .u8 4] w (FieldsE [0,1,2] w):=by
 obtain⟨i0,hi,hz0,hz1,hz2⟩:=info_parts zvt;have hm:([0,1,2]:List Int).mergeSort (fun x y=>decide (x≤y))=[0,1,2]:=zvw (by decide) (by decide);go_enter Tryz.func50,Tryz.ntmps50;go_wp2_with (first | (at_builtin;refine wpList_append_own _ rfl _ _ 116 rfl w.heap.size 118 i0 (.int .i64 0) 1 8 Tryz.underlying116 hi hz0 hz1 hz2 rfl (by decide) _ 0 [] rfl (World.ownsRow.alloc (World.ownsRow_nil w w.heap.size 118 1) _) ⟨w.heap.size,0,none⟩ 3 3 [.int .i64 0,.int .i64 1,.int .i64 2] rfl rfl ?c1 ?c2 ?c3 ?c4 ?c5 ?_)|fail)
 case c1=>exact zvu w [.int .i64 0,.int .i64 1,.int .i64 2] 118
 case c2=>exact zvv [0,1,2]
 case c3=>unfold maxLen;decide
 case c4=>decide
 case c5=>simp
 intro v1 w1 hown1 hg1 _;have hb1:Below w.heap.size w w1:=((Below.refl w.heap.size w).alloc (Nat.le_refl _) _).grown hg1 (by simp) (fun j hj=>by cases hj);have hrow:FRow w1 w.heap.size v1 [0,1,2]:=hown1;obtain⟨g,cp,rfl,hbase,HS⟩:=zvx [0,1,2] [0,1,2] hm rfl (by decide) (by decide) hrow;have HSH:=hid HS;have HB:=hid hb1;clear HS;go_wp2_with (first | (go_at_call 99;refine HSH.out.mono ?_;rintro e w' ⟨rfl,ho,hg⟩)|fail)
 go_ret;exact⟨_,rfl,ho,HB.out.grown hg HB.out.size (fun j hj=>by cases hj;exact hbase)⟩
set_option maxRecDepth 100000 in
theorem zwc(w:World):Calls Tryz.prog 50 #[.int .u8 5] w (FieldsE [0,1,2,9] w):=by
 obtain⟨i0,hi,hz0,hz1,hz2⟩:=info_parts zvt;have hm:([9,0,1,2]:List Int).mergeSort (fun x y=>decide (x≤y))=[0,1,2,9]:=zvw (by decide) (by decide);go_enter Tryz.func50,Tryz.ntmps50;go_wp2_with (first | (at_builtin;refine wpList_append_own _ rfl _ _ 116 rfl w.heap.size 118 i0 (.int .i64 0) 1 8 Tryz.underlying116 hi hz0 hz1 hz2 rfl (by decide) _ 0 [] rfl (World.ownsRow.alloc (World.ownsRow_nil w w.heap.size 118 1) _) ⟨w.heap.size,0,none⟩ 1 1 [.int .i64 9] rfl rfl ?c1 ?c2 ?c3 ?c4 ?c5 ?_)|fail)
 case c1=>exact zvu w [.int .i64 9] 118
 case c2=>exact zvv [9]
 case c3=>unfold maxLen;decide
 case c4=>decide
 case c5=>simp
 intro v1 w1 hown1 hg1 _;have hb1:Below w.heap.size w w1:=((Below.refl w.heap.size w).alloc (Nat.le_refl _) _).grown hg1 (by simp) (fun j hj=>by cases hj);go_wp2_with (first | (at_builtin;refine wpList_append_own _ rfl _ _ 116 rfl w.heap.size 118 i0 (.int .i64 0) 1 8 Tryz.underlying116 hi hz0 hz1 hz2 rfl (by decide) _ 1 ([9].map (Value.int .i64)) rfl (World.ownsRow.alloc hown1 _) ⟨w1.heap.size,0,none⟩ 3 3 [.int .i64 0,.int .i64 1,.int .i64 2] rfl rfl ?c1 ?c2 ?c3 ?c4 ?c5 ?_)|fail)
 case c1=>exact zvu w1 [.int .i64 0,.int .i64 1,.int .i64 2] 118
 case c2=>exact zvv [0,1,2]
 case c3=>unfold maxLen;decide
 case c4=>decide
 case c5=>have:=hb1.size;simp;omega
 intro v2 w2 hown2 hg2 _;have hb2:Below w.heap.size w w2:=(hb1.alloc hb1.size _).grown hg2 (by have:=hb1.size;simp;omega) (fun j hj=>(World.ownsRow.lt hown1 j hj).1);have hrow:FRow w2 w.heap.size v2 [9,0,1,2]:=hown2;obtain⟨g,cp,rfl,hbase,HS⟩:=zvx [9,0,1,2] [0,1,2,9] hm rfl (by decide) (by decide) hrow;have HSH:=hid HS;have HB:=hid hb2;clear HS;go_wp2_with (first | (go_at_call 99;refine HSH.out.mono ?_;rintro e w' ⟨rfl,ho,hg⟩)|fail)
 go_ret;exact⟨_,rfl,ho,HB.out.grown hg HB.out.size (fun j hj=>by cases hj;exact hbase)⟩
set_option maxRecDepth 100000 in
theorem zwd(w:World):Calls Tryz.prog 50 #[.int .u8 6] w (FieldsE [0,1,7] w):=by
 obtain⟨i0,hi,hz0,hz1,hz2⟩:=info_parts zvt;have hm:([0,1,7]:List Int).mergeSort (fun x y=>decide (x≤y))=[0,1,7]:=zvw (by decide) (by decide);go_enter Tryz.func50,Tryz.ntmps50;go_wp2_with (first | (at_builtin;refine wpList_append_own _ rfl _ _ 116 rfl w.heap.size 118 i0 (.int .i64 0) 1 8 Tryz.underlying116 hi hz0 hz1 hz2 rfl (by decide) _ 0 [] rfl (World.ownsRow.alloc (World.ownsRow_nil w w.heap.size 118 1) _) ⟨w.heap.size,0,none⟩ 3 3 [.int .i64 0,.int .i64 1,.int .i64 7] rfl rfl ?c1 ?c2 ?c3 ?c4 ?c5 ?_)|fail)
 case c1=>exact zvu w [.int .i64 0,.int .i64 1,.int .i64 7] 118
 case c2=>exact zvv [0,1,7]
 case c3=>unfold maxLen;decide
 case c4=>decide
 case c5=>simp
 intro v1 w1 hown1 hg1 _;have hb1:Below w.heap.size w w1:=((Below.refl w.heap.size w).alloc (Nat.le_refl _) _).grown hg1 (by simp) (fun j hj=>by cases hj);have hrow:FRow w1 w.heap.size v1 [0,1,7]:=hown1;obtain⟨g,cp,rfl,hbase,HS⟩:=zvx [0,1,7] [0,1,7] hm rfl (by decide) (by decide) hrow;have HSH:=hid HS;have HB:=hid hb1;clear HS;go_wp2_with (first | (go_at_call 99;refine HSH.out.mono ?_;rintro e w' ⟨rfl,ho,hg⟩)|fail)
 go_ret;exact⟨_,rfl,ho,HB.out.grown hg HB.out.size (fun j hj=>by cases hj;exact hbase)⟩
set_option maxRecDepth 100000 in
theorem zwe(w:World):Calls Tryz.prog 50 #[.int .u8 7] w (FieldsE [0,1,7] w):=by
 obtain⟨i0,hi,hz0,hz1,hz2⟩:=info_parts zvt;have hm:([0,1,7]:List Int).mergeSort (fun x y=>decide (x≤y))=[0,1,7]:=zvw (by decide) (by decide);go_enter Tryz.func50,Tryz.ntmps50;go_wp2_with (first | (at_builtin;refine wpList_append_own _ rfl _ _ 116 rfl w.heap.size 118 i0 (.int .i64 0) 1 8 Tryz.underlying116 hi hz0 hz1 hz2 rfl (by decide) _ 0 [] rfl (World.ownsRow.alloc (World.ownsRow_nil w w.heap.size 118 1) _) ⟨w.heap.size,0,none⟩ 3 3 [.int .i64 0,.int .i64 1,.int .i64 7] rfl rfl ?c1 ?c2 ?c3 ?c4 ?c5 ?_)|fail)
 case c1=>exact zvu w [.int .i64 0,.int .i64 1,.int .i64 7] 118
 case c2=>exact zvv [0,1,7]
 case c3=>unfold maxLen;decide
 case c4=>decide
 case c5=>simp
 intro v1 w1 hown1 hg1 _;have hb1:Below w.heap.size w w1:=((Below.refl w.heap.size w).alloc (Nat.le_refl _) _).grown hg1 (by simp) (fun j hj=>by cases hj);have hrow:FRow w1 w.heap.size v1 [0,1,7]:=hown1;obtain⟨g,cp,rfl,hbase,HS⟩:=zvx [0,1,7] [0,1,7] hm rfl (by decide) (by decide) hrow;have HSH:=hid HS;have HB:=hid hb1;clear HS;go_wp2_with (first | (go_at_call 99;refine HSH.out.mono ?_;rintro e w' ⟨rfl,ho,hg⟩)|fail)
 go_ret;exact⟨_,rfl,ho,HB.out.grown hg HB.out.size (fun j hj=>by cases hj;exact hbase)⟩
set_option maxRecDepth 100000 in
theorem fields_8(w:World):Calls Tryz.prog 50 #[.int .u8 8] w (FieldsE [0,7] w):=by
 obtain⟨i0,hi,hz0,hz1,hz2⟩:=info_parts zvt;have hm:([0,7]:List Int).mergeSort (fun x y=>decide (x≤y))=[0,7]:=zvw (by decide) (by decide);go_enter Tryz.func50,Tryz.ntmps50;go_wp2_with (first | (at_builtin;refine wpList_append_own _ rfl _ _ 116 rfl w.heap.size 118 i0 (.int .i64 0) 1 8 Tryz.underlying116 hi hz0 hz1 hz2 rfl (by decide) _ 0 [] rfl (World.ownsRow.alloc (World.ownsRow_nil w w.heap.size 118 1) _) ⟨w.heap.size,0,none⟩ 2 2 [.int .i64 0,.int .i64 7] rfl rfl ?c1 ?c2 ?c3 ?c4 ?c5 ?_)|fail)
 case c1=>exact zvu w [.int .i64 0,.int .i64 7] 118
 case c2=>exact zvv [0,7]
 case c3=>unfold maxLen;decide
 case c4=>decide
 case c5=>simp
 intro v1 w1 hown1 hg1 _;have hb1:Below w.heap.size w w1:=((Below.refl w.heap.size w).alloc (Nat.le_refl _) _).grown hg1 (by simp) (fun j hj=>by cases hj);have hrow:FRow w1 w.heap.size v1 [0,7]:=hown1;obtain⟨g,cp,rfl,hbase,HS⟩:=zvx [0,7] [0,7] hm rfl (by decide) (by decide) hrow;have HSH:=hid HS;have HB:=hid hb1;clear HS;go_wp2_with (first | (go_at_call 99;refine HSH.out.mono ?_;rintro e w' ⟨rfl,ho,hg⟩)|fail)
 go_ret;exact⟨_,rfl,ho,HB.out.grown hg HB.out.size (fun j hj=>by cases hj;exact hbase)⟩
set_option maxRecDepth 100000 in
theorem fields_9(w:World):Calls Tryz.prog 50 #[.int .u8 9] w (FieldsE [0,7,8] w):=by
 obtain⟨i0,hi,hz0,hz1,hz2⟩:=info_parts zvt;have hm:([8,0,7]:List Int).mergeSort (fun x y=>decide (x≤y))=[0,7,8]:=zvw (by decide) (by decide);go_enter Tryz.func50,Tryz.ntmps50;go_wp2_with (first | (at_builtin;refine wpList_append_own _ rfl _ _ 116 rfl w.heap.size 118 i0 (.int .i64 0) 1 8 Tryz.underlying116 hi hz0 hz1 hz2 rfl (by decide) _ 0 [] rfl (World.ownsRow.alloc (World.ownsRow_nil w w.heap.size 118 1) _) ⟨w.heap.size,0,none⟩ 1 1 [.int .i64 8] rfl rfl ?c1 ?c2 ?c3 ?c4 ?c5 ?_)|fail)
 case c1=>exact zvu w [.int .i64 8] 118
 case c2=>exact zvv [8]
 case c3=>unfold maxLen;decide
 case c4=>decide
 case c5=>simp
 intro v1 w1 hown1 hg1 _;have hb1:Below w.heap.size w w1:=((Below.refl w.heap.size w).alloc (Nat.le_refl _) _).grown hg1 (by simp) (fun j hj=>by cases hj);go_wp2_with (first | (at_builtin;refine wpList_append_own _ rfl _ _ 116 rfl w.heap.size 118 i0 (.int .i64 0) 1 8 Tryz.underlying116 hi hz0 hz1 hz2 rfl (by decide) _ 1 ([8].map (Value.int .i64)) rfl (World.ownsRow.alloc hown1 _) ⟨w1.heap.size,0,none⟩ 2 2 [.int .i64 0,.int .i64 7] rfl rfl ?c1 ?c2 ?c3 ?c4 ?c5 ?_)|fail)
 case c1=>exact zvu w1 [.int .i64 0,.int .i64 7] 118
 case c2=>exact zvv [0,7]
 case c3=>unfold maxLen;decide
 case c4=>decide
 case c5=>have:=hb1.size;simp;omega
 intro v2 w2 hown2 hg2 _;have hb2:Below w.heap.size w w2:=(hb1.alloc hb1.size _).grown hg2 (by have:=hb1.size;simp;omega) (fun j hj=>(World.ownsRow.lt hown1 j hj).1);have hrow:FRow w2 w.heap.size v2 [8,0,7]:=hown2;obtain⟨g,cp,rfl,hbase,HS⟩:=zvx [8,0,7] [0,7,8] hm rfl (by decide) (by decide) hrow;have HSH:=hid HS;have HB:=hid hb2;clear HS;go_wp2_with (first | (go_at_call 99;refine HSH.out.mono ?_;rintro e w' ⟨rfl,ho,hg⟩)|fail)
 go_ret;exact⟨_,rfl,ho,HB.out.grown hg HB.out.size (fun j hj=>by cases hj;exact hbase)⟩
set_option maxRecDepth 100000 in
theorem zwf(w:World):Calls Tryz.prog 50 #[.int .u8 10] w (FieldsE [0,7,8] w):=by
 obtain⟨i0,hi,hz0,hz1,hz2⟩:=info_parts zvt;have hm:([8,0,7]:List Int).mergeSort (fun x y=>decide (x≤y))=[0,7,8]:=zvw (by decide) (by decide);go_enter Tryz.func50,Tryz.ntmps50;go_wp2_with (first | (at_builtin;refine wpList_append_own _ rfl _ _ 116 rfl w.heap.size 118 i0 (.int .i64 0) 1 8 Tryz.underlying116 hi hz0 hz1 hz2 rfl (by decide) _ 0 [] rfl (World.ownsRow.alloc (World.ownsRow_nil w w.heap.size 118 1) _) ⟨w.heap.size,0,none⟩ 1 1 [.int .i64 8] rfl rfl ?c1 ?c2 ?c3 ?c4 ?c5 ?_)|fail)
 case c1=>exact zvu w [.int .i64 8] 118
 case c2=>exact zvv [8]
 case c3=>unfold maxLen;decide
 case c4=>decide
 case c5=>simp
 intro v1 w1 hown1 hg1 _;have hb1:Below w.heap.size w w1:=((Below.refl w.heap.size w).alloc (Nat.le_refl _) _).grown hg1 (by simp) (fun j hj=>by cases hj);go_wp2_with (first | (at_builtin;refine wpList_append_own _ rfl _ _ 116 rfl w.heap.size 118 i0 (.int .i64 0) 1 8 Tryz.underlying116 hi hz0 hz1 hz2 rfl (by decide) _ 1 ([8].map (Value.int .i64)) rfl (World.ownsRow.alloc hown1 _) ⟨w1.heap.size,0,none⟩ 2 2 [.int .i64 0,.int .i64 7] rfl rfl ?c1 ?c2 ?c3 ?c4 ?c5 ?_)|fail)
 case c1=>exact zvu w1 [.int .i64 0,.int .i64 7] 118
 case c2=>exact zvv [0,7]
 case c3=>unfold maxLen;decide
 case c4=>decide
 case c5=>have:=hb1.size;simp;omega
 intro v2 w2 hown2 hg2 _;have hb2:Below w.heap.size w w2:=(hb1.alloc hb1.size _).grown hg2 (by have:=hb1.size;simp;omega) (fun j hj=>(World.ownsRow.lt hown1 j hj).1);have hrow:FRow w2 w.heap.size v2 [8,0,7]:=hown2;obtain⟨g,cp,rfl,hbase,HS⟩:=zvx [8,0,7] [0,7,8] hm rfl (by decide) (by decide) hrow;have HSH:=hid HS;have HB:=hid hb2;clear HS;go_wp2_with (first | (go_at_call 99;refine HSH.out.mono ?_;rintro e w' ⟨rfl,ho,hg⟩)|fail)
 go_ret;exact⟨_,rfl,ho,HB.out.grown hg HB.out.size (fun j hj=>by cases hj;exact hbase)⟩
end EvF
end
section
namespace CodeM
def uintB(x:Nat):List UInt8:=if h:127<x then UInt8.ofNat (x % 128+128) :: uintB (x / 128) else [UInt8.ofNat x]
termination_by x
decreasing_by omega
def byteV(c:UInt8):Value:=.int .u8 (c.toNat:Int)
theorem zwg(x:Nat)(h:127<x):uintB x=UInt8.ofNat (x % 128+128) :: uintB (x / 128):=by rw[uintB,dif_pos h]
theorem zwh(x:Nat)(h:¬127<x):uintB x=[UInt8.ofNat x]:=by rw[uintB,dif_neg h]
theorem zwi(n:Nat)(h:n<256):byteV (UInt8.ofNat n)= .int .u8 (n:Int):=by
 unfold byteV;rw[UInt8.toNat_ofNat_of_lt' h]
theorem zwj(n x x0:Nat)(h:x*128 ^ n≤x0)(hx:1≤x)(h0:x0<18446744073709551616):n≤9:=by
 apply Classical.byContradiction
 intro hn;have h1:128 ^ 10≤128 ^ n:=Nat.pow_le_pow_right (by decide) (by omega);have h2:128 ^ n≤x*128 ^ n:=Nat.le_mul_of_pos_left _ hx;have h3:(128:Nat) ^ 10=1180591620717411303424:=by decide
 omega
theorem zwk(n x x0:Nat)(h:x*128 ^ n≤x0):x / 128*128 ^ (n+1)≤x0:=by
 have h1:x / 128*128 ^ (n+1)=x / 128*128*128 ^ n:=by rw[Nat.pow_succ,Nat.mul_assoc,Nat.mul_comm 128]
 have h2:x / 128*128*128 ^ n≤x*128 ^ n:=Nat.mul_le_mul_right _ (Nat.div_mul_le_self x 128);omega
def textB(s:List UInt8):List UInt8:=uintB s.length++s
def ur:Nat→Nat→List UInt8→Nat ⊕ (Nat×Nat)
 | n,_,[]=>if n=10 then .inl 21 else .inl 20
 | n,x,c :: r=>
   if n=10 then .inl 21
   else if n=9∧1<c.toNat then .inl 21
   else if c.toNat<128 then (if c.toNat=0∧0<n then .inl 21 else .inr (x+c.toNat % 128*128 ^ n,n+1))
   else ur (n+1) (x+c.toNat % 128*128 ^ n) r
theorem zwl(s:ByteArray)(k:Nat)(h:k<s.size):s.data.toList.drop k=s[k] :: s.data.toList.drop (k+1):=by
 rw[List.drop_eq_getElem_cons (by simpa using h)];rfl
theorem zwm(s:ByteArray)(k:Nat)(h:s.size≤k):s.data.toList.drop k=[]:=List.drop_of_length_le (by simpa using h)
theorem pow7(n:Nat):2 ^ (7*n)=128 ^ n:=by rw[Nat.pow_mul]
theorem zwn(n d:Nat)(hn:n≤9)(hd:d<128)(h9:n=9→d≤1):(d+1)*128 ^ n≤18446744073709551616:=by
 rcases (by omega:n=0∨n=1∨n=2∨n=3∨n=4∨n=5∨n=6∨n=7∨n=8∨n=9) with rfl|rfl|rfl|rfl|rfl|rfl|rfl|rfl|rfl|rfl<;>simp only[Nat.reducePow]<;>omega
theorem zwo(x n c:Nat)(hx:x<128 ^ n)(hn:n≤9)(h9:n=9→c % 128≤1):
 bits .or .u64 (x:Int) (IntKind.u64.wrap ((c:Int) % 128*2 ^ (7*n)))=((x+c % 128*128 ^ n:Nat):Int):=by
 have hd:c % 128<128:=Nat.mod_lt _ (by decide);have hb:=zwn n (c % 128) hn hd h9;rw[Nat.add_mul,Nat.one_mul] at hb;have e1:(c:Int) % 128*2 ^ (7*n)=((c % 128*128 ^ n:Nat):Int):=by rw[←pow7];simp
 have e2:IntKind.u64.wrap ((c % 128*128 ^ n:Nat):Int)=((c % 128*128 ^ n:Nat):Int):=by rw[IntKind.wrap_u64];omega
 rw[e1,e2,bits_or_u64_nat _ _ (by omega) (by omega)]
 congr 1
 have e3:c % 128*128 ^ n=(c % 128) <<< (7*n):=by rw[Nat.shiftLeft_eq,pow7]
 rw[e3,Nat.or_comm,←Nat.shiftLeft_add_eq_or_of_lt (by rw[pow7];exact hx),Nat.add_comm]
theorem zwp(x n d:Nat)(hx:x<128 ^ n)(hd:d<128):x+d*128 ^ n<128 ^ (n+1):=by
 have:d*128 ^ n≤127*128 ^ n:=Nat.mul_le_mul_right _ (by omega)
 rw[Nat.pow_succ];omega
def uRes(most k:Nat)(l:List UInt8):Nat×Nat×Nat×Nat:=
 match ur 0 0 l with
 | .inl e=>(0,e,k,k)
 | .inr (x,n)=>if most<x then (0,22,k,k) else (x,0,0,k+n)
theorem zwq{most k e:Nat}{l:List UInt8}(h:ur 0 0 l= .inl e):uRes most k l=(0,e,k,k):=by simp[uRes,h]
theorem zwr{most k x n:Nat}{l:List UInt8}(h:ur 0 0 l= .inr (x,n))(hm:most<x):uRes most k l=(0,22,k,k):=by simp[uRes,h,hm]
theorem zws{most k x n:Nat}{l:List UInt8}(h:ur 0 0 l= .inr (x,n))(hm:¬most<x):uRes most k l=(x,0,0,k+n):=by simp[uRes,h,hm]
theorem zwt:∀(l:List UInt8) (n x v m:Nat),ur n x l= .inr (v,m)→m≤n+l.length
 | [],n,x,v,m,h=>by rw[ur] at h;split at h<;>cases h
 | c :: r,n,x,v,m,h=>by
   rw[ur] at h
   split at h
   · cases h
   · split at h
     · cases h
     · split at h
       · split at h
         · cases h
         · cases h;simp
       · have:=zwt r _ _ _ _ h
         simp;omega
theorem zwu(most k:Nat)(s:ByteArray)(hk:k≤s.size):
 (∃e,e≠0∧e≤22∧uRes most k (s.data.toList.drop k)=(0,e,k,k))∨
 (∃v n,v≤most∧k+n≤s.size∧uRes most k (s.data.toList.drop k)=(v,0,0,k+n)):=by
 have hl:∀(l:List UInt8) (n x e:Nat),ur n x l= .inl e→e≠0∧e≤22:=by
  intro l
  induction l with
  | nil=>intro n x e h;rw[ur] at h;split at h<;>(cases h;decide)
  | cons c r ih=>
    intro n x e h;rw[ur] at h
    split at h
    · cases h;decide
    · split at h
      · cases h;decide
      · split at h
        · split at h
          · cases h;decide
          · cases h
        · exact ih _ _ _ h
 cases hu:ur 0 0 (s.data.toList.drop k) with
 | inl e=>exact Or.inl ⟨e,(hl _ _ _ _ hu).1,(hl _ _ _ _ hu).2,zwq hu⟩
 | inr p=>
   obtain⟨v,n⟩:=p;by_cases hm:most<v
   · exact Or.inl ⟨22,by decide,by decide,zwr hu hm⟩
   · have:=zwt _ _ _ _ _ hu
     rw[List.length_drop,Array.length_toList] at this;have e:s.data.size=s.size:=rfl;exact Or.inr ⟨v,n,by omega,by omega,zws hu hm⟩
def tRes(most k:Nat)(s:ByteArray):Nat×Nat×Nat×Nat×Nat:=
 let u:=uRes most k (s.data.toList.drop k)
 if u.2.1=0 then (if s.size-u.2.2.2<u.1 then (0,0,20,k,k) else (u.2.2.2,u.2.2.2+u.1,0,0,u.2.2.2+u.1)) else (0,0,u.2.1,k,k)
theorem zwv{most k e:Nat}{s:ByteArray}(h:uRes most k (s.data.toList.drop k)=(0,e,k,k))(he:e≠0):tRes most k s=(0,0,e,k,k):=by simp[tRes,h,he]
theorem zww{most k v q:Nat}{s:ByteArray}(h:uRes most k (s.data.toList.drop k)=(v,0,0,q))(hq:s.size-q<v):tRes most k s=(0,0,20,k,k):=by simp[tRes,h,hq]
theorem zwx{most k v q:Nat}{s:ByteArray}(h:uRes most k (s.data.toList.drop k)=(v,0,0,q))(hq:¬s.size-q<v):tRes most k s=(q,q+v,0,0,q+v):=by simp[tRes,h,hq]
end CodeM
end
section
open Go.RowKit
namespace CodeC
open CodeM
theorem zwy(l:List UInt8):strOfNums (l.map fun c=>(c.toNat:Int))=⟨l.toArray⟩:=by
 apply ByteArray.ext
 apply Array.toList_inj.1
 rw[strOfNums_data,List.map_map]
 show _=l
 conv=>rhs;rw[←List.map_id l]
 apply List.map_congr_left
 intro c _;simp
end CodeC
end
section
open Go.RowKit
namespace CodeC
open CodeM
theorem info_u8:(Tryz.prog.info? 5).map (fun i=>(i.zero,i.size,i.bytes))=some (some (.int .u8 0),1,1):=by kernel_rfl
theorem zwz(w:World)(v:Value)(t:TypeId):∀j u,[v][j]?=some u→(w.alloc (.cells #[v] t)).cell? ((⟨w.heap.size,0,none⟩:Addr).add j)=some u:=by
 intro j u hu
 match j with
 | 0=>
   rw[Go.WideShapes.add_plain,World.cell?_alloc_at _ _ _ _ rfl]
   simpa using hu
 | j+1=>simp at hu
theorem zxa(n:Int):∀u∈[Value.int .u8 n],u.oneCell'=true:=by
 intro u hu;rw[List.mem_singleton] at hu;subst hu
 rfl
theorem zxb{w:World}{B n:Nat}{v:Value}{l:List UInt8}(h:w.ownsRow B 5 1 v n (l.map byteV))(hn:0<n):
 (convert 171 9 v).run Tryz.prog w= .ok (.string ⟨l.toArray⟩) w:=by
 have hcs:∀g,v.ownBlock=some g→_:=fun g hg=>h.cells hg
 have hl:l.length=n:=by have:=h.1;simpa using this
 obtain⟨_,⟨rfl,h0⟩|⟨g,cp,cur,rfl,hg0,hblk,hle,hcm,hsz,htk⟩⟩:=h
 · omega
 · have e:=run_convert_bytes_arg (P:=Tryz.prog) w 171 5 Tryz.underlying171 Tryz.underlying5 g 0 n cp (l.map fun c=>(c.toNat:Int)) (by simp[hl]) (fun i hi=>by
    have:=hcs g rfl i (.int .u8 ((l.map fun c=>(c.toNat:Int)).getD i 0)) (by
     have hi':i<l.length:=by omega
     simp[hi',byteV])
    rw[Go.WideShapes.add_plain] at this;exact this) 9 Tryz.underlying9
   rw[e,zwy]
theorem zxc{w:World}{B n:Nat}{v:Value}{l:List UInt8}{m:Nat}{x:Int}(h:w.ownsRow B 5 1 v (n+1) (l.map byteV++ [Value.int .u8 x]))(hx:x=(m:Int))(hm:m<256):
 w.ownsRow B 5 1 v (n+1) ((l++ [UInt8.ofNat m]).map byteV):=by
 subst hx;rw[List.map_append,List.map_singleton,zwi m hm];exact h
theorem zxd:∀(n x:Nat),x<128 ^ n→0<n→(uintB x).length≤n
 | 0,_,_,h=>absurd h (by omega)
 | 1,x,h,_=>by rw[zwh x (by omega)];simp
 | n+2,x,h,_=>by
   by_cases hb:127<x
   · rw[zwg x hb]
     have:x / 128<128 ^ (n+1):=by
      rw[Nat.div_lt_iff_lt_mul (by decide),←Nat.pow_succ];exact h
     have:=zxd (n+1) (x / 128) this (by omega)
     simp;omega
   · rw[zwh x hb];simp
theorem zxe(x:Nat)(h:x<18446744073709551616):(uintB x).length≤10:=by
 have h3:(128:Nat) ^ 10=1180591620717411303424:=by decide
 exact zxd 10 x (by omega) (by omega)
end CodeC
end
section
open Go.RowKit
namespace CodeC
open CodeM
def Bytes(B n:Nat)(l:List UInt8)(w:World)(e:Ending)(w':World):Prop:=∃v,e= .returned v∧w'.ownsRow B 5 1 v n (l.map byteV)∧Below B w w'
theorem or_low(y:Nat):bits .or .u8 ((y:Int) % 256) 128=(y:Int) % 128+128:=by
 have H:∀n:Fin 256,bits .or .u8 (n.val:Int) 128=(n.val:Int) % 128+128:=by decide +kernel
 have e:=H ⟨y % 256,Nat.mod_lt _ (by decide)⟩;have e1:((y % 256:Nat):Int)=(y:Int) % 256:=by omega
 have e2:(y:Int) % 256 % 128=(y:Int) % 128:=by omega
 rw[show ((⟨y % 256,Nat.mod_lt _ (by decide)⟩:Fin 256).val:Int)=(y:Int) % 256 from e1,e2] at e;exact e
set_option maxRecDepth 100000 in
theorem au_any(x:Nat)(v:Value)(n:Nat)(l:List UInt8)(B:Nat)(w:World)(h:x<18446744073709551616)(hB:B≤w.heap.size)(hown:w.ownsRow B 5 1 v n (l.map byteV))(hn:n≤140737488355000):
 Calls Tryz.prog 134 #[v,.int .u64 x] w (Bytes B (n+(uintB x).length) (l++uintB x) w):=by
 obtain⟨i0,hi,hz0,hz1,hz2⟩:=info_parts info_u8;have H0:=hid h;clear h;go_enter Tryz.func134,Tryz.ntmps134;go_wp2_with fail;go_loopw [0,1] (fun vb vx wr=>∃(m y:Nat) (l2 L:List UInt8),vx= .int .u64 y∧Hid (L=l++l2)∧l2.length=m∧(m=0∨1≤y)∧Hid (uintB x=l2++uintB y)∧Hid (y*128 ^ m≤x)∧wr.ownsRow B 5 1 vb (n+m) (L.map byteV)∧Below B w wr) (fun _ vx _=>(intOf vx).toNat)
 case atStart=>exact⟨0,x,[],l,rfl,hid (by simp),rfl,Or.inl rfl,hid rfl,hid (by simp),hown,Below.refl _ _⟩
 case round=>
  clear hown;obtain⟨m,y,l2,L,rfl,HLL,hl,hny,HU,HP,hown,hB1⟩:=hrel;rename World=>wr
  have hy:y≤18446744073709551615:=by have:=HP.out;have:=H0.out;have h1:y*1≤y*128 ^ m:=Nat.mul_le_mul_left _ (Nat.pow_pos (by omega));omega
  have HL:=hid hl;clear hl;have HB:=hid hB1;clear hB1
  have hm:m≤9:=by
   rcases hny with h0|h0
   · omega
   · exact zwj m y x HP.out h0 H0.out
  have HN:=hid hny;clear hny;have HS:=hid hB;clear hB;by_cases hb:128≤y
  · have hor:=or_low y
    go_wp2_with (at_builtin;refine wpList_append_own _ rfl _ _ 171 rfl B 5 i0 (.int .u8 0) 1 1 Tryz.underlying171 hi hz0 hz1 hz2 rfl (by decide) _ _ _ rfl (hown.alloc _) ⟨wr.heap.size,0,none⟩ 1 1 [.int .u8 ((y:Int) % 128+128)] rfl rfl ?c1 ?c2 ?c3 ?c4 ?c5 ?_)
    case c1=>exact zwz _ _ _
    case c2=>exact zxa _
    case c3=>unfold maxLen;omega
    case c4=>omega
    case c5=>have:=HB.out.size;have:=HS.out;simp;omega
    intro v' w1 hown' hg _;have hB1:Below B w w1:=(HB.out.alloc (Nat.le_trans HS.out HB.out.size) _).grown hg (by have:=HB.out.size;have:=HS.out;simp;omega) (fun k hk=>(hown.lt k hk).1);have HO:=zxc (m:=y % 128+128) hown' (by omega) (by omega);have H1:=hid hB1;clear hown' hg hB1 hown;go_wp2_with fail;go_roundw
    case rel=>exact⟨m+1,y / 128,l2++ [UInt8.ofNat (y % 128+128)],L++ [UInt8.ofNat (y % 128+128)],by go_num,hid (by rw[HLL.out,List.append_assoc]),by simp[HL.out],Or.inr (by omega),hid (by rw[HU.out,zwg y (by omega)];simp),hid (zwk m y x HP.out),HO,H1.out⟩
    case measure=>simp[intOf];omega
  · go_wp2_with (at_builtin;refine wpList_append_own _ rfl _ _ 171 rfl B 5 i0 (.int .u8 0) 1 1 Tryz.underlying171 hi hz0 hz1 hz2 rfl (by decide) _ _ _ rfl (hown.alloc _) ⟨wr.heap.size,0,none⟩ 1 1 [.int .u8 ((y:Int))] rfl rfl ?c1 ?c2 ?c3 ?c4 ?c5 ?_)
    case c1=>exact zwz _ _ _
    case c2=>exact zxa _
    case c3=>unfold maxLen;omega
    case c4=>omega
    case c5=>have:=HB.out.size;have:=HS.out;simp;omega
    intro v' w1 hown' hg _;have hB1:Below B w w1:=(HB.out.alloc (Nat.le_trans HS.out HB.out.size) _).grown hg (by have:=HB.out.size;have:=HS.out;simp;omega) (fun k hk=>(hown.lt k hk).1);have HO:=zxc (m:=y) hown' rfl (by omega);have H1:=hid hB1;clear hown' hg hB1 hown;go_wp2_with fail;go_ret;exact⟨_,rfl,by rw[HU.out,zwh y (by omega),←List.append_assoc,←HLL.out,List.length_append,HL.out];exact HO,H1.out⟩
theorem zxf(s:ByteArray):Lib.strCells s=s.data.toList.map byteV:=rfl
theorem at_any(s:ByteArray)(v:Value)(n:Nat)(l:List UInt8)(B:Nat)(w:World)(hB:B≤w.heap.size)(hown:w.ownsRow B 5 1 v n (l.map byteV))(hn:n+s.size≤140737488354000):
 Calls Tryz.prog 133 #[v,.string s] w (Bytes B (n+(textB s.data.toList).length) (l++textB s.data.toList) w):=by
 have hlen:=zxe s.size (by omega);have e:s.data.toList.length=s.size:=by simp
 unfold textB;rw[e,←List.append_assoc,List.length_append,e,←Nat.add_assoc];have HE:=hid e;clear e;have HS:=hid hB;clear hB;go_enter Tryz.func133,Tryz.ntmps133;go_wp2_with fail;refine(au_any s.size v n l B _ (by omega) HS.out hown (by omega)).mono ?_;rintro e w1 ⟨v1,rfl,hown1,hb1⟩;have HB:=hid hb1;clear hb1 hown;generalize hL:l++uintB s.size=L at*;generalize (uintB s.size).length=m at*;clear hL;go_wp2_with (at_builtin;refine Lib.wpList_append_own_string _ rfl _ _ 171 9 rfl B 5 _ Tryz.underlying171 Tryz.underlying9 (info_parts info_u8).choose_spec.1 (info_parts info_u8).choose_spec.2.1 (info_parts info_u8).choose_spec.2.2.1 (info_parts info_u8).choose_spec.2.2.2 _ _ _ rfl hown1 _ rfl ?c1 ?c2 ?c3 ?_)
 case c1=>unfold maxLen;omega
 case c2=>omega
 case c3=>have:=HB.out.size;have:=HS.out;omega
 intro v' w2 hown' hg _;have hB2:Below B w w2:=HB.out.grown hg (by have:=HB.out.size;have:=HS.out;omega) (fun k hk=>(hown1.lt k hk).1);have H2:=hid hB2;rw[zxf,←List.map_append] at hown';clear hB2 hg hown1;go_wp2_with fail;go_ret;exact⟨_,rfl,hown',H2.out⟩
theorem zxg(s:ByteArray)(w:World)(h:s.size≤140737488353000):
 Calls Tryz.prog 95 #[.string s] w fun e w'=>e= .returned (.string ⟨(textB s.data.toList).toArray⟩)∧Below w.heap.size w w':=by
 have hpos:0<(textB s.data.toList).length:=by unfold textB;rw[uintB];split<;>simp<;>omega
 have HP:=hid hpos;clear hpos;go_enter Tryz.func95,Tryz.ntmps95;go_wp2_with fail;refine(at_any s _ 0 [] w.heap.size _ (Nat.le_refl _) (World.ownsRow_nil _ _ _ _) (by omega)).mono ?_;rintro e w1 ⟨v1,rfl,hown1,hb1⟩;have HB:=hid hb1;clear hb1;have hcv:=zxb hown1 (by have:=HP.out;omega);clear hown1;go_wp2_with fail;go_ret;exact⟨rfl,HB.out⟩
end CodeC
end
end Go.Proofs.YtbninnkpjdofbaaGreatDoor
