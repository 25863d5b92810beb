/-
  What the proof of EventReads stands on, part 21.
-/
import Derived.BigRegion
import Derived.ChangeAlike
import Derived.Lib.ItoaWalk
import Derived.RegionTactic
import Derived.WalkSpells
import Derived.Test.YtbninnkpjdofbaaGreatDoorT20
set_option linter.unusedSimpArgs false
set_option linter.unusedVariables false
set_option maxHeartbeats 16000000
namespace Go.Proofs.YtbninnkpjdofbaaGreatDoor
open Go.Lib (hid)
section
open Go.RowKit
namespace ErrC
def SomeText(w:World)(e:Ending)(w':World):Prop:=∃s:ByteArray,e= .returned (.string s)∧s.size≤64∧Below w.heap.size w w'
def SomeLen(w:World)(e:Ending)(w':World):Prop:=∃d:Nat,e= .returned (.int .i64 d)∧d≤64∧w=w'
def SomeDigits(w:World)(e:Ending)(w':World):Prop:=∃d:Nat,e= .returned (.int .i64 d)∧d≤20∧w=w'
def PowTab(w:World):Prop:=∀i,i<20→∃x:Int,w.cell? ⟨3,i,none⟩=some (.int .u64 x)
set_option maxRecDepth 100000 in
theorem ztz(i:Nat)(w:World)(h:i<100):Calls Tryz.prog 175 #[.int .i64 i] w (SomeText w):=by
 go_enter Tryz.func175,Tryz.ntmps175;go_name_bytes_deep 45 SM hSM
 have hs:SM.size=200:=by rw[←hSM];decide +kernel
 clear hSM;go_name_bytes_deep 30 DG hDG
 have hd:DG.size=36:=by rw[←hDG];decide +kernel
 clear hDG;by_cases h1:i<10
 · go_wp2
   go_ret;exact⟨_,rfl,by simp[ByteArray.size_extract];omega,Below.refl _ _⟩
 · go_wp2
   go_ret;exact⟨_,rfl,by simp[ByteArray.size_extract];omega,Below.refl _ _⟩
theorem zua{T:ByteArray}(hv:∀i:Fin 256,T.data.toList.getD i.val 0≤8)(hs:T.size=256)(i:Nat)(h:i<T.size):T[i].toNat≤8:=by
 have:=hv ⟨i,by omega⟩
 rw[Lib.getD_at T i h];exact UInt8.le_iff_toNat_le.1 this
theorem len_end(w:World)(k:Int)(c:UInt8)(h0:0≤k)(hk:k≤56)(hc:c.toNat≤8):SomeLen w (.returned (.int .i64 (wrap64 (k+wrap64 (c.toNat:Int))))) w:=by
 have e1:wrap64 (c.toNat:Int)=(c.toNat:Int):=IntWalk.wrap64_in _ ⟨by omega,by omega⟩;refine⟨(k+(c.toNat:Int)).toNat,?_,by omega,rfl⟩;rw[e1,IntWalk.wrap64_in _ ⟨by omega,by omega⟩]
 congr 2
 omega
theorem zub(w:World)(c:UInt8)(hc:c.toNat≤8):SomeLen w (.returned (.int .i64 (wrap64 (c.toNat:Int)))) w:=by
 have e1:wrap64 (c.toNat:Int)=(c.toNat:Int):=IntWalk.wrap64_in _ ⟨by omega,by omega⟩;exact⟨c.toNat,by rw[e1],by omega,rfl⟩
theorem zuc(w:World)(c:UInt8)(hc:c.toNat≤8):SomeLen w (.returned (.int .i64 (wrap64 (wrap64 (c.toNat:Int))))) w:=by
 have e1:wrap64 (c.toNat:Int)=(c.toNat:Int):=IntWalk.wrap64_in _ ⟨by omega,by omega⟩;exact⟨c.toNat,by rw[e1,e1],by omega,rfl⟩
set_option maxRecDepth 100000 in
theorem zud(x:Int)(w:World)(h0:0≤x)(h1:x≤18446744073709551615):Calls Tryz.prog 166 #[.int .u64 x] w (SomeLen w):=by
 go_enter Tryz.func166,Tryz.ntmps166;go_name_bytes T hT
 have hs:T.size=256:=by rw[←hT];decide +kernel
 have hv:∀i:Fin 256,T.data.toList.getD i.val 0≤8:=by rw[←hT];decide +kernel
 have HV:=hid hv;clear hT hv;go_wp2
 all_goals go_ret
 all_goals first
  | exact len_end w _ _ (by omega) (by omega) (zua HV.out hs _ _)
  | exact zub w _ (zua HV.out hs _ _)
  | exact zuc w _ (zua HV.out hs _ _)
theorem zue(d:Nat)(w:World)(h:d≤64):Calls Tryz.prog 208 #[.int .i64 d] w fun e w'=>e= .returned (.int .i64 ((d*78913 / 262144:Nat):Int))∧w=w':=by
 go_enter Tryz.func208,Tryz.ntmps208;go_wp2
 go_ret;exact⟨by go_num,rfl⟩
theorem zuf(b:Bool)(w:World):Calls Tryz.prog 209 #[.bool b] w fun e w'=>e= .returned (.int .i64 (if b then 1 else 0))∧w=w':=by
 cases b<;>
 · go_enter Tryz.func209,Tryz.ntmps209
   go_wp2
   go_ret;exact⟨rfl,rfl⟩
theorem zug(x:Int)(w:World)(h0:0≤x)(h1:x≤18446744073709551615)(ht:PowTab w):Calls Tryz.prog 176 #[.int .u64 x] w (SomeDigits w):=by
 go_enter Tryz.func176,Tryz.ntmps176;go_wp2_with fail;refine(zud x _ h0 h1).mono ?_;rintro e w' ⟨d,rfl,hd,rfl⟩;go_wp2_with fail;refine(zue d _ hd).mono ?_;rintro e w' ⟨rfl,rfl⟩;have hk:d*78913 / 262144≤19:=by omega
 generalize d*78913 / 262144=k at*;obtain⟨y,hy⟩:=ht k (by omega);go_wp2_with (go_at_call 209;refine(zuf _ _).mono ?_;rintro e w' ⟨rfl,rfl⟩)
 · go_ret
   exact⟨k+1,by go_num,by omega,rfl⟩
 · go_ret
   exact⟨k,rfl,by omega,rfl⟩
end ErrC
open Go.RowKit
namespace ErrC
def RowOk(blk off n:Nat)(w:World):Prop:=∀t,t<n→(∃x:Int,w.cell? ⟨blk,off+t,none⟩=some (.int .u8 x))∧w.frozen? ⟨blk,off+t,none⟩=false
theorem RowOk.drew{blk off n:Nat}{w:World}(h:RowOk blk off n w):RowOk blk off n w.drew:=h
theorem RowOk.set{blk off n:Nat}{w:World}(h:RowOk blk off n w)(t:Nat)(x:Int):RowOk blk off n (w.setCell ⟨blk,off+t,none⟩ (.int .u8 x)):=by
 intro j hj;obtain⟨⟨y,hy⟩,hf⟩:=h j hj;refine⟨?_,by simpa using hf⟩;by_cases e:j=t
 · subst e;exact⟨x,World.cell?_setCell_same _ _ _ hy⟩
 · exact⟨y,by rw[World.cell?_setCell_other _ _ _ _ (fun h=>e (by have:=congrArg Addr.off h;simp at this;omega))];exact hy⟩
theorem zuh(S:ByteArray)(hs:S.size=200)(z:Int)(h0:0≤z)(h1:z<200):∃y:Int,∀w,(Instr.index 9 (.string S) (.int .u32 z)).run Tryz.prog w= .ok (.int .u8 y) w:=by
 have hb:0≤z∧z<(S.size:Int):=⟨h0,by omega⟩;exact⟨_,fun w=>by rw[run_index_string w 9 S .u32 z Tryz.underlying9,dif_pos hb]⟩
set_option maxRecDepth 100000 in
theorem zui(blk off cap n:Nat)(u:Int)(w:World)(h0:0≤u)(h1:u≤18446744073709551615)(hn:n≤20)(hr:RowOk blk off n w):
 Calls Tryz.prog 177 #[.slice (some ⟨blk,off,none⟩) n cap,.int .u64 u] w fun e w'=>e= .returned (.tuple #[])∧RowOk blk off n w'∧Below blk w w':=by
 go_enter Tryz.func177,Tryz.ntmps177;go_name_bytes SM hSM
 have hs:SM.size=200:=by rw[←hSM];decide +kernel
 clear hSM;go_wp2
 go_loopw [1,4] (fun vu vn wr=>∃(k:Nat) (v:Int),vu= .int .u64 v∧vn= .int .i64 k∧k≤n∧0≤v∧v≤18446744073709551615∧RowOk blk off n wr∧Below blk w wr) (fun _ vn _=>(intOf vn).toNat)
 case atStart=>exact⟨n,u,rfl,rfl,Nat.le_refl _,h0,h1,hr,Below.refl _ _⟩
 case round=>
  obtain⟨k,v,rfl,rfl,hk,hv0,hv1,hw0,hB0⟩:=hrel;rename World=>W0
  have HB0:=hid hB0;clear hB0 hr;by_cases h8:8≤k
  · obtain⟨m,rfl⟩:∃m,k=m+8:=⟨k-8,by omega⟩
    have HR0:=hid hw0;obtain⟨⟨xa0,ca0⟩,fa0⟩:=hw0 (m+7) (by omega);obtain⟨⟨xb0,cb0⟩,fb0⟩:=hw0 (m+6) (by omega);clear hw0;go_wp2
    go_name_slot 9 i0 hi0
    have hia0:0≤i0:=by omega
    have hib0:i0≤198:=by omega
    clear hi0;obtain⟨y0,hy0⟩:=zuh SM hs i0 hia0 (by omega);obtain⟨z0,hz0⟩:=zuh SM hs (i0+1) (by omega) (by omega);have hu0:IntKind.u32.wrap (i0+1)=i0+1:=IntWalk.u32_in _ ⟨by omega,by omega⟩;go_region
    go_wp2
    go_name_world W1 hW1
    have hw1:RowOk blk off n W1:=by rw[←hW1];exact((HR0.out.drew.set (m+7) _).set (m+6) _)
    have HB1:=hid (show Below blk w W1 by rw[←hW1];exact((HB0.out.drew.setCell (Nat.le_refl _) _).setCell (Nat.le_refl _) _));clear hW1 ca0 cb0 fa0 fb0 hia0 hib0 hy0 hz0 hu0 HR0 HB0;have HR1:=hid hw1;obtain⟨⟨xa1,ca1⟩,fa1⟩:=hw1 (m+5) (by omega);obtain⟨⟨xb1,cb1⟩,fb1⟩:=hw1 (m+4) (by omega);clear hw1;go_name_slot 8 i1 hi1
    have hia1:0≤i1:=by omega
    have hib1:i1≤198:=by omega
    clear hi1;obtain⟨y1,hy1⟩:=zuh SM hs i1 hia1 (by omega);obtain⟨z1,hz1⟩:=zuh SM hs (i1+1) (by omega) (by omega);have hu1:IntKind.u32.wrap (i1+1)=i1+1:=IntWalk.u32_in _ ⟨by omega,by omega⟩;go_region
    go_wp2
    go_name_world W2 hW2
    have hw2:RowOk blk off n W2:=by rw[←hW2];exact((HR1.out.drew.set (m+5) _).set (m+4) _)
    have HB2:=hid (show Below blk w W2 by rw[←hW2];exact((HB1.out.drew.setCell (Nat.le_refl _) _).setCell (Nat.le_refl _) _));clear hW2 ca1 cb1 fa1 fb1 hia1 hib1 hy1 hz1 hu1 HR1 HB1;have HR2:=hid hw2;obtain⟨⟨xa2,ca2⟩,fa2⟩:=hw2 (m+3) (by omega);obtain⟨⟨xb2,cb2⟩,fb2⟩:=hw2 (m+2) (by omega);clear hw2;go_name_slot 11 i2 hi2
    have hia2:0≤i2:=by omega
    have hib2:i2≤198:=by omega
    clear hi2;obtain⟨y2,hy2⟩:=zuh SM hs i2 hia2 (by omega);obtain⟨z2,hz2⟩:=zuh SM hs (i2+1) (by omega) (by omega);have hu2:IntKind.u32.wrap (i2+1)=i2+1:=IntWalk.u32_in _ ⟨by omega,by omega⟩;go_region
    go_wp2
    go_name_world W3 hW3
    have hw3:RowOk blk off n W3:=by rw[←hW3];exact((HR2.out.drew.set (m+3) _).set (m+2) _)
    have HB3:=hid (show Below blk w W3 by rw[←hW3];exact((HB2.out.drew.setCell (Nat.le_refl _) _).setCell (Nat.le_refl _) _));clear hW3 ca2 cb2 fa2 fb2 hia2 hib2 hy2 hz2 hu2 HR2 HB2;have HR3:=hid hw3;obtain⟨⟨xa3,ca3⟩,fa3⟩:=hw3 (m+1) (by omega);obtain⟨⟨xb3,cb3⟩,fb3⟩:=hw3 (m) (by omega);clear hw3;go_name_slot 10 i3 hi3
    have hia3:0≤i3:=by omega
    have hib3:i3≤198:=by omega
    clear hi3;obtain⟨y3,hy3⟩:=zuh SM hs i3 hia3 (by omega);obtain⟨z3,hz3⟩:=zuh SM hs (i3+1) (by omega) (by omega);have hu3:IntKind.u32.wrap (i3+1)=i3+1:=IntWalk.u32_in _ ⟨by omega,by omega⟩;go_region
    go_wp2
    go_roundw
    case rel=>exact⟨m,_,rfl,by go_num,by omega,by omega,by omega,(HR3.out.drew.set (m+1) _).set m _,(HB3.out.drew.setCell (Nat.le_refl _) _).setCell (Nat.le_refl _) _⟩
    case measure=>simp[intOf];omega
  · rcases (by omega:k=0∨k=1∨k=2∨k=3∨k=4∨k=5∨k=6∨k=7) with rfl|rfl|rfl|rfl|rfl|rfl|rfl|rfl
    · have HR0:=hid hw0
      clear hw0;go_wp2
      go_end0
      exact⟨rfl,HR0.out,HB0.out⟩
    · have HR0:=hid hw0
      obtain⟨⟨xc0,cc0⟩,fc0⟩:=hw0 0 (by omega);rw[Nat.add_zero] at cc0 fc0;clear hw0;go_wp2
      go_end0
      exact⟨rfl,(HR0.out.set 0 _),(HB0.out.setCell (Nat.le_refl _) _)⟩
    · have HR0:=hid hw0
      obtain⟨⟨xa0,ca0⟩,fa0⟩:=hw0 (1) (by omega);obtain⟨⟨xb0,cb0⟩,fb0⟩:=hw0 (0) (by omega);rw[Nat.add_zero] at cb0 fb0;clear hw0;go_wp2
      go_name_slot 16 i0 hi0
      have hia0:0≤i0:=by omega
      have hib0:i0≤198:=by omega
      clear hi0;obtain⟨y0,hy0⟩:=zuh SM hs i0 hia0 (by omega);obtain⟨z0,hz0⟩:=zuh SM hs (i0+1) (by omega) (by omega);have hu0:IntKind.u32.wrap (i0+1)=i0+1:=IntWalk.u32_in _ ⟨by omega,by omega⟩;go_region
      go_wp2
      go_end0
      exact⟨rfl,((HR0.out.drew.set 1 _).set 0 _),((HB0.out.drew.setCell (Nat.le_refl _) _).setCell (Nat.le_refl _) _)⟩
    · have HR0:=hid hw0
      obtain⟨⟨xa0,ca0⟩,fa0⟩:=hw0 (2) (by omega);obtain⟨⟨xb0,cb0⟩,fb0⟩:=hw0 (1) (by omega);obtain⟨⟨xc0,cc0⟩,fc0⟩:=hw0 0 (by omega);rw[Nat.add_zero] at cc0 fc0;clear hw0;go_wp2
      go_name_slot 16 i0 hi0
      have hia0:0≤i0:=by omega
      have hib0:i0≤198:=by omega
      clear hi0;obtain⟨y0,hy0⟩:=zuh SM hs i0 hia0 (by omega);obtain⟨z0,hz0⟩:=zuh SM hs (i0+1) (by omega) (by omega);have hu0:IntKind.u32.wrap (i0+1)=i0+1:=IntWalk.u32_in _ ⟨by omega,by omega⟩;go_region
      go_wp2
      go_end0
      exact⟨rfl,(((HR0.out.drew.set 2 _).set 1 _).set 0 _),(((HB0.out.drew.setCell (Nat.le_refl _) _).setCell (Nat.le_refl _) _).setCell (Nat.le_refl _) _)⟩
    · have HR0:=hid hw0
      obtain⟨⟨xa0,ca0⟩,fa0⟩:=hw0 (3) (by omega);obtain⟨⟨xb0,cb0⟩,fb0⟩:=hw0 (2) (by omega);clear hw0;go_wp2
      go_name_slot 15 i0 hi0
      have hia0:0≤i0:=by omega
      have hib0:i0≤198:=by omega
      clear hi0;obtain⟨y0,hy0⟩:=zuh SM hs i0 hia0 (by omega);obtain⟨z0,hz0⟩:=zuh SM hs (i0+1) (by omega) (by omega);have hu0:IntKind.u32.wrap (i0+1)=i0+1:=IntWalk.u32_in _ ⟨by omega,by omega⟩;go_region
      go_wp2
      go_name_world W1 hW1
      have hw1:RowOk blk off n W1:=by rw[←hW1];exact((HR0.out.drew.set (3) _).set (2) _)
      have HB1:=hid (show Below blk w W1 by rw[←hW1];exact((HB0.out.drew.setCell (Nat.le_refl _) _).setCell (Nat.le_refl _) _));clear hW1 ca0 cb0 fa0 fb0 hia0 hib0 hy0 hz0 hu0 HR0 HB0;have HR1:=hid hw1;obtain⟨⟨xa1,ca1⟩,fa1⟩:=hw1 (1) (by omega);obtain⟨⟨xb1,cb1⟩,fb1⟩:=hw1 (0) (by omega);rw[Nat.add_zero] at cb1 fb1;clear hw1;go_name_slot 14 i1 hi1
      have hia1:0≤i1:=by omega
      have hib1:i1≤198:=by omega
      clear hi1;obtain⟨y1,hy1⟩:=zuh SM hs i1 hia1 (by omega);obtain⟨z1,hz1⟩:=zuh SM hs (i1+1) (by omega) (by omega);have hu1:IntKind.u32.wrap (i1+1)=i1+1:=IntWalk.u32_in _ ⟨by omega,by omega⟩;go_region
      go_wp2
      go_end0
      exact⟨rfl,((HR1.out.drew.set 1 _).set 0 _),((HB1.out.drew.setCell (Nat.le_refl _) _).setCell (Nat.le_refl _) _)⟩
    · have HR0:=hid hw0
      obtain⟨⟨xa0,ca0⟩,fa0⟩:=hw0 (4) (by omega);obtain⟨⟨xb0,cb0⟩,fb0⟩:=hw0 (3) (by omega);clear hw0;go_wp2
      go_name_slot 15 i0 hi0
      have hia0:0≤i0:=by omega
      have hib0:i0≤198:=by omega
      clear hi0;obtain⟨y0,hy0⟩:=zuh SM hs i0 hia0 (by omega);obtain⟨z0,hz0⟩:=zuh SM hs (i0+1) (by omega) (by omega);have hu0:IntKind.u32.wrap (i0+1)=i0+1:=IntWalk.u32_in _ ⟨by omega,by omega⟩;go_region
      go_wp2
      go_name_world W1 hW1
      have hw1:RowOk blk off n W1:=by rw[←hW1];exact((HR0.out.drew.set (4) _).set (3) _)
      have HB1:=hid (show Below blk w W1 by rw[←hW1];exact((HB0.out.drew.setCell (Nat.le_refl _) _).setCell (Nat.le_refl _) _));clear hW1 ca0 cb0 fa0 fb0 hia0 hib0 hy0 hz0 hu0 HR0 HB0;have HR1:=hid hw1;obtain⟨⟨xa1,ca1⟩,fa1⟩:=hw1 (2) (by omega);obtain⟨⟨xb1,cb1⟩,fb1⟩:=hw1 (1) (by omega);obtain⟨⟨xc1,cc1⟩,fc1⟩:=hw1 0 (by omega);rw[Nat.add_zero] at cc1 fc1;clear hw1;go_name_slot 14 i1 hi1
      have hia1:0≤i1:=by omega
      have hib1:i1≤198:=by omega
      clear hi1;obtain⟨y1,hy1⟩:=zuh SM hs i1 hia1 (by omega);obtain⟨z1,hz1⟩:=zuh SM hs (i1+1) (by omega) (by omega);have hu1:IntKind.u32.wrap (i1+1)=i1+1:=IntWalk.u32_in _ ⟨by omega,by omega⟩;go_region
      go_wp2
      go_end0
      exact⟨rfl,(((HR1.out.drew.set 2 _).set 1 _).set 0 _),(((HB1.out.drew.setCell (Nat.le_refl _) _).setCell (Nat.le_refl _) _).setCell (Nat.le_refl _) _)⟩
    · have HR0:=hid hw0
      obtain⟨⟨xa0,ca0⟩,fa0⟩:=hw0 (5) (by omega);obtain⟨⟨xb0,cb0⟩,fb0⟩:=hw0 (4) (by omega);clear hw0;go_wp2
      go_name_slot 15 i0 hi0
      have hia0:0≤i0:=by omega
      have hib0:i0≤198:=by omega
      clear hi0;obtain⟨y0,hy0⟩:=zuh SM hs i0 hia0 (by omega);obtain⟨z0,hz0⟩:=zuh SM hs (i0+1) (by omega) (by omega);have hu0:IntKind.u32.wrap (i0+1)=i0+1:=IntWalk.u32_in _ ⟨by omega,by omega⟩;go_region
      go_wp2
      go_name_world W1 hW1
      have hw1:RowOk blk off n W1:=by rw[←hW1];exact((HR0.out.drew.set (5) _).set (4) _)
      have HB1:=hid (show Below blk w W1 by rw[←hW1];exact((HB0.out.drew.setCell (Nat.le_refl _) _).setCell (Nat.le_refl _) _));clear hW1 ca0 cb0 fa0 fb0 hia0 hib0 hy0 hz0 hu0 HR0 HB0;have HR1:=hid hw1;obtain⟨⟨xa1,ca1⟩,fa1⟩:=hw1 (3) (by omega);obtain⟨⟨xb1,cb1⟩,fb1⟩:=hw1 (2) (by omega);clear hw1;go_name_slot 14 i1 hi1
      have hia1:0≤i1:=by omega
      have hib1:i1≤198:=by omega
      clear hi1;obtain⟨y1,hy1⟩:=zuh SM hs i1 hia1 (by omega);obtain⟨z1,hz1⟩:=zuh SM hs (i1+1) (by omega) (by omega);have hu1:IntKind.u32.wrap (i1+1)=i1+1:=IntWalk.u32_in _ ⟨by omega,by omega⟩;go_region
      go_wp2
      go_name_world W2 hW2
      have hw2:RowOk blk off n W2:=by rw[←hW2];exact((HR1.out.drew.set (3) _).set (2) _)
      have HB2:=hid (show Below blk w W2 by rw[←hW2];exact((HB1.out.drew.setCell (Nat.le_refl _) _).setCell (Nat.le_refl _) _));clear hW2 ca1 cb1 fa1 fb1 hia1 hib1 hy1 hz1 hu1 HR1 HB1;have HR2:=hid hw2;obtain⟨⟨xa2,ca2⟩,fa2⟩:=hw2 (1) (by omega);obtain⟨⟨xb2,cb2⟩,fb2⟩:=hw2 (0) (by omega);rw[Nat.add_zero] at cb2 fb2;clear hw2;go_name_slot 16 i2 hi2
      have hia2:0≤i2:=by omega
      have hib2:i2≤198:=by omega
      clear hi2;obtain⟨y2,hy2⟩:=zuh SM hs i2 hia2 (by omega);obtain⟨z2,hz2⟩:=zuh SM hs (i2+1) (by omega) (by omega);have hu2:IntKind.u32.wrap (i2+1)=i2+1:=IntWalk.u32_in _ ⟨by omega,by omega⟩;go_region
      go_wp2
      go_end0
      exact⟨rfl,((HR2.out.drew.set 1 _).set 0 _),((HB2.out.drew.setCell (Nat.le_refl _) _).setCell (Nat.le_refl _) _)⟩
    · have HR0:=hid hw0
      obtain⟨⟨xa0,ca0⟩,fa0⟩:=hw0 (6) (by omega);obtain⟨⟨xb0,cb0⟩,fb0⟩:=hw0 (5) (by omega);clear hw0;go_wp2
      go_name_slot 15 i0 hi0
      have hia0:0≤i0:=by omega
      have hib0:i0≤198:=by omega
      clear hi0;obtain⟨y0,hy0⟩:=zuh SM hs i0 hia0 (by omega);obtain⟨z0,hz0⟩:=zuh SM hs (i0+1) (by omega) (by omega);have hu0:IntKind.u32.wrap (i0+1)=i0+1:=IntWalk.u32_in _ ⟨by omega,by omega⟩;go_region
      go_wp2
      go_name_world W1 hW1
      have hw1:RowOk blk off n W1:=by rw[←hW1];exact((HR0.out.drew.set (6) _).set (5) _)
      have HB1:=hid (show Below blk w W1 by rw[←hW1];exact((HB0.out.drew.setCell (Nat.le_refl _) _).setCell (Nat.le_refl _) _));clear hW1 ca0 cb0 fa0 fb0 hia0 hib0 hy0 hz0 hu0 HR0 HB0;have HR1:=hid hw1;obtain⟨⟨xa1,ca1⟩,fa1⟩:=hw1 (4) (by omega);obtain⟨⟨xb1,cb1⟩,fb1⟩:=hw1 (3) (by omega);clear hw1;go_name_slot 14 i1 hi1
      have hia1:0≤i1:=by omega
      have hib1:i1≤198:=by omega
      clear hi1;obtain⟨y1,hy1⟩:=zuh SM hs i1 hia1 (by omega);obtain⟨z1,hz1⟩:=zuh SM hs (i1+1) (by omega) (by omega);have hu1:IntKind.u32.wrap (i1+1)=i1+1:=IntWalk.u32_in _ ⟨by omega,by omega⟩;go_region
      go_wp2
      go_name_world W2 hW2
      have hw2:RowOk blk off n W2:=by rw[←hW2];exact((HR1.out.drew.set (4) _).set (3) _)
      have HB2:=hid (show Below blk w W2 by rw[←hW2];exact((HB1.out.drew.setCell (Nat.le_refl _) _).setCell (Nat.le_refl _) _));clear hW2 ca1 cb1 fa1 fb1 hia1 hib1 hy1 hz1 hu1 HR1 HB1;have HR2:=hid hw2;obtain⟨⟨xa2,ca2⟩,fa2⟩:=hw2 (2) (by omega);obtain⟨⟨xb2,cb2⟩,fb2⟩:=hw2 (1) (by omega);obtain⟨⟨xc2,cc2⟩,fc2⟩:=hw2 0 (by omega);rw[Nat.add_zero] at cc2 fc2;clear hw2;go_name_slot 16 i2 hi2
      have hia2:0≤i2:=by omega
      have hib2:i2≤198:=by omega
      clear hi2;obtain⟨y2,hy2⟩:=zuh SM hs i2 hia2 (by omega);obtain⟨z2,hz2⟩:=zuh SM hs (i2+1) (by omega) (by omega);have hu2:IntKind.u32.wrap (i2+1)=i2+1:=IntWalk.u32_in _ ⟨by omega,by omega⟩;go_region
      go_wp2
      go_end0
      exact⟨rfl,(((HR2.out.drew.set 2 _).set 1 _).set 0 _),(((HB2.out.drew.setCell (Nat.le_refl _) _).setCell (Nat.le_refl _) _).setCell (Nat.le_refl _) _)⟩
end ErrC
open Go.RowKit
namespace ErrC
theorem RowOk.nums{blk off:Nat}{w:World}:∀{n:Nat},RowOk blk off n w→∃ns:List Int,ns.length=n∧∀i,i<n→w.cell? ⟨blk,off+i,none⟩=some (.int .u8 (ns.getD i 0))
 | 0,_=>⟨[],rfl,fun _ h=>by omega⟩
 | n+1,h=>by
   obtain⟨ns,hl,hc⟩:=RowOk.nums (n:=n) (fun t ht=>h t (by omega));obtain⟨⟨x,hx⟩,_⟩:=h n (by omega);refine⟨ns++ [x],by simp[hl],fun i hi=>?_⟩;by_cases e:i=n
   · subst e;rw[hx];simp[List.getD,hl]
   · rw[hc i (by omega)];simp[List.getD,List.getElem?_append_left (show i<ns.length by omega)]
theorem zuj{blk off n:Nat}{w:World}(cap:Nat)(h:RowOk blk off n w):∃s:ByteArray,s.size=n∧(convert 171 9 (.slice (some ⟨blk,off,none⟩) n cap)).run Tryz.prog w= .ok (.string s) w:=by
 obtain⟨ns,hl,hc⟩:=h.nums;have e:=run_convert_bytes_arg (P:=Tryz.prog) w 171 5 Tryz.underlying171 Tryz.underlying5 blk off n cap ns hl hc 9 Tryz.underlying9;exact⟨_,(strOfNums_size ns).trans hl,e⟩
theorem zuk(i:Nat)(w:World)(h:i<100):Calls Tryz.prog 267 #[.int .i64 i,.int .i64 10] w (SomeText w):=by
 go_enter Tryz.func267,Tryz.ntmps267;go_wp2_with fail;refine(ztz i _ h).mono ?_;rintro e w' ⟨s,rfl,hs,hb⟩;go_wp2_with fail;go_ret;exact⟨s,rfl,hs,hb⟩
theorem zul(b d:Nat)(w:World)(h:d≤20):
 (Instr.sliceAt 241 (.pointer (some ⟨b,0,none⟩)) (some (.int .i64 1)) (some (.int .i64 (1+(d:Int)))) none).run Tryz.prog w= .ok (.slice (some ⟨b,1,none⟩) d 23) w:=by
 rcases (by omega:d=0∨d=1∨d=2∨d=3∨d=4∨d=5∨d=6∨d=7∨d=8∨d=9∨d=10∨d=11∨d=12∨d=13∨d=14∨d=15∨d=16∨d=17∨d=18∨d=19∨d=20) with rfl|rfl|rfl|rfl|rfl|rfl|rfl|rfl|rfl|rfl|rfl|rfl|rfl|rfl|rfl|rfl|rfl|rfl|rfl|rfl|rfl<;>kernel_rfl
set_option maxRecDepth 100000 in
theorem zum(i:Nat)(w:World)(h:100≤i)(h1:i≤9223372036854775807)(ht:PowTab w):Calls Tryz.prog 267 #[.int .i64 i,.int .i64 10] w (SomeText w):=by
 have HT:=hid ht;clear ht;go_enter Tryz.func267,Tryz.ntmps267;go_wp2_with fail;refine(zug i _ (by omega) (by omega) ?_).mono ?_
 · intro j hj
   obtain⟨x,hx⟩:=HT.out j hj;exact⟨x,by rw[World.cell?_alloc_lt _ _ _ (World.block_lt_of_cell? _ _ hx)];exact hx⟩
 rintro e w' ⟨d,rfl,hd,rfl⟩;have hcut:=fun w'=>zul w.heap.size d w' hd
 go_wp2_with fail
 have hrow:RowOk w.heap.size 1 d (w.alloc (.cells (Array.replicate 24 (.int .u8 0)) 241)):=fun t ht=>by
  refine⟨⟨0,?_⟩,World.frozen?_alloc_at _ _ _ _ rfl⟩;rw[World.cell?_alloc_at _ _ _ _ rfl];rw[Array.getElem?_replicate,if_pos (by omega)]
 refine(zui w.heap.size 1 23 d i _ (by omega) (by omega) hd hrow).mono ?_;rintro e w2 ⟨rfl,hr2,hb2⟩;obtain⟨s,hs,hcv⟩:=zuj 23 hr2;have HB:=hid hb2;clear hb2 hr2;go_wp2_with fail;go_ret;exact⟨s,rfl,by omega,((Below.refl w.heap.size w).alloc (Nat.le_refl _) _).trans HB.out⟩
theorem zun(i:Nat)(w:World)(h1:i≤9223372036854775807)(ht:PowTab w):Calls Tryz.prog 267 #[.int .i64 i,.int .i64 10] w (SomeText w):=by
 by_cases h:i<100
 · exact zuk i w h
 · exact zum i w (by omega) h1 ht
theorem itoa_in(i:Nat)(w:World)(h1:i≤9223372036854775807)(ht:PowTab w):Calls Tryz.prog 246 #[.int .i64 i] w (SomeText w):=by
 go_enter Tryz.func246,Tryz.ntmps246;go_wp2_with fail;refine(zun i _ h1 ht).mono ?_;rintro e w' ⟨s,rfl,hs,hb⟩;go_wp2_with fail;go_ret;exact⟨s,rfl,hs,hb⟩
theorem zuo(i:Nat)(w:World)(h1:i≤9223372036854775807)(ht:PowTab w):Calls Tryz.prog 220 #[.int .i64 i] w (SomeText w):=by
 go_enter Tryz.func220,Tryz.ntmps220;go_wp2_with fail;refine(itoa_in i _ h1 ht).mono ?_;rintro e w' ⟨s,rfl,hs,hb⟩;go_wp2_with fail;go_ret;exact⟨s,rfl,hs,hb⟩
end ErrC
end
section
open Go.RowKit
namespace ErrC
theorem PowTab.below{w w':World}(h:PowTab w)(hb:Below w.heap.size w w'):PowTab w':=fun i hi=>by
 obtain⟨x,hx⟩:=h i hi;exact⟨x,by rw[hb.cell (World.block_lt_of_cell? _ _ hx)];exact hx⟩
def WordE(w:World)(e:Ending)(w':World):Prop:=∃s:ByteArray,e= .returned (.string s)∧6≤s.size∧s.size≤70∧Below w.heap.size w w'
def WordF(n:Nat)(w:World)(e:Ending)(w':World):Prop:=∃s:ByteArray,e= .returned (.string s)∧6≤s.size∧s.size≤n+200∧Below w.heap.size w w'
theorem zup(c:Nat)(w:World)(h:c≤9223372036854775807)(ht:PowTab w):Calls Tryz.prog 337 #[.int .i64 c] w (WordE w):=by
 have HT:=hid ht;clear ht;go_enter Tryz.func337,Tryz.ntmps337;go_wp2_with fail;refine(zuo c _ h HT.out).mono ?_;rintro e w' ⟨s,rfl,hs,hb⟩;have HB:=hid hb;clear hb;go_wp2_with fail;go_ret;exact⟨_,rfl,by rw[ByteArray.size_append];show 6≤6+s.size;omega,by rw[ByteArray.size_append];show 6+s.size≤70;omega,HB.out⟩
structure IsFault (w:World) (b o:Nat) (c:Int) (s:ByteArray) (a:Int):Prop where
 code:w.cell? ⟨b,o,none⟩=some (.int .i64 c)
 what:w.cell? ⟨b,o+1,none⟩=some (.string s)
 at_:w.cell? ⟨b,o+2,none⟩=some (.int .i64 a)
 under:w.cell? ⟨b,o+3,none⟩=some .nilIface
theorem IsFault.below{w w':World}{b o:Nat}{c a:Int}{s:ByteArray}(h:IsFault w b o c s a){B:Nat}(hb:Below B w w')(hB:b<B):IsFault w' b o c s a:=
 ⟨by rw[hb.cell hB];exact h.code,by rw[hb.cell hB];exact h.what,by rw[hb.cell hB];exact h.at_,by rw[hb.cell hB];exact h.under⟩
theorem IsFault.lt{w:World}{b o:Nat}{c a:Int}{s:ByteArray}(h:IsFault w b o c s a):b<w.heap.size:=World.block_lt_of_cell? _ _ h.code
theorem sz(a b:ByteArray):(a++b).size=a.size+b.size:=ByteArray.size_append
theorem zuq(b o:Nat)(c:Nat)(s:ByteArray)(a:Int)(w:World)(h:c≤9223372036854775807)(ha:a<0)(hs:s.size≤4611686018427387904)(hf:IsFault w b o c s a)(ht:PowTab w):
 Calls Tryz.prog 335 #[.pointer (some ⟨b,o,none⟩)] w (WordF s.size w):=by
 obtain⟨c0,c1,c2,c3⟩:=hf;have hlt:b<w.heap.size:=World.block_lt_of_cell? _ _ c0;have HT:=hid ht;clear ht;go_enter Tryz.func335,Tryz.ntmps335;go_wp2_with fail;refine(zup c _ h HT.out).mono ?_;rintro e w1 ⟨t,rfl,ht1,ht2,hb⟩;have d1:w1.cell? ⟨b,o+1,none⟩=some (.string s):=by rw[hb.cell hlt];exact c1
 have d2:w1.cell? ⟨b,o+2,none⟩=some (.int .i64 a):=by rw[hb.cell hlt];exact c2
 have d3:w1.cell? ⟨b,o+3,none⟩=some .nilIface:=by rw[hb.cell hlt];exact c3
 have HT1:=hid (HT.out.below hb);have hlt1:b<w1.heap.size:=World.block_lt_of_cell? _ _ d1;have hsz:=hb.size;have HB:=hid hb;clear c0 c1 c2 c3 hb;go_wp2_with fail
 all_goals go_ret
 · exact⟨_,rfl,by rw[sz,sz];omega,by rw[sz,sz];show t.size+(1+s.size)≤_;omega,HB.out⟩
 · exact⟨_,rfl,ht1,by omega,HB.out⟩
theorem zur(b o:Nat)(c:Nat)(s:ByteArray)(a:Nat)(w:World)(h:c≤9223372036854775807)(ha:a≤9223372036854775807)(hs:s.size≤4611686018427387904)(hf:IsFault w b o c s a)(ht:PowTab w):
 Calls Tryz.prog 335 #[.pointer (some ⟨b,o,none⟩)] w (WordF s.size w):=by
 obtain⟨c0,c1,c2,c3⟩:=hf;have hlt:b<w.heap.size:=World.block_lt_of_cell? _ _ c0;have HT:=hid ht;clear ht;go_enter Tryz.func335,Tryz.ntmps335;go_wp2_with fail;refine(zup c _ h HT.out).mono ?_;rintro e w1 ⟨t,rfl,ht1,ht2,hb⟩;have d1:w1.cell? ⟨b,o+1,none⟩=some (.string s):=by rw[hb.cell hlt];exact c1
 have d2:w1.cell? ⟨b,o+2,none⟩=some (.int .i64 a):=by rw[hb.cell hlt];exact c2
 have d3:w1.cell? ⟨b,o+3,none⟩=some .nilIface:=by rw[hb.cell hlt];exact c3
 have HT1:=hid (HT.out.below hb);have hlt1:b<w1.heap.size:=World.block_lt_of_cell? _ _ d1;have hsz:=hb.size;have HB:=hid hb;clear c0 c1 c2 c3 hb;go_wp2_with fail
 all_goals
  refine(zuo a _ ha HT1.out).mono ?_;rintro e w2 ⟨u,rfl,hu,hb2⟩;have e3:w2.cell? ⟨b,o+3,none⟩=some .nilIface:=by rw[hb2.cell hlt1];exact d3
  have HB2:=hid hb2;clear hb2 d1 d2 d3;go_wp2_with fail;go_ret
 · exact⟨_,rfl,by simp only[sz];omega,by simp only[sz];show t.size+(1+s.size)+(4+u.size)≤_;omega,HB.out.trans (HB2.out.mono hsz)⟩
 · exact⟨_,rfl,by simp only[sz];omega,by simp only[sz];show t.size+(4+u.size)≤_;omega,HB.out.trans (HB2.out.mono hsz)⟩
theorem zus(b o:Nat)(c:Nat)(s:ByteArray)(a:Int)(w:World)(h:c≤9223372036854775807)(ha:a≤9223372036854775807)(hs:s.size≤4611686018427387904)(hf:IsFault w b o c s a)(ht:PowTab w):
 Calls Tryz.prog 335 #[.pointer (some ⟨b,o,none⟩)] w (WordF s.size w):=by
 by_cases h0:a<0
 · exact zuq b o c s a w h h0 hs hf ht
 · obtain⟨n,rfl⟩:=Int.eq_ofNat_of_zero_le (show 0≤a by omega)
   exact zur b o c s n w h (by omega) hs hf ht
end ErrC
end
section
open Go.RowKit
namespace ErrC
structure Vars (w:World):Prop where
 err:ErrType w
 pow:PowTab w
theorem Vars.below{w w':World}(h:Vars w)(hb:Below w.heap.size w w'):Vars w':=
 ⟨by unfold ErrType;rw[hb.cell (World.block_lt_of_cell? _ _ h.err)];exact h.err,h.pow.below hb⟩
theorem zut(e t:Addr)(old:Value)(w:World)(hg:ErrType w)(ht0:w.cell? t=some old)(hf0:w.frozen? t=false):
 Calls Tryz.prog 12 #[.iface 40 (.pointer (some e)),.iface 42 (.pointer (some t))] w fun ev w'=>ev= .returned (.bool true)∧w'.cell? t=some (.pointer (some e))∧Below t.block w w':=by
 refine(as_hit e t old w hg ht0 hf0).mono ?_;rintro ev w' ⟨rfl,rfl⟩;have hlt:t.block<w.heap.size:=World.block_lt_of_cell? _ _ ht0;have hb:=(ztp w t e w.heap.size (Nat.le_refl _)).2.2.2;have hc:(asW4 w t e).cell? t=some old:=by rw[hb.cell hlt];exact ht0
 exact⟨rfl,World.cell?_setCell_same _ _ _ hc,(hb.mono (Nat.le_of_lt hlt)).setCell (Nat.le_refl _) _⟩
theorem zuu(v:Value)(w:World):(Go.method 514 40 v "Error").run Tryz.prog w= .ok (335,v) w:=by kernel_rfl
theorem zuv(t:ByteArray)(h:6≤t.size):t.toList.isEmpty=false:=by
 rw[ByteArray.toList_eq];have hl:t.data.toList.length=t.size:=by simp
 cases e:t.data.toList with
 | nil=>rw[e] at hl;simp at hl;omega
 | cons x r=>rfl
theorem zuw(b o:Nat)(c:Nat)(s:ByteArray)(a:Int)(w:World)(h:c≤9223372036854775807)(ha:a≤9223372036854775807)(hs:s.size≤4611686018427387904)(hf:IsFault w b o c s a)(hv:Vars w):
 Calls Tryz.prog 11 #[.iface 40 (.pointer (some ⟨b,o,none⟩))] w fun e w'=>e= .returned (.tuple #[.int .i64 c,.string s,.int .i64 a])∧Below w.heap.size w w':=by
 have hlt:=hf.lt;have y1:=zuu;have HV:=hid hv;clear hv;have HF:=hid hf;clear hf;go_enter Tryz.func11,Tryz.ntmps11;go_wp2_with fail;have hb0:Below w.heap.size w (w.alloc (.cells #[.pointer none] 40)):=(Below.refl _ _).alloc (Nat.le_refl _) _;refine(zut ⟨b,o,none⟩ ⟨w.heap.size,0,none⟩ (.pointer none) _ (HV.out.below hb0).err (by simp) (by simp)).mono ?_;rintro e w1 ⟨rfl,hc1,hb1⟩;have hB1:Below w.heap.size w w1:=hb0.trans hb1;have HF1:=hid (HF.out.below hB1 hlt);have HV1:=hid (HV.out.below hB1);have HB1:=hid hB1;have k1:=HF1.out.code;clear hb0 hb1 hB1;go_wp2_with fail;refine(is_one b o c _ HF1.out.code HF1.out.under).mono ?_;rintro e w2 ⟨rfl,hw2⟩;have hb2:Below w1.heap.size w1 w2:=by rw[hw2];exact(Below.refl _ _).alloc (Nat.le_refl _) _
 have hlt1:b<w1.heap.size:=HF1.out.lt;have hsz1:=HB1.out.size;have htl1:w.heap.size<w1.heap.size:=World.block_lt_of_cell? _ _ hc1;have hc2:w2.cell? ⟨w.heap.size,0,none⟩=some (.pointer (some ⟨b,o,none⟩)):=by rw[hb2.cell htl1];exact hc1
 have HF2:=hid (HF1.out.below hb2 hlt1);have HV2:=hid (HV1.out.below hb2);have HB2:=hid (HB1.out.trans (hb2.mono hsz1));clear k1 hc1 hw2 hb2 hlt1 hsz1 HF1 HV1 HB1 HF HV;go_wp2_with fail;refine(zus b o c s a _ h ha hs HF2.out HV2.out.pow).mono ?_;rintro e w3 ⟨t,rfl,ht1,ht2,hb3⟩;have hsz2:=HB2.out.size;have hlt2:b<w2.heap.size:=HF2.out.lt;have htl2:w.heap.size<w2.heap.size:=World.block_lt_of_cell? _ _ hc2;have hc3:w3.cell? ⟨w.heap.size,0,none⟩=some (.pointer (some ⟨b,o,none⟩)):=by rw[hb3.cell htl2];exact hc2
 have f3:=HF2.out.below hb3 hlt2;have k0:=f3.code;have k1:=f3.what;have k2:=f3.at_;have HB3:=hid (HB2.out.trans (hb3.mono hsz2));have hne:t.toList.isEmpty=false:=zuv t ht1;clear hb3 f3 hc2 HB2 HV2 HF2;go_wp2_with fail;go_quiet (fail)
 go_wp2_with fail;go_ret3
 exact⟨rfl,below_drewN HB3.out _⟩
theorem is_that(b o:Nat)(c:Nat)(s:ByteArray)(a:Int)(w:World)(h0:c≠0)(h:c≤9223372036854775807)(ha:a≤9223372036854775807)(hs:s.size≤4611686018427387904)(hf:IsFault w b o c s a)(hv:Vars w):
 Calls Tryz.prog 13 #[.iface 40 (.pointer (some ⟨b,o,none⟩)),.int .i64 c,.string s,.int .i64 a] w fun e w'=>e= .returned (.bool true)∧Below w.heap.size w w':=by
 have hc:((c:Int) == 0)=false:=beq_eq_false_iff_ne.2 (by omega);have HF:=hid hf;clear hf;have HV:=hid hv;clear hv;go_enter Tryz.func13,Tryz.ntmps13;go_wp2_with fail;refine(zuw b o c s a _ h ha hs HF.out HV.out).mono ?_;rintro e w' ⟨rfl,hb⟩;go_wp2_with fail;go_ret;exact⟨rfl,hb⟩
end ErrC
end
section
open Go.RowKit
namespace ErrC
theorem g_err:Tryz.prog.globalNamed "errors.errorType"=some 0:=by kernel_rfl
theorem g_rt:(Tryz.prog.cutTypes.find? (·.1 == "internal/reflectlite.rtype")).map (·.2)=some 151:=by kernel_rfl
theorem types_n:Tryz.prog.types.size=414:=by kernel_rfl
theorem one_row:((List.range 414).filter fun t=>Tryz.prog.rowNamed t [101,114,114,111,114])=[29]:=by kernel_rfl
theorem zux:typeHandle Tryz.prog 29= .pointer (some ⟨15,29,none⟩):=by kernel_rfl
theorem zuy{W:World}(h:laidMetH Tryz.prog [("errors.errorType",Rows.laid_errors_errorType)] W):ErrType W:=by
 have h':laidMet Tryz.prog [] W∧handlesMet Tryz.prog [("errors.errorType",Rows.laid_errors_errorType)] W:=h;obtain⟨name,u,ty,e1,e2,e3,e4,e5⟩:=h'.2 _ (List.mem_singleton.2 rfl);obtain rfl:=(Option.some.inj e1);obtain rfl:=Option.some.inj (g_rt.symm.trans e2);have hm:ty∈(List.range 414).filter fun t=>Tryz.prog.rowNamed t [101,114,114,111,114]:=List.mem_filter.2 ⟨List.mem_range.2 (by rw[←types_n];exact e3),e4⟩
 rw[one_row] at hm;obtain rfl:=List.mem_singleton.1 hm;rw[zux] at e5;unfold ErrType
 simpa using World.var?_cell g_err e5 0
theorem cell_of_table{P:Program}{w:World}{g n:Nat}{t e:TypeId}{zero:Array Value}{k:IntKind}(h:w.ShapedOpen P)(hg:g<P.globals.size)
 (h0:((begin P (fun _ _=>0) default).world.heap[g]?).bind Obj.row?=some (zero,t)) (hz:zero.size=n) (hb:P.buildable t=true) (hc:P.cellTypes P.depth t=some (List.replicate n e)) (hu:P.underlying e=some (.int k)) (i:Nat) (hi:i<n):
 ∃m,w.cell? ⟨g,i,none⟩=some (.int k m):=by
 obtain⟨cs,hh,hs,hr⟩:=h.1 g zero t hg h0;obtain⟨ts,hts,_,hall⟩:=hr hb;rw[hc] at hts;cases hts
 have h1:i<cs.size:=by omega
 obtain⟨u,hu',hok⟩:=hall i cs[i] (by simp[h1])
 have hu2:u=e:=by
  have hl:(List.replicate n e)[i % (List.replicate n e).length]?=some u:=hu';rw[List.getElem?_replicate] at hl
  split at hl
  · exact(Option.some.inj hl).symm
  · cases hl
 subst hu2;have hcell:w.cell? ⟨g,i,none⟩=some cs[i]:=by simp[World.cell?,hh,h1]
 rw[hcell];unfold Cell.ok at hok;rw[hu] at hok;cases hv:cs[i]<;>rw[hv] at hok<;>simp at hok
 case int k' m=>exact⟨m,by rw[hok.1]⟩
theorem zuz{W:World}(h:W.ShapedOpen Tryz.prog):PowTab W:=fun i hi=>
 cell_of_table (zero:=Array.replicate 20 (.int .u64 0)) (t:=273) (e:=24) h (of_decide_eq_true (by kernel_rfl)) (by kernel_rfl) (by kernel_rfl) (by kernel_rfl) (by kernel_rfl) Tryz.underlying24 i hi
theorem vars_of{W:World}(h:laidMetH Tryz.prog [("errors.errorType",Rows.laid_errors_errorType)] W)(hs:W.ShapedOpen Tryz.prog):Vars W:=⟨zuy h,zuz hs⟩
noncomputable def zva(os:Os):World:=
 { World.holding Tryz.prog os ⟨#[],#[],[]⟩ with heap:=(World.holding Tryz.prog os ⟨#[],#[],[]⟩).heap.modify 0 fun
  | .cells _ t frozen=>.cells #[.iface 151 (.agg #[.pointer (some ⟨15,29,none⟩)])] t frozen
  | o=>o }
end ErrC
end
section
open Go.RowKit
namespace EvV
open StrC
open VerC (Vw)
structure VarsR (w:World):Prop where
 vw:Vw w
 err:ErrC.Vars w
 words:∀k,k<11→w.cell? ⟨1,k,none⟩=some (.string (str (EvN.wordsL.getD k [])))
def laidL:List (String×DataW Unit):=[("math/bits.deBruijn32tab",Rows.laid_math_bits_deBruijn32tab),("math/bits.deBruijn64tab",Rows.laid_math_bits_deBruijn64tab),("internal/strconv.uint64pow10",Rows.laid_internal_strconv_uint64pow10),("unicode/utf8.acceptRanges",Rows.laid_unicode_utf8_acceptRanges),("errors.errorType",Rows.laid_errors_errorType),("strconv.ErrRange",Rows.laid_strconv_ErrRange),("strconv.ErrSyntax",Rows.laid_strconv_ErrSyntax),("yankline/event.words",Rows.laid_yankline_event_words),("unicode/utf8.first",Rows.laid_unicode_utf8_first)]
theorem varsR_of{W:World}(h:laidMetH Tryz.prog laidL W)(hs:W.ShapedOpen Tryz.prog):VarsR W:=by
 refine⟨VerC.vw_of (h.filter (fun x=>x.1 != "yankline/event.words" && x.1 != "errors.errorType")) hs,ErrC.vars_of (h.filter (fun x=>x.1 == "errors.errorType")) hs,fun k hk=>?_⟩;have h1:=h.filter (fun x=>x.1 == "yankline/event.words")
 have h2:laidMet Tryz.prog [("yankline/event.words",Rows.laid_yankline_event_words)] W:=by
  rw[←MakeChecks.laidMetH_plain _ _ _ (by kernel_rfl)];exact h1
 exact EvN.zti h2 k hk
def laidD:List (String×DataW Unit):=laidL.filter fun x=>x.2.handleName?.isNone
noncomputable def laidW(os:Os):World:=(ErrC.zva os).layVars Tryz.prog laidD
theorem laidW_os(os:Os):(laidW os).os=os:=World.layVars_os _ _ _
set_option maxRecDepth 100000 in
theorem laidW_met(os:Os)(args:Array Value):laidMetH Tryz.prog laidL ((laidW os).forCall (fun _ _=>0) ⟨#[],args,[]⟩).memory:=
 laidMetH_of_parts (laidMet_layVars (w0:=ErrC.zva os) (laidL.map (·.1)) [] (by kernel_rfl) (by kernel_rfl) (by kernel_rfl) LaidIn.none) (by kernel_rfl)
end EvV
end
end Go.Proofs.YtbninnkpjdofbaaGreatDoor
