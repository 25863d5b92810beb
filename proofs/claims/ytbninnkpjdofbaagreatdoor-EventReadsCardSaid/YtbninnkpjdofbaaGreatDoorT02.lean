/-
  What the proof of EventReads stands on, part 2.
-/
import Derived.BigQuiet
import Derived.Deep.CutBlock
import Derived.Deep.QuietTactic
import Derived.Handy
import Derived.Laws.AppendOwn
import Derived.Laws.Cover1
import Derived.LoopTactic
import Derived.Maps.AppendAt
import Derived.Sort.Grow
import Derived.Test.YtbninnkpjdofbaaGreatDoorT01
set_option linter.unusedSimpArgs false
set_option linter.unusedVariables false
set_option maxHeartbeats 16000000
namespace Go.Proofs.YtbninnkpjdofbaaGreatDoor
open Go.Lib (hid)
section
open Go.RowKit
namespace VerC
open VerM StrC
theorem all_succ(p:UInt8→Bool)(l:List UInt8)(k:Nat)(h:k<l.length):(l.take (k+1)).all p=((l.take k).all p && p (l.getD k 0)):=by
 rw[List.take_add_one,List.all_append];simp[h]
theorem all_not(p:UInt8→Bool)(l:List UInt8)(k:Nat)(h:(l.take k).all p=false):l.all p=false:=by
 rw[←List.take_append_drop k l,List.all_append,h];rfl
theorem zbw(l:B):(str l).toList=l:=by rw[ByteArray.toList_eq,zbp]
theorem zbx(l:B):(str l).toList.isEmpty=decide (l=[]):=by rw[ByteArray.toList_eq,zbp];cases l<;>simp
theorem zby{l:B}(h:l.all dig=false):digs l=false:=by unfold digs;rw[h];rfl
theorem zbz(l:B)(w:World)(hl:l.length≤9223372036854775807):
 Calls Tryz.prog 180 #[.string (str l)] w fun e w'=>e= .returned (.bool (digs l))∧w=w':=by
 have hs:=zbo l;have HX:=hid (fun a (h:a<l.length)=>zbr l a a rfl h);have HS:=hid (all_succ dig l);have HE:=hid (show (l.take l.length).all dig=l.all dig by rw[List.take_length]);go_enter Tryz.func180,Tryz.ntmps180;go_wp2_with fail;go_loop [3] (fun i=>∃k:Nat,k≤l.length∧i= .int .i64 k∧(l.take k).all dig=true) (fun i=>l.length-(intOf i).toNat)
 case atStart=>exact⟨0,Nat.zero_le _,rfl,rfl⟩
 case round=>
  obtain⟨k,hk,rfl,ha⟩:=hrel;have HQ:=hid ha;clear ha;by_cases hlt:k<l.length
  · have hdec:decide (k<l.length)=true:=by simpa using hlt
    have hx:=HX.out k hlt;have hn:=hid (HS.out k hlt);generalize l.getD k 0=c at*;have hc:c.toNat<256:=c.toNat_lt;go_wp2_with fail
    all_goals (first
     | (go_ret;refine⟨retB ?_,rfl⟩;refine(zby (all_not dig l (k+1) ?_)).symm;rw[hn.out,HQ.out];simp only[dig,Bool.true_and,Bool.and_eq_false_iff,decide_eq_false_iff_not];omega)
     | (refine ⟨⟨k+1,by omega,by go_num,?_⟩,by simp[intOf];omega⟩;rw[hn.out,HQ.out];simp only[dig,Bool.true_and,Bool.and_eq_true,decide_eq_true_eq];omega))
  · have hdec:decide (k<l.length)=false:=by simpa using hlt
    have hall:l.all dig=true:=by rw[←HE.out,show l.length=k from by omega,HQ.out]
    have HA:=hid (show digs l=decide (l≠[]) by unfold digs;rw[hall,Bool.true_and]);clear hall;go_wp2
    go_ret;refine⟨retB ?_,rfl⟩;rw[HA.out,zbx];simp
theorem zca{l:B}(h:l.all okI=false):ident l=false:=by unfold ident;rw[h];simp
theorem zcb{l:B}(h:¬(1≤l.length∧l.length≤16)):ident l=false:=by
 unfold ident;have:(decide (1≤l.length) && decide (l.length≤16))=false:=by rw[Bool.and_eq_false_iff,decide_eq_false_iff_not,decide_eq_false_iff_not];omega
 rw[this];simp
theorem zcc{l:B}(h1:1≤l.length)(h2:l.length≤16)(h:l.all okI=true):ident l=(!digs l || !padded l):=by unfold ident;rw[h,decide_eq_true h1,decide_eq_true h2];rfl
theorem zcd{l:B}(h1:1≤l.length):padded l=(decide (l≠[48]) && decide ((l.getD 0 0).toNat=48)):=by
 unfold padded
 match l,h1 with
 | [c],_=>
   by_cases h:c.toNat=48
   · have:c=48:=UInt8.toNat_inj.1 (by rw[h];rfl)
     subst this;rfl
   · rw[decide_eq_false (p:=([c].getD 0 0).toNat=48) (by simpa using h)];simp
 | c :: d :: r,_=>simp
theorem zce(l:B)(w:World)(hl:l.length≤9223372036854775807):
 Calls Tryz.prog 181 #[.string (str l)] w fun e w'=>e= .returned (.bool (ident l))∧w=w':=by
 have hs:=zbo l;rcases Nat.lt_or_ge l.length 1 with h1|h1
 · have H:=hid (zcb (l:=l) (by omega))
   go_enter Tryz.func181,Tryz.ntmps181;go_wp2_with fail
   all_goals go_ret
   all_goals exact⟨retB H.out.symm,rfl⟩
 rcases Nat.lt_or_ge 16 l.length with h2|h2
 · have H:=hid (zcb (l:=l) (by omega))
   go_enter Tryz.func181,Tryz.ntmps181;go_wp2_with fail
   all_goals go_ret
   all_goals exact⟨retB H.out.symm,rfl⟩
 have hx0:=zbr l 0 0 rfl (by omega);have HX:=hid (fun a (h:a<l.length)=>zbr l a a rfl h);have HX0:=hid hx0;have HM:=hid (fun h=>zcc h1 h2 h);have HP:=hid (zcd h1);have HN:=hid (fun k h=>zca (all_not okI l k h));have HS:=hid (all_succ okI l);have HE:=hid (show (l.take l.length).all okI=l.all okI by rw[List.take_length]);have HD:=hid (fun w=>zbz l w hl);generalize l.getD 0 0=c0 at*;have d1:decide ((l.length:Int)<1)=false:=decide_eq_false (by omega);have d2:decide (16<(l.length:Int))=false:=decide_eq_false (by omega);have hc0:c0.toNat<256:=c0.toNat_lt;go_enter Tryz.func181,Tryz.ntmps181;go_wp2_with fail;clear hx0;go_loop [3,4] (fun i _=>∃k:Nat,k≤l.length∧i= .int .i64 k∧(l.take k).all okI=true) (fun i _=>l.length-(intOf i).toNat)
 case atStart=>exact⟨0,Nat.zero_le _,rfl,rfl⟩
 case round=>
  obtain⟨k,hk,rfl,ha⟩:=hrel;have HQ:=hid ha;clear ha;by_cases hlt:k<l.length
  · have hdec:decide (k<l.length)=true:=by simpa using hlt
    have hx:=HX.out k hlt;have hn:=hid (HS.out k hlt);generalize l.getD k 0=c at*;have hc:c.toNat<256:=c.toNat_lt;go_wp2_with fail
    all_goals (first
     | (go_ret;refine⟨retB ?_,rfl⟩;refine(HN.out (k+1) ?_).symm;rw[hn.out,HQ.out];simp only[okI,dig,Bool.true_and,Bool.or_eq_false_iff,Bool.and_eq_false_iff,decide_eq_false_iff_not,bne_iff_ne,ne_eq] at *;omega)
     | (refine ⟨⟨k+1,by omega,by go_num,?_⟩,by simp[intOf];omega⟩;rw[hn.out,HQ.out];simp only[okI,dig,Bool.true_and,Bool.or_eq_true,Bool.and_eq_true,decide_eq_true_eq,bne_eq_false_iff_eq] at *;omega))
  · have hdec:decide (k<l.length)=false:=by simpa using hlt
    have hall:l.all okI=true:=by rw[←HE.out,show l.length=k from by omega,HQ.out]
    have HA:=hid (HM.out hall);clear hall hdec;have hx0:=HX0.out;rw[HP.out] at HA;generalize digs l=dg at*;go_wp2_with (go_at_call 180;refine(HD.out _).mono ?_;rintro e w' ⟨rfl,rfl⟩)
    all_goals go_ret
    all_goals refine⟨retB ?_,rfl⟩
    all_goals rw[HA.out]
    all_goals clear HA HD HP HN HM HS HE HX HX0
    · rename_i h1 h2
      rw[zbw] at h2;rw[h1,h2];rfl
    · rename_i h1 h2
      rw[zbw] at h2;rw[h1,zbw];by_cases e2:c0.toNat=48
      · have e4:(l == [48])=decide (l=[48]):=by rw[Bool.eq_iff_iff];simp
        simp[e2,e4]
      · have e3:¬((c0.toNat:Int)=48):=by omega
        have e4:(l == [48])=decide (l=[48]):=by rw[Bool.eq_iff_iff];simp
        simp[e2,e3,e4]
    · rename_i h1
      rw[show dg=false from by simpa using h1];rfl
theorem zcf:∀d:Fin 10,(ByteArray.mk #[48,49,50,51,52,53,54,55,56,57]).extract d.val (d.val+1)=str [UInt8.ofNat (48+d.val)]:=by decide +kernel
theorem zcg(d:Nat)(c:UInt8)(x y:Int)(hx:x=d)(hy:y=(d+1:Nat))(h:d<10)(hc:c=UInt8.ofNat (48+d))(w:World):
 (Instr.slice 9 (.string ⟨#[48,49,50,51,52,53,54,55,56,57]⟩) (some (.int .u64 x)) (some (.int .u64 y)) none).run Tryz.prog w= .ok (.string (str [c])) w:=by
 subst hx;subst hy;rw[run_slice_string w 9 _ .u64 .u64 _ _ Tryz.underlying9 (by omega) (by omega) (by show ((d+1:Nat):Int)≤((10:Nat):Int);omega),Int.toNat_natCast,Int.toNat_natCast,hc];exact congrArg (fun b=>Result.ok (Value.string b) w) (zcf ⟨d,h⟩)
theorem zch:∀k n,n<10 ^ (k+1)→(Lib.decDigits n).length≤k+1
 | 0,n,h=>by rw[Lib.decDigits,dif_pos (by simpa using h)];simp
 | k+1,n,h=>by
   rw[Lib.decDigits]
   split
   · simp
   · have:=zch k (n / 10) (by rw[Nat.pow_succ] at h;omega)
     simp;omega
theorem zci(n:Nat)(h:9<n)(s:B):Lib.decDigits n++s=Lib.decDigits (n / 10)++(UInt8.ofNat (48+n % 10) :: s):=by
 rw[Lib.decDigits,dif_neg (by omega)];simp
theorem zcj(n:Nat)(w:World)(hn:n<18446744073709551616):
 Calls Tryz.prog 89 #[.int .u64 n] w fun e w'=>e= .returned (.string (str (Lib.decDigits n)))∧w=w':=by
 have hdl:(Lib.decDigits n).length≤20:=zch 19 n (by omega);have HL:=hid hdl;clear hdl;go_enter Tryz.func89,Tryz.ntmps89;go_wp2_with fail;go_loop [0,3] (fun a s=>∃(k:Nat) (t:B),k<18446744073709551616∧a= .int .u64 k∧s= .string (str t)∧Hid (Lib.decDigits n=Lib.decDigits k++t)) (fun a _=>(intOf a).toNat)
 case atStart=>exact⟨n,[],hn,rfl,rfl,hid (by simp)⟩
 case round=>
  obtain⟨k,t,hk,rfl,rfl,HQ⟩:=hrel;have htl:t.length≤20:=by have:=HL.out;rw[HQ.out,List.length_append] at this;omega
  by_cases hlt:9<k
  · have hdec:decide (9<(k:Int))=true:=by simp;omega
    obtain⟨c,hc⟩:∃c,c=UInt8.ofNat (48+k % 10):=⟨_,rfl⟩;have hs:=zcg (k % 10) c ((k:Int) % 10) ((k:Int) % 10+1) (by omega) (by omega) (by omega) hc;have ha:=fun w=>zbq [c] t w (by simp;omega)
    have HC:=hid hc;clear hc;go_wp2_with fail;go_round
    case rel=>exact⟨k / 10,c :: t,by omega,by go_num,rfl,hid (by rw[HQ.out,zci k hlt t,HC.out])⟩
    case measure=>simp[intOf];omega
  · have hdec:decide (9<(k:Int))=false:=by simp;omega
    obtain⟨c,hc⟩:∃c,c=UInt8.ofNat (48+k):=⟨_,rfl⟩;have hs:=zcg k c (k:Int) ((k:Int)+1) rfl (by omega) (by omega) hc;have ha:=fun w=>zbq [c] t w (by simp;omega)
    have HC:=hid hc;clear hc;go_wp2_with fail;go_ret;exact⟨by rw[HQ.out,Lib.decDigits_one (by omega),HC.out];rfl,rfl⟩
theorem zck(l:B)(k:Nat)(h:k<l.length):val (l.take (k+1))=10*val (l.take k)+((l.getD k 0).toNat-48):=by
 rw[List.take_add_one,List.getElem?_eq_getElem h]
 show val (l.take k++ [l[k]])=_;rw[zan];simp[h]
theorem val_lt:∀l:B,l.all dig=true→val l<10 ^ l.length:=by
 intro l
 induction l using zaq with
 | h0=>intro _;decide
 | h1 s c ih=>
   intro h;rw[List.all_append,Bool.and_eq_true] at h;have:=ih h.1
   have hc:dig c=true:=by simpa using h.2
   simp only[dig,Bool.and_eq_true,decide_eq_true_eq] at hc;rw[zan,List.length_append,List.length_singleton,Nat.pow_succ];omega
theorem zcl{l:B}(h1:1<l.length):padded l=decide ((l.getD 0 0).toNat=48):=by unfold padded;rw[decide_eq_true h1,Bool.true_and]
theorem val_ge:∀(k:Nat) (l:B),l.length=k+1→(∀c∈l,dig c=true)→(l.getD 0 0).toNat≠48→10 ^ k≤val l:=by
 intro k
 induction k with
 | zero=>
   intro l hl hd h0
   match l,hl with
   | [c],_=>
     have:=hd c (by simp)
     simp only[dig,Bool.and_eq_true,decide_eq_true_eq] at this;have h0:c.toNat≠48:=h0
     show 1≤10*0+(c.toNat-48);omega
 | succ k ih=>
   intro l hl hd h0;have hk:k+1<l.length:=by omega
   have e:l=l.take (k+1)++ [l.getD (k+1) 0]:=by
    have:=List.take_append_drop (k+1) l
    rw[List.drop_eq_getElem_cons hk,List.drop_eq_nil_of_le (by omega)] at this;rw[List.getD_eq_getElem?_getD,List.getElem?_eq_getElem hk];exact this.symm
   have h1:=ih (l.take (k+1)) (by simp;omega) (fun c hc=>hd c (List.mem_of_mem_take hc)) (by
    have:(l.take (k+1)).getD 0 0=l.getD 0 0:=by rw[List.getD_eq_getElem?_getD,List.getElem?_take_of_lt (by omega),List.getD_eq_getElem?_getD]
    rw[this];exact h0)
   rw[e,zan,Nat.pow_succ];omega
theorem zcm{l:B}(h:10<l.length):numb l=none:=by
 unfold numb;rw[if_neg];rintro⟨h1,h2,h3⟩;unfold digs at h1;rw[Bool.and_eq_true] at h1;rw[zcl (by omega),decide_eq_false_iff_not] at h2;have:=val_ge (l.length-1) l (by omega) (fun c hc=>List.all_eq_true.1 h1.1 c hc) h2
 have h4:10 ^ 10≤10 ^ (l.length-1):=Nat.pow_le_pow_right (by decide) (by omega);unfold mx at h3;omega
theorem zcn(l:B)(h1:digs l=true)(h2:padded l=false):(numb l).isSome=decide (val l≤mx):=by
 unfold numb;by_cases h:val l≤mx
 · rw[if_pos ⟨h1,h2,h⟩,decide_eq_true h];rfl
 · rw[if_neg (fun e=>h e.2.2),decide_eq_false h];rfl
theorem zco{l:B}{n:Nat}(h:numb l=some n):n=val l∧val l≤mx:=by
 unfold numb at h
 split at h
 · rename_i hc;cases h;exact⟨rfl,hc.2.2⟩
 · cases h
theorem zcp(v:Nat):decide ((v:Int)≤2147483647)=decide (v≤mx):=by
 have:((v:Int)≤2147483647)=(v≤mx):=propext ⟨fun h=>by unfold mx;omega,fun h=>by unfold mx at h;omega⟩
 simp only[this]
theorem zcq(l:B)(w:World)(hl:l.length≤9223372036854775807):
 Calls Tryz.prog 147 #[.string (str l)] w fun e w'=>∃x:Int,e= .returned (.tuple #[.int .u32 x,.bool (numb l).isSome])∧(∀n,numb l=some n→x=n)∧w=w':=by
 have hs:=zbo l;have HD:=hid (fun w=>zbz l w hl);rcases Bool.eq_false_or_eq_true (digs l) with hdg|hdg
 rotate_left
 · have H:=hid (show numb l=none by unfold numb;rw[if_neg (by rw[hdg];simp)])
   rw[hdg] at HD;go_enter Tryz.func147,Tryz.ntmps147;go_wp2_with (go_at_call 180;refine(HD.out _).mono ?_;rintro e w' ⟨rfl,rfl⟩)
   all_goals go_ret2
   all_goals exact⟨_,by rw[H.out];rfl,fun n h=>(by rw[H.out] at h;cases h),rfl⟩
 rcases Nat.lt_or_ge 10 l.length with h10|h10
 · have H:=hid (zcm h10)
   rw[hdg] at HD;go_enter Tryz.func147,Tryz.ntmps147;go_wp2_with (go_at_call 180;refine(HD.out _).mono ?_;rintro e w' ⟨rfl,rfl⟩)
   all_goals go_ret2
   all_goals exact⟨_,by rw[H.out];rfl,fun n h=>(by rw[H.out] at h;cases h),rfl⟩
 rw[hdg] at HD;have hall:l.all dig=true:=by unfold digs at hdg;rw[Bool.and_eq_true] at hdg;exact hdg.1
 have hne:0<l.length:=by
  unfold digs at hdg;rw[Bool.and_eq_true,decide_eq_true_eq] at hdg;exact List.length_pos_iff.2 hdg.2
 have HX:=hid (fun a (h:a<l.length)=>zbr l a a rfl h);have hx0:=zbr l 0 0 rfl hne;have HB:=hid (fun c (h:c∈l)=>List.all_eq_true.1 hall c h);have HV:=hid (fun k (h:k≤l.length)=>Nat.lt_of_lt_of_le (val_lt (l.take k) (List.all_eq_true.2 fun c hc=>List.all_eq_true.1 hall c (List.mem_of_mem_take hc))) (Nat.pow_le_pow_right (by decide) (show (l.take k).length≤10 by rw[List.length_take];omega)));have HS:=hid (zck l);have HE:=hid (show val (l.take l.length)=val l by rw[List.take_length]);have HP:=hid (fun h=>zcl (l:=l) h);have HP1:=hid (show l.length=1→padded l=false from fun h=>by unfold padded;rw[h];rfl);have HI:=hid (fun h=>zcn l hdg h);have HI2:=hid (show padded l=true→numb l=none from fun h=>by unfold numb;rw[if_neg (by rw[h];simp)]);have HNV:=hid (fun n (h:numb l=some n)=>zco h);generalize l.getD 0 0=c0 at*;have hc0:c0.toNat<256:=c0.toNat_lt;clear hdg hall;by_cases hpad:padded l=true
 · have H:=hid (HI2.out hpad)
   have h1:1<l.length:=by
    apply Classical.byContradiction;intro h
    have:=HP1.out (by omega)
    rw[this] at hpad;cases hpad
   have h48:c0.toNat=48:=by rw[HP.out h1] at hpad;simpa using hpad
   have d0:(decide (10<(l.length:Int)) || (c0.toNat:Int) == 48)=true:=by rw[h48];simp
   have d2:((c0.toNat:Int) == 48)=true:=by rw[h48];rfl
   have d3:decide (1<(l.length:Int))=true:=decide_eq_true (by omega);clear hpad;go_enter Tryz.func147,Tryz.ntmps147;go_wp2_with (go_at_call 180;refine(HD.out _).mono ?_;rintro e w' ⟨rfl,rfl⟩)
   all_goals go_ret2
   all_goals exact⟨_,by rw[H.out];rfl,fun n h=>(by rw[H.out] at h;cases h),rfl⟩
 have hpf:padded l=false:=by simpa using hpad
 have HI3:=hid (HI.out hpf)
 have h48:l.length=1∨(1<l.length∧¬(c0.toNat=48)):=by
  rcases Nat.lt_or_ge 1 l.length with h|h
  · right;rw[HP.out h] at hpf;exact⟨h,of_decide_eq_false hpf⟩
  · left;omega
 have d0:decide (10<(l.length:Int))=false:=decide_eq_false (by omega);clear hpad hpf HI HI2 HP HP1;rcases h48 with h48|⟨h48,h49⟩
 · have d3:decide (1<(l.length:Int))=false:=decide_eq_false (by omega)
   clear h48;go_enter Tryz.func147,Tryz.ntmps147;go_wp2_with (go_at_call 180;refine(HD.out _).mono ?_;rintro e w' ⟨rfl,rfl⟩)
   clear hx0 d0 d3;go_loop [4,5] (fun n i=>∃k:Nat,k≤l.length∧i= .int .i64 k∧n= .int .u64 ((val (l.take k):Nat):Int)) (fun _ i=>l.length-(intOf i).toNat)
   case atStart=>exact⟨0,Nat.zero_le _,rfl,rfl⟩
   case round=>
    obtain⟨k,hk,rfl,rfl⟩:=hrel;by_cases hlt:k<l.length
    · have hdec:decide (k<l.length)=true:=by simpa using hlt
      have hx:=HX.out k hlt;have hn:=hid (HS.out k hlt);have hv:=HV.out k hk;have hcd:=HB.out (l.getD k 0) (by rw[List.getD_eq_getElem?_getD,List.getElem?_eq_getElem hlt];exact List.getElem_mem hlt);generalize l.getD k 0=c at*;generalize val (l.take k)=v at*;simp only[dig,Bool.and_eq_true,decide_eq_true_eq] at hcd;have e1:IntKind.u8.wrap ((c.toNat:Int)-48)=((c.toNat-48:Nat):Int):=by rw[IntWalk.u8_in _ ⟨by omega,by omega⟩];omega
      go_wp2_with fail;exact⟨⟨k+1,by omega,by go_num,by rw[hn.out];congr 1⟩,by simp[intOf];omega⟩
    · have hdec:decide (k<l.length)=false:=by simpa using hlt
      have hke:k=l.length:=by omega
      subst hke;have hv:=HV.out l.length hk;rw[HE.out] at hv ⊢;generalize val l=v at*;go_wp2
      go_ret2
      refine⟨(v:Int) % 4294967296,?_,fun n h=>?_,rfl⟩
      · have e2:decide ((v:Int)≤2147483647)=decide (v≤mx):=zcp v
        rw[HI3.out,←e2];rfl
      · have:=HNV.out n h
        unfold mx at this;omega
 · have d3:decide (1<(l.length:Int))=true:=decide_eq_true (by omega)
   have d2:((c0.toNat:Int) == 48)=false:=by rw[beq_eq_false_iff_ne];omega
   clear h48 h49;go_enter Tryz.func147,Tryz.ntmps147;go_wp2_with (go_at_call 180;refine(HD.out _).mono ?_;rintro e w' ⟨rfl,rfl⟩)
   clear hx0 d0 d3 d2;go_loop [4,5] (fun n i=>∃k:Nat,k≤l.length∧i= .int .i64 k∧n= .int .u64 ((val (l.take k):Nat):Int)) (fun _ i=>l.length-(intOf i).toNat)
   case atStart=>exact⟨0,Nat.zero_le _,rfl,rfl⟩
   case round=>
    obtain⟨k,hk,rfl,rfl⟩:=hrel;by_cases hlt:k<l.length
    · have hdec:decide (k<l.length)=true:=by simpa using hlt
      have hx:=HX.out k hlt;have hn:=hid (HS.out k hlt);have hv:=HV.out k hk;have hcd:=HB.out (l.getD k 0) (by rw[List.getD_eq_getElem?_getD,List.getElem?_eq_getElem hlt];exact List.getElem_mem hlt);generalize l.getD k 0=c at*;generalize val (l.take k)=v at*;simp only[dig,Bool.and_eq_true,decide_eq_true_eq] at hcd;have e1:IntKind.u8.wrap ((c.toNat:Int)-48)=((c.toNat-48:Nat):Int):=by rw[IntWalk.u8_in _ ⟨by omega,by omega⟩];omega
      go_wp2_with fail;exact⟨⟨k+1,by omega,by go_num,by rw[hn.out];congr 1⟩,by simp[intOf];omega⟩
    · have hdec:decide (k<l.length)=false:=by simpa using hlt
      have hke:k=l.length:=by omega
      subst hke;have hv:=HV.out l.length hk;rw[HE.out] at hv ⊢;generalize val l=v at*;go_wp2
      go_ret2
      refine⟨(v:Int) % 4294967296,?_,fun n h=>?_,rfl⟩
      · have e2:decide ((v:Int)≤2147483647)=decide (v≤mx):=zcp v
        rw[HI3.out,←e2];rfl
      · have:=HNV.out n h
        unfold mx at this;omega
theorem zcr(a b:B):(a=b∧ordI a b=0)∨(a≠b∧digs a=true∧digs b=false∧ordI a b= -1)∨(a≠b∧digs a=false∧digs b=true∧ordI a b=1)∨
 (a≠b∧digs a=true∧digs b=true∧a.length<b.length∧ordI a b= -1)∨(a≠b∧digs a=true∧digs b=true∧b.length<a.length∧ordI a b=1)∨
 (a≠b∧digs a=true∧digs b=true∧a.length=b.length∧ordI a b=if a<b then -1 else 1)∨(a≠b∧digs a=false∧digs b=false∧ordI a b=if a<b then -1 else 1):=by
 rw[zbc];by_cases e:a=b
 · exact .inl ⟨e,if_pos e⟩
 · rw[if_neg e]
   rcases Bool.eq_false_or_eq_true (digs a) with ha|ha<;>rcases Bool.eq_false_or_eq_true (digs b) with hb|hb<;>simp only[ha,hb,e,ne_eq,not_true,not_false_iff,true_and,false_and,Bool.false_eq_true,Bool.true_eq_false,if_true,if_false,or_false,false_or,not_false_eq_true,and_true]
   rcases Nat.lt_trichotomy a.length b.length with h|h|h
   · left;exact⟨h,by rw[if_pos (by omega),if_pos h]⟩
   · right;right;exact⟨h,by rw[if_neg (by omega)]⟩
   · right;left;exact⟨h,by rw[if_pos (by omega),if_neg (by omega)]⟩
theorem zcs{a b:B}(h:a≠b):((str a).toList == (str b).toList)=false:=by rw[zbs];exact decide_eq_false h
theorem zct(a:B):((str a).toList == (str a).toList)=true:=by simp
theorem zcu:∀(x y:List UInt8),Op.bytesLess x y=decide (x<y)
 | [],[]=>by simp[Op.bytesLess]
 | _ :: _,[]=>by simp[Op.bytesLess]
 | [],_ :: _=>by simp[Op.bytesLess]
 | a :: x,b :: y=>by
   have ih:=zcu x y;simp only[Op.bytesLess,ih,List.cons_lt_cons_iff];rw[Bool.eq_iff_iff];simp
theorem zcv(a b:B):Op.bytesLess (str a).toList (str b).toList=decide (a<b):=by rw[zcu,zbw,zbw]
theorem zcw(a b:B)(w:World)(ha:a.length≤9223372036854775807)(hb:b.length≤9223372036854775807):
 Calls Tryz.prog 266 #[.string (str a),.string (str b)] w fun e w'=>e= .returned (.int .i64 (ordI a b))∧w=w':=by
 have hsa:=zbo a;have hsb:=zbo b;have HDA:=hid (fun w=>zbz a w ha);have HDB:=hid (fun w=>zbz b w hb);have H:=zcr a b;have hless:=zcv a b;generalize ordI a b=r at*;generalize digs a=da at*;generalize digs b=db at*;have TK:=hid ha;rcases H with ⟨e,H⟩|⟨e,e1,e2,H⟩|⟨e,e1,e2,H⟩|⟨e,e1,e2,e3,H⟩|⟨e,e1,e2,e3,H⟩|⟨e,e1,e2,e3,H⟩|⟨e,e1,e2,H⟩
 · subst e
   have hbq:=zct a;subst H;go_enter Tryz.func266,Tryz.ntmps266;go_wp2_with fail;go_ret;exact⟨rfl,rfl⟩
 all_goals have hbq:=zcs e
 all_goals clear e
 all_goals subst e1
 all_goals subst e2
 rotate_right 2
 all_goals by_cases hl:a<b
 all_goals first
  | (rw [if_pos hl] at H;rw[decide_eq_true hl] at hless;clear hl)
  | (rw [if_neg hl] at H;rw[decide_eq_false hl] at hless;clear hl)
  | clear hless hl
 all_goals subst H
 all_goals (go_enter Tryz.func266,Tryz.ntmps266)
 all_goals (go_wp2_with (first
  | (go_at_call 180;clear TK;refine(HDA.out _).mono ?_;rintro e w' ⟨rfl,rfl⟩)
  | (go_at_call 180;refine(HDB.out _).mono ?_;rintro e w' ⟨rfl,rfl⟩)))
 all_goals go_ret
 all_goals exact⟨rfl,rfl⟩
end VerC
end
section
open Go.RowKit
namespace VerC
open VerM StrC
structure Gr (w w':World):Prop where
 below:Below w.heap.size w w'
 drawn:w.drawn≤w'.drawn
theorem Gr.refl(w:World):Gr w w:=⟨Below.refl _ _,Nat.le_refl _⟩
theorem Gr.trans{a b c:World}(h:Gr a b)(k:Gr b c):Gr a c:=⟨chain (Nat.le_refl _) h.below k.below,Nat.le_trans h.drawn k.drawn⟩
theorem Gr.alloc{w w':World}(h:Gr w w')(o:Obj):Gr w (w'.alloc o):=⟨h.below.alloc h.below.size o,h.drawn⟩
theorem Gr.drew{w w':World}(h:Gr w w'):Gr w w'.drew:=⟨⟨h.below.os,h.below.tape,h.below.output,h.below.size,h.below.block⟩,Nat.le_trans h.drawn (Nat.le_succ _)⟩
theorem Gr.drewN{w w':World}(h:Gr w w')(n:Nat):Gr w (w'.drewN n):=⟨⟨h.below.os,h.below.tape,h.below.output,h.below.size,h.below.block⟩,Nat.le_trans h.drawn (Nat.le_add_right _ _)⟩
theorem Gr.set{w w':World}(h:Gr w w')(b j:Nat)(v:Value)(hb:w.heap.size≤b):Gr w (w'.setCell ⟨b,j,none⟩ v):=
 ⟨⟨h.below.os,h.below.tape,h.below.output,by simpa using h.below.size,fun k hk=>by rw[Below.heap_setCell w' ⟨b,j,none⟩ v k (by show k≠b;omega)];exact h.below.block k hk⟩,h.drawn⟩
theorem Gr.grow{w w':World}(h:Gr w w'):∃n os,w'=Sort.grow (w.drewN n) os:=by
 refine⟨w'.drawn-w.drawn,w'.heap.extract w.heap.size w'.heap.size,?_⟩
 have e:w'.heap=w.heap++w'.heap.extract w.heap.size w'.heap.size:=by
  apply Array.ext_getElem?
  intro i;by_cases hi:i<w.heap.size
  · rw[Array.getElem?_append_left hi];exact h.below.block i hi
  · rw[Array.getElem?_append_right (by omega),Array.getElem?_extract]
    by_cases h2:i<w'.heap.size
    · rw[if_pos (by omega)];congr 1;omega
    · rw[if_neg (by omega)];simp;omega
 have hd:=h.drawn;cases w' with
 | mk heap tape drawn os output=>
   cases w with
   | mk heap0 tape0 drawn0 os0 output0=>
     have h1:=h.below.os;have h2:=h.below.tape;have h3:=h.below.output;simp only at h1 h2 h3 e hd;subst h1 h2 h3
     show _=World.mk (heap0++_) _ (drawn0+_) _ _;rw[←e,Nat.add_sub_cancel' hd]
     rfl
structure Txs (w:World) (a:Option Addr) (cap:Nat) (p:TL):Prop where
 cap:p.length≤cap
 short:∀s∈p,s.length≤9223372036854775807
 few:p.length≤281474976710656
 cells:0<p.length→∃b o,a=some ⟨b,o,none⟩∧∀i,i<p.length→w.cell? ⟨b,o+i,none⟩=some (.string (str (p.getD i [])))
theorem Txs.gr{w w':World}{a:Option Addr}{cap:Nat}{p:TL}(h:Txs w a cap p)(g:Below w.heap.size w w'):Txs w' a cap p:=by
 refine⟨h.cap,h.short,h.few,fun h0=>?_⟩;obtain⟨b,o,e,hc⟩:=h.cells h0;exact⟨b,o,e,fun i hi=>by rw[g.cell (World.block_lt_of_cell? _ _ (hc i hi))];exact hc i hi⟩
theorem zcx{w:World}{b o:Nat}{v:Value}(O:Obj)(h:w.cell? ⟨b,o,none⟩=some v):(w.alloc O).cell? ⟨b,o,none⟩=some v:=by
 rw[World.cell?_alloc_old _ _ _ (Nat.ne_of_lt (World.block_lt_of_cell? _ _ h))];exact h
theorem zcy{w:World}{b o:Nat}{v:Value}(O:Obj)(n:Nat)(h:w.cell? ⟨b,o,none⟩=some v):((w.alloc O).drewN n).cell? ⟨b,o,none⟩=some v:=zcx O h
theorem Txs.nil(w:World)(a:Option Addr)(cap:Nat):Txs w a cap []:=⟨Nat.zero_le _,fun s h=>by simp at h,by simp,fun h=>by simp at h⟩
theorem Txs.mem{w:World}{a:Option Addr}{cap:Nat}{p:TL}(h:Txs w a cap p)(i:Nat)(hi:i<p.length):(p.getD i []).length≤9223372036854775807:=by
 rw[List.getD_eq_getElem?_getD,List.getElem?_eq_getElem hi];exact h.short _ (List.getElem_mem hi)
theorem zcz(p:B→Bool)(l:TL)(k:Nat)(h:k<l.length):(l.take (k+1)).all p=((l.take k).all p && p (l.getD k [])):=by
 rw[List.take_add_one,List.all_append];simp[h]
theorem zda(p:B→Bool)(l:TL)(k:Nat)(h:(l.take k).all p=false):l.all p=false:=by
 rw[←List.take_append_drop k l,List.all_append,h];rfl
theorem zdb{v:Ver}(h:¬(v.a≤mx∧v.b≤mx∧v.c≤mx∧v.pre.length≤8)):may v=false:=by
 unfold may
 have:(decide (v.a≤mx) && decide (v.b≤mx) && decide (v.c≤mx) && decide (v.pre.length≤8))=false:=by
  rw[Bool.eq_false_iff];intro e;simp only[Bool.and_eq_true,decide_eq_true_eq] at e;exact h ⟨e.1.1.1,e.1.1.2,e.1.2,e.2⟩
 rw[this];rfl
theorem zdc{v:Ver}(h:v.pre.all ident=false):may v=false:=by unfold may;rw[h];simp
theorem zdd{v:Ver}(h1:v.a≤mx)(h2:v.b≤mx)(h3:v.c≤mx)(h4:v.pre.length≤8)(h:v.pre.all ident=true):may v=true:=by
 unfold may;rw[h,decide_eq_true h1,decide_eq_true h2,decide_eq_true h3,decide_eq_true h4];rfl
theorem rmay_any(v:Ver)(a:Option Addr)(cap:Nat)(w:World)(hT:Txs w a cap v.pre):
 Calls Tryz.prog 148 #[.agg #[.int .u32 v.a,.int .u32 v.b,.int .u32 v.c,.slice a v.pre.length cap]] w fun e w'=>e= .returned (.bool (may v))∧Gr w w':=by
 obtain⟨na,nb,nc,p⟩:=v
 dsimp only at hT ⊢
 have HN:=hid (fun h=>zdb (v:=⟨na,nb,nc,p⟩) h)
 dsimp only at HN
 by_cases h1:na≤mx
 rotate_left
 · have H:=hid (HN.out (fun e=>h1 e.1))
   have d1:decide (2147483647<(na:Int))=true:=by unfold mx at h1;exact decide_eq_true (by omega)
   clear h1 HN hT;go_enter Tryz.func148,Tryz.ntmps148;go_wp2_with fail
   all_goals go_ret
   all_goals exact⟨retB H.out.symm,(Gr.refl w).alloc _⟩
 have d1:decide (2147483647<(na:Int))=false:=by unfold mx at h1;exact decide_eq_false (by omega)
 by_cases h2:nb≤mx
 rotate_left
 · have H:=hid (HN.out (fun e=>h2 e.2.1))
   have d2:decide (2147483647<(nb:Int))=true:=by unfold mx at h2;exact decide_eq_true (by omega)
   clear h1 h2 HN hT;go_enter Tryz.func148,Tryz.ntmps148;go_wp2_with fail
   all_goals go_ret
   all_goals exact⟨retB H.out.symm,(Gr.refl w).alloc _⟩
 have d2:decide (2147483647<(nb:Int))=false:=by unfold mx at h2;exact decide_eq_false (by omega)
 by_cases h3:nc≤mx
 rotate_left
 · have H:=hid (HN.out (fun e=>h3 e.2.2.1))
   have d3:decide (2147483647<(nc:Int))=true:=by unfold mx at h3;exact decide_eq_true (by omega)
   clear h1 h2 h3 HN hT;go_enter Tryz.func148,Tryz.ntmps148;go_wp2_with fail
   all_goals go_ret
   all_goals exact⟨retB H.out.symm,(Gr.refl w).alloc _⟩
 have d3:decide (2147483647<(nc:Int))=false:=by unfold mx at h3;exact decide_eq_false (by omega)
 by_cases h4:p.length≤8
 rotate_left
 · have H:=hid (HN.out (fun e=>h4 e.2.2.2))
   have d4:decide (8<(p.length:Int))=true:=decide_eq_true (by omega);clear h1 h2 h3 h4 HN hT;go_enter Tryz.func148,Tryz.ntmps148;go_wp2_with fail
   all_goals go_ret
   all_goals exact⟨retB H.out.symm,(Gr.refl w).alloc _⟩
 have d4:decide (8<(p.length:Int))=false:=decide_eq_false (by omega);have HY:=hid (fun h=>zdd (v:=⟨na,nb,nc,p⟩) h1 h2 h3 h4 h);have HNO:=hid (fun k h=>zdc (v:=⟨na,nb,nc,p⟩) (zda ident p k h))
 dsimp only at HY HNO
 generalize may ⟨na,nb,nc,p⟩=r at*;have HS:=hid (zcz ident p);have HE:=hid (show (p.take p.length).all ident=p.all ident by rw[List.take_length]);have HT:=hid hT;clear h1 h2 h3 HN hT;go_enter Tryz.func148,Tryz.ntmps148;go_wp2_with fail;go_loop [3] (fun i=>∃k:Nat,k≤p.length∧i= .int .i64 k∧(p.take k).all ident=true) (fun i=>p.length-(intOf i).toNat)
 case atStart=>exact⟨0,Nat.zero_le _,rfl,rfl⟩
 case round=>
  obtain⟨k,hk,rfl,ha⟩:=hrel;have HQ:=hid ha;clear ha;by_cases hlt:k<p.length
  · have hdec:decide (k<p.length)=true:=by simpa using hlt
    have hn:=hid (HS.out k hlt);obtain⟨b,o,rfl,hc⟩:=HT.out.cells (by omega);have hck:=fun O=>zcx O (hc k hlt)
    have hsl:=HT.out.mem k hlt;clear hc;generalize p.getD k []=s at*;have HI:=hid (fun w=>zce s w (by omega));generalize ident s=is at*;go_wp2_with (go_at_call 181;refine(HI.out _).mono ?_;rintro e w' ⟨rfl,rfl⟩)
    · go_ret
      exact⟨retB (HNO.out (k+1) (by rw[hn.out,HQ.out];rename_i h;simpa using h)).symm,(Gr.refl w).alloc _⟩
    · exact⟨⟨k+1,by omega,by go_num,by rw[hn.out,HQ.out];rename_i h;simpa using h⟩,by simp[intOf];omega⟩
  · have hdec:decide (k<p.length)=false:=by simpa using hlt
    have H:=hid (HY.out (by rw[←HE.out,show p.length=k from by omega,HQ.out]));go_wp2
    go_ret;exact⟨retB H.out.symm,(Gr.refl w).alloc _⟩
end VerC
end
section
open Go.RowKit
namespace TextR
theorem info_text:(Tryz.prog.info? 9).map (fun i=>(i.zero,i.size,i.bytes))=some (some (.string ⟨#[]⟩),1,16):=by kernel_rfl
def OwnT(w:World)(B:Nat)(v:Value)(L:List ByteArray):Prop:=w.ownsRow B 9 1 v L.length (L.map Value.string)
theorem OwnT.nil(w:World)(B:Nat):OwnT w B (.slice none 0 0) []:=World.ownsRow_nil _ _ _ _
theorem zde(s:ByteArray):∀u∈[Value.string s],u.oneCell'=true:=by
 intro u hu;rw[List.mem_singleton] at hu;subst hu
 rfl
theorem zdf(w:World)(v:Value)(t:TypeId):∀j u,[v][j]?=some u→(w.alloc (.cells #[v] t)).cell? ((⟨w.heap.size,0,none⟩:Addr).add j)=some u:=by
 intro j u hu
 match j with
 | 0=>
   rw[Go.WideShapes.add_plain,World.cell?_alloc_at _ _ _ _ rfl]
   simpa using hu
 | j+1=>simp at hu
theorem snoc{w:World}{B n:Nat}{v:Value}{L:List ByteArray}{s:ByteArray}(h:w.ownsRow B 9 1 v (n+1) (L.map Value.string++ [Value.string s]))(hn:n=L.length):OwnT w B v (L++ [s]):=by
 unfold OwnT;rw[List.map_append,List.map_singleton,List.length_append,List.length_singleton,←hn];exact h
theorem OwnT.open_{w:World}{B:Nat}{v:Value}{L:List ByteArray}(h:OwnT w B v L):∃a cp,v= .slice a L.length cp∧(0<L.length→∃g,a=some ⟨g,0,none⟩∧B≤g∧g<w.heap.size∧∀i (hi:i<L.length),w.cell? ⟨g,i,none⟩=some (.string L[i])):=by
 have h':w.ownsRow B 9 1 v L.length (L.map Value.string):=h;have hcs:∀g,v.ownBlock=some g→_:=fun g hg=>h'.cells hg
 have hlt:=h'.lt;obtain⟨_,⟨rfl,h0⟩|⟨g,cp,cur,rfl,hg0,hblk,hle,hcm,hsz,htk⟩⟩:=h'
 · exact⟨none,0,by rw[h0],fun h=>by omega⟩
 · refine⟨_,cp,rfl,fun _=>⟨g,rfl,hg0,(hlt g rfl).2,fun i hi=>?_⟩⟩
   have:=hcs g rfl i (.string L[i]) (by simp[hi])
   rw[Go.WideShapes.add_plain,Nat.zero_add] at this;exact this
end TextR
end
section
open Go.RowKit
namespace TextR
theorem zdg(n:Nat)(h:n≤12000000000000):Builtin.nextslicecap (n+1) n*16≤281474976710656:=by
 unfold Builtin.nextslicecap
 split
 · omega
 · split
   · omega
   · rw[growBy_four]
     repeat' split
     all_goals omega
theorem run_one{P:Program}(w:World)(B:Nat)(t ty e:TypeId)(i:TypeInfo)(z:Value)(ht:P.underlying t=some (.slice e))(hi:P.info? e=some i)(hz:i.zero=some z)
 (hsize:i.size=1) (hby:i.bytes=16) (hzs:z.cells.size=1) (v:Value) (n:Nat) (xs:List Value) (hown:w.ownsRow B e 1 v n xs)
 (a:Addr) (c:Nat) (u:Value) (hu:∀j x,[u][j]?=some x→w.cell? (a.add j)=some x) (h1:u.oneCell'=true) (hn:n≤12000000000000) (hB:B≤w.heap.size):
 ∃v' w',(Builtin.append_ #[t,t] ty #[v,.slice (some a) 1 c]).run P w= .ok v' w'∧w'.ownsRow B e 1 v' (n+1) (xs++ [u])∧w.grownBy w' v.ownBlock:=by
 have h1':∀x∈[u],x.oneCell'=true:=by
  intro x hx;rw[List.mem_singleton] at hx;subst hx;exact h1
 by_cases hb:(n+1)*16≤140737488355328
 · obtain⟨v',w',hr,h2,h3,-⟩:=run_append_own (P:=P) w B t ty e i z 1 16 ht hi hz hsize hby hzs (by decide) v n xs hown a 1 c [u] rfl hu h1' (by unfold maxLen;omega) hb hB
   exact⟨v',w',hr,h2,h3⟩
 · have hlen:(xs++ [u]).length=(n+1)*1:=by rw[List.length_append,hown.1];simp
   have hholds:=fun g (hg:v.ownBlock=some g)=>hown.cells hg
   rcases hown.2 with ⟨rfl,h0⟩|⟨g,cap,cur,rfl,hbg,hg,hnc,hcm,hcs,htake⟩
   · omega
   · by_cases hroom:n+1≤cap
     · have hr:=run_append_room (P:=P) w t ty e i ht hi g n cap cur hg a 1 c [u] (by rw[hsize];rfl) hu h1' hroom (by rw[hsize,hcs];simp;omega)
       refine⟨_,_,hr,⟨hlen,.inr ⟨g,cap,_,rfl,hbg,setRow_heap w g cur _ e _ hg,hroom,hcm,?_,?_⟩⟩,⟨rfl,rfl,rfl,by simp,fun k _ hk=>setRow_other w g k _ (fun e=>hk (by simp[Value.ownBlock,e]))⟩⟩
       · simp only[hsize,List.size_toArray,List.length_append,List.length_take,List.length_drop,Array.length_toList,List.length_singleton]
         omega
       · rw[hsize,htake,←hlen]
         exact List.take_left
     · obtain rfl:cap=n:=by omega
       have hr:=run_append_grow (P:=P) w t ty e i z ht hi hz ⟨g,0,none⟩ cap cap xs (by rw[hsize];exact hown.1) (hholds g rfl) a 1 c [u] (by rw[hsize];rfl) hu (by omega) (by omega) (by rw[hby];exact zdg cap hn);have hge:=grownCap_ge w (cap+1) cap e;have hgm:=grownCap_le_maxLen w (cap+1) cap e (by unfold maxLen;omega);refine⟨_,_,hr,⟨hlen,.inr ⟨w.heap.size,_,_,rfl,hB,heap_alloc_new w.drew _,hge,hgm,?_,?_⟩⟩,⟨rfl,rfl,rfl,by simp,fun k hk _=>heap_alloc_old w.drew _ hk⟩⟩
       · have hxl:=hown.1
         simp only[Array.size_append,List.size_toArray,size_zeroCells,hzs,hxl,List.length_singleton];omega
       · simp only[Array.toList_append,List.append_assoc]
         rw[←List.append_assoc,←hlen];exact List.take_left
theorem zdh{P:Program}{w:World}{ops:Array Oper}{rest:List Oper}{o:Oper}{a:Act}{Q:Exit→Act→World→Prop}(hgd:o.guard=none)(s x:Operand)(t:TypeId)
 (ho:o.op= .call { callee:=.builtin .append,args:=#[s,x],argTypes:=#[t,t] })
 (B:Nat) (e:TypeId) (i:TypeInfo) (z:Value) (ht:P.underlying t=some (.slice e)) (hi:P.info? e=some i) (hz:i.zero=some z)
 (hsize:i.size=1) (hby:i.bytes=16) (hzs:z.cells.size=1) (v:Value) (n:Nat) (xs:List Value) (hs:a.eval s=v) (hown:w.ownsRow B e 1 v n xs)
 (ad:Addr) (c:Nat) (u:Value) (hx:a.eval x= .slice (some ad) 1 c) (hu:∀j y,[u][j]?=some y→w.cell? (ad.add j)=some y) (h1:u.oneCell'=true) (hn:n≤12000000000000) (hB:B≤w.heap.size)
 (h:∀v' w',w'.ownsRow B e 1 v' (n+1) (xs++ [u])→w.grownBy w' v.ownBlock→wpList P ops Q rest (a.put o.dst v') w'):wpList P ops Q (o :: rest) a w:=
 wpList_plain hgd fun K hK=>by
  obtain⟨v',w',hr,h2,h3⟩:=run_one (P:=P) w B t o.type e i z ht hi hz hsize hby hzs v n xs hown ad c u hu h1 hn hB;unfold Oper.wp execOp;simp only[ho,resolve,invoke,builtin,Sem.run_bind,Sem.run_pure,Result.andThen_ok,List.map_toArray,List.map_cons,List.map_nil,hs,hx,hr];exact hK _ _ (h v' w' h2 h3)
end TextR
end
end Go.Proofs.YtbninnkpjdofbaaGreatDoor
