/-
  What the proof of EventReads stands on, part 20.
-/
import Derived.ChangeArms
import Derived.LaidEql
import Derived.Lib.LaidTab
import Derived.RowKitTokens
import Derived.Stop.Asserts
import Derived.Test.YtbninnkpjdofbaaGreatDoorT19
set_option linter.unusedSimpArgs false
set_option linter.unusedVariables false
set_option maxHeartbeats 16000000
namespace Go.Proofs.YtbninnkpjdofbaaGreatDoor
open Go.Lib (hid)
section
open Go.RowKit
namespace EvN
open StrC
open VerC (Vw)
theorem ztg{H:Type}{enc:TypeId×Value→H}{P:Program}{w:World}{base:Nat}{sp:Nat→Bool}{held:Bool}{fuel:Nat}{t e:TypeId}{n:Nat}{cs:List Value}{zs:List (List UInt8)}{p:List MemPlace}
 (ht:P.underlying t=some (.array n e)) (he:P.underlying e=some .string) (hce:P.cellsOf e=1) (hct:P.cellsOf t=n)
 (h:DataW.trod enc P w base sp held fuel t cs=some (.agg (zs.map fun z=>.lit (.string z)),p)):cs=zs.map fun z=>Value.string (str z):=by
 cases fuel with
 | zero=>simp[DataW.trod] at h
 | succ fuel=>
   simp only[DataW.trod,ht,hce,hct,Nat.mul_one] at h
   split at h
   · rename_i hl
     obtain⟨xs,hm,hx⟩:=Option.map_eq_some_iff.1 h
     have hxs:xs.map (·.1)=zs.map fun z=>(DataW.lit (.string z):DataW H):=by
      have:=congrArg Prod.fst hx
      simpa using this
     have hxl:xs.length=n:=by simpa using Lib.mapM_length hm
     have hzl:zs.length=n:=by
      have:=congrArg List.length hxs
      simp at this;omega
     apply List.ext_getElem?
     intro i;by_cases hi:i<n
     · obtain⟨b,hb,hf⟩:=Lib.mapM_at hm i i (by simp[hi])
       obtain⟨z,hc,rfl,_⟩:=DataW.trod_string he hf
       have h1:cs[i]?=some (.string z):=by
        have:=congrArg (·[0]?) hc
        simpa[List.getElem?_take,List.getElem?_drop] using this
       have h2:(xs.map (·.1))[i]?=some (DataW.lit (.string z.data.toList):DataW H):=by simp[hb]
       rw[hxs] at h2;simp only[List.getElem?_map,Option.map_eq_some_iff,DataW.lit.injEq,Lit.string.injEq] at h2;obtain⟨z',hz',rfl⟩:=h2;simp[h1,hz',str]
     · rw[List.getElem?_eq_none (by omega),List.getElem?_eq_none (by simp;omega)]
   · cases h
theorem zth:Tryz.prog.globalNamed "yankline/event.words"=some 1:=by kernel_rfl
def wordsL:List (List UInt8):=[[],[97,99,99,111,117,110,116],[112,117,98,108,105,115,104],[121,97,110,107],[117,110,121,97,110,107],[100,101,112,114,101,99,97,116,101],[111,119,110],[100,105,115,111,119,110],[116,101,97,109],[106,111,105,110],[108,101,97,118,101]]
theorem zti{W:World}{rest:List (String×DataW Unit)}(h:laidMet Tryz.prog (("yankline/event.words",Rows.laid_yankline_event_words) :: rest) W)(i:Nat)(hi:i<11):W.cell? ⟨1,i,none⟩=some (.string (str (wordsL.getD i []))):=by
 obtain⟨ps,⟨g',t',cs,fuel,p,q,hg',ht',hvar,hd,_,_⟩,_⟩:=h;obtain rfl:=Option.some.inj (zth.symm.trans hg');obtain rfl:=Option.some.inj ((show (Tryz.prog.globals[1]?).map (·.type)=some 181 by kernel_rfl).symm.trans ht');have hcs:=ztg (zs:=wordsL) Tryz.underlying181 Tryz.underlying9 (by kernel_rfl) (by kernel_rfl) hd;have:=World.var?_cell zth hvar i
 rw[this];have hi':i<wordsL.length:=hi;have h2:cs[i]?=cs.toList[i]?:=by simp
 rw[h2,hcs];simp[hi']
def laidL:List (String×DataW Unit):=[("math/bits.deBruijn32tab",Rows.laid_math_bits_deBruijn32tab),("math/bits.deBruijn64tab",Rows.laid_math_bits_deBruijn64tab),("internal/strconv.uint64pow10",Rows.laid_internal_strconv_uint64pow10),("unicode/utf8.acceptRanges",Rows.laid_unicode_utf8_acceptRanges),("strconv.ErrRange",Rows.laid_strconv_ErrRange),("strconv.ErrSyntax",Rows.laid_strconv_ErrSyntax),("yankline/event.words",Rows.laid_yankline_event_words),("unicode/utf8.first",Rows.laid_unicode_utf8_first)]
def laidD:List (String×DataW Unit):=laidL.filter fun x=>x.2.handleName?.isNone
noncomputable def laidW(os:Os):World:=(World.holding Tryz.prog os ⟨#[],#[],[]⟩).layVars Tryz.prog laidD
theorem laidW_os(os:Os):(laidW os).os=os:=World.layVars_os _ _ _
set_option maxRecDepth 100000 in
theorem laidW_met(os:Os)(args:Array Value):laidMetH Tryz.prog laidL ((laidW os).forCall (fun _ _=>0) ⟨#[],args,[]⟩).memory:=
 laidMetH_of_parts (laidMet_layVars (w0:=World.holding Tryz.prog os ⟨#[],#[],[]⟩) (laidL.map (·.1)) [] (by kernel_rfl) (by kernel_rfl) (by kernel_rfl) LaidIn.none) (by kernel_rfl)
end EvN
end
section
open Go.RowKit Go.Extern.Stop Go.Stop Go.Extern
namespace ErrC
theorem vo_pp(t:Addr)(w:World):(ReflectliteValue.unpack (.iface 42 (.pointer (some t)))).run Tryz.prog w= .ok (.agg #[.pointer (some ⟨15,42,none⟩),.pointer (some ⟨w.heap.size,0,none⟩),.int .u64 150]) (w.alloc (.cells #[.pointer (some t)] 42)):=by kernel_rfl
theorem ty_pp(a:Addr)(w:World):(ReflectliteValue.methodAny (ReflectliteValue.valueError "reflectlite.Value.Type" 0) (fun t _ _ _=>ReflectliteType.toType t) #[.agg #[.pointer (some ⟨15,42,none⟩),.pointer (some a),.int .u64 150]]).run Tryz.prog w= .ok (.iface 151 (.agg #[.pointer (some ⟨15,42,none⟩)])) w:=by kernel_rfl
theorem m_kind(v:Value)(w:World):(Go.method 514 151 (.agg #[v]) "Kind").run Tryz.prog w= .ok (332,v) w:=by kernel_rfl
theorem m_elem(v:Value)(w:World):(Go.method 514 151 (.agg #[v]) "Elem").run Tryz.prog w= .ok (344,.agg #[v]) w:=by kernel_rfl
theorem m_imp(v:Value)(w:World):(Go.method 514 151 (.agg #[v]) "Implements").run Tryz.prog w= .ok (345,.agg #[v]) w:=by kernel_rfl
theorem m_asg(v:Value)(w:World):(Go.method 514 151 (.agg #[v]) "AssignableTo").run Tryz.prog w= .ok (342,.agg #[v]) w:=by kernel_rfl
theorem kind_pp(w:World):((ReflectliteType.abiMethod fun t=>(fun a:Nat=>Value.int IntKind.u8 (a:Int)) <$> Rtype.kind t) #[.pointer (some ⟨15,42,none⟩)]).run Tryz.prog w= .ok (.int .u8 22) w:=by kernel_rfl
theorem kind_fp(w:World):((ReflectliteType.abiMethod fun t=>(fun a:Nat=>Value.int IntKind.u8 (a:Int)) <$> Rtype.kind t) #[.pointer (some ⟨15,40,none⟩)]).run Tryz.prog w= .ok (.int .u8 22) w:=by kernel_rfl
theorem el_pp(w:World):(ReflectliteType.method ReflectliteType.elem #[.agg #[.pointer (some ⟨15,42,none⟩)]]).run Tryz.prog w= .ok (.iface 151 (.agg #[.pointer (some ⟨15,40,none⟩)])) w:=by kernel_rfl
theorem imp_fp(w:World):(ReflectliteType.relation "Implements" ReflectliteType.implements_ #[.agg #[.pointer (some ⟨15,40,none⟩)],.iface 151 (.agg #[.pointer (some ⟨15,29,none⟩)])]).run Tryz.prog w= .ok (.bool true) w:=by kernel_rfl
theorem to_fp(v:Value)(w:World):(ReflectliteType.typeOf #[.iface 40 v]).run Tryz.prog w= .ok (.iface 151 (.agg #[.pointer (some ⟨15,40,none⟩)])) w:=by kernel_rfl
theorem asg_fp(w:World):(ReflectliteType.relation "AssignableTo" ReflectliteType.assignableTo #[.agg #[.pointer (some ⟨15,40,none⟩)],.iface 151 (.agg #[.pointer (some ⟨15,40,none⟩)])]).run Tryz.prog w= .ok (.bool true) w:=by kernel_rfl
theorem vo_fp(e:Addr)(w:World):(ReflectliteValue.unpack (.iface 40 (.pointer (some e)))).run Tryz.prog w= .ok (.agg #[.pointer (some ⟨15,40,none⟩),.pointer (some ⟨w.heap.size,0,none⟩),.int .u64 150]) (w.alloc (.cells #[.pointer (some e)] 40)):=by kernel_rfl
theorem ztj(a:Addr)(w:World):(ReflectliteValue.parts (.agg #[.pointer (some ⟨15,42,none⟩),.pointer (some a),.int .u64 150])).run Tryz.prog w= .ok (some (42,a,150)) w:=by kernel_rfl
theorem ztk(a:Addr)(w:World):(ReflectliteValue.parts (.agg #[.pointer (some ⟨15,40,none⟩),.pointer (some a),.int .u64 406])).run Tryz.prog w= .ok (some (40,a,406)) w:=by kernel_rfl
theorem ztl(a:Addr)(w:World):(ReflectliteValue.parts (.agg #[.pointer (some ⟨15,40,none⟩),.pointer (some a),.int .u64 150])).run Tryz.prog w= .ok (some (40,a,150)) w:=by kernel_rfl
theorem elem_pp(w:World):(Rtype.elem? 42).run Tryz.prog w= .ok (some 40) w:=by kernel_rfl
theorem mk_fp(p:Addr)(w:World):(ReflectliteValue.mk 40 p ReflectliteValue.flagAddr).run Tryz.prog w= .ok (.agg #[.pointer (some ⟨15,40,none⟩),.pointer (some p),.int .u64 406]) w:=by kernel_rfl
theorem ztm(w:World):(Rtype.directlyAssignable 40 40).run Tryz.prog w= .ok true w:=by kernel_rfl
theorem ztn(z:Sem Value)(g:TypeId→Addr→Nat→Nat→Sem Value)(v:Value):
 ReflectliteValue.method z g #[v]=(do match ←ReflectliteValue.parts v with|none=>z|some (t,a,fl)=>g t a fl (fl % 32)):=rfl
theorem nil_pp(a p:Addr)(W:World)(ha:W.cell? a=some (.pointer (some p))):
 (ReflectliteValue.method (ReflectliteValue.valueError "reflectlite.Value.IsNil" 0) ReflectliteValue.isNil #[.agg #[.pointer (some ⟨15,42,none⟩),.pointer (some a),.int .u64 150]]).run Tryz.prog W= .ok (.bool false) W:=by
 rw[ztn];simp only[Sem.run_bind,ztj,Result.andThen];simp[ReflectliteValue.isNil,loadVar,isAgg,underlying,Tryz.underlying42,ha,Result.andThen]
theorem zto(a p:Addr)(W:World)(ha:W.cell? a=some (.pointer (some p))):
 (ReflectliteValue.method (ReflectliteValue.valueError "reflectlite.Value.Elem" 0) ReflectliteValue.elem #[.agg #[.pointer (some ⟨15,42,none⟩),.pointer (some a),.int .u64 150]]).run Tryz.prog W
   = .ok (.agg #[.pointer (some ⟨15,40,none⟩),.pointer (some p),.int .u64 406]) W:=by
 rw[ztn];simp only[Sem.run_bind,ztj,Result.andThen];simp[ReflectliteValue.elem,loadVar,isAgg,underlying,Tryz.underlying42,ha,Result.andThen,elem_pp,mk_fp]
theorem set_fp(ta b e:Addr)(old:Value)(W:World)(hb:W.cell? b=some (.pointer (some e)))(ht:W.cell? ta=some old)(hf:W.frozen? ta=false):
 (ReflectliteValue.set #[.agg #[.pointer (some ⟨15,40,none⟩),.pointer (some ta),.int .u64 406],.agg #[.pointer (some ⟨15,40,none⟩),.pointer (some b),.int .u64 150]]).run Tryz.prog W= .ok (.tuple #[]) (W.setCell ta (.pointer (some e))):=by
 delta ReflectliteValue.set
 change Sem.run Tryz.prog (Bind.bind (ReflectliteValue.parts (.agg #[.pointer (some ⟨15,40,none⟩),.pointer (some ta),.int .u64 406])) fun a=>Bind.bind (ReflectliteValue.parts (.agg #[.pointer (some ⟨15,40,none⟩),.pointer (some b),.int .u64 150])) _) W=_;rw[Sem.run_bind,ztk];simp only[Sem.run_bind,ztl,Result.andThen];simp[ReflectliteValue.flagAddr,loadVar,isAgg,underlying,Tryz.underlying40,hb,Result.andThen,ztm,storeVar,Value.cells,storeCells,Addr.add];rw[run_store Tryz.prog W ta _ _ (by rfl)];simp[ht,hf]
def ErrType(w:World):Prop:=w.cell? ⟨0,0,none⟩=some (.iface 151 (.agg #[.pointer (some ⟨15,29,none⟩)]))
def boxV(n:Nat):Array Value:=#[.pointer (some ⟨15,42,none⟩),.pointer (some ⟨n,0,none⟩),.int .u64 150]
def asW1(w:World)(t:Addr):World:=w.alloc (.cells #[.pointer (some t)] 42)
def asW2(w:World)(t:Addr):World:=(asW1 w t).alloc (.cells (boxV w.heap.size) 86)
def asW3(w:World)(t:Addr):World:=(asW2 w t).alloc (.cells (boxV w.heap.size) 86)
def asW4(w:World)(t e:Addr):World:=(asW3 w t).alloc (.cells #[.pointer (some e)] 40)
theorem ztp(w:World)(t e:Addr)(B:Nat)(h:B≤w.heap.size):Below B w (asW1 w t)∧Below B w (asW2 w t)∧Below B w (asW3 w t)∧Below B w (asW4 w t e):=by
 have h1:Below B w (asW1 w t):=(Below.refl _ _).alloc h _;have h2:Below B w (asW2 w t):=h1.alloc (by simp[asW1];omega) _;have h3:Below B w (asW3 w t):=h2.alloc (by simp[asW1,asW2];omega) _;have h4:Below B w (asW4 w t e):=h3.alloc (by simp[asW1,asW2,asW3];omega) _;exact⟨h1,h2,h3,h4⟩
theorem as_hit(e t:Addr)(old:Value)(w:World)(hg:ErrType w)(ht0:w.cell? t=some old)(hf0:w.frozen? t=false):
 Calls Tryz.prog 12 #[.iface 40 (.pointer (some e)),.iface 42 (.pointer (some t))] w fun ev w'=>ev= .returned (.bool true)∧w'=(asW4 w t e).setCell t (.pointer (some e)):=by
 have x1:=@run_callFunc_extern Tryz.prog 31 _ (fun args=>ReflectliteValue.unpack (args.getD 0 (.tuple #[]))) Tryz.func31 (by kernel_rfl) (by kernel_rfl) (by kernel_rfl) (by kernel_rfl);have x2:=@run_callFunc_extern Tryz.prog 32 _ (ReflectliteValue.methodAny (ReflectliteValue.valueError "reflectlite.Value.Type" 0) (fun t _ _ _=>ReflectliteType.toType t)) Tryz.func32 (by kernel_rfl) (by kernel_rfl) (by kernel_rfl) (by kernel_rfl);have x3:=@run_callFunc_extern Tryz.prog 33 _ (ReflectliteValue.method (ReflectliteValue.valueError "reflectlite.Value.IsNil" 0) ReflectliteValue.isNil) Tryz.func33 (by kernel_rfl) (by kernel_rfl) (by kernel_rfl) (by kernel_rfl);have x4:=@run_callFunc_extern Tryz.prog 332 _ (ReflectliteType.abiMethod fun t=>do pure (.int .u8 (← Rtype.kind t))) Tryz.func332 (by kernel_rfl) (by kernel_rfl) (by kernel_rfl) (by kernel_rfl);have x5:=@run_callFunc_extern Tryz.prog 344 _ (ReflectliteType.method ReflectliteType.elem) Tryz.func344 (by kernel_rfl) (by kernel_rfl) (by kernel_rfl) (by kernel_rfl);have x6:=@run_callFunc_extern Tryz.prog 345 _ (ReflectliteType.relation "Implements" ReflectliteType.implements_) Tryz.func345 (by kernel_rfl) (by kernel_rfl) (by kernel_rfl) (by kernel_rfl);have x7:=@run_callFunc_extern Tryz.prog 35 _ (ReflectliteType.typeOf) Tryz.func35 (by kernel_rfl) (by kernel_rfl) (by kernel_rfl) (by kernel_rfl);have x8:=@run_callFunc_extern Tryz.prog 342 _ (ReflectliteType.relation "AssignableTo" ReflectliteType.assignableTo) Tryz.func342 (by kernel_rfl) (by kernel_rfl) (by kernel_rfl) (by kernel_rfl);have x9:=@run_callFunc_extern Tryz.prog 78 _ (ReflectliteValue.method (ReflectliteValue.valueError "reflectlite.Value.Elem" 0) ReflectliteValue.elem) Tryz.func78 (by kernel_rfl) (by kernel_rfl) (by kernel_rfl) (by kernel_rfl);have x10:=@run_callFunc_extern Tryz.prog 79 _ (ReflectliteValue.set) Tryz.func79 (by kernel_rfl) (by kernel_rfl) (by kernel_rfl) (by kernel_rfl);have y1:=to_fp;have y2:=m_asg;have y3:=asg_fp;have y4:=vo_fp;have y5:=vo_pp;have y6:=ty_pp;have y7:=m_kind;have y8:=m_elem;have y9:=m_imp;have y10:=kind_pp;have y11:=kind_fp;have y12:=el_pp;have y13:=imp_fp;have htl:t.block<w.heap.size:=World.block_lt_of_cell? _ _ ht0;have hlt:0<w.heap.size:=World.block_lt_of_cell? _ _ hg;have y14:=nil_pp ⟨w.heap.size,0,none⟩ t ((w.alloc (.cells #[.pointer (some t)] 42)).alloc (.cells #[.pointer (some ⟨15,42,none⟩),.pointer (some ⟨w.heap.size,0,none⟩),.int .u64 150] 86)) (by simp);have y15:=zto ⟨w.heap.size,0,none⟩ t (((w.alloc (.cells #[.pointer (some t)] 42)).alloc (.cells #[.pointer (some ⟨15,42,none⟩),.pointer (some ⟨w.heap.size,0,none⟩),.int .u64 150] 86)).alloc (.cells #[.pointer (some ⟨15,42,none⟩),.pointer (some ⟨w.heap.size,0,none⟩),.int .u64 150] 86)) (by rw[World.cell?_alloc_lt _ _ ⟨w.heap.size,0,none⟩ (by simp;omega)];simp)
 have hg2:((w.alloc (.cells #[.pointer (some t)] 42)).alloc (.cells #[.pointer (some ⟨15,42,none⟩),.pointer (some ⟨w.heap.size,0,none⟩),.int .u64 150] 86)).cell? ⟨0,0,none⟩=some (.iface 151 (.agg #[.pointer (some ⟨15,29,none⟩)])):=by
  rw[World.cell?_alloc_lt _ _ ⟨0,0,none⟩ (by simp<;>omega),World.cell?_alloc_lt _ _ ⟨0,0,none⟩ hlt];exact hg
 have y16:=set_fp t ⟨w.heap.size+1+1+1,0,none⟩ e old ((((w.alloc (.cells #[.pointer (some t)] 42)).alloc (.cells #[.pointer (some ⟨15,42,none⟩),.pointer (some ⟨w.heap.size,0,none⟩),.int .u64 150] 86)).alloc (.cells #[.pointer (some ⟨15,42,none⟩),.pointer (some ⟨w.heap.size,0,none⟩),.int .u64 150] 86)).alloc (.cells #[.pointer (some e)] 40))
  (by rw[World.cell?_alloc_at _ _ _ _ (by simp)];rfl)
  (by rw[World.cell?_alloc_lt _ _ t (by simp;omega),World.cell?_alloc_lt _ _ t (by simp;omega),World.cell?_alloc_lt _ _ t (by simp;omega),World.cell?_alloc_lt _ _ t htl];exact ht0)
  (by rw[World.frozen?_alloc_old _ _ t (by simp;omega),World.frozen?_alloc_old _ _ t (by simp;omega),World.frozen?_alloc_old _ _ t (by simp;omega),World.frozen?_alloc_old _ _ t (Nat.ne_of_lt htl)];exact hf0)
 clear hg;go_enter Tryz.func12,Tryz.ntmps12;go_wp2
 refine wp_loop_rounds 1 ?_;rw[rounds_succ];go_wp2
 go_ret;exact⟨rfl,rfl⟩
end ErrC
end
section
open Go.RowKit Go.Extern.Stop Go.Stop Go.Extern
namespace ErrC
theorem eql_in(d:Nat)(a b:Int)(w:World):(Op.equalIn (d+2) 29 (.iface 43 (.int .i64 a)) (.iface 43 (.int .i64 b))).run Tryz.prog w= .ok (a == b) w:=by
 obtain⟨i,hi,hc⟩:=Option.map_eq_some_iff.1 (show (Tryz.prog.info? 43).map (·.comparable)=some true by kernel_rfl);simp[Op.equalIn,run_underlying Tryz.underlying29,run_underlying Tryz.underlying43,typeInfo,hi,hc]
theorem ztq(a b:Int)(w:World):(binOp .eql 29 (.iface 43 (.int .i64 a)) (.iface 43 (.int .i64 b))).run Tryz.prog w= .ok (.bool (a == b)) w:=by
 simp only[binOp];simp[Op.equal,Op.maxDepth,eql_in 9998 a b w]
theorem to_en(v:Value)(w:World):(ReflectliteType.typeOf #[.iface 43 v]).run Tryz.prog w= .ok (.iface 151 (.agg #[.pointer (some ⟨15,43,none⟩)])) w:=by kernel_rfl
theorem ztr:(Go.Extern.find Tryz.f343).isSome=true:=by kernel_rfl
theorem zts(w:World):(callFunc 343 #[.agg #[.pointer (some ⟨15,43,none⟩)]]).run Tryz.prog w= .ok (.value (.bool true)) w:=by
 rw[run_callFunc_extern Tryz.func343 (by kernel_rfl) (by kernel_rfl) (by kernel_rfl) (Option.some_get ztr).symm,
  show (((Go.Extern.find Tryz.f343).get ztr) #[.agg #[.pointer (some ⟨15,43,none⟩)]]).run Tryz.prog w= .ok (.bool true) w from by kernel_rfl]
 rfl
theorem m_cmp(v:Value)(w:World):(Go.method 514 151 v "Comparable").run Tryz.prog w= .ok (343,v) w:=by kernel_rfl
theorem ztt(v:Value)(w:World):(Go.method 514 40 v "Unwrap").run Tryz.prog w= .ok (336,v) w:=by kernel_rfl
theorem no_is(v:Value)(xT:TypeId)(w:World):(Instr.typeAssert (.iface 40 v) xT 162 true).run Tryz.prog w= .ok (.tuple #[.nilIface,.bool false]) w:=run_typeAssert_lacksB Tryz.underlying162 (by kernel_rfl) (by kernel_rfl) v xT w
theorem ztu(v:Value)(xT:TypeId)(w:World):(Instr.typeAssert (.iface 40 v) xT 158 true).run Tryz.prog w= .ok (.tuple #[.nilIface,.bool false]) w:=run_typeAssert_lacksB Tryz.underlying158 (by kernel_rfl) (by kernel_rfl) v xT w
theorem ztv(v:Value)(xT:TypeId)(w:World):(Instr.typeAssert (.iface 40 v) xT 159 true).run Tryz.prog w= .ok (.tuple #[.iface 40 v,.bool true]) w:=run_typeAssert_hasB Tryz.underlying159 (by kernel_rfl) v xT w
theorem ztw(c:Int)(w:World):
 Calls Tryz.prog 36 #[.iface 43 (.int .i64 c),.iface 43 (.int .i64 c),.bool true] w fun e w'=>e= .returned (.bool true)∧w=w':=by
 have heq:=ztq c c;go_enter Tryz.func36,Tryz.ntmps36;go_wp2_with fail;refine wp_loop_rounds 1 ?_;rw[rounds_succ];go_wp2
 go_ret;exact⟨rfl,rfl⟩
theorem ztx(b o:Nat)(c:Int)(w:World)(hc:w.cell? ⟨b,o,none⟩=some (.int .i64 c))(hu:w.cell? ⟨b,o+3,none⟩=some .nilIface):
 Calls Tryz.prog 336 #[.pointer (some ⟨b,o,none⟩)] w fun e w'=>e= .returned (.slice (some ⟨w.heap.size,0,none⟩) 1 1)∧w'=w.alloc (.cells #[.iface 43 (.int .i64 c)] 29):=by
 go_enter Tryz.func336,Tryz.ntmps336;go_wp2
 go_ret;exact⟨rfl,rfl⟩
theorem zty(b o:Nat)(c:Int)(w:World)(hc:w.cell? ⟨b,o,none⟩=some (.int .i64 c))(hu:w.cell? ⟨b,o+3,none⟩=some .nilIface):
 Calls Tryz.prog 36 #[.iface 40 (.pointer (some ⟨b,o,none⟩)),.iface 43 (.int .i64 c),.bool true] w fun e w'=>e= .returned (.bool true)∧w'=w.alloc (.cells #[.iface 43 (.int .i64 c)] 29):=by
 have y4:=ztt;have y5:=no_is;have y6:=ztu;have y7:=ztv;have y8:=run_eql_iface_types (P:=Tryz.prog) 40 43 (.pointer (some ⟨b,o,none⟩)) (.int .i64 c) Tryz.underlying29 (by decide);go_enter Tryz.func36,Tryz.ntmps36;go_wp2_with fail;refine wp_loop_rounds 1 ?_;rw[rounds_succ];go_wp2_with (go_at_call 336;refine(ztx _ _ _ _ hc hu).mono ?_;rintro e w' ⟨rfl,rfl⟩)
 refine wp_loop_rounds 1 ?_;rw[rounds_succ];go_wp2_with (go_at_call 36;refine(ztw _ _).mono ?_;rintro e w' ⟨rfl,rfl⟩)
 go_ret;exact⟨rfl,rfl⟩
theorem is_one(b o:Nat)(c:Int)(w:World)(hc:w.cell? ⟨b,o,none⟩=some (.int .i64 c))(hu:w.cell? ⟨b,o+3,none⟩=some .nilIface):
 Calls Tryz.prog 14 #[.iface 40 (.pointer (some ⟨b,o,none⟩)),.iface 43 (.int .i64 c)] w fun e w'=>e= .returned (.bool true)∧w'=w.alloc (.cells #[.iface 43 (.int .i64 c)] 29):=by
 have x1:=@run_callFunc_extern Tryz.prog 35 _ Extern.ReflectliteType.typeOf Tryz.func35 (by kernel_rfl) (by kernel_rfl) (by kernel_rfl) (by kernel_rfl);have y1:=to_en;have y2:=zts;have y3:=m_cmp;go_enter Tryz.func14,Tryz.ntmps14;go_wp2_with (go_at_call 36;refine(zty _ _ _ _ hc hu).mono ?_;rintro e w' ⟨rfl,rfl⟩)
 go_ret;exact⟨rfl,rfl⟩
end ErrC
end
end Go.Proofs.YtbninnkpjdofbaaGreatDoor
