/-
  What the proof of EventReads stands on, part 5.
-/
import Derived.Ground.MpProg
import Derived.Lib.AppendIntMem
import Derived.Lib.AtoiErrMem
import Derived.Shelf.LaysM
import Derived.Shelf.Pu.ErrVarParseUint
import Derived.Shelf.Pu.ParseUintPublic10
import Derived.Shelf.Small.Bits
import Derived.Shelf.Small.Strs
import Derived.Shelf.Small.Wraps
import Derived.Shelf.Strconv.AppendInt10
import Derived.Shelf.Strconv.AppendUint10
import Derived.Shelf.Strconv.Itoa0
import Derived.Shelf.Strconv.Itoa1
import Derived.Shelf.Strconv.Itoa2
import Derived.Shelf.Strconv.Itoa3
import Derived.Shelf.Strings.AsciiSet
import Derived.Shelf.Strings.Builder1
import Derived.Shelf.Strings.Builder2
import Derived.Shelf.Strings.Count
import Derived.Shelf.Strings.Cut
import Derived.Shelf.Strings.OnBuilder
import Derived.Shelf.Strings.Prefix
import Derived.Shelf.Strings.Replace
import Derived.Shelf.Strings.Runes
import Derived.Shelf.Strings.Search1
import Derived.Shelf.Strings.Search2
import Derived.Shelf.Strings.Search3
import Derived.Shelf.Strings.Split
import Derived.Shelf.Strings.SplitShaped
import Derived.Shelf.Strings.Trim
import Derived.Test.YtbninnkpjdofbaaGreatDoorProg
import Derived.Test.YtbninnkpjdofbaaGreatDoorT04
set_option linter.unusedSimpArgs false
set_option linter.unusedVariables false
set_option maxHeartbeats 16000000
namespace Go.Proofs.YtbninnkpjdofbaaGreatDoor
open Go.Lib (hid)
end Go.Proofs.YtbninnkpjdofbaaGreatDoor
section
namespace Go.Proofs
open Go.Shelf
def Tryz.lays156_ren:Go.Shelf.Ren:=⟨fun | 156=>45 | 165=>91 | 166=>92 | 169=>93 | 240=>131 | 241=>132 | 276=>154 | 277=>155|n=>n,fun | 31=>98 | 9=>9 | 3=>3 | 4=>4 | 0=>0 | 20=>20 | 72=>174 | 76=>176 | 70=>172 | 37=>171 | 75=>29 | 127=>201 | 164=>83 | 5=>5 | 80=>82|n=>n,fun|n=>n⟩
theorem Tryz.lays156:Go.Proofs.Lays.n156 Tryz.prog Tryz.lays156_ren:={
 mixed:=by kernel_rfl
 f156:=Tryz.func45.trans (congrArg some (by kernel_rfl))
 f165:=Tryz.func91.trans (congrArg some (by kernel_rfl))
 f166:=Tryz.func92.trans (congrArg some (by kernel_rfl))
 f169:=Tryz.func93.trans (congrArg some (by kernel_rfl))
 f240:=Tryz.func131.trans (congrArg some (by kernel_rfl))
 f241:=Tryz.func132.trans (congrArg some (by kernel_rfl))
 f276:=Tryz.func154.trans (congrArg some (by kernel_rfl))
 f277:=Tryz.func155.trans (congrArg some (by kernel_rfl))
 t0:=Tryz.underlying0
 a0:=Tryz.isAgg0
 z0:=Tryz.sizeOf0
 v0:=Tryz.zeroValue0
 t3:=Tryz.underlying3
 a3:=Tryz.isAgg3
 z3:=Tryz.sizeOf3
 v3:=Tryz.zeroValue3
 t4:=Tryz.underlying4
 a4:=Tryz.isAgg4
 z4:=Tryz.sizeOf4
 v4:=Tryz.zeroValue4
 t9:=Tryz.underlying9
 a9:=Tryz.isAgg9
 z9:=Tryz.sizeOf9
 v9:=Tryz.zeroValue9
 t20:=Tryz.underlying20
 a20:=Tryz.isAgg20
 z20:=Tryz.sizeOf20
 v20:=Tryz.zeroValue20
 t31:=Tryz.underlying98
 a31:=Tryz.isAgg98
 z31:=Tryz.sizeOf98
 v31:=Tryz.zeroValue98
 t37:=Tryz.underlying171
 a37:=Tryz.isAgg171
 z37:=Tryz.sizeOf171
 v37:=Tryz.zeroValue171
 t70:=Tryz.underlying172
 a70:=Tryz.isAgg172
 z70:=Tryz.sizeOf172
 v70:=Tryz.zeroValue172
 t72:=Tryz.underlying174
 a72:=Tryz.isAgg174
 z72:=Tryz.sizeOf174
 v72:=Tryz.zeroValue174
 t75:=Tryz.underlying29
 a75:=Tryz.isAgg29
 z75:=Tryz.sizeOf29
 v75:=Tryz.zeroValue29
 t76:=Tryz.underlying176
 a76:=Tryz.isAgg176
 z76:=Tryz.sizeOf176
 v76:=Tryz.zeroValue176
 t127:=Tryz.underlying201
 a127:=Tryz.isAgg201
 z127:=Tryz.sizeOf201
 v127:=Tryz.zeroValue201
 t164:=Tryz.underlying83
 a164:=Tryz.isAgg83
 z164:=Tryz.sizeOf83
 v164:=Tryz.zeroValue83 }
theorem Tryz.Builder_Extra_156:Builder.Extra Tryz.prog Tryz.lays156_ren:={
 sizeBuilder:=by kernel_rfl
 liesBuilder:=by kernel_rfl
 t5:=Tryz.underlying5
 a5:=Tryz.isAgg5
 z5:=Tryz.sizeOf5
 v5:=Tryz.zeroValue5
 infoByte:=by kernel_rfl
 cellsByte:=by kernel_rfl
 sizeByte:=by kernel_rfl
 neB5:=by decide }
open Go.RowKit in
/-- strings.Join: "Join concatenates the elements of its first argument to create a single string. The separator string sep is placed between elements in the resulting string.": HOWEVER MANY ELEMENTS. Below the heap's end the world is as it was. (LAID: no walk: one application.) -/
theorem Tryz.strings_Join(bk o c:Nat)(xs:List ByteArray)(sep:ByteArray)(w:World)(hcells:∀(j:Nat) x,xs[j]?=some x→w.cell? ⟨bk,o+j,none⟩=some (.string x))(hbk:bk<w.heap.size)(hN:xs.length≤140737488355328)(hcap:xs.length≤c)(hlen:(Lib.join (xs.map (·.data.toList)) sep.data.toList).length≤140737488355328):
 Calls Tryz.prog 45 #[.slice (some ⟨bk,o,none⟩) xs.length c,.string sep] w fun e w'=>e= .returned (.string ⟨(Lib.join (xs.map (·.data.toList)) sep.data.toList).toArray⟩)∧Below w.heap.size w w':=Any.strings_Join Tryz.lays156 Tryz.Builder_Extra_156 bk o c xs sep w hcells hbk hN hcap hlen
def Tryz.lays106_ren:Go.Shelf.Ren:=⟨fun | 106=>312 | 213=>316 | 265=>317|n=>n,fun | 9=>9 | 3=>3|n=>n,fun|n=>n⟩
theorem Tryz.lays106:Go.Proofs.Lays.n106 Tryz.prog Tryz.lays106_ren:={
 mixed:=by kernel_rfl
 f106:=Tryz.func312.trans (congrArg some (by kernel_rfl))
 f213:=Tryz.func316.trans (congrArg some (by kernel_rfl))
 f265:=Tryz.func317.trans (congrArg some (by kernel_rfl))
 t3:=Tryz.underlying3
 a3:=Tryz.isAgg3
 z3:=Tryz.sizeOf3
 v3:=Tryz.zeroValue3
 t9:=Tryz.underlying9
 a9:=Tryz.isAgg9
 z9:=Tryz.sizeOf9
 v9:=Tryz.zeroValue9 }
open Go.RowKit in
/-- strings.Compare: "Compare returns an integer comparing two strings lexicographically. The result will be 0 if a == b, -1 if a < b, and +1 if a > b.": IT RETURNS 'Lib.compareBytes a b'; the world is as it was. (LAID: no walk: one application.) -/
theorem Tryz.strings_Compare(a b:ByteArray)(w:World):
 Calls Tryz.prog 312 #[.string a,.string b] w fun e w'=>e= .returned (.int .i64 (Lib.compareBytes a.data.toList b.data.toList))∧w'=w:=Any.strings_Compare Tryz.lays106 a b w
def Tryz.lays145_ren:Go.Shelf.Ren:=⟨fun | 145=>150 | 220=>184 | 219=>206 | 217=>229 | 225=>230 | 224=>231 | 267=>232 | 266=>259 | 314=>260|n=>n,fun | 9=>9 | 4=>4 | 59=>214 | 3=>3 | 5=>5 | 46=>170 | 146=>333 | 51=>25|n=>n,fun | 1=>2|n=>n⟩
theorem Tryz.lays145:Go.Proofs.Lays.n145 Tryz.prog Tryz.lays145_ren:={
 mixed:=by kernel_rfl
 f145:=Tryz.func150.trans (congrArg some (by kernel_rfl))
 f217:=Tryz.func229.trans (congrArg some (by kernel_rfl))
 f219:=Tryz.func206.trans (congrArg some (by kernel_rfl))
 f220:=Tryz.func184.trans (congrArg some (by kernel_rfl))
 f224:=Tryz.func231.trans (congrArg some (by kernel_rfl))
 f225:=Tryz.func230.trans (congrArg some (by kernel_rfl))
 f266:=Tryz.func259.trans (congrArg some (by kernel_rfl))
 f267:=Tryz.func232.trans (congrArg some (by kernel_rfl))
 f314:=Tryz.func260.trans (congrArg some (by kernel_rfl))
 t3:=Tryz.underlying3
 a3:=Tryz.isAgg3
 z3:=Tryz.sizeOf3
 v3:=Tryz.zeroValue3
 t4:=Tryz.underlying4
 a4:=Tryz.isAgg4
 z4:=Tryz.sizeOf4
 v4:=Tryz.zeroValue4
 t5:=Tryz.underlying5
 a5:=Tryz.isAgg5
 z5:=Tryz.sizeOf5
 v5:=Tryz.zeroValue5
 t9:=Tryz.underlying9
 a9:=Tryz.isAgg9
 z9:=Tryz.sizeOf9
 v9:=Tryz.zeroValue9
 t46:=Tryz.underlying170
 a46:=Tryz.isAgg170
 z46:=Tryz.sizeOf170
 v46:=Tryz.zeroValue170
 t51:=Tryz.underlying25
 a51:=Tryz.isAgg25
 z51:=Tryz.sizeOf25
 v51:=Tryz.zeroValue25
 t59:=Tryz.underlying214
 a59:=Tryz.isAgg214
 z59:=Tryz.sizeOf214
 v59:=Tryz.zeroValue214
 t146:=Tryz.underlying333
 a146:=Tryz.isAgg333
 z146:=Tryz.sizeOf333
 v146:=Tryz.zeroValue333
 g1:=by kernel_rfl }
open Go.RowKit Go.Lib in
/-- strings.Cut: "Cut slices s around the first instance of sep, returning the text before and after sep. The found result reports whether sep appears in s. If sep does not appear in s, cut returns s, "", false.": IT RETURNS 'Lib.cut s sep'; the world is as it was but for the count of draws. (LAID: no walk: one application.) -/
theorem Tryz.strings_Cut(s sep:ByteArray)(m:Int)(w:World)(hs:s.size<4294967281)(hm:w.cell? ⟨2,0,none⟩=some (.int .i64 m)):
 Calls Tryz.prog 150 #[.string s,.string sep] w fun e w'=>e= .returned (.tuple #[.string ⟨(Lib.cut s.data.toList sep.data.toList).1.toArray⟩,.string ⟨(Lib.cut s.data.toList sep.data.toList).2.1.toArray⟩,.bool (Lib.cut s.data.toList sep.data.toList).2.2])∧∃n,w'=w.drewN n:=Any.strings_Cut Tryz.lays145 s sep m w hs hm
def Tryz.laysM288_ren:Go.Shelf.Ren:=⟨fun | 288=>307 | 283=>175 | 284=>176 | 285=>177 | 286=>178 | 129=>166 | 317=>208 | 318=>209 | 319=>210 | 320=>211 | 337=>233 | 338=>234|n=>n,fun | 37=>171 | 53=>24 | 3=>3 | 4=>4 | 9=>9 | 171=>241 | 0=>0 | 173=>243 | 212=>273 | 51=>25 | 5=>5 | 20=>20 | 213=>274 | 46=>170 | 232=>335 | 233=>336|n=>n,fun | 17=>3 | 18=>8 | 19=>9|n=>n⟩
theorem Tryz.laysM288:Go.Proofs.LaysM.n288 Tryz.prog Tryz.laysM288_ren:={
 mixed:=by kernel_rfl
 f129:=Tryz.func166.trans (congrArg some (by kernel_rfl))
 f283:=Tryz.func175.trans (congrArg some (by kernel_rfl))
 f284:=Tryz.func176.trans (congrArg some (by kernel_rfl))
 f285:=Tryz.func177.trans (congrArg some (by kernel_rfl))
 f286:=Tryz.func178.trans (congrArg some (by kernel_rfl))
 f288:=Tryz.func307.trans (congrArg some (by kernel_rfl))
 f317:=Tryz.func208.trans (congrArg some (by kernel_rfl))
 f318:=Tryz.func209.trans (congrArg some (by kernel_rfl))
 f319:=Tryz.func210.trans (congrArg some (by kernel_rfl))
 f320:=Tryz.func211.trans (congrArg some (by kernel_rfl))
 f337:=Tryz.func233.trans (congrArg some (by kernel_rfl))
 f338:=Tryz.func234.trans (congrArg some (by kernel_rfl))
 t0:=Tryz.underlying0
 a0:=Tryz.isAgg0
 z0:=Tryz.sizeOf0
 v0:=Tryz.zeroValue0
 t3:=Tryz.underlying3
 a3:=Tryz.isAgg3
 z3:=Tryz.sizeOf3
 v3:=Tryz.zeroValue3
 t4:=Tryz.underlying4
 a4:=Tryz.isAgg4
 z4:=Tryz.sizeOf4
 v4:=Tryz.zeroValue4
 t5:=Tryz.underlying5
 a5:=Tryz.isAgg5
 z5:=Tryz.sizeOf5
 v5:=Tryz.zeroValue5
 t9:=Tryz.underlying9
 a9:=Tryz.isAgg9
 z9:=Tryz.sizeOf9
 v9:=Tryz.zeroValue9
 t20:=Tryz.underlying20
 a20:=Tryz.isAgg20
 z20:=Tryz.sizeOf20
 v20:=Tryz.zeroValue20
 t37:=Tryz.underlying171
 a37:=Tryz.isAgg171
 z37:=Tryz.sizeOf171
 v37:=Tryz.zeroValue171
 t46:=Tryz.underlying170
 a46:=Tryz.isAgg170
 z46:=Tryz.sizeOf170
 v46:=Tryz.zeroValue170
 t51:=Tryz.underlying25
 a51:=Tryz.isAgg25
 z51:=Tryz.sizeOf25
 v51:=Tryz.zeroValue25
 t53:=Tryz.underlying24
 a53:=Tryz.isAgg24
 z53:=Tryz.sizeOf24
 v53:=Tryz.zeroValue24
 t171:=Tryz.underlying241
 a171:=Tryz.isAgg241
 z171:=Tryz.sizeOf241
 v171:=Tryz.zeroValue241
 t173:=Tryz.underlying243
 a173:=Tryz.isAgg243
 z173:=Tryz.sizeOf243
 v173:=Tryz.zeroValue243
 t212:=Tryz.underlying273
 a212:=Tryz.isAgg273
 z212:=Tryz.sizeOf273
 v212:=Tryz.zeroValue273
 t213:=Tryz.underlying274
 a213:=Tryz.isAgg274
 z213:=Tryz.sizeOf274
 t232:=Tryz.underlying335
 a232:=Tryz.isAgg335
 z232:=Tryz.sizeOf335
 v232:=Tryz.zeroValue335
 t233:=Tryz.underlying336
 a233:=Tryz.isAgg336
 z233:=Tryz.sizeOf336
 v233:=Tryz.zeroValue336
 g17:=by kernel_rfl
 g18:=by kernel_rfl
 g19:=by kernel_rfl
 i0:=by kernel_rfl
 i3:=by kernel_rfl
 i4:=by kernel_rfl
 i5:=by kernel_rfl
 i9:=by kernel_rfl
 i20:=by kernel_rfl
 i37:=by kernel_rfl
 i46:=by kernel_rfl
 i51:=by kernel_rfl
 i53:=by kernel_rfl
 i171:=by kernel_rfl
 i173:=by kernel_rfl
 i212:=by kernel_rfl
 i232:=by kernel_rfl
 i233:=by kernel_rfl
 m17:=by kernel_rfl
 m18:=by kernel_rfl
 m19:=by kernel_rfl }
open Go.RowKit Go.Sort Go.Lib in
/-- internal/strconv.AppendUint(dst, i, 10), i BELOW 100: WHAT COMES BACK OWNS dst's CELLS AND, BEHIND THEM, i's DECIMAL NUMERAL. No table is read. Below the call's own blocks nothing has turned. (LAID: no walk: one application.) -/
theorem Tryz.internal_strconv_AppendUint_10_small(B n u:Nat)(hu:u<100)(sv:Value)(xs:List Value)(w:World)(hown:w.ownsRow B 5 1 sv n xs)(hBw:B≤w.heap.size)(hlim:n+20≤140737488355328):
 Calls Tryz.prog 307 #[sv,.int .u64 u,.int .i64 10] w fun e w'=>∃v',e= .returned v'∧w'.ownsRow B 5 1 v' (n+(Lib.decDigits u).length) (xs++Lib.byteCells (Lib.decDigits u))∧Below B w w'∧Lib.OthersKept 5 none w w':=Any.internal_strconv_AppendUint_10_small Tryz.laysM288 B n u hu sv xs w hown hBw hlim
open Go.RowKit Go.Sort Go.Lib in
/-- internal/strconv.AppendUint(dst, i, 10), i FROM 100 ON: likewise; the digits are laid in an array of the call's own and appended. (LAID: no walk: one application.) -/
theorem Tryz.internal_strconv_AppendUint_10_big(B n u:Nat)(hu:100≤u)(hu64:u<18446744073709551616)(sv:Value)(xs:List Value)(w:World)(hown:w.ownsRow B 5 1 sv n xs)(hBw:B≤w.heap.size)(hlim:n+20≤140737488355328)(htab:Lib.TabIs Tryz.prog w "internal/strconv.uint64pow10" .u64 Lib.pow10Tab):
 Calls Tryz.prog 307 #[sv,.int .u64 u,.int .i64 10] w fun e w'=>∃v',e= .returned v'∧w'.ownsRow B 5 1 v' (n+(Lib.decDigits u).length) (xs++Lib.byteCells (Lib.decDigits u))∧Below B w w'∧Lib.OthersKept 5 none w w':=Any.internal_strconv_AppendUint_10_big Tryz.laysM288 B n u hu hu64 sv xs w hown hBw hlim htab
def Tryz.lays146_ren:Go.Shelf.Ren:=⟨fun | 146=>167 | 221=>198 | 268=>222 | 138=>172 | 143=>173 | 195=>204 | 197=>174 | 218=>205 | 219=>206 | 260=>207 | 217=>229 | 225=>230 | 224=>231 | 267=>232 | 266=>259 | 314=>260|n=>n,fun | 9=>9 | 31=>98 | 3=>3 | 4=>4 | 0=>0 | 105=>238 | 21=>21 | 5=>5 | 46=>170 | 119=>307 | 139=>310 | 138=>309 | 146=>333 | 51=>25|n=>n,fun | 1=>2 | 3=>6 | 4=>7|n=>n⟩
theorem Tryz.lays146:Go.Proofs.Lays.n146 Tryz.prog Tryz.lays146_ren:={
 mixed:=by kernel_rfl
 f138:=Tryz.func172.trans (congrArg some (by kernel_rfl))
 f143:=Tryz.func173.trans (congrArg some (by kernel_rfl))
 f146:=Tryz.func167.trans (congrArg some (by kernel_rfl))
 f195:=Tryz.func204.trans (congrArg some (by kernel_rfl))
 f197:=Tryz.func174.trans (congrArg some (by kernel_rfl))
 f217:=Tryz.func229.trans (congrArg some (by kernel_rfl))
 f218:=Tryz.func205.trans (congrArg some (by kernel_rfl))
 f219:=Tryz.func206.trans (congrArg some (by kernel_rfl))
 f221:=Tryz.func198.trans (congrArg some (by kernel_rfl))
 f224:=Tryz.func231.trans (congrArg some (by kernel_rfl))
 f225:=Tryz.func230.trans (congrArg some (by kernel_rfl))
 f260:=Tryz.func207.trans (congrArg some (by kernel_rfl))
 f266:=Tryz.func259.trans (congrArg some (by kernel_rfl))
 f267:=Tryz.func232.trans (congrArg some (by kernel_rfl))
 f268:=Tryz.func222.trans (congrArg some (by kernel_rfl))
 f314:=Tryz.func260.trans (congrArg some (by kernel_rfl))
 t0:=Tryz.underlying0
 a0:=Tryz.isAgg0
 z0:=Tryz.sizeOf0
 v0:=Tryz.zeroValue0
 t3:=Tryz.underlying3
 a3:=Tryz.isAgg3
 z3:=Tryz.sizeOf3
 v3:=Tryz.zeroValue3
 t4:=Tryz.underlying4
 a4:=Tryz.isAgg4
 z4:=Tryz.sizeOf4
 v4:=Tryz.zeroValue4
 t5:=Tryz.underlying5
 a5:=Tryz.isAgg5
 z5:=Tryz.sizeOf5
 v5:=Tryz.zeroValue5
 t9:=Tryz.underlying9
 a9:=Tryz.isAgg9
 z9:=Tryz.sizeOf9
 v9:=Tryz.zeroValue9
 t21:=Tryz.underlying21
 a21:=Tryz.isAgg21
 z21:=Tryz.sizeOf21
 v21:=Tryz.zeroValue21
 t31:=Tryz.underlying98
 a31:=Tryz.isAgg98
 z31:=Tryz.sizeOf98
 v31:=Tryz.zeroValue98
 t46:=Tryz.underlying170
 a46:=Tryz.isAgg170
 z46:=Tryz.sizeOf170
 v46:=Tryz.zeroValue170
 t51:=Tryz.underlying25
 a51:=Tryz.isAgg25
 z51:=Tryz.sizeOf25
 v51:=Tryz.zeroValue25
 t105:=Tryz.underlying238
 a105:=Tryz.isAgg238
 z105:=Tryz.sizeOf238
 v105:=Tryz.zeroValue238
 t119:=Tryz.underlying307
 a119:=Tryz.isAgg307
 z119:=Tryz.sizeOf307
 t138:=Tryz.underlying309
 a138:=Tryz.isAgg309
 z138:=Tryz.sizeOf309
 v138:=Tryz.zeroValue309
 t139:=Tryz.underlying310
 a139:=Tryz.isAgg310
 z139:=Tryz.sizeOf310
 v139:=Tryz.zeroValue310
 t146:=Tryz.underlying333
 a146:=Tryz.isAgg333
 z146:=Tryz.sizeOf333
 v146:=Tryz.zeroValue333
 g1:=by kernel_rfl
 g3:=by kernel_rfl
 g4:=by kernel_rfl }
open Go.RowKit Go.Lib in
/-- strings.Split. (LAID: no walk: one application.) -/
theorem Tryz.strings_Split(s sep:ByteArray)(m:Int)(w:World)(hs:s.size<4294967281)(hm:w.cell? ⟨2,0,none⟩=some (.int .i64 m))(h1:1≤sep.size):
 Calls Tryz.prog 167 #[.string s,.string sep] w fun e w'=>
  e= .returned (.slice (some ⟨w.heap.size,0,none⟩) (Lib.countB s sep+1) (Lib.countB s sep+1))∧w'=w.alloc (.cells ((Lib.splitB sep 0 (Lib.countB s sep) s).map Value.string).toArray 9):=Any.strings_Split Tryz.lays146 (by kernel_rfl) s sep m w hs hm h1
def Tryz.laysPu14_ren:Go.Shelf.Ren:=⟨fun | 14=>128 | 16=>152 | 17=>153 | 19=>186 | 20=>187 | 21=>188 | 22=>189 | 23=>190 | 24=>191 | 25=>218 | 27=>220 | 26=>219 | 28=>246 | 29=>267 | 30=>175 | 31=>176 | 32=>177 | 33=>178 | 35=>166 | 34=>208 | 36=>209 | 37=>210 | 38=>211 | 39=>233 | 40=>234|n=>n,fun | 9=>9 | 3=>3 | 22=>24 | 24=>29 | 25=>189 | 4=>4 | 34=>251 | 5=>5 | 36=>170 | 37=>171 | 0=>0 | 39=>253 | 21=>21 | 44=>288 | 47=>201 | 50=>322 | 48=>320 | 2=>2 | 52=>241 | 55=>243 | 59=>273 | 60=>25 | 20=>20 | 61=>274 | 65=>335 | 66=>336 | 67=>82|n=>n,fun | 0=>4 | 1=>5 | 2=>3 | 3=>8 | 4=>9|n=>n⟩
theorem Tryz.laysPu14:Go.Proofs.LaysPu.n14 Tryz.prog Tryz.laysPu14_ren:={
 mixed:=by kernel_rfl
 f14:=Tryz.func128.trans (congrArg some (by kernel_rfl))
 f16:=Tryz.func152.trans (congrArg some (by kernel_rfl))
 f17:=Tryz.func153.trans (congrArg some (by kernel_rfl))
 f19:=Tryz.func186.trans (congrArg some (by kernel_rfl))
 f20:=Tryz.func187.trans (congrArg some (by kernel_rfl))
 f21:=Tryz.func188.trans (congrArg some (by kernel_rfl))
 f22:=Tryz.func189.trans (congrArg some (by kernel_rfl))
 f23:=Tryz.func190.trans (congrArg some (by kernel_rfl))
 f24:=Tryz.func191.trans (congrArg some (by kernel_rfl))
 f25:=Tryz.func218.trans (congrArg some (by kernel_rfl))
 f26:=Tryz.func219.trans (congrArg some (by kernel_rfl))
 f27:=Tryz.func220.trans (congrArg some (by kernel_rfl))
 f28:=Tryz.func246.trans (congrArg some (by kernel_rfl))
 f29:=Tryz.func267.trans (congrArg some (by kernel_rfl))
 f30:=Tryz.func175.trans (congrArg some (by kernel_rfl))
 f31:=Tryz.func176.trans (congrArg some (by kernel_rfl))
 f32:=Tryz.func177.trans (congrArg some (by kernel_rfl))
 f33:=Tryz.func178.trans (congrArg some (by kernel_rfl))
 f34:=Tryz.func208.trans (congrArg some (by kernel_rfl))
 f35:=Tryz.func166.trans (congrArg some (by kernel_rfl))
 f36:=Tryz.func209.trans (congrArg some (by kernel_rfl))
 f37:=Tryz.func210.trans (congrArg some (by kernel_rfl))
 f38:=Tryz.func211.trans (congrArg some (by kernel_rfl))
 f39:=Tryz.func233.trans (congrArg some (by kernel_rfl))
 f40:=Tryz.func234.trans (congrArg some (by kernel_rfl))
 t0:=Tryz.underlying0
 a0:=Tryz.isAgg0
 z0:=Tryz.sizeOf0
 v0:=Tryz.zeroValue0
 i0:=by kernel_rfl
 t2:=Tryz.underlying2
 a2:=Tryz.isAgg2
 z2:=Tryz.sizeOf2
 v2:=Tryz.zeroValue2
 i2:=by kernel_rfl
 t3:=Tryz.underlying3
 a3:=Tryz.isAgg3
 z3:=Tryz.sizeOf3
 v3:=Tryz.zeroValue3
 i3:=by kernel_rfl
 t4:=Tryz.underlying4
 a4:=Tryz.isAgg4
 z4:=Tryz.sizeOf4
 v4:=Tryz.zeroValue4
 i4:=by kernel_rfl
 t5:=Tryz.underlying5
 a5:=Tryz.isAgg5
 z5:=Tryz.sizeOf5
 v5:=Tryz.zeroValue5
 i5:=by kernel_rfl
 t9:=Tryz.underlying9
 a9:=Tryz.isAgg9
 z9:=Tryz.sizeOf9
 v9:=Tryz.zeroValue9
 i9:=by kernel_rfl
 t20:=Tryz.underlying20
 a20:=Tryz.isAgg20
 z20:=Tryz.sizeOf20
 v20:=Tryz.zeroValue20
 i20:=by kernel_rfl
 t21:=Tryz.underlying21
 a21:=Tryz.isAgg21
 z21:=Tryz.sizeOf21
 v21:=Tryz.zeroValue21
 i21:=by kernel_rfl
 t22:=Tryz.underlying24
 a22:=Tryz.isAgg24
 z22:=Tryz.sizeOf24
 v22:=Tryz.zeroValue24
 i22:=by kernel_rfl
 t24:=Tryz.underlying29
 a24:=Tryz.isAgg29
 z24:=Tryz.sizeOf29
 v24:=Tryz.zeroValue29
 i24:=by kernel_rfl
 t25:=Tryz.underlying189
 a25:=Tryz.isAgg189
 z25:=Tryz.sizeOf189
 v25:=Tryz.zeroValue189
 i25:=by kernel_rfl
 t34:=Tryz.underlying251
 a34:=Tryz.isAgg251
 z34:=Tryz.sizeOf251
 v34:=Tryz.zeroValue251
 i34:=by kernel_rfl
 c34:=by kernel_rfl
 t36:=Tryz.underlying170
 a36:=Tryz.isAgg170
 z36:=Tryz.sizeOf170
 v36:=Tryz.zeroValue170
 i36:=by kernel_rfl
 t37:=Tryz.underlying171
 a37:=Tryz.isAgg171
 z37:=Tryz.sizeOf171
 v37:=Tryz.zeroValue171
 i37:=by kernel_rfl
 t39:=Tryz.underlying253
 a39:=Tryz.isAgg253
 z39:=Tryz.sizeOf253
 v39:=Tryz.zeroValue253
 i39:=by kernel_rfl
 t44:=Tryz.underlying288
 a44:=Tryz.isAgg288
 z44:=Tryz.sizeOf288
 v44:=Tryz.zeroValue288
 i44:=by kernel_rfl
 t47:=Tryz.underlying201
 a47:=Tryz.isAgg201
 z47:=Tryz.sizeOf201
 v47:=Tryz.zeroValue201
 i47:=by kernel_rfl
 t48:=Tryz.underlying320
 a48:=Tryz.isAgg320
 z48:=Tryz.sizeOf320
 v48:=Tryz.zeroValue320
 i48:=by kernel_rfl
 t50:=Tryz.underlying322
 a50:=Tryz.isAgg322
 z50:=Tryz.sizeOf322
 v50:=Tryz.zeroValue322
 i50:=by kernel_rfl
 t52:=Tryz.underlying241
 a52:=Tryz.isAgg241
 z52:=Tryz.sizeOf241
 v52:=Tryz.zeroValue241
 i52:=by kernel_rfl
 t55:=Tryz.underlying243
 a55:=Tryz.isAgg243
 z55:=Tryz.sizeOf243
 v55:=Tryz.zeroValue243
 i55:=by kernel_rfl
 t59:=Tryz.underlying273
 a59:=Tryz.isAgg273
 z59:=Tryz.sizeOf273
 v59:=Tryz.zeroValue273
 i59:=by kernel_rfl
 t60:=Tryz.underlying25
 a60:=Tryz.isAgg25
 z60:=Tryz.sizeOf25
 v60:=Tryz.zeroValue25
 i60:=by kernel_rfl
 t61:=Tryz.underlying274
 a61:=Tryz.isAgg274
 z61:=Tryz.sizeOf274
 t65:=Tryz.underlying335
 a65:=Tryz.isAgg335
 z65:=Tryz.sizeOf335
 v65:=Tryz.zeroValue335
 i65:=by kernel_rfl
 t66:=Tryz.underlying336
 a66:=Tryz.isAgg336
 z66:=Tryz.sizeOf336
 v66:=Tryz.zeroValue336
 i66:=by kernel_rfl
 t67:=Tryz.underlying82
 a67:=Tryz.isAgg82
 z67:=Tryz.sizeOf82
 v67:=Tryz.zeroValue82
 i67:=by kernel_rfl
 g0:=by kernel_rfl
 m0:=by kernel_rfl
 g1:=by kernel_rfl
 m1:=by kernel_rfl
 g2:=by kernel_rfl
 m2:=by kernel_rfl
 g3:=by kernel_rfl
 m3:=by kernel_rfl
 g4:=by kernel_rfl
 m4:=by kernel_rfl }
open Go.RowKit in
/-- strconv.ParseUint(s, 10, 32), AT EVERY STRING THAT SPELLS A uint32 ('Lib.parseUintB 32 s.data.toList = .ok u'): u, AND NO ERROR. (LAID: no walk: one application.) -/
theorem Tryz.strconv_ParseUint_10_at32_ok(s:ByteArray)(hmax:s.size≤9223372036854775806)(u:Nat)(h:Lib.parseUintB 32 s.data.toList= .ok u)(w:World):
 Calls Tryz.prog 128 #[.string s,.int .i64 10,.int .i64 32] w fun e w'=>e= .returned (.tuple #[.int .u64 u,.nilIface])∧(w'=w∨w'=Lib.bytesWorld w 5 s):=Any.strconv_ParseUint_10_at32_ok Tryz.laysPu14 s hmax u h w
open Go.RowKit in
/-- strconv.ParseUint(s, 10, 32), AT EVERY STRING THAT IS NO ROW OF DECIMAL DIGITS (a sign is a fault): 0, AND AN ERROR THAT IS NOT nil: a *NumError in a new block N: {Func: "ParseUint", Num: s's bytes, Err: what the variable ErrSyntax holds}. Of what was there nothing has turned. (LAID: no walk: one application.) -/
theorem Tryz.strconv_ParseUint_10_at32_bad(s:ByteArray)(hlim:s.size≤281474976710656)(r:Lib.NumEnd Nat)(hr:Lib.parseUintB 32 s.data.toList=r)(hno:∀u,r≠.ok u)(hnr:r≠.range)(ev:Value)(w:World)(hv:w.cell? ⟨4,0,none⟩=some ev)(hev:ev= .nilIface∨∃te pe,ev= .iface te pe):
 Calls Tryz.prog 128 #[.string s,.int .i64 10,.int .i64 32] w fun e w'=>∃N,e= .returned (.tuple #[.int .u64 0,.iface 253 (.pointer (some ⟨N,0,none⟩))])∧w.heap.size≤N∧w'.heap[N]?=some (.cells #[.string ⟨#[80,97,114,115,101,85,105,110,116]⟩,.string s,ev] 288 (0,0))∧Below w.heap.size w w':=by
 cases r with
 | ok u=>exact absurd rfl (hno u)
 | range=>exact absurd rfl hnr
 | _=>exact Any.strconv_ParseUint_10_at32_syntax Tryz.laysPu14 s hlim hr ev w hv hev
open Go.RowKit in
/-- strconv.ParseUint(s, 10, 32), AT EVERY NUMERAL THAT NO uint32 HOLDS: THE GREATEST uint32, AND AN ERROR THAT IS NOT nil: a *NumError in a new block N: {Func: "ParseUint", Num: s's bytes, Err: what the variable ErrRange holds}. Of what was there nothing has turned. (LAID: no walk: one application.) -/
theorem Tryz.strconv_ParseUint_10_at32_range(s:ByteArray)(hlim:s.size≤281474976710656)(h:Lib.parseUintB 32 s.data.toList= .range)(ev:Value)(w:World)(hv:w.cell? ⟨5,0,none⟩=some ev)(hev:ev= .nilIface∨∃te pe,ev= .iface te pe):
 Calls Tryz.prog 128 #[.string s,.int .i64 10,.int .i64 32] w fun e w'=>∃N,e= .returned (.tuple #[.int .u64 4294967295,.iface 253 (.pointer (some ⟨N,0,none⟩))])∧w.heap.size≤N∧w'.heap[N]?=some (.cells #[.string ⟨#[80,97,114,115,101,85,105,110,116]⟩,.string s,ev] 288 (0,0))∧Below w.heap.size w w':=Any.strconv_ParseUint_10_at32_range Tryz.laysPu14 s hlim h ev w hv hev
end Go.Proofs
end
namespace Go.Proofs.YtbninnkpjdofbaaGreatDoor
open Go.Lib (hid)
section
open Go.RowKit
namespace VerC
open VerM StrC TextR
def isErr(v:Value):Prop:=v= .nilIface∨∃t p,v= .iface t p
structure Vw (w:World):Prop where
 max:∃m:Int,w.cell? ⟨2,0,none⟩=some (.int .i64 m)
 syn:∃v,w.cell? ⟨4,0,none⟩=some v∧isErr v
 ran:∃v,w.cell? ⟨5,0,none⟩=some v∧isErr v
 pow:Lib.TabIs Tryz.prog w "internal/strconv.uint64pow10" .u64 Lib.pow10Tab
theorem Vw.gr{w w':World}(h:Vw w)(g:Below w.heap.size w w'):Vw w':=by
 obtain⟨⟨m,hm⟩,⟨v,hv,ev⟩,⟨u,hu,eu⟩,hp⟩:=h;refine⟨⟨m,by rw[g.cell (World.block_lt_of_cell? _ _ hm)];exact hm⟩,⟨v,by rw[g.cell (World.block_lt_of_cell? _ _ hv)];exact hv,ev⟩,⟨u,by rw[g.cell (World.block_lt_of_cell? _ _ hu)];exact hu,eu⟩,?_⟩;exact Lib.tabBelow_of_tabIs hp _ g
theorem zfj(l:B):(str l).data.toList=l:=by simp[str]
theorem zfk{l:B}:Lib.cut l [45]=(head l,l.drop ((head l).length+1),decide (ids l≠[])):=by
 unfold Lib.cut;rcases zag 45 l with h|⟨x,r,e,hx⟩
 · have e1:=zah h
   rw[if_neg (by rw[e1];decide),(zal h).1,(zal h).2];simp
 · subst e
   have e1:=zai r hx;rw[if_pos (by rw[e1];omega),(zam r hx).1,(zam r hx).2,e1];have:pieces 46 r≠[]:=zaa 46 r
   simp[this]
theorem zfl{l:B}(h:ids l≠[]):pieces 46 (l.drop ((head l).length+1))=ids l:=by
 rcases zag 45 l with h2|⟨x,r,e,hx⟩
 · exact absurd (zal h2).2 h
 · subst e
   rw[(zam r hx).1,(zam r hx).2,←List.drop_drop];simp
theorem zfm(l:B)(w:World)(hv:Vw w)(hl:l.length≤128):
 Calls Tryz.prog 150 #[.string (str l),.string ⟨#[45]⟩] w fun e w'=>e= .returned (.tuple #[.string (str (head l)),.string (str (l.drop ((head l).length+1))),.bool (decide (ids l≠[]))])∧∃n,w'=w.drewN n:=by
 obtain⟨m,hm⟩:=hv.max;have h:=Tryz.strings_Cut (str l) ⟨#[45]⟩ m w (by rw[zbo];omega) hm;rw[zfj,show (⟨#[45]⟩:ByteArray).data.toList=[45] from rfl,zfk] at h;exact h
theorem zfn(l:B):(pieces 46 l).length=Lib.countB (str l) ⟨#[46]⟩+1:=by
 have h:=Lib.splitB_all (⟨#[46]⟩:ByteArray) (by decide) 0 _ (str l) rfl;have h2:=congrArg List.length (Lib.splitB_data ⟨#[46]⟩ 0 (Lib.countB (str l) ⟨#[46]⟩) (str l));rw[List.length_map,h] at h2;rw[h2];rw[zfj,←zak]
 show _=(Lib.split l [46]).length;unfold Lib.split;have e:Lib.countB (str l) ⟨#[46]⟩=Lib.count l [46]:=by unfold Lib.countB;rw[zfj]
 first|rw[e];rfl|rfl
theorem zfo(l:B):(Lib.splitB ⟨#[46]⟩ 0 (Lib.countB (str l) ⟨#[46]⟩) (str l)).map Value.string=(pieces 46 l).map (fun s=>Value.string (str s)):=by
 have h2:=Lib.splitB_data ⟨#[46]⟩ 0 (Lib.countB (str l) ⟨#[46]⟩) (str l);rw[zfj,show (⟨#[46]⟩:ByteArray).data.toList=[46] from rfl] at h2
 have h3:(Lib.splitB ⟨#[46]⟩ 0 (Lib.countB (str l) ⟨#[46]⟩) (str l)).map (·.data.toList)=pieces 46 l:=by
  rw[h2,←zak];unfold Lib.split Lib.countB;rw[zfj]
 rw[←h3,List.map_map]
 apply List.map_congr_left
 intro s _;simp[str]
theorem zfp(l:B)(w:World)(hv:Vw w)(hl:l.length≤1000000):
 Calls Tryz.prog 167 #[.string (str l),.string ⟨#[46]⟩] w fun e w'=>e= .returned (.slice (some ⟨w.heap.size,0,none⟩) (pieces 46 l).length (pieces 46 l).length)∧w'=w.alloc (.cells ((pieces 46 l).map (fun s=>Value.string (str s))).toArray 9):=by
 obtain⟨m,hm⟩:=hv.max;have h:=Tryz.strings_Split (str l) ⟨#[46]⟩ m w (by rw[zbo];omega) hm (by decide);rw[zfo] at h;refine h.mono fun e w' ⟨he,hw⟩=>⟨?_,hw⟩
 rw[he,zfn]
theorem zfq(l:B)(w:World)(hl:l.length≤1000000):Txs (w.alloc (.cells ((pieces 46 l).map (fun s=>Value.string (str s))).toArray 9)) (some ⟨w.heap.size,0,none⟩) (pieces 46 l).length (pieces 46 l):=by
 have h1:=zad 46 l;refine⟨Nat.le_refl _,fun s hs=>?_,by omega,fun h0=>⟨w.heap.size,0,rfl,fun i hi=>?_⟩⟩
 · have:=zae 46 l s hs;omega
 · have hn:=heap_alloc_new w (.cells ((pieces 46 l).map (fun s=>Value.string (str s))).toArray 9)
   rw[Nat.zero_add];unfold World.cell?;rw[hn];simp[hi]
theorem zfr(l:B)(w:World)(hv:Vw w)(hl:l.length≤1000000):
 Calls Tryz.prog 128 #[.string (str l),.int .i64 10,.int .i64 32] w fun e w'=>(∃(n:Nat) (q:Value),e= .returned (.tuple #[.int .u64 n,q])∧(∀u,Lib.parseUintB 32 l= .ok u→n=u∧q= .nilIface)∧((∀u,Lib.parseUintB 32 l≠.ok u)→∃t p,q= .iface t p))∧Below w.heap.size w w':=by
 have hd:(str l).data.toList=l:=zfj l;cases hp:Lib.parseUintB 32 l with
 | ok u=>
   refine(Tryz.strconv_ParseUint_10_at32_ok (str l) (by rw[zbo];omega) u (by rw[hd];exact hp) w).mono fun e w' ⟨he,hw⟩=>⟨⟨u,_,he,⟨fun u2 h2=>?_,fun h=>absurd rfl (h u)⟩⟩,?_⟩
   · cases h2;exact⟨rfl,rfl⟩
   · rcases hw with rfl|rfl
     · exact Below.refl _ _
     · exact Lib.bytesWorld_below _ _ _
 | range=>
   obtain⟨v,hc,hev⟩:=hv.ran;refine(Tryz.strconv_ParseUint_10_at32_range (str l) (by rw[zbo];omega) (by rw[hd];exact hp) v w hc hev).mono fun e w' ⟨N,he,_,_,hb⟩=>⟨⟨4294967295,_,he,⟨fun u2 h2=>(by cases h2),fun _=>⟨_,_,rfl⟩⟩⟩,hb⟩
 | _=>
   obtain⟨v,hc,hev⟩:=hv.syn;refine(Tryz.strconv_ParseUint_10_at32_bad (str l) (by rw[zbo];omega) (Lib.parseUintB 32 l) (by rw[hd]) (fun u h=>by rw[hp] at h;cases h) (fun h=>by rw[hp] at h;cases h) v w hc hev).mono fun e w' ⟨N,he,_,_,hb⟩=>⟨⟨0,_,he,⟨fun u2 h2=>(by cases h2),fun _=>⟨_,_,rfl⟩⟩⟩,hb⟩
/-- package version's number -/
theorem zfs(l:B)(w:World)(hv:Vw w)(hl:l.length≤1000000):
 Calls Tryz.prog 168 #[.string (str l)] w fun e w'=>(∃x:Int,e= .returned (.tuple #[.int .u32 x,.bool (pnum l).isSome])∧∀n,pnum l=some n→x=n)∧Below w.heap.size w w':=by
 have HP:=hid (zfr l w hv hl);have HQ:=hid (fun w=>zet l w (by omega));by_cases hok:∃u,Lib.parseUintB 32 l= .ok u
 · obtain⟨u,hu⟩:=hok
   have HE:=hid (zep hu);have hu2:=((zeo l u).1 hu).2.1;have hu3:=((zeo l u).1 hu).2.2;have hw:IntKind.u32.wrap (u:Int)=u:=by simp[IntKind.wrap,IntKind.bits,IntKind.signed];omega
   have HU:=hid hu;generalize padded l=pd at*;clear hv hu2 hu3 hu;go_enter Tryz.func168,Tryz.ntmps168;go_wp2_with (go_at_call 128;refine HP.out.mono ?_;rintro e w1 ⟨⟨n,q,rfl,h1,h2⟩,hb⟩;refine Hid.out ?_)
   refine hid ?_;obtain⟨rfl,rfl⟩:=h1 u HU.out;have HB:=hid hb;clear h1 h2 hb HP;go_wp2_with (go_at_call 199;refine(HQ.out _).mono ?_;rintro e w2 ⟨rfl,rfl⟩)
   go_ret2
   refine⟨⟨(n:Int),?_,fun m hm=>?_⟩,HB.out⟩
   · rw[HE.out];cases pd<;>rfl
   · rw[HE.out] at hm
     cases pd
     · simp at hm;rw[hm]
     · simp at hm
 · have HNO:=hid (fun u h=>hok ⟨u,h⟩)
   have HE:=hid (zeq (fun u h=>hok ⟨u,h⟩));clear hv hok;go_enter Tryz.func168,Tryz.ntmps168;go_wp2_with (go_at_call 128;refine HP.out.mono ?_;rintro e w1 ⟨⟨n,q,rfl,h1,h2⟩,hb⟩;refine Hid.out ?_)
   refine hid ?_;obtain⟨tq,pq,rfl⟩:=h2 (fun u h=>HNO.out u h);have HB:=hid hb;clear h1 h2 hb HP;go_wp2_with (go_at_call 199;refine(HQ.out _).mono ?_;rintro e w2 ⟨rfl,rfl⟩)
   go_ret2
   exact⟨⟨_,by rw[HE.out];rfl,fun m hm=>(by rw[HE.out] at hm;cases hm)⟩,HB.out⟩
end VerC
end
section
open Go.RowKit
namespace VerC
open VerM StrC TextR
theorem zft{l:B}{v:Ver}(h:readB l=some v):isT l=true:=by unfold isT;rw[h];rfl
theorem isT_no{l:B}(h:readB l=none):isT l=false:=by unfold isT;rw[h];rfl
theorem zfu{l:B}{w:World}{x:Value}(h:ReadE l w (.returned x)):(∃v a cap,readB l=some v∧x= .tuple #[verV v.a v.b v.c a v.pre.length cap,.int .i64 0]∧Txs w a cap v.pre)∨(readB l=none∧x= .tuple #[verV 0 0 0 none 0 0,.int .i64 70]):=by
 unfold ReadE at h
 split at h
 · rename_i v hv;obtain⟨a,cap,he,hT⟩:=h;injection he with he;exact .inl ⟨v,a,cap,hv,he,hT⟩
 · rename_i hv;injection h with h;exact .inr ⟨hv,h⟩
theorem Txs.setRow{w:World}{a:Option Addr}{cap:Nat}{p:TL}(h:Txs w a cap p){g:Nat}{x y z:Int}{a2:Option Addr}{n c2:Nat}(hg:w.heap[g]?=some (verO x y z a2 n c2))(cs:Array Value):Txs (w.setRow g cs) a cap p:=by
 refine⟨h.cap,h.short,h.few,fun h0=>?_⟩;obtain⟨b,o,e,hcell⟩:=h.cells h0;refine⟨b,o,e,fun i hi=>?_⟩;have hci:=hcell i hi;have hbc:b≠g:=fun e=>by rw[e] at hci;exact zdx hg _ _ hci
 have:=setRow_other w g b cs hbc
 unfold World.cell? at hci ⊢;rw[this];exact hci
theorem Txs.alloc{w:World}{a:Option Addr}{cap:Nat}{p:TL}(h:Txs w a cap p)(O:Obj):Txs (w.alloc O) a cap p:=h.gr ((Below.refl _ w).alloc (Nat.le_refl _) O)
def cmpI(x y:Int):Int:=if x<y then -1 else if y<x then 1 else 0
theorem zfv(a b:Nat):cmpI a b=cmpN a b:=by unfold cmpI cmpN;simp
def cmpP(p q:TL):Int:=if p.length=0∨q.length=0 then (if p.length=q.length then 0 else if 0<p.length then -1 else 1) else ordL p q
theorem zfw(v w:Ver):cmpV v w=if cmpI v.a w.a≠0 then cmpI v.a w.a else if cmpI v.b w.b≠0 then cmpI v.b w.b else if cmpI v.c w.c≠0 then cmpI v.c w.c else cmpP v.pre w.pre:=by
 have h:lex (fun v w:Ver=>cmpN (rel v) (rel w)) (fun v w=>ordL v.pre w.pre) v w=cmpP v.pre w.pre:=by
  obtain⟨_,_,_,p⟩:=v;obtain⟨_,_,_,q⟩:=w;cases p<;>cases q<;>simp[lex,rel,cmpP,cmpN,ordL]
 rw[zfv,zfv,zfv]
 show lex _ (lex _ (lex _ (lex (fun v w:Ver=>cmpN (rel v) (rel w)) (fun v w=>ordL v.pre w.pre)))) v w=_;unfold lex at h ⊢;rw[h]
theorem zfx(p q:TL)(k:Nat)(h1:k<p.length)(h2:k<q.length):ordL (p.drop k) (q.drop k)=if ordI (p.getD k []) (q.getD k [])≠0 then ordI (p.getD k []) (q.getD k []) else ordL (p.drop (k+1)) (q.drop (k+1)):=by
 rw[List.drop_eq_getElem_cons h1,List.drop_eq_getElem_cons h2,ordL];simp[h1,h2]
theorem zfy(p q:TL)(k:Nat)(h:k≤p.length∧k≤q.length∧(k=p.length∨k=q.length)):ordL (p.drop k) (q.drop k)=cmpI p.length q.length:=by
 rw[zfv];unfold cmpN;obtain⟨h1,h2,h3⟩:=h;by_cases e1:k=p.length
 · by_cases e2:k=q.length
   · rw[List.drop_eq_nil_of_le (by omega),List.drop_eq_nil_of_le (by omega),if_neg (by omega),if_neg (by omega)];rfl
   · rw[show p.drop k=[] from List.drop_eq_nil_of_le (by omega),List.drop_eq_getElem_cons (show k<q.length by omega),if_pos (by omega)];rfl
 · have e2:k=q.length:=by omega
   rw[show q.drop k=[] from List.drop_eq_nil_of_le (by omega),List.drop_eq_getElem_cons (show k<p.length by omega),if_neg (by omega),if_pos (by omega)];rfl
end VerC
end
end Go.Proofs.YtbninnkpjdofbaaGreatDoor
