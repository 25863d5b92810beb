/-
  What the proof of EventReads stands on, part 14.
-/
import Derived.Ground.NamesProg
import Derived.Shelf.Strings.Prefix
import Derived.Shelf.Strings.SlTrimAscii
import Derived.Test.YtbninnkpjdofbaaGreatDoorProg
import Derived.Test.YtbninnkpjdofbaaGreatDoorT01
set_option linter.unusedSimpArgs false
set_option linter.unusedVariables false
set_option maxHeartbeats 16000000
namespace Go.Proofs.YtbninnkpjdofbaaGreatDoor
open Go.Lib (hid)
end Go.Proofs.YtbninnkpjdofbaaGreatDoor
section
namespace Go.Proofs
open Go.Shelf
def Tryz.lays161_ren:Go.Shelf.Ren:=⟨fun | 161=>269 | 231=>280 | 227=>281 | 233=>282 | 235=>283 | 228=>297 | 197=>174 | 151=>298 | 260=>207 | 152=>308 | 137=>313 | 119=>314 | 224=>231 | 225=>230 | 217=>229 | 266=>259|n=>n,fun | 9=>9 | 4=>4 | 3=>3 | 5=>5 | 117=>356 | 116=>355 | 0=>0 | 124=>359 | 105=>238 | 21=>21 | 119=>307 | 46=>170 | 139=>310 | 138=>309|n=>n,fun | 3=>6 | 4=>7|n=>n⟩
theorem Tryz.lays161:Go.Proofs.Lays.n161 Tryz.prog Tryz.lays161_ren:={
 mixed:=by kernel_rfl
 f119:=Tryz.func314.trans (congrArg some (by kernel_rfl))
 f137:=Tryz.func313.trans (congrArg some (by kernel_rfl))
 f151:=Tryz.func298.trans (congrArg some (by kernel_rfl))
 f152:=Tryz.func308.trans (congrArg some (by kernel_rfl))
 f161:=Tryz.func269.trans (congrArg some (by kernel_rfl))
 f197:=Tryz.func174.trans (congrArg some (by kernel_rfl))
 f217:=Tryz.func229.trans (congrArg some (by kernel_rfl))
 f224:=Tryz.func231.trans (congrArg some (by kernel_rfl))
 f225:=Tryz.func230.trans (congrArg some (by kernel_rfl))
 f227:=Tryz.func281.trans (congrArg some (by kernel_rfl))
 f228:=Tryz.func297.trans (congrArg some (by kernel_rfl))
 f231:=Tryz.func280.trans (congrArg some (by kernel_rfl))
 f233:=Tryz.func282.trans (congrArg some (by kernel_rfl))
 f235:=Tryz.func283.trans (congrArg some (by kernel_rfl))
 f260:=Tryz.func207.trans (congrArg some (by kernel_rfl))
 f266:=Tryz.func259.trans (congrArg some (by kernel_rfl))
 t0:=Tryz.underlying0
 a0:=Tryz.isAgg0
 z0:=Tryz.sizeOf0
 v0:=Tryz.zeroValue0
 t3:=Tryz.underlying3
 a3:=Tryz.isAgg3
 z3:=Tryz.sizeOf3
 v3:=Tryz.zeroValue3
 t4:=Tryz.underlying4
 a4:=Tryz.isAgg4
 z4:=Tryz.sizeOf4
 v4:=Tryz.zeroValue4
 t5:=Tryz.underlying5
 a5:=Tryz.isAgg5
 z5:=Tryz.sizeOf5
 v5:=Tryz.zeroValue5
 t9:=Tryz.underlying9
 a9:=Tryz.isAgg9
 z9:=Tryz.sizeOf9
 v9:=Tryz.zeroValue9
 t21:=Tryz.underlying21
 a21:=Tryz.isAgg21
 z21:=Tryz.sizeOf21
 v21:=Tryz.zeroValue21
 t46:=Tryz.underlying170
 a46:=Tryz.isAgg170
 z46:=Tryz.sizeOf170
 v46:=Tryz.zeroValue170
 t105:=Tryz.underlying238
 a105:=Tryz.isAgg238
 z105:=Tryz.sizeOf238
 v105:=Tryz.zeroValue238
 t116:=Tryz.underlying355
 a116:=Tryz.isAgg355
 z116:=Tryz.sizeOf355
 t117:=Tryz.underlying356
 a117:=Tryz.isAgg356
 z117:=Tryz.sizeOf356
 v117:=Tryz.zeroValue356
 t119:=Tryz.underlying307
 a119:=Tryz.isAgg307
 z119:=Tryz.sizeOf307
 t124:=Tryz.underlying359
 a124:=Tryz.isAgg359
 z124:=Tryz.sizeOf359
 v124:=Tryz.zeroValue359
 t138:=Tryz.underlying309
 a138:=Tryz.isAgg309
 z138:=Tryz.sizeOf309
 v138:=Tryz.zeroValue309
 t139:=Tryz.underlying310
 a139:=Tryz.isAgg310
 z139:=Tryz.sizeOf310
 v139:=Tryz.zeroValue310
 g3:=by kernel_rfl
 g4:=by kernel_rfl }
def Tryz.lays102_ren:Go.Shelf.Ren:=⟨fun | 102=>270 | 209=>284 | 207=>299|n=>n,fun | 9=>9 | 4=>4 | 3=>3|n=>n,fun|n=>n⟩
theorem Tryz.lays102:Go.Proofs.Lays.n102 Tryz.prog Tryz.lays102_ren:={
 mixed:=by kernel_rfl
 f102:=Tryz.func270.trans (congrArg some (by kernel_rfl))
 f207:=Tryz.func299.trans (congrArg some (by kernel_rfl))
 f209:=Tryz.func284.trans (congrArg some (by kernel_rfl))
 t3:=Tryz.underlying3
 a3:=Tryz.isAgg3
 z3:=Tryz.sizeOf3
 v3:=Tryz.zeroValue3
 t4:=Tryz.underlying4
 a4:=Tryz.isAgg4
 z4:=Tryz.sizeOf4
 v4:=Tryz.zeroValue4
 t9:=Tryz.underlying9
 a9:=Tryz.isAgg9
 z9:=Tryz.sizeOf9
 v9:=Tryz.zeroValue9 }
open Go.RowKit Go.Lib in
/-- strings.TrimSuffix: "TrimSuffix returns s without the provided trailing suffix string. If s doesn't end with suffix, s is returned unchanged.": IT RETURNS 'Lib.trimSuffix s suffix'; the world is as it was. (LAID: no walk: one application.) -/
theorem Tryz.strings_TrimSuffix(s p:ByteArray)(w:World)(hs:s.size≤9223372036854775807):
 Calls Tryz.prog 270 #[.string s,.string p] w fun e w'=>e= .returned (.string ⟨(Lib.trimSuffix s.data.toList p.data.toList).toArray⟩)∧w'=w:=Any.strings_TrimSuffix Tryz.lays102 s p w hs
end Go.Proofs
end
namespace Go.Proofs.YtbninnkpjdofbaaGreatDoor
open Go.Lib (hid)
end Go.Proofs.YtbninnkpjdofbaaGreatDoor
