/-
  What the proof of EventForms stands on, part 18.
-/
import Derived.Ground.NamesProg
import Derived.Shelf.Strings.Prefix
import Derived.Shelf.Strings.SlTrimAscii
import Derived.Test.YtbiplmbcdhjiaaaGreatDoorProg
import Derived.Test.YtbiplmbcdhjiaaaGreatDoorT01
set_option linter.unusedSimpArgs false
set_option linter.unusedVariables false
set_option maxHeartbeats 16000000
namespace Go.Proofs.YtbiplmbcdhjiaaaGreatDoor
open Go.Lib (hid)
end Go.Proofs.YtbiplmbcdhjiaaaGreatDoor
section
namespace Go.Proofs
open Go.Shelf
def Tryz.lays161_ren : Go.Shelf.Ren := ⟨fun | 161 => 260 | 231 => 270 | 227 => 271 | 233 => 272 | 235 => 273 | 228 => 288 | 197 => 167 | 151 => 289 | 260 => 196 | 152 => 299 | 137 => 304 | 119 => 305 | 224 => 224 | 225 => 223 | 217 => 222 | 266 => 252 | n => n, fun | 9 => 9 | 4 => 4 | 3 => 3 | 5 => 5 | 117 => 343 | 116 => 342 | 0 => 0 | 124 => 346 | 105 => 229 | 21 => 21 | 119 => 295 | 46 => 136 | 139 => 298 | 138 => 297 | n => n, fun | 3 => 4 | 4 => 5 | n => n⟩
theorem Tryz.lays161 : Go.Proofs.Lays.n161 Tryz.prog Tryz.lays161_ren := {
 mixed := by kernel_rfl
 f119 := Tryz.func305.trans (congrArg some (by kernel_rfl))
 f137 := Tryz.func304.trans (congrArg some (by kernel_rfl))
 f151 := Tryz.func289.trans (congrArg some (by kernel_rfl))
 f152 := Tryz.func299.trans (congrArg some (by kernel_rfl))
 f161 := Tryz.func260.trans (congrArg some (by kernel_rfl))
 f197 := Tryz.func167.trans (congrArg some (by kernel_rfl))
 f217 := Tryz.func222.trans (congrArg some (by kernel_rfl))
 f224 := Tryz.func224.trans (congrArg some (by kernel_rfl))
 f225 := Tryz.func223.trans (congrArg some (by kernel_rfl))
 f227 := Tryz.func271.trans (congrArg some (by kernel_rfl))
 f228 := Tryz.func288.trans (congrArg some (by kernel_rfl))
 f231 := Tryz.func270.trans (congrArg some (by kernel_rfl))
 f233 := Tryz.func272.trans (congrArg some (by kernel_rfl))
 f235 := Tryz.func273.trans (congrArg some (by kernel_rfl))
 f260 := Tryz.func196.trans (congrArg some (by kernel_rfl))
 f266 := Tryz.func252.trans (congrArg some (by kernel_rfl))
 t0 := Tryz.underlying0
 a0 := Tryz.isAgg0
 z0 := Tryz.sizeOf0
 v0 := Tryz.zeroValue0
 t3 := Tryz.underlying3
 a3 := Tryz.isAgg3
 z3 := Tryz.sizeOf3
 v3 := Tryz.zeroValue3
 t4 := Tryz.underlying4
 a4 := Tryz.isAgg4
 z4 := Tryz.sizeOf4
 v4 := Tryz.zeroValue4
 t5 := Tryz.underlying5
 a5 := Tryz.isAgg5
 z5 := Tryz.sizeOf5
 v5 := Tryz.zeroValue5
 t9 := Tryz.underlying9
 a9 := Tryz.isAgg9
 z9 := Tryz.sizeOf9
 v9 := Tryz.zeroValue9
 t21 := Tryz.underlying21
 a21 := Tryz.isAgg21
 z21 := Tryz.sizeOf21
 v21 := Tryz.zeroValue21
 t46 := Tryz.underlying136
 a46 := Tryz.isAgg136
 z46 := Tryz.sizeOf136
 v46 := Tryz.zeroValue136
 t105 := Tryz.underlying229
 a105 := Tryz.isAgg229
 z105 := Tryz.sizeOf229
 v105 := Tryz.zeroValue229
 t116 := Tryz.underlying342
 a116 := Tryz.isAgg342
 z116 := Tryz.sizeOf342
 t117 := Tryz.underlying343
 a117 := Tryz.isAgg343
 z117 := Tryz.sizeOf343
 v117 := Tryz.zeroValue343
 t119 := Tryz.underlying295
 a119 := Tryz.isAgg295
 z119 := Tryz.sizeOf295
 t124 := Tryz.underlying346
 a124 := Tryz.isAgg346
 z124 := Tryz.sizeOf346
 v124 := Tryz.zeroValue346
 t138 := Tryz.underlying297
 a138 := Tryz.isAgg297
 z138 := Tryz.sizeOf297
 v138 := Tryz.zeroValue297
 t139 := Tryz.underlying298
 a139 := Tryz.isAgg298
 z139 := Tryz.sizeOf298
 v139 := Tryz.zeroValue298
 g3 := by kernel_rfl
 g4 := by kernel_rfl }
def Tryz.lays102_ren : Go.Shelf.Ren := ⟨fun | 102 => 261 | 209 => 274 | 207 => 290 | n => n, fun | 9 => 9 | 4 => 4 | 3 => 3 | n => n, fun | n => n⟩
theorem Tryz.lays102 : Go.Proofs.Lays.n102 Tryz.prog Tryz.lays102_ren := {
 mixed := by kernel_rfl
 f102 := Tryz.func261.trans (congrArg some (by kernel_rfl))
 f207 := Tryz.func290.trans (congrArg some (by kernel_rfl))
 f209 := Tryz.func274.trans (congrArg some (by kernel_rfl))
 t3 := Tryz.underlying3
 a3 := Tryz.isAgg3
 z3 := Tryz.sizeOf3
 v3 := Tryz.zeroValue3
 t4 := Tryz.underlying4
 a4 := Tryz.isAgg4
 z4 := Tryz.sizeOf4
 v4 := Tryz.zeroValue4
 t9 := Tryz.underlying9
 a9 := Tryz.isAgg9
 z9 := Tryz.sizeOf9
 v9 := Tryz.zeroValue9 }
open Go.RowKit Go.Lib in
/-- strings.TrimSuffix: "TrimSuffix returns s without the provided trailing suffix string. If s doesn't end with suffix, s is returned unchanged.": IT RETURNS 'Lib.trimSuffix s suffix'; the world is as it was. (LAID: no walk: one application.) -/
theorem Tryz.strings_TrimSuffix (s p : ByteArray) (w : World) (hs : s.size ≤ 9223372036854775807) :
 Calls Tryz.prog 261 #[.string s, .string p] w fun e w' => e = .returned (.string ⟨(Lib.trimSuffix s.data.toList p.data.toList).toArray⟩) ∧ w' = w := Any.strings_TrimSuffix Tryz.lays102 s p w hs
end Go.Proofs
end
namespace Go.Proofs.YtbiplmbcdhjiaaaGreatDoor
open Go.Lib (hid)
end Go.Proofs.YtbiplmbcdhjiaaaGreatDoor
