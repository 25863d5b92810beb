/-
  What the proof of EventForms stands on, part 6.
-/
import Derived.Ground.MpProg
import Derived.Lib.AppendIntMem
import Derived.Lib.AtoiErrMem
import Derived.Shelf.LaysM
import Derived.Shelf.Pu.ErrVarParseUint
import Derived.Shelf.Pu.ParseUintPublic10
import Derived.Shelf.Small.Bits
import Derived.Shelf.Small.Strs
import Derived.Shelf.Small.Wraps
import Derived.Shelf.Strconv.AppendInt10
import Derived.Shelf.Strconv.AppendUint10
import Derived.Shelf.Strconv.Itoa0
import Derived.Shelf.Strconv.Itoa1
import Derived.Shelf.Strconv.Itoa2
import Derived.Shelf.Strconv.Itoa3
import Derived.Shelf.Strings.AsciiSet
import Derived.Shelf.Strings.Builder1
import Derived.Shelf.Strings.Builder2
import Derived.Shelf.Strings.Count
import Derived.Shelf.Strings.Cut
import Derived.Shelf.Strings.OnBuilder
import Derived.Shelf.Strings.Prefix
import Derived.Shelf.Strings.Replace
import Derived.Shelf.Strings.Runes
import Derived.Shelf.Strings.Search1
import Derived.Shelf.Strings.Search2
import Derived.Shelf.Strings.Search3
import Derived.Shelf.Strings.Shaped
import Derived.Shelf.Strings.Split
import Derived.Shelf.Strings.SplitShaped
import Derived.Shelf.Strings.Trim
import Derived.Test.YtbiplmbcdhjiaaaGreatDoorProg
import Derived.Test.YtbiplmbcdhjiaaaGreatDoorT05
set_option linter.unusedSimpArgs false
set_option linter.unusedVariables false
set_option maxHeartbeats 16000000
namespace Go.Proofs.YtbiplmbcdhjiaaaGreatDoor
open Go.Lib (hid)
end Go.Proofs.YtbiplmbcdhjiaaaGreatDoor
section
namespace Go.Proofs
open Go.Shelf
def Tryz.lays156_ren : Go.Shelf.Ren := ⟨fun | 156 => 34 | 165 => 71 | 166 => 72 | 169 => 73 | 240 => 125 | 241 => 126 | 276 => 163 | 277 => 164 | n => n, fun | 31 => 67 | 9 => 9 | 3 => 3 | 4 => 4 | 0 => 0 | 20 => 20 | 72 => 128 | 76 => 130 | 70 => 126 | 37 => 80 | 75 => 42 | 127 => 191 | 164 => 104 | 5 => 5 | 80 => 103 | n => n, fun | n => n⟩
theorem Tryz.lays156 : Go.Proofs.Lays.n156 Tryz.prog Tryz.lays156_ren := {
 mixed := by kernel_rfl
 f156 := Tryz.func34.trans (congrArg some (by kernel_rfl))
 f165 := Tryz.func71.trans (congrArg some (by kernel_rfl))
 f166 := Tryz.func72.trans (congrArg some (by kernel_rfl))
 f169 := Tryz.func73.trans (congrArg some (by kernel_rfl))
 f240 := Tryz.func125.trans (congrArg some (by kernel_rfl))
 f241 := Tryz.func126.trans (congrArg some (by kernel_rfl))
 f276 := Tryz.func163.trans (congrArg some (by kernel_rfl))
 f277 := Tryz.func164.trans (congrArg some (by kernel_rfl))
 t0 := Tryz.underlying0
 a0 := Tryz.isAgg0
 z0 := Tryz.sizeOf0
 v0 := Tryz.zeroValue0
 t3 := Tryz.underlying3
 a3 := Tryz.isAgg3
 z3 := Tryz.sizeOf3
 v3 := Tryz.zeroValue3
 t4 := Tryz.underlying4
 a4 := Tryz.isAgg4
 z4 := Tryz.sizeOf4
 v4 := Tryz.zeroValue4
 t9 := Tryz.underlying9
 a9 := Tryz.isAgg9
 z9 := Tryz.sizeOf9
 v9 := Tryz.zeroValue9
 t20 := Tryz.underlying20
 a20 := Tryz.isAgg20
 z20 := Tryz.sizeOf20
 v20 := Tryz.zeroValue20
 t31 := Tryz.underlying67
 a31 := Tryz.isAgg67
 z31 := Tryz.sizeOf67
 v31 := Tryz.zeroValue67
 t37 := Tryz.underlying80
 a37 := Tryz.isAgg80
 z37 := Tryz.sizeOf80
 v37 := Tryz.zeroValue80
 t70 := Tryz.underlying126
 a70 := Tryz.isAgg126
 z70 := Tryz.sizeOf126
 v70 := Tryz.zeroValue126
 t72 := Tryz.underlying128
 a72 := Tryz.isAgg128
 z72 := Tryz.sizeOf128
 v72 := Tryz.zeroValue128
 t75 := Tryz.underlying42
 a75 := Tryz.isAgg42
 z75 := Tryz.sizeOf42
 v75 := Tryz.zeroValue42
 t76 := Tryz.underlying130
 a76 := Tryz.isAgg130
 z76 := Tryz.sizeOf130
 v76 := Tryz.zeroValue130
 t127 := Tryz.underlying191
 a127 := Tryz.isAgg191
 z127 := Tryz.sizeOf191
 v127 := Tryz.zeroValue191
 t164 := Tryz.underlying104
 a164 := Tryz.isAgg104
 z164 := Tryz.sizeOf104
 v164 := Tryz.zeroValue104 }
theorem Tryz.Builder_Extra_156 : Builder.Extra Tryz.prog Tryz.lays156_ren := {
 sizeBuilder := by kernel_rfl
 liesBuilder := by kernel_rfl
 t5 := Tryz.underlying5
 a5 := Tryz.isAgg5
 z5 := Tryz.sizeOf5
 v5 := Tryz.zeroValue5
 infoByte := by kernel_rfl
 cellsByte := by kernel_rfl
 sizeByte := by kernel_rfl
 neB5 := by decide }
open Go.RowKit in
/-- strings.Join: "Join concatenates the elements of its first argument to create a single string. The separator string sep is placed between elements in the resulting string.": HOWEVER MANY ELEMENTS. Below the heap's end the world is as it was. (LAID: no walk: one application.) -/
theorem Tryz.strings_Join (bk o c : Nat) (xs : List ByteArray) (sep : ByteArray) (w : World) (hcells : ∀ (j : Nat) x, xs[j]? = some x → w.cell? ⟨bk, o + j, none⟩ = some (.string x)) (hbk : bk < w.heap.size) (hN : xs.length ≤ 140737488355328) (hcap : xs.length ≤ c) (hlen : (Lib.join (xs.map (·.data.toList)) sep.data.toList).length ≤ 140737488355328) :
 Calls Tryz.prog 34 #[.slice (some ⟨bk, o, none⟩) xs.length c, .string sep] w fun e w' => e = .returned (.string ⟨(Lib.join (xs.map (·.data.toList)) sep.data.toList).toArray⟩) ∧ Below w.heap.size w w' := Any.strings_Join Tryz.lays156 Tryz.Builder_Extra_156 bk o c xs sep w hcells hbk hN hcap hlen
def Tryz.lays106_ren : Go.Shelf.Ren := ⟨fun | 106 => 303 | 213 => 307 | 265 => 308 | n => n, fun | 9 => 9 | 3 => 3 | n => n, fun | n => n⟩
theorem Tryz.lays106 : Go.Proofs.Lays.n106 Tryz.prog Tryz.lays106_ren := {
 mixed := by kernel_rfl
 f106 := Tryz.func303.trans (congrArg some (by kernel_rfl))
 f213 := Tryz.func307.trans (congrArg some (by kernel_rfl))
 f265 := Tryz.func308.trans (congrArg some (by kernel_rfl))
 t3 := Tryz.underlying3
 a3 := Tryz.isAgg3
 z3 := Tryz.sizeOf3
 v3 := Tryz.zeroValue3
 t9 := Tryz.underlying9
 a9 := Tryz.isAgg9
 z9 := Tryz.sizeOf9
 v9 := Tryz.zeroValue9 }
open Go.RowKit in
/-- strings.Compare: "Compare returns an integer comparing two strings lexicographically. The result will be 0 if a == b, -1 if a < b, and +1 if a > b.": IT RETURNS 'Lib.compareBytes a b'; the world is as it was. (LAID: no walk: one application.) -/
theorem Tryz.strings_Compare (a b : ByteArray) (w : World) :
 Calls Tryz.prog 303 #[.string a, .string b] w fun e w' => e = .returned (.int .i64 (Lib.compareBytes a.data.toList b.data.toList)) ∧ w' = w := Any.strings_Compare Tryz.lays106 a b w
def Tryz.lays145_ren : Go.Shelf.Ren := ⟨fun | 145 => 157 | 220 => 185 | 219 => 195 | 217 => 222 | 225 => 223 | 224 => 224 | 267 => 225 | 266 => 252 | 314 => 253 | n => n, fun | 9 => 9 | 4 => 4 | 59 => 220 | 3 => 3 | 5 => 5 | 46 => 136 | 146 => 318 | 51 => 25 | n => n, fun | 1 => 2 | n => n⟩
theorem Tryz.lays145 : Go.Proofs.Lays.n145 Tryz.prog Tryz.lays145_ren := {
 mixed := by kernel_rfl
 f145 := Tryz.func157.trans (congrArg some (by kernel_rfl))
 f217 := Tryz.func222.trans (congrArg some (by kernel_rfl))
 f219 := Tryz.func195.trans (congrArg some (by kernel_rfl))
 f220 := Tryz.func185.trans (congrArg some (by kernel_rfl))
 f224 := Tryz.func224.trans (congrArg some (by kernel_rfl))
 f225 := Tryz.func223.trans (congrArg some (by kernel_rfl))
 f266 := Tryz.func252.trans (congrArg some (by kernel_rfl))
 f267 := Tryz.func225.trans (congrArg some (by kernel_rfl))
 f314 := Tryz.func253.trans (congrArg some (by kernel_rfl))
 t3 := Tryz.underlying3
 a3 := Tryz.isAgg3
 z3 := Tryz.sizeOf3
 v3 := Tryz.zeroValue3
 t4 := Tryz.underlying4
 a4 := Tryz.isAgg4
 z4 := Tryz.sizeOf4
 v4 := Tryz.zeroValue4
 t5 := Tryz.underlying5
 a5 := Tryz.isAgg5
 z5 := Tryz.sizeOf5
 v5 := Tryz.zeroValue5
 t9 := Tryz.underlying9
 a9 := Tryz.isAgg9
 z9 := Tryz.sizeOf9
 v9 := Tryz.zeroValue9
 t46 := Tryz.underlying136
 a46 := Tryz.isAgg136
 z46 := Tryz.sizeOf136
 v46 := Tryz.zeroValue136
 t51 := Tryz.underlying25
 a51 := Tryz.isAgg25
 z51 := Tryz.sizeOf25
 v51 := Tryz.zeroValue25
 t59 := Tryz.underlying220
 a59 := Tryz.isAgg220
 z59 := Tryz.sizeOf220
 v59 := Tryz.zeroValue220
 t146 := Tryz.underlying318
 a146 := Tryz.isAgg318
 z146 := Tryz.sizeOf318
 v146 := Tryz.zeroValue318
 g1 := by kernel_rfl }
open Go.RowKit Go.Lib in
/-- strings.Cut: "Cut slices s around the first instance of sep, returning the text before and after sep. The found result reports whether sep appears in s. If sep does not appear in s, cut returns s, "", false.": IT RETURNS 'Lib.cut s sep'; the world is as it was but for the count of draws. (LAID: no walk: one application.) -/
theorem Tryz.strings_Cut (s sep : ByteArray) (m : Int) (w : World) (hs : s.size < 4294967281) (hm : w.cell? ⟨2, 0, none⟩ = some (.int .i64 m)) :
 Calls Tryz.prog 157 #[.string s, .string sep] w fun e w' => e = .returned (.tuple #[.string ⟨(Lib.cut s.data.toList sep.data.toList).1.toArray⟩, .string ⟨(Lib.cut s.data.toList sep.data.toList).2.1.toArray⟩, .bool (Lib.cut s.data.toList sep.data.toList).2.2]) ∧ ∃ n, w' = w.drewN n := Any.strings_Cut Tryz.lays145 s sep m w hs hm
def Tryz.laysM288_ren : Go.Shelf.Ren := ⟨fun | 288 => 298 | 283 => 168 | 284 => 169 | 285 => 170 | 286 => 171 | 129 => 156 | 317 => 197 | 318 => 198 | 319 => 199 | 320 => 200 | 337 => 226 | 338 => 227 | n => n, fun | 37 => 80 | 53 => 24 | 3 => 3 | 4 => 4 | 9 => 9 | 171 => 232 | 0 => 0 | 173 => 234 | 212 => 265 | 51 => 25 | 5 => 5 | 20 => 20 | 213 => 266 | 46 => 136 | 232 => 320 | 233 => 321 | n => n, fun | 17 => 3 | 18 => 6 | 19 => 7 | n => n⟩
theorem Tryz.laysM288 : Go.Proofs.LaysM.n288 Tryz.prog Tryz.laysM288_ren := {
 mixed := by kernel_rfl
 f129 := Tryz.func156.trans (congrArg some (by kernel_rfl))
 f283 := Tryz.func168.trans (congrArg some (by kernel_rfl))
 f284 := Tryz.func169.trans (congrArg some (by kernel_rfl))
 f285 := Tryz.func170.trans (congrArg some (by kernel_rfl))
 f286 := Tryz.func171.trans (congrArg some (by kernel_rfl))
 f288 := Tryz.func298.trans (congrArg some (by kernel_rfl))
 f317 := Tryz.func197.trans (congrArg some (by kernel_rfl))
 f318 := Tryz.func198.trans (congrArg some (by kernel_rfl))
 f319 := Tryz.func199.trans (congrArg some (by kernel_rfl))
 f320 := Tryz.func200.trans (congrArg some (by kernel_rfl))
 f337 := Tryz.func226.trans (congrArg some (by kernel_rfl))
 f338 := Tryz.func227.trans (congrArg some (by kernel_rfl))
 t0 := Tryz.underlying0
 a0 := Tryz.isAgg0
 z0 := Tryz.sizeOf0
 v0 := Tryz.zeroValue0
 t3 := Tryz.underlying3
 a3 := Tryz.isAgg3
 z3 := Tryz.sizeOf3
 v3 := Tryz.zeroValue3
 t4 := Tryz.underlying4
 a4 := Tryz.isAgg4
 z4 := Tryz.sizeOf4
 v4 := Tryz.zeroValue4
 t5 := Tryz.underlying5
 a5 := Tryz.isAgg5
 z5 := Tryz.sizeOf5
 v5 := Tryz.zeroValue5
 t9 := Tryz.underlying9
 a9 := Tryz.isAgg9
 z9 := Tryz.sizeOf9
 v9 := Tryz.zeroValue9
 t20 := Tryz.underlying20
 a20 := Tryz.isAgg20
 z20 := Tryz.sizeOf20
 v20 := Tryz.zeroValue20
 t37 := Tryz.underlying80
 a37 := Tryz.isAgg80
 z37 := Tryz.sizeOf80
 v37 := Tryz.zeroValue80
 t46 := Tryz.underlying136
 a46 := Tryz.isAgg136
 z46 := Tryz.sizeOf136
 v46 := Tryz.zeroValue136
 t51 := Tryz.underlying25
 a51 := Tryz.isAgg25
 z51 := Tryz.sizeOf25
 v51 := Tryz.zeroValue25
 t53 := Tryz.underlying24
 a53 := Tryz.isAgg24
 z53 := Tryz.sizeOf24
 v53 := Tryz.zeroValue24
 t171 := Tryz.underlying232
 a171 := Tryz.isAgg232
 z171 := Tryz.sizeOf232
 v171 := Tryz.zeroValue232
 t173 := Tryz.underlying234
 a173 := Tryz.isAgg234
 z173 := Tryz.sizeOf234
 v173 := Tryz.zeroValue234
 t212 := Tryz.underlying265
 a212 := Tryz.isAgg265
 z212 := Tryz.sizeOf265
 v212 := Tryz.zeroValue265
 t213 := Tryz.underlying266
 a213 := Tryz.isAgg266
 z213 := Tryz.sizeOf266
 t232 := Tryz.underlying320
 a232 := Tryz.isAgg320
 z232 := Tryz.sizeOf320
 v232 := Tryz.zeroValue320
 t233 := Tryz.underlying321
 a233 := Tryz.isAgg321
 z233 := Tryz.sizeOf321
 v233 := Tryz.zeroValue321
 g17 := by kernel_rfl
 g18 := by kernel_rfl
 g19 := by kernel_rfl
 i0 := by kernel_rfl
 i3 := by kernel_rfl
 i4 := by kernel_rfl
 i5 := by kernel_rfl
 i9 := by kernel_rfl
 i20 := by kernel_rfl
 i37 := by kernel_rfl
 i46 := by kernel_rfl
 i51 := by kernel_rfl
 i53 := by kernel_rfl
 i171 := by kernel_rfl
 i173 := by kernel_rfl
 i212 := by kernel_rfl
 i232 := by kernel_rfl
 i233 := by kernel_rfl
 m17 := by kernel_rfl
 m18 := by kernel_rfl
 m19 := by kernel_rfl }
open Go.RowKit Go.Sort Go.Lib in
/-- internal/strconv.AppendUint(dst, i, 10), i BELOW 100: WHAT COMES BACK OWNS dst's CELLS AND, BEHIND THEM, i's DECIMAL NUMERAL. No table is read. Below the call's own blocks nothing has turned. (LAID: no walk: one application.) -/
theorem Tryz.internal_strconv_AppendUint_10_small (B n u : Nat) (hu : u < 100) (sv : Value) (xs : List Value) (w : World) (hown : w.ownsRow B 5 1 sv n xs) (hBw : B ≤ w.heap.size) (hlim : n + 20 ≤ 140737488355328) :
 Calls Tryz.prog 298 #[sv, .int .u64 u, .int .i64 10] w fun e w' => ∃ v', e = .returned v' ∧ w'.ownsRow B 5 1 v' (n + (Lib.decDigits u).length) (xs ++ Lib.byteCells (Lib.decDigits u)) ∧ Below B w w' ∧ Lib.OthersKept 5 none w w' := Any.internal_strconv_AppendUint_10_small Tryz.laysM288 B n u hu sv xs w hown hBw hlim
open Go.RowKit Go.Sort Go.Lib in
/-- internal/strconv.AppendUint(dst, i, 10), i FROM 100 ON: likewise; the digits are laid in an array of the call's own and appended. (LAID: no walk: one application.) -/
theorem Tryz.internal_strconv_AppendUint_10_big (B n u : Nat) (hu : 100 ≤ u) (hu64 : u < 18446744073709551616) (sv : Value) (xs : List Value) (w : World) (hown : w.ownsRow B 5 1 sv n xs) (hBw : B ≤ w.heap.size) (hlim : n + 20 ≤ 140737488355328) (htab : Lib.TabIs Tryz.prog w "internal/strconv.uint64pow10" .u64 Lib.pow10Tab) :
 Calls Tryz.prog 298 #[sv, .int .u64 u, .int .i64 10] w fun e w' => ∃ v', e = .returned v' ∧ w'.ownsRow B 5 1 v' (n + (Lib.decDigits u).length) (xs ++ Lib.byteCells (Lib.decDigits u)) ∧ Below B w w' ∧ Lib.OthersKept 5 none w w' := Any.internal_strconv_AppendUint_10_big Tryz.laysM288 B n u hu hu64 sv xs w hown hBw hlim htab
def Tryz.lays146_ren : Go.Shelf.Ren := ⟨fun | 146 => 158 | 221 => 186 | 268 => 213 | 138 => 165 | 143 => 166 | 195 => 193 | 197 => 167 | 218 => 194 | 219 => 195 | 260 => 196 | 217 => 222 | 225 => 223 | 224 => 224 | 267 => 225 | 266 => 252 | 314 => 253 | n => n, fun | 9 => 9 | 31 => 67 | 3 => 3 | 4 => 4 | 0 => 0 | 105 => 229 | 21 => 21 | 5 => 5 | 46 => 136 | 119 => 295 | 139 => 298 | 138 => 297 | 146 => 318 | 51 => 25 | n => n, fun | 1 => 2 | 3 => 4 | 4 => 5 | n => n⟩
theorem Tryz.lays146 : Go.Proofs.Lays.n146 Tryz.prog Tryz.lays146_ren := {
 mixed := by kernel_rfl
 f138 := Tryz.func165.trans (congrArg some (by kernel_rfl))
 f143 := Tryz.func166.trans (congrArg some (by kernel_rfl))
 f146 := Tryz.func158.trans (congrArg some (by kernel_rfl))
 f195 := Tryz.func193.trans (congrArg some (by kernel_rfl))
 f197 := Tryz.func167.trans (congrArg some (by kernel_rfl))
 f217 := Tryz.func222.trans (congrArg some (by kernel_rfl))
 f218 := Tryz.func194.trans (congrArg some (by kernel_rfl))
 f219 := Tryz.func195.trans (congrArg some (by kernel_rfl))
 f221 := Tryz.func186.trans (congrArg some (by kernel_rfl))
 f224 := Tryz.func224.trans (congrArg some (by kernel_rfl))
 f225 := Tryz.func223.trans (congrArg some (by kernel_rfl))
 f260 := Tryz.func196.trans (congrArg some (by kernel_rfl))
 f266 := Tryz.func252.trans (congrArg some (by kernel_rfl))
 f267 := Tryz.func225.trans (congrArg some (by kernel_rfl))
 f268 := Tryz.func213.trans (congrArg some (by kernel_rfl))
 f314 := Tryz.func253.trans (congrArg some (by kernel_rfl))
 t0 := Tryz.underlying0
 a0 := Tryz.isAgg0
 z0 := Tryz.sizeOf0
 v0 := Tryz.zeroValue0
 t3 := Tryz.underlying3
 a3 := Tryz.isAgg3
 z3 := Tryz.sizeOf3
 v3 := Tryz.zeroValue3
 t4 := Tryz.underlying4
 a4 := Tryz.isAgg4
 z4 := Tryz.sizeOf4
 v4 := Tryz.zeroValue4
 t5 := Tryz.underlying5
 a5 := Tryz.isAgg5
 z5 := Tryz.sizeOf5
 v5 := Tryz.zeroValue5
 t9 := Tryz.underlying9
 a9 := Tryz.isAgg9
 z9 := Tryz.sizeOf9
 v9 := Tryz.zeroValue9
 t21 := Tryz.underlying21
 a21 := Tryz.isAgg21
 z21 := Tryz.sizeOf21
 v21 := Tryz.zeroValue21
 t31 := Tryz.underlying67
 a31 := Tryz.isAgg67
 z31 := Tryz.sizeOf67
 v31 := Tryz.zeroValue67
 t46 := Tryz.underlying136
 a46 := Tryz.isAgg136
 z46 := Tryz.sizeOf136
 v46 := Tryz.zeroValue136
 t51 := Tryz.underlying25
 a51 := Tryz.isAgg25
 z51 := Tryz.sizeOf25
 v51 := Tryz.zeroValue25
 t105 := Tryz.underlying229
 a105 := Tryz.isAgg229
 z105 := Tryz.sizeOf229
 v105 := Tryz.zeroValue229
 t119 := Tryz.underlying295
 a119 := Tryz.isAgg295
 z119 := Tryz.sizeOf295
 t138 := Tryz.underlying297
 a138 := Tryz.isAgg297
 z138 := Tryz.sizeOf297
 v138 := Tryz.zeroValue297
 t139 := Tryz.underlying298
 a139 := Tryz.isAgg298
 z139 := Tryz.sizeOf298
 v139 := Tryz.zeroValue298
 t146 := Tryz.underlying318
 a146 := Tryz.isAgg318
 z146 := Tryz.sizeOf318
 v146 := Tryz.zeroValue318
 g1 := by kernel_rfl
 g3 := by kernel_rfl
 g4 := by kernel_rfl }
open Go.RowKit Go.Lib in
/-- strings.Split. (LAID: no walk: one application.) -/
theorem Tryz.strings_Split (s sep : ByteArray) (m : Int) (w : World) (hs : s.size < 4294967281) (hm : w.cell? ⟨2, 0, none⟩ = some (.int .i64 m)) (h1 : 1 ≤ sep.size) :
 Calls Tryz.prog 158 #[.string s, .string sep] w fun e w' =>
  e = .returned (.slice (some ⟨w.heap.size, 0, none⟩) (Lib.countB s sep + 1) (Lib.countB s sep + 1)) ∧ w' = w.alloc (.cells ((Lib.splitB sep 0 (Lib.countB s sep) s).map Value.string).toArray 9) := Any.strings_Split Tryz.lays146 (by kernel_rfl) s sep m w hs hm h1
def Tryz.laysPu14_ren : Go.Shelf.Ren := ⟨fun | 14 => 187 | 16 => 214 | 17 => 215 | 19 => 234 | 20 => 235 | 21 => 236 | 22 => 237 | 23 => 238 | 24 => 239 | 25 => 256 | 27 => 258 | 26 => 257 | 28 => 269 | 29 => 287 | 30 => 168 | 31 => 169 | 32 => 170 | 33 => 171 | 35 => 156 | 34 => 197 | 36 => 198 | 37 => 199 | 38 => 200 | 39 => 226 | 40 => 227 | n => n, fun | 9 => 9 | 3 => 3 | 22 => 24 | 24 => 42 | 25 => 200 | 4 => 4 | 34 => 303 | 5 => 5 | 36 => 136 | 37 => 80 | 0 => 0 | 39 => 305 | 21 => 21 | 44 => 325 | 47 => 191 | 50 => 339 | 48 => 337 | 2 => 2 | 52 => 232 | 55 => 234 | 59 => 265 | 60 => 25 | 20 => 20 | 61 => 266 | 65 => 320 | 66 => 321 | 67 => 103 | n => n, fun | 0 => 8 | 1 => 9 | 2 => 3 | 3 => 6 | 4 => 7 | n => n⟩
theorem Tryz.laysPu14 : Go.Proofs.LaysPu.n14 Tryz.prog Tryz.laysPu14_ren := {
 mixed := by kernel_rfl
 f14 := Tryz.func187.trans (congrArg some (by kernel_rfl))
 f16 := Tryz.func214.trans (congrArg some (by kernel_rfl))
 f17 := Tryz.func215.trans (congrArg some (by kernel_rfl))
 f19 := Tryz.func234.trans (congrArg some (by kernel_rfl))
 f20 := Tryz.func235.trans (congrArg some (by kernel_rfl))
 f21 := Tryz.func236.trans (congrArg some (by kernel_rfl))
 f22 := Tryz.func237.trans (congrArg some (by kernel_rfl))
 f23 := Tryz.func238.trans (congrArg some (by kernel_rfl))
 f24 := Tryz.func239.trans (congrArg some (by kernel_rfl))
 f25 := Tryz.func256.trans (congrArg some (by kernel_rfl))
 f26 := Tryz.func257.trans (congrArg some (by kernel_rfl))
 f27 := Tryz.func258.trans (congrArg some (by kernel_rfl))
 f28 := Tryz.func269.trans (congrArg some (by kernel_rfl))
 f29 := Tryz.func287.trans (congrArg some (by kernel_rfl))
 f30 := Tryz.func168.trans (congrArg some (by kernel_rfl))
 f31 := Tryz.func169.trans (congrArg some (by kernel_rfl))
 f32 := Tryz.func170.trans (congrArg some (by kernel_rfl))
 f33 := Tryz.func171.trans (congrArg some (by kernel_rfl))
 f34 := Tryz.func197.trans (congrArg some (by kernel_rfl))
 f35 := Tryz.func156.trans (congrArg some (by kernel_rfl))
 f36 := Tryz.func198.trans (congrArg some (by kernel_rfl))
 f37 := Tryz.func199.trans (congrArg some (by kernel_rfl))
 f38 := Tryz.func200.trans (congrArg some (by kernel_rfl))
 f39 := Tryz.func226.trans (congrArg some (by kernel_rfl))
 f40 := Tryz.func227.trans (congrArg some (by kernel_rfl))
 t0 := Tryz.underlying0
 a0 := Tryz.isAgg0
 z0 := Tryz.sizeOf0
 v0 := Tryz.zeroValue0
 i0 := by kernel_rfl
 t2 := Tryz.underlying2
 a2 := Tryz.isAgg2
 z2 := Tryz.sizeOf2
 v2 := Tryz.zeroValue2
 i2 := by kernel_rfl
 t3 := Tryz.underlying3
 a3 := Tryz.isAgg3
 z3 := Tryz.sizeOf3
 v3 := Tryz.zeroValue3
 i3 := by kernel_rfl
 t4 := Tryz.underlying4
 a4 := Tryz.isAgg4
 z4 := Tryz.sizeOf4
 v4 := Tryz.zeroValue4
 i4 := by kernel_rfl
 t5 := Tryz.underlying5
 a5 := Tryz.isAgg5
 z5 := Tryz.sizeOf5
 v5 := Tryz.zeroValue5
 i5 := by kernel_rfl
 t9 := Tryz.underlying9
 a9 := Tryz.isAgg9
 z9 := Tryz.sizeOf9
 v9 := Tryz.zeroValue9
 i9 := by kernel_rfl
 t20 := Tryz.underlying20
 a20 := Tryz.isAgg20
 z20 := Tryz.sizeOf20
 v20 := Tryz.zeroValue20
 i20 := by kernel_rfl
 t21 := Tryz.underlying21
 a21 := Tryz.isAgg21
 z21 := Tryz.sizeOf21
 v21 := Tryz.zeroValue21
 i21 := by kernel_rfl
 t22 := Tryz.underlying24
 a22 := Tryz.isAgg24
 z22 := Tryz.sizeOf24
 v22 := Tryz.zeroValue24
 i22 := by kernel_rfl
 t24 := Tryz.underlying42
 a24 := Tryz.isAgg42
 z24 := Tryz.sizeOf42
 v24 := Tryz.zeroValue42
 i24 := by kernel_rfl
 t25 := Tryz.underlying200
 a25 := Tryz.isAgg200
 z25 := Tryz.sizeOf200
 v25 := Tryz.zeroValue200
 i25 := by kernel_rfl
 t34 := Tryz.underlying303
 a34 := Tryz.isAgg303
 z34 := Tryz.sizeOf303
 v34 := Tryz.zeroValue303
 i34 := by kernel_rfl
 c34 := by kernel_rfl
 t36 := Tryz.underlying136
 a36 := Tryz.isAgg136
 z36 := Tryz.sizeOf136
 v36 := Tryz.zeroValue136
 i36 := by kernel_rfl
 t37 := Tryz.underlying80
 a37 := Tryz.isAgg80
 z37 := Tryz.sizeOf80
 v37 := Tryz.zeroValue80
 i37 := by kernel_rfl
 t39 := Tryz.underlying305
 a39 := Tryz.isAgg305
 z39 := Tryz.sizeOf305
 v39 := Tryz.zeroValue305
 i39 := by kernel_rfl
 t44 := Tryz.underlying325
 a44 := Tryz.isAgg325
 z44 := Tryz.sizeOf325
 v44 := Tryz.zeroValue325
 i44 := by kernel_rfl
 t47 := Tryz.underlying191
 a47 := Tryz.isAgg191
 z47 := Tryz.sizeOf191
 v47 := Tryz.zeroValue191
 i47 := by kernel_rfl
 t48 := Tryz.underlying337
 a48 := Tryz.isAgg337
 z48 := Tryz.sizeOf337
 v48 := Tryz.zeroValue337
 i48 := by kernel_rfl
 t50 := Tryz.underlying339
 a50 := Tryz.isAgg339
 z50 := Tryz.sizeOf339
 v50 := Tryz.zeroValue339
 i50 := by kernel_rfl
 t52 := Tryz.underlying232
 a52 := Tryz.isAgg232
 z52 := Tryz.sizeOf232
 v52 := Tryz.zeroValue232
 i52 := by kernel_rfl
 t55 := Tryz.underlying234
 a55 := Tryz.isAgg234
 z55 := Tryz.sizeOf234
 v55 := Tryz.zeroValue234
 i55 := by kernel_rfl
 t59 := Tryz.underlying265
 a59 := Tryz.isAgg265
 z59 := Tryz.sizeOf265
 v59 := Tryz.zeroValue265
 i59 := by kernel_rfl
 t60 := Tryz.underlying25
 a60 := Tryz.isAgg25
 z60 := Tryz.sizeOf25
 v60 := Tryz.zeroValue25
 i60 := by kernel_rfl
 t61 := Tryz.underlying266
 a61 := Tryz.isAgg266
 z61 := Tryz.sizeOf266
 t65 := Tryz.underlying320
 a65 := Tryz.isAgg320
 z65 := Tryz.sizeOf320
 v65 := Tryz.zeroValue320
 i65 := by kernel_rfl
 t66 := Tryz.underlying321
 a66 := Tryz.isAgg321
 z66 := Tryz.sizeOf321
 v66 := Tryz.zeroValue321
 i66 := by kernel_rfl
 t67 := Tryz.underlying103
 a67 := Tryz.isAgg103
 z67 := Tryz.sizeOf103
 v67 := Tryz.zeroValue103
 i67 := by kernel_rfl
 g0 := by kernel_rfl
 m0 := by kernel_rfl
 g1 := by kernel_rfl
 m1 := by kernel_rfl
 g2 := by kernel_rfl
 m2 := by kernel_rfl
 g3 := by kernel_rfl
 m3 := by kernel_rfl
 g4 := by kernel_rfl
 m4 := by kernel_rfl }
open Go.RowKit in
/-- strconv.ParseUint(s, 10, 32), AT EVERY STRING THAT SPELLS A uint32 ('Lib.parseUintB 32 s.data.toList = .ok u'): u, AND NO ERROR. (LAID: no walk: one application.) -/
theorem Tryz.strconv_ParseUint_10_at32_ok (s : ByteArray) (hmax : s.size ≤ 9223372036854775806) (u : Nat) (h : Lib.parseUintB 32 s.data.toList = .ok u) (w : World) :
 Calls Tryz.prog 187 #[.string s, .int .i64 10, .int .i64 32] w fun e w' => e = .returned (.tuple #[.int .u64 u, .nilIface]) ∧ (w' = w ∨ w' = Lib.bytesWorld w 5 s) := Any.strconv_ParseUint_10_at32_ok Tryz.laysPu14 s hmax u h w
open Go.RowKit in
/-- strconv.ParseUint(s, 10, 32), AT EVERY STRING THAT IS NO ROW OF DECIMAL DIGITS (a sign is a fault): 0, AND AN ERROR THAT IS NOT nil: a *NumError in a new block N: {Func: "ParseUint", Num: s's bytes, Err: what the variable ErrSyntax holds}. Of what was there nothing has turned. (LAID: no walk: one application.) -/
theorem Tryz.strconv_ParseUint_10_at32_bad (s : ByteArray) (hlim : s.size ≤ 281474976710656) (r : Lib.NumEnd Nat) (hr : Lib.parseUintB 32 s.data.toList = r) (hno : ∀ u, r ≠ .ok u) (hnr : r ≠ .range) (ev : Value) (w : World) (hv : w.cell? ⟨8, 0, none⟩ = some ev) (hev : ev = .nilIface ∨ ∃ te pe, ev = .iface te pe) :
 Calls Tryz.prog 187 #[.string s, .int .i64 10, .int .i64 32] w fun e w' => ∃ N, e = .returned (.tuple #[.int .u64 0, .iface 305 (.pointer (some ⟨N, 0, none⟩))]) ∧ w.heap.size ≤ N ∧ w'.heap[N]? = some (.cells #[.string ⟨#[80, 97, 114, 115, 101, 85, 105, 110, 116]⟩, .string s, ev] 325 (0, 0)) ∧ Below w.heap.size w w' := by
 cases r with
 | ok u => exact absurd rfl (hno u)
 | range => exact absurd rfl hnr
 | _ => exact Any.strconv_ParseUint_10_at32_syntax Tryz.laysPu14 s hlim hr ev w hv hev
open Go.RowKit in
/-- strconv.ParseUint(s, 10, 32), AT EVERY NUMERAL THAT NO uint32 HOLDS: THE GREATEST uint32, AND AN ERROR THAT IS NOT nil: a *NumError in a new block N: {Func: "ParseUint", Num: s's bytes, Err: what the variable ErrRange holds}. Of what was there nothing has turned. (LAID: no walk: one application.) -/
theorem Tryz.strconv_ParseUint_10_at32_range (s : ByteArray) (hlim : s.size ≤ 281474976710656) (h : Lib.parseUintB 32 s.data.toList = .range) (ev : Value) (w : World) (hv : w.cell? ⟨9, 0, none⟩ = some ev) (hev : ev = .nilIface ∨ ∃ te pe, ev = .iface te pe) :
 Calls Tryz.prog 187 #[.string s, .int .i64 10, .int .i64 32] w fun e w' => ∃ N, e = .returned (.tuple #[.int .u64 4294967295, .iface 305 (.pointer (some ⟨N, 0, none⟩))]) ∧ w.heap.size ≤ N ∧ w'.heap[N]? = some (.cells #[.string ⟨#[80, 97, 114, 115, 101, 85, 105, 110, 116]⟩, .string s, ev] 325 (0, 0)) ∧ Below w.heap.size w w' := Any.strconv_ParseUint_10_at32_range Tryz.laysPu14 s hlim h ev w hv hev
end Go.Proofs
end
namespace Go.Proofs.YtbiplmbcdhjiaaaGreatDoor
open Go.Lib (hid)
section
open Go.RowKit
namespace VerC
open VerM StrC TextR
def isErr (v : Value) : Prop := v = .nilIface ∨ ∃ t p, v = .iface t p
structure Vw (w : World) : Prop where
 max : ∃ m : Int, w.cell? ⟨2, 0, none⟩ = some (.int .i64 m)
 syn : ∃ v, w.cell? ⟨8, 0, none⟩ = some v ∧ isErr v
 ran : ∃ v, w.cell? ⟨9, 0, none⟩ = some v ∧ isErr v
 pow : Lib.TabIs Tryz.prog w "internal/strconv.uint64pow10" .u64 Lib.pow10Tab
theorem Vw.gr {w w' : World} (h : Vw w) (g : Below w.heap.size w w') : Vw w' := by
 obtain ⟨⟨m, hm⟩, ⟨v, hv, ev⟩, ⟨u, hu, eu⟩, hp⟩ := h
 refine ⟨⟨m, by rw [g.cell (World.block_lt_of_cell? _ _ hm)]; exact hm⟩, ⟨v, by rw [g.cell (World.block_lt_of_cell? _ _ hv)]; exact hv, ev⟩, ⟨u, by rw [g.cell (World.block_lt_of_cell? _ _ hu)]; exact hu, eu⟩, ?_⟩
 exact Lib.tabBelow_of_tabIs hp _ g
theorem zff (l : B) : (str l).data.toList = l := by simp [str]
theorem zfg {l : B} : Lib.cut l [45] = (head l, l.drop ((head l).length + 1), decide (ids l ≠ [])) := by
 unfold Lib.cut
 rcases firstAt 45 l with h | ⟨x, r, e, hx⟩
 · have e1 := zag h
   rw [if_neg (by rw [e1]; decide), (zak h).1, (zak h).2]
   simp
 · subst e
   have e1 := zah r hx
   rw [if_pos (by rw [e1]; omega), (zal r hx).1, (zal r hx).2, e1]
   have : pieces 46 r ≠ [] := zaa 46 r
   simp [this]
theorem zfh {l : B} (h : ids l ≠ []) : pieces 46 (l.drop ((head l).length + 1)) = ids l := by
 rcases firstAt 45 l with h2 | ⟨x, r, e, hx⟩
 · exact absurd (zak h2).2 h
 · subst e
   rw [(zal r hx).1, (zal r hx).2, ← List.drop_drop]
   simp
theorem zfi (l : B) (w : World) (hv : Vw w) (hl : l.length ≤ 128) :
 Calls Tryz.prog 157 #[.string (str l), .string ⟨#[45]⟩] w fun e w' => e = .returned (.tuple #[.string (str (head l)), .string (str (l.drop ((head l).length + 1))), .bool (decide (ids l ≠ []))]) ∧ ∃ n, w' = w.drewN n := by
 obtain ⟨m, hm⟩ := hv.max
 have h := Tryz.strings_Cut (str l) ⟨#[45]⟩ m w (by rw [zbl]; omega) hm
 rw [zff, show (⟨#[45]⟩ : ByteArray).data.toList = [45] from rfl, zfg] at h
 exact h
theorem zfj (l : B) : (pieces 46 l).length = Lib.countB (str l) ⟨#[46]⟩ + 1 := by
 have h := Lib.splitB_all (⟨#[46]⟩ : ByteArray) (by decide) 0 _ (str l) rfl
 have h2 := congrArg List.length (Lib.splitB_data ⟨#[46]⟩ 0 (Lib.countB (str l) ⟨#[46]⟩) (str l))
 rw [List.length_map, h] at h2
 rw [h2]
 rw [zff, ← zaj]
 show _ = (Lib.split l [46]).length
 unfold Lib.split
 have e : Lib.countB (str l) ⟨#[46]⟩ = Lib.count l [46] := by unfold Lib.countB; rw [zff]
 first | rw [e]; rfl | rfl
theorem zfk (l : B) : (Lib.splitB ⟨#[46]⟩ 0 (Lib.countB (str l) ⟨#[46]⟩) (str l)).map Value.string = (pieces 46 l).map (fun s => Value.string (str s)) := by
 have h2 := Lib.splitB_data ⟨#[46]⟩ 0 (Lib.countB (str l) ⟨#[46]⟩) (str l)
 rw [zff, show (⟨#[46]⟩ : ByteArray).data.toList = [46] from rfl] at h2
 have h3 : (Lib.splitB ⟨#[46]⟩ 0 (Lib.countB (str l) ⟨#[46]⟩) (str l)).map (·.data.toList) = pieces 46 l := by
  rw [h2, ← zaj]
  unfold Lib.split Lib.countB
  rw [zff]
 rw [← h3, List.map_map]
 apply List.map_congr_left
 intro s _
 simp [str]
theorem zfl (l : B) (w : World) (hv : Vw w) (hl : l.length ≤ 1000000) :
 Calls Tryz.prog 158 #[.string (str l), .string ⟨#[46]⟩] w fun e w' => e = .returned (.slice (some ⟨w.heap.size, 0, none⟩) (pieces 46 l).length (pieces 46 l).length) ∧ w' = w.alloc (.cells ((pieces 46 l).map (fun s => Value.string (str s))).toArray 9) := by
 obtain ⟨m, hm⟩ := hv.max
 have h := Tryz.strings_Split (str l) ⟨#[46]⟩ m w (by rw [zbl]; omega) hm (by decide)
 rw [zfk] at h
 refine h.mono fun e w' ⟨he, hw⟩ => ⟨?_, hw⟩
 rw [he, zfj]
theorem zfm (l : B) (w : World) (hl : l.length ≤ 1000000) : Txs (w.alloc (.cells ((pieces 46 l).map (fun s => Value.string (str s))).toArray 9)) (some ⟨w.heap.size, 0, none⟩) (pieces 46 l).length (pieces 46 l) := by
 have h1 := zad 46 l
 refine ⟨Nat.le_refl _, fun s hs => ?_, by omega, fun h0 => ⟨w.heap.size, 0, rfl, fun i hi => ?_⟩⟩
 · have := zae 46 l s hs; omega
 · have hn := heap_alloc_new w (.cells ((pieces 46 l).map (fun s => Value.string (str s))).toArray 9)
   rw [Nat.zero_add]
   unfold World.cell?
   rw [hn]
   simp [hi]
theorem zfn (l : B) (w : World) (hv : Vw w) (hl : l.length ≤ 1000000) :
 Calls Tryz.prog 187 #[.string (str l), .int .i64 10, .int .i64 32] w fun e w' => (∃ (n : Nat) (q : Value), e = .returned (.tuple #[.int .u64 n, q]) ∧ (∀ u, Lib.parseUintB 32 l = .ok u → n = u ∧ q = .nilIface) ∧ ((∀ u, Lib.parseUintB 32 l ≠ .ok u) → ∃ t p, q = .iface t p)) ∧ Below w.heap.size w w' := by
 have hd : (str l).data.toList = l := zff l
 cases hp : Lib.parseUintB 32 l with
 | ok u =>
  refine (Tryz.strconv_ParseUint_10_at32_ok (str l) (by rw [zbl]; omega) u (by rw [hd]; exact hp) w).mono fun e w' ⟨he, hw⟩ => ⟨⟨u, _, he, ⟨fun u2 h2 => ?_, fun h => absurd rfl (h u)⟩⟩, ?_⟩
  · cases h2; exact ⟨rfl, rfl⟩
  · rcases hw with rfl | rfl
    · exact Below.refl _ _
    · exact Lib.bytesWorld_below _ _ _
 | range =>
  obtain ⟨v, hc, hev⟩ := hv.ran
  refine (Tryz.strconv_ParseUint_10_at32_range (str l) (by rw [zbl]; omega) (by rw [hd]; exact hp) v w hc hev).mono fun e w' ⟨N, he, _, _, hb⟩ => ⟨⟨4294967295, _, he, ⟨fun u2 h2 => (by cases h2), fun _ => ⟨_, _, rfl⟩⟩⟩, hb⟩
 | _ =>
  obtain ⟨v, hc, hev⟩ := hv.syn
  refine (Tryz.strconv_ParseUint_10_at32_bad (str l) (by rw [zbl]; omega) (Lib.parseUintB 32 l) (by rw [hd]) (fun u h => by rw [hp] at h; cases h) (fun h => by rw [hp] at h; cases h) v w hc hev).mono fun e w' ⟨N, he, _, _, hb⟩ => ⟨⟨0, _, he, ⟨fun u2 h2 => (by cases h2), fun _ => ⟨_, _, rfl⟩⟩⟩, hb⟩
/-- package version's number -/
theorem zfo (l : B) (w : World) (hv : Vw w) (hl : l.length ≤ 1000000) :
 Calls Tryz.prog 159 #[.string (str l)] w fun e w' => (∃ x : Int, e = .returned (.tuple #[.int .u32 x, .bool (pnum l).isSome]) ∧ ∀ n, pnum l = some n → x = n) ∧ Below w.heap.size w w' := by
 have HP := hid (zfn l w hv hl)
 have HQ := hid (fun w => zep l w (by omega))
 by_cases hok : ∃ u, Lib.parseUintB 32 l = .ok u
 · obtain ⟨u, hu⟩ := hok
   have HE := hid (zel hu)
   have hu2 := ((zek l u).1 hu).2.1
   have hu3 := ((zek l u).1 hu).2.2
   have hw : IntKind.u32.wrap (u : Int) = u := by simp [IntKind.wrap, IntKind.bits, IntKind.signed]; omega
   have HU := hid hu
   generalize padded l = pd at *
   clear hv hu2 hu3 hu
   go_enter Tryz.func159, Tryz.ntmps159
   go_wp2_with (go_at_call 187; refine HP.out.mono ?_; rintro e w1 ⟨⟨n, q, rfl, h1, h2⟩, hb⟩; refine Hid.out ?_)
   refine hid ?_
   obtain ⟨rfl, rfl⟩ := h1 u HU.out
   have HB := hid hb
   clear h1 h2 hb HP
   go_wp2_with (go_at_call 188; refine (HQ.out _).mono ?_; rintro e w2 ⟨rfl, rfl⟩)
   go_ret2
   refine ⟨⟨(n : Int), ?_, fun m hm => ?_⟩, HB.out⟩
   · rw [HE.out]; cases pd <;> rfl
   · rw [HE.out] at hm
     cases pd
     · simp at hm; rw [hm]
     · simp at hm
 · have HNO := hid (fun u h => hok ⟨u, h⟩)
   have HE := hid (zem (fun u h => hok ⟨u, h⟩))
   clear hv hok
   go_enter Tryz.func159, Tryz.ntmps159
   go_wp2_with (go_at_call 187; refine HP.out.mono ?_; rintro e w1 ⟨⟨n, q, rfl, h1, h2⟩, hb⟩; refine Hid.out ?_)
   refine hid ?_
   obtain ⟨tq, pq, rfl⟩ := h2 (fun u h => HNO.out u h)
   have HB := hid hb
   clear h1 h2 hb HP
   go_wp2_with (go_at_call 188; refine (HQ.out _).mono ?_; rintro e w2 ⟨rfl, rfl⟩)
   go_ret2
   exact ⟨⟨_, by rw [HE.out]; rfl, fun m hm => (by rw [HE.out] at hm; cases hm)⟩, HB.out⟩
end VerC
end
end Go.Proofs.YtbiplmbcdhjiaaaGreatDoor
