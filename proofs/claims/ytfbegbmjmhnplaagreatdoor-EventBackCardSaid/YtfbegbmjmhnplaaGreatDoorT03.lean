/-
  What the proof of EvBoth stands on, part 3.
-/
import Derived.Ground.MpProg
import Derived.Lib.AppendIntMem
import Derived.Lib.AtoiErrMem
import Derived.Shelf.LaysM
import Derived.Shelf.Pu.ErrVarParseUint
import Derived.Shelf.Pu.ParseUintPublic10
import Derived.Shelf.Small.Bits
import Derived.Shelf.Small.Strs
import Derived.Shelf.Small.Utf8
import Derived.Shelf.Small.Wraps
import Derived.Shelf.Strconv.AppendInt10
import Derived.Shelf.Strconv.AppendUint10
import Derived.Shelf.Strconv.Itoa0
import Derived.Shelf.Strconv.Itoa1
import Derived.Shelf.Strconv.Itoa2
import Derived.Shelf.Strconv.Itoa3
import Derived.Shelf.Strings.AsciiSet
import Derived.Shelf.Strings.Builder1
import Derived.Shelf.Strings.Builder2
import Derived.Shelf.Strings.Count
import Derived.Shelf.Strings.Cut
import Derived.Shelf.Strings.OnBuilder
import Derived.Shelf.Strings.Prefix
import Derived.Shelf.Strings.Replace
import Derived.Shelf.Strings.Runes
import Derived.Shelf.Strings.Search1
import Derived.Shelf.Strings.Search2
import Derived.Shelf.Strings.Search3
import Derived.Shelf.Strings.Split
import Derived.Shelf.Strings.SplitShaped
import Derived.Shelf.Strings.Trim
import Derived.Test.YtfbegbmjmhnplaaGreatDoorProg
import Derived.Test.YtfbegbmjmhnplaaGreatDoorT02
set_option linter.unusedSimpArgs false
set_option linter.unusedVariables false
set_option maxHeartbeats 16000000
namespace Go.Proofs.YtfbegbmjmhnplaaGreatDoor
open Go.Lib (hid)
end Go.Proofs.YtfbegbmjmhnplaaGreatDoor
section
namespace Go.Proofs
open Go.Shelf
def Tryz.lays156_ren : Go.Shelf.Ren := ⟨fun | 156 => 27 | 165 => 66 | 166 => 67 | 169 => 68 | 240 => 109 | 241 => 110 | 276 => 135 | 277 => 136 | n => n, fun | 31 => 52 | 9 => 9 | 3 => 3 | 4 => 4 | 0 => 0 | 20 => 20 | 72 => 117 | 76 => 119 | 70 => 115 | 37 => 108 | 75 => 40 | 127 => 158 | 164 => 181 | 5 => 5 | 80 => 121 | n => n, fun | n => n⟩
theorem Tryz.lays156 : Go.Proofs.Lays.n156 Tryz.prog Tryz.lays156_ren := {
 mixed := by kernel_rfl
 f156 := Tryz.func27.trans (congrArg some (by kernel_rfl))
 f165 := Tryz.func66.trans (congrArg some (by kernel_rfl))
 f166 := Tryz.func67.trans (congrArg some (by kernel_rfl))
 f169 := Tryz.func68.trans (congrArg some (by kernel_rfl))
 f240 := Tryz.func109.trans (congrArg some (by kernel_rfl))
 f241 := Tryz.func110.trans (congrArg some (by kernel_rfl))
 f276 := Tryz.func135.trans (congrArg some (by kernel_rfl))
 f277 := Tryz.func136.trans (congrArg some (by kernel_rfl))
 t0 := Tryz.underlying0
 a0 := Tryz.isAgg0
 z0 := Tryz.sizeOf0
 v0 := Tryz.zeroValue0
 t3 := Tryz.underlying3
 a3 := Tryz.isAgg3
 z3 := Tryz.sizeOf3
 v3 := Tryz.zeroValue3
 t4 := Tryz.underlying4
 a4 := Tryz.isAgg4
 z4 := Tryz.sizeOf4
 v4 := Tryz.zeroValue4
 t9 := Tryz.underlying9
 a9 := Tryz.isAgg9
 z9 := Tryz.sizeOf9
 v9 := Tryz.zeroValue9
 t20 := Tryz.underlying20
 a20 := Tryz.isAgg20
 z20 := Tryz.sizeOf20
 v20 := Tryz.zeroValue20
 t31 := Tryz.underlying52
 a31 := Tryz.isAgg52
 z31 := Tryz.sizeOf52
 v31 := Tryz.zeroValue52
 t37 := Tryz.underlying108
 a37 := Tryz.isAgg108
 z37 := Tryz.sizeOf108
 v37 := Tryz.zeroValue108
 t70 := Tryz.underlying115
 a70 := Tryz.isAgg115
 z70 := Tryz.sizeOf115
 v70 := Tryz.zeroValue115
 t72 := Tryz.underlying117
 a72 := Tryz.isAgg117
 z72 := Tryz.sizeOf117
 v72 := Tryz.zeroValue117
 t75 := Tryz.underlying40
 a75 := Tryz.isAgg40
 z75 := Tryz.sizeOf40
 v75 := Tryz.zeroValue40
 t76 := Tryz.underlying119
 a76 := Tryz.isAgg119
 z76 := Tryz.sizeOf119
 v76 := Tryz.zeroValue119
 t127 := Tryz.underlying158
 a127 := Tryz.isAgg158
 z127 := Tryz.sizeOf158
 v127 := Tryz.zeroValue158
 t164 := Tryz.underlying181
 a164 := Tryz.isAgg181
 z164 := Tryz.sizeOf181
 v164 := Tryz.zeroValue181 }
theorem Tryz.Builder_Extra_156 : Builder.Extra Tryz.prog Tryz.lays156_ren := {
 sizeBuilder := by kernel_rfl
 liesBuilder := by kernel_rfl
 t5 := Tryz.underlying5
 a5 := Tryz.isAgg5
 z5 := Tryz.sizeOf5
 v5 := Tryz.zeroValue5
 infoByte := by kernel_rfl
 cellsByte := by kernel_rfl
 sizeByte := by kernel_rfl
 neB5 := by decide }
open Go.RowKit in
/-- strings.Join: "Join concatenates the elements of its first argument to create a single string. The separator string sep is placed between elements in the resulting string.": HOWEVER MANY ELEMENTS. Below the heap's end the world is as it was. (LAID: no walk: one application.) -/
theorem Tryz.strings_Join (bk o c : Nat) (xs : List ByteArray) (sep : ByteArray) (w : World) (hcells : ∀ (j : Nat) x, xs[j]? = some x → w.cell? ⟨bk, o + j, none⟩ = some (.string x)) (hbk : bk < w.heap.size) (hN : xs.length ≤ 140737488355328) (hcap : xs.length ≤ c) (hlen : (Lib.join (xs.map (·.data.toList)) sep.data.toList).length ≤ 140737488355328) :
 Calls Tryz.prog 27 #[.slice (some ⟨bk, o, none⟩) xs.length c, .string sep] w fun e w' => e = .returned (.string ⟨(Lib.join (xs.map (·.data.toList)) sep.data.toList).toArray⟩) ∧ Below w.heap.size w w' := Any.strings_Join Tryz.lays156 Tryz.Builder_Extra_156 bk o c xs sep w hcells hbk hN hcap hlen
def Tryz.lays106_ren : Go.Shelf.Ren := ⟨fun | 106 => 294 | 213 => 298 | 265 => 299 | n => n, fun | 9 => 9 | 3 => 3 | n => n, fun | n => n⟩
theorem Tryz.lays106 : Go.Proofs.Lays.n106 Tryz.prog Tryz.lays106_ren := {
 mixed := by kernel_rfl
 f106 := Tryz.func294.trans (congrArg some (by kernel_rfl))
 f213 := Tryz.func298.trans (congrArg some (by kernel_rfl))
 f265 := Tryz.func299.trans (congrArg some (by kernel_rfl))
 t3 := Tryz.underlying3
 a3 := Tryz.isAgg3
 z3 := Tryz.sizeOf3
 v3 := Tryz.zeroValue3
 t9 := Tryz.underlying9
 a9 := Tryz.isAgg9
 z9 := Tryz.sizeOf9
 v9 := Tryz.zeroValue9 }
open Go.RowKit in
/-- strings.Compare: "Compare returns an integer comparing two strings lexicographically. The result will be 0 if a == b, -1 if a < b, and +1 if a > b.": IT RETURNS 'Lib.compareBytes a b'; the world is as it was. (LAID: no walk: one application.) -/
theorem Tryz.strings_Compare (a b : ByteArray) (w : World) :
 Calls Tryz.prog 294 #[.string a, .string b] w fun e w' => e = .returned (.int .i64 (Lib.compareBytes a.data.toList b.data.toList)) ∧ w' = w := Any.strings_Compare Tryz.lays106 a b w
def Tryz.lays145_ren : Go.Shelf.Ren := ⟨fun | 145 => 126 | 220 => 161 | 219 => 188 | 217 => 211 | 225 => 212 | 224 => 213 | 267 => 214 | 266 => 241 | 314 => 242 | n => n, fun | 9 => 9 | 4 => 4 | 59 => 173 | 3 => 3 | 5 => 5 | 46 => 107 | 146 => 297 | 51 => 25 | n => n, fun | 1 => 1 | n => n⟩
theorem Tryz.lays145 : Go.Proofs.Lays.n145 Tryz.prog Tryz.lays145_ren := {
 mixed := by kernel_rfl
 f145 := Tryz.func126.trans (congrArg some (by kernel_rfl))
 f217 := Tryz.func211.trans (congrArg some (by kernel_rfl))
 f219 := Tryz.func188.trans (congrArg some (by kernel_rfl))
 f220 := Tryz.func161.trans (congrArg some (by kernel_rfl))
 f224 := Tryz.func213.trans (congrArg some (by kernel_rfl))
 f225 := Tryz.func212.trans (congrArg some (by kernel_rfl))
 f266 := Tryz.func241.trans (congrArg some (by kernel_rfl))
 f267 := Tryz.func214.trans (congrArg some (by kernel_rfl))
 f314 := Tryz.func242.trans (congrArg some (by kernel_rfl))
 t3 := Tryz.underlying3
 a3 := Tryz.isAgg3
 z3 := Tryz.sizeOf3
 v3 := Tryz.zeroValue3
 t4 := Tryz.underlying4
 a4 := Tryz.isAgg4
 z4 := Tryz.sizeOf4
 v4 := Tryz.zeroValue4
 t5 := Tryz.underlying5
 a5 := Tryz.isAgg5
 z5 := Tryz.sizeOf5
 v5 := Tryz.zeroValue5
 t9 := Tryz.underlying9
 a9 := Tryz.isAgg9
 z9 := Tryz.sizeOf9
 v9 := Tryz.zeroValue9
 t46 := Tryz.underlying107
 a46 := Tryz.isAgg107
 z46 := Tryz.sizeOf107
 v46 := Tryz.zeroValue107
 t51 := Tryz.underlying25
 a51 := Tryz.isAgg25
 z51 := Tryz.sizeOf25
 v51 := Tryz.zeroValue25
 t59 := Tryz.underlying173
 a59 := Tryz.isAgg173
 z59 := Tryz.sizeOf173
 v59 := Tryz.zeroValue173
 t146 := Tryz.underlying297
 a146 := Tryz.isAgg297
 z146 := Tryz.sizeOf297
 v146 := Tryz.zeroValue297
 g1 := by kernel_rfl }
open Go.RowKit Go.Lib in
/-- strings.Cut: "Cut slices s around the first instance of sep, returning the text before and after sep. The found result reports whether sep appears in s. If sep does not appear in s, cut returns s, "", false.": IT RETURNS 'Lib.cut s sep'; the world is as it was but for the count of draws. (LAID: no walk: one application.) -/
theorem Tryz.strings_Cut (s sep : ByteArray) (m : Int) (w : World) (hs : s.size < 4294967281) (hm : w.cell? ⟨1, 0, none⟩ = some (.int .i64 m)) :
 Calls Tryz.prog 126 #[.string s, .string sep] w fun e w' => e = .returned (.tuple #[.string ⟨(Lib.cut s.data.toList sep.data.toList).1.toArray⟩, .string ⟨(Lib.cut s.data.toList sep.data.toList).2.1.toArray⟩, .bool (Lib.cut s.data.toList sep.data.toList).2.2]) ∧ ∃ n, w' = w.drewN n := Any.strings_Cut Tryz.lays145 s sep m w hs hm
def Tryz.laysM288_ren : Go.Shelf.Ren := ⟨fun | 288 => 289 | 283 => 157 | 284 => 158 | 285 => 159 | 286 => 160 | 129 => 147 | 317 => 190 | 318 => 191 | 319 => 192 | 320 => 193 | 337 => 215 | 338 => 216 | n => n, fun | 37 => 108 | 53 => 24 | 3 => 3 | 4 => 4 | 9 => 9 | 171 => 204 | 0 => 0 | 173 => 206 | 212 => 236 | 51 => 25 | 5 => 5 | 20 => 20 | 213 => 237 | 46 => 107 | 232 => 299 | 233 => 300 | n => n, fun | 17 => 2 | 18 => 7 | 19 => 8 | n => n⟩
theorem Tryz.laysM288 : Go.Proofs.LaysM.n288 Tryz.prog Tryz.laysM288_ren := {
 mixed := by kernel_rfl
 f129 := Tryz.func147.trans (congrArg some (by kernel_rfl))
 f283 := Tryz.func157.trans (congrArg some (by kernel_rfl))
 f284 := Tryz.func158.trans (congrArg some (by kernel_rfl))
 f285 := Tryz.func159.trans (congrArg some (by kernel_rfl))
 f286 := Tryz.func160.trans (congrArg some (by kernel_rfl))
 f288 := Tryz.func289.trans (congrArg some (by kernel_rfl))
 f317 := Tryz.func190.trans (congrArg some (by kernel_rfl))
 f318 := Tryz.func191.trans (congrArg some (by kernel_rfl))
 f319 := Tryz.func192.trans (congrArg some (by kernel_rfl))
 f320 := Tryz.func193.trans (congrArg some (by kernel_rfl))
 f337 := Tryz.func215.trans (congrArg some (by kernel_rfl))
 f338 := Tryz.func216.trans (congrArg some (by kernel_rfl))
 t0 := Tryz.underlying0
 a0 := Tryz.isAgg0
 z0 := Tryz.sizeOf0
 v0 := Tryz.zeroValue0
 t3 := Tryz.underlying3
 a3 := Tryz.isAgg3
 z3 := Tryz.sizeOf3
 v3 := Tryz.zeroValue3
 t4 := Tryz.underlying4
 a4 := Tryz.isAgg4
 z4 := Tryz.sizeOf4
 v4 := Tryz.zeroValue4
 t5 := Tryz.underlying5
 a5 := Tryz.isAgg5
 z5 := Tryz.sizeOf5
 v5 := Tryz.zeroValue5
 t9 := Tryz.underlying9
 a9 := Tryz.isAgg9
 z9 := Tryz.sizeOf9
 v9 := Tryz.zeroValue9
 t20 := Tryz.underlying20
 a20 := Tryz.isAgg20
 z20 := Tryz.sizeOf20
 v20 := Tryz.zeroValue20
 t37 := Tryz.underlying108
 a37 := Tryz.isAgg108
 z37 := Tryz.sizeOf108
 v37 := Tryz.zeroValue108
 t46 := Tryz.underlying107
 a46 := Tryz.isAgg107
 z46 := Tryz.sizeOf107
 v46 := Tryz.zeroValue107
 t51 := Tryz.underlying25
 a51 := Tryz.isAgg25
 z51 := Tryz.sizeOf25
 v51 := Tryz.zeroValue25
 t53 := Tryz.underlying24
 a53 := Tryz.isAgg24
 z53 := Tryz.sizeOf24
 v53 := Tryz.zeroValue24
 t171 := Tryz.underlying204
 a171 := Tryz.isAgg204
 z171 := Tryz.sizeOf204
 v171 := Tryz.zeroValue204
 t173 := Tryz.underlying206
 a173 := Tryz.isAgg206
 z173 := Tryz.sizeOf206
 v173 := Tryz.zeroValue206
 t212 := Tryz.underlying236
 a212 := Tryz.isAgg236
 z212 := Tryz.sizeOf236
 v212 := Tryz.zeroValue236
 t213 := Tryz.underlying237
 a213 := Tryz.isAgg237
 z213 := Tryz.sizeOf237
 t232 := Tryz.underlying299
 a232 := Tryz.isAgg299
 z232 := Tryz.sizeOf299
 v232 := Tryz.zeroValue299
 t233 := Tryz.underlying300
 a233 := Tryz.isAgg300
 z233 := Tryz.sizeOf300
 v233 := Tryz.zeroValue300
 g17 := by kernel_rfl
 g18 := by kernel_rfl
 g19 := by kernel_rfl
 i0 := by kernel_rfl
 i3 := by kernel_rfl
 i4 := by kernel_rfl
 i5 := by kernel_rfl
 i9 := by kernel_rfl
 i20 := by kernel_rfl
 i37 := by kernel_rfl
 i46 := by kernel_rfl
 i51 := by kernel_rfl
 i53 := by kernel_rfl
 i171 := by kernel_rfl
 i173 := by kernel_rfl
 i212 := by kernel_rfl
 i232 := by kernel_rfl
 i233 := by kernel_rfl
 m17 := by kernel_rfl
 m18 := by kernel_rfl
 m19 := by kernel_rfl }
open Go.RowKit Go.Sort Go.Lib in
/-- internal/strconv.AppendUint(dst, i, 10), i BELOW 100: WHAT COMES BACK OWNS dst's CELLS AND, BEHIND THEM, i's DECIMAL NUMERAL. No table is read. Below the call's own blocks nothing has turned. (LAID: no walk: one application.) -/
theorem Tryz.internal_strconv_AppendUint_10_small (B n u : Nat) (hu : u < 100) (sv : Value) (xs : List Value) (w : World) (hown : w.ownsRow B 5 1 sv n xs) (hBw : B ≤ w.heap.size) (hlim : n + 20 ≤ 140737488355328) :
 Calls Tryz.prog 289 #[sv, .int .u64 u, .int .i64 10] w fun e w' => ∃ v', e = .returned v' ∧ w'.ownsRow B 5 1 v' (n + (Lib.decDigits u).length) (xs ++ Lib.byteCells (Lib.decDigits u)) ∧ Below B w w' ∧ Lib.OthersKept 5 none w w' := Any.internal_strconv_AppendUint_10_small Tryz.laysM288 B n u hu sv xs w hown hBw hlim
open Go.RowKit Go.Sort Go.Lib in
/-- internal/strconv.AppendUint(dst, i, 10), i FROM 100 ON: likewise; the digits are laid in an array of the call's own and appended. (LAID: no walk: one application.) -/
theorem Tryz.internal_strconv_AppendUint_10_big (B n u : Nat) (hu : 100 ≤ u) (hu64 : u < 18446744073709551616) (sv : Value) (xs : List Value) (w : World) (hown : w.ownsRow B 5 1 sv n xs) (hBw : B ≤ w.heap.size) (hlim : n + 20 ≤ 140737488355328) (htab : Lib.TabIs Tryz.prog w "internal/strconv.uint64pow10" .u64 Lib.pow10Tab) :
 Calls Tryz.prog 289 #[sv, .int .u64 u, .int .i64 10] w fun e w' => ∃ v', e = .returned v' ∧ w'.ownsRow B 5 1 v' (n + (Lib.decDigits u).length) (xs ++ Lib.byteCells (Lib.decDigits u)) ∧ Below B w w' ∧ Lib.OthersKept 5 none w w' := Any.internal_strconv_AppendUint_10_big Tryz.laysM288 B n u hu hu64 sv xs w hown hBw hlim htab
def Tryz.lays146_ren : Go.Shelf.Ren := ⟨fun | 146 => 148 | 221 => 180 | 268 => 204 | 138 => 154 | 143 => 155 | 195 => 186 | 197 => 156 | 218 => 187 | 219 => 188 | 260 => 189 | 217 => 211 | 225 => 212 | 224 => 213 | 267 => 214 | 266 => 241 | 314 => 242 | n => n, fun | 9 => 9 | 31 => 52 | 3 => 3 | 4 => 4 | 0 => 0 | 105 => 201 | 21 => 21 | 5 => 5 | 46 => 107 | 119 => 271 | 139 => 274 | 138 => 273 | 146 => 297 | 51 => 25 | n => n, fun | 1 => 1 | 3 => 5 | 4 => 6 | n => n⟩
theorem Tryz.lays146 : Go.Proofs.Lays.n146 Tryz.prog Tryz.lays146_ren := {
 mixed := by kernel_rfl
 f138 := Tryz.func154.trans (congrArg some (by kernel_rfl))
 f143 := Tryz.func155.trans (congrArg some (by kernel_rfl))
 f146 := Tryz.func148.trans (congrArg some (by kernel_rfl))
 f195 := Tryz.func186.trans (congrArg some (by kernel_rfl))
 f197 := Tryz.func156.trans (congrArg some (by kernel_rfl))
 f217 := Tryz.func211.trans (congrArg some (by kernel_rfl))
 f218 := Tryz.func187.trans (congrArg some (by kernel_rfl))
 f219 := Tryz.func188.trans (congrArg some (by kernel_rfl))
 f221 := Tryz.func180.trans (congrArg some (by kernel_rfl))
 f224 := Tryz.func213.trans (congrArg some (by kernel_rfl))
 f225 := Tryz.func212.trans (congrArg some (by kernel_rfl))
 f260 := Tryz.func189.trans (congrArg some (by kernel_rfl))
 f266 := Tryz.func241.trans (congrArg some (by kernel_rfl))
 f267 := Tryz.func214.trans (congrArg some (by kernel_rfl))
 f268 := Tryz.func204.trans (congrArg some (by kernel_rfl))
 f314 := Tryz.func242.trans (congrArg some (by kernel_rfl))
 t0 := Tryz.underlying0
 a0 := Tryz.isAgg0
 z0 := Tryz.sizeOf0
 v0 := Tryz.zeroValue0
 t3 := Tryz.underlying3
 a3 := Tryz.isAgg3
 z3 := Tryz.sizeOf3
 v3 := Tryz.zeroValue3
 t4 := Tryz.underlying4
 a4 := Tryz.isAgg4
 z4 := Tryz.sizeOf4
 v4 := Tryz.zeroValue4
 t5 := Tryz.underlying5
 a5 := Tryz.isAgg5
 z5 := Tryz.sizeOf5
 v5 := Tryz.zeroValue5
 t9 := Tryz.underlying9
 a9 := Tryz.isAgg9
 z9 := Tryz.sizeOf9
 v9 := Tryz.zeroValue9
 t21 := Tryz.underlying21
 a21 := Tryz.isAgg21
 z21 := Tryz.sizeOf21
 v21 := Tryz.zeroValue21
 t31 := Tryz.underlying52
 a31 := Tryz.isAgg52
 z31 := Tryz.sizeOf52
 v31 := Tryz.zeroValue52
 t46 := Tryz.underlying107
 a46 := Tryz.isAgg107
 z46 := Tryz.sizeOf107
 v46 := Tryz.zeroValue107
 t51 := Tryz.underlying25
 a51 := Tryz.isAgg25
 z51 := Tryz.sizeOf25
 v51 := Tryz.zeroValue25
 t105 := Tryz.underlying201
 a105 := Tryz.isAgg201
 z105 := Tryz.sizeOf201
 v105 := Tryz.zeroValue201
 t119 := Tryz.underlying271
 a119 := Tryz.isAgg271
 z119 := Tryz.sizeOf271
 t138 := Tryz.underlying273
 a138 := Tryz.isAgg273
 z138 := Tryz.sizeOf273
 v138 := Tryz.zeroValue273
 t139 := Tryz.underlying274
 a139 := Tryz.isAgg274
 z139 := Tryz.sizeOf274
 v139 := Tryz.zeroValue274
 t146 := Tryz.underlying297
 a146 := Tryz.isAgg297
 z146 := Tryz.sizeOf297
 v146 := Tryz.zeroValue297
 g1 := by kernel_rfl
 g3 := by kernel_rfl
 g4 := by kernel_rfl }
open Go.RowKit Go.Lib in
/-- strings.Split. (LAID: no walk: one application.) -/
theorem Tryz.strings_Split (s sep : ByteArray) (m : Int) (w : World) (hs : s.size < 4294967281) (hm : w.cell? ⟨1, 0, none⟩ = some (.int .i64 m)) (h1 : 1 ≤ sep.size) :
 Calls Tryz.prog 148 #[.string s, .string sep] w fun e w' =>
  e = .returned (.slice (some ⟨w.heap.size, 0, none⟩) (Lib.countB s sep + 1) (Lib.countB s sep + 1)) ∧ w' = w.alloc (.cells ((Lib.splitB sep 0 (Lib.countB s sep) s).map Value.string).toArray 9) := Any.strings_Split Tryz.lays146 (by kernel_rfl) s sep m w hs hm h1
def Tryz.laysPu14_ren : Go.Shelf.Ren := ⟨fun | 14 => 98 | 16 => 128 | 17 => 129 | 19 => 163 | 20 => 164 | 21 => 165 | 22 => 166 | 23 => 167 | 24 => 168 | 25 => 194 | 27 => 196 | 26 => 195 | 28 => 217 | 29 => 243 | 30 => 157 | 31 => 158 | 32 => 159 | 33 => 160 | 35 => 147 | 34 => 190 | 36 => 191 | 37 => 192 | 38 => 193 | 39 => 215 | 40 => 216 | n => n, fun | 9 => 9 | 3 => 3 | 22 => 24 | 24 => 40 | 25 => 137 | 4 => 4 | 34 => 209 | 5 => 5 | 36 => 107 | 37 => 108 | 0 => 0 | 39 => 211 | 21 => 21 | 44 => 240 | 47 => 158 | 50 => 277 | 48 => 275 | 2 => 2 | 52 => 204 | 55 => 206 | 59 => 236 | 60 => 25 | 20 => 20 | 61 => 237 | 65 => 299 | 66 => 300 | 67 => 121 | n => n, fun | 0 => 3 | 1 => 4 | 2 => 2 | 3 => 7 | 4 => 8 | n => n⟩
theorem Tryz.laysPu14 : Go.Proofs.LaysPu.n14 Tryz.prog Tryz.laysPu14_ren := {
 mixed := by kernel_rfl
 f14 := Tryz.func98.trans (congrArg some (by kernel_rfl))
 f16 := Tryz.func128.trans (congrArg some (by kernel_rfl))
 f17 := Tryz.func129.trans (congrArg some (by kernel_rfl))
 f19 := Tryz.func163.trans (congrArg some (by kernel_rfl))
 f20 := Tryz.func164.trans (congrArg some (by kernel_rfl))
 f21 := Tryz.func165.trans (congrArg some (by kernel_rfl))
 f22 := Tryz.func166.trans (congrArg some (by kernel_rfl))
 f23 := Tryz.func167.trans (congrArg some (by kernel_rfl))
 f24 := Tryz.func168.trans (congrArg some (by kernel_rfl))
 f25 := Tryz.func194.trans (congrArg some (by kernel_rfl))
 f26 := Tryz.func195.trans (congrArg some (by kernel_rfl))
 f27 := Tryz.func196.trans (congrArg some (by kernel_rfl))
 f28 := Tryz.func217.trans (congrArg some (by kernel_rfl))
 f29 := Tryz.func243.trans (congrArg some (by kernel_rfl))
 f30 := Tryz.func157.trans (congrArg some (by kernel_rfl))
 f31 := Tryz.func158.trans (congrArg some (by kernel_rfl))
 f32 := Tryz.func159.trans (congrArg some (by kernel_rfl))
 f33 := Tryz.func160.trans (congrArg some (by kernel_rfl))
 f34 := Tryz.func190.trans (congrArg some (by kernel_rfl))
 f35 := Tryz.func147.trans (congrArg some (by kernel_rfl))
 f36 := Tryz.func191.trans (congrArg some (by kernel_rfl))
 f37 := Tryz.func192.trans (congrArg some (by kernel_rfl))
 f38 := Tryz.func193.trans (congrArg some (by kernel_rfl))
 f39 := Tryz.func215.trans (congrArg some (by kernel_rfl))
 f40 := Tryz.func216.trans (congrArg some (by kernel_rfl))
 t0 := Tryz.underlying0
 a0 := Tryz.isAgg0
 z0 := Tryz.sizeOf0
 v0 := Tryz.zeroValue0
 i0 := by kernel_rfl
 t2 := Tryz.underlying2
 a2 := Tryz.isAgg2
 z2 := Tryz.sizeOf2
 v2 := Tryz.zeroValue2
 i2 := by kernel_rfl
 t3 := Tryz.underlying3
 a3 := Tryz.isAgg3
 z3 := Tryz.sizeOf3
 v3 := Tryz.zeroValue3
 i3 := by kernel_rfl
 t4 := Tryz.underlying4
 a4 := Tryz.isAgg4
 z4 := Tryz.sizeOf4
 v4 := Tryz.zeroValue4
 i4 := by kernel_rfl
 t5 := Tryz.underlying5
 a5 := Tryz.isAgg5
 z5 := Tryz.sizeOf5
 v5 := Tryz.zeroValue5
 i5 := by kernel_rfl
 t9 := Tryz.underlying9
 a9 := Tryz.isAgg9
 z9 := Tryz.sizeOf9
 v9 := Tryz.zeroValue9
 i9 := by kernel_rfl
 t20 := Tryz.underlying20
 a20 := Tryz.isAgg20
 z20 := Tryz.sizeOf20
 v20 := Tryz.zeroValue20
 i20 := by kernel_rfl
 t21 := Tryz.underlying21
 a21 := Tryz.isAgg21
 z21 := Tryz.sizeOf21
 v21 := Tryz.zeroValue21
 i21 := by kernel_rfl
 t22 := Tryz.underlying24
 a22 := Tryz.isAgg24
 z22 := Tryz.sizeOf24
 v22 := Tryz.zeroValue24
 i22 := by kernel_rfl
 t24 := Tryz.underlying40
 a24 := Tryz.isAgg40
 z24 := Tryz.sizeOf40
 v24 := Tryz.zeroValue40
 i24 := by kernel_rfl
 t25 := Tryz.underlying137
 a25 := Tryz.isAgg137
 z25 := Tryz.sizeOf137
 v25 := Tryz.zeroValue137
 i25 := by kernel_rfl
 t34 := Tryz.underlying209
 a34 := Tryz.isAgg209
 z34 := Tryz.sizeOf209
 v34 := Tryz.zeroValue209
 i34 := by kernel_rfl
 c34 := by kernel_rfl
 t36 := Tryz.underlying107
 a36 := Tryz.isAgg107
 z36 := Tryz.sizeOf107
 v36 := Tryz.zeroValue107
 i36 := by kernel_rfl
 t37 := Tryz.underlying108
 a37 := Tryz.isAgg108
 z37 := Tryz.sizeOf108
 v37 := Tryz.zeroValue108
 i37 := by kernel_rfl
 t39 := Tryz.underlying211
 a39 := Tryz.isAgg211
 z39 := Tryz.sizeOf211
 v39 := Tryz.zeroValue211
 i39 := by kernel_rfl
 t44 := Tryz.underlying240
 a44 := Tryz.isAgg240
 z44 := Tryz.sizeOf240
 v44 := Tryz.zeroValue240
 i44 := by kernel_rfl
 t47 := Tryz.underlying158
 a47 := Tryz.isAgg158
 z47 := Tryz.sizeOf158
 v47 := Tryz.zeroValue158
 i47 := by kernel_rfl
 t48 := Tryz.underlying275
 a48 := Tryz.isAgg275
 z48 := Tryz.sizeOf275
 v48 := Tryz.zeroValue275
 i48 := by kernel_rfl
 t50 := Tryz.underlying277
 a50 := Tryz.isAgg277
 z50 := Tryz.sizeOf277
 v50 := Tryz.zeroValue277
 i50 := by kernel_rfl
 t52 := Tryz.underlying204
 a52 := Tryz.isAgg204
 z52 := Tryz.sizeOf204
 v52 := Tryz.zeroValue204
 i52 := by kernel_rfl
 t55 := Tryz.underlying206
 a55 := Tryz.isAgg206
 z55 := Tryz.sizeOf206
 v55 := Tryz.zeroValue206
 i55 := by kernel_rfl
 t59 := Tryz.underlying236
 a59 := Tryz.isAgg236
 z59 := Tryz.sizeOf236
 v59 := Tryz.zeroValue236
 i59 := by kernel_rfl
 t60 := Tryz.underlying25
 a60 := Tryz.isAgg25
 z60 := Tryz.sizeOf25
 v60 := Tryz.zeroValue25
 i60 := by kernel_rfl
 t61 := Tryz.underlying237
 a61 := Tryz.isAgg237
 z61 := Tryz.sizeOf237
 t65 := Tryz.underlying299
 a65 := Tryz.isAgg299
 z65 := Tryz.sizeOf299
 v65 := Tryz.zeroValue299
 i65 := by kernel_rfl
 t66 := Tryz.underlying300
 a66 := Tryz.isAgg300
 z66 := Tryz.sizeOf300
 v66 := Tryz.zeroValue300
 i66 := by kernel_rfl
 t67 := Tryz.underlying121
 a67 := Tryz.isAgg121
 z67 := Tryz.sizeOf121
 v67 := Tryz.zeroValue121
 i67 := by kernel_rfl
 g0 := by kernel_rfl
 m0 := by kernel_rfl
 g1 := by kernel_rfl
 m1 := by kernel_rfl
 g2 := by kernel_rfl
 m2 := by kernel_rfl
 g3 := by kernel_rfl
 m3 := by kernel_rfl
 g4 := by kernel_rfl
 m4 := by kernel_rfl }
open Go.RowKit in
/-- strconv.ParseUint(s, 10, 32), AT EVERY STRING THAT SPELLS A uint32 ('Lib.parseUintB 32 s.data.toList = .ok u'): u, AND NO ERROR. (LAID: no walk: one application.) -/
theorem Tryz.strconv_ParseUint_10_at32_ok (s : ByteArray) (hmax : s.size ≤ 9223372036854775806) (u : Nat) (h : Lib.parseUintB 32 s.data.toList = .ok u) (w : World) :
 Calls Tryz.prog 98 #[.string s, .int .i64 10, .int .i64 32] w fun e w' => e = .returned (.tuple #[.int .u64 u, .nilIface]) ∧ (w' = w ∨ w' = Lib.bytesWorld w 5 s) := Any.strconv_ParseUint_10_at32_ok Tryz.laysPu14 s hmax u h w
open Go.RowKit in
/-- strconv.ParseUint(s, 10, 32), AT EVERY STRING THAT IS NO ROW OF DECIMAL DIGITS (a sign is a fault): 0, AND AN ERROR THAT IS NOT nil: a *NumError in a new block N: {Func: "ParseUint", Num: s's bytes, Err: what the variable ErrSyntax holds}. Of what was there nothing has turned. (LAID: no walk: one application.) -/
theorem Tryz.strconv_ParseUint_10_at32_bad (s : ByteArray) (hlim : s.size ≤ 281474976710656) (r : Lib.NumEnd Nat) (hr : Lib.parseUintB 32 s.data.toList = r) (hno : ∀ u, r ≠ .ok u) (hnr : r ≠ .range) (ev : Value) (w : World) (hv : w.cell? ⟨3, 0, none⟩ = some ev) (hev : ev = .nilIface ∨ ∃ te pe, ev = .iface te pe) :
 Calls Tryz.prog 98 #[.string s, .int .i64 10, .int .i64 32] w fun e w' => ∃ N, e = .returned (.tuple #[.int .u64 0, .iface 211 (.pointer (some ⟨N, 0, none⟩))]) ∧ w.heap.size ≤ N ∧ w'.heap[N]? = some (.cells #[.string ⟨#[80, 97, 114, 115, 101, 85, 105, 110, 116]⟩, .string s, ev] 240 (0, 0)) ∧ Below w.heap.size w w' := by
 cases r with
 | ok u => exact absurd rfl (hno u)
 | range => exact absurd rfl hnr
 | _ => exact Any.strconv_ParseUint_10_at32_syntax Tryz.laysPu14 s hlim hr ev w hv hev
open Go.RowKit in
/-- strconv.ParseUint(s, 10, 32), AT EVERY NUMERAL THAT NO uint32 HOLDS: THE GREATEST uint32, AND AN ERROR THAT IS NOT nil: a *NumError in a new block N: {Func: "ParseUint", Num: s's bytes, Err: what the variable ErrRange holds}. Of what was there nothing has turned. (LAID: no walk: one application.) -/
theorem Tryz.strconv_ParseUint_10_at32_range (s : ByteArray) (hlim : s.size ≤ 281474976710656) (h : Lib.parseUintB 32 s.data.toList = .range) (ev : Value) (w : World) (hv : w.cell? ⟨4, 0, none⟩ = some ev) (hev : ev = .nilIface ∨ ∃ te pe, ev = .iface te pe) :
 Calls Tryz.prog 98 #[.string s, .int .i64 10, .int .i64 32] w fun e w' => ∃ N, e = .returned (.tuple #[.int .u64 4294967295, .iface 211 (.pointer (some ⟨N, 0, none⟩))]) ∧ w.heap.size ≤ N ∧ w'.heap[N]? = some (.cells #[.string ⟨#[80, 97, 114, 115, 101, 85, 105, 110, 116]⟩, .string s, ev] 240 (0, 0)) ∧ Below w.heap.size w w' := Any.strconv_ParseUint_10_at32_range Tryz.laysPu14 s hlim h ev w hv hev
open Go.RowKit in
/-- strconv.ParseUint(s, 10, 64), AT EVERY STRING THAT SPELLS A uint64 ('Lib.parseUintB 64 s.data.toList = .ok u'): u, AND NO ERROR. (LAID: no walk: one application.) -/
theorem Tryz.strconv_ParseUint_10_at64_ok (s : ByteArray) (hmax : s.size ≤ 9223372036854775806) (u : Nat) (h : Lib.parseUintB 64 s.data.toList = .ok u) (w : World) :
 Calls Tryz.prog 98 #[.string s, .int .i64 10, .int .i64 64] w fun e w' => e = .returned (.tuple #[.int .u64 u, .nilIface]) ∧ (w' = w ∨ w' = Lib.bytesWorld w 5 s) := Any.strconv_ParseUint_10_at64_ok Tryz.laysPu14 s hmax u h w
open Go.RowKit in
/-- strconv.ParseUint(s, 10, 64), AT EVERY STRING THAT IS NO ROW OF DECIMAL DIGITS (a sign is a fault): 0, AND AN ERROR THAT IS NOT nil: a *NumError in a new block N: {Func: "ParseUint", Num: s's bytes, Err: what the variable ErrSyntax holds}. Of what was there nothing has turned. (LAID: no walk: one application.) -/
theorem Tryz.strconv_ParseUint_10_at64_bad (s : ByteArray) (hlim : s.size ≤ 281474976710656) (r : Lib.NumEnd Nat) (hr : Lib.parseUintB 64 s.data.toList = r) (hno : ∀ u, r ≠ .ok u) (hnr : r ≠ .range) (ev : Value) (w : World) (hv : w.cell? ⟨3, 0, none⟩ = some ev) (hev : ev = .nilIface ∨ ∃ te pe, ev = .iface te pe) :
 Calls Tryz.prog 98 #[.string s, .int .i64 10, .int .i64 64] w fun e w' => ∃ N, e = .returned (.tuple #[.int .u64 0, .iface 211 (.pointer (some ⟨N, 0, none⟩))]) ∧ w.heap.size ≤ N ∧ w'.heap[N]? = some (.cells #[.string ⟨#[80, 97, 114, 115, 101, 85, 105, 110, 116]⟩, .string s, ev] 240 (0, 0)) ∧ Below w.heap.size w w' := by
 cases r with
 | ok u => exact absurd rfl (hno u)
 | range => exact absurd rfl hnr
 | _ => exact Any.strconv_ParseUint_10_at64_syntax Tryz.laysPu14 s hlim hr ev w hv hev
open Go.RowKit in
/-- strconv.ParseUint(s, 10, 64), AT EVERY NUMERAL THAT NO uint64 HOLDS: THE GREATEST uint64, AND AN ERROR THAT IS NOT nil: a *NumError in a new block N: {Func: "ParseUint", Num: s's bytes, Err: what the variable ErrRange holds}. Of what was there nothing has turned. (LAID: no walk: one application.) -/
theorem Tryz.strconv_ParseUint_10_at64_range (s : ByteArray) (hlim : s.size ≤ 281474976710656) (h : Lib.parseUintB 64 s.data.toList = .range) (ev : Value) (w : World) (hv : w.cell? ⟨4, 0, none⟩ = some ev) (hev : ev = .nilIface ∨ ∃ te pe, ev = .iface te pe) :
 Calls Tryz.prog 98 #[.string s, .int .i64 10, .int .i64 64] w fun e w' => ∃ N, e = .returned (.tuple #[.int .u64 18446744073709551615, .iface 211 (.pointer (some ⟨N, 0, none⟩))]) ∧ w.heap.size ≤ N ∧ w'.heap[N]? = some (.cells #[.string ⟨#[80, 97, 114, 115, 101, 85, 105, 110, 116]⟩, .string s, ev] 240 (0, 0)) ∧ Below w.heap.size w w' := Any.strconv_ParseUint_10_at64_range Tryz.laysPu14 s hlim h ev w hv hev
end Go.Proofs
end
namespace Go.Proofs.YtfbegbmjmhnplaaGreatDoor
open Go.Lib (hid)
section
open Go.RowKit
namespace VerC
open VerM StrC TextR
def isErr (v : Value) : Prop := v = .nilIface ∨ ∃ t p, v = .iface t p
structure Vw (w : World) : Prop where
 max : ∃ m : Int, w.cell? ⟨1, 0, none⟩ = some (.int .i64 m)
 syn : ∃ v, w.cell? ⟨3, 0, none⟩ = some v ∧ isErr v
 ran : ∃ v, w.cell? ⟨4, 0, none⟩ = some v ∧ isErr v
 pow : Lib.TabIs Tryz.prog w "internal/strconv.uint64pow10" .u64 Lib.pow10Tab
theorem Vw.gr {w w' : World} (h : Vw w) (g : Below w.heap.size w w') : Vw w' := by
 obtain ⟨⟨m, hm⟩, ⟨v, hv, ev⟩, ⟨u, hu, eu⟩, hp⟩ := h
 refine ⟨⟨m, by rw [g.cell (World.block_lt_of_cell? _ _ hm)]; exact hm⟩, ⟨v, by rw [g.cell (World.block_lt_of_cell? _ _ hv)]; exact hv, ev⟩, ⟨u, by rw [g.cell (World.block_lt_of_cell? _ _ hu)]; exact hu, eu⟩, ?_⟩
 exact Lib.tabBelow_of_tabIs hp _ g
theorem zdq (l : B) : (str l).data.toList = l := by simp [str]
theorem zdr {l : B} : Lib.cut l [45] = (head l, l.drop ((head l).length + 1), decide (ids l ≠ [])) := by
 unfold Lib.cut
 rcases zag 45 l with h | ⟨x, r, e, hx⟩
 · have e1 := zah h
   rw [if_neg (by rw [e1]; decide), (zam h).1, (zam h).2]
   simp
 · subst e
   have e1 := zai r hx
   rw [if_pos (by rw [e1]; omega), (zan r hx).1, (zan r hx).2, e1]
   have : pieces 46 r ≠ [] := zaa 46 r
   simp [this]
theorem zds {l : B} (h : ids l ≠ []) : pieces 46 (l.drop ((head l).length + 1)) = ids l := by
 rcases zag 45 l with h2 | ⟨x, r, e, hx⟩
 · exact absurd (zam h2).2 h
 · subst e
   rw [(zan r hx).1, (zan r hx).2, ← List.drop_drop]
   simp
theorem zdt (l : B) (w : World) (hv : Vw w) (hl : l.length ≤ 128) :
 Calls Tryz.prog 126 #[.string (str l), .string ⟨#[45]⟩] w fun e w' => e = .returned (.tuple #[.string (str (head l)), .string (str (l.drop ((head l).length + 1))), .bool (decide (ids l ≠ []))]) ∧ ∃ n, w' = w.drewN n := by
 obtain ⟨m, hm⟩ := hv.max
 have h := Tryz.strings_Cut (str l) ⟨#[45]⟩ m w (by rw [zbm]; omega) hm
 rw [zdq, show (⟨#[45]⟩ : ByteArray).data.toList = [45] from rfl, zdr] at h
 exact h
theorem zdu (l : B) : (pieces 46 l).length = Lib.countB (str l) ⟨#[46]⟩ + 1 := by
 have h := Lib.splitB_all (⟨#[46]⟩ : ByteArray) (by decide) 0 _ (str l) rfl
 have h2 := congrArg List.length (Lib.splitB_data ⟨#[46]⟩ 0 (Lib.countB (str l) ⟨#[46]⟩) (str l))
 rw [List.length_map, h] at h2
 rw [h2]
 rw [zdq, ← zak]
 show _ = (Lib.split l [46]).length
 unfold Lib.split
 have e : Lib.countB (str l) ⟨#[46]⟩ = Lib.count l [46] := by unfold Lib.countB; rw [zdq]
 first | rw [e]; rfl | rfl
theorem zdv (l : B) : (Lib.splitB ⟨#[46]⟩ 0 (Lib.countB (str l) ⟨#[46]⟩) (str l)).map Value.string = (pieces 46 l).map (fun s => Value.string (str s)) := by
 have h2 := Lib.splitB_data ⟨#[46]⟩ 0 (Lib.countB (str l) ⟨#[46]⟩) (str l)
 rw [zdq, show (⟨#[46]⟩ : ByteArray).data.toList = [46] from rfl] at h2
 have h3 : (Lib.splitB ⟨#[46]⟩ 0 (Lib.countB (str l) ⟨#[46]⟩) (str l)).map (·.data.toList) = pieces 46 l := by
  rw [h2, ← zak]
  unfold Lib.split Lib.countB
  rw [zdq]
 rw [← h3, List.map_map]
 apply List.map_congr_left
 intro s _
 simp [str]
theorem zdw (l : B) (w : World) (hv : Vw w) (hl : l.length ≤ 1000000) :
 Calls Tryz.prog 148 #[.string (str l), .string ⟨#[46]⟩] w fun e w' => e = .returned (.slice (some ⟨w.heap.size, 0, none⟩) (pieces 46 l).length (pieces 46 l).length) ∧ w' = w.alloc (.cells ((pieces 46 l).map (fun s => Value.string (str s))).toArray 9) := by
 obtain ⟨m, hm⟩ := hv.max
 have h := Tryz.strings_Split (str l) ⟨#[46]⟩ m w (by rw [zbm]; omega) hm (by decide)
 rw [zdv] at h
 refine h.mono fun e w' ⟨he, hw⟩ => ⟨?_, hw⟩
 rw [he, zdu]
theorem zdx (l : B) (w : World) (hl : l.length ≤ 1000000) : Txs (w.alloc (.cells ((pieces 46 l).map (fun s => Value.string (str s))).toArray 9)) (some ⟨w.heap.size, 0, none⟩) (pieces 46 l).length (pieces 46 l) := by
 have h1 := zad 46 l
 refine ⟨Nat.le_refl _, fun s hs => ?_, by omega, fun h0 => ⟨w.heap.size, 0, rfl, fun i hi => ?_⟩⟩
 · have := zae 46 l s hs; omega
 · have hn := heap_alloc_new w (.cells ((pieces 46 l).map (fun s => Value.string (str s))).toArray 9)
   rw [Nat.zero_add]
   unfold World.cell?
   rw [hn]
   simp [hi]
theorem zdy (l : B) (w : World) (hv : Vw w) (hl : l.length ≤ 1000000) :
 Calls Tryz.prog 98 #[.string (str l), .int .i64 10, .int .i64 32] w fun e w' => (∃ (n : Nat) (q : Value), e = .returned (.tuple #[.int .u64 n, q]) ∧ (∀ u, Lib.parseUintB 32 l = .ok u → n = u ∧ q = .nilIface) ∧ ((∀ u, Lib.parseUintB 32 l ≠ .ok u) → ∃ t p, q = .iface t p)) ∧ Below w.heap.size w w' := by
 have hd : (str l).data.toList = l := zdq l
 cases hp : Lib.parseUintB 32 l with
 | ok u =>
   refine (Tryz.strconv_ParseUint_10_at32_ok (str l) (by rw [zbm]; omega) u (by rw [hd]; exact hp) w).mono fun e w' ⟨he, hw⟩ => ⟨⟨u, _, he, ⟨fun u2 h2 => ?_, fun h => absurd rfl (h u)⟩⟩, ?_⟩
   · cases h2; exact ⟨rfl, rfl⟩
   · rcases hw with rfl | rfl
     · exact Below.refl _ _
     · exact Lib.bytesWorld_below _ _ _
 | range =>
   obtain ⟨v, hc, hev⟩ := hv.ran
   refine (Tryz.strconv_ParseUint_10_at32_range (str l) (by rw [zbm]; omega) (by rw [hd]; exact hp) v w hc hev).mono fun e w' ⟨N, he, _, _, hb⟩ => ⟨⟨4294967295, _, he, ⟨fun u2 h2 => (by cases h2), fun _ => ⟨_, _, rfl⟩⟩⟩, hb⟩
 | _ =>
   obtain ⟨v, hc, hev⟩ := hv.syn
   refine (Tryz.strconv_ParseUint_10_at32_bad (str l) (by rw [zbm]; omega) (Lib.parseUintB 32 l) (by rw [hd]) (fun u h => by rw [hp] at h; cases h) (fun h => by rw [hp] at h; cases h) v w hc hev).mono fun e w' ⟨N, he, _, _, hb⟩ => ⟨⟨0, _, he, ⟨fun u2 h2 => (by cases h2), fun _ => ⟨_, _, rfl⟩⟩⟩, hb⟩
/-- package version's number -/
theorem zdz (l : B) (w : World) (hv : Vw w) (hl : l.length ≤ 1000000) :
 Calls Tryz.prog 149 #[.string (str l)] w fun e w' => (∃ x : Int, e = .returned (.tuple #[.int .u32 x, .bool (pnum l).isSome]) ∧ ∀ n, pnum l = some n → x = n) ∧ Below w.heap.size w w' := by
 have HP := hid (zdy l w hv hl)
 have HQ := hid (fun w => zda l w (by omega))
 by_cases hok : ∃ u, Lib.parseUintB 32 l = .ok u
 · obtain ⟨u, hu⟩ := hok
   have HE := hid (zcw hu)
   have hu2 := ((zcv l u).1 hu).2.1
   have hu3 := ((zcv l u).1 hu).2.2
   have hw : IntKind.u32.wrap (u : Int) = u := by simp [IntKind.wrap, IntKind.bits, IntKind.signed]; omega
   have HU := hid hu
   generalize padded l = pd at *
   clear hv hu2 hu3 hu
   go_enter Tryz.func149, Tryz.ntmps149
   go_wp2_with (go_at_call 98; refine HP.out.mono ?_; rintro e w1 ⟨⟨n, q, rfl, h1, h2⟩, hb⟩; refine Hid.out ?_)
   refine hid ?_
   obtain ⟨rfl, rfl⟩ := h1 u HU.out
   have HB := hid hb
   clear h1 h2 hb HP
   go_wp2_with (go_at_call 181; refine (HQ.out _).mono ?_; rintro e w2 ⟨rfl, rfl⟩)
   go_ret2
   refine ⟨⟨(n : Int), ?_, fun m hm => ?_⟩, HB.out⟩
   · rw [HE.out]; cases pd <;> rfl
   · rw [HE.out] at hm
     cases pd
     · simp at hm; rw [hm]
     · simp at hm
 · have HNO := hid (fun u h => hok ⟨u, h⟩)
   have HE := hid (zcx (fun u h => hok ⟨u, h⟩))
   clear hv hok
   go_enter Tryz.func149, Tryz.ntmps149
   go_wp2_with (go_at_call 98; refine HP.out.mono ?_; rintro e w1 ⟨⟨n, q, rfl, h1, h2⟩, hb⟩; refine Hid.out ?_)
   refine hid ?_
   obtain ⟨tq, pq, rfl⟩ := h2 (fun u h => HNO.out u h)
   have HB := hid hb
   clear h1 h2 hb HP
   go_wp2_with (go_at_call 181; refine (HQ.out _).mono ?_; rintro e w2 ⟨rfl, rfl⟩)
   go_ret2
   exact ⟨⟨_, by rw [HE.out]; rfl, fun m hm => (by rw [HE.out] at hm; cases hm)⟩, HB.out⟩
end VerC
end
section
open Go.RowKit
namespace VerC
open VerM StrC TextR
theorem isT_of {l : B} {v : Ver} (h : readB l = some v) : isT l = true := by unfold isT; rw [h]; rfl
theorem isT_no {l : B} (h : readB l = none) : isT l = false := by unfold isT; rw [h]; rfl
theorem zea {l : B} {w : World} {x : Value} (h : ReadE l w (.returned x)) : (∃ v a cap, readB l = some v ∧ x = .tuple #[verV v.a v.b v.c a v.pre.length cap, .int .i64 0] ∧ Txs w a cap v.pre) ∨ (readB l = none ∧ x = .tuple #[verV 0 0 0 none 0 0, .int .i64 70]) := by
 unfold ReadE at h
 split at h
 · rename_i v hv; obtain ⟨a, cap, he, hT⟩ := h; injection he with he; exact .inl ⟨v, a, cap, hv, he, hT⟩
 · rename_i hv; injection h with h; exact .inr ⟨hv, h⟩
theorem Txs.setRow {w : World} {a : Option Addr} {cap : Nat} {p : TL} (h : Txs w a cap p) {g : Nat} {x y z : Int} {a2 : Option Addr} {n c2 : Nat} (hg : w.heap[g]? = some (verO x y z a2 n c2)) (cs : Array Value) : Txs (w.setRow g cs) a cap p := by
 refine ⟨h.cap, h.short, h.few, fun h0 => ?_⟩
 obtain ⟨b, o, e, hcell⟩ := h.cells h0
 refine ⟨b, o, e, fun i hi => ?_⟩
 have hci := hcell i hi
 have hbc : b ≠ g := fun e => by rw [e] at hci; exact zci hg _ _ hci
 have := setRow_other w g b cs hbc
 unfold World.cell? at hci ⊢
 rw [this]
 exact hci
theorem Txs.alloc {w : World} {a : Option Addr} {cap : Nat} {p : TL} (h : Txs w a cap p) (O : Obj) : Txs (w.alloc O) a cap p := h.gr ((Below.refl _ w).alloc (Nat.le_refl _) O)
def cmpI (x y : Int) : Int := if x < y then -1 else if y < x then 1 else 0
theorem zeb (a b : Nat) : cmpI a b = cmpN a b := by unfold cmpI cmpN; simp
def cmpP (p q : TL) : Int := if p.length = 0 ∨ q.length = 0 then (if p.length = q.length then 0 else if 0 < p.length then -1 else 1) else ordL p q
theorem cmpV_is (v w : Ver) : cmpV v w = if cmpI v.a w.a ≠ 0 then cmpI v.a w.a else if cmpI v.b w.b ≠ 0 then cmpI v.b w.b else if cmpI v.c w.c ≠ 0 then cmpI v.c w.c else cmpP v.pre w.pre := by
 have h : lex (fun v w : Ver => cmpN (rel v) (rel w)) (fun v w => ordL v.pre w.pre) v w = cmpP v.pre w.pre := by
  obtain ⟨_, _, _, p⟩ := v
  obtain ⟨_, _, _, q⟩ := w
  cases p <;> cases q <;> simp [lex, rel, cmpP, cmpN, ordL]
 rw [zeb, zeb, zeb]
 show lex _ (lex _ (lex _ (lex (fun v w : Ver => cmpN (rel v) (rel w)) (fun v w => ordL v.pre w.pre)))) v w = _
 unfold lex at h ⊢
 rw [h]
theorem zec (p q : TL) (k : Nat) (h1 : k < p.length) (h2 : k < q.length) : ordL (p.drop k) (q.drop k) = if ordI (p.getD k []) (q.getD k []) ≠ 0 then ordI (p.getD k []) (q.getD k []) else ordL (p.drop (k + 1)) (q.drop (k + 1)) := by
 rw [List.drop_eq_getElem_cons h1, List.drop_eq_getElem_cons h2, ordL]
 simp [h1, h2]
theorem zed (p q : TL) (k : Nat) (h : k ≤ p.length ∧ k ≤ q.length ∧ (k = p.length ∨ k = q.length)) : ordL (p.drop k) (q.drop k) = cmpI p.length q.length := by
 rw [zeb]
 unfold cmpN
 obtain ⟨h1, h2, h3⟩ := h
 by_cases e1 : k = p.length
 · by_cases e2 : k = q.length
   · rw [List.drop_eq_nil_of_le (by omega), List.drop_eq_nil_of_le (by omega), if_neg (by omega), if_neg (by omega)]; rfl
   · rw [show p.drop k = [] from List.drop_eq_nil_of_le (by omega), List.drop_eq_getElem_cons (show k < q.length by omega), if_pos (by omega)]; rfl
 · have e2 : k = q.length := by omega
   rw [show q.drop k = [] from List.drop_eq_nil_of_le (by omega), List.drop_eq_getElem_cons (show k < p.length by omega), if_neg (by omega), if_pos (by omega)]; rfl
end VerC
end
end Go.Proofs.YtfbegbmjmhnplaaGreatDoor
