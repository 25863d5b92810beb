/-
  DERIVED: THE SHELF's CONTRACTS AT THIS DUMP, IN PLAIN WORDS (tools/lay-plain.mjs out of 'TryzShelf.lean', which tools/lay-shelf.mjs wrote): THE SAME DECLARATIONS UNDER THE SAME NAMES: 'import', 'namespace', 'open', 'def', 'theorem' AND NOTHING ELSE: no command of the shelf's: FOR A HAND-IN. Each laying: the table of numbers ('.._ren') and one theorem, a field a fact of the dump's own or the kernel's comparison; each contract: ONE APPLICATION.
-/
import Derived.Shelf.SortG.Plain
import Derived.Ground.SlgnProg
import Derived.Ground.NamesProg
import Derived.Test.YtnkednjklfpblaaGreatDoorProg
namespace Go.Proofs
open Go.Shelf
def Tryz.sortFd_ren : Go.Shelf.Ren := ⟨fun | 53 => 62 | 64 => 83 | 63 => 82 | 78 => 108 | 79 => 109 | 70 => 99 | 71 => 100 | 72 => 101 | 73 => 102 | 74 => 103 | 75 => 104 | 59 => 105 | 76 => 106 | 77 => 107 | 88 => 124 | 89 => 125 | 90 => 126 | 91 => 127 | 92 => 128 | 68 => 129 | 96 => 144 | n => n, fun | 22 => 73 | 23 => 75 | 3 => 3 | 51 => 129 | 0 => 0 | 67 => 25 | 69 => 24 | 4 => 4 | 61 => 162 | 60 => 161 | 44 => 167 | 5 => 5 | 9 => 9 | 75 => 185 | 79 => 189 | 83 => 203 | 84 => 204 | n => n, fun | n => n⟩
theorem Tryz.sortFd : Go.Proofs.SlLaysN.n53 Tryz.prog Tryz.sortFd_ren := {
  mixed := by kernel_rfl
  f53 := ⟨Tryz.f62.name, by decide, Tryz.func62.trans (congrArg some (by kernel_rfl))⟩
  f59 := ⟨Tryz.f105.name, by decide, Tryz.func105.trans (congrArg some (by kernel_rfl))⟩
  f63 := ⟨Tryz.f82.name, by decide, Tryz.func82.trans (congrArg some (by kernel_rfl))⟩
  f64 := Tryz.func83.trans (congrArg some (by kernel_rfl))
  f68 := ⟨Tryz.f129.name, by decide, Tryz.func129.trans (congrArg some (by kernel_rfl))⟩
  f70 := ⟨Tryz.f99.name, by decide, Tryz.func99.trans (congrArg some (by kernel_rfl))⟩
  f71 := ⟨Tryz.f100.name, by decide, Tryz.func100.trans (congrArg some (by kernel_rfl))⟩
  f72 := ⟨Tryz.f101.name, by decide, Tryz.func101.trans (congrArg some (by kernel_rfl))⟩
  f73 := ⟨Tryz.f102.name, by decide, Tryz.func102.trans (congrArg some (by kernel_rfl))⟩
  f74 := ⟨Tryz.f103.name, by decide, Tryz.func103.trans (congrArg some (by kernel_rfl))⟩
  f75 := ⟨Tryz.f104.name, by decide, Tryz.func104.trans (congrArg some (by kernel_rfl))⟩
  f76 := ⟨Tryz.f106.name, by decide, Tryz.func106.trans (congrArg some (by kernel_rfl))⟩
  f77 := ⟨Tryz.f107.name, by decide, Tryz.func107.trans (congrArg some (by kernel_rfl))⟩
  f78 := Tryz.func108.trans (congrArg some (by kernel_rfl))
  f79 := Tryz.func109.trans (congrArg some (by kernel_rfl))
  f88 := ⟨Tryz.f124.name, by decide, Tryz.func124.trans (congrArg some (by kernel_rfl))⟩
  f89 := Tryz.func125.trans (congrArg some (by kernel_rfl))
  f90 := Tryz.func126.trans (congrArg some (by kernel_rfl))
  f91 := ⟨Tryz.f127.name, by decide, Tryz.func127.trans (congrArg some (by kernel_rfl))⟩
  f92 := ⟨Tryz.f128.name, by decide, Tryz.func128.trans (congrArg some (by kernel_rfl))⟩
  f96 := ⟨Tryz.f144.name, by decide, Tryz.func144.trans (congrArg some (by kernel_rfl))⟩
  t0 := Tryz.underlying0
  a0 := Tryz.isAgg0
  z0 := Tryz.sizeOf0
  v0 := Tryz.zeroValue0
  t3 := Tryz.underlying3
  a3 := Tryz.isAgg3
  z3 := Tryz.sizeOf3
  v3 := Tryz.zeroValue3
  t4 := Tryz.underlying4
  a4 := Tryz.isAgg4
  z4 := Tryz.sizeOf4
  v4 := Tryz.zeroValue4
  t5 := Tryz.underlying5
  a5 := Tryz.isAgg5
  z5 := Tryz.sizeOf5
  v5 := Tryz.zeroValue5
  t9 := Tryz.underlying9
  a9 := Tryz.isAgg9
  z9 := Tryz.sizeOf9
  v9 := Tryz.zeroValue9
  t22 := Tryz.underlying73
  a22 := Tryz.isAgg73
  z22 := Tryz.sizeOf73
  v22 := Tryz.zeroValue73
  t23 := Tryz.underlying75
  a23 := Tryz.isAgg75
  z23 := Tryz.sizeOf75
  v23 := Tryz.zeroValue75
  t44 := Tryz.underlying167
  a44 := Tryz.isAgg167
  z44 := Tryz.sizeOf167
  v44 := Tryz.zeroValue167
  t51 := Tryz.underlying129
  a51 := Tryz.isAgg129
  z51 := Tryz.sizeOf129
  v51 := Tryz.zeroValue129
  t60 := Tryz.underlying161
  a60 := Tryz.isAgg161
  z60 := Tryz.sizeOf161
  v60 := Tryz.zeroValue161
  t61 := Tryz.underlying162
  a61 := Tryz.isAgg162
  z61 := Tryz.sizeOf162
  v61 := Tryz.zeroValue162
  t67 := Tryz.underlying25
  a67 := Tryz.isAgg25
  z67 := Tryz.sizeOf25
  v67 := Tryz.zeroValue25
  t69 := Tryz.underlying24
  a69 := Tryz.isAgg24
  z69 := Tryz.sizeOf24
  v69 := Tryz.zeroValue24
  t75 := Tryz.underlying185
  a75 := Tryz.isAgg185
  z75 := Tryz.sizeOf185
  v75 := Tryz.zeroValue185
  t79 := Tryz.underlying189
  a79 := Tryz.isAgg189
  z79 := Tryz.sizeOf189
  v79 := Tryz.zeroValue189
  t83 := Tryz.underlying203
  a83 := Tryz.isAgg203
  z83 := Tryz.sizeOf203
  v83 := Tryz.zeroValue203
  t84 := Tryz.underlying204
  a84 := Tryz.isAgg204
  z84 := Tryz.sizeOf204
  v84 := Tryz.zeroValue204 }
end Go.Proofs
