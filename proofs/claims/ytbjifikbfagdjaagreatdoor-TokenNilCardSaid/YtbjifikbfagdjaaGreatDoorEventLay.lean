/-
  DERIVED: THE SHELF's CONTRACTS AT THIS DUMP, IN PLAIN WORDS (tools/lay-plain.mjs out of 'TryzShelf.lean', which tools/lay-shelf.mjs wrote): THE SAME DECLARATIONS UNDER THE SAME NAMES: 'import', 'namespace', 'open', 'def', 'theorem' AND NOTHING ELSE: no command of the shelf's: FOR A HAND-IN. Each laying: the table of numbers ('.._ren') and one theorem, a field a fact of the dump's own or the kernel's comparison; each contract: ONE APPLICATION.
-/
import Derived.Shelf.SortG.Plain
import Derived.Ground.SlgnProg
import Derived.Ground.NamesProg
import Derived.Test.YtbjifikbfagdjaaGreatDoorProg
namespace Go.Proofs
open Go.Shelf
def Tryz.sortFd_ren : Go.Shelf.Ren := ⟨fun | 53 => 114 | 64 => 96 | 63 => 142 | 78 => 130 | 79 => 131 | 70 => 166 | 71 => 167 | 72 => 168 | 73 => 169 | 74 => 170 | 75 => 171 | 59 => 172 | 76 => 173 | 77 => 174 | 88 => 196 | 89 => 151 | 90 => 152 | 91 => 197 | 92 => 198 | 68 => 199 | 96 => 218 | n => n, fun | 22 => 143 | 23 => 144 | 3 => 3 | 51 => 163 | 0 => 0 | 67 => 49 | 69 => 29 | 4 => 4 | 61 => 197 | 60 => 196 | 44 => 173 | 5 => 5 | 9 => 9 | 75 => 220 | 79 => 224 | 83 => 247 | 84 => 193 | n => n, fun | n => n⟩
theorem Tryz.sortFd : Go.Proofs.SlLaysN.n53 Tryz.prog Tryz.sortFd_ren := {
  mixed := by kernel_rfl
  f53 := ⟨Tryz.f114.name, by decide, Tryz.func114.trans (congrArg some (by kernel_rfl))⟩
  f59 := ⟨Tryz.f172.name, by decide, Tryz.func172.trans (congrArg some (by kernel_rfl))⟩
  f63 := ⟨Tryz.f142.name, by decide, Tryz.func142.trans (congrArg some (by kernel_rfl))⟩
  f64 := Tryz.func96.trans (congrArg some (by kernel_rfl))
  f68 := ⟨Tryz.f199.name, by decide, Tryz.func199.trans (congrArg some (by kernel_rfl))⟩
  f70 := ⟨Tryz.f166.name, by decide, Tryz.func166.trans (congrArg some (by kernel_rfl))⟩
  f71 := ⟨Tryz.f167.name, by decide, Tryz.func167.trans (congrArg some (by kernel_rfl))⟩
  f72 := ⟨Tryz.f168.name, by decide, Tryz.func168.trans (congrArg some (by kernel_rfl))⟩
  f73 := ⟨Tryz.f169.name, by decide, Tryz.func169.trans (congrArg some (by kernel_rfl))⟩
  f74 := ⟨Tryz.f170.name, by decide, Tryz.func170.trans (congrArg some (by kernel_rfl))⟩
  f75 := ⟨Tryz.f171.name, by decide, Tryz.func171.trans (congrArg some (by kernel_rfl))⟩
  f76 := ⟨Tryz.f173.name, by decide, Tryz.func173.trans (congrArg some (by kernel_rfl))⟩
  f77 := ⟨Tryz.f174.name, by decide, Tryz.func174.trans (congrArg some (by kernel_rfl))⟩
  f78 := Tryz.func130.trans (congrArg some (by kernel_rfl))
  f79 := Tryz.func131.trans (congrArg some (by kernel_rfl))
  f88 := ⟨Tryz.f196.name, by decide, Tryz.func196.trans (congrArg some (by kernel_rfl))⟩
  f89 := Tryz.func151.trans (congrArg some (by kernel_rfl))
  f90 := Tryz.func152.trans (congrArg some (by kernel_rfl))
  f91 := ⟨Tryz.f197.name, by decide, Tryz.func197.trans (congrArg some (by kernel_rfl))⟩
  f92 := ⟨Tryz.f198.name, by decide, Tryz.func198.trans (congrArg some (by kernel_rfl))⟩
  f96 := ⟨Tryz.f218.name, by decide, Tryz.func218.trans (congrArg some (by kernel_rfl))⟩
  t0 := Tryz.underlying0
  a0 := Tryz.isAgg0
  z0 := Tryz.sizeOf0
  v0 := Tryz.zeroValue0
  t3 := Tryz.underlying3
  a3 := Tryz.isAgg3
  z3 := Tryz.sizeOf3
  v3 := Tryz.zeroValue3
  t4 := Tryz.underlying4
  a4 := Tryz.isAgg4
  z4 := Tryz.sizeOf4
  v4 := Tryz.zeroValue4
  t5 := Tryz.underlying5
  a5 := Tryz.isAgg5
  z5 := Tryz.sizeOf5
  v5 := Tryz.zeroValue5
  t9 := Tryz.underlying9
  a9 := Tryz.isAgg9
  z9 := Tryz.sizeOf9
  v9 := Tryz.zeroValue9
  t22 := Tryz.underlying143
  a22 := Tryz.isAgg143
  z22 := Tryz.sizeOf143
  v22 := Tryz.zeroValue143
  t23 := Tryz.underlying144
  a23 := Tryz.isAgg144
  z23 := Tryz.sizeOf144
  v23 := Tryz.zeroValue144
  t44 := Tryz.underlying173
  a44 := Tryz.isAgg173
  z44 := Tryz.sizeOf173
  v44 := Tryz.zeroValue173
  t51 := Tryz.underlying163
  a51 := Tryz.isAgg163
  z51 := Tryz.sizeOf163
  v51 := Tryz.zeroValue163
  t60 := Tryz.underlying196
  a60 := Tryz.isAgg196
  z60 := Tryz.sizeOf196
  v60 := Tryz.zeroValue196
  t61 := Tryz.underlying197
  a61 := Tryz.isAgg197
  z61 := Tryz.sizeOf197
  v61 := Tryz.zeroValue197
  t67 := Tryz.underlying49
  a67 := Tryz.isAgg49
  z67 := Tryz.sizeOf49
  v67 := Tryz.zeroValue49
  t69 := Tryz.underlying29
  a69 := Tryz.isAgg29
  z69 := Tryz.sizeOf29
  v69 := Tryz.zeroValue29
  t75 := Tryz.underlying220
  a75 := Tryz.isAgg220
  z75 := Tryz.sizeOf220
  v75 := Tryz.zeroValue220
  t79 := Tryz.underlying224
  a79 := Tryz.isAgg224
  z79 := Tryz.sizeOf224
  v79 := Tryz.zeroValue224
  t83 := Tryz.underlying247
  a83 := Tryz.isAgg247
  z83 := Tryz.sizeOf247
  v83 := Tryz.zeroValue247
  t84 := Tryz.underlying193
  a84 := Tryz.isAgg193
  z84 := Tryz.sizeOf193
  v84 := Tryz.zeroValue193 }
end Go.Proofs
