/-
  What the proof of EventForms stands on, part 24.
-/
import Derived.ChangeArms
import Derived.Ground.SlgnProg
import Derived.Lib.LaidTab
import Derived.OwnWalk
import Derived.Shelf.SortG.Plain
import Derived.Sort.OwnSortedInts
import Derived.Test.YtbiplmbcdhjiaaaGreatDoorT23
set_option linter.unusedSimpArgs false
set_option linter.unusedVariables false
set_option maxHeartbeats 16000000
namespace Go.Proofs.YtbiplmbcdhjiaaaGreatDoor
open Go.Lib (hid)
section
open Go.RowKit
namespace EvN
open StrC
open VerC (Vw)
theorem zsg {H : Type} {enc : TypeId × Value → H} {P : Program} {w : World} {base : Nat} {sp : Nat → Bool} {held : Bool} {fuel : Nat} {t e : TypeId} {n : Nat} {cs : List Value} {zs : List (List UInt8)} {p : List MemPlace}
 (ht : P.underlying t = some (.array n e)) (he : P.underlying e = some .string) (hce : P.cellsOf e = 1) (hct : P.cellsOf t = n)
 (h : DataW.trod enc P w base sp held fuel t cs = some (.agg (zs.map fun z => .lit (.string z)), p)) : cs = zs.map fun z => Value.string (str z) := by
 cases fuel with
 | zero => simp [DataW.trod] at h
 | succ fuel =>
  simp only [DataW.trod, ht, hce, hct, Nat.mul_one] at h
  split at h
  · rename_i hl
    obtain ⟨xs, hm, hx⟩ := Option.map_eq_some_iff.1 h
    have hxs : xs.map (·.1) = zs.map fun z => (DataW.lit (.string z) : DataW H) := by
     have := congrArg Prod.fst hx
     simpa using this
    have hxl : xs.length = n := by simpa using Lib.mapM_length hm
    have hzl : zs.length = n := by
     have := congrArg List.length hxs
     simp at this
     omega
    apply List.ext_getElem?
    intro i
    by_cases hi : i < n
    · obtain ⟨b, hb, hf⟩ := Lib.mapM_at hm i i (by simp [hi])
      obtain ⟨z, hc, rfl, _⟩ := DataW.trod_string he hf
      have h1 : cs[i]? = some (.string z) := by
       have := congrArg (·[0]?) hc
       simpa [List.getElem?_take, List.getElem?_drop] using this
      have h2 : (xs.map (·.1))[i]? = some (DataW.lit (.string z.data.toList) : DataW H) := by simp [hb]
      rw [hxs] at h2
      simp only [List.getElem?_map, Option.map_eq_some_iff, DataW.lit.injEq, Lit.string.injEq] at h2
      obtain ⟨z', hz', rfl⟩ := h2
      simp [h1, hz', str]
    · rw [List.getElem?_eq_none (by omega), List.getElem?_eq_none (by simp; omega)]
  · cases h
theorem zsh : Tryz.prog.globalNamed "yankline/event.words" = some 0 := by kernel_rfl
def wordsL : List (List UInt8) := [[], [97, 99, 99, 111, 117, 110, 116], [112, 117, 98, 108, 105, 115, 104], [121, 97, 110, 107], [117, 110, 121, 97, 110, 107], [100, 101, 112, 114, 101, 99, 97, 116, 101], [111, 119, 110], [100, 105, 115, 111, 119, 110], [116, 101, 97, 109], [106, 111, 105, 110], [108, 101, 97, 118, 101]]
theorem zsi {W : World} {rest : List (String × DataW Unit)} (h : laidMet Tryz.prog (("yankline/event.words", Rows.laid_yankline_event_words) :: rest) W) (i : Nat) (hi : i < 11) : W.cell? ⟨0, i, none⟩ = some (.string (str (wordsL.getD i []))) := by
 obtain ⟨ps, ⟨g', t', cs, fuel, p, q, hg', ht', hvar, hd, _, _⟩, _⟩ := h
 obtain rfl := Option.some.inj (zsh.symm.trans hg')
 obtain rfl := Option.some.inj ((show (Tryz.prog.globals[0]?).map (·.type) = some 75 by kernel_rfl).symm.trans ht')
 have hcs := zsg (zs := wordsL) Tryz.underlying75 Tryz.underlying9 (by kernel_rfl) (by kernel_rfl) hd
 have := World.var?_cell zsh hvar i
 rw [this]
 have hi' : i < wordsL.length := hi
 have h2 : cs[i]? = cs.toList[i]? := by simp
 rw [h2, hcs]
 simp [hi']
structure VarsE (w : World) : Prop where
 vw : Vw w
 yank : w.cell? ⟨0, 3, none⟩ = some (.string (str [121, 97, 110, 107]))
 words : ∀ k, k < 11 → w.cell? ⟨0, k, none⟩ = some (.string (str (wordsL.getD k [])))
def laidL : List (String × DataW Unit) := [("math/bits.deBruijn32tab", Rows.laid_math_bits_deBruijn32tab), ("math/bits.deBruijn64tab", Rows.laid_math_bits_deBruijn64tab), ("internal/strconv.uint64pow10", Rows.laid_internal_strconv_uint64pow10), ("unicode/utf8.acceptRanges", Rows.laid_unicode_utf8_acceptRanges), ("strconv.ErrRange", Rows.laid_strconv_ErrRange), ("strconv.ErrSyntax", Rows.laid_strconv_ErrSyntax), ("yankline/event.words", Rows.laid_yankline_event_words), ("unicode/utf8.first", Rows.laid_unicode_utf8_first)]
theorem varsE_of {W : World} (h : laidMetH Tryz.prog laidL W) (hs : W.ShapedOpen Tryz.prog) : VarsE W := by
 suffices hq : ∀ k, k < 11 → W.cell? ⟨0, k, none⟩ = some (.string (str (wordsL.getD k []))) from ⟨VerC.vw_of (h.filter (fun x => x.1 != "yankline/event.words")) hs, hq 3 (by decide), hq⟩
 intro k hk
 have h1 := h.filter (fun x => x.1 == "yankline/event.words")
 have h2 : laidMet Tryz.prog [("yankline/event.words", Rows.laid_yankline_event_words)] W := by
  rw [← MakeChecks.laidMetH_plain _ _ _ (by kernel_rfl)]
  exact h1
 exact zsi h2 k hk
def laidD : List (String × DataW Unit) := laidL.filter fun x => x.2.handleName?.isNone
noncomputable def laidW (os : Os) : World := (World.holding Tryz.prog os ⟨#[], #[], []⟩).layVars Tryz.prog laidD
theorem laidW_os (os : Os) : (laidW os).os = os := World.layVars_os _ _ _
set_option maxRecDepth 100000 in
theorem laidW_met (os : Os) (args : Array Value) : laidMetH Tryz.prog laidL ((laidW os).forCall (fun _ _ => 0) ⟨#[], args, []⟩).memory :=
 laidMetH_of_parts (laidMet_layVars (w0 := World.holding Tryz.prog os ⟨#[], #[], []⟩) (laidL.map (·.1)) [] (by kernel_rfl) (by kernel_rfl) (by kernel_rfl) LaidIn.none) (by kernel_rfl)
end EvN
end
end Go.Proofs.YtbiplmbcdhjiaaaGreatDoor
section
namespace Go.Proofs
open Go.Shelf
def Tryz.sortFd_ren : Go.Shelf.Ren := ⟨fun | 53 => 66 | 64 => 119 | 63 => 118 | 78 => 155 | 79 => 156 | 70 => 146 | 71 => 147 | 72 => 148 | 73 => 149 | 74 => 150 | 75 => 151 | 59 => 152 | 76 => 153 | 77 => 154 | 88 => 179 | 89 => 180 | 90 => 181 | 91 => 182 | 92 => 183 | 68 => 184 | 96 => 212 | n => n, fun | 22 => 62 | 23 => 64 | 3 => 3 | 51 => 136 | 0 => 0 | 67 => 25 | 69 => 24 | 4 => 4 | 61 => 211 | 60 => 210 | 44 => 216 | 5 => 5 | 9 => 9 | 75 => 247 | 79 => 251 | 83 => 277 | 84 => 101 | n => n, fun | n => n⟩
theorem Tryz.sortFd : Go.Proofs.SlLaysN.n53 Tryz.prog Tryz.sortFd_ren := {
 mixed := by kernel_rfl
 f53 := ⟨Tryz.f66.name, by decide, Tryz.func66.trans (congrArg some (by kernel_rfl))⟩
 f59 := ⟨Tryz.f152.name, by decide, Tryz.func152.trans (congrArg some (by kernel_rfl))⟩
 f63 := ⟨Tryz.f118.name, by decide, Tryz.func118.trans (congrArg some (by kernel_rfl))⟩
 f64 := Tryz.func119.trans (congrArg some (by kernel_rfl))
 f68 := ⟨Tryz.f184.name, by decide, Tryz.func184.trans (congrArg some (by kernel_rfl))⟩
 f70 := ⟨Tryz.f146.name, by decide, Tryz.func146.trans (congrArg some (by kernel_rfl))⟩
 f71 := ⟨Tryz.f147.name, by decide, Tryz.func147.trans (congrArg some (by kernel_rfl))⟩
 f72 := ⟨Tryz.f148.name, by decide, Tryz.func148.trans (congrArg some (by kernel_rfl))⟩
 f73 := ⟨Tryz.f149.name, by decide, Tryz.func149.trans (congrArg some (by kernel_rfl))⟩
 f74 := ⟨Tryz.f150.name, by decide, Tryz.func150.trans (congrArg some (by kernel_rfl))⟩
 f75 := ⟨Tryz.f151.name, by decide, Tryz.func151.trans (congrArg some (by kernel_rfl))⟩
 f76 := ⟨Tryz.f153.name, by decide, Tryz.func153.trans (congrArg some (by kernel_rfl))⟩
 f77 := ⟨Tryz.f154.name, by decide, Tryz.func154.trans (congrArg some (by kernel_rfl))⟩
 f78 := Tryz.func155.trans (congrArg some (by kernel_rfl))
 f79 := Tryz.func156.trans (congrArg some (by kernel_rfl))
 f88 := ⟨Tryz.f179.name, by decide, Tryz.func179.trans (congrArg some (by kernel_rfl))⟩
 f89 := Tryz.func180.trans (congrArg some (by kernel_rfl))
 f90 := Tryz.func181.trans (congrArg some (by kernel_rfl))
 f91 := ⟨Tryz.f182.name, by decide, Tryz.func182.trans (congrArg some (by kernel_rfl))⟩
 f92 := ⟨Tryz.f183.name, by decide, Tryz.func183.trans (congrArg some (by kernel_rfl))⟩
 f96 := ⟨Tryz.f212.name, by decide, Tryz.func212.trans (congrArg some (by kernel_rfl))⟩
 t0 := Tryz.underlying0
 a0 := Tryz.isAgg0
 z0 := Tryz.sizeOf0
 v0 := Tryz.zeroValue0
 t3 := Tryz.underlying3
 a3 := Tryz.isAgg3
 z3 := Tryz.sizeOf3
 v3 := Tryz.zeroValue3
 t4 := Tryz.underlying4
 a4 := Tryz.isAgg4
 z4 := Tryz.sizeOf4
 v4 := Tryz.zeroValue4
 t5 := Tryz.underlying5
 a5 := Tryz.isAgg5
 z5 := Tryz.sizeOf5
 v5 := Tryz.zeroValue5
 t9 := Tryz.underlying9
 a9 := Tryz.isAgg9
 z9 := Tryz.sizeOf9
 v9 := Tryz.zeroValue9
 t22 := Tryz.underlying62
 a22 := Tryz.isAgg62
 z22 := Tryz.sizeOf62
 v22 := Tryz.zeroValue62
 t23 := Tryz.underlying64
 a23 := Tryz.isAgg64
 z23 := Tryz.sizeOf64
 v23 := Tryz.zeroValue64
 t44 := Tryz.underlying216
 a44 := Tryz.isAgg216
 z44 := Tryz.sizeOf216
 v44 := Tryz.zeroValue216
 t51 := Tryz.underlying136
 a51 := Tryz.isAgg136
 z51 := Tryz.sizeOf136
 v51 := Tryz.zeroValue136
 t60 := Tryz.underlying210
 a60 := Tryz.isAgg210
 z60 := Tryz.sizeOf210
 v60 := Tryz.zeroValue210
 t61 := Tryz.underlying211
 a61 := Tryz.isAgg211
 z61 := Tryz.sizeOf211
 v61 := Tryz.zeroValue211
 t67 := Tryz.underlying25
 a67 := Tryz.isAgg25
 z67 := Tryz.sizeOf25
 v67 := Tryz.zeroValue25
 t69 := Tryz.underlying24
 a69 := Tryz.isAgg24
 z69 := Tryz.sizeOf24
 v69 := Tryz.zeroValue24
 t75 := Tryz.underlying247
 a75 := Tryz.isAgg247
 z75 := Tryz.sizeOf247
 v75 := Tryz.zeroValue247
 t79 := Tryz.underlying251
 a79 := Tryz.isAgg251
 z79 := Tryz.sizeOf251
 v79 := Tryz.zeroValue251
 t83 := Tryz.underlying277
 a83 := Tryz.isAgg277
 z83 := Tryz.sizeOf277
 v83 := Tryz.zeroValue277
 t84 := Tryz.underlying101
 a84 := Tryz.isAgg101
 z84 := Tryz.sizeOf101
 v84 := Tryz.zeroValue101 }
end Go.Proofs
end
namespace Go.Proofs.YtbiplmbcdhjiaaaGreatDoor
open Go.Lib (hid)
section
open Go.RowKit Go.Sort Go.Shelf
namespace EvF
def fieldsM (k : Nat) : List Int := match k with
 | 1 => [0, 4]
 | 2 => [0, 1, 2, 3, 4, 5, 6]
 | 3 => [0, 1, 2]
 | 4 => [0, 1, 2]
 | 5 => [0, 1, 2, 9]
 | 6 => [0, 1, 7]
 | 7 => [0, 1, 7]
 | 8 => [0, 7]
 | 9 => [0, 7, 8]
 | 10 => [0, 7, 8]
 | _ => []
theorem zsj : (Tryz.prog.info? 64).map (fun i => (i.zero, i.size, i.bytes)) = some (some (.int .i64 0), 1, 8) := by kernel_rfl
def FRow (w : World) (D : Nat) (v : Value) (L : List Int) : Prop := w.ownsRow D 64 1 v L.length (L.map (Value.int .i64))
def FieldsE (L : List Int) (w : World) (e : Ending) (w' : World) : Prop := ∃ v, e = .returned v ∧ FRow w' w.heap.size v L ∧ Below w.heap.size w w'
theorem zsk (w : World) (l : List Value) (t : TypeId) : ∀ j u, l[j]? = some u → (w.alloc (.cells l.toArray t)).cell? ((⟨w.heap.size, 0, none⟩ : Addr).add j) = some u := by
 intro j u hu
 rw [Go.WideShapes.add_plain, Nat.zero_add]
 simp only [World.cell?, heap_alloc_new]
 simpa using hu
theorem zsl (l : List Int) : ∀ u ∈ l.map (Value.int .i64), u.oneCell' = true := by
 intro u hu
 obtain ⟨x, -, rfl⟩ := List.mem_map.1 hu
 rfl
theorem zsm {zs ss : List Int} (hp : zs.Perm ss) (hs : ss.Pairwise (· ≤ ·)) : zs.mergeSort (fun x y => decide (x ≤ y)) = ss := by
 have h1 : (zs.mergeSort (fun x y => decide (x ≤ y))).Pairwise (fun x y => decide (x ≤ y) = true) := List.pairwise_mergeSort (fun a b c => by simp; omega) (fun a b => by simp; omega) zs
 have h2 := List.mergeSort_perm zs (fun x y => decide (x ≤ y))
 exact List.Perm.eq_of_pairwise (le := fun x y => x ≤ y) (fun a b _ _ h k => Int.le_antisymm h k) (h1.imp fun h => by simpa using h) hs (h2.trans hp)
theorem zsn {w : World} {D : Nat} {v : Value} (zs ss : List Int) (hm : zs.mergeSort (fun x y => decide (x ≤ y)) = ss) (hl : ss.length = zs.length) (h0 : 0 < zs.length) (hs : zs.length ≤ 1000) (hown : FRow w D v zs) :
 ∃ g cp, v = .slice (some ⟨g, 0, none⟩) zs.length cp ∧ D ≤ g ∧ Calls Tryz.prog 66 #[.slice (some ⟨g, 0, none⟩) zs.length cp] w fun e w' => e = .returned (.tuple #[]) ∧ FRow w' D (.slice (some ⟨g, 0, none⟩) zs.length cp) ss ∧ w.grownBy w' (some g) := by
 rcases hown.2 with ⟨hnil, hz⟩ | ⟨g, cp, cur, rfl, hbase, hblk, h1, h2, h3, h4⟩
 · omega
 · have hgl : g < w.heap.size := (Array.getElem?_eq_some_iff.1 hblk).1
   refine ⟨g, cp, rfl, hbase, (AnyG.slices_Sort_int Tryz.sortFd g 0 cp zs w (holds_of_blockI hblk (by rw [Nat.mul_one] at h4; exact h4)) hgl (by omega)).mono ?_⟩
   rintro e w' ⟨rfl, n, os, rfl⟩
   rw [hm]
   have ho := ownsRow_sortedI (n := n) (os := os) hl hbase hblk h1 h2 h3
   refine ⟨rfl, ?_, grownBy_sortedI _⟩
   unfold FRow
   rw [hl]
   exact ho
set_option maxRecDepth 100000 in
theorem zso (w : World) : Calls Tryz.prog 32 #[.int .u8 1] w (FieldsE [0, 4] w) := by
 obtain ⟨i0, hi, hz0, hz1, hz2⟩ := info_parts zsj
 have hm : ([0, 4] : List Int).mergeSort (fun x y => decide (x ≤ y)) = [0, 4] := zsm (by decide) (by decide)
 go_enter Tryz.func32, Tryz.ntmps32
 go_wp2_with (first | (at_builtin; refine wpList_append_own _ rfl _ _ 62 rfl w.heap.size 64 i0 (.int .i64 0) 1 8 Tryz.underlying62 hi hz0 hz1 hz2 rfl (by decide) _ 0 [] rfl (World.ownsRow.alloc (World.ownsRow_nil w w.heap.size 64 1) _) ⟨w.heap.size, 0, none⟩ 2 2 [.int .i64 0, .int .i64 4] rfl rfl ?c1 ?c2 ?c3 ?c4 ?c5 ?_) | fail)
 case c1 => exact zsk w [.int .i64 0, .int .i64 4] 64
 case c2 => exact zsl [0, 4]
 case c3 => unfold maxLen; decide
 case c4 => decide
 case c5 => simp
 intro v1 w1 hown1 hg1 _
 have hb1 : Below w.heap.size w w1 := ((Below.refl w.heap.size w).alloc (Nat.le_refl _) _).grown hg1 (by simp) (fun j hj => by cases hj)
 have hrow : FRow w1 w.heap.size v1 [0, 4] := hown1
 obtain ⟨g, cp, rfl, hbase, HS⟩ := zsn [0, 4] [0, 4] hm rfl (by decide) (by decide) hrow
 have HSH := hid HS
 have HB := hid hb1
 clear HS
 go_wp2_with (first | (go_at_call 66; refine HSH.out.mono ?_; rintro e w' ⟨rfl, ho, hg⟩) | fail)
 go_ret
 exact ⟨_, rfl, ho, HB.out.grown hg HB.out.size (fun j hj => by cases hj; exact hbase)⟩
set_option maxRecDepth 100000 in
theorem zsp (w : World) : Calls Tryz.prog 32 #[.int .u8 2] w (FieldsE [0, 1, 2, 3, 4, 5, 6] w) := by
 obtain ⟨i0, hi, hz0, hz1, hz2⟩ := info_parts zsj
 have hm : ([1, 2, 3, 5, 6, 0, 4] : List Int).mergeSort (fun x y => decide (x ≤ y)) = [0, 1, 2, 3, 4, 5, 6] := zsm (by decide) (by decide)
 go_enter Tryz.func32, Tryz.ntmps32
 go_wp2_with (first | (at_builtin; refine wpList_append_own _ rfl _ _ 62 rfl w.heap.size 64 i0 (.int .i64 0) 1 8 Tryz.underlying62 hi hz0 hz1 hz2 rfl (by decide) _ 0 [] rfl (World.ownsRow.alloc (World.ownsRow_nil w w.heap.size 64 1) _) ⟨w.heap.size, 0, none⟩ 5 5 [.int .i64 1, .int .i64 2, .int .i64 3, .int .i64 5, .int .i64 6] rfl rfl ?c1 ?c2 ?c3 ?c4 ?c5 ?_) | fail)
 case c1 => exact zsk w [.int .i64 1, .int .i64 2, .int .i64 3, .int .i64 5, .int .i64 6] 64
 case c2 => exact zsl [1, 2, 3, 5, 6]
 case c3 => unfold maxLen; decide
 case c4 => decide
 case c5 => simp
 intro v1 w1 hown1 hg1 _
 have hb1 : Below w.heap.size w w1 := ((Below.refl w.heap.size w).alloc (Nat.le_refl _) _).grown hg1 (by simp) (fun j hj => by cases hj)
 go_wp2_with (first | (at_builtin; refine wpList_append_own _ rfl _ _ 62 rfl w.heap.size 64 i0 (.int .i64 0) 1 8 Tryz.underlying62 hi hz0 hz1 hz2 rfl (by decide) _ 5 ([1, 2, 3, 5, 6].map (Value.int .i64)) rfl (World.ownsRow.alloc hown1 _) ⟨w1.heap.size, 0, none⟩ 2 2 [.int .i64 0, .int .i64 4] rfl rfl ?c1 ?c2 ?c3 ?c4 ?c5 ?_) | fail)
 case c1 => exact zsk w1 [.int .i64 0, .int .i64 4] 64
 case c2 => exact zsl [0, 4]
 case c3 => unfold maxLen; decide
 case c4 => decide
 case c5 => have := hb1.size; simp; omega
 intro v2 w2 hown2 hg2 _
 have hb2 : Below w.heap.size w w2 := (hb1.alloc hb1.size _).grown hg2 (by have := hb1.size; simp; omega) (fun j hj => (World.ownsRow.lt hown1 j hj).1)
 have hrow : FRow w2 w.heap.size v2 [1, 2, 3, 5, 6, 0, 4] := hown2
 obtain ⟨g, cp, rfl, hbase, HS⟩ := zsn [1, 2, 3, 5, 6, 0, 4] [0, 1, 2, 3, 4, 5, 6] hm rfl (by decide) (by decide) hrow
 have HSH := hid HS
 have HB := hid hb2
 clear HS
 go_wp2_with (first | (go_at_call 66; refine HSH.out.mono ?_; rintro e w' ⟨rfl, ho, hg⟩) | fail)
 go_ret
 exact ⟨_, rfl, ho, HB.out.grown hg HB.out.size (fun j hj => by cases hj; exact hbase)⟩
set_option maxRecDepth 100000 in
theorem zsq (w : World) : Calls Tryz.prog 32 #[.int .u8 3] w (FieldsE [0, 1, 2] w) := by
 obtain ⟨i0, hi, hz0, hz1, hz2⟩ := info_parts zsj
 have hm : ([0, 1, 2] : List Int).mergeSort (fun x y => decide (x ≤ y)) = [0, 1, 2] := zsm (by decide) (by decide)
 go_enter Tryz.func32, Tryz.ntmps32
 go_wp2_with (first | (at_builtin; refine wpList_append_own _ rfl _ _ 62 rfl w.heap.size 64 i0 (.int .i64 0) 1 8 Tryz.underlying62 hi hz0 hz1 hz2 rfl (by decide) _ 0 [] rfl (World.ownsRow.alloc (World.ownsRow_nil w w.heap.size 64 1) _) ⟨w.heap.size, 0, none⟩ 3 3 [.int .i64 0, .int .i64 1, .int .i64 2] rfl rfl ?c1 ?c2 ?c3 ?c4 ?c5 ?_) | fail)
 case c1 => exact zsk w [.int .i64 0, .int .i64 1, .int .i64 2] 64
 case c2 => exact zsl [0, 1, 2]
 case c3 => unfold maxLen; decide
 case c4 => decide
 case c5 => simp
 intro v1 w1 hown1 hg1 _
 have hb1 : Below w.heap.size w w1 := ((Below.refl w.heap.size w).alloc (Nat.le_refl _) _).grown hg1 (by simp) (fun j hj => by cases hj)
 have hrow : FRow w1 w.heap.size v1 [0, 1, 2] := hown1
 obtain ⟨g, cp, rfl, hbase, HS⟩ := zsn [0, 1, 2] [0, 1, 2] hm rfl (by decide) (by decide) hrow
 have HSH := hid HS
 have HB := hid hb1
 clear HS
 go_wp2_with (first | (go_at_call 66; refine HSH.out.mono ?_; rintro e w' ⟨rfl, ho, hg⟩) | fail)
 go_ret
 exact ⟨_, rfl, ho, HB.out.grown hg HB.out.size (fun j hj => by cases hj; exact hbase)⟩
set_option maxRecDepth 100000 in
theorem zsr (w : World) : Calls Tryz.prog 32 #[.int .u8 4] w (FieldsE [0, 1, 2] w) := by
 obtain ⟨i0, hi, hz0, hz1, hz2⟩ := info_parts zsj
 have hm : ([0, 1, 2] : List Int).mergeSort (fun x y => decide (x ≤ y)) = [0, 1, 2] := zsm (by decide) (by decide)
 go_enter Tryz.func32, Tryz.ntmps32
 go_wp2_with (first | (at_builtin; refine wpList_append_own _ rfl _ _ 62 rfl w.heap.size 64 i0 (.int .i64 0) 1 8 Tryz.underlying62 hi hz0 hz1 hz2 rfl (by decide) _ 0 [] rfl (World.ownsRow.alloc (World.ownsRow_nil w w.heap.size 64 1) _) ⟨w.heap.size, 0, none⟩ 3 3 [.int .i64 0, .int .i64 1, .int .i64 2] rfl rfl ?c1 ?c2 ?c3 ?c4 ?c5 ?_) | fail)
 case c1 => exact zsk w [.int .i64 0, .int .i64 1, .int .i64 2] 64
 case c2 => exact zsl [0, 1, 2]
 case c3 => unfold maxLen; decide
 case c4 => decide
 case c5 => simp
 intro v1 w1 hown1 hg1 _
 have hb1 : Below w.heap.size w w1 := ((Below.refl w.heap.size w).alloc (Nat.le_refl _) _).grown hg1 (by simp) (fun j hj => by cases hj)
 have hrow : FRow w1 w.heap.size v1 [0, 1, 2] := hown1
 obtain ⟨g, cp, rfl, hbase, HS⟩ := zsn [0, 1, 2] [0, 1, 2] hm rfl (by decide) (by decide) hrow
 have HSH := hid HS
 have HB := hid hb1
 clear HS
 go_wp2_with (first | (go_at_call 66; refine HSH.out.mono ?_; rintro e w' ⟨rfl, ho, hg⟩) | fail)
 go_ret
 exact ⟨_, rfl, ho, HB.out.grown hg HB.out.size (fun j hj => by cases hj; exact hbase)⟩
set_option maxRecDepth 100000 in
theorem zss (w : World) : Calls Tryz.prog 32 #[.int .u8 5] w (FieldsE [0, 1, 2, 9] w) := by
 obtain ⟨i0, hi, hz0, hz1, hz2⟩ := info_parts zsj
 have hm : ([9, 0, 1, 2] : List Int).mergeSort (fun x y => decide (x ≤ y)) = [0, 1, 2, 9] := zsm (by decide) (by decide)
 go_enter Tryz.func32, Tryz.ntmps32
 go_wp2_with (first | (at_builtin; refine wpList_append_own _ rfl _ _ 62 rfl w.heap.size 64 i0 (.int .i64 0) 1 8 Tryz.underlying62 hi hz0 hz1 hz2 rfl (by decide) _ 0 [] rfl (World.ownsRow.alloc (World.ownsRow_nil w w.heap.size 64 1) _) ⟨w.heap.size, 0, none⟩ 1 1 [.int .i64 9] rfl rfl ?c1 ?c2 ?c3 ?c4 ?c5 ?_) | fail)
 case c1 => exact zsk w [.int .i64 9] 64
 case c2 => exact zsl [9]
 case c3 => unfold maxLen; decide
 case c4 => decide
 case c5 => simp
 intro v1 w1 hown1 hg1 _
 have hb1 : Below w.heap.size w w1 := ((Below.refl w.heap.size w).alloc (Nat.le_refl _) _).grown hg1 (by simp) (fun j hj => by cases hj)
 go_wp2_with (first | (at_builtin; refine wpList_append_own _ rfl _ _ 62 rfl w.heap.size 64 i0 (.int .i64 0) 1 8 Tryz.underlying62 hi hz0 hz1 hz2 rfl (by decide) _ 1 ([9].map (Value.int .i64)) rfl (World.ownsRow.alloc hown1 _) ⟨w1.heap.size, 0, none⟩ 3 3 [.int .i64 0, .int .i64 1, .int .i64 2] rfl rfl ?c1 ?c2 ?c3 ?c4 ?c5 ?_) | fail)
 case c1 => exact zsk w1 [.int .i64 0, .int .i64 1, .int .i64 2] 64
 case c2 => exact zsl [0, 1, 2]
 case c3 => unfold maxLen; decide
 case c4 => decide
 case c5 => have := hb1.size; simp; omega
 intro v2 w2 hown2 hg2 _
 have hb2 : Below w.heap.size w w2 := (hb1.alloc hb1.size _).grown hg2 (by have := hb1.size; simp; omega) (fun j hj => (World.ownsRow.lt hown1 j hj).1)
 have hrow : FRow w2 w.heap.size v2 [9, 0, 1, 2] := hown2
 obtain ⟨g, cp, rfl, hbase, HS⟩ := zsn [9, 0, 1, 2] [0, 1, 2, 9] hm rfl (by decide) (by decide) hrow
 have HSH := hid HS
 have HB := hid hb2
 clear HS
 go_wp2_with (first | (go_at_call 66; refine HSH.out.mono ?_; rintro e w' ⟨rfl, ho, hg⟩) | fail)
 go_ret
 exact ⟨_, rfl, ho, HB.out.grown hg HB.out.size (fun j hj => by cases hj; exact hbase)⟩
set_option maxRecDepth 100000 in
theorem zst (w : World) : Calls Tryz.prog 32 #[.int .u8 6] w (FieldsE [0, 1, 7] w) := by
 obtain ⟨i0, hi, hz0, hz1, hz2⟩ := info_parts zsj
 have hm : ([0, 1, 7] : List Int).mergeSort (fun x y => decide (x ≤ y)) = [0, 1, 7] := zsm (by decide) (by decide)
 go_enter Tryz.func32, Tryz.ntmps32
 go_wp2_with (first | (at_builtin; refine wpList_append_own _ rfl _ _ 62 rfl w.heap.size 64 i0 (.int .i64 0) 1 8 Tryz.underlying62 hi hz0 hz1 hz2 rfl (by decide) _ 0 [] rfl (World.ownsRow.alloc (World.ownsRow_nil w w.heap.size 64 1) _) ⟨w.heap.size, 0, none⟩ 3 3 [.int .i64 0, .int .i64 1, .int .i64 7] rfl rfl ?c1 ?c2 ?c3 ?c4 ?c5 ?_) | fail)
 case c1 => exact zsk w [.int .i64 0, .int .i64 1, .int .i64 7] 64
 case c2 => exact zsl [0, 1, 7]
 case c3 => unfold maxLen; decide
 case c4 => decide
 case c5 => simp
 intro v1 w1 hown1 hg1 _
 have hb1 : Below w.heap.size w w1 := ((Below.refl w.heap.size w).alloc (Nat.le_refl _) _).grown hg1 (by simp) (fun j hj => by cases hj)
 have hrow : FRow w1 w.heap.size v1 [0, 1, 7] := hown1
 obtain ⟨g, cp, rfl, hbase, HS⟩ := zsn [0, 1, 7] [0, 1, 7] hm rfl (by decide) (by decide) hrow
 have HSH := hid HS
 have HB := hid hb1
 clear HS
 go_wp2_with (first | (go_at_call 66; refine HSH.out.mono ?_; rintro e w' ⟨rfl, ho, hg⟩) | fail)
 go_ret
 exact ⟨_, rfl, ho, HB.out.grown hg HB.out.size (fun j hj => by cases hj; exact hbase)⟩
set_option maxRecDepth 100000 in
theorem zsu (w : World) : Calls Tryz.prog 32 #[.int .u8 7] w (FieldsE [0, 1, 7] w) := by
 obtain ⟨i0, hi, hz0, hz1, hz2⟩ := info_parts zsj
 have hm : ([0, 1, 7] : List Int).mergeSort (fun x y => decide (x ≤ y)) = [0, 1, 7] := zsm (by decide) (by decide)
 go_enter Tryz.func32, Tryz.ntmps32
 go_wp2_with (first | (at_builtin; refine wpList_append_own _ rfl _ _ 62 rfl w.heap.size 64 i0 (.int .i64 0) 1 8 Tryz.underlying62 hi hz0 hz1 hz2 rfl (by decide) _ 0 [] rfl (World.ownsRow.alloc (World.ownsRow_nil w w.heap.size 64 1) _) ⟨w.heap.size, 0, none⟩ 3 3 [.int .i64 0, .int .i64 1, .int .i64 7] rfl rfl ?c1 ?c2 ?c3 ?c4 ?c5 ?_) | fail)
 case c1 => exact zsk w [.int .i64 0, .int .i64 1, .int .i64 7] 64
 case c2 => exact zsl [0, 1, 7]
 case c3 => unfold maxLen; decide
 case c4 => decide
 case c5 => simp
 intro v1 w1 hown1 hg1 _
 have hb1 : Below w.heap.size w w1 := ((Below.refl w.heap.size w).alloc (Nat.le_refl _) _).grown hg1 (by simp) (fun j hj => by cases hj)
 have hrow : FRow w1 w.heap.size v1 [0, 1, 7] := hown1
 obtain ⟨g, cp, rfl, hbase, HS⟩ := zsn [0, 1, 7] [0, 1, 7] hm rfl (by decide) (by decide) hrow
 have HSH := hid HS
 have HB := hid hb1
 clear HS
 go_wp2_with (first | (go_at_call 66; refine HSH.out.mono ?_; rintro e w' ⟨rfl, ho, hg⟩) | fail)
 go_ret
 exact ⟨_, rfl, ho, HB.out.grown hg HB.out.size (fun j hj => by cases hj; exact hbase)⟩
set_option maxRecDepth 100000 in
theorem fields_8 (w : World) : Calls Tryz.prog 32 #[.int .u8 8] w (FieldsE [0, 7] w) := by
 obtain ⟨i0, hi, hz0, hz1, hz2⟩ := info_parts zsj
 have hm : ([0, 7] : List Int).mergeSort (fun x y => decide (x ≤ y)) = [0, 7] := zsm (by decide) (by decide)
 go_enter Tryz.func32, Tryz.ntmps32
 go_wp2_with (first | (at_builtin; refine wpList_append_own _ rfl _ _ 62 rfl w.heap.size 64 i0 (.int .i64 0) 1 8 Tryz.underlying62 hi hz0 hz1 hz2 rfl (by decide) _ 0 [] rfl (World.ownsRow.alloc (World.ownsRow_nil w w.heap.size 64 1) _) ⟨w.heap.size, 0, none⟩ 2 2 [.int .i64 0, .int .i64 7] rfl rfl ?c1 ?c2 ?c3 ?c4 ?c5 ?_) | fail)
 case c1 => exact zsk w [.int .i64 0, .int .i64 7] 64
 case c2 => exact zsl [0, 7]
 case c3 => unfold maxLen; decide
 case c4 => decide
 case c5 => simp
 intro v1 w1 hown1 hg1 _
 have hb1 : Below w.heap.size w w1 := ((Below.refl w.heap.size w).alloc (Nat.le_refl _) _).grown hg1 (by simp) (fun j hj => by cases hj)
 have hrow : FRow w1 w.heap.size v1 [0, 7] := hown1
 obtain ⟨g, cp, rfl, hbase, HS⟩ := zsn [0, 7] [0, 7] hm rfl (by decide) (by decide) hrow
 have HSH := hid HS
 have HB := hid hb1
 clear HS
 go_wp2_with (first | (go_at_call 66; refine HSH.out.mono ?_; rintro e w' ⟨rfl, ho, hg⟩) | fail)
 go_ret
 exact ⟨_, rfl, ho, HB.out.grown hg HB.out.size (fun j hj => by cases hj; exact hbase)⟩
set_option maxRecDepth 100000 in
theorem fields_9 (w : World) : Calls Tryz.prog 32 #[.int .u8 9] w (FieldsE [0, 7, 8] w) := by
 obtain ⟨i0, hi, hz0, hz1, hz2⟩ := info_parts zsj
 have hm : ([8, 0, 7] : List Int).mergeSort (fun x y => decide (x ≤ y)) = [0, 7, 8] := zsm (by decide) (by decide)
 go_enter Tryz.func32, Tryz.ntmps32
 go_wp2_with (first | (at_builtin; refine wpList_append_own _ rfl _ _ 62 rfl w.heap.size 64 i0 (.int .i64 0) 1 8 Tryz.underlying62 hi hz0 hz1 hz2 rfl (by decide) _ 0 [] rfl (World.ownsRow.alloc (World.ownsRow_nil w w.heap.size 64 1) _) ⟨w.heap.size, 0, none⟩ 1 1 [.int .i64 8] rfl rfl ?c1 ?c2 ?c3 ?c4 ?c5 ?_) | fail)
 case c1 => exact zsk w [.int .i64 8] 64
 case c2 => exact zsl [8]
 case c3 => unfold maxLen; decide
 case c4 => decide
 case c5 => simp
 intro v1 w1 hown1 hg1 _
 have hb1 : Below w.heap.size w w1 := ((Below.refl w.heap.size w).alloc (Nat.le_refl _) _).grown hg1 (by simp) (fun j hj => by cases hj)
 go_wp2_with (first | (at_builtin; refine wpList_append_own _ rfl _ _ 62 rfl w.heap.size 64 i0 (.int .i64 0) 1 8 Tryz.underlying62 hi hz0 hz1 hz2 rfl (by decide) _ 1 ([8].map (Value.int .i64)) rfl (World.ownsRow.alloc hown1 _) ⟨w1.heap.size, 0, none⟩ 2 2 [.int .i64 0, .int .i64 7] rfl rfl ?c1 ?c2 ?c3 ?c4 ?c5 ?_) | fail)
 case c1 => exact zsk w1 [.int .i64 0, .int .i64 7] 64
 case c2 => exact zsl [0, 7]
 case c3 => unfold maxLen; decide
 case c4 => decide
 case c5 => have := hb1.size; simp; omega
 intro v2 w2 hown2 hg2 _
 have hb2 : Below w.heap.size w w2 := (hb1.alloc hb1.size _).grown hg2 (by have := hb1.size; simp; omega) (fun j hj => (World.ownsRow.lt hown1 j hj).1)
 have hrow : FRow w2 w.heap.size v2 [8, 0, 7] := hown2
 obtain ⟨g, cp, rfl, hbase, HS⟩ := zsn [8, 0, 7] [0, 7, 8] hm rfl (by decide) (by decide) hrow
 have HSH := hid HS
 have HB := hid hb2
 clear HS
 go_wp2_with (first | (go_at_call 66; refine HSH.out.mono ?_; rintro e w' ⟨rfl, ho, hg⟩) | fail)
 go_ret
 exact ⟨_, rfl, ho, HB.out.grown hg HB.out.size (fun j hj => by cases hj; exact hbase)⟩
set_option maxRecDepth 100000 in
theorem zsv (w : World) : Calls Tryz.prog 32 #[.int .u8 10] w (FieldsE [0, 7, 8] w) := by
 obtain ⟨i0, hi, hz0, hz1, hz2⟩ := info_parts zsj
 have hm : ([8, 0, 7] : List Int).mergeSort (fun x y => decide (x ≤ y)) = [0, 7, 8] := zsm (by decide) (by decide)
 go_enter Tryz.func32, Tryz.ntmps32
 go_wp2_with (first | (at_builtin; refine wpList_append_own _ rfl _ _ 62 rfl w.heap.size 64 i0 (.int .i64 0) 1 8 Tryz.underlying62 hi hz0 hz1 hz2 rfl (by decide) _ 0 [] rfl (World.ownsRow.alloc (World.ownsRow_nil w w.heap.size 64 1) _) ⟨w.heap.size, 0, none⟩ 1 1 [.int .i64 8] rfl rfl ?c1 ?c2 ?c3 ?c4 ?c5 ?_) | fail)
 case c1 => exact zsk w [.int .i64 8] 64
 case c2 => exact zsl [8]
 case c3 => unfold maxLen; decide
 case c4 => decide
 case c5 => simp
 intro v1 w1 hown1 hg1 _
 have hb1 : Below w.heap.size w w1 := ((Below.refl w.heap.size w).alloc (Nat.le_refl _) _).grown hg1 (by simp) (fun j hj => by cases hj)
 go_wp2_with (first | (at_builtin; refine wpList_append_own _ rfl _ _ 62 rfl w.heap.size 64 i0 (.int .i64 0) 1 8 Tryz.underlying62 hi hz0 hz1 hz2 rfl (by decide) _ 1 ([8].map (Value.int .i64)) rfl (World.ownsRow.alloc hown1 _) ⟨w1.heap.size, 0, none⟩ 2 2 [.int .i64 0, .int .i64 7] rfl rfl ?c1 ?c2 ?c3 ?c4 ?c5 ?_) | fail)
 case c1 => exact zsk w1 [.int .i64 0, .int .i64 7] 64
 case c2 => exact zsl [0, 7]
 case c3 => unfold maxLen; decide
 case c4 => decide
 case c5 => have := hb1.size; simp; omega
 intro v2 w2 hown2 hg2 _
 have hb2 : Below w.heap.size w w2 := (hb1.alloc hb1.size _).grown hg2 (by have := hb1.size; simp; omega) (fun j hj => (World.ownsRow.lt hown1 j hj).1)
 have hrow : FRow w2 w.heap.size v2 [8, 0, 7] := hown2
 obtain ⟨g, cp, rfl, hbase, HS⟩ := zsn [8, 0, 7] [0, 7, 8] hm rfl (by decide) (by decide) hrow
 have HSH := hid HS
 have HB := hid hb2
 clear HS
 go_wp2_with (first | (go_at_call 66; refine HSH.out.mono ?_; rintro e w' ⟨rfl, ho, hg⟩) | fail)
 go_ret
 exact ⟨_, rfl, ho, HB.out.grown hg HB.out.size (fun j hj => by cases hj; exact hbase)⟩
end EvF
end
end Go.Proofs.YtbiplmbcdhjiaaaGreatDoor
