/-
  What the proof of EvBoth stands on, part 30.
-/
import Derived.BigCall
import Derived.BigGuard
import Derived.Lib.ItoaMem
import Derived.Test.YtfbegbmjmhnplaaGreatDoorT29
set_option linter.unusedSimpArgs false
set_option linter.unusedVariables false
set_option maxHeartbeats 16000000
namespace Go.Proofs.YtfbegbmjmhnplaaGreatDoor
open Go.Lib (hid)
end Go.Proofs.YtfbegbmjmhnplaaGreatDoor
section
namespace Go.Proofs
open Go.Shelf
def Tryz.lays283_ren : Go.Shelf.Ren := ⟨fun | 283 => 157 | n => n, fun | 3 => 3 | 9 => 9 | 4 => 4 | n => n, fun | n => n⟩
theorem Tryz.lays283 : Go.Proofs.Lays.n283 Tryz.prog Tryz.lays283_ren := {
 mixed := by kernel_rfl
 f283 := Tryz.func157.trans (congrArg some (by kernel_rfl))
 t3 := Tryz.underlying3
 a3 := Tryz.isAgg3
 z3 := Tryz.sizeOf3
 v3 := Tryz.zeroValue3
 t4 := Tryz.underlying4
 a4 := Tryz.isAgg4
 z4 := Tryz.sizeOf4
 v4 := Tryz.zeroValue4
 t9 := Tryz.underlying9
 a9 := Tryz.isAgg9
 z9 := Tryz.sizeOf9
 v9 := Tryz.zeroValue9 }
open Go.Lib in
/-- internal/strconv.small: "small returns the string for an i with 0 <= i < nSmalls.": i's decimal numeral. The world is as it was. (LAID: no walk: one application.) -/
theorem Tryz.internal_strconv_small (i : Nat) (h : i < 100) (w : World) :
 Calls Tryz.prog 157 #[.int .i64 i] w fun e w' => e = .returned (.string ⟨(Lib.decDigits i).toArray⟩) ∧ w' = w := Any.internal_strconv_small Tryz.lays283 i h w
def Tryz.laysM284_ren : Go.Shelf.Ren := ⟨fun | 284 => 158 | 129 => 147 | 317 => 190 | 318 => 191 | n => n, fun | 53 => 24 | 3 => 3 | 212 => 236 | 0 => 0 | 4 => 4 | 46 => 107 | 5 => 5 | 9 => 9 | n => n, fun | 17 => 2 | n => n⟩
theorem Tryz.laysM284 : Go.Proofs.LaysM.n284 Tryz.prog Tryz.laysM284_ren := {
 mixed := by kernel_rfl
 f129 := Tryz.func147.trans (congrArg some (by kernel_rfl))
 f284 := Tryz.func158.trans (congrArg some (by kernel_rfl))
 f317 := Tryz.func190.trans (congrArg some (by kernel_rfl))
 f318 := Tryz.func191.trans (congrArg some (by kernel_rfl))
 t0 := Tryz.underlying0
 a0 := Tryz.isAgg0
 z0 := Tryz.sizeOf0
 v0 := Tryz.zeroValue0
 t3 := Tryz.underlying3
 a3 := Tryz.isAgg3
 z3 := Tryz.sizeOf3
 v3 := Tryz.zeroValue3
 t4 := Tryz.underlying4
 a4 := Tryz.isAgg4
 z4 := Tryz.sizeOf4
 v4 := Tryz.zeroValue4
 t5 := Tryz.underlying5
 a5 := Tryz.isAgg5
 z5 := Tryz.sizeOf5
 v5 := Tryz.zeroValue5
 t9 := Tryz.underlying9
 a9 := Tryz.isAgg9
 z9 := Tryz.sizeOf9
 v9 := Tryz.zeroValue9
 t46 := Tryz.underlying107
 a46 := Tryz.isAgg107
 z46 := Tryz.sizeOf107
 v46 := Tryz.zeroValue107
 t53 := Tryz.underlying24
 a53 := Tryz.isAgg24
 z53 := Tryz.sizeOf24
 v53 := Tryz.zeroValue24
 t212 := Tryz.underlying236
 a212 := Tryz.isAgg236
 z212 := Tryz.sizeOf236
 v212 := Tryz.zeroValue236
 g17 := by kernel_rfl
 i0 := by kernel_rfl
 i3 := by kernel_rfl
 i4 := by kernel_rfl
 i5 := by kernel_rfl
 i9 := by kernel_rfl
 i46 := by kernel_rfl
 i53 := by kernel_rfl
 i212 := by kernel_rfl
 m17 := by kernel_rfl }
open Go.Lib in
/-- internal/strconv.numDigits, at a d that is not 0: THE NUMBER OF d's DECIMAL DIGITS. The world is as it was. (LAID: no walk: one application.) -/
theorem Tryz.internal_strconv_numDigits (u : Nat) (h1 : 1 ≤ u) (h2 : u < 18446744073709551616) (w : World) (htab : Lib.TabIs Tryz.prog w "internal/strconv.uint64pow10" .u64 Lib.pow10Tab) :
 Calls Tryz.prog 158 #[.int .u64 u] w fun e w' => e = .returned (.int .i64 (Lib.nDigits u)) ∧ w' = w := Any.internal_strconv_numDigits Tryz.laysM284 u h1 h2 w htab
def Tryz.lays285_ren : Go.Shelf.Ren := ⟨fun | 285 => 159 | n => n, fun | 37 => 108 | 53 => 24 | 3 => 3 | 4 => 4 | 51 => 25 | 9 => 9 | 5 => 5 | 0 => 0 | n => n, fun | n => n⟩
theorem Tryz.lays285 : Go.Proofs.Lays.n285 Tryz.prog Tryz.lays285_ren := {
 mixed := by kernel_rfl
 f285 := Tryz.func159.trans (congrArg some (by kernel_rfl))
 t0 := Tryz.underlying0
 a0 := Tryz.isAgg0
 z0 := Tryz.sizeOf0
 v0 := Tryz.zeroValue0
 t3 := Tryz.underlying3
 a3 := Tryz.isAgg3
 z3 := Tryz.sizeOf3
 v3 := Tryz.zeroValue3
 t4 := Tryz.underlying4
 a4 := Tryz.isAgg4
 z4 := Tryz.sizeOf4
 v4 := Tryz.zeroValue4
 t5 := Tryz.underlying5
 a5 := Tryz.isAgg5
 z5 := Tryz.sizeOf5
 v5 := Tryz.zeroValue5
 t9 := Tryz.underlying9
 a9 := Tryz.isAgg9
 z9 := Tryz.sizeOf9
 v9 := Tryz.zeroValue9
 t37 := Tryz.underlying108
 a37 := Tryz.isAgg108
 z37 := Tryz.sizeOf108
 v37 := Tryz.zeroValue108
 t51 := Tryz.underlying25
 a51 := Tryz.isAgg25
 z51 := Tryz.sizeOf25
 v51 := Tryz.zeroValue25
 t53 := Tryz.underlying24
 a53 := Tryz.isAgg24
 z53 := Tryz.sizeOf24
 v53 := Tryz.zeroValue24 }
open Go.RowKit Go.Sort Go.Lib in
/-- internal/strconv.formatBase10: "formatBase10 formats the decimal representation of u into a. The caller is responsible for ensuring that a is big enough to hold u. If a is too big, leading zeros will be filled in as needed.": THE ROW HOLDS u's DIGITS ('FmtInv .. 0 ..': every place t holds 'dg u (len - 1 - t)'); all else is as it was but for the count of draws. (LAID: no walk: one application.) -/
theorem Tryz.internal_strconv_formatBase10 (blk off cap : Nat) (u : Nat) (d : Array UInt8) (w : World) (hH : Holds (fun (b : UInt8) => Value.int .u8 (b.toNat : Int)) w blk off d) (hu : u < 10 ^ d.size) (hu64 : u < 18446744073709551616) (hsz : d.size < 4611686018427387904) :
 Calls Tryz.prog 159 #[.slice (some ⟨blk, off, none⟩) d.size cap, .int .u64 u] w fun e w' =>
  e = .returned (.tuple #[]) ∧ ∃ (n v' : Nat) (dk : Array UInt8), w' = (putRow (fun (b : UInt8) => Value.int .u8 (b.toNat : Int)) w blk off dk).drewN n ∧ FmtInv d.size u 0 v' dk := Any.internal_strconv_formatBase10 Tryz.lays285 blk off cap u d w hH hu hu64 hsz
end Go.Proofs
end
namespace Go.Proofs.YtfbegbmjmhnplaaGreatDoor
open Go.Lib (hid)
section
open Go.RowKit Go.Sort
namespace FmtC
open StrC
def Tab (w : World) : Prop := Lib.TabIs Tryz.prog w "internal/strconv.uint64pow10" .u64 Lib.pow10Tab
set_option maxRecDepth 100000 in
theorem yas (u : Nat) (w : World) (hu64 : u < 18446744073709551616) (htab : Tab w) :
 Calls Tryz.prog 125 #[.int .u64 u, .int .i64 10] w fun e w' => e = .returned (.string (str (Lib.decDigits u))) ∧ Below w.heap.size w w' := by
 by_cases hs : u < 100
 · have hd : decide ((u : Int) < 100) = true := decide_eq_true (by omega)
   have hd' : decide (u < 100) = true := decide_eq_true hs
   have HS := hid (fun w => Tryz.internal_strconv_small u hs w)
   have hcv : IntKind.i64.wrap (u : Int) = u := IntWalk.i64_in _ ⟨by omega, by omega⟩
   clear hs
   go_enter Tryz.func125, Tryz.ntmps125
   go_wp2_with (go_at_call 157; refine (HS.out _).mono ?_; rintro e w' ⟨rfl, rfl⟩)
   go_ret
   exact ⟨rfl, Below.refl _ _⟩
 · have hd : decide ((u : Int) < 100) = false := decide_eq_false (by omega)
   have hd' : decide (u < 100) = false := decide_eq_false hs
   have hu1 : 1 ≤ u := by omega
   have hnd20 : Lib.nDigits u ≤ 20 := by have := Lib.numDigits_eq u hu1 hu64; split at this <;> omega
   have hal : Tryz.prog.arrayLen 204 = 24 := by kernel_rfl
   have hsl : ∀ W, (Instr.sliceAt 204 (.pointer (some ⟨w.heap.size, 0, none⟩)) none (some (.int .i64 (Lib.nDigits u : Int))) none).run Tryz.prog W = .ok (.slice (some ⟨w.heap.size, 0, none⟩) (Lib.nDigits u) 24) W := fun W => by
    rw [run_sliceAt_array_h W 204 ⟨w.heap.size, 0, none⟩ (by kernel_rfl) .i64 (Lib.nDigits u : Int) (by omega) (by rw [hal]; omega)]
    go_simp
   have hH0 := Lib.holds_zero0 w 204 (Lib.nDigits u) (by omega)
   have hfmt := Tryz.internal_strconv_formatBase10 w.heap.size 0 24 u (Array.replicate (Lib.nDigits u) 0) (w.alloc (.cells Lib.zeros24 204)) hH0 (by rw [Array.size_replicate]; exact Lib.lt_pow_nDigits u) hu64 (by rw [Array.size_replicate]; omega)
   rw [Array.size_replicate] at hfmt
   have HH0 := hid hH0
   have HND := hid (fun w h => Tryz.internal_strconv_numDigits u hu1 hu64 w h)
   have HT := hid (Lib.tabIs_alloc htab (.cells Lib.zeros24 204))
   have HF := hid hfmt
   have HU := hid hu64
   clear hH0 hal hfmt hs htab hu64
   go_enter Tryz.func125, Tryz.ntmps125
   go_wp2_with (first
    | (go_at_call 158; refine (HND.out _ HT.out).mono ?_; rintro e w' ⟨rfl, rfl⟩))
   refine HF.out.mono ?_
   rintro e w' ⟨rfl, k, v', dk, rfl, hF⟩
   have hcv : (convert 108 9 (.slice (some ⟨w.heap.size, 0, none⟩) (Lib.nDigits u) 24)).run Tryz.prog ((putRow (fun (b : UInt8) => Value.int .u8 (b.toNat : Int)) (w.alloc (.cells Lib.zeros24 204)) w.heap.size 0 dk).drewN k) = .ok (.string (str (Lib.decDigits u))) ((putRow (fun (b : UInt8) => Value.int .u8 (b.toNat : Int)) (w.alloc (.cells Lib.zeros24 204)) w.heap.size 0 dk).drewN k) := by
    have h := run_convert_bytes_back (P := Tryz.prog) ((putRow (fun (b : UInt8) => Value.int .u8 (b.toNat : Int)) (w.alloc (.cells Lib.zeros24 204)) w.heap.size 0 dk).drewN k) 108 9 5 ⟨w.heap.size, 0, none⟩ 24 (Lib.decDigits u) Tryz.underlying108 Tryz.underlying5 Tryz.underlying9 (fun j hj => by
     have hi : j < (Lib.decDigits u).length := by simpa using hj
     rw [Lib.row_is_numeral hF j hi, Lib.add_plain, World.cell?_drewN]
     exact cell?_putRow (fun (b : UInt8) => Value.int .u8 (b.toNat : Int)) _ w.heap.size 0 _ dk HH0.out (by rw [hF.size, Array.size_replicate]) j (by rw [hF.size]; rw [Lib.decDigits_length] at hi; exact hi))
    rw [Lib.decDigits_length] at h
    exact h
   obtain ⟨os, eo⟩ := Lib.fin_at w (.cells Lib.zeros24 204) dk k 0
   have hb : Below w.heap.size w ((putRow (fun (b : UInt8) => Value.int .u8 (b.toNat : Int)) (w.alloc (.cells Lib.zeros24 204)) w.heap.size 0 dk).drewN k) := by rw [eo]; exact Lib.below_grow _ w (Nat.le_refl _) k os
   have HB := hid hb
   generalize (putRow (fun (b : UInt8) => Value.int .u8 (b.toNat : Int)) (w.alloc (.cells Lib.zeros24 204)) w.heap.size 0 dk).drewN k = W2 at *
   clear eo HF HH0 hb hF
   go_wp2_with fail
   go_ret
   exact ⟨rfl, HB.out⟩
theorem yat (u : Nat) (w : World) (hu64 : u < 18446744073709551616) (htab : Tab w) :
 Calls Tryz.prog 95 #[.int .u64 u, .int .i64 10] w fun e w' => e = .returned (.string (str (Lib.decDigits u))) ∧ Below w.heap.size w w' := by
 have H := hid (yas u w hu64 htab)
 go_enter Tryz.func95, Tryz.ntmps95
 go_wp2_with (go_at_call 125; refine H.out.mono ?_; rintro e w' ⟨rfl, hb⟩)
 go_ret
 exact ⟨rfl, hb⟩
end FmtC
end
section
open Go.RowKit Go.Sort
namespace EvA
open StrC EvF EvC TextR CodeM CodeC
open VerC (Vw)
theorem yau (a b : Int) : ∀ u ∈ [Value.int .u8 a, Value.int .u8 b], u.oneCell' = true := by
 intro u hu
 simp only [List.mem_cons, List.not_mem_nil, or_false] at hu
 rcases hu with rfl | rfl <;> rfl
theorem yav (x : Nat) (hx : x < 16) (w : World) : (Instr.index 9 (.string { data := #[48, 49, 50, 51, 52, 53, 54, 55, 56, 57, 97, 98, 99, 100, 101, 102] }) (.int .u8 (x : Int))).run Tryz.prog w = .ok (.int .u8 ((SumM.hd x).toNat : Int)) w := by
 rcases (by omega : x = 0 ∨ x = 1 ∨ x = 2 ∨ x = 3 ∨ x = 4 ∨ x = 5 ∨ x = 6 ∨ x = 7 ∨ x = 8 ∨ x = 9 ∨ x = 10 ∨ x = 11 ∨ x = 12 ∨ x = 13 ∨ x = 14 ∨ x = 15) with rfl | rfl | rfl | rfl | rfl | rfl | rfl | rfl | rfl | rfl | rfl | rfl | rfl | rfl | rfl | rfl <;> kernel_rfl
theorem yaw (L : List UInt8) (a b : UInt8) : L.map byteV ++ [Value.int .u8 a.toNat, Value.int .u8 b.toNat] = (L ++ [a, b]).map byteV := by simp [byteV]
theorem and15 (x : Nat) (h : x < 256) : bits .and .u8 (x : Int) 15 = ((x % 16 : Nat) : Int) := by
 have H : ∀ n : Fin 256, bits .and .u8 (n.val : Int) 15 = ((n.val % 16 : Nat) : Int) := by decide +kernel
 exact H ⟨x, h⟩
set_option maxRecDepth 100000 in
theorem yax (l : B) (w : World) (hl : l.length ≤ 1000) : Calls Tryz.prog 92 #[.string (str l)] w fun e w' => e = .returned (.string (str (hexB l))) ∧ Below w.heap.size w w' := by
 obtain ⟨i0, hi, hz0, hz1, hz2⟩ := info_parts info_u8
 have hsz := zbm l
 have HR : Hid (∀ A, A = hexB (l.take l.length) → A = hexB l) := hid (fun A h => by rw [h, List.take_length])
 generalize hX : hexB l = X at *
 clear hX
 go_enter Tryz.func92, Tryz.ntmps92
 go_wp2_with fail
 go_loopw [3, 4, 7] (fun v _ i wr => ∃ (k : Nat) (A : B), i = .int .i64 k ∧ k ≤ l.length ∧ A.length = 2 * k ∧ Hid (A = hexB (l.take k)) ∧ Hid (wr.ownsRow w.heap.size 5 1 v A.length (A.map byteV)) ∧ Hid (k = 0 → v = .slice none 0 0) ∧ Hid (Below w.heap.size w wr)) (fun _ _ i _ => l.length - (intOf i).toNat)
 case atStart => exact ⟨0, [], rfl, Nat.zero_le _, rfl, hid rfl, hid (World.ownsRow_nil _ _ _ _), hid (fun _ => rfl), hid (Below.refl _ _)⟩
 case round =>
  obtain ⟨k, A, rfl, hk, hAl, HA, HO, HZ, HB⟩ := hrel
  rename World => wr
  by_cases hlt : k < l.length
  · have hdec : decide (k < l.length) = true := by simpa using hlt
    have hidx : ∀ W, (Instr.index 9 (.string (str l)) (.int .i64 (k : Int))).run Tryz.prog W = .ok (.int .u8 (l.getD k 0).toNat) W := fun W => zbq l (k : Int) k rfl hlt W
    have hx : (l.getD k 0).toNat < 256 := (l.getD k 0).toNat_lt
    have HN := hid (show A ++ [SumM.hd ((l.getD k 0).toNat / 16 % 16), SumM.hd ((l.getD k 0).toNat % 16)] = hexB (l.take (k + 1)) by rw [zzf hlt, HA.out]; simp [SumM.digits])
    generalize (l.getD k 0).toNat = x at *
    have hd1 := yav (x / 16) (by omega)
    have hd2 := yav (x % 16) (by omega)
    rw [show ((x / 16 : Nat) : Int) = (x : Int) / 16 from by omega] at hd1
    rw [show ((x % 16 : Nat) : Int) = (x : Int) % 16 from by omega] at hd2
    have ha15 : bits .and .u8 (x : Int) 15 = (x : Int) % 16 := by rw [and15 x hx]; omega
    have hxm : x / 16 % 16 = x / 16 := Nat.mod_eq_of_lt (by omega)
    rw [hxm] at HN
    generalize hy1 : SumM.hd (x / 16) = y1 at *
    generalize hy2 : SumM.hd (x % 16) = y2 at *
    clear hy1 hy2
    go_wp2_with fail
    have HLE : Hid (A.length + 2 ≤ maxLen) := hid (by unfold maxLen; omega)
    have HLB : Hid ((A.length + 2) * 1 ≤ 140737488355328) := hid (by omega)
    have HBS : Hid (w.heap.size ≤ (wr.alloc (.cells #[.int .u8 y1.toNat, .int .u8 y2.toNat] 5)).heap.size) := hid (by have := HB.out.size; simp; omega)
    go_region_held3 (fun _ => True) (exact trivial)
     (first
       | (refine AppC.step_append_own rfl _ _ _ (by rfl) w.heap.size 5 i0 _ 1 1 Tryz.underlying108 hi hz0 hz1 hz2 rfl (by decide) u3 A.length (A.map byteV) (by simp [Act.eval]) (HO.out.alloc _) ⟨wr.heap.size, 0, none⟩ 2 2 [.int .u8 y1.toNat, .int .u8 y2.toNat] (by simp [Act.eval]) rfl (ztd wr [.int .u8 y1.toNat, .int .u8 y2.toNat] 5) (yau _ _) HLE.out HLB.out HBS.out ?_
          intro v' w5 hown5 hg5
          have HX5 := hid (And.intro hown5 hg5)
          clear hown5 hg5)
       | fail)
    all_goals
     have HROW : Hid (w5.ownsRow w.heap.size 5 1 v' (A ++ [y1, y2]).length ((A ++ [y1, y2]).map byteV)) := hid (by have h := HX5.out.1; rw [yaw] at h; simpa using h)
     have HBW : Hid (Below w.heap.size w w5) := hid (by
      have h0 : Below w.heap.size w (wr.alloc (.cells #[.int .u8 y1.toNat, .int .u8 y2.toNat] 5)).drew := (HB.out.trans ((alW wr _).mono HB.out.size)).drew
      exact h0.grown HX5.out.2 HBS.out (fun b hb => (World.ownsRow.lt HO.out b hb).1))
     clear HX5
     go_wp2_with fail
     go_roundw
     case rel => exact ⟨k + 1, A ++ [y1, y2], by go_num, hlt, by simp; omega, HN, HROW, hid (fun h => by omega), HBW⟩
     case measure => simp [intOf]; omega
  · have hke : k = l.length := by omega
    have hdec : decide (k < l.length) = false := by simpa using hlt
    have HE := hid (HR.out A (by rw [HA.out, hke]))
    rcases Nat.eq_zero_or_pos A.length with h0 | h0
    · have hA0 : A = [] := List.eq_nil_of_length_eq_zero h0
      have hu : u3 = .slice none 0 0 := HZ.out (by omega)
      subst hu
      have hcv : (convert 108 9 (.slice none 0 0)).run Tryz.prog wr = .ok (.string (str [])) wr := by kernel_rfl
      have HE2 : Hid (X = []) := hid (by rw [← HE.out, hA0])
      clear hA0
      go_wp2_with fail
      go_ret
      exact ⟨by rw [HE2.out]; rfl, HB.out⟩
    · have hcv := zqf HO.out h0
      go_wp2_with fail
      go_ret
      exact ⟨by rw [← HE.out]; rfl, HB.out⟩
theorem yay (w0 : World) (hv : Vw w0) : WrS w0 89 (swapB 32 95) := by
 intro l hl w hb
 obtain ⟨m, hm⟩ := (hv.gr hb).max
 have HR := hid (Tryz.strings_ReplaceAll (str l) (str [32]) (str [95]) m w (by rw [zbm]; omega) hm (by rw [zbm]; decide) (by
  have hc : Lib.countB (str l) (str [32]) ≤ l.length := by
   show Lib.count l [32] ≤ l.length
   rw [Lib.count_one]
   exact List.count_le_length
  rw [zbm, zbm]
  simp only [List.length_cons, List.length_nil]
  omega))
 go_enter Tryz.func89, Tryz.ntmps89
 go_wp2_with (go_at_call 90; refine HR.out.mono ?_; rintro e w' ⟨rfl, hb⟩)
 go_ret
 refine ⟨?_, hb⟩
 rw [zbn, zbn, zbn, zoc 32 95 (by decide)]
 rfl
theorem yaz (w0 : World) : WrS w0 91 noteT := by
 intro l hl w hb
 have HX := hid (yax l w hl)
 by_cases h : l = []
 · have HE := hid (zzg h)
   have hz := zzi h
   clear h
   generalize noteT l = N at *
   go_enter Tryz.func91, Tryz.ntmps91
   go_wp2_with fail
   go_ret
   exact ⟨by rw [HE.out]; rfl, Below.refl _ _⟩
 · have HE := hid (zzh h)
   have hz := zzj h
   clear h
   generalize noteT l = N at *
   go_enter Tryz.func91, Tryz.ntmps91
   go_wp2_with (first | (go_at_call 92; refine HX.out.mono ?_; rintro r w' ⟨rfl, hb1⟩) | fail)
   go_ret
   exact ⟨by rw [HE.out]; rfl, hb1⟩
theorem yba (w0 : World) : WrN w0 93 (fun n => SumM.digits n 16) := by
 intro x hx w hb
 have HW := hid (zse x w hx)
 have HX : Hid (∀ W, Calls Tryz.prog 92 #[.string (str (wordB x 8))] W fun e w' => e = .returned (.string (str (SumM.digits x 16))) ∧ Below W.heap.size W w') := hid (fun W => by
  have h := yax (wordB x 8) W (by rw [zml]; omega)
  rw [znz x 8] at h
  exact h)
 go_enter Tryz.func93, Tryz.ntmps93
 go_wp2_with (first | (go_at_call 71; refine HW.out.mono ?_; rintro r w1 ⟨rfl, hb1⟩) | (go_at_call 92; refine (HX.out _).mono ?_; rintro r w2 ⟨rfl, hb2⟩) | fail)
 go_ret
 exact ⟨rfl, hb1.trans (hb2.mono hb1.size)⟩
theorem ybb (w0 : World) (hv : Vw w0) : WrN w0 94 Lib.decDigits := by
 intro x hx w hb
 have HX := hid (FmtC.yat x w hx (hv.gr hb).pow)
 go_enter Tryz.func94, Tryz.ntmps94
 go_wp2_with (first | (go_at_call 95; refine HX.out.mono ?_; rintro r w1 ⟨rfl, hb1⟩) | fail)
 go_ret
 exact ⟨rfl, hb1⟩
theorem ybc (w0 : World) : WrS w0 88 id := fun l hl w hb => (zsg (str l) w).mono (fun _ _ h => ⟨h.1, h.2 ▸ Below.refl _ _⟩)
theorem ybd (w0 : World) : WrS w0 70 textB := fun l hl w hb => zsb (str l) w (by rw [zbm]; omega)
theorem ybe (w0 : World) : WrN w0 71 (fun n => wordB n 8) := fun x hx w hb => zse x w hx
theorem ybf (w0 : World) : WrN w0 72 uintB := fun x hx w hb => zsa x w hx
theorem ent_1 : Ent 69 := by intro args w; kernel_rfl
theorem ent_2 : Ent 70 := by intro args w; kernel_rfl
theorem ent_3 : Ent 71 := by intro args w; kernel_rfl
theorem ent_4 : Ent 72 := by intro args w; kernel_rfl
theorem ent_5 : Ent 87 := by intro args w; kernel_rfl
theorem ent_6 : Ent 88 := by intro args w; kernel_rfl
theorem ent_7 : Ent 89 := by intro args w; kernel_rfl
theorem ent_8 : Ent 91 := by intro args w; kernel_rfl
theorem ent_9 : Ent 93 := by intro args w; kernel_rfl
theorem ent_10 : Ent 94 := by intro args w; kernel_rfl
end EvA
end
section
open Go.RowKit Go.Sort
namespace EvA
open StrC EvF EvC TextR CodeM
theorem fields_8 (k : Nat) : ∀ x ∈ zrk k, x = 8 → ¬ k = 5 := by
 intro x hx h8 h5
 subst h5
 subst h8
 revert hx
 decide
theorem fields_9 (k : Nat) : ∀ x ∈ zrk k, x = 9 → k = 5 := by
 rcases zti (k := k) with rfl | rfl | rfl | rfl | rfl | rfl | rfl | rfl | rfl | rfl | h
 case inr.inr.inr.inr.inr.inr.inr.inr.inr.inr => rw [ztn h]; intro x hx; cases hx
 all_goals decide
theorem dec20 (n : Nat) (h : n < 18446744073709551616) : (Lib.decDigits n).length ≤ 20 := VerC.zbu 19 n (by omega)
end EvA
end
section
open Go.RowKit Go.Sort
namespace EvA
open StrC EvF EvC TextR CodeM CodeC
open VerC (Vw)
theorem ybg (k : Nat) (h : 11 ≤ k) (w : World) : Calls Tryz.prog 32 #[.int .u8 k] w (FieldsE [] w) := by
 have h1 : ¬ k = 1 := by omega
 have h2 : ¬ k = 2 := by omega
 have h3 : ¬ k = 3 := by omega
 have h4 : ¬ k = 4 := by omega
 have h5 : ¬ k = 5 := by omega
 have h6 : ¬ k = 6 := by omega
 have h7 : ¬ k = 7 := by omega
 have h8 : ¬ k = 8 := by omega
 have h9 : ¬ k = 9 := by omega
 have h10 : ¬ k = 10 := by omega
 clear h
 go_enter Tryz.func32, Tryz.ntmps32
 go_wp2_with fail
 refine (EvN.zvz _).mono ?_
 rintro e w' ⟨rfl, rfl⟩
 go_wp2_with fail
 go_ret
 exact ⟨_, rfl, World.ownsRow_nil _ _ _ _, Below.refl _ _⟩
theorem ybh (k : Nat) : Fds k (zrk k) := by
 rcases zti (k := k) with rfl | rfl | rfl | rfl | rfl | rfl | rfl | rfl | rfl | rfl | h | h
 · exact fun w => zrq w
 · exact fun w => zrr w
 · exact fun w => zrs w
 · exact fun w => zrt w
 · exact fun w => zru w
 · exact fun w => zrv w
 · exact fun w => zrw w
 · exact fun w => EvF.fields_8 w
 · exact fun w => EvF.fields_9 w
 · exact fun w => zrx w
 · subst h; exact fun w => EvN.zwa w
 · rw [ztn (Or.inr h)]; exact fun w => ybg k h w
theorem ybi {k : Nat} (h : 1 ≤ k ∧ k ≤ 10) : 0 < (zrk k).length := by
 rcases (by omega : k = 1 ∨ k = 2 ∨ k = 3 ∨ k = 4 ∨ k = 5 ∨ k = 6 ∨ k = 7 ∨ k = 8 ∨ k = 9 ∨ k = 10) with rfl | rfl | rfl | rfl | rfl | rfl | rfl | rfl | rfl | rfl <;> decide
theorem EvIn.sz {w : World} {e : EvG} (h : EvIn w e) : EvSz e := ⟨Nat.le_trans h.who (by decide), Nat.le_trans h.name (by decide), Nat.le_trans h.holder (by decide), Nat.le_trans h.note (by decide)⟩
theorem ybj (e : EvG) (hk : e.k = 0 ∨ 11 ≤ e.k) (w : World) : Calls Tryz.prog 11 #[evV e] w fun r w' => r = .returned (.int .i64 90) ∧ Below w.heap.size w w' := by
 have hf : Fds e.k [] := by have h := ybh e.k; rwa [ztn hk] at h
 have HIK := hid (zsr hf)
 have HB := hid (alW w (evO e))
 have c0 := (zos (heap_alloc_new w (evO e))).1
 clear hf hk
 go_enter Tryz.func11, Tryz.ntmps11
 go_wp2_with fail
 refine (HIK.out _).mono ?_
 rintro e1 w1 ⟨rfl, hb1⟩
 have HB1 := hid (HB.out.trans (hb1.mono HB.out.size))
 clear hb1 c0
 go_wp2_with fail
 go_ret
 exact ⟨rfl, HB1.out⟩
theorem pmay_any (e : EvG) (w : World) (hs : EvIn w e) (hv : Vw w) : Calls Tryz.prog 11 #[evV e] w fun r w' => r = .returned (.int .i64 (mayC (mayD e))) ∧ Below w.heap.size w w' := by
 by_cases h : 1 ≤ e.k ∧ e.k ≤ 10
 · rw [zxo e h]
   exact may_any e (ztk e.needs) (zrk e.k) (ybh e.k) (ybi h) (zto e.k) (Nat.le_trans (ztp e.k) (by decide)) w hs.sz hv (yar e w hs.needs hv) hs.needs
 · rw [zxp e (by omega)]
   exact ybj e (by omega) w
end EvA
end
end Go.Proofs.YtfbegbmjmhnplaaGreatDoor
