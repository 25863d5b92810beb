/-
  What the proof of EventForms stands on, part 34.
-/
import Derived.BigCall
import Derived.BigGuard
import Derived.Lib.ItoaMem
import Derived.Lib.ItoaWalk
import Derived.Test.YtbiplmbcdhjiaaaGreatDoorT33
set_option linter.unusedSimpArgs false
set_option linter.unusedVariables false
set_option maxHeartbeats 16000000
namespace Go.Proofs.YtbiplmbcdhjiaaaGreatDoor
open Go.Lib (hid)
section
open Go.RowKit Go.Sort
namespace EvA
open StrC EvF EvC TextR CodeM CodeC
theorem zzp {A : Array Value} {k : Nat} {v : Value} {f : Nat → Value} (hk : k < A.size) (h : ∀ j, j < k → A[j]? = some (f j)) (hv : v = f k) : ∀ j, j < k + 1 → (A.setIfInBounds k v)[j]? = some (f j) := by
 intro j hj
 by_cases e : j = k
 · subst e
   rw [Array.getElem?_setIfInBounds_self_of_lt hk, hv]
 · rw [Array.getElem?_setIfInBounds_ne (Ne.symm e)]
   exact h j (by omega)
theorem sw_keep {A : Array Value} {k : Nat} {v : Value} {f : Nat → Value} (h : ∀ j, j < k → A[j]? = some (f j)) : ∀ j, j < k → (A.setIfInBounds k v)[j]? = some (f j) := by
 intro j hj
 rw [Array.getElem?_setIfInBounds_ne (by omega)]
 exact h j hj
theorem swap_at {a b : UInt8} {l : B} {k : Nat} (hk : k < l.length) : (swapB a b l).getD k 0 = if l.getD k 0 = a then b else l.getD k 0 := by
 unfold swapB
 simp [hk]
set_option maxRecDepth 100000 in
theorem zzq (l : B) (a b : UInt8) (w : World) (hl : l.length ≤ 1000) : Calls Tryz.prog 48 #[.string (str l), .int .u8 a.toNat, .int .u8 b.toNat] w fun e w' => e = .returned (.string (str (swapB a b l))) ∧ Below w.heap.size w w' := by
 obtain ⟨i0, hi, hz0, hz1, hz2⟩ := info_parts info_u8
 have hsz := zbl l
 have HAT : Hid (∀ k, k < l.length → (swapB a b l).getD k 0 = if l.getD k 0 = a then b else l.getD k 0) := hid (fun k hk => swap_at hk)
 have HSL : Hid ((swapB a b l).length = l.length) := hid (zxf a b l)
 generalize swapB a b l = S at *
 go_enter Tryz.func48, Tryz.ntmps48
 go_wp2_with (at_make; refine wpList_make_full _ rfl _ _ 80 rfl w.heap.size 5 i0 (.int .u8 0) 1 Tryz.underlying80 hi hz0 hz1 _ _ _ _ l.length rfl rfl rfl rfl (by rw [hz2]; omega) (by unfold maxLen; omega) (Nat.le_refl _) ?_; intro w1 hrow1 hg1)
 have hblk : ∃ A : Array Value, A.size = l.length ∧ w1.heap[w.heap.size]? = some (.cells A 5) := by
  rcases hrow1.2 with ⟨hnil, hz⟩ | ⟨g, cp, cur, e, hbase, hb, h1, h2, h3, h4⟩
  · cases hnil
  · cases e
    exact ⟨cur, by simpa using h3, hb⟩
 obtain ⟨A0, hA0, hb0⟩ := hblk
 have HB1 := hid ((Below.refl w.heap.size w).grown hg1 (Nat.le_refl _) (fun j hj => by cases hj))
 have HR0 := hid hb0
 clear hrow1 hg1 hb0
 go_wp2_with fail
 go_loopw [8] (fun i wr => ∃ (k : Nat) (A : Array Value), i = .int .i64 k ∧ k ≤ l.length ∧ A.size = l.length ∧ Hid (wr.heap[w.heap.size]? = some (.cells A 5)) ∧ Hid (∀ j, j < k → A[j]? = some (.int .u8 (S.getD j 0).toNat)) ∧ Hid (Below w.heap.size w wr)) (fun i _ => l.length - (intOf i).toNat)
 case atStart => exact ⟨0, A0, rfl, Nat.zero_le _, hA0, HR0, hid (fun j hj => by omega), HB1⟩
 case round =>
  obtain ⟨k, A, rfl, hk, hAs, HR, HA, HB⟩ := hrel
  rename World => wr
  clear HR0 HB1
  by_cases hlt : k < l.length
  · have hdec : decide (k < l.length) = true := by simpa using hlt
    have hidx : ∀ W, (Instr.index 9 (.string (str l)) (.int .i64 (k : Int))).run Tryz.prog W = .ok (.int .u8 (l.getD k 0).toNat) W := fun W => zbo l (k : Int) k rfl hlt W
    have HS := hid (HAT.out k hlt)
    have hrow := HR.out
    have ffz := zts hrow k
    have hc : wr.cell? ⟨w.heap.size, k, none⟩ = some A[k] := by simp [World.cell?, hrow, hAs, hlt]
    have hkA : k < A.size := by omega
    by_cases hca : l.getD k 0 = a
    · have HS2 : Hid (S.getD k 0 = b) := hid (by rw [HS.out, if_pos hca])
      rw [hca] at hidx
      have HR1 := hid (ztq hrow k (.int .u8 a.toNat))
      have HR2 := hid (ztq HR1.out k (.int .u8 b.toNat))
      have HA2 := hid (zzp (A := A.setIfInBounds k (.int .u8 a.toNat)) (k := k) (v := .int .u8 b.toNat) (f := fun j => .int .u8 (S.getD j 0).toNat) (by simpa using hkA) (sw_keep HA.out) (by simp only [HS2.out]))
      have ffz2 := zts HR1.out k
      have HB2 := hid ((HB.out.setCell (p := ⟨w.heap.size, k, none⟩) (Nat.le_refl _) (.int .u8 a.toNat)).setCell (p := ⟨w.heap.size, k, none⟩) (Nat.le_refl _) (.int .u8 b.toNat))
      clear hca HS hrow
      go_wp2_with fail
      go_roundw
      case rel => exact ⟨k + 1, _, by go_num, hlt, by simp [hAs], HR2, HA2, HB2⟩
      case measure => simp [intOf]; omega
    · have hne : ¬ (l.getD k 0).toNat = a.toNat := fun h => hca (UInt8.toNat_inj.1 h)
      have HS2 : Hid (S.getD k 0 = l.getD k 0) := hid (by rw [HS.out, if_neg hca])
      have HR1 := hid (ztq hrow k (.int .u8 (l.getD k 0).toNat))
      have HA2 := hid (zzp (A := A) (k := k) (v := .int .u8 (l.getD k 0).toNat) (f := fun j => .int .u8 (S.getD j 0).toNat) hkA HA.out (by simp only [HS2.out]))
      have HB2 := hid (HB.out.setCell (p := ⟨w.heap.size, k, none⟩) (Nat.le_refl _) (.int .u8 (l.getD k 0).toNat))
      generalize (l.getD k 0).toNat = x at *
      clear hca HS hrow
      go_wp2_with fail
      go_roundw
      case rel => exact ⟨k + 1, _, by go_num, hlt, by simp [hAs], HR1, HA2, HB2⟩
      case measure => simp [intOf]; omega
  · have hke : k = l.length := by omega
    have hdec : decide (k < l.length) = false := by simpa using hlt
    have hcv := run_convert_bytes_arg (P := Tryz.prog) wr 80 5 Tryz.underlying80 Tryz.underlying5 w.heap.size 0 l.length l.length (S.map fun c => (c.toNat : Int)) (by simp [HSL.out]) (fun i hi => by
     rw [Nat.zero_add]
     have h1 : i < k := by omega
     have h2 := HA.out i h1
     have h3 : i < S.length := by rw [HSL.out]; omega
     simp only [World.cell?, HR.out]
     simpa [h3] using h2) 9 Tryz.underlying9
    rw [zyg] at hcv
    subst hke
    go_wp2_with fail
    go_ret
    exact ⟨rfl, HB.out⟩
def wordsL : List B := [[], [97, 99, 99, 111, 117, 110, 116], [112, 117, 98, 108, 105, 115, 104], [121, 97, 110, 107], [117, 110, 121, 97, 110, 107], [100, 101, 112, 114, 101, 99, 97, 116, 101], [111, 119, 110], [100, 105, 115, 111, 119, 110], [116, 101, 97, 109], [106, 111, 105, 110], [108, 101, 97, 118, 101]]
def kw (k : Nat) : B := wordsL.getD k []
theorem zzr (k : Nat) : (kw k).length ≤ 9 := by
 by_cases h : k < 11
 · rcases (by omega : k = 0 ∨ k = 1 ∨ k = 2 ∨ k = 3 ∨ k = 4 ∨ k = 5 ∨ k = 6 ∨ k = 7 ∨ k = 8 ∨ k = 9 ∨ k = 10) with rfl | rfl | rfl | rfl | rfl | rfl | rfl | rfl | rfl | rfl | rfl <;> decide
 · unfold kw
   rw [List.getD_eq_getElem?_getD, List.getElem?_eq_none (by show 11 ≤ k; omega)]
   decide
theorem rwords_any (w : World) : Calls Tryz.prog 39 #[] w fun e w' => e = .returned (.slice (some ⟨w.heap.size, 0, none⟩) 11 11) ∧ w' = w.alloc (.cells (wordsL.map (fun b => Value.string (str b))).toArray 9) := by
 go_enter Tryz.func39, Tryz.ntmps39
 go_wp2_with fail
 go_ret
 exact ⟨rfl, rfl⟩
theorem zzs (w : World) (k : Nat) (h : k < 11) : (w.alloc (.cells (wordsL.map (fun b => Value.string (str b))).toArray 9)).cell? ⟨w.heap.size, k, none⟩ = some (.string (str (kw k))) := by
 simp only [World.cell?, heap_alloc_new]
 rcases (by omega : k = 0 ∨ k = 1 ∨ k = 2 ∨ k = 3 ∨ k = 4 ∨ k = 5 ∨ k = 6 ∨ k = 7 ∨ k = 8 ∨ k = 9 ∨ k = 10) with rfl | rfl | rfl | rfl | rfl | rfl | rfl | rfl | rfl | rfl | rfl <;> rfl
theorem zzt (k : Nat) (hk : k ≤ 255) (w : World) : Calls Tryz.prog 13 #[.int .u8 k] w fun e w' => e = .returned (.string (str (kw k))) ∧ Below w.heap.size w w' := by
 have HW := hid (rwords_any w)
 have HB := hid (alW w (.cells (wordsL.map (fun b => Value.string (str b))).toArray 9))
 by_cases h : k < 11
 · have hc := zzs w k h
   have d1 : decide (11 ≤ k) = false := decide_eq_false (by omega)
   have d2 : decide (k < 11) = true := decide_eq_true h
   have hcv : IntKind.i64.wrap (k : Int) = k := IntWalk.i64_in _ ⟨by omega, by omega⟩
   generalize kw k = t at *
   generalize (wordsL.map (fun b => Value.string (str b))).toArray = WL at *
   go_enter Tryz.func13, Tryz.ntmps13
   go_wp2_with (first | (go_at_call 39; refine HW.out.mono ?_; rintro r w' ⟨rfl, rfl⟩) | fail)
   go_ret
   exact ⟨rfl, HB.out⟩
 · have d1 : decide (11 ≤ k) = true := decide_eq_true (by omega)
   have d2 : decide (k < 11) = false := decide_eq_false h
   have hcv : IntKind.i64.wrap (k : Int) = k := IntWalk.i64_in _ ⟨by omega, by omega⟩
   have HR : Hid (kw k = []) := hid (by unfold kw; rw [List.getD_eq_getElem?_getD, List.getElem?_eq_none (by show 11 ≤ k; omega)]; rfl)
   generalize kw k = t at *
   generalize (wordsL.map (fun b => Value.string (str b))).toArray = WL at *
   go_enter Tryz.func13, Tryz.ntmps13
   go_wp2_with (first | (go_at_call 39; refine HW.out.mono ?_; rintro r w' ⟨rfl, rfl⟩) | fail)
   go_ret
   exact ⟨by rw [HR.out]; rfl, HB.out⟩
theorem zzu (n : Nat) (w : World) (h : n < 18446744073709551616) : Calls Tryz.prog 45 #[.int .u64 n] w fun e w' => e = .returned (.string (str (SumM.digits n 16))) ∧ w = w' := by
 have HX := hid (SumC.zxh n 16 w h (by decide))
 go_enter Tryz.func45, Tryz.ntmps45
 go_wp2_with (first | (go_at_call 89; refine HX.out.mono ?_; rintro r w' ⟨rfl, rfl⟩) | fail)
 go_ret
 exact ⟨rfl, rfl⟩
theorem zzv {l : B} {k : Nat} (hk : k < l.length) : hexB (l.take (k + 1)) = hexB (l.take k) ++ SumM.digits (l.getD k 0).toNat 2 := by
 have e : l.getD k 0 = l[k] := by simp [hk]
 unfold hexB
 rw [List.take_add_one, List.getElem?_eq_getElem hk, List.flatMap_append, e]
 simp only [Option.toList_some, List.flatMap_cons, List.flatMap_nil, List.append_nil]
theorem zzw (l : B) (w : World) (hl : l.length ≤ 1000) : Calls Tryz.prog 90 #[.string (str l)] w fun e w' => e = .returned (.string (str (hexB l))) ∧ w = w' := by
 have hsz := zbl l
 have HR : Hid (∀ A, A = hexB (l.take l.length) → A = hexB l) := hid (fun A h => by rw [h, List.take_length])
 generalize hX : hexB l = X at *
 clear hX
 go_enter Tryz.func90, Tryz.ntmps90
 go_wp2_with fail
 go_loop [3, 4] (fun s i => ∃ (k : Nat) (A : B), s = .string (str A) ∧ i = .int .i64 k ∧ k ≤ l.length ∧ A.length = 2 * k ∧ Hid (A = hexB (l.take k))) (fun _ i => l.length - (intOf i).toNat)
 case atStart => exact ⟨0, [], rfl, rfl, Nat.zero_le _, rfl, hid rfl⟩
 case round =>
  obtain ⟨k, A, rfl, rfl, hk, hAl, HA⟩ := hrel
  by_cases hlt : k < l.length
  · have hdec : decide (k < l.length) = true := by simpa using hlt
    have hidx := zbo l (k : Int) k rfl hlt w
    have hx : (l.getD k 0).toNat < 256 := (l.getD k 0).toNat_lt
    have HN := hid (show A ++ SumM.digits (l.getD k 0).toNat 2 = hexB (l.take (k + 1)) by rw [zzv hlt, HA.out])
    generalize (l.getD k 0).toNat = x at *
    have HX : Hid (Calls Tryz.prog 89 #[.int .u64 x, .int .i64 2] w fun e w' => e = .returned (.string (str (SumM.digits x 2))) ∧ w = w') := hid (SumC.zxh x 2 w (by omega) (by decide))
    have hcv : IntKind.u64.wrap (x : Int) = x := IntWalk.u64_in _ ⟨by omega, by omega⟩
    have hdl := SumM.zwi x 2
    have hadd := zbn A (SumM.digits x 2) w (by omega)
    obtain ⟨A2, hA2⟩ : ∃ A2, A ++ SumM.digits x 2 = A2 := ⟨_, rfl⟩
    have hA2l : A2.length = 2 * (k + 1) := by rw [← hA2, List.length_append]; omega
    rw [hA2] at hadd HN
    clear hA2
    generalize SumM.digits x 2 = D at *
    go_wp2_with (first | (go_at_call 89; refine HX.out.mono ?_; rintro r w' ⟨rfl, rfl⟩) | fail)
    go_round
    case rel => exact ⟨k + 1, A2, rfl, by go_num, hlt, hA2l, HN⟩
    case measure => simp [intOf]; omega
  · have hke : k = l.length := by omega
    have hdec : decide (k < l.length) = false := by simpa using hlt
    have HE := hid (HR.out A (by rw [HA.out, hke]))
    go_wp2_with fail
    go_ret
    exact ⟨by rw [HE.out]; rfl, rfl⟩
theorem zzx {l : B} (h : l = []) : noteT l = [45] := by unfold noteT; rw [if_pos h]
theorem zzy {l : B} (h : ¬ l = []) : noteT l = hexB l := by unfold noteT; rw [if_neg h]
theorem zzz {l : B} (h : l = []) : (str l).toList.isEmpty = true := by rw [ByteArray.toList_eq, zbm, h]; rfl
theorem yaa {l : B} (h : ¬ l = []) : (str l).toList.isEmpty = false := by rw [ByteArray.toList_eq, zbm]; simp [h]
theorem yab (l : B) (w : World) (hl : l.length ≤ 1000) : Calls Tryz.prog 47 #[.string (str l)] w fun e w' => e = .returned (.string (str (noteT l))) ∧ w = w' := by
 have HX := hid (zzw l w hl)
 by_cases h : l = []
 · have HE := hid (zzx h)
   have hz := zzz h
   clear h
   generalize noteT l = N at *
   go_enter Tryz.func47, Tryz.ntmps47
   go_wp2_with fail
   go_ret
   exact ⟨by rw [HE.out]; rfl, rfl⟩
 · have HE := hid (zzy h)
   have hz := yaa h
   clear h
   generalize noteT l = N at *
   go_enter Tryz.func47, Tryz.ntmps47
   go_wp2_with (first | (go_at_call 90; refine HX.out.mono ?_; rintro r w' ⟨rfl, rfl⟩) | fail)
   go_ret
   exact ⟨by rw [HE.out]; rfl, rfl⟩
def aboutM (e : EvG) : B × Bool := if (fldS e.k).contains 110 then (e.name, true) else ([], false)
theorem yac (e : EvG) (w : World) : Calls Tryz.prog 11 #[evV e] w fun r w' => r = .returned (.tuple #[.string (str (aboutM e).1), .bool (aboutM e).2]) ∧ Below w.heap.size w w' := by
 have HB := hid (alW w (evO e))
 have HN := hid (zxn e.k 110 (w.alloc (evO e)))
 obtain ⟨c0, -, c2, -, -, -, -, -, -, -⟩ := ztd (heap_alloc_new w (evO e))
 have HA : Hid (aboutM e = if (fldS e.k).contains 110 then (e.name, true) else ([], false)) := hid rfl
 generalize aboutM e = am at *
 generalize (fldS e.k).contains 110 = b at *
 cases b with
 | true =>
   go_enter Tryz.func11, Tryz.ntmps11
   go_wp2_with (first | (go_at_call 26; refine HN.out.mono ?_; rintro r w' ⟨rfl, rfl⟩) | fail)
   go_ret2
   exact ⟨by rw [HA.out]; rfl, HB.out⟩
 | false =>
   go_enter Tryz.func11, Tryz.ntmps11
   go_wp2_with (first | (go_at_call 26; refine HN.out.mono ?_; rintro r w' ⟨rfl, rfl⟩) | fail)
   go_ret2
   exact ⟨by rw [HA.out]; rfl, HB.out⟩
end EvA
end
end Go.Proofs.YtbiplmbcdhjiaaaGreatDoor
section
namespace Go.Proofs
open Go.Shelf
def Tryz.lays283_ren : Go.Shelf.Ren := ⟨fun | 283 => 168 | n => n, fun | 3 => 3 | 9 => 9 | 4 => 4 | n => n, fun | n => n⟩
theorem Tryz.lays283 : Go.Proofs.Lays.n283 Tryz.prog Tryz.lays283_ren := {
 mixed := by kernel_rfl
 f283 := Tryz.func168.trans (congrArg some (by kernel_rfl))
 t3 := Tryz.underlying3
 a3 := Tryz.isAgg3
 z3 := Tryz.sizeOf3
 v3 := Tryz.zeroValue3
 t4 := Tryz.underlying4
 a4 := Tryz.isAgg4
 z4 := Tryz.sizeOf4
 v4 := Tryz.zeroValue4
 t9 := Tryz.underlying9
 a9 := Tryz.isAgg9
 z9 := Tryz.sizeOf9
 v9 := Tryz.zeroValue9 }
open Go.Lib in
/-- internal/strconv.small: "small returns the string for an i with 0 <= i < nSmalls.": i's decimal numeral. The world is as it was. (LAID: no walk: one application.) -/
theorem Tryz.internal_strconv_small (i : Nat) (h : i < 100) (w : World) :
 Calls Tryz.prog 168 #[.int .i64 i] w fun e w' => e = .returned (.string ⟨(Lib.decDigits i).toArray⟩) ∧ w' = w := Any.internal_strconv_small Tryz.lays283 i h w
def Tryz.laysM284_ren : Go.Shelf.Ren := ⟨fun | 284 => 169 | 129 => 156 | 317 => 197 | 318 => 198 | n => n, fun | 53 => 24 | 3 => 3 | 212 => 265 | 0 => 0 | 4 => 4 | 46 => 136 | 5 => 5 | 9 => 9 | n => n, fun | 17 => 3 | n => n⟩
theorem Tryz.laysM284 : Go.Proofs.LaysM.n284 Tryz.prog Tryz.laysM284_ren := {
 mixed := by kernel_rfl
 f129 := Tryz.func156.trans (congrArg some (by kernel_rfl))
 f284 := Tryz.func169.trans (congrArg some (by kernel_rfl))
 f317 := Tryz.func197.trans (congrArg some (by kernel_rfl))
 f318 := Tryz.func198.trans (congrArg some (by kernel_rfl))
 t0 := Tryz.underlying0
 a0 := Tryz.isAgg0
 z0 := Tryz.sizeOf0
 v0 := Tryz.zeroValue0
 t3 := Tryz.underlying3
 a3 := Tryz.isAgg3
 z3 := Tryz.sizeOf3
 v3 := Tryz.zeroValue3
 t4 := Tryz.underlying4
 a4 := Tryz.isAgg4
 z4 := Tryz.sizeOf4
 v4 := Tryz.zeroValue4
 t5 := Tryz.underlying5
 a5 := Tryz.isAgg5
 z5 := Tryz.sizeOf5
 v5 := Tryz.zeroValue5
 t9 := Tryz.underlying9
 a9 := Tryz.isAgg9
 z9 := Tryz.sizeOf9
 v9 := Tryz.zeroValue9
 t46 := Tryz.underlying136
 a46 := Tryz.isAgg136
 z46 := Tryz.sizeOf136
 v46 := Tryz.zeroValue136
 t53 := Tryz.underlying24
 a53 := Tryz.isAgg24
 z53 := Tryz.sizeOf24
 v53 := Tryz.zeroValue24
 t212 := Tryz.underlying265
 a212 := Tryz.isAgg265
 z212 := Tryz.sizeOf265
 v212 := Tryz.zeroValue265
 g17 := by kernel_rfl
 i0 := by kernel_rfl
 i3 := by kernel_rfl
 i4 := by kernel_rfl
 i5 := by kernel_rfl
 i9 := by kernel_rfl
 i46 := by kernel_rfl
 i53 := by kernel_rfl
 i212 := by kernel_rfl
 m17 := by kernel_rfl }
open Go.Lib in
/-- internal/strconv.numDigits, at a d that is not 0: THE NUMBER OF d's DECIMAL DIGITS. The world is as it was. (LAID: no walk: one application.) -/
theorem Tryz.internal_strconv_numDigits (u : Nat) (h1 : 1 ≤ u) (h2 : u < 18446744073709551616) (w : World) (htab : Lib.TabIs Tryz.prog w "internal/strconv.uint64pow10" .u64 Lib.pow10Tab) :
 Calls Tryz.prog 169 #[.int .u64 u] w fun e w' => e = .returned (.int .i64 (Lib.nDigits u)) ∧ w' = w := Any.internal_strconv_numDigits Tryz.laysM284 u h1 h2 w htab
def Tryz.lays285_ren : Go.Shelf.Ren := ⟨fun | 285 => 170 | n => n, fun | 37 => 80 | 53 => 24 | 3 => 3 | 4 => 4 | 51 => 25 | 9 => 9 | 5 => 5 | 0 => 0 | n => n, fun | n => n⟩
theorem Tryz.lays285 : Go.Proofs.Lays.n285 Tryz.prog Tryz.lays285_ren := {
 mixed := by kernel_rfl
 f285 := Tryz.func170.trans (congrArg some (by kernel_rfl))
 t0 := Tryz.underlying0
 a0 := Tryz.isAgg0
 z0 := Tryz.sizeOf0
 v0 := Tryz.zeroValue0
 t3 := Tryz.underlying3
 a3 := Tryz.isAgg3
 z3 := Tryz.sizeOf3
 v3 := Tryz.zeroValue3
 t4 := Tryz.underlying4
 a4 := Tryz.isAgg4
 z4 := Tryz.sizeOf4
 v4 := Tryz.zeroValue4
 t5 := Tryz.underlying5
 a5 := Tryz.isAgg5
 z5 := Tryz.sizeOf5
 v5 := Tryz.zeroValue5
 t9 := Tryz.underlying9
 a9 := Tryz.isAgg9
 z9 := Tryz.sizeOf9
 v9 := Tryz.zeroValue9
 t37 := Tryz.underlying80
 a37 := Tryz.isAgg80
 z37 := Tryz.sizeOf80
 v37 := Tryz.zeroValue80
 t51 := Tryz.underlying25
 a51 := Tryz.isAgg25
 z51 := Tryz.sizeOf25
 v51 := Tryz.zeroValue25
 t53 := Tryz.underlying24
 a53 := Tryz.isAgg24
 z53 := Tryz.sizeOf24
 v53 := Tryz.zeroValue24 }
open Go.RowKit Go.Sort Go.Lib in
/-- internal/strconv.formatBase10: "formatBase10 formats the decimal representation of u into a. The caller is responsible for ensuring that a is big enough to hold u. If a is too big, leading zeros will be filled in as needed.": THE ROW HOLDS u's DIGITS ('FmtInv .. 0 ..': every place t holds 'dg u (len - 1 - t)'); all else is as it was but for the count of draws. (LAID: no walk: one application.) -/
theorem Tryz.internal_strconv_formatBase10 (blk off cap : Nat) (u : Nat) (d : Array UInt8) (w : World) (hH : Holds (fun (b : UInt8) => Value.int .u8 (b.toNat : Int)) w blk off d) (hu : u < 10 ^ d.size) (hu64 : u < 18446744073709551616) (hsz : d.size < 4611686018427387904) :
 Calls Tryz.prog 170 #[.slice (some ⟨blk, off, none⟩) d.size cap, .int .u64 u] w fun e w' =>
  e = .returned (.tuple #[]) ∧ ∃ (n v' : Nat) (dk : Array UInt8), w' = (putRow (fun (b : UInt8) => Value.int .u8 (b.toNat : Int)) w blk off dk).drewN n ∧ FmtInv d.size u 0 v' dk := Any.internal_strconv_formatBase10 Tryz.lays285 blk off cap u d w hH hu hu64 hsz
end Go.Proofs
end
namespace Go.Proofs.YtbiplmbcdhjiaaaGreatDoor
open Go.Lib (hid)
section
open Go.RowKit Go.Sort
namespace FmtC
open StrC
def Tab (w : World) : Prop := Lib.TabIs Tryz.prog w "internal/strconv.uint64pow10" .u64 Lib.pow10Tab
set_option maxRecDepth 100000 in
theorem yad (u : Nat) (w : World) (hu64 : u < 18446744073709551616) (htab : Tab w) :
 Calls Tryz.prog 130 #[.int .u64 u, .int .i64 10] w fun e w' => e = .returned (.string (str (Lib.decDigits u))) ∧ Below w.heap.size w w' := by
 by_cases hs : u < 100
 · have hd : decide ((u : Int) < 100) = true := decide_eq_true (by omega)
   have hd' : decide (u < 100) = true := decide_eq_true hs
   have HS := hid (fun w => Tryz.internal_strconv_small u hs w)
   have hcv : IntKind.i64.wrap (u : Int) = u := IntWalk.i64_in _ ⟨by omega, by omega⟩
   clear hs
   go_enter Tryz.func130, Tryz.ntmps130
   go_wp2_with (go_at_call 168; refine (HS.out _).mono ?_; rintro e w' ⟨rfl, rfl⟩)
   go_ret
   exact ⟨rfl, Below.refl _ _⟩
 · have hd : decide ((u : Int) < 100) = false := decide_eq_false (by omega)
   have hd' : decide (u < 100) = false := decide_eq_false hs
   have hu1 : 1 ≤ u := by omega
   have hnd20 : Lib.nDigits u ≤ 20 := by have := Lib.numDigits_eq u hu1 hu64; split at this <;> omega
   have hal : Tryz.prog.arrayLen 232 = 24 := by kernel_rfl
   have hsl : ∀ W, (Instr.sliceAt 232 (.pointer (some ⟨w.heap.size, 0, none⟩)) none (some (.int .i64 (Lib.nDigits u : Int))) none).run Tryz.prog W = .ok (.slice (some ⟨w.heap.size, 0, none⟩) (Lib.nDigits u) 24) W := fun W => by
    rw [run_sliceAt_array_h W 232 ⟨w.heap.size, 0, none⟩ (by kernel_rfl) .i64 (Lib.nDigits u : Int) (by omega) (by rw [hal]; omega)]
    go_simp
   have hH0 := Lib.holds_zero0 w 232 (Lib.nDigits u) (by omega)
   have hfmt := Tryz.internal_strconv_formatBase10 w.heap.size 0 24 u (Array.replicate (Lib.nDigits u) 0) (w.alloc (.cells Lib.zeros24 232)) hH0 (by rw [Array.size_replicate]; exact Lib.lt_pow_nDigits u) hu64 (by rw [Array.size_replicate]; omega)
   rw [Array.size_replicate] at hfmt
   have HH0 := hid hH0
   have HND := hid (fun w h => Tryz.internal_strconv_numDigits u hu1 hu64 w h)
   have HT := hid (Lib.tabIs_alloc htab (.cells Lib.zeros24 232))
   have HF := hid hfmt
   have HU := hid hu64
   clear hH0 hal hfmt hs htab hu64
   go_enter Tryz.func130, Tryz.ntmps130
   go_wp2_with (first
    | (go_at_call 169; refine (HND.out _ HT.out).mono ?_; rintro e w' ⟨rfl, rfl⟩))
   refine HF.out.mono ?_
   rintro e w' ⟨rfl, k, v', dk, rfl, hF⟩
   have hcv : (convert 80 9 (.slice (some ⟨w.heap.size, 0, none⟩) (Lib.nDigits u) 24)).run Tryz.prog ((putRow (fun (b : UInt8) => Value.int .u8 (b.toNat : Int)) (w.alloc (.cells Lib.zeros24 232)) w.heap.size 0 dk).drewN k) = .ok (.string (str (Lib.decDigits u))) ((putRow (fun (b : UInt8) => Value.int .u8 (b.toNat : Int)) (w.alloc (.cells Lib.zeros24 232)) w.heap.size 0 dk).drewN k) := by
    have h := run_convert_bytes_back (P := Tryz.prog) ((putRow (fun (b : UInt8) => Value.int .u8 (b.toNat : Int)) (w.alloc (.cells Lib.zeros24 232)) w.heap.size 0 dk).drewN k) 80 9 5 ⟨w.heap.size, 0, none⟩ 24 (Lib.decDigits u) Tryz.underlying80 Tryz.underlying5 Tryz.underlying9 (fun j hj => by
     have hi : j < (Lib.decDigits u).length := by simpa using hj
     rw [Lib.row_is_numeral hF j hi, Lib.add_plain, World.cell?_drewN]
     exact cell?_putRow (fun (b : UInt8) => Value.int .u8 (b.toNat : Int)) _ w.heap.size 0 _ dk HH0.out (by rw [hF.size, Array.size_replicate]) j (by rw [hF.size]; rw [Lib.decDigits_length] at hi; exact hi))
    rw [Lib.decDigits_length] at h
    exact h
   obtain ⟨os, eo⟩ := Lib.fin_at w (.cells Lib.zeros24 232) dk k 0
   have hb : Below w.heap.size w ((putRow (fun (b : UInt8) => Value.int .u8 (b.toNat : Int)) (w.alloc (.cells Lib.zeros24 232)) w.heap.size 0 dk).drewN k) := by rw [eo]; exact Lib.below_grow _ w (Nat.le_refl _) k os
   have HB := hid hb
   generalize (putRow (fun (b : UInt8) => Value.int .u8 (b.toNat : Int)) (w.alloc (.cells Lib.zeros24 232)) w.heap.size 0 dk).drewN k = W2 at *
   clear eo HF HH0 hb hF
   go_wp2_with fail
   go_ret
   exact ⟨rfl, HB.out⟩
theorem yae (u : Nat) (w : World) (hu64 : u < 18446744073709551616) (htab : Tab w) :
 Calls Tryz.prog 87 #[.int .u64 u, .int .i64 10] w fun e w' => e = .returned (.string (str (Lib.decDigits u))) ∧ Below w.heap.size w w' := by
 have H := hid (yad u w hu64 htab)
 go_enter Tryz.func87, Tryz.ntmps87
 go_wp2_with (go_at_call 130; refine H.out.mono ?_; rintro e w' ⟨rfl, hb⟩)
 go_ret
 exact ⟨rfl, hb⟩
end FmtC
end
section
open Go.RowKit Go.Sort
namespace EvA
open StrC EvF EvC TextR CodeM CodeC
open VerC (Vw)
theorem yaf (a b : Int) : ∀ u ∈ [Value.int .u8 a, Value.int .u8 b], u.oneCell' = true := by
 intro u hu
 simp only [List.mem_cons, List.not_mem_nil, or_false] at hu
 rcases hu with rfl | rfl <;> rfl
theorem yag (x : Nat) (hx : x < 16) (w : World) : (Instr.index 9 (.string { data := #[48, 49, 50, 51, 52, 53, 54, 55, 56, 57, 97, 98, 99, 100, 101, 102] }) (.int .u8 (x : Int))).run Tryz.prog w = .ok (.int .u8 ((SumM.hd x).toNat : Int)) w := by
 rcases (by omega : x = 0 ∨ x = 1 ∨ x = 2 ∨ x = 3 ∨ x = 4 ∨ x = 5 ∨ x = 6 ∨ x = 7 ∨ x = 8 ∨ x = 9 ∨ x = 10 ∨ x = 11 ∨ x = 12 ∨ x = 13 ∨ x = 14 ∨ x = 15) with rfl | rfl | rfl | rfl | rfl | rfl | rfl | rfl | rfl | rfl | rfl | rfl | rfl | rfl | rfl | rfl <;> kernel_rfl
theorem yah (L : List UInt8) (a b : UInt8) : L.map byteV ++ [Value.int .u8 a.toNat, Value.int .u8 b.toNat] = (L ++ [a, b]).map byteV := by simp [byteV]
theorem and15 (x : Nat) (h : x < 256) : bits .and .u8 (x : Int) 15 = ((x % 16 : Nat) : Int) := by
 have H : ∀ n : Fin 256, bits .and .u8 (n.val : Int) 15 = ((n.val % 16 : Nat) : Int) := by decide +kernel
 exact H ⟨x, h⟩
set_option maxRecDepth 100000 in
theorem yai (l : B) (w : World) (hl : l.length ≤ 1000) : Calls Tryz.prog 84 #[.string (str l)] w fun e w' => e = .returned (.string (str (hexB l))) ∧ Below w.heap.size w w' := by
 obtain ⟨i0, hi, hz0, hz1, hz2⟩ := info_parts info_u8
 have hsz := zbl l
 have HR : Hid (∀ A, A = hexB (l.take l.length) → A = hexB l) := hid (fun A h => by rw [h, List.take_length])
 generalize hX : hexB l = X at *
 clear hX
 go_enter Tryz.func84, Tryz.ntmps84
 go_wp2_with fail
 go_loopw [3, 4, 7] (fun v _ i wr => ∃ (k : Nat) (A : B), i = .int .i64 k ∧ k ≤ l.length ∧ A.length = 2 * k ∧ Hid (A = hexB (l.take k)) ∧ Hid (wr.ownsRow w.heap.size 5 1 v A.length (A.map byteV)) ∧ Hid (k = 0 → v = .slice none 0 0) ∧ Hid (Below w.heap.size w wr)) (fun _ _ i _ => l.length - (intOf i).toNat)
 case atStart => exact ⟨0, [], rfl, Nat.zero_le _, rfl, hid rfl, hid (World.ownsRow_nil _ _ _ _), hid (fun _ => rfl), hid (Below.refl _ _)⟩
 case round =>
  obtain ⟨k, A, rfl, hk, hAl, HA, HO, HZ, HB⟩ := hrel
  rename World => wr
  by_cases hlt : k < l.length
  · have hdec : decide (k < l.length) = true := by simpa using hlt
    have hidx : ∀ W, (Instr.index 9 (.string (str l)) (.int .i64 (k : Int))).run Tryz.prog W = .ok (.int .u8 (l.getD k 0).toNat) W := fun W => zbo l (k : Int) k rfl hlt W
    have hx : (l.getD k 0).toNat < 256 := (l.getD k 0).toNat_lt
    have HN := hid (show A ++ [SumM.hd ((l.getD k 0).toNat / 16 % 16), SumM.hd ((l.getD k 0).toNat % 16)] = hexB (l.take (k + 1)) by rw [zzv hlt, HA.out]; simp [SumM.digits])
    generalize (l.getD k 0).toNat = x at *
    have hd1 := yag (x / 16) (by omega)
    have hd2 := yag (x % 16) (by omega)
    rw [show ((x / 16 : Nat) : Int) = (x : Int) / 16 from by omega] at hd1
    rw [show ((x % 16 : Nat) : Int) = (x : Int) % 16 from by omega] at hd2
    have ha15 : bits .and .u8 (x : Int) 15 = (x : Int) % 16 := by rw [and15 x hx]; omega
    have hxm : x / 16 % 16 = x / 16 := Nat.mod_eq_of_lt (by omega)
    rw [hxm] at HN
    generalize hy1 : SumM.hd (x / 16) = y1 at *
    generalize hy2 : SumM.hd (x % 16) = y2 at *
    clear hy1 hy2
    go_wp2_with fail
    have HLE : Hid (A.length + 2 ≤ maxLen) := hid (by unfold maxLen; omega)
    have HLB : Hid ((A.length + 2) * 1 ≤ 140737488355328) := hid (by omega)
    have HBS : Hid (w.heap.size ≤ (wr.alloc (.cells #[.int .u8 y1.toNat, .int .u8 y2.toNat] 5)).heap.size) := hid (by have := HB.out.size; simp; omega)
    go_region_held3 (fun _ => True) (exact trivial)
     (first
       | (refine AppC.step_append_own rfl _ _ _ (by rfl) w.heap.size 5 i0 _ 1 1 Tryz.underlying80 hi hz0 hz1 hz2 rfl (by decide) u3 A.length (A.map byteV) (by simp [Act.eval]) (HO.out.alloc _) ⟨wr.heap.size, 0, none⟩ 2 2 [.int .u8 y1.toNat, .int .u8 y2.toNat] (by simp [Act.eval]) rfl (zzk wr [.int .u8 y1.toNat, .int .u8 y2.toNat] 5) (yaf _ _) HLE.out HLB.out HBS.out ?_
          intro v' w5 hown5 hg5
          have HX5 := hid (And.intro hown5 hg5)
          clear hown5 hg5)
       | fail)
    all_goals
     have HROW : Hid (w5.ownsRow w.heap.size 5 1 v' (A ++ [y1, y2]).length ((A ++ [y1, y2]).map byteV)) := hid (by have h := HX5.out.1; rw [yah] at h; simpa using h)
     have HBW : Hid (Below w.heap.size w w5) := hid (by
      have h0 : Below w.heap.size w (wr.alloc (.cells #[.int .u8 y1.toNat, .int .u8 y2.toNat] 5)).drew := (HB.out.trans ((alW wr _).mono HB.out.size)).drew
      exact h0.grown HX5.out.2 HBS.out (fun b hb => (World.ownsRow.lt HO.out b hb).1))
     clear HX5
     go_wp2_with fail
     go_roundw
     case rel => exact ⟨k + 1, A ++ [y1, y2], by go_num, hlt, by simp; omega, HN, HROW, hid (fun h => by omega), HBW⟩
     case measure => simp [intOf]; omega
  · have hke : k = l.length := by omega
    have hdec : decide (k < l.length) = false := by simpa using hlt
    have HE := hid (HR.out A (by rw [HA.out, hke]))
    rcases Nat.eq_zero_or_pos A.length with h0 | h0
    · have hA0 : A = [] := List.eq_nil_of_length_eq_zero h0
      have hu : u3 = .slice none 0 0 := HZ.out (by omega)
      subst hu
      have hcv : (convert 80 9 (.slice none 0 0)).run Tryz.prog wr = .ok (.string (str [])) wr := by kernel_rfl
      have HE2 : Hid (X = []) := hid (by rw [← HE.out, hA0])
      clear hA0
      go_wp2_with fail
      go_ret
      exact ⟨by rw [HE2.out]; rfl, HB.out⟩
    · have hcv := zyk HO.out h0
      go_wp2_with fail
      go_ret
      exact ⟨by rw [← HE.out]; rfl, HB.out⟩
theorem yaj (w0 : World) (hv : Vw w0) : WrS w0 81 (swapB 32 95) := by
 intro l hl w hb
 obtain ⟨m, hm⟩ := (hv.gr hb).max
 have HR := hid (Tryz.strings_ReplaceAll (str l) (str [32]) (str [95]) m w (by rw [zbl]; omega) hm (by rw [zbl]; decide) (by
  have hc : Lib.countB (str l) (str [32]) ≤ l.length := by
   show Lib.count l [32] ≤ l.length
   rw [Lib.count_one]
   exact List.count_le_length
  rw [zbl, zbl]
  simp only [List.length_cons, List.length_nil]
  omega))
 go_enter Tryz.func81, Tryz.ntmps81
 go_wp2_with (go_at_call 82; refine HR.out.mono ?_; rintro e w' ⟨rfl, hb⟩)
 go_ret
 refine ⟨?_, hb⟩
 rw [zbm, zbm, zbm, zxe 32 95 (by decide)]
 rfl
theorem yak (w0 : World) : WrS w0 83 noteT := by
 intro l hl w hb
 have HX := hid (yai l w hl)
 by_cases h : l = []
 · have HE := hid (zzx h)
   have hz := zzz h
   clear h
   generalize noteT l = N at *
   go_enter Tryz.func83, Tryz.ntmps83
   go_wp2_with fail
   go_ret
   exact ⟨by rw [HE.out]; rfl, Below.refl _ _⟩
 · have HE := hid (zzy h)
   have hz := yaa h
   clear h
   generalize noteT l = N at *
   go_enter Tryz.func83, Tryz.ntmps83
   go_wp2_with (first | (go_at_call 84; refine HX.out.mono ?_; rintro r w' ⟨rfl, hb1⟩) | fail)
   go_ret
   exact ⟨by rw [HE.out]; rfl, hb1⟩
theorem yal (w0 : World) : WrN w0 85 (fun n => SumM.digits n 16) := by
 intro x hx w hb
 have HW := hid (zyw x w hx)
 have HX : Hid (∀ W, Calls Tryz.prog 84 #[.string (str (wordB x 8))] W fun e w' => e = .returned (.string (str (SumM.digits x 16))) ∧ Below W.heap.size W w') := hid (fun W => by
  have h := yai (wordB x 8) W (by rw [zwq]; omega)
  rw [zxb x 8] at h
  exact h)
 go_enter Tryz.func85, Tryz.ntmps85
 go_wp2_with (first | (go_at_call 76; refine HW.out.mono ?_; rintro r w1 ⟨rfl, hb1⟩) | (go_at_call 84; refine (HX.out _).mono ?_; rintro r w2 ⟨rfl, hb2⟩) | fail)
 go_ret
 exact ⟨rfl, hb1.trans (hb2.mono hb1.size)⟩
theorem yam (w0 : World) (hv : Vw w0) : WrN w0 86 Lib.decDigits := by
 intro x hx w hb
 have HX := hid (FmtC.yae x w hx (hv.gr hb).pow)
 go_enter Tryz.func86, Tryz.ntmps86
 go_wp2_with (first | (go_at_call 87; refine HX.out.mono ?_; rintro r w1 ⟨rfl, hb1⟩) | fail)
 go_ret
 exact ⟨rfl, hb1⟩
theorem yan (w0 : World) : WrS w0 80 id := fun l hl w hb => (zyz (str l) w).mono (fun _ _ h => ⟨h.1, h.2 ▸ Below.refl _ _⟩)
theorem yao (w0 : World) : WrS w0 75 textB := fun l hl w hb => zyt (str l) w (by rw [zbl]; omega)
theorem yap (w0 : World) : WrN w0 76 (fun n => wordB n 8) := fun x hx w hb => zyw x w hx
theorem yaq (w0 : World) : WrN w0 77 uintB := fun x hx w hb => zys x w hx
theorem ent_1 : Ent 74 := by intro args w; kernel_rfl
theorem ent_2 : Ent 75 := by intro args w; kernel_rfl
theorem ent_3 : Ent 76 := by intro args w; kernel_rfl
theorem ent_4 : Ent 77 := by intro args w; kernel_rfl
theorem ent_5 : Ent 79 := by intro args w; kernel_rfl
theorem ent_6 : Ent 80 := by intro args w; kernel_rfl
theorem ent_7 : Ent 81 := by intro args w; kernel_rfl
theorem ent_8 : Ent 83 := by intro args w; kernel_rfl
theorem ent_9 : Ent 85 := by intro args w; kernel_rfl
theorem ent_10 : Ent 86 := by intro args w; kernel_rfl
end EvA
end
end Go.Proofs.YtbiplmbcdhjiaaaGreatDoor
