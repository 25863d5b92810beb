/-
  What the document's own answers for layer 2 write: numbers, words, texts, lists as bytes: one contract a function.
-/
import Derived.Test.YtgjcbcakmcgjhaaDoorChecked
import Derived.Test.YtgjcbcakmcgjhaaDoorCodeMath
import Derived.WalkKit
import Derived.Lib.Hide
import Derived.Laws.BytesArg
import Derived.WalkSmall
namespace Go.Proofs.YtgjcbcakmcgjhaaDoor
open Go.RowKit
namespace CodeC
open CodeM

theorem info_u8 : (Tryd.prog.info? 5).map (fun i => (i.zero, i.size, i.bytes)) = some (some (.int .u8 0), 1, 1) := by kernel_rfl

theorem cell_one (w : World) (v : Value) (t : TypeId) : ∀ j u, [v][j]? = some u → (w.alloc (.cells #[v] t)).cell? ((⟨w.heap.size, 0, none⟩ : Addr).add j) = some u := by
  intro j u hu
  match j with
  | 0 =>
    rw [Go.WideShapes.add_plain, World.cell?_alloc_at _ _ _ _ rfl]
    simpa using hu
  | j + 1 => simp at hu
theorem one_int (n : Int) : ∀ u ∈ [Value.int .u8 n], u.oneCell' = true := by
  intro u hu
  rw [List.mem_singleton] at hu
  subst hu
  rfl
theorem nums_text (l : List UInt8) : strOfNums (l.map fun c => (c.toNat : Int)) = ⟨l.toArray⟩ := by
  apply ByteArray.ext
  apply Array.toList_inj.1
  rw [strOfNums_data, List.map_map]
  show _ = l
  conv => rhs; rw [← List.map_id l]
  apply List.map_congr_left
  intro c _
  simp
/-- an owned row of bytes, as a text -/
theorem text_of_own {w : World} {B n : Nat} {v : Value} {l : List UInt8} (h : w.ownsRow B 5 1 v n (l.map byteV)) (hn : 0 < n) :
    (convert 56 9 v).run Tryd.prog w = .ok (.string ⟨l.toArray⟩) w := by
  have hcs : ∀ g, v.ownBlock = some g → _ := fun g hg => h.cells hg
  have hl : l.length = n := by have := h.1; simpa using this
  obtain ⟨_, ⟨rfl, h0⟩ | ⟨g, cp, cur, rfl, hg0, hblk, hle, hcm, hsz, htk⟩⟩ := h
  · omega
  · have e := run_convert_bytes_arg (P := Tryd.prog) w 56 5 Tryd.underlying56 Tryd.underlying5 g 0 n cp (l.map fun c => (c.toNat : Int)) (by simp [hl]) (fun i hi => by
      have := hcs g rfl i (.int .u8 ((l.map fun c => (c.toNat : Int)).getD i 0)) (by
        have hi' : i < l.length := by omega
        simp [hi', byteV])
      rw [Go.WideShapes.add_plain] at this
      exact this) 9 Tryd.underlying9
    rw [e, nums_text]
/-- one byte more behind an owned row -/
theorem own_snoc {w : World} {B n : Nat} {v : Value} {l : List UInt8} {m : Nat} {x : Int} (h : w.ownsRow B 5 1 v (n + 1) (l.map byteV ++ [Value.int .u8 x])) (hx : x = (m : Int)) (hm : m < 256) :
    w.ownsRow B 5 1 v (n + 1) ((l ++ [UInt8.ofNat m]).map byteV) := by
  subst hx
  rw [List.map_append, List.map_singleton, byteV_ofNat m hm]
  exact h

set_option maxHeartbeats 1000000 in
set_option maxRecDepth 100000 in
theorem ruint_any (x : Nat) (w : World) (h : x < 18446744073709551616) :
    Calls Tryd.prog 9 #[.int .u64 x] w fun e w' => e = .returned (.string ⟨(uintB x).toArray⟩) ∧ Below w.heap.size w w' := by
  obtain ⟨i0, hi, hz0, hz1, hz2⟩ := info_parts info_u8
  have H0 := Lib.hid h; clear h
  go_enter Tryd.func9, Tryd.ntmps9
  go_wp2_with fail
  go_loopw [0, 3] (fun vx vb wr => ∃ (n y : Nat) (l : List UInt8), vx = .int .u64 y ∧ l.length = n ∧ (n = 0 ∨ 1 ≤ y) ∧ Hid (uintB x = l ++ uintB y) ∧ Hid (y * 128 ^ n ≤ x) ∧ wr.ownsRow w.heap.size 5 1 vb n (l.map byteV) ∧ Below w.heap.size w wr) (fun vx _ _ => (intOf vx).toNat)
  case atStart => exact ⟨0, x, [], rfl, rfl, Or.inl rfl, Lib.hid rfl, Lib.hid (by simp), World.ownsRow_nil _ _ _ _, Below.refl _ _⟩
  case round =>
    obtain ⟨n, y, l, rfl, hl, hny, HU, HP, hown, hB⟩ := hrel
    rename World => wr
    have hy : y ≤ 18446744073709551615 := by have := HP.out; have := H0.out; have h1 : y * 1 ≤ y * 128 ^ n := Nat.mul_le_mul_left _ (Nat.pow_pos (by omega)); omega
    have HL := Lib.hid hl; clear hl
    have HB := Lib.hid hB; clear hB
    have hn : n ≤ 9 := by
      rcases hny with h0 | h0
      · omega
      · exact pow_bound n y x HP.out h0 H0.out
    have HN := Lib.hid hny; clear hny
    by_cases hb : 127 < y
    · have hand := and127 y hy
      have hor := or128 ((y : Int) % 128) (by omega) (by omega)
      go_wp2_with (at_builtin; refine wpList_append_own _ rfl _ _ 56 rfl w.heap.size 5 i0 (.int .u8 0) 1 1 Tryd.underlying56 hi hz0 hz1 hz2 rfl (by decide) _ _ _ rfl (hown.alloc _) ⟨wr.heap.size, 0, none⟩ 1 1 [.int .u8 ((y : Int) % 128 + 128)] rfl rfl ?c1 ?c2 ?c3 ?c4 ?c5 ?_)
      case c1 => exact cell_one _ _ _
      case c2 => exact one_int _
      case c3 => unfold maxLen; omega
      case c4 => omega
      case c5 => have := HB.out.size; simp; omega
      intro v' w1 hown' hg _
      have hB1 : Below w.heap.size w w1 := (HB.out.alloc HB.out.size _).grown hg (by have := HB.out.size; simp; omega) (fun k hk => (hown.lt k hk).1)
      have HO := own_snoc (m := y % 128 + 128) hown' (by omega) (by omega)
      have H1 := Lib.hid hB1
      clear hown' hg hB1 hown
      go_wp2_with fail
      go_roundw
      case rel => exact ⟨n + 1, y / 128, l ++ [UInt8.ofNat (y % 128 + 128)], by go_num, by simp [HL.out], Or.inr (by omega), Lib.hid (by rw [HU.out, uintB_big y hb]; simp), Lib.hid (pow_step n y x HP.out), HO, H1.out⟩
      case measure => simp [intOf]; omega
    · go_wp2_with (at_builtin; refine wpList_append_own _ rfl _ _ 56 rfl w.heap.size 5 i0 (.int .u8 0) 1 1 Tryd.underlying56 hi hz0 hz1 hz2 rfl (by decide) _ _ _ rfl (hown.alloc _) ⟨wr.heap.size, 0, none⟩ 1 1 [.int .u8 ((y : Int))] rfl rfl ?c1 ?c2 ?c3 ?c4 ?c5 ?_)
      case c1 => exact cell_one _ _ _
      case c2 => exact one_int _
      case c3 => unfold maxLen; omega
      case c4 => omega
      case c5 => have := HB.out.size; simp; omega
      intro v' w1 hown' hg _
      have hB1 : Below w.heap.size w w1 := (HB.out.alloc HB.out.size _).grown hg (by have := HB.out.size; simp; omega) (fun k hk => (hown.lt k hk).1)
      have HO := own_snoc (m := y) hown' rfl (by omega)
      have H1 := Lib.hid hB1
      have hcv := text_of_own HO (by omega)
      clear hown' hg hB1 hown
      go_wp2_with fail
      go_ret
      exact ⟨by rw [HU.out, uintB_small y hb]; rfl, H1.out⟩

theorem shift8 (x k : Nat) : x / 2 ^ (8 * k) = x / 256 ^ k := by rw [Nat.pow_mul]
theorem shift_cast (x k : Nat) : ((x : Int) / 2 ^ (8 * k) % 256) = ((x / 256 ^ k % 256 : Nat) : Int) := by
  rw [← shift8]; simp
set_option maxHeartbeats 1000000 in
set_option maxRecDepth 100000 in
theorem rword_any (x : Nat) (w : World) (h : x < 18446744073709551616) :
    Calls Tryd.prog 11 #[.int .u64 x] w fun e w' => e = .returned (.string ⟨(wordB x 8).toArray⟩) ∧ Below w.heap.size w w' := by
  have H0 := Lib.hid h; clear h
  have hmk : (Instr.makeSlice 56 (.int .i64 8) (.int .i64 8)).run Tryd.prog w = .ok (.slice (some ⟨w.heap.size, 0, none⟩) 8 8) (w.alloc (.cells #[.int .u8 0, .int .u8 0, .int .u8 0, .int .u8 0, .int .u8 0, .int .u8 0, .int .u8 0, .int .u8 0] 5)) := by kernel_rfl
  go_enter Tryd.func11, Tryd.ntmps11
  go_wp2
  clear hmk
  rw [← arrW_zero x]
  go_loopw [4] (fun i wr => ∃ k : Nat, k ≤ 8 ∧ i = .int .i64 k ∧ wr = w.alloc (.cells (arrW x k) 5)) (fun i _ => 8 - (intOf i).toNat)
  case atStart => exact ⟨0, Nat.zero_le _, rfl, rfl⟩
  case round =>
    obtain ⟨k, hk, rfl, rfl⟩ := hrel
    by_cases hlt : k < 8
    · have hsz := arrW_size x k hk
      obtain ⟨v0, hv0⟩ := arrW_get x k hlt
      have hset := Lib.hid (arrW_set x k hlt)
      have hx : x ≤ 18446744073709551615 := by have := H0.out; omega
      generalize arrW x k = A at *
      go_wp2
      go_roundw
      case rel => exact ⟨k + 1, by omega, by go_num, by rw [← hset.out, shift_cast]⟩
      case measure => simp [intOf]; omega
    · have hk8 : k = 8 := by omega
      subst hk8
      have hcv := run_convert_bytes_arg (P := Tryd.prog) (w.alloc (.cells (arrW x 8) 5)) 56 5 Tryd.underlying56 Tryd.underlying5 w.heap.size 0 8 8 ((wordB x 8).map fun c => (c.toNat : Int)) (by simp [wordB_length]) (fun i hi => by rw [Nat.zero_add, World.cell?_alloc_at _ _ _ _ rfl]; exact arrW_bytes x i hi) 9 Tryd.underlying9
      rw [nums_text] at hcv
      go_wp2
      go_ret
      exact ⟨rfl, (Below.refl _ _).alloc (Nat.le_refl _) _⟩

theorem str_add (l : List UInt8) (s : ByteArray) : (⟨l.toArray⟩ : ByteArray) ++ s = ⟨(l ++ s.data.toList).toArray⟩ := by
  apply ByteArray.ext
  simp
theorem uintB_le : ∀ (n x : Nat), x < 128 ^ n → 0 < n → (uintB x).length ≤ n
  | 0, _, _, h => absurd h (by omega)
  | 1, x, h, _ => by rw [uintB_small x (by omega)]; simp
  | n + 2, x, h, _ => by
    by_cases hb : 127 < x
    · rw [uintB_big x hb]
      have : x / 128 < 128 ^ (n + 1) := by
        rw [Nat.div_lt_iff_lt_mul (by decide), ← Nat.pow_succ]
        exact h
      have := uintB_le (n + 1) (x / 128) this (by omega)
      simp; omega
    · rw [uintB_small x hb]; simp
theorem uintB_ten (x : Nat) (h : x < 18446744073709551616) : (uintB x).length ≤ 10 := by
  have h3 : (128 : Nat) ^ 10 = 1180591620717411303424 := by decide
  exact uintB_le 10 x (by omega) (by omega)
theorem rtext_any (s : ByteArray) (w : World) (h : s.size ≤ 4611686018427387904) :
    Calls Tryd.prog 13 #[.string s] w fun e w' => e = .returned (.string ⟨(textB s.data.toList).toArray⟩) ∧ Below w.heap.size w w' := by
  have hlen := uintB_ten s.size (by omega)
  have hadd := fun (w : World) => run_string_add_sum (P := Tryd.prog) w ⟨(uintB s.size).toArray⟩ s (by show (uintB s.size).toArray.size + s.size ≤ _; rw [List.size_toArray]; omega)
  have hjoin := str_add (uintB s.size) s
  clear hlen
  go_enter Tryd.func13, Tryd.ntmps13
  go_wp2_with fail
  refine (ruint_any s.size _ (by omega)).mono ?_
  rintro e w' ⟨rfl, hb⟩
  have HB := Lib.hid hb; clear hb
  go_wp2_with fail
  go_ret
  exact ⟨by unfold textB; rw [show s.data.toList.length = s.size by simp, ← hjoin]; rfl, HB.out⟩

theorem rtexts_none (a : Option Addr) (cap : Nat) (w : World) :
    Calls Tryd.prog 15 #[.slice a 0 cap] w fun e w' => e = .returned (.string ⟨(listB []).toArray⟩) ∧ Below w.heap.size w w' := by
  go_enter Tryd.func15, Tryd.ntmps15
  go_wp2_with fail
  refine (ruint_any 0 _ (by omega)).mono ?_
  rintro e w' ⟨rfl, hb⟩
  have HB := Lib.hid hb; clear hb
  go_wp2_with fail
  refine wp_loop_rounds 1 ?_; rw [rounds_succ]; go_wp2_with fail
  go_ret
  exact ⟨by simp [listB, textsB], HB.out⟩

theorem takes_le (zs : List ByteArray) (k len : Nat) (h : k ≤ len) : (textsB (zs.take k)).length ≤ (textsB (zs.take len)).length := by
  have e : zs.take len = zs.take k ++ (zs.take len).drop k := by
    have := List.take_append_drop k (zs.take len)
    rw [List.take_take, Nat.min_eq_left h] at this
    exact this.symm
  rw [e, textsB_append]; simp

set_option maxHeartbeats 1000000 in
theorem rtexts_some (b o len cap : Nat) (zs : List ByteArray) (w : World) (hl : len ≤ zs.length) (hm : len ≤ 9223372036854775807) (hlt : b < w.heap.size)
    (hc : ∀ i, i < len → w.cell? ⟨b, o + i, none⟩ = some (.string (zs.getD i ByteArray.empty))) (hs : (textsB (zs.take len)).length ≤ 4611686018427387904) :
    Calls Tryd.prog 15 #[.slice (some ⟨b, o, none⟩) len cap] w fun e w' => e = .returned (.string ⟨(listB (zs.take len)).toArray⟩) ∧ Below w.heap.size w w' := by
  have hlen := uintB_ten len (by omega)
  have HL := Lib.hid hlen; clear hlen
  have HC := Lib.hid hc; clear hc
  have HS := Lib.hid hs; clear hs
  go_enter Tryd.func15, Tryd.ntmps15
  go_wp2_with fail
  refine (ruint_any len _ (by omega)).mono ?_
  rintro e w1 ⟨rfl, hb⟩
  have HB := Lib.hid hb; clear hb
  go_wp2_with fail
  go_loopw [3, 4] (fun vs vi wr => ∃ k : Nat, k ≤ len ∧ vi = .int .i64 k ∧ vs = .string ⟨(uintB len ++ textsB (zs.take k)).toArray⟩ ∧ Below w.heap.size w wr) (fun _ vi _ => len - (intOf vi).toNat)
  case atStart => exact ⟨0, Nat.zero_le _, rfl, by simp [textsB], HB.out⟩
  case round =>
    obtain ⟨k, hk, rfl, rfl, hB⟩ := hrel
    rename World => wr
    have HB1 := Lib.hid hB; clear hB
    by_cases hlk : k < len
    · have hdec : decide (k < len) = true := by simpa using hlk
      have hcell : wr.cell? ⟨b, o + k, none⟩ = some (.string (zs.getD k ByteArray.empty)) := by rw [HB1.out.cell hlt]; exact HC.out k hlk
      have hst := textsB_step zs k (by omega)
      have hle := takes_le zs (k + 1) len (by omega)
      have hsz : (zs.getD k ByteArray.empty).size + (textsB (zs.take k)).length ≤ 4611686018427387904 := by
        have h1 := HS.out
        rw [hst, List.length_append, textB, List.length_append] at hle
        have h2 : (zs.getD k ByteArray.empty).data.toList.length = (zs.getD k ByteArray.empty).size := by simp
        omega
      have HT := Lib.hid hst
      clear hst hle
      generalize zs.getD k ByteArray.empty = s at *
      go_wp2_with fail
      refine (rtext_any s _ (by omega)).mono ?_
      rintro e w2 ⟨rfl, hb2⟩
      have hadd := fun (w : World) => run_string_add_sum (P := Tryd.prog) w ⟨(uintB len ++ textsB (zs.take k)).toArray⟩ ⟨(textB s.data.toList).toArray⟩ (by
        have h3 := HL.out
        have h4 := uintB_ten s.data.toList.length (by have : s.data.toList.length = s.size := by simp
                                                      omega)
        have h2 : s.data.toList.length = s.size := by simp
        show (uintB len ++ textsB (zs.take k)).toArray.size + (textB s.data.toList).toArray.size ≤ _
        rw [List.size_toArray, List.size_toArray, List.length_append, textB, List.length_append]
        omega)
      have HB2 := Lib.hid (HB1.out.trans (hb2.mono HB1.out.size))
      clear hb2
      go_wp2_with fail
      go_roundw
      case rel => exact ⟨k + 1, by omega, by go_num, by rw [HT.out, str_add]; simp, HB2.out⟩
      case measure => simp [intOf]; omega
    · have hdec : decide (k < len) = false := by simpa using hlk
      go_wp2_with fail
      go_ret
      exact ⟨by rw [show k = len from by omega, listB, List.length_take, Nat.min_eq_left hl]; rfl, HB1.out⟩
end CodeC
end Go.Proofs.YtgjcbcakmcgjhaaDoor
