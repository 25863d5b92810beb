/-
  What package code writes: numbers, words, texts, lists as bytes: one contract a function.
-/
import Derived.Test.YtnkednjklfpblaaGreatDoorCodeRefW
import Derived.Lib.AppendStr
namespace Go.Proofs.YtnkednjklfpblaaGreatDoor
open Go.RowKit
namespace CodeC
open CodeM

/-- a slice of bytes of the call's own: its bytes -/
def Bytes (B n : Nat) (l : List UInt8) (w : World) (e : Ending) (w' : World) : Prop := ∃ v, e = .returned v ∧ w'.ownsRow B 5 1 v n (l.map byteV) ∧ Below B w w'

theorem or_low (y : Nat) : bits .or .u8 ((y : Int) % 256) 128 = (y : Int) % 128 + 128 := by
  have H : ∀ n : Fin 256, bits .or .u8 (n.val : Int) 128 = (n.val : Int) % 128 + 128 := by decide +kernel
  have e := H ⟨y % 256, Nat.mod_lt _ (by decide)⟩
  have e1 : ((y % 256 : Nat) : Int) = (y : Int) % 256 := by omega
  have e2 : (y : Int) % 256 % 128 = (y : Int) % 128 := by omega
  rw [show ((⟨y % 256, Nat.mod_lt _ (by decide)⟩ : Fin 256).val : Int) = (y : Int) % 256 from e1, e2] at e
  exact e

set_option maxHeartbeats 1000000 in
set_option maxRecDepth 100000 in
theorem au_any (x : Nat) (v : Value) (n : Nat) (l : List UInt8) (B : Nat) (w : World) (h : x < 18446744073709551616) (hB : B ≤ w.heap.size) (hown : w.ownsRow B 5 1 v n (l.map byteV)) (hn : n ≤ 140737488355000) :
    Calls Tryz.prog 70 #[v, .int .u64 x] w (Bytes B (n + (uintB x).length) (l ++ uintB x) w) := by
  obtain ⟨i0, hi, hz0, hz1, hz2⟩ := info_parts info_u8
  have H0 := Lib.hid h; clear h
  go_enter Tryz.func70, Tryz.ntmps70
  go_wp2_with fail
  go_loopw [0, 1] (fun vb vx wr => ∃ (m y : Nat) (l2 L : List UInt8), vx = .int .u64 y ∧ Hid (L = l ++ l2) ∧ l2.length = m ∧ (m = 0 ∨ 1 ≤ y) ∧ Hid (uintB x = l2 ++ uintB y) ∧ Hid (y * 128 ^ m ≤ x) ∧ wr.ownsRow B 5 1 vb (n + m) (L.map byteV) ∧ Below B w wr) (fun _ vx _ => (intOf vx).toNat)
  case atStart => exact ⟨0, x, [], l, rfl, Lib.hid (by simp), rfl, Or.inl rfl, Lib.hid rfl, Lib.hid (by simp), hown, Below.refl _ _⟩
  case round =>
    clear hown
    obtain ⟨m, y, l2, L, rfl, HLL, hl, hny, HU, HP, hown, hB1⟩ := hrel
    rename World => wr
    have hy : y ≤ 18446744073709551615 := by have := HP.out; have := H0.out; have h1 : y * 1 ≤ y * 128 ^ m := Nat.mul_le_mul_left _ (Nat.pow_pos (by omega)); omega
    have HL := Lib.hid hl; clear hl
    have HB := Lib.hid hB1; clear hB1
    have hm : m ≤ 9 := by
      rcases hny with h0 | h0
      · omega
      · exact pow_bound m y x HP.out h0 H0.out
    have HN := Lib.hid hny; clear hny
    have HS := Lib.hid hB; clear hB
    by_cases hb : 128 ≤ y
    · have hor := or_low y
      go_wp2_with (at_builtin; refine wpList_append_own _ rfl _ _ 78 rfl B 5 i0 (.int .u8 0) 1 1 Tryz.underlying78 hi hz0 hz1 hz2 rfl (by decide) _ _ _ rfl (hown.alloc _) ⟨wr.heap.size, 0, none⟩ 1 1 [.int .u8 ((y : Int) % 128 + 128)] rfl rfl ?c1 ?c2 ?c3 ?c4 ?c5 ?_)
      case c1 => exact cell_one _ _ _
      case c2 => exact one_int _
      case c3 => unfold maxLen; omega
      case c4 => omega
      case c5 => have := HB.out.size; have := HS.out; simp; omega
      intro v' w1 hown' hg _
      have hB1 : Below B w w1 := (HB.out.alloc (Nat.le_trans HS.out HB.out.size) _).grown hg (by have := HB.out.size; have := HS.out; simp; omega) (fun k hk => (hown.lt k hk).1)
      have HO := own_snoc (m := y % 128 + 128) hown' (by omega) (by omega)
      have H1 := Lib.hid hB1
      clear hown' hg hB1 hown
      go_wp2_with fail
      go_roundw
      case rel => exact ⟨m + 1, y / 128, l2 ++ [UInt8.ofNat (y % 128 + 128)], L ++ [UInt8.ofNat (y % 128 + 128)], by go_num, Lib.hid (by rw [HLL.out, List.append_assoc]), by simp [HL.out], Or.inr (by omega), Lib.hid (by rw [HU.out, uintB_big y (by omega)]; simp), Lib.hid (pow_step m y x HP.out), HO, H1.out⟩
      case measure => simp [intOf]; omega
    · go_wp2_with (at_builtin; refine wpList_append_own _ rfl _ _ 78 rfl B 5 i0 (.int .u8 0) 1 1 Tryz.underlying78 hi hz0 hz1 hz2 rfl (by decide) _ _ _ rfl (hown.alloc _) ⟨wr.heap.size, 0, none⟩ 1 1 [.int .u8 ((y : Int))] rfl rfl ?c1 ?c2 ?c3 ?c4 ?c5 ?_)
      case c1 => exact cell_one _ _ _
      case c2 => exact one_int _
      case c3 => unfold maxLen; omega
      case c4 => omega
      case c5 => have := HB.out.size; have := HS.out; simp; omega
      intro v' w1 hown' hg _
      have hB1 : Below B w w1 := (HB.out.alloc (Nat.le_trans HS.out HB.out.size) _).grown hg (by have := HB.out.size; have := HS.out; simp; omega) (fun k hk => (hown.lt k hk).1)
      have HO := own_snoc (m := y) hown' rfl (by omega)
      have H1 := Lib.hid hB1
      clear hown' hg hB1 hown
      go_wp2_with fail
      go_ret
      exact ⟨_, rfl, by rw [HU.out, uintB_small y (by omega), ← List.append_assoc, ← HLL.out, List.length_append, HL.out]; exact HO, H1.out⟩

theorem strCells_byteV (s : ByteArray) : Lib.strCells s = s.data.toList.map byteV := rfl

set_option maxHeartbeats 1000000 in
theorem at_any (s : ByteArray) (v : Value) (n : Nat) (l : List UInt8) (B : Nat) (w : World) (hB : B ≤ w.heap.size) (hown : w.ownsRow B 5 1 v n (l.map byteV)) (hn : n + s.size ≤ 140737488354000) :
    Calls Tryz.prog 69 #[v, .string s] w (Bytes B (n + (textB s.data.toList).length) (l ++ textB s.data.toList) w) := by
  have hlen := uintB_ten s.size (by omega)
  have e : s.data.toList.length = s.size := by simp
  unfold textB
  rw [e, ← List.append_assoc, List.length_append, e, ← Nat.add_assoc]
  have HE := Lib.hid e; clear e
  have HS := Lib.hid hB; clear hB
  go_enter Tryz.func69, Tryz.ntmps69
  go_wp2_with fail
  refine (au_any s.size v n l B _ (by omega) HS.out hown (by omega)).mono ?_
  rintro e w1 ⟨v1, rfl, hown1, hb1⟩
  have HB := Lib.hid hb1; clear hb1 hown
  generalize hL : l ++ uintB s.size = L at *
  generalize (uintB s.size).length = m at *
  clear hL
  go_wp2_with (at_builtin; refine Lib.wpList_append_own_string _ rfl _ _ 78 9 rfl B 5 _ Tryz.underlying78 Tryz.underlying9 (info_parts info_u8).choose_spec.1 (info_parts info_u8).choose_spec.2.1 (info_parts info_u8).choose_spec.2.2.1 (info_parts info_u8).choose_spec.2.2.2 _ _ _ rfl hown1 _ rfl ?c1 ?c2 ?c3 ?_)
  case c1 => unfold maxLen; omega
  case c2 => omega
  case c3 => have := HB.out.size; have := HS.out; omega
  intro v' w2 hown' hg _
  have hB2 : Below B w w2 := HB.out.grown hg (by have := HB.out.size; have := HS.out; omega) (fun k hk => (hown1.lt k hk).1)
  have H2 := Lib.hid hB2
  rw [strCells_byteV, ← List.map_append] at hown'
  clear hB2 hg hown1
  go_wp2_with fail
  go_ret
  exact ⟨_, rfl, hown', H2.out⟩

theorem cuint_any (x : Nat) (w : World) (h : x < 18446744073709551616) :
    Calls Tryz.prog 35 #[.int .u64 x] w fun e w' => e = .returned (.string ⟨(uintB x).toArray⟩) ∧ Below w.heap.size w w' := by
  have hpos : 0 < (uintB x).length := by rw [uintB]; split <;> simp
  have HP := Lib.hid hpos; clear hpos
  go_enter Tryz.func35, Tryz.ntmps35
  go_wp2_with fail
  refine (au_any x _ 0 [] w.heap.size _ h (Nat.le_refl _) (World.ownsRow_nil _ _ _ _) (by omega)).mono ?_
  rintro e w1 ⟨v1, rfl, hown1, hb1⟩
  have HB := Lib.hid hb1; clear hb1
  have hcv := text_of_own hown1 (by have := HP.out; omega)
  clear hown1
  go_wp2_with fail
  go_ret
  exact ⟨rfl, HB.out⟩

theorem ctext_any (s : ByteArray) (w : World) (h : s.size ≤ 140737488353000) :
    Calls Tryz.prog 33 #[.string s] w fun e w' => e = .returned (.string ⟨(textB s.data.toList).toArray⟩) ∧ Below w.heap.size w w' := by
  have hpos : 0 < (textB s.data.toList).length := by unfold textB; rw [uintB]; split <;> simp <;> omega
  have HP := Lib.hid hpos; clear hpos
  go_enter Tryz.func33, Tryz.ntmps33
  go_wp2_with fail
  refine (at_any s _ 0 [] w.heap.size _ (Nat.le_refl _) (World.ownsRow_nil _ _ _ _) (by omega)).mono ?_
  rintro e w1 ⟨v1, rfl, hown1, hb1⟩
  have HB := Lib.hid hb1; clear hb1
  have hcv := text_of_own hown1 (by have := HP.out; omega)
  clear hown1
  go_wp2_with fail
  go_ret
  exact ⟨rfl, HB.out⟩
theorem shr_cast (x k : Nat) : (x : Int) / 2 ^ (8 * k) = ((x / 256 ^ k : Nat) : Int) := by
  rw [← shift8]; simp
theorem wordB_snoc : ∀ (x k : Nat), wordB (x / 256) k ++ [UInt8.ofNat (x % 256)] = wordB x (k + 1)
  | x, 0 => by simp [wordB]
  | x, k + 1 => by
    rw [wordB, List.cons_append, wordB_snoc x k, Nat.div_div_eq_div_mul, ← Nat.pow_succ']
    rfl
/-- the first k of the eight bytes of a word -/
theorem wordB_take (x : Nat) : ∀ (k : Nat), k < 8 → wordB (x / 256 ^ (8 - k)) k ++ [UInt8.ofNat (x / 256 ^ (7 - k) % 256)] = wordB (x / 256 ^ (7 - k)) (k + 1) := by
  intro k hk
  rw [← wordB_snoc, Nat.div_div_eq_div_mul, ← Nat.pow_succ, show (7 - k).succ = 8 - k from by omega]

set_option maxHeartbeats 1000000 in
set_option maxRecDepth 100000 in
theorem cword_any (x : Nat) (w : World) (h : x < 18446744073709551616) :
    Calls Tryz.prog 34 #[.int .u64 x] w fun e w' => e = .returned (.string ⟨(wordB x 8).toArray⟩) ∧ Below w.heap.size w w' := by
  obtain ⟨i0, hi, hz0, hz1, hz2⟩ := info_parts info_u8
  have H0 := Lib.hid h; clear h
  go_enter Tryz.func34, Tryz.ntmps34
  go_wp2_with fail
  go_loopw [3, 5] (fun vb vk wr => ∃ (k : Nat) (L : List UInt8), vk = .int .i64 k ∧ k ≤ 8 ∧ Hid (L = wordB (x / 256 ^ (8 - k)) k) ∧ wr.ownsRow w.heap.size 5 1 vb k (L.map byteV) ∧ Below w.heap.size w wr) (fun _ vk _ => 8 - (intOf vk).toNat)
  case atStart => exact ⟨0, [], rfl, by omega, Lib.hid rfl, World.ownsRow_nil _ _ _ _, Below.refl _ _⟩
  case round =>
    obtain ⟨k, L, rfl, hk, HL, hown, hB1⟩ := hrel
    rename World => wr
    have HB := Lib.hid hB1; clear hB1
    by_cases hlt : k < 8
    · have hx : x ≤ 18446744073709551615 := by have := H0.out; omega
      have hst := wordB_take x k hlt
      have HST := Lib.hid hst; clear hst
      obtain ⟨d, hd⟩ : ∃ d, d = 7 - k := ⟨_, rfl⟩
      have e1 : (7 : Int) - (k : Int) = (d : Int) := by omega
      have hdk := Lib.hid hd; clear hd
      have hd7 : d ≤ 7 := by omega
      go_wp2_with (at_builtin; refine wpList_append_own _ rfl _ _ 78 rfl w.heap.size 5 i0 (.int .u8 0) 1 1 Tryz.underlying78 hi hz0 hz1 hz2 rfl (by decide) _ _ _ rfl (hown.alloc _) ⟨wr.heap.size, 0, none⟩ 1 1 [.int .u8 ((x : Int) / 2 ^ (8 * d) % 256)] rfl rfl ?c1 ?c2 ?c3 ?c4 ?c5 ?_)
      case c1 => exact cell_one _ _ _
      case c2 => exact one_int _
      case c3 => unfold maxLen; omega
      case c4 => omega
      case c5 => have := HB.out.size; simp; omega
      intro v' w1 hown' hg _
      have hB1 : Below w.heap.size w w1 := (HB.out.alloc HB.out.size _).grown hg (by have := HB.out.size; simp; omega) (fun k hk => (hown.lt k hk).1)
      have HO := own_snoc (m := x / 256 ^ d % 256) hown' (shift_cast x d) (by omega)
      have H1 := Lib.hid hB1
      clear hown' hg hB1 hown e1
      go_wp2_with fail
      go_roundw
      case rel => exact ⟨k + 1, L ++ [UInt8.ofNat (x / 256 ^ d % 256)], by go_num, by omega, Lib.hid (by rw [HL.out, show 8 - (k + 1) = 7 - k by omega, ← HST.out, hdk.out]), HO, H1.out⟩
      case measure => simp [intOf]; omega
    · obtain rfl : k = 8 := by omega
      have HLL : L = wordB x 8 := by rw [HL.out]; simp
      subst HLL
      have hcv := text_of_own hown (by omega)
      clear hown
      go_wp2_with fail
      go_ret
      exact ⟨rfl, HB.out⟩
theorem uintB_pos (x : Nat) : 0 < (uintB x).length := by rw [uintB]; split <;> simp
end CodeC
end Go.Proofs.YtnkednjklfpblaaGreatDoor
