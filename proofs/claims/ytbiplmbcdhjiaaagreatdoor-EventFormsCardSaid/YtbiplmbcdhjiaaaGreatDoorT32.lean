/-
  What the proof of EventForms stands on, part 32.
-/
import Derived.Lib.AppendStr
import Derived.Test.YtbiplmbcdhjiaaaGreatDoorT30
set_option linter.unusedSimpArgs false
set_option linter.unusedVariables false
set_option maxHeartbeats 16000000
namespace Go.Proofs.YtbiplmbcdhjiaaaGreatDoor
open Go.Lib (hid)
section
open Go.RowKit
namespace CodeC
open CodeM
theorem zyg (l : List UInt8) : strOfNums (l.map fun c => (c.toNat : Int)) = ⟨l.toArray⟩ := by
 apply ByteArray.ext
 apply Array.toList_inj.1
 rw [strOfNums_data, List.map_map]
 show _ = l
 conv => rhs; rw [← List.map_id l]
 apply List.map_congr_left
 intro c _
 simp
theorem shift8 (x k : Nat) : x / 2 ^ (8 * k) = x / 256 ^ k := by rw [Nat.pow_mul]
theorem zyh (x k : Nat) : ((x : Int) / 2 ^ (8 * k) % 256) = ((x / 256 ^ k % 256 : Nat) : Int) := by
 rw [← shift8]; simp
set_option maxRecDepth 100000 in
theorem zyi (x : Nat) (w : World) (h : x < 18446744073709551616) :
 Calls Tryz.prog 43 #[.int .u64 x] w fun e w' => e = .returned (.string ⟨(wordB x 8).toArray⟩) ∧ Below w.heap.size w w' := by
 have H0 := hid h; clear h
 have hmk : (Instr.makeSlice 80 (.int .i64 8) (.int .i64 8)).run Tryz.prog w = .ok (.slice (some ⟨w.heap.size, 0, none⟩) 8 8) (w.alloc (.cells #[.int .u8 0, .int .u8 0, .int .u8 0, .int .u8 0, .int .u8 0, .int .u8 0, .int .u8 0, .int .u8 0] 5)) := by kernel_rfl
 go_enter Tryz.func43, Tryz.ntmps43
 go_wp2
 clear hmk
 rw [← zws x]
 go_loopw [4] (fun i wr => ∃ k : Nat, k ≤ 8 ∧ i = .int .i64 k ∧ wr = w.alloc (.cells (arrW x k) 5)) (fun i _ => 8 - (intOf i).toNat)
 case atStart => exact ⟨0, Nat.zero_le _, rfl, rfl⟩
 case round =>
  obtain ⟨k, hk, rfl, rfl⟩ := hrel
  by_cases hlt : k < 8
  · have hsz := zwr x k hk
    obtain ⟨v0, hv0⟩ := zwu x k hlt
    have hset := hid (zwt x k hlt)
    have hx : x ≤ 18446744073709551615 := by have := H0.out; omega
    generalize arrW x k = A at *
    go_wp2
    go_roundw
    case rel => exact ⟨k + 1, by omega, by go_num, by rw [← hset.out, zyh]⟩
    case measure => simp [intOf]; omega
  · have hk8 : k = 8 := by omega
    subst hk8
    have hcv := run_convert_bytes_arg (P := Tryz.prog) (w.alloc (.cells (arrW x 8) 5)) 80 5 Tryz.underlying80 Tryz.underlying5 w.heap.size 0 8 8 ((wordB x 8).map fun c => (c.toNat : Int)) (by simp [zwq]) (fun i hi => by rw [Nat.zero_add, World.cell?_alloc_at _ _ _ _ rfl]; exact zwv x i hi) 9 Tryz.underlying9
    rw [zyg] at hcv
    go_wp2
    go_ret
    exact ⟨rfl, (Below.refl _ _).alloc (Nat.le_refl _) _⟩
theorem str_add (l : List UInt8) (s : ByteArray) : (⟨l.toArray⟩ : ByteArray) ++ s = ⟨(l ++ s.data.toList).toArray⟩ := by
 apply ByteArray.ext
 simp
end CodeC
end
section
open Go.RowKit
namespace CodeC
open CodeM
theorem info_u8 : (Tryz.prog.info? 5).map (fun i => (i.zero, i.size, i.bytes)) = some (some (.int .u8 0), 1, 1) := by kernel_rfl
theorem cell_one (w : World) (v : Value) (t : TypeId) : ∀ j u, [v][j]? = some u → (w.alloc (.cells #[v] t)).cell? ((⟨w.heap.size, 0, none⟩ : Addr).add j) = some u := by
 intro j u hu
 match j with
 | 0 =>
  rw [Go.WideShapes.add_plain, World.cell?_alloc_at _ _ _ _ rfl]
  simpa using hu
 | j + 1 => simp at hu
theorem zyj (n : Int) : ∀ u ∈ [Value.int .u8 n], u.oneCell' = true := by
 intro u hu
 rw [List.mem_singleton] at hu
 subst hu
 rfl
theorem zyk {w : World} {B n : Nat} {v : Value} {l : List UInt8} (h : w.ownsRow B 5 1 v n (l.map byteV)) (hn : 0 < n) :
 (convert 80 9 v).run Tryz.prog w = .ok (.string ⟨l.toArray⟩) w := by
 have hcs : ∀ g, v.ownBlock = some g → _ := fun g hg => h.cells hg
 have hl : l.length = n := by have := h.1; simpa using this
 obtain ⟨_, ⟨rfl, h0⟩ | ⟨g, cp, cur, rfl, hg0, hblk, hle, hcm, hsz, htk⟩⟩ := h
 · omega
 · have e := run_convert_bytes_arg (P := Tryz.prog) w 80 5 Tryz.underlying80 Tryz.underlying5 g 0 n cp (l.map fun c => (c.toNat : Int)) (by simp [hl]) (fun i hi => by
    have := hcs g rfl i (.int .u8 ((l.map fun c => (c.toNat : Int)).getD i 0)) (by
     have hi' : i < l.length := by omega
     simp [hi', byteV])
    rw [Go.WideShapes.add_plain] at this
    exact this) 9 Tryz.underlying9
   rw [e, zyg]
theorem zyl {w : World} {B n : Nat} {v : Value} {l : List UInt8} {m : Nat} {x : Int} (h : w.ownsRow B 5 1 v (n + 1) (l.map byteV ++ [Value.int .u8 x])) (hx : x = (m : Int)) (hm : m < 256) :
 w.ownsRow B 5 1 v (n + 1) ((l ++ [UInt8.ofNat m]).map byteV) := by
 subst hx
 rw [List.map_append, List.map_singleton, zwn m hm]
 exact h
set_option maxRecDepth 100000 in
theorem zym (x : Nat) (w : World) (h : x < 18446744073709551616) :
 Calls Tryz.prog 44 #[.int .u64 x] w fun e w' => e = .returned (.string ⟨(uintB x).toArray⟩) ∧ Below w.heap.size w w' := by
 obtain ⟨i0, hi, hz0, hz1, hz2⟩ := info_parts info_u8
 have H0 := hid h; clear h
 go_enter Tryz.func44, Tryz.ntmps44
 go_wp2_with fail
 go_loopw [0, 3] (fun vx vb wr => ∃ (n y : Nat) (l : List UInt8), vx = .int .u64 y ∧ l.length = n ∧ (n = 0 ∨ 1 ≤ y) ∧ Hid (uintB x = l ++ uintB y) ∧ Hid (y * 128 ^ n ≤ x) ∧ wr.ownsRow w.heap.size 5 1 vb n (l.map byteV) ∧ Below w.heap.size w wr) (fun vx _ _ => (intOf vx).toNat)
 case atStart => exact ⟨0, x, [], rfl, rfl, Or.inl rfl, hid rfl, hid (by simp), World.ownsRow_nil _ _ _ _, Below.refl _ _⟩
 case round =>
  obtain ⟨n, y, l, rfl, hl, hny, HU, HP, hown, hB⟩ := hrel
  rename World => wr
  have hy : y ≤ 18446744073709551615 := by have := HP.out; have := H0.out; have h1 : y * 1 ≤ y * 128 ^ n := Nat.mul_le_mul_left _ (Nat.pow_pos (by omega)); omega
  have HL := hid hl; clear hl
  have HB := hid hB; clear hB
  have hn : n ≤ 9 := by
   rcases hny with h0 | h0
   · omega
   · exact zwo n y x HP.out h0 H0.out
  have HN := hid hny; clear hny
  by_cases hb : 127 < y
  · have hand := and127 y hy
    have hor := or128 ((y : Int) % 128) (by omega) (by omega)
    go_wp2_with (at_builtin; refine wpList_append_own _ rfl _ _ 80 rfl w.heap.size 5 i0 (.int .u8 0) 1 1 Tryz.underlying80 hi hz0 hz1 hz2 rfl (by decide) _ _ _ rfl (hown.alloc _) ⟨wr.heap.size, 0, none⟩ 1 1 [.int .u8 ((y : Int) % 128 + 128)] rfl rfl ?c1 ?c2 ?c3 ?c4 ?c5 ?_)
    case c1 => exact cell_one _ _ _
    case c2 => exact zyj _
    case c3 => unfold maxLen; omega
    case c4 => omega
    case c5 => have := HB.out.size; simp; omega
    intro v' w1 hown' hg _
    have hB1 : Below w.heap.size w w1 := (HB.out.alloc HB.out.size _).grown hg (by have := HB.out.size; simp; omega) (fun k hk => (hown.lt k hk).1)
    have HO := zyl (m := y % 128 + 128) hown' (by omega) (by omega)
    have H1 := hid hB1
    clear hown' hg hB1 hown
    go_wp2_with fail
    go_roundw
    case rel => exact ⟨n + 1, y / 128, l ++ [UInt8.ofNat (y % 128 + 128)], by go_num, by simp [HL.out], Or.inr (by omega), hid (by rw [HU.out, zwl y hb]; simp), hid (zwp n y x HP.out), HO, H1.out⟩
    case measure => simp [intOf]; omega
  · go_wp2_with (at_builtin; refine wpList_append_own _ rfl _ _ 80 rfl w.heap.size 5 i0 (.int .u8 0) 1 1 Tryz.underlying80 hi hz0 hz1 hz2 rfl (by decide) _ _ _ rfl (hown.alloc _) ⟨wr.heap.size, 0, none⟩ 1 1 [.int .u8 ((y : Int))] rfl rfl ?c1 ?c2 ?c3 ?c4 ?c5 ?_)
    case c1 => exact cell_one _ _ _
    case c2 => exact zyj _
    case c3 => unfold maxLen; omega
    case c4 => omega
    case c5 => have := HB.out.size; simp; omega
    intro v' w1 hown' hg _
    have hB1 : Below w.heap.size w w1 := (HB.out.alloc HB.out.size _).grown hg (by have := HB.out.size; simp; omega) (fun k hk => (hown.lt k hk).1)
    have HO := zyl (m := y) hown' rfl (by omega)
    have H1 := hid hB1
    have hcv := zyk HO (by omega)
    clear hown' hg hB1 hown
    go_wp2_with fail
    go_ret
    exact ⟨by rw [HU.out, zwm y hb]; rfl, H1.out⟩
theorem zyn : ∀ (n x : Nat), x < 128 ^ n → 0 < n → (uintB x).length ≤ n
 | 0, _, _, h => absurd h (by omega)
 | 1, x, h, _ => by rw [zwm x (by omega)]; simp
 | n + 2, x, h, _ => by
  by_cases hb : 127 < x
  · rw [zwl x hb]
    have : x / 128 < 128 ^ (n + 1) := by
     rw [Nat.div_lt_iff_lt_mul (by decide), ← Nat.pow_succ]
     exact h
    have := zyn (n + 1) (x / 128) this (by omega)
    simp; omega
  · rw [zwm x hb]; simp
theorem zyo (x : Nat) (h : x < 18446744073709551616) : (uintB x).length ≤ 10 := by
 have h3 : (128 : Nat) ^ 10 = 1180591620717411303424 := by decide
 exact zyn 10 x (by omega) (by omega)
theorem zyp (s : ByteArray) (w : World) (h : s.size ≤ 4611686018427387904) :
 Calls Tryz.prog 42 #[.string s] w fun e w' => e = .returned (.string ⟨(textB s.data.toList).toArray⟩) ∧ Below w.heap.size w w' := by
 have hlen := zyo s.size (by omega)
 have hadd := fun (w : World) => run_string_add_sum (P := Tryz.prog) w ⟨(uintB s.size).toArray⟩ s (by show (uintB s.size).toArray.size + s.size ≤ _; rw [List.size_toArray]; omega)
 have hjoin := str_add (uintB s.size) s
 clear hlen
 go_enter Tryz.func42, Tryz.ntmps42
 go_wp2_with fail
 refine (zym s.size _ (by omega)).mono ?_
 rintro e w' ⟨rfl, hb⟩
 have HB := hid hb; clear hb
 go_wp2_with fail
 go_ret
 exact ⟨by unfold textB; rw [show s.data.toList.length = s.size by simp, ← hjoin]; rfl, HB.out⟩
end CodeC
end
section
open Go.RowKit
namespace CodeC
open CodeM
def Bytes (B n : Nat) (l : List UInt8) (w : World) (e : Ending) (w' : World) : Prop := ∃ v, e = .returned v ∧ w'.ownsRow B 5 1 v n (l.map byteV) ∧ Below B w w'
theorem or_low (y : Nat) : bits .or .u8 ((y : Int) % 256) 128 = (y : Int) % 128 + 128 := by
 have H : ∀ n : Fin 256, bits .or .u8 (n.val : Int) 128 = (n.val : Int) % 128 + 128 := by decide +kernel
 have e := H ⟨y % 256, Nat.mod_lt _ (by decide)⟩
 have e1 : ((y % 256 : Nat) : Int) = (y : Int) % 256 := by omega
 have e2 : (y : Int) % 256 % 128 = (y : Int) % 128 := by omega
 rw [show ((⟨y % 256, Nat.mod_lt _ (by decide)⟩ : Fin 256).val : Int) = (y : Int) % 256 from e1, e2] at e
 exact e
set_option maxRecDepth 100000 in
theorem zyq (x : Nat) (v : Value) (n : Nat) (l : List UInt8) (B : Nat) (w : World) (h : x < 18446744073709551616) (hB : B ≤ w.heap.size) (hown : w.ownsRow B 5 1 v n (l.map byteV)) (hn : n ≤ 140737488355000) :
 Calls Tryz.prog 128 #[v, .int .u64 x] w (Bytes B (n + (uintB x).length) (l ++ uintB x) w) := by
 obtain ⟨i0, hi, hz0, hz1, hz2⟩ := info_parts info_u8
 have H0 := hid h; clear h
 go_enter Tryz.func128, Tryz.ntmps128
 go_wp2_with fail
 go_loopw [0, 1] (fun vb vx wr => ∃ (m y : Nat) (l2 L : List UInt8), vx = .int .u64 y ∧ Hid (L = l ++ l2) ∧ l2.length = m ∧ (m = 0 ∨ 1 ≤ y) ∧ Hid (uintB x = l2 ++ uintB y) ∧ Hid (y * 128 ^ m ≤ x) ∧ wr.ownsRow B 5 1 vb (n + m) (L.map byteV) ∧ Below B w wr) (fun _ vx _ => (intOf vx).toNat)
 case atStart => exact ⟨0, x, [], l, rfl, hid (by simp), rfl, Or.inl rfl, hid rfl, hid (by simp), hown, Below.refl _ _⟩
 case round =>
  clear hown
  obtain ⟨m, y, l2, L, rfl, HLL, hl, hny, HU, HP, hown, hB1⟩ := hrel
  rename World => wr
  have hy : y ≤ 18446744073709551615 := by have := HP.out; have := H0.out; have h1 : y * 1 ≤ y * 128 ^ m := Nat.mul_le_mul_left _ (Nat.pow_pos (by omega)); omega
  have HL := hid hl; clear hl
  have HB := hid hB1; clear hB1
  have hm : m ≤ 9 := by
   rcases hny with h0 | h0
   · omega
   · exact zwo m y x HP.out h0 H0.out
  have HN := hid hny; clear hny
  have HS := hid hB; clear hB
  by_cases hb : 128 ≤ y
  · have hor := or_low y
    go_wp2_with (at_builtin; refine wpList_append_own _ rfl _ _ 80 rfl B 5 i0 (.int .u8 0) 1 1 Tryz.underlying80 hi hz0 hz1 hz2 rfl (by decide) _ _ _ rfl (hown.alloc _) ⟨wr.heap.size, 0, none⟩ 1 1 [.int .u8 ((y : Int) % 128 + 128)] rfl rfl ?c1 ?c2 ?c3 ?c4 ?c5 ?_)
    case c1 => exact cell_one _ _ _
    case c2 => exact zyj _
    case c3 => unfold maxLen; omega
    case c4 => omega
    case c5 => have := HB.out.size; have := HS.out; simp; omega
    intro v' w1 hown' hg _
    have hB1 : Below B w w1 := (HB.out.alloc (Nat.le_trans HS.out HB.out.size) _).grown hg (by have := HB.out.size; have := HS.out; simp; omega) (fun k hk => (hown.lt k hk).1)
    have HO := zyl (m := y % 128 + 128) hown' (by omega) (by omega)
    have H1 := hid hB1
    clear hown' hg hB1 hown
    go_wp2_with fail
    go_roundw
    case rel => exact ⟨m + 1, y / 128, l2 ++ [UInt8.ofNat (y % 128 + 128)], L ++ [UInt8.ofNat (y % 128 + 128)], by go_num, hid (by rw [HLL.out, List.append_assoc]), by simp [HL.out], Or.inr (by omega), hid (by rw [HU.out, zwl y (by omega)]; simp), hid (zwp m y x HP.out), HO, H1.out⟩
    case measure => simp [intOf]; omega
  · go_wp2_with (at_builtin; refine wpList_append_own _ rfl _ _ 80 rfl B 5 i0 (.int .u8 0) 1 1 Tryz.underlying80 hi hz0 hz1 hz2 rfl (by decide) _ _ _ rfl (hown.alloc _) ⟨wr.heap.size, 0, none⟩ 1 1 [.int .u8 ((y : Int))] rfl rfl ?c1 ?c2 ?c3 ?c4 ?c5 ?_)
    case c1 => exact cell_one _ _ _
    case c2 => exact zyj _
    case c3 => unfold maxLen; omega
    case c4 => omega
    case c5 => have := HB.out.size; have := HS.out; simp; omega
    intro v' w1 hown' hg _
    have hB1 : Below B w w1 := (HB.out.alloc (Nat.le_trans HS.out HB.out.size) _).grown hg (by have := HB.out.size; have := HS.out; simp; omega) (fun k hk => (hown.lt k hk).1)
    have HO := zyl (m := y) hown' rfl (by omega)
    have H1 := hid hB1
    clear hown' hg hB1 hown
    go_wp2_with fail
    go_ret
    exact ⟨_, rfl, by rw [HU.out, zwm y (by omega), ← List.append_assoc, ← HLL.out, List.length_append, HL.out]; exact HO, H1.out⟩
theorem zyr (s : ByteArray) : Lib.strCells s = s.data.toList.map byteV := rfl
theorem at_any (s : ByteArray) (v : Value) (n : Nat) (l : List UInt8) (B : Nat) (w : World) (hB : B ≤ w.heap.size) (hown : w.ownsRow B 5 1 v n (l.map byteV)) (hn : n + s.size ≤ 140737488354000) :
 Calls Tryz.prog 127 #[v, .string s] w (Bytes B (n + (textB s.data.toList).length) (l ++ textB s.data.toList) w) := by
 have hlen := zyo s.size (by omega)
 have e : s.data.toList.length = s.size := by simp
 unfold textB
 rw [e, ← List.append_assoc, List.length_append, e, ← Nat.add_assoc]
 have HE := hid e; clear e
 have HS := hid hB; clear hB
 go_enter Tryz.func127, Tryz.ntmps127
 go_wp2_with fail
 refine (zyq s.size v n l B _ (by omega) HS.out hown (by omega)).mono ?_
 rintro e w1 ⟨v1, rfl, hown1, hb1⟩
 have HB := hid hb1; clear hb1 hown
 generalize hL : l ++ uintB s.size = L at *
 generalize (uintB s.size).length = m at *
 clear hL
 go_wp2_with (at_builtin; refine Lib.wpList_append_own_string _ rfl _ _ 80 9 rfl B 5 _ Tryz.underlying80 Tryz.underlying9 (info_parts info_u8).choose_spec.1 (info_parts info_u8).choose_spec.2.1 (info_parts info_u8).choose_spec.2.2.1 (info_parts info_u8).choose_spec.2.2.2 _ _ _ rfl hown1 _ rfl ?c1 ?c2 ?c3 ?_)
 case c1 => unfold maxLen; omega
 case c2 => omega
 case c3 => have := HB.out.size; have := HS.out; omega
 intro v' w2 hown' hg _
 have hB2 : Below B w w2 := HB.out.grown hg (by have := HB.out.size; have := HS.out; omega) (fun k hk => (hown1.lt k hk).1)
 have H2 := hid hB2
 rw [zyr, ← List.map_append] at hown'
 clear hB2 hg hown1
 go_wp2_with fail
 go_ret
 exact ⟨_, rfl, hown', H2.out⟩
theorem zys (x : Nat) (w : World) (h : x < 18446744073709551616) :
 Calls Tryz.prog 77 #[.int .u64 x] w fun e w' => e = .returned (.string ⟨(uintB x).toArray⟩) ∧ Below w.heap.size w w' := by
 have hpos : 0 < (uintB x).length := by rw [uintB]; split <;> simp
 have HP := hid hpos; clear hpos
 go_enter Tryz.func77, Tryz.ntmps77
 go_wp2_with fail
 refine (zyq x _ 0 [] w.heap.size _ h (Nat.le_refl _) (World.ownsRow_nil _ _ _ _) (by omega)).mono ?_
 rintro e w1 ⟨v1, rfl, hown1, hb1⟩
 have HB := hid hb1; clear hb1
 have hcv := zyk hown1 (by have := HP.out; omega)
 clear hown1
 go_wp2_with fail
 go_ret
 exact ⟨rfl, HB.out⟩
theorem zyt (s : ByteArray) (w : World) (h : s.size ≤ 140737488353000) :
 Calls Tryz.prog 75 #[.string s] w fun e w' => e = .returned (.string ⟨(textB s.data.toList).toArray⟩) ∧ Below w.heap.size w w' := by
 have hpos : 0 < (textB s.data.toList).length := by unfold textB; rw [uintB]; split <;> simp <;> omega
 have HP := hid hpos; clear hpos
 go_enter Tryz.func75, Tryz.ntmps75
 go_wp2_with fail
 refine (at_any s _ 0 [] w.heap.size _ (Nat.le_refl _) (World.ownsRow_nil _ _ _ _) (by omega)).mono ?_
 rintro e w1 ⟨v1, rfl, hown1, hb1⟩
 have HB := hid hb1; clear hb1
 have hcv := zyk hown1 (by have := HP.out; omega)
 clear hown1
 go_wp2_with fail
 go_ret
 exact ⟨rfl, HB.out⟩
theorem zyu : ∀ (x k : Nat), wordB (x / 256) k ++ [UInt8.ofNat (x % 256)] = wordB x (k + 1)
 | x, 0 => by simp [wordB]
 | x, k + 1 => by
  rw [wordB, List.cons_append, zyu x k, Nat.div_div_eq_div_mul, ← Nat.pow_succ']
  rfl
theorem zyv (x : Nat) : ∀ (k : Nat), k < 8 → wordB (x / 256 ^ (8 - k)) k ++ [UInt8.ofNat (x / 256 ^ (7 - k) % 256)] = wordB (x / 256 ^ (7 - k)) (k + 1) := by
 intro k hk
 rw [← zyu, Nat.div_div_eq_div_mul, ← Nat.pow_succ, show (7 - k).succ = 8 - k from by omega]
set_option maxRecDepth 100000 in
theorem zyw (x : Nat) (w : World) (h : x < 18446744073709551616) :
 Calls Tryz.prog 76 #[.int .u64 x] w fun e w' => e = .returned (.string ⟨(wordB x 8).toArray⟩) ∧ Below w.heap.size w w' := by
 obtain ⟨i0, hi, hz0, hz1, hz2⟩ := info_parts info_u8
 have H0 := hid h; clear h
 go_enter Tryz.func76, Tryz.ntmps76
 go_wp2_with fail
 go_loopw [3, 5] (fun vb vk wr => ∃ (k : Nat) (L : List UInt8), vk = .int .i64 k ∧ k ≤ 8 ∧ Hid (L = wordB (x / 256 ^ (8 - k)) k) ∧ wr.ownsRow w.heap.size 5 1 vb k (L.map byteV) ∧ Below w.heap.size w wr) (fun _ vk _ => 8 - (intOf vk).toNat)
 case atStart => exact ⟨0, [], rfl, by omega, hid rfl, World.ownsRow_nil _ _ _ _, Below.refl _ _⟩
 case round =>
  obtain ⟨k, L, rfl, hk, HL, hown, hB1⟩ := hrel
  rename World => wr
  have HB := hid hB1; clear hB1
  by_cases hlt : k < 8
  · have hx : x ≤ 18446744073709551615 := by have := H0.out; omega
    have hst := zyv x k hlt
    have HST := hid hst; clear hst
    obtain ⟨d, hd⟩ : ∃ d, d = 7 - k := ⟨_, rfl⟩
    have e1 : (7 : Int) - (k : Int) = (d : Int) := by omega
    have hdk := hid hd; clear hd
    have hd7 : d ≤ 7 := by omega
    go_wp2_with (at_builtin; refine wpList_append_own _ rfl _ _ 80 rfl w.heap.size 5 i0 (.int .u8 0) 1 1 Tryz.underlying80 hi hz0 hz1 hz2 rfl (by decide) _ _ _ rfl (hown.alloc _) ⟨wr.heap.size, 0, none⟩ 1 1 [.int .u8 ((x : Int) / 2 ^ (8 * d) % 256)] rfl rfl ?c1 ?c2 ?c3 ?c4 ?c5 ?_)
    case c1 => exact cell_one _ _ _
    case c2 => exact zyj _
    case c3 => unfold maxLen; omega
    case c4 => omega
    case c5 => have := HB.out.size; simp; omega
    intro v' w1 hown' hg _
    have hB1 : Below w.heap.size w w1 := (HB.out.alloc HB.out.size _).grown hg (by have := HB.out.size; simp; omega) (fun k hk => (hown.lt k hk).1)
    have HO := zyl (m := x / 256 ^ d % 256) hown' (zyh x d) (by omega)
    have H1 := hid hB1
    clear hown' hg hB1 hown e1
    go_wp2_with fail
    go_roundw
    case rel => exact ⟨k + 1, L ++ [UInt8.ofNat (x / 256 ^ d % 256)], by go_num, by omega, hid (by rw [HL.out, show 8 - (k + 1) = 7 - k by omega, ← HST.out, hdk.out]), HO, H1.out⟩
    case measure => simp [intOf]; omega
  · obtain rfl : k = 8 := by omega
    have HLL : L = wordB x 8 := by rw [HL.out]; simp
    subst HLL
    have hcv := zyk hown (by omega)
    clear hown
    go_wp2_with fail
    go_ret
    exact ⟨rfl, HB.out⟩
end CodeC
end
section
open Go.RowKit Go.Sort
namespace EvA
open StrC EvF TextR CodeM CodeC
theorem zyx (k : Nat) (c : UInt8) (hc : (c.toNat : Int) = k) (w : World) : Calls Tryz.prog 74 #[.int .u8 k] w fun e w' => e = .returned (.string (str [c])) ∧ Below w.heap.size w w' := by
 have hcv := zbs k c hc w
 have HB := hid ((Below.refl w.heap.size w).alloc (Nat.le_refl _) (.cells #[.int .u8 k] 5))
 go_enter Tryz.func74, Tryz.ntmps74
 go_wp2_with fail
 go_ret
 exact ⟨rfl, HB.out⟩
theorem zyy (k : Nat) (t : B) (w : World) (h : w.cell? ⟨0, k, none⟩ = some (.string (str t))) (hk : k < 11) : Calls Tryz.prog 79 #[.int .u8 k] w fun e w' => e = .returned (.string (str t)) ∧ w = w' := by
 go_enter Tryz.func79, Tryz.ntmps79
 go_wp2_with fail
 go_ret
 exact ⟨rfl, rfl⟩
theorem zyz (s : ByteArray) (w : World) : Calls Tryz.prog 80 #[.string s] w fun e w' => e = .returned (.string s) ∧ w = w' := by
 go_enter Tryz.func80, Tryz.ntmps80
 go_wp2_with fail
 go_ret
 exact ⟨rfl, rfl⟩
abbrev wrB : List Value := [.func (.func 74) #[] #[], .func (.func 75) #[] #[], .func (.func 75) #[] #[], .func (.func 75) #[] #[], .func (.func 76) #[] #[], .func (.func 77) #[] #[]]
abbrev wrT : List Value := [.func (.func 79) #[] #[], .func (.func 80) #[] #[], .func (.func 81) #[] #[], .func (.func 83) #[] #[], .func (.func 85) #[] #[], .func (.func 86) #[] #[]]
abbrev wrO (l : List Value) : Obj := .cells l.toArray 71
abbrev wrZ : Obj := .cells #[.nilFunc, .nilFunc, .nilFunc, .nilFunc, .nilFunc, .nilFunc] 71
theorem zza {P : Program} {fn : Func} {p : Tmp} {ty : TypeId} (h : fn.results = #[.cell p ty]) (tmps : Array Value) (w : World) (g : Nat) (t : TypeId) (cs : Array Value) (fr : Nat × Nat) (d : TypeDesc)
 (hp : tmps.getD p undef = .pointer (some ⟨g, 0, none⟩)) (hg : w.heap[g]? = some (.cells cs t fr))
 (hu : P.underlying ty = some d) (hd : (match d with | .struct _ | .array _ _ => true | _ => false) = true) (hi : (P.info? ty).map (·.size) = some cs.size) :
 (results fn tmps).run P w = .ok (.agg cs) w := by
 have hp' : tmps[p]?.getD undef = .pointer (some ⟨g, 0, none⟩) := by simpa using hp
 simp [results, h, hp', asAddr, run_loadVar_row w g t ty cs fr d hg hu hd hi]
theorem zzb : (Tryz.prog.info? 71).map (·.size) = some 6 := by kernel_rfl
theorem zzc (w : World) : Calls Tryz.prog 35 #[] w fun e w' => e = .returned (.agg wrB.toArray) ∧ Below w.heap.size w w' := by
 have hz := heap_alloc_new w wrZ
 have HB0 := hid ((Below.refl w.heap.size w).alloc (Nat.le_refl _) wrZ)
 have hinf := zzb
 have hone : (wrB.toArray.all (·.oneCell')) = true := by simp [Value.oneCell']
 go_enter Tryz.func35, Tryz.ntmps35
 go_wp2_with (first | (refine wpList_store_row rfl 71 _ _ rfl w.heap.size wrB.toArray rfl rfl _ _ hz hinf rfl hone ?_) | fail)
 refine bodyPost_ret (zza rfl _ _ w.heap.size _ wrB.toArray _ _ rfl (setRow_heap _ _ _ _ _ _ hz) Tryz.underlying71 rfl hinf) rfl ?_
 exact ⟨rfl, below_setRow HB0.out (Nat.le_refl _) _⟩
theorem zzd (w : World) : Calls Tryz.prog 37 #[] w fun e w' => e = .returned (.agg wrT.toArray) ∧ Below w.heap.size w w' := by
 have hz := heap_alloc_new w wrZ
 have HB0 := hid ((Below.refl w.heap.size w).alloc (Nat.le_refl _) wrZ)
 have hinf := zzb
 have hone : (wrT.toArray.all (·.oneCell')) = true := by simp [Value.oneCell']
 go_enter Tryz.func37, Tryz.ntmps37
 go_wp2_with (first | (refine wpList_store_row rfl 71 _ _ rfl w.heap.size wrT.toArray rfl rfl _ _ hz hinf rfl hone ?_) | fail)
 refine bodyPost_ret (zza rfl _ _ w.heap.size _ wrT.toArray _ _ rfl (setRow_heap _ _ _ _ _ _ hz) Tryz.underlying71 rfl hinf) rfl ?_
 exact ⟨rfl, below_setRow HB0.out (Nat.le_refl _) _⟩
theorem zze (w : World) (s : ByteArray) (D : Nat) (hD : D ≤ w.heap.size) : OwnT (w.alloc (.cells #[.string s] 9)) D (.slice (some ⟨w.heap.size, 0, none⟩) 1 1) [s] :=
 ⟨rfl, .inr ⟨w.heap.size, 1, _, rfl, hD, heap_alloc_new w _, Nat.le_refl _, by unfold maxLen; omega, rfl, rfl⟩⟩
theorem zzf {w w' : World} {D : Nat} {v : Value} {L : List ByteArray} (h : OwnT w D v L) (hb : Below w.heap.size w w') : OwnT w' D v L := by
 obtain ⟨h1, h2 | ⟨g, cap, cur, rfl, h3, h4, h5⟩⟩ := h
 · exact ⟨h1, .inl h2⟩
 · exact ⟨h1, .inr ⟨g, cap, cur, rfl, h3, (hb.block g (Array.getElem?_eq_some_iff.1 h4).1).trans h4, h5⟩⟩
theorem fds_at {w w' : World} {v : Value} {L : List Int} (h : FRow w' w.heap.size v L) (h0 : 0 < L.length) : ∃ g cp, v = .slice (some ⟨g, 0, none⟩) L.length cp ∧ w.heap.size ≤ g ∧ g < w'.heap.size ∧ ∀ i, i < L.length → w'.cell? ⟨g, i, none⟩ = some (.int .i64 (L.getD i 0)) := by
 have h1 : w'.ownsRow w.heap.size 64 1 v L.length (L.map (Value.int .i64)) := h
 rcases h.2 with ⟨hnil, hz⟩ | ⟨g, cp, cur, rfl, hbase, hblk, _⟩
 · omega
 · refine ⟨g, cp, rfl, hbase, (Array.getElem?_eq_some_iff.1 hblk).1, fun i hi => ?_⟩
   rw [h1.cellAt i (by omega)]
   simp [hi]
def FdsK (k : Nat) (L : List Int) : Prop := ∀ w, Calls Tryz.prog 32 #[.int .u8 k] w (FieldsE L w)
structure WrI (w W0 w2 : World) (g : Nat) (wr : World) (v : Value) (L : List ByteArray) : Prop where
 own : OwnT wr w.heap.size v L
 low : Below (w.heap.size + 2) W0 wr
 fld : wr.heap[g]? = w2.heap[g]?
 at_ : ∀ b, v.ownBlock = some b → w.heap.size + 2 ≤ b ∧ b ≠ g
 size : w2.heap.size ≤ wr.heap.size
theorem WrI.on {w W0 w2 wr w' : World} {g : Nat} {v : Value} {L : List ByteArray} (h : WrI w W0 w2 g wr v L) (hg : g < w2.heap.size) (hb : Below wr.heap.size wr w') (hW : w.heap.size + 2 ≤ W0.heap.size) : WrI w W0 w2 g w' v L :=
 ⟨zzf h.own hb, h.low.trans (hb.mono (Nat.le_trans hW h.low.size)), (hb.block g (Nat.lt_of_lt_of_le hg h.size)).trans h.fld, h.at_, Nat.le_trans h.size hb.size⟩
theorem WrI.add {w W0 w2 wr w' : World} {g : Nat} {v v' : Value} {L : List ByteArray} {s : ByteArray} (h : WrI w W0 w2 g wr v L) (hg : g < w2.heap.size) (hW : w.heap.size + 2 ≤ W0.heap.size) (hown : w'.ownsRow w.heap.size 9 1 v' (L.length + 1) (L.map Value.string ++ [.string s]))
 (hgr : wr.grownBy w' v.ownBlock) (hat : v'.ownBlock = v.ownBlock ∨ v'.ownBlock = some wr.heap.size) : WrI w W0 w2 g w' v' (L ++ [s]) := by
 refine ⟨snoc hown rfl, h.low.grown hgr (Nat.le_trans hW h.low.size) (fun j hj => (h.at_ j hj).1), (hgr.block g (Nat.lt_of_lt_of_le hg h.size) (fun e => (h.at_ g e.symm).2 rfl)).trans h.fld, fun b hb => ?_, Nat.le_trans h.size hgr.size⟩
 rcases hat with e | e
 · exact h.at_ b (e.symm.trans hb)
 · rw [e] at hb
   cases hb
   exact ⟨Nat.le_trans hW h.low.size, by have := h.size; omega⟩
end EvA
end
end Go.Proofs.YtbiplmbcdhjiaaaGreatDoor
