/-
  What the proof of EvBoth stands on, part 20.
-/
import Derived.Lib.AppendStr
import Derived.Test.YtfbegbmjmhnplaaGreatDoorT19
set_option linter.unusedSimpArgs false
set_option linter.unusedVariables false
set_option maxHeartbeats 16000000
namespace Go.Proofs.YtfbegbmjmhnplaaGreatDoor
open Go.Lib (hid)
section
open Go.RowKit
namespace CodeC
open CodeM
def Bytes (B n : Nat) (l : List UInt8) (w : World) (e : Ending) (w' : World) : Prop := ∃ v, e = .returned v ∧ w'.ownsRow B 5 1 v n (l.map byteV) ∧ Below B w w'
theorem or_low (y : Nat) : bits .or .u8 ((y : Int) % 256) 128 = (y : Int) % 128 + 128 := by
 have H : ∀ n : Fin 256, bits .or .u8 (n.val : Int) 128 = (n.val : Int) % 128 + 128 := by decide +kernel
 have e := H ⟨y % 256, Nat.mod_lt _ (by decide)⟩
 have e1 : ((y % 256 : Nat) : Int) = (y : Int) % 256 := by omega
 have e2 : (y : Int) % 256 % 128 = (y : Int) % 128 := by omega
 rw [show ((⟨y % 256, Nat.mod_lt _ (by decide)⟩ : Fin 256).val : Int) = (y : Int) % 256 from e1, e2] at e
 exact e
set_option maxRecDepth 100000 in
theorem zry (x : Nat) (v : Value) (n : Nat) (l : List UInt8) (B : Nat) (w : World) (h : x < 18446744073709551616) (hB : B ≤ w.heap.size) (hown : w.ownsRow B 5 1 v n (l.map byteV)) (hn : n ≤ 140737488355000) :
 Calls Tryz.prog 112 #[v, .int .u64 x] w (Bytes B (n + (uintB x).length) (l ++ uintB x) w) := by
 obtain ⟨i0, hi, hz0, hz1, hz2⟩ := info_parts info_u8
 have H0 := hid h; clear h
 go_enter Tryz.func112, Tryz.ntmps112
 go_wp2_with fail
 go_loopw [0, 1] (fun vb vx wr => ∃ (m y : Nat) (l2 L : List UInt8), vx = .int .u64 y ∧ Hid (L = l ++ l2) ∧ l2.length = m ∧ (m = 0 ∨ 1 ≤ y) ∧ Hid (uintB x = l2 ++ uintB y) ∧ Hid (y * 128 ^ m ≤ x) ∧ wr.ownsRow B 5 1 vb (n + m) (L.map byteV) ∧ Below B w wr) (fun _ vx _ => (intOf vx).toNat)
 case atStart => exact ⟨0, x, [], l, rfl, hid (by simp), rfl, Or.inl rfl, hid rfl, hid (by simp), hown, Below.refl _ _⟩
 case round =>
  clear hown
  obtain ⟨m, y, l2, L, rfl, HLL, hl, hny, HU, HP, hown, hB1⟩ := hrel
  rename World => wr
  have hy : y ≤ 18446744073709551615 := by have := HP.out; have := H0.out; have h1 : y * 1 ≤ y * 128 ^ m := Nat.mul_le_mul_left _ (Nat.pow_pos (by omega)); omega
  have HL := hid hl; clear hl
  have HB := hid hB1; clear hB1
  have hm : m ≤ 9 := by
   rcases hny with h0 | h0
   · omega
   · exact zmj m y x HP.out h0 H0.out
  have HN := hid hny; clear hny
  have HS := hid hB; clear hB
  by_cases hb : 128 ≤ y
  · have hor := or_low y
    go_wp2_with (at_builtin; refine wpList_append_own _ rfl _ _ 108 rfl B 5 i0 (.int .u8 0) 1 1 Tryz.underlying108 hi hz0 hz1 hz2 rfl (by decide) _ _ _ rfl (hown.alloc _) ⟨wr.heap.size, 0, none⟩ 1 1 [.int .u8 ((y : Int) % 128 + 128)] rfl rfl ?c1 ?c2 ?c3 ?c4 ?c5 ?_)
    case c1 => exact zqd _ _ _
    case c2 => exact zqe _
    case c3 => unfold maxLen; omega
    case c4 => omega
    case c5 => have := HB.out.size; have := HS.out; simp; omega
    intro v' w1 hown' hg _
    have hB1 : Below B w w1 := (HB.out.alloc (Nat.le_trans HS.out HB.out.size) _).grown hg (by have := HB.out.size; have := HS.out; simp; omega) (fun k hk => (hown.lt k hk).1)
    have HO := zqg (m := y % 128 + 128) hown' (by omega) (by omega)
    have H1 := hid hB1
    clear hown' hg hB1 hown
    go_wp2_with fail
    go_roundw
    case rel => exact ⟨m + 1, y / 128, l2 ++ [UInt8.ofNat (y % 128 + 128)], L ++ [UInt8.ofNat (y % 128 + 128)], by go_num, hid (by rw [HLL.out, List.append_assoc]), by simp [HL.out], Or.inr (by omega), hid (by rw [HU.out, zmg y (by omega)]; simp), hid (zmk m y x HP.out), HO, H1.out⟩
    case measure => simp [intOf]; omega
  · go_wp2_with (at_builtin; refine wpList_append_own _ rfl _ _ 108 rfl B 5 i0 (.int .u8 0) 1 1 Tryz.underlying108 hi hz0 hz1 hz2 rfl (by decide) _ _ _ rfl (hown.alloc _) ⟨wr.heap.size, 0, none⟩ 1 1 [.int .u8 ((y : Int))] rfl rfl ?c1 ?c2 ?c3 ?c4 ?c5 ?_)
    case c1 => exact zqd _ _ _
    case c2 => exact zqe _
    case c3 => unfold maxLen; omega
    case c4 => omega
    case c5 => have := HB.out.size; have := HS.out; simp; omega
    intro v' w1 hown' hg _
    have hB1 : Below B w w1 := (HB.out.alloc (Nat.le_trans HS.out HB.out.size) _).grown hg (by have := HB.out.size; have := HS.out; simp; omega) (fun k hk => (hown.lt k hk).1)
    have HO := zqg (m := y) hown' rfl (by omega)
    have H1 := hid hB1
    clear hown' hg hB1 hown
    go_wp2_with fail
    go_ret
    exact ⟨_, rfl, by rw [HU.out, zmh y (by omega), ← List.append_assoc, ← HLL.out, List.length_append, HL.out]; exact HO, H1.out⟩
theorem zrz (s : ByteArray) : Lib.strCells s = s.data.toList.map byteV := rfl
theorem at_any (s : ByteArray) (v : Value) (n : Nat) (l : List UInt8) (B : Nat) (w : World) (hB : B ≤ w.heap.size) (hown : w.ownsRow B 5 1 v n (l.map byteV)) (hn : n + s.size ≤ 140737488354000) :
 Calls Tryz.prog 111 #[v, .string s] w (Bytes B (n + (textB s.data.toList).length) (l ++ textB s.data.toList) w) := by
 have hlen := zqi s.size (by omega)
 have e : s.data.toList.length = s.size := by simp
 unfold textB
 rw [e, ← List.append_assoc, List.length_append, e, ← Nat.add_assoc]
 have HE := hid e; clear e
 have HS := hid hB; clear hB
 go_enter Tryz.func111, Tryz.ntmps111
 go_wp2_with fail
 refine (zry s.size v n l B _ (by omega) HS.out hown (by omega)).mono ?_
 rintro e w1 ⟨v1, rfl, hown1, hb1⟩
 have HB := hid hb1; clear hb1 hown
 generalize hL : l ++ uintB s.size = L at *
 generalize (uintB s.size).length = m at *
 clear hL
 go_wp2_with (at_builtin; refine Lib.wpList_append_own_string _ rfl _ _ 108 9 rfl B 5 _ Tryz.underlying108 Tryz.underlying9 (info_parts info_u8).choose_spec.1 (info_parts info_u8).choose_spec.2.1 (info_parts info_u8).choose_spec.2.2.1 (info_parts info_u8).choose_spec.2.2.2 _ _ _ rfl hown1 _ rfl ?c1 ?c2 ?c3 ?_)
 case c1 => unfold maxLen; omega
 case c2 => omega
 case c3 => have := HB.out.size; have := HS.out; omega
 intro v' w2 hown' hg _
 have hB2 : Below B w w2 := HB.out.grown hg (by have := HB.out.size; have := HS.out; omega) (fun k hk => (hown1.lt k hk).1)
 have H2 := hid hB2
 rw [zrz, ← List.map_append] at hown'
 clear hB2 hg hown1
 go_wp2_with fail
 go_ret
 exact ⟨_, rfl, hown', H2.out⟩
theorem zsa (x : Nat) (w : World) (h : x < 18446744073709551616) :
 Calls Tryz.prog 72 #[.int .u64 x] w fun e w' => e = .returned (.string ⟨(uintB x).toArray⟩) ∧ Below w.heap.size w w' := by
 have hpos : 0 < (uintB x).length := by rw [uintB]; split <;> simp
 have HP := hid hpos; clear hpos
 go_enter Tryz.func72, Tryz.ntmps72
 go_wp2_with fail
 refine (zry x _ 0 [] w.heap.size _ h (Nat.le_refl _) (World.ownsRow_nil _ _ _ _) (by omega)).mono ?_
 rintro e w1 ⟨v1, rfl, hown1, hb1⟩
 have HB := hid hb1; clear hb1
 have hcv := zqf hown1 (by have := HP.out; omega)
 clear hown1
 go_wp2_with fail
 go_ret
 exact ⟨rfl, HB.out⟩
theorem zsb (s : ByteArray) (w : World) (h : s.size ≤ 140737488353000) :
 Calls Tryz.prog 70 #[.string s] w fun e w' => e = .returned (.string ⟨(textB s.data.toList).toArray⟩) ∧ Below w.heap.size w w' := by
 have hpos : 0 < (textB s.data.toList).length := by unfold textB; rw [uintB]; split <;> simp <;> omega
 have HP := hid hpos; clear hpos
 go_enter Tryz.func70, Tryz.ntmps70
 go_wp2_with fail
 refine (at_any s _ 0 [] w.heap.size _ (Nat.le_refl _) (World.ownsRow_nil _ _ _ _) (by omega)).mono ?_
 rintro e w1 ⟨v1, rfl, hown1, hb1⟩
 have HB := hid hb1; clear hb1
 have hcv := zqf hown1 (by have := HP.out; omega)
 clear hown1
 go_wp2_with fail
 go_ret
 exact ⟨rfl, HB.out⟩
theorem zsc : ∀ (x k : Nat), wordB (x / 256) k ++ [UInt8.ofNat (x % 256)] = wordB x (k + 1)
 | x, 0 => by simp [wordB]
 | x, k + 1 => by
   rw [wordB, List.cons_append, zsc x k, Nat.div_div_eq_div_mul, ← Nat.pow_succ']
   rfl
theorem zsd (x : Nat) : ∀ (k : Nat), k < 8 → wordB (x / 256 ^ (8 - k)) k ++ [UInt8.ofNat (x / 256 ^ (7 - k) % 256)] = wordB (x / 256 ^ (7 - k)) (k + 1) := by
 intro k hk
 rw [← zsc, Nat.div_div_eq_div_mul, ← Nat.pow_succ, show (7 - k).succ = 8 - k from by omega]
set_option maxRecDepth 100000 in
theorem zse (x : Nat) (w : World) (h : x < 18446744073709551616) :
 Calls Tryz.prog 71 #[.int .u64 x] w fun e w' => e = .returned (.string ⟨(wordB x 8).toArray⟩) ∧ Below w.heap.size w w' := by
 obtain ⟨i0, hi, hz0, hz1, hz2⟩ := info_parts info_u8
 have H0 := hid h; clear h
 go_enter Tryz.func71, Tryz.ntmps71
 go_wp2_with fail
 go_loopw [3, 5] (fun vb vk wr => ∃ (k : Nat) (L : List UInt8), vk = .int .i64 k ∧ k ≤ 8 ∧ Hid (L = wordB (x / 256 ^ (8 - k)) k) ∧ wr.ownsRow w.heap.size 5 1 vb k (L.map byteV) ∧ Below w.heap.size w wr) (fun _ vk _ => 8 - (intOf vk).toNat)
 case atStart => exact ⟨0, [], rfl, by omega, hid rfl, World.ownsRow_nil _ _ _ _, Below.refl _ _⟩
 case round =>
  obtain ⟨k, L, rfl, hk, HL, hown, hB1⟩ := hrel
  rename World => wr
  have HB := hid hB1; clear hB1
  by_cases hlt : k < 8
  · have hx : x ≤ 18446744073709551615 := by have := H0.out; omega
    have hst := zsd x k hlt
    have HST := hid hst; clear hst
    obtain ⟨d, hd⟩ : ∃ d, d = 7 - k := ⟨_, rfl⟩
    have e1 : (7 : Int) - (k : Int) = (d : Int) := by omega
    have hdk := hid hd; clear hd
    have hd7 : d ≤ 7 := by omega
    go_wp2_with (at_builtin; refine wpList_append_own _ rfl _ _ 108 rfl w.heap.size 5 i0 (.int .u8 0) 1 1 Tryz.underlying108 hi hz0 hz1 hz2 rfl (by decide) _ _ _ rfl (hown.alloc _) ⟨wr.heap.size, 0, none⟩ 1 1 [.int .u8 ((x : Int) / 2 ^ (8 * d) % 256)] rfl rfl ?c1 ?c2 ?c3 ?c4 ?c5 ?_)
    case c1 => exact zqd _ _ _
    case c2 => exact zqe _
    case c3 => unfold maxLen; omega
    case c4 => omega
    case c5 => have := HB.out.size; simp; omega
    intro v' w1 hown' hg _
    have hB1 : Below w.heap.size w w1 := (HB.out.alloc HB.out.size _).grown hg (by have := HB.out.size; simp; omega) (fun k hk => (hown.lt k hk).1)
    have HO := zqg (m := x / 256 ^ d % 256) hown' (zqc x d) (by omega)
    have H1 := hid hB1
    clear hown' hg hB1 hown e1
    go_wp2_with fail
    go_roundw
    case rel => exact ⟨k + 1, L ++ [UInt8.ofNat (x / 256 ^ d % 256)], by go_num, by omega, hid (by rw [HL.out, show 8 - (k + 1) = 7 - k by omega, ← HST.out, hdk.out]), HO, H1.out⟩
    case measure => simp [intOf]; omega
  · obtain rfl : k = 8 := by omega
    have HLL : L = wordB x 8 := by rw [HL.out]; simp
    subst HLL
    have hcv := zqf hown (by omega)
    clear hown
    go_wp2_with fail
    go_ret
    exact ⟨rfl, HB.out⟩
end CodeC
end
section
open Go.RowKit Go.Sort
namespace EvA
open StrC EvF TextR CodeM CodeC
theorem kindB_any (k : Nat) (c : UInt8) (hc : (c.toNat : Int) = k) (w : World) : Calls Tryz.prog 69 #[.int .u8 k] w fun e w' => e = .returned (.string (str [c])) ∧ Below w.heap.size w w' := by
 have hcv := one_new k c hc w
 have HB := hid ((Below.refl w.heap.size w).alloc (Nat.le_refl _) (.cells #[.int .u8 k] 5))
 go_enter Tryz.func69, Tryz.ntmps69
 go_wp2_with fail
 go_ret
 exact ⟨rfl, HB.out⟩
theorem zsf (k : Nat) (t : B) (w : World) (h : w.cell? ⟨0, k, none⟩ = some (.string (str t))) (hk : k < 11) : Calls Tryz.prog 87 #[.int .u8 k] w fun e w' => e = .returned (.string (str t)) ∧ w = w' := by
 go_enter Tryz.func87, Tryz.ntmps87
 go_wp2_with fail
 go_ret
 exact ⟨rfl, rfl⟩
theorem zsg (s : ByteArray) (w : World) : Calls Tryz.prog 88 #[.string s] w fun e w' => e = .returned (.string s) ∧ w = w' := by
 go_enter Tryz.func88, Tryz.ntmps88
 go_wp2_with fail
 go_ret
 exact ⟨rfl, rfl⟩
abbrev wrB : List Value := [.func (.func 69) #[] #[], .func (.func 70) #[] #[], .func (.func 70) #[] #[], .func (.func 70) #[] #[], .func (.func 71) #[] #[], .func (.func 72) #[] #[]]
abbrev wrT : List Value := [.func (.func 87) #[] #[], .func (.func 88) #[] #[], .func (.func 89) #[] #[], .func (.func 91) #[] #[], .func (.func 93) #[] #[], .func (.func 94) #[] #[]]
abbrev wrO (l : List Value) : Obj := .cells l.toArray 71
abbrev wrZ : Obj := .cells #[.nilFunc, .nilFunc, .nilFunc, .nilFunc, .nilFunc, .nilFunc] 71
theorem zsh {P : Program} {fn : Func} {p : Tmp} {ty : TypeId} (h : fn.results = #[.cell p ty]) (tmps : Array Value) (w : World) (g : Nat) (t : TypeId) (cs : Array Value) (fr : Nat × Nat) (d : TypeDesc)
 (hp : tmps.getD p undef = .pointer (some ⟨g, 0, none⟩)) (hg : w.heap[g]? = some (.cells cs t fr))
 (hu : P.underlying ty = some d) (hd : (match d with | .struct _ | .array _ _ => true | _ => false) = true) (hi : (P.info? ty).map (·.size) = some cs.size) :
 (results fn tmps).run P w = .ok (.agg cs) w := by
 have hp' : tmps[p]?.getD undef = .pointer (some ⟨g, 0, none⟩) := by simpa using hp
 simp [results, h, hp', asAddr, run_loadVar_row w g t ty cs fr d hg hu hd hi]
theorem zsi : (Tryz.prog.info? 71).map (·.size) = some 6 := by kernel_rfl
theorem zsj (w : World) : Calls Tryz.prog 28 #[] w fun e w' => e = .returned (.agg wrB.toArray) ∧ Below w.heap.size w w' := by
 have hz := heap_alloc_new w wrZ
 have HB0 := hid ((Below.refl w.heap.size w).alloc (Nat.le_refl _) wrZ)
 have hinf := zsi
 have hone : (wrB.toArray.all (·.oneCell')) = true := by simp [Value.oneCell']
 go_enter Tryz.func28, Tryz.ntmps28
 go_wp2_with (first | (refine wpList_store_row rfl 71 _ _ rfl w.heap.size wrB.toArray rfl rfl _ _ hz hinf rfl hone ?_) | fail)
 refine bodyPost_ret (zsh rfl _ _ w.heap.size _ wrB.toArray _ _ rfl (setRow_heap _ _ _ _ _ _ hz) Tryz.underlying71 rfl hinf) rfl ?_
 exact ⟨rfl, below_setRow HB0.out (Nat.le_refl _) _⟩
theorem zsk (w : World) : Calls Tryz.prog 38 #[] w fun e w' => e = .returned (.agg wrT.toArray) ∧ Below w.heap.size w w' := by
 have hz := heap_alloc_new w wrZ
 have HB0 := hid ((Below.refl w.heap.size w).alloc (Nat.le_refl _) wrZ)
 have hinf := zsi
 have hone : (wrT.toArray.all (·.oneCell')) = true := by simp [Value.oneCell']
 go_enter Tryz.func38, Tryz.ntmps38
 go_wp2_with (first | (refine wpList_store_row rfl 71 _ _ rfl w.heap.size wrT.toArray rfl rfl _ _ hz hinf rfl hone ?_) | fail)
 refine bodyPost_ret (zsh rfl _ _ w.heap.size _ wrT.toArray _ _ rfl (setRow_heap _ _ _ _ _ _ hz) Tryz.underlying71 rfl hinf) rfl ?_
 exact ⟨rfl, below_setRow HB0.out (Nat.le_refl _) _⟩
theorem zsl (w : World) (s : ByteArray) (D : Nat) (hD : D ≤ w.heap.size) : OwnT (w.alloc (.cells #[.string s] 9)) D (.slice (some ⟨w.heap.size, 0, none⟩) 1 1) [s] :=
 ⟨rfl, .inr ⟨w.heap.size, 1, _, rfl, hD, heap_alloc_new w _, Nat.le_refl _, by unfold maxLen; omega, rfl, rfl⟩⟩
theorem zsm {w w' : World} {D : Nat} {v : Value} {L : List ByteArray} (h : OwnT w D v L) (hb : Below w.heap.size w w') : OwnT w' D v L := by
 obtain ⟨h1, h2 | ⟨g, cap, cur, rfl, h3, h4, h5⟩⟩ := h
 · exact ⟨h1, .inl h2⟩
 · exact ⟨h1, .inr ⟨g, cap, cur, rfl, h3, (hb.block g (Array.getElem?_eq_some_iff.1 h4).1).trans h4, h5⟩⟩
theorem zsn {w w' : World} {v : Value} {L : List Int} (h : FRow w' w.heap.size v L) (h0 : 0 < L.length) : ∃ g cp, v = .slice (some ⟨g, 0, none⟩) L.length cp ∧ w.heap.size ≤ g ∧ g < w'.heap.size ∧ ∀ i, i < L.length → w'.cell? ⟨g, i, none⟩ = some (.int .i64 (L.getD i 0)) := by
 have h1 : w'.ownsRow w.heap.size 77 1 v L.length (L.map (Value.int .i64)) := h
 rcases h.2 with ⟨hnil, hz⟩ | ⟨g, cp, cur, rfl, hbase, hblk, _⟩
 · omega
 · refine ⟨g, cp, rfl, hbase, (Array.getElem?_eq_some_iff.1 hblk).1, fun i hi => ?_⟩
   rw [h1.cellAt i (by omega)]
   simp [hi]
def FdsK (k : Nat) (L : List Int) : Prop := ∀ w, Calls Tryz.prog 32 #[.int .u8 k] w (FieldsE L w)
structure WrI (w W0 w2 : World) (g : Nat) (wr : World) (v : Value) (L : List ByteArray) : Prop where
 own : OwnT wr w.heap.size v L
 low : Below (w.heap.size + 2) W0 wr
 fld : wr.heap[g]? = w2.heap[g]?
 at_ : ∀ b, v.ownBlock = some b → w.heap.size + 2 ≤ b ∧ b ≠ g
 size : w2.heap.size ≤ wr.heap.size
theorem WrI.on {w W0 w2 wr w' : World} {g : Nat} {v : Value} {L : List ByteArray} (h : WrI w W0 w2 g wr v L) (hg : g < w2.heap.size) (hb : Below wr.heap.size wr w') (hW : w.heap.size + 2 ≤ W0.heap.size) : WrI w W0 w2 g w' v L :=
 ⟨zsm h.own hb, h.low.trans (hb.mono (Nat.le_trans hW h.low.size)), (hb.block g (Nat.lt_of_lt_of_le hg h.size)).trans h.fld, h.at_, Nat.le_trans h.size hb.size⟩
theorem WrI.add {w W0 w2 wr w' : World} {g : Nat} {v v' : Value} {L : List ByteArray} {s : ByteArray} (h : WrI w W0 w2 g wr v L) (hg : g < w2.heap.size) (hW : w.heap.size + 2 ≤ W0.heap.size) (hown : w'.ownsRow w.heap.size 9 1 v' (L.length + 1) (L.map Value.string ++ [.string s]))
 (hgr : wr.grownBy w' v.ownBlock) (hat : v'.ownBlock = v.ownBlock ∨ v'.ownBlock = some wr.heap.size) : WrI w W0 w2 g w' v' (L ++ [s]) := by
 refine ⟨snoc hown rfl, h.low.grown hgr (Nat.le_trans hW h.low.size) (fun j hj => (h.at_ j hj).1), (hgr.block g (Nat.lt_of_lt_of_le hg h.size) (fun e => (h.at_ g e.symm).2 rfl)).trans h.fld, fun b hb => ?_, Nat.le_trans h.size hgr.size⟩
 rcases hat with e | e
 · exact h.at_ b (e.symm.trans hb)
 · rw [e] at hb
   cases hb
   exact ⟨Nat.le_trans hW h.low.size, by have := h.size; omega⟩
set_option maxRecDepth 100000 in
theorem zso (e : EvG) (c : UInt8) (hc : (c.toNat : Int) = e.k) (hF : FdsK e.k [0, 1, 2]) (h1 : e.who.length ≤ 1000) (h2 : e.name.length ≤ 1000) (h3 : e.ver.length ≤ 1000) (w : World)  :
 Calls Tryz.prog 29 #[.agg wrB.toArray, evV e] w fun e' w' => ∃ v, e' = .returned v ∧ OwnT w' w.heap.size v [str [c], str (textB e.who), str (textB e.name), str (textB e.ver)] ∧ Below w.heap.size w w' := by
 obtain ⟨i0, hi, hz0, hz1, hz2⟩ := info_parts info_text
 have hB0 : Below w.heap.size w ((w.alloc (wrO wrB)).alloc (evO e)) := chW (alW w _) (alW _ _)
 have hs0 : ((w.alloc (wrO wrB)).alloc (evO e)).heap.size = w.heap.size + 2 := by simp
 have hr1 : ((w.alloc (wrO wrB)).alloc (evO e)).heap[w.heap.size]? = some (wrO wrB) := by rw [heap_alloc_old _ _ (by simp)]; exact heap_alloc_new w _
 have hr2 : ((w.alloc (wrO wrB)).alloc (evO e)).heap[w.heap.size + 1]? = some (evO e) := by have := heap_alloc_new (w.alloc (wrO wrB)) (evO e); simpa using this
 generalize hW0 : (w.alloc (wrO wrB)).alloc (evO e) = W0 at *
 have HC : Hid (∀ W, Below (w.heap.size + 2) W0 W → W.cell? ⟨w.heap.size, 0, none⟩ = some (.func (.func 69) #[] #[]) ∧ W.cell? ⟨w.heap.size, 1, none⟩ = some (.func (.func 70) #[] #[]) ∧
  W.cell? ⟨w.heap.size + 1, 0, none⟩ = some (.int .u8 e.k) ∧ W.cell? ⟨w.heap.size + 1, 1, none⟩ = some (.string (str e.who)) ∧ W.cell? ⟨w.heap.size + 1, 2, none⟩ = some (.string (str e.name)) ∧ W.cell? ⟨w.heap.size + 1, 3, none⟩ = some (.string (str e.ver))) := hid (fun W hb => by
  have k1 := (hb.block w.heap.size (by omega)).trans hr1
  have k2 := (hb.block (w.heap.size + 1) (by omega)).trans hr2
  refine ⟨?_, ?_, ?_, ?_, ?_, ?_⟩ <;> simp [World.cell?, k1, k2])
 have HW0 : Hid (w.heap.size + 2 ≤ W0.heap.size) := hid (by omega)
 have HB0 := hid hB0
 have HF := hid hF
 have HTX : Hid (∀ (s : B), s.length ≤ 1000 → ∀ W, Calls Tryz.prog 70 #[.string (str s)] W fun e w' => e = .returned (.string (str (textB s))) ∧ Below W.heap.size W w') := hid (fun s hs W => zsb (str s) W (by rw [zbm]; omega))
 have HT1 := hid (HTX.out e.who h1)
 have HT2 := hid (HTX.out e.name h2)
 have HT3 := hid (HTX.out e.ver h3)
 have HKK : Hid (Calls Tryz.prog 69 #[.int .u8 e.k] W0 fun e w' => e = .returned (.string (str [c])) ∧ Below W0.heap.size W0 w') := hid (kindB_any e.k c hc _)
 obtain ⟨a0, a1, b0, b1, b2, b3⟩ := HC.out _ (Below.refl _ _)
 subst hW0
 clear hB0 hr1 hr2 hF h1 h2 h3 HTX
 go_enter Tryz.func29, Tryz.ntmps29
 go_wp2_with fail
 refine HKK.out.mono ?_
 rintro e1 w1 ⟨rfl, hb1⟩
 have HBA := hid ((hb1.mono HW0.out).trans ((alW w1 (.cells #[.string (str [c])] 9)).mono (Nat.le_trans HW0.out hb1.size)))
 have HL1 : Hid (w.heap.size + 2 ≤ w1.heap.size) := hid (Nat.le_trans HW0.out hb1.size)
 obtain ⟨a0', a1', b0', b1', b2', b3'⟩ := HC.out _ HBA.out
 clear hb1 a0 a1 b0 b1 b2 b3
 go_wp2_with fail
 refine (HF.out _).mono ?_
 rintro e2 w2 ⟨v, rfl, hrow, hb2⟩
 obtain ⟨g, cp, rfl, hg0, hg1, hcl⟩ := zsn hrow (by decide)
 have hg0' : w1.heap.size + 1 ≤ g := by simpa using hg0
 have HI0 : Hid (WrI w ((w.alloc (wrO wrB)).alloc (evO e)) w2 g w2 (.slice (some ⟨w1.heap.size, 0, none⟩) 1 1) [str [c]]) := hid
  ⟨zsm (zsl w1 (str [c]) w.heap.size (by have := HL1.out; omega)) hb2, HBA.out.trans (hb2.mono (by have := HL1.out; simp; omega)), rfl, fun b hb => by cases hb; exact ⟨HL1.out, by show w1.heap.size ≠ g; omega⟩, Nat.le_refl _⟩
 have HG := hid hg1
 have HFC : Hid (∀ W : World, W.heap[g]? = w2.heap[g]? → W.cell? ⟨g, 0, none⟩ = some (.int .i64 0) ∧ W.cell? ⟨g, 1, none⟩ = some (.int .i64 1) ∧ W.cell? ⟨g, 2, none⟩ = some (.int .i64 2)) := hid (fun W hk =>
  ⟨(World.cell?_of_block (a := ⟨g, 0, none⟩) hk).trans (hcl 0 (by decide)), (World.cell?_of_block (a := ⟨g, 1, none⟩) hk).trans (hcl 1 (by decide)), (World.cell?_of_block (a := ⟨g, 2, none⟩) hk).trans (hcl 2 (by decide))⟩)
 clear hrow hb2 hcl hg0 hg0' hg1 a0' a1' b0' b1' b2' b3' HBA HKK
 go_wp2_with fail
 go_loopw [5, 7, 18] (fun vp _ i wr => ∃ j : Nat, i = .int .i64 j ∧ j ≤ 3 ∧ Hid (WrI w ((w.alloc (wrO wrB)).alloc (evO e)) w2 g wr vp (str [c] :: [str (textB e.who), str (textB e.name), str (textB e.ver)].take j))) (fun _ _ i _ => 3 - (intOf i).toNat)
 case atStart => exact ⟨0, rfl, by omega, HI0⟩
 case round =>
  obtain ⟨j, rfl, hj, HI⟩ := hrel
  rename World => wr
  clear HI0
  obtain ⟨f0, f1, f2⟩ := HFC.out wr HI.out.fld
  obtain ⟨a0, a1, b0, b1, b2, b3⟩ := HC.out _ HI.out.low
  have hj4 : j = 0 ∨ j = 1 ∨ j = 2 ∨ j = 3 := by omega
  rcases hj4 with rfl | rfl | rfl | rfl
  · go_wp2_with fail
    refine (HT1.out _).mono ?_
    rintro e3 w3 ⟨rfl, hb3⟩
    have HI3 := hid ((HI.out.on HG.out hb3 HW0.out).on HG.out (alW w3 (.cells #[.string (str (textB e.who))] 9)) HW0.out)
    have HB3 : Hid (w.heap.size ≤ (w3.alloc (.cells #[.string (str (textB e.who))] 9)).heap.size) := hid (by have := HI3.out.low.size; have := HW0.out; omega)
    clear hb3 f0 f1 f2 a0 a1 b0 b1 b2 b3
    go_wp2_with (first | (at_builtin; refine wpList_append_own_at _ rfl _ _ 52 rfl w.heap.size 9 i0 (.string ⟨#[]⟩) 1 16 Tryz.underlying52 hi hz0 hz1 hz2 rfl (by decide) _ 1 ((str [c] :: [str (textB e.who), str (textB e.name), str (textB e.ver)].take 0).map Value.string) rfl HI3.out.own ⟨w3.heap.size, 0, none⟩ 1 1 [.string (str (textB e.who))] rfl rfl ?c1 ?c2 ?c3 ?c4 ?c5 ?_) | fail)
    case c1 => exact zbz w3 (.string (str (textB e.who))) 9
    case c2 => exact zby _
    case c3 => unfold maxLen; decide
    case c4 => decide
    case c5 => exact HB3.out
    intro v' w4 hown4 hg4 _ hat4
    have HI4 := hid (HI3.out.add HG.out HW0.out hown4 hg4 (by simpa using hat4))
    clear hown4 hg4 hat4
    go_wp2_with fail
    go_roundw
    case rel => exact ⟨1, rfl, by omega, HI4⟩
    case measure => simp [intOf]
  · go_wp2_with fail
    refine (HT2.out _).mono ?_
    rintro e3 w3 ⟨rfl, hb3⟩
    have HI3 := hid ((HI.out.on HG.out hb3 HW0.out).on HG.out (alW w3 (.cells #[.string (str (textB e.name))] 9)) HW0.out)
    have HB3 : Hid (w.heap.size ≤ (w3.alloc (.cells #[.string (str (textB e.name))] 9)).heap.size) := hid (by have := HI3.out.low.size; have := HW0.out; omega)
    clear hb3 f0 f1 f2 a0 a1 b0 b1 b2 b3
    go_wp2_with (first | (at_builtin; refine wpList_append_own_at _ rfl _ _ 52 rfl w.heap.size 9 i0 (.string ⟨#[]⟩) 1 16 Tryz.underlying52 hi hz0 hz1 hz2 rfl (by decide) _ 2 ((str [c] :: [str (textB e.who), str (textB e.name), str (textB e.ver)].take 1).map Value.string) rfl HI3.out.own ⟨w3.heap.size, 0, none⟩ 1 1 [.string (str (textB e.name))] rfl rfl ?c1 ?c2 ?c3 ?c4 ?c5 ?_) | fail)
    case c1 => exact zbz w3 (.string (str (textB e.name))) 9
    case c2 => exact zby _
    case c3 => unfold maxLen; decide
    case c4 => decide
    case c5 => exact HB3.out
    intro v' w4 hown4 hg4 _ hat4
    have HI4 := hid (HI3.out.add HG.out HW0.out hown4 hg4 (by simpa using hat4))
    clear hown4 hg4 hat4
    go_wp2_with fail
    go_roundw
    case rel => exact ⟨2, rfl, by omega, HI4⟩
    case measure => simp [intOf]
  · go_wp2_with fail
    refine (HT3.out _).mono ?_
    rintro e3 w3 ⟨rfl, hb3⟩
    have HI3 := hid ((HI.out.on HG.out hb3 HW0.out).on HG.out (alW w3 (.cells #[.string (str (textB e.ver))] 9)) HW0.out)
    have HB3 : Hid (w.heap.size ≤ (w3.alloc (.cells #[.string (str (textB e.ver))] 9)).heap.size) := hid (by have := HI3.out.low.size; have := HW0.out; omega)
    clear hb3 f0 f1 f2 a0 a1 b0 b1 b2 b3
    go_wp2_with (first | (at_builtin; refine wpList_append_own_at _ rfl _ _ 52 rfl w.heap.size 9 i0 (.string ⟨#[]⟩) 1 16 Tryz.underlying52 hi hz0 hz1 hz2 rfl (by decide) _ 3 ((str [c] :: [str (textB e.who), str (textB e.name), str (textB e.ver)].take 2).map Value.string) rfl HI3.out.own ⟨w3.heap.size, 0, none⟩ 1 1 [.string (str (textB e.ver))] rfl rfl ?c1 ?c2 ?c3 ?c4 ?c5 ?_) | fail)
    case c1 => exact zbz w3 (.string (str (textB e.ver))) 9
    case c2 => exact zby _
    case c3 => unfold maxLen; decide
    case c4 => decide
    case c5 => exact HB3.out
    intro v' w4 hown4 hg4 _ hat4
    have HI4 := hid (HI3.out.add HG.out HW0.out hown4 hg4 (by simpa using hat4))
    clear hown4 hg4 hat4
    go_wp2_with fail
    go_roundw
    case rel => exact ⟨3, rfl, by omega, HI4⟩
    case measure => simp [intOf]
  · go_wp2_with fail
    go_ret
    exact ⟨_, rfl, HI.out.own, HB0.out.trans (HI.out.low.mono (by omega))⟩
set_option maxRecDepth 100000 in
theorem zsp (e : EvG) (t : B) (hk : e.k < 11) (hF : FdsK e.k [0, 1, 2]) (h1 : e.who.length ≤ 1000) (h2 : e.name.length ≤ 1000) (h3 : e.ver.length ≤ 1000) (w : World) (ht : w.cell? ⟨0, e.k, none⟩ = some (.string (str t))) :
 Calls Tryz.prog 29 #[.agg wrT.toArray, evV e] w fun e' w' => ∃ v, e' = .returned v ∧ OwnT w' w.heap.size v [str t, str (id e.who), str (id e.name), str (id e.ver)] ∧ Below w.heap.size w w' := by
 obtain ⟨i0, hi, hz0, hz1, hz2⟩ := info_parts info_text
 have hB0 : Below w.heap.size w ((w.alloc (wrO wrT)).alloc (evO e)) := chW (alW w _) (alW _ _)
 have hs0 : ((w.alloc (wrO wrT)).alloc (evO e)).heap.size = w.heap.size + 2 := by simp
 have hr1 : ((w.alloc (wrO wrT)).alloc (evO e)).heap[w.heap.size]? = some (wrO wrT) := by rw [heap_alloc_old _ _ (by simp)]; exact heap_alloc_new w _
 have hr2 : ((w.alloc (wrO wrT)).alloc (evO e)).heap[w.heap.size + 1]? = some (evO e) := by have := heap_alloc_new (w.alloc (wrO wrT)) (evO e); simpa using this
 generalize hW0 : (w.alloc (wrO wrT)).alloc (evO e) = W0 at *
 have HC : Hid (∀ W, Below (w.heap.size + 2) W0 W → W.cell? ⟨w.heap.size, 0, none⟩ = some (.func (.func 87) #[] #[]) ∧ W.cell? ⟨w.heap.size, 1, none⟩ = some (.func (.func 88) #[] #[]) ∧
  W.cell? ⟨w.heap.size + 1, 0, none⟩ = some (.int .u8 e.k) ∧ W.cell? ⟨w.heap.size + 1, 1, none⟩ = some (.string (str e.who)) ∧ W.cell? ⟨w.heap.size + 1, 2, none⟩ = some (.string (str e.name)) ∧ W.cell? ⟨w.heap.size + 1, 3, none⟩ = some (.string (str e.ver))) := hid (fun W hb => by
  have k1 := (hb.block w.heap.size (by omega)).trans hr1
  have k2 := (hb.block (w.heap.size + 1) (by omega)).trans hr2
  refine ⟨?_, ?_, ?_, ?_, ?_, ?_⟩ <;> simp [World.cell?, k1, k2])
 have HW0 : Hid (w.heap.size + 2 ≤ W0.heap.size) := hid (by omega)
 have HB0 := hid hB0
 have HF := hid hF
 have HTX : Hid (∀ (s : B), s.length ≤ 1000 → ∀ W, Calls Tryz.prog 88 #[.string (str s)] W fun e w' => e = .returned (.string (str (id s))) ∧ Below W.heap.size W w') := hid (fun s hs W => (zsg (str s) W).mono (fun _ _ h => ⟨h.1, by rw [h.2]; exact Below.refl _ _⟩))
 have HT1 := hid (HTX.out e.who h1)
 have HT2 := hid (HTX.out e.name h2)
 have HT3 := hid (HTX.out e.ver h3)
 have HKK : Hid (Calls Tryz.prog 87 #[.int .u8 e.k] W0 fun e w' => e = .returned (.string (str t)) ∧ Below W0.heap.size W0 w') := hid ((zsf e.k t _ ((hB0.cell (World.block_lt_of_cell? _ _ ht)).trans ht) hk).mono (fun _ _ h => ⟨h.1, by rw [h.2]; exact Below.refl _ _⟩))
 obtain ⟨a0, a1, b0, b1, b2, b3⟩ := HC.out _ (Below.refl _ _)
 subst hW0
 clear hB0 hr1 hr2 hF h1 h2 h3 HTX
 go_enter Tryz.func29, Tryz.ntmps29
 go_wp2_with fail
 refine HKK.out.mono ?_
 rintro e1 w1 ⟨rfl, hb1⟩
 have HBA := hid ((hb1.mono HW0.out).trans ((alW w1 (.cells #[.string (str t)] 9)).mono (Nat.le_trans HW0.out hb1.size)))
 have HL1 : Hid (w.heap.size + 2 ≤ w1.heap.size) := hid (Nat.le_trans HW0.out hb1.size)
 obtain ⟨a0', a1', b0', b1', b2', b3'⟩ := HC.out _ HBA.out
 clear hb1 a0 a1 b0 b1 b2 b3
 go_wp2_with fail
 refine (HF.out _).mono ?_
 rintro e2 w2 ⟨v, rfl, hrow, hb2⟩
 obtain ⟨g, cp, rfl, hg0, hg1, hcl⟩ := zsn hrow (by decide)
 have hg0' : w1.heap.size + 1 ≤ g := by simpa using hg0
 have HI0 : Hid (WrI w ((w.alloc (wrO wrT)).alloc (evO e)) w2 g w2 (.slice (some ⟨w1.heap.size, 0, none⟩) 1 1) [str t]) := hid
  ⟨zsm (zsl w1 (str t) w.heap.size (by have := HL1.out; omega)) hb2, HBA.out.trans (hb2.mono (by have := HL1.out; simp; omega)), rfl, fun b hb => by cases hb; exact ⟨HL1.out, by show w1.heap.size ≠ g; omega⟩, Nat.le_refl _⟩
 have HG := hid hg1
 have HFC : Hid (∀ W : World, W.heap[g]? = w2.heap[g]? → W.cell? ⟨g, 0, none⟩ = some (.int .i64 0) ∧ W.cell? ⟨g, 1, none⟩ = some (.int .i64 1) ∧ W.cell? ⟨g, 2, none⟩ = some (.int .i64 2)) := hid (fun W hk =>
  ⟨(World.cell?_of_block (a := ⟨g, 0, none⟩) hk).trans (hcl 0 (by decide)), (World.cell?_of_block (a := ⟨g, 1, none⟩) hk).trans (hcl 1 (by decide)), (World.cell?_of_block (a := ⟨g, 2, none⟩) hk).trans (hcl 2 (by decide))⟩)
 clear hrow hb2 hcl hg0 hg0' hg1 a0' a1' b0' b1' b2' b3' HBA HKK
 go_wp2_with fail
 go_loopw [5, 7, 18] (fun vp _ i wr => ∃ j : Nat, i = .int .i64 j ∧ j ≤ 3 ∧ Hid (WrI w ((w.alloc (wrO wrT)).alloc (evO e)) w2 g wr vp (str t :: [str (id e.who), str (id e.name), str (id e.ver)].take j))) (fun _ _ i _ => 3 - (intOf i).toNat)
 case atStart => exact ⟨0, rfl, by omega, HI0⟩
 case round =>
  obtain ⟨j, rfl, hj, HI⟩ := hrel
  rename World => wr
  clear HI0
  obtain ⟨f0, f1, f2⟩ := HFC.out wr HI.out.fld
  obtain ⟨a0, a1, b0, b1, b2, b3⟩ := HC.out _ HI.out.low
  have hj4 : j = 0 ∨ j = 1 ∨ j = 2 ∨ j = 3 := by omega
  rcases hj4 with rfl | rfl | rfl | rfl
  · go_wp2_with fail
    refine (HT1.out _).mono ?_
    rintro e3 w3 ⟨rfl, hb3⟩
    have HI3 := hid ((HI.out.on HG.out hb3 HW0.out).on HG.out (alW w3 (.cells #[.string (str (id e.who))] 9)) HW0.out)
    have HB3 : Hid (w.heap.size ≤ (w3.alloc (.cells #[.string (str (id e.who))] 9)).heap.size) := hid (by have := HI3.out.low.size; have := HW0.out; omega)
    clear hb3 f0 f1 f2 a0 a1 b0 b1 b2 b3
    go_wp2_with (first | (at_builtin; refine wpList_append_own_at _ rfl _ _ 52 rfl w.heap.size 9 i0 (.string ⟨#[]⟩) 1 16 Tryz.underlying52 hi hz0 hz1 hz2 rfl (by decide) _ 1 ((str t :: [str (id e.who), str (id e.name), str (id e.ver)].take 0).map Value.string) rfl HI3.out.own ⟨w3.heap.size, 0, none⟩ 1 1 [.string (str (id e.who))] rfl rfl ?c1 ?c2 ?c3 ?c4 ?c5 ?_) | fail)
    case c1 => exact zbz w3 (.string (str (id e.who))) 9
    case c2 => exact zby _
    case c3 => unfold maxLen; decide
    case c4 => decide
    case c5 => exact HB3.out
    intro v' w4 hown4 hg4 _ hat4
    have HI4 := hid (HI3.out.add HG.out HW0.out hown4 hg4 (by simpa using hat4))
    clear hown4 hg4 hat4
    go_wp2_with fail
    go_roundw
    case rel => exact ⟨1, rfl, by omega, HI4⟩
    case measure => simp [intOf]
  · go_wp2_with fail
    refine (HT2.out _).mono ?_
    rintro e3 w3 ⟨rfl, hb3⟩
    have HI3 := hid ((HI.out.on HG.out hb3 HW0.out).on HG.out (alW w3 (.cells #[.string (str (id e.name))] 9)) HW0.out)
    have HB3 : Hid (w.heap.size ≤ (w3.alloc (.cells #[.string (str (id e.name))] 9)).heap.size) := hid (by have := HI3.out.low.size; have := HW0.out; omega)
    clear hb3 f0 f1 f2 a0 a1 b0 b1 b2 b3
    go_wp2_with (first | (at_builtin; refine wpList_append_own_at _ rfl _ _ 52 rfl w.heap.size 9 i0 (.string ⟨#[]⟩) 1 16 Tryz.underlying52 hi hz0 hz1 hz2 rfl (by decide) _ 2 ((str t :: [str (id e.who), str (id e.name), str (id e.ver)].take 1).map Value.string) rfl HI3.out.own ⟨w3.heap.size, 0, none⟩ 1 1 [.string (str (id e.name))] rfl rfl ?c1 ?c2 ?c3 ?c4 ?c5 ?_) | fail)
    case c1 => exact zbz w3 (.string (str (id e.name))) 9
    case c2 => exact zby _
    case c3 => unfold maxLen; decide
    case c4 => decide
    case c5 => exact HB3.out
    intro v' w4 hown4 hg4 _ hat4
    have HI4 := hid (HI3.out.add HG.out HW0.out hown4 hg4 (by simpa using hat4))
    clear hown4 hg4 hat4
    go_wp2_with fail
    go_roundw
    case rel => exact ⟨2, rfl, by omega, HI4⟩
    case measure => simp [intOf]
  · go_wp2_with fail
    refine (HT3.out _).mono ?_
    rintro e3 w3 ⟨rfl, hb3⟩
    have HI3 := hid ((HI.out.on HG.out hb3 HW0.out).on HG.out (alW w3 (.cells #[.string (str (id e.ver))] 9)) HW0.out)
    have HB3 : Hid (w.heap.size ≤ (w3.alloc (.cells #[.string (str (id e.ver))] 9)).heap.size) := hid (by have := HI3.out.low.size; have := HW0.out; omega)
    clear hb3 f0 f1 f2 a0 a1 b0 b1 b2 b3
    go_wp2_with (first | (at_builtin; refine wpList_append_own_at _ rfl _ _ 52 rfl w.heap.size 9 i0 (.string ⟨#[]⟩) 1 16 Tryz.underlying52 hi hz0 hz1 hz2 rfl (by decide) _ 3 ((str t :: [str (id e.who), str (id e.name), str (id e.ver)].take 2).map Value.string) rfl HI3.out.own ⟨w3.heap.size, 0, none⟩ 1 1 [.string (str (id e.ver))] rfl rfl ?c1 ?c2 ?c3 ?c4 ?c5 ?_) | fail)
    case c1 => exact zbz w3 (.string (str (id e.ver))) 9
    case c2 => exact zby _
    case c3 => unfold maxLen; decide
    case c4 => decide
    case c5 => exact HB3.out
    intro v' w4 hown4 hg4 _ hat4
    have HI4 := hid (HI3.out.add HG.out HW0.out hown4 hg4 (by simpa using hat4))
    clear hown4 hg4 hat4
    go_wp2_with fail
    go_roundw
    case rel => exact ⟨3, rfl, by omega, HI4⟩
    case measure => simp [intOf]
  · go_wp2_with fail
    go_ret
    exact ⟨_, rfl, HI.out.own, HB0.out.trans (HI.out.low.mono (by omega))⟩
end EvA
end
end Go.Proofs.YtfbegbmjmhnplaaGreatDoor
