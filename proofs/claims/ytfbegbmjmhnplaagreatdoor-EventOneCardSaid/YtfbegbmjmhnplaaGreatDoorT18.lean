/-
  What the proof of EvBoth stands on, part 18.
-/
import Derived.Test.YtfbegbmjmhnplaaGreatDoorT16
import Derived.Test.YtfbegbmjmhnplaaGreatDoorT17
set_option linter.unusedSimpArgs false
set_option linter.unusedVariables false
set_option maxHeartbeats 16000000
namespace Go.Proofs.YtfbegbmjmhnplaaGreatDoor
open Go.Lib (hid)
section
open Go.RowKit Go.Shelf
namespace EvL
open StrC EvA SpanC CodeM CodeC TextR EvC
open VerC (isErr zck)
open EvS (cell1 zpf zpg)
attribute [local go_sem] Oper.semAt_some
set_option maxRecDepth 100000 in
theorem pu16_no (w : World) : Calls Tryz.prog 128 #[.string (str []), .int .i64 16, .int .i64 8] w (PuE (twoD []) 209 w) := by
 have hemp : (str []).toList.isEmpty = true := by
  rw [← decide_eq_emptyBytes]
  exact decide_eq_true rfl
 go_enter Tryz.func128, Tryz.ntmps128
 go_wp2_with fail
 go_ret2
 exact ⟨Below.refl _ _, .inr ⟨rfl, rfl⟩⟩
theorem pu16_le (l : B) (h : l.length ≤ 2) (w : World) : Calls Tryz.prog 128 #[.string (str l), .int .i64 16, .int .i64 8] w (PuE (twoD l) 209 w) := by
 by_cases h0 : l.length = 0
 · obtain rfl := List.eq_nil_of_length_eq_zero h0
   exact pu16_no w
 · exact pu16_in l (by omega) w
def PuF (o : Option Nat) (w : World) (e : Ending) (w' : World) : Prop :=
 Below w.heap.size w w' ∧ ((∃ n, o = some n ∧ n < 256 ∧ e = .returned (.tuple #[.int .u64 n, .nilIface])) ∨ (o = none ∧ ∃ T p, e = .returned (.tuple #[.int .u64 0, .iface T p])))
theorem zqj (l : B) (h : l.length ≤ 2) (w : World) (hv : ∃ v, w.cell? ⟨3, 0, none⟩ = some v ∧ isErr v) : Calls Tryz.prog 98 #[.string (str l), .int .i64 16, .int .i64 8] w (PuF (twoD l) w) := by
 have HI := hid (pu16_le l h w)
 have HLT : Hid (∀ n, twoD l = some n → n < 256) := hid (fun n h => twoD_lt h)
 obtain ⟨v, hc, hev⟩ := hv
 have HTE : Hid (∀ w', Below w.heap.size w w' → Calls Tryz.prog 129 #[.string ⟨#[80, 97, 114, 115, 101, 85, 105, 110, 116]⟩, .string (str l), .int .i64 16, .int .i64 8, .iface 209 (.int .i64 2)] w' fun e w'' => (∃ T p, e = .returned (.iface T p)) ∧ Below w'.heap.size w' w'') := hid (fun w' hb =>
  (AnyPu.strconv_toError_syntax { Tryz.laysPu14 with } ⟨#[80, 97, 114, 115, 101, 85, 105, 110, 116]⟩ (str l) 16 8 v w' (by rw [zbm]; omega) ((hb.cell (World.block_lt_of_cell? _ _ hc)).trans hc) hev).mono fun e w'' ⟨N, he, _, _, hb2⟩ => ⟨⟨_, _, he⟩, hb2⟩)
 clear hc hev h
 generalize twoD l = o at *
 go_enter Tryz.func98, Tryz.ntmps98
 go_wp2_with fail
 refine HI.out.mono ?_
 rintro e w' ⟨hb, ⟨n, ho, rfl⟩ | ⟨ho, rfl⟩⟩
 · have HB := hid hb
   have HO := hid ho
   clear hb ho
   go_wp2_with fail
   go_ret2
   exact ⟨HB.out, .inl ⟨n, HO.out, HLT.out n HO.out, rfl⟩⟩
 · have HB := hid hb
   have HO := hid ho
   have HT := hid (HTE.out w' hb)
   clear hb ho
   go_wp2_with fail
   refine HT.out.mono ?_
   rintro e w2 ⟨⟨T, p, rfl⟩, hb2⟩
   have HB2 := hid (HB.out.trans (hb2.mono HB.out.size))
   clear hb2
   go_wp2_with fail
   go_ret2
   exact ⟨HB2.out, .inr ⟨HO.out, _, _, rfl⟩⟩
theorem zqk : ∀ (l : B) (x : Nat), x < (l.length + 1) / 2 → (chk2 l).getD x [] = (l.drop (2 * x)).take 2
 | [], x, h => by simp at h
 | [c], x, h => by
   obtain rfl : x = 0 := by simp at h; omega
   rfl
 | c :: d :: r, 0, h => rfl
 | c :: d :: r, x + 1, h => by
   have := zqk r x (by simp at h; omega)
   rw [chk2, List.getD_cons_succ, this, show 2 * (x + 1) = 2 * x + 1 + 1 by omega]
   rfl
theorem zql : ∀ (l : B), (chk2 l).length = (l.length + 1) / 2
 | [] => rfl
 | [c] => by simp [chk2]
 | c :: d :: r => by rw [chk2, List.length_cons, zql r]; simp only [List.length_cons]; omega
theorem zqm (p : B) : ∀ A : List B, saysB (A ++ [p]) = (saysB A).bind fun a => (twoD p).map fun n => a ++ [UInt8.ofNat n]
 | [] => by
   simp only [List.nil_append, saysB]
   cases twoD p <;> simp
 | q :: r => by
   rw [List.cons_append, saysB, saysB, zqm p r]
   cases twoD q <;> cases saysB r <;> cases twoD p <;> simp
def accU (L : List B) (pre : List Nat) : Option B := pre.foldl (fun o k => o.bind fun a => (twoD (L.getD k [])).map fun n => a ++ [UInt8.ofNat n]) (some [])
theorem zqn (L : List B) (pre : List Nat) (k : Nat) : accU L (pre ++ [k]) = (accU L pre).bind fun a => (twoD (L.getD k [])).map fun n => a ++ [UInt8.ofNat n] := by
 unfold accU; rw [List.foldl_append]; rfl
theorem zqo {L : List B} : ∀ (l : List Nat), l.foldl (fun o k => o.bind fun a => (twoD (L.getD k [])).map fun n => a ++ [UInt8.ofNat n]) (none : Option B) = none
 | [] => rfl
 | k :: l => by rw [List.foldl_cons]; exact zqo l
theorem zqp {L : List B} {k n : Nat} (h : accU L (List.range k) = none) (hk : k ≤ n) : accU L (List.range n) = none := by
 obtain ⟨m, rfl⟩ : ∃ m, n = k + m := ⟨n - k, by omega⟩
 rw [List.range_add]
 unfold accU at h ⊢
 rw [List.foldl_append, h]
 exact zqo _
theorem zqq (L : List B) : ∀ k, k ≤ L.length → accU L (List.range k) = saysB (L.take k)
 | 0, _ => rfl
 | k + 1, h => by
   rw [List.range_succ, zqn, zqq L k (by omega), List.take_succ_eq_append_getElem (by omega), zqm, List.getD_eq_getElem?_getD, List.getElem?_eq_getElem (by omega)]
   rfl
theorem zqr (L : List B) : accU L (List.range L.length) = saysB L := by rw [zqq L _ (Nat.le_refl _), List.take_length]
def UnE (o : Option B) (w : World) (e : Ending) (w' : World) : Prop :=
 Below w.heap.size w w' ∧ ((∃ t, o = some t ∧ e = .returned (.tuple #[.string (str t), .nilIface])) ∨ (o = none ∧ ∃ T p, e = .returned (.tuple #[.string ⟨#[]⟩, .iface T p])))
theorem zqs {w : World} {a : Addr} {v : Value} (hc : w.cell? a = some v) : (loadVar 9 a).run Tryz.prog w = .ok v w := by simp [loadVar, go_sem, hc]
theorem zqt {w : World} {a : Addr} {v : Value} (hc : w.cell? a = some v) : (loadVar 40 a).run Tryz.prog w = .ok v w := by simp [loadVar, go_sem, hc]
abbrev u0S : Obj := .cells #[.string ⟨#[]⟩] 9
abbrev u0E : Obj := .cells #[.nilIface] 40
abbrev u0L : Obj := .cells #[.slice none 0 0] 108
set_option maxRecDepth 100000 in
theorem zqu (l : B) (w : World) (hl : l.length ≤ 9223372036854775807) (hs : 512 < l.length) : Calls Tryz.prog 97 #[.string (str l)] w (UnE none w) := by
 have hz : (str l).size = l.length := zbm l
 obtain ⟨n, hn⟩ : ∃ n, l.length = n := ⟨_, rfl⟩
 rw [hn] at hl hs hz
 have hd : decide ((512 : Int) < (n : Int)) = true := decide_eq_true (by omega)
 have hb0 : Below w.heap.size w ((w.alloc u0S).alloc (.cells #[.iface 28 (.int .i64 90)] 40)) := ((Below.refl _ w).alloc (Nat.le_refl _) _).alloc (by simp) _
 have c0 : ((w.alloc u0S).alloc (.cells #[.iface 28 (.int .i64 90)] 40)).heap[w.heap.size]? = some u0S := (heap_alloc_old _ _ (by simp)).trans (heap_alloc_new w u0S)
 have c1 : ((w.alloc u0S).alloc (.cells #[.iface 28 (.int .i64 90)] 40)).heap[w.heap.size + 1]? = some (.cells #[.iface 28 (.int .i64 90)] 40) := by have := heap_alloc_new (w.alloc u0S) (.cells #[.iface 28 (.int .i64 90)] 40); rwa [World.size_alloc] at this
 have HB0 := hid hb0
 have HC0 := hid c0
 have HC1 := hid c1
 clear hb0 c0 c1
 go_enter Tryz.func97, Tryz.ntmps97
 go_wp2_with fail
 refine bodyPost_ret (zlg rfl _ _ ⟨w.heap.size, 0, none⟩ (.string ⟨#[]⟩) rfl (zqs (cell1 HC0.out)) ⟨w.heap.size + 1, 0, none⟩ (.iface 28 (.int .i64 90)) rfl (zqt (cell1 HC1.out))) rfl ?_
 exact ⟨HB0.out, .inr ⟨rfl, _, _, rfl⟩⟩
theorem own_low {w w' : World} {B n sz : Nat} {ty : TypeId} {v : Value} {L : List Value} (h : w.ownsRow B ty sz v n L) (hb : Below w.heap.size w w') : w'.ownsRow B ty sz v n L := by
 obtain ⟨h1, h2 | ⟨g, cap, cur, e1, h3, h4, h5⟩⟩ := h
 · exact ⟨h1, .inl h2⟩
 · exact ⟨h1, .inr ⟨g, cap, cur, e1, h3, (hb.block g (zpf h4)).trans h4, h5⟩⟩
theorem zqv (A : B) (n : Nat) (h : n < 256) : A.map byteV ++ [Value.int .u8 (n : Int)] = (A ++ [UInt8.ofNat n]).map byteV := by
 have : (UInt8.ofNat n).toNat = n := by simp; omega
 simp [byteV, this]
theorem zqw (s : ByteArray) (w : World) : ∃ cap w1, (convert 9 108 (.string s)).run Tryz.prog w = .ok (.slice (some ⟨w.heap.size, 0, none⟩) s.size cap) w1 ∧ s.size ≤ cap ∧
 (∀ j, j < s.size → w1.cell? ⟨w.heap.size, j, none⟩ = some (.int .u8 (s.data.toList.getD j 0).toNat)) ∧ Below w.heap.size w w1 :=
 ⟨_, _, Lib.run_convert_string_bytes w _ _ 5 s Tryz.underlying9 Tryz.underlying108 Tryz.underlying5, grownCap_ge _ _ _ _, fun j hj => Lib.bytesWorld_cell w 5 s j hj, Lib.bytesWorld_below _ _ _⟩
theorem zqx (l : B) (x g : Nat) (hx : x < (l.length + 1) / 2) (W : World) (hc : ∀ j, j < l.length → W.cell? ⟨g, j, none⟩ = some (.int .u8 (l.getD j 0).toNat)) :
 (convert 108 9 (.slice (some ⟨g, 2 * x, none⟩) (min 2 (l.length - 2 * x)) (min 2 (l.length - 2 * x)))).run Tryz.prog W = .ok (.string (str ((chk2 l).getD x []))) W := by
 rw [zqk l x hx]
 obtain ⟨p, hp⟩ : ∃ p, (l.drop (2 * x)).take 2 = p := ⟨_, rfl⟩
 have hpl : p.length = min 2 (l.length - 2 * x) := by rw [← hp]; simp
 have h := run_convert_bytes_back (P := Tryz.prog) W 108 9 5 ⟨g, 2 * x, none⟩ p.length p Tryz.underlying108 Tryz.underlying5 Tryz.underlying9 (fun j hj => by
  rw [Go.WideShapes.add_plain]
  have hj2 : 2 * x + j < l.length := by omega
  rw [hc _ hj2]
  have e1 : p[j] = l.getD (2 * x + j) 0 := by
   have : p[j]? = l[2 * x + j]? := by rw [← hp, List.getElem?_take_of_lt (by omega), List.getElem?_drop]
   rw [List.getElem?_eq_getElem hj, List.getElem?_eq_getElem hj2] at this
   rw [List.getD_eq_getElem?_getD, List.getElem?_eq_getElem hj2]
   exact Option.some.inj this
  rw [e1])
 rw [hpl] at h
 rw [hp]
 exact h
set_option maxRecDepth 100000 in
theorem zqy (l : B) (w : World) (hv : ∃ v, w.cell? ⟨3, 0, none⟩ = some v ∧ isErr v) (hs : l.length ≤ 512) : CallsIn Fence.wide 6 Tryz.prog 97 #[.string (str l)] w (UnE (accU (chk2 l) (List.range (chk2 l).length)) w) := by
 obtain ⟨i0, hi, hz0, hz1, hz2⟩ := info_parts info_u8
 have hz : (str l).size = l.length := zbm l
 have HB0 : Hid (Below w.heap.size w (((w.alloc u0S).alloc u0E).alloc u0L)) := hid ((((Below.refl _ w).alloc (Nat.le_refl _) _).alloc (by simp) _).alloc (by simp; omega) _)
 have b0 : (((w.alloc u0S).alloc u0E).alloc u0L).heap[w.heap.size]? = some u0S := (heap_alloc_old _ _ (by simp; omega)).trans ((heap_alloc_old _ _ (by simp)).trans (heap_alloc_new w u0S))
 have b1 : (((w.alloc u0S).alloc u0E).alloc u0L).heap[w.heap.size + 1]? = some u0E := (heap_alloc_old _ _ (by simp)).trans (by have := heap_alloc_new (w.alloc u0S) u0E; rwa [World.size_alloc] at this)
 have b2 : (((w.alloc u0S).alloc u0E).alloc u0L).heap[w.heap.size + 2]? = some u0L := by have := heap_alloc_new ((w.alloc u0S).alloc u0E) u0L; rwa [World.size_alloc, World.size_alloc] at this
 have hsz0 : (((w.alloc u0S).alloc u0E).alloc u0L).heap.size = w.heap.size + 3 := by simp
 have hd : decide ((512 : Int) < (l.length : Int)) = false := decide_eq_false (by omega)
 have hd2 : decide (512 < l.length) = false := decide_eq_false (by omega)
 have HV := hid hv
 have HS := hid hs
 obtain ⟨cap, w1, hconv, hcap, hcells, hb1⟩ := zqw (str l) (((w.alloc u0S).alloc u0E).alloc u0L)
 rw [hz] at hcap hcells
 rw [hsz0, hz] at hconv
 rw [hsz0] at hcells
 rw [zbn] at hcells
 have HN0 := hid ((hb1.block _ (by omega)).trans b0)
 have HN1 := hid ((hb1.block _ (by omega)).trans b1)
 have HN2 := hid ((hb1.block _ (by omega)).trans b2)
 have HB1 := hid (HB0.out.trans (hb1.mono HB0.out.size))
 have HCL := hid hcells
 have HS1 : Hid (w.heap.size + 3 ≤ w1.heap.size) := hid (by have := hb1.size; omega)
 have HCAP := hid hcap
 dsimp only [u0S, u0E, u0L] at hconv
 clear hv hs b0 b1 b2 hcells hb1 hsz0 hcap HB0
 refine callsIn_of_wp_marks Tryz.func97 rfl trivial ?_ rfl
 simp only [Tryz.ntmps97, List.size_toArray, List.length_cons, List.length_nil, Nat.reduceAdd, Nat.reduceSub, Array.replicate_succ, Array.replicate_zero, List.push_toArray, List.append_toArray, List.nil_append, List.cons_append]
 gi_wp2_with fail
 refine ⟨trivial, (callsIn_wide.2 (zpy _ _ _ _)).mono ?_⟩
 rintro e w3 ⟨rfl, rfl⟩
 clear hconv
 obtain ⟨z0, z1, z2, z3⟩ := zpx (.slice (some ⟨w.heap.size + 3, 0, none⟩) l.length cap) w1
 have HK0 := hid ((z3.block _ (zpf HN0.out)).trans HN0.out)
 have HK1 := hid ((z3.block _ (zpf HN1.out)).trans HN1.out)
 have HK2 := hid ((z3.block _ (zpf HN2.out)).trans HN2.out)
 have HB3 := hid (HB1.out.trans (z3.mono HB1.out.size))
 have HCL3 : Hid (∀ j, j < l.length → (zpw (.slice (some ⟨w.heap.size + 3, 0, none⟩) l.length cap) w1).cell? ⟨w.heap.size + 3, j, none⟩ = some (.int .u8 (l.getD j 0).toNat)) := hid (fun j hj => by
  have h := HCL.out j hj
  rw [z3.cell (World.block_lt_of_cell? _ _ h)]
  exact h)
 obtain ⟨W3, hW3⟩ : ∃ W3, zpw (.slice (some ⟨w.heap.size + 3, 0, none⟩) l.length cap) w1 = W3 := ⟨_, rfl⟩
 rw [hW3] at z0 z1 z2 HK0 HK1 HK2 HB3 HCL3 ⊢
 unfold zpv
 have HS3 : Hid (W3.heap.size = w1.heap.size + 2) := hid z0
 clear z0 z3 hW3 HN0 HN1 HN2 HB1 HCL
 gi_wp2_with fail
 have HPS := hid (zqa 5 (by decide) w1.heap.size (w1.heap.size + 1) (w.heap.size + 2) W3.heap.size (w.heap.size + 3) l.length cap (chk2 l).length HS.out HCAP.out (zql l) (Nat.le_refl _) z1 z2 (by have := HS3.out; omega) (by have := HS1.out; omega) (by have := HS3.out; omega) (by have := HS1.out; omega))
 have HPT : Hid (∀ x, ((chk2 l).getD x []).length ≤ 2 ∧ ∀ W, (∀ j, j < l.length → W.cell? ⟨w.heap.size + 3, j, none⟩ = some (.int .u8 (l.getD j 0).toNat)) → (convert 108 9 (.slice (some ⟨w.heap.size + 3, 2 * x, none⟩) (min 2 (l.length - 2 * x)) (min 2 (l.length - 2 * x)))).run Tryz.prog W = .ok (.string (str ((chk2 l).getD x []))) W) := hid (fun x => by
  by_cases hx : x < (l.length + 1) / 2
  · refine ⟨?_, fun W hW => zqx l x _ hx W hW⟩
    rw [zqk l x hx, List.length_take, List.length_drop]
    omega
  · have e0 : (chk2 l).getD x [] = [] := by rw [List.getD_eq_getElem?_getD, List.getElem?_eq_none (by rw [zql]; omega)]; rfl
    rw [e0]
    refine ⟨Nat.zero_le _, fun W _ => ?_⟩
    rw [show min 2 (l.length - 2 * x) = 0 by omega]
    exact run_convert_bytes_back (P := Tryz.prog) W 108 9 5 ⟨w.heap.size + 3, 2 * x, none⟩ _ [] Tryz.underlying108 Tryz.underlying5 Tryz.underlying9 (fun j hj => absurd hj (Nat.not_lt_zero _)))
 have HLL : Hid ((chk2 l).length ≤ 512) := hid (Nat.le_trans (zoq l) HS.out)
 generalize chk2 l = L at *
 clear z1 z2
 refine wpIn_rangeFunc_ownG rfl (by decide) (gf := 162) (lb := #[.pointer (some ⟨w1.heap.size, 0, none⟩), .pointer (some ⟨w1.heap.size + 1, 0, none⟩)]) rfl trivial (enters_of Tryz.func162 (by kernel_rfl) rfl)
  HPS.out (fun h k => h.trans k) (bxK_b (Nat.le_refl _)) (Below.refl _ _) (fun _ => rfl)
  (fun (pre : List Nat) W => (∃ (v : Value) (A : B), Boxed W (w.heap.size + 2) 108 v ∧ W.ownsRow W3.heap.size 5 1 v A.length (A.map byteV) ∧ accU L pre = some A ∧ A.length = pre.length) ∧ Bx (w.heap.size + 2) W3.heap.size W3 W)
  (fun c pre W => c = .ret ∧ accU L pre = none ∧ W.heap[w.heap.size]? = some u0S ∧ (∃ T p, W.heap[w.heap.size + 1]? = some (.cells #[.iface T p] 40)) ∧ Below w.heap.size w W)
  ?own ?ownX
  ⟨⟨.slice none 0 0, [], HK2.out, World.ownsRow_nil _ _ _ _, rfl, rfl⟩, Bx.refl _ _ _⟩
  (fun (x : Nat) => { tmps := #[.string (str l), undef, .pointer (some ⟨w.heap.size, 0, none⟩), .pointer (some ⟨w.heap.size + 1, 0, none⟩), .pointer (some ⟨w.heap.size + 1 + 1, 0, none⟩), .slice (some ⟨w.heap.size + 3, 2 * x, none⟩) (min 2 (l.length - 2 * x)) (min 2 (l.length - 2 * x)), undef, undef, .string (str l), .int .i64 (l.length : Int), .bool false, undef, .string (str l), .slice (some ⟨w.heap.size + 3, 0, none⟩) l.length cap, .func (.func 162) #[] #[.pointer (some ⟨w1.heap.size, 0, none⟩), .pointer (some ⟨w1.heap.size + 1, 0, none⟩)], .slice (some ⟨w.heap.size + 3, 2 * x, none⟩) (min 2 (l.length - 2 * x)) (min 2 (l.length - 2 * x)), undef, undef, undef, undef, undef, undef, undef, undef, undef, undef, undef, undef, undef, undef, undef, undef], defers := [] }) ?assign ?body ?done ?stop
 case own =>
  rintro pre W W' row ⟨⟨v, A, q1, q2, q4, q5⟩, q6⟩ hg hr
  have hs3 := HS3.out
  have hs1 := HS1.out
  refine ⟨⟨v, A, (hg.block _ q1.lt (fun e => by have := (hr _ e.symm).1; omega)).trans q1, ?_, q4, q5⟩, ?_⟩
  · refine World.ownsRow.kept q2 hg ?_
    rcases q2.2 with ⟨rfl, _⟩ | ⟨g, cap, cur, rfl, _, hgb, _⟩
    · exact .inl rfl
    · refine .inr fun e' => ?_
      obtain ⟨-, o, ho, hc⟩ := hr g (by simpa [Value.ownBlock] using e'.symm)
      rw [hgb] at ho; cases ho; cases hc
  · exact q6.grown hg q6.size (fun r e => .inr (hr r e).1)
 case ownX =>
  rintro c pre W W' row ⟨q1, q2, q3, ⟨T, p, q4⟩, q5⟩ hg hr
  have hs3 := HS3.out
  have hs1 := HS1.out
  refine ⟨q1, q2, (hg.block _ (zpf q3) (fun e => by have := (hr _ e.symm).1; omega)).trans q3, ⟨T, p, (hg.block _ (zpf q4) (fun e => by have := (hr _ e.symm).1; omega)).trans q4⟩, q5.grown hg q5.size (fun k e => by have := (hr k e).1; omega)⟩
 case assign =>
  intro l x W K hK
  dsimp only [encC]
  gi_wp2
  exact hK
 case stop =>
  rintro D c pre W hD ⟨k, hk, rfl⟩ ⟨rfl, q2, q3, ⟨T, p, q4⟩, q5⟩ hK
  have HAC : Hid (accU L (List.range L.length) = none) := hid (zqp q2 hk)
  have HQ3 := hid q3
  have HQ4 := hid q4
  have HQ5 := hid q5
  clear q2 q3 q4 q5
  have hs3 := HS3.out
  have hs1 := HS1.out
  have hx := (World.putObj_heap_other (w := W) (r := D) (o := .deferred none) (k := w.heap.size) (by omega)).trans HQ3.out
  have hx2 := (World.putObj_heap_other (w := W) (r := D) (o := .deferred none) (k := w.heap.size + 1) (by omega)).trans HQ4.out
  gi_wp2
  refine ⟨by simp, .inl ⟨_, _, rfl, run_takeDeferred hK, ?_⟩⟩
  refine ⟨_, zlg rfl _ _ ⟨w.heap.size, 0, none⟩ (.string ⟨#[]⟩) rfl (zqs (cell1 hx)) ⟨w.heap.size + 1, 0, none⟩ (.iface T p) rfl (zqt (cell1 hx2)), ?_⟩
  rw [HAC.out]
  exact ⟨HQ5.out.trans (belowK_b (w := W3) HB3.out.size W D _ _ hD hK rfl rfl), .inr ⟨rfl, _, _, rfl⟩⟩
 case done =>
  rintro D ys W hD rfl ⟨⟨v, A, q1, q2, q4, q5⟩, q6⟩ hK
  have HQ4 := hid q4
  have hs3 := HS3.out
  have hs1 := HS1.out
  have HN := hid ((q6.block w.heap.size (by omega) (by omega)).trans HK0.out)
  have HZ := hid ((q6.block (w.heap.size + 1) (by omega) (by omega)).trans HK1.out)
  have HBW : Hid (Below w.heap.size w W) := hid (HB3.out.trans (q6.below (by omega) HB3.out.size))
  have HK := hid hK
  have hDl := (Array.getElem?_eq_some_iff.1 hK).1
  have hc := q1.cell
  have hc' : W.cell? ⟨w.heap.size + 1 + 1, 0, none⟩ = some v := hc
  have n0 := cell1 HN.out
  have n1 := cell1 HZ.out
  have f0 := zpg (i := 0) HN.out
  have f1 := zpg (i := 0) HZ.out
  have hD2 : w.heap.size + 1 < D := by omega
  have hcv : (convert 108 9 v).run Tryz.prog W = .ok (.string (str A)) W := by
   by_cases hA : A.length = 0
   · have hA0 : A = [] := List.eq_nil_of_length_eq_zero hA
     subst hA0
     rcases q2.2 with ⟨rfl, _⟩ | ⟨g, cp, cur, rfl, _, _, _, _, _, _⟩
     · have h : (convert 108 9 (.slice none 0 0)).run Tryz.prog W = .ok (.string (str [])) W := by kernel_rfl
       exact h
     · exact run_convert_bytes_back (P := Tryz.prog) W 108 9 5 ⟨g, 0, none⟩ _ [] Tryz.underlying108 Tryz.underlying5 Tryz.underlying9 (fun j hj => absurd hj (Nat.not_lt_zero _))
   · exact zqf q2 (by omega)
  have HKD : Hid (∀ x y, ((W.setCell ⟨w.heap.size, 0, none⟩ x).setCell ⟨w.heap.size + 1, 0, none⟩ y).heap[D]? = some (.deferred (some []))) := hid (fun x y => (Below.heap_setCell _ _ _ _ (by show D ≠ w.heap.size + 1; omega)).trans ((Below.heap_setCell _ _ _ _ (by show D ≠ w.heap.size; omega)).trans hK))
  have HX0 : Hid (∀ x y, ((W.setCell ⟨w.heap.size, 0, none⟩ x).setCell ⟨w.heap.size + 1, 0, none⟩ y).heap[w.heap.size]? = some (.cells #[x] 9)) := hid (fun x y => (Below.heap_setCell _ _ _ _ (by show w.heap.size ≠ w.heap.size + 1; omega)).trans (zck HN.out 0 _))
  have HX1 : Hid (∀ x y, ((W.setCell ⟨w.heap.size, 0, none⟩ x).setCell ⟨w.heap.size + 1, 0, none⟩ y).heap[w.heap.size + 1]? = some (.cells #[y] 40)) := hid (fun x y => zck ((Below.heap_setCell _ _ _ _ (by show w.heap.size + 1 ≠ w.heap.size; omega)).trans HZ.out) 0 _)
  have HBB : Hid (∀ x y, Below w.heap.size w ((W.setCell ⟨w.heap.size, 0, none⟩ x).setCell ⟨w.heap.size + 1, 0, none⟩ y)) := hid (fun x y => (HBW.out.setCell (Nat.le_refl _) _).setCell (by show w.heap.size ≤ w.heap.size + 1; omega) _)
  clear q1 q2 q4 q5 q6 hK hc
  gi_wp2_with fail
  refine ⟨by simp, .inl ⟨_, _, rfl, run_takeDeferred (HKD.out _ _), ?_⟩⟩
  refine ⟨_, zlg rfl _ _ ⟨w.heap.size, 0, none⟩ (.string (str A)) rfl (zqs (cell1 ((World.putObj_heap_other (by omega)).trans (HX0.out _ _)))) ⟨w.heap.size + 1, 0, none⟩ .nilIface rfl (zqt (cell1 ((World.putObj_heap_other (by omega)).trans (HX1.out _ _)))), ?_⟩
  rw [HQ4.out]
  exact ⟨(HBB.out _ _).trans (belowK_b (w := W3) HB3.out.size _ D _ _ hD (HKD.out _ _) rfl rfl), .inl ⟨A, rfl, rfl⟩⟩
 case body =>
  rintro ln pre x W ⟨⟨v, A, q1, q2, q4, q5⟩, q6⟩ hlt
  have hs3 := HS3.out
  have hs1 := HS1.out
  have HBW : Hid (Below w.heap.size w W) := hid (HB3.out.trans (q6.below (by omega) HB3.out.size))
  have HN := hid ((q6.block w.heap.size (by omega) (by omega)).trans HK0.out)
  have HZ := hid ((q6.block (w.heap.size + 1) (by omega) (by omega)).trans HK1.out)
  obtain ⟨hpl, hpc⟩ := HPT.out x
  have hcv := hpc W (fun j hj => by rw [q6.cell (by show w.heap.size + 3 < _; omega) (by show w.heap.size + 3 ≠ _; omega)]; exact HCL3.out j hj)
  have HPU := hid (zqj (L.getD x []) hpl W (by
   obtain ⟨ev, h1, h2⟩ := HV.out
   exact ⟨ev, (HBW.out.cell (World.block_lt_of_cell? _ _ h1)).trans h1, h2⟩))
  have HAC : Hid (accU L (pre ++ [x]) = (twoD (L.getD x [])).map fun n => A ++ [UInt8.ofNat n]) := hid (by rw [zqn, q4]; rfl)
  have HQ1 := hid q1
  have HQ2 := hid q2
  have HQ5 := hid q5
  have HQ6 := hid q6
  have HML : Hid (A.length ≤ 512) := hid (by have := HLL.out; omega)
  have HWS : Hid (W3.heap.size ≤ W.heap.size) := hid q6.size
  have HL0 : Hid (w.heap.size < W.heap.size) := hid (zpf HN.out)
  have HL1 : Hid (w.heap.size + 1 < W.heap.size) := hid (zpf HZ.out)
  have HL2 : Hid (w.heap.size + 2 < W.heap.size) := hid q1.lt
  clear q1 q2 q4 q5 q6 HK0 HK1 HK2 HPS hlt hs3 hs1 hz hd hd2 hpl hpc HPT HV HCL3
  generalize twoD (L.getD x []) = cm at *
  generalize hpx : str (L.getD x []) = px at *
  clear hpx
  gi_wp2_with fail
  refine ⟨trivial, ((callsIn_wide.2 HPU.out).inRound ln).mono ?_⟩
  rintro e W4 ⟨hb4, ⟨n, rfl, hn, rfl⟩ | ⟨rfl, T, p, rfl⟩⟩
  · have HB4 := hid hb4
    have HW4 : Hid (W.heap.size ≤ W4.heap.size) := hid hb4.size
    have HQ14 : Hid (Boxed W4 (w.heap.size + 2) 108 v) := hid ((hb4.block _ HL2.out).trans HQ1.out)
    have HQ24 := hid (own_low HQ2.out hb4)
    have HAC2 : Hid (accU L (pre ++ [x]) = some (A ++ [UInt8.ofNat n])) := hid HAC.out
    have HN8 := hid (zqv A n hn)
    have hw8 : IntKind.u8.wrap (n : Int) = (n : Int) := IntWalk.u8_in _ ⟨by omega, by omega⟩
    have hrow6 := HQ24.out
    have hc6 := HQ14.out.cell
    have hc6' : W4.cell? ⟨w.heap.size + 1 + 1, 0, none⟩ = some v := hc6
    have hml := HML.out
    have h36 : W3.heap.size ≤ W4.heap.size := by have := HW4.out; have := HWS.out; omega
    clear hb4 hn hcv
    obtain ⟨va, cp, rfl⟩ : ∃ va cp, v = .slice va A.length cp := by
     rcases hrow6.2 with ⟨rfl, h0⟩ | ⟨g, cp, cur, rfl, _⟩
     · exact ⟨none, 0, by rw [h0]⟩
     · exact ⟨_, _, rfl⟩
    gi_wp2_with (gi_at_builtin; refine wpListIn_append_own _ rfl _ _ 108 rfl W3.heap.size 5 i0 _ 1 1 Tryz.underlying108 hi hz0 hz1 hz2 rfl (by decide) _ _ _ rfl (hrow6.alloc _) ⟨W4.heap.size, 0, none⟩ 1 1 [.int .u8 (n : Int)] rfl rfl ?c1 ?c2 ?c3 ?c4 ?c5 ?_)
    case c1 => exact zqd W4 (.int .u8 (n : Int)) 5
    case c2 => (intro u hu; simp only [List.mem_singleton] at hu; subst hu; rfl)
    case c3 => unfold maxLen; omega
    case c4 => omega
    case c5 => simp; omega
    intro v' W7 hown7 hg7 _
    obtain ⟨g', cap', rfl⟩ := ownsRow_succ hown7
    obtain ⟨v', hv'⟩ : ∃ v', Value.slice (some ⟨g', 0, none⟩) (A.length + 1) cap' = v' := ⟨_, rfl⟩
    have HVE := hid hv'
    rw [hv'] at hown7
    clear hv'
    have hv7 : Boxed W7 (w.heap.size + 2) 108 _ := (HQ14.out.alloc _).kept hg7 (HQ14.out.not_row (by decide) hrow6)
    have hc7 := hv7.cell
    have hc7' : W7.cell? ⟨w.heap.size + 1 + 1, 0, none⟩ = some _ := hc7
    have hf7 := hv7.frozen
    have hf7' : W7.frozen? ⟨w.heap.size + 1 + 1, 0, none⟩ = false := hf7
    have hnr := hv7.not_row (by decide) hown7
    have HV7 := hid hv7
    have HROW7 : Hid ((W7.setCell ⟨w.heap.size + 2, 0, none⟩ v').ownsRow W3.heap.size 5 1 v' (A ++ [UInt8.ofNat n]).length ((A ++ [UInt8.ofNat n]).map byteV)) := hid (by
     rw [← HN8.out, List.length_append]
     exact hown7.kept (grownBy_setCell' W7 (w.heap.size + 2) v') (.inr hnr.symm))
    have HKP : Hid (KeepsFrom W3.heap.size W (W7.setCell ⟨w.heap.size + 2, 0, none⟩ v')) := hid (by
     refine (((zkx HB4.out).trans ((KeepsOthers.alloc W4 _).from _)).trans ((KeepsOthers.of_grownBy hg7 fun j o ej hj => ?_).from _)).trans (zkz (by show w.heap.size + 2 < W3.heap.size; have := HS3.out; have := HS1.out; omega))
     rcases (hrow6.alloc _).2 with ⟨h0, _⟩ | ⟨g, cap, cur, h0, _, hgb, _⟩
     · rw [h0] at ej; simp [Value.ownBlock] at ej
     · rw [h0] at ej
       obtain rfl : g = j := by simpa [Value.ownBlock] using ej
       rw [hgb] at hj; cases hj; rfl)
    have HBX7 : Hid (Bx (w.heap.size + 2) W3.heap.size W (W7.setCell ⟨w.heap.size + 2, 0, none⟩ v')) := hid (by
     refine (((Bx.of_below (HB4.out.mono HWS.out)).grown (World.grownBy_alloc W4 _ none) h36 (fun r e => by cases e)).grown hg7 (by simp; omega) (fun r e => .inr ?_)).grown (grownBy_setCell' W7 (w.heap.size + 2) v') (by have := hg7.size; simp at this; omega) (fun r e => .inl (by cases e; rfl))
     exact (World.ownsRow.lt hrow6 r e).1)
    clear hown7 hg7 hnr hrow6 hc6 hc6'
    gi_wp2_with fail
    rw [HVE.out]
    exact ⟨HKP.out, HBX7.out, ⟨v', A ++ [UInt8.ofNat n], HV7.out.set v', HROW7.out, HAC2.out, by rw [List.length_append, List.length_append, HQ5.out]; rfl⟩, HQ6.out.trans HBX7.out⟩
  · have HB4 := hid hb4
    have HN4 := hid ((hb4.block _ HL0.out).trans HN.out)
    have HZ4 := hid ((hb4.block _ HL1.out).trans HZ.out)
    have HW4 : Hid (Below w.heap.size w W4) := hid (HBW.out.trans (hb4.mono HBW.out.size))
    have c0 := cell1 HN4.out
    have c1 := cell1 HZ4.out
    have f0 := zpg (i := 0) HN4.out
    have f1 := zpg (i := 0) HZ4.out
    have HK4 : Hid (KeepsFrom W3.heap.size W W4) := hid (zkx hb4)
    have HX0 : Hid (∀ x y, ((W4.setCell ⟨w.heap.size, 0, none⟩ x).setCell ⟨w.heap.size + 1, 0, none⟩ y).heap[w.heap.size]? = some (.cells #[x] 9)) := hid (fun x y => (Below.heap_setCell _ _ _ _ (by show w.heap.size ≠ w.heap.size + 1; omega)).trans (zck HN4.out 0 _))
    have HX1 : Hid (∀ x y, ((W4.setCell ⟨w.heap.size, 0, none⟩ x).setCell ⟨w.heap.size + 1, 0, none⟩ y).heap[w.heap.size + 1]? = some (.cells #[y] 40)) := hid (fun x y => zck ((Below.heap_setCell _ _ _ _ (by show w.heap.size + 1 ≠ w.heap.size; omega)).trans HZ4.out) 0 _)
    clear hb4 hcv
    gi_wp2_with fail
    have hs3 := HS3.out
    have hs1 := HS1.out
    exact ⟨(HK4.out.trans (zkz (by show w.heap.size < W3.heap.size; omega))).trans (zkz (by show w.heap.size + 1 < W3.heap.size; omega)), rfl, HAC.out, HX0.out _ _, ⟨_, _, HX1.out _ _⟩, (HW4.out.setCell (Nat.le_refl _) _).setCell (by show w.heap.size ≤ w.heap.size + 1; omega) _⟩
theorem zqz (l : B) (w : World) (hv : ∃ v, w.cell? ⟨3, 0, none⟩ = some v ∧ isErr v) (hl : l.length ≤ 140737488351232) : Calls Tryz.prog 97 #[.string (str l)] w (UnE (zok l) w) := by
 unfold zok
 by_cases h : l.length ≤ 512
 · rw [if_pos h, ← zqr]
   exact (callsIn_wide (n := 6)).1 (zqy l w hv h)
 · rw [if_neg h]
   exact zqu l w (by omega) (by omega)
end EvL
end
end Go.Proofs.YtfbegbmjmhnplaaGreatDoor
section
namespace Go.Proofs
open Go.Shelf
def Tryz.lays155_ren : Go.Shelf.Ren := ⟨fun | 155 => 90 | 154 => 124 | 138 => 154 | 165 => 66 | 143 => 155 | 166 => 67 | 197 => 156 | 169 => 68 | 195 => 186 | 218 => 187 | 240 => 109 | 241 => 110 | 219 => 188 | 260 => 189 | 276 => 135 | 277 => 136 | 217 => 211 | 225 => 212 | 224 => 213 | 267 => 214 | 266 => 241 | 314 => 242 | n => n, fun | 9 => 9 | 3 => 3 | 4 => 4 | 72 => 117 | 0 => 0 | 76 => 119 | 105 => 201 | 21 => 21 | 5 => 5 | 70 => 115 | 20 => 20 | 37 => 108 | 75 => 40 | 127 => 158 | 164 => 181 | 46 => 107 | 119 => 271 | 139 => 274 | 138 => 273 | 146 => 297 | 51 => 25 | 80 => 121 | n => n, fun | 1 => 1 | 3 => 5 | 4 => 6 | n => n⟩
theorem Tryz.lays155 : Go.Proofs.Lays.n155 Tryz.prog Tryz.lays155_ren := {
 mixed := by kernel_rfl
 f138 := Tryz.func154.trans (congrArg some (by kernel_rfl))
 f143 := Tryz.func155.trans (congrArg some (by kernel_rfl))
 f154 := Tryz.func124.trans (congrArg some (by kernel_rfl))
 f155 := Tryz.func90.trans (congrArg some (by kernel_rfl))
 f165 := Tryz.func66.trans (congrArg some (by kernel_rfl))
 f166 := Tryz.func67.trans (congrArg some (by kernel_rfl))
 f169 := Tryz.func68.trans (congrArg some (by kernel_rfl))
 f195 := Tryz.func186.trans (congrArg some (by kernel_rfl))
 f197 := Tryz.func156.trans (congrArg some (by kernel_rfl))
 f217 := Tryz.func211.trans (congrArg some (by kernel_rfl))
 f218 := Tryz.func187.trans (congrArg some (by kernel_rfl))
 f219 := Tryz.func188.trans (congrArg some (by kernel_rfl))
 f224 := Tryz.func213.trans (congrArg some (by kernel_rfl))
 f225 := Tryz.func212.trans (congrArg some (by kernel_rfl))
 f240 := Tryz.func109.trans (congrArg some (by kernel_rfl))
 f241 := Tryz.func110.trans (congrArg some (by kernel_rfl))
 f260 := Tryz.func189.trans (congrArg some (by kernel_rfl))
 f266 := Tryz.func241.trans (congrArg some (by kernel_rfl))
 f267 := Tryz.func214.trans (congrArg some (by kernel_rfl))
 f276 := Tryz.func135.trans (congrArg some (by kernel_rfl))
 f277 := Tryz.func136.trans (congrArg some (by kernel_rfl))
 f314 := Tryz.func242.trans (congrArg some (by kernel_rfl))
 t0 := Tryz.underlying0
 a0 := Tryz.isAgg0
 z0 := Tryz.sizeOf0
 v0 := Tryz.zeroValue0
 t3 := Tryz.underlying3
 a3 := Tryz.isAgg3
 z3 := Tryz.sizeOf3
 v3 := Tryz.zeroValue3
 t4 := Tryz.underlying4
 a4 := Tryz.isAgg4
 z4 := Tryz.sizeOf4
 v4 := Tryz.zeroValue4
 t5 := Tryz.underlying5
 a5 := Tryz.isAgg5
 z5 := Tryz.sizeOf5
 v5 := Tryz.zeroValue5
 t9 := Tryz.underlying9
 a9 := Tryz.isAgg9
 z9 := Tryz.sizeOf9
 v9 := Tryz.zeroValue9
 t20 := Tryz.underlying20
 a20 := Tryz.isAgg20
 z20 := Tryz.sizeOf20
 v20 := Tryz.zeroValue20
 t21 := Tryz.underlying21
 a21 := Tryz.isAgg21
 z21 := Tryz.sizeOf21
 v21 := Tryz.zeroValue21
 t37 := Tryz.underlying108
 a37 := Tryz.isAgg108
 z37 := Tryz.sizeOf108
 v37 := Tryz.zeroValue108
 t46 := Tryz.underlying107
 a46 := Tryz.isAgg107
 z46 := Tryz.sizeOf107
 v46 := Tryz.zeroValue107
 t51 := Tryz.underlying25
 a51 := Tryz.isAgg25
 z51 := Tryz.sizeOf25
 v51 := Tryz.zeroValue25
 t70 := Tryz.underlying115
 a70 := Tryz.isAgg115
 z70 := Tryz.sizeOf115
 v70 := Tryz.zeroValue115
 t72 := Tryz.underlying117
 a72 := Tryz.isAgg117
 z72 := Tryz.sizeOf117
 v72 := Tryz.zeroValue117
 t75 := Tryz.underlying40
 a75 := Tryz.isAgg40
 z75 := Tryz.sizeOf40
 v75 := Tryz.zeroValue40
 t76 := Tryz.underlying119
 a76 := Tryz.isAgg119
 z76 := Tryz.sizeOf119
 v76 := Tryz.zeroValue119
 t105 := Tryz.underlying201
 a105 := Tryz.isAgg201
 z105 := Tryz.sizeOf201
 v105 := Tryz.zeroValue201
 t119 := Tryz.underlying271
 a119 := Tryz.isAgg271
 z119 := Tryz.sizeOf271
 t127 := Tryz.underlying158
 a127 := Tryz.isAgg158
 z127 := Tryz.sizeOf158
 v127 := Tryz.zeroValue158
 t138 := Tryz.underlying273
 a138 := Tryz.isAgg273
 z138 := Tryz.sizeOf273
 v138 := Tryz.zeroValue273
 t139 := Tryz.underlying274
 a139 := Tryz.isAgg274
 z139 := Tryz.sizeOf274
 v139 := Tryz.zeroValue274
 t146 := Tryz.underlying297
 a146 := Tryz.isAgg297
 z146 := Tryz.sizeOf297
 v146 := Tryz.zeroValue297
 t164 := Tryz.underlying181
 a164 := Tryz.isAgg181
 z164 := Tryz.sizeOf181
 v164 := Tryz.zeroValue181
 g1 := by kernel_rfl
 g3 := by kernel_rfl
 g4 := by kernel_rfl }
theorem Tryz.Builder_Extra_155 : Builder.Extra Tryz.prog Tryz.lays155_ren := {
 sizeBuilder := by kernel_rfl
 liesBuilder := by kernel_rfl
 t5 := Tryz.underlying5
 a5 := Tryz.isAgg5
 z5 := Tryz.sizeOf5
 v5 := Tryz.zeroValue5
 infoByte := by kernel_rfl
 cellsByte := by kernel_rfl
 sizeByte := by kernel_rfl
 neB5 := by decide }
open Go.RowKit Go.Lib in
/-- strings.ReplaceAll: "ReplaceAll returns a copy of the string s with all non-overlapping instances of old replaced by new.": AT AN old THAT IS NOT EMPTY: 'Lib.replaceAll s old new'. (LAID: no walk: one application.) -/
theorem Tryz.strings_ReplaceAll (s old new : ByteArray) (m : Int) (w : World) (hs : s.size < 4294967281) (hm : w.cell? ⟨1, 0, none⟩ = some (.int .i64 m)) (h1 : 1 ≤ old.size) (hlen : s.size + Lib.countB s old * new.size ≤ 140737488355328) :
 Calls Tryz.prog 90 #[.string s, .string old, .string new] w fun e w' =>
  e = .returned (.string ⟨(Lib.replaceAll s.data.toList old.data.toList new.data.toList).toArray⟩) ∧ Below w.heap.size w w' := Any.strings_ReplaceAll Tryz.lays155 Tryz.Builder_Extra_155 s old new m w hs hm h1 hlen
end Go.Proofs
end
namespace Go.Proofs.YtfbegbmjmhnplaaGreatDoor
open Go.Lib (hid)
end Go.Proofs.YtfbegbmjmhnplaaGreatDoor
