/-
  What the proof of EvBoth stands on, part 11.
-/
import Derived.Test.YtfbegbmjmhnplaaGreatDoorT05
set_option linter.unusedSimpArgs false
set_option linter.unusedVariables false
set_option maxHeartbeats 16000000
namespace Go.Proofs.YtfbegbmjmhnplaaGreatDoor
open Go.Lib (hid)
section
open Go.RowKit
namespace VerC
open VerM StrC TextR
theorem zir : (Tryz.prog.info? 5).map (fun i => (i.zero, i.size, i.bytes)) = some (some (.int .u8 0), 1, 1) := by kernel_rfl
def OwnB (w : World) (K : Nat) (v : Value) (l : List UInt8) : Prop := w.ownsRow K 5 1 v l.length (Lib.byteCells l)
theorem zis {w : World} {K n : Nat} {v : Value} {l m : List UInt8} (h : w.ownsRow K 5 1 v (n + m.length) (Lib.byteCells l ++ Lib.byteCells m)) (hn : n = l.length) : OwnB w K v (l ++ m) := by
 unfold OwnB
 rw [Lib.byteCells_append, List.length_append, ← hn]
 exact h
theorem zit (l : List UInt8) : strOfNums (l.map fun c => (c.toNat : Int)) = ⟨l.toArray⟩ := by
 apply ByteArray.ext
 apply Array.toList_inj.1
 rw [strOfNums_data, List.map_map]
 show _ = l
 conv => rhs; rw [← List.map_id l]
 apply List.map_congr_left
 intro c _
 simp
theorem ziu {w : World} {K : Nat} {v : Value} {l : List UInt8} (h : OwnB w K v l) (hn : 0 < l.length) :
 (convert 108 9 v).run Tryz.prog w = .ok (.string (str l)) w := by
 have h : w.ownsRow K 5 1 v l.length (Lib.byteCells l) := h
 have hcs : ∀ g, v.ownBlock = some g → _ := fun g hg => h.cells hg
 obtain ⟨_, ⟨rfl, h0⟩ | ⟨g, cp, cur, rfl, hg0, hblk, hle, hcm, hsz, htk⟩⟩ := h
 · omega
 · have e := run_convert_bytes_arg (P := Tryz.prog) w 108 5 Tryz.underlying108 Tryz.underlying5 g 0 l.length cp (l.map fun c => (c.toNat : Int)) (by simp) (fun i hi => by
    have := hcs g rfl i (.int .u8 ((l.map fun c => (c.toNat : Int)).getD i 0)) (by
     have hi' : i < l.length := by omega
     simp [hi', Lib.byteCells])
    rw [Go.WideShapes.add_plain] at this
    exact this) 9 Tryz.underlying9
   rw [e, zit]
   rfl
theorem OwnB.keep {w w' : World} {K : Nat} {v : Value} {l : List UInt8} (h : OwnB w K v l) (hb : Below w.heap.size w w') : OwnB w' K v l :=
 World.ownsRow.kept h (row := none) ⟨hb.os, hb.tape, hb.output, hb.size, fun k hk _ => hb.block k hk⟩ (by cases v.ownBlock <;> simp)
theorem OwnB.nil (w : World) (K : Nat) : OwnB w K (.slice none 0 0) [] := World.ownsRow_nil _ _ _ _
theorem dec_pos (n : Nat) : 1 ≤ (Lib.decDigits n).length := by
 rw [Lib.decDigits]
 split <;> simp
theorem ziv {n : Nat} (h : n ≤ mx) : 1 ≤ (Lib.decDigits n).length ∧ (Lib.decDigits n).length ≤ 10 := ⟨dec_pos n, zce h⟩
theorem ziw (K u : Nat) (l : List UInt8) (v : Value) (w : World) (hv : Vw w) (hK : K ≤ w.heap.size) (ho : OwnB w K v l) (hl : l.length ≤ 1000) (hu : u ≤ mx) :
 Calls Tryz.prog 278 #[v, .int .u64 (u : Int), .int .i64 10] w fun e w' => ∃ v', e = .returned v' ∧ OwnB w' K v' (l ++ Lib.decDigits u) ∧ Below K w w' := by
 have HI : Hid (Calls Tryz.prog 289 #[v, .int .u64 (u : Int), .int .i64 10] w fun e w' => ∃ v', e = .returned v' ∧ OwnB w' K v' (l ++ Lib.decDigits u) ∧ Below K w w') := hid (by
  unfold mx at hu
  by_cases h : u < 100
  · exact (Tryz.internal_strconv_AppendUint_10_small K l.length u h v (Lib.byteCells l) w ho hK (by omega)).mono fun e w' ⟨v', he, hown, hb, _⟩ => ⟨v', he, zis hown rfl, hb⟩
  · exact (Tryz.internal_strconv_AppendUint_10_big K l.length u (by omega) (by omega) v (Lib.byteCells l) w ho hK (by omega) hv.pow).mono fun e w' ⟨v', he, hown, hb, _⟩ => ⟨v', he, zis hown rfl, hb⟩)
 clear ho hv
 generalize (u : Int) = x at *
 go_enter Tryz.func278, Tryz.ntmps278
 go_wp2_with (go_at_call 289; refine HI.out.mono ?_; rintro e w' ⟨v', rfl, ho, hb⟩)
 go_ret
 exact ⟨_, rfl, ho, hb⟩
theorem zix (p : TL) (a : Option Addr) (cap : Nat) (w : World) (hT : Txs w a cap p) (hm : ∀ s ∈ p, s.length ≤ 16) (hp : p ≠ []) (h8 : p.length ≤ 8) :
 Calls Tryz.prog 27 #[.slice a p.length cap, .string ⟨#[46]⟩] w fun e w' => e = .returned (.string (str (Lib.join p [46]))) ∧ Below w.heap.size w w' := by
 obtain ⟨b, o, rfl, hc⟩ := hT.cells (List.length_pos_iff.2 hp)
 have hlen := zcb p 16 hm p.length (Nat.le_refl _)
 rw [List.take_length] at hlen
 have hj : (Lib.join p [46]).length ≤ 1000 := by
  have : (preL p).length = (Lib.join p [46]).length + 1 := by
   cases p with
   | nil => exact absurd rfl hp
   | cons x r => simp [preL]
  omega
 have hmap : (p.map str).map (·.data.toList) = p := by
  rw [List.map_map]
  conv => rhs; rw [← List.map_id p]
  apply List.map_congr_left
  intro s _
  simp [str]
 have h := Tryz.strings_Join b o cap (p.map str) ⟨#[46]⟩ w (fun j x hx => by
  rw [List.getElem?_map] at hx
  obtain ⟨s, hs, rfl⟩ := Option.map_eq_some_iff.1 hx
  have hjl : j < p.length := (List.getElem?_eq_some_iff.1 hs).1
  rw [hc j hjl, List.getD_eq_getElem?_getD, hs]; rfl) (World.block_lt_of_cell? _ _ (hc 0 (List.length_pos_iff.2 hp))) (by rw [List.length_map]; omega) (by rw [List.length_map]; exact hT.cap) (by rw [hmap]; show (Lib.join p [46]).length ≤ _; omega)
 rw [hmap, List.length_map] at h
 exact h
set_option maxRecDepth 100000 in
theorem ziy (v : Ver) (a : Option Addr) (cap : Nat) (w : World) (hv : Vw w) (hT : Txs w a cap v.pre) :
 Calls Tryz.prog 259 #[verV v.a v.b v.c a v.pre.length cap] w fun e w' => e = textE v ∧ Below w.heap.size w w' := by
 have hT1 := hT.gr ((Below.refl _ w).alloc (Nat.le_refl _) (verO v.a v.b v.c a v.pre.length cap))
 have HM := hid (pmay_any v a cap _ hT1)
 have hnew := heap_alloc_new w (verO v.a v.b v.c a v.pre.length cap)
 have hsz : (w.alloc (verO v.a v.b v.c a v.pre.length cap)).heap.size = w.heap.size + 1 := by simp
 have HT := hid hT1
 have HB0 := hid ((Below.refl _ w).alloc (Nat.le_refl _) (verO v.a v.b v.c a v.pre.length cap))
 have HV := hid hv
 clear hv
 rcases Bool.eq_false_or_eq_true (may v) with hm | hm
 rotate_left
 · have HE := hid (show textE v = .returned (.tuple #[.string (str []), .int .i64 70]) by unfold textE zap; rw [hm]; rfl)
   rw [zdo hm] at HM
   obtain ⟨na, nb, nc, p⟩ := v
   dsimp only at *
   clear hm hT hT1
   go_enter Tryz.func259, Tryz.ntmps259
   go_wp2_with (first
    | (refine wpList_load_row rfl 145 _ rfl w.heap.size rfl _ _ _ _ hnew Tryz.underlying145 rfl zcf ?_)
    | (go_at_call 151; refine HM.out.mono ?_; rintro e w2 ⟨rfl, hg2⟩))
   go_ret2
   exact ⟨by rw [HE.out]; rfl, HB0.out.trans (hg2.below.mono (by rw [hsz]; omega))⟩
 rw [zdp hm] at HM
 obtain ⟨h1, h2, h3, h8, h5⟩ := zcc hm
 have l1 := ziv h1
 have l2 := ziv h2
 have l3 := ziv h3
 have HN := hid (zdl v.a v.b v.c a v.pre.length cap)
 have HE := hid (show textE v = if (text v).length ≤ 128 then .returned (.tuple #[.string (str (text v)), .int .i64 0]) else .returned (.tuple #[.string (str []), .int .i64 70]) by unfold textE zap; rw [hm]; by_cases h : (text v).length ≤ 128 <;> simp [h])
 have HTX := hid (show text v = ((((Lib.decDigits v.a ++ [46]) ++ Lib.decDigits v.b) ++ [46]) ++ Lib.decDigits v.c) ++ preL v.pre by unfold text; simp)
 have HID := hid (fun s (hs : s ∈ v.pre) => (zcd (h5 s hs)).2)
 obtain ⟨i0, i1, i2⟩ := zdn v.a v.b v.c
 have w1 := wrap_u64 v.a (by unfold mx at h1; omega)
 have w2 := wrap_u64 v.b (by unfold mx at h2; omega)
 have w3 := wrap_u64 v.c (by unfold mx at h3; omega)
 obtain ⟨na, nb, nc, p⟩ := v
 dsimp only at *
 have A1 := hid (fun K l v w hv hK ho hl => ziw K na l v w hv hK ho hl h1)
 have A2 := hid (fun K l v w hv hK ho hl => ziw K nb l v w hv hK ho hl h2)
 have A3 := hid (fun K l v w hv hK ho hl => ziw K nc l v w hv hK ho hl h3)
 clear hm hT hT1 h1 h2 h3 h5
 go_enter Tryz.func259, Tryz.ntmps259
 go_wp2_with (first
  | (refine wpList_load_row rfl 145 _ rfl w.heap.size rfl _ _ _ _ hnew Tryz.underlying145 rfl zcf ?_)
  | (go_at_call 151; refine HM.out.mono ?_; rintro e w2 ⟨rfl, hg2⟩; refine Hid.out ?_))
 refine hid ?_
 have hr2 := (hg2.below.block w.heap.size (by rw [hsz]; omega)).trans hnew
 have HB2 := hid (HB0.out.trans (hg2.below.mono (by rw [hsz]; omega)))
 have HT2 := hid (HT.out.gr hg2.below)
 clear hg2 HM hnew HT HB0
 go_wp2_with (first
  | (refine wpList_load_row rfl 145 _ rfl w.heap.size rfl _ _ _ _ hr2 Tryz.underlying145 rfl zcf ?_)
  | (go_at_call 182; refine (HN.out _).mono ?_; rintro e w3 ⟨rfl, hg3⟩; refine Hid.out ?_))
 refine hid ?_
 have hr3 := (hg3.below.block w.heap.size (by have := (Array.getElem?_eq_some_iff.1 hr2).1; omega)).trans hr2
 have HB3 := hid (HB2.out.trans (hg3.below.mono HB2.out.size))
 have HT3 := hid (HT2.out.gr hg3.below)
 have HV3 := hid (HV.out.gr HB3.out)
 have hl3 : w.heap.size < w3.heap.size := (Array.getElem?_eq_some_iff.1 hr3).1
 clear hg3 hr2 HB2 HT2 HN
 have O0 := hid (OwnB.nil w3 w3.heap.size)
 go_wp2_with fail
 refine wp_loop_rounds 4 ?_
 rw [rounds_succ]
 go_wp2_with (go_at_call 278; refine (A1.out w3.heap.size [] _ w3 HV3.out (Nat.le_refl _) O0.out (by decide)).mono ?_; rintro e w4 ⟨v4, rfl, ho4, hb4⟩; refine Hid.out ?_)
 refine hid ?_
 have HB4 := hid hb4
 have hs4 := hb4.size
 rw [List.nil_append] at ho4
 have hl4 := l1.2
 have HL1 := hid l1
 clear hb4 A1 O0 l1
 obtain ⟨L1, hL1⟩ : ∃ L, L = Lib.decDigits na := ⟨_, rfl⟩
 rw [← hL1] at ho4 hl4
 have HX1 := hid hL1
 clear hL1
 have ho4' : w4.ownsRow w3.heap.size 5 1 v4 L1.length (Lib.byteCells L1) := ho4
 go_wp2_with fail
 rw [rounds_succ]
 go_wp2_with (at_builtin; refine Lib.wpList_append_own_string _ rfl _ _ 108 9 rfl w3.heap.size 5 _ Tryz.underlying108 Tryz.underlying9 (info_parts zir).choose_spec.1 (info_parts zir).choose_spec.2.1 (info_parts zir).choose_spec.2.2.1 (info_parts zir).choose_spec.2.2.2 _ _ _ rfl ho4' _ rfl ?c1 ?c2 ?c3 ?_)
 case c1 => unfold maxLen; show L1.length + 1 ≤ _; omega
 case c2 => show L1.length + 1 ≤ _; omega
 case c3 => exact hs4
 intro v5 w5 hown5 hg5 _
 have HB5 := hid (HB4.out.grown hg5 (by omega) (fun k hk => (ho4'.lt k hk).1) : Below w3.heap.size w3 w5)
 have ho5 : OwnB w5 w3.heap.size v5 (L1 ++ [46]) := zis hown5 rfl
 have HO5 := hid ho5
 clear ho4 ho4' hown5 hg5 ho5 HB4 hs4
 go_wp2_with (go_at_call 278; refine (A2.out w3.heap.size (L1 ++ [46]) _ w5 (HV3.out.gr HB5.out) HB5.out.size HO5.out (by simp; omega)).mono ?_; rintro e w6 ⟨v6, rfl, ho6, hb6⟩; refine Hid.out ?_)
 refine hid ?_
 have HB6 := hid (HB5.out.trans (hb6.mono (Nat.le_refl _)) : Below w3.heap.size w3 w6)
 have hs6 := HB6.out.size
 have hl6 : ((L1 ++ [46]) ++ Lib.decDigits nb).length ≤ 21 := by have := l2.2; simp; omega
 obtain ⟨L2, hL2⟩ : ∃ L, L = (L1 ++ [46]) ++ Lib.decDigits nb := ⟨_, rfl⟩
 rw [← hL2] at ho6 hl6
 have HX2 := hid hL2
 clear hb6 A2 HO5 HB5 hL2 l2
 have ho6' : w6.ownsRow w3.heap.size 5 1 v6 L2.length (Lib.byteCells L2) := ho6
 go_wp2_with fail
 rw [rounds_succ]
 go_wp2_with (at_builtin; refine Lib.wpList_append_own_string _ rfl _ _ 108 9 rfl w3.heap.size 5 _ Tryz.underlying108 Tryz.underlying9 (info_parts zir).choose_spec.1 (info_parts zir).choose_spec.2.1 (info_parts zir).choose_spec.2.2.1 (info_parts zir).choose_spec.2.2.2 _ _ _ rfl ho6' _ rfl ?c1 ?c2 ?c3 ?_)
 case c1 => unfold maxLen; show L2.length + 1 ≤ _; omega
 case c2 => show L2.length + 1 ≤ _; omega
 case c3 => exact hs6
 intro v7 w7 hown7 hg7 _
 have HB7 := hid (HB6.out.grown hg7 (by omega) (fun k hk => (ho6'.lt k hk).1) : Below w3.heap.size w3 w7)
 have ho7 : OwnB w7 w3.heap.size v7 (L2 ++ [46]) := zis hown7 rfl
 have HO7 := hid ho7
 clear ho6 ho6' hown7 hg7 ho7 HB6 hs6
 go_wp2_with (go_at_call 278; refine (A3.out w3.heap.size (L2 ++ [46]) _ w7 (HV3.out.gr HB7.out) HB7.out.size HO7.out (by simp; omega)).mono ?_; rintro e w8 ⟨v8, rfl, ho8, hb8⟩; refine Hid.out ?_)
 refine hid ?_
 have HB8 := hid (HB7.out.trans (hb8.mono (Nat.le_refl _)) : Below w3.heap.size w3 w8)
 have hs8 := HB8.out.size
 have hl8 : ((L2 ++ [46]) ++ Lib.decDigits nc).length ≤ 32 := by have := l3.2; simp; omega
 have hp8 : 0 < ((L2 ++ [46]) ++ Lib.decDigits nc).length := by simp; omega
 obtain ⟨L3, hL3⟩ : ∃ L, L = (L2 ++ [46]) ++ Lib.decDigits nc := ⟨_, rfl⟩
 rw [← hL3] at ho8 hl8 hp8
 have HX3 := hid hL3
 clear hb8 A3 HO7 HB7 hL3 l3 hl6 hl4
 have hr8 := (HB8.out.block w.heap.size hl3).trans hr3
 have HT8 := hid (HT3.out.gr HB8.out)
 have HTXT := hid (show text ⟨na, nb, nc, p⟩ = L3 ++ preL p by rw [HTX.out, HX3.out, HX2.out, HX1.out])
 obtain ⟨q0, q1, q2, q3⟩ := zch hr8
 have ho8' : w8.ownsRow w3.heap.size 5 1 v8 L3.length (Lib.byteCells L3) := ho8
 clear HX1 HX2 HX3 HTX hr3 i0 i1 i2 w1 w2 q0 q1 q2
 by_cases hp : p = []
 · subst hp
   have HTT := hid (show text ⟨na, nb, nc, []⟩ = L3 by rw [HTXT.out]; simp [preL])
   rw [HTT.out] at HE
   have hss := ziu ho8 hp8
   obtain ⟨g8, c8, rfl⟩ : ∃ g c, v8 = .slice (some ⟨g, 0, none⟩) L3.length c := by
    rcases ho8'.2 with ⟨_, h0⟩ | ⟨g, c, cur, h, _⟩
    · omega
    · exact ⟨g, c, h⟩
   have d8 : decide ((128 : Int) < (L3.length : Int)) = false := decide_eq_false (by omega)
   rw [if_pos (by omega)] at HE
   clear ho8 ho8'
   go_wp2_with fail
   rw [rounds_succ]
   go_wp2_with fail
   go_ret2
   exact ⟨by rw [HE.out]; rfl, HB3.out.trans (HB8.out.mono HB3.out.size)⟩
 · have hpl := List.length_pos_iff.2 hp
   have d1 : decide (0 < p.length) = true := decide_eq_true hpl
   have HJ := hid (fun w' (h : Txs w' a cap p) => zix p a cap w' h HID.out hp h8)
   have HPP := hid (show preL p = [45] ++ Lib.join p [46] by cases p with | nil => exact absurd rfl hp | cons x r => rfl)
   have hjl : (Lib.join p [46]).length ≤ 136 := by
    have h1 := zcb p 16 HID.out p.length (Nat.le_refl _)
    rw [List.take_length, HPP.out] at h1
    simp at h1
    omega
   generalize Lib.join p [46] = J at *
   clear hp hpl
   go_wp2_with fail
   rw [rounds_succ]
   go_wp2_with (at_builtin; refine Lib.wpList_append_own_string _ rfl _ _ 108 9 rfl w3.heap.size 5 _ Tryz.underlying108 Tryz.underlying9 (info_parts zir).choose_spec.1 (info_parts zir).choose_spec.2.1 (info_parts zir).choose_spec.2.2.1 (info_parts zir).choose_spec.2.2.2 _ _ _ rfl ho8' _ rfl ?c1 ?c2 ?c3 ?_)
   case c1 => unfold maxLen; show L3.length + 1 ≤ _; omega
   case c2 => show L3.length + 1 ≤ _; omega
   case c3 => exact hs8
   intro v9 w9 hown9 hg9 _
   have HB9 := hid (HB8.out.grown hg9 (by omega) (fun k hk => (ho8'.lt k hk).1) : Below w3.heap.size w3 w9)
   have ho9 : OwnB w9 w3.heap.size v9 (L3 ++ [45]) := zis hown9 rfl
   have hr9 := (HB9.out.block w.heap.size hl3).trans ((HB8.out.block w.heap.size hl3).symm.trans hr8)
   have hs9 := HB9.out.size
   have HT9 := hid (HT3.out.gr HB9.out)
   obtain ⟨q0, q1, q2, q3⟩ := zch hr9
   have HO9 := hid ho9
   clear ho8 ho8' hown9 hg9 HB8 hr8 hs8 HT8 q0 q1 q2 ho9
   go_wp2_with fail
   refine (HJ.out w9 HT9.out).mono ?_
   rintro e wj ⟨rfl, hbj⟩
   refine Hid.out ?_
   refine hid ?_
   have HBJ := hid (HB9.out.trans (hbj.mono hs9) : Below w3.heap.size w3 wj)
   have hoj := HO9.out.keep hbj
   have hsj := HBJ.out.size
   have hsJ := zbm J
   have hoj' : wj.ownsRow w3.heap.size 5 1 v9 (L3 ++ [45]).length (Lib.byteCells (L3 ++ [45])) := hoj
   have hl9 : (L3 ++ [45]).length ≤ 33 := by simp; omega
   have hp9 : 0 < (L3 ++ [45]).length := by simp
   clear hbj HB9 hs9 HO9 HT9 HJ hr9
   generalize hL9 : L3 ++ [45] = L9 at *
   go_wp2_with (at_builtin; refine Lib.wpList_append_own_string _ rfl _ _ 108 9 rfl w3.heap.size 5 _ Tryz.underlying108 Tryz.underlying9 (info_parts zir).choose_spec.1 (info_parts zir).choose_spec.2.1 (info_parts zir).choose_spec.2.2.1 (info_parts zir).choose_spec.2.2.2 _ _ _ rfl hoj' _ rfl ?c1 ?c2 ?c3 ?_)
   case c1 => unfold maxLen; rw [hsJ]; omega
   case c2 => rw [hsJ]; omega
   case c3 => exact hsj
   intro vk wk hownk hgk _
   have HBK := hid (HBJ.out.grown hgk (by omega) (fun k hk => (hoj'.lt k hk).1) : Below w3.heap.size w3 wk)
   have hok : OwnB wk w3.heap.size vk (L9 ++ J) := by
    try rw [hsJ] at hownk
    have e : Lib.strCells (str J) = Lib.byteCells J := by rw [Lib.strCells_eq, zdq]
    rw [e] at hownk
    exact zis hownk rfl
   have HTK := hid (show text ⟨na, nb, nc, p⟩ = L9 ++ J by rw [HTXT.out, HPP.out, ← hL9]; simp)
   rw [HTK.out] at HE
   have hlk : (L9 ++ J).length ≤ 200 := by simp; omega
   have hpk : 0 < (L9 ++ J).length := by simp; omega
   clear hoj hoj' hownk hgk HBJ hsj HTXT hL9 HTK HPP
   generalize L9 ++ J = T at *
   have hok' : wk.ownsRow w3.heap.size 5 1 vk T.length (Lib.byteCells T) := hok
   obtain ⟨gk, ck, rfl⟩ : ∃ g c, vk = .slice (some ⟨g, 0, none⟩) T.length c := by
    rcases hok'.2 with ⟨_, h0⟩ | ⟨g, c, cur, h, _⟩
    · omega
    · exact ⟨g, c, h⟩
   have hcv := ziu hok hpk
   clear hok hok'
   by_cases h128 : T.length ≤ 128
   · have d9 : decide ((128 : Int) < (T.length : Int)) = false := decide_eq_false (by omega)
     rw [if_pos h128] at HE
     go_wp2_with fail
     go_ret2
     exact ⟨by rw [HE.out]; rfl, HB3.out.trans (HBK.out.mono HB3.out.size)⟩
   · have d9 : decide ((128 : Int) < (T.length : Int)) = true := decide_eq_true (by omega)
     rw [if_neg h128] at HE
     go_wp2_with fail
     go_ret2
     exact ⟨by rw [HE.out]; rfl, HB3.out.trans (HBK.out.mono HB3.out.size)⟩
end VerC
end
end Go.Proofs.YtfbegbmjmhnplaaGreatDoor
