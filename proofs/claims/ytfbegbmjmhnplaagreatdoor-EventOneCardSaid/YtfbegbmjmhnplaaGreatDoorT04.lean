/-
  What the proof of EvBoth stands on, part 4.
-/
import Derived.Test.YtfbegbmjmhnplaaGreatDoorT03
set_option linter.unusedSimpArgs false
set_option linter.unusedVariables false
set_option maxHeartbeats 16000000
namespace Go.Proofs.YtfbegbmjmhnplaaGreatDoor
open Go.Lib (hid)
section
open Go.RowKit
namespace VerC
open VerM StrC TextR
abbrev arrO (x y z : Int) : Obj := .cells #[.int .u32 x, .int .u32 y, .int .u32 z] 195
structure RdI (w wq : World) (x y z : B) (na nb nc : Int) : Prop where
 row : wq.heap[w.heap.size]? = some (verO 0 0 0 none 0 0)
 arr : wq.heap[w.heap.size + 1]? = some (arrO na nb nc)
 t0 : wq.cell? ⟨w.heap.size + 2, 0, none⟩ = some (.string (str x))
 t1 : wq.cell? ⟨w.heap.size + 2, 1, none⟩ = some (.string (str y))
 t2 : wq.cell? ⟨w.heap.size + 2, 2, none⟩ = some (.string (str z))
 below : Below w.heap.size w wq
theorem RdI.lt {w wq : World} {x y z : B} {na nb nc : Int} (h : RdI w wq x y z na nb nc) : w.heap.size + 2 < wq.heap.size := World.block_lt_of_cell? _ _ h.t0
theorem RdI.on {w wq w' : World} {x y z : B} {na nb nc : Int} (h : RdI w wq x y z na nb nc) (g : Below wq.heap.size wq w') : RdI w w' x y z na nb nc := by
 have hl := h.lt
 exact ⟨(g.block _ (by omega)).trans h.row, (g.block _ (by omega)).trans h.arr, by rw [g.cell (by exact hl)]; exact h.t0, by rw [g.cell (by exact hl)]; exact h.t1, by rw [g.cell (by exact hl)]; exact h.t2, h.below.trans (g.mono (by omega))⟩
theorem RdI.set0 {w wq : World} {x y z : B} {na nb nc : Int} (h : RdI w wq x y z na nb nc) (m : Int) : RdI w (wq.setCell ⟨w.heap.size + 1, 0, none⟩ (.int .u32 m)) x y z m nb nc := by
 refine ⟨(zcl 0 _ (by omega)).trans h.row, zck h.arr 0 _, ?_, ?_, ?_, h.below.setCell (by show w.heap.size ≤ w.heap.size + 1; omega) _⟩
 · rw [World.cell?_setCell_far _ _ _ _ (by show w.heap.size + 1 ≠ w.heap.size + 2; omega)]; exact h.t0
 · rw [World.cell?_setCell_far _ _ _ _ (by show w.heap.size + 1 ≠ w.heap.size + 2; omega)]; exact h.t1
 · rw [World.cell?_setCell_far _ _ _ _ (by show w.heap.size + 1 ≠ w.heap.size + 2; omega)]; exact h.t2
theorem RdI.set1 {w wq : World} {x y z : B} {na nb nc : Int} (h : RdI w wq x y z na nb nc) (m : Int) : RdI w (wq.setCell ⟨w.heap.size + 1, 1, none⟩ (.int .u32 m)) x y z na m nc := by
 refine ⟨(zcl 1 _ (by omega)).trans h.row, zck h.arr 1 _, ?_, ?_, ?_, h.below.setCell (by show w.heap.size ≤ w.heap.size + 1; omega) _⟩
 · rw [World.cell?_setCell_far _ _ _ _ (by show w.heap.size + 1 ≠ w.heap.size + 2; omega)]; exact h.t0
 · rw [World.cell?_setCell_far _ _ _ _ (by show w.heap.size + 1 ≠ w.heap.size + 2; omega)]; exact h.t1
 · rw [World.cell?_setCell_far _ _ _ _ (by show w.heap.size + 1 ≠ w.heap.size + 2; omega)]; exact h.t2
theorem RdI.set2 {w wq : World} {x y z : B} {na nb nc : Int} (h : RdI w wq x y z na nb nc) (m : Int) : RdI w (wq.setCell ⟨w.heap.size + 1, 2, none⟩ (.int .u32 m)) x y z na nb m := by
 refine ⟨(zcl 2 _ (by omega)).trans h.row, zck h.arr 2 _, ?_, ?_, ?_, h.below.setCell (by show w.heap.size ≤ w.heap.size + 1; omega) _⟩
 · rw [World.cell?_setCell_far _ _ _ _ (by show w.heap.size + 1 ≠ w.heap.size + 2; omega)]; exact h.t0
 · rw [World.cell?_setCell_far _ _ _ _ (by show w.heap.size + 1 ≠ w.heap.size + 2; omega)]; exact h.t1
 · rw [World.cell?_setCell_far _ _ _ _ (by show w.heap.size + 1 ≠ w.heap.size + 2; omega)]; exact h.t2
theorem zee {w : World} {g : Nat} {x y z : Int} (h : w.heap[g]? = some (arrO x y z)) : w.cell? ⟨g, 0, none⟩ = some (.int .u32 x) ∧ w.cell? ⟨g, 1, none⟩ = some (.int .u32 y) ∧ w.cell? ⟨g, 2, none⟩ = some (.int .u32 z) := by
 refine ⟨?_, ?_, ?_⟩ <;> simp [World.cell?, h]
theorem zef {w : World} {g : Nat} {x y z : Int} (h : w.heap[g]? = some (arrO x y z)) (i : Nat) : w.frozen? ⟨g, i, none⟩ = false := zcm h i
def IsText (w : World) (b : Nat) : Prop := ∃ cur fz, w.heap[b]? = some (.cells cur 9 fz)
theorem IsText.lt {w : World} {b : Nat} (h : IsText w b) : b < w.heap.size := by
 obtain ⟨cur, fz, h⟩ := h
 exact (Array.getElem?_eq_some_iff.1 h).1
theorem IsText.of {w w' : World} {b : Nat} (h : IsText w b) (e : w'.heap[b]? = w.heap[b]?) : IsText w' b := by
 obtain ⟨cur, fz, h⟩ := h
 exact ⟨cur, fz, e.trans h⟩
theorem IsText.below {w w' : World} {b : Nat} (h : IsText w b) (g : Below w.heap.size w w') : IsText w' b := h.of (g.block b h.lt)
def NewE (B : Nat) (w' : World) (e : Ending) : Prop := ∀ x y z a n cap o, e = .returned (.tuple #[verV x y z a n cap, o]) → (∀ b f, a = some ⟨b, f, none⟩ → B ≤ b ∧ IsText w' b) ∧ (a = none → n = 0 ∧ cap = 0)
theorem zeg {B : Nat} {w' : World} {x y z : Int} {a : Option Addr} {n cap : Nat} {o : Value} (hb : ∀ b f, a = some ⟨b, f, none⟩ → B ≤ b ∧ IsText w' b) (hn : a = none → n = 0 ∧ cap = 0) : NewE B w' (.returned (.tuple #[verV x y z a n cap, o])) := fun _ _ _ _ _ _ _ h => by
 unfold verV at h
 simp at h
 obtain ⟨⟨_, _, _, rfl, rfl, rfl⟩, _⟩ := h
 exact ⟨hb, hn⟩
theorem zeh (B : Nat) (w' : World) {x : Value} : NewE B w' (.returned (.tuple #[verV 0 0 0 none 0 0, x])) := zeg (fun b f e => by cases e) fun _ => ⟨rfl, rfl⟩
set_option maxRecDepth 100000 in
theorem zei (l : B) (w : World) (hv : Vw w) :
 Calls Tryz.prog 118 #[.string (str l)] w fun e w' => (ReadE l w' e ∧ Below w.heap.size w w') ∧ NewE w.heap.size w' e := by
 have hs := zbm l
 have hnew := heap_alloc_new w (verO 0 0 0 none 0 0)
 have HB0 := hid ((Below.refl _ w).alloc (Nat.le_refl _) (verO 0 0 0 none 0 0))
 have HV := hid hv
 clear hv
 rcases Nat.lt_or_ge 128 l.length with hl | hl
 · have HNO := hid (zcp hl)
   have hd : decide (128 < (l.length : Int)) = true := decide_eq_true (by omega)
   clear hl
   go_enter Tryz.func118, Tryz.ntmps118
   go_wp2_with (refine wpList_store_row rfl 145 _ _ rfl w.heap.size #[.int .u32 0, .int .u32 0, .int .u32 0, .slice none 0 0] rfl rfl _ _ hnew zcf rfl (zcg _ _ _ _ _ _) ?_)
   refine bodyPost_ret (zcj rfl _ _ w.heap.size _ #[.int .u32 0, .int .u32 0, .int .u32 0, .slice none 0 0] _ _ rfl (setRow_heap _ _ _ _ _ _ hnew) Tryz.underlying145 rfl zcf) rfl ?_
   exact ⟨⟨zcn HNO.out, below_setRow HB0.out (Nat.le_refl _) _⟩, zeh _ _⟩
 have hd : decide (128 < (l.length : Int)) = false := decide_eq_false (by omega)
 have hsz1 : (w.alloc (verO 0 0 0 none 0 0)).heap.size = w.heap.size + 1 := by simp
 have HHL := hid (zcs l)
 have HCUT := hid (fun w hv => zdt l w hv hl)
 have HL := hid hl
 have HNEW := hid hnew
 clear hl hnew
 go_enter Tryz.func118, Tryz.ntmps118
 go_wp2_with (go_at_call 126; refine (HCUT.out _ (HV.out.gr HB0.out)).mono ?_; rintro e w1 ⟨rfl, n, rfl⟩)
 have hsz2 : ((w.alloc (verO 0 0 0 none 0 0)).drewN n).heap.size = w.heap.size + 1 := hsz1
 have hr1 : (((w.alloc (verO 0 0 0 none 0 0)).drewN n).alloc (.cells #[.int .u32 0, .int .u32 0, .int .u32 0] 195)).heap[w.heap.size]? = some (verO 0 0 0 none 0 0) := (heap_alloc_old _ _ (r := w.heap.size) (by rw [hsz2]; omega)).trans HNEW.out
 have hn1 := heap_alloc_new ((w.alloc (verO 0 0 0 none 0 0)).drewN n) (.cells #[.int .u32 0, .int .u32 0, .int .u32 0] 195)
 rw [hsz2] at hn1
 have HB1 : Hid (Below w.heap.size w (((w.alloc (verO 0 0 0 none 0 0)).drewN n).alloc (.cells #[.int .u32 0, .int .u32 0, .int .u32 0] 195))) := hid ((below_drewN HB0.out n).alloc (by rw [hsz2]; omega) _)
 have hsz3 : (((w.alloc (verO 0 0 0 none 0 0)).drewN n).alloc (.cells #[.int .u32 0, .int .u32 0, .int .u32 0] 195)).heap.size = w.heap.size + 2 := by simp only [go_sem, World.alloc]; simp
 generalize ((w.alloc (verO 0 0 0 none 0 0)).drewN n).alloc (.cells #[.int .u32 0, .int .u32 0, .int .u32 0] 195) = w1 at *
 have HSP := hid (zdw (head l) w1 (HV.out.gr HB1.out) (by have := HHL.out; have := HL.out; omega))
 have HTS := hid (zdx (head l) w1 (by have := HHL.out; have := HL.out; omega))
 have HPM := hid (zae 46 (head l))
 have HRP := hid (fun h => zcq HL.out h)
 have HR3 := hid (fun x y z h => zcr (x := x) (y := y) (z := z) HL.out h)
 have hr2 := (heap_alloc_old w1 (.cells ((pieces 46 (head l)).map (fun s => Value.string (str s))).toArray 9) (r := w.heap.size) (by rw [hsz3]; omega)).trans hr1
 have hn2 := (heap_alloc_old w1 (.cells ((pieces 46 (head l)).map (fun s => Value.string (str s))).toArray 9) (r := w.heap.size + 1) (by rw [hsz3]; omega)).trans hn1
 have HB2 := hid (HB1.out.alloc (by rw [hsz3]; omega) (.cells ((pieces 46 (head l)).map (fun s => Value.string (str s))).toArray 9))
 have hsz4 : (w1.alloc (.cells ((pieces 46 (head l)).map (fun s => Value.string (str s))).toArray 9)).heap.size = w.heap.size + 3 := by simp only [go_sem, World.alloc]; simp; simpa using hsz3
 clear HNEW hsz1 hsz2 HCUT HB0 hr1 hn1 HB1
 refine HSP.out.mono ?_
 rintro e w' ⟨rfl, rfl⟩
 generalize w1.alloc (.cells ((pieces 46 (head l)).map (fun s => Value.string (str s))).toArray 9) = w2 at *
 clear HSP
 by_cases hp : (pieces 46 (head l)).length = 3
 rotate_left
 · have HNO := hid (HRP.out hp)
   have dn : (((pieces 46 (head l)).length : Int) != 3) = true := by rw [bne_iff_ne]; omega
   clear hp
   go_wp2_with (refine wpList_store_row rfl 145 _ _ rfl w.heap.size #[.int .u32 0, .int .u32 0, .int .u32 0, .slice none 0 0] rfl rfl _ _ hr2 zcf rfl (zcg _ _ _ _ _ _) ?_)
   refine bodyPost_ret (zcj rfl _ _ w.heap.size _ #[.int .u32 0, .int .u32 0, .int .u32 0, .slice none 0 0] _ _ rfl (setRow_heap _ _ _ _ _ _ hr2) Tryz.underlying145 rfl zcf) rfl ?_
   exact ⟨⟨zcn HNO.out, below_setRow HB2.out (Nat.le_refl _) _⟩, zeh _ _⟩
 obtain ⟨x, y, z, hxyz⟩ : ∃ x y z, pieces 46 (head l) = [x, y, z] := by
  match pieces 46 (head l), hp with
  | [x, y, z], _ => exact ⟨x, y, z, rfl⟩
 have HRV := hid ((HR3.out x y z hxyz).trans (readV_p x y z (ids l)))
 have hlx := fun s (hs : s ∈ [x, y, z]) => HPM.out s (by rw [hxyz]; exact hs)
 have hhl := HHL.out
 have hll := HL.out
 have NX := hid (fun w hv => zdz x w hv (by have := hlx x (by simp); omega))
 have NY := hid (fun w hv => zdz y w hv (by have := hlx y (by simp); omega))
 have NZ := hid (fun w hv => zdz z w hv (by have := hlx z (by simp); omega))
 have hT2 := HTS.out
 rw [hxyz] at hT2 ⊢
 clear HPM HRP HR3 hp hxyz hlx HTS
 have HT2 := hid hT2
 obtain ⟨b2, o2, hbo, hcl⟩ := hT2.cells (by simp)
 simp only [Option.some.injEq, Addr.mk.injEq, and_true] at hbo
 obtain ⟨rfl, rfl⟩ := hbo
 rw [hsz3] at hcl HT2 ⊢
 have e0 : w2.cell? ⟨w.heap.size + 2, 0, none⟩ = some (.string (str x)) := hcl 0 (by simp)
 have e1 : w2.cell? ⟨w.heap.size + 2, 1, none⟩ = some (.string (str y)) := hcl 1 (by simp)
 have e2 : w2.cell? ⟨w.heap.size + 2, 2, none⟩ = some (.string (str z)) := hcl 2 (by simp)
 have HI2 : Hid (RdI w w2 x y z 0 0 0) := hid ⟨hr2, hn2, e0, e1, e2, HB2.out⟩
 have hno : ∀ s, (pnum s).isSome = false → pnum s = none := fun s h => by cases hs : pnum s with | none => rfl | some n => rw [hs] at h; cases h
 have hr2' := hr2
 clear hcl hT2 hhl hll hr2 hn2 e1 e2 HB2
 generalize hbx : (pnum x).isSome = bx at *
 generalize hby : (pnum y).isSome = bY at *
 generalize hbz : (pnum z).isSome = bz at *
 go_wp2_with fail
 refine wp_loop_rounds 4 ?_
 rw [rounds_succ]
 go_wp2_with (go_at_call 149; refine (NX.out _ (HV.out.gr HI2.out.below)).mono ?_; rintro e w3 ⟨⟨xa, rfl, hxa⟩, hb3⟩; refine Hid.out ?_)
 refine hid ?_
 have HI3 := hid (HI2.out.on hb3)
 have f0 := zef HI3.out.arr 0
 have q0 := (zee HI3.out.arr).1
 have hr3 := (zcl (w := w3) (g := w.heap.size + 1) (k := w.heap.size) 0 (.int .u32 xa) (by omega)).trans HI3.out.row
 have HX1 := hid (HI3.out.set0 xa)
 clear HI2 hb3 NX e0
 cases bx with
 | false =>
   have HNO := hid (show readB l = none by rw [HRV.out, hno x hbx])
   clear hbx hby hbz hno
   go_wp2_with (refine wpList_store_row rfl 145 _ _ rfl w.heap.size #[.int .u32 0, .int .u32 0, .int .u32 0, .slice none 0 0] rfl rfl _ _ hr3 zcf rfl (zcg _ _ _ _ _ _) ?_)
   refine bodyPost_ret (zcj rfl _ _ w.heap.size _ #[.int .u32 0, .int .u32 0, .int .u32 0, .slice none 0 0] _ _ rfl (setRow_heap _ _ _ _ _ _ hr3) Tryz.underlying145 rfl zcf) rfl ?_
   exact ⟨⟨zcn HNO.out, below_setRow HX1.out.below (Nat.le_refl _) _⟩, zeh _ _⟩
 | true =>
 have t1 := HX1.out.t1
 go_wp2_with fail
 rw [rounds_succ]
 go_wp2_with (go_at_call 149; refine (NY.out _ (HV.out.gr HX1.out.below)).mono ?_; rintro e w4 ⟨⟨xb, rfl, hxb⟩, hb4⟩; refine Hid.out ?_)
 refine hid ?_
 have HI4 := hid (HX1.out.on hb4)
 have f1 := zef HI4.out.arr 1
 have q1 := (zee HI4.out.arr).2.1
 have hr4 := (zcl (w := w4) (g := w.heap.size + 1) (k := w.heap.size) 1 (.int .u32 xb) (by omega)).trans HI4.out.row
 have HX2 := hid (HI4.out.set1 xb)
 clear HX1 hb4 NY t1
 cases bY with
 | false =>
   have HNO := hid (show readB l = none by rw [HRV.out, hno y hby]; split <;> simp_all)
   clear hbx hby hbz hno
   go_wp2_with (refine wpList_store_row rfl 145 _ _ rfl w.heap.size #[.int .u32 0, .int .u32 0, .int .u32 0, .slice none 0 0] rfl rfl _ _ hr4 zcf rfl (zcg _ _ _ _ _ _) ?_)
   refine bodyPost_ret (zcj rfl _ _ w.heap.size _ #[.int .u32 0, .int .u32 0, .int .u32 0, .slice none 0 0] _ _ rfl (setRow_heap _ _ _ _ _ _ hr4) Tryz.underlying145 rfl zcf) rfl ?_
   exact ⟨⟨zcn HNO.out, below_setRow HX2.out.below (Nat.le_refl _) _⟩, zeh _ _⟩
 | true =>
 have t2 := HX2.out.t2
 go_wp2_with fail
 rw [rounds_succ]
 go_wp2_with (go_at_call 149; refine (NZ.out _ (HV.out.gr HX2.out.below)).mono ?_; rintro e w5 ⟨⟨xc, rfl, hxc⟩, hb5⟩; refine Hid.out ?_)
 refine hid ?_
 have HI5 := hid (HX2.out.on hb5)
 have f2 := zef HI5.out.arr 2
 have q2 := (zee HI5.out.arr).2.2
 have hr5 := (zcl (w := w5) (g := w.heap.size + 1) (k := w.heap.size) 2 (.int .u32 xc) (by omega)).trans HI5.out.row
 have HX3 := hid (HI5.out.set2 xc)
 clear HX2 hb5 NZ t2
 cases bz with
 | false =>
   have HNO := hid (show readB l = none by rw [HRV.out, hno z hbz]; split <;> simp_all)
   clear hbx hby hbz hno
   go_wp2_with (refine wpList_store_row rfl 145 _ _ rfl w.heap.size #[.int .u32 0, .int .u32 0, .int .u32 0, .slice none 0 0] rfl rfl _ _ hr5 zcf rfl (zcg _ _ _ _ _ _) ?_)
   refine bodyPost_ret (zcj rfl _ _ w.heap.size _ #[.int .u32 0, .int .u32 0, .int .u32 0, .slice none 0 0] _ _ rfl (setRow_heap _ _ _ _ _ _ hr5) Tryz.underlying145 rfl zcf) rfl ?_
   exact ⟨⟨zcn HNO.out, below_setRow HX3.out.below (Nat.le_refl _) _⟩, zeh _ _⟩
 | true =>
 obtain ⟨na, hna⟩ := Option.isSome_iff_exists.1 hbx
 obtain ⟨nb, hnb⟩ := Option.isSome_iff_exists.1 hby
 obtain ⟨nc, hnc⟩ := Option.isSome_iff_exists.1 hbz
 have ea := hxa na hna
 have eb := hxb nb hnb
 have ec := hxc nc hnc
 subst ea eb ec
 have HVV := hid (show readB l = if may ⟨na, nb, nc, ids l⟩ then some ⟨na, nb, nc, ids l⟩ else none by rw [HRV.out, hna, hnb, hnc])
 clear hna hnb hnc hxa hxb hxc hbx hby hbz hno HRV hr5 hr4 hr3 hr2' q0 q1
 have ha6 := HX3.out.arr
 go_wp2_with fail
 rw [rounds_succ]
 go_wp2_with (refine wpList_load_row rfl 195 _ rfl (w.heap.size + 1) rfl _ _ _ _ ha6 Tryz.underlying195 rfl zdk ?_)
 refine (zdm _ _ _ _).mono ?_
 rintro e w6 ⟨rfl, hg6⟩
 refine Hid.out ?_
 refine hid ?_
 have hr6 := (hg6.below.block w.heap.size (by have := HX3.out.lt; omega)).trans HX3.out.row
 have HB6 := hid (HX3.out.below.trans (hg6.below.mono HX3.out.below.size))
 have hw6 : w.heap.size < w6.heap.size := (Array.getElem?_eq_some_iff.1 hr6).1
 clear hg6 HX3 HI5 ha6 q2 f0 f1 f2
 generalize w5.setCell ⟨w.heap.size + 1, 2, none⟩ (.int .u32 nc) = w5x at *
 have HN6 : Hid (w.heap.size ≤ w6.heap.size + 1) := hid (by omega)
 have hn6 := heap_alloc_new w6 (verO na nb nc none 0 0)
 have hr7 := (heap_alloc_old w6 (verO na nb nc none 0 0) (r := w.heap.size) hw6).trans hr6
 have HB7 := hid (HB6.out.alloc HB6.out.size (verO na nb nc none 0 0))
 have hs7 : (w6.alloc (verO na nb nc none 0 0)).heap.size = w6.heap.size + 1 := by simp
 have HD := hid (fun h => zds (l := l) h)
 have HDL : Hid ((l.drop ((head l).length + 1)).length ≤ 1000000) := hid (by have := HL.out; rw [List.length_drop]; omega)
 clear hr6 HB6 HL HHL
 generalize l.drop ((head l).length + 1) = beh at *
 generalize head l = hd at *
 generalize ids l = P at *
 by_cases hP : P = []
 · subst hP
   go_wp2_with fail
   generalize w6.alloc (verO na nb nc none 0 0) = W9 at *
   have HT9 : Hid (Txs W9 none 0 []) := hid (Txs.nil _ _ _)
   have hv9 := hn6
   have hr9 := hr7
   have HB9 := HB7
   have hs9 : w6.heap.size < W9.heap.size := by omega
   clear hn6 hr7 HB7 hs7 HD
   rcases Bool.eq_false_or_eq_true (may ⟨na, nb, nc, []⟩) with hm | hm
   · have HSO := hid (show readB l = some ⟨na, nb, nc, []⟩ by rw [HVV.out, hm]; rfl)
     have HM := hid (pmay_any ⟨na, nb, nc, []⟩ none 0 W9 HT9.out)
     rw [zdp hm] at HM
     simp only [List.length_nil] at HM
     clear hm HVV
     refine HM.out.mono ?_
     rintro e w10 ⟨rfl, hg10⟩
     refine Hid.out ?_
     refine hid ?_
     have hv10 := (hg10.below.block w6.heap.size (by omega)).trans hv9
     have hr10 := (hg10.below.block w.heap.size (by omega)).trans hr9
     have HT10 := hid (HT9.out.gr hg10.below)
     have HB10 := hid (HB9.out.trans (hg10.below.mono HB9.out.size))
     clear hg10 hv9 hr9 HT9 HB9 HM
     go_wp2_with (first
      | (refine wpList_load_row rfl 145 _ rfl w6.heap.size rfl _ _ _ _ hv10 Tryz.underlying145 rfl zcf ?_)
      | (refine wpList_store_row rfl 145 _ _ rfl w.heap.size #[.int .u32 na, .int .u32 nb, .int .u32 nc, .slice none 0 0] rfl rfl _ _ hr10 zcf rfl (zcg _ _ _ _ _ _) ?_))
     refine bodyPost_ret (zcj rfl _ _ w.heap.size _ #[.int .u32 na, .int .u32 nb, .int .u32 nc, .slice none 0 0] _ _ rfl (setRow_heap _ _ _ _ _ _ hr10) Tryz.underlying145 rfl zcf) rfl ?_
     exact ⟨⟨zco (v := ⟨na, nb, nc, []⟩) HSO.out (HT10.out.setRow hr10 _), below_setRow HB10.out (Nat.le_refl _) _⟩, zeg (fun b o h => by cases h) fun _ => ⟨rfl, rfl⟩⟩
   · have HNO := hid (show readB l = none by rw [HVV.out, hm]; rfl)
     have HM := hid (pmay_any ⟨na, nb, nc, []⟩ none 0 W9 HT9.out)
     rw [zdo hm] at HM
     simp only [List.length_nil] at HM
     clear hm HVV
     refine HM.out.mono ?_
     rintro e w10 ⟨rfl, hg10⟩
     refine Hid.out ?_
     refine hid ?_
     have hr10 := (hg10.below.block w.heap.size (by omega)).trans hr9
     have HB10 := hid (HB9.out.trans (hg10.below.mono HB9.out.size))
     clear hg10 hv9 hr9 HT9 HB9 HM
     go_wp2_with (first
      | (refine wpList_store_row rfl 145 _ _ rfl w.heap.size #[.int .u32 0, .int .u32 0, .int .u32 0, .slice none 0 0] rfl rfl _ _ hr10 zcf rfl (zcg _ _ _ _ _ _) ?_))
     refine bodyPost_ret (zcj rfl _ _ w.heap.size _ #[.int .u32 0, .int .u32 0, .int .u32 0, .slice none 0 0] _ _ rfl (setRow_heap _ _ _ _ _ _ hr10) Tryz.underlying145 rfl zcf) rfl ?_
     exact ⟨⟨zcn HNO.out, below_setRow HB10.out (Nat.le_refl _) _⟩, zeh _ _⟩
 · have HSP := hid (zdw beh (w6.alloc (verO na nb nc none 0 0)) (HV.out.gr HB7.out) HDL.out)
   have HTS := hid (zdx beh (w6.alloc (verO na nb nc none 0 0)) HDL.out)
   rw [HD.out hP] at HSP HTS
   have hdP : decide (P = []) = false := decide_eq_false hP
   go_wp2_with fail
   generalize w6.alloc (verO na nb nc none 0 0) = W7 at *
   have hr8 := (heap_alloc_old W7 (.cells (P.map (fun s => Value.string (str s))).toArray 9) (r := w.heap.size) (by omega)).trans hr7
   have hv8 := (heap_alloc_old W7 (.cells (P.map (fun s => Value.string (str s))).toArray 9) (r := w6.heap.size) (by omega)).trans hn6
   have HB8 := hid (HB7.out.alloc HB7.out.size (.cells (P.map (fun s => Value.string (str s))).toArray 9))
   have hx8 : IsText (W7.alloc (.cells (P.map (fun s => Value.string (str s))).toArray 9)) (w6.heap.size + 1) := by rw [← hs7]; exact ⟨_, _, heap_alloc_new _ _⟩
   have hs8 : W7.heap.size < (W7.alloc (.cells (P.map (fun s => Value.string (str s))).toArray 9)).heap.size := by simp
   refine HSP.out.mono ?_
   rintro e w8 ⟨rfl, rfl⟩
   refine Hid.out ?_
   refine hid ?_
   generalize W7.alloc (.cells (P.map (fun s => Value.string (str s))).toArray 9) = W8 at *
   have HTS := hid HTS.out
   rw [hs7] at HTS ⊢
   have hf8 := zcm hv8 3
   obtain ⟨q0, q1, q2, q3⟩ := zch hv8
   have hv9 : (W8.setCell ⟨w6.heap.size, 3, none⟩ (.slice (some ⟨w6.heap.size + 1, 0, none⟩) P.length P.length)).heap[w6.heap.size]? = some (verO na nb nc (some ⟨w6.heap.size + 1, 0, none⟩) P.length P.length) := zck hv8 3 _
   have hr9 := (zcl (w := W8) (g := w6.heap.size) (k := w.heap.size) 3 (.slice (some ⟨w6.heap.size + 1, 0, none⟩) P.length P.length) (by omega)).trans hr8
   have hx9 : IsText (W8.setCell ⟨w6.heap.size, 3, none⟩ (.slice (some ⟨w6.heap.size + 1, 0, none⟩) P.length P.length)) (w6.heap.size + 1) := hx8.of (zcl 3 _ (by omega))
   have HX9 := hid hx9
   clear hx8 hx9
   have HB9 : Hid (Below w.heap.size w (W8.setCell ⟨w6.heap.size, 3, none⟩ (.slice (some ⟨w6.heap.size + 1, 0, none⟩) P.length P.length))) := hid (HB8.out.setCell (show w.heap.size ≤ (⟨w6.heap.size, 3, none⟩ : Addr).block by show w.heap.size ≤ w6.heap.size; omega) _)
   have HT9 : Hid (Txs (W8.setCell ⟨w6.heap.size, 3, none⟩ (.slice (some ⟨w6.heap.size + 1, 0, none⟩) P.length P.length)) (some ⟨w6.heap.size + 1, 0, none⟩) P.length P) := hid ⟨HTS.out.cap, HTS.out.short, HTS.out.few, fun h0 => by
    obtain ⟨b, o, e, hcell⟩ := HTS.out.cells h0
    refine ⟨b, o, e, fun i hi => ?_⟩
    have hci := hcell i hi
    have hbc : b ≠ w6.heap.size := fun e => by rw [e] at hci; exact zci hv8 _ _ hci
    rw [World.cell?_setCell_far _ _ _ _ (Ne.symm hbc)]
    exact hci⟩
   clear HTS HSP hr8 HB8 hr7 HB7 HD
   go_wp2_with (refine wpList_load_row rfl 145 _ rfl w6.heap.size rfl _ _ _ _ hv9 Tryz.underlying145 rfl zcf ?_)
   have hs9 : w6.heap.size < (W8.setCell ⟨w6.heap.size, 3, none⟩ (.slice (some ⟨w6.heap.size + 1, 0, none⟩) P.length P.length)).heap.size := (Array.getElem?_eq_some_iff.1 hv9).1
   clear hf8 q0 q1 q2 q3 hv8
   generalize W8.setCell ⟨w6.heap.size, 3, none⟩ (.slice (some ⟨w6.heap.size + 1, 0, none⟩) P.length P.length) = W9 at *
   rcases Bool.eq_false_or_eq_true (may ⟨na, nb, nc, P⟩) with hm | hm
   · have HSO := hid (show readB l = some ⟨na, nb, nc, P⟩ by rw [HVV.out, hm]; rfl)
     have HM := hid (pmay_any ⟨na, nb, nc, P⟩ (some ⟨w6.heap.size + 1, 0, none⟩) P.length W9 HT9.out)
     rw [zdp hm] at HM
     dsimp only at HM
     clear hm HVV
     refine HM.out.mono ?_
     rintro e w10 ⟨rfl, hg10⟩
     refine Hid.out ?_
     refine hid ?_
     have hv10 := (hg10.below.block w6.heap.size (by omega)).trans hv9
     have hr10 := (hg10.below.block w.heap.size (by omega)).trans hr9
     have HT10 := hid (HT9.out.gr hg10.below)
     have HX10 := hid (HX9.out.below hg10.below)
     have HB10 := hid (HB9.out.trans (hg10.below.mono HB9.out.size))
     clear hg10 hv9 hr9 HT9 HB9 HM
     go_wp2_with (first
      | (refine wpList_load_row rfl 145 _ rfl w6.heap.size rfl _ _ _ _ hv10 Tryz.underlying145 rfl zcf ?_)
      | (refine wpList_store_row rfl 145 _ _ rfl w.heap.size #[.int .u32 na, .int .u32 nb, .int .u32 nc, .slice (some ⟨w6.heap.size + 1, 0, none⟩) P.length P.length] rfl rfl _ _ hr10 zcf rfl (zcg _ _ _ _ _ _) ?_))
     refine bodyPost_ret (zcj rfl _ _ w.heap.size _ #[.int .u32 na, .int .u32 nb, .int .u32 nc, .slice (some ⟨w6.heap.size + 1, 0, none⟩) P.length P.length] _ _ rfl (setRow_heap _ _ _ _ _ _ hr10) Tryz.underlying145 rfl zcf) rfl ?_
     exact ⟨⟨zco (v := ⟨na, nb, nc, P⟩) HSO.out (HT10.out.setRow hr10 _), below_setRow HB10.out (Nat.le_refl _) _⟩, zeg (fun b o h => by cases h; exact ⟨HN6.out, HX10.out.of (Go.setRow_other _ _ _ _ (by omega))⟩) fun h => by cases h⟩
   · have HNO := hid (show readB l = none by rw [HVV.out, hm]; rfl)
     have HM := hid (pmay_any ⟨na, nb, nc, P⟩ (some ⟨w6.heap.size + 1, 0, none⟩) P.length W9 HT9.out)
     rw [zdo hm] at HM
     dsimp only at HM
     clear hm HVV
     refine HM.out.mono ?_
     rintro e w10 ⟨rfl, hg10⟩
     refine Hid.out ?_
     refine hid ?_
     have hr10 := (hg10.below.block w.heap.size (by omega)).trans hr9
     have HB10 := hid (HB9.out.trans (hg10.below.mono HB9.out.size))
     clear hg10 hv9 hr9 HT9 HB9 HM
     go_wp2_with (first
      | (refine wpList_store_row rfl 145 _ _ rfl w.heap.size #[.int .u32 0, .int .u32 0, .int .u32 0, .slice none 0 0] rfl rfl _ _ hr10 zcf rfl (zcg _ _ _ _ _ _) ?_))
     refine bodyPost_ret (zcj rfl _ _ w.heap.size _ #[.int .u32 0, .int .u32 0, .int .u32 0, .slice none 0 0] _ _ rfl (setRow_heap _ _ _ _ _ _ hr10) Tryz.underlying145 rfl zcf) rfl ?_
     exact ⟨⟨zcn HNO.out, below_setRow HB10.out (Nat.le_refl _) _⟩, zeh _ _⟩
theorem zej (l : B) (w : World) (hv : Vw w) :
 Calls Tryz.prog 118 #[.string (str l)] w fun e w' => ReadE l w' e ∧ Below w.heap.size w w' := (zei l w hv).mono fun _ _ h => h.1
end VerC
end
end Go.Proofs.YtfbegbmjmhnplaaGreatDoor
