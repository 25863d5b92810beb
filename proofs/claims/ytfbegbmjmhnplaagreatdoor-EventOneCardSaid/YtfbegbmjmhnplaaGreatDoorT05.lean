/-
  What the proof of EvBoth stands on, part 5.
-/
import Derived.Deep.RegionHeld3
import Derived.Test.YtfbegbmjmhnplaaGreatDoorT04
set_option linter.unusedSimpArgs false
set_option linter.unusedVariables false
set_option maxHeartbeats 16000000
namespace Go.Proofs.YtfbegbmjmhnplaaGreatDoor
open Go.Lib (hid)
section
open Go.RowKit
namespace VerC
open VerM StrC TextR
theorem zek : ∀ a b : B, Lib.compareBytes a b = cmpB a b
 | [], [] => rfl
 | [], y :: r => by unfold Lib.compareBytes cmpB; simp
 | x :: l, [] => by unfold Lib.compareBytes cmpB; simp
 | x :: l, y :: r => by
   have ih := zek l r
   unfold Lib.compareBytes
   unfold cmpB at ih ⊢
   simp only [List.cons.injEq, List.cons_lt_cons_iff]
   by_cases h1 : x < y
   · have hne : x ≠ y := fun e => by subst e; exact absurd h1 (UInt8.lt_irrefl x)
     simp [h1, hne]
   · by_cases h2 : y < x
     · have hne : x ≠ y := fun e => by subst e; exact absurd h2 (UInt8.lt_irrefl x)
       simp [h1, h2, hne]
     · have he : x = y := UInt8.le_antisymm (UInt8.not_lt.1 h2) (UInt8.not_lt.1 h1)
       subst he
       simp only [UInt8.lt_irrefl, if_false, true_and, false_or]
       exact ih
theorem zel {a : B} (h : a ≠ []) : digs a = a.all dig := by unfold digs; simp [h]
theorem zem {a : B} (h : a ≠ []) : (kindP a = 1 ∧ digs a = true) ∨ (kindP a = 0 ∧ digs a = false) := by
 rw [zel h]; unfold kindP; cases a.all dig <;> simp
theorem zen {a b : B} (ha : a ≠ []) (hb : b ≠ []) : (kindP a = 1 ∧ kindP b = 0 ∧ ordI a b = -1) ∨ (kindP a = 0 ∧ kindP b = 1 ∧ ordI a b = 1) ∨ (kindP a = 1 ∧ kindP b = 1 ∧ a.length ≠ b.length ∧ ordI a b = Lib.compareInt a.length b.length) ∨
 (kindP a = 1 ∧ kindP b = 1 ∧ a.length = b.length ∧ ordI a b = Lib.compareBytes a b) ∨ (kindP a = 0 ∧ kindP b = 0 ∧ ordI a b = Lib.compareBytes a b) := by
 rw [zek, ordI_is]
 have hne : digs a ≠ digs b → a ≠ b := fun h e => h (by rw [e])
 rcases zem ha with ⟨h1, h2⟩ | ⟨h1, h2⟩ <;> rcases zem hb with ⟨h3, h4⟩ | ⟨h3, h4⟩
 · by_cases hl : a.length = b.length
   · right; right; right; left
     refine ⟨h1, h3, hl, ?_⟩
     unfold cmpB
     simp [h2, h4, hl]
   · right; right; left
     refine ⟨h1, h3, hl, ?_⟩
     have : a ≠ b := fun e => hl (by rw [e])
     unfold Lib.compareInt
     simp only [this, if_false, h2, h4, if_true, true_and, ne_eq, hl, not_false_eq_true]
     by_cases h5 : a.length < b.length
     · simp [h5]
     · simp [h5]; omega
 · left; exact ⟨h1, h3, by rw [if_neg (hne (by rw [h2, h4]; simp)), if_neg (by rw [h2, h4]; simp), if_pos h2]⟩
 · right; left; exact ⟨h1, h3, by rw [if_neg (hne (by rw [h2, h4]; simp)), if_neg (by rw [h2, h4]; simp), if_neg (by rw [h2]; simp)]⟩
 · right; right; right; right
   refine ⟨h1, h3, ?_⟩
   unfold cmpB
   simp [h2, h4]
theorem zeo (x y : Int) (w : World) : Calls Tryz.prog 286 #[.int .i64 x, .int .i64 y] w fun e w' => e = .returned (.int .i64 (Lib.compareInt x y)) ∧ w = w' := by
 have H := hid (show Lib.compareInt x y = if x < y then -1 else if x > y then 1 else 0 from rfl)
 generalize Lib.compareInt x y = r at *
 go_enter Tryz.func286, Tryz.ntmps286
 go_wp2
 all_goals go_ret
 all_goals exact ⟨by rw [H.out]; (repeat' split) <;> first | rfl | omega, rfl⟩
theorem zep (x y : Int) (w : World) : Calls Tryz.prog 292 #[.int .u32 x, .int .u32 y] w fun e w' => e = .returned (.int .i64 (cmpI x y)) ∧ w = w' := by
 have H := hid (show cmpI x y = if x < y then -1 else if y < x then 1 else 0 from rfl)
 generalize cmpI x y = r at *
 go_enter Tryz.func292, Tryz.ntmps292
 go_wp2
 all_goals go_ret
 all_goals exact ⟨by rw [H.out]; (repeat' split) <;> first | rfl | omega, rfl⟩
theorem zeq (a b : B) (w : World) (ha : a ≠ []) (hb : b ≠ []) (hla : a.length ≤ 1000) (hlb : b.length ≤ 1000) :
 Calls Tryz.prog 288 #[.string (str a), .string (str b)] w fun e w' => e = .returned (.int .i64 (ordI a b)) ∧ Gr w w' := by
 have hsa := zbm a
 have hsb := zbm b
 have HA := hid (fun w => zdd a w (by omega))
 have HB := hid (fun w => zdd b w (by omega))
 have HC := hid (fun w => Tryz.strings_Compare (str a) (str b) w)
 rw [zdq, zdq] at HC
 have H := zen ha hb
 generalize ordI a b = r at *
 generalize kindP a = ka at *
 generalize kindP b = kb at *
 have TK := hid hla
 rcases H with ⟨rfl, rfl, rfl⟩ | ⟨rfl, rfl, rfl⟩ | ⟨rfl, rfl, hl, rfl⟩ | ⟨rfl, rfl, hl, rfl⟩ | ⟨rfl, rfl, rfl⟩
 · go_enter Tryz.func288, Tryz.ntmps288
   go_wp2_with (first
    | (go_at_call 206; clear TK; refine (HA.out _).mono ?_; rintro e w' ⟨rfl, rfl⟩)
    | (go_at_call 206; refine (HB.out _).mono ?_; rintro e w' ⟨rfl, rfl⟩))
   go_ret
   exact ⟨rfl, (Gr.refl w).alloc _⟩
 · go_enter Tryz.func288, Tryz.ntmps288
   go_wp2_with (first
    | (go_at_call 206; clear TK; refine (HA.out _).mono ?_; rintro e w' ⟨rfl, rfl⟩)
    | (go_at_call 206; refine (HB.out _).mono ?_; rintro e w' ⟨rfl, rfl⟩))
   go_ret
   exact ⟨rfl, (Gr.refl w).alloc _⟩
 · have d1 : ((a.length : Int) != (b.length : Int)) = true := by rw [bne_iff_ne]; omega
   generalize hr : Lib.compareInt (a.length : Int) (b.length : Int) = r at *
   have HR := hid hr
   clear hr
   go_enter Tryz.func288, Tryz.ntmps288
   go_wp2_with (first
    | (go_at_call 206; clear TK; refine (HA.out _).mono ?_; rintro e w' ⟨rfl, rfl⟩)
    | (go_at_call 206; refine (HB.out _).mono ?_; rintro e w' ⟨rfl, rfl⟩)
    | (go_at_call 286; refine (zeo _ _ _).mono ?_; rintro e w' ⟨rfl, rfl⟩))
   go_ret
   exact ⟨by rw [← HR.out]; rfl, (Gr.refl w).alloc _⟩
 · have d1 : ((a.length : Int) != (b.length : Int)) = false := by rw [hl]; simp
   generalize Lib.compareBytes a b = r at *
   clear hl
   go_enter Tryz.func288, Tryz.ntmps288
   go_wp2_with (first
    | (go_at_call 206; clear TK; refine (HA.out _).mono ?_; rintro e w' ⟨rfl, rfl⟩)
    | (go_at_call 206; refine (HB.out _).mono ?_; rintro e w' ⟨rfl, rfl⟩)
    | (go_at_call 294; refine (HC.out _).mono ?_; rintro e w' ⟨rfl, rfl⟩))
   go_ret
   exact ⟨rfl, (Gr.refl w).alloc _⟩
 · generalize Lib.compareBytes a b = r at *
   go_enter Tryz.func288, Tryz.ntmps288
   go_wp2_with (first
    | (go_at_call 206; clear TK; refine (HA.out _).mono ?_; rintro e w' ⟨rfl, rfl⟩)
    | (go_at_call 206; refine (HB.out _).mono ?_; rintro e w' ⟨rfl, rfl⟩)
    | (go_at_call 294; refine (HC.out _).mono ?_; rintro e w' ⟨rfl, rfl⟩))
   go_ret
   exact ⟨rfl, (Gr.refl w).alloc _⟩
end VerC
open Go.RowKit
namespace VerC
open VerM StrC TextR
theorem zer (x y z : Int) (a : Option Addr) (n cap : Nat) (w : World) :
 Calls Tryz.prog 182 #[verV x y z a n cap] w fun e w' => e = .returned (arrV x y z) ∧ w' = (w.alloc (verO x y z a n cap)).alloc (arrO x y z) := by
 have hnew := heap_alloc_new (w.alloc (verO x y z a n cap)) (.cells #[.int .u32 x, .int .u32 y, .int .u32 z] 195)
 have hsz : (w.alloc (verO x y z a n cap)).heap.size = w.heap.size + 1 := by simp
 rw [hsz] at hnew
 go_enter Tryz.func182, Tryz.ntmps182
 go_wp2_with fail
 refine bodyPost_ret (zdj rfl _ _ (w.heap.size + 1) _ _ _ _ rfl hnew Tryz.underlying195 rfl zdk) rfl ?_
 exact ⟨rfl, rfl⟩
def cmp3 (a b c x y z : Int) : Int := if cmpI a x ≠ 0 then cmpI a x else if cmpI b y ≠ 0 then cmpI b y else cmpI c z
set_option maxRecDepth 100000 in
theorem zes (a b c x y z : Int) (g h : Nat) (w : World) (hg : w.cell? ⟨g, 0, none⟩ = some (.int .u32 a) ∧ w.cell? ⟨g, 1, none⟩ = some (.int .u32 b) ∧ w.cell? ⟨g, 2, none⟩ = some (.int .u32 c)) (hh : w.cell? ⟨h, 0, none⟩ = some (.int .u32 x) ∧ w.cell? ⟨h, 1, none⟩ = some (.int .u32 y) ∧ w.cell? ⟨h, 2, none⟩ = some (.int .u32 z)) :
 Calls Tryz.prog 285 #[.slice (some ⟨g, 0, none⟩) 3 3, .slice (some ⟨h, 0, none⟩) 3 3] w fun e w' => e = .returned (.int .i64 (cmp3 a b c x y z)) ∧ w = w' := by
 obtain ⟨g0, g1, g2⟩ := hg
 obtain ⟨h0, h1, h2⟩ := hh
 have HC := hid zep
 have H := hid (show cmp3 a b c x y z = if cmpI a x ≠ 0 then cmpI a x else if cmpI b y ≠ 0 then cmpI b y else cmpI c z from rfl)
 generalize cmp3 a b c x y z = r at *
 generalize hra : cmpI a x = ra at *
 generalize hrb : cmpI b y = rb at *
 generalize hrc : cmpI c z = rc at *
 have HA := hid hra
 have HB := hid hrb
 have HCC := hid hrc
 clear hra hrb hrc
 by_cases za : ra = 0
 rotate_left
 · have d2 : (ra != 0) = true := by rw [bne_iff_ne]; exact za
   have HR := hid (show r = ra by rw [H.out, if_pos za])
   clear za H
   go_enter Tryz.func285, Tryz.ntmps285
   go_wp2_with fail
   refine wp_loop_rounds 4 ?_
   rw [rounds_succ]
   go_wp2_with (go_at_call 292; refine (HC.out _ _ _).mono ?_; rintro e w' ⟨rfl, rfl⟩; first | rw [HA.out] | rw [HB.out] | rw [HCC.out])
   go_ret
   exact ⟨by rw [HR.out]; rfl, rfl⟩
 rw [if_neg (by simpa using za)] at H
 subst za
 by_cases zb : rb = 0
 rotate_left
 · have d2 : (rb != 0) = true := by rw [bne_iff_ne]; exact zb
   have HR := hid (show r = rb by rw [H.out, if_pos zb])
   clear zb H
   go_enter Tryz.func285, Tryz.ntmps285
   go_wp2_with fail
   refine wp_loop_rounds 4 ?_
   rw [rounds_succ]
   go_wp2_with (go_at_call 292; refine (HC.out _ _ _).mono ?_; rintro e w' ⟨rfl, rfl⟩; first | rw [HA.out] | rw [HB.out] | rw [HCC.out])
   rw [rounds_succ]
   go_wp2_with (go_at_call 292; refine (HC.out _ _ _).mono ?_; rintro e w' ⟨rfl, rfl⟩; first | rw [HA.out] | rw [HB.out] | rw [HCC.out])
   go_ret
   exact ⟨by rw [HR.out]; rfl, rfl⟩
 rw [if_neg (by simpa using zb)] at H
 subst zb
 by_cases zc : rc = 0
 · have HR := hid (show r = 0 by rw [H.out, zc])
   subst zc
   clear H
   go_enter Tryz.func285, Tryz.ntmps285
   go_wp2_with fail
   refine wp_loop_rounds 4 ?_
   rw [rounds_succ]
   go_wp2_with (go_at_call 292; refine (HC.out _ _ _).mono ?_; rintro e w' ⟨rfl, rfl⟩; first | rw [HA.out] | rw [HB.out] | rw [HCC.out])
   rw [rounds_succ]
   go_wp2_with (go_at_call 292; refine (HC.out _ _ _).mono ?_; rintro e w' ⟨rfl, rfl⟩; first | rw [HA.out] | rw [HB.out] | rw [HCC.out])
   rw [rounds_succ]
   go_wp2_with (go_at_call 292; refine (HC.out _ _ _).mono ?_; rintro e w' ⟨rfl, rfl⟩; first | rw [HA.out] | rw [HB.out] | rw [HCC.out])
   rw [rounds_succ]
   go_wp2_with fail
   go_ret
   exact ⟨by rw [HR.out]; rfl, rfl⟩
 · have d2 : (rc != 0) = true := by rw [bne_iff_ne]; exact zc
   have HR := hid (show r = rc from H.out)
   clear zc H
   go_enter Tryz.func285, Tryz.ntmps285
   go_wp2_with fail
   refine wp_loop_rounds 4 ?_
   rw [rounds_succ]
   go_wp2_with (go_at_call 292; refine (HC.out _ _ _).mono ?_; rintro e w' ⟨rfl, rfl⟩; first | rw [HA.out] | rw [HB.out] | rw [HCC.out])
   rw [rounds_succ]
   go_wp2_with (go_at_call 292; refine (HC.out _ _ _).mono ?_; rintro e w' ⟨rfl, rfl⟩; first | rw [HA.out] | rw [HB.out] | rw [HCC.out])
   rw [rounds_succ]
   go_wp2_with (go_at_call 292; refine (HC.out _ _ _).mono ?_; rintro e w' ⟨rfl, rfl⟩; first | rw [HA.out] | rw [HB.out] | rw [HCC.out])
   go_ret
   exact ⟨by rw [HR.out]; rfl, rfl⟩
theorem zet {B : Nat} {w w' : World} (h : Below B w w') : Below B w w'.drew := ⟨h.os, h.tape, h.output, h.size, h.block⟩
theorem zeu (w : World) (o : Obj) (k : Nat) (h : k = w.heap.size) : (w.alloc o).heap[k]? = some o := by subst h; exact heap_alloc_new w o
theorem zev (w : World) (o : Obj) (k : Nat) (h : k < w.heap.size) (x : Option Obj) (hx : w.heap[k]? = x) : (w.alloc o).heap[k]? = x := (heap_alloc_old w o (r := k) h).trans hx
theorem zew (w : World) (k : Nat) (x : Option Obj) (hx : w.heap[k]? = x) : w.drew.heap[k]? = x := hx
theorem keep8 {w w' : World} {g : Nat} {xa xb xc ya yb yc : Int} {a1 a2 : Option Addr} {n1 c1 n2 c2 : Nat}
 (h : w.cell? ⟨g, 0, none⟩ = some (.int .u32 xa) ∧ w.cell? ⟨g, 1, none⟩ = some (.int .u32 xb) ∧ w.cell? ⟨g, 2, none⟩ = some (.int .u32 xc) ∧ w.cell? ⟨g, 3, none⟩ = some (.slice a1 n1 c1) ∧ w.cell? ⟨g + 1, 0, none⟩ = some (.int .u32 ya) ∧ w.cell? ⟨g + 1, 1, none⟩ = some (.int .u32 yb) ∧ w.cell? ⟨g + 1, 2, none⟩ = some (.int .u32 yc) ∧ w.cell? ⟨g + 1, 3, none⟩ = some (.slice a2 n2 c2)) (b : Below w.heap.size w w') :
 w'.cell? ⟨g, 0, none⟩ = some (.int .u32 xa) ∧ w'.cell? ⟨g, 1, none⟩ = some (.int .u32 xb) ∧ w'.cell? ⟨g, 2, none⟩ = some (.int .u32 xc) ∧ w'.cell? ⟨g, 3, none⟩ = some (.slice a1 n1 c1) ∧ w'.cell? ⟨g + 1, 0, none⟩ = some (.int .u32 ya) ∧ w'.cell? ⟨g + 1, 1, none⟩ = some (.int .u32 yb) ∧ w'.cell? ⟨g + 1, 2, none⟩ = some (.int .u32 yc) ∧ w'.cell? ⟨g + 1, 3, none⟩ = some (.slice a2 n2 c2) := by
 obtain ⟨h0, h1, h2, h3, h4, h5, h6, h7⟩ := h
 have e1 : g < w.heap.size := World.block_lt_of_cell? _ _ h0
 have e2 : g + 1 < w.heap.size := World.block_lt_of_cell? _ _ h4
 exact ⟨by rw [b.cell (by exact e1)]; exact h0, by rw [b.cell (by exact e1)]; exact h1, by rw [b.cell (by exact e1)]; exact h2, by rw [b.cell (by exact e1)]; exact h3, by rw [b.cell (by exact e2)]; exact h4, by rw [b.cell (by exact e2)]; exact h5, by rw [b.cell (by exact e2)]; exact h6, by rw [b.cell (by exact e2)]; exact h7⟩
set_option maxRecDepth 100000 in
theorem zex (p q : TL) (a1 : Option Addr) (c1 : Nat) (a2 : Option Addr) (c2 : Nat) (w : World) (hT1 : Txs w a1 c1 p) (hT2 : Txs w a2 c2 q) (hi1 : ∀ s ∈ p, s ≠ [] ∧ s.length ≤ 1000) (hi2 : ∀ s ∈ q, s ≠ [] ∧ s.length ≤ 1000) (hl1 : p.length ≤ 1000) (hl2 : q.length ≤ 1000) :
 Calls Tryz.prog 287 #[.slice a1 p.length c1, .slice a2 q.length c2, .func (Fn.func 288) #[] #[]] w fun e w' => e = .returned (.int .i64 (ordL p q)) ∧ Gr w w' := by
 have HS := hid (zec p q)
 have HE := hid (zed p q)
 have H0 : Hid (ordL p q = ordL (p.drop 0) (q.drop 0)) := hid (by simp)
 have HT1 := hid hT1
 have HT2 := hid hT2
 have HI1 := hid (fun k (h : k < p.length) => hi1 (p.getD k []) (by rw [List.getD_eq_getElem?_getD, List.getElem?_eq_getElem h]; exact List.getElem_mem h))
 have HI2 := hid (fun k (h : k < q.length) => hi2 (q.getD k []) (by rw [List.getD_eq_getElem?_getD, List.getElem?_eq_getElem h]; exact List.getElem_mem h))
 clear hT1 hT2 hi1 hi2
 generalize ordL p q = R at *
 go_enter Tryz.func287, Tryz.ntmps287
 go_wp2_with fail
 go_loopw [7, 8, 9, 10, 13] (fun _ _ _ _ iv wr => ∃ k : Nat, k ≤ p.length ∧ k ≤ q.length ∧ iv = .int .i64 k ∧ Hid (R = ordL (p.drop k) (q.drop k)) ∧ Hid (Gr w wr)) (fun _ _ _ _ iv _ => p.length - (intOf iv).toNat)
 case atStart => exact ⟨0, Nat.zero_le _, Nat.zero_le _, rfl, H0, hid (Gr.refl _)⟩
 case round =>
  obtain ⟨k, hk1, hk2, rfl, HR, HG⟩ := hrel
  rename World => wr
  by_cases hlt : k < p.length
  · have hdec : decide (k < p.length) = true := by simpa using hlt
    by_cases hlt2 : k < q.length
    · have hdec2 : decide ((q.length : Int) ≤ (k : Int)) = false := decide_eq_false (by omega)
      obtain ⟨b1, o1, rfl, hc1⟩ := HT1.out.cells (by omega)
      obtain ⟨b2, o2, rfl, hc2⟩ := HT2.out.cells (by omega)
      have hx := ((HT1.out.gr HG.out.below).cells (by omega))
      have hck1 : wr.cell? ⟨b1, o1 + k, none⟩ = some (.string (str (p.getD k []))) := by rw [HG.out.below.cell (World.block_lt_of_cell? _ _ (hc1 k hlt))]; exact hc1 k hlt
      have hck2 : wr.cell? ⟨b2, o2 + k, none⟩ = some (.string (str (q.getD k []))) := by rw [HG.out.below.cell (World.block_lt_of_cell? _ _ (hc2 k hlt2))]; exact hc2 k hlt2
      have h1 := HI1.out k hlt
      have h2 := HI2.out k hlt2
      have HO := HS.out k hlt hlt2
      rw [← HR.out] at HO
      clear hc1 hc2 hx
      generalize p.getD k [] = s at *
      generalize q.getD k [] = u at *
      have HC := hid (fun w => zeq s u w h1.1 h2.1 h1.2 h2.2)
      generalize ordI s u = r at *
      clear h1 h2
      by_cases hr : r = 0
      · have d3 : (r != 0) = false := by rw [hr]; rfl
        have HN := hid (show R = ordL (p.drop (k + 1)) (q.drop (k + 1)) by rw [HO, if_neg (by simpa using hr)])
        clear hr HO
        go_wp2_with (go_at_call 288; refine (HC.out _).mono ?_; rintro e w' ⟨rfl, hg⟩; have HG2 := hid (HG.out.trans hg); clear hg)
        go_roundw
        case rel => exact ⟨k + 1, by omega, by omega, by go_num, HN, HG2⟩
        case measure => simp [intOf]; omega
      · have d3 : (r != 0) = true := by rw [bne_iff_ne]; exact hr
        have HN := hid (show R = r by rw [HO, if_pos hr])
        clear hr HO
        go_wp2_with (go_at_call 288; refine (HC.out _).mono ?_; rintro e w' ⟨rfl, hg⟩; have HG2 := hid (HG.out.trans hg); clear hg)
        go_ret
        exact ⟨by rw [HN.out]; rfl, HG2.out⟩
    · have hdec2 : decide ((q.length : Int) ≤ (k : Int)) = true := decide_eq_true (by omega)
      obtain ⟨b1, o1, rfl, hc1⟩ := HT1.out.cells (by omega)
      have hck1 : wr.cell? ⟨b1, o1 + k, none⟩ = some (.string (str (p.getD k []))) := by rw [HG.out.below.cell (World.block_lt_of_cell? _ _ (hc1 k hlt))]; exact hc1 k hlt
      have HN := hid (show R = 1 by rw [HR.out, HE.out k ⟨hk1, hk2, by omega⟩]; unfold cmpI; rw [if_neg (by omega), if_pos (by omega)])
      clear hc1
      generalize p.getD k [] = s at *
      go_wp2_with fail
      go_ret
      exact ⟨by rw [HN.out]; rfl, HG.out⟩
  · have hdec : decide (k < p.length) = false := by simpa using hlt
    have HN := hid (show R = cmpI p.length q.length by rw [HR.out, HE.out k ⟨hk1, hk2, by omega⟩])
    by_cases hlt2 : p.length < q.length
    · have hdec2 : decide (p.length < q.length) = true := by simpa using hlt2
      have HN2 := hid (show R = -1 by rw [HN.out]; unfold cmpI; rw [if_pos (by omega)])
      go_wp2_with fail
      go_ret
      exact ⟨by rw [HN2.out]; rfl, HG.out⟩
    · have hdec2 : decide (p.length < q.length) = false := by simpa using hlt2
      have HN2 := hid (show R = 0 by rw [HN.out]; unfold cmpI; rw [if_neg (by omega), if_neg (by omega)])
      go_wp2_with fail
      go_ret
      exact ⟨by rw [HN2.out]; rfl, HG.out⟩
theorem zey (v u : Ver) : cmpV v u = if cmp3 v.a v.b v.c u.a u.b u.c ≠ 0 then cmp3 v.a v.b v.c u.a u.b u.c else cmpP v.pre u.pre := by
 rw [cmpV_is]
 unfold cmp3
 by_cases h1 : cmpI v.a u.a = 0
 · by_cases h2 : cmpI v.b u.b = 0
   · simp [h1, h2]
   · simp [h1, h2]
 · simp [h1]
set_option maxRecDepth 100000 in
theorem zez (v u : Ver) (a1 : Option Addr) (c1 : Nat) (a2 : Option Addr) (c2 : Nat) (w : World) (hT1 : Txs w a1 c1 v.pre) (hT2 : Txs w a2 c2 u.pre) (hm1 : may v = true) (hm2 : may u = true) :
 Calls Tryz.prog 277 #[verV v.a v.b v.c a1 v.pre.length c1, verV u.a u.b u.c a2 u.pre.length c2] w fun e w' => e = .returned (.int .i64 (cmpV v u)) ∧ Gr w w' := by
 have HV := hid (zey v u)
 obtain ⟨na, nb, nc, p⟩ := v
 obtain ⟨ma, mb, mc, q⟩ := u
 dsimp only at *
 generalize cmpV ⟨na, nb, nc, p⟩ ⟨ma, mb, mc, q⟩ = R at *
 have hr1 := (heap_alloc_old (w.alloc (verO na nb nc a1 p.length c1)) (verO ma mb mc a2 q.length c2) (r := w.heap.size) (by simp)).trans (heap_alloc_new w (verO na nb nc a1 p.length c1))
 have hr2 := heap_alloc_new (w.alloc (verO na nb nc a1 p.length c1)) (verO ma mb mc a2 q.length c2)
 rw [show (w.alloc (verO na nb nc a1 p.length c1)).heap.size = w.heap.size + 1 by simp] at hr2
 have HWS : Hid (((w.alloc (verO na nb nc a1 p.length c1)).alloc (verO ma mb mc a2 q.length c2)).heap.size = w.heap.size + 2) := hid (by simp)
 have HG := hid (show Gr w ((w.alloc (verO na nb nc a1 p.length c1)).alloc (verO ma mb mc a2 q.length c2)) from ((Gr.refl w).alloc _).alloc _)
 have HT1 := hid hT1
 have HT2 := hid hT2
 have HM1 := hid hm1
 have HM2 := hid hm2
 clear hT1 hT2 hm1 hm2
 generalize (na : Int) = xa at *
 generalize (nb : Int) = xb at *
 generalize (nc : Int) = xc at *
 generalize (ma : Int) = ya at *
 generalize (mb : Int) = yb at *
 generalize (mc : Int) = yc at *
 obtain ⟨P0, P1, P2, P3⟩ := zch hr1
 obtain ⟨Q0, Q1, Q2, Q3⟩ := zch hr2
 go_enter Tryz.func277, Tryz.ntmps277
 go_wp2_with fail
 generalize (w.alloc (verO xa xb xc a1 p.length c1)).alloc (verO ya yb yc a2 q.length c2) = W at *
 go_cut [5, 6] from 8 (fun v5 v6 wx => ∃ g1 g2 : Nat, v5 = .pointer (some ⟨g1, 0, none⟩) ∧ v6 = .pointer (some ⟨g2, 0, none⟩) ∧ Hid (wx.heap[g1]? = some (arrO xa xb xc)) ∧ Hid (wx.heap[g2]? = some (arrO ya yb yc)) ∧ Hid (wx.heap[w.heap.size]? = some (verO xa xb xc a1 p.length c1)) ∧ Hid (wx.heap[w.heap.size + 1]? = some (verO ya yb yc a2 q.length c2)) ∧ Hid (Gr w wx))
 case first =>
  go_region_held3 (fun w' => w'.cell? ⟨w.heap.size, 0, none⟩ = some (.int .u32 xa) ∧ w'.cell? ⟨w.heap.size, 1, none⟩ = some (.int .u32 xb) ∧ w'.cell? ⟨w.heap.size, 2, none⟩ = some (.int .u32 xc) ∧ w'.cell? ⟨w.heap.size, 3, none⟩ = some (.slice a1 p.length c1) ∧ w'.cell? ⟨w.heap.size + 1, 0, none⟩ = some (.int .u32 ya) ∧ w'.cell? ⟨w.heap.size + 1, 1, none⟩ = some (.int .u32 yb) ∧ w'.cell? ⟨w.heap.size + 1, 2, none⟩ = some (.int .u32 yc) ∧ w'.cell? ⟨w.heap.size + 1, 3, none⟩ = some (.slice a2 q.length c2)) (first | exact ⟨P0, P1, P2, P3, Q0, Q1, Q2, Q3⟩ | exact keep8 ⟨P0, P1, P2, P3, Q0, Q1, Q2, Q3⟩ (by repeat (first | exact Below.refl _ _ | refine zet ?_ | refine Below.alloc ?_ (by simp <;> omega) _)))
   (first | (go_at_call 182; refine (zer _ _ _ _ _ _ _).mono ?_; rintro e wn ⟨rfl, rfl⟩))
  all_goals (clear P0 P1 P2 P3 Q0 Q1 Q2 Q3; go_wp2)
  all_goals (go_meet; case rel =>
   refine ⟨_, _, rfl, rfl, hid ?_, hid ?_, hid ?_, hid ?_, hid ?_⟩
   · (repeat (first | (refine zeu _ _ _ ?_; simp; done) | assumption | refine zew _ _ _ ?_ | refine zev _ _ _ (by have hh := HWS.out; simp <;> omega) _ ?_))
   · (repeat (first | (refine zeu _ _ _ ?_; simp; done) | assumption | refine zew _ _ _ ?_ | refine zev _ _ _ (by have hh := HWS.out; simp <;> omega) _ ?_))
   · (repeat (first | assumption | refine zew _ _ _ ?_ | refine zev _ _ _ (by have hh := HWS.out; simp <;> omega) _ ?_))
   · (repeat (first | assumption | refine zew _ _ _ ?_ | refine zev _ _ _ (by have hh := HWS.out; simp <;> omega) _ ?_))
   · (repeat (first | exact HG.out | refine Gr.drew ?_ | refine Gr.alloc ?_ _)))
 case rest =>
  obtain ⟨g1, g2, rfl, rfl, HA1, HA2, HR1, HR2, HGX⟩ := hcut
  have HSC := hid (fun n => zes xa xb xc ya yb yc g1 g2 (wc.drewN n) (zee (w := wc.drewN n) HA1.out) (zee (w := wc.drewN n) HA2.out))
  generalize hr3 : cmp3 xa xb xc ya yb yc = r3 at *
  have H3 := hid hr3
  clear hr3
  go_wp2_with fail
  go_quiet ((go_at_call 285; exact Calls.quiet_of_same ((HSC.out _).mono fun e w' h => ⟨h.1, h.2.symm⟩)))
  by_cases z3 : r3 = 0
  rotate_left
  · have d3 : (r3 != 0) = true := by rw [bne_iff_ne]; exact z3
    have HR := hid (show R = r3 by rw [HV.out, if_pos z3])
    go_wp2_with fail
    go_ret
    exact ⟨by rw [HR.out]; rfl, HGX.out.drewN nq⟩
  have HR := hid (show R = cmpP p q by rw [HV.out, if_neg (by simpa using z3)])
  subst z3
  have hr1' : (wc.drewN nq).heap[w.heap.size]? = some (verO xa xb xc a1 p.length c1) := HR1.out
  have hr2' : (wc.drewN nq).heap[w.heap.size + 1]? = some (verO ya yb yc a2 q.length c2) := HR2.out
  have HGD := hid (HGX.out.drewN nq)
  obtain ⟨p0, p1, p2, p3⟩ := zch hr1'
  obtain ⟨q0, q1, q2, q3⟩ := zch hr2'
  clear hr1' hr2' HR1 HR2 HGX HA1 HA2 HSC
  generalize wc.drewN nq = w5 at *
  by_cases hp : p = []
  · subst hp
    have HRR := hid (show R = Lib.compareInt (q.length : Int) 0 by
     rw [HR.out]; unfold cmpP Lib.compareInt; cases q <;> simp; try omega)
    go_wp2_with (go_at_call 286; refine (zeo _ _ _).mono ?_; rintro e w' ⟨rfl, rfl⟩; rw [← HRR.out])
    go_ret
    exact ⟨rfl, HGD.out⟩
  have d1 : ((p.length : Int) == 0) = false := beq_eq_false_iff_ne.2 (by have := List.length_pos_iff.2 hp; omega)
  by_cases hq : q = []
  · subst hq
    have HRR := hid (show R = Lib.compareInt 0 (p.length : Int) by
     rw [HR.out]; unfold cmpP Lib.compareInt; have := List.length_pos_iff.2 hp; simp [hp, this])
    clear hp
    go_wp2_with (go_at_call 286; refine (zeo _ _ _).mono ?_; rintro e w' ⟨rfl, rfl⟩; rw [← HRR.out])
    go_ret
    exact ⟨rfl, HGD.out⟩
  have d2 : ((q.length : Int) == 0) = false := beq_eq_false_iff_ne.2 (by have := List.length_pos_iff.2 hq; omega)
  have HRR := hid (show R = ordL p q by
   rw [HR.out]; unfold cmpP; have h1 := List.length_pos_iff.2 hp; have h2 := List.length_pos_iff.2 hq; rw [if_neg (by omega)])
  have HPL := (zcc HM1.out).2.2.2.1
  have HQL := (zcc HM2.out).2.2.2.1
  have HCF := hid (zex p q a1 c1 a2 c2 w5 (HT1.out.gr HGD.out.below) (HT2.out.gr HGD.out.below) (fun s hs => by
   have := zcd ((zcc HM1.out).2.2.2.2 s hs); exact ⟨List.length_pos_iff.1 this.1, by omega⟩) (fun s hs => by
   have := zcd ((zcc HM2.out).2.2.2.2 s hs); exact ⟨List.length_pos_iff.1 this.1, by omega⟩) (Nat.le_trans HPL (by decide)) (Nat.le_trans HQL (by decide)))
  rw [← HRR.out] at HCF
  clear hp hq HPL HQL
  go_wp2_with (go_at_call 287; refine HCF.out.mono ?_; rintro e w' ⟨rfl, hg⟩)
  go_ret
  exact ⟨rfl, HGD.out.trans hg⟩
end VerC
end
section
open Go.RowKit
namespace VerC
open VerM StrC TextR
theorem zfa {l : B} {w : World} {e : Ending} (h : ReadE l w e) : ∃ x, e = .returned x := by
 unfold ReadE at h
 split at h
 · obtain ⟨a, cap, he, _⟩ := h; exact ⟨_, he⟩
 · exact ⟨_, h⟩
theorem zfb (l : B) (w : World) (hv : Vw w) :
 Calls Tryz.prog 118 #[.string (str l)] w fun e w' => ∃ x, e = .returned x ∧ ReadE l w' (.returned x) ∧ Below w.heap.size w w' :=
 (zej l w hv).mono fun e w' ⟨he, hb⟩ => by
   obtain ⟨x, rfl⟩ := zfa he
   exact ⟨x, rfl, he, hb⟩
theorem pIs_any (l : B) (w : World) (hv : Vw w) :
 Calls Tryz.prog 77 #[.string (str l)] w fun e w' => e = .returned (.bool (isT l)) ∧ Below w.heap.size w w' := by
 have HR := hid (zfb l w hv)
 clear hv
 go_enter Tryz.func77, Tryz.ntmps77
 go_wp2_with (go_at_call 118; refine HR.out.mono ?_; rintro e w2 ⟨x2, rfl, he, hb⟩; refine Hid.out ?_)
 refine hid ?_
 have HB := hid hb
 have HS := hid hb.size
 clear hb
 rcases zea he with ⟨v, a, cap, hv, rfl, hT⟩ | ⟨hv, rfl⟩
 · have HI := hid (isT_of hv)
   clear hv hT he
   go_wp2_with fail
   go_ret
   exact ⟨by rw [HI.out]; rfl, HB.out.alloc HS.out _⟩
 · have HI := hid (isT_no hv)
   clear hv he
   go_wp2_with fail
   go_ret
   exact ⟨by rw [HI.out]; rfl, HB.out.alloc HS.out _⟩
end VerC
end
section
open Go.RowKit
namespace VerC
open VerM StrC TextR
def cmpE (v u : Ver) : Ending := if may v && may u then .returned (.tuple #[.int .i64 (cmpV v u), .int .i64 0]) else .returned (.tuple #[.int .i64 0, .int .i64 70])
set_option maxRecDepth 100000 in
theorem zfc (v u : Ver) (a1 : Option Addr) (c1 : Nat) (a2 : Option Addr) (c2 : Nat) (w : World) (hT1 : Txs w a1 c1 v.pre) (hT2 : Txs w a2 c2 u.pre) :
 Calls Tryz.prog 258 #[verV v.a v.b v.c a1 v.pre.length c1, verV u.a u.b u.c a2 u.pre.length c2] w fun e w' => e = cmpE v u ∧ Gr w w' := by
 have hr1 := (heap_alloc_old (w.alloc (verO v.a v.b v.c a1 v.pre.length c1)) (verO u.a u.b u.c a2 u.pre.length c2) (r := w.heap.size) (by simp)).trans (heap_alloc_new w (verO v.a v.b v.c a1 v.pre.length c1))
 have hr2 := heap_alloc_new (w.alloc (verO v.a v.b v.c a1 v.pre.length c1)) (verO u.a u.b u.c a2 u.pre.length c2)
 have hs1 : (w.alloc (verO v.a v.b v.c a1 v.pre.length c1)).heap.size = w.heap.size + 1 := by simp
 rw [hs1] at hr2
 have HW : Hid (Gr w ((w.alloc (verO v.a v.b v.c a1 v.pre.length c1)).alloc (verO u.a u.b u.c a2 u.pre.length c2))) := hid (((Gr.refl w).alloc _).alloc _)
 have HT1 := hid ((hT1.alloc (verO v.a v.b v.c a1 v.pre.length c1)).alloc (verO u.a u.b u.c a2 u.pre.length c2))
 have HT2 := hid ((hT2.alloc (verO v.a v.b v.c a1 v.pre.length c1)).alloc (verO u.a u.b u.c a2 u.pre.length c2))
 have HM1 := hid (fun w' (h : Txs w' a1 c1 v.pre) => pmay_any v a1 c1 w' h)
 have HM2 := hid (fun w' (h : Txs w' a2 c2 u.pre) => pmay_any u a2 c2 w' h)
 have he1 : mayE v = if may v then 0 else 70 := rfl
 have he2 : mayE u = if may u then 0 else 70 := rfl
 have HCC := hid (fun w' h1 h2 m1 m2 => zez v u a1 c1 a2 c2 w' h1 h2 m1 m2)
 have HE : Hid (cmpE v u = if may v && may u then .returned (.tuple #[.int .i64 (cmpV v u), .int .i64 0]) else .returned (.tuple #[.int .i64 0, .int .i64 70])) := hid rfl
 clear hT1 hT2 hs1
 rcases Bool.eq_false_or_eq_true (may v) with m1 | m1 <;> rcases Bool.eq_false_or_eq_true (may u) with m2 | m2
 all_goals rw [m1] at he1 HE
 all_goals rw [m2] at he2 HE
 all_goals simp only [if_true, if_false, Bool.false_eq_true, Bool.and_self, Bool.and_true, Bool.true_and, Bool.and_false, Bool.false_and] at he1 he2 HE
 all_goals rw [he1] at HM1
 all_goals rw [he2] at HM2
 all_goals obtain ⟨na, nb, nc, p⟩ := v
 all_goals obtain ⟨ma, mb, mc, q⟩ := u
 all_goals dsimp only at *
 all_goals go_enter Tryz.func258, Tryz.ntmps258
 all_goals go_wp2_with fail
 all_goals (generalize (w.alloc (verO na nb nc a1 p.length c1)).alloc (verO ma mb mc a2 q.length c2) = W at *)
 all_goals refine (HM1.out W HT1.out).mono ?_
 all_goals rintro e w3 ⟨rfl, hg3⟩
 all_goals refine Hid.out ?_
 all_goals refine hid ?_
 all_goals have hl2 : w.heap.size + 1 < W.heap.size := (Array.getElem?_eq_some_iff.1 hr2).1
 all_goals have hr13 := (hg3.below.block w.heap.size (by omega)).trans hr1
 all_goals have hr23 := (hg3.below.block (w.heap.size + 1) hl2).trans hr2
 all_goals have HT13 := hid (HT1.out.gr hg3.below)
 all_goals have HT23 := hid (HT2.out.gr hg3.below)
 all_goals have HB3 := hid (HW.out.trans hg3)
 all_goals have hl3 : w.heap.size + 1 < w3.heap.size := (Array.getElem?_eq_some_iff.1 hr23).1
 all_goals clear hg3 hr1 hr2 HT1 HT2 HW HM1 hl2
 all_goals obtain ⟨q0, q1, q2, q3⟩ := zch hr23
 · go_wp2_with (first
    | (refine wpList_load_row rfl 145 _ rfl (w.heap.size + 1) rfl _ _ _ _ hr23 Tryz.underlying145 rfl zcf ?_)
    | (go_at_call 151; refine (HM2.out w3 HT23.out).mono ?_; rintro e w4 ⟨rfl, hg4⟩; refine Hid.out ?_))
   refine hid ?_
   have hr14 := (hg4.below.block w.heap.size (by omega)).trans hr13
   have hr24 := (hg4.below.block (w.heap.size + 1) hl3).trans hr23
   have HT14 := hid (HT13.out.gr hg4.below)
   have HT24 := hid (HT23.out.gr hg4.below)
   have HB4 := hid (HB3.out.trans hg4)
   clear hg4 hr13 hr23 HT13 HT23 HM2 q0 q1 q2 q3
   go_wp2_with (first
    | (refine wpList_load_row rfl 145 _ rfl (w.heap.size) rfl _ _ _ _ hr14 Tryz.underlying145 rfl zcf ?_)
    | (refine wpList_load_row rfl 145 _ rfl (w.heap.size + 1) rfl _ _ _ _ hr24 Tryz.underlying145 rfl zcf ?_)
    | (go_at_call 277; refine (HCC.out w4 HT14.out HT24.out m1 m2).mono ?_; rintro e w5 ⟨rfl, hg5⟩))
   go_ret2
   exact ⟨by rw [HE.out]; rfl, HB4.out.trans hg5⟩
 · go_wp2_with (first
    | (refine wpList_load_row rfl 145 _ rfl (w.heap.size + 1) rfl _ _ _ _ hr23 Tryz.underlying145 rfl zcf ?_)
    | (go_at_call 151; refine (HM2.out w3 HT23.out).mono ?_; rintro e w4 ⟨rfl, hg4⟩; have HB4 := hid (HB3.out.trans hg4); clear hg4))
   go_ret2
   exact ⟨by rw [HE.out]; rfl, HB4.out⟩
 · go_wp2_with fail
   go_ret2
   exact ⟨by rw [HE.out]; rfl, HB3.out⟩
 · go_wp2_with fail
   go_ret2
   exact ⟨by rw [HE.out]; rfl, HB3.out⟩
structure LeastI (w w' : World) (g : Nat) : Prop where
 ge : w.heap.size ≤ g
 cell : w'.cell? ⟨g, 0, none⟩ = some (.string (str nought))
 free : ∀ i, w'.frozen? ⟨g, i, none⟩ = false
 kind : IsText w' g
theorem LeastI.txs {w w' : World} {g : Nat} (h : LeastI w w' g) : Txs w' (some ⟨g, 0, none⟩) 1 [nought] :=
 ⟨Nat.le_refl _, fun s hs => by rw [List.mem_singleton] at hs; rw [hs]; decide, by decide, fun _ => ⟨g, 0, rfl, fun i hi => by
  have : i = 0 := by simp at hi; omega
  subst this; exact h.cell⟩⟩
def LeastE (v : Ver) (w : World) (e : Ending) (w' : World) : Prop := Below w.heap.size w w' ∧ (may v = false → e = .returned (.tuple #[verV 0 0 0 none 0 0, .int .i64 70])) ∧
 (may v = true → ∃ g, e = .returned (.tuple #[verV v.a v.b v.c (some ⟨g, 0, none⟩) 1 1, .int .i64 0]) ∧ LeastI w w' g)
set_option maxRecDepth 100000 in
theorem zfd (v : Ver) (a : Option Addr) (cap : Nat) (w : World) (hT : Txs w a cap v.pre) :
 Calls Tryz.prog 250 #[verV v.a v.b v.c a v.pre.length cap] w (LeastE v w) := by
 have hT1 := hT.gr ((Below.refl _ w).alloc (Nat.le_refl _) (verO v.a v.b v.c a v.pre.length cap))
 have HM := hid (fun w' (h : Txs w' a cap v.pre) => pmay_any v a cap w' h)
 have hs1 : (w.alloc (verO v.a v.b v.c a v.pre.length cap)).heap.size = w.heap.size + 1 := by simp
 have hnew := heap_alloc_new w (verO v.a v.b v.c a v.pre.length cap)
 have HT := hid hT1
 have HB0 := hid ((Below.refl _ w).alloc (Nat.le_refl _) (verO v.a v.b v.c a v.pre.length cap))
 rcases Bool.eq_false_or_eq_true (may v) with hm | hm
 rotate_left
 · have he := zdo hm
   have HE : Hid (∀ (e : Ending) (w' : World), Below w.heap.size w w' → e = .returned (.tuple #[verV 0 0 0 none 0 0, .int .i64 70]) → LeastE v w e w') := hid (fun e w' h1 h2 => ⟨h1, fun _ => h2, fun h => by rw [hm] at h; cases h⟩)
   rw [he] at HM
   obtain ⟨na, nb, nc, p⟩ := v
   dsimp only at *
   go_enter Tryz.func250, Tryz.ntmps250
   go_wp2_with fail
   have hr1 := (heap_alloc_old (w.alloc (verO na nb nc a p.length cap)) (verO 0 0 0 none 0 0) (r := w.heap.size) (by simp)).trans hnew
   have hn1 := heap_alloc_new (w.alloc (verO na nb nc a p.length cap)) (verO 0 0 0 none 0 0)
   rw [hs1] at hn1
   have HB1 := hid (HB0.out.alloc HB0.out.size (verO 0 0 0 none 0 0))
   have HT1 := hid (HT.out.alloc (verO 0 0 0 none 0 0))
   have hs2 : ((w.alloc (verO na nb nc a p.length cap)).alloc (verO 0 0 0 none 0 0)).heap.size = w.heap.size + 2 := by simp
   generalize (w.alloc (verO na nb nc a p.length cap)).alloc (verO 0 0 0 none 0 0) = W at *
   refine (HM.out W HT1.out).mono ?_
   rintro e w2 ⟨rfl, hg2⟩
   refine Hid.out ?_
   refine hid ?_
   have hn2 := (hg2.below.block (w.heap.size + 1) (by omega)).trans hn1
   have HB2 := hid (HB1.out.trans (hg2.below.mono HB1.out.size))
   clear hg2 HM hnew HT HT1 HB0 HB1 hs1 hs2 hr1 hn1 hT hT1
   go_wp2_with (refine wpList_store_row rfl 145 _ _ rfl (w.heap.size + 1) #[.int .u32 0, .int .u32 0, .int .u32 0, .slice none 0 0] rfl rfl _ _ hn2 zcf rfl (zcg _ _ _ _ _ _) ?_)
   refine bodyPost_ret (zcj rfl _ _ (w.heap.size + 1) _ #[.int .u32 0, .int .u32 0, .int .u32 0, .slice none 0 0] _ _ rfl (setRow_heap _ _ _ _ _ _ hn2) Tryz.underlying145 rfl zcf) rfl ?_
   exact HE.out _ _ (below_setRow HB2.out (by omega) _) rfl
 · have he := zdp hm
   have HE : Hid (∀ (e : Ending) (w' : World), Below w.heap.size w w' → (∃ g, e = .returned (.tuple #[verV v.a v.b v.c (some ⟨g, 0, none⟩) 1 1, .int .i64 0]) ∧ LeastI w w' g) → LeastE v w e w') := hid (fun e w' h1 h2 => ⟨h1, fun h => (by rw [hm] at h; cases h), fun _ => h2⟩)
   rw [he] at HM
   have HN := hid (zdl v.a v.b v.c a v.pre.length cap)
   have HV := hid (zdm v.a v.b v.c)
   obtain ⟨na, nb, nc, p⟩ := v
   dsimp only at *
   go_enter Tryz.func250, Tryz.ntmps250
   go_wp2_with fail
   have hr1 := (heap_alloc_old (w.alloc (verO na nb nc a p.length cap)) (verO 0 0 0 none 0 0) (r := w.heap.size) (by simp)).trans hnew
   have hn1 := heap_alloc_new (w.alloc (verO na nb nc a p.length cap)) (verO 0 0 0 none 0 0)
   rw [hs1] at hn1
   have HB1 := hid (HB0.out.alloc HB0.out.size (verO 0 0 0 none 0 0))
   have HT1 := hid (HT.out.alloc (verO 0 0 0 none 0 0))
   have hs2 : ((w.alloc (verO na nb nc a p.length cap)).alloc (verO 0 0 0 none 0 0)).heap.size = w.heap.size + 2 := by simp
   generalize (w.alloc (verO na nb nc a p.length cap)).alloc (verO 0 0 0 none 0 0) = W at *
   refine (HM.out W HT1.out).mono ?_
   rintro e w2 ⟨rfl, hg2⟩
   refine Hid.out ?_
   refine hid ?_
   have hr2 := (hg2.below.block w.heap.size (by omega)).trans hr1
   have hn2 := (hg2.below.block (w.heap.size + 1) (by omega)).trans hn1
   have HB2 := hid (HB1.out.trans (hg2.below.mono HB1.out.size))
   clear hg2 HM hnew HT HT1 HB0 HB1 hs1 hs2 hr1 hn1 hT hT1
   go_wp2_with (first
    | (refine wpList_load_row rfl 145 _ rfl w.heap.size rfl _ _ _ _ hr2 Tryz.underlying145 rfl zcf ?_)
    | (go_at_call 182; refine (HN.out _).mono ?_; rintro e w3 ⟨rfl, hg3⟩; have hn3 := (hg3.below.block (w.heap.size + 1) (Array.getElem?_eq_some_iff.1 hn2).1).trans hn2; have HB3 := hid (HB2.out.trans (hg3.below.mono HB2.out.size)); clear hg3 hn2 HB2)
    | (go_at_call 150; refine (HV.out _).mono ?_; rintro e w4 ⟨rfl, hg4⟩; refine Hid.out ?_))
   refine hid ?_
   have hn4 := (hg4.below.block (w.heap.size + 1) (Array.getElem?_eq_some_iff.1 hn3).1).trans hn3
   have HB4 := hid (HB3.out.trans (hg4.below.mono HB3.out.size))
   have hl4 : w.heap.size + 1 < w4.heap.size := (Array.getElem?_eq_some_iff.1 hn4).1
   clear hg4 hn3 HB3
   have hn5 : ((w4.alloc (verO na nb nc (some ⟨w4.heap.size + 1, 0, none⟩) 1 1)).alloc (.cells #[.string ⟨#[48]⟩] 9)).heap[w.heap.size + 1]? = some (verO 0 0 0 none 0 0) :=
    (heap_alloc_old _ _ (r := w.heap.size + 1) (by simp; omega)).trans ((heap_alloc_old w4 _ (r := w.heap.size + 1) hl4).trans hn4)
   have hc5 : ((w4.alloc (verO na nb nc (some ⟨w4.heap.size + 1, 0, none⟩) 1 1)).alloc (.cells #[.string ⟨#[48]⟩] 9)).heap[w4.heap.size + 1]? = some (.cells #[.string (str nought)] 9) := by
    have h := heap_alloc_new (w4.alloc (verO na nb nc (some ⟨w4.heap.size + 1, 0, none⟩) 1 1)) (.cells #[.string ⟨#[48]⟩] 9)
    rw [show (w4.alloc (verO na nb nc (some ⟨w4.heap.size + 1, 0, none⟩) 1 1)).heap.size = w4.heap.size + 1 by simp] at h
    exact h
   have HB5 : Hid (Below w.heap.size w ((w4.alloc (verO na nb nc (some ⟨w4.heap.size + 1, 0, none⟩) 1 1)).alloc (.cells #[.string ⟨#[48]⟩] 9))) := hid ((HB4.out.alloc HB4.out.size _).alloc (by simp; have := HB4.out.size; omega) _)
   clear HB4 hn4
   go_wp2_with (refine wpList_store_row rfl 145 _ _ rfl (w.heap.size + 1) #[.int .u32 na, .int .u32 nb, .int .u32 nc, .slice (some ⟨w4.heap.size + 1, 0, none⟩) 1 1] rfl rfl _ _ hn5 zcf rfl (zcg _ _ _ _ _ _) ?_)
   refine bodyPost_ret (zcj rfl _ _ (w.heap.size + 1) _ #[.int .u32 na, .int .u32 nb, .int .u32 nc, .slice (some ⟨w4.heap.size + 1, 0, none⟩) 1 1] _ _ rfl (setRow_heap _ _ _ _ _ _ hn5) Tryz.underlying145 rfl zcf) rfl ?_
   refine HE.out _ _ (below_setRow HB5.out (by omega) _) ⟨w4.heap.size + 1, rfl, by omega, ?_, fun i => ?_, (IsText.of ⟨_, _, hc5⟩ (Go.setRow_other _ _ _ _ (by omega)))⟩
   · have := setRow_other ((w4.alloc (verO na nb nc (some ⟨w4.heap.size + 1, 0, none⟩) 1 1)).alloc (.cells #[.string ⟨#[48]⟩] 9)) (w.heap.size + 1) (w4.heap.size + 1) #[.int .u32 na, .int .u32 nb, .int .u32 nc, .slice (some ⟨w4.heap.size + 1, 0, none⟩) 1 1] (by omega)
     unfold World.cell?
     rw [this, hc5]
     rfl
   · have := setRow_other ((w4.alloc (verO na nb nc (some ⟨w4.heap.size + 1, 0, none⟩) 1 1)).alloc (.cells #[.string ⟨#[48]⟩] 9)) (w.heap.size + 1) (w4.heap.size + 1) #[.int .u32 na, .int .u32 nb, .int .u32 nc, .slice (some ⟨w4.heap.size + 1, 0, none⟩) 1 1] (by omega)
     unfold World.frozen?
     rw [this, hc5]
     simp
end VerC
end
end Go.Proofs.YtfbegbmjmhnplaaGreatDoor
