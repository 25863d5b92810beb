/-
  Package span's stretches: all, of an interval, of a span; whether a version is in one; and back: one contract a function.
-/
import Derived.Test.YtgoocnmbihjmlaaGreatDoorSpanP
import Derived.Laws.AppendOwnNone
namespace Go.Proofs.YtgoocnmbihjmlaaGreatDoor
open Go.RowKit
namespace SpanC
open VerM SpanM StrC TextR VerC
set_option linter.unusedSimpArgs false

theorem no_text {w : World} {g : Nat} {cs : Array Value} {t : TypeId} {fr : Nat × Nat} (h : w.heap[g]? = some (.cells cs t fr)) (ht : t ≠ 9) : ¬ IsText w g := fun ⟨c, f, h2⟩ => by
  rw [h] at h2
  injection h2 with h2
  injection h2 with _ h2 _
  exact ht h2
/-- edges stay, where a block is written that is none of texts -/
theorem EdOk.keep {w w' : World} {x : EdR} (h : EdOk w x) {g : Nat} (hg : ¬ IsText w g) (hk : ∀ k, k < w.heap.size → k ≠ g → w'.heap[k]? = w.heap[k]?) : EdOk w' x := by
  have key : ∀ b f, x.a = some ⟨b, f, none⟩ → w'.heap[b]? = w.heap[b]? := fun b f e => hk b (h.kind b f e).lt (fun e2 => hg (e2 ▸ h.kind b f e))
  refine ⟨h.wf, ⟨h.txs.cap, h.txs.short, h.txs.few, fun h0 => ?_⟩, fun b f e => (h.kind b f e).of (key b f e), h.nil⟩
  obtain ⟨b, o, e, hc⟩ := h.txs.cells h0
  exact ⟨b, o, e, fun i hi => (World.cell?_of_block (a := ⟨b, o + i, none⟩) (key b o e)).trans (hc i hi)⟩
theorem StOk.keep {w w' : World} {x : StR} (h : StOk w x) {g : Nat} (hg : ¬ IsText w g) (hk : ∀ k, k < w.heap.size → k ≠ g → w'.heap[k]? = w.heap[k]?) : StOk w' x := ⟨h.f.keep hg hk, h.t.keep hg hk⟩
/-- all versions -/
def allS : St := ⟨⟨leastV zeroV, 0⟩, ⟨zeroV, 2⟩⟩
theorem least_may : may (leastV zeroV) = true := by rfl
theorem allS_wf : wfE allS.f ∧ wfE allS.t := ⟨⟨least_may, by decide, fun h => by cases h⟩, ⟨zeroV_may, by decide, fun _ => rfl⟩⟩
def allR (g : Nat) : StR := ⟨⟨leastV zeroV, some ⟨g, 0, none⟩, 1, 0⟩, ⟨zeroV, none, 0, 2⟩⟩
/-- what a call that makes a stretch answers -/
def StE (s : St) (w : World) (e : Ending) (w' : World) : Prop := ∃ r : StR, e = .returned (stV r) ∧ r.st = s ∧ StOk w' r ∧ Below w.heap.size w w'
set_option maxHeartbeats 4000000 in
set_option maxRecDepth 100000 in
theorem pall_any (w : World) : Calls Tryz.prog 54 #[] w (StE allS w) := by
  have HL := Lib.hid (fun w' => (pLeast_any zeroV none 0 w' (Txs.nil _ _ _)).mono fun e w'' (h : LeastE zeroV w' e w'') => (⟨h.2.2 zeroV_may, h.1⟩ : (∃ g, e = .returned (.tuple #[verV zeroV.a zeroV.b zeroV.c (some ⟨g, 0, none⟩) 1 1, .int .i64 0]) ∧ LeastI w' w'' g) ∧ Below w'.heap.size w' w''))
  have hn := heap_alloc_new w (.cells #[.int .u32 0, .int .u32 0, .int .u32 0, .slice none 0 0, .int .i64 0, .int .u32 0, .int .u32 0, .int .u32 0, .slice none 0 0, .int .i64 0] 84)
  have HB0 : Hid (Below w.heap.size w (w.alloc (.cells #[.int .u32 0, .int .u32 0, .int .u32 0, .slice none 0 0, .int .i64 0, .int .u32 0, .int .u32 0, .int .u32 0, .slice none 0 0, .int .i64 0] 84))) := Lib.hid ((Below.refl _ w).alloc (Nat.le_refl _) _)
  go_enter Tryz.func54, Tryz.ntmps54
  go_wp2_with fail
  generalize w.alloc (.cells #[.int .u32 0, .int .u32 0, .int .u32 0, .slice none 0 0, .int .i64 0, .int .u32 0, .int .u32 0, .int .u32 0, .slice none 0 0, .int .i64 0] 84) = W at *
  have hlt : w.heap.size < W.heap.size := (Array.getElem?_eq_some_iff.1 hn).1
  refine (HL.out W).mono ?_
  rintro e w1 ⟨⟨g, rfl, hL⟩, hb⟩
  refine Hid.out ?_
  refine Lib.hid ?_
  have hn1 := (hb.block _ hlt).trans hn
  have HI := Lib.hid hL
  have HB1 := Lib.hid (HB0.out.trans (hb.mono HB0.out.size))
  have hg : W.heap.size ≤ g := hL.ge
  have hl1 : w.heap.size < w1.heap.size := (Array.getElem?_eq_some_iff.1 hn1).1
  have hn2 := (heap_alloc_old w1 (verO 0 0 0 (some ⟨g, 0, none⟩) 1 1) (r := w.heap.size) hl1).trans hn1
  have HB2 := Lib.hid (HB1.out.alloc HB1.out.size (verO 0 0 0 (some ⟨g, 0, none⟩) 1 1))
  have HTX := Lib.hid (hL.txs.alloc (verO 0 0 0 (some ⟨g, 0, none⟩) 1 1))
  have HKI := Lib.hid (hL.kind.below ((Below.refl _ w1).alloc (Nat.le_refl _) (verO 0 0 0 (some ⟨g, 0, none⟩) 1 1)))
  clear hn hL hb hn1 HB0 HB1 HI hl1
  go_wp2_with (refine wpList_store_row rfl 84 _ _ rfl w.heap.size (stL (allR g)).toArray rfl rfl _ _ hn2 info_st rfl (st_one _) ?_)
  refine bodyPost_ret (results_cell_row rfl _ _ w.heap.size _ (stL (allR g)).toArray _ _ rfl (setRow_heap _ _ _ _ _ _ hn2) Tryz.underlying84 rfl info_st) rfl ?_
  exact ⟨allR g, rfl, rfl, StOk.keep ⟨⟨allS_wf.1, HTX.out, fun b f e => (by cases e; exact HKI.out), fun e => (by cases e)⟩, ⟨allS_wf.2, Txs.nil _ _ _, fun b f e => (by cases e), fun _ => ⟨rfl, rfl⟩⟩⟩ (no_text hn2 (by decide)) (fun k _ hk => Go.setRow_other _ _ _ _ hk), below_setRow HB2.out (Nat.le_refl _) _⟩
/-- a row of stretches of the call's own, or nil -/
def StRow (w : World) (B : Nat) (v : Value) (L : List StR) : Prop := w.ownsRow B 84 10 v L.length (L.flatMap stL)
def AllOk (w : World) (L : List StR) : Prop := ∀ x ∈ L, StOk w x
theorem AllOk.gr {w w' : World} {L : List StR} (h : AllOk w L) (g : Below w.heap.size w w') : AllOk w' L := fun x hx => (h x hx).gr g
theorem StRow.below {w w' : World} {B : Nat} {v : Value} {L : List StR} (h : StRow w B v L) (g : Below w.heap.size w w') : StRow w' B v L := World.ownsRow.kept h (grown_below g) (Classical.em _)
theorem StRow.value {w : World} {B : Nat} {v : Value} {L : List StR} (h : StRow w B v L) : ∃ a cp, v = .slice a L.length cp := by
  rcases h.2 with ⟨rfl, h0⟩ | ⟨g, cp, cur, rfl, _⟩
  · exact ⟨none, 0, by rw [h0]⟩
  · exact ⟨_, _, rfl⟩
theorem stL_length (x : StR) : (stL x).length = 10 := rfl
instance : Inhabited EdR := ⟨⟨⟨0, 0, 0, []⟩, none, 0, 0⟩⟩
instance : Inhabited StR := ⟨⟨default, default⟩⟩
/-- a row's elements, cell by cell -/
theorem StRow.at {w : World} {B : Nat} {a : Option Addr} {n cp : Nat} {L : List StR} (h : StRow w B (.slice a n cp) L) (i : Nat) (hi : i < L.length) : ∃ (g : Nat) (x : StR), x = L[i]! ∧ x ∈ L ∧ L[i]? = some x ∧ a = some ⟨g, 0, none⟩ ∧ n = L.length ∧ B ≤ g ∧ g < w.heap.size ∧ ¬ IsText w g ∧ (∀ j, w.frozen? ⟨g, j, none⟩ = false) ∧
    w.cell? ⟨g, i * 10, none⟩ = some (.int .u32 x.f.v.a) ∧ w.cell? ⟨g, i * 10 + 1, none⟩ = some (.int .u32 x.f.v.b) ∧ w.cell? ⟨g, i * 10 + 2, none⟩ = some (.int .u32 x.f.v.c) ∧ w.cell? ⟨g, i * 10 + 3, none⟩ = some (.slice x.f.a x.f.v.pre.length x.f.c) ∧ w.cell? ⟨g, i * 10 + 4, none⟩ = some (.int .i64 x.f.s) ∧
    w.cell? ⟨g, i * 10 + 5, none⟩ = some (.int .u32 x.t.v.a) ∧ w.cell? ⟨g, i * 10 + 6, none⟩ = some (.int .u32 x.t.v.b) ∧ w.cell? ⟨g, i * 10 + 7, none⟩ = some (.int .u32 x.t.v.c) ∧ w.cell? ⟨g, i * 10 + 8, none⟩ = some (.slice x.t.a x.t.v.pre.length x.t.c) ∧ w.cell? ⟨g, i * 10 + 9, none⟩ = some (.int .i64 x.t.s) := by
  have h' : w.ownsRow B 84 10 (.slice a n cp) L.length (L.flatMap stL) := h
  have hlt := h'.lt
  have h0 := h'
  obtain ⟨_, ⟨h1, h2⟩ | ⟨g, cp', cur, e1, hg0, hblk, _⟩⟩ := h'
  · omega
  simp only [Value.slice.injEq] at e1
  obtain ⟨rfl, rfl, rfl⟩ := e1
  have key : ∀ c, c < 10 → w.cell? ⟨g, i * 10 + c, none⟩ = some ((stL L[i]!)[c]!) := fun c hc => by
    rw [h0.cellAt (i * 10 + c) (by omega), RowKC.flat_get stL 10 stL_length L _ (by omega), show (i * 10 + c) / 10 = i from by omega, show (i * 10 + c) % 10 = c from by omega]
  have hx : L[i]? = some L[i]! := by rw [List.getElem?_eq_getElem hi, getElem!_pos L i hi]
  exact ⟨g, L[i]!, rfl, List.mem_of_getElem? hx, hx, rfl, rfl, hg0, (hlt g rfl).2, no_text hblk (by decide), fun j => h0.frozenAt j, key 0 (by omega), key 1 (by omega), key 2 (by omega), key 3 (by omega), key 4 (by omega), key 5 (by omega), key 6 (by omega), key 7 (by omega), key 8 (by omega), key 9 (by omega)⟩
/-- is a version in a stretch, in one of many? -/
def hasS (s : St) (v : Ver) : Bool := decide (cE s.f ⟨v, 0⟩ ≤ 0) && decide (cE ⟨v, 1⟩ s.t ≤ 0)
def hasL (l : List St) (v : Ver) : Bool := l.any fun s => hasS s v
theorem any_take {α : Type} (p : α → Bool) {L : List α} {k : Nat} {x : α} (h : L[k]? = some x) : (L.take (k + 1)).any p = ((L.take k).any p || p x) := by
  rw [List.take_add_one, List.any_append, h]; simp
set_option maxHeartbeats 4000000 in
set_option maxRecDepth 100000 in
theorem phas_any (v : Value) (L : List StR) (y : Ver) (a : Option Addr) (c : Nat) (w : World) (hr : StRow w 0 v L) (hok : AllOk w L) (hm : may y = true) (hT : Txs w a c y.pre) (hk : ∀ b f, a = some ⟨b, f, none⟩ → IsText w b) (hnl : a = none → y.pre.length = 0 ∧ c = 0) (hb : L.length ≤ 1000000) :
    Calls Tryz.prog 47 #[v, verV y.a y.b y.c a y.pre.length c] w fun e w' => e = .returned (.bool (hasL (L.map StR.st) y)) ∧ Below w.heap.size w w' := by
  obtain ⟨va, cp, rfl⟩ := hr.value
  have HR := Lib.hid hr
  have HOK := Lib.hid hok
  have HE0 : Hid (EdOk w ⟨y, a, c, 0⟩) := Lib.hid ⟨⟨hm, by show 0 ≤ 2; omega, fun h => by cases h⟩, hT, hk, hnl⟩
  have HE1 : Hid (EdOk w ⟨y, a, c, 1⟩) := Lib.hid ⟨⟨hm, by show 1 ≤ 2; omega, fun h => by cases h⟩, hT, hk, hnl⟩
  have hn := heap_alloc_new w (verO y.a y.b y.c a y.pre.length c)
  have HB0 : Hid (Below w.heap.size w (w.alloc (verO y.a y.b y.c a y.pre.length c))) := Lib.hid ((Below.refl _ w).alloc (Nat.le_refl _) _)
  have HN := Lib.hid hn
  clear hr hok hm hT hk hn hnl
  go_enter Tryz.func47, Tryz.ntmps47
  go_wp2_with fail
  go_loopw [6, 9] (fun _ i wr => ∃ k : Nat, i = .int .i64 k ∧ k ≤ L.length ∧ Hid (((L.map StR.st).take k).any (fun s => hasS s y) = false) ∧ Hid (Below w.heap.size w wr ∧ wr.heap[w.heap.size]? = some (verO y.a y.b y.c a y.pre.length c))) (fun _ i _ => L.length - (intOf i).toNat)
  case atStart => exact ⟨0, rfl, Nat.zero_le _, Lib.hid (by simp), Lib.hid ⟨HB0.out, HN.out⟩⟩
  case round =>
    obtain ⟨k, rfl, hk, HNO, HW⟩ := hrel
    rename World => wr
    by_cases hlt : k < L.length
    · have hdec : decide (k < L.length) = true := by simpa using hlt
      obtain ⟨g, x, hx, hxm, hxs, rfl, -, -, hg, -, -, c0, c1, c2, c3, c4, c5, c6, c7, c8, c9⟩ := (HR.out.below HW.out.1).at k hlt
      have HX := Lib.hid (And.intro hxm hxs)
      have hvl : w.heap.size < wr.heap.size := (Array.getElem?_eq_some_iff.1 HW.out.2).1
      have HV1 := Lib.hid ((heap_alloc_old wr (stO x) (r := w.heap.size) hvl).trans HW.out.2)
      obtain ⟨v0, v1, v2, v3⟩ := ver_cells HV1.out
      have HB1 := Lib.hid (HW.out.1.alloc HW.out.1.size (stO x))
      have hnx := heap_alloc_new wr (stO x)
      have hgx : wr.heap.size < (wr.alloc (stO x)).heap.size := by simp
      have HO1 := Lib.hid ((HOK.out x hxm).gr HB1.out)
      obtain ⟨q0, q1, q2, q3, q4, q5, q6, q7, q8, q9⟩ := st_cells hnx
      have HC1 := Lib.hid (fun w' (g : Below w.heap.size w w') => pcmp_any x.f ⟨y, a, c, 0⟩ w' ((HOK.out x hxm).gr g).f (HE0.out.gr g))
      have HC2 := Lib.hid (fun w' (g : Below w.heap.size w w') => pcmp_any ⟨y, a, c, 1⟩ x.t w' (HE1.out.gr g) ((HOK.out x hxm).gr g).t)
      obtain ⟨r1, hr1⟩ : ∃ r, cE x.f.ed ⟨y, 0⟩ = r := ⟨_, rfl⟩
      obtain ⟨r2, hr2⟩ : ∃ r, cE ⟨y, 1⟩ x.t.ed = r := ⟨_, rfl⟩
      have HS : Hid (hasS x.st y = (decide (r1 ≤ 0) && decide (r2 ≤ 0))) := Lib.hid (by rw [← hr1, ← hr2]; rfl)
      change Hid (∀ w', _ → Calls _ _ _ _ fun e w'' => e = .returned (.int .i64 (cE x.f.ed ⟨y, 0⟩)) ∧ _) at HC1
      change Hid (∀ w', _ → Calls _ _ _ _ fun e w'' => e = .returned (.int .i64 (cE ⟨y, 1⟩ x.t.ed)) ∧ _) at HC2
      rw [hr1] at HC1
      rw [hr2] at HC2
      clear hr1 hr2 hx hxm hxs
      have hany : Hid ((((L.map StR.st).take (k + 1)).any fun s => hasS s y) = (decide (r1 ≤ 0) && decide (r2 ≤ 0))) := Lib.hid (by
        rw [any_take (x := x.st) _ (by rw [List.getElem?_map, HX.out.2]; rfl), HNO.out, HS.out]; rfl)
      have HNX := Lib.hid hnx
      have HGX : Hid (wr.heap.size < (wr.alloc (stO x)).heap.size) := Lib.hid hgx
      clear hnx hvl hgx
      by_cases h1 : r1 ≤ 0
      · have d1 : decide (r1 ≤ 0) = true := decide_eq_true h1
        rw [d1, Bool.true_and] at hany
        go_wp2_with (go_at_call 74; refine (HC1.out _ HB1.out).mono ?_; rintro e w2 ⟨rfl, hg2⟩; refine Hid.out ?_)
        refine Lib.hid ?_
        have HB2 := Lib.hid (HB1.out.trans (hg2.below.mono HB1.out.size))
        have hV2 := (hg2.below.block _ (Array.getElem?_eq_some_iff.1 HV1.out).1).trans HV1.out
        have hX2 := (hg2.below.block _ HGX.out).trans HNX.out
        clear hg2 HGX HNX HV1 HC1 v0 v1 v2 v3 q0 q1 q2 q3 q4 q5 q6 q7 q8 q9 c0 c1 c2 c3 c4 c5 c6 c7 c8 c9
        obtain ⟨q0, q1, q2, q3, q4, q5, q6, q7, q8, q9⟩ := st_cells hX2
        obtain ⟨v0, v1, v2, v3⟩ := ver_cells hV2
        have HV2 := Lib.hid hV2
        clear hV2 hX2
        by_cases h2 : r2 ≤ 0
        · have d2 : decide (r2 ≤ 0) = true := decide_eq_true h2
          rw [d2] at hany
          have HF : Hid (hasL (L.map StR.st) y = true) := Lib.hid (by
            obtain ⟨s, hs, h⟩ := List.any_eq_true.1 hany.out
            exact List.any_eq_true.2 ⟨s, List.mem_of_mem_take hs, h⟩)
          go_wp2_with (go_at_call 74; refine (HC2.out _ HB2.out).mono ?_; rintro e w3 ⟨rfl, hg3⟩)
          go_ret
          exact ⟨by rw [HF.out]; rfl, HB2.out.trans (hg3.below.mono HB2.out.size)⟩
        · have d2 : decide (r2 ≤ 0) = false := decide_eq_false h2
          rw [d2] at hany
          go_wp2_with (go_at_call 74; refine (HC2.out _ HB2.out).mono ?_; rintro e w3 ⟨rfl, hg3⟩)
          go_roundw
          case rel => exact ⟨k + 1, by go_num, hlt, hany, Lib.hid ⟨HB2.out.trans (hg3.below.mono HB2.out.size), (hg3.below.block _ (Array.getElem?_eq_some_iff.1 HV2.out).1).trans HV2.out⟩⟩
          case measure => simp [intOf]; omega
      · have d1 : decide (r1 ≤ 0) = false := decide_eq_false h1
        rw [d1, Bool.false_and] at hany
        go_wp2_with (go_at_call 74; refine (HC1.out _ HB1.out).mono ?_; rintro e w2 ⟨rfl, hg2⟩)
        go_roundw
        case rel => exact ⟨k + 1, by go_num, hlt, hany, Lib.hid ⟨HB1.out.trans (hg2.below.mono HB1.out.size), (hg2.below.block _ (by have := HB1.out.size; have := (Array.getElem?_eq_some_iff.1 HV1.out).1; omega)).trans HV1.out⟩⟩
        case measure => simp [intOf]; omega
    · have hdec : decide (k < L.length) = false := by simpa using hlt
      have HF : Hid (hasL (L.map StR.st) y = false) := Lib.hid (by
        have h := HNO.out
        rw [List.take_of_length_le (by rw [List.length_map]; omega)] at h
        exact h)
      go_wp2_with fail
      go_ret
      exact ⟨by rw [HF.out]; rfl, HW.out.1⟩
end SpanC
end Go.Proofs.YtgoocnmbihjmlaaGreatDoor
