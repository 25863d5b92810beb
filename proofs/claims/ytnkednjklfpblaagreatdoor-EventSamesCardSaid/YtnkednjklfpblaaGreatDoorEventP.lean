/-
  Package event's reading of no bytes: its closures; the event that it answers; the fault over the reader's.
-/
import Derived.Test.YtnkednjklfpblaaGreatDoorEventN
import Derived.Test.YtnkednjklfpblaaGreatDoorErrTwo
namespace Go.Proofs.YtnkednjklfpblaaGreatDoor
open Go.RowKit Go.Sort
namespace EvN
open StrC EvF EvC EvA
set_option linter.unusedSimpArgs false
set_option linter.unusedVariables false

abbrev flt (f : Nat) : Value := .iface 63 (.pointer (some ⟨f, 0, none⟩))
abbrev pt (n : Nat) : Value := .pointer (some ⟨n, 0, none⟩)
abbrev kindV (n : Nat) : Value := .func (.func 46) #[] #[pt n]
abbrev textV (n : Nat) : Value := .func (.func 48) #[] #[pt n]
abbrev wordV (b : Nat) : Value := .func (.func 50) #[pt b] #[]
abbrev uintV (b : Nat) : Value := .func (.func 51) #[pt b] #[]
abbrev rdL (n b : Nat) : List Value := [kindV n, textV n, textV n, textV n, wordV b, uintV b]
abbrev rdgO (l : List Value) : Obj := .cells l.toArray 59
abbrev rdgZ : Obj := .cells #[.nilFunc, .nilFunc, .nilFunc, .nilFunc, .nilFunc, .nilFunc] 59
theorem info_rdg : (Tryz.prog.info? 59).map (·.size) = some 6 := by kernel_rfl
theorem kind_no (n b : Nat) (w : World) (hn : w.cell? ⟨n, 0, none⟩ = some (pt b)) (h : w.heap[b]? = some rdO) :
    Calls Tryz.prog 46 #[pt n] w fun e w' => ∃ f, e = .returned (.tuple #[.int .u8 0, flt f]) ∧ w.heap.size ≤ f ∧ w'.heap[f]? = some nilB ∧ Below w.heap.size w w' := by
  have HY := Lib.hid (byte_no b w h)
  clear h
  go_enter Tryz.func46, Tryz.ntmps46
  go_wp2_with fail
  refine HY.out.mono ?_
  rintro e w1 ⟨f, rfl, h1, h2, h3⟩
  have H1 := Lib.hid h1
  have H2 := Lib.hid h2
  have H3 := Lib.hid h3
  clear h1 h2 h3
  go_wp2_with fail
  go_ret2
  exact ⟨f, rfl, H1.out, H2.out, H3.out⟩
theorem out_no (b : Nat) (w : World) : Calls Tryz.prog 19 #[pt b] w fun e w' => e = .returned (.agg (rdL w.heap.size b).toArray) ∧ w'.heap[w.heap.size]? = some (.cells #[pt b] 52) ∧ Below w.heap.size w w' := by
  have h0 := heap_alloc_new w (.cells #[pt b] 52)
  have hz : ((w.alloc (.cells #[pt b] 52)).alloc rdgZ).heap[w.heap.size + 1]? = some rdgZ := by have := heap_alloc_new (w.alloc (.cells #[pt b] 52)) rdgZ; simpa using this
  have h1 : ((w.alloc (.cells #[pt b] 52)).alloc rdgZ).heap[w.heap.size]? = some (.cells #[pt b] 52) := by rw [heap_alloc_old _ _ (by simp)]; exact h0
  have HB0 : Hid (Below w.heap.size w ((w.alloc (.cells #[pt b] 52)).alloc rdgZ)) := Lib.hid (chW (alW w _) (alW _ _))
  have c0 : ((w.alloc (.cells #[pt b] 52)).alloc rdgZ).cell? ⟨w.heap.size, 0, none⟩ = some (pt b) := by simp [World.cell?, h1]
  have hinf := info_rdg
  have hone : ((rdL w.heap.size b).toArray.all (·.oneCell')) = true := by simp [Value.oneCell']
  have H1 := Lib.hid h1
  clear h1 h0
  go_enter Tryz.func19, Tryz.ntmps19
  go_wp2_with (first | (refine wpList_store_row rfl 59 _ _ rfl (w.heap.size + 1) (rdL w.heap.size b).toArray rfl rfl _ _ hz hinf rfl hone ?_) | fail)
  refine bodyPost_ret (res_cW rfl _ _ (w.heap.size + 1) _ (rdL w.heap.size b).toArray _ _ rfl (setRow_heap _ _ _ _ _ _ hz) Tryz.underlying59 rfl hinf) rfl ?_
  refine ⟨rfl, ?_, below_setRow HB0.out (by omega) _⟩
  exact ((below_setRow (Below.refl (w.heap.size + 1) ((w.alloc (.cells #[pt b] 52)).alloc rdgZ)) (Nat.le_refl _) _).block w.heap.size (by omega)).trans H1.out
theorem two_allocs (w : World) (x y : Obj) : ((w.alloc x).alloc y).heap[w.heap.size]? = some x ∧ ((w.alloc x).alloc y).heap[w.heap.size + 1]? = some y ∧ Below w.heap.size w ((w.alloc x).alloc y) ∧ ((w.alloc x).alloc y).heap.size = w.heap.size + 2 := by
  refine ⟨?_, ?_, chW (alW w _) (alW _ _), by simp⟩
  · rw [heap_alloc_old _ _ (by simp)]; exact heap_alloc_new w _
  · have := heap_alloc_new (w.alloc x) y; simpa using this
theorem intoS (pa : Addr) (fq : Fn) (bs cs : Array Value) (w : World) : Calls Tryz.prog 53 #[.pointer (some pa), .func fq bs cs] w fun e w' => (∃ n m, e = .returned (.func (.func 76) #[] #[pt n, pt m])) ∧ Below w.heap.size w w' := by
  have HB := Lib.hid (two_allocs w (.cells #[.pointer (some pa)] 97) (.cells #[.func fq bs cs] 55)).2.2.1
  go_enter Tryz.func53, Tryz.ntmps53
  go_wp2_with fail
  go_ret
  exact ⟨⟨_, _, rfl⟩, HB.out⟩
theorem intoN (pa : Addr) (fq : Fn) (bs cs : Array Value) (w : World) : Calls Tryz.prog 54 #[.pointer (some pa), .func fq bs cs] w fun e w' => (∃ n m, e = .returned (.func (.func 77) #[] #[pt n, pt m])) ∧ Below w.heap.size w w' := by
  have HB := Lib.hid (two_allocs w (.cells #[.pointer (some pa)] 99) (.cells #[.func fq bs cs] 100)).2.2.1
  go_enter Tryz.func54, Tryz.ntmps54
  go_wp2_with fail
  go_ret
  exact ⟨⟨_, _, rfl⟩, HB.out⟩
theorem intoU (pa : Addr) (fq : Fn) (bs cs : Array Value) (w : World) : Calls Tryz.prog 56 #[.pointer (some pa), .func fq bs cs] w fun e w' => (∃ n m, e = .returned (.func (.func 78) #[] #[pt n, pt m])) ∧ Below w.heap.size w w' := by
  have HB := Lib.hid (two_allocs w (.cells #[.pointer (some pa)] 102) (.cells #[.func fq bs cs] 56)).2.2.1
  go_enter Tryz.func56, Tryz.ntmps56
  go_wp2_with fail
  go_ret
  exact ⟨⟨_, _, rfl⟩, HB.out⟩
theorem intoV (pa : Addr) (fq : Fn) (bs cs : Array Value) (w : World) : Calls Tryz.prog 57 #[.pointer (some pa), .func fq bs cs] w fun e w' => (∃ n m, e = .returned (.func (.func 79) #[] #[pt n, pt m])) ∧ Below w.heap.size w w' := by
  have HB := Lib.hid (two_allocs w (.cells #[.pointer (some pa)] 104) (.cells #[.func fq bs cs] 105)).2.2.1
  go_enter Tryz.func57, Tryz.ntmps57
  go_wp2_with fail
  go_ret
  exact ⟨⟨_, _, rfl⟩, HB.out⟩
abbrev clV (n : Nat) : Value := .func (.func 80) #[] #[pt (n + 1), pt n]
theorem intoK (pa : Addr) (fq : Fn) (bs cs : Array Value) (w : World) : Calls Tryz.prog 59 #[.pointer (some pa), .func fq bs cs] w fun e w' => e = .returned (clV w.heap.size) ∧ w'.heap[w.heap.size]? = some (.cells #[.pointer (some pa)] 108) ∧ w'.heap[w.heap.size + 1]? = some (.cells #[.func fq bs cs] 54) ∧ Below w.heap.size w w' := by
  obtain ⟨h1, h2, h3, -⟩ := two_allocs w (.cells #[.pointer (some pa)] 108) (.cells #[.func fq bs cs] 54)
  have H1 := Lib.hid h1
  have H2 := Lib.hid h2
  have H3 := Lib.hid h3
  clear h1 h2 h3
  go_enter Tryz.func59, Tryz.ntmps59
  go_wp2_with fail
  go_ret
  exact ⟨by simp, H1.out, H2.out, H3.out⟩
def zE : EvG := kindE 0
/-- where an event's kind is 0, it is so yet -/
theorem kind_store {w : World} {g : Nat} (h : w.heap[g]? = some (evO zE)) : Below w.heap.size w (w.setCell ⟨g, 0, none⟩ (.int .u8 0)) := setCell_is h rfl
theorem cell_of1 {w : World} {g : Nat} {v : Value} {t : TypeId} (h : w.heap[g]? = some (.cells #[v] t)) : w.cell? ⟨g, 0, none⟩ = some v := by simp [World.cell?, h]
theorem intoK_run (m n b ev : Nat) (w : World) (h0 : w.heap[m]? = some (.cells #[pt ev] 108)) (h1 : w.heap[m + 1]? = some (.cells #[kindV n] 54)) (hn : w.heap[n]? = some (.cells #[pt b] 52)) (hb : w.heap[b]? = some rdO) (he : w.heap[ev]? = some (evO zE)) :
    Calls Tryz.prog 80 #[pt (m + 1), pt m] w fun e w' => ∃ f, e = .returned (flt f) ∧ w.heap.size ≤ f ∧ w'.heap[f]? = some nilB ∧ Below w.heap.size w w' := by
  have HKN : Hid (∀ W, Below w.heap.size w W → Calls Tryz.prog 46 #[pt n] W fun e w' => ∃ f, e = .returned (.tuple #[.int .u8 0, flt f]) ∧ W.heap.size ≤ f ∧ w'.heap[f]? = some nilB ∧ Below W.heap.size W w') := Lib.hid (fun W hw =>
    kind_no n b W (cell_of1 ((hw.block n (Array.getElem?_eq_some_iff.1 hn).1).trans hn)) ((hw.block b (Array.getElem?_eq_some_iff.1 hb).1).trans hb))
  have HC : Hid (∀ W, Below w.heap.size w W → W.cell? ⟨m, 0, none⟩ = some (pt ev) ∧ W.cell? ⟨m + 1, 0, none⟩ = some (kindV n)) := Lib.hid (fun W hw => ⟨cell_of1 ((hw.block m (Array.getElem?_eq_some_iff.1 h0).1).trans h0), cell_of1 ((hw.block (m + 1) (Array.getElem?_eq_some_iff.1 h1).1).trans h1)⟩)
  have HE : Hid (∀ W, Below w.heap.size w W → W.cell? ⟨ev, 0, none⟩ = some (.int .u8 0) ∧ W.frozen? ⟨ev, 0, none⟩ = false ∧ Below w.heap.size w (W.setCell ⟨ev, 0, none⟩ (.int .u8 0))) := Lib.hid (fun W hw => by
    have hk := (hw.block ev (Array.getElem?_eq_some_iff.1 he).1).trans he
    exact ⟨(ev_cells hk).1, no_frozen hk 0, hw.trans ((kind_store hk).mono hw.size)⟩)
  obtain ⟨c0, c1⟩ := HC.out w (Below.refl _ _)
  have HEL : Hid (ev < w.heap.size) := Lib.hid (Array.getElem?_eq_some_iff.1 he).1
  clear h0 h1 hn hb he
  go_enter Tryz.func80, Tryz.ntmps80
  go_wp2_with fail
  have HB0 : Hid (Below w.heap.size w w.drew) := Lib.hid (VerC.below_drew (Below.refl _ _))
  go_region_held3 (fun w' => w'.cell? ⟨m, 0, none⟩ = some (pt ev) ∧ w'.cell? ⟨m + 1, 0, none⟩ = some (kindV n))
    (first | exact ⟨c0, c1⟩ | exact ⟨VerC.cell_on _ c0, VerC.cell_on _ c1⟩ | exact hk3 | exact HC.out _ (HE.out _ HB3.out).2.2 | fail)
    (first
      | (go_at_call 46; refine (HKN.out _ HB0.out).mono ?_; rintro e w3 ⟨f, rfl, hf1, hf2, hb3⟩; have HB3 := Lib.hid (HB0.out.trans (hb3.mono HB0.out.size)); have hk3 := HC.out _ HB3.out; obtain ⟨e0, e1, -⟩ := HE.out _ HB3.out; have HF1 := Lib.hid hf1; have HF2 := Lib.hid hf2; clear hb3 hf1 hf2)
      | fail)
  all_goals (go_wp2_with fail)
  all_goals go_ret
  all_goals exact ⟨f, rfl, HF1.out, (set_else 0 _ (by have h1 : w.heap.size ≤ f := HF1.out; have h2 := HEL.out; omega)).trans HF2.out, (HE.out _ HB3.out).2.2⟩
theorem take_no (p m n b ev : Nat) (w : World) (hp : w.heap[p]? = some (.cells #[.nilIface] 38)) (h0 : w.heap[m]? = some (.cells #[pt ev] 108)) (h1 : w.heap[m + 1]? = some (.cells #[kindV n] 54)) (hn : w.heap[n]? = some (.cells #[pt b] 52)) (hb : w.heap[b]? = some rdO) (he : w.heap[ev]? = some (evO zE)) :
    Calls Tryz.prog 52 #[clV m, pt p] w fun e w' => ∃ f w1, e = .returned (.tuple #[]) ∧ w.heap.size ≤ f ∧ w1.heap[f]? = some nilB ∧ Below w.heap.size w w1 ∧ w' = w1.setCell ⟨p, 0, none⟩ (flt f) := by
  have HR := Lib.hid (intoK_run m n b ev w h0 h1 hn hb he)
  have HP : Hid (∀ W, Below w.heap.size w W → W.cell? ⟨p, 0, none⟩ = some .nilIface ∧ W.frozen? ⟨p, 0, none⟩ = false) := Lib.hid (fun W hw => by
    have hk := (hw.block p (Array.getElem?_eq_some_iff.1 hp).1).trans hp
    exact ⟨cell_of1 hk, no_frozen hk 0⟩)
  obtain ⟨c0, -⟩ := HP.out w (Below.refl _ _)
  clear hp h0 h1 hn hb he
  go_enter Tryz.func52, Tryz.ntmps52
  go_wp2_with fail
  refine HR.out.mono ?_
  rintro e w1 ⟨f, rfl, hf1, hf2, hb1⟩
  obtain ⟨k0, k1⟩ := HP.out w1 hb1
  have H1 := Lib.hid hf1
  have H2 := Lib.hid hf2
  have H3 := Lib.hid hb1
  clear hf1 hf2 hb1 c0
  go_wp2_with fail
  refine bodyPost_end (results_none rfl _ _ _) rfl ?_
  exact ⟨f, w1, rfl, H1.out, H2.out, H3.out, rfl⟩
end EvN
end Go.Proofs.YtnkednjklfpblaaGreatDoor
