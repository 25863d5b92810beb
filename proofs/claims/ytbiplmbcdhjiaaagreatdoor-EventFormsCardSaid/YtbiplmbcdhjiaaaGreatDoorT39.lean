/-
  What the proof of EventForms stands on, part 39.
-/
import Derived.Test.YtbiplmbcdhjiaaaGreatDoorT38
set_option linter.unusedSimpArgs false
set_option linter.unusedVariables false
set_option maxHeartbeats 16000000
namespace Go.Proofs.YtbiplmbcdhjiaaaGreatDoor
open Go.Lib (hid)
section
open Go.RowKit Go.Extern.Stop Go.Stop Go.Extern
namespace ErrU
open ErrC
theorem ycn (v : Value) (xT : TypeId) (w : World) : (Instr.typeAssert (.iface 30 v) xT 176 true).run Tryz.prog w = .ok (.tuple #[.nilIface, .bool false]) w := run_typeAssert_lacksB Tryz.underlying176 (by kernel_rfl) (by kernel_rfl) v xT w
theorem yco (v : Value) (xT : TypeId) (w : World) : (Instr.typeAssert (.iface 30 v) xT 172 true).run Tryz.prog w = .ok (.tuple #[.nilIface, .bool false]) w := run_typeAssert_lacksB Tryz.underlying172 (by kernel_rfl) (by kernel_rfl) v xT w
theorem ycp (v : Value) (xT : TypeId) (w : World) : (Instr.typeAssert (.iface 30 v) xT 173 true).run Tryz.prog w = .ok (.tuple #[.nilIface, .bool false]) w := run_typeAssert_lacksB Tryz.underlying173 (by kernel_rfl) (by kernel_rfl) v xT w
theorem ycq (c k : Int) (hck : c ≠ k) (w : World) :
 Calls Tryz.prog 62 #[.iface 30 (.int .i64 c), .iface 30 (.int .i64 k), .bool true] w fun e w' => e = .returned (.bool false) ∧ w = w' := by
 have heq := yce c k
 have hb : (c == k) = false := beq_eq_false_iff_ne.2 hck
 have y1 := ycn
 have y2 := yco
 have y3 := ycp
 go_enter Tryz.func62, Tryz.ntmps62
 go_wp2_with fail
 refine wp_loop_rounds 1 ?_
 rw [rounds_succ]
 go_wp2
 go_ret
 exact ⟨rfl, rfl⟩
theorem ycr (b o : Nat) (c k : Int) (hck : c ≠ k) (w : World) (hc : w.cell? ⟨b, o, none⟩ = some (.int .i64 c)) (hu : w.cell? ⟨b, o + 3, none⟩ = some .nilIface) :
 Calls Tryz.prog 62 #[.iface 51 (.pointer (some ⟨b, o, none⟩)), .iface 30 (.int .i64 k), .bool true] w fun e w' => e = .returned (.bool false) ∧ w' = w.alloc (.cells #[.iface 30 (.int .i64 c)] 42) := by
 have y4 := ych
 have y5 := no_is
 have y6 := yci
 have y7 := ycj
 have y8 := run_eql_iface_types (P := Tryz.prog) 51 30 (.pointer (some ⟨b, o, none⟩)) (.int .i64 k) Tryz.underlying42 (by decide)
 go_enter Tryz.func62, Tryz.ntmps62
 go_wp2_with fail
 refine wp_loop_rounds 1 ?_
 rw [rounds_succ]
 go_wp2_with (go_at_call 328; refine (ycl _ _ _ _ hc hu).mono ?_; rintro e w' ⟨rfl, rfl⟩)
 refine wp_loop_rounds 2 ?_
 rw [rounds_succ]
 go_wp2_with (go_at_call 62; refine (ycq _ _ hck _).mono ?_; rintro e w' ⟨rfl, rfl⟩)
 rw [rounds_succ]
 go_wp2_with fail
 go_ret
 exact ⟨rfl, rfl⟩
theorem ycs (b o : Nat) (c k : Int) (hck : c ≠ k) (w : World) (hc : w.cell? ⟨b, o, none⟩ = some (.int .i64 c)) (hu : w.cell? ⟨b, o + 3, none⟩ = some .nilIface) :
 Calls Tryz.prog 24 #[.iface 51 (.pointer (some ⟨b, o, none⟩)), .iface 30 (.int .i64 k)] w fun e w' => e = .returned (.bool false) ∧ w' = w.alloc (.cells #[.iface 30 (.int .i64 c)] 42) := by
 have x1 := @run_callFunc_extern Tryz.prog 61 _ Extern.ReflectliteType.typeOf Tryz.func61 (by kernel_rfl) (by kernel_rfl) (by kernel_rfl) (by kernel_rfl)
 have y1 := to_en
 have y2 := ycg
 have y3 := m_cmp
 go_enter Tryz.func24, Tryz.ntmps24
 go_wp2_with (go_at_call 62; refine (ycr _ _ _ _ hck _ hc hu).mono ?_; rintro e w' ⟨rfl, rfl⟩)
 go_ret
 exact ⟨rfl, rfl⟩
abbrev fV (b : Nat) : Value := .iface 51 (.pointer (some ⟨b, 0, none⟩))
theorem yct {w : World} {b o : Nat} {v : Value} (O : Obj) (h : w.cell? ⟨b, o, none⟩ = some v) : (w.alloc O).cell? ⟨b, o, none⟩ = some v := by
 rw [World.cell?_alloc_old _ _ _ (Nat.ne_of_lt (World.block_lt_of_cell? _ _ h))]; exact h
theorem ycu (b : Nat) (c : Int) (t : TypeId) (u : Value) (w : World) (hc : w.cell? ⟨b, 0, none⟩ = some (.int .i64 c)) (hu : w.cell? ⟨b, 3, none⟩ = some (.iface t u)) :
 Calls Tryz.prog 328 #[.pointer (some ⟨b, 0, none⟩)] w fun e w' => e = .returned (.slice (some ⟨w.heap.size, 0, none⟩) 2 2) ∧ w'.cell? ⟨w.heap.size, 0, none⟩ = some (.iface 30 (.int .i64 c)) ∧ w'.cell? ⟨w.heap.size, 1, none⟩ = some (.iface t u) ∧ Below w.heap.size w w' := by
 go_enter Tryz.func328, Tryz.ntmps328
 go_wp2_with fail
 go_region_held3 (fun w' => w'.cell? ⟨b, 0, none⟩ = some (.int .i64 c) ∧ w'.cell? ⟨b, 3, none⟩ = some (.iface t u)) (first | exact ⟨hc, hu⟩ | exact ⟨yct _ hc, yct _ hu⟩ | fail) (first | fail)
 go_wp2_with fail
 go_ret
 have hb := (Below.refl w.heap.size w).alloc (Nat.le_refl _) (.cells #[.iface 30 (.int .i64 c), .iface t u] 42)
 refine ⟨rfl, ?_, ?_, ⟨hb.os, hb.tape, hb.output, hb.size, hb.block⟩⟩
 · show (w.alloc _).cell? _ = _
   rw [World.cell?_alloc_at _ _ _ _ rfl]; rfl
 · show (w.alloc _).cell? _ = _
   rw [World.cell?_alloc_at _ _ _ _ rfl]; rfl
theorem is_top (b : Nat) (c : Int) (t : TypeId) (u : Value) (w : World) (hc : w.cell? ⟨b, 0, none⟩ = some (.int .i64 c)) (hu : w.cell? ⟨b, 3, none⟩ = some (.iface t u)) :
 Calls Tryz.prog 62 #[fV b, .iface 30 (.int .i64 c), .bool true] w fun e w' => e = .returned (.bool true) ∧ Below w.heap.size w w' := by
 have y4 := ych
 have y5 := no_is
 have y6 := yci
 have y7 := ycj
 have y8 := run_eql_iface_types (P := Tryz.prog) 51 30 (.pointer (some ⟨b, 0, none⟩)) (.int .i64 c) Tryz.underlying42 (by decide)
 go_enter Tryz.func62, Tryz.ntmps62
 go_wp2_with fail
 refine wp_loop_rounds 1 ?_
 rw [rounds_succ]
 go_wp2_with (go_at_call 328; refine (ycu _ _ _ _ _ hc hu).mono ?_; rintro e w3 ⟨rfl, u0, u1, hb3⟩; have HB3 := hid hb3; clear hb3)
 refine wp_loop_rounds 1 ?_
 rw [rounds_succ]
 go_wp2_with (go_at_call 62; refine (yck _ _).mono ?_; rintro e w' ⟨rfl, rfl⟩)
 go_ret
 exact ⟨rfl, HB3.out⟩
theorem ycv (b b2 : Nat) (c k : Int) (hck : c ≠ k) (w : World) (hc : w.cell? ⟨b, 0, none⟩ = some (.int .i64 c)) (hu : w.cell? ⟨b, 3, none⟩ = some (fV b2)) (hc2 : w.cell? ⟨b2, 0, none⟩ = some (.int .i64 k)) (hu2 : w.cell? ⟨b2, 3, none⟩ = some .nilIface) :
 Calls Tryz.prog 62 #[fV b, .iface 30 (.int .i64 k), .bool true] w fun e w' => e = .returned (.bool true) ∧ Below w.heap.size w w' := by
 have y4 := ych
 have y5 := no_is
 have y6 := yci
 have y7 := ycj
 have y8 := run_eql_iface_types (P := Tryz.prog) 51 30 (.pointer (some ⟨b, 0, none⟩)) (.int .i64 k) Tryz.underlying42 (by decide)
 have HI : Hid (∀ W, Below w.heap.size w W → Calls Tryz.prog 62 #[fV b2, .iface 30 (.int .i64 k), .bool true] W fun e w' => e = .returned (.bool true) ∧ Below W.heap.size W w') := hid (fun W g =>
  (ycm b2 0 k W ((g.cell (World.block_lt_of_cell? _ _ hc2)).trans hc2) ((g.cell (World.block_lt_of_cell? _ _ hu2)).trans hu2)).mono (by
    rintro e w' ⟨rfl, rfl⟩
    exact ⟨rfl, (Below.refl _ _).alloc (Nat.le_refl _) _⟩))
 go_enter Tryz.func62, Tryz.ntmps62
 go_wp2_with fail
 refine wp_loop_rounds 1 ?_
 rw [rounds_succ]
 go_wp2_with (go_at_call 328; refine (ycu _ _ _ _ _ hc hu).mono ?_; rintro e w3 ⟨rfl, u0, u1, hb3⟩; have HB3 := hid hb3; clear hb3)
 refine wp_loop_rounds 2 ?_
 rw [rounds_succ]
 go_wp2_with (go_at_call 62; refine (ycq _ _ hck _).mono ?_; rintro e w' ⟨rfl, rfl⟩)
 rw [rounds_succ]
 go_wp2_with fail
 refine (HI.out _ HB3.out).mono ?_
 rintro e w' ⟨rfl, hb⟩
 go_wp2_with fail
 go_ret
 exact ⟨rfl, HB3.out.trans (hb.mono HB3.out.size)⟩
theorem is_two (b : Nat) (c : Int) (t : TypeId) (u : Value) (w : World) (hc : w.cell? ⟨b, 0, none⟩ = some (.int .i64 c)) (hu : w.cell? ⟨b, 3, none⟩ = some (.iface t u)) :
 Calls Tryz.prog 24 #[fV b, .iface 30 (.int .i64 c)] w fun e w' => e = .returned (.bool true) ∧ Below w.heap.size w w' := by
 have x1 := @run_callFunc_extern Tryz.prog 61 _ Extern.ReflectliteType.typeOf Tryz.func61 (by kernel_rfl) (by kernel_rfl) (by kernel_rfl) (by kernel_rfl)
 have y1 := to_en
 have y2 := ycg
 have y3 := m_cmp
 go_enter Tryz.func24, Tryz.ntmps24
 go_wp2_with (go_at_call 62; refine (is_top b c t u w hc hu).mono ?_; rintro e w' ⟨rfl, hb⟩)
 go_ret
 exact ⟨rfl, hb⟩
theorem ycw (b b2 : Nat) (c k : Int) (hck : c ≠ k) (w : World) (hc : w.cell? ⟨b, 0, none⟩ = some (.int .i64 c)) (hu : w.cell? ⟨b, 3, none⟩ = some (fV b2)) (hc2 : w.cell? ⟨b2, 0, none⟩ = some (.int .i64 k)) (hu2 : w.cell? ⟨b2, 3, none⟩ = some .nilIface) :
 Calls Tryz.prog 24 #[fV b, .iface 30 (.int .i64 k)] w fun e w' => e = .returned (.bool true) ∧ Below w.heap.size w w' := by
 have x1 := @run_callFunc_extern Tryz.prog 61 _ Extern.ReflectliteType.typeOf Tryz.func61 (by kernel_rfl) (by kernel_rfl) (by kernel_rfl) (by kernel_rfl)
 have y1 := to_en
 have y2 := ycg
 have y3 := m_cmp
 go_enter Tryz.func24, Tryz.ntmps24
 go_wp2_with (go_at_call 62; refine (ycv b b2 c k hck w hc hu hc2 hu2).mono ?_; rintro e w' ⟨rfl, hb⟩)
 go_ret
 exact ⟨rfl, hb⟩
end ErrU
end
section
open Go.RowKit Go.Sort
namespace EvN
open StrC EvF EvC EvA
abbrev flt (f : Nat) : Value := .iface 51 (.pointer (some ⟨f, 0, none⟩))
abbrev pt (n : Nat) : Value := .pointer (some ⟨n, 0, none⟩)
abbrev kindV (n : Nat) : Value := .func (.func 91) #[] #[pt n]
abbrev textV (n : Nat) : Value := .func (.func 93) #[] #[pt n]
abbrev wordV (b : Nat) : Value := .func (.func 95) #[pt b] #[]
abbrev uintV (b : Nat) : Value := .func (.func 96) #[pt b] #[]
abbrev rdL (n b : Nat) : List Value := [kindV n, textV n, textV n, textV n, wordV b, uintV b]
abbrev rdgO (l : List Value) : Obj := .cells l.toArray 89
abbrev rdgZ : Obj := .cells #[.nilFunc, .nilFunc, .nilFunc, .nilFunc, .nilFunc, .nilFunc] 89
theorem ycx : (Tryz.prog.info? 89).map (·.size) = some 6 := by kernel_rfl
theorem kind_no (n b : Nat) (w : World) (hn : w.cell? ⟨n, 0, none⟩ = some (pt b)) (h : w.heap[b]? = some rdO) :
 Calls Tryz.prog 91 #[pt n] w fun e w' => ∃ f, e = .returned (.tuple #[.int .u8 0, flt f]) ∧ w.heap.size ≤ f ∧ w'.heap[f]? = some nilB ∧ Below w.heap.size w w' := by
 have HY := hid (byte_no b w h)
 clear h
 go_enter Tryz.func91, Tryz.ntmps91
 go_wp2_with fail
 refine HY.out.mono ?_
 rintro e w1 ⟨f, rfl, h1, h2, h3⟩
 have H1 := hid h1
 have H2 := hid h2
 have H3 := hid h3
 clear h1 h2 h3
 go_wp2_with fail
 go_ret2
 exact ⟨f, rfl, H1.out, H2.out, H3.out⟩
theorem out_no (b : Nat) (w : World) : Calls Tryz.prog 50 #[pt b] w fun e w' => e = .returned (.agg (rdL w.heap.size b).toArray) ∧ w'.heap[w.heap.size]? = some (.cells #[pt b] 82) ∧ Below w.heap.size w w' := by
 have h0 := heap_alloc_new w (.cells #[pt b] 82)
 have hz : ((w.alloc (.cells #[pt b] 82)).alloc rdgZ).heap[w.heap.size + 1]? = some rdgZ := by have := heap_alloc_new (w.alloc (.cells #[pt b] 82)) rdgZ; simpa using this
 have h1 : ((w.alloc (.cells #[pt b] 82)).alloc rdgZ).heap[w.heap.size]? = some (.cells #[pt b] 82) := by rw [heap_alloc_old _ _ (by simp)]; exact h0
 have HB0 : Hid (Below w.heap.size w ((w.alloc (.cells #[pt b] 82)).alloc rdgZ)) := hid (chW (alW w _) (alW _ _))
 have c0 : ((w.alloc (.cells #[pt b] 82)).alloc rdgZ).cell? ⟨w.heap.size, 0, none⟩ = some (pt b) := by simp [World.cell?, h1]
 have hinf := ycx
 have hone : ((rdL w.heap.size b).toArray.all (·.oneCell')) = true := by simp [Value.oneCell']
 have H1 := hid h1
 clear h1 h0
 go_enter Tryz.func50, Tryz.ntmps50
 go_wp2_with (first | (refine wpList_store_row rfl 89 _ _ rfl (w.heap.size + 1) (rdL w.heap.size b).toArray rfl rfl _ _ hz hinf rfl hone ?_) | fail)
 refine bodyPost_ret (zza rfl _ _ (w.heap.size + 1) _ (rdL w.heap.size b).toArray _ _ rfl (setRow_heap _ _ _ _ _ _ hz) Tryz.underlying89 rfl hinf) rfl ?_
 refine ⟨rfl, ?_, below_setRow HB0.out (by omega) _⟩
 exact ((below_setRow (Below.refl (w.heap.size + 1) ((w.alloc (.cells #[pt b] 82)).alloc rdgZ)) (Nat.le_refl _) _).block w.heap.size (by omega)).trans H1.out
theorem ycy (w : World) (x y : Obj) : ((w.alloc x).alloc y).heap[w.heap.size]? = some x ∧ ((w.alloc x).alloc y).heap[w.heap.size + 1]? = some y ∧ Below w.heap.size w ((w.alloc x).alloc y) ∧ ((w.alloc x).alloc y).heap.size = w.heap.size + 2 := by
 refine ⟨?_, ?_, chW (alW w _) (alW _ _), by simp⟩
 · rw [heap_alloc_old _ _ (by simp)]; exact heap_alloc_new w _
 · have := heap_alloc_new (w.alloc x) y; simpa using this
theorem intoS (pa : Addr) (fq : Fn) (bs cs : Array Value) (w : World) : Calls Tryz.prog 98 #[.pointer (some pa), .func fq bs cs] w fun e w' => (∃ n m, e = .returned (.func (.func 134) #[] #[pt n, pt m])) ∧ Below w.heap.size w w' := by
 have HB := hid (ycy w (.cells #[.pointer (some pa)] 145) (.cells #[.func fq bs cs] 85)).2.2.1
 go_enter Tryz.func98, Tryz.ntmps98
 go_wp2_with fail
 go_ret
 exact ⟨⟨_, _, rfl⟩, HB.out⟩
theorem intoN (pa : Addr) (fq : Fn) (bs cs : Array Value) (w : World) : Calls Tryz.prog 99 #[.pointer (some pa), .func fq bs cs] w fun e w' => (∃ n m, e = .returned (.func (.func 135) #[] #[pt n, pt m])) ∧ Below w.heap.size w w' := by
 have HB := hid (ycy w (.cells #[.pointer (some pa)] 147) (.cells #[.func fq bs cs] 148)).2.2.1
 go_enter Tryz.func99, Tryz.ntmps99
 go_wp2_with fail
 go_ret
 exact ⟨⟨_, _, rfl⟩, HB.out⟩
theorem intoU (pa : Addr) (fq : Fn) (bs cs : Array Value) (w : World) : Calls Tryz.prog 101 #[.pointer (some pa), .func fq bs cs] w fun e w' => (∃ n m, e = .returned (.func (.func 136) #[] #[pt n, pt m])) ∧ Below w.heap.size w w' := by
 have HB := hid (ycy w (.cells #[.pointer (some pa)] 150) (.cells #[.func fq bs cs] 86)).2.2.1
 go_enter Tryz.func101, Tryz.ntmps101
 go_wp2_with fail
 go_ret
 exact ⟨⟨_, _, rfl⟩, HB.out⟩
theorem intoV (pa : Addr) (fq : Fn) (bs cs : Array Value) (w : World) : Calls Tryz.prog 102 #[.pointer (some pa), .func fq bs cs] w fun e w' => (∃ n m, e = .returned (.func (.func 137) #[] #[pt n, pt m])) ∧ Below w.heap.size w w' := by
 have HB := hid (ycy w (.cells #[.pointer (some pa)] 152) (.cells #[.func fq bs cs] 153)).2.2.1
 go_enter Tryz.func102, Tryz.ntmps102
 go_wp2_with fail
 go_ret
 exact ⟨⟨_, _, rfl⟩, HB.out⟩
abbrev clV (n : Nat) : Value := .func (.func 138) #[] #[pt (n + 1), pt n]
theorem intoK (pa : Addr) (fq : Fn) (bs cs : Array Value) (w : World) : Calls Tryz.prog 104 #[.pointer (some pa), .func fq bs cs] w fun e w' => e = .returned (clV w.heap.size) ∧ w'.heap[w.heap.size]? = some (.cells #[.pointer (some pa)] 156) ∧ w'.heap[w.heap.size + 1]? = some (.cells #[.func fq bs cs] 84) ∧ Below w.heap.size w w' := by
 obtain ⟨h1, h2, h3, -⟩ := ycy w (.cells #[.pointer (some pa)] 156) (.cells #[.func fq bs cs] 84)
 have H1 := hid h1
 have H2 := hid h2
 have H3 := hid h3
 clear h1 h2 h3
 go_enter Tryz.func104, Tryz.ntmps104
 go_wp2_with fail
 go_ret
 exact ⟨by simp, H1.out, H2.out, H3.out⟩
def zE : EvG := kindE 0
theorem ycz {w : World} {g : Nat} (h : w.heap[g]? = some (evO zE)) : Below w.heap.size w (w.setCell ⟨g, 0, none⟩ (.int .u8 0)) := yca h rfl
theorem yda {w : World} {g : Nat} {v : Value} {t : TypeId} (h : w.heap[g]? = some (.cells #[v] t)) : w.cell? ⟨g, 0, none⟩ = some v := by simp [World.cell?, h]
theorem ydb (m n b ev : Nat) (w : World) (h0 : w.heap[m]? = some (.cells #[pt ev] 156)) (h1 : w.heap[m + 1]? = some (.cells #[kindV n] 84)) (hn : w.heap[n]? = some (.cells #[pt b] 82)) (hb : w.heap[b]? = some rdO) (he : w.heap[ev]? = some (evO zE)) :
 Calls Tryz.prog 138 #[pt (m + 1), pt m] w fun e w' => ∃ f, e = .returned (flt f) ∧ w.heap.size ≤ f ∧ w'.heap[f]? = some nilB ∧ Below w.heap.size w w' := by
 have HKN : Hid (∀ W, Below w.heap.size w W → Calls Tryz.prog 91 #[pt n] W fun e w' => ∃ f, e = .returned (.tuple #[.int .u8 0, flt f]) ∧ W.heap.size ≤ f ∧ w'.heap[f]? = some nilB ∧ Below W.heap.size W w') := hid (fun W hw =>
  kind_no n b W (yda ((hw.block n (Array.getElem?_eq_some_iff.1 hn).1).trans hn)) ((hw.block b (Array.getElem?_eq_some_iff.1 hb).1).trans hb))
 have HC : Hid (∀ W, Below w.heap.size w W → W.cell? ⟨m, 0, none⟩ = some (pt ev) ∧ W.cell? ⟨m + 1, 0, none⟩ = some (kindV n)) := hid (fun W hw => ⟨yda ((hw.block m (Array.getElem?_eq_some_iff.1 h0).1).trans h0), yda ((hw.block (m + 1) (Array.getElem?_eq_some_iff.1 h1).1).trans h1)⟩)
 have HE : Hid (∀ W, Below w.heap.size w W → W.cell? ⟨ev, 0, none⟩ = some (.int .u8 0) ∧ W.frozen? ⟨ev, 0, none⟩ = false ∧ Below w.heap.size w (W.setCell ⟨ev, 0, none⟩ (.int .u8 0))) := hid (fun W hw => by
  have hk := (hw.block ev (Array.getElem?_eq_some_iff.1 he).1).trans he
  exact ⟨(ztd hk).1, zts hk 0, hw.trans ((ycz hk).mono hw.size)⟩)
 obtain ⟨c0, c1⟩ := HC.out w (Below.refl _ _)
 have HEL : Hid (ev < w.heap.size) := hid (Array.getElem?_eq_some_iff.1 he).1
 clear h0 h1 hn hb he
 go_enter Tryz.func138, Tryz.ntmps138
 go_wp2_with fail
 have HB0 : Hid (Below w.heap.size w w.drew) := hid (VerC.zgk (Below.refl _ _))
 go_region_held3 (fun w' => w'.cell? ⟨m, 0, none⟩ = some (pt ev) ∧ w'.cell? ⟨m + 1, 0, none⟩ = some (kindV n))
  (first | exact ⟨c0, c1⟩ | exact ⟨VerC.zcu _ c0, VerC.zcu _ c1⟩ | exact hk3 | exact HC.out _ (HE.out _ HB3.out).2.2 | fail)
  (first
    | (go_at_call 91; refine (HKN.out _ HB0.out).mono ?_; rintro e w3 ⟨f, rfl, hf1, hf2, hb3⟩; have HB3 := hid (HB0.out.trans (hb3.mono HB0.out.size)); have hk3 := HC.out _ HB3.out; obtain ⟨e0, e1, -⟩ := HE.out _ HB3.out; have HF1 := hid hf1; have HF2 := hid hf2; clear hb3 hf1 hf2)
    | fail)
 all_goals (go_wp2_with fail)
 all_goals go_ret
 all_goals exact ⟨f, rfl, HF1.out, (ztr 0 _ (by have h1 : w.heap.size ≤ f := HF1.out; have h2 := HEL.out; omega)).trans HF2.out, (HE.out _ HB3.out).2.2⟩
theorem take_no (p m n b ev : Nat) (w : World) (hp : w.heap[p]? = some (.cells #[.nilIface] 42)) (h0 : w.heap[m]? = some (.cells #[pt ev] 156)) (h1 : w.heap[m + 1]? = some (.cells #[kindV n] 84)) (hn : w.heap[n]? = some (.cells #[pt b] 82)) (hb : w.heap[b]? = some rdO) (he : w.heap[ev]? = some (evO zE)) :
 Calls Tryz.prog 97 #[clV m, pt p] w fun e w' => ∃ f w1, e = .returned (.tuple #[]) ∧ w.heap.size ≤ f ∧ w1.heap[f]? = some nilB ∧ Below w.heap.size w w1 ∧ w' = w1.setCell ⟨p, 0, none⟩ (flt f) := by
 have HR := hid (ydb m n b ev w h0 h1 hn hb he)
 have HP : Hid (∀ W, Below w.heap.size w W → W.cell? ⟨p, 0, none⟩ = some .nilIface ∧ W.frozen? ⟨p, 0, none⟩ = false) := hid (fun W hw => by
  have hk := (hw.block p (Array.getElem?_eq_some_iff.1 hp).1).trans hp
  exact ⟨yda hk, zts hk 0⟩)
 obtain ⟨c0, -⟩ := HP.out w (Below.refl _ _)
 clear hp h0 h1 hn hb he
 go_enter Tryz.func97, Tryz.ntmps97
 go_wp2_with fail
 refine HR.out.mono ?_
 rintro e w1 ⟨f, rfl, hf1, hf2, hb1⟩
 obtain ⟨k0, k1⟩ := HP.out w1 hb1
 have H1 := hid hf1
 have H2 := hid hf2
 have H3 := hid hb1
 clear hf1 hf2 hb1 c0
 go_wp2_with fail
 refine bodyPost_end (results_none rfl _ _ _) rfl ?_
 exact ⟨f, w1, rfl, H1.out, H2.out, H3.out, rfl⟩
end EvN
end
end Go.Proofs.YtbiplmbcdhjiaaaGreatDoor
