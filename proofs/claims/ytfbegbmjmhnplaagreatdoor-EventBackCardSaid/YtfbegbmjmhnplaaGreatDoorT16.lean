/-
  What the proof of EvBoth stands on, part 16.
-/
import Derived.Test.YtfbegbmjmhnplaaGreatDoorT15
set_option linter.unusedSimpArgs false
set_option linter.unusedVariables false
set_option maxHeartbeats 16000000
namespace Go.Proofs.YtfbegbmjmhnplaaGreatDoor
open Go.Lib (hid)
section
open Go.RowKit
namespace EvS
open StrC EvA EvC
structure Oth (b : Nat) (w w' : World) : Prop where
 os : w'.os = w.os
 tape : w'.tape = w.tape
 output : w'.output = w.output
 size : w.heap.size ≤ w'.heap.size
 block : ∀ k, k < w.heap.size → k ≠ b → w'.heap[k]? = w.heap[k]?
theorem Oth.refl (b : Nat) (w : World) : Oth b w w := ⟨rfl, rfl, rfl, Nat.le_refl _, fun _ _ _ => rfl⟩
theorem Oth.trans {b : Nat} {x y z : World} (h : Oth b x y) (k : Oth b y z) : Oth b x z :=
 ⟨k.os.trans h.os, k.tape.trans h.tape, k.output.trans h.output, Nat.le_trans h.size k.size, fun i hi hb => (k.block i (Nat.lt_of_lt_of_le hi h.size) hb).trans (h.block i hi hb)⟩
theorem Oth.of_below {b : Nat} {w w' : World} (h : Below w.heap.size w w') : Oth b w w' := ⟨h.os, h.tape, h.output, h.size, fun i hi _ => h.block i hi⟩
theorem Oth.drew (b : Nat) (w : World) : Oth b w w.drew := ⟨rfl, rfl, rfl, Nat.le_refl _, fun _ _ _ => rfl⟩
structure Oth3 (b e f : Nat) (w w' : World) : Prop where
 os : w'.os = w.os
 tape : w'.tape = w.tape
 output : w'.output = w.output
 size : w.heap.size ≤ w'.heap.size
 block : ∀ k, k < w.heap.size → k ≠ b → k ≠ e → k ≠ f → w'.heap[k]? = w.heap[k]?
theorem Oth3.refl (b e f : Nat) (w : World) : Oth3 b e f w w := ⟨rfl, rfl, rfl, Nat.le_refl _, fun _ _ _ _ _ => rfl⟩
theorem Oth3.trans {b e f : Nat} {x y z : World} (h : Oth3 b e f x y) (k : Oth3 b e f y z) : Oth3 b e f x z :=
 ⟨k.os.trans h.os, k.tape.trans h.tape, k.output.trans h.output, Nat.le_trans h.size k.size, fun i hi hb he hf => (k.block i (Nat.lt_of_lt_of_le hi h.size) hb he hf).trans (h.block i hi hb he hf)⟩
theorem Oth.to3 {b : Nat} (e f : Nat) {w w' : World} (h : Oth b w w') : Oth3 b e f w w' := ⟨h.os, h.tape, h.output, h.size, fun k hk hb _ _ => h.block k hk hb⟩
theorem Oth3.set_e {b e f : Nat} {w w' : World} (h : Oth3 b e f w w') (i : Nat) (v : Value) : Oth3 b e f w (w'.setCell ⟨e, i, none⟩ v) :=
 ⟨h.os, h.tape, h.output, by simpa using h.size, fun k hk hb he hf => (zpd i v he).trans (h.block k hk hb he hf)⟩
theorem Oth3.set_f {b e f : Nat} {w w' : World} (h : Oth3 b e f w w') (i : Nat) (v : Value) : Oth3 b e f w (w'.setCell ⟨f, i, none⟩ v) :=
 ⟨h.os, h.tape, h.output, by simpa using h.size, fun k hk hb he hf => (zpd i v hf).trans (h.block k hk hb he hf)⟩
structure Src {σ : Type} (b L : Nat) (St : World → σ → Prop) (IsE : World → World → Value → Nat → Nat → Prop) : Prop where
 lt : b < L
 stay : ∀ {W W' : World} {x : σ}, St W x → (∀ j, j < L → W'.heap[j]? = W.heap[j]?) → St W' x
 keep : ∀ {W0 W W' : World} {v : Value} {c a : Nat}, IsE W0 W v c a → W.heap.size ≤ W'.heap.size → (∀ j, W0.heap.size ≤ j → j < W.heap.size → W'.heap[j]? = W.heap[j]?) → IsE W0 W' v c a
 up : ∀ {W0 W1 W : World} {v : Value} {c a : Nat}, IsE W1 W v c a → W0.heap.size ≤ W1.heap.size → IsE W0 W v c a
 none_ : ∀ {W0 W : World} {v : Value} {a : Nat}, IsE W0 W v 0 a → v = .nilIface
 nil_ : ∀ {W0 W : World} {a : Nat}, IsE W0 W .nilIface 0 a
 some_ : ∀ {W0 W : World} {v : Value} {c a : Nat}, c ≠ 0 → IsE W0 W v c a → ∃ t u, v = .iface t u
def Part {σ α : Type} (C : α → Value) (b L : Nat) (St : World → σ → Prop) (IsE : World → World → Value → Nat → Nat → Prop) (F : FuncId) (args : Array Value) (r : σ → α × Nat × Nat × σ) : Prop :=
 ∀ W x, L ≤ W.heap.size → St W x → Calls Tryz.prog F args W fun e w' => ∃ ev, e = .returned (.tuple #[C (r x).1, ev]) ∧ IsE W w' ev (r x).2.1 (r x).2.2.1 ∧ St w' (r x).2.2.2 ∧ Oth b W w'
def PartN {σ : Type} (b L : Nat) (St : World → σ → Prop) (IsE : World → World → Value → Nat → Nat → Prop) (F : FuncId) (args : Array Value) (r : σ → List (B × B) × Nat × Nat × σ) : Prop :=
 ∀ W x, L ≤ W.heap.size → St W x → Calls Tryz.prog F args W fun e w' => ∃ ev a c, e = .returned (.tuple #[.slice a (r x).1.length c, ev]) ∧ NeIn w' a c (r x).1 ∧ (∀ g, a = some g → W.heap.size ≤ g.block) ∧ IsE W w' ev (r x).2.1 (r x).2.2.1 ∧ St w' (r x).2.2.2 ∧ Oth b W w'
def EntS (F : FuncId) : Prop := ∀ (args : Array Value) (w : World), Sem.run Tryz.prog (callFunc F args) w = .ok (.enter F args) w
abbrev ptS (n : Nat) : Value := .pointer (some ⟨n, 0, none⟩)
abbrev cloV (I : FuncId) (n : Nat) : Value := .func (.func I) #[] #[ptS (n + 1), ptS n]
def IntoE {σ α : Type} (C : α → Value) (b : Nat) (St : World → σ → Prop) (IsE : World → World → Value → Nat → Nat → Prop) (r : α × Nat × Nat × σ) (pa : Addr) (W : World) (e : Ending) (w' : World) : Prop :=
 ∃ v w1, e = .returned v ∧ IsE W w1 v r.2.1 r.2.2.1 ∧ St w1 r.2.2.2 ∧ Oth b W w1 ∧ w' = w1.setCell pa (C r.1)
def IntoN {σ : Type} (b : Nat) (St : World → σ → Prop) (IsE : World → World → Value → Nat → Nat → Prop) (r : List (B × B) × Nat × Nat × σ) (pa : Addr) (W : World) (e : Ending) (w' : World) : Prop :=
 ∃ v w1 a c, e = .returned v ∧ NeIn w1 a c r.1 ∧ (∀ g, a = some g → W.heap.size ≤ g.block) ∧ IsE W w1 v r.2.1 r.2.2.1 ∧ St w1 r.2.2.2 ∧ Oth b W w1 ∧ w' = w1.setCell pa (.slice a r.1.length c)
theorem cell1 {w : World} {g : Nat} {v : Value} {t : TypeId} (h : w.heap[g]? = some (.cells #[v] t)) : w.cell? ⟨g, 0, none⟩ = some v := by simp [World.cell?, h]
theorem zpf {w : World} {g : Nat} {o : Obj} (h : w.heap[g]? = some o) : g < w.heap.size := (Array.getElem?_eq_some_iff.1 h).1
theorem zpg {w : World} {g i : Nat} {cs : Array Value} {t : TypeId} (h : w.heap[g]? = some (.cells cs t)) : w.frozen? ⟨g, i, none⟩ = false := by unfold World.frozen?; simp only [h]; rfl
theorem zph {b L n ev i : Nat} {F : FuncId} {bs cs : Array Value} {W : World} {vs : Array Value} {t t1 t2 : TypeId} {u : Value} (hb : b < L) (hn : L ≤ n) (he : L ≤ ev) (h0 : W.heap[n]? = some (.cells #[.pointer (some ⟨ev, i, none⟩)] t1)) (h1 : W.heap[n + 1]? = some (.cells #[.func (.func F) bs cs] t2))
 (hev : W.heap[ev]? = some (.cells vs t)) (hu : vs[i]? = some u) (hne : n ≠ ev ∧ n + 1 ≠ ev) :
 (∀ w', Oth b W w' → w'.cell? ⟨n, 0, none⟩ = some (.pointer (some ⟨ev, i, none⟩)) ∧ w'.cell? ⟨n + 1, 0, none⟩ = some (.func (.func F) bs cs)) ∧
 (∀ w', Oth b W w' → w'.cell? ⟨ev, i, none⟩ = some u ∧ w'.frozen? ⟨ev, i, none⟩ = false) ∧
 (∀ (w' : World) (v : Value), w'.cell? ⟨n, 0, none⟩ = some (.pointer (some ⟨ev, i, none⟩)) ∧ w'.cell? ⟨n + 1, 0, none⟩ = some (.func (.func F) bs cs) → (w'.setCell ⟨ev, i, none⟩ v).cell? ⟨n, 0, none⟩ = some (.pointer (some ⟨ev, i, none⟩)) ∧ (w'.setCell ⟨ev, i, none⟩ v).cell? ⟨n + 1, 0, none⟩ = some (.func (.func F) bs cs)) :=
 ⟨fun w' h => ⟨cell1 ((h.block n (zpf h0) (by omega)).trans h0), cell1 ((h.block (n + 1) (zpf h1) (by omega)).trans h1)⟩,
  fun w' h => (by
   have h2 := (h.block ev (zpf hev) (by omega)).trans hev
   exact ⟨by simp [World.cell?, h2, hu], zpg h2⟩),
  fun w' v h => ⟨(World.cell?_of_block (a := ⟨n, 0, none⟩) (zpd i v hne.1)).trans h.1, (World.cell?_of_block (a := ⟨n + 1, 0, none⟩) (zpd i v hne.2)).trans h.2⟩⟩
set_option maxRecDepth 100000 in
theorem mkS (pa : Addr) (fq : Fn) (bs cs : Array Value) (w : World) : Calls Tryz.prog 47 #[.pointer (some pa), .func fq bs cs] w fun e w' => e = .returned (cloV 99 w.heap.size) ∧ w' = (w.alloc (.cells #[.pointer (some pa)] 93)).alloc (.cells #[.func fq bs cs] 45) := by
 go_enter Tryz.func47, Tryz.ntmps47
 go_wp2_with fail
 go_ret
 exact ⟨by simp, rfl⟩
set_option maxRecDepth 100000 in
theorem runS {σ : Type} {b L : Nat} {St : World → σ → Prop} {IsE : World → World → Value → Nat → Nat → Prop} (HS : Src b L St IsE) (F : FuncId) (bs cs : Array Value) (r : σ → B × Nat × Nat × σ) (hp : Part (fun s : B => .string (str s)) b L St IsE F (bs ++ cs) r) (eF : EntS F)
 (n ev i : Nat) (W : World) (x : σ) (hst : St W x) (hL : L ≤ W.heap.size) (hn : L ≤ n) (he : L ≤ ev) (h0 : W.heap[n]? = some (.cells #[.pointer (some ⟨ev, i, none⟩)] 93)) (h1 : W.heap[n + 1]? = some (.cells #[.func (.func F) bs cs] 45))
 (vs : Array Value) (t : TypeId) (u : Value) (hev : W.heap[ev]? = some (.cells vs t)) (hu : vs[i]? = some u) (hne : n ≠ ev ∧ n + 1 ≠ ev) :
 Calls Tryz.prog 99 #[ptS (n + 1), ptS n] W (IntoE (fun s : B => .string (str s)) b St IsE (r x) ⟨ev, i, none⟩ W) := by
 have hb := HS.lt
 obtain ⟨hc, he', hse⟩ := zph (F := F) (bs := bs) (cs := cs) hb hn he h0 h1 hev hu hne
 have HC := hid hc
 have HE := hid he'
 have HSE := hid hse
 have HP := hid (hp W.drew x hL (HS.stay hst (fun _ _ => rfl)))
 obtain ⟨c0, c1⟩ := HC.out W (Oth.refl _ _)
 have HUP : Hid (∀ W1 v c a, IsE W.drew W1 v c a → IsE W W1 v c a) := hid (fun _ _ _ _ h => HS.up h (Nat.le_refl _))
 have HO : Hid (Oth b W W.drew) := hid (Oth.drew _ _)
 unfold EntS at eF
 clear hp hst h0 h1 hev hu HS hb hne hc he' hse
 go_enter Tryz.func99, Tryz.ntmps99
 go_wp2_with fail
 go_region_held3 (fun w' => w'.cell? ⟨n, 0, none⟩ = some (.pointer (some ⟨ev, i, none⟩)) ∧ w'.cell? ⟨n + 1, 0, none⟩ = some (.func (.func F) bs cs))
  (first | exact ⟨c0, c1⟩ | exact hk3 | exact HSE.out _ _ hk3 | fail)
  (first
    | (refine HP.out.mono ?_; rintro e w3 ⟨v3, rfl, hie, hst3, ho3⟩; have HO3 := hid (HO.out.trans ho3); have HI3 := hid hie; have HS3 := hid hst3; have hk3 := HC.out _ HO3.out; obtain ⟨e0, e1⟩ := HE.out _ HO3.out; clear ho3 hie hst3)
    | fail)
 all_goals (go_wp2_with fail)
 all_goals go_ret
 all_goals exact ⟨v3, w3, rfl, HUP.out _ _ _ _ HI3.out, HS3.out, HO3.out, rfl⟩
set_option maxRecDepth 100000 in
theorem mkN (pa : Addr) (fq : Fn) (bs cs : Array Value) (w : World) : Calls Tryz.prog 48 #[.pointer (some pa), .func fq bs cs] w fun e w' => e = .returned (cloV 100 w.heap.size) ∧ w' = (w.alloc (.cells #[.pointer (some pa)] 95)).alloc (.cells #[.func fq bs cs] 96) := by
 go_enter Tryz.func48, Tryz.ntmps48
 go_wp2_with fail
 go_ret
 exact ⟨by simp, rfl⟩
set_option maxRecDepth 100000 in
theorem runN {σ : Type} {b L : Nat} {St : World → σ → Prop} {IsE : World → World → Value → Nat → Nat → Prop} (HS : Src b L St IsE) (F : FuncId) (bs cs : Array Value) (r : σ → List (B × B) × Nat × Nat × σ) (hp : PartN b L St IsE F (bs ++ cs) r) (eF : EntS F)
 (n ev i : Nat) (W : World) (x : σ) (hst : St W x) (hL : L ≤ W.heap.size) (hn : L ≤ n) (he : L ≤ ev) (h0 : W.heap[n]? = some (.cells #[.pointer (some ⟨ev, i, none⟩)] 95)) (h1 : W.heap[n + 1]? = some (.cells #[.func (.func F) bs cs] 96))
 (vs : Array Value) (t : TypeId) (u : Value) (hev : W.heap[ev]? = some (.cells vs t)) (hu : vs[i]? = some u) (hne : n ≠ ev ∧ n + 1 ≠ ev) :
 Calls Tryz.prog 100 #[ptS (n + 1), ptS n] W (IntoN b St IsE (r x) ⟨ev, i, none⟩ W) := by
 have hb := HS.lt
 obtain ⟨hc, he', hse⟩ := zph (F := F) (bs := bs) (cs := cs) hb hn he h0 h1 hev hu hne
 have HC := hid hc
 have HE := hid he'
 have HSE := hid hse
 have HP := hid (hp W.drew x hL (HS.stay hst (fun _ _ => rfl)))
 obtain ⟨c0, c1⟩ := HC.out W (Oth.refl _ _)
 have HUP : Hid (∀ W1 v c a, IsE W.drew W1 v c a → IsE W W1 v c a) := hid (fun _ _ _ _ h => HS.up h (Nat.le_refl _))
 have HO : Hid (Oth b W W.drew) := hid (Oth.drew _ _)
 unfold EntS at eF
 clear hp hst h0 h1 hev hu HS hb hne hc he' hse
 go_enter Tryz.func100, Tryz.ntmps100
 go_wp2_with fail
 go_region_held3 (fun w' => w'.cell? ⟨n, 0, none⟩ = some (.pointer (some ⟨ev, i, none⟩)) ∧ w'.cell? ⟨n + 1, 0, none⟩ = some (.func (.func F) bs cs))
  (first | exact ⟨c0, c1⟩ | exact hk3 | exact HSE.out _ _ hk3 | fail)
  (first
    | (refine HP.out.mono ?_; rintro e w3 ⟨v3, a3, d3, rfl, hne, hge, hie, hst3, ho3⟩; have HO3 := hid (HO.out.trans ho3); have HI3 := hid hie; have HS3 := hid hst3; have HN3 := hid hne; have HG3 := hid hge; clear hne hge; have hk3 := HC.out _ HO3.out; obtain ⟨e0, e1⟩ := HE.out _ HO3.out; clear ho3 hie hst3)
    | fail)
 all_goals (go_wp2_with fail)
 all_goals go_ret
 all_goals exact ⟨v3, w3, a3, d3, rfl, HN3.out, HG3.out, HUP.out _ _ _ _ HI3.out, HS3.out, HO3.out, rfl⟩
set_option maxRecDepth 100000 in
theorem mkU (pa : Addr) (fq : Fn) (bs cs : Array Value) (w : World) : Calls Tryz.prog 50 #[.pointer (some pa), .func fq bs cs] w fun e w' => e = .returned (cloV 101 w.heap.size) ∧ w' = (w.alloc (.cells #[.pointer (some pa)] 98)).alloc (.cells #[.func fq bs cs] 46) := by
 go_enter Tryz.func50, Tryz.ntmps50
 go_wp2_with fail
 go_ret
 exact ⟨by simp, rfl⟩
set_option maxRecDepth 100000 in
theorem runU {σ : Type} {b L : Nat} {St : World → σ → Prop} {IsE : World → World → Value → Nat → Nat → Prop} (HS : Src b L St IsE) (F : FuncId) (bs cs : Array Value) (r : σ → Nat × Nat × Nat × σ) (hp : Part (fun n : Nat => .int .u64 n) b L St IsE F (bs ++ cs) r) (eF : EntS F)
 (n ev i : Nat) (W : World) (x : σ) (hst : St W x) (hL : L ≤ W.heap.size) (hn : L ≤ n) (he : L ≤ ev) (h0 : W.heap[n]? = some (.cells #[.pointer (some ⟨ev, i, none⟩)] 98)) (h1 : W.heap[n + 1]? = some (.cells #[.func (.func F) bs cs] 46))
 (vs : Array Value) (t : TypeId) (u : Value) (hev : W.heap[ev]? = some (.cells vs t)) (hu : vs[i]? = some u) (hne : n ≠ ev ∧ n + 1 ≠ ev) :
 Calls Tryz.prog 101 #[ptS (n + 1), ptS n] W (IntoE (fun n : Nat => .int .u64 n) b St IsE (r x) ⟨ev, i, none⟩ W) := by
 have hb := HS.lt
 obtain ⟨hc, he', hse⟩ := zph (F := F) (bs := bs) (cs := cs) hb hn he h0 h1 hev hu hne
 have HC := hid hc
 have HE := hid he'
 have HSE := hid hse
 have HP := hid (hp W.drew x hL (HS.stay hst (fun _ _ => rfl)))
 obtain ⟨c0, c1⟩ := HC.out W (Oth.refl _ _)
 have HUP : Hid (∀ W1 v c a, IsE W.drew W1 v c a → IsE W W1 v c a) := hid (fun _ _ _ _ h => HS.up h (Nat.le_refl _))
 have HO : Hid (Oth b W W.drew) := hid (Oth.drew _ _)
 unfold EntS at eF
 clear hp hst h0 h1 hev hu HS hb hne hc he' hse
 go_enter Tryz.func101, Tryz.ntmps101
 go_wp2_with fail
 go_region_held3 (fun w' => w'.cell? ⟨n, 0, none⟩ = some (.pointer (some ⟨ev, i, none⟩)) ∧ w'.cell? ⟨n + 1, 0, none⟩ = some (.func (.func F) bs cs))
  (first | exact ⟨c0, c1⟩ | exact hk3 | exact HSE.out _ _ hk3 | fail)
  (first
    | (refine HP.out.mono ?_; rintro e w3 ⟨v3, rfl, hie, hst3, ho3⟩; have HO3 := hid (HO.out.trans ho3); have HI3 := hid hie; have HS3 := hid hst3; have hk3 := HC.out _ HO3.out; obtain ⟨e0, e1⟩ := HE.out _ HO3.out; clear ho3 hie hst3)
    | fail)
 all_goals (go_wp2_with fail)
 all_goals go_ret
 all_goals exact ⟨v3, w3, rfl, HUP.out _ _ _ _ HI3.out, HS3.out, HO3.out, rfl⟩
set_option maxRecDepth 100000 in
theorem mkV (pa : Addr) (fq : Fn) (bs cs : Array Value) (w : World) : Calls Tryz.prog 51 #[.pointer (some pa), .func fq bs cs] w fun e w' => e = .returned (cloV 102 w.heap.size) ∧ w' = (w.alloc (.cells #[.pointer (some pa)] 100)).alloc (.cells #[.func fq bs cs] 101) := by
 go_enter Tryz.func51, Tryz.ntmps51
 go_wp2_with fail
 go_ret
 exact ⟨by simp, rfl⟩
set_option maxRecDepth 100000 in
theorem runV {σ : Type} {b L : Nat} {St : World → σ → Prop} {IsE : World → World → Value → Nat → Nat → Prop} (HS : Src b L St IsE) (F : FuncId) (bs cs : Array Value) (r : σ → Nat × Nat × Nat × σ) (hp : Part (fun n : Nat => .int .u32 n) b L St IsE F (bs ++ cs) r) (eF : EntS F)
 (n ev i : Nat) (W : World) (x : σ) (hst : St W x) (hL : L ≤ W.heap.size) (hn : L ≤ n) (he : L ≤ ev) (h0 : W.heap[n]? = some (.cells #[.pointer (some ⟨ev, i, none⟩)] 100)) (h1 : W.heap[n + 1]? = some (.cells #[.func (.func F) bs cs] 101))
 (vs : Array Value) (t : TypeId) (u : Value) (hev : W.heap[ev]? = some (.cells vs t)) (hu : vs[i]? = some u) (hne : n ≠ ev ∧ n + 1 ≠ ev) :
 Calls Tryz.prog 102 #[ptS (n + 1), ptS n] W (IntoE (fun n : Nat => .int .u32 n) b St IsE (r x) ⟨ev, i, none⟩ W) := by
 have hb := HS.lt
 obtain ⟨hc, he', hse⟩ := zph (F := F) (bs := bs) (cs := cs) hb hn he h0 h1 hev hu hne
 have HC := hid hc
 have HE := hid he'
 have HSE := hid hse
 have HP := hid (hp W.drew x hL (HS.stay hst (fun _ _ => rfl)))
 obtain ⟨c0, c1⟩ := HC.out W (Oth.refl _ _)
 have HUP : Hid (∀ W1 v c a, IsE W.drew W1 v c a → IsE W W1 v c a) := hid (fun _ _ _ _ h => HS.up h (Nat.le_refl _))
 have HO : Hid (Oth b W W.drew) := hid (Oth.drew _ _)
 unfold EntS at eF
 clear hp hst h0 h1 hev hu HS hb hne hc he' hse
 go_enter Tryz.func102, Tryz.ntmps102
 go_wp2_with fail
 go_region_held3 (fun w' => w'.cell? ⟨n, 0, none⟩ = some (.pointer (some ⟨ev, i, none⟩)) ∧ w'.cell? ⟨n + 1, 0, none⟩ = some (.func (.func F) bs cs))
  (first | exact ⟨c0, c1⟩ | exact hk3 | exact HSE.out _ _ hk3 | fail)
  (first
    | (refine HP.out.mono ?_; rintro e w3 ⟨v3, rfl, hie, hst3, ho3⟩; have HO3 := hid (HO.out.trans ho3); have HI3 := hid hie; have HS3 := hid hst3; have hk3 := HC.out _ HO3.out; obtain ⟨e0, e1⟩ := HE.out _ HO3.out; clear ho3 hie hst3)
    | fail)
 all_goals (go_wp2_with fail)
 all_goals go_ret
 all_goals exact ⟨v3, w3, rfl, HUP.out _ _ _ _ HI3.out, HS3.out, HO3.out, rfl⟩
set_option maxRecDepth 100000 in
theorem mkK (pa : Addr) (fq : Fn) (bs cs : Array Value) (w : World) : Calls Tryz.prog 53 #[.pointer (some pa), .func fq bs cs] w fun e w' => e = .returned (cloV 103 w.heap.size) ∧ w' = (w.alloc (.cells #[.pointer (some pa)] 104)).alloc (.cells #[.func fq bs cs] 44) := by
 go_enter Tryz.func53, Tryz.ntmps53
 go_wp2_with fail
 go_ret
 exact ⟨by simp, rfl⟩
set_option maxRecDepth 100000 in
theorem runK {σ : Type} {b L : Nat} {St : World → σ → Prop} {IsE : World → World → Value → Nat → Nat → Prop} (HS : Src b L St IsE) (F : FuncId) (bs cs : Array Value) (r : σ → Nat × Nat × Nat × σ) (hp : Part (fun n : Nat => .int .u8 n) b L St IsE F (bs ++ cs) r) (eF : EntS F)
 (n ev i : Nat) (W : World) (x : σ) (hst : St W x) (hL : L ≤ W.heap.size) (hn : L ≤ n) (he : L ≤ ev) (h0 : W.heap[n]? = some (.cells #[.pointer (some ⟨ev, i, none⟩)] 104)) (h1 : W.heap[n + 1]? = some (.cells #[.func (.func F) bs cs] 44))
 (vs : Array Value) (t : TypeId) (u : Value) (hev : W.heap[ev]? = some (.cells vs t)) (hu : vs[i]? = some u) (hne : n ≠ ev ∧ n + 1 ≠ ev) :
 Calls Tryz.prog 103 #[ptS (n + 1), ptS n] W (IntoE (fun n : Nat => .int .u8 n) b St IsE (r x) ⟨ev, i, none⟩ W) := by
 have hb := HS.lt
 obtain ⟨hc, he', hse⟩ := zph (F := F) (bs := bs) (cs := cs) hb hn he h0 h1 hev hu hne
 have HC := hid hc
 have HE := hid he'
 have HSE := hid hse
 have HP := hid (hp W.drew x hL (HS.stay hst (fun _ _ => rfl)))
 obtain ⟨c0, c1⟩ := HC.out W (Oth.refl _ _)
 have HUP : Hid (∀ W1 v c a, IsE W.drew W1 v c a → IsE W W1 v c a) := hid (fun _ _ _ _ h => HS.up h (Nat.le_refl _))
 have HO : Hid (Oth b W W.drew) := hid (Oth.drew _ _)
 unfold EntS at eF
 clear hp hst h0 h1 hev hu HS hb hne hc he' hse
 go_enter Tryz.func103, Tryz.ntmps103
 go_wp2_with fail
 go_region_held3 (fun w' => w'.cell? ⟨n, 0, none⟩ = some (.pointer (some ⟨ev, i, none⟩)) ∧ w'.cell? ⟨n + 1, 0, none⟩ = some (.func (.func F) bs cs))
  (first | exact ⟨c0, c1⟩ | exact hk3 | exact HSE.out _ _ hk3 | fail)
  (first
    | (refine HP.out.mono ?_; rintro e w3 ⟨v3, rfl, hie, hst3, ho3⟩; have HO3 := hid (HO.out.trans ho3); have HI3 := hid hie; have HS3 := hid hst3; have hk3 := HC.out _ HO3.out; obtain ⟨e0, e1⟩ := HE.out _ HO3.out; clear ho3 hie hst3)
    | fail)
 all_goals (go_wp2_with fail)
 all_goals go_ret
 all_goals exact ⟨v3, w3, rfl, HUP.out _ _ _ _ HI3.out, HS3.out, HO3.out, rfl⟩
end EvS
end
section
open Go.RowKit
namespace EvL
open StrC EvA EvS EvC
theorem zpi (l : B) (i j : Nat) : (str l).extract i j = str ((l.drop i).take (j - i)) := by
 rw [zbo ((str l).extract i j), Lib.extract_data, zbn]
theorem slU (l : List UInt8) (k : Nat) (h1 : k ≤ l.length) (w : World) : (Instr.slice 9 (.string (str l)) none (some (.int .i64 (k : Int))) none).run Tryz.prog w = .ok (.string (str (l.take k))) w := by
 rw [run_slice_string_h w 9 (str l) Tryz.underlying9 .i64 _ (by omega) (by rw [zbm]; omega), Int.toNat_natCast, zpi]
 rfl
theorem slF (l : List UInt8) (k : Nat) (x : Int) (hx : x = k) (h1 : k ≤ l.length) (w : World) : (Instr.slice 9 (.string (str l)) (some (.int .i64 x)) none none).run Tryz.prog w = .ok (.string (str (l.drop k))) w := by
 subst hx
 rw [run_slice_string_l w 9 (str l) Tryz.underlying9 .i64 _ (by omega) (by rw [zbm]; omega), Int.toNat_natCast, zpi, zbm, List.take_of_length_le (by simp)]
theorem pcut_in (d : UInt8) (l : B) (w : World) (hl : l.length ≤ 9223372036854775807) :
 Calls Tryz.prog 161 #[.string (str l), .string ⟨#[d]⟩] w fun e w' => ∃ b, e = .returned (.tuple #[.string (str (fstB d l)), .string (str (rstB d l)), .bool b]) ∧ ∃ n, w' = w.drewN n := by
 have hs := zbm l
 have HI := hid (Tryz.stringslite_Index_one (str l) d w)
 rw [zbn] at HI
 rcases zoi d l with ⟨e1, e2, e3⟩ | ⟨k, e1, e2, e3, e4⟩
 · rw [e2, e3]
   rw [e1] at HI
   clear e1 e2 e3
   go_enter Tryz.func161, Tryz.ntmps161
   go_wp2_with (go_at_call 188; refine HI.out.mono ?_; rintro e w' ⟨rfl, rfl⟩)
   go_ret3
   exact ⟨_, rfl, 0, rfl⟩
 · rw [← e3, ← e4]
   rw [e1] at HI
   have c1 := fun w => slU l k (by omega) w
   have c2 := fun w => slF l (k + 1) ((k : Int) + 1) (by omega) (by omega) w
   have hk0 : (0 : Int) ≤ k := by omega
   have hd : decide (0 ≤ (k : Int)) = true := decide_eq_true hk0
   have HK := hid e2
   have hw : IntKind.i64.wrap ((k : Int) + 1) = (k : Int) + 1 := IntWalk.i64_in _ ⟨by omega, by omega⟩
   clear e1 e2 e3 e4
   generalize l.take k = A at *
   generalize l.drop (k + 1) = C at *
   go_enter Tryz.func161, Tryz.ntmps161
   go_wp2_with (go_at_call 188; refine HI.out.mono ?_; rintro e w' ⟨rfl, rfl⟩)
   go_region_o
   go_wp2
   go_ret3
   exact ⟨_, rfl, 1, rfl⟩
theorem zpj (d : UInt8) (l : B) (w : World) (hl : l.length ≤ 9223372036854775807) :
 Calls Tryz.prog 126 #[.string (str l), .string ⟨#[d]⟩] w fun e w' => ∃ b, e = .returned (.tuple #[.string (str (fstB d l)), .string (str (rstB d l)), .bool b]) ∧ ∃ n, w' = w.drewN n := by
 have H := hid (pcut_in d l w hl)
 generalize fstB d l = A at *
 generalize rstB d l = C at *
 go_enter Tryz.func126, Tryz.ntmps126
 go_wp2_with (go_at_call 161; refine H.out.mono ?_; rintro e w' ⟨b, rfl, n, rfl⟩)
 go_ret3
 exact ⟨_, rfl, n, rfl⟩
abbrev lnO (x : B) : Obj := .cells #[.string (str x)] 90
theorem zpk (b : Nat) (x : B) (w : World) (h : w.heap[b]? = some (lnO x)) (hl : x.length ≤ 140737488351232) :
 Calls Tryz.prog 96 #[ptS b] w fun e w' => e = .returned (.string (str (fstB 32 x))) ∧ w'.heap[b]? = some (lnO (rstB 32 x)) ∧ Oth b w w' := by
 have c0 := cell1 h
 have f0 := zpg (i := 0) h
 have HC := hid (zpj 32 x w (by omega))
 have H0 := hid h
 clear h
 generalize rstB 32 x = C at *
 generalize fstB 32 x = A at *
 go_enter Tryz.func96, Tryz.ntmps96
 go_wp2_with (go_at_call 126; refine HC.out.mono ?_; rintro e w' ⟨bb, rfl, n, rfl⟩)
 go_ret
 refine ⟨rfl, ?_, rfl, rfl, rfl, by simp, fun k hk hb => (zpd 0 _ hb).trans rfl⟩
 have h1 : (w.drewN n).heap[b]? = some (lnO x) := H0.out
 have := zpc h1 0 (.string (str C))
 simpa using this
end EvL
end
section
open Go.RowKit
namespace SumC
theorem zpl (s : ByteArray) (w : World) : ∃ cap w1, (convert 9 108 (.string s)).run Tryz.prog w = .ok (.slice (some ⟨w.heap.size, 0, none⟩) s.size cap) w1 ∧
 (∀ j (h : j < s.size), w1.cell? ⟨w.heap.size, j, none⟩ = some (.int .u8 (s[j].toNat : Int))) ∧ (∀ j, j < s.size → w1.frozen? ⟨w.heap.size, j, none⟩ = false) ∧ Below w.heap.size w w1 := by
 refine ⟨_, _, run_bytes_of_string w 9 108 5 s Tryz.underlying9 Tryz.underlying108 Tryz.underlying5, ?_, ?_, ?_⟩
 · intro j h
   have e := World.cell?_alloc_mark w.drew (bytesRow s (grownCap w s.size 0 5)) 5 ((bytesRow s (grownCap w s.size 0 5)).size, (bytesRow s (grownCap w s.size 0 5)).size + 1) j
   exact e.trans (bytesRow_at s _ j h)
 · intro j h
   have e := World.frozen?_alloc_mark w.drew (bytesRow s (grownCap w s.size 0 5)) 5 (bytesRow s (grownCap w s.size 0 5)).size ((bytesRow s (grownCap w s.size 0 5)).size + 1) j
   refine e.trans ?_
   have hs : s.size ≤ (bytesRow s (grownCap w s.size 0 5)).size := by simp [bytesRow]
   rw [decide_eq_false (by omega)]; rfl
 · exact ((Below.refl w.heap.size w).drew).alloc (Nat.le_refl _) _
end SumC
end
section
open Go.RowKit
namespace EvL
open StrC EvA
def par16 (a : Nat) : B → Option Nat
 | [] => some a
 | c :: r => match hexD c with
   | some d => par16 (16 * a + d) r
   | none => none
theorem zpm {l : B} (h : l.length = 1 ∨ l.length = 2) : par16 0 l = twoD l := by
 rcases h with h | h
 · obtain ⟨c, rfl⟩ := List.length_eq_one_iff.1 h
   simp only [par16, twoD]
   cases hexD c <;> simp
 · obtain ⟨c, d, rfl⟩ : ∃ c d, l = [c, d] := by
    match l, h with
    | [c, d], _ => exact ⟨c, d, rfl⟩
   simp only [par16, twoD]
   cases hexD c <;> cases hexD d <;> simp
def lowB (k : Nat) : Bool := match hexD (UInt8.ofNat k) with
 | none => (decide (48 ≤ k) && decide (k ≤ 57)) || (decide (bits .or .u8 k 32 < 97) || (decide (122 < bits .or .u8 k 32) || (decide (103 ≤ bits .or .u8 k 32) && decide (bits .or .u8 k 32 ≤ 122))))
 | some d => (decide (48 ≤ k) && decide (k ≤ 57)) || (decide (bits .or .u8 k 32 = 87 + (d : Int)) && decide (10 ≤ d))
theorem low_all : (List.range 256).all lowB = true := by kernel_rfl
theorem zpn (c : UInt8) : (hexD c = none → ¬ (48 ≤ c.toNat ∧ c.toNat ≤ 57) → bits .or .u8 c.toNat 32 < 97 ∨ 122 < bits .or .u8 c.toNat 32 ∨ (103 ≤ bits .or .u8 c.toNat 32 ∧ bits .or .u8 c.toNat 32 ≤ 122)) ∧
 (∀ d, hexD c = some d → ¬ (48 ≤ c.toNat ∧ c.toNat ≤ 57) → bits .or .u8 c.toNat 32 = 87 + (d : Int) ∧ 10 ≤ d) := by
 have h2 := List.all_eq_true.1 low_all c.toNat (List.mem_range.2 c.toNat_lt)
 unfold lowB at h2
 rw [show UInt8.ofNat c.toNat = c by simp] at h2
 constructor
 · intro h hd
   rw [h] at h2
   simp only [Bool.or_eq_true, Bool.and_eq_true, decide_eq_true_eq] at h2
   rcases h2 with h2 | h2
   · exact absurd h2 hd
   · exact h2
 · intro d h hd
   rw [h] at h2
   simp only [Bool.or_eq_true, Bool.and_eq_true, decide_eq_true_eq] at h2
   rcases h2 with h2 | h2
   · exact absurd h2 hd
   · exact h2
theorem zpo (x : Int) (w : World) : Calls Tryz.prog 163 #[.int .u8 x] w fun e w' => e = .returned (.int .u8 (bits .or .u8 x 32)) ∧ w = w' := by
 go_enter Tryz.func163, Tryz.ntmps163
 go_wp2_with fail
 go_ret
 exact ⟨rfl, rfl⟩
def PuE (o : Option Nat) (T : TypeId) (w : World) (e : Ending) (w' : World) : Prop :=
 Below w.heap.size w w' ∧ ((∃ n, o = some n ∧ e = .returned (.tuple #[.int .u64 n, .nilIface])) ∨ (o = none ∧ e = .returned (.tuple #[.int .u64 0, .iface T (.int .i64 2)])))
set_option maxRecDepth 100000 in
theorem pu16_in (l : B) (h : l.length = 1 ∨ l.length = 2) (w : World) : Calls Tryz.prog 128 #[.string (str l), .int .i64 16, .int .i64 8] w (PuE (twoD l) 209 w) := by
 rw [← zpm h]
 obtain ⟨cap, w1, hconv, hcells, -, hb⟩ := SumC.zpl (str l) w
 have hsz := zbm l
 have hC : Hid (∀ k (hk : k < l.length), w1.cell? ⟨w.heap.size, k, none⟩ = some (.int .u8 (l[k].toNat : Int))) := hid (fun k hk => hcells k (by omega))
 have HB := hid hb
 have hemp : (str l).toList.isEmpty = false := by
  rw [← decide_eq_emptyBytes]
  refine decide_eq_false (fun e => ?_)
  have := congrArg ByteArray.size e
  rw [hsz] at this
  have e0 : ByteArray.empty.size = 0 := rfl
  omega
 have HLOW := hid zpn
 have hl2 : l.length ≤ 2 := by omega
 have HPU : Hid (∀ e w', PuE (par16 0 l) 209 w e w' ↔ Below w.heap.size w w' ∧ ((∃ n, par16 0 l = some n ∧ e = .returned (.tuple #[.int .u64 n, .nilIface])) ∨ (par16 0 l = none ∧ e = .returned (.tuple #[.int .u64 0, .iface 209 (.int .i64 2)])))) := hid (fun _ _ => Iff.rfl)
 rw [hsz] at hconv
 generalize PuE (par16 0 l) 209 w = QE at *
 clear hcells hb h hsz
 go_enter Tryz.func128, Tryz.ntmps128
 go_wp2_with fail
 go_loopw [12, 13, 101] (fun vu vn vi wr => ∃ (k a : Nat) (x : Int), vu = .bool false ∧ vn = .int .u64 x ∧ vi = .int .i64 k ∧ k ≤ l.length ∧ wr = w1 ∧ Hid (x = a ∧ a < 16 ^ k ∧ par16 0 l = par16 a (l.drop k))) (fun _ _ vi _ => l.length - (intOf vi).toNat)
 case atStart => exact ⟨0, 0, 0, rfl, rfl, rfl, Nat.zero_le _, rfl, hid ⟨rfl, by decide, rfl⟩⟩
 case round =>
  obtain ⟨k, a, x, rfl, rfl, rfl, hk, rfl, HP⟩ := hrel
  by_cases hkn : k < l.length
  · have hc := hC.out k hkn
    have hdrop : l.drop k = l[k] :: l.drop (k + 1) := List.drop_eq_getElem_cons hkn
    obtain ⟨hxa, ha, HP2⟩ := HP.out
    rw [hdrop, par16] at HP2
    have ha16 : a < 16 := by
     rcases (by omega : k = 0 ∨ k = 1) with rfl | rfl <;> omega
    have hx0 : 0 ≤ x := by omega
    have hx1 : x < 16 := by omega
    have HPW : Hid (∀ d, d < 16 → 16 * a + d < 16 ^ (k + 1)) := hid (fun d hd => by rw [Nat.pow_succ]; omega)
    have HXA := hid hxa
    generalize l[k] = c at *
    have hc256 : c.toNat < 256 := c.toNat_lt
    have HLc := hid (HLOW.out c)
    have HLW := hid (zpo (c.toNat : Int) wr)
    clear hdrop HP hxa ha16 ha
    by_cases hdig : 48 ≤ c.toNat ∧ c.toNat ≤ 57
    · obtain ⟨hd0, hd1⟩ := hdig
      have hhx : hexD c = some (c.toNat - 48) := by unfold hexD; rw [if_pos ⟨hd0, hd1⟩]
      rw [hhx] at HP2
      have HN : Hid (x * 16 + ((c.toNat : Int) - 48) = ((16 * a + (c.toNat - 48) : Nat) : Int) ∧ 16 * a + (c.toNat - 48) < 16 ^ (k + 1) ∧ par16 0 l = par16 (16 * a + (c.toNat - 48)) (l.drop (k + 1))) := hid ⟨by have := HXA.out; omega, HPW.out _ (by omega), HP2⟩
      clear HP2 hhx HLc HPW HXA
      go_wp2_with fail
      go_roundw
      case rel => exact ⟨k + 1, 16 * a + (c.toNat - 48), x * 16 + ((c.toNat : Int) - 48), rfl, by go_num, by go_num, hkn, by trivial, HN⟩
      case measure => simp [intOf]; omega
    · cases hh : hexD c with
      | none =>
        rw [hh] at HP2
        have HPN : Hid (par16 0 l = none) := hid HP2
        have hcs := HLc.out.1 hh hdig
        generalize bits .or .u8 (c.toNat : Int) 32 = lo at *
        clear HP2 HLc HPW HXA hh
        have hdig2 : (c.toNat : Int) < 48 ∨ ((c.toNat : Int) = 95) ∨ (57 < (c.toNat : Int) ∧ ¬ ((c.toNat : Int) = 95)) := by omega
        clear hdig
        generalize hcx : (c.toNat : Int) = cx at *
        have hcx0 : 0 ≤ cx := by omega
        clear hc256
        rcases hdig2 with h48 | rfl | ⟨h57, h95⟩ <;> rcases hcs with hcs | hcs | ⟨hcs, hcs2⟩
        all_goals
         go_wp2_with (first | (go_at_call 163; refine HLW.out.mono ?_; rintro e w' ⟨rfl, rfl⟩) | fail)
         skip
         exact (HPU.out _ _).2 ⟨HB.out, .inr ⟨HPN.out, rfl⟩⟩
      | some d =>
        rw [hh] at HP2
        have hd16 := zoj hh
        obtain ⟨hlo, hd10⟩ := HLc.out.2 d hh hdig
        rw [hlo] at HLW
        have h57 : 57 < c.toNat := by
         unfold hexD at hh
         rw [if_neg hdig] at hh
         split at hh
         · omega
         split at hh
         · omega
         · cases hh
        have h95 : ¬ ((c.toNat : Int) = 95) := by
         intro e
         have : c = 95 := UInt8.toNat_inj.1 (by simpa using (by omega : c.toNat = 95))
         subst this
         cases hh
        have HN : Hid (x * 16 + (d : Int) = ((16 * a + d : Nat) : Int) ∧ 16 * a + d < 16 ^ (k + 1) ∧ par16 0 l = par16 (16 * a + d) (l.drop (k + 1))) := hid ⟨by have := HXA.out; omega, HPW.out _ (by omega), HP2⟩
        clear HP2 HLc HPW HXA hh hdig hlo
        have hdi0 : 10 ≤ (d : Int) := by omega
        have hdi1 : (d : Int) < 16 := by omega
        generalize (d : Int) = y at *
        have h97 : (97 : Int) ≤ 87 + y := by omega
        have h122 : 87 + y ≤ (122 : Int) := by omega
        go_wp2_with (first | (go_at_call 163; refine HLW.out.mono ?_; rintro e w' ⟨rfl, rfl⟩) | fail)
        go_roundw
        case rel => exact ⟨k + 1, 16 * a + d, x * 16 + y, rfl, by go_num, by go_num, hkn, by trivial, HN⟩
        case measure => simp [intOf]; omega
  · have hkl : k = l.length := by omega
    have HF : Hid (par16 0 l = some a ∧ x = a) := hid ⟨by rw [HP.out.2.2, hkl, List.drop_length]; rfl, HP.out.1⟩
    have hdec : ¬ ((k : Int) < (l.length : Int)) := by omega
    clear HP
    go_wp2_with fail
    skip
    exact (HPU.out _ _).2 ⟨HB.out, .inl ⟨a, HF.out.1, by rw [HF.out.2]⟩⟩
end EvL
end
end Go.Proofs.YtfbegbmjmhnplaaGreatDoor
