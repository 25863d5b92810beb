/-
  What the proof of EvBoth stands on, part 28.
-/
import Derived.Lib.LazyBuf
import Derived.Test.YtfbegbmjmhnplaaGreatDoorT27
set_option linter.unusedSimpArgs false
set_option linter.unusedVariables false
set_option maxHeartbeats 16000000
namespace Go.Proofs.YtfbegbmjmhnplaaGreatDoor
open Go.Lib (hid)
section
open Go.RowKit Go.Sort
namespace EvS
open StrC EvF EvC EvA TextR CodeM CodeC
abbrev arZ : Obj := .cells #[.nilFunc, .nilFunc, .nilFunc, .nilFunc, .nilFunc, .nilFunc, .nilFunc, .nilFunc, .nilFunc, .nilFunc] 102
theorem zyc : (Tryz.prog.info? 102).map (·.size) = some 10 := by kernel_rfl
def IsAr (g : Nat) (w : World) : Prop := ∃ cs fr, w.heap[g]? = some (.cells cs 102 fr)
def Sto (q : RdFn) (ev K g : Nat) (w : World) : Prop := ∀ x, x < 10 → ∃ v, w.cell? ⟨g, x, none⟩ = some v ∧ Clo q ev K x v w
def FF (q : RdFn) (ev K : Nat) (i : Nat) (v : Value) (w : World) : Prop :=
 (i = 40 → ∃ cs : Array Value, v = .agg cs ∧ cs.size = 10 ∧ cs.all (·.oneCell') = true ∧ ∀ x, x < 10 → Clo q ev K x (cs.getD x undef) w) ∧
 (i = 41 → ∃ g, v = ptS g ∧ K ≤ g ∧ IsAr g w ∧ (∀ g', K ≤ g' → w.heap[g']? = some arZ → g' = g) ∧ w.there g 0 10 ∧ (w.heap[g]? = some arZ ∨ Sto q ev K g w)) ∧
 (i = 42 → (∃ g, K ≤ g ∧ IsAr g w) ∧ ∀ g, K ≤ g → w.heap[g]? ≠ some arZ) ∧
 (i < 40 → Clo q ev K ((i - 3) / 4) v w)
def NN (K : Nat) (i : Nat) (w : World) : Prop := i = 41 → ∀ g, K ≤ g → ¬ IsAr g w
theorem Clo.on {q : RdFn} {ev K x : Nat} {v : Value} {w w' : World} (h : Clo q ev K x v w) (hb : ∀ j, j < w.heap.size → K ≤ j → (¬ ∃ cs fr, w.heap[j]? = some (.cells cs 102 fr)) → w'.heap[j]? = w.heap[j]?) : Clo q ev K x v w' := by
 obtain ⟨n, hn, e, h0, h1⟩ := h
 have t0 : cT x ≠ 102 := by unfold cT; split <;> decide
 have t1 : cU x ≠ 102 := by unfold cU; split <;> decide
 refine ⟨n, hn, e, (hb n (zpf h0) hn ?_).trans h0, (hb (n + 1) (zpf h1) (by omega) ?_).trans h1⟩
 · rintro ⟨cs, fr, h⟩
   rw [h0] at h
   injection h with h
   injection h with _ h _
   exact t0 h
 · rintro ⟨cs, fr, h⟩
   rw [h1] at h
   injection h with h
   injection h with _ h _
   exact t1 h
theorem Clo.gr {q : RdFn} {ev K x : Nat} {v : Value} {w w' : World} (h : Clo q ev K x v w) (hb : Below w.heap.size w w') : Clo q ev K x v w' := h.on (fun j hj _ _ => hb.block j hj)
theorem zyd {B : Nat} {w w' : World} (h : Below B w w') : Below B w w'.drew := ⟨h.os, h.tape, h.output, h.size, h.block⟩
theorem zye {K : Nat} {W0 W W' : World} (hb : Below W.heap.size W W') (h : Hid (Below K W0 W)) (hK : K ≤ W0.heap.size) : Hid (Below K W0 W') := hid (h.out.trans (hb.mono (Nat.le_trans hK h.out.size)))
theorem zyf {W W' : World} {g : Nat} (hb : Below W.heap.size W W') (h : W.there g 0 10) : W'.there g 0 10 := by
 have hlt : g < W.heap.size := by
  have h0 := (h 0 (by decide)).1
  obtain ⟨v, hv⟩ := Option.isSome_iff_exists.1 h0
  exact World.block_lt_of_cell? _ _ hv
 intro j hj
 have hk := hb.block g hlt
 exact ⟨by rw [World.cell?_of_block (a := ⟨g, 0 + j, none⟩) hk]; exact (h j hj).1, by rw [World.frozen?_of_block (a := ⟨g, 0 + j, none⟩) hk]; exact (h j hj).2⟩
theorem IsAr.lt {g : Nat} {w : World} (h : IsAr g w) : g < w.heap.size := by
 obtain ⟨cs, fr, h⟩ := h
 exact zpf h
theorem IsAr.gr {g : Nat} {w w' : World} (h : IsAr g w) (hb : Below w.heap.size w w') : IsAr g w' := by
 have hl := h.lt
 obtain ⟨cs, fr, h⟩ := h
 exact ⟨cs, fr, (hb.block g hl).trans h⟩
theorem ar_of {g : Nat} {w : World} (h : w.heap[g]? = some arZ) : IsAr g w := ⟨_, _, h⟩
theorem Sto.gr {q : RdFn} {ev K g : Nat} {w w' : World} (h : Sto q ev K g w) (hb : Below w.heap.size w w') : Sto q ev K g w' := fun x hx => by
 obtain ⟨v, h1, h2⟩ := h x hx
 exact ⟨v, (hb.cell (World.block_lt_of_cell? _ _ h1)).trans h1, h2.gr hb⟩
theorem zyg {q : RdFn} {ev K i : Nat} {v : Value} {w : World} (hi : i < 40) (h : Clo q ev K ((i - 3) / 4) v w) : FF q ev K i v w := ⟨fun e => by omega, fun e => by omega, fun e => by omega, fun _ => h⟩
theorem ff_of40 {q : RdFn} {ev K : Nat} {v : Value} {w : World} (h : ∃ cs : Array Value, v = .agg cs ∧ cs.size = 10 ∧ cs.all (·.oneCell') = true ∧ ∀ x, x < 10 → Clo q ev K x (cs.getD x undef) w) : FF q ev K 40 v w := ⟨fun _ => h, fun e => by omega, fun e => by omega, fun e => by omega⟩
theorem zyh (w : World) (a b : Value) (t1 t2 : TypeId) (h1 : t1 ≠ 102) (h2 : t2 ≠ 102) : Below w.heap.size w ((w.alloc (.cells #[a] t1)).alloc (.cells #[b] t2)) ∧ (∀ g, w.heap.size ≤ g → ¬ IsAr g ((w.alloc (.cells #[a] t1)).alloc (.cells #[b] t2))) ∧
 ((w.alloc (.cells #[a] t1)).alloc (.cells #[b] t2)).heap[w.heap.size]? = some (.cells #[a] t1) ∧ ((w.alloc (.cells #[a] t1)).alloc (.cells #[b] t2)).heap[w.heap.size + 1]? = some (.cells #[b] t2) := by
 have k0 : ((w.alloc (.cells #[a] t1)).alloc (.cells #[b] t2)).heap[w.heap.size]? = some (.cells #[a] t1) := by rw [heap_alloc_old _ _ (by simp)]; exact heap_alloc_new w _
 have k1 : ((w.alloc (.cells #[a] t1)).alloc (.cells #[b] t2)).heap[w.heap.size + 1]? = some (.cells #[b] t2) := by have := heap_alloc_new (w.alloc (.cells #[a] t1)) (.cells #[b] t2); simpa using this
 refine ⟨chW (alW w _) (alW _ _), fun g hg => ?_, k0, k1⟩
 rintro ⟨cs, fr, h⟩
 have hl := zpf h
 have hs : ((w.alloc (.cells #[a] t1)).alloc (.cells #[b] t2)).heap.size = w.heap.size + 2 := by simp
 rcases (by omega : g = w.heap.size ∨ g = w.heap.size + 1) with rfl | rfl
 · rw [k0] at h
   injection h with h
   injection h with _ h _
   exact h1 h
 · rw [k1] at h
   injection h with h
   injection h with _ h _
   exact h2 h
theorem ff_gr {q : RdFn} {ev K : Nat} {w w' : World} (hb : Below w.heap.size w w') (hno : ∀ g, w.heap.size ≤ g → ¬ IsAr g w') : ∀ j u, FF q ev K j u w → FF q ev K j u w' := by
 have hold : ∀ g, w'.heap[g]? = some arZ → w.heap[g]? = some arZ := fun g h => by
  rcases Nat.lt_or_ge g w.heap.size with hl | hl
  · rw [← hb.block g hl]; exact h
  · exact absurd (ar_of h) (hno g hl)
 rintro j u ⟨h1, h2, h3, h4⟩
 refine ⟨fun e => ?_, fun e => ?_, fun e => ?_, fun e => (h4 e).gr hb⟩
 · obtain ⟨cs, a, b, c, d⟩ := h1 e
   exact ⟨cs, a, b, c, fun x hx => (d x hx).gr hb⟩
 · obtain ⟨g, a, b, c, d, t, f⟩ := h2 e
   refine ⟨g, a, b, c.gr hb, fun g' hg h => d g' hg (hold g' h), zyf hb t, ?_⟩
   rcases f with f | f
   · exact .inl ((hb.block g c.lt).trans f)
   · exact .inr (f.gr hb)
 · obtain ⟨⟨g, a, b⟩, c⟩ := h3 e
   exact ⟨⟨g, a, b.gr hb⟩, fun g' hg h => c g' hg (hold g' h)⟩
theorem n_gr {i K : Nat} {w w' : World} (hb : Below w.heap.size w w') (hno : ∀ g, w.heap.size ≤ g → ¬ IsAr g w') : ∀ j, j ≠ i → NN K j w → NN K j w' := by
 intro j _ h e g hg ha
 rcases Nat.lt_or_ge g w.heap.size with hl | hl
 · obtain ⟨cs, fr, ha⟩ := ha
   exact h e g hg ⟨cs, fr, (hb.block g hl).symm.trans ha⟩
 · exact hno g hl ha
theorem zyi {q : RdFn} {ev K : Nat} {w : World} (hn : ∀ g, K ≤ g → ¬ IsAr g w) : ∀ j u, FF q ev K j u w → FF q ev K j u (w.alloc arZ) := by
 rintro j u ⟨h1, h2, h3, h4⟩
 refine ⟨fun e => ?_, fun e => ?_, fun e => ?_, fun e => (h4 e).gr (alW w _)⟩
 · obtain ⟨cs, a, b, c, d⟩ := h1 e
   exact ⟨cs, a, b, c, fun x hx => (d x hx).gr (alW w _)⟩
 · obtain ⟨g, a, b, c, -⟩ := h2 e
   exact absurd c (hn g b)
 · obtain ⟨⟨g, a, b⟩, -⟩ := h3 e
   exact absurd b (hn g a)
theorem zyj {W : World} {g : Nat} (h : W.heap[g]? = some arZ) : W.there g 0 10 := by
 intro j hj
 have hj10 : j = 0 ∨ j = 1 ∨ j = 2 ∨ j = 3 ∨ j = 4 ∨ j = 5 ∨ j = 6 ∨ j = 7 ∨ j = 8 ∨ j = 9 := by omega
 rcases hj10 with rfl | rfl | rfl | rfl | rfl | rfl | rfl | rfl | rfl | rfl <;> exact ⟨by simp [World.cell?, h], zpe h _⟩
theorem ff_of41 {q : RdFn} {ev K : Nat} {w : World} (hn : ∀ g, K ≤ g → ¬ IsAr g w) (hK : K ≤ w.heap.size) : FF q ev K 41 (ptS w.heap.size) (w.alloc arZ) := by
 refine ⟨fun e => by omega, fun _ => ?_, fun e => by omega, fun e => by omega⟩
 have hz := heap_alloc_new w arZ
 refine ⟨_, rfl, hK, ar_of hz, fun g' hg h => ?_, zyj hz, .inl hz⟩
 have hl := zpf h
 have hs : (w.alloc arZ).heap.size = w.heap.size + 1 := by simp
 rcases (by omega : g' = w.heap.size ∨ g' < w.heap.size) with e | e
 · exact e
 · rw [heap_alloc_old _ _ e] at h
   exact absurd (ar_of h) (hn g' hg)
theorem zyk {w : World} {g j : Nat} (h : j ≠ g) (vs : List Value) : (w.setCells g 0 vs).heap[j]? = w.heap[j]? := by
 have : ∀ (vs : List Value) (o : Nat) (w : World), (w.setCells g o vs).heap[j]? = w.heap[j]? := by
  intro vs
  induction vs with
  | nil => intro o w; rfl
  | cons v r ih => intro o w; rw [World.setCells, ih, zpd o v h]
 exact this vs 0 w
theorem IsAr.sets {w : World} {g j : Nat} (h : IsAr j w) (vs : List Value) : IsAr j (w.setCells g 0 vs) := by
 have : ∀ (vs : List Value) (o : Nat) (w : World), IsAr j w → IsAr j (w.setCells g o vs) := by
  intro vs
  induction vs with
  | nil => intro o w h; exact h
  | cons v r ih =>
    intro o w h
    rw [World.setCells]
    refine ih _ _ ?_
    by_cases hj : j = g
    · subst hj
      obtain ⟨cs, fr, h⟩ := h
      exact ⟨_, fr, zpc h o v⟩
    · obtain ⟨cs, fr, h⟩ := h
      exact ⟨cs, fr, (zpd o v hj).trans h⟩
 exact this vs 0 w h
theorem Clo.sets {q : RdFn} {ev K x g : Nat} {v : Value} {w : World} (h : Clo q ev K x v w) (ha : IsAr g w) (vs : List Value) : Clo q ev K x v (w.setCells g 0 vs) :=
 h.on (fun j _ _ hj => zyk (fun e => hj (by rw [e]; exact ha)) vs)
theorem zyl {q : RdFn} {ev K g : Nat} {w : World} {cs : Array Value} (ha : IsAr g w) (ht : w.there g 0 10) (h10 : cs.size = 10) (hcl : ∀ x, x < 10 → Clo q ev K x (cs.getD x undef) w) : Sto q ev K g (w.setCells g 0 cs.toList) := by
 intro x hx
 refine ⟨cs.getD x undef, ?_, (hcl x hx).sets ha _⟩
 have := World.cell?_setCells_in g cs.toList 0 w (fun j hj => by have h := (ht j (by simpa [h10] using hj)).1; exact h) x (by simp [h10, hx])
 rw [Nat.zero_add] at this
 rw [this]
 simp [h10, hx]
theorem zym {q : RdFn} {ev K g : Nat} {w : World} (h : Sto q ev K g w) : w.heap[g]? ≠ some arZ := fun e => by
 obtain ⟨v, h1, n, -, rfl, -⟩ := h 0 (by decide)
 simp [World.cell?, e] at h1
theorem zyn {q : RdFn} {ev K g : Nat} {w : World} {cs : Array Value} {u : Value} (hg : K ≤ g) (ha : IsAr g w) (huq : ∀ g', K ≤ g' → w.heap[g']? = some arZ → g' = g) (ht : w.there g 0 10) (h10 : cs.size = 10) (hcl : ∀ x, x < 10 → Clo q ev K x (cs.getD x undef) w) : FF q ev K 42 u (w.setCells g 0 cs.toList) := by
 refine ⟨fun e => by omega, fun e => by omega, fun _ => ⟨⟨g, hg, ha.sets _⟩, fun g' hg' h => ?_⟩, fun e => by omega⟩
 by_cases e : g' = g
 · subst e
   exact zym (zyl ha ht h10 hcl) h
 · rw [zyk e] at h
   exact e (huq g' hg' h)
theorem ff_sets {q : RdFn} {ev K g : Nat} {w : World} {cs : Array Value} (hg : K ≤ g) (ha : IsAr g w) (ht : w.there g 0 10) (hst : w.heap[g]? = some arZ ∨ Sto q ev K g w) (h10 : cs.size = 10) (hcl : ∀ x, x < 10 → Clo q ev K x (cs.getD x undef) w) : ∀ j u, FF q ev K j u w → FF q ev K j u (w.setCells g 0 cs.toList) := by
 have hnew := zyl ha ht h10 hcl
 have hold : ∀ g', (w.setCells g 0 cs.toList).heap[g']? = some arZ → w.heap[g']? = some arZ := fun g' h => by
  by_cases e : g' = g
  · subst e; exact absurd h (zym hnew)
  · rw [zyk e] at h; exact h
 rintro j u ⟨h1, h2, h3, h4⟩
 refine ⟨fun e => ?_, fun e => ?_, fun e => ?_, fun e => (h4 e).sets ha _⟩
 · obtain ⟨cs2, a, b, c, d⟩ := h1 e
   exact ⟨cs2, a, b, c, fun x hx => (d x hx).sets ha _⟩
 · obtain ⟨g1, a, b, c, d, t, f⟩ := h2 e
   refine ⟨g1, a, b, c.sets _, fun g' hg' h => d g' hg' (hold g' h), World.there_setCells t _ _ _, ?_⟩
   by_cases e1 : g1 = g
   · subst e1; exact .inr hnew
   · rcases f with f | f
     · exact .inl ((zyk e1 _).trans f)
     · refine .inr (fun x hx => ?_)
       obtain ⟨v, k1, k2⟩ := f x hx
       exact ⟨v, (World.cell?_of_block (a := ⟨g1, x, none⟩) (zyk e1 _)).trans k1, k2.sets ha _⟩
 · obtain ⟨⟨g1, a, b⟩, c⟩ := h3 e
   exact ⟨⟨g1, a, b.sets _⟩, fun g' hg' h => c g' hg' (hold g' h)⟩
theorem n_sets {K g i : Nat} {w : World} {vs : List Value} (ha : IsAr g w) (hg : K ≤ g) : ∀ j, j ≠ i → NN K j w → NN K j (w.setCells g 0 vs) := fun j _ h e => absurd ha (h e g hg)
theorem zyo {P : Program} {fn : Func} {p q : Tmp} {ty : TypeId} (h : fn.results = #[.cell p ty, .tmp q]) (tmps : Array Value) (w : World) (g : Nat) (t : TypeId) (cs : Array Value) (fr : Nat × Nat) (d : TypeDesc)
 (hp : tmps.getD p undef = .pointer (some ⟨g, 0, none⟩)) (hg : w.heap[g]? = some (.cells cs t fr))
 (hu : P.underlying ty = some d) (hd : (match d with | .struct _ | .array _ _ => true | _ => false) = true) (hi : (P.info? ty).map (·.size) = some cs.size) :
 (results fn tmps).run P w = .ok (.tuple #[.agg cs, tmps.getD q undef]) w := by
 have hp' : tmps[p]?.getD undef = .pointer (some ⟨g, 0, none⟩) := by simpa using hp
 simp [results, h, hp', asAddr, run_loadVar_row w g t ty cs fr d hg hu hd hi]
def zG (k : Nat) : EvG := ⟨k, [], [], [], none, 0, [], 0, 0, 0, [], []⟩
abbrev zE0 : Obj := .cells #[.int .u8 0, .string ⟨#[]⟩, .string ⟨#[]⟩, .string ⟨#[]⟩, .slice none 0 0, .int .u64 0, .int .u32 0, .int .u32 0, .string ⟨#[]⟩, .string ⟨#[]⟩] 27
def EvE {σ : Type} (b K : Nat) (St : World → σ → Prop) (IsE : World → World → Value → Nat → Nat → Prop) (R : RdF σ) (x : σ) (w : World) (r : Ending) (w' : World) : Prop :=
 ∃ e v, r = .returned (.tuple #[evV e, v]) ∧ Oth b w w' ∧ EvIn w' e ∧ ∃ y, St w' y ∧
  (((R.kind x).2.1 ≠ 0 ∧ (∃ t u, v = .iface t u) ∧ IsE w w' v (R.kind x).2.1 (R.kind x).2.2.1 ∧ y = (R.kind x).2.2.2) ∨
  ((R.kind x).2.1 = 0 ∧ zrk (R.kind x).1 = [] ∧ v = .iface 28 (.int .i64 90) ∧ y = (R.kind x).2.2.2) ∨
  ((R.kind x).2.1 = 0 ∧ zrk (R.kind x).1 ≠ [] ∧ (∃ t u, v = .iface t u) ∧ (foldF R (zrk (R.kind x).1) (R.kind x).2.2.2 (zG (R.kind x).1)).2.1 ≠ 0 ∧
    IsE w w' v (foldF R (zrk (R.kind x).1) (R.kind x).2.2.2 (zG (R.kind x).1)).2.1 (foldF R (zrk (R.kind x).1) (R.kind x).2.2.2 (zG (R.kind x).1)).2.2.1 ∧ y = (foldF R (zrk (R.kind x).1) (R.kind x).2.2.2 (zG (R.kind x).1)).2.2.2) ∨
  ((R.kind x).2.1 = 0 ∧ zrk (R.kind x).1 ≠ [] ∧ v = .nilIface ∧ (foldF R (zrk (R.kind x).1) (R.kind x).2.2.2 (zG (R.kind x).1)).2.1 = 0 ∧ y = (foldF R (zrk (R.kind x).1) (R.kind x).2.2.2 (zG (R.kind x).1)).2.2.2 ∧
    ∃ a c, e = atE (foldF R (zrk (R.kind x).1) (R.kind x).2.2.2 (zG (R.kind x).1)).1 a c ∧ NeIn w' a c e.needs ∧ ∀ g, a = some g → K ≤ g.block))
def BadS {σ : Type} (St : World → σ → Prop) (IsE : World → World → Value → Nat → Nat → Prop) (R : RdF σ) (x : σ) (W4 wr : World) (v : Value) : Prop :=
 (∃ t u, v = .iface t u) ∧ ∃ y, St wr y ∧
   (((R.kind x).2.1 ≠ 0 ∧ IsE W4 wr v (R.kind x).2.1 (R.kind x).2.2.1 ∧ y = (R.kind x).2.2.2) ∨
   ((R.kind x).2.1 = 0 ∧ zrk (R.kind x).1 = [] ∧ v = .iface 28 (.int .i64 90) ∧ y = (R.kind x).2.2.2) ∨
   ((R.kind x).2.1 = 0 ∧ zrk (R.kind x).1 ≠ [] ∧ (foldF R (zrk (R.kind x).1) (R.kind x).2.2.2 (zG (R.kind x).1)).2.1 ≠ 0 ∧
     IsE W4 wr v (foldF R (zrk (R.kind x).1) (R.kind x).2.2.2 (zG (R.kind x).1)).2.1 (foldF R (zrk (R.kind x).1) (R.kind x).2.2.2 (zG (R.kind x).1)).2.2.1 ∧ y = (foldF R (zrk (R.kind x).1) (R.kind x).2.2.2 (zG (R.kind x).1)).2.2.2))
def RdE (K : Nat) (w : World) (e : EvG) : Prop := ∃ g a c, e = atE g a c ∧ Bnd g ∧ NeIn w a c g.needs ∧ ∀ p, a = some p → K ≤ p.block
theorem bnd_z {k : Nat} (h : k ≤ 255) : Bnd (zG k) := ⟨h, Nat.zero_le _, Nat.zero_le _, Nat.zero_le _, Nat.zero_le _, Nat.zero_le _, Nat.zero_le _, Nat.zero_le _, Nat.zero_le _⟩
theorem RdE.zero (K : Nat) (w : World) {k : Nat} (hk : k ≤ 255) : RdE K w (zG k) := ⟨zG k, none, 0, rfl, bnd_z hk, NeIn.no _, fun p h => by cases h⟩
theorem RdE.in_ {K : Nat} {w : World} {e : EvG} (h : RdE K w e) : EvIn w e := by
 obtain ⟨g, a, c, rfl, hb, hn, -⟩ := h
 exact ⟨hb.k, hb.sum, hb.n, hb.size, hb.who, hb.name, hb.ver, hb.holder, hb.note, hn⟩
theorem zyp {σ : Type} {R : RdF σ} (H : ∀ x y e, Bnd e → Bnd (oneF R x y e).1) : ∀ (L : List Int) (y : σ) (e : EvG), Bnd e → Bnd (foldF R L y e).1
 | [], _, _, h => h
 | x :: r, y, e, h => by
   rw [foldF]
   split
   · exact H x y e h
   · exact zyp H r _ _ (H x y e h)
def MidS {σ : Type} (b ev fi : Nat) (St : World → σ → Prop) (IsE : World → World → Value → Nat → Nat → Prop) (R : RdF σ) (x : σ) (W4 W8 wr : World) : Prop :=
 Oth3 b ev fi W8 wr ∧ ∃ e v, e.k ≤ 255 ∧ wr.heap[ev]? = some (evO e) ∧ wr.heap[fi]? = some (.cells #[v] 40) ∧
  ((e = zG (R.kind x).1 ∧ (R.kind x).2.1 = 0 ∧ zrk (R.kind x).1 ≠ [] ∧ v = .nilIface ∧ St wr (R.kind x).2.2.2) ∨ (e = zG (R.kind x).1 ∧ BadS St IsE R x W4 wr v))
section
variable {σ : Type} {b L ev fi : Nat} {St : World → σ → Prop} {IsE : World → World → Value → Nat → Nat → Prop} {R : RdF σ} {x : σ} {W4 W8 w6 w7 : World}
theorem zyq {w : World} (H : Src b L St IsE) (hb : b < L) (hL : L ≤ w.heap.size) (h8 : Oth3 b (w.heap.size + 2) (w.heap.size + 3) W8 w6) (h7 : Below w6.heap.size w6 w7) (hst : St w6 (R.kind x).2.2.2) (hev : w7.heap[w.heap.size + 2]? = some (evO (zG (R.kind x).1))) (hfi : w7.heap[w.heap.size + 3]? = some nilO) (hk : (R.kind x).1 ≤ 255)
 (he : (R.kind x).2.1 = 0) (hf : zrk (R.kind x).1 ≠ []) (hw : w.heap.size ≤ w6.heap.size) : MidS b (w.heap.size + 2) (w.heap.size + 3) St IsE R x W4 W8 w7 :=
 ⟨h8.trans ((Oth.of_below h7).to3 _ _), _, _, hk, hev, hfi, .inl ⟨rfl, he, hf, rfl, H.after hst (by omega) h7⟩⟩
theorem zyr {w : World} (H : Src b L St IsE) (hb : b < L) (hL : L ≤ w.heap.size) (h8 : Oth3 b (w.heap.size + 2) (w.heap.size + 3) W8 w6) (h7 : Below w6.heap.size w6 w7) (hst : St w6 (R.kind x).2.2.2) (hev : w7.heap[w.heap.size + 2]? = some (evO (zG (R.kind x).1))) (hfi : w7.heap[w.heap.size + 3]? = some nilO) (hk : (R.kind x).1 ≤ 255)
 (he : (R.kind x).2.1 = 0) (hf : zrk (R.kind x).1 = []) (hw : w.heap.size ≤ w6.heap.size) : MidS b (w.heap.size + 2) (w.heap.size + 3) St IsE R x W4 W8 (w7.setCell ⟨w.heap.size + 3, 0, none⟩ (.iface 28 (.int .i64 90))) :=
 ⟨(h8.trans ((Oth.of_below h7).to3 _ _)).set_f 0 _, _, _, hk, (zpd 0 _ (by omega)).trans hev, by rw [zpc hfi]; rfl, .inr ⟨rfl, ⟨_, _, rfl⟩, _, H.stay (H.after hst (by omega) h7) (fun j hj => zpd 0 _ (by omega)), .inr (.inl ⟨he, hf, rfl, rfl⟩)⟩⟩
theorem mid_bad {t : TypeId} {u : Value} (h8 : Oth3 b ev fi W8 w6) (hst : St w6 (R.kind x).2.2.2) (hie : IsE W4 w6 (.iface t u) (R.kind x).2.1 (R.kind x).2.2.1) (hev : w6.heap[ev]? = some (evO (zG (R.kind x).1))) (hfi : w6.heap[fi]? = some (.cells #[.iface t u] 40)) (hk : (R.kind x).1 ≤ 255)
 (he : (R.kind x).2.1 ≠ 0) : MidS b ev fi St IsE R x W4 W8 w6 := ⟨h8, _, _, hk, hev, hfi, .inr ⟨rfl, ⟨_, _, rfl⟩, _, hst, .inl ⟨he, hie, rfl⟩⟩⟩
end
def PreS {σ : Type} (b ev fi : Nat) (St : World → σ → Prop) (IsE : World → World → Value → Nat → Nat → Prop) (R : RdF σ) (x : σ) (W4 W8 : World) (bb : Bool) (wr : World) : Prop :=
 (bb = false → MidS b ev fi St IsE R x W4 W8 wr) ∧ (bb = true → wr.heap[fi]? = some nilO ∧ MidS b ev fi St IsE R x W4 W8 (wr.setCell ⟨fi, 0, none⟩ (.iface 28 (.int .i64 90))))
theorem zys {σ : Type} {b ev fi : Nat} {St : World → σ → Prop} {IsE : World → World → Value → Nat → Nat → Prop} {R : RdF σ} {x : σ} {W4 W8 wr : World} (h : MidS b ev fi St IsE R x W4 W8 wr) : PreS b ev fi St IsE R x W4 W8 false wr := ⟨fun _ => h, fun h => by cases h⟩
theorem zyt {σ : Type} {b L : Nat} {St : World → σ → Prop} {IsE : World → World → Value → Nat → Nat → Prop} {R : RdF σ} {x : σ} {W4 W8 w6 w7 w : World} (H : Src b L St IsE) (hb : b < L) (hL : L ≤ w.heap.size) (h8 : Oth3 b (w.heap.size + 2) (w.heap.size + 3) W8 w6) (h7 : Below w6.heap.size w6 w7) (hst : St w6 (R.kind x).2.2.2) (hev : w7.heap[w.heap.size + 2]? = some (evO (zG (R.kind x).1))) (hfi : w7.heap[w.heap.size + 3]? = some nilO) (hk : (R.kind x).1 ≤ 255)
 (he : (R.kind x).2.1 = 0) (hf : zrk (R.kind x).1 = []) (hw : w.heap.size ≤ w6.heap.size) : PreS b (w.heap.size + 2) (w.heap.size + 3) St IsE R x W4 W8 true w7 := ⟨fun h => (by cases h), fun _ => ⟨hfi, zyr H hb hL h8 h7 hst hev hfi hk he hf hw⟩⟩
theorem zyu {w w' : World} {a : Option Addr} {c : Nat} {L : List (B × B)} (h : NeIn w a c L) (g : ∀ b, b < w.heap.size → ∀ o, a = some ⟨b, o, none⟩ → w'.heap[b]? = w.heap[b]?) : NeIn w' a c L :=
 ⟨h.le, h.few, h.short, fun h0 => by
  obtain ⟨b, o, e, hc⟩ := h.cells h0
  have hl := World.block_lt_of_cell? _ _ (hc 0 h0 0 (by decide))
  exact ⟨b, o, e, fun i hi j hj => by rw [World.cell?_of_block (a := ⟨b, o + i * 2 + j, none⟩) (g b hl o e)]; exact hc i hi j hj⟩⟩
def LoopS {σ : Type} (b ev fi K : Nat) (St : World → σ → Prop) (IsE : World → World → Value → Nat → Nat → Prop) (R : RdF σ) (x : σ) (W4 wf : World) (e : EvG) (j : Nat) (wr : World) : Prop :=
 Oth3 b ev fi wf wr ∧
  ((e = zG (R.kind x).1 ∧ (R.kind x).2.1 = 0 ∧ zrk (R.kind x).1 ≠ [] ∧ ∃ a c, (foldF R ((zrk (R.kind x).1).take j) (R.kind x).2.2.2 (zG (R.kind x).1)).2.1 = 0 ∧
    wr.heap[ev]? = some (evO (atE (foldF R ((zrk (R.kind x).1).take j) (R.kind x).2.2.2 (zG (R.kind x).1)).1 a c)) ∧ NeIn wr a c (foldF R ((zrk (R.kind x).1).take j) (R.kind x).2.2.2 (zG (R.kind x).1)).1.needs ∧ (∀ g, a = some g → K ≤ g.block) ∧
    wr.heap[fi]? = some nilO ∧ St wr (foldF R ((zrk (R.kind x).1).take j) (R.kind x).2.2.2 (zG (R.kind x).1)).2.2.2) ∨
  (∃ e' v, wr.heap[ev]? = some (evO e') ∧ wr.heap[fi]? = some (.cells #[v] 40) ∧ RdE K wr e' ∧ BadS St IsE R x W4 wr v))
theorem zyv {σ : Type} (R : RdF σ) (x : Int) : ∀ (L : List Int) (y : σ) (e : EvG), (foldF R L y e).2.1 = 0 →
 foldF R (L ++ [x]) y e = if (oneF R x (foldF R L y e).2.2.2 (foldF R L y e).1).2.1 ≠ 0 then oneF R x (foldF R L y e).2.2.2 (foldF R L y e).1 else ((oneF R x (foldF R L y e).2.2.2 (foldF R L y e).1).1, 0, 0, (oneF R x (foldF R L y e).2.2.2 (foldF R L y e).1).2.2.2)
 | [], y, e, _ => rfl
 | z :: L, y, e, h => by
   rw [foldF] at h
   rw [List.cons_append, foldF, foldF]
   by_cases hz : (oneF R z y e).2.1 ≠ 0
   · rw [if_pos hz] at h
     exact absurd h hz
   · rw [if_neg hz] at h
     rw [if_neg hz, if_neg hz]
     exact zyv R x L _ _ h
theorem zyw {σ : Type} (R : RdF σ) (L2 : List Int) : ∀ (L : List Int) (y : σ) (e : EvG), (foldF R L y e).2.1 ≠ 0 → foldF R (L ++ L2) y e = foldF R L y e
 | [], y, e, h => absurd rfl h
 | z :: L, y, e, h => by
   rw [foldF] at h
   rw [List.cons_append, foldF, foldF]
   by_cases hz : (oneF R z y e).2.1 ≠ 0
   · rw [if_pos hz, if_pos hz]
   · rw [if_neg hz] at h
     rw [if_neg hz, if_neg hz]
     exact zyw R L2 L _ _ h
theorem one_at {σ : Type} (R : RdF σ) (x : Int) (y : σ) (e : EvG) (a : Option Addr) (c : Nat) : oneF R x y (atE e a c) = (atE (oneF R x y e).1 a c, (oneF R x y e).2) := by
 unfold oneF
 (repeat' split) <;> rfl
theorem zyx {σ : Type} (R : RdF σ) (x : Int) (y : σ) (e : EvG) (h : x ≠ 3) : (oneF R x y e).1.needs = e.needs := by
 unfold oneF
 (repeat' split) <;> first | rfl | contradiction
theorem zyy (k j : Nat) (hj : j < (zrk k).length) : ∃ n : Nat, (zrk k).getD j 0 = (n : Int) ∧ n < 10 := by
 have h : ∀ x ∈ zrk k, ∃ n : Nat, x = (n : Int) ∧ n < 10 := by
  intro x hx
  unfold zrk at hx
  split at hx <;> simp at hx <;> (try (rcases hx with rfl | rfl | rfl | rfl | rfl | rfl | rfl)) <;> (try (rcases hx with rfl | rfl | rfl | rfl)) <;> (try (rcases hx with rfl | rfl | rfl)) <;> (try (rcases hx with rfl | rfl)) <;> first | exact ⟨0, rfl, by decide⟩ | exact ⟨1, rfl, by decide⟩ | exact ⟨2, rfl, by decide⟩ | exact ⟨3, rfl, by decide⟩ | exact ⟨4, rfl, by decide⟩ | exact ⟨5, rfl, by decide⟩ | exact ⟨6, rfl, by decide⟩ | exact ⟨7, rfl, by decide⟩ | exact ⟨8, rfl, by decide⟩ | exact ⟨9, rfl, by decide⟩
 rw [List.getD_eq_getElem?_getD, List.getElem?_eq_getElem hj]
 exact h _ (List.getElem_mem hj)
theorem zyz (k : Nat) : (zrk k).length ≤ 7 := by
 unfold zrk
 split <;> decide
theorem take_next (L : List Int) (j : Nat) (hj : j < L.length) : L.take (j + 1) = L.take j ++ [L.getD j 0] := by
 rw [List.take_succ_eq_append_getElem hj, List.getD_eq_getElem?_getD, List.getElem?_eq_getElem hj]
 rfl
section
variable {σ : Type} {b L K : Nat} {St : World → σ → Prop} {IsE : World → World → Value → Nat → Nat → Prop} {R : RdF σ} {x : σ} {W4 W8 W9 wf wr w9 w : World} {e : EvG} {j : Nat}
theorem BadS.on (H : Src b L St IsE) {v : Value} (h : BadS St IsE R x W4 w v) (hs : w.heap.size ≤ w9.heap.size) (hb : ∀ j, j < L → w9.heap[j]? = w.heap[j]?) (hk : ∀ j, W4.heap.size ≤ j → j < w.heap.size → w9.heap[j]? = w.heap[j]?) : BadS St IsE R x W4 w9 v := by
 obtain ⟨h1, y, h2, h3⟩ := h
 refine ⟨h1, y, H.stay h2 hb, ?_⟩
 rcases h3 with ⟨a, c, d⟩ | h3 | ⟨a, a2, a3, c, d⟩
 · exact .inl ⟨a, H.keep c hs hk, d⟩
 · exact .inr (.inl h3)
 · exact .inr (.inr ⟨a, a2, a3, H.keep c hs hk, d⟩)
theorem zza {v : Value} (H : Src b L St IsE) (hL : L ≤ W9.heap.size) (h2 : w.heap.size + 2 < W9.heap.size) (h3 : w.heap.size + 3 < W9.heap.size) (hb : Below W9.heap.size W9 wf) (hev : W9.heap[w.heap.size + 2]? = some (evO e)) (hfi : W9.heap[w.heap.size + 3]? = some (.cells #[v] 40))
 (hor : (e = zG (R.kind x).1 ∧ (R.kind x).2.1 = 0 ∧ zrk (R.kind x).1 ≠ [] ∧ v = .nilIface ∧ St W9 (R.kind x).2.2.2) ∨ (e = zG (R.kind x).1 ∧ BadS St IsE R x W4 W9 v)) (hk255 : (R.kind x).1 ≤ 255) (h4 : W4.heap.size ≤ W9.heap.size) : LoopS b (w.heap.size + 2) (w.heap.size + 3) K St IsE R x W4 wf e 0 wf := by
 have k1 := (hb.block _ h2).trans hev
 have k2 := (hb.block _ h3).trans hfi
 refine ⟨Oth3.refl _ _ _ _, ?_⟩
 rcases hor with ⟨rfl, h5, h6, rfl, h7⟩ | ⟨rfl, h⟩
 · exact .inl ⟨rfl, h5, h6, none, 0, rfl, k1, NeIn.no _, fun g h => (by cases h), k2, H.after h7 hL hb⟩
 · exact .inr ⟨_, v, k1, k2, RdE.zero _ _ hk255, h.on H hb.size (fun j hj => hb.block j (by omega)) (fun j _ hj => hb.block j hj)⟩
theorem zzb (H : Src b L St IsE) (HB : ∀ x y e, Bnd e → Bnd (oneF R x y e).1) (hk255 : (R.kind x).1 ≤ 255) (hbw : b < w.heap.size) (hLw : L ≤ w.heap.size) (hbK : w.heap.size + 4 ≤ K) (hlt : j < (zrk (R.kind x).1).length) {xn : Nat} (hxn : (zrk (R.kind x).1).getD j 0 = (xn : Int)) (ho : Oth3 b (w.heap.size + 2) (w.heap.size + 3) wf wr) (he : e = zG (R.kind x).1) (hk : (R.kind x).2.1 = 0) (hf : zrk (R.kind x).1 ≠ [])
 {a : Option Addr} {c : Nat} (h0 : (foldF R ((zrk (R.kind x).1).take j) (R.kind x).2.2.2 (zG (R.kind x).1)).2.1 = 0) (hne : NeIn wr a c (foldF R ((zrk (R.kind x).1).take j) (R.kind x).2.2.2 (zG (R.kind x).1)).1.needs) (hge : ∀ g, a = some g → K ≤ g.block) (h4 : W4.heap.size ≤ wr.heap.size ∧ K ≤ wr.heap.size) {d : Ending}
 (h : StepE b (w.heap.size + 2) (w.heap.size + 3) St IsE xn (atE (foldF R ((zrk (R.kind x).1).take j) (R.kind x).2.2.2 (zG (R.kind x).1)).1 a c) (oneF R xn (foldF R ((zrk (R.kind x).1).take j) (R.kind x).2.2.2 (zG (R.kind x).1)).2.2.2 (atE (foldF R ((zrk (R.kind x).1).take j) (R.kind x).2.2.2 (zG (R.kind x).1)).1 a c)) wr d w9) :
 d = .returned (.tuple #[]) ∧ LoopS b (w.heap.size + 2) (w.heap.size + 3) K St IsE R x W4 wf e (j + 1) w9 := by
 obtain ⟨hd, a9, c9, ht, hn1, hn2⟩ := h
 refine ⟨hd, ho.trans ht.oth, ?_⟩
 have hsn := zyv R xn _ (R.kind x).2.2.2 (zG (R.kind x).1) h0
 rw [← hxn, ← take_next _ j hlt, hxn] at hsn
 have hdr : (zrk (R.kind x).1) = (zrk (R.kind x).1).take (j + 1) ++ (zrk (R.kind x).1).drop (j + 1) := (List.take_append_drop _ _).symm
 rw [one_at] at ht hn2
 have hbF := zyp HB ((zrk (R.kind x).1).take j) (R.kind x).2.2.2 _ (bnd_z hk255)
 generalize foldF R ((zrk (R.kind x).1).take j) (R.kind x).2.2.2 (zG (R.kind x).1) = F at *
 have hneed : NeIn w9 a9 c9 (oneF R xn F.2.2.2 F.1).1.needs ∧ ∀ g, a9 = some g → K ≤ g.block := by
  by_cases h3 : xn = 3
  · obtain ⟨k1, k2⟩ := hn2 h3
    exact ⟨k1, fun g hg => Nat.le_trans h4.2 (k2 g hg)⟩
  · obtain ⟨k1, k2⟩ := hn1 h3
    have k1' : a9 = a := k1
    have k2' : c9 = c := k2
    rw [k1', k2', zyx R xn _ _ (by omega)]
    refine ⟨zyu hne (fun g hl o hg => ?_), hge⟩
    have h5 := hge _ hg
    simp only at h5
    exact ht.oth.block g hl (by omega) (by omega) (by omega)
 obtain ⟨v, hv, hie⟩ := ht.fst
 by_cases ho1 : (oneF R xn F.2.2.2 F.1).2.1 = 0
 · rw [if_neg (by simpa using ho1)] at hsn
   have hv0 : v = .nilIface := by
    simp only [ho1] at hie
    exact H.none_ hie
   subst hv0
   refine .inl ⟨he, hk, hf, a9, c9, ?_⟩
   rw [hsn]
   exact ⟨rfl, ht.row, hneed.1, hneed.2, hv, ht.st⟩
 · rw [if_pos ho1] at hsn
   have hall : foldF R (zrk (R.kind x).1) (R.kind x).2.2.2 (zG (R.kind x).1) = oneF R xn F.2.2.2 F.1 := by
    rw [hdr, zyw R _ _ _ _ (by rw [hsn]; exact ho1), hsn]
   obtain ⟨t, u, rfl⟩ := H.some_ ho1 hie
   refine .inr ⟨_, _, ht.row, hv, ⟨(oneF R xn F.2.2.2 F.1).1, a9, c9, rfl, HB _ _ _ hbF, hneed.1, hneed.2⟩, ⟨_, _, rfl⟩, _, ht.st, .inr (.inr ⟨hk, hf, ?_⟩)⟩
   rw [hall]
   exact ⟨ho1, H.up hie h4.1, rfl⟩
theorem zzc {ev fi : Nat} {Lf : List Int} (HB : ∀ x y e, Bnd e → Bnd (oneF R x y e).1) (hk255 : (R.kind x).1 ≤ 255) (h : LoopS b ev fi K St IsE R x W4 wf e Lf.length wr) (hL : zrk e.k = Lf) : ∃ e' v, wr.heap[ev]? = some (evO e') ∧ wr.heap[fi]? = some (.cells #[v] 40) ∧ RdE K wr e' ∧
 (((R.kind x).2.1 = 0 ∧ zrk (R.kind x).1 ≠ [] ∧ v = .nilIface ∧ (foldF R (zrk (R.kind x).1) (R.kind x).2.2.2 (zG (R.kind x).1)).2.1 = 0 ∧ St wr (foldF R (zrk (R.kind x).1) (R.kind x).2.2.2 (zG (R.kind x).1)).2.2.2 ∧
   ∃ a c, e' = atE (foldF R (zrk (R.kind x).1) (R.kind x).2.2.2 (zG (R.kind x).1)).1 a c ∧ NeIn wr a c e'.needs ∧ ∀ g, a = some g → K ≤ g.block) ∨ BadS St IsE R x W4 wr v) := by
 obtain ⟨-, ⟨rfl, h1, h2, a, c, h3, h4, h5, h6, h7, h8⟩ | ⟨e', v, h1, h2, hr, h3⟩⟩ := h
 · have hz : (zG (R.kind x).1).k = (R.kind x).1 := rfl
   rw [hz] at hL
   rw [← hL, List.take_length] at *
   exact ⟨_, _, h4, h7, ⟨_, a, c, rfl, zyp HB _ _ _ (bnd_z hk255), h5, h6⟩, .inl ⟨h1, h2, rfl, h3, h8, a, c, rfl, h5, h6⟩⟩
 · exact ⟨e', v, h1, h2, hr, .inr h3⟩
theorem fin_end {e' : EvG} {v : Value} (H : Src b L St IsE) (hb : b < w.heap.size) (hL : L ≤ w.heap.size) (h4 : Below w.heap.size w W4) (h8 : Below (w.heap.size + 4) W4 W8) (ho : Oth3 b (w.heap.size + 2) (w.heap.size + 3) W8 wr) (hK : w.heap.size + 4 ≤ K) (hs4 : w.heap.size + 4 ≤ W4.heap.size) (hrd : RdE K wr e')
 (h : ((R.kind x).2.1 = 0 ∧ zrk (R.kind x).1 ≠ [] ∧ v = .nilIface ∧ (foldF R (zrk (R.kind x).1) (R.kind x).2.2.2 (zG (R.kind x).1)).2.1 = 0 ∧ St wr (foldF R (zrk (R.kind x).1) (R.kind x).2.2.2 (zG (R.kind x).1)).2.2.2 ∧
   ∃ a c, e' = atE (foldF R (zrk (R.kind x).1) (R.kind x).2.2.2 (zG (R.kind x).1)).1 a c ∧ NeIn wr a c e'.needs ∧ ∀ g, a = some g → K ≤ g.block) ∨ BadS St IsE R x W4 wr v) :
 EvE b w.heap.size St IsE R x w (.returned (.tuple #[evV e', v])) (wr.drew.setRow (w.heap.size + 1) (evL e').toArray) := by
 have hset : ∀ j, j ≠ w.heap.size + 1 → (wr.drew.setRow (w.heap.size + 1) (evL e').toArray).heap[j]? = wr.heap[j]? := fun j hj => setRow_other _ _ j _ hj
 have hsz : wr.heap.size ≤ (wr.drew.setRow (w.heap.size + 1) (evL e').toArray).heap.size := (below_setRow (Below.refl 0 wr.drew) (Nat.zero_le _) _).size
 have hoth : Oth b w (wr.drew.setRow (w.heap.size + 1) (evL e').toArray) := by
  have hB := below_setRow (Below.refl 0 wr.drew) (Nat.zero_le (w.heap.size + 1)) (evL e').toArray
  exact ⟨hB.os.trans (ho.os.trans (h8.os.trans h4.os)), hB.tape.trans (ho.tape.trans (h8.tape.trans h4.tape)), hB.output.trans (ho.output.trans (h8.output.trans h4.output)), Nat.le_trans h4.size (Nat.le_trans h8.size (Nat.le_trans ho.size hsz)), fun k hk hkb =>
   (hset k (by omega)).trans ((ho.block k (Nat.lt_of_lt_of_le hk (Nat.le_trans h4.size h8.size)) hkb (by omega) (by omega)).trans ((h8.block k (by omega)).trans (h4.block k hk)))⟩
 have hin : EvIn (wr.drew.setRow (w.heap.size + 1) (evL e').toArray) e' := by
  obtain ⟨g0, a0, c0, rfl, hb0, hn0, hg0⟩ := hrd
  exact RdE.in_ (K := K) ⟨g0, a0, c0, rfl, hb0, zoz hn0 (fun g o hg => by
   have := hg0 _ hg
   simp only at this
   exact hset g (by omega)), hg0⟩
 refine ⟨e', v, rfl, hoth, hin, ?_⟩
 rcases h with ⟨h1, h2, rfl, h5, h6, a, c, h7, h9, h10⟩ | hbad
 · refine ⟨_, H.stay h6 (fun j hj => hset j (by omega)), .inr (.inr (.inr ⟨h1, h2, rfl, h5, rfl, a, c, h7, zoz h9 (fun g o hg => ?_), fun g hg => ?_⟩))⟩
   · have := h10 _ hg
     simp only at this
     exact hset g (by omega)
   · have := h10 g hg
     omega
 · have h' := hbad.on H (w9 := wr.drew.setRow (w.heap.size + 1) (evL e').toArray) hsz (fun j hj => hset j (by omega)) (fun j hj _ => hset j (by omega))
   obtain ⟨k1, y, k2, k3⟩ := h'
   refine ⟨y, k2, ?_⟩
   rcases k3 with ⟨a, c, d⟩ | ⟨a, c, d, f⟩ | ⟨a, a2, a3, c, d⟩
   · exact .inl ⟨a, k1, H.up c h4.size, d⟩
   · exact .inr (.inl ⟨a, c, d, f⟩)
   · exact .inr (.inr (.inl ⟨a, a2, k1, a3, H.up c h4.size, d⟩))
end
set_option maxRecDepth 100000 in
theorem zzd {σ : Type} {b L : Nat} {St : World → σ → Prop} {IsE : World → World → Value → Nat → Nat → Prop} {q : RdFn} {R : RdF σ} (H : RdOk b L St IsE q R) (hfd : ∀ k, k ≤ 255 → Fds k (zrk k)) (w : World) (x : σ) (hL : L ≤ w.heap.size) (hst : St w x) :
 Calls Tryz.prog 16 #[.agg (rdV q).toArray] w (EvE b w.heap.size St IsE R x w) := by
 have hs1 : (w.alloc (rdgS q)).heap.size = w.heap.size + 1 := by simp
 have hs4 : ((((w.alloc (rdgS q)).alloc zE0).alloc zE0).alloc nilO).heap.size = w.heap.size + 4 := by simp
 have hr0 := heap_alloc_new w (rdgS q)
 have hW0 : Below w.heap.size w ((((w.alloc (rdgS q)).alloc zE0).alloc zE0).alloc nilO) := chW (alW w _) (chW (alW _ _) (chW (alW _ _) (alW _ _)))
 have hR1 : Below (w.heap.size + 1) (w.alloc (rdgS q)) ((((w.alloc (rdgS q)).alloc zE0).alloc zE0).alloc nilO) := by
  have h := (chW (alW (w.alloc (rdgS q)) zE0) (chW (alW _ zE0) (alW _ nilO)))
  rw [hs1] at h
  exact h
 have hC : ∀ W, Below (w.heap.size + 4) ((((w.alloc (rdgS q)).alloc zE0).alloc zE0).alloc nilO) W → W.cell? ⟨w.heap.size, 0, none⟩ = some (.func (.func q.fk) q.bk q.ck) ∧ W.cell? ⟨w.heap.size, 1, none⟩ = some (.func (.func q.ft) q.bt q.ct) ∧ W.cell? ⟨w.heap.size, 2, none⟩ = some (.func (.func q.fs) q.bs q.cs) ∧ W.cell? ⟨w.heap.size, 3, none⟩ = some (.func (.func q.fo) q.bo q.co) ∧ W.cell? ⟨w.heap.size, 4, none⟩ = some (.func (.func q.fu) q.bu q.cu) ∧ W.cell? ⟨w.heap.size, 5, none⟩ = some (.func (.func q.fn) q.bn q.cn) := fun W hw => zvh ((hw.block _ (by omega)).trans ((hR1.block _ (by omega)).trans hr0))
 have h3 : ((((w.alloc (rdgS q)).alloc zE0).alloc zE0).alloc nilO).heap[w.heap.size + 3]? = some nilO := by have := heap_alloc_new ((((w.alloc (rdgS q)).alloc zE0).alloc zE0)) nilO; simpa using this
 have h2 : ((((w.alloc (rdgS q)).alloc zE0).alloc zE0).alloc nilO).heap[w.heap.size + 2]? = some zE0 := by rw [heap_alloc_old _ _ (by simp)]; have := heap_alloc_new ((w.alloc (rdgS q)).alloc zE0) zE0; simpa using this
 have h1 : ((((w.alloc (rdgS q)).alloc zE0).alloc zE0).alloc nilO).heap[w.heap.size + 1]? = some zE0 := by rw [heap_alloc_old _ _ (by simp), heap_alloc_old _ _ (by simp)]; have := heap_alloc_new (w.alloc (rdgS q)) zE0; simpa using this
 have HF : Hid (∀ W, Below (w.heap.size + 4) ((((w.alloc (rdgS q)).alloc zE0).alloc zE0).alloc nilO) W → W.heap[w.heap.size + 3]? = some nilO ∧ W.heap[w.heap.size + 2]? = some zE0 ∧ W.heap[w.heap.size + 1]? = some zE0 ∧ St W x) := hid (fun W hw =>
  ⟨(hw.block _ (by omega)).trans h3, (hw.block _ (by omega)).trans h2, (hw.block _ (by omega)).trans h1, H.src.stay hst (fun j hj => (hw.block j (by omega)).trans (hW0.block j (by omega)))⟩)
 have HC := hid hC
 have HK4 := hid (Nat.le_of_eq hs4.symm)
 have HN4 : Hid (∀ g, w.heap.size + 4 ≤ g → ¬ IsAr g ((((w.alloc (rdgS q)).alloc zE0).alloc zE0).alloc nilO)) := hid (fun g hg h => by have := h.lt; omega)
 obtain ⟨c0, c1, c2, c3, c4, c5⟩ := HC.out _ (Below.refl _ _)
 have HBr : Hid (Below (w.heap.size + 4) ((((w.alloc (rdgS q)).alloc zE0).alloc zE0).alloc nilO) ((((w.alloc (rdgS q)).alloc zE0).alloc zE0).alloc nilO).drew) := hid (zyd (Below.refl _ _))
 have HNr : Hid (∀ g, w.heap.size + 4 ≤ g → ¬ IsAr g ((((w.alloc (rdgS q)).alloc zE0).alloc zE0).alloc nilO).drew) := hid (fun g hg h => HN4.out g hg h)
 have HW0 := hid hW0
 have HH := hid H
 have HFD := hid hfd
 have HKL := hid (H.kle x)
 have hK4' := Nat.le_refl (w.heap.size + 4)
 have HL := hid hL
 clear hW0 h1 h2 h3 hr0 hs1 hs4 hR1 hC H hfd hst hL HN4
 go_enter Tryz.func16, Tryz.ntmps16
 go_upto_region 4 with fail
 generalize hW4 : ((((w.alloc (rdgS q)).alloc zE0).alloc zE0).alloc nilO) = W4 at *
 go_cut [7] from 11 to 51 (fun v7 wx => ∃ g, v7 = ptS g ∧ Hid (w.heap.size + 4 ≤ g ∧ Sto q (w.heap.size + 2) (w.heap.size + 4) g wx) ∧ Hid (Below (w.heap.size + 4) W4 wx))
 case first =>
  refine wp_region_held_drew (S := fun w' => w'.cell? ⟨w.heap.size, 0, none⟩ = some (.func (.func q.fk) q.bk q.ck) ∧ w'.cell? ⟨w.heap.size, 1, none⟩ = some (.func (.func q.ft) q.bt q.ct) ∧ w'.cell? ⟨w.heap.size, 2, none⟩ = some (.func (.func q.fs) q.bs q.cs) ∧ w'.cell? ⟨w.heap.size, 3, none⟩ = some (.func (.func q.fo) q.bo q.co) ∧ w'.cell? ⟨w.heap.size, 4, none⟩ = some (.func (.func q.fu) q.bu q.cu) ∧ w'.cell? ⟨w.heap.size, 5, none⟩ = some (.func (.func q.fn) q.bn q.cn)) (by kernel_rfl) ⟨c0, c1, c2, c3, c4, c5⟩ (fun hHeld => ?_)
  refine Flow.take (i := 0) (v := ?v0) rfl (by kernel_rfl) (by kernel_rfl) (by kernel_rfl) (fun _ _ _ h => h) (by rfl) ?hy0 (by assumption) ?rest0
  case hy0 => (intro w9 hSw; (try dsimp only at hSw); go_simp; (try with_reducible rfl))
  try simp only [Act.put, List.setIfInBounds_toArray, List.set_cons_zero, List.set_cons_succ]
  refine Flow.take (i := 1) (v := ?v1) rfl (by kernel_rfl) (by kernel_rfl) (by kernel_rfl) (fun _ _ _ h => h) (by rfl) ?hy1 (by assumption) ?rest1
  case hy1 => (intro w9 hSw; (try dsimp only at hSw); go_simp; (try with_reducible rfl))
  try simp only [Act.put, List.setIfInBounds_toArray, List.set_cons_zero, List.set_cons_succ]
  refine Flow.take (i := 2) (v := ?v2) rfl (by kernel_rfl) (by kernel_rfl) (by kernel_rfl) (fun _ _ _ h => h) (by rfl) ?hy2 (by assumption) ?rest2
  case hy2 => (intro w9 hSw; (try dsimp only at hSw); go_simp; (try with_reducible rfl))
  try simp only [Act.put, List.setIfInBounds_toArray, List.set_cons_zero, List.set_cons_succ]
  refine Flow.take (i := 4) (v := ?v4) rfl (by kernel_rfl) (by kernel_rfl) (by kernel_rfl) (fun _ _ _ h => h) (by rfl) ?hy4 (by assumption) ?rest4
  case hy4 => (intro w9 hSw; (try dsimp only at hSw); go_simp; (try with_reducible rfl))
  try simp only [Act.put, List.setIfInBounds_toArray, List.set_cons_zero, List.set_cons_succ]
  refine Flow.take (i := 5) (v := ?v5) rfl (by kernel_rfl) (by kernel_rfl) (by kernel_rfl) (fun _ _ _ h => h) (by rfl) ?hy5 (by assumption) ?rest5
  case hy5 => (intro w9 hSw; (try dsimp only at hSw); go_simp; (try with_reducible rfl))
  try simp only [Act.put, List.setIfInBounds_toArray, List.set_cons_zero, List.set_cons_succ]
  refine Flow.take (i := 6) (v := ?v6) rfl (by kernel_rfl) (by kernel_rfl) (by kernel_rfl) (fun _ _ _ h => h) (by rfl) ?hy6 (by assumption) ?rest6
  case hy6 => (intro w9 hSw; (try dsimp only at hSw); go_simp; (try with_reducible rfl))
  try simp only [Act.put, List.setIfInBounds_toArray, List.set_cons_zero, List.set_cons_succ]
  refine Flow.take (i := 8) (v := ?v8) rfl (by kernel_rfl) (by kernel_rfl) (by kernel_rfl) (fun _ _ _ h => h) (by rfl) ?hy8 (by assumption) ?rest8
  case hy8 => (intro w9 hSw; (try dsimp only at hSw); go_simp; (try with_reducible rfl))
  try simp only [Act.put, List.setIfInBounds_toArray, List.set_cons_zero, List.set_cons_succ]
  refine Flow.take (i := 9) (v := ?v9) rfl (by kernel_rfl) (by kernel_rfl) (by kernel_rfl) (fun _ _ _ h => h) (by rfl) ?hy9 (by assumption) ?rest9
  case hy9 => (intro w9 hSw; (try dsimp only at hSw); go_simp; (try with_reducible rfl))
  try simp only [Act.put, List.setIfInBounds_toArray, List.set_cons_zero, List.set_cons_succ]
  refine Flow.take (i := 10) (v := ?v10) rfl (by kernel_rfl) (by kernel_rfl) (by kernel_rfl) (fun _ _ _ h => h) (by rfl) ?hy10 (by assumption) ?rest10
  case hy10 => (intro w9 hSw; (try dsimp only at hSw); go_simp; (try with_reducible rfl))
  try simp only [Act.put, List.setIfInBounds_toArray, List.set_cons_zero, List.set_cons_succ]
  refine Flow.take (i := 12) (v := ?v12) rfl (by kernel_rfl) (by kernel_rfl) (by kernel_rfl) (fun _ _ _ h => h) (by rfl) ?hy12 (by assumption) ?rest12
  case hy12 => (intro w9 hSw; (try dsimp only at hSw); go_simp; (try with_reducible rfl))
  try simp only [Act.put, List.setIfInBounds_toArray, List.set_cons_zero, List.set_cons_succ]
  refine Flow.take (i := 13) (v := ?v13) rfl (by kernel_rfl) (by kernel_rfl) (by kernel_rfl) (fun _ _ _ h => h) (by rfl) ?hy13 (by assumption) ?rest13
  case hy13 => (intro w9 hSw; (try dsimp only at hSw); go_simp; (try with_reducible rfl))
  try simp only [Act.put, List.setIfInBounds_toArray, List.set_cons_zero, List.set_cons_succ]
  refine Flow.take (i := 14) (v := ?v14) rfl (by kernel_rfl) (by kernel_rfl) (by kernel_rfl) (fun _ _ _ h => h) (by rfl) ?hy14 (by assumption) ?rest14
  case hy14 => (intro w9 hSw; (try dsimp only at hSw); go_simp; (try with_reducible rfl))
  try simp only [Act.put, List.setIfInBounds_toArray, List.set_cons_zero, List.set_cons_succ]
  refine Flow.take (i := 16) (v := ?v16) rfl (by kernel_rfl) (by kernel_rfl) (by kernel_rfl) (fun _ _ _ h => h) (by rfl) ?hy16 (by assumption) ?rest16
  case hy16 => (intro w9 hSw; (try dsimp only at hSw); go_simp; (try with_reducible rfl))
  try simp only [Act.put, List.setIfInBounds_toArray, List.set_cons_zero, List.set_cons_succ]
  refine Flow.take (i := 17) (v := ?v17) rfl (by kernel_rfl) (by kernel_rfl) (by kernel_rfl) (fun _ _ _ h => h) (by rfl) ?hy17 (by assumption) ?rest17
  case hy17 => (intro w9 hSw; (try dsimp only at hSw); go_simp; (try with_reducible rfl))
  try simp only [Act.put, List.setIfInBounds_toArray, List.set_cons_zero, List.set_cons_succ]
  refine Flow.take (i := 18) (v := ?v18) rfl (by kernel_rfl) (by kernel_rfl) (by kernel_rfl) (fun _ _ _ h => h) (by rfl) ?hy18 (by assumption) ?rest18
  case hy18 => (intro w9 hSw; (try dsimp only at hSw); go_simp; (try with_reducible rfl))
  try simp only [Act.put, List.setIfInBounds_toArray, List.set_cons_zero, List.set_cons_succ]
  refine Flow.take (i := 20) (v := ?v20) rfl (by kernel_rfl) (by kernel_rfl) (by kernel_rfl) (fun _ _ _ h => h) (by rfl) ?hy20 (by assumption) ?rest20
  case hy20 => (intro w9 hSw; (try dsimp only at hSw); go_simp; (try with_reducible rfl))
  try simp only [Act.put, List.setIfInBounds_toArray, List.set_cons_zero, List.set_cons_succ]
  refine Flow.take (i := 21) (v := ?v21) rfl (by kernel_rfl) (by kernel_rfl) (by kernel_rfl) (fun _ _ _ h => h) (by rfl) ?hy21 (by assumption) ?rest21
  case hy21 => (intro w9 hSw; (try dsimp only at hSw); go_simp; (try with_reducible rfl))
  try simp only [Act.put, List.setIfInBounds_toArray, List.set_cons_zero, List.set_cons_succ]
  refine Flow.take (i := 22) (v := ?v22) rfl (by kernel_rfl) (by kernel_rfl) (by kernel_rfl) (fun _ _ _ h => h) (by rfl) ?hy22 (by assumption) ?rest22
  case hy22 => (intro w9 hSw; (try dsimp only at hSw); go_simp; (try with_reducible rfl))
  try simp only [Act.put, List.setIfInBounds_toArray, List.set_cons_zero, List.set_cons_succ]
  refine Flow.take (i := 24) (v := ?v24) rfl (by kernel_rfl) (by kernel_rfl) (by kernel_rfl) (fun _ _ _ h => h) (by rfl) ?hy24 (by assumption) ?rest24
  case hy24 => (intro w9 hSw; (try dsimp only at hSw); go_simp; (try with_reducible rfl))
  try simp only [Act.put, List.setIfInBounds_toArray, List.set_cons_zero, List.set_cons_succ]
  refine Flow.take (i := 25) (v := ?v25) rfl (by kernel_rfl) (by kernel_rfl) (by kernel_rfl) (fun _ _ _ h => h) (by rfl) ?hy25 (by assumption) ?rest25
  case hy25 => (intro w9 hSw; (try dsimp only at hSw); go_simp; (try with_reducible rfl))
  try simp only [Act.put, List.setIfInBounds_toArray, List.set_cons_zero, List.set_cons_succ]
  refine Flow.take (i := 26) (v := ?v26) rfl (by kernel_rfl) (by kernel_rfl) (by kernel_rfl) (fun _ _ _ h => h) (by rfl) ?hy26 (by assumption) ?rest26
  case hy26 => (intro w9 hSw; (try dsimp only at hSw); go_simp; (try with_reducible rfl))
  try simp only [Act.put, List.setIfInBounds_toArray, List.set_cons_zero, List.set_cons_succ]
  refine Flow.take (i := 28) (v := ?v28) rfl (by kernel_rfl) (by kernel_rfl) (by kernel_rfl) (fun _ _ _ h => h) (by rfl) ?hy28 (by assumption) ?rest28
  case hy28 => (intro w9 hSw; (try dsimp only at hSw); go_simp; (try with_reducible rfl))
  try simp only [Act.put, List.setIfInBounds_toArray, List.set_cons_zero, List.set_cons_succ]
  refine Flow.take (i := 29) (v := ?v29) rfl (by kernel_rfl) (by kernel_rfl) (by kernel_rfl) (fun _ _ _ h => h) (by rfl) ?hy29 (by assumption) ?rest29
  case hy29 => (intro w9 hSw; (try dsimp only at hSw); go_simp; (try with_reducible rfl))
  try simp only [Act.put, List.setIfInBounds_toArray, List.set_cons_zero, List.set_cons_succ]
  refine Flow.take (i := 30) (v := ?v30) rfl (by kernel_rfl) (by kernel_rfl) (by kernel_rfl) (fun _ _ _ h => h) (by rfl) ?hy30 (by assumption) ?rest30
  case hy30 => (intro w9 hSw; (try dsimp only at hSw); go_simp; (try with_reducible rfl))
  try simp only [Act.put, List.setIfInBounds_toArray, List.set_cons_zero, List.set_cons_succ]
  refine Flow.take (i := 32) (v := ?v32) rfl (by kernel_rfl) (by kernel_rfl) (by kernel_rfl) (fun _ _ _ h => h) (by rfl) ?hy32 (by assumption) ?rest32
  case hy32 => (intro w9 hSw; (try dsimp only at hSw); go_simp; (try with_reducible rfl))
  try simp only [Act.put, List.setIfInBounds_toArray, List.set_cons_zero, List.set_cons_succ]
  refine Flow.take (i := 33) (v := ?v33) rfl (by kernel_rfl) (by kernel_rfl) (by kernel_rfl) (fun _ _ _ h => h) (by rfl) ?hy33 (by assumption) ?rest33
  case hy33 => (intro w9 hSw; (try dsimp only at hSw); go_simp; (try with_reducible rfl))
  try simp only [Act.put, List.setIfInBounds_toArray, List.set_cons_zero, List.set_cons_succ]
  refine Flow.take (i := 34) (v := ?v34) rfl (by kernel_rfl) (by kernel_rfl) (by kernel_rfl) (fun _ _ _ h => h) (by rfl) ?hy34 (by assumption) ?rest34
  case hy34 => (intro w9 hSw; (try dsimp only at hSw); go_simp; (try with_reducible rfl))
  try simp only [Act.put, List.setIfInBounds_toArray, List.set_cons_zero, List.set_cons_succ]
  refine Flow.take (i := 36) (v := ?v36) rfl (by kernel_rfl) (by kernel_rfl) (by kernel_rfl) (fun _ _ _ h => h) (by rfl) ?hy36 (by assumption) ?rest36
  case hy36 => (intro w9 hSw; (try dsimp only at hSw); go_simp; (try with_reducible rfl))
  try simp only [Act.put, List.setIfInBounds_toArray, List.set_cons_zero, List.set_cons_succ]
  refine Flow.take (i := 37) (v := ?v37) rfl (by kernel_rfl) (by kernel_rfl) (by kernel_rfl) (fun _ _ _ h => h) (by rfl) ?hy37 (by assumption) ?rest37
  case hy37 => (intro w9 hSw; (try dsimp only at hSw); go_simp; (try with_reducible rfl))
  try simp only [Act.put, List.setIfInBounds_toArray, List.set_cons_zero, List.set_cons_succ]
  refine Flow.take (i := 38) (v := ?v38) rfl (by kernel_rfl) (by kernel_rfl) (by kernel_rfl) (fun _ _ _ h => h) (by rfl) ?hy38 (by assumption) ?rest38
  case hy38 => (intro w9 hSw; (try dsimp only at hSw); go_simp; (try with_reducible rfl))
  try simp only [Act.put, List.setIfInBounds_toArray, List.set_cons_zero, List.set_cons_succ]
  refine FlowN.zyb (rs := [3, 7, 11, 15, 19, 23, 27, 31, 35, 39, 40, 41, 42]) (D := [14, 18, 22, 26, 30, 34, 38, 42, 46, 50, 51, 7]) (F := FF q (w.heap.size + 2) (w.heap.size + 4)) (N := NN (w.heap.size + 4)) (G := fun x => Hid (Below (w.heap.size + 4) W4 x)) (by kernel_rfl) (by kernel_rfl) (by kernel_rfl) (by kernel_rfl) (by kernel_rfl) (by kernel_rfl) (fun x hx => HC.out _ hx.out) HBr (fun i _ _ => HNr.out) ?steps ?done
  case steps =>
   clear hHeld c0 c1 c2 c3 c4 c5 HF HH HFD HNr
   refine FlowN.Steps.plain rfl rfl ?_ ?_
   · intro us w3 K hG hN hpre hK
     clear hpre hN
     simp only [Flow.zxq, Act.put, List.setIfInBounds_toArray, List.set_cons_zero, List.set_cons_succ] at hK ⊢
     go_simp
     go_at_call 47
     refine (mkS _ _ _ _ _).mono ?_
     rintro e w4 ⟨rfl, rfl⟩
     obtain ⟨hb3, hno, k0, k1⟩ := zyh w3 _ _ 93 45 (by decide) (by decide)
     exact hK.out _ _ (zye hb3 hG HK4.out) (ff_gr hb3 hno) (n_gr hb3 hno) (zyg (by decide) ⟨w3.heap.size, Nat.le_trans HK4.out hG.out.size, rfl, k0, k1⟩) (fun h => by cases h)
   refine FlowN.Steps.plain rfl rfl ?_ ?_
   · intro us w3 K hG hN hpre hK
     clear hpre hN
     simp only [Flow.zxq, Act.put, List.setIfInBounds_toArray, List.set_cons_zero, List.set_cons_succ] at hK ⊢
     go_simp
     go_at_call 47
     refine (mkS _ _ _ _ _).mono ?_
     rintro e w4 ⟨rfl, rfl⟩
     obtain ⟨hb3, hno, k0, k1⟩ := zyh w3 _ _ 93 45 (by decide) (by decide)
     exact hK.out _ _ (zye hb3 hG HK4.out) (ff_gr hb3 hno) (n_gr hb3 hno) (zyg (by decide) ⟨w3.heap.size, Nat.le_trans HK4.out hG.out.size, rfl, k0, k1⟩) (fun h => by cases h)
   refine FlowN.Steps.plain rfl rfl ?_ ?_
   · intro us w3 K hG hN hpre hK
     clear hpre hN
     simp only [Flow.zxq, Act.put, List.setIfInBounds_toArray, List.set_cons_zero, List.set_cons_succ] at hK ⊢
     go_simp
     go_at_call 47
     refine (mkS _ _ _ _ _).mono ?_
     rintro e w4 ⟨rfl, rfl⟩
     obtain ⟨hb3, hno, k0, k1⟩ := zyh w3 _ _ 93 45 (by decide) (by decide)
     exact hK.out _ _ (zye hb3 hG HK4.out) (ff_gr hb3 hno) (n_gr hb3 hno) (zyg (by decide) ⟨w3.heap.size, Nat.le_trans HK4.out hG.out.size, rfl, k0, k1⟩) (fun h => by cases h)
   refine FlowN.Steps.plain rfl rfl ?_ ?_
   · intro us w3 K hG hN hpre hK
     clear hpre hN
     simp only [Flow.zxq, Act.put, List.setIfInBounds_toArray, List.set_cons_zero, List.set_cons_succ] at hK ⊢
     go_simp
     go_at_call 48
     refine (mkN _ _ _ _ _).mono ?_
     rintro e w4 ⟨rfl, rfl⟩
     obtain ⟨hb3, hno, k0, k1⟩ := zyh w3 _ _ 95 96 (by decide) (by decide)
     exact hK.out _ _ (zye hb3 hG HK4.out) (ff_gr hb3 hno) (n_gr hb3 hno) (zyg (by decide) ⟨w3.heap.size, Nat.le_trans HK4.out hG.out.size, rfl, k0, k1⟩) (fun h => by cases h)
   refine FlowN.Steps.plain rfl rfl ?_ ?_
   · intro us w3 K hG hN hpre hK
     clear hpre hN
     simp only [Flow.zxq, Act.put, List.setIfInBounds_toArray, List.set_cons_zero, List.set_cons_succ] at hK ⊢
     go_simp
     go_at_call 50
     refine (mkU _ _ _ _ _).mono ?_
     rintro e w4 ⟨rfl, rfl⟩
     obtain ⟨hb3, hno, k0, k1⟩ := zyh w3 _ _ 98 46 (by decide) (by decide)
     exact hK.out _ _ (zye hb3 hG HK4.out) (ff_gr hb3 hno) (n_gr hb3 hno) (zyg (by decide) ⟨w3.heap.size, Nat.le_trans HK4.out hG.out.size, rfl, k0, k1⟩) (fun h => by cases h)
   refine FlowN.Steps.plain rfl rfl ?_ ?_
   · intro us w3 K hG hN hpre hK
     clear hpre hN
     simp only [Flow.zxq, Act.put, List.setIfInBounds_toArray, List.set_cons_zero, List.set_cons_succ] at hK ⊢
     go_simp
     go_at_call 51
     refine (mkV _ _ _ _ _).mono ?_
     rintro e w4 ⟨rfl, rfl⟩
     obtain ⟨hb3, hno, k0, k1⟩ := zyh w3 _ _ 100 101 (by decide) (by decide)
     exact hK.out _ _ (zye hb3 hG HK4.out) (ff_gr hb3 hno) (n_gr hb3 hno) (zyg (by decide) ⟨w3.heap.size, Nat.le_trans HK4.out hG.out.size, rfl, k0, k1⟩) (fun h => by cases h)
   refine FlowN.Steps.plain rfl rfl ?_ ?_
   · intro us w3 K hG hN hpre hK
     clear hpre hN
     simp only [Flow.zxq, Act.put, List.setIfInBounds_toArray, List.set_cons_zero, List.set_cons_succ] at hK ⊢
     go_simp
     go_at_call 51
     refine (mkV _ _ _ _ _).mono ?_
     rintro e w4 ⟨rfl, rfl⟩
     obtain ⟨hb3, hno, k0, k1⟩ := zyh w3 _ _ 100 101 (by decide) (by decide)
     exact hK.out _ _ (zye hb3 hG HK4.out) (ff_gr hb3 hno) (n_gr hb3 hno) (zyg (by decide) ⟨w3.heap.size, Nat.le_trans HK4.out hG.out.size, rfl, k0, k1⟩) (fun h => by cases h)
   refine FlowN.Steps.plain rfl rfl ?_ ?_
   · intro us w3 K hG hN hpre hK
     clear hpre hN
     simp only [Flow.zxq, Act.put, List.setIfInBounds_toArray, List.set_cons_zero, List.set_cons_succ] at hK ⊢
     go_simp
     go_at_call 47
     refine (mkS _ _ _ _ _).mono ?_
     rintro e w4 ⟨rfl, rfl⟩
     obtain ⟨hb3, hno, k0, k1⟩ := zyh w3 _ _ 93 45 (by decide) (by decide)
     exact hK.out _ _ (zye hb3 hG HK4.out) (ff_gr hb3 hno) (n_gr hb3 hno) (zyg (by decide) ⟨w3.heap.size, Nat.le_trans HK4.out hG.out.size, rfl, k0, k1⟩) (fun h => by cases h)
   refine FlowN.Steps.plain rfl rfl ?_ ?_
   · intro us w3 K hG hN hpre hK
     clear hpre hN
     simp only [Flow.zxq, Act.put, List.setIfInBounds_toArray, List.set_cons_zero, List.set_cons_succ] at hK ⊢
     go_simp
     go_at_call 47
     refine (mkS _ _ _ _ _).mono ?_
     rintro e w4 ⟨rfl, rfl⟩
     obtain ⟨hb3, hno, k0, k1⟩ := zyh w3 _ _ 93 45 (by decide) (by decide)
     exact hK.out _ _ (zye hb3 hG HK4.out) (ff_gr hb3 hno) (n_gr hb3 hno) (zyg (by decide) ⟨w3.heap.size, Nat.le_trans HK4.out hG.out.size, rfl, k0, k1⟩) (fun h => by cases h)
   refine FlowN.Steps.plain rfl rfl ?_ ?_
   · intro us w3 K hG hN hpre hK
     clear hpre hN
     simp only [Flow.zxq, Act.put, List.setIfInBounds_toArray, List.set_cons_zero, List.set_cons_succ] at hK ⊢
     go_simp
     go_at_call 47
     refine (mkS _ _ _ _ _).mono ?_
     rintro e w4 ⟨rfl, rfl⟩
     obtain ⟨hb3, hno, k0, k1⟩ := zyh w3 _ _ 93 45 (by decide) (by decide)
     exact hK.out _ _ (zye hb3 hG HK4.out) (ff_gr hb3 hno) (n_gr hb3 hno) (zyg (by decide) ⟨w3.heap.size, Nat.le_trans HK4.out hG.out.size, rfl, k0, k1⟩) (fun h => by cases h)
   refine FlowN.Steps.plain rfl rfl ?_ ?_
   · intro us w3 K hG hN hpre hK
     obtain ⟨n0, g0, e0, p0, r0⟩ := (hpre 3 14 (by kernel_rfl) (by kernel_rfl) (by kernel_rfl)).2.2.2 (by decide)
     obtain ⟨n1, g1, e1, p1, r1⟩ := (hpre 7 18 (by kernel_rfl) (by kernel_rfl) (by kernel_rfl)).2.2.2 (by decide)
     obtain ⟨n2, g2, e2, p2, r2⟩ := (hpre 11 22 (by kernel_rfl) (by kernel_rfl) (by kernel_rfl)).2.2.2 (by decide)
     obtain ⟨n3, g3, e3, p3, r3⟩ := (hpre 15 26 (by kernel_rfl) (by kernel_rfl) (by kernel_rfl)).2.2.2 (by decide)
     obtain ⟨n4, g4, e4, p4, r4⟩ := (hpre 19 30 (by kernel_rfl) (by kernel_rfl) (by kernel_rfl)).2.2.2 (by decide)
     obtain ⟨n5, g5, e5, p5, r5⟩ := (hpre 23 34 (by kernel_rfl) (by kernel_rfl) (by kernel_rfl)).2.2.2 (by decide)
     obtain ⟨n6, g6, e6, p6, r6⟩ := (hpre 27 38 (by kernel_rfl) (by kernel_rfl) (by kernel_rfl)).2.2.2 (by decide)
     obtain ⟨n7, g7, e7, p7, r7⟩ := (hpre 31 42 (by kernel_rfl) (by kernel_rfl) (by kernel_rfl)).2.2.2 (by decide)
     obtain ⟨n8, g8, e8, p8, r8⟩ := (hpre 35 46 (by kernel_rfl) (by kernel_rfl) (by kernel_rfl)).2.2.2 (by decide)
     obtain ⟨n9, g9, e9, p9, r9⟩ := (hpre 39 50 (by kernel_rfl) (by kernel_rfl) (by kernel_rfl)).2.2.2 (by decide)
     clear hpre hN
     simp only [Flow.zxq, Act.put, List.setIfInBounds_toArray, List.set_cons_zero, List.set_cons_succ, e0, e1, e2, e3, e4, e5, e6, e7, e8, e9] at hK ⊢
     go_simp
     refine hK.out _ _ hG (fun _ _ h => h) (fun _ _ h => h) (ff_of40 ⟨_, rfl, rfl, by simp [Value.oneCell'], fun x hx => ?_⟩) (fun h => by cases h)
     have hx10 : x = 0 ∨ x = 1 ∨ x = 2 ∨ x = 3 ∨ x = 4 ∨ x = 5 ∨ x = 6 ∨ x = 7 ∨ x = 8 ∨ x = 9 := by omega
     rcases hx10 with rfl | rfl | rfl | rfl | rfl | rfl | rfl | rfl | rfl | rfl
     · exact ⟨n0, g0, rfl, p0, r0⟩
     · exact ⟨n1, g1, rfl, p1, r1⟩
     · exact ⟨n2, g2, rfl, p2, r2⟩
     · exact ⟨n3, g3, rfl, p3, r3⟩
     · exact ⟨n4, g4, rfl, p4, r4⟩
     · exact ⟨n5, g5, rfl, p5, r5⟩
     · exact ⟨n6, g6, rfl, p6, r6⟩
     · exact ⟨n7, g7, rfl, p7, r7⟩
     · exact ⟨n8, g8, rfl, p8, r8⟩
     · exact ⟨n9, g9, rfl, p9, r9⟩
   refine FlowN.Steps.plain rfl rfl ?_ ?_
   · intro us w3 K hG hN hpre hK
     clear hpre
     simp only [Flow.zxq, Act.put, List.setIfInBounds_toArray, List.set_cons_zero, List.set_cons_succ] at hK ⊢
     go_simp
     exact hK.out _ _ (zye (alW _ arZ) hG HK4.out) (zyi (hN rfl)) (fun j hj _ e => absurd e hj) (ff_of41 (hN rfl) (Nat.le_trans HK4.out hG.out.size)) (fun h => by cases h)
   refine FlowN.Steps.plain rfl rfl ?_ ?_
   · intro us w3 K hG hN hpre hK
     have h40 := (hpre 40 51 (by kernel_rfl) (by kernel_rfl) (by kernel_rfl)).1 rfl
     have h41 := (hpre 41 7 (by kernel_rfl) (by kernel_rfl) (by kernel_rfl)).2.1 rfl
     clear hpre hN
     cases h40
     rename_i cs h
     cases h41
     rename_i g k
     have e1 := h.1
     have e2 := h.2.1
     have e3 := h.2.2.1
     have hcl := hid h.2.2.2
     have e4 := k.1
     have e5 := k.2.1
     have hia := k.2.2.1
     have huq := hid k.2.2.2.1
     have hth := k.2.2.2.2.1
     have hst := k.2.2.2.2.2
     clear h k
     simp only [Flow.zxq, Act.put, List.setIfInBounds_toArray, List.set_cons_zero, List.set_cons_succ, e1, e4] at hK ⊢
     refine wp_store_mid 102 (.tmp 7) (.tmp 51) rfl g 0 cs rfl rfl ?q3 ?q4 e3 ?q6
     case q3 => rw [e2]; exact hth
     case q4 => rw [e2]; exact zyc
     case q6 => exact hK.out undef _ (hid (below_setCells e5 _ 0 _ hG.out)) (ff_sets e5 hia hth hst e2 hcl.out) (n_sets hia e5) (zyn e5 hia huq.out hth e2 hcl.out) (fun _ => zyn e5 hia huq.out hth e2 hcl.out)
   exact FlowN.Steps.nil
  case done =>
   intro us wx hG hf hf2
   obtain ⟨g, e7, hKg, hia, -, -, hst7⟩ := (hf 41 7 (by decide) (by kernel_rfl)).2.1 rfl
   have hno := ((hf2 42 (by decide) (by kernel_rfl)).2.2.1 rfl).2
   have hsto : Sto q (w.heap.size + 2) (w.heap.size + 4) g wx := by
    rcases hst7 with h | h
    · exact absurd h (hno g hKg)
    · exact h
   have HSTO := hid (And.intro hKg hsto)
   clear hf hf2 hst7 hno hsto hia hKg
   simp only [Flow.zxq, Act.put, List.setIfInBounds_toArray, List.set_cons_zero, List.set_cons_succ, e7]
   go_wp2_with fail
   go_meet
   exact ⟨g, rfl, HSTO, hG⟩
 case rest =>
  obtain ⟨g, rfl, hsto, hcut⟩ := hcut
  obtain ⟨W8, e8⟩ : ∃ W8, W8 = wc := ⟨_, rfl⟩
  subst e8
  obtain ⟨d0, d1, d2, d3, d4, d5⟩ := HC.out _ hcut.out
  have HSTO := hsto
  have HCUT := hcut
  have HSRC := hid HH.out.src
  clear hsto hcut c0 c1 c2 c3 c4 c5 HBr HNr
  have HLb : Hid (b < L) := hid HSRC.out.lt
  have HW8 : Hid (w.heap.size + 4 ≤ W8.heap.size) := hid (Nat.le_trans HK4.out HCUT.out.size)
  go_wp2_with fail
  refine (mkK _ _ _ _ _).mono ?_
  rintro e w5 ⟨rfl, rfl⟩
  obtain ⟨hb5, -, k0, k1⟩ := zyh W8 (.pointer (some ⟨w.heap.size + 2, 0, none⟩)) (.func (.func q.fk) q.bk q.ck) 104 44 (by decide) (by decide)
  generalize hW5 : (W8.alloc (.cells #[.pointer (some ⟨w.heap.size + 2, 0, none⟩)] 104)).alloc (.cells #[.func (.func q.fk) q.bk q.ck] 44) = W5 at *
  have HB5 := zye hb5 HCUT HK4.out
  have HB85 := hid hb5
  obtain ⟨q3, q2, q1, qst⟩ := HF.out _ HB5.out
  have h8 := HW8.out
  have hL8 := HL.out
  have HTK := hid (zvr (fun n : Nat => .int .u8 n) HSRC.out _ ent_iK W8.heap.size (w.heap.size + 2) 0 (w.heap.size + 3) W5 (R.kind x) (runK HSRC.out _ _ _ R.kind HH.out.kind HH.out.ek W8.heap.size (w.heap.size + 2) 0 W5 x qst (by have := hb5.size; omega) (by omega) (by omega) k0 k1 _ _ (.int .u8 0) q2 rfl ⟨by omega, by omega⟩) q2 q3 (by omega) (by omega) (by omega))
  clear hW5 hb5 k0 k1 d0 d1 d2 d3 d4 d5 q1 q2 q3 qst h8 hL8
  go_wp2_with fail
  refine HTK.out.mono ?_
  rintro e w6 ⟨rfl, ht⟩
  have HOT : Hid (Oth3 b (w.heap.size + 2) (w.heap.size + 3) W8 w6) := hid (((Oth.of_below HB85.out).to3 _ _).trans ht.oth)
  have hrow : w6.heap[w.heap.size + 2]? = some (evO (zG (R.kind x).1)) := ht.row
  obtain ⟨v, hfv, hie⟩ := ht.fst
  have HST := hid ht.st
  have HIE : Hid (IsE W4 w6 v (R.kind x).2.1 (R.kind x).2.2.1) := hid (HSRC.out.up hie HB5.out.size)
  have hkl : (R.kind x).1 ≤ 255 := HKL.out
  have e0 := (zos hrow).1
  have c3' := cell1 hfv
  have f3' := zpg (i := 0) hfv
  have HROW := hid hrow
  have HSZ6 : Hid (w.heap.size ≤ w6.heap.size) := hid (by have := zpf hrow; omega)
  have HFV := hid hfv
  unfold zG at e0
  simp only at e0
  clear ht hrow hfv HTK
  go_upto_region 6 with fail
  go_cut [7, 65] from 58 to 66 (fun v7 v65 wx => v7 = ptS g ∧ ∃ bb : Bool, v65 = .bool bb ∧ Hid (PreS b (w.heap.size + 2) (w.heap.size + 3) St IsE R x W4 W8 bb wx))
  case first =>
   by_cases he : (R.kind x).2.1 = 0
   · obtain rfl : v = .nilIface := by rw [he] at hie; exact HSRC.out.none_ hie
     have HIK := hid (zsr (HFD.out _ hkl) w6)
     clear hie
     by_cases hf : zrk (R.kind x).1 = []
     · have hdec : decide (0 < (zrk (R.kind x).1).length) = false := by simp [hf]
       rw [hdec] at HIK
       clear hdec
       go_wp2_with fail
       refine HIK.out.mono ?_
       rintro e w7 ⟨rfl, hb7⟩
       have HN := hid (zyt (IsE := IsE) (W4 := W4) HSRC.out HLb.out HL.out HOT.out hb7 HST.out ((hb7.block _ (zpf HROW.out)).trans HROW.out) ((hb7.block _ (zpf HFV.out)).trans HFV.out) hkl he hf HSZ6.out)
       clear hb7 c3' f3'
       go_wp2_with fail
       go_meet
       exact ⟨rfl, true, rfl, HN⟩
     · have hdec : decide (0 < (zrk (R.kind x).1).length) = true := by simp [List.length_pos_iff, hf]
       rw [hdec] at HIK
       clear hdec
       go_wp2_with fail
       refine HIK.out.mono ?_
       rintro e w7 ⟨rfl, hb7⟩
       have HN := hid (zys (zyq (W4 := W4) HSRC.out HLb.out HL.out HOT.out hb7 HST.out ((hb7.block _ (zpf HROW.out)).trans HROW.out) ((hb7.block _ (zpf HFV.out)).trans HFV.out) hkl he hf HSZ6.out))
       clear hb7 c3' f3'
       go_wp2_with fail
       go_meet
       exact ⟨rfl, false, rfl, HN⟩
   · obtain ⟨t, u, rfl⟩ := HSRC.out.some_ he hie
     have HN := hid (zys (mid_bad HOT.out HST.out HIE.out HROW.out HFV.out hkl he))
     clear hie
     go_wp2_with fail
     go_meet
     exact ⟨rfl, false, rfl, HN⟩
  case rest =>
   obtain ⟨rfl, bb, rfl, hpre⟩ := hcut
   obtain ⟨W7, e7⟩ : ∃ W7, W7 = wc := ⟨_, rfl⟩
   subst e7
   clear HIE HST HROW HFV HSZ6 e0 c3' f3' HOT HB5 HB85
   go_upto_if 65 with fail
   go_cut [7] from 58 to 66 (fun v7 wx => v7 = ptS g ∧ Hid (MidS b (w.heap.size + 2) (w.heap.size + 3) St IsE R x W4 W8 wx))
   case first =>
    cases bb with
    | false =>
      have HN := hid (hpre.out.1 rfl)
      go_wp2_with fail
      go_meet
      exact ⟨rfl, HN⟩
    | true =>
      obtain ⟨hfi, hn⟩ := hpre.out.2 rfl
      have HN := hid hn
      have c7 := cell1 hfi
      have f7 := zpg (i := 0) hfi
      clear hfi hn
      go_wp2_with fail
      go_meet
      exact ⟨rfl, HN⟩
   case rest =>
    obtain ⟨rfl, hmid⟩ := hcut
    obtain ⟨W9, e9⟩ : ∃ W9, W9 = wc := ⟨_, rfl⟩
    subst e9
    obtain ⟨ho9, e, v, hek, hev, hfi, hor⟩ := hmid.out
    have h8 := HW8.out
    have hL8 := HL.out
    have hb8 := HLb.out
    have hs9 : W8.heap.size ≤ W9.heap.size := ho9.size
    have HFDE := hid (HFD.out e.k hek W9)
    have HST8 : Hid (∀ wr, Oth3 b (w.heap.size + 2) (w.heap.size + 3) W8 wr → ∀ xn, xn < 10 → ∃ u, wr.cell? ⟨g, xn, none⟩ = some u ∧ Clo q (w.heap.size + 2) (w.heap.size + 4) xn u wr) := hid (fun wr ho xn hx => by
     have hg := HSTO.out.1
     obtain ⟨u, h1, h2⟩ := HSTO.out.2 xn hx
     have hgl : g < W8.heap.size := World.block_lt_of_cell? _ _ h1
     exact ⟨u, (World.cell?_of_block (a := ⟨g, xn, none⟩) (ho.block g hgl (by omega) (by omega) (by omega))).trans h1, h2.on (fun j hj hK _ => ho.block j hj (by omega) (by omega) (by omega))⟩)
    have hk0 := (zos hev).1
    have HO9 := hid ho9
    have HOR := hid hor
    have HEV := hid hev
    have HFI := hid hfi
    clear hmid ho9 hor hev hfi
    go_wp2_with fail
    refine HFDE.out.mono ?_
    rintro r wf ⟨vv, rfl, hrow, hbf⟩
    obtain ⟨af, cp, rfl, hsl⟩ := zsq hrow
    have HSL := hid hsl
    have HLP0 : Hid (LoopS b (w.heap.size + 2) (w.heap.size + 3) (w.heap.size + 4) St IsE R x W4 wf e 0 wf) := hid (zza HSRC.out (by omega) (by omega) (by omega) hbf HEV.out HFI.out HOR.out HKL.out (by have := HCUT.out.size; omega))
    have HO9f : Hid (Oth3 b (w.heap.size + 2) (w.heap.size + 3) W8 wf) := hid (HO9.out.trans ((Oth.of_below hbf).to3 _ _))
    have HGB : Hid (W9.heap.size ≤ wf.heap.size) := hid hbf.size
    have HX10 := hid (fun j hj => zyy e.k j hj)
    have hl7 := zyz e.k
    generalize hLf : zrk e.k = Lf at *
    have HLf := hid hLf
    clear hrow hbf hsl hk0 hLf HFDE
    go_wp2_with fail
    go_loopw [9, 71] (fun _ i wr => ∃ (j : Nat), i = .int .i64 j ∧ j ≤ Lf.length ∧ Hid (LoopS b (w.heap.size + 2) (w.heap.size + 3) (w.heap.size + 4) St IsE R x W4 wf e j wr)) (fun _ i _ => Lf.length - (intOf i).toNat)
    case atStart => exact ⟨0, rfl, Nat.zero_le _, HLP0⟩
    case round =>
     obtain ⟨j, rfl, hj, HI⟩ := hrel
     rename World => wr
     clear HLP0
     by_cases hlt : j < Lf.length
     · have hdec : decide (j < Lf.length) = true := decide_eq_true hlt
       obtain ⟨g1, rfl, hg1, hg2, hcl⟩ := HSL.out (by omega)
       have hc1 := hcl j hlt
       obtain ⟨xn, hxn, hx10⟩ := HX10.out j hlt
       rw [hxn] at hc1
       have hc2 : wr.cell? ⟨g1, j, none⟩ = some (.int .i64 xn) := (World.cell?_of_block (a := ⟨g1, j, none⟩) (HI.out.1.block g1 hg2 (by omega) (by omega) (by omega))).trans hc1
       obtain ⟨u, hu1, hu2⟩ := HST8.out wr (HO9f.out.trans HI.out.1) xn hx10
       have HU := hid hu2
       have hxi : (xn : Int) < 10 := by omega
       clear hcl hc1 hu2
       have hI := HI.out
       rcases hI with ⟨hoth, ⟨he, hk, hf, a, c, h0, hev, hne, hge, hfi, hst⟩ | ⟨e', v', hev, hfi, hrd, hbad⟩⟩
       · have HT := hid (zvx HH.out (w.heap.size + 2) (w.heap.size + 3) (w.heap.size + 4) xn hx10 u wr HU.out _ _ hst (by have := hoth.size; have := HGB.out; omega) hev hfi (by omega) (by omega) (by omega) (by omega) (by omega))
         have HNX : Hid (∀ d w', StepE b (w.heap.size + 2) (w.heap.size + 3) St IsE xn (atE (foldF R ((zrk (R.kind x).1).take j) (R.kind x).2.2.2 (zG (R.kind x).1)).1 a c) (oneF R xn (foldF R ((zrk (R.kind x).1).take j) (R.kind x).2.2.2 (zG (R.kind x).1)).2.2.2 (atE (foldF R ((zrk (R.kind x).1).take j) (R.kind x).2.2.2 (zG (R.kind x).1)).1 a c)) wr d w' → d = .returned (.tuple #[]) ∧ LoopS b (w.heap.size + 2) (w.heap.size + 3) (w.heap.size + 4) St IsE R x W4 wf e (j + 1) w') := hid (fun d w' h => zzb HSRC.out (fun x y e h => zvt HH.out x y h) HKL.out (by omega) (by omega) (by omega) (by rw [← HLf.out, he] at hlt; exact hlt) (by rw [← HLf.out, he] at hxn; exact hxn) hoth he hk hf h0 hne hge (by have := hoth.size; have := HGB.out; have := HCUT.out.size; omega) h)
         clear hoth he hk hf h0 hev hne hge hfi hst
         go_wp2_with fail
         refine HT.out.mono ?_
         intro d w10 hd
         obtain ⟨rfl, hn⟩ := HNX.out _ _ hd
         have HN := hid hn
         clear hd hn
         go_wp2_with fail
         go_roundw
         case rel => exact ⟨j + 1, by go_num, hlt, HN⟩
         case measure => simp [intOf]; omega
       · obtain ⟨⟨t9, u9', rfl⟩, hb2⟩ := hbad
         have HT := hid (zvo u (w.heap.size + 3) wr t9 u9' hfi)
         have HN : Hid (LoopS b (w.heap.size + 2) (w.heap.size + 3) (w.heap.size + 4) St IsE R x W4 wf e (j + 1) wr) := hid ⟨hoth, .inr ⟨e', _, hev, hfi, hrd, ⟨_, _, rfl⟩, hb2⟩⟩
         clear hoth hev hfi hb2 hrd
         go_wp2_with fail
         refine HT.out.mono ?_
         rintro d w10 ⟨rfl, rfl⟩
         go_wp2_with fail
         go_roundw
         case rel => exact ⟨j + 1, by go_num, hlt, HN⟩
         case measure => simp [intOf]; omega
     · obtain rfl : j = Lf.length := by omega
       have hdec : decide (Lf.length < Lf.length) = false := by simp
       obtain ⟨e', v', hevf, hfif, hrdf, hfin⟩ := zzc (fun x y e h => zvt HH.out x y h) HKL.out HI.out HLf.out
       have HOW : Hid (Oth3 b (w.heap.size + 2) (w.heap.size + 3) W8 wr) := hid (HO9f.out.trans HI.out.1)
       have hq1 : wr.heap[w.heap.size + 1]? = some zE0 := by
        have h1 := (HF.out _ HCUT.out).2.2.1
        exact (HOW.out.block _ (zpf h1) (by omega) (by omega) (by omega)).trans h1
       have HEND : Hid (EvE b w.heap.size St IsE R x w (.returned (.tuple #[evV e', v'])) (wr.drew.setRow (w.heap.size + 1) (evL e').toArray)) := hid (fin_end HSRC.out (by omega) HL.out HW0.out HCUT.out HOW.out hK4' HK4.out hrdf hfin)
       go_wp2_with fail
       refine wp_region_any (by kernel_rfl) ?_
       change wpAny _ _ _ _ _ _ _ (World.drew _)
       have hd2 : wr.drew.heap[w.heap.size + 2]? = some (evO e') := hevf
       have hd1 : wr.drew.heap[w.heap.size + 1]? = some zE0 := hq1
       have hd3 : wr.drew.cell? ⟨w.heap.size + 3, 0, none⟩ = some v' := cell1 hfif
       generalize wr.drew = w9 at *
       have hs3 : (w9.setRow (w.heap.size + 1) (evL e').toArray).cell? ⟨w.heap.size + 3, 0, none⟩ = some v' := by
        rw [World.cell?_of_block (a := ⟨w.heap.size + 3, 0, none⟩) (setRow_other w9 (w.heap.size + 1) (w.heap.size + 3) _ (by omega))]; exact hd3
       clear hevf hfif hq1 hfin hrdf
       refine wpAny_ready (rs := [0, 1]) (by kernel_rfl) (by simp) ?_
       refine AllReady.cons rfl (fun K hK => ?_) (AllReady.cons rfl (fun K hK => ?_) AllReady.nil)
       · refine wp_load_row 27 (.tmp 4) rfl (w.heap.size + 2) rfl _ _ _ _ hd2 Tryz.underlying27 rfl zpa ?_
         refine hK _ _ ?_
         clear hK K
         refine wpAny_ready (rs := [1, 2]) (by kernel_rfl) (by simp) ?_
         refine AllReady.cons rfl (fun K hK => ?_) (AllReady.cons rfl (fun K hK => ?_) AllReady.nil)
         · go_simp
           refine hK _ _ ?_
           clear hK K
           refine wpAny_ready (rs := [2]) (by kernel_rfl) (by simp) ?_
           refine AllReady.cons rfl (fun K hK => ?_) AllReady.nil
           refine wp_store_row 27 (.tmp 2) (.tmp 81) rfl (w.heap.size + 1) (evL e').toArray rfl rfl _ _ hd1 zpa rfl (zpb _) ?_
           refine hK _ _ ?_
           clear hK K
           refine wpAny_ready (rs := [3]) (by kernel_rfl) (by simp) ?_
           refine AllReady.cons rfl (fun K hK => ?_) AllReady.nil
           go_simp
           refine hK _ _ ?_
           clear hK K
           refine wpAny_done (by kernel_rfl) ?_ _
           go_wp2_with fail
           refine bodyPost_ret (zyo rfl _ _ (w.heap.size + 1) _ (evL e').toArray _ _ rfl (setRow_heap _ _ _ _ _ _ hd1) Tryz.underlying27 rfl zpa) rfl ?_
           exact HEND.out
         · refine wp_store_row 27 (.tmp 2) (.tmp 81) rfl (w.heap.size + 1) (evL e').toArray rfl rfl _ _ hd1 zpa rfl (zpb _) ?_
           refine hK _ _ ?_
           clear hK K
           refine wpAny_ready (rs := [1]) (by kernel_rfl) (by simp) ?_
           refine AllReady.cons rfl (fun K hK => ?_) AllReady.nil
           go_simp
           refine hK _ _ ?_
           clear hK K
           refine wpAny_ready (rs := [3]) (by kernel_rfl) (by simp) ?_
           refine AllReady.cons rfl (fun K hK => ?_) AllReady.nil
           go_simp
           refine hK _ _ ?_
           clear hK K
           refine wpAny_done (by kernel_rfl) ?_ _
           go_wp2_with fail
           refine bodyPost_ret (zyo rfl _ _ (w.heap.size + 1) _ (evL e').toArray _ _ rfl (setRow_heap _ _ _ _ _ _ hd1) Tryz.underlying27 rfl zpa) rfl ?_
           exact HEND.out
       · go_simp
         refine hK _ _ ?_
         clear hK K
         refine wpAny_ready (rs := [0]) (by kernel_rfl) (by simp) ?_
         refine AllReady.cons rfl (fun K hK => ?_) AllReady.nil
         refine wp_load_row 27 (.tmp 4) rfl (w.heap.size + 2) rfl _ _ _ _ hd2 Tryz.underlying27 rfl zpa ?_
         refine hK _ _ ?_
         clear hK K
         refine wpAny_ready (rs := [2]) (by kernel_rfl) (by simp) ?_
         refine AllReady.cons rfl (fun K hK => ?_) AllReady.nil
         refine wp_store_row 27 (.tmp 2) (.tmp 81) rfl (w.heap.size + 1) (evL e').toArray rfl rfl _ _ hd1 zpa rfl (zpb _) ?_
         refine hK _ _ ?_
         clear hK K
         refine wpAny_ready (rs := [3]) (by kernel_rfl) (by simp) ?_
         refine AllReady.cons rfl (fun K hK => ?_) AllReady.nil
         go_simp
         refine hK _ _ ?_
         clear hK K
         refine wpAny_done (by kernel_rfl) ?_ _
         go_wp2_with fail
         refine bodyPost_ret (zyo rfl _ _ (w.heap.size + 1) _ (evL e').toArray _ _ rfl (setRow_heap _ _ _ _ _ _ hd1) Tryz.underlying27 rfl zpa) rfl ?_
         exact HEND.out
end EvS
end
end Go.Proofs.YtfbegbmjmhnplaaGreatDoor
