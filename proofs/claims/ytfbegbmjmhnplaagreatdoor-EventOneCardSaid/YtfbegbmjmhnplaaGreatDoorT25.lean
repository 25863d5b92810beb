/-
  What the proof of EvBoth stands on, part 25.
-/
import Derived.Test.YtfbegbmjmhnplaaGreatDoorT24
set_option linter.unusedSimpArgs false
set_option linter.unusedVariables false
set_option maxHeartbeats 16000000
namespace Go.Proofs.YtfbegbmjmhnplaaGreatDoor
open Go.Lib (hid)
section
open Go.RowKit Go.Sort
namespace EvS
open StrC EvF EvC EvA TextR CodeM CodeC
abbrev nilO : Obj := .cells #[.nilIface] 40
set_option maxRecDepth 100000 in
theorem zvn (I : FuncId) (eI : EntS I) (n fi : Nat) (W : World) (Q : Value → World → Prop) (hp : W.heap[fi]? = some nilO) (HI : Calls Tryz.prog I #[ptS (n + 1), ptS n] W fun e w' => ∃ v, e = .returned v ∧ Q v w')
 (hQ : ∀ v w', Q v w' → w'.heap[fi]? = some nilO ∧ (v = .nilIface ∨ ∃ t u, v = .iface t u)) :
 Calls Tryz.prog 46 #[cloV I n, ptS fi] W fun e w' => e = .returned (.tuple #[]) ∧ ∃ v w2, Q v w2 ∧ w' = w2.setCell ⟨fi, 0, none⟩ v := by
 have c0 := cell1 hp
 have HC := hid HI
 have HQ := hid hQ
 unfold EntS at eI
 clear HI hQ hp
 go_enter Tryz.func46, Tryz.ntmps46
 go_wp2_with fail
 refine HC.out.mono ?_
 rintro e w1 ⟨v, rfl, hq⟩
 obtain ⟨h1, h2⟩ := HQ.out v w1 hq
 have k0 := cell1 h1
 have k1 := zpg (i := 0) h1
 have HQ1 := hid hq
 clear hq h1 c0
 rcases h2 with rfl | ⟨t, u, rfl⟩
 · go_wp2_with fail
   refine bodyPost_end (results_none rfl _ _ _) rfl ?_
   exact ⟨rfl, _, w1, HQ1.out, rfl⟩
 · go_wp2_with fail
   refine bodyPost_end (results_none rfl _ _ _) rfl ?_
   exact ⟨rfl, _, w1, HQ1.out, rfl⟩
set_option maxRecDepth 100000 in
theorem zvo (c : Value) (fi : Nat) (W : World) (t : TypeId) (u : Value) (hp : W.heap[fi]? = some (.cells #[.iface t u] 40)) :
 Calls Tryz.prog 46 #[c, ptS fi] W fun e w' => e = .returned (.tuple #[]) ∧ W = w' := by
 have c0 := cell1 hp
 clear hp
 go_enter Tryz.func46, Tryz.ntmps46
 go_wp2_with fail
 refine bodyPost_end (results_none rfl _ _ _) rfl ?_
 exact ⟨rfl, rfl⟩
structure Took {σ : Type} (b ev fi : Nat) (St : World → σ → Prop) (IsE : World → World → Value → Nat → Nat → Prop) (er at_ : Nat) (y : σ) (cs : Array Value) (W w' : World) : Prop where
 row : w'.heap[ev]? = some (.cells cs 27)
 fst : ∃ v, w'.heap[fi]? = some (.cells #[v] 40) ∧ IsE W w' v er at_
 st : St w' y
 oth : Oth3 b ev fi W w'
theorem zvp {σ : Type} {b L : Nat} {St : World → σ → Prop} {IsE : World → World → Value → Nat → Nat → Prop} (HS : Src b L St IsE) {ev fi : Nat} {W w1 : World} {vs : Array Value} {v u : Value} {er at_ : Nat} {y : σ} (hev : W.heap[ev]? = some (.cells vs 27)) (hfi : W.heap[fi]? = some nilO) (hne : ev ≠ fi) (he : L ≤ ev) (hf : L ≤ fi)
 (h1 : IsE W w1 v er at_) (h2 : St w1 y) (h3 : Oth b W w1) (i : Nat) : Took b ev fi St IsE er at_ y (vs.setIfInBounds i u) W ((w1.setCell ⟨ev, i, none⟩ u).setCell ⟨fi, 0, none⟩ v) := by
 have hb := HS.lt
 have l1 := zpf hev
 have l2 := zpf hfi
 have k1 := (h3.block ev l1 (by omega)).trans hev
 have k2 := (h3.block fi l2 (by omega)).trans hfi
 refine ⟨?_, ⟨v, ?_, ?_⟩, ?_, ((h3.to3 ev fi).set_e i u).set_f 0 v⟩
 · rw [zpd 0 v hne, zpc k1]
 · have := zpc (w := w1.setCell ⟨ev, i, none⟩ u) (g := fi) ((zpd i u (fun h => hne h.symm)).trans k2) 0 v
   simpa using this
 · exact HS.keep h1 (by simp) (fun j hj _ => (zpd 0 v (by omega)).trans (zpd i u (by omega)))
 · exact HS.stay h2 (fun j hj => (zpd 0 v (by omega)).trans (zpd i u (by omega)))
theorem zvq {σ : Type} {b L : Nat} {St : World → σ → Prop} {IsE : World → World → Value → Nat → Nat → Prop} (HS : Src b L St IsE) {W0 W : World} {v : Value} {c a : Nat} (h : IsE W0 W v c a) : v = .nilIface ∨ ∃ t u, v = .iface t u := by
 by_cases hc : c = 0
 · subst hc; exact .inl (HS.none_ h)
 · exact .inr (HS.some_ hc h)
theorem zvr {σ α : Type} (C : α → Value) {b L : Nat} {St : World → σ → Prop} {IsE : World → World → Value → Nat → Nat → Prop} (HS : Src b L St IsE) (I : FuncId) (eI : EntS I) (n ev i fi : Nat) (W : World) (r : α × Nat × Nat × σ)
 (HI : Calls Tryz.prog I #[ptS (n + 1), ptS n] W (IntoE C b St IsE r ⟨ev, i, none⟩ W)) {vs : Array Value} (hev : W.heap[ev]? = some (.cells vs 27)) (hfi : W.heap[fi]? = some nilO) (hne : ev ≠ fi) (he : L ≤ ev) (hf : L ≤ fi) :
 Calls Tryz.prog 46 #[cloV I n, ptS fi] W fun e w' => e = .returned (.tuple #[]) ∧ Took b ev fi St IsE r.2.1 r.2.2.1 r.2.2.2 (vs.setIfInBounds i (C r.1)) W w' := by
 have hb := HS.lt
 refine (zvn I eI n fi W (fun v w2 => ∃ w1, IsE W w1 v r.2.1 r.2.2.1 ∧ St w1 r.2.2.2 ∧ Oth b W w1 ∧ w2 = w1.setCell ⟨ev, i, none⟩ (C r.1)) hfi (HI.mono ?_) ?_).mono ?_
 · rintro e w' ⟨v, w1, h1, h2, h3, h4, h5⟩
   exact ⟨v, h1, w1, h2, h3, h4, h5⟩
 · rintro v w' ⟨w1, h2, h3, h4, rfl⟩
   exact ⟨(zpd i _ (fun h => hne h.symm)).trans ((h4.block fi (zpf hfi) (by omega)).trans hfi), zvq HS h2⟩
 · rintro e w' ⟨rfl, v, w2, ⟨w1, h2, h3, h4, rfl⟩, rfl⟩
   exact ⟨rfl, zvp HS hev hfi hne he hf h2 h3 h4 i⟩
theorem zvs {σ : Type} {b L : Nat} {St : World → σ → Prop} {IsE : World → World → Value → Nat → Nat → Prop} (HS : Src b L St IsE) (I : FuncId) (eI : EntS I) (n ev i fi : Nat) (W : World) (r : List (B × B) × Nat × Nat × σ)
 (HI : Calls Tryz.prog I #[ptS (n + 1), ptS n] W (IntoN b St IsE r ⟨ev, i, none⟩ W)) {vs : Array Value} (hev : W.heap[ev]? = some (.cells vs 27)) (hfi : W.heap[fi]? = some nilO) (hne : ev ≠ fi) (he : L ≤ ev) (hf : L ≤ fi) :
 Calls Tryz.prog 46 #[cloV I n, ptS fi] W fun e w' => e = .returned (.tuple #[]) ∧ ∃ a c, Took b ev fi St IsE r.2.1 r.2.2.1 r.2.2.2 (vs.setIfInBounds i (.slice a r.1.length c)) W w' ∧ NeIn w' a c r.1 ∧ ∀ g, a = some g → W.heap.size ≤ g.block := by
 have hb := HS.lt
 refine (zvn I eI n fi W (fun v w2 => ∃ w1 a c, NeIn w1 a c r.1 ∧ (∀ g, a = some g → W.heap.size ≤ g.block) ∧ IsE W w1 v r.2.1 r.2.2.1 ∧ St w1 r.2.2.2 ∧ Oth b W w1 ∧ w2 = w1.setCell ⟨ev, i, none⟩ (.slice a r.1.length c)) hfi (HI.mono ?_) ?_).mono ?_
 · rintro e w' ⟨v, w1, a, c, h1, h2, h3, h4, h5, h6, h7⟩
   exact ⟨v, h1, w1, a, c, h2, h3, h4, h5, h6, h7⟩
 · rintro v w' ⟨w1, a, c, h2, h3, h4, h5, h6, rfl⟩
   exact ⟨(zpd i _ (fun h => hne h.symm)).trans ((h6.block fi (zpf hfi) (by omega)).trans hfi), zvq HS h4⟩
 · rintro e w' ⟨rfl, v, w2, ⟨w1, a, c, h2, h3, h4, h5, h6, rfl⟩, rfl⟩
   refine ⟨rfl, a, c, zvp HS hev hfi hne he hf h4 h5 h6 i, ?_, h3⟩
   have l1 := zpf hev
   have l2 := zpf hfi
   exact zoz h2 (fun g o hg => by
    have := h3 _ hg
    simp only at this
    rw [zpd 0 v (by omega), zpd i _ (by omega)])
def oneF {σ : Type} (R : RdF σ) (x : Int) (y : σ) (e : EvG) : EvG × Nat × Nat × σ :=
 if x = 0 then ({ e with who := (R.text y).1 }, (R.text y).2)
 else if x = 1 then ({ e with name := (R.text y).1 }, (R.text y).2)
 else if x = 2 then ({ e with ver := (R.text y).1 }, (R.text y).2)
 else if x = 3 then ({ e with needs := (zvi R y).1 }, (zvi R y).2)
 else if x = 4 then ({ e with sum := (R.sum y).1 }, (R.sum y).2)
 else if x = 5 then ({ e with n := (shortF R y).1 }, (shortF R y).2)
 else if x = 6 then ({ e with size := (shortF R y).1 }, (shortF R y).2)
 else if x = 7 then ({ e with holder := (R.text y).1 }, (R.text y).2)
 else if x = 8 then ({ e with note := (R.text y).1 }, (R.text y).2)
 else ({ e with note := (R.note y).1 }, (R.note y).2)
structure Bnd (e : EvG) : Prop where
 k : e.k ≤ 255
 sum : e.sum ≤ 18446744073709551615
 n : e.n ≤ 4294967295
 size : e.size ≤ 4294967295
 who : e.who.length ≤ 140737488351232
 name : e.name.length ≤ 140737488351232
 ver : e.ver.length ≤ 140737488351232
 holder : e.holder.length ≤ 140737488351232
 note : e.note.length ≤ 140737488351232
theorem zvt {σ : Type} {b L : Nat} {St : World → σ → Prop} {IsE : World → World → Value → Nat → Nat → Prop} {q : RdFn} {R : RdF σ} (H : RdOk b L St IsE q R) (x : Int) (y : σ) {e : EvG} (h : Bnd e) : Bnd (oneF R x y e).1 := by
 have ht := H.tle y
 have ho := H.ole y
 have hu := H.ule y
 have hs : (shortF R y).1 ≤ 4294967295 := by unfold shortF; simp only; omega
 obtain ⟨h1, h2, h3, h4, h5, h6, h7, h8, h9⟩ := h
 unfold oneF
 (repeat' split) <;> constructor <;> assumption
def foldF {σ : Type} (R : RdF σ) : List Int → σ → EvG → EvG × Nat × Nat × σ
 | [], y, e => (e, 0, 0, y)
 | x :: r, y, e => if (oneF R x y e).2.1 ≠ 0 then oneF R x y e else foldF R r (oneF R x y e).2.2.2 (oneF R x y e).1
def cI : Nat → FuncId
 | 3 => 100
 | 4 => 101
 | 5 => 102
 | 6 => 102
 | _ => 99
def cO : Nat → Nat
 | 9 => 9
 | x => x + 1
def cT : Nat → TypeId
 | 3 => 95
 | 4 => 98
 | 5 => 100
 | 6 => 100
 | _ => 93
def cF (q : RdFn) : Nat → Value
 | 3 => .func (.func 49) #[.agg (rdV q).toArray] #[]
 | 4 => .func (.func q.fu) q.bu q.cu
 | 5 => .func (.func 52) #[.agg (rdV q).toArray] #[]
 | 6 => .func (.func 52) #[.agg (rdV q).toArray] #[]
 | 9 => .func (.func q.fo) q.bo q.co
 | _ => .func (.func q.ft) q.bt q.ct
def cU : Nat → TypeId
 | 3 => 96
 | 4 => 46
 | 5 => 101
 | 6 => 101
 | _ => 45
def Clo (q : RdFn) (ev K : Nat) (x : Nat) (v : Value) (w : World) : Prop :=
 ∃ n, K ≤ n ∧ v = cloV (cI x) n ∧ w.heap[n]? = some (.cells #[.pointer (some ⟨ev, cO x, none⟩)] (cT x)) ∧ w.heap[n + 1]? = some (.cells #[cF q x] (cU x))
theorem zvu : EntS 99 := by intro args w; kernel_rfl
theorem ent_iN : EntS 100 := by intro args w; kernel_rfl
theorem ent_iU : EntS 101 := by intro args w; kernel_rfl
theorem zvv : EntS 102 := by intro args w; kernel_rfl
theorem ent_iK : EntS 103 := by intro args w; kernel_rfl
theorem ent_nd : EntS 49 := by intro args w; kernel_rfl
theorem zvw : EntS 52 := by intro args w; kernel_rfl
def StepE {σ : Type} (b ev fi : Nat) (St : World → σ → Prop) (IsE : World → World → Value → Nat → Nat → Prop) (x : Nat) (e : EvG) (r : EvG × Nat × Nat × σ) (W : World) (d : Ending) (w' : World) : Prop :=
 d = .returned (.tuple #[]) ∧ ∃ a c, Took b ev fi St IsE r.2.1 r.2.2.1 r.2.2.2 (evL (atE r.1 a c)).toArray W w' ∧ (x ≠ 3 → a = e.na ∧ c = e.nc) ∧ (x = 3 → NeIn w' a c r.1.needs ∧ ∀ g, a = some g → W.heap.size ≤ g.block)
set_option maxRecDepth 100000 in
theorem zvx {σ : Type} {b L : Nat} {St : World → σ → Prop} {IsE : World → World → Value → Nat → Nat → Prop} {q : RdFn} {R : RdF σ} (H : RdOk b L St IsE q R) (ev fi K : Nat) (x : Nat) (hx : x < 10) (v : Value) (W : World) (hc : Clo q ev K x v W) (e : EvG) (y : σ) (hst : St W y) (hL : L ≤ W.heap.size)
 (hev : W.heap[ev]? = some (evO e)) (hfi : W.heap[fi]? = some nilO) (hne : ev ≠ fi) (he : L ≤ ev) (hf : L ≤ fi) (hK : ev < K) (hL2 : L ≤ K) :
 Calls Tryz.prog 46 #[v, ptS fi] W (StepE b ev fi St IsE x e (oneF R x y e) W) := by
 obtain ⟨n, hn, hc⟩ := hc
 have hcases : x = 0 ∨ x = 1 ∨ x = 2 ∨ x = 3 ∨ x = 4 ∨ x = 5 ∨ x = 6 ∨ x = 7 ∨ x = 8 ∨ x = 9 := by omega
 rcases hcases with rfl | rfl | rfl | rfl | rfl | rfl | rfl | rfl | rfl | rfl
 · obtain ⟨rfl, h0, h1⟩ := hc
   refine (zvr (fun s : B => .string (str s)) H.src _ zvu n ev 1 fi W (R.text y) (runS H.src _ q.bt q.ct R.text H.text H.et n ev 1 W y hst hL (by omega) he h0 h1 _ _ (.string (str e.who)) hev rfl ⟨by omega, by omega⟩) hev hfi hne he hf).mono ?_
   rintro d w' ⟨rfl, ht⟩
   exact ⟨rfl, e.na, e.nc, ht, fun _ => ⟨rfl, rfl⟩, fun h => absurd h (by decide)⟩
 · obtain ⟨rfl, h0, h1⟩ := hc
   refine (zvr (fun s : B => .string (str s)) H.src _ zvu n ev 2 fi W (R.text y) (runS H.src _ q.bt q.ct R.text H.text H.et n ev 2 W y hst hL (by omega) he h0 h1 _ _ (.string (str e.name)) hev rfl ⟨by omega, by omega⟩) hev hfi hne he hf).mono ?_
   rintro d w' ⟨rfl, ht⟩
   exact ⟨rfl, e.na, e.nc, ht, fun _ => ⟨rfl, rfl⟩, fun h => absurd h (by decide)⟩
 · obtain ⟨rfl, h0, h1⟩ := hc
   refine (zvr (fun s : B => .string (str s)) H.src _ zvu n ev 3 fi W (R.text y) (runS H.src _ q.bt q.ct R.text H.text H.et n ev 3 W y hst hL (by omega) he h0 h1 _ _ (.string (str e.ver)) hev rfl ⟨by omega, by omega⟩) hev hfi hne he hf).mono ?_
   rintro d w' ⟨rfl, ht⟩
   exact ⟨rfl, e.na, e.nc, ht, fun _ => ⟨rfl, rfl⟩, fun h => absurd h (by decide)⟩
 · obtain ⟨rfl, h0, h1⟩ := hc
   refine (zvs H.src _ ent_iN n ev 4 fi W (zvi R y) (runN H.src _ #[.agg (rdV q).toArray] #[] (zvi R) (by simpa using zvm H) ent_nd n ev 4 W y hst hL (by omega) he h0 h1 _ _ (.slice e.na e.needs.length e.nc) hev rfl ⟨by omega, by omega⟩) hev hfi hne he hf).mono ?_
   rintro d w' ⟨rfl, a, c, ht, hnn, hg⟩
   exact ⟨rfl, a, c, ht, fun h => absurd rfl h, fun _ => ⟨hnn, hg⟩⟩
 · obtain ⟨rfl, h0, h1⟩ := hc
   refine (zvr (fun n : Nat => .int .u64 n) H.src _ ent_iU n ev 5 fi W (R.sum y) (runU H.src _ q.bu q.cu R.sum H.sum H.eu n ev 5 W y hst hL (by omega) he h0 h1 _ _ (.int .u64 e.sum) hev rfl ⟨by omega, by omega⟩) hev hfi hne he hf).mono ?_
   rintro d w' ⟨rfl, ht⟩
   exact ⟨rfl, e.na, e.nc, ht, fun _ => ⟨rfl, rfl⟩, fun h => absurd h (by decide)⟩
 · obtain ⟨rfl, h0, h1⟩ := hc
   refine (zvr (fun n : Nat => .int .u32 n) H.src _ zvv n ev 6 fi W (shortF R y) (runV H.src _ #[.agg (rdV q).toArray] #[] (shortF R) (by simpa using zvj H) zvw n ev 6 W y hst hL (by omega) he h0 h1 _ _ (.int .u32 e.n) hev rfl ⟨by omega, by omega⟩) hev hfi hne he hf).mono ?_
   rintro d w' ⟨rfl, ht⟩
   exact ⟨rfl, e.na, e.nc, ht, fun _ => ⟨rfl, rfl⟩, fun h => absurd h (by decide)⟩
 · obtain ⟨rfl, h0, h1⟩ := hc
   refine (zvr (fun n : Nat => .int .u32 n) H.src _ zvv n ev 7 fi W (shortF R y) (runV H.src _ #[.agg (rdV q).toArray] #[] (shortF R) (by simpa using zvj H) zvw n ev 7 W y hst hL (by omega) he h0 h1 _ _ (.int .u32 e.size) hev rfl ⟨by omega, by omega⟩) hev hfi hne he hf).mono ?_
   rintro d w' ⟨rfl, ht⟩
   exact ⟨rfl, e.na, e.nc, ht, fun _ => ⟨rfl, rfl⟩, fun h => absurd h (by decide)⟩
 · obtain ⟨rfl, h0, h1⟩ := hc
   refine (zvr (fun s : B => .string (str s)) H.src _ zvu n ev 8 fi W (R.text y) (runS H.src _ q.bt q.ct R.text H.text H.et n ev 8 W y hst hL (by omega) he h0 h1 _ _ (.string (str e.holder)) hev rfl ⟨by omega, by omega⟩) hev hfi hne he hf).mono ?_
   rintro d w' ⟨rfl, ht⟩
   exact ⟨rfl, e.na, e.nc, ht, fun _ => ⟨rfl, rfl⟩, fun h => absurd h (by decide)⟩
 · obtain ⟨rfl, h0, h1⟩ := hc
   refine (zvr (fun s : B => .string (str s)) H.src _ zvu n ev 9 fi W (R.text y) (runS H.src _ q.bt q.ct R.text H.text H.et n ev 9 W y hst hL (by omega) he h0 h1 _ _ (.string (str e.note)) hev rfl ⟨by omega, by omega⟩) hev hfi hne he hf).mono ?_
   rintro d w' ⟨rfl, ht⟩
   exact ⟨rfl, e.na, e.nc, ht, fun _ => ⟨rfl, rfl⟩, fun h => absurd h (by decide)⟩
 · obtain ⟨rfl, h0, h1⟩ := hc
   refine (zvr (fun s : B => .string (str s)) H.src _ zvu n ev 9 fi W (R.note y) (runS H.src _ q.bo q.co R.note H.note H.eo n ev 9 W y hst hL (by omega) he h0 h1 _ _ (.string (str e.note)) hev rfl ⟨by omega, by omega⟩) hev hfi hne he hf).mono ?_
   rintro d w' ⟨rfl, ht⟩
   exact ⟨rfl, e.na, e.nc, ht, fun _ => ⟨rfl, rfl⟩, fun h => absurd h (by decide)⟩
end EvS
end
section
open Go.RowKit Go.Sort
namespace EvN
open StrC EvF EvC EvA
theorem ins_no (w : World) : Calls Tryz.prog 137 #[.slice none 0 0, .int .i64 0, .int .i64 0] w fun e w' => e = .returned (.tuple #[]) ∧ w = w' := by
 go_enter Tryz.func137, Tryz.ntmps137
 go_wp2_with fail
 refine wp_loop_rounds 1 ?_
 rw [rounds_succ]
 go_wp2_with fail
 refine bodyPost_end (results_none rfl _ _ _) rfl ?_
 exact ⟨rfl, rfl⟩
theorem pdq_no (k : Int) (w : World) : Calls Tryz.prog 113 #[.slice none 0 0, .int .i64 0, .int .i64 0, .int .i64 k] w fun e w' => e = .returned (.tuple #[]) ∧ w = w' := by
 go_enter Tryz.func113, Tryz.ntmps113
 go_wp2_with fail
 refine wp_loop_rounds 1 ?_
 rw [rounds_succ]
 go_wp2_with fail
 refine (ins_no _).mono ?_
 rintro e w' ⟨rfl, rfl⟩
 go_wp2_with fail
 refine bodyPost_ret (results_none rfl _ _ _) rfl ?_
 exact ⟨rfl, rfl⟩
theorem zvy (w : World) : Calls Tryz.prog 147 #[.int .u64 0] w fun e w' => (∃ k : Int, e = .returned (.int .i64 k)) ∧ w = w' := by
 go_enter Tryz.func147, Tryz.ntmps147
 go_wp2_with fail
 go_ret
 exact ⟨⟨_, rfl⟩, rfl⟩
theorem len_no (w : World) : Calls Tryz.prog 114 #[.int .u64 0] w fun e w' => (∃ k : Int, e = .returned (.int .i64 k)) ∧ w = w' := by
 go_enter Tryz.func114, Tryz.ntmps114
 go_wp2_with fail
 refine (zvy _).mono ?_
 rintro e w' ⟨⟨k, rfl⟩, rfl⟩
 go_wp2_with fail
 go_ret
 exact ⟨⟨_, rfl⟩, rfl⟩
theorem zvz (w : World) : Calls Tryz.prog 74 #[.slice none 0 0] w fun e w' => e = .returned (.tuple #[]) ∧ w = w' := by
 go_enter Tryz.func74, Tryz.ntmps74
 go_wp2_with fail
 refine (len_no _).mono ?_
 rintro e w' ⟨⟨k, rfl⟩, rfl⟩
 go_wp2_with fail
 refine (pdq_no k _).mono ?_
 rintro e w' ⟨rfl, rfl⟩
 go_wp2_with fail
 refine bodyPost_end (results_none rfl _ _ _) rfl ?_
 exact ⟨rfl, rfl⟩
theorem zwa (w : World) : Calls Tryz.prog 32 #[.int .u8 0] w (FieldsE [] w) := by
 go_enter Tryz.func32, Tryz.ntmps32
 go_wp2_with fail
 refine (zvz _).mono ?_
 rintro e w' ⟨rfl, rfl⟩
 go_wp2_with fail
 go_ret
 exact ⟨_, rfl, World.ownsRow_nil _ _ _ _, Below.refl _ _⟩
end EvN
end
end Go.Proofs.YtfbegbmjmhnplaaGreatDoor
