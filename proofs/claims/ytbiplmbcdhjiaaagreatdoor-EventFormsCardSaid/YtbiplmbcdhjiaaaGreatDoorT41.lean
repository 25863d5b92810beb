/-
  What the proof of EventForms stands on, part 41.
-/
import Derived.Lib.LazyBuf
import Derived.Test.YtbiplmbcdhjiaaaGreatDoorT39
import Derived.Test.YtbiplmbcdhjiaaaGreatDoorT40
set_option linter.unusedSimpArgs false
set_option linter.unusedVariables false
set_option maxHeartbeats 16000000
namespace Go.Proofs.YtbiplmbcdhjiaaaGreatDoor
open Go.Lib (hid)
section
open Go.RowKit Go.Sort
namespace EvN
open StrC EvF EvC EvA
theorem ydm {n b p : Nat} {W : World} (h : W.heap[p]? = some (rdgO (rdL n b))) : W.cell? ⟨p, 0, none⟩ = some (.func (.func 91) #[] #[pt n]) ∧ W.cell? ⟨p, 1, none⟩ = some (.func (.func 93) #[] #[pt n]) ∧ W.cell? ⟨p, 2, none⟩ = some (.func (.func 93) #[] #[pt n]) ∧ W.cell? ⟨p, 3, none⟩ = some (.func (.func 93) #[] #[pt n]) ∧ W.cell? ⟨p, 4, none⟩ = some (.func (.func 95) #[pt b] #[]) ∧ W.cell? ⟨p, 5, none⟩ = some (.func (.func 96) #[pt b] #[]) := by
 refine ⟨?_, ?_, ?_, ?_, ?_, ?_⟩ <;> simp [World.cell?, h]
abbrev zO : Obj := .cells #[.int .u8 0, .string ⟨#[]⟩, .string ⟨#[]⟩, .string ⟨#[]⟩, .slice none 0 0, .int .u64 0, .int .u32 0, .int .u32 0, .string ⟨#[]⟩, .string ⟨#[]⟩] 27
abbrev arZ : Obj := .cells #[.nilFunc, .nilFunc, .nilFunc, .nilFunc, .nilFunc, .nilFunc, .nilFunc, .nilFunc, .nilFunc, .nilFunc] 154
theorem ydn {W : World} {g : Nat} (h : W.heap[g]? = some arZ) : W.there g 0 10 := by
 intro j hj
 have hj10 : j = 0 ∨ j = 1 ∨ j = 2 ∨ j = 3 ∨ j = 4 ∨ j = 5 ∨ j = 6 ∨ j = 7 ∨ j = 8 ∨ j = 9 := by omega
 rcases hj10 with rfl | rfl | rfl | rfl | rfl | rfl | rfl | rfl | rfl | rfl <;> exact ⟨by simp [World.cell?, h], zts h _⟩
theorem ydo (W : World) : (W.alloc arZ).there W.heap.size 0 10 := ydn (heap_alloc_new W arZ)
theorem ydp {W W' : World} {g : Nat} (hb : Below W.heap.size W W') (h : W.there g 0 10) : W'.there g 0 10 := by
 have hlt : g < W.heap.size := by
  have h0 := (h 0 (by decide)).1
  obtain ⟨v, hv⟩ := Option.isSome_iff_exists.1 h0
  exact World.block_lt_of_cell? _ _ hv
 intro j hj
 have hk := hb.block g hlt
 exact ⟨by rw [World.cell?_of_block (a := ⟨g, 0 + j, none⟩) hk]; exact (h j hj).1, by rw [World.frozen?_of_block (a := ⟨g, 0 + j, none⟩) hk]; exact (h j hj).2⟩
theorem ydq {K : Nat} {W0 W W' : World} (hb : Below W.heap.size W W') (h : Hid (Below K W0 W)) (hK : K ≤ W0.heap.size) : Hid (Below K W0 W') := hid (h.out.trans (hb.mono (Nat.le_trans hK h.out.size)))
theorem ydr {K g : Nat} {W0 W : World} (h : Hid (Below K W0 W)) (hg : K ≤ g) (vs : List Value) : Hid (Below K W0 (W.setCells g 0 vs)) := hid (below_setCells hg vs 0 W h.out)
theorem yds {P : Program} {fn : Func} {p q : Tmp} {ty : TypeId} (h : fn.results = #[.cell p ty, .tmp q]) (tmps : Array Value) (w : World) (g : Nat) (t : TypeId) (cs : Array Value) (fr : Nat × Nat) (d : TypeDesc)
 (hp : tmps.getD p undef = .pointer (some ⟨g, 0, none⟩)) (hg : w.heap[g]? = some (.cells cs t fr))
 (hu : P.underlying ty = some d) (hd : (match d with | .struct _ | .array _ _ => true | _ => false) = true) (hi : (P.info? ty).map (·.size) = some cs.size) :
 (results fn tmps).run P w = .ok (.tuple #[.agg cs, tmps.getD q undef]) w := by
 have hp' : tmps[p]?.getD undef = .pointer (some ⟨g, 0, none⟩) := by simpa using hp
 simp [results, h, hp', asAddr, run_loadVar_row w g t ty cs fr d hg hu hd hi]
def FF (K : Nat) (i : Nat) (v : Value) (w : World) : Prop :=
 match i with
 | 41 => ∃ g, v = pt g ∧ K ≤ g ∧ w.there g 0 10
 | 40 => ∃ cs : Array Value, v = .agg cs ∧ cs.size = 10 ∧ cs.all (·.oneCell') = true
 | 42 => True
 | _ => ∃ f b c, v = .func f b c
theorem ff_on {K : Nat} {w w' : World} (hb : Below w.heap.size w w') : ∀ j u, FF K j u w → FF K j u w' := by
 intro j u h
 unfold FF at *
 split <;> simp_all
 obtain ⟨g, rfl, h1, h2⟩ := h
 exact ⟨g, rfl, h1, ydp hb h2⟩
theorem ff_sets {K : Nat} {w : World} (g : Nat) (vs : List Value) : ∀ j u, FF K j u w → FF K j u (w.setCells g 0 vs) := by
 intro j u h
 unfold FF at *
 split <;> simp_all
 obtain ⟨g2, rfl, h1, h2⟩ := h
 exact ⟨g2, rfl, h1, World.there_setCells h2 _ _ _⟩
theorem ff_40 {K : Nat} {v : Value} {w : World} (h : FF K 40 v w) : ∃ cs : Array Value, v = .agg cs ∧ cs.size = 10 ∧ cs.all (·.oneCell') = true := h
theorem ff_41 {K : Nat} {v : Value} {w : World} (h : FF K 41 v w) : ∃ g, v = pt g ∧ K ≤ g ∧ w.there g 0 10 := h
theorem ydt : (Tryz.prog.info? 154).map (·.size) = some 10 := by kernel_rfl
set_option maxRecDepth 100000 in
theorem ydu (n b : Nat) (w : World) (hn : w.heap[n]? = some (.cells #[pt b] 82)) (hb : w.heap[b]? = some rdO) :
 Calls Tryz.prog 51 #[.agg (rdL n b).toArray] w fun e w' => ∃ f, e = .returned (.tuple #[evV zE, flt f]) ∧ w.heap.size ≤ f ∧ w'.heap[f]? = some nilB ∧ Below w.heap.size w w' := by
 have hs1 : (w.alloc (rdgO (rdL n b))).heap.size = w.heap.size + 1 := by simp
 have hs4 : ((((w.alloc (rdgO (rdL n b))).alloc zO).alloc zO).alloc (.cells #[.nilIface] 42)).heap.size = w.heap.size + 4 := by simp
 have hR1 : Below (w.heap.size + 1) (w.alloc (rdgO (rdL n b))) ((((w.alloc (rdgO (rdL n b))).alloc zO).alloc zO).alloc (.cells #[.nilIface] 42)) := by
  have h := (chW (alW (w.alloc (rdgO (rdL n b))) zO) (chW (alW _ zO) (alW _ (.cells #[.nilIface] 42))))
  rw [hs1] at h
  exact h
 have hC : ∀ W, Below (w.heap.size + 4) ((((w.alloc (rdgO (rdL n b))).alloc zO).alloc zO).alloc (.cells #[.nilIface] 42)) W → W.cell? ⟨w.heap.size, 0, none⟩ = some (.func (.func 91) #[] #[pt n]) ∧ W.cell? ⟨w.heap.size, 1, none⟩ = some (.func (.func 93) #[] #[pt n]) ∧ W.cell? ⟨w.heap.size, 2, none⟩ = some (.func (.func 93) #[] #[pt n]) ∧ W.cell? ⟨w.heap.size, 3, none⟩ = some (.func (.func 93) #[] #[pt n]) ∧ W.cell? ⟨w.heap.size, 4, none⟩ = some (.func (.func 95) #[pt b] #[]) ∧ W.cell? ⟨w.heap.size, 5, none⟩ = some (.func (.func 96) #[pt b] #[]) := fun W hw => ydm ((hw.block w.heap.size (by omega)).trans ((hR1.block w.heap.size (by omega)).trans (heap_alloc_new w _)))
 have HC := hid hC
 have HK4 := hid (Nat.le_of_eq hs4.symm)
 obtain ⟨c0, c1, c2, c3, c4, c5⟩ := HC.out _ (Below.refl _ _)
 have HBr : Hid (Below (w.heap.size + 4) ((((w.alloc (rdgO (rdL n b))).alloc zO).alloc zO).alloc (.cells #[.nilIface] 42)) ((((w.alloc (rdgO (rdL n b))).alloc zO).alloc zO).alloc (.cells #[.nilIface] 42)).drew) := hid (VerC.zgk (Below.refl _ _))
 have HR1 := hid hR1
 have hW0 : Below w.heap.size w ((((w.alloc (rdgO (rdL n b))).alloc zO).alloc zO).alloc (.cells #[.nilIface] 42)) := chW (alW w _) (chW (alW _ _) (chW (alW _ _) (alW _ _)))
 have h3 : ((((w.alloc (rdgO (rdL n b))).alloc zO).alloc zO).alloc (.cells #[.nilIface] 42)).heap[w.heap.size + 3]? = some (.cells #[.nilIface] 42) := by have := heap_alloc_new ((((w.alloc (rdgO (rdL n b))).alloc zO).alloc zO)) (.cells #[.nilIface] 42); simpa using this
 have h2 : ((((w.alloc (rdgO (rdL n b))).alloc zO).alloc zO).alloc (.cells #[.nilIface] 42)).heap[w.heap.size + 2]? = some zO := by rw [heap_alloc_old _ _ (by simp)]; have := heap_alloc_new ((w.alloc (rdgO (rdL n b))).alloc zO) zO; simpa using this
 have h1 : ((((w.alloc (rdgO (rdL n b))).alloc zO).alloc zO).alloc (.cells #[.nilIface] 42)).heap[w.heap.size + 1]? = some zO := by rw [heap_alloc_old _ _ (by simp), heap_alloc_old _ _ (by simp)]; have := heap_alloc_new (w.alloc (rdgO (rdL n b))) zO; simpa using this
 have HF : Hid (∀ W, Below (w.heap.size + 4) ((((w.alloc (rdgO (rdL n b))).alloc zO).alloc zO).alloc (.cells #[.nilIface] 42)) W → W.heap[w.heap.size + 3]? = some (.cells #[.nilIface] 42) ∧ W.heap[w.heap.size + 2]? = some zO ∧ W.heap[w.heap.size + 1]? = some zO ∧ W.heap[n]? = some (.cells #[pt b] 82) ∧ W.heap[b]? = some rdO) := hid (fun W hw =>
  ⟨(hw.block _ (by omega)).trans h3, (hw.block _ (by omega)).trans h2, (hw.block _ (by omega)).trans h1, (hw.block n (by have := (Array.getElem?_eq_some_iff.1 hn).1; omega)).trans ((hW0.block n (Array.getElem?_eq_some_iff.1 hn).1).trans hn), (hw.block b (by have := (Array.getElem?_eq_some_iff.1 hb).1; omega)).trans ((hW0.block b (Array.getElem?_eq_some_iff.1 hb).1).trans hb)⟩)
 have HW0 := hid hW0
 clear hW0 h1 h2 h3 hn hb
 clear hs1 hs4 hR1 hC
 go_enter Tryz.func51, Tryz.ntmps51
 go_upto_region 4 with fail
 generalize hW4 : ((((w.alloc (rdgO (rdL n b))).alloc zO).alloc zO).alloc (.cells #[.nilIface] 42)) = W4 at *
 go_cut [7] from 11 to 51 (fun v7 wx => Hid (Below (w.heap.size + 4) W4 wx))
 case first =>
  refine wp_region_held_drew (S := fun w' => w'.cell? ⟨w.heap.size, 0, none⟩ = some (.func (.func 91) #[] #[pt n]) ∧ w'.cell? ⟨w.heap.size, 1, none⟩ = some (.func (.func 93) #[] #[pt n]) ∧ w'.cell? ⟨w.heap.size, 2, none⟩ = some (.func (.func 93) #[] #[pt n]) ∧ w'.cell? ⟨w.heap.size, 3, none⟩ = some (.func (.func 93) #[] #[pt n]) ∧ w'.cell? ⟨w.heap.size, 4, none⟩ = some (.func (.func 95) #[pt b] #[]) ∧ w'.cell? ⟨w.heap.size, 5, none⟩ = some (.func (.func 96) #[pt b] #[])) (by kernel_rfl) ⟨c0, c1, c2, c3, c4, c5⟩ (fun hHeld => ?_)
  refine Flow.take (i := 0) (v := ?v0) rfl (by kernel_rfl) (by kernel_rfl) (by kernel_rfl) (fun _ _ _ h => h) (by rfl) ?hy0 (by assumption) ?rest0
  case hy0 => (intro w9 hSw; (try dsimp only at hSw); go_simp; (try with_reducible rfl))
  try simp only [Act.put, List.setIfInBounds_toArray, List.set_cons_zero, List.set_cons_succ]
  refine Flow.take (i := 1) (v := ?v1) rfl (by kernel_rfl) (by kernel_rfl) (by kernel_rfl) (fun _ _ _ h => h) (by rfl) ?hy1 (by assumption) ?rest1
  case hy1 => (intro w9 hSw; (try dsimp only at hSw); go_simp; (try with_reducible rfl))
  try simp only [Act.put, List.setIfInBounds_toArray, List.set_cons_zero, List.set_cons_succ]
  refine Flow.take (i := 2) (v := ?v2) rfl (by kernel_rfl) (by kernel_rfl) (by kernel_rfl) (fun _ _ _ h => h) (by rfl) ?hy2 (by assumption) ?rest2
  case hy2 => (intro w9 hSw; (try dsimp only at hSw); go_simp; (try with_reducible rfl))
  try simp only [Act.put, List.setIfInBounds_toArray, List.set_cons_zero, List.set_cons_succ]
  refine Flow.take (i := 4) (v := ?v4) rfl (by kernel_rfl) (by kernel_rfl) (by kernel_rfl) (fun _ _ _ h => h) (by rfl) ?hy4 (by assumption) ?rest4
  case hy4 => (intro w9 hSw; (try dsimp only at hSw); go_simp; (try with_reducible rfl))
  try simp only [Act.put, List.setIfInBounds_toArray, List.set_cons_zero, List.set_cons_succ]
  refine Flow.take (i := 5) (v := ?v5) rfl (by kernel_rfl) (by kernel_rfl) (by kernel_rfl) (fun _ _ _ h => h) (by rfl) ?hy5 (by assumption) ?rest5
  case hy5 => (intro w9 hSw; (try dsimp only at hSw); go_simp; (try with_reducible rfl))
  try simp only [Act.put, List.setIfInBounds_toArray, List.set_cons_zero, List.set_cons_succ]
  refine Flow.take (i := 6) (v := ?v6) rfl (by kernel_rfl) (by kernel_rfl) (by kernel_rfl) (fun _ _ _ h => h) (by rfl) ?hy6 (by assumption) ?rest6
  case hy6 => (intro w9 hSw; (try dsimp only at hSw); go_simp; (try with_reducible rfl))
  try simp only [Act.put, List.setIfInBounds_toArray, List.set_cons_zero, List.set_cons_succ]
  refine Flow.take (i := 8) (v := ?v8) rfl (by kernel_rfl) (by kernel_rfl) (by kernel_rfl) (fun _ _ _ h => h) (by rfl) ?hy8 (by assumption) ?rest8
  case hy8 => (intro w9 hSw; (try dsimp only at hSw); go_simp; (try with_reducible rfl))
  try simp only [Act.put, List.setIfInBounds_toArray, List.set_cons_zero, List.set_cons_succ]
  refine Flow.take (i := 9) (v := ?v9) rfl (by kernel_rfl) (by kernel_rfl) (by kernel_rfl) (fun _ _ _ h => h) (by rfl) ?hy9 (by assumption) ?rest9
  case hy9 => (intro w9 hSw; (try dsimp only at hSw); go_simp; (try with_reducible rfl))
  try simp only [Act.put, List.setIfInBounds_toArray, List.set_cons_zero, List.set_cons_succ]
  refine Flow.take (i := 10) (v := ?v10) rfl (by kernel_rfl) (by kernel_rfl) (by kernel_rfl) (fun _ _ _ h => h) (by rfl) ?hy10 (by assumption) ?rest10
  case hy10 => (intro w9 hSw; (try dsimp only at hSw); go_simp; (try with_reducible rfl))
  try simp only [Act.put, List.setIfInBounds_toArray, List.set_cons_zero, List.set_cons_succ]
  refine Flow.take (i := 12) (v := ?v12) rfl (by kernel_rfl) (by kernel_rfl) (by kernel_rfl) (fun _ _ _ h => h) (by rfl) ?hy12 (by assumption) ?rest12
  case hy12 => (intro w9 hSw; (try dsimp only at hSw); go_simp; (try with_reducible rfl))
  try simp only [Act.put, List.setIfInBounds_toArray, List.set_cons_zero, List.set_cons_succ]
  refine Flow.take (i := 13) (v := ?v13) rfl (by kernel_rfl) (by kernel_rfl) (by kernel_rfl) (fun _ _ _ h => h) (by rfl) ?hy13 (by assumption) ?rest13
  case hy13 => (intro w9 hSw; (try dsimp only at hSw); go_simp; (try with_reducible rfl))
  try simp only [Act.put, List.setIfInBounds_toArray, List.set_cons_zero, List.set_cons_succ]
  refine Flow.take (i := 14) (v := ?v14) rfl (by kernel_rfl) (by kernel_rfl) (by kernel_rfl) (fun _ _ _ h => h) (by rfl) ?hy14 (by assumption) ?rest14
  case hy14 => (intro w9 hSw; (try dsimp only at hSw); go_simp; (try with_reducible rfl))
  try simp only [Act.put, List.setIfInBounds_toArray, List.set_cons_zero, List.set_cons_succ]
  refine Flow.take (i := 16) (v := ?v16) rfl (by kernel_rfl) (by kernel_rfl) (by kernel_rfl) (fun _ _ _ h => h) (by rfl) ?hy16 (by assumption) ?rest16
  case hy16 => (intro w9 hSw; (try dsimp only at hSw); go_simp; (try with_reducible rfl))
  try simp only [Act.put, List.setIfInBounds_toArray, List.set_cons_zero, List.set_cons_succ]
  refine Flow.take (i := 17) (v := ?v17) rfl (by kernel_rfl) (by kernel_rfl) (by kernel_rfl) (fun _ _ _ h => h) (by rfl) ?hy17 (by assumption) ?rest17
  case hy17 => (intro w9 hSw; (try dsimp only at hSw); go_simp; (try with_reducible rfl))
  try simp only [Act.put, List.setIfInBounds_toArray, List.set_cons_zero, List.set_cons_succ]
  refine Flow.take (i := 18) (v := ?v18) rfl (by kernel_rfl) (by kernel_rfl) (by kernel_rfl) (fun _ _ _ h => h) (by rfl) ?hy18 (by assumption) ?rest18
  case hy18 => (intro w9 hSw; (try dsimp only at hSw); go_simp; (try with_reducible rfl))
  try simp only [Act.put, List.setIfInBounds_toArray, List.set_cons_zero, List.set_cons_succ]
  refine Flow.take (i := 20) (v := ?v20) rfl (by kernel_rfl) (by kernel_rfl) (by kernel_rfl) (fun _ _ _ h => h) (by rfl) ?hy20 (by assumption) ?rest20
  case hy20 => (intro w9 hSw; (try dsimp only at hSw); go_simp; (try with_reducible rfl))
  try simp only [Act.put, List.setIfInBounds_toArray, List.set_cons_zero, List.set_cons_succ]
  refine Flow.take (i := 21) (v := ?v21) rfl (by kernel_rfl) (by kernel_rfl) (by kernel_rfl) (fun _ _ _ h => h) (by rfl) ?hy21 (by assumption) ?rest21
  case hy21 => (intro w9 hSw; (try dsimp only at hSw); go_simp; (try with_reducible rfl))
  try simp only [Act.put, List.setIfInBounds_toArray, List.set_cons_zero, List.set_cons_succ]
  refine Flow.take (i := 22) (v := ?v22) rfl (by kernel_rfl) (by kernel_rfl) (by kernel_rfl) (fun _ _ _ h => h) (by rfl) ?hy22 (by assumption) ?rest22
  case hy22 => (intro w9 hSw; (try dsimp only at hSw); go_simp; (try with_reducible rfl))
  try simp only [Act.put, List.setIfInBounds_toArray, List.set_cons_zero, List.set_cons_succ]
  refine Flow.take (i := 24) (v := ?v24) rfl (by kernel_rfl) (by kernel_rfl) (by kernel_rfl) (fun _ _ _ h => h) (by rfl) ?hy24 (by assumption) ?rest24
  case hy24 => (intro w9 hSw; (try dsimp only at hSw); go_simp; (try with_reducible rfl))
  try simp only [Act.put, List.setIfInBounds_toArray, List.set_cons_zero, List.set_cons_succ]
  refine Flow.take (i := 25) (v := ?v25) rfl (by kernel_rfl) (by kernel_rfl) (by kernel_rfl) (fun _ _ _ h => h) (by rfl) ?hy25 (by assumption) ?rest25
  case hy25 => (intro w9 hSw; (try dsimp only at hSw); go_simp; (try with_reducible rfl))
  try simp only [Act.put, List.setIfInBounds_toArray, List.set_cons_zero, List.set_cons_succ]
  refine Flow.take (i := 26) (v := ?v26) rfl (by kernel_rfl) (by kernel_rfl) (by kernel_rfl) (fun _ _ _ h => h) (by rfl) ?hy26 (by assumption) ?rest26
  case hy26 => (intro w9 hSw; (try dsimp only at hSw); go_simp; (try with_reducible rfl))
  try simp only [Act.put, List.setIfInBounds_toArray, List.set_cons_zero, List.set_cons_succ]
  refine Flow.take (i := 28) (v := ?v28) rfl (by kernel_rfl) (by kernel_rfl) (by kernel_rfl) (fun _ _ _ h => h) (by rfl) ?hy28 (by assumption) ?rest28
  case hy28 => (intro w9 hSw; (try dsimp only at hSw); go_simp; (try with_reducible rfl))
  try simp only [Act.put, List.setIfInBounds_toArray, List.set_cons_zero, List.set_cons_succ]
  refine Flow.take (i := 29) (v := ?v29) rfl (by kernel_rfl) (by kernel_rfl) (by kernel_rfl) (fun _ _ _ h => h) (by rfl) ?hy29 (by assumption) ?rest29
  case hy29 => (intro w9 hSw; (try dsimp only at hSw); go_simp; (try with_reducible rfl))
  try simp only [Act.put, List.setIfInBounds_toArray, List.set_cons_zero, List.set_cons_succ]
  refine Flow.take (i := 30) (v := ?v30) rfl (by kernel_rfl) (by kernel_rfl) (by kernel_rfl) (fun _ _ _ h => h) (by rfl) ?hy30 (by assumption) ?rest30
  case hy30 => (intro w9 hSw; (try dsimp only at hSw); go_simp; (try with_reducible rfl))
  try simp only [Act.put, List.setIfInBounds_toArray, List.set_cons_zero, List.set_cons_succ]
  refine Flow.take (i := 32) (v := ?v32) rfl (by kernel_rfl) (by kernel_rfl) (by kernel_rfl) (fun _ _ _ h => h) (by rfl) ?hy32 (by assumption) ?rest32
  case hy32 => (intro w9 hSw; (try dsimp only at hSw); go_simp; (try with_reducible rfl))
  try simp only [Act.put, List.setIfInBounds_toArray, List.set_cons_zero, List.set_cons_succ]
  refine Flow.take (i := 33) (v := ?v33) rfl (by kernel_rfl) (by kernel_rfl) (by kernel_rfl) (fun _ _ _ h => h) (by rfl) ?hy33 (by assumption) ?rest33
  case hy33 => (intro w9 hSw; (try dsimp only at hSw); go_simp; (try with_reducible rfl))
  try simp only [Act.put, List.setIfInBounds_toArray, List.set_cons_zero, List.set_cons_succ]
  refine Flow.take (i := 34) (v := ?v34) rfl (by kernel_rfl) (by kernel_rfl) (by kernel_rfl) (fun _ _ _ h => h) (by rfl) ?hy34 (by assumption) ?rest34
  case hy34 => (intro w9 hSw; (try dsimp only at hSw); go_simp; (try with_reducible rfl))
  try simp only [Act.put, List.setIfInBounds_toArray, List.set_cons_zero, List.set_cons_succ]
  refine Flow.take (i := 36) (v := ?v36) rfl (by kernel_rfl) (by kernel_rfl) (by kernel_rfl) (fun _ _ _ h => h) (by rfl) ?hy36 (by assumption) ?rest36
  case hy36 => (intro w9 hSw; (try dsimp only at hSw); go_simp; (try with_reducible rfl))
  try simp only [Act.put, List.setIfInBounds_toArray, List.set_cons_zero, List.set_cons_succ]
  refine Flow.take (i := 37) (v := ?v37) rfl (by kernel_rfl) (by kernel_rfl) (by kernel_rfl) (fun _ _ _ h => h) (by rfl) ?hy37 (by assumption) ?rest37
  case hy37 => (intro w9 hSw; (try dsimp only at hSw); go_simp; (try with_reducible rfl))
  try simp only [Act.put, List.setIfInBounds_toArray, List.set_cons_zero, List.set_cons_succ]
  refine Flow.take (i := 38) (v := ?v38) rfl (by kernel_rfl) (by kernel_rfl) (by kernel_rfl) (fun _ _ _ h => h) (by rfl) ?hy38 (by assumption) ?rest38
  case hy38 => (intro w9 hSw; (try dsimp only at hSw); go_simp; (try with_reducible rfl))
  try simp only [Act.put, List.setIfInBounds_toArray, List.set_cons_zero, List.set_cons_succ]
  refine Flow.ydl (rs := [3, 7, 11, 15, 19, 23, 27, 31, 35, 39, 40, 41, 42]) (D := [14, 18, 22, 26, 30, 34, 38, 42, 46, 50, 51, 7]) (F := FF (w.heap.size + 4)) (G := fun x => Hid (Below (w.heap.size + 4) W4 x)) (by kernel_rfl) (by kernel_rfl) (by kernel_rfl) (by kernel_rfl) (by kernel_rfl) (by kernel_rfl) (fun x hx => HC.out _ hx.out) HBr ?steps ?done
  case steps =>
   clear hHeld c0 c1 c2 c3 c4 c5 HF HR1
   refine Flow.Steps.plain rfl rfl ?_ ?_
   · intro us w3 K hG hpre hK
     clear hpre
     simp only [Flow.layAct, Act.put, List.setIfInBounds_toArray, List.set_cons_zero, List.set_cons_succ] at hK ⊢
     go_simp
     go_at_call 98
     refine (intoS _ _ _ _ _).mono ?_
     rintro e w4 ⟨⟨na, nb, rfl⟩, hb3⟩
     exact hK.out _ _ (ydq hb3 hG HK4.out) (ff_on hb3) ⟨_, _, _, rfl⟩
   refine Flow.Steps.plain rfl rfl ?_ ?_
   · intro us w3 K hG hpre hK
     clear hpre
     simp only [Flow.layAct, Act.put, List.setIfInBounds_toArray, List.set_cons_zero, List.set_cons_succ] at hK ⊢
     go_simp
     go_at_call 98
     refine (intoS _ _ _ _ _).mono ?_
     rintro e w4 ⟨⟨na, nb, rfl⟩, hb3⟩
     exact hK.out _ _ (ydq hb3 hG HK4.out) (ff_on hb3) ⟨_, _, _, rfl⟩
   refine Flow.Steps.plain rfl rfl ?_ ?_
   · intro us w3 K hG hpre hK
     clear hpre
     simp only [Flow.layAct, Act.put, List.setIfInBounds_toArray, List.set_cons_zero, List.set_cons_succ] at hK ⊢
     go_simp
     go_at_call 98
     refine (intoS _ _ _ _ _).mono ?_
     rintro e w4 ⟨⟨na, nb, rfl⟩, hb3⟩
     exact hK.out _ _ (ydq hb3 hG HK4.out) (ff_on hb3) ⟨_, _, _, rfl⟩
   refine Flow.Steps.plain rfl rfl ?_ ?_
   · intro us w3 K hG hpre hK
     clear hpre
     simp only [Flow.layAct, Act.put, List.setIfInBounds_toArray, List.set_cons_zero, List.set_cons_succ] at hK ⊢
     go_simp
     go_at_call 99
     refine (intoN _ _ _ _ _).mono ?_
     rintro e w4 ⟨⟨na, nb, rfl⟩, hb3⟩
     exact hK.out _ _ (ydq hb3 hG HK4.out) (ff_on hb3) ⟨_, _, _, rfl⟩
   refine Flow.Steps.plain rfl rfl ?_ ?_
   · intro us w3 K hG hpre hK
     clear hpre
     simp only [Flow.layAct, Act.put, List.setIfInBounds_toArray, List.set_cons_zero, List.set_cons_succ] at hK ⊢
     go_simp
     go_at_call 101
     refine (intoU _ _ _ _ _).mono ?_
     rintro e w4 ⟨⟨na, nb, rfl⟩, hb3⟩
     exact hK.out _ _ (ydq hb3 hG HK4.out) (ff_on hb3) ⟨_, _, _, rfl⟩
   refine Flow.Steps.plain rfl rfl ?_ ?_
   · intro us w3 K hG hpre hK
     clear hpre
     simp only [Flow.layAct, Act.put, List.setIfInBounds_toArray, List.set_cons_zero, List.set_cons_succ] at hK ⊢
     go_simp
     go_at_call 102
     refine (intoV _ _ _ _ _).mono ?_
     rintro e w4 ⟨⟨na, nb, rfl⟩, hb3⟩
     exact hK.out _ _ (ydq hb3 hG HK4.out) (ff_on hb3) ⟨_, _, _, rfl⟩
   refine Flow.Steps.plain rfl rfl ?_ ?_
   · intro us w3 K hG hpre hK
     clear hpre
     simp only [Flow.layAct, Act.put, List.setIfInBounds_toArray, List.set_cons_zero, List.set_cons_succ] at hK ⊢
     go_simp
     go_at_call 102
     refine (intoV _ _ _ _ _).mono ?_
     rintro e w4 ⟨⟨na, nb, rfl⟩, hb3⟩
     exact hK.out _ _ (ydq hb3 hG HK4.out) (ff_on hb3) ⟨_, _, _, rfl⟩
   refine Flow.Steps.plain rfl rfl ?_ ?_
   · intro us w3 K hG hpre hK
     clear hpre
     simp only [Flow.layAct, Act.put, List.setIfInBounds_toArray, List.set_cons_zero, List.set_cons_succ] at hK ⊢
     go_simp
     go_at_call 98
     refine (intoS _ _ _ _ _).mono ?_
     rintro e w4 ⟨⟨na, nb, rfl⟩, hb3⟩
     exact hK.out _ _ (ydq hb3 hG HK4.out) (ff_on hb3) ⟨_, _, _, rfl⟩
   refine Flow.Steps.plain rfl rfl ?_ ?_
   · intro us w3 K hG hpre hK
     clear hpre
     simp only [Flow.layAct, Act.put, List.setIfInBounds_toArray, List.set_cons_zero, List.set_cons_succ] at hK ⊢
     go_simp
     go_at_call 98
     refine (intoS _ _ _ _ _).mono ?_
     rintro e w4 ⟨⟨na, nb, rfl⟩, hb3⟩
     exact hK.out _ _ (ydq hb3 hG HK4.out) (ff_on hb3) ⟨_, _, _, rfl⟩
   refine Flow.Steps.plain rfl rfl ?_ ?_
   · intro us w3 K hG hpre hK
     clear hpre
     simp only [Flow.layAct, Act.put, List.setIfInBounds_toArray, List.set_cons_zero, List.set_cons_succ] at hK ⊢
     go_simp
     go_at_call 98
     refine (intoS _ _ _ _ _).mono ?_
     rintro e w4 ⟨⟨na, nb, rfl⟩, hb3⟩
     exact hK.out _ _ (ydq hb3 hG HK4.out) (ff_on hb3) ⟨_, _, _, rfl⟩
   refine Flow.Steps.plain rfl rfl ?_ ?_
   · intro us w3 K hG hpre hK
     obtain ⟨f0, b0, d0, e0⟩ := hpre 3 14 (by kernel_rfl) (by kernel_rfl) (by kernel_rfl)
     obtain ⟨f1, b1, d1, e1⟩ := hpre 7 18 (by kernel_rfl) (by kernel_rfl) (by kernel_rfl)
     obtain ⟨f2, b2, d2, e2⟩ := hpre 11 22 (by kernel_rfl) (by kernel_rfl) (by kernel_rfl)
     obtain ⟨f3, b3, d3, e3⟩ := hpre 15 26 (by kernel_rfl) (by kernel_rfl) (by kernel_rfl)
     obtain ⟨f4, b4, d4, e4⟩ := hpre 19 30 (by kernel_rfl) (by kernel_rfl) (by kernel_rfl)
     obtain ⟨f5, b5, d5, e5⟩ := hpre 23 34 (by kernel_rfl) (by kernel_rfl) (by kernel_rfl)
     obtain ⟨f6, b6, d6, e6⟩ := hpre 27 38 (by kernel_rfl) (by kernel_rfl) (by kernel_rfl)
     obtain ⟨f7, b7, d7, e7⟩ := hpre 31 42 (by kernel_rfl) (by kernel_rfl) (by kernel_rfl)
     obtain ⟨f8, b8, d8, e8⟩ := hpre 35 46 (by kernel_rfl) (by kernel_rfl) (by kernel_rfl)
     obtain ⟨f9, b9, d9, e9⟩ := hpre 39 50 (by kernel_rfl) (by kernel_rfl) (by kernel_rfl)
     clear hpre
     simp only [Flow.layAct, Act.put, List.setIfInBounds_toArray, List.set_cons_zero, List.set_cons_succ, e0, e1, e2, e3, e4, e5, e6, e7, e8, e9] at hK ⊢
     go_simp
     exact hK.out _ _ hG (fun _ _ h => h) ⟨_, rfl, rfl, by simp [Value.oneCell']⟩
   refine Flow.Steps.plain rfl rfl ?_ ?_
   · intro us w3 K hG hpre hK
     clear hpre
     simp only [Flow.layAct, Act.put, List.setIfInBounds_toArray, List.set_cons_zero, List.set_cons_succ] at hK ⊢
     go_simp
     exact hK.out _ _ (ydq (alW _ arZ) hG HK4.out) (ff_on (alW _ arZ)) ⟨_, rfl, Nat.le_trans HK4.out hG.out.size, ydo _⟩
   refine Flow.Steps.plain rfl rfl ?_ ?_
   · intro us w3 K hG hpre hK
     have h40 := ff_40 (hpre 40 51 (by kernel_rfl) (by kernel_rfl) (by kernel_rfl))
     have h41 := ff_41 (hpre 41 7 (by kernel_rfl) (by kernel_rfl) (by kernel_rfl))
     clear hpre
     cases h40
     rename_i cs h
     cases h41
     rename_i g k
     have e1 := h.1
     have e4 := k.1
     have e2 := h.2.1
     have e3 := h.2.2
     have e5 := k.2.1
     have e6 := k.2.2
     clear h k
     simp only [Flow.layAct, Act.put, List.setIfInBounds_toArray, List.set_cons_zero, List.set_cons_succ, e1, e4] at hK ⊢
     refine wp_store_mid 154 (.tmp 7) (.tmp 51) rfl g 0 cs rfl rfl ?q3 ?q4 e3 ?q6
     case q3 => rw [e2]; exact e6
     case q4 => rw [e2]; exact ydt
     case q6 => exact hK.out undef _ (ydr hG e5 _) (ff_sets _ _) trivial
   exact Flow.Steps.nil
  case done =>
   intro us wx hG hf
   simp only [Flow.layAct, Act.put, List.setIfInBounds_toArray, List.set_cons_zero, List.set_cons_succ]
   go_wp2_with fail
   go_meet
   exact hG
 case rest =>
  obtain ⟨d0, d1, d2, d3, d4, d5⟩ := HC.out _ hcut.out
  have HCUT := hid hcut.out
  clear c0 c1 c2 c3 c4 c5 HBr
  go_wp2_with fail
  refine (intoK _ _ _ _ _).mono ?_
  rintro e w5 ⟨rfl, hm0, hm1, hb5⟩
  have HB5 := ydq hb5 HCUT HK4.out
  clear hb5 d0 d1 d2 d3 d4 d5
  obtain ⟨q3, q2, q1, qn, qb⟩ := HF.out _ HB5.out
  have HTK := hid (take_no (w.heap.size + 3) wc.heap.size n b (w.heap.size + 2) w5 q3 hm0 hm1 qn qb q2)
  clear hm0 hm1 q3 q2 q1 qn qb
  go_wp2_with fail
  refine HTK.out.mono ?_
  rintro e w7 ⟨f, w6, rfl, hf1, hf2, hb6, rfl⟩
  have HB6 := ydq hb6 HB5 HK4.out
  obtain ⟨q3, q2, q1, -, -⟩ := HF.out _ HB6.out
  have hc3 : (w6.setCell ⟨w.heap.size + 3, 0, none⟩ (flt f)).cell? ⟨w.heap.size + 3, 0, none⟩ = some (flt f) := yda (by rw [ztq q3]; rfl)
  have hr2 : (w6.setCell ⟨w.heap.size + 3, 0, none⟩ (flt f)).heap[w.heap.size + 2]? = some zO := (ztr 0 _ (by omega)).trans q2
  have hr1 : (w6.setCell ⟨w.heap.size + 3, 0, none⟩ (flt f)).heap[w.heap.size + 1]? = some zO := (ztr 0 _ (by omega)).trans q1
  have hHF : (w6.setCell ⟨w.heap.size + 3, 0, none⟩ (flt f)).heap[f]? = some nilB := (ztr 0 _ (by have := HB5.out.size; have := HK4.out; omega)).trans hf2
  have hlow : Below w.heap.size w (w6.setCell ⟨w.heap.size + 3, 0, none⟩ (flt f)) := (HW0.out.trans (HB6.out.mono (by omega))).trans (Below.setCell (Below.refl _ _) (by show w.heap.size ≤ w.heap.size + 3; omega) _)
  have hfl : w.heap.size + 4 ≤ f := by have := HB5.out.size; have := HK4.out; omega
  have hsz : w.heap.size + 4 ≤ (w6.setCell ⟨w.heap.size + 3, 0, none⟩ (flt f)).heap.size := by have := HB6.out.size; have := HK4.out; simp; omega
  generalize w6.setCell ⟨w.heap.size + 3, 0, none⟩ (flt f) = W7 at *
  have HHF := hid hHF
  have HLW := hid hlow
  have HFL := hid hfl
  have HSZ := hid hsz
  have HR1' := hid hr1
  have HR2' := hid hr2
  have HC3 := hid hc3
  clear hHF hlow hfl hsz hf1 hf2 hb6 q1 q2 q3 HTK hr1
  obtain ⟨e0, e1, e2, e3, e4, e5, e6, e7, e8, e9⟩ := ztd (e := zE) hr2
  unfold zE kindE at e0
  go_wp2_with fail
  refine (zud _).mono ?_
  rintro e w8 ⟨v, rfl, hrow, hb8⟩
  obtain ⟨a, cp, rfl, -⟩ := ztu hrow
  have HB8 := hid hb8
  clear hrow hb8 e0 e1 e2 e3 e4 e5 e6 e7 e8 e9 hc3 hr2
  have hr2 := (HB8.out.block (w.heap.size + 2) (by have := HSZ.out; omega)).trans HR2'.out
  have hr1 := (HB8.out.block (w.heap.size + 1) (by have := HSZ.out; omega)).trans HR1'.out
  have hc3 := (HB8.out.cell (p := ⟨w.heap.size + 3, 0, none⟩) (by show w.heap.size + 3 < _; have := HSZ.out; omega)).trans HC3.out
  have HHF8 := hid ((HB8.out.block f (Array.getElem?_eq_some_iff.1 HHF.out).1).trans HHF.out)
  have HLW8 := hid (HLW.out.trans (HB8.out.mono (by have := HSZ.out; omega)))
  obtain ⟨e0, e1, e2, e3, e4, e5, e6, e7, e8, e9⟩ := ztd (e := zE) hr2
  unfold zE kindE at e0 e1 e2 e3 e4 e5 e6 e7 e8 e9
  go_wp2_with fail
  refine wp_loop_rounds 1 ?_
  rw [rounds_succ]
  go_wp2_with fail
  refine wp_region_any (by kernel_rfl) ?_
  change wpAny _ _ _ _ _ _ _ (World.drew _)
  have hd2 : w8.drew.heap[w.heap.size + 2]? = some (evO zE) := hr2
  have hd1 : w8.drew.heap[w.heap.size + 1]? = some (evO zE) := hr1
  have hd3 : w8.drew.cell? ⟨w.heap.size + 3, 0, none⟩ = some (flt f) := hc3
  have HLW9 := hid (VerC.zgk HLW8.out)
  have HHF9 : Hid (w8.drew.heap[f]? = some nilB) := hid HHF8.out
  generalize w8.drew = w9 at *
  clear e0 e1 e2 e3 e4 e5 e6 e7 e8 e9 hr1 hr2 hc3
  have hs3 : (w9.setRow (w.heap.size + 1) (evL zE).toArray).cell? ⟨w.heap.size + 3, 0, none⟩ = some (flt f) := by
   rw [World.cell?_of_block (a := ⟨w.heap.size + 3, 0, none⟩) (setRow_other w9 (w.heap.size + 1) (w.heap.size + 3) _ (by omega))]; exact hd3
  refine wpAny_ready (rs := [0, 1]) (by kernel_rfl) (by simp) ?_
  refine AllReady.cons rfl (fun K hK => ?_) (AllReady.cons rfl (fun K hK => ?_) AllReady.nil)
  · refine wp_load_row 27 (.tmp 4) rfl (w.heap.size + 2) rfl _ _ _ _ hd2 Tryz.underlying27 rfl zto ?_
    refine hK _ _ ?_
    clear hK K
    refine wpAny_ready (rs := [1, 2]) (by kernel_rfl) (by simp) ?_
    refine AllReady.cons rfl (fun K hK => ?_) (AllReady.cons rfl (fun K hK => ?_) AllReady.nil)
    · go_simp
      refine hK _ _ ?_
      clear hK K
      refine wpAny_ready (rs := [2]) (by kernel_rfl) (by simp) ?_
      refine AllReady.cons rfl (fun K hK => ?_) AllReady.nil
      refine wp_store_row 27 (.tmp 2) (.tmp 81) rfl (w.heap.size + 1) (evL zE).toArray rfl rfl _ _ hd1 zto rfl (ztp _) ?_
      refine hK _ _ ?_
      clear hK K
      refine wpAny_ready (rs := [3]) (by kernel_rfl) (by simp) ?_
      refine AllReady.cons rfl (fun K hK => ?_) AllReady.nil
      go_simp
      refine hK _ _ ?_
      clear hK K
      refine wpAny_done (by kernel_rfl) ?_ _
      go_wp2_with fail
      refine bodyPost_ret (yds rfl _ _ (w.heap.size + 1) _ (evL zE).toArray _ _ rfl (setRow_heap _ _ _ _ _ _ hd1) Tryz.underlying27 rfl zto) rfl ?_
      exact ⟨f, rfl, by have := HFL.out; omega, (setRow_other w9 (w.heap.size + 1) f _ (by have := HFL.out; omega)).trans HHF9.out, below_setRow HLW9.out (by omega) _⟩
    · refine wp_store_row 27 (.tmp 2) (.tmp 81) rfl (w.heap.size + 1) (evL zE).toArray rfl rfl _ _ hd1 zto rfl (ztp _) ?_
      refine hK _ _ ?_
      clear hK K
      refine wpAny_ready (rs := [1]) (by kernel_rfl) (by simp) ?_
      refine AllReady.cons rfl (fun K hK => ?_) AllReady.nil
      go_simp
      refine hK _ _ ?_
      clear hK K
      refine wpAny_ready (rs := [3]) (by kernel_rfl) (by simp) ?_
      refine AllReady.cons rfl (fun K hK => ?_) AllReady.nil
      go_simp
      refine hK _ _ ?_
      clear hK K
      refine wpAny_done (by kernel_rfl) ?_ _
      go_wp2_with fail
      refine bodyPost_ret (yds rfl _ _ (w.heap.size + 1) _ (evL zE).toArray _ _ rfl (setRow_heap _ _ _ _ _ _ hd1) Tryz.underlying27 rfl zto) rfl ?_
      exact ⟨f, rfl, by have := HFL.out; omega, (setRow_other w9 (w.heap.size + 1) f _ (by have := HFL.out; omega)).trans HHF9.out, below_setRow HLW9.out (by omega) _⟩
  · go_simp
    refine hK _ _ ?_
    clear hK K
    refine wpAny_ready (rs := [0]) (by kernel_rfl) (by simp) ?_
    refine AllReady.cons rfl (fun K hK => ?_) AllReady.nil
    refine wp_load_row 27 (.tmp 4) rfl (w.heap.size + 2) rfl _ _ _ _ hd2 Tryz.underlying27 rfl zto ?_
    refine hK _ _ ?_
    clear hK K
    refine wpAny_ready (rs := [2]) (by kernel_rfl) (by simp) ?_
    refine AllReady.cons rfl (fun K hK => ?_) AllReady.nil
    refine wp_store_row 27 (.tmp 2) (.tmp 81) rfl (w.heap.size + 1) (evL zE).toArray rfl rfl _ _ hd1 zto rfl (ztp _) ?_
    refine hK _ _ ?_
    clear hK K
    refine wpAny_ready (rs := [3]) (by kernel_rfl) (by simp) ?_
    refine AllReady.cons rfl (fun K hK => ?_) AllReady.nil
    go_simp
    refine hK _ _ ?_
    clear hK K
    refine wpAny_done (by kernel_rfl) ?_ _
    go_wp2_with fail
    refine bodyPost_ret (yds rfl _ _ (w.heap.size + 1) _ (evL zE).toArray _ _ rfl (setRow_heap _ _ _ _ _ _ hd1) Tryz.underlying27 rfl zto) rfl ?_
    exact ⟨f, rfl, by have := HFL.out; omega, (setRow_other w9 (w.heap.size + 1) f _ (by have := HFL.out; omega)).trans HHF9.out, below_setRow HLW9.out (by omega) _⟩
end EvN
end
end Go.Proofs.YtbiplmbcdhjiaaaGreatDoor
