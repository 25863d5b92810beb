/-
  slices.IndexFunc and slices.DeleteFunc at package span's stretches, of those that are empty.
-/
import Derived.Test.YtapikdgncdcneaaGreatDoorSpanP4
import Derived.Test.YtapikdgncdcneaaGreatDoorRowK2
import Derived.Lib.SliceRun
namespace Go.Proofs.YtapikdgncdcneaaGreatDoor
open Go.RowKit
namespace SpanC
open VerM SpanM StrC TextR VerC
set_option linter.unusedSimpArgs false

/-- the first that is empty -/
def firstE (L : List StR) : Nat := L.findIdx fun x => empB x.st
def idxE (L : List StR) : Int := if firstE L < L.length then (firstE L : Int) else -1
def full (L : List StR) : List StR := L.filter fun x => !empB x.st
set_option maxHeartbeats 4000000 in
set_option maxRecDepth 100000 in
theorem pindex_any (v : Value) (L : List StR) (w : World) (B : Nat) (hr : StRow w B v L) (hok : AllOk w L) (hl : L.length ≤ 1000000) :
    Calls Tryz.prog 96 #[v, .func (.func 53) #[] #[]] w fun e w' => e = .returned (.int .i64 (idxE L)) ∧ Below w.heap.size w w' := by
  obtain ⟨va, cp, rfl⟩ := hr.value
  have HR := Lib.hid hr
  have HOK := Lib.hid hok
  clear hr hok
  go_enter Tryz.func96, Tryz.ntmps96
  go_wp2_with fail
  go_loopw [5, 8] (fun _ i wr => ∃ k : Nat, i = .int .i64 k ∧ k ≤ L.length ∧ Hid (∀ j, j < k → ∀ x, L[j]? = some x → empB x.st = false) ∧ Hid (Below w.heap.size w wr)) (fun _ i _ => L.length - (intOf i).toNat)
  case atStart => exact ⟨0, rfl, Nat.zero_le _, Lib.hid (fun j hj => by omega), Lib.hid (Below.refl _ _)⟩
  case round =>
    obtain ⟨k, rfl, hk, HN, HW⟩ := hrel
    rename World => wr
    by_cases hlt : k < L.length
    · have hdec : decide (k < L.length) = true := by simpa using hlt
      obtain ⟨g, x, hx, hxm, hxs, rfl, -, -, hg, -, -, c0, c1, c2, c3, c4, c5, c6, c7, c8, c9⟩ := (HR.out.below HW.out).at k hlt
      have HX := Lib.hid hxs
      have HE := Lib.hid (pempty_any x wr ((HOK.out x hxm).gr HW.out))
      obtain ⟨eb, heb⟩ : ∃ b, empB x.st = b := ⟨_, rfl⟩
      have HEB := Lib.hid heb
      rw [heb] at HE
      clear hx hxm hxs heb
      cases eb with
      | true =>
        have HF : Hid (idxE L = k) := Lib.hid (by
          have : firstE L = k := by
            unfold firstE
            rw [List.findIdx_eq hlt]
            refine ⟨by rw [show L[k] = x from by have := HX.out; rw [List.getElem?_eq_getElem hlt] at this; exact Option.some.inj this]; exact HEB.out, fun j hj => ?_⟩
            have := HN.out j hj L[j] (List.getElem?_eq_getElem (by omega))
            simpa using this
          unfold idxE; rw [this, if_pos hlt])
        go_wp2_with (go_at_call 53; refine HE.out.mono ?_; rintro e w2 ⟨rfl, hg2⟩)
        go_ret
        exact ⟨by rw [HF.out]; rfl, HW.out.trans (hg2.below.mono HW.out.size)⟩
      | false =>
        go_wp2_with (go_at_call 53; refine HE.out.mono ?_; rintro e w2 ⟨rfl, hg2⟩)
        go_roundw
        case rel => exact ⟨k + 1, by go_num, hlt, Lib.hid (fun j hj y hy => by
          rcases Nat.lt_or_ge j k with h | h
          · exact HN.out j h y hy
          · have : j = k := by omega
            subst this
            rw [HX.out] at hy
            rw [← Option.some.inj hy]; exact HEB.out), Lib.hid (HW.out.trans (hg2.below.mono HW.out.size))⟩
        case measure => simp [intOf]; omega
    · have hdec : decide (k < L.length) = false := by simpa using hlt
      have HF : Hid (idxE L = -1) := Lib.hid (by
        have : firstE L = L.length := by
          unfold firstE
          rw [List.findIdx_eq_length]
          intro x hx
          obtain ⟨j, hj, rfl⟩ := List.getElem_of_mem hx
          exact HN.out j (by omega) _ (List.getElem?_eq_getElem hj)
        unfold idxE; rw [this, if_neg (Nat.lt_irrefl _)])
      go_wp2_with fail
      go_ret
      exact ⟨by rw [HF.out]; rfl, HW.out⟩
/-- what a round of DeleteFunc's loop finds and leaves: j have been looked at, i of them stay -/
structure DelI (L R : List StR) (i j : Nat) : Prop where
  len : R.length = L.length
  lt : i < j
  le : j ≤ L.length
  low : R.take i = full (L.take j)
  high : ∀ t, i ≤ t → R[t]? = L[t]?
theorem full_take {L : List StR} {j : Nat} {x : StR} (h : L[j]? = some x) : full (L.take (j + 1)) = full (L.take j) ++ (if empB x.st then [] else [x]) := by
  unfold full
  rw [List.take_add_one, List.filter_append, h]
  cases hx : empB x.st <;> simp [hx]
theorem DelI.start {L : List StR} (h : firstE L < L.length) : DelI L L (firstE L) (firstE L + 1) := by
  refine ⟨rfl, Nat.lt_succ_self _, h, ?_, fun _ _ => rfl⟩
  have h1 : empB (L[firstE L]).st = true := List.findIdx_getElem (w := h)
  rw [full_take (List.getElem?_eq_getElem h), if_pos h1, List.append_nil]
  unfold full
  symm
  rw [List.filter_eq_self]
  intro x hx
  obtain ⟨j, hj, rfl⟩ := List.getElem_of_mem hx
  rw [List.length_take] at hj
  rw [List.getElem_take]
  have := List.not_of_lt_findIdx (p := fun x : StR => empB x.st) (xs := L) (i := j) (by unfold firstE at hj; omega)
  simpa using this
theorem DelI.keep {L R : List StR} {i j : Nat} {x : StR} (h : DelI L R i j) (hx : L[j]? = some x) (he : empB x.st = false) : DelI L (R.set i x) (i + 1) (j + 1) := by
  have hj := (List.getElem?_eq_some_iff.1 hx).1
  have hlt := h.lt
  refine ⟨by rw [List.length_set]; exact h.len, by omega, hj, ?_, fun t ht => ?_⟩
  · rw [full_take hx, he, ← h.low, List.take_add_one, List.take_set_of_le (Nat.le_refl _), List.getElem?_set_self (by rw [h.len]; omega)]
    rfl
  · rw [List.getElem?_set_ne (by omega)]; exact h.high t (by omega)
theorem DelI.skip {L R : List StR} {i j : Nat} {x : StR} (h : DelI L R i j) (hx : L[j]? = some x) (he : empB x.st = true) : DelI L R i (j + 1) := by
  have hj := (List.getElem?_eq_some_iff.1 hx).1
  have hlt := h.lt
  exact ⟨h.len, by omega, hj, by rw [full_take hx, he, h.low]; simp, h.high⟩
theorem StRow.there {w : World} {B : Nat} {a : Option Addr} {n cp : Nat} {L : List StR} (h : StRow w B (.slice a n cp) L) (i : Nat) (hi : i < L.length) : ∃ g, a = some ⟨g, 0, none⟩ ∧ n = L.length ∧ n ≤ cp ∧ B ≤ g ∧ g < w.heap.size ∧ ¬ IsText w g ∧ w.there g (i * 10) 10 ∧ (∀ j, j < (n - i) * 10 → (w.cell? ⟨g, i * 10 + j, none⟩).isSome = true) ∧ ∀ j, w.frozen? ⟨g, j, none⟩ = false := by
  have h' : w.ownsRow B 73 10 (.slice a n cp) L.length (L.flatMap stL) := h
  have hlt := h'.lt
  have h0 := h'
  obtain ⟨_, ⟨h1, h2⟩ | ⟨g, cp', cur, e1, hg0, hblk, hc1, hc2, hc3, _⟩⟩ := h'
  · omega
  simp only [Value.slice.injEq] at e1
  obtain ⟨rfl, rfl, rfl⟩ := e1
  have key : ∀ t, t < L.length * 10 → (w.cell? ⟨g, t, none⟩).isSome = true := fun t ht => by
    rw [h0.cellAt t ht, RowKC.flat_get stL 10 stL_length L t ht]; rfl
  exact ⟨g, rfl, rfl, hc1, hg0, (hlt g rfl).2, no_text hblk (by decide), fun j hj => ⟨key _ (by omega), h0.frozenAt _⟩, fun j hj => key _ (by omega), fun j => h0.frozenAt j⟩
theorem below_setCells {w w' : World} {B : Nat} (h : Below B w w') (g o : Nat) (vs : List Value) (hg : B ≤ g) : Below B w (w'.setCells g o vs) := by
  induction vs generalizing o w' with
  | nil => exact h
  | cons v r ih => rw [World.setCells]; exact ih (h.setCell (show B ≤ (⟨g, o, none⟩ : Addr).block from hg) v) (o + 1)
/-- all blocks but one are as they were -/
def Els (ob : Option Nat) (w w' : World) : Prop := ∀ k, k < w.heap.size → ob ≠ some k → w'.heap[k]? = w.heap[k]?
theorem Els.refl (ob : Option Nat) (w : World) : Els ob w w := fun _ _ _ => rfl
theorem Els.below {ob : Option Nat} {w a b : World} (h : Els ob w a) (hs : w.heap.size ≤ a.heap.size) (g : Below a.heap.size a b) : Els ob w b := fun k hk hn => (g.block k (by omega)).trans (h k hk hn)
theorem Els.of_below {ob : Option Nat} {w a : World} (g : Below w.heap.size w a) : Els ob w a := fun k hk _ => g.block k hk
theorem Els.setCells {g : Nat} {w a : World} (h : Els (some g) w a) (o : Nat) (vs : List Value) : Els (some g) w (a.setCells g o vs) := fun k hk hn => (heap_setCells_else a g (fun e => hn (by rw [e])) _ _).trans (h k hk hn)
theorem zero_st (w : World) : (zeroValue 73).run Tryz.prog w = .ok (.agg #[.int .u32 0, .int .u32 0, .int .u32 0, .slice none 0 0, .int .i64 0, .int .u32 0, .int .u32 0, .int .u32 0, .slice none 0 0, .int .i64 0]) w := by kernel_rfl
set_option maxHeartbeats 8000000 in
set_option maxRecDepth 100000 in
theorem pdeleteX_any (v : Value) (L : List StR) (w : World) (B : Nat) (hB : B ≤ w.heap.size) (hr : StRow w B v L) (hok : AllOk w L) (hl : L.length ≤ 1000000) :
    Calls Tryz.prog 65 #[v, .func (.func 53) #[] #[]] w fun e w' => ∃ u, e = .returned u ∧ StRow w' B u (full L) ∧ AllOk w' (full L) ∧ Below B w w' ∧ Els v.ownBlock w w' ∧ u.ownBlock = v.ownBlock := by
  obtain ⟨va, cp, rfl⟩ := hr.value
  have HR := Lib.hid hr
  have HOK := Lib.hid hok
  have HI := Lib.hid (pindex_any _ L w B hr hok hl)
  have HBB := Lib.hid hB
  clear hr hok hB
  by_cases hf : firstE L < L.length
  rotate_left
  · have HFL : Hid (full L = L) := Lib.hid (by
      unfold full
      rw [List.filter_eq_self]
      intro x hx
      have : firstE L = L.length := by have := List.findIdx_le_length (p := fun x : StR => empB x.st) (xs := L); unfold firstE at hf ⊢; omega
      unfold firstE at this
      rw [List.findIdx_eq_length] at this
      simpa using this x hx)
    have hidx : idxE L = -1 := by unfold idxE; rw [if_neg hf]
    rw [hidx] at HI
    clear hf hidx
    go_enter Tryz.func65, Tryz.ntmps65
    go_wp2_with (go_at_call 96; refine HI.out.mono ?_; rintro e w2 ⟨rfl, hb⟩)
    go_ret
    exact ⟨_, rfl, by rw [HFL.out]; exact HR.out.below hb, by rw [HFL.out]; exact HOK.out.gr hb, hb.mono HBB.out, Els.of_below hb, rfl⟩
  · have hidx : idxE L = (firstE L : Int) := by unfold idxE; rw [if_pos hf]
    rw [hidx] at HI
    have HS := Lib.hid (DelI.start hf)
    obtain ⟨g, rfl, -, hcp, hBg, hgl, hng, -, -, -⟩ := HR.out.there (firstE L) hf
    have d1 : ((firstE L : Int) == -1) = false := beq_eq_false_iff_ne.2 (by omega)
    have HNG := Lib.hid hng
    have HL0 : Hid (0 < L.length) := Lib.hid (by omega)
    clear hidx hng
    generalize firstE L = k0 at *
    go_enter Tryz.func65, Tryz.ntmps65
    go_wp2_with (go_at_call 96; refine HI.out.mono ?_; rintro e w1 ⟨rfl, hb⟩; refine Hid.out ?_)
    refine Lib.hid ?_
    have HR1 := Lib.hid (HR.out.below hb)
    have HOK1 := Lib.hid (HOK.out.gr hb)
    have HB1 : Hid (Below B w w1 ∧ Els (some g) w w1) := Lib.hid ⟨hb.mono HBB.out, Els.of_below hb⟩
    have hg1 : g < w1.heap.size := Nat.lt_of_lt_of_le hgl hb.size
    clear HR HOK hb HI HNG hgl
    go_wp2_with fail
    go_loopw [5, 6, 7] (fun i j _ wq => ∃ (ki kj : Nat) (R : List StR), i = .int .i64 ki ∧ j = .int .i64 kj ∧ Hid (DelI L R ki kj) ∧ Hid (StRow wq B (.slice (some ⟨g, 0, none⟩) L.length cp) R) ∧ Hid (AllOk wq L) ∧ Hid (Below B w wq ∧ Els (some g) w wq)) (fun _ j _ _ => L.length - (intOf j).toNat)
    case atStart => exact ⟨k0, k0 + 1, L, rfl, by go_num, HS, HR1, HOK1, HB1⟩
    case round =>
      obtain ⟨ki, kj, R, rfl, rfl, HD, HRW, HOW, HBW⟩ := hrel
      rename World => wq
      have hij := HD.out.lt
      have hjl := HD.out.le
      have hRl := HD.out.len
      by_cases hlt : kj < L.length
      · have hdec : decide (kj < L.length) = true := by simpa using hlt
        obtain ⟨g', x, hx, hxm, hxs, hge, -, -, hg, hnt, -, c0, c1, c2, c3, c4, c5, c6, c7, c8, c9⟩ := HRW.out.at kj (by omega)
        cases hge
        have hxL : L[kj]? = some x := by rw [← HD.out.high kj (by omega)]; exact hxs
        have HX := Lib.hid hxL
        have HXO := Lib.hid (HOW.out x (List.mem_of_getElem? hxL))
        have hnx := heap_alloc_new wq (stO x)
        obtain ⟨q0, q1, q2, q3, q4, q5, q6, q7, q8, q9⟩ := st_cells hnx
        have HNX := Lib.hid hnx
        have HE := Lib.hid (pempty_any x (wq.alloc (stO x)) (HXO.out.gr ((Below.refl _ wq).alloc (Nat.le_refl _) _)))
        obtain ⟨eb, heb⟩ : ∃ b, empB x.st = b := ⟨_, rfl⟩
        have HEB := Lib.hid heb
        rw [heb] at HE
        have HGQ : Hid (g < wq.heap.size) := Lib.hid hg
        clear hx hxm hxs hxL heb hnx hnt hRl
        cases eb with
        | true =>
          go_wp2_with (go_at_call 53; refine HE.out.mono ?_; rintro e w2 ⟨rfl, hg2⟩)
          go_roundw
          case rel => exact ⟨ki, kj + 1, R, rfl, by go_num, Lib.hid (HD.out.skip HX.out HEB.out), Lib.hid (HRW.out.below (((Below.refl _ wq).alloc (Nat.le_refl _) _).trans (hg2.below.mono (by simp)))), Lib.hid (HOW.out.gr (((Below.refl _ wq).alloc (Nat.le_refl _) _).trans (hg2.below.mono (by simp)))), Lib.hid ⟨HBW.out.1.trans ((((Below.refl _ wq).alloc (Nat.le_refl _) _).trans (hg2.below.mono (by simp))).mono (Nat.le_trans HBB.out HBW.out.1.size)), HBW.out.2.below HBW.out.1.size (((Below.refl _ wq).alloc (Nat.le_refl _) _).trans (hg2.below.mono (by simp)))⟩⟩
          case measure => simp [intOf]; omega
        | false =>
          go_wp2_with (go_at_call 53; refine HE.out.mono ?_; rintro e w2 ⟨rfl, hg2⟩; refine Hid.out ?_)
          refine Lib.hid ?_
          have HW2 : Hid (Below wq.heap.size wq w2) := Lib.hid (((Below.refl _ wq).alloc (Nat.le_refl _) _).trans (hg2.below.mono (by simp)))
          have hX2 := (hg2.below.block wq.heap.size (by simp)).trans HNX.out
          clear q0 q1 q2 q3 q4 q5 q6 q7 q8 q9 c0 c1 c2 c3 c4 c5 c6 c7 c8 c9 hg2 HE
          obtain ⟨q0, q1, q2, q3, q4, q5, q6, q7, q8, q9⟩ := st_cells hX2
          have hrow2 := HRW.out.below HW2.out
          obtain ⟨g', hge, -, -, -, -, hnt, hth, -, -⟩ := hrow2.there ki (by have := HD.out.len; omega)
          cases hge
          have h2 : w2.ownsRow B 73 10 (.slice (some ⟨g, 0, none⟩) L.length cp) L.length (R.flatMap stL) := by
            have h := hrow2
            unfold StRow at h
            rwa [HD.out.len] at h
          obtain ⟨w3, e3⟩ : ∃ w3, w2.setCells g (ki * 10) (stL x) = w3 := ⟨_, rfl⟩
          have HROW3 : Hid (StRow w3 B (.slice (some ⟨g, 0, none⟩) L.length cp) (R.set ki x)) := Lib.hid (by
            rw [← e3]
            unfold StRow
            rw [List.length_set, HD.out.len]
            exact RowKC.own_set stL 10 stL_length h2 HD.out.len ki (by omega) x)
          have HOK3 : Hid (AllOk w3 L) := Lib.hid (fun y hy => by
            rw [← e3]
            exact ((HOW.out.gr HW2.out) y hy).keep hnt fun k _ hk => heap_setCells_else w2 g hk _ _)
          have HB3 : Hid (Below B w w3 ∧ Els (some g) w w3) := Lib.hid (by
            have h := HBW.out.1.trans (HW2.out.mono (Nat.le_trans HBB.out HBW.out.1.size))
            rw [← e3]
            exact ⟨below_setCells h g _ _ hBg, (HBW.out.2.below HBW.out.1.size HW2.out).setCells _ _⟩)
          have HE3 := Lib.hid e3
          have HTH := Lib.hid hth
          clear e3 h2 hrow2 hnt hth hX2 HW2
          go_wp2_with (refine wpList_store_mid rfl 73 _ _ rfl g (ki * 10) (stL x).toArray rfl rfl HTH.out info_st (st_one x) ?_; change wpList _ _ _ _ _ (w2.setCells g (ki * 10) (stL x)); rw [HE3.out]; clear HTH HE3 q0 q1 q2 q3 q4 q5 q6 q7 q8 q9)
          go_roundw
          case rel => exact ⟨ki + 1, kj + 1, R.set ki x, by go_num, by go_num, Lib.hid (HD.out.keep HX.out HEB.out), HROW3, HOK3, HB3⟩
          case measure => simp [intOf]; omega
      · have hdec : decide (kj < L.length) = false := by simpa using hlt
        have hke : kj = L.length := by omega
        subst hke
        obtain ⟨g', hge, -, -, -, -, hnt, -, hcells, hfz⟩ := HRW.out.there ki (by omega)
        cases hge
        obtain ⟨vs, hcl⟩ := RowKC.run_clear_rows (P := Tryz.prog) wq 54 73 0 _ Tryz.underlying54 zero_st (by intro u hu; simp [Value.cells] at hu; (repeat' (rcases hu with hu | hu)) <;> first | rfl | (subst hu; rfl)) g (ki * 10) (L.length - ki) (cp - ki) (by omega) (by simp [Value.cells]) (by intro j hj; exact hcells j (by simpa [Value.cells] using hj)) (fun j => hfz _)
        have h2 : wq.ownsRow B 73 10 (.slice (some ⟨g, 0, none⟩) L.length cp) L.length (R.flatMap stL) := by
          have h := HRW.out
          unfold StRow at h
          rwa [HD.out.len] at h
        obtain ⟨w3, e3⟩ : ∃ w3, wq.setCells g (ki * 10) vs = w3 := ⟨_, rfl⟩
        have hfull : R.take ki = full L := by have h := HD.out.low; rwa [List.take_length] at h
        have hfl : (full L).length = ki := by rw [← hfull, List.length_take]; omega
        have HROW3 : Hid (StRow w3 B (.slice (some ⟨g, 0, none⟩) ki cp) (full L)) := Lib.hid (by
          rw [← e3]
          unfold StRow
          rw [hfl, ← hfull, ← RowKC.flat_take stL 10 stL_length]
          exact RowKC.own_tail h2 ki (by omega) vs)
        have HOK3 : Hid (AllOk w3 (full L)) := Lib.hid (fun y hy => by
          rw [← e3]
          exact (HOW.out y (List.mem_filter.1 hy).1).keep hnt fun k _ hk => heap_setCells_else wq g hk _ _)
        have HB3 : Hid (Below B w w3 ∧ Els (some g) w w3) := Lib.hid (by
          rw [← e3]
          exact ⟨below_setCells HBW.out.1 g _ _ hBg, HBW.out.2.setCells _ _⟩)
        rw [e3] at hcl
        clear e3 h2 hfull hfl hnt hcells hfz HD HRW HOW HBW hRl
        go_wp2_with fail
        go_ret
        exact ⟨_, rfl, HROW3.out, HOK3.out, HB3.out.1, HB3.out.2, rfl⟩
theorem pdelete_any (v : Value) (L : List StR) (w : World) (B : Nat) (hB : B ≤ w.heap.size) (hr : StRow w B v L) (hok : AllOk w L) (hl : L.length ≤ 1000000) :
    Calls Tryz.prog 65 #[v, .func (.func 53) #[] #[]] w fun e w' => ∃ u, e = .returned u ∧ StRow w' B u (full L) ∧ AllOk w' (full L) ∧ Below B w w' :=
  (pdeleteX_any v L w B hB hr hok hl).mono fun _ _ ⟨u, h1, h2, h3, h4, _⟩ => ⟨u, h1, h2, h3, h4⟩
end SpanC
end Go.Proofs.YtapikdgncdcneaaGreatDoor
