/-
  What the proof of EventForms stands on, part 14.
-/
import Derived.Ground.NamesProg
import Derived.Ground.SlsfProg
import Derived.Test.YtbiplmbcdhjiaaaGreatDoorT13
set_option linter.unusedSimpArgs false
set_option linter.unusedVariables false
set_option maxHeartbeats 16000000
namespace Go.Proofs.YtbiplmbcdhjiaaaGreatDoor
open Go.Lib (hid)
section
open Go.RowKit
namespace SpanC
open VerM SpanM StrC TextR VerC
def firstE (L : List StR) : Nat := L.findIdx fun x => empB x.st
def idxE (L : List StR) : Int := if firstE L < L.length then (firstE L : Int) else -1
def full (L : List StR) : List StR := L.filter fun x => !empB x.st
set_option maxRecDepth 100000 in
theorem pindex_any (v : Value) (L : List StR) (w : World) (B : Nat) (hr : StRow w B v L) (hok : AllOk w L) (hl : L.length ≤ 1000000) :
 Calls Tryz.prog 264 #[v, .func (.func 245) #[] #[]] w fun e w' => e = .returned (.int .i64 (idxE L)) ∧ Below w.heap.size w w' := by
 obtain ⟨va, cp, rfl⟩ := hr.value
 have HR := hid hr
 have HOK := hid hok
 clear hr hok
 go_enter Tryz.func264, Tryz.ntmps264
 go_wp2_with fail
 go_loopw [5, 8] (fun _ i wr => ∃ k : Nat, i = .int .i64 k ∧ k ≤ L.length ∧ Hid (∀ j, j < k → ∀ x, L[j]? = some x → empB x.st = false) ∧ Hid (Below w.heap.size w wr)) (fun _ i _ => L.length - (intOf i).toNat)
 case atStart => exact ⟨0, rfl, Nat.zero_le _, hid (fun j hj => by omega), hid (Below.refl _ _)⟩
 case round =>
  obtain ⟨k, rfl, hk, HN, HW⟩ := hrel
  rename World => wr
  by_cases hlt : k < L.length
  · have hdec : decide (k < L.length) = true := by simpa using hlt
    obtain ⟨g, x, hx, hxm, hxs, rfl, -, -, hg, -, -, c0, c1, c2, c3, c4, c5, c6, c7, c8, c9⟩ := (HR.out.below HW.out).at k hlt
    have HX := hid hxs
    have HE := hid (zit x wr ((HOK.out x hxm).gr HW.out))
    obtain ⟨eb, heb⟩ : ∃ b, empB x.st = b := ⟨_, rfl⟩
    have HEB := hid heb
    rw [heb] at HE
    clear hx hxm hxs heb
    cases eb with
    | true =>
     have HF : Hid (idxE L = k) := hid (by
      have : firstE L = k := by
       unfold firstE
       rw [List.findIdx_eq hlt]
       refine ⟨by rw [show L[k] = x from by have := HX.out; rw [List.getElem?_eq_getElem hlt] at this; exact Option.some.inj this]; exact HEB.out, fun j hj => ?_⟩
       have := HN.out j hj L[j] (List.getElem?_eq_getElem (by omega))
       simpa using this
      unfold idxE; rw [this, if_pos hlt])
     go_wp2_with (go_at_call 245; refine HE.out.mono ?_; rintro e w2 ⟨rfl, hg2⟩)
     go_ret
     exact ⟨by rw [HF.out]; rfl, HW.out.trans (hg2.below.mono HW.out.size)⟩
    | false =>
     go_wp2_with (go_at_call 245; refine HE.out.mono ?_; rintro e w2 ⟨rfl, hg2⟩)
     go_roundw
     case rel => exact ⟨k + 1, by go_num, hlt, hid (fun j hj y hy => by
      rcases Nat.lt_or_ge j k with h | h
      · exact HN.out j h y hy
      · have : j = k := by omega
        subst this
        rw [HX.out] at hy
        rw [← Option.some.inj hy]; exact HEB.out), hid (HW.out.trans (hg2.below.mono HW.out.size))⟩
     case measure => simp [intOf]; omega
  · have hdec : decide (k < L.length) = false := by simpa using hlt
    have HF : Hid (idxE L = -1) := hid (by
     have : firstE L = L.length := by
      unfold firstE
      rw [List.findIdx_eq_length]
      intro x hx
      obtain ⟨j, hj, rfl⟩ := List.getElem_of_mem hx
      exact HN.out j (by omega) _ (List.getElem?_eq_getElem hj)
     unfold idxE; rw [this, if_neg (Nat.lt_irrefl _)])
    go_wp2_with fail
    go_ret
    exact ⟨by rw [HF.out]; rfl, HW.out⟩
structure DelI (L R : List StR) (i j : Nat) : Prop where
 len : R.length = L.length
 lt : i < j
 le : j ≤ L.length
 low : R.take i = full (L.take j)
 high : ∀ t, i ≤ t → R[t]? = L[t]?
theorem zke {L : List StR} {j : Nat} {x : StR} (h : L[j]? = some x) : full (L.take (j + 1)) = full (L.take j) ++ (if empB x.st then [] else [x]) := by
 unfold full
 rw [List.take_add_one, List.filter_append, h]
 cases hx : empB x.st <;> simp [hx]
theorem DelI.start {L : List StR} (h : firstE L < L.length) : DelI L L (firstE L) (firstE L + 1) := by
 refine ⟨rfl, Nat.lt_succ_self _, h, ?_, fun _ _ => rfl⟩
 have h1 : empB (L[firstE L]).st = true := List.findIdx_getElem (w := h)
 rw [zke (List.getElem?_eq_getElem h), if_pos h1, List.append_nil]
 unfold full
 symm
 rw [List.filter_eq_self]
 intro x hx
 obtain ⟨j, hj, rfl⟩ := List.getElem_of_mem hx
 rw [List.length_take] at hj
 rw [List.getElem_take]
 have := List.not_of_lt_findIdx (p := fun x : StR => empB x.st) (xs := L) (i := j) (by unfold firstE at hj; omega)
 simpa using this
theorem DelI.keep {L R : List StR} {i j : Nat} {x : StR} (h : DelI L R i j) (hx : L[j]? = some x) (he : empB x.st = false) : DelI L (R.set i x) (i + 1) (j + 1) := by
 have hj := (List.getElem?_eq_some_iff.1 hx).1
 have hlt := h.lt
 refine ⟨by rw [List.length_set]; exact h.len, by omega, hj, ?_, fun t ht => ?_⟩
 · rw [zke hx, he, ← h.low, List.take_add_one, List.take_set_of_le (Nat.le_refl _), List.getElem?_set_self (by rw [h.len]; omega)]
   rfl
 · rw [List.getElem?_set_ne (by omega)]; exact h.high t (by omega)
theorem DelI.skip {L R : List StR} {i j : Nat} {x : StR} (h : DelI L R i j) (hx : L[j]? = some x) (he : empB x.st = true) : DelI L R i (j + 1) := by
 have hj := (List.getElem?_eq_some_iff.1 hx).1
 have hlt := h.lt
 exact ⟨h.len, by omega, hj, by rw [zke hx, he, h.low]; simp, h.high⟩
theorem StRow.there {w : World} {B : Nat} {a : Option Addr} {n cp : Nat} {L : List StR} (h : StRow w B (.slice a n cp) L) (i : Nat) (hi : i < L.length) : ∃ g, a = some ⟨g, 0, none⟩ ∧ n = L.length ∧ n ≤ cp ∧ B ≤ g ∧ g < w.heap.size ∧ ¬ IsText w g ∧ w.there g (i * 10) 10 ∧ (∀ j, j < (n - i) * 10 → (w.cell? ⟨g, i * 10 + j, none⟩).isSome = true) ∧ ∀ j, w.frozen? ⟨g, j, none⟩ = false := by
 have h' : w.ownsRow B 290 10 (.slice a n cp) L.length (L.flatMap stL) := h
 have hlt := h'.lt
 have h0 := h'
 obtain ⟨_, ⟨h1, h2⟩ | ⟨g, cp', cur, e1, hg0, hblk, hc1, hc2, hc3, _⟩⟩ := h'
 · omega
 simp only [Value.slice.injEq] at e1
 obtain ⟨rfl, rfl, rfl⟩ := e1
 have key : ∀ t, t < L.length * 10 → (w.cell? ⟨g, t, none⟩).isSome = true := fun t ht => by
  rw [h0.cellAt t ht, RowKC.zie stL 10 zjm L t ht]; rfl
 exact ⟨g, rfl, rfl, hc1, hg0, (hlt g rfl).2, zji hblk (by decide), fun j hj => ⟨key _ (by omega), h0.frozenAt _⟩, fun j hj => key _ (by omega), fun j => h0.frozenAt j⟩
theorem zkf {w w' : World} {B : Nat} (h : Below B w w') (g o : Nat) (vs : List Value) (hg : B ≤ g) : Below B w (w'.setCells g o vs) := by
 induction vs generalizing o w' with
 | nil => exact h
 | cons v r ih => rw [World.setCells]; exact ih (h.setCell (show B ≤ (⟨g, o, none⟩ : Addr).block from hg) v) (o + 1)
def Els (ob : Option Nat) (w w' : World) : Prop := ∀ k, k < w.heap.size → ob ≠ some k → w'.heap[k]? = w.heap[k]?
theorem Els.below {ob : Option Nat} {w a b : World} (h : Els ob w a) (hs : w.heap.size ≤ a.heap.size) (g : Below a.heap.size a b) : Els ob w b := fun k hk hn => (g.block k (by omega)).trans (h k hk hn)
theorem Els.of_below {ob : Option Nat} {w a : World} (g : Below w.heap.size w a) : Els ob w a := fun k hk _ => g.block k hk
theorem Els.setCells {g : Nat} {w a : World} (h : Els (some g) w a) (o : Nat) (vs : List Value) : Els (some g) w (a.setCells g o vs) := fun k hk hn => (zjb a g (fun e => hn (by rw [e])) _ _).trans (h k hk hn)
theorem zero_st (w : World) : (zeroValue 290).run Tryz.prog w = .ok (.agg #[.int .u32 0, .int .u32 0, .int .u32 0, .slice none 0 0, .int .i64 0, .int .u32 0, .int .u32 0, .int .u32 0, .slice none 0 0, .int .i64 0]) w := by kernel_rfl
set_option maxRecDepth 100000 in
theorem zkg (v : Value) (L : List StR) (w : World) (B : Nat) (hB : B ≤ w.heap.size) (hr : StRow w B v L) (hok : AllOk w L) (hl : L.length ≤ 1000000) :
 Calls Tryz.prog 244 #[v, .func (.func 245) #[] #[]] w fun e w' => ∃ u, e = .returned u ∧ StRow w' B u (full L) ∧ AllOk w' (full L) ∧ Below B w w' ∧ Els v.ownBlock w w' ∧ u.ownBlock = v.ownBlock := by
 obtain ⟨va, cp, rfl⟩ := hr.value
 have HR := hid hr
 have HOK := hid hok
 have HI := hid (pindex_any _ L w B hr hok hl)
 have HBB := hid hB
 clear hr hok hB
 by_cases hf : firstE L < L.length
 rotate_left
 · have HFL : Hid (full L = L) := hid (by
    unfold full
    rw [List.filter_eq_self]
    intro x hx
    have : firstE L = L.length := by have := List.findIdx_le_length (p := fun x : StR => empB x.st) (xs := L); unfold firstE at hf ⊢; omega
    unfold firstE at this
    rw [List.findIdx_eq_length] at this
    simpa using this x hx)
   have hidx : idxE L = -1 := by unfold idxE; rw [if_neg hf]
   rw [hidx] at HI
   clear hf hidx
   go_enter Tryz.func244, Tryz.ntmps244
   go_wp2_with (go_at_call 264; refine HI.out.mono ?_; rintro e w2 ⟨rfl, hb⟩)
   go_ret
   exact ⟨_, rfl, by rw [HFL.out]; exact HR.out.below hb, by rw [HFL.out]; exact HOK.out.gr hb, hb.mono HBB.out, Els.of_below hb, rfl⟩
 · have hidx : idxE L = (firstE L : Int) := by unfold idxE; rw [if_pos hf]
   rw [hidx] at HI
   have HS := hid (DelI.start hf)
   obtain ⟨g, rfl, -, hcp, hBg, hgl, hng, -, -, -⟩ := HR.out.there (firstE L) hf
   have d1 : ((firstE L : Int) == -1) = false := beq_eq_false_iff_ne.2 (by omega)
   have HNG := hid hng
   have HL0 : Hid (0 < L.length) := hid (by omega)
   clear hidx hng
   generalize firstE L = k0 at *
   go_enter Tryz.func244, Tryz.ntmps244
   go_wp2_with (go_at_call 264; refine HI.out.mono ?_; rintro e w1 ⟨rfl, hb⟩; refine Hid.out ?_)
   refine hid ?_
   have HR1 := hid (HR.out.below hb)
   have HOK1 := hid (HOK.out.gr hb)
   have HB1 : Hid (Below B w w1 ∧ Els (some g) w w1) := hid ⟨hb.mono HBB.out, Els.of_below hb⟩
   have hg1 : g < w1.heap.size := Nat.lt_of_lt_of_le hgl hb.size
   clear HR HOK hb HI HNG hgl
   go_wp2_with fail
   go_loopw [5, 6, 7] (fun i j _ wq => ∃ (ki kj : Nat) (R : List StR), i = .int .i64 ki ∧ j = .int .i64 kj ∧ Hid (DelI L R ki kj) ∧ Hid (StRow wq B (.slice (some ⟨g, 0, none⟩) L.length cp) R) ∧ Hid (AllOk wq L) ∧ Hid (Below B w wq ∧ Els (some g) w wq)) (fun _ j _ _ => L.length - (intOf j).toNat)
   case atStart => exact ⟨k0, k0 + 1, L, rfl, by go_num, HS, HR1, HOK1, HB1⟩
   case round =>
    obtain ⟨ki, kj, R, rfl, rfl, HD, HRW, HOW, HBW⟩ := hrel
    rename World => wq
    have hij := HD.out.lt
    have hjl := HD.out.le
    have hRl := HD.out.len
    by_cases hlt : kj < L.length
    · have hdec : decide (kj < L.length) = true := by simpa using hlt
      obtain ⟨g', x, hx, hxm, hxs, hge, -, -, hg, hnt, -, c0, c1, c2, c3, c4, c5, c6, c7, c8, c9⟩ := HRW.out.at kj (by omega)
      cases hge
      have hxL : L[kj]? = some x := by rw [← HD.out.high kj (by omega)]; exact hxs
      have HX := hid hxL
      have HXO := hid (HOW.out x (List.mem_of_getElem? hxL))
      have hnx := heap_alloc_new wq (stO x)
      obtain ⟨q0, q1, q2, q3, q4, q5, q6, q7, q8, q9⟩ := zin hnx
      have HNX := hid hnx
      have HE := hid (zit x (wq.alloc (stO x)) (HXO.out.gr ((Below.refl _ wq).alloc (Nat.le_refl _) _)))
      obtain ⟨eb, heb⟩ : ∃ b, empB x.st = b := ⟨_, rfl⟩
      have HEB := hid heb
      rw [heb] at HE
      have HGQ : Hid (g < wq.heap.size) := hid hg
      clear hx hxm hxs hxL heb hnx hnt hRl
      cases eb with
      | true =>
       go_wp2_with (go_at_call 245; refine HE.out.mono ?_; rintro e w2 ⟨rfl, hg2⟩)
       go_roundw
       case rel => exact ⟨ki, kj + 1, R, rfl, by go_num, hid (HD.out.skip HX.out HEB.out), hid (HRW.out.below (((Below.refl _ wq).alloc (Nat.le_refl _) _).trans (hg2.below.mono (by simp)))), hid (HOW.out.gr (((Below.refl _ wq).alloc (Nat.le_refl _) _).trans (hg2.below.mono (by simp)))), hid ⟨HBW.out.1.trans ((((Below.refl _ wq).alloc (Nat.le_refl _) _).trans (hg2.below.mono (by simp))).mono (Nat.le_trans HBB.out HBW.out.1.size)), HBW.out.2.below HBW.out.1.size (((Below.refl _ wq).alloc (Nat.le_refl _) _).trans (hg2.below.mono (by simp)))⟩⟩
       case measure => simp [intOf]; omega
      | false =>
       go_wp2_with (go_at_call 245; refine HE.out.mono ?_; rintro e w2 ⟨rfl, hg2⟩; refine Hid.out ?_)
       refine hid ?_
       have HW2 : Hid (Below wq.heap.size wq w2) := hid (((Below.refl _ wq).alloc (Nat.le_refl _) _).trans (hg2.below.mono (by simp)))
       have hX2 := (hg2.below.block wq.heap.size (by simp)).trans HNX.out
       clear q0 q1 q2 q3 q4 q5 q6 q7 q8 q9 c0 c1 c2 c3 c4 c5 c6 c7 c8 c9 hg2 HE
       obtain ⟨q0, q1, q2, q3, q4, q5, q6, q7, q8, q9⟩ := zin hX2
       have hrow2 := HRW.out.below HW2.out
       obtain ⟨g', hge, -, -, -, -, hnt, hth, -, -⟩ := hrow2.there ki (by have := HD.out.len; omega)
       cases hge
       have h2 : w2.ownsRow B 290 10 (.slice (some ⟨g, 0, none⟩) L.length cp) L.length (R.flatMap stL) := by
        have h := hrow2
        unfold StRow at h
        rwa [HD.out.len] at h
       obtain ⟨w3, e3⟩ : ∃ w3, w2.setCells g (ki * 10) (stL x) = w3 := ⟨_, rfl⟩
       have HROW3 : Hid (StRow w3 B (.slice (some ⟨g, 0, none⟩) L.length cp) (R.set ki x)) := hid (by
        rw [← e3]
        unfold StRow
        rw [List.length_set, HD.out.len]
        exact RowKC.zjz stL 10 zjm h2 HD.out.len ki (by omega) x)
       have HOK3 : Hid (AllOk w3 L) := hid (fun y hy => by
        rw [← e3]
        exact ((HOW.out.gr HW2.out) y hy).keep hnt fun k _ hk => zjb w2 g hk _ _)
       have HB3 : Hid (Below B w w3 ∧ Els (some g) w w3) := hid (by
        have h := HBW.out.1.trans (HW2.out.mono (Nat.le_trans HBB.out HBW.out.1.size))
        rw [← e3]
        exact ⟨zkf h g _ _ hBg, (HBW.out.2.below HBW.out.1.size HW2.out).setCells _ _⟩)
       have HE3 := hid e3
       have HTH := hid hth
       clear e3 h2 hrow2 hnt hth hX2 HW2
       go_wp2_with (refine wpList_store_mid rfl 290 _ _ rfl g (ki * 10) (stL x).toArray rfl rfl HTH.out ziw (ziy x) ?_; change wpList _ _ _ _ _ (w2.setCells g (ki * 10) (stL x)); rw [HE3.out]; clear HTH HE3 q0 q1 q2 q3 q4 q5 q6 q7 q8 q9)
       go_roundw
       case rel => exact ⟨ki + 1, kj + 1, R.set ki x, by go_num, by go_num, hid (HD.out.keep HX.out HEB.out), HROW3, HOK3, HB3⟩
       case measure => simp [intOf]; omega
    · have hdec : decide (kj < L.length) = false := by simpa using hlt
      have hke : kj = L.length := by omega
      subst hke
      obtain ⟨g', hge, -, -, -, -, hnt, -, hcells, hfz⟩ := HRW.out.there ki (by omega)
      cases hge
      obtain ⟨vs, hcl⟩ := RowKC.zkd (P := Tryz.prog) wq 257 290 0 _ Tryz.underlying257 zero_st (by intro u hu; simp [Value.cells] at hu; (repeat' (rcases hu with hu | hu)) <;> first | rfl | (subst hu; rfl)) g (ki * 10) (L.length - ki) (cp - ki) (by omega) (by simp [Value.cells]) (by intro j hj; exact hcells j (by simpa [Value.cells] using hj)) (fun j => hfz _)
      have h2 : wq.ownsRow B 290 10 (.slice (some ⟨g, 0, none⟩) L.length cp) L.length (R.flatMap stL) := by
       have h := HRW.out
       unfold StRow at h
       rwa [HD.out.len] at h
      obtain ⟨w3, e3⟩ : ∃ w3, wq.setCells g (ki * 10) vs = w3 := ⟨_, rfl⟩
      have hfull : R.take ki = full L := by have h := HD.out.low; rwa [List.take_length] at h
      have hfl : (full L).length = ki := by rw [← hfull, List.length_take]; omega
      have HROW3 : Hid (StRow w3 B (.slice (some ⟨g, 0, none⟩) ki cp) (full L)) := hid (by
       rw [← e3]
       unfold StRow
       rw [hfl, ← hfull, ← RowKC.zkc stL 10 zjm]
       exact RowKC.zkb h2 ki (by omega) vs)
      have HOK3 : Hid (AllOk w3 (full L)) := hid (fun y hy => by
       rw [← e3]
       exact (HOW.out y (List.mem_filter.1 hy).1).keep hnt fun k _ hk => zjb wq g hk _ _)
      have HB3 : Hid (Below B w w3 ∧ Els (some g) w w3) := hid (by
       rw [← e3]
       exact ⟨zkf HBW.out.1 g _ _ hBg, HBW.out.2.setCells _ _⟩)
      rw [e3] at hcl
      clear e3 h2 hfull hfl hnt hcells hfz HD HRW HOW HBW hRl
      go_wp2_with fail
      go_ret
      exact ⟨_, rfl, HROW3.out, HOK3.out, HB3.out.1, HB3.out.2, rfl⟩
end SpanC
end
end Go.Proofs.YtbiplmbcdhjiaaaGreatDoor
section
namespace Go.Proofs
open Go.Shelf
def Tryz.sortSt_ren : Go.Shelf.Ren := ⟨fun | 6 => 246 | 15 => 119 | 14 => 265 | 28 => 155 | 29 => 156 | 20 => 276 | 21 => 277 | 22 => 278 | 23 => 279 | 24 => 280 | 25 => 281 | 26 => 282 | 27 => 283 | 46 => 291 | 47 => 180 | 48 => 181 | 49 => 292 | 50 => 293 | 57 => 300 | n => n, fun | 22 => 257 | 24 => 290 | 25 => 315 | 3 => 3 | 39 => 136 | 0 => 0 | 53 => 25 | 55 => 24 | 4 => 4 | 46 => 211 | 45 => 210 | 50 => 216 | 5 => 5 | 9 => 9 | 66 => 247 | 70 => 251 | 76 => 277 | 77 => 101 | n => n, fun | n => n⟩
theorem Tryz.sortSt : Go.Proofs.SlLaysF0.n6 Tryz.prog Tryz.sortSt_ren := {
 mixed := by kernel_rfl
 f6 := ⟨Tryz.f246.name, by decide, Tryz.func246.trans (congrArg some (by kernel_rfl))⟩
 f14 := ⟨Tryz.f265.name, by decide, Tryz.func265.trans (congrArg some (by kernel_rfl))⟩
 f15 := Tryz.func119.trans (congrArg some (by kernel_rfl))
 f20 := ⟨Tryz.f276.name, by decide, Tryz.func276.trans (congrArg some (by kernel_rfl))⟩
 f21 := ⟨Tryz.f277.name, by decide, Tryz.func277.trans (congrArg some (by kernel_rfl))⟩
 f22 := ⟨Tryz.f278.name, by decide, Tryz.func278.trans (congrArg some (by kernel_rfl))⟩
 f23 := ⟨Tryz.f279.name, by decide, Tryz.func279.trans (congrArg some (by kernel_rfl))⟩
 f24 := ⟨Tryz.f280.name, by decide, Tryz.func280.trans (congrArg some (by kernel_rfl))⟩
 f25 := ⟨Tryz.f281.name, by decide, Tryz.func281.trans (congrArg some (by kernel_rfl))⟩
 f26 := ⟨Tryz.f282.name, by decide, Tryz.func282.trans (congrArg some (by kernel_rfl))⟩
 f27 := ⟨Tryz.f283.name, by decide, Tryz.func283.trans (congrArg some (by kernel_rfl))⟩
 f28 := Tryz.func155.trans (congrArg some (by kernel_rfl))
 f29 := Tryz.func156.trans (congrArg some (by kernel_rfl))
 f46 := ⟨Tryz.f291.name, by decide, Tryz.func291.trans (congrArg some (by kernel_rfl))⟩
 f47 := Tryz.func180.trans (congrArg some (by kernel_rfl))
 f48 := Tryz.func181.trans (congrArg some (by kernel_rfl))
 f49 := ⟨Tryz.f292.name, by decide, Tryz.func292.trans (congrArg some (by kernel_rfl))⟩
 f50 := ⟨Tryz.f293.name, by decide, Tryz.func293.trans (congrArg some (by kernel_rfl))⟩
 f57 := ⟨Tryz.f300.name, by decide, Tryz.func300.trans (congrArg some (by kernel_rfl))⟩
 t0 := Tryz.underlying0
 a0 := Tryz.isAgg0
 z0 := Tryz.sizeOf0
 v0 := Tryz.zeroValue0
 t3 := Tryz.underlying3
 a3 := Tryz.isAgg3
 z3 := Tryz.sizeOf3
 v3 := Tryz.zeroValue3
 t4 := Tryz.underlying4
 a4 := Tryz.isAgg4
 z4 := Tryz.sizeOf4
 v4 := Tryz.zeroValue4
 t5 := Tryz.underlying5
 a5 := Tryz.isAgg5
 z5 := Tryz.sizeOf5
 v5 := Tryz.zeroValue5
 t9 := Tryz.underlying9
 a9 := Tryz.isAgg9
 z9 := Tryz.sizeOf9
 v9 := Tryz.zeroValue9
 t22 := Tryz.underlying257
 a22 := Tryz.isAgg257
 z22 := Tryz.sizeOf257
 v22 := Tryz.zeroValue257
 t25 := Tryz.underlying315
 a25 := Tryz.isAgg315
 z25 := Tryz.sizeOf315
 v25 := Tryz.zeroValue315
 t39 := Tryz.underlying136
 a39 := Tryz.isAgg136
 z39 := Tryz.sizeOf136
 v39 := Tryz.zeroValue136
 t45 := Tryz.underlying210
 a45 := Tryz.isAgg210
 z45 := Tryz.sizeOf210
 v45 := Tryz.zeroValue210
 t46 := Tryz.underlying211
 a46 := Tryz.isAgg211
 z46 := Tryz.sizeOf211
 v46 := Tryz.zeroValue211
 t50 := Tryz.underlying216
 a50 := Tryz.isAgg216
 z50 := Tryz.sizeOf216
 v50 := Tryz.zeroValue216
 t53 := Tryz.underlying25
 a53 := Tryz.isAgg25
 z53 := Tryz.sizeOf25
 v53 := Tryz.zeroValue25
 t55 := Tryz.underlying24
 a55 := Tryz.isAgg24
 z55 := Tryz.sizeOf24
 v55 := Tryz.zeroValue24
 t66 := Tryz.underlying247
 a66 := Tryz.isAgg247
 z66 := Tryz.sizeOf247
 v66 := Tryz.zeroValue247
 t70 := Tryz.underlying251
 a70 := Tryz.isAgg251
 z70 := Tryz.sizeOf251
 v70 := Tryz.zeroValue251
 t76 := Tryz.underlying277
 a76 := Tryz.isAgg277
 z76 := Tryz.sizeOf277
 v76 := Tryz.zeroValue277
 t77 := Tryz.underlying101
 a77 := Tryz.isAgg101
 z77 := Tryz.sizeOf101
 v77 := Tryz.zeroValue101 }
end Go.Proofs
end
namespace Go.Proofs.YtbiplmbcdhjiaaaGreatDoor
open Go.Lib (hid)
section
open Go.RowKit
namespace SpanC
open VerM SpanM StrC TextR VerC Go.Sort Go.Shelf
theorem st_agg (w : World) : (isAgg 290).run Tryz.prog w = .ok true w := by kernel_rfl
theorem st_size (w : World) : (Go.sizeOf 290).run Tryz.prog w = .ok 10 w := by kernel_rfl
set_option maxRecDepth 100000 in
theorem zkh (x y : StR) (w : World) (hx : StOk w x) (hy : StOk w y) :
 Calls Tryz.prog 247 #[stV x, stV y] w fun e w' => e = .returned (.int .i64 (cE x.st.f y.st.f)) ∧ Gr w w' := by
 have HC := hid (fun w' (g : Gr w w') => zis x.f y.f w' (hx.f.gr g.below) (hy.f.gr g.below))
 have HG : Hid (Gr w ((w.alloc (stO x)).alloc (stO y))) := hid (((Gr.refl w).alloc _).alloc _)
 obtain ⟨r, hr⟩ : ∃ r, cE x.f.ed y.f.ed = r := ⟨_, rfl⟩
 have HE : Hid (cE x.st.f y.st.f = r) := hid hr
 rw [hr] at HC
 clear hx hy hr
 obtain ⟨⟨vx, ax, cx, s1⟩, ⟨vx2, ax2, cx2, s12⟩⟩ := x
 obtain ⟨⟨vy, ay, cy, s2⟩, ⟨vy2, ay2, cy2, s22⟩⟩ := y
 dsimp only at *
 go_enter Tryz.func247, Tryz.ntmps247
 go_wp2_with (go_at_call 248; refine (HC.out _ HG.out).mono ?_; rintro e w2 ⟨rfl, hg2⟩)
 go_ret
 exact ⟨by rw [HE.out]; rfl, HG.out.trans hg2⟩
structure TS (w : World) where
 x : StR
 ok : StOk w x
instance (w : World) : Inhabited (TS w) := ⟨⟨⟨⟨zeroV, none, 0, 0⟩, ⟨zeroV, none, 0, 0⟩⟩, ⟨⟨⟨zhj, by show 0 ≤ 2; omega, fun h => by cases h⟩, Txs.nil _ _ _, fun b f e => (by cases e), fun _ => ⟨rfl, rfl⟩⟩, ⟨⟨zhj, by show 0 ≤ 2; omega, fun h => by cases h⟩, Txs.nil _ _ _, fun b f e => (by cases e), fun _ => ⟨rfl, rfl⟩⟩⟩⟩⟩
def encTS {w : World} (x : TS w) : List Value := stL x.x
def cmpTS {w : World} (x y : TS w) : Int := cE x.x.st.f y.x.st.f
theorem swoTS (w : World) : Go.Sort.SWO (ltOf (cmpTS (w := w))) where
 irrefl x := by unfold ltOf cmpTS; rw [zhm]; rfl
 trans x y z h1 h2 := by
  unfold ltOf cmpTS at *
  rw [decide_eq_true_eq] at *
  exact lt_le h1 (by omega)
 ntrans x y z h1 h2 := by
  unfold ltOf cmpTS at *
  rw [decide_eq_false_iff_not] at *
  intro h3
  have a1 := zhn x.x.st.f y.x.st.f
  have a2 := zhn y.x.st.f z.x.st.f
  have := lt_le h3 (show cE z.x.st.f y.x.st.f ≤ 0 by have := zhn z.x.st.f y.x.st.f; omega)
  omega
theorem ts_at {w : World} (x : TS w) {α : Type} [Inhabited α] (enc : α → List Value) (k blk m : Nat) (dk : Array α) (os : Array Obj) (hb : ¬ IsText w blk) : StOk (sortWorldK enc k w blk 0 m dk os) x.x :=
 x.ok.keep hb fun j hj hne => (RowKC.zik enc k dk).block j hj (by simp; exact fun e => hne e)
theorem zki (blk cap : Nat) (w : World) (d : Array (TS w)) (hH : HoldsK encTS 10 w blk 0 d) (hblk : blk < w.heap.size) (hb : ¬ IsText w blk) (hsz : d.size < 4611686018427387904) :
 Calls Tryz.prog 246 #[.slice (some ⟨blk, 0, none⟩) d.size cap, .func (.func 247) #[] #[]] w fun e w' =>
  e = .returned (.tuple #[]) ∧ ∃ d' n os, Go.Sort.PermIn 0 d.size d d' ∧ Go.Sort.SortedIn (ltOf cmpTS) 0 d.size d' ∧ w' = sortWorldK encTS 10 w blk 0 n d' os := by
 have eg : ∀ args w, (callFunc 247 args).run Tryz.prog w = .ok (.enter 247 args) w := enters_of Tryz.func247 (by kernel_rfl) rfl
 exact AnyQ.slices_SortFunc Tryz.sortSt 10 st_agg st_size encTS (fun _ => rfl) (fun x => zju x.x) cmpTS (swoTS w) 247 #[] blk 0 cap d w eg
  (fun m os dk _ x y => (zkh x.x y.x _ (ts_at x _ _ _ _ _ _ hb) (ts_at y _ _ _ _ _ _ hb)).mono fun _ _ h => ⟨h.1, h.2.grow⟩) hH hblk hsz
theorem zkj {w : World} {d d' : Array (TS w)} (hp : Go.Sort.PermIn 0 d.size d d') (hs : Go.Sort.SortedIn (ltOf cmpTS) 0 d.size d') : d'.size = d.size ∧ (d'.toList.map (fun x => x.x.st)).Pairwise (fun a b => cE a.f b.f ≤ 0) ∧ (∀ x, x ∈ d'.toList.map (·.x) ↔ x ∈ d.toList.map (·.x)) := by
 obtain ⟨h1, _, h2⟩ := hp
 refine ⟨h1, ?_, fun x => ?_⟩
 · rw [List.pairwise_map, List.pairwise_iff_getElem]
   intro i j hi hj hij
   have := hs i j (by omega) hij (by simpa [h1] using hj)
   unfold ltOf at this
   rw [decide_eq_false_iff_not] at this
   simp only [Array.length_toList] at hi hj
   rw [getElem!_pos d' i hi, getElem!_pos d' j hj] at this
   unfold cmpTS at this
   have a := zhn d'[i].x.st.f d'[j].x.st.f
   simp only [Array.getElem_toList]
   omega
 · have e1 : d'.extract 0 d.size = d' := by rw [← h1]; simp
   have e2 : d.extract 0 d.size = d := by simp
   rw [e1, e2] at h2
   exact (h2.map (·.x)).mem_iff
end SpanC
end
end Go.Proofs.YtbiplmbcdhjiaaaGreatDoor
