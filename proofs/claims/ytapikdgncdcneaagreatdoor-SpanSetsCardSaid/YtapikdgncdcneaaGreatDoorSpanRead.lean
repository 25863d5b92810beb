/-
  The parts of a text, cut at each instance of another one: in plain words.
  Package span's iterator over the parts: parts, and its contract for a range over a function.
  Package span's alternative: what an alternative says: the comparisons of a text, cut at each blank.
  Package span's read: what a span's text says, in its one form.
  Package span's Read, Form and Is: one contract a function.
  Package span's Pick: the greatest of some versions that is in a span; the iterator slices.Backward ahead of it.
-/
import Derived.Test.YtapikdgncdcneaaGreatDoorSpanText1
import Derived.Lib.IndexMore
import Derived.Lib.CutLaws
import Derived.RangeFuncNested
import Derived.RangeFuncBound
import Derived.RangeFuncCalls
import Derived.RangeFuncLeaves
import Derived.RangeFuncBox
import Derived.Shelf.Abstract
import Derived.Shelf.RegionOpen
import Derived.OwnWalkIn
import Derived.TacticsInMore
import Derived.LoopNIn
import Derived.LoopIn
import Derived.Test.YtapikdgncdcneaaGreatDoorSpanWr
import Derived.Test.YtapikdgncdcneaaGreatDoorSpanMeet
import Derived.Test.YtapikdgncdcneaaGreatDoorVerSortP
import Derived.Sort.CutIn
import Derived.Sort.QuietIn
namespace Go.Proofs.YtapikdgncdcneaaGreatDoor
open Go.RowKit Go.Shelf
set_option linter.unusedVariables false
namespace SpanC
open VerM SpanM StrC TextR VerC
attribute [local go_sem] Oper.semAt_some

/-- the parts of a text, cut at each d -/
def partsF (d : B) : Nat → B → List B
  | 0, s => [s]
  | n + 1, s => (Lib.cut s d).1 :: (if (Lib.cut s d).2.2 then partsF d n (Lib.cut s d).2.1 else [])
def partsB (d s : B) : List B := partsF d s.length s
theorem cut_found {s d : B} (h : (Lib.cut s d).2.2 = true) : (Lib.cut s d).1.length + d.length + (Lib.cut s d).2.1.length = s.length := by
  unfold Lib.cut at *
  by_cases h0 : 0 ≤ Lib.index s d
  · have := Lib.index_room s d h0
    rw [if_pos h0]
    simp
    omega
  · rw [if_neg h0] at h
    cases h
theorem cut_len (s d : B) : (Lib.cut s d).1.length ≤ s.length := by
  unfold Lib.cut
  split
  · simp; omega
  · simp
theorem cut_nil {d : B} (hd : d ≠ []) : Lib.cut [] d = ([], [], false) := by
  unfold Lib.cut
  have : Lib.index [] d = -1 := by
    unfold Lib.index
    cases d with
    | nil => exact absurd rfl hd
    | cons c t => rfl
  rw [this]; rfl
theorem partsF_nil {d : B} (hd : d ≠ []) : ∀ m, partsF d m [] = [[]]
  | 0 => rfl
  | m + 1 => by rw [partsF, cut_nil hd]; rfl
theorem partsF_eq {d : B} (hd : d ≠ []) : ∀ (n m : Nat) (s : B), s.length ≤ n → s.length ≤ m → partsF d n s = partsF d m s := by
  have hd0 : 0 < d.length := List.length_pos_iff.2 hd
  intro n
  induction n with
  | zero =>
    intro m s h1 h2
    obtain rfl : s = [] := List.eq_nil_of_length_eq_zero (by omega)
    rw [partsF_nil hd, partsF_nil hd]
  | succ n ih =>
    intro m s h1 h2
    cases m with
    | zero =>
      obtain rfl : s = [] := List.eq_nil_of_length_eq_zero (by omega)
      rw [partsF_nil hd, partsF_nil hd]
    | succ m =>
      rw [partsF, partsF]
      by_cases hf : (Lib.cut s d).2.2 = true
      · have := cut_found hf
        rw [if_pos hf, if_pos hf, ih m _ (by omega) (by omega)]
      · rw [if_neg hf, if_neg hf]
theorem partsB_eq {d : B} (hd : d ≠ []) (s : B) : partsB d s = (Lib.cut s d).1 :: (if (Lib.cut s d).2.2 then partsB d (Lib.cut s d).2.1 else []) := by
  have hd0 : 0 < d.length := List.length_pos_iff.2 hd
  have h1 : partsB d s = partsF d (s.length + 1) s := partsF_eq hd _ _ s (Nat.le_refl _) (by omega)
  rw [h1, partsF]
  by_cases hf : (Lib.cut s d).2.2 = true
  · have := cut_found hf
    rw [if_pos hf, if_pos hf]
    congr 1
    exact partsF_eq hd _ _ _ (by omega) (Nat.le_refl _)
  · rw [if_neg hf, if_neg hf]
theorem partsB_pos {d : B} (hd : d ≠ []) (s : B) : 0 < (partsB d s).length := by rw [partsB_eq hd]; simp
theorem partsB_len {d : B} (hd : d ≠ []) (s : B) : (partsB d s).length ≤ s.length + 1 := by
  have hd0 : 0 < d.length := List.length_pos_iff.2 hd
  obtain ⟨n, hn⟩ : ∃ n, s.length ≤ n := ⟨_, Nat.le_refl _⟩
  induction n generalizing s with
  | zero =>
    obtain rfl : s = [] := List.eq_nil_of_length_eq_zero (by omega)
    rw [partsB_eq hd, cut_nil hd]; simp
  | succ n ih =>
    rw [partsB_eq hd]
    by_cases hf : (Lib.cut s d).2.2 = true
    · have h1 := cut_found hf
      have h2 := ih (Lib.cut s d).2.1 (by omega)
      rw [if_pos hf, List.length_cons]
      omega
    · rw [if_neg hf]; simp
theorem partsB_mem {d : B} (hd : d ≠ []) (s : B) : ∀ p ∈ partsB d s, p.length ≤ s.length := by
  have hd0 : 0 < d.length := List.length_pos_iff.2 hd
  obtain ⟨n, hn⟩ : ∃ n, s.length ≤ n := ⟨_, Nat.le_refl _⟩
  induction n generalizing s with
  | zero =>
    obtain rfl : s = [] := List.eq_nil_of_length_eq_zero (by omega)
    rw [partsB_eq hd, cut_nil hd]
    intro p hp
    simp at hp
    rw [hp]; simp
  | succ n ih =>
    rw [partsB_eq hd]
    intro p hp
    rcases List.mem_cons.1 hp with rfl | hp
    · exact cut_len s d
    · by_cases hf : (Lib.cut s d).2.2 = true
      · have h1 := cut_found hf
        rw [if_pos hf] at hp
        have := ih (Lib.cut s d).2.1 (by omega) p hp
        omega
      · rw [if_neg hf] at hp; cases hp
/-- what stands behind the k-th part -/
theorem parts_step {d r : B} {L : List B} {k : Nat} (hd : d ≠ []) (h : partsB d r = L.drop k) : k < L.length ∧ L.getD k [] = (Lib.cut r d).1 ∧ ((Lib.cut r d).2.2 = true → partsB d (Lib.cut r d).2.1 = L.drop (k + 1)) ∧ ((Lib.cut r d).2.2 = false → k + 1 = L.length) := by
  have hp := partsB_pos hd r
  have hk : k < L.length := by rw [h, List.length_drop] at hp; omega
  rw [partsB_eq hd, List.drop_eq_getElem_cons hk] at h
  obtain ⟨h1, h2⟩ := List.cons.inj h
  refine ⟨hk, by rw [List.getD_eq_getElem?_getD, List.getElem?_eq_getElem hk, h1]; rfl, fun hf => ?_, fun hf => ?_⟩
  · rw [if_pos hf] at h2; exact h2
  · rw [hf] at h2
    have := congrArg List.length h2
    rw [List.length_drop] at this
    simp at this
    omega

/-- what is told: of the k-th part k and it -/
def encP (L : List B) (k : Nat) : Array Value := #[.int .i64 (k : Int), .string (str (L.getD k []))]
/-- a world in which nothing of what lies below n₀ has turned, but for one block -/
structure Bx (g n₀ : Nat) (w w' : World) : Prop where
  os : w'.os = w.os
  tape : w'.tape = w.tape
  output : w'.output = w.output
  size : w.heap.size ≤ w'.heap.size
  block : ∀ k, k < n₀ → k ≠ g → w'.heap[k]? = w.heap[k]?
theorem Bx.refl (g n₀ : Nat) (w : World) : Bx g n₀ w w := ⟨rfl, rfl, rfl, Nat.le_refl _, fun _ _ _ => rfl⟩
theorem Bx.trans {g n₀ : Nat} {x y z : World} (h : Bx g n₀ x y) (k : Bx g n₀ y z) : Bx g n₀ x z :=
  ⟨k.os.trans h.os, k.tape.trans h.tape, k.output.trans h.output, Nat.le_trans h.size k.size, fun i hi hb => (k.block i hi hb).trans (h.block i hi hb)⟩
theorem Bx.of_below {g n₀ : Nat} {w w' : World} (h : Below n₀ w w') : Bx g n₀ w w' := ⟨h.os, h.tape, h.output, h.size, fun k hk _ => h.block k hk⟩
theorem Bx.below {g n₀ m : Nat} {w w' : World} (h : Bx g n₀ w w') (h1 : m ≤ g) (h2 : m ≤ n₀) : Below m w w' := ⟨h.os, h.tape, h.output, h.size, fun k hk => h.block k (by omega) (by omega)⟩
theorem Bx.drewN {g n₀ : Nat} {w w' : World} (h : Bx g n₀ w w') (q : Nat) : Bx g n₀ w (w'.drewN q) := ⟨h.os, h.tape, h.output, h.size, h.block⟩
theorem Bx.cell {g n₀ : Nat} {w w' : World} (h : Bx g n₀ w w') {p : Addr} (hp : p.block < n₀) (hb : p.block ≠ g) : w'.cell? p = w.cell? p := World.cell?_of_block (w := w) (h.block p.block hp hb)
theorem Bx.grown {g n₀ : Nat} {w0 w w' : World} {row : Option Nat} (h : Bx g n₀ w0 w) (k : w.grownBy w' row) (hn : n₀ ≤ w.heap.size) (hr : ∀ r, row = some r → r = g ∨ n₀ ≤ r) : Bx g n₀ w0 w' :=
  h.trans ⟨k.os, k.tape, k.output, k.size, fun i hi hb => k.block i (by omega) (fun e => by rcases hr i e.symm with h | h <;> omega)⟩
theorem bxK_b {g n₀ : Nat} {w : World} (hn : n₀ ≤ w.heap.size) (W : World) (l : Nat) (o o' : Obj) (hl : w.heap.size ≤ l) (h : W.heap[l]? = some o) (_ : o.isCells = false) (_ : o.isWalk = false) : Bx g n₀ W (W.putObj l o') :=
  (Bx.refl g n₀ W).grown (grownBy_putObj' W l o') (by have := (Array.getElem?_eq_some_iff.1 h).1; omega) (fun k e => .inr (by cases e; omega))
theorem ownFrom_bx {β : Type} {g n₀ : Nat} {w0 w : World} (hn : n₀ ≤ w.heap.size) (hw : w.heap.size ≤ w0.heap.size) : OwnFrom w.heap.size (fun (_ : β) W => Bx g n₀ w0 W) := fun s W W' row h hg hr =>
  h.grown hg (by have := h.size; omega) (fun r e => .inr (by have := (hr r e).1; omega))
/-- the function value that parts hands back -/
def partsV (bs bd : Nat) : Value := .func (.func 99) #[] #[.pointer (some ⟨bs, 0, none⟩), .pointer (some ⟨bd, 0, none⟩)]
def partsW (s d : ByteArray) (w : World) : World := (w.alloc (.cells #[.string s] 9)).alloc (.cells #[.string d] 9)
theorem partsW_facts (s d : ByteArray) (w : World) : (partsW s d w).heap.size = w.heap.size + 2 ∧ (partsW s d w).cell? ⟨w.heap.size, 0, none⟩ = some (.string s) ∧ (partsW s d w).cell? ⟨w.heap.size + 1, 0, none⟩ = some (.string d) ∧ Below w.heap.size w (partsW s d w) := by
  unfold partsW
  refine ⟨by simp, ?_, ?_, ((Below.refl _ w).alloc (Nat.le_refl _) _).alloc (by simp) _⟩
  · rw [World.cell?_alloc_lt _ _ _ (by simp), World.cell?_alloc_at _ _ _ _ rfl]; rfl
  · rw [World.cell?_alloc_at _ _ _ _ (by simp)]; rfl
theorem parts_any (s d : ByteArray) (w : World) :
    Calls Tryz.prog 70 #[.string s, .string d] w fun e w' => e = .returned (partsV w.heap.size (w.heap.size + 1)) ∧ w' = partsW s d w := by
  unfold partsV partsW
  go_enter Tryz.func70, Tryz.ntmps70
  go_wp2_with fail
  go_ret
  exact ⟨rfl, rfl⟩
theorem pcutS_any (s d : B) (w : World) (hv : Vw w) (hl : s.length ≤ 128) :
    Calls Tryz.prog 77 #[.string (str s), .string (str d)] w fun e w' => e = .returned (.tuple #[.string (str (Lib.cut s d).1), .string (str (Lib.cut s d).2.1), .bool (Lib.cut s d).2.2]) ∧ ∃ n, w' = w.drewN n := by
  obtain ⟨m, hm⟩ := hv.max
  have h := Tryz.strings_Cut (str s) (str d) m w (by rw [str_size]; omega) hm
  rw [str_ab, str_ab] at h
  exact h

set_option maxRecDepth 100000 in
set_option maxHeartbeats 4000000 in
theorem parts1_in (n : Nat) (hn : 3 ≤ n) (l bs bd : Nat) (s d : B) (hd : d ≠ []) (hs : s.length ≤ 128) (L : List B) (hL : partsB d s = L) (J Jx : List Nat → World → Prop) (Kp : World → World → Prop) (hKt : ∀ {A B C : World}, Kp A B → Kp B C → Kp A C) (hKd : ∀ A m, Kp A (A.drewN m))
    (hJd : ∀ pre W m, J pre W → J pre (W.drewN m))
    (hY : ∀ pre x W, J pre W → pre.length < L.length → YieldAt Fence.wide (n - 1) Tryz.prog l (encP L x) W fun e W' =>
      (e = .returned (.bool true) ∧ J (pre ++ [x]) W' ∧ Kp W W') ∨ (e = .returned (.bool false) ∧ Jx (pre ++ [x]) W'))
    (W : World) (hv : ∀ W', Kp W W' → Vw W') (hbs : W.cell? ⟨bs, 0, none⟩ = some (.string (str s))) (hbd : ∀ W', Kp W W' → W'.cell? ⟨bd, 0, none⟩ = some (.string (str d))) (h0 : J [] W) :
    CallsIn Fence.wide n Tryz.prog 99 #[.func (.yield l) #[] #[], .pointer (some ⟨bs, 0, none⟩), .pointer (some ⟨bd, 0, none⟩)] W fun e W' => (∃ v, e = .returned v) ∧
      ((∃ ys, ys = List.range L.length ∧ J ys W') ∨ (∃ pre, (∃ k, k ≤ L.length ∧ pre = List.range k) ∧ Jx pre W')) := by
  have HV := Lib.hid hv
  have HJD := Lib.hid hJd
  have HLL : Hid (L.length ≤ 129) := Lib.hid (by have := partsB_len hd s; rw [hL] at this; omega)
  have HBD := Lib.hid hbd
  have HKT : Hid (∀ A B C : World, Kp A B → Kp B C → Kp A C) := Lib.hid (fun A B C => @hKt A B C)
  have HKD := Lib.hid hKd
  have hbd0 := hbd W (hKd W 0)
  have HK0 := Lib.hid (hKd W 0)
  have HS := Lib.hid hs
  have HPL := Lib.hid hL
  have HD := Lib.hid hd
  clear hv hJd hbd hs hL hd hKt hKd
  refine callsIn_of_wp Tryz.func99 rfl trivial ?_ rfl
  simp only [Tryz.ntmps99, List.size_toArray, List.length_cons, List.length_nil, Nat.reduceAdd, Nat.reduceSub, Array.replicate_succ, Array.replicate_zero, List.push_toArray, List.append_toArray, List.nil_append, List.cons_append]
  gi_wp2_with fail
  gi_loopw [4, 5, 6] (fun v4 v5 v6 wr => ∃ (k : Nat) (r : B) (m : Bool), v4 = .string (str r) ∧ v5 = .bool m ∧ v6 = .int .i64 k ∧ J (List.range k) wr ∧ Hid (Kp W wr) ∧ Hid (r.length ≤ 128 ∧ k ≤ L.length ∧ (m = true → partsB d r = L.drop k) ∧ (m = false → k = L.length))) (fun _ _ v6 _ => L.length + 1 - (intOf v6).toNat)
  case atStart => exact ⟨0, s, true, rfl, rfl, rfl, h0, Lib.hid (HK0.out), Lib.hid ⟨HS.out, Nat.zero_le _, fun _ => by rw [HPL.out]; rfl, fun h => by cases h⟩⟩
  case round =>
    obtain ⟨k, r, m, rfl, rfl, rfl, hJs, HB, HK⟩ := hrel
    rename World => wr
    cases m with
    | true =>
      obtain ⟨hk, hat, hgo, hno⟩ := parts_step HD.out (HK.out.2.2.1 rfl)
      have hbd := HBD.out wr HB.out
      have HCUT := Lib.hid (pcutS_any r d wr (HV.out wr HB.out) HK.out.1)
      have HRL : Hid ((Lib.cut r d).2.2 = true → (Lib.cut r d).2.1.length ≤ 128) := Lib.hid fun h => by have := cut_found h; have := HK.out.1; omega
      have HRN : Hid ((Lib.cut r d).2.2 = false → (Lib.cut r d).2.1.length ≤ 128) := Lib.hid fun h => by
        unfold Lib.cut at h ⊢
        split
        · rename_i h0; rw [if_pos h0] at h; cases h
        · simp
      rw [← hat] at HCUT
      obtain ⟨r2, hr2⟩ : ∃ r2, (Lib.cut r d).2.1 = r2 := ⟨_, rfl⟩
      obtain ⟨m2, hm2⟩ : ∃ m2, (Lib.cut r d).2.2 = m2 := ⟨_, rfl⟩
      rw [hr2, hm2] at HCUT
      have HX2 : Hid (k < L.length ∧ (m2 = true → partsB d r2 = L.drop (k + 1)) ∧ (m2 = false → k + 1 = L.length) ∧ r2.length ≤ 128) := Lib.hid ⟨hk, by rw [← hr2, ← hm2]; exact hgo, by rw [← hm2]; exact hno, by
        rw [← hr2]
        cases h : (Lib.cut r d).2.2 with
        | true => exact HRL.out h
        | false => exact HRN.out h⟩
      have HTS := Lib.hid (@List.range_succ k)
      have hkm : k ≤ 1000 := by have := HLL.out; omega
      clear hk hat hgo hno HRL HRN hr2 hm2 HK
      have HYY := Lib.hid fun q => hY _ k (wr.drewN q) (HJD.out _ _ q hJs) (by rw [List.length_range]; exact HX2.out.1)
      unfold encP at HYY
      obtain ⟨px, hpx⟩ : ∃ px, str (L.getD k []) = px := ⟨_, rfl⟩
      rw [hpx] at HCUT HYY
      clear hpx
      have HBQ := Lib.hid fun q => HKT.out _ _ _ HB.out (HKD.out wr q)
      clear hJs HB
      gi_wp2_with (refine ⟨trivial, fun h => Bool.noConfusion h, ?_⟩; gi_at_call 77; refine (callsIn_wide.2 HCUT.out).mono ?_; rintro e w' ⟨rfl, q, rfl⟩; obtain ⟨fn, tmps, assign, body, hy, hR⟩ := HYY.out q)
      refine ⟨fun h => Bool.noConfusion h, hR.mono ?_⟩
      rintro e W3 (⟨rfl, hJ3, hk3⟩ | ⟨rfl, hJx3⟩)
      · gi_wp2
        go_roundw
        case rel => exact ⟨k + 1, r2, m2, rfl, rfl, by go_num, by rw [HTS.out]; exact hJ3, Lib.hid (HKT.out _ _ _ (HBQ.out q) hk3), Lib.hid ⟨HX2.out.2.2.2, HX2.out.1, HX2.out.2.1, HX2.out.2.2.1⟩⟩
        case measure => have := HX2.out.1; simp [intOf]; omega
      · gi_wp2
        refine bodyPost_ret (results_none rfl _ _ _) rfl ?_
        exact ⟨⟨_, rfl⟩, .inr ⟨_, ⟨k + 1, HX2.out.1, HTS.out.symm⟩, hJx3⟩⟩
    | false =>
      have HKK : Hid (k = L.length) := Lib.hid (HK.out.2.2.2 rfl)
      gi_wp2
      go_end0
      exact ⟨⟨_, rfl⟩, .inl (by rw [← HKK.out]; exact hJs)⟩
theorem grown_drewN (w : World) (n : Nat) (row : Option Nat) : w.grownBy (w.drewN n) row := ⟨rfl, rfl, rfl, Nat.le_refl _, fun _ _ _ => rfl⟩
/-- the contract: the parts, each with its number -/
theorem parts_stops (n : Nat) (hn : 3 ≤ n) (bs bd g n₀ : Nat) {w0 : World} (s d : B) (hd : d ≠ []) (hs : s.length ≤ 128)
    (hv : ∀ W', Bx g n₀ w0 W' → Vw W') (hn₀ : n₀ ≤ w0.heap.size) (hbs : w0.cell? ⟨bs, 0, none⟩ = some (.string (str s))) (hbd : w0.cell? ⟨bd, 0, none⟩ = some (.string (str d))) (hbn : bd < n₀) (hbg : bd ≠ g) :
    SeqStopsK Fence.wide n Tryz.prog 99 #[.pointer (some ⟨bs, 0, none⟩), .pointer (some ⟨bd, 0, none⟩)] (encP (partsB d s)) (Bx g n₀) (fun ys => ys = List.range (partsB d s).length) (fun pre => ∃ k, k ≤ (partsB d s).length ∧ pre = List.range k) (partsB d s).length w0 := by
  intro l J Jx W hW hJ hJx hY h0
  have hW2 : Bx g n₀ w0 W := Bx.of_below (hW.mono hn₀)
  exact parts1_in n hn l bs bd s d hd hs _ rfl J Jx (Bx g n₀) (fun h k => h.trans k) (fun A m => (Bx.refl g n₀ A).drewN m) (fun pre W' m h => hJ pre W' _ none h (grown_drewN _ _ _) (fun r e => by cases e)) hY W
    (fun W' h => hv W' (hW2.trans h)) (by rw [hW.cell (World.block_lt_of_cell? _ _ hbs)]; exact hbs) (fun W' h => by rw [(hW2.trans h).cell hbn hbg]; exact hbd) h0
end SpanC
end Go.Proofs.YtapikdgncdcneaaGreatDoor
namespace Go.Proofs.YtapikdgncdcneaaGreatDoor
open Go.RowKit Go.Shelf
set_option linter.unusedVariables false
set_option linter.unusedSimpArgs false

/-! ### whole structs in a round -/
namespace RoundR
variable {F : Fence} {n : Nat} {P : Program} {ops : Array Oper} {rest : List Oper} {o : Oper} {a : Act} {w : World} {Q : Exit → Act → World → Prop}
theorem wpListIn_load_row (hgd : o.guard = none) (ty : TypeId) (x : Operand) (ho : o.op = .load ty x)
    (g : Nat) (hx : a.eval x = .pointer (some ⟨g, 0, none⟩)) (t : TypeId) (cs : Array Value) (fr : Nat × Nat) (d : TypeDesc) (hg : w.heap[g]? = some (.cells cs t fr))
    (hu : P.underlying ty = some d) (hd : (match d with | .struct _ | .array _ _ => true | _ => false) = true) (hi : (P.info? ty).map (·.size) = some cs.size)
    (h : wpListIn F n P ops Q rest (a.put o.dst (.agg cs)) w) : wpListIn F n P ops Q (o :: rest) a w :=
  wpListIn_plain hgd fun K hK => by
    unfold Oper.wpIn
    refine ⟨by simp [Oper.about, ho], ?_⟩
    rw [Oper.semAt_plain F _ _ (by rw [ho]; intro c hc; cases hc)]
    unfold execOp
    simp only [ho, hx, Instr.loadAt, Instr.sureAddr, Sem.run_bind, Sem.run_pure, Result.andThen_ok, run_loadVar_row w g t ty cs fr d hg hu hd hi]
    exact hK _ _ h
theorem wpListIn_store_row (hgd : o.guard = none) (ty : TypeId) (x y : Operand) (ho : o.op = .store ty x y)
    (g : Nat) (cells : Array Value) (hx : a.eval x = .pointer (some ⟨g, 0, none⟩)) (hy : a.eval y = .agg cells)
    (t : TypeId) (old : Array Value) (hg : w.heap[g]? = some (.cells old t (0, 0))) (hi : (P.info? ty).map (·.size) = some cells.size)
    (hold : old.size = cells.size) (h1 : cells.all (·.oneCell') = true)
    (h : wpListIn F n P ops Q rest (a.put o.dst undef) (w.setRow g cells)) : wpListIn F n P ops Q (o :: rest) a w :=
  wpListIn_plain hgd fun K hK => by
    unfold Oper.wpIn
    refine ⟨by simp [Oper.about, ho], ?_⟩
    rw [Oper.semAt_plain F _ _ (by rw [ho]; intro c hc; cases hc)]
    unfold execOp
    simp only [ho, hx, hy, Instr.storeAt, Instr.sureAddr, Sem.run_bind, Sem.run_pure, Result.andThen_ok, run_storeVar_row w g t ty old cells hg hi hold h1]
    exact hK _ _ h
end RoundR
namespace SpanC
open VerM SpanM StrC TextR VerC RoundR
attribute [local go_sem] Oper.semAt_some

theorem results_cells2 {P : Program} {fn : Func} {p q : Tmp} {ty tb : TypeId} (h : fn.results = #[.cell p ty, .cell q tb]) (tmps : Array Value) (w : World) (g : Nat) (t : TypeId) (cs : Array Value) (fr : Nat × Nat) (d : TypeDesc)
    (hp : tmps.getD p undef = .pointer (some ⟨g, 0, none⟩)) (hg : w.heap[g]? = some (.cells cs t fr))
    (hu : P.underlying ty = some d) (hd : (match d with | .struct _ | .array _ _ => true | _ => false) = true) (hi : (P.info? ty).map (·.size) = some cs.size)
    (b : Addr) (v : Value) (hq : tmps.getD q undef = .pointer (some b)) (hc : (loadVar tb b).run P w = .ok v w) :
    (results fn tmps).run P w = .ok (.tuple #[.agg cs, v]) w := by
  have hp' : tmps[p]?.getD undef = .pointer (some ⟨g, 0, none⟩) := by simpa using hp
  have hq' : tmps[q]?.getD undef = .pointer (some b) := by simpa using hq
  simp [results, h, hp', hq', asAddr, run_loadVar_row w g t ty cs fr d hg hu hd hi, hc]
theorem load_bool {w : World} {a : Addr} {v : Value} (hc : w.cell? a = some v) : (loadVar 4 a).run Tryz.prog w = .ok v w := by simp [loadVar, go_sem, hc]
/-- what the first comparisons say together -/
def accM (L : List B) (pre : List Nat) : Option St := pre.foldl (fun o k => if k = 16 then none else o.bind fun a => (compM (L.getD k [])).map (meetS a)) (some allS)
theorem accM_snoc (L : List B) (pre : List Nat) (k : Nat) : accM L (pre ++ [k]) = if k = 16 then none else (accM L pre).bind fun a => (compM (L.getD k [])).map (meetS a) := by
  unfold accM; rw [List.foldl_append]; rfl
theorem acc_none {L : List B} : ∀ (l : List Nat), l.foldl (fun o k => if k = 16 then none else o.bind fun a => (compM (L.getD k [])).map (meetS a)) (none : Option St) = none
  | [] => rfl
  | k :: l => by
    rw [List.foldl_cons]
    have : (if k = 16 then none else (none : Option St).bind fun a => (compM (L.getD k [])).map (meetS a)) = none := by split <;> rfl
    rw [this]; exact acc_none l
theorem accM_stop {L : List B} {k n : Nat} (h : accM L (List.range k) = none) (hk : k ≤ n) : accM L (List.range n) = none := by
  obtain ⟨m, rfl⟩ : ∃ m, n = k + m := ⟨n - k, by omega⟩
  rw [List.range_add]
  unfold accM at h ⊢
  rw [List.foldl_append, h]
  exact acc_none _
/-- what an alternative says -/
def altM (s : B) : Option St := if s = [42] then some allS else if s = [33] then some zeroR.st else accM (partsB [32] s) (List.range (partsB [32] s).length)

theorem keepsB {B : Nat} {W W' : World} (h : Below W.heap.size W W') : KeepsFrom B W W' := ⟨h.size, fun k o _ hk _ => (h.block k (Array.getElem?_eq_some_iff.1 hk).1).trans hk⟩
theorem keepsSet {B g : Nat} {W : World} {cs : Array Value} (hg : g < B) : KeepsFrom B W (W.setRow g cs) := ⟨by simp, fun k o hB hk _ => (Go.setRow_other W g k cs (by omega)).trans hk⟩
theorem keepsCell {B : Nat} {W : World} {a : Addr} {v : Value} (hg : a.block < B) : KeepsFrom B W (W.setCell a v) := ⟨by simp, fun k o hB hk _ => (Below.heap_setCell W a v k (by omega)).trans hk⟩
/-- edges stay, where no block of texts turns -/
theorem EdOk.same {w w' : World} {x : EdR} (h : EdOk w x) (hk : ∀ b, IsText w b → w'.heap[b]? = w.heap[b]?) : EdOk w' x := by
  have key : ∀ b f, x.a = some ⟨b, f, none⟩ → w'.heap[b]? = w.heap[b]? := fun b f e => hk b (h.kind b f e)
  refine ⟨h.wf, ⟨h.txs.cap, h.txs.short, h.txs.few, fun h0 => ?_⟩, fun b f e => (h.kind b f e).of (key b f e), h.nil⟩
  obtain ⟨b, o, e, hc⟩ := h.txs.cells h0
  exact ⟨b, o, e, fun i hi => (World.cell?_of_block (a := ⟨b, o + i, none⟩) (key b o e)).trans (hc i hi)⟩
theorem StOk.same {w w' : World} {x : StR} (h : StOk w x) (hk : ∀ b, IsText w b → w'.heap[b]? = w.heap[b]?) : StOk w' x := ⟨h.f.same hk, h.t.same hk⟩
theorem text_row {w w' : World} {row : Option Nat} (hg : w.grownBy w' row) (hr : ∀ r, row = some r → ∃ o : Obj, w.heap[r]? = some o ∧ o.isCells = false) : ∀ b, IsText w b → w'.heap[b]? = w.heap[b]? := fun b hb =>
  hg.block b hb.lt (fun e => by
    obtain ⟨o, ho, hc⟩ := hr b e.symm
    obtain ⟨cs, fz, h⟩ := hb
    rw [h] at ho
    cases ho
    cases hc)
theorem wfZero : wfE zeroR.f.ed := ⟨zeroV_may, by decide, fun h => by cases h⟩
theorem zeroOk (w : World) : StOk w zeroR := ⟨⟨wfZero, Txs.nil _ _ _, fun b f e => (by cases e), fun _ => ⟨rfl, rfl⟩⟩, ⟨wfZero, Txs.nil _ _ _, fun b f e => (by cases e), fun _ => ⟨rfl, rfl⟩⟩⟩
theorem partsB_le {s : B} (hs : s.length ≤ 128) (k : Nat) : ((partsB [32] s).getD k []).length ≤ 128 := by
  by_cases hk : k < (partsB [32] s).length
  · have := partsB_mem (d := [32]) (by decide) s _ (List.getElem_mem hk)
    rw [List.getD_eq_getElem?_getD, List.getElem?_eq_getElem hk]
    exact Nat.le_trans this hs
  · rw [List.getD_eq_getElem?_getD, List.getElem?_eq_none (by omega)]; simp
set_option maxHeartbeats 4000000 in
set_option maxRecDepth 100000 in
theorem palt_star (w : World) : Calls Tryz.prog 71 #[.string (str [42])] w (MaybeE (some allS) w) := by
  have hn := (heap_alloc_old (w.alloc (stO zeroR)) (.cells #[.bool false] 4) (r := w.heap.size) (by simp)).trans (heap_alloc_new w (stO zeroR))
  have hb := heap_alloc_new (w.alloc (stO zeroR)) (.cells #[.bool false] 4)
  rw [World.size_alloc] at hb
  have HB0 : Hid (Below w.heap.size w ((w.alloc (stO zeroR)).alloc (.cells #[.bool false] 4))) := Lib.hid (((Below.refl _ w).alloc (Nat.le_refl _) _).alloc (by simp) _)
  have k1 : ((str [42]).toList == ([42] : List UInt8)) = true := (beq_list [42] [42]).trans (by decide)
  have k2 : ((str [42]).toList == ([33] : List UInt8)) = false := (beq_list [42] [33]).trans (by decide)
  have HN := Lib.hid hn
  have HBB := Lib.hid hb
  clear hn hb
  go_enter Tryz.func71, Tryz.ntmps71
  go_wp2_with fail
  refine (pall_any _).mono ?_
  rintro e w1 ⟨r, rfl, hst, hok, hb1⟩
  have hl := (Array.getElem?_eq_some_iff.1 HN.out).1
  have hl2 := (Array.getElem?_eq_some_iff.1 HBB.out).1
  have hn1 := (hb1.block _ hl).trans HN.out
  have hz1 := (hb1.block _ hl2).trans HBB.out
  have hz2 := (Go.setRow_other w1 w.heap.size (w.heap.size + 1) (stL r).toArray (by omega)).trans hz1
  have hc2 : (w1.setRow w.heap.size (stL r).toArray).cell? ⟨w.heap.size + 1, 0, none⟩ = some (.bool false) := by simp [World.cell?, hz2]
  have hf2 := ver_frozen hz2 0
  have HB1 := Lib.hid (HB0.out.trans (hb1.mono HB0.out.size))
  have HOK := Lib.hid hok
  have HST := Lib.hid hst
  have HN1 := Lib.hid hn1
  have HZ2 := Lib.hid hz2
  clear hst hok hb1 hl hl2 hz1 hz2 HB0 HN HBB
  go_wp2_with (refine wpList_store_row rfl 73 _ _ rfl w.heap.size (stL r).toArray rfl rfl _ _ hn1 info_st rfl (st_one _) ?_)
  refine bodyPost_ret (results_cells2 rfl _ _ w.heap.size _ (stL r).toArray _ _ rfl ((Below.heap_setCell _ _ _ _ (by show w.heap.size ≠ w.heap.size + 1; omega)).trans (setRow_heap _ _ _ _ _ _ HN1.out)) Tryz.underlying73 rfl info_st ⟨w.heap.size + 1, 0, none⟩ (.bool true) rfl (load_bool ?_)) rfl ?_
  · exact World.cell?_setCell_same _ _ _ hc2
  · exact MaybeE.yes ((below_setRow HB1.out (Nat.le_refl _) _).setCell (by show w.heap.size ≤ w.heap.size + 1; omega) _) HST.out ((HOK.out.keep (no_text HN1.out (by decide)) (fun j _ hj => Go.setRow_other _ _ _ _ hj)).keep (no_text HZ2.out (by decide)) (fun j _ hj => Below.heap_setCell _ _ _ _ hj))
set_option maxHeartbeats 4000000 in
set_option maxRecDepth 100000 in
theorem palt_none (w : World) : Calls Tryz.prog 71 #[.string (str [33])] w (MaybeE (some zeroR.st) w) := by
  have hn := (heap_alloc_old (w.alloc (stO zeroR)) (.cells #[.bool false] 4) (r := w.heap.size) (by simp)).trans (heap_alloc_new w (stO zeroR))
  have hb := heap_alloc_new (w.alloc (stO zeroR)) (.cells #[.bool false] 4)
  rw [World.size_alloc] at hb
  have HB0 : Hid (Below w.heap.size w ((w.alloc (stO zeroR)).alloc (.cells #[.bool false] 4))) := Lib.hid (((Below.refl _ w).alloc (Nat.le_refl _) _).alloc (by simp) _)
  have k1 : ((str [33]).toList == ([42] : List UInt8)) = false := (beq_list [33] [42]).trans (by decide)
  have k2 : ((str [33]).toList == ([33] : List UInt8)) = true := (beq_list [33] [33]).trans (by decide)
  have hz2 := (Go.setRow_other ((w.alloc (stO zeroR)).alloc (.cells #[.bool false] 4)) w.heap.size (w.heap.size + 1) (stL zeroR).toArray (by omega)).trans hb
  have HR := Lib.hid (setRow_heap _ _ _ (stL zeroR).toArray _ _ hn)
  have HBR := Lib.hid (below_setRow HB0.out (Nat.le_refl _) (stL zeroR).toArray)
  obtain ⟨W3, hW3⟩ : ∃ W3, ((w.alloc (stO zeroR)).alloc (.cells #[.bool false] 4)).setRow w.heap.size (stL zeroR).toArray = W3 := ⟨_, rfl⟩
  rw [hW3] at hz2 HR HBR
  have HW3 := Lib.hid hW3
  have HZ2 := Lib.hid hz2
  have HN := Lib.hid hn
  clear hb hW3 hz2 hn HB0
  go_enter Tryz.func71, Tryz.ntmps71
  have hn := HN.out
  go_wp2_with (refine wpList_store_row rfl 73 _ _ rfl w.heap.size (stL zeroR).toArray rfl rfl _ _ hn info_st rfl (st_one _) ?_; change wpList _ _ _ _ _ (((w.alloc (stO zeroR)).alloc (.cells #[.bool false] 4)).setRow w.heap.size (stL zeroR).toArray); rw [HW3.out]; clear hn; have hz2 := HZ2.out; have hc2 : W3.cell? ⟨w.heap.size + 1, 0, none⟩ = some (.bool false) := by { unfold World.cell?; rw [hz2]; rfl }; have hf2 := ver_frozen hz2 0; clear hz2)
  refine bodyPost_ret (results_cells2 rfl _ _ w.heap.size _ (stL zeroR).toArray _ _ rfl ((Below.heap_setCell _ ⟨w.heap.size + 1, 0, none⟩ (.bool true) w.heap.size (by show w.heap.size ≠ w.heap.size + 1; omega)).trans HR.out) Tryz.underlying73 rfl info_st ⟨w.heap.size + 1, 0, none⟩ (.bool true) rfl (load_bool ?_)) rfl ?_
  · exact World.cell?_setCell_same _ _ _ hc2
  · exact MaybeE.yes (HBR.out.setCell (by show w.heap.size ≤ w.heap.size + 1; omega) _) rfl (zeroOk _)
set_option maxHeartbeats 16000000 in
set_option maxRecDepth 100000 in
theorem palt_in (s : B) (w : World) (hv : Vw w) (hs : s.length ≤ 128) (h1 : s ≠ [42]) (h2 : s ≠ [33]) : CallsIn Fence.wide 6 Tryz.prog 71 #[.string (str s)] w (MaybeE (accM (partsB [32] s) (List.range (partsB [32] s).length)) w) := by
  have hn := (heap_alloc_old (w.alloc (stO zeroR)) (.cells #[.bool false] 4) (r := w.heap.size) (by simp)).trans (heap_alloc_new w (stO zeroR))
  have hb := heap_alloc_new (w.alloc (stO zeroR)) (.cells #[.bool false] 4)
  rw [World.size_alloc] at hb
  have HB0 : Hid (Below w.heap.size w ((w.alloc (stO zeroR)).alloc (.cells #[.bool false] 4))) := Lib.hid (((Below.refl _ w).alloc (Nat.le_refl _) _).alloc (by simp) _)
  have k1 : ((str s).toList == ([42] : List UInt8)) = false := (beq_list s [42]).trans (decide_eq_false h1)
  have k2 : ((str s).toList == ([33] : List UInt8)) = false := (beq_list s [33]).trans (decide_eq_false h2)
  have HN := Lib.hid hn
  have HBB := Lib.hid hb
  have HV := Lib.hid hv
  have HS := Lib.hid hs
  clear hn hb hv hs h1 h2
  refine callsIn_of_wp_marks Tryz.func71 rfl trivial ?_ rfl
  simp only [Tryz.ntmps71, List.size_toArray, List.length_cons, List.length_nil, Nat.reduceAdd, Nat.reduceSub, Array.replicate_succ, Array.replicate_zero, List.push_toArray, List.append_toArray, List.nil_append, List.cons_append]
  gi_wp2_with fail
  refine ⟨trivial, (callsIn_wide.2 (pall_any _)).mono ?_⟩
  rintro e w1 ⟨r0, rfl, hst, hok, hb1⟩
  have hl := (Array.getElem?_eq_some_iff.1 HN.out).1
  have hl2 := (Array.getElem?_eq_some_iff.1 HBB.out).1
  have HN1 := Lib.hid ((heap_alloc_old w1 (stO zeroR) (r := w.heap.size) (Nat.lt_of_lt_of_le hl hb1.size)).trans ((hb1.block _ hl).trans HN.out))
  have HZ1 := Lib.hid ((heap_alloc_old w1 (stO zeroR) (r := w.heap.size + 1) (Nat.lt_of_lt_of_le hl2 hb1.size)).trans ((hb1.block _ hl2).trans HBB.out))
  have hnb := heap_alloc_new w1 (stO zeroR)
  have HOK := Lib.hid (hok.gr ((Below.refl _ w1).alloc (Nat.le_refl _) (stO zeroR)))
  have HST := Lib.hid hst
  have HB1 := Lib.hid ((HB0.out.trans (hb1.mono HB0.out.size)).alloc (HB0.out.trans (hb1.mono HB0.out.size)).size (stO zeroR))
  have HSZ : Hid (w.heap.size + 2 ≤ w1.heap.size) := Lib.hid (by have := hb1.size; simp at this; omega)
  clear hst hok hb1 hl hl2 HB0 HN HBB
  gi_wp2_with (refine wpListIn_store_row rfl 73 _ _ rfl w1.heap.size (stL r0).toArray rfl rfl _ _ hnb info_st rfl (st_one _) ?_)
  obtain ⟨W2, hW2⟩ : ∃ W2, (w1.alloc (stO zeroR)).setRow w1.heap.size (stL r0).toArray = W2 := ⟨_, rfl⟩
  have HR2 := Lib.hid (setRow_heap _ _ _ (stL r0).toArray _ _ hnb)
  have HNB := Lib.hid hnb
  have HS2 : Hid (W2.heap.size = w1.heap.size + 1) := Lib.hid (by rw [← hW2]; simp)
  have HOT : Hid (∀ k, k ≠ w1.heap.size → W2.heap[k]? = (w1.alloc (stO zeroR)).heap[k]?) := Lib.hid (fun k hk => by rw [← hW2]; exact Go.setRow_other _ _ _ _ hk)
  have HB2 : Hid (Below w.heap.size w W2) := Lib.hid (by rw [← hW2]; exact below_setRow HB1.out (by have := HSZ.out; omega) _)
  have HOK2 : Hid (StOk W2 r0) := Lib.hid (by rw [← hW2]; exact HOK.out.keep (no_text HNB.out (by decide)) (fun j _ hj => Go.setRow_other _ _ _ _ hj))
  have HN2 : Hid (W2.heap[w.heap.size]? = some (stO zeroR)) := Lib.hid ((HOT.out _ (by have := HSZ.out; omega)).trans HN1.out)
  have HZ2 : Hid (W2.heap[w.heap.size + 1]? = some (.cells #[.bool false] 4)) := Lib.hid ((HOT.out _ (by have := HSZ.out; omega)).trans HZ1.out)
  change Fence.wide.fn _ ∧ CallsIn Fence.wide 5 Tryz.prog _ _ ((w1.alloc (stO zeroR)).setRow w1.heap.size (stL r0).toArray) _
  rw [hW2] at HR2 ⊢
  clear hnb hW2 HNB HB1 HOK HN1 HZ1
  refine ⟨trivial, (callsIn_wide.2 (parts_any _ _ _)).mono ?_⟩
  rintro e w3 ⟨rfl, rfl⟩
  obtain ⟨z0, z1, z2, z3⟩ := partsW_facts (str s) ⟨#[32]⟩ W2
  have HL2 := Lib.hid (Array.getElem?_eq_some_iff.1 HN2.out).1
  have HLZ := Lib.hid (Array.getElem?_eq_some_iff.1 HZ2.out).1
  have HLR := Lib.hid (Array.getElem?_eq_some_iff.1 HR2.out).1
  have HN3 := Lib.hid ((z3.block _ HL2.out).trans HN2.out)
  have HZ3 := Lib.hid ((z3.block _ HLZ.out).trans HZ2.out)
  have HR3 := Lib.hid ((z3.block _ HLR.out).trans HR2.out)
  have HOK3 := Lib.hid (HOK2.out.gr z3)
  have HB3 := Lib.hid (HB2.out.trans (z3.mono HB2.out.size))
  obtain ⟨W3, hW3⟩ : ∃ W3, partsW (str s) ⟨#[32]⟩ W2 = W3 := ⟨_, rfl⟩
  rw [hW3] at z0 z1 z2 HN3 HZ3 HR3 HOK3 HB3 ⊢
  have hs2 := HS2.out
  rw [hs2] at z0 z1 z2
  unfold partsV
  rw [hs2]
  have HS3 : Hid (W3.heap.size = w1.heap.size + 3) := Lib.hid z0
  clear z0 z3 hW3 hs2 HL2 HLZ HLR HN2 HZ2 HR2 HOK2 HB2 HS2 HOT
  gi_wp2_with fail
  have HPS := Lib.hid (parts_stops 5 (by decide) (w1.heap.size + 1) (w1.heap.size + 1 + 1) w1.heap.size W3.heap.size s [32] (by decide) HS.out
    (fun W' h => HV.out.gr (HB3.out.trans (h.below (m := w.heap.size) (by have := HSZ.out; omega) HB3.out.size)))
    (Nat.le_refl _) z1 z2 (by have := HS3.out; omega) (by omega))
  have HPL := Lib.hid (partsB_le HS.out)
  generalize partsB [32] s = L at *
  have h13 : w1.heap.size < W3.heap.size := by have := HS3.out; omega
  refine wpIn_rangeFunc_ownG rfl (by decide) (gf := 99) (lb := #[.pointer (some ⟨(w1.heap.size + 1), 0, none⟩), .pointer (some ⟨(w1.heap.size + 1) + 1, 0, none⟩)]) rfl trivial (enters_of Tryz.func99 (by kernel_rfl) rfl)
    HPS.out (fun h k => h.trans k) (bxK_b (Nat.le_refl _)) (Below.refl _ _) (fun _ => rfl)
    (fun (pre : List Nat) W => (∃ r : StR, W.heap[w1.heap.size]? = some (stO r) ∧ StOk W r ∧ accM L pre = some r.st) ∧ Bx w1.heap.size W3.heap.size W3 W)
    (fun c pre W => c = .ret ∧ accM L pre = none ∧ W.heap[w.heap.size]? = some (stO zeroR) ∧ W.heap[w.heap.size + 1]? = some (.cells #[.bool false] 4) ∧ Below w.heap.size w W)
    ?own ?ownX
    ⟨⟨r0, HR3.out, HOK3.out, by rw [HST.out]; rfl⟩, Bx.refl _ _ _⟩
    (fun (x : Nat) => { tmps := #[.string (str s), undef, .pointer (some ⟨w.heap.size, 0, none⟩), .pointer (some ⟨w.heap.size + 1, 0, none⟩), .pointer (some ⟨w1.heap.size, 0, none⟩), .int .i64 (x : Int), .string (str (L.getD x [])), undef, undef, .string (str s), .bool false, .bool false, undef, .bool false, .bool false, undef, stV r0, .string (str s), .func (.func 99) #[] #[.pointer (some ⟨w1.heap.size + 1, 0, none⟩), .pointer (some ⟨w1.heap.size + 1 + 1, 0, none⟩)], .int .i64 (x : Int), .string (str (L.getD x [])), undef, undef, undef, undef, undef, undef, undef, undef, undef, undef, undef, undef, undef, undef, undef, undef], defers := [] }) ?assign ?body ?done ?stop
  case own =>
    rintro pre W W' row ⟨⟨r, q1, q2, q3⟩, q4⟩ hg hr
    refine ⟨⟨r, (hg.block _ (Array.getElem?_eq_some_iff.1 q1).1 (fun e => by have := (hr _ e.symm).1; omega)).trans q1, q2.same (text_row hg fun r e => (hr r e).2), q3⟩, ?_⟩
    exact q4.grown hg q4.size (fun r e => .inr (hr r e).1)
  case ownX =>
    rintro c pre W W' row ⟨q1, q2, q3, q4, q5⟩ hg hr
    have hn3 := HB3.out.size
    have hsz := HSZ.out
    refine ⟨q1, q2, (hg.block _ (Array.getElem?_eq_some_iff.1 q3).1 (fun e => by have := (hr _ e.symm).1; omega)).trans q3, (hg.block _ (Array.getElem?_eq_some_iff.1 q4).1 (fun e => by have := (hr _ e.symm).1; have := HSZ.out; omega)).trans q4, q5.grown hg q5.size (fun k e => by have := (hr k e).1; omega)⟩
  case assign =>
    intro l x W K hK
    dsimp only [encP]
    gi_wp2
    exact hK
  case stop =>
    rintro D c pre W hD ⟨k, hk, rfl⟩ ⟨rfl, q2, q3, q4, q5⟩ hK
    have HAC : Hid (accM L (List.range L.length) = none) := Lib.hid (accM_stop q2 hk)
    have HQ3 := Lib.hid q3
    have HQ4 := Lib.hid q4
    have HQ5 := Lib.hid q5
    clear q2 q3 q4 q5
    have hlt : w.heap.size < D := by have := HB3.out.size; have := HSZ.out; omega
    have hlt2 : w.heap.size + 1 < D := by have := HSZ.out; omega
    have hx := (World.putObj_heap_other (w := W) (r := D) (o := .deferred none) (k := w.heap.size) (by omega)).trans HQ3.out
    have hx2 := (World.putObj_heap_other (w := W) (r := D) (o := .deferred none) (k := w.heap.size + 1) (by omega)).trans HQ4.out
    gi_wp2
    refine ⟨by simp, .inl ⟨_, _, rfl, run_takeDeferred hK, ?_⟩⟩
    refine ⟨_, results_cells2 rfl _ _ w.heap.size _ (stL zeroR).toArray _ _ rfl hx Tryz.underlying73 rfl info_st ⟨w.heap.size + 1, 0, none⟩ (.bool false) rfl (load_bool (by unfold World.cell?; rw [hx2]; rfl)), ?_⟩
    rw [HAC.out]
    exact MaybeE.no (HQ5.out.trans (belowK_b (w := W3) HB3.out.size W D _ _ hD hK rfl rfl))
  case done =>
    rintro D ys W hD rfl ⟨⟨r, q1, q2, q3⟩, q4⟩ hK
    have HQ1 := Lib.hid q1
    have HQ2 := Lib.hid q2
    have HQ3 := Lib.hid q3
    have HQ4 := Lib.hid q4
    have hn : W.heap[w.heap.size]? = some (stO zeroR) := (q4.block _ (by have := HB3.out.size; have := HSZ.out; omega) (by have := HSZ.out; omega)).trans HN3.out
    have hz : W.heap[w.heap.size + 1]? = some (.cells #[.bool false] 4) := (q4.block _ (by have := HSZ.out; omega) (by have := HSZ.out; omega)).trans HZ3.out
    have HZ := Lib.hid hz
    have HN := Lib.hid hn
    have HBW : Hid (Below w.heap.size w W) := Lib.hid (HB3.out.trans (q4.below (by have := HSZ.out; omega) HB3.out.size))
    clear q1 q2 q3 q4 hz hn
    have hq1 := HQ1.out
    have hn := HN.out
    have HSR := Lib.hid (setRow_heap _ _ _ (stL r).toArray _ _ hn)
    have hz2 := (Go.setRow_other W w.heap.size (w.heap.size + 1) (stL r).toArray (by omega)).trans HZ.out
    have HKB := Lib.hid (below_setRow HBW.out (Nat.le_refl _) (stL r).toArray)
    have HKO := Lib.hid (HQ2.out.keep (w' := W.setRow w.heap.size (stL r).toArray) (no_text hn (by decide)) (fun j _ hj => Go.setRow_other _ _ _ _ hj))
    have HKD := Lib.hid ((Go.setRow_other W w.heap.size D (stL r).toArray (by have := HB3.out.size; have := HSZ.out; omega)).trans hK)
    obtain ⟨W5, hW5⟩ : ∃ W5, W.setRow w.heap.size (stL r).toArray = W5 := ⟨_, rfl⟩
    rw [hW5] at HSR hz2 HKB HKO HKD
    have HZ2 := Lib.hid hz2
    have HW5 := Lib.hid hW5
    clear hW5 hz2 hK
    gi_wp2_with (first
      | (refine wpListIn_load_row rfl 73 _ rfl w1.heap.size rfl _ _ _ _ hq1 Tryz.underlying73 rfl info_st ?_)
      | (refine wpListIn_store_row rfl 73 _ _ rfl w.heap.size (stL r).toArray rfl rfl _ _ hn info_st rfl (st_one _) ?_; rw [HW5.out]; clear hn hq1; have hz2 := HZ2.out; have hc2 : W5.cell? ⟨w.heap.size + 1, 0, none⟩ = some (.bool false) := by { unfold World.cell?; rw [hz2]; rfl }; have hf2 := ver_frozen hz2 0; clear hz2))
    have hlt : w.heap.size + 1 < D := by have := HS3.out; have := HSZ.out; omega
    have e1 : (W5.setCell ⟨w.heap.size + 1, 0, none⟩ (.bool true)).heap[D]? = some (.deferred (some [])) := (Below.heap_setCell W5 ⟨w.heap.size + 1, 0, none⟩ (.bool true) D (by show D ≠ w.heap.size + 1; omega)).trans HKD.out
    have e2 : (W5.setCell ⟨w.heap.size + 1, 0, none⟩ (.bool true)).heap[w.heap.size]? = some (stO r) := (Below.heap_setCell W5 ⟨w.heap.size + 1, 0, none⟩ (.bool true) w.heap.size (by show w.heap.size ≠ w.heap.size + 1; omega)).trans HSR.out
    have e3 : (W5.setCell ⟨w.heap.size + 1, 0, none⟩ (.bool true)).cell? ⟨w.heap.size + 1, 0, none⟩ = some (.bool true) := World.cell?_setCell_same _ _ _ hc2
    have e4 : Below w.heap.size w (W5.setCell ⟨w.heap.size + 1, 0, none⟩ (.bool true)) := HKB.out.setCell (by show w.heap.size ≤ w.heap.size + 1; omega) _
    have e5 : StOk (W5.setCell ⟨w.heap.size + 1, 0, none⟩ (.bool true)) r := HKO.out.keep (no_text HZ2.out (by decide)) (fun j _ hj => Below.heap_setCell _ _ _ _ hj)
    refine ⟨by simp, .inl ⟨_, _, rfl, run_takeDeferred e1, ?_⟩⟩
    refine ⟨_, results_cells2 rfl _ _ w.heap.size _ (stL r).toArray _ _ rfl ((World.putObj_heap_other (by omega)).trans e2) Tryz.underlying73 rfl info_st ⟨w.heap.size + 1, 0, none⟩ (.bool true) rfl (load_bool ((World.cell?_of_block (World.putObj_heap_other (by show w.heap.size + 1 ≠ D; omega))).trans e3)), ?_⟩
    rw [HQ3.out]
    exact MaybeE.yes (e4.trans (belowK_b (w := W3) HB3.out.size _ D _ _ hD e1 rfl rfl)) rfl (e5.same fun b hb => World.putObj_heap_other (fun e => by
      obtain ⟨cs, fz, h⟩ := hb
      rw [e, e1] at h
      cases h))
  case body =>
    rintro l pre x W ⟨⟨r, q1, q2, q3⟩, q4⟩ hlt
    have HBW : Hid (Below w.heap.size w W) := Lib.hid (HB3.out.trans (q4.below (by have := HSZ.out; omega) HB3.out.size))
    have HN := Lib.hid ((q4.block w.heap.size (by have := HB3.out.size; have := HSZ.out; omega) (by have := HSZ.out; omega)).trans HN3.out)
    have HZ := Lib.hid ((q4.block (w.heap.size + 1) (by have := HSZ.out; omega) (by have := HSZ.out; omega)).trans HZ3.out)
    have HCM := Lib.hid (pcomparison_any (L.getD x []) W (HV.out.gr HBW.out) (Nat.le_trans (HPL.out x) (by decide)))
    have HAC : Hid (accM L (pre ++ [x]) = if x = 16 then none else (compM (L.getD x [])).map (meetS r.st)) := Lib.hid (by rw [accM_snoc, q3]; rfl)
    have HQ1 := Lib.hid q1
    have HQ2 := Lib.hid q2
    have HQ4 := Lib.hid q4
    have HWS : Hid (W3.heap.size ≤ W.heap.size) := Lib.hid q4.size
    have HL0 : Hid (w.heap.size < W.heap.size) := Lib.hid (Array.getElem?_eq_some_iff.1 HN.out).1
    have HL1 : Hid (w.heap.size + 1 < W.heap.size) := Lib.hid (Array.getElem?_eq_some_iff.1 HZ.out).1
    have HL2 : Hid (w1.heap.size < W.heap.size) := Lib.hid (Array.getElem?_eq_some_iff.1 q1).1
    clear q1 q2 q3 q4 z1 z2 HV HN3 HZ3 HR3 HOK3 HPS HST hlt h13 k1 k2
    generalize compM (L.getD x []) = cm at *
    generalize hpx : str (L.getD x []) = px at *
    clear hpx
    gi_wp2_with fail
    refine ⟨trivial, ((callsIn_wide.2 HCM.out).inRound l).mono ?_⟩
    rintro e W4 ⟨hb4, hno, hyes⟩
    have HB4 := Lib.hid hb4
    have HW4 : Hid (W.heap.size ≤ W4.heap.size) := Lib.hid hb4.size
    have HN4 := Lib.hid ((hb4.block _ HL0.out).trans HN.out)
    have HZ4 := Lib.hid ((hb4.block _ HL1.out).trans HZ.out)
    have HQ14 := Lib.hid ((hb4.block _ HL2.out).trans HQ1.out)
    have HQ24 := Lib.hid (HQ2.out.gr hb4)
    clear hb4
    rcases cm with _ | st1
    · obtain rfl := hno rfl
      clear hno hyes
      have hnb := heap_alloc_new W4 (stO zeroR)
      have HRR := Lib.hid (setRow_heap _ _ _ (stL zeroR).toArray _ _ hnb)
      have HOT : Hid (∀ k, k < W4.heap.size → ((W4.alloc (stO zeroR)).setRow W4.heap.size (stL zeroR).toArray).heap[k]? = W4.heap[k]?) := Lib.hid (fun k hk => (Go.setRow_other _ _ _ _ (by omega)).trans (by rw [heap_alloc_old W4 _ hk]))
      have HBB : Hid (Below W4.heap.size W4 ((W4.alloc (stO zeroR)).setRow W4.heap.size (stL zeroR).toArray)) := Lib.hid (below_setRow ((Below.refl _ W4).alloc (Nat.le_refl _) _) (Nat.le_refl _) _)
      have HS6 : Hid (((W4.alloc (stO zeroR)).setRow W4.heap.size (stL zeroR).toArray).heap.size = W4.heap.size + 1) := Lib.hid (by simp)
      obtain ⟨W6, hW6⟩ : ∃ W6, (W4.alloc (stO zeroR)).setRow W4.heap.size (stL zeroR).toArray = W6 := ⟨_, rfl⟩
      rw [hW6] at HRR HOT HBB HS6
      have HW6 := Lib.hid hW6
      have HN6 := Lib.hid ((HOT.out _ (by have := HL0.out; have := HW4.out; omega)).trans HN4.out)
      have HZ6 := Lib.hid ((HOT.out _ (by have := HL1.out; have := HW4.out; omega)).trans HZ4.out)
      have HNB := Lib.hid hnb
      clear hW6 hnb
      have HSR := Lib.hid (setRow_heap _ _ _ (stL zeroR).toArray _ _ HN6.out)
      have hz7 := (Go.setRow_other W6 w.heap.size (w.heap.size + 1) (stL zeroR).toArray (by omega)).trans HZ6.out
      have HB7 : Hid (Below w.heap.size w (W6.setRow w.heap.size (stL zeroR).toArray)) := Lib.hid (below_setRow ((HBW.out.trans (HB4.out.mono HBW.out.size)).trans (HBB.out.mono (by have := HL0.out; have := HW4.out; omega))) (Nat.le_refl _) _)
      have HK7 : Hid (KeepsFrom W3.heap.size W (W6.setRow w.heap.size (stL zeroR).toArray)) := Lib.hid (((keepsB HB4.out).trans (keepsB HBB.out)).trans (keepsSet (by have := HS3.out; have := HSZ.out; omega)))
      obtain ⟨W7, hW7⟩ : ∃ W7, W6.setRow w.heap.size (stL zeroR).toArray = W7 := ⟨_, rfl⟩
      rw [hW7] at HSR hz7 HB7 HK7
      have HZ7 := Lib.hid hz7
      have HW7 := Lib.hid hW7
      clear hW7 hz7
      gi_wp2_with (first
        | (have hnb := HNB.out; refine wpListIn_store_row rfl 73 _ _ rfl W4.heap.size (stL zeroR).toArray rfl rfl _ _ hnb info_st rfl (st_one _) ?_; change wpListIn _ _ _ _ _ _ _ ((W4.alloc (stO zeroR)).setRow W4.heap.size (stL zeroR).toArray); rw [HW6.out]; clear HNB hnb HW6)
        | (have hn := HN6.out; refine wpListIn_store_row rfl 73 _ _ rfl w.heap.size (stL zeroR).toArray rfl rfl _ _ hn info_st rfl (st_one _) ?_; rw [HW7.out]; clear hn; have hz2 := HZ7.out; have hc2 : W7.cell? ⟨w.heap.size + 1, 0, none⟩ = some (.bool false) := by { unfold World.cell?; rw [hz2]; rfl }; have hf2 := ver_frozen hz2 0; clear hz2))
      have e2 : (W7.setCell ⟨w.heap.size + 1, 0, none⟩ (.bool false)).heap[w.heap.size]? = some (stO zeroR) := (Below.heap_setCell W7 ⟨w.heap.size + 1, 0, none⟩ (.bool false) w.heap.size (by show w.heap.size ≠ w.heap.size + 1; omega)).trans HSR.out
      have e3 : (W7.setCell ⟨w.heap.size + 1, 0, none⟩ (.bool false)).heap[w.heap.size + 1]? = some (.cells #[.bool false] 4) := setCell_row HZ7.out 0 _
      exact ⟨HK7.out.trans (keepsCell (by show w.heap.size + 1 < W3.heap.size; have := HS3.out; have := HSZ.out; omega)), rfl, by rw [HAC.out]; split <;> rfl, e2, e3, HB7.out.setCell (by show w.heap.size ≤ w.heap.size + 1; omega) _⟩
    · obtain ⟨r1, rfl, hst1, hok1⟩ := hyes st1 rfl
      have HST1 := Lib.hid hst1
      have HOK1 := Lib.hid hok1
      clear hno hyes hst1 hok1
      by_cases h16 : x = 16
      · subst h16
        have hnb := heap_alloc_new W4 (stO zeroR)
        have HRR := Lib.hid (setRow_heap _ _ _ (stL r1).toArray _ _ hnb)
        have HOT : Hid (∀ k, k < W4.heap.size → ((W4.alloc (stO zeroR)).setRow W4.heap.size (stL r1).toArray).heap[k]? = W4.heap[k]?) := Lib.hid (fun k hk => (Go.setRow_other _ _ _ _ (by omega)).trans (by rw [heap_alloc_old W4 _ hk]))
        have HBB : Hid (Below W4.heap.size W4 ((W4.alloc (stO zeroR)).setRow W4.heap.size (stL r1).toArray)) := Lib.hid (below_setRow ((Below.refl _ W4).alloc (Nat.le_refl _) _) (Nat.le_refl _) _)
        have HS6 : Hid (((W4.alloc (stO zeroR)).setRow W4.heap.size (stL r1).toArray).heap.size = W4.heap.size + 1) := Lib.hid (by simp)
        obtain ⟨W6, hW6⟩ : ∃ W6, (W4.alloc (stO zeroR)).setRow W4.heap.size (stL r1).toArray = W6 := ⟨_, rfl⟩
        rw [hW6] at HRR HOT HBB HS6
        have HW6 := Lib.hid hW6
        have HN6 := Lib.hid ((HOT.out _ (by have := HL0.out; have := HW4.out; omega)).trans HN4.out)
        have HZ6 := Lib.hid ((HOT.out _ (by have := HL1.out; have := HW4.out; omega)).trans HZ4.out)
        have HNB := Lib.hid hnb
        clear hW6 hnb
        have HSR := Lib.hid (setRow_heap _ _ _ (stL zeroR).toArray _ _ HN6.out)
        have hz7 := (Go.setRow_other W6 w.heap.size (w.heap.size + 1) (stL zeroR).toArray (by omega)).trans HZ6.out
        have HB7 : Hid (Below w.heap.size w (W6.setRow w.heap.size (stL zeroR).toArray)) := Lib.hid (below_setRow ((HBW.out.trans (HB4.out.mono HBW.out.size)).trans (HBB.out.mono (by have := HL0.out; have := HW4.out; omega))) (Nat.le_refl _) _)
        have HK7 : Hid (KeepsFrom W3.heap.size W (W6.setRow w.heap.size (stL zeroR).toArray)) := Lib.hid (((keepsB HB4.out).trans (keepsB HBB.out)).trans (keepsSet (by have := HS3.out; have := HSZ.out; omega)))
        obtain ⟨W7, hW7⟩ : ∃ W7, W6.setRow w.heap.size (stL zeroR).toArray = W7 := ⟨_, rfl⟩
        rw [hW7] at HSR hz7 HB7 HK7
        have HZ7 := Lib.hid hz7
        have HW7 := Lib.hid hW7
        clear hW7 hz7
        gi_wp2_with (first
          | (have hnb := HNB.out; refine wpListIn_store_row rfl 73 _ _ rfl W4.heap.size (stL r1).toArray rfl rfl _ _ hnb info_st rfl (st_one _) ?_; change wpListIn _ _ _ _ _ _ _ ((W4.alloc (stO zeroR)).setRow W4.heap.size (stL r1).toArray); rw [HW6.out]; clear HNB hnb HW6)
          | (have hn := HN6.out; refine wpListIn_store_row rfl 73 _ _ rfl w.heap.size (stL zeroR).toArray rfl rfl _ _ hn info_st rfl (st_one _) ?_; rw [HW7.out]; clear hn; have hz2 := HZ7.out; have hc2 : W7.cell? ⟨w.heap.size + 1, 0, none⟩ = some (.bool false) := by { unfold World.cell?; rw [hz2]; rfl }; have hf2 := ver_frozen hz2 0; clear hz2))
        have e2 : (W7.setCell ⟨w.heap.size + 1, 0, none⟩ (.bool false)).heap[w.heap.size]? = some (stO zeroR) := (Below.heap_setCell W7 ⟨w.heap.size + 1, 0, none⟩ (.bool false) w.heap.size (by show w.heap.size ≠ w.heap.size + 1; omega)).trans HSR.out
        have e3 : (W7.setCell ⟨w.heap.size + 1, 0, none⟩ (.bool false)).heap[w.heap.size + 1]? = some (.cells #[.bool false] 4) := setCell_row HZ7.out 0 _
        exact ⟨HK7.out.trans (keepsCell (by show w.heap.size + 1 < W3.heap.size; have := HS3.out; have := HSZ.out; omega)), rfl, by rw [HAC.out]; rfl, e2, e3, HB7.out.setCell (by show w.heap.size ≤ w.heap.size + 1; omega) _⟩
      · have hd16 : ((x : Int) == 16) = false := beq_eq_false_iff_ne.2 (by omega)
        have HAC2 : Hid (accM L (pre ++ [x]) = some (meetS r.st r1.st)) := Lib.hid (by rw [HAC.out, if_neg h16, HST1.out]; rfl)
        clear h16
        have hnb := heap_alloc_new W4 (stO zeroR)
        have HRR := Lib.hid (setRow_heap _ _ _ (stL r1).toArray _ _ hnb)
        have HOT : Hid (∀ k, k < W4.heap.size → ((W4.alloc (stO zeroR)).setRow W4.heap.size (stL r1).toArray).heap[k]? = W4.heap[k]?) := Lib.hid (fun k hk => (Go.setRow_other _ _ _ _ (by omega)).trans (by rw [heap_alloc_old W4 _ hk]))
        have HBB : Hid (Below W4.heap.size W4 ((W4.alloc (stO zeroR)).setRow W4.heap.size (stL r1).toArray)) := Lib.hid (below_setRow ((Below.refl _ W4).alloc (Nat.le_refl _) _) (Nat.le_refl _) _)
        have HS6 : Hid (((W4.alloc (stO zeroR)).setRow W4.heap.size (stL r1).toArray).heap.size = W4.heap.size + 1) := Lib.hid (by simp)
        obtain ⟨W6, hW6⟩ : ∃ W6, (W4.alloc (stO zeroR)).setRow W4.heap.size (stL r1).toArray = W6 := ⟨_, rfl⟩
        rw [hW6] at HRR HOT HBB HS6
        have HW6 := Lib.hid hW6
        have HN6 := Lib.hid ((HOT.out _ (by have := HL0.out; have := HW4.out; omega)).trans HN4.out)
        have HZ6 := Lib.hid ((HOT.out _ (by have := HL1.out; have := HW4.out; omega)).trans HZ4.out)
        have HNB := Lib.hid hnb
        clear hW6 hnb
        have HQ16 := Lib.hid ((HOT.out _ (by have := HL2.out; have := HW4.out; omega)).trans HQ14.out)
        have HR6 := Lib.hid (HQ24.out.gr HBB.out)
        have HO6 := Lib.hid (HOK1.out.gr HBB.out)
        have HME := Lib.hid (pmeet_any r r1 W6 HR6.out HO6.out)
        have HMS := Lib.hid (meetR_st r r1)
        have HMO := Lib.hid (meetR_ok HR6.out HO6.out)
        generalize meetR r r1 = rm at *
        have hq16 := HQ16.out
        have hrr := HRR.out
        gi_wp2_with (first
          | (have hnb := HNB.out; refine wpListIn_store_row rfl 73 _ _ rfl W4.heap.size (stL r1).toArray rfl rfl _ _ hnb info_st rfl (st_one _) ?_; change wpListIn _ _ _ _ _ _ _ ((W4.alloc (stO zeroR)).setRow W4.heap.size (stL r1).toArray); rw [HW6.out]; clear HNB hnb HW6)
          | (refine wpListIn_load_row rfl 73 _ rfl w1.heap.size rfl _ _ _ _ hq16 Tryz.underlying73 rfl info_st ?_)
          | (refine wpListIn_load_row rfl 73 _ rfl W4.heap.size rfl _ _ _ _ hrr Tryz.underlying73 rfl info_st ?_)
          | (refine ⟨trivial, ?_⟩; gi_at_call 37; refine ((callsIn_wide.2 HME.out).inRound l).mono ?_; rintro e W8 ⟨rfl, hg8⟩; refine Hid.out ?_))
        refine Lib.hid ?_
        have hb8 := hg8.below
        have hl16 := (Array.getElem?_eq_some_iff.1 hq16).1
        have hq18 := (hb8.block _ hl16).trans hq16
        have HKK : Hid (KeepsFrom W3.heap.size W (W8.setRow w1.heap.size (stL rm).toArray)) := Lib.hid ((((keepsB HB4.out).trans (keepsB HBB.out)).trans (keepsB hb8)).trans (keepsSet (by have := HS3.out; omega)))
        have HBX : Hid (Bx w1.heap.size W3.heap.size W (W8.setRow w1.heap.size (stL rm).toArray)) := Lib.hid (by
          have hw := HWS.out
          have h4 := HW4.out
          have h6 := HBB.out.size
          have h8 := hb8.size
          refine (((Bx.of_below (HB4.out.mono hw)).trans (Bx.of_below (HBB.out.mono (by omega)))).trans (Bx.of_below (hb8.mono (by omega)))).trans ?_
          exact ⟨rfl, rfl, rfl, by simp, fun k _ hk => Go.setRow_other _ _ _ _ hk⟩)
        have HRO : Hid (StOk (W8.setRow w1.heap.size (stL rm).toArray) rm) := Lib.hid ((HMO.out.gr hb8).keep (no_text hq18 (by decide)) (fun j _ hj => Go.setRow_other _ _ _ _ hj))
        have HRS := Lib.hid (setRow_heap _ _ _ (stL rm).toArray _ _ hq18)
        clear hg8 hb8 hl16 hq16 hrr
        gi_wp2_with (refine wpListIn_store_row rfl 73 _ _ rfl w1.heap.size (stL rm).toArray rfl rfl _ _ hq18 info_st rfl (st_one _) ?_)
        exact ⟨HKK.out, HBX.out, ⟨rm, HRS.out, HRO.out, by rw [HAC2.out, HMS.out]⟩, HQ4.out.trans HBX.out⟩
set_option maxHeartbeats 1000000 in
/-- what an alternative says -/
theorem palt_any (s : B) (w : World) (hv : Vw w) (hs : s.length ≤ 128) : Calls Tryz.prog 71 #[.string (str s)] w (MaybeE (altM s) w) := by
  unfold altM
  by_cases h1 : s = [42]
  · subst h1; exact palt_star w
  · rw [if_neg h1]
    by_cases h2 : s = [33]
    · subst h2; exact palt_none w
    · rw [if_neg h2]
      exact (callsIn_wide (n := 6)).1 (palt_in s w hv hs h1 h2)
end SpanC
end Go.Proofs.YtapikdgncdcneaaGreatDoor
namespace Go.Proofs.YtapikdgncdcneaaGreatDoor
open Go.RowKit Go.Shelf
set_option linter.unusedVariables false
set_option linter.unusedSimpArgs false
namespace SpanC
open VerM SpanM StrC TextR VerC RoundR
attribute [local go_sem] Oper.semAt_some

theorem results_two {P : Program} {fn : Func} {p q : Tmp} {ta tb : TypeId} (h : fn.results = #[.cell p ta, .cell q tb]) (tmps : Array Value) (w : World)
    (a : Addr) (u : Value) (hp : tmps.getD p undef = .pointer (some a)) (ha : (loadVar ta a).run P w = .ok u w)
    (b : Addr) (v : Value) (hq : tmps.getD q undef = .pointer (some b)) (hc : (loadVar tb b).run P w = .ok v w) :
    (results fn tmps).run P w = .ok (.tuple #[u, v]) w := by
  have hp' : tmps[p]?.getD undef = .pointer (some a) := by simpa using hp
  have hq' : tmps[q]?.getD undef = .pointer (some b) := by simpa using hq
  simp [results, h, hp', hq', asAddr, ha, hc]
theorem load_row {w : World} {a : Addr} {v : Value} (hc : w.cell? a = some v) : (loadVar 54 a).run Tryz.prog w = .ok v w := by simp [loadVar, go_sem, hc]
theorem load_no {w : World} {a : Addr} {v : Value} (hc : w.cell? a = some v) : (loadVar 25 a).run Tryz.prog w = .ok v w := by simp [loadVar, go_sem, hc]
/-- what the first alternatives say -/
def accR (L : List B) (pre : List Nat) : Option (List St) := pre.foldl (fun o k => if k = 16 then none else o.bind fun a => (altM (L.getD k [])).map fun t => a ++ [t]) (some [])
theorem accR_snoc (L : List B) (pre : List Nat) (k : Nat) : accR L (pre ++ [k]) = if k = 16 then none else (accR L pre).bind fun a => (altM (L.getD k [])).map fun t => a ++ [t] := by
  unfold accR; rw [List.foldl_append]; rfl
theorem accR_none {L : List B} : ∀ (l : List Nat), l.foldl (fun o k => if k = 16 then none else o.bind fun a => (altM (L.getD k [])).map fun t => a ++ [t]) (none : Option (List St)) = none
  | [] => rfl
  | k :: l => by
    rw [List.foldl_cons]
    have : (if k = 16 then none else (none : Option (List St)).bind fun a => (altM (L.getD k [])).map fun t => a ++ [t]) = none := by split <;> rfl
    rw [this]; exact accR_none l
theorem accR_stop {L : List B} {k n : Nat} (h : accR L (List.range k) = none) (hk : k ≤ n) : accR L (List.range n) = none := by
  obtain ⟨m, rfl⟩ : ∃ m, n = k + m := ⟨n - k, by omega⟩
  rw [List.range_add]
  unfold accR at h ⊢
  rw [List.foldl_append, h]
  exact accR_none _
/-- what a span's text says: its alternatives -/
def readO (s : B) : Option (List St) := if s.length ≤ 128 then accR (partsB orB s) (List.range (partsB orB s).length) else none
/-- how read ends -/
def ReadSE (o : Option (List St)) (w : World) (e : Ending) (w' : World) : Prop := Below w.heap.size w w' ∧ (o = none → e = .returned (.tuple #[.slice none 0 0, .int .i64 80])) ∧
  ∀ l, o = some l → ∃ u R, e = .returned (.tuple #[u, .int .i64 0]) ∧ StRow w' w.heap.size u R ∧ AllOk w' R ∧ R.map StR.st = formM l
theorem partsO_le {s : B} (hs : s.length ≤ 128) (k : Nat) : ((partsB orB s).getD k []).length ≤ 128 := by
  by_cases hk : k < (partsB orB s).length
  · have := partsB_mem (d := orB) (by decide) s _ (List.getElem_mem hk)
    rw [List.getD_eq_getElem?_getD, List.getElem?_eq_getElem hk]
    exact Nat.le_trans this hs
  · rw [List.getD_eq_getElem?_getD, List.getElem?_eq_none (by omega)]; simp
theorem row_putObj {w : World} {B : Nat} {v : Value} {L : List StR} (h : StRow w B v L) {D : Nat} {o : Obj} (o' : Obj) (hD : w.heap[D]? = some o) (ho : o.isCells = false) : StRow (w.putObj D o') B v L := by
  unfold StRow at h ⊢
  exact ownsRow_putObj h o' hD ho
set_option maxHeartbeats 2000000 in
set_option maxRecDepth 100000 in
theorem pread_long (s : B) (w : World) (hl : s.length ≤ 9223372036854775807) (hs : 128 < s.length) : Calls Tryz.prog 47 #[.string (str s)] w (ReadSE none w) := by
  have hz : (str s).size = s.length := str_size s
  obtain ⟨n, hn⟩ : ∃ n, s.length = n := ⟨_, rfl⟩
  rw [hn] at hl hs hz
  have hd : decide ((128 : Int) < (n : Int)) = true := decide_eq_true (by omega)
  have hd2 : decide (128 < n) = true := decide_eq_true hs
  have HB0 : Hid (Below w.heap.size w ((w.alloc (.cells #[.slice none 0 0] 54)).alloc (.cells #[.int .i64 0] 25))) := Lib.hid (((Below.refl _ w).alloc (Nat.le_refl _) _).alloc (by simp) _)
  have b0 := (heap_alloc_old (w.alloc (.cells #[.slice none 0 0] 54)) (.cells #[.int .i64 0] 25) (r := w.heap.size) (by simp)).trans (heap_alloc_new w (.cells #[.slice none 0 0] 54))
  have b1 := heap_alloc_new (w.alloc (.cells #[.slice none 0 0] 54)) (.cells #[.int .i64 0] 25)
  rw [World.size_alloc] at b1
  generalize str s = t at *
  clear hn
  obtain ⟨W, hW⟩ : ∃ W, (w.alloc (.cells #[.slice none 0 0] 54)).alloc (.cells #[.int .i64 0] 25) = W := ⟨_, rfl⟩
  rw [hW] at HB0 b0 b1
  have HW := Lib.hid hW
  have c0 : W.cell? ⟨w.heap.size, 0, none⟩ = some (.slice none 0 0) := by unfold World.cell?; rw [b0]; rfl
  have c1 : W.cell? ⟨w.heap.size + 1, 0, none⟩ = some (.int .i64 0) := by unfold World.cell?; rw [b1]; rfl
  have f0 := ver_frozen b0 0
  have f1 := ver_frozen b1 0
  clear hW b0 b1
  go_enter Tryz.func47, Tryz.ntmps47
  go_upto_region 1 with fail
  rw [HW.out]
  go_wp2_with fail
  have e1 : ((W.setCell ⟨w.heap.size, 0, none⟩ (.slice none 0 0)).setCell ⟨w.heap.size + 1, 0, none⟩ (.int .i64 80)).cell? ⟨w.heap.size + 1, 0, none⟩ = some (.int .i64 80) := World.cell?_setCell_same _ _ _ (by rw [World.cell?_setCell_other _ _ _ _ (by simp)]; exact c1)
  have e0 : ((W.setCell ⟨w.heap.size, 0, none⟩ (.slice none 0 0)).setCell ⟨w.heap.size + 1, 0, none⟩ (.int .i64 80)).cell? ⟨w.heap.size, 0, none⟩ = some (.slice none 0 0) := by
    rw [World.cell?_setCell_other _ _ _ _ (by simp)]; exact World.cell?_setCell_same _ _ _ c0
  refine bodyPost_ret (results_two rfl _ _ ⟨w.heap.size, 0, none⟩ _ rfl (load_row e0) ⟨w.heap.size + 1, 0, none⟩ _ rfl (load_no e1)) rfl ?_
  exact ⟨(HB0.out.setCell (Nat.le_refl _) _).setCell (by show w.heap.size ≤ w.heap.size + 1; omega) _, fun _ => rfl, fun l h => by cases h⟩
set_option maxHeartbeats 16000000 in
set_option maxRecDepth 100000 in
theorem pread_in (s : B) (w : World) (hv : Vw w) (hs : s.length ≤ 128) : CallsIn Fence.wide 6 Tryz.prog 47 #[.string (str s)] w (ReadSE (accR (partsB orB s) (List.range (partsB orB s).length)) w) := by
  obtain ⟨i0, hi, hz0, hz1, hz2⟩ := info_parts info_st3
  have hz : (str s).size = s.length := str_size s
  have HB0 : Hid (Below w.heap.size w (((w.alloc (.cells #[.slice none 0 0] 54)).alloc (.cells #[.int .i64 0] 25)).alloc (.cells #[.slice none 0 0] 54))) := Lib.hid ((((Below.refl _ w).alloc (Nat.le_refl _) _).alloc (by simp) _).alloc (by simp; omega) _)
  have b0 := (heap_alloc_old ((w.alloc (.cells #[.slice none 0 0] 54)).alloc (.cells #[.int .i64 0] 25)) (.cells #[.slice none 0 0] 54) (r := w.heap.size) (by simp; omega)).trans ((heap_alloc_old (w.alloc (.cells #[.slice none 0 0] 54)) (.cells #[.int .i64 0] 25) (r := w.heap.size) (by simp)).trans (heap_alloc_new w (.cells #[.slice none 0 0] 54)))
  have b1 := heap_alloc_new (w.alloc (.cells #[.slice none 0 0] 54)) (.cells #[.int .i64 0] 25)
  rw [World.size_alloc] at b1
  have b1 := (heap_alloc_old ((w.alloc (.cells #[.slice none 0 0] 54)).alloc (.cells #[.int .i64 0] 25)) (.cells #[.slice none 0 0] 54) (r := w.heap.size + 1) (by simp)).trans b1
  have b2 := heap_alloc_new ((w.alloc (.cells #[.slice none 0 0] 54)).alloc (.cells #[.int .i64 0] 25)) (.cells #[.slice none 0 0] 54)
  rw [World.size_alloc, World.size_alloc] at b2
  have HS0 : Hid ((((w.alloc (.cells #[.slice none 0 0] 54)).alloc (.cells #[.int .i64 0] 25)).alloc (.cells #[.slice none 0 0] 54)).heap.size = w.heap.size + 3) := Lib.hid (by simp)
  have hd : decide ((128 : Int) < (s.length : Int)) = false := decide_eq_false (by omega)
  have hd2 : decide (128 < s.length) = false := decide_eq_false (by omega)
  have HV := Lib.hid hv
  have HS := Lib.hid hs
  obtain ⟨W2, hW2⟩ : ∃ W2, ((w.alloc (.cells #[.slice none 0 0] 54)).alloc (.cells #[.int .i64 0] 25)).alloc (.cells #[.slice none 0 0] 54) = W2 := ⟨_, rfl⟩
  rw [hW2] at HB0 b0 b1 b2 HS0
  have HW2 := Lib.hid hW2
  have HN0 := Lib.hid b0
  have HN1 := Lib.hid b1
  have HN2 := Lib.hid b2
  clear hv hs hW2 b0 b1 b2
  refine callsIn_of_wp_marks Tryz.func47 rfl trivial ?_ rfl
  simp only [Tryz.ntmps47, List.size_toArray, List.length_cons, List.length_nil, Nat.reduceAdd, Nat.reduceSub, Array.replicate_succ, Array.replicate_zero, List.push_toArray, List.append_toArray, List.nil_append, List.cons_append]
  gi_wp2_with fail
  change Fence.wide.fn _ ∧ CallsIn Fence.wide 5 Tryz.prog _ _ (((w.alloc (.cells #[.slice none 0 0] 54)).alloc (.cells #[.int .i64 0] 25)).alloc (.cells #[.slice none 0 0] 54)) _
  rw [HW2.out]
  clear HW2
  refine ⟨trivial, (callsIn_wide.2 (parts_any _ _ _)).mono ?_⟩
  rintro e w3 ⟨rfl, rfl⟩
  obtain ⟨z0, z1, z2, z3⟩ := partsW_facts (str s) ⟨#[32, 124, 124, 32]⟩ W2
  have HK0 := Lib.hid ((z3.block _ (Array.getElem?_eq_some_iff.1 HN0.out).1).trans HN0.out)
  have HK1 := Lib.hid ((z3.block _ (Array.getElem?_eq_some_iff.1 HN1.out).1).trans HN1.out)
  have HK2 := Lib.hid ((z3.block _ (Array.getElem?_eq_some_iff.1 HN2.out).1).trans HN2.out)
  have HB3 := Lib.hid (HB0.out.trans (z3.mono HB0.out.size))
  obtain ⟨W3, hW3⟩ : ∃ W3, partsW (str s) ⟨#[32, 124, 124, 32]⟩ W2 = W3 := ⟨_, rfl⟩
  rw [hW3] at z0 z1 z2 HK0 HK1 HK2 HB3 ⊢
  have hs2 := HS0.out
  rw [hs2] at z0 z1 z2
  unfold partsV
  rw [hs2]
  have HS3 : Hid (W3.heap.size = w.heap.size + 5) := Lib.hid z0
  clear z0 z3 hW3 hs2 HN0 HN1 HN2 HS0 HB0
  gi_wp2_with fail
  have HPS := Lib.hid (parts_stops 5 (by decide) (w.heap.size + 3) (w.heap.size + 3 + 1) (w.heap.size + 2) W3.heap.size s orB (by decide) HS.out
    (fun W' h => HV.out.gr (HB3.out.trans (h.below (m := w.heap.size) (by omega) HB3.out.size)))
    (Nat.le_refl _) z1 z2 (by have := HS3.out; omega) (by omega))
  have HPL := Lib.hid (partsO_le HS.out)
  have HLL : Hid ((partsB orB s).length ≤ 129) := Lib.hid (Nat.le_trans (partsB_len (by decide) s) (by have := HS.out; omega))
  generalize partsB orB s = L at *
  clear z1 z2
  refine wpIn_rangeFunc_ownG rfl (by decide) (gf := 99) (lb := #[.pointer (some ⟨(w.heap.size + 3), 0, none⟩), .pointer (some ⟨(w.heap.size + 3) + 1, 0, none⟩)]) rfl trivial (enters_of Tryz.func99 (by kernel_rfl) rfl)
    HPS.out (fun h k => h.trans k) (bxK_b (Nat.le_refl _)) (Below.refl _ _) (fun _ => rfl)
    (fun (pre : List Nat) W => (∃ (v : Value) (M : List StR), Boxed W (w.heap.size + 2) 54 v ∧ StRow W W3.heap.size v M ∧ AllOk W M ∧ accR L pre = some (M.map StR.st) ∧ M.length = pre.length) ∧ Bx (w.heap.size + 2) W3.heap.size W3 W)
    (fun c pre W => c = .ret ∧ accR L pre = none ∧ W.heap[w.heap.size]? = some (.cells #[.slice none 0 0] 54) ∧ W.heap[w.heap.size + 1]? = some (.cells #[.int .i64 80] 25) ∧ Below w.heap.size w W)
    ?own ?ownX
    ⟨⟨.slice none 0 0, [], HK2.out, World.ownsRow_nil _ _ _ _, fun x h => (by cases h), rfl, rfl⟩, Bx.refl _ _ _⟩
    (fun (x : Nat) => { tmps := #[.string (str s), undef, .pointer (some ⟨w.heap.size, 0, none⟩), .pointer (some ⟨w.heap.size + 1, 0, none⟩), .pointer (some ⟨w.heap.size + 2, 0, none⟩), .int .i64 (x : Int), .string (str (L.getD x [])), undef, undef, .string (str s), .int .i64 (s.length : Int), .bool false, .string (str s), .func (.func 99) #[] #[.pointer (some ⟨w.heap.size + 3, 0, none⟩), .pointer (some ⟨w.heap.size + 3 + 1, 0, none⟩)], .int .i64 (x : Int), .string (str (L.getD x [])), undef, undef, undef, undef, undef, undef, undef, undef, undef, undef, undef, undef, undef, undef, undef, undef, undef], defers := [] }) ?assign ?body ?done ?stop
  case own =>
    rintro pre W W' row ⟨⟨v, M, q1, q2, q3, q4, q5⟩, q6⟩ hg hr
    have hs3 := HS3.out
    refine ⟨⟨v, M, (hg.block _ q1.lt (fun e => by have := (hr _ e.symm).1; omega)).trans q1, ?_, fun y hy => (q3 y hy).same (text_row hg fun r e => (hr r e).2), q4, q5⟩, ?_⟩
    · refine World.ownsRow.kept q2 hg ?_
      rcases q2.2 with ⟨rfl, _⟩ | ⟨g, cap, cur, rfl, _, hgb, _⟩
      · exact .inl rfl
      · refine .inr fun e' => ?_
        obtain ⟨-, o, ho, hc⟩ := hr g (by simpa [Value.ownBlock] using e'.symm)
        rw [hgb] at ho; cases ho; cases hc
    · exact q6.grown hg q6.size (fun r e => .inr (hr r e).1)
  case ownX =>
    rintro c pre W W' row ⟨q1, q2, q3, q4, q5⟩ hg hr
    have hs3 := HS3.out
    refine ⟨q1, q2, (hg.block _ (Array.getElem?_eq_some_iff.1 q3).1 (fun e => by have := (hr _ e.symm).1; omega)).trans q3, (hg.block _ (Array.getElem?_eq_some_iff.1 q4).1 (fun e => by have := (hr _ e.symm).1; omega)).trans q4, q5.grown hg q5.size (fun k e => by have := (hr k e).1; omega)⟩
  case assign =>
    intro l x W K hK
    dsimp only [encP]
    gi_wp2
    exact hK
  case stop =>
    rintro D c pre W hD ⟨k, hk, rfl⟩ ⟨rfl, q2, q3, q4, q5⟩ hK
    have HAC : Hid (accR L (List.range L.length) = none) := Lib.hid (accR_stop q2 hk)
    have HQ3 := Lib.hid q3
    have HQ4 := Lib.hid q4
    have HQ5 := Lib.hid q5
    clear q2 q3 q4 q5
    have hs3 := HS3.out
    have hx := (World.putObj_heap_other (w := W) (r := D) (o := .deferred none) (k := w.heap.size) (by omega)).trans HQ3.out
    have hx2 := (World.putObj_heap_other (w := W) (r := D) (o := .deferred none) (k := w.heap.size + 1) (by omega)).trans HQ4.out
    gi_wp2
    refine ⟨by simp, .inl ⟨_, _, rfl, run_takeDeferred hK, ?_⟩⟩
    refine ⟨_, results_two rfl _ _ ⟨w.heap.size, 0, none⟩ (.slice none 0 0) rfl (load_row (by unfold World.cell?; rw [hx]; rfl)) ⟨w.heap.size + 1, 0, none⟩ (.int .i64 80) rfl (load_no (by unfold World.cell?; rw [hx2]; rfl)), ?_⟩
    rw [HAC.out]
    exact ⟨HQ5.out.trans (belowK_b (w := W3) HB3.out.size W D _ _ hD hK rfl rfl), fun _ => rfl, fun l h => by cases h⟩
  case done =>
    rintro D ys W hD rfl ⟨⟨v, M, q1, q2, q3, q4, q5⟩, q6⟩ hK
    have HQ2 := Lib.hid q2
    have HQ4 := Lib.hid q4
    have hs3 := HS3.out
    have HN := Lib.hid ((q6.block w.heap.size (by omega) (by omega)).trans HK0.out)
    have HZ := Lib.hid ((q6.block (w.heap.size + 1) (by omega) (by omega)).trans HK1.out)
    have HBW : Hid (Below w.heap.size w W) := Lib.hid (HB3.out.trans (q6.below (by omega) HB3.out.size))
    have HFM := Lib.hid (pformX_any v M W W3.heap.size q6.size q2 q3 (by rw [q5, List.length_range]; have := HLL.out; omega))
    have hne : v.ownBlock ≠ some D := by
      rcases q2.2 with ⟨rfl, _⟩ | ⟨g, cap, cur, rfl, _, hgb, _⟩
      · intro e; cases e
      · intro e
        have : g = D := by simpa [Value.ownBlock] using e
        rw [this, hK] at hgb
        cases hgb
    have hDl := (Array.getElem?_eq_some_iff.1 hK).1
    have HNE := Lib.hid hne
    have HK := Lib.hid hK
    have HDL := Lib.hid hDl
    have HWS := Lib.hid q6.size
    have hc := q1.cell
    have hc' : W.cell? ⟨w.heap.size + 1 + 1, 0, none⟩ = some v := hc
    clear q1 q2 q3 q4 q5 q6 hK hne hDl
    gi_wp2_with (refine ⟨trivial, ?_⟩; gi_at_call 39; refine (callsIn_wide.2 HFM.out).mono ?_; rintro e W4 ⟨u, R, rfl, hr4, hok4, hm4, hb4, he4⟩; obtain ⟨ua, ucp, rfl⟩ := hr4.value; refine Hid.out ?_)
    refine Lib.hid ?_
    have n4 := (hb4.block w.heap.size (by omega)).trans HN.out
    have z4 := (hb4.block (w.heap.size + 1) (by omega)).trans HZ.out
    have hD4 := (he4 D HDL.out HNE.out).trans HK.out
    have c0 : W4.cell? ⟨w.heap.size, 0, none⟩ = some (.slice none 0 0) := by unfold World.cell?; rw [n4]; rfl
    have c1 : W4.cell? ⟨w.heap.size + 1, 0, none⟩ = some (.int .i64 0) := by unfold World.cell?; rw [z4]; rfl
    have f0 := ver_frozen n4 0
    have f1 := ver_frozen z4 0
    have HBZ : Hid (Below w.heap.size w W4) := Lib.hid (HBW.out.trans (hb4.mono (by omega)))
    have HR4 := Lib.hid hr4
    have HO4 := Lib.hid hok4
    have HM4 := Lib.hid hm4
    have HD4 := Lib.hid hD4
    have HNT : Hid (¬ IsText W4 w.heap.size ∧ ¬ IsText W4 (w.heap.size + 1)) := Lib.hid ⟨no_text n4 (by decide), no_text z4 (by decide)⟩
    have HC1 := Lib.hid c1
    have HC0 := Lib.hid c0
    clear n4 z4 hr4 hok4 hm4 hb4 he4 hD4 hc hc'
    gi_wp2_with fail
    obtain ⟨W5, hW5⟩ : ∃ W5, W4.setCell ⟨w.heap.size, 0, none⟩ (.slice ua R.length ucp) = W5 := ⟨_, rfl⟩
    obtain ⟨W6, hW6⟩ : ∃ W6, W5.setCell ⟨w.heap.size + 1, 0, none⟩ (.int .i64 0) = W6 := ⟨_, rfl⟩
    rw [hW5, hW6]
    have o5 : ∀ k, k ≠ w.heap.size → W5.heap[k]? = W4.heap[k]? := fun k hk => by rw [← hW5]; exact Below.heap_setCell _ _ _ _ hk
    have o6 : ∀ k, k ≠ w.heap.size + 1 → W6.heap[k]? = W5.heap[k]? := fun k hk => by rw [← hW6]; exact Below.heap_setCell _ _ _ _ hk
    have g5 : W4.grownBy W5 (some w.heap.size) := by rw [← hW5]; exact grownBy_setCell' W4 w.heap.size (.slice ua R.length ucp)
    have g6 : W5.grownBy W6 (some (w.heap.size + 1)) := by rw [← hW6]; exact grownBy_setCell' W5 (w.heap.size + 1) (.int .i64 0)
    have e1 : W6.cell? ⟨w.heap.size + 1, 0, none⟩ = some (.int .i64 0) := by
      rw [← hW6]
      exact World.cell?_setCell_same _ _ _ (by rw [← hW5, World.cell?_setCell_other _ _ _ _ (by simp)]; exact HC1.out)
    have e0 : W6.cell? ⟨w.heap.size, 0, none⟩ = some (.slice ua R.length ucp) := by
      rw [← hW6, World.cell?_setCell_other _ _ _ _ (by simp), ← hW5]
      exact World.cell?_setCell_same _ _ _ HC0.out
    have hD6 : W6.heap[D]? = some (.deferred (some [])) := (o6 D (by omega)).trans ((o5 D (by omega)).trans HD4.out)
    have hr6 : StRow W6 W3.heap.size (.slice ua R.length ucp) R := by
      have hlt := fun j hj => World.ownsRow.lt HR4.out j hj
      refine World.ownsRow.kept (World.ownsRow.kept HR4.out g5 (.inr fun e => ?_)) g6 (.inr fun e => ?_)
      · have := (hlt _ e).1; omega
      · have := (hlt _ e).1; omega
    have hk6 : AllOk W6 R := fun y hy => ((HO4.out y hy).keep HNT.out.1 (fun j _ hj => o5 j hj)).keep (fun h => HNT.out.2 (h.of (o5 _ (by omega)).symm)) (fun j _ hj => o6 j hj)
    have hb6 : Below w.heap.size w W6 := by
      rw [← hW6, ← hW5]
      exact (HBZ.out.setCell (Nat.le_refl _) _).setCell (by show w.heap.size ≤ w.heap.size + 1; omega) _
    refine ⟨by simp, .inl ⟨_, _, rfl, run_takeDeferred hD6, ?_⟩⟩
    refine ⟨_, results_two rfl _ _ ⟨w.heap.size, 0, none⟩ (.slice ua R.length ucp) rfl (load_row ((World.cell?_of_block (World.putObj_heap_other (by show w.heap.size ≠ D; omega))).trans e0)) ⟨w.heap.size + 1, 0, none⟩ (.int .i64 0) rfl (load_no ((World.cell?_of_block (World.putObj_heap_other (by show w.heap.size + 1 ≠ D; omega))).trans e1)), ?_⟩
    rw [HQ4.out]
    refine ⟨hb6.trans (belowK_b (w := W3) HB3.out.size _ D _ _ hD hD6 rfl rfl), fun h => (by cases h), fun l h => ?_⟩
    cases h
    refine ⟨_, R, rfl, row_putObj (row_base hr6 (by omega)) _ hD6 rfl, fun y hy => (hk6 y hy).same fun b hb => World.putObj_heap_other (fun e => ?_), HM4.out⟩
    obtain ⟨cs, fz, h⟩ := hb
    rw [e, hD6] at h
    cases h
  case body =>
    rintro l pre x W ⟨⟨v, M, q1, q2, q3, q4, q5⟩, q6⟩ hlt
    have hs3 := HS3.out
    have HBW : Hid (Below w.heap.size w W) := Lib.hid (HB3.out.trans (q6.below (by omega) HB3.out.size))
    have HN := Lib.hid ((q6.block w.heap.size (by omega) (by omega)).trans HK0.out)
    have HZ := Lib.hid ((q6.block (w.heap.size + 1) (by omega) (by omega)).trans HK1.out)
    have HCM := Lib.hid (palt_any (L.getD x []) W (HV.out.gr HBW.out) (HPL.out x))
    have HAC : Hid (accR L (pre ++ [x]) = if x = 16 then none else (altM (L.getD x [])).map (fun t => M.map StR.st ++ [t])) := Lib.hid (by rw [accR_snoc, q4]; rfl)
    have HQ1 := Lib.hid q1
    have HQ2 := Lib.hid q2
    have HQ3 := Lib.hid q3
    have HQ5 := Lib.hid q5
    have HQ6 := Lib.hid q6
    have HML : Hid (M.length ≤ 129) := Lib.hid (by have := HLL.out; omega)
    have HWS : Hid (W3.heap.size ≤ W.heap.size) := Lib.hid q6.size
    have HL0 : Hid (w.heap.size < W.heap.size) := Lib.hid (Array.getElem?_eq_some_iff.1 HN.out).1
    have HL1 : Hid (w.heap.size + 1 < W.heap.size) := Lib.hid (Array.getElem?_eq_some_iff.1 HZ.out).1
    have HL2 : Hid (w.heap.size + 2 < W.heap.size) := Lib.hid q1.lt
    clear q1 q2 q3 q4 q5 q6 HV HK0 HK1 HK2 HPS hlt hs3 hz hd hd2
    generalize altM (L.getD x []) = cm at *
    generalize hpx : str (L.getD x []) = px at *
    clear hpx
    gi_wp2_with fail
    refine ⟨trivial, ((callsIn_wide.2 HCM.out).inRound l).mono ?_⟩
    rintro e W4 ⟨hb4, hno, hyes⟩
    have HB4 := Lib.hid hb4
    have HW4 : Hid (W.heap.size ≤ W4.heap.size) := Lib.hid hb4.size
    have HN4 := Lib.hid ((hb4.block _ HL0.out).trans HN.out)
    have HZ4 := Lib.hid ((hb4.block _ HL1.out).trans HZ.out)
    have HQ14 : Hid (Boxed W4 (w.heap.size + 2) 54 v) := Lib.hid ((hb4.block _ HL2.out).trans HQ1.out)
    have HQ24 := Lib.hid (HQ2.out.below hb4)
    have HQ34 := Lib.hid (HQ3.out.gr hb4)
    clear hb4
    rcases cm with _ | st1
    · obtain rfl := hno rfl
      clear hno hyes
      have hnb := heap_alloc_new W4 (stO zeroR)
      have HRR := Lib.hid (setRow_heap _ _ _ (stL zeroR).toArray _ _ hnb)
      have HOT : Hid (∀ k, k < W4.heap.size → ((W4.alloc (stO zeroR)).setRow W4.heap.size (stL zeroR).toArray).heap[k]? = W4.heap[k]?) := Lib.hid (fun k hk => (Go.setRow_other _ _ _ _ (by omega)).trans (by rw [heap_alloc_old W4 _ hk]))
      have HBB : Hid (Below W4.heap.size W4 ((W4.alloc (stO zeroR)).setRow W4.heap.size (stL zeroR).toArray)) := Lib.hid (below_setRow ((Below.refl _ W4).alloc (Nat.le_refl _) _) (Nat.le_refl _) _)
      have HS6 : Hid (((W4.alloc (stO zeroR)).setRow W4.heap.size (stL zeroR).toArray).heap.size = W4.heap.size + 1) := Lib.hid (by simp)
      obtain ⟨W6, hW6⟩ : ∃ W6, (W4.alloc (stO zeroR)).setRow W4.heap.size (stL zeroR).toArray = W6 := ⟨_, rfl⟩
      rw [hW6] at HRR HOT HBB HS6
      have HW6 := Lib.hid hW6
      have HN6 := Lib.hid ((HOT.out _ (by have := HL0.out; have := HW4.out; omega)).trans HN4.out)
      have HZ6 := Lib.hid ((HOT.out _ (by have := HL1.out; have := HW4.out; omega)).trans HZ4.out)
      have HNB := Lib.hid hnb
      clear hW6 hnb
      have c0 : W6.cell? ⟨w.heap.size, 0, none⟩ = some (.slice none 0 0) := by have h := HN6.out; unfold World.cell?; rw [h]; rfl
      have c1 : W6.cell? ⟨w.heap.size + 1, 0, none⟩ = some (.int .i64 0) := by have h := HZ6.out; unfold World.cell?; rw [h]; rfl
      have f0 := ver_frozen HN6.out 0
      have f1 := ver_frozen HZ6.out 0
      have HB6 : Hid (Below w.heap.size w W6) := Lib.hid ((HBW.out.trans (HB4.out.mono HBW.out.size)).trans (HBB.out.mono (by have := HL0.out; have := HW4.out; omega)))
      have HK6 : Hid (KeepsFrom W3.heap.size W W6) := Lib.hid ((keepsB HB4.out).trans (keepsB HBB.out))
      gi_wp2_with (have hnb := HNB.out; refine wpListIn_store_row rfl 73 _ _ rfl W4.heap.size (stL zeroR).toArray rfl rfl _ _ hnb info_st rfl (st_one _) ?_; change wpListIn _ _ _ _ _ _ _ ((W4.alloc (stO zeroR)).setRow W4.heap.size (stL zeroR).toArray); rw [HW6.out]; clear HNB hnb HW6)
      have hs3 := HS3.out
      have e3 : ((W6.setCell ⟨w.heap.size, 0, none⟩ (.slice none 0 0)).setCell ⟨w.heap.size + 1, 0, none⟩ (.int .i64 80)).heap[w.heap.size + 1]? = some (.cells #[.int .i64 80] 25) := setCell_row ((Below.heap_setCell W6 ⟨w.heap.size, 0, none⟩ (.slice none 0 0) (w.heap.size + 1) (by show w.heap.size + 1 ≠ w.heap.size; omega)).trans HZ6.out) 0 _
      have e2 : ((W6.setCell ⟨w.heap.size, 0, none⟩ (.slice none 0 0)).setCell ⟨w.heap.size + 1, 0, none⟩ (.int .i64 80)).heap[w.heap.size]? = some (.cells #[.slice none 0 0] 54) := (Below.heap_setCell _ ⟨w.heap.size + 1, 0, none⟩ (.int .i64 80) w.heap.size (by show w.heap.size ≠ w.heap.size + 1; omega)).trans (setCell_row HN6.out 0 _)
      exact ⟨(HK6.out.trans (keepsCell (by show w.heap.size < W3.heap.size; omega))).trans (keepsCell (by show w.heap.size + 1 < W3.heap.size; omega)), rfl, by rw [HAC.out]; split <;> rfl, e2, e3, (HB6.out.setCell (Nat.le_refl _) _).setCell (by show w.heap.size ≤ w.heap.size + 1; omega) _⟩
    · obtain ⟨r1, rfl, hst1, hok1⟩ := hyes st1 rfl
      have HST1 := Lib.hid hst1
      have HOK1 := Lib.hid hok1
      clear hno hyes hst1 hok1
      by_cases h16 : x = 16
      · subst h16
        have hnb := heap_alloc_new W4 (stO zeroR)
        have HRR := Lib.hid (setRow_heap _ _ _ (stL r1).toArray _ _ hnb)
        have HOT : Hid (∀ k, k < W4.heap.size → ((W4.alloc (stO zeroR)).setRow W4.heap.size (stL r1).toArray).heap[k]? = W4.heap[k]?) := Lib.hid (fun k hk => (Go.setRow_other _ _ _ _ (by omega)).trans (by rw [heap_alloc_old W4 _ hk]))
        have HBB : Hid (Below W4.heap.size W4 ((W4.alloc (stO zeroR)).setRow W4.heap.size (stL r1).toArray)) := Lib.hid (below_setRow ((Below.refl _ W4).alloc (Nat.le_refl _) _) (Nat.le_refl _) _)
        have HS6 : Hid (((W4.alloc (stO zeroR)).setRow W4.heap.size (stL r1).toArray).heap.size = W4.heap.size + 1) := Lib.hid (by simp)
        obtain ⟨W6, hW6⟩ : ∃ W6, (W4.alloc (stO zeroR)).setRow W4.heap.size (stL r1).toArray = W6 := ⟨_, rfl⟩
        rw [hW6] at HRR HOT HBB HS6
        have HW6 := Lib.hid hW6
        have HN6 := Lib.hid ((HOT.out _ (by have := HL0.out; have := HW4.out; omega)).trans HN4.out)
        have HZ6 := Lib.hid ((HOT.out _ (by have := HL1.out; have := HW4.out; omega)).trans HZ4.out)
        have HNB := Lib.hid hnb
        clear hW6 hnb
        have c0 : W6.cell? ⟨w.heap.size, 0, none⟩ = some (.slice none 0 0) := by have h := HN6.out; unfold World.cell?; rw [h]; rfl
        have c1 : W6.cell? ⟨w.heap.size + 1, 0, none⟩ = some (.int .i64 0) := by have h := HZ6.out; unfold World.cell?; rw [h]; rfl
        have f0 := ver_frozen HN6.out 0
        have f1 := ver_frozen HZ6.out 0
        have HB6 : Hid (Below w.heap.size w W6) := Lib.hid ((HBW.out.trans (HB4.out.mono HBW.out.size)).trans (HBB.out.mono (by have := HL0.out; have := HW4.out; omega)))
        have HK6 : Hid (KeepsFrom W3.heap.size W W6) := Lib.hid ((keepsB HB4.out).trans (keepsB HBB.out))
        gi_wp2_with (have hnb := HNB.out; refine wpListIn_store_row rfl 73 _ _ rfl W4.heap.size (stL r1).toArray rfl rfl _ _ hnb info_st rfl (st_one _) ?_; change wpListIn _ _ _ _ _ _ _ ((W4.alloc (stO zeroR)).setRow W4.heap.size (stL r1).toArray); rw [HW6.out]; clear HNB hnb HW6)
        have hs3 := HS3.out
        have e3 : ((W6.setCell ⟨w.heap.size, 0, none⟩ (.slice none 0 0)).setCell ⟨w.heap.size + 1, 0, none⟩ (.int .i64 80)).heap[w.heap.size + 1]? = some (.cells #[.int .i64 80] 25) := setCell_row ((Below.heap_setCell W6 ⟨w.heap.size, 0, none⟩ (.slice none 0 0) (w.heap.size + 1) (by show w.heap.size + 1 ≠ w.heap.size; omega)).trans HZ6.out) 0 _
        have e2 : ((W6.setCell ⟨w.heap.size, 0, none⟩ (.slice none 0 0)).setCell ⟨w.heap.size + 1, 0, none⟩ (.int .i64 80)).heap[w.heap.size]? = some (.cells #[.slice none 0 0] 54) := (Below.heap_setCell _ ⟨w.heap.size + 1, 0, none⟩ (.int .i64 80) w.heap.size (by show w.heap.size ≠ w.heap.size + 1; omega)).trans (setCell_row HN6.out 0 _)
        exact ⟨(HK6.out.trans (keepsCell (by show w.heap.size < W3.heap.size; omega))).trans (keepsCell (by show w.heap.size + 1 < W3.heap.size; omega)), rfl, by rw [HAC.out]; rfl, e2, e3, (HB6.out.setCell (Nat.le_refl _) _).setCell (by show w.heap.size ≤ w.heap.size + 1; omega) _⟩
      · have hd16 : ((x : Int) == 16) = false := beq_eq_false_iff_ne.2 (by omega)
        have HAC2 : Hid (accR L (pre ++ [x]) = some ((M ++ [r1]).map StR.st)) := Lib.hid (by rw [HAC.out, if_neg h16, List.map_append, ← HST1.out]; rfl)
        clear h16
        have hnb := heap_alloc_new W4 (stO zeroR)
        have HRR := Lib.hid (setRow_heap _ _ _ (stL r1).toArray _ _ hnb)
        have HOT : Hid (∀ k, k < W4.heap.size → ((W4.alloc (stO zeroR)).setRow W4.heap.size (stL r1).toArray).heap[k]? = W4.heap[k]?) := Lib.hid (fun k hk => (Go.setRow_other _ _ _ _ (by omega)).trans (by rw [heap_alloc_old W4 _ hk]))
        have HBB : Hid (Below W4.heap.size W4 ((W4.alloc (stO zeroR)).setRow W4.heap.size (stL r1).toArray)) := Lib.hid (below_setRow ((Below.refl _ W4).alloc (Nat.le_refl _) _) (Nat.le_refl _) _)
        have HS6 : Hid (((W4.alloc (stO zeroR)).setRow W4.heap.size (stL r1).toArray).heap.size = W4.heap.size + 1) := Lib.hid (by simp)
        obtain ⟨W6, hW6⟩ : ∃ W6, (W4.alloc (stO zeroR)).setRow W4.heap.size (stL r1).toArray = W6 := ⟨_, rfl⟩
        rw [hW6] at HRR HOT HBB HS6
        have HW6 := Lib.hid hW6
        have HN6 := Lib.hid ((HOT.out _ (by have := HL0.out; have := HW4.out; omega)).trans HN4.out)
        have HZ6 := Lib.hid ((HOT.out _ (by have := HL1.out; have := HW4.out; omega)).trans HZ4.out)
        have HNB := Lib.hid hnb
        clear hW6 hnb
        have HQ16 : Hid (Boxed W6 (w.heap.size + 2) 54 v) := Lib.hid ((HOT.out _ (by have := HL2.out; have := HW4.out; omega)).trans HQ14.out)
        have HR6 := Lib.hid (HQ24.out.below HBB.out)
        have HM6 := Lib.hid (HQ34.out.gr HBB.out)
        have HO6 := Lib.hid (HOK1.out.gr HBB.out)
        have hrow6 := HR6.out
        unfold StRow at hrow6
        have hc6 := HQ16.out.cell
        have hrr := HRR.out
        have hml := HML.out
        have h36 : W3.heap.size ≤ W6.heap.size := by have := HS6.out; have := HW4.out; have := HWS.out; omega
        have HKW : Hid (KeepsFrom W3.heap.size W W6) := Lib.hid ((keepsB HB4.out).trans (keepsB HBB.out))
        have HBX : Hid (Bx (w.heap.size + 2) W3.heap.size W W6) := Lib.hid ((Bx.of_below (HB4.out.mono HWS.out)).trans (Bx.of_below (HBB.out.mono (by have := HWS.out; have := HW4.out; omega))))
        obtain ⟨va, cp, rfl⟩ := HR6.out.value
        gi_wp2_with (first
          | (have hnb := HNB.out; refine wpListIn_store_row rfl 73 _ _ rfl W4.heap.size (stL r1).toArray rfl rfl _ _ hnb info_st rfl (st_one _) ?_; change wpListIn _ _ _ _ _ _ _ ((W4.alloc (stO zeroR)).setRow W4.heap.size (stL r1).toArray); rw [HW6.out]; clear HNB hnb HW6)
          | (refine wpListIn_load_row rfl 73 _ rfl W4.heap.size rfl _ _ _ _ hrr Tryz.underlying73 rfl info_st ?_)
          | (gi_at_builtin; refine wpListIn_append_own _ rfl _ _ 54 rfl W3.heap.size 73 i0 _ 10 96 Tryz.underlying54 hi hz0 hz1 hz2 rfl (by decide) _ _ _ rfl (hrow6.alloc _) ⟨W6.heap.size, 0, none⟩ 1 1 (stL r1) rfl rfl ?c1 ?c2 ?c3 ?c4 ?c5 ?_))
        case c1 => exact cells_new W6 (stL r1) 73
        case c2 => exact st_ones r1
        case c3 => unfold maxLen; omega
        case c4 => omega
        case c5 => simp; omega
        intro v' W7 hown7 hg7 _
        obtain ⟨g', cap', rfl⟩ := ownsRow_succ hown7
        obtain ⟨v', hv'⟩ : ∃ v', Value.slice (some ⟨g', 0, none⟩) (M.length + 1) cap' = v' := ⟨_, rfl⟩
        have HVE := Lib.hid hv'
        rw [hv'] at hown7
        clear hv'
        have hv7 : Boxed W7 (w.heap.size + 2) 54 _ := (HQ16.out.alloc _).kept hg7 (HQ16.out.not_row (by decide) hrow6)
        have hc7 := hv7.cell
        have hf7 := hv7.frozen
        have hnr := hv7.not_row (by decide) hown7
        have HV7 := Lib.hid hv7
        have HROW7 : Hid (StRow (W7.setCell ⟨w.heap.size + 2, 0, none⟩ v') W3.heap.size v' (M ++ [r1])) := Lib.hid (by
          unfold StRow
          rw [List.flatMap_append, List.length_append]
          have h := hown7.kept (grownBy_setCell' W7 (w.heap.size + 2) v') (.inr hnr.symm)
          simpa using h)
        have HOK7 : Hid (AllOk (W7.setCell ⟨w.heap.size + 2, 0, none⟩ v') (M ++ [r1])) := Lib.hid (fun z hz => by
          have key : ∀ z, StOk W6 z → StOk (W7.setCell ⟨w.heap.size + 2, 0, none⟩ v') z := fun z hz => (ok_grown (hz.gr ((Below.refl _ W6).alloc (Nat.le_refl _) _)) (hrow6.alloc _) (by decide) hg7).keep (no_text hv7 (by decide)) (fun j _ hj => Below.heap_setCell _ _ _ _ hj)
          rcases List.mem_append.1 hz with hz | hz
          · exact key z (HM6.out z hz)
          · rw [List.mem_singleton.1 hz]; exact key _ HO6.out)
        have HKP : Hid (KeepsFrom W3.heap.size W (W7.setCell ⟨w.heap.size + 2, 0, none⟩ v')) := Lib.hid (by
          refine ((HKW.out.trans ((KeepsOthers.alloc W6 _).from _)).trans ((KeepsOthers.of_grownBy hg7 fun j o ej hj => ?_).from _)).trans (keepsCell (by show w.heap.size + 2 < W3.heap.size; have := HS3.out; omega))
          rcases (hrow6.alloc _).2 with ⟨h0, _⟩ | ⟨g, cap, cur, h0, _, hgb, _⟩
          · rw [h0] at ej; simp [Value.ownBlock] at ej
          · rw [h0] at ej
            obtain rfl : g = j := by simpa [Value.ownBlock] using ej
            rw [hgb] at hj; cases hj; rfl)
        have HBX7 : Hid (Bx (w.heap.size + 2) W3.heap.size W (W7.setCell ⟨w.heap.size + 2, 0, none⟩ v')) := Lib.hid (by
          refine ((HBX.out.grown (World.grownBy_alloc W6 _ none) h36 (fun r e => by cases e)).grown hg7 (by simp; omega) (fun r e => .inr ?_)).grown (grownBy_setCell' W7 (w.heap.size + 2) v') (by have := hg7.size; simp at this; omega) (fun r e => .inl (by cases e; rfl))
          exact (World.ownsRow.lt hrow6 r e).1)
        clear hown7 hg7 hnr hrow6 hc6 hrr
        gi_wp2_with fail
        rw [HVE.out]
        exact ⟨HKP.out, HBX7.out, ⟨v', M ++ [r1], HV7.out.set v', HROW7.out, HOK7.out, HAC2.out, by rw [List.length_append, List.length_append, HQ5.out]; rfl⟩, HQ6.out.trans HBX7.out⟩
/-- what a span's text says, in its one form -/
theorem pread_any (s : B) (w : World) (hv : Vw w) (hl : s.length ≤ 9223372036854775807) : Calls Tryz.prog 47 #[.string (str s)] w (ReadSE (readO s) w) := by
  unfold readO
  by_cases h : s.length ≤ 128
  · rw [if_pos h]; exact (callsIn_wide (n := 6)).1 (pread_in s w hv h)
  · rw [if_neg h]; exact pread_long s w hl (by omega)
end SpanC
end Go.Proofs.YtapikdgncdcneaaGreatDoor
namespace Go.Proofs.YtapikdgncdcneaaGreatDoor
open Go.RowKit
set_option linter.unusedVariables false
set_option linter.unusedSimpArgs false
namespace SpanC
open VerM SpanM StrC TextR VerC

theorem foldR_len {L : List B} : ∀ (pre : List Nat) (a l : List St), pre.foldl (fun o k => if k = 16 then none else o.bind fun a => (altM (L.getD k [])).map fun t => a ++ [t]) (some a) = some l → l.length = a.length + pre.length
  | [], a, l, h => by cases h; rfl
  | k :: pre, a, l, h => by
    rw [List.foldl_cons] at h
    by_cases hk : k = 16
    · rw [if_pos hk, accR_none] at h; cases h
    · rw [if_neg hk] at h
      cases ha : altM (L.getD k []) with
      | none => rw [ha] at h; simp only [Option.bind_some, Option.map_none] at h; rw [accR_none] at h; cases h
      | some t =>
        rw [ha] at h
        simp only [Option.bind_some, Option.map_some] at h
        have := foldR_len pre _ l h
        rw [this, List.length_append, List.length_cons]
        simp; omega
theorem accR_len {L : List B} (pre : List Nat) {l : List St} (h : accR L pre = some l) : l.length = pre.length := by
  have := foldR_len pre [] l h
  simpa using this
theorem readO_len {s : B} {l : List St} (h : readO s = some l) : l.length ≤ 129 := by
  unfold readO at h
  split at h
  · rename_i hs
    have h1 := accR_len _ h
    rw [List.length_range] at h1
    have := partsB_len (d := orB) (by decide) s
    omega
  · cases h
theorem put_len (A : List St) (s : St) : (SpanM.put A s).length ≤ A.length + 1 := by
  unfold SpanM.put
  split
  · simp
  · split
    · simp
    · split
      · simp only [List.length_append, List.length_dropLast, List.length_cons, List.length_nil]; omega
      · omega
theorem foldl_put_len : ∀ (D A : List St), (D.foldl SpanM.put A).length ≤ A.length + D.length
  | [], A => by simp
  | d :: D, A => by
    have h1 := foldl_put_len D (SpanM.put A d)
    have h2 := put_len A d
    rw [List.foldl_cons, List.length_cons]
    omega
theorem formM_len (l : List St) : (formM l).length ≤ l.length := by
  have h := foldl_put_len (sorted l) []
  have h2 : (sorted l).length ≤ l.length := by
    unfold sorted
    rw [List.length_mergeSort]
    exact List.length_filter_le _ _
  unfold formM
  simp at h
  omega
/-- how Read ends -/
def ReadsE (s : B) (w : World) (e : Ending) (w' : World) : Prop := match readO s with
  | some l => SetE l w e w'
  | none => e = .returned (.tuple #[.slice none 0 0, .int .i64 80]) ∧ Below w.heap.size w w'
/-- what Form answers -/
def formO (s : B) : Option B := (readO s).bind fun l => writeO (formM l)
set_option maxHeartbeats 4000000 in
set_option maxRecDepth 100000 in
theorem pForm_any (s : B) (w : World) (hv : Vw w) (hl : s.length ≤ 9223372036854775807) : Calls Tryz.prog 22 #[.string (str s)] w fun e w' => e = outO (formO s) ∧ Below w.heap.size w w' := by
  have HR := Lib.hid (pread_any s w hv hl)
  have HF : Hid (formO s = (readO s).bind fun l => writeO (formM l)) := Lib.hid rfl
  have HV := Lib.hid hv
  have HLN : Hid (∀ l, readO s = some l → l.length ≤ 129) := Lib.hid fun l h => readO_len h
  generalize formO s = fo at *
  generalize readO s = o at *
  generalize str s = t at *
  clear hv hl
  cases o with
  | none =>
    go_enter Tryz.func22, Tryz.ntmps22
    go_wp2_with (go_at_call 47; refine HR.out.mono ?_; rintro e w1 ⟨hb, h0, -⟩; obtain rfl := h0 rfl; have HB := Lib.hid hb; clear h0 hb)
    go_ret2
    rw [HF.out]
    exact ⟨rfl, HB.out⟩
  | some l =>
    go_enter Tryz.func22, Tryz.ntmps22
    go_wp2_with (go_at_call 47; refine HR.out.mono ?_; rintro e w1 ⟨hb, -, h1⟩; obtain ⟨u, R, rfl, hr, hok, hm⟩ := h1 l rfl; have HB := Lib.hid hb; have HFI := Lib.hid (pwrite_any u R w1 (HV.out.gr hb) (row_base hr (Nat.zero_le _)) hok (by have h := congrArg List.length hm; rw [List.length_map] at h; have h2 := formM_len l; have h3 := HLN.out l rfl; omega)); have HM := Lib.hid hm; clear h1 hb hr hok hm; refine Hid.out ?_)
    refine Lib.hid ?_
    rw [HM.out] at HFI
    have HF2 : Hid (fo = writeO (formM l)) := Lib.hid HF.out
    clear HF
    generalize writeO (formM l) = wo at *
    rcases wo with _ | t2
    · go_wp2_with (go_at_call 25; refine HFI.out.mono ?_; rintro e w6 ⟨rfl, hb6⟩; unfold outO; have HB6 := Lib.hid (HB.out.trans (hb6.mono HB.out.size)); clear hb6)
      go_ret2
      rw [HF2.out]
      exact ⟨rfl, HB6.out⟩
    · go_wp2_with (go_at_call 25; refine HFI.out.mono ?_; rintro e w6 ⟨rfl, hb6⟩; unfold outO; have HB6 := Lib.hid (HB.out.trans (hb6.mono HB.out.size)); clear hb6)
      go_ret2
      rw [HF2.out]
      exact ⟨rfl, HB6.out⟩
end SpanC
end Go.Proofs.YtapikdgncdcneaaGreatDoor
namespace Go.Proofs.YtapikdgncdcneaaGreatDoor
open Go.RowKit Go.Shelf
set_option linter.unusedVariables false
set_option linter.unusedSimpArgs false
namespace SpanC
open VerM SpanM StrC TextR VerC RoundR
attribute [local go_sem] Oper.semAt_some

/-- the places from the last one down to m -/
def told (n m : Nat) : List Nat := ((List.range n).drop m).reverse
theorem told_start (n : Nat) : told n n = [] := by unfold told; rw [List.drop_eq_nil_of_le (by simp)]; rfl
theorem told_step {n m : Nat} (h : m < n) : told n m = told n (m + 1) ++ [m] := by
  unfold told
  rw [List.drop_eq_getElem_cons (by simpa using h), List.reverse_cons]
  simp
theorem told_length (n m : Nat) : (told n m).length = n - m := by simp [told]
theorem told_all (R : List B) : R.reverse = (told R.length 0).map (fun k => R.getD k []) := by
  unfold told
  rw [List.drop_zero, List.map_reverse]
  congr 1
  apply List.ext_getElem
  · simp
  · intro k h1 h2
    simp [h1]
theorem told_split {n m : Nat} (h : m ≤ n) : ∃ rest, told n 0 = told n m ++ rest := by
  unfold told
  refine ⟨((List.range n).take m).reverse, ?_⟩
  rw [← List.reverse_append, List.take_append_drop, List.drop_zero]
theorem find_told {R : List B} {p : B → Bool} {m : Nat} (hm : m < R.length) (h1 : ∀ k ∈ told R.length (m + 1), p (R.getD k []) = false) (h2 : p (R.getD m []) = true) : R.reverse.find? p = some (R.getD m []) := by
  obtain ⟨rest, hr⟩ := told_split (n := R.length) (m := m) (by omega)
  rw [told_all, hr, told_step hm, List.map_append, List.map_append, List.find?_append, List.find?_append]
  have e : ((told R.length (m + 1)).map fun k => R.getD k []).find? p = none := by
    rw [List.find?_eq_none]
    intro x hx
    obtain ⟨k, hk, rfl⟩ := List.mem_map.1 hx
    rw [h1 k hk]; simp
  rw [e]
  simp only [List.map_cons, List.map_nil, Option.none_or]
  rw [List.find?_cons, h2]
  rfl
theorem find_none {R : List B} {p : B → Bool} (h1 : ∀ k ∈ told R.length 0, p (R.getD k []) = false) : R.reverse.find? p = none := by
  rw [told_all, List.find?_eq_none]
  intro x hx
  obtain ⟨k, hk, rfl⟩ := List.mem_map.1 hx
  rw [h1 k hk]; simp
def encK (R : List B) (k : Nat) : Array Value := #[.int .i64 (k : Int), .string (str (R.getD k []))]
theorem back_any (a : Option Addr) (n cp : Nat) (w : World) :
    Calls Tryz.prog 49 #[.slice a n cp] w fun e w' => e = .returned (.func (.func 76) #[] #[.pointer (some ⟨w.heap.size, 0, none⟩)]) ∧ w' = w.alloc (.cells #[.slice a n cp] 34) := by
  go_enter Tryz.func49, Tryz.ntmps49
  go_wp2_with fail
  go_ret
  exact ⟨rfl, rfl⟩
set_option maxRecDepth 100000 in
set_option maxHeartbeats 4000000 in
theorem back_in (n : Nat) (hn : 3 ≤ n) (l bs n₀ : Nat) (a : Option Addr) (cp : Nat) (R : List B) (hR : R.length ≤ 4611686018427387904) (J Jx : List Nat → World → Prop)
    (hY : ∀ pre x W, J pre W → pre.length < R.length → YieldAt Fence.wide (n - 1) Tryz.prog l (encK R x) W fun e W' =>
      (e = .returned (.bool true) ∧ J (pre ++ [x]) W' ∧ Below n₀ W W') ∨ (e = .returned (.bool false) ∧ Jx (pre ++ [x]) W'))
    (W : World) (hbs : ∀ W', Below n₀ W W' → W'.cell? ⟨bs, 0, none⟩ = some (.slice a R.length cp))
    (hrow : ∀ W', Below n₀ W W' → ∀ k, k < R.length → ∃ g, a = some ⟨g, 0, none⟩ ∧ W'.cell? ⟨g, k, none⟩ = some (.string (str (R.getD k [])))) (h0 : J [] W) :
    CallsIn Fence.wide n Tryz.prog 76 #[.func (.yield l) #[] #[], .pointer (some ⟨bs, 0, none⟩)] W fun e W' => (∃ v, e = .returned v) ∧
      ((∃ ys, ys = told R.length 0 ∧ J ys W') ∨ (∃ pre, (∃ m, m ≤ R.length ∧ pre = told R.length m) ∧ Jx pre W')) := by
  have HBS := Lib.hid hbs
  have HROW := Lib.hid hrow
  have HRL := Lib.hid hR
  have hbs0 := hbs W (Below.refl _ _)
  have hwr : wrap64 ((R.length : Int) - 1) = (R.length : Int) - 1 := by unfold wrap64; omega
  clear hbs hrow hR
  refine callsIn_of_wp Tryz.func76 rfl trivial ?_ rfl
  simp only [Tryz.ntmps76, List.size_toArray, List.length_cons, List.length_nil, Nat.reduceAdd, Nat.reduceSub, Array.replicate_succ, Array.replicate_zero, List.push_toArray, List.append_toArray, List.nil_append, List.cons_append]
  gi_wp2_with fail
  gi_loopw [3] (fun v3 wr => ∃ m : Nat, v3 = .int .i64 ((m : Int) - 1) ∧ Hid (m ≤ R.length) ∧ J (told R.length m) wr ∧ Hid (Below n₀ W wr)) (fun v3 _ => (intOf v3 + 1).toNat)
  case atStart => exact ⟨R.length, by rw [hwr], Lib.hid (Nat.le_refl _), by rw [told_start]; exact h0, Lib.hid (Below.refl _ _)⟩
  case round =>
    obtain ⟨m, rfl, hm, hJs, HB⟩ := hrel
    rename World => wr
    cases m with
    | zero =>
      have hd : decide ((0 : Int) ≤ ((0 : Nat) : Int) - 1) = false := decide_eq_false (by omega)
      gi_wp2_with fail
      go_end0
      exact ⟨⟨_, rfl⟩, .inl ⟨_, rfl, hJs⟩⟩
    | succ p =>
      have hp : p < R.length := by have := hm.out; omega
      rw [show (((p + 1 : Nat) : Int) - 1) = (p : Int) from by omega]
      have hd : decide ((0 : Int) ≤ (p : Int)) = true := decide_eq_true (by omega)
      have hp1 : p < 4611686018427387904 := by have := HRL.out; omega
      have hw2 : wrap64 ((p : Int) - 1) = (p : Int) - 1 := by unfold wrap64; omega
      have hdp : decide (p < R.length) = true := decide_eq_true hp
      obtain ⟨g, rfl, hcx⟩ := HROW.out wr HB.out p hp
      have hbx := HBS.out wr HB.out
      have HYY := hY _ p wr hJs (by rw [told_length]; have := hm.out; omega)
      have HTS := Lib.hid (told_step hp)
      unfold encK at HYY
      obtain ⟨px, hpx⟩ : ∃ px, str (R.getD p []) = px := ⟨_, rfl⟩
      rw [hpx] at hcx HYY
      obtain ⟨fn, tmps, assign, body, hy, hR⟩ := HYY
      clear hpx hwr
      gi_wp2
      refine ⟨fun h => Bool.noConfusion h, hR.mono ?_⟩
      rintro e W3 (⟨rfl, hJ3, hk3⟩ | ⟨rfl, hJx3⟩)
      · gi_wp2
        go_roundw
        case rel => exact ⟨p, rfl, Lib.hid (by omega), by rw [HTS.out]; exact hJ3, Lib.hid (HB.out.trans hk3)⟩
        case measure => simp [intOf]
      · gi_wp2
        refine bodyPost_ret (results_none rfl _ _ _) rfl ?_
        exact ⟨⟨_, rfl⟩, .inr ⟨_, ⟨p, by omega, HTS.out.symm⟩, hJx3⟩⟩
theorem back_stops (n : Nat) (hn : 3 ≤ n) (bs n₀ : Nat) {w0 : World} (a : Option Addr) (cp : Nat) (R : List B) (hR : R.length ≤ 4611686018427387904)
    (hn₀ : n₀ ≤ w0.heap.size) (hbs : w0.cell? ⟨bs, 0, none⟩ = some (.slice a R.length cp)) (hbn : bs < n₀)
    (hrow : ∀ k, k < R.length → ∃ g, a = some ⟨g, 0, none⟩ ∧ g < n₀ ∧ w0.cell? ⟨g, k, none⟩ = some (.string (str (R.getD k [])))) :
    SeqStopsK Fence.wide n Tryz.prog 76 #[.pointer (some ⟨bs, 0, none⟩)] (encK R) (Below n₀) (fun ys => ys = told R.length 0) (fun pre => ∃ m, m ≤ R.length ∧ pre = told R.length m) R.length w0 := by
  intro l J Jx W hW hJ hJx hY h0
  refine back_in n hn l bs n₀ a cp R hR J Jx hY W (fun W' h => by rw [h.cell hbn, hW.cell (World.block_lt_of_cell? _ _ hbs)]; exact hbs) (fun W' h k hk => ?_) h0
  obtain ⟨g, e, hg, hc⟩ := hrow k hk
  exact ⟨g, e, by rw [h.cell (by exact hg), hW.cell (World.block_lt_of_cell? _ _ hc)]; exact hc⟩
/-- the version of a text; of no version's text the zero one -/
def verOf (s : B) : Ver := match readB s with | some v => v | none => zeroV
def hasT (l : List St) (s : B) : Bool := hasL l (verOf s)
theorem sub_len : ∀ {A C : List B}, A.Nodup → (∀ x ∈ A, x ∈ C) → A.length ≤ C.length
  | [], C, _, _ => Nat.zero_le _
  | a :: A, C, h, hs => by
    obtain ⟨h1, h2⟩ := List.nodup_cons.1 h
    have ha := hs a List.mem_cons_self
    have := sub_len (C := C.erase a) h2 (fun x hx => (List.mem_erase_of_ne (fun e => h1 (by rw [← e]; exact hx))).2 (hs x (List.mem_cons_of_mem _ hx)))
    rw [List.length_erase_of_mem ha] at this
    have := List.length_pos_of_mem ha
    rw [List.length_cons]; omega
theorem sv_len {T L : List B} (h : SV T) (hs : ∀ x ∈ T, x ∈ L) : T.length ≤ L.length := by
  refine sub_len ?_ hs
  refine List.Pairwise.imp_of_mem (fun {a b} ha hb hab e => ?_) h.1
  subst e
  obtain ⟨v, hv⟩ := isT_some (h.2 a ha)
  rw [ordT_some hv hv, cmpV_self] at hab
  omega
/-- how Read of a version ends, whether there is one or not -/
theorem read_ver {s : B} {w w' : World} {x : Value} (he : ReadE s w' (.returned x)) (hn : NewE w.heap.size w' (.returned x)) : ∃ (v : Ver) (a : Option Addr) (cp : Nat) (z : Int), x = .tuple #[verV v.a v.b v.c a v.pre.length cp, .int .i64 z] ∧ verOf s = v ∧ may v = true ∧ Txs w' a cp v.pre ∧ (∀ b f, a = some ⟨b, f, none⟩ → IsText w' b) ∧ (a = none → v.pre.length = 0 ∧ cp = 0) := by
  rcases readE_cases he with ⟨v, a, cp, hrd, rfl, hT⟩ | ⟨hrd, rfl⟩
  · have h := hn _ _ _ _ _ _ _ rfl
    exact ⟨v, a, cp, 0, rfl, by unfold verOf; rw [hrd], (read_text hrd).2.2, hT, fun b f e => (h.1 b f e).2, h.2⟩
  · exact ⟨zeroV, none, 0, 70, rfl, by unfold verOf; rw [hrd], zeroV_may, Txs.nil _ _ _, fun b f e => (by cases e), fun _ => ⟨rfl, rfl⟩⟩
/-- how Pick ends -/
def PickE (s : B) (L : List B) (w : World) (e : Ending) (w' : World) : Prop := Below w.heap.size w w' ∧ match readO s with
  | none => e = .returned (.tuple #[.string (str []), .bool false, .int .i64 80])
  | some l => (L.all isT = false → e = .returned (.tuple #[.string (str []), .bool false, .int .i64 70])) ∧
    (L.all isT = true → ∃ R, SV R ∧ (∀ x, x ∈ R ↔ x ∈ L) ∧ e = match R.reverse.find? (hasT (formM l)) with
      | some t => .returned (.tuple #[.string (str t), .bool true, .int .i64 0])
      | none => .returned (.tuple #[.string (str []), .bool false, .int .i64 0]))
theorem results_three {P : Program} {fn : Func} {p q r : Tmp} {ta tb tc : TypeId} (h : fn.results = #[.cell p ta, .cell q tb, .cell r tc]) (tmps : Array Value) (w : World)
    (a : Addr) (u : Value) (hp : tmps.getD p undef = .pointer (some a)) (ha : (loadVar ta a).run P w = .ok u w)
    (b : Addr) (v : Value) (hq : tmps.getD q undef = .pointer (some b)) (hb : (loadVar tb b).run P w = .ok v w)
    (c : Addr) (z : Value) (hr : tmps.getD r undef = .pointer (some c)) (hc : (loadVar tc c).run P w = .ok z w) :
    (results fn tmps).run P w = .ok (.tuple #[u, v, z]) w := by
  have hp' : tmps[p]?.getD undef = .pointer (some a) := by simpa using hp
  have hq' : tmps[q]?.getD undef = .pointer (some b) := by simpa using hq
  have hr' : tmps[r]?.getD undef = .pointer (some c) := by simpa using hr
  simp [results, h, hp', hq', hr', asAddr, ha, hb, hc]
theorem load_text {w : World} {a : Addr} {v : Value} (hc : w.cell? a = some v) : (loadVar 9 a).run Tryz.prog w = .ok v w := by simp [loadVar, go_sem, hc]
/-- three result variables -/
structure R3 (w : World) (n : Nat) (s : ByteArray) (b : Bool) (z : Int) : Prop where
  s : w.heap[n]? = some (.cells #[.string s] 9)
  b : w.heap[n + 1]? = some (.cells #[.bool b] 4)
  z : w.heap[n + 2]? = some (.cells #[.int .i64 z] 25)
theorem R3.gr {w w' : World} {n m : Nat} {s : ByteArray} {b : Bool} {z : Int} (h : R3 w n s b z) (g : Below m w w') (hm : n + 3 ≤ m) : R3 w' n s b z := ⟨(g.block _ (by omega)).trans h.s, (g.block _ (by omega)).trans h.b, (g.block _ (by omega)).trans h.z⟩
theorem cell_one {w : World} {n : Nat} {v : Value} {t : TypeId} (h : w.heap[n]? = some (.cells #[v] t)) : w.cell? ⟨n, 0, none⟩ = some v := by unfold World.cell?; rw [h]; rfl
theorem R3.set {w : World} {n : Nat} {s : ByteArray} {b : Bool} {z : Int} (h : R3 w n s b z) (s' : ByteArray) (b' : Bool) (z' : Int) : R3 (((w.setCell ⟨n, 0, none⟩ (.string s')).setCell ⟨n + 1, 0, none⟩ (.bool b')).setCell ⟨n + 2, 0, none⟩ (.int .i64 z')) n s' b' z' := by
  refine ⟨?_, ?_, ?_⟩
  · rw [setCell_else 0 _ (by omega), setCell_else 0 _ (by omega)]; exact setCell_row h.s 0 _
  · rw [setCell_else 0 _ (by omega)]; exact setCell_row ((setCell_else 0 _ (by omega)).trans h.b) 0 _
  · exact setCell_row ((setCell_else 0 _ (by omega)).trans ((setCell_else 0 _ (by omega)).trans h.z)) 0 _
theorem R3.new (w : World) : R3 (((w.alloc (.cells #[.string ⟨#[]⟩] 9)).alloc (.cells #[.bool false] 4)).alloc (.cells #[.int .i64 0] 25)) w.heap.size ⟨#[]⟩ false 0 := by
  have b1 := heap_alloc_new (w.alloc (.cells #[.string ⟨#[]⟩] 9)) (.cells #[.bool false] 4)
  rw [World.size_alloc] at b1
  have b2 := heap_alloc_new ((w.alloc (.cells #[.string ⟨#[]⟩] 9)).alloc (.cells #[.bool false] 4)) (.cells #[.int .i64 0] 25)
  rw [World.size_alloc, World.size_alloc] at b2
  refine ⟨?_, ?_, b2⟩
  · rw [heap_alloc_old _ _ (by simp; omega), heap_alloc_old _ _ (by simp)]; exact heap_alloc_new w _
  · rw [heap_alloc_old _ _ (by simp)]; exact b1
theorem R3.low {w w0 : World} {n : Nat} (h : Below n w0 w) (s : Value) (b : Value) (z : Value) : Below n w0 (((w.setCell ⟨n, 0, none⟩ s).setCell ⟨n + 1, 0, none⟩ b).setCell ⟨n + 2, 0, none⟩ z) :=
  ((h.setCell (Nat.le_refl _) _).setCell (by show n ≤ n + 1; omega) _).setCell (by show n ≤ n + 2; omega) _
set_option maxHeartbeats 16000000 in
set_option maxRecDepth 100000 in
theorem ppick_in (s : B) (L : List B) (vv : Value) (hvv : ∃ a n cp, vv = .slice a n cp) (w : World) (hv : Vw w) (hl : s.length ≤ 9223372036854775807) (hso : ∀ w', Below w.heap.size w w' → Calls Tryz.prog 48 #[vv] w' (SortVE L w')) (hLL : L.length ≤ 1000) :
    CallsIn Fence.wide 6 Tryz.prog 23 #[.string (str s), vv] w (PickE s L w) := by
  obtain ⟨va, vn, vc, rfl⟩ := hvv
  have HR3 := Lib.hid (R3.new w)
  have HB0 : Hid (Below w.heap.size w (((w.alloc (.cells #[.string ⟨#[]⟩] 9)).alloc (.cells #[.bool false] 4)).alloc (.cells #[.int .i64 0] 25))) := Lib.hid ((((Below.refl _ w).alloc (Nat.le_refl _) _).alloc (by simp) _).alloc (by simp; omega) _)
  have HS0 : Hid ((((w.alloc (.cells #[.string ⟨#[]⟩] 9)).alloc (.cells #[.bool false] 4)).alloc (.cells #[.int .i64 0] 25)).heap.size = w.heap.size + 3) := Lib.hid (by simp)
  obtain ⟨W0, hW0⟩ : ∃ W0, ((w.alloc (.cells #[.string ⟨#[]⟩] 9)).alloc (.cells #[.bool false] 4)).alloc (.cells #[.int .i64 0] 25) = W0 := ⟨_, rfl⟩
  rw [hW0] at HR3 HB0 HS0
  have HRD := Lib.hid (pread_any s W0 (hv.gr HB0.out) hl)
  have HV := Lib.hid hv
  have HSO := Lib.hid hso
  have HW0 := Lib.hid hW0
  have HLN : Hid (∀ l, readO s = some l → l.length ≤ 129) := Lib.hid fun l h => readO_len h
  have HPE : Hid (∀ e w', Below w.heap.size w w' → (readO s = none → e = .returned (.tuple #[.string (str []), .bool false, .int .i64 80])) → (∀ l, readO s = some l → (L.all isT = false → e = .returned (.tuple #[.string (str []), .bool false, .int .i64 70])) ∧
    (L.all isT = true → ∃ R, SV R ∧ (∀ x, x ∈ R ↔ x ∈ L) ∧ e = match R.reverse.find? (hasT (formM l)) with
      | some t => .returned (.tuple #[.string (str t), .bool true, .int .i64 0])
      | none => .returned (.tuple #[.string (str []), .bool false, .int .i64 0]))) → PickE s L w e w') := Lib.hid (fun e w' h1 h2 h3 => by
    refine ⟨h1, ?_⟩
    cases hr : readO s with
    | none => exact h2 hr
    | some l => exact h3 l hr)
  generalize readO s = ro at *
  generalize hPK : PickE s L w = PK at *
  clear hv hl hso hW0 hPK
  have HS1 : Hid (∀ w1, Below W0.heap.size W0 w1 → R3 w1 w.heap.size ⟨#[]⟩ false 0 ∧ Below w.heap.size w w1 ∧ w.heap.size + 3 ≤ w1.heap.size) := Lib.hid (fun w1 h => ⟨HR3.out.gr h (by rw [HS0.out]; omega), HB0.out.trans (h.mono HB0.out.size), by have := h.size; rw [HS0.out] at this; exact this⟩)
  clear HR3 HB0 HS0
  refine callsIn_of_wp_marks Tryz.func23 rfl trivial ?_ rfl
  simp only [Tryz.ntmps23, List.size_toArray, List.length_cons, List.length_nil, Nat.reduceAdd, Nat.reduceSub, Array.replicate_succ, Array.replicate_zero, List.push_toArray, List.append_toArray, List.nil_append, List.cons_append]
  cases ro with
  | none =>
    gi_upto_region 2 with (refine ⟨trivial, ?_⟩; gi_at_call 47; change CallsIn Fence.wide 5 Tryz.prog _ _ (((w.alloc (.cells #[.string ⟨#[]⟩] 9)).alloc (.cells #[.bool false] 4)).alloc (.cells #[.int .i64 0] 25)) _; rw [HW0.out]; refine (callsIn_wide.2 HRD.out).mono ?_; rintro e w1 ⟨hb1, hno, -⟩; obtain rfl := hno rfl; obtain ⟨hr31, hb01, hs1⟩ := HS1.out w1 hb1; have HR31 := Lib.hid hr31; have HB1 := Lib.hid hb01; have HSZ := Lib.hid hs1; clear hno hb1 hr31 hb01 hs1)
    have HR32 := Lib.hid (HR31.out.gr ((Below.refl _ w1).alloc (Nat.le_refl _) (.cells #[.slice none 0 0] 54)) HSZ.out)
    have HB2 := Lib.hid (HB1.out.alloc HB1.out.size (.cells #[.slice none 0 0] 54))
    obtain ⟨W2, hW2⟩ : ∃ W2, w1.alloc (.cells #[.slice none 0 0] 54) = W2 := ⟨_, rfl⟩
    rw [hW2] at HR32 HB2 ⊢
    clear hW2
    have c0 := cell_one HR32.out.s
    have c1 := cell_one HR32.out.b
    have c2 := cell_one HR32.out.z
    have c2' : W2.cell? ⟨w.heap.size + 1 + 1, 0, none⟩ = some (.int .i64 0) := c2
    have f0 := ver_frozen HR32.out.s 0
    have f1 := ver_frozen HR32.out.b 0
    have f2 := ver_frozen HR32.out.z 0
    have f2' : W2.frozen? ⟨w.heap.size + 1 + 1, 0, none⟩ = false := f2
    gi_wp2_with fail
    have hS := HR32.out.set ⟨#[]⟩ false 80
    refine ⟨_, results_three rfl _ _ ⟨w.heap.size, 0, none⟩ _ rfl (load_text (cell_one hS.s)) ⟨w.heap.size + 1, 0, none⟩ _ rfl (load_bool (cell_one hS.b)) ⟨w.heap.size + 2, 0, none⟩ _ rfl (load_no (cell_one hS.z)), ?_⟩
    exact HPE.out _ _ (R3.low HB2.out _ _ _) (fun _ => rfl) (fun l h => by cases h)
  | some l =>
    gi_upto_region 4 with (refine ⟨trivial, ?_⟩; gi_at_call 47; change CallsIn Fence.wide 5 Tryz.prog _ _ (((w.alloc (.cells #[.string ⟨#[]⟩] 9)).alloc (.cells #[.bool false] 4)).alloc (.cells #[.int .i64 0] 25)) _; rw [HW0.out]; refine (callsIn_wide.2 HRD.out).mono ?_; rintro e w1 ⟨hb1, -, hyes⟩; obtain ⟨u, R, rfl, hr, hok, hm⟩ := hyes l rfl; obtain ⟨ua, uc, rfl⟩ := hr.value; obtain ⟨hr31, hb01, hs1⟩ := HS1.out w1 hb1; have HR31 := Lib.hid hr31; have HB1 := Lib.hid hb01; have HSZ := Lib.hid hs1; have HRR := Lib.hid hr; have HOK := Lib.hid hok; have HM := Lib.hid hm; clear hyes hb1 hr31 hb01 hs1 hr hok hm)
    have HR32 := Lib.hid (HR31.out.gr ((Below.refl _ w1).alloc (Nat.le_refl _) (.cells #[.slice ua R.length uc] 54)) HSZ.out)
    have HB2 := Lib.hid (HB1.out.alloc HB1.out.size (.cells #[.slice ua R.length uc] 54))
    have HBX := Lib.hid (heap_alloc_new w1 (.cells #[.slice ua R.length uc] 54))
    have HRR2 := Lib.hid (HRR.out.below ((Below.refl _ w1).alloc (Nat.le_refl _) (.cells #[.slice ua R.length uc] 54)))
    have HOK2 := Lib.hid (HOK.out.gr ((Below.refl _ w1).alloc (Nat.le_refl _) (.cells #[.slice ua R.length uc] 54)))
    have HS2 : Hid ((w1.alloc (.cells #[.slice ua R.length uc] 54)).heap.size = w1.heap.size + 1) := Lib.hid (by simp)
    obtain ⟨W2, hW2⟩ : ∃ W2, w1.alloc (.cells #[.slice ua R.length uc] 54) = W2 := ⟨_, rfl⟩
    rw [hW2] at HR32 HB2 HBX HRR2 HOK2 HS2 ⊢
    have HST := Lib.hid (HSO.out W2 HB2.out)
    clear hW2 HRD HSO HRR HOK HR31 HB1 HW0 HS1
    rcases Bool.eq_false_or_eq_true (L.all isT) with hT | hT
    rotate_left
    · gi_upto_region 5 with (refine ⟨trivial, ?_⟩; gi_at_call 48; refine (callsIn_wide.2 HST.out).mono ?_; rintro e w2 ⟨hb2, h0, -⟩; obtain rfl := h0 hT; have HBB := Lib.hid hb2; clear h0 hb2)
      have HR33 := Lib.hid (HR32.out.gr HBB.out (by have := HS2.out; have := HSZ.out; omega))
      have HB3 := Lib.hid (HB2.out.trans (HBB.out.mono HB2.out.size))
      clear HST HR32 HBX HRR2 HOK2
      have c0 := cell_one HR33.out.s
      have c1 := cell_one HR33.out.b
      have c2 := cell_one HR33.out.z
      have c2' : w2.cell? ⟨w.heap.size + 1 + 1, 0, none⟩ = some (.int .i64 0) := c2
      have f0 := ver_frozen HR33.out.s 0
      have f1 := ver_frozen HR33.out.b 0
      have f2 := ver_frozen HR33.out.z 0
      have f2' : w2.frozen? ⟨w.heap.size + 1 + 1, 0, none⟩ = false := f2
      gi_wp2_with fail
      have hS := HR33.out.set ⟨#[]⟩ false 70
      refine ⟨_, results_three rfl _ _ ⟨w.heap.size, 0, none⟩ _ rfl (load_text (cell_one hS.s)) ⟨w.heap.size + 1, 0, none⟩ _ rfl (load_bool (cell_one hS.b)) ⟨w.heap.size + 2, 0, none⟩ _ rfl (load_no (cell_one hS.z)), ?_⟩
      exact HPE.out _ _ (R3.low HB3.out _ _ _) (fun h => by cases h) (fun l' h => ⟨fun _ => rfl, fun h2 => by rw [hT] at h2; cases h2⟩)
    · gi_upto_region 7 with (refine ⟨trivial, ?_⟩; gi_at_call 48; refine (callsIn_wide.2 HST.out).mono ?_; rintro e w2 ⟨hb2, -, h1⟩; obtain ⟨ta, tc, T, rfl, hto, hsv, hmem⟩ := h1 hT; have HBB := Lib.hid hb2; have HTO := Lib.hid hto; have HSV := Lib.hid hsv; have HME := Lib.hid hmem; clear h1 hb2 hto hsv hmem)
      have HR33 := Lib.hid (HR32.out.gr HBB.out (by have := HS2.out; have := HSZ.out; omega))
      have HB3 := Lib.hid (HB2.out.trans (HBB.out.mono HB2.out.size))
      have HBX3 := Lib.hid ((HBB.out.block _ (Array.getElem?_eq_some_iff.1 HBX.out).1).trans HBX.out)
      have HRR3 := Lib.hid (HRR2.out.below HBB.out)
      have HOK3 := Lib.hid (HOK2.out.gr HBB.out)
      have HS3 : Hid (w1.heap.size + 1 ≤ w2.heap.size) := Lib.hid (by have := HBB.out.size; have := HS2.out; omega)
      clear HST HR32 HBX HRR2 HOK2 HB2 HBB HS2
      have HTL : Hid (T.length ≤ 4611686018427387904) := Lib.hid (by
        have := sv_len HSV.out (fun x hx => (HME.out x).1 hx)
        omega)
      have HRL : Hid (R.length ≤ 1000000) := Lib.hid (by have h := congrArg List.length HM.out; rw [List.length_map] at h; have h2 := formM_len l; have h3 := HLN.out l rfl; omega)
      have HROW : Hid (∀ k, k < T.length → ∃ g, ta = some ⟨g, 0, none⟩ ∧ g < w2.heap.size ∧ w2.cell? ⟨g, k, none⟩ = some (.string (str (T.getD k [])))) := Lib.hid (fun k hk => by
        have h := HTO.out
        unfold OwnS at h
        rcases h.2 with ⟨_, h0⟩ | ⟨g, cap, cur, h0, _, h3, h1, h2, _⟩
        · omega
        · simp only [Value.slice.injEq] at h0
          obtain ⟨rfl, -, rfl⟩ := h0
          refine ⟨g, rfl, (Array.getElem?_eq_some_iff.1 h3).1, ?_⟩
          rw [h.cellAt k (by simpa using hk)]
          simp [encT, hk])
      clear HTO
      gi_wp2_with (refine ⟨trivial, ?_⟩; gi_at_call 49; refine (callsIn_wide.2 (back_any _ _ _ _)).mono ?_; rintro e w3 ⟨rfl, rfl⟩)
      have hbox := heap_alloc_new w2 (.cells #[.slice ta T.length tc] 34)
      have hb3 : Below w2.heap.size w2 (w2.alloc (.cells #[.slice ta T.length tc] 34)) := (Below.refl _ w2).alloc (Nat.le_refl _) _
      have HS4 : Hid ((w2.alloc (.cells #[.slice ta T.length tc] 34)).heap.size = w2.heap.size + 1) := Lib.hid (by simp)
      have HR34 := Lib.hid (HR33.out.gr hb3 (by have := HS3.out; have := HSZ.out; omega))
      have HB4 := Lib.hid (HB3.out.trans (hb3.mono HB3.out.size))
      have HBX4 := Lib.hid ((hb3.block _ (Array.getElem?_eq_some_iff.1 HBX3.out).1).trans HBX3.out)
      have HRR4 := Lib.hid (HRR3.out.below hb3)
      have HOK4 := Lib.hid (HOK3.out.gr hb3)
      have HROW4 : Hid (∀ k, k < T.length → ∃ g, ta = some ⟨g, 0, none⟩ ∧ g < (w2.alloc (.cells #[.slice ta T.length tc] 34)).heap.size ∧ (w2.alloc (.cells #[.slice ta T.length tc] 34)).cell? ⟨g, k, none⟩ = some (.string (str (T.getD k [])))) := Lib.hid (fun k hk => by
        obtain ⟨g, e, hg, hc⟩ := HROW.out k hk
        exact ⟨g, e, by simp; omega, by rw [hb3.cell (by exact hg)]; exact hc⟩)
      have hbc : (w2.alloc (.cells #[.slice ta T.length tc] 34)).cell? ⟨w2.heap.size, 0, none⟩ = some (.slice ta T.length tc) := cell_one hbox
      obtain ⟨W3, hW3⟩ : ∃ W3, w2.alloc (.cells #[.slice ta T.length tc] 34) = W3 := ⟨_, rfl⟩
      rw [hW3] at HS4 HR34 HB4 HBX4 HRR4 HOK4 HROW4 hbc ⊢
      have HPS := Lib.hid (back_stops 5 (by decide) w2.heap.size W3.heap.size ta tc T HTL.out (Nat.le_refl _) hbc (by have := HS4.out; omega) HROW4.out)
      clear hbox hb3 hbc hW3 HR33 HB3 HBX3 HRR3 HOK3 HROW HROW4
      refine wpIn_rangeFunc_ownG rfl (by decide) (gf := 76) (lb := #[.pointer (some ⟨w2.heap.size, 0, none⟩)]) rfl trivial (enters_of Tryz.func76 (by kernel_rfl) rfl)
        HPS.out belowK_t (belowK_b (Nat.le_refl _)) (Below.refl _ _) (fun _ => rfl)
        (fun (pre : List Nat) W => (∀ k ∈ pre, hasT (formM l) (T.getD k []) = false) ∧ Below W3.heap.size W3 W)
        (fun c pre W => c = .ret ∧ (∃ pre' x, pre = pre' ++ [x] ∧ (∀ k ∈ pre', hasT (formM l) (T.getD k []) = false) ∧ hasT (formM l) (T.getD x []) = true ∧ R3 W w.heap.size (str (T.getD x [])) true 0) ∧ Below w.heap.size w W)
        ?own ?ownX
        ⟨fun k hk => (by cases hk), Below.refl _ _⟩
        (fun (x : Nat) => { tmps := #[.string (str s), .slice va vn vc, undef, undef, .pointer (some ⟨w.heap.size, 0, none⟩), .pointer (some ⟨w.heap.size + 1, 0, none⟩), .pointer (some ⟨w.heap.size + 1 + 1, 0, none⟩), .pointer (some ⟨w1.heap.size, 0, none⟩), .int .i64 0, .slice ta T.length tc, undef, .string (str (T.getD x [])), undef, undef, .tuple #[.slice ua R.length uc, .int .i64 0], .string (str s), .tuple #[.slice ua R.length uc, .int .i64 0], .slice ua R.length uc, .int .i64 0, .int .i64 0, .bool false, undef, .tuple #[.slice ta T.length tc, .int .i64 0], .slice va vn vc, .tuple #[.slice ta T.length tc, .int .i64 0], .slice ta T.length tc, .int .i64 0, .int .i64 0, .bool false, undef, .slice ta T.length tc, .func (.func 76) #[] #[.pointer (some ⟨w2.heap.size, 0, none⟩)], .int .i64 (x : Int), .string (str (T.getD x [])), undef, undef, undef, undef, undef, undef, undef, undef, undef], defers := [] }) ?assign ?body ?done ?stop
      case own =>
        rintro pre W W' row ⟨q1, q2⟩ hg hr
        exact ⟨q1, q2.grown hg q2.size (fun k e => (hr k e).1)⟩
      case ownX =>
        rintro c pre W W' row ⟨q1, ⟨pre', x, q2, q3, q4, q5⟩, q6⟩ hg hr
        have h4 := HS4.out
        have h3 := HS3.out
        have hz := HSZ.out
        have key : ∀ k, k < w.heap.size + 3 → some k ≠ row := fun k hk e => by have := (hr _ e.symm).1; omega
        have hlz := (Array.getElem?_eq_some_iff.1 q5.z).1
        refine ⟨q1, ⟨pre', x, q2, q3, q4, ⟨?_, ?_, ?_⟩⟩, q6.grown hg q6.size (fun k e => by have := (hr k e).1; omega)⟩
        · exact (hg.block _ (by omega) (key _ (by omega))).trans q5.s
        · exact (hg.block _ (by omega) (key _ (by omega))).trans q5.b
        · exact (hg.block _ (by omega) (key _ (by omega))).trans q5.z
      case assign =>
        intro l x W K hK
        dsimp only [encK]
        gi_wp2
        exact hK
      case stop =>
        rintro D c pre W hD ⟨m, hm, rfl⟩ ⟨rfl, ⟨pre', x, q2, q3, q4, q5⟩, q6⟩ hK
        have h4 := HS4.out
        have h3 := HS3.out
        have hz := HSZ.out
        have HF : Hid (T.reverse.find? (hasT (formM l)) = some (T.getD x [])) := Lib.hid (by
          have hml : m < T.length := by
            rcases Nat.lt_or_ge m T.length with h | h
            · exact h
            · have := congrArg List.length q2
              rw [told_length, List.length_append] at this
              simp at this
              omega
          rw [told_step hml] at q2
          obtain ⟨e1, e2⟩ := List.append_inj' q2 rfl
          obtain rfl : m = x := by simpa using e2
          subst e1
          exact find_told hml q3 q4)
        have HQ5 : Hid (R3 (W.putObj D (.deferred none)) w.heap.size (str (T.getD x [])) true 0) := Lib.hid ⟨(World.putObj_heap_other (by omega)).trans q5.s, (World.putObj_heap_other (by omega)).trans q5.b, (World.putObj_heap_other (by omega)).trans q5.z⟩
        have HQ6 := Lib.hid q6
        clear q2 q3 q4 q5 q6
        gi_wp2
        refine ⟨by simp, .inl ⟨_, _, rfl, run_takeDeferred hK, ?_⟩⟩
        refine ⟨_, results_three rfl _ _ ⟨w.heap.size, 0, none⟩ _ rfl (load_text (cell_one HQ5.out.s)) ⟨w.heap.size + 1, 0, none⟩ _ rfl (load_bool (cell_one HQ5.out.b)) ⟨w.heap.size + 2, 0, none⟩ _ rfl (load_no (cell_one HQ5.out.z)), ?_⟩
        refine HPE.out _ _ (HQ6.out.trans (belowK_b (w := W3) HB4.out.size W D _ _ hD hK rfl rfl)) (fun h => by cases h) (fun l' h => ?_)
        cases h
        exact ⟨fun h2 => (by rw [hT] at h2; cases h2), fun _ => ⟨T, HSV.out, HME.out, by rw [HF.out]⟩⟩
      case done =>
        rintro D ys W hD rfl ⟨q1, q2⟩ hK
        have h4 := HS4.out
        have h3 := HS3.out
        have hz := HSZ.out
        have HF : Hid (T.reverse.find? (hasT (formM l)) = none) := Lib.hid (find_none q1)
        have HBW := Lib.hid (HB4.out.trans (q2.mono HB4.out.size))
        have HRW := Lib.hid (HR34.out.gr q2 (by omega))
        clear q1 q2
        have c0 := cell_one HRW.out.s
        have c1 := cell_one HRW.out.b
        have c2 := cell_one HRW.out.z
        have c2' : W.cell? ⟨w.heap.size + 1 + 1, 0, none⟩ = some (.int .i64 0) := c2
        have f0 := ver_frozen HRW.out.s 0
        have f1 := ver_frozen HRW.out.b 0
        have f2 := ver_frozen HRW.out.z 0
        have f2' : W.frozen? ⟨w.heap.size + 1 + 1, 0, none⟩ = false := f2
        gi_wp2_with fail
        have hS := HRW.out.set ⟨#[]⟩ false 0
        have hDl : D ≠ w.heap.size ∧ D ≠ w.heap.size + 1 ∧ D ≠ w.heap.size + 2 := ⟨by omega, by omega, by omega⟩
        have hK2 : (((W.setCell ⟨w.heap.size, 0, none⟩ (.string ⟨#[]⟩)).setCell ⟨w.heap.size + 1, 0, none⟩ (.bool false)).setCell ⟨w.heap.size + 2, 0, none⟩ (.int .i64 0)).heap[D]? = some (.deferred (some [])) := (setCell_else 0 _ hDl.2.2).trans ((setCell_else 0 _ hDl.2.1).trans ((setCell_else 0 _ hDl.1).trans hK))
        have hL := R3.low HBW.out (.string ⟨#[]⟩) (.bool false) (.int .i64 0)
        obtain ⟨W5, hW5⟩ : ∃ W5, ((W.setCell ⟨w.heap.size, 0, none⟩ (.string ⟨#[]⟩)).setCell ⟨w.heap.size + 1, 0, none⟩ (.bool false)).setCell ⟨w.heap.size + 2, 0, none⟩ (.int .i64 0) = W5 := ⟨_, rfl⟩
        rw [hW5] at hS hK2 hL
        have hQ5 : R3 (W5.putObj D (.deferred none)) w.heap.size ⟨#[]⟩ false 0 := ⟨(World.putObj_heap_other (by omega)).trans hS.s, (World.putObj_heap_other (by omega)).trans hS.b, (World.putObj_heap_other (by omega)).trans hS.z⟩
        refine ⟨by simp, .inl ⟨_, W5.putObj D (.deferred none), rfl, ?_, ?_⟩⟩
        · have h := run_takeDeferred (P := Tryz.prog) hK2
          rw [← hW5] at h ⊢
          exact h
        refine ⟨_, results_three rfl _ _ ⟨w.heap.size, 0, none⟩ _ rfl (load_text (cell_one hQ5.s)) ⟨w.heap.size + 1, 0, none⟩ _ rfl (load_bool (cell_one hQ5.b)) ⟨w.heap.size + 2, 0, none⟩ _ rfl (load_no (cell_one hQ5.z)), ?_⟩
        refine HPE.out _ _ (hL.trans (belowK_b (w := W3) HB4.out.size W5 D _ _ hD hK2 rfl rfl)) (fun h => by cases h) (fun l' h => ?_)
        cases h
        exact ⟨fun h2 => (by rw [hT] at h2; cases h2), fun _ => ⟨T, HSV.out, HME.out, by rw [HF.out]; rfl⟩⟩
      case body =>
        rintro lw pre x W ⟨q1, q2⟩ hlt
        have h4 := HS4.out
        have h3 := HS3.out
        have hz := HSZ.out
        have HQ1 := Lib.hid q1
        have HQ2 := Lib.hid q2
        have HBW := Lib.hid (HB4.out.trans (q2.mono HB4.out.size))
        have HRW := Lib.hid (HR34.out.gr q2 (by omega))
        have HXW := Lib.hid ((q2.block w1.heap.size (by omega)).trans HBX4.out)
        have HRRW := Lib.hid (HRR4.out.below q2)
        have HOKW := Lib.hid (HOK4.out.gr q2)
        have HRDV := Lib.hid (pReadN_val (T.getD x []) W (HV.out.gr HBW.out))
        have HPX : Hid (hasT (formM l) (T.getD x []) = hasL (R.map StR.st) (verOf (T.getD x []))) := Lib.hid (by rw [HM.out]; rfl)
        clear q1 q2 hlt h4 h3 hz HPS HSV HME
        obtain ⟨tx, htx⟩ : ∃ tx, T.getD x [] = tx := ⟨_, rfl⟩
        have HTX := Lib.hid htx
        rw [htx] at HRDV HPX ⊢
        clear htx
        gi_upto_region 10 with (refine ⟨trivial, ?_⟩; gi_at_call 50; refine ((callsIn_wide.2 HRDV.out).inRound lw).mono ?_; rintro e w5 ⟨xv, rfl, he, hb5, hnw⟩; obtain ⟨v, a, cp, zz, rfl, hvo, hmv, hTv, hkv, hnv⟩ := read_ver he hnw; have HVO := Lib.hid hvo; have HMV := Lib.hid hmv; have HTV := Lib.hid hTv; have HKV := Lib.hid hkv; have HNV := Lib.hid hnv; have HB5 := Lib.hid hb5; clear he hnw hvo hmv hTv hkv hnv hb5)
        have hnv := heap_alloc_new w5 (verO v.a v.b v.c a v.pre.length cp)
        have HBA : Hid (Below W.heap.size W (w5.alloc (verO v.a v.b v.c a v.pre.length cp))) := Lib.hid (HB5.out.alloc HB5.out.size _)
        have HT6 := Lib.hid (HTV.out.alloc (verO v.a v.b v.c a v.pre.length cp))
        have HK6 : Hid (∀ b f, a = some ⟨b, f, none⟩ → IsText (w5.alloc (verO v.a v.b v.c a v.pre.length cp)) b) := Lib.hid (fun b f e => (HKV.out b f e).below ((Below.refl _ w5).alloc (Nat.le_refl _) _))
        have HS6 : Hid ((w5.alloc (verO v.a v.b v.c a v.pre.length cp)).heap.size = w5.heap.size + 1) := Lib.hid (by simp)
        obtain ⟨W6, hW6⟩ : ∃ W6, w5.alloc (verO v.a v.b v.c a v.pre.length cp) = W6 := ⟨_, rfl⟩
        change Code.wpIn _ _ _ _ _ _ (w5.alloc (verO v.a v.b v.c a v.pre.length cp))
        rw [hW6] at hnv HBA HT6 HK6 HS6 ⊢
        have HR6 := Lib.hid (HRW.out.gr HBA.out (by have := HRW.out; have h := (Array.getElem?_eq_some_iff.1 HXW.out).1; have hz := HSZ.out; omega))
        have hcx := cell_one ((HBA.out.block _ (Array.getElem?_eq_some_iff.1 HXW.out).1).trans HXW.out)
        have HB6 := Lib.hid (HBW.out.trans (HBA.out.mono HBW.out.size))
        have HQ6 := Lib.hid (HQ2.out.trans (HBA.out.mono HQ2.out.size))
        have HHS := Lib.hid (phas_any (.slice ua R.length uc) R v a cp W6 (row_base (HRRW.out.below HBA.out) (Nat.zero_le _)) (HOKW.out.gr HBA.out) HMV.out HT6.out HK6.out HNV.out HRL.out)
        have HBN : Hid (Below W3.heap.size W W6) := Lib.hid (HBA.out.mono HQ2.out.size)
        have HKF : Hid (KeepsFrom W3.heap.size W W6) := Lib.hid (keepsB HBA.out)
        have HWW : Hid (W3.heap.size ≤ W6.heap.size ∧ w.heap.size + 3 ≤ W6.heap.size ∧ w.heap.size + 3 ≤ W3.heap.size) := Lib.hid ⟨HQ6.out.size, by have := HBA.out.size; have h := (Array.getElem?_eq_some_iff.1 HXW.out).1; have hz := HSZ.out; omega, by have h4 := HS4.out; have h3 := HS3.out; have hz := HSZ.out; omega⟩
        have hve : hasL (R.map StR.st) v = hasT (formM l) tx := by rw [HPX.out, HVO.out]
        rw [hve] at HHS
        clear hve
        clear hW6 HVO HTV HKV HB5 HBA HRRW HOKW HXW HRW HBW HRDV HT6 HK6 HPX HMV HNV
        obtain ⟨bb, hbb⟩ : ∃ bb, hasT (formM l) tx = bb := ⟨_, rfl⟩
        have HBB := Lib.hid hbb
        rw [hbb] at HHS
        clear hbb
        cases bb with
        | false =>
          gi_wp2_with (first
            | (refine wpListIn_load_row rfl 36 _ rfl w5.heap.size rfl _ _ _ _ hnv Tryz.underlying36 rfl info_ver ?_)
            | (refine ⟨trivial, ?_⟩; gi_at_call 33; refine ((callsIn_wide.2 HHS.out).inRound lw).mono ?_; rintro e w7 ⟨rfl, hb7⟩; have HB7 := Lib.hid hb7; clear hb7))
          exact ⟨HKF.out.trans (keepsB HB7.out), HBN.out.trans (HB7.out.mono HWW.out.1), fun k hk => (by
            rcases List.mem_append.1 hk with h | h
            · exact HQ1.out k h
            · rw [List.mem_singleton.1 h, HTX.out]; exact HBB.out), HQ6.out.trans (HB7.out.mono HWW.out.1)⟩
        | true =>
          gi_upto_region 11 with (first
            | (refine wpListIn_load_row rfl 36 _ rfl w5.heap.size rfl _ _ _ _ hnv Tryz.underlying36 rfl info_ver ?_)
            | (refine ⟨trivial, ?_⟩; gi_at_call 33; refine ((callsIn_wide.2 HHS.out).inRound lw).mono ?_; rintro e w7 ⟨rfl, hb7⟩; have HB7 := Lib.hid hb7; clear hb7))
          have HR7 := Lib.hid (HR6.out.gr HB7.out HWW.out.2.1)
          have HBZ := Lib.hid (HB6.out.trans (HB7.out.mono (by have := HWW.out.2.1; omega)))
          clear HR6 hcx hnv
          have c0 := cell_one HR7.out.s
          have c1 := cell_one HR7.out.b
          have c2 := cell_one HR7.out.z
          have c2' : w7.cell? ⟨w.heap.size + 1 + 1, 0, none⟩ = some (.int .i64 0) := c2
          have f0 := ver_frozen HR7.out.s 0
          have f1 := ver_frozen HR7.out.b 0
          have f2 := ver_frozen HR7.out.z 0
          have f2' : w7.frozen? ⟨w.heap.size + 1 + 1, 0, none⟩ = false := f2
          gi_wp2_with fail
          have hs3 := HWW.out.2.2
          exact ⟨(((HKF.out.trans (keepsB HB7.out)).trans (keepsCell (by show w.heap.size < W3.heap.size; omega))).trans (keepsCell (by show w.heap.size + 1 < W3.heap.size; omega))).trans (keepsCell (by show w.heap.size + 2 < W3.heap.size; omega)), rfl, ⟨pre, x, rfl, HQ1.out, by rw [HTX.out]; exact HBB.out, by rw [HTX.out]; exact HR7.out.set _ _ _⟩, R3.low HBZ.out _ _ _⟩
theorem pPick_any (s : B) (L : List B) (b o cap : Nat) (w : World) (hv : Vw w) (hl : s.length ≤ 9223372036854775807) (hp : 0 < L.length) (hL : L.length ≤ 200) (hb : b < w.heap.size) (hc : TextsIn w b o L) :
    Calls Tryz.prog 23 #[.string (str s), .slice (some ⟨b, o, none⟩) L.length cap] w (PickE s L w) :=
  (callsIn_wide (n := 6)).1 (ppick_in s L _ ⟨_, _, _, rfl⟩ w hv hl (fun w' h => psortv_any b o cap L w' (hv.gr h) hp hL (Nat.lt_of_lt_of_le hb h.size) (hc.below h hb)) (by omega))
theorem pPick_nil (s : B) (a : Option Addr) (cap : Nat) (w : World) (hv : Vw w) (hl : s.length ≤ 9223372036854775807) :
    Calls Tryz.prog 23 #[.string (str s), .slice a 0 cap] w (PickE s [] w) :=
  (callsIn_wide (n := 6)).1 (ppick_in s [] _ ⟨_, _, _, rfl⟩ w hv hl (fun w' h => (psortv_none a cap w').mono fun e w'' ⟨he, hw⟩ => by
    subst hw
    exact ⟨Below.refl _ _, fun h => (by cases h), fun _ => ⟨none, 0, [], he, OwnS.nil _ _, SV.nil, fun x => Iff.rfl⟩⟩) (by simp))
end SpanC
end Go.Proofs.YtapikdgncdcneaaGreatDoor
