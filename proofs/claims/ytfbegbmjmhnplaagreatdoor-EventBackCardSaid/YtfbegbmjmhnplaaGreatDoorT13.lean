/-
  What the proof of EvBoth stands on, part 13.
-/
import Derived.Lib.CutLaws
import Derived.Lib.IndexMore
import Derived.LoopIn
import Derived.LoopNIn
import Derived.OwnWalkIn
import Derived.RangeFuncBound
import Derived.RangeFuncBox
import Derived.RangeFuncCalls
import Derived.RangeFuncLeaves
import Derived.RangeFuncNested
import Derived.Shelf.Abstract
import Derived.Shelf.RegionOpen
import Derived.Sort.CutIn
import Derived.Sort.QuietIn
import Derived.TacticsInMore
import Derived.Test.YtfbegbmjmhnplaaGreatDoorT12
set_option linter.unusedSimpArgs false
set_option linter.unusedVariables false
set_option maxHeartbeats 16000000
namespace Go.Proofs.YtfbegbmjmhnplaaGreatDoor
open Go.Lib (hid)
section
open Go.RowKit Go.Shelf
namespace SpanC
open VerM SpanM StrC TextR VerC
attribute [local go_sem] Oper.semAt_some
def zjy (d : B) : Nat → B → List B
 | 0, s => [s]
 | n + 1, s => (Lib.cut s d).1 :: (if (Lib.cut s d).2.2 then zjy d n (Lib.cut s d).2.1 else [])
def zjz (d s : B) : List B := zjy d s.length s
theorem zka {s d : B} (h : (Lib.cut s d).2.2 = true) : (Lib.cut s d).1.length + d.length + (Lib.cut s d).2.1.length = s.length := by
 unfold Lib.cut at *
 by_cases h0 : 0 ≤ Lib.index s d
 · have := Lib.index_room s d h0
   rw [if_pos h0]
   simp
   omega
 · rw [if_neg h0] at h
   cases h
theorem cut_len (s d : B) : (Lib.cut s d).1.length ≤ s.length := by
 unfold Lib.cut
 split
 · simp; omega
 · simp
theorem zkb {d : B} (hd : d ≠ []) : Lib.cut [] d = ([], [], false) := by
 unfold Lib.cut
 have : Lib.index [] d = -1 := by
  unfold Lib.index
  cases d with
  | nil => exact absurd rfl hd
  | cons c t => rfl
 rw [this]; rfl
theorem zkc {d : B} (hd : d ≠ []) : ∀ m, zjy d m [] = [[]]
 | 0 => rfl
 | m + 1 => by rw [zjy, zkb hd]; rfl
theorem zkd {d : B} (hd : d ≠ []) : ∀ (n m : Nat) (s : B), s.length ≤ n → s.length ≤ m → zjy d n s = zjy d m s := by
 have hd0 : 0 < d.length := List.length_pos_iff.2 hd
 intro n
 induction n with
 | zero =>
   intro m s h1 h2
   obtain rfl : s = [] := List.eq_nil_of_length_eq_zero (by omega)
   rw [zkc hd, zkc hd]
 | succ n ih =>
   intro m s h1 h2
   cases m with
   | zero =>
     obtain rfl : s = [] := List.eq_nil_of_length_eq_zero (by omega)
     rw [zkc hd, zkc hd]
   | succ m =>
     rw [zjy, zjy]
     by_cases hf : (Lib.cut s d).2.2 = true
     · have := zka hf
       rw [if_pos hf, if_pos hf, ih m _ (by omega) (by omega)]
     · rw [if_neg hf, if_neg hf]
theorem zke {d : B} (hd : d ≠ []) (s : B) : zjz d s = (Lib.cut s d).1 :: (if (Lib.cut s d).2.2 then zjz d (Lib.cut s d).2.1 else []) := by
 have hd0 : 0 < d.length := List.length_pos_iff.2 hd
 have h1 : zjz d s = zjy d (s.length + 1) s := zkd hd _ _ s (Nat.le_refl _) (by omega)
 rw [h1, zjy]
 by_cases hf : (Lib.cut s d).2.2 = true
 · have := zka hf
   rw [if_pos hf, if_pos hf]
   congr 1
   exact zkd hd _ _ _ (by omega) (Nat.le_refl _)
 · rw [if_neg hf, if_neg hf]
theorem zkf {d : B} (hd : d ≠ []) (s : B) : 0 < (zjz d s).length := by rw [zke hd]; simp
theorem zkg {d : B} (hd : d ≠ []) (s : B) : (zjz d s).length ≤ s.length + 1 := by
 have hd0 : 0 < d.length := List.length_pos_iff.2 hd
 obtain ⟨n, hn⟩ : ∃ n, s.length ≤ n := ⟨_, Nat.le_refl _⟩
 induction n generalizing s with
 | zero =>
   obtain rfl : s = [] := List.eq_nil_of_length_eq_zero (by omega)
   rw [zke hd, zkb hd]; simp
 | succ n ih =>
   rw [zke hd]
   by_cases hf : (Lib.cut s d).2.2 = true
   · have h1 := zka hf
     have h2 := ih (Lib.cut s d).2.1 (by omega)
     rw [if_pos hf, List.length_cons]
     omega
   · rw [if_neg hf]; simp
theorem zkh {d : B} (hd : d ≠ []) (s : B) : ∀ p ∈ zjz d s, p.length ≤ s.length := by
 have hd0 : 0 < d.length := List.length_pos_iff.2 hd
 obtain ⟨n, hn⟩ : ∃ n, s.length ≤ n := ⟨_, Nat.le_refl _⟩
 induction n generalizing s with
 | zero =>
   obtain rfl : s = [] := List.eq_nil_of_length_eq_zero (by omega)
   rw [zke hd, zkb hd]
   intro p hp
   simp at hp
   rw [hp]; simp
 | succ n ih =>
   rw [zke hd]
   intro p hp
   rcases List.mem_cons.1 hp with rfl | hp
   · exact cut_len s d
   · by_cases hf : (Lib.cut s d).2.2 = true
     · have h1 := zka hf
       rw [if_pos hf] at hp
       have := ih (Lib.cut s d).2.1 (by omega) p hp
       omega
     · rw [if_neg hf] at hp; cases hp
theorem parts_step {d r : B} {L : List B} {k : Nat} (hd : d ≠ []) (h : zjz d r = L.drop k) : k < L.length ∧ L.getD k [] = (Lib.cut r d).1 ∧ ((Lib.cut r d).2.2 = true → zjz d (Lib.cut r d).2.1 = L.drop (k + 1)) ∧ ((Lib.cut r d).2.2 = false → k + 1 = L.length) := by
 have hp := zkf hd r
 have hk : k < L.length := by rw [h, List.length_drop] at hp; omega
 rw [zke hd, List.drop_eq_getElem_cons hk] at h
 obtain ⟨h1, h2⟩ := List.cons.inj h
 refine ⟨hk, by rw [List.getD_eq_getElem?_getD, List.getElem?_eq_getElem hk, h1]; rfl, fun hf => ?_, fun hf => ?_⟩
 · rw [if_pos hf] at h2; exact h2
 · rw [hf] at h2
   have := congrArg List.length h2
   rw [List.length_drop] at this
   simp at this
   omega
def encP (L : List B) (k : Nat) : Array Value := #[.int .i64 (k : Int), .string (str (L.getD k []))]
structure Bx (g n₀ : Nat) (w w' : World) : Prop where
 os : w'.os = w.os
 tape : w'.tape = w.tape
 output : w'.output = w.output
 size : w.heap.size ≤ w'.heap.size
 block : ∀ k, k < n₀ → k ≠ g → w'.heap[k]? = w.heap[k]?
theorem Bx.refl (g n₀ : Nat) (w : World) : Bx g n₀ w w := ⟨rfl, rfl, rfl, Nat.le_refl _, fun _ _ _ => rfl⟩
theorem Bx.trans {g n₀ : Nat} {x y z : World} (h : Bx g n₀ x y) (k : Bx g n₀ y z) : Bx g n₀ x z :=
 ⟨k.os.trans h.os, k.tape.trans h.tape, k.output.trans h.output, Nat.le_trans h.size k.size, fun i hi hb => (k.block i hi hb).trans (h.block i hi hb)⟩
theorem Bx.of_below {g n₀ : Nat} {w w' : World} (h : Below n₀ w w') : Bx g n₀ w w' := ⟨h.os, h.tape, h.output, h.size, fun k hk _ => h.block k hk⟩
theorem Bx.below {g n₀ m : Nat} {w w' : World} (h : Bx g n₀ w w') (h1 : m ≤ g) (h2 : m ≤ n₀) : Below m w w' := ⟨h.os, h.tape, h.output, h.size, fun k hk => h.block k (by omega) (by omega)⟩
theorem Bx.drewN {g n₀ : Nat} {w w' : World} (h : Bx g n₀ w w') (q : Nat) : Bx g n₀ w (w'.drewN q) := ⟨h.os, h.tape, h.output, h.size, h.block⟩
theorem Bx.cell {g n₀ : Nat} {w w' : World} (h : Bx g n₀ w w') {p : Addr} (hp : p.block < n₀) (hb : p.block ≠ g) : w'.cell? p = w.cell? p := World.cell?_of_block (w := w) (h.block p.block hp hb)
theorem Bx.grown {g n₀ : Nat} {w0 w w' : World} {row : Option Nat} (h : Bx g n₀ w0 w) (k : w.grownBy w' row) (hn : n₀ ≤ w.heap.size) (hr : ∀ r, row = some r → r = g ∨ n₀ ≤ r) : Bx g n₀ w0 w' :=
 h.trans ⟨k.os, k.tape, k.output, k.size, fun i hi hb => k.block i (by omega) (fun e => by rcases hr i e.symm with h | h <;> omega)⟩
theorem bxK_b {g n₀ : Nat} {w : World} (hn : n₀ ≤ w.heap.size) (W : World) (l : Nat) (o o' : Obj) (hl : w.heap.size ≤ l) (h : W.heap[l]? = some o) (_ : o.isCells = false) (_ : o.isWalk = false) : Bx g n₀ W (W.putObj l o') :=
 (Bx.refl g n₀ W).grown (grownBy_putObj' W l o') (by have := (Array.getElem?_eq_some_iff.1 h).1; omega) (fun k e => .inr (by cases e; omega))
def zki (bs bd : Nat) : Value := .func (.func 229) #[] #[.pointer (some ⟨bs, 0, none⟩), .pointer (some ⟨bd, 0, none⟩)]
def zkj (s d : ByteArray) (w : World) : World := (w.alloc (.cells #[.string s] 9)).alloc (.cells #[.string d] 9)
theorem zkk (s d : ByteArray) (w : World) : (zkj s d w).heap.size = w.heap.size + 2 ∧ (zkj s d w).cell? ⟨w.heap.size, 0, none⟩ = some (.string s) ∧ (zkj s d w).cell? ⟨w.heap.size + 1, 0, none⟩ = some (.string d) ∧ Below w.heap.size w (zkj s d w) := by
 unfold zkj
 refine ⟨by simp, ?_, ?_, ((Below.refl _ w).alloc (Nat.le_refl _) _).alloc (by simp) _⟩
 · rw [World.cell?_alloc_lt _ _ _ (by simp), World.cell?_alloc_at _ _ _ _ rfl]; rfl
 · rw [World.cell?_alloc_at _ _ _ _ (by simp)]; rfl
theorem zkl (s d : ByteArray) (w : World) :
 Calls Tryz.prog 207 #[.string s, .string d] w fun e w' => e = .returned (zki w.heap.size (w.heap.size + 1)) ∧ w' = zkj s d w := by
 unfold zki zkj
 go_enter Tryz.func207, Tryz.ntmps207
 go_wp2_with fail
 go_ret
 exact ⟨rfl, rfl⟩
theorem zkm (s d : B) (w : World) (hv : Vw w) (hl : s.length ≤ 128) :
 Calls Tryz.prog 126 #[.string (str s), .string (str d)] w fun e w' => e = .returned (.tuple #[.string (str (Lib.cut s d).1), .string (str (Lib.cut s d).2.1), .bool (Lib.cut s d).2.2]) ∧ ∃ n, w' = w.drewN n := by
 obtain ⟨m, hm⟩ := hv.max
 have h := Tryz.strings_Cut (str s) (str d) m w (by rw [zbm]; omega) hm
 rw [zdq, zdq] at h
 exact h
set_option maxRecDepth 100000 in
theorem zkn (n : Nat) (hn : 3 ≤ n) (l bs bd : Nat) (s d : B) (hd : d ≠ []) (hs : s.length ≤ 128) (L : List B) (hL : zjz d s = L) (J Jx : List Nat → World → Prop) (Kp : World → World → Prop) (hKt : ∀ {A B C : World}, Kp A B → Kp B C → Kp A C) (hKd : ∀ A m, Kp A (A.drewN m))
 (hJd : ∀ pre W m, J pre W → J pre (W.drewN m))
 (hY : ∀ pre x W, J pre W → pre.length < L.length → YieldAt Fence.wide (n - 1) Tryz.prog l (encP L x) W fun e W' =>
   (e = .returned (.bool true) ∧ J (pre ++ [x]) W' ∧ Kp W W') ∨ (e = .returned (.bool false) ∧ Jx (pre ++ [x]) W'))
 (W : World) (hv : ∀ W', Kp W W' → Vw W') (hbs : W.cell? ⟨bs, 0, none⟩ = some (.string (str s))) (hbd : ∀ W', Kp W W' → W'.cell? ⟨bd, 0, none⟩ = some (.string (str d))) (h0 : J [] W) :
 CallsIn Fence.wide n Tryz.prog 229 #[.func (.yield l) #[] #[], .pointer (some ⟨bs, 0, none⟩), .pointer (some ⟨bd, 0, none⟩)] W fun e W' => (∃ v, e = .returned v) ∧
  ((∃ ys, ys = List.range L.length ∧ J ys W') ∨ (∃ pre, (∃ k, k ≤ L.length ∧ pre = List.range k) ∧ Jx pre W')) := by
 have HV := hid hv
 have HJD := hid hJd
 have HLL : Hid (L.length ≤ 129) := hid (by have := zkg hd s; rw [hL] at this; omega)
 have HBD := hid hbd
 have HKT : Hid (∀ A B C : World, Kp A B → Kp B C → Kp A C) := hid (fun A B C => @hKt A B C)
 have HKD := hid hKd
 have hbd0 := hbd W (hKd W 0)
 have HK0 := hid (hKd W 0)
 have HS := hid hs
 have HPL := hid hL
 have HD := hid hd
 clear hv hJd hbd hs hL hd hKt hKd
 refine callsIn_of_wp Tryz.func229 rfl trivial ?_ rfl
 simp only [Tryz.ntmps229, List.size_toArray, List.length_cons, List.length_nil, Nat.reduceAdd, Nat.reduceSub, Array.replicate_succ, Array.replicate_zero, List.push_toArray, List.append_toArray, List.nil_append, List.cons_append]
 gi_wp2_with fail
 gi_loopw [4, 5, 6] (fun v4 v5 v6 wr => ∃ (k : Nat) (r : B) (m : Bool), v4 = .string (str r) ∧ v5 = .bool m ∧ v6 = .int .i64 k ∧ J (List.range k) wr ∧ Hid (Kp W wr) ∧ Hid (r.length ≤ 128 ∧ k ≤ L.length ∧ (m = true → zjz d r = L.drop k) ∧ (m = false → k = L.length))) (fun _ _ v6 _ => L.length + 1 - (intOf v6).toNat)
 case atStart => exact ⟨0, s, true, rfl, rfl, rfl, h0, hid (HK0.out), hid ⟨HS.out, Nat.zero_le _, fun _ => by rw [HPL.out]; rfl, fun h => by cases h⟩⟩
 case round =>
  obtain ⟨k, r, m, rfl, rfl, rfl, hJs, HB, HK⟩ := hrel
  rename World => wr
  cases m with
  | true =>
    obtain ⟨hk, hat, hgo, hno⟩ := parts_step HD.out (HK.out.2.2.1 rfl)
    have hbd := HBD.out wr HB.out
    have HCUT := hid (zkm r d wr (HV.out wr HB.out) HK.out.1)
    have HRL : Hid ((Lib.cut r d).2.2 = true → (Lib.cut r d).2.1.length ≤ 128) := hid fun h => by have := zka h; have := HK.out.1; omega
    have HRN : Hid ((Lib.cut r d).2.2 = false → (Lib.cut r d).2.1.length ≤ 128) := hid fun h => by
     unfold Lib.cut at h ⊢
     split
     · rename_i h0; rw [if_pos h0] at h; cases h
     · simp
    rw [← hat] at HCUT
    obtain ⟨r2, hr2⟩ : ∃ r2, (Lib.cut r d).2.1 = r2 := ⟨_, rfl⟩
    obtain ⟨m2, hm2⟩ : ∃ m2, (Lib.cut r d).2.2 = m2 := ⟨_, rfl⟩
    rw [hr2, hm2] at HCUT
    have HX2 : Hid (k < L.length ∧ (m2 = true → zjz d r2 = L.drop (k + 1)) ∧ (m2 = false → k + 1 = L.length) ∧ r2.length ≤ 128) := hid ⟨hk, by rw [← hr2, ← hm2]; exact hgo, by rw [← hm2]; exact hno, by
     rw [← hr2]
     cases h : (Lib.cut r d).2.2 with
     | true => exact HRL.out h
     | false => exact HRN.out h⟩
    have HTS := hid (@List.range_succ k)
    have hkm : k ≤ 1000 := by have := HLL.out; omega
    clear hk hat hgo hno HRL HRN hr2 hm2 HK
    have HYY := hid fun q => hY _ k (wr.drewN q) (HJD.out _ _ q hJs) (by rw [List.length_range]; exact HX2.out.1)
    unfold encP at HYY
    obtain ⟨px, hpx⟩ : ∃ px, str (L.getD k []) = px := ⟨_, rfl⟩
    rw [hpx] at HCUT HYY
    clear hpx
    have HBQ := hid fun q => HKT.out _ _ _ HB.out (HKD.out wr q)
    clear hJs HB
    gi_wp2_with (refine ⟨trivial, fun h => Bool.noConfusion h, ?_⟩; gi_at_call 126; refine (callsIn_wide.2 HCUT.out).mono ?_; rintro e w' ⟨rfl, q, rfl⟩; obtain ⟨fn, tmps, assign, body, hy, hR⟩ := HYY.out q)
    refine ⟨fun h => Bool.noConfusion h, hR.mono ?_⟩
    rintro e W3 (⟨rfl, hJ3, hk3⟩ | ⟨rfl, hJx3⟩)
    · gi_wp2
      go_roundw
      case rel => exact ⟨k + 1, r2, m2, rfl, rfl, by go_num, by rw [HTS.out]; exact hJ3, hid (HKT.out _ _ _ (HBQ.out q) hk3), hid ⟨HX2.out.2.2.2, HX2.out.1, HX2.out.2.1, HX2.out.2.2.1⟩⟩
      case measure => have := HX2.out.1; simp [intOf]; omega
    · gi_wp2
      refine bodyPost_ret (results_none rfl _ _ _) rfl ?_
      exact ⟨⟨_, rfl⟩, .inr ⟨_, ⟨k + 1, HX2.out.1, HTS.out.symm⟩, hJx3⟩⟩
  | false =>
    have HKK : Hid (k = L.length) := hid (HK.out.2.2.2 rfl)
    gi_wp2
    go_end0
    exact ⟨⟨_, rfl⟩, .inl (by rw [← HKK.out]; exact hJs)⟩
theorem zko (w : World) (n : Nat) (row : Option Nat) : w.grownBy (w.drewN n) row := ⟨rfl, rfl, rfl, Nat.le_refl _, fun _ _ _ => rfl⟩
theorem zkp (n : Nat) (hn : 3 ≤ n) (bs bd g n₀ : Nat) {w0 : World} (s d : B) (hd : d ≠ []) (hs : s.length ≤ 128)
 (hv : ∀ W', Bx g n₀ w0 W' → Vw W') (hn₀ : n₀ ≤ w0.heap.size) (hbs : w0.cell? ⟨bs, 0, none⟩ = some (.string (str s))) (hbd : w0.cell? ⟨bd, 0, none⟩ = some (.string (str d))) (hbn : bd < n₀) (hbg : bd ≠ g) :
 SeqStopsK Fence.wide n Tryz.prog 229 #[.pointer (some ⟨bs, 0, none⟩), .pointer (some ⟨bd, 0, none⟩)] (encP (zjz d s)) (Bx g n₀) (fun ys => ys = List.range (zjz d s).length) (fun pre => ∃ k, k ≤ (zjz d s).length ∧ pre = List.range k) (zjz d s).length w0 := by
 intro l J Jx W hW hJ hJx hY h0
 have hW2 : Bx g n₀ w0 W := Bx.of_below (hW.mono hn₀)
 exact zkn n hn l bs bd s d hd hs _ rfl J Jx (Bx g n₀) (fun h k => h.trans k) (fun A m => (Bx.refl g n₀ A).drewN m) (fun pre W' m h => hJ pre W' _ none h (zko _ _ _) (fun r e => by cases e)) hY W
  (fun W' h => hv W' (hW2.trans h)) (by rw [hW.cell (World.block_lt_of_cell? _ _ hbs)]; exact hbs) (fun W' h => by rw [(hW2.trans h).cell hbn hbg]; exact hbd) h0
end SpanC
open Go.RowKit Go.Shelf
namespace RoundR
variable {F : Fence} {n : Nat} {P : Program} {ops : Array Oper} {rest : List Oper} {o : Oper} {a : Act} {w : World} {Q : Exit → Act → World → Prop}
theorem zkq (hgd : o.guard = none) (ty : TypeId) (x : Operand) (ho : o.op = .load ty x)
 (g : Nat) (hx : a.eval x = .pointer (some ⟨g, 0, none⟩)) (t : TypeId) (cs : Array Value) (fr : Nat × Nat) (d : TypeDesc) (hg : w.heap[g]? = some (.cells cs t fr))
 (hu : P.underlying ty = some d) (hd : (match d with | .struct _ | .array _ _ => true | _ => false) = true) (hi : (P.info? ty).map (·.size) = some cs.size)
 (h : wpListIn F n P ops Q rest (a.put o.dst (.agg cs)) w) : wpListIn F n P ops Q (o :: rest) a w :=
 wpListIn_plain hgd fun K hK => by
  unfold Oper.wpIn
  refine ⟨by simp [Oper.about, ho], ?_⟩
  rw [Oper.semAt_plain F _ _ (by rw [ho]; intro c hc; cases hc)]
  unfold execOp
  simp only [ho, hx, Instr.loadAt, Instr.sureAddr, Sem.run_bind, Sem.run_pure, Result.andThen_ok, run_loadVar_row w g t ty cs fr d hg hu hd hi]
  exact hK _ _ h
theorem zkr (hgd : o.guard = none) (ty : TypeId) (x y : Operand) (ho : o.op = .store ty x y)
 (g : Nat) (cells : Array Value) (hx : a.eval x = .pointer (some ⟨g, 0, none⟩)) (hy : a.eval y = .agg cells)
 (t : TypeId) (old : Array Value) (hg : w.heap[g]? = some (.cells old t (0, 0))) (hi : (P.info? ty).map (·.size) = some cells.size)
 (hold : old.size = cells.size) (h1 : cells.all (·.oneCell') = true)
 (h : wpListIn F n P ops Q rest (a.put o.dst undef) (w.setRow g cells)) : wpListIn F n P ops Q (o :: rest) a w :=
 wpListIn_plain hgd fun K hK => by
  unfold Oper.wpIn
  refine ⟨by simp [Oper.about, ho], ?_⟩
  rw [Oper.semAt_plain F _ _ (by rw [ho]; intro c hc; cases hc)]
  unfold execOp
  simp only [ho, hx, hy, Instr.storeAt, Instr.sureAddr, Sem.run_bind, Sem.run_pure, Result.andThen_ok, run_storeVar_row w g t ty old cells hg hi hold h1]
  exact hK _ _ h
end RoundR
namespace SpanC
open VerM SpanM StrC TextR VerC RoundR
attribute [local go_sem] Oper.semAt_some
theorem zks {P : Program} {fn : Func} {p q : Tmp} {ty tb : TypeId} (h : fn.results = #[.cell p ty, .cell q tb]) (tmps : Array Value) (w : World) (g : Nat) (t : TypeId) (cs : Array Value) (fr : Nat × Nat) (d : TypeDesc)
 (hp : tmps.getD p undef = .pointer (some ⟨g, 0, none⟩)) (hg : w.heap[g]? = some (.cells cs t fr))
 (hu : P.underlying ty = some d) (hd : (match d with | .struct _ | .array _ _ => true | _ => false) = true) (hi : (P.info? ty).map (·.size) = some cs.size)
 (b : Addr) (v : Value) (hq : tmps.getD q undef = .pointer (some b)) (hc : (loadVar tb b).run P w = .ok v w) :
 (results fn tmps).run P w = .ok (.tuple #[.agg cs, v]) w := by
 have hp' : tmps[p]?.getD undef = .pointer (some ⟨g, 0, none⟩) := by simpa using hp
 have hq' : tmps[q]?.getD undef = .pointer (some b) := by simpa using hq
 simp [results, h, hp', hq', asAddr, run_loadVar_row w g t ty cs fr d hg hu hd hi, hc]
theorem zkt {w : World} {a : Addr} {v : Value} (hc : w.cell? a = some v) : (loadVar 4 a).run Tryz.prog w = .ok v w := by simp [loadVar, go_sem, hc]
def accM (L : List B) (pre : List Nat) : Option St := pre.foldl (fun o k => if k = 16 then none else o.bind fun a => (compM (L.getD k [])).map (meetS a)) (some allS)
theorem zku (L : List B) (pre : List Nat) (k : Nat) : accM L (pre ++ [k]) = if k = 16 then none else (accM L pre).bind fun a => (compM (L.getD k [])).map (meetS a) := by
 unfold accM; rw [List.foldl_append]; rfl
theorem zkv {L : List B} : ∀ (l : List Nat), l.foldl (fun o k => if k = 16 then none else o.bind fun a => (compM (L.getD k [])).map (meetS a)) (none : Option St) = none
 | [] => rfl
 | k :: l => by
   rw [List.foldl_cons]
   have : (if k = 16 then none else (none : Option St).bind fun a => (compM (L.getD k [])).map (meetS a)) = none := by split <;> rfl
   rw [this]; exact zkv l
theorem zkw {L : List B} {k n : Nat} (h : accM L (List.range k) = none) (hk : k ≤ n) : accM L (List.range n) = none := by
 obtain ⟨m, rfl⟩ : ∃ m, n = k + m := ⟨n - k, by omega⟩
 rw [List.range_add]
 unfold accM at h ⊢
 rw [List.foldl_append, h]
 exact zkv _
def altM (s : B) : Option St := if s = [42] then some allS else if s = [33] then some zeroR.st else accM (zjz [32] s) (List.range (zjz [32] s).length)
theorem zkx {B : Nat} {W W' : World} (h : Below W.heap.size W W') : KeepsFrom B W W' := ⟨h.size, fun k o _ hk _ => (h.block k (Array.getElem?_eq_some_iff.1 hk).1).trans hk⟩
theorem zky {B g : Nat} {W : World} {cs : Array Value} (hg : g < B) : KeepsFrom B W (W.setRow g cs) := ⟨by simp, fun k o hB hk _ => (Go.setRow_other W g k cs (by omega)).trans hk⟩
theorem zkz {B : Nat} {W : World} {a : Addr} {v : Value} (hg : a.block < B) : KeepsFrom B W (W.setCell a v) := ⟨by simp, fun k o hB hk _ => (Below.heap_setCell W a v k (by omega)).trans hk⟩
theorem EdOk.same {w w' : World} {x : EdR} (h : EdOk w x) (hk : ∀ b, IsText w b → w'.heap[b]? = w.heap[b]?) : EdOk w' x := by
 have key : ∀ b f, x.a = some ⟨b, f, none⟩ → w'.heap[b]? = w.heap[b]? := fun b f e => hk b (h.kind b f e)
 refine ⟨h.wf, ⟨h.txs.cap, h.txs.short, h.txs.few, fun h0 => ?_⟩, fun b f e => (h.kind b f e).of (key b f e), h.nil⟩
 obtain ⟨b, o, e, hc⟩ := h.txs.cells h0
 exact ⟨b, o, e, fun i hi => (World.cell?_of_block (a := ⟨b, o + i, none⟩) (key b o e)).trans (hc i hi)⟩
theorem StOk.same {w w' : World} {x : StR} (h : StOk w x) (hk : ∀ b, IsText w b → w'.heap[b]? = w.heap[b]?) : StOk w' x := ⟨h.f.same hk, h.t.same hk⟩
theorem zla {w w' : World} {row : Option Nat} (hg : w.grownBy w' row) (hr : ∀ r, row = some r → ∃ o : Obj, w.heap[r]? = some o ∧ o.isCells = false) : ∀ b, IsText w b → w'.heap[b]? = w.heap[b]? := fun b hb =>
 hg.block b hb.lt (fun e => by
  obtain ⟨o, ho, hc⟩ := hr b e.symm
  obtain ⟨cs, fz, h⟩ := hb
  rw [h] at ho
  cases ho
  cases hc)
theorem zlb : wfE zeroR.f.ed := ⟨zfm, by decide, fun h => by cases h⟩
theorem zeroOk (w : World) : StOk w zeroR := ⟨⟨zlb, Txs.nil _ _ _, fun b f e => (by cases e), fun _ => ⟨rfl, rfl⟩⟩, ⟨zlb, Txs.nil _ _ _, fun b f e => (by cases e), fun _ => ⟨rfl, rfl⟩⟩⟩
theorem zlc {s : B} (hs : s.length ≤ 128) (k : Nat) : ((zjz [32] s).getD k []).length ≤ 128 := by
 by_cases hk : k < (zjz [32] s).length
 · have := zkh (d := [32]) (by decide) s _ (List.getElem_mem hk)
   rw [List.getD_eq_getElem?_getD, List.getElem?_eq_getElem hk]
   exact Nat.le_trans this hs
 · rw [List.getD_eq_getElem?_getD, List.getElem?_eq_none (by omega)]; simp
set_option maxRecDepth 100000 in
theorem zld (w : World) : Calls Tryz.prog 208 #[.string (str [42])] w (MaybeE (some allS) w) := by
 have hn := (heap_alloc_old (w.alloc (stO zeroR)) (.cells #[.bool false] 4) (r := w.heap.size) (by simp)).trans (heap_alloc_new w (stO zeroR))
 have hb := heap_alloc_new (w.alloc (stO zeroR)) (.cells #[.bool false] 4)
 rw [World.size_alloc] at hb
 have HB0 : Hid (Below w.heap.size w ((w.alloc (stO zeroR)).alloc (.cells #[.bool false] 4))) := hid (((Below.refl _ w).alloc (Nat.le_refl _) _).alloc (by simp) _)
 have k1 : ((str [42]).toList == ([42] : List UInt8)) = true := (zbt [42] [42]).trans (by decide)
 have k2 : ((str [42]).toList == ([33] : List UInt8)) = false := (zbt [42] [33]).trans (by decide)
 have HN := hid hn
 have HBB := hid hb
 clear hn hb
 go_enter Tryz.func208, Tryz.ntmps208
 go_wp2_with fail
 refine (zhl _).mono ?_
 rintro e w1 ⟨r, rfl, hst, hok, hb1⟩
 have hl := (Array.getElem?_eq_some_iff.1 HN.out).1
 have hl2 := (Array.getElem?_eq_some_iff.1 HBB.out).1
 have hn1 := (hb1.block _ hl).trans HN.out
 have hz1 := (hb1.block _ hl2).trans HBB.out
 have hz2 := (Go.setRow_other w1 w.heap.size (w.heap.size + 1) (stL r).toArray (by omega)).trans hz1
 have hc2 : (w1.setRow w.heap.size (stL r).toArray).cell? ⟨w.heap.size + 1, 0, none⟩ = some (.bool false) := by simp [World.cell?, hz2]
 have hf2 := zcm hz2 0
 have HB1 := hid (HB0.out.trans (hb1.mono HB0.out.size))
 have HOK := hid hok
 have HST := hid hst
 have HN1 := hid hn1
 have HZ2 := hid hz2
 clear hst hok hb1 hl hl2 hz1 hz2 HB0 HN HBB
 go_wp2_with (refine wpList_store_row rfl 266 _ _ rfl w.heap.size (stL r).toArray rfl rfl _ _ hn1 zgw rfl (zgy _) ?_)
 refine bodyPost_ret (zks rfl _ _ w.heap.size _ (stL r).toArray _ _ rfl ((Below.heap_setCell _ _ _ _ (by show w.heap.size ≠ w.heap.size + 1; omega)).trans (setRow_heap _ _ _ _ _ _ HN1.out)) Tryz.underlying266 rfl zgw ⟨w.heap.size + 1, 0, none⟩ (.bool true) rfl (zkt ?_)) rfl ?_
 · exact World.cell?_setCell_same _ _ _ hc2
 · exact MaybeE.yes ((below_setRow HB1.out (Nat.le_refl _) _).setCell (by show w.heap.size ≤ w.heap.size + 1; omega) _) HST.out ((HOK.out.keep (zhi HN1.out (by decide)) (fun j _ hj => Go.setRow_other _ _ _ _ hj)).keep (zhi HZ2.out (by decide)) (fun j _ hj => Below.heap_setCell _ _ _ _ hj))
set_option maxRecDepth 100000 in
theorem zle (w : World) : Calls Tryz.prog 208 #[.string (str [33])] w (MaybeE (some zeroR.st) w) := by
 have hn := (heap_alloc_old (w.alloc (stO zeroR)) (.cells #[.bool false] 4) (r := w.heap.size) (by simp)).trans (heap_alloc_new w (stO zeroR))
 have hb := heap_alloc_new (w.alloc (stO zeroR)) (.cells #[.bool false] 4)
 rw [World.size_alloc] at hb
 have HB0 : Hid (Below w.heap.size w ((w.alloc (stO zeroR)).alloc (.cells #[.bool false] 4))) := hid (((Below.refl _ w).alloc (Nat.le_refl _) _).alloc (by simp) _)
 have k1 : ((str [33]).toList == ([42] : List UInt8)) = false := (zbt [33] [42]).trans (by decide)
 have k2 : ((str [33]).toList == ([33] : List UInt8)) = true := (zbt [33] [33]).trans (by decide)
 have hz2 := (Go.setRow_other ((w.alloc (stO zeroR)).alloc (.cells #[.bool false] 4)) w.heap.size (w.heap.size + 1) (stL zeroR).toArray (by omega)).trans hb
 have HR := hid (setRow_heap _ _ _ (stL zeroR).toArray _ _ hn)
 have HBR := hid (below_setRow HB0.out (Nat.le_refl _) (stL zeroR).toArray)
 obtain ⟨W3, hW3⟩ : ∃ W3, ((w.alloc (stO zeroR)).alloc (.cells #[.bool false] 4)).setRow w.heap.size (stL zeroR).toArray = W3 := ⟨_, rfl⟩
 rw [hW3] at hz2 HR HBR
 have HW3 := hid hW3
 have HZ2 := hid hz2
 have HN := hid hn
 clear hb hW3 hz2 hn HB0
 go_enter Tryz.func208, Tryz.ntmps208
 have hn := HN.out
 go_wp2_with (refine wpList_store_row rfl 266 _ _ rfl w.heap.size (stL zeroR).toArray rfl rfl _ _ hn zgw rfl (zgy _) ?_; change wpList _ _ _ _ _ (((w.alloc (stO zeroR)).alloc (.cells #[.bool false] 4)).setRow w.heap.size (stL zeroR).toArray); rw [HW3.out]; clear hn; have hz2 := HZ2.out; have hc2 : W3.cell? ⟨w.heap.size + 1, 0, none⟩ = some (.bool false) := by { unfold World.cell?; rw [hz2]; rfl }; have hf2 := zcm hz2 0; clear hz2)
 refine bodyPost_ret (zks rfl _ _ w.heap.size _ (stL zeroR).toArray _ _ rfl ((Below.heap_setCell _ ⟨w.heap.size + 1, 0, none⟩ (.bool true) w.heap.size (by show w.heap.size ≠ w.heap.size + 1; omega)).trans HR.out) Tryz.underlying266 rfl zgw ⟨w.heap.size + 1, 0, none⟩ (.bool true) rfl (zkt ?_)) rfl ?_
 · exact World.cell?_setCell_same _ _ _ hc2
 · exact MaybeE.yes (HBR.out.setCell (by show w.heap.size ≤ w.heap.size + 1; omega) _) rfl (zeroOk _)
set_option maxRecDepth 100000 in
theorem palt_in (s : B) (w : World) (hv : Vw w) (hs : s.length ≤ 128) (h1 : s ≠ [42]) (h2 : s ≠ [33]) : CallsIn Fence.wide 6 Tryz.prog 208 #[.string (str s)] w (MaybeE (accM (zjz [32] s) (List.range (zjz [32] s).length)) w) := by
 have hn := (heap_alloc_old (w.alloc (stO zeroR)) (.cells #[.bool false] 4) (r := w.heap.size) (by simp)).trans (heap_alloc_new w (stO zeroR))
 have hb := heap_alloc_new (w.alloc (stO zeroR)) (.cells #[.bool false] 4)
 rw [World.size_alloc] at hb
 have HB0 : Hid (Below w.heap.size w ((w.alloc (stO zeroR)).alloc (.cells #[.bool false] 4))) := hid (((Below.refl _ w).alloc (Nat.le_refl _) _).alloc (by simp) _)
 have k1 : ((str s).toList == ([42] : List UInt8)) = false := (zbt s [42]).trans (decide_eq_false h1)
 have k2 : ((str s).toList == ([33] : List UInt8)) = false := (zbt s [33]).trans (decide_eq_false h2)
 have HN := hid hn
 have HBB := hid hb
 have HV := hid hv
 have HS := hid hs
 clear hn hb hv hs h1 h2
 refine callsIn_of_wp_marks Tryz.func208 rfl trivial ?_ rfl
 simp only [Tryz.ntmps208, List.size_toArray, List.length_cons, List.length_nil, Nat.reduceAdd, Nat.reduceSub, Array.replicate_succ, Array.replicate_zero, List.push_toArray, List.append_toArray, List.nil_append, List.cons_append]
 gi_wp2_with fail
 refine ⟨trivial, (callsIn_wide.2 (zhl _)).mono ?_⟩
 rintro e w1 ⟨r0, rfl, hst, hok, hb1⟩
 have hl := (Array.getElem?_eq_some_iff.1 HN.out).1
 have hl2 := (Array.getElem?_eq_some_iff.1 HBB.out).1
 have HN1 := hid ((heap_alloc_old w1 (stO zeroR) (r := w.heap.size) (Nat.lt_of_lt_of_le hl hb1.size)).trans ((hb1.block _ hl).trans HN.out))
 have HZ1 := hid ((heap_alloc_old w1 (stO zeroR) (r := w.heap.size + 1) (Nat.lt_of_lt_of_le hl2 hb1.size)).trans ((hb1.block _ hl2).trans HBB.out))
 have hnb := heap_alloc_new w1 (stO zeroR)
 have HOK := hid (hok.gr ((Below.refl _ w1).alloc (Nat.le_refl _) (stO zeroR)))
 have HST := hid hst
 have HB1 := hid ((HB0.out.trans (hb1.mono HB0.out.size)).alloc (HB0.out.trans (hb1.mono HB0.out.size)).size (stO zeroR))
 have HSZ : Hid (w.heap.size + 2 ≤ w1.heap.size) := hid (by have := hb1.size; simp at this; omega)
 clear hst hok hb1 hl hl2 HB0 HN HBB
 gi_wp2_with (refine zkr rfl 266 _ _ rfl w1.heap.size (stL r0).toArray rfl rfl _ _ hnb zgw rfl (zgy _) ?_)
 obtain ⟨W2, hW2⟩ : ∃ W2, (w1.alloc (stO zeroR)).setRow w1.heap.size (stL r0).toArray = W2 := ⟨_, rfl⟩
 have HR2 := hid (setRow_heap _ _ _ (stL r0).toArray _ _ hnb)
 have HNB := hid hnb
 have HS2 : Hid (W2.heap.size = w1.heap.size + 1) := hid (by rw [← hW2]; simp)
 have HOT : Hid (∀ k, k ≠ w1.heap.size → W2.heap[k]? = (w1.alloc (stO zeroR)).heap[k]?) := hid (fun k hk => by rw [← hW2]; exact Go.setRow_other _ _ _ _ hk)
 have HB2 : Hid (Below w.heap.size w W2) := hid (by rw [← hW2]; exact below_setRow HB1.out (by have := HSZ.out; omega) _)
 have HOK2 : Hid (StOk W2 r0) := hid (by rw [← hW2]; exact HOK.out.keep (zhi HNB.out (by decide)) (fun j _ hj => Go.setRow_other _ _ _ _ hj))
 have HN2 : Hid (W2.heap[w.heap.size]? = some (stO zeroR)) := hid ((HOT.out _ (by have := HSZ.out; omega)).trans HN1.out)
 have HZ2 : Hid (W2.heap[w.heap.size + 1]? = some (.cells #[.bool false] 4)) := hid ((HOT.out _ (by have := HSZ.out; omega)).trans HZ1.out)
 change Fence.wide.fn _ ∧ CallsIn Fence.wide 5 Tryz.prog _ _ ((w1.alloc (stO zeroR)).setRow w1.heap.size (stL r0).toArray) _
 rw [hW2] at HR2 ⊢
 clear hnb hW2 HNB HB1 HOK HN1 HZ1
 refine ⟨trivial, (callsIn_wide.2 (zkl _ _ _)).mono ?_⟩
 rintro e w3 ⟨rfl, rfl⟩
 obtain ⟨z0, z1, z2, z3⟩ := zkk (str s) ⟨#[32]⟩ W2
 have HL2 := hid (Array.getElem?_eq_some_iff.1 HN2.out).1
 have HLZ := hid (Array.getElem?_eq_some_iff.1 HZ2.out).1
 have HLR := hid (Array.getElem?_eq_some_iff.1 HR2.out).1
 have HN3 := hid ((z3.block _ HL2.out).trans HN2.out)
 have HZ3 := hid ((z3.block _ HLZ.out).trans HZ2.out)
 have HR3 := hid ((z3.block _ HLR.out).trans HR2.out)
 have HOK3 := hid (HOK2.out.gr z3)
 have HB3 := hid (HB2.out.trans (z3.mono HB2.out.size))
 obtain ⟨W3, hW3⟩ : ∃ W3, zkj (str s) ⟨#[32]⟩ W2 = W3 := ⟨_, rfl⟩
 rw [hW3] at z0 z1 z2 HN3 HZ3 HR3 HOK3 HB3 ⊢
 have hs2 := HS2.out
 rw [hs2] at z0 z1 z2
 unfold zki
 rw [hs2]
 have HS3 : Hid (W3.heap.size = w1.heap.size + 3) := hid z0
 clear z0 z3 hW3 hs2 HL2 HLZ HLR HN2 HZ2 HR2 HOK2 HB2 HS2 HOT
 gi_wp2_with fail
 have HPS := hid (zkp 5 (by decide) (w1.heap.size + 1) (w1.heap.size + 1 + 1) w1.heap.size W3.heap.size s [32] (by decide) HS.out
  (fun W' h => HV.out.gr (HB3.out.trans (h.below (m := w.heap.size) (by have := HSZ.out; omega) HB3.out.size)))
  (Nat.le_refl _) z1 z2 (by have := HS3.out; omega) (by omega))
 have HPL := hid (zlc HS.out)
 generalize zjz [32] s = L at *
 have h13 : w1.heap.size < W3.heap.size := by have := HS3.out; omega
 refine wpIn_rangeFunc_ownG rfl (by decide) (gf := 229) (lb := #[.pointer (some ⟨(w1.heap.size + 1), 0, none⟩), .pointer (some ⟨(w1.heap.size + 1) + 1, 0, none⟩)]) rfl trivial (enters_of Tryz.func229 (by kernel_rfl) rfl)
  HPS.out (fun h k => h.trans k) (bxK_b (Nat.le_refl _)) (Below.refl _ _) (fun _ => rfl)
  (fun (pre : List Nat) W => (∃ r : StR, W.heap[w1.heap.size]? = some (stO r) ∧ StOk W r ∧ accM L pre = some r.st) ∧ Bx w1.heap.size W3.heap.size W3 W)
  (fun c pre W => c = .ret ∧ accM L pre = none ∧ W.heap[w.heap.size]? = some (stO zeroR) ∧ W.heap[w.heap.size + 1]? = some (.cells #[.bool false] 4) ∧ Below w.heap.size w W)
  ?own ?ownX
  ⟨⟨r0, HR3.out, HOK3.out, by rw [HST.out]; rfl⟩, Bx.refl _ _ _⟩
  (fun (x : Nat) => { tmps := #[.string (str s), undef, .pointer (some ⟨w.heap.size, 0, none⟩), .pointer (some ⟨w.heap.size + 1, 0, none⟩), .pointer (some ⟨w1.heap.size, 0, none⟩), .int .i64 (x : Int), .string (str (L.getD x [])), undef, undef, .string (str s), .bool false, .bool false, undef, .bool false, .bool false, undef, stV r0, .string (str s), .func (.func 229) #[] #[.pointer (some ⟨w1.heap.size + 1, 0, none⟩), .pointer (some ⟨w1.heap.size + 1 + 1, 0, none⟩)], .int .i64 (x : Int), .string (str (L.getD x [])), undef, undef, undef, undef, undef, undef, undef, undef, undef, undef, undef, undef, undef, undef, undef, undef], defers := [] }) ?assign ?body ?done ?stop
 case own =>
  rintro pre W W' row ⟨⟨r, q1, q2, q3⟩, q4⟩ hg hr
  refine ⟨⟨r, (hg.block _ (Array.getElem?_eq_some_iff.1 q1).1 (fun e => by have := (hr _ e.symm).1; omega)).trans q1, q2.same (zla hg fun r e => (hr r e).2), q3⟩, ?_⟩
  exact q4.grown hg q4.size (fun r e => .inr (hr r e).1)
 case ownX =>
  rintro c pre W W' row ⟨q1, q2, q3, q4, q5⟩ hg hr
  have hn3 := HB3.out.size
  have hsz := HSZ.out
  refine ⟨q1, q2, (hg.block _ (Array.getElem?_eq_some_iff.1 q3).1 (fun e => by have := (hr _ e.symm).1; omega)).trans q3, (hg.block _ (Array.getElem?_eq_some_iff.1 q4).1 (fun e => by have := (hr _ e.symm).1; have := HSZ.out; omega)).trans q4, q5.grown hg q5.size (fun k e => by have := (hr k e).1; omega)⟩
 case assign =>
  intro l x W K hK
  dsimp only [encP]
  gi_wp2
  exact hK
 case stop =>
  rintro D c pre W hD ⟨k, hk, rfl⟩ ⟨rfl, q2, q3, q4, q5⟩ hK
  have HAC : Hid (accM L (List.range L.length) = none) := hid (zkw q2 hk)
  have HQ3 := hid q3
  have HQ4 := hid q4
  have HQ5 := hid q5
  clear q2 q3 q4 q5
  have hlt : w.heap.size < D := by have := HB3.out.size; have := HSZ.out; omega
  have hlt2 : w.heap.size + 1 < D := by have := HSZ.out; omega
  have hx := (World.putObj_heap_other (w := W) (r := D) (o := .deferred none) (k := w.heap.size) (by omega)).trans HQ3.out
  have hx2 := (World.putObj_heap_other (w := W) (r := D) (o := .deferred none) (k := w.heap.size + 1) (by omega)).trans HQ4.out
  gi_wp2
  refine ⟨by simp, .inl ⟨_, _, rfl, run_takeDeferred hK, ?_⟩⟩
  refine ⟨_, zks rfl _ _ w.heap.size _ (stL zeroR).toArray _ _ rfl hx Tryz.underlying266 rfl zgw ⟨w.heap.size + 1, 0, none⟩ (.bool false) rfl (zkt (by unfold World.cell?; rw [hx2]; rfl)), ?_⟩
  rw [HAC.out]
  exact MaybeE.no (HQ5.out.trans (belowK_b (w := W3) HB3.out.size W D _ _ hD hK rfl rfl))
 case done =>
  rintro D ys W hD rfl ⟨⟨r, q1, q2, q3⟩, q4⟩ hK
  have HQ1 := hid q1
  have HQ2 := hid q2
  have HQ3 := hid q3
  have HQ4 := hid q4
  have hn : W.heap[w.heap.size]? = some (stO zeroR) := (q4.block _ (by have := HB3.out.size; have := HSZ.out; omega) (by have := HSZ.out; omega)).trans HN3.out
  have hz : W.heap[w.heap.size + 1]? = some (.cells #[.bool false] 4) := (q4.block _ (by have := HSZ.out; omega) (by have := HSZ.out; omega)).trans HZ3.out
  have HZ := hid hz
  have HN := hid hn
  have HBW : Hid (Below w.heap.size w W) := hid (HB3.out.trans (q4.below (by have := HSZ.out; omega) HB3.out.size))
  clear q1 q2 q3 q4 hz hn
  have hq1 := HQ1.out
  have hn := HN.out
  have HSR := hid (setRow_heap _ _ _ (stL r).toArray _ _ hn)
  have hz2 := (Go.setRow_other W w.heap.size (w.heap.size + 1) (stL r).toArray (by omega)).trans HZ.out
  have HKB := hid (below_setRow HBW.out (Nat.le_refl _) (stL r).toArray)
  have HKO := hid (HQ2.out.keep (w' := W.setRow w.heap.size (stL r).toArray) (zhi hn (by decide)) (fun j _ hj => Go.setRow_other _ _ _ _ hj))
  have HKD := hid ((Go.setRow_other W w.heap.size D (stL r).toArray (by have := HB3.out.size; have := HSZ.out; omega)).trans hK)
  obtain ⟨W5, hW5⟩ : ∃ W5, W.setRow w.heap.size (stL r).toArray = W5 := ⟨_, rfl⟩
  rw [hW5] at HSR hz2 HKB HKO HKD
  have HZ2 := hid hz2
  have HW5 := hid hW5
  clear hW5 hz2 hK
  gi_wp2_with (first
   | (refine zkq rfl 266 _ rfl w1.heap.size rfl _ _ _ _ hq1 Tryz.underlying266 rfl zgw ?_)
   | (refine zkr rfl 266 _ _ rfl w.heap.size (stL r).toArray rfl rfl _ _ hn zgw rfl (zgy _) ?_; rw [HW5.out]; clear hn hq1; have hz2 := HZ2.out; have hc2 : W5.cell? ⟨w.heap.size + 1, 0, none⟩ = some (.bool false) := by { unfold World.cell?; rw [hz2]; rfl }; have hf2 := zcm hz2 0; clear hz2))
  have hlt : w.heap.size + 1 < D := by have := HS3.out; have := HSZ.out; omega
  have e1 : (W5.setCell ⟨w.heap.size + 1, 0, none⟩ (.bool true)).heap[D]? = some (.deferred (some [])) := (Below.heap_setCell W5 ⟨w.heap.size + 1, 0, none⟩ (.bool true) D (by show D ≠ w.heap.size + 1; omega)).trans HKD.out
  have e2 : (W5.setCell ⟨w.heap.size + 1, 0, none⟩ (.bool true)).heap[w.heap.size]? = some (stO r) := (Below.heap_setCell W5 ⟨w.heap.size + 1, 0, none⟩ (.bool true) w.heap.size (by show w.heap.size ≠ w.heap.size + 1; omega)).trans HSR.out
  have e3 : (W5.setCell ⟨w.heap.size + 1, 0, none⟩ (.bool true)).cell? ⟨w.heap.size + 1, 0, none⟩ = some (.bool true) := World.cell?_setCell_same _ _ _ hc2
  have e4 : Below w.heap.size w (W5.setCell ⟨w.heap.size + 1, 0, none⟩ (.bool true)) := HKB.out.setCell (by show w.heap.size ≤ w.heap.size + 1; omega) _
  have e5 : StOk (W5.setCell ⟨w.heap.size + 1, 0, none⟩ (.bool true)) r := HKO.out.keep (zhi HZ2.out (by decide)) (fun j _ hj => Below.heap_setCell _ _ _ _ hj)
  refine ⟨by simp, .inl ⟨_, _, rfl, run_takeDeferred e1, ?_⟩⟩
  refine ⟨_, zks rfl _ _ w.heap.size _ (stL r).toArray _ _ rfl ((World.putObj_heap_other (by omega)).trans e2) Tryz.underlying266 rfl zgw ⟨w.heap.size + 1, 0, none⟩ (.bool true) rfl (zkt ((World.cell?_of_block (World.putObj_heap_other (by show w.heap.size + 1 ≠ D; omega))).trans e3)), ?_⟩
  rw [HQ3.out]
  exact MaybeE.yes (e4.trans (belowK_b (w := W3) HB3.out.size _ D _ _ hD e1 rfl rfl)) rfl (e5.same fun b hb => World.putObj_heap_other (fun e => by
   obtain ⟨cs, fz, h⟩ := hb
   rw [e, e1] at h
   cases h))
 case body =>
  rintro l pre x W ⟨⟨r, q1, q2, q3⟩, q4⟩ hlt
  have HBW : Hid (Below w.heap.size w W) := hid (HB3.out.trans (q4.below (by have := HSZ.out; omega) HB3.out.size))
  have HN := hid ((q4.block w.heap.size (by have := HB3.out.size; have := HSZ.out; omega) (by have := HSZ.out; omega)).trans HN3.out)
  have HZ := hid ((q4.block (w.heap.size + 1) (by have := HSZ.out; omega) (by have := HSZ.out; omega)).trans HZ3.out)
  have HCM := hid (ziq (L.getD x []) W (HV.out.gr HBW.out) (Nat.le_trans (HPL.out x) (by decide)))
  have HAC : Hid (accM L (pre ++ [x]) = if x = 16 then none else (compM (L.getD x [])).map (meetS r.st)) := hid (by rw [zku, q3]; rfl)
  have HQ1 := hid q1
  have HQ2 := hid q2
  have HQ4 := hid q4
  have HWS : Hid (W3.heap.size ≤ W.heap.size) := hid q4.size
  have HL0 : Hid (w.heap.size < W.heap.size) := hid (Array.getElem?_eq_some_iff.1 HN.out).1
  have HL1 : Hid (w.heap.size + 1 < W.heap.size) := hid (Array.getElem?_eq_some_iff.1 HZ.out).1
  have HL2 : Hid (w1.heap.size < W.heap.size) := hid (Array.getElem?_eq_some_iff.1 q1).1
  clear q1 q2 q3 q4 z1 z2 HV HN3 HZ3 HR3 HOK3 HPS HST hlt h13 k1 k2
  generalize compM (L.getD x []) = cm at *
  generalize hpx : str (L.getD x []) = px at *
  clear hpx
  gi_wp2_with fail
  refine ⟨trivial, ((callsIn_wide.2 HCM.out).inRound l).mono ?_⟩
  rintro e W4 ⟨hb4, hno, hyes⟩
  have HB4 := hid hb4
  have HW4 : Hid (W.heap.size ≤ W4.heap.size) := hid hb4.size
  have HN4 := hid ((hb4.block _ HL0.out).trans HN.out)
  have HZ4 := hid ((hb4.block _ HL1.out).trans HZ.out)
  have HQ14 := hid ((hb4.block _ HL2.out).trans HQ1.out)
  have HQ24 := hid (HQ2.out.gr hb4)
  clear hb4
  rcases cm with _ | st1
  · obtain rfl := hno rfl
    clear hno hyes
    have hnb := heap_alloc_new W4 (stO zeroR)
    have HRR := hid (setRow_heap _ _ _ (stL zeroR).toArray _ _ hnb)
    have HOT : Hid (∀ k, k < W4.heap.size → ((W4.alloc (stO zeroR)).setRow W4.heap.size (stL zeroR).toArray).heap[k]? = W4.heap[k]?) := hid (fun k hk => (Go.setRow_other _ _ _ _ (by omega)).trans (by rw [heap_alloc_old W4 _ hk]))
    have HBB : Hid (Below W4.heap.size W4 ((W4.alloc (stO zeroR)).setRow W4.heap.size (stL zeroR).toArray)) := hid (below_setRow ((Below.refl _ W4).alloc (Nat.le_refl _) _) (Nat.le_refl _) _)
    have HS6 : Hid (((W4.alloc (stO zeroR)).setRow W4.heap.size (stL zeroR).toArray).heap.size = W4.heap.size + 1) := hid (by simp)
    obtain ⟨W6, hW6⟩ : ∃ W6, (W4.alloc (stO zeroR)).setRow W4.heap.size (stL zeroR).toArray = W6 := ⟨_, rfl⟩
    rw [hW6] at HRR HOT HBB HS6
    have HW6 := hid hW6
    have HN6 := hid ((HOT.out _ (by have := HL0.out; have := HW4.out; omega)).trans HN4.out)
    have HZ6 := hid ((HOT.out _ (by have := HL1.out; have := HW4.out; omega)).trans HZ4.out)
    have HNB := hid hnb
    clear hW6 hnb
    have HSR := hid (setRow_heap _ _ _ (stL zeroR).toArray _ _ HN6.out)
    have hz7 := (Go.setRow_other W6 w.heap.size (w.heap.size + 1) (stL zeroR).toArray (by omega)).trans HZ6.out
    have HB7 : Hid (Below w.heap.size w (W6.setRow w.heap.size (stL zeroR).toArray)) := hid (below_setRow ((HBW.out.trans (HB4.out.mono HBW.out.size)).trans (HBB.out.mono (by have := HL0.out; have := HW4.out; omega))) (Nat.le_refl _) _)
    have HK7 : Hid (KeepsFrom W3.heap.size W (W6.setRow w.heap.size (stL zeroR).toArray)) := hid (((zkx HB4.out).trans (zkx HBB.out)).trans (zky (by have := HS3.out; have := HSZ.out; omega)))
    obtain ⟨W7, hW7⟩ : ∃ W7, W6.setRow w.heap.size (stL zeroR).toArray = W7 := ⟨_, rfl⟩
    rw [hW7] at HSR hz7 HB7 HK7
    have HZ7 := hid hz7
    have HW7 := hid hW7
    clear hW7 hz7
    gi_wp2_with (first
     | (have hnb := HNB.out; refine zkr rfl 266 _ _ rfl W4.heap.size (stL zeroR).toArray rfl rfl _ _ hnb zgw rfl (zgy _) ?_; change wpListIn _ _ _ _ _ _ _ ((W4.alloc (stO zeroR)).setRow W4.heap.size (stL zeroR).toArray); rw [HW6.out]; clear HNB hnb HW6)
     | (have hn := HN6.out; refine zkr rfl 266 _ _ rfl w.heap.size (stL zeroR).toArray rfl rfl _ _ hn zgw rfl (zgy _) ?_; rw [HW7.out]; clear hn; have hz2 := HZ7.out; have hc2 : W7.cell? ⟨w.heap.size + 1, 0, none⟩ = some (.bool false) := by { unfold World.cell?; rw [hz2]; rfl }; have hf2 := zcm hz2 0; clear hz2))
    have e2 : (W7.setCell ⟨w.heap.size + 1, 0, none⟩ (.bool false)).heap[w.heap.size]? = some (stO zeroR) := (Below.heap_setCell W7 ⟨w.heap.size + 1, 0, none⟩ (.bool false) w.heap.size (by show w.heap.size ≠ w.heap.size + 1; omega)).trans HSR.out
    have e3 : (W7.setCell ⟨w.heap.size + 1, 0, none⟩ (.bool false)).heap[w.heap.size + 1]? = some (.cells #[.bool false] 4) := zck HZ7.out 0 _
    exact ⟨HK7.out.trans (zkz (by show w.heap.size + 1 < W3.heap.size; have := HS3.out; have := HSZ.out; omega)), rfl, by rw [HAC.out]; split <;> rfl, e2, e3, HB7.out.setCell (by show w.heap.size ≤ w.heap.size + 1; omega) _⟩
  · obtain ⟨r1, rfl, hst1, hok1⟩ := hyes st1 rfl
    have HST1 := hid hst1
    have HOK1 := hid hok1
    clear hno hyes hst1 hok1
    by_cases h16 : x = 16
    · subst h16
      have hnb := heap_alloc_new W4 (stO zeroR)
      have HRR := hid (setRow_heap _ _ _ (stL r1).toArray _ _ hnb)
      have HOT : Hid (∀ k, k < W4.heap.size → ((W4.alloc (stO zeroR)).setRow W4.heap.size (stL r1).toArray).heap[k]? = W4.heap[k]?) := hid (fun k hk => (Go.setRow_other _ _ _ _ (by omega)).trans (by rw [heap_alloc_old W4 _ hk]))
      have HBB : Hid (Below W4.heap.size W4 ((W4.alloc (stO zeroR)).setRow W4.heap.size (stL r1).toArray)) := hid (below_setRow ((Below.refl _ W4).alloc (Nat.le_refl _) _) (Nat.le_refl _) _)
      have HS6 : Hid (((W4.alloc (stO zeroR)).setRow W4.heap.size (stL r1).toArray).heap.size = W4.heap.size + 1) := hid (by simp)
      obtain ⟨W6, hW6⟩ : ∃ W6, (W4.alloc (stO zeroR)).setRow W4.heap.size (stL r1).toArray = W6 := ⟨_, rfl⟩
      rw [hW6] at HRR HOT HBB HS6
      have HW6 := hid hW6
      have HN6 := hid ((HOT.out _ (by have := HL0.out; have := HW4.out; omega)).trans HN4.out)
      have HZ6 := hid ((HOT.out _ (by have := HL1.out; have := HW4.out; omega)).trans HZ4.out)
      have HNB := hid hnb
      clear hW6 hnb
      have HSR := hid (setRow_heap _ _ _ (stL zeroR).toArray _ _ HN6.out)
      have hz7 := (Go.setRow_other W6 w.heap.size (w.heap.size + 1) (stL zeroR).toArray (by omega)).trans HZ6.out
      have HB7 : Hid (Below w.heap.size w (W6.setRow w.heap.size (stL zeroR).toArray)) := hid (below_setRow ((HBW.out.trans (HB4.out.mono HBW.out.size)).trans (HBB.out.mono (by have := HL0.out; have := HW4.out; omega))) (Nat.le_refl _) _)
      have HK7 : Hid (KeepsFrom W3.heap.size W (W6.setRow w.heap.size (stL zeroR).toArray)) := hid (((zkx HB4.out).trans (zkx HBB.out)).trans (zky (by have := HS3.out; have := HSZ.out; omega)))
      obtain ⟨W7, hW7⟩ : ∃ W7, W6.setRow w.heap.size (stL zeroR).toArray = W7 := ⟨_, rfl⟩
      rw [hW7] at HSR hz7 HB7 HK7
      have HZ7 := hid hz7
      have HW7 := hid hW7
      clear hW7 hz7
      gi_wp2_with (first
       | (have hnb := HNB.out; refine zkr rfl 266 _ _ rfl W4.heap.size (stL r1).toArray rfl rfl _ _ hnb zgw rfl (zgy _) ?_; change wpListIn _ _ _ _ _ _ _ ((W4.alloc (stO zeroR)).setRow W4.heap.size (stL r1).toArray); rw [HW6.out]; clear HNB hnb HW6)
       | (have hn := HN6.out; refine zkr rfl 266 _ _ rfl w.heap.size (stL zeroR).toArray rfl rfl _ _ hn zgw rfl (zgy _) ?_; rw [HW7.out]; clear hn; have hz2 := HZ7.out; have hc2 : W7.cell? ⟨w.heap.size + 1, 0, none⟩ = some (.bool false) := by { unfold World.cell?; rw [hz2]; rfl }; have hf2 := zcm hz2 0; clear hz2))
      have e2 : (W7.setCell ⟨w.heap.size + 1, 0, none⟩ (.bool false)).heap[w.heap.size]? = some (stO zeroR) := (Below.heap_setCell W7 ⟨w.heap.size + 1, 0, none⟩ (.bool false) w.heap.size (by show w.heap.size ≠ w.heap.size + 1; omega)).trans HSR.out
      have e3 : (W7.setCell ⟨w.heap.size + 1, 0, none⟩ (.bool false)).heap[w.heap.size + 1]? = some (.cells #[.bool false] 4) := zck HZ7.out 0 _
      exact ⟨HK7.out.trans (zkz (by show w.heap.size + 1 < W3.heap.size; have := HS3.out; have := HSZ.out; omega)), rfl, by rw [HAC.out]; rfl, e2, e3, HB7.out.setCell (by show w.heap.size ≤ w.heap.size + 1; omega) _⟩
    · have hd16 : ((x : Int) == 16) = false := beq_eq_false_iff_ne.2 (by omega)
      have HAC2 : Hid (accM L (pre ++ [x]) = some (meetS r.st r1.st)) := hid (by rw [HAC.out, if_neg h16, HST1.out]; rfl)
      clear h16
      have hnb := heap_alloc_new W4 (stO zeroR)
      have HRR := hid (setRow_heap _ _ _ (stL r1).toArray _ _ hnb)
      have HOT : Hid (∀ k, k < W4.heap.size → ((W4.alloc (stO zeroR)).setRow W4.heap.size (stL r1).toArray).heap[k]? = W4.heap[k]?) := hid (fun k hk => (Go.setRow_other _ _ _ _ (by omega)).trans (by rw [heap_alloc_old W4 _ hk]))
      have HBB : Hid (Below W4.heap.size W4 ((W4.alloc (stO zeroR)).setRow W4.heap.size (stL r1).toArray)) := hid (below_setRow ((Below.refl _ W4).alloc (Nat.le_refl _) _) (Nat.le_refl _) _)
      have HS6 : Hid (((W4.alloc (stO zeroR)).setRow W4.heap.size (stL r1).toArray).heap.size = W4.heap.size + 1) := hid (by simp)
      obtain ⟨W6, hW6⟩ : ∃ W6, (W4.alloc (stO zeroR)).setRow W4.heap.size (stL r1).toArray = W6 := ⟨_, rfl⟩
      rw [hW6] at HRR HOT HBB HS6
      have HW6 := hid hW6
      have HN6 := hid ((HOT.out _ (by have := HL0.out; have := HW4.out; omega)).trans HN4.out)
      have HZ6 := hid ((HOT.out _ (by have := HL1.out; have := HW4.out; omega)).trans HZ4.out)
      have HNB := hid hnb
      clear hW6 hnb
      have HQ16 := hid ((HOT.out _ (by have := HL2.out; have := HW4.out; omega)).trans HQ14.out)
      have HR6 := hid (HQ24.out.gr HBB.out)
      have HO6 := hid (HOK1.out.gr HBB.out)
      have HME := hid (zhh r r1 W6 HR6.out HO6.out)
      have HMS := hid (zgu r r1)
      have HMO := hid (zgv HR6.out HO6.out)
      generalize meetR r r1 = rm at *
      have hq16 := HQ16.out
      have hrr := HRR.out
      gi_wp2_with (first
       | (have hnb := HNB.out; refine zkr rfl 266 _ _ rfl W4.heap.size (stL r1).toArray rfl rfl _ _ hnb zgw rfl (zgy _) ?_; change wpListIn _ _ _ _ _ _ _ ((W4.alloc (stO zeroR)).setRow W4.heap.size (stL r1).toArray); rw [HW6.out]; clear HNB hnb HW6)
       | (refine zkq rfl 266 _ rfl w1.heap.size rfl _ _ _ _ hq16 Tryz.underlying266 rfl zgw ?_)
       | (refine zkq rfl 266 _ rfl W4.heap.size rfl _ _ _ _ hrr Tryz.underlying266 rfl zgw ?_)
       | (refine ⟨trivial, ?_⟩; gi_at_call 232; refine ((callsIn_wide.2 HME.out).inRound l).mono ?_; rintro e W8 ⟨rfl, hg8⟩; refine Hid.out ?_))
      refine hid ?_
      have hb8 := hg8.below
      have hl16 := (Array.getElem?_eq_some_iff.1 hq16).1
      have hq18 := (hb8.block _ hl16).trans hq16
      have HKK : Hid (KeepsFrom W3.heap.size W (W8.setRow w1.heap.size (stL rm).toArray)) := hid ((((zkx HB4.out).trans (zkx HBB.out)).trans (zkx hb8)).trans (zky (by have := HS3.out; omega)))
      have HBX : Hid (Bx w1.heap.size W3.heap.size W (W8.setRow w1.heap.size (stL rm).toArray)) := hid (by
       have hw := HWS.out
       have h4 := HW4.out
       have h6 := HBB.out.size
       have h8 := hb8.size
       refine (((Bx.of_below (HB4.out.mono hw)).trans (Bx.of_below (HBB.out.mono (by omega)))).trans (Bx.of_below (hb8.mono (by omega)))).trans ?_
       exact ⟨rfl, rfl, rfl, by simp, fun k _ hk => Go.setRow_other _ _ _ _ hk⟩)
      have HRO : Hid (StOk (W8.setRow w1.heap.size (stL rm).toArray) rm) := hid ((HMO.out.gr hb8).keep (zhi hq18 (by decide)) (fun j _ hj => Go.setRow_other _ _ _ _ hj))
      have HRS := hid (setRow_heap _ _ _ (stL rm).toArray _ _ hq18)
      clear hg8 hb8 hl16 hq16 hrr
      gi_wp2_with (refine zkr rfl 266 _ _ rfl w1.heap.size (stL rm).toArray rfl rfl _ _ hq18 zgw rfl (zgy _) ?_)
      exact ⟨HKK.out, HBX.out, ⟨rm, HRS.out, HRO.out, by rw [HAC2.out, HMS.out]⟩, HQ4.out.trans HBX.out⟩
/-- what an alternative says -/
theorem zlf (s : B) (w : World) (hv : Vw w) (hs : s.length ≤ 128) : Calls Tryz.prog 208 #[.string (str s)] w (MaybeE (altM s) w) := by
 unfold altM
 by_cases h1 : s = [42]
 · subst h1; exact zld w
 · rw [if_neg h1]
   by_cases h2 : s = [33]
   · subst h2; exact zle w
   · rw [if_neg h2]
     exact (callsIn_wide (n := 6)).1 (palt_in s w hv hs h1 h2)
end SpanC
open Go.RowKit Go.Shelf
namespace SpanC
open VerM SpanM StrC TextR VerC RoundR
attribute [local go_sem] Oper.semAt_some
theorem zlg {P : Program} {fn : Func} {p q : Tmp} {ta tb : TypeId} (h : fn.results = #[.cell p ta, .cell q tb]) (tmps : Array Value) (w : World)
 (a : Addr) (u : Value) (hp : tmps.getD p undef = .pointer (some a)) (ha : (loadVar ta a).run P w = .ok u w)
 (b : Addr) (v : Value) (hq : tmps.getD q undef = .pointer (some b)) (hc : (loadVar tb b).run P w = .ok v w) :
 (results fn tmps).run P w = .ok (.tuple #[u, v]) w := by
 have hp' : tmps[p]?.getD undef = .pointer (some a) := by simpa using hp
 have hq' : tmps[q]?.getD undef = .pointer (some b) := by simpa using hq
 simp [results, h, hp', hq', asAddr, ha, hc]
theorem zlh {w : World} {a : Addr} {v : Value} (hc : w.cell? a = some v) : (loadVar 228 a).run Tryz.prog w = .ok v w := by simp [loadVar, go_sem, hc]
theorem zli {w : World} {a : Addr} {v : Value} (hc : w.cell? a = some v) : (loadVar 28 a).run Tryz.prog w = .ok v w := by simp [loadVar, go_sem, hc]
def accR (L : List B) (pre : List Nat) : Option (List St) := pre.foldl (fun o k => if k = 16 then none else o.bind fun a => (altM (L.getD k [])).map fun t => a ++ [t]) (some [])
theorem zlj (L : List B) (pre : List Nat) (k : Nat) : accR L (pre ++ [k]) = if k = 16 then none else (accR L pre).bind fun a => (altM (L.getD k [])).map fun t => a ++ [t] := by
 unfold accR; rw [List.foldl_append]; rfl
theorem zlk {L : List B} : ∀ (l : List Nat), l.foldl (fun o k => if k = 16 then none else o.bind fun a => (altM (L.getD k [])).map fun t => a ++ [t]) (none : Option (List St)) = none
 | [] => rfl
 | k :: l => by
   rw [List.foldl_cons]
   have : (if k = 16 then none else (none : Option (List St)).bind fun a => (altM (L.getD k [])).map fun t => a ++ [t]) = none := by split <;> rfl
   rw [this]; exact zlk l
theorem zll {L : List B} {k n : Nat} (h : accR L (List.range k) = none) (hk : k ≤ n) : accR L (List.range n) = none := by
 obtain ⟨m, rfl⟩ : ∃ m, n = k + m := ⟨n - k, by omega⟩
 rw [List.range_add]
 unfold accR at h ⊢
 rw [List.foldl_append, h]
 exact zlk _
def readO (s : B) : Option (List St) := if s.length ≤ 128 then accR (zjz orB s) (List.range (zjz orB s).length) else none
def ReadSE (o : Option (List St)) (w : World) (e : Ending) (w' : World) : Prop := Below w.heap.size w w' ∧ (o = none → e = .returned (.tuple #[.slice none 0 0, .int .i64 80])) ∧
 ∀ l, o = some l → ∃ u R, e = .returned (.tuple #[u, .int .i64 0]) ∧ StRow w' w.heap.size u R ∧ AllOk w' R ∧ R.map StR.st = formM l
theorem zlm {s : B} (hs : s.length ≤ 128) (k : Nat) : ((zjz orB s).getD k []).length ≤ 128 := by
 by_cases hk : k < (zjz orB s).length
 · have := zkh (d := orB) (by decide) s _ (List.getElem_mem hk)
   rw [List.getD_eq_getElem?_getD, List.getElem?_eq_getElem hk]
   exact Nat.le_trans this hs
 · rw [List.getD_eq_getElem?_getD, List.getElem?_eq_none (by omega)]; simp
theorem zln {w : World} {B : Nat} {v : Value} {L : List StR} (h : StRow w B v L) {D : Nat} {o : Obj} (o' : Obj) (hD : w.heap[D]? = some o) (ho : o.isCells = false) : StRow (w.putObj D o') B v L := by
 unfold StRow at h ⊢
 exact ownsRow_putObj h o' hD ho
set_option maxRecDepth 100000 in
theorem zlo (s : B) (w : World) (hl : s.length ≤ 9223372036854775807) (hs : 128 < s.length) : Calls Tryz.prog 184 #[.string (str s)] w (ReadSE none w) := by
 have hz : (str s).size = s.length := zbm s
 obtain ⟨n, hn⟩ : ∃ n, s.length = n := ⟨_, rfl⟩
 rw [hn] at hl hs hz
 have hd : decide ((128 : Int) < (n : Int)) = true := decide_eq_true (by omega)
 have hd2 : decide (128 < n) = true := decide_eq_true hs
 have HB0 : Hid (Below w.heap.size w ((w.alloc (.cells #[.slice none 0 0] 228)).alloc (.cells #[.int .i64 0] 28))) := hid (((Below.refl _ w).alloc (Nat.le_refl _) _).alloc (by simp) _)
 have b0 := (heap_alloc_old (w.alloc (.cells #[.slice none 0 0] 228)) (.cells #[.int .i64 0] 28) (r := w.heap.size) (by simp)).trans (heap_alloc_new w (.cells #[.slice none 0 0] 228))
 have b1 := heap_alloc_new (w.alloc (.cells #[.slice none 0 0] 228)) (.cells #[.int .i64 0] 28)
 rw [World.size_alloc] at b1
 generalize str s = t at *
 clear hn
 obtain ⟨W, hW⟩ : ∃ W, (w.alloc (.cells #[.slice none 0 0] 228)).alloc (.cells #[.int .i64 0] 28) = W := ⟨_, rfl⟩
 rw [hW] at HB0 b0 b1
 have HW := hid hW
 have c0 : W.cell? ⟨w.heap.size, 0, none⟩ = some (.slice none 0 0) := by unfold World.cell?; rw [b0]; rfl
 have c1 : W.cell? ⟨w.heap.size + 1, 0, none⟩ = some (.int .i64 0) := by unfold World.cell?; rw [b1]; rfl
 have f0 := zcm b0 0
 have f1 := zcm b1 0
 clear hW b0 b1
 go_enter Tryz.func184, Tryz.ntmps184
 go_upto_region 1 with fail
 rw [HW.out]
 go_wp2_with fail
 have e1 : ((W.setCell ⟨w.heap.size, 0, none⟩ (.slice none 0 0)).setCell ⟨w.heap.size + 1, 0, none⟩ (.int .i64 80)).cell? ⟨w.heap.size + 1, 0, none⟩ = some (.int .i64 80) := World.cell?_setCell_same _ _ _ (by rw [World.cell?_setCell_other _ _ _ _ (by simp)]; exact c1)
 have e0 : ((W.setCell ⟨w.heap.size, 0, none⟩ (.slice none 0 0)).setCell ⟨w.heap.size + 1, 0, none⟩ (.int .i64 80)).cell? ⟨w.heap.size, 0, none⟩ = some (.slice none 0 0) := by
  rw [World.cell?_setCell_other _ _ _ _ (by simp)]; exact World.cell?_setCell_same _ _ _ c0
 refine bodyPost_ret (zlg rfl _ _ ⟨w.heap.size, 0, none⟩ _ rfl (zlh e0) ⟨w.heap.size + 1, 0, none⟩ _ rfl (zli e1)) rfl ?_
 exact ⟨(HB0.out.setCell (Nat.le_refl _) _).setCell (by show w.heap.size ≤ w.heap.size + 1; omega) _, fun _ => rfl, fun l h => by cases h⟩
set_option maxRecDepth 100000 in
theorem zlp (s : B) (w : World) (hv : Vw w) (hs : s.length ≤ 128) : CallsIn Fence.wide 6 Tryz.prog 184 #[.string (str s)] w (ReadSE (accR (zjz orB s) (List.range (zjz orB s).length)) w) := by
 obtain ⟨i0, hi, hz0, hz1, hz2⟩ := info_parts zhr
 have hz : (str s).size = s.length := zbm s
 have HB0 : Hid (Below w.heap.size w (((w.alloc (.cells #[.slice none 0 0] 228)).alloc (.cells #[.int .i64 0] 28)).alloc (.cells #[.slice none 0 0] 228))) := hid ((((Below.refl _ w).alloc (Nat.le_refl _) _).alloc (by simp) _).alloc (by simp; omega) _)
 have b0 := (heap_alloc_old ((w.alloc (.cells #[.slice none 0 0] 228)).alloc (.cells #[.int .i64 0] 28)) (.cells #[.slice none 0 0] 228) (r := w.heap.size) (by simp; omega)).trans ((heap_alloc_old (w.alloc (.cells #[.slice none 0 0] 228)) (.cells #[.int .i64 0] 28) (r := w.heap.size) (by simp)).trans (heap_alloc_new w (.cells #[.slice none 0 0] 228)))
 have b1 := heap_alloc_new (w.alloc (.cells #[.slice none 0 0] 228)) (.cells #[.int .i64 0] 28)
 rw [World.size_alloc] at b1
 have b1 := (heap_alloc_old ((w.alloc (.cells #[.slice none 0 0] 228)).alloc (.cells #[.int .i64 0] 28)) (.cells #[.slice none 0 0] 228) (r := w.heap.size + 1) (by simp)).trans b1
 have b2 := heap_alloc_new ((w.alloc (.cells #[.slice none 0 0] 228)).alloc (.cells #[.int .i64 0] 28)) (.cells #[.slice none 0 0] 228)
 rw [World.size_alloc, World.size_alloc] at b2
 have HS0 : Hid ((((w.alloc (.cells #[.slice none 0 0] 228)).alloc (.cells #[.int .i64 0] 28)).alloc (.cells #[.slice none 0 0] 228)).heap.size = w.heap.size + 3) := hid (by simp)
 have hd : decide ((128 : Int) < (s.length : Int)) = false := decide_eq_false (by omega)
 have hd2 : decide (128 < s.length) = false := decide_eq_false (by omega)
 have HV := hid hv
 have HS := hid hs
 obtain ⟨W2, hW2⟩ : ∃ W2, ((w.alloc (.cells #[.slice none 0 0] 228)).alloc (.cells #[.int .i64 0] 28)).alloc (.cells #[.slice none 0 0] 228) = W2 := ⟨_, rfl⟩
 rw [hW2] at HB0 b0 b1 b2 HS0
 have HW2 := hid hW2
 have HN0 := hid b0
 have HN1 := hid b1
 have HN2 := hid b2
 clear hv hs hW2 b0 b1 b2
 refine callsIn_of_wp_marks Tryz.func184 rfl trivial ?_ rfl
 simp only [Tryz.ntmps184, List.size_toArray, List.length_cons, List.length_nil, Nat.reduceAdd, Nat.reduceSub, Array.replicate_succ, Array.replicate_zero, List.push_toArray, List.append_toArray, List.nil_append, List.cons_append]
 gi_wp2_with fail
 change Fence.wide.fn _ ∧ CallsIn Fence.wide 5 Tryz.prog _ _ (((w.alloc (.cells #[.slice none 0 0] 228)).alloc (.cells #[.int .i64 0] 28)).alloc (.cells #[.slice none 0 0] 228)) _
 rw [HW2.out]
 clear HW2
 refine ⟨trivial, (callsIn_wide.2 (zkl _ _ _)).mono ?_⟩
 rintro e w3 ⟨rfl, rfl⟩
 obtain ⟨z0, z1, z2, z3⟩ := zkk (str s) ⟨#[32, 124, 124, 32]⟩ W2
 have HK0 := hid ((z3.block _ (Array.getElem?_eq_some_iff.1 HN0.out).1).trans HN0.out)
 have HK1 := hid ((z3.block _ (Array.getElem?_eq_some_iff.1 HN1.out).1).trans HN1.out)
 have HK2 := hid ((z3.block _ (Array.getElem?_eq_some_iff.1 HN2.out).1).trans HN2.out)
 have HB3 := hid (HB0.out.trans (z3.mono HB0.out.size))
 obtain ⟨W3, hW3⟩ : ∃ W3, zkj (str s) ⟨#[32, 124, 124, 32]⟩ W2 = W3 := ⟨_, rfl⟩
 rw [hW3] at z0 z1 z2 HK0 HK1 HK2 HB3 ⊢
 have hs2 := HS0.out
 rw [hs2] at z0 z1 z2
 unfold zki
 rw [hs2]
 have HS3 : Hid (W3.heap.size = w.heap.size + 5) := hid z0
 clear z0 z3 hW3 hs2 HN0 HN1 HN2 HS0 HB0
 gi_wp2_with fail
 have HPS := hid (zkp 5 (by decide) (w.heap.size + 3) (w.heap.size + 3 + 1) (w.heap.size + 2) W3.heap.size s orB (by decide) HS.out
  (fun W' h => HV.out.gr (HB3.out.trans (h.below (m := w.heap.size) (by omega) HB3.out.size)))
  (Nat.le_refl _) z1 z2 (by have := HS3.out; omega) (by omega))
 have HPL := hid (zlm HS.out)
 have HLL : Hid ((zjz orB s).length ≤ 129) := hid (Nat.le_trans (zkg (by decide) s) (by have := HS.out; omega))
 generalize zjz orB s = L at *
 clear z1 z2
 refine wpIn_rangeFunc_ownG rfl (by decide) (gf := 229) (lb := #[.pointer (some ⟨(w.heap.size + 3), 0, none⟩), .pointer (some ⟨(w.heap.size + 3) + 1, 0, none⟩)]) rfl trivial (enters_of Tryz.func229 (by kernel_rfl) rfl)
  HPS.out (fun h k => h.trans k) (bxK_b (Nat.le_refl _)) (Below.refl _ _) (fun _ => rfl)
  (fun (pre : List Nat) W => (∃ (v : Value) (M : List StR), Boxed W (w.heap.size + 2) 228 v ∧ StRow W W3.heap.size v M ∧ AllOk W M ∧ accR L pre = some (M.map StR.st) ∧ M.length = pre.length) ∧ Bx (w.heap.size + 2) W3.heap.size W3 W)
  (fun c pre W => c = .ret ∧ accR L pre = none ∧ W.heap[w.heap.size]? = some (.cells #[.slice none 0 0] 228) ∧ W.heap[w.heap.size + 1]? = some (.cells #[.int .i64 80] 28) ∧ Below w.heap.size w W)
  ?own ?ownX
  ⟨⟨.slice none 0 0, [], HK2.out, World.ownsRow_nil _ _ _ _, fun x h => (by cases h), rfl, rfl⟩, Bx.refl _ _ _⟩
  (fun (x : Nat) => { tmps := #[.string (str s), undef, .pointer (some ⟨w.heap.size, 0, none⟩), .pointer (some ⟨w.heap.size + 1, 0, none⟩), .pointer (some ⟨w.heap.size + 2, 0, none⟩), .int .i64 (x : Int), .string (str (L.getD x [])), undef, undef, .string (str s), .int .i64 (s.length : Int), .bool false, .string (str s), .func (.func 229) #[] #[.pointer (some ⟨w.heap.size + 3, 0, none⟩), .pointer (some ⟨w.heap.size + 3 + 1, 0, none⟩)], .int .i64 (x : Int), .string (str (L.getD x [])), undef, undef, undef, undef, undef, undef, undef, undef, undef, undef, undef, undef, undef, undef, undef, undef, undef], defers := [] }) ?assign ?body ?done ?stop
 case own =>
  rintro pre W W' row ⟨⟨v, M, q1, q2, q3, q4, q5⟩, q6⟩ hg hr
  have hs3 := HS3.out
  refine ⟨⟨v, M, (hg.block _ q1.lt (fun e => by have := (hr _ e.symm).1; omega)).trans q1, ?_, fun y hy => (q3 y hy).same (zla hg fun r e => (hr r e).2), q4, q5⟩, ?_⟩
  · refine World.ownsRow.kept q2 hg ?_
    rcases q2.2 with ⟨rfl, _⟩ | ⟨g, cap, cur, rfl, _, hgb, _⟩
    · exact .inl rfl
    · refine .inr fun e' => ?_
      obtain ⟨-, o, ho, hc⟩ := hr g (by simpa [Value.ownBlock] using e'.symm)
      rw [hgb] at ho; cases ho; cases hc
  · exact q6.grown hg q6.size (fun r e => .inr (hr r e).1)
 case ownX =>
  rintro c pre W W' row ⟨q1, q2, q3, q4, q5⟩ hg hr
  have hs3 := HS3.out
  refine ⟨q1, q2, (hg.block _ (Array.getElem?_eq_some_iff.1 q3).1 (fun e => by have := (hr _ e.symm).1; omega)).trans q3, (hg.block _ (Array.getElem?_eq_some_iff.1 q4).1 (fun e => by have := (hr _ e.symm).1; omega)).trans q4, q5.grown hg q5.size (fun k e => by have := (hr k e).1; omega)⟩
 case assign =>
  intro l x W K hK
  dsimp only [encP]
  gi_wp2
  exact hK
 case stop =>
  rintro D c pre W hD ⟨k, hk, rfl⟩ ⟨rfl, q2, q3, q4, q5⟩ hK
  have HAC : Hid (accR L (List.range L.length) = none) := hid (zll q2 hk)
  have HQ3 := hid q3
  have HQ4 := hid q4
  have HQ5 := hid q5
  clear q2 q3 q4 q5
  have hs3 := HS3.out
  have hx := (World.putObj_heap_other (w := W) (r := D) (o := .deferred none) (k := w.heap.size) (by omega)).trans HQ3.out
  have hx2 := (World.putObj_heap_other (w := W) (r := D) (o := .deferred none) (k := w.heap.size + 1) (by omega)).trans HQ4.out
  gi_wp2
  refine ⟨by simp, .inl ⟨_, _, rfl, run_takeDeferred hK, ?_⟩⟩
  refine ⟨_, zlg rfl _ _ ⟨w.heap.size, 0, none⟩ (.slice none 0 0) rfl (zlh (by unfold World.cell?; rw [hx]; rfl)) ⟨w.heap.size + 1, 0, none⟩ (.int .i64 80) rfl (zli (by unfold World.cell?; rw [hx2]; rfl)), ?_⟩
  rw [HAC.out]
  exact ⟨HQ5.out.trans (belowK_b (w := W3) HB3.out.size W D _ _ hD hK rfl rfl), fun _ => rfl, fun l h => by cases h⟩
 case done =>
  rintro D ys W hD rfl ⟨⟨v, M, q1, q2, q3, q4, q5⟩, q6⟩ hK
  have HQ2 := hid q2
  have HQ4 := hid q4
  have hs3 := HS3.out
  have HN := hid ((q6.block w.heap.size (by omega) (by omega)).trans HK0.out)
  have HZ := hid ((q6.block (w.heap.size + 1) (by omega) (by omega)).trans HK1.out)
  have HBW : Hid (Below w.heap.size w W) := hid (HB3.out.trans (q6.below (by omega) HB3.out.size))
  have HFM := hid (zih v M W W3.heap.size q6.size q2 q3 (by rw [q5, List.length_range]; have := HLL.out; omega))
  have hne : v.ownBlock ≠ some D := by
   rcases q2.2 with ⟨rfl, _⟩ | ⟨g, cap, cur, rfl, _, hgb, _⟩
   · intro e; cases e
   · intro e
     have : g = D := by simpa [Value.ownBlock] using e
     rw [this, hK] at hgb
     cases hgb
  have hDl := (Array.getElem?_eq_some_iff.1 hK).1
  have HNE := hid hne
  have HK := hid hK
  have HDL := hid hDl
  have HWS := hid q6.size
  have hc := q1.cell
  have hc' : W.cell? ⟨w.heap.size + 1 + 1, 0, none⟩ = some v := hc
  clear q1 q2 q3 q4 q5 q6 hK hne hDl
  gi_wp2_with (refine ⟨trivial, ?_⟩; gi_at_call 209; refine (callsIn_wide.2 HFM.out).mono ?_; rintro e W4 ⟨u, R, rfl, hr4, hok4, hm4, hb4, he4⟩; obtain ⟨ua, ucp, rfl⟩ := hr4.value; refine Hid.out ?_)
  refine hid ?_
  have n4 := (hb4.block w.heap.size (by omega)).trans HN.out
  have z4 := (hb4.block (w.heap.size + 1) (by omega)).trans HZ.out
  have hD4 := (he4 D HDL.out HNE.out).trans HK.out
  have c0 : W4.cell? ⟨w.heap.size, 0, none⟩ = some (.slice none 0 0) := by unfold World.cell?; rw [n4]; rfl
  have c1 : W4.cell? ⟨w.heap.size + 1, 0, none⟩ = some (.int .i64 0) := by unfold World.cell?; rw [z4]; rfl
  have f0 := zcm n4 0
  have f1 := zcm z4 0
  have HBZ : Hid (Below w.heap.size w W4) := hid (HBW.out.trans (hb4.mono (by omega)))
  have HR4 := hid hr4
  have HO4 := hid hok4
  have HM4 := hid hm4
  have HD4 := hid hD4
  have HNT : Hid (¬ IsText W4 w.heap.size ∧ ¬ IsText W4 (w.heap.size + 1)) := hid ⟨zhi n4 (by decide), zhi z4 (by decide)⟩
  have HC1 := hid c1
  have HC0 := hid c0
  clear n4 z4 hr4 hok4 hm4 hb4 he4 hD4 hc hc'
  gi_wp2_with fail
  obtain ⟨W5, hW5⟩ : ∃ W5, W4.setCell ⟨w.heap.size, 0, none⟩ (.slice ua R.length ucp) = W5 := ⟨_, rfl⟩
  obtain ⟨W6, hW6⟩ : ∃ W6, W5.setCell ⟨w.heap.size + 1, 0, none⟩ (.int .i64 0) = W6 := ⟨_, rfl⟩
  rw [hW5, hW6]
  have o5 : ∀ k, k ≠ w.heap.size → W5.heap[k]? = W4.heap[k]? := fun k hk => by rw [← hW5]; exact Below.heap_setCell _ _ _ _ hk
  have o6 : ∀ k, k ≠ w.heap.size + 1 → W6.heap[k]? = W5.heap[k]? := fun k hk => by rw [← hW6]; exact Below.heap_setCell _ _ _ _ hk
  have g5 : W4.grownBy W5 (some w.heap.size) := by rw [← hW5]; exact grownBy_setCell' W4 w.heap.size (.slice ua R.length ucp)
  have g6 : W5.grownBy W6 (some (w.heap.size + 1)) := by rw [← hW6]; exact grownBy_setCell' W5 (w.heap.size + 1) (.int .i64 0)
  have e1 : W6.cell? ⟨w.heap.size + 1, 0, none⟩ = some (.int .i64 0) := by
   rw [← hW6]
   exact World.cell?_setCell_same _ _ _ (by rw [← hW5, World.cell?_setCell_other _ _ _ _ (by simp)]; exact HC1.out)
  have e0 : W6.cell? ⟨w.heap.size, 0, none⟩ = some (.slice ua R.length ucp) := by
   rw [← hW6, World.cell?_setCell_other _ _ _ _ (by simp), ← hW5]
   exact World.cell?_setCell_same _ _ _ HC0.out
  have hD6 : W6.heap[D]? = some (.deferred (some [])) := (o6 D (by omega)).trans ((o5 D (by omega)).trans HD4.out)
  have hr6 : StRow W6 W3.heap.size (.slice ua R.length ucp) R := by
   have hlt := fun j hj => World.ownsRow.lt HR4.out j hj
   refine World.ownsRow.kept (World.ownsRow.kept HR4.out g5 (.inr fun e => ?_)) g6 (.inr fun e => ?_)
   · have := (hlt _ e).1; omega
   · have := (hlt _ e).1; omega
  have hk6 : AllOk W6 R := fun y hy => ((HO4.out y hy).keep HNT.out.1 (fun j _ hj => o5 j hj)).keep (fun h => HNT.out.2 (h.of (o5 _ (by omega)).symm)) (fun j _ hj => o6 j hj)
  have hb6 : Below w.heap.size w W6 := by
   rw [← hW6, ← hW5]
   exact (HBZ.out.setCell (Nat.le_refl _) _).setCell (by show w.heap.size ≤ w.heap.size + 1; omega) _
  refine ⟨by simp, .inl ⟨_, _, rfl, run_takeDeferred hD6, ?_⟩⟩
  refine ⟨_, zlg rfl _ _ ⟨w.heap.size, 0, none⟩ (.slice ua R.length ucp) rfl (zlh ((World.cell?_of_block (World.putObj_heap_other (by show w.heap.size ≠ D; omega))).trans e0)) ⟨w.heap.size + 1, 0, none⟩ (.int .i64 0) rfl (zli ((World.cell?_of_block (World.putObj_heap_other (by show w.heap.size + 1 ≠ D; omega))).trans e1)), ?_⟩
  rw [HQ4.out]
  refine ⟨hb6.trans (belowK_b (w := W3) HB3.out.size _ D _ _ hD hD6 rfl rfl), fun h => (by cases h), fun l h => ?_⟩
  cases h
  refine ⟨_, R, rfl, zln (zig hr6 (by omega)) _ hD6 rfl, fun y hy => (hk6 y hy).same fun b hb => World.putObj_heap_other (fun e => ?_), HM4.out⟩
  obtain ⟨cs, fz, h⟩ := hb
  rw [e, hD6] at h
  cases h
 case body =>
  rintro l pre x W ⟨⟨v, M, q1, q2, q3, q4, q5⟩, q6⟩ hlt
  have hs3 := HS3.out
  have HBW : Hid (Below w.heap.size w W) := hid (HB3.out.trans (q6.below (by omega) HB3.out.size))
  have HN := hid ((q6.block w.heap.size (by omega) (by omega)).trans HK0.out)
  have HZ := hid ((q6.block (w.heap.size + 1) (by omega) (by omega)).trans HK1.out)
  have HCM := hid (zlf (L.getD x []) W (HV.out.gr HBW.out) (HPL.out x))
  have HAC : Hid (accR L (pre ++ [x]) = if x = 16 then none else (altM (L.getD x [])).map (fun t => M.map StR.st ++ [t])) := hid (by rw [zlj, q4]; rfl)
  have HQ1 := hid q1
  have HQ2 := hid q2
  have HQ3 := hid q3
  have HQ5 := hid q5
  have HQ6 := hid q6
  have HML : Hid (M.length ≤ 129) := hid (by have := HLL.out; omega)
  have HWS : Hid (W3.heap.size ≤ W.heap.size) := hid q6.size
  have HL0 : Hid (w.heap.size < W.heap.size) := hid (Array.getElem?_eq_some_iff.1 HN.out).1
  have HL1 : Hid (w.heap.size + 1 < W.heap.size) := hid (Array.getElem?_eq_some_iff.1 HZ.out).1
  have HL2 : Hid (w.heap.size + 2 < W.heap.size) := hid q1.lt
  clear q1 q2 q3 q4 q5 q6 HV HK0 HK1 HK2 HPS hlt hs3 hz hd hd2
  generalize altM (L.getD x []) = cm at *
  generalize hpx : str (L.getD x []) = px at *
  clear hpx
  gi_wp2_with fail
  refine ⟨trivial, ((callsIn_wide.2 HCM.out).inRound l).mono ?_⟩
  rintro e W4 ⟨hb4, hno, hyes⟩
  have HB4 := hid hb4
  have HW4 : Hid (W.heap.size ≤ W4.heap.size) := hid hb4.size
  have HN4 := hid ((hb4.block _ HL0.out).trans HN.out)
  have HZ4 := hid ((hb4.block _ HL1.out).trans HZ.out)
  have HQ14 : Hid (Boxed W4 (w.heap.size + 2) 228 v) := hid ((hb4.block _ HL2.out).trans HQ1.out)
  have HQ24 := hid (HQ2.out.below hb4)
  have HQ34 := hid (HQ3.out.gr hb4)
  clear hb4
  rcases cm with _ | st1
  · obtain rfl := hno rfl
    clear hno hyes
    have hnb := heap_alloc_new W4 (stO zeroR)
    have HRR := hid (setRow_heap _ _ _ (stL zeroR).toArray _ _ hnb)
    have HOT : Hid (∀ k, k < W4.heap.size → ((W4.alloc (stO zeroR)).setRow W4.heap.size (stL zeroR).toArray).heap[k]? = W4.heap[k]?) := hid (fun k hk => (Go.setRow_other _ _ _ _ (by omega)).trans (by rw [heap_alloc_old W4 _ hk]))
    have HBB : Hid (Below W4.heap.size W4 ((W4.alloc (stO zeroR)).setRow W4.heap.size (stL zeroR).toArray)) := hid (below_setRow ((Below.refl _ W4).alloc (Nat.le_refl _) _) (Nat.le_refl _) _)
    have HS6 : Hid (((W4.alloc (stO zeroR)).setRow W4.heap.size (stL zeroR).toArray).heap.size = W4.heap.size + 1) := hid (by simp)
    obtain ⟨W6, hW6⟩ : ∃ W6, (W4.alloc (stO zeroR)).setRow W4.heap.size (stL zeroR).toArray = W6 := ⟨_, rfl⟩
    rw [hW6] at HRR HOT HBB HS6
    have HW6 := hid hW6
    have HN6 := hid ((HOT.out _ (by have := HL0.out; have := HW4.out; omega)).trans HN4.out)
    have HZ6 := hid ((HOT.out _ (by have := HL1.out; have := HW4.out; omega)).trans HZ4.out)
    have HNB := hid hnb
    clear hW6 hnb
    have c0 : W6.cell? ⟨w.heap.size, 0, none⟩ = some (.slice none 0 0) := by have h := HN6.out; unfold World.cell?; rw [h]; rfl
    have c1 : W6.cell? ⟨w.heap.size + 1, 0, none⟩ = some (.int .i64 0) := by have h := HZ6.out; unfold World.cell?; rw [h]; rfl
    have f0 := zcm HN6.out 0
    have f1 := zcm HZ6.out 0
    have HB6 : Hid (Below w.heap.size w W6) := hid ((HBW.out.trans (HB4.out.mono HBW.out.size)).trans (HBB.out.mono (by have := HL0.out; have := HW4.out; omega)))
    have HK6 : Hid (KeepsFrom W3.heap.size W W6) := hid ((zkx HB4.out).trans (zkx HBB.out))
    gi_wp2_with (have hnb := HNB.out; refine zkr rfl 266 _ _ rfl W4.heap.size (stL zeroR).toArray rfl rfl _ _ hnb zgw rfl (zgy _) ?_; change wpListIn _ _ _ _ _ _ _ ((W4.alloc (stO zeroR)).setRow W4.heap.size (stL zeroR).toArray); rw [HW6.out]; clear HNB hnb HW6)
    have hs3 := HS3.out
    have e3 : ((W6.setCell ⟨w.heap.size, 0, none⟩ (.slice none 0 0)).setCell ⟨w.heap.size + 1, 0, none⟩ (.int .i64 80)).heap[w.heap.size + 1]? = some (.cells #[.int .i64 80] 28) := zck ((Below.heap_setCell W6 ⟨w.heap.size, 0, none⟩ (.slice none 0 0) (w.heap.size + 1) (by show w.heap.size + 1 ≠ w.heap.size; omega)).trans HZ6.out) 0 _
    have e2 : ((W6.setCell ⟨w.heap.size, 0, none⟩ (.slice none 0 0)).setCell ⟨w.heap.size + 1, 0, none⟩ (.int .i64 80)).heap[w.heap.size]? = some (.cells #[.slice none 0 0] 228) := (Below.heap_setCell _ ⟨w.heap.size + 1, 0, none⟩ (.int .i64 80) w.heap.size (by show w.heap.size ≠ w.heap.size + 1; omega)).trans (zck HN6.out 0 _)
    exact ⟨(HK6.out.trans (zkz (by show w.heap.size < W3.heap.size; omega))).trans (zkz (by show w.heap.size + 1 < W3.heap.size; omega)), rfl, by rw [HAC.out]; split <;> rfl, e2, e3, (HB6.out.setCell (Nat.le_refl _) _).setCell (by show w.heap.size ≤ w.heap.size + 1; omega) _⟩
  · obtain ⟨r1, rfl, hst1, hok1⟩ := hyes st1 rfl
    have HST1 := hid hst1
    have HOK1 := hid hok1
    clear hno hyes hst1 hok1
    by_cases h16 : x = 16
    · subst h16
      have hnb := heap_alloc_new W4 (stO zeroR)
      have HRR := hid (setRow_heap _ _ _ (stL r1).toArray _ _ hnb)
      have HOT : Hid (∀ k, k < W4.heap.size → ((W4.alloc (stO zeroR)).setRow W4.heap.size (stL r1).toArray).heap[k]? = W4.heap[k]?) := hid (fun k hk => (Go.setRow_other _ _ _ _ (by omega)).trans (by rw [heap_alloc_old W4 _ hk]))
      have HBB : Hid (Below W4.heap.size W4 ((W4.alloc (stO zeroR)).setRow W4.heap.size (stL r1).toArray)) := hid (below_setRow ((Below.refl _ W4).alloc (Nat.le_refl _) _) (Nat.le_refl _) _)
      have HS6 : Hid (((W4.alloc (stO zeroR)).setRow W4.heap.size (stL r1).toArray).heap.size = W4.heap.size + 1) := hid (by simp)
      obtain ⟨W6, hW6⟩ : ∃ W6, (W4.alloc (stO zeroR)).setRow W4.heap.size (stL r1).toArray = W6 := ⟨_, rfl⟩
      rw [hW6] at HRR HOT HBB HS6
      have HW6 := hid hW6
      have HN6 := hid ((HOT.out _ (by have := HL0.out; have := HW4.out; omega)).trans HN4.out)
      have HZ6 := hid ((HOT.out _ (by have := HL1.out; have := HW4.out; omega)).trans HZ4.out)
      have HNB := hid hnb
      clear hW6 hnb
      have c0 : W6.cell? ⟨w.heap.size, 0, none⟩ = some (.slice none 0 0) := by have h := HN6.out; unfold World.cell?; rw [h]; rfl
      have c1 : W6.cell? ⟨w.heap.size + 1, 0, none⟩ = some (.int .i64 0) := by have h := HZ6.out; unfold World.cell?; rw [h]; rfl
      have f0 := zcm HN6.out 0
      have f1 := zcm HZ6.out 0
      have HB6 : Hid (Below w.heap.size w W6) := hid ((HBW.out.trans (HB4.out.mono HBW.out.size)).trans (HBB.out.mono (by have := HL0.out; have := HW4.out; omega)))
      have HK6 : Hid (KeepsFrom W3.heap.size W W6) := hid ((zkx HB4.out).trans (zkx HBB.out))
      gi_wp2_with (have hnb := HNB.out; refine zkr rfl 266 _ _ rfl W4.heap.size (stL r1).toArray rfl rfl _ _ hnb zgw rfl (zgy _) ?_; change wpListIn _ _ _ _ _ _ _ ((W4.alloc (stO zeroR)).setRow W4.heap.size (stL r1).toArray); rw [HW6.out]; clear HNB hnb HW6)
      have hs3 := HS3.out
      have e3 : ((W6.setCell ⟨w.heap.size, 0, none⟩ (.slice none 0 0)).setCell ⟨w.heap.size + 1, 0, none⟩ (.int .i64 80)).heap[w.heap.size + 1]? = some (.cells #[.int .i64 80] 28) := zck ((Below.heap_setCell W6 ⟨w.heap.size, 0, none⟩ (.slice none 0 0) (w.heap.size + 1) (by show w.heap.size + 1 ≠ w.heap.size; omega)).trans HZ6.out) 0 _
      have e2 : ((W6.setCell ⟨w.heap.size, 0, none⟩ (.slice none 0 0)).setCell ⟨w.heap.size + 1, 0, none⟩ (.int .i64 80)).heap[w.heap.size]? = some (.cells #[.slice none 0 0] 228) := (Below.heap_setCell _ ⟨w.heap.size + 1, 0, none⟩ (.int .i64 80) w.heap.size (by show w.heap.size ≠ w.heap.size + 1; omega)).trans (zck HN6.out 0 _)
      exact ⟨(HK6.out.trans (zkz (by show w.heap.size < W3.heap.size; omega))).trans (zkz (by show w.heap.size + 1 < W3.heap.size; omega)), rfl, by rw [HAC.out]; rfl, e2, e3, (HB6.out.setCell (Nat.le_refl _) _).setCell (by show w.heap.size ≤ w.heap.size + 1; omega) _⟩
    · have hd16 : ((x : Int) == 16) = false := beq_eq_false_iff_ne.2 (by omega)
      have HAC2 : Hid (accR L (pre ++ [x]) = some ((M ++ [r1]).map StR.st)) := hid (by rw [HAC.out, if_neg h16, List.map_append, ← HST1.out]; rfl)
      clear h16
      have hnb := heap_alloc_new W4 (stO zeroR)
      have HRR := hid (setRow_heap _ _ _ (stL r1).toArray _ _ hnb)
      have HOT : Hid (∀ k, k < W4.heap.size → ((W4.alloc (stO zeroR)).setRow W4.heap.size (stL r1).toArray).heap[k]? = W4.heap[k]?) := hid (fun k hk => (Go.setRow_other _ _ _ _ (by omega)).trans (by rw [heap_alloc_old W4 _ hk]))
      have HBB : Hid (Below W4.heap.size W4 ((W4.alloc (stO zeroR)).setRow W4.heap.size (stL r1).toArray)) := hid (below_setRow ((Below.refl _ W4).alloc (Nat.le_refl _) _) (Nat.le_refl _) _)
      have HS6 : Hid (((W4.alloc (stO zeroR)).setRow W4.heap.size (stL r1).toArray).heap.size = W4.heap.size + 1) := hid (by simp)
      obtain ⟨W6, hW6⟩ : ∃ W6, (W4.alloc (stO zeroR)).setRow W4.heap.size (stL r1).toArray = W6 := ⟨_, rfl⟩
      rw [hW6] at HRR HOT HBB HS6
      have HW6 := hid hW6
      have HN6 := hid ((HOT.out _ (by have := HL0.out; have := HW4.out; omega)).trans HN4.out)
      have HZ6 := hid ((HOT.out _ (by have := HL1.out; have := HW4.out; omega)).trans HZ4.out)
      have HNB := hid hnb
      clear hW6 hnb
      have HQ16 : Hid (Boxed W6 (w.heap.size + 2) 228 v) := hid ((HOT.out _ (by have := HL2.out; have := HW4.out; omega)).trans HQ14.out)
      have HR6 := hid (HQ24.out.below HBB.out)
      have HM6 := hid (HQ34.out.gr HBB.out)
      have HO6 := hid (HOK1.out.gr HBB.out)
      have hrow6 := HR6.out
      unfold StRow at hrow6
      have hc6 := HQ16.out.cell
      have hrr := HRR.out
      have hml := HML.out
      have h36 : W3.heap.size ≤ W6.heap.size := by have := HS6.out; have := HW4.out; have := HWS.out; omega
      have HKW : Hid (KeepsFrom W3.heap.size W W6) := hid ((zkx HB4.out).trans (zkx HBB.out))
      have HBX : Hid (Bx (w.heap.size + 2) W3.heap.size W W6) := hid ((Bx.of_below (HB4.out.mono HWS.out)).trans (Bx.of_below (HBB.out.mono (by have := HWS.out; have := HW4.out; omega))))
      obtain ⟨va, cp, rfl⟩ := HR6.out.value
      gi_wp2_with (first
       | (have hnb := HNB.out; refine zkr rfl 266 _ _ rfl W4.heap.size (stL r1).toArray rfl rfl _ _ hnb zgw rfl (zgy _) ?_; change wpListIn _ _ _ _ _ _ _ ((W4.alloc (stO zeroR)).setRow W4.heap.size (stL r1).toArray); rw [HW6.out]; clear HNB hnb HW6)
       | (refine zkq rfl 266 _ rfl W4.heap.size rfl _ _ _ _ hrr Tryz.underlying266 rfl zgw ?_)
       | (gi_at_builtin; refine wpListIn_append_own _ rfl _ _ 228 rfl W3.heap.size 266 i0 _ 10 96 Tryz.underlying228 hi hz0 hz1 hz2 rfl (by decide) _ _ _ rfl (hrow6.alloc _) ⟨W6.heap.size, 0, none⟩ 1 1 (stL r1) rfl rfl ?c1 ?c2 ?c3 ?c4 ?c5 ?_))
      case c1 => exact zho W6 (stL r1) 266
      case c2 => exact zhq r1
      case c3 => unfold maxLen; omega
      case c4 => omega
      case c5 => simp; omega
      intro v' W7 hown7 hg7 _
      obtain ⟨g', cap', rfl⟩ := ownsRow_succ hown7
      obtain ⟨v', hv'⟩ : ∃ v', Value.slice (some ⟨g', 0, none⟩) (M.length + 1) cap' = v' := ⟨_, rfl⟩
      have HVE := hid hv'
      rw [hv'] at hown7
      clear hv'
      have hv7 : Boxed W7 (w.heap.size + 2) 228 _ := (HQ16.out.alloc _).kept hg7 (HQ16.out.not_row (by decide) hrow6)
      have hc7 := hv7.cell
      have hf7 := hv7.frozen
      have hnr := hv7.not_row (by decide) hown7
      have HV7 := hid hv7
      have HROW7 : Hid (StRow (W7.setCell ⟨w.heap.size + 2, 0, none⟩ v') W3.heap.size v' (M ++ [r1])) := hid (by
       unfold StRow
       rw [List.flatMap_append, List.length_append]
       have h := hown7.kept (grownBy_setCell' W7 (w.heap.size + 2) v') (.inr hnr.symm)
       simpa using h)
      have HOK7 : Hid (AllOk (W7.setCell ⟨w.heap.size + 2, 0, none⟩ v') (M ++ [r1])) := hid (fun z hz => by
       have key : ∀ z, StOk W6 z → StOk (W7.setCell ⟨w.heap.size + 2, 0, none⟩ v') z := fun z hz => (zhp (hz.gr ((Below.refl _ W6).alloc (Nat.le_refl _) _)) (hrow6.alloc _) (by decide) hg7).keep (zhi hv7 (by decide)) (fun j _ hj => Below.heap_setCell _ _ _ _ hj)
       rcases List.mem_append.1 hz with hz | hz
       · exact key z (HM6.out z hz)
       · rw [List.mem_singleton.1 hz]; exact key _ HO6.out)
      have HKP : Hid (KeepsFrom W3.heap.size W (W7.setCell ⟨w.heap.size + 2, 0, none⟩ v')) := hid (by
       refine ((HKW.out.trans ((KeepsOthers.alloc W6 _).from _)).trans ((KeepsOthers.of_grownBy hg7 fun j o ej hj => ?_).from _)).trans (zkz (by show w.heap.size + 2 < W3.heap.size; have := HS3.out; omega))
       rcases (hrow6.alloc _).2 with ⟨h0, _⟩ | ⟨g, cap, cur, h0, _, hgb, _⟩
       · rw [h0] at ej; simp [Value.ownBlock] at ej
       · rw [h0] at ej
         obtain rfl : g = j := by simpa [Value.ownBlock] using ej
         rw [hgb] at hj; cases hj; rfl)
      have HBX7 : Hid (Bx (w.heap.size + 2) W3.heap.size W (W7.setCell ⟨w.heap.size + 2, 0, none⟩ v')) := hid (by
       refine ((HBX.out.grown (World.grownBy_alloc W6 _ none) h36 (fun r e => by cases e)).grown hg7 (by simp; omega) (fun r e => .inr ?_)).grown (grownBy_setCell' W7 (w.heap.size + 2) v') (by have := hg7.size; simp at this; omega) (fun r e => .inl (by cases e; rfl))
       exact (World.ownsRow.lt hrow6 r e).1)
      clear hown7 hg7 hnr hrow6 hc6 hrr
      gi_wp2_with fail
      rw [HVE.out]
      exact ⟨HKP.out, HBX7.out, ⟨v', M ++ [r1], HV7.out.set v', HROW7.out, HOK7.out, HAC2.out, by rw [List.length_append, List.length_append, HQ5.out]; rfl⟩, HQ6.out.trans HBX7.out⟩
theorem pread_any (s : B) (w : World) (hv : Vw w) (hl : s.length ≤ 9223372036854775807) : Calls Tryz.prog 184 #[.string (str s)] w (ReadSE (readO s) w) := by
 unfold readO
 by_cases h : s.length ≤ 128
 · rw [if_pos h]; exact (callsIn_wide (n := 6)).1 (zlp s w hv h)
 · rw [if_neg h]; exact zlo s w hl (by omega)
end SpanC
open Go.RowKit
namespace SpanC
open VerM SpanM StrC TextR VerC
theorem zlq {L : List B} : ∀ (pre : List Nat) (a l : List St), pre.foldl (fun o k => if k = 16 then none else o.bind fun a => (altM (L.getD k [])).map fun t => a ++ [t]) (some a) = some l → l.length = a.length + pre.length
 | [], a, l, h => by cases h; rfl
 | k :: pre, a, l, h => by
   rw [List.foldl_cons] at h
   by_cases hk : k = 16
   · rw [if_pos hk, zlk] at h; cases h
   · rw [if_neg hk] at h
     cases ha : altM (L.getD k []) with
     | none => rw [ha] at h; simp only [Option.bind_some, Option.map_none] at h; rw [zlk] at h; cases h
     | some t =>
       rw [ha] at h
       simp only [Option.bind_some, Option.map_some] at h
       have := zlq pre _ l h
       rw [this, List.length_append, List.length_cons]
       simp; omega
theorem zlr {L : List B} (pre : List Nat) {l : List St} (h : accR L pre = some l) : l.length = pre.length := by
 have := zlq pre [] l h
 simpa using this
theorem zls {s : B} {l : List St} (h : readO s = some l) : l.length ≤ 129 := by
 unfold readO at h
 split at h
 · rename_i hs
   have h1 := zlr _ h
   rw [List.length_range] at h1
   have := zkg (d := orB) (by decide) s
   omega
 · cases h
theorem put_len (A : List St) (s : St) : (SpanM.put A s).length ≤ A.length + 1 := by
 unfold SpanM.put
 split
 · simp
 · split
   · simp
   · split
     · simp only [List.length_append, List.length_dropLast, List.length_cons, List.length_nil]; omega
     · omega
theorem zlt : ∀ (D A : List St), (D.foldl SpanM.put A).length ≤ A.length + D.length
 | [], A => by simp
 | d :: D, A => by
   have h1 := zlt D (SpanM.put A d)
   have h2 := put_len A d
   rw [List.foldl_cons, List.length_cons]
   omega
theorem zlu (l : List St) : (formM l).length ≤ l.length := by
 have h := zlt (sorted l) []
 have h2 : (sorted l).length ≤ l.length := by
  unfold sorted
  rw [List.length_mergeSort]
  exact List.length_filter_le _ _
 unfold formM
 simp at h
 omega
def formO (s : B) : Option B := (readO s).bind fun l => zjr (formM l)
set_option maxRecDepth 100000 in
theorem zlv (s : B) (w : World) (hv : Vw w) (hl : s.length ≤ 9223372036854775807) : Calls Tryz.prog 152 #[.string (str s)] w fun e w' => e = outO (formO s) ∧ Below w.heap.size w w' := by
 have HR := hid (pread_any s w hv hl)
 have HF : Hid (formO s = (readO s).bind fun l => zjr (formM l)) := hid rfl
 have HV := hid hv
 have HLN : Hid (∀ l, readO s = some l → l.length ≤ 129) := hid fun l h => zls h
 generalize formO s = fo at *
 generalize readO s = o at *
 generalize str s = t at *
 clear hv hl
 cases o with
 | none =>
   go_enter Tryz.func152, Tryz.ntmps152
   go_wp2_with (go_at_call 184; refine HR.out.mono ?_; rintro e w1 ⟨hb, h0, -⟩; obtain rfl := h0 rfl; have HB := hid hb; clear h0 hb)
   go_ret2
   rw [HF.out]
   exact ⟨rfl, HB.out⟩
 | some l =>
   go_enter Tryz.func152, Tryz.ntmps152
   go_wp2_with (go_at_call 184; refine HR.out.mono ?_; rintro e w1 ⟨hb, -, h1⟩; obtain ⟨u, R, rfl, hr, hok, hm⟩ := h1 l rfl; have HB := hid hb; have HFI := hid (zjx u R w1 (HV.out.gr hb) (zig hr (Nat.zero_le _)) hok (by have h := congrArg List.length hm; rw [List.length_map] at h; have h2 := zlu l; have h3 := HLN.out l rfl; omega)); have HM := hid hm; clear h1 hb hr hok hm; refine Hid.out ?_)
   refine hid ?_
   rw [HM.out] at HFI
   have HF2 : Hid (fo = zjr (formM l)) := hid HF.out
   clear HF
   generalize zjr (formM l) = wo at *
   rcases wo with _ | t2
   · go_wp2_with (go_at_call 185; refine HFI.out.mono ?_; rintro e w6 ⟨rfl, hb6⟩; unfold outO; have HB6 := hid (HB.out.trans (hb6.mono HB.out.size)); clear hb6)
     go_ret2
     rw [HF2.out]
     exact ⟨rfl, HB6.out⟩
   · go_wp2_with (go_at_call 185; refine HFI.out.mono ?_; rintro e w6 ⟨rfl, hb6⟩; unfold outO; have HB6 := hid (HB.out.trans (hb6.mono HB.out.size)); clear hb6)
     go_ret2
     rw [HF2.out]
     exact ⟨rfl, HB6.out⟩
set_option maxRecDepth 100000 in
theorem pIs_any (s : B) (w : World) (hv : Vw w) (hl : s.length ≤ 9223372036854775807) : Calls Tryz.prog 119 #[.string (str s)] w fun e w' => e = .returned (.bool (decide (formO s = some s))) ∧ Below w.heap.size w w' := by
 have HR := hid (zlv s w hv hl)
 have HF : Hid (∀ t, formO s = some t → ((str t).toList == (str s).toList) = decide (formO s = some s)) := hid (fun t h => by
  rw [h, ByteArray.toList_eq, ByteArray.toList_eq]
  by_cases e : t = s
  · subst e; simp
  · rw [decide_eq_false (fun h => e (Option.some.inj h)), beq_eq_false_iff_ne]
    intro h2
    exact e (by simpa [str] using h2))
 have HN : Hid (formO s = none → decide (formO s = some s) = false) := hid (fun h => by rw [h]; exact decide_eq_false (fun h => by cases h))
 generalize decide (formO s = some s) = d at *
 generalize formO s = fo at *
 generalize str s = t at *
 clear hv hl
 cases fo with
 | none =>
   have HD := hid (HN.out rfl)
   clear HN HF
   go_enter Tryz.func119, Tryz.ntmps119
   go_wp2_with (go_at_call 152; refine HR.out.mono ?_; rintro e w1 ⟨rfl, hb⟩; unfold outO; have HB := hid hb; clear hb)
   go_ret
   exact ⟨by rw [HD.out]; rfl, HB.out⟩
 | some u =>
   have hd := HF.out u rfl
   clear HN HF
   go_enter Tryz.func119, Tryz.ntmps119
   go_wp2_with (go_at_call 152; refine HR.out.mono ?_; rintro e w1 ⟨rfl, hb⟩; unfold outO; have HB := hid hb; clear hb)
   go_ret
   exact ⟨by first | rfl | rw [hd], HB.out⟩
end SpanC
open Go.RowKit Go.Shelf
namespace SpanC
open VerM SpanM StrC TextR VerC RoundR
attribute [local go_sem] Oper.semAt_some
def told (n m : Nat) : List Nat := ((List.range n).drop m).reverse
theorem zlw (R : List B) : R.reverse = (told R.length 0).map (fun k => R.getD k []) := by
 unfold told
 rw [List.drop_zero, List.map_reverse]
 congr 1
 apply List.ext_getElem
 · simp
 · intro k h1 h2
   simp [h1]
theorem find_none {R : List B} {p : B → Bool} (h1 : ∀ k ∈ told R.length 0, p (R.getD k []) = false) : R.reverse.find? p = none := by
 rw [zlw, List.find?_eq_none]
 intro x hx
 obtain ⟨k, hk, rfl⟩ := List.mem_map.1 hx
 rw [h1 k hk]; simp
end SpanC
end
end Go.Proofs.YtfbegbmjmhnplaaGreatDoor
