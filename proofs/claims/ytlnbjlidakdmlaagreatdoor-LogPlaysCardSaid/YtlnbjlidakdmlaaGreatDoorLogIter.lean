/-
  Package log's iterator over the payloads: walk, All, and its contract for a range over a function.
  Package log's From: the payloads from a place on, in a row of its own.
-/
import Derived.Test.YtlnbjlidakdmlaaGreatDoorLogP2
import Derived.RangeFuncNested
import Derived.RangeFuncBound
import Derived.RangeFuncCalls
import Derived.RangeFuncLeaves
import Derived.RangeFuncBox
import Derived.Shelf.Abstract
import Derived.Shelf.RegionOpen
import Derived.OwnWalkIn
import Derived.TacticsInMore
import Derived.LoopNIn
import Derived.LoopIn
import Derived.Maps.AppendAt
namespace Go.Proofs.YtlnbjlidakdmlaaGreatDoor
open Go.RowKit Go.Shelf
set_option linter.unusedVariables false
namespace LogP
open LogM FrameM FrameC TextR DiskM DiskC LogC ErrC
attribute [local go_sem] Oper.semAt_some

/-- the k-th of what is told from the place i on -/
def tellF (L : List (List UInt8)) (i : Nat) (k : Nat) : Nat × ByteArray := (i + k, str (L.getD (i + k) []))
def tell (L : List (List UInt8)) (i k : Nat) : List (Nat × ByteArray) := (List.range k).map (tellF L i)
theorem tell_succ (L : List (List UInt8)) (i k : Nat) : tell L i (k + 1) = tell L i k ++ [tellF L i k] := by simp [tell, List.range_succ]
theorem tell_length (L : List (List UInt8)) (i k : Nat) : (tell L i k).length = k := by simp [tell]
def encW (x : Nat × ByteArray) : Array Value := #[.int .i64 (x.1 : Int), .string x.2]
/-- the function value that walk hands back -/
def walkF (bl bi : Nat) : Value := .func (.func 101) #[] #[.pointer (some ⟨bl, 0, none⟩), .pointer (some ⟨bi, 0, none⟩)]
def walkW (q : Option Addr) (i : Int) (w : World) : World := (w.alloc (.cells #[.pointer q] 27)).alloc (.cells #[.int .i64 i] 3)
theorem walkW_facts (q : Option Addr) (i : Int) (w : World) : (walkW q i w).heap.size = w.heap.size + 2 ∧ (walkW q i w).cell? ⟨w.heap.size, 0, none⟩ = some (.pointer q) ∧ (walkW q i w).cell? ⟨w.heap.size + 1, 0, none⟩ = some (.int .i64 i) ∧ Below w.heap.size w (walkW q i w) := by
  unfold walkW
  refine ⟨by simp, ?_, ?_, ((Below.refl _ w).alloc (Nat.le_refl _) _).alloc (by simp) _⟩
  · rw [World.cell?_alloc_lt _ _ _ (by simp), World.cell?_alloc_at _ _ _ _ rfl]; rfl
  · rw [World.cell?_alloc_at _ _ _ _ (by simp)]; rfl
theorem walk_any (q : Option Addr) (i : Int) (w : World) :
    Calls Tryz.prog 83 #[.pointer q, .int .i64 i] w fun e w' => e = .returned (walkF w.heap.size (w.heap.size + 1)) ∧ w' = walkW q i w := by
  unfold walkF walkW
  go_enter Tryz.func83, Tryz.ntmps83
  go_wp2_with fail
  go_ret
  exact ⟨rfl, rfl⟩
theorem all_any (q : Option Addr) (w : World) :
    Calls Tryz.prog 58 #[.pointer q] w fun e w' => e = .returned (walkF w.heap.size (w.heap.size + 1)) ∧ w' = walkW q 0 w := by
  go_enter Tryz.func58, Tryz.ntmps58
  go_wp2_with fail
  refine (walk_any q 0 w).mono ?_
  rintro e w' ⟨rfl, rfl⟩
  go_wp2_with fail
  go_ret
  exact ⟨rfl, rfl⟩

set_option maxRecDepth 100000 in
set_option maxHeartbeats 4000000 in
theorem walk1_in (n : Nat) (hn : 3 ≤ n) (l bl bi n₀ p b : Nat) (i : Int) (i0 : Nat) (hi : max i 0 = (i0 : Int)) (hi1 : i0 ≤ 1099511627776) (a : Option Addr) (cp : Nat) (L : List (List UInt8)) (hL : L.length ≤ 1099511627776) (J Jx : List (Nat × ByteArray) → World → Prop)
    (hY : ∀ pre x W, J pre W → pre.length < L.length - i0 → YieldAt Fence.wide (n - 1) Tryz.prog l #[.int .i64 (x.1 : Int), .string x.2] W fun e W' =>
      (e = .returned (.bool true) ∧ J (pre ++ [x]) W' ∧ Below n₀ W W') ∨ (e = .returned (.bool false) ∧ Jx (pre ++ [x]) W'))
    (W : World) (hbl : W.cell? ⟨bl, 0, none⟩ = some (.pointer (some ⟨p, 0, none⟩))) (hbi : W.cell? ⟨bi, 0, none⟩ = some (.int .i64 i)) (hd : W.cell? ⟨p, 0, none⟩ = some (.pointer (some ⟨b, 0, none⟩))) (hp : W.cell? ⟨p, 1, none⟩ = some (.slice a L.length cp))
    (hrow : ∀ k (h : k < L.length), ∃ g, a = some ⟨g, 0, none⟩ ∧ g < n₀ ∧ W.cell? ⟨g, k, none⟩ = some (.string (str L[k]))) (h0 : J [] W) :
    CallsIn Fence.wide n Tryz.prog 101 #[.func (.yield l) #[] #[], .pointer (some ⟨bl, 0, none⟩), .pointer (some ⟨bi, 0, none⟩)] W fun e W' => (∃ v, e = .returned v) ∧
      ((∃ ys, ys = tell L i0 (L.length - i0) ∧ J ys W') ∨ (∃ pre, (∃ k, k ≤ L.length - i0 ∧ pre = tell L i0 k) ∧ Jx pre W')) := by
  have HROW := Lib.hid hrow
  clear hrow
  refine callsIn_of_wp Tryz.func101 rfl trivial ?_ rfl
  simp only [Tryz.ntmps101, List.size_toArray, List.length_cons, List.length_nil, Nat.reduceAdd, Nat.reduceSub, Array.replicate_succ, Array.replicate_zero, List.push_toArray, List.append_toArray, List.nil_append, List.cons_append]
  gi_wp2_with (refine ⟨trivial, fun h => Bool.noConfusion h, ?_⟩; gi_at_call 36; refine (callsIn_wide.2 (there_any p b _ hd)).mono ?_; rintro e w' ⟨rfl, rfl⟩)
  gi_loopw [5] (fun v5 wr => ∃ k m : Nat, Hid (m = i0 + k ∧ k ≤ L.length - i0) ∧ v5 = .int .i64 m ∧ J (tell L i0 k) wr ∧ Hid (Below n₀ W wr)) (fun v5 _ => L.length + 1 - (intOf v5).toNat)
  case atStart => exact ⟨0, i0, Lib.hid ⟨rfl, Nat.zero_le _⟩, rfl, h0, Lib.hid (Below.refl _ _)⟩
  case round =>
    obtain ⟨k, m, HM, rfl, hJs, HB⟩ := hrel
    rename World => wr
    by_cases hlt : m < L.length
    · have hk := HM.out
      obtain ⟨fn, tmps, assign, body, hy, hR⟩ := hY _ (tellF L i0 k) wr hJs (by rw [tell_length]; omega)
      obtain ⟨g, rfl, hg, hcl⟩ := HROW.out m hlt
      have hcx : wr.cell? ⟨g, m, none⟩ = some (.string (tellF L i0 k).2) := by
        rw [HB.out.cell hg, hcl]
        simp [tellF, List.getD, hlt, ← hk.1]
      have h1 : (tellF L i0 k).1 = m := hk.1.symm
      have HTS := Lib.hid (tell_succ L i0 k)
      rw [h1] at hy
      clear hcl h1 hk
      generalize (tellF L i0 k) = x at *
      obtain ⟨x1, x2⟩ := x
      dsimp only at *
      have hd1 : decide (m < L.length) = true := by simpa using hlt
      have hm2 : m ≤ 1099511627776 := by omega
      gi_wp2
      refine ⟨fun h => Bool.noConfusion h, hR.mono ?_⟩
      rintro e W3 (⟨rfl, hJ3, hk3⟩ | ⟨rfl, hJx3⟩)
      · gi_wp2
        go_roundw
        case rel => exact ⟨k + 1, m + 1, Lib.hid (by have := HM.out; omega), by go_num, by rw [HTS.out]; exact hJ3, Lib.hid (HB.out.trans hk3)⟩
        case measure => simp [intOf]; omega
      · gi_wp2
        refine bodyPost_ret (results_none rfl _ _ _) rfl ?_
        exact ⟨⟨_, rfl⟩, .inr ⟨_, ⟨k + 1, by have := HM.out; omega, HTS.out.symm⟩, hJx3⟩⟩
    · have hd1 : decide (m < L.length) = false := by simpa using hlt
      have HKK : Hid (k = L.length - i0) := Lib.hid (by have := HM.out; omega)
      gi_wp2
      go_end0
      exact ⟨⟨_, rfl⟩, .inl ⟨_, rfl, by rw [← HKK.out]; exact hJs⟩⟩

/-- where there is no log nothing comes -/
theorem walk1_nil_in (n : Nat) (hn : 3 ≤ n) (l bl bi : Nat) (J : List (Nat × ByteArray) → World → Prop) (W : World) (hbl : W.cell? ⟨bl, 0, none⟩ = some (.pointer none)) (h0 : J [] W) :
    CallsIn Fence.wide n Tryz.prog 101 #[.func (.yield l) #[] #[], .pointer (some ⟨bl, 0, none⟩), .pointer (some ⟨bi, 0, none⟩)] W fun e W' => (∃ v, e = .returned v) ∧ J [] W' := by
  refine callsIn_of_wp Tryz.func101 rfl trivial ?_ rfl
  simp only [Tryz.ntmps101, List.size_toArray, List.length_cons, List.length_nil, Nat.reduceAdd, Nat.reduceSub, Array.replicate_succ, Array.replicate_zero, List.push_toArray, List.append_toArray, List.nil_append, List.cons_append]
  gi_wp2_with (refine ⟨trivial, fun h => Bool.noConfusion h, ?_⟩; gi_at_call 36; refine (callsIn_wide.2 (there_nil _)).mono ?_; rintro e w' ⟨rfl, rfl⟩)
  refine bodyPost_ret (results_none rfl _ _ _) rfl ?_
  exact ⟨⟨_, rfl⟩, h0⟩
/-- the contract: of a log whose cells all lie below n₀ -/
theorem walk_stops (n : Nat) (hn : 3 ≤ n) (bl bi n₀ : Nat) (i : Int) (i0 : Nat) (hi : max i 0 = (i0 : Int)) (hi1 : i0 ≤ 1099511627776) {w0 : World} {B p nb b : Nat} {lv : Value} {L : List (List UInt8)} {br : Bool} (h : IsPL w0 B p nb b lv L br) (hL : L.length ≤ 1099511627776)
    (hn₀ : n₀ ≤ w0.heap.size) (hfoot : ∀ k, FootP p nb lv k → k < n₀) (hbl : w0.cell? ⟨bl, 0, none⟩ = some (.pointer (some ⟨p, 0, none⟩))) (hbi : w0.cell? ⟨bi, 0, none⟩ = some (.int .i64 i)) :
    SeqStopsK Fence.wide n Tryz.prog 101 #[.pointer (some ⟨bl, 0, none⟩), .pointer (some ⟨bi, 0, none⟩)] encW (Below n₀) (fun ys => ys = tell L i0 (L.length - i0)) (fun pre => ∃ k, k ≤ L.length - i0 ∧ pre = tell L i0 k) (L.length - i0) w0 := by
  intro l J Jx W hW hJ hJx hY h0
  have hW' := h.below hW
  obtain ⟨a, cp, rfl, hc⟩ := hW'.len
  have hrow := hW'.row
  obtain ⟨M, hM⟩ : ∃ M, M = L.map str := ⟨_, rfl⟩
  have hMl : M.length = L.length := by rw [hM, List.length_map]
  rw [← hM, ← hMl] at hrow
  exact walk1_in n hn l bl bi n₀ p b i i0 hi hi1 a cp L hL J Jx hY W (by rw [hW.cell (World.block_lt_of_cell? _ _ hbl)]; exact hbl) (by rw [hW.cell (World.block_lt_of_cell? _ _ hbi)]; exact hbi) hW'.disk hc
    (fun k hk => by
      obtain ⟨g, rfl, -, hg, hcl⟩ := own_cell hrow k (by omega)
      exact ⟨g, rfl, hfoot g (.inr (.inr rfl)), by rw [hcl]; simp [hM]⟩) h0
theorem walk_stops_nil (n : Nat) (hn : 3 ≤ n) (bl bi n₀ : Nat) {w0 : World} (hbl : w0.cell? ⟨bl, 0, none⟩ = some (.pointer none)) :
    SeqStopsK Fence.wide n Tryz.prog 101 #[.pointer (some ⟨bl, 0, none⟩), .pointer (some ⟨bi, 0, none⟩)] encW (Below n₀) (fun ys => ys = []) (fun _ => False) 0 w0 := by
  intro l J Jx W hW hJ hJx hY h0
  exact (walk1_nil_in n hn l bl bi J W (by rw [hW.cell (World.block_lt_of_cell? _ _ hbl)]; exact hbl) h0).mono fun e W' ⟨he, hj⟩ => ⟨he, .inl ⟨_, rfl, hj⟩⟩
end LogP
end Go.Proofs.YtlnbjlidakdmlaaGreatDoor
namespace Go.Proofs.YtlnbjlidakdmlaaGreatDoor
open Go.RowKit Go.Shelf
set_option linter.unusedVariables false
namespace LogP
open LogM FrameM FrameC TextR DiskM DiskC LogC ErrC
attribute [local go_sem] Oper.semAt_some

theorem tell_texts (L : List (List UInt8)) (i0 : Nat) : (tell L i0 (L.length - i0)).map (·.2) = (L.drop i0).map str := by
  apply List.ext_getElem
  · simp [tell]
  · intro k h1 h2
    simp [tell] at h1
    have : i0 + k < L.length := by omega
    simp [tell, tellF, List.getD, this]
def FromE (L : List (List UInt8)) (i0 : Nat) (w : World) (e : Ending) (w' : World) : Prop := ∃ v, e = .returned v ∧ OwnT w' w.heap.size v ((L.drop i0).map str) ∧ Below w.heap.size w w'
set_option maxRecDepth 100000 in
set_option maxHeartbeats 4000000 in
theorem from_in {w : World} {B p nb b : Nat} {lv : Value} {L : List (List UInt8)} {br : Bool} (i : Int) (i0 : Nat) (hi0 : max i 0 = (i0 : Int)) (hi1 : i0 ≤ 1099511627776) (h : IsPL w B p nb b lv L br) (hL : L.length ≤ 1099511627776) :
    CallsIn Fence.wide 6 Tryz.prog 60 #[.pointer (some ⟨p, 0, none⟩), .int .i64 i] w (FromE L i0 w) := by
  obtain ⟨ti, hi, hz0, hz1, hz2⟩ := info_parts info_text
  have H := Lib.hid h
  clear h
  unfold FromE
  refine callsIn_of_wp_marks Tryz.func60 rfl trivial ?_ rfl
  simp only [Tryz.ntmps60, List.size_toArray, List.length_cons, List.length_nil, Nat.reduceAdd, Nat.reduceSub, Array.replicate_succ, Array.replicate_zero, List.push_toArray, List.append_toArray, List.nil_append, List.cons_append]
  gi_wp2_with (refine ⟨trivial, ?_⟩; gi_at_call 83; refine (callsIn_wide.2 (walk_any _ _ _)).mono ?_; rintro e w' ⟨rfl, rfl⟩)
  have bO := Boxed.new w 42 (.slice none 0 0)
  obtain ⟨W1, hW1⟩ : ∃ W1, w.alloc (.cells #[.slice none 0 0] 42) = W1 := ⟨_, rfl⟩
  have hs1 : W1.heap.size = w.heap.size + 1 := by rw [← hW1]; simp
  have hB1 : Below w.heap.size w W1 := by rw [← hW1]; exact (Below.refl _ w).alloc (Nat.le_refl _) _
  rw [hW1] at bO ⊢
  obtain ⟨k0, k1, k2, k3⟩ := walkW_facts (some ⟨p, 0, none⟩) i W1
  have H2 := Lib.hid ((H.out.below hB1).below k3)
  have bO2 : Boxed (walkW (some ⟨p, 0, none⟩) i W1) w.heap.size 42 (.slice none 0 0) := (k3.block _ bO.lt).trans bO
  have hB2 : Below w.heap.size w (walkW (some ⟨p, 0, none⟩) i W1) := hB1.trans (k3.mono (by omega))
  obtain ⟨W2, hW2⟩ : ∃ W2, walkW (some ⟨p, 0, none⟩) i W1 = W2 := ⟨_, rfl⟩
  rw [hW2] at k0 k1 k2 H2 bO2 hB2 ⊢
  have hfoot : ∀ k, FootP p nb lv k → k < w.heap.size := fun k hk => (H.out.foot k hk).2
  rw [hs1] at k0 k1 k2
  clear k3 hW1 hW2 bO
  refine wpIn_rangeFunc_ownG rfl (by decide) (gf := 101) (lb := #[.pointer (some ⟨(w.heap.size + 1), 0, none⟩), .pointer (some ⟨(w.heap.size + 1) + 1, 0, none⟩)]) rfl trivial (enters_of Tryz.func101 (by kernel_rfl) rfl)
    (walk_stops 5 (by decide) (w.heap.size + 1) ((w.heap.size + 1) + 1) w.heap.size i i0 hi0 hi1 H2.out hL (by omega) hfoot k1 k2) belowK_t (belowK_b (by omega)) (Below.refl _ _) (fun _ => rfl)
    (fun (pre : List (Nat × ByteArray)) W => (∃ v, Boxed W w.heap.size 42 v ∧ W.ownsRow w.heap.size 9 1 v pre.length ((pre.map (·.2)).map Value.string) ∧ True) ∧ Below w.heap.size w W)
    (fun _ _ _ => False)
    (OwnFrom.and (Own.from (holdsRow_own w.heap.size w.heap.size 42 9 1 (fun (pre : List (Nat × ByteArray)) => pre.length) (fun pre => (pre.map (·.2)).map Value.string) (fun _ _ => True)) _) (ownFrom_below (Nat.le_refl _) (by omega)))
    (fun _ _ _ _ _ hs _ _ => hs)
    ⟨⟨_, bO2, World.ownsRow_nil _ _ _ _, trivial⟩, hB2⟩
    (fun (x : Nat × ByteArray) => { tmps := #[.pointer (some ⟨p, 0, none⟩), .int .i64 i, undef, undef, .slice none 0 0, .pointer (some ⟨w.heap.size, 0, none⟩), undef, .string x.2, .pointer (some ⟨p, 0, none⟩), .int .i64 i, walkF (w.heap.size + 1) ((w.heap.size + 1) + 1), .int .i64 (x.1 : Int), .string x.2, undef, undef, undef, undef, undef], defers := [] }) ?assign ?body ?done ?stop
  case assign =>
    intro l x W K hK
    dsimp only [encW]
    gi_wp2
    exact hK
  case body =>
    rintro l pre x W ⟨⟨v, hv, hrow, -⟩, hB⟩ hlt
    have hc := hv.cell
    gi_wp2_with (gi_at_builtin; refine wpListIn_append_own _ rfl _ _ 42 rfl w.heap.size 9 ti (.string ⟨#[]⟩) 1 16 Tryz.underlying42 hi hz0 hz1 hz2 rfl (by decide) _ _ _ rfl (hrow.alloc _) ⟨W.heap.size, 0, none⟩ 1 1 [.string x.2] rfl rfl (cell_one_new _ _ _) (by simp [Value.oneCell']) (by unfold maxLen; omega) (by omega) (by have := hB.size; simp; omega) ?_; intro v' w1 hown' hgrow _; obtain ⟨g', cap', rfl⟩ := ownsRow_succ hown'; obtain ⟨hv1, hv2, hr2, hk2, hb2⟩ := hv.appended (by decide) hrow hB.size (Nat.le_refl _) hown' hgrow; have hc1 := hv1.cell; have hf1 := hv1.frozen)
    exact ⟨hk2.from _, hb2, ⟨_, hv2, by simpa using hr2, trivial⟩, hB.trans hb2⟩
  case done =>
    rintro D ys W hD rfl ⟨⟨v, hv, hrow, -⟩, hB⟩ hK
    have hc := hv.cell
    gi_wp2
    refine ⟨by simp, .inl ⟨_, _, rfl, run_takeDeferred hK, ?_⟩⟩
    refine ⟨_, results_tmp rfl _ _ _, v, rfl, ?_, hB.trans (belowK_b (w := w) (Nat.le_refl _) W D _ _ (by omega) hK rfl rfl)⟩
    have := ownsRow_putObj hrow (.deferred none) hK rfl
    rw [tell_length, tell_texts] at this
    unfold OwnT
    rw [List.length_map, List.length_drop]
    exact this
  case stop =>
    rintro D c pre W _ _ h _
    exact h.elim
theorem from_any {w : World} {B p nb b : Nat} {lv : Value} {L : List (List UInt8)} {br : Bool} (i : Int) (i0 : Nat) (hi0 : max i 0 = (i0 : Int)) (hi1 : i0 ≤ 1099511627776) (h : IsPL w B p nb b lv L br) (hL : L.length ≤ 1099511627776) :
    Calls Tryz.prog 60 #[.pointer (some ⟨p, 0, none⟩), .int .i64 i] w (FromE L i0 w) := (callsIn_wide (n := 6)).1 (from_in i i0 hi0 hi1 h hL)
end LogP
end Go.Proofs.YtlnbjlidakdmlaaGreatDoor
