/-
  Versions as memory holds them: a slice of texts; worlds that grow; what is read of package-level variables.
-/
import Derived.Test.YtbjifikbfagdjaaGreatDoorVerRef
import Derived.Sort.Grow
import Derived.Laws.AppendOwn
import Derived.Maps.AppendAt
import Derived.LoopTactic
import Derived.BigQuiet
import Derived.Deep.QuietTactic
import Derived.Deep.CutBlock
import Derived.Handy
import Derived.Laws.Cover1
namespace Go.Proofs.YtbjifikbfagdjaaGreatDoor
open Go.RowKit
namespace VerC
open VerM StrC
set_option linter.unusedSimpArgs false

/-- nothing that was there has turned, no draw was taken back -/
structure Gr (w w' : World) : Prop where
  below : Below w.heap.size w w'
  drawn : w.drawn ≤ w'.drawn
theorem Gr.refl (w : World) : Gr w w := ⟨Below.refl _ _, Nat.le_refl _⟩
theorem Gr.trans {a b c : World} (h : Gr a b) (k : Gr b c) : Gr a c := ⟨chain (Nat.le_refl _) h.below k.below, Nat.le_trans h.drawn k.drawn⟩
theorem Gr.alloc {w w' : World} (h : Gr w w') (o : Obj) : Gr w (w'.alloc o) := ⟨h.below.alloc h.below.size o, h.drawn⟩
theorem Gr.drew {w w' : World} (h : Gr w w') : Gr w w'.drew := ⟨⟨h.below.os, h.below.tape, h.below.output, h.below.size, h.below.block⟩, Nat.le_trans h.drawn (Nat.le_succ _)⟩
theorem Gr.drewN {w w' : World} (h : Gr w w') (n : Nat) : Gr w (w'.drewN n) := ⟨⟨h.below.os, h.below.tape, h.below.output, h.below.size, h.below.block⟩, Nat.le_trans h.drawn (Nat.le_add_right _ _)⟩
theorem Gr.set {w w' : World} (h : Gr w w') (b j : Nat) (v : Value) (hb : w.heap.size ≤ b) : Gr w (w'.setCell ⟨b, j, none⟩ v) :=
  ⟨⟨h.below.os, h.below.tape, h.below.output, by simpa using h.below.size, fun k hk => by rw [Below.heap_setCell w' ⟨b, j, none⟩ v k (by show k ≠ b; omega)]; exact h.below.block k hk⟩, h.drawn⟩
theorem Gr.grow {w w' : World} (h : Gr w w') : ∃ n os, w' = Sort.grow (w.drewN n) os := by
  refine ⟨w'.drawn - w.drawn, w'.heap.extract w.heap.size w'.heap.size, ?_⟩
  have e : w'.heap = w.heap ++ w'.heap.extract w.heap.size w'.heap.size := by
    apply Array.ext_getElem?
    intro i
    by_cases hi : i < w.heap.size
    · rw [Array.getElem?_append_left hi]; exact h.below.block i hi
    · rw [Array.getElem?_append_right (by omega), Array.getElem?_extract]
      by_cases h2 : i < w'.heap.size
      · rw [if_pos (by omega)]; congr 1; omega
      · rw [if_neg (by omega)]; simp; omega
  have hd := h.drawn
  cases w' with
  | mk heap tape drawn os output =>
    cases w with
    | mk heap0 tape0 drawn0 os0 output0 =>
      have h1 := h.below.os
      have h2 := h.below.tape
      have h3 := h.below.output
      simp only at h1 h2 h3 e hd
      subst h1 h2 h3
      show _ = World.mk (heap0 ++ _) _ (drawn0 + _) _ _
      rw [← e, Nat.add_sub_cancel' hd]
      rfl
/-- a slice of texts -/
structure Txs (w : World) (a : Option Addr) (cap : Nat) (p : TL) : Prop where
  cap : p.length ≤ cap
  short : ∀ s ∈ p, s.length ≤ 9223372036854775807
  few : p.length ≤ 281474976710656
  cells : 0 < p.length → ∃ b o, a = some ⟨b, o, none⟩ ∧ ∀ i, i < p.length → w.cell? ⟨b, o + i, none⟩ = some (.string (str (p.getD i [])))
theorem Txs.gr {w w' : World} {a : Option Addr} {cap : Nat} {p : TL} (h : Txs w a cap p) (g : Below w.heap.size w w') : Txs w' a cap p := by
  refine ⟨h.cap, h.short, h.few, fun h0 => ?_⟩
  obtain ⟨b, o, e, hc⟩ := h.cells h0
  exact ⟨b, o, e, fun i hi => by rw [g.cell (World.block_lt_of_cell? _ _ (hc i hi))]; exact hc i hi⟩
theorem cell_on {w : World} {b o : Nat} {v : Value} (O : Obj) (h : w.cell? ⟨b, o, none⟩ = some v) : (w.alloc O).cell? ⟨b, o, none⟩ = some v := by
  rw [World.cell?_alloc_old _ _ _ (Nat.ne_of_lt (World.block_lt_of_cell? _ _ h))]; exact h
theorem cell_on2 {w : World} {b o : Nat} {v : Value} (O : Obj) (n : Nat) (h : w.cell? ⟨b, o, none⟩ = some v) : ((w.alloc O).drewN n).cell? ⟨b, o, none⟩ = some v := cell_on O h
theorem Txs.nil (w : World) (a : Option Addr) (cap : Nat) : Txs w a cap [] := ⟨Nat.zero_le _, fun s h => by simp at h, by simp, fun h => by simp at h⟩
theorem Txs.mem {w : World} {a : Option Addr} {cap : Nat} {p : TL} (h : Txs w a cap p) (i : Nat) (hi : i < p.length) : (p.getD i []).length ≤ 9223372036854775807 := by
  rw [List.getD_eq_getElem?_getD, List.getElem?_eq_getElem hi]; exact h.short _ (List.getElem_mem hi)
theorem tl_succ (p : B → Bool) (l : TL) (k : Nat) (h : k < l.length) : (l.take (k + 1)).all p = ((l.take k).all p && p (l.getD k [])) := by
  rw [List.take_add_one, List.all_append]; simp [h]
theorem tl_not (p : B → Bool) (l : TL) (k : Nat) (h : (l.take k).all p = false) : l.all p = false := by
  rw [← List.take_append_drop k l, List.all_append, h]; rfl
theorem may_not {v : Ver} (h : ¬ (v.a ≤ mx ∧ v.b ≤ mx ∧ v.c ≤ mx ∧ v.pre.length ≤ 8)) : may v = false := by
  unfold may
  have : (decide (v.a ≤ mx) && decide (v.b ≤ mx) && decide (v.c ≤ mx) && decide (v.pre.length ≤ 8)) = false := by
    rw [Bool.eq_false_iff]; intro e; simp only [Bool.and_eq_true, decide_eq_true_eq] at e; exact h ⟨e.1.1.1, e.1.1.2, e.1.2, e.2⟩
  rw [this]; rfl
theorem may_no {v : Ver} (h : v.pre.all ident = false) : may v = false := by unfold may; rw [h]; simp
theorem may_yes {v : Ver} (h1 : v.a ≤ mx) (h2 : v.b ≤ mx) (h3 : v.c ≤ mx) (h4 : v.pre.length ≤ 8) (h : v.pre.all ident = true) : may v = true := by
  unfold may; rw [h, decide_eq_true h1, decide_eq_true h2, decide_eq_true h3, decide_eq_true h4]; rfl
set_option maxHeartbeats 2000000 in
theorem rmay_any (v : Ver) (a : Option Addr) (cap : Nat) (w : World) (hT : Txs w a cap v.pre) :
    Calls Tryz.prog 147 #[.agg #[.int .u32 v.a, .int .u32 v.b, .int .u32 v.c, .slice a v.pre.length cap]] w fun e w' => e = .returned (.bool (may v)) ∧ Gr w w' := by
  obtain ⟨na, nb, nc, p⟩ := v
  dsimp only at hT ⊢
  have HN := Lib.hid (fun h => may_not (v := ⟨na, nb, nc, p⟩) h)
  dsimp only at HN
  by_cases h1 : na ≤ mx
  rotate_left
  · have H := Lib.hid (HN.out (fun e => h1 e.1))
    have d1 : decide (2147483647 < (na : Int)) = true := by unfold mx at h1; exact decide_eq_true (by omega)
    clear h1 HN hT
    go_enter Tryz.func147, Tryz.ntmps147
    go_wp2_with fail
    all_goals go_ret
    all_goals exact ⟨retB H.out.symm, (Gr.refl w).alloc _⟩
  have d1 : decide (2147483647 < (na : Int)) = false := by unfold mx at h1; exact decide_eq_false (by omega)
  by_cases h2 : nb ≤ mx
  rotate_left
  · have H := Lib.hid (HN.out (fun e => h2 e.2.1))
    have d2 : decide (2147483647 < (nb : Int)) = true := by unfold mx at h2; exact decide_eq_true (by omega)
    clear h1 h2 HN hT
    go_enter Tryz.func147, Tryz.ntmps147
    go_wp2_with fail
    all_goals go_ret
    all_goals exact ⟨retB H.out.symm, (Gr.refl w).alloc _⟩
  have d2 : decide (2147483647 < (nb : Int)) = false := by unfold mx at h2; exact decide_eq_false (by omega)
  by_cases h3 : nc ≤ mx
  rotate_left
  · have H := Lib.hid (HN.out (fun e => h3 e.2.2.1))
    have d3 : decide (2147483647 < (nc : Int)) = true := by unfold mx at h3; exact decide_eq_true (by omega)
    clear h1 h2 h3 HN hT
    go_enter Tryz.func147, Tryz.ntmps147
    go_wp2_with fail
    all_goals go_ret
    all_goals exact ⟨retB H.out.symm, (Gr.refl w).alloc _⟩
  have d3 : decide (2147483647 < (nc : Int)) = false := by unfold mx at h3; exact decide_eq_false (by omega)
  by_cases h4 : p.length ≤ 8
  rotate_left
  · have H := Lib.hid (HN.out (fun e => h4 e.2.2.2))
    have d4 : decide (8 < (p.length : Int)) = true := decide_eq_true (by omega)
    clear h1 h2 h3 h4 HN hT
    go_enter Tryz.func147, Tryz.ntmps147
    go_wp2_with fail
    all_goals go_ret
    all_goals exact ⟨retB H.out.symm, (Gr.refl w).alloc _⟩
  have d4 : decide (8 < (p.length : Int)) = false := decide_eq_false (by omega)
  have HY := Lib.hid (fun h => may_yes (v := ⟨na, nb, nc, p⟩) h1 h2 h3 h4 h)
  have HNO := Lib.hid (fun k h => may_no (v := ⟨na, nb, nc, p⟩) (tl_not ident p k h))
  dsimp only at HY HNO
  generalize may ⟨na, nb, nc, p⟩ = r at *
  have HS := Lib.hid (tl_succ ident p)
  have HE := Lib.hid (show (p.take p.length).all ident = p.all ident by rw [List.take_length])
  have HT := Lib.hid hT
  clear h1 h2 h3 HN hT
  go_enter Tryz.func147, Tryz.ntmps147
  go_wp2_with fail
  go_loop [3] (fun i => ∃ k : Nat, k ≤ p.length ∧ i = .int .i64 k ∧ (p.take k).all ident = true) (fun i => p.length - (intOf i).toNat)
  case atStart => exact ⟨0, Nat.zero_le _, rfl, rfl⟩
  case round =>
    obtain ⟨k, hk, rfl, ha⟩ := hrel
    have HQ := Lib.hid ha; clear ha
    by_cases hlt : k < p.length
    · have hdec : decide (k < p.length) = true := by simpa using hlt
      have hn := Lib.hid (HS.out k hlt)
      obtain ⟨b, o, rfl, hc⟩ := HT.out.cells (by omega)
      have hck := fun O => cell_on O (hc k hlt)
      have hsl := HT.out.mem k hlt
      clear hc
      generalize p.getD k [] = s at *
      have HI := Lib.hid (fun w => rident_any s w (by omega))
      generalize ident s = is at *
      go_wp2_with (go_at_call 177; refine (HI.out _).mono ?_; rintro e w' ⟨rfl, rfl⟩)
      · go_ret
        exact ⟨retB (HNO.out (k + 1) (by rw [hn.out, HQ.out]; rename_i h; simpa using h)).symm, (Gr.refl w).alloc _⟩
      · exact ⟨⟨k + 1, by omega, by go_num, by rw [hn.out, HQ.out]; rename_i h; simpa using h⟩, by simp [intOf]; omega⟩
    · have hdec : decide (k < p.length) = false := by simpa using hlt
      have H := Lib.hid (HY.out (by rw [← HE.out, show p.length = k from by omega, HQ.out]))
      go_wp2
      go_ret
      exact ⟨retB H.out.symm, (Gr.refl w).alloc _⟩
end VerC
end Go.Proofs.YtbjifikbfagdjaaGreatDoor
