/-
  Package disk's ready, of two names (wip/gen/ready2.py writes this text).
-/
import Derived.Test.YtpmbokklpidohaaGreatDoorDiskQ
import Derived.Deep.AppendLies
namespace Go.Proofs.YtpmbokklpidohaaGreatDoor
open Go.RowKit Go.Maps
namespace DiskP
open DiskM DiskC ErrC

def readyC2 (src dst : ByteArray) (dead : Bool) : Nat × ByteArray := if mayB src = false then (2, src) else if mayB dst = false then (2, dst) else if dead = true then (5, src) else (0, src)
theorem two_cells {w : World} {ao : Option Addr} {cap : Nat} {a b : ByteArray} (h : w.ownsRow 0 9 1 (.slice ao (1 + 1) cap) (1 + 1) ([.string a] ++ [.string b])) : ∃ g, ao = some ⟨g, 0, none⟩ ∧ w.cell? ⟨g, 0, none⟩ = some (.string a) ∧ w.cell? ⟨g, 1, none⟩ = some (.string b) := by
  obtain ⟨g, c, e, -, hlt⟩ := h.form (by omega)
  cases e
  have hc := World.ownsRow.cells h (g := g) rfl
  refine ⟨g, rfl, ?_, ?_⟩
  · have := hc 0 (.string a) rfl; rwa [plain_add] at this
  · have := hc 1 (.string b) rfl; rwa [plain_add] at this
theorem one_text (s : ByteArray) : ∀ u ∈ [Value.string s], u.oneCell' = true := TextR.one_text s
set_option maxRecDepth 100000 in
set_option maxHeartbeats 8000000 in
theorem ready2 (b m q : Nat) (dead : Bool) (src dst : ByteArray) (w : World) (h0 : w.cell? ⟨b, 0, none⟩ = some (.map (some m))) (h3 : w.cell? ⟨b, 3, none⟩ = some (.bool dead)) (hq : w.cell? ⟨q, 0, none⟩ = some (.string dst)) :
    Calls Tryz.prog 40 #[.pointer (some ⟨b, 0, none⟩), .string src, .slice (some ⟨q, 0, none⟩) 1 1] w (ErrE w (readyC2 src dst dead).1 (readyC2 src dst dead).2) := by
  have hlt : b < w.heap.size := World.block_lt_of_cell? _ _ h0
  have hlq : q < w.heap.size := World.block_lt_of_cell? _ _ hq
  obtain ⟨i0, hi, hz0, hz1, hz2⟩ := info_parts TextR.info_text
  have hmade : Hid ((w.alloc (.cells #[.string src] 9)).ownsRow 0 9 1 (.slice (some ⟨w.heap.size, 0, none⟩) 1 1) 1 [.string src]) := Lib.hid (one_row w src)
  have c3 : (w.alloc (.cells #[.string src] 9)).cell? ⟨b, 3, none⟩ = some (.bool dead) := (World.cell?_alloc_lt w _ ⟨b, 3, none⟩ hlt).trans h3
  have cq : (w.alloc (.cells #[.string src] 9)).cell? ⟨q, 0, none⟩ = some (.string dst) := (World.cell?_alloc_lt w _ ⟨q, 0, none⟩ hlq).trans hq
  have hsrc : Hid ((Value.slice (some ⟨q, 0, none⟩) 1 1 = .slice none 0 0 ∧ 1 = 0) ∨ ∃ ad c, Value.slice (some ⟨q, 0, none⟩) 1 1 = .slice (some ad) 1 c ∧ ∀ j u, [Value.string dst][j]? = some u → (w.alloc (.cells #[.string src] 9)).cell? (ad.add j) = some u) := by
    refine Lib.hid (Or.inr ⟨_, _, rfl, fun j u hu => ?_⟩)
    match j with
    | 0 => rw [plain_add]; rw [← hu]; exact cq
    | j + 1 => simp at hu
  have hone : Hid (∀ u ∈ [Value.string dst], u.oneCell' = true) := Lib.hid (one_text dst)
  have s3 : Hid (1 + 1 ≤ maxLen) := Lib.hid (by unfold maxLen; omega)
  have s4 : Hid ((1 + 1) * 16 ≤ 140737488355328) := Lib.hid (by omega)
  have hb1 : Below w.heap.size w (w.alloc (.cells #[.string src] 9)) := (Below.refl _ _).alloc (Nat.le_refl _) _
  have HB1 := Lib.hid hb1; clear hb1 cq hq h3
  have hsz1 : (w.alloc (.cells #[.string src] 9)).heap.size = w.heap.size + 1 := by simp
  have HS1 := Lib.hid hsz1; clear hsz1
  have C3 := Lib.hid c3; clear c3
  generalize hw1 : w.alloc (.cells #[.string src] 9) = w1 at *
  have hgen : ∀ (ao : Option Addr) (cap : Nat) (w2 : World), w2.ownsRow 0 9 1 (.slice ao (1 + 1) cap) (1 + 1) ([.string src] ++ [.string dst]) → w1.grownBy w2 (Value.slice (some ⟨w.heap.size, 0, none⟩) 1 1).ownBlock →
      ∃ g, ao = some ⟨g, 0, none⟩ ∧ w2.cell? ⟨g, 0, none⟩ = some (.string src) ∧ w2.cell? ⟨g, 1, none⟩ = some (.string dst) ∧ w2.cell? ⟨b, 3, none⟩ = some (.bool dead) ∧ Below w.heap.size w w2 := by
    intro ao cap w2 hown hgrow
    obtain ⟨g, e, k0, k1⟩ := two_cells hown
    refine ⟨g, e, k0, k1, ?_, ?_⟩
    · exact (World.cell?_of_block (a := ⟨b, 3, none⟩) (hgrow.block b (Nat.lt_of_lt_of_le hlt HB1.out.size) (by simp [Value.ownBlock]; omega))).trans C3.out
    · exact HB1.out.trans ⟨hgrow.os, hgrow.tape, hgrow.output, hgrow.size, fun k hk => hgrow.block k (by have := HB1.out.size; omega) (by simp [Value.ownBlock]; omega)⟩
  have HGEN := Lib.hid hgen; clear hgen
  have fin : ∀ (w2 : World) (c : Nat) (t : ByteArray), c ≠ 0 → Below w.heap.size w w2 → ErrE w c t (.returned (.iface 88 (.pointer (some ⟨w2.heap.size, 0, none⟩)))) (faultW c t w2) := fun w2 c t hc0 hb =>
    ⟨_, rfl, DErr.from (fault_derr c hc0 t w2) hb.size, hb.trans ((fault_below c t w2).mono hb.size)⟩
  have HFIN := Lib.hid fin; clear fin
  rcases may_cases src with ⟨hm_src, hs_src⟩ | ⟨hm_src, hs_src⟩ | ⟨hm_src, hs_src⟩
  · rw [show readyC2 src dst dead = (2, src) by simp [readyC2, hm_src]]
    clear hm_src
    have e_src := no_name hs_src
    clear hs_src
    go_enter Tryz.func40, Tryz.ntmps40
    go_wp2_with fail
    refine (there_any b m w h0).mono ?_
    rintro e w' ⟨rfl, rfl⟩
    go_wp2_with (at_builtin; refine wpList_append_row _ rfl (.tmp 15) (.tmp 16) 68 rfl 0 9 i0 (.string ⟨#[]⟩) 1 16 Tryz.underlying68 hi hz0 hz1 hz2 rfl (by decide) _ 1 [.string src] rfl hmade.out _ 1 [.string dst] rfl hsrc.out rfl hone.out s3.out s4.out (Nat.zero_le _) ?_; intro ao cap w2 hown hgrow; obtain ⟨g2, rfl, k0, k1, d3, hb2⟩ := HGEN.out ao cap w2 hown hgrow; have HB2 := Lib.hid hb2; clear hown hgrow hb2)
    refine wp_loop_rounds 1 ?_
    rw [rounds_succ]; go_wp2_with fail
    refine (fault_any 2 src _).mono ?_
    rintro e w' ⟨rfl, rfl⟩
    go_wp2_with fail
    go_ret
    exact HFIN.out _ 2 src (by decide) HB2.out
  · rw [show readyC2 src dst dead = (2, src) by simp [readyC2, hm_src]]
    clear hm_src
    have e_src := a_name hs_src.1
    have d_src : decide ((128 : Int) < (src.size : Int)) = true := by have := hs_src.2; simp; omega
    clear hs_src
    go_enter Tryz.func40, Tryz.ntmps40
    go_wp2_with fail
    refine (there_any b m w h0).mono ?_
    rintro e w' ⟨rfl, rfl⟩
    go_wp2_with (at_builtin; refine wpList_append_row _ rfl (.tmp 15) (.tmp 16) 68 rfl 0 9 i0 (.string ⟨#[]⟩) 1 16 Tryz.underlying68 hi hz0 hz1 hz2 rfl (by decide) _ 1 [.string src] rfl hmade.out _ 1 [.string dst] rfl hsrc.out rfl hone.out s3.out s4.out (Nat.zero_le _) ?_; intro ao cap w2 hown hgrow; obtain ⟨g2, rfl, k0, k1, d3, hb2⟩ := HGEN.out ao cap w2 hown hgrow; have HB2 := Lib.hid hb2; clear hown hgrow hb2)
    refine wp_loop_rounds 1 ?_
    rw [rounds_succ]; go_wp2_with fail
    refine (fault_any 2 src _).mono ?_
    rintro e w' ⟨rfl, rfl⟩
    go_wp2_with fail
    go_ret
    exact HFIN.out _ 2 src (by decide) HB2.out
  rcases may_cases dst with ⟨hm_dst, hs_dst⟩ | ⟨hm_dst, hs_dst⟩ | ⟨hm_dst, hs_dst⟩
  · rw [show readyC2 src dst dead = (2, dst) by simp [readyC2, hm_src, hm_dst]]
    clear hm_src hm_dst
    have e_src := a_name hs_src.1
    have d_src : decide ((128 : Int) < (src.size : Int)) = false := by have := hs_src.2; simp; omega
    clear hs_src
    have e_dst := no_name hs_dst
    clear hs_dst
    go_enter Tryz.func40, Tryz.ntmps40
    go_wp2_with fail
    refine (there_any b m w h0).mono ?_
    rintro e w' ⟨rfl, rfl⟩
    go_wp2_with (at_builtin; refine wpList_append_row _ rfl (.tmp 15) (.tmp 16) 68 rfl 0 9 i0 (.string ⟨#[]⟩) 1 16 Tryz.underlying68 hi hz0 hz1 hz2 rfl (by decide) _ 1 [.string src] rfl hmade.out _ 1 [.string dst] rfl hsrc.out rfl hone.out s3.out s4.out (Nat.zero_le _) ?_; intro ao cap w2 hown hgrow; obtain ⟨g2, rfl, k0, k1, d3, hb2⟩ := HGEN.out ao cap w2 hown hgrow; have HB2 := Lib.hid hb2; clear hown hgrow hb2)
    refine wp_loop_rounds 2 ?_
    rw [rounds_succ]; go_wp2_with fail
    rw [rounds_succ]; go_wp2_with fail
    refine (fault_any 2 dst _).mono ?_
    rintro e w' ⟨rfl, rfl⟩
    go_wp2_with fail
    go_ret
    exact HFIN.out _ 2 dst (by decide) HB2.out
  · rw [show readyC2 src dst dead = (2, dst) by simp [readyC2, hm_src, hm_dst]]
    clear hm_src hm_dst
    have e_src := a_name hs_src.1
    have d_src : decide ((128 : Int) < (src.size : Int)) = false := by have := hs_src.2; simp; omega
    clear hs_src
    have e_dst := a_name hs_dst.1
    have d_dst : decide ((128 : Int) < (dst.size : Int)) = true := by have := hs_dst.2; simp; omega
    clear hs_dst
    go_enter Tryz.func40, Tryz.ntmps40
    go_wp2_with fail
    refine (there_any b m w h0).mono ?_
    rintro e w' ⟨rfl, rfl⟩
    go_wp2_with (at_builtin; refine wpList_append_row _ rfl (.tmp 15) (.tmp 16) 68 rfl 0 9 i0 (.string ⟨#[]⟩) 1 16 Tryz.underlying68 hi hz0 hz1 hz2 rfl (by decide) _ 1 [.string src] rfl hmade.out _ 1 [.string dst] rfl hsrc.out rfl hone.out s3.out s4.out (Nat.zero_le _) ?_; intro ao cap w2 hown hgrow; obtain ⟨g2, rfl, k0, k1, d3, hb2⟩ := HGEN.out ao cap w2 hown hgrow; have HB2 := Lib.hid hb2; clear hown hgrow hb2)
    refine wp_loop_rounds 2 ?_
    rw [rounds_succ]; go_wp2_with fail
    rw [rounds_succ]; go_wp2_with fail
    refine (fault_any 2 dst _).mono ?_
    rintro e w' ⟨rfl, rfl⟩
    go_wp2_with fail
    go_ret
    exact HFIN.out _ 2 dst (by decide) HB2.out
  cases dead
  · rw [show readyC2 src dst false = (0, src) by simp [readyC2, hm_src, hm_dst]]
    clear hm_src hm_dst
    have e_src := a_name hs_src.1
    have d_src : decide ((128 : Int) < (src.size : Int)) = false := by have := hs_src.2; simp; omega
    clear hs_src
    have e_dst := a_name hs_dst.1
    have d_dst : decide ((128 : Int) < (dst.size : Int)) = false := by have := hs_dst.2; simp; omega
    clear hs_dst
    go_enter Tryz.func40, Tryz.ntmps40
    go_wp2_with fail
    refine (there_any b m w h0).mono ?_
    rintro e w' ⟨rfl, rfl⟩
    go_wp2_with (at_builtin; refine wpList_append_row _ rfl (.tmp 15) (.tmp 16) 68 rfl 0 9 i0 (.string ⟨#[]⟩) 1 16 Tryz.underlying68 hi hz0 hz1 hz2 rfl (by decide) _ 1 [.string src] rfl hmade.out _ 1 [.string dst] rfl hsrc.out rfl hone.out s3.out s4.out (Nat.zero_le _) ?_; intro ao cap w2 hown hgrow; obtain ⟨g2, rfl, k0, k1, d3, hb2⟩ := HGEN.out ao cap w2 hown hgrow; have HB2 := Lib.hid hb2; clear hown hgrow hb2)
    refine wp_loop_rounds 3 ?_
    rw [rounds_succ]; go_wp2_with fail
    rw [rounds_succ]; go_wp2_with fail
    rw [rounds_succ]; go_wp2_with fail
    go_ret
    exact ⟨_, rfl, Or.inl ⟨rfl, rfl⟩, HB2.out⟩
  · rw [show readyC2 src dst true = (5, src) by simp [readyC2, hm_src, hm_dst]]
    clear hm_src hm_dst
    have e_src := a_name hs_src.1
    have d_src : decide ((128 : Int) < (src.size : Int)) = false := by have := hs_src.2; simp; omega
    clear hs_src
    have e_dst := a_name hs_dst.1
    have d_dst : decide ((128 : Int) < (dst.size : Int)) = false := by have := hs_dst.2; simp; omega
    clear hs_dst
    go_enter Tryz.func40, Tryz.ntmps40
    go_wp2_with fail
    refine (there_any b m w h0).mono ?_
    rintro e w' ⟨rfl, rfl⟩
    go_wp2_with (at_builtin; refine wpList_append_row _ rfl (.tmp 15) (.tmp 16) 68 rfl 0 9 i0 (.string ⟨#[]⟩) 1 16 Tryz.underlying68 hi hz0 hz1 hz2 rfl (by decide) _ 1 [.string src] rfl hmade.out _ 1 [.string dst] rfl hsrc.out rfl hone.out s3.out s4.out (Nat.zero_le _) ?_; intro ao cap w2 hown hgrow; obtain ⟨g2, rfl, k0, k1, d3, hb2⟩ := HGEN.out ao cap w2 hown hgrow; have HB2 := Lib.hid hb2; clear hown hgrow hb2)
    refine wp_loop_rounds 3 ?_
    rw [rounds_succ]; go_wp2_with fail
    rw [rounds_succ]; go_wp2_with fail
    rw [rounds_succ]; go_wp2_with fail
    refine (fault_any 5 src _).mono ?_
    rintro e w' ⟨rfl, rfl⟩
    go_wp2_with fail
    go_ret
    exact HFIN.out _ 5 src (by decide) HB2.out
end DiskP
end Go.Proofs.YtpmbokklpidohaaGreatDoor
