/-
  The document's own disk of layer 3: Rename, Names (wip/gen/diskcalls3.py writes this text).
-/
import Derived.Test.YtlnbjlidakdmlaaGreatDoorDiskRef6
import Derived.Test.YtlnbjlidakdmlaaGreatDoorTextRow
namespace Go.Proofs.YtlnbjlidakdmlaaGreatDoor
open Go.RowKit
namespace DiskC
open DiskM

def RenE (b : Nat) (v : Value) (cut : Int) (r : Nat × ByteArray × DS) (w : World) (e : Ending) (w' : World) : Prop :=
  e = .returned (.tuple #[.int .i64 r.1, .string r.2.1]) ∧ ∃ v', Laid w w' b v v' r.2.2.fs cut r.2.2.count r.2.2.dead
def NamesE (s : DS) (w : World) (e : Ending) (w' : World) : Prop := ∃ u, e = .returned u ∧ TextR.OwnT w' w.heap.size u (namesS s) ∧ Below w.heap.size w w'
set_option maxHeartbeats 4000000 in
theorem dnames_any (b : Nat) (v : Value) (cut : Int) (s : DS) (w : World) (h : IsD w b v cut s) (hl : s.fs.length ≤ 65536) :
    Calls Tryz.prog 31 #[.pointer (some ⟨b, 0, none⟩)] w (NamesE s w) := by
  obtain ⟨i0, hi, hz0, hz1, hz2⟩ := info_parts TextR.info_text
  have h1 := h.dead
  have h0 := h.files
  have hbw := h.lt
  have hlt := h.row.lt
  have hrow := row_val h.row
  clear h
  rcases hrow with ⟨rfl, hnil⟩ | ⟨g, cp, rfl, hg, hm, hc⟩
  · have e : namesS s = [] := by unfold namesS; rw [hnil]; split <;> rfl
    have HE := Lib.hid e; clear e hnil hlt hl
    go_enter Tryz.func31, Tryz.ntmps31
    go_wp2_with fail
    refine wp_loop_rounds 1 ?_; rw [rounds_succ]; go_wp2_with fail
    go_ret
    exact ⟨_, rfl, by rw [HE.out]; exact TextR.OwnT.nil _ _, Below.refl _ _⟩
  · have hgl := (hlt g rfl).2
    have HC := Lib.hid hc; clear hc hlt
    cases hd : s.dead with
    | true =>
      rw [hd] at h1
      have e : namesS s = [] := by unfold namesS; rw [if_pos hd]
      have HE := Lib.hid e; clear e hd
      by_cases hp : 0 < s.fs.length
      · have d1 : decide (0 < s.fs.length) = true := by simpa using hp
        have d2 : decide ((0 : Int) < (s.fs.length : Int)) = true := by simp; omega
        go_enter Tryz.func31, Tryz.ntmps31
        go_wp2_with fail
        refine wp_loop_rounds 1 ?_; rw [rounds_succ]; go_wp2_with fail
        go_ret
        exact ⟨_, rfl, by rw [HE.out]; exact TextR.OwnT.nil _ _, Below.refl _ _⟩
      · have hz : s.fs.length = 0 := by omega
        have d1 : decide (0 < s.fs.length) = false := by rw [hz]; rfl
        have d2 : decide ((0 : Int) < (s.fs.length : Int)) = false := by rw [hz]; rfl
        clear hz
        go_enter Tryz.func31, Tryz.ntmps31
        go_wp2_with fail
        refine wp_loop_rounds 1 ?_; rw [rounds_succ]; go_wp2_with fail
        go_ret
        exact ⟨_, rfl, by rw [HE.out]; exact TextR.OwnT.nil _ _, Below.refl _ _⟩
    | false =>
      rw [hd] at h1
      have e : namesS s = s.fs.map (·.1) := by unfold namesS; rw [if_neg (by rw [hd]; decide)]
      have HE := Lib.hid e; clear e hd
      unfold maxLen at hm
      go_enter Tryz.func31, Tryz.ntmps31
      go_wp2_with fail
      go_loopw [3, 4] (fun vl vi wr => ∃ (i : Nat) (L : List ByteArray), i ≤ s.fs.length ∧ vi = .int .i64 i ∧ Hid (L.length = i) ∧ Hid (L = (s.fs.take i).map (·.1)) ∧ Hid (TextR.OwnT wr w.heap.size vl L) ∧ Hid (Below w.heap.size w wr)) (fun _ vi _ => s.fs.length - (intOf vi).toNat)
      case atStart => exact ⟨0, [], Nat.zero_le _, rfl, Lib.hid rfl, Lib.hid rfl, Lib.hid (TextR.OwnT.nil _ _), Lib.hid (Below.refl _ _)⟩
      case round =>
        obtain ⟨i, L, hil, rfl, HLI, HL, HOT, HB⟩ := hrel
        rename World => wr
        have k0 : wr.cell? ⟨b, 0, none⟩ = some (.slice (some ⟨g, 0, none⟩) s.fs.length cp) := by rw [HB.out.cell hbw]; exact h0
        have k1 : wr.cell? ⟨b, 3, none⟩ = some (.bool false) := by rw [HB.out.cell hbw]; exact h1
        by_cases hlt : i < s.fs.length
        · have hdec : decide (i < s.fs.length) = true := by simpa using hlt
          have c1 : wr.cell? ⟨g, i * 2, none⟩ = some (.string s.fs[i].1) := by rw [HB.out.cell hgl]; exact (HC.out i hlt).1
          have hnx : L ++ [s.fs[i].1] = (s.fs.take (i + 1)).map (·.1) := by rw [HL.out, List.take_succ_eq_append_getElem hlt, List.map_append]; rfl
          have HNX := Lib.hid hnx
          clear hnx
          have hown := HOT.out
          unfold TextR.OwnT at hown
          rw [HLI.out] at hown
          generalize s.fs[i].1 = x at *
          go_wp2_with (at_builtin; refine wpList_append_own _ rfl _ _ 42 rfl w.heap.size 9 i0 (.string ⟨#[]⟩) 1 16 Tryz.underlying42 hi hz0 hz1 hz2 rfl (by decide) _ _ _ rfl (hown.alloc _) ⟨wr.heap.size, 0, none⟩ 1 1 [.string x] rfl rfl ?c1 ?c2 ?c3 ?c4 ?c5 ?_)
          case c1 => exact TextR.text_cell _ _ _
          case c2 => exact TextR.one_text _
          case c3 => unfold maxLen; omega
          case c4 => omega
          case c5 => have := HB.out.size; simp; omega
          intro v' w3 hown' hg3 _
          have hB3 : Below w.heap.size w w3 := (HB.out.alloc HB.out.size _).grown hg3 (by have := HB.out.size; simp; omega) (fun g hg => (hown.lt g hg).1)
          have HO3 := Lib.hid (TextR.snoc hown' HLI.out.symm)
          have H3 := Lib.hid hB3
          clear hown' hg3 hB3 hown
          go_wp2_with fail
          go_roundw
          case rel => exact ⟨i + 1, L ++ [x], by omega, by go_num, Lib.hid (by rw [List.length_append, HLI.out]; rfl), HNX, HO3, H3⟩
          case measure => simp [intOf]; omega
        · have hdec : decide (i < s.fs.length) = false := by simpa using hlt
          have hLL : L = s.fs.map (·.1) := by rw [HL.out, List.take_of_length_le (by omega)]
          have HLL := Lib.hid hLL
          clear hLL
          go_wp2_with fail
          go_ret
          exact ⟨_, rfl, by rw [HE.out, ← HLL.out]; exact HOT.out, HB.out⟩
end DiskC
end Go.Proofs.YtlnbjlidakdmlaaGreatDoor
