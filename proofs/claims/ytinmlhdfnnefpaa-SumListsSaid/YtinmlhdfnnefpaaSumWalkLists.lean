/-
  The statement of many texts, walked: the copy of the list, the loop that holds both against each other, the two sums.
-/
import Derived.Test.YtinmlhdfnnefpaaSumAll
import Derived.Test.YtinmlhdfnnefpaaSumAlive
import Derived.BigQuiet
import Derived.Laws.AppendOwnNone
import Derived.WalkSmall
namespace Go.Proofs.Ytinmlhdfnnefpaa
open Go.RowKit
namespace SumC
open SumM

theorem info_string : (Try.prog.info? 9).map (fun i => (i.zero, i.size, i.bytes)) = some (some (.string ⟨#[]⟩), 1, 16) := by kernel_rfl

set_option maxHeartbeats 400000 in
theorem lists_none (w : World) :
    Calls Try.prog 4 #[.slice none 0 0] w fun e w' => e = .returned (.bool true) ∧ Below w.heap.size w w' := by
  obtain ⟨i0, hi, hz0, hz1, hz2⟩ := info_parts info_string
  go_enter Try.func4, Try.ntmps4
  go_wp2_with (at_builtin; refine wpList_append_own_none rfl _ _ 27 rfl w.heap.size 9 i0 1 Try.underlying27 hi _ _ _ rfl (World.ownsRow_nil _ _ _ _) rfl ?_)
  refine (all_none _ _ _).mono ?_
  rintro e w' ⟨rfl, rfl⟩
  go_wp2_with fail
  refine wp_loop_rounds 1 ?_; rw [rounds_succ]; go_wp2_with fail
  refine (rall_none _ _ _).mono ?_
  rintro e w' ⟨rfl, rfl⟩
  go_wp2_with fail
  refine (alive_any _).mono ?_
  rintro e w' ⟨rfl, hb⟩
  go_wp2_with fail
  go_ret
  exact ⟨rfl, hb⟩

theorem texts_cells (w : World) (b o len : Nat) (zs : List ByteArray) (hl : len ≤ zs.length) (hc : ∀ i, i < len → w.cell? ⟨b, o + i, none⟩ = some (.string (zs.getD i ByteArray.empty))) :
    ∀ j u, ((zs.take len).map Value.string)[j]? = some u → w.cell? ((⟨b, o, none⟩ : Addr).add j) = some u := by
  intro j u hu
  have hj : j < len := by
    have := (List.getElem?_eq_some_iff.1 hu).1
    simp at this; omega
  rw [Go.WideShapes.add_plain, hc j hj, ← hu]
  simp [List.getElem?_take_of_lt hj, show j < zs.length from by omega]

theorem own_open {w : World} {B len : Nat} {zs : List ByteArray} {v : Value} (hpos : 0 < len) (hl : len ≤ zs.length) (h : w.ownsRow B 9 1 v len (List.take len (List.map Value.string zs))) :
    ∃ g cp, v = .slice (some ⟨g, 0, none⟩) len cp ∧ B ≤ g ∧ len ≤ cp ∧ ∀ i, i < len → w.cell? ⟨g, 0 + i, none⟩ = some (.string (zs.getD i ByteArray.empty)) := by
  have hcs : ∀ g, v.ownBlock = some g → _ := fun g hg => h.cells hg
  obtain ⟨_, ⟨rfl, h0⟩ | ⟨g, cp, cur, rfl, hg0, hblk, hle, hcm, hsz, htk⟩⟩ := h
  · omega
  · refine ⟨g, cp, rfl, hg0, hle, fun i hi => ?_⟩
    rw [← Go.WideShapes.add_plain]
    exact hcs g rfl i _ (by simp [List.getElem?_take_of_lt hi, show i < zs.length from by omega])

set_option maxHeartbeats 400000 in
theorem lists_some (b o len cap : Nat) (zs : List ByteArray) (w : World) (hpos : 0 < len) (hl : len ≤ zs.length) (hb : b < w.heap.size) (hr : len * 16 ≤ 140737488351232)
    (hc : ∀ i, i < len → w.cell? ⟨b, o + i, none⟩ = some (.string (zs.getD i ByteArray.empty))) (hs : ∀ i, i < len → (zs.getD i ByteArray.empty).size ≤ maxLen) :
    Calls Try.prog 4 #[.slice (some ⟨b, o, none⟩) len cap] w fun e w' => e = .returned (.bool true) ∧ Below w.heap.size w w' := by
  obtain ⟨i0, hi, hz0, hz1, hz2⟩ := info_parts info_string
  have HC := Lib.hid hc
  have HS := Lib.hid hs
  clear hs hc
  go_enter Try.func4, Try.ntmps4
  go_wp2_with (at_builtin; refine wpList_append_own _ rfl _ _ 27 rfl w.heap.size 9 i0 (.string ⟨#[]⟩) 1 16 Try.underlying27 hi hz0 hz1 hz2 rfl (by decide) _ _ _ rfl (World.ownsRow_nil _ _ _ _) ⟨b, o, none⟩ len cap ((zs.take len).map Value.string) rfl ?c1 ?c2 ?c3 ?c4 ?c5 ?c6 ?_)
  case c1 => simp; omega
  case c2 => exact texts_cells w b o len zs hl HC.out
  case c3 => intro u hu; rw [List.mem_map] at hu; obtain ⟨s, _, rfl⟩ := hu; rfl
  case c4 => unfold maxLen; omega
  case c5 => omega
  case c6 => exact Nat.le_refl _
  intro v' w1 hown hg _
  obtain ⟨g, cp, rfl, hg0, hle, hk⟩ := own_open hpos hl hown
  have hB : Below w.heap.size w w1 := (Below.refl _ _).grown hg (Nat.le_refl _) (fun k hk => by cases hk)
  have HK := Lib.hid hk
  have HB := Lib.hid hB
  clear hg hB hk hown
  go_wp2_with fail
  refine (all_some g 0 len cp zs _ hl (by unfold maxLen; omega) HK.out HS.out).mono ?_
  rintro e w' ⟨rfl, rfl⟩
  go_wp2_with fail
  go_loopw [5] (fun i wr => ∃ k n : Nat, k ≤ len ∧ i = .int .i64 k ∧ wr = w1.drewN n) (fun i _ => len - (intOf i).toNat)
  case atStart => exact ⟨0, 0, Nat.zero_le _, rfl, rfl⟩
  case round =>
    obtain ⟨k, n, hk, rfl, rfl⟩ := hrel
    by_cases hlt : k < len
    · have hdec : decide (k < len) = true := by simpa using hlt
      have hcb : w1.cell? ⟨b, o + k, none⟩ = some (.string (zs.getD k ByteArray.empty)) := by rw [HB.out.cell (by exact hb)]; exact HC.out k hlt
      have hcg : w1.cell? ⟨g, k, none⟩ = some (.string (zs.getD k ByteArray.empty)) := by have := HK.out k hlt; rwa [Nat.zero_add] at this
      generalize zs.getD k ByteArray.empty = s at *
      go_wp2
      go_quiet (fail)
      go_wp2
      go_roundw
      case rel => exact ⟨k + 1, _, by omega, by go_num, rfl⟩
      case measure => simp [intOf]; omega
    · have hdec : decide (k < len) = false := by simpa using hlt
      have hcb : ∀ i, i < len → (w1.drewN n).cell? ⟨b, o + i, none⟩ = some (.string (zs.getD i ByteArray.empty)) := fun i hi => by
        have e : (w1.drewN n).cell? ⟨b, o + i, none⟩ = w1.cell? ⟨b, o + i, none⟩ := by simp
        rw [e, HB.out.cell (by exact hb)]; exact HC.out i hi
      have HCB := Lib.hid hcb
      clear hcb
      go_wp2_with fail
      refine (rall_some b o len cap zs _ hl (by unfold maxLen; omega) HCB.out HS.out).mono ?_
      rintro e w' ⟨rfl, rfl⟩
      go_wp2_with fail
      refine (alive_any _).mono ?_
      rintro e w3 ⟨rfl, hb3⟩
      go_wp2_with fail
      go_ret
      exact ⟨rfl, (below_drewN HB.out n).trans (hb3.mono (below_drewN HB.out n).size)⟩

set_option maxHeartbeats 400000 in
theorem lists_empty (x : Addr) (cap : Nat) (w : World) :
    Calls Try.prog 4 #[.slice (some x) 0 cap] w fun e w' => e = .returned (.bool true) ∧ Below w.heap.size w w' := by
  obtain ⟨i0, hi, hz0, hz1, hz2⟩ := info_parts info_string
  go_enter Try.func4, Try.ntmps4
  go_wp2_with (at_builtin; refine wpList_append_own _ rfl _ _ 27 rfl w.heap.size 9 i0 (.string ⟨#[]⟩) 1 16 Try.underlying27 hi hz0 hz1 hz2 rfl (by decide) _ _ _ rfl (World.ownsRow_nil _ _ _ _) x 0 cap [] rfl rfl ?c2 ?c3 ?c4 ?c5 ?c6 ?_)
  case c2 => intro j u hu; simp at hu
  case c3 => intro u hu; cases hu
  case c4 => decide
  case c5 => decide
  case c6 => exact Nat.le_refl _
  intro v' w1 hown hg hnil
  obtain rfl : v' = .slice none 0 0 := by simpa using hnil
  have hB : Below w.heap.size w w1 := (Below.refl _ _).grown hg (Nat.le_refl _) (fun k hk => by cases hk)
  have HB := Lib.hid hB
  clear hg hB hown hnil
  go_wp2_with fail
  refine (all_none _ _ _).mono ?_
  rintro e w' ⟨rfl, rfl⟩
  go_wp2_with fail
  refine wp_loop_rounds 1 ?_; rw [rounds_succ]; go_wp2_with fail
  refine (rall_none _ _ _).mono ?_
  rintro e w' ⟨rfl, rfl⟩
  go_wp2_with fail
  refine (alive_any _).mono ?_
  rintro e w3 ⟨rfl, hb3⟩
  go_wp2_with fail
  go_ret
  exact ⟨rfl, HB.out.trans (hb3.mono HB.out.size)⟩

theorem block_lt {w : World} {b o : Nat} {v : Value} (h : w.cell? ⟨b, o, none⟩ = some v) : b < w.heap.size := by
  apply Classical.byContradiction
  intro hn
  have : w.heap[b]? = none := by simp; omega
  simp [World.cell?, this] at h
/-- a slice's texts at a plain address, where there is one at all -/
theorem texts_at {w : World} {a : Addr} {zs : List ByteArray} (h : ∀ i, i < zs.length → w.cell? (a.add i) = some (.string (zs.getD i ByteArray.empty))) (hp : 0 < zs.length) :
    ∃ b off, a = ⟨b, off, none⟩ ∧ b < w.heap.size ∧ ∀ j, j < zs.length → w.cell? ⟨b, off + j, none⟩ = some (.string (zs.getD j ByteArray.empty)) := by
  obtain ⟨b, off, spot⟩ := a
  have hspot : spot = none := by simpa [Addr.add] using World.cell?_spot (h 0 hp)
  subst hspot
  exact ⟨b, off, rfl, block_lt (by simpa [Addr.add] using h 0 hp), fun j hj => by rw [← Go.WideShapes.add_plain]; exact h j hj⟩
theorem text_le {zs : List ByteArray} (h : ∀ s ∈ zs, s.size ≤ maxLen) (i : Nat) (hi : i < zs.length) : (zs.getD i ByteArray.empty).size ≤ maxLen := by
  simpa [hi] using h zs[i] (List.getElem_mem hi)
end SumC
end Go.Proofs.Ytinmlhdfnnefpaa
