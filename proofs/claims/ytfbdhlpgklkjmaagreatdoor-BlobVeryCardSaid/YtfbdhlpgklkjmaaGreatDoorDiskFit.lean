/-
  The calls of the document's disk of layer 3 leave a disk of which no number is beyond its kind.
-/
import Derived.Test.YtfbdhlpgklkjmaaGreatDoorDiskSpec
namespace Go.Proofs.YtfbdhlpgklkjmaaGreatDoor
namespace DiskC
open DiskM

def Good (fs : FL) : Prop := fs.length ≤ 65536 ∧ ∀ f ∈ fs, f.2.size ≤ 16777216
theorem good_lay {name x : ByteArray} {fs : FL} (h : Good fs) (hr : room name fs ≤ 65536) (hx : x.size ≤ 16777216) : Good (layF name x fs) := by
  refine ⟨by rw [lay_len]; exact hr, fun f hf => ?_⟩
  unfold layF at hf
  split at hf
  · rcases List.mem_or_eq_of_mem_set hf with h1 | h1
    · exact h.2 f h1
    · rw [h1]; exact hx
  · rcases List.mem_append.1 hf with h1 | h1
    · exact h.2 f (List.mem_of_mem_take h1)
    · rcases List.mem_cons.1 h1 with h2 | h2
      · rw [h2]; exact hx
      · exact h.2 f (List.mem_of_mem_drop h2)
theorem good_take {name : ByteArray} {fs : FL} (h : Good fs) : Good (takeF name fs) := by
  refine ⟨Nat.le_trans (take_len name fs) h.1, fun f hf => ?_⟩
  unfold takeF at hf
  split at hf
  · exact h.2 f (List.mem_of_mem_eraseIdx hf)
  · exact h.2 f hf
theorem good_adds (cut : Int) (name : ByteArray) : ∀ (k : Nat) (x : ByteArray) (s : DS), Good s.fs → room name s.fs ≤ 65536 → (bytesF name s.fs).size + x.size ≤ 16777216 →
    Good (addsS cut name k x s).2.fs ∧ (addsS cut name k x s).2.count ≤ s.count + x.size + 1
  | 0, x, s, hg, hr, hz => ⟨hg, by show s.count ≤ _; omega⟩
  | k + 1, x, s, hg, hr, hz => by
    have hp : (bytesF name s.fs ++ x.extract 0 (min x.size 32)).size ≤ 16777216 := by rw [ByteArray.size_append, piece_size]; omega
    have hg1 := good_lay (name := name) hg hr hp
    by_cases hraw : rawB cut s.count s.dead = true
    · by_cases hx : x.size ≤ 32
      · rw [addsS_last hraw hx]; exact ⟨hg1, by show s.count + 1 ≤ _; omega⟩
      · rw [addsS_more hraw hx]
        have := good_adds cut name k (x.extract 32 x.size) ⟨layF name (bytesF name s.fs ++ x.extract 0 (min x.size 32)) s.fs, s.count + 1, s.dead⟩ hg1 (by show room name (layF _ _ _) ≤ _; rw [room_lay]; exact hr)
          (by show (bytesF name (layF _ _ _)).size + _ ≤ _; rw [(has_lay _ _ _).2, ByteArray.size_append, piece_size, rest_size]; omega)
        refine ⟨this.1, Nat.le_trans this.2 ?_⟩
        rw [rest_size]
        show s.count + 1 + (x.size - 32) + 1 ≤ _
        omega
    · rw [addsS_no (by simpa using hraw)]; exact ⟨hg, by show s.count ≤ _; omega⟩
theorem room_ok {name : ByteArray} {fs : FL} (h : Good fs) (hc : ¬ (hasF name fs = false ∧ 65536 ≤ fs.length)) : room name fs ≤ 65536 := by
  have := h.1
  unfold room
  split
  · omega
  · rename_i hh
    have : ¬ 65536 ≤ fs.length := fun h => hc ⟨by simpa using hh, h⟩
    omega
theorem good_bytes {fs : FL} (h : Good fs) (n : ByteArray) : (bytesF n fs).size ≤ 16777216 := Fit.bytes (s := ⟨fs, 0, false⟩) ⟨h.1, h.2, Nat.zero_le _⟩ n
theorem append_good {cut : Int} {name x : ByteArray} {s : DS} (h : Good s.fs) : Good (appendS cut name x s).2.fs ∧ (appendS cut name x s).2.count ≤ s.count + x.size + 1 := by
  unfold appendS
  repeat' split
  all_goals first
    | exact ⟨h, by show s.count ≤ _; omega⟩
    | (rename_i hc
       exact good_adds cut name _ x s h (room_ok h (fun hh => hc (Or.inr hh))) (by have : ¬ 16777216 < (bytesF name s.fs).size + x.size := fun hh => hc (Or.inl hh); omega))
theorem put_good {cut : Int} {name x : ByteArray} {s : DS} (h : Good s.fs) : Good (putS cut name x s).2.fs ∧ (putS cut name x s).2.count ≤ s.count + x.size + 2 := by
  unfold putS
  by_cases c1 : mayB name = false
  · rw [if_pos c1]; exact ⟨h, by show s.count ≤ _; omega⟩
  rw [if_neg c1]
  by_cases c2 : s.dead = true
  · rw [if_pos c2]; exact ⟨h, by show s.count ≤ _; omega⟩
  rw [if_neg c2]
  by_cases hc : 16777216 < x.size ∨ (hasF name s.fs = false ∧ 65536 ≤ s.fs.length)
  · rw [if_pos hc]; exact ⟨h, by show s.count ≤ _; omega⟩
  rw [if_neg hc]
  have hr := room_ok h (fun hh => hc (Or.inr hh))
  have hx : ¬ 16777216 < x.size := fun hh => hc (Or.inl hh)
  have hg1 := good_lay (name := name) (x := ⟨#[]⟩) h hr (by show 0 ≤ _; omega)
  by_cases c4 : rawB cut s.count s.dead = false
  · rw [if_pos c4]; exact ⟨h, by show s.count ≤ _; omega⟩
  rw [if_neg c4]
  by_cases c5 : x.size = 0
  · rw [if_pos c5]; exact ⟨hg1, by show s.count + 1 ≤ _; omega⟩
  rw [if_neg c5]
  have := good_adds cut name (x.size + 1) x ⟨layF name ⟨#[]⟩ s.fs, s.count + 1, s.dead⟩ hg1 (by show room name (layF _ _ _) ≤ _; rw [room_lay]; exact hr) (by show (bytesF name (layF _ _ _)).size + _ ≤ _; rw [(has_lay _ _ _).2]; show 0 + x.size ≤ _; omega)
  exact ⟨this.1, Nat.le_trans this.2 (by show s.count + 1 + x.size + 1 ≤ _; omega)⟩
theorem remove_good {cut : Int} {name : ByteArray} {s : DS} (h : Good s.fs) : Good (removeS cut name s).2.fs ∧ (removeS cut name s).2.count ≤ s.count + 1 := by
  unfold removeS
  repeat' split
  all_goals first
    | exact ⟨h, by show s.count ≤ _; omega⟩
    | exact ⟨good_take h, by show s.count + 1 ≤ _; omega⟩
theorem room_has {name : ByteArray} {fs : FL} (h : Good fs) (hh : ¬ hasF name fs = false) : room name fs ≤ 65536 := room_ok h (fun hc => hh hc.1)
theorem trunc_good {cut : Int} {name : ByteArray} {n : Int} {s : DS} (h : Good s.fs) : Good (truncS cut name n s).2.fs ∧ (truncS cut name n s).2.count ≤ s.count + 1 := by
  unfold truncS
  by_cases c1 : mayB name = false
  · rw [if_pos c1]; exact ⟨h, by show s.count ≤ _; omega⟩
  rw [if_neg c1]
  by_cases c2 : s.dead = true
  · rw [if_pos c2]; exact ⟨h, by show s.count ≤ _; omega⟩
  rw [if_neg c2]
  by_cases c3 : hasF name s.fs = false
  · rw [if_pos c3]; exact ⟨h, by show s.count ≤ _; omega⟩
  rw [if_neg c3]
  by_cases c4 : n < 0 ∨ ((bytesF name s.fs).size : Int) < n
  · rw [if_pos c4]; exact ⟨h, by show s.count ≤ _; omega⟩
  rw [if_neg c4]
  by_cases c5 : rawB cut s.count s.dead = false
  · rw [if_pos c5]; exact ⟨h, by show s.count ≤ _; omega⟩
  rw [if_neg c5]
  exact ⟨good_lay h (room_has h c3) (by have := good_bytes h name; rw [ByteArray.size_extract]; omega), by show s.count + 1 ≤ _; omega⟩
theorem rename_good {cut : Int} {src dst : ByteArray} {s : DS} (h : Good s.fs) : Good (renameS cut src dst s).2.2.fs ∧ (renameS cut src dst s).2.2.count ≤ s.count + 1 := by
  unfold renameS
  by_cases c1 : mayB src = false
  · rw [if_pos c1]; exact ⟨h, by show s.count ≤ _; omega⟩
  rw [if_neg c1]
  by_cases c1' : mayB dst = false
  · rw [if_pos c1']; exact ⟨h, by show s.count ≤ _; omega⟩
  rw [if_neg c1']
  by_cases c2 : s.dead = true
  · rw [if_pos c2]; exact ⟨h, by show s.count ≤ _; omega⟩
  rw [if_neg c2]
  by_cases c3 : hasF src s.fs = false
  · rw [if_pos c3]; exact ⟨h, by show s.count ≤ _; omega⟩
  rw [if_neg c3]
  by_cases c5 : rawB cut s.count s.dead = false
  · rw [if_pos c5]; exact ⟨h, by show s.count ≤ _; omega⟩
  rw [if_neg c5]
  have hh : hasF src s.fs = true := by simpa using c3
  have hl : (takeF src s.fs).length + 1 ≤ 65536 := by
    unfold takeF
    rw [if_pos hh, List.length_eraseIdx_of_lt (hasF_lt hh)]
    have := h.1
    have := hasF_lt hh
    omega
  exact ⟨good_lay (good_take h) (by unfold room; split <;> omega) (good_bytes h src), by show s.count + 1 ≤ _; omega⟩
end DiskC
end Go.Proofs.YtfbdhlpgklkjmaaGreatDoor
