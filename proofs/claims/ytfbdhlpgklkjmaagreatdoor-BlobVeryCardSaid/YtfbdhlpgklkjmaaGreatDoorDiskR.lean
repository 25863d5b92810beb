/-
  Package disk keeps what the laws of layer 3 ask of a disk.
-/
import Derived.Test.YtfbdhlpgklkjmaaGreatDoorDiskC
namespace Go.Proofs.YtfbdhlpgklkjmaaGreatDoor
open Go.RowKit
namespace DiskP
open DiskM DiskC ErrC

/-- each name may be one -/
def May (fs : FL) : Prop := ∀ f ∈ fs, mayB f.1 = true
theorem May.nil : May [] := fun _ h => by cases h
theorem May.lay {fs : FL} (h : May fs) {n x : ByteArray} (hn : mayB n = true) : May (layF n x fs) := fun g hg => by
  rcases lay_mem g hg with h1 | h1
  · exact h g h1
  · rw [h1]; exact hn
theorem May.take {fs : FL} (h : May fs) {n : ByteArray} : May (takeF n fs) := fun g hg => h g ((take_sub fs).subset hg)
theorem May.adds {cut : Int} {name : ByteArray} (hn : mayB name = true) : ∀ (k : Nat) (x : ByteArray) (s : DS), May s.fs → May (addsS cut name k x s).2.fs
  | 0, _, _, h => h
  | k + 1, x, s, h => by
    by_cases hr : rawB cut s.count s.dead = true
    · by_cases hx : x.size ≤ 32
      · rw [addsS_last hr hx]; exact h.lay hn
      · rw [addsS_more hr hx]; exact May.adds hn k _ _ (h.lay hn)
    · rw [addsS_no (by simpa using hr)]; exact h
theorem may_of {n : ByteArray} (h : ¬ mayB n = false) : mayB n = true := by simpa using h
theorem may_append {cut : Int} {name x : ByteArray} {s : DS} (h : May s.fs) : May (appendS cut name x s).2.fs := by
  unfold appendS
  by_cases h1 : mayB name = false
  · rw [if_pos h1]; exact h
  rw [if_neg h1]
  by_cases h2 : s.dead = true
  · rw [if_pos h2]; exact h
  rw [if_neg h2]
  split
  · exact h
  · exact May.adds (may_of h1) _ _ _ h
theorem may_put {cut : Int} {name x : ByteArray} {s : DS} (h : May s.fs) : May (putS cut name x s).2.fs := by
  unfold putS
  by_cases h1 : mayB name = false
  · rw [if_pos h1]; exact h
  rw [if_neg h1]
  by_cases h2 : s.dead = true
  · rw [if_pos h2]; exact h
  rw [if_neg h2]
  split
  · exact h
  · split
    · exact h
    · split
      · exact h.lay (may_of h1)
      · exact May.adds (may_of h1) _ _ _ (h.lay (may_of h1))
theorem may_remove {cut : Int} {name : ByteArray} {s : DS} (h : May s.fs) : May (removeS cut name s).2.fs := by
  unfold removeS
  repeat' split
  all_goals first
    | exact h
    | exact h.take
theorem may_trunc {cut : Int} {name : ByteArray} {n : Int} {s : DS} (h : May s.fs) : May (truncS cut name n s).2.fs := by
  unfold truncS
  by_cases h1 : mayB name = false
  · rw [if_pos h1]; exact h
  rw [if_neg h1]
  repeat' split
  all_goals first
    | exact h
    | exact h.lay (may_of h1)
theorem may_rename {cut : Int} {src dst : ByteArray} {s : DS} (h : May s.fs) : May (renameS cut src dst s).2.2.fs := by
  unfold renameS
  by_cases h1 : mayB src = false
  · rw [if_pos h1]; exact h
  rw [if_neg h1]
  by_cases h2 : mayB dst = false
  · rw [if_pos h2]; exact h
  rw [if_neg h2]
  repeat' split
  all_goals first
    | exact h
    | exact h.take.lay (may_of h2)
def RP (B : Nat) (w : World) (b : Nat) (F : Nat → Prop) (cut : Int) (s : DS) : Prop := IsP B w b F cut s ∧ May s.fs
theorem devE_may {B b c : Nat} {F : Nat → Prop} {cut : Int} {s : DS} {t : ByteArray} {w : World} (hm : May s.fs) (e : Ending) (w' : World) (h : DevE (IsP B) F b cut c t s w e w') : DevE (RP B) F b cut c t s w e w' := by
  obtain ⟨ev, F', h1, h2, h3, h4, h5⟩ := h
  exact ⟨ev, F', h1, h2, ⟨h3, hm⟩, h4, h5⟩
theorem below_eq {w w' : World} (h : w = w') : Below w.heap.size w w' := by rw [h]; exact Below.refl _ _
theorem names_any {B b m : Nat} {F : Nat → Prop} {cut : Int} {s : DS} {D : DataW Unit} {vals : ByteArray → Value} {w : World} (h : Dsk B w b F cut s m D vals) (hl : s.fs.length ≤ 65536) :
    Calls Tryz.prog 22 #[.pointer (some ⟨b, 0, none⟩)] w fun e w' => ∃ u, e = .returned u ∧ TextR.OwnT w' w.heap.size u (namesS s) ∧ Below w.heap.size w w' := by
  cases hd : s.dead with
  | true => exact names_dead h hd
  | false => exact names_live h hd hl
theorem disk_dev (B : Nat) : Dev B (RP B) where
  lt := fun h i hi => by obtain ⟨⟨m, D, vals, hD⟩, -⟩ := h; exact hD.files.lt i hi
  own := fun h => by obtain ⟨⟨m, D, vals, hD⟩, -⟩ := h; exact hD.files.fb
  keeps := fun h k hS hB => by obtain ⟨⟨m, D, vals, hD⟩, hm⟩ := h; exact ⟨⟨m, D, vals, hD.keeps k hS hB⟩, hm⟩
  put := fun name x h hg hc _ => by obtain ⟨⟨m, D, vals, hD⟩, hm⟩ := h; exact (put_any hD name x hg hc).mono (devE_may (may_put hm))
  remove := fun name h _ hc _ => by obtain ⟨⟨m, D, vals, hD⟩, hm⟩ := h; exact (remove_any hD name hc).mono (devE_may (may_remove hm))
  rename := fun src dst h hg hc _ => by obtain ⟨⟨m, D, vals, hD⟩, hm⟩ := h; exact (rename_any hD src dst hg hc).mono (devE_may (may_rename hm))
  restart := fun n h _ _ => by obtain ⟨⟨m, D, vals, hD⟩, hm⟩ := h; exact (restart_any hD n).mono (fun e w' h => ⟨devE_may (s := ⟨_, 0, false⟩) hm e w' h.1, h.2⟩)
  read := fun name h _ _ => by obtain ⟨⟨m, D, vals, hD⟩, hm⟩ := h; exact read_any hD name
  names := fun h hg _ => by obtain ⟨⟨m, D, vals, hD⟩, hm⟩ := h; exact names_any hD hg.1
  dead := fun h _ _ => by
    obtain ⟨⟨m, D, vals, hD⟩, hm⟩ := h
    refine (dead_any hD).mono ?_
    rintro e w' ⟨h1, h2⟩
    exact ⟨h1, below_eq h2⟩
  new := fun cut hB => by
    refine (new_any cut hB).mono ?_
    rintro e w' ⟨b, F, h1, h2, h3, h4⟩
    exact ⟨b, F, h1, ⟨h2, May.nil⟩, h3, h4⟩
end DiskP
end Go.Proofs.YtfbdhlpgklkjmaaGreatDoor
