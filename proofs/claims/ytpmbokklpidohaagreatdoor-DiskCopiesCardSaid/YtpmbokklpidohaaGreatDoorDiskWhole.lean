/-
  One step of both disks, whatever it is.
-/
import Derived.Test.YtpmbokklpidohaaGreatDoorDiskStand2
import Derived.Test.YtpmbokklpidohaaGreatDoorDiskRead
import Derived.Test.YtpmbokklpidohaaGreatDoorDiskFit
namespace Go.Proofs.YtpmbokklpidohaaGreatDoor
open Go.RowKit
namespace DiskP
open DiskM DiskC ErrC

/-- a step of the document's disk: how it is cut then, how it stands then -/
def playS (cut D : Int) (name x : ByteArray) (N : Int) (s : DS) : Int × DS :=
  if D = 0 then (cut, (appendS cut name x s).2)
  else if D = 1 then (cut, (putS cut name x s).2)
  else if D = 2 then (cut, (truncS cut name N s).2)
  else if D = 3 then (cut, (renameS cut name x s).2.2)
  else if D = 4 then (cut, (removeS cut name s).2)
  else if D = 6 then (N, ⟨s.fs, 0, false⟩)
  else (cut, s)
theorem play_good {cut D : Int} {name x : ByteArray} {N : Int} {s : DS} (h : DiskC.Good s.fs) : DiskC.Good (playS cut D name x N s).2.fs ∧ (playS cut D name x N s).2.count ≤ s.count + x.size + 2 := by
  unfold playS
  split
  · exact ⟨(append_good h).1, Nat.le_succ_of_le (append_good h).2⟩
  split
  · exact put_good h
  split
  · exact ⟨(trunc_good h).1, Nat.le_trans (trunc_good h).2 (by omega)⟩
  split
  · exact ⟨(rename_good h).1, Nat.le_trans (rename_good h).2 (by omega)⟩
  split
  · exact ⟨(remove_good h).1, Nat.le_trans (remove_good h).2 (by omega)⟩
  split
  · exact ⟨h, Nat.zero_le _⟩
  · exact ⟨h, by show s.count ≤ _; omega⟩
theorem rename_what (cut : Int) (a c : ByteArray) (s : DS) (k : Nat) (ha : a.size ≤ k) (hc : c.size ≤ k) : (renameS cut a c s).2.1.size ≤ k := by
  unfold renameS
  repeat' split
  all_goals first | exact ha | exact hc | exact Nat.zero_le _
set_option maxRecDepth 100000 in
set_option maxHeartbeats 4000000 in
theorem does_other {B : Nat} {w : World} {b y : Nat} {F : Nat → Prop} {v : Value} {cut : Int} {s : DS} (D : Int) (name x : ByteArray) (N : Int)
    (h : Pair (RP B) w b F y v cut s B) (hg : DiskC.Good s.fs) (h0 : D ≠ 0) (h1 : D ≠ 1) (h2 : D ≠ 2) (h3 : D ≠ 3) (h4 : D ≠ 4) (h5 : D ≠ 5) (h6 : D ≠ 6) :
    Calls Tryz.prog 6 #[.pointer (some ⟨b, 0, none⟩), .pointer (some ⟨y, 0, none⟩), stepV D name x N] w (DoesE (RP B) b y B cut s w) := by
  have hD := disk_dev B
  have hah := h.ahead0 hD D name x N
  have c0 : (boxS D name x N w).cell? ⟨w.heap.size, 0, none⟩ = some (.int .i64 D) := (boxS_facts D name x N w).1
  have HA := Lib.hid hah
  have HG := Lib.hid hg
  clear h hah hD hg
  unfold stepV
  go_enter Tryz.func6, Tryz.ntmps6
  go_wp2_with fail
  refine (stands_any HA.out.pair HG.out).mono ?_
  rintro e w1 ⟨rfl, F1, v1, hp, hb⟩
  have HP := Lib.hid hp
  have HB := Lib.hid (HA.out.below.trans hb)
  clear hp hb
  go_wp2_with fail
  go_ret
  exact ⟨rfl, F1, v1, HP.out, HB.out⟩
theorem does_any {B : Nat} {w : World} {b y : Nat} {F : Nat → Prop} {v : Value} {cut : Int} {s : DS} (D : Int) (name x : ByteArray) (N : Int)
    (h : Pair (RP B) w b F y v cut s B) (hg : DiskC.Good s.fs) (hc : s.count ≤ 549755813888) (hn : name.size ≤ 4611686018427387904) (hx : x.size ≤ 16384) (hN : N ≤ 9223372036854775807) :
    Calls Tryz.prog 6 #[.pointer (some ⟨b, 0, none⟩), .pointer (some ⟨y, 0, none⟩), stepV D name x N] w (DoesE (RP B) b y B (playS cut D name x N s).1 (playS cut D name x N s).2 w) := by
  have hD := disk_dev B
  by_cases h0 : D = 0
  · subst h0; exact does_append hD name x N h hg hc hn (by omega)
  by_cases h1 : D = 1
  · subst h1; exact does_put hD name x N h hg hc hn
  by_cases h2 : D = 2
  · subst h2; exact does_trunc hD name x N h hg hc hn hN
  by_cases h3 : D = 3
  · subst h3; exact does_rename hD name x N h hg hc (rename_what cut name x s _ hn (by omega))
  by_cases h4 : D = 4
  · subst h4; exact does_remove hD name x N h hg hc hn
  by_cases h6 : D = 6
  · subst h6; exact does_restart hD name x N h hg
  have e : playS cut D name x N s = (cut, s) := by unfold playS; rw [if_neg h0, if_neg h1, if_neg h2, if_neg h3, if_neg h4, if_neg h6]
  rw [e]
  by_cases h5 : D = 5
  · subst h5; exact does_read hD name x N h hg hn
  · exact does_other D name x N h hg h0 h1 h2 h3 h4 h5 h6
end DiskP
end Go.Proofs.YtpmbokklpidohaaGreatDoor
