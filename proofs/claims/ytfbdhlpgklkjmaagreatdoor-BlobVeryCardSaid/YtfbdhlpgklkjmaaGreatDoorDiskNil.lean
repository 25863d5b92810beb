/-
  Package disk's calls of a disk that is not there (wip/gen/disknil.py writes this text).
-/
import Derived.Test.YtfbdhlpgklkjmaaGreatDoorDiskR
namespace Go.Proofs.YtfbdhlpgklkjmaaGreatDoor
open Go.RowKit
namespace DiskP
open DiskM DiskC ErrC

set_option maxRecDepth 100000 in
theorem there_nil (w : World) : Calls Tryz.prog 17 #[.pointer none] w fun e w' => e = .returned (.bool false) ∧ w = w' := by
  go_enter Tryz.func17, Tryz.ntmps17
  go_wp2_with fail
  go_ret
  exact ⟨rfl, rfl⟩
theorem fault_errE (c : Nat) (hc : c ≠ 0) (t : ByteArray) (w : World) : ErrE w c t (.returned (.iface 84 (.pointer (some ⟨w.heap.size, 0, none⟩)))) (faultW c t w) := ⟨_, rfl, fault_derr c hc t w, fault_below c t w⟩
set_option maxRecDepth 100000 in
theorem ready_nil (name : ByteArray) (others : Value) (w : World) : Calls Tryz.prog 62 #[.pointer none, .string name, others] w (ErrE w 1 name) := by
  have HF := Lib.hid (fault_errE 1 (by decide) name w)
  go_enter Tryz.func62, Tryz.ntmps62
  go_wp2_with fail
  refine (there_nil w).mono ?_
  rintro e w' ⟨rfl, rfl⟩
  go_wp2_with fail
  refine (fault_any 1 name _).mono ?_
  rintro e w' ⟨rfl, rfl⟩
  go_wp2_with fail
  go_ret
  exact HF.out
set_option maxRecDepth 100000 in
theorem find_nil (name : ByteArray) (others : Value) (w : World) : Calls Tryz.prog 38 #[.pointer none, .string name, others] w (FindE w (.slice none 0 0) 1 name) := by
  go_enter Tryz.func38, Tryz.ntmps38
  go_wp2_with fail
  refine (ready_nil name others w).mono ?_
  rintro e w1 ⟨ev, rfl, he, hb⟩
  obtain ⟨f, rfl⟩ := err_ev (by decide) he
  have HE := Lib.hid he
  have HB := Lib.hid hb
  clear he hb
  go_wp2_with fail
  go_ret2
  exact ⟨_, rfl, HE.out, HB.out⟩
theorem errE_from {w w1 w2 : World} {c : Nat} {t : ByteArray} {ev : Value} (hd : DErr w1 w2 ev c t) (hb : Below w1.heap.size w1 w2) (h : Below w.heap.size w w1) : ErrE w c t (.returned ev) w2 := ⟨ev, rfl, DErr.from hd h.size, h.trans (hb.mono h.size)⟩
theorem below2 (w : World) (o0 o1 : Obj) : Below w.heap.size w ((w.alloc o0).alloc o1) := ((Below.refl _ _).alloc (Nat.le_refl _) _).alloc (by simp <;> omega) _
theorem below3 (w : World) (o0 o1 o2 : Obj) : Below w.heap.size w (((w.alloc o0).alloc o1).alloc o2) := (((Below.refl _ _).alloc (Nat.le_refl _) _).alloc (by simp <;> omega) _).alloc (by simp <;> omega) _
theorem below4 (w : World) (o0 o1 o2 o3 : Obj) : Below w.heap.size w ((((w.alloc o0).alloc o1).alloc o2).alloc o3) := ((((Below.refl _ _).alloc (Nat.le_refl _) _).alloc (by simp <;> omega) _).alloc (by simp <;> omega) _).alloc (by simp <;> omega) _
set_option maxRecDepth 100000 in
set_option maxHeartbeats 1000000 in
theorem put_nil (name x : ByteArray) (w : World) : Calls Tryz.prog 47 #[.pointer none, .string name, .string x] w (ErrE w 1 name) := by
  have HB0 := Lib.hid (below3 w (.cells #[.pointer none] 24) (.cells #[.string name] 9) (.cells #[.string x] 9))
  go_enter Tryz.func47, Tryz.ntmps47
  go_wp2_with fail
  refine (ready_nil name (.slice none 0 0) _).mono ?_
  rintro e w1 ⟨ev, rfl, he, hb⟩
  obtain ⟨f, rfl⟩ := err_ev (by decide) he
  have HE := Lib.hid he
  have HB := Lib.hid hb
  clear he hb
  go_wp2_with fail
  go_ret
  exact errE_from HE.out HB.out HB0.out
set_option maxRecDepth 100000 in
set_option maxHeartbeats 1000000 in
theorem rename_nil (name x : ByteArray) (w : World) : Calls Tryz.prog 48 #[.pointer none, .string name, .string x] w (ErrE w 1 name) := by
  have HB0 := Lib.hid (below4 w (.cells #[.pointer none] 24) (.cells #[.string name] 9) (.cells #[.string x] 9) (.cells #[.string x] 9))
  go_enter Tryz.func48, Tryz.ntmps48
  go_wp2_with fail
  refine (find_nil name _ _).mono ?_
  rintro e w1 ⟨ev, rfl, he, hb⟩
  obtain ⟨f, rfl⟩ := err_ev (by decide) he
  have hb5 := box_below w1 45 (.slice none 0 0)
  have HE := Lib.hid (DErr.below' he hb5)
  have HB := Lib.hid (hb.trans (hb5.mono hb.size)); clear he hb hb5
  go_wp2_with fail
  go_ret
  exact errE_from HE.out HB.out HB0.out
set_option maxRecDepth 100000 in
set_option maxHeartbeats 1000000 in
theorem remove_nil (name : ByteArray) (w : World) : Calls Tryz.prog 23 #[.pointer none, .string name] w (ErrE w 1 name) := by
  have HB0 := Lib.hid (below2 w (.cells #[.pointer none] 24) (.cells #[.string name] 9))
  go_enter Tryz.func23, Tryz.ntmps23
  go_wp2_with fail
  refine (find_nil name (.slice none 0 0) _).mono ?_
  rintro e w1 ⟨ev, rfl, he, hb⟩
  obtain ⟨f, rfl⟩ := err_ev (by decide) he
  have HE := Lib.hid he
  have HB := Lib.hid hb
  clear he hb
  go_wp2_with fail
  go_ret
  exact errE_from HE.out HB.out HB0.out
set_option maxRecDepth 100000 in
theorem restart_nil (n : Int) (w : World) : Calls Tryz.prog 7 #[.pointer none, .int .i64 n] w (ErrE w 1 ⟨#[]⟩) := by
  have HF := Lib.hid (fault_errE 1 (by decide) ⟨#[]⟩ w)
  go_enter Tryz.func7, Tryz.ntmps7
  go_wp2_with fail
  refine (there_nil w).mono ?_
  rintro e w' ⟨rfl, rfl⟩
  go_wp2_with fail
  refine (fault_any 1 ⟨#[]⟩ _).mono ?_
  rintro e w' ⟨rfl, rfl⟩
  go_wp2_with fail
  go_ret
  exact HF.out
set_option maxRecDepth 100000 in
theorem read_nil (name : ByteArray) (w : World) : Calls Tryz.prog 26 #[.pointer none, .string name] w fun e w' => ∃ ev, e = .returned (.tuple #[.string ⟨#[]⟩, ev]) ∧ DErr w w' ev 1 name ∧ Below w.heap.size w w' := by
  go_enter Tryz.func26, Tryz.ntmps26
  go_wp2_with fail
  refine (find_nil name (.slice none 0 0) w).mono ?_
  rintro e w1 ⟨ev, rfl, he, hb⟩
  have hcv := text_of (w := w1) (v := .slice none 0 0) (x := ⟨#[]⟩) (Or.inl ⟨rfl, rfl⟩)
  have HE := Lib.hid he
  have HB := Lib.hid hb
  clear he hb
  go_wp2_with fail
  go_ret2
  exact ⟨_, rfl, HE.out, HB.out⟩
set_option maxRecDepth 100000 in
theorem names_nil (w : World) : Calls Tryz.prog 22 #[.pointer none] w fun e w' => e = .returned (.slice none 0 0) ∧ w = w' := by
  go_enter Tryz.func22, Tryz.ntmps22
  go_wp2_with fail
  refine (there_nil w).mono ?_
  rintro e w' ⟨rfl, rfl⟩
  go_wp2_with fail
  go_ret
  exact ⟨rfl, rfl⟩
set_option maxRecDepth 100000 in
theorem dead_nil (w : World) : Calls Tryz.prog 11 #[.pointer none] w fun e w' => e = .returned (.bool false) ∧ w = w' := by
  go_enter Tryz.func11, Tryz.ntmps11
  go_wp2_with fail
  refine (there_nil w).mono ?_
  rintro e w' ⟨rfl, rfl⟩
  go_wp2_with fail
  go_ret
  exact ⟨rfl, rfl⟩
set_option maxRecDepth 100000 in
theorem same_nil (w : World) : Calls Tryz.prog 19 #[.pointer none, .pointer none] w fun e w' => e = .returned (.bool false) ∧ Below w.heap.size w w' := by
  go_enter Tryz.func19, Tryz.ntmps19
  go_wp2_with fail
  go_quiet ((go_at_call 17; exact Calls.quiet_of_same ((there_nil _).mono fun _ _ h => ⟨h.1, h.2.symm⟩)))
  go_wp2_with fail
  go_ret
  exact ⟨rfl, (Keeps.refl (fun _ => False) w).drewN _ |>.toBelow (fun _ h => h.elim) (Nat.le_refl _)⟩
end DiskP
end Go.Proofs.YtfbdhlpgklkjmaaGreatDoor
