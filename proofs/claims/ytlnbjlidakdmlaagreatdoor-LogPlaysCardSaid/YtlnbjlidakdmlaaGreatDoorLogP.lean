/-
  Package log's small calls: the files' names by a closure, named, fault, there, Len, Files, Broken.
-/
import Derived.Test.YtlnbjlidakdmlaaGreatDoorLogMath
import Derived.Test.YtlnbjlidakdmlaaGreatDoorLogFill
import Derived.Test.YtlnbjlidakdmlaaGreatDoorLogRef2
import Derived.Test.YtlnbjlidakdmlaaGreatDoorLogLay
import Derived.Test.YtlnbjlidakdmlaaGreatDoorErrIsNo
import Derived.Test.YtlnbjlidakdmlaaGreatDoorFrameP
namespace Go.Proofs.YtlnbjlidakdmlaaGreatDoor
open Go.RowKit
namespace LogP
open LogM FrameM FrameC TextR DiskM DiskC LogC ErrC

/-! ### the variables that are read -/
structure VarsT (w : World) : Prop where
  vars : Vars w
  tab : Lib.TabIs Tryz.prog w "internal/strconv.uint64pow10" .u64 Lib.pow10Tab
theorem g_pow : Tryz.prog.globalNamed "internal/strconv.uint64pow10" = some 1 := by kernel_rfl
theorem tab_keeps {w w' : World} (h : Lib.TabIs Tryz.prog w "internal/strconv.uint64pow10" .u64 Lib.pow10Tab) (e : w'.heap[1]? = w.heap[1]?) : Lib.TabIs Tryz.prog w' "internal/strconv.uint64pow10" .u64 Lib.pow10Tab := by
  unfold Lib.TabIs World.var? at h ⊢
  rw [g_pow] at h ⊢
  simp only [Option.bind_some] at h ⊢
  rw [e]
  exact h
theorem VarsT.below {w w' : World} (h : VarsT w) (hb : Below w.heap.size w w') : VarsT w' := ⟨h.vars.below hb, tab_keeps h.tab (hb.block _ (DiskC.Vars.g1 h.vars))⟩
theorem VarsT.belowG {w w' : World} {B : Nat} (h : VarsT w) (hb : Below B w w') (h0 : 0 < B) (h1 : 1 < B) : VarsT w' := ⟨DiskC.Vars.belowG h.vars hb h0 h1, tab_keeps h.tab (hb.block _ h1)⟩

/-! ### the files' names -/
theorem grow_b (w : World) (k : Nat) (os : Array Obj) : Below w.heap.size w (Go.Sort.grow (w.drewN k) os) :=
  ⟨rfl, rfl, rfl, by simp [Go.Sort.grow], fun i hi => by show (w.heap ++ os)[i]? = _; rw [Array.getElem?_append_left hi]⟩
theorem itoa_file (n : Nat) (w : World) (hn : n < 100000000) (hv : VarsT w) :
    Calls Tryz.prog 64 #[.int .i64 ((100000000 + n : Nat) : Int)] w fun e w' => e = .returned (.string (str (Lib.decDigits (100000000 + n)))) ∧ Below w.heap.size w w' := by
  refine (Tryz.strconv_Itoa ((100000000 + n : Nat) : Int) (by omega) (by omega) w hv.tab).mono ?_
  rintro e w' ⟨rfl, k, os, rfl⟩
  refine ⟨by rw [itoa_is]; rfl, grow_b w k os⟩
theorem keeps_at (w : World) (p j : Nat) (u : Value) : Keeps (· = p) w (w.setCell ⟨p, j, none⟩ u) := ⟨rfl, rfl, rfl, by simp, fun k _ hk => Below.heap_setCell w ⟨p, j, none⟩ u k hk⟩
set_option maxRecDepth 100000 in
theorem next_any (nb n : Nat) (w : World) (hc : w.cell? ⟨nb, 0, none⟩ = some (.int .i64 n)) (hf : w.frozen? ⟨nb, 0, none⟩ = false) (hn : n + 1 < 100000000) (h1 : nb ≠ 0 ∧ nb ≠ 1) (hv : VarsT w) :
    Calls Tryz.prog 63 #[.pointer (some ⟨nb, 0, none⟩)] w fun e w' => e = .returned (.string (nameN (n + 1))) ∧ w'.cell? ⟨nb, 0, none⟩ = some (.int .i64 ((n + 1 : Nat) : Int)) ∧ Keeps (· = nb) w w' ∧ (∀ j, w.frozen? ⟨nb, j, none⟩ = false → w'.frozen? ⟨nb, j, none⟩ = false) := by
  have hlt : nb < w.heap.size := World.block_lt_of_cell? _ _ hc
  have hw1 : IntKind.i64.wrap ((n : Int) + 1) = ((n + 1 : Nat) : Int) := by rw [IntWalk.i64_in _ ⟨by omega, by omega⟩]; omega
  have hdl := dec_len (n + 1) hn
  have HFD := Lib.hid (file_dig (n + 1) hn)
  have HV := Lib.hid hv
  clear hv
  obtain ⟨D, hD⟩ : ∃ D, D = Lib.decDigits (100000000 + (n + 1)) := ⟨_, rfl⟩
  have HIT := Lib.hid (fun w4 h => itoa_file (n + 1) w4 hn h)
  rw [← hD] at hdl HFD HIT
  have hs := sl_from D 1 1 rfl (by omega)
  have hadd := add_any pre4 (D.drop 1)
  rw [HFD.out] at hadd
  have hadd2 : ∀ w, (Op.stringOp .add ⟨#[108, 111, 103, 47]⟩ (str (D.drop 1))).run Tryz.prog w = .ok (.string (nameN (n + 1))) w := fun w => hadd w (by rw [List.length_drop, hdl]; decide)
  obtain ⟨T, hT⟩ : ∃ T, T = D.drop 1 := ⟨_, rfl⟩
  rw [← hT] at hs hadd2
  obtain ⟨m, hm⟩ : ∃ m, m = n + 1 := ⟨_, rfl⟩
  rw [← hm] at hw1 HIT hadd2 hn ⊢
  have hw2 : IntKind.i64.wrap (100000000 + (m : Int)) = ((100000000 + m : Nat) : Int) := by rw [IntWalk.i64_in _ ⟨by omega, by omega⟩]; omega
  obtain ⟨z, hz⟩ : ∃ z, z = 100000000 + m := ⟨_, rfl⟩
  rw [← hz] at hw2 HIT
  clear hz hm hadd hD HFD hT
  have HV1 : Hid (VarsT (w.setCell ⟨nb, 0, none⟩ (.int .i64 m))) := Lib.hid (by
    refine ⟨⟨?_, fun i hi => ?_⟩, tab_keeps HV.out.tab (Below.heap_setCell _ _ _ _ (fun e => h1.2 e.symm))⟩
    · unfold ErrType
      rw [World.cell?_of_block (a := ⟨0, 0, none⟩) (Below.heap_setCell _ _ _ _ (fun e => h1.1 e.symm))]
      exact HV.out.vars.err
    · obtain ⟨u, hu⟩ := HV.out.vars.pow i hi
      exact ⟨u, by rw [World.cell?_of_block (a := ⟨1, i, none⟩) (Below.heap_setCell _ _ _ _ (fun e => h1.2 e.symm))]; exact hu⟩)
  have k := keeps_at w nb 0 (.int .i64 m)
  have hc2 := World.cell?_setCell_same w ⟨nb, 0, none⟩ (.int .i64 (m : Int)) hc
  have HK := Lib.hid k
  have HC2 := Lib.hid hc2
  clear k hc2
  go_enter Tryz.func63, Tryz.ntmps63
  go_wp2_with fail
  refine (HIT.out _ HV1.out).mono ?_
  rintro e w1 ⟨rfl, hb⟩
  have HB := Lib.hid hb
  clear hb
  go_wp2_with fail
  go_ret
  have hb := HB.out
  exact ⟨rfl, by rw [hb.cell (by simpa using hlt)]; exact HC2.out, HK.out.trans (Keeps.of_below hb), fun j hj => by rw [World.frozen?_of_block (a := ⟨nb, j, none⟩) (hb.block nb (by simpa using hlt))]; simpa using hj⟩
end LogP
end Go.Proofs.YtlnbjlidakdmlaaGreatDoor
