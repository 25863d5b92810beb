/-
  Package log's calls where there is no log, and Open of no disk.
  Package log's From where there is no log.
-/
import Derived.Test.YtinoghanlokenaaGreatDoorLogAlive
import Derived.Test.YtinoghanlokenaaGreatDoorLogIter
import Derived.Test.YtinoghanlokenaaGreatDoorDiskNil
import Derived.Deep.CutRange
import Derived.Deep.RegionWith
import Derived.Maps.AppendAt
namespace Go.Proofs.YtinoghanlokenaaGreatDoor
open Go.RowKit Go.Shelf
set_option linter.unusedVariables false
namespace LogP
open LogM FrameM FrameC TextR DiskM DiskC LogC ErrC

set_option maxHeartbeats 4000000 in
set_option maxRecDepth 100000 in
theorem look_nil (n : Nat) (w : World) :
    Calls Tryz.prog 70 #[.pointer none, .string (nameN n)] w fun e w' => ∃ ev, e = .returned (.tuple #[zeroSeg, ev]) ∧ DErr w w' ev 1 (nameN n) ∧ Below w.heap.size w w' := by
  have hb0 : Below w.heap.size w (w.alloc (.cells #[.string ⟨#[]⟩, .slice none 0 0, .int .i64 0, .int .i64 0] 75)) := (Below.refl _ w).alloc (Nat.le_refl _) _
  have HREAD := Lib.hid (DiskP.read_nil (nameN n) (w.alloc (.cells #[.string ⟨#[]⟩, .slice none 0 0, .int .i64 0, .int .i64 0] 75)))
  have hnew := heap_alloc_new w (.cells #[.string ⟨#[]⟩, .slice none 0 0, .int .i64 0, .int .i64 0] 75)
  have hsz : (w.alloc (.cells #[.string ⟨#[]⟩, .slice none 0 0, .int .i64 0, .int .i64 0] 75)).heap.size = w.heap.size + 1 := by simp
  have HB0 := Lib.hid hb0
  clear hb0
  go_enter Tryz.func70, Tryz.ntmps70
  go_wp2_with fail
  refine HREAD.out.mono ?_
  rintro e w1 ⟨ev, rfl, he, hb⟩
  have HE := Lib.hid he
  have HIS := Lib.hid (is_of he 6 (by decide))
  have HB1 := Lib.hid (HB0.out.trans (hb.mono (by rw [hsz]; omega)))
  have hnew1 := (hb.block w.heap.size (by rw [hsz]; omega)).trans hnew
  have hs1 := hb.size
  obtain ⟨f, rfl, -, -⟩ := derr_some he (by decide)
  clear he hb hnew HREAD
  go_wp2_with fail
  refine HIS.out.mono ?_
  rintro e w2 ⟨rfl, hb⟩
  have hnew2 := (hb.block w.heap.size (by omega)).trans hnew1
  have HB2 := Lib.hid (HB1.out.trans (hb.mono (by omega)))
  have HE2 := Lib.hid (HE.out.keeps (Keeps.of_below (S := fun _ => False) hb) (fun _ h => h.elim))
  clear hb hnew1 HIS HE HB1
  have hinf := info_seg
  go_wp2_with (refine wpList_store_row rfl 75 _ _ rfl w.heap.size #[.string ⟨#[]⟩, .slice none 0 0, .int .i64 0, .int .i64 0] rfl rfl _ _ hnew2 hinf rfl (seg_one _ _ _ _ _ _) ?_)
  refine bodyPost_ret (results_cell_tmp rfl _ _ w.heap.size _ #[.string ⟨#[]⟩, .slice none 0 0, .int .i64 0, .int .i64 0] _ _ rfl (setRow_heap _ _ _ _ _ _ hnew2) Tryz.underlying75 rfl hinf) rfl ?_
  have hb3 : Below w.heap.size w (w2.setRow w.heap.size #[.string ⟨#[]⟩, .slice none 0 0, .int .i64 0, .int .i64 0]) := below_setRow HB2.out (Nat.le_refl _) _
  exact ⟨_, rfl, derr_from (HE2.out.keeps (S := fun i => i = w.heap.size) ⟨rfl, rfl, rfl, by simp, fun k _ hk => setRow_other w2 w.heap.size k _ hk⟩ (fun i e => by rw [e, hsz]; omega)) (by rw [hsz]; omega), hb3⟩
theorem nil_in {w0 w3 : World} {f : Nat} {t : ByteArray} {z : Obj} (hb : Below (w0.drew.alloc z).heap.size (w0.drew.alloc z) w3) (hf : (w0.drew.alloc z).heap.size ≤ f ∧ IsFault w3 f 0 1 t (-1)) (a b c d : Value) :
    (w0.heap.size ≤ f ∧ IsFault (segS w3 w0.heap.size a b c d) f 0 1 t (-1)) ∧ Below w0.heap.size w0 (segS w3 w0.heap.size a b c d) := by
  have hs : (w0.drew.alloc z).heap.size = w0.heap.size + 1 := by simp
  have h1 : Below w0.heap.size w0 w0.drew := ⟨rfl, rfl, rfl, Nat.le_refl _, fun _ _ => rfl⟩
  have h2 : Below w0.heap.size w0 w3 := (h1.alloc (Nat.le_refl _) z).trans (hb.mono (by rw [hs]; omega))
  refine ⟨⟨by omega, fault_block hf.2 ((segS_keeps _ _ _ _ _ _).block f hf.2.lt (by omega))⟩, h2.trans ?_⟩
  exact (segS_keeps w3 w0.heap.size a b c d).toBelow (fun i e => by omega) (by have := h2.size; omega)
theorem nil_out {w0 w3 : World} {f : Nat} {t : ByteArray} (hb : Below w0.drew.heap.size w0.drew w3) (hf : w0.drew.heap.size ≤ f ∧ IsFault w3 f 0 1 t (-1)) (o : Obj) :
    (w0.heap.size ≤ f ∧ IsFault (w3.alloc o) f 0 1 t (-1)) ∧ Below w0.heap.size w0 (w3.alloc o) := by
  have h1 : Below w0.heap.size w0 w0.drew := ⟨rfl, rfl, rfl, Nat.le_refl _, fun _ _ => rfl⟩
  have h2 : Below w0.heap.size w0 w3 := h1.trans hb
  exact ⟨⟨hf.1, fault_block hf.2 (heap_alloc_old w3 o hf.2.lt)⟩, h2.alloc h2.size o⟩
set_option maxHeartbeats 8000000 in
set_option maxRecDepth 100000 in
theorem fill_nil {w : World} {p : Nat} (c0 : w.cell? ⟨p, 0, none⟩ = some (.pointer none)) (c2 : w.cell? ⟨p, 2, none⟩ = some (.string (nameN 1))) :
    Calls Tryz.prog 33 #[.pointer (some ⟨p, 0, none⟩)] w fun e w' => ∃ ev, e = .returned (.tuple #[zeroSeg, ev]) ∧ DErr w w' ev 1 (nameN 1) ∧ Below w.heap.size w w' := by
  have hpl : p < w.heap.size := World.block_lt_of_cell? _ _ c0
  have hb0 : Below w.heap.size w (w.alloc (.cells zeroC 75)) := (Below.refl _ _).alloc (Nat.le_refl _) _
  have HB0 := Lib.hid hb0
  have HLK : Hid (∀ w4, Calls Tryz.prog 70 #[.pointer none, .string (nameN 1)] w4 fun e w' => ∃ f, e = .returned (.tuple #[.agg #[.string ⟨#[]⟩, .slice none 0 0, .int .i64 0, .int .i64 0], .iface 107 (.pointer (some ⟨f, 0, none⟩))]) ∧ Hid (w4.heap.size ≤ f ∧ IsFault w' f 0 1 (nameN 1) (-1)) ∧ Below w4.heap.size w4 w') := Lib.hid (fun w4 => (look_nil 1 w4).mono (fun e w' h => by
    obtain ⟨ev, h1, h2, h3⟩ := h
    obtain ⟨f, rfl, h4, h5⟩ := derr_some h2 (by decide)
    exact ⟨f, h1, Lib.hid ⟨h4, h5⟩, h3⟩))
  have hnew : (w.alloc (.cells zeroC 75)).heap[w.heap.size]? = some (.cells zeroC 75 (0, 0)) := heap_alloc_new w _
  have HNEW := Lib.hid hnew
  have d0 := World.cell?_alloc_lt w (.cells zeroC 75) ⟨p, 0, none⟩ hpl
  have d2 := World.cell?_alloc_lt w (.cells zeroC 75) ⟨p, 2, none⟩ hpl
  rw [c0] at d0
  rw [c2] at d2
  clear hb0 hnew c0 c2
  unfold zeroC at HNEW HB0 d0 d2
  go_enter Tryz.func33, Tryz.ntmps33
  go_wp2_with fail
  generalize hW : w.alloc (.cells #[.string ⟨#[]⟩, .slice none 0 0, .int .i64 0, .int .i64 0] 75) = W0 at *
  have hpl0 : p < W0.heap.size := World.block_lt_of_cell? _ _ d0
  refine wp_loop_rounds 1 ?_
  rw [rounds_succ]
  have HB1 : Hid (Below W0.heap.size W0 W0.drew) := Lib.hid ⟨rfl, rfl, rfl, Nat.le_refl _, fun _ _ => rfl⟩
  go_upto_region 1 with fail
  go_cut [4, 5] from 6 to 29 (fun v4 v5 wx => ∃ f : Nat, v5 = .iface 107 (.pointer (some ⟨f, 0, none⟩)) ∧ Hid (W0.heap.size ≤ f ∧ IsFault wx f 0 1 (nameN 1) (-1)) ∧ Hid (Below W0.heap.size W0 wx))
  case first =>
    go_region_with
      (go_at_call 70
       refine (HLK.out _).mono ?_
       rintro e w3 ⟨f, rfl, HFA, hb⟩
       have HB3 := Lib.hid hb
       try have z0 : w3.cell? ⟨W0.heap.size, 0, none⟩ = some (.string ⟨#[]⟩) := by rw [hb.cell (by simp)]; simp
       try have z1 : w3.cell? ⟨W0.heap.size, 1, none⟩ = some (.slice none 0 0) := by rw [hb.cell (by simp)]; simp
       try have z2 : w3.cell? ⟨W0.heap.size, 2, none⟩ = some (.int .i64 0) := by rw [hb.cell (by simp)]; simp
       try have z3 : w3.cell? ⟨W0.heap.size, 3, none⟩ = some (.int .i64 0) := by rw [hb.cell (by simp)]; simp
       try have z4 : ∀ j, w3.frozen? ⟨W0.heap.size, j, none⟩ = false := by intro j; rw [World.frozen?_of_block (a := ⟨W0.heap.size, j, none⟩) (hb.block W0.heap.size (by simp))]; simp
       clear hb)
    all_goals (go_wp2_with fail)
    all_goals (go_meet)
    all_goals first
      | (case rel =>
          obtain ⟨f1, f2⟩ := nil_in HB3.out HFA.out (.string ⟨#[]⟩) (.slice none 0 0) (.int .i64 0) (.int .i64 0)
          exact ⟨f, rfl, Lib.hid f1, Lib.hid f2⟩)
      | (case rel =>
          obtain ⟨f1, f2⟩ := nil_out HB3.out HFA.out (.cells #[.string ⟨#[]⟩, .slice none 0 0, .int .i64 0, .int .i64 0] 75)
          exact ⟨f, rfl, Lib.hid f1, Lib.hid f2⟩)
  case rest =>
    obtain ⟨f, rfl, HFA, HBX⟩ := hcut
    have hwl : w.heap.size < W0.heap.size := (Array.getElem?_eq_some_iff.1 HNEW.out).1
    have hzero := (HBX.out.block w.heap.size hwl).trans HNEW.out
    have hinf := info_seg
    go_wp2_with (refine wpList_store_row rfl 75 _ _ rfl w.heap.size #[.string ⟨#[]⟩, .slice none 0 0, .int .i64 0, .int .i64 0] rfl rfl _ _ hzero hinf rfl (seg_one _ _ _ _ _ _) ?_)
    refine bodyPost_ret (results_cell_tmp rfl _ _ w.heap.size _ #[.string ⟨#[]⟩, .slice none 0 0, .int .i64 0, .int .i64 0] _ _ rfl (setRow_heap _ _ _ _ _ _ hzero) Tryz.underlying75 rfl hinf) rfl ?_
    have hbb := below_setRow (HB0.out.trans (HBX.out.mono (by omega))) (Nat.le_refl _) #[.string ⟨#[]⟩, .slice none 0 0, .int .i64 0, .int .i64 0]
    refine ⟨_, rfl, .inr ⟨by decide, f, rfl, by have := HFA.out.1; omega, ?_⟩, hbb⟩
    exact fault_block HFA.out.2 ((keeps_row wc w.heap.size _).block f HFA.out.2.lt (by have := HFA.out.1; omega))
set_option maxHeartbeats 8000000 in
set_option maxRecDepth 100000 in
theorem open_nil (w : World) (hv : VarsT w) :
    Calls Tryz.prog 8 #[.pointer none] w fun e w' => ∃ ev, e = .returned (.tuple #[.pointer none, ev]) ∧ FErr w w' ev 1 (-1) ∧ Below w.heap.size w w' := by
  have HV := Lib.hid hv
  have hg0 := DiskC.Vars.g0 hv.vars
  have hg1 := DiskC.Vars.g1 hv.vars
  clear hv
  go_enter Tryz.func8, Tryz.ntmps8
  go_wp2_with fail
  refine (names_any w).mono ?_
  rintro e w1 ⟨rfl, rfl⟩
  obtain ⟨W1, hW1⟩ : ∃ W1, w.alloc (.cells #[.int .i64 0] 3) = W1 := ⟨_, rfl⟩
  have hb1 : Below w.heap.size w W1 := by rw [← hW1]; exact (Below.refl _ _).alloc (Nat.le_refl _) _
  have hs1 : W1.heap.size = w.heap.size + 1 := by rw [← hW1]; simp
  have hc1 : W1.cell? ⟨w.heap.size, 0, none⟩ = some (.int .i64 ((0 : Nat) : Int)) := by rw [← hW1, World.cell?_alloc_at _ _ _ _ rfl]; rfl
  have hf1 : ∀ j, W1.frozen? ⟨w.heap.size, j, none⟩ = false := fun j => by rw [← hW1]; simp
  have HNX := Lib.hid (next_any w.heap.size 0 W1 hc1 (hf1 0) (by decide) ⟨by omega, by omega⟩ (HV.out.below hb1))
  rw [hW1]
  unfold nextF
  clear hW1
  go_wp2_with fail
  refine HNX.out.mono ?_
  rintro e w2 ⟨rfl, hc2, hk2, hf2⟩
  have hs2 := hk2.size
  have hb2 : Below w.heap.size w w2 := hb1.trans (hk2.toBelow (fun i e => by omega) (by omega))
  have hb3 : Below w.heap.size w (w2.alloc (.cells #[.pointer none, .slice none 0 0, .string (nameN 1), nextF w.heap.size, .bool false] 73)) := hb2.alloc hb2.size _
  have HB3 := Lib.hid hb3
  have HFI := Lib.hid (fill_nil (w := w2.alloc (.cells #[.pointer none, .slice none 0 0, .string (nameN 1), nextF w.heap.size, .bool false] 73)) (p := w2.heap.size) (by rw [World.cell?_alloc_at _ _ _ _ rfl]; rfl) (by rw [World.cell?_alloc_at _ _ _ _ rfl]; rfl))
  obtain ⟨p, hp⟩ : ∃ p, p = w2.heap.size := ⟨_, rfl⟩
  unfold nextF at HFI HB3
  clear hc1 hf1 HNX hc2 hk2 hf2 hb1 hb2 hb3
  rw [← hp] at HFI
  obtain ⟨W3, hW3⟩ : ∃ W3, w2.alloc (.cells #[.pointer none, .slice none 0 0, .string (nameN 1), .func (.func 68) #[] #[.pointer (some ⟨w.heap.size, 0, none⟩)], .bool false] 73) = W3 := ⟨_, rfl⟩
  rw [hW3] at HFI HB3
  go_wp2_with fail
  rw [← hp]
  refine HFI.out.mono ?_
  rintro e w4 ⟨ev, rfl, he, hb⟩
  have HIS := Lib.hid (fun w5 (h5 : Below w4.heap.size w4 w5) => is_of (he.keeps (Keeps.of_below (S := fun _ => False) h5) (fun _ h => h.elim)) 1 (by decide))
  have HB4 := Lib.hid hb
  obtain ⟨f, rfl, -, -⟩ := derr_some he (by decide)
  clear he hb
  unfold zeroSeg
  have HB5 : Hid (Below w4.heap.size w4 (w4.alloc (.cells #[.string ⟨#[]⟩, .slice none 0 0, .int .i64 0, .int .i64 0] 75))) := Lib.hid ((Below.refl _ _).alloc (Nat.le_refl _) _)
  go_wp2_with fail
  refine (HIS.out _ HB5.out).mono ?_
  rintro e w6 ⟨rfl, hb6⟩
  have HB6 := Lib.hid hb6
  clear hb6
  go_wp2_with fail
  refine (lfault_any 1 (-1) _).mono ?_
  rintro e w7 ⟨rfl, rfl⟩
  go_wp2_with fail
  go_ret2
  have hb46 : Below w4.heap.size w4 w6 := HB5.out.trans (HB6.out.mono HB5.out.size)
  have hb06 : Below w.heap.size w w6 := (HB3.out.trans (HB4.out.mono HB3.out.size)).trans (hb46.mono (Nat.le_trans HB3.out.size HB4.out.size))
  refine ⟨_, rfl, ?_, hb06.trans ((FrameC.fault_below 1 (-1) w6).mono hb06.size)⟩
  rcases FrameC.fault_is 1 (by decide) (-1) w6 with h | ⟨h0, f', e1, h1, h2⟩
  · exact .inl h
  · exact .inr ⟨h0, f', e1, Nat.le_trans hb06.size h1, h2⟩
end LogP
end Go.Proofs.YtinoghanlokenaaGreatDoor
namespace Go.Proofs.YtinoghanlokenaaGreatDoor
open Go.RowKit Go.Shelf
set_option linter.unusedVariables false
namespace LogP
open LogM FrameM FrameC TextR DiskM DiskC LogC ErrC
attribute [local go_sem] Oper.semAt_some

set_option maxRecDepth 100000 in
set_option maxHeartbeats 4000000 in
theorem from_nil_in (i : Int) (w : World) :
    CallsIn Fence.wide 6 Tryz.prog 30 #[.pointer none, .int .i64 i] w fun e w' => e = .returned (.slice none 0 0) ∧ Below w.heap.size w w' := by
  refine callsIn_of_wp_marks Tryz.func30 rfl trivial ?_ rfl
  simp only [Tryz.ntmps30, List.size_toArray, List.length_cons, List.length_nil, Nat.reduceAdd, Nat.reduceSub, Array.replicate_succ, Array.replicate_zero, List.push_toArray, List.append_toArray, List.nil_append, List.cons_append]
  gi_wp2_with (refine ⟨trivial, ?_⟩; gi_at_call 67; refine (callsIn_wide.2 (walk_any _ _ _)).mono ?_; rintro e w' ⟨rfl, rfl⟩)
  have bO := Boxed.new w 42 (.slice none 0 0)
  obtain ⟨W1, hW1⟩ : ∃ W1, w.alloc (.cells #[.slice none 0 0] 42) = W1 := ⟨_, rfl⟩
  have hs1 : W1.heap.size = w.heap.size + 1 := by rw [← hW1]; simp
  have hB1 : Below w.heap.size w W1 := by rw [← hW1]; exact (Below.refl _ w).alloc (Nat.le_refl _) _
  rw [hW1] at bO ⊢
  obtain ⟨k0, k1, k2, k3⟩ := walkW_facts none i W1
  have bO2 : Boxed (walkW none i W1) w.heap.size 42 (.slice none 0 0) := (k3.block _ bO.lt).trans bO
  have hB2 : Below w.heap.size w (walkW none i W1) := hB1.trans (k3.mono (by omega))
  obtain ⟨W2, hW2⟩ : ∃ W2, walkW none i W1 = W2 := ⟨_, rfl⟩
  rw [hW2] at k0 k1 k2 bO2 hB2 ⊢
  rw [hs1] at k0 k1 k2
  clear k3 hW1 hW2 bO
  refine wpIn_rangeFunc_ownG rfl (by decide) (gf := 90) (lb := #[.pointer (some ⟨(w.heap.size + 1), 0, none⟩), .pointer (some ⟨(w.heap.size + 1) + 1, 0, none⟩)]) rfl trivial (enters_of Tryz.func90 (by kernel_rfl) rfl)
    (walk_stops_nil 5 (by decide) (w.heap.size + 1) ((w.heap.size + 1) + 1) w.heap.size k1) belowK_t (belowK_b (by omega)) (Below.refl _ _) (fun _ => rfl)
    (fun (pre : List (Nat × ByteArray)) W => Boxed W w.heap.size 42 (.slice none 0 0) ∧ Below w.heap.size w W)
    (fun _ _ _ => False)
    (OwnFrom.and (Own.from (boxed_own w.heap.size 42 (fun (_ : List (Nat × ByteArray)) => .slice none 0 0)) _) (ownFrom_below (Nat.le_refl _) (by omega)))
    (fun _ _ _ _ _ hs _ _ => hs)
    ⟨bO2, hB2⟩
    (fun (x : Nat × ByteArray) => { tmps := #[.pointer none, .int .i64 i, undef, undef, .slice none 0 0, .pointer (some ⟨w.heap.size, 0, none⟩), undef, .string x.2, .pointer none, .int .i64 i, walkF (w.heap.size + 1) ((w.heap.size + 1) + 1), .int .i64 (x.1 : Int), .string x.2, undef, undef, undef, undef, undef], defers := [] }) ?assign ?body ?done ?stop
  case assign =>
    intro l x W K hK
    dsimp only [encW]
    gi_wp2
    exact hK
  case body =>
    rintro l pre x W - hlt
    exact absurd hlt (Nat.not_lt_zero _)
  case done =>
    rintro D ys W hD rfl ⟨hv, hB⟩ hK
    have hc := hv.cell
    gi_wp2
    refine ⟨by simp, .inl ⟨_, _, rfl, run_takeDeferred hK, ?_⟩⟩
    exact ⟨_, results_tmp rfl _ _ _, rfl, hB.trans (belowK_b (w := w) (Nat.le_refl _) W D _ _ (by omega) hK rfl rfl)⟩
  case stop =>
    rintro D c pre W _ _ h _
    exact h.elim
theorem from_nil (i : Int) (w : World) :
    Calls Tryz.prog 30 #[.pointer none, .int .i64 i] w fun e w' => e = .returned (.slice none 0 0) ∧ Below w.heap.size w w' := (callsIn_wide (n := 6)).1 (from_nil_in i w)
theorem append_nil (s : ByteArray) (w : World) :
    Calls Tryz.prog 11 #[.pointer none, .string s] w fun e w' => ∃ ev, e = .returned ev ∧ FErr w w' ev 1 (-1) ∧ Below w.heap.size w w' := by
  go_enter Tryz.func11, Tryz.ntmps11
  go_wp2_with fail
  refine (there_nil _).mono ?_
  rintro e w' ⟨rfl, rfl⟩
  go_wp2_with fail
  refine (lfault_any 1 (-1) _).mono ?_
  rintro e w' ⟨rfl, rfl⟩
  go_wp2_with fail
  go_ret
  exact ⟨_, rfl, FrameC.fault_is 1 (by decide) (-1) _, FrameC.fault_below 1 (-1) _⟩
end LogP
end Go.Proofs.YtinoghanlokenaaGreatDoor
