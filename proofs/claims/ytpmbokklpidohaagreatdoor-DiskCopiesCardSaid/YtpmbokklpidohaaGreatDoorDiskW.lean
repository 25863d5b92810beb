/-
  Package disk's powered: a call's raw writes, and the power that is lost in them.
-/
import Derived.Test.YtpmbokklpidohaaGreatDoorDiskA
import Derived.Defers
import Derived.Recover
namespace Go.Proofs.YtpmbokklpidohaaGreatDoor
open Go.RowKit Go.Maps
namespace DiskP
open DiskM DiskC ErrC

set_option maxHeartbeats 1000000 in
set_option maxRecDepth 100000 in
/-- the deferred closure of a call that returns -/
theorem caught_idle (p r : Addr) (w : World) :
    CallsD Tryz.prog 62 #[.pointer (some p), .pointer (some r)] .returning w fun e u' w' => e = .returned (.tuple #[]) ∧ u' = .returning ∧ w' = w := by
  refine callsD_of_wpS Tryz.func62 rfl fun c₀ cs hu => ?_
  apply wpS_seq
  apply wpS_region
  simp [wpOpsS, go_sem, recoverD, hu, Tryz.ntmps62, Exit.thenS]
  refine wpS_of_wp ?_
  go_wp2_with fail
  cases c₀
  simp_all [bodyPostS, results, Tryz.results62]

set_option maxHeartbeats 1000000 in
set_option maxRecDepth 100000 in
/-- .. of a call whose power was lost -/
theorem caught_lost (p r : Addr) (name : ByteArray) (old : Value) (w : World) (h0 : w.cell? p = some (.string name)) (h1 : w.cell? r = some old) (hf : w.frozen? r = false) :
    CallsD Tryz.prog 62 #[.pointer (some p), .pointer (some r)] (.panicking LOST) w fun e u' w' => e = .returned (.tuple #[]) ∧ u' = .panicking [{ v := .iface 96 (.agg #[]), recovered := true }] ∧
      w' = (faultW 5 name (w.alloc (.cells #[] 96))).setCell r (.iface 88 (.pointer (some ⟨w.heap.size + 1, 0, none⟩))) := by
  unfold LOST
  have hta : ∀ w : World, (Instr.typeAssert (.iface 96 (.agg #[])) 20 96 true).run Tryz.prog w = .ok (.tuple #[.agg #[], .bool true]) w := fun w => by kernel_rfl
  refine callsD_of_wpS Tryz.func62 rfl fun c₀ cs hu => ?_
  apply wpS_seq
  apply wpS_region
  simp [wpOpsS, go_sem, recoverD, hu, Tryz.ntmps62, Exit.thenS]
  refine wpS_of_wp ?_
  rw [show (#[Value.pointer (some p), .pointer (some r)] ++ (Array.replicate 11 undef).setIfInBounds 3 (.iface 96 (.agg #[])) : Array Value) = #[.pointer (some p), .pointer (some r), undef, undef, undef, .iface 96 (.agg #[]), undef, undef, undef, undef, undef, undef, undef] from rfl]
  have hp : p.block < w.heap.size := World.block_lt_of_cell? _ _ h0
  have hr : r.block < w.heap.size := World.block_lt_of_cell? _ _ h1
  have k0 : (w.alloc (.cells #[] 96)).cell? p = some (.string name) := (World.cell?_alloc_lt w _ p hp).trans h0
  have k1 : (faultW 5 name (w.alloc (.cells #[] 96))).cell? r = some old := by unfold faultW; exact (World.cell?_alloc_lt _ _ r (by simp; omega)).trans ((World.cell?_alloc_lt w _ r hr).trans h1)
  have kf : (faultW 5 name (w.alloc (.cells #[] 96))).frozen? r = false := by unfold faultW; rw [World.frozen?_of_block (heap_alloc_old _ _ (by simp; omega)), World.frozen?_of_block (heap_alloc_old _ _ hr)]; exact hf
  have hz : (w.alloc (.cells #[] 96)).heap.size = w.heap.size + 1 := by simp
  clear hp hr
  go_wp2_with fail
  refine (fault_any 5 name _).mono ?_
  rintro e w' ⟨rfl, rfl⟩
  generalize hw2 : faultW 5 name (w.alloc (.cells #[] 96)) = w2 at *
  go_wp2_with fail
  subst hw2
  exact ⟨rfl, _, rfl, _, results_none rfl _ _ _, rfl, rfl, rfl⟩

def poweredW (name : ByteArray) (w : World) : World := (w.alloc (.cells #[.string name] 9)).alloc (.cells #[.nilIface] 46)
theorem poweredW_below (name : ByteArray) (w : World) : Below w.heap.size w (poweredW name w) := ((Below.refl _ _).alloc (Nat.le_refl _) _).alloc (by simp) _
theorem poweredW_size (name : ByteArray) (w : World) : (poweredW name w).heap.size = w.heap.size + 2 := by simp [poweredW]
def PowE (B : Nat) (F : Nat → Prop) (b : Nat) (cut : Int) (ok : Bool) (name : ByteArray) (s : DS) (w : World) (e : Ending) (w' : World) : Prop := ∃ ev, e = .returned ev ∧ DErr w w' ev (code5 ok) name ∧ Went B F b cut s w w'
/-- what is written into a block that was made on the way -/
theorem Went.set {B b : Nat} {F : Nat → Prop} {cut : Int} {s : DS} {w w1 w2 w3 : World} (h : Went B F b cut s w1 w2) (hlt : ∀ i, F i → i < w.heap.size) (hB : B ≤ w.heap.size) (h1 : Below w.heap.size w w1) (S : Nat → Prop) (hS : ∀ i, S i → w.heap.size ≤ i ∧ (i < w1.heap.size ∨ w2.heap.size ≤ i)) (k : Keeps S w2 w3) : Went B F b cut s w w3 := by
  obtain ⟨F', m, D, vals, hD, hF⟩ := h.is
  refine ⟨⟨F', m, D, vals, hD.keeps k (fun i hi hs => ?_) (fun i hi => Nat.le_trans hB (hS i hi).1), fun i hi => ?_⟩, ?_⟩
  · obtain ⟨h2, h3⟩ := hS i hs
    rcases hF i hi with h4 | h4
    · have := hlt i h4; omega
    · have := hD.files.lt i hi; omega
  · rcases hF i hi with h4 | h4
    · exact Or.inl h4
    · exact Or.inr (Nat.le_trans h1.size h4)
  · have k1 : Keeps F w w2 := (Keeps.of_below h1).trans h.keeps
    exact k1.then k (fun i hi hs => by have := (hS i hs).1; omega)
set_option maxHeartbeats 2000000 in
set_option maxRecDepth 100000 in
theorem powered_any {B b m : Nat} {F : Nat → Prop} {cut : Int} {s s' : DS} {D : DataW Unit} {vals : ByteArray → Value} {w : World} (hD : Dsk B w b F cut s m D vals) (name : ByteArray) (K : Nat) (cap : Array Value) (ok : Bool) (hK : ∀ w : World, (callFunc K cap).run Tryz.prog w = .ok (.enter K cap) w)
    (hcl : Calls Tryz.prog K cap (poweredW name w) fun e w2 => e = (if ok then .returned (.tuple #[]) else .panicked LOST) ∧ Went B F b cut s' (poweredW name w) w2) :
    Calls Tryz.prog 42 #[.string name, .func (Fn.func K) #[] cap] w (PowE B F b cut ok name s' w) := by
  have hmf : ∀ (fn : Fn) (first cap : Array Value) (w : World), (Instr.makeFunc fn first cap).run Tryz.prog w = .ok (.func fn first cap) w := fun _ _ _ _ => rfl
  have HCL := Lib.hid hcl; clear hcl
  have HLT := Lib.hid hD.files.lt
  have HBW := Lib.hid hD.bw
  clear hD
  have c0 : (poweredW name w).cell? ⟨w.heap.size, 0, none⟩ = some (.string name) := by
    unfold poweredW
    rw [World.cell?_alloc_lt _ _ _ (by simp), World.cell?_alloc_at _ _ _ _ rfl]; rfl
  have c1 : (poweredW name w).cell? ⟨w.heap.size + 1, 0, none⟩ = some .nilIface := by
    unfold poweredW
    rw [World.cell?_alloc_at _ _ _ _ (by simp)]; rfl
  have cf : (poweredW name w).frozen? ⟨w.heap.size + 1, 0, none⟩ = false := by
    unfold poweredW
    simp
  have hkeep : ∀ w2, Keeps F (poweredW name w) w2 → w2.cell? ⟨w.heap.size, 0, none⟩ = some (.string name) ∧ w2.cell? ⟨w.heap.size + 1, 0, none⟩ = some .nilIface ∧ w2.frozen? ⟨w.heap.size + 1, 0, none⟩ = false := by
    intro w2 k
    have hz := poweredW_size name w
    have e0 := k.block w.heap.size (by omega) (fun h => by have := HLT.out _ h; omega)
    have e1 := k.block (w.heap.size + 1) (by omega) (fun h => by have := HLT.out _ h; omega)
    exact ⟨(World.cell?_of_block (a := ⟨w.heap.size, 0, none⟩) e0).trans c0, (World.cell?_of_block (a := ⟨w.heap.size + 1, 0, none⟩) e1).trans c1, (World.frozen?_of_block (a := ⟨w.heap.size + 1, 0, none⟩) e1).trans cf⟩
  have HKEEP := Lib.hid hkeep
  clear hkeep c0 c1 cf
  go_enter_defers Tryz.func42, Tryz.ntmps42
  go_wp2_with fail
  refine HCL.out.mono ?_
  rintro e w2 ⟨rfl, hw⟩
  obtain ⟨d0, d1, df⟩ := HKEEP.out w2 hw.keeps
  have hlt1 : w.heap.size + 1 < w2.heap.size := World.block_lt_of_cell? _ _ d1
  have HW := Lib.hid hw
  clear hw HKEEP HCL
  have hset : ∀ w3, Keeps (fun i => i = w.heap.size + 1) w2 w3 → Went B F b cut s' w w3 := fun w3 k =>
    HW.out.set HLT.out HBW.out (poweredW_below name w) (fun i => i = w.heap.size + 1) (fun i hi => ⟨by omega, Or.inl (by rw [poweredW_size]; omega)⟩) k
  have HSET := Lib.hid hset; clear hset
  cases ok
  · rw [if_neg (by decide)]
    go_wp2_with fail
    refine leaves_cons (f := 62) (args := #[.pointer (some ⟨w.heap.size, 0, none⟩), .pointer (some ⟨w.heap.size + 1, 0, none⟩)]) (by simp) (by simp [go_sem]) ?_
    refine (caught_lost _ _ name .nilIface w2 d0 d1 df).mono ?_
    rintro e u' w3 ⟨rfl, rfl, rfl⟩
    have k1 : (faultW 5 name (w2.alloc (.cells #[] 96))).cell? ⟨w.heap.size + 1, 0, none⟩ = some .nilIface := by unfold faultW; exact (World.cell?_alloc_lt _ _ _ (by simp; omega)).trans ((World.cell?_alloc_lt w2 _ _ hlt1).trans d1)
    refine ⟨.iface 88 (.pointer (some ⟨w2.heap.size + 1, 0, none⟩)), ?_, _, rfl, ?_, HSET.out _ ?_⟩
    · simp [results, Tryz.results42, go_sem, World.cell?_setCell_same _ _ _ k1]
    · refine Or.inr ⟨by decide, w2.heap.size + 1, rfl, by have := HW.out.keeps.size; rw [poweredW_size] at this; omega, ?_⟩
      have hF := fault_is 5 name (w2.alloc (.cells #[] 96))
      rw [show (w2.alloc (.cells #[] 96)).heap.size = w2.heap.size + 1 by simp] at hF
      have ec : ∀ j u, ((faultW 5 name (w2.alloc (.cells #[] 96))).setCell ⟨w.heap.size + 1, 0, none⟩ u).cell? ⟨w2.heap.size + 1, j, none⟩ = (faultW 5 name (w2.alloc (.cells #[] 96))).cell? ⟨w2.heap.size + 1, j, none⟩ := fun j u => World.cell?_setCell_far _ _ _ _ (by simp; omega)
      exact ⟨by rw [ec]; exact hF.code, by rw [ec]; exact hF.what, by rw [ec]; exact hF.at_, by rw [ec]; exact hF.under⟩
    · exact (((Keeps.refl (fun i => i = w.heap.size + 1) w2).alloc _).alloc _).set ⟨w.heap.size + 1, 0, none⟩ rfl _
  · rw [if_pos rfl]
    go_wp2_with fail
    refine leaves_cons (f := 62) (args := #[.pointer (some ⟨w.heap.size, 0, none⟩), .pointer (some ⟨w.heap.size + 1, 0, none⟩)]) (by simp) (by simp [go_sem]) ?_
    refine (caught_idle _ _ _).mono ?_
    rintro e u' w3 ⟨rfl, rfl, rfl⟩
    refine ⟨.nilIface, ?_, _, rfl, Or.inl ⟨rfl, rfl⟩, HSET.out _ ?_⟩
    · simp [results, Tryz.results42, go_sem, World.cell?_setCell_same _ _ _ d1]
    · exact (Keeps.refl (fun i => i = w.heap.size + 1) w2).set ⟨w.heap.size + 1, 0, none⟩ rfl _
end DiskP
end Go.Proofs.YtpmbokklpidohaaGreatDoor
