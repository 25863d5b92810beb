/-
  The statement of records put together and cut off anywhere, where there is none; and the list's texts as lists of bytes.
-/
import Derived.Test.YtpmbokklpidohaaDoorFrameTorn
import Derived.Test.YtpmbokklpidohaaDoorTextsAt
namespace Go.Proofs.YtpmbokklpidohaaDoor
open Go.RowKit
namespace FrameC
open FrameM TextR ErrC
open SumM (and_low24)

theorem all_empty (w : World) : Calls Tryd.prog 16 #[.string ⟨#[]⟩] w fun e w' => ∃ v, e = .returned (.tuple #[v, .int .i64 0, .nilIface]) ∧ OwnT w' w.heap.size v [] ∧ Below w.heap.size w w' := by
  refine (all_any [] w (by decide)).mono ?_
  rintro e w' ⟨v, ev, rfl, ho, he, hb⟩
  rw [all_nil] at ho he ⊢
  obtain rfl := he.nil
  exact ⟨v, rfl, ho, hb⟩

set_option maxHeartbeats 4000000 in
set_option maxRecDepth 100000 in
theorem torn_none (a : Option Addr) (cap : Nat) (cut : Int) (w : World) (hv : Vars w) :
    Calls Tryd.prog 6 #[.slice a 0 cap, .int .i64 cut] w fun e w' => e = .returned (.bool true) ∧ Below w.heap.size w w' := by
  have HV := Lib.hid hv; clear hv
  obtain ⟨q, hq⟩ : ∃ q : Nat, cut % 16777216 = (q : Int) ∧ q < 16777216 := ⟨(cut % 16777216).toNat, by omega, by omega⟩
  have hq2 : bits .and .i64 cut 16777215 = (q : Int) := by rw [and_low24]; exact hq.1
  have hq3 := hq.2
  have hmod : (q : Int) % 1 = 0 := by omega
  clear hq
  go_enter Tryd.func6, Tryd.ntmps6
  go_wp2_with fail
  refine wp_loop_rounds 1 ?_; rw [rounds_succ]; go_wp2_with fail
  refine wp_loop_rounds 1 ?_; rw [rounds_succ]; go_wp2_with fail
  refine (all_empty _).mono ?_
  rintro e w1 ⟨v, rfl, ho, hb⟩
  obtain ⟨a1, cp1, rfl, -⟩ := ho.open_
  have HB1 := Lib.hid hb; clear hb ho
  go_wp2_with fail
  refine wp_loop_rounds 1 ?_; rw [rounds_succ]; go_wp2_with fail
  refine (alive_any _ (HV.out.below HB1.out)).mono ?_
  rintro e w2 ⟨rfl, hb⟩
  have HB2 := Lib.hid (HB1.out.trans (hb.mono HB1.out.size)); clear hb
  go_wp2_with fail
  go_ret
  exact ⟨rfl, HB2.out⟩

theorem torn_list (zs : List ByteArray) (b o len cap : Nat) (cut : Int) (w : World) (hl : len ≤ zs.length) (hm : len ≤ 9223372036854775807) (hb : b < w.heap.size)
    (hc : ∀ i, i < len → w.cell? ⟨b, o + i, none⟩ = some (.string (zs.getD i ByteArray.empty))) (hs : ∀ i, i < len → (zs.getD i ByteArray.empty).size ≤ maxLen) (hv : Vars w) :
    Calls Tryd.prog 6 #[.slice (some ⟨b, o, none⟩) len cap, .int .i64 cut] w fun e w' => e = .returned (.bool true) ∧ Below w.heap.size w w' := by
  have hlen : ((zs.take len).map fun s => s.data.toList).length = len := by rw [List.length_map, List.length_take]; omega
  have hget : ∀ i (h : i < ((zs.take len).map fun s => s.data.toList).length), ((zs.take len).map fun s => s.data.toList)[i] = (zs.getD i ByteArray.empty).data.toList := by
    intro i h
    have h2 : i < zs.length := by omega
    simp [h2]
  have h := torn_some ((zs.take len).map fun s => s.data.toList) b o cap cut w (by omega) hb (fun i hi => by rw [hget i hi, ← str_of]; exact hc i (by omega)) (fun p hp => by
    obtain ⟨i, hi, rfl⟩ := List.getElem_of_mem hp
    rw [hget i hi]
    have h1 := hs i (by omega)
    have h2 : (zs.getD i ByteArray.empty).data.toList.length = (zs.getD i ByteArray.empty).size := by simp
    unfold maxLen at h1
    omega) hv
  rw [hlen] at h
  exact h
end FrameC
end Go.Proofs.YtpmbokklpidohaaDoor
