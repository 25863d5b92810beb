/-
  The law EventSames: the walk.
-/
import Derived.Test.YtnkednjklfpblaaGreatDoorEventL
import Derived.Test.YtnkednjklfpblaaGreatDoorEventSameR
import Derived.Test.YtnkednjklfpblaaGreatDoorEventTwin
namespace Go.Proofs.YtnkednjklfpblaaGreatDoor
open Go.RowKit Go.Sort
namespace EvN
open StrC EvF EvC EvA
open VerC (Vw)
set_option linter.unusedSimpArgs false
set_option linter.unusedVariables false

theorem same_at (a b : EvG) (a1 b1 : Option Addr) (c1 d1 : Nat) : sameE (atE a a1 c1) (atE b b1 d1) = sameE a b := rfl
set_option maxHeartbeats 8000000 in
set_option maxRecDepth 100000 in
theorem sames_law (a b : EvG) (w : World) (hv : Vw w) (ht : w.cell? ⟨0, 3, none⟩ = some (.string (str [121, 97, 110, 107]))) (ha : NeIn w a.na a.nc a.needs) (hb : NeIn w b.na b.nc b.needs) :
    Calls Tryz.prog 3 #[evV a, evV b] w fun e w' => e = .returned (.bool true) ∧ Below w.heap.size w w' := by
  have hB2 : Below w.heap.size w ((w.alloc (evO a)).alloc (evO b)) := chW (alW w _) (alW _ _)
  have hs2 : ((w.alloc (evO a)).alloc (evO b)).heap.size = w.heap.size + 2 := by simp
  have hr1 : ((w.alloc (evO a)).alloc (evO b)).heap[w.heap.size]? = some (evO a) := by rw [heap_alloc_old _ _ (by simp)]; exact heap_alloc_new w _
  have hr2 : ((w.alloc (evO a)).alloc (evO b)).heap[w.heap.size + 1]? = some (evO b) := by have := heap_alloc_new (w.alloc (evO a)) (evO b); simpa using this
  have HC : Hid (∀ W, Below (w.heap.size + 2) ((w.alloc (evO a)).alloc (evO b)) W → (W.cell? ⟨w.heap.size, 0, none⟩ = some (.int .u8 (a.k : Nat)) ∧ W.cell? ⟨w.heap.size, 1, none⟩ = some (.string (str a.who)) ∧ W.cell? ⟨w.heap.size, 2, none⟩ = some (.string (str a.name)) ∧ W.cell? ⟨w.heap.size, 3, none⟩ = some (.string (str a.ver)) ∧ W.cell? ⟨w.heap.size, 4, none⟩ = some (.slice a.na a.needs.length a.nc) ∧ W.cell? ⟨w.heap.size, 5, none⟩ = some (.int .u64 (a.sum : Nat)) ∧ W.cell? ⟨w.heap.size, 6, none⟩ = some (.int .u32 (a.n : Nat)) ∧ W.cell? ⟨w.heap.size, 7, none⟩ = some (.int .u32 (a.size : Nat)) ∧ W.cell? ⟨w.heap.size, 8, none⟩ = some (.string (str a.holder)) ∧ W.cell? ⟨w.heap.size, 9, none⟩ = some (.string (str a.note))) ∧ (W.cell? ⟨w.heap.size + 1, 0, none⟩ = some (.int .u8 (b.k : Nat)) ∧ W.cell? ⟨w.heap.size + 1, 1, none⟩ = some (.string (str b.who)) ∧ W.cell? ⟨w.heap.size + 1, 2, none⟩ = some (.string (str b.name)) ∧ W.cell? ⟨w.heap.size + 1, 3, none⟩ = some (.string (str b.ver)) ∧ W.cell? ⟨w.heap.size + 1, 4, none⟩ = some (.slice b.na b.needs.length b.nc) ∧ W.cell? ⟨w.heap.size + 1, 5, none⟩ = some (.int .u64 (b.sum : Nat)) ∧ W.cell? ⟨w.heap.size + 1, 6, none⟩ = some (.int .u32 (b.n : Nat)) ∧ W.cell? ⟨w.heap.size + 1, 7, none⟩ = some (.int .u32 (b.size : Nat)) ∧ W.cell? ⟨w.heap.size + 1, 8, none⟩ = some (.string (str b.holder)) ∧ W.cell? ⟨w.heap.size + 1, 9, none⟩ = some (.string (str b.note)))) := Lib.hid (fun W hw => ⟨ev_cells ((hw.block _ (by omega)).trans hr1), ev_cells ((hw.block _ (by omega)).trans hr2)⟩)
  have HK := Lib.hid (Nat.le_of_eq hs2.symm)
  have HN : Hid (∀ W, Below (w.heap.size + 2) ((w.alloc (evO a)).alloc (evO b)) W → NeIn W a.na a.nc a.needs ∧ NeIn W b.na b.nc b.needs ∧ Vw W ∧ W.cell? ⟨0, 3, none⟩ = some (.string (str [121, 97, 110, 107]))) := Lib.hid (fun W hw => by
    have hb0 : Below w.heap.size w W := hB2.trans (hw.mono (by omega))
    exact ⟨ha.gr hb0, hb.gr hb0, hv.gr hb0, (hb0.cell (World.block_lt_of_cell? _ _ ht)).trans ht⟩)
  have HB0 := Lib.hid hB2
  obtain ⟨⟨p0, p1, p2, p3, p4, p5, p6, p7, p8, p9⟩, q0, q1, q2, q3, q4, q5, q6, q7, q8, q9⟩ := HC.out _ (Below.refl _ _)
  have HBa : Hid (Below (w.heap.size + 2) ((w.alloc (evO a)).alloc (evO b)) ((w.alloc (evO a)).alloc (evO b)).drew) := Lib.hid (VerC.below_drew (Below.refl _ _))
  have HTA : Hid (∀ W, NeIn W a.na a.nc a.needs → Calls Tryz.prog 5 #[evV a] W fun r w' => ∃ a1 c1, r = .returned (evV (atE a a1 c1)) ∧ NeIn w' a1 c1 a.needs ∧ Below W.heap.size W w') := Lib.hid (fun W h => twinE_any a W h)
  have HTB : Hid (∀ W, NeIn W b.na b.nc b.needs → Calls Tryz.prog 5 #[evV b] W fun r w' => ∃ b1 d1, r = .returned (evV (atE b b1 d1)) ∧ NeIn w' b1 d1 b.needs ∧ Below W.heap.size W w') := Lib.hid (fun W h => twinE_any b W h)
  have HPS : Hid (∀ W a1 c1 b1 d1, NeIn W a1 c1 a.needs → NeIn W b1 d1 b.needs → Calls Tryz.prog 4 #[evV (atE a a1 c1), evV (atE b b1 d1)] W fun e w' => e = .returned (.bool (sameE a b)) ∧ Below W.heap.size W w') := Lib.hid (fun W a1 c1 b1 d1 h k => psame_any (atE a a1 c1) (atE b b1 d1) W h k)
  have HRS : Hid (∀ W, NeIn W a.na a.nc a.needs → NeIn W b.na b.nc b.needs → Calls Tryz.prog 6 #[evV a, evV b] W fun e w' => e = .returned (.bool (sameE a b)) ∧ Below W.heap.size W w') := Lib.hid (fun W h k => rsameE_any a b W h k)
  have HAL := Lib.hid alive_any
  generalize sameE a b = sm at *
  clear hB2 hs2 hr1 hr2 ha hb hv ht
  go_enter Tryz.func3, Tryz.ntmps3
  go_wp2_with fail
  go_region_held3 (fun w' => (w'.cell? ⟨w.heap.size, 0, none⟩ = some (.int .u8 (a.k : Nat)) ∧ w'.cell? ⟨w.heap.size, 1, none⟩ = some (.string (str a.who)) ∧ w'.cell? ⟨w.heap.size, 2, none⟩ = some (.string (str a.name)) ∧ w'.cell? ⟨w.heap.size, 3, none⟩ = some (.string (str a.ver)) ∧ w'.cell? ⟨w.heap.size, 4, none⟩ = some (.slice a.na a.needs.length a.nc) ∧ w'.cell? ⟨w.heap.size, 5, none⟩ = some (.int .u64 (a.sum : Nat)) ∧ w'.cell? ⟨w.heap.size, 6, none⟩ = some (.int .u32 (a.n : Nat)) ∧ w'.cell? ⟨w.heap.size, 7, none⟩ = some (.int .u32 (a.size : Nat)) ∧ w'.cell? ⟨w.heap.size, 8, none⟩ = some (.string (str a.holder)) ∧ w'.cell? ⟨w.heap.size, 9, none⟩ = some (.string (str a.note))) ∧ (w'.cell? ⟨w.heap.size + 1, 0, none⟩ = some (.int .u8 (b.k : Nat)) ∧ w'.cell? ⟨w.heap.size + 1, 1, none⟩ = some (.string (str b.who)) ∧ w'.cell? ⟨w.heap.size + 1, 2, none⟩ = some (.string (str b.name)) ∧ w'.cell? ⟨w.heap.size + 1, 3, none⟩ = some (.string (str b.ver)) ∧ w'.cell? ⟨w.heap.size + 1, 4, none⟩ = some (.slice b.na b.needs.length b.nc) ∧ w'.cell? ⟨w.heap.size + 1, 5, none⟩ = some (.int .u64 (b.sum : Nat)) ∧ w'.cell? ⟨w.heap.size + 1, 6, none⟩ = some (.int .u32 (b.n : Nat)) ∧ w'.cell? ⟨w.heap.size + 1, 7, none⟩ = some (.int .u32 (b.size : Nat)) ∧ w'.cell? ⟨w.heap.size + 1, 8, none⟩ = some (.string (str b.holder)) ∧ w'.cell? ⟨w.heap.size + 1, 9, none⟩ = some (.string (str b.note))))
    (first | exact hk6 | exact hk5 | exact hk4 | exact hk3 | exact hk2 | exact ⟨⟨p0, p1, p2, p3, p4, p5, p6, p7, p8, p9⟩, q0, q1, q2, q3, q4, q5, q6, q7, q8, q9⟩ | fail)
    (first
      | (have _ := HB4; go_at_call 6; refine (HRS.out _ (HN.out _ HB4.out).1 (HN.out _ HB4.out).2.1).mono ?_; rintro e w5 ⟨rfl, hb5⟩; have HB5 := Lib.hid (HB4.out.trans (hb5.mono (Nat.le_trans HK.out HB4.out.size))); have hk5 := HC.out _ HB5.out; clear hb5)
      | (have _ := HB3; go_at_call 4; refine (HPS.out _ _ _ _ _ (HNA.out.gr HBT.out) HNB.out).mono ?_; rintro e w4 ⟨rfl, hb4⟩; have HB4 := Lib.hid (HB3.out.trans (hb4.mono (Nat.le_trans HK.out HB3.out.size))); have hk4 := HC.out _ HB4.out; clear hb4)
      | (have _ := HB2; go_at_call 5; refine (HTB.out _ (HN.out _ HB2.out).2.1).mono ?_; rintro e w3 ⟨b1, d1, rfl, hnb, hb3⟩; have HNB := Lib.hid hnb; have HBT := Lib.hid hb3; have HB3 := Lib.hid (HB2.out.trans (hb3.mono (Nat.le_trans HK.out HB2.out.size))); have hk3 := HC.out _ HB3.out; clear hb3 hnb)
      | (go_at_call 5; refine (HTA.out _ (HN.out _ HBa.out).1).mono ?_; rintro e w2 ⟨a1, c1, rfl, hna, hb2⟩; have HNA := Lib.hid hna; have HB2 := Lib.hid (HBa.out.trans (hb2.mono (Nat.le_trans HK.out HBa.out.size))); have hk2 := HC.out _ HB2.out; clear hb2 hna)
      | (have _ := HB5; go_at_call 7; refine (HAL.out _ (HN.out _ HB5.out).2.2.1 (HN.out _ HB5.out).2.2.2).mono ?_; rintro e w6 ⟨rfl, hb6⟩; have HB6 := Lib.hid (HB5.out.trans (hb6.mono (Nat.le_trans HK.out HB5.out.size))); have hk6 := HC.out _ HB6.out; clear hb6)
      | fail)
  all_goals (go_wp2_with fail)
  all_goals go_ret
  all_goals exact ⟨rfl, HB0.out.trans (HB6.out.mono (by omega))⟩
end EvN
end Go.Proofs.YtnkednjklfpblaaGreatDoor
