/-
  Package version's Is, Cmp, Order: one contract a function.
-/
import Derived.Test.YtnkednjklfpblaaGreatDoorVerCmp
namespace Go.Proofs.YtnkednjklfpblaaGreatDoor
open Go.RowKit
namespace VerC
open VerM StrC TextR
set_option linter.unusedSimpArgs false

theorem readE_ret {l : B} {w : World} {e : Ending} (h : ReadE l w e) : ∃ x, e = .returned x := by
  unfold ReadE at h
  split at h
  · obtain ⟨a, cap, he, _⟩ := h; exact ⟨_, he⟩
  · exact ⟨_, h⟩
/-- package version's Read, its value by name -/
theorem pRead_val (l : B) (w : World) (hv : Vw w) :
    Calls Tryz.prog 87 #[.string (str l)] w fun e w' => ∃ x, e = .returned x ∧ ReadE l w' (.returned x) ∧ Below w.heap.size w w' :=
  (pRead_any l w hv).mono fun e w' ⟨he, hb⟩ => by
    obtain ⟨x, rfl⟩ := readE_ret he
    exact ⟨x, rfl, he, hb⟩
set_option maxHeartbeats 1000000 in
theorem pIs_any (l : B) (w : World) (hv : Vw w) :
    Calls Tryz.prog 65 #[.string (str l)] w fun e w' => e = .returned (.bool (isT l)) ∧ Below w.heap.size w w' := by
  have HR := Lib.hid (pRead_val l w hv)
  clear hv
  go_enter Tryz.func65, Tryz.ntmps65
  go_wp2_with (go_at_call 87; refine HR.out.mono ?_; rintro e w2 ⟨x2, rfl, he, hb⟩; refine Hid.out ?_)
  refine Lib.hid ?_
  have HB := Lib.hid hb
  have HS := Lib.hid hb.size
  clear hb
  rcases readE_cases he with ⟨v, a, cap, hv, rfl, hT⟩ | ⟨hv, rfl⟩
  · have HI := Lib.hid (isT_of hv)
    clear hv hT he
    go_wp2_with fail
    go_ret
    exact ⟨by rw [HI.out]; rfl, HB.out.alloc HS.out _⟩
  · have HI := Lib.hid (isT_no hv)
    clear hv he
    go_wp2_with fail
    go_ret
    exact ⟨by rw [HI.out]; rfl, HB.out.alloc HS.out _⟩
/-- how Order ends -/
def ordE (a b : B) : Ending := match readB a, readB b with | some v, some u => .returned (.tuple #[.int .i64 (cmpV v u), .int .i64 0]) | _, _ => .returned (.tuple #[.int .i64 0, .int .i64 70])
theorem ordE_some {a b : B} {v u : Ver} (h1 : readB a = some v) (h2 : readB b = some u) : ordE a b = .returned (.tuple #[.int .i64 (cmpV v u), .int .i64 0]) := by unfold ordE; rw [h1, h2]
theorem ordE_none1 {a b : B} (h1 : readB a = none) : ordE a b = .returned (.tuple #[.int .i64 0, .int .i64 70]) := by unfold ordE; rw [h1]
theorem ordE_none2 {a b : B} (h2 : readB b = none) : ordE a b = .returned (.tuple #[.int .i64 0, .int .i64 70]) := by unfold ordE; rw [h2]; split <;> simp_all
end VerC
end Go.Proofs.YtnkednjklfpblaaGreatDoor
