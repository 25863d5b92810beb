/-
  Package span's own: the same version with a list of its own.
-/
import Derived.Test.YtapikdgncdcneaaGreatDoorSpanP
import Derived.Test.YtapikdgncdcneaaGreatDoorVerRef5
import Derived.Laws.AppendOwnNone
namespace Go.Proofs.YtapikdgncdcneaaGreatDoor
open Go.RowKit
namespace SpanC
open VerM SpanM StrC TextR VerC
set_option linter.unusedSimpArgs false

theorem own_kind {w : World} {B : Nat} {a : Option Addr} {n c : Nat} {l : List ByteArray} (h : OwnT w B (.slice a n c) l) : (∀ b f, a = some ⟨b, f, none⟩ → B ≤ b ∧ IsText w b) ∧ (a = none → n = 0 ∧ c = 0) := by
  rcases h.2 with ⟨h0, h1⟩ | ⟨g, cp, cur, e1, hg0, hblk, _⟩
  · injection h0 with h0 h2 h3
    exact ⟨fun b f e => (by rw [h0] at e; cases e), fun _ => ⟨h2, h3⟩⟩
  · injection e1 with e1 _ _
    exact ⟨fun b f e => (by rw [e1] at e; cases e; exact ⟨hg0, _, _, hblk⟩), fun e => (by rw [e1] at e; cases e)⟩
/-- the same version in memory of its own -/
def OwnE (y : EdR) (w : World) (e : Ending) (w' : World) : Prop := ∃ a' c', e = .returned (verV y.v.a y.v.b y.v.c a' y.v.pre.length c') ∧ EdOk w' ⟨y.v, a', c', y.s⟩ ∧ (∀ b f, a' = some ⟨b, f, none⟩ → w.heap.size ≤ b) ∧ Below w.heap.size w w'
theorem info_str : (Tryz.prog.info? 9).map (fun i => (i.zero, i.size, i.bytes)) = some (some (.string ⟨#[]⟩), 1, 16) := by kernel_rfl
/-- texts stay where a cell of a version's variable is written -/
theorem txs_set {w : World} {a : Option Addr} {cap : Nat} {p : TL} (h : Txs w a cap p) {g : Nat} {x y z : Int} {a2 : Option Addr} {n c2 : Nat} (hg : w.heap[g]? = some (verO x y z a2 n c2)) (i : Nat) (u : Value) : Txs (w.setCell ⟨g, i, none⟩ u) a cap p := by
  refine ⟨h.cap, h.short, h.few, fun h0 => ?_⟩
  obtain ⟨b, o, e, hcell⟩ := h.cells h0
  refine ⟨b, o, e, fun j hj => ?_⟩
  have hci := hcell j hj
  have hbc : b ≠ g := fun e => by rw [e] at hci; exact ver_no_text hg _ _ hci
  rw [World.cell?_setCell_far _ _ _ _ (Ne.symm hbc)]
  exact hci
set_option maxHeartbeats 4000000 in
set_option maxRecDepth 100000 in
theorem pown_any (y : EdR) (w : World) (hY : EdOk w y) :
    Calls Tryz.prog 64 #[verV y.v.a y.v.b y.v.c y.a y.v.pre.length y.c] w (OwnE y w) := by
  obtain ⟨i0, hi, hz0, hz1, hz2⟩ := info_parts info_str
  have HWF := Lib.hid hY.wf
  have HSZ : Hid (y.v.pre.length ≤ 8) := Lib.hid (may_parts hY.wf.1).2.2.2.1
  have HTT := Lib.hid hY.txs
  have HNI := Lib.hid hY.nil
  clear hY
  obtain ⟨⟨na, nb, nc, p⟩, a, cap, sd⟩ := y
  dsimp only at *
  have hnew := heap_alloc_new w (verO na nb nc a p.length cap)
  have hB0 : Below w.heap.size w (w.alloc (verO na nb nc a p.length cap)) := (Below.refl _ w).alloc (Nat.le_refl _) _
  have hs1 : (w.alloc (verO na nb nc a p.length cap)).heap.size = w.heap.size + 1 := by simp
  have HT1 := Lib.hid (HTT.out.alloc (verO na nb nc a p.length cap))
  have HB0 := Lib.hid hB0
  have HS : Hid (p.length ≤ 8) := HSZ
  have HNEW := Lib.hid hnew
  have HS1 := Lib.hid hs1
  cases a with
  | none =>
    obtain ⟨hp, hc⟩ := HNI.out rfl
    have hpe : p = [] := List.length_eq_zero_iff.1 hp
    subst hpe
    subst hc
    clear HTT hnew hB0 hs1 hp
    go_enter Tryz.func64, Tryz.ntmps64
    go_wp2_with (at_builtin; refine wpList_append_own_none rfl _ _ 34 rfl w.heap.size 9 i0 1 Tryz.underlying34 hi _ _ _ rfl (World.ownsRow_nil _ _ _ _) rfl ?_)
    have hr2 := heap_alloc_new (w.alloc (verO na nb nc none 0 0)) (verO na nb nc none 0 0)
    rw [show (w.alloc (verO na nb nc none 0 0)).heap.size = w.heap.size + 1 from HS1.out] at hr2
    refine bodyPost_ret (results_cell1 rfl _ _ (w.heap.size + 1) _ _ _ _ rfl hr2 Tryz.underlying36 rfl info_ver) rfl ?_
    exact ⟨none, 0, rfl, ⟨HWF.out, Txs.nil _ _ _, fun b f e => (by cases e), fun _ => ⟨rfl, rfl⟩⟩, fun b f e => (by cases e), HB0.out.alloc HB0.out.size _⟩
  | some ad =>
    have HTX := HTT
    have hr1 := (heap_alloc_old (w.alloc (verO na nb nc (some ad) p.length cap)) (verO 0 0 0 none 0 0) (r := w.heap.size) (by rw [hs1]; omega)).trans hnew
    have hn1 := heap_alloc_new (w.alloc (verO na nb nc (some ad) p.length cap)) (verO 0 0 0 none 0 0)
    rw [hs1] at hn1
    have HB1 := Lib.hid (hB0.alloc hB0.size (verO 0 0 0 none 0 0))
    have HT2 := Lib.hid (HT1.out.alloc (verO 0 0 0 none 0 0))
    have hs2 : ((w.alloc (verO na nb nc (some ad) p.length cap)).alloc (verO 0 0 0 none 0 0)).heap.size = w.heap.size + 2 := by simp
    clear HTT hnew hB0 hs1 HNEW HS1 HB0 HT1
    go_enter Tryz.func64, Tryz.ntmps64
    go_wp2_with (at_builtin; refine wpList_append_own _ rfl _ _ 34 rfl (w.heap.size + 2) 9 i0 (.string ⟨#[]⟩) 1 16 Tryz.underlying34 hi hz0 hz1 hz2 rfl (by decide) _ _ _ rfl (World.ownsRow_nil _ _ _ _) ad p.length cap ((p.map str).map Value.string) rfl ?c1 ?c2 ?c3 ?c4 ?c5 ?c6 ?_)
    case c1 => simp
    case c2 =>
      intro j u hu
      have hj : j < p.length := by
        have := (List.getElem?_eq_some_iff.1 hu).1
        simpa using this
      obtain ⟨b, o, e, hc⟩ := HT2.out.cells (by omega)
      cases e
      rw [Go.WideShapes.add_plain, hc j hj, ← hu]
      simp [hj]
    case c3 => intro u hu; simp only [List.mem_map] at hu; obtain ⟨s, _, rfl⟩ := hu; rfl
    case c4 => have := HS.out; unfold maxLen; omega
    case c5 => have := HS.out; omega
    case c6 => rw [hs2]; exact Nat.le_refl _
    intro v' w3 hown hg _
    have hB3 : Below w.heap.size w w3 := HB1.out.grown hg (by rw [hs2]; omega) (fun k hk => by cases hk)
    have hr3 : w3.heap[w.heap.size]? = some (verO na nb nc (some ad) p.length cap) := (hg.block w.heap.size (by rw [hs2]; omega) (by simp [Value.ownBlock])).trans hr1
    have hn3 : w3.heap[w.heap.size + 1]? = some (verO 0 0 0 none 0 0) := (hg.block (w.heap.size + 1) (by rw [hs2]; omega) (by simp [Value.ownBlock])).trans hn1
    have hO : OwnT w3 (w.heap.size + 2) v' (p.map str) := by unfold OwnT; simpa using hown
    obtain ⟨a', cap', rfl, hT3⟩ := own_txs hO (fun s hs => HTX.out.short s hs) HTX.out.few
    have hkind := own_kind hO
    have HKI : Hid (∀ b f, a' = some ⟨b, f, none⟩ → IsText w3 b) := Lib.hid (fun b f e => (hkind.1 b f e).2)
    have HGE2 : Hid (∀ b f, a' = some ⟨b, f, none⟩ → w.heap.size + 2 ≤ b) := Lib.hid (fun b f e => (hkind.1 b f e).1)
    have HGE : Hid (∀ b f, a' = some ⟨b, f, none⟩ → w.heap.size ≤ b ∧ b ≠ w.heap.size) := Lib.hid (fun b f e => by have := HGE2.out b f e; omega)
    have HNL : Hid (a' = none → p.length = 0 ∧ cap' = 0) := Lib.hid (fun e => by have := hkind.2 e; simpa using this)
    clear hkind
    have HB3 := Lib.hid hB3
    have HT3 := Lib.hid hT3
    clear hown hg hO hT3 hB3 hr1 hn1 HB1 HT2 hs2 HTX
    obtain ⟨q0, q1, q2, q3⟩ := ver_cells hr3
    have f3 := ver_frozen hr3 3
    have hr4 : (w3.setCell ⟨w.heap.size, 3, none⟩ (.slice a' p.length cap')).heap[w.heap.size]? = some (verO na nb nc a' p.length cap') := setCell_row hr3 3 _
    have hn4 : (w3.setCell ⟨w.heap.size, 3, none⟩ (.slice a' p.length cap')).heap[w.heap.size + 1]? = some (verO 0 0 0 none 0 0) := (setCell_else 3 _ (by omega)).trans hn3
    have HB4 : Hid (Below w.heap.size w (w3.setCell ⟨w.heap.size, 3, none⟩ (.slice a' p.length cap'))) := Lib.hid (HB3.out.setCell (show w.heap.size ≤ (⟨w.heap.size, 3, none⟩ : Addr).block from Nat.le_refl _) _)
    have HT4 := Lib.hid (txs_set HT3.out hr3 3 (.slice a' p.length cap'))
    clear HB3 HT3 hn3
    go_wp2_with (first
      | (refine wpList_load_row rfl 36 _ rfl w.heap.size rfl _ _ _ _ hr4 Tryz.underlying36 rfl info_ver ?_)
      | (refine wpList_store_row rfl 36 _ _ rfl (w.heap.size + 1) #[.int .u32 na, .int .u32 nb, .int .u32 nc, .slice a' p.length cap'] rfl rfl _ _ hn4 info_ver rfl (ver_one _ _ _ _ _ _) ?_))
    refine bodyPost_ret (results_cell1 rfl _ _ (w.heap.size + 1) _ _ _ _ rfl (setRow_heap _ _ _ _ _ _ hn4) Tryz.underlying36 rfl info_ver) rfl ?_
    refine ⟨a', cap', rfl, ⟨HWF.out, HT4.out.setRow hn4 _, fun b f e => ?_, HNL.out⟩, fun b f e => (HGE.out b f e).1, below_setRow HB4.out (by omega) _⟩
    exact IsText.of (IsText.of (HKI.out b f e) (setCell_else 3 (.slice a' p.length cap') (HGE.out b f e).2)) (Go.setRow_other _ _ _ _ (by have := HGE2.out b f e; omega))
end SpanC
end Go.Proofs.YtapikdgncdcneaaGreatDoor
