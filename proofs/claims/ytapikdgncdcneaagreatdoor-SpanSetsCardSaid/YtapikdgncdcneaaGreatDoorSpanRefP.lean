/-
  The document's own answers for layer 7: Least and Next.
  The document's versions, read: their texts are of that kind.
  The document's spans of one bound or two, and what a comparison says.
  The document's spans: up to the next version; what a comparison says.
  The document's spans: what a comparison says.
  The text of a span, read back: its alternatives and comparisons are cut apart where they were joined.
  The document's spans: a text's alternatives, read.
  The document's spans: what an alternative says.
  The document's spans: Read, limit.
  The document's spans: Has, Pick.
  The law SpanPicks walked: the program's Pick is the document's.
  What the shape of memory and the listed variables give of what package version's library calls read; a world that bears the variables that the rows list.
  The document's spans: texts of versions, of intervals; which may be; Text.
  The document's spans: Text, Form, Is; the law SpanReads walked.
-/
import Derived.Test.YtapikdgncdcneaaGreatDoorVerNext
import Derived.StillTailTactics
import Derived.Test.YtapikdgncdcneaaGreatDoorVerRef4
import Derived.Test.YtapikdgncdcneaaGreatDoorSpanRefJ
import Derived.Test.YtapikdgncdcneaaGreatDoorSpanNot
import Derived.Test.YtapikdgncdcneaaGreatDoorSpanText1
import Derived.Test.YtapikdgncdcneaaGreatDoorSpanAns
import Derived.Test.YtapikdgncdcneaaGreatDoorVerRise
import Derived.Test.YtapikdgncdcneaaGreatDoorRows
import Derived.Test.YtapikdgncdcneaaGreatDoorVerWorld
import Derived.LaidLaws
import Derived.LaidHandle
import Derived.Stop.Joined
import Derived.Stop.LaidErr
import Derived.LaidSub
import Derived.Lay
import Derived.MakeChecks
import Derived.Lib.Join
namespace Go.Proofs.YtapikdgncdcneaaGreatDoor
open Go.RowKit
namespace VerC
open VerM StrC TextR
set_option linter.unusedSimpArgs false

end VerC
end Go.Proofs.YtapikdgncdcneaaGreatDoor
namespace Go.Proofs.YtapikdgncdcneaaGreatDoor
open Go.RowKit
namespace VerC
open VerM StrC TextR
set_option linter.unusedSimpArgs false

def KT (w : World) (a : Option Addr) : Prop := ∀ b f, a = some ⟨b, f, none⟩ → IsText w b
def KindE (w : World) (e : Ending) : Prop := ∀ x y z a n cap o, e = .returned (.tuple #[verV x y z a n cap, o]) → KT w a
theorem kindE_none (w : World) {o : Value} : KindE w (.returned (.tuple #[verV 0 0 0 none 0 0, o])) := fun _ _ _ _ _ _ _ h b f e => by
  simp only [Ending.returned.injEq, Value.tuple.injEq, Array.mk.injEq, List.cons.injEq, Value.agg.injEq, Value.slice.injEq] at h
  obtain ⟨⟨-, -, -, ⟨rfl, -⟩, -⟩, -⟩ := h
  cases e
theorem kindE_some {w : World} {x y z : Int} {a : Option Addr} {n cap : Nat} {o : Value} (hk : KT w a) : KindE w (.returned (.tuple #[verV x y z a n cap, o])) := fun _ _ _ _ _ _ _ h b f e => by
  simp only [Ending.returned.injEq, Value.tuple.injEq, Array.mk.injEq, List.cons.injEq, Value.agg.injEq, Value.slice.injEq] at h
  obtain ⟨⟨-, -, -, ⟨rfl, -⟩, -⟩, -⟩ := h
  exact hk b f e
theorem own_kind {w : World} {B : Nat} {a : Option Addr} {n c : Nat} {L : List ByteArray} (h : OwnT w B (.slice a n c) L) : KT w a := by
  intro b f e
  subst e
  rcases h.2 with ⟨h0, _⟩ | ⟨g, cap, cur, e1, _, hb, _⟩
  · cases h0
  · cases e1; exact ⟨_, _, hb⟩
theorem kind_ne {w : World} {g : Nat} {cs : Array Value} {t : TypeId} {fr : Nat × Nat} (h : w.heap[g]? = some (.cells cs t fr)) (ht : t ≠ 9) : ¬ IsText w g := fun ⟨c, f, h2⟩ => by
  rw [h] at h2
  injection h2 with h2
  injection h2 with _ h2 _
  exact ht h2
end VerC
namespace SpanC
open VerM StrC TextR VerC
end SpanC
end Go.Proofs.YtapikdgncdcneaaGreatDoor
namespace Go.Proofs.YtapikdgncdcneaaGreatDoor
open Go.RowKit
namespace SpanC
open VerM SpanM StrC TextR VerC
set_option linter.unusedSimpArgs false
variable {K : Prop}

theorem meet_form (A C : List St) : formM (meets (formM A) (formM C)) = formM (meets A C) := formM_congr fun e => by
  rw [inL_meets, inL_meets, (formM_is A).2, (formM_is C).2]
theorem meet_one (s t : St) : formM (meets (formM [s]) (formM [t])) = formM [meetS s t] := meet_form [s] [t]
/-- how a call ends that makes a list in its one form -/
def FormE (K : Prop) (l : List St) (w : World) (e : Ending) (w' : World) : Prop := ∃ u R, e = .returned u ∧ RL K w' w.heap.size u R ∧ spanM R = formM l ∧ Below w.heap.size w w'
theorem FormE.base {l : List St} {w w1 w2 : World} {e : Ending} (h : FormE K l w1 e w2) (hb : Below w.heap.size w w1) : FormE K l w e w2 := by
  obtain ⟨u, R, h1, h2, h3, h4⟩ := h
  exact ⟨u, R, h1, h2.base hb.size, h3, hb.trans (h4.mono hb.size)⟩
theorem FormE.congr {l l' : List St} {w w2 : World} {e : Ending} (h : FormE K l w e w2) (hl : formM l = formM l') : FormE K l' w e w2 := by
  obtain ⟨u, R, h1, h2, h3, h4⟩ := h
  exact ⟨u, R, h1, h2, h3.trans hl, h4⟩
theorem iv_new (W : World) (x : IvG) (B : Nat) (hB : B ≤ W.heap.size) : IvRow (W.alloc (gvO x)) B (.slice (some ⟨W.heap.size, 0, none⟩) 1 1) [x] :=
  ⟨by simp, .inr ⟨W.heap.size, 1, (gvL x).toArray, rfl, hB, heap_alloc_new W _, Nat.le_refl _, by unfold maxLen; omega, by simp, by simp⟩⟩
/-- the least version of all -/
def botV : Ver := ⟨0, 0, 0, [nought]⟩
theorem botV_is : allS.f = ⟨botV, 0⟩ := rfl
theorem botV_may : may botV = true := by rfl
set_option maxHeartbeats 2000000 in
set_option maxRecDepth 100000 in
theorem rbottom_any (w : World) : Calls Tryz.prog 58 #[] w fun e w' => ∃ g, e = .returned (verV 0 0 0 (some ⟨g, 0, none⟩) 1 1) ∧ TxQ K w' (some ⟨g, 0, none⟩) 1 [nought] ∧ Below w.heap.size w w' := by
  go_enter Tryz.func58, Tryz.ntmps58
  go_wp2_with fail
  have hr1 := (heap_alloc_old (w.alloc (verO 0 0 0 (some ⟨w.heap.size + 1, 0, none⟩) 1 1)) (.cells #[.string ⟨#[48]⟩] 9) (r := w.heap.size) (by simp)).trans (heap_alloc_new w (verO 0 0 0 (some ⟨w.heap.size + 1, 0, none⟩) 1 1))
  have hc2 := heap_alloc_new (w.alloc (verO 0 0 0 (some ⟨w.heap.size + 1, 0, none⟩) 1 1)) (.cells #[.string ⟨#[48]⟩] 9)
  rw [show (w.alloc (verO 0 0 0 (some ⟨w.heap.size + 1, 0, none⟩) 1 1)).heap.size = w.heap.size + 1 from by simp] at hc2
  have HB := Lib.hid (((Below.refl _ w).alloc (Nat.le_refl _) (verO 0 0 0 (some ⟨w.heap.size + 1, 0, none⟩) 1 1)).alloc (by simp) (.cells #[.string ⟨#[48]⟩] 9))
  refine bodyPost_ret (results_cell1 rfl _ _ w.heap.size _ _ _ _ rfl hr1 Tryz.underlying36 rfl info_ver) rfl ?_
  refine ⟨w.heap.size + 1, rfl, ⟨⟨Nat.le_refl _, fun s hs => ?_, by simp, fun _ => ⟨w.heap.size + 1, 0, rfl, fun i hi => ?_⟩⟩, fun _ b f e => (by cases e; exact ⟨_, _, hc2⟩)⟩, HB.out⟩
  · rw [List.mem_singleton] at hs; rw [hs]; decide
  · have : i = 0 := by simp at hi; omega
    subst this
    unfold World.cell?
    rw [show (⟨w.heap.size + 1, 0 + 0, none⟩ : Addr).block = w.heap.size + 1 from rfl, hc2]
    rfl
theorem zero_right {v : Ver} (hm : may v = true) (a : Option Addr) (c : Nat) (o : Bool) : rightB ⟨v, a, c, o, ⟨0, 0, 0, []⟩, none, 0, false, true⟩ = true := by
  unfold rightB
  dsimp only
  rw [hm]
  rfl
theorem all_one {f : Ed} (hf : f.s ≤ 1) : SpanM.Can [(⟨f, allS.t⟩ : St)] := by
  refine ⟨fun x hx => ?_, List.pairwise_singleton _ _⟩
  rw [List.mem_singleton.1 hx]
  show cE f allS.t < 0
  have := cE_in_end (v := f.v) hf
  show cE ⟨f.v, f.s⟩ ⟨zeroV, 2⟩ < 0
  omega
set_option maxHeartbeats 2000000 in
set_option maxRecDepth 100000 in
theorem rabove_any (v : Ver) (a : Option Addr) (c : Nat) (o : Bool) (w : World) (hT : TxQ K w a c v.pre) (hm : may v = true) :
    Calls Tryz.prog 46 #[verV v.a v.b v.c a v.pre.length c, .bool o] w (FormE K [⟨⟨v, sideF o⟩, allS.t⟩] w) := by
  have hB0 : Below w.heap.size w (w.alloc (verO v.a v.b v.c a v.pre.length c)) := (Below.refl _ w).alloc (Nat.le_refl _) _
  have HT := Lib.hid (hT.gr hB0)
  have HB0 := Lib.hid hB0
  have HF : Hid (∀ W, Below w.heap.size w W → TxQ K W a c v.pre → FormE K [⟨⟨v, sideF o⟩, allS.t⟩] w (.returned (.slice (some ⟨W.heap.size, 0, none⟩) 1 1)) (W.alloc (gvO ⟨v, a, c, o, ⟨0, 0, 0, []⟩, none, 0, false, true⟩))) := Lib.hid (fun W hb ht => by
    refine ⟨_, [⟨v, a, c, o, ⟨0, 0, 0, []⟩, none, 0, false, true⟩], rfl, ⟨iv_new W _ _ hb.size, fun x hx => ?_, fun x hx => ?_⟩, ?_, hb.alloc hb.size _⟩
    · rw [List.mem_singleton.1 hx]
      exact ⟨ht.gr ((Below.refl _ W).alloc (Nat.le_refl _) _), TxQ.nil _ _⟩
    · rw [List.mem_singleton.1 hx]
      exact zero_right hm a c o
    · rw [formM_of (all_one (f := ⟨v, sideF o⟩) (by show sideF o ≤ 1; cases o <;> decide))]
      rfl)
  generalize FormE K [⟨⟨v, sideF o⟩, allS.t⟩] w = FE at *
  obtain ⟨q0, q1, q2, q3⟩ := ver_cells (heap_alloc_new w (verO v.a v.b v.c a v.pre.length c))
  clear hT hm hB0
  go_enter Tryz.func46, Tryz.ntmps46
  go_wp2_with fail
  have h := HF.out _ HB0.out HT.out
  simp only [World.size_alloc] at h
  exact h
set_option maxHeartbeats 2000000 in
set_option maxRecDepth 100000 in
theorem revery_any (w : World) : Calls Tryz.prog 44 #[] w (FormE K [allS] w) := by
  have HF : Hid (∀ W g, Below w.heap.size w W → TxQ K W (some ⟨g, 0, none⟩) 1 [nought] → FormE K [allS] w (.returned (.slice (some ⟨W.heap.size, 0, none⟩) 1 1)) (W.alloc (gvO ⟨botV, some ⟨g, 0, none⟩, 1, false, ⟨0, 0, 0, []⟩, none, 0, false, true⟩))) := Lib.hid (fun W g hb ht => by
    refine ⟨_, [⟨botV, some ⟨g, 0, none⟩, 1, false, ⟨0, 0, 0, []⟩, none, 0, false, true⟩], rfl, ⟨iv_new W _ _ hb.size, fun x hx => ?_, fun x hx => ?_⟩, ?_, hb.alloc hb.size _⟩
    · rw [List.mem_singleton.1 hx]
      exact ⟨ht.gr ((Below.refl _ W).alloc (Nat.le_refl _) _), TxQ.nil _ _⟩
    · rw [List.mem_singleton.1 hx]
      exact zero_right botV_may _ _ _
    · rw [formM_of (all_one (f := allS.f) (by decide))]
      rfl)
  generalize FormE K [allS] w = FE at *
  go_enter Tryz.func44, Tryz.ntmps44
  go_wp2_with (go_at_call 58; refine (rbottom_any (K := K) _).mono ?_; rintro e w2 ⟨g, rfl, hT, hb⟩; have HT := Lib.hid hT; have HB := Lib.hid hb; clear hT hb)
  exact HF.out _ _ HB.out HT.out
theorem join_one (x : IvG) (g : Nat) (w : World) (h : IvRow w 0 (.slice (some ⟨g, 0, none⟩) 1 1) [x]) (hx : TI K w x) (hr : rightB x = true) :
    Calls Tryz.prog 43 #[.slice (some ⟨g, 0, none⟩) 1 1] w (FormE K [(toSt x).st] w) :=
  (rjoin_any (some ⟨g, 0, none⟩) 1 [x] w ⟨h.in_, fun y hy => by rw [List.mem_singleton.1 hy]; exact hx⟩ (fun y hy => by rw [List.mem_singleton.1 hy]; exact hr) (by simp)).mono fun _ _ ⟨u, R, h1, h2, h3, h4⟩ => ⟨u, R, h1, h2, h3, h4⟩
def sideH (o : Bool) : Nat := if o then 0 else 1
set_option maxHeartbeats 4000000 in
set_option maxRecDepth 100000 in
theorem rbelow_any (v : Ver) (a : Option Addr) (c : Nat) (o : Bool) (w : World) (hT : TxQ K w a c v.pre) (hm : may v = true) :
    Calls Tryz.prog 45 #[verV v.a v.b v.c a v.pre.length c, .bool o] w (FormE K [⟨allS.f, ⟨v, sideH o⟩⟩] w) := by
  have hn := heap_alloc_new w (verO v.a v.b v.c a v.pre.length c)
  have hB0 : Below w.heap.size w (w.alloc (verO v.a v.b v.c a v.pre.length c)) := (Below.refl _ w).alloc (Nat.le_refl _) _
  have HT := Lib.hid hT
  have HB0 := Lib.hid hB0
  have HM := Lib.hid hm
  obtain ⟨q0, q1, q2, q3⟩ := ver_cells hn
  clear hT hm hB0
  go_enter Tryz.func45, Tryz.ntmps45
  go_wp2_with fail
  generalize w.alloc (verO v.a v.b v.c a v.pre.length c) = W at *
  have hlt : w.heap.size < W.heap.size := (Array.getElem?_eq_some_iff.1 hn).1
  have HS : Hid (∀ w', Below W.heap.size W w' → w'.cell? ⟨w.heap.size, 0, none⟩ = some (.int .u32 v.a) ∧ w'.cell? ⟨w.heap.size, 1, none⟩ = some (.int .u32 v.b) ∧ w'.cell? ⟨w.heap.size, 2, none⟩ = some (.int .u32 v.c) ∧ w'.cell? ⟨w.heap.size, 3, none⟩ = some (.slice a v.pre.length c)) := Lib.hid (fun w' h => ⟨(h.cell hlt).trans q0, (h.cell hlt).trans q1, (h.cell hlt).trans q2, (h.cell hlt).trans q3⟩)
  have HD1 : Hid (Below W.heap.size W W.drew) := Lib.hid ((Gr.refl W).drew).below
  have HX : Hid (∀ w2 g, Below W.heap.size W w2 → TxQ K w2 (some ⟨g, 0, none⟩) 1 [nought] → TI K (w2.alloc (gvO ⟨botV, some ⟨g, 0, none⟩, 1, false, v, a, c, o, false⟩)) ⟨botV, some ⟨g, 0, none⟩, 1, false, v, a, c, o, false⟩ ∧ rightB ⟨botV, some ⟨g, 0, none⟩, 1, false, v, a, c, o, false⟩ = true) := Lib.hid (fun w2 g hb ht =>
    ⟨⟨ht.gr ((Below.refl _ w2).alloc (Nat.le_refl _) _), (HT.out.gr (HB0.out.trans (hb.mono HB0.out.size))).gr ((Below.refl _ w2).alloc (Nat.le_refl _) _)⟩, by unfold rightB; dsimp only; rw [botV_may, HM.out]; rfl⟩)
  have HST : Hid (∀ g, (toSt ⟨botV, some ⟨g, 0, none⟩, 1, false, v, a, c, o, false⟩).st = ⟨allS.f, ⟨v, sideH o⟩⟩) := Lib.hid (fun g => rfl)
  clear hlt hn
  go_region_held3 (fun w' => w'.cell? ⟨w.heap.size, 0, none⟩ = some (.int .u32 v.a) ∧ w'.cell? ⟨w.heap.size, 1, none⟩ = some (.int .u32 v.b) ∧ w'.cell? ⟨w.heap.size, 2, none⟩ = some (.int .u32 v.c) ∧ w'.cell? ⟨w.heap.size, 3, none⟩ = some (.slice a v.pre.length c))
    (first | exact ⟨q0, q1, q2, q3⟩ | assumption | exact HS.out _ (HB2.out.alloc HB2.out.size _) | exact HS.out _ HB3.out)
    (first
      | (go_at_call 58; refine (rbottom_any (K := K) W.drew).mono ?_; rintro e w2 ⟨g, rfl, hT2, hb2⟩; have HT2 := Lib.hid hT2; have HB2 : Hid (Below W.heap.size W w2) := Lib.hid (HD1.out.trans (hb2.mono HD1.out.size)); have hS2 := HS.out w2 HB2.out; clear hT2 hb2)
      | (go_at_call 43; refine (join_one ⟨botV, some ⟨g, 0, none⟩, 1, false, v, a, c, o, false⟩ w2.heap.size _ (iv_new w2 _ _ (Nat.zero_le _)) (HX.out w2 g HB2.out HT2.out).1 (HX.out w2 g HB2.out HT2.out).2).mono ?_; rintro e w3 ⟨u, R, rfl, hr3, hm3, hb3⟩; have HB3 : Hid (Below W.heap.size W w3) := Lib.hid ((HB2.out.alloc HB2.out.size _).trans (hb3.mono (HB2.out.alloc HB2.out.size _).size)); have HR3 := Lib.hid hr3; have HM3 := Lib.hid hm3; have HBB := Lib.hid hb3; have hS3 := HS.out w3 HB3.out; clear hr3 hm3 hb3))
  all_goals
    clear hS2 hS3
    go_wp2_with fail
    go_ret
    exact ⟨u, R, rfl, HR3.out.base (by have := HB0.out.size; have := HB2.out.size; simp; omega), HM3.out.trans (by rw [HST.out]), HB0.out.trans (HB3.out.mono HB0.out.size)⟩
end SpanC
end Go.Proofs.YtapikdgncdcneaaGreatDoor
namespace Go.Proofs.YtapikdgncdcneaaGreatDoor
open Go.RowKit
namespace SpanC
open VerM SpanM StrC TextR VerC
set_option linter.unusedSimpArgs false
variable {K : Prop}

theorem may_leastD {v : Ver} (h1 : may v = true) : may (leastV v) = true := by
  obtain ⟨a1, a2, a3, -, -⟩ := may_parts h1
  exact may_yes a1 a2 a3 (show ([nought] : TL).length ≤ 8 by decide) (show ([nought] : TL).all ident = true by decide)
theorem meet_ab {v u : Ver} {n k : Nat} (hv : may v = true) (hk : k ≠ 2) : meetS ⟨⟨v, n⟩, allS.t⟩ ⟨allS.f, ⟨u, k⟩⟩ = ⟨⟨v, n⟩, ⟨u, k⟩⟩ := by
  have h1 := all_front hv n
  have h2 := all_back u hk
  have a1 := cE_anti ⟨v, n⟩ allS.f
  have a2 := cE_anti allS.t ⟨u, k⟩
  unfold meetS
  dsimp only
  rw [if_neg (by omega), if_pos (by omega)]
theorem one_len {s : St} {R : List IvG} (h : spanM R = formM [s]) : R.length ≤ 1 := by
  have := formM_len [s]
  rw [← h, spanM_len] at this
  simpa using this
/-- meet of two lists of one stretch at most -/
theorem rmeet_one (s t : St) (u1 u2 : Value) (A C : List IvG) (w : World) (h1 : RL K w 0 u1 A) (h2 : RL K w 0 u2 C) (m1 : spanM A = formM [s]) (m2 : spanM C = formM [t]) :
    Calls Tryz.prog 35 #[u1, u2] w (FormE K [meetS s t] w) := by
  obtain ⟨a1, p1, rfl, r1⟩ := h1.arg
  obtain ⟨a2, p2, rfl, r2⟩ := h2.arg
  refine (rmeet_any a1 p1 A a2 p2 C w r1 r2 h1.ok h2.ok (by have := one_len m1; omega) (by have := one_len m2; omega)).mono fun _ _ ⟨u, R, e, hr, hm, hb⟩ => ⟨u, R, e, hr, ?_, hb⟩
  rw [hm, m1, m2, meet_one]
theorem RL.low {w : World} {B : Nat} {u : Value} {L : List IvG} (h : RL K w B u L) : RL K w 0 u L := h.base (Nat.zero_le _)
theorem cells_at {w w' : World} {g : Nat} {x y z : Int} {a : Option Addr} {n c : Nat} (h : w.heap[g]? = some (verO x y z a n c)) (hb : Below w.heap.size w w') : w'.cell? ⟨g, 0, none⟩ = some (.int .u32 x) ∧ w'.cell? ⟨g, 1, none⟩ = some (.int .u32 y) ∧ w'.cell? ⟨g, 2, none⟩ = some (.int .u32 z) ∧ w'.cell? ⟨g, 3, none⟩ = some (.slice a n c) := ver_cells ((hb.block _ (Array.getElem?_eq_some_iff.1 h).1).trans h)
theorem nextV_may2 {v u : Ver} {k : Int} (hm : may v = true) (h : nextV v k = some u) : may u = true ∧ u.pre = [] := nextV_may hm h
end SpanC
end Go.Proofs.YtapikdgncdcneaaGreatDoor
namespace Go.Proofs.YtapikdgncdcneaaGreatDoor
open Go.RowKit
namespace SpanC
open VerM SpanM StrC TextR VerC
set_option linter.unusedSimpArgs false

/-- how a call ends that may say a stretch -/
def CompE (o : Option St) (w : World) (e : Ending) (w' : World) : Prop := Below w.heap.size w w' ∧ (o = none → e = .returned (.tuple #[.slice none 0 0, .bool false])) ∧
  ∀ st, o = some st → ∃ u R, e = .returned (.tuple #[u, .bool true]) ∧ RL True w' w.heap.size u R ∧ spanM R = formM [st]
theorem CompE.no {w w' : World} (h : Below w.heap.size w w') : CompE none w (.returned (.tuple #[.slice none 0 0, .bool false])) w' := ⟨h, fun _ => rfl, fun st h => (by cases h)⟩
theorem CompE.yes {w w1 w' : World} {u : Value} {st : St} (h : FormE True [st] w1 (.returned u) w') (hb : Below w.heap.size w w1) : CompE (some st) w (.returned (.tuple #[u, .bool true])) w' := by
  obtain ⟨u', R, h1, h2, h3, h4⟩ := h.base hb
  cases h1
  exact ⟨h4, fun h => (by cases h), fun st' h => (by cases h; exact ⟨u, R, rfl, h2, h3⟩)⟩
theorem FormE.val {l : List St} {w w' : World} {e : Ending} (h : FormE True l w e w') : ∃ u, e = .returned u ∧ FormE True l w (.returned u) w' := by
  obtain ⟨u, R, rfl, h2, h3, h4⟩ := h
  exact ⟨u, rfl, u, R, rfl, h2, h3, h4⟩
theorem sgn_at {s : B} {k : Nat} (hk : k ≤ s.length) (h : ∀ c ∈ s.take k, signC.contains c = true) (h2 : k = s.length ∨ signC.contains (s.getD k 0) = false) : sgnB s = s.take k ∧ bodB s = s.drop k := by
  have key : ∀ (x r : B), (∀ c ∈ x, signC.contains c = true) → (r = [] ∨ signC.contains (r.getD 0 0) = false) → sgnB (x ++ r) = x ∧ bodB (x ++ r) = r := by
    intro x r hx hr
    unfold sgnB bodB
    induction x with
    | nil =>
      cases r with
      | nil => exact ⟨rfl, rfl⟩
      | cons c r =>
        rcases hr with h | h
        · cases h
        · have h' : signC.contains c = false := h
          refine ⟨?_, ?_⟩ <;> simp only [List.nil_append, List.takeWhile_cons, List.dropWhile_cons, h'] <;> first | rfl | trivial
    | cons c x ih =>
      have hc := hx c List.mem_cons_self
      obtain ⟨i1, i2⟩ := ih fun d hd => hx d (List.mem_cons_of_mem _ hd)
      refine ⟨?_, ?_⟩ <;> simp only [List.cons_append, List.takeWhile_cons, List.dropWhile_cons, hc, if_true, i1, i2]
  have h3 := key (s.take k) (s.drop k) h (by
    rcases h2 with rfl | h2
    · exact .inl (by simp)
    · refine .inr ?_
      rw [← h2, List.getD_eq_getElem?_getD, List.getD_eq_getElem?_getD, List.getElem?_drop, Nat.add_zero])
  rwa [List.take_append_drop] at h3
theorem sign_five {c : UInt8} (h : signC.contains c = true) : c = 60 ∨ c = 62 ∨ c = 61 ∨ c = 126 ∨ c = 94 := by
  unfold signC at h
  simp only [List.contains_eq_mem, List.mem_cons, List.not_mem_nil, or_false, decide_eq_true_eq] at h
  rcases h with h | h | h | h | h <;> simp [h]
theorem sign_not {c : UInt8} (h : signC.contains c = false) : ((c.toNat : Int) == 60) = false ∧ ((c.toNat : Int) == 62) = false ∧ ((c.toNat : Int) == 61) = false ∧ ((c.toNat : Int) == 126) = false ∧ ((c.toNat : Int) == 94) = false := by
  have key : ∀ d : UInt8, signC.contains d = true → ((c.toNat : Int) == (d.toNat : Int)) = false := fun d hd => beq_eq_false_iff_ne.2 fun e => by
    have : c = d := UInt8.toNat_inj.1 (by omega)
    rw [this, hd] at h; cases h
  exact ⟨key 60 rfl, key 62 rfl, key 61 rfl, key 126 rfl, key 94 rfl⟩
end SpanC
end Go.Proofs.YtapikdgncdcneaaGreatDoor
namespace Go.Proofs.YtapikdgncdcneaaGreatDoor
open Go.RowKit
namespace SpanC
open VerM SpanM StrC TextR VerC
set_option linter.unusedSimpArgs false

theorem occ_or {s : B} {j : Nat} (h : Lib.occAt s orB j = true) : s[j]? = some 32 ∧ s[j + 1]? = some 124 := by
  unfold Lib.occAt at h
  obtain ⟨r, hr⟩ := List.isPrefixOf_iff_prefix.1 h
  have h0 : (s.drop j)[0]? = some 32 := by rw [← hr]; rfl
  have h1 : (s.drop j)[1]? = some 124 := by rw [← hr]; rfl
  rw [List.getElem?_drop] at h0 h1
  exact ⟨by simpa using h0, h1⟩
theorem cut_or (x r : B) (h : ∀ c ∈ x, c ≠ 124) : Lib.cut (x ++ orB ++ r) orB = (x, r, true) := by
  have hi : Lib.index (x ++ orB ++ r) orB = x.length := by
    refine Lib.index_first (by simp) ?_ fun j hj => ?_
    · unfold Lib.occAt
      rw [List.append_assoc, List.drop_left]
      exact List.isPrefixOf_iff_prefix.2 ⟨r, rfl⟩
    · cases ho : Lib.occAt (x ++ orB ++ r) orB j with
      | false => rfl
      | true =>
        obtain ⟨-, h2⟩ := occ_or ho
        rw [List.append_assoc] at h2
        rcases Nat.lt_or_ge (j + 1) x.length with h3 | h3
        · rw [List.getElem?_append_left h3] at h2
          exact absurd rfl (h 124 (List.mem_of_getElem? h2))
        · have e : j + 1 = x.length := by omega
          rw [e, List.getElem?_append_right (Nat.le_refl _), Nat.sub_self] at h2
          cases h2
  unfold Lib.cut
  rw [if_pos (by rw [hi]; omega), hi]
  simp
theorem cut_or_none (x : B) (h : ∀ c ∈ x, c ≠ 124) : Lib.cut x orB = (x, [], false) := by
  have hi : Lib.index x orB = -1 := Lib.index_none fun j _ => by
    cases ho : Lib.occAt x orB j with
    | false => rfl
    | true => exact absurd rfl (h 124 (List.mem_of_getElem? (occ_or ho).2))
  unfold Lib.cut
  rw [if_neg (by rw [hi]; decide)]
theorem parts_or : ∀ (x : B) (r : List B), (∀ t ∈ x :: r, ∀ c ∈ t, c ≠ 124) → partsB orB (Lib.join (x :: r) orB) = x :: r
  | x, [], h => by
    rw [Lib.join_one, partsB_eq (by decide), cut_or_none x (h x List.mem_cons_self)]
    rfl
  | x, y :: r, h => by
    have hj : Lib.join (x :: y :: r) orB = x ++ orB ++ Lib.join (y :: r) orB := by
      rw [Lib.join_cons, Lib.join_cons]
      simp [Lib.joinTail]
    rw [hj, partsB_eq (by decide), cut_or x _ (h x List.mem_cons_self)]
    simp only [if_true]
    rw [parts_or y r fun t ht => h t (List.mem_cons_of_mem _ ht)]
theorem cut_sp (x r : B) (h : ∀ c ∈ x, c ≠ 32) : Lib.cut (x ++ 32 :: r) [32] = (x, r, true) := by
  have hi := index_hit' (d := 32) r h
  unfold Lib.cut
  rw [if_pos (by rw [hi]; omega), hi]
  simp
theorem cut_sp_none (x : B) (h : ∀ c ∈ x, c ≠ 32) : Lib.cut x [32] = (x, [], false) := by
  have hi := index_none' (d := 32) h
  unfold Lib.cut
  rw [if_neg (by rw [hi]; decide)]
theorem parts_one (x : B) (h : ∀ c ∈ x, c ≠ 32) : partsB [32] x = [x] := by
  rw [partsB_eq (by decide), cut_sp_none x h]; rfl
theorem parts_two (x y : B) (hx : ∀ c ∈ x, c ≠ 32) (hy : ∀ c ∈ y, c ≠ 32) : partsB [32] (x ++ 32 :: y) = [x, y] := by
  rw [partsB_eq (by decide), cut_sp x y hx]
  simp only [if_true]
  rw [parts_one y hy]
/-! ### a version's text, read -/
theorem dig_ten {i : Nat} (h : i < 10) : (UInt8.ofNat (48 + i)).toNat = 48 + i := by
  rw [UInt8.toNat_ofNat']
  exact Nat.mod_eq_of_lt (by omega)
/-- a numeral: digits, none padded, that number -/
theorem dec_all (n : Nat) : (Lib.decDigits n).all dig = true ∧ Lib.decDigits n ≠ [] ∧ val (Lib.decDigits n) = n ∧ (0 < n → (Lib.decDigits n).getD 0 0 ≠ 48) := by
  induction n using Nat.strongRecOn with
  | _ n ih =>
    by_cases h : n < 10
    · rw [Lib.decDigits_one h]
      have h2 := dig_ten h
      refine ⟨?_, by simp, ?_, fun h0 e => ?_⟩
      · simp only [List.all_cons, List.all_nil, Bool.and_true, dig, h2, Bool.and_eq_true, decide_eq_true_eq]
        omega
      · show 10 * 0 + ((UInt8.ofNat (48 + n)).toNat - 48) = n
        rw [h2]; omega
      · have : (UInt8.ofNat (48 + n)).toNat = 48 := by
          have e' : UInt8.ofNat (48 + n) = 48 := e
          rw [e']; rfl
        omega
    · obtain ⟨h1, h2, h3, h4⟩ := ih (n / 10) (by omega)
      have hd : n % 10 < 10 := Nat.mod_lt _ (by decide)
      have h5 := dig_ten hd
      rw [Lib.decDigits, dif_neg h]
      refine ⟨?_, by simp, ?_, fun _ => ?_⟩
      · rw [List.all_append, h1, Bool.true_and]
        simp only [List.all_cons, List.all_nil, Bool.and_true, dig, h5, Bool.and_eq_true, decide_eq_true_eq]
        omega
      · rw [val_snoc, h3, h5]; omega
      · have hl : 0 < (Lib.decDigits (n / 10)).length := List.length_pos_iff.2 h2
        rw [List.getD_eq_getElem?_getD, List.getElem?_append_left hl, ← List.getD_eq_getElem?_getD]
        exact h4 (by omega)
theorem dec_pad (n : Nat) : padded (Lib.decDigits n) = false := by
  by_cases h : n < 10
  · rw [Lib.decDigits_one h]; rfl
  · have := (dec_all n).2.2.2 (by omega)
    unfold padded
    rw [Bool.and_eq_false_iff]; right
    rw [decide_eq_false_iff_not]
    intro e
    exact this (UInt8.toNat_inj.1 (by rw [e]; rfl))
theorem numb_of {n : Nat} (h : n ≤ mx) : numb (Lib.decDigits n) = some n := by
  obtain ⟨h1, h2, h3, -⟩ := dec_all n
  unfold numb
  rw [h3, if_pos ⟨by unfold digs; rw [h1]; simpa using h2, dec_pad n, h⟩]
theorem dec_byte {n : Nat} {c : UInt8} (h : c ∈ Lib.decDigits n) : 48 ≤ c.toNat ∧ c.toNat ≤ 57 := by
  have := (List.all_eq_true.1 (dec_all n).1) c h
  unfold dig at this
  simpa using this
theorem pieces_of_join (d : UInt8) : ∀ (x : B) (r : List B), (∀ t ∈ x :: r, ∀ c ∈ t, c ≠ d) → pieces d (Lib.join (x :: r) [d]) = x :: r
  | x, [], h => by rw [Lib.join_one]; exact pieces_none (h x List.mem_cons_self)
  | x, y :: r, h => by
    have hj : Lib.join (x :: y :: r) [d] = x ++ d :: Lib.join (y :: r) [d] := by
      rw [Lib.join_cons, Lib.join_cons]
      simp [Lib.joinTail]
    rw [hj, pieces_hit _ (h x List.mem_cons_self), pieces_of_join d y r fun t ht => h t (List.mem_cons_of_mem _ ht)]
theorem ident_byte {t : B} (h : ident t = true) {c : UInt8} (hc : c ∈ t) : c ≠ 46 ∧ c ≠ 32 ∧ c ≠ 124 := by
  unfold ident at h
  simp only [Bool.and_eq_true] at h
  have := List.all_eq_true.1 h.1.2 c hc
  unfold okI dig at this
  simp only [Bool.or_eq_true, Bool.and_eq_true, decide_eq_true_eq] at this
  refine ⟨fun e => ?_, fun e => ?_, fun e => ?_⟩ <;> subst e <;> simp at this
theorem read_of {v : Ver} (h : textOk v = true) : readB (text v) = some v := by
  unfold textOk at h
  rw [Bool.and_eq_true, decide_eq_true_eq] at h
  obtain ⟨hm, hl⟩ := h
  obtain ⟨a, b, c, p⟩ := v
  have hm' := hm
  unfold may at hm'
  simp only [Bool.and_eq_true, decide_eq_true_eq] at hm'
  obtain ⟨⟨⟨⟨ha, hb⟩, hc⟩, -⟩, hp⟩ := hm'
  have key : ∀ n, ∀ x ∈ Lib.decDigits n, x ≠ 46 ∧ x ≠ 45 := fun n x hx => by
    have := dec_byte hx
    refine ⟨fun e => ?_, fun e => ?_⟩ <;> subst e <;> simp at this
  obtain ⟨X, hX⟩ : ∃ X, Lib.decDigits a ++ 46 :: (Lib.decDigits b ++ 46 :: Lib.decDigits c) = X := ⟨_, rfl⟩
  have hX45 : ∀ x ∈ X, x ≠ 45 := fun x hx => by
    rw [← hX] at hx
    simp only [List.mem_append, List.mem_cons] at hx
    rcases hx with h | h | h | h | h
    · exact (key a x h).2
    · subst h; decide
    · exact (key b x h).2
    · subst h; decide
    · exact (key c x h).2
  have hXp : pieces 46 X = [Lib.decDigits a, Lib.decDigits b, Lib.decDigits c] := by
    rw [← hX, pieces_hit _ (fun x hx => (key a x hx).1), pieces_hit _ (fun x hx => (key b x hx).1), pieces_none (fun x hx => (key c x hx).1)]
  have ht : text ⟨a, b, c, p⟩ = X ++ preL p := by unfold text; rw [← hX]; simp
  have hhi : head (text ⟨a, b, c, p⟩) = X ∧ ids (text ⟨a, b, c, p⟩) = p := by
    rw [ht]
    cases p with
    | nil => simpa [preL] using head_none hX45
    | cons q r =>
      show head (X ++ 45 :: Lib.join (q :: r) [46]) = X ∧ ids (X ++ 45 :: Lib.join (q :: r) [46]) = q :: r
      obtain ⟨e1, e2⟩ := head_hit (Lib.join (q :: r) [46]) hX45
      refine ⟨e1, e2.trans (pieces_of_join 46 q r fun t ht c hc => ?_)⟩
      exact (ident_byte (List.all_eq_true.1 hp t ht) hc).1
  unfold readB
  rw [if_pos hl, hhi.1, hXp]
  show readV _ _ _ (ids _) = _
  rw [hhi.2]
  unfold readV
  rw [numb_of ha, numb_of hb, numb_of hc]
  simp only
  rw [if_pos hm]
/-! ### a stretch's text, read -/
theorem text_bytes {v : Ver} (h : may v = true) : ∀ c ∈ text v, c ≠ 32 ∧ c ≠ 124 := by
  unfold may at h
  simp only [Bool.and_eq_true, decide_eq_true_eq] at h
  have hp := h.2
  have key : ∀ n, ∀ x ∈ Lib.decDigits n, x ≠ 32 ∧ x ≠ 124 := fun n x hx => by
    have := dec_byte hx
    refine ⟨fun e => ?_, fun e => ?_⟩ <;> subst e <;> simp at this
  have hj : ∀ (r : List B), (∀ t ∈ r, ident t = true) → ∀ c ∈ Lib.join r [46], c ≠ 32 ∧ c ≠ 124 := by
    intro r
    induction r with
    | nil => intro _ c hc; rw [Lib.join_nil] at hc; cases hc
    | cons x r ih =>
      intro hr c hc
      cases r with
      | nil =>
        rw [Lib.join_one] at hc
        exact (ident_byte (hr x List.mem_cons_self) hc).2
      | cons y r =>
        have e : Lib.join (x :: y :: r) [46] = x ++ 46 :: Lib.join (y :: r) [46] := by
          rw [Lib.join_cons, Lib.join_cons]
          simp [Lib.joinTail]
        rw [e] at hc
        simp only [List.mem_append, List.mem_cons] at hc
        rcases hc with h | h | h
        · exact (ident_byte (hr x List.mem_cons_self) h).2
        · subst h; decide
        · exact ih (fun t ht => hr t (List.mem_cons_of_mem _ ht)) c h
  intro c hc
  unfold text at hc
  simp only [List.mem_append, List.mem_cons] at hc
  rcases hc with h | h | h | h | h | h
  · exact key _ c h
  · subst h; decide
  · exact key _ c h
  · subst h; decide
  · exact key _ c h
  · unfold preL at h
    split at h
    · cases h
    · rename_i q r e
      rcases List.mem_cons.1 h with h | h
      · subst h; decide
      · exact hj _ (fun t ht => List.all_eq_true.1 hp t ht) c h
theorem text_head (v : Ver) : ∃ c r, text v = c :: r ∧ signC.contains c = false := by
  obtain ⟨h1, h2, -, -⟩ := dec_all v.a
  unfold text
  cases hd : Lib.decDigits v.a with
  | nil => exact absurd hd h2
  | cons c r =>
    refine ⟨c, _, rfl, ?_⟩
    have := dec_byte (n := v.a) (c := c) (by rw [hd]; exact List.mem_cons_self)
    unfold signC
    simp only [List.contains_cons, List.contains_nil, Bool.or_false, Bool.or_eq_false_iff, beq_eq_false_iff_ne]
    refine ⟨?_, ?_, ?_, ?_, ?_⟩ <;> (intro e; subst e; simp at this)
theorem comp_of {g : B} {v : Ver} (hg : ∀ c ∈ g, signC.contains c = true) (h : textOk v = true) : compM (g ++ text v) = signM g v := by
  obtain ⟨c, r, hc, hn⟩ := text_head v
  have e1 : sgnB (g ++ text v) = g := by
    unfold sgnB
    rw [List.takeWhile_append_of_pos hg, hc, List.takeWhile_cons, hn]
    simp
  have e2 : bodB (g ++ text v) = text v := by
    unfold bodB
    rw [List.dropWhile_append_of_pos hg, hc, List.dropWhile_cons, hn]
    simp
  unfold compM
  rw [e1, e2, read_of h]
theorem compared_some {g t : B} {v : Ver} (h : comparedO g v = some t) : textOk v = true ∧ t = g ++ text v := by
  unfold comparedO at h
  split at h
  · rename_i h1; cases h; exact ⟨h1, rfl⟩
  · cases h
theorem ok_may {v : Ver} (h : textOk v = true) : may v = true := by
  unfold textOk at h
  rw [Bool.and_eq_true] at h
  exact h.1
/-- one comparison, alone in its alternative -/
theorem alt_one {g : B} {v : Ver} (h0 : g ≠ []) (hg : ∀ c ∈ g, signC.contains c = true) (h : textOk v = true) : altM (g ++ text v) = (signM g v).map (meetS allS) := by
  obtain ⟨c, r, hc, hn⟩ := text_head v
  have h32 : ∀ x ∈ g ++ text v, x ≠ 32 := fun x hx => by
    rcases List.mem_append.1 hx with hx | hx
    · intro e; subst e; exact absurd (hg 32 hx) (by decide)
    · exact (text_bytes (ok_may h) x hx).1
  cases g with
  | nil => exact absurd rfl h0
  | cons q g' =>
    have hq := hg q List.mem_cons_self
    have n1 : (q :: g') ++ text v ≠ [42] := fun e => by
      rw [List.cons_append] at e
      injection e with e1 _
      subst e1; exact absurd hq (by decide)
    have n2 : (q :: g') ++ text v ≠ [33] := fun e => by
      rw [List.cons_append] at e
      injection e with e1 _
      subst e1; exact absurd hq (by decide)
    unfold altM
    rw [if_neg n1, if_neg n2, parts_one _ h32]
    show accM [q :: g' ++ text v] [0] = _
    unfold accM
    simp only [List.foldl_cons, List.foldl_nil, Option.bind_some]
    rw [if_neg (by decide)]
    show (compM (q :: g' ++ text v)).map (meetS allS) = _
    rw [comp_of hg h]
/-- two comparisons in one alternative -/
theorem alt_two {g k : B} {v u : Ver} (h0 : g ≠ []) (hg : ∀ c ∈ g, signC.contains c = true) (hk : ∀ c ∈ k, signC.contains c = true) (h : textOk v = true) (h2 : textOk u = true) :
    altM (g ++ text v ++ 32 :: (k ++ text u)) = (signM g v).bind fun a => (signM k u).map fun b => meetS (meetS allS a) b := by
  have n32 : ∀ {g : B} {v : Ver}, (∀ c ∈ g, signC.contains c = true) → textOk v = true → ∀ x ∈ g ++ text v, x ≠ 32 := fun {g v} hg h x hx => by
    rcases List.mem_append.1 hx with hx | hx
    · intro e; subst e; exact absurd (hg 32 hx) (by decide)
    · exact (text_bytes (ok_may h) x hx).1
  cases g with
  | nil => exact absurd rfl h0
  | cons q g' =>
    have hq := hg q List.mem_cons_self
    have n1 : (q :: g') ++ text v ++ 32 :: (k ++ text u) ≠ [42] := fun e => by
      rw [List.cons_append, List.cons_append] at e
      injection e with e1 _
      subst e1; exact absurd hq (by decide)
    have n2 : (q :: g') ++ text v ++ 32 :: (k ++ text u) ≠ [33] := fun e => by
      rw [List.cons_append, List.cons_append] at e
      injection e with e1 _
      subst e1; exact absurd hq (by decide)
    unfold altM
    rw [if_neg n1, if_neg n2, parts_two _ _ (n32 hg h) (n32 hk h2)]
    show accM [q :: g' ++ text v, k ++ text u] [0, 1] = _
    unfold accM
    simp only [List.foldl_cons, List.foldl_nil, Option.bind_some]
    rw [if_neg (by decide), if_neg (by decide)]
    show ((compM (q :: g' ++ text v)).map (meetS allS)).bind (fun a => (compM (k ++ text u)).map (meetS a)) = _
    rw [comp_of hg h, comp_of hk h2]
    cases signM (q :: g') v <;> rfl
theorem above_spec {f : Ed} {l : B} (hs : f.s ≤ 1) (h : aboveO f = some l) : (l = [] ∧ f = allS.f) ∨ ∃ g, g ≠ [] ∧ (∀ c ∈ g, signC.contains c = true) ∧ textOk f.v = true ∧ l = g ++ text f.v ∧ signM g f.v = some ⟨f, allS.t⟩ := by
  unfold aboveO at h
  split at h
  · rename_i h0
    cases h
    exact .inl ⟨rfl, cE_zero h0⟩
  · split at h
    · rename_i h1
      obtain ⟨e1, e2⟩ := compared_some h
      refine .inr ⟨[62], by simp, by decide, e1, e2, ?_⟩
      obtain ⟨v, s⟩ := f
      have : s = 1 := h1
      subst this; rfl
    · rename_i h1
      obtain ⟨e1, e2⟩ := compared_some h
      refine .inr ⟨[62, 61], by simp, by decide, e1, e2, ?_⟩
      obtain ⟨v, s⟩ := f
      have h2 : s ≤ 1 := hs
      have h3 : ¬ s = 1 := h1
      obtain rfl : s = 0 := by omega
      rfl
theorem below_spec {t : Ed} {l : B} (hw : wfE t) (h : belowO t = some l) : (l = [] ∧ t = allS.t) ∨ ∃ g, g ≠ [] ∧ (∀ c ∈ g, signC.contains c = true) ∧ textOk t.v = true ∧ l = g ++ text t.v ∧ signM g t.v = some ⟨allS.f, t⟩ := by
  obtain ⟨v, s⟩ := t
  have hs : s ≤ 2 := hw.2.1
  have hz : s = 2 → v = zeroV := hw.2.2
  unfold belowO at h
  dsimp only at h
  split at h
  · rename_i h0
    cases h
    subst h0
    rw [hz rfl]
    exact .inl ⟨rfl, rfl⟩
  · rename_i h0
    split at h
    · rename_i h1
      obtain ⟨e1, e2⟩ := compared_some h
      subst h1
      exact .inr ⟨[60], by simp, by decide, e1, e2, rfl⟩
    · rename_i h1
      obtain ⟨e1, e2⟩ := compared_some h
      obtain rfl : s = 1 := by omega
      exact .inr ⟨[60, 61], by simp, by decide, e1, e2, rfl⟩
theorem sign_no {g : B} {v : Ver} (hg : ∀ c ∈ g, signC.contains c = true) (h : textOk v = true) : ∀ c ∈ g ++ text v, c ≠ 124 := fun c hc => by
  rcases List.mem_append.1 hc with hc | hc
  · intro e; subst e; exact absurd (hg 124 hc) (by decide)
  · exact (text_bytes (ok_may h) c hc).2
/-- a stretch's text says it -/
theorem one_read {s : St} {t : B} (hf : wfE s.f) (ht : wfE s.t) (hne : cE s.f s.t < 0) (h : oneO s = some t) : (∃ s', altM t = some s' ∧ ∀ e, inS e s' ↔ inS e s) ∧ ∀ c ∈ t, c ≠ 124 := by
  have hl := front_low hf ht hne
  have hin : ∀ e, inS e s → inS e allS := fun e hi => ⟨le_trans (all_front hf.1 s.f.s) hi.1, lt_le hi.2 (all_upto ht)⟩
  unfold oneO at h
  split at h
  · rename_i h0
    have e0 := cE_zero h0
    obtain ⟨e1, e2⟩ := compared_some h
    obtain ⟨⟨v, k⟩, b⟩ := s
    have e3 : b = ⟨v, 1⟩ := e0.symm
    subst e3
    have hk : k ≤ 1 := hl
    have hk0 : k = 0 := by
      rcases (by omega : k = 0 ∨ k = 1) with h | h
      · exact h
      · subst h
        have : cE (⟨v, 1⟩ : Ed) ⟨v, 1⟩ < 0 := hne
        rw [cE_self] at this; omega
    subst hk0
    subst e2
    refine ⟨⟨_, by rw [alt_one (by simp) (by decide) e1]; rfl, fun e => ?_⟩, sign_no (by decide) e1⟩
    rw [inS_meet]
    exact ⟨fun h => h.2, fun h => ⟨hin e h, h⟩⟩
  · split at h
    · rename_i l k hl1 hk1
      cases h
      rcases above_spec hl hl1 with ⟨rfl, ef⟩ | ⟨g, g0, gs, gt, rfl, gm⟩
      · rcases below_spec ht hk1 with ⟨rfl, et⟩ | ⟨g2, g20, g2s, g2t, rfl, g2m⟩
        · refine ⟨⟨allS, rfl, fun e => ?_⟩, by decide⟩
          obtain ⟨f, b⟩ := s
          have e1 : f = allS.f := ef
          have e2 : b = allS.t := et
          subst e1; subst e2
          exact Iff.rfl
        · have hj : joinO [] (g2 ++ text s.t.v) = g2 ++ text s.t.v := by
            unfold joinO
            rw [if_neg (fun h => g20 (List.append_eq_nil_iff.1 h.2).1), if_pos (.inl rfl)]; rfl
          rw [hj]
          refine ⟨⟨_, by rw [alt_one g20 g2s g2t, g2m]; rfl, fun e => ?_⟩, sign_no g2s g2t⟩
          rw [inS_meet]
          obtain ⟨f, b⟩ := s
          have e1 : f = allS.f := ef
          subst e1
          exact ⟨fun h => h.2, fun h => ⟨hin e h, h⟩⟩
      · rcases below_spec ht hk1 with ⟨rfl, et⟩ | ⟨g2, g20, g2s, g2t, rfl, g2m⟩
        · have hj : joinO (g ++ text s.f.v) [] = g ++ text s.f.v := by
            unfold joinO
            rw [if_neg (fun h => g0 (List.append_eq_nil_iff.1 h.1).1), if_pos (.inr rfl), List.append_nil]
          rw [hj]
          refine ⟨⟨_, by rw [alt_one g0 gs gt, gm]; rfl, fun e => ?_⟩, sign_no gs gt⟩
          rw [inS_meet]
          obtain ⟨f, b⟩ := s
          have e1 : b = allS.t := et
          subst e1
          exact ⟨fun h => h.2, fun h => ⟨hin e h, h⟩⟩
        · have hj : joinO (g ++ text s.f.v) (g2 ++ text s.t.v) = g ++ text s.f.v ++ 32 :: (g2 ++ text s.t.v) := by
            unfold joinO
            rw [if_neg (fun h => g0 (List.append_eq_nil_iff.1 h.1).1), if_neg (fun h => by
              rcases h with h | h
              · exact g0 (List.append_eq_nil_iff.1 h).1
              · exact g20 (List.append_eq_nil_iff.1 h).1)]
          rw [hj]
          refine ⟨⟨_, by rw [alt_two g0 gs g2s gt g2t, gm, g2m]; rfl, fun e => ?_⟩, fun c hc => ?_⟩
          · rw [inS_meet, inS_meet]
            exact ⟨fun h => ⟨h.1.2.1, h.2.2⟩, fun h => ⟨⟨hin e h, h.1, (hin e h).2⟩, (hin e h).1, h.2⟩⟩
          · rcases List.mem_append.1 hc with hc | hc
            · exact sign_no gs gt c hc
            · rcases List.mem_cons.1 hc with hc | hc
              · subst hc; decide
              · exact sign_no g2s g2t c hc
    · cases h
def altS (x : B) : St := (altM x).getD zeroR.st
theorem accR_all {X : List B} (hX : ∀ x ∈ X, (altM x).isSome = true) (hl : X.length ≤ 16) : ∀ n, n ≤ X.length → accR X (List.range n) = some ((X.map altS).take n)
  | 0, _ => by simp [accR]
  | n + 1, hn => by
    rw [List.range_succ, accR_snoc, accR_all hX hl n (by omega), if_neg (by omega)]
    have hx : X.getD n [] = X[n] := by rw [List.getD_eq_getElem?_getD, List.getElem?_eq_getElem (by omega)]; rfl
    rw [hx]
    obtain ⟨s, hs⟩ := Option.isSome_iff_exists.1 (hX X[n] (List.getElem_mem _))
    have hg : (X.map altS)[n]? = some s := by
      rw [List.getElem?_map, List.getElem?_eq_getElem (by omega)]
      show some (altS X[n]) = _
      unfold altS
      rw [hs]; rfl
    rw [List.take_add_one, hg, hs]
    rfl
theorem zero_empty (e : Ed) : ¬ inS e zeroR.st := fun h => by
  have := inS_some h
  have e2 : cE zeroR.st.f zeroR.st.t = 0 := cE_self _
  omega
/-- a span's text says it -/
theorem write_read {l : List St} {t : B} (hc : SpanM.Can l) (hw : ∀ s ∈ l, wfE s.f ∧ wfE s.t) (hl : l.length ≤ 16) (h : writeO l = some t) : ∃ l', readO t = some l' ∧ formM l' = l := by
  cases l with
  | nil =>
    unfold writeO at h
    rw [if_pos rfl] at h
    cases h
    refine ⟨[zeroR.st], by kernel_rfl, ?_⟩
    refine (formM_eq Can.nil fun e => ?_).symm
    rw [inL_one]
    exact ⟨fun h => absurd h (inL_nil e), fun h => absurd h (zero_empty e)⟩
  | cons x r =>
    unfold writeO at h
    rw [if_neg (by simp)] at h
    split at h
    · rename_i hall
      split at h
      · rename_i hlen
        cases h
        have key : ∀ s ∈ x :: r, (∃ s', altM (oneT s) = some s' ∧ ∀ e, inS e s' ↔ inS e s) ∧ ∀ c ∈ oneT s, c ≠ 124 := fun s hs => by
          obtain ⟨o, ho⟩ := Option.isSome_iff_exists.1 (List.all_eq_true.1 hall s hs)
          have e : oneT s = o := by unfold oneT; rw [ho]; rfl
          rw [e]
          exact one_read (hw s hs).1 (hw s hs).2 (hc.1 s hs) ho
        have hp : partsB orB (Lib.join ((x :: r).map oneT) orB) = (x :: r).map oneT := by
          rw [List.map_cons]
          refine parts_or _ _ fun t ht => ?_
          rw [← List.map_cons] at ht
          obtain ⟨s, hs, rfl⟩ := List.mem_map.1 ht
          exact (key s hs).2
        have ha := accR_all (X := (x :: r).map oneT) (fun t ht => by
          obtain ⟨s, hs, rfl⟩ := List.mem_map.1 ht
          obtain ⟨⟨s', hs', -⟩, -⟩ := key s hs
          rw [hs']; rfl) (by rw [List.length_map]; exact hl) ((x :: r).map oneT).length (Nat.le_refl _)
        refine ⟨(((x :: r).map oneT).map altS).take ((x :: r).map oneT).length, ?_, ?_⟩
        · unfold readO
          rw [if_pos hlen, hp, ha]
        · rw [List.take_of_length_le (by rw [List.length_map]; exact Nat.le_refl _)]
          refine (formM_congr fun e => ?_).trans (formM_of hc)
          constructor
          · rintro ⟨y, hy, hi⟩
            rw [List.map_map] at hy
            obtain ⟨s, hs, rfl⟩ := List.mem_map.1 hy
            obtain ⟨⟨s', hs', hiff⟩, -⟩ := key s hs
            have e1 : (altS ∘ oneT) s = s' := by show altS (oneT s) = s'; unfold altS; rw [hs']; rfl
            rw [e1] at hi
            exact ⟨s, hs, (hiff e).1 hi⟩
          · rintro ⟨s, hs, hi⟩
            obtain ⟨⟨s', hs', hiff⟩, -⟩ := key s hs
            have e1 : (altS ∘ oneT) s = s' := by show altS (oneT s) = s'; unfold altS; rw [hs']; rfl
            refine ⟨s', ?_, (hiff e).2 hi⟩
            rw [List.map_map]
            exact List.mem_map.2 ⟨s, hs, e1⟩
      · cases h
    · cases h
theorem accR_few {L : List B} {l : List St} (h : accR L (List.range L.length) = some l) : L.length ≤ 16 := by
  rcases Nat.lt_or_ge 16 L.length with h1 | h1
  · have h2 : accR L (List.range 17) = none := by
      rw [List.range_succ, accR_snoc, if_pos rfl]
    rw [accR_stop h2 h1] at h
    cases h
  · exact h1
theorem readO_few {s : B} {l : List St} (h : readO s = some l) : l.length ≤ 16 := by
  unfold readO at h
  split at h
  · have h1 := accR_len _ h
    rw [List.length_range] at h1
    have := accR_few h
    omega
  · cases h
end SpanC
end Go.Proofs.YtapikdgncdcneaaGreatDoor
namespace Go.Proofs.YtapikdgncdcneaaGreatDoor
open Go.RowKit
namespace SpanC
open VerM SpanM StrC TextR VerC
set_option linter.unusedSimpArgs false

theorem orB_ne : orB ≠ [] := by unfold orB; simp
def noOr (s : B) (q k : Nat) : Prop := ∀ j, q ≤ j → j < k → Lib.occAt s orB j = false
theorem occ_drop (s : B) (q j : Nat) : Lib.occAt (s.drop q) orB j = Lib.occAt s orB (q + j) := by unfold Lib.occAt; rw [List.drop_drop]
theorem or_hit {s : B} {q k : Nat} (hq : q ≤ k) (hk : k + 4 ≤ s.length) (ho : Lib.occAt s orB k = true) (hn : noOr s q k) : partsB orB (s.drop q) = (s.take k).drop q :: partsB orB (s.drop (k + 4)) := by
  have hi : Lib.index (s.drop q) orB = ((k - q : Nat) : Int) := by
    refine Lib.index_first (by rw [List.length_drop]; omega) ?_ fun j hj => ?_
    · rw [occ_drop, show q + (k - q) = k from by omega]; exact ho
    · rw [occ_drop]; exact hn _ (by omega) (by omega)
  have hc : Lib.cut (s.drop q) orB = ((s.take k).drop q, s.drop (k + 4), true) := by
    unfold Lib.cut
    rw [if_pos (by rw [hi]; omega), hi, List.drop_drop]
    rw [show ((k - q : Nat) : Int).toNat = k - q from by omega, show q + (k - q + orB.length) = k + 4 from by show q + (k - q + 4) = k + 4; omega, List.drop_take]
  rw [partsB_eq orB_ne, hc]
  rfl
theorem or_end {s : B} {q : Nat} (hn : ∀ j, q ≤ j → j + 4 ≤ s.length → Lib.occAt s orB j = false) : partsB orB (s.drop q) = [s.drop q] := by
  have hi : Lib.index (s.drop q) orB = -1 := Lib.index_none fun j hj => by
    cases ho : Lib.occAt (s.drop q) orB j with
    | false => rfl
    | true =>
      have h := ho
      rw [occ_drop] at h
      rcases Lib.occAt_room h with hr | hr
      · rw [hn (q + j) (by omega) hr] at h; cases h
      · exact absurd hr orB_ne
  have hc : Lib.cut (s.drop q) orB = (s.drop q, [], false) := by
    unfold Lib.cut
    rw [if_neg (by rw [hi]; decide)]
  rw [partsB_eq orB_ne, hc]
  rfl
/-- what the rounds of parts find and leave -/
structure PartsI (s : B) (k q : Nat) (ms : TL) : Prop where
  hq : q ≤ k
  hk : k ≤ s.length
  eq : partsB orB s = ms ++ partsB orB (s.drop q)
  no : noOr s q k
  few : ms.length ≤ q
theorem PartsI.start (s : B) : PartsI s 0 0 [] := ⟨Nat.le_refl _, Nat.zero_le _, by simp, fun j h1 h2 => by omega, Nat.le_refl _⟩
theorem PartsI.hit {s : B} {k q : Nat} {ms : TL} (h : PartsI s k q ms) (hk : k + 4 ≤ s.length) (ho : Lib.occAt s orB k = true) : PartsI s (k + 4) (k + 4) (ms ++ [(s.take k).drop q]) :=
  ⟨Nat.le_refl _, hk, by rw [h.eq, or_hit h.hq hk ho h.no]; simp, fun j h1 h2 => by omega, by have := h.few; have := h.hq; simp; omega⟩
theorem PartsI.next {s : B} {k q : Nat} {ms : TL} (h : PartsI s k q ms) (hk : k + 4 ≤ s.length) (ho : Lib.occAt s orB k = false) : PartsI s (k + 1) q ms :=
  ⟨by have := h.hq; omega, by omega, h.eq, fun j h1 h2 => by
    by_cases e : j = k
    · rw [e]; exact ho
    · exact h.no j h1 (by omega), h.few⟩
theorem PartsI.out {s : B} {k q : Nat} {ms : TL} (h : PartsI s k q ms) (hk : ¬ k + 4 ≤ s.length) : partsB orB s = ms ++ [s.drop q] := by
  rw [h.eq, or_end fun j h1 h2 => h.no j h1 (by omega)]
theorem occ_is {s : B} {k : Nat} (hk : k + 4 ≤ s.length) : Lib.occAt s orB k = decide ((s.take (k + 4)).drop k = orB) := by
  rw [Lib.occAt_iff_take s orB k hk, List.drop_take, show k + 4 - k = orB.length from by show k + 4 - k = 4; omega]
  rw [Bool.eq_iff_iff]
  simp
end SpanC
end Go.Proofs.YtapikdgncdcneaaGreatDoor
namespace Go.Proofs.YtapikdgncdcneaaGreatDoor
open Go.RowKit
namespace SpanC
open VerM SpanM StrC TextR VerC
set_option linter.unusedSimpArgs false

theorem parts_pieces : ∀ (n : Nat) (s : B), s.length ≤ n → partsB [32] s = pieces 32 s := by
  intro n
  induction n with
  | zero =>
    intro s hs
    have : s = [] := List.length_eq_zero_iff.1 (by omega)
    subst this
    rfl
  | succ n ih =>
    intro s hs
    rcases firstAt 32 s with h | ⟨x, r, rfl, hx⟩
    · rw [partsB_eq (by simp), cut_sp_none s h, pieces_none h]; rfl
    · rw [partsB_eq (by simp), cut_sp x r hx, pieces_hit r hx]
      simp only [if_true]
      rw [ih r (by simp at hs; omega)]
theorem accM_succ {L : TL} {k : Nat} {st : St} (hk : k < 16) (h : accM L (List.range k) = some st) : accM L (List.range (k + 1)) = (compM (L.getD k [])).map (meetS st) := by
  rw [List.range_succ, accM_snoc, if_neg (by omega), h]; rfl
theorem accM_many {L : TL} (h : 16 < L.length) : accM L (List.range L.length) = none := by
  refine accM_stop (k := 17) ?_ (by omega)
  rw [List.range_succ, accM_snoc, if_pos rfl]
theorem FormE.rl {l : List St} {w w' : World} {u : Value} (h : FormE True l w (.returned u) w') : ∃ R, RL True w' w.heap.size u R ∧ spanM R = formM l ∧ Below w.heap.size w w' := by
  obtain ⟨u', R, e, h2, h3, h4⟩ := h
  cases e
  exact ⟨R, h2, h3, h4⟩
theorem zero_form : formM [zeroR.st] = [] := (formM_eq SpanM.Can.nil fun e => by
  constructor
  · intro h; exact absurd h (inL_nil e)
  · intro h; exact absurd ((inL_one).1 h) (zero_empty e)).symm
end SpanC
end Go.Proofs.YtapikdgncdcneaaGreatDoor
namespace Go.Proofs.YtapikdgncdcneaaGreatDoor
open Go.RowKit
namespace SpanC
open VerM SpanM StrC TextR VerC
set_option linter.unusedSimpArgs false

theorem IvRow.news {w : World} {B : Nat} {a : Option Addr} {n cp : Nat} {L : List IvG} (h : IvRow w B (.slice a n cp) L) : n = L.length ∧ (a = none → n = 0 ∧ cp = 0) ∧ ∀ ad, a = some ad → ∀ j u, (L.flatMap gvL)[j]? = some u → w.cell? (ad.add j) = some u := by
  have h' : w.ownsRow B 53 11 (.slice a n cp) L.length (L.flatMap gvL) := h
  have h0 := h'
  obtain ⟨_, ⟨h1, h2⟩ | ⟨g, cp', cur, e1, hg0, hblk, _⟩⟩ := h'
  · simp only [Value.slice.injEq] at h1
    obtain ⟨rfl, rfl, rfl⟩ := h1
    exact ⟨h2.symm, fun _ => ⟨rfl, rfl⟩, fun ad e => (by cases e)⟩
  · simp only [Value.slice.injEq] at e1
    obtain ⟨rfl, rfl, rfl⟩ := e1
    refine ⟨rfl, fun e => (by cases e), fun ad e j u hu => ?_⟩
    cases e
    have hj : j < L.length * 11 := by
      have := (List.getElem?_eq_some_iff.1 hu).1
      rwa [RowKC.flat_length gvL 11 gvL_length] at this
    rw [Go.WideShapes.add_plain, Nat.zero_add, h0.cellAt j hj]
    exact hu
theorem gv_ones (L : List IvG) : ∀ u ∈ L.flatMap gvL, u.oneCell' = true := fun u hu => by
  obtain ⟨x, _, hx⟩ := List.mem_flatMap.1 hu
  exact gv_one x u hx
theorem ti_grown {w w' : World} {x : IvG} {B n k : Nat} {e : TypeId} {v : Value} {xs : List Value} (h : TI True w x) (hown : w.ownsRow B e k v n xs) (he : e ≠ 9) (hg : w.grownBy w' v.ownBlock) : TI True w' x := by
  have key : ∀ b, IsText w b → w'.heap[b]? = w.heap[b]? := fun b hb => by
    rcases hown.2 with ⟨rfl, _⟩ | ⟨g, cp, cur, rfl, _, hb2, _⟩
    · exact hg.block b hb.lt (by simp [Value.ownBlock])
    · exact hg.block b hb.lt (by
        simp only [Value.ownBlock, ne_eq, Option.some.injEq]
        intro e2
        exact kind_ne hb2 he (e2 ▸ hb))
  have tq : ∀ {a : Option Addr} {c : Nat} {p : TL}, TxQ True w a c p → TxQ True w' a c p := fun {a c p} t => by
    refine ⟨⟨t.txs.cap, t.txs.short, t.txs.few, fun h0 => ?_⟩, fun _ b f e => (t.k trivial b f e).of (key b (t.k trivial b f e))⟩
    obtain ⟨b, o, e, hc⟩ := t.txs.cells h0
    refine ⟨b, o, e, fun i hi => ?_⟩
    rw [World.cell?_of_block (a := ⟨b, o + i, none⟩) (key b (t.k trivial b o e))]
    exact hc i hi
  exact ⟨tq h.l, tq h.h⟩
set_option maxHeartbeats 1000000 in
set_option maxRecDepth 100000 in
theorem rlimit_any (a : Option Addr) (n cp : Nat) (w : World) (hn : n ≤ 9223372036854775807) :
    Calls Tryz.prog 42 #[.slice a n cp] w fun e w' => e = (if n ≤ 16 then .returned (.tuple #[.slice a n cp, .int .i64 0]) else .returned (.tuple #[.slice none 0 0, .int .i64 80])) ∧ w = w' := by
  by_cases h : n ≤ 16
  · have hd : decide ((16 : Int) < (n : Int)) = false := decide_eq_false (by omega)
    rw [if_pos h]
    clear h
    go_enter Tryz.func42, Tryz.ntmps42
    go_wp2
    go_ret2
    exact ⟨rfl, rfl⟩
  · have hd : decide ((16 : Int) < (n : Int)) = true := decide_eq_true (by omega)
    rw [if_neg h]
    clear h
    go_enter Tryz.func42, Tryz.ntmps42
    go_wp2
    go_ret2
    exact ⟨rfl, rfl⟩
/-- how Read ends -/
def ReadR (s : B) (w : World) (e : Ending) (w' : World) : Prop := Below w.heap.size w w' ∧ (readO s = none → e = .returned (.tuple #[.slice none 0 0, .int .i64 80])) ∧
  ∀ l, readO s = some l → ∃ u R, e = .returned (.tuple #[u, .int .i64 0]) ∧ RL True w' w.heap.size u R ∧ spanM R = formM l
theorem ReadR.no {s : B} {w w' : World} (h : readO s = none) (hb : Below w.heap.size w w') : ReadR s w (.returned (.tuple #[.slice none 0 0, .int .i64 80])) w' := ⟨hb, fun _ => rfl, fun l h2 => by rw [h] at h2; cases h2⟩
theorem accR_succ {L : TL} {k : Nat} {l : List St} (hk : k < 16) (h : accR L (List.range k) = some l) : accR L (List.range (k + 1)) = (altM (L.getD k [])).map fun t => l ++ [t] := by
  rw [List.range_succ]
  unfold accR at h ⊢
  rw [List.foldl_append, h]
  simp only [List.foldl_cons, List.foldl_nil]
  rw [if_neg (by omega)]
  rfl
theorem accR_none8 {L : TL} : ∀ (l : List Nat), l.foldl (fun o k => if k = 16 then none else o.bind fun a => (altM (L.getD k [])).map fun t => a ++ [t]) (none : Option (List St)) = none
  | [] => rfl
  | k :: l => by
    simp only [List.foldl_cons, Option.bind_none, ite_self]
    exact accR_none8 l
theorem accR_stop2 {L : TL} {k n : Nat} (h : accR L (List.range k) = none) (hk : k ≤ n) : accR L (List.range n) = none := by
  obtain ⟨m, rfl⟩ : ∃ m, n = k + m := ⟨n - k, by omega⟩
  rw [List.range_add]
  unfold accR at h ⊢
  rw [List.foldl_append, h]
  exact accR_none8 _
theorem form_app (A C : List St) : formM (formM A ++ formM C) = formM (A ++ C) := formM_congr fun e => by
  rw [inL_append, inL_append, (formM_is A).2, (formM_is C).2]
/-- what the rounds of Read find and leave -/
structure ReadI (w wq : World) (u : Value) (R : List IvG) (l : List St) (k : Nat) : Prop where
  row : RL True wq w.heap.size u R
  set : formM (spanM R) = formM l
  below : Below w.heap.size w wq
  len : R.length ≤ k
end SpanC
end Go.Proofs.YtapikdgncdcneaaGreatDoor
namespace Go.Proofs.YtapikdgncdcneaaGreatDoor
open Go.RowKit
namespace SpanC
open VerM SpanM StrC TextR VerC
set_option linter.unusedSimpArgs false
variable {K : Prop}

theorem meets_len1 (l : List St) (s : St) : (meets l [s]).length = l.length := by
  induction l with
  | nil => rfl
  | cons x r ih => unfold meets at *; simp only [List.flatMap_cons, List.length_append, List.map_cons, List.map_nil, List.length_cons, List.length_nil] at *; omega
theorem has_is (l : List St) (v : Ver) : decide (0 < (formM (meets l [⟨⟨v, 0⟩, ⟨v, 1⟩⟩])).length) = hasL l v := by
  have key : (∃ e, inL e (formM (meets l [⟨⟨v, 0⟩, ⟨v, 1⟩⟩]))) ↔ hasL l v = true := by
    rw [hasL_in]
    constructor
    · rintro ⟨e, he⟩
      rw [(formM_is _).2, inL_meets, inL_one] at he
      obtain ⟨h1, h2, h3⟩ := he
      have : cE ⟨v, 0⟩ e = 0 := by
        rcases Int.lt_or_eq_of_le h2 with h | h
        · have := (side_lt v e).1 h
          have := cE_anti e ⟨v, 1⟩
          dsimp only at h3
          omega
        · exact h
      rw [cE_zero this]
      exact h1
    · intro h
      refine ⟨⟨v, 0⟩, ?_⟩
      rw [(formM_is _).2, inL_meets, inL_one]
      exact ⟨h, by show cE ⟨v, 0⟩ ⟨v, 0⟩ ≤ 0; rw [cE_self]; exact Int.le_refl _, (side_lt v ⟨v, 1⟩).2 (by rw [cE_self]; exact Int.le_refl _)⟩
  have hc := (formM_is (meets l [⟨⟨v, 0⟩, ⟨v, 1⟩⟩])).1
  cases hf : formM (meets l [⟨⟨v, 0⟩, ⟨v, 1⟩⟩]) with
  | nil =>
    rw [hf] at key
    have : hasL l v = false := Bool.eq_false_iff.2 fun h => by
      obtain ⟨e, he⟩ := key.2 h
      exact inL_nil e he
    rw [this]; rfl
  | cons s r =>
    rw [hf] at key hc
    have : hasL l v = true := key.1 ⟨s.f, inL_cons.2 (.inl (inS_first (hc.1 s List.mem_cons_self)))⟩
    rw [this]; simp
set_option maxHeartbeats 4000000 in
set_option maxRecDepth 100000 in
theorem rHas_any (a : Option Addr) (cp : Nat) (L : List IvG) (v : Ver) (b : Option Addr) (c : Nat) (w : World) (h : RArg K w a L) (hr : ∀ x ∈ L, rightB x = true) (hl : L.length ≤ 20) (hv : TxQ K w b c v.pre) (hm : may v = true) :
    Calls Tryz.prog 15 #[.slice a L.length cp, verV v.a v.b v.c b v.pre.length c] w fun e w' => e = .returned (.bool (hasL (spanM L) v)) ∧ Below w.heap.size w w' := by
  have hB0 : Below w.heap.size w (w.alloc (verO v.a v.b v.c b v.pre.length c)) := (Below.refl _ w).alloc (Nat.le_refl _) _
  have hB1 : Below w.heap.size w ((w.alloc (verO v.a v.b v.c b v.pre.length c)).alloc (gvO ⟨v, b, c, false, v, b, c, false, false⟩)) := hB0.alloc hB0.size _
  have HX : Hid (TI K ((w.alloc (verO v.a v.b v.c b v.pre.length c)).alloc (gvO ⟨v, b, c, false, v, b, c, false, false⟩)) ⟨v, b, c, false, v, b, c, false, false⟩ ∧ rightB ⟨v, b, c, false, v, b, c, false, false⟩ = true) := Lib.hid ⟨⟨hv.gr hB1, hv.gr hB1⟩, by unfold rightB; dsimp only; rw [hm]; rfl⟩
  have hiv := iv_new (w.alloc (verO v.a v.b v.c b v.pre.length c)) ⟨v, b, c, false, v, b, c, false, false⟩ 0 (Nat.zero_le _)
  rw [World.size_alloc] at hiv
  have HMT := Lib.hid (rmeet_any a cp L (some ⟨w.heap.size + 1, 0, none⟩) 1 [⟨v, b, c, false, v, b, c, false, false⟩] _ (h.gr hB1) ⟨hiv.in_, fun x hx => by rw [List.mem_singleton.1 hx]; exact HX.out.1⟩ hr (fun x hx => by rw [List.mem_singleton.1 hx]; exact HX.out.2) hl (by simp))
  have HMT2 : Hid (Calls Tryz.prog 35 #[.slice a L.length cp, .slice (some ⟨w.heap.size + 1, 0, none⟩) 1 1] ((w.alloc (verO v.a v.b v.c b v.pre.length c)).alloc (gvO ⟨v, b, c, false, v, b, c, false, false⟩)) fun e w' => ∃ a2 n c2, e = .returned (.slice a2 n c2) ∧ n ≤ 1000 ∧ decide (0 < n) = hasL (spanM L) v ∧ Below w.heap.size w w') := Lib.hid (HMT.out.mono fun e w' ⟨u, R, he, hr2, hm2, hb2⟩ => by
    obtain ⟨a2, c2, rfl⟩ := hr2.row.value
    refine ⟨a2, R.length, c2, he, ?_, ?_, hB1.trans (hb2.mono hB1.size)⟩
    · have h1 := formM_len (meets (spanM L) (spanM [⟨v, b, c, false, v, b, c, false, false⟩]))
      rw [← hm2, spanM_len] at h1
      have h2 := meets_len1 (spanM L) ⟨⟨v, 0⟩, ⟨v, 1⟩⟩
      rw [spanM_len] at h2
      change R.length ≤ (meets (spanM L) [⟨⟨v, 0⟩, ⟨v, 1⟩⟩]).length at h1
      omega
    · rw [← spanM_len R, hm2]
      exact has_is (spanM L) v)
  obtain ⟨q0, q1, q2, q3⟩ := ver_cells (heap_alloc_new w (verO v.a v.b v.c b v.pre.length c))
  generalize hasL (spanM L) v = ans at *
  clear h hr hv hm hB0 hB1 HX hiv HMT
  go_enter Tryz.func15, Tryz.ntmps15
  go_wp2_with (go_at_call 35; refine HMT2.out.mono ?_; rintro e w5 ⟨a2, n, c2, rfl, hn, hans, hb5⟩; have HA := Lib.hid hans; have HB := Lib.hid hb5; clear hans hb5)
  go_ret
  exact ⟨by rw [← HA.out]; rfl, HB.out⟩
/-- the greatest one so far -/
structure BestI (p : B → Bool) (L : TL) (o : Option B) : Prop where
  nn : o = none → ∀ y ∈ L, p y = false
  ss : ∀ t, o = some t → t ∈ L ∧ p t = true ∧ ∀ y ∈ L, p y = true → ordT y t ≤ 0
theorem BestI.skip {p : B → Bool} {L : TL} {o : Option B} {x : B} (h : BestI p L o) (hx : p x = false) : BestI p (L ++ [x]) o := by
  refine ⟨fun e y hy => ?_, fun t e => ?_⟩
  · rcases List.mem_append.1 hy with hy | hy
    · exact h.nn e y hy
    · rw [List.mem_singleton.1 hy]; exact hx
  · obtain ⟨h1, h2, h3⟩ := h.ss t e
    refine ⟨List.mem_append_left _ h1, h2, fun y hy hp => ?_⟩
    rcases List.mem_append.1 hy with hy | hy
    · exact h3 y hy hp
    · rw [List.mem_singleton.1 hy, hx] at hp; cases hp
theorem BestI.first {p : B → Bool} {L : TL} {x : B} (h : BestI p L none) (hx : p x = true) : BestI p (L ++ [x]) (some x) := by
  refine ⟨fun e => (by cases e), fun t e => ?_⟩
  cases e
  refine ⟨List.mem_append_right _ (by simp), hx, fun y hy hp => ?_⟩
  rcases List.mem_append.1 hy with hy | hy
  · rw [h.nn rfl y hy] at hp; cases hp
  · rw [List.mem_singleton.1 hy, ordT_self]; exact Int.le_refl _
theorem BestI.keep {p : B → Bool} {L : TL} {x t : B} (h : BestI p L (some t)) (hr : ordT x t ≤ 0) : BestI p (L ++ [x]) (some t) := by
  refine ⟨fun e => (by cases e), fun t' e => ?_⟩
  cases e
  obtain ⟨h1, h2, h3⟩ := h.ss t rfl
  refine ⟨List.mem_append_left _ h1, h2, fun y hy hp => ?_⟩
  rcases List.mem_append.1 hy with hy | hy
  · exact h3 y hy hp
  · rw [List.mem_singleton.1 hy]; exact hr
theorem BestI.up {p : B → Bool} {L : TL} {x t : B} (h : BestI p L (some t)) (hL : ∀ y ∈ L, isT y = true) (hx : p x = true) (hr : 0 < ordT x t) : BestI p (L ++ [x]) (some x) := by
  refine ⟨fun e => (by cases e), fun t' e => ?_⟩
  cases e
  obtain ⟨h1, h2, h3⟩ := h.ss t rfl
  refine ⟨List.mem_append_right _ (by simp), hx, fun y hy hp => ?_⟩
  rcases List.mem_append.1 hy with hy | hy
  · exact ordT_trans (hL t h1) (h3 y hy hp) (by have := @ordT_anti x t; omega)
  · rw [List.mem_singleton.1 hy, ordT_self]; exact Int.le_refl _
/-- the greatest of a row that rises is the same one -/
theorem best_find {p : B → Bool} {L R : TL} {o : Option B} (h : BestI p L o) (hL : ∀ y ∈ L, isT y = true) (hR : SV R) (hm : ∀ x, x ∈ R ↔ x ∈ L) : R.reverse.find? p = o := by
  cases hf : R.reverse.find? p with
  | none =>
    cases o with
    | none => rfl
    | some t =>
      obtain ⟨h1, h2, -⟩ := h.ss t rfl
      have := List.find?_eq_none.1 hf t (by rw [List.mem_reverse]; exact (hm t).2 h1)
      exact absurd h2 this
  | some t =>
    have hpt : p t = true := List.find?_some hf
    have hmt : t ∈ R := by have := List.mem_of_find?_eq_some hf; rwa [List.mem_reverse] at this
    cases o with
    | none => rw [h.nn rfl t ((hm t).1 hmt)] at hpt; cases hpt
    | some t2 =>
      obtain ⟨h1, h2, h3⟩ := h.ss t2 rfl
      have hT := hL t ((hm t).1 hmt)
      have hT2 := hL t2 h1
      have e1 := h3 t ((hm t).1 hmt) hpt
      have e2 : ordT t2 t ≤ 0 := by
        obtain ⟨az, bz, e, hno⟩ := (List.find?_eq_some_iff_append.1 hf).2
        have hre : R = bz.reverse ++ t :: az.reverse := by
          have := congrArg List.reverse e
          simpa using this
        have hmem : t2 ∈ bz.reverse ++ t :: az.reverse := by rw [← hre]; exact (hm t2).2 h1
        have hpw := hR.1
        rw [hre, List.pairwise_append] at hpw
        rcases List.mem_append.1 hmem with h4 | h4
        · have := hpw.2.2 t2 h4 t List.mem_cons_self; omega
        · rcases List.mem_cons.1 h4 with h5 | h5
          · subst h5
            exact e1
          · have := hno t2 (by simpa using h5)
            rw [h2] at this
            cases this
      rw [ordT_zero hT hT2 (by have := @ordT_anti t t2; omega)]
theorem isT_ne {s : B} (h : isT s = true) : s ≠ [] := fun e => by
  subst e
  revert h
  decide
/-- how Pick ends -/
def PickR (s : B) (L : TL) (w : World) (e : Ending) (w' : World) : Prop := Below w.heap.size w w' ∧ match readO s with
  | none => e = .returned (.tuple #[.string (str []), .bool false, .int .i64 80])
  | some l => (L.all isT = false → e = .returned (.tuple #[.string (str []), .bool false, .int .i64 70])) ∧
    (L.all isT = true → ∃ o, BestI (hasT (formM l)) L o ∧ e = match o with
      | some t => .returned (.tuple #[.string (str t), .bool true, .int .i64 0])
      | none => .returned (.tuple #[.string (str []), .bool false, .int .i64 0]))
def bestV (o : Option B) : B := o.getD []
end SpanC
end Go.Proofs.YtapikdgncdcneaaGreatDoor
namespace Go.Proofs.YtapikdgncdcneaaGreatDoor
open Go.RowKit
namespace SpanC
open VerM SpanM StrC TextR VerC
set_option linter.unusedSimpArgs false

abbrev outP (o : Option B) (n : Int) : Ending := .returned (.tuple #[.string (str (o.getD [])), .bool o.isSome, .int .i64 n])
def PickIs (s : B) (L : TL) (o : Option B) (n : Int) : Prop := match readO s with
  | none => o = none ∧ n = 80
  | some l => (L.all isT = false → o = none ∧ n = 70) ∧ (L.all isT = true → n = 0 ∧ BestI (hasT (formM l)) L o)
theorem pickR_out {s : B} {L : TL} {w w' : World} {e : Ending} (h : PickR s L w e w') : ∃ o n, e = outP o n ∧ PickIs s L o n := by
  obtain ⟨-, h2⟩ := h
  unfold PickIs
  cases hr : readO s with
  | none => rw [hr] at h2; exact ⟨none, 80, h2, rfl, rfl⟩
  | some l =>
    rw [hr] at h2
    cases ha : L.all isT with
    | false => exact ⟨none, 70, h2.1 ha, fun _ => ⟨rfl, rfl⟩, fun h => by cases h⟩
    | true =>
      obtain ⟨o, hb, he⟩ := h2.2 ha
      refine ⟨o, 0, ?_, fun h => (by cases h), fun _ => ⟨rfl, hb⟩⟩
      rw [he]; cases o <;> rfl
theorem pickE_out {s : B} {L : TL} {w w' : World} {e : Ending} (h : PickE s L w e w') : ∃ o n, e = outP o n ∧ ∀ o' n', PickIs s L o' n' → o = o' ∧ n = n' := by
  obtain ⟨-, h2⟩ := h
  unfold PickIs
  cases hr : readO s with
  | none => rw [hr] at h2; exact ⟨none, 80, h2, fun o' n' h => ⟨h.1.symm, h.2.symm⟩⟩
  | some l =>
    rw [hr] at h2
    cases ha : L.all isT with
    | false => exact ⟨none, 70, h2.1 ha, fun o' n' h => ⟨(h.1 rfl).1.symm, (h.1 rfl).2.symm⟩⟩
    | true =>
      obtain ⟨R, hs, hm, he⟩ := h2.2 ha
      refine ⟨R.reverse.find? (hasT (formM l)), 0, ?_, fun o' n' h => ⟨?_, (h.2 rfl).1.symm⟩⟩
      · rw [he]; cases R.reverse.find? (hasT (formM l)) <;> rfl
      · exact best_find (h.2 rfl).2 (List.all_eq_true.1 ha) hs hm
theorem texts_news8 {w : World} {b o : Nat} {L : TL} (h : TextsIn w b o L) : ∀ j u, (L.map encT)[j]? = some u → w.cell? ((⟨b, o, none⟩ : Addr).add j) = some u := by
  intro j u hu
  have hj : j < L.length := by
    have := (List.getElem?_eq_some_iff.1 hu).1
    simpa using this
  rw [Go.WideShapes.add_plain, h j hj, ← hu]
  simp [hj]; rfl
end SpanC
end Go.Proofs.YtapikdgncdcneaaGreatDoor
namespace Go.Proofs.YtapikdgncdcneaaGreatDoor
open Go.RowKit
namespace VerC

/-- a table of integers: each of its cells holds some integer -/
theorem cell_of_table {P : Program} {w : World} {g n : Nat} {t e : TypeId} {zero : Array Value} {k : IntKind} (h : w.ShapedOpen P) (hg : g < P.globals.size)
    (h0 : ((begin P (fun _ _ => 0) default).world.heap[g]?).bind Obj.row? = some (zero, t)) (hz : zero.size = n) (hb : P.buildable t = true) (hc : P.cellTypes P.depth t = some (List.replicate n e)) (hu : P.underlying e = some (.int k)) (i : Nat) (hi : i < n) :
    ∃ m, w.cell? ⟨g, i, none⟩ = some (.int k m) := by
  obtain ⟨cs, hh, hs, hr⟩ := h.1 g zero t hg h0
  obtain ⟨ts, hts, _, hall⟩ := hr hb
  rw [hc] at hts
  cases hts
  have h1 : i < cs.size := by omega
  obtain ⟨u, hu', hok⟩ := hall i cs[i] (by simp [h1])
  have hu2 : u = e := by
    have hl : (List.replicate n e)[i % (List.replicate n e).length]? = some u := hu'
    rw [List.getElem?_replicate] at hl
    split at hl
    · exact (Option.some.inj hl).symm
    · cases hl
  subst hu2
  have hcell : w.cell? ⟨g, i, none⟩ = some cs[i] := by simp [World.cell?, hh, h1]
  rw [hcell]
  unfold Cell.ok at hok
  rw [hu] at hok
  cases hv : cs[i] <;> rw [hv] at hok <;> simp at hok
  case int k' m => exact ⟨m, by rw [hok.1]⟩
theorem g_syn : Tryz.prog.globalNamed "strconv.ErrSyntax" = some 1 := by kernel_rfl
theorem g_ran : Tryz.prog.globalNamed "strconv.ErrRange" = some 2 := by kernel_rfl
theorem star_err : "*" ++ "errors.errorString" = "*errors.errorString" := by decide
theorem row_err (u : TypeId) (h : Tryz.prog.typeName? 3 u = some "*errors.errorString") : u = 237 :=
  typeName_ptr_named (nm := "errors.errorString") (by rw [star_err]; kernel_rfl) (by kernel_rfl) (by decide) u (by rw [star_err]; exact h)
theorem cells_es : Tryz.prog.cellsOf 239 = 1 := by kernel_rfl
theorem cells_st : Tryz.prog.cellsOf 9 = 1 := by kernel_rfl
theorem g_pow : Tryz.prog.globalNamed "internal/strconv.uint64pow10" = some 5 := by kernel_rfl
def laidL : List (String × DataW Unit) := [("math/bits.deBruijn32tab", Rows.laid_math_bits_deBruijn32tab), ("math/bits.deBruijn64tab", Rows.laid_math_bits_deBruijn64tab), ("internal/strconv.uint64pow10", Rows.laid_internal_strconv_uint64pow10), ("unicode/utf8.acceptRanges", Rows.laid_unicode_utf8_acceptRanges), ("strconv.ErrRange", Rows.laid_strconv_ErrRange), ("strconv.ErrSyntax", Rows.laid_strconv_ErrSyntax), ("unicode/utf8.first", Rows.laid_unicode_utf8_first)]
theorem vw_of {W : World} (h : laidMetH Tryz.prog laidL W) (hs : W.ShapedOpen Tryz.prog) : Vw W := by
  refine ⟨cell_of_table (g := 0) (n := 1) (zero := #[.int .i64 0]) (t := 3) (e := 3) hs (of_decide_eq_true (by kernel_rfl)) (by kernel_rfl) (by kernel_rfl) (by kernel_rfl) (by kernel_rfl) Tryz.underlying3 0 (by decide),
?_, ?_, ?_⟩
  rotate_left 2
  have h1 := h.filter (fun x => x.1 == "internal/strconv.uint64pow10")
  have h2 : laidMet Tryz.prog [("internal/strconv.uint64pow10", Rows.laid_internal_strconv_uint64pow10)] W := by
    rw [← MakeChecks.laidMetH_plain _ _ _ (by kernel_rfl)]
    exact h1
  · exact Lib.tabIs_of_head (t := 241) (e := 142) (n := 20) g_pow (by kernel_rfl) Tryz.underlying241 Tryz.underlying142 (by kernel_rfl) (by kernel_rfl) h2
  · have h3 := h.filter (fun x => x.1 == "strconv.ErrSyntax")
    have h4 : laidMet Tryz.prog [("strconv.ErrSyntax", Rows.laid_strconv_ErrSyntax)] W := by
      rw [← MakeChecks.laidMetH_plain _ _ _ (by kernel_rfl)]
      exact h3
    obtain ⟨a0, s0, hv0, -, -, -⟩ := laid_sentinel h4 g_syn (ti := 135) (by kernel_rfl) Tryz.underlying135 row_err Tryz.underlying237 Tryz.underlying239 rfl rfl Tryz.underlying9 cells_es cells_st
    have h0 := World.var?_cell g_syn hv0 0
    exact ⟨_, by simpa using h0, .inr ⟨_, _, rfl⟩⟩
  · have h3 := h.filter (fun x => x.1 == "strconv.ErrRange")
    have h4 : laidMet Tryz.prog [("strconv.ErrRange", Rows.laid_strconv_ErrRange)] W := by
      rw [← MakeChecks.laidMetH_plain _ _ _ (by kernel_rfl)]
      exact h3
    obtain ⟨a0, s0, hv0, -, -, -⟩ := laid_sentinel h4 g_ran (ti := 135) (by kernel_rfl) Tryz.underlying135 row_err Tryz.underlying237 Tryz.underlying239 rfl rfl Tryz.underlying9 cells_es cells_st
    have h0 := World.var?_cell g_ran hv0 0
    exact ⟨_, by simpa using h0, .inr ⟨_, _, rfl⟩⟩
def laidD : List (String × DataW Unit) := laidL.filter fun x => x.2.handleName?.isNone
/-- a world for the witness -/
noncomputable def laidW (os : Os) : World := (World.holding Tryz.prog os ⟨#[], #[], []⟩).layVars Tryz.prog laidD
theorem laidW_os (os : Os) : (laidW os).os = os := World.layVars_os _ _ _
set_option maxRecDepth 100000 in
theorem laidW_met (os : Os) (args : Array Value) : laidMetH Tryz.prog laidL ((laidW os).forCall (fun _ _ => 0) ⟨#[], args, []⟩).memory :=
  laidMetH_of_parts (laidMet_layVars (w0 := World.holding Tryz.prog os ⟨#[], #[], []⟩) (laidL.map (·.1)) [] (by kernel_rfl) (by kernel_rfl) (by kernel_rfl) LaidIn.none) (by kernel_rfl)
end VerC
end Go.Proofs.YtapikdgncdcneaaGreatDoor
namespace Go.Proofs.YtapikdgncdcneaaGreatDoor
open Go.RowKit
namespace SpanC
open VerM SpanM StrC TextR VerC
set_option linter.unusedSimpArgs false
variable {K : Prop}

set_option maxHeartbeats 2000000 in
set_option maxRecDepth 100000 in
theorem rversion_any (v : Ver) (a : Option Addr) (cap : Nat) (w : World) (hT : Txs w a cap v.pre) (hm : may v = true) :
    Calls Tryz.prog 59 #[.agg #[.int .u32 v.a, .int .u32 v.b, .int .u32 v.c, .slice a v.pre.length cap]] w fun e w' => e = .returned (.string (str (text v))) ∧ Below w.heap.size w w' := by
  obtain ⟨h1, h2, h3, h4, h5⟩ := may_parts hm
  have HTX := Lib.hid (show text v = (((Lib.decDigits v.a ++ [46]) ++ Lib.decDigits v.b) ++ [46]) ++ Lib.decDigits v.c ++ preL v.pre by unfold text; simp)
  have e1 := dec_size h1
  have e2 := dec_size h2
  have e3 := dec_size h3
  have HP := Lib.hid (preL_len v.pre 16 (fun s hs => (ident_size (h5 s hs)).2))
  have HSL := Lib.hid (fun s (hs : s ∈ v.pre) => (ident_size (h5 s hs)).2)
  unfold mx at h1 h2 h3
  obtain ⟨na, nb, nc, p⟩ := v
  dsimp only at *
  obtain ⟨D, hD⟩ : ∃ D : Int → B, D = fun x => Lib.decDigits x.toNat := ⟨_, rfl⟩
  have HN := Lib.hid (show ∀ (x : Int) (w : World), x ∈ [(na : Int), (nb : Int), (nc : Int)] → Calls Tryz.prog 92 #[.int .u64 x] w fun e w' => e = .returned (.string (str (D x))) ∧ w' = w from fun x w hx => by
    have key : ∀ n : Nat, n ≤ 2147483647 → Calls Tryz.prog 92 #[.int .u64 (n : Int)] w fun e w' => e = .returned (.string (str (D (n : Int)))) ∧ w' = w := fun n hn => (rNumber_any n w (by omega)).mono fun e w' ⟨he, hw⟩ => ⟨by rw [he, hD]; simp, hw.symm⟩
    simp only [List.mem_cons, List.mem_nil_iff, or_false] at hx
    rcases hx with e | e | e
    · rw [e]; exact key na h1
    · rw [e]; exact key nb h2
    · rw [e]; exact key nc h3)
  have ea : Lib.decDigits na = D na := by rw [hD]; simp
  have eb : Lib.decDigits nb = D nb := by rw [hD]; simp
  have ec : Lib.decDigits nc = D nc := by rw [hD]; simp
  rw [ea] at e1 HTX
  rw [eb] at e2 HTX
  rw [ec] at e3 HTX
  have wa := wrap_u64 na h1
  have wb := wrap_u64 nb h2
  have wc := wrap_u64 nc h3
  have H4 := Lib.hid h4
  clear h1 h2 h3 h4 ea eb ec hD
  generalize (na : Int) = xa at *
  generalize (nb : Int) = xb at *
  generalize (nc : Int) = xc at *
  have a1 : ∀ w, (Op.stringOp .add (str (D xa)) ⟨#[46]⟩).run Tryz.prog w = .ok (.string (str (D xa ++ [46]))) w := fun w => add_any (D xa) [46] w (by simp; omega)
  have l1 : (D xa ++ [46]).length ≤ 11 := by simp; omega
  generalize D xa ++ [46] = S1 at *
  have a2 := fun w => add_any S1 (D xb) w (by omega)
  have l2 : (S1 ++ D xb).length ≤ 21 := by simp; omega
  generalize S1 ++ D xb = S2 at *
  have a3 : ∀ w, (Op.stringOp .add (str S2) ⟨#[46]⟩).run Tryz.prog w = .ok (.string (str (S2 ++ [46]))) w := fun w => add_any S2 [46] w (by simp; omega)
  have l3 : (S2 ++ [46]).length ≤ 22 := by simp; omega
  generalize S2 ++ [46] = S3 at *
  have a4 := fun w => add_any S3 (D xc) w (by omega)
  have hNl : (S3 ++ D xc).length ≤ 32 := by simp; omega
  generalize S3 ++ D xc = N at *
  have HS := Lib.hid (preL_succ p)
  have HT := Lib.hid hT
  have HE := Lib.hid (show preL (p.take p.length) = preL p by rw [List.take_length])
  clear hm hT h5
  go_enter Tryz.func59, Tryz.ntmps59
  go_wp2_with fail
  go_quiet ((go_at_call 92; exact Calls.quiet_of_same (HN.out _ _ (by simp))))
  clear a1 a2 a3 a4 HN wa wb wc e1 e2 e3
  go_wp2_with fail
  go_loop [3, 4] (fun s i => ∃ k : Nat, k ≤ p.length ∧ i = .int .i64 k ∧ s = .string (str (N ++ preL (p.take k)))) (fun _ i => p.length - (intOf i).toNat)
  case atStart => exact ⟨0, Nat.zero_le _, rfl, by simp [preL]⟩
  case round =>
    obtain ⟨k, hk, rfl, rfl⟩ := hrel
    have hpl := HP.out k hk
    by_cases hlt : k < p.length
    · have hdec : decide (k < p.length) = true := by simpa using hlt
      have hn := Lib.hid (HS.out k hlt)
      obtain ⟨b, o, rfl, hc⟩ := HT.out.cells (by omega)
      have hck := fun O n => cell_on2 O n (hc k hlt)
      have hsl := HSL.out (p.getD k []) (by rw [List.getD_eq_getElem?_getD, List.getElem?_eq_getElem hlt]; exact List.getElem_mem hlt)
      clear hc
      generalize p.getD k [] = s at *
      generalize preL (p.take k) = R at *
      have hp8 := H4.out
      have hUl : (N ++ R).length ≤ 200 := by simp; omega
      obtain ⟨U, hU⟩ : ∃ U, U = N ++ R := ⟨_, rfl⟩
      rw [← hU] at hUl ⊢
      have HU := Lib.hid hU
      clear hU hpl
      by_cases hk0 : k = 0
      · rw [if_pos hk0] at hn
        have g1 : ((k : Int) == 0) = true := by rw [hk0]; rfl
        clear hk0
        have b1 : ∀ w, (Op.stringOp .add (str U) ⟨#[45]⟩).run Tryz.prog w = .ok (.string (str (U ++ [45]))) w := fun w => add_any U [45] w (by simp; omega)
        have hVl : (U ++ [45]).length ≤ 201 := by simp; omega
        obtain ⟨V, hV⟩ : ∃ V, V = U ++ [45] := ⟨_, rfl⟩
        rw [← hV] at b1 hVl
        have HV := Lib.hid hV
        clear hV
        have b2 := fun w => add_any V s w (by omega)
        go_wp2_with fail
        exact ⟨⟨k + 1, by omega, by go_num, by rw [hn.out, HV.out, HU.out]; simp⟩, by simp [intOf]; omega⟩
      · rw [if_neg hk0] at hn
        have g1 : ((k : Int) == 0) = false := beq_eq_false_iff_ne.2 (by omega)
        clear hk0
        have b1 : ∀ w, (Op.stringOp .add (str U) ⟨#[46]⟩).run Tryz.prog w = .ok (.string (str (U ++ [46]))) w := fun w => add_any U [46] w (by simp; omega)
        have hVl : (U ++ [46]).length ≤ 201 := by simp; omega
        obtain ⟨V, hV⟩ : ∃ V, V = U ++ [46] := ⟨_, rfl⟩
        rw [← hV] at b1 hVl
        have HV := Lib.hid hV
        clear hV
        have b2 := fun w => add_any V s w (by omega)
        go_wp2_with fail
        exact ⟨⟨k + 1, by omega, by go_num, by rw [hn.out, HV.out, HU.out]; simp⟩, by simp [intOf]; omega⟩
    · have hdec : decide (k < p.length) = false := by simpa using hlt
      have e : p.take k = p := by rw [List.take_of_length_le (by omega)]
      rw [e]
      clear e
      go_wp2
      go_ret
      exact ⟨by rw [HTX.out]; rfl, (((Gr.refl w).alloc _).drewN _).below⟩

/-! ### cut at each sign -/
def leastI (x : IvG) : Bool := !x.lo && decide (cmpV x.lv botV = 0)
/-- an interval's text, however long -/
def wordsB (x : IvG) : B :=
  if leastI x && x.e then [42] else if !x.e && decide (cmpV x.lv x.hv = 0) then 61 :: text x.lv
  else (if leastI x then [] else (if x.lo then [62] else [62, 61]) ++ text x.lv ++ (if x.e then [] else [32])) ++ (if x.e then [] else (if x.ho then [60] else [60, 61]) ++ text x.hv)
set_option maxHeartbeats 8000000 in
set_option maxRecDepth 100000 in
theorem rwords_any (x : IvG) (w : World) (hx : TI K w x) (rx : rightB x = true) :
    Calls Tryz.prog 26 #[gvV x] w fun e w' => e = .returned (.string (str (wordsB x))) ∧ Below w.heap.size w w' := by
  have hb1 : Below w.heap.size w (w.alloc (gvO x)) := (Below.refl _ w).alloc (Nat.le_refl _) _
  have hn1 : (w.alloc (gvO x)).heap[w.heap.size]? = some (gvO x) := heap_alloc_new w _
  obtain ⟨m1, m2⟩ := right_may rx
  have HV1 := Lib.hid (fun w' (g : Below w.heap.size w w') => rversion_any x.lv x.la x.lc w' (hx.l.gr g).txs m1)
  have HV2 := Lib.hid (fun w' (g : Below w.heap.size w w') => rversion_any x.hv x.ha x.hc w' (hx.h.gr g).txs m2)
  have HC := Lib.hid (fun w' (g : Below w.heap.size w w') => rCmp_any x.lv x.hv x.la x.lc x.ha x.hc w' (hx.l.gr g).txs (hx.h.gr g).txs m1 m2)
  have HCB := Lib.hid (fun w' gg (g : Below w.heap.size w w') (h : TxQ True w' (some ⟨gg, 0, none⟩) 1 [nought]) => rCmp_any x.lv botV x.la x.lc (some ⟨gg, 0, none⟩) 1 w' (hx.l.gr g).txs h.txs m1 botV_may)
  have t1 := text_size m1
  have t2 := text_size m2
  have HW : Hid (wordsB x = _) := Lib.hid (by unfold wordsB leastI; rfl)
  have HB1 := Lib.hid hb1
  have HN1 := Lib.hid hn1
  obtain ⟨q0, q1, q2, q3, q4, q5, q6, q7, q8, q9, q10⟩ := gv_cells hn1
  obtain ⟨lv, la, lc, lo, hv, ha, hc, ho, xe⟩ := x
  dsimp only at *
  generalize wordsB _ = res at *
  generalize text lv = T1 at *
  generalize text hv = T2 at *
  generalize cmpV lv botV = cb at *
  generalize cmpV lv hv = ch at *
  clear hx rx hb1 m1 m2
  go_enter Tryz.func26, Tryz.ntmps26
  go_upto_region 1 with fail
  generalize w.alloc (gvO _) = W at *
  go_cut [3] from 5 to 16 (fun v3 wx => v3 = .bool (!lo && decide (cb = 0)) ∧ Hid (Below w.heap.size w wx) ∧ Hid (wx.heap[w.heap.size]? = some (gvO ⟨lv, la, lc, lo, hv, ha, hc, ho, xe⟩)))
  case first =>
    have hlt : w.heap.size < W.heap.size := (Array.getElem?_eq_some_iff.1 hn1).1
    cases lo with
    | true =>
      have k4 := cell_regrown q4
      clear q0 q1 q2 q3 q4 q5 q6 q7 q8 q9 q10
      go_wp2_with fail
      refine wp_region_quiet_below (by kernel_rfl) (by kernel_rfl) ?_
      repeat (first | go_big_quiet_step (fail) | quiet_step (fail))
      refine wpQuiet_nil ?_
      intro _ hw'
      obtain ⟨⟨dq, osq⟩, hw''⟩ := hw'
      subst hw''
      have HBQ := Lib.hid (below_regrown W dq osq)
      clear k4
      generalize Go.Sort.grow (redrawn W dq) osq = w5 at *
      go_wp2_with fail
      go_meet
      case rel => exact ⟨rfl, Lib.hid (HB1.out.trans (HBQ.out.mono HB1.out.size)), Lib.hid ((HBQ.out.block _ hlt).trans HN1.out)⟩
    | false =>
      have HS : Hid (∀ w', Below W.heap.size W w' → w'.cell? ⟨w.heap.size, 0, none⟩ = some (.int .u32 lv.a) ∧ w'.cell? ⟨w.heap.size, 1, none⟩ = some (.int .u32 lv.b) ∧ w'.cell? ⟨w.heap.size, 2, none⟩ = some (.int .u32 lv.c) ∧ w'.cell? ⟨w.heap.size, 3, none⟩ = some (.slice la lv.pre.length lc) ∧ w'.cell? ⟨w.heap.size, 4, none⟩ = some (.bool false)) := Lib.hid (fun w' h => ⟨(h.cell hlt).trans q0, (h.cell hlt).trans q1, (h.cell hlt).trans q2, (h.cell hlt).trans q3, (h.cell hlt).trans q4⟩)
      have HD1 : Hid (Below W.heap.size W W.drew) := Lib.hid ((Gr.refl W).drew).below
      clear q5 q6 q7 q8 q9 q10
      go_wp2_with fail
      go_region_held3 (fun w' => w'.cell? ⟨w.heap.size, 0, none⟩ = some (.int .u32 lv.a) ∧ w'.cell? ⟨w.heap.size, 1, none⟩ = some (.int .u32 lv.b) ∧ w'.cell? ⟨w.heap.size, 2, none⟩ = some (.int .u32 lv.c) ∧ w'.cell? ⟨w.heap.size, 3, none⟩ = some (.slice la lv.pre.length lc) ∧ w'.cell? ⟨w.heap.size, 4, none⟩ = some (.bool false))
        (first | exact ⟨q0, q1, q2, q3, q4⟩ | assumption)
        (first
          | (go_at_call 58; refine (rbottom_any (K := True) W.drew).mono ?_; rintro e w2 ⟨g, rfl, hT2, hb2⟩; have HT2 := Lib.hid hT2; have HB2 : Hid (Below W.heap.size W w2) := Lib.hid (HD1.out.trans (hb2.mono HD1.out.size)); have hS2 := HS.out w2 HB2.out; clear hT2 hb2)
          | (go_at_call 57; refine (HCB.out w2 g (HB1.out.trans (HB2.out.mono HB1.out.size)) HT2.out).mono ?_; rintro e w3 ⟨rfl, hb3⟩; have HB3 : Hid (Below W.heap.size W w3) := Lib.hid (HB2.out.trans (hb3.mono HB2.out.size)); have hS3 := HS.out w3 HB3.out; clear hb3))
      all_goals
        clear hS2 hS3
        go_wp2_with fail
        go_meet
        case rel => exact ⟨by simp [Bool.beq_eq_decide_eq], Lib.hid (HB1.out.trans (HB3.out.mono HB1.out.size)), Lib.hid ((HB3.out.block _ hlt).trans HN1.out)⟩
  case rest =>
    obtain ⟨rfl, HB_wc, HN⟩ := hcut
    have hn_wc := HN.out
    clear q0 q1 q2 q3 q4 q5 q6 q7 q8 q9 q10 HCB HN HN1 HB1 hn1
    obtain ⟨q0, q1, q2, q3, q4, q5, q6, q7, q8, q9, q10⟩ := gv_cells hn_wc
    have hlw : w.heap.size < wc.heap.size := (Array.getElem?_eq_some_iff.1 hn_wc).1
    have HN_wc := Lib.hid hn_wc
    clear hn_wc
    by_cases hcb : cb = 0
    · subst hcb
      cases lo with
      | false =>
        cases xe with
        | true =>
          have HR : Hid (res = [42]) := Lib.hid (by rw [HW.out]; simp)
          clear HW
          go_wp2_with fail
          go_ret
          exact ⟨by rw [HR.out]; rfl, HB_wc.out⟩
        | false =>
          by_cases hch : ch = 0
          · subst hch
            have a1 : ∀ w, (Op.stringOp .add ⟨#[61]⟩ (str T1)).run Tryz.prog w = .ok (.string (str ([61] ++ T1))) w := fun w => add_any [61] T1 w (by first | (simp; done) | (simp; omega) | omega)
            have HR : Hid (res = 61 :: T1) := Lib.hid (by rw [HW.out]; simp [])
            clear HW
            go_wp2_with (first
              | (go_at_call 57; refine (HC.out _ HB_wc.out).mono ?_; rintro e wd ⟨rfl, hbd⟩; have HB_wd := Lib.hid (HB_wc.out.trans (hbd.mono HB_wc.out.size)); have hn_wd := (hbd.block _ hlw).trans HN_wc.out; clear hbd q0 q1 q2 q3 q4 q5 q6 q7 q8 q9 q10; obtain ⟨q0, q1, q2, q3, q4, q5, q6, q7, q8, q9, q10⟩ := gv_cells hn_wd; clear hn_wd)
              | (go_at_call 59; refine (HV1.out _ HB_wd.out).mono ?_; rintro e we ⟨rfl, hbe⟩; have HB_we := Lib.hid (HB_wd.out.trans (hbe.mono HB_wd.out.size)); clear hbe))
            go_ret
            exact ⟨by rw [HR.out]; rfl, HB_we.out⟩
          · have dch : (ch == 0) = false := beq_eq_false_iff_ne.2 hch
            have dch2 : decide (ch = 0) = false := decide_eq_false hch
            rw [dch2] at HW
            clear hch dch2
            cases ho with
            | true =>
              have b0 : ∀ w, (Op.stringOp .add ⟨#[]⟩ ⟨#[60]⟩).run Tryz.prog w = .ok (.string ⟨#[60]⟩) w := fun w => add_any [] [60] w (by simp)
              have a5 : ∀ w, (Op.stringOp .add ⟨#[60]⟩ (str T2)).run Tryz.prog w = .ok (.string (str ([60] ++ T2))) w := fun w => add_any [60] T2 w (by first | (simp; done) | (simp; omega))
              have HR : Hid (res = [60] ++ T2) := Lib.hid (by rw [HW.out]; simp)
              clear HW
              go_wp2_with (go_at_call 57; refine (HC.out _ HB_wc.out).mono ?_; rintro e wd ⟨rfl, hbd⟩; refine Hid.out ?_)
              refine Lib.hid ?_
              have HB_wd := Lib.hid (HB_wc.out.trans (hbd.mono HB_wc.out.size))
              have hn_wd := (hbd.block _ hlw).trans HN_wc.out
              have HN_wd := Lib.hid hn_wd
              clear hbd q0 q1 q2 q3 q4 q5 q6 q7 q8 q9 q10
              obtain ⟨q0, q1, q2, q3, q4, q5, q6, q7, q8, q9, q10⟩ := gv_cells hn_wd
              clear hn_wd
              go_wp2_with (go_at_call 59; refine (HV2.out _ HB_wd.out).mono ?_; rintro e wz ⟨rfl, hbq⟩; refine Hid.out ?_)
              refine Lib.hid ?_
              have HB_wz := Lib.hid (HB_wd.out.trans (hbq.mono HB_wd.out.size))
              have hn_wz := (hbq.block _ (Array.getElem?_eq_some_iff.1 HN_wd.out).1).trans HN_wd.out
              have HN_wz := Lib.hid hn_wz
              clear hbq q0 q1 q2 q3 q4 q5 q6 q7 q8 q9 q10
              obtain ⟨q0, q1, q2, q3, q4, q5, q6, q7, q8, q9, q10⟩ := gv_cells hn_wz
              clear hn_wz
              go_wp2_with fail
              go_ret
              exact ⟨by rw [HR.out]; rfl, HB_wz.out⟩
            | false =>
              have b0 : ∀ w, (Op.stringOp .add ⟨#[]⟩ ⟨#[60]⟩).run Tryz.prog w = .ok (.string ⟨#[60]⟩) w := fun w => add_any [] [60] w (by simp)
              have b1 : ∀ w, (Op.stringOp .add ⟨#[60]⟩ ⟨#[61]⟩).run Tryz.prog w = .ok (.string ⟨#[60, 61]⟩) w := fun w => add_any [60] [61] w (by simp)
              have a5 : ∀ w, (Op.stringOp .add ⟨#[60, 61]⟩ (str T2)).run Tryz.prog w = .ok (.string (str ([60, 61] ++ T2))) w := fun w => add_any [60, 61] T2 w (by first | (simp; done) | (simp; omega))
              have HR : Hid (res = [60, 61] ++ T2) := Lib.hid (by rw [HW.out]; simp)
              clear HW
              go_wp2_with (go_at_call 57; refine (HC.out _ HB_wc.out).mono ?_; rintro e wd ⟨rfl, hbd⟩; refine Hid.out ?_)
              refine Lib.hid ?_
              have HB_wd := Lib.hid (HB_wc.out.trans (hbd.mono HB_wc.out.size))
              have hn_wd := (hbd.block _ hlw).trans HN_wc.out
              have HN_wd := Lib.hid hn_wd
              clear hbd q0 q1 q2 q3 q4 q5 q6 q7 q8 q9 q10
              obtain ⟨q0, q1, q2, q3, q4, q5, q6, q7, q8, q9, q10⟩ := gv_cells hn_wd
              clear hn_wd
              go_wp2_with (go_at_call 59; refine (HV2.out _ HB_wd.out).mono ?_; rintro e wz ⟨rfl, hbq⟩; refine Hid.out ?_)
              refine Lib.hid ?_
              have HB_wz := Lib.hid (HB_wd.out.trans (hbq.mono HB_wd.out.size))
              have hn_wz := (hbq.block _ (Array.getElem?_eq_some_iff.1 HN_wd.out).1).trans HN_wd.out
              have HN_wz := Lib.hid hn_wz
              clear hbq q0 q1 q2 q3 q4 q5 q6 q7 q8 q9 q10
              obtain ⟨q0, q1, q2, q3, q4, q5, q6, q7, q8, q9, q10⟩ := gv_cells hn_wz
              clear hn_wz
              go_wp2_with fail
              go_ret
              exact ⟨by rw [HR.out]; rfl, HB_wz.out⟩
      | true =>
        cases xe with
        | true =>
          have a1 : ∀ w, (Op.stringOp .add ⟨#[62]⟩ (str T1)).run Tryz.prog w = .ok (.string (str ([62] ++ T1))) w := fun w => add_any [62] T1 w (by first | (simp; done) | (simp; omega) | omega)
          have lG1 : ([62] ++ T1).length ≤ 202 := by first | (simp; done) | (simp; omega)
          obtain ⟨G1, hG1⟩ : ∃ G1, G1 = [62] ++ T1 := ⟨_, rfl⟩
          rw [← hG1] at lG1
          rw [← hG1] at a1
          have HR : Hid (res = G1) := Lib.hid (by rw [HW.out, hG1]; simp)
          clear hG1
          clear HW
          go_wp2_with (go_at_call 59; refine (HV1.out _ HB_wc.out).mono ?_; rintro e wv ⟨rfl, hbq⟩; refine Hid.out ?_)
          refine Lib.hid ?_
          have HB_wv := Lib.hid (HB_wc.out.trans (hbq.mono HB_wc.out.size))
          have hn_wv := (hbq.block _ (Array.getElem?_eq_some_iff.1 HN_wc.out).1).trans HN_wc.out
          have HN_wv := Lib.hid hn_wv
          clear hbq q0 q1 q2 q3 q4 q5 q6 q7 q8 q9 q10
          obtain ⟨q0, q1, q2, q3, q4, q5, q6, q7, q8, q9, q10⟩ := gv_cells hn_wv
          clear hn_wv
          go_wp2_with fail
          go_ret
          exact ⟨by rw [HR.out]; rfl, HB_wv.out⟩
        | false =>
          by_cases hch : ch = 0
          · subst hch
            have a1 : ∀ w, (Op.stringOp .add ⟨#[61]⟩ (str T1)).run Tryz.prog w = .ok (.string (str ([61] ++ T1))) w := fun w => add_any [61] T1 w (by first | (simp; done) | (simp; omega) | omega)
            have HR : Hid (res = 61 :: T1) := Lib.hid (by rw [HW.out]; simp [])
            clear HW
            go_wp2_with (first
              | (go_at_call 57; refine (HC.out _ HB_wc.out).mono ?_; rintro e wd ⟨rfl, hbd⟩; have HB_wd := Lib.hid (HB_wc.out.trans (hbd.mono HB_wc.out.size)); have hn_wd := (hbd.block _ hlw).trans HN_wc.out; clear hbd q0 q1 q2 q3 q4 q5 q6 q7 q8 q9 q10; obtain ⟨q0, q1, q2, q3, q4, q5, q6, q7, q8, q9, q10⟩ := gv_cells hn_wd; clear hn_wd)
              | (go_at_call 59; refine (HV1.out _ HB_wd.out).mono ?_; rintro e we ⟨rfl, hbe⟩; have HB_we := Lib.hid (HB_wd.out.trans (hbe.mono HB_wd.out.size)); clear hbe))
            go_ret
            exact ⟨by rw [HR.out]; rfl, HB_we.out⟩
          · have dch : (ch == 0) = false := beq_eq_false_iff_ne.2 hch
            have dch2 : decide (ch = 0) = false := decide_eq_false hch
            rw [dch2] at HW
            clear hch dch2
            cases ho with
            | true =>
              have a1 : ∀ w, (Op.stringOp .add ⟨#[62]⟩ (str T1)).run Tryz.prog w = .ok (.string (str ([62] ++ T1))) w := fun w => add_any [62] T1 w (by first | (simp; done) | (simp; omega) | omega)
              have lG1 : ([62] ++ T1).length ≤ 202 := by first | (simp; done) | (simp; omega)
              obtain ⟨G1, hG1⟩ : ∃ G1, G1 = [62] ++ T1 := ⟨_, rfl⟩
              rw [← hG1] at lG1
              rw [← hG1] at a1
              have a2 : ∀ w, (Op.stringOp .add (str G1) ⟨#[32]⟩).run Tryz.prog w = .ok (.string (str (G1 ++ [32]))) w := fun w => add_any G1 [32] w (by first | (simp; done) | (simp; omega) | omega)
              have lG2 : (G1 ++ [32]).length ≤ 203 := by first | (simp; done) | (simp; omega)
              obtain ⟨G2, hG2⟩ : ∃ G2, G2 = G1 ++ [32] := ⟨_, rfl⟩
              rw [← hG2] at lG2
              rw [← hG2] at a2
              have a3 : ∀ w, (Op.stringOp .add (str G2) ⟨#[60]⟩).run Tryz.prog w = .ok (.string (str (G2 ++ [60]))) w := fun w => add_any G2 [60] w (by first | (simp; done) | (simp; omega) | omega)
              have lG3 : (G2 ++ [60]).length ≤ 204 := by first | (simp; done) | (simp; omega)
              obtain ⟨G3, hG3⟩ : ∃ G3, G3 = G2 ++ [60] := ⟨_, rfl⟩
              rw [← hG3] at lG3
              rw [← hG3] at a3
              have a5 : ∀ w, (Op.stringOp .add (str G3) (str T2)).run Tryz.prog w = .ok (.string (str (G3 ++ T2))) w := fun w => add_any G3 T2 w (by first | (simp; done) | (simp; omega) | omega)
              have lG5 : (G3 ++ T2).length ≤ 404 := by first | (simp; done) | (simp; omega)
              obtain ⟨G5, hG5⟩ : ∃ G5, G5 = G3 ++ T2 := ⟨_, rfl⟩
              rw [← hG5] at lG5
              rw [← hG5] at a5
              have HR : Hid (res = G5) := Lib.hid (by rw [HW.out, hG5, hG3, hG2, hG1]; simp)
              clear hG5
              clear hG3
              clear hG2
              clear hG1
              clear HW
              go_wp2_with (go_at_call 57; refine (HC.out _ HB_wc.out).mono ?_; rintro e wd ⟨rfl, hbd⟩; refine Hid.out ?_)
              refine Lib.hid ?_
              have HB_wd := Lib.hid (HB_wc.out.trans (hbd.mono HB_wc.out.size))
              have hn_wd := (hbd.block _ hlw).trans HN_wc.out
              have HN_wd := Lib.hid hn_wd
              clear hbd q0 q1 q2 q3 q4 q5 q6 q7 q8 q9 q10
              obtain ⟨q0, q1, q2, q3, q4, q5, q6, q7, q8, q9, q10⟩ := gv_cells hn_wd
              clear hn_wd
              go_wp2_with (go_at_call 59; refine (HV1.out _ HB_wd.out).mono ?_; rintro e wv ⟨rfl, hbq⟩; refine Hid.out ?_)
              refine Lib.hid ?_
              have HB_wv := Lib.hid (HB_wd.out.trans (hbq.mono HB_wd.out.size))
              have hn_wv := (hbq.block _ (Array.getElem?_eq_some_iff.1 HN_wd.out).1).trans HN_wd.out
              have HN_wv := Lib.hid hn_wv
              clear hbq q0 q1 q2 q3 q4 q5 q6 q7 q8 q9 q10
              obtain ⟨q0, q1, q2, q3, q4, q5, q6, q7, q8, q9, q10⟩ := gv_cells hn_wv
              clear hn_wv
              go_wp2_with (go_at_call 59; refine (HV2.out _ HB_wv.out).mono ?_; rintro e wz ⟨rfl, hbq⟩; refine Hid.out ?_)
              refine Lib.hid ?_
              have HB_wz := Lib.hid (HB_wv.out.trans (hbq.mono HB_wv.out.size))
              have hn_wz := (hbq.block _ (Array.getElem?_eq_some_iff.1 HN_wv.out).1).trans HN_wv.out
              have HN_wz := Lib.hid hn_wz
              clear hbq q0 q1 q2 q3 q4 q5 q6 q7 q8 q9 q10
              obtain ⟨q0, q1, q2, q3, q4, q5, q6, q7, q8, q9, q10⟩ := gv_cells hn_wz
              clear hn_wz
              go_wp2_with fail
              go_ret
              exact ⟨by rw [HR.out]; rfl, HB_wz.out⟩
            | false =>
              have a1 : ∀ w, (Op.stringOp .add ⟨#[62]⟩ (str T1)).run Tryz.prog w = .ok (.string (str ([62] ++ T1))) w := fun w => add_any [62] T1 w (by first | (simp; done) | (simp; omega) | omega)
              have lG1 : ([62] ++ T1).length ≤ 202 := by first | (simp; done) | (simp; omega)
              obtain ⟨G1, hG1⟩ : ∃ G1, G1 = [62] ++ T1 := ⟨_, rfl⟩
              rw [← hG1] at lG1
              rw [← hG1] at a1
              have a2 : ∀ w, (Op.stringOp .add (str G1) ⟨#[32]⟩).run Tryz.prog w = .ok (.string (str (G1 ++ [32]))) w := fun w => add_any G1 [32] w (by first | (simp; done) | (simp; omega) | omega)
              have lG2 : (G1 ++ [32]).length ≤ 203 := by first | (simp; done) | (simp; omega)
              obtain ⟨G2, hG2⟩ : ∃ G2, G2 = G1 ++ [32] := ⟨_, rfl⟩
              rw [← hG2] at lG2
              rw [← hG2] at a2
              have a3 : ∀ w, (Op.stringOp .add (str G2) ⟨#[60]⟩).run Tryz.prog w = .ok (.string (str (G2 ++ [60]))) w := fun w => add_any G2 [60] w (by first | (simp; done) | (simp; omega) | omega)
              have lG3 : (G2 ++ [60]).length ≤ 204 := by first | (simp; done) | (simp; omega)
              obtain ⟨G3, hG3⟩ : ∃ G3, G3 = G2 ++ [60] := ⟨_, rfl⟩
              rw [← hG3] at lG3
              rw [← hG3] at a3
              have a4 : ∀ w, (Op.stringOp .add (str G3) ⟨#[61]⟩).run Tryz.prog w = .ok (.string (str (G3 ++ [61]))) w := fun w => add_any G3 [61] w (by first | (simp; done) | (simp; omega) | omega)
              have lG4 : (G3 ++ [61]).length ≤ 205 := by first | (simp; done) | (simp; omega)
              obtain ⟨G4, hG4⟩ : ∃ G4, G4 = G3 ++ [61] := ⟨_, rfl⟩
              rw [← hG4] at lG4
              rw [← hG4] at a4
              have a5 : ∀ w, (Op.stringOp .add (str G4) (str T2)).run Tryz.prog w = .ok (.string (str (G4 ++ T2))) w := fun w => add_any G4 T2 w (by first | (simp; done) | (simp; omega) | omega)
              have lG5 : (G4 ++ T2).length ≤ 405 := by first | (simp; done) | (simp; omega)
              obtain ⟨G5, hG5⟩ : ∃ G5, G5 = G4 ++ T2 := ⟨_, rfl⟩
              rw [← hG5] at lG5
              rw [← hG5] at a5
              have HR : Hid (res = G5) := Lib.hid (by rw [HW.out, hG5, hG4, hG3, hG2, hG1]; simp)
              clear hG5
              clear hG4
              clear hG3
              clear hG2
              clear hG1
              clear HW
              go_wp2_with (go_at_call 57; refine (HC.out _ HB_wc.out).mono ?_; rintro e wd ⟨rfl, hbd⟩; refine Hid.out ?_)
              refine Lib.hid ?_
              have HB_wd := Lib.hid (HB_wc.out.trans (hbd.mono HB_wc.out.size))
              have hn_wd := (hbd.block _ hlw).trans HN_wc.out
              have HN_wd := Lib.hid hn_wd
              clear hbd q0 q1 q2 q3 q4 q5 q6 q7 q8 q9 q10
              obtain ⟨q0, q1, q2, q3, q4, q5, q6, q7, q8, q9, q10⟩ := gv_cells hn_wd
              clear hn_wd
              go_wp2_with (go_at_call 59; refine (HV1.out _ HB_wd.out).mono ?_; rintro e wv ⟨rfl, hbq⟩; refine Hid.out ?_)
              refine Lib.hid ?_
              have HB_wv := Lib.hid (HB_wd.out.trans (hbq.mono HB_wd.out.size))
              have hn_wv := (hbq.block _ (Array.getElem?_eq_some_iff.1 HN_wd.out).1).trans HN_wd.out
              have HN_wv := Lib.hid hn_wv
              clear hbq q0 q1 q2 q3 q4 q5 q6 q7 q8 q9 q10
              obtain ⟨q0, q1, q2, q3, q4, q5, q6, q7, q8, q9, q10⟩ := gv_cells hn_wv
              clear hn_wv
              go_wp2_with (go_at_call 59; refine (HV2.out _ HB_wv.out).mono ?_; rintro e wz ⟨rfl, hbq⟩; refine Hid.out ?_)
              refine Lib.hid ?_
              have HB_wz := Lib.hid (HB_wv.out.trans (hbq.mono HB_wv.out.size))
              have hn_wz := (hbq.block _ (Array.getElem?_eq_some_iff.1 HN_wv.out).1).trans HN_wv.out
              have HN_wz := Lib.hid hn_wz
              clear hbq q0 q1 q2 q3 q4 q5 q6 q7 q8 q9 q10
              obtain ⟨q0, q1, q2, q3, q4, q5, q6, q7, q8, q9, q10⟩ := gv_cells hn_wz
              clear hn_wz
              go_wp2_with fail
              go_ret
              exact ⟨by rw [HR.out]; rfl, HB_wz.out⟩
    · have dcb : decide (cb = 0) = false := decide_eq_false hcb
      rw [dcb] at HW ⊢
      clear hcb dcb
      cases lo with
      | false =>
        cases xe with
        | true =>
          have a1 : ∀ w, (Op.stringOp .add ⟨#[62, 61]⟩ (str T1)).run Tryz.prog w = .ok (.string (str ([62, 61] ++ T1))) w := fun w => add_any [62, 61] T1 w (by first | (simp; done) | (simp; omega) | omega)
          have lG1 : ([62, 61] ++ T1).length ≤ 202 := by first | (simp; done) | (simp; omega)
          obtain ⟨G1, hG1⟩ : ∃ G1, G1 = [62, 61] ++ T1 := ⟨_, rfl⟩
          rw [← hG1] at lG1
          rw [← hG1] at a1
          have HR : Hid (res = G1) := Lib.hid (by rw [HW.out, hG1]; simp)
          clear hG1
          clear HW
          go_wp2_with (go_at_call 59; refine (HV1.out _ HB_wc.out).mono ?_; rintro e wv ⟨rfl, hbq⟩; refine Hid.out ?_)
          refine Lib.hid ?_
          have HB_wv := Lib.hid (HB_wc.out.trans (hbq.mono HB_wc.out.size))
          have hn_wv := (hbq.block _ (Array.getElem?_eq_some_iff.1 HN_wc.out).1).trans HN_wc.out
          have HN_wv := Lib.hid hn_wv
          clear hbq q0 q1 q2 q3 q4 q5 q6 q7 q8 q9 q10
          obtain ⟨q0, q1, q2, q3, q4, q5, q6, q7, q8, q9, q10⟩ := gv_cells hn_wv
          clear hn_wv
          go_wp2_with fail
          go_ret
          exact ⟨by rw [HR.out]; rfl, HB_wv.out⟩
        | false =>
          by_cases hch : ch = 0
          · subst hch
            have a1 : ∀ w, (Op.stringOp .add ⟨#[61]⟩ (str T1)).run Tryz.prog w = .ok (.string (str ([61] ++ T1))) w := fun w => add_any [61] T1 w (by first | (simp; done) | (simp; omega) | omega)
            have HR : Hid (res = 61 :: T1) := Lib.hid (by rw [HW.out]; simp [])
            clear HW
            go_wp2_with (first
              | (go_at_call 57; refine (HC.out _ HB_wc.out).mono ?_; rintro e wd ⟨rfl, hbd⟩; have HB_wd := Lib.hid (HB_wc.out.trans (hbd.mono HB_wc.out.size)); have hn_wd := (hbd.block _ hlw).trans HN_wc.out; clear hbd q0 q1 q2 q3 q4 q5 q6 q7 q8 q9 q10; obtain ⟨q0, q1, q2, q3, q4, q5, q6, q7, q8, q9, q10⟩ := gv_cells hn_wd; clear hn_wd)
              | (go_at_call 59; refine (HV1.out _ HB_wd.out).mono ?_; rintro e we ⟨rfl, hbe⟩; have HB_we := Lib.hid (HB_wd.out.trans (hbe.mono HB_wd.out.size)); clear hbe))
            go_ret
            exact ⟨by rw [HR.out]; rfl, HB_we.out⟩
          · have dch : (ch == 0) = false := beq_eq_false_iff_ne.2 hch
            have dch2 : decide (ch = 0) = false := decide_eq_false hch
            rw [dch2] at HW
            clear hch dch2
            cases ho with
            | true =>
              have a1 : ∀ w, (Op.stringOp .add ⟨#[62, 61]⟩ (str T1)).run Tryz.prog w = .ok (.string (str ([62, 61] ++ T1))) w := fun w => add_any [62, 61] T1 w (by first | (simp; done) | (simp; omega) | omega)
              have lG1 : ([62, 61] ++ T1).length ≤ 202 := by first | (simp; done) | (simp; omega)
              obtain ⟨G1, hG1⟩ : ∃ G1, G1 = [62, 61] ++ T1 := ⟨_, rfl⟩
              rw [← hG1] at lG1
              rw [← hG1] at a1
              have a2 : ∀ w, (Op.stringOp .add (str G1) ⟨#[32]⟩).run Tryz.prog w = .ok (.string (str (G1 ++ [32]))) w := fun w => add_any G1 [32] w (by first | (simp; done) | (simp; omega) | omega)
              have lG2 : (G1 ++ [32]).length ≤ 203 := by first | (simp; done) | (simp; omega)
              obtain ⟨G2, hG2⟩ : ∃ G2, G2 = G1 ++ [32] := ⟨_, rfl⟩
              rw [← hG2] at lG2
              rw [← hG2] at a2
              have a3 : ∀ w, (Op.stringOp .add (str G2) ⟨#[60]⟩).run Tryz.prog w = .ok (.string (str (G2 ++ [60]))) w := fun w => add_any G2 [60] w (by first | (simp; done) | (simp; omega) | omega)
              have lG3 : (G2 ++ [60]).length ≤ 204 := by first | (simp; done) | (simp; omega)
              obtain ⟨G3, hG3⟩ : ∃ G3, G3 = G2 ++ [60] := ⟨_, rfl⟩
              rw [← hG3] at lG3
              rw [← hG3] at a3
              have a5 : ∀ w, (Op.stringOp .add (str G3) (str T2)).run Tryz.prog w = .ok (.string (str (G3 ++ T2))) w := fun w => add_any G3 T2 w (by first | (simp; done) | (simp; omega) | omega)
              have lG5 : (G3 ++ T2).length ≤ 404 := by first | (simp; done) | (simp; omega)
              obtain ⟨G5, hG5⟩ : ∃ G5, G5 = G3 ++ T2 := ⟨_, rfl⟩
              rw [← hG5] at lG5
              rw [← hG5] at a5
              have HR : Hid (res = G5) := Lib.hid (by rw [HW.out, hG5, hG3, hG2, hG1]; simp)
              clear hG5
              clear hG3
              clear hG2
              clear hG1
              clear HW
              go_wp2_with (go_at_call 57; refine (HC.out _ HB_wc.out).mono ?_; rintro e wd ⟨rfl, hbd⟩; refine Hid.out ?_)
              refine Lib.hid ?_
              have HB_wd := Lib.hid (HB_wc.out.trans (hbd.mono HB_wc.out.size))
              have hn_wd := (hbd.block _ hlw).trans HN_wc.out
              have HN_wd := Lib.hid hn_wd
              clear hbd q0 q1 q2 q3 q4 q5 q6 q7 q8 q9 q10
              obtain ⟨q0, q1, q2, q3, q4, q5, q6, q7, q8, q9, q10⟩ := gv_cells hn_wd
              clear hn_wd
              go_wp2_with (go_at_call 59; refine (HV1.out _ HB_wd.out).mono ?_; rintro e wv ⟨rfl, hbq⟩; refine Hid.out ?_)
              refine Lib.hid ?_
              have HB_wv := Lib.hid (HB_wd.out.trans (hbq.mono HB_wd.out.size))
              have hn_wv := (hbq.block _ (Array.getElem?_eq_some_iff.1 HN_wd.out).1).trans HN_wd.out
              have HN_wv := Lib.hid hn_wv
              clear hbq q0 q1 q2 q3 q4 q5 q6 q7 q8 q9 q10
              obtain ⟨q0, q1, q2, q3, q4, q5, q6, q7, q8, q9, q10⟩ := gv_cells hn_wv
              clear hn_wv
              go_wp2_with (go_at_call 59; refine (HV2.out _ HB_wv.out).mono ?_; rintro e wz ⟨rfl, hbq⟩; refine Hid.out ?_)
              refine Lib.hid ?_
              have HB_wz := Lib.hid (HB_wv.out.trans (hbq.mono HB_wv.out.size))
              have hn_wz := (hbq.block _ (Array.getElem?_eq_some_iff.1 HN_wv.out).1).trans HN_wv.out
              have HN_wz := Lib.hid hn_wz
              clear hbq q0 q1 q2 q3 q4 q5 q6 q7 q8 q9 q10
              obtain ⟨q0, q1, q2, q3, q4, q5, q6, q7, q8, q9, q10⟩ := gv_cells hn_wz
              clear hn_wz
              go_wp2_with fail
              go_ret
              exact ⟨by rw [HR.out]; rfl, HB_wz.out⟩
            | false =>
              have a1 : ∀ w, (Op.stringOp .add ⟨#[62, 61]⟩ (str T1)).run Tryz.prog w = .ok (.string (str ([62, 61] ++ T1))) w := fun w => add_any [62, 61] T1 w (by first | (simp; done) | (simp; omega) | omega)
              have lG1 : ([62, 61] ++ T1).length ≤ 202 := by first | (simp; done) | (simp; omega)
              obtain ⟨G1, hG1⟩ : ∃ G1, G1 = [62, 61] ++ T1 := ⟨_, rfl⟩
              rw [← hG1] at lG1
              rw [← hG1] at a1
              have a2 : ∀ w, (Op.stringOp .add (str G1) ⟨#[32]⟩).run Tryz.prog w = .ok (.string (str (G1 ++ [32]))) w := fun w => add_any G1 [32] w (by first | (simp; done) | (simp; omega) | omega)
              have lG2 : (G1 ++ [32]).length ≤ 203 := by first | (simp; done) | (simp; omega)
              obtain ⟨G2, hG2⟩ : ∃ G2, G2 = G1 ++ [32] := ⟨_, rfl⟩
              rw [← hG2] at lG2
              rw [← hG2] at a2
              have a3 : ∀ w, (Op.stringOp .add (str G2) ⟨#[60]⟩).run Tryz.prog w = .ok (.string (str (G2 ++ [60]))) w := fun w => add_any G2 [60] w (by first | (simp; done) | (simp; omega) | omega)
              have lG3 : (G2 ++ [60]).length ≤ 204 := by first | (simp; done) | (simp; omega)
              obtain ⟨G3, hG3⟩ : ∃ G3, G3 = G2 ++ [60] := ⟨_, rfl⟩
              rw [← hG3] at lG3
              rw [← hG3] at a3
              have a4 : ∀ w, (Op.stringOp .add (str G3) ⟨#[61]⟩).run Tryz.prog w = .ok (.string (str (G3 ++ [61]))) w := fun w => add_any G3 [61] w (by first | (simp; done) | (simp; omega) | omega)
              have lG4 : (G3 ++ [61]).length ≤ 205 := by first | (simp; done) | (simp; omega)
              obtain ⟨G4, hG4⟩ : ∃ G4, G4 = G3 ++ [61] := ⟨_, rfl⟩
              rw [← hG4] at lG4
              rw [← hG4] at a4
              have a5 : ∀ w, (Op.stringOp .add (str G4) (str T2)).run Tryz.prog w = .ok (.string (str (G4 ++ T2))) w := fun w => add_any G4 T2 w (by first | (simp; done) | (simp; omega) | omega)
              have lG5 : (G4 ++ T2).length ≤ 405 := by first | (simp; done) | (simp; omega)
              obtain ⟨G5, hG5⟩ : ∃ G5, G5 = G4 ++ T2 := ⟨_, rfl⟩
              rw [← hG5] at lG5
              rw [← hG5] at a5
              have HR : Hid (res = G5) := Lib.hid (by rw [HW.out, hG5, hG4, hG3, hG2, hG1]; simp)
              clear hG5
              clear hG4
              clear hG3
              clear hG2
              clear hG1
              clear HW
              go_wp2_with (go_at_call 57; refine (HC.out _ HB_wc.out).mono ?_; rintro e wd ⟨rfl, hbd⟩; refine Hid.out ?_)
              refine Lib.hid ?_
              have HB_wd := Lib.hid (HB_wc.out.trans (hbd.mono HB_wc.out.size))
              have hn_wd := (hbd.block _ hlw).trans HN_wc.out
              have HN_wd := Lib.hid hn_wd
              clear hbd q0 q1 q2 q3 q4 q5 q6 q7 q8 q9 q10
              obtain ⟨q0, q1, q2, q3, q4, q5, q6, q7, q8, q9, q10⟩ := gv_cells hn_wd
              clear hn_wd
              go_wp2_with (go_at_call 59; refine (HV1.out _ HB_wd.out).mono ?_; rintro e wv ⟨rfl, hbq⟩; refine Hid.out ?_)
              refine Lib.hid ?_
              have HB_wv := Lib.hid (HB_wd.out.trans (hbq.mono HB_wd.out.size))
              have hn_wv := (hbq.block _ (Array.getElem?_eq_some_iff.1 HN_wd.out).1).trans HN_wd.out
              have HN_wv := Lib.hid hn_wv
              clear hbq q0 q1 q2 q3 q4 q5 q6 q7 q8 q9 q10
              obtain ⟨q0, q1, q2, q3, q4, q5, q6, q7, q8, q9, q10⟩ := gv_cells hn_wv
              clear hn_wv
              go_wp2_with (go_at_call 59; refine (HV2.out _ HB_wv.out).mono ?_; rintro e wz ⟨rfl, hbq⟩; refine Hid.out ?_)
              refine Lib.hid ?_
              have HB_wz := Lib.hid (HB_wv.out.trans (hbq.mono HB_wv.out.size))
              have hn_wz := (hbq.block _ (Array.getElem?_eq_some_iff.1 HN_wv.out).1).trans HN_wv.out
              have HN_wz := Lib.hid hn_wz
              clear hbq q0 q1 q2 q3 q4 q5 q6 q7 q8 q9 q10
              obtain ⟨q0, q1, q2, q3, q4, q5, q6, q7, q8, q9, q10⟩ := gv_cells hn_wz
              clear hn_wz
              go_wp2_with fail
              go_ret
              exact ⟨by rw [HR.out]; rfl, HB_wz.out⟩
      | true =>
        cases xe with
        | true =>
          have a1 : ∀ w, (Op.stringOp .add ⟨#[62]⟩ (str T1)).run Tryz.prog w = .ok (.string (str ([62] ++ T1))) w := fun w => add_any [62] T1 w (by first | (simp; done) | (simp; omega) | omega)
          have lG1 : ([62] ++ T1).length ≤ 202 := by first | (simp; done) | (simp; omega)
          obtain ⟨G1, hG1⟩ : ∃ G1, G1 = [62] ++ T1 := ⟨_, rfl⟩
          rw [← hG1] at lG1
          rw [← hG1] at a1
          have HR : Hid (res = G1) := Lib.hid (by rw [HW.out, hG1]; simp)
          clear hG1
          clear HW
          go_wp2_with (go_at_call 59; refine (HV1.out _ HB_wc.out).mono ?_; rintro e wv ⟨rfl, hbq⟩; refine Hid.out ?_)
          refine Lib.hid ?_
          have HB_wv := Lib.hid (HB_wc.out.trans (hbq.mono HB_wc.out.size))
          have hn_wv := (hbq.block _ (Array.getElem?_eq_some_iff.1 HN_wc.out).1).trans HN_wc.out
          have HN_wv := Lib.hid hn_wv
          clear hbq q0 q1 q2 q3 q4 q5 q6 q7 q8 q9 q10
          obtain ⟨q0, q1, q2, q3, q4, q5, q6, q7, q8, q9, q10⟩ := gv_cells hn_wv
          clear hn_wv
          go_wp2_with fail
          go_ret
          exact ⟨by rw [HR.out]; rfl, HB_wv.out⟩
        | false =>
          by_cases hch : ch = 0
          · subst hch
            have a1 : ∀ w, (Op.stringOp .add ⟨#[61]⟩ (str T1)).run Tryz.prog w = .ok (.string (str ([61] ++ T1))) w := fun w => add_any [61] T1 w (by first | (simp; done) | (simp; omega) | omega)
            have HR : Hid (res = 61 :: T1) := Lib.hid (by rw [HW.out]; simp [])
            clear HW
            go_wp2_with (first
              | (go_at_call 57; refine (HC.out _ HB_wc.out).mono ?_; rintro e wd ⟨rfl, hbd⟩; have HB_wd := Lib.hid (HB_wc.out.trans (hbd.mono HB_wc.out.size)); have hn_wd := (hbd.block _ hlw).trans HN_wc.out; clear hbd q0 q1 q2 q3 q4 q5 q6 q7 q8 q9 q10; obtain ⟨q0, q1, q2, q3, q4, q5, q6, q7, q8, q9, q10⟩ := gv_cells hn_wd; clear hn_wd)
              | (go_at_call 59; refine (HV1.out _ HB_wd.out).mono ?_; rintro e we ⟨rfl, hbe⟩; have HB_we := Lib.hid (HB_wd.out.trans (hbe.mono HB_wd.out.size)); clear hbe))
            go_ret
            exact ⟨by rw [HR.out]; rfl, HB_we.out⟩
          · have dch : (ch == 0) = false := beq_eq_false_iff_ne.2 hch
            have dch2 : decide (ch = 0) = false := decide_eq_false hch
            rw [dch2] at HW
            clear hch dch2
            cases ho with
            | true =>
              have a1 : ∀ w, (Op.stringOp .add ⟨#[62]⟩ (str T1)).run Tryz.prog w = .ok (.string (str ([62] ++ T1))) w := fun w => add_any [62] T1 w (by first | (simp; done) | (simp; omega) | omega)
              have lG1 : ([62] ++ T1).length ≤ 202 := by first | (simp; done) | (simp; omega)
              obtain ⟨G1, hG1⟩ : ∃ G1, G1 = [62] ++ T1 := ⟨_, rfl⟩
              rw [← hG1] at lG1
              rw [← hG1] at a1
              have a2 : ∀ w, (Op.stringOp .add (str G1) ⟨#[32]⟩).run Tryz.prog w = .ok (.string (str (G1 ++ [32]))) w := fun w => add_any G1 [32] w (by first | (simp; done) | (simp; omega) | omega)
              have lG2 : (G1 ++ [32]).length ≤ 203 := by first | (simp; done) | (simp; omega)
              obtain ⟨G2, hG2⟩ : ∃ G2, G2 = G1 ++ [32] := ⟨_, rfl⟩
              rw [← hG2] at lG2
              rw [← hG2] at a2
              have a3 : ∀ w, (Op.stringOp .add (str G2) ⟨#[60]⟩).run Tryz.prog w = .ok (.string (str (G2 ++ [60]))) w := fun w => add_any G2 [60] w (by first | (simp; done) | (simp; omega) | omega)
              have lG3 : (G2 ++ [60]).length ≤ 204 := by first | (simp; done) | (simp; omega)
              obtain ⟨G3, hG3⟩ : ∃ G3, G3 = G2 ++ [60] := ⟨_, rfl⟩
              rw [← hG3] at lG3
              rw [← hG3] at a3
              have a5 : ∀ w, (Op.stringOp .add (str G3) (str T2)).run Tryz.prog w = .ok (.string (str (G3 ++ T2))) w := fun w => add_any G3 T2 w (by first | (simp; done) | (simp; omega) | omega)
              have lG5 : (G3 ++ T2).length ≤ 404 := by first | (simp; done) | (simp; omega)
              obtain ⟨G5, hG5⟩ : ∃ G5, G5 = G3 ++ T2 := ⟨_, rfl⟩
              rw [← hG5] at lG5
              rw [← hG5] at a5
              have HR : Hid (res = G5) := Lib.hid (by rw [HW.out, hG5, hG3, hG2, hG1]; simp)
              clear hG5
              clear hG3
              clear hG2
              clear hG1
              clear HW
              go_wp2_with (go_at_call 57; refine (HC.out _ HB_wc.out).mono ?_; rintro e wd ⟨rfl, hbd⟩; refine Hid.out ?_)
              refine Lib.hid ?_
              have HB_wd := Lib.hid (HB_wc.out.trans (hbd.mono HB_wc.out.size))
              have hn_wd := (hbd.block _ hlw).trans HN_wc.out
              have HN_wd := Lib.hid hn_wd
              clear hbd q0 q1 q2 q3 q4 q5 q6 q7 q8 q9 q10
              obtain ⟨q0, q1, q2, q3, q4, q5, q6, q7, q8, q9, q10⟩ := gv_cells hn_wd
              clear hn_wd
              go_wp2_with (go_at_call 59; refine (HV1.out _ HB_wd.out).mono ?_; rintro e wv ⟨rfl, hbq⟩; refine Hid.out ?_)
              refine Lib.hid ?_
              have HB_wv := Lib.hid (HB_wd.out.trans (hbq.mono HB_wd.out.size))
              have hn_wv := (hbq.block _ (Array.getElem?_eq_some_iff.1 HN_wd.out).1).trans HN_wd.out
              have HN_wv := Lib.hid hn_wv
              clear hbq q0 q1 q2 q3 q4 q5 q6 q7 q8 q9 q10
              obtain ⟨q0, q1, q2, q3, q4, q5, q6, q7, q8, q9, q10⟩ := gv_cells hn_wv
              clear hn_wv
              go_wp2_with (go_at_call 59; refine (HV2.out _ HB_wv.out).mono ?_; rintro e wz ⟨rfl, hbq⟩; refine Hid.out ?_)
              refine Lib.hid ?_
              have HB_wz := Lib.hid (HB_wv.out.trans (hbq.mono HB_wv.out.size))
              have hn_wz := (hbq.block _ (Array.getElem?_eq_some_iff.1 HN_wv.out).1).trans HN_wv.out
              have HN_wz := Lib.hid hn_wz
              clear hbq q0 q1 q2 q3 q4 q5 q6 q7 q8 q9 q10
              obtain ⟨q0, q1, q2, q3, q4, q5, q6, q7, q8, q9, q10⟩ := gv_cells hn_wz
              clear hn_wz
              go_wp2_with fail
              go_ret
              exact ⟨by rw [HR.out]; rfl, HB_wz.out⟩
            | false =>
              have a1 : ∀ w, (Op.stringOp .add ⟨#[62]⟩ (str T1)).run Tryz.prog w = .ok (.string (str ([62] ++ T1))) w := fun w => add_any [62] T1 w (by first | (simp; done) | (simp; omega) | omega)
              have lG1 : ([62] ++ T1).length ≤ 202 := by first | (simp; done) | (simp; omega)
              obtain ⟨G1, hG1⟩ : ∃ G1, G1 = [62] ++ T1 := ⟨_, rfl⟩
              rw [← hG1] at lG1
              rw [← hG1] at a1
              have a2 : ∀ w, (Op.stringOp .add (str G1) ⟨#[32]⟩).run Tryz.prog w = .ok (.string (str (G1 ++ [32]))) w := fun w => add_any G1 [32] w (by first | (simp; done) | (simp; omega) | omega)
              have lG2 : (G1 ++ [32]).length ≤ 203 := by first | (simp; done) | (simp; omega)
              obtain ⟨G2, hG2⟩ : ∃ G2, G2 = G1 ++ [32] := ⟨_, rfl⟩
              rw [← hG2] at lG2
              rw [← hG2] at a2
              have a3 : ∀ w, (Op.stringOp .add (str G2) ⟨#[60]⟩).run Tryz.prog w = .ok (.string (str (G2 ++ [60]))) w := fun w => add_any G2 [60] w (by first | (simp; done) | (simp; omega) | omega)
              have lG3 : (G2 ++ [60]).length ≤ 204 := by first | (simp; done) | (simp; omega)
              obtain ⟨G3, hG3⟩ : ∃ G3, G3 = G2 ++ [60] := ⟨_, rfl⟩
              rw [← hG3] at lG3
              rw [← hG3] at a3
              have a4 : ∀ w, (Op.stringOp .add (str G3) ⟨#[61]⟩).run Tryz.prog w = .ok (.string (str (G3 ++ [61]))) w := fun w => add_any G3 [61] w (by first | (simp; done) | (simp; omega) | omega)
              have lG4 : (G3 ++ [61]).length ≤ 205 := by first | (simp; done) | (simp; omega)
              obtain ⟨G4, hG4⟩ : ∃ G4, G4 = G3 ++ [61] := ⟨_, rfl⟩
              rw [← hG4] at lG4
              rw [← hG4] at a4
              have a5 : ∀ w, (Op.stringOp .add (str G4) (str T2)).run Tryz.prog w = .ok (.string (str (G4 ++ T2))) w := fun w => add_any G4 T2 w (by first | (simp; done) | (simp; omega) | omega)
              have lG5 : (G4 ++ T2).length ≤ 405 := by first | (simp; done) | (simp; omega)
              obtain ⟨G5, hG5⟩ : ∃ G5, G5 = G4 ++ T2 := ⟨_, rfl⟩
              rw [← hG5] at lG5
              rw [← hG5] at a5
              have HR : Hid (res = G5) := Lib.hid (by rw [HW.out, hG5, hG4, hG3, hG2, hG1]; simp)
              clear hG5
              clear hG4
              clear hG3
              clear hG2
              clear hG1
              clear HW
              go_wp2_with (go_at_call 57; refine (HC.out _ HB_wc.out).mono ?_; rintro e wd ⟨rfl, hbd⟩; refine Hid.out ?_)
              refine Lib.hid ?_
              have HB_wd := Lib.hid (HB_wc.out.trans (hbd.mono HB_wc.out.size))
              have hn_wd := (hbd.block _ hlw).trans HN_wc.out
              have HN_wd := Lib.hid hn_wd
              clear hbd q0 q1 q2 q3 q4 q5 q6 q7 q8 q9 q10
              obtain ⟨q0, q1, q2, q3, q4, q5, q6, q7, q8, q9, q10⟩ := gv_cells hn_wd
              clear hn_wd
              go_wp2_with (go_at_call 59; refine (HV1.out _ HB_wd.out).mono ?_; rintro e wv ⟨rfl, hbq⟩; refine Hid.out ?_)
              refine Lib.hid ?_
              have HB_wv := Lib.hid (HB_wd.out.trans (hbq.mono HB_wd.out.size))
              have hn_wv := (hbq.block _ (Array.getElem?_eq_some_iff.1 HN_wd.out).1).trans HN_wd.out
              have HN_wv := Lib.hid hn_wv
              clear hbq q0 q1 q2 q3 q4 q5 q6 q7 q8 q9 q10
              obtain ⟨q0, q1, q2, q3, q4, q5, q6, q7, q8, q9, q10⟩ := gv_cells hn_wv
              clear hn_wv
              go_wp2_with (go_at_call 59; refine (HV2.out _ HB_wv.out).mono ?_; rintro e wz ⟨rfl, hbq⟩; refine Hid.out ?_)
              refine Lib.hid ?_
              have HB_wz := Lib.hid (HB_wv.out.trans (hbq.mono HB_wv.out.size))
              have hn_wz := (hbq.block _ (Array.getElem?_eq_some_iff.1 HN_wv.out).1).trans HN_wv.out
              have HN_wz := Lib.hid hn_wz
              clear hbq q0 q1 q2 q3 q4 q5 q6 q7 q8 q9 q10
              obtain ⟨q0, q1, q2, q3, q4, q5, q6, q7, q8, q9, q10⟩ := gv_cells hn_wz
              clear hn_wz
              go_wp2_with fail
              go_ret
              exact ⟨by rw [HR.out]; rfl, HB_wz.out⟩
theorem good_all {L : List IvG} (h1 : L.length ≤ 16) (h2 : ∀ x ∈ L, rightB x = true ∧ empB (toSt x).st = false) (h3 : ∀ i, i + 1 < L.length → cE (tE L[i]!) (fE L[i + 1]!) < 0) : spanB L = true := by
  unfold spanB
  rw [Bool.and_eq_true, decide_eq_true_eq, List.all_eq_true]
  refine ⟨h1, fun i hi => ?_⟩
  have hi' := List.mem_range.1 hi
  have hm : L[i]! ∈ L := by rw [getElem!_pos L i hi']; exact List.getElem_mem hi'
  obtain ⟨g1, g2⟩ := h2 _ hm
  unfold goodAt
  rw [g1, g2]
  cases i with
  | zero => rfl
  | succ k =>
    have := h3 k hi'
    simp only [Nat.add_sub_cancel]
    rw [decide_eq_true this]
    simp
theorem good_no {L : List IvG} {i : Nat} (hi : i < L.length) (h : goodAt L i = false) : spanB L = false := by
  unfold spanB
  rw [Bool.and_eq_false_iff]
  exact .inr (Bool.eq_false_iff.2 fun e => by
    have := List.all_eq_true.1 e i (List.mem_range.2 hi)
    rw [h] at this; cases this)
theorem bang_at {L : List IvG} {i : Nat} {x : IvG} (h : L[i]? = some x) : L[i]! = x := by
  obtain ⟨hi, e⟩ := List.getElem?_eq_some_iff.1 h
  rw [getElem!_pos L i hi, e]
set_option maxHeartbeats 8000000 in
set_option maxRecDepth 100000 in
theorem rMay8_any (a : Option Addr) (cp : Nat) (L : List IvG) (w : World) (h : RArg K w a L) (hl : L.length ≤ 1000) :
    Calls Tryz.prog 11 #[.slice a L.length cp] w fun e w' => e = .returned (.bool (spanB L)) ∧ Below w.heap.size w w' := by
  have H := Lib.hid h
  have HNO := Lib.hid (fun i (hi : i < L.length) h => good_no (L := L) hi h)
  have HYES := Lib.hid (fun h1 h2 h3 => good_all (L := L) h1 h2 h3)
  have HLONG : Hid (16 < L.length → spanB L = false) := Lib.hid (fun h => by unfold spanB; rw [decide_eq_false (by omega)]; rfl)
  obtain ⟨sb, hsb⟩ : ∃ sb, spanB L = sb := ⟨_, rfl⟩
  rw [hsb] at HNO HYES HLONG ⊢
  clear h hsb
  by_cases hlong : 16 < L.length
  · have hd : decide (16 < (L.length : Int)) = true := decide_eq_true (by omega)
    have HR := Lib.hid (HLONG.out hlong)
    clear hlong
    go_enter Tryz.func11, Tryz.ntmps11
    go_wp2_with fail
    go_ret
    exact ⟨by rw [HR.out]; rfl, Below.refl _ _⟩
  have hd : decide (16 < (L.length : Int)) = false := decide_eq_false (by omega)
  go_enter Tryz.func11, Tryz.ntmps11
  go_wp2_with fail
  go_loopw [3] (fun i wq => ∃ k : Nat, i = .int .i64 k ∧ k ≤ L.length ∧ Hid (∀ x ∈ L.take k, rightB x = true ∧ empB (toSt x).st = false) ∧ Hid (Below w.heap.size w wq)) (fun i _ => L.length - (intOf i).toNat)
  case atStart => exact ⟨0, rfl, Nat.zero_le _, Lib.hid (by simp), Lib.hid (Below.refl _ _)⟩
  case round =>
    obtain ⟨k, rfl, hk, HG, HB⟩ := hrel
    rename World => wq
    by_cases hlt : k < L.length
    · have hdec : decide (k < L.length) = true := by simpa using hlt
      obtain ⟨g, o, x, -, hxm, hxs, rfl, c0, c1, c2, c3, c4, c5, c6, c7, c8, c9, c10⟩ := (H.out.gr HB.out).row.at k hlt
      have HXS := Lib.hid hxs
      have HXT := Lib.hid (H.out.txs x hxm)
      have HRI := Lib.hid (rright_any x wq (HXT.out.gr HB.out))
      have HG1 : Hid (rightB x = false → sb = false) := Lib.hid (fun h => HNO.out k hlt (by unfold goodAt; rw [bang_at HXS.out, h]; rfl))
      have HG2 : Hid (empB (toSt x).st = true → sb = false) := Lib.hid (fun h => HNO.out k hlt (by unfold goodAt; rw [bang_at HXS.out, h]; simp))
      clear hxm hxs
      rcases Bool.eq_false_or_eq_true (rightB x) with hr | hr
      rotate_left
      · rw [hr] at HRI
        have HR := Lib.hid (HG1.out hr)
        clear hr
        go_wp2_with (go_at_call 27; refine HRI.out.mono ?_; rintro e w2 ⟨rfl, hb2⟩)
        go_ret
        exact ⟨by rw [HR.out]; rfl, HB.out.trans (hb2.mono HB.out.size)⟩
      · have HEM := Lib.hid (fun w' (g : Below w.heap.size w w') => rempty_any x w' (HXT.out.gr g) hr)
        have HRX := Lib.hid hr
        rw [hr] at HRI
        have hgl : g < wq.heap.size := World.block_lt_of_cell? _ _ c0
        obtain ⟨eb, heb⟩ : ∃ b, empB (toSt x).st = b := ⟨_, rfl⟩
        have HEB := Lib.hid heb
        rw [heb] at HEM
        clear hr heb
        go_wp2_with (go_at_call 27; refine HRI.out.mono ?_; rintro e w2 ⟨rfl, hb2⟩; refine Hid.out ?_)
        refine Lib.hid ?_
        have HB2 := Lib.hid (HB.out.trans (hb2.mono HB.out.size))
        have e0 := (hb2.cell hgl).trans c0
        have e1 := (hb2.cell hgl).trans c1
        have e2 := (hb2.cell hgl).trans c2
        have e3 := (hb2.cell hgl).trans c3
        have e4 := (hb2.cell hgl).trans c4
        have e5 := (hb2.cell hgl).trans c5
        have e6 := (hb2.cell hgl).trans c6
        have e7 := (hb2.cell hgl).trans c7
        have e8 := (hb2.cell hgl).trans c8
        have e9 := (hb2.cell hgl).trans c9
        have e10 := (hb2.cell hgl).trans c10
        clear c0 c1 c2 c3 c4 c5 c6 c7 c8 c9 c10 hb2
        cases eb with
        | true =>
          have HR := Lib.hid (HG2.out HEB.out)
          go_wp2_with (go_at_call 28; refine (HEM.out _ HB2.out).mono ?_; rintro e w3 ⟨rfl, hb3⟩)
          go_ret
          exact ⟨by rw [HR.out]; rfl, HB2.out.trans (hb3.mono HB2.out.size)⟩
        | false =>
          have HNX : Hid (∀ y ∈ L.take (k + 1), rightB y = true ∧ empB (toSt y).st = false) := Lib.hid (fun y hy => by
            rw [List.take_add_one, HXS.out] at hy
            rcases List.mem_append.1 hy with hy | hy
            · exact HG.out y hy
            · simp at hy; rw [hy]; exact ⟨HRX.out, HEB.out⟩)
          go_wp2_with (go_at_call 28; refine (HEM.out _ HB2.out).mono ?_; rintro e w3 ⟨rfl, hb3⟩; have HB3 := Lib.hid (HB2.out.trans (hb3.mono HB2.out.size)); clear hb3)
          go_roundw
          case rel => exact ⟨k + 1, by go_num, hlt, HNX, HB3⟩
          case measure => simp [intOf]; omega
    · have hdec : decide (k < L.length) = false := by simpa using hlt
      have HALL : Hid (∀ x ∈ L, rightB x = true ∧ empB (toSt x).st = false) := Lib.hid (by have h := HG.out; rwa [List.take_of_length_le (by omega)] at h)
      clear hlt hk
      go_wp2_with fail
      clear hdec
      go_loopw [4] (fun i wz => ∃ k : Nat, i = .int .i64 k ∧ k ≤ L.length ∧ Hid (∀ j, j < k → j + 1 < L.length → cE (tE L[j]!) (fE L[j + 1]!) < 0) ∧ Hid (Below w.heap.size w wz)) (fun i _ => L.length - (intOf i).toNat)
      case atStart => exact ⟨0, rfl, Nat.zero_le _, Lib.hid (fun j hj => by omega), HB⟩
      case round =>
        obtain ⟨k, rfl, hk, HQ, HBQ⟩ := hrel
        rename World => wz
        by_cases hlt : k + 1 < L.length
        · have hdec : decide ((k : Int) + 1 < (L.length : Int)) = true := decide_eq_true (by omega)
          have hdec2 : decide (k + 1 < L.length) = true := decide_eq_true hlt
          obtain ⟨g, o, x, -, hxm, hxs, rfl, c0, c1, c2, c3, c4, c5, c6, c7, c8, c9, c10⟩ := (H.out.gr HBQ.out).row.at k (by omega)
          obtain ⟨g', o', y, -, hym, hys, hge, d0, d1, d2, d3, d4, d5, d6, d7, d8, d9, d10⟩ := (H.out.gr HBQ.out).row.at (k + 1) hlt
          cases hge
          obtain ⟨rx, ex⟩ := HALL.out x hxm
          obtain ⟨ry, ey⟩ := HALL.out y hym
          have HLO := Lib.hid (fun d os => rlowI_any x y (Go.Sort.grow (redrawn wz d) os) (((H.out.txs x hxm).gr HBQ.out).gr (below_regrown wz d os)) (((H.out.txs y hym).gr HBQ.out).gr (below_regrown wz d os)) rx ry)
          have HTO := Lib.hid (fun d os => rtouch_any x y (Go.Sort.grow (redrawn wz d) os) (((H.out.txs x hxm).gr HBQ.out).gr (below_regrown wz d os)) (((H.out.txs y hym).gr HBQ.out).gr (below_regrown wz d os)) rx ry)
          have HEX : Hid (cE (fE x) (tE x) < 0) := Lib.hid (by
            have h := ex
            unfold empB at h
            have := of_decide_eq_false h
            show cE (fE x) (tE x) < 0
            have e2 : (toSt x).st.f = fE x := rfl
            have e3 : (toSt x).st.t = tE x := rfl
            rw [e2, e3] at this
            omega)
          have HGA : Hid (goodAt L (k + 1) = decide (cE (tE x) (fE y) < 0)) := Lib.hid (by
            unfold goodAt
            rw [bang_at hys, ry, ey, Nat.add_sub_cancel, bang_at hxs]
            simp)
          have HB1 := Lib.hid (And.intro (bang_at hxs) (bang_at hys))
          have HBAD := Lib.hid (fun h => HNO.out (k + 1) hlt h)
          have kc0 := cell_regrown c0
          have kd0 := cell_regrown d0
          have kc1 := cell_regrown c1
          have kd1 := cell_regrown d1
          have kc2 := cell_regrown c2
          have kd2 := cell_regrown d2
          have kc3 := cell_regrown c3
          have kd3 := cell_regrown d3
          have kc4 := cell_regrown c4
          have kd4 := cell_regrown d4
          have kc5 := cell_regrown c5
          have kd5 := cell_regrown d5
          have kc6 := cell_regrown c6
          have kd6 := cell_regrown d6
          have kc7 := cell_regrown c7
          have kd7 := cell_regrown d7
          have kc8 := cell_regrown c8
          have kd8 := cell_regrown d8
          have kc9 := cell_regrown c9
          have kd9 := cell_regrown d9
          have kc10 := cell_regrown c10
          have kd10 := cell_regrown d10
          obtain ⟨r, hr⟩ : ∃ r, cE (fE x) (fE y) = r := ⟨_, rfl⟩
          obtain ⟨tb, htb⟩ : ∃ b, touB x y = b := ⟨_, rfl⟩
          rw [hr] at HLO
          rw [htb] at HTO
          have cO : ∀ d os, Calls Tryz.prog 29 #[.agg (bdL x.lv x.la x.lc x.lo).toArray, .agg (bdL y.lv y.la y.lc y.lo).toArray] (Go.Sort.grow (redrawn wz d) os) _ := fun d os => Calls.regrown_of (HLO.out d os)
          have cT : ∀ d os, Calls Tryz.prog 30 #[gvV x, gvV y] (Go.Sort.grow (redrawn wz d) os) _ := fun d os => Calls.regrown_of (HTO.out d os)
          have HRR := Lib.hid hr
          have HTB := Lib.hid htb
          clear hxm hxs hym hys rx ex ry ey hr htb c0 c1 c2 c3 c4 c5 c6 c7 c8 c9 c10 d0 d1 d2 d3 d4 d5 d6 d7 d8 d9 d10
          by_cases h0 : 0 ≤ r
          · have d0 : decide (0 ≤ r) = true := decide_eq_true h0
            have HR : Hid (sb = false) := Lib.hid (HBAD.out (by
              rw [HGA.out]
              refine decide_eq_false fun h => ?_
              have := lt_le HEX.out (show cE (tE x) (fE y) ≤ 0 by omega)
              rw [HRR.out] at this
              omega))
            clear h0
            go_wp2_with fail
            refine wp_region_quiet_below (by kernel_rfl) (by kernel_rfl) ?_
            repeat (first | go_big_quiet_step (exact cO _ _) | quiet_step (exact cO _ _))
            refine wpQuiet_nil ?_
            intro _ hw'
            obtain ⟨⟨dq, osq⟩, hw''⟩ := hw'
            subst hw''
            have HBN := Lib.hid (HBQ.out.trans ((below_regrown wz dq osq).mono HBQ.out.size))
            go_wp2_with fail
            go_ret
            exact ⟨by rw [HR.out]; rfl, HBN.out⟩
          · have d0 : decide (0 ≤ r) = false := decide_eq_false h0
            clear h0
            cases tb with
            | true =>
              have HR : Hid (sb = false) := Lib.hid (HBAD.out (by
                have h := HTB.out
                unfold touB at h
                rw [HGA.out]
                simpa using h))
              go_wp2_with fail
              refine wp_region_quiet_below (by kernel_rfl) (by kernel_rfl) ?_
              repeat (first | go_big_quiet_step (first | exact cO _ _ | exact cT _ _) | quiet_step (first | exact cO _ _ | exact cT _ _))
              refine wpQuiet_nil ?_
              intro _ hw'
              obtain ⟨⟨dq, osq⟩, hw''⟩ := hw'
              subst hw''
              have HBN := Lib.hid (HBQ.out.trans ((below_regrown wz dq osq).mono HBQ.out.size))
              go_wp2_with fail
              go_ret
              exact ⟨by rw [HR.out]; rfl, HBN.out⟩
            | false =>
              have HNX : Hid (∀ j, j < k + 1 → j + 1 < L.length → cE (tE L[j]!) (fE L[j + 1]!) < 0) := Lib.hid (fun j hj hj2 => by
                by_cases e : j = k
                · subst e
                  rw [HB1.out.1, HB1.out.2]
                  have h := HTB.out
                  unfold touB at h
                  simpa using h
                · exact HQ.out j (by omega) hj2)
              go_wp2_with fail
              refine wp_region_quiet_below (by kernel_rfl) (by kernel_rfl) ?_
              repeat (first | go_big_quiet_step (first | exact cO _ _ | exact cT _ _) | quiet_step (first | exact cO _ _ | exact cT _ _))
              refine wpQuiet_nil ?_
              intro _ hw'
              obtain ⟨⟨dq, osq⟩, hw''⟩ := hw'
              subst hw''
              have HBN := Lib.hid (HBQ.out.trans ((below_regrown wz dq osq).mono HBQ.out.size))
              clear kc0 kd0 kc1 kd1 kc2 kd2 kc3 kd3 kc4 kd4 kc5 kd5 kc6 kd6 kc7 kd7 kc8 kd8 kc9 kd9 kc10 kd10 cO cT
              go_wp2_with fail
              go_roundw
              case rel => exact ⟨k + 1, by go_num, by omega, HNX, HBN⟩
              case measure => simp [intOf]; omega
        · have hdec : decide ((k : Int) + 1 < (L.length : Int)) = false := decide_eq_false (by omega)
          have hdec2 : decide (k + 1 < L.length) = false := decide_eq_false hlt
          have HR : Hid (sb = true) := Lib.hid (HYES.out (by omega) HALL.out (fun i hi => HQ.out i (by omega) hi))
          go_wp2_with fail
          go_ret
          exact ⟨by rw [HR.out]; rfl, HBQ.out⟩
/-- an interval's text is the program's, where that is one; else it is too long -/
theorem text_no {v : Ver} (hm : may v = true) (h : textOk v = false) : 128 < (text v).length := by
  unfold textOk at h
  rw [hm, Bool.true_and] at h
  have := of_decide_eq_false h
  omega
theorem least_is (x : IvG) : (cE (fE x) allS.f = 0) ↔ leastI x = true := by
  rw [fE_is, botV_is, cE_not (side_le' _) (Nat.zero_le _)]
  unfold leastI
  by_cases h : cmpV x.lv botV = 0
  · rw [h]
    cases x.lo <;> simp [cmpN]
  · rw [if_pos h]
    simp [h]
theorem above_words {x : IvG} (hm : may x.lv = true) (hl : leastI x = false) : (textOk x.lv = true ∧ aboveO (fE x) = some ((if x.lo then [62] else [62, 61]) ++ text x.lv)) ∨ (128 < (text x.lv).length ∧ aboveO (fE x) = none) := by
  have hn : ¬ cE (fE x) allS.f = 0 := fun h => by rw [(least_is x).1 h] at hl; cases hl
  unfold aboveO comparedO
  rw [if_neg hn]
  cases ht : textOk x.lv with
  | true =>
    refine .inl ⟨rfl, ?_⟩
    rw [fE_is]
    dsimp only
    rw [ht]
    cases x.lo <;> simp
  | false =>
    refine .inr ⟨text_no hm ht, ?_⟩
    rw [fE_is]
    dsimp only
    rw [ht]
    cases x.lo <;> simp
theorem below_words {x : IvG} (hm : may x.hv = true) (he : x.e = false) : (textOk x.hv = true ∧ belowO (tE x) = some ((if x.ho then [60] else [60, 61]) ++ text x.hv)) ∨ (128 < (text x.hv).length ∧ belowO (tE x) = none) := by
  rw [tE_not he]
  unfold belowO comparedO
  cases ht : textOk x.hv with
  | true =>
    refine .inl ⟨rfl, ?_⟩
    dsimp only
    cases x.ho <;> simp
  | false =>
    refine .inr ⟨text_no hm ht, ?_⟩
    dsimp only
    cases x.ho <;> simp
theorem words_one {x : IvG} (rx : rightB x = true) (ne : empB (toSt x).st = false) : oneO (toSt x).st = some (wordsB x) ∨ (128 < (wordsB x).length ∧ oneO (toSt x).st = none) := by
  obtain ⟨m1, m2⟩ := right_may rx
  have hem := emp_is x
  rw [ne] at hem
  unfold oneO
  rw [toSt_eq]
  dsimp only
  cases he : x.e with
  | true =>
    rw [tE_end he]
    have hne : ¬ cE ⟨(fE x).v, 1⟩ ⟨zeroV, 2⟩ = 0 := by rw [cE_in_end (Nat.le_refl 1)]; decide
    rw [if_neg hne]
    have hb : belowO ⟨zeroV, 2⟩ = some [] := rfl
    rw [hb]
    cases hl : leastI x with
    | true =>
      have ha : aboveO (fE x) = some [] := by unfold aboveO; rw [if_pos ((least_is x).2 hl)]
      rw [ha]
      refine .inl ?_
      unfold wordsB joinO
      rw [hl, he]
      simp
    | false =>
      rcases above_words m1 hl with ⟨ht, ha⟩ | ⟨ht, ha⟩
      · rw [ha]
        refine .inl ?_
        unfold wordsB joinO
        rw [hl, he]
        cases x.lo <;> simp
      · rw [ha]
        refine .inr ⟨?_, rfl⟩
        unfold wordsB
        rw [hl, he]
        cases x.lo <;> simp <;> omega
  | false =>
    rw [he] at hem
    simp only [Bool.false_eq_true, if_false] at hem
    rw [tE_not he]
    by_cases heq : cmpV x.lv x.hv = 0
    · have hvv := cmpV_zero heq
      rw [heq] at hem
      simp at hem
      obtain ⟨hlo, hho⟩ : x.lo = false ∧ x.ho = false := by
        cases h1 : x.lo <;> cases h2 : x.ho <;> simp_all
      rw [hho]
      have hz : cE ⟨(fE x).v, 1⟩ ⟨x.hv, if false = true then 0 else 1⟩ = 0 := by
        rw [show (fE x).v = x.lv from rfl, hvv]; exact cE_self _
      rw [if_pos hz]
      unfold comparedO
      have hwo : wordsB x = 61 :: text x.lv := by
        unfold wordsB
        rw [he, heq]
        simp
      rw [hwo]
      dsimp only
      rw [← hvv]
      cases ht : textOk x.lv with
      | true => exact .inl rfl
      | false => exact .inr ⟨by have := text_no m1 ht; simp; omega, rfl⟩
    · have hz : ¬ cE ⟨(fE x).v, 1⟩ ⟨x.hv, if x.ho = true then 0 else 1⟩ = 0 := by
        rw [show (fE x).v = x.lv from rfl, cE_not (Nat.le_refl 1) (side_le _), if_pos heq]
        exact heq
      rw [if_neg hz]
      have hb := below_words m2 he
      rw [tE_not he] at hb
      have hwo : wordsB x = (if leastI x then [] else (if x.lo then [62] else [62, 61]) ++ text x.lv ++ [32]) ++ ((if x.ho then [60] else [60, 61]) ++ text x.hv) := by
        unfold wordsB
        rw [he, decide_eq_false heq]
        simp
      rw [hwo]
      cases hl : leastI x with
      | true =>
        have ha : aboveO (fE x) = some [] := by unfold aboveO; rw [if_pos ((least_is x).2 hl)]
        rw [ha]
        rcases hb with ⟨ht, hb⟩ | ⟨ht, hb⟩
        · rw [hb]
          refine .inl ?_
          unfold joinO
          cases x.ho <;> simp
        · rw [hb]
          refine .inr ⟨?_, rfl⟩
          cases x.ho <;> simp <;> omega
      | false =>
        rcases above_words m1 hl with ⟨ht1, ha⟩ | ⟨ht1, ha⟩
        · rw [ha]
          rcases hb with ⟨ht, hb⟩ | ⟨ht, hb⟩
          · rw [hb]
            refine .inl ?_
            unfold joinO
            cases x.ho <;> cases x.lo <;> simp
          · rw [hb]
            refine .inr ⟨?_, rfl⟩
            cases x.ho <;> cases x.lo <;> simp <;> omega
        · rw [ha]
          refine .inr ⟨?_, by rcases hb with ⟨_, hb⟩ | ⟨_, hb⟩ <;> rw [hb]⟩
          cases x.ho <;> cases x.lo <;> simp <;> omega
end SpanC
end Go.Proofs.YtapikdgncdcneaaGreatDoor
namespace Go.Proofs.YtapikdgncdcneaaGreatDoor
open Go.RowKit
namespace SpanC
open VerM SpanM StrC TextR VerC
set_option linter.unusedSimpArgs false
variable {K : Prop}

theorem join_snoc (sep : B) : ∀ (A : TL) (x : B), A ≠ [] → Lib.join (A ++ [x]) sep = Lib.join A sep ++ sep ++ x
  | [], x, h => absurd rfl h
  | a :: r, x, _ => by
    rw [List.cons_append, Lib.join_cons, Lib.join_cons]
    unfold Lib.joinTail
    rw [List.map_append, List.flatten_append]
    simp
theorem join_ge (sep : B) : ∀ (A : TL) (x : B), x ∈ A → x.length ≤ (Lib.join A sep).length
  | [], x, h => by cases h
  | a :: r, x, h => by
    rw [Lib.join_cons, List.length_append]
    rcases List.mem_cons.1 h with h | h
    · rw [h]; omega
    · have : x.length ≤ (Lib.joinTail sep r).length := by
        unfold Lib.joinTail
        induction r with
        | nil => cases h
        | cons b r ih =>
          simp only [List.map_cons, List.flatten_cons, List.length_append]
          rcases List.mem_cons.1 h with h | h
          · rw [h]; omega
          · have := ih (List.mem_cons_of_mem _ h) h
            omega
      omega
theorem wordsB_len {x : IvG} (rx : rightB x = true) : (wordsB x).length ≤ 410 := by
  obtain ⟨m1, m2⟩ := right_may rx
  have t1 := text_size m1
  have t2 := text_size m2
  unfold wordsB
  split
  · simp
  · split
    · simp; omega
    · cases leastI x <;> cases x.lo <;> cases x.ho <;> cases x.e <;> simp <;> omega
def joinW (L : List IvG) : B := Lib.join (L.map wordsB) orB
theorem joinW_len {L : List IvG} (h : ∀ x ∈ L, rightB x = true) (hl : L.length ≤ 16) : (joinW L).length ≤ 10000 := by
  have := join_len orB 410 (L.map wordsB) (fun s hs => by
    obtain ⟨x, hx, rfl⟩ := List.mem_map.1 hs
    exact wordsB_len (h x hx))
  unfold joinW
  rw [List.length_map] at this
  have e : orB.length = 4 := rfl
  rw [e] at this
  have := Nat.mul_le_mul_right 414 hl
  omega
/-- how the document says a span's text -/
theorem text_is {L : List IvG} (hL : spanB L = true) (hne : L ≠ []) : writeO (spanM L) = if (joinW L).length ≤ 128 then some (joinW L) else none := by
  have hr := spanB_right hL
  have hc := spanB_can hL
  have hem : ∀ x ∈ L, empB (toSt x).st = false := fun x hx => by
    have := hc.1 (toSt x).st (spanM_mem.2 ⟨x, hx, rfl⟩)
    unfold empB
    exact decide_eq_false (by omega)
  unfold writeO
  rw [if_neg (by
    intro h
    unfold spanM at h
    exact hne (List.map_eq_nil_iff.1 h))]
  by_cases hall : ∀ x ∈ L, oneO (toSt x).st = some (wordsB x)
  · have h1 : (spanM L).all (fun s => (oneO s).isSome) = true := List.all_eq_true.2 fun s hs => by
      obtain ⟨x, hx, rfl⟩ := spanM_mem.1 hs
      rw [hall x hx]; rfl
    have h2 : (spanM L).map oneT = L.map wordsB := by
      unfold spanM
      rw [List.map_map]
      refine List.map_congr_left fun x hx => ?_
      show (oneO (toSt x).st).getD [] = _
      rw [hall x hx]; rfl
    rw [if_pos h1, h2]
    rfl
  · have : ∃ x, x ∈ L ∧ ¬ oneO (toSt x).st = some (wordsB x) := Classical.byContradiction fun h => hall fun x hx => Classical.byContradiction fun h2 => h ⟨x, hx, h2⟩
    obtain ⟨x, hx, hno⟩ := this
    rcases words_one (hr x hx) (hem x hx) with h | ⟨h1, h2⟩
    · exact absurd h hno
    · have h3 : (spanM L).all (fun s => (oneO s).isSome) = false := Bool.eq_false_iff.2 fun h => by
        have := List.all_eq_true.1 h _ (spanM_mem.2 ⟨x, hx, rfl⟩)
        rw [h2] at this; cases this
      have h4 := join_ge orB (L.map wordsB) (wordsB x) (List.mem_map.2 ⟨x, hx, rfl⟩)
      rw [h3, if_neg (by decide), if_neg (by unfold joinW; omega)]
theorem joinW_zero (L : List IvG) : joinW (L.take 0) = [] := rfl
theorem joinW_step {L : List IvG} {k : Nat} {x : IvG} (h : L[k]? = some x) : joinW (L.take (k + 1)) = (if k = 0 then [] else joinW (L.take k) ++ orB) ++ wordsB x := by
  have hk := (List.getElem?_eq_some_iff.1 h).1
  unfold joinW
  rw [List.take_add_one, h, List.map_append]
  by_cases h0 : k = 0
  · subst h0
    rw [if_pos rfl]
    exact Lib.join_one _ _
  · rw [if_neg h0]
    refine join_snoc orB _ _ fun e => ?_
    have e2 := congrArg List.length (List.map_eq_nil_iff.1 e)
    rw [List.length_take] at e2
    have e3 : ([] : List IvG).length = 0 := rfl
    omega
set_option maxHeartbeats 8000000 in
set_option maxRecDepth 100000 in
theorem rText8_any (a : Option Addr) (cp : Nat) (L : List IvG) (w : World) (h : RArg K w a L) (hl : L.length ≤ 1000) :
    Calls Tryz.prog 10 #[.slice a L.length cp] w fun e w' => e = outO (textO L) ∧ Below w.heap.size w w' := by
  have HM := Lib.hid (rMay8_any a cp L w h hl)
  have H := Lib.hid h
  have HO : Hid (textO L = if spanB L then writeO (spanM L) else none) := Lib.hid rfl
  clear h
  go_enter Tryz.func10, Tryz.ntmps10
  rcases Bool.eq_false_or_eq_true (spanB L) with hb | hb
  rotate_left
  · rw [hb] at HM HO
    have HR : Hid (textO L = none) := Lib.hid (by rw [HO.out]; rfl)
    go_wp2_with (go_at_call 11; refine HM.out.mono ?_; rintro e w1 ⟨rfl, hb1⟩)
    go_ret2
    exact ⟨by rw [HR.out]; rfl, hb1⟩
  have HSB := Lib.hid hb
  have hl16 := spanB_len hb
  rw [hb] at HM HO
  clear hb
  rcases List.eq_nil_or_concat L with rfl | ⟨L', y, hLe⟩
  · have HR : Hid (textO [] = some [33]) := Lib.hid rfl
    simp only [List.length_nil] at *
    go_wp2_with (go_at_call 11; refine HM.out.mono ?_; rintro e w1 ⟨rfl, hb1⟩)
    go_ret2
    exact ⟨by rw [HR.out]; rfl, hb1⟩
  have hpos : 0 < L.length := by rw [hLe]; simp
  have HNE : Hid (L ≠ []) := Lib.hid (fun e => by rw [e] at hpos; simp at hpos)
  clear hLe
  have HTX : Hid (textO L = if (joinW L).length ≤ 128 then some (joinW L) else none) := Lib.hid (by rw [HO.out, if_pos rfl, text_is HSB.out HNE.out])
  have HRG := Lib.hid (spanB_right HSB.out)
  have hz : ((L.length : Int) == 0) = false := beq_eq_false_iff_ne.2 (by omega)
  have HJL := Lib.hid (fun k => joinW_len (L := L.take k) (fun x hx => HRG.out x (List.mem_of_mem_take hx)) (by rw [List.length_take]; omega))
  clear HO
  go_wp2_with (go_at_call 11; refine HM.out.mono ?_; rintro e w1 ⟨rfl, hb1⟩; refine Hid.out ?_)
  refine Lib.hid ?_
  have HB1 := Lib.hid hb1
  clear hb1 HM
  go_wp2_with fail
  go_loopw [4, 5] (fun s i wq => ∃ k : Nat, i = .int .i64 k ∧ k ≤ L.length ∧ s = .string (str (joinW (L.take k))) ∧ Hid (Below w.heap.size w wq)) (fun _ i _ => L.length - (intOf i).toNat)
  case atStart => exact ⟨0, rfl, Nat.zero_le _, rfl, HB1⟩
  case round =>
    obtain ⟨k, rfl, hk, rfl, HB⟩ := hrel
    rename World => wq
    by_cases hlt : k < L.length
    · have hdec : decide (k < L.length) = true := by simpa using hlt
      obtain ⟨g, o, x, -, hxm, hxs, rfl, c0, c1, c2, c3, c4, c5, c6, c7, c8, c9, c10⟩ := (H.out.gr HB.out).row.at k hlt
      have HST := Lib.hid (joinW_step hxs)
      have HWD := Lib.hid (rwords_any x wq ((H.out.txs x hxm).gr HB.out) (HRG.out x hxm))
      have hwl := wordsB_len (HRG.out x hxm)
      have hjl := HJL.out k
      have hj0 : k = 0 → joinW (L.take k) = [] := fun e => by rw [e]; rfl
      clear hxm hxs
      generalize joinW (L.take k) = J at *
      generalize wordsB x = W at *
      rcases Nat.eq_zero_or_pos k with hk0 | hk0
      · have hJ := hj0 hk0
        subst hJ
        have HR : Hid (joinW (L.take (k + 1)) = [] ++ W) := Lib.hid (by rw [HST.out, if_pos hk0])
        have d0 : decide ((0 : Int) < (k : Int)) = false := decide_eq_false (by omega)
        have n0 : decide (0 < k) = false := decide_eq_false (by omega)
        have a1 := fun w => add_any [] W w (by simp; omega)
        clear HST hj0 hk0
        go_wp2_with (go_at_call 26; refine HWD.out.mono ?_; rintro e w2 ⟨rfl, hb2⟩; have HB2 := Lib.hid (HB.out.trans (hb2.mono HB.out.size)); clear hb2)
        go_roundw
        case rel => exact ⟨k + 1, by go_num, hlt, by rw [HR.out]; rfl, HB2⟩
        case measure => simp [intOf]; omega
      · have HR : Hid (joinW (L.take (k + 1)) = (J ++ orB) ++ W) := Lib.hid (by rw [HST.out, if_neg (by omega)])
        have d0 : decide ((0 : Int) < (k : Int)) = true := decide_eq_true (by omega)
        have n0 : decide (0 < k) = true := decide_eq_true hk0
        have a1 : ∀ w, (Op.stringOp .add (str J) ⟨#[32, 124, 124, 32]⟩).run Tryz.prog w = .ok (.string (str (J ++ orB))) w := fun w => add_any J orB w (by simp [orB]; omega)
        have l1 : (J ++ orB).length ≤ 10010 := by simp [orB]; omega
        obtain ⟨G, hG⟩ : ∃ G, G = J ++ orB := ⟨_, rfl⟩
        rw [← hG] at a1 l1
        have a2 := fun w => add_any G W w (by omega)
        have HR2 : Hid (joinW (L.take (k + 1)) = G ++ W) := Lib.hid (by rw [HR.out, hG])
        clear HST hj0 HR hG hk0
        go_wp2_with (go_at_call 26; refine HWD.out.mono ?_; rintro e w2 ⟨rfl, hb2⟩; have HB2 := Lib.hid (HB.out.trans (hb2.mono HB.out.size)); clear hb2)
        go_roundw
        case rel => exact ⟨k + 1, by go_num, hlt, by rw [HR2.out], HB2⟩
        case measure => simp [intOf]; omega
    · have hdec : decide (k < L.length) = false := by simpa using hlt
      have hke : L.take k = L := List.take_of_length_le (by omega)
      have HJ := Lib.hid (show joinW (L.take k) = joinW L by rw [hke])
      have hjl := HJL.out k
      rw [HJ.out] at hjl ⊢
      have hsz := str_size (joinW L)
      clear hke HJ
      generalize joinW L = J at *
      by_cases h128 : J.length ≤ 128
      · have d0 : decide (128 < (J.length : Int)) = false := decide_eq_false (by omega)
        have HR : Hid (textO L = some J) := Lib.hid (by rw [HTX.out, if_pos h128])
        clear h128
        go_wp2_with fail
        go_ret2
        exact ⟨by rw [HR.out]; rfl, HB.out⟩
      · have d0 : decide (128 < (J.length : Int)) = true := decide_eq_true (by omega)
        have HR : Hid (textO L = none) := Lib.hid (by rw [HTX.out, if_neg h128])
        clear h128
        go_wp2_with fail
        go_ret2
        exact ⟨by rw [HR.out]; rfl, HB.out⟩
/-- an answer of Read is a span in its one form -/
theorem good_form {R : List IvG} {l : List St} (hr : ∀ x ∈ R, rightB x = true) (hm : spanM R = formM l) (hl : R.length ≤ 16) : spanB R = true := by
  have hc := (formM_is l).1
  rw [← hm] at hc
  refine good_all hl (fun x hx => ⟨hr x hx, ?_⟩) fun i hi => ?_
  · have := hc.1 (toSt x).st (spanM_mem.2 ⟨x, hx, rfl⟩)
    unfold empB
    exact decide_eq_false (by omega)
  · have h2 := hc.2
    unfold spanM at h2
    rw [List.pairwise_map] at h2
    rw [getElem!_pos R i (by omega), getElem!_pos R (i + 1) hi]
    exact List.pairwise_iff_getElem.1 h2 i (i + 1) (by omega) hi (by omega)
theorem ivr_at {w : World} {a : Option Addr} {L : List IvG} (h : RArg K w a L) (i : Nat) (hi : i < L.length) : ∃ g o x, a = some ⟨g, o, none⟩ ∧ L[i]? = some x ∧ TI K w x ∧
    w.cell? ⟨g, o + i * 11, none⟩ = some (.int .u32 x.lv.a) ∧ w.cell? ⟨g, o + i * 11 + 1, none⟩ = some (.int .u32 x.lv.b) ∧ w.cell? ⟨g, o + i * 11 + 2, none⟩ = some (.int .u32 x.lv.c) ∧ w.cell? ⟨g, o + i * 11 + 3, none⟩ = some (.slice x.la x.lv.pre.length x.lc) ∧ w.cell? ⟨g, o + i * 11 + 4, none⟩ = some (.bool x.lo) ∧
    w.cell? ⟨g, o + i * 11 + 5, none⟩ = some (.int .u32 x.hv.a) ∧ w.cell? ⟨g, o + i * 11 + 6, none⟩ = some (.int .u32 x.hv.b) ∧ w.cell? ⟨g, o + i * 11 + 7, none⟩ = some (.int .u32 x.hv.c) ∧ w.cell? ⟨g, o + i * 11 + 8, none⟩ = some (.slice x.ha x.hv.pre.length x.hc) ∧ w.cell? ⟨g, o + i * 11 + 9, none⟩ = some (.bool x.ho) ∧ w.cell? ⟨g, o + i * 11 + 10, none⟩ = some (.bool x.e) := by
  obtain ⟨g, o, e, hc⟩ := h.row.cells (by omega)
  have hx : L[i]! = L[i] := getElem!_pos L i hi
  refine ⟨g, o, L[i], e, List.getElem?_eq_getElem hi, h.txs _ (List.getElem_mem hi), ?_⟩
  have key := fun c hc' => hc i hi c hc'
  rw [hx] at key
  exact ⟨key 0 (by decide), key 1 (by decide), key 2 (by decide), key 3 (by decide), key 4 (by decide), key 5 (by decide), key 6 (by decide), key 7 (by decide), key 8 (by decide), key 9 (by decide), key 10 (by decide)⟩
set_option maxHeartbeats 8000000 in
set_option maxRecDepth 100000 in
theorem rsameR_yes (a1 : Option Addr) (c1 : Nat) (L1 : List IvG) (a2 : Option Addr) (c2 : Nat) (L2 : List IvG) (w : World) (h1 : RArg K w a1 L1) (h2 : RArg K w a2 L2) (hl : L1.length ≤ 1000) (he : L1.length = L2.length) (hs : ∀ (i : Nat) (x y : IvG), L1[i]? = some x → L2[i]? = some y → SameI x y) :
    Calls Tryz.prog 12 #[.slice a1 L1.length c1, .slice a2 L2.length c2] w fun e w' => e = .returned (.bool true) ∧ Below w.heap.size w w' := by
  have H1 := Lib.hid h1
  have H2 := Lib.hid h2
  have HS := Lib.hid hs
  obtain ⟨n, hn⟩ : ∃ n, L1.length = n := ⟨_, rfl⟩
  have HN1 := Lib.hid hn
  have HN2 : Hid (L2.length = n) := Lib.hid (by omega)
  have hb : n ≤ 1000 := by omega
  rw [← he, hn]
  clear h1 h2 hs he hn hl
  go_enter Tryz.func12, Tryz.ntmps12
  go_wp2_with fail
  go_loopw [5] (fun v5 wr => ∃ k : Nat, v5 = .int .i64 k ∧ k ≤ n ∧ Hid (Below w.heap.size w wr)) (fun v5 _ => n - (intOf v5).toNat)
  case atStart => exact ⟨0, rfl, Nat.zero_le _, Lib.hid (Below.refl _ _)⟩
  case round =>
    obtain ⟨k, rfl, hk, HB⟩ := hrel
    rename World => wr
    by_cases hlt : k < n
    · have hd : decide (k < n) = true := decide_eq_true hlt
      obtain ⟨g, o, x, rfl, hx, hxt, x0, x1, x2, x3, x4, x5, x6, x7, x8, x9, x10⟩ := ivr_at (H1.out.gr HB.out) k (by rw [HN1.out]; exact hlt)
      obtain ⟨g', o', y, rfl, hy, hyt, y0, y1, y2, y3, y4, y5, y6, y7, y8, y9, y10⟩ := ivr_at (H2.out.gr HB.out) k (by rw [HN2.out]; exact hlt)
      obtain ⟨s1, s2, s3, s4, s5⟩ := HS.out k x y hx hy
      have HSL := Lib.hid (fun w' (gg : Below wr.heap.size wr w') => rSame_any x.lv y.lv x.la x.lc y.la y.lc w' (hxt.l.txs.gr gg) (hyt.l.txs.gr gg))
      have HSH := Lib.hid (fun w' (gg : Below wr.heap.size wr w') => rSame_any x.hv y.hv x.ha x.hc y.ha y.hc w' (hxt.h.txs.gr gg) (hyt.h.txs.gr gg))
      have e1 : sameB x.lv y.lv = true := by rw [s1, sameB_self]
      have e2 : sameB x.hv y.hv = true := by rw [s3, sameB_self]
      rw [e1] at HSL
      rw [e2] at HSH
      have b1 : (y.lo == x.lo) = true := by rw [s2]; simp
      rw [← s2] at y4
      rw [← s4] at y9
      rw [← s5] at y10
      clear hx hy hxt hyt s1 s2 s3 s4 s5 e1 e2 b1
      have K0 := Lib.hid (cell_regrown x0)
      have M0 := Lib.hid (cell_regrown y0)
      have K1 := Lib.hid (cell_regrown x1)
      have M1 := Lib.hid (cell_regrown y1)
      have K2 := Lib.hid (cell_regrown x2)
      have M2 := Lib.hid (cell_regrown y2)
      have K3 := Lib.hid (cell_regrown x3)
      have M3 := Lib.hid (cell_regrown y3)
      have K4 := Lib.hid (cell_regrown x4)
      have M4 := Lib.hid (cell_regrown y4)
      have K5 := Lib.hid (cell_regrown x5)
      have M5 := Lib.hid (cell_regrown y5)
      have K6 := Lib.hid (cell_regrown x6)
      have M6 := Lib.hid (cell_regrown y6)
      have K7 := Lib.hid (cell_regrown x7)
      have M7 := Lib.hid (cell_regrown y7)
      have K8 := Lib.hid (cell_regrown x8)
      have M8 := Lib.hid (cell_regrown y8)
      have K9 := Lib.hid (cell_regrown x9)
      have M9 := Lib.hid (cell_regrown y9)
      have K10 := Lib.hid (cell_regrown x10)
      have M10 := Lib.hid (cell_regrown y10)
      clear x0 x1 x2 x3 x4 x5 x6 x7 x8 x9 x10 y0 y1 y2 y3 y4 y5 y6 y7 y8 y9 y10
      have cL : ∀ d os, Calls Tryz.prog 31 #[verV x.lv.a x.lv.b x.lv.c x.la x.lv.pre.length x.lc, verV y.lv.a y.lv.b y.lv.c y.la y.lv.pre.length y.lc] (Go.Sort.grow (redrawn wr d) os) _ := fun d os => Calls.regrown_of ((HSL.out _ (below_regrown wr d os)).mono fun _ _ h => h)
      have cH : ∀ d os, Calls Tryz.prog 31 #[verV x.hv.a x.hv.b x.hv.c x.ha x.hv.pre.length x.hc, verV y.hv.a y.hv.b y.hv.c y.ha y.hv.pre.length y.hc] (Go.Sort.grow (redrawn wr d) os) _ := fun d os => Calls.regrown_of ((HSH.out _ (below_regrown wr d os)).mono fun _ _ h => h)
      clear HSL HSH
      have CL := Lib.hid cL
      have CH := Lib.hid cH
      clear cL cH
      go_wp2_with fail
      refine wp_region_quiet_below (by kernel_rfl) (by kernel_rfl) ?_
      have k4 := K4.out
      have m4 := M4.out
      iterate 14 (first | go_big_quiet_step (fail) | quiet_step (fail))
      clear k4 m4
      have k9 := K9.out
      have m9 := M9.out
      iterate 15 (first | go_big_quiet_step (fail) | quiet_step (fail))
      clear k9 m9
      have k10 := K10.out
      have m10 := M10.out
      iterate 13 (first | go_big_quiet_step (fail) | quiet_step (fail))
      clear k10 m10
      have cL := CL.out
      have k0 := K0.out
      have m0 := M0.out
      have k1 := K1.out
      have m1 := M1.out
      have k2 := K2.out
      have m2 := M2.out
      have k3 := K3.out
      have m3 := M3.out
      iterate 16 (first | go_big_quiet_step (exact cL _ _) | quiet_step (exact cL _ _))
      clear k0 m0 k1 m1 k2 m2 k3 m3
      clear cL
      have cH := CH.out
      have k5 := K5.out
      have m5 := M5.out
      have k6 := K6.out
      have m6 := M6.out
      have k7 := K7.out
      have m7 := M7.out
      have k8 := K8.out
      have m8 := M8.out
      iterate 15 (first | go_big_quiet_step (exact cH _ _) | quiet_step (exact cH _ _))
      clear k5 m5 k6 m6 k7 m7 k8 m8
      clear cH
      refine wpQuiet_nil ?_
      intro _ hw'
      obtain ⟨⟨dq, osq⟩, hw''⟩ := hw'
      subst hw''
      have HBQ := Lib.hid (HB.out.trans ((below_regrown wr dq osq).mono HB.out.size))
      generalize Go.Sort.grow (redrawn wr dq) osq = w5 at *
      go_wp2_with fail
      go_roundw
      case rel => exact ⟨k + 1, by go_num, hlt, HBQ⟩
      case measure => simp [intOf]; omega
    · have hd : decide (k < n) = false := decide_eq_false hlt
      go_wp2_with fail
      go_ret
      exact ⟨rfl, HB.out⟩
end SpanC
end Go.Proofs.YtapikdgncdcneaaGreatDoor
