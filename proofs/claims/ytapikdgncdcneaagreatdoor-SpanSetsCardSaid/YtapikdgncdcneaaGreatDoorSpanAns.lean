/-
  What span's calls answer is a span in its one form: pure mathematics, and what a law takes of it.
  What all the statements of layer 8 ask besides: alive.
  The mathematics of the algebra of spans: all that is left of what is left is what was; two lists with one set are the same.
  SpanAlgebra, walked: of any version what Has says of Meet, Join, Not.
  The statements' same: two lists of intervals that are the same.
-/
import Derived.Test.YtapikdgncdcneaaGreatDoorSpanRead
import Derived.Test.YtapikdgncdcneaaGreatDoorSpanNot
import Derived.Test.YtapikdgncdcneaaGreatDoorVerRef5
namespace Go.Proofs.YtapikdgncdcneaaGreatDoor
open Go.RowKit
namespace SpanC
open VerM SpanM StrC TextR VerC
set_option linter.unusedSimpArgs false

theorem front_low {x : St} (hf : wfE x.f) (ht : wfE x.t) (h : cE x.f x.t < 0) : x.f.s ≤ 1 := by
  have h2 := hf.2.1
  rcases Nat.lt_or_ge x.f.s 2 with h3 | h3
  · omega
  · have e : x.f.s = 2 := by omega
    rw [cE_is hf ht, if_pos (.inl e), e] at h
    have := ht.2.1
    unfold cmpN at h
    (repeat' split at h) <;> omega
theorem ofSt_st {x : StR} (hf : wfE x.f.ed) (ht : wfE x.t.ed) (hl : x.f.s ≤ 1) : (toSt (ofSt x)).st = x.st := by
  obtain ⟨⟨v, a, c, s⟩, ⟨v2, a2, c2, s2⟩⟩ := x
  have h2 : s2 ≤ 2 := ht.2.1
  have hz : s2 = 2 → v2 = zeroV := ht.2.2
  have h1 : s ≤ 1 := hl
  unfold toSt ofSt StR.st EdR.ed
  dsimp only
  have e1 : (if ((s : Int) == 1) = true then 1 else 0) = s := by
    rcases (by omega : s = 0 ∨ s = 1) with rfl | rfl <;> rfl
  rw [e1]
  rcases (by omega : s2 = 0 ∨ s2 = 1 ∨ s2 = 2) with rfl | rfl | rfl
  · rfl
  · rfl
  · rw [hz rfl]; rfl
theorem spanB_of {R : List StR} (hok : ∀ x ∈ R, wfE x.f.ed ∧ wfE x.t.ed) (hc : SpanM.Can (R.map StR.st)) (hl : R.length ≤ 16) : spanB (R.map ofSt) = true ∧ spanM (R.map ofSt) = R.map StR.st := by
  have key : ∀ x ∈ R, (toSt (ofSt x)).st = x.st := fun x hx => ofSt_st (hok x hx).1 (hok x hx).2 (front_low (x := x.st) (hok x hx).1 (hok x hx).2 (hc.1 _ (List.mem_map_of_mem hx)))
  refine ⟨?_, ?_⟩
  · unfold spanB
    rw [Bool.and_eq_true, List.all_eq_true]
    refine ⟨by rw [List.length_map]; exact decide_eq_true hl, fun i hi => ?_⟩
    rw [List.mem_range, List.length_map] at hi
    have hx := List.getElem_mem hi
    have hk := key _ hx
    obtain ⟨hf, ht⟩ := hok _ hx
    unfold goodAt
    rw [getElem!_pos (R.map ofSt) i (by rw [List.length_map]; exact hi), List.getElem_map]
    simp only [Bool.and_eq_true, Bool.or_eq_true, Bool.not_eq_true', decide_eq_true_iff]
    refine ⟨⟨?_, ?_⟩, ?_⟩
    · unfold rightB
      simp only [Bool.and_eq_true, Bool.or_eq_true, Bool.not_eq_true']
      refine ⟨⟨hf.1, ht.1⟩, ?_⟩
      show ((R[i].t.s : Int) == 2) = false ∨ zeroB R[i].t.v ((R[i].t.s : Int) == 0) = true
      by_cases e : R[i].t.s = 2
      · right
        have hz : R[i].t.v = zeroV := ht.2.2 e
        unfold zeroB
        rw [hz, e, cmpV_self]; rfl
      · left
        exact beq_eq_false_iff_ne.2 (by omega)
    · unfold empB
      rw [hk]
      have := hc.1 _ (List.mem_map_of_mem hx)
      exact decide_eq_false (by omega)
    · by_cases h0 : i = 0
      · exact .inl h0
      · right
        rw [getElem!_pos (R.map ofSt) (i - 1) (by rw [List.length_map]; omega), List.getElem_map]
        have hk2 := key _ (List.getElem_mem (show i - 1 < R.length by omega))
        have hp := (List.pairwise_iff_getElem.1 hc.2) (i - 1) i (by rw [List.length_map]; omega) (by rw [List.length_map]; omega) (by omega)
        rw [List.getElem_map, List.getElem_map] at hp
        have e1 : (toSt (ofSt R[i])).f.ed = R[i].st.f := congrArg St.f hk
        have e2 : (toSt (ofSt R[i - 1])).t.ed = R[i - 1].st.t := congrArg St.t hk2
        rw [e1, e2]
        exact hp
  · unfold spanM
    rw [List.map_map]
    exact List.map_congr_left fun x hx => key x hx
theorem ivTx_of {w : World} {x : StR} (h : StOk w x) : IvTx w (ofSt x) := ⟨⟨h.f.txs, h.f.kind, h.f.nil⟩, ⟨h.t.txs, h.t.kind, h.t.nil⟩⟩
/-- a list of intervals that a call answered -/
structure Ans (w : World) (B : Nat) (u : Value) (L : List IvG) (l : List St) : Prop where
  val : ∃ a cp, u = .slice a L.length cp ∧ IvArg w a L
  row : IvRow w B u L
  good : spanB L = true
  set : spanM L = formM l
theorem SetE.ans {l : List St} {w w' : World} {e : Ending} (h : SetE l w e w') (hl : (formM l).length ≤ 16) : Below w.heap.size w w' ∧ ∃ u L, e = .returned (.tuple #[u, .int .i64 0]) ∧ Ans w' w.heap.size u L l := by
  refine ⟨h.1, ?_⟩
  obtain ⟨u, R, rfl, hm, hrow, hok⟩ := h.2.2 hl
  have hR : R.length ≤ 16 := by have := congrArg List.length hm; rw [List.length_map] at this; omega
  obtain ⟨h1, h2⟩ := spanB_of (fun x hx => ⟨(hok x hx).f.wf, (hok x hx).t.wf⟩) (by rw [hm]; exact (formM_is l).1) hR
  obtain ⟨a, cp, rfl⟩ := hrow.value
  refine ⟨_, R.map ofSt, rfl, ⟨a, cp, rfl, ⟨?_, fun x hx => ?_⟩⟩, hrow, h1, h2.trans hm⟩
  · exact hrow.in_
  · obtain ⟨y, hy, rfl⟩ := List.mem_map.1 hx
    exact ivTx_of (hok y hy)
/-- a text of a version in memory of its own -/
theorem has_meet (a b : List St) (v : Ver) : hasL (formM (meets a b)) v = (hasL a v && hasL b v) := by
  have h1 := (formM_is (meets a b)).2 ⟨v, 0⟩
  rw [inL_meets, ← hasL_in, ← hasL_in, ← hasL_in] at h1
  cases ha : hasL a v <;> cases hb : hasL b v <;> cases hm : hasL (formM (meets a b)) v <;> simp_all
theorem has_join (a b : List St) (v : Ver) : hasL (formM (a ++ b)) v = (hasL a v || hasL b v) := by
  have h1 := (formM_is (a ++ b)).2 ⟨v, 0⟩
  rw [inL_append, ← hasL_in, ← hasL_in, ← hasL_in] at h1
  cases ha : hasL a v <;> cases hb : hasL b v <;> cases hm : hasL (formM (a ++ b)) v <;> simp_all
theorem has_form (a : List St) (v : Ver) : hasL (formM a) v = hasL a v := by
  have h1 := (formM_is a).2 ⟨v, 0⟩
  rw [← hasL_in, ← hasL_in] at h1
  cases ha : hasL a v <;> cases hm : hasL (formM a) v <;> simp_all
theorem has_not {a : List St} (h : SpanM.Can a) {v : Ver} (hv : may v = true) : hasL (formM (notM a)) v = !hasL a v := by rw [has_form, notM_has h hv]
end SpanC
end Go.Proofs.YtapikdgncdcneaaGreatDoor
namespace Go.Proofs.YtapikdgncdcneaaGreatDoor
open Go.RowKit
namespace SpanC
open VerM SpanM StrC TextR VerC
set_option linter.unusedSimpArgs false

def tA : B := [94, 49, 46, 50, 46, 51]
def tB : B := [62, 61, 49, 46, 48, 46, 48, 32, 60, 50, 46, 48, 46, 48, 32, 124, 124, 32, 61, 50, 46, 48, 46, 48]
def tC : B := [94, 49, 46, 48, 46, 48]
theorem can_one {s : St} (h : cE s.f s.t < 0) : SpanM.Can [s] := ⟨fun x hx => by rw [List.mem_singleton.1 hx]; exact h, List.pairwise_singleton _ _⟩
def sA : St := ⟨⟨⟨1, 2, 3, []⟩, 0⟩, ⟨⟨2, 0, 0, [[48]]⟩, 0⟩⟩
theorem formA : formO tA = some [62, 61, 49, 46, 50, 46, 51, 32, 60, 50, 46, 48, 46, 48, 45, 48] := by
  have h1 : readO tA = some [sA] := by kernel_rfl
  have h2 : formM [sA] = [sA] := formM_of (can_one (by decide))
  unfold formO
  rw [h1]
  show writeO (formM [sA]) = _
  rw [h2]
  kernel_rfl
def sB1 : St := ⟨⟨⟨1, 0, 0, []⟩, 0⟩, ⟨⟨2, 0, 0, []⟩, 0⟩⟩
def sB2 : St := ⟨⟨⟨2, 0, 0, []⟩, 0⟩, ⟨⟨2, 0, 0, []⟩, 1⟩⟩
theorem formB : formO tB = some [62, 61, 49, 46, 48, 46, 48, 32, 60, 61, 50, 46, 48, 46, 48] := by
  have h1 : readO tB = some [sB1, sB2] := by kernel_rfl
  have h2 : formM [sB1, sB2] = [⟨sB1.f, sB2.t⟩] := (formM_eq (can_one (by decide)) fun e => by
    rw [inL_one, inL_cons, inL_one]
    have a1 : cE sB1.f sB2.f < 0 := by decide
    have a2 : cE sB2.f sB2.t < 0 := by decide
    have an := cE_anti e sB2.f
    constructor
    · rintro ⟨h1, h2⟩
      by_cases h : cE e sB2.f < 0
      · exact .inl ⟨h1, h⟩
      · exact .inr ⟨by omega, h2⟩
    · rintro (⟨h1, h2⟩ | ⟨h1, h2⟩)
      · exact ⟨h1, SpanM.lt_le h2 (Int.le_of_lt a2)⟩
      · exact ⟨le_trans (Int.le_of_lt a1) h1, h2⟩).symm
  unfold formO
  rw [h1]
  show writeO (formM [sB1, sB2]) = _
  rw [h2]
  kernel_rfl
def vL : List B := [[49, 46, 49, 46, 48], [50, 46, 48, 46, 48], [49, 46, 50, 46, 48]]
def vR : List B := [[49, 46, 49, 46, 48], [49, 46, 50, 46, 48], [50, 46, 48, 46, 48]]
theorem sv_R : SV vR := ⟨by decide, by decide⟩
def sC : St := ⟨⟨⟨1, 0, 0, []⟩, 0⟩, ⟨⟨2, 0, 0, [[48]]⟩, 0⟩⟩
theorem pickC {w w' : World} {e : Ending} (h : PickE tC vL w e w') : e = .returned (.tuple #[.string (str [49, 46, 50, 46, 48]), .bool true, .int .i64 0]) ∧ Below w.heap.size w w' := by
  obtain ⟨hb, h⟩ := h
  have h1 : readO tC = some [sC] := by kernel_rfl
  rw [h1] at h
  obtain ⟨R, hs, hm, he⟩ := h.2 (by decide)
  have hR : R = vR := SV.ext hs sv_R (fun x => by
    rw [hm]
    unfold vL vR
    simp only [List.mem_cons, List.not_mem_nil, or_false]
    constructor
    · rintro (h | h | h)
      · exact .inl h
      · exact .inr (.inr h)
      · exact .inr (.inl h)
    · rintro (h | h | h)
      · exact .inl h
      · exact .inr (.inr h)
      · exact .inr (.inl h))
  have h2 : formM [sC] = [sC] := formM_of (can_one (by decide))
  rw [hR, h2] at he
  have h3 : vR.reverse.find? (hasT [sC]) = some [49, 46, 50, 46, 48] := by decide
  rw [h3] at he
  exact ⟨he, hb⟩
set_option maxHeartbeats 4000000 in
set_option maxRecDepth 100000 in
theorem alive_any (w : World) (hv : Vw w) : Calls Tryz.prog 6 #[] w fun e w' => e = .returned (.bool true) ∧ Below w.heap.size w w' := by
  have HF1 := Lib.hid (pForm_any tA w hv (by decide))
  rw [formA] at HF1
  have HF2 := Lib.hid (fun w' (g : Below w.heap.size w w') => pForm_any tB w' (hv.gr g) (by decide))
  rw [formB] at HF2
  have HV := Lib.hid hv
  have k1 : ((str [62, 61, 49, 46, 50, 46, 51, 32, 60, 50, 46, 48, 46, 48, 45, 48]).toList == ([62, 61, 49, 46, 50, 46, 51, 32, 60, 50, 46, 48, 46, 48, 45, 48] : List UInt8)) = true := (beq_list _ _).trans (by decide)
  have k2 : ((str [62, 61, 49, 46, 48, 46, 48, 32, 60, 61, 50, 46, 48, 46, 48]).toList == ([62, 61, 49, 46, 48, 46, 48, 32, 60, 61, 50, 46, 48, 46, 48] : List UInt8)) = true := (beq_list _ _).trans (by decide)
  have k3 : ((str [49, 46, 50, 46, 48]).toList == ([49, 46, 50, 46, 48] : List UInt8)) = true := (beq_list _ _).trans (by decide)
  clear hv
  go_enter Tryz.func6, Tryz.ntmps6
  go_wp2_with (go_at_call 22; refine HF1.out.mono ?_; rintro e w1 ⟨rfl, hb1⟩; unfold outO; dsimp only; have HB1 := Lib.hid hb1; clear hb1; refine Hid.out ?_)
  refine Lib.hid ?_
  go_wp2_with (go_at_call 22; refine (HF2.out _ HB1.out).mono ?_; rintro e w2 ⟨rfl, hb2⟩; unfold outO; dsimp only; have HB2 := Lib.hid (HB1.out.trans (hb2.mono HB1.out.size)); clear hb2; refine Hid.out ?_)
  refine Lib.hid ?_
  have hn := heap_alloc_new w2 (.cells #[.string (str [49, 46, 49, 46, 48]), .string (str [50, 46, 48, 46, 48]), .string (str [49, 46, 50, 46, 48])] 9)
  have HB3 := Lib.hid (HB2.out.alloc HB2.out.size (.cells #[.string (str [49, 46, 49, 46, 48]), .string (str [50, 46, 48, 46, 48]), .string (str [49, 46, 50, 46, 48])] 9))
  have HP := Lib.hid (pPick_any tC vL w2.heap.size 0 3 _ (HV.out.gr HB3.out) (by decide) (by decide) (by decide) (by simp) (fun i hi => by
    have : i = 0 ∨ i = 1 ∨ i = 2 := by have : i < 3 := hi; omega
    unfold World.cell?
    rcases this with rfl | rfl | rfl
    · show (match (w2.alloc _).heap[w2.heap.size]? with | some (.cells c _ _) => c[0]? | _ => none) = _
      rw [hn]; rfl
    · show (match (w2.alloc _).heap[w2.heap.size]? with | some (.cells c _ _) => c[1]? | _ => none) = _
      rw [hn]; rfl
    · show (match (w2.alloc _).heap[w2.heap.size]? with | some (.cells c _ _) => c[2]? | _ => none) = _
      rw [hn]; rfl))
  clear hn
  go_wp2_with (go_at_call 23; refine HP.out.mono ?_; rintro e w4 he; obtain ⟨rfl, hb4⟩ := pickC he; have HB4 := Lib.hid (HB3.out.trans (hb4.mono HB3.out.size)); clear hb4 he)
  go_ret
  exact ⟨rfl, HB4.out⟩
end SpanC
end Go.Proofs.YtapikdgncdcneaaGreatDoor
namespace Go.Proofs.YtapikdgncdcneaaGreatDoor
open Go.RowKit
namespace SpanC
open VerM SpanM StrC TextR VerC
set_option linter.unusedSimpArgs false

theorem all_upto {e : Ed} (h : wfE e) : cE e allS.t ≤ 0 := by
  by_cases h2 : e.s = 2
  · have : e = allS.t := by
      obtain ⟨v, s⟩ := e
      have hv : v = zeroV := h.2.2 h2
      have hs : s = 2 := h2
      subst hv; subst hs; rfl
    rw [this, cE_self]; exact Int.le_refl _
  · obtain ⟨v, s⟩ := e
    exact Int.le_of_lt (all_back v h2)
theorem toSt_wf {x : IvG} (h : rightB x = true) : wfE (toSt x).st.f ∧ wfE (toSt x).st.t ∧ (toSt x).st.f.s ≤ 1 := by
  unfold rightB at h
  simp only [Bool.and_eq_true] at h
  obtain ⟨⟨h1, h2⟩, h3⟩ := h
  unfold toSt StR.st EdR.ed
  refine ⟨⟨h1, ?_, ?_⟩, ?_, ?_⟩
  · show (if x.lo then 1 else 0) ≤ 2
    split <;> omega
  · show (if x.lo then 1 else 0) = 2 → _
    split <;> intro h <;> omega
  · by_cases he : x.e = true
    · simp only [he, if_true]
      exact ⟨zeroV_may, by decide, fun _ => rfl⟩
    · simp only [he]
      refine ⟨h2, ?_, ?_⟩
      · show (if x.ho then 0 else 1) ≤ 2
        split <;> omega
      · show (if x.ho then 0 else 1) = 2 → _
        split <;> intro h <;> omega
  · show (if x.lo then 1 else 0) ≤ 1
    split <;> omega
theorem in_range {L : List IvG} (h : spanB L = true) {e : Ed} (he : inL e (spanM L)) : cE allS.f e ≤ 0 ∧ cE e allS.t < 0 := by
  obtain ⟨s, hs, h1, h2⟩ := he
  unfold spanM at hs
  obtain ⟨x, hx, rfl⟩ := List.mem_map.1 hs
  obtain ⟨w1, w2, w3⟩ := toSt_wf (spanB_right h x hx)
  refine ⟨le_trans ?_ h1, lt_le h2 (all_upto w2)⟩
  exact all_front w1.1 (toSt x).st.f.s
/-- Not, twice -/
theorem not_not {L1 L5 L6 : List IvG} (h1 : spanB L1 = true) (h5 : spanB L5 = true) (h6 : spanB L6 = true) (e5 : spanM L5 = formM (notM (spanM L1))) (e6 : spanM L6 = formM (notM (spanM L5))) : spanM L6 = spanM L1 := by
  refine SpanM.Can.ext (spanB_can h6) (spanB_can h1) fun e => ?_
  have k5 : ∀ e, inL e (spanM L5) ↔ inL e (notM (spanM L1)) := fun e => by rw [e5]; exact (formM_is _).2 e
  have k6 : ∀ e, inL e (spanM L6) ↔ inL e (notM (spanM L5)) := fun e => by rw [e6]; exact (formM_is _).2 e
  constructor
  · intro h
    obtain ⟨r1, r2⟩ := in_range h6 h
    have := (notM_in (spanB_can h5) r1 r2).1 ((k6 e).1 h)
    rw [k5, notM_in (spanB_can h1) r1 r2] at this
    exact Classical.not_not.1 this
  · intro h
    obtain ⟨r1, r2⟩ := in_range h1 h
    rw [k6, notM_in (spanB_can h5) r1 r2, k5, notM_in (spanB_can h1) r1 r2]
    exact fun hn => hn h
def SameI (x y : IvG) : Prop := x.lv = y.lv ∧ x.lo = y.lo ∧ x.hv = y.hv ∧ x.ho = y.ho ∧ x.e = y.e
theorem same_of {x y : IvG} (hx : rightB x = true) (hy : rightB y = true) (h : (toSt x).st = (toSt y).st) : SameI x y := by
  obtain ⟨lv, la, lc, lo, hv, ha, hc, ho, e⟩ := x
  obtain ⟨lv', la', lc', lo', hv', ha', hc', ho', e'⟩ := y
  unfold toSt StR.st EdR.ed at h
  unfold rightB zeroB at hx hy
  simp only [Bool.and_eq_true, Bool.or_eq_true, Bool.not_eq_true', decide_eq_true_iff] at hx hy
  dsimp only at h
  injection h with hf ht
  injection hf with h1 h2
  have hlo : lo = lo' := by cases lo <;> cases lo' <;> simp_all
  have he : e = e' := by cases e <;> cases e' <;> cases ho <;> cases ho' <;> simp_all
  subst he
  cases e with
  | true =>
    obtain ⟨z1, z2⟩ := hx.2.resolve_left (by simp)
    obtain ⟨z3, z4⟩ := hy.2.resolve_left (by simp)
    exact ⟨h1, hlo, (cmpV_zero z1).trans (cmpV_zero z3).symm, z2.trans z4.symm, rfl⟩
  | false =>
    simp only [Bool.false_eq_true, if_false] at ht
    injection ht with h3 h4
    exact ⟨h1, hlo, h3, by cases ho <;> cases ho' <;> simp_all, rfl⟩
theorem same_all {A C : List IvG} (hA : spanB A = true) (hC : spanB C = true) (h : spanM A = spanM C) : A.length = C.length ∧ ∀ (i : Nat) (x y : IvG), A[i]? = some x → C[i]? = some y → SameI x y := by
  have hl : A.length = C.length := by have := congrArg List.length h; unfold spanM at this; simpa using this
  refine ⟨hl, fun i x y hx hy => ?_⟩
  refine same_of (spanB_right hA x (List.mem_of_getElem? hx)) (spanB_right hC y (List.mem_of_getElem? hy)) ?_
  have h2 := congrArg (·[i]?) h
  unfold spanM at h2
  simp only [List.getElem?_map, hx, hy] at h2
  exact Option.some.inj h2
/-- how a call ends that answers a span, or none -/
def AnsE (l : List St) (w : World) (e : Ending) (w' : World) : Prop := Below w.heap.size w w' ∧ ∃ a cp n L, e = .returned (.tuple #[.slice a (List.length L) cp, .int .i64 n]) ∧ (n = 80 ∨ n = 0 ∧ IvArg w' a L ∧ spanB L = true ∧ spanM L = formM l)
theorem SetE.to {l : List St} {w w' : World} {e : Ending} (h : SetE l w e w') : AnsE l w e w' := by
  by_cases hl : (formM l).length ≤ 16
  · obtain ⟨hb, u, L, rfl, ⟨a, cp, rfl, ha⟩, -, hg, hs⟩ := h.ans hl
    exact ⟨hb, a, cp, 0, L, rfl, .inr ⟨rfl, ha, hg, hs⟩⟩
  · exact ⟨h.1, none, 0, 80, [], h.2.1 (by omega), .inl rfl⟩
/-- how Read ends, so -/
def ReadA (w : World) (e : Ending) (w' : World) : Prop := Below w.heap.size w w' ∧ ∃ a cp n L, e = .returned (.tuple #[.slice a (List.length L) cp, .int .i64 n]) ∧ (n = 80 ∨ n = 0 ∧ IvArg w' a L ∧ spanB L = true)
theorem ReadsE.to {s : B} {w w' : World} {e : Ending} (h : ReadsE s w e w') : ReadA w e w' := by
  unfold ReadsE at h
  cases hr : readO s with
  | none =>
    rw [hr] at h
    obtain ⟨rfl, hb⟩ := h
    exact ⟨hb, none, 0, 80, [], rfl, .inl rfl⟩
  | some l =>
    rw [hr] at h
    obtain ⟨hb, a, cp, n, L, he, hn⟩ := h.to
    exact ⟨hb, a, cp, n, L, he, hn.imp id fun ⟨h1, h2, h3, _⟩ => ⟨h1, h2, h3⟩⟩
theorem read_ver2 {s : B} {w w' : World} {x : Value} (he : ReadE s w' (.returned x)) (hn : NewE w.heap.size w' (.returned x)) : ∃ (v : Ver) (a : Option Addr) (cp : Nat) (z : Int), x = .tuple #[verV v.a v.b v.c a v.pre.length cp, .int .i64 z] ∧ (z = 70 ∨ z = 0) ∧ may v = true ∧ TxK w' a cp v.pre := by
  rcases readE_cases he with ⟨v, a, cp, hrd, rfl, hT⟩ | ⟨hrd, rfl⟩
  · have h := hn _ _ _ _ _ _ _ rfl
    exact ⟨v, a, cp, 0, rfl, .inr rfl, (read_text hrd).2.2, ⟨hT, fun b f e => (h.1 b f e).2, h.2⟩⟩
  · exact ⟨zeroV, none, 0, 70, rfl, .inl rfl, zeroV_may, ⟨Txs.nil _ _ _, fun b f e => (by cases e), fun _ => ⟨rfl, rfl⟩⟩⟩
end SpanC
end Go.Proofs.YtapikdgncdcneaaGreatDoor
namespace Go.Proofs.YtapikdgncdcneaaGreatDoor
open Go.RowKit
namespace SpanC
open VerM SpanM StrC TextR VerC
set_option linter.unusedSimpArgs false

/-- what the law takes of the statements' same -/
def SameOk : Prop := ∀ (a1 : Option Addr) (c1 : Nat) (L1 : List IvG) (a2 : Option Addr) (c2 : Nat) (L2 : List IvG) (w : World), IvArg w a1 L1 → IvArg w a2 L2 → L1.length ≤ 1000 → L1.length = L2.length → (∀ (i : Nat) (x y : IvG), L1[i]? = some x → L2[i]? = some y → SameI x y) →
    Calls Tryz.prog 12 #[.slice a1 L1.length c1, .slice a2 L2.length c2] w fun e w' => e = .returned (.bool true) ∧ Below w.heap.size w w'
end SpanC
end Go.Proofs.YtapikdgncdcneaaGreatDoor
namespace Go.Proofs.YtapikdgncdcneaaGreatDoor
open Go.RowKit
namespace SpanC
open VerM SpanM StrC TextR VerC
set_option linter.unusedSimpArgs false

theorem iv_at {w : World} {a : Option Addr} {L : List IvG} (h : IvArg w a L) (i : Nat) (hi : i < L.length) : ∃ g o x, a = some ⟨g, o, none⟩ ∧ L[i]? = some x ∧ IvTx w x ∧
    w.cell? ⟨g, o + i * 11, none⟩ = some (.int .u32 x.lv.a) ∧ w.cell? ⟨g, o + i * 11 + 1, none⟩ = some (.int .u32 x.lv.b) ∧ w.cell? ⟨g, o + i * 11 + 2, none⟩ = some (.int .u32 x.lv.c) ∧ w.cell? ⟨g, o + i * 11 + 3, none⟩ = some (.slice x.la x.lv.pre.length x.lc) ∧ w.cell? ⟨g, o + i * 11 + 4, none⟩ = some (.bool x.lo) ∧
    w.cell? ⟨g, o + i * 11 + 5, none⟩ = some (.int .u32 x.hv.a) ∧ w.cell? ⟨g, o + i * 11 + 6, none⟩ = some (.int .u32 x.hv.b) ∧ w.cell? ⟨g, o + i * 11 + 7, none⟩ = some (.int .u32 x.hv.c) ∧ w.cell? ⟨g, o + i * 11 + 8, none⟩ = some (.slice x.ha x.hv.pre.length x.hc) ∧ w.cell? ⟨g, o + i * 11 + 9, none⟩ = some (.bool x.ho) ∧ w.cell? ⟨g, o + i * 11 + 10, none⟩ = some (.bool x.e) := by
  obtain ⟨g, o, e, hc⟩ := h.row.cells (by omega)
  have hx : L[i]! = L[i] := getElem!_pos L i hi
  refine ⟨g, o, L[i], e, List.getElem?_eq_getElem hi, h.txs _ (List.getElem_mem hi), ?_⟩
  have key := fun c hc' => hc i hi c hc'
  rw [hx] at key
  exact ⟨key 0 (by decide), key 1 (by decide), key 2 (by decide), key 3 (by decide), key 4 (by decide), key 5 (by decide), key 6 (by decide), key 7 (by decide), key 8 (by decide), key 9 (by decide), key 10 (by decide)⟩
theorem sameB_self (v : Ver) : sameB v v = true := by
  unfold sameB
  simp
set_option maxHeartbeats 8000000 in
set_option maxRecDepth 100000 in
theorem rsame_yes (a1 : Option Addr) (c1 : Nat) (L1 : List IvG) (a2 : Option Addr) (c2 : Nat) (L2 : List IvG) (w : World) (h1 : IvArg w a1 L1) (h2 : IvArg w a2 L2) (hl : L1.length ≤ 1000) (he : L1.length = L2.length) (hs : ∀ (i : Nat) (x y : IvG), L1[i]? = some x → L2[i]? = some y → SameI x y) :
    Calls Tryz.prog 12 #[.slice a1 L1.length c1, .slice a2 L2.length c2] w fun e w' => e = .returned (.bool true) ∧ Below w.heap.size w w' := by
  have H1 := Lib.hid h1
  have H2 := Lib.hid h2
  have HS := Lib.hid hs
  obtain ⟨n, hn⟩ : ∃ n, L1.length = n := ⟨_, rfl⟩
  have HN1 := Lib.hid hn
  have HN2 : Hid (L2.length = n) := Lib.hid (by omega)
  have hb : n ≤ 1000 := by omega
  rw [← he, hn]
  clear h1 h2 hs he hn hl
  go_enter Tryz.func12, Tryz.ntmps12
  go_wp2_with fail
  go_loopw [5] (fun v5 wr => ∃ k : Nat, v5 = .int .i64 k ∧ k ≤ n ∧ Hid (Below w.heap.size w wr)) (fun v5 _ => n - (intOf v5).toNat)
  case atStart => exact ⟨0, rfl, Nat.zero_le _, Lib.hid (Below.refl _ _)⟩
  case round =>
    obtain ⟨k, rfl, hk, HB⟩ := hrel
    rename World => wr
    by_cases hlt : k < n
    · have hd : decide (k < n) = true := decide_eq_true hlt
      obtain ⟨g, o, x, rfl, hx, hxt, x0, x1, x2, x3, x4, x5, x6, x7, x8, x9, x10⟩ := iv_at (H1.out.below HB.out) k (by rw [HN1.out]; exact hlt)
      obtain ⟨g', o', y, rfl, hy, hyt, y0, y1, y2, y3, y4, y5, y6, y7, y8, y9, y10⟩ := iv_at (H2.out.below HB.out) k (by rw [HN2.out]; exact hlt)
      obtain ⟨s1, s2, s3, s4, s5⟩ := HS.out k x y hx hy
      have HSL := Lib.hid (fun w' (gg : Below wr.heap.size wr w') => rSame_any x.lv y.lv x.la x.lc y.la y.lc w' (hxt.l.txs.gr gg) (hyt.l.txs.gr gg))
      have HSH := Lib.hid (fun w' (gg : Below wr.heap.size wr w') => rSame_any x.hv y.hv x.ha x.hc y.ha y.hc w' (hxt.h.txs.gr gg) (hyt.h.txs.gr gg))
      have e1 : sameB x.lv y.lv = true := by rw [s1, sameB_self]
      have e2 : sameB x.hv y.hv = true := by rw [s3, sameB_self]
      rw [e1] at HSL
      rw [e2] at HSH
      have b1 : (y.lo == x.lo) = true := by rw [s2]; simp
      rw [← s2] at y4
      rw [← s4] at y9
      rw [← s5] at y10
      clear hx hy hxt hyt s1 s2 s3 s4 s5 e1 e2 b1
      have K0 := Lib.hid (cell_regrown x0)
      have M0 := Lib.hid (cell_regrown y0)
      have K1 := Lib.hid (cell_regrown x1)
      have M1 := Lib.hid (cell_regrown y1)
      have K2 := Lib.hid (cell_regrown x2)
      have M2 := Lib.hid (cell_regrown y2)
      have K3 := Lib.hid (cell_regrown x3)
      have M3 := Lib.hid (cell_regrown y3)
      have K4 := Lib.hid (cell_regrown x4)
      have M4 := Lib.hid (cell_regrown y4)
      have K5 := Lib.hid (cell_regrown x5)
      have M5 := Lib.hid (cell_regrown y5)
      have K6 := Lib.hid (cell_regrown x6)
      have M6 := Lib.hid (cell_regrown y6)
      have K7 := Lib.hid (cell_regrown x7)
      have M7 := Lib.hid (cell_regrown y7)
      have K8 := Lib.hid (cell_regrown x8)
      have M8 := Lib.hid (cell_regrown y8)
      have K9 := Lib.hid (cell_regrown x9)
      have M9 := Lib.hid (cell_regrown y9)
      have K10 := Lib.hid (cell_regrown x10)
      have M10 := Lib.hid (cell_regrown y10)
      clear x0 x1 x2 x3 x4 x5 x6 x7 x8 x9 x10 y0 y1 y2 y3 y4 y5 y6 y7 y8 y9 y10
      have cL : ∀ d os, Calls Tryz.prog 31 #[verV x.lv.a x.lv.b x.lv.c x.la x.lv.pre.length x.lc, verV y.lv.a y.lv.b y.lv.c y.la y.lv.pre.length y.lc] (Go.Sort.grow (redrawn wr d) os) _ := fun d os => Calls.regrown_of ((HSL.out _ (below_regrown wr d os)).mono fun _ _ h => h)
      have cH : ∀ d os, Calls Tryz.prog 31 #[verV x.hv.a x.hv.b x.hv.c x.ha x.hv.pre.length x.hc, verV y.hv.a y.hv.b y.hv.c y.ha y.hv.pre.length y.hc] (Go.Sort.grow (redrawn wr d) os) _ := fun d os => Calls.regrown_of ((HSH.out _ (below_regrown wr d os)).mono fun _ _ h => h)
      clear HSL HSH
      have CL := Lib.hid cL
      have CH := Lib.hid cH
      clear cL cH
      go_wp2_with fail
      refine wp_region_quiet_below (by kernel_rfl) (by kernel_rfl) ?_
      have k4 := K4.out
      have m4 := M4.out
      iterate 14 (first | go_big_quiet_step (fail) | quiet_step (fail))
      clear k4 m4
      have k9 := K9.out
      have m9 := M9.out
      iterate 15 (first | go_big_quiet_step (fail) | quiet_step (fail))
      clear k9 m9
      have k10 := K10.out
      have m10 := M10.out
      iterate 13 (first | go_big_quiet_step (fail) | quiet_step (fail))
      clear k10 m10
      have cL := CL.out
      have k0 := K0.out
      have m0 := M0.out
      have k1 := K1.out
      have m1 := M1.out
      have k2 := K2.out
      have m2 := M2.out
      have k3 := K3.out
      have m3 := M3.out
      iterate 16 (first | go_big_quiet_step (exact cL _ _) | quiet_step (exact cL _ _))
      clear k0 m0 k1 m1 k2 m2 k3 m3
      clear cL
      have cH := CH.out
      have k5 := K5.out
      have m5 := M5.out
      have k6 := K6.out
      have m6 := M6.out
      have k7 := K7.out
      have m7 := M7.out
      have k8 := K8.out
      have m8 := M8.out
      iterate 15 (first | go_big_quiet_step (exact cH _ _) | quiet_step (exact cH _ _))
      clear k5 m5 k6 m6 k7 m7 k8 m8
      clear cH
      refine wpQuiet_nil ?_
      intro _ hw'
      obtain ⟨⟨dq, osq⟩, hw''⟩ := hw'
      subst hw''
      have HBQ := Lib.hid (HB.out.trans ((below_regrown wr dq osq).mono HB.out.size))
      generalize Go.Sort.grow (redrawn wr dq) osq = w5 at *
      go_wp2_with fail
      go_roundw
      case rel => exact ⟨k + 1, by go_num, hlt, HBQ⟩
      case measure => simp [intOf]; omega
    · have hd : decide (k < n) = false := decide_eq_false hlt
      go_wp2_with fail
      go_ret
      exact ⟨rfl, HB.out⟩
end SpanC
end Go.Proofs.YtapikdgncdcneaaGreatDoor
