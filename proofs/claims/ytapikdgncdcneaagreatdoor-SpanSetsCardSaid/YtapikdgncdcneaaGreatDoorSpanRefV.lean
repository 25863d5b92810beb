/-
  The document's spans: Meet, Join, as wholes.
-/
import Derived.Test.YtapikdgncdcneaaGreatDoorSpanRefP
namespace Go.Proofs.YtapikdgncdcneaaGreatDoor
open Go.RowKit
namespace SpanC
open VerM SpanM StrC TextR VerC
set_option linter.unusedSimpArgs false
variable {K : Prop}

/-- how Meet, Join and Not of the document end -/
def Set8 (K : Prop) (l : List St) (w : World) (e : Ending) (w' : World) : Prop := Below w.heap.size w w' ∧ (16 < (formM l).length → e = .returned (.tuple #[.slice none 0 0, .int .i64 80])) ∧
  ((formM l).length ≤ 16 → ∃ u R, e = .returned (.tuple #[u, .int .i64 0]) ∧ RL K w' w.heap.size u R ∧ spanM R = formM l)
theorem RArg.news {w : World} {a : Option Addr} {L : List IvG} (h : RArg K w a L) : ∀ ad, a = some ad → ∀ j u, (L.flatMap gvL)[j]? = some u → w.cell? (ad.add j) = some u := by
  intro ad e j u hu
  have hj : j < L.length * 11 := by
    have := (List.getElem?_eq_some_iff.1 hu).1
    rwa [RowKC.flat_length gvL 11 gvL_length] at this
  obtain ⟨g, o, e2, hc⟩ := h.row.cells (by omega)
  rw [e] at e2
  cases e2
  have hk := hc (j / 11) (by omega) (j % 11) (by omega)
  rw [RowKC.flat_get gvL 11 gvL_length L j hj] at hu
  rw [Go.WideShapes.add_plain, ← hu, ← hk]
  congr 2
  omega
set_option maxHeartbeats 4000000 in
set_option maxRecDepth 100000 in
theorem rMeet8_any (a1 : Option Addr) (p1 : Nat) (A : List IvG) (a2 : Option Addr) (p2 : Nat) (C : List IvG) (w : World) (h1 : RArg K w a1 A) (h2 : RArg K w a2 C) (r1 : ∀ x ∈ A, rightB x = true) (r2 : ∀ x ∈ C, rightB x = true) (l1 : A.length ≤ 20) (l2 : C.length ≤ 20) :
    Calls Tryz.prog 19 #[.slice a1 A.length p1, .slice a2 C.length p2] w (Set8 K (meets (spanM A) (spanM C)) w) := by
  have HM := Lib.hid (rmeet_any a1 p1 A a2 p2 C w h1 h2 r1 r2 l1 l2)
  have hlen : (formM (meets (spanM A) (spanM C))).length ≤ 400 := by
    refine Nat.le_trans (formM_len _) ?_
    have key : ∀ (l r : List St), (meets l r).length = l.length * r.length := fun l r => by
      induction l with
      | nil => simp [meets]
      | cons x t ih => unfold meets at *; simp only [List.flatMap_cons, List.length_append, List.length_map, List.length_cons, ih]; rw [Nat.add_mul, Nat.one_mul, Nat.add_comm]
    rw [key, spanM_len, spanM_len]
    exact Nat.le_trans (Nat.mul_le_mul l1 l2) (by decide)
  generalize meets (spanM A) (spanM C) = m at *
  have HEND : Hid (∀ u R w1 e, RL K w1 w.heap.size u R → spanM R = formM m → Below w.heap.size w w1 → (e = if R.length ≤ 16 then .returned (.tuple #[u, .int .i64 0]) else .returned (.tuple #[.slice none 0 0, .int .i64 80])) → Set8 K m w e w1) := Lib.hid (fun u R w1 e hr hm hb he => by
    have hl : (formM m).length = R.length := by rw [← hm, spanM_len]
    refine ⟨hb, fun h => ?_, fun h => ?_⟩
    · rw [he, if_neg (by omega)]
    · rw [he, if_pos (by omega)]; exact ⟨u, R, rfl, hr, hm⟩)
  have HLEN := Lib.hid hlen
  generalize Set8 K m w = SE at *
  clear h1 h2 r1 r2 l1 l2 hlen
  go_enter Tryz.func19, Tryz.ntmps19
  go_wp2_with (go_at_call 35; refine HM.out.mono ?_; rintro e w1 ⟨u, R, rfl, hr, hm, hb⟩; have HR := Lib.hid hr; have HMM := Lib.hid hm; have HB := Lib.hid hb; clear hr hm hb; refine Hid.out ?_)
  refine Lib.hid ?_
  obtain ⟨a3, c3, rfl⟩ := HR.out.row.value
  have HLI := Lib.hid (rlimit_any a3 R.length c3 w1 (by have := HLEN.out; rw [← HMM.out, spanM_len] at this; omega))
  have HE := HEND.out _ R w1 _ HR.out HMM.out HB.out rfl
  by_cases h : R.length ≤ 16
  · rw [if_pos h] at HLI HE
    clear h
    go_wp2_with (go_at_call 42; refine HLI.out.mono ?_; rintro e w7 ⟨rfl, rfl⟩)
    exact HE
  · rw [if_neg h] at HLI HE
    clear h
    go_wp2_with (go_at_call 42; refine HLI.out.mono ?_; rintro e w7 ⟨rfl, rfl⟩)
    exact HE
theorem RArg.over {w w1 : World} {a : Option Addr} {L : List IvG} (h : RArg K w a L) (hb : Below w.heap.size w w1) : RArg K w1 a L := h.gr hb
section
variable {P : Program} (w : World)
theorem run_append_nil (base : Nat) (t ty e : TypeId) (i : TypeInfo) (size : Nat) (ht : P.underlying t = some (.slice e)) (hi : P.info? e = some i)
    (v : Value) (n c : Nat) (xs : List Value) (hown : w.ownsRow base e size v n xs) :
    (Builtin.append_ #[t, t] ty #[v, .slice none 0 c]).run P w = .ok v w := by
  rcases hown.2 with ⟨rfl, rfl⟩ | ⟨g, cap, cur, rfl, _, _, hnc, _⟩
  · simp [Builtin.append_, run_underlying ht, sizeOf, typeInfo, hi, Builtin.lenOf, Builtin.firstCells]
  · simp [Builtin.append_, run_underlying ht, sizeOf, typeInfo, hi, Builtin.lenOf, Builtin.firstCells, hnc, storeCells]
/-- append of a slice, nil or not (of whatever room), to a row of one's own -/
theorem wpList_append_anyc {ops : Array Oper} {rest : List Oper} {o : Oper} {a : Act} {Q : Exit → Act → World → Prop} (hgd : o.guard = none) (s x : Operand) (t : TypeId)
    (ho : o.op = .call { callee := .builtin .append, args := #[s, x], argTypes := #[t, t] })
    (base : Nat) (e : TypeId) (i : TypeInfo) (z : Value) (size bytes : Nat) (ht : P.underlying t = some (.slice e)) (hi : P.info? e = some i) (hz : i.zero = some z)
    (hsize : i.size = size) (hby : i.bytes = bytes) (hzs : z.cells.size = size) (hsz : 0 < size)
    (v : Value) (n : Nat) (xs : List Value) (hs : a.eval s = v) (hown : w.ownsRow base e size v n xs)
    (ax : Option Addr) (m c : Nat) (news : List Value) (hx : a.eval x = .slice ax m c) (hnil : ax = none → m = 0) (hl : news.length = m * size) (hnews : ∀ ad, ax = some ad → ∀ j u, news[j]? = some u → w.cell? (ad.add j) = some u) (h1 : ∀ u ∈ news, u.oneCell' = true)
    (h63 : n + m ≤ maxLen) (hbytes : (n + m) * bytes ≤ 140737488355328) (hbase : base ≤ w.heap.size)
    (h : ∀ v' w', w'.ownsRow base e size v' (n + m) (xs ++ news) → w.grownBy w' v.ownBlock → wpList P ops Q rest (a.put o.dst v') w') : wpList P ops Q (o :: rest) a w := by
  cases ax with
  | some ad => exact wpList_append_own w hgd s x t ho base e i z size bytes ht hi hz hsize hby hzs hsz v n xs hs hown ad m c news hx hl (hnews ad rfl) h1 h63 hbytes hbase fun v' w' g1 g2 _ => h v' w' g1 g2
  | none =>
    obtain rfl := hnil rfl
    obtain rfl : news = [] := List.eq_nil_of_length_eq_zero (by simpa using hl)
    refine wpList_plain hgd fun K hK => ?_
    have hrun := run_append_nil (P := P) w base t o.type e i size ht hi v n c xs hown
    unfold Oper.wp
    simp [execOp, ho, resolve, invoke, builtin, hs, hx, hrun, Result.andThen]
    exact hK _ _ (h v w (by simpa using hown) ⟨rfl, rfl, rfl, Nat.le_refl _, fun _ _ _ => rfl⟩)
end
theorem RArg.nil_ {w : World} {a : Option Addr} {L : List IvG} (h : RArg K w a L) (e : a = none) : L.length = 0 := by
  rcases Nat.eq_zero_or_pos L.length with h0 | h0
  · exact h0
  · obtain ⟨g, o, e2, -⟩ := h.row.cells h0
    rw [e] at e2
    cases e2
set_option maxHeartbeats 4000000 in
set_option maxRecDepth 100000 in
theorem rJoin8_any (a1 : Option Addr) (p1 : Nat) (A : List IvG) (a2 : Option Addr) (p2 : Nat) (C : List IvG) (w : World) (h1 : RArg K w a1 A) (h2 : RArg K w a2 C) (r1 : ∀ x ∈ A, rightB x = true) (r2 : ∀ x ∈ C, rightB x = true) (l1 : A.length ≤ 20) (l2 : C.length ≤ 20) :
    Calls Tryz.prog 20 #[.slice a1 A.length p1, .slice a2 C.length p2] w (Set8 K (spanM A ++ spanM C) w) := by
  obtain ⟨i0, hi, hz0, hz1, hz2⟩ := info_parts info_iv
  have H1 := Lib.hid h1
  have H2 := Lib.hid h2
  have N1 := Lib.hid h1.nil_
  have N2 := Lib.hid h2.nil_
  have L12 := Lib.hid (And.intro l1 l2)
  have HRI := Lib.hid (fun x (hx : x ∈ A ++ C) => (List.mem_append.1 hx).elim (r1 x) (r2 x))
  have HEND : Hid (∀ u R w1 e, RL K w1 w.heap.size u R → spanM R = formM (spanM A ++ spanM C) → Below w.heap.size w w1 → (e = if R.length ≤ 16 then .returned (.tuple #[u, .int .i64 0]) else .returned (.tuple #[.slice none 0 0, .int .i64 80])) → Set8 K (spanM A ++ spanM C) w e w1) := Lib.hid (fun u R w1 e hr hm hb he => by
    have hl : (formM (spanM A ++ spanM C)).length = R.length := by rw [← hm, spanM_len]
    refine ⟨hb, fun h => ?_, fun h => ?_⟩
    · rw [he, if_neg (by omega)]
    · rw [he, if_pos (by omega)]; exact ⟨u, R, rfl, hr, hm⟩)
  generalize Set8 K (spanM A ++ spanM C) w = SE at *
  clear h1 h2 r1 r2 l1 l2
  go_enter Tryz.func20, Tryz.ntmps20
  have hba : Below w.heap.size w (w.alloc (.cells #[] 53)) := (Below.refl _ w).alloc (Nat.le_refl _) _
  have hrow : (w.alloc (.cells #[] 53)).ownsRow w.heap.size 53 11 (.slice (some ⟨w.heap.size, 0, none⟩) 0 0) 0 [] :=
    ⟨rfl, .inr ⟨w.heap.size, 0, #[], rfl, Nat.le_refl _, heap_alloc_new w _, Nat.le_refl _, by unfold maxLen; omega, rfl, rfl⟩⟩
  have HBA := Lib.hid hba
  have HROW := Lib.hid hrow
  have NW1 := Lib.hid ((H1.out.gr hba).news)
  clear hba
  go_wp2_with (at_builtin; refine wpList_append_anyc _ rfl _ _ 22 rfl w.heap.size 53 i0 _ 11 104 Tryz.underlying22 hi hz0 hz1 hz2 rfl (by decide) _ _ _ rfl hrow a1 A.length p1 (A.flatMap gvL) rfl N1.out ?c1 NW1.out (gv_ones A) ?c3 ?c4 ?c5 ?_)
  case c1 => exact RowKC.flat_length gvL 11 gvL_length A
  case c3 => have := L12.out; unfold maxLen; omega
  case c4 => have := L12.out; omega
  case c5 => exact HBA.out.size
  intro v1 w2 hown2 hg2
  have HB2 : Hid (Below w.heap.size w w2) := Lib.hid (HBA.out.grown hg2 HBA.out.size (fun j hj => (World.ownsRow.lt HROW.out j hj).1))
  have HOW2 := Lib.hid hown2
  have NW2 := Lib.hid ((H2.out.gr HB2.out).news)
  clear hg2 hrow
  go_wp2_with (at_builtin; refine wpList_append_anyc _ rfl _ _ 22 rfl w.heap.size 53 i0 _ 11 104 Tryz.underlying22 hi hz0 hz1 hz2 rfl (by decide) _ _ _ rfl hown2 a2 C.length p2 (C.flatMap gvL) rfl N2.out ?c1 NW2.out (gv_ones C) ?c3 ?c4 ?c5 ?_)
  case c1 => exact RowKC.flat_length gvL 11 gvL_length C
  case c3 => have := L12.out; unfold maxLen; omega
  case c4 => have := L12.out; omega
  case c5 => exact HB2.out.size
  intro v3 w3 hown3 hg3
  have HB3 : Hid (Below w.heap.size w w3) := Lib.hid (HB2.out.grown hg3 HB2.out.size (fun j hj => (World.ownsRow.lt HOW2.out j hj).1))
  have hiv : IvRow w3 w.heap.size v3 (A ++ C) := by
    unfold IvRow
    rw [List.flatMap_append, List.length_append]
    simpa using hown3
  clear hg3 hown2 hown3
  obtain ⟨L, hAC⟩ : ∃ L, A ++ C = L := ⟨_, rfl⟩
  have HS : Hid (spanM L = spanM A ++ spanM C) := Lib.hid (by rw [← hAC, spanM_app])
  have HLL : Hid (L.length ≤ 40) := Lib.hid (by have := L12.out; rw [← hAC, List.length_append]; omega)
  have HTX : Hid (∀ x ∈ L, TI K w3 x) := Lib.hid (fun x hx => by
    rw [← hAC] at hx
    exact (List.mem_append.1 hx).elim (fun h => (H1.out.txs x h).gr HB3.out) (fun h => (H2.out.txs x h).gr HB3.out))
  rw [hAC] at hiv HRI
  clear hAC
  obtain ⟨a3, c3, rfl⟩ := hiv.value
  have HJ := Lib.hid (rjoin_any (K := K) a3 c3 L w3 ⟨hiv.in_, HTX.out⟩ HRI.out (by have := HLL.out; omega))
  rw [HS.out] at HJ
  have HLEN : Hid ((formM (spanM A ++ spanM C)).length ≤ 40) := Lib.hid (by
    refine Nat.le_trans (formM_len _) ?_
    rw [List.length_append, spanM_len, spanM_len]
    have := L12.out
    omega)
  clear hiv
  go_wp2_with (go_at_call 43; refine HJ.out.mono ?_; rintro e w4 ⟨u, R, rfl, hr, hm, hb⟩; have HR := Lib.hid (hr.base HB3.out.size); have HMM := Lib.hid hm; have HB := Lib.hid (HB3.out.trans (hb.mono HB3.out.size)); clear hr hm hb; refine Hid.out ?_)
  refine Lib.hid ?_
  obtain ⟨a5, c5, rfl⟩ := HR.out.row.value
  have HLI := Lib.hid (rlimit_any a5 R.length c5 w4 (by have := HLEN.out; rw [← HMM.out, spanM_len] at this; omega))
  have HE := HEND.out _ R w4 _ HR.out HMM.out HB.out rfl
  by_cases h : R.length ≤ 16
  · rw [if_pos h] at HLI HE
    clear h
    go_wp2_with (go_at_call 42; refine HLI.out.mono ?_; rintro e w7 ⟨rfl, rfl⟩)
    exact HE
  · rw [if_neg h] at HLI HE
    clear h
    go_wp2_with (go_at_call 42; refine HLI.out.mono ?_; rintro e w7 ⟨rfl, rfl⟩)
    exact HE
/-- what is not in one stretch: below it, above it -/
def restS (s : St) (e : Bool) : List St := [⟨allS.f, s.f⟩] ++ (if e then [] else [⟨s.t, allS.t⟩])
/-- the document's Not: what is left of every version, stretch by stretch -/
def notR (l : List (St × Bool)) (m : List St) : List St := l.foldl (fun m x => formM (meets m (restS x.1 x.2))) m
theorem restS_in {s : St} {b : Bool} (hb : b = true → s.t = allS.t) {e : Ed} (h1 : cE allS.f e ≤ 0) (h2 : cE e allS.t < 0) : inL e (restS s b) ↔ ¬ inS e s := by
  have a1 := cE_anti e s.f
  have a2 := cE_anti e s.t
  unfold restS inS
  cases b with
  | true =>
    have ht := hb rfl
    rw [if_pos rfl, List.append_nil, inL_one]
    unfold inS
    rw [ht]
    show cE allS.f e ≤ 0 ∧ cE e s.f < 0 ↔ _
    constructor
    · rintro ⟨_, h⟩ ⟨h3, _⟩; omega
    · intro h
      refine ⟨h1, Classical.byContradiction fun hn => h ⟨by omega, h2⟩⟩
  | false =>
    rw [if_neg (by decide), inL_append, inL_one, inL_one]
    unfold inS
    show (cE allS.f e ≤ 0 ∧ cE e s.f < 0) ∨ (cE s.t e ≤ 0 ∧ cE e allS.t < 0) ↔ _
    constructor
    · rintro (⟨_, h⟩ | ⟨h, _⟩) ⟨h3, h4⟩ <;> omega
    · intro h
      by_cases h5 : cE e s.f < 0
      · exact .inl ⟨h1, h5⟩
      · refine .inr ⟨Classical.byContradiction fun hn => h ⟨by omega, by omega⟩, h2⟩
theorem notR_in : ∀ (l : List (St × Bool)), (∀ x ∈ l, x.2 = true → x.1.t = allS.t) → ∀ (m : List St), (∀ e, inL e m → cE allS.f e ≤ 0 ∧ cE e allS.t < 0) → ∀ e, inL e (notR l m) ↔ inL e m ∧ ¬ inL e (l.map Prod.fst)
  | [], _, m, _, e => ⟨fun h => ⟨h, inL_nil e⟩, fun h => h.1⟩
  | x :: l, hl, m, hm, e => by
    have key : ∀ e, inL e (formM (meets m (restS x.1 x.2))) ↔ inL e m ∧ ¬ inS e x.1 := fun e => by
      rw [(formM_is _).2, inL_meets]
      constructor
      · rintro ⟨h1, h2⟩
        exact ⟨h1, (restS_in (hl x (List.mem_cons_self ..)) (hm e h1).1 (hm e h1).2).1 h2⟩
      · rintro ⟨h1, h2⟩
        exact ⟨h1, (restS_in (hl x (List.mem_cons_self ..)) (hm e h1).1 (hm e h1).2).2 h2⟩
    have ih := notR_in l (fun y hy => hl y (List.mem_cons_of_mem _ hy)) (formM (meets m (restS x.1 x.2))) (fun e he => hm e ((key e).1 he).1) e
    show inL e (notR l (formM (meets m (restS x.1 x.2)))) ↔ _
    rw [ih, key, List.map_cons, inL_cons]
    constructor
    · rintro ⟨⟨h1, h2⟩, h3⟩; exact ⟨h1, fun h => h.elim h2 h3⟩
    · rintro ⟨h1, h2⟩; exact ⟨⟨h1, fun h => h2 (.inl h)⟩, fun h => h2 (.inr h)⟩
theorem cE_le {a b c : Ed} (h1 : cE a b ≤ 0) (h2 : cE b c ≤ 0) : cE a c ≤ 0 := cE_pre.trans a b c h1 h2
theorem cE_lt {a b c : Ed} (h1 : cE a b < 0) (h2 : cE b c ≤ 0) : cE a c < 0 := by
  have h3 := cE_le (Int.le_of_lt h1) h2
  rcases Int.lt_or_eq_of_le h3 with h | h
  · exact h
  · have := cE_zero h
    subst this
    have := cE_anti a b
    omega
/-- what Not leaves is within all versions -/
theorem notM_range {l : List St} (hl : ∀ s ∈ l, cE allS.f s.t ≤ 0 ∧ cE s.f allS.t ≤ 0) {e : Ed} (h : inL e (notM l)) : cE allS.f e ≤ 0 ∧ cE e allS.t < 0 := by
  have hcur : ∀ k, cE allS.f (curF l k) ≤ 0 := fun k => by
    cases k with
    | zero => show cE allS.f allS.f ≤ 0; rw [cE_self]; omega
    | succ k =>
      show cE allS.f ((l[k]?.map St.t).getD allS.f) ≤ 0
      rcases hk : l[k]? with _ | s
      · show cE allS.f allS.f ≤ 0; rw [cE_self]; omega
      · exact (hl s (List.mem_of_getElem? hk)).1
  unfold notM at h
  rw [inL_append, inL_one] at h
  rcases h with ⟨s, hs, h1, h2⟩ | ⟨h1, h2⟩
  · unfold gapsK at hs
    obtain ⟨i, hi, rfl⟩ := List.mem_map.1 hs
    have hi := List.mem_range.1 hi
    refine ⟨cE_le (hcur i) h1, cE_lt h2 ?_⟩
    show cE ((l[i]?.map St.f).getD allS.f) allS.t ≤ 0
    rw [List.getElem?_eq_getElem hi]
    exact (hl _ (List.getElem_mem hi)).2
  · exact ⟨cE_le (hcur _) h1, h2⟩
/-- the document's Not is the program's -/
theorem notR_form {l : List (St × Bool)} (hc : SpanM.Can (l.map Prod.fst)) (he : ∀ x ∈ l, x.2 = true → x.1.t = allS.t) (hr : ∀ s ∈ l.map Prod.fst, cE allS.f s.t ≤ 0 ∧ cE s.f allS.t ≤ 0) : formM (notR l [allS]) = formM (notM (l.map Prod.fst)) := by
  refine formM_congr fun e => ?_
  have h1 := notR_in l he [allS] (fun e h => inL_one.1 h) e
  rw [h1, inL_one]
  constructor
  · rintro ⟨h2, h3⟩
    exact (notM_in hc h2.1 h2.2).2 h3
  · intro h
    have h2 := notM_range hr h
    exact ⟨h2, (notM_in hc h2.1 h2.2).1 h⟩
theorem notR_can : ∀ (l : List (St × Bool)) (m : List St), SpanM.Can m → SpanM.Can (notR l m)
  | [], _, h => h
  | _ :: l, _, _ => notR_can l _ (formM_is _).1
/-- an interval as a stretch, and whether it is endless -/
def pairS (x : IvG) : St × Bool := ((toSt x).st, x.e)
def notD (L : List IvG) : List St := notR (L.map pairS) [allS]
theorem pairS_fst (L : List IvG) : (L.map pairS).map Prod.fst = spanM L := by unfold spanM; rw [List.map_map]; rfl
theorem pairS_end {L : List IvG} : ∀ y ∈ L.map pairS, y.2 = true → y.1.t = allS.t := by
  intro y hy h
  obtain ⟨x, -, rfl⟩ := List.mem_map.1 hy
  have h : x.e = true := h
  show (toSt x).st.t = allS.t
  unfold toSt StR.st
  simp only [h, if_true]
  rfl
theorem toSt_range {x : IvG} (h : rightB x = true) : cE allS.f (toSt x).st.t ≤ 0 ∧ cE (toSt x).st.f allS.t ≤ 0 := by
  unfold rightB at h
  simp only [Bool.and_eq_true] at h
  obtain ⟨⟨h1, h2⟩, h3⟩ := h
  refine ⟨?_, Int.le_of_lt (all_back _ (by show (if x.lo then 1 else 0) ≠ 2; split <;> omega))⟩
  by_cases he : x.e = true
  · have : (toSt x).st.t = allS.t := by
      unfold toSt StR.st
      simp only [he, if_true]
      rfl
    rw [this]
    decide
  · have : (toSt x).st.t = ⟨x.hv, if x.ho then 0 else 1⟩ := by
      unfold toSt StR.st
      simp only [he, if_false]
      rfl
    rw [this]
    exact all_front h2 _
theorem notD_form {L : List IvG} (hc : SpanM.Can (spanM L)) (hr : ∀ x ∈ L, rightB x = true) : formM (notD L) = formM (notM (spanM L)) := by
  have h := notR_form (l := L.map pairS) (by rw [pairS_fst]; exact hc) pairS_end (by
    rw [pairS_fst]
    intro s hs
    obtain ⟨x, hx, rfl⟩ := spanM_mem.1 hs
    exact toSt_range (hr x hx))
  rw [pairS_fst] at h
  exact h
theorem notD_can (L : List IvG) : SpanM.Can (notD L) := notR_can _ _ (all_one (f := allS.f) (by decide))
theorem can_take {l : List St} (h : SpanM.Can l) (k : Nat) : SpanM.Can (l.take k) := ⟨fun s hs => h.1 s (List.mem_of_mem_take hs), h.2.sublist (List.take_sublist k l)⟩
theorem notD_len {L : List IvG} (hc : SpanM.Can (spanM L)) (hr : ∀ x ∈ L, rightB x = true) : (notD L).length ≤ L.length + 1 := by
  rw [← formM_of (notD_can L), notD_form hc hr]
  refine Nat.le_trans (formM_len _) ?_
  unfold notM gapsK
  simp [spanM_len]
theorem notD_take {L : List IvG} (hc : SpanM.Can (spanM L)) (hr : ∀ x ∈ L, rightB x = true) (k : Nat) (hk : k ≤ L.length) : (notD (L.take k)).length ≤ k + 1 := by
  have h := notD_len (L := L.take k) (by unfold spanM; rw [List.map_take]; exact can_take hc k) (fun x hx => hr x (List.mem_of_mem_take hx))
  rw [List.length_take, Nat.min_eq_left hk] at h
  exact h
/-- what is not in one interval -/
def restD (x : IvG) : List St := restS (toSt x).st x.e
theorem notD_snoc {L : List IvG} {k : Nat} {x : IvG} (h : L[k]? = some x) : notD (L.take (k + 1)) = formM (meets (notD (L.take k)) (restD x)) := by
  unfold notD notR
  rw [List.take_add_one, h, List.map_append, List.foldl_append]
  rfl
theorem meets_congr {a b c : List St} (h : ∀ e, inL e b ↔ inL e c) : formM (meets a b) = formM (meets a c) := formM_congr fun e => by rw [inL_meets, inL_meets, h]
theorem restD_end {x : IvG} (h : x.e = true) (R : List IvG) (hR : spanM R = formM [⟨allS.f, ⟨x.lv, sideH (!x.lo)⟩⟩]) (e : Ed) : inL e (spanM R) ↔ inL e (restD x) := by
  have : restD x = [⟨allS.f, ⟨x.lv, sideH (!x.lo)⟩⟩] := by
    unfold restD restS toSt StR.st EdR.ed
    simp only [h, if_true, List.append_nil]
    cases x.lo <;> rfl
  rw [this, hR, (formM_is _).2]
theorem restD_two {x : IvG} (h : x.e = false) (R : List IvG) (hR : spanM R = formM [⟨allS.f, ⟨x.lv, sideH (!x.lo)⟩⟩]) (y : IvG) (hy : (toSt y).st = ⟨⟨x.hv, sideF (!x.ho)⟩, allS.t⟩) (e : Ed) : inL e (spanM (R ++ [y])) ↔ inL e (restD x) := by
  have : restD x = [⟨allS.f, ⟨x.lv, sideH (!x.lo)⟩⟩] ++ [⟨⟨x.hv, sideF (!x.ho)⟩, allS.t⟩] := by
    unfold restD restS toSt StR.st EdR.ed
    simp only [h, Bool.false_eq_true, if_false]
    cases x.lo <;> cases x.ho <;> rfl
  rw [this, spanM_app, inL_append, hR, (formM_is _).2, inL_append]
  show _ ∨ inL e [(toSt y).st] ↔ _
  rw [hy]
theorem row_news {w : World} {g : Nat} {x : IvG} (h : w.heap[g]? = some (gvO x)) : ∀ j u, (gvL x)[j]? = some u → w.cell? ((⟨g, 0, none⟩ : Addr).add j) = some u := by
  intro j u hu
  rw [Go.WideShapes.add_plain, Nat.zero_add]
  rw [cell_of_row w g j _ _ (0, 0) h]
  simpa using hu
theorem IvRow.nil_ {w : World} {B : Nat} {a : Option Addr} {n cp : Nat} {L : List IvG} (h : IvRow w B (.slice a n cp) L) : a = none → n = 0 ∧ cp = 0 := by
  intro e
  rcases h.2 with ⟨h1, h2⟩ | ⟨g, cp', cur, e1, _⟩
  · simp only [Value.slice.injEq] at h1
    exact ⟨h1.2.1, h1.2.2⟩
  · simp only [Value.slice.injEq] at e1
    rw [e] at e1
    exact absurd e1.1 (by simp)
/-- all from a bound on -/
abbrev abvI (v : Ver) (a : Option Addr) (c : Nat) (o : Bool) : IvG := ⟨v, a, c, o, ⟨0, 0, 0, []⟩, none, 0, false, true⟩
/-- how above ends: one interval, its texts those of the version that came in -/
def AbX (v : Ver) (a : Option Addr) (c : Nat) (o : Bool) (w : World) (e : Ending) (w' : World) : Prop := ∃ g, e = .returned (.slice (some ⟨g, 0, none⟩) 1 1) ∧ w'.heap[g]? = some (gvO (abvI v a c o)) ∧ Below w.heap.size w w'
set_option maxHeartbeats 2000000 in
set_option maxRecDepth 100000 in
theorem raboveX_any (v : Ver) (a : Option Addr) (c : Nat) (o : Bool) (w : World) :
    Calls Tryz.prog 46 #[verV v.a v.b v.c a v.pre.length c, .bool o] w (AbX v a c o w) := by
  have hB0 : Below w.heap.size w (w.alloc (verO v.a v.b v.c a v.pre.length c)) := (Below.refl _ w).alloc (Nat.le_refl _) _
  have HB0 := Lib.hid hB0
  have HF : Hid (∀ W, Below w.heap.size w W → AbX v a c o w (.returned (.slice (some ⟨W.heap.size, 0, none⟩) 1 1)) (W.alloc (gvO (abvI v a c o)))) := Lib.hid (fun W hb =>
    ⟨_, rfl, heap_alloc_new W _, hb.alloc hb.size _⟩)
  generalize AbX v a c o w = FE at *
  obtain ⟨q0, q1, q2, q3⟩ := ver_cells (heap_alloc_new w (verO v.a v.b v.c a v.pre.length c))
  clear hB0
  go_enter Tryz.func46, Tryz.ntmps46
  go_wp2_with fail
  have h := HF.out _ HB0.out
  simp only [World.size_alloc] at h
  exact h
/-- append of a slice, nil or not, to a row of one's own, at a step of a region that draws -/
theorem step_append_any {P : Program} {w : World} {ops : Array Oper} {o : Oper} {a : Act} {K : Act → World → Prop} {Q : Exit → Act → World → Prop} {E : Prop} (hgd : o.guard = none) (s x : Operand) (t : TypeId)
    (ho : o.op = .call { callee := .builtin .append, args := #[s, x], argTypes := #[t, t] })
    (base : Nat) (e : TypeId) (i : TypeInfo) (z : Value) (size bytes : Nat) (ht : P.underlying t = some (.slice e)) (hi : P.info? e = some i) (hz : i.zero = some z)
    (hsize : i.size = size) (hby : i.bytes = bytes) (hzs : z.cells.size = size) (hsz : 0 < size)
    (v : Value) (n : Nat) (xs : List Value) (hs : a.eval s = v) (hown : w.ownsRow base e size v n xs)
    (ax : Option Addr) (m c : Nat) (news : List Value) (hx : a.eval x = .slice ax m c) (hnil : ax = none → m = 0 ∧ c = 0) (hl : news.length = m * size) (hnews : ∀ ad, ax = some ad → ∀ j u, news[j]? = some u → w.cell? (ad.add j) = some u) (h1 : ∀ u ∈ news, u.oneCell' = true)
    (h63 : n + m ≤ maxLen) (hbytes : (n + m) * bytes ≤ 140737488355328) (hbase : base ≤ w.heap.size)
    (h : ∀ v' w', w'.ownsRow base e size v' (n + m) (xs ++ news) → w.grownBy w' v.ownBlock → K (a.put o.dst v') w') :
    if Region.wanted o (yielded ops a.tmps) = true then Oper.wp P o a w K Q else E := by
  cases ax with
  | some ad => exact step_append_own hgd s x t ho base e i z size bytes ht hi hz hsize hby hzs hsz v n xs hs hown ad m c news hx hl (hnews ad rfl) h1 h63 hbytes hbase h
  | none =>
    obtain ⟨rfl, rfl⟩ := hnil rfl
    obtain rfl : news = [] := List.eq_nil_of_length_eq_zero (by simpa using hl)
    have hw : Region.wanted o (yielded ops a.tmps) = true := by simp [Region.wanted, hgd]
    rw [if_pos hw]
    have hr := run_append_owned_none (P := P) (w := w) base t o.type e i size ht hi v n xs hown
    unfold Oper.wp execOp
    simp only [ho, resolve, invoke, builtin, Sem.run_bind, Sem.run_pure, Result.andThen_ok, List.map_toArray, List.map_cons, List.map_nil, hs, hx, hr]
    exact h v w (by simpa using hown) ⟨rfl, rfl, rfl, Nat.le_refl _, fun _ _ _ => rfl⟩
theorem len_one {R : List IvG} {s : St} (h : spanM R = formM [s]) : R.length ≤ 1 := by
  have h1 := congrArg List.length h
  rw [spanM_len] at h1
  have h2 := formM_len [s]
  simp only [List.length_singleton] at h2
  omega
/-- what the document's Not holds in a round: a row of its own, made of one interval -/
structure Rest (K : Prop) (w0 : World) (B : Nat) (w : World) (v : Value) (R : List IvG) : Prop where
  row : IvRow w B v R
  below : Below w0.heap.size w0 w
  base : w0.heap.size ≤ B
  top : B ≤ w.heap.size
  txs : ∀ w', Below B w w' → ∀ x ∈ R, TI K w' x
  ok : ∀ x ∈ R, rightB x = true
set_option maxHeartbeats 8000000 in
set_option maxRecDepth 100000 in
theorem rNot_any (a : Option Addr) (cp : Nat) (L : List IvG) (w : World) (h : RArg K w a L) (hr : ∀ x ∈ L, rightB x = true) (hc : SpanM.Can (spanM L)) (hl : L.length ≤ 16) :
    Calls Tryz.prog 21 #[.slice a L.length cp] w (Set8 K (notD L) w) := by
  obtain ⟨i0, hi, hz0, hz1, hz2⟩ := info_parts info_iv
  have H := Lib.hid h
  have HRI := Lib.hid (fun x (hx : x ∈ L) => And.intro (h.txs x hx) (hr x hx))
  have HLEN := Lib.hid (fun k (hk : k ≤ L.length) => notD_take hc hr k hk)
  have HEND : Hid (∀ u R w1 e, RL K w1 w.heap.size u R → spanM R = notD L → Below w.heap.size w w1 → (e = if R.length ≤ 16 then .returned (.tuple #[u, .int .i64 0]) else .returned (.tuple #[.slice none 0 0, .int .i64 80])) → Set8 K (notD L) w e w1) := Lib.hid (fun u R w1 e hr hm hb he => by
    have hf := formM_of (notD_can L)
    have hl : (formM (notD L)).length = R.length := by rw [hf, ← hm, spanM_len]
    refine ⟨hb, fun h => ?_, fun h => ?_⟩
    · rw [he, if_neg (by omega)]
    · rw [he, if_pos (by omega)]; exact ⟨u, R, rfl, hr, hm.trans hf.symm⟩)
  generalize Set8 K (notD L) w = SE at *
  have HEV := Lib.hid ((revery_any (K := K) w).mono fun e w' h => (show ∃ a2 c2 R, e = .returned (.slice a2 R.length c2) ∧ RL K w' w.heap.size (.slice a2 R.length c2) R ∧ spanM R = notD (L.take 0) ∧ Below w.heap.size w w' from by
    obtain ⟨u, R, rfl, h1, h2, h3⟩ := h
    obtain ⟨a2, c2, rfl⟩ := h1.row.value
    exact ⟨a2, c2, R, rfl, h1, h2.trans (by rw [formM_of (all_one (f := allS.f) (by decide))]; rfl), h3⟩))
  clear h hr hc
  go_enter Tryz.func21, Tryz.ntmps21
  go_wp2_with (go_at_call 44; refine HEV.out.mono ?_; rintro e w1 ⟨a2, c2, R, rfl, hr, hm, hb⟩; have HR := Lib.hid hr; have HM := Lib.hid hm; have HB := Lib.hid hb; clear hr hm hb)
  go_loopw [4, 5, 6] (fun u i _ wr => ∃ (k : Nat) (a2 : Option Addr) (c2 : Nat) (R : List IvG), u = .slice a2 R.length c2 ∧ i = .int .i64 k ∧ k ≤ L.length ∧ Hid (RL K wr w.heap.size (.slice a2 R.length c2) R) ∧ Hid (spanM R = notD (L.take k)) ∧ Hid (Below w.heap.size w wr)) (fun _ i _ _ => L.length - (intOf i).toNat)
  case atStart => exact ⟨0, a2, c2, R, rfl, rfl, Nat.zero_le _, HR, HM, HB⟩
  case round =>
    obtain ⟨k, a2, c2, R, rfl, rfl, hk, HR, HM, HB⟩ := hrel
    rename World => wr
    by_cases hlt : k < L.length
    · have hdec : decide (k < L.length) = true := by simpa using hlt
      obtain ⟨g, o, x, -, hxm, hxs, rfl, c0, c1, c2', c3, c4, c5, c6, c7, c8, c9, c10⟩ := (H.out.gr HB.out).row.at k hlt
      have HX := Lib.hid (And.intro hxm hxs)
      have hgx : g < wr.heap.size := World.block_lt_of_cell? _ _ c0
      have HGX := Lib.hid hgx
      have HXT := Lib.hid (HRI.out x hxm)
      have HC := Lib.hid (fun wz (h : Below wr.heap.size wr wz) (j : Nat) (u : Value) (hu : wr.cell? ⟨g, j, none⟩ = some u) => (h.cell hgx).trans hu)
      have HCL := Lib.hid (And.intro c0 (And.intro c1 (And.intro c2' (And.intro c3 c4))))
      have HCH := Lib.hid (And.intro c5 (And.intro c6 (And.intro c7 (And.intro c8 c9))))
      have HCE := Lib.hid c10
      have HD1 : Hid (Below wr.heap.size wr wr.drew) := Lib.hid ((Gr.refl wr).drew).below
      have HBL : Hid (∀ w', Below wr.heap.size wr w' → Calls Tryz.prog 45 #[verV x.lv.a x.lv.b x.lv.c x.la x.lv.pre.length x.lc, .bool (!x.lo)] w' fun e w2 => ∃ a1 c1 R1, e = .returned (.slice a1 R1.length c1) ∧ RL K w2 w'.heap.size (.slice a1 R1.length c1) R1 ∧ spanM R1 = formM [⟨allS.f, ⟨x.lv, sideH (!x.lo)⟩⟩] ∧ Below w'.heap.size w' w2) := Lib.hid (fun w' hb => by
        refine (rbelow_any x.lv x.la x.lc (!x.lo) w' ((HXT.out.1.gr HB.out).gr hb).l (right_may HXT.out.2).1).mono ?_
        rintro e w2 ⟨u, R1, rfl, h1, h2, h3⟩
        obtain ⟨a1, c1, rfl⟩ := h1.row.value
        exact ⟨a1, c1, R1, rfl, h1, h2, h3⟩)
      clear c5 c6 c7 c8 c9 c10 hxm hxs
      go_upto_region 6 with fail
      have HSL : Hid (∀ w', Below wr.heap.size wr w' → w'.cell? ⟨g, o + k * 11, none⟩ = some (.int .u32 x.lv.a) ∧ w'.cell? ⟨g, o + k * 11 + 1, none⟩ = some (.int .u32 x.lv.b) ∧ w'.cell? ⟨g, o + k * 11 + 2, none⟩ = some (.int .u32 x.lv.c) ∧ w'.cell? ⟨g, o + k * 11 + 3, none⟩ = some (.slice x.la x.lv.pre.length x.lc) ∧ w'.cell? ⟨g, o + k * 11 + 4, none⟩ = some (.bool x.lo)) := Lib.hid (fun w' h => ⟨HC.out w' h _ _ HCL.out.1, HC.out w' h _ _ HCL.out.2.1, HC.out w' h _ _ HCL.out.2.2.1, HC.out w' h _ _ HCL.out.2.2.2.1, HC.out w' h _ _ HCL.out.2.2.2.2⟩)
      clear hgx
      go_region_held3 (fun w' => w'.cell? ⟨g, o + k * 11, none⟩ = some (.int .u32 x.lv.a) ∧ w'.cell? ⟨g, o + k * 11 + 1, none⟩ = some (.int .u32 x.lv.b) ∧ w'.cell? ⟨g, o + k * 11 + 2, none⟩ = some (.int .u32 x.lv.c) ∧ w'.cell? ⟨g, o + k * 11 + 3, none⟩ = some (.slice x.la x.lv.pre.length x.lc) ∧ w'.cell? ⟨g, o + k * 11 + 4, none⟩ = some (.bool x.lo))
        (first | exact ⟨c0, c1, c2', c3, c4⟩ | assumption | exact HSL.out _ HB2.out | exact HSL.out _ HB3.out)
        (first
          | (go_at_call 45; refine (HBL.out wr.drew HD1.out).mono ?_; rintro e w2 ⟨a1, c1x, R1, rfl, hr1, hm1, hb1⟩; have HB2 : Hid (Below wr.heap.size wr w2) := Lib.hid (HD1.out.trans (hb1.mono HD1.out.size)); have HR1 := Lib.hid hr1; have HM1 := Lib.hid hm1; have hS2 := HSL.out w2 HB2.out; clear hr1 hm1 hb1)
          | (refine step_append_any rfl _ _ _ (by rfl) w2.heap.size 53 i0 _ 11 104 Tryz.underlying22 hi hz0 hz1 hz2 rfl (by decide) (.slice none 0 0) 0 [] (by simp [Act.eval]) (World.ownsRow_nil _ _ _ _) a1 R1.length c1x (R1.flatMap gvL) (by simp [Act.eval]) HR1.out.row.nil_ (RowKC.flat_length gvL 11 gvL_length R1) (RArg.news ⟨HR1.out.row.in_, HR1.out.txs⟩) (gv_ones R1) (by have := len_one HM1.out; unfold maxLen; omega) (by have := len_one HM1.out; omega) (Nat.le_refl _) ?_
             intro v' w3 hown3 hg3
             have HX3 := Lib.hid (And.intro hown3 hg3)
             have HB3 : Hid (Below wr.heap.size wr w3) := Lib.hid (HB2.out.grown hg3 HB2.out.size (fun j hj => by simp [Value.ownBlock] at hj))
             have hS3 := HSL.out w3 HB3.out
             clear hown3 hg3)
          | fail)
      -- NEXT
      all_goals
        have HL1 := Lib.hid (len_one HM1.out)
        have HREST : Hid (Rest K wr w2.heap.size w3 v' R1) := Lib.hid (by
          have h23 : Below w2.heap.size w2 w3 := (Below.refl _ w2).grown HX3.out.2 (Nat.le_refl _) (fun j hj => by simp [Value.ownBlock] at hj)
          refine ⟨?_, HB3.out, HB2.out.size, h23.size, fun w' hb x hx => (HR1.out.txs x hx).gr (h23.trans hb), HR1.out.ok⟩
          have h := HX3.out.1
          unfold IvRow
          simpa using h)
        generalize w2.heap.size = Bz at HREST
        have d10 := HC.out w3 HREST.out.below _ _ HCE.out
        have HSH : Hid (∀ w', Below wr.heap.size wr w' → w'.cell? ⟨g, o + k * 11 + 5, none⟩ = some (.int .u32 x.hv.a) ∧ w'.cell? ⟨g, o + k * 11 + 6, none⟩ = some (.int .u32 x.hv.b) ∧ w'.cell? ⟨g, o + k * 11 + 7, none⟩ = some (.int .u32 x.hv.c) ∧ w'.cell? ⟨g, o + k * 11 + 8, none⟩ = some (.slice x.ha x.hv.pre.length x.hc) ∧ w'.cell? ⟨g, o + k * 11 + 9, none⟩ = some (.bool x.ho)) := Lib.hid (fun w' h => ⟨HC.out w' h _ _ HCH.out.1, HC.out w' h _ _ HCH.out.2.1, HC.out w' h _ _ HCH.out.2.2.1, HC.out w' h _ _ HCH.out.2.2.2.1, HC.out w' h _ _ HCH.out.2.2.2.2⟩)
        clear hS2 hS3 HX3 HR1 HB2 HB3
        rcases hxe : x.e with _ | _
        · rw [hxe] at d10
          obtain ⟨d5, d6, d7, d8, d9⟩ := HSH.out w3 HREST.out.below
          have HD3 : Hid (Below w3.heap.size w3 w3.drew) := Lib.hid ((Gr.refl w3).drew).below
          have HY := Lib.hid (zero_right (right_may HXT.out.2).2 x.ha x.hc (!x.ho))
          have HROW : Hid (∀ w4, Below w3.heap.size w3 w4 → w4.ownsRow Bz 53 11 v' R1.length (R1.flatMap gvL)) := Lib.hid (fun w4 h => HREST.out.row.below' h)
          have HBZ : Hid (∀ w4, Below w3.heap.size w3 w4 → Bz ≤ w4.heap.size) := Lib.hid (fun w4 h => Nat.le_trans HREST.out.top h.size)
          have HB5 : Hid (∀ w4 w5, Below w3.heap.size w3 w4 → w4.grownBy w5 v'.ownBlock → Below Bz w3 w5) := Lib.hid (fun w4 w5 h hg => (h.mono HREST.out.top).grown hg (HBZ.out w4 h) (fun j hj => (World.ownsRow.lt (HROW.out w4 h) j hj).1))
          have HB6 : Hid (∀ w4 w5, Below w3.heap.size w3 w4 → w4.grownBy w5 v'.ownBlock → Below wr.heap.size wr w5) := Lib.hid (fun w4 w5 h hg => HREST.out.below.trans ((HB5.out w4 w5 h hg).mono HREST.out.base))
          have HSH3 : Hid (∀ w4, Below w3.heap.size w3 w4 → Below wr.heap.size wr w4) := Lib.hid (fun w4 h => HREST.out.below.trans (h.mono HREST.out.below.size))
          have HNO : Hid (∀ w4 w5 v5, Below w3.heap.size w3 w4 → w4.grownBy w5 v'.ownBlock → w5.ownsRow Bz 53 11 v5 (R1.length + 1) (R1.flatMap gvL ++ gvL (abvI x.hv x.ha x.hc (!x.ho))) → Rest K wr Bz w5 v5 (R1 ++ [abvI x.hv x.ha x.hc (!x.ho)])) := Lib.hid (fun w4 w5 v5 h hg hown => by
            refine ⟨?_, HB6.out w4 w5 h hg, HREST.out.base, (Nat.le_trans (HBZ.out w4 h) hg.size), fun w' hb y hy => ?_, fun y hy => ?_⟩
            · unfold IvRow
              rw [List.flatMap_append, List.length_append]
              simpa using hown
            · rcases List.mem_append.1 hy with hy | hy
              · exact HREST.out.txs w' ((HB5.out w4 w5 h hg).trans hb) y hy
              · rw [List.mem_singleton.1 hy]
                exact ⟨((HXT.out.1.gr HB.out).gr ((HB6.out w4 w5 h hg).trans (hb.mono HREST.out.base))).h, TxQ.nil _ _⟩
            · rcases List.mem_append.1 hy with hy | hy
              · exact HREST.out.ok y hy
              · rw [List.mem_singleton.1 hy]; exact HY.out)
          have HLZ : Hid ((R1 ++ [abvI x.hv x.ha x.hc (!x.ho)]).length ≤ 20) := Lib.hid (by rw [List.length_append]; have := HL1.out; simp only [List.length_singleton]; omega)
          have HEQ : Hid (formM (meets (spanM R) (spanM (R1 ++ [abvI x.hv x.ha x.hc (!x.ho)]))) = notD (L.take (k + 1))) := Lib.hid (by
            rw [HM.out, notD_snoc HX.out.2]
            exact meets_congr (restD_two hxe R1 HM1.out (abvI x.hv x.ha x.hc (!x.ho)) rfl))
          clear hxe
          go_upto_region 8 with fail
          go_region_held3 (fun w' => w'.cell? ⟨g, o + k * 11 + 5, none⟩ = some (.int .u32 x.hv.a) ∧ w'.cell? ⟨g, o + k * 11 + 6, none⟩ = some (.int .u32 x.hv.b) ∧ w'.cell? ⟨g, o + k * 11 + 7, none⟩ = some (.int .u32 x.hv.c) ∧ w'.cell? ⟨g, o + k * 11 + 8, none⟩ = some (.slice x.ha x.hv.pre.length x.hc) ∧ w'.cell? ⟨g, o + k * 11 + 9, none⟩ = some (.bool x.ho))
            (first | exact ⟨d5, d6, d7, d8, d9⟩ | assumption)
            (first
              | (go_at_call 46; refine (raboveX_any x.hv x.ha x.hc (!x.ho) w3.drew).mono ?_; rintro e w4 ⟨g4, rfl, hn4, hb4⟩; have HB4 : Hid (Below w3.heap.size w3 w4) := Lib.hid (HD3.out.trans (hb4.mono HD3.out.size)); have HN4 := Lib.hid hn4; have hS4 := HSH.out w4 (HSH3.out w4 HB4.out); clear hn4 hb4)
              | (refine step_append_any rfl _ _ _ (by rfl) Bz 53 i0 _ 11 104 Tryz.underlying22 hi hz0 hz1 hz2 rfl (by decide) v' R1.length (R1.flatMap gvL) (by simp [Act.eval]) (HROW.out w4 HB4.out) (some ⟨g4, 0, none⟩) 1 1 (gvL (abvI x.hv x.ha x.hc (!x.ho))) (by simp [Act.eval]) (fun e => by cases e) rfl (fun ad e => by cases e; exact row_news HN4.out) (gv_one _) (by have := HL1.out; unfold maxLen; omega) (by have := HL1.out; omega) (HBZ.out w4 HB4.out) ?_
                 intro v5 wz hown5 hg5
                 have HRZ := Lib.hid (HNO.out w4 wz v5 HB4.out hg5 hown5)
                 have hS5 := HSH.out wz HRZ.out.below
                 clear hown5 hg5)
              | fail)
          all_goals
            clear hS4 hS5 d5 d6 d7 d8 d9 d10
            generalize R1 ++ [abvI x.hv x.ha x.hc (!x.ho)] = Rz at HRZ HLZ HEQ
            obtain ⟨a5, c5, rfl⟩ := HRZ.out.row.value
            have HLR := Lib.hid (HLEN.out k (by omega))
            have HME : Hid (Calls Tryz.prog 35 #[.slice a2 R.length c2, .slice a5 Rz.length c5] wz fun e w6 => ∃ a6 c6 R6, e = .returned (.slice a6 R6.length c6) ∧ Hid (RL K w6 w.heap.size (.slice a6 R6.length c6) R6) ∧ Hid (spanM R6 = notD (L.take (k + 1))) ∧ Hid (Below w.heap.size w w6)) := Lib.hid (by
              have hz := HR.out.gr HRZ.out.below
              refine (rmeet_any a2 c2 R a5 c5 Rz wz ⟨hz.row.in_, hz.txs⟩ ⟨HRZ.out.row.in_, HRZ.out.txs wz (Below.refl _ _)⟩ hz.ok HRZ.out.ok (by have h := HLR.out; rw [← HM.out, spanM_len] at h; omega) HLZ.out).mono ?_
              rintro e w6 ⟨u6x, R6, rfl, h1, h2, h3⟩
              obtain ⟨a6, c6, rfl⟩ := h1.row.value
              have hbz := HB.out.trans (HRZ.out.below.mono HB.out.size)
              exact ⟨a6, c6, R6, rfl, Lib.hid (h1.base hbz.size), Lib.hid (h2.trans HEQ.out), Lib.hid (hbz.trans (h3.mono hbz.size))⟩)
            go_wp2_with (go_at_call 35; refine HME.out.mono ?_; rintro e w6 ⟨a6, c6, R6, rfl, HR6, HM6, HB6⟩)
            go_roundw
            case rel => exact ⟨k + 1, a6, c6, R6, rfl, by go_num, hlt, HR6, HM6, HB6⟩
            case measure => simp [intOf]; omega
        · rw [hxe] at d10
          have HLZ : Hid (R1.length ≤ 20) := Lib.hid (by have := HL1.out; omega)
          have HEQ : Hid (formM (meets (spanM R) (spanM R1)) = notD (L.take (k + 1))) := Lib.hid (by
            rw [HM.out, notD_snoc HX.out.2]
            exact meets_congr (restD_end hxe R1 HM1.out))
          clear hxe
          have HRZ := HREST
          generalize w3 = wz at *
          generalize R1 = Rz at HRZ HLZ HEQ
          obtain ⟨a5, c5, rfl⟩ := HRZ.out.row.value
          have HLR := Lib.hid (HLEN.out k (by omega))
          have HME : Hid (Calls Tryz.prog 35 #[.slice a2 R.length c2, .slice a5 Rz.length c5] wz fun e w6 => ∃ a6 c6 R6, e = .returned (.slice a6 R6.length c6) ∧ Hid (RL K w6 w.heap.size (.slice a6 R6.length c6) R6) ∧ Hid (spanM R6 = notD (L.take (k + 1))) ∧ Hid (Below w.heap.size w w6)) := Lib.hid (by
            have hz := HR.out.gr HRZ.out.below
            refine (rmeet_any a2 c2 R a5 c5 Rz wz ⟨hz.row.in_, hz.txs⟩ ⟨HRZ.out.row.in_, HRZ.out.txs wz (Below.refl _ _)⟩ hz.ok HRZ.out.ok (by have h := HLR.out; rw [← HM.out, spanM_len] at h; omega) HLZ.out).mono ?_
            rintro e w6 ⟨u6x, R6, rfl, h1, h2, h3⟩
            obtain ⟨a6, c6, rfl⟩ := h1.row.value
            have hbz := HB.out.trans (HRZ.out.below.mono HB.out.size)
            exact ⟨a6, c6, R6, rfl, Lib.hid (h1.base hbz.size), Lib.hid (h2.trans HEQ.out), Lib.hid (hbz.trans (h3.mono hbz.size))⟩)
          go_wp2_with (go_at_call 35; refine HME.out.mono ?_; rintro e w6 ⟨a6, c6, R6, rfl, HR6, HM6, HB6⟩)
          go_roundw
          case rel => exact ⟨k + 1, a6, c6, R6, rfl, by go_num, hlt, HR6, HM6, HB6⟩
          case measure => simp [intOf]; omega
    · have hdec : decide (k < L.length) = false := by simpa using hlt
      have hke : k = L.length := by omega
      subst hke
      have HM2 : Hid (spanM R = notD L) := Lib.hid (by have h := HM.out; rwa [List.take_of_length_le (Nat.le_refl _)] at h)
      have HLI := Lib.hid (rlimit_any a2 R.length c2 wr (by have h := HLEN.out L.length (Nat.le_refl _); rw [← HM.out, spanM_len] at h; omega))
      have HE := HEND.out _ R wr _ HR.out HM2.out HB.out rfl
      by_cases h : R.length ≤ 16
      · rw [if_pos h] at HLI HE
        clear h
        go_wp2_with (go_at_call 42; refine HLI.out.mono ?_; rintro e w7 ⟨rfl, rfl⟩)
        exact HE
      · rw [if_neg h] at HLI HE
        clear h
        go_wp2_with (go_at_call 42; refine HLI.out.mono ?_; rintro e w7 ⟨rfl, rfl⟩)
        exact HE
end SpanC
end Go.Proofs.YtapikdgncdcneaaGreatDoor
