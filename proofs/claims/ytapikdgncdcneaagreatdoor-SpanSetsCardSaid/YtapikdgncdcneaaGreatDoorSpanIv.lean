/-
  Package span's intervals: a span's stretches as api.Interval, each with lists of its own.
-/
import Derived.Test.YtapikdgncdcneaaGreatDoorSpanOwn
import Derived.Test.YtapikdgncdcneaaGreatDoorVerSortP
import Derived.Deep.RegionHeld3
namespace Go.Proofs.YtapikdgncdcneaaGreatDoor
open Go.RowKit
namespace SpanC
open VerM SpanM StrC TextR VerC
set_option linter.unusedSimpArgs false

/-- an interval in memory, whatever it is -/
structure IvG where
  lv : Ver
  la : Option Addr
  lc : Nat
  lo : Bool
  hv : Ver
  ha : Option Addr
  hc : Nat
  ho : Bool
  e : Bool
instance : Inhabited IvG := ⟨⟨⟨0, 0, 0, []⟩, none, 0, false, ⟨0, 0, 0, []⟩, none, 0, false, false⟩⟩
abbrev gvL (x : IvG) : List Value := [.int .u32 x.lv.a, .int .u32 x.lv.b, .int .u32 x.lv.c, .slice x.la x.lv.pre.length x.lc, .bool x.lo, .int .u32 x.hv.a, .int .u32 x.hv.b, .int .u32 x.hv.c, .slice x.ha x.hv.pre.length x.hc, .bool x.ho, .bool x.e]
theorem gvL_length (x : IvG) : (gvL x).length = 11 := rfl
abbrev gvO (x : IvG) : Obj := .cells (gvL x).toArray 53
abbrev gvV (x : IvG) : Value := .agg (gvL x).toArray
/-- a stretch as an interval -/
def ofSt (x : StR) : IvG := ⟨x.f.v, x.f.a, x.f.c, (x.f.s : Int) == 1, x.t.v, x.t.a, x.t.c, (x.t.s : Int) == 0, (x.t.s : Int) == 2⟩
def IvRow (w : World) (B : Nat) (v : Value) (L : List IvG) : Prop := w.ownsRow B 53 11 v L.length (L.flatMap gvL)
theorem info_iv : (Tryz.prog.info? 53).map (fun i => (i.zero, i.size, i.bytes)) = some (some (.agg #[.int .u32 0, .int .u32 0, .int .u32 0, .slice none 0 0, .bool false, .int .u32 0, .int .u32 0, .int .u32 0, .slice none 0 0, .bool false, .bool false]), 11, 104) := by kernel_rfl
theorem IvRow.below' {w w' : World} {B : Nat} {v : Value} {L : List IvG} (h : IvRow w B v L) (g : Below w.heap.size w w') : IvRow w' B v L := World.ownsRow.kept h (grown_below g) (Classical.em _)
theorem gv_one (x : IvG) : ∀ u ∈ gvL x, u.oneCell' = true := by
  intro u hu
  simp only [List.mem_cons, List.not_mem_nil, or_false] at hu
  rcases hu with rfl | rfl | rfl | rfl | rfl | rfl | rfl | rfl | rfl | rfl | rfl <;> rfl
/-- a stretch's texts stay where a row of another kind grows -/
theorem ok_grown {w w' : World} {x : StR} {B n k : Nat} {e : TypeId} {v : Value} {xs : List Value} (h : StOk w x) (hown : w.ownsRow B e k v n xs) (he : e ≠ 9) (hg : w.grownBy w' v.ownBlock) : StOk w' x := by
  rcases hown.2 with ⟨rfl, _⟩ | ⟨g, cp, cur, rfl, _, hb, _⟩
  · exact h.gr ⟨hg.os, hg.tape, hg.output, hg.size, fun j hj => hg.block j hj (by simp [Value.ownBlock])⟩
  · exact h.keep (no_text hb he) fun j hj hne => hg.block j hj (by simp [Value.ownBlock]; exact fun e => hne e)
/-- append to a row of one's own, at a step of a region that draws -/
theorem step_append_own {P : Program} {w : World} {ops : Array Oper} {o : Oper} {a : Act} {K : Act → World → Prop} {Q : Exit → Act → World → Prop} {E : Prop} (hgd : o.guard = none) (s x : Operand) (t : TypeId)
    (ho : o.op = .call { callee := .builtin .append, args := #[s, x], argTypes := #[t, t] })
    (base : Nat) (e : TypeId) (i : TypeInfo) (z : Value) (size bytes : Nat) (ht : P.underlying t = some (.slice e)) (hi : P.info? e = some i) (hz : i.zero = some z)
    (hsize : i.size = size) (hby : i.bytes = bytes) (hzs : z.cells.size = size) (hsz : 0 < size)
    (v : Value) (n : Nat) (xs : List Value) (hs : a.eval s = v) (hown : w.ownsRow base e size v n xs)
    (ad : Addr) (m c : Nat) (news : List Value) (hx : a.eval x = .slice (some ad) m c) (hl : news.length = m * size) (hnews : ∀ j u, news[j]? = some u → w.cell? (ad.add j) = some u) (h1 : ∀ u ∈ news, u.oneCell' = true)
    (h63 : n + m ≤ maxLen) (hbytes : (n + m) * bytes ≤ 140737488355328) (hbase : base ≤ w.heap.size)
    (h : ∀ v' w', w'.ownsRow base e size v' (n + m) (xs ++ news) → w.grownBy w' v.ownBlock → K (a.put o.dst v') w') :
    if Region.wanted o (yielded ops a.tmps) = true then Oper.wp P o a w K Q else E := by
  have hw : Region.wanted o (yielded ops a.tmps) = true := by simp [Region.wanted, hgd]
  rw [if_pos hw]
  obtain ⟨v', w', hr, h2, h3, _⟩ := run_append_own (P := P) w base t o.type e i z size bytes ht hi hz hsize hby hzs hsz v n xs hown ad m c news hl hnews h1 h63 hbytes hbase
  unfold Oper.wp execOp
  simp only [ho, resolve, invoke, builtin, Sem.run_bind, Sem.run_pure, Result.andThen_ok, List.map_toArray, List.map_cons, List.map_nil, hs, hx, hr]
  exact h v' w' h2 h3
set_option maxHeartbeats 4000000 in
set_option maxRecDepth 100000 in
theorem pintervals_any (v : Value) (L : List StR) (w : World) (hr : StRow w 0 v L) (hok : AllOk w L) (hl : L.length ≤ 16) :
    Calls Tryz.prog 38 #[v] w fun e w' => ∃ (u : Value) (L' : List StR), e = .returned (.tuple #[u, .int .i64 0]) ∧ L'.map StR.st = L.map StR.st ∧ IvRow w' w.heap.size u (L'.map ofSt) ∧ AllOk w' L' ∧ Below w.heap.size w w' := by
  obtain ⟨va, cp, rfl⟩ := hr.value
  obtain ⟨i0, hi, hz0, hz1, hz2⟩ := info_parts info_iv
  have HR := Lib.hid hr
  have HOK := Lib.hid hok
  have hdl : decide ((16 : Int) < (L.length : Int)) = false := decide_eq_false (by omega)
  clear hr hok
  go_enter Tryz.func38, Tryz.ntmps38
  go_wp2_with fail
  go_loopw [4, 6, 12] (fun u _ i wr => ∃ (k : Nat) (L' : List StR), i = .int .i64 k ∧ k ≤ L.length ∧ Hid (L'.map StR.st = (L.map StR.st).take k) ∧ Hid (IvRow wr w.heap.size u (L'.map ofSt)) ∧ Hid (AllOk wr L') ∧ Hid (Below w.heap.size w wr)) (fun _ _ i _ => L.length - (intOf i).toNat)
  case atStart => exact ⟨0, [], rfl, Nat.zero_le _, Lib.hid rfl, Lib.hid (World.ownsRow_nil _ _ _ _), Lib.hid (fun x h => (by cases h)), Lib.hid (Below.refl _ _)⟩
  case round =>
    obtain ⟨k, L', rfl, hk, HM, HO, HA, HW⟩ := hrel
    rename World => wr
    by_cases hlt : k < L.length
    · have hdec : decide (k < L.length) = true := by simpa using hlt
      obtain ⟨g, x, hx, hxm, hxs, rfl, -, -, hg, -, -, c0, c1, c2, c3, c4, c5, c6, c7, c8, c9⟩ := (HR.out.below HW.out).at k hlt
      have HX := Lib.hid (And.intro hxm hxs)
      have HB1 := Lib.hid (HW.out.alloc HW.out.size (stO x))
      have hnx := heap_alloc_new wr (stO x)
      have hgx : wr.heap.size < (wr.alloc (stO x)).heap.size := by simp
      have HO1 := Lib.hid ((HOK.out x hxm).gr HB1.out)
      obtain ⟨q0, q1, q2, q3, q4, q5, q6, q7, q8, q9⟩ := st_cells hnx
      clear hx hxm hxs
      go_upto_region 7 with fail
      clear c0 c1 c2 c3 c4 c5 c6 c7 c8 c9
      change Hid (Below w.heap.size w (wr.alloc (stO x))) at HB1
      generalize hw1 : wr.alloc (stO x) = w1 at *
      have HD1 : Hid (Below w1.heap.size w1 w1.drew) := Lib.hid ((Gr.refl w1).drew).below
      have HCF := Lib.hid (fun w' (g : Below w1.heap.size w1 w') => pown_any x.f w' (HO1.out.gr g).f)
      have HCT := Lib.hid (fun w' (g : Below w1.heap.size w1 w') => pown_any x.t w' (HO1.out.gr g).t)
      have HB13 : Hid (∀ w3, Below w1.heap.size w1 w3 → Below wr.heap.size wr w3) := Lib.hid (fun w3 h => by
        have h0 : Below wr.heap.size wr w1 := by rw [← hw1]; exact (Below.refl _ _).alloc (Nat.le_refl _) _
        exact h0.trans (h.mono h0.size))
      have HKS : Hid (∀ w', Below w1.heap.size w1 w' → w'.cell? ⟨wr.heap.size, 0, none⟩ = some (.int .u32 x.f.v.a) ∧ w'.cell? ⟨wr.heap.size, 1, none⟩ = some (.int .u32 x.f.v.b) ∧ w'.cell? ⟨wr.heap.size, 2, none⟩ = some (.int .u32 x.f.v.c) ∧ w'.cell? ⟨wr.heap.size, 3, none⟩ = some (.slice x.f.a x.f.v.pre.length x.f.c) ∧ w'.cell? ⟨wr.heap.size, 4, none⟩ = some (.int .i64 x.f.s) ∧ w'.cell? ⟨wr.heap.size, 5, none⟩ = some (.int .u32 x.t.v.a) ∧ w'.cell? ⟨wr.heap.size, 6, none⟩ = some (.int .u32 x.t.v.b) ∧ w'.cell? ⟨wr.heap.size, 7, none⟩ = some (.int .u32 x.t.v.c) ∧ w'.cell? ⟨wr.heap.size, 8, none⟩ = some (.slice x.t.a x.t.v.pre.length x.t.c) ∧ w'.cell? ⟨wr.heap.size, 9, none⟩ = some (.int .i64 x.t.s)) := Lib.hid (fun w' h => ⟨(h.cell hgx).trans q0, (h.cell hgx).trans q1, (h.cell hgx).trans q2, (h.cell hgx).trans q3, (h.cell hgx).trans q4, (h.cell hgx).trans q5, (h.cell hgx).trans q6, (h.cell hgx).trans q7, (h.cell hgx).trans q8, (h.cell hgx).trans q9⟩)
      have HLEN : Hid ((L'.map ofSt).length = k) := Lib.hid (by have h := congrArg List.length HM.out; simp only [List.length_map, List.length_take] at h ⊢; omega)
      have HOW : Hid (∀ w3, Below w1.heap.size w1 w3 → w3.ownsRow w.heap.size 53 11 u4 k ((L'.map ofSt).flatMap gvL)) := Lib.hid (fun w3 h => by
        have h2 := HO.out.below' (HB13.out w3 h)
        unfold IvRow at h2
        rwa [HLEN.out] at h2)
      have HLE : Hid (k + 1 ≤ maxLen) := Lib.hid (by unfold maxLen; omega)
      have HLB : Hid ((k + 1) * 104 ≤ 140737488355328) := Lib.hid (by omega)
      have HBASE : Hid (∀ w3 o, Below w1.heap.size w1 w3 → w.heap.size ≤ (World.alloc w3 o).heap.size) := Lib.hid (fun w3 o h => by have h1 := h.size; have h2 := HB1.out.size; simp; omega)
      have HKS4 : Hid (∀ w3 w5 o, Below w1.heap.size w1 w3 → (World.alloc w3 o).grownBy w5 u4.ownBlock → w5.cell? ⟨wr.heap.size, 0, none⟩ = some (.int .u32 x.f.v.a) ∧ w5.cell? ⟨wr.heap.size, 1, none⟩ = some (.int .u32 x.f.v.b) ∧ w5.cell? ⟨wr.heap.size, 2, none⟩ = some (.int .u32 x.f.v.c) ∧ w5.cell? ⟨wr.heap.size, 3, none⟩ = some (.slice x.f.a x.f.v.pre.length x.f.c) ∧ w5.cell? ⟨wr.heap.size, 4, none⟩ = some (.int .i64 x.f.s) ∧ w5.cell? ⟨wr.heap.size, 5, none⟩ = some (.int .u32 x.t.v.a) ∧ w5.cell? ⟨wr.heap.size, 6, none⟩ = some (.int .u32 x.t.v.b) ∧ w5.cell? ⟨wr.heap.size, 7, none⟩ = some (.int .u32 x.t.v.c) ∧ w5.cell? ⟨wr.heap.size, 8, none⟩ = some (.slice x.t.a x.t.v.pre.length x.t.c) ∧ w5.cell? ⟨wr.heap.size, 9, none⟩ = some (.int .i64 x.t.s)) := Lib.hid (fun w3 w5 o h hg => by
        have hb : w5.heap[wr.heap.size]? = w3.heap[wr.heap.size]? := (hg.block _ (by have h1 := h.size; simp; omega) (fun e => by
          have := (World.ownsRow.lt HO.out _ e.symm).2; omega)).trans (Below.heap_alloc _ _ _ (by have h1 := h.size; omega))
        have key : ∀ j, w5.cell? ⟨wr.heap.size, j, none⟩ = w3.cell? ⟨wr.heap.size, j, none⟩ := fun j => World.cell?_of_block (a := ⟨wr.heap.size, j, none⟩) hb
        obtain ⟨k0, k1, k2, k3, k4, k5, k6, k7, k8, k9⟩ := HKS.out w3 h
        exact ⟨(key _).trans k0, (key _).trans k1, (key _).trans k2, (key _).trans k3, (key _).trans k4, (key _).trans k5, (key _).trans k6, (key _).trans k7, (key _).trans k8, (key _).trans k9⟩)
      clear hw1 hnx
      go_region_held3 (fun w' => w'.cell? ⟨wr.heap.size, 0, none⟩ = some (.int .u32 x.f.v.a) ∧ w'.cell? ⟨wr.heap.size, 1, none⟩ = some (.int .u32 x.f.v.b) ∧ w'.cell? ⟨wr.heap.size, 2, none⟩ = some (.int .u32 x.f.v.c) ∧ w'.cell? ⟨wr.heap.size, 3, none⟩ = some (.slice x.f.a x.f.v.pre.length x.f.c) ∧ w'.cell? ⟨wr.heap.size, 4, none⟩ = some (.int .i64 x.f.s) ∧
        w'.cell? ⟨wr.heap.size, 5, none⟩ = some (.int .u32 x.t.v.a) ∧ w'.cell? ⟨wr.heap.size, 6, none⟩ = some (.int .u32 x.t.v.b) ∧ w'.cell? ⟨wr.heap.size, 7, none⟩ = some (.int .u32 x.t.v.c) ∧ w'.cell? ⟨wr.heap.size, 8, none⟩ = some (.slice x.t.a x.t.v.pre.length x.t.c) ∧ w'.cell? ⟨wr.heap.size, 9, none⟩ = some (.int .i64 x.t.s))
        (first | exact ⟨q0, q1, q2, q3, q4, q5, q6, q7, q8, q9⟩ | assumption | exact HKS.out _ (HB3.out.alloc HB3.out.size _) | exact HKS.out _ (HB4.out))
        (first
          | (go_at_call 64; refine (HCF.out w1.drew HD1.out).mono ?_; rintro e w2 ⟨af, cf, rfl, hok2, -, hb2⟩; have hS2 := HKS.out w2 (HD1.out.trans (hb2.mono HD1.out.size)); have HB2 : Hid (Below w1.heap.size w1 w2) := Lib.hid (HD1.out.trans (hb2.mono HD1.out.size)); have HOF := Lib.hid hok2; clear hok2 hb2)
          | (go_at_call 64; refine (HCT.out w1.drew HD1.out).mono ?_; rintro e w2 ⟨bt, ct, rfl, hok2, -, hb2⟩; have hS2 := HKS.out w2 (HD1.out.trans (hb2.mono HD1.out.size)); have HB2 : Hid (Below w1.heap.size w1 w2) := Lib.hid (HD1.out.trans (hb2.mono HD1.out.size)); have HOT := Lib.hid hok2; clear hok2 hb2)
          | (go_at_call 64; refine (HCF.out w2 HB2.out).mono ?_; rintro e w3 ⟨af, cf, rfl, hok3, -, hb3⟩; have hS3 := HKS.out w3 (HB2.out.trans (hb3.mono HB2.out.size)); have HB3 : Hid (Below w1.heap.size w1 w3) := Lib.hid (HB2.out.trans (hb3.mono HB2.out.size)); have HOF3 := Lib.hid hok3; have HOT3 := Lib.hid (HOT.out.gr hb3); have HV3 : Hid (IvRow w3 w.heap.size u4 (L'.map ofSt)) := Lib.hid (HO.out.below' (HB13.out w3 HB3.out)); clear hok3 hb3)
          | (go_at_call 64; refine (HCT.out w2 HB2.out).mono ?_; rintro e w3 ⟨bt, ct, rfl, hok3, -, hb3⟩; have hS3 := HKS.out w3 (HB2.out.trans (hb3.mono HB2.out.size)); have HB3 : Hid (Below w1.heap.size w1 w3) := Lib.hid (HB2.out.trans (hb3.mono HB2.out.size)); have HOT3 := Lib.hid hok3; have HOF3 := Lib.hid (HOF.out.gr hb3); have HV3 : Hid (IvRow w3 w.heap.size u4 (L'.map ofSt)) := Lib.hid (HO.out.below' (HB13.out w3 HB3.out)); clear hok3 hb3)
          | (refine step_append_own rfl _ _ _ (by rfl) w.heap.size 53 i0 _ 11 104 Tryz.underlying22 hi hz0 hz1 hz2 rfl (by decide) u4 k ((L'.map ofSt).flatMap gvL) (by simp [Act.eval]) ((HOW.out w3 HB3.out).alloc _) ⟨w3.heap.size, 0, none⟩ 1 1 (gvL (ofSt ⟨⟨x.f.v, af, cf, x.f.s⟩, ⟨x.t.v, bt, ct, x.t.s⟩⟩)) (by simp [Act.eval]) rfl (cells_new w3 _ _) (gv_one _) HLE.out HLB.out (HBASE.out w3 _ HB3.out) ?_
             intro v' w4 hown4 hg4
             have hS4 : w4.cell? ⟨wr.heap.size, 0, none⟩ = some (.int .u32 x.f.v.a) ∧ w4.cell? ⟨wr.heap.size, 1, none⟩ = some (.int .u32 x.f.v.b) ∧ w4.cell? ⟨wr.heap.size, 2, none⟩ = some (.int .u32 x.f.v.c) ∧ w4.cell? ⟨wr.heap.size, 3, none⟩ = some (.slice x.f.a x.f.v.pre.length x.f.c) ∧ w4.cell? ⟨wr.heap.size, 4, none⟩ = some (.int .i64 x.f.s) ∧ w4.cell? ⟨wr.heap.size, 5, none⟩ = some (.int .u32 x.t.v.a) ∧ w4.cell? ⟨wr.heap.size, 6, none⟩ = some (.int .u32 x.t.v.b) ∧ w4.cell? ⟨wr.heap.size, 7, none⟩ = some (.int .u32 x.t.v.c) ∧ w4.cell? ⟨wr.heap.size, 8, none⟩ = some (.slice x.t.a x.t.v.pre.length x.t.c) ∧ w4.cell? ⟨wr.heap.size, 9, none⟩ = some (.int .i64 x.t.s) := HKS4.out w3 w4 _ HB3.out hg4
             have HX4 := Lib.hid (And.intro hown4 hg4)
             clear hown4 hg4))
      all_goals
        have HNEXT : Hid ((L' ++ [(⟨⟨x.f.v, af, cf, x.f.s⟩, ⟨x.t.v, bt, ct, x.t.s⟩⟩ : StR)]).map StR.st = (L.map StR.st).take (k + 1)) := Lib.hid (by
          rw [List.map_append, HM.out, take_snoc (s := x.st) (by rw [List.getElem?_map, HX.out.2]; rfl)]; rfl)
        have HROW : Hid (IvRow w4 w.heap.size v' ((L' ++ [(⟨⟨x.f.v, af, cf, x.f.s⟩, ⟨x.t.v, bt, ct, x.t.s⟩⟩ : StR)]).map ofSt)) := Lib.hid (by
          have h := HX4.out.1
          unfold IvRow
          rw [List.map_append, List.flatMap_append, List.length_append, HLEN.out]
          simpa using h)
        have HBW : Hid (Below w.heap.size w w4) := Lib.hid (by
          have h0 := HW.out.trans ((HB13.out w3 HB3.out).mono HW.out.size)
          exact (h0.alloc h0.size _).grown HX4.out.2 (by simp; have := h0.size; omega) (fun j hj => (World.ownsRow.lt (HOW.out w3 HB3.out) j hj).1))
        have HALL : Hid (AllOk w4 (L' ++ [(⟨⟨x.f.v, af, cf, x.f.s⟩, ⟨x.t.v, bt, ct, x.t.s⟩⟩ : StR)])) := Lib.hid (by
          have key : ∀ y, StOk w3 y → StOk w4 y := fun y hy => ok_grown (hy.gr ((Below.refl _ w3).alloc (Nat.le_refl _) _)) ((HOW.out w3 HB3.out).alloc _) (by decide) HX4.out.2
          intro y hy
          rcases List.mem_append.1 hy with hy | hy
          · exact key y ((HA.out y hy).gr (HB13.out w3 HB3.out))
          · rw [List.mem_singleton.1 hy]; exact key _ ⟨HOF3.out, HOT3.out⟩)
        clear HX4
        go_wp2_with fail
        go_roundw
        case rel => exact ⟨k + 1, _, by go_num, hlt, HNEXT, HROW, HALL, HBW⟩
        case measure => simp [intOf]; omega
    · have hdec : decide (k < L.length) = false := by simpa using hlt
      have hke : k = L.length := by omega
      subst hke
      have HM2 : Hid (L'.map StR.st = L.map StR.st) := Lib.hid (by have h := HM.out; rwa [List.take_of_length_le (by rw [List.length_map]; omega)] at h)
      go_wp2_with fail
      go_ret2
      exact ⟨u4, L', rfl, HM2.out, HO.out, HA.out, HW.out⟩
theorem pintervals_long (v : Value) (L : List StR) (w : World) (hr : StRow w 0 v L) (hl : 16 < L.length) :
    Calls Tryz.prog 38 #[v] w fun e w' => e = .returned (.tuple #[.slice none 0 0, .int .i64 80]) ∧ w = w' := by
  obtain ⟨va, cp, rfl⟩ := hr.value
  have hdl : decide ((16 : Int) < (L.length : Int)) = true := decide_eq_true (by omega)
  clear hr
  go_enter Tryz.func38, Tryz.ntmps38
  go_wp2_with fail
  go_ret2
  exact ⟨rfl, rfl⟩
end SpanC
end Go.Proofs.YtapikdgncdcneaaGreatDoor
