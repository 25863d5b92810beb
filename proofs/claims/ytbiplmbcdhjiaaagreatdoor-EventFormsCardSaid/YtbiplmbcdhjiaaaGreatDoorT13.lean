/-
  What the proof of EventForms stands on, part 13.
-/
import Derived.Test.YtbiplmbcdhjiaaaGreatDoorT12
set_option linter.unusedSimpArgs false
set_option linter.unusedVariables false
set_option maxHeartbeats 16000000
namespace Go.Proofs.YtbiplmbcdhjiaaaGreatDoor
open Go.Lib (hid)
section
open Go.RowKit
namespace SpanC
open VerM SpanM StrC TextR VerC
theorem own_kind {w : World} {B : Nat} {a : Option Addr} {n c : Nat} {l : List ByteArray} (h : OwnT w B (.slice a n c) l) : (∀ b f, a = some ⟨b, f, none⟩ → B ≤ b ∧ IsText w b) ∧ (a = none → n = 0 ∧ c = 0) := by
 rcases h.2 with ⟨h0, h1⟩ | ⟨g, cp, cur, e1, hg0, hblk, _⟩
 · injection h0 with h0 h2 h3
   exact ⟨fun b f e => (by rw [h0] at e; cases e), fun _ => ⟨h2, h3⟩⟩
 · injection e1 with e1 _ _
   exact ⟨fun b f e => (by rw [e1] at e; cases e; exact ⟨hg0, _, _, hblk⟩), fun e => (by rw [e1] at e; cases e)⟩
end SpanC
end
section
open Go.RowKit
namespace VerC
open VerM StrC TextR Go.Sort Go.Shelf
structure RecT where
 s : B
 v : Ver
 a : Option Addr
 c : Nat
instance : Inhabited RecT := ⟨⟨[], ⟨0, 0, 0, []⟩, none, 0⟩⟩
theorem zjn (l : B) (w : World) (hv : Vw w) :
 Calls Tryz.prog 123 #[.string (str l)] w fun e w' => ∃ x, e = .returned x ∧ ReadE l w' (.returned x) ∧ Below w.heap.size w w' ∧ NewE w.heap.size w' (.returned x) :=
 (zfz l w hv).mono fun e w' ⟨⟨he, hb⟩, hn⟩ => by
  obtain ⟨x, rfl⟩ := zgr he
  exact ⟨x, rfl, he, hb, hn⟩
theorem zjo (w : World) (l : List Value) (t : TypeId) : ∀ j u, l[j]? = some u → (w.alloc (.cells l.toArray t)).cell? ((⟨w.heap.size, 0, none⟩ : Addr).add j) = some u := by
 intro j u hu
 rw [Go.WideShapes.add_plain, Nat.zero_add]
 simp only [World.cell?, heap_alloc_new]
 simpa using hu
end VerC
end
section
open Go.RowKit
namespace SpanC
open VerM SpanM StrC TextR VerC
structure IvG where
 lv : Ver
 la : Option Addr
 lc : Nat
 lo : Bool
 hv : Ver
 ha : Option Addr
 hc : Nat
 ho : Bool
 e : Bool
instance : Inhabited IvG := ⟨⟨⟨0, 0, 0, []⟩, none, 0, false, ⟨0, 0, 0, []⟩, none, 0, false, false⟩⟩
abbrev gvL (x : IvG) : List Value := [.int .u32 x.lv.a, .int .u32 x.lv.b, .int .u32 x.lv.c, .slice x.la x.lv.pre.length x.lc, .bool x.lo, .int .u32 x.hv.a, .int .u32 x.hv.b, .int .u32 x.hv.c, .slice x.ha x.hv.pre.length x.hc, .bool x.ho, .bool x.e]
theorem zjp (x : IvG) : (gvL x).length = 11 := rfl
abbrev gvO (x : IvG) : Obj := .cells (gvL x).toArray 246
abbrev gvV (x : IvG) : Value := .agg (gvL x).toArray
def IvRow (w : World) (B : Nat) (v : Value) (L : List IvG) : Prop := w.ownsRow B 246 11 v L.length (L.flatMap gvL)
theorem zjq : (Tryz.prog.info? 246).map (fun i => (i.zero, i.size, i.bytes)) = some (some (.agg #[.int .u32 0, .int .u32 0, .int .u32 0, .slice none 0 0, .bool false, .int .u32 0, .int .u32 0, .int .u32 0, .slice none 0 0, .bool false, .bool false]), 11, 104) := by kernel_rfl
theorem IvRow.below' {w w' : World} {B : Nat} {v : Value} {L : List IvG} (h : IvRow w B v L) (g : Below w.heap.size w w') : IvRow w' B v L := World.ownsRow.kept h (zid g) (Classical.em _)
theorem zjr (x : IvG) : ∀ u ∈ gvL x, u.oneCell' = true := by
 intro u hu
 simp only [List.mem_cons, List.not_mem_nil, or_false] at hu
 rcases hu with rfl | rfl | rfl | rfl | rfl | rfl | rfl | rfl | rfl | rfl | rfl <;> rfl
theorem zjs {w w' : World} {x : StR} {B n k : Nat} {e : TypeId} {v : Value} {xs : List Value} (h : StOk w x) (hown : w.ownsRow B e k v n xs) (he : e ≠ 9) (hg : w.grownBy w' v.ownBlock) : StOk w' x := by
 rcases hown.2 with ⟨rfl, _⟩ | ⟨g, cp, cur, rfl, _, hb, _⟩
 · exact h.gr ⟨hg.os, hg.tape, hg.output, hg.size, fun j hj => hg.block j hj (by simp [Value.ownBlock])⟩
 · exact h.keep (zji hb he) fun j hj hne => hg.block j hj (by simp [Value.ownBlock]; exact fun e => hne e)
theorem step_append_own {P : Program} {w : World} {ops : Array Oper} {o : Oper} {a : Act} {K : Act → World → Prop} {Q : Exit → Act → World → Prop} {E : Prop} (hgd : o.guard = none) (s x : Operand) (t : TypeId)
 (ho : o.op = .call { callee := .builtin .append, args := #[s, x], argTypes := #[t, t] })
 (base : Nat) (e : TypeId) (i : TypeInfo) (z : Value) (size bytes : Nat) (ht : P.underlying t = some (.slice e)) (hi : P.info? e = some i) (hz : i.zero = some z)
 (hsize : i.size = size) (hby : i.bytes = bytes) (hzs : z.cells.size = size) (hsz : 0 < size)
 (v : Value) (n : Nat) (xs : List Value) (hs : a.eval s = v) (hown : w.ownsRow base e size v n xs)
 (ad : Addr) (m c : Nat) (news : List Value) (hx : a.eval x = .slice (some ad) m c) (hl : news.length = m * size) (hnews : ∀ j u, news[j]? = some u → w.cell? (ad.add j) = some u) (h1 : ∀ u ∈ news, u.oneCell' = true)
 (h63 : n + m ≤ maxLen) (hbytes : (n + m) * bytes ≤ 140737488355328) (hbase : base ≤ w.heap.size)
 (h : ∀ v' w', w'.ownsRow base e size v' (n + m) (xs ++ news) → w.grownBy w' v.ownBlock → K (a.put o.dst v') w') :
 if Region.wanted o (yielded ops a.tmps) = true then Oper.wp P o a w K Q else E := by
 have hw : Region.wanted o (yielded ops a.tmps) = true := by simp [Region.wanted, hgd]
 rw [if_pos hw]
 obtain ⟨v', w', hr, h2, h3, _⟩ := run_append_own (P := P) w base t o.type e i z size bytes ht hi hz hsize hby hzs hsz v n xs hown ad m c news hl hnews h1 h63 hbytes hbase
 unfold Oper.wp execOp
 simp only [ho, resolve, invoke, builtin, Sem.run_bind, Sem.run_pure, Result.andThen_ok, List.map_toArray, List.map_cons, List.map_nil, hs, hx, hr]
 exact h v' w' h2 h3
end SpanC
end
section
open Go.RowKit
namespace SpanC
open VerM SpanM StrC TextR VerC
def zeroB (v : Ver) (o : Bool) : Bool := decide (cmpV v zeroV = 0) && !o
def rightB (x : IvG) : Bool := may x.lv && may x.hv && (!x.e || zeroB x.hv x.ho)
def toSt (x : IvG) : StR := ⟨⟨x.lv, x.la, x.lc, if x.lo then 1 else 0⟩, if x.e then ⟨zeroV, none, 0, 2⟩ else ⟨x.hv, x.ha, x.hc, if x.ho then 0 else 1⟩⟩
theorem zjt {w : World} {g : Nat} {x : IvG} (h : w.heap[g]? = some (gvO x)) :
 w.cell? ⟨g, 0, none⟩ = some (.int .u32 x.lv.a) ∧ w.cell? ⟨g, 1, none⟩ = some (.int .u32 x.lv.b) ∧ w.cell? ⟨g, 2, none⟩ = some (.int .u32 x.lv.c) ∧ w.cell? ⟨g, 3, none⟩ = some (.slice x.la x.lv.pre.length x.lc) ∧ w.cell? ⟨g, 4, none⟩ = some (.bool x.lo) ∧
 w.cell? ⟨g, 5, none⟩ = some (.int .u32 x.hv.a) ∧ w.cell? ⟨g, 6, none⟩ = some (.int .u32 x.hv.b) ∧ w.cell? ⟨g, 7, none⟩ = some (.int .u32 x.hv.c) ∧ w.cell? ⟨g, 8, none⟩ = some (.slice x.ha x.hv.pre.length x.hc) ∧ w.cell? ⟨g, 9, none⟩ = some (.bool x.ho) ∧ w.cell? ⟨g, 10, none⟩ = some (.bool x.e) := by
 refine ⟨?_, ?_, ?_, ?_, ?_, ?_, ?_, ?_, ?_, ?_, ?_⟩ <;> simp [World.cell?, h]
end SpanC
end
section
open Go.RowKit
namespace SpanC
open VerM SpanM StrC TextR VerC
theorem IvRow.value {w : World} {B : Nat} {v : Value} {L : List IvG} (h : IvRow w B v L) : ∃ a cp, v = .slice a L.length cp := by
 rcases h.2 with ⟨rfl, h0⟩ | ⟨g, cp, cur, rfl, _⟩
 · exact ⟨none, 0, by rw [h0]⟩
 · exact ⟨_, _, rfl⟩
structure IvIn (w : World) (a : Option Addr) (n : Nat) (L : List IvG) : Prop where
 len : n = L.length
 cells : 0 < L.length → ∃ g o, a = some ⟨g, o, none⟩ ∧ ∀ i, i < L.length → ∀ c, c < 11 → w.cell? ⟨g, o + i * 11 + c, none⟩ = some ((gvL L[i]!)[c]!)
theorem IvIn.below {w w' : World} {a : Option Addr} {n : Nat} {L : List IvG} (h : IvIn w a n L) (g : Below w.heap.size w w') : IvIn w' a n L := by
 refine ⟨h.len, fun h0 => ?_⟩
 obtain ⟨b, o, e, hc⟩ := h.cells h0
 exact ⟨b, o, e, fun i hi c hc' => by rw [g.cell (World.block_lt_of_cell? _ _ (hc i hi c hc'))]; exact hc i hi c hc'⟩
theorem IvRow.in_ {w : World} {B : Nat} {a : Option Addr} {n cp : Nat} {L : List IvG} (h : IvRow w B (.slice a n cp) L) : IvIn w a n L := by
 have h' : w.ownsRow B 246 11 (.slice a n cp) L.length (L.flatMap gvL) := h
 have h0 := h'
 obtain ⟨_, ⟨h1, h2⟩ | ⟨g, cp', cur, e1, hg0, hblk, _⟩⟩ := h'
 · simp only [Value.slice.injEq] at h1
   exact ⟨h1.2.1.trans h2.symm, fun h => by omega⟩
 · simp only [Value.slice.injEq] at e1
   obtain ⟨rfl, rfl, rfl⟩ := e1
   refine ⟨rfl, fun _ => ⟨g, 0, rfl, fun i hi c hc => ?_⟩⟩
   rw [Nat.zero_add, h0.cellAt (i * 11 + c) (by omega), RowKC.zie gvL 11 zjp L _ (by omega), show (i * 11 + c) / 11 = i from by omega, show (i * 11 + c) % 11 = c from by omega]
theorem IvIn.at {w : World} {a : Option Addr} {n : Nat} {L : List IvG} (h : IvIn w a n L) (i : Nat) (hi : i < L.length) : ∃ (g o : Nat) (x : IvG), x = L[i]! ∧ x ∈ L ∧ L[i]? = some x ∧ a = some ⟨g, o, none⟩ ∧
 w.cell? ⟨g, o + i * 11, none⟩ = some (.int .u32 x.lv.a) ∧ w.cell? ⟨g, o + i * 11 + 1, none⟩ = some (.int .u32 x.lv.b) ∧ w.cell? ⟨g, o + i * 11 + 2, none⟩ = some (.int .u32 x.lv.c) ∧ w.cell? ⟨g, o + i * 11 + 3, none⟩ = some (.slice x.la x.lv.pre.length x.lc) ∧ w.cell? ⟨g, o + i * 11 + 4, none⟩ = some (.bool x.lo) ∧
 w.cell? ⟨g, o + i * 11 + 5, none⟩ = some (.int .u32 x.hv.a) ∧ w.cell? ⟨g, o + i * 11 + 6, none⟩ = some (.int .u32 x.hv.b) ∧ w.cell? ⟨g, o + i * 11 + 7, none⟩ = some (.int .u32 x.hv.c) ∧ w.cell? ⟨g, o + i * 11 + 8, none⟩ = some (.slice x.ha x.hv.pre.length x.hc) ∧ w.cell? ⟨g, o + i * 11 + 9, none⟩ = some (.bool x.ho) ∧ w.cell? ⟨g, o + i * 11 + 10, none⟩ = some (.bool x.e) := by
 obtain ⟨g, o, rfl, key⟩ := h.cells (by omega)
 have hx : L[i]? = some L[i]! := by rw [List.getElem?_eq_getElem hi, getElem!_pos L i hi]
 have k := key i hi
 exact ⟨g, o, L[i]!, rfl, List.mem_of_getElem? hx, hx, rfl, k 0 (by omega), k 1 (by omega), k 2 (by omega), k 3 (by omega), k 4 (by omega), k 5 (by omega), k 6 (by omega), k 7 (by omega), k 8 (by omega), k 9 (by omega), k 10 (by omega)⟩
def goodAt (L : List IvG) (i : Nat) : Bool := rightB L[i]! && !empB (toSt L[i]!).st && (decide (i = 0) || decide (cE (toSt L[i - 1]!).t.ed (toSt L[i]!).f.ed < 0))
def spanB (L : List IvG) : Bool := decide (L.length ≤ 16) && (List.range L.length).all (goodAt L)
theorem zju (x : StR) : ∀ u ∈ stL x, u.oneCell' = true := by
 intro u hu
 simp only [List.mem_cons, List.not_mem_nil, or_false] at hu
 rcases hu with rfl | rfl | rfl | rfl | rfl | rfl | rfl | rfl | rfl | rfl <;> rfl
theorem zjv : (Tryz.prog.info? 290).map (fun i => (i.zero, i.size, i.bytes)) = some (some (.agg #[.int .u32 0, .int .u32 0, .int .u32 0, .slice none 0 0, .int .i64 0, .int .u32 0, .int .u32 0, .int .u32 0, .slice none 0 0, .int .i64 0]), 10, 96) := by kernel_rfl
end SpanC
end
section
open Go.RowKit
namespace RowKC
open Go Go.Sort VerC
theorem zjw (g : Nat) : ∀ (vs : List Value) (s : Nat) (w : World) (cur : Array Value) (e : TypeId) (fr : Nat × Nat), w.heap[g]? = some (.cells cur e fr) →
 ∃ cur', (w.setCells g s vs).heap[g]? = some (.cells cur' e fr) ∧ cur'.size = cur.size ∧ (∀ t, t < s ∨ s + vs.length ≤ t → cur'[t]? = cur[t]?) ∧ ∀ j, j < vs.length → s + j < cur.size → cur'[s + j]? = vs[j]?
 | [], s, w, cur, e, fr, h => ⟨cur, h, rfl, fun _ _ => rfl, fun j hj => by simp at hj⟩
 | v :: r, s, w, cur, e, fr, h => by
  obtain ⟨cur', h1, h2, h3, h4⟩ := zjw g r (s + 1) (w.setCell ⟨g, s, none⟩ v) (cur.setIfInBounds s v) e fr (zdv h s v)
  refine ⟨cur', h1, by rw [h2]; simp, fun t ht => ?_, fun j hj hs => ?_⟩
  · have hl : (v :: r).length = r.length + 1 := rfl
    rw [h3 t (by omega), Array.getElem?_setIfInBounds]
    rw [if_neg (by omega)]
  · match j with
    | 0 =>
     rw [h3 (s + 0) (by omega), Array.getElem?_setIfInBounds, if_pos (by omega), if_pos (by omega)]
     rfl
    | j + 1 =>
     have := h4 j (by simpa using hj) (by simp; omega)
     rw [show s + (j + 1) = s + 1 + j from by omega, this]
     rfl
theorem zjx {α : Type} [Inhabited α] (enc : α → List Value) (k : Nat) (hk : ∀ x, (enc x).length = k) (l : List α) (j : Nat) : (l.flatMap enc)[j]? = if j < l.length * k then some ((enc l[j / k]!)[j % k]!) else none := by
 split
 · rename_i h; exact zie enc k hk l j h
 · rename_i h; exact List.getElem?_eq_none (by rw [zif enc k hk]; omega)
theorem zjy {α : Type} [Inhabited α] (l : List α) (i t : Nat) (x : α) (hi : i < l.length) : (l.set i x)[t]! = if t = i then x else l[t]! := by
 by_cases h : t < l.length
 · rw [getElem!_pos (l.set i x) t (by simpa using h), List.getElem_set]
   by_cases e : i = t
   · subst e; simp
   · rw [if_neg e, if_neg (fun h => e h.symm), getElem!_pos l t h]
 · rw [getElem!_neg (l.set i x) t (by simpa using h), if_neg (by omega), getElem!_neg l t h]
theorem zjz {α : Type} [Inhabited α] (enc : α → List Value) (k : Nat) (hk : ∀ x, (enc x).length = k) {w : World} {B g n cp : Nat} {e : TypeId} {L : List α} (h : w.ownsRow B e k (.slice (some ⟨g, 0, none⟩) n cp) n (L.flatMap enc)) (hL : L.length = n) (i : Nat) (hi : i < n) (x : α) :
 (w.setCells g (i * k) (enc x)).ownsRow B e k (.slice (some ⟨g, 0, none⟩) n cp) n ((L.set i x).flatMap enc) := by
 obtain ⟨hl, ⟨h0, _⟩ | ⟨g', cp', cur, e1, hbase, hb, h1, h2, h3, h4⟩⟩ := h
 · cases h0
 simp only [Value.slice.injEq, Option.some.injEq, Addr.mk.injEq, and_true, true_and] at e1
 obtain ⟨rfl, rfl⟩ := e1
 obtain ⟨cur', c1, c2, c3, c4⟩ := zjw g (enc x) (i * k) w cur e (0, 0) hb
 refine ⟨by rw [zif enc k hk, List.length_set, hL], .inr ⟨g, cp, cur', rfl, hbase, c1, h1, h2, by rw [c2]; exact h3, ?_⟩⟩
 have hik : i * k + k ≤ n * k := by
  have := Nat.mul_le_mul_right k (show i + 1 ≤ n from hi); rwa [Nat.add_mul, Nat.one_mul] at this
 have hnc : n * k ≤ cp * k := Nat.mul_le_mul_right k h1
 apply List.ext_getElem?
 intro t
 rw [zjx enc k hk, List.length_set, hL]
 by_cases ht : t < n * k
 · rw [if_pos ht, List.getElem?_take_of_lt ht, Array.getElem?_toList]
   have k0 : 0 < k := by
    rcases Nat.eq_zero_or_pos k with e | e
    · subst e; simp at ht
    · exact e
   have hold : cur[t]? = some ((enc L[t / k]!)[t % k]!) := by
    have := congrArg (fun l : List Value => l[t]?) h4
    rw [List.getElem?_take_of_lt ht, Array.getElem?_toList, zjx enc k hk, hL, if_pos ht] at this
    exact this
   rw [zjy L _ _ x (by omega)]
   by_cases hb2 : i * k ≤ t ∧ t < i * k + k
   · have e2 : t / k = i := (blk_iff k i t k0).1 hb2
     have e3 : t % k = t - i * k := by rw [Nat.mod_eq_sub_div_mul, e2]
     rw [if_pos e2, e3]
     have := c4 (t - i * k) (by rw [hk]; omega) (by omega)
     rw [show i * k + (t - i * k) = t from by omega] at this
     rw [this, List.getElem?_eq_getElem (by rw [hk]; omega), getElem!_pos (enc x) _ (by rw [hk]; omega)]
   · rw [if_neg (fun e => hb2 ((blk_iff k i t k0).2 e)), c3 t (by rw [hk]; omega)]
     exact hold
 · rw [if_neg ht, List.getElem?_eq_none (by rw [List.length_take]; omega)]
theorem zka {w : World} {B g n cp k : Nat} {e : TypeId} {xs xs' : List Value} (h : w.ownsRow B e k (.slice (some ⟨g, 0, none⟩) n cp) n xs) (s : Nat) (vs : List Value) (hs : s + vs.length ≤ n * k) (hl : xs'.length = n * k)
 (hx : ∀ t, t < n * k → xs'[t]? = if s ≤ t ∧ t < s + vs.length then vs[t - s]? else xs[t]?) : (w.setCells g s vs).ownsRow B e k (.slice (some ⟨g, 0, none⟩) n cp) n xs' := by
 obtain ⟨hl0, ⟨h0, _⟩ | ⟨g', cp', cur, e1, hbase, hb, h1, h2, h3, h4⟩⟩ := h
 · cases h0
 simp only [Value.slice.injEq, Option.some.injEq, Addr.mk.injEq, and_true, true_and] at e1
 obtain ⟨rfl, rfl⟩ := e1
 obtain ⟨cur', c1, c2, c3, c4⟩ := zjw g vs s w cur e (0, 0) hb
 refine ⟨hl, .inr ⟨g, cp, cur', rfl, hbase, c1, h1, h2, by rw [c2]; exact h3, ?_⟩⟩
 have hnc : n * k ≤ cp * k := Nat.mul_le_mul_right k h1
 apply List.ext_getElem?
 intro t
 by_cases ht : t < n * k
 · rw [List.getElem?_take_of_lt ht, Array.getElem?_toList, hx t ht]
   split
   · rename_i hb2
     have := c4 (t - s) (by omega) (by omega)
     rwa [show s + (t - s) = t from by omega] at this
   · rename_i hb2
     rw [c3 t (by omega)]
     have := congrArg (fun l : List Value => l[t]?) h4
     rw [List.getElem?_take_of_lt ht, Array.getElem?_toList] at this
     exact this
 · rw [List.getElem?_take_eq_none (by omega), List.getElem?_eq_none (by omega)]
theorem zkb {w : World} {B g n cp k : Nat} {e : TypeId} {xs : List Value} (h : w.ownsRow B e k (.slice (some ⟨g, 0, none⟩) n cp) n xs) (i : Nat) (hi : i ≤ n) (vs : List Value) :
 (w.setCells g (i * k) vs).ownsRow B e k (.slice (some ⟨g, 0, none⟩) i cp) i (xs.take (i * k)) := by
 obtain ⟨hl, ⟨h0, _⟩ | ⟨g', cp', cur, e1, hbase, hb, h1, h2, h3, h4⟩⟩ := h
 · cases h0
 simp only [Value.slice.injEq, Option.some.injEq, Addr.mk.injEq, and_true, true_and] at e1
 obtain ⟨rfl, rfl⟩ := e1
 obtain ⟨cur', c1, c2, c3, _⟩ := zjw g vs (i * k) w cur e (0, 0) hb
 have hik : i * k ≤ n * k := Nat.mul_le_mul_right k hi
 refine ⟨by rw [List.length_take, hl]; omega, .inr ⟨g, cp, cur', rfl, hbase, c1, by omega, h2, by rw [c2]; exact h3, ?_⟩⟩
 rw [← h4, List.take_take, Nat.min_eq_left hik]
 apply List.ext_getElem?
 intro t
 by_cases ht : t < i * k
 · rw [List.getElem?_take_of_lt ht, List.getElem?_take_of_lt ht, Array.getElem?_toList, Array.getElem?_toList, c3 t (.inl ht)]
 · rw [List.getElem?_take_eq_none (by omega), List.getElem?_take_eq_none (by omega)]
theorem zkc {α : Type} (enc : α → List Value) (k : Nat) (hk : ∀ x, (enc x).length = k) : ∀ (L : List α) (i : Nat), (L.flatMap enc).take (i * k) = (L.take i).flatMap enc
 | [], i => by simp
 | x :: L, 0 => by simp
 | x :: L, i + 1 => by
  rw [List.flatMap_cons, List.take_succ_cons, List.flatMap_cons, Nat.add_mul, Nat.one_mul, List.take_append, hk, List.take_of_length_le (by rw [hk]; omega), show i * k + k - k = i * k from by omega, zkc enc k hk L i]
theorem zkd {P : Program} (w : World) (t e ty : TypeId) (z : Value) (ht : P.underlying t = some (.slice e)) (hv : ∀ w, (zeroValue e).run P w = .ok z w) (h1 : ∀ v ∈ z.cells, v.oneCell' = true) (b o n c : Nat) (hn : 0 < n) (hz : 0 < z.cells.size)
 (hc : ∀ j, j < n * z.cells.size → (w.cell? ⟨b, o + j, none⟩).isSome = true) (hf : ∀ j, w.frozen? ⟨b, o + j, none⟩ = false) :
 ∃ vs, (Builtin.clear_ #[t] ty #[.slice (some ⟨b, o, none⟩) n c]).run P w = .ok (.tuple #[]) (w.setCells b o vs) := by
 have hsz : (Builtin.zeroCells z.cells n).toList.length = n * z.cells.size := by simp [Builtin.zeroCells]
 have hst := run_storeCells_cells (P := P) b o (Builtin.zeroCells z.cells n).toList 0 w (by rw [hsz]; intro j hj; exact hc j hj) (fun j _ => hf _) (by
  intro v hv'
  simp only [Builtin.zeroCells, Array.toList_map, List.mem_map] at hv'
  obtain ⟨a, _, rfl⟩ := hv'
  have hlt : a % z.cells.size < z.cells.size := Nat.mod_lt _ hz
  first
   | (rw [getElem!_pos z.cells _ hlt]; exact h1 _ (Array.getElem_mem hlt))
   | (have := h1 _ (Array.getElem_mem hlt); simpa [hlt] using this))
 simp only [Nat.add_zero] at hst
 obtain ⟨m, rfl⟩ : ∃ m, n = m + 1 := ⟨n - 1, by omega⟩
 refine ⟨(Builtin.zeroCells z.cells (m + 1)).toList, ?_⟩
 simp [Builtin.clear_, run_underlying ht, hv, hst]
end RowKC
end
end Go.Proofs.YtbiplmbcdhjiaaaGreatDoor
