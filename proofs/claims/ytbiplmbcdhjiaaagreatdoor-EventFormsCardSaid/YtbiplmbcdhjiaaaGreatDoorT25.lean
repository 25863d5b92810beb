/-
  What the proof of EventForms stands on, part 25.
-/
import Derived.Below
import Derived.ChangeArms
import Derived.ChangeSame
import Derived.Deep.DeepHandedRow
import Derived.Deep.Fields
import Derived.Deep.Slices
import Derived.Laws.AppendOwn
import Derived.Laws.AppendOwnNone
import Derived.Laws.OwnMore
import Derived.SizedLaws
import Derived.SliceStrings
import Derived.StillTailTactics
import Derived.Test.YtbiplmbcdhjiaaaGreatDoorRows
import Derived.Test.YtbiplmbcdhjiaaaGreatDoorT01
set_option linter.unusedSimpArgs false
set_option linter.unusedVariables false
set_option maxHeartbeats 16000000
namespace Go.Proofs.YtbiplmbcdhjiaaaGreatDoor
open Go.Lib (hid)
section
namespace EvA
open Go.ChangeShapes Go.WideShapes Go.Deep Go.RowKit
open StrC
abbrev B := List UInt8
theorem chW {a b c : World} (h : Below a.heap.size a b) (k : Below b.heap.size b c) : Below a.heap.size a c := h.trans (k.mono h.size)
theorem alW (w : World) (o : Obj) : Below w.heap.size w (w.alloc o) := (Below.refl _ _).alloc (Nat.le_refl _) o
structure EvG where
 k : Nat
 who : B
 name : B
 ver : B
 na : Option Addr
 nc : Nat
 needs : List (B × B)
 sum : Nat
 n : Nat
 size : Nat
 holder : B
 note : B
abbrev evL (e : EvG) : List Value := [.int .u8 e.k, .string (str e.who), .string (str e.name), .string (str e.ver), .slice e.na e.needs.length e.nc, .int .u64 e.sum, .int .u32 e.n, .int .u32 e.size, .string (str e.holder), .string (str e.note)]
abbrev evO (e : EvG) : Obj := .cells (evL e).toArray 27
abbrev evV (e : EvG) : Value := .agg (evL e).toArray
abbrev needL (x : B × B) : List Value := [.string (str x.1), .string (str x.2)]
structure NeIn (w : World) (a : Option Addr) (c : Nat) (L : List (B × B)) : Prop where
 le : L.length ≤ c
 few : L.length * 32 ≤ 140737488351232
 short : ∀ x ∈ L, x.1.length ≤ 140737488351232 ∧ x.2.length ≤ 140737488351232
 cells : 0 < L.length → ∃ g o, a = some ⟨g, o, none⟩ ∧ ∀ i, i < L.length → ∀ j, j < 2 → w.cell? ⟨g, o + i * 2 + j, none⟩ = some ((needL L[i]!)[j]!)
theorem NeIn.no (w : World) : NeIn w none 0 [] := ⟨Nat.le_refl _, by simp, fun x h => (by cases h), fun h => absurd h (by simp)⟩
theorem NeIn.gr {w w' : World} {a : Option Addr} {c : Nat} {L : List (B × B)} (h : NeIn w a c L) (g : Below w.heap.size w w') : NeIn w' a c L :=
 ⟨h.le, h.few, h.short, fun h0 => by
  obtain ⟨b, o, e, hc⟩ := h.cells h0
  exact ⟨b, o, e, fun i hi j hj => by rw [g.cell (World.block_lt_of_cell? _ _ (hc i hi j hj))]; exact hc i hi j hj⟩⟩
theorem NeIn.at {w : World} {a : Option Addr} {c : Nat} {L : List (B × B)} (h : NeIn w a c L) (i : Nat) (hi : i < L.length) : ∃ (g o : Nat) (x : B × B), x ∈ L ∧ L[i]? = some x ∧ a = some ⟨g, o, none⟩ ∧
 w.cell? ⟨g, o + i * 2, none⟩ = some (.string (str x.1)) ∧ w.cell? ⟨g, o + i * 2 + 1, none⟩ = some (.string (str x.2)) := by
 obtain ⟨g, o, rfl, key⟩ := h.cells (by omega)
 have hx : L[i]? = some L[i]! := by rw [List.getElem?_eq_getElem hi, getElem!_pos L i hi]
 have k := key i hi
 exact ⟨g, o, L[i]!, List.mem_of_getElem? hx, hx, rfl, k 0 (by omega), k 1 (by omega)⟩
theorem NeIn.nil_ {w : World} {a : Option Addr} {c : Nat} {L : List (B × B)} (h : NeIn w a c L) (e : a = none) : L.length = 0 := by
 rcases Nat.eq_zero_or_pos L.length with h0 | h0
 · exact h0
 · obtain ⟨g, o, e2, -⟩ := h.cells h0
   rw [e] at e2
   cases e2
structure EvIn (w : World) (e : EvG) : Prop where
 k : e.k ≤ 255
 sum : e.sum ≤ 18446744073709551615
 n : e.n ≤ 4294967295
 size : e.size ≤ 4294967295
 who : e.who.length ≤ 140737488351232
 name : e.name.length ≤ 140737488351232
 ver : e.ver.length ≤ 140737488351232
 holder : e.holder.length ≤ 140737488351232
 note : e.note.length ≤ 140737488351232
 needs : NeIn w e.na e.nc e.needs
theorem EvIn.gr {w w' : World} {e : EvG} (h : EvIn w e) (g : Below w.heap.size w w') : EvIn w' e := ⟨h.k, h.sum, h.n, h.size, h.who, h.name, h.ver, h.holder, h.note, h.needs.gr g⟩
def OkW {H : Type} (P : Program) (t : TypeId) (d : DataW H) : Prop := ∀ n ∈ d.weights P t, n ≤ reachBytes
theorem zsw {H : Type} {P : Program} {e : TypeId} {d : DataW H} {n : Nat} : ∀ {ds : List (DataW H)}, d ∈ ds → n ∈ d.weights P e → n ∈ DataW.weightsAll P e ds
 | x :: r, hd, hn => by
  rw [DataW.weightsAll]
  rcases List.mem_cons.1 hd with rfl | h
  · exact List.mem_append_left _ hn
  · exact List.mem_append_right _ (zsw h hn)
theorem OkW.top {H : Type} {P : Program} {ts : List TypeId} {ds : List (DataW H)} (h : (DataW.weightsEach P ts ds).all (· ≤ reachBytes) = true) {j : Nat} {t : TypeId} {d : DataW H} (ht : ts[j]? = some t) (hd : ds[j]? = some d) : OkW P t d := fun n hn => by
 have := List.all_eq_true.1 h _ (DataW.weights_mem_each ht hd n hn)
 simpa using this
theorem OkW.elem {H : Type} {P : Program} {t e : TypeId} {ds sp : List (DataW H)} (h : OkW P t (.slice ds sp)) (hu : P.underlying t = some (.slice e)) {d : DataW H} (hd : d ∈ ds ∨ d ∈ sp) : OkW P e d := fun n hn => by
 refine h n ?_
 simp only [DataW.weights, hu]
 refine List.mem_cons_of_mem _ (List.mem_append.2 ?_)
 rcases hd with hd | hd
 · exact Or.inl (zsw hd hn)
 · exact Or.inr (zsw hd hn)
theorem OkW.room {H : Type} {P : Program} {t e : TypeId} {ds sp : List (DataW H)} (h : OkW P t (.slice ds sp)) (hu : P.underlying t = some (.slice e)) : (ds.length + sp.length) * P.bytesOf e ≤ reachBytes :=
 h _ (by simp [DataW.weights, hu])
theorem OkW.field {H : Type} {P : Program} {t : TypeId} {fs : Array Field} {zs : List (DataW H)} (h : OkW P t (.agg zs)) (hu : P.underlying t = some (.struct fs)) {j : Nat} {f : Field} {d : DataW H} (hj : fs[j]? = some f) (hd : zs[j]? = some d) : OkW P f.type d := fun n hn => by
 refine h n ?_
 simp only [DataW.weights, hu]
 exact DataW.weights_mem_each (j := j) (by simp; exact ⟨f, hj, rfl⟩) hd n hn
section
variable {H : Type} {enc : TypeId × Value → H} {w : World} {base : Nat} {held : Bool}
theorem zsx {k : IntKind} {m : Int} {b : Int} (h : (Lit.int k m).wf = true) (h0 : k.min = 0) (hb : k.max = b) : ∃ n : Nat, m = (n : Int) ∧ (n : Int) ≤ b := by
 simp only [Lit.wf, Bool.and_eq_true, decide_eq_true_eq, h0, hb] at h
 exact ⟨m.toNat, by omega, by omega⟩
theorem zsy {t : TypeId} {n : Nat} {v : Value} {y : DataW H × List MemPlace} (ht : Tryz.prog.underlying t = some .string) (h : DataW.trod enc Tryz.prog w base (fun _ => true) held n t [v] = some y) (hw : OkW Tryz.prog t y.1) :
 ∃ s : B, v = .string (str s) ∧ s.length ≤ 140737488351232 := by
 obtain ⟨s, hv, rfl, hs⟩ := DataW.trod_string ht h
 simp only [List.cons.injEq, and_true] at hv
 refine ⟨s.data.toList, by rw [hv, ← str_of], ?_⟩
 have := hw s.data.toList.length (by simp [DataW.weights])
 unfold reachBytes at this
 omega
set_option maxRecDepth 100000 in
theorem need_in {n : Nat} {cs : List Value} {y : DataW H × List MemPlace} (h : DataW.trod enc Tryz.prog w base (fun _ => true) held n 78 cs = some y) (hw : OkW Tryz.prog 78 y.1) :
 ∃ x : B × B, cs = needL x ∧ x.1.length ≤ 140737488351232 ∧ x.2.length ≤ 140737488351232 := by
 obtain ⟨ys, n', -, hy, hl, hyl, hf⟩ := DataW.trod_struct Tryz.underlying78 h
 have hl2 : cs.length = 2 := hl.trans (by kernel_rfl)
 have k1 : Tryz.prog.cellsOf 9 = 1 := by kernel_rfl
 match cs, hl2 with
 | [c0, c1], _ =>
  match ys, hyl with
  | [y0, y1], _ =>
   have h0 := hf 0 _ rfl
   have h1 := hf 1 _ rfl
   simp [k1] at h0 h1
   rw [hy] at hw
   obtain ⟨s, rfl, hs⟩ := zsy Tryz.underlying9 h0 (hw.field Tryz.underlying78 (j := 0) rfl (by simp))
   obtain ⟨t, rfl, ht⟩ := zsy Tryz.underlying9 h1 (hw.field Tryz.underlying78 (j := 1) rfl (by simp))
   exact ⟨(s, t), rfl, hs, ht⟩
theorem zsz {fuel : Nat} {v : Value} {x : DataW H × List MemPlace} (h : DataW.trod enc Tryz.prog w base (fun _ => true) held fuel 23 [v] = some x) (hw : OkW Tryz.prog 23 x.1) :
 ∃ (a : Option Addr) (cap : Nat) (L : List (B × B)), v = .slice a L.length cap ∧ NeIn w a cap L := by
 rcases open_slice Tryz.underlying23 h with ⟨hc, hx⟩ | ⟨a, len, cap, m, n, D, Pl, hcs, hb, hl, hm, hmm, hx, hi⟩
 · simp only [List.cons.injEq, and_true] at hc
   exact ⟨none, 0, [], hc, NeIn.no w⟩
 · simp only [if_true] at hmm
   subst hmm
   simp only [List.cons.injEq, and_true] at hcs
   have hC : Tryz.prog.cellsOf 78 = 2 := by kernel_rfl
   rw [hx] at hw
   have hs := hw.room Tryz.underlying23
   rw [show Tryz.prog.bytesOf 78 = 32 from by kernel_rfl] at hs
   have each : ∀ i, i < len → ∃ x : B × B, (x.1.length ≤ 140737488351232 ∧ x.2.length ≤ 140737488351232) ∧ ∀ c, c < 2 → w.cell? (a.add (i * 2 + c)) = some ((needL x)[c]!) := by
    intro i hil
    obtain ⟨cs', hc, ht'⟩ := hi i (by omega)
    rw [hC] at hc
    obtain ⟨x, e, hT⟩ := need_in ht' (hw.elem Tryz.underlying23 (Or.inl (List.mem_map.2 ⟨i, List.mem_range.2 hil, rfl⟩)))
    obtain ⟨-, hcl, hat⟩ := World.cells?_some hc
    refine ⟨x, hT, fun c hc2 => ?_⟩
    have h1 := hat c hc2
    rw [← add_add, h1, e]
    have : c < (needL x).length := hc2
    rw [List.getElem?_eq_getElem this]; exact congrArg some (getElem!_pos (needL x) c this).symm
   have rows : ∃ L : List (B × B), L.length = len ∧ ∀ i, (h : i < L.length) → (L[i].1.length ≤ 140737488351232 ∧ L[i].2.length ≤ 140737488351232) ∧ ∀ c, c < 2 → w.cell? (a.add (i * 2 + c)) = some ((needL L[i])[c]!) := by
    have build : ∀ q, q ≤ len → ∃ L : List (B × B), L.length = q ∧ ∀ i, (h : i < L.length) → (L[i].1.length ≤ 140737488351232 ∧ L[i].2.length ≤ 140737488351232) ∧ ∀ c, c < 2 → w.cell? (a.add (i * 2 + c)) = some ((needL L[i])[c]!) := by
     intro q
     induction q with
     | zero => exact fun _ => ⟨[], rfl, fun i h => by cases h⟩
     | succ q ih =>
      intro hq
      obtain ⟨L, hz, hall⟩ := ih (by omega)
      obtain ⟨x, h1, h2⟩ := each q (by omega)
      refine ⟨L ++ [x], by simp [hz], fun i h => ?_⟩
      by_cases hi2 : i < L.length
      · rw [List.getElem_append_left hi2]; exact hall i hi2
      · have : i = q := by simp [hz] at h; omega
        subst this
        rw [List.getElem_append_right (by omega)]
        simp only [hz, Nat.sub_self, List.getElem_singleton]
        exact ⟨h1, h2⟩
    exact build len (Nat.le_refl _)
   obtain ⟨L, rfl, hall⟩ := rows
   refine ⟨some a, m, L, hcs, hl, ?_, fun x hx => ?_, fun h0 => ?_⟩
   · have : L.length + (m - L.length) = m := by omega
     simp [this, reachBytes] at hs
     omega
   · obtain ⟨i, hi, rfl⟩ := List.getElem_of_mem hx
     exact (hall i hi).1
   · obtain ⟨b, off, spot⟩ := a
     have hspot : spot = none := by simpa [Addr.add] using World.cell?_spot ((hall 0 h0).2 0 (by omega))
     subst hspot
     refine ⟨b, off, rfl, fun i hi c hc => ?_⟩
     have := (hall i hi).2 c hc
     rw [Go.WideShapes.add_plain] at this
     rw [Nat.add_assoc, this, getElem!_pos L i hi]
set_option maxRecDepth 100000 in
theorem zta {n : Nat} {cs : List Value} {y : DataW H × List MemPlace} (h : DataW.trod enc Tryz.prog w base (fun _ => true) held n 27 cs = some y) (hw : OkW Tryz.prog 27 y.1) :
 ∃ e : EvG, cs = evL e ∧ EvIn w e := by
 obtain ⟨ys, n', -, hy, hl, hyl, hf⟩ := DataW.trod_struct Tryz.underlying27 h
 have hl10 : cs.length = 10 := hl.trans (by kernel_rfl)
 have k0 : Tryz.prog.cellsOf 22 = 1 := by kernel_rfl
 have k1 : Tryz.prog.cellsOf 9 = 1 := by kernel_rfl
 have k2 : Tryz.prog.cellsOf 23 = 1 := by kernel_rfl
 have k3 : Tryz.prog.cellsOf 24 = 1 := by kernel_rfl
 have k4 : Tryz.prog.cellsOf 25 = 1 := by kernel_rfl
 match cs, hl10 with
 | [c0, c1, c2, c3, c4, c5, c6, c7, c8, c9], _ =>
  match ys, hyl with
  | [y0, y1, y2, y3, y4, y5, y6, y7, y8, y9], _ =>
   have h0 := hf 0 _ rfl
   have h1 := hf 1 _ rfl
   have h2 := hf 2 _ rfl
   have h3 := hf 3 _ rfl
   have h4 := hf 4 _ rfl
   have h5 := hf 5 _ rfl
   have h6 := hf 6 _ rfl
   have h7 := hf 7 _ rfl
   have h8 := hf 8 _ rfl
   have h9 := hf 9 _ rfl
   simp [k0] at h0
   simp [k1] at h1 h2 h3 h8 h9
   simp [k2] at h4
   simp [k3] at h5
   simp [k4] at h6 h7
   rw [hy] at hw
   obtain ⟨m0, hv0, -, hw0⟩ := DataW.trod_int Tryz.underlying22 h0
   obtain ⟨m5, hv5, -, hw5⟩ := DataW.trod_int Tryz.underlying24 h5
   obtain ⟨m6, hv6, -, hw6⟩ := DataW.trod_int Tryz.underlying25 h6
   obtain ⟨m7, hv7, -, hw7⟩ := DataW.trod_int Tryz.underlying25 h7
   simp only [List.cons.injEq, and_true] at hv0 hv5 hv6 hv7
   obtain ⟨x0, rfl, b0⟩ := zsx hw0 rfl (b := 255) rfl
   obtain ⟨x5, rfl, b5⟩ := zsx hw5 rfl (b := 18446744073709551615) rfl
   obtain ⟨x6, rfl, b6⟩ := zsx hw6 rfl (b := 4294967295) rfl
   obtain ⟨x7, rfl, b7⟩ := zsx hw7 rfl (b := 4294967295) rfl
   have wf := fun {j : Nat} {f : Field} {d : DataW H} (hj) (hd) => hw.field Tryz.underlying27 (j := j) (f := f) (d := d) hj hd
   obtain ⟨s1, rfl, g1⟩ := zsy Tryz.underlying9 h1 (wf (j := 1) rfl (by simp))
   obtain ⟨s2, rfl, g2⟩ := zsy Tryz.underlying9 h2 (wf (j := 2) rfl (by simp))
   obtain ⟨s3, rfl, g3⟩ := zsy Tryz.underlying9 h3 (wf (j := 3) rfl (by simp))
   obtain ⟨a, cap, L, rfl, hN⟩ := zsz h4 (wf (j := 4) rfl (by simp))
   obtain ⟨s8, rfl, g8⟩ := zsy Tryz.underlying9 h8 (wf (j := 8) rfl (by simp))
   obtain ⟨s9, rfl, g9⟩ := zsy Tryz.underlying9 h9 (wf (j := 9) rfl (by simp))
   exact ⟨⟨x0, s1, s2, s3, a, cap, L, x5, x6, x7, s8, s9⟩, by rw [hv0, hv5, hv6, hv7], ⟨show x0 ≤ 255 by omega, show x5 ≤ 18446744073709551615 by omega, show x6 ≤ 4294967295 by omega, show x7 ≤ 4294967295 by omega, g1, g2, g3, g8, g9, hN⟩⟩
set_option maxRecDepth 100000 in
/-- the argument, opened -/
theorem open_event {r : Reach} {b0 : Nat} {v : Value} {d : DataW H} {p : List MemPlace} (hv : Value.okWide Tryz.prog w r b0 27 v) (h : DataW.Trod enc Tryz.prog w 0 (fun _ => true) true 27 v d p) (hw : OkW Tryz.prog 27 d) :
 ∃ e : EvG, v = evV e ∧ EvIn w e := by
 obtain ⟨cs, rfl, hsz⟩ := okWide_struct Tryz.underlying27 hv
 obtain ⟨fuel, hf⟩ := h
 obtain ⟨e, he, hE⟩ := zta (by simpa [Value.cells] using hf) hw
 exact ⟨e, by congr 1; exact Array.toList_inj.1 (by simpa using he), hE⟩
end
end EvA
end
section
open Go.RowKit
namespace AppC
section
variable {P : Program} (w : World)
theorem ztb (base : Nat) (t ty e : TypeId) (i : TypeInfo) (size : Nat) (ht : P.underlying t = some (.slice e)) (hi : P.info? e = some i)
 (v : Value) (n c : Nat) (xs : List Value) (hown : w.ownsRow base e size v n xs) :
 (Builtin.append_ #[t, t] ty #[v, .slice none 0 c]).run P w = .ok v w := by
 rcases hown.2 with ⟨rfl, rfl⟩ | ⟨g, cap, cur, rfl, _, _, hnc, _⟩
 · simp [Builtin.append_, run_underlying ht, sizeOf, typeInfo, hi, Builtin.lenOf, Builtin.firstCells]
 · simp [Builtin.append_, run_underlying ht, sizeOf, typeInfo, hi, Builtin.lenOf, Builtin.firstCells, hnc, storeCells]
theorem ztc {ops : Array Oper} {rest : List Oper} {o : Oper} {a : Act} {Q : Exit → Act → World → Prop} (hgd : o.guard = none) (s x : Operand) (t : TypeId)
 (ho : o.op = .call { callee := .builtin .append, args := #[s, x], argTypes := #[t, t] })
 (base : Nat) (e : TypeId) (i : TypeInfo) (z : Value) (size bytes : Nat) (ht : P.underlying t = some (.slice e)) (hi : P.info? e = some i) (hz : i.zero = some z)
 (hsize : i.size = size) (hby : i.bytes = bytes) (hzs : z.cells.size = size) (hsz : 0 < size)
 (v : Value) (n : Nat) (xs : List Value) (hs : a.eval s = v) (hown : w.ownsRow base e size v n xs)
 (ax : Option Addr) (m c : Nat) (news : List Value) (hx : a.eval x = .slice ax m c) (hnil : ax = none → m = 0) (hl : news.length = m * size) (hnews : ∀ ad, ax = some ad → ∀ j u, news[j]? = some u → w.cell? (ad.add j) = some u) (h1 : ∀ u ∈ news, u.oneCell' = true)
 (h63 : n + m ≤ maxLen) (hbytes : (n + m) * bytes ≤ 140737488355328) (hbase : base ≤ w.heap.size)
 (h : ∀ v' w', w'.ownsRow base e size v' (n + m) (xs ++ news) → w.grownBy w' v.ownBlock → wpList P ops Q rest (a.put o.dst v') w') : wpList P ops Q (o :: rest) a w := by
 cases ax with
 | some ad => exact wpList_append_own w hgd s x t ho base e i z size bytes ht hi hz hsize hby hzs hsz v n xs hs hown ad m c news hx hl (hnews ad rfl) h1 h63 hbytes hbase fun v' w' g1 g2 _ => h v' w' g1 g2
 | none =>
  obtain rfl := hnil rfl
  obtain rfl : news = [] := List.eq_nil_of_length_eq_zero (by simpa using hl)
  refine wpList_plain hgd fun K hK => ?_
  have hrun := ztb (P := P) w base t o.type e i size ht hi v n c xs hown
  unfold Oper.wp
  simp [execOp, ho, resolve, invoke, builtin, hs, hx, hrun, Result.andThen]
  exact hK _ _ (h v w (by simpa using hown) ⟨rfl, rfl, rfl, Nat.le_refl _, fun _ _ _ => rfl⟩)
end
theorem step_append_own {P : Program} {w : World} {ops : Array Oper} {o : Oper} {a : Act} {K : Act → World → Prop} {Q : Exit → Act → World → Prop} {E : Prop} (hgd : o.guard = none) (s x : Operand) (t : TypeId)
 (ho : o.op = .call { callee := .builtin .append, args := #[s, x], argTypes := #[t, t] })
 (base : Nat) (e : TypeId) (i : TypeInfo) (z : Value) (size bytes : Nat) (ht : P.underlying t = some (.slice e)) (hi : P.info? e = some i) (hz : i.zero = some z)
 (hsize : i.size = size) (hby : i.bytes = bytes) (hzs : z.cells.size = size) (hsz : 0 < size)
 (v : Value) (n : Nat) (xs : List Value) (hs : a.eval s = v) (hown : w.ownsRow base e size v n xs)
 (ad : Addr) (m c : Nat) (news : List Value) (hx : a.eval x = .slice (some ad) m c) (hl : news.length = m * size) (hnews : ∀ j u, news[j]? = some u → w.cell? (ad.add j) = some u) (h1 : ∀ u ∈ news, u.oneCell' = true)
 (h63 : n + m ≤ maxLen) (hbytes : (n + m) * bytes ≤ 140737488355328) (hbase : base ≤ w.heap.size)
 (h : ∀ v' w', w'.ownsRow base e size v' (n + m) (xs ++ news) → w.grownBy w' v.ownBlock → K (a.put o.dst v') w') :
 if Region.wanted o (yielded ops a.tmps) = true then Oper.wp P o a w K Q else E := by
 have hw : Region.wanted o (yielded ops a.tmps) = true := by simp [Region.wanted, hgd]
 rw [if_pos hw]
 obtain ⟨v', w', hr, h2, h3, _⟩ := run_append_own (P := P) w base t o.type e i z size bytes ht hi hz hsize hby hzs hsz v n xs hown ad m c news hl hnews h1 h63 hbytes hbase
 unfold Oper.wp execOp
 simp only [ho, resolve, invoke, builtin, Sem.run_bind, Sem.run_pure, Result.andThen_ok, List.map_toArray, List.map_cons, List.map_nil, hs, hx, hr]
 exact h v' w' h2 h3
end AppC
end
end Go.Proofs.YtbiplmbcdhjiaaaGreatDoor
