/-
  The document's own answers for layer 7: the text of a version, a text cut at each sign: one contract a function.
  The document's own answers for layer 7: Text, Read, Is, Cmp, Order, Same: one contract a function.
-/
import Derived.Test.YtnkednjklfpblaaGreatDoorVerMem
import Derived.Test.YtnkednjklfpblaaGreatDoorTextWide
import Derived.Laws.CopyOwn
import Derived.Deep.RegionHeld
namespace Go.Proofs.YtnkednjklfpblaaGreatDoor
open Go.RowKit
namespace VerC
open VerM StrC TextR
set_option linter.unusedSimpArgs false

theorem str_extract (l : List UInt8) (a b : Nat) : (str l).extract a b = str ((l.take b).drop a) := by
  apply ByteArray.ext
  simp [str, List.extract_eq_take_drop, List.drop_take]
theorem sl_mid (l : List UInt8) (x y : Int) (a b : Nat) (hx : x = a) (hy : y = b) (h1 : a ≤ b) (h2 : b ≤ l.length) (w : World) :
    (Instr.slice 9 (.string (str l)) (some (.int .i64 x)) (some (.int .i64 y)) none).run Tryz.prog w = .ok (.string (str ((l.take b).drop a))) w := by
  subst hx; subst hy
  rw [run_slice_string w 9 (str l) .i64 .i64 _ _ Tryz.underlying9 (by omega) (by omega) (by rw [str_size]; omega), Int.toNat_natCast, Int.toNat_natCast, str_extract]
theorem sl_from (l : List UInt8) (x : Int) (a : Nat) (hx : x = a) (h1 : a ≤ l.length) (w : World) :
    (Instr.slice 9 (.string (str l)) (some (.int .i64 x)) none none).run Tryz.prog w = .ok (.string (str (l.drop a))) w := by
  subst hx
  rw [run_slice_string_l w 9 (str l) Tryz.underlying9 .i64 _ (by omega) (by rw [str_size]; omega), Int.toNat_natCast, str_extract, str_size, List.take_of_length_le (Nat.le_refl _)]
theorem sl_to (l : List UInt8) (x : Int) (a : Nat) (hx : x = a) (h1 : a ≤ l.length) (w : World) :
    (Instr.slice 9 (.string (str l)) none (some (.int .i64 x)) none).run Tryz.prog w = .ok (.string (str (l.take a))) w := by
  subst hx
  rw [run_slice_string_h w 9 (str l) Tryz.underlying9 .i64 _ (by omega) (by rw [str_size]; omega), Int.toNat_natCast, str_extract]; rfl
theorem below_own {w w' : World} {B : Nat} {v : Value} {L : List ByteArray} (h : OwnT w B v L) (hb : Below w.heap.size w w') : OwnT w' B v L :=
  World.ownsRow.kept h (row := none) ⟨hb.os, hb.tape, hb.output, hb.size, fun k hk _ => hb.block k hk⟩ (by cases v.ownBlock <;> simp)
theorem own_lt {w : World} {B : Nat} {v : Value} {L : List ByteArray} (h : OwnT w B v L) : ∀ k, v.ownBlock = some k → B ≤ k := fun k hk => (World.ownsRow.lt h k hk).1
theorem snoc_str {w : World} {K n : Nat} {v : Value} {ms : TL} {m : B} (h : w.ownsRow K 9 1 v (n + 1) ((ms.map str).map Value.string ++ [Value.string (str m)])) (hn : n = (ms.map str).length) : OwnT w K v ((ms ++ [m]).map str) := by
  rw [List.map_append, List.map_singleton]
  exact snoc h hn
/-- texts of a call's own, as memory holds them -/
theorem own_txs {w : World} {K : Nat} {v : Value} {p : TL} (h : OwnT w K v (p.map str)) (hs : ∀ s ∈ p, s.length ≤ 9223372036854775807) (hf : p.length ≤ 281474976710656) : ∃ a cap, v = .slice a p.length cap ∧ Txs w a cap p := by
  have hn : (p.map str).length = p.length := List.length_map ..
  obtain ⟨a, cp, e, hc⟩ := h.open_
  rw [hn] at e
  refine ⟨a, cp, e, ?_, hs, hf, fun h0 => ?_⟩
  · rcases h.2 with ⟨e1, e2⟩ | ⟨g, cap, cur, e1, hb, hg, hle, rest⟩
    · rw [hn] at e2; omega
    · rw [hn] at e1 hle
      rw [e1] at e
      injection e with _ _ e3
      omega
  · obtain ⟨g, ea, _, _, hcell⟩ := hc (by omega)
    refine ⟨g, 0, ea, fun i hi => ?_⟩
    rw [Nat.zero_add, hcell i (by omega)]
    simp [hi]

/-! ### the text of a version -/
theorem preL_succ (p : TL) (k : Nat) (h : k < p.length) : preL (p.take (k + 1)) = (preL (p.take k) ++ (if k = 0 then [45] else [46])) ++ p.getD k [] := by
  match p, h with
  | x :: r, h =>
    cases k with
    | zero => simp [preL, Lib.join, List.intercalate]
    | succ k =>
      have hk : k < r.length := by simpa using h
      rw [List.take_succ_cons, List.take_succ_cons]
      show 45 :: Lib.join (x :: r.take (k + 1)) [46] = (45 :: Lib.join (x :: r.take k) [46] ++ _) ++ _
      rw [Lib.join_cons, Lib.join_cons, Lib.joinTail_take_succ [46] r k (r.getD k []) (by rw [List.getD_eq_getElem?_getD, List.getElem?_eq_getElem hk]; rfl)]
      simp
theorem preL_len (p : TL) (n : Nat) (h : ∀ s ∈ p, s.length ≤ n) : ∀ k, k ≤ p.length → (preL (p.take k)).length ≤ (n + 1) * k
  | 0, _ => by simp [preL]
  | k + 1, hk => by
    have ih := preL_len p n h k (by omega)
    rw [preL_succ p k (by omega)]
    have : (p.getD k []).length ≤ n := by rw [List.getD_eq_getElem?_getD, List.getElem?_eq_getElem (by omega)]; exact h _ (List.getElem_mem (by omega))
    rw [Nat.mul_succ]
    split <;> simp at * <;> omega
theorem may_parts {v : Ver} (h : may v = true) : v.a ≤ mx ∧ v.b ≤ mx ∧ v.c ≤ mx ∧ v.pre.length ≤ 8 ∧ ∀ s ∈ v.pre, ident s = true := by
  unfold may at h
  simp only [Bool.and_eq_true, decide_eq_true_eq] at h
  exact ⟨h.1.1.1.1, h.1.1.1.2, h.1.1.2, h.1.2, fun s hs => List.all_eq_true.1 h.2 s hs⟩
theorem ident_size {s : B} (h : ident s = true) : 1 ≤ s.length ∧ s.length ≤ 16 := by
  unfold ident at h
  simp only [Bool.and_eq_true, decide_eq_true_eq] at h
  exact ⟨h.1.1.1, h.1.1.2⟩
theorem dec_size {n : Nat} (h : n ≤ mx) : (Lib.decDigits n).length ≤ 10 := dec_len 9 n (by unfold mx at h; omega)
theorem text_size {v : Ver} (h : may v = true) : (text v).length ≤ 200 := by
  obtain ⟨h1, h2, h3, h4, h5⟩ := may_parts h
  have e1 := dec_size h1
  have e2 := dec_size h2
  have e3 := dec_size h3
  have e4 := preL_len v.pre 16 (fun s hs => (ident_size (h5 s hs)).2) v.pre.length (Nat.le_refl _)
  rw [List.take_length] at e4
  unfold text
  simp
  omega
theorem wrap_u64 (n : Nat) (h : n ≤ 2147483647) : IntKind.u64.wrap (n : Int) = n := by simp [IntKind.wrap, IntKind.bits, IntKind.signed]; omega
/-! ### cut at each sign -/
theorem cut_on {l : B} {k q : Nat} (hq : q ≤ k) (hk : k < l.length) : (l.take (k + 1)).drop q = (l.take k).drop q ++ [l.getD k 0] := by
  rw [List.take_add_one, List.getElem?_eq_getElem hk, List.drop_append_of_le_length (by rw [List.length_take]; omega)]
  simp [hk]
theorem cut_hit {l : B} {d : UInt8} {k q : Nat} (hq : q ≤ k) (hk : k < l.length) (hc : l.getD k 0 = d) (hn : ∀ c ∈ (l.take k).drop q, c ≠ d) : pieces d (l.drop q) = (l.take k).drop q :: pieces d (l.drop (k + 1)) := by
  have e : l.drop q = (l.take k).drop q ++ d :: l.drop (k + 1) := by
    have h0 : l = l.take k ++ l.drop k := (List.take_append_drop k l).symm
    have h1 : l.drop k = d :: l.drop (k + 1) := by rw [List.drop_eq_getElem_cons hk, ← hc]; simp [hk]
    conv => lhs; rw [h0, h1]
    rw [List.drop_append_of_le_length (by rw [List.length_take]; omega)]
  rw [e, pieces_hit _ hn]
theorem cut_end {l : B} {d : UInt8} {q : Nat} (hn : ∀ c ∈ (l.take l.length).drop q, c ≠ d) : pieces d (l.drop q) = [(l.take l.length).drop q] := by
  rw [List.take_length] at *
  exact pieces_none hn
structure CutI (l : B) (d : UInt8) (k q : Nat) (done : TL) : Prop where
  le : k ≤ l.length + 1
  few : done.length ≤ k
  on : k ≤ l.length → q ≤ k ∧ (∀ c ∈ (l.take k).drop q, c ≠ d) ∧ pieces d l = done ++ pieces d (l.drop q)
  out : k = l.length + 1 → pieces d l = done
theorem CutI.start (l : B) (d : UInt8) : CutI l d 0 0 [] := ⟨by omega, by simp, fun _ => ⟨Nat.le_refl _, by simp, by simp⟩, fun h => by omega⟩
theorem CutI.hit {l : B} {d : UInt8} {k q : Nat} {done : TL} (h : CutI l d k q done) (hk : k < l.length) (hc : l.getD k 0 = d) : CutI l d (k + 1) (k + 1) (done ++ [(l.take k).drop q]) := by
  obtain ⟨h1, h2, h3⟩ := h.on (by omega)
  have hf := h.few
  refine ⟨by omega, by simp; omega, fun _ => ⟨Nat.le_refl _, ?_, ?_⟩, fun e => by omega⟩
  · intro c hc2
    rw [List.drop_eq_nil_of_le (by rw [List.length_take]; omega)] at hc2
    simp at hc2
  · rw [h3, cut_hit h1 hk hc h2]; simp
theorem CutI.last {l : B} {d : UInt8} {q : Nat} {done : TL} (h : CutI l d l.length q done) : CutI l d (l.length + 1) (l.length + 1) (done ++ [(l.take l.length).drop q]) := by
  obtain ⟨h1, h2, h3⟩ := h.on (by omega)
  have hf := h.few
  refine ⟨by omega, by simp; omega, fun e => by omega, fun _ => ?_⟩
  rw [h3, cut_end h2]
theorem CutI.next {l : B} {d : UInt8} {k q : Nat} {done : TL} (h : CutI l d k q done) (hk : k < l.length) (hc : l.getD k 0 ≠ d) : CutI l d (k + 1) q done := by
  obtain ⟨h1, h2, h3⟩ := h.on (by omega)
  have hf := h.few
  refine ⟨by omega, by omega, fun _ => ⟨by omega, ?_, h3⟩, fun e => by omega⟩
  rw [cut_on h1 hk]
  intro c hcm
  rcases List.mem_append.1 hcm with e | e
  · exact h2 c e
  · rw [List.mem_singleton] at e; rw [e]; exact hc
end VerC
end Go.Proofs.YtnkednjklfpblaaGreatDoor
namespace Go.Proofs.YtnkednjklfpblaaGreatDoor
open Go.RowKit
namespace VerC
open VerM StrC TextR
set_option linter.unusedSimpArgs false

theorem info_ver : (Tryz.prog.info? 144).map (·.size) = some 4 := by kernel_rfl
theorem ver_one (x y z : Int) (a : Option Addr) (n cap : Nat) : (#[Value.int .u32 x, .int .u32 y, .int .u32 z, .slice a n cap].all (·.oneCell')) = true := by simp [Value.oneCell']
/-- a version as a value -/
abbrev verV (x y z : Int) (a : Option Addr) (n cap : Nat) : Value := .agg #[.int .u32 x, .int .u32 y, .int .u32 z, .slice a n cap]
/-- the cells of a version -/
abbrev verO (x y z : Int) (a : Option Addr) (n cap : Nat) : Obj := .cells #[.int .u32 x, .int .u32 y, .int .u32 z, .slice a n cap] 144
theorem ver_cells {w : World} {g : Nat} {x y z : Int} {a : Option Addr} {n cap : Nat} (h : w.heap[g]? = some (verO x y z a n cap)) :
    w.cell? ⟨g, 0, none⟩ = some (.int .u32 x) ∧ w.cell? ⟨g, 1, none⟩ = some (.int .u32 y) ∧ w.cell? ⟨g, 2, none⟩ = some (.int .u32 z) ∧ w.cell? ⟨g, 3, none⟩ = some (.slice a n cap) := by
  refine ⟨?_, ?_, ?_, ?_⟩ <;> simp [World.cell?, h]
theorem ver_no_text {w : World} {g : Nat} {x y z : Int} {a : Option Addr} {n cap : Nat} (h : w.heap[g]? = some (verO x y z a n cap)) (j : Nat) (s : ByteArray) : w.cell? ⟨g, j, none⟩ ≠ some (.string s) := by
  obtain ⟨h0, h1, h2, h3⟩ := ver_cells h
  match j with
  | 0 => rw [h0]; simp
  | 1 => rw [h1]; simp
  | 2 => rw [h2]; simp
  | 3 => rw [h3]; simp
  | j + 4 => simp [World.cell?, h]
def textE (v : Ver) : Ending := if textOk v then .returned (.tuple #[.string (str (text v)), .int .i64 0]) else .returned (.tuple #[.string (str []), .int .i64 70])
/-! ### what a text says -/
theorem results_cell_tmp {P : Program} {fn : Func} {p q : Tmp} {ty : TypeId} (h : fn.results = #[.cell p ty, .tmp q]) (tmps : Array Value) (w : World) (g : Nat) (t : TypeId) (cs : Array Value) (fr : Nat × Nat) (d : TypeDesc)
    (hp : tmps.getD p undef = .pointer (some ⟨g, 0, none⟩)) (hg : w.heap[g]? = some (.cells cs t fr))
    (hu : P.underlying ty = some d) (hd : (match d with | .struct _ | .array _ _ => true | _ => false) = true) (hi : (P.info? ty).map (·.size) = some cs.size) :
    (results fn tmps).run P w = .ok (.tuple #[.agg cs, tmps.getD q undef]) w := by
  have hp' : tmps[p]?.getD undef = .pointer (some ⟨g, 0, none⟩) := by simpa using hp
  simp [results, h, hp', asAddr, run_loadVar_row w g t ty cs fr d hg hu hd hi]
theorem setCell_row {w : World} {g : Nat} {cs : Array Value} {t : TypeId} {fr : Nat × Nat} (h : w.heap[g]? = some (.cells cs t fr)) (i : Nat) (v : Value) : (w.setCell ⟨g, i, none⟩ v).heap[g]? = some (.cells (cs.setIfInBounds i v) t fr) := by
  unfold World.setCell
  simp [Array.getElem?_modify, h]
theorem setCell_else {w : World} {g k : Nat} (i : Nat) (v : Value) (h : k ≠ g) : (w.setCell ⟨g, i, none⟩ v).heap[k]? = w.heap[k]? := Below.heap_setCell w ⟨g, i, none⟩ v k h
theorem ver_frozen {w : World} {g : Nat} {cs : Array Value} {t : TypeId} (h : w.heap[g]? = some (.cells cs t (0, 0))) (i : Nat) : w.frozen? ⟨g, i, none⟩ = false := by simp [World.frozen?, h]
/-- how Read ends -/
def ReadE (l : B) (w : World) (e : Ending) : Prop := match readB l with
  | some v => ∃ a cap, e = .returned (.tuple #[verV v.a v.b v.c a v.pre.length cap, .int .i64 0]) ∧ Txs w a cap v.pre
  | none => e = .returned (.tuple #[verV 0 0 0 none 0 0, .int .i64 70])
theorem readE_none {l : B} {w : World} (h : readB l = none) : ReadE l w (.returned (.tuple #[verV 0 0 0 none 0 0, .int .i64 70])) := by unfold ReadE; rw [h]
theorem readE_some {l : B} {w : World} {v : Ver} {a : Option Addr} {cap : Nat} (h : readB l = some v) (hT : Txs w a cap v.pre) : ReadE l w (.returned (.tuple #[verV v.a v.b v.c a v.pre.length cap, .int .i64 0])) := by unfold ReadE; rw [h]; exact ⟨a, cap, rfl, hT⟩
theorem read_long {l : B} (h : 128 < l.length) : readB l = none := by unfold readB; rw [if_neg (by omega)]
theorem read_parts {l : B} (h : l.length ≤ 128) (hp : (pieces 46 (head l)).length ≠ 3) : readB l = none := by
  unfold readB
  rw [if_pos h]
  split
  · rename_i e; rw [e] at hp; exact absurd rfl hp
  · rfl
theorem read_three {l x y z : B} (h : l.length ≤ 128) (hp : pieces 46 (head l) = [x, y, z]) : readB l = readV x y z (ids l) := by unfold readB; rw [if_pos h, hp]
theorem head_length (l : B) : (head l).length ≤ l.length := by unfold head; exact (List.takeWhile_prefix _).length_le
theorem ids_of (l : B) : (ids l = [] ∧ head l = l ∧ ∀ c ∈ l, c ≠ 45) ∨ ∃ k, k < l.length ∧ l.getD k 0 = 45 ∧ head l = l.take k ∧ ids l = pieces 46 (l.drop (k + 1)) ∧ ∀ c ∈ l.take k, c ≠ 45 := by
  rcases firstAt 45 l with h | ⟨x, r, e, hx⟩
  · exact .inl ⟨(head_none h).2, (head_none h).1, h⟩
  · subst e
    refine .inr ⟨x.length, by simp, by simp, ?_, ?_, ?_⟩
    · rw [(head_hit r hx).1]; simp
    · rw [(head_hit r hx).2, ← List.drop_drop]; simp
    · simpa using hx
theorem ids_few (l : B) : (ids l).length ≤ l.length + 1 := by
  rcases ids_of l with ⟨h, _⟩ | ⟨k, hk, _, _, h, _⟩
  · rw [h]; simp
  · rw [h]; have := pieces_length 46 (l.drop (k + 1)); rw [List.length_drop] at this; omega
theorem ids_short (l : B) : ∀ s ∈ ids l, s.length ≤ l.length := by
  rcases ids_of l with ⟨h, _⟩ | ⟨k, hk, _, _, h, _⟩
  · rw [h]; simp
  · rw [h]; intro s hs; have := pieces_mem_length 46 (l.drop (k + 1)) s hs; rw [List.length_drop] at this; omega
end VerC
end Go.Proofs.YtnkednjklfpblaaGreatDoor
