/-
  Package disk's small calls: there, fault, ready, find, room, spend.
  Package disk's ready, of two names (wip/gen/ready2.py writes this text).
  Package disk's find, room, spend.
  Package disk's add: one piece behind a file.
  Package disk's add: pieces, one by one.
  Package disk's powered: a call's raw writes, and the power that is lost in them.
-/
import Derived.Test.YtfbdhlpgklkjmaaGreatDoorDiskP
import Derived.Test.YtfbdhlpgklkjmaaGreatDoorDiskErr
import Derived.Lib.Hide
import Derived.WalkSmall
import Derived.Deep.QuietTactic
import Derived.IntWalk
import Derived.Laws.Cover3
import Derived.Deep.AppendLies
import Derived.Maps.OwnOps
import Derived.Deep.RegionHeld3
import Derived.Laws.Small
import Derived.Lib.IndexBytes
import Derived.Laws.Strings2
import Derived.Defers
import Derived.Recover
namespace Go.Proofs.YtfbdhlpgklkjmaaGreatDoor
open Go.RowKit Go.Maps
namespace DiskP
open DiskM DiskC ErrC
open Go.Lib (strCells strCells_length)

/-- package disk's disk, as its cells hold it -/
structure Dsk (B : Nat) (w : World) (b : Nat) (F : Nat → Prop) (cut : Int) (s : DS) (m : Nat) (D : DataW Unit) (vals : ByteArray → Value) : Prop where
  c0 : w.cell? ⟨b, 0, none⟩ = some (.map (some m))
  c1 : w.cell? ⟨b, 1, none⟩ = some (.int .i64 cut)
  c2 : w.cell? ⟨b, 2, none⟩ = some (.int .i64 s.count)
  c3 : w.cell? ⟨b, 3, none⟩ = some (.bool s.dead)
  free : ∀ j, w.frozen? ⟨b, j, none⟩ = false
  files : Files NoEx w B b m F s.fs D vals
  cnt : cut < 0 ∨ (s.count : Int) ≤ cut
  bw : B ≤ w.heap.size
theorem Dsk.lt {B : Nat} {w : World} {b : Nat} {F : Nat → Prop} {cut : Int} {s : DS} {m : Nat} {D : DataW Unit} {vals : ByteArray → Value} (h : Dsk B w b F cut s m D vals) : b < w.heap.size := World.block_lt_of_cell? _ _ h.c0
theorem Dsk.keeps {B : Nat} {w w' : World} {b : Nat} {F S : Nat → Prop} {cut : Int} {s : DS} {m : Nat} {D : DataW Unit} {vals : ByteArray → Value} (h : Dsk B w b F cut s m D vals) (k : Keeps S w w') (hS : ∀ i, F i → ¬ S i) (hB : ∀ i, S i → B ≤ i) : Dsk B w' b F cut s m D vals := by
  have e : w'.heap[b]? = w.heap[b]? := k.block b h.lt (hS b h.files.fb)
  have ec : ∀ j, w'.cell? ⟨b, j, none⟩ = w.cell? ⟨b, j, none⟩ := fun j => World.cell?_of_block (a := ⟨b, j, none⟩) e
  have ef : ∀ j, w'.frozen? ⟨b, j, none⟩ = w.frozen? ⟨b, j, none⟩ := fun j => World.frozen?_of_block (a := ⟨b, j, none⟩) e
  exact ⟨by rw [ec]; exact h.c0, by rw [ec]; exact h.c1, by rw [ec]; exact h.c2, by rw [ec]; exact h.c3, fun j => by rw [ef]; exact h.free j, h.files.keeps k hS hB, h.cnt, Nat.le_trans h.bw k.size⟩
theorem Dsk.below {B : Nat} {w w' : World} {b : Nat} {F : Nat → Prop} {cut : Int} {s : DS} {m : Nat} {D : DataW Unit} {vals : ByteArray → Value} (h : Dsk B w b F cut s m D vals) (hb : Below w.heap.size w w') : Dsk B w' b F cut s m D vals :=
  h.keeps (S := fun _ => False) (Keeps.of_below hb) (fun _ _ e => e) (fun _ e => e.elim)

set_option maxRecDepth 100000 in
theorem there_any (b m : Nat) (w : World) (h : w.cell? ⟨b, 0, none⟩ = some (.map (some m))) :
    Calls Tryz.prog 17 #[.pointer (some ⟨b, 0, none⟩)] w fun e w' => e = .returned (.bool true) ∧ w = w' := by
  have hmn : ∀ w : World, (binOp .neq 55 (.map (some m)) (.map none)).run Tryz.prog w = .ok (.bool true) w := fun w => run_neq_map_nil w 55 9 45 (some m) Tryz.underlying55
  go_enter Tryz.func17, Tryz.ntmps17
  go_wp2_with fail
  go_ret
  exact ⟨rfl, rfl⟩
def faultW (c : Nat) (t : ByteArray) (w : World) : World := w.alloc (.cells #[.int .i64 c, .string t, .int .i64 (-1), .nilIface] 86)
theorem fault_any (c : Nat) (t : ByteArray) (w : World) :
    Calls Tryz.prog 18 #[.int .i64 c, .string t] w fun e w' => e = .returned (.iface 84 (.pointer (some ⟨w.heap.size, 0, none⟩))) ∧ faultW c t w = w' := by
  unfold faultW
  go_enter Tryz.func18, Tryz.ntmps18
  go_wp2_with fail
  go_ret
  exact ⟨rfl, rfl⟩
theorem fault_is (c : Nat) (t : ByteArray) (w : World) : IsFault (faultW c t w) w.heap.size 0 c t (-1) := by
  unfold faultW
  refine ⟨?_, ?_, ?_, ?_⟩ <;> (rw [World.cell?_alloc_at _ _ _ _ rfl]; rfl)
theorem fault_below (c : Nat) (t : ByteArray) (w : World) : Below w.heap.size w (faultW c t w) := (Below.refl _ _).alloc (Nat.le_refl _) _
/-- a call that hands back a fault or none, and writes nothing that was there -/
def ErrE (w : World) (c : Nat) (t : ByteArray) (e : Ending) (w' : World) : Prop := ∃ ev, e = .returned ev ∧ DErr w w' ev c t ∧ Below w.heap.size w w'
theorem errE_none (w : World) (t : ByteArray) : ErrE w 0 t (.returned .nilIface) w := ⟨_, rfl, Or.inl ⟨rfl, rfl⟩, Below.refl _ _⟩
theorem fault_derr (c : Nat) (hc : c ≠ 0) (t : ByteArray) (w : World) : DErr w (faultW c t w) (.iface 84 (.pointer (some ⟨w.heap.size, 0, none⟩))) c t := Or.inr ⟨hc, _, rfl, Nat.le_refl _, fault_is c t w⟩
theorem DErr.from {w0 w w' : World} {ev : Value} {c : Nat} {t : ByteArray} (h : DErr w w' ev c t) (hs : w0.heap.size ≤ w.heap.size) : DErr w0 w' ev c t := by
  rcases h with h | ⟨h0, f, hv, hf, hF⟩
  · exact Or.inl h
  · exact Or.inr ⟨h0, f, hv, Nat.le_trans hs hf, hF⟩
theorem no_name {n : ByteArray} (h : n.size = 0) : n.toList.isEmpty = true := by rw [size0 h, ByteArray.toList_eq]; rfl
theorem a_name {n : ByteArray} (h : 1 ≤ n.size) : n.toList.isEmpty = false := by
  rw [ByteArray.toList_eq]
  have hl : n.data.toList.length = n.size := Array.length_toList
  cases e : n.data.toList with
  | nil => rw [e] at hl; simp at hl; omega
  | cons x r => rfl
theorem may_cases (n : ByteArray) : (mayB n = false ∧ n.size = 0) ∨ (mayB n = false ∧ 1 ≤ n.size ∧ 128 < n.size) ∨ (mayB n = true ∧ 1 ≤ n.size ∧ n.size ≤ 128) := by
  unfold mayB
  by_cases h1 : 1 ≤ n.size
  · by_cases h2 : n.size ≤ 128
    · exact Or.inr (Or.inr ⟨by simp [h1, h2], h1, h2⟩)
    · exact Or.inr (Or.inl ⟨by simp [h2], h1, by omega⟩)
  · exact Or.inl ⟨by simp [h1], by omega⟩
theorem mayB_le {n : ByteArray} (h : mayB n = true) : n.size ≤ 128 := by
  rcases may_cases n with ⟨e, -⟩ | ⟨e, -⟩ | ⟨-, -, e⟩
  · rw [h] at e; cases e
  · rw [h] at e; cases e
  · exact e
section
variable {P : Program} (w : World)
/-- a whole row behind a row of one's own, at an operation: what is appended may be nil -/
theorem wpList_append_row {ops : Array Oper} {rest : List Oper} {o : Oper} {a : Act} {Q : Exit → Act → World → Prop} (hgd : o.guard = none) (s x : Operand) (t : TypeId)
    (ho : o.op = .call { callee := .builtin .append, args := #[s, x], argTypes := #[t, t] })
    (base : Nat) (e : TypeId) (i : TypeInfo) (z : Value) (size bytes : Nat) (ht : P.underlying t = some (.slice e)) (hi : P.info? e = some i) (hz : i.zero = some z)
    (hsize : i.size = size) (hby : i.bytes = bytes) (hzs : z.cells.size = size) (hsz : 0 < size)
    (v : Value) (n : Nat) (xs : List Value) (hs : a.eval s = v) (hown : w.ownsRow base e size v n xs)
    (src : Value) (m : Nat) (news : List Value) (hx : a.eval x = src) (hsrc : (src = .slice none 0 0 ∧ m = 0) ∨ ∃ ad c, src = .slice (some ad) m c ∧ ∀ j u, news[j]? = some u → w.cell? (ad.add j) = some u)
    (hl : news.length = m * size) (h1 : ∀ u ∈ news, u.oneCell' = true) (h63 : n + m ≤ maxLen) (hbytes : (n + m) * bytes ≤ 140737488355328) (hbase : base ≤ w.heap.size)
    (h : ∀ ao cap w', w'.ownsRow base e size (.slice ao (n + m) cap) (n + m) (xs ++ news) → w.grownBy w' v.ownBlock → wpList P ops Q rest (a.put o.dst (.slice ao (n + m) cap)) w') : wpList P ops Q (o :: rest) a w := by
  refine wpList_plain hgd fun K hK => ?_
  have key : ∃ v' w', (Builtin.append_ #[t, t] o.type #[v, src]).run P w = .ok v' w' ∧ w'.ownsRow base e size v' (n + m) (xs ++ news) ∧ w.grownBy w' v.ownBlock := by
    rcases hsrc with ⟨rfl, rfl⟩ | ⟨ad, c, rfl, hnews⟩
    · have hn0 : news = [] := List.eq_nil_of_length_eq_zero (by omega)
      refine ⟨v, w, run_append_owned_none (P := P) (w := w) base t o.type e i size ht hi v n xs hown, ?_, ⟨rfl, rfl, rfl, Nat.le_refl _, fun _ _ _ => rfl⟩⟩
      rw [hn0, List.append_nil]; exact hown
    · obtain ⟨v', w', hr, h2, h3, _, _⟩ := run_append_own_at (P := P) w base t o.type e i z size bytes ht hi hz hsize hby hzs hsz v n xs hown ad m c news hl hnews h1 h63 hbytes hbase
      exact ⟨v', w', hr, h2, h3⟩
  obtain ⟨v', w', hr, h2, h3⟩ := key
  obtain ⟨ao, cap, rfl⟩ : ∃ ao cap, v' = .slice ao (n + m) cap := by
    rcases h2.2 with ⟨rfl, h0⟩ | ⟨g, cap, cur, rfl, -⟩
    · exact ⟨none, 0, by rw [h0]⟩
    · exact ⟨_, _, rfl⟩
  unfold Oper.wp execOp
  simp only [ho, resolve, invoke, builtin, Sem.run_bind, Sem.run_pure, Result.andThen_ok, List.map_toArray, List.map_cons, List.map_nil, hs, hx, hr]
  exact hK _ _ (h ao cap w' h2 h3)
end
theorem one_row (w : World) (name : ByteArray) : (w.alloc (.cells #[.string name] 9)).ownsRow 0 9 1 (.slice (some ⟨w.heap.size, 0, none⟩) 1 1) 1 [.string name] :=
  ⟨rfl, .inr ⟨w.heap.size, 1, _, rfl, Nat.zero_le _, heap_alloc_new w _, Nat.le_refl _, by unfold maxLen; omega, rfl, rfl⟩⟩
def readyC (name : ByteArray) (dead : Bool) : Nat := if mayB name = false then 2 else if dead = true then 5 else 0
theorem readyC_cases (name : ByteArray) (dead : Bool) : (readyC name dead = 2 ∧ name.size = 0) ∨ (readyC name dead = 2 ∧ 1 ≤ name.size ∧ 128 < name.size) ∨ (readyC name dead = 5 ∧ dead = true ∧ 1 ≤ name.size ∧ name.size ≤ 128) ∨ (readyC name dead = 0 ∧ dead = false ∧ 1 ≤ name.size ∧ name.size ≤ 128) := by
  unfold readyC
  rcases may_cases name with ⟨h, h2⟩ | ⟨h, h2⟩ | ⟨h, h2⟩
  · exact Or.inl ⟨by simp [h], h2⟩
  · exact Or.inr (Or.inl ⟨by simp [h], h2⟩)
  · cases dead
    · exact Or.inr (Or.inr (Or.inr ⟨by simp [h], rfl, h2⟩))
    · exact Or.inr (Or.inr (Or.inl ⟨by simp [h], rfl, h2⟩))
set_option maxRecDepth 100000 in
set_option maxHeartbeats 1000000 in
theorem ready1 (b m : Nat) (dead : Bool) (name : ByteArray) (w : World) (h0 : w.cell? ⟨b, 0, none⟩ = some (.map (some m))) (h3 : w.cell? ⟨b, 3, none⟩ = some (.bool dead)) :
    Calls Tryz.prog 62 #[.pointer (some ⟨b, 0, none⟩), .string name, .slice none 0 0] w (ErrE w (readyC name dead) name) := by
  have hlt : b < w.heap.size := World.block_lt_of_cell? _ _ h0
  obtain ⟨i0, hi, hz0, hz1, hz2⟩ := info_parts TextR.info_text
  have hmade : Hid ((w.alloc (.cells #[.string name] 9)).ownsRow 0 9 1 (.slice (some ⟨w.heap.size, 0, none⟩) 1 1) 1 [.string name]) := Lib.hid (one_row w name)
  have hc : (w.alloc (.cells #[.string name] 9)).cell? ⟨w.heap.size, 0, none⟩ = some (.string name) := by rw [World.cell?_alloc_at _ _ _ _ rfl]; rfl
  have d3 : (w.alloc (.cells #[.string name] 9)).cell? ⟨b, 3, none⟩ = some (.bool dead) := (World.cell?_alloc_lt w _ ⟨b, 3, none⟩ hlt).trans h3
  have hb1 : Below w.heap.size w (w.alloc (.cells #[.string name] 9)) := (Below.refl _ _).alloc (Nat.le_refl _) _
  have HB1 := Lib.hid hb1; clear hb1
  have happ : ∀ ty : TypeId, (Builtin.append_ #[22, 22] ty #[.slice (some ⟨w.heap.size, 0, none⟩) 1 1, .slice none 0 0]).run Tryz.prog (w.alloc (.cells #[.string name] 9)) = .ok (.slice (some ⟨w.heap.size, 0, none⟩) 1 1) (w.alloc (.cells #[.string name] 9)) :=
    fun ty => run_append_owned_none (P := Tryz.prog) (w := w.alloc (.cells #[.string name] 9)) 0 22 ty 9 i0 1 Tryz.underlying22 hi _ 1 _ hmade.out
  clear hmade hi hz0 hz1 hz2 h3
  generalize hw1 : w.alloc (.cells #[.string name] 9) = w1 at *
  have fin : ∀ c : Nat, c ≠ 0 → ErrE w c name (.returned (.iface 84 (.pointer (some ⟨w1.heap.size, 0, none⟩)))) (faultW c name w1) := fun c hc0 =>
    ⟨_, rfl, DErr.from (fault_derr c hc0 name w1) HB1.out.size, HB1.out.trans ((fault_below c name w1).mono HB1.out.size)⟩
  have HFIN := Lib.hid fin; clear fin
  rcases readyC_cases name dead with ⟨hr, hs⟩ | ⟨hr, hs1, hs2⟩ | ⟨hr, rfl, hs1, hs2⟩ | ⟨hr, rfl, hs1, hs2⟩
  · rw [hr]
    have he := no_name hs
    clear hr hs
    go_enter Tryz.func62, Tryz.ntmps62
    go_wp2_with fail
    refine (there_any b m w h0).mono ?_
    rintro e w' ⟨rfl, rfl⟩
    go_wp2_with fail
    refine wp_loop_rounds 1 ?_; rw [rounds_succ]; go_wp2_with fail
    refine (fault_any 2 name _).mono ?_
    rintro e w' ⟨rfl, rfl⟩
    go_wp2_with fail
    go_ret
    exact HFIN.out 2 (by decide)
  · rw [hr]
    have he := a_name hs1
    have hd : decide ((128 : Int) < (name.size : Int)) = true := by simp; omega
    clear hr hs1 hs2
    go_enter Tryz.func62, Tryz.ntmps62
    go_wp2_with fail
    refine (there_any b m w h0).mono ?_
    rintro e w' ⟨rfl, rfl⟩
    go_wp2_with fail
    refine wp_loop_rounds 1 ?_; rw [rounds_succ]; go_wp2_with fail
    refine (fault_any 2 name _).mono ?_
    rintro e w' ⟨rfl, rfl⟩
    go_wp2_with fail
    go_ret
    exact HFIN.out 2 (by decide)
  · rw [hr]
    have he := a_name hs1
    have hd : decide ((128 : Int) < (name.size : Int)) = false := by simp; omega
    clear hr hs1 hs2
    go_enter Tryz.func62, Tryz.ntmps62
    go_wp2_with fail
    refine (there_any b m w h0).mono ?_
    rintro e w' ⟨rfl, rfl⟩
    go_wp2_with fail
    refine wp_loop_rounds 2 ?_; rw [rounds_succ]; go_wp2_with fail
    rw [rounds_succ]; go_wp2_with fail
    refine (fault_any 5 name _).mono ?_
    rintro e w' ⟨rfl, rfl⟩
    go_wp2_with fail
    go_ret
    exact HFIN.out 5 (by decide)
  · rw [hr]
    have he := a_name hs1
    have hd : decide ((128 : Int) < (name.size : Int)) = false := by simp; omega
    clear hr hs1 hs2
    go_enter Tryz.func62, Tryz.ntmps62
    go_wp2_with fail
    refine (there_any b m w h0).mono ?_
    rintro e w' ⟨rfl, rfl⟩
    go_wp2_with fail
    refine wp_loop_rounds 2 ?_; rw [rounds_succ]; go_wp2_with fail
    rw [rounds_succ]; go_wp2_with fail
    go_ret
    exact ⟨_, rfl, Or.inl ⟨rfl, rfl⟩, HB1.out⟩
end DiskP
end Go.Proofs.YtfbdhlpgklkjmaaGreatDoor
namespace Go.Proofs.YtfbdhlpgklkjmaaGreatDoor
open Go.RowKit Go.Maps
namespace DiskP
open DiskM DiskC ErrC

def readyC2 (src dst : ByteArray) (dead : Bool) : Nat × ByteArray := if mayB src = false then (2, src) else if mayB dst = false then (2, dst) else if dead = true then (5, src) else (0, src)
theorem two_cells {w : World} {ao : Option Addr} {cap : Nat} {a b : ByteArray} (h : w.ownsRow 0 9 1 (.slice ao (1 + 1) cap) (1 + 1) ([.string a] ++ [.string b])) : ∃ g, ao = some ⟨g, 0, none⟩ ∧ w.cell? ⟨g, 0, none⟩ = some (.string a) ∧ w.cell? ⟨g, 1, none⟩ = some (.string b) := by
  obtain ⟨g, c, e, -, hlt⟩ := h.form (by omega)
  cases e
  have hc := World.ownsRow.cells h (g := g) rfl
  refine ⟨g, rfl, ?_, ?_⟩
  · have := hc 0 (.string a) rfl; rwa [plain_add] at this
  · have := hc 1 (.string b) rfl; rwa [plain_add] at this
theorem one_text (s : ByteArray) : ∀ u ∈ [Value.string s], u.oneCell' = true := TextR.one_text s
set_option maxRecDepth 100000 in
set_option maxHeartbeats 8000000 in
theorem ready2 (b m q : Nat) (dead : Bool) (src dst : ByteArray) (w : World) (h0 : w.cell? ⟨b, 0, none⟩ = some (.map (some m))) (h3 : w.cell? ⟨b, 3, none⟩ = some (.bool dead)) (hq : w.cell? ⟨q, 0, none⟩ = some (.string dst)) :
    Calls Tryz.prog 62 #[.pointer (some ⟨b, 0, none⟩), .string src, .slice (some ⟨q, 0, none⟩) 1 1] w (ErrE w (readyC2 src dst dead).1 (readyC2 src dst dead).2) := by
  have hlt : b < w.heap.size := World.block_lt_of_cell? _ _ h0
  have hlq : q < w.heap.size := World.block_lt_of_cell? _ _ hq
  obtain ⟨i0, hi, hz0, hz1, hz2⟩ := info_parts TextR.info_text
  have hmade : Hid ((w.alloc (.cells #[.string src] 9)).ownsRow 0 9 1 (.slice (some ⟨w.heap.size, 0, none⟩) 1 1) 1 [.string src]) := Lib.hid (one_row w src)
  have c3 : (w.alloc (.cells #[.string src] 9)).cell? ⟨b, 3, none⟩ = some (.bool dead) := (World.cell?_alloc_lt w _ ⟨b, 3, none⟩ hlt).trans h3
  have cq : (w.alloc (.cells #[.string src] 9)).cell? ⟨q, 0, none⟩ = some (.string dst) := (World.cell?_alloc_lt w _ ⟨q, 0, none⟩ hlq).trans hq
  have hsrc : Hid ((Value.slice (some ⟨q, 0, none⟩) 1 1 = .slice none 0 0 ∧ 1 = 0) ∨ ∃ ad c, Value.slice (some ⟨q, 0, none⟩) 1 1 = .slice (some ad) 1 c ∧ ∀ j u, [Value.string dst][j]? = some u → (w.alloc (.cells #[.string src] 9)).cell? (ad.add j) = some u) := by
    refine Lib.hid (Or.inr ⟨_, _, rfl, fun j u hu => ?_⟩)
    match j with
    | 0 => rw [plain_add]; rw [← hu]; exact cq
    | j + 1 => simp at hu
  have hone : Hid (∀ u ∈ [Value.string dst], u.oneCell' = true) := Lib.hid (one_text dst)
  have s3 : Hid (1 + 1 ≤ maxLen) := Lib.hid (by unfold maxLen; omega)
  have s4 : Hid ((1 + 1) * 16 ≤ 140737488355328) := Lib.hid (by omega)
  have hb1 : Below w.heap.size w (w.alloc (.cells #[.string src] 9)) := (Below.refl _ _).alloc (Nat.le_refl _) _
  have HB1 := Lib.hid hb1; clear hb1 cq hq h3
  have hsz1 : (w.alloc (.cells #[.string src] 9)).heap.size = w.heap.size + 1 := by simp
  have HS1 := Lib.hid hsz1; clear hsz1
  have C3 := Lib.hid c3; clear c3
  generalize hw1 : w.alloc (.cells #[.string src] 9) = w1 at *
  have hgen : ∀ (ao : Option Addr) (cap : Nat) (w2 : World), w2.ownsRow 0 9 1 (.slice ao (1 + 1) cap) (1 + 1) ([.string src] ++ [.string dst]) → w1.grownBy w2 (Value.slice (some ⟨w.heap.size, 0, none⟩) 1 1).ownBlock →
      ∃ g, ao = some ⟨g, 0, none⟩ ∧ w2.cell? ⟨g, 0, none⟩ = some (.string src) ∧ w2.cell? ⟨g, 1, none⟩ = some (.string dst) ∧ w2.cell? ⟨b, 3, none⟩ = some (.bool dead) ∧ Below w.heap.size w w2 := by
    intro ao cap w2 hown hgrow
    obtain ⟨g, e, k0, k1⟩ := two_cells hown
    refine ⟨g, e, k0, k1, ?_, ?_⟩
    · exact (World.cell?_of_block (a := ⟨b, 3, none⟩) (hgrow.block b (Nat.lt_of_lt_of_le hlt HB1.out.size) (by simp [Value.ownBlock]; omega))).trans C3.out
    · exact HB1.out.trans ⟨hgrow.os, hgrow.tape, hgrow.output, hgrow.size, fun k hk => hgrow.block k (by have := HB1.out.size; omega) (by simp [Value.ownBlock]; omega)⟩
  have HGEN := Lib.hid hgen; clear hgen
  have fin : ∀ (w2 : World) (c : Nat) (t : ByteArray), c ≠ 0 → Below w.heap.size w w2 → ErrE w c t (.returned (.iface 84 (.pointer (some ⟨w2.heap.size, 0, none⟩)))) (faultW c t w2) := fun w2 c t hc0 hb =>
    ⟨_, rfl, DErr.from (fault_derr c hc0 t w2) hb.size, hb.trans ((fault_below c t w2).mono hb.size)⟩
  have HFIN := Lib.hid fin; clear fin
  rcases may_cases src with ⟨hm_src, hs_src⟩ | ⟨hm_src, hs_src⟩ | ⟨hm_src, hs_src⟩
  · rw [show readyC2 src dst dead = (2, src) by simp [readyC2, hm_src]]
    clear hm_src
    have e_src := no_name hs_src
    clear hs_src
    go_enter Tryz.func62, Tryz.ntmps62
    go_wp2_with fail
    refine (there_any b m w h0).mono ?_
    rintro e w' ⟨rfl, rfl⟩
    go_wp2_with (at_builtin; refine wpList_append_row _ rfl (.tmp 15) (.tmp 16) 22 rfl 0 9 i0 (.string ⟨#[]⟩) 1 16 Tryz.underlying22 hi hz0 hz1 hz2 rfl (by decide) _ 1 [.string src] rfl hmade.out _ 1 [.string dst] rfl hsrc.out rfl hone.out s3.out s4.out (Nat.zero_le _) ?_; intro ao cap w2 hown hgrow; obtain ⟨g2, rfl, k0, k1, d3, hb2⟩ := HGEN.out ao cap w2 hown hgrow; have HB2 := Lib.hid hb2; clear hown hgrow hb2)
    refine wp_loop_rounds 1 ?_
    rw [rounds_succ]; go_wp2_with fail
    refine (fault_any 2 src _).mono ?_
    rintro e w' ⟨rfl, rfl⟩
    go_wp2_with fail
    go_ret
    exact HFIN.out _ 2 src (by decide) HB2.out
  · rw [show readyC2 src dst dead = (2, src) by simp [readyC2, hm_src]]
    clear hm_src
    have e_src := a_name hs_src.1
    have d_src : decide ((128 : Int) < (src.size : Int)) = true := by have := hs_src.2; simp; omega
    clear hs_src
    go_enter Tryz.func62, Tryz.ntmps62
    go_wp2_with fail
    refine (there_any b m w h0).mono ?_
    rintro e w' ⟨rfl, rfl⟩
    go_wp2_with (at_builtin; refine wpList_append_row _ rfl (.tmp 15) (.tmp 16) 22 rfl 0 9 i0 (.string ⟨#[]⟩) 1 16 Tryz.underlying22 hi hz0 hz1 hz2 rfl (by decide) _ 1 [.string src] rfl hmade.out _ 1 [.string dst] rfl hsrc.out rfl hone.out s3.out s4.out (Nat.zero_le _) ?_; intro ao cap w2 hown hgrow; obtain ⟨g2, rfl, k0, k1, d3, hb2⟩ := HGEN.out ao cap w2 hown hgrow; have HB2 := Lib.hid hb2; clear hown hgrow hb2)
    refine wp_loop_rounds 1 ?_
    rw [rounds_succ]; go_wp2_with fail
    refine (fault_any 2 src _).mono ?_
    rintro e w' ⟨rfl, rfl⟩
    go_wp2_with fail
    go_ret
    exact HFIN.out _ 2 src (by decide) HB2.out
  rcases may_cases dst with ⟨hm_dst, hs_dst⟩ | ⟨hm_dst, hs_dst⟩ | ⟨hm_dst, hs_dst⟩
  · rw [show readyC2 src dst dead = (2, dst) by simp [readyC2, hm_src, hm_dst]]
    clear hm_src hm_dst
    have e_src := a_name hs_src.1
    have d_src : decide ((128 : Int) < (src.size : Int)) = false := by have := hs_src.2; simp; omega
    clear hs_src
    have e_dst := no_name hs_dst
    clear hs_dst
    go_enter Tryz.func62, Tryz.ntmps62
    go_wp2_with fail
    refine (there_any b m w h0).mono ?_
    rintro e w' ⟨rfl, rfl⟩
    go_wp2_with (at_builtin; refine wpList_append_row _ rfl (.tmp 15) (.tmp 16) 22 rfl 0 9 i0 (.string ⟨#[]⟩) 1 16 Tryz.underlying22 hi hz0 hz1 hz2 rfl (by decide) _ 1 [.string src] rfl hmade.out _ 1 [.string dst] rfl hsrc.out rfl hone.out s3.out s4.out (Nat.zero_le _) ?_; intro ao cap w2 hown hgrow; obtain ⟨g2, rfl, k0, k1, d3, hb2⟩ := HGEN.out ao cap w2 hown hgrow; have HB2 := Lib.hid hb2; clear hown hgrow hb2)
    refine wp_loop_rounds 2 ?_
    rw [rounds_succ]; go_wp2_with fail
    rw [rounds_succ]; go_wp2_with fail
    refine (fault_any 2 dst _).mono ?_
    rintro e w' ⟨rfl, rfl⟩
    go_wp2_with fail
    go_ret
    exact HFIN.out _ 2 dst (by decide) HB2.out
  · rw [show readyC2 src dst dead = (2, dst) by simp [readyC2, hm_src, hm_dst]]
    clear hm_src hm_dst
    have e_src := a_name hs_src.1
    have d_src : decide ((128 : Int) < (src.size : Int)) = false := by have := hs_src.2; simp; omega
    clear hs_src
    have e_dst := a_name hs_dst.1
    have d_dst : decide ((128 : Int) < (dst.size : Int)) = true := by have := hs_dst.2; simp; omega
    clear hs_dst
    go_enter Tryz.func62, Tryz.ntmps62
    go_wp2_with fail
    refine (there_any b m w h0).mono ?_
    rintro e w' ⟨rfl, rfl⟩
    go_wp2_with (at_builtin; refine wpList_append_row _ rfl (.tmp 15) (.tmp 16) 22 rfl 0 9 i0 (.string ⟨#[]⟩) 1 16 Tryz.underlying22 hi hz0 hz1 hz2 rfl (by decide) _ 1 [.string src] rfl hmade.out _ 1 [.string dst] rfl hsrc.out rfl hone.out s3.out s4.out (Nat.zero_le _) ?_; intro ao cap w2 hown hgrow; obtain ⟨g2, rfl, k0, k1, d3, hb2⟩ := HGEN.out ao cap w2 hown hgrow; have HB2 := Lib.hid hb2; clear hown hgrow hb2)
    refine wp_loop_rounds 2 ?_
    rw [rounds_succ]; go_wp2_with fail
    rw [rounds_succ]; go_wp2_with fail
    refine (fault_any 2 dst _).mono ?_
    rintro e w' ⟨rfl, rfl⟩
    go_wp2_with fail
    go_ret
    exact HFIN.out _ 2 dst (by decide) HB2.out
  cases dead
  · rw [show readyC2 src dst false = (0, src) by simp [readyC2, hm_src, hm_dst]]
    clear hm_src hm_dst
    have e_src := a_name hs_src.1
    have d_src : decide ((128 : Int) < (src.size : Int)) = false := by have := hs_src.2; simp; omega
    clear hs_src
    have e_dst := a_name hs_dst.1
    have d_dst : decide ((128 : Int) < (dst.size : Int)) = false := by have := hs_dst.2; simp; omega
    clear hs_dst
    go_enter Tryz.func62, Tryz.ntmps62
    go_wp2_with fail
    refine (there_any b m w h0).mono ?_
    rintro e w' ⟨rfl, rfl⟩
    go_wp2_with (at_builtin; refine wpList_append_row _ rfl (.tmp 15) (.tmp 16) 22 rfl 0 9 i0 (.string ⟨#[]⟩) 1 16 Tryz.underlying22 hi hz0 hz1 hz2 rfl (by decide) _ 1 [.string src] rfl hmade.out _ 1 [.string dst] rfl hsrc.out rfl hone.out s3.out s4.out (Nat.zero_le _) ?_; intro ao cap w2 hown hgrow; obtain ⟨g2, rfl, k0, k1, d3, hb2⟩ := HGEN.out ao cap w2 hown hgrow; have HB2 := Lib.hid hb2; clear hown hgrow hb2)
    refine wp_loop_rounds 3 ?_
    rw [rounds_succ]; go_wp2_with fail
    rw [rounds_succ]; go_wp2_with fail
    rw [rounds_succ]; go_wp2_with fail
    go_ret
    exact ⟨_, rfl, Or.inl ⟨rfl, rfl⟩, HB2.out⟩
  · rw [show readyC2 src dst true = (5, src) by simp [readyC2, hm_src, hm_dst]]
    clear hm_src hm_dst
    have e_src := a_name hs_src.1
    have d_src : decide ((128 : Int) < (src.size : Int)) = false := by have := hs_src.2; simp; omega
    clear hs_src
    have e_dst := a_name hs_dst.1
    have d_dst : decide ((128 : Int) < (dst.size : Int)) = false := by have := hs_dst.2; simp; omega
    clear hs_dst
    go_enter Tryz.func62, Tryz.ntmps62
    go_wp2_with fail
    refine (there_any b m w h0).mono ?_
    rintro e w' ⟨rfl, rfl⟩
    go_wp2_with (at_builtin; refine wpList_append_row _ rfl (.tmp 15) (.tmp 16) 22 rfl 0 9 i0 (.string ⟨#[]⟩) 1 16 Tryz.underlying22 hi hz0 hz1 hz2 rfl (by decide) _ 1 [.string src] rfl hmade.out _ 1 [.string dst] rfl hsrc.out rfl hone.out s3.out s4.out (Nat.zero_le _) ?_; intro ao cap w2 hown hgrow; obtain ⟨g2, rfl, k0, k1, d3, hb2⟩ := HGEN.out ao cap w2 hown hgrow; have HB2 := Lib.hid hb2; clear hown hgrow hb2)
    refine wp_loop_rounds 3 ?_
    rw [rounds_succ]; go_wp2_with fail
    rw [rounds_succ]; go_wp2_with fail
    rw [rounds_succ]; go_wp2_with fail
    refine (fault_any 5 src _).mono ?_
    rintro e w' ⟨rfl, rfl⟩
    go_wp2_with fail
    go_ret
    exact HFIN.out _ 5 src (by decide) HB2.out
end DiskP
end Go.Proofs.YtfbdhlpgklkjmaaGreatDoor
namespace Go.Proofs.YtfbdhlpgklkjmaaGreatDoor
open Go.RowKit Go.Maps
namespace DiskP
open DiskM DiskC ErrC

theorem zeroB (w : World) : (zeroValue 45).run Tryz.prog w = .ok (.slice none 0 0) w := by kernel_rfl
theorem eR_nil : eR (.slice none 0 0) = some (.nil, []) := rfl
/-- a slice and a fault, or none -/
def FindE (w : World) (v : Value) (c : Nat) (t : ByteArray) (e : Ending) (w' : World) : Prop := ∃ ev, e = .returned (.tuple #[v, ev]) ∧ DErr w w' ev c t ∧ Below w.heap.size w w'
def findC (c : Nat) (t : ByteArray) (name : ByteArray) (fs : FL) : Nat × ByteArray := if c ≠ 0 then (c, t) else if hasF name fs = false then (6, name) else (0, name)
set_option maxRecDepth 100000 in
set_option maxHeartbeats 4000000 in
theorem find_of {B b m : Nat} {F : Nat → Prop} {cut : Int} {s : DS} {D : DataW Unit} {vals : ByteArray → Value} {w : World} (h : Dsk B w b F cut s m D vals) (name t : ByteArray) (others : Value) (c : Nat) (hn : c = 0 → name.size ≤ 128)
    (hr : Calls Tryz.prog 62 #[.pointer (some ⟨b, 0, none⟩), .string name, others] w (ErrE w c t)) :
    Calls Tryz.prog 38 #[.pointer (some ⟨b, 0, none⟩), .string name, others] w (FindE w (if (findC c t name s.fs).1 = 0 then vals name else .slice none 0 0) (findC c t name s.fs).1 (findC c t name s.fs).2) := by
  have HR := Lib.hid hr; clear hr
  have HD := Lib.hid h; clear h
  by_cases hc : c = 0
  · subst hc
    have hkey := Lib.hid (keyOfN (hn rfl))
    clear hn
    cases hh : hasF name s.fs with
    | false =>
      rw [show findC 0 t name s.fs = (6, name) by simp [findC, hh]]
      have HH := Lib.hid hh; clear hh
      go_enter Tryz.func38, Tryz.ntmps38
      go_wp2_with fail
      refine HR.out.mono ?_
      rintro e w1 ⟨ev, rfl, he, hb⟩
      obtain ⟨-, rfl⟩ : 0 = 0 ∧ ev = .nilIface := by
        rcases he with he | ⟨h0, -⟩
        · exact he
        · exact absurd rfl h0
      have HD1 := Lib.hid (HD.out.below hb)
      have k0 := HD1.out.c0
      have HB1 := Lib.hid hb; clear he hb
      go_wp2_with (at_lookup; refine wpList_lookup_own_ok _ rfl _ _ 55 rfl 9 45 keyed Tryz.underlying55 eR (zeroB _) .nil [] eR_nil m s.fs.length D rfl HD1.out.files.map _ _ rfl hkey.out ?_; intro v ps hv; rw [HD1.out.files.dom, HH.out]; have HV := Lib.hid hv; clear hv)
      refine (fault_any 6 name _).mono ?_
      rintro e w' ⟨rfl, rfl⟩
      go_wp2_with fail
      go_ret2
      exact ⟨_, rfl, DErr.from (fault_derr 6 (by decide) name w1) HB1.out.size, HB1.out.trans ((fault_below 6 name w1).mono HB1.out.size)⟩
    | true =>
      rw [show findC 0 t name s.fs = (0, name) by simp [findC, hh]]
      have HH := Lib.hid hh; clear hh
      go_enter Tryz.func38, Tryz.ntmps38
      go_wp2_with fail
      refine HR.out.mono ?_
      rintro e w1 ⟨ev, rfl, he, hb⟩
      obtain ⟨-, rfl⟩ : 0 = 0 ∧ ev = .nilIface := by
        rcases he with he | ⟨h0, -⟩
        · exact he
        · exact absurd rfl h0
      have HD1 := Lib.hid (HD.out.below hb)
      have k0 := HD1.out.c0
      have HB1 := Lib.hid hb; clear he hb
      go_wp2_with (at_lookup; refine wpList_lookup_own_ok _ rfl _ _ 55 rfl 9 45 keyed Tryz.underlying55 eR (zeroB _) .nil [] eR_nil m s.fs.length D rfl HD1.out.files.map _ _ rfl hkey.out ?_; intro v ps hv; rw [HD1.out.files.dom, HH.out]; have HV := Lib.hid hv; clear hv)
      go_ret2
      exact ⟨_, by rw [HD1.out.files.look (fun e => e) HV.out]; rfl, Or.inl ⟨rfl, rfl⟩, HB1.out⟩
  · rw [show findC c t name s.fs = (c, t) by simp [findC, hc]]
    have hc2 : ¬ ((c, t).1 = 0) := hc
    rw [if_neg hc2]
    have HC := Lib.hid hc; clear hc hc2 hn
    go_enter Tryz.func38, Tryz.ntmps38
    go_wp2_with fail
    refine HR.out.mono ?_
    rintro e w1 ⟨ev, rfl, he, hb⟩
    have hev : ∃ f, ev = .iface 84 (.pointer (some ⟨f, 0, none⟩)) := by
      rcases he with ⟨h0, -⟩ | ⟨-, f, rfl, -⟩
      · exact absurd h0 HC.out
      · exact ⟨f, rfl⟩
    obtain ⟨f, rfl⟩ := hev
    have HE := Lib.hid he
    have HB1 := Lib.hid hb; clear he hb
    go_wp2_with fail
    go_ret2
    exact ⟨_, rfl, HE.out, HB1.out⟩
def roomC (name : ByteArray) (stay more : Nat) (fs : FL) : Nat := if 16777216 < stay + more ∨ (hasF name fs = false ∧ 65536 ≤ fs.length) then 4 else 0
set_option maxRecDepth 100000 in
set_option maxHeartbeats 4000000 in
theorem room_any {B b m : Nat} {F : Nat → Prop} {cut : Int} {s : DS} {D : DataW Unit} {vals : ByteArray → Value} {w : World} (h : Dsk B w b F cut s m D vals) (name : ByteArray) (stay more : Nat) (hn : name.size ≤ 128) (hs : stay ≤ 16777216) :
    Calls Tryz.prog 66 #[.pointer (some ⟨b, 0, none⟩), .string name, .int .i64 stay, .int .i64 more] w (ErrE w (roomC name stay more s.fs) name) := by
  have hkey := Lib.hid (keyOfN hn); clear hn
  have k0 := h.c0
  have hlen : ∀ ty : TypeId, (Builtin.len_ #[55] ty #[.map (some m)]).run Tryz.prog w = .ok (.int .i64 s.fs.length) w := fun ty => by
    have := h.files.map.len Tryz.underlying55 ty
    rw [h.files.size] at this
    exact this
  have HD := Lib.hid h; clear h
  have hw : IntKind.i64.wrap (16777216 - (stay : Int)) = 16777216 - (stay : Int) := IntWalk.i64_in _ ⟨by omega, by omega⟩
  have fin : ErrE w 4 name (.returned (.iface 84 (.pointer (some ⟨w.heap.size, 0, none⟩)))) (faultW 4 name w) := ⟨_, rfl, fault_derr 4 (by decide) name w, fault_below 4 name w⟩
  have HFIN := Lib.hid fin; clear fin
  by_cases h1 : 16777216 < stay + more
  · have hd : decide (16777216 - (stay : Int) < (more : Int)) = true := by simp; omega
    rw [show roomC name stay more s.fs = 4 by simp [roomC, h1]]
    clear h1 hs
    go_enter Tryz.func66, Tryz.ntmps66
    go_wp2_with (at_lookup; refine wpList_lookup_own_ok _ rfl _ _ 55 rfl 9 45 keyed Tryz.underlying55 eR (zeroB _) .nil [] eR_nil m s.fs.length D rfl HD.out.files.map _ _ rfl hkey.out ?_; intro v ps hv; rw [HD.out.files.dom]; clear hv)
    refine (fault_any 4 name _).mono ?_
    rintro e w' ⟨rfl, rfl⟩
    go_wp2_with fail
    go_ret
    exact HFIN.out
  · have hd : decide (16777216 - (stay : Int) < (more : Int)) = false := by simp; omega
    cases hh : hasF name s.fs with
    | true =>
      rw [show roomC name stay more s.fs = 0 by simp [roomC, h1, hh]]
      have HH := Lib.hid hh; clear hh h1 hs
      go_enter Tryz.func66, Tryz.ntmps66
      go_wp2_with (at_lookup; refine wpList_lookup_own_ok _ rfl _ _ 55 rfl 9 45 keyed Tryz.underlying55 eR (zeroB _) .nil [] eR_nil m s.fs.length D rfl HD.out.files.map _ _ rfl hkey.out ?_; intro v ps hv; rw [HD.out.files.dom, HH.out]; clear hv)
      go_ret
      exact errE_none w name
    | false =>
      by_cases h2 : 65536 ≤ s.fs.length
      · rw [show roomC name stay more s.fs = 4 by simp [roomC, h1, hh, h2]]
        have hd2 : decide ((65536 : Int) ≤ (s.fs.length : Int)) = true := by simp; omega
        have HH := Lib.hid hh; clear hh h1 hs h2
        go_enter Tryz.func66, Tryz.ntmps66
        go_wp2_with (at_lookup; refine wpList_lookup_own_ok _ rfl _ _ 55 rfl 9 45 keyed Tryz.underlying55 eR (zeroB _) .nil [] eR_nil m s.fs.length D rfl HD.out.files.map _ _ rfl hkey.out ?_; intro v ps hv; rw [HD.out.files.dom, HH.out]; clear hv)
        refine (fault_any 4 name _).mono ?_
        rintro e w' ⟨rfl, rfl⟩
        go_wp2_with fail
        go_ret
        exact HFIN.out
      · rw [show roomC name stay more s.fs = 0 by simp [roomC, h1, hh, h2]]
        have hd2 : decide ((65536 : Int) ≤ (s.fs.length : Int)) = false := by simp; omega
        have HH := Lib.hid hh; clear hh h1 hs h2
        go_enter Tryz.func66, Tryz.ntmps66
        go_wp2_with (at_lookup; refine wpList_lookup_own_ok _ rfl _ _ 55 rfl 9 45 keyed Tryz.underlying55 eR (zeroB _) .nil [] eR_nil m s.fs.length D rfl HD.out.files.map _ _ rfl hkey.out ?_; intro v ps hv; rw [HD.out.files.dom, HH.out]; clear hv)
        go_ret
        exact errE_none w name

/-! ### one raw write -/
theorem Dsk.setStruct {B : Nat} {w : World} {b : Nat} {F : Nat → Prop} {cut : Int} {s : DS} {m : Nat} {D : DataW Unit} {vals : ByteArray → Value} (h : Dsk B w b F cut s m D vals) (j : Nat) (u : Value) : Files NoEx (w.setCell ⟨b, j, none⟩ u) B b m F s.fs D vals :=
  h.files.turn (S := (· = b)) ((Keeps.refl _ _).setb _ _) (fun e => h.files.bm e.symm) (fun n g _ hg e => ((h.files.file n (fun e => e)).blk g hg).1 e) (fun _ e => e) (fun _ e => e) (fun i hi => by simpa using h.files.lt i hi)
theorem Dsk.setCut {B : Nat} {w : World} {b : Nat} {F : Nat → Prop} {cut : Int} {s : DS} {m : Nat} {D : DataW Unit} {vals : ByteArray → Value} (h : Dsk B w b F cut s m D vals) (c : Int) (hc : c < 0 ∨ (s.count : Int) ≤ c) : Dsk B (w.setCell ⟨b, 1, none⟩ (.int .i64 c)) b F c s m D vals :=
  ⟨by rw [cell_ne (by decide)]; exact h.c0, World.cell?_setCell_same _ _ _ h.c1, by rw [cell_ne (by decide)]; exact h.c2, by rw [cell_ne (by decide)]; exact h.c3, fun j => by simpa using h.free j, h.setStruct _ _, hc, by simpa using h.bw⟩
theorem Dsk.setCount {B : Nat} {w : World} {b : Nat} {F : Nat → Prop} {cut : Int} {s : DS} {m : Nat} {D : DataW Unit} {vals : ByteArray → Value} (h : Dsk B w b F cut s m D vals) (c : Nat) (hc : cut < 0 ∨ (c : Int) ≤ cut) : Dsk B (w.setCell ⟨b, 2, none⟩ (.int .i64 c)) b F cut ⟨s.fs, c, s.dead⟩ m D vals :=
  ⟨by rw [cell_ne (by decide)]; exact h.c0, by rw [cell_ne (by decide)]; exact h.c1, World.cell?_setCell_same _ _ _ h.c2, by rw [cell_ne (by decide)]; exact h.c3, fun j => by simpa using h.free j, h.setStruct _ _, hc, by simpa using h.bw⟩
theorem Dsk.setDead {B : Nat} {w : World} {b : Nat} {F : Nat → Prop} {cut : Int} {s : DS} {m : Nat} {D : DataW Unit} {vals : ByteArray → Value} (h : Dsk B w b F cut s m D vals) (d : Bool) : Dsk B (w.setCell ⟨b, 3, none⟩ (.bool d)) b F cut ⟨s.fs, s.count, d⟩ m D vals :=
  ⟨by rw [cell_ne (by decide)]; exact h.c0, by rw [cell_ne (by decide)]; exact h.c1, by rw [cell_ne (by decide)]; exact h.c2, World.cell?_setCell_same _ _ _ h.c3, fun j => by simpa using h.free j, h.setStruct _ _, h.cnt, by simpa using h.bw⟩
theorem Dsk.drewN {B : Nat} {w : World} {b : Nat} {F : Nat → Prop} {cut : Int} {s : DS} {m : Nat} {D : DataW Unit} {vals : ByteArray → Value} (h : Dsk B w b F cut s m D vals) (q : Nat) : Dsk B (w.drewN q) b F cut s m D vals :=
  h.keeps (S := fun _ => False) ((Keeps.refl _ w).drewN q) (fun _ _ e => e) (fun _ e => e.elim)
/-- what comes up where a raw write is not done -/
def LOST : List PanicEntry := [{ v := .iface 113 (.agg #[]), recovered := false }]
set_option maxRecDepth 100000 in
set_option maxHeartbeats 1000000 in
theorem spend_yes {B b m : Nat} {F : Nat → Prop} {cut : Int} {s : DS} {D : DataW Unit} {vals : ByteArray → Value} {w : World} (h : Dsk B w b F cut s m D vals) (hr : rawB cut s.count s.dead = true) (hc : s.count ≤ 4611686018427387904) :
    Calls Tryz.prog 41 #[.pointer (some ⟨b, 0, none⟩)] w fun e w' => e = .returned (.tuple #[]) ∧ Dsk B w' b F cut ⟨s.fs, s.count + 1, s.dead⟩ m D vals ∧ Keeps (· = b) w w' := by
  have hne : ¬ (0 ≤ cut ∧ cut ≤ s.count) := by unfold rawB at hr; simp at hr; omega
  have hcnt := h.cnt
  have k1 := h.c1
  have k2 := h.c2
  have kf := h.free 2
  have HD := Lib.hid h; clear h hr
  have hd : ((s.count : Int) == cut) = false := by rw [beq_eq_false_iff_ne]; omega
  have hadd : IntKind.i64.wrap ((s.count : Int) + 1) = (s.count : Int) + 1 := IntWalk.i64_in _ ⟨by omega, by omega⟩
  have HN : Hid (cut < 0 ∨ ((s.count + 1 : Nat) : Int) ≤ cut) := Lib.hid (by omega)
  clear hne hcnt hc
  go_enter Tryz.func41, Tryz.ntmps41
  go_wp2_with fail
  go_quiet (fail)
  go_wp2_with fail
  go_end0
  exact ⟨rfl, (HD.out.drewN _).setCount (s.count + 1) HN.out, ((Keeps.refl _ _).drewN _).setb _ _⟩
set_option maxRecDepth 100000 in
set_option maxHeartbeats 1000000 in
theorem spend_no {B b m : Nat} {F : Nat → Prop} {cut : Int} {s : DS} {D : DataW Unit} {vals : ByteArray → Value} {w : World} (h : Dsk B w b F cut s m D vals) (hr : rawB cut s.count s.dead = false) (hd0 : s.dead = false) :
    Calls Tryz.prog 41 #[.pointer (some ⟨b, 0, none⟩)] w fun e w' => e = .panicked LOST ∧ Dsk B w' b F cut ⟨s.fs, s.count, true⟩ m D vals ∧ Keeps (· = b) w w' := by
  have hne : 0 ≤ cut ∧ cut ≤ s.count := by unfold rawB at hr; rw [hd0] at hr; simpa using hr
  have hcnt := h.cnt
  have k1 := h.c1
  have k2 := h.c2
  have k3 := h.c3
  have kf := h.free 3
  have HD := Lib.hid h; clear h hr hd0
  have hd : ((s.count : Int) == cut) = true := by rw [beq_iff_eq]; omega
  clear hne hcnt
  unfold LOST
  go_enter Tryz.func41, Tryz.ntmps41
  go_wp2_with fail
  go_quiet (fail)
  go_wp2_with fail
  exact ⟨rfl, rfl, (HD.out.drewN _).setDead true, ((Keeps.refl _ _).drewN _).setb _ _⟩
end DiskP
end Go.Proofs.YtfbdhlpgklkjmaaGreatDoor
namespace Go.Proofs.YtfbdhlpgklkjmaaGreatDoor
open Go.RowKit Go.Maps
namespace DiskP
open DiskM DiskC ErrC
open Go.Lib (strCells strCells_length)

/-- what an append of a text to a file's slice leaves -/
def AppE (w : World) (v : Value) (x s : ByteArray) (v' : Value) (w' : World) : Prop := Byt w' v' (x ++ s) ∧
  ((v' = v ∧ w' = w ∧ s.size = 0) ∨ (¬ Full v ∧ v'.ownBlock = v.ownBlock ∧ Own w' v' (x ++ s) ∧ w.grownBy w' v.ownBlock ∧ w'.heap.size = w.heap.size) ∨ (v'.ownBlock = some w.heap.size ∧ Own w' v' (x ++ s) ∧ w.grownBy w' none ∧ w'.heap.size = w.heap.size + 1))
theorem step_app {w : World} {ops : Array Oper} {o : Oper} {a : Act} {K : Act → World → Prop} {Q : Exit → Act → World → Prop} {E : Prop} (hgd : o.guard = none) (sl sx : Operand)
    (ho : o.op = .call { callee := .builtin .append, args := #[sl, sx], argTypes := #[45, 9] }) (v : Value) (hs : a.eval sl = v) (s : ByteArray) (hx : a.eval sx = .string s) (x : ByteArray)
    (hb : Byt w v x) (hr : Full v ∨ Own w v x) (hz : x.size + s.size ≤ 1099511627776) (h : ∀ v' w', AppE w v x s v' w' → K (a.put o.dst v') w') :
    if Region.wanted o (yielded ops a.tmps) = true then Oper.wp Tryz.prog o a w K Q else E := by
  have hw : Region.wanted o (yielded ops a.tmps) = true := by simp [Region.wanted, hgd]
  rw [if_pos hw]
  obtain ⟨v', w', hrun, h2⟩ := run_app w o.type v x s hb hr hz
  unfold Oper.wp execOp
  simp only [ho, resolve, invoke, builtin, Sem.run_bind, Sem.run_pure, Result.andThen_ok, List.map_toArray, List.map_cons, List.map_nil, hs, hx, hrun]
  exact h v' w' h2
theorem Dsk.row {B : Nat} {w : World} {b : Nat} {F : Nat → Prop} {cut : Int} {s : DS} {m : Nat} {D : DataW Unit} {vals : ByteArray → Value} (h : Dsk B w b F cut s m D vals) (name : ByteArray) : Byt w (vals name) (bytesF name s.fs) ∧ (Full (vals name) ∨ Own w (vals name) (bytesF name s.fs)) :=
  ⟨(h.files.file name (fun e => e)).byt, (h.files.file name (fun e => e)).room.imp id And.left⟩
/-- a store into the map, of a file's new slice -/
theorem Dsk.store {B : Nat} {w w1 : World} {b : Nat} {F : Nat → Prop} {cut : Int} {s : DS} {m : Nat} {D : DataW Unit} {vals : ByteArray → Value} {v' : Value} {name x : ByteArray} (h : Dsk B w b F cut s m D vals) (F' : Nat → Prop) (hn : name.size ≤ 128) (hlen : s.fs.length < maxLen)
    (hf : Files (· = name) w1 B b m F' s.fs D vals) (hcb : w1.heap[b]? = w.heap[b]?) (hsz : w.heap.size ≤ w1.heap.size) (hb : Byt w1 v' x) (hblk : ∀ g, v'.ownBlock = some g → g ≠ b ∧ g ≠ m ∧ (F' g ∨ g < B))
    (hroom : Full v' ∨ (Own w1 v' x ∧ ∀ g, v'.ownBlock = some g → F' g ∧ ∀ n', n' ≠ name → (vals n').ownBlock ≠ some g))
    (hoth : ∀ n g, n ≠ name → ¬ Full (vals n) → (vals n).ownBlock = some g → v'.ownBlock ≠ some g) :
    ∃ w2 D' vals', (Instr.mapUpdate 55 (.map (some m)) (.string name) v').run Tryz.prog w1 = .ok () w2 ∧ Dsk B w2 b F' cut ⟨layF name x s.fs, s.count, s.dead⟩ m D' vals' ∧ w1.grownBy w2 (some m) := by
  obtain ⟨w2, hrun, hm, hg⟩ := hf.map.update keyed Tryz.underlying55 hlen (keyOfN hn) (eR_ok hb.ok)
  have hbm := h.files.bm
  have hblt : b < w1.heap.size := hf.lt b hf.fb
  have e : w2.heap[b]? = w.heap[b]? := (hg.block b hblt (fun e => hbm (by simpa using e))).trans hcb
  have ec : ∀ j, w2.cell? ⟨b, j, none⟩ = w.cell? ⟨b, j, none⟩ := fun j => World.cell?_of_block (a := ⟨b, j, none⟩) e
  have ef : ∀ j, w2.frozen? ⟨b, j, none⟩ = w.frozen? ⟨b, j, none⟩ := fun j => World.frozen?_of_block (a := ⟨b, j, none⟩) e
  exact ⟨w2, _, _, hrun, ⟨by rw [ec]; exact h.c0, by rw [ec]; exact h.c1, by rw [ec]; exact h.c2, by rw [ec]; exact h.c3, fun j => by rw [ef]; exact h.free j, hf.put hm hg hb hblk hroom hoth, h.cnt, Nat.le_trans h.bw (Nat.le_trans hsz hg.size)⟩, hg⟩
/-- what a call leaves of the program's disk: S: what it may write -/
structure Went (B : Nat) (F : Nat → Prop) (b : Nat) (cut : Int) (s : DS) (w w' : World) : Prop where
  is : ∃ F' m D vals, Dsk B w' b F' cut s m D vals ∧ ∀ i, F' i → F i ∨ w.heap.size ≤ i
  keeps : Keeps F w w'
theorem Went.of {B b m : Nat} {F F1 : Nat → Prop} {cut cut' : Int} {s s' : DS} {D : DataW Unit} {vals : ByteArray → Value} {w w1 w2 : World} (_hD : Dsk B w1 b F1 cut s m D vals) (k : Keeps F w w1) (hF : ∀ i, F1 i → F i ∨ w.heap.size ≤ i) (h : Went B F1 b cut' s' w1 w2) : Went B F b cut' s' w w2 := by
  obtain ⟨F2, m2, D2, vals2, h1, h2⟩ := h.is
  refine ⟨⟨F2, m2, D2, vals2, h1, fun i hi => ?_⟩, k.then h.keeps (fun i hi hT => ?_)⟩
  · rcases h2 i hi with h3 | h3
    · exact hF i h3
    · exact Or.inr (Nat.le_trans k.size h3)
  · rcases hF i hT with h3 | h3
    · exact h3
    · omega
theorem Dsk.went {B b m : Nat} {F : Nat → Prop} {cut : Int} {s : DS} {D : DataW Unit} {vals : ByteArray → Value} {w w1 : World} (hD : Dsk B w1 b F cut s m D vals) (k : Keeps F w w1) : Went B F b cut s w w1 := ⟨⟨F, m, D, vals, hD, fun _ h => Or.inl h⟩, k⟩
/-- one piece behind a file: the append, then the store -/
theorem Dsk.app {B : Nat} {w w1 : World} {b : Nat} {F : Nat → Prop} {cut : Int} {s : DS} {m : Nat} {D : DataW Unit} {vals : ByteArray → Value} {v' : Value} {name p : ByteArray} (h : Dsk B w b F cut s m D vals) (hn : name.size ≤ 128) (hlen : s.fs.length < maxLen)
    (hap : AppE w (vals name) (bytesF name s.fs) p v' w1) :
    ∃ w2, (Instr.mapUpdate 55 (.map (some m)) (.string name) v').run Tryz.prog w1 = .ok () w2 ∧ w1.cell? ⟨b, 0, none⟩ = some (.map (some m)) ∧ w2.cell? ⟨b, 0, none⟩ = some (.map (some m)) ∧
      Went B F b cut ⟨layF name (bytesF name s.fs ++ p) s.fs, s.count, s.dead⟩ w w2 := by
  obtain ⟨hb, hc⟩ := hap
  have f := h.files.file name (fun e => e)
  rcases hc with ⟨rfl, rfl, h0⟩ | ⟨ho, e, ho', hg, hs⟩ | ⟨e, ho', hg, hs⟩
  · have hf : Files (· = name) w1 B b m F s.fs D vals := h.files.turn (S := fun _ => False) (Keeps.refl _ _) (fun e => e) (fun _ _ _ _ e => e) (fun _ e => e.elim) (fun _ e => e) h.files.lt
    have hx : bytesF name s.fs ++ p = bytesF name s.fs := by rw [size0 h0]; exact ByteArray.append_empty
    rw [hx] at hb ⊢
    obtain ⟨w2, D', vals', hrun, hD, hg⟩ := h.store F hn hlen hf rfl (Nat.le_refl _) hb f.blk (f.room) (fun n g hne hfull hg e => by
      rcases (h.files.file n (fun e => e)).room with hr | ⟨-, hr⟩
      · exact hfull hr
      · exact (hr g hg).2 name (fun e => hne e.symm) e)
    exact ⟨w2, hrun, h.c0, hD.c0, hD.went ((keeps_of_grown hg).mono (fun i hi => by cases hi; exact h.files.fm))⟩
  · -- in its own row
    obtain ⟨-, hr⟩ : Own w (vals name) (bytesF name s.fs) ∧ ∀ g, (vals name).ownBlock = some g → F g ∧ ∀ n', n' ≠ name → (vals n').ownBlock ≠ some g := by
      rcases f.room with hr | hr
      · exact absurd hr ho
      · exact hr
    have hk := keeps_of_grown hg
    have hf : Files (· = name) w1 B b m F s.fs D vals := h.files.turn hk (fun e => (f.blk m e).2.1 rfl) (fun n g hne hg' hg2 => (hr g hg2).2 n hne hg') (fun _ e => e.elim) (fun _ e => e) (fun i hi => Nat.lt_of_lt_of_le (h.files.lt i hi) hg.size)
    have hcb : w1.heap[b]? = w.heap[b]? := hg.block b h.lt (fun e => (f.blk b e.symm).1 rfl)
    obtain ⟨w2, D', vals', hrun, hD, hg2⟩ := h.store F hn hlen hf hcb hg.size hb (fun g hg' => f.blk g (e ▸ hg')) (Or.inr ⟨ho', fun g hg' => hr g (e ▸ hg')⟩) (fun n g hne hfull hgn e2 => by
      rw [e] at e2
      rcases (h.files.file n (fun e => e)).room with hr2 | ⟨-, hr2⟩
      · exact hfull hr2
      · exact (hr2 g hgn).2 name (fun e => hne e.symm) e2)
    have hkeep : Keeps F w w2 := (hk.mono (fun i hi => (hr i hi).1)).trans ((keeps_of_grown hg2).mono (fun i hi => by cases hi; exact h.files.fm))
    exact ⟨w2, hrun, (World.cell?_of_block (a := ⟨b, 0, none⟩) hcb).trans h.c0, hD.c0, hD.went hkeep⟩
  · -- in a new one
    have hk := keeps_of_grown hg
    have hnone : ∀ i, ¬ ((none : Option Nat) = some i) := fun i e => by cases e
    have hlt : ∀ i, (F i ∨ i = w.heap.size) → i < w1.heap.size := fun i hi => by
      rcases hi with hi | hi
      · exact Nat.lt_of_lt_of_le (h.files.lt i hi) hg.size
      · omega
    have hf : Files (· = name) w1 B b m (fun i => F i ∨ i = w.heap.size) s.fs D vals := h.files.turn hk (hnone m) (fun n g _ _ hg2 => hnone g hg2) (fun _ e => e.elim) (fun _ e => Or.inl e) hlt
    have hcb : w1.heap[b]? = w.heap[b]? := hg.block b h.lt (fun e => by cases e)
    have hmlt := h.files.lt m h.files.fm
    have hblt := h.lt
    have hvlt : ∀ n g, (vals n).ownBlock = some g → g < w.heap.size := fun n g hgn => (h.files.file n (fun e => e)).byt.lt g hgn
    obtain ⟨w2, D', vals', hrun, hD, hg2⟩ := h.store (fun i => F i ∨ i = w.heap.size) hn hlen hf hcb hg.size hb (fun g hg' => by
        rw [e] at hg'; cases hg'; exact ⟨by omega, by omega, Or.inl (Or.inr rfl)⟩)
      (Or.inr ⟨ho', fun g hg' => by rw [e] at hg'; cases hg'; exact ⟨Or.inr rfl, fun n' _ e2 => by have := hvlt n' _ e2; omega⟩⟩)
      (fun n g _ _ hgn e2 => by rw [e] at e2; cases e2; have := hvlt n _ hgn; omega)
    refine ⟨w2, hrun, (World.cell?_of_block (a := ⟨b, 0, none⟩) hcb).trans h.c0, hD.c0, ⟨⟨_, m, D', vals', hD, fun i hi => by rcases hi with hi | hi; exact Or.inl hi; exact Or.inr (by omega)⟩, ?_⟩⟩
    exact (hk.mono (fun i hi => absurd hi (hnone i))).trans ((keeps_of_grown hg2).mono (fun i hi => by cases hi; exact h.files.fm))
end DiskP
end Go.Proofs.YtfbdhlpgklkjmaaGreatDoor
namespace Go.Proofs.YtfbdhlpgklkjmaaGreatDoor
open Go.RowKit Go.Maps
namespace DiskP
open DiskM DiskC ErrC

theorem cut_at (x : ByteArray) (p q : Nat) (hp : p ≤ q) (hq : q ≤ x.size) (w : World) : (Instr.slice 9 (.string x) (some (.int .i64 (p : Int))) (some (.int .i64 (q : Int))) none).run Tryz.prog w = .ok (.string (x.extract p q)) w := by
  rw [run_slice_string w 9 x .i64 .i64 (p : Int) (q : Int) Tryz.underlying9 (by omega) (by omega) (by omega)]
  rfl
def AddE (B : Nat) (F : Nat → Prop) (b : Nat) (cut : Int) (r : Bool × DS) (w : World) (e : Ending) (w' : World) : Prop := e = (if r.1 then .returned (.tuple #[]) else .panicked LOST) ∧ Went B F b cut r.2 w w'
/-- where the pieces stand: p bytes are done -/
def AddAt (cut : Int) (name x : ByteArray) (R : Bool × DS) (p : Nat) (s : DS) : Prop :=
  ((p = 0 ∨ p < x.size) ∧ p ≤ x.size ∧ ∃ k, x.size < k + p ∧ addsS cut name k (x.extract p x.size) s = R) ∨ (0 < p ∧ x.size ≤ p ∧ R = (true, s))
theorem rest_rest (x : ByteArray) (p : Nat) : (x.extract p x.size).extract 32 (x.extract p x.size).size = x.extract (p + 32) x.size := by
  apply ByteArray.ext
  apply Array.toList_inj.1
  simp only [Lib.extract_to_end, List.drop_drop]
theorem rest_front (x : ByteArray) (p : Nat) (hp : p ≤ x.size) : (x.extract p x.size).extract 0 (min (x.extract p x.size).size 32) = x.extract p (min (p + 32) x.size) := by
  apply ByteArray.ext
  apply Array.toList_inj.1
  have hs : (x.extract p x.size).size = x.size - p := by simp
  rw [hs, Lib.extract_data, Lib.extract_to_end, Lib.extract_data, List.drop_zero]
  congr 1
  omega
theorem AddAt.next {cut : Int} {name x : ByteArray} {R : Bool × DS} {p : Nat} {s : DS} (h : AddAt cut name x R p s) (hp : p = 0 ∨ p < x.size) (hr : rawB cut s.count s.dead = true) : AddAt cut name x R (p + 32) ⟨layF name (bytesF name s.fs ++ x.extract p (min (p + 32) x.size)) s.fs, s.count + 1, s.dead⟩ := by
  rcases h with ⟨-, hle, k, hk, hR⟩ | ⟨h1, h2, -⟩
  · obtain ⟨k', rfl⟩ : ∃ k', k = k' + 1 := ⟨k - 1, by omega⟩
    have hs : (x.extract p x.size).size = x.size - p := by simp
    by_cases hx : (x.extract p x.size).size ≤ 32
    · rw [addsS_last hr hx, rest_front x p hle] at hR
      exact Or.inr ⟨by omega, by omega, hR.symm⟩
    · rw [addsS_more hr hx, rest_front x p hle, rest_rest x p] at hR
      exact Or.inl ⟨Or.inr (by omega), by omega, k', by omega, hR⟩
  · omega
theorem AddAt.lost {cut : Int} {name x : ByteArray} {R : Bool × DS} {p : Nat} {s : DS} (h : AddAt cut name x R p s) (hp : p = 0 ∨ p < x.size) (hr : rawB cut s.count s.dead = false) : R = (false, ⟨s.fs, s.count, true⟩) := by
  rcases h with ⟨-, hle, k, hk, hR⟩ | ⟨h1, h2, -⟩
  · obtain ⟨k', rfl⟩ : ∃ k', k = k' + 1 := ⟨k - 1, by omega⟩
    rw [addsS_no hr] at hR
    exact hR.symm
  · omega
theorem AddAt.done {cut : Int} {name x : ByteArray} {R : Bool × DS} {p : Nat} {s : DS} (h : AddAt cut name x R p s) (hp : ¬ (p = 0 ∨ p < x.size)) : R = (true, s) := by
  rcases h with ⟨h1, -⟩ | ⟨-, -, h⟩
  · exact absurd h1 hp
  · exact h
theorem AddAt.start {cut : Int} {name x : ByteArray} {s : DS} : AddAt cut name x (addsR cut name x s) 0 s := by
  refine Or.inl ⟨Or.inl rfl, Nat.zero_le _, x.size + 1, by omega, ?_⟩
  have e : x.extract 0 x.size = x := by
    apply ByteArray.ext
    apply Array.toList_inj.1
    rw [Lib.extract_to_end]; simp
  rw [e]; rfl
set_option maxHeartbeats 8000000 in
set_option maxRecDepth 100000 in
theorem add_any {B b m : Nat} {F : Nat → Prop} {cut : Int} {s0 : DS} {D : DataW Unit} {vals : ByteArray → Value} {w : World} (h : Dsk B w b F cut s0 m D vals) (name x : ByteArray) (hn : name.size ≤ 128) (hd : s0.dead = false) (hm : room name s0.fs ≤ 1048576) (hz : (bytesF name s0.fs).size + x.size ≤ 274877906944) (hc : s0.count + x.size ≤ 1099511627776) :
    Calls Tryz.prog 68 #[.pointer (some ⟨b, 0, none⟩), .string name, .string x] w (AddE B F b cut (addsR cut name x s0) w) := by
  have HST : Hid (AddAt cut name x (addsR cut name x s0) 0 s0) := Lib.hid AddAt.start
  generalize addsR cut name x s0 = R at *
  have HW : Hid (Went B F b cut s0 w w) := Lib.hid (h.went (Keeps.refl _ _)); clear h
  have HD0 := Lib.hid hd; clear hd
  have HM := Lib.hid hm; clear hm
  have hxs : x.size ≤ 274877906944 := by omega
  go_enter Tryz.func68, Tryz.ntmps68
  go_wp2_with fail
  go_loopw [6] (fun vp wr => ∃ (p : Nat) (s : DS), vp = .int .i64 p ∧ p ≤ x.size + 32 ∧ Hid (AddAt cut name x R p s) ∧ Hid (Went B F b cut s w wr) ∧ Hid (room name s.fs = room name s0.fs) ∧ Hid ((bytesF name s.fs).size ≤ (bytesF name s0.fs).size + p) ∧ Hid (s.count ≤ s0.count + p) ∧ Hid (s.dead = false)) (fun vp _ => x.size + 33 - (intOf vp).toNat)
  case atStart => exact ⟨0, s0, rfl, Nat.zero_le _, HST, HW, Lib.hid rfl, Lib.hid (by omega), Lib.hid (by omega), HD0⟩
  case round =>
    obtain ⟨p, s, rfl, hp, HA, HL, HRM, HZ, HC, HDD⟩ := hrel
    rename World => wr
    clear HST HW
    by_cases hgo : p = 0 ∨ p < x.size
    · obtain ⟨F1, m1, D1, vals1, hD1, hF1⟩ := HL.out.is
      have HK := Lib.hid HL.out.keeps
      have HF1 := Lib.hid hF1; clear hF1
      have HGO := Lib.hid hgo
      have hcnt : s.count ≤ 4611686018427387904 := by have := HC.out; omega
      have hlen : s.fs.length < maxLen := by have := len_room name s.fs; have := HRM.out; have := HM.out; unfold maxLen; omega
      have hbz : (bytesF name s.fs).size + x.size + 33 ≤ 1099511627776 := by have := HZ.out; omega
      by_cases hr : rawB cut s.count s.dead = true
      · have hwn : IntKind.i64.wrap ((p : Int) + 32) = ((p + 32 : Nat) : Int) := by rw [IntWalk.i64_in _ ⟨by omega, by omega⟩]; omega
        have HR := Lib.hid hr
        have HSP := Lib.hid (spend_yes hD1 hr hcnt)
        have HLEN := Lib.hid hlen
        have HNX := Lib.hid (HA.out.next hgo hr)
        have hq1 : p ≤ min (p + 32) x.size := by rcases hgo with h | h <;> omega
        have hsl := cut_at x p (min (p + 32) x.size) hq1 (Nat.min_le_right _ _)
        have hsz : (bytesF name s.fs).size + (x.extract p (min (p + 32) x.size)).size ≤ 1099511627776 := by rw [ByteArray.size_extract]; omega
        have HSZ := Lib.hid hsz
        have HSZ2 : Hid ((bytesF name s.fs ++ x.extract p (min (p + 32) x.size)).size ≤ (bytesF name s0.fs).size + (p + 32)) := Lib.hid (by have := HZ.out; rw [ByteArray.size_append, ByteArray.size_extract]; omega)
        have hpx : p + 32 ≤ x.size + 32 ∨ p = 0 := by rcases hgo with h | h <;> omega
        have hmin : ∀ (ts : Array TypeId) (t : TypeId) (w : World), (Builtin.min_ ts t #[.int .i64 ((p + 32 : Nat) : Int), .int .i64 (x.size : Int)]).run Tryz.prog w = .ok (.int .i64 ((min (p + 32) x.size : Nat) : Int)) w := fun ts t w => by
          rw [run_min_int2]
          congr 3
          split <;> omega
        have hadv : p + 32 ≤ x.size + 32 := by rcases hgo with h | h <;> omega
        have hmeas : x.size + 33 - (p + 32) < x.size + 33 - p := by rcases hgo with h | h <;> omega
        have HPE0 : Hid (p + 1 ≤ p + 32) := Lib.hid (by omega)
        generalize hpe : p + 32 = pe at *
        have HPE : Hid (p + 1 ≤ pe) := HPE0
        generalize hqe : min pe x.size = q at *
        generalize hpc : x.extract p q = piece at *
        clear hpe hqe hpc hsz hr hlen hcnt hbz hq1 hpx
        have hcase : (((p : Int) == 0) = true) ∨ ((((p : Int) == 0) = false) ∧ decide (p < x.size) = true) := by
          rcases hgo with h | h
          · exact Or.inl (by simp [h])
          · by_cases h0 : p = 0
            · exact Or.inl (by simp [h0])
            · exact Or.inr ⟨by rw [beq_eq_false_iff_ne]; omega, by simpa using h⟩
        clear hgo
        rcases hcase with hc1 | ⟨hc1, hc2⟩
        all_goals
          go_wp2_with fail
          refine HSP.out.mono ?_
          rintro e w1 ⟨rfl, hd1, hk1⟩
          have HD1 : Hid (Dsk B w1.drew b F1 cut ⟨s.fs, s.count + 1, s.dead⟩ m1 D1 vals1) := Lib.hid (hd1.drewN 1)
          have k1 : w1.drew.cell? ⟨b, 0, none⟩ = some (.map (some m1)) := HD1.out.c0
          have k0 : w1.cell? ⟨b, 0, none⟩ = some (.map (some m1)) := hd1.c0
          have HK1 := Lib.hid hk1; clear hd1 hk1
          have hlk : (Instr.lookup 55 (.map (some m1)) (.string name) false).run Tryz.prog w1.drew = .ok (vals1 name) w1.drew := by
            obtain ⟨v, ps, hrun, hv⟩ := HD1.out.files.map.lookup keyed Tryz.underlying55 (zeroB _) eR_nil (keyOfN hn)
            rw [HD1.out.files.look (fun e => e) hv] at hrun
            exact hrun
          have HROW := Lib.hid (HD1.out.row name)
          go_wp2_with fail
          go_region_held3 (fun w' => w'.cell? ⟨b, 0, none⟩ = some (.map (some m1))) (first | exact k1 | exact k2 | exact k3)
            (first
              | (refine step_app rfl (.tmp 29) (.tmp 37) rfl (vals1 name) (by simp [Act.eval]) piece (by simp [Act.eval]) (bytesF name s.fs) HROW.out.1 HROW.out.2 HSZ.out ?_
                 intro v' w2 hap
                 obtain ⟨w3, hup, k2, k3, hwent⟩ := HD1.out.app hn HLEN.out hap
                 have HWT := Lib.hid hwent
                 clear hap hwent))
          all_goals
            go_wp2_with fail
            go_roundw
            case measure => simpa [intOf] using hmeas
            refine ⟨pe, ⟨layF name (bytesF name s.fs ++ piece) s.fs, s.count + 1, s.dead⟩, rfl, hadv, HNX, Lib.hid ?_, Lib.hid ?_, Lib.hid ?_, Lib.hid ?_, HDD⟩
            · have h1 : Went B F1 b cut ⟨layF name (bytesF name s.fs ++ piece) s.fs, s.count + 1, s.dead⟩ wr w3 := Went.of (F := F1) HD1.out ((HK1.out.mono (fun i e => by rw [e]; exact hD1.files.fb)).drewN 1) (fun _ h => Or.inl h) HWT.out
              exact Went.of hD1 HK.out HF1.out h1
            · show room name (layF _ _ _) = _
              rw [room_lay]; exact HRM.out
            · show (bytesF name (layF _ _ _)).size ≤ _
              rw [(has_lay _ _ _).2]; exact HSZ2.out
            · show s.count + 1 ≤ _
              have := HC.out; have := HPE.out; omega
      · have hrf : rawB cut s.count s.dead = false := by simpa using hr
        have HR := Lib.hid (HA.out.lost hgo hrf)
        have HSP := Lib.hid (spend_no hD1 hrf HDD.out)
        have hcase : (((p : Int) == 0) = true) ∨ ((((p : Int) == 0) = false) ∧ decide (p < x.size) = true) := by
          rcases hgo with h | h
          · exact Or.inl (by simp [h])
          · by_cases h0 : p = 0
            · exact Or.inl (by simp [h0])
            · exact Or.inr ⟨by rw [beq_eq_false_iff_ne]; omega, by simpa using h⟩
        clear hgo hr hrf hlen hcnt hbz
        rcases hcase with hc1 | ⟨hc1, hc2⟩
        all_goals
          go_wp2_with fail
          refine HSP.out.mono ?_
          rintro e w1 ⟨rfl, hd1, hk1⟩
          have HD1 := Lib.hid hd1
          have HK1 := Lib.hid hk1; clear hd1 hk1
          go_wp2_with fail
          refine ⟨rfl, ?_⟩
          rw [HR.out]
          exact ⟨rfl, Went.of hD1 HK.out HF1.out (HD1.out.went (HK1.out.mono (fun i e => by rw [e]; exact hD1.files.fb)))⟩
    · have HR := Lib.hid (HA.out.done hgo)
      have hc1 : ((p : Int) == 0) = false := by rw [beq_eq_false_iff_ne]; omega
      have hc2 : decide (p < x.size) = false := by simp; omega
      clear hgo
      go_wp2_with fail
      go_end0
      rw [HR.out]
      exact ⟨rfl, HL.out⟩
end DiskP
end Go.Proofs.YtfbdhlpgklkjmaaGreatDoor
namespace Go.Proofs.YtfbdhlpgklkjmaaGreatDoor
open Go.RowKit Go.Maps
namespace DiskP
open DiskM DiskC ErrC

set_option maxHeartbeats 1000000 in
set_option maxRecDepth 100000 in
/-- the deferred closure of a call that returns -/
theorem caught_idle (p r : Addr) (w : World) :
    CallsD Tryz.prog 63 #[.pointer (some p), .pointer (some r)] .returning w fun e u' w' => e = .returned (.tuple #[]) ∧ u' = .returning ∧ w' = w := by
  refine callsD_of_wpS Tryz.func63 rfl fun c₀ cs hu => ?_
  apply wpS_seq
  apply wpS_region
  simp [wpOpsS, go_sem, recoverD, hu, Tryz.ntmps63, Exit.thenS]
  refine wpS_of_wp ?_
  go_wp2_with fail
  cases c₀
  simp_all [bodyPostS, results, Tryz.results63]

set_option maxHeartbeats 1000000 in
set_option maxRecDepth 100000 in
/-- .. of a call whose power was lost -/
theorem caught_lost (p r : Addr) (name : ByteArray) (old : Value) (w : World) (h0 : w.cell? p = some (.string name)) (h1 : w.cell? r = some old) (hf : w.frozen? r = false) :
    CallsD Tryz.prog 63 #[.pointer (some p), .pointer (some r)] (.panicking LOST) w fun e u' w' => e = .returned (.tuple #[]) ∧ u' = .panicking [{ v := .iface 113 (.agg #[]), recovered := true }] ∧
      w' = (faultW 5 name (w.alloc (.cells #[] 113))).setCell r (.iface 84 (.pointer (some ⟨w.heap.size + 1, 0, none⟩))) := by
  unfold LOST
  have hta : ∀ w : World, (Instr.typeAssert (.iface 113 (.agg #[])) 20 113 true).run Tryz.prog w = .ok (.tuple #[.agg #[], .bool true]) w := fun w => by kernel_rfl
  refine callsD_of_wpS Tryz.func63 rfl fun c₀ cs hu => ?_
  apply wpS_seq
  apply wpS_region
  simp [wpOpsS, go_sem, recoverD, hu, Tryz.ntmps63, Exit.thenS]
  refine wpS_of_wp ?_
  rw [show (#[Value.pointer (some p), .pointer (some r)] ++ (Array.replicate 11 undef).setIfInBounds 3 (.iface 113 (.agg #[])) : Array Value) = #[.pointer (some p), .pointer (some r), undef, undef, undef, .iface 113 (.agg #[]), undef, undef, undef, undef, undef, undef, undef] from rfl]
  have hp : p.block < w.heap.size := World.block_lt_of_cell? _ _ h0
  have hr : r.block < w.heap.size := World.block_lt_of_cell? _ _ h1
  have k0 : (w.alloc (.cells #[] 113)).cell? p = some (.string name) := (World.cell?_alloc_lt w _ p hp).trans h0
  have k1 : (faultW 5 name (w.alloc (.cells #[] 113))).cell? r = some old := by unfold faultW; exact (World.cell?_alloc_lt _ _ r (by simp; omega)).trans ((World.cell?_alloc_lt w _ r hr).trans h1)
  have kf : (faultW 5 name (w.alloc (.cells #[] 113))).frozen? r = false := by unfold faultW; rw [World.frozen?_of_block (heap_alloc_old _ _ (by simp; omega)), World.frozen?_of_block (heap_alloc_old _ _ hr)]; exact hf
  have hz : (w.alloc (.cells #[] 113)).heap.size = w.heap.size + 1 := by simp
  clear hp hr
  go_wp2_with fail
  refine (fault_any 5 name _).mono ?_
  rintro e w' ⟨rfl, rfl⟩
  generalize hw2 : faultW 5 name (w.alloc (.cells #[] 113)) = w2 at *
  go_wp2_with fail
  subst hw2
  exact ⟨rfl, _, rfl, _, results_none rfl _ _ _, rfl, rfl, rfl⟩

def poweredW (name : ByteArray) (w : World) : World := (w.alloc (.cells #[.string name] 9)).alloc (.cells #[.nilIface] 28)
theorem poweredW_below (name : ByteArray) (w : World) : Below w.heap.size w (poweredW name w) := ((Below.refl _ _).alloc (Nat.le_refl _) _).alloc (by simp) _
theorem poweredW_size (name : ByteArray) (w : World) : (poweredW name w).heap.size = w.heap.size + 2 := by simp [poweredW]
def PowE (B : Nat) (F : Nat → Prop) (b : Nat) (cut : Int) (ok : Bool) (name : ByteArray) (s : DS) (w : World) (e : Ending) (w' : World) : Prop := ∃ ev, e = .returned ev ∧ DErr w w' ev (code5 ok) name ∧ Went B F b cut s w w'
/-- what is written into a block that was made on the way -/
theorem Went.set {B b : Nat} {F : Nat → Prop} {cut : Int} {s : DS} {w w1 w2 w3 : World} (h : Went B F b cut s w1 w2) (hlt : ∀ i, F i → i < w.heap.size) (hB : B ≤ w.heap.size) (h1 : Below w.heap.size w w1) (S : Nat → Prop) (hS : ∀ i, S i → w.heap.size ≤ i ∧ (i < w1.heap.size ∨ w2.heap.size ≤ i)) (k : Keeps S w2 w3) : Went B F b cut s w w3 := by
  obtain ⟨F', m, D, vals, hD, hF⟩ := h.is
  refine ⟨⟨F', m, D, vals, hD.keeps k (fun i hi hs => ?_) (fun i hi => Nat.le_trans hB (hS i hi).1), fun i hi => ?_⟩, ?_⟩
  · obtain ⟨h2, h3⟩ := hS i hs
    rcases hF i hi with h4 | h4
    · have := hlt i h4; omega
    · have := hD.files.lt i hi; omega
  · rcases hF i hi with h4 | h4
    · exact Or.inl h4
    · exact Or.inr (Nat.le_trans h1.size h4)
  · have k1 : Keeps F w w2 := (Keeps.of_below h1).trans h.keeps
    exact k1.then k (fun i hi hs => by have := (hS i hs).1; omega)
set_option maxHeartbeats 2000000 in
set_option maxRecDepth 100000 in
theorem powered_any {B b m : Nat} {F : Nat → Prop} {cut : Int} {s s' : DS} {D : DataW Unit} {vals : ByteArray → Value} {w : World} (hD : Dsk B w b F cut s m D vals) (name : ByteArray) (K : Nat) (cap : Array Value) (ok : Bool) (hK : ∀ w : World, (callFunc K cap).run Tryz.prog w = .ok (.enter K cap) w)
    (hcl : Calls Tryz.prog K cap (poweredW name w) fun e w2 => e = (if ok then .returned (.tuple #[]) else .panicked LOST) ∧ Went B F b cut s' (poweredW name w) w2) :
    Calls Tryz.prog 39 #[.string name, .func (Fn.func K) #[] cap] w (PowE B F b cut ok name s' w) := by
  have hmf : ∀ (fn : Fn) (first cap : Array Value) (w : World), (Instr.makeFunc fn first cap).run Tryz.prog w = .ok (.func fn first cap) w := fun _ _ _ _ => rfl
  have HCL := Lib.hid hcl; clear hcl
  have HLT := Lib.hid hD.files.lt
  have HBW := Lib.hid hD.bw
  clear hD
  have c0 : (poweredW name w).cell? ⟨w.heap.size, 0, none⟩ = some (.string name) := by
    unfold poweredW
    rw [World.cell?_alloc_lt _ _ _ (by simp), World.cell?_alloc_at _ _ _ _ rfl]; rfl
  have c1 : (poweredW name w).cell? ⟨w.heap.size + 1, 0, none⟩ = some .nilIface := by
    unfold poweredW
    rw [World.cell?_alloc_at _ _ _ _ (by simp)]; rfl
  have cf : (poweredW name w).frozen? ⟨w.heap.size + 1, 0, none⟩ = false := by
    unfold poweredW
    simp
  have hkeep : ∀ w2, Keeps F (poweredW name w) w2 → w2.cell? ⟨w.heap.size, 0, none⟩ = some (.string name) ∧ w2.cell? ⟨w.heap.size + 1, 0, none⟩ = some .nilIface ∧ w2.frozen? ⟨w.heap.size + 1, 0, none⟩ = false := by
    intro w2 k
    have hz := poweredW_size name w
    have e0 := k.block w.heap.size (by omega) (fun h => by have := HLT.out _ h; omega)
    have e1 := k.block (w.heap.size + 1) (by omega) (fun h => by have := HLT.out _ h; omega)
    exact ⟨(World.cell?_of_block (a := ⟨w.heap.size, 0, none⟩) e0).trans c0, (World.cell?_of_block (a := ⟨w.heap.size + 1, 0, none⟩) e1).trans c1, (World.frozen?_of_block (a := ⟨w.heap.size + 1, 0, none⟩) e1).trans cf⟩
  have HKEEP := Lib.hid hkeep
  clear hkeep c0 c1 cf
  go_enter_defers Tryz.func39, Tryz.ntmps39
  go_wp2_with fail
  refine HCL.out.mono ?_
  rintro e w2 ⟨rfl, hw⟩
  obtain ⟨d0, d1, df⟩ := HKEEP.out w2 hw.keeps
  have hlt1 : w.heap.size + 1 < w2.heap.size := World.block_lt_of_cell? _ _ d1
  have HW := Lib.hid hw
  clear hw HKEEP HCL
  have hset : ∀ w3, Keeps (fun i => i = w.heap.size + 1) w2 w3 → Went B F b cut s' w w3 := fun w3 k =>
    HW.out.set HLT.out HBW.out (poweredW_below name w) (fun i => i = w.heap.size + 1) (fun i hi => ⟨by omega, Or.inl (by rw [poweredW_size]; omega)⟩) k
  have HSET := Lib.hid hset; clear hset
  cases ok
  · rw [if_neg (by decide)]
    go_wp2_with fail
    refine leaves_cons (f := 63) (args := #[.pointer (some ⟨w.heap.size, 0, none⟩), .pointer (some ⟨w.heap.size + 1, 0, none⟩)]) (by simp) (by simp [go_sem]) ?_
    refine (caught_lost _ _ name .nilIface w2 d0 d1 df).mono ?_
    rintro e u' w3 ⟨rfl, rfl, rfl⟩
    have k1 : (faultW 5 name (w2.alloc (.cells #[] 113))).cell? ⟨w.heap.size + 1, 0, none⟩ = some .nilIface := by unfold faultW; exact (World.cell?_alloc_lt _ _ _ (by simp; omega)).trans ((World.cell?_alloc_lt w2 _ _ hlt1).trans d1)
    refine ⟨.iface 84 (.pointer (some ⟨w2.heap.size + 1, 0, none⟩)), ?_, _, rfl, ?_, HSET.out _ ?_⟩
    · simp [results, Tryz.results39, go_sem, World.cell?_setCell_same _ _ _ k1]
    · refine Or.inr ⟨by decide, w2.heap.size + 1, rfl, by have := HW.out.keeps.size; rw [poweredW_size] at this; omega, ?_⟩
      have hF := fault_is 5 name (w2.alloc (.cells #[] 113))
      rw [show (w2.alloc (.cells #[] 113)).heap.size = w2.heap.size + 1 by simp] at hF
      have ec : ∀ j u, ((faultW 5 name (w2.alloc (.cells #[] 113))).setCell ⟨w.heap.size + 1, 0, none⟩ u).cell? ⟨w2.heap.size + 1, j, none⟩ = (faultW 5 name (w2.alloc (.cells #[] 113))).cell? ⟨w2.heap.size + 1, j, none⟩ := fun j u => World.cell?_setCell_far _ _ _ _ (by simp; omega)
      exact ⟨by rw [ec]; exact hF.code, by rw [ec]; exact hF.what, by rw [ec]; exact hF.at_, by rw [ec]; exact hF.under⟩
    · exact (((Keeps.refl (fun i => i = w.heap.size + 1) w2).alloc _).alloc _).set ⟨w.heap.size + 1, 0, none⟩ rfl _
  · rw [if_pos rfl]
    go_wp2_with fail
    refine leaves_cons (f := 63) (args := #[.pointer (some ⟨w.heap.size, 0, none⟩), .pointer (some ⟨w.heap.size + 1, 0, none⟩)]) (by simp) (by simp [go_sem]) ?_
    refine (caught_idle _ _ _).mono ?_
    rintro e u' w3 ⟨rfl, rfl, rfl⟩
    refine ⟨.nilIface, ?_, _, rfl, Or.inl ⟨rfl, rfl⟩, HSET.out _ ?_⟩
    · simp [results, Tryz.results39, go_sem, World.cell?_setCell_same _ _ _ d1]
    · exact (Keeps.refl (fun i => i = w.heap.size + 1) w2).set ⟨w.heap.size + 1, 0, none⟩ rfl _
end DiskP
end Go.Proofs.YtfbdhlpgklkjmaaGreatDoor
