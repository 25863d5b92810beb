/-
  Package disk's small calls: there, fault, ready, find, room, spend.
-/
import Derived.Test.YtpmbokklpidohaaGreatDoorDiskP
import Derived.Test.YtpmbokklpidohaaGreatDoorDiskErr
import Derived.Lib.Hide
import Derived.WalkSmall
import Derived.Deep.QuietTactic
import Derived.IntWalk
import Derived.Laws.Cover3
namespace Go.Proofs.YtpmbokklpidohaaGreatDoor
open Go.RowKit Go.Maps
namespace DiskP
open DiskM DiskC ErrC
open Go.Lib (strCells strCells_length)

/-- package disk's disk, as its cells hold it -/
structure Dsk (B : Nat) (w : World) (b : Nat) (F : Nat → Prop) (cut : Int) (s : DS) (m : Nat) (D : DataW Unit) (vals : ByteArray → Value) : Prop where
  c0 : w.cell? ⟨b, 0, none⟩ = some (.map (some m))
  c1 : w.cell? ⟨b, 1, none⟩ = some (.int .i64 cut)
  c2 : w.cell? ⟨b, 2, none⟩ = some (.int .i64 s.count)
  c3 : w.cell? ⟨b, 3, none⟩ = some (.bool s.dead)
  free : ∀ j, w.frozen? ⟨b, j, none⟩ = false
  files : Files NoEx w B b m F s.fs D vals
  cnt : cut < 0 ∨ (s.count : Int) ≤ cut
  bw : B ≤ w.heap.size
theorem Dsk.lt {B : Nat} {w : World} {b : Nat} {F : Nat → Prop} {cut : Int} {s : DS} {m : Nat} {D : DataW Unit} {vals : ByteArray → Value} (h : Dsk B w b F cut s m D vals) : b < w.heap.size := World.block_lt_of_cell? _ _ h.c0
theorem Dsk.keeps {B : Nat} {w w' : World} {b : Nat} {F S : Nat → Prop} {cut : Int} {s : DS} {m : Nat} {D : DataW Unit} {vals : ByteArray → Value} (h : Dsk B w b F cut s m D vals) (k : Keeps S w w') (hS : ∀ i, F i → ¬ S i) (hB : ∀ i, S i → B ≤ i) : Dsk B w' b F cut s m D vals := by
  have e : w'.heap[b]? = w.heap[b]? := k.block b h.lt (hS b h.files.fb)
  have ec : ∀ j, w'.cell? ⟨b, j, none⟩ = w.cell? ⟨b, j, none⟩ := fun j => World.cell?_of_block (a := ⟨b, j, none⟩) e
  have ef : ∀ j, w'.frozen? ⟨b, j, none⟩ = w.frozen? ⟨b, j, none⟩ := fun j => World.frozen?_of_block (a := ⟨b, j, none⟩) e
  exact ⟨by rw [ec]; exact h.c0, by rw [ec]; exact h.c1, by rw [ec]; exact h.c2, by rw [ec]; exact h.c3, fun j => by rw [ef]; exact h.free j, h.files.keeps k hS hB, h.cnt, Nat.le_trans h.bw k.size⟩
theorem Dsk.below {B : Nat} {w w' : World} {b : Nat} {F : Nat → Prop} {cut : Int} {s : DS} {m : Nat} {D : DataW Unit} {vals : ByteArray → Value} (h : Dsk B w b F cut s m D vals) (hb : Below w.heap.size w w') : Dsk B w' b F cut s m D vals :=
  h.keeps (S := fun _ => False) (Keeps.of_below hb) (fun _ _ e => e) (fun _ e => e.elim)

set_option maxRecDepth 100000 in
theorem there_any (b m : Nat) (w : World) (h : w.cell? ⟨b, 0, none⟩ = some (.map (some m))) :
    Calls Tryz.prog 33 #[.pointer (some ⟨b, 0, none⟩)] w fun e w' => e = .returned (.bool true) ∧ w = w' := by
  have hmn : ∀ w : World, (binOp .neq 41 (.map (some m)) (.map none)).run Tryz.prog w = .ok (.bool true) w := fun w => run_neq_map_nil w 41 9 64 (some m) Tryz.underlying41
  go_enter Tryz.func33, Tryz.ntmps33
  go_wp2_with fail
  go_ret
  exact ⟨rfl, rfl⟩
def faultW (c : Nat) (t : ByteArray) (w : World) : World := w.alloc (.cells #[.int .i64 c, .string t, .int .i64 (-1), .nilIface] 93)
theorem fault_any (c : Nat) (t : ByteArray) (w : World) :
    Calls Tryz.prog 53 #[.int .i64 c, .string t] w fun e w' => e = .returned (.iface 88 (.pointer (some ⟨w.heap.size, 0, none⟩))) ∧ faultW c t w = w' := by
  unfold faultW
  go_enter Tryz.func53, Tryz.ntmps53
  go_wp2_with fail
  go_ret
  exact ⟨rfl, rfl⟩
theorem fault_is (c : Nat) (t : ByteArray) (w : World) : IsFault (faultW c t w) w.heap.size 0 c t (-1) := by
  unfold faultW
  refine ⟨?_, ?_, ?_, ?_⟩ <;> (rw [World.cell?_alloc_at _ _ _ _ rfl]; rfl)
theorem fault_below (c : Nat) (t : ByteArray) (w : World) : Below w.heap.size w (faultW c t w) := (Below.refl _ _).alloc (Nat.le_refl _) _
/-- a call that hands back a fault or none, and writes nothing that was there -/
def ErrE (w : World) (c : Nat) (t : ByteArray) (e : Ending) (w' : World) : Prop := ∃ ev, e = .returned ev ∧ DErr w w' ev c t ∧ Below w.heap.size w w'
theorem errE_none (w : World) (t : ByteArray) : ErrE w 0 t (.returned .nilIface) w := ⟨_, rfl, Or.inl ⟨rfl, rfl⟩, Below.refl _ _⟩
theorem fault_derr (c : Nat) (hc : c ≠ 0) (t : ByteArray) (w : World) : DErr w (faultW c t w) (.iface 88 (.pointer (some ⟨w.heap.size, 0, none⟩))) c t := Or.inr ⟨hc, _, rfl, Nat.le_refl _, fault_is c t w⟩
theorem DErr.from {w0 w w' : World} {ev : Value} {c : Nat} {t : ByteArray} (h : DErr w w' ev c t) (hs : w0.heap.size ≤ w.heap.size) : DErr w0 w' ev c t := by
  rcases h with h | ⟨h0, f, hv, hf, hF⟩
  · exact Or.inl h
  · exact Or.inr ⟨h0, f, hv, Nat.le_trans hs hf, hF⟩
theorem no_name {n : ByteArray} (h : n.size = 0) : n.toList.isEmpty = true := by rw [size0 h, ByteArray.toList_eq]; rfl
theorem a_name {n : ByteArray} (h : 1 ≤ n.size) : n.toList.isEmpty = false := by
  rw [ByteArray.toList_eq]
  have hl : n.data.toList.length = n.size := Array.length_toList
  cases e : n.data.toList with
  | nil => rw [e] at hl; simp at hl; omega
  | cons x r => rfl
theorem may_cases (n : ByteArray) : (mayB n = false ∧ n.size = 0) ∨ (mayB n = false ∧ 1 ≤ n.size ∧ 128 < n.size) ∨ (mayB n = true ∧ 1 ≤ n.size ∧ n.size ≤ 128) := by
  unfold mayB
  by_cases h1 : 1 ≤ n.size
  · by_cases h2 : n.size ≤ 128
    · exact Or.inr (Or.inr ⟨by simp [h1, h2], h1, h2⟩)
    · exact Or.inr (Or.inl ⟨by simp [h2], h1, by omega⟩)
  · exact Or.inl ⟨by simp [h1], by omega⟩
theorem mayB_le {n : ByteArray} (h : mayB n = true) : n.size ≤ 128 := by
  rcases may_cases n with ⟨e, -⟩ | ⟨e, -⟩ | ⟨-, -, e⟩
  · rw [h] at e; cases e
  · rw [h] at e; cases e
  · exact e
section
variable {P : Program} (w : World)
/-- a whole row behind a row of one's own, at an operation: what is appended may be nil -/
theorem wpList_append_row {ops : Array Oper} {rest : List Oper} {o : Oper} {a : Act} {Q : Exit → Act → World → Prop} (hgd : o.guard = none) (s x : Operand) (t : TypeId)
    (ho : o.op = .call { callee := .builtin .append, args := #[s, x], argTypes := #[t, t] })
    (base : Nat) (e : TypeId) (i : TypeInfo) (z : Value) (size bytes : Nat) (ht : P.underlying t = some (.slice e)) (hi : P.info? e = some i) (hz : i.zero = some z)
    (hsize : i.size = size) (hby : i.bytes = bytes) (hzs : z.cells.size = size) (hsz : 0 < size)
    (v : Value) (n : Nat) (xs : List Value) (hs : a.eval s = v) (hown : w.ownsRow base e size v n xs)
    (src : Value) (m : Nat) (news : List Value) (hx : a.eval x = src) (hsrc : (src = .slice none 0 0 ∧ m = 0) ∨ ∃ ad c, src = .slice (some ad) m c ∧ ∀ j u, news[j]? = some u → w.cell? (ad.add j) = some u)
    (hl : news.length = m * size) (h1 : ∀ u ∈ news, u.oneCell' = true) (h63 : n + m ≤ maxLen) (hbytes : (n + m) * bytes ≤ 140737488355328) (hbase : base ≤ w.heap.size)
    (h : ∀ ao cap w', w'.ownsRow base e size (.slice ao (n + m) cap) (n + m) (xs ++ news) → w.grownBy w' v.ownBlock → wpList P ops Q rest (a.put o.dst (.slice ao (n + m) cap)) w') : wpList P ops Q (o :: rest) a w := by
  refine wpList_plain hgd fun K hK => ?_
  have key : ∃ v' w', (Builtin.append_ #[t, t] o.type #[v, src]).run P w = .ok v' w' ∧ w'.ownsRow base e size v' (n + m) (xs ++ news) ∧ w.grownBy w' v.ownBlock := by
    rcases hsrc with ⟨rfl, rfl⟩ | ⟨ad, c, rfl, hnews⟩
    · have hn0 : news = [] := List.eq_nil_of_length_eq_zero (by omega)
      refine ⟨v, w, run_append_owned_none (P := P) (w := w) base t o.type e i size ht hi v n xs hown, ?_, ⟨rfl, rfl, rfl, Nat.le_refl _, fun _ _ _ => rfl⟩⟩
      rw [hn0, List.append_nil]; exact hown
    · obtain ⟨v', w', hr, h2, h3, _, _⟩ := run_append_own_at (P := P) w base t o.type e i z size bytes ht hi hz hsize hby hzs hsz v n xs hown ad m c news hl hnews h1 h63 hbytes hbase
      exact ⟨v', w', hr, h2, h3⟩
  obtain ⟨v', w', hr, h2, h3⟩ := key
  obtain ⟨ao, cap, rfl⟩ : ∃ ao cap, v' = .slice ao (n + m) cap := by
    rcases h2.2 with ⟨rfl, h0⟩ | ⟨g, cap, cur, rfl, -⟩
    · exact ⟨none, 0, by rw [h0]⟩
    · exact ⟨_, _, rfl⟩
  unfold Oper.wp execOp
  simp only [ho, resolve, invoke, builtin, Sem.run_bind, Sem.run_pure, Result.andThen_ok, List.map_toArray, List.map_cons, List.map_nil, hs, hx, hr]
  exact hK _ _ (h ao cap w' h2 h3)
end
theorem one_row (w : World) (name : ByteArray) : (w.alloc (.cells #[.string name] 9)).ownsRow 0 9 1 (.slice (some ⟨w.heap.size, 0, none⟩) 1 1) 1 [.string name] :=
  ⟨rfl, .inr ⟨w.heap.size, 1, _, rfl, Nat.zero_le _, heap_alloc_new w _, Nat.le_refl _, by unfold maxLen; omega, rfl, rfl⟩⟩
def readyC (name : ByteArray) (dead : Bool) : Nat := if mayB name = false then 2 else if dead = true then 5 else 0
theorem readyC_cases (name : ByteArray) (dead : Bool) : (readyC name dead = 2 ∧ name.size = 0) ∨ (readyC name dead = 2 ∧ 1 ≤ name.size ∧ 128 < name.size) ∨ (readyC name dead = 5 ∧ dead = true ∧ 1 ≤ name.size ∧ name.size ≤ 128) ∨ (readyC name dead = 0 ∧ dead = false ∧ 1 ≤ name.size ∧ name.size ≤ 128) := by
  unfold readyC
  rcases may_cases name with ⟨h, h2⟩ | ⟨h, h2⟩ | ⟨h, h2⟩
  · exact Or.inl ⟨by simp [h], h2⟩
  · exact Or.inr (Or.inl ⟨by simp [h], h2⟩)
  · cases dead
    · exact Or.inr (Or.inr (Or.inr ⟨by simp [h], rfl, h2⟩))
    · exact Or.inr (Or.inr (Or.inl ⟨by simp [h], rfl, h2⟩))
set_option maxRecDepth 100000 in
set_option maxHeartbeats 1000000 in
theorem ready1 (b m : Nat) (dead : Bool) (name : ByteArray) (w : World) (h0 : w.cell? ⟨b, 0, none⟩ = some (.map (some m))) (h3 : w.cell? ⟨b, 3, none⟩ = some (.bool dead)) :
    Calls Tryz.prog 40 #[.pointer (some ⟨b, 0, none⟩), .string name, .slice none 0 0] w (ErrE w (readyC name dead) name) := by
  have hlt : b < w.heap.size := World.block_lt_of_cell? _ _ h0
  obtain ⟨i0, hi, hz0, hz1, hz2⟩ := info_parts TextR.info_text
  have hmade : Hid ((w.alloc (.cells #[.string name] 9)).ownsRow 0 9 1 (.slice (some ⟨w.heap.size, 0, none⟩) 1 1) 1 [.string name]) := Lib.hid (one_row w name)
  have hc : (w.alloc (.cells #[.string name] 9)).cell? ⟨w.heap.size, 0, none⟩ = some (.string name) := by rw [World.cell?_alloc_at _ _ _ _ rfl]; rfl
  have d3 : (w.alloc (.cells #[.string name] 9)).cell? ⟨b, 3, none⟩ = some (.bool dead) := (World.cell?_alloc_lt w _ ⟨b, 3, none⟩ hlt).trans h3
  have hb1 : Below w.heap.size w (w.alloc (.cells #[.string name] 9)) := (Below.refl _ _).alloc (Nat.le_refl _) _
  have HB1 := Lib.hid hb1; clear hb1
  have happ : ∀ ty : TypeId, (Builtin.append_ #[68, 68] ty #[.slice (some ⟨w.heap.size, 0, none⟩) 1 1, .slice none 0 0]).run Tryz.prog (w.alloc (.cells #[.string name] 9)) = .ok (.slice (some ⟨w.heap.size, 0, none⟩) 1 1) (w.alloc (.cells #[.string name] 9)) :=
    fun ty => run_append_owned_none (P := Tryz.prog) (w := w.alloc (.cells #[.string name] 9)) 0 68 ty 9 i0 1 Tryz.underlying68 hi _ 1 _ hmade.out
  clear hmade hi hz0 hz1 hz2 h3
  generalize hw1 : w.alloc (.cells #[.string name] 9) = w1 at *
  have fin : ∀ c : Nat, c ≠ 0 → ErrE w c name (.returned (.iface 88 (.pointer (some ⟨w1.heap.size, 0, none⟩)))) (faultW c name w1) := fun c hc0 =>
    ⟨_, rfl, DErr.from (fault_derr c hc0 name w1) HB1.out.size, HB1.out.trans ((fault_below c name w1).mono HB1.out.size)⟩
  have HFIN := Lib.hid fin; clear fin
  rcases readyC_cases name dead with ⟨hr, hs⟩ | ⟨hr, hs1, hs2⟩ | ⟨hr, rfl, hs1, hs2⟩ | ⟨hr, rfl, hs1, hs2⟩
  · rw [hr]
    have he := no_name hs
    clear hr hs
    go_enter Tryz.func40, Tryz.ntmps40
    go_wp2_with fail
    refine (there_any b m w h0).mono ?_
    rintro e w' ⟨rfl, rfl⟩
    go_wp2_with fail
    refine wp_loop_rounds 1 ?_; rw [rounds_succ]; go_wp2_with fail
    refine (fault_any 2 name _).mono ?_
    rintro e w' ⟨rfl, rfl⟩
    go_wp2_with fail
    go_ret
    exact HFIN.out 2 (by decide)
  · rw [hr]
    have he := a_name hs1
    have hd : decide ((128 : Int) < (name.size : Int)) = true := by simp; omega
    clear hr hs1 hs2
    go_enter Tryz.func40, Tryz.ntmps40
    go_wp2_with fail
    refine (there_any b m w h0).mono ?_
    rintro e w' ⟨rfl, rfl⟩
    go_wp2_with fail
    refine wp_loop_rounds 1 ?_; rw [rounds_succ]; go_wp2_with fail
    refine (fault_any 2 name _).mono ?_
    rintro e w' ⟨rfl, rfl⟩
    go_wp2_with fail
    go_ret
    exact HFIN.out 2 (by decide)
  · rw [hr]
    have he := a_name hs1
    have hd : decide ((128 : Int) < (name.size : Int)) = false := by simp; omega
    clear hr hs1 hs2
    go_enter Tryz.func40, Tryz.ntmps40
    go_wp2_with fail
    refine (there_any b m w h0).mono ?_
    rintro e w' ⟨rfl, rfl⟩
    go_wp2_with fail
    refine wp_loop_rounds 2 ?_; rw [rounds_succ]; go_wp2_with fail
    rw [rounds_succ]; go_wp2_with fail
    refine (fault_any 5 name _).mono ?_
    rintro e w' ⟨rfl, rfl⟩
    go_wp2_with fail
    go_ret
    exact HFIN.out 5 (by decide)
  · rw [hr]
    have he := a_name hs1
    have hd : decide ((128 : Int) < (name.size : Int)) = false := by simp; omega
    clear hr hs1 hs2
    go_enter Tryz.func40, Tryz.ntmps40
    go_wp2_with fail
    refine (there_any b m w h0).mono ?_
    rintro e w' ⟨rfl, rfl⟩
    go_wp2_with fail
    refine wp_loop_rounds 2 ?_; rw [rounds_succ]; go_wp2_with fail
    rw [rounds_succ]; go_wp2_with fail
    go_ret
    exact ⟨_, rfl, Or.inl ⟨rfl, rfl⟩, HB1.out⟩
end DiskP
end Go.Proofs.YtpmbokklpidohaaGreatDoor
