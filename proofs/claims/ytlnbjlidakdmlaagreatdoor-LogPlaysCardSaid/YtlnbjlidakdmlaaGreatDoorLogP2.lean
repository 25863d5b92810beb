/-
  A row of texts of a call's own behind another one, nil or not: 'x = append(x, y...)'.
  Package log's log as its cells hold it; fault, there, Len, Files, Broken, At.
-/
import Derived.Test.YtlnbjlidakdmlaaGreatDoorTextRow
import Derived.Laws.OwnMore
import Derived.Maps.AppendAt
import Derived.Test.YtlnbjlidakdmlaaGreatDoorLogP
namespace Go.Proofs.YtlnbjlidakdmlaaGreatDoor
open Go.RowKit
namespace TextR

theorem texts_one (L : List ByteArray) : ∀ u ∈ L.map Value.string, u.oneCell' = true := by
  intro u hu
  obtain ⟨s, -, rfl⟩ := List.mem_map.1 hu
  rfl
theorem wpList_app {P : Program} {w : World} {ops : Array Oper} {rest : List Oper} {o : Oper} {a : Act} {Q : Exit → Act → World → Prop} (hgd : o.guard = none) (s x : Operand) (t : TypeId)
    (ho : o.op = .call { callee := .builtin .append, args := #[s, x], argTypes := #[t, t] })
    (i : TypeInfo) (z : Value) (ht : P.underlying t = some (.slice 9)) (hi : P.info? 9 = some i) (hz : i.zero = some z)
    (hsize : i.size = 1) (hby : i.bytes = 16) (hzs : z.cells.size = 1) (B : Nat) (v : Value) (L : List ByteArray) (hs : a.eval s = v) (hown : OwnT w B v L)
    (B2 : Nat) (src : Value) (M : List ByteArray) (hx : a.eval x = src) (hsrc : OwnT w B2 src M) (hn : L.length + M.length ≤ 1099511627776) (hB : B ≤ w.heap.size)
    (h : ∀ ao cap w', OwnT w' B (.slice ao (L.length + M.length) cap) (L ++ M) → w.grownBy w' v.ownBlock → ((Value.slice ao (L.length + M.length) cap).ownBlock = v.ownBlock ∨ (Value.slice ao (L.length + M.length) cap).ownBlock = some w.heap.size) →
      wpList P ops Q rest (a.put o.dst (.slice ao (L.length + M.length) cap)) w') : wpList P ops Q (o :: rest) a w := by
  refine wpList_plain hgd fun K hK => ?_
  have key : ∃ v' w', (Builtin.append_ #[t, t] o.type #[v, src]).run P w = .ok v' w' ∧ w'.ownsRow B 9 1 v' (L.length + M.length) (L.map Value.string ++ M.map Value.string) ∧ w.grownBy w' v.ownBlock ∧ (v'.ownBlock = v.ownBlock ∨ v'.ownBlock = some w.heap.size) := by
    have hml : (M.map Value.string).length = M.length * 1 := by simp
    have hcs := fun g (hg : src.ownBlock = some g) => World.ownsRow.cells hsrc (g := g) hg
    rcases hsrc.2 with ⟨rfl, h0⟩ | ⟨g, cap, cur, rfl, -⟩
    · have hn0 : M = [] := List.eq_nil_of_length_eq_zero h0
      subst hn0
      refine ⟨v, w, run_append_owned_none (P := P) (w := w) B t o.type 9 i 1 ht hi v L.length _ hown, ?_, ⟨rfl, rfl, rfl, Nat.le_refl _, fun _ _ _ => rfl⟩, Or.inl rfl⟩
      rw [List.map_nil, List.append_nil]; exact hown
    · obtain ⟨v', w', hr, h2, h3, _, h5⟩ := run_append_own_at (P := P) w B t o.type 9 i z 1 16 ht hi hz hsize hby hzs (by decide) v L.length _ hown ⟨g, 0, none⟩ M.length cap _ hml (hcs g rfl) (texts_one M) (by unfold maxLen; omega) (by omega) hB
      exact ⟨v', w', hr, h2, h3, h5⟩
  obtain ⟨v', w', hr, h2, h3, h5⟩ := key
  obtain ⟨ao, cap, rfl⟩ : ∃ ao cap, v' = .slice ao (L.length + M.length) cap := by
    rcases h2.2 with ⟨rfl, h0⟩ | ⟨g, cap, cur, rfl, -⟩
    · exact ⟨none, 0, by rw [h0]⟩
    · exact ⟨_, _, rfl⟩
  unfold Oper.wp execOp
  simp only [ho, resolve, invoke, builtin, Sem.run_bind, Sem.run_pure, Result.andThen_ok, List.map_toArray, List.map_cons, List.map_nil, hs, hx, hr]
  refine hK _ _ (h ao cap w' ?_ h3 h5)
  unfold OwnT
  rw [List.length_append, List.map_append]
  exact h2
theorem own_cell {w : World} {B : Nat} {a : Option Addr} {cp : Nat} {L : List ByteArray} (h : OwnT w B (.slice a L.length cp) L) (i : Nat) (hi : i < L.length) : ∃ g, a = some ⟨g, 0, none⟩ ∧ B ≤ g ∧ g < w.heap.size ∧ w.cell? ⟨g, i, none⟩ = some (.string L[i]) := by
  obtain ⟨a', cp', e, hc⟩ := h.open_
  cases e
  obtain ⟨g, rfl, h1, h2, h3⟩ := hc (by omega)
  exact ⟨g, rfl, h1, h2, h3 i hi⟩
end TextR
end Go.Proofs.YtlnbjlidakdmlaaGreatDoor
namespace Go.Proofs.YtlnbjlidakdmlaaGreatDoor
open Go.RowKit
namespace LogP
open LogM FrameM FrameC TextR DiskM DiskC LogC ErrC

def nextF (nb : Nat) : Value := .func (.func 63) #[] #[.pointer (some ⟨nb, 0, none⟩)]
/-- package log's log over the disk in block b, above B; nb: the counter of the names' closure -/
structure IsPL (w : World) (B p nb b : Nat) (lv : Value) (L : List (List UInt8)) (br : Bool) : Prop where
  disk : w.cell? ⟨p, 0, none⟩ = some (.pointer (some ⟨b, 0, none⟩))
  list : w.cell? ⟨p, 1, none⟩ = some lv
  file : w.cell? ⟨p, 2, none⟩ = some (.string (nameN (L.length / 64 + 1)))
  next : w.cell? ⟨p, 3, none⟩ = some (nextF nb)
  broken : w.cell? ⟨p, 4, none⟩ = some (.bool br)
  free : ∀ j, w.frozen? ⟨p, j, none⟩ = false
  ctr : w.cell? ⟨nb, 0, none⟩ = some (.int .i64 ((L.length / 64 + 1 : Nat) : Int))
  cfree : w.frozen? ⟨nb, 0, none⟩ = false
  row : OwnT w B lv (L.map str)
  low : B ≤ p ∧ B ≤ nb
  ne : nb ≠ p
  sep : lv.ownBlock ≠ some p ∧ lv.ownBlock ≠ some nb
/-- its blocks -/
def FootP (p nb : Nat) (lv : Value) (i : Nat) : Prop := i = p ∨ i = nb ∨ lv.ownBlock = some i
theorem IsPL.lt {w : World} {B p nb b : Nat} {lv : Value} {L : List (List UInt8)} {br : Bool} (h : IsPL w B p nb b lv L br) : p < w.heap.size := World.block_lt_of_cell? _ _ h.disk
theorem IsPL.foot {w : World} {B p nb b : Nat} {lv : Value} {L : List (List UInt8)} {br : Bool} (h : IsPL w B p nb b lv L br) (i : Nat) (hi : FootP p nb lv i) : B ≤ i ∧ i < w.heap.size := by
  rcases hi with rfl | rfl | hi
  · exact ⟨h.low.1, h.lt⟩
  · exact ⟨h.low.2, World.block_lt_of_cell? _ _ h.ctr⟩
  · exact World.ownsRow.lt h.row i hi
theorem IsPL.keeps {S : Nat → Prop} {w w' : World} {B p nb b : Nat} {lv : Value} {L : List (List UInt8)} {br : Bool} (h : IsPL w B p nb b lv L br) (k : Keeps S w w') (hS : ∀ i, FootP p nb lv i → ¬ S i) : IsPL w' B p nb b lv L br := by
  have e1 : w'.heap[p]? = w.heap[p]? := k.block p h.lt (hS p (.inl rfl))
  have e2 : w'.heap[nb]? = w.heap[nb]? := k.block nb (h.foot nb (.inr (.inl rfl))).2 (hS nb (.inr (.inl rfl)))
  have c1 : ∀ j, w'.cell? ⟨p, j, none⟩ = w.cell? ⟨p, j, none⟩ := fun j => World.cell?_of_block (a := ⟨p, j, none⟩) e1
  exact ⟨by rw [c1]; exact h.disk, by rw [c1]; exact h.list, by rw [c1]; exact h.file, by rw [c1]; exact h.next, by rw [c1]; exact h.broken, fun j => by rw [World.frozen?_of_block (a := ⟨p, j, none⟩) e1]; exact h.free j,
    by rw [World.cell?_of_block (a := ⟨nb, 0, none⟩) e2]; exact h.ctr, by rw [World.frozen?_of_block (a := ⟨nb, 0, none⟩) e2]; exact h.cfree, own_keeps h.row k (fun g hg => hS g (.inr (.inr hg))), h.low, h.ne, h.sep⟩
theorem IsPL.below {w w' : World} {B p nb b : Nat} {lv : Value} {L : List (List UInt8)} {br : Bool} (h : IsPL w B p nb b lv L br) (hb : Below w.heap.size w w') : IsPL w' B p nb b lv L br :=
  h.keeps (S := fun _ => False) (Keeps.of_below hb) (fun _ _ e => e)
/-- how many records, as the slice says it -/
theorem IsPL.len {w : World} {B p nb b : Nat} {lv : Value} {L : List (List UInt8)} {br : Bool} (h : IsPL w B p nb b lv L br) : ∃ a cp, lv = .slice a L.length cp ∧ w.cell? ⟨p, 1, none⟩ = some (.slice a L.length cp) := by
  obtain ⟨a, cp, e, -⟩ := h.row.open_
  rw [List.length_map] at e
  exact ⟨a, cp, e, by rw [← e]; exact h.list⟩

/-! ### fault, there -/
theorem lfault_any (c : Nat) (a : Int) (w : World) :
    Calls Tryz.prog 26 #[.int .i64 c, .int .i64 a] w fun e w' => e = .returned (.iface 102 (.pointer (some ⟨w.heap.size, 0, none⟩))) ∧ w' = FrameC.faultW c a w := by
  unfold FrameC.faultW
  go_enter Tryz.func26, Tryz.ntmps26
  go_wp2_with fail
  go_ret
  exact ⟨rfl, rfl⟩
theorem there_any (p b : Nat) (w : World) (h : w.cell? ⟨p, 0, none⟩ = some (.pointer (some ⟨b, 0, none⟩))) :
    Calls Tryz.prog 36 #[.pointer (some ⟨p, 0, none⟩)] w fun e w' => e = .returned (.bool true) ∧ w = w' := by
  go_enter Tryz.func36, Tryz.ntmps36
  go_wp2_with fail
  go_ret
  exact ⟨rfl, rfl⟩
theorem there_nil (w : World) : Calls Tryz.prog 36 #[.pointer none] w fun e w' => e = .returned (.bool false) ∧ w = w' := by
  go_enter Tryz.func36, Tryz.ntmps36
  go_wp2_with fail
  go_ret
  exact ⟨rfl, rfl⟩

/-! ### Len, Files, Broken, At -/
theorem len_any {w : World} {B p nb b : Nat} {lv : Value} {L : List (List UInt8)} {br : Bool} (h : IsPL w B p nb b lv L br) :
    Calls Tryz.prog 55 #[.pointer (some ⟨p, 0, none⟩)] w fun e w' => e = .returned (.int .i64 (L.length : Nat)) ∧ w = w' := by
  obtain ⟨a, cp, rfl, hc⟩ := h.len
  have h0 := h.disk
  clear h
  go_enter Tryz.func55, Tryz.ntmps55
  go_wp2_with fail
  refine (there_any p b w h0).mono ?_
  rintro e w' ⟨rfl, rfl⟩
  go_wp2_with fail
  go_ret
  exact ⟨rfl, rfl⟩
theorem len_nil (w : World) : Calls Tryz.prog 55 #[.pointer none] w fun e w' => e = .returned (.int .i64 0) ∧ w = w' := by
  go_enter Tryz.func55, Tryz.ntmps55
  go_wp2_with fail
  refine (there_nil w).mono ?_
  rintro e w' ⟨rfl, rfl⟩
  go_wp2_with fail
  go_ret
  exact ⟨rfl, rfl⟩
theorem files_any {w : World} {B p nb b : Nat} {lv : Value} {L : List (List UInt8)} {br : Bool} (h : IsPL w B p nb b lv L br) (hl : L.length ≤ 1099511627776) :
    Calls Tryz.prog 56 #[.pointer (some ⟨p, 0, none⟩)] w fun e w' => e = .returned (.int .i64 (filesN L.length : Nat)) ∧ w = w' := by
  have H := Lib.hid h
  clear h
  go_enter Tryz.func56, Tryz.ntmps56
  go_wp2_with fail
  refine (len_any H.out).mono ?_
  rintro e w' ⟨rfl, rfl⟩
  go_wp2_with fail
  go_ret
  exact ⟨by unfold filesN; go_num, rfl⟩
theorem files_nil (w : World) : Calls Tryz.prog 56 #[.pointer none] w fun e w' => e = .returned (.int .i64 0) ∧ w = w' := by
  go_enter Tryz.func56, Tryz.ntmps56
  go_wp2_with fail
  refine (len_nil w).mono ?_
  rintro e w' ⟨rfl, rfl⟩
  go_wp2_with fail
  go_ret
  exact ⟨rfl, rfl⟩
theorem broken_any {w : World} {B p nb b : Nat} {lv : Value} {L : List (List UInt8)} {br : Bool} (h : IsPL w B p nb b lv L br) :
    Calls Tryz.prog 11 #[.pointer (some ⟨p, 0, none⟩)] w fun e w' => e = .returned (.bool br) ∧ w = w' := by
  have h0 := h.disk
  have h4 := h.broken
  clear h
  go_enter Tryz.func11, Tryz.ntmps11
  go_wp2_with fail
  refine (there_any p b w h0).mono ?_
  rintro e w' ⟨rfl, rfl⟩
  go_wp2_with fail
  go_ret
  exact ⟨rfl, rfl⟩
theorem broken_nil (w : World) : Calls Tryz.prog 11 #[.pointer none] w fun e w' => e = .returned (.bool false) ∧ w = w' := by
  go_enter Tryz.func11, Tryz.ntmps11
  go_wp2_with fail
  refine (there_nil w).mono ?_
  rintro e w' ⟨rfl, rfl⟩
  go_wp2_with fail
  go_ret
  exact ⟨rfl, rfl⟩
/-- the record at a place, or why not -/
def atT (L : List (List UInt8)) (i : Int) : ByteArray := if h : 0 ≤ i ∧ i < L.length then str (L[i.toNat]'(by omega)) else ⟨#[]⟩
def atC (L : List (List UInt8)) (i : Int) : Nat := if 0 ≤ i ∧ i < L.length then 0 else 2
def AtE (L : List (List UInt8)) (i : Int) (w : World) (e : Ending) (w' : World) : Prop := ∃ ev, e = .returned (.tuple #[.string (atT L i), ev]) ∧ FErr w w' ev (atC L i) i ∧ Below w.heap.size w w'
theorem at_any {w : World} {B p nb b : Nat} {lv : Value} {L : List (List UInt8)} {br : Bool} (i : Int) (h : IsPL w B p nb b lv L br) :
    Calls Tryz.prog 59 #[.pointer (some ⟨p, 0, none⟩), .int .i64 i] w (AtE L i w) := by
  unfold AtE
  have h0 := h.disk
  obtain ⟨a, cp, rfl, hc⟩ := h.len
  by_cases h1 : i < 0
  · have e1 : atT L i = ⟨#[]⟩ := dif_neg (by omega)
    have e2 : atC L i = 2 := if_neg (by omega)
    rw [e1, e2]
    clear h e1 e2
    go_enter Tryz.func59, Tryz.ntmps59
    go_wp2_with fail
    refine (there_any p b w h0).mono ?_
    rintro e w' ⟨rfl, rfl⟩
    go_wp2_with fail
    refine (lfault_any 2 i w).mono ?_
    rintro e w' ⟨rfl, rfl⟩
    go_wp2_with fail
    go_ret2
    exact ⟨_, rfl, FrameC.fault_is 2 (by decide) i w, FrameC.fault_below 2 i w⟩
  · obtain ⟨k, rfl⟩ := Int.eq_ofNat_of_zero_le (show 0 ≤ i by omega)
    by_cases h2 : k < L.length
    · have e1 : atT L (k : Int) = str L[k] := dif_pos ⟨by omega, by omega⟩
      have e2 : atC L (k : Int) = 0 := if_pos ⟨by omega, by omega⟩
      rw [e1, e2]
      have hrow := h.row
      obtain ⟨M, hM⟩ : ∃ M, M = L.map str := ⟨_, rfl⟩
      have hMl : M.length = L.length := by rw [hM, List.length_map]
      rw [← hM, ← hMl] at hrow
      obtain ⟨g, rfl, -, hg, hcl⟩ := own_cell hrow k (by omega)
      have hmk : M[k] = str L[k] := by simp [hM]
      rw [hmk] at hcl
      have hd : decide (L.length ≤ k) = false := by simp; omega
      have hk2 := h2
      clear h e1 e2 hrow hM hMl hmk
      generalize L[k] = x at *
      go_enter Tryz.func59, Tryz.ntmps59
      go_wp2_with fail
      refine (there_any p b w h0).mono ?_
      rintro e w' ⟨rfl, rfl⟩
      go_wp2_with fail
      go_ret2
      exact ⟨_, rfl, FErr.none _ _ _, Below.refl _ _⟩
    · have e1 : atT L (k : Int) = ⟨#[]⟩ := dif_neg (by omega)
      have e2 : atC L (k : Int) = 2 := if_neg (by omega)
      rw [e1, e2]
      have hd : decide (L.length ≤ k) = true := by simp; omega
      clear h e1 e2
      go_enter Tryz.func59, Tryz.ntmps59
      go_wp2_with fail
      refine (there_any p b w h0).mono ?_
      rintro e w' ⟨rfl, rfl⟩
      go_wp2_with fail
      refine (lfault_any 2 (k : Int) w).mono ?_
      rintro e w' ⟨rfl, rfl⟩
      go_wp2_with fail
      go_ret2
      exact ⟨_, rfl, FrameC.fault_is 2 (by decide) (k : Int) w, FrameC.fault_below 2 (k : Int) w⟩
theorem at_nil (i : Int) (w : World) :
    Calls Tryz.prog 59 #[.pointer none, .int .i64 i] w fun e w' => ∃ ev, e = .returned (.tuple #[.string ⟨#[]⟩, ev]) ∧ FErr w w' ev 1 (-1) ∧ Below w.heap.size w w' := by
  go_enter Tryz.func59, Tryz.ntmps59
  go_wp2_with fail
  refine (there_nil w).mono ?_
  rintro e w' ⟨rfl, rfl⟩
  go_wp2_with fail
  refine (lfault_any 1 (-1) w).mono ?_
  rintro e w' ⟨rfl, rfl⟩
  go_wp2_with fail
  go_ret2
  exact ⟨_, rfl, FrameC.fault_is 1 (by decide) (-1) w, FrameC.fault_below 1 (-1) w⟩
end LogP
end Go.Proofs.YtlnbjlidakdmlaaGreatDoor
