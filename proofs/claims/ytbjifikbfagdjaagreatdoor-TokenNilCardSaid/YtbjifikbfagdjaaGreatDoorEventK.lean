/-
  Package event's isKind and spare: is anything there that the kind does not name?
-/
import Derived.Test.YtbjifikbfagdjaaGreatDoorEventF
import Derived.Test.YtbjifikbfagdjaaGreatDoorEventTwin
namespace Go.Proofs.YtbjifikbfagdjaaGreatDoor
open Go.RowKit Go.Sort
namespace EvA
open StrC EvF EvC
set_option linter.unusedSimpArgs false
set_option linter.unusedVariables false

/-- fieldsOf answers this -/
def Fds (k : Nat) (L : List Int) : Prop := ∀ w, Calls Tryz.prog 81 #[.int .u8 k] w (FieldsE L w)
theorem fds_open {w w' : World} {v : Value} {L : List Int} (h : FRow w' w.heap.size v L) : ∃ a cp, v = .slice a L.length cp ∧ (0 < L.length → ∃ g, a = some ⟨g, 0, none⟩ ∧ w.heap.size ≤ g ∧ g < w'.heap.size ∧ ∀ i, i < L.length → w'.cell? ⟨g, i, none⟩ = some (.int .i64 (L.getD i 0))) := by
  have h0 : w'.ownsRow w.heap.size 144 1 v L.length (L.map (Value.int .i64)) := h
  rcases h.2 with ⟨hnil, hz⟩ | ⟨g, cp, cur, rfl, hbase, hblk, h1, h2, h3, h4⟩
  · exact ⟨none, 0, by rw [hz]; exact hnil, fun h => by omega⟩
  · refine ⟨_, cp, rfl, fun _ => ⟨g, rfl, hbase, (Array.getElem?_eq_some_iff.1 hblk).1, fun i hi => ?_⟩⟩
    rw [h0.cellAt i (by omega)]
    simp [hi]
theorem iskind_of {k : Nat} {L : List Int} (hL : Fds k L) (w : World) : Calls Tryz.prog 97 #[.int .u8 k] w fun e w' => e = .returned (.bool (decide (0 < L.length))) ∧ Below w.heap.size w w' := by
  have HF := Lib.hid (hL w)
  go_enter Tryz.func97, Tryz.ntmps97
  go_wp2_with fail
  refine HF.out.mono ?_
  rintro e w1 ⟨v, rfl, hr, hb⟩
  obtain ⟨a, cp, rfl, -⟩ := fds_open hr
  have HB := Lib.hid hb
  have hd : decide (0 < L.length) = decide ((0 : Int) < L.length) := by simp
  clear hr hb
  go_wp2_with fail
  go_ret
  exact ⟨by simp, HB.out⟩
def blankF (e : EvG) (x : Int) : EvG :=
  if x = 0 then { e with who := [] } else if x = 1 then { e with name := [] } else if x = 2 then { e with ver := [] } else if x = 3 then { e with na := none, nc := 0, needs := [] } else if x = 4 then { e with sum := 0 }
  else if x = 5 then { e with n := 0 } else if x = 6 then { e with size := 0 } else if x = 7 then { e with holder := [] } else { e with note := [] }
def blankL (e : EvG) (L : List Int) : EvG := L.foldl blankF e
def kindE (k : Nat) : EvG := ⟨k, [], [], [], none, 0, [], 0, 0, 0, [], []⟩
theorem ev_v (e : EvG) : evV e = .agg #[.int .u8 e.k, .string (str e.who), .string (str e.name), .string (str e.ver), .slice e.na e.needs.length e.nc, .int .u64 e.sum, .int .u32 e.n, .int .u32 e.size, .string (str e.holder), .string (str e.note)] := rfl
theorem kind_v (k : Nat) : evV (kindE k) = .agg #[.int .u8 k, .string ⟨#[]⟩, .string ⟨#[]⟩, .string ⟨#[]⟩, .slice none 0 0, .int .u64 0, .int .u32 0, .int .u32 0, .string ⟨#[]⟩, .string ⟨#[]⟩] := by rfl
theorem blank_succ (e : EvG) (L : List Int) (j : Nat) (h : j < L.length) : blankL e (L.take (j + 1)) = blankF (blankL e (L.take j)) (L.getD j 0) := by
  unfold blankL
  rw [List.take_add_one, List.getElem?_eq_getElem h, List.foldl_append]
  simp [h]
theorem blank_k (e : EvG) (x : Int) : (blankF e x).k = e.k := by unfold blankF; (repeat' split) <;> rfl
theorem blank_ne {w : World} {e : EvG} (h : NeIn w e.na e.nc e.needs) (x : Int) : NeIn w (blankF e x).na (blankF e x).nc (blankF e x).needs := by
  unfold blankF
  (repeat' split) <;> first | exact h | exact NeIn.no w
theorem blankL_k (L : List Int) : ∀ (e : EvG), (blankL e L).k = e.k := by
  induction L with
  | nil => intro e; rfl
  | cons x r ih => intro e; show (blankL (blankF e x) r).k = _; rw [ih, blank_k]
theorem blankL_ne {w : World} (L : List Int) : ∀ {e : EvG}, NeIn w e.na e.nc e.needs → NeIn w (blankL e L).na (blankL e L).nc (blankL e L).needs := by
  induction L with
  | nil => intro e h; exact h
  | cons x r ih => intro e h; exact ih (blank_ne h x)
/-- of what was there only one block may have been written -/
structure Lk (p : Nat) (w wr : World) : Prop where
  os : wr.os = w.os
  tape : wr.tape = w.tape
  output : wr.output = w.output
  size : w.heap.size ≤ wr.heap.size
  block : ∀ k, k < w.heap.size → k ≠ p → wr.heap[k]? = w.heap[k]?
theorem Lk.set {p : Nat} {w wr : World} (h : Lk p w wr) (i : Nat) (v : Value) : Lk p w (wr.setCell ⟨p, i, none⟩ v) := ⟨h.os, h.tape, h.output, by simpa using h.size, fun k hk hne => by rw [set_else i v hne]; exact h.block k hk hne⟩
theorem Lk.low {p D : Nat} {w0 w wr : World} (h : Lk p w wr) (h0 : Below D w0 w) (hp : D ≤ p) (hD : D ≤ w.heap.size) : Below D w0 wr := h0.trans ⟨h.os, h.tape, h.output, h.size, fun k hk => h.block k (by omega) (by omega)⟩
set_option maxHeartbeats 8000000 in
set_option maxRecDepth 100000 in
theorem spare_of {e : EvG} {L : List Int} (hL : Fds e.k L) (hf : ∀ x ∈ L, 0 ≤ x ∧ x ≤ 9) (hl : L.length ≤ 100) (w : World) (hN : NeIn w e.na e.nc e.needs) :
    Calls Tryz.prog 98 #[evV e] w fun e' w' => e' = .returned (.bool (!sameE (blankL e L) (kindE e.k))) ∧ Below w.heap.size w w' := by
  have HF := Lib.hid (hL (w.alloc (evO e)))
  have hB0 : Below w.heap.size w (w.alloc (evO e)) := (Below.refl _ w).alloc (Nat.le_refl _) _
  have HB0 := Lib.hid hB0
  have HN0 := Lib.hid hN
  have hr := heap_alloc_new w (evO e)
  have HFD : Hid (∀ j, j < L.length → 0 ≤ L.getD j 0 ∧ L.getD j 0 ≤ 9) := Lib.hid (fun j hj => hf _ (by simp [hj]))
  have HS : Hid (∀ W, NeIn W (blankL e L).na (blankL e L).nc (blankL e L).needs → Calls Tryz.prog 132 #[evV (blankL e L), evV (kindE e.k)] W fun e' w' => e' = .returned (.bool (sameE (blankL e L) (kindE e.k))) ∧ Below W.heap.size W w') := Lib.hid (fun W h => psame_any _ _ W h (NeIn.no W))
  obtain ⟨c0, c1, c2, c3, c4, c5, c6, c7, c8, c9⟩ := ev_cells hr
  have hs0 : (w.alloc (evO e)).heap.size = w.heap.size + 1 := by simp
  clear hN hB0 hL hf
  go_enter Tryz.func98, Tryz.ntmps98
  go_wp2_with fail
  refine HF.out.mono ?_
  rintro e1 w1 ⟨v, rfl, hrow, hb⟩
  obtain ⟨a, cp, rfl, hcell⟩ := fds_open hrow
  have HCL := Lib.hid hcell
  have HB1 := Lib.hid hb
  have HR1 : Hid (w1.heap[w.heap.size]? = some (evO e)) := Lib.hid ((hb.block _ (by omega)).trans hr)
  clear hrow hcell hb hr c0 c1 c2 c3 c4 c5 c6 c7 c8 c9 HF
  go_wp2_with fail
  go_loopw [4, 9] (fun _ i wr => ∃ j : Nat, i = .int .i64 j ∧ j ≤ L.length ∧ Hid (wr.heap[w.heap.size]? = some (evO (blankL e (L.take j)))) ∧ Hid (Lk w.heap.size w1 wr)) (fun _ i _ => L.length - (intOf i).toNat)
  case atStart => exact ⟨0, rfl, Nat.zero_le _, HR1, Lib.hid ⟨rfl, rfl, rfl, Nat.le_refl _, fun k _ _ => rfl⟩⟩
  case round =>
    obtain ⟨j, rfl, hj, HR, HK⟩ := hrel
    rename World => wr
    have hrow := HR.out
    obtain ⟨c0, c1, c2, c3, c4, c5, c6, c7, c8, c9⟩ := ev_cells hrow
    by_cases hlt : j < L.length
    · have hdec : decide (j < L.length) = true := by simpa using hlt
      obtain ⟨g, rfl, hg0, hg1, hcl⟩ := HCL.out (by omega)
      have hc : wr.cell? ⟨g, j, none⟩ = some (.int .i64 (L.getD j 0)) := by
        rw [World.cell?_of_block (a := ⟨g, j, none⟩) (HK.out.block g hg1 (by omega))]; exact hcl j hlt
      have HBS := Lib.hid (blank_succ e L j hlt)
      obtain ⟨f0, f9⟩ := HFD.out j hlt
      clear hcl
      generalize L.getD j 0 = x at *
      generalize blankL e (L.take j) = ej at *
      have hx : x = 0 ∨ x = 1 ∨ x = 2 ∨ x = 3 ∨ x = 4 ∨ x = 5 ∨ x = 6 ∨ x = 7 ∨ x = 8 ∨ x = 9 := by omega
      clear f0 f9
      rcases hx with rfl | rfl | rfl | rfl | rfl | rfl | rfl | rfl | rfl | rfl
      · have ffz := no_frozen hrow 1
        clear hrow c0 c2 c3 c4 c5 c6 c7 c8 c9
        go_wp2_with fail
        go_roundw
        case rel => exact ⟨j + 1, by go_num, by omega, Lib.hid (by rw [HBS.out, set_row HR.out]; rfl), Lib.hid (HK.out.set _ _)⟩
        case measure => simp [intOf]; omega
      · have ffz := no_frozen hrow 2
        clear hrow c0 c1 c3 c4 c5 c6 c7 c8 c9
        go_wp2_with fail
        go_roundw
        case rel => exact ⟨j + 1, by go_num, by omega, Lib.hid (by rw [HBS.out, set_row HR.out]; rfl), Lib.hid (HK.out.set _ _)⟩
        case measure => simp [intOf]; omega
      · have ffz := no_frozen hrow 3
        clear hrow c0 c1 c2 c4 c5 c6 c7 c8 c9
        go_wp2_with fail
        go_roundw
        case rel => exact ⟨j + 1, by go_num, by omega, Lib.hid (by rw [HBS.out, set_row HR.out]; rfl), Lib.hid (HK.out.set _ _)⟩
        case measure => simp [intOf]; omega
      · have ffz := no_frozen hrow 4
        clear hrow c0 c1 c2 c3 c5 c6 c7 c8 c9
        go_wp2_with fail
        go_roundw
        case rel => exact ⟨j + 1, by go_num, by omega, Lib.hid (by rw [HBS.out, set_row HR.out]; rfl), Lib.hid (HK.out.set _ _)⟩
        case measure => simp [intOf]; omega
      · have ffz := no_frozen hrow 5
        clear hrow c0 c1 c2 c3 c4 c6 c7 c8 c9
        go_wp2_with fail
        go_roundw
        case rel => exact ⟨j + 1, by go_num, by omega, Lib.hid (by rw [HBS.out, set_row HR.out]; rfl), Lib.hid (HK.out.set _ _)⟩
        case measure => simp [intOf]; omega
      · have ffz := no_frozen hrow 6
        clear hrow c0 c1 c2 c3 c4 c5 c7 c8 c9
        go_wp2_with fail
        go_roundw
        case rel => exact ⟨j + 1, by go_num, by omega, Lib.hid (by rw [HBS.out, set_row HR.out]; rfl), Lib.hid (HK.out.set _ _)⟩
        case measure => simp [intOf]; omega
      · have ffz := no_frozen hrow 7
        clear hrow c0 c1 c2 c3 c4 c5 c6 c8 c9
        go_wp2_with fail
        go_roundw
        case rel => exact ⟨j + 1, by go_num, by omega, Lib.hid (by rw [HBS.out, set_row HR.out]; rfl), Lib.hid (HK.out.set _ _)⟩
        case measure => simp [intOf]; omega
      · have ffz := no_frozen hrow 8
        clear hrow c0 c1 c2 c3 c4 c5 c6 c7 c9
        go_wp2_with fail
        go_roundw
        case rel => exact ⟨j + 1, by go_num, by omega, Lib.hid (by rw [HBS.out, set_row HR.out]; rfl), Lib.hid (HK.out.set _ _)⟩
        case measure => simp [intOf]; omega
      · have ffz := no_frozen hrow 9
        clear hrow c0 c1 c2 c3 c4 c5 c6 c7 c8
        go_wp2_with fail
        go_roundw
        case rel => exact ⟨j + 1, by go_num, by omega, Lib.hid (by rw [HBS.out, set_row HR.out]; rfl), Lib.hid (HK.out.set _ _)⟩
        case measure => simp [intOf]; omega
      · have ffz := no_frozen hrow 9
        clear hrow c0 c1 c2 c3 c4 c5 c6 c7 c8
        go_wp2_with fail
        go_roundw
        case rel => exact ⟨j + 1, by go_num, by omega, Lib.hid (by rw [HBS.out, set_row HR.out]; rfl), Lib.hid (HK.out.set _ _)⟩
        case measure => simp [intOf]; omega
    · have hdec : decide (j < L.length) = false := by simpa using hlt
      have hje : j = L.length := by omega
      subst hje
      have HBW := Lib.hid (HK.out.low (HB0.out.trans (HB1.out.mono HB0.out.size)) (Nat.le_refl _) (Nat.le_trans HB0.out.size HB1.out.size))
      have hk := blankL_k L e
      have HNE : Hid (NeIn wr (blankL e L).na (blankL e L).nc (blankL e L).needs) := Lib.hid (blankL_ne L (HN0.out.gr HBW.out))
      rw [List.take_length] at c0 c1 c2 c3 c4 c5 c6 c7 c8 c9 HR
      have hsw := HS.out wr HNE.out
      rw [kind_v] at hsw
      rw [ev_v, hk] at hsw
      have HSW := Lib.hid hsw
      clear hsw
      clear hrow hlt hj
      have hc0 : wr.cell? ⟨w.heap.size, 0, none⟩ = some (.int .u8 e.k) := by rw [c0, hk]
      generalize hE : blankL e L = E at hk HNE HSW c0 c1 c2 c3 c4 c5 c6 c7 c8 c9 hc0
      have HE := Lib.hid hE
      clear hE
      clear HS HCL HFD HR1 HB0 HB1 HN0 HR HK HNE
      go_wp2_with fail
      with_reducible refine HSW.out.mono ?_
      rintro e2 w2 ⟨rfl, hb2⟩
      have HB2 := Lib.hid (HBW.out.trans (hb2.mono HBW.out.size))
      clear hb2
      go_wp2_with fail
      go_ret
      exact ⟨by rw [HE.out]; rfl, HB2.out⟩
end EvA
end Go.Proofs.YtbjifikbfagdjaaGreatDoor
