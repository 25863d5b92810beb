/-
  What the proof of EvBoth stands on, part 21.
-/
import Derived.Test.YtfbegbmjmhnplaaGreatDoorT19
set_option linter.unusedSimpArgs false
set_option linter.unusedVariables false
set_option maxHeartbeats 16000000
namespace Go.Proofs.YtfbegbmjmhnplaaGreatDoor
open Go.Lib (hid)
section
open Go.RowKit Go.Sort
namespace EvA
open StrC EvF EvC
def Fds (k : Nat) (L : List Int) : Prop := ∀ w, Calls Tryz.prog 32 #[.int .u8 k] w (FieldsE L w)
theorem zsq {w w' : World} {v : Value} {L : List Int} (h : FRow w' w.heap.size v L) : ∃ a cp, v = .slice a L.length cp ∧ (0 < L.length → ∃ g, a = some ⟨g, 0, none⟩ ∧ w.heap.size ≤ g ∧ g < w'.heap.size ∧ ∀ i, i < L.length → w'.cell? ⟨g, i, none⟩ = some (.int .i64 (L.getD i 0))) := by
 have h0 : w'.ownsRow w.heap.size 77 1 v L.length (L.map (Value.int .i64)) := h
 rcases h.2 with ⟨hnil, hz⟩ | ⟨g, cp, cur, rfl, hbase, hblk, h1, h2, h3, h4⟩
 · exact ⟨none, 0, by rw [hz]; exact hnil, fun h => by omega⟩
 · refine ⟨_, cp, rfl, fun _ => ⟨g, rfl, hbase, (Array.getElem?_eq_some_iff.1 hblk).1, fun i hi => ?_⟩⟩
   rw [h0.cellAt i (by omega)]
   simp [hi]
theorem zsr {k : Nat} {L : List Int} (hL : Fds k L) (w : World) : Calls Tryz.prog 30 #[.int .u8 k] w fun e w' => e = .returned (.bool (decide (0 < L.length))) ∧ Below w.heap.size w w' := by
 have HF := hid (hL w)
 go_enter Tryz.func30, Tryz.ntmps30
 go_wp2_with fail
 refine HF.out.mono ?_
 rintro e w1 ⟨v, rfl, hr, hb⟩
 obtain ⟨a, cp, rfl, -⟩ := zsq hr
 have HB := hid hb
 have hd : decide (0 < L.length) = decide ((0 : Int) < L.length) := by simp
 clear hr hb
 go_wp2_with fail
 go_ret
 exact ⟨by simp, HB.out⟩
def zss (e : EvG) (x : Int) : EvG :=
 if x = 0 then { e with who := [] } else if x = 1 then { e with name := [] } else if x = 2 then { e with ver := [] } else if x = 3 then { e with na := none, nc := 0, needs := [] } else if x = 4 then { e with sum := 0 }
 else if x = 5 then { e with n := 0 } else if x = 6 then { e with size := 0 } else if x = 7 then { e with holder := [] } else { e with note := [] }
def zst (e : EvG) (L : List Int) : EvG := L.foldl zss e
def kindE (k : Nat) : EvG := ⟨k, [], [], [], none, 0, [], 0, 0, 0, [], []⟩
theorem ev_v (e : EvG) : evV e = .agg #[.int .u8 e.k, .string (str e.who), .string (str e.name), .string (str e.ver), .slice e.na e.needs.length e.nc, .int .u64 e.sum, .int .u32 e.n, .int .u32 e.size, .string (str e.holder), .string (str e.note)] := rfl
theorem kind_v (k : Nat) : evV (kindE k) = .agg #[.int .u8 k, .string ⟨#[]⟩, .string ⟨#[]⟩, .string ⟨#[]⟩, .slice none 0 0, .int .u64 0, .int .u32 0, .int .u32 0, .string ⟨#[]⟩, .string ⟨#[]⟩] := by rfl
theorem zsu (e : EvG) (L : List Int) (j : Nat) (h : j < L.length) : zst e (L.take (j + 1)) = zss (zst e (L.take j)) (L.getD j 0) := by
 unfold zst
 rw [List.take_add_one, List.getElem?_eq_getElem h, List.foldl_append]
 simp [h]
theorem blank_k (e : EvG) (x : Int) : (zss e x).k = e.k := by unfold zss; (repeat' split) <;> rfl
theorem zsv {w : World} {e : EvG} (h : NeIn w e.na e.nc e.needs) (x : Int) : NeIn w (zss e x).na (zss e x).nc (zss e x).needs := by
 unfold zss
 (repeat' split) <;> first | exact h | exact NeIn.no w
theorem zsw (L : List Int) : ∀ (e : EvG), (zst e L).k = e.k := by
 induction L with
 | nil => intro e; rfl
 | cons x r ih => intro e; show (zst (zss e x) r).k = _; rw [ih, blank_k]
theorem zsx {w : World} (L : List Int) : ∀ {e : EvG}, NeIn w e.na e.nc e.needs → NeIn w (zst e L).na (zst e L).nc (zst e L).needs := by
 induction L with
 | nil => intro e h; exact h
 | cons x r ih => intro e h; exact ih (zsv h x)
structure Lk (p : Nat) (w wr : World) : Prop where
 os : wr.os = w.os
 tape : wr.tape = w.tape
 output : wr.output = w.output
 size : w.heap.size ≤ wr.heap.size
 block : ∀ k, k < w.heap.size → k ≠ p → wr.heap[k]? = w.heap[k]?
theorem Lk.set {p : Nat} {w wr : World} (h : Lk p w wr) (i : Nat) (v : Value) : Lk p w (wr.setCell ⟨p, i, none⟩ v) := ⟨h.os, h.tape, h.output, by simpa using h.size, fun k hk hne => by rw [zpd i v hne]; exact h.block k hk hne⟩
theorem Lk.low {p D : Nat} {w0 w wr : World} (h : Lk p w wr) (h0 : Below D w0 w) (hp : D ≤ p) (hD : D ≤ w.heap.size) : Below D w0 wr := h0.trans ⟨h.os, h.tape, h.output, h.size, fun k hk => h.block k (by omega) (by omega)⟩
set_option maxRecDepth 100000 in
theorem zsy {e : EvG} {L : List Int} (hL : Fds e.k L) (hf : ∀ x ∈ L, 0 ≤ x ∧ x ≤ 9) (hl : L.length ≤ 100) (w : World) (hN : NeIn w e.na e.nc e.needs) :
 Calls Tryz.prog 31 #[evV e] w fun e' w' => e' = .returned (.bool (!sameE (zst e L) (kindE e.k))) ∧ Below w.heap.size w w' := by
 have HF := hid (hL (w.alloc (evO e)))
 have hB0 : Below w.heap.size w (w.alloc (evO e)) := (Below.refl _ w).alloc (Nat.le_refl _) _
 have HB0 := hid hB0
 have HN0 := hid hN
 have hr := heap_alloc_new w (evO e)
 have HFD : Hid (∀ j, j < L.length → 0 ≤ L.getD j 0 ∧ L.getD j 0 ≤ 9) := hid (fun j hj => hf _ (by simp [hj]))
 have HS : Hid (∀ W, NeIn W (zst e L).na (zst e L).nc (zst e L).needs → Calls Tryz.prog 14 #[evV (zst e L), evV (kindE e.k)] W fun e' w' => e' = .returned (.bool (sameE (zst e L) (kindE e.k))) ∧ Below W.heap.size W w') := hid (fun W h => zow _ _ W h (NeIn.no W))
 obtain ⟨c0, c1, c2, c3, c4, c5, c6, c7, c8, c9⟩ := zos hr
 have hs0 : (w.alloc (evO e)).heap.size = w.heap.size + 1 := by simp
 clear hN hB0 hL hf
 go_enter Tryz.func31, Tryz.ntmps31
 go_wp2_with fail
 refine HF.out.mono ?_
 rintro e1 w1 ⟨v, rfl, hrow, hb⟩
 obtain ⟨a, cp, rfl, hcell⟩ := zsq hrow
 have HCL := hid hcell
 have HB1 := hid hb
 have HR1 : Hid (w1.heap[w.heap.size]? = some (evO e)) := hid ((hb.block _ (by omega)).trans hr)
 clear hrow hcell hb hr c0 c1 c2 c3 c4 c5 c6 c7 c8 c9 HF
 go_wp2_with fail
 go_loopw [4, 9] (fun _ i wr => ∃ j : Nat, i = .int .i64 j ∧ j ≤ L.length ∧ Hid (wr.heap[w.heap.size]? = some (evO (zst e (L.take j)))) ∧ Hid (Lk w.heap.size w1 wr)) (fun _ i _ => L.length - (intOf i).toNat)
 case atStart => exact ⟨0, rfl, Nat.zero_le _, HR1, hid ⟨rfl, rfl, rfl, Nat.le_refl _, fun k _ _ => rfl⟩⟩
 case round =>
  obtain ⟨j, rfl, hj, HR, HK⟩ := hrel
  rename World => wr
  have hrow := HR.out
  obtain ⟨c0, c1, c2, c3, c4, c5, c6, c7, c8, c9⟩ := zos hrow
  by_cases hlt : j < L.length
  · have hdec : decide (j < L.length) = true := by simpa using hlt
    obtain ⟨g, rfl, hg0, hg1, hcl⟩ := HCL.out (by omega)
    have hc : wr.cell? ⟨g, j, none⟩ = some (.int .i64 (L.getD j 0)) := by
     rw [World.cell?_of_block (a := ⟨g, j, none⟩) (HK.out.block g hg1 (by omega))]; exact hcl j hlt
    have HBS := hid (zsu e L j hlt)
    obtain ⟨f0, f9⟩ := HFD.out j hlt
    clear hcl
    generalize L.getD j 0 = x at *
    generalize zst e (L.take j) = ej at *
    have hx : x = 0 ∨ x = 1 ∨ x = 2 ∨ x = 3 ∨ x = 4 ∨ x = 5 ∨ x = 6 ∨ x = 7 ∨ x = 8 ∨ x = 9 := by omega
    clear f0 f9
    rcases hx with rfl | rfl | rfl | rfl | rfl | rfl | rfl | rfl | rfl | rfl
    · have ffz := zpe hrow 1
      clear hrow c0 c2 c3 c4 c5 c6 c7 c8 c9
      go_wp2_with fail
      go_roundw
      case rel => exact ⟨j + 1, by go_num, by omega, hid (by rw [HBS.out, zpc HR.out]; rfl), hid (HK.out.set _ _)⟩
      case measure => simp [intOf]; omega
    · have ffz := zpe hrow 2
      clear hrow c0 c1 c3 c4 c5 c6 c7 c8 c9
      go_wp2_with fail
      go_roundw
      case rel => exact ⟨j + 1, by go_num, by omega, hid (by rw [HBS.out, zpc HR.out]; rfl), hid (HK.out.set _ _)⟩
      case measure => simp [intOf]; omega
    · have ffz := zpe hrow 3
      clear hrow c0 c1 c2 c4 c5 c6 c7 c8 c9
      go_wp2_with fail
      go_roundw
      case rel => exact ⟨j + 1, by go_num, by omega, hid (by rw [HBS.out, zpc HR.out]; rfl), hid (HK.out.set _ _)⟩
      case measure => simp [intOf]; omega
    · have ffz := zpe hrow 4
      clear hrow c0 c1 c2 c3 c5 c6 c7 c8 c9
      go_wp2_with fail
      go_roundw
      case rel => exact ⟨j + 1, by go_num, by omega, hid (by rw [HBS.out, zpc HR.out]; rfl), hid (HK.out.set _ _)⟩
      case measure => simp [intOf]; omega
    · have ffz := zpe hrow 5
      clear hrow c0 c1 c2 c3 c4 c6 c7 c8 c9
      go_wp2_with fail
      go_roundw
      case rel => exact ⟨j + 1, by go_num, by omega, hid (by rw [HBS.out, zpc HR.out]; rfl), hid (HK.out.set _ _)⟩
      case measure => simp [intOf]; omega
    · have ffz := zpe hrow 6
      clear hrow c0 c1 c2 c3 c4 c5 c7 c8 c9
      go_wp2_with fail
      go_roundw
      case rel => exact ⟨j + 1, by go_num, by omega, hid (by rw [HBS.out, zpc HR.out]; rfl), hid (HK.out.set _ _)⟩
      case measure => simp [intOf]; omega
    · have ffz := zpe hrow 7
      clear hrow c0 c1 c2 c3 c4 c5 c6 c8 c9
      go_wp2_with fail
      go_roundw
      case rel => exact ⟨j + 1, by go_num, by omega, hid (by rw [HBS.out, zpc HR.out]; rfl), hid (HK.out.set _ _)⟩
      case measure => simp [intOf]; omega
    · have ffz := zpe hrow 8
      clear hrow c0 c1 c2 c3 c4 c5 c6 c7 c9
      go_wp2_with fail
      go_roundw
      case rel => exact ⟨j + 1, by go_num, by omega, hid (by rw [HBS.out, zpc HR.out]; rfl), hid (HK.out.set _ _)⟩
      case measure => simp [intOf]; omega
    · have ffz := zpe hrow 9
      clear hrow c0 c1 c2 c3 c4 c5 c6 c7 c8
      go_wp2_with fail
      go_roundw
      case rel => exact ⟨j + 1, by go_num, by omega, hid (by rw [HBS.out, zpc HR.out]; rfl), hid (HK.out.set _ _)⟩
      case measure => simp [intOf]; omega
    · have ffz := zpe hrow 9
      clear hrow c0 c1 c2 c3 c4 c5 c6 c7 c8
      go_wp2_with fail
      go_roundw
      case rel => exact ⟨j + 1, by go_num, by omega, hid (by rw [HBS.out, zpc HR.out]; rfl), hid (HK.out.set _ _)⟩
      case measure => simp [intOf]; omega
  · have hdec : decide (j < L.length) = false := by simpa using hlt
    have hje : j = L.length := by omega
    subst hje
    have HBW := hid (HK.out.low (HB0.out.trans (HB1.out.mono HB0.out.size)) (Nat.le_refl _) (Nat.le_trans HB0.out.size HB1.out.size))
    have hk := zsw L e
    have HNE : Hid (NeIn wr (zst e L).na (zst e L).nc (zst e L).needs) := hid (zsx L (HN0.out.gr HBW.out))
    rw [List.take_length] at c0 c1 c2 c3 c4 c5 c6 c7 c8 c9 HR
    have hsw := HS.out wr HNE.out
    rw [kind_v] at hsw
    rw [ev_v, hk] at hsw
    have HSW := hid hsw
    clear hsw
    clear hrow hlt hj
    have hc0 : wr.cell? ⟨w.heap.size, 0, none⟩ = some (.int .u8 e.k) := by rw [c0, hk]
    generalize hE : zst e L = E at hk HNE HSW c0 c1 c2 c3 c4 c5 c6 c7 c8 c9 hc0
    have HE := hid hE
    clear hE
    clear HS HCL HFD HR1 HB0 HB1 HN0 HR HK HNE
    go_wp2_with fail
    with_reducible refine HSW.out.mono ?_
    rintro e2 w2 ⟨rfl, hb2⟩
    have HB2 := hid (HBW.out.trans (hb2.mono HBW.out.size))
    clear hb2
    go_wp2_with fail
    go_ret
    exact ⟨by rw [HE.out]; rfl, HB2.out⟩
end EvA
end
end Go.Proofs.YtfbegbmjmhnplaaGreatDoor
