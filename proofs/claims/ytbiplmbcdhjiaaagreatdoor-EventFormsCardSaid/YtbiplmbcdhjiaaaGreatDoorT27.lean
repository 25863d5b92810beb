/-
  What the proof of EventForms stands on, part 27.
-/
import Derived.Lib.CountLaws
import Derived.Lib.Replace
import Derived.Test.YtbiplmbcdhjiaaaGreatDoorT24
import Derived.Test.YtbiplmbcdhjiaaaGreatDoorT26
set_option linter.unusedSimpArgs false
set_option linter.unusedVariables false
set_option maxHeartbeats 16000000
namespace Go.Proofs.YtbiplmbcdhjiaaaGreatDoor
open Go.Lib (hid)
section
open Go.RowKit Go.Sort
namespace EvA
open StrC EvF EvC
def Fds (k : Nat) (L : List Int) : Prop := ∀ w, Calls Tryz.prog 32 #[.int .u8 k] w (FieldsE L w)
theorem ztu {w w' : World} {v : Value} {L : List Int} (h : FRow w' w.heap.size v L) : ∃ a cp, v = .slice a L.length cp ∧ (0 < L.length → ∃ g, a = some ⟨g, 0, none⟩ ∧ w.heap.size ≤ g ∧ g < w'.heap.size ∧ ∀ i, i < L.length → w'.cell? ⟨g, i, none⟩ = some (.int .i64 (L.getD i 0))) := by
 have h0 : w'.ownsRow w.heap.size 64 1 v L.length (L.map (Value.int .i64)) := h
 rcases h.2 with ⟨hnil, hz⟩ | ⟨g, cp, cur, rfl, hbase, hblk, h1, h2, h3, h4⟩
 · exact ⟨none, 0, by rw [hz]; exact hnil, fun h => by omega⟩
 · refine ⟨_, cp, rfl, fun _ => ⟨g, rfl, hbase, (Array.getElem?_eq_some_iff.1 hblk).1, fun i hi => ?_⟩⟩
   rw [h0.cellAt i (by omega)]
   simp [hi]
theorem ztv {k : Nat} {L : List Int} (hL : Fds k L) (w : World) : Calls Tryz.prog 30 #[.int .u8 k] w fun e w' => e = .returned (.bool (decide (0 < L.length))) ∧ Below w.heap.size w w' := by
 have HF := hid (hL w)
 go_enter Tryz.func30, Tryz.ntmps30
 go_wp2_with fail
 refine HF.out.mono ?_
 rintro e w1 ⟨v, rfl, hr, hb⟩
 obtain ⟨a, cp, rfl, -⟩ := ztu hr
 have HB := hid hb
 have hd : decide (0 < L.length) = decide ((0 : Int) < L.length) := by simp
 clear hr hb
 go_wp2_with fail
 go_ret
 exact ⟨by simp, HB.out⟩
def blankF (e : EvG) (x : Int) : EvG :=
 if x = 0 then { e with who := [] } else if x = 1 then { e with name := [] } else if x = 2 then { e with ver := [] } else if x = 3 then { e with na := none, nc := 0, needs := [] } else if x = 4 then { e with sum := 0 }
 else if x = 5 then { e with n := 0 } else if x = 6 then { e with size := 0 } else if x = 7 then { e with holder := [] } else { e with note := [] }
def blankL (e : EvG) (L : List Int) : EvG := L.foldl blankF e
def kindE (k : Nat) : EvG := ⟨k, [], [], [], none, 0, [], 0, 0, 0, [], []⟩
theorem ev_v (e : EvG) : evV e = .agg #[.int .u8 e.k, .string (str e.who), .string (str e.name), .string (str e.ver), .slice e.na e.needs.length e.nc, .int .u64 e.sum, .int .u32 e.n, .int .u32 e.size, .string (str e.holder), .string (str e.note)] := rfl
theorem kind_v (k : Nat) : evV (kindE k) = .agg #[.int .u8 k, .string ⟨#[]⟩, .string ⟨#[]⟩, .string ⟨#[]⟩, .slice none 0 0, .int .u64 0, .int .u32 0, .int .u32 0, .string ⟨#[]⟩, .string ⟨#[]⟩] := by rfl
theorem ztw (e : EvG) (L : List Int) (j : Nat) (h : j < L.length) : blankL e (L.take (j + 1)) = blankF (blankL e (L.take j)) (L.getD j 0) := by
 unfold blankL
 rw [List.take_add_one, List.getElem?_eq_getElem h, List.foldl_append]
 simp [h]
theorem blank_k (e : EvG) (x : Int) : (blankF e x).k = e.k := by unfold blankF; (repeat' split) <;> rfl
theorem ztx {w : World} {e : EvG} (h : NeIn w e.na e.nc e.needs) (x : Int) : NeIn w (blankF e x).na (blankF e x).nc (blankF e x).needs := by
 unfold blankF
 (repeat' split) <;> first | exact h | exact NeIn.no w
theorem zty (L : List Int) : ∀ (e : EvG), (blankL e L).k = e.k := by
 induction L with
 | nil => intro e; rfl
 | cons x r ih => intro e; show (blankL (blankF e x) r).k = _; rw [ih, blank_k]
theorem ztz {w : World} (L : List Int) : ∀ {e : EvG}, NeIn w e.na e.nc e.needs → NeIn w (blankL e L).na (blankL e L).nc (blankL e L).needs := by
 induction L with
 | nil => intro e h; exact h
 | cons x r ih => intro e h; exact ih (ztx h x)
structure Lk (p : Nat) (w wr : World) : Prop where
 os : wr.os = w.os
 tape : wr.tape = w.tape
 output : wr.output = w.output
 size : w.heap.size ≤ wr.heap.size
 block : ∀ k, k < w.heap.size → k ≠ p → wr.heap[k]? = w.heap[k]?
theorem Lk.set {p : Nat} {w wr : World} (h : Lk p w wr) (i : Nat) (v : Value) : Lk p w (wr.setCell ⟨p, i, none⟩ v) := ⟨h.os, h.tape, h.output, by simpa using h.size, fun k hk hne => by rw [ztr i v hne]; exact h.block k hk hne⟩
theorem Lk.low {p D : Nat} {w0 w wr : World} (h : Lk p w wr) (h0 : Below D w0 w) (hp : D ≤ p) (hD : D ≤ w.heap.size) : Below D w0 wr := h0.trans ⟨h.os, h.tape, h.output, h.size, fun k hk => h.block k (by omega) (by omega)⟩
set_option maxRecDepth 100000 in
theorem zua {e : EvG} {L : List Int} (hL : Fds e.k L) (hf : ∀ x ∈ L, 0 ≤ x ∧ x ≤ 9) (hl : L.length ≤ 100) (w : World) (hN : NeIn w e.na e.nc e.needs) :
 Calls Tryz.prog 31 #[evV e] w fun e' w' => e' = .returned (.bool (!sameE (blankL e L) (kindE e.k))) ∧ Below w.heap.size w w' := by
 have HF := hid (hL (w.alloc (evO e)))
 have hB0 : Below w.heap.size w (w.alloc (evO e)) := (Below.refl _ w).alloc (Nat.le_refl _) _
 have HB0 := hid hB0
 have HN0 := hid hN
 have hr := heap_alloc_new w (evO e)
 have HFD : Hid (∀ j, j < L.length → 0 ≤ L.getD j 0 ∧ L.getD j 0 ≤ 9) := hid (fun j hj => hf _ (by simp [hj]))
 have HS : Hid (∀ W, NeIn W (blankL e L).na (blankL e L).nc (blankL e L).needs → Calls Tryz.prog 15 #[evV (blankL e L), evV (kindE e.k)] W fun e' w' => e' = .returned (.bool (sameE (blankL e L) (kindE e.k))) ∧ Below W.heap.size W w') := hid (fun W h => zti _ _ W h (NeIn.no W))
 obtain ⟨c0, c1, c2, c3, c4, c5, c6, c7, c8, c9⟩ := ztd hr
 have hs0 : (w.alloc (evO e)).heap.size = w.heap.size + 1 := by simp
 clear hN hB0 hL hf
 go_enter Tryz.func31, Tryz.ntmps31
 go_wp2_with fail
 refine HF.out.mono ?_
 rintro e1 w1 ⟨v, rfl, hrow, hb⟩
 obtain ⟨a, cp, rfl, hcell⟩ := ztu hrow
 have HCL := hid hcell
 have HB1 := hid hb
 have HR1 : Hid (w1.heap[w.heap.size]? = some (evO e)) := hid ((hb.block _ (by omega)).trans hr)
 clear hrow hcell hb hr c0 c1 c2 c3 c4 c5 c6 c7 c8 c9 HF
 go_wp2_with fail
 go_loopw [4, 9] (fun _ i wr => ∃ j : Nat, i = .int .i64 j ∧ j ≤ L.length ∧ Hid (wr.heap[w.heap.size]? = some (evO (blankL e (L.take j)))) ∧ Hid (Lk w.heap.size w1 wr)) (fun _ i _ => L.length - (intOf i).toNat)
 case atStart => exact ⟨0, rfl, Nat.zero_le _, HR1, hid ⟨rfl, rfl, rfl, Nat.le_refl _, fun k _ _ => rfl⟩⟩
 case round =>
  obtain ⟨j, rfl, hj, HR, HK⟩ := hrel
  rename World => wr
  have hrow := HR.out
  obtain ⟨c0, c1, c2, c3, c4, c5, c6, c7, c8, c9⟩ := ztd hrow
  by_cases hlt : j < L.length
  · have hdec : decide (j < L.length) = true := by simpa using hlt
    obtain ⟨g, rfl, hg0, hg1, hcl⟩ := HCL.out (by omega)
    have hc : wr.cell? ⟨g, j, none⟩ = some (.int .i64 (L.getD j 0)) := by
     rw [World.cell?_of_block (a := ⟨g, j, none⟩) (HK.out.block g hg1 (by omega))]; exact hcl j hlt
    have HBS := hid (ztw e L j hlt)
    obtain ⟨f0, f9⟩ := HFD.out j hlt
    clear hcl
    generalize L.getD j 0 = x at *
    generalize blankL e (L.take j) = ej at *
    have hx : x = 0 ∨ x = 1 ∨ x = 2 ∨ x = 3 ∨ x = 4 ∨ x = 5 ∨ x = 6 ∨ x = 7 ∨ x = 8 ∨ x = 9 := by omega
    clear f0 f9
    rcases hx with rfl | rfl | rfl | rfl | rfl | rfl | rfl | rfl | rfl | rfl
    · have ffz := zts hrow 1
      clear hrow c0 c2 c3 c4 c5 c6 c7 c8 c9
      go_wp2_with fail
      go_roundw
      case rel => exact ⟨j + 1, by go_num, by omega, hid (by rw [HBS.out, ztq HR.out]; rfl), hid (HK.out.set _ _)⟩
      case measure => simp [intOf]; omega
    · have ffz := zts hrow 2
      clear hrow c0 c1 c3 c4 c5 c6 c7 c8 c9
      go_wp2_with fail
      go_roundw
      case rel => exact ⟨j + 1, by go_num, by omega, hid (by rw [HBS.out, ztq HR.out]; rfl), hid (HK.out.set _ _)⟩
      case measure => simp [intOf]; omega
    · have ffz := zts hrow 3
      clear hrow c0 c1 c2 c4 c5 c6 c7 c8 c9
      go_wp2_with fail
      go_roundw
      case rel => exact ⟨j + 1, by go_num, by omega, hid (by rw [HBS.out, ztq HR.out]; rfl), hid (HK.out.set _ _)⟩
      case measure => simp [intOf]; omega
    · have ffz := zts hrow 4
      clear hrow c0 c1 c2 c3 c5 c6 c7 c8 c9
      go_wp2_with fail
      go_roundw
      case rel => exact ⟨j + 1, by go_num, by omega, hid (by rw [HBS.out, ztq HR.out]; rfl), hid (HK.out.set _ _)⟩
      case measure => simp [intOf]; omega
    · have ffz := zts hrow 5
      clear hrow c0 c1 c2 c3 c4 c6 c7 c8 c9
      go_wp2_with fail
      go_roundw
      case rel => exact ⟨j + 1, by go_num, by omega, hid (by rw [HBS.out, ztq HR.out]; rfl), hid (HK.out.set _ _)⟩
      case measure => simp [intOf]; omega
    · have ffz := zts hrow 6
      clear hrow c0 c1 c2 c3 c4 c5 c7 c8 c9
      go_wp2_with fail
      go_roundw
      case rel => exact ⟨j + 1, by go_num, by omega, hid (by rw [HBS.out, ztq HR.out]; rfl), hid (HK.out.set _ _)⟩
      case measure => simp [intOf]; omega
    · have ffz := zts hrow 7
      clear hrow c0 c1 c2 c3 c4 c5 c6 c8 c9
      go_wp2_with fail
      go_roundw
      case rel => exact ⟨j + 1, by go_num, by omega, hid (by rw [HBS.out, ztq HR.out]; rfl), hid (HK.out.set _ _)⟩
      case measure => simp [intOf]; omega
    · have ffz := zts hrow 8
      clear hrow c0 c1 c2 c3 c4 c5 c6 c7 c9
      go_wp2_with fail
      go_roundw
      case rel => exact ⟨j + 1, by go_num, by omega, hid (by rw [HBS.out, ztq HR.out]; rfl), hid (HK.out.set _ _)⟩
      case measure => simp [intOf]; omega
    · have ffz := zts hrow 9
      clear hrow c0 c1 c2 c3 c4 c5 c6 c7 c8
      go_wp2_with fail
      go_roundw
      case rel => exact ⟨j + 1, by go_num, by omega, hid (by rw [HBS.out, ztq HR.out]; rfl), hid (HK.out.set _ _)⟩
      case measure => simp [intOf]; omega
    · have ffz := zts hrow 9
      clear hrow c0 c1 c2 c3 c4 c5 c6 c7 c8
      go_wp2_with fail
      go_roundw
      case rel => exact ⟨j + 1, by go_num, by omega, hid (by rw [HBS.out, ztq HR.out]; rfl), hid (HK.out.set _ _)⟩
      case measure => simp [intOf]; omega
  · have hdec : decide (j < L.length) = false := by simpa using hlt
    have hje : j = L.length := by omega
    subst hje
    have HBW := hid (HK.out.low (HB0.out.trans (HB1.out.mono HB0.out.size)) (Nat.le_refl _) (Nat.le_trans HB0.out.size HB1.out.size))
    have hk := zty L e
    have HNE : Hid (NeIn wr (blankL e L).na (blankL e L).nc (blankL e L).needs) := hid (ztz L (HN0.out.gr HBW.out))
    rw [List.take_length] at c0 c1 c2 c3 c4 c5 c6 c7 c8 c9 HR
    have hsw := HS.out wr HNE.out
    rw [kind_v] at hsw
    rw [ev_v, hk] at hsw
    have HSW := hid hsw
    clear hsw
    clear hrow hlt hj
    have hc0 : wr.cell? ⟨w.heap.size, 0, none⟩ = some (.int .u8 e.k) := by rw [c0, hk]
    generalize hE : blankL e L = E at hk HNE HSW c0 c1 c2 c3 c4 c5 c6 c7 c8 c9 hc0
    have HE := hid hE
    clear hE
    clear HS HCL HFD HR1 HB0 HB1 HN0 HR HK HNE
    go_wp2_with fail
    with_reducible refine HSW.out.mono ?_
    rintro e2 w2 ⟨rfl, hb2⟩
    have HB2 := hid (HBW.out.trans (hb2.mono HBW.out.size))
    clear hb2
    go_wp2_with fail
    go_ret
    exact ⟨by rw [HE.out]; rfl, HB2.out⟩
end EvA
end
section
open Go.RowKit Go.Sort
namespace EvN
open StrC EvF EvC EvA
theorem ins_no (w : World) : Calls Tryz.prog 146 #[.slice none 0 0, .int .i64 0, .int .i64 0] w fun e w' => e = .returned (.tuple #[]) ∧ w = w' := by
 go_enter Tryz.func146, Tryz.ntmps146
 go_wp2_with fail
 refine wp_loop_rounds 1 ?_
 rw [rounds_succ]
 go_wp2_with fail
 refine bodyPost_end (results_none rfl _ _ _) rfl ?_
 exact ⟨rfl, rfl⟩
theorem pdq_no (k : Int) (w : World) : Calls Tryz.prog 118 #[.slice none 0 0, .int .i64 0, .int .i64 0, .int .i64 k] w fun e w' => e = .returned (.tuple #[]) ∧ w = w' := by
 go_enter Tryz.func118, Tryz.ntmps118
 go_wp2_with fail
 refine wp_loop_rounds 1 ?_
 rw [rounds_succ]
 go_wp2_with fail
 refine (ins_no _).mono ?_
 rintro e w' ⟨rfl, rfl⟩
 go_wp2_with fail
 refine bodyPost_ret (results_none rfl _ _ _) rfl ?_
 exact ⟨rfl, rfl⟩
theorem zub (w : World) : Calls Tryz.prog 156 #[.int .u64 0] w fun e w' => (∃ k : Int, e = .returned (.int .i64 k)) ∧ w = w' := by
 go_enter Tryz.func156, Tryz.ntmps156
 go_wp2_with fail
 go_ret
 exact ⟨⟨_, rfl⟩, rfl⟩
theorem len_no (w : World) : Calls Tryz.prog 119 #[.int .u64 0] w fun e w' => (∃ k : Int, e = .returned (.int .i64 k)) ∧ w = w' := by
 go_enter Tryz.func119, Tryz.ntmps119
 go_wp2_with fail
 refine (zub _).mono ?_
 rintro e w' ⟨⟨k, rfl⟩, rfl⟩
 go_wp2_with fail
 go_ret
 exact ⟨⟨_, rfl⟩, rfl⟩
theorem zuc (w : World) : Calls Tryz.prog 66 #[.slice none 0 0] w fun e w' => e = .returned (.tuple #[]) ∧ w = w' := by
 go_enter Tryz.func66, Tryz.ntmps66
 go_wp2_with fail
 refine (len_no _).mono ?_
 rintro e w' ⟨⟨k, rfl⟩, rfl⟩
 go_wp2_with fail
 refine (pdq_no k _).mono ?_
 rintro e w' ⟨rfl, rfl⟩
 go_wp2_with fail
 refine bodyPost_end (results_none rfl _ _ _) rfl ?_
 exact ⟨rfl, rfl⟩
theorem zud (w : World) : Calls Tryz.prog 32 #[.int .u8 0] w (FieldsE [] w) := by
 go_enter Tryz.func32, Tryz.ntmps32
 go_wp2_with fail
 refine (zuc _).mono ?_
 rintro e w' ⟨rfl, rfl⟩
 go_wp2_with fail
 go_ret
 exact ⟨_, rfl, World.ownsRow_nil _ _ _ _, Below.refl _ _⟩
end EvN
end
section
namespace NameM
def letter (c : UInt8) : Bool := (decide (97 ≤ c.toNat) && decide (c.toNat ≤ 122)) || (decide (65 ≤ c.toNat) && decide (c.toNat ≤ 90)) || (decide (48 ≤ c.toNat) && decide (c.toNat ≤ 57))
def sign (c : UInt8) : Bool := decide (c.toNat = 45) || decide (c.toNat = 95) || decide (c.toNat = 46)
def okB (c : UInt8) : Bool := letter c || sign c
def low (c : UInt8) : UInt8 := if 65 ≤ c.toNat ∧ c.toNat ≤ 90 then c + 32 else c
def step (s : List UInt8) (a : List UInt8 × Bool) (c : UInt8) : List UInt8 × Bool :=
 if letter c then (a.1 ++ (if a.2 then s else []) ++ [low c], false) else (a.1, true)
def st (s l : List UInt8) : List UInt8 × Bool := l.foldl (step s) ([], false)
def formD (s l : List UInt8) : List UInt8 := (st s l).1
def may (l : List UInt8) : Bool := decide (1 ≤ l.length) && decide (l.length ≤ 64) && letter (l.getD 0 0) && letter (l.getD (l.length - 1) 0) && l.all okB
def norm (l : List UInt8) : List UInt8 := if may l then formD [45] l else []
def squash (l : List UInt8) : List UInt8 := if may l then formD [] l else []
def code (l : List UInt8) : Int := if may l then 0 else 60
def isN (l : List UInt8) : Bool := may l && decide (formD [45] l = l)
def same (a b : List UInt8) : Bool := may a && may b && decide (formD [45] a = formD [45] b)
def like (a b : List UInt8) : Bool := may a && may b && decide (formD [45] a ≠ formD [45] b) && decide (formD [] a = formD [] b)
def words : List (List UInt8) := [[121, 97, 110, 107, 108, 105, 110, 101], [114, 101, 103, 105, 115, 116, 114, 121], [105, 110, 100, 101, 120], [108, 111, 103], [112, 97, 103, 101], [98, 108, 111, 98]]
def holdB (c : UInt8) : Bool := (decide (97 ≤ c.toNat) && decide (c.toNat ≤ 122)) || (decide (48 ≤ c.toNat) && decide (c.toNat ≤ 57))
def holder (l : List UInt8) : Bool := decide (1 ≤ l.length) && decide (l.length ≤ 64) && (decide (97 ≤ (l.getD 0 0).toNat) && decide ((l.getD 0 0).toNat ≤ 122)) && l.all holdB
theorem snocRec {motive : List UInt8 → Prop} (nil : motive []) (snoc : ∀ a c, motive a → motive (a ++ [c])) (l : List UInt8) : motive l := by
 have h : ∀ n (l : List UInt8), l.length = n → motive l := by
  intro n
  induction n with
  | zero => intro l hl; rw [List.eq_nil_of_length_eq_zero hl]; exact nil
  | succ n ih =>
   intro l hl
   have hne : l ≠ [] := by intro e; subst e; simp at hl
   have e := List.dropLast_concat_getLast hne
   rw [← e]
   exact snoc _ _ (ih _ (by simp [hl]))
 exact h _ l rfl
theorem zue (s l : List UInt8) (k : Nat) (h : k < l.length) : st s (l.take (k + 1)) = step s (st s (l.take k)) (l.getD k 0) := by
 unfold st
 rw [List.take_add_one, List.foldl_append]
 simp [h]
theorem st_all (s l : List UInt8) (k : Nat) (h : l.length ≤ k) : st s (l.take k) = st s l := by rw [List.take_of_length_le h]
theorem zuf (s a : List UInt8) (c : UInt8) : st s (a ++ [c]) = step s (st s a) c := by unfold st; rw [List.foldl_append]; rfl
theorem zug (c : UInt8) : (low c).toNat = if 65 ≤ c.toNat ∧ c.toNat ≤ 90 then c.toNat + 32 else c.toNat := by
 unfold low
 split
 · rename_i h
   rw [UInt8.toNat_add]
   show (c.toNat + 32) % 256 = _
   omega
 · rfl
theorem zuh {c : UInt8} (h : letter c = true) : letter (low c) = true ∧ low (low c) = low c ∧ low c ≠ 45 := by
 have hn := zug c
 have hl : letter c = true := h
 simp only [letter, Bool.or_eq_true, Bool.and_eq_true, decide_eq_true_eq] at h
 have h2 : 97 ≤ (low c).toNat ∧ (low c).toNat ≤ 122 ∨ 48 ≤ (low c).toNat ∧ (low c).toNat ≤ 57 := by
  rw [hn]; split <;> omega
 refine ⟨?_, ?_, ?_⟩
 · simp only [letter, Bool.or_eq_true, Bool.and_eq_true, decide_eq_true_eq]; omega
 · apply UInt8.toNat_inj.1
   rw [zug (low c), if_neg (by omega)]
 · intro e; rw [e] at h2; revert h2; decide
theorem zui (s l : List UInt8) (hs : s.length ≤ 1) : (st s l).1.length + (if (st s l).2 then 1 else 0) ≤ l.length := by
 induction l using snocRec with
 | nil => simp [st]
 | snoc a c ih =>
  rw [zuf]
  unfold step
  split
  · simp only [List.length_append, List.length_cons, List.length_nil]
    by_cases h : (st s a).2 = true
    · simp only [h, if_true] at ih ⊢; simp; omega
    · simp only [h] at ih ⊢; simp at ih ⊢; omega
  · simp only [List.length_append, List.length_cons, List.length_nil, if_true]
    have : (st s a).1.length ≤ a.length := by omega
    omega
theorem zuj (l : List UInt8) : (st [45] l).1.filter (· != 45) = (st [] l).1 ∧ (st [45] l).2 = (st [] l).2 := by
 induction l using snocRec with
 | nil => exact ⟨rfl, rfl⟩
 | snoc a c ih =>
  rw [zuf, zuf]
  unfold step
  split
  · rename_i hc
    obtain ⟨_, _, h3⟩ := zuh hc
    refine ⟨?_, rfl⟩
    simp only [List.filter_append, ih.1, ih.2, ite_self, List.append_nil]
    by_cases h : (st [] a).2 = true
    · simp [h, h3]
    · simp [h, h3]
  · exact ⟨ih.1, rfl⟩
theorem zuk (l : List UInt8) : (formD [45] l).filter (· != 45) = formD [] l := (zuj l).1
theorem zul {b c : UInt8} (l : List UInt8) (h : b ≠ c) : Lib.index (b :: l) [c] = if Lib.index l [c] = -1 then -1 else Lib.index l [c] + 1 := by
 rw [Lib.index, if_neg (by simp [List.isPrefixOf, Ne.symm h])]
 by_cases e : Lib.index l [c] = -1
 · rw [if_pos (by rw [e]; rfl), if_pos e]
 · rw [if_neg (by simpa using e), if_neg e]
def prog (l : List UInt8) : List UInt8 := (st [45] l).1 ++ (if (st [45] l).2 then [45] else [])
theorem zum {l : List UInt8} {c : UInt8} (h : letter c = true) : prog (l ++ [c]) = prog l ++ [low c] := by
 unfold prog; rw [zuf]; unfold step; rw [if_pos h]; simp
theorem zun {l : List UInt8} {c : UInt8} (h : letter c = false) : prog (l ++ [c]) = if (st [45] l).2 then prog l else prog l ++ [45] := by
 unfold prog; rw [zuf]; unfold step; rw [if_neg (by rw [h]; decide)]
 by_cases e : (st [45] l).2 = true
 · simp [e]
 · simp [e]
theorem zuo {l : List UInt8} (h : l ≠ []) : ∃ r c, prog l = r ++ [c] ∧ (c = 45 ↔ (st [45] l).2 = true) := by
 induction l using snocRec with
 | nil => exact absurd rfl h
 | snoc a c _ =>
  by_cases hc : letter c = true
  · refine ⟨prog a, low c, zum hc, ?_⟩
    rw [zuf]; unfold step; rw [if_pos hc]
    simp [(zuh hc).2.2]
  · refine ⟨(st [45] a).1, 45, ?_, ?_⟩
    · unfold prog; rw [zuf]; unfold step; rw [if_neg hc]; simp
    · rw [zuf]; unfold step; rw [if_neg hc]; simp
theorem zup {l : List UInt8} (h1 : l ≠ []) (h2 : letter (l.getD (l.length - 1) 0) = true) : prog l = formD [45] l := by
 induction l using snocRec with
 | nil => exact absurd rfl h1
 | snoc a c _ =>
  have hc : letter c = true := by simpa using h2
  unfold prog formD; rw [zuf]; unfold step; rw [if_pos hc]; simp
theorem zuq (l : List UInt8) : (prog l).length ≤ l.length := by
 have := zui [45] l (by decide)
 unfold prog
 by_cases e : (st [45] l).2 = true
 · simp only [e, if_true] at this ⊢; simp; omega
 · simp only [e] at this ⊢; simp at this ⊢; omega
theorem zur (l : List UInt8) (k : Nat) (h : k < l.length) : l.take (k + 1) = l.take k ++ [l.getD k 0] := by
 rw [List.take_add_one]; simp [h]
theorem zus {c : UInt8} (h : sign c = true) : letter c = false := by
 simp only [sign, Bool.or_eq_true, decide_eq_true_eq] at h
 simp only [letter, Bool.or_eq_false_iff, Bool.and_eq_false_iff, decide_eq_false_iff_not]
 omega
theorem zut (s l : List UInt8) (h1 : l ≠ []) (h : letter (l.getD 0 0) = true) : (st s l).1 ≠ [] ∧ (st s l).1.getD 0 0 = low (l.getD 0 0) := by
 induction l using snocRec with
 | nil => exact absurd rfl h1
 | snoc a c ih =>
  rw [zuf]; unfold step
  by_cases ha : a = []
  · subst ha
    have hc : letter c = true := by simpa using h
    rw [if_pos hc]
    simp [st]
  · have hl : 0 < a.length := List.length_pos_iff.2 ha
    have h0 : (a ++ [c]).getD 0 0 = a.getD 0 0 := by simp [List.getD, hl]
    rw [h0] at h ⊢
    obtain ⟨i1, i2⟩ := ih ha h
    have hp : 0 < (st s a).1.length := List.length_pos_iff.2 i1
    split
    · refine ⟨by simp, ?_⟩
      rw [← i2, List.append_assoc]
      simp [List.getD, List.getElem?_append_left hp, hp]
    · exact ⟨i1, i2⟩
theorem zuu {l : List UInt8} : may l = true ↔ (1 ≤ l.length ∧ l.length ≤ 64 ∧ letter (l.getD 0 0) = true ∧ letter (l.getD (l.length - 1) 0) = true ∧ l.all okB = true) := by
 unfold may; simp only [Bool.and_eq_true, decide_eq_true_eq]
 constructor
 · rintro ⟨⟨⟨⟨a, b⟩, c⟩, d⟩, e⟩; exact ⟨a, b, c, d, e⟩
 · rintro ⟨a, b, c, d, e⟩; exact ⟨⟨⟨⟨a, b⟩, c⟩, d⟩, e⟩
end NameM
end
end Go.Proofs.YtbiplmbcdhjiaaaGreatDoor
