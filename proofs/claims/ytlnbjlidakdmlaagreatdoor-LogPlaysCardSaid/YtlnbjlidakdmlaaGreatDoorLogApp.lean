/-
  Package log's take: payloads behind those that there are; the next file's name, where these make the last one full.
  Package log's Append, over whatever disk keeps what the laws ask of one.
-/
import Derived.Test.YtlnbjlidakdmlaaGreatDoorLogP2
import Derived.Deep.CutBlock
import Derived.StillTailTactics
namespace Go.Proofs.YtlnbjlidakdmlaaGreatDoor
open Go.RowKit
namespace LogP
open LogM FrameM FrameC TextR DiskM DiskC LogC ErrC

/-- the log, whatever file it adds to -/
structure IsPLn (w : World) (B p nb b : Nat) (lv : Value) (L : List (List UInt8)) (n : Nat) (br : Bool) : Prop where
  disk : w.cell? ⟨p, 0, none⟩ = some (.pointer (some ⟨b, 0, none⟩))
  list : w.cell? ⟨p, 1, none⟩ = some lv
  file : w.cell? ⟨p, 2, none⟩ = some (.string (nameN n))
  next : w.cell? ⟨p, 3, none⟩ = some (nextF nb)
  broken : w.cell? ⟨p, 4, none⟩ = some (.bool br)
  free : ∀ j, w.frozen? ⟨p, j, none⟩ = false
  ctr : w.cell? ⟨nb, 0, none⟩ = some (.int .i64 (n : Int))
  cfree : w.frozen? ⟨nb, 0, none⟩ = false
  row : OwnT w B lv (L.map str)
  low : B ≤ p ∧ B ≤ nb
  ne : nb ≠ p
  sep : lv.ownBlock ≠ some p ∧ lv.ownBlock ≠ some nb
theorem IsPL.to {w : World} {B p nb b : Nat} {lv : Value} {L : List (List UInt8)} {br : Bool} (h : IsPL w B p nb b lv L br) : IsPLn w B p nb b lv L (L.length / 64 + 1) br := ⟨h.disk, h.list, h.file, h.next, h.broken, h.free, h.ctr, h.cfree, h.row, h.low, h.ne, h.sep⟩
theorem IsPLn.to {w : World} {B p nb b : Nat} {lv : Value} {L : List (List UInt8)} {n : Nat} {br : Bool} (h : IsPLn w B p nb b lv L n br) (e : n = L.length / 64 + 1) : IsPL w B p nb b lv L br := by
  subst e
  exact ⟨h.disk, h.list, h.file, h.next, h.broken, h.free, h.ctr, h.cfree, h.row, h.low, h.ne, h.sep⟩
theorem IsPLn.lt {w : World} {B p nb b n : Nat} {lv : Value} {L : List (List UInt8)} {br : Bool} (h : IsPLn w B p nb b lv L n br) : p < w.heap.size := World.block_lt_of_cell? _ _ h.disk
theorem IsPLn.foot {w : World} {B p nb b n : Nat} {lv : Value} {L : List (List UInt8)} {br : Bool} (h : IsPLn w B p nb b lv L n br) (i : Nat) (hi : FootP p nb lv i) : B ≤ i ∧ i < w.heap.size := by
  rcases hi with rfl | rfl | hi
  · exact ⟨h.low.1, h.lt⟩
  · exact ⟨h.low.2, World.block_lt_of_cell? _ _ h.ctr⟩
  · exact World.ownsRow.lt h.row i hi
theorem IsPLn.keeps {S : Nat → Prop} {w w' : World} {B p nb b n : Nat} {lv : Value} {L : List (List UInt8)} {br : Bool} (h : IsPLn w B p nb b lv L n br) (k : Keeps S w w') (hS : ∀ i, FootP p nb lv i → ¬ S i) : IsPLn w' B p nb b lv L n br := by
  have e1 : w'.heap[p]? = w.heap[p]? := k.block p h.lt (hS p (.inl rfl))
  have e2 : w'.heap[nb]? = w.heap[nb]? := k.block nb (h.foot nb (.inr (.inl rfl))).2 (hS nb (.inr (.inl rfl)))
  have c1 : ∀ j, w'.cell? ⟨p, j, none⟩ = w.cell? ⟨p, j, none⟩ := fun j => World.cell?_of_block (a := ⟨p, j, none⟩) e1
  exact ⟨by rw [c1]; exact h.disk, by rw [c1]; exact h.list, by rw [c1]; exact h.file, by rw [c1]; exact h.next, by rw [c1]; exact h.broken, fun j => by rw [World.frozen?_of_block (a := ⟨p, j, none⟩) e1]; exact h.free j,
    by rw [World.cell?_of_block (a := ⟨nb, 0, none⟩) e2]; exact h.ctr, by rw [World.frozen?_of_block (a := ⟨nb, 0, none⟩) e2]; exact h.cfree, own_keeps h.row k (fun g hg => hS g (.inr (.inr hg))), h.low, h.ne, h.sep⟩
theorem IsPLn.below {w w' : World} {B p nb b n : Nat} {lv : Value} {L : List (List UInt8)} {br : Bool} (h : IsPLn w B p nb b lv L n br) (hb : Below w.heap.size w w') : IsPLn w' B p nb b lv L n br :=
  h.keeps (S := fun _ => False) (Keeps.of_below hb) (fun _ _ e => e)
/-- how many records, as the slice says it -/
theorem IsPLn.len {w : World} {B p nb b n : Nat} {lv : Value} {L : List (List UInt8)} {br : Bool} (h : IsPLn w B p nb b lv L n br) : ∃ a cp, lv = .slice a L.length cp ∧ w.cell? ⟨p, 1, none⟩ = some (.slice a L.length cp) := by
  obtain ⟨a, cp, e, -⟩ := h.row.open_
  rw [List.length_map] at e
  exact ⟨a, cp, e, by rw [← e]; exact h.list⟩
/-- behind an append: what is stored is the longer row -/
theorem IsPLn.app {w w4 : World} {B p nb b n : Nat} {lv v' : Value} {L M : List (List UInt8)} {br : Bool} (h : IsPLn w B p nb b lv L n br) (hg : w.grownBy w4 lv.ownBlock) (hown : OwnT w4 B v' (L.map str ++ M.map str)) (hloc : v'.ownBlock = lv.ownBlock ∨ v'.ownBlock = some w.heap.size) :
    IsPLn (w4.setCell ⟨p, 1, none⟩ v') B p nb b v' (L ++ M) n br ∧ w4.cell? ⟨p, 1, none⟩ = some lv ∧ w4.frozen? ⟨p, 1, none⟩ = false ∧ Keeps (FootP p nb lv) w (w4.setCell ⟨p, 1, none⟩ v') ∧ ∀ i, FootP p nb v' i → FootP p nb lv i ∨ w.heap.size ≤ i := by
  have hp := h.lt
  have hnb := (h.foot nb (.inr (.inl rfl))).2
  have hbl : w4.heap[p]? = w.heap[p]? := hg.block p hp (fun e => h.sep.1 e.symm)
  have hbn : w4.heap[nb]? = w.heap[nb]? := hg.block nb hnb (fun e => h.sep.2 e.symm)
  have hc : ∀ j, w4.cell? ⟨p, j, none⟩ = w.cell? ⟨p, j, none⟩ := fun j => World.cell?_of_block (a := ⟨p, j, none⟩) hbl
  have hfr : ∀ j, w4.frozen? ⟨p, j, none⟩ = false := fun j => by rw [World.frozen?_of_block (a := ⟨p, j, none⟩) hbl]; exact h.free j
  have hsep : v'.ownBlock ≠ some p ∧ v'.ownBlock ≠ some nb := by
    rcases hloc with e | e
    · rw [e]; exact h.sep
    · rw [e]; exact ⟨fun e2 => by have := Option.some.inj e2; omega, fun e2 => by have := Option.some.inj e2; omega⟩
  have kc := keeps_at w4 p 1 v'
  have hn4 : (w4.setCell ⟨p, 1, none⟩ v').heap[nb]? = w.heap[nb]? := (Below.heap_setCell _ _ _ _ h.ne).trans hbn
  have k0 : Keeps (FootP p nb lv) w w4 := ⟨hg.os, hg.tape, hg.output, hg.size, fun i hi hn => hg.block i hi (fun e => hn (.inr (.inr e.symm)))⟩
  refine ⟨⟨by rw [cell_ne (by decide), hc]; exact h.disk, World.cell?_setCell_same _ _ _ (by rw [hc]; exact h.list), by rw [cell_ne (by decide), hc]; exact h.file, by rw [cell_ne (by decide), hc]; exact h.next, by rw [cell_ne (by decide), hc]; exact h.broken, fun j => by simpa using hfr j,
    by rw [World.cell?_of_block (a := ⟨nb, 0, none⟩) hn4]; exact h.ctr, by rw [World.frozen?_of_block (a := ⟨nb, 0, none⟩) hn4]; exact h.cfree, own_keeps (by rw [List.map_append]; exact hown) kc (fun g hg e => hsep.1 (by rw [hg, e])), h.low, h.ne, hsep⟩, by rw [hc]; exact h.list, hfr 1, k0.then kc (fun i _ e => .inl e), fun i hi => ?_⟩
  rcases hi with e | e | e
  · exact .inl (.inl e)
  · exact .inl (.inr (.inl e))
  · rcases hloc with e2 | e2
    · exact .inl (.inr (.inr (by rw [← e2]; exact e)))
    · rw [e2] at e
      have := Option.some.inj e
      exact .inr (by omega)
/-- behind the call for the next file's name, which is stored -/
theorem IsPLn.step {w w2 : World} {B p nb b n : Nat} {lv : Value} {L : List (List UInt8)} {br : Bool} (h : IsPLn w B p nb b lv L n br) (hk : Keeps (· = nb) w w2) (hc : w2.cell? ⟨nb, 0, none⟩ = some (.int .i64 ((n + 1 : Nat) : Int))) (hf : ∀ j, w.frozen? ⟨nb, j, none⟩ = false → w2.frozen? ⟨nb, j, none⟩ = false) :
    IsPLn (w2.setCell ⟨p, 2, none⟩ (.string (nameN (n + 1)))) B p nb b lv L (n + 1) br ∧ w2.cell? ⟨p, 2, none⟩ = some (.string (nameN n)) ∧ w2.frozen? ⟨p, 2, none⟩ = false ∧ Keeps (FootP p nb lv) w (w2.setCell ⟨p, 2, none⟩ (.string (nameN (n + 1)))) := by
  have e1 : w2.heap[p]? = w.heap[p]? := hk.block p h.lt (fun e => h.ne e.symm)
  have c1 : ∀ j, w2.cell? ⟨p, j, none⟩ = w.cell? ⟨p, j, none⟩ := fun j => World.cell?_of_block (a := ⟨p, j, none⟩) e1
  have hfr : ∀ j, w2.frozen? ⟨p, j, none⟩ = false := fun j => by rw [World.frozen?_of_block (a := ⟨p, j, none⟩) e1]; exact h.free j
  have kc := keeps_at w2 p 2 (.string (nameN (n + 1)))
  have hn4 : (w2.setCell ⟨p, 2, none⟩ (.string (nameN (n + 1)))).heap[nb]? = w2.heap[nb]? := Below.heap_setCell _ _ _ _ h.ne
  refine ⟨⟨by rw [cell_ne (by decide), c1]; exact h.disk, by rw [cell_ne (by decide), c1]; exact h.list, World.cell?_setCell_same _ _ _ (by rw [c1]; exact h.file), by rw [cell_ne (by decide), c1]; exact h.next, by rw [cell_ne (by decide), c1]; exact h.broken, fun j => by simpa using hfr j,
    by rw [World.cell?_of_block (a := ⟨nb, 0, none⟩) hn4]; exact hc, by rw [World.frozen?_of_block (a := ⟨nb, 0, none⟩) hn4]; exact hf 0 h.cfree, own_keeps (own_keeps h.row hk (fun g hg e => h.sep.2 (by rw [hg, e]))) kc (fun g hg e => h.sep.1 (by rw [hg, e])), h.low, h.ne, h.sep⟩, by rw [c1]; exact h.file, hfr 2,
    (hk.mono (T := FootP p nb lv) (fun i e => .inr (.inl e))).then kc (fun i _ e => .inl e)⟩

/-- behind take -/
def TakeE (B p nb b : Nat) (lv : Value) (L : List (List UInt8)) (br : Bool) (w : World) (e : Ending) (w' : World) : Prop :=
  e = .returned (.tuple #[]) ∧ ∃ lv', IsPL w' B p nb b lv' L br ∧ Keeps (FootP p nb lv) w w' ∧ ∀ i, FootP p nb lv' i → FootP p nb lv i ∨ w.heap.size ≤ i
theorem FootP.vars {w w' : World} {B p nb b n : Nat} {lv : Value} {L : List (List UInt8)} {br : Bool} (h : IsPLn w B p nb b lv L n br) (hk : Keeps (FootP p nb lv) w w') (hv : VarsT w) (hg : 0 < B ∧ 1 < B) (hB : B ≤ w.heap.size) : VarsT w' :=
  hv.belowG (hk.toBelow (fun i hi => (h.foot i hi).1) hB) hg.1 hg.2
set_option maxHeartbeats 4000000 in
set_option maxRecDepth 100000 in
theorem take_any {w : World} {B p nb b B2 : Nat} {lv src : Value} {L M : List (List UInt8)} {br : Bool} (h : IsPL w B p nb b lv L br) (hsrc : OwnT w B2 src (M.map str)) (hfit : L.length % 64 + M.length ≤ 64) (hL : L.length ≤ 10000000) (hv : VarsT w) (hg : 0 < B ∧ 1 < B) (hB : B ≤ w.heap.size) :
    Calls Tryz.prog 38 #[.pointer (some ⟨p, 0, none⟩), src] w (TakeE B p nb b lv (L ++ M) br w) := by
  unfold TakeE
  obtain ⟨i0, hi, hz0, hz1, hz2⟩ := info_parts info_text
  have h0 := h.to
  obtain ⟨n, hn⟩ : ∃ n, n = L.length / 64 + 1 := ⟨_, rfl⟩
  rw [← hn] at h0
  have H := Lib.hid h0
  have HV := Lib.hid hv
  have hlv := h.list
  have hrow := h.row
  obtain ⟨K, hK⟩ : ∃ K, K = L.map str := ⟨_, rfl⟩
  obtain ⟨N, hN⟩ : ∃ N, N = M.map str := ⟨_, rfl⟩
  have hKl : K.length = L.length := by rw [hK, List.length_map]
  have hNl : N.length = M.length := by rw [hN, List.length_map]
  have HAPP : Hid (∀ (w4 : World) (v' : Value), w.grownBy w4 lv.ownBlock → OwnT w4 B v' (K ++ N) → (v'.ownBlock = lv.ownBlock ∨ v'.ownBlock = some w.heap.size) → IsPLn (w4.setCell ⟨p, 1, none⟩ v') B p nb b v' (L ++ M) n br ∧ w4.cell? ⟨p, 1, none⟩ = some lv ∧ w4.frozen? ⟨p, 1, none⟩ = false ∧ Keeps (FootP p nb lv) w (w4.setCell ⟨p, 1, none⟩ v') ∧ ∀ i, FootP p nb v' i → FootP p nb lv i ∨ w.heap.size ≤ i) := Lib.hid (fun w4 v' hg ho hl => by
    rw [hK, hN] at ho
    exact H.out.app hg ho hl)
  rw [← hK] at hrow
  rw [← hN] at hsrc
  have HROW := Lib.hid hrow
  have HSRC := Lib.hid hsrc
  obtain ⟨a, cp, rfl, -⟩ := hrow.open_
  obtain ⟨a2, cps, rfl, -⟩ := hsrc.open_
  have HT : Hid (((0 < N.length ∧ (K.length + N.length) % 64 = 0) → n + 1 = (L ++ M).length / 64 + 1) ∧ (¬ (0 < N.length ∧ (K.length + N.length) % 64 = 0) → n = (L ++ M).length / 64 + 1)) := Lib.hid (by
    rw [List.length_append, hKl, hNl, hn]
    constructor
    · intro hh; omega
    · intro hh; omega)
  have hb1 : K.length ≤ 10000000 := by omega
  have hb2 : N.length ≤ 64 := by omega
  have hn1 : n + 1 < 100000000 := by omega
  have HG := Lib.hid hg
  have HNX := Lib.hid (fun w4 hc hf h4 => next_any nb n w4 hc hf hn1 ⟨by have := h.low.2; have := hg.1; omega, by have := h.low.2; have := hg.2; omega⟩ h4)
  have hpw := h.lt
  clear h h0 hv hK hN hKl hNl hrow hsrc hfit hL hn hg
  go_enter Tryz.func38, Tryz.ntmps38
  go_wp2_with (at_builtin; refine wpList_app rfl _ _ 42 rfl i0 _ Tryz.underlying42 hi hz0 hz1 hz2 rfl B _ _ rfl HROW.out _ _ _ rfl HSRC.out ?c1 ?c2 ?_)
  case c1 => omega
  case c2 => exact hB
  intro ao cap w4 hown hgr hloc
  obtain ⟨hP, q1, q2, hk, hf⟩ := HAPP.out _ _ hgr hown hloc
  have HP := Lib.hid hP
  have HK := Lib.hid hk
  have HF := Lib.hid hf
  have HV4 := Lib.hid (FootP.vars H.out hk HV.out HG.out hB)
  have c0 := hP.list
  have hsz := hk.size
  clear hP hk hf hown hgr hloc HAPP HROW HSRC
  have c3 := HP.out.next
  unfold nextF at c3
  by_cases h1 : 0 < N.length
  · have d1 : decide (0 < N.length) = true := by simpa using h1
    by_cases h2 : (K.length + N.length) % 64 = 0
    · have HE := Lib.hid (HT.out.1 ⟨h1, h2⟩)
      have hc4 := HP.out.ctr
      have hf4 := HP.out.cfree
      have HN4 := Lib.hid (HNX.out _ hc4 hf4 HV4.out)
      clear hc4 hf4
      go_wp2_with fail
      refine HN4.out.mono ?_
      rintro e w6 ⟨rfl, hc6, hk6, hf6⟩
      obtain ⟨hS, s1, s2, hk7⟩ := HP.out.step hk6 hc6 hf6
      have HS := Lib.hid hS
      have HK7 := Lib.hid hk7
      clear hS hk7 hc6 hk6 hf6
      go_wp2_with fail
      go_end0
      exact ⟨rfl, _, HS.out.to HE.out, HK.out.then HK7.out (fun i hi e => (HF.out i e).resolve_right (by omega)), HF.out⟩
    · have HE := Lib.hid (HT.out.2 (fun h => h2 h.2))
      go_wp2_with fail
      go_end0
      exact ⟨rfl, _, HP.out.to HE.out, HK.out, HF.out⟩
  · have HE := Lib.hid (HT.out.2 (fun h => h1 h.1))
    have d1 : decide (0 < N.length) = false := by simpa using h1
    go_wp2_with fail
    go_end0
    exact ⟨rfl, _, HP.out.to HE.out, HK.out, HF.out⟩
end LogP
end Go.Proofs.YtlnbjlidakdmlaaGreatDoor
namespace Go.Proofs.YtlnbjlidakdmlaaGreatDoor
open Go.RowKit
set_option linter.unusedVariables false
namespace LogP
open LogM FrameM FrameC TextR DiskM DiskC LogC ErrC

/-- package log's log and its disk, apart from each other, above B -/
structure PLD (R : World → Nat → (Nat → Prop) → Int → DS → Prop) (w : World) (B p nb b : Nat) (F : Nat → Prop) (lv : Value) (cut : Int) (L : List (List UInt8)) (br : Bool) (s : DS) : Prop where
  pl : IsPL w B p nb b lv L br
  rep : R w b F cut s
  dis : ∀ i, FootP p nb lv i → ¬ F i
  low : ∀ i, F i → B ≤ i
  hw : B ≤ w.heap.size
  vars : VarsT w
  g : 0 < B ∧ 1 < B
/-- the blocks that a call of the log may write -/
def FootD (p nb : Nat) (lv : Value) (F : Nat → Prop) (i : Nat) : Prop := FootP p nb lv i ∨ F i
theorem PLD.low2 {R : World → Nat → (Nat → Prop) → Int → DS → Prop} {w : World} {B p nb b : Nat} {F : Nat → Prop} {lv : Value} {cut : Int} {L : List (List UInt8)} {br : Bool} {s : DS} (h : PLD R w B p nb b F lv cut L br s) : ∀ i, FootD p nb lv F i → B ≤ i := fun i hi => by
  rcases hi with hi | hi
  · exact (h.pl.foot i hi).1
  · exact h.low i hi
theorem PLD.keeps {R : World → Nat → (Nat → Prop) → Int → DS → Prop} {w w' : World} {B p nb b : Nat} {F S : Nat → Prop} {lv : Value} {cut : Int} {L : List (List UInt8)} {br : Bool} {s : DS} (hD : Dev B R) (h : PLD R w B p nb b F lv cut L br s) (k : Keeps S w w') (hS : ∀ i, FootD p nb lv F i → ¬ S i) (hB : ∀ i, S i → B ≤ i) : PLD R w' B p nb b F lv cut L br s :=
  ⟨h.pl.keeps k (fun i hi => hS i (.inl hi)), hD.keeps h.rep k (fun i hi => hS i (.inr hi)) hB, h.dis, h.low, Nat.le_trans h.hw k.size, h.vars.belowG (k.toBelow hB h.hw) h.g.1 h.g.2, h.g⟩
theorem PLD.below {R : World → Nat → (Nat → Prop) → Int → DS → Prop} {w w' : World} {B p nb b : Nat} {F : Nat → Prop} {lv : Value} {cut : Int} {L : List (List UInt8)} {br : Bool} {s : DS} (hD : Dev B R) (h : PLD R w B p nb b F lv cut L br s) (hb : Below w.heap.size w w') : PLD R w' B p nb b F lv cut L br s :=
  h.keeps hD (S := fun _ => False) (Keeps.of_below hb) (fun _ _ e => e) (fun _ e => e.elim)
/-- behind a call of the disk -/
theorem PLD.dev {R : World → Nat → (Nat → Prop) → Int → DS → Prop} {w w' : World} {B p nb b : Nat} {F F' : Nat → Prop} {lv : Value} {cut cut' : Int} {L : List (List UInt8)} {br : Bool} {s s' : DS} (h : PLD R w B p nb b F lv cut L br s) (hr : R w' b F' cut' s') (hk : Keeps F w w') (hf : ∀ i, F' i → F i ∨ w.heap.size ≤ i) : PLD R w' B p nb b F' lv cut' L br s' := by
  refine ⟨h.pl.keeps hk h.dis, hr, fun i hi hF => ?_, fun i hi => ?_, Nat.le_trans h.hw hk.size, h.vars.belowG (hk.toBelow h.low h.hw) h.g.1 h.g.2, h.g⟩
  · rcases hf i hF with h1 | h1
    · exact h.dis i hi h1
    · have := (h.pl.foot i hi).2; omega
  · rcases hf i hi with h1 | h1
    · exact h.low i h1
    · exact Nat.le_trans h.hw h1
/-- behind a call that turns the log alone -/
theorem PLD.log {R : World → Nat → (Nat → Prop) → Int → DS → Prop} {w w' : World} {B p nb b : Nat} {F : Nat → Prop} {lv lv' : Value} {cut : Int} {L L' : List (List UInt8)} {br br' : Bool} {s : DS} (hD : Dev B R) (h : PLD R w B p nb b F lv cut L br s) (hp : IsPL w' B p nb b lv' L' br') (hk : Keeps (FootP p nb lv) w w') (hf : ∀ i, FootP p nb lv' i → FootP p nb lv i ∨ w.heap.size ≤ i) : PLD R w' B p nb b F lv' cut L' br' s := by
  have hB : ∀ i, FootP p nb lv i → B ≤ i := fun i hi => (h.pl.foot i hi).1
  refine ⟨hp, hD.keeps h.rep hk (fun i hi hF => h.dis i hF hi) hB, fun i hi hF => ?_, h.low, Nat.le_trans h.hw hk.size, h.vars.belowG (hk.toBelow hB h.hw) h.g.1 h.g.2, h.g⟩
  rcases hf i hi with h1 | h1
  · exact h.dis i h1 hF
  · have := hD.lt h.rep i hF; omega
theorem IsPL.setBroken {w : World} {B p nb b : Nat} {lv : Value} {L : List (List UInt8)} {br : Bool} (h : IsPL w B p nb b lv L br) (c : Bool) : IsPL (w.setCell ⟨p, 4, none⟩ (.bool c)) B p nb b lv L c := by
  have k := keeps_at w p 4 (.bool c)
  have hn4 : (w.setCell ⟨p, 4, none⟩ (.bool c)).heap[nb]? = w.heap[nb]? := Below.heap_setCell _ _ _ _ h.ne
  exact ⟨by rw [cell_ne (by decide)]; exact h.disk, by rw [cell_ne (by decide)]; exact h.list, by rw [cell_ne (by decide)]; exact h.file, by rw [cell_ne (by decide)]; exact h.next, World.cell?_setCell_same _ _ _ h.broken, fun j => by simpa using h.free j,
    by rw [World.cell?_of_block (a := ⟨nb, 0, none⟩) hn4]; exact h.ctr, by rw [World.frozen?_of_block (a := ⟨nb, 0, none⟩) hn4]; exact h.cfree, own_keeps h.row k (fun g hg e => h.sep.1 (by rw [hg, e])), h.low, h.ne, h.sep⟩
theorem built_row (w : World) (s : ByteArray) : OwnT (w.alloc (.cells #[.string s] 9)) w.heap.size (.slice (some ⟨w.heap.size, 0, none⟩) 1 1) [s] :=
  ⟨rfl, .inr ⟨w.heap.size, 1, _, rfl, Nat.le_refl _, heap_alloc_new w _, Nat.le_refl _, by unfold maxLen; omega, rfl, rfl⟩⟩
theorem rec_drop (p : List UInt8) : (recB p).drop 12 = p := by rw [recB]; exact List.drop_left' (headB_length p)

/-- behind Append -/
def PAppE (R : World → Nat → (Nat → Prop) → Int → DS → Prop) (B p nb b : Nat) (F : Nat → Prop) (lv : Value) (cut : Int) (r : Nat × ByteArray × List (List UInt8) × Bool × DS) (w : World) (e : Ending) (w' : World) : Prop :=
  ∃ ev lv' F', e = .returned ev ∧ DErr w w' ev r.1 r.2.1 ∧ PLD R w' B p nb b F' lv' cut r.2.2.1 r.2.2.2.1 r.2.2.2.2 ∧ Keeps (FootD p nb lv F) w w' ∧ ∀ i, FootD p nb lv' F' i → FootD p nb lv F i ∨ w.heap.size ≤ i
theorem ferr_nil {w w' : World} {ev : Value} {a : Int} (h : FErr w w' ev 0 a) : ev = .nilIface := by
  rcases h with ⟨-, h⟩ | ⟨h, -⟩
  · exact h
  · exact absurd rfl h
theorem derr_from {w0 w w' : World} {ev : Value} {c : Nat} {t : ByteArray} (h : DErr w w' ev c t) (hs : w0.heap.size ≤ w.heap.size) : DErr w0 w' ev c t := by
  rcases h with h | ⟨h0, f, hv, hf, hF⟩
  · exact .inl h
  · exact .inr ⟨h0, f, hv, Nat.le_trans hs hf, hF⟩
theorem derr_nil {w w' : World} {ev : Value} {t : ByteArray} (h : DErr w w' ev 0 t) : ev = .nilIface := by
  rcases h with ⟨-, h⟩ | ⟨h, -⟩
  · exact h
  · exact absurd rfl h
theorem derr_some {w w' : World} {ev : Value} {c : Nat} {t : ByteArray} (h : DErr w w' ev c t) (hc : c ≠ 0) : ∃ f, ev = .iface 102 (.pointer (some ⟨f, 0, none⟩)) ∧ w.heap.size ≤ f ∧ IsFault w' f 0 c t (-1) := by
  rcases h with ⟨h, -⟩ | ⟨-, h⟩
  · exact absurd h hc
  · exact h
theorem FErr.derr {w w' : World} {ev : Value} {c : Nat} (h : FErr w w' ev c (-1)) : DErr w w' ev c (str []) := h
set_option maxHeartbeats 8000000 in
set_option maxRecDepth 100000 in
theorem pappend_any {R : World → Nat → (Nat → Prop) → Int → DS → Prop} {w : World} {B p nb b : Nat} {F : Nat → Prop} {lv : Value} {cut : Int} {L : List (List UInt8)} {br : Bool} {s : DS} (hD : Dev B R) (pl : List UInt8) (h : PLD R w B p nb b F lv cut L br s) (hg : DiskC.Good s.fs) (hc : s.count ≤ 549755813888) (hl : L.length ≤ 10000000) (hp : pl.length ≤ 140737488351232) :
    Calls Tryz.prog 9 #[.pointer (some ⟨p, 0, none⟩), .string (str pl)] w (PAppE R B p nb b F lv cut (appendL cut pl L br s) w) := by
  have HD := Lib.hid hD
  have HH := Lib.hid h
  have HG := Lib.hid hg
  have HC := Lib.hid hc
  have c0 := h.pl.disk
  obtain ⟨a, cp, rfl, c1⟩ := h.pl.len
  have c4 := h.pl.broken
  have hsz := str_size pl
  clear h hD hg hc
  cases hbr : br with
  | true =>
    have hr : appendL cut pl L true s = (3, str [], L, true, s) := by unfold appendL; rw [if_pos rfl]
    rw [hbr] at c4 HH
    rw [hr]
    clear hbr hr c1
    go_enter Tryz.func9, Tryz.ntmps9
    go_wp2_with fail
    refine (there_any p b w c0).mono ?_
    rintro e w' ⟨rfl, rfl⟩
    go_wp2_with fail
    refine (lfault_any 3 (-1) w).mono ?_
    rintro e w' ⟨rfl, rfl⟩
    go_wp2_with fail
    go_ret
    have hb := FrameC.fault_below 3 (-1) w
    exact ⟨_, _, F, rfl, FErr.derr (FrameC.fault_is 3 (by decide) (-1) w), HH.out.below HD.out hb, Keeps.of_below hb, fun i hi => .inl hi⟩
  | false =>
    rw [hbr] at c4 HH
    clear hbr
    have h1 := Lib.hid (fun w => of_any pl w (by omega))
    unfold OfE at h1
    by_cases hlong : 131072 < pl.length
    · have hr : appendL cut pl L false s = (4, str [], L, false, s) := by unfold appendL; rw [if_neg (by decide), if_pos (.inl hlong)]
      rw [hr]
      rw [if_pos hlong, if_pos hlong] at h1
      clear hr
      go_enter Tryz.func9, Tryz.ntmps9
      go_wp2_with fail
      refine (there_any p b w c0).mono ?_
      rintro e w' ⟨rfl, rfl⟩
      go_wp2_with fail
      refine (h1.out _).mono ?_
      rintro e w1 ⟨ev, rfl, he, hb⟩
      rcases he with ⟨h4, -⟩ | ⟨-, f, rfl, -, -⟩
      · cases h4
      have HB := Lib.hid hb; clear hb
      go_wp2_with fail
      refine (lfault_any 4 (-1) w1).mono ?_
      rintro e w' ⟨rfl, rfl⟩
      go_wp2_with fail
      go_ret
      have hb := FrameC.fault_below 4 (-1) w1
      have hb2 := HB.out.trans (hb.mono HB.out.size)
      exact ⟨_, _, F, rfl, FErr.derr ((FrameC.fault_is 4 (by decide) (-1) w1).from_ HB.out.size), HH.out.below HD.out hb2, Keeps.of_below hb2, fun i hi => .inl hi⟩
    · rw [if_neg hlong, if_neg hlong] at h1
      by_cases hfull : 16384 ≤ L.length
      · have hr : appendL cut pl L false s = (4, str [], L, false, s) := by unfold appendL; rw [if_neg (by decide), if_pos (.inr hfull)]
        rw [hr]
        have hd1 : decide (16384 ≤ (L.length : Int)) = true := by simp; omega
        have hpw := HH.out.pl.lt
        clear hr hlong
        go_enter Tryz.func9, Tryz.ntmps9
        go_wp2_with fail
        refine (there_any p b w c0).mono ?_
        rintro e w' ⟨rfl, rfl⟩
        go_wp2_with fail
        refine (h1.out _).mono ?_
        rintro e w1 ⟨ev, rfl, he, hb⟩
        obtain rfl := ferr_nil he
        have k1 : w1.cell? ⟨p, 1, none⟩ = _ := (hb.cell hpw).trans c1
        have HB := Lib.hid hb; clear hb
        go_wp2_with fail
        refine (lfault_any 4 (-1) w1).mono ?_
        rintro e w' ⟨rfl, rfl⟩
        go_wp2_with fail
        go_ret
        have hb := FrameC.fault_below 4 (-1) w1
        have hb2 := HB.out.trans (hb.mono HB.out.size)
        exact ⟨_, _, F, rfl, FErr.derr ((FrameC.fault_is 4 (by decide) (-1) w1).from_ HB.out.size), HH.out.below HD.out hb2, Keeps.of_below hb2, fun i hi => .inl hi⟩
      · have hr : appendL cut pl L false s = if (appendS cut (nameN (L.length / 64 + 1)) (str (recB pl)) s).1 = 0 then (0, str [], L ++ [pl], false, (appendS cut (nameN (L.length / 64 + 1)) (str (recB pl)) s).2)
            else ((appendS cut (nameN (L.length / 64 + 1)) (str (recB pl)) s).1, nameN (L.length / 64 + 1), L, decide ((appendS cut (nameN (L.length / 64 + 1)) (str (recB pl)) s).1 = 5), (appendS cut (nameN (L.length / 64 + 1)) (str (recB pl)) s).2) := by
          unfold appendL
          rw [if_neg (by decide), if_neg (fun h => h.elim hlong hfull)]
        obtain ⟨RR, hRR⟩ : ∃ RR, RR = appendL cut pl L false s := ⟨_, rfl⟩
        rw [← hRR]
        rw [hr] at hRR
        have HR := Lib.hid hRR
        clear hRR
        have HAS := Lib.hid (fun w4 h4 hv => HD.out.append (w := w4) (b := b) (F := F) (cut := cut) (s := s) (nameN (L.length / 64 + 1)) (str (recB pl)) h4 HG.out HC.out hv)
        have HF := Lib.hid HH.out.pl.file
        have hd1 : decide (16384 ≤ (L.length : Int)) = false := by simp; omega
        have hpw := HH.out.pl.lt
        have hrl : (recB pl).length = 12 + pl.length := recB_length pl
        have hsd := sl_from (recB pl) 12 12 rfl (by omega)
        rw [rec_drop] at hsd
        have HL := Lib.hid (show L.length % 64 + [pl].length ≤ 64 by simp; omega)
        obtain ⟨N, hN⟩ : ∃ N, N = nameN (L.length / 64 + 1) := ⟨_, rfl⟩
        obtain ⟨RC, hRC⟩ : ∃ RC, RC = recB pl := ⟨_, rfl⟩
        rw [← hN] at HAS HF HR
        rw [← hRC] at HAS hrl hsd h1 HR
        have HL2 := Lib.hid hl
        have hfull2 : ¬ 16384 ≤ L.length := hfull
        clear hr hlong hN hRC hl
        go_enter Tryz.func9, Tryz.ntmps9
        go_wp2_with fail
        refine (there_any p b w c0).mono ?_
        rintro e w' ⟨rfl, rfl⟩
        go_wp2_with fail
        refine (h1.out _).mono ?_
        rintro e w1 ⟨ev, rfl, he, hb⟩
        obtain rfl := ferr_nil he
        have k1 : w1.cell? ⟨p, 1, none⟩ = _ := (hb.cell hpw).trans c1
        have k0 : w1.cell? ⟨p, 0, none⟩ = _ := (hb.cell hpw).trans c0
        have k2 : w1.cell? ⟨p, 2, none⟩ = _ := (hb.cell hpw).trans HF.out
        have HB := Lib.hid hb
        have HH1 := Lib.hid (HH.out.below HD.out hb)
        clear hb he
        go_upto_region 8 with fail
        go_still_tail 9, (by kernel_rfl)
        change wpList _ _ _ _ _ w1.drew
        have HH2 := Lib.hid (HH1.out.below HD.out (⟨rfl, rfl, rfl, Nat.le_refl _, fun _ _ => rfl⟩ : Below w1.heap.size w1 w1.drew))
        have HB2 : Hid (Below w.heap.size w w1.drew) := Lib.hid (HB.out.trans ⟨rfl, rfl, rfl, Nat.le_refl _, fun _ _ => rfl⟩)
        generalize w1.drew = w2 at *
        go_wp2_with fail
        refine (HAS.out w2 HH2.out.rep HH2.out.vars.vars).mono ?_
        generalize appendS cut N (str RC) s = r at *
        obtain ⟨c, s2⟩ := r
        rintro e w3 ⟨ev, F', rfl, he, hr3, hk3, hf3⟩
        dsimp only at *
        have HH3 := Lib.hid (HH2.out.dev hr3 hk3 hf3)
        have HK3 : Hid (Keeps (FootD p nb (.slice a L.length cp) F) w w3) := Lib.hid ((Keeps.of_below (S := FootD p nb (.slice a L.length cp) F) HB2.out).then hk3 (fun i _ hi => .inr hi))
        have HF3 : Hid (∀ i, F' i → F i ∨ w.heap.size ≤ i) := Lib.hid (fun i hi => (hf3 i hi).imp id (fun h => Nat.le_trans HB2.out.size h))
        clear hr3 hk3 hf3 HH2 HAS
        have hs3 := HK3.out.size
        by_cases hz : c = 0
        · subst hz
          obtain rfl := derr_nil he
          obtain rfl : RR = (0, str [], L ++ [pl], false, s2) := by rw [HR.out, if_pos rfl]
          have HTK : Hid (∀ w5, Below w3.heap.size w3 w5 → OwnT w5 w3.heap.size (.slice (some ⟨w3.heap.size, 0, none⟩) 1 1) [str pl] → Calls Tryz.prog 38 #[.pointer (some ⟨p, 0, none⟩), .slice (some ⟨w3.heap.size, 0, none⟩) 1 1] w5 (TakeE B p nb b (.slice a L.length cp) (L ++ [pl]) false w5)) := Lib.hid (fun w5 hb ho =>
            take_any (M := [pl]) (HH3.out.below HD.out hb).pl ho HL.out HL2.out (HH3.out.below HD.out hb).vars HH3.out.g (HH3.out.below HD.out hb).hw)
          have HNB : Hid (Below w3.heap.size w3 (w3.alloc (.cells #[.string (str pl)] 9))) := Lib.hid ((Below.refl _ _).alloc (Nat.le_refl _) _)
          clear he
          go_wp2_with fail
          refine (HTK.out _ HNB.out (built_row w3 (str pl))).mono ?_
          rintro e w5 ⟨rfl, lv', hp5, hk5, hf5⟩
          have HH5 := Lib.hid ((HH3.out.below HD.out HNB.out).log HD.out hp5 hk5 hf5)
          have HK5 : Hid (Keeps (FootD p nb (.slice a L.length cp) F) w w5) := Lib.hid ((HK3.out.then (Keeps.of_below (S := fun _ => False) HNB.out) (fun _ _ h => h.elim)).then hk5 (fun i _ hi => .inl hi))
          have HF5 : Hid (∀ i, FootP p nb lv' i → FootP p nb (.slice a L.length cp) i ∨ w.heap.size ≤ i) := Lib.hid (fun i hi => (hf5 i hi).imp id (fun h => by have := HNB.out.size; omega))
          clear hp5 hk5 hf5
          go_wp2_with fail
          go_ret
          exact ⟨_, lv', F', rfl, .inl ⟨rfl, rfl⟩, HH5.out, HK5.out, fun i hi => by
            rcases hi with h | h
            · exact (HF5.out i h).imp .inl id
            · exact (HF3.out i h).imp .inr id⟩
        · obtain rfl : RR = (c, N, L, decide (c = 5), s2) := by rw [HR.out, if_neg hz]
          have HIS := Lib.hid (is_of he 5 (by decide))
          have HE := Lib.hid he
          obtain ⟨f, hev, hfl, hF⟩ := derr_some he hz
          subst hev
          clear he hz
          have hp3 := HH3.out.pl.lt
          go_wp2_with fail
          refine HIS.out.mono ?_
          rintro e w5 ⟨rfl, hb⟩
          have HB5 := Lib.hid hb
          have HH5 := Lib.hid (HH3.out.below HD.out hb)
          clear hb
          have e4 := HH5.out.pl.broken
          have f4 := HH5.out.pl.free 4
          have HP6 := Lib.hid (HH5.out.pl.setBroken (decide (c = 5)))
          have HK6 := Lib.hid (keeps_at w5 p 4 (.bool (decide (c = 5))))
          generalize decide (c = 5) = dc at *
          go_wp2_with fail
          go_ret
          have k6 : Keeps (FootP p nb (.slice a L.length cp)) w5 (w5.setCell ⟨p, 4, none⟩ (.bool dc)) := HK6.out.mono (fun i e => .inl e)
          have hs5 := HB5.out.size
          refine ⟨_, _, F', rfl, ?_, HH5.out.log HD.out HP6.out k6 (fun i hi => .inl hi), ((HK3.out.then (Keeps.of_below (S := fun _ => False) HB5.out) (fun _ _ h => h.elim)).then k6 (fun i _ hi => .inl hi)), fun i hi => ?_⟩
          · have h1 := HE.out.keeps (Keeps.of_below (S := fun _ => False) HB5.out) (fun _ h => h.elim)
            have hs2 := HB2.out.size
            exact derr_from (h1.keeps HK6.out (fun i e => by rw [e]; omega)) hs2
          · rcases hi with h | h
            · exact .inl (.inl h)
            · exact (HF3.out i h).imp .inr id
end LogP
end Go.Proofs.YtlnbjlidakdmlaaGreatDoor
