/-
  The document's log as its cells hold it; Files.
-/
import Derived.Test.YtlnbjlidakdmlaaGreatDoorLogRef
import Derived.Test.YtlnbjlidakdmlaaGreatDoorDiskRef
namespace Go.Proofs.YtlnbjlidakdmlaaGreatDoor
open Go.RowKit
namespace LogC
open LogM FrameM FrameC TextR DiskM DiskC

/-- the document's log over the disk in block y -/
structure IsLog (w : World) (p y : Nat) (lv : Value) (L : List (List UInt8)) (br : Bool) : Prop where
  disk : w.cell? ⟨p, 0, none⟩ = some (.pointer (some ⟨y, 0, none⟩))
  list : w.cell? ⟨p, 1, none⟩ = some lv
  broken : w.cell? ⟨p, 2, none⟩ = some (.bool br)
  free : ∀ j, w.frozen? ⟨p, j, none⟩ = false
  row : OwnT w 0 lv (L.map str)
  sep : lv.ownBlock ≠ some p
theorem IsLog.lt {w : World} {p y : Nat} {lv : Value} {L : List (List UInt8)} {br : Bool} (h : IsLog w p y lv L br) : p < w.heap.size := World.block_lt_of_cell? _ _ h.disk
/-- how many files hold so many records -/
def filesN (n : Nat) : Nat := (n + 63) / 64
theorem rfiles_any {w : World} {p y : Nat} {lv : Value} {L : List (List UInt8)} {br : Bool} (h : IsLog w p y lv L br) (hl : L.length ≤ 1099511627776) :
    Calls Tryz.prog 57 #[.pointer (some ⟨p, 0, none⟩)] w fun e w' => e = .returned (.int .i64 (filesN L.length : Nat)) ∧ w = w' := by
  obtain ⟨a, cp, rfl, -⟩ := h.row.open_
  have hm : (L.map str).length = L.length := List.length_map _
  have hc := h.list
  rw [hm] at hc
  clear h
  go_enter Tryz.func57, Tryz.ntmps57
  go_wp2_with fail
  go_ret
  exact ⟨by unfold filesN; go_num, rfl⟩

/-! ### Append -/
/-- the error's number, the file's name, and what there is then: the records, broken or not, the disk -/
def appendL (cut : Int) (pl : List UInt8) (L : List (List UInt8)) (br : Bool) (s : DS) : Nat × ByteArray × List (List UInt8) × Bool × DS :=
  if br = true then (3, str [], L, br, s)
  else if 131072 < pl.length ∨ 16384 ≤ L.length then (4, str [], L, br, s)
  else if (appendS cut (str (fileB (L.length / 64 + 1))) (str (recB pl)) s).1 = 0 then (0, str [], L ++ [pl], br, (appendS cut (str (fileB (L.length / 64 + 1))) (str (recB pl)) s).2)
  else ((appendS cut (str (fileB (L.length / 64 + 1))) (str (recB pl)) s).1, str (fileB (L.length / 64 + 1)), L, decide ((appendS cut (str (fileB (L.length / 64 + 1))) (str (recB pl)) s).1 = 5), (appendS cut (str (fileB (L.length / 64 + 1))) (str (recB pl)) s).2)
/-- the log's blocks and its disk's -/
def FootL (p y : Nat) (lv v : Value) (i : Nat) : Prop := i = p ∨ lv.ownBlock = some i ∨ Foot y v i
structure LogD (w : World) (p y : Nat) (lv v : Value) (cut : Int) (L : List (List UInt8)) (br : Bool) (s : DS) : Prop where
  log : IsLog w p y lv L br
  dsk : IsD w y v cut s
  py : ¬ Foot y v p
  row : ∀ g, lv.ownBlock = some g → ¬ Foot y v g
def AppE (p y : Nat) (lv v : Value) (cut : Int) (r : Nat × ByteArray × List (List UInt8) × Bool × DS) (w : World) (e : Ending) (w' : World) : Prop :=
  e = .returned (.tuple #[.int .i64 (r.1 : Int), .string r.2.1]) ∧ ∃ lv' v', LogD w' p y lv' v' cut r.2.2.1 r.2.2.2.1 r.2.2.2.2 ∧ Keeps (FootL p y lv v) w w' ∧ ∀ i, FootL p y lv' v' i → FootL p y lv v i ∨ w.heap.size ≤ i
theorem LogD.below {w w' : World} {p y : Nat} {lv v : Value} {cut : Int} {L : List (List UInt8)} {br : Bool} {s : DS} (h : LogD w p y lv v cut L br s) (hb : Below w.heap.size w w') : LogD w' p y lv v cut L br s := by
  have hp := h.log.lt
  have hbl : w'.heap[p]? = w.heap[p]? := hb.block p hp
  exact ⟨⟨by rw [hb.cell hp]; exact h.log.disk, by rw [hb.cell hp]; exact h.log.list, by rw [hb.cell hp]; exact h.log.broken, fun j => by rw [World.frozen?_of_block (a := ⟨p, j, none⟩) hbl]; exact h.log.free j, below_own h.log.row hb, h.log.sep⟩,
    IsDsk.keeps h.dsk (Keeps.of_below (S := fun _ => False) hb) (fun _ _ h => h), h.py, h.row⟩

theorem own_keeps {S : Nat → Prop} {w w' : World} {B : Nat} {v : Value} {M : List ByteArray} (h : OwnT w B v M) (k : Keeps S w w') (hS : ∀ g, v.ownBlock = some g → ¬ S g) : OwnT w' B v M := by
  obtain ⟨h1, h2 | ⟨g, cap, cur, rfl, h3, h4, h5⟩⟩ := h
  · exact ⟨h1, .inl h2⟩
  · exact ⟨h1, .inr ⟨g, cap, cur, rfl, h3, by rw [k.block g (Array.getElem?_eq_some_iff.1 h4).1 (hS g rfl)]; exact h4, h5⟩⟩
theorem foot_new {w w3 : World} {y : Nat} {v v3 : Value} {fs : FL} {cut count : Int} {dead : Bool} (hl : Laid w w3 y v v3 fs cut count dead) (i : Nat) (h : Foot y v3 i) : Foot y v i ∨ w.heap.size ≤ i := by
  rcases h with rfl | h
  · exact .inl (.inl rfl)
  · exact (hl.row i h).imp .inr id
theorem LogD.laid {w w3 : World} {p y : Nat} {lv v v3 : Value} {cut : Int} {L : List (List UInt8)} {br : Bool} {s s3 : DS} (h : LogD w p y lv v cut L br s) (hl : Laid w w3 y v v3 s3.fs cut s3.count s3.dead) : LogD w3 p y lv v3 cut L br s3 := by
  have hp := h.log.lt
  have hbl : w3.heap[p]? = w.heap[p]? := hl.keeps.block p hp h.py
  have hc : ∀ j, w3.cell? ⟨p, j, none⟩ = w.cell? ⟨p, j, none⟩ := fun j => World.cell?_of_block (a := ⟨p, j, none⟩) hbl
  refine ⟨⟨by rw [hc]; exact h.log.disk, by rw [hc]; exact h.log.list, by rw [hc]; exact h.log.broken, fun j => by rw [World.frozen?_of_block (a := ⟨p, j, none⟩) hbl]; exact h.log.free j, own_keeps h.log.row hl.keeps h.row, h.log.sep⟩, hl.dsk, fun hf => ?_, fun g hg hf => ?_⟩
  · rcases foot_new hl p hf with h1 | h1
    · exact h.py h1
    · omega
  · rcases foot_new hl g hf with h1 | h1
    · exact h.row g hg h1
    · have := (World.ownsRow.lt h.log.row g hg).2; omega
theorem keeps_cell (w : World) (p j : Nat) (u : Value) : Keeps (· = p) w (w.setCell ⟨p, j, none⟩ u) := ⟨rfl, rfl, rfl, by simp, fun k _ hk => Below.heap_setCell w ⟨p, j, none⟩ u k hk⟩
theorem LogD.setBroken {w : World} {p y : Nat} {lv v : Value} {cut : Int} {L : List (List UInt8)} {br : Bool} {s : DS} (h : LogD w p y lv v cut L br s) (b : Bool) : LogD (w.setCell ⟨p, 2, none⟩ (.bool b)) p y lv v cut L b s := by
  have k := keeps_cell w p 2 (.bool b)
  refine ⟨⟨by rw [cell_ne (by decide)]; exact h.log.disk, by rw [cell_ne (by decide)]; exact h.log.list, World.cell?_setCell_same _ _ _ h.log.broken, fun j => by simpa using h.log.free j, own_keeps h.log.row k (fun g hg e => h.log.sep (by rw [hg, e])), h.log.sep⟩, IsDsk.keeps h.dsk k (fun i hi e => h.py (by rw [← e]; exact hi)), h.py, h.row⟩

theorem foot_in {w : World} {y : Nat} {v : Value} {cut : Int} {s : DS} (h : IsD w y v cut s) : ∀ i, Foot y v i → i < w.heap.size := fun i hi => by
  rcases hi with rfl | hi
  · exact IsDsk.lt h
  · exact (h.row.lt i hi).2
theorem LogD.app {w3 w4 : World} {p y : Nat} {lv v v' : Value} {cut : Int} {L : List (List UInt8)} {pl : List UInt8} {br : Bool} {s : DS} (h : LogD w3 p y lv v cut L br s) (o : Obj) (hg : (w3.alloc o).grownBy w4 lv.ownBlock)
    (hown : OwnT w4 0 v' ((L ++ [pl]).map str)) (hloc : v'.ownBlock = lv.ownBlock ∨ v'.ownBlock = some (w3.heap.size + 1)) :
    LogD (w4.setCell ⟨p, 1, none⟩ v') p y v' v cut (L ++ [pl]) br s ∧ Keeps (FootL p y lv v) w3 (w4.setCell ⟨p, 1, none⟩ v') ∧ ∀ i, FootL p y v' v i → FootL p y lv v i ∨ w3.heap.size ≤ i := by
  have hp := h.log.lt
  have k0 : Keeps (fun i => lv.ownBlock = some i) w3 w4 := by
    have ka : Keeps (fun i => lv.ownBlock = some i) w3 (w3.alloc o) := (Keeps.refl _ _).alloc o
    exact ka.trans ⟨hg.os, hg.tape, hg.output, hg.size, fun i hi hn => hg.block i hi (fun e => hn e.symm)⟩
  have hbl : w4.heap[p]? = w3.heap[p]? := k0.block p hp h.log.sep
  have hc : ∀ j, w4.cell? ⟨p, j, none⟩ = w3.cell? ⟨p, j, none⟩ := fun j => World.cell?_of_block (a := ⟨p, j, none⟩) hbl
  have hfr : ∀ j, w4.frozen? ⟨p, j, none⟩ = false := fun j => by rw [World.frozen?_of_block (a := ⟨p, j, none⟩) hbl]; exact h.log.free j
  have hsep : v'.ownBlock ≠ some p := by
    rcases hloc with e | e
    · rw [e]; exact h.log.sep
    · rw [e]; intro e2; have := Option.some.inj e2; omega
  have kc := keeps_cell w4 p 1 v'
  have hd4 : IsD w4 y v cut s := IsDsk.keeps h.dsk k0 (fun i hi e => h.row i e hi)
  have hrow : ∀ g, v'.ownBlock = some g → ¬ Foot y v g := fun g hg2 => by
    rcases hloc with e | e
    · exact h.row g (by rw [← e]; exact hg2)
    · intro hf
      rw [e] at hg2
      have e2 := Option.some.inj hg2
      have := foot_in h.dsk g hf
      omega
  refine ⟨⟨⟨by rw [cell_ne (by decide), hc]; exact h.log.disk, World.cell?_setCell_same _ _ _ (by rw [hc]; exact h.log.list), by rw [cell_ne (by decide), hc]; exact h.log.broken, fun j => by simpa using hfr j, own_keeps hown kc (fun g hg2 e => hsep (by rw [hg2, e])), hsep⟩, IsDsk.keeps hd4 kc (fun i hi e => h.py (by rw [← e]; exact hi)), h.py, hrow⟩, ?_, fun i hi => ?_⟩
  · exact (k0.mono (T := FootL p y lv v) (fun i e => .inr (.inl e))).then kc (fun i _ hi => .inl hi)
  · rcases hi with e | e | e
    · exact .inl (.inl e)
    · rcases hloc with e2 | e2
      · exact .inl (.inr (.inl (by rw [← e2]; exact e)))
      · rw [e2] at e
        have := Option.some.inj e
        exact .inr (by omega)
    · exact .inl (.inr (.inr e))

set_option maxHeartbeats 4000000 in
set_option maxRecDepth 100000 in
theorem rappend_any {w : World} {p y : Nat} {lv v : Value} {cut : Int} {L : List (List UInt8)} {br : Bool} {s : DS} (pl : List UInt8) (h : LogD w p y lv v cut L br s) (hf : Fit s) (hl : L.length ≤ 1099511627776) (hp : pl.length ≤ 140737488351232) :
    Calls Tryz.prog 10 #[.pointer (some ⟨p, 0, none⟩), .string (str pl)] w (AppE p y lv v cut (appendL cut pl L br s) w) := by
  have HH := Lib.hid h
  have c0 := h.log.disk
  have c1 := h.log.list
  have c2 := h.log.broken
  have hm : (L.map str).length = L.length := List.length_map _
  obtain ⟨a, cp, hlv, -⟩ := h.log.row.open_
  rw [hm] at hlv
  have hsz := str_size pl
  have hpw := h.log.lt
  clear h hm
  unfold AppE
  cases hbr : br with
  | true =>
    have hr : appendL cut pl L true s = (3, str [], L, true, s) := by unfold appendL; rw [if_pos rfl]
    rw [hbr] at c2
    rw [hr]
    have HB := Lib.hid hbr
    clear hbr hr
    go_enter Tryz.func10, Tryz.ntmps10
    go_wp2_with fail
    go_ret2
    exact ⟨rfl, lv, v, by rw [← HB.out]; exact HH.out, Keeps.refl _ _, fun i hi => .inl hi⟩
  | false =>
    rw [hbr] at c2
    rw [hbr] at HH
    clear hbr
    by_cases hlong : 131072 < pl.length
    · have hr : appendL cut pl L false s = (4, str [], L, false, s) := by unfold appendL; rw [if_neg (by decide), if_pos (.inl hlong)]
      rw [hr]
      have h1 := Lib.hid (fun w => rofp_any pl w (by omega))
      rw [ofEnd_long pl hlong] at h1
      clear hr
      go_enter Tryz.func10, Tryz.ntmps10
      go_wp2_with fail
      refine (h1.out _).mono ?_
      rintro e w1 ⟨rfl, hb⟩
      have HB := Lib.hid hb; clear hb
      go_wp2_with fail
      go_ret2
      exact ⟨rfl, lv, v, HH.out.below HB.out, (Keeps.of_below HB.out), fun i hi => .inl hi⟩
    · have hn1 : ¬ 131072 < pl.length := hlong
      have h1 := Lib.hid (fun w => rofp_any pl w (by omega))
      rw [ofEnd_ok pl hlong] at h1
      by_cases hfull : 16384 ≤ L.length
      · have hr : appendL cut pl L false s = (4, str [], L, false, s) := by unfold appendL; rw [if_neg (by decide), if_pos (.inr hfull)]
        rw [hr]
        subst hlv
        have hd1 : decide (16384 ≤ (L.length : Int)) = true := by simp; omega
        clear hr hn1
        go_enter Tryz.func10, Tryz.ntmps10
        go_wp2_with fail
        refine (h1.out _).mono ?_
        rintro e w1 ⟨rfl, hb⟩
        have k1 : w1.cell? ⟨p, 1, none⟩ = _ := (hb.cell hpw).trans c1
        have HB := Lib.hid hb; clear hb
        go_wp2_with fail
        go_ret2
        exact ⟨rfl, _, v, HH.out.below HB.out, (Keeps.of_below HB.out), fun i hi => .inl hi⟩
      · have hr : appendL cut pl L false s = if (appendS cut (str (fileB (L.length / 64 + 1))) (str (recB pl)) s).1 = 0 then (0, str [], L ++ [pl], false, (appendS cut (str (fileB (L.length / 64 + 1))) (str (recB pl)) s).2)
            else ((appendS cut (str (fileB (L.length / 64 + 1))) (str (recB pl)) s).1, str (fileB (L.length / 64 + 1)), L, decide ((appendS cut (str (fileB (L.length / 64 + 1))) (str (recB pl)) s).1 = 5), (appendS cut (str (fileB (L.length / 64 + 1))) (str (recB pl)) s).2) := by
          unfold appendL
          rw [if_neg (by decide), if_neg (fun h => h.elim hlong hfull)]
        obtain ⟨R, hR⟩ : ∃ R, R = appendL cut pl L false s := ⟨_, rfl⟩
        rw [← hR]
        rw [hr] at hR
        have HR := Lib.hid hR
        clear hR
        subst hlv
        have hd1 : decide (16384 ≤ (L.length : Int)) = false := by simp; omega
        have hN : L.length / 64 + 1 < 1000 := by omega
        have h2 := Lib.hid (fun w => rfile_any (L.length / 64 + 1) w (by omega))
        have h3 := Lib.hid (fun w4 h => dappend_any y v cut (str (fileB (L.length / 64 + 1))) (str (recB pl)) s w4 h hf (by rw [str_size, recB_length]; omega))
        obtain ⟨N, hNe⟩ : ∃ N, N = L.length / 64 + 1 := ⟨_, rfl⟩
        rw [← hNe] at h2 h3 HR
        obtain ⟨K, hK, hKN⟩ : ∃ K : Nat, (L.length : Int) / 64 = (K : Int) ∧ N = K + 1 := ⟨L.length / 64, by omega, hNe⟩
        have hK2 : K ≤ 256 := by omega
        have h2' : Hid (∀ w, Calls Tryz.prog 28 #[.int .i64 ((K : Int) + 1)] w fun e w' => e = .returned (.string (str (fileB N))) ∧ Below w.heap.size w w') := Lib.hid (fun w => by
          have := h2.out w
          rw [show ((N : Nat) : Int) = (K : Int) + 1 by omega] at this
          exact this)
        clear hNe hKN h2 hN
        clear hr hn1
        go_enter Tryz.func10, Tryz.ntmps10
        go_wp2_with fail
        refine (h1.out _).mono ?_
        rintro e w1 ⟨rfl, hb⟩
        have k0 : w1.cell? ⟨p, 0, none⟩ = _ := (hb.cell hpw).trans c0
        have k1 : w1.cell? ⟨p, 1, none⟩ = _ := (hb.cell hpw).trans c1
        have hpw1 := Nat.lt_of_lt_of_le hpw hb.size
        have HB := Lib.hid hb; clear hb c0 c1 c2
        go_wp2_with fail
        refine (h2'.out _).mono ?_
        rintro e w2 ⟨rfl, hb⟩
        have c0 : w2.cell? ⟨p, 0, none⟩ = _ := (hb.cell hpw1).trans k0
        have HB2 := Lib.hid (HB.out.trans (hb.mono HB.out.size)); clear hb k0 k1
        have HH2 := Lib.hid (HH.out.below HB2.out)
        go_wp2_with fail
        refine (h3.out _ HH2.out.dsk).mono ?_
        rintro e w3 ⟨rfl, v3, hl3⟩
        have HL := Lib.hid hl3
        clear hl3
        generalize appendS cut (str (fileB N)) (str (recB pl)) s = r at *
        obtain ⟨c, s3⟩ := r
        dsimp only at *
        have HH3 := Lib.hid (HH2.out.laid HL.out)
        have d1 := HH3.out.log.list
        have d2 := HH3.out.log.broken
        have d0 := HH3.out.log.free 2
        by_cases hz : c = 0
        · subst hz
          obtain rfl : R = (0, str [], L ++ [pl], false, s3) := by rw [HR.out, if_pos rfl]
          obtain ⟨i0, hi, hz0, hz1, hz2⟩ := info_parts info_text
          obtain ⟨M, hM⟩ : ∃ M, M = L.map str := ⟨_, rfl⟩
          have hMl : M.length = L.length := by rw [hM, List.length_map]
          have hrow := HH3.out.log.row
          rw [← hM] at hrow
          have HM := Lib.hid hM
          have HROW := Lib.hid hrow
          have hfr1 := HH3.out.log.free 1
          have hpw3 := HH3.out.log.lt
          have hown0 : Hid (∀ w4 : World, w4.heap[p]? = w3.heap[p]? → w4.cell? ⟨p, 1, none⟩ = some (Value.slice a L.length cp) ∧ w4.frozen? ⟨p, 1, none⟩ = false) := Lib.hid (fun w4 e => ⟨by rw [World.cell?_of_block (a := ⟨p, 1, none⟩) e]; exact d1, by rw [World.frozen?_of_block (a := ⟨p, 1, none⟩) e]; exact hfr1⟩)
          clear hM hrow
          go_wp2_with (at_builtin; refine wpList_append_own_at _ rfl _ _ 42 rfl 0 9 i0 (.string ⟨#[]⟩) 1 16 Tryz.underlying42 hi hz0 hz1 hz2 rfl (by decide) _ _ _ rfl (World.ownsRow.alloc HROW.out _) ⟨w3.heap.size, 0, none⟩ 1 1 [.string (str pl)] rfl rfl ?c1 ?c2 ?c3 ?c4 ?c5 ?_)
          case c2 => rfl
          case c3 => unfold maxLen; omega
          case c4 => omega
          intro v' w4 hown' hgr _ hloc
          have hown2 : OwnT w4 0 v' ((L ++ [pl]).map str) := by
            rw [List.map_append, List.map_singleton, ← HM.out]
            exact snoc hown' hMl.symm
          have hpb : w4.heap[p]? = w3.heap[p]? := by
            rw [hgr.block p (by simp; omega) (fun e => HH3.out.log.sep e.symm)]
            exact heap_alloc_old w3 _ hpw3
          obtain ⟨q1, q2⟩ := hown0.out w4 hpb
          obtain ⟨f1, f2, f3⟩ := HH3.out.app _ hgr hown2 (by simpa using hloc)
          have F1 := Lib.hid f1
          have F2 := Lib.hid f2
          have F3 := Lib.hid f3
          obtain ⟨a4, cp4, hv4, -⟩ := hown2.open_
          rw [show ((L ++ [pl]).map str).length = L.length + 1 by simp] at hv4
          clear f1 f2 f3 hown' hgr hown2 hloc hpb
          subst hv4
          go_wp2_with fail
          go_ret2
          exact ⟨rfl, _, v3, F1.out, ((Keeps.of_below (S := FootL p y (.slice a L.length cp) v) HB2.out).then HL.out.keeps (fun i _ hi => .inr (.inr hi))).then F2.out (fun i hi2 hi => by
            rcases hi with e | e | e
            · exact .inl e
            · exact .inr (.inl e)
            · rcases foot_new HL.out i e with e2 | e2
              · exact .inr (.inr e2)
              · have := HB2.out.size; omega), fun i hi => by
            rcases F3.out i hi with e | e
            · rcases e with e | e | e
              · exact .inl (.inl e)
              · exact .inl (.inr (.inl e))
              · rcases foot_new HL.out i e with e2 | e2
                · exact .inl (.inr (.inr e2))
                · exact .inr (Nat.le_trans HB2.out.size e2)
            · exact .inr (Nat.le_trans HB2.out.size (Nat.le_trans HL.out.keeps.size e))⟩
        · have hcz : ((c : Int) == 0) = false := beq_eq_false_iff_ne.2 (by omega)
          obtain rfl : R = (c, str (fileB N), L, decide (c = 5), s3) := by rw [HR.out, if_neg hz]
          have HK : Hid (∀ b, Keeps (FootL p y (.slice a L.length cp) v) w (w3.setCell ⟨p, 2, none⟩ (.bool b))) := Lib.hid (fun b =>
            ((Keeps.of_below (S := FootL p y (.slice a L.length cp) v) HB2.out).then HL.out.keeps (fun i _ hi => .inr (.inr hi))).then (keeps_cell w3 p 2 (.bool b)) (fun i _ hi => .inl hi))
          have HF : Hid (∀ i, FootL p y (.slice a L.length cp) v3 i → FootL p y (.slice a L.length cp) v i ∨ w.heap.size ≤ i) := Lib.hid (fun i hi => by
            rcases hi with h1 | h1 | h1
            · exact .inl (.inl h1)
            · exact .inl (.inr (.inl h1))
            · rcases foot_new HL.out i h1 with h2 | h2
              · exact .inl (.inr (.inr h2))
              · exact .inr (Nat.le_trans HB2.out.size h2))
          by_cases h5 : c = 5
          · have hc5 : ((c : Int) == 5) = true := beq_iff_eq.2 (by omega)
            have hd5 : decide (c = 5) = true := by simpa using h5
            have HE := Lib.hid (HH3.out.setBroken true)
            have HD5 := Lib.hid hd5
            clear hz h5 hd5
            go_wp2_with fail
            go_ret2
            exact ⟨rfl, _, v3, by rw [HD5.out]; exact HE.out, HK.out true, HF.out⟩
          · have hc5 : ((c : Int) == 5) = false := beq_eq_false_iff_ne.2 (by omega)
            have hd5 : decide (c = 5) = false := by simpa using h5
            have HE := Lib.hid (HH3.out.setBroken false)
            have HD5 := Lib.hid hd5
            clear hz h5 hd5
            go_wp2_with fail
            go_ret2
            exact ⟨rfl, _, v3, by rw [HD5.out]; exact HE.out, HK.out false, HF.out⟩
end LogC
end Go.Proofs.YtlnbjlidakdmlaaGreatDoor
