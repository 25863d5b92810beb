/-
  The document's Open of layer 5.
-/
import Derived.Test.YtlnbjlidakdmlaaGreatDoorLogRef2
import Derived.Test.YtlnbjlidakdmlaaGreatDoorLogFill
import Derived.Test.YtlnbjlidakdmlaaGreatDoorLogP2
import Derived.Test.YtlnbjlidakdmlaaGreatDoorDiskRef7
import Derived.Test.YtlnbjlidakdmlaaGreatDoorDiskMath3
import Derived.Deep.CutBlock
namespace Go.Proofs.YtlnbjlidakdmlaaGreatDoor
open Go.RowKit
namespace LogC
open LogM FrameM FrameC TextR DiskM DiskC

/-- behind the document's Open -/
def OpenRE (y : Nat) (v : Value) (cut : Int) (s : DS) (w : World) (e : Ending) (w' : World) : Prop :=
  ∃ v', Laid w w' y v v' (openS cut s).2.2.fs cut (openS cut s).2.2.count (openS cut s).2.2.dead ∧
    (((openS cut s).1 = 0 ∧ ∃ p lv, e = .returned (.tuple #[.pointer (some ⟨p, 0, none⟩), .int .i64 0, .string ⟨#[]⟩]) ∧ w.heap.size ≤ p ∧ IsLog w' p y lv (logS s) false ∧ (∀ g, lv.ownBlock = some g → w.heap.size ≤ g ∧ ¬ Foot y v' g) ∧ ¬ Foot y v' p) ∨
      ((openS cut s).1 ≠ 0 ∧ e = .returned (.tuple #[.pointer none, .int .i64 (openS cut s).1, .string (openS cut s).2.1])))
/-- what is made while the files are looked at: the log in a new block, its records in a row behind it; all that was there is as it was -/
structure Fills (w0 w : World) (y : Nat) (lv : Value) (L : List (List UInt8)) : Prop where
  disk : w.cell? ⟨w0.heap.size, 0, none⟩ = some (.pointer (some ⟨y, 0, none⟩))
  list : w.cell? ⟨w0.heap.size, 1, none⟩ = some lv
  broken : w.cell? ⟨w0.heap.size, 2, none⟩ = some (.bool false)
  free : ∀ j, w.frozen? ⟨w0.heap.size, j, none⟩ = false
  row : OwnT w (w0.heap.size + 1) lv (L.map str)
  below : Below w0.heap.size w0 w
theorem Fills.lt {w0 w : World} {y : Nat} {lv : Value} {L : List (List UInt8)} (h : Fills w0 w y lv L) : w0.heap.size < w.heap.size := World.block_lt_of_cell? _ _ h.disk
theorem Fills.then {w0 w w' : World} {y : Nat} {lv : Value} {L : List (List UInt8)} (h : Fills w0 w y lv L) (hb : Below w.heap.size w w') : Fills w0 w' y lv L := by
  have hp := h.lt
  have hbl : w'.heap[w0.heap.size]? = w.heap[w0.heap.size]? := hb.block _ hp
  exact ⟨by rw [hb.cell hp]; exact h.disk, by rw [hb.cell hp]; exact h.list, by rw [hb.cell hp]; exact h.broken, fun j => by rw [World.frozen?_of_block (a := ⟨w0.heap.size, j, none⟩) hbl]; exact h.free j, below_own h.row hb, h.below.trans (hb.mono (by omega))⟩
theorem Fills.new (w : World) (y : Nat) : Fills w (w.alloc (.cells #[.pointer (some ⟨y, 0, none⟩), .slice none 0 0, .bool false] 44)) y (.slice none 0 0) [] := by
  refine ⟨?_, ?_, ?_, fun j => ?_, OwnT.nil _ _, (Below.refl _ _).alloc (Nat.le_refl _) _⟩
  · rw [World.cell?_alloc_at _ _ _ _ rfl]; rfl
  · rw [World.cell?_alloc_at _ _ _ _ rfl]; rfl
  · rw [World.cell?_alloc_at _ _ _ _ rfl]; rfl
  · simp
theorem Fills.app {w0 w w4 : World} {y : Nat} {lv v' : Value} {L M : List (List UInt8)} (h : Fills w0 w y lv L) (hg : w.grownBy w4 lv.ownBlock) (hown : OwnT w4 (w0.heap.size + 1) v' (L.map str ++ M.map str)) :
    Fills w0 (w4.setCell ⟨w0.heap.size, 1, none⟩ v') y v' (L ++ M) ∧ w4.cell? ⟨w0.heap.size, 1, none⟩ = some lv ∧ w4.frozen? ⟨w0.heap.size, 1, none⟩ = false := by
  have hlo : ∀ g, lv.ownBlock = some g → w0.heap.size + 1 ≤ g := own_lt h.row
  have hlo' : ∀ g, v'.ownBlock = some g → w0.heap.size + 1 ≤ g := own_lt hown
  have hbl : w4.heap[w0.heap.size]? = w.heap[w0.heap.size]? := hg.block _ h.lt (fun e => by have := hlo _ e.symm; omega)
  have hc : ∀ j, w4.cell? ⟨w0.heap.size, j, none⟩ = w.cell? ⟨w0.heap.size, j, none⟩ := fun j => World.cell?_of_block (a := ⟨w0.heap.size, j, none⟩) hbl
  have hfr : ∀ j, w4.frozen? ⟨w0.heap.size, j, none⟩ = false := fun j => by rw [World.frozen?_of_block (a := ⟨w0.heap.size, j, none⟩) hbl]; exact h.free j
  have k := keeps_cell w4 w0.heap.size 1 v'
  refine ⟨⟨by rw [cell_ne (by decide), hc]; exact h.disk, World.cell?_setCell_same _ _ _ (by rw [hc]; exact h.list), by rw [cell_ne (by decide), hc]; exact h.broken, fun j => by simpa using hfr j, own_keeps (by rw [List.map_append]; exact hown) k (fun g hg e => by have := hlo' g hg; omega), ?_⟩, by rw [hc]; exact h.list, hfr 1⟩
  have hb4 : Below w0.heap.size w0 w4 := h.below.grown hg (by have := h.lt; omega) (fun g e => by have := hlo g e; omega)
  exact hb4.setCell (p := ⟨w0.heap.size, 1, none⟩) (Nat.le_refl _) _
theorem readS_live {n : Nat} {s : DS} (hd : s.dead = false) : readS (nameN n) s = if hasF (nameN n) s.fs = false then (⟨#[]⟩, 6) else (bytesF (nameN n) s.fs, 0) := by
  unfold readS
  rw [if_neg (by rw [may_name]; decide), if_neg (by rw [hd]; decide)]
/-- what the loop over the files leaves: which file is the last one, from which number on files are taken away, what is torn -/
def FillOut (fs : FL) (n : Nat) (t : ByteArray) (k : Int) : Prop :=
  Ahd fs (lastN fs) ∧ (n = lastN fs + 1 ∨ (n = lastN fs ∧ hasF (nameN (lastN fs)) fs = false)) ∧
    ((usedB (partL fs (lastN fs)) = (fileL fs (lastN fs)).length ∧ t = ⟨#[]⟩) ∨ (usedB (partL fs (lastN fs)) ≠ (fileL fs (lastN fs)).length ∧ t = nameN (lastN fs) ∧ k = (usedB (partL fs (lastN fs)) : Nat)))
theorem out_none {fs : FL} {n : Nat} (hl : fs.length ≤ 65536) (h : Ahd fs n) (hf : hasF (nameN n) fs = false) : FillOut fs n ⟨#[]⟩ 0 ∧ upTo fs (n - 1) = upTo fs (lastN fs) := by
  have e := last_eq hl h (fun hh => by rw [hh.1] at hf; cases hf)
  obtain ⟨e1, e2⟩ := no_file hf
  refine ⟨⟨(last_is hl).1, .inr ⟨e, by rw [← e]; exact hf⟩, .inl ⟨by rw [← e, e1, e2]; rfl, rfl⟩⟩, ?_⟩
  rw [← e]
  obtain ⟨m, rfl⟩ : ∃ m, n = m + 1 := ⟨n - 1, by have := h.1; omega⟩
  rw [upTo, e2, List.append_nil]
  rfl
theorem upTo_part {fs : FL} {n : Nat} (h : 1 ≤ n) : upTo fs (n - 1) ++ partL fs n = upTo fs n := by
  obtain ⟨m, rfl⟩ : ∃ m, n = m + 1 := ⟨n - 1, by omega⟩
  rfl
theorem out_torn {fs : FL} {n : Nat} (hl : fs.length ≤ 65536) (h : Ahd fs n) (hu : usedB (partL fs n) ≠ (fileL fs n).length) : FillOut fs (n + 1) (nameN n) (usedB (partL fs n) : Nat) ∧ n = lastN fs := by
  have e := last_eq hl h (fun hh => hu hh.2.2)
  exact ⟨⟨(last_is hl).1, .inl (by rw [← e]), .inr ⟨by rw [← e]; exact hu, by rw [← e], by rw [← e]⟩⟩, e⟩
theorem out_few {fs : FL} {n : Nat} (hl : fs.length ≤ 65536) (h : Ahd fs n) (hu : usedB (partL fs n) = (fileL fs n).length) (hp : (partL fs n).length < 64) : FillOut fs (n + 1) ⟨#[]⟩ 0 ∧ n = lastN fs := by
  have e := last_eq hl h (fun hh => by have := hh.2.1; omega)
  exact ⟨⟨(last_is hl).1, .inl (by rw [← e]), .inl ⟨by rw [← e]; exact hu, rfl⟩⟩, e⟩

theorem rnumber_txt (m : ByteArray) (w : World) : Calls Tryz.prog 32 #[.string m] w fun e w' => e = .returned (.int .i64 (numT m : Nat)) ∧ w = w' := by
  have h := rnumber_any m.data.toList w
  rw [← str_of] at h
  exact h
theorem out_num {s : DS} {n : Nat} {t : ByteArray} {k : Int} (h : FillOut s.fs n t k) (hs : Sorted s.fs) {m : ByteArray} (hm : m ∈ namesS s) : n ≤ numT m ↔ lastN s.fs < numT m := by
  obtain ⟨f, hf, e⟩ := name_has hm
  rcases h.2.1 with h1 | ⟨h1, h2⟩
  · omega
  · constructor
    · intro hle
      rcases Nat.lt_or_eq_of_le (h1 ▸ hle) with h3 | h3
      · exact h3
      · exfalso
        have hz : numT m ≠ 0 := by have := h.1.1; omega
        have he := (file_num _ hz).1
        have hmm : m = nameN (lastN s.fs) := by
          rw [str_of m, he]
          show str (fileB (numT m)) = _
          rw [← h3]
        rw [← hmm, (has_mem hs).2 ⟨f, hf, e⟩] at h2
        cases h2
    · intro hlt; omega
/-- while files are taken away: the disk, the log, the row of names, apart from each other -/
structure Drops (w0 w : World) (y : Nat) (v v1 lv u : Value) (cut : Int) (L : List (List UInt8)) (names : List ByteArray) (s1 : DS) : Prop where
  laid : Laid w0 w y v v1 s1.fs cut s1.count s1.dead
  log : IsLog w w0.heap.size y lv L false
  py : ¬ Foot y v1 w0.heap.size
  row : ∀ g, lv.ownBlock = some g → w0.heap.size ≤ g ∧ ¬ Foot y v1 g
  names : OwnT w 0 u names
  sep : ∀ g, u.ownBlock = some g → ¬ Foot y v1 g
theorem Drops.laid2 {w0 w w' : World} {y : Nat} {v v1 v2 lv u : Value} {cut : Int} {L : List (List UInt8)} {names : List ByteArray} {s1 s2 : DS} (h : Drops w0 w y v v1 lv u cut L names s1) (hy : y < w0.heap.size) (hl : Laid w w' y v1 v2 s2.fs cut s2.count s2.dead) : Drops w0 w' y v v2 lv u cut L names s2 := by
  have hD : LogD w w0.heap.size y lv v1 cut L false s1 := ⟨h.log, h.laid.dsk, h.py, fun g hg => (h.row g hg).2⟩
  have hD2 := hD.laid hl
  exact ⟨h.laid.trans hl hy, hD2.log, hD2.py, fun g hg => ⟨(h.row g hg).1, hD2.row g hg⟩, own_keeps h.names hl.keeps h.sep, fun g hg hf => by
    rcases foot_new hl g hf with h1 | h1
    · exact h.sep g hg h1
    · have := (World.ownsRow.lt h.names g hg).2; omega⟩
theorem Drops.below {w0 w w' : World} {y : Nat} {v v1 lv u : Value} {cut : Int} {L : List (List UInt8)} {names : List ByteArray} {s1 : DS} (h : Drops w0 w y v v1 lv u cut L names s1) (hy : y < w0.heap.size) (hb : Below w.heap.size w w') : Drops w0 w' y v v1 lv u cut L names s1 :=
  h.laid2 hy ⟨IsDsk.keeps h.laid.dsk (Keeps.of_below (S := fun _ => False) hb) (fun _ _ h => h), Keeps.of_below hb, fun _ h => .inl h⟩
theorem Drops.opened {w0 w : World} {y : Nat} {v v1 lv u : Value} {cut : Int} {names : List ByteArray} {s s1 : DS} {t : ByteArray} (h : Drops w0 w y v v1 lv u cut (logS s) names s1) (hr : openS cut s = (0, t, s1)) :
    OpenRE y v cut s w0 (.returned (.tuple #[.pointer (some ⟨w0.heap.size, 0, none⟩), .int .i64 0, .string ⟨#[]⟩])) w := by
  unfold OpenRE
  rw [hr]
  exact ⟨v1, h.laid, .inl ⟨rfl, w0.heap.size, lv, rfl, Nat.le_refl _, h.log, h.row, h.py⟩⟩
theorem Drops.failed {w0 w : World} {y : Nat} {v v1 lv u : Value} {cut : Int} {L : List (List UInt8)} {names : List ByteArray} {s s1 : DS} {c : Nat} {m : ByteArray} (h : Drops w0 w y v v1 lv u cut L names s1) (hr : openS cut s = (c, m, s1)) (hz : c ≠ 0) :
    OpenRE y v cut s w0 (.returned (.tuple #[.pointer none, .int .i64 c, .string m])) w := by
  unfold OpenRE
  rw [hr]
  exact ⟨v1, h.laid, .inr ⟨hz, rfl⟩⟩
theorem Fills.drops {w w' : World} {y : Nat} {v lv u : Value} {cut : Int} {L : List (List UInt8)} {names : List ByteArray} {s : DS} {B : Nat} (h : Fills w w' y lv L) (hd : IsD w y v cut s) (hn : OwnT w' B u names) (hB : w.heap.size ≤ B) : Drops w w' y v v lv u cut L names s := by
  have hfoot := foot_in hd
  exact ⟨⟨IsDsk.keeps hd (Keeps.of_below (S := fun _ => False) h.below) (fun _ _ h => h), Keeps.of_below h.below, fun _ h => .inl h⟩,
    ⟨h.disk, h.list, h.broken, h.free, ⟨h.row.1, h.row.2.imp id (fun ⟨g, cap, cur, e, _, r⟩ => ⟨g, cap, cur, e, Nat.zero_le _, r⟩)⟩, fun e => by have := own_lt h.row _ e; omega⟩,
    fun hf => by have := hfoot _ hf; omega, fun g hg => ⟨by have := own_lt h.row g hg; omega, fun hf => by have := hfoot _ hf; have := own_lt h.row g hg; omega⟩,
    ⟨hn.1, hn.2.imp id (fun ⟨g, cap, cur, e, _, r⟩ => ⟨g, cap, cur, e, Nat.zero_le _, r⟩)⟩, fun g hg hf => by have := hfoot _ hf; have := own_lt hn g hg; omega⟩

set_option maxHeartbeats 8000000 in
set_option maxRecDepth 100000 in
theorem ropen_dead {w : World} {y : Nat} {v : Value} {cut : Int} {s : DS} (h : IsD w y v cut s) (hd : s.dead = true) :
    Calls Tryz.prog 7 #[.pointer (some ⟨y, 0, none⟩)] w (OpenRE y v cut s w) := by
  have hr : openS cut s = (5, nameN 1, s) := by unfold openS; rw [if_pos hd]
  unfold OpenRE
  rw [hr]
  have c3 : w.cell? ⟨y, 3, none⟩ = some (.bool true) := by rw [← hd]; exact IsDsk.dead h
  have HH := Lib.hid h
  clear h hd hr
  go_enter Tryz.func7, Tryz.ntmps7
  go_wp2_with fail
  refine (rfile_any 1 w (by decide)).mono ?_
  rintro e w' ⟨rfl, hb⟩
  have HB := Lib.hid hb
  clear hb
  go_wp2_with fail
  go_ret3
  exact ⟨v, ⟨IsDsk.keeps HH.out (Keeps.of_below (S := fun _ => False) HB.out) (fun _ _ h => h), Keeps.of_below HB.out, fun _ h => .inl h⟩, .inr ⟨by decide, rfl⟩⟩
set_option maxHeartbeats 8000000 in
set_option maxRecDepth 100000 in
theorem ropen_live {w : World} {y : Nat} {v : Value} {cut : Int} {s : DS} (h : IsD w y v cut s) (hg : DiskC.Good s.fs) (hso : Sorted s.fs) (hc : s.count ≤ 549755000000) (hd : s.dead = false) :
    Calls Tryz.prog 7 #[.pointer (some ⟨y, 0, none⟩)] w (OpenRE y v cut s w) := by
  have c3 : w.cell? ⟨y, 3, none⟩ = some (.bool false) := by rw [← hd]; exact IsDsk.dead h
  have HH := Lib.hid h
  have HD := Lib.hid hd
  have HG := Lib.hid hg
  have HC := Lib.hid hc
  have HSO := Lib.hid hso
  clear hso
  obtain ⟨i0, hi, hz0, hz1, hz2⟩ := info_parts info_text
  clear h hd hg hc
  go_enter Tryz.func7, Tryz.ntmps7
  go_upto_block 0 with fail
  go_cut [5, 6, 7, 8] from 26 (fun v5 v6 v7 v8 wx => ∃ (n : Nat) (t : ByteArray) (k : Int) (lv : Value), v5 = .pointer (some ⟨w.heap.size, 0, none⟩) ∧ v6 = .string t ∧ v7 = .int .i64 k ∧ v8 = .int .i64 n ∧ Hid (Fills w wx y lv (logS s)) ∧ Hid (FillOut s.fs n t k))
  case first =>
    have HF0 := Lib.hid (Fills.new w y)
    go_wp2_with fail
    go_loopw [6, 7, 8] (fun v6 v7 v8 wr => ∃ (n : Nat) (lv : Value), v6 = .string ⟨#[]⟩ ∧ v7 = .int .i64 0 ∧ v8 = .int .i64 n ∧ Hid (Ahd s.fs n) ∧ Hid (Fills w wr y lv (upTo s.fs (n - 1)))) (fun _ _ v8 _ => 65540 - (intOf v8).toNat)
    case atStart => exact ⟨1, _, rfl, rfl, rfl, Lib.hid (Ahd.one _), HF0⟩
    case round =>
      obtain ⟨n, lv, rfl, rfl, rfl, HA, HF⟩ := hrel
      rename World => wr
      clear HF0
      have hn : n ≤ 65537 := by have := HA.out.len HG.out.1; have := HG.out.1; omega
      have hfl := HG.out.1
      have HREAD := Lib.hid (fun w4 h => dread_any y v cut (nameN n) s w4 h)
      have HR := Lib.hid (readS_live (n := n) HD.out)
      have hn1 := HA.out.1
      go_wp2_with fail
      refine (rfile_any n wr (by omega)).mono ?_
      rintro e w1 ⟨rfl, hb⟩
      have HF1 := Lib.hid (HF.out.then hb)
      clear hb HF
      go_wp2_with fail
      refine (HREAD.out w1 (IsDsk.keeps HH.out (Keeps.of_below (S := fun _ => False) HF1.out.below) (fun _ _ h => h))).mono ?_
      rintro e w2 ⟨rfl, q, rfl⟩
      have HF2 := Lib.hid (HF1.out.then (drewN_b w1 q))
      clear HF1 HREAD
      generalize w1.drewN q = w2 at *
      rw [HR.out]
      by_cases hh : hasF (nameN n) s.fs = false
      · rw [if_pos hh]
        have HO := Lib.hid (out_none HG.out.1 HA.out hh)
        clear hh HR
        go_wp2_with fail
        go_meet
        case rel => exact ⟨n, ⟨#[]⟩, 0, lv, rfl, rfl, rfl, rfl, by rw [show logS s = upTo s.fs (n - 1) from HO.out.2.symm]; exact HF2, Lib.hid HO.out.1⟩
      · rw [if_neg hh]
        have hh' : hasF (nameN n) s.fs = true := by simpa using hh
        have HHH := Lib.hid hh'
        have hbs : bytesF (nameN n) s.fs = str (fileL s.fs n) := str_of _
        rw [hbs]
        have hlen := file_len HG.out n
        have HHAS : Hid (∀ w4, Calls Tryz.prog 30 #[.string (str (fileL s.fs n))] w4 fun e w' => ∃ v, e = .returned (.tuple #[v, .int .i64 (usedB (partL s.fs n) : Nat)]) ∧ OwnT w' w4.heap.size v ((partL s.fs n).map str) ∧ Below w4.heap.size w4 w') := Lib.hid (fun w4 => rhas_any (fileL s.fs n) w4 (by omega))
        have hup := used_part s.fs n
        have hpl := part_len s.fs n
        have hsz := str_size (fileL s.fs n)
        have HT := Lib.hid (fun hu => out_torn (n := n) HG.out.1 HA.out hu)
        have HFEW := Lib.hid (fun hu hp => out_few (n := n) HG.out.1 HA.out hu hp)
        have HNX : Hid ((partL s.fs n).length = 64 → usedB (partL s.fs n) = (fileL s.fs n).length → Ahd s.fs (n + 1)) := Lib.hid (fun h1 h2 => HA.out.next ⟨HHH.out, h1, h2⟩)
        have HUP := Lib.hid (upTo_part (fs := s.fs) hn1)
        have hull : (upTo s.fs (n - 1)).length = 64 * (n - 1) := by
          obtain ⟨m, rfl⟩ : ∃ m, n = m + 1 := ⟨n - 1, by omega⟩
          exact upTo_len HA.out
        have HL2 : Hid (n = lastN s.fs → logS s = upTo s.fs n) := Lib.hid (fun e => by unfold logS; rw [← e])
        clear hh hh' hbs HR hfl
        generalize fileL s.fs n = l at *
        generalize partL s.fs n = M at *
        generalize usedB M = u at *
        go_wp2_with fail
        refine (HHAS.out w2).mono ?_
        rintro e w3 ⟨mv, rfl, ho, hb⟩
        have HF3 := Lib.hid (HF2.out.then hb)
        have hsz3 := hb.size
        have hlv := HF3.out.list
        have hpw3 := HF3.out.lt
        obtain ⟨MM, hMM⟩ : ∃ MM, MM = M.map str := ⟨_, rfl⟩
        have HMl : Hid (MM.length = M.length) := Lib.hid (by rw [hMM, List.length_map])
        rw [← hMM] at ho
        obtain ⟨KK, hKK⟩ : ∃ KK, KK = (upTo s.fs (n - 1)).map str := ⟨_, rfl⟩
        have HKl : Hid (KK.length = 64 * (n - 1)) := Lib.hid (by rw [hKK, List.length_map]; exact hull)
        have hrow := HF3.out.row
        rw [← hKK] at hrow
        have HAPP : Hid (∀ (w4 : World) (v' : Value), w3.grownBy w4 lv.ownBlock → OwnT w4 (w.heap.size + 1) v' (KK ++ MM) → Fills w (w4.setCell ⟨w.heap.size, 1, none⟩ v') y v' (upTo s.fs n) ∧ w4.cell? ⟨w.heap.size, 1, none⟩ = some lv ∧ w4.frozen? ⟨w.heap.size, 1, none⟩ = false) := Lib.hid (fun w4 v' hg ho => by
          rw [hKK, hMM] at ho
          have := HF3.out.app hg ho
          rw [HUP.out] at this
          exact this)
        have HO := Lib.hid ho
        have HROW := Lib.hid hrow
        have HMM := Lib.hid hMM
        obtain ⟨am, cpm, rfl, -⟩ := ho.open_
        obtain ⟨al, cpl, rfl, -⟩ := hrow.open_
        clear hb ho HF2 HHAS hrow hMM hKK hull HUP
        go_wp2_with (at_builtin; refine wpList_app rfl _ _ 42 rfl i0 _ Tryz.underlying42 hi hz0 hz1 hz2 rfl (w.heap.size + 1) _ _ rfl HROW.out _ _ _ rfl HO.out ?c1 ?c2 ?_)
        case c1 => have := HKl.out; have := HMl.out; have := HG.out.1; omega
        case c2 => omega
        intro ao cap w4 hown hgr _
        obtain ⟨hF4, q1, q2⟩ := HAPP.out _ _ hgr hown
        have HF4 := Lib.hid hF4
        clear hF4 hown hgr HAPP HF3 HROW HO
        have hMM := HMl.out
        by_cases hu : u = l.length
        · have d1 : decide (u < l.length) = false := by simp; omega
          by_cases hp : MM.length < 64
          · have d2 : decide ((MM.length : Int) < 64) = true := by simp; omega
            have HO := Lib.hid (HFEW.out hu (by omega))
            have HE := Lib.hid (HL2.out HO.out.2)
            have HUU := Lib.hid hu
            clear hu hp hMM
            go_wp2_with fail
            go_meet
            case rel => exact ⟨n + 1, ⟨#[]⟩, 0, _, rfl, rfl, rfl, by go_num, by rw [HE.out]; exact HF4, Lib.hid HO.out.1⟩
          · have d2 : decide ((MM.length : Int) < 64) = false := by simp; omega
            have HA2 := Lib.hid (HNX.out (by omega) hu)
            have HUU := Lib.hid hu
            clear hu hp hMM
            go_wp2_with fail
            go_roundw
            case rel => exact ⟨n + 1, _, rfl, rfl, by go_num, HA2, HF4⟩
            case measure => simp [intOf]; omega
        · have d1 : decide (u < l.length) = true := by simp; omega
          have HO := Lib.hid (HT.out hu)
          have HE := Lib.hid (HL2.out HO.out.2)
          have HUU := Lib.hid hu
          clear hu hMM
          go_wp2_with fail
          go_meet
          case rel => exact ⟨n + 1, _, _, _, rfl, rfl, rfl, by go_num, by rw [HE.out]; exact HF4, Lib.hid HO.out.1⟩
  case rest =>
    obtain ⟨n, t, k, lv, rfl, rfl, rfl, rfl, HF, HO⟩ := hcut
    have HNM := Lib.hid (fun w4 h => dnames_any y v cut s w4 h HG.out.1)
    have hyw := IsDsk.lt HH.out
    go_wp2_with fail
    refine (HNM.out wc (IsDsk.keeps HH.out (Keeps.of_below (S := fun _ => False) HF.out.below) (fun _ _ h => h))).mono ?_
    rintro e w2 ⟨u, rfl, ho, hb⟩
    have HDR := Lib.hid ((HF.out.then hb).drops HH.out ho HF.out.below.size)
    have hnl := names_len s
    have hnl2 := HG.out.1
    have HNAME : Hid (∀ i (h : i < (namesS s).length), decide (n ≤ numT (namesS s)[i]) = decide (lastN s.fs < numT (namesS s)[i])) := Lib.hid (fun i h => by
      exact decide_eq_decide.2 (out_num HO.out HSO.out (List.getElem_mem h)))
    clear ho hb HF HNM
    generalize hNM : namesS s = names at *
    have HNM2 := Lib.hid hNM
    clear hNM
    have hun := HDR.out.names
    obtain ⟨a, cp, rfl, hcell⟩ := hun.open_
    have HCELL := Lib.hid hcell
    clear hun hcell
    have HE0 : Hid (dropS cut (lastN s.fs) names s = dropS cut (lastN s.fs) (names.drop 0) s) := Lib.hid (by rw [List.drop_zero])
    go_wp2_with fail
    go_loopw [15] (fun vi wr => ∃ (i : Nat) (v1 : Value) (s1 : DS), vi = .int .i64 i ∧ i ≤ names.length ∧ Hid (Drops w wr y v v1 lv (.slice a names.length cp) cut (logS s) names s1) ∧ Hid (dropS cut (lastN s.fs) names s = dropS cut (lastN s.fs) (names.drop i) s1) ∧ Hid (DiskC.Good s1.fs ∧ s1.count ≤ s.count + i)) (fun vi _ => names.length - (intOf vi).toNat)
    case atStart => exact ⟨0, v, s, rfl, Nat.zero_le _, HDR, HE0, Lib.hid ⟨HG.out, Nat.le_refl _⟩⟩
    case round =>
      obtain ⟨i, v1, s1, rfl, hi, HDR, HDE, HG1⟩ := hrel
      rename World => wr
      clear HE0
      by_cases hlt : i < names.length
      · have hdec : decide (i < names.length) = true := by simpa using hlt
        obtain ⟨g, rfl, -, hgl, hcl⟩ := own_cell HDR.out.names i hlt
        have HEQ := Lib.hid (HNAME.out i hlt)
        have HDN : Hid (names.drop i = names[i] :: names.drop (i + 1)) := Lib.hid (List.drop_eq_getElem_cons hlt)
        have hyr : y < w.heap.size := hyw
        generalize names[i] = m at *
        have HREM := Lib.hid (dremove_any y v1 cut m s1 wr HDR.out.laid.dsk ⟨HG1.out.1.1, HG1.out.1.2, by have := HG1.out.2; have := HC.out; omega⟩)
        have hg1 := remove_good (cut := cut) (name := m) HG1.out.1
        have HG2 := Lib.hid hg1
        clear hg1
        by_cases hnum : n ≤ numT m
        · have d1 : decide (n ≤ numT m) = true := decide_eq_true hnum
          have hgo : lastN s.fs < numT m := by
            have := HEQ.out
            rw [d1] at this
            exact of_decide_eq_true this.symm
          have HGO := Lib.hid hgo
          clear hgo hnum
          generalize hrm : removeS cut m s1 = r at *
          obtain ⟨c, s2⟩ := r
          have HRM := Lib.hid hrm
          clear hrm
          by_cases hz : c = 0
          · subst hz
            have HDE2 : Hid (dropS cut (lastN s.fs) names s = dropS cut (lastN s.fs) (names.drop (i + 1)) s2) := Lib.hid (by
              rw [HDE.out, HDN.out, drop_cons_go HGO.out (by rw [HRM.out]), HRM.out])
            go_wp2_with fail
            refine (rnumber_txt m wr).mono ?_
            rintro e w3 ⟨rfl, rfl⟩
            go_wp2_with fail
            refine HREM.out.mono ?_
            rintro e w3 ⟨rfl, v2, hl⟩
            have HDR2 := Lib.hid (HDR.out.laid2 hyr hl)
            clear hl
            go_wp2_with fail
            go_roundw
            case rel => exact ⟨i + 1, v2, s2, by go_num, by omega, HDR2, HDE2, Lib.hid ⟨HG2.out.1, by have := HG2.out.2; have := HG1.out.2; omega⟩⟩
            case measure => simp [intOf]; omega
          · have hcz : ((c : Int) == 0) = false := beq_eq_false_iff_ne.2 (by omega)
            have HZ := Lib.hid hz
            have HDE2 : Hid (dropS cut (lastN s.fs) names s = (c, m, s2)) := Lib.hid (by
              rw [HDE.out, HDN.out, drop_cons_stop HGO.out (by rw [HRM.out]; exact hz), HRM.out])
            clear hz
            go_wp2_with fail
            refine (rnumber_txt m wr).mono ?_
            rintro e w3 ⟨rfl, rfl⟩
            go_wp2_with fail
            refine HREM.out.mono ?_
            rintro e w3 ⟨rfl, v2, hl⟩
            have HDR2 := Lib.hid (HDR.out.laid2 hyr hl)
            have hcl3 : w3.cell? ⟨g, i, none⟩ = some (.string m) := by
              rw [World.cell?_of_block (a := ⟨g, i, none⟩) (hl.keeps.block g hgl (HDR.out.sep g rfl))]
              exact hcl
            clear hl
            go_wp2_with fail
            go_quiet (fail)
            go_wp2_with fail
            go_ret3
            exact (HDR2.out.below hyr (drewN_b _ _)).failed (open_stop HD.out (by rw [HNM2.out]; exact HDE2.out) HZ.out) HZ.out
        · have d1 : decide (n ≤ numT m) = false := decide_eq_false hnum
          have hgo : ¬ lastN s.fs < numT m := by
            have := HEQ.out
            rw [d1] at this
            exact of_decide_eq_false this.symm
          have HDE2 : Hid (dropS cut (lastN s.fs) names s = dropS cut (lastN s.fs) (names.drop (i + 1)) s1) := Lib.hid (by
            rw [HDE.out, HDN.out, drop_cons_pass hgo])
          clear hgo hnum
          go_wp2_with fail
          refine (rnumber_txt m wr).mono ?_
          rintro e w3 ⟨rfl, rfl⟩
          go_wp2_with fail
          go_roundw
          case rel => exact ⟨i + 1, v1, s1, by go_num, by omega, HDR, HDE2, Lib.hid ⟨HG1.out.1, by have := HG1.out.2; omega⟩⟩
          case measure => simp [intOf]; omega
      · have hdec : decide (i < names.length) = false := by simpa using hlt
        have HDE2 : Hid (openS cut s = tornS cut (lastN s.fs) s.fs s1) := Lib.hid (open_go HD.out (by
          rw [HNM2.out, HDE.out, List.drop_of_length_le (by omega)]
          rfl))
        have HTR := Lib.hid (fun (hk : k ≤ 9223372036854775807) => dtrunc_any y v1 cut (nameN (lastN s.fs)) k s1 wr HDR.out.laid.dsk ⟨HG1.out.1.1, HG1.out.1.2, by have := HG1.out.2; have := HC.out; omega⟩ hk)
        clear HDE
        rcases HO.out.2.2 with ⟨hu, rfl⟩ | ⟨hu, rfl, rfl⟩
        · have HR := Lib.hid (HDE2.out.trans (torn_clean hu))
          clear hu HTR
          go_wp2_with fail
          go_ret3
          exact HDR.out.opened HR.out
        · have HU := Lib.hid hu
          clear hu
          have hul : usedB (partL s.fs (lastN s.fs)) ≤ 16777216 := Nat.le_trans (used_part _ _) (file_len HG.out _)
          have HT2 := Lib.hid (HTR.out (by omega))
          have hne : ((nameN (lastN s.fs)).toList == []) = false := by
            rw [ByteArray.toList_eq, str_list]
            rfl
          clear HTR
          generalize htc : truncS cut (nameN (lastN s.fs)) (usedB (partL s.fs (lastN s.fs)) : Nat) s1 = r at *
          obtain ⟨c, s2⟩ := r
          have HR := Lib.hid (HDE2.out.trans (torn_cut HU.out htc))
          clear htc HDE2
          generalize nameN (lastN s.fs) = N at *
          generalize usedB (partL s.fs (lastN s.fs)) = U at *
          have hyr : y < w.heap.size := hyw
          by_cases hz : c = 0
          · subst hz
            go_wp2_with fail
            refine HT2.out.mono ?_
            rintro e w3 ⟨rfl, v2, hl⟩
            have HDR2 := Lib.hid (HDR.out.laid2 hyr hl)
            clear hl
            go_wp2_with fail
            go_ret3
            exact HDR2.out.opened HR.out
          · have hcz : ((c : Int) == 0) = false := beq_eq_false_iff_ne.2 (by omega)
            rw [if_neg hz] at HR
            have HZ := Lib.hid hz
            clear hz
            go_wp2_with fail
            refine HT2.out.mono ?_
            rintro e w3 ⟨rfl, v2, hl⟩
            have HDR2 := Lib.hid (HDR.out.laid2 hyr hl)
            clear hl
            go_wp2_with fail
            go_ret3
            exact HDR2.out.failed HR.out HZ.out
theorem ropen_any {w : World} {y : Nat} {v : Value} {cut : Int} {s : DS} (h : IsD w y v cut s) (hg : DiskC.Good s.fs) (hso : Sorted s.fs) (hc : s.count ≤ 549755000000) :
    Calls Tryz.prog 7 #[.pointer (some ⟨y, 0, none⟩)] w (OpenRE y v cut s w) := by
  cases hd : s.dead with
  | true => exact ropen_dead h hd
  | false => exact ropen_live h hg hso hc hd
end LogC
end Go.Proofs.YtlnbjlidakdmlaaGreatDoor
