/-
  Package disk's add: one piece behind a file.
  Package disk's add: pieces, one by one.
-/
import Derived.Test.YtpmbokklpidohaaGreatDoorDiskQ3
import Derived.Deep.RegionHeld3
import Derived.Laws.Small
import Derived.Lib.IndexBytes
import Derived.Laws.Strings2
namespace Go.Proofs.YtpmbokklpidohaaGreatDoor
open Go.RowKit Go.Maps
namespace DiskP
open DiskM DiskC ErrC
open Go.Lib (strCells strCells_length)

/-- what an append of a text to a file's slice leaves -/
def AppE (w : World) (v : Value) (x s : ByteArray) (v' : Value) (w' : World) : Prop := Byt w' v' (x ++ s) ∧
  ((v' = v ∧ w' = w ∧ s.size = 0) ∨ (¬ Full v ∧ v'.ownBlock = v.ownBlock ∧ Own w' v' (x ++ s) ∧ w.grownBy w' v.ownBlock ∧ w'.heap.size = w.heap.size) ∨ (v'.ownBlock = some w.heap.size ∧ Own w' v' (x ++ s) ∧ w.grownBy w' none ∧ w'.heap.size = w.heap.size + 1))
theorem step_app {w : World} {ops : Array Oper} {o : Oper} {a : Act} {K : Act → World → Prop} {Q : Exit → Act → World → Prop} {E : Prop} (hgd : o.guard = none) (sl sx : Operand)
    (ho : o.op = .call { callee := .builtin .append, args := #[sl, sx], argTypes := #[64, 9] }) (v : Value) (hs : a.eval sl = v) (s : ByteArray) (hx : a.eval sx = .string s) (x : ByteArray)
    (hb : Byt w v x) (hr : Full v ∨ Own w v x) (hz : x.size + s.size ≤ 1099511627776) (h : ∀ v' w', AppE w v x s v' w' → K (a.put o.dst v') w') :
    if Region.wanted o (yielded ops a.tmps) = true then Oper.wp Tryz.prog o a w K Q else E := by
  have hw : Region.wanted o (yielded ops a.tmps) = true := by simp [Region.wanted, hgd]
  rw [if_pos hw]
  obtain ⟨v', w', hrun, h2⟩ := run_app w o.type v x s hb hr hz
  unfold Oper.wp execOp
  simp only [ho, resolve, invoke, builtin, Sem.run_bind, Sem.run_pure, Result.andThen_ok, List.map_toArray, List.map_cons, List.map_nil, hs, hx, hrun]
  exact h v' w' h2
theorem Dsk.row {B : Nat} {w : World} {b : Nat} {F : Nat → Prop} {cut : Int} {s : DS} {m : Nat} {D : DataW Unit} {vals : ByteArray → Value} (h : Dsk B w b F cut s m D vals) (name : ByteArray) : Byt w (vals name) (bytesF name s.fs) ∧ (Full (vals name) ∨ Own w (vals name) (bytesF name s.fs)) :=
  ⟨(h.files.file name (fun e => e)).byt, (h.files.file name (fun e => e)).room.imp id And.left⟩
/-- a store into the map, of a file's new slice -/
theorem Dsk.store {B : Nat} {w w1 : World} {b : Nat} {F : Nat → Prop} {cut : Int} {s : DS} {m : Nat} {D : DataW Unit} {vals : ByteArray → Value} {v' : Value} {name x : ByteArray} (h : Dsk B w b F cut s m D vals) (F' : Nat → Prop) (hn : name.size ≤ 128) (hlen : s.fs.length < maxLen)
    (hf : Files (· = name) w1 B b m F' s.fs D vals) (hcb : w1.heap[b]? = w.heap[b]?) (hsz : w.heap.size ≤ w1.heap.size) (hb : Byt w1 v' x) (hblk : ∀ g, v'.ownBlock = some g → g ≠ b ∧ g ≠ m ∧ (F' g ∨ g < B))
    (hroom : Full v' ∨ (Own w1 v' x ∧ ∀ g, v'.ownBlock = some g → F' g ∧ ∀ n', n' ≠ name → (vals n').ownBlock ≠ some g))
    (hoth : ∀ n g, n ≠ name → ¬ Full (vals n) → (vals n).ownBlock = some g → v'.ownBlock ≠ some g) :
    ∃ w2 D' vals', (Instr.mapUpdate 41 (.map (some m)) (.string name) v').run Tryz.prog w1 = .ok () w2 ∧ Dsk B w2 b F' cut ⟨layF name x s.fs, s.count, s.dead⟩ m D' vals' ∧ w1.grownBy w2 (some m) := by
  obtain ⟨w2, hrun, hm, hg⟩ := hf.map.update keyed Tryz.underlying41 hlen (keyOfN hn) (eR_ok hb.ok)
  have hbm := h.files.bm
  have hblt : b < w1.heap.size := hf.lt b hf.fb
  have e : w2.heap[b]? = w.heap[b]? := (hg.block b hblt (fun e => hbm (by simpa using e))).trans hcb
  have ec : ∀ j, w2.cell? ⟨b, j, none⟩ = w.cell? ⟨b, j, none⟩ := fun j => World.cell?_of_block (a := ⟨b, j, none⟩) e
  have ef : ∀ j, w2.frozen? ⟨b, j, none⟩ = w.frozen? ⟨b, j, none⟩ := fun j => World.frozen?_of_block (a := ⟨b, j, none⟩) e
  exact ⟨w2, _, _, hrun, ⟨by rw [ec]; exact h.c0, by rw [ec]; exact h.c1, by rw [ec]; exact h.c2, by rw [ec]; exact h.c3, fun j => by rw [ef]; exact h.free j, hf.put hm hg hb hblk hroom hoth, h.cnt, Nat.le_trans h.bw (Nat.le_trans hsz hg.size)⟩, hg⟩
/-- what a call leaves of the program's disk: S: what it may write -/
structure Went (B : Nat) (F : Nat → Prop) (b : Nat) (cut : Int) (s : DS) (w w' : World) : Prop where
  is : ∃ F' m D vals, Dsk B w' b F' cut s m D vals ∧ ∀ i, F' i → F i ∨ w.heap.size ≤ i
  keeps : Keeps F w w'
theorem Went.of {B b m : Nat} {F F1 : Nat → Prop} {cut cut' : Int} {s s' : DS} {D : DataW Unit} {vals : ByteArray → Value} {w w1 w2 : World} (_hD : Dsk B w1 b F1 cut s m D vals) (k : Keeps F w w1) (hF : ∀ i, F1 i → F i ∨ w.heap.size ≤ i) (h : Went B F1 b cut' s' w1 w2) : Went B F b cut' s' w w2 := by
  obtain ⟨F2, m2, D2, vals2, h1, h2⟩ := h.is
  refine ⟨⟨F2, m2, D2, vals2, h1, fun i hi => ?_⟩, k.then h.keeps (fun i hi hT => ?_)⟩
  · rcases h2 i hi with h3 | h3
    · exact hF i h3
    · exact Or.inr (Nat.le_trans k.size h3)
  · rcases hF i hT with h3 | h3
    · exact h3
    · omega
theorem Dsk.went {B b m : Nat} {F : Nat → Prop} {cut : Int} {s : DS} {D : DataW Unit} {vals : ByteArray → Value} {w w1 : World} (hD : Dsk B w1 b F cut s m D vals) (k : Keeps F w w1) : Went B F b cut s w w1 := ⟨⟨F, m, D, vals, hD, fun _ h => Or.inl h⟩, k⟩
/-- one piece behind a file: the append, then the store -/
theorem Dsk.app {B : Nat} {w w1 : World} {b : Nat} {F : Nat → Prop} {cut : Int} {s : DS} {m : Nat} {D : DataW Unit} {vals : ByteArray → Value} {v' : Value} {name p : ByteArray} (h : Dsk B w b F cut s m D vals) (hn : name.size ≤ 128) (hlen : s.fs.length < maxLen)
    (hap : AppE w (vals name) (bytesF name s.fs) p v' w1) :
    ∃ w2, (Instr.mapUpdate 41 (.map (some m)) (.string name) v').run Tryz.prog w1 = .ok () w2 ∧ w1.cell? ⟨b, 0, none⟩ = some (.map (some m)) ∧ w2.cell? ⟨b, 0, none⟩ = some (.map (some m)) ∧
      Went B F b cut ⟨layF name (bytesF name s.fs ++ p) s.fs, s.count, s.dead⟩ w w2 := by
  obtain ⟨hb, hc⟩ := hap
  have f := h.files.file name (fun e => e)
  rcases hc with ⟨rfl, rfl, h0⟩ | ⟨ho, e, ho', hg, hs⟩ | ⟨e, ho', hg, hs⟩
  · have hf : Files (· = name) w1 B b m F s.fs D vals := h.files.turn (S := fun _ => False) (Keeps.refl _ _) (fun e => e) (fun _ _ _ _ e => e) (fun _ e => e.elim) (fun _ e => e) h.files.lt
    have hx : bytesF name s.fs ++ p = bytesF name s.fs := by rw [size0 h0]; exact ByteArray.append_empty
    rw [hx] at hb ⊢
    obtain ⟨w2, D', vals', hrun, hD, hg⟩ := h.store F hn hlen hf rfl (Nat.le_refl _) hb f.blk (f.room) (fun n g hne hfull hg e => by
      rcases (h.files.file n (fun e => e)).room with hr | ⟨-, hr⟩
      · exact hfull hr
      · exact (hr g hg).2 name (fun e => hne e.symm) e)
    exact ⟨w2, hrun, h.c0, hD.c0, hD.went ((keeps_of_grown hg).mono (fun i hi => by cases hi; exact h.files.fm))⟩
  · -- in its own row
    obtain ⟨-, hr⟩ : Own w (vals name) (bytesF name s.fs) ∧ ∀ g, (vals name).ownBlock = some g → F g ∧ ∀ n', n' ≠ name → (vals n').ownBlock ≠ some g := by
      rcases f.room with hr | hr
      · exact absurd hr ho
      · exact hr
    have hk := keeps_of_grown hg
    have hf : Files (· = name) w1 B b m F s.fs D vals := h.files.turn hk (fun e => (f.blk m e).2.1 rfl) (fun n g hne hg' hg2 => (hr g hg2).2 n hne hg') (fun _ e => e.elim) (fun _ e => e) (fun i hi => Nat.lt_of_lt_of_le (h.files.lt i hi) hg.size)
    have hcb : w1.heap[b]? = w.heap[b]? := hg.block b h.lt (fun e => (f.blk b e.symm).1 rfl)
    obtain ⟨w2, D', vals', hrun, hD, hg2⟩ := h.store F hn hlen hf hcb hg.size hb (fun g hg' => f.blk g (e ▸ hg')) (Or.inr ⟨ho', fun g hg' => hr g (e ▸ hg')⟩) (fun n g hne hfull hgn e2 => by
      rw [e] at e2
      rcases (h.files.file n (fun e => e)).room with hr2 | ⟨-, hr2⟩
      · exact hfull hr2
      · exact (hr2 g hgn).2 name (fun e => hne e.symm) e2)
    have hkeep : Keeps F w w2 := (hk.mono (fun i hi => (hr i hi).1)).trans ((keeps_of_grown hg2).mono (fun i hi => by cases hi; exact h.files.fm))
    exact ⟨w2, hrun, (World.cell?_of_block (a := ⟨b, 0, none⟩) hcb).trans h.c0, hD.c0, hD.went hkeep⟩
  · -- in a new one
    have hk := keeps_of_grown hg
    have hnone : ∀ i, ¬ ((none : Option Nat) = some i) := fun i e => by cases e
    have hlt : ∀ i, (F i ∨ i = w.heap.size) → i < w1.heap.size := fun i hi => by
      rcases hi with hi | hi
      · exact Nat.lt_of_lt_of_le (h.files.lt i hi) hg.size
      · omega
    have hf : Files (· = name) w1 B b m (fun i => F i ∨ i = w.heap.size) s.fs D vals := h.files.turn hk (hnone m) (fun n g _ _ hg2 => hnone g hg2) (fun _ e => e.elim) (fun _ e => Or.inl e) hlt
    have hcb : w1.heap[b]? = w.heap[b]? := hg.block b h.lt (fun e => by cases e)
    have hmlt := h.files.lt m h.files.fm
    have hblt := h.lt
    have hvlt : ∀ n g, (vals n).ownBlock = some g → g < w.heap.size := fun n g hgn => (h.files.file n (fun e => e)).byt.lt g hgn
    obtain ⟨w2, D', vals', hrun, hD, hg2⟩ := h.store (fun i => F i ∨ i = w.heap.size) hn hlen hf hcb hg.size hb (fun g hg' => by
        rw [e] at hg'; cases hg'; exact ⟨by omega, by omega, Or.inl (Or.inr rfl)⟩)
      (Or.inr ⟨ho', fun g hg' => by rw [e] at hg'; cases hg'; exact ⟨Or.inr rfl, fun n' _ e2 => by have := hvlt n' _ e2; omega⟩⟩)
      (fun n g _ _ hgn e2 => by rw [e] at e2; cases e2; have := hvlt n _ hgn; omega)
    refine ⟨w2, hrun, (World.cell?_of_block (a := ⟨b, 0, none⟩) hcb).trans h.c0, hD.c0, ⟨⟨_, m, D', vals', hD, fun i hi => by rcases hi with hi | hi; exact Or.inl hi; exact Or.inr (by omega)⟩, ?_⟩⟩
    exact (hk.mono (fun i hi => absurd hi (hnone i))).trans ((keeps_of_grown hg2).mono (fun i hi => by cases hi; exact h.files.fm))
end DiskP
end Go.Proofs.YtpmbokklpidohaaGreatDoor
namespace Go.Proofs.YtpmbokklpidohaaGreatDoor
open Go.RowKit Go.Maps
namespace DiskP
open DiskM DiskC ErrC

theorem cut_at (x : ByteArray) (p q : Nat) (hp : p ≤ q) (hq : q ≤ x.size) (w : World) : (Instr.slice 9 (.string x) (some (.int .i64 (p : Int))) (some (.int .i64 (q : Int))) none).run Tryz.prog w = .ok (.string (x.extract p q)) w := by
  rw [run_slice_string w 9 x .i64 .i64 (p : Int) (q : Int) Tryz.underlying9 (by omega) (by omega) (by omega)]
  rfl
def AddE (B : Nat) (F : Nat → Prop) (b : Nat) (cut : Int) (r : Bool × DS) (w : World) (e : Ending) (w' : World) : Prop := e = (if r.1 then .returned (.tuple #[]) else .panicked LOST) ∧ Went B F b cut r.2 w w'
/-- where the pieces stand: p bytes are done -/
def AddAt (cut : Int) (name x : ByteArray) (R : Bool × DS) (p : Nat) (s : DS) : Prop :=
  ((p = 0 ∨ p < x.size) ∧ p ≤ x.size ∧ ∃ k, x.size < k + p ∧ addsS cut name k (x.extract p x.size) s = R) ∨ (0 < p ∧ x.size ≤ p ∧ R = (true, s))
theorem rest_rest (x : ByteArray) (p : Nat) : (x.extract p x.size).extract 32 (x.extract p x.size).size = x.extract (p + 32) x.size := by
  apply ByteArray.ext
  apply Array.toList_inj.1
  simp only [Lib.extract_to_end, List.drop_drop]
theorem rest_front (x : ByteArray) (p : Nat) (hp : p ≤ x.size) : (x.extract p x.size).extract 0 (min (x.extract p x.size).size 32) = x.extract p (min (p + 32) x.size) := by
  apply ByteArray.ext
  apply Array.toList_inj.1
  have hs : (x.extract p x.size).size = x.size - p := by simp
  rw [hs, Lib.extract_data, Lib.extract_to_end, Lib.extract_data, List.drop_zero]
  congr 1
  omega
theorem AddAt.next {cut : Int} {name x : ByteArray} {R : Bool × DS} {p : Nat} {s : DS} (h : AddAt cut name x R p s) (hp : p = 0 ∨ p < x.size) (hr : rawB cut s.count s.dead = true) : AddAt cut name x R (p + 32) ⟨layF name (bytesF name s.fs ++ x.extract p (min (p + 32) x.size)) s.fs, s.count + 1, s.dead⟩ := by
  rcases h with ⟨-, hle, k, hk, hR⟩ | ⟨h1, h2, -⟩
  · obtain ⟨k', rfl⟩ : ∃ k', k = k' + 1 := ⟨k - 1, by omega⟩
    have hs : (x.extract p x.size).size = x.size - p := by simp
    by_cases hx : (x.extract p x.size).size ≤ 32
    · rw [addsS_last hr hx, rest_front x p hle] at hR
      exact Or.inr ⟨by omega, by omega, hR.symm⟩
    · rw [addsS_more hr hx, rest_front x p hle, rest_rest x p] at hR
      exact Or.inl ⟨Or.inr (by omega), by omega, k', by omega, hR⟩
  · omega
theorem AddAt.lost {cut : Int} {name x : ByteArray} {R : Bool × DS} {p : Nat} {s : DS} (h : AddAt cut name x R p s) (hp : p = 0 ∨ p < x.size) (hr : rawB cut s.count s.dead = false) : R = (false, ⟨s.fs, s.count, true⟩) := by
  rcases h with ⟨-, hle, k, hk, hR⟩ | ⟨h1, h2, -⟩
  · obtain ⟨k', rfl⟩ : ∃ k', k = k' + 1 := ⟨k - 1, by omega⟩
    rw [addsS_no hr] at hR
    exact hR.symm
  · omega
theorem AddAt.done {cut : Int} {name x : ByteArray} {R : Bool × DS} {p : Nat} {s : DS} (h : AddAt cut name x R p s) (hp : ¬ (p = 0 ∨ p < x.size)) : R = (true, s) := by
  rcases h with ⟨h1, -⟩ | ⟨-, -, h⟩
  · exact absurd h1 hp
  · exact h
theorem AddAt.start {cut : Int} {name x : ByteArray} {s : DS} : AddAt cut name x (addsR cut name x s) 0 s := by
  refine Or.inl ⟨Or.inl rfl, Nat.zero_le _, x.size + 1, by omega, ?_⟩
  have e : x.extract 0 x.size = x := by
    apply ByteArray.ext
    apply Array.toList_inj.1
    rw [Lib.extract_to_end]; simp
  rw [e]; rfl
set_option maxHeartbeats 8000000 in
set_option maxRecDepth 100000 in
theorem add_any {B b m : Nat} {F : Nat → Prop} {cut : Int} {s0 : DS} {D : DataW Unit} {vals : ByteArray → Value} {w : World} (h : Dsk B w b F cut s0 m D vals) (name x : ByteArray) (hn : name.size ≤ 128) (hd : s0.dead = false) (hm : room name s0.fs ≤ 1048576) (hz : (bytesF name s0.fs).size + x.size ≤ 274877906944) (hc : s0.count + x.size ≤ 1099511627776) :
    Calls Tryz.prog 44 #[.pointer (some ⟨b, 0, none⟩), .string name, .string x] w (AddE B F b cut (addsR cut name x s0) w) := by
  have HST : Hid (AddAt cut name x (addsR cut name x s0) 0 s0) := Lib.hid AddAt.start
  generalize addsR cut name x s0 = R at *
  have HW : Hid (Went B F b cut s0 w w) := Lib.hid (h.went (Keeps.refl _ _)); clear h
  have HD0 := Lib.hid hd; clear hd
  have HM := Lib.hid hm; clear hm
  have hxs : x.size ≤ 274877906944 := by omega
  go_enter Tryz.func44, Tryz.ntmps44
  go_wp2_with fail
  go_loopw [6] (fun vp wr => ∃ (p : Nat) (s : DS), vp = .int .i64 p ∧ p ≤ x.size + 32 ∧ Hid (AddAt cut name x R p s) ∧ Hid (Went B F b cut s w wr) ∧ Hid (room name s.fs = room name s0.fs) ∧ Hid ((bytesF name s.fs).size ≤ (bytesF name s0.fs).size + p) ∧ Hid (s.count ≤ s0.count + p) ∧ Hid (s.dead = false)) (fun vp _ => x.size + 33 - (intOf vp).toNat)
  case atStart => exact ⟨0, s0, rfl, Nat.zero_le _, HST, HW, Lib.hid rfl, Lib.hid (by omega), Lib.hid (by omega), HD0⟩
  case round =>
    obtain ⟨p, s, rfl, hp, HA, HL, HRM, HZ, HC, HDD⟩ := hrel
    rename World => wr
    clear HST HW
    by_cases hgo : p = 0 ∨ p < x.size
    · obtain ⟨F1, m1, D1, vals1, hD1, hF1⟩ := HL.out.is
      have HK := Lib.hid HL.out.keeps
      have HF1 := Lib.hid hF1; clear hF1
      have HGO := Lib.hid hgo
      have hcnt : s.count ≤ 4611686018427387904 := by have := HC.out; omega
      have hlen : s.fs.length < maxLen := by have := len_room name s.fs; have := HRM.out; have := HM.out; unfold maxLen; omega
      have hbz : (bytesF name s.fs).size + x.size + 33 ≤ 1099511627776 := by have := HZ.out; omega
      by_cases hr : rawB cut s.count s.dead = true
      · have hwn : IntKind.i64.wrap ((p : Int) + 32) = ((p + 32 : Nat) : Int) := by rw [IntWalk.i64_in _ ⟨by omega, by omega⟩]; omega
        have HR := Lib.hid hr
        have HSP := Lib.hid (spend_yes hD1 hr hcnt)
        have HLEN := Lib.hid hlen
        have HNX := Lib.hid (HA.out.next hgo hr)
        have hq1 : p ≤ min (p + 32) x.size := by rcases hgo with h | h <;> omega
        have hsl := cut_at x p (min (p + 32) x.size) hq1 (Nat.min_le_right _ _)
        have hsz : (bytesF name s.fs).size + (x.extract p (min (p + 32) x.size)).size ≤ 1099511627776 := by rw [ByteArray.size_extract]; omega
        have HSZ := Lib.hid hsz
        have HSZ2 : Hid ((bytesF name s.fs ++ x.extract p (min (p + 32) x.size)).size ≤ (bytesF name s0.fs).size + (p + 32)) := Lib.hid (by have := HZ.out; rw [ByteArray.size_append, ByteArray.size_extract]; omega)
        have hpx : p + 32 ≤ x.size + 32 ∨ p = 0 := by rcases hgo with h | h <;> omega
        have hmin : ∀ (ts : Array TypeId) (t : TypeId) (w : World), (Builtin.min_ ts t #[.int .i64 ((p + 32 : Nat) : Int), .int .i64 (x.size : Int)]).run Tryz.prog w = .ok (.int .i64 ((min (p + 32) x.size : Nat) : Int)) w := fun ts t w => by
          rw [run_min_int2]
          congr 3
          split <;> omega
        have hadv : p + 32 ≤ x.size + 32 := by rcases hgo with h | h <;> omega
        have hmeas : x.size + 33 - (p + 32) < x.size + 33 - p := by rcases hgo with h | h <;> omega
        have HPE0 : Hid (p + 1 ≤ p + 32) := Lib.hid (by omega)
        generalize hpe : p + 32 = pe at *
        have HPE : Hid (p + 1 ≤ pe) := HPE0
        generalize hqe : min pe x.size = q at *
        generalize hpc : x.extract p q = piece at *
        clear hpe hqe hpc hsz hr hlen hcnt hbz hq1 hpx
        have hcase : (((p : Int) == 0) = true) ∨ ((((p : Int) == 0) = false) ∧ decide (p < x.size) = true) := by
          rcases hgo with h | h
          · exact Or.inl (by simp [h])
          · by_cases h0 : p = 0
            · exact Or.inl (by simp [h0])
            · exact Or.inr ⟨by rw [beq_eq_false_iff_ne]; omega, by simpa using h⟩
        clear hgo
        rcases hcase with hc1 | ⟨hc1, hc2⟩
        all_goals
          go_wp2_with fail
          refine HSP.out.mono ?_
          rintro e w1 ⟨rfl, hd1, hk1⟩
          have HD1 : Hid (Dsk B w1.drew b F1 cut ⟨s.fs, s.count + 1, s.dead⟩ m1 D1 vals1) := Lib.hid (hd1.drewN 1)
          have k1 : w1.drew.cell? ⟨b, 0, none⟩ = some (.map (some m1)) := HD1.out.c0
          have k0 : w1.cell? ⟨b, 0, none⟩ = some (.map (some m1)) := hd1.c0
          have HK1 := Lib.hid hk1; clear hd1 hk1
          have hlk : (Instr.lookup 41 (.map (some m1)) (.string name) false).run Tryz.prog w1.drew = .ok (vals1 name) w1.drew := by
            obtain ⟨v, ps, hrun, hv⟩ := HD1.out.files.map.lookup keyed Tryz.underlying41 (zeroB _) eR_nil (keyOfN hn)
            rw [HD1.out.files.look (fun e => e) hv] at hrun
            exact hrun
          have HROW := Lib.hid (HD1.out.row name)
          go_wp2_with fail
          go_region_held3 (fun w' => w'.cell? ⟨b, 0, none⟩ = some (.map (some m1))) (first | exact k1 | exact k2 | exact k3)
            (first
              | (refine step_app rfl (.tmp 29) (.tmp 37) rfl (vals1 name) (by simp [Act.eval]) piece (by simp [Act.eval]) (bytesF name s.fs) HROW.out.1 HROW.out.2 HSZ.out ?_
                 intro v' w2 hap
                 obtain ⟨w3, hup, k2, k3, hwent⟩ := HD1.out.app hn HLEN.out hap
                 have HWT := Lib.hid hwent
                 clear hap hwent))
          all_goals
            go_wp2_with fail
            go_roundw
            case measure => simpa [intOf] using hmeas
            refine ⟨pe, ⟨layF name (bytesF name s.fs ++ piece) s.fs, s.count + 1, s.dead⟩, rfl, hadv, HNX, Lib.hid ?_, Lib.hid ?_, Lib.hid ?_, Lib.hid ?_, HDD⟩
            · have h1 : Went B F1 b cut ⟨layF name (bytesF name s.fs ++ piece) s.fs, s.count + 1, s.dead⟩ wr w3 := Went.of (F := F1) HD1.out ((HK1.out.mono (fun i e => by rw [e]; exact hD1.files.fb)).drewN 1) (fun _ h => Or.inl h) HWT.out
              exact Went.of hD1 HK.out HF1.out h1
            · show room name (layF _ _ _) = _
              rw [room_lay]; exact HRM.out
            · show (bytesF name (layF _ _ _)).size ≤ _
              rw [(has_lay _ _ _).2]; exact HSZ2.out
            · show s.count + 1 ≤ _
              have := HC.out; have := HPE.out; omega
      · have hrf : rawB cut s.count s.dead = false := by simpa using hr
        have HR := Lib.hid (HA.out.lost hgo hrf)
        have HSP := Lib.hid (spend_no hD1 hrf HDD.out)
        have hcase : (((p : Int) == 0) = true) ∨ ((((p : Int) == 0) = false) ∧ decide (p < x.size) = true) := by
          rcases hgo with h | h
          · exact Or.inl (by simp [h])
          · by_cases h0 : p = 0
            · exact Or.inl (by simp [h0])
            · exact Or.inr ⟨by rw [beq_eq_false_iff_ne]; omega, by simpa using h⟩
        clear hgo hr hrf hlen hcnt hbz
        rcases hcase with hc1 | ⟨hc1, hc2⟩
        all_goals
          go_wp2_with fail
          refine HSP.out.mono ?_
          rintro e w1 ⟨rfl, hd1, hk1⟩
          have HD1 := Lib.hid hd1
          have HK1 := Lib.hid hk1; clear hd1 hk1
          go_wp2_with fail
          refine ⟨rfl, ?_⟩
          rw [HR.out]
          exact ⟨rfl, Went.of hD1 HK.out HF1.out (HD1.out.went (HK1.out.mono (fun i e => by rw [e]; exact hD1.files.fb)))⟩
    · have HR := Lib.hid (HA.out.done hgo)
      have hc1 : ((p : Int) == 0) = false := by rw [beq_eq_false_iff_ne]; omega
      have hc2 : decide (p < x.size) = false := by simp; omega
      clear hgo
      go_wp2_with fail
      go_end0
      rw [HR.out]
      exact ⟨rfl, HL.out⟩
end DiskP
end Go.Proofs.YtpmbokklpidohaaGreatDoor
