/-
  Both logs over their disks, apart from each other: package log's and the document's.
-/
import Derived.Test.YtlnbjlidakdmlaaGreatDoorLogAlive
import Derived.Test.YtlnbjlidakdmlaaGreatDoorLogRef3
import Derived.Test.YtlnbjlidakdmlaaGreatDoorDiskDev
namespace Go.Proofs.YtlnbjlidakdmlaaGreatDoor
open Go.RowKit
set_option linter.unusedVariables false
namespace LogP
open LogM FrameM FrameC TextR DiskM DiskC LogC ErrC

theorem logd_lt {w : World} {q y : Nat} {rv v : Value} {cut : Int} {L : List (List UInt8)} {br : Bool} {s : DS} (h : LogD w q y rv v cut L br s) : ∀ i, FootL q y rv v i → i < w.heap.size := fun i hi => by
  rcases hi with rfl | hi | hi
  · exact h.log.lt
  · exact (World.ownsRow.lt h.log.row i hi).2
  · exact foot_in h.dsk i hi
theorem logd_keeps {S : Nat → Prop} {w w' : World} {q y : Nat} {rv v : Value} {cut : Int} {L : List (List UInt8)} {br : Bool} {s : DS} (h : LogD w q y rv v cut L br s) (k : Keeps S w w') (hS : ∀ i, FootL q y rv v i → ¬ S i) : LogD w' q y rv v cut L br s := by
  have hbl : w'.heap[q]? = w.heap[q]? := k.block q h.log.lt (hS q (.inl rfl))
  have hc : ∀ j, w'.cell? ⟨q, j, none⟩ = w.cell? ⟨q, j, none⟩ := fun j => World.cell?_of_block (a := ⟨q, j, none⟩) hbl
  exact ⟨⟨by rw [hc]; exact h.log.disk, by rw [hc]; exact h.log.list, by rw [hc]; exact h.log.broken, fun j => by rw [World.frozen?_of_block (a := ⟨q, j, none⟩) hbl]; exact h.log.free j, own_keeps h.log.row k (fun g hg => hS g (.inr (.inl hg))), h.log.sep⟩, IsDsk.keeps h.dsk k (fun i hi => hS i (.inr (.inr hi))), h.py, h.row⟩
/-- both: the program's of one log and disk, the document's of another (the same, between two calls) -/
structure TwoG (B : Nat) (w : World) (b y p nb q : Nat) (F : Nat → Prop) (v lv rv : Value) (cut1 : Int) (L1 : List (List UInt8)) (br1 : Bool) (s1 : DS) (cut : Int) (L : List (List UInt8)) (br : Bool) (s : DS) : Prop where
  pld : PLD (DiskP.RP B) w B p nb b F lv cut1 L1 br1 s1
  ref : LogD w q y rv v cut L br s
  dis : ∀ i, FootD p nb lv F i → ¬ FootL q y rv v i
  low : ∀ i, FootL q y rv v i → B ≤ i
section
variable {B : Nat} {w : World} {b y p nb q : Nat} {F : Nat → Prop} {v lv rv : Value} {cut1 : Int} {L1 : List (List UInt8)} {br1 : Bool} {s1 : DS} {cut : Int} {L : List (List UInt8)} {br : Bool} {s : DS}
theorem footD_lt (h : PLD (DiskP.RP B) w B p nb b F lv cut1 L1 br1 s1) : ∀ i, FootD p nb lv F i → i < w.heap.size := fun i hi => by
  rcases hi with hi | hi
  · exact (h.pl.foot i hi).2
  · exact (DiskP.disk_dev B).lt h.rep i hi
/-- behind a call of the program's -/
theorem TwoG.prog (h : TwoG B w b y p nb q F v lv rv cut1 L1 br1 s1 cut L br s) {w' : World} {F' : Nat → Prop} {lv' : Value} {cut1' : Int} {L1' : List (List UInt8)} {br1' : Bool} {s1' : DS}
    (hp : PLD (DiskP.RP B) w' B p nb b F' lv' cut1' L1' br1' s1') (hk : Keeps (FootD p nb lv F) w w') (hf : ∀ i, FootD p nb lv' F' i → FootD p nb lv F i ∨ w.heap.size ≤ i) :
    TwoG B w' b y p nb q F' v lv' rv cut1' L1' br1' s1' cut L br s := by
  refine ⟨hp, logd_keeps h.ref hk (fun i hi hS => h.dis i hS hi), fun i hi hL => ?_, h.low⟩
  rcases hf i hi with h1 | h1
  · exact h.dis i h1 hL
  · have := logd_lt h.ref i hL; omega
/-- behind a call of the document's -/
theorem TwoG.refd (h : TwoG B w b y p nb q F v lv rv cut1 L1 br1 s1 cut L br s) {w' : World} {v' rv' : Value} {cut' : Int} {L' : List (List UInt8)} {br' : Bool} {s' : DS}
    (hr : LogD w' q y rv' v' cut' L' br' s') (hk : Keeps (FootL q y rv v) w w') (hf : ∀ i, FootL q y rv' v' i → FootL q y rv v i ∨ w.heap.size ≤ i) :
    TwoG B w' b y p nb q F v' lv rv' cut1 L1 br1 s1 cut' L' br' s' := by
  refine ⟨h.pld.keeps (DiskP.disk_dev B) hk (fun i hi hS => h.dis i hi hS) h.low, hr, fun i hi hL => ?_, fun i hi => ?_⟩
  · rcases hf i hL with h1 | h1
    · exact h.dis i hi h1
    · have := footD_lt h.pld i hi; omega
  · rcases hf i hi with h1 | h1
    · exact h.low i h1
    · exact Nat.le_trans h.pld.hw h1
theorem TwoG.below (h : TwoG B w b y p nb q F v lv rv cut1 L1 br1 s1 cut L br s) {w' : World} (hb : Below w.heap.size w w') : TwoG B w' b y p nb q F v lv rv cut1 L1 br1 s1 cut L br s :=
  ⟨h.pld.below (DiskP.disk_dev B) hb, h.ref.below hb, h.dis, h.low⟩
/-- below the first block of both, all is as it was -/
theorem TwoG.to1 (h : TwoG B w b y p nb q F v lv rv cut1 L1 br1 s1 cut L br s) {w' : World} (hk : Keeps (FootD p nb lv F) w w') : Below B w w' := hk.toBelow h.pld.low2 h.pld.hw
theorem TwoG.to2 (h : TwoG B w b y p nb q F v lv rv cut1 L1 br1 s1 cut L br s) {w' : World} (hk : Keeps (FootL q y rv v) w w') : Below B w w' := hk.toBelow h.low h.pld.hw
/-- the disks alone -/
theorem TwoG.pair (h : TwoG B w b y p nb q F v lv rv cut L br s cut L br s) : Pair (DiskP.RP B) w b F y v cut s B :=
  ⟨h.pld.rep, h.ref.dsk, fun i hi hF => h.dis i (.inr hi) (.inr (.inr hF)), h.pld.low, fun i hi => h.low i (.inr (.inr hi)), h.pld.hw, h.pld.vars.vars, h.pld.g.1, h.pld.g.2⟩
/-- the disks' calls by somebody else: the logs stand as they are -/
theorem TwoG.dev1 (h : TwoG B w b y p nb q F v lv rv cut1 L1 br1 s1 cut L br s) {w' : World} {F' : Nat → Prop} {cut1' : Int} {s1' : DS} (hr : DiskP.RP B w' b F' cut1' s1') (hk : Keeps F w w') (hf : ∀ i, F' i → F i ∨ w.heap.size ≤ i) :
    TwoG B w' b y p nb q F' v lv rv cut1' L1 br1 s1' cut L br s :=
  h.prog (h.pld.dev hr hk hf) (hk.mono (fun i hi => .inr hi)) (fun i hi => hi.elim (fun h1 => .inl (.inl h1)) (fun h1 => (hf i h1).imp .inr id))
theorem TwoG.laid2 (h : TwoG B w b y p nb q F v lv rv cut1 L1 br1 s1 cut L br s) {w' : World} {v' : Value} {s' : DS} (hl : Laid w w' y v v' s'.fs cut s'.count s'.dead) : TwoG B w' b y p nb q F v' lv rv cut1 L1 br1 s1 cut L br s' :=
  h.refd (h.ref.laid hl) (hl.keeps.mono (fun i hi => .inr (.inr hi))) (fun i hi => by
    rcases hi with e | e | e
    · exact .inl (.inl e)
    · exact .inl (.inr (.inl e))
    · exact (foot_new hl i e).imp (fun h1 => .inr (.inr h1)) id)
/-! ### Append, both -/
theorem two_append1 (pl : List UInt8) (h : TwoG B w b y p nb q F v lv rv cut L br s cut L br s) (hg : DiskC.Good s.fs) (hc : s.count ≤ 549755813888) (hl : L.length ≤ 10000000) (hp : pl.length ≤ 140737488351232) :
    Calls Tryz.prog 9 #[.pointer (some ⟨p, 0, none⟩), .string (str pl)] w fun e w' => ∃ ev lv' F', e = .returned ev ∧ DErr w w' ev (appendL cut pl L br s).1 (appendL cut pl L br s).2.1 ∧
      TwoG B w' b y p nb q F' v lv' rv cut (appendL cut pl L br s).2.2.1 (appendL cut pl L br s).2.2.2.1 (appendL cut pl L br s).2.2.2.2 cut L br s ∧ Below B w w' := by
  refine (pappend_any (DiskP.disk_dev B) pl h.pld hg hc hl hp).mono ?_
  unfold PAppE
  generalize appendL cut pl L br s = r
  rintro e w' ⟨ev, lv', F', rfl, he, hp, hk, hf⟩
  exact ⟨ev, lv', F', rfl, he, h.prog hp hk hf, h.to1 hk⟩
theorem two_append2 (pl : List UInt8) (h : TwoG B w b y p nb q F v lv rv cut1 L1 br1 s1 cut L br s) (hf : Fit s) (hl : L.length ≤ 10000000) (hp : pl.length ≤ 140737488351232) :
    Calls Tryz.prog 10 #[.pointer (some ⟨q, 0, none⟩), .string (str pl)] w fun e w' => e = .returned (.tuple #[.int .i64 ((appendL cut pl L br s).1 : Int), .string (appendL cut pl L br s).2.1]) ∧
      (∃ v' rv', TwoG B w' b y p nb q F v' lv rv' cut1 L1 br1 s1 cut (appendL cut pl L br s).2.2.1 (appendL cut pl L br s).2.2.2.1 (appendL cut pl L br s).2.2.2.2) ∧ Keeps (FootL q y rv v) w w' ∧ Below B w w' := by
  refine (rappend_any pl h.ref hf (by omega) hp).mono ?_
  unfold AppE
  generalize appendL cut pl L br s = r
  rintro e w' ⟨rfl, rv', v', hr, hk, hf⟩
  exact ⟨rfl, ⟨v', rv', h.refd hr hk hf⟩, hk, h.to2 hk⟩
end
/-! ### Open, both -/
/-- behind the program's Open -/
structure OneG (B : Nat) (w : World) (b y p nb : Nat) (F : Nat → Prop) (v lv : Value) (cut : Int) (L : List (List UInt8)) (s1 s : DS) : Prop where
  pld : PLD (DiskP.RP B) w B p nb b F lv cut L false s1
  ref : IsD w y v cut s
  dis : ∀ i, FootD p nb lv F i → ¬ Foot y v i
  low : ∀ i, Foot y v i → B ≤ i
theorem one_open {B : Nat} {w w1 : World} {b y p nb : Nat} {F F' : Nat → Prop} {v lv : Value} {cut : Int} {L : List (List UInt8)} {s1 s : DS} (h : Pair (DiskP.RP B) w b F y v cut s B) (hp : PLD (DiskP.RP B) w1 B p nb b F' lv cut L false s1) (hk : Keeps F w w1) (hn : ∀ i, FootP p nb lv i → w.heap.size ≤ i) (hf : ∀ i, F' i → F i ∨ w.heap.size ≤ i) :
    OneG B w1 b y p nb F' v lv cut L s1 s := by
  refine ⟨hp, IsDsk.keeps h.ref hk (fun i hi hF => h.dis i hF hi), fun i hi hF => ?_, h.low2⟩
  have hlt := foot_in h.ref i hF
  rcases hi with hi | hi
  · have := hn i hi; omega
  · rcases hf i hi with h1 | h1
    · exact h.dis i h1 hF
    · omega
theorem two_open {B : Nat} {w1 w2 : World} {b y p nb q : Nat} {F : Nat → Prop} {v v' lv rv : Value} {cut : Int} {L : List (List UInt8)} {s1 s : DS} (h : OneG B w1 b y p nb F v lv cut L s1 s) (hl : Laid w1 w2 y v v' s1.fs cut s1.count s1.dead) (hq : w1.heap.size ≤ q) (hi : IsLog w2 q y rv L false) (hr : ∀ g, rv.ownBlock = some g → w1.heap.size ≤ g ∧ ¬ Foot y v' g) (hpy : ¬ Foot y v' q) :
    TwoG B w2 b y p nb q F v' lv rv cut L false s1 cut L false s1 := by
  refine ⟨h.pld.keeps (DiskP.disk_dev B) hl.keeps (fun i hi hF => h.dis i hi hF) h.low, ⟨hi, hl.dsk, hpy, fun g hg => (hr g hg).2⟩, fun i hi hL => ?_, fun i hL => ?_⟩
  · have hlt := footD_lt h.pld i hi
    rcases hL with e | e | e
    · omega
    · have := (hr i e).1; omega
    · rcases foot_new hl i e with h1 | h1
      · exact h.dis i hi h1
      · omega
  · have hw := h.pld.hw
    rcases hL with e | e | e
    · omega
    · have := (hr i e).1; omega
    · rcases foot_new hl i e with h1 | h1
      · exact h.low i h1
      · omega
/-- a named result in a cell of its own -/
theorem results_cell_bool {fn : Func} {p : Tmp} (h : fn.results = #[.cell p 4]) (tmps : Array Value) (w : World) (a : Addr) (v : Value) (hp : tmps.getD p undef = .pointer (some a)) (hc : w.cell? a = some v) :
    (results fn tmps).run Tryz.prog w = .ok v w := by
  have hp' : tmps[p]?.getD undef = .pointer (some a) := by simpa using hp
  simp [results, h, hp', asAddr, loadVar, go_sem, hc]
set_option maxRecDepth 100000 in
set_option maxHeartbeats 4000000 in
/-- no log, twice -/
theorem stands_nil (w : World) : Calls Tryz.prog 19 #[.pointer none, .pointer none] w fun e w' => e = .returned (.bool true) ∧ Below w.heap.size w w' := by
  go_enter Tryz.func19, Tryz.ntmps19
  go_wp2_with fail
  refine bodyPost_ret (results_cell_bool rfl _ _ ⟨w.heap.size + 1, 0, none⟩ (.bool true) rfl ?_) rfl ⟨rfl, ((Below.refl _ _).alloc (Nat.le_refl _) _).alloc (by simp) _⟩
  rw [World.cell?_alloc_at _ _ _ _ (by simp)]; rfl
end LogP
end Go.Proofs.YtlnbjlidakdmlaaGreatDoor
