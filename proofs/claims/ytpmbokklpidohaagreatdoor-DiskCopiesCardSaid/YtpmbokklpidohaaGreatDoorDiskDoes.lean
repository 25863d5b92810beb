/-
  One call of both disks: they answer alike, and stand alike behind it.
-/
import Derived.Test.YtpmbokklpidohaaGreatDoorDiskDev
import Derived.BigQuiet
import Derived.Deep.RegionHeld
namespace Go.Proofs.YtpmbokklpidohaaGreatDoor
open Go.RowKit
namespace DiskC
open DiskM ErrC

/-- a step, as it is handed in: its box -/
def boxS (D : Int) (name x : ByteArray) (N : Int) (w : World) : World := w.alloc (.cells #[.int .i64 D, .string name, .string x, .int .i64 N] 28)
def stepV (D : Int) (name x : ByteArray) (N : Int) : Value := .agg #[.int .i64 D, .string name, .string x, .int .i64 N]
theorem boxS_facts (D : Int) (name x : ByteArray) (N : Int) (w : World) : (boxS D name x N w).cell? ⟨w.heap.size, 0, none⟩ = some (.int .i64 D) ∧ (boxS D name x N w).cell? ⟨w.heap.size, 1, none⟩ = some (.string name) ∧ (boxS D name x N w).cell? ⟨w.heap.size, 2, none⟩ = some (.string x) ∧ (boxS D name x N w).cell? ⟨w.heap.size, 3, none⟩ = some (.int .i64 N) ∧ Below w.heap.size w (boxS D name x N w) ∧ (boxS D name x N w).heap.size = w.heap.size + 1 := by
  unfold boxS
  refine ⟨?_, ?_, ?_, ?_, (Below.refl _ _).alloc (Nat.le_refl _) _, by simp⟩
  · rw [World.cell?_alloc_at _ _ _ _ rfl]; rfl
  · rw [World.cell?_alloc_at _ _ _ _ rfl]; rfl
  · rw [World.cell?_alloc_at _ _ _ _ rfl]; rfl
  · rw [World.cell?_alloc_at _ _ _ _ rfl]; rfl
def DoesE (R : World → Nat → (Nat → Prop) → Int → DS → Prop) (b y B : Nat) (cut : Int) (s : DS) (w : World) (e : Ending) (w' : World) : Prop :=
  e = .returned (.bool true) ∧ ∃ F v, Pair R w' b F y v cut s B ∧ Below B w w'

theorem Keeps.cellAt {S : Nat → Prop} {w w' : World} (k : Keeps S w w') {n j : Nat} {u : Value} (h : w.cell? ⟨n, j, none⟩ = some u) (hS : ¬ S n) : w'.cell? ⟨n, j, none⟩ = some u := by
  have e : w'.heap[n]? = w.heap[n]? := k.block n (World.block_lt_of_cell? _ _ h) hS
  rw [World.cell?_of_block (a := ⟨n, j, none⟩) e]; exact h
theorem append_code (cut : Int) (name x : ByteArray) (s : DS) : (appendS cut name x s).1 ≤ 6 := by
  unfold appendS code5
  repeat' split
  all_goals simp
theorem put_code (cut : Int) (name x : ByteArray) (s : DS) : (putS cut name x s).1 ≤ 6 := by
  unfold putS code5
  repeat' split
  all_goals simp
theorem trunc_code (cut : Int) (name : ByteArray) (n : Int) (s : DS) : (truncS cut name n s).1 ≤ 6 := by
  unfold truncS
  repeat' split
  all_goals simp
theorem remove_code (cut : Int) (name : ByteArray) (s : DS) : (removeS cut name s).1 ≤ 6 := by
  unfold removeS
  repeat' split
  all_goals simp
/-- the two disks, and the step's box, ahead of the calls -/
structure Ahead (R : World → Nat → (Nat → Prop) → Int → DS → Prop) (w w0 : World) (b : Nat) (F : Nat → Prop) (y : Nat) (v : Value) (cut : Int) (s : DS) (B : Nat) (name x : ByteArray) (N : Int) : Prop where
  pair : Pair R w0 b F y v cut s B
  below : Below B w w0
  ltF : ∀ i, F i → i < w.heap.size
  ltY : ∀ i, Foot y v i → i < w.heap.size
  size : w0.heap.size = w.heap.size + 1
  nm : w0.cell? ⟨w.heap.size, 1, none⟩ = some (.string name)
  tx : w0.cell? ⟨w.heap.size, 2, none⟩ = some (.string x)
  num : w0.cell? ⟨w.heap.size, 3, none⟩ = some (.int .i64 N)
theorem Pair.ahead {R : World → Nat → (Nat → Prop) → Int → DS → Prop} {B : Nat} (hD : Dev B R) {w : World} {b y : Nat} {F : Nat → Prop} {v : Value} {cut : Int} {s : DS} (D : Int) (name x : ByteArray) (N : Int) (h : Pair R w b F y v cut s B) :
    Ahead R w (boxS D name x N w).drew b F y v cut s B name x N := by
  obtain ⟨-, c1, c2, c3, hb0, hz0⟩ := boxS_facts D name x N w
  have hb : Below w.heap.size w (boxS D name x N w).drew := ⟨hb0.os, hb0.tape, hb0.output, hb0.size, hb0.block⟩
  exact ⟨h.below hD hb, hb.mono h.hw, hD.lt h.rep, foot_lt h.ref, hz0, c1, c2, c3⟩
/-- behind the program's call -/
structure Mid (R : World → Nat → (Nat → Prop) → Int → DS → Prop) (w w0 w1 : World) (b : Nat) (F : Nat → Prop) (y : Nat) (v : Value) (cut cut1 : Int) (s s1 : DS) (B : Nat) (name x : ByteArray) (N : Int) (ev : Value) (c : Nat) (t : ByteArray) : Prop where
  half : Half R w1 b F y v cut cut1 s s1 B
  below : Below B w w1
  err : DErr w0 w1 ev c t
  ltY : ∀ i, Foot y v i → i < w.heap.size
  size : w0.heap.size = w.heap.size + 1
  nm : w1.cell? ⟨w.heap.size, 1, none⟩ = some (.string name)
  tx : w1.cell? ⟨w.heap.size, 2, none⟩ = some (.string x)
  num : w1.cell? ⟨w.heap.size, 3, none⟩ = some (.int .i64 N)
theorem Ahead.dev {R : World → Nat → (Nat → Prop) → Int → DS → Prop} {w w0 w1 : World} {b y B c : Nat} {F F1 : Nat → Prop} {v ev : Value} {cut cut1 : Int} {s s1 : DS} {name x t : ByteArray} {N : Int} (h : Ahead R w w0 b F y v cut s B name x N)
    (he : DErr w0 w1 ev c t) (hr : R w1 b F1 cut1 s1) (hk : Keeps F w0 w1) (hf : ∀ i, F1 i → F i ∨ w0.heap.size ≤ i) : Mid R w w0 w1 b F1 y v cut cut1 s s1 B name x N ev c t := by
  obtain ⟨h1, h2⟩ := h.pair.dev hr hk hf
  have hn : ¬ F w.heap.size := fun hF => by have := h.ltF _ hF; omega
  exact ⟨h1, h.below.trans h2, he, h.ltY, h.size, hk.cellAt h.nm hn, hk.cellAt h.tx hn, hk.cellAt h.num hn⟩
/-- behind both calls -/
structure Late (R : World → Nat → (Nat → Prop) → Int → DS → Prop) (w w0 w2 : World) (b : Nat) (F : Nat → Prop) (y : Nat) (v : Value) (cut : Int) (s : DS) (B : Nat) (name x : ByteArray) (N : Int) (ev : Value) (c : Nat) (t : ByteArray) : Prop where
  pair : Pair R w2 b F y v cut s B
  below : Below B w w2
  err : DErr w0 w2 ev c t
  nm : w2.cell? ⟨w.heap.size, 1, none⟩ = some (.string name)
  tx : w2.cell? ⟨w.heap.size, 2, none⟩ = some (.string x)
  num : w2.cell? ⟨w.heap.size, 3, none⟩ = some (.int .i64 N)
theorem Mid.ref_ {R : World → Nat → (Nat → Prop) → Int → DS → Prop} {B : Nat} (hD : Dev B R) {w w0 w1 w2 : World} {b y c : Nat} {F : Nat → Prop} {v v' ev : Value} {cut cut1 : Int} {s s1 : DS} {name x t : ByteArray} {N : Int} (h : Mid R w w0 w1 b F y v cut cut1 s s1 B name x N ev c t)
    (hl : Laid w1 w2 y v v' s1.fs cut1 s1.count s1.dead) : Late R w w0 w2 b F y v' cut1 s1 B name x N ev c t := by
  obtain ⟨h1, h2⟩ := h.half.ref_ hD hl
  have hn : ¬ Foot y v w.heap.size := fun hF => by have := h.ltY _ hF; omega
  exact ⟨h1, h.below.trans h2, h.err.keeps hl.keeps (fun i hi => by have := h.ltY i hi; have := h.size; omega), hl.keeps.cellAt h.nm hn, hl.keeps.cellAt h.tx hn, hl.keeps.cellAt h.num hn⟩

-- WALKS
set_option maxRecDepth 100000 in
set_option maxHeartbeats 4000000 in
theorem does_append {R : World → Nat → (Nat → Prop) → Int → DS → Prop} {B : Nat} (hD : Dev B R) {w : World} {b y : Nat} {F : Nat → Prop} {v : Value} {cut : Int} {s : DS} (name x : ByteArray) (N : Int)
    (h : Pair R w b F y v cut s B) (hg : Good s.fs) (hc : s.count ≤ 549755813888) (hn : name.size ≤ 4611686018427387904) (hx : x.size ≤ 549755813888) :
    Calls Tryz.prog 6 #[.pointer (some ⟨b, 0, none⟩), .pointer (some ⟨y, 0, none⟩), stepV 0 name x N] w (DoesE R b y B cut (appendS cut name x s).2 w) := by
  have hah := h.ahead hD 0 name x N
  have c0 : ((boxS 0 name x N w)).cell? ⟨w.heap.size, 0, none⟩ = some (.int .i64 0) := (boxS_facts 0 name x N w).1
  have c1 := hah.nm
  have c2 := hah.tx
  have c3 := hah.num
  have HA := Lib.hid hah
  have HD := Lib.hid hD
  have HG := Lib.hid hg
  have HF : Hid (Fit s) := Lib.hid ⟨hg.1, hg.2, hc⟩
  have HC := Lib.hid (append_code cut name x s)
  clear h hah hD hg hc
  unfold stepV
  go_enter Tryz.func6, Tryz.ntmps6
  go_wp2_with fail
  go_region_held (fun w' => w'.cell? ⟨w.heap.size, 1, none⟩ = some (.string name) ∧ w'.cell? ⟨w.heap.size, 2, none⟩ = some (.string x) ∧ w'.cell? ⟨w.heap.size, 3, none⟩ = some (.int .i64 N)) (first | exact ⟨c1, c2, c3⟩ | exact ⟨by assumption, by assumption, by assumption⟩)
    (first
      | (go_at_call 16
         refine (HD.out.append (w := (boxS 0 name x N w).drew) name x HA.out.pair.rep HG.out HF.out.count HA.out.pair.vars).mono ?_
         rintro e w1 ⟨ev, F1, rfl, he, hr, hk, hf⟩
         have hm := HA.out.dev he hr hk hf
         have d1 := hm.nm
         have d2 := hm.tx
         have d7 := hm.num
         have HM := Lib.hid hm
         clear he hr hk hf hm)
      | (go_at_call 17
         refine (dappend_any y v cut name x s _ HM.out.half.ref HF.out hx).mono ?_
         rintro e w2 ⟨rfl, v2, hl⟩
         have hm := HM.out.ref_ HD.out hl
         have d3 := hm.nm
         have d4 := hm.tx
         have d8 := hm.num
         have HL := Lib.hid hm
         clear hl hm)
      | (go_at_call 15
         refine (is_derr HL.out.err (by have := HC.out; omega) hn HL.out.pair.vars).mono ?_
         rintro e w3 ⟨rfl, hb3⟩
         have d5 : w3.cell? ⟨w.heap.size, 1, none⟩ = some (.string name) := by rw [hb3.cell (World.block_lt_of_cell? _ _ d3)]; exact d3
         have d6 : w3.cell? ⟨w.heap.size, 2, none⟩ = some (.string x) := by rw [hb3.cell (World.block_lt_of_cell? _ _ d4)]; exact d4
         have d9 : w3.cell? ⟨w.heap.size, 3, none⟩ = some (.int .i64 N) := by rw [hb3.cell (World.block_lt_of_cell? _ _ d8)]; exact d8
         have HB3 := Lib.hid hb3
         clear hb3))
  go_wp2_with fail
  go_ret
  exact ⟨rfl, F1, v2, HL.out.pair.below HD.out HB3.out, HL.out.below.trans (HB3.out.mono HL.out.pair.hw)⟩
set_option maxRecDepth 100000 in
set_option maxHeartbeats 4000000 in
theorem does_put {R : World → Nat → (Nat → Prop) → Int → DS → Prop} {B : Nat} (hD : Dev B R) {w : World} {b y : Nat} {F : Nat → Prop} {v : Value} {cut : Int} {s : DS} (name x : ByteArray) (N : Int)
    (h : Pair R w b F y v cut s B) (hg : Good s.fs) (hc : s.count ≤ 549755813888) (hn : name.size ≤ 4611686018427387904) :
    Calls Tryz.prog 6 #[.pointer (some ⟨b, 0, none⟩), .pointer (some ⟨y, 0, none⟩), stepV 1 name x N] w (DoesE R b y B cut (putS cut name x s).2 w) := by
  have hah := h.ahead hD 1 name x N
  have c0 : ((boxS 1 name x N w)).cell? ⟨w.heap.size, 0, none⟩ = some (.int .i64 1) := (boxS_facts 1 name x N w).1
  have c1 := hah.nm
  have c2 := hah.tx
  have c3 := hah.num
  have HA := Lib.hid hah
  have HD := Lib.hid hD
  have HG := Lib.hid hg
  have HF : Hid (Fit s) := Lib.hid ⟨hg.1, hg.2, hc⟩
  have HC := Lib.hid (put_code cut name x s)
  clear h hah hD hg hc
  unfold stepV
  go_enter Tryz.func6, Tryz.ntmps6
  go_wp2_with fail
  go_region_held (fun w' => w'.cell? ⟨w.heap.size, 1, none⟩ = some (.string name) ∧ w'.cell? ⟨w.heap.size, 2, none⟩ = some (.string x) ∧ w'.cell? ⟨w.heap.size, 3, none⟩ = some (.int .i64 N)) (first | exact ⟨c1, c2, c3⟩ | exact ⟨by assumption, by assumption, by assumption⟩)
    (first
      | (go_at_call 18
         refine (HD.out.put (w := (boxS 1 name x N w).drew) name x HA.out.pair.rep HG.out HF.out.count HA.out.pair.vars).mono ?_
         rintro e w1 ⟨ev, F1, rfl, he, hr, hk, hf⟩
         have hm := HA.out.dev he hr hk hf
         have d1 := hm.nm
         have d2 := hm.tx
         have d7 := hm.num
         have HM := Lib.hid hm
         clear he hr hk hf hm)
      | (go_at_call 19
         refine (dput_any y v cut name x s _ HM.out.half.ref HF.out).mono ?_
         rintro e w2 ⟨rfl, v2, hl⟩
         have hm := HM.out.ref_ HD.out hl
         have d3 := hm.nm
         have d4 := hm.tx
         have d8 := hm.num
         have HL := Lib.hid hm
         clear hl hm)
      | (go_at_call 15
         refine (is_derr HL.out.err (by have := HC.out; omega) hn HL.out.pair.vars).mono ?_
         rintro e w3 ⟨rfl, hb3⟩
         have d5 : w3.cell? ⟨w.heap.size, 1, none⟩ = some (.string name) := by rw [hb3.cell (World.block_lt_of_cell? _ _ d3)]; exact d3
         have d6 : w3.cell? ⟨w.heap.size, 2, none⟩ = some (.string x) := by rw [hb3.cell (World.block_lt_of_cell? _ _ d4)]; exact d4
         have d9 : w3.cell? ⟨w.heap.size, 3, none⟩ = some (.int .i64 N) := by rw [hb3.cell (World.block_lt_of_cell? _ _ d8)]; exact d8
         have HB3 := Lib.hid hb3
         clear hb3))
  go_wp2_with fail
  go_ret
  exact ⟨rfl, F1, v2, HL.out.pair.below HD.out HB3.out, HL.out.below.trans (HB3.out.mono HL.out.pair.hw)⟩
set_option maxRecDepth 100000 in
set_option maxHeartbeats 4000000 in
theorem does_trunc {R : World → Nat → (Nat → Prop) → Int → DS → Prop} {B : Nat} (hD : Dev B R) {w : World} {b y : Nat} {F : Nat → Prop} {v : Value} {cut : Int} {s : DS} (name x : ByteArray) (N : Int)
    (h : Pair R w b F y v cut s B) (hg : Good s.fs) (hc : s.count ≤ 549755813888) (hn : name.size ≤ 4611686018427387904) (hN : N ≤ 9223372036854775807) :
    Calls Tryz.prog 6 #[.pointer (some ⟨b, 0, none⟩), .pointer (some ⟨y, 0, none⟩), stepV 2 name x N] w (DoesE R b y B cut (truncS cut name N s).2 w) := by
  have hah := h.ahead hD 2 name x N
  have c0 : ((boxS 2 name x N w)).cell? ⟨w.heap.size, 0, none⟩ = some (.int .i64 2) := (boxS_facts 2 name x N w).1
  have c1 := hah.nm
  have c2 := hah.tx
  have c3 := hah.num
  have HA := Lib.hid hah
  have HD := Lib.hid hD
  have HG := Lib.hid hg
  have HF : Hid (Fit s) := Lib.hid ⟨hg.1, hg.2, hc⟩
  have HC := Lib.hid (trunc_code cut name N s)
  clear h hah hD hg hc
  unfold stepV
  go_enter Tryz.func6, Tryz.ntmps6
  go_wp2_with fail
  go_region_held (fun w' => w'.cell? ⟨w.heap.size, 1, none⟩ = some (.string name) ∧ w'.cell? ⟨w.heap.size, 2, none⟩ = some (.string x) ∧ w'.cell? ⟨w.heap.size, 3, none⟩ = some (.int .i64 N)) (first | exact ⟨c1, c2, c3⟩ | exact ⟨by assumption, by assumption, by assumption⟩)
    (first
      | (go_at_call 20
         refine (HD.out.trunc (w := (boxS 2 name x N w).drew) name N HA.out.pair.rep HG.out HF.out.count HA.out.pair.vars).mono ?_
         rintro e w1 ⟨ev, F1, rfl, he, hr, hk, hf⟩
         have hm := HA.out.dev he hr hk hf
         have d1 := hm.nm
         have d2 := hm.tx
         have d7 := hm.num
         have HM := Lib.hid hm
         clear he hr hk hf hm)
      | (go_at_call 21
         refine (dtrunc_any y v cut name N s _ HM.out.half.ref HF.out hN).mono ?_
         rintro e w2 ⟨rfl, v2, hl⟩
         have hm := HM.out.ref_ HD.out hl
         have d3 := hm.nm
         have d4 := hm.tx
         have d8 := hm.num
         have HL := Lib.hid hm
         clear hl hm)
      | (go_at_call 15
         refine (is_derr HL.out.err (by have := HC.out; omega) hn HL.out.pair.vars).mono ?_
         rintro e w3 ⟨rfl, hb3⟩
         have d5 : w3.cell? ⟨w.heap.size, 1, none⟩ = some (.string name) := by rw [hb3.cell (World.block_lt_of_cell? _ _ d3)]; exact d3
         have d6 : w3.cell? ⟨w.heap.size, 2, none⟩ = some (.string x) := by rw [hb3.cell (World.block_lt_of_cell? _ _ d4)]; exact d4
         have d9 : w3.cell? ⟨w.heap.size, 3, none⟩ = some (.int .i64 N) := by rw [hb3.cell (World.block_lt_of_cell? _ _ d8)]; exact d8
         have HB3 := Lib.hid hb3
         clear hb3))
  go_wp2_with fail
  go_ret
  exact ⟨rfl, F1, v2, HL.out.pair.below HD.out HB3.out, HL.out.below.trans (HB3.out.mono HL.out.pair.hw)⟩
set_option maxRecDepth 100000 in
set_option maxHeartbeats 4000000 in
theorem does_remove {R : World → Nat → (Nat → Prop) → Int → DS → Prop} {B : Nat} (hD : Dev B R) {w : World} {b y : Nat} {F : Nat → Prop} {v : Value} {cut : Int} {s : DS} (name x : ByteArray) (N : Int)
    (h : Pair R w b F y v cut s B) (hg : Good s.fs) (hc : s.count ≤ 549755813888) (hn : name.size ≤ 4611686018427387904) :
    Calls Tryz.prog 6 #[.pointer (some ⟨b, 0, none⟩), .pointer (some ⟨y, 0, none⟩), stepV 4 name x N] w (DoesE R b y B cut (removeS cut name s).2 w) := by
  have hah := h.ahead hD 4 name x N
  have c0 : ((boxS 4 name x N w)).cell? ⟨w.heap.size, 0, none⟩ = some (.int .i64 4) := (boxS_facts 4 name x N w).1
  have c1 := hah.nm
  have c2 := hah.tx
  have c3 := hah.num
  have HA := Lib.hid hah
  have HD := Lib.hid hD
  have HG := Lib.hid hg
  have HF : Hid (Fit s) := Lib.hid ⟨hg.1, hg.2, hc⟩
  have HC := Lib.hid (remove_code cut name s)
  clear h hah hD hg hc
  unfold stepV
  go_enter Tryz.func6, Tryz.ntmps6
  go_wp2_with fail
  go_region_held (fun w' => w'.cell? ⟨w.heap.size, 1, none⟩ = some (.string name) ∧ w'.cell? ⟨w.heap.size, 2, none⟩ = some (.string x) ∧ w'.cell? ⟨w.heap.size, 3, none⟩ = some (.int .i64 N)) (first | exact ⟨c1, c2, c3⟩ | exact ⟨by assumption, by assumption, by assumption⟩)
    (first
      | (go_at_call 24
         refine (HD.out.remove (w := (boxS 4 name x N w).drew) name HA.out.pair.rep HG.out HF.out.count HA.out.pair.vars).mono ?_
         rintro e w1 ⟨ev, F1, rfl, he, hr, hk, hf⟩
         have hm := HA.out.dev he hr hk hf
         have d1 := hm.nm
         have d2 := hm.tx
         have d7 := hm.num
         have HM := Lib.hid hm
         clear he hr hk hf hm)
      | (go_at_call 25
         refine (dremove_any y v cut name s _ HM.out.half.ref HF.out).mono ?_
         rintro e w2 ⟨rfl, v2, hl⟩
         have hm := HM.out.ref_ HD.out hl
         have d3 := hm.nm
         have d4 := hm.tx
         have d8 := hm.num
         have HL := Lib.hid hm
         clear hl hm)
      | (go_at_call 15
         refine (is_derr HL.out.err (by have := HC.out; omega) hn HL.out.pair.vars).mono ?_
         rintro e w3 ⟨rfl, hb3⟩
         have d5 : w3.cell? ⟨w.heap.size, 1, none⟩ = some (.string name) := by rw [hb3.cell (World.block_lt_of_cell? _ _ d3)]; exact d3
         have d6 : w3.cell? ⟨w.heap.size, 2, none⟩ = some (.string x) := by rw [hb3.cell (World.block_lt_of_cell? _ _ d4)]; exact d4
         have d9 : w3.cell? ⟨w.heap.size, 3, none⟩ = some (.int .i64 N) := by rw [hb3.cell (World.block_lt_of_cell? _ _ d8)]; exact d8
         have HB3 := Lib.hid hb3
         clear hb3))
  go_wp2_with fail
  go_ret
  exact ⟨rfl, F1, v2, HL.out.pair.below HD.out HB3.out, HL.out.below.trans (HB3.out.mono HL.out.pair.hw)⟩
end DiskC
end Go.Proofs.YtpmbokklpidohaaGreatDoor
