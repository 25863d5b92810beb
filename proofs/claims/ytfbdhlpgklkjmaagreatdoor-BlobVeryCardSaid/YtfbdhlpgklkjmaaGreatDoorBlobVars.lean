/-
  What the listed variables and the shape of memory give where the row lists the error type and Go's table of the powers of ten; a world that bears them all.
  The statements' own 'alive' of layer 12: a blob is put, put again, read; one that is not there is asked for.
-/
import Derived.Test.YtfbdhlpgklkjmaaGreatDoorErrVars
import Derived.Test.YtfbdhlpgklkjmaaGreatDoorBlobS
import Derived.Lib.SmallJoins
import Derived.SizedLaws
import Derived.ChangeSame
import Derived.ChangeArms
import Derived.LaidLaws
import Derived.LaidHandle
import Derived.Stop.Joined
import Derived.LaidSub
import Derived.Lay
import Derived.MakeChecks
import Derived.Test.YtfbdhlpgklkjmaaGreatDoorErrTold
namespace Go.Proofs.YtfbdhlpgklkjmaaGreatDoor
namespace PathC
open Go.ChangeShapes Go.WideShapes Go.Deep Go.Lib Go.Joins
theorem open_two {H : Type} {enc : TypeId × Value → H} {P : Program} {w : World} {r : Reach} {b0 : Nat} {t : TypeId} {f0 f1 : Field} {k0 k1 : IntKind} {v : Value} {d : DataW H} {p : List MemPlace} (hs : P.underlying t = some (.struct #[f0, f1])) (hone : oneCellFields P #[f0, f1] = true) (hC : P.cellsOf t = 2)
    (h0 : P.underlying f0.type = some (.int k0)) (h1 : P.underlying f1.type = some (.int k1))
    (hv : Value.okWide P w r b0 t v) (h : DataW.Trod enc P w 0 (fun _ => true) true t v d p) :
    ∃ (x y : Int), v = .agg #[.int k0 x, .int k1 y] ∧ (Lit.int k0 x).wf = true ∧ (Lit.int k1 y).wf = true ∧ d = .agg [.lit (.int k0 x), .lit (.int k1 y)] := by
  obtain ⟨v0, v1, y0, y1, n, rfl, rfl, -, e0, e1⟩ := open_agg2 hs hone hC hv h
  obtain ⟨m0, hv0, rfl, hw0⟩ := DataW.trod_int h0 e0
  obtain ⟨m1, hv1, rfl, hw1⟩ := DataW.trod_int h1 e1
  simp only [List.cons.injEq, and_true] at hv0 hv1
  subst hv0 hv1
  exact ⟨m0, m1, rfl, hw0, hw1, rfl⟩
end PathC
end Go.Proofs.YtfbdhlpgklkjmaaGreatDoor
namespace Go.Proofs.YtfbdhlpgklkjmaaGreatDoor
open Go.RowKit
namespace BlobC
open ErrC DiskC PathC

structure VarsB (w : World) : Prop where
  vars : Vars w
  tab : Tab w
theorem VarsB.below {w w' : World} (h : VarsB w) (hb : Below w.heap.size w w') : VarsB w' := ⟨h.vars.below hb, h.tab.below hb⟩
theorem g_pow : Tryz.prog.globalNamed "internal/strconv.uint64pow10" = some 1 := by kernel_rfl
def laidL : List (String × DataW Unit) := [("math/bits.deBruijn32tab", Rows.laid_math_bits_deBruijn32tab), ("math/bits.deBruijn64tab", Rows.laid_math_bits_deBruijn64tab), ("internal/strconv.uint64pow10", Rows.laid_internal_strconv_uint64pow10), ("errors.errorType", Rows.laid_errors_errorType)]
theorem varsB_of {W : World} (h : laidMetH Tryz.prog laidL W) (hs : W.ShapedOpen Tryz.prog) : VarsB W := by
  refine ⟨ErrC.vars_of (h.filter (fun x => x.1 == "errors.errorType")) hs, ?_⟩
  have h1 := h.filter (fun x => x.1 == "internal/strconv.uint64pow10")
  have h2 : laidMet Tryz.prog [("internal/strconv.uint64pow10", Rows.laid_internal_strconv_uint64pow10)] W := by
    rw [← MakeChecks.laidMetH_plain _ _ _ (by kernel_rfl)]
    exact h1
  exact Lib.tabIs_of_head (t := 187) (e := 35) (n := 20) g_pow (by kernel_rfl) Tryz.underlying187 Tryz.underlying35 (by kernel_rfl) (by kernel_rfl) h2
def laidD : List (String × DataW Unit) := laidL.filter fun x => x.2.handleName?.isNone
/-- a world for the witness -/
noncomputable def laidW (os : Os) : World := (ErrC.laidWorld os).layVars Tryz.prog laidD
theorem laidW_os (os : Os) : (laidW os).os = os := World.layVars_os _ _ _
set_option maxRecDepth 100000 in
theorem laidW_met (os : Os) (args : Array Value) : laidMetH Tryz.prog laidL ((laidW os).forCall (fun _ _ => 0) ⟨#[], args, []⟩).memory :=
  laidMetH_of_parts (laidMet_layVars (w0 := ErrC.laidWorld os) (laidL.map (·.1)) [] (by kernel_rfl) (by kernel_rfl) (by kernel_rfl) LaidIn.none) (by kernel_rfl)
end BlobC
end Go.Proofs.YtfbdhlpgklkjmaaGreatDoor
namespace Go.Proofs.YtfbdhlpgklkjmaaGreatDoor
open Go.RowKit Go.Sort
namespace BlobC
open BlobM PathM DiskM DiskC ErrC PathC StrC TextR
open VerM (B)
open DiskP (RP disk_dev)
set_option linter.unusedSimpArgs false
set_option linter.unusedVariables false

theorem derr_below {w w1 w2 : World} {ev : Value} {c : Nat} {t : ByteArray} (h : DErr w w1 ev c t) (hb : Below w1.heap.size w1 w2) : DErr w w2 ev c t := h.keeps (Keeps.of_below (S := fun _ => False) hb) (fun _ h => h.elim)
theorem chainB {a b c : World} (h : Below a.heap.size a b) (k : Below b.heap.size b c) : Below a.heap.size a c := h.trans (k.mono h.size)
theorem alB (w : World) (o : Obj) : Below w.heap.size w (w.alloc o) := (Below.refl _ _).alloc (Nat.le_refl _) o
abbrev zV : Value := .agg #[.int .u64 0, .int .u32 0]
abbrev zO : Obj := .cells #[.int .u64 0, .int .u32 0] 38
theorem z_cells {w : World} {g : Nat} (h : w.heap[g]? = some zO) : w.cell? ⟨g, 0, none⟩ = some (.int .u64 0) ∧ w.cell? ⟨g, 1, none⟩ = some (.int .u32 0) := by
  refine ⟨?_, ?_⟩ <;> simp [World.cell?, h]
theorem eq_z (w : World) : (binOp .eql 38 (.agg #[.int .u64 0, .int .u32 0]) (.agg #[.int .u64 0, .int .u32 0])).run Tryz.prog w = .ok (.bool true) w := by
  have h := eq_bl (0, 0) (0, 0) w
  rw [decide_eq_true rfl] at h
  exact h
/-- a disk that was made behind w -/
structure Lv (w wi : World) (b : Nat) (F : Nat → Prop) (cut : Int) (s : DS) : Prop where
  bs : Bs w.heap.size wi b F cut s
  low : Below w.heap.size w wi
theorem Lv.below {w wi wj : World} {b : Nat} {F : Nat → Prop} {cut : Int} {s : DS} (h : Lv w wi b F cut s) (hb : Below wi.heap.size wi wj) : Lv w wj b F cut s := ⟨h.bs.below hb, h.low.trans (hb.mono h.low.size)⟩
theorem Lv.disk {w wi wj : World} {b : Nat} {F F' : Nat → Prop} {cut cut' : Int} {s s' : DS} (h : Lv w wi b F cut s) (hb : Bs w.heap.size wj b F' cut' s') (hk : Keeps F wi wj) : Lv w wj b F' cut' s' := ⟨hb, h.low.trans (hk.toBelow h.bs.ln.low h.bs.ln.hw)⟩
theorem new_lv (cut : Int) (w : World) (hv : VarsB w) : Calls Tryz.prog 6 #[.int .i64 cut] w fun e w' => ∃ b F, e = .returned (.pointer (some ⟨b, 0, none⟩)) ∧ Lv w w' b F cut ⟨[], 0, false⟩ := by
  refine ((disk_dev w.heap.size).new cut (Nat.le_refl _)).mono ?_
  rintro e w' ⟨b, F, rfl, hr, hb, hf⟩
  exact ⟨b, F, rfl, ⟨⟨hr, hf, hb.size, hv.vars.below hb, DiskC.Vars.g0 hv.vars, DiskC.Vars.g1 hv.vars⟩, hv.tab.below hb⟩, hb⟩
theorem open_fresh (cut : Int) : openS cut ⟨[], 0, false⟩ = (0, ⟨#[]⟩, ⟨[], 0, false⟩) := by
  unfold openS stagesL namesS
  simp [under, sweepS]
theorem empty_good : DiskC.Good [] := ⟨Nat.zero_le _, fun f h => by cases h⟩
/-- the store over a new disk -/
theorem open_new {w wi : World} {b : Nat} {F : Nat → Prop} {cut : Int} (h : Lv w wi b F cut ⟨[], 0, false⟩) :
    Calls Tryz.prog 8 #[.pointer (some ⟨b, 0, none⟩)] wi fun e w' => ∃ p F', e = .returned (.tuple #[.pointer (some ⟨p, 0, none⟩), .nilIface]) ∧ Lv w w' b F' cut ⟨[], 0, false⟩ ∧ Sto w' p b F' := by
  refine (open_any h.bs empty_good (Nat.zero_le _) (Nat.zero_le _)).mono ?_
  rintro e w' ⟨F', hb, hk, hf, h1⟩
  rw [open_fresh] at hb h1
  rcases h1 with ⟨-, p, rfl, -, hs⟩ | ⟨hne, -⟩
  · exact ⟨p, F', rfl, h.disk hb hk, hs⟩
  · exact absurd rfl hne
def abc : ByteArray := ⟨#[97, 98, 99]⟩
theorem abc_sum : sumN abc.data.toList ≠ 0 := by decide +kernel
theorem gone_name : nameB (0, 1) = ⟨#[98, 108, 111, 98, 47, 48, 48, 48, 48, 48, 48, 48, 48, 48, 48, 48, 48, 48, 48, 48, 48, 45, 49]⟩ := by decide +kernel
theorem gone_ok : Ok (0, 1) := ⟨by decide, by decide, by decide⟩
/-- Put on a disk that is written by Put alone, and never loses its power -/
structure PutL (Z : Nat) (bytes : ByteArray) (s : DS) (k : Nat) (x : Bl) (s2 : DS) : Prop where
  inv : Inv Z s2.fs (k + 1)
  old : ∀ y, Ok y → hasF (nameB y) s.fs = true → hasF (nameB y) s2.fs = true ∧ bytesF (nameB y) s2.fs = bytesF (nameB y) s.fs
  only : ∀ n, hasF n s2.fs = true → n = stageB ∨ n = nameB x ∨ hasF n s.fs = true
  stage : hasF stageB s2.fs = false
  dead : s2.dead = false
  ok : Ok x
  has : hasF (nameB x) s2.fs = true
  held : bytesF (nameB x) s2.fs = bytes
  sum : x.1 = sumN bytes.data.toList
  one : s.fs = [] → x.2 = 1
theorem put_count {cut : Int} {bytes : ByteArray} {L : List Bl} {s : DS} (hg : DiskC.Good s.fs) : (putR cut bytes L s).s.count ≤ s.count + bytes.size + 3 := by
  have h1 : ∀ x, (storeS cut bytes x s).s.count ≤ s.count + bytes.size + 3 := fun x => by
    have hp := put_good (cut := cut) (name := stageB) (x := bytes) (s := s) hg
    unfold storeS
    dsimp only
    split
    · show (putS _ _ _ _).2.count ≤ _
      omega
    · have := rename_good (cut := cut) (src := stageB) (dst := nameB x) (s := (putS cut stageB bytes s).2) hp.1
      show (renameS _ _ _ _).2.2.count ≤ _
      omega
  unfold putR
  split
  · show s.count ≤ _; omega
  split
  · show s.count ≤ _; omega
  split
  · show s.count ≤ _; omega
  split
  · exact h1 _
  · exact h1 _
theorem put_lv {Z : Nat} {w wi : World} {p b : Nat} {F : Nat → Prop} {cut : Int} {s : DS} {k : Nat} (bytes : ByteArray) (h : Lv w wi b F cut s) (hp : Sto wi p b F) (hcut : cut < 0) (hi : Inv Z s.fs k) (hk : k ≤ 200) (hd : s.dead = false) (hz : Z ≤ 65536) (hb : bytes.size ≤ Z) (hno : hasF stageB s.fs = false) (hc : s.count ≤ 549755000000) :
    Calls Tryz.prog 10 #[.pointer (some ⟨p, 0, none⟩), .string bytes] wi fun e w' => ∃ x F' s2, e = .returned (.tuple #[bV x, .nilIface]) ∧ Lv w w' b F' cut s2 ∧ Sto w' p b F' ∧ PutL Z bytes s k x s2 ∧ s2.count ≤ s.count + bytes.size + 3 ∧ Keeps F wi w' := by
  have hg := hi.good (by omega) (by omega)
  refine (put_any bytes h.bs hp hg (by have := hi.len; omega) hc (by omega)).mono ?_
  rintro e w' ⟨L, hL, ev, F', rfl, hde, hbs, hkk, hff⟩
  have hnm : namesS s = s.fs.map (·.1) := by unfold namesS; rw [hd]; rfl
  have hL := hL hd (by omega)
  rw [hnm] at hL
  have q := put_all (cut := cut) hi (by omega) hd hz hb hno hL
  have ha := putR_alive hcut bytes L s hd
  have hc2 := put_count (cut := cut) (bytes := bytes) (L := L) hg
  rcases q.res with ⟨e1, e2, e3, e4, e5, e6, e7⟩ | ⟨e1, e2⟩
  · rw [e1] at hde
    rcases hde with ⟨-, rfl⟩ | ⟨hne, -⟩
    · refine ⟨_, F', _, rfl, h.disk hbs hkk, hp.dev hkk hff, ⟨q.inv, q.old, fun n hn => ?_, q.stage e1, e2, e3, e4, e5, e6, e7⟩, hc2, hkk⟩
      rcases q.only n hn with h | h | h | h
      · exact .inl h
      · exact .inr (.inl h)
      · exact .inr (.inr h)
      · exact absurd e1 h
    · exact absurd rfl hne
  · rw [ha] at e2; cases e2
theorem get_has {s : DS} {x : Bl} (hx : Ok x) (hd : s.dead = false) (hh : hasF (nameB x) s.fs = true) (hs : x.1 = sumN (bytesF (nameB x) s.fs).data.toList) : getR x s = (bytesF (nameB x) s.fs, 0, ⟨#[]⟩) := by
  have hr := read_has hx hd
  rw [if_pos hh] at hr
  unfold getR
  rw [if_neg (by have := hx.lo; omega), hr]
  rw [if_neg (by simp), if_neg (by simpa using hs.symm)]
theorem get_gone {s : DS} {x : Bl} (hx : Ok x) (hd : s.dead = false) (hh : hasF (nameB x) s.fs = false) : getR x s = (⟨#[]⟩, 6, nameB x) := by
  have hr := read_has hx hd
  rw [if_neg (by rw [hh]; decide)] at hr
  unfold getR
  rw [if_neg (by have := hx.lo; omega), hr]
  rw [if_pos (by simp)]
set_option maxHeartbeats 8000000 in
set_option maxRecDepth 100000 in
theorem alive_any (w : World) (hv : VarsB w) : Calls Tryz.prog 12 #[] w fun e w' => e = .returned (.bool true) ∧ Below w.heap.size w w' := by
  have HN := Lib.hid (new_lv (-1) w hv)
  go_enter Tryz.func12, Tryz.ntmps12
  go_wp2_with (first
    | (go_at_call 6; refine HN.out.mono ?_; rintro e w1 ⟨b, F1, rfl, h1⟩; have H1 := Lib.hid h1; clear h1)
    | (go_at_call 8; refine (open_new H1.out).mono ?_; rintro e w2 ⟨p, F2, rfl, h2, hp2⟩; have H2 := Lib.hid h2; have HP2 := Lib.hid hp2; clear h2 hp2)
    | fail)
  refine (put_lv abc H2.out HP2.out (by decide) (Inv.nil 2000 0) (by decide) rfl (by decide) (by decide) rfl (by decide)).mono ?_
  rintro e w3 ⟨x, F3, s3, rfl, h3, hp3, hl3, hc3, -⟩
  have hx1 := hl3.one rfl
  have HFX : Hid (¬ F3 w3.heap.size) := Lib.hid (fun hF => by have := (disk_dev w.heap.size).lt h3.bs.ln.rep _ hF; omega)
  have hb3 : Below w3.heap.size w3 (w3.alloc (bO x)) := (Below.refl _ _).alloc (Nat.le_refl _) _
  have H3 := Lib.hid (h3.below hb3)
  have HP3 := Lib.hid (hp3.below hb3)
  have HL3 := Lib.hid hl3
  have HC3 : Hid (s3.count ≤ 100) := Lib.hid (by have hc4 : s3.count ≤ 0 + 3 + 3 := hc3; omega)
  have hx3 := heap_alloc_new w3 (bO x)
  have hn1 : decide (x.2 = 1) = true := decide_eq_true hx1
  have hn2 : ((x.2 : Int) == 1) = true := by rw [hx1]; rfl
  have hn3 : decide ((x.2 : Int) = 1) = true := by rw [hx1]; rfl
  clear h3 hp3 hl3 hc3 hb3 hx1
  go_wp2_with fail
  refine (put_lv abc H3.out HP3.out (by decide) HL3.out.inv (by decide) HL3.out.dead (by decide) (by decide) HL3.out.stage (by have := HC3.out; omega)).mono ?_
  rintro e w4 ⟨y, F4, s4, rfl, h4, hp4, hl4, -, hk4⟩
  have ho := hl4.old x HL3.out.ok HL3.out.has
  have hxy : x = y := hl4.inv.one x y HL3.out.ok hl4.ok ho.1 hl4.has (by rw [hl4.held, ho.2, HL3.out.held])
  subst hxy
  have hx4 : w4.heap[w3.heap.size]? = some (bO x) := (hk4.block _ (by simp) HFX.out).trans hx3
  have hlt4 : w3.heap.size < w4.heap.size := (Array.getElem?_eq_some_iff.1 hx4).1
  have HB4 : Hid (Below w4.heap.size w4 (w4.alloc (bO x))) := Lib.hid ((Below.refl _ _).alloc (Nat.le_refl _) _)
  have H4 := Lib.hid (h4.below HB4.out)
  have HP4 := Lib.hid (hp4.below HB4.out)
  obtain ⟨a0, a1⟩ := b_cells ((HB4.out.block _ hlt4).trans hx4)
  obtain ⟨c0, c1⟩ := b_cells (heap_alloc_new w4 (bO x))
  have hgood : DiskC.Good s4.fs := hl4.inv.good (by decide) (by decide)
  have HG1 : Hid (getR x s4 = (abc, 0, ⟨#[]⟩)) := Lib.hid (by
    rw [get_has hl4.ok hl4.dead hl4.has (by rw [hl4.held]; exact hl4.sum), hl4.held])
  have HG2 : Hid (getR (0, 1) s4 = (⟨#[]⟩, 6, nameB (0, 1))) := Lib.hid (get_gone gone_ok hl4.dead (by
    cases hh : hasF (nameB (0, 1)) s4.fs
    · rfl
    · exfalso
      have hne : nameB (0, 1) ≠ nameB x := fun e => by
        have h0 := congrArg Prod.fst (nameB_inj gone_ok hl4.ok e)
        have h1 := hl4.sum
        have h2 := abc_sum
        simp only at h0 h1
        omega
      rcases hl4.only _ hh with h | h | h
      · exact (stageB_ne gone_ok) h.symm
      · exact hne h
      · rcases HL3.out.only _ h with h | h | h
        · exact (stageB_ne gone_ok) h.symm
        · exact hne h
        · simp [hasF, fnd] at h))
  have HGET : Hid (∀ W, Below (w4.alloc (bO x)).heap.size (w4.alloc (bO x)) W → Calls Tryz.prog 9 #[.pointer (some ⟨p, 0, none⟩), bV x] W (GetE x s4 W)) := Lib.hid (fun W g => get_any x (H4.out.below g).bs (HP4.out.below g) hl4.ok.sum hl4.ok.hi hgood)
  have HGET2 : Hid (∀ W, Below (w4.alloc (bO x)).heap.size (w4.alloc (bO x)) W → Calls Tryz.prog 9 #[.pointer (some ⟨p, 0, none⟩), bV (0, 1)] W (GetE (0, 1) s4 W)) := Lib.hid (fun W g => get_any (0, 1) (H4.out.below g).bs (HP4.out.below g) (by decide) (by decide) hgood)
  have heq := fun W => eq_bl x x W
  rw [decide_eq_true rfl] at heq
  have habc : abc.toList = [97, 98, 99] := by decide +kernel
  clear h4 hp4 hl4 hk4 ho hx4 hx3 hgood HL3 H3 HP3
  go_wp2_with fail
  refine (HGET.out _ (Below.refl _ _)).mono ?_
  rintro e w6 ⟨ev, rfl, hde, hb6⟩
  rw [HG1.out] at hde
  have hev : ev = .nilIface := by
    rcases hde with ⟨-, h⟩ | ⟨h, -⟩
    · exact h
    · exact absurd rfl h
  subst hev
  have HB6 := Lib.hid hb6
  have a6 := (hb6.cell (World.block_lt_of_cell? _ _ a0)).trans a0
  have b6 := (hb6.cell (World.block_lt_of_cell? _ _ a1)).trans a1
  have c6 := (hb6.cell (World.block_lt_of_cell? _ _ c0)).trans c0
  have d6 := (hb6.cell (World.block_lt_of_cell? _ _ c1)).trans c1
  clear hde hb6 a0 a1 c0 c1 HGET
  rw [HG1.out]
  go_wp2_with fail
  refine (HGET2.out _ HB6.out).mono ?_
  rintro e w7 ⟨ev, rfl, hde, hb7⟩
  rw [HG2.out] at hde
  have HDE := Lib.hid hde
  have a7 := (hb7.cell (World.block_lt_of_cell? _ _ a6)).trans a6
  have b7 := (hb7.cell (World.block_lt_of_cell? _ _ b6)).trans b6
  have c7 := (hb7.cell (World.block_lt_of_cell? _ _ c6)).trans c6
  have d7 := (hb7.cell (World.block_lt_of_cell? _ _ d6)).trans d6
  have HB7 := Lib.hid (HB6.out.trans (hb7.mono HB6.out.size))
  have HIS := Lib.hid (is_derr hde (by decide) (by decide +kernel) (H4.out.below HB7.out).bs.ln.vars)
  rw [gone_name] at HIS
  clear hde hb7 a6 b6 c6 d6 HGET2 HDE
  rw [HG2.out]
  go_wp2_with (first | (go_at_call 13; refine HIS.out.mono ?_; rintro e w8 ⟨rfl, hb8⟩) | fail)
  go_ret
  exact ⟨rfl, (H4.out.below (HB7.out.trans (hb8.mono HB7.out.size))).low⟩
end BlobC
end Go.Proofs.YtfbdhlpgklkjmaaGreatDoor
