/-
  Package log's fill: the records of the files, up to the last one that is looked at.
  Package log's fill, walked.
  Package log's fill over a disk without power.
  Package log's Open.
-/
import Derived.Test.YtlnbjlidakdmlaaGreatDoorLogLook
import Derived.Deep.CutRange
import Derived.Deep.RegionHeld3
import Derived.Deep.RegionWith
namespace Go.Proofs.YtlnbjlidakdmlaaGreatDoor
open Go.RowKit
set_option linter.unusedVariables false
namespace LogP
open LogM FrameM FrameC TextR DiskM DiskC LogC ErrC

theorem full_iff (fs : FL) (n : Nat) : FullF fs n ↔ ((partL fs n).length = 64 ∧ usedB (partL fs n) = (fileL fs n).length) := by
  constructor
  · exact fun h => h.2
  · intro h
    refine ⟨?_, h⟩
    cases hh : hasF (nameN n) fs with
    | true => rfl
    | false =>
      have := (no_file hh).2
      rw [this] at h
      exact absurd h.1 (by decide)
theorem upTo_part' {fs : FL} {n : Nat} (h : 1 ≤ n) : upTo fs (n - 1) ++ partL fs n = upTo fs n := by
  obtain ⟨m, rfl⟩ : ∃ m, n = m + 1 := ⟨n - 1, by omega⟩
  rfl
theorem ahd_len {fs : FL} {n : Nat} (h : Ahd fs n) : (upTo fs (n - 1)).length = 64 * (n - 1) := by
  obtain ⟨m, rfl⟩ : ∃ m, n = m + 1 := ⟨n - 1, by have := h.1; omega⟩
  exact upTo_len h
def ctrOf (nb : Nat) (w : World) : Nat := match w.cell? ⟨nb, 0, none⟩ with
  | some (.int _ n) => n.toNat
  | _ => 0
def segC (n : Nat) (pv : Value) (u z : Nat) : Array Value := #[.string (nameN n), pv, .int .i64 (u : Int), .int .i64 (z : Int)]
def zeroC : Array Value := #[.string ⟨#[]⟩, .slice none 0 0, .int .i64 0, .int .i64 0]
/-- while the files are looked at -/
structure Flg (R : World → Nat → (Nat → Prop) → Int → DS → Prop) (w0 w : World) (B p nb b : Nat) (F : Nat → Prop) (lv0 lv : Value) (cut : Int) (L : List (List UInt8)) (s : DS) : Prop where
  pld : PLD R w B p nb b F lv cut L false s
  keeps : Keeps (FootP p nb lv0) w0 w
  foot : ∀ i, FootP p nb lv i → FootP p nb lv0 i ∨ w0.heap.size ≤ i
  zero : w.heap[w0.heap.size]? = some (.cells zeroC 65 (0, 0))
  sep : ¬ FootP p nb lv w0.heap.size
  hw0 : B ≤ w0.heap.size
theorem Flg.lt {R : World → Nat → (Nat → Prop) → Int → DS → Prop} {w0 w : World} {B p nb b : Nat} {F : Nat → Prop} {lv0 lv : Value} {cut : Int} {L : List (List UInt8)} {s : DS} (h : Flg R w0 w B p nb b F lv0 lv cut L s) : w0.heap.size < w.heap.size := (Array.getElem?_eq_some_iff.1 h.zero).1
theorem Flg.below {R : World → Nat → (Nat → Prop) → Int → DS → Prop} {w0 w w' : World} {B p nb b : Nat} {F : Nat → Prop} {lv0 lv : Value} {cut : Int} {L : List (List UInt8)} {s : DS} (hD : Dev B R) (h : Flg R w0 w B p nb b F lv0 lv cut L s) (hb : Below w.heap.size w w') : Flg R w0 w' B p nb b F lv0 lv cut L s :=
  ⟨h.pld.below hD hb, h.keeps.then (Keeps.of_below (S := fun _ => False) hb) (fun _ _ h => h.elim), h.foot, (hb.block _ h.lt).trans h.zero, h.sep, h.hw0⟩
/-- behind take -/
theorem Flg.take {R : World → Nat → (Nat → Prop) → Int → DS → Prop} {w0 w w' : World} {B p nb b : Nat} {F : Nat → Prop} {lv0 lv lv' : Value} {cut : Int} {L L' : List (List UInt8)} {s : DS} (hD : Dev B R) (h : Flg R w0 w B p nb b F lv0 lv cut L s) (hp : IsPL w' B p nb b lv' L' false) (hk : Keeps (FootP p nb lv) w w') (hf : ∀ i, FootP p nb lv' i → FootP p nb lv i ∨ w.heap.size ≤ i) : Flg R w0 w' B p nb b F lv0 lv' cut L' s := by
  have hl := h.lt
  refine ⟨h.pld.log hD hp hk hf, h.keeps.then hk (fun i hi hF => (h.foot i hF).resolve_right (by omega)), fun i hi => ?_, (hk.block _ hl h.sep).trans h.zero, fun hF => ?_, h.hw0⟩
  · rcases hf i hi with h1 | h1
    · exact h.foot i h1
    · exact .inr (by omega)
  · rcases hf _ hF with h1 | h1
    · exact h.sep h1
    · omega
theorem PLD.flg {R : World → Nat → (Nat → Prop) → Int → DS → Prop} {w : World} {B p nb b : Nat} {F : Nat → Prop} {lv : Value} {cut : Int} {L : List (List UInt8)} {s : DS} (hD : Dev B R) (h : PLD R w B p nb b F lv cut L false s) : Flg R w (w.alloc (.cells zeroC 65)) B p nb b F lv lv cut L s := by
  have hb : Below w.heap.size w (w.alloc (.cells zeroC 65)) := (Below.refl _ _).alloc (Nat.le_refl _) _
  exact ⟨h.below hD hb, Keeps.of_below hb, fun i hi => .inl hi, heap_alloc_new w _, fun hF => by have := (h.pl.foot _ hF).2; omega, h.hw⟩
theorem PLD.ln {R : World → Nat → (Nat → Prop) → Int → DS → Prop} {w : World} {B p nb b : Nat} {F : Nat → Prop} {lv : Value} {cut : Int} {L : List (List UInt8)} {br : Bool} {s : DS} (h : PLD R w B p nb b F lv cut L br s) : Ln B R w b F cut s := ⟨h.rep, h.low, h.hw, h.vars.vars, h.g.1, h.g.2⟩

theorem Flg.other {R : World → Nat → (Nat → Prop) → Int → DS → Prop} {w0 w w' : World} {B p nb b : Nat} {F S : Nat → Prop} {lv0 lv : Value} {cut : Int} {L : List (List UInt8)} {s : DS} (hD : Dev B R) (h : Flg R w0 w B p nb b F lv0 lv cut L s) (k : Keeps S w w') (hS : ∀ i, FootD p nb lv F i → ¬ S i) (hB : ∀ i, S i → w0.heap.size < i) : Flg R w0 w' B p nb b F lv0 lv cut L s := by
  have hw := h.hw0
  exact ⟨h.pld.keeps hD k hS (fun i hi => by have := hB i hi; omega), h.keeps.then k (fun i hi hF => by have := hB i hF; omega), h.foot, (k.block _ h.lt (fun e => by have := hB _ e; omega)).trans h.zero, h.sep, h.hw0⟩
theorem setCell_row {w : World} {q j : Nat} {cs : Array Value} {t : TypeId} {fr : Nat × Nat} (h : w.heap[q]? = some (.cells cs t fr)) (u : Value) : (w.setCell ⟨q, j, none⟩ u).heap[q]? = some (.cells (cs.setIfInBounds j u) t fr) := by
  obtain ⟨hlt, hk⟩ := Array.getElem?_eq_some_iff.1 h
  show (w.heap.modify q _)[q]? = _
  rw [Array.getElem?_eq_getElem (by rw [Array.size_modify]; exact hlt), Array.getElem_modify_self, hk]
  rfl
def FillE (R : World → Nat → (Nat → Prop) → Int → DS → Prop) (B p nb b : Nat) (F : Nat → Prop) (lv : Value) (cut : Int) (s : DS) (w : World) (e : Ending) (w' : World) : Prop :=
  ∃ a cp lv', e = .returned (.tuple #[segV (lastN s.fs) (.slice a (partL s.fs (lastN s.fs)).length cp) (usedB (partL s.fs (lastN s.fs))) (fileL s.fs (lastN s.fs)).length, .nilIface]) ∧ PLD R w' B p nb b F lv' cut (logS s) false s ∧ Keeps (FootP p nb lv) w w' ∧ ∀ i, FootP p nb lv' i → FootP p nb lv i ∨ w.heap.size ≤ i
/-- a segment's four cells, stored one by one into a block of one's own -/
def segS (w : World) (q : Nat) (a b c d : Value) : World := (((w.setCell ⟨q, 0, none⟩ a).setCell ⟨q, 1, none⟩ b).setCell ⟨q, 2, none⟩ c).setCell ⟨q, 3, none⟩ d
theorem segS_keeps (w : World) (q : Nat) (a b c d : Value) : Keeps (· = q) w (segS w q a b c d) := ((keeps_at w q 0 a).trans (keeps_at _ q 1 b)).trans ((keeps_at _ q 2 c).trans (keeps_at _ q 3 d))
theorem segS_row {w : World} {q : Nat} {t : TypeId} {x0 x1 x2 x3 : Value} (h : w.heap[q]? = some (.cells #[x0, x1, x2, x3] t (0, 0))) (a b c d : Value) : (segS w q a b c d).heap[q]? = some (.cells #[a, b, c, d] t (0, 0)) := setCell_row (setCell_row (setCell_row (setCell_row h a) b) c) d
theorem seg_in {R : World → Nat → (Nat → Prop) → Int → DS → Prop} {w0 w1 w3 : World} {B p nb b : Nat} {F : Nat → Prop} {lv0 lv : Value} {cut : Int} {L : List (List UInt8)} {s : DS} (hD : Dev B R) (h : Flg R w0 w1 B p nb b F lv0 lv cut L s) (hb : Below (w1.alloc (.cells zeroC 65)).heap.size (w1.alloc (.cells zeroC 65)) w3) (a b' c d : Value) :
    Flg R w0 (segS w3 w1.heap.size a b' c d) B p nb b F lv0 lv cut L s ∧ (segS w3 w1.heap.size a b' c d).heap[w1.heap.size]? = some (.cells #[a, b', c, d] 65 (0, 0)) ∧ ∀ v M, OwnT w3 (w1.alloc (.cells zeroC 65)).heap.size v M → OwnT (segS w3 w1.heap.size a b' c d) 0 v M := by
  have hs : (w1.alloc (.cells zeroC 65)).heap.size = w1.heap.size + 1 := by simp
  have ha : Below w1.heap.size w1 (w1.alloc (.cells zeroC 65)) := (Below.refl _ _).alloc (Nat.le_refl _) _
  have h3 := (h.below hD ha).below hD hb
  have hlt := h.lt
  have hrow : w3.heap[w1.heap.size]? = some (.cells zeroC 65 (0, 0)) := (hb.block _ (by rw [hs]; omega)).trans (heap_alloc_new w1 _)
  refine ⟨h3.other hD (segS_keeps _ _ _ _ _ _) (fun i hi e => ?_) (fun i e => by omega), segS_row hrow _ _ _ _, fun v M ho => own_keeps (own_low ho (Nat.zero_le _)) (segS_keeps _ _ _ _ _ _) (fun g hg e => by have := own_lt ho g hg; omega)⟩
  rcases hi with hi | hi
  · have := (h.pld.pl.foot i hi).2; omega
  · have := hD.lt h.pld.rep i hi; omega
theorem seg_out {R : World → Nat → (Nat → Prop) → Int → DS → Prop} {w0 w1 w3 : World} {B p nb b : Nat} {F : Nat → Prop} {lv0 lv : Value} {cut : Int} {L : List (List UInt8)} {s : DS} (hD : Dev B R) (h : Flg R w0 w1 B p nb b F lv0 lv cut L s) (hb : Below w1.heap.size w1 w3) (a b' c d : Value) :
    Flg R w0 (w3.alloc (.cells #[a, b', c, d] 65)) B p nb b F lv0 lv cut L s ∧ (w3.alloc (.cells #[a, b', c, d] 65)).heap[w3.heap.size]? = some (.cells #[a, b', c, d] 65 (0, 0)) ∧ ∀ v M, OwnT w3 w1.heap.size v M → OwnT (w3.alloc (.cells #[a, b', c, d] 65)) 0 v M := by
  have ha : Below w3.heap.size w3 (w3.alloc (.cells #[a, b', c, d] 65)) := (Below.refl _ _).alloc (Nat.le_refl _) _
  exact ⟨(h.below hD hb).below hD ha, heap_alloc_new w3 _, fun v M ho => below_own (own_low ho (Nat.zero_le _)) ha⟩
end LogP
end Go.Proofs.YtlnbjlidakdmlaaGreatDoor
namespace Go.Proofs.YtlnbjlidakdmlaaGreatDoor
open Go.RowKit
set_option linter.unusedVariables false
namespace LogP
open LogM FrameM FrameC TextR DiskM DiskC LogC ErrC

set_option maxHeartbeats 8000000 in
set_option maxRecDepth 100000 in
theorem fill_live {R : World → Nat → (Nat → Prop) → Int → DS → Prop} {w : World} {B p nb b : Nat} {F : Nat → Prop} {lv : Value} {cut : Int} {s : DS} (hD : Dev B R) (h : PLD R w B p nb b F lv cut [] false s) (hg : DiskC.Good s.fs) (hd : s.dead = false) :
    Calls Tryz.prog 24 #[.pointer (some ⟨p, 0, none⟩)] w (FillE R B p nb b F lv cut s w) := by
  have HD := Lib.hid hD
  have HG := Lib.hid hg
  have HDD := Lib.hid hd
  have HF0 := Lib.hid (h.flg hD)
  have HFL : Hid (∀ i, F i → i < w.heap.size) := Lib.hid (fun i hi => hD.lt h.rep i hi)
  clear h hD hg hd
  unfold zeroC at HF0
  go_enter Tryz.func24, Tryz.ntmps24
  go_wp2_with fail
  go_loopw [] (fun wr => ∃ (n : Nat) (lv1 : Value), Hid (Ahd s.fs n) ∧ Hid (Flg R w wr B p nb b F lv lv1 cut (upTo s.fs (n - 1)) s)) (fun wr => 70000 - ctrOf nb wr)
  case atStart => exact ⟨1, lv, Lib.hid (Ahd.one _), HF0⟩
  case round =>
    obtain ⟨n, lv1, HA, HF⟩ := hrel
    rename World => wr
    clear HF0
    have hn : n ≤ 65537 := by have := HA.out.len HG.out.1; have := HG.out.1; omega
    have hn1 := HA.out.1
    have HLEN := Lib.hid (ahd_len HA.out)
    have HNN : Hid ((upTo s.fs (n - 1)).length / 64 + 1 = n) := Lib.hid (by rw [HLEN.out]; omega)
    have c0 := HF.out.pld.pl.disk
    have c2 := HF.out.pld.pl.file
    rw [HNN.out] at c2
    have HLK := Lib.hid (fun w4 (h4 : Ln B R w4 b F cut s) => look_any HD.out n h4 HG.out)
    have hpl := HF.out.pld.pl.lt
    have HD1 : Hid (Flg R w wr.drew B p nb b F lv lv1 cut (upTo s.fs (n - 1)) s) := Lib.hid (HF.out.below HD.out ⟨rfl, rfl, rfl, Nat.le_refl _, fun _ _ => rfl⟩)
    have HL1 : Hid (Ln B R wr.drew b F cut s) := Lib.hid HD1.out.pld.ln
    have HL2 : Hid (Ln B R (wr.drew.alloc (.cells zeroC 65)) b F cut s) := Lib.hid (HL1.out.below HD.out ((Below.refl _ _).alloc (Nat.le_refl _) _)).1
    unfold zeroC at HL2
    obtain ⟨KK, hKK⟩ : ∃ K, K = (partL s.fs n).length := ⟨_, rfl⟩
    obtain ⟨U, hU⟩ : ∃ K, K = usedB (partL s.fs n) := ⟨_, rfl⟩
    obtain ⟨Z, hZ⟩ : ∃ K, K = (fileL s.fs n).length := ⟨_, rfl⟩
    have HLK2 : Hid (∀ w4, Ln B R w4 b F cut s → Calls Tryz.prog 65 #[.pointer (some ⟨b, 0, none⟩), .string (nameN n)] w4 fun e w' => ∃ a cp, e = .returned (.tuple #[.agg #[.string (nameN n), .slice a KK cp, .int .i64 (U : Int), .int .i64 (Z : Int)], .nilIface]) ∧ Hid (OwnT w' w4.heap.size (.slice a KK cp) ((partL s.fs n).map str)) ∧ Below w4.heap.size w4 w') := Lib.hid (fun w4 h4 => (HLK.out w4 h4).mono (fun e w' h => by
      rcases h with ⟨h, -⟩ | ⟨-, a, cp, h1, h2, h3⟩
      · rw [HDD.out] at h; cases h
      · rw [hKK, hU, hZ]
        exact ⟨a, cp, h1, Lib.hid h2, h3⟩))
    have HKK := Lib.hid hKK
    have HUU := Lib.hid hU
    have HZZ := Lib.hid hZ
    clear hKK hU hZ
    go_upto_region 1 with fail
    go_cut [4, 5] from 6 to 29 (fun v4 v5 wx => ∃ (q : Nat) (a : Option Addr) (cp : Nat), v4 = .pointer (some ⟨q, 0, none⟩) ∧ v5 = .nilIface ∧ Hid (Flg R w wx B p nb b F lv lv1 cut (upTo s.fs (n - 1)) s) ∧ Hid (wx.heap[q]? = some (.cells #[.string (nameN n), .slice a KK cp, .int .i64 (U : Int), .int .i64 (Z : Int)] 65 (0, 0))) ∧ Hid (OwnT wx 0 (.slice a KK cp) ((partL s.fs n).map str)) ∧ Hid (wr.heap.size ≤ q))
    case first =>
      go_region_with
        (go_at_call 65
         refine (HLK2.out _ (by first | exact HL1.out | exact HL2.out)).mono ?_
         rintro e w3 ⟨a, cp, rfl, HO, hb⟩
         have HB3 := Lib.hid hb
         try have z0 : w3.cell? ⟨wr.heap.size, 0, none⟩ = some (.string ⟨#[]⟩) := by rw [hb.cell (by simp)]; simp
         try have z1 : w3.cell? ⟨wr.heap.size, 1, none⟩ = some (.slice none 0 0) := by rw [hb.cell (by simp)]; simp
         try have z2 : w3.cell? ⟨wr.heap.size, 2, none⟩ = some (.int .i64 0) := by rw [hb.cell (by simp)]; simp
         try have z3 : w3.cell? ⟨wr.heap.size, 3, none⟩ = some (.int .i64 0) := by rw [hb.cell (by simp)]; simp
         try have z4 : ∀ j, w3.frozen? ⟨wr.heap.size, j, none⟩ = false := by intro j; rw [World.frozen?_of_block (a := ⟨wr.heap.size, j, none⟩) (hb.block wr.heap.size (by simp))]; simp
         clear hb)
      all_goals (go_wp2_with fail)
      all_goals (go_meet)
      all_goals first
        | (case rel =>
            obtain ⟨f1, f2, f3⟩ := seg_in HD.out HD1.out HB3.out (.string (nameN n)) (.slice a KK cp) (.int .i64 (U : Int)) (.int .i64 (Z : Int))
            exact ⟨_, a, cp, rfl, rfl, Lib.hid f1, Lib.hid f2, Lib.hid (f3 _ _ HO.out), Lib.hid (Nat.le_refl _)⟩)
        | (case rel =>
            obtain ⟨f1, f2, f3⟩ := seg_out HD.out HD1.out HB3.out (.string (nameN n)) (.slice a KK cp) (.int .i64 (U : Int)) (.int .i64 (Z : Int))
            exact ⟨_, a, cp, rfl, rfl, Lib.hid f1, Lib.hid f2, Lib.hid (f3 _ _ HO.out), Lib.hid HB3.out.size⟩)
    case rest =>
      obtain ⟨q, a, cp, rfl, rfl, HF1, HROW, HO, HQ⟩ := hcut
      have hrow := HROW.out
      have hc1 : wc.cell? ⟨q, 1, none⟩ = some (.slice a KK cp) := by simp [World.cell?, hrow]
      have HTK := Lib.hid (take_any (M := partL s.fs n) HF1.out.pld.pl HO.out (by rw [HLEN.out]; have := part_len s.fs n; omega) (by rw [HLEN.out]; omega) HF1.out.pld.vars HF1.out.pld.g HF1.out.pld.hw)
      have HQF : Hid (¬ FootP p nb lv1 q) := Lib.hid (fun hF => by have := (HF.out.pld.pl.foot q hF).2; have := HQ.out; omega)
      clear hrow
      go_wp2_with fail
      refine HTK.out.mono ?_
      rintro e w5 ⟨rfl, lv2, hp5, hk5, hf5⟩
      have HF5 := Lib.hid (HF1.out.take HD.out hp5 hk5 hf5)
      rw [upTo_part' hn1] at HF5
      have hrow5 : w5.heap[q]? = some (.cells #[.string (nameN n), .slice a KK cp, .int .i64 (U : Int), .int .i64 (Z : Int)] 65 (0, 0)) := (hk5.block q (Array.getElem?_eq_some_iff.1 HROW.out).1 HQF.out).trans HROW.out
      have HGO : Hid (∀ w4, Calls Tryz.prog 66 #[.agg #[.string (nameN n), .slice a KK cp, .int .i64 (U : Int), .int .i64 (Z : Int)]] w4 fun e w' => e = .returned (.bool (decide (KK = 64 ∧ U = Z))) ∧ Below w4.heap.size w4 w') := Lib.hid (fun w4 => goesOn_any n KK cp U Z a w4)
      have hinf := info_seg
      clear hp5 hk5 hf5 HTK hc1 HF1 HROW HO
      go_wp2_with (refine wpList_load_row rfl 65 _ rfl q rfl _ #[.string (nameN n), .slice a KK cp, .int .i64 (U : Int), .int .i64 (Z : Int)] _ _ hrow5 Tryz.underlying65 rfl hinf ?_)
      refine (HGO.out w5).mono ?_
      rintro e w6 ⟨rfl, hb6⟩
      have HF6 := Lib.hid (HF5.out.below HD.out hb6)
      have hrow6 := (hb6.block q (Array.getElem?_eq_some_iff.1 hrow5).1).trans hrow5
      clear hb6 HGO hrow5 HF5
      by_cases hfu : KK = 64 ∧ U = Z
      · have hde : decide (KK = 64 ∧ U = Z) = true := decide_eq_true hfu
        have HA2 := Lib.hid (HA.out.next ((full_iff s.fs n).2 (by rw [← HKK.out, ← HUU.out, ← HZZ.out]; exact hfu)))
        have HC1 : Hid (ctrOf nb wr = n) := Lib.hid (by
          unfold ctrOf
          rw [HF.out.pld.pl.ctr, HNN.out]
          rfl)
        have HC2 : Hid (ctrOf nb w6 = n + 1) := Lib.hid (by
          have h1 := HF6.out.pld.pl.ctr
          have h2 := ahd_len HA2.out
          rw [Nat.add_sub_cancel] at h2
          unfold ctrOf
          rw [h1, h2, show 64 * n / 64 + 1 = n + 1 by omega]
          rfl)
        clear hfu
        go_wp2_with fail
        go_roundw
        case rel => exact ⟨n + 1, lv2, HA2, HF6⟩
        case measure => rw [HC1.out, HC2.out]; omega
      · have hde : decide (KK = 64 ∧ U = Z) = false := decide_eq_false hfu
        have HLN : Hid (n = lastN s.fs) := Lib.hid (last_eq HG.out.1 HA.out (fun h => hfu (by rw [HKK.out, HUU.out, HZZ.out]; exact (full_iff s.fs n).1 h)))
        have hzero := HF6.out.zero
        unfold zeroC at hzero
        clear hfu
        go_wp2_with (first
          | (refine wpList_load_row rfl 65 _ rfl q rfl _ #[.string (nameN n), .slice a KK cp, .int .i64 (U : Int), .int .i64 (Z : Int)] _ _ hrow6 Tryz.underlying65 rfl hinf ?_)
          | (refine wpList_store_row rfl 65 _ _ rfl w.heap.size #[.string (nameN n), .slice a KK cp, .int .i64 (U : Int), .int .i64 (Z : Int)] rfl rfl _ _ hzero hinf rfl (seg_one _ _ _ _ _ _) ?_))
        refine bodyPost_ret (results_cell_tmp rfl _ _ w.heap.size _ #[.string (nameN n), .slice a KK cp, .int .i64 (U : Int), .int .i64 (Z : Int)] _ _ rfl (setRow_heap _ _ _ _ _ _ hzero) Tryz.underlying65 rfl hinf) rfl ?_
        have kr := keeps_row w6 w.heap.size #[.string (nameN n), .slice a KK cp, .int .i64 (U : Int), .int .i64 (Z : Int)]
        refine ⟨a, cp, lv2, ?_, ?_, HF6.out.keeps.then kr (fun i hi e => by omega), HF6.out.foot⟩
        · rw [← HLN.out, ← HKK.out, ← HUU.out, ← HZZ.out]
          rfl
        · have := HF6.out.pld.keeps HD.out kr (fun i hi e => by
            rcases hi with hi | hi
            · exact HF6.out.sep (by rw [← e]; exact hi)
            · have := HFL.out i hi; omega) (fun i e => by have := HF6.out.hw0; omega)
          rw [show upTo s.fs n = logS s by unfold logS; rw [← HLN.out]] at this
          exact this
end LogP
end Go.Proofs.YtlnbjlidakdmlaaGreatDoor
namespace Go.Proofs.YtlnbjlidakdmlaaGreatDoor
open Go.RowKit
set_option linter.unusedVariables false
namespace LogP
open LogM FrameM FrameC TextR DiskM DiskC LogC ErrC

theorem fault_block {w w' : World} {f : Nat} {c a : Int} {t : ByteArray} (h : IsFault w f 0 c t a) (e : w'.heap[f]? = w.heap[f]?) : IsFault w' f 0 c t a := by
  have ec : ∀ j, w'.cell? ⟨f, j, none⟩ = w.cell? ⟨f, j, none⟩ := fun j => World.cell?_of_block (a := ⟨f, j, none⟩) e
  exact ⟨by rw [ec]; exact h.code, by rw [ec]; exact h.what, by rw [ec]; exact h.at_, by rw [ec]; exact h.under⟩
theorem dead_in {w0 w3 : World} {f : Nat} {t : ByteArray} {z : Obj} (hb : Below (w0.drew.alloc z).heap.size (w0.drew.alloc z) w3) (hf : (w0.drew.alloc z).heap.size ≤ f ∧ IsFault w3 f 0 5 t (-1)) (a b c d : Value) :
    (w0.heap.size ≤ f ∧ IsFault (segS w3 w0.heap.size a b c d) f 0 5 t (-1)) ∧ Below w0.heap.size w0 (segS w3 w0.heap.size a b c d) := by
  have hs : (w0.drew.alloc z).heap.size = w0.heap.size + 1 := by simp
  have h1 : Below w0.heap.size w0 w0.drew := ⟨rfl, rfl, rfl, Nat.le_refl _, fun _ _ => rfl⟩
  have h2 : Below w0.heap.size w0 w3 := (h1.alloc (Nat.le_refl _) z).trans (hb.mono (by rw [hs]; omega))
  refine ⟨⟨by omega, fault_block hf.2 ((segS_keeps _ _ _ _ _ _).block f hf.2.lt (by omega))⟩, h2.trans ?_⟩
  exact (segS_keeps w3 w0.heap.size a b c d).toBelow (fun i e => by omega) (by have := h2.size; omega)
theorem dead_out {w0 w3 : World} {f : Nat} {t : ByteArray} (hb : Below w0.drew.heap.size w0.drew w3) (hf : w0.drew.heap.size ≤ f ∧ IsFault w3 f 0 5 t (-1)) (o : Obj) :
    (w0.heap.size ≤ f ∧ IsFault (w3.alloc o) f 0 5 t (-1)) ∧ Below w0.heap.size w0 (w3.alloc o) := by
  have h1 : Below w0.heap.size w0 w0.drew := ⟨rfl, rfl, rfl, Nat.le_refl _, fun _ _ => rfl⟩
  have h2 : Below w0.heap.size w0 w3 := h1.trans hb
  exact ⟨⟨hf.1, fault_block hf.2 (heap_alloc_old w3 o hf.2.lt)⟩, h2.alloc h2.size o⟩
/-- of a disk without power: the first file is asked for, and that is all -/
def FillD (B p nb b : Nat) (lv : Value) (s : DS) (w : World) (e : Ending) (w' : World) : Prop :=
  ∃ ev, e = .returned (.tuple #[zeroSeg, ev]) ∧ DErr w w' ev 5 (nameN 1) ∧ Below w.heap.size w w'
set_option maxHeartbeats 8000000 in
set_option maxRecDepth 100000 in
theorem fill_dead {R : World → Nat → (Nat → Prop) → Int → DS → Prop} {w : World} {B p nb b : Nat} {F : Nat → Prop} {lv : Value} {cut : Int} {s : DS} (hD : Dev B R) (h : PLD R w B p nb b F lv cut [] false s) (hg : DiskC.Good s.fs) (hd : s.dead = true) :
    Calls Tryz.prog 24 #[.pointer (some ⟨p, 0, none⟩)] w (FillD B p nb b lv s w) := by
  have HD := Lib.hid hD
  have HDD := Lib.hid hd
  have HF0 := Lib.hid (h.flg hD)
  have hpl := h.pl.lt
  have c0 := h.pl.disk
  have c2 : w.cell? ⟨p, 2, none⟩ = some (.string (nameN 1)) := h.pl.file
  have hb0 : Below w.heap.size w (w.alloc (.cells zeroC 65)) := (Below.refl _ _).alloc (Nat.le_refl _) _
  have HB0 := Lib.hid hb0
  have HLK : Hid (∀ w4, Ln B R w4 b F cut s → Calls Tryz.prog 65 #[.pointer (some ⟨b, 0, none⟩), .string (nameN 1)] w4 fun e w' => ∃ f, e = .returned (.tuple #[.agg #[.string ⟨#[]⟩, .slice none 0 0, .int .i64 0, .int .i64 0], .iface 102 (.pointer (some ⟨f, 0, none⟩))]) ∧ Hid (w4.heap.size ≤ f ∧ IsFault w' f 0 5 (nameN 1) (-1)) ∧ Below w4.heap.size w4 w') := Lib.hid (fun w4 h4 => (look_any hD 1 h4 hg).mono (fun e w' h => by
    rcases h with ⟨-, ev, h1, h2, h3⟩ | ⟨h, -⟩
    · obtain ⟨f, rfl, h4, h5⟩ := derr_some h2 (by decide)
      exact ⟨f, h1, Lib.hid ⟨h4, h5⟩, h3⟩
    · rw [hd] at h; cases h))
  have hln := h.ln
  have hnew : (w.alloc (.cells zeroC 65)).heap[w.heap.size]? = some (.cells zeroC 65 (0, 0)) := heap_alloc_new w _
  have HNEW := Lib.hid hnew
  have HLN := Lib.hid hln
  have d0 := World.cell?_alloc_lt w (.cells zeroC 65) ⟨p, 0, none⟩ hpl
  have d2 := World.cell?_alloc_lt w (.cells zeroC 65) ⟨p, 2, none⟩ hpl
  rw [c0] at d0
  rw [c2] at d2
  clear h hD hg hd hln hb0 hnew c0 c2
  unfold zeroC at HF0 HNEW HB0 d0 d2
  go_enter Tryz.func24, Tryz.ntmps24
  go_wp2_with fail
  generalize hW : w.alloc (.cells #[.string ⟨#[]⟩, .slice none 0 0, .int .i64 0, .int .i64 0] 65) = W0 at *
  have hpl0 : p < W0.heap.size := World.block_lt_of_cell? _ _ d0
  refine wp_loop_rounds 1 ?_
  rw [rounds_succ]
  have HB1 : Hid (Below W0.heap.size W0 W0.drew) := Lib.hid ⟨rfl, rfl, rfl, Nat.le_refl _, fun _ _ => rfl⟩
  have HF1 := Lib.hid (HF0.out.below HD.out HB1.out)
  have HL1 := Lib.hid HF1.out.pld.ln
  have HL2 : Hid (Ln B R (W0.drew.alloc (.cells #[.string ⟨#[]⟩, .slice none 0 0, .int .i64 0, .int .i64 0] 65)) b F cut s) := Lib.hid (HL1.out.below HD.out ((Below.refl _ _).alloc (Nat.le_refl _) _)).1
  go_upto_region 1 with fail
  go_cut [4, 5] from 6 to 29 (fun v4 v5 wx => ∃ f : Nat, v5 = .iface 102 (.pointer (some ⟨f, 0, none⟩)) ∧ Hid (W0.heap.size ≤ f ∧ IsFault wx f 0 5 (nameN 1) (-1)) ∧ Hid (Below W0.heap.size W0 wx))
  case first =>
    go_region_with
      (go_at_call 65
       refine (HLK.out _ (by first | exact HL1.out | exact HL2.out)).mono ?_
       rintro e w3 ⟨f, rfl, HFA, hb⟩
       have HB3 := Lib.hid hb
       try have z0 : w3.cell? ⟨W0.heap.size, 0, none⟩ = some (.string ⟨#[]⟩) := by rw [hb.cell (by simp)]; simp
       try have z1 : w3.cell? ⟨W0.heap.size, 1, none⟩ = some (.slice none 0 0) := by rw [hb.cell (by simp)]; simp
       try have z2 : w3.cell? ⟨W0.heap.size, 2, none⟩ = some (.int .i64 0) := by rw [hb.cell (by simp)]; simp
       try have z3 : w3.cell? ⟨W0.heap.size, 3, none⟩ = some (.int .i64 0) := by rw [hb.cell (by simp)]; simp
       try have z4 : ∀ j, w3.frozen? ⟨W0.heap.size, j, none⟩ = false := by intro j; rw [World.frozen?_of_block (a := ⟨W0.heap.size, j, none⟩) (hb.block W0.heap.size (by simp))]; simp
       clear hb)
    all_goals (go_wp2_with fail)
    all_goals (go_meet)
    all_goals first
      | (case rel =>
          obtain ⟨f1, f2⟩ := dead_in HB3.out HFA.out (.string ⟨#[]⟩) (.slice none 0 0) (.int .i64 0) (.int .i64 0)
          exact ⟨f, rfl, Lib.hid f1, Lib.hid f2⟩)
      | (case rel =>
          obtain ⟨f1, f2⟩ := dead_out HB3.out HFA.out (.cells #[.string ⟨#[]⟩, .slice none 0 0, .int .i64 0, .int .i64 0] 65)
          exact ⟨f, rfl, Lib.hid f1, Lib.hid f2⟩)
  case rest =>
    obtain ⟨f, rfl, HFA, HBX⟩ := hcut
    have hwl : w.heap.size < W0.heap.size := (Array.getElem?_eq_some_iff.1 HNEW.out).1
    have hzero := (HBX.out.block w.heap.size hwl).trans HNEW.out
    have hinf := info_seg
    go_wp2_with (refine wpList_store_row rfl 65 _ _ rfl w.heap.size #[.string ⟨#[]⟩, .slice none 0 0, .int .i64 0, .int .i64 0] rfl rfl _ _ hzero hinf rfl (seg_one _ _ _ _ _ _) ?_)
    refine bodyPost_ret (results_cell_tmp rfl _ _ w.heap.size _ #[.string ⟨#[]⟩, .slice none 0 0, .int .i64 0, .int .i64 0] _ _ rfl (setRow_heap _ _ _ _ _ _ hzero) Tryz.underlying65 rfl hinf) rfl ?_
    have hbb := below_setRow (HB0.out.trans (HBX.out.mono (by omega))) (Nat.le_refl _) #[.string ⟨#[]⟩, .slice none 0 0, .int .i64 0, .int .i64 0]
    refine ⟨_, rfl, .inr ⟨by decide, f, rfl, by have := HFA.out.1; omega, ?_⟩, hbb⟩
    exact fault_block HFA.out.2 ((keeps_row wc w.heap.size _).block f HFA.out.2.lt (by have := HFA.out.1; omega))
end LogP
end Go.Proofs.YtlnbjlidakdmlaaGreatDoor
namespace Go.Proofs.YtlnbjlidakdmlaaGreatDoor
open Go.RowKit
set_option linter.unusedVariables false
namespace LogP
open LogM FrameM FrameC TextR DiskM DiskC LogC ErrC

theorem names_any (w : World) : Calls Tryz.prog 23 #[] w fun e w' => e = .returned (nextF w.heap.size) ∧ w' = w.alloc (.cells #[.int .i64 0] 3) := by
  unfold nextF
  go_enter Tryz.func23, Tryz.ntmps23
  go_wp2_with fail
  go_ret
  exact ⟨rfl, rfl⟩
def POpenE (R : World → Nat → (Nat → Prop) → Int → DS → Prop) (B b : Nat) (F : Nat → Prop) (cut : Int) (s : DS) (w : World) (e : Ending) (w' : World) : Prop :=
  ((openS cut s).1 = 0 ∧ ∃ p nb lv F', e = .returned (.tuple #[.pointer (some ⟨p, 0, none⟩), .nilIface]) ∧ PLD R w' B p nb b F' lv cut (logS s) false (openS cut s).2.2 ∧ Keeps F w w' ∧ (∀ i, FootP p nb lv i → w.heap.size ≤ i) ∧ ∀ i, F' i → F i ∨ w.heap.size ≤ i) ∨
  ((openS cut s).1 ≠ 0 ∧ ∃ ev F', e = .returned (.tuple #[.pointer none, ev]) ∧ DErr w w' ev (openS cut s).1 (openS cut s).2.1 ∧ R w' b F' cut (openS cut s).2.2 ∧ Keeps F w w' ∧ ∀ i, F' i → F i ∨ w.heap.size ≤ i)
/-- the log's cells, new -/
theorem new_pl {w w2 : World} {B nb b : Nat} (hnb : w.heap.size ≤ nb) (hB : B ≤ w.heap.size) (hs : w.heap.size ≤ w2.heap.size) (hc : w2.cell? ⟨nb, 0, none⟩ = some (.int .i64 ((1 : Nat) : Int))) (hf : w2.frozen? ⟨nb, 0, none⟩ = false) :
    IsPL (w2.alloc (.cells #[.pointer (some ⟨b, 0, none⟩), .slice none 0 0, .string (nameN 1), nextF nb, .bool false] 63)) B w2.heap.size nb b (.slice none 0 0) [] false := by
  have hlt : nb < w2.heap.size := World.block_lt_of_cell? _ _ hc
  have hn := heap_alloc_old w2 (.cells #[.pointer (some ⟨b, 0, none⟩), .slice none 0 0, .string (nameN 1), nextF nb, .bool false] 63) hlt
  refine ⟨?_, ?_, ?_, ?_, ?_, fun j => by simp, ?_, ?_, OwnT.nil _ _, ⟨by omega, by omega⟩, by omega, ⟨(fun h => by cases h), (fun h => by cases h)⟩⟩
  · rw [World.cell?_alloc_at _ _ _ _ rfl]; rfl
  · rw [World.cell?_alloc_at _ _ _ _ rfl]; rfl
  · rw [World.cell?_alloc_at _ _ _ _ rfl]; rfl
  · rw [World.cell?_alloc_at _ _ _ _ rfl]; rfl
  · rw [World.cell?_alloc_at _ _ _ _ rfl]; rfl
  · rw [World.cell?_of_block (a := ⟨nb, 0, none⟩) hn]; exact hc
  · rw [World.frozen?_of_block (a := ⟨nb, 0, none⟩) hn]; exact hf
set_option maxHeartbeats 8000000 in
set_option maxRecDepth 100000 in
theorem popen_any {R : World → Nat → (Nat → Prop) → Int → DS → Prop} {B : Nat} (hD : Dev B R) {w : World} {b : Nat} {F : Nat → Prop} {cut : Int} {s : DS} (h : Ln B R w b F cut s) (hv : VarsT w) (hg : DiskC.Good s.fs) (hmay : ∀ f ∈ s.fs, mayB f.1 = true) (hc : s.count ≤ 549755000000) :
    Calls Tryz.prog 6 #[.pointer (some ⟨b, 0, none⟩)] w (POpenE R B b F cut s w) := by
  have HD := Lib.hid hD
  have HG := Lib.hid hg
  have HM := Lib.hid hmay
  have HC := Lib.hid hc
  have HH := Lib.hid h
  have HV := Lib.hid hv
  have hB := h.hw
  have hg0 := h.g0
  have hg1 := h.g1
  have HFL : Hid (∀ i, F i → i < w.heap.size) := Lib.hid (fun i hi => hD.lt h.rep i hi)
  clear h hv hg hmay hc hD
  go_enter Tryz.func6, Tryz.ntmps6
  go_wp2_with fail
  refine (names_any w).mono ?_
  rintro e w1 ⟨rfl, rfl⟩
  obtain ⟨W1, hW1⟩ : ∃ W1, w.alloc (.cells #[.int .i64 0] 3) = W1 := ⟨_, rfl⟩
  have hb1 : Below w.heap.size w W1 := by rw [← hW1]; exact (Below.refl _ _).alloc (Nat.le_refl _) _
  have hs1 : W1.heap.size = w.heap.size + 1 := by rw [← hW1]; simp
  have hc1 : W1.cell? ⟨w.heap.size, 0, none⟩ = some (.int .i64 ((0 : Nat) : Int)) := by rw [← hW1, World.cell?_alloc_at _ _ _ _ rfl]; rfl
  have hf1 : ∀ j, W1.frozen? ⟨w.heap.size, j, none⟩ = false := fun j => by rw [← hW1]; simp
  have HNX := Lib.hid (next_any w.heap.size 0 W1 hc1 (hf1 0) (by decide) ⟨by omega, by omega⟩ (HV.out.below hb1))
  rw [hW1]
  unfold nextF
  clear hW1
  go_wp2_with fail
  refine HNX.out.mono ?_
  rintro e w2 ⟨rfl, hc2, hk2, hf2⟩
  have hs2 := hk2.size
  have hb2 : Below w.heap.size w w2 := hb1.trans (hk2.toBelow (fun i e => by omega) (by omega))
  have hb3 : Below w.heap.size w (w2.alloc (.cells #[.pointer (some ⟨b, 0, none⟩), .slice none 0 0, .string (nameN 1), nextF w.heap.size, .bool false] 63)) := hb2.alloc hb2.size _
  have HB3 := Lib.hid hb3
  have HPL : Hid (PLD R (w2.alloc (.cells #[.pointer (some ⟨b, 0, none⟩), .slice none 0 0, .string (nameN 1), nextF w.heap.size, .bool false] 63)) B w2.heap.size w.heap.size b F (.slice none 0 0) cut [] false s) := Lib.hid (by
    have hL := (HH.out.below HD.out hb3).1
    refine ⟨new_pl (Nat.le_refl _) hB (by omega) hc2 (hf2 0 (hf1 0)), hL.rep, fun i hi hF => ?_, HH.out.low, hL.hw, HV.out.below hb3, ⟨hg0, hg1⟩⟩
    have := HFL.out i hF
    rcases hi with e | e | e
    · omega
    · omega
    · cases e)
  have HNEWF : Hid (∀ i, FootP w2.heap.size w.heap.size (.slice none 0 0) i → w.heap.size ≤ i) := Lib.hid (fun i hi => by
    rcases hi with e | e | e
    · omega
    · omega
    · cases e)
  obtain ⟨p, hp⟩ : ∃ p, p = w2.heap.size := ⟨_, rfl⟩
  have hpw : w.heap.size ≤ p := by omega
  unfold nextF at HPL HB3
  clear hc1 hf1 HNX hc2 hk2 hf2 hb1 hb2 hb3
  rw [← hp] at HPL HNEWF
  obtain ⟨W3, hW3⟩ : ∃ W3, w2.alloc (.cells #[.pointer (some ⟨b, 0, none⟩), .slice none 0 0, .string (nameN 1), .func (.func 63) #[] #[.pointer (some ⟨w.heap.size, 0, none⟩)], .bool false] 63) = W3 := ⟨_, rfl⟩
  rw [hW3] at HPL HB3
  cases hd : s.dead with
  | true =>
    have HE : Hid (openS cut s = (5, nameN 1, s)) := Lib.hid (by unfold openS; rw [if_pos hd])
    have HFI := Lib.hid (fill_dead HD.out HPL.out HG.out hd)
    clear hd
    go_wp2_with fail
    rw [← hp]
    refine HFI.out.mono ?_
    rintro e w4 ⟨ev, rfl, he, hb⟩
    have HIS := Lib.hid (fun w5 (h5 : Below w4.heap.size w4 w5) => is_of (he.keeps (Keeps.of_below (S := fun _ => False) h5) (fun _ h => h.elim)) 1 (by decide))
    have HERR := Lib.hid he
    have HB4 := Lib.hid hb
    obtain ⟨f, rfl, -, -⟩ := derr_some he (by decide)
    clear he hb
    unfold zeroSeg
    have HB5 : Hid (Below w4.heap.size w4 (w4.alloc (.cells #[.string ⟨#[]⟩, .slice none 0 0, .int .i64 0, .int .i64 0] 65))) := Lib.hid ((Below.refl _ _).alloc (Nat.le_refl _) _)
    go_wp2_with fail
    refine (HIS.out _ HB5.out).mono ?_
    rintro e w6 ⟨rfl, hb6⟩
    have HB6 := Lib.hid hb6
    clear hb6
    go_wp2_with fail
    go_ret2
    have hb46 : Below w4.heap.size w4 w6 := HB5.out.trans (HB6.out.mono HB5.out.size)
    have hb06 : Below w.heap.size w w6 := (HB3.out.trans (HB4.out.mono HB3.out.size)).trans (hb46.mono (Nat.le_trans HB3.out.size HB4.out.size))
    refine .inr ⟨by rw [HE.out]; show (5 : Nat) ≠ 0; decide, _, F, rfl, ?_, ?_, Keeps.of_below hb06, fun i hi => .inl hi⟩
    · rw [HE.out]
      exact derr_from (HERR.out.keeps (Keeps.of_below (S := fun _ => False) hb46) (fun _ h => h.elim)) HB3.out.size
    · rw [HE.out]
      exact (HH.out.below HD.out hb06).1.rep
  | false =>
    have HFI := Lib.hid (fill_live HD.out HPL.out HG.out hd)
    have HCL := Lib.hid (fun (w4 : World) (a : Option Addr) (k cp : Nat) (h4 : Ln B R w4 b F cut s) => clean_any HD.out a k cp h4 HG.out HM.out HC.out hd)
    clear hd
    go_wp2_with fail
    rw [← hp]
    refine HFI.out.mono ?_
    rintro e w4 ⟨a, cp, lv, rfl, hP4, hk4, hf4⟩
    have HP4 := Lib.hid hP4
    have HK4 : Hid (Below w.heap.size w w4) := Lib.hid (HB3.out.trans (hk4.toBelow HNEWF.out HB3.out.size))
    have HF4 : Hid (∀ i, FootP p w.heap.size lv i → w.heap.size ≤ i) := Lib.hid (fun i hi => (hf4 i hi).elim (HNEWF.out i) (fun h => Nat.le_trans HB3.out.size h))
    clear hP4 hk4 hf4 HFI
    have HCL2 := Lib.hid (fun (w5 : World) h5 => HCL.out w5 a (partL s.fs (lastN s.fs)).length cp h5)
    unfold segV at HCL2
    unfold segV
    generalize (partL s.fs (lastN s.fs)).length = k at *
    generalize usedB (partL s.fs (lastN s.fs)) = u at *
    generalize (fileL s.fs (lastN s.fs)).length = z at *
    generalize nameN (lastN s.fs) = N at *
    have HB5 : Hid (Below w4.heap.size w4 (w4.alloc (.cells #[.string N, .slice a k cp, .int .i64 (u : Int), .int .i64 (z : Int)] 65))) := Lib.hid ((Below.refl _ _).alloc (Nat.le_refl _) _)
    have HP5 := Lib.hid (HP4.out.below HD.out HB5.out)
    have hnew := heap_alloc_new w4 (.cells #[.string N, .slice a k cp, .int .i64 (u : Int), .int .i64 (z : Int)] 65)
    have hinf := info_seg
    generalize hos : openS cut s = r at *
    have HOS := Lib.hid hos
    clear hos
    obtain ⟨c, t, s2⟩ := r
    go_wp2_with fail
    refine (is_none _ _ _).mono ?_
    rintro e w5 ⟨rfl, rfl⟩
    go_wp2_with (refine wpList_load_row rfl 65 _ rfl w4.heap.size rfl _ #[.string N, .slice a k cp, .int .i64 (u : Int), .int .i64 (z : Int)] _ _ hnew Tryz.underlying65 rfl hinf ?_)
    refine (HCL2.out _ HP5.out.ln).mono ?_
    rintro e w6 ⟨ev, F2, rfl, he, hr, hk, hf⟩
    have HP6 := Lib.hid (HP5.out.dev hr hk hf)
    have hb45 := HK4.out.trans (HB5.out.mono HK4.out.size)
    have HK6 : Hid (Keeps F w w6) := Lib.hid ((Keeps.of_below (S := F) hb45).then hk (fun i _ h => h))
    have HF6 : Hid (∀ i, F2 i → F i ∨ w.heap.size ≤ i) := Lib.hid (fun i hi => (hf i hi).imp id (fun h => Nat.le_trans hb45.size h))
    have HE : Hid (DErr w w6 ev c t) := Lib.hid (derr_from he hb45.size)
    dsimp only at *
    clear hr hk hf hb45
    by_cases hz : c = 0
    · subst hz
      obtain rfl := derr_nil he
      clear he
      go_wp2_with fail
      go_ret2
      unfold POpenE
      rw [HOS.out]
      exact .inl ⟨rfl, p, w.heap.size, lv, F2, by rw [hp]; rfl, HP6.out, HK6.out, HF4.out, HF6.out⟩
    · have HZ := Lib.hid hz
      obtain ⟨f, rfl, -, -⟩ := derr_some he hz
      clear he hz
      go_wp2_with fail
      go_ret2
      unfold POpenE
      rw [HOS.out]
      exact .inr ⟨HZ.out, _, F2, rfl, HE.out, HP6.out.rep, HK6.out, HF6.out⟩
end LogP
end Go.Proofs.YtlnbjlidakdmlaaGreatDoor
