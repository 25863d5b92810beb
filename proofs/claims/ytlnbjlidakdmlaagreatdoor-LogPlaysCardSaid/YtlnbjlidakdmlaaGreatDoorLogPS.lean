/-
  The law LogPlays' parts: file, files.
  The state of the law of both logs between two steps: no log at all over both disks, or both logs, alike; and what each of the law's calls makes of it.
  The same state with one block that it does not hold: what each of the law's calls leaves of that block.
-/
import Derived.Test.YtlnbjlidakdmlaaGreatDoorLogAlive
import Derived.Test.YtlnbjlidakdmlaaGreatDoorDiskDev
import Derived.Test.YtlnbjlidakdmlaaGreatDoorDiskRef7
import Derived.BigQuiet
import Derived.Test.YtlnbjlidakdmlaaGreatDoorLogTwo
import Derived.Test.YtlnbjlidakdmlaaGreatDoorLogStands
namespace Go.Proofs.YtlnbjlidakdmlaaGreatDoor
open Go.RowKit
set_option linter.unusedVariables false
namespace LogP
open LogM FrameM FrameC TextR DiskM DiskC LogC ErrC

theorem bits_low (n : Int) : ∃ m : Nat, m ≤ 65535 ∧ bits .and .i64 n 65535 = (m : Int) := by
  have hle : (BitVec.ofInt 64 n).toNat &&& 65535 ≤ 65535 := Nat.and_le_right
  refine ⟨(BitVec.ofInt 64 n).toNat &&& 65535, hle, ?_⟩
  have h2 : (BitVec.ofInt 64 65535).toNat = 65535 := by decide
  simp only [bits, BitVec.toNat_and]
  show IntKind.i64.wrap (((BitVec.ofInt 64 n).toNat &&& (BitVec.ofInt 64 65535).toNat : Nat) : Int) = _
  rw [h2]
  exact IntWalk.i64_in _ ⟨by omega, by omega⟩
theorem mod_seven (n : Int) : ∃ k : Nat, k < 7 ∧ (bits .and .i64 n 65535).tmod 7 = (k : Int) := by
  obtain ⟨m, -, h⟩ := bits_low n
  refine ⟨m % 7, Nat.mod_lt _ (by decide), ?_⟩
  rw [h]
  rfl
set_option maxRecDepth 100000 in
theorem file_any (n : Int) (w : World) : Calls Tryz.prog 14 #[.int .i64 n] w fun e w' => ∃ x, e = .returned (.string x) ∧ x.size ≤ 12 ∧ Below w.heap.size w w' := by
  obtain ⟨k, hk7, hk⟩ := mod_seven n
  have HB := Lib.hid (fun (o : Obj) => (Below.refl w.heap.size w).alloc (Nat.le_refl _) o)
  have hc : k = 0 ∨ k = 1 ∨ k = 2 ∨ k = 3 ∨ k = 4 ∨ k = 5 ∨ k = 6 := by omega
  clear hk7
  rcases hc with rfl | rfl | rfl | rfl | rfl | rfl | rfl
  all_goals
    go_enter Tryz.func14, Tryz.ntmps14
    go_wp2_with fail
    go_ret
    exact ⟨_, rfl, by decide, HB.out _⟩
theorem rp_form {B : Nat} {w : World} {b : Nat} {F : Nat → Prop} {cut : Int} {s : DS} (h : DiskP.RP B w b F cut s) : DiskP.May s.fs ∧ Sorted s.fs := by
  obtain ⟨⟨m, D, vals, hD⟩, hm⟩ := h
  exact ⟨hm, hD.files.sorted⟩
theorem read_told {s : DS} (hm : DiskP.May s.fs) (hs : Sorted s.fs) (i : Nat) (hi : i < (namesS s).length) : s.dead = false ∧ (readS (namesS s)[i] s).2 = 0 := by
  have hd : s.dead = false := by
    cases e : s.dead with
    | false => rfl
    | true => exfalso; unfold namesS at hi; rw [if_pos e] at hi; exact Nat.not_lt_zero _ hi
  have hn : namesS s = s.fs.map (·.1) := by unfold namesS; rw [if_neg (by rw [hd]; decide)]
  have hmem : (namesS s)[i] ∈ s.fs.map (·.1) := by rw [← hn]; exact List.getElem_mem hi
  obtain ⟨f, hf, e⟩ := List.mem_map.1 hmem
  refine ⟨hd, ?_⟩
  unfold readS
  rw [if_neg (by rw [← e, hm f hf]; decide), if_neg (by rw [hd]; decide), if_neg (by rw [(has_mem hs).2 ⟨f, hf, e⟩]; decide)]
/-- a row of texts at a block's head -/
def RowAt (w : World) (g : Nat) (L : List ByteArray) : Prop := ∀ i (hi : i < L.length), w.cell? ⟨g, i, none⟩ = some (.string L[i])
theorem RowAt.below {w w' : World} {g : Nat} {L : List ByteArray} (h : RowAt w g L) (hb : Below w.heap.size w w') : RowAt w' g L := fun i hi => by rw [hb.cell (World.block_lt_of_cell? _ _ (h i hi))]; exact h i hi
set_option maxRecDepth 100000 in
set_option maxHeartbeats 8000000 in
theorem bothFiles_any {B : Nat} {w : World} {b y : Nat} {F : Nat → Prop} {v : Value} {cut : Int} {s : DS} (h : Pair (DiskP.RP B) w b F y v cut s B) (hg : DiskC.Good s.fs) :
    Calls Tryz.prog 21 #[.pointer (some ⟨b, 0, none⟩), .pointer (some ⟨y, 0, none⟩)] w fun e w' => e = .returned (.bool true) ∧ Below w.heap.size w w' := by
  have HD := Lib.hid (DiskP.disk_dev B)
  have HG := Lib.hid hg
  have hlen : (namesS s).length ≤ 65536 := by unfold namesS; split; exact Nat.zero_le _; rw [List.length_map]; exact hg.1
  obtain ⟨hm, hs⟩ := rp_form h.rep
  have HT := Lib.hid (read_told hm hs)
  have HP := Lib.hid h
  clear h hg hm hs
  go_enter Tryz.func21, Tryz.ntmps21
  go_wp2_with fail
  refine (HD.out.names HP.out.rep HG.out HP.out.vars).mono ?_
  rintro e w1 ⟨u1, rfl, ho1, hb1⟩
  obtain ⟨a1, c1, rfl, hr1⟩ := ho1.open_
  have HP1 := Lib.hid (HP.out.below HD.out hb1)
  have HB1 := Lib.hid hb1
  clear ho1 hb1 HP
  go_wp2_with fail
  refine (dnames_any y v cut s w1 HP1.out.ref HG.out.1).mono ?_
  rintro e w2 ⟨u2, rfl, ho2, hb2⟩
  obtain ⟨a2, c2, rfl, hr2⟩ := ho2.open_
  have HP2 := Lib.hid (HP1.out.below HD.out hb2)
  have HB2 := Lib.hid (HB1.out.trans (hb2.mono HB1.out.size))
  have hrows : 0 < (namesS s).length → ∃ g1 g2, a1 = some ⟨g1, 0, none⟩ ∧ a2 = some ⟨g2, 0, none⟩ ∧ RowAt w2 g1 (namesS s) ∧ RowAt w2 g2 (namesS s) := by
    intro hl
    obtain ⟨g1, e1, -, -, k1⟩ := hr1 hl
    obtain ⟨g2, e2, -, -, k2⟩ := hr2 hl
    exact ⟨g1, g2, e1, e2, RowAt.below k1 hb2, k2⟩
  clear hr1 hr2 ho2 hb2 HP1 HB1
  generalize hL : namesS s = L at *
  by_cases h0 : L.length = 0
  · have HZ := Lib.hid h0
    clear hrows hL
    rw [h0]
    go_wp2_with fail
    refine wp_loop_rounds 1 ?_; rw [rounds_succ]; go_wp2_with fail
    go_ret
    exact ⟨rfl, HB2.out⟩
  · obtain ⟨g1, g2, rfl, rfl, k1, k2⟩ := hrows (by omega)
    have HK1 := Lib.hid k1
    have HK2 := Lib.hid k2
    clear hrows k1 k2 hL h0
    go_wp2_with fail
    go_loopw [7] (fun vi wr => ∃ i : Nat, vi = .int .i64 i ∧ i ≤ L.length ∧ Hid (Pair (DiskP.RP B) wr b F y v cut s B) ∧ Hid (Below w.heap.size w wr) ∧ Hid (RowAt wr g1 L) ∧ Hid (RowAt wr g2 L)) (fun vi _ => L.length + 1 - (intOf vi).toNat)
    case atStart => exact ⟨0, rfl, Nat.zero_le _, HP2, HB2, HK1, HK2⟩
    case round =>
      obtain ⟨i, rfl, hi, HPR, HBR, HR1, HR2⟩ := hrel
      rename World => wr
      clear HP2 HB2 HK1 HK2
      by_cases hlt : i < L.length
      · have hdec : decide (i < L.length) = true := by simpa using hlt
        have c1 := HR1.out i hlt
        have c2 := HR2.out i hlt
        have HZ := Lib.hid (HT.out i hlt).2
        have hnx : wrap64 ((i : Int) + 1) = ((i + 1 : Nat) : Int) := by unfold wrap64; omega
        have HIN := Lib.hid (show i + 1 ≤ L.length from hlt)
        have hme : L.length + 1 - (i + 1) < L.length + 1 - i := by omega
        have hwi : IntKind.i64.wrap (i : Int) = (i : Int) := IntWalk.i64_in _ ⟨by omega, by omega⟩
        have hbi1 : (i : Int) < (L.length : Int) := by omega
        generalize hnm : L[i] = nm at *
        clear hnm
        clear hi
        go_wp2_with fail
        refine (HD.out.read (w := wr) nm HPR.out.rep HG.out HPR.out.vars).mono ?_
        rintro e w3 ⟨ev, rfl, he, hb3⟩
        have HP3 := Lib.hid (HPR.out.below HD.out hb3)
        have HB3 := Lib.hid (HBR.out.trans (hb3.mono HBR.out.size))
        have HR13 := Lib.hid (HR1.out.below hb3)
        have HR23 := Lib.hid (HR2.out.below hb3)
        have d1 : w3.cell? ⟨g1, i, none⟩ = some (.string nm) := by rw [hb3.cell (World.block_lt_of_cell? _ _ c1)]; exact c1
        have d2 : w3.cell? ⟨g2, i, none⟩ = some (.string nm) := by rw [hb3.cell (World.block_lt_of_cell? _ _ c2)]; exact c2
        have hz : (((readS nm s).2 : Nat) : Int) = 0 := by rw [HZ.out]; rfl
        have hev : ev = .nilIface := by
          rcases he with ⟨-, e⟩ | ⟨h0, -⟩
          · exact e
          · exact absurd HZ.out h0
        subst hev
        clear he hb3 c1 c2 HPR HBR HR1 HR2
        go_wp2_with fail
        refine (dread_any y v cut nm s w3 HP3.out.ref).mono ?_
        rintro e w4 ⟨rfl, q, rfl⟩
        rw [hz]
        generalize (readS nm s).1 = tx
        clear hz HZ
        go_wp2_with fail
        go_quiet (fail)
        go_wp2_with fail
        go_roundw
        case measure => simp [intOf]; omega
        exact ⟨i + 1, rfl, HIN.out, Lib.hid (HP3.out.below HD.out ⟨rfl, rfl, rfl, Nat.le_refl _, fun _ _ => rfl⟩), Lib.hid (HB3.out.trans ⟨rfl, rfl, rfl, Nat.le_refl _, fun _ _ => rfl⟩), Lib.hid HR13.out, Lib.hid HR23.out⟩
      · have hdec : decide (i < L.length) = false := by simpa using hlt
        clear hlt hi
        go_wp2_with fail
        go_ret
        exact ⟨rfl, HBR.out⟩
end LogP
end Go.Proofs.YtlnbjlidakdmlaaGreatDoor
namespace Go.Proofs.YtlnbjlidakdmlaaGreatDoor
open Go.RowKit
set_option linter.unusedVariables false
namespace LogP
open LogM FrameM FrameC TextR DiskM DiskC LogC ErrC

/-- both disks, alike -/
def DS2 (B : Nat) (w : World) (b y : Nat) (cut : Int) (s : DS) : Prop := (∃ F v, Pair (DiskP.RP B) w b F y v cut s B) ∧ VarsT w
/-- no log on either side, or both, alike -/
def PS (B : Nat) (w : World) (b y : Nat) (av bv : Value) (cut : Int) (L : List (List UInt8)) (s : DS) : Prop :=
  (av = .pointer none ∧ bv = .pointer none ∧ DS2 B w b y cut s) ∨
  (∃ p nb q F v lv rv br, av = .pointer (some ⟨p, 0, none⟩) ∧ bv = .pointer (some ⟨q, 0, none⟩) ∧ TwoG B w b y p nb q F v lv rv cut L br s cut L br s)
section
variable {B : Nat} {w w' : World} {b y : Nat} {av bv : Value} {cut : Int} {L : List (List UInt8)} {s : DS}
theorem PS.two (h : PS B w b y av bv cut L s) : DS2 B w b y cut s := by
  rcases h with ⟨-, -, h⟩ | ⟨p, nb, q, F, v, lv, rv, br, -, -, h⟩
  · exact h
  · exact ⟨⟨_, _, h.pair⟩, h.pld.vars⟩
theorem DS2.below (h : DS2 B w b y cut s) (hb : Below w.heap.size w w') : DS2 B w' b y cut s := by
  obtain ⟨⟨F, v, hp⟩, hv⟩ := h
  exact ⟨⟨F, v, hp.below (DiskP.disk_dev B) hb⟩, hv.belowG (hb.mono hp.hw) hp.g0 hp.g1⟩
theorem PS.below (h : PS B w b y av bv cut L s) (hb : Below w.heap.size w w') : PS B w' b y av bv cut L s := by
  rcases h with ⟨h1, h2, h⟩ | ⟨p, nb, q, F, v, lv, rv, br, h1, h2, h⟩
  · exact .inl ⟨h1, h2, h.below hb⟩
  · exact .inr ⟨p, nb, q, F, v, lv, rv, br, h1, h2, h.below hb⟩
theorem DS2.hw (h : DS2 B w b y cut s) : B ≤ w.heap.size := by obtain ⟨⟨F, v, hp⟩, _⟩ := h; exact hp.hw
theorem DS2.vars (h : DS2 B w b y cut s) : VarsT w := h.2
theorem DS2.count (h : DS2 B w b y cut s) : w.cell? ⟨y, 2, none⟩ = some (.int .i64 s.count) := by obtain ⟨⟨F, v, hp⟩, _⟩ := h; exact hp.ref.count
/-- between the two Restarts -/
def MidR (B : Nat) (w : World) (b y : Nat) (cut n : Int) (s : DS) : Prop := (∃ F v, Half (DiskP.RP B) w b F y v n cut ⟨s.fs, 0, false⟩ s B) ∧ VarsT w
theorem c_restart1 (h : DS2 B w b y cut s) (n : Int) :
    Calls Tryz.prog 12 #[.pointer (some ⟨y, 0, none⟩), .int .i64 n] w fun e w' => e = .returned (.tuple #[]) ∧ MidR B w' b y cut n s ∧ Below B w w' := by
  obtain ⟨⟨F, v, hp⟩, hv⟩ := h
  refine (drestart_any y v cut n s w hp.ref).mono ?_
  rintro e w' ⟨rfl, hl⟩
  obtain ⟨h1, h2⟩ := hp.ref1 (s1 := ⟨s.fs, 0, false⟩) (DiskP.disk_dev B) hl
  exact ⟨rfl, ⟨⟨F, v, h1⟩, hv.belowG h2 hp.g0 hp.g1⟩, h2⟩
theorem c_restart2 {n : Int} (h : MidR B w b y cut n s) (hg : DiskC.Good s.fs) :
    Calls Tryz.prog 13 #[.pointer (some ⟨b, 0, none⟩), .int .i64 n] w fun e w' => e = .returned .nilIface ∧ DS2 B w' b y n ⟨s.fs, 0, false⟩ ∧ Below B w w' := by
  obtain ⟨⟨F, v, hp⟩, hv⟩ := h
  refine ((DiskP.disk_dev B).restart n hp.rep hg hp.vars).mono ?_
  rintro e w' ⟨⟨ev, F', rfl, he, hr, hk, hf⟩, -⟩
  obtain rfl := derr_nil he
  obtain ⟨h1, h2⟩ := hp.dev hr hk hf
  exact ⟨rfl, ⟨⟨F', v, h1⟩, hv.belowG h2 hp.g0 hp.g1⟩, h2⟩
/-- between the two Opens -/
def MidO (B : Nat) (w0 w : World) (b y : Nat) (av : Value) (cut : Int) (s : DS) : Prop :=
  ((openS cut s).1 = 0 ∧ ∃ p nb lv F v, av = .pointer (some ⟨p, 0, none⟩) ∧ OneG B w b y p nb F v lv cut (logS s) (openS cut s).2.2 s ∧ ∀ i, Foot y v i → i < w0.heap.size) ∨
  ((openS cut s).1 ≠ 0 ∧ av = .pointer none ∧ (∃ F v, Half (DiskP.RP B) w b F y v cut cut s (openS cut s).2.2 B ∧ ∀ i, Foot y v i → i < w0.heap.size) ∧ VarsT w)
theorem c_open1 (h : DS2 B w b y cut s) (hg : DiskC.Good s.fs) (hc : s.count ≤ 549755000000) :
    Calls Tryz.prog 6 #[.pointer (some ⟨b, 0, none⟩)] w fun e w' => ∃ av ev, e = .returned (.tuple #[av, ev]) ∧ DErr w w' ev (openS cut s).1 (openS cut s).2.1 ∧ MidO B w w' b y av cut s ∧ Below B w w' := by
  obtain ⟨⟨F, v, hp⟩, hv⟩ := h
  refine (popen_any (DiskP.disk_dev B) ⟨hp.rep, hp.low, hp.hw, hp.vars, hp.g0, hp.g1⟩ hv hg (rp_form hp.rep).1 hc).mono ?_
  unfold POpenE
  rintro e w' (⟨h0, p, nb, lv, F', rfl, hpl, hk, hn, hf⟩ | ⟨h0, ev, F', rfl, he, hr, hk, hf⟩)
  · refine ⟨_, _, rfl, ?_, .inl ⟨h0, p, nb, lv, F', v, rfl, one_open hp hpl hk hn hf, fun i hi => foot_in hp.ref i hi⟩, hk.toBelow hp.low hp.hw⟩
    exact .inl ⟨h0, rfl⟩
  · obtain ⟨h1, h2⟩ := hp.dev hr hk hf
    exact ⟨_, _, rfl, he, .inr ⟨h0, rfl, ⟨F', v, h1, fun i hi => foot_in hp.ref i hi⟩, hv.belowG h2 hp.g0 hp.g1⟩, h2⟩
theorem c_open2 {w0 : World} {ev : Value} {c : Nat} {tx : ByteArray} (h : MidO B w0 w b y av cut s) (he : DErr w0 w ev c tx) (hg : DiskC.Good s.fs) (hso : Sorted s.fs) (hc : s.count ≤ 549755000000) :
    Calls Tryz.prog 7 #[.pointer (some ⟨y, 0, none⟩)] w fun e w' => ∃ bv t2, e = .returned (.tuple #[bv, .int .i64 (openS cut s).1, .string t2]) ∧ ((openS cut s).1 ≠ 0 → t2 = (openS cut s).2.1) ∧
      PS B w' b y av bv cut (logS s) (openS cut s).2.2 ∧ DErr w0 w' ev c tx ∧ Below B w w' := by
  rcases h with ⟨h0, p, nb, lv, F, v, rfl, ho, hfoot⟩ | ⟨h0, rfl, ⟨F, v, hh, hfoot⟩, hv⟩
  · refine (ropen_any ho.ref hg hso hc).mono ?_
    unfold OpenRE
    rintro e w' ⟨v', hl, ⟨_, q, rv, rfl, hq, hi, hr, hpy⟩ | ⟨h1, _⟩⟩
    · refine ⟨_, _, by rw [h0]; rfl, fun h => absurd h0 h, .inr ⟨p, nb, q, F, v', lv, rv, false, rfl, rfl, two_open ho hl hq hi hr hpy⟩, he.keeps hl.keeps hfoot, hl.keeps.toBelow ho.low ho.pld.hw⟩
    · exact absurd h0 h1
  · refine (ropen_any hh.ref hg hso hc).mono ?_
    unfold OpenRE
    rintro e w' ⟨v', hl, ⟨h1, _⟩ | ⟨_, rfl⟩⟩
    · exact absurd h1 h0
    · obtain ⟨h1, h2⟩ := hh.ref_ (DiskP.disk_dev B) hl
      exact ⟨_, _, rfl, fun _ => rfl, .inl ⟨rfl, rfl, ⟨F, v', h1⟩, hv.belowG h2 hh.g0 hh.g1⟩, he.keeps hl.keeps hfoot, h2⟩
/-- somebody else's call on both disks: behind the first -/
def MidA (B : Nat) (w : World) (b y : Nat) (av bv : Value) (cut : Int) (L : List (List UInt8)) (s s1 : DS) : Prop :=
  (av = .pointer none ∧ bv = .pointer none ∧ (∃ F v, Half (DiskP.RP B) w b F y v cut cut s s1 B) ∧ VarsT w) ∨
  (∃ p nb q F v lv rv br, av = .pointer (some ⟨p, 0, none⟩) ∧ bv = .pointer (some ⟨q, 0, none⟩) ∧ TwoG B w b y p nb q F v lv rv cut L br s1 cut L br s)
theorem PS.any (h : PS B w b y av bv cut L s) : ∃ F, DiskP.RP B w b F cut s := by
  obtain ⟨⟨F, v, hp⟩, _⟩ := h.two
  exact ⟨F, hp.rep⟩
/-- the disks' Append, both -/
theorem c_append1 (h : PS B w b y av bv cut L s) (hg : DiskC.Good s.fs) (hc : s.count ≤ 549755813888) (nm x : ByteArray) :
    Calls Tryz.prog 15 #[.pointer (some ⟨b, 0, none⟩), .string nm, .string x] w fun e w' => (∃ ev, e = .returned ev) ∧ MidA B w' b y av bv cut L s (appendS cut nm x s).2 ∧ Below B w w' := by
  rcases h with ⟨h1, h2, ⟨⟨F, v, hp⟩, hv⟩⟩ | ⟨p, nb, q, F, v, lv, rv, br, h1, h2, h⟩
  · refine ((DiskP.disk_dev B).append nm x hp.rep hg hc hp.vars).mono ?_
    rintro e w' ⟨ev, F', rfl, _, hr, hk, hf⟩
    obtain ⟨h3, h4⟩ := hp.dev hr hk hf
    exact ⟨⟨_, rfl⟩, .inl ⟨h1, h2, ⟨F', v, h3⟩, hv.belowG h4 hp.g0 hp.g1⟩, h4⟩
  · refine ((DiskP.disk_dev B).append nm x h.pld.rep hg hc h.pld.vars.vars).mono ?_
    rintro e w' ⟨ev, F', rfl, _, hr, hk, hf⟩
    exact ⟨⟨_, rfl⟩, .inr ⟨p, nb, q, F', v, lv, rv, br, h1, h2, h.dev1 hr hk hf⟩, hk.toBelow h.pld.low h.pld.hw⟩
theorem c_put1 (h : PS B w b y av bv cut L s) (hg : DiskC.Good s.fs) (hc : s.count ≤ 549755813888) (nm x : ByteArray) :
    Calls Tryz.prog 17 #[.pointer (some ⟨b, 0, none⟩), .string nm, .string x] w fun e w' => (∃ ev, e = .returned ev) ∧ MidA B w' b y av bv cut L s (putS cut nm x s).2 ∧ Below B w w' := by
  rcases h with ⟨h1, h2, ⟨⟨F, v, hp⟩, hv⟩⟩ | ⟨p, nb, q, F, v, lv, rv, br, h1, h2, h⟩
  · refine ((DiskP.disk_dev B).put nm x hp.rep hg hc hp.vars).mono ?_
    rintro e w' ⟨ev, F', rfl, _, hr, hk, hf⟩
    obtain ⟨h3, h4⟩ := hp.dev hr hk hf
    exact ⟨⟨_, rfl⟩, .inl ⟨h1, h2, ⟨F', v, h3⟩, hv.belowG h4 hp.g0 hp.g1⟩, h4⟩
  · refine ((DiskP.disk_dev B).put nm x h.pld.rep hg hc h.pld.vars.vars).mono ?_
    rintro e w' ⟨ev, F', rfl, _, hr, hk, hf⟩
    exact ⟨⟨_, rfl⟩, .inr ⟨p, nb, q, F', v, lv, rv, br, h1, h2, h.dev1 hr hk hf⟩, hk.toBelow h.pld.low h.pld.hw⟩
theorem c_append2 {nm x : ByteArray} (h : MidA B w b y av bv cut L s (appendS cut nm x s).2) (hf : Fit s) (hx : x.size ≤ 4000) :
    Calls Tryz.prog 16 #[.pointer (some ⟨y, 0, none⟩), .string nm, .string x] w fun e w' => (∃ ev, e = .returned ev) ∧ PS B w' b y av bv cut L (appendS cut nm x s).2 ∧ Below B w w' := by
  rcases h with ⟨h1, h2, ⟨F, v, hh⟩, hv⟩ | ⟨p, nb, q, F, v, lv, rv, br, h1, h2, h⟩
  · refine (dappend_any y v cut nm x s w hh.ref hf (by omega)).mono ?_
    rintro e w' ⟨rfl, v', hl⟩
    obtain ⟨h3, h4⟩ := hh.ref_ (DiskP.disk_dev B) hl
    exact ⟨⟨_, rfl⟩, .inl ⟨h1, h2, ⟨F, v', h3⟩, hv.belowG h4 hh.g0 hh.g1⟩, h4⟩
  · refine (dappend_any y v cut nm x s w h.ref.dsk hf (by omega)).mono ?_
    rintro e w' ⟨rfl, v', hl⟩
    exact ⟨⟨_, rfl⟩, .inr ⟨p, nb, q, F, v', lv, rv, br, h1, h2, h.laid2 hl⟩, hl.keeps.toBelow (fun i hi => h.low i (.inr (.inr hi))) h.pld.hw⟩
theorem c_put2 {nm x : ByteArray} (h : MidA B w b y av bv cut L s (putS cut nm x s).2) (hf : Fit s) :
    Calls Tryz.prog 18 #[.pointer (some ⟨y, 0, none⟩), .string nm, .string x] w fun e w' => (∃ ev, e = .returned ev) ∧ PS B w' b y av bv cut L (putS cut nm x s).2 ∧ Below B w w' := by
  rcases h with ⟨h1, h2, ⟨F, v, hh⟩, hv⟩ | ⟨p, nb, q, F, v, lv, rv, br, h1, h2, h⟩
  · refine (dput_any y v cut nm x s w hh.ref hf).mono ?_
    rintro e w' ⟨rfl, v', hl⟩
    obtain ⟨h3, h4⟩ := hh.ref_ (DiskP.disk_dev B) hl
    exact ⟨⟨_, rfl⟩, .inl ⟨h1, h2, ⟨F, v', h3⟩, hv.belowG h4 hh.g0 hh.g1⟩, h4⟩
  · refine (dput_any y v cut nm x s w h.ref.dsk hf).mono ?_
    rintro e w' ⟨rfl, v', hl⟩
    exact ⟨⟨_, rfl⟩, .inr ⟨p, nb, q, F, v', lv, rv, br, h1, h2, h.laid2 hl⟩, hl.keeps.toBelow (fun i hi => h.low i (.inr (.inr hi))) h.pld.hw⟩
/-- both stand -/
theorem c_stands (h : PS B w b y av bv cut L s) (hL : L.length ≤ 10000000) :
    Calls Tryz.prog 19 #[av, bv] w fun e w' => e = .returned (.bool true) ∧ PS B w' b y av bv cut L s ∧ Below w.heap.size w w' := by
  rcases h with ⟨rfl, rfl, h⟩ | ⟨p, nb, q, F, v, lv, rv, br, rfl, rfl, h⟩
  · refine (stands_nil w).mono ?_
    rintro e w' ⟨rfl, hb⟩
    exact ⟨rfl, .inl ⟨rfl, rfl, h.below hb⟩, hb⟩
  · refine (stands_any h hL).mono ?_
    rintro e w' ⟨rfl, hb⟩
    exact ⟨rfl, .inr ⟨p, nb, q, F, v, lv, rv, br, rfl, rfl, h.below hb⟩, hb⟩
theorem c_writes (h : PS B w b y av bv cut L s) (hg : DiskC.Good s.fs) :
    Calls Tryz.prog 20 #[.pointer (some ⟨b, 0, none⟩)] w fun e w' => e = .returned (.int .i64 s.count) ∧ PS B w' b y av bv cut L s ∧ Below w.heap.size w w' := by
  obtain ⟨⟨F, v, hp⟩, hv⟩ := h.two
  refine ((DiskP.disk_dev B).writes hp.rep hg hp.vars).mono ?_
  rintro e w' ⟨rfl, hb⟩
  exact ⟨rfl, h.below hb, hb⟩
theorem c_files (h : PS B w b y av bv cut L s) (hg : DiskC.Good s.fs) :
    Calls Tryz.prog 21 #[.pointer (some ⟨b, 0, none⟩), .pointer (some ⟨y, 0, none⟩)] w fun e w' => e = .returned (.bool true) ∧ PS B w' b y av bv cut L s ∧ Below w.heap.size w w' := by
  obtain ⟨⟨F, v, hp⟩, hv⟩ := h.two
  refine (bothFiles_any hp hg).mono ?_
  rintro e w' ⟨rfl, hb⟩
  exact ⟨rfl, h.below hb, hb⟩
end
end LogP
end Go.Proofs.YtlnbjlidakdmlaaGreatDoor
namespace Go.Proofs.YtlnbjlidakdmlaaGreatDoor
open Go.RowKit
set_option linter.unusedVariables false
namespace LogP
open LogM FrameM FrameC TextR DiskM DiskC LogC ErrC

/-- the state, and a block that is none of its own -/
def PSx (st : Nat) (B : Nat) (w : World) (b y : Nat) (av bv : Value) (cut : Int) (L : List (List UInt8)) (s : DS) : Prop :=
  (av = .pointer none ∧ bv = .pointer none ∧ (∃ F v, Pair (DiskP.RP B) w b F y v cut s B ∧ ¬ F st ∧ ¬ Foot y v st) ∧ VarsT w) ∨
  (∃ p nb q F v lv rv br, av = .pointer (some ⟨p, 0, none⟩) ∧ bv = .pointer (some ⟨q, 0, none⟩) ∧ TwoG B w b y p nb q F v lv rv cut L br s cut L br s ∧ ¬ FootD p nb lv F st ∧ ¬ FootL q y rv v st)
section
variable {st : Nat} {B : Nat} {w w' : World} {b y : Nat} {av bv : Value} {cut : Int} {L : List (List UInt8)} {s : DS}
theorem PSx.ps (h : PSx st B w b y av bv cut L s) : PS B w b y av bv cut L s := by
  rcases h with ⟨h1, h2, ⟨F, v, hp, _⟩, hv⟩ | ⟨p, nb, q, F, v, lv, rv, br, h1, h2, h, _⟩
  · exact .inl ⟨h1, h2, ⟨F, v, hp⟩, hv⟩
  · exact .inr ⟨p, nb, q, F, v, lv, rv, br, h1, h2, h⟩
theorem PS.guard (h : PS B w b y av bv cut L s) (ob : Obj) : PSx w.heap.size B (w.alloc ob) b y av bv cut L s := by
  have hb : Below w.heap.size w (w.alloc ob) := (Below.refl _ _).alloc (Nat.le_refl _) _
  rcases h with ⟨h1, h2, ⟨⟨F, v, hp⟩, hv⟩⟩ | ⟨p, nb, q, F, v, lv, rv, br, h1, h2, h⟩
  · refine .inl ⟨h1, h2, ⟨F, v, hp.below (DiskP.disk_dev B) hb, fun hf => ?_, fun hf => ?_⟩, hv.belowG (hb.mono hp.hw) hp.g0 hp.g1⟩
    · have := (DiskP.disk_dev B).lt hp.rep _ hf; omega
    · have := foot_in hp.ref _ hf; omega
  · refine .inr ⟨p, nb, q, F, v, lv, rv, br, h1, h2, h.below hb, fun hf => ?_, fun hf => ?_⟩
    · have := footD_lt h.pld _ hf; omega
    · have := logd_lt h.ref _ hf; omega
theorem PSx.below (h : PSx st B w b y av bv cut L s) (hb : Below w.heap.size w w') : PSx st B w' b y av bv cut L s := by
  rcases h with ⟨h1, h2, ⟨F, v, hp, e1, e2⟩, hv⟩ | ⟨p, nb, q, F, v, lv, rv, br, h1, h2, h, e1, e2⟩
  · exact .inl ⟨h1, h2, ⟨F, v, hp.below (DiskP.disk_dev B) hb, e1, e2⟩, hv.belowG (hb.mono hp.hw) hp.g0 hp.g1⟩
  · exact .inr ⟨p, nb, q, F, v, lv, rv, br, h1, h2, h.below hb, e1, e2⟩
theorem x_restart1 (h : PSx st B w b y av bv cut L s) (hst : st < w.heap.size) (n : Int) :
    Calls Tryz.prog 12 #[.pointer (some ⟨y, 0, none⟩), .int .i64 n] w fun e w' => e = .returned (.tuple #[]) ∧ MidR B w' b y cut n s ∧ w'.heap[st]? = w.heap[st]? ∧ Below B w w' := by
  have hx : ∃ F v, Pair (DiskP.RP B) w b F y v cut s B ∧ ¬ Foot y v st ∧ VarsT w := by
    rcases h with ⟨h1, h2, ⟨F, v, hp, _, e2⟩, hv⟩ | ⟨p, nb, q, F, v, lv, rv, br, h1, h2, h, _, e2⟩
    · exact ⟨F, v, hp, e2, hv⟩
    · exact ⟨F, v, h.pair, fun hf => e2 (.inr (.inr hf)), h.pld.vars⟩
  obtain ⟨F, v, hp, e2, hv⟩ := hx
  refine (drestart_any y v cut n s w hp.ref).mono ?_
  rintro e w' ⟨rfl, hl⟩
  obtain ⟨h1, h2⟩ := hp.ref1 (s1 := ⟨s.fs, 0, false⟩) (DiskP.disk_dev B) hl
  exact ⟨rfl, ⟨⟨F, v, h1⟩, hv.belowG h2 hp.g0 hp.g1⟩, hl.keeps.block st hst e2, h2⟩
theorem x_append1 (h : PSx st B w b y av bv cut L s) (hst : st < w.heap.size) (hg : DiskC.Good s.fs) (hc : s.count ≤ 549755813888) (nm x : ByteArray) :
    Calls Tryz.prog 15 #[.pointer (some ⟨b, 0, none⟩), .string nm, .string x] w fun e w' => (∃ ev, e = .returned ev) ∧ MidA B w' b y av bv cut L s (appendS cut nm x s).2 ∧ w'.heap[st]? = w.heap[st]? ∧ Below B w w' := by
  rcases h with ⟨h1, h2, ⟨F, v, hp, e1, _⟩, hv⟩ | ⟨p, nb, q, F, v, lv, rv, br, h1, h2, h, e1, _⟩
  · refine ((DiskP.disk_dev B).append nm x hp.rep hg hc hp.vars).mono ?_
    rintro e w' ⟨ev, F', rfl, _, hr, hk, hf⟩
    obtain ⟨h3, h4⟩ := hp.dev hr hk hf
    exact ⟨⟨_, rfl⟩, .inl ⟨h1, h2, ⟨F', v, h3⟩, hv.belowG h4 hp.g0 hp.g1⟩, hk.block st hst e1, h4⟩
  · refine ((DiskP.disk_dev B).append nm x h.pld.rep hg hc h.pld.vars.vars).mono ?_
    rintro e w' ⟨ev, F', rfl, _, hr, hk, hf⟩
    exact ⟨⟨_, rfl⟩, .inr ⟨p, nb, q, F', v, lv, rv, br, h1, h2, h.dev1 hr hk hf⟩, hk.block st hst (fun hf => e1 (.inr hf)), hk.toBelow h.pld.low h.pld.hw⟩
theorem x_put1 (h : PSx st B w b y av bv cut L s) (hst : st < w.heap.size) (hg : DiskC.Good s.fs) (hc : s.count ≤ 549755813888) (nm x : ByteArray) :
    Calls Tryz.prog 17 #[.pointer (some ⟨b, 0, none⟩), .string nm, .string x] w fun e w' => (∃ ev, e = .returned ev) ∧ MidA B w' b y av bv cut L s (putS cut nm x s).2 ∧ w'.heap[st]? = w.heap[st]? ∧ Below B w w' := by
  rcases h with ⟨h1, h2, ⟨F, v, hp, e1, _⟩, hv⟩ | ⟨p, nb, q, F, v, lv, rv, br, h1, h2, h, e1, _⟩
  · refine ((DiskP.disk_dev B).put nm x hp.rep hg hc hp.vars).mono ?_
    rintro e w' ⟨ev, F', rfl, _, hr, hk, hf⟩
    obtain ⟨h3, h4⟩ := hp.dev hr hk hf
    exact ⟨⟨_, rfl⟩, .inl ⟨h1, h2, ⟨F', v, h3⟩, hv.belowG h4 hp.g0 hp.g1⟩, hk.block st hst e1, h4⟩
  · refine ((DiskP.disk_dev B).put nm x h.pld.rep hg hc h.pld.vars.vars).mono ?_
    rintro e w' ⟨ev, F', rfl, _, hr, hk, hf⟩
    exact ⟨⟨_, rfl⟩, .inr ⟨p, nb, q, F', v, lv, rv, br, h1, h2, h.dev1 hr hk hf⟩, hk.block st hst (fun hf => e1 (.inr hf)), hk.toBelow h.pld.low h.pld.hw⟩
/-- between the two logs' Appends -/
def MidL (st : Nat) (B : Nat) (w0 w : World) (b y p q : Nat) (cut : Int) (L : List (List UInt8)) (s : DS) (pl : List UInt8) : Prop :=
  ∃ nb F v lv rv br, TwoG B w b y p nb q F v lv rv cut (appendL cut pl L br s).2.2.1 (appendL cut pl L br s).2.2.2.1 (appendL cut pl L br s).2.2.2.2 cut L br s ∧ ¬ FootD p nb lv F st ∧ ¬ FootL q y rv v st ∧ (∀ i, FootL q y rv v i → i < w0.heap.size)
theorem x_la1 {p q : Nat} (pl : List UInt8) (h : PSx st B w b y (.pointer (some ⟨p, 0, none⟩)) (.pointer (some ⟨q, 0, none⟩)) cut L s) (hst : st < w.heap.size) (hg : DiskC.Good s.fs) (hc : s.count ≤ 549755813888) (hl : L.length ≤ 10000000) (hp : pl.length ≤ 140737488351232) :
    Calls Tryz.prog 9 #[.pointer (some ⟨p, 0, none⟩), .string (str pl)] w fun e w' => ∃ ev br, e = .returned ev ∧ DErr w w' ev (appendL cut pl L br s).1 (appendL cut pl L br s).2.1 ∧
      (∃ nb F v lv rv, TwoG B w' b y p nb q F v lv rv cut (appendL cut pl L br s).2.2.1 (appendL cut pl L br s).2.2.2.1 (appendL cut pl L br s).2.2.2.2 cut L br s ∧ ¬ FootD p nb lv F st ∧ ¬ FootL q y rv v st ∧ (∀ i, FootL q y rv v i → i < w.heap.size)) ∧ w'.heap[st]? = w.heap[st]? ∧ Below B w w' := by
  rcases h with ⟨h1, _⟩ | ⟨p', nb, q', F, v, lv, rv, br, h1, h2, h, e1, e2⟩
  · cases h1
  · cases h1
    cases h2
    refine (pappend_any (DiskP.disk_dev B) pl h.pld hg hc hl hp).mono ?_
    unfold PAppE
    generalize hr : appendL cut pl L br s = r
    rintro e w' ⟨ev, lv', F', rfl, he, hp, hk, hf⟩
    refine ⟨ev, br, rfl, by rw [hr]; exact he, ⟨nb, F', v, lv', rv, by rw [hr]; exact h.prog hp hk hf, fun h3 => ?_, e2, fun i hi => logd_lt h.ref i hi⟩, hk.block st hst e1, h.to1 hk⟩
    rcases hf st h3 with h4 | h4
    · exact e1 h4
    · omega
theorem x_la2 {p q : Nat} {w0 : World} {pl : List UInt8} {br : Bool} {ev : Value} {c : Nat} {tx : ByteArray} (h : ∃ nb F v lv rv, TwoG B w b y p nb q F v lv rv cut (appendL cut pl L br s).2.2.1 (appendL cut pl L br s).2.2.2.1 (appendL cut pl L br s).2.2.2.2 cut L br s ∧ ¬ FootD p nb lv F st ∧ ¬ FootL q y rv v st ∧ (∀ i, FootL q y rv v i → i < w0.heap.size))
    (he : DErr w0 w ev c tx) (hst : st < w.heap.size) (hf : Fit s) (hl : L.length ≤ 10000000) (hp : pl.length ≤ 140737488351232) :
    Calls Tryz.prog 10 #[.pointer (some ⟨q, 0, none⟩), .string (str pl)] w fun e w' => e = .returned (.tuple #[.int .i64 ((appendL cut pl L br s).1 : Int), .string (appendL cut pl L br s).2.1]) ∧
      PSx st B w' b y (.pointer (some ⟨p, 0, none⟩)) (.pointer (some ⟨q, 0, none⟩)) cut (appendL cut pl L br s).2.2.1 (appendL cut pl L br s).2.2.2.2 ∧
      (∃ lv nb, IsPL w' B p nb b lv (appendL cut pl L br s).2.2.1 (appendL cut pl L br s).2.2.2.1) ∧ w'.cell? ⟨q, 2, none⟩ = some (.bool (appendL cut pl L br s).2.2.2.1) ∧
      DErr w0 w' ev c tx ∧ w'.heap[st]? = w.heap[st]? ∧ Below B w w' := by
  obtain ⟨nb, F, v, lv, rv, ht, e1, e2, hlt⟩ := h
  refine (rappend_any pl ht.ref hf (by omega) hp).mono ?_
  unfold AppE
  generalize hr : appendL cut pl L br s = r at *
  rintro e w' ⟨rfl, rv', v', hr2, hk, hf2⟩
  have hT := ht.refd hr2 hk hf2
  refine ⟨rfl, .inr ⟨p, nb, q, F, v', lv, rv', _, rfl, rfl, hT, e1, fun h3 => ?_⟩, ⟨lv, nb, hT.pld.pl⟩, hT.ref.log.broken, he.keeps hk hlt, hk.block st hst e2, ht.to2 hk⟩
  rcases hf2 st h3 with h4 | h4
  · exact e2 h4
  · omega
end
end LogP
end Go.Proofs.YtlnbjlidakdmlaaGreatDoor
