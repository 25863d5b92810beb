/-
  The statements' own 'after': what a file has behind a call that was cut.
-/
import Derived.Test.YticonagffdaacaaDoorDiskAlive
import Derived.Test.YticonagffdaacaaDoorDiskPre
namespace Go.Proofs.YticonagffdaacaaDoor
open Go.RowKit
namespace DiskP
open DiskM DiskC ErrC

theorem read_f {fs : FL} {c : Nat} (h : hasF nF fs = true) : readS nF ⟨fs, c, false⟩ = (bytesF nF fs, 0) := by
  unfold readS
  rw [if_neg (by decide), if_neg (show ¬ ((⟨fs, c, false⟩ : DS).dead = true) from fun e => by cases e), if_neg (show ¬ (hasF nF (⟨fs, c, false⟩ : DS).fs = false) by rw [h]; decide)]
/-- the call of which it is asked -/
def mainS (put : Bool) (k : Int) (text : ByteArray) (fs : FL) : DS := if put then (putS k nF text ⟨fs, 0, false⟩).2 else (appendS k nF text ⟨fs, 0, false⟩).2
def AfterE (w : World) (x : ByteArray) (e : Ending) (w' : World) : Prop := e = .returned (.string x) ∧ Below w.heap.size w w'
set_option maxRecDepth 100000 in
set_option maxHeartbeats 4000000 in
theorem after_any (before text : ByteArray) (put : Bool) (k : Int) (hk : k = -1 ∨ 0 ≤ k) (hsz : before.size + text.size ≤ 4000) (w : World) (hv : Vars w) :
    Calls Tryd.prog 6 #[.string before, .string text, .bool put, .int .i64 k] w (AfterE w (aftS before text put k)) := by
  have HD := Lib.hid (disk_dev w.heap.size)
  obtain ⟨fs, c, e1, h1, h2, h3⟩ := pre_put before (by omega)
  obtain ⟨m1, m2, m3⟩ := pre_step before text put k hk hsz fs h1 h2 h3
  have HP := Lib.hid e1
  have HG := Lib.hid h3
  have hm2 : bytesF nF (mainS put k text fs).fs = aftS before text put k := m2
  have M1 : Hid (hasF nF (mainS put k text fs).fs = true) := Lib.hid m1
  have M3 : Hid (DiskC.Good (mainS put k text fs).fs) := Lib.hid m3
  rw [← hm2]
  have HV := Lib.hid hv
  clear hv m1 m2 m3 hm2 e1 h1 h2 h3 hk hsz
  go_enter Tryd.func6, Tryd.ntmps6
  go_wp2_with fail
  refine (HD.out.new (-1) (Nat.le_refl _)).mono ?_
  rintro e w1 ⟨b, F, rfl, hr, hb, hF⟩
  have HL := Lib.hid (show Ln w.heap.size (RP w.heap.size) w1 b F (-1) ⟨[], 0, false⟩ from ⟨hr, hF, hb.size, HV.out.below hb, DiskC.Vars.g0 HV.out, DiskC.Vars.g1 HV.out⟩)
  have HB := Lib.hid hb
  clear hr hb hF
  go_wp2_with fail
  refine (HD.out.put nF before HL.out.rep empty_good (Nat.zero_le _) HL.out.vars).mono ?_
  rw [HP.out]
  rintro e w2 ⟨ev, F2, rfl, he, hr, hk, hf⟩
  obtain rfl := nil_ev rfl he
  obtain ⟨hl, hb⟩ := HL.out.dev hr hk hf
  have HL2 := Lib.hid hl
  have HB2 := Lib.hid (HB.out.trans hb)
  clear he hr hk hf hl hb
  go_wp2_with fail
  refine (HD.out.restart k HL2.out.rep HG.out HL2.out.vars).mono ?_
  rintro e w3 ⟨⟨ev, F3, rfl, he, hr, hk, hf⟩, -⟩
  obtain rfl := nil_ev rfl he
  obtain ⟨hl, hb⟩ := HL2.out.dev hr hk hf
  have HL3 := Lib.hid hl
  have HB3 := Lib.hid (HB2.out.trans hb)
  clear he hr hk hf hl hb
  have key : ∀ w4 ev, DevE (RP w.heap.size) F3 b k (if put then (putS k nF text ⟨fs, 0, false⟩).1 else (appendS k nF text ⟨fs, 0, false⟩).1) nF (mainS put k text fs) w3 (.returned ev) w4 → ∃ F4, Ln w.heap.size (RP w.heap.size) w4 b F4 k (mainS put k text fs) ∧ Below w.heap.size w w4 := by
    rintro w4 ev ⟨ev', F4, -, -, hr, hk, hf⟩
    obtain ⟨hl, hb⟩ := HL3.out.dev hr hk hf
    exact ⟨F4, hl, HB3.out.trans hb⟩
  have HKEY := Lib.hid key; clear key
  have HPUT : Hid (put = true → Calls Tryd.prog 11 #[.pointer (some ⟨b, 0, none⟩), .string nF, .string text] w3 fun e w4 => ∃ ev, e = .returned ev ∧ ∃ F4, Ln w.heap.size (RP w.heap.size) w4 b F4 k (mainS put k text fs) ∧ Below w.heap.size w w4) := by
    refine Lib.hid fun hp => ?_
    subst hp
    refine (HD.out.put nF text HL3.out.rep HG.out (Nat.zero_le _) HL3.out.vars).mono ?_
    intro e w4 h
    obtain ⟨ev, F4, rfl, h'⟩ := h
    exact ⟨ev, rfl, HKEY.out w4 ev ⟨ev, F4, rfl, h'⟩⟩
  have HAPP : Hid (put = false → Calls Tryd.prog 10 #[.pointer (some ⟨b, 0, none⟩), .string nF, .string text] w3 fun e w4 => ∃ ev, e = .returned ev ∧ ∃ F4, Ln w.heap.size (RP w.heap.size) w4 b F4 k (mainS put k text fs) ∧ Below w.heap.size w w4) := by
    refine Lib.hid fun hp => ?_
    subst hp
    refine (HD.out.append nF text HL3.out.rep HG.out (Nat.zero_le _) HL3.out.vars).mono ?_
    intro e w4 h
    obtain ⟨ev, F4, rfl, h'⟩ := h
    exact ⟨ev, rfl, HKEY.out w4 ev ⟨ev, F4, rfl, h'⟩⟩
  clear HP HL HL2 HKEY HB HB2
  generalize mainS put k text fs = s at *
  obtain ⟨fs2, c2, d2⟩ := s
  cases put
  all_goals
    first
      | have HC := Lib.hid (HAPP.out rfl)
      | have HC := Lib.hid (HPUT.out rfl)
    clear HPUT HAPP
    go_wp2_with fail
    refine HC.out.mono ?_
    rintro e w4 ⟨ev, rfl, F4, hl, hb⟩
    have HL4 := Lib.hid hl
    have HB4 := Lib.hid hb
    clear hl hb HC
    go_wp2_with fail
    refine (HD.out.restart (-1) HL4.out.rep M3.out HL4.out.vars).mono ?_
    rintro e w5 ⟨⟨ev5, F5, rfl, he, hr, hk, hf⟩, -⟩
    obtain rfl := nil_ev rfl he
    obtain ⟨hl, hb⟩ := HL4.out.dev hr hk hf
    have HL5 := Lib.hid hl
    have HB5 := Lib.hid (HB4.out.trans hb)
    clear he hr hk hf hl hb
    go_wp2_with fail
    refine (HD.out.read nF HL5.out.rep M3.out HL5.out.vars).mono ?_
    rw [read_f M1.out]
    rintro e w6 ⟨ev6, rfl, he, hb⟩
    obtain rfl := nil_ev rfl he
    have HB6 := Lib.hid (HB5.out.trans (hb.mono HL5.out.hw))
    clear he hb
    go_wp2_with fail
    go_ret
    exact ⟨rfl, HB6.out⟩
end DiskP
end Go.Proofs.YticonagffdaacaaDoor
