/-
  Proved: of whatever bytes a file has and whatever text is appended to it or put in its place, what there is behind a cut after k raw writes, for each k from 0 up to as many as the call needs, is what there was ahead with the first so many raw writes; and, not cut, it is whole (P3.5); where both together have more than 4000 bytes, and behind it all, alive() answers true: DiskPrefix returns true and writes nothing that was there.
  Conditions: the error type's variable of package errors reads as the program's text lays it (the card ties it).
-/
import Derived.Test.YticonagffdaacaaDoorCards
import Derived.Test.YticonagffdaacaaDoorTie
import Derived.Test.YticonagffdaacaaDoorErrVars
import Derived.Test.YticonagffdaacaaDoorDiskAfter
import Derived.Laws.Small
import Derived.WalkKit
import Derived.ProofKit
import Derived.OpenShut
import Derived.ShutString
import Derived.ChangeOld
import Derived.Below
import Derived.SizedLaws
import Derived.LaidLaws
import Derived.Deep.DeepHandedRow
import Derived.SevenTiedAt
namespace Go.Proofs.YticonagffdaacaaDoor.diskPrefix
open Go.ChangeShapes Go.WideShapes Go.ChangeAt Go.RowKit
open Go.ChangeMaps (open_string shut_string)
open DiskP DiskM DiskC ErrC
set_option linter.unusedVariables false
set_option linter.unusedSimpArgs false

theorem own : ownKnob Tryd.prog.godebug = none := by kernel_rfl
theorem laidOut : laidOutB Tryd.prog = true := by kernel_rfl

/-- how many raw writes a call needs -/
def needN (text : ByteArray) (put : Bool) : Nat := if put then (if 0 < text.size then 1 + (text.size + 31) / 32 else 1) else max 1 ((text.size + 31) / 32)
def wholeN (before text : ByteArray) (put : Bool) : ByteArray := if put then text else before ++ text
theorem aft_all (before text : ByteArray) (put : Bool) : aftS before text put (-1) = wholeN before text put := by unfold aftS wholeN; rw [if_pos (by decide)]
theorem aft_need (before text : ByteArray) (put : Bool) : aftS before text put (needN text put : Int) = wholeN before text put := by
  unfold aftS wholeN needN
  rw [if_neg (by omega)]
  cases put
  · simp only [Bool.false_eq_true, if_false, Int.toNat_natCast]
    rw [all_front _ _ (by omega)]
  · simp only [if_true, Int.toNat_natCast]
    split
    · rw [if_neg (by omega), all_front _ _ (by omega)]
    · rw [if_neg (by omega), all_front _ _ (by omega)]
theorem wrapEq (x : Int) : IntKind.i64.wrap x = wrap64 x := by unfold wrap64; exact IntKind.wrap_i64 x
theorem add_texts (a b : ByteArray) (h : a.size + b.size ≤ 4000) (w : World) : (Op.stringOp .add a b).run Tryd.prog w = .ok (.string (a ++ b)) w := run_string_add_sum (P := Tryd.prog) w a b (by omega)
theorem front_of (x : ByteArray) (q : Nat) (h : q ≤ x.size) (w : World) : (Instr.slice 9 (.string x) none (some (.int .i64 (q : Int))) none).run Tryd.prog w = .ok (.string (x.extract 0 q)) w := by
  rw [run_slice_string_h w 9 x Tryd.underlying9 .i64 (q : Int) (by omega) (by omega)]
  rfl
set_option maxRecDepth 100000 in
set_option maxHeartbeats 8000000 in
theorem walk (a0 : ByteArray) (a1 : ByteArray) (a2 : Bool) (w : World) (w0 : a0.size ≤ maxLen) (r0 : a0.size ≤ 140737488351232) (w1 : a1.size ≤ maxLen) (r1 : a1.size ≤ 140737488351232) (hv : ErrC.Vars w) :
    Calls Tryd.prog 3 #[.string a0, .string a1, .bool a2] w fun e w' => e = .returned (.bool true) ∧ Below w.heap.size w w' := by
  have HV := Lib.hid hv; clear hv w0 w1
  have hs1 : IntKind.i64.wrap ((a0.size : Int) + (a1.size : Int)) = ((a0.size + a1.size : Nat) : Int) := by rw [IntWalk.i64_in _ ⟨by omega, by omega⟩]; omega
  have hs2 : IntKind.i64.wrap ((a1.size : Int) + 31) = ((a1.size + 31 : Nat) : Int) := by rw [IntWalk.i64_in _ ⟨by omega, by omega⟩]; omega
  by_cases hbig : 4000 < a0.size + a1.size
  · have hd : decide ((4000 : Int) < ((a0.size + a1.size : Nat) : Int)) = true := by simp; omega
    generalize a0.size + a1.size = z at *
    clear hbig hs2 r0 r1
    go_enter Tryd.func3, Tryd.ntmps3
    go_wp2_with fail
    refine (alive_any _ HV.out).mono ?_
    rintro e w1 ⟨rfl, hb⟩
    have HB := Lib.hid hb; clear hb
    go_wp2_with fail
    go_ret
    exact ⟨rfl, HB.out⟩
  · have hd : decide ((4000 : Int) < ((a0.size + a1.size : Nat) : Int)) = false := by simp; omega
    have hle : a0.size + a1.size ≤ 4000 := by omega
    have HLE := Lib.hid hle
    have HAFT : Hid (∀ (k : Int) (w' : World), (k = -1 ∨ 0 ≤ k) → Vars w' → Calls Tryd.prog 6 #[.string a0, .string a1, .bool a2, .int .i64 k] w' (AfterE w' (aftS a0 a1 a2 k))) := Lib.hid fun k w' hk hv => after_any a0 a1 a2 k hk hle w' hv
    have hadd := add_texts a0 a1 hle
    have HADD : Hid (∀ q w', (Op.stringOp .add a0 (a1.extract 0 (min a1.size q))).run Tryd.prog w' = .ok (.string (a0 ++ a1.extract 0 (min a1.size q))) w') := Lib.hid fun q w' => add_texts a0 _ (by rw [ByteArray.size_extract]; omega) w'
    have HQ : Hid (wrap64 (((a1.size + 31 : Nat) : Int) / 32) = (((a1.size + 31) / 32 : Nat) : Int)) := Lib.hid (by
      rw [show ((a1.size + 31 : Nat) : Int) / 32 = (((a1.size + 31) / 32 : Nat) : Int) by omega, ← wrapEq, IntWalk.i64_in _ ⟨by omega, by omega⟩])
    have HNE : Hid (aftS a0 a1 a2 (needN a1 a2 : Int) = wholeN a0 a1 a2) := Lib.hid (aft_need a0 a1 a2)
    have hneed : needN a1 a2 ≤ 200 := by unfold needN; split <;> (try split) <;> omega
    have HNEED := Lib.hid hneed
    have hlen : a1.size ≤ 4000 := by omega
    clear hbig hle r0 r1 hneed
    generalize hz : a0.size + a1.size = z at *
    clear hz
    have LOOP : ∀ (N : Nat), N = needN a1 a2 → Hid True := fun _ _ => Lib.hid trivial
    clear LOOP
    cases a2
    · have hwh : wholeN a0 a1 false = a0 ++ a1 := rfl
      rw [hwh] at HNE
      have HWH := Lib.hid hwh; clear hwh
      have hq := HQ.out
      have hN : needN a1 false = max 1 ((a1.size + 31) / 32) := rfl
      have hmax : max (1 : Int) (((a1.size + 31) / 32 : Nat) : Int) = (needN a1 false : Int) := by rw [hN]; omega
      clear hN
      generalize needN a1 false = nd at *
      generalize (a1.size + 31) / 32 = qd at *
      generalize a1.size + 31 = pd at *
      go_enter Tryd.func3, Tryd.ntmps3
      go_wp2_with fail
      refine (HAFT.out (-1) _ (Or.inl rfl) HV.out).mono ?_
      rw [aft_all, HWH.out]
      rintro e w1 ⟨rfl, hb⟩
      have HB1 := Lib.hid hb
      have HV1 := Lib.hid (HV.out.below hb)
      clear hb
      go_wp2_with fail
      try simp only [hq]
      try simp only [hmax]
      go_loopw [9] (fun vk wr => ∃ k : Nat, vk = .int .i64 k ∧ k ≤ nd + 1 ∧ Hid (Below w.heap.size w wr) ∧ Hid (Vars wr)) (fun vk _ => nd + 1 - (intOf vk).toNat)
      case atStart => exact ⟨0, rfl, Nat.zero_le _, HB1, HV1⟩
      case round =>
        obtain ⟨k, rfl, hk, HBK, HVK⟩ := hrel
        rename World => wr
        clear HB1 HV1
        have hnd := HNEED.out
        by_cases hgo : k ≤ nd
        · have hgo1 : decide (k ≤ nd) = true := by simpa using hgo
          have hnx : IntKind.i64.wrap ((k : Int) + 1) = ((k + 1 : Nat) : Int) := by rw [IntWalk.i64_in _ ⟨by omega, by omega⟩]; omega
          have hmea : nd + 1 - (k + 1) < nd + 1 - k := by omega
          have HK1 := Lib.hid (show k + 1 ≤ nd + 1 by omega)
          have hnx2 : wrap64 ((k : Int) + 1) = ((k + 1 : Nat) : Int) := by rw [← wrapEq]; exact hnx
          have HKN : Hid (k + 1 = k + 1) := Lib.hid rfl
          generalize hkx : k + 1 = kn at hnx hnx2 hmea HK1
          have HKX := Lib.hid hkx; clear hkx HKN
          have HAK := Lib.hid (HAFT.out (k : Int) wr (Or.inr (by omega)) HVK.out)
          by_cases hkn : k = nd
          · have he : ((k : Int) == (nd : Int)) = true := by rw [beq_iff_eq]; omega
            have HS : Hid (aftS a0 a1 false (k : Int) = a0 ++ a1) := by rw [hkn]; exact HNE
            clear hkn hgo hk hnd
            go_wp2_with fail
            refine HAK.out.mono ?_
            rw [HS.out]
            rintro e w2 ⟨rfl, hb⟩
            have HB2 := Lib.hid (HBK.out.trans (hb.mono HBK.out.size))
            have HV2 := Lib.hid (HVK.out.below hb)
            clear hb
            go_wp2_with fail
            go_roundw
            case rel => exact ⟨kn, rfl, HK1.out, HB2, HV2⟩
            case measure => simpa [intOf] using hmea
          · have he : ((k : Int) == (nd : Int)) = false := by rw [beq_eq_false_iff_ne]; omega
            have HS : Hid (aftS a0 a1 false (k : Int) = a0 ++ a1.extract 0 (min a1.size (32 * k))) := Lib.hid (by unfold aftS; rw [if_neg (by omega), if_neg (by decide)]; rfl)
            have hmul : wrap64 (32 * (k : Int)) = ((32 * k : Nat) : Int) := by rw [← wrapEq, IntWalk.i64_in _ ⟨by omega, by omega⟩]; omega
            have hmin : min (a1.size : Int) ((32 * k : Nat) : Int) = ((min a1.size (32 * k) : Nat) : Int) := by omega
            have hsl := front_of a1 (min a1.size (32 * k)) (Nat.min_le_left _ _)
            have had2 := HADD.out (32 * k)
            generalize 32 * k = mm at *
            generalize min a1.size mm = qq at *
            generalize a1.extract 0 qq = xx at *
            clear hk hkn hnd hgo
            go_wp2_with fail
            refine HAK.out.mono ?_
            rw [HS.out]
            rintro e w2 ⟨rfl, hb⟩
            have HB2 := Lib.hid (HBK.out.trans (hb.mono HBK.out.size))
            have HV2 := Lib.hid (HVK.out.below hb)
            clear hb
            go_wp2_with fail
            go_roundw
            case rel => exact ⟨kn, rfl, HK1.out, HB2, HV2⟩
            case measure => simpa [intOf] using hmea
        · have hgo1 : decide (k ≤ nd) = false := by simpa using hgo
          clear hgo hk hnd
          go_wp2_with fail
          refine (alive_any _ HVK.out).mono ?_
          rintro e w3 ⟨rfl, hb⟩
          have HB3 := Lib.hid (HBK.out.trans (hb.mono HBK.out.size)); clear hb
          go_wp2_with fail
          go_ret
          exact ⟨rfl, HB3.out⟩
    · have hwh : wholeN a0 a1 true = a1 := rfl
      clear HADD
      rw [hwh] at HNE
      have HWH := Lib.hid hwh; clear hwh
      have hq := HQ.out
      have hmax : max (1 : Int) (((a1.size + 31) / 32 : Nat) : Int) = ((max 1 ((a1.size + 31) / 32) : Nat) : Int) := by omega
      have hcase : (decide (0 < a1.size) = true ∧ wrap64 (1 + (((a1.size + 31) / 32 : Nat) : Int)) = (needN a1 true : Int)) ∨ (decide (0 < a1.size) = false ∧ needN a1 true = 1) := by
        by_cases h0 : 0 < a1.size
        · refine Or.inl ⟨by simpa using h0, ?_⟩
          have : needN a1 true = 1 + (a1.size + 31) / 32 := by unfold needN; rw [if_pos rfl, if_pos h0]
          rw [this, ← wrapEq, IntWalk.i64_in _ ⟨by omega, by omega⟩]; omega
        · exact Or.inr ⟨by simpa using h0, by unfold needN; rw [if_pos rfl, if_neg h0]⟩
      generalize needN a1 true = nd at *
      generalize (a1.size + 31) / 32 = qd at *
      generalize a1.size + 31 = pd at *
      generalize max 1 qd = mx at *
      rcases hcase with ⟨hc1, hc2⟩ | ⟨hc1, hc2⟩
      · have HC2 := Lib.hid hc2
        go_enter Tryd.func3, Tryd.ntmps3
        go_wp2_with fail
        refine (HAFT.out (-1) _ (Or.inl rfl) HV.out).mono ?_
        rw [aft_all, HWH.out]
        rintro e w1 ⟨rfl, hb⟩
        have HB1 := Lib.hid hb
        have HV1 := Lib.hid (HV.out.below hb)
        clear hb
        go_wp2_with fail
        try simp only [hq]
        try simp only [hmax]
        try simp only [hc2]
        go_loopw [9] (fun vk wr => ∃ k : Nat, vk = .int .i64 k ∧ k ≤ nd + 1 ∧ Hid (Below w.heap.size w wr) ∧ Hid (Vars wr)) (fun vk _ => nd + 1 - (intOf vk).toNat)
        case atStart => exact ⟨0, rfl, Nat.zero_le _, HB1, HV1⟩
        case round =>
          obtain ⟨k, rfl, hk, HBK, HVK⟩ := hrel
          rename World => wr
          clear HB1 HV1
          have hnd := HNEED.out
          by_cases hgo : k ≤ nd
          · have hgo1 : decide (k ≤ nd) = true := by simpa using hgo
            have hnx : IntKind.i64.wrap ((k : Int) + 1) = ((k + 1 : Nat) : Int) := by rw [IntWalk.i64_in _ ⟨by omega, by omega⟩]; omega
            have hmea : nd + 1 - (k + 1) < nd + 1 - k := by omega
            have HK1 := Lib.hid (show k + 1 ≤ nd + 1 by omega)
            have hnx2 : wrap64 ((k : Int) + 1) = ((k + 1 : Nat) : Int) := by rw [← wrapEq]; exact hnx
            have HKN : Hid (k + 1 = k + 1) := Lib.hid rfl
            generalize hkx : k + 1 = kn at hnx hnx2 hmea HK1
            have HKX := Lib.hid hkx; clear hkx HKN
            have HAK := Lib.hid (HAFT.out (k : Int) wr (Or.inr (by omega)) HVK.out)
            by_cases hkn : k = nd
            · have he : ((k : Int) == (nd : Int)) = true := by rw [beq_iff_eq]; omega
              have HS : Hid (aftS a0 a1 true (k : Int) = a1) := by rw [hkn]; exact HNE
              clear hkn hgo hk hnd
              go_wp2_with fail
              refine HAK.out.mono ?_
              rw [HS.out]
              rintro e w2 ⟨rfl, hb⟩
              have HB2 := Lib.hid (HBK.out.trans (hb.mono HBK.out.size))
              have HV2 := Lib.hid (HVK.out.below hb)
              clear hb
              go_wp2_with fail
              go_roundw
              case rel => exact ⟨kn, rfl, HK1.out, HB2, HV2⟩
              case measure => simpa [intOf] using hmea
            · have he : ((k : Int) == (nd : Int)) = false := by rw [beq_eq_false_iff_ne]; omega
              by_cases hk0 : k = 0
              · have hg : decide ((0 : Int) < (k : Int)) = false := by simp; omega
                have hg2 : decide (0 < k) = false := by simp; omega
                have HS : Hid (aftS a0 a1 true (k : Int) = a0) := Lib.hid (by unfold aftS; rw [if_neg (by omega), if_pos rfl, if_pos (by omega)])
                clear hk0 hk hkn hnd hgo
                go_wp2_with fail
                refine HAK.out.mono ?_
                rw [HS.out]
                rintro e w2 ⟨rfl, hb⟩
                have HB2 := Lib.hid (HBK.out.trans (hb.mono HBK.out.size))
                have HV2 := Lib.hid (HVK.out.below hb)
                clear hb
                go_wp2_with fail
                go_roundw
                case rel => exact ⟨kn, rfl, HK1.out, HB2, HV2⟩
                case measure => simpa [intOf] using hmea
              · have hg : decide ((0 : Int) < (k : Int)) = true := by simp; omega
                have hg2 : decide (0 < k) = true := by simp; omega
                obtain ⟨k1, rfl⟩ : ∃ k1, k = k1 + 1 := ⟨k - 1, by omega⟩
                have HS : Hid (aftS a0 a1 true ((k1 + 1 : Nat) : Int) = a1.extract 0 (min a1.size (32 * k1))) := Lib.hid (by unfold aftS; rw [if_neg (by omega), if_pos rfl, if_neg (by omega)]; congr 2)
                have hsub : wrap64 (((k1 + 1 : Nat) : Int) - 1) = (k1 : Int) := by rw [← wrapEq, IntWalk.i64_in _ ⟨by omega, by omega⟩]; omega
                have hmul : wrap64 (32 * (k1 : Int)) = ((32 * k1 : Nat) : Int) := by rw [← wrapEq, IntWalk.i64_in _ ⟨by omega, by omega⟩]; omega
                have hmin : min (a1.size : Int) ((32 * k1 : Nat) : Int) = ((min a1.size (32 * k1) : Nat) : Int) := by omega
                have hsl := front_of a1 (min a1.size (32 * k1)) (Nat.min_le_left _ _)
                generalize 32 * k1 = mm at *
                generalize min a1.size mm = qq at *
                generalize a1.extract 0 qq = xx at *
                generalize hkk : k1 + 1 = k at *
                clear hkk hk0 hk hkn hnd hgo
                go_wp2_with fail
                refine HAK.out.mono ?_
                rw [HS.out]
                rintro e w2 ⟨rfl, hb⟩
                have HB2 := Lib.hid (HBK.out.trans (hb.mono HBK.out.size))
                have HV2 := Lib.hid (HVK.out.below hb)
                clear hb
                go_wp2_with fail
                go_roundw
                case rel => exact ⟨kn, rfl, HK1.out, HB2, HV2⟩
                case measure => simpa [intOf] using hmea
          · have hgo1 : decide (k ≤ nd) = false := by simpa using hgo
            clear hgo hk hnd
            go_wp2_with fail
            refine (alive_any _ HVK.out).mono ?_
            rintro e w3 ⟨rfl, hb⟩
            have HB3 := Lib.hid (HBK.out.trans (hb.mono HBK.out.size)); clear hb
            go_wp2_with fail
            go_ret
            exact ⟨rfl, HB3.out⟩
      · subst hc2
        go_enter Tryd.func3, Tryd.ntmps3
        go_wp2_with fail
        refine (HAFT.out (-1) _ (Or.inl rfl) HV.out).mono ?_
        rw [aft_all, HWH.out]
        rintro e w1 ⟨rfl, hb⟩
        have HB1 := Lib.hid hb
        have HV1 := Lib.hid (HV.out.below hb)
        clear hb
        go_wp2_with fail
        try simp only [hq]
        try simp only [hmax]
        go_loopw [9] (fun vk wr => ∃ k : Nat, vk = .int .i64 k ∧ k ≤ 1 + 1 ∧ Hid (Below w.heap.size w wr) ∧ Hid (Vars wr)) (fun vk _ => 1 + 1 - (intOf vk).toNat)
        case atStart => exact ⟨0, rfl, Nat.zero_le _, HB1, HV1⟩
        case round =>
          obtain ⟨k, rfl, hk, HBK, HVK⟩ := hrel
          rename World => wr
          clear HB1 HV1
          have hnd := HNEED.out
          by_cases hgo : k ≤ 1
          · have hgo1 : decide (k ≤ 1) = true := by simpa using hgo
            have hgo2 : decide ((k : Int) ≤ 1) = true := by simp; omega
            have hnx : IntKind.i64.wrap ((k : Int) + 1) = ((k + 1 : Nat) : Int) := by rw [IntWalk.i64_in _ ⟨by omega, by omega⟩]; omega
            have hmea : 1 + 1 - (k + 1) < 1 + 1 - k := by omega
            have HK1 := Lib.hid (show k + 1 ≤ 1 + 1 by omega)
            have hnx2 : wrap64 ((k : Int) + 1) = ((k + 1 : Nat) : Int) := by rw [← wrapEq]; exact hnx
            have HKN : Hid (k + 1 = k + 1) := Lib.hid rfl
            generalize hkx : k + 1 = kn at hnx hnx2 hmea HK1
            have HKX := Lib.hid hkx; clear hkx HKN
            have HAK := Lib.hid (HAFT.out (k : Int) wr (Or.inr (by omega)) HVK.out)
            by_cases hkn : k = 1
            · have he : ((k : Int) == (1 : Int)) = true := by rw [beq_iff_eq]; omega
              have HS : Hid (aftS a0 a1 true (k : Int) = a1) := by rw [hkn]; exact HNE
              clear hkn hgo hk hnd
              go_wp2_with fail
              refine HAK.out.mono ?_
              rw [HS.out]
              rintro e w2 ⟨rfl, hb⟩
              have HB2 := Lib.hid (HBK.out.trans (hb.mono HBK.out.size))
              have HV2 := Lib.hid (HVK.out.below hb)
              clear hb
              go_wp2_with fail
              go_roundw
              case rel => exact ⟨kn, rfl, HK1.out, HB2, HV2⟩
              case measure => simpa [intOf] using hmea
            · have he : ((k : Int) == (1 : Int)) = false := by rw [beq_eq_false_iff_ne]; omega
              by_cases hk0 : k = 0
              · have hg : decide ((0 : Int) < (k : Int)) = false := by simp; omega
                have hg2 : decide (0 < k) = false := by simp; omega
                have HS : Hid (aftS a0 a1 true (k : Int) = a0) := Lib.hid (by unfold aftS; rw [if_neg (by omega), if_pos rfl, if_pos (by omega)])
                clear hk0 hk hkn hnd hgo
                go_wp2_with fail
                refine HAK.out.mono ?_
                rw [HS.out]
                rintro e w2 ⟨rfl, hb⟩
                have HB2 := Lib.hid (HBK.out.trans (hb.mono HBK.out.size))
                have HV2 := Lib.hid (HVK.out.below hb)
                clear hb
                go_wp2_with fail
                go_roundw
                case rel => exact ⟨kn, rfl, HK1.out, HB2, HV2⟩
                case measure => simpa [intOf] using hmea
              · exfalso; omega
          · have hgo1 : decide (k ≤ 1) = false := by simpa using hgo
            have hgo2 : decide ((k : Int) ≤ 1) = false := by simp; omega
            clear hgo hk hnd
            go_wp2_with fail
            refine (alive_any _ HVK.out).mono ?_
            rintro e w3 ⟨rfl, hb⟩
            have HB3 := Lib.hid (HBK.out.trans (hb.mono HBK.out.size)); clear hb
            go_wp2_with fail
            go_ret
            exact ⟨rfl, HB3.out⟩

set_option maxRecDepth 100000 in
theorem contract (H : Type) (enc : TypeId × Value → H) (W : World) (base : Nat) (args : Array Value) (ds gs : List (DataW H)) (before : List MemPlace)
    (hval0 : ∀ (j : Nat) t v, Tryd.f3.params[j]? = some t → args[j]? = some v → Value.okWide Tryd.prog W .any base t v)
    (hW : DataW.Whole enc Tryd.prog Tryd.f3.params.toList Rows.diskPrefixSpec.vars false W args.toList ds gs before)
    (hsz0 : (DataW.weightsEach Tryd.prog (Tryd.f3.params.toList ++ (OpenSpec.ofChange Rows.diskPrefixSpec).bare.plain.varTypes Tryd.prog) (ds ++ gs)).all (· ≤ reachBytes) = true)
    (hv : ErrC.Vars W) (hk : True) :
    Calls Tryd.prog 3 args W fun e W' => ∃ v, e = .returned v ∧ Rows.diskPrefixSpec.post enc Tryd.prog Tryd.f3 false true false false W args v W' := by
  have hval : ∀ (j : Nat) t v, Tryd.f3.params[j]? = some t → args[j]? = some v → Value.okWide Tryd.prog W .any base t v := hval0
  have hW' := hW
  obtain ⟨p, q, hA0, hV, rfl, hfz, hnd⟩ := hW
  have hA : DataW.TrodAll enc Tryd.prog W 0 (fun _ => true) true Tryd.f3.params.toList args.toList ds p := hA0
  have hsz : (DataW.weightsEach Tryd.prog (Tryd.f3.params.toList ++ Rows.diskPrefixSpec.plain.varTypes Tryd.prog) (ds ++ gs)).all (· ≤ reachBytes) = true := hsz0
  rw [Tryd.params3] at hA hval hsz
  obtain ⟨v0, vs0, d0, ds0, p0, q0, hargs, rfl, rfl, h0, rr0⟩ := trodAll_cons hA
  obtain ⟨v1, vs1, d1, ds1, p1, q1, rfl, rfl, rfl, h1, rr1⟩ := trodAll_cons rr0
  obtain ⟨v2, vs2, d2, ds2, p2, q2, rfl, rfl, rfl, h2, rr2⟩ := trodAll_cons rr1
  obtain ⟨rfl, rfl, rfl⟩ := trodAll_nil rr2
  obtain rfl : args = #[v0, v1, v2] := by cases args; simp_all
  obtain ⟨rfl, rfl⟩ := trodVars_none hV
  obtain ⟨a0, rfl, rfl, rfl, w0⟩ := open_string Tryd.underlying9 (hval 0 9 v0 rfl rfl) h0
  obtain ⟨a1, rfl, rfl, rfl, w1⟩ := open_string Tryd.underlying9 (hval 1 9 v1 rfl rfl) h1
  obtain ⟨a2, rfl, rfl, rfl⟩ := open_bool Tryd.underlying4 (hval 2 4 v2 rfl rfl) h2
  have r0 : a0.size ≤ 140737488351232 := by have := sized_string hsz (j := 0) (t := 9) (bytes := a0.data.toList) rfl rfl; simpa [reachBytes] using this
  have r1 : a1.size ≤ 140737488351232 := by have := sized_string hsz (j := 1) (t := 9) (bytes := a1.data.toList) rfl rfl; simpa [reachBytes] using this
  clear hA0 hval0
  refine (walk a0 a1 a2 W w0 r0 w1 r1 hv).mono fun e W' ⟨he, bel⟩ => ?_
  subst he
  exact ⟨_, rfl, _, _, _, [], _, [], hW', trodAll_mk1 (shut_bool Tryd.underlying4 _), (trodAll_cons_mk (shut_string Tryd.underlying9 w0) (trodAll_cons_mk (shut_string Tryd.underlying9 w1) (trodAll_cons_mk (shut_bool Tryd.underlying4 _) trodAll_mk0))), rfl, bel.frame _, fun h => by cases h⟩

theorem reads (os : Os) {H : Type} (enc : TypeId × Value → H) : ∃ places, DataW.whole enc Tryd.prog ((ErrC.laidWorld os).forCall (fun _ _ => 0) ⟨#[], #[.string ByteArray.empty, .string ByteArray.empty, .bool false], []⟩).memory Tryd.f3.params.toList Rows.diskPrefixSpec.vars false (#[.string ByteArray.empty, .string ByteArray.empty, .bool false] : Array Value).toList 8 = some ([.lit (.string []), .lit (.string []), .lit (.bool false)], [], places) :=
  ⟨[], by kernel_rfl⟩

set_option maxRecDepth 100000 in
theorem lifted (os : Os) (started : os.Started) (H : Type) (enc : TypeId × Value → H) (F : Stop.Interp) :
    ReturnsInHanded {} Tryd.checked os 3 .any ((OpenSpec.ofChange Rows.diskPrefixSpec).preRow enc Tryd.prog Tryd.f3 Rows.diskPrefixRow.domain false Rows.diskPrefixRow.laid) (((OpenSpec.ofChange Rows.diskPrefixSpec).at F).post enc Tryd.prog Tryd.f3 false true false false) := by
  obtain ⟨places, hx⟩ := reads os enc
  refine returnsInHanded_of_row (C := Tryd.checked) (s := (OpenSpec.ofChange Rows.diskPrefixSpec)) own started (by kernel_rfl) Tryd.func3
    (witness_row_at (enc := enc) (C := Tryd.checked) false (ErrC.laidWorld os) #[.string ByteArray.empty, .string ByteArray.empty, .bool false] rfl (by kernel_rfl) (by kernel_rfl) (by kernel_rfl)
      (OpenSpec.preRow_of_cond 8 hx (by kernel_rfl) (fun k hk => by cases hk) (by kernel_rfl) (ErrC.laid_met os _))) ?_
  intro W base args ds gs before hval hW _ hcond hsz hL hsh _
  exact contract H enc W base args ds gs before hval hW hsz (ErrC.vars_of hL hsh) trivial

theorem said : Rows.DiskPrefixSaid :=
  OpenClaim.holds_of_cond 3 Tryd.f3 rfl rfl rfl rfl rfl rfl rfl ⟨rfl, rfl, rfl, rfl, rfl⟩ rfl rfl rfl rfl rfl (by kernel_rfl) Tryd.func3 (by kernel_rfl)
    (of_decide_eq_true (by kernel_rfl)) (by unfold Func.isWrapper; first | (rw [if_pos (by decide +kernel)]; kernel_rfl) | (rw [if_neg (by decide +kernel)]; exact ⟨rfl, rfl⟩))
    (fun os started H enc _ F => by rw [OpenClaim.pre_eq_preRow]; exact lifted os started H enc F)

theorem plain (f : FuncId) (fn : Func) (hf : Tryd.pinned.checked.prog.funcNamed "yankline/yanklinelaw03.DiskPrefix" = some f) (hfn : Tryd.pinned.checked.prog.funcs[f]? = some fn) :
    true = Tryd.pinned.checked.prog.looks [] ∧ ∀ (j : Nat) t, fn.params[j]? = some t → Tryd.pinned.checked.prog.wantsStandIn t = false := by
  obtain rfl : f = 3 := Option.some.inj ((show Tryd.prog.funcNamed "yankline/yanklinelaw03.DiskPrefix" = some 3 by kernel_rfl).symm.trans hf) |>.symm
  obtain rfl : fn = Tryd.f3 := (Option.some.inj (Tryd.func3.symm.trans hfn)).symm
  refine ⟨by kernel_rfl, fun j t ht => ?_⟩
  rw [Tryd.params3] at ht
  have hall : ([9, 9, 4] : List Nat).all (fun t => !(Tryd.prog.wantsStandIn t)) = true := by kernel_rfl
  have h := List.all_eq_true.1 hall t (Array.mem_toList_iff.2 (Array.mem_of_getElem? ht))
  have h2 : Tryd.prog.wantsStandIn t = false := by simpa using h
  exact h2

theorem card : Rows.DiskPrefixCardSaid :=
  Claim7.holds_tied_plain_at .later [] _ _ _ _ said (fun _ h => by cases h) (by kernel_rfl) (fun _ h => by cases h) diskPrefix_row_tie rfl ⟨rfl, rfl⟩ (by kernel_rfl) rfl plain (by kernel_rfl)

end Go.Proofs.YticonagffdaacaaDoor.diskPrefix
namespace Go.Proofs.YticonagffdaacaaDoor
theorem diskPrefix_holds : Rows.DiskPrefixCardSaid := diskPrefix.card
#print axioms diskPrefix_holds
end Go.Proofs.YticonagffdaacaaDoor
