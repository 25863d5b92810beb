/-
  The document's own disk of layer 3: Same.
-/
import Derived.Test.YtpmbokklpidohaaGreatDoorDiskFit
import Derived.Test.YtpmbokklpidohaaGreatDoorDiskRef7
import Derived.Laws.StructEq
namespace Go.Proofs.YtpmbokklpidohaaGreatDoor
open Go.RowKit
namespace DiskC
open DiskM

def sameF (f g : ByteArray × ByteArray) : Bool := f.1.toList == g.1.toList && f.2.toList == g.2.toList
/-- the first k of both are the same -/
def SameTo (fs gs : FL) (k : Nat) : Prop := ∀ i (h1 : i < fs.length) (h2 : i < gs.length), i < k → sameF fs[i] gs[i] = true
def sameL (fs gs : FL) : Bool := decide (fs.length = gs.length) && (List.zipWith sameF fs gs).all id

theorem same_no {fs gs : FL} {i : Nat} (h1 : i < fs.length) (h2 : i < gs.length) (h : sameF fs[i] gs[i] = false) : sameL fs gs = false := by
  unfold sameL
  rw [Bool.and_eq_false_iff]
  right
  rw [List.all_eq_false]
  exact ⟨false, List.mem_iff_getElem.2 ⟨i, by simp; omega, by simp [h]⟩, by simp⟩
theorem same_yes {fs gs : FL} (hl : fs.length = gs.length) (h : ∀ i (h1 : i < fs.length) (h2 : i < gs.length), sameF fs[i] gs[i] = true) : sameL fs gs = true := by
  unfold sameL
  rw [Bool.and_eq_true]
  refine ⟨by simpa using hl, ?_⟩
  rw [List.all_eq_true]
  intro x hx
  obtain ⟨i, hi, rfl⟩ := List.mem_iff_getElem.1 hx
  simp only [List.length_zipWith] at hi
  simpa using h i (by omega) (by omega)
theorem neq_file (a b c d : ByteArray) (w : World) : (binOp .neq 71 (.agg #[.string a, .string b]) (.agg #[.string c, .string d])).run Tryz.prog w = .ok (.bool (!(sameF (a, b) (c, d)))) w := by
  have p1 : ∀ w, (part 9 #[.string a, .string b] 0).run Tryz.prog w = .ok (.string a) w := fun w => by kernel_rfl
  have p2 : ∀ w, (part 9 #[.string a, .string b] 1).run Tryz.prog w = .ok (.string b) w := fun w => by kernel_rfl
  have p3 : ∀ w, (part 9 #[.string c, .string d] 0).run Tryz.prog w = .ok (.string c) w := fun w => by kernel_rfl
  have p4 : ∀ w, (part 9 #[.string c, .string d] 1).run Tryz.prog w = .ok (.string d) w := fun w => by kernel_rfl
  rw [run_neq_struct, run_equalIn_agg w 9999 71 _ _ (by kernel_rfl) (by kernel_rfl)]
  have hfs : ∃ f0 f1 : Field, (Tryz.prog.fieldsOf 71).toList = [f0, f1] ∧ (f0.name.length == 1) = false ∧ (f1.name.length == 1) = false ∧ f0.type = 9 ∧ f1.type = 9 ∧ f0.offset = 0 ∧ f1.offset = 1 :=
    ⟨(Tryz.prog.fieldsOf 71)[0]!, (Tryz.prog.fieldsOf 71)[1]!, by kernel_rfl, by kernel_rfl, by kernel_rfl, by kernel_rfl, by kernel_rfl, by kernel_rfl, by kernel_rfl⟩
  obtain ⟨f0, f1, hf, m0, m1, t0, t1, o0, o1⟩ := hfs
  have n0 : f0.name ≠ "_" := fun h => by rw [h] at m0; exact absurd m0 (by decide)
  have n1 : f1.name ≠ "_" := fun h => by rw [h] at m1; exact absurd m1 (by decide)
  rw [hf]
  simp only [Op.eqFields, n0, n1, ne_eq, not_false_eq_true, if_true, t0, t1, o0, o1, Sem.run_bind, p1, p3, Result.andThen_ok, run_equalIn_string w 9998 9 _ _ Tryz.underlying9]
  unfold sameF
  cases h1 : (a.toList == c.toList) with
  | false => simp [Result.andThen]
  | true =>
    simp only [p2, p4, Result.andThen, Bool.not_true, Bool.false_eq_true, if_false, Sem.run_bind, run_equalIn_string w 9998 9 _ _ Tryz.underlying9]
    cases h2 : (b.toList == d.toList) <;> simp

set_option maxHeartbeats 4000000 in
theorem dsame_some (a b ga gb ca cb : Nat) (fs gs : FL) (cut count cut' count' : Int) (dead dead' : Bool) (w : World)
    (h : IsDsk w a (.slice (some ⟨ga, 0, none⟩) fs.length ca) fs cut count dead) (k : IsDsk w b (.slice (some ⟨gb, 0, none⟩) gs.length cb) gs cut' count' dead') (hl : fs.length ≤ 65536) (hl2 : gs.length = fs.length) :
    Calls Tryz.prog 13 #[.pointer (some ⟨a, 0, none⟩), .pointer (some ⟨b, 0, none⟩)] w fun e w' => e = .returned (.bool (sameL fs gs)) ∧ ∃ q, w' = w.drewN q := by
  have a0 := h.files
  have b0 := k.files
  have HA := Lib.hid h
  have HB := Lib.hid k
  clear h k
  have tne : ((fs.length : Int) != (gs.length : Int)) = false := by rw [bne_eq_false_iff_eq]; omega
  have HL2 := Lib.hid hl2
  go_enter Tryz.func13, Tryz.ntmps13
  go_wp2_with fail
  go_quiet (fail)
  go_wp2_with fail
  clear hl2 tne
  go_loopw [5] (fun vi wr => ∃ i q : Nat, i ≤ fs.length ∧ vi = .int .i64 i ∧ wr = w.drewN q ∧ Hid (SameTo fs gs i)) (fun vi _ => fs.length - (intOf vi).toNat)
  case atStart => exact ⟨0, _, Nat.zero_le _, rfl, rfl, Lib.hid (fun i _ _ h => absurd h (by omega))⟩
  case round =>
    obtain ⟨i, q, hi, rfl, rfl, HS⟩ := hrel
    by_cases hlt : i < fs.length
    · have hdec : decide (i < fs.length) = true := by simpa using hlt
      have hgt : i < gs.length := by have := HL2.out; omega
      obtain ⟨x1, x2, -⟩ := HA.out.cells rfl i hlt
      obtain ⟨y1, y2, -⟩ := HB.out.cells rfl i hgt
      have es3 : IntKind.i64.wrap (i : Int) = (i : Int) := IntWalk.i64_in _ ⟨by omega, by omega⟩
      have n1 : (0 : Int) ≤ (i : Int) := by omega
      have n2 : (i : Int) < (fs.length : Int) := by omega
      have n3 : (i : Int) < (gs.length : Int) := by omega
      have HSN := Lib.hid (show sameF fs[i] gs[i] = true → SameTo fs gs (i + 1) from fun hs j h1 h2 hj => by
        by_cases e : j = i
        · subst e; exact hs
        · exact HS.out j h1 h2 (by omega))
      have HSF := Lib.hid (show sameF fs[i] gs[i] = false → sameL fs gs = false from fun hs => same_no hlt hgt hs)
      generalize fs[i] = f at *
      generalize gs[i] = g at *
      have hneq := neq_file f.1 f.2 g.1 g.2
      cases hs : sameF f g with
      | true =>
        have e : sameF (f.1, f.2) (g.1, g.2) = true := hs
        rw [e] at hneq
        have HNX := Lib.hid (HSN.out hs)
        clear hs e
        go_wp2_with fail
        go_quiet (fail)
        go_wp2_with fail
        go_roundw
        case rel => exact ⟨i + 1, _, by omega, by go_num, rfl, HNX⟩
        case measure => simp [intOf]; omega
      | false =>
        have e : sameF (f.1, f.2) (g.1, g.2) = false := hs
        rw [e] at hneq
        have HNX := Lib.hid (HSF.out hs)
        clear hs e
        go_wp2_with fail
        go_quiet (fail)
        go_wp2_with fail
        go_ret
        rw [HNX.out]
        exact ⟨rfl, _, World.drewN_drewN _ _ _⟩
    · have hdec : decide (i < fs.length) = false := by simpa using hlt
      have hsl : sameL fs gs = true := same_yes HL2.out.symm (fun j h1 h2 => HS.out j h1 h2 (by omega))
      have HSL := Lib.hid hsl
      clear hsl
      go_wp2_with fail
      go_ret
      rw [HSL.out]
      exact ⟨rfl, _, rfl⟩

theorem IsDsk.val {w : World} {b : Nat} {v : Value} {fs : FL} {cut count : Int} {dead : Bool} (h : IsDsk w b v fs cut count dead) : ∃ x c, v = .slice x fs.length c := by
  rcases row_val h.row with ⟨rfl, e⟩ | ⟨g, cap, rfl, -⟩
  · exact ⟨none, 0, by rw [e]; rfl⟩
  · exact ⟨_, _, rfl⟩

set_option maxHeartbeats 1000000 in
theorem dsame_none (a b : Nat) (u v : Value) (fs gs : FL) (cut count cut' count' : Int) (dead dead' : Bool) (w : World)
    (h : IsDsk w a u fs cut count dead) (k : IsDsk w b v gs cut' count' dead') (hne : gs.length ≠ fs.length) :
    Calls Tryz.prog 13 #[.pointer (some ⟨a, 0, none⟩), .pointer (some ⟨b, 0, none⟩)] w fun e w' => e = .returned (.bool false) ∧ ∃ q, w' = w.drewN q := by
  have a0 := h.files
  have b0 := k.files
  obtain ⟨x, cx, rfl⟩ := h.val
  obtain ⟨y, cy, rfl⟩ := k.val
  clear h k
  have tne : ((fs.length : Int) != (gs.length : Int)) = true := by rw [bne_iff_ne]; omega
  go_enter Tryz.func13, Tryz.ntmps13
  go_wp2_with fail
  go_quiet (fail)
  go_wp2_with fail
  go_ret
  exact ⟨rfl, _, rfl⟩
end DiskC
end Go.Proofs.YtpmbokklpidohaaGreatDoor
