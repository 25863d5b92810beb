/-
  The document's own answers for layer 4: records, what stands at the front, and the parts of texts that they take: one contract a function.
  The document's own All of layer 4: the payloads of the records from the front on, how many bytes those have, why it goes no further.
-/
import Derived.Test.YtlnbjlidakdmlaaGreatDoorFrameMath
import Derived.Test.YtlnbjlidakdmlaaGreatDoorSumCore
import Derived.Test.YtlnbjlidakdmlaaGreatDoorRefWord
import Derived.BigQuiet
import Derived.Deep.RegionWith
import Derived.Lib.Strings
import Derived.Laws.IdiomStrings
import Derived.Laws.Tables
import Derived.Test.YtlnbjlidakdmlaaGreatDoorTextWide
namespace Go.Proofs.YtlnbjlidakdmlaaGreatDoor
open Go.RowKit
namespace FrameC
open FrameM
open SumM (fnv nfnv nfnv_lt fnv_nat)
open CodeM (wordB wordB_length)

/-- bytes as a text -/
def str (l : List UInt8) : ByteArray := ⟨l.toArray⟩
theorem str_size (l : List UInt8) : (str l).size = l.length := by show l.toArray.size = _; simp
theorem str_list (l : List UInt8) : (str l).data.toList = l := rfl
theorem str_of (s : ByteArray) : s = str s.data.toList := by apply ByteArray.ext; simp [str]
theorem str_inj {a b : List UInt8} (h : str a = str b) : a = b := by have := congrArg (fun s : ByteArray => s.data.toList) h; simpa [str] using this
theorem str_add (a b : List UInt8) : str a ++ str b = str (a ++ b) := by apply ByteArray.ext; simp [str]
theorem str_extract (l : List UInt8) (a b : Nat) : (str l).extract a b = str ((l.take b).drop a) := by
  rw [str_of ((str l).extract a b), Lib.extract_data, str_list, List.drop_take]

theorem sl_mid (l : List UInt8) (x y : Int) (a b : Nat) (hx : x = a) (hy : y = b) (h1 : a ≤ b) (h2 : b ≤ l.length) (w : World) :
    (Instr.slice 9 (.string (str l)) (some (.int .i64 x)) (some (.int .i64 y)) none).run Tryz.prog w = .ok (.string (str ((l.take b).drop a))) w := by
  subst hx; subst hy
  rw [run_slice_string w 9 (str l) .i64 .i64 _ _ Tryz.underlying9 (by omega) (by omega) (by rw [str_size]; omega), Int.toNat_natCast, Int.toNat_natCast, str_extract]

theorem add_any (a b : List UInt8) (w : World) (h : a.length + b.length ≤ 4611686018427387904) : (Op.stringOp .add (str a) (str b)).run Tryz.prog w = .ok (.string (str (a ++ b))) w := by
  rw [run_string_add_sum (P := Tryz.prog) w (str a) (str b) (by rw [str_size, str_size]; omega), str_add]
theorem sl_from (l : List UInt8) (x : Int) (a : Nat) (hx : x = a) (h1 : a ≤ l.length) (w : World) :
    (Instr.slice 9 (.string (str l)) (some (.int .i64 x)) none none).run Tryz.prog w = .ok (.string (str (l.drop a))) w := by
  subst hx
  rw [run_slice_string_l w 9 (str l) Tryz.underlying9 .i64 _ (by omega) (by rw [str_size]; omega), Int.toNat_natCast, str_extract, str_size, List.take_of_length_le (Nat.le_refl _)]
theorem sl_to (l : List UInt8) (x : Int) (a : Nat) (hx : x = a) (h1 : a ≤ l.length) (w : World) :
    (Instr.slice 9 (.string (str l)) none (some (.int .i64 x)) none).run Tryz.prog w = .ok (.string (str (l.take a))) w := by
  subst hx
  rw [run_slice_string_h w 9 (str l) Tryz.underlying9 .i64 _ (by omega) (by rw [str_size]; omega), Int.toNat_natCast, str_extract]; rfl
theorem idx_any (l : List UInt8) (x : Int) (a : Nat) (hx : x = a) (h : a < l.length) (w : World) : (Instr.index 9 (.string (str l)) (.int .i64 x)).run Tryz.prog w = .ok (.int .u8 (l[a].toNat : Int)) w := by
  subst hx
  rw [run_index_string w 9 (str l) .i64 _ Tryz.underlying9, dif_pos ⟨by omega, by rw [str_size]; omega⟩]
  simp only [Int.toNat_natCast]
  rfl

theorem rof_sum (l : List UInt8) (w : World) (h : l.length ≤ 4611686018427387904) :
    Calls Tryz.prog 80 #[.string (str l)] w fun e w' => e = .returned (.int .u64 (nfnv none0 l : Nat)) ∧ w = w' := by
  refine (SumC.rof_any (str l) w (by rw [str_size]; unfold maxLen; omega)).mono ?_
  rintro e w' ⟨rfl, rfl⟩
  exact ⟨by rw [← fnv_nat l none0 (by decide)]; rfl, rfl⟩
theorem rword_str (n : Nat) (w : World) (h : n < 18446744073709551616) :
    Calls Tryz.prog 79 #[.int .u64 n] w fun e w' => e = .returned (.string (str (wordB n 8))) ∧ Below w.heap.size w w' := CodeC.rword_any n w h
theorem rword_sum (l : List UInt8) (w : World) :
    Calls Tryz.prog 79 #[.int .u64 (nfnv none0 l : Nat)] w fun e w' => e = .returned (.string (str (sumB l))) ∧ Below w.heap.size w w' :=
  CodeC.rword_any (nfnv none0 l) w (nfnv_lt l none0 (by decide))

theorem rfour_any (n : Nat) (w : World) (h : n < 9223372036854775808) :
    Calls Tryz.prog 78 #[.int .i64 n] w fun e w' => e = .returned (.string (str (wordB n 4))) ∧ Below w.heap.size w w' := by
  have hcut := sl_from (wordB n 8) 4 4 rfl (by rw [wordB_length]; decide)
  rw [wordB_drop] at hcut
  go_enter Tryz.func78, Tryz.ntmps78
  go_wp2_with fail
  refine (rword_str n _ (by omega)).mono ?_
  rintro e w' ⟨rfl, hb⟩
  go_wp2_with fail
  go_ret
  exact ⟨rfl, hb⟩

def ofEnd (p : List UInt8) : Ending := if 131072 < p.length then .returned (.tuple #[.string (str []), .int .i64 4]) else .returned (.tuple #[.string (str (recB p)), .int .i64 0])
theorem ofEnd_long (p : List UInt8) (h : 131072 < p.length) : ofEnd p = .returned (.tuple #[.string (str []), .int .i64 4]) := if_pos h
theorem ofEnd_ok (p : List UInt8) (h : ¬ 131072 < p.length) : ofEnd p = .returned (.tuple #[.string (str (recB p)), .int .i64 0]) := if_neg h

set_option maxHeartbeats 1000000 in
theorem rofp_any (p : List UInt8) (w : World) (hp : p.length ≤ 4611686018427387000) :
    Calls Tryz.prog 39 #[.string (str p)] w fun e w' => e = ofEnd p ∧ Below w.heap.size w w' := by
  have hsz := str_size p
  by_cases h : 131072 < p.length
  · have hE := Lib.hid (ofEnd_long p h)
    have ht : decide (131072 < (p.length : Int)) = true := by simp; omega
    go_enter Tryz.func39, Tryz.ntmps39
    go_wp2_with fail
    go_ret2
    exact ⟨hE.out.symm, Below.refl _ _⟩
  · have hE := Lib.hid (ofEnd_ok p h)
    have ht : decide (131072 < (p.length : Int)) = false := by simp; omega
    have hl4 := wordB_length p.length 4
    have a1 := add_any (wordB p.length 4) p
    have a2 := add_any (wordB p.length 4) (sumB (wordB p.length 4 ++ p))
    have a3 := add_any (headB p) p
    unfold headB at a3
    rw [hl4] at a1 a2
    rw [sumB_length] at a2
    rw [List.length_append, hl4, sumB_length] at a3
    replace a1 := fun w => a1 w (by omega)
    replace a2 := fun w => a2 w (by omega)
    replace a3 := fun w => a3 w (by omega)
    have HL := Lib.hid hl4; clear hl4
    go_enter Tryz.func39, Tryz.ntmps39
    go_wp2_with fail
    refine (rfour_any p.length _ (by omega)).mono ?_
    rintro e w1 ⟨rfl, hb1⟩
    have HB1 := Lib.hid hb1; clear hb1
    go_wp2_with fail
    refine (rof_sum (wordB p.length 4 ++ p) _ (by rw [List.length_append, HL.out]; omega)).mono ?_
    rintro e w2 ⟨rfl, rfl⟩
    go_wp2_with fail
    refine (rword_sum (wordB p.length 4 ++ p) _).mono ?_
    rintro e w3 ⟨rfl, hb3⟩
    have HB3 := Lib.hid (HB1.out.trans (hb3.mono HB1.out.size)); clear hb3
    go_wp2_with fail
    go_ret2
    exact ⟨hE.out.symm, HB3.out⟩
theorem rsize_any (p : List UInt8) (w : World) (hp : p.length ≤ 4611686018427387000) :
    Calls Tryz.prog 73 #[.string (str p)] w fun e w' => e = .returned (.int .i64 ((12 + p.length : Nat) : Int)) ∧ w = w' := by
  have hsz := str_size p
  go_enter Tryz.func73, Tryz.ntmps73
  go_wp2_with fail
  go_ret
  exact ⟨by go_num, rfl⟩

theorem drewN_below {B : Nat} {a w : World} (h : Below B a w) (q : Nat) : Below B a (w.drewN q) := ⟨h.os, h.tape, h.output, h.size, h.block⟩
/-! ### what stands at the front -/
def fEnd (l : List UInt8) : Ending := .returned (.tuple #[.string (str (frontP l)), .string (str (frontR l)), .int .i64 (frontE l : Nat)])
theorem fEnd_bad (l : List UInt8) (c : Nat) (h : frontE l = c) (hc : c ≠ 0) : fEnd l = .returned (.tuple #[.string (str []), .string (str []), .int .i64 (c : Int)]) := by simp [fEnd, frontP, frontR, h, hc]
theorem fEnd_ok (l : List UInt8) (h : frontE l = 0) : fEnd l = .returned (.tuple #[.string (str (payB l)), .string (str (restB l)), .int .i64 0]) := by simp [fEnd, frontP, frontR, h]
theorem front_short (l : List UInt8) (h : l.length < 12) : frontE l = 40 := if_pos h
theorem front_long (l : List UInt8) (h : ¬ l.length < 12) (h2 : 131072 < lenB l) : frontE l = 4 := by rw [frontE, if_neg h, if_pos h2]
theorem front_torn (l : List UInt8) (h : ¬ l.length < 12) (h2 : ¬ 131072 < lenB l) (h3 : l.length < 12 + lenB l) : frontE l = 40 := by rw [frontE, if_neg h, if_neg h2, if_pos h3]
theorem front_ok (l : List UInt8) (h : ¬ l.length < 12) (h2 : ¬ 131072 < lenB l) (h3 : ¬ l.length < 12 + lenB l) (h4 : sumB (l.take 4 ++ payB l) = (l.drop 4).take 8) : frontE l = 0 := by rw [frontE, if_neg h, if_neg h2, if_neg h3, if_pos h4]
theorem front_bad (l : List UInt8) (h : ¬ l.length < 12) (h2 : ¬ 131072 < lenB l) (h3 : ¬ l.length < 12 + lenB l) (h4 : ¬ sumB (l.take 4 ++ payB l) = (l.drop 4).take 8) : frontE l = 41 := by rw [frontE, if_neg h, if_neg h2, if_neg h3, if_neg h4]
theorem str_ne {a b : List UInt8} (h : ¬ a = b) : (!(str a).toList == (str b).toList) = true := by
  rw [ByteArray.toList_eq, ByteArray.toList_eq, str_list, str_list]
  simpa using h
theorem str_same (a : List UInt8) : (!(str a).toList == (str a).toList) = false := by simp
theorem be_step (l : List UInt8) (i : Nat) (h : i < l.length) : beN (l.take (i + 1)) = beN (l.take i) * 256 + l[i].toNat := by
  rw [List.take_succ_eq_append_getElem h, beN_snoc]

theorem be_take (l : List UInt8) (i : Nat) (h : i ≤ 4) : beN (l.take i) < 4294967296 := by
  have h1 := beN_lt (l.take i)
  have h2 : 256 ^ (l.take i).length ≤ 256 ^ 4 := Nat.pow_le_pow_right (by decide) (by rw [List.length_take]; omega)
  exact Nat.lt_of_lt_of_le h1 h2
theorem or_nat (n c : Nat) (hc : c < 256) : n * 256 ||| c = n * 256 + c := by
  have h1 : n * 256 = n <<< 8 := by rw [Nat.shiftLeft_eq]
  rw [h1]
  exact (Nat.shiftLeft_add_eq_or_of_lt (by omega : c < 2 ^ 8) n).symm
theorem or_i64 (n c : Nat) (hn : n < 4294967296) (hc : c < 256) : bits .or .i64 ((n : Int) * 256) (c : Int) = ((n * 256 + c : Nat) : Int) := by
  have e : (n : Int) * 256 = ((n * 256 : Nat) : Int) := by omega
  rw [e]
  show IntKind.i64.wrap ((BitVec.ofInt 64 ((n * 256 : Nat) : Int) ||| BitVec.ofInt 64 (c : Int)).toNat : Int) = _
  have h : (BitVec.ofInt 64 ((n * 256 : Nat) : Int) ||| BitVec.ofInt 64 (c : Int)).toNat = n * 256 + c := by
    rw [BitVec.toNat_or, BitVec.toNat_ofInt, BitVec.toNat_ofInt]
    have e1 : (((n * 256 : Nat) : Int) % (2 ^ 64 : Nat)).toNat = n * 256 := by omega
    have e2 : ((c : Int) % (2 ^ 64 : Nat)).toNat = c := by omega
    rw [e1, e2, or_nat n c hc]
  rw [h, IntKind.wrap_i64]
  omega
theorem or_u64 (n c : Nat) (hn : n < 4294967296) (hc : c < 256) : bits .or .u64 ((n : Int) * 256) (c : Int) = ((n * 256 + c : Nat) : Int) := by
  have e : (n : Int) * 256 = ((n * 256 : Nat) : Int) := by omega
  rw [e, bits_or_u64_nat _ _ (by omega) (by omega), or_nat n c hc]

set_option maxHeartbeats 4000000 in
theorem rfront_any (l : List UInt8) (w : World) (hp : l.length ≤ 4611686018427387000) :
    Calls Tryz.prog 93 #[.string (str l)] w fun e w' => e = fEnd l ∧ Below w.heap.size w w' := by
  have hsz := str_size l
  by_cases h12 : l.length < 12
  · have hE := Lib.hid (fEnd_bad l 40 (front_short l h12) (by decide))
    have ht : decide ((l.length : Int) < 12) = true := by simp; omega
    go_enter Tryz.func93, Tryz.ntmps93
    go_wp2_with fail
    go_ret3
    exact ⟨hE.out.symm, Below.refl _ _⟩
  · have ht : decide ((l.length : Int) < 12) = false := by simp; omega
    go_enter Tryz.func93, Tryz.ntmps93
    go_wp2_with fail
    go_loop [5, 6] (fun vn vi => ∃ i : Nat, i ≤ 4 ∧ vi = .int .i64 i ∧ vn = .int .i64 (beN (l.take i) : Nat)) (fun _ vi => 4 - (intOf vi).toNat)
    case atStart => exact ⟨0, Nat.zero_le _, rfl, rfl⟩
    case round =>
      obtain ⟨i, hi, rfl, rfl⟩ := hrel
      by_cases hlt : i < 4
      · have hdec : decide ((i : Int) < 4) = true := by simp; omega
        have hidx := idx_any l i i rfl (by omega)
        have HS := Lib.hid (be_step l i (by omega))
        have hb := be_take l i hi
        have hc := l[i].toNat_lt
        generalize beN (l.take i) = n at *
        generalize l[i] = c at *
        go_wp2_with fail
        go_round
        case rel => exact ⟨i + 1, by omega, by go_num, by rw [HS.out, or_i64 n c.toNat hb hc]⟩
        case measure => simp [intOf]; omega
      · obtain rfl : i = 4 := by omega
        have hlt4 := lenB_lt l
        change beN (l.take 4) < 4294967296 at hlt4
        by_cases hlong : 131072 < lenB l
        · have hE := Lib.hid (fEnd_bad l 4 (front_long l h12 hlong) (by decide))
          change 131072 < beN (l.take 4) at hlong
          generalize beN (l.take 4) = n at *
          have ht2 : decide (131072 < (n : Int)) = true := by simp; omega
          go_wp2_with fail
          go_ret3
          exact ⟨hE.out.symm, Below.refl _ _⟩
        · by_cases htorn : l.length < 12 + lenB l
          · have hE := Lib.hid (fEnd_bad l 40 (front_torn l h12 hlong htorn) (by decide))
            change ¬ 131072 < beN (l.take 4) at hlong
            change l.length < 12 + beN (l.take 4) at htorn
            generalize beN (l.take 4) = n at *
            have ht2 : decide (131072 < (n : Int)) = false := by simp; omega
            have ht3 : decide ((l.length : Int) < 12 + (n : Int)) = true := by simp; omega
            go_wp2_with fail
            go_ret3
            exact ⟨hE.out.symm, Below.refl _ _⟩
          · have hok := Lib.hid (fun h => fEnd_ok l (front_ok l h12 hlong htorn h))
            have hbad := Lib.hid (fun h => fEnd_bad l 41 (front_bad l h12 hlong htorn h) (by decide))
            have s1 := sl_mid l 12 (12 + (beN (l.take 4) : Int)) 12 (12 + beN (l.take 4)) rfl (by omega) (by omega) (Nat.le_of_not_lt htorn)
            have s2 := sl_to l 4 4 rfl (by omega)
            have s3 := sl_mid l 4 12 4 12 rfl rfl (by omega) (by omega)
            have s4 := sl_from l (12 + (beN (l.take 4) : Int)) (12 + beN (l.take 4)) (by omega) (Nat.le_of_not_lt htorn)
            have e1 : (l.take (12 + beN (l.take 4))).drop 12 = payB l := by rw [payB, List.drop_take, Nat.add_sub_cancel_left]; rfl
            have e3 : (l.take 12).drop 4 = (l.drop 4).take 8 := by rw [List.drop_take]
            have e4 : l.drop (12 + beN (l.take 4)) = restB l := rfl
            rw [e1] at s1
            rw [e3] at s3
            rw [e4] at s4
            have hpl := payB_length l htorn
            have a1 := add_any (l.take 4) (payB l)
            rw [List.length_take, hpl, Nat.min_eq_left (by omega)] at a1
            replace a1 := fun w => a1 w (by have := lenB_lt l; omega)
            have hof := Lib.hid (show (l.take 4 ++ payB l).length ≤ 4611686018427387904 by rw [List.length_append, hpl, List.length_take]; have := lenB_lt l; omega)
            change ¬ 131072 < beN (l.take 4) at hlong
            change ¬ l.length < 12 + beN (l.take 4) at htorn
            clear e1 e3 e4 hpl
            generalize beN (l.take 4) = n at *
            have ht2 : decide (131072 < (n : Int)) = false := by simp; omega
            have ht3 : decide ((l.length : Int) < 12 + (n : Int)) = false := by simp; omega
            generalize (l.drop 4).take 8 = D at *
            generalize payB l = P at *
            generalize l.take 4 ++ P = S at *
            by_cases hs : sumB S = D
            · have HE := Lib.hid (hok.out hs)
              subst hs
              clear hok hbad
              have hne := str_same (sumB S)
              have hw : IntKind.i64.wrap (12 + (n : Int)) = 12 + (n : Int) := by rw [IntKind.wrap_i64]; omega
              go_wp2_with fail
              go_region_with (first
                | (go_at_call 80; refine (rof_sum S _ hof.out).mono ?_; rintro e w' ⟨rfl, rfl⟩)
                | (go_at_call 79; refine (rword_sum S _).mono ?_; rintro e w1 ⟨rfl, hb1⟩; have HB1 : Hid (Below w.heap.size w w1) := Lib.hid ⟨hb1.os, hb1.tape, hb1.output, hb1.size, hb1.block⟩; clear hb1))
              go_wp2_with fail
              go_quiet (fail)
              go_wp2_with fail
              go_ret3
              exact ⟨HE.out.symm, drewN_below HB1.out _⟩
            · have HE := Lib.hid (hbad.out hs)
              have hne := str_ne hs
              clear hok hbad hs
              go_wp2_with fail
              go_region_with (first
                | (go_at_call 80; refine (rof_sum S _ hof.out).mono ?_; rintro e w' ⟨rfl, rfl⟩)
                | (go_at_call 79; refine (rword_sum S _).mono ?_; rintro e w1 ⟨rfl, hb1⟩; have HB1 : Hid (Below w.heap.size w w1) := Lib.hid ⟨hb1.os, hb1.tape, hb1.output, hb1.size, hb1.block⟩; clear hb1))
              go_wp2_with fail
              go_ret3
              exact ⟨HE.out.symm, HB1.out⟩

/-! ### all of them -/
def byteStr (l : List UInt8) : Value := .string (str l)
theorem info_str : (Tryz.prog.info? 9).map (fun i => (i.zero, i.size, i.bytes)) = some (some (.string ⟨#[]⟩), 1, 16) := by kernel_rfl
theorem one_str (v : Value) (h : v.oneCell' = true) : ∀ u ∈ [v], u.oneCell' = true := by
  intro u hu
  rw [List.mem_singleton] at hu
  subst hu
  exact h
theorem cell_str (w : World) (v : Value) (t : TypeId) : ∀ j u, [v][j]? = some u → (w.alloc (.cells #[v] t)).cell? ((⟨w.heap.size, 0, none⟩ : Addr).add j) = some u := by
  intro j u hu
  match j with
  | 0 =>
    rw [Go.WideShapes.add_plain, World.cell?_alloc_at _ _ _ _ rfl]
    simpa using hu
  | j + 1 => simp at hu
/-- where the loop over records stands: u bytes are done, ms is what they were -/
structure AllAt (l : List UInt8) (u : Nat) (ms : List (List UInt8)) : Prop where
  le : u ≤ l.length
  few : 12 * ms.length ≤ u
  all : allB l = (ms ++ (allB (l.drop u)).1, u + (allB (l.drop u)).2.1, (allB (l.drop u)).2.2)
theorem AllAt.start (l : List UInt8) : AllAt l 0 [] := ⟨Nat.zero_le _, Nat.le_refl _, by simp⟩
theorem drop_ne (l : List UInt8) (u : Nat) (h : u < l.length) : l.drop u ≠ [] := by
  intro e
  have := congrArg List.length e
  rw [List.length_drop] at this
  simp at this
  omega
theorem AllAt.next {l : List UInt8} {u : Nat} {ms : List (List UInt8)} (h : AllAt l u ms) (hu : u < l.length) (he : frontE (l.drop u) = 0) : AllAt l (u + (12 + (payB (l.drop u)).length)) (ms ++ [payB (l.drop u)]) := by
  have hf := front_len _ he
  rw [List.length_drop] at hf
  have hpl := payB_length (l.drop u) (by rw [List.length_drop]; omega)
  have e : l.drop (u + (12 + (payB (l.drop u)).length)) = restB (l.drop u) := by rw [hpl, restB, List.drop_drop]
  refine ⟨by omega, by have := h.few; rw [List.length_append, List.length_singleton]; omega, ?_⟩
  rw [e, h.all, all_cons _ (drop_ne l u hu) he, hpl]
  simp only [List.append_assoc, List.singleton_append, Nat.add_assoc]
theorem AllAt.done {l : List UInt8} {u : Nat} {ms : List (List UInt8)} (h : AllAt l u ms) (hu : ¬ u < l.length) : allB l = (ms, u, 0) := by
  rw [h.all, List.drop_of_length_le (by omega), all_nil]; simp
theorem AllAt.bad {l : List UInt8} {u : Nat} {ms : List (List UInt8)} (h : AllAt l u ms) (hu : u < l.length) (he : frontE (l.drop u) ≠ 0) : allB l = (ms, u, frontE (l.drop u)) := by
  rw [h.all, all_bad _ (drop_ne l u hu) he]; simp

/-! ### rows of bytes -/
open CodeM (byteV)
/-- a row of bytes -/
def bytesV (l : List UInt8) : Array Value := (l.map byteV).toArray
theorem bytesV_size (l : List UInt8) : (bytesV l).size = l.length := by simp [bytesV]
theorem bytesV_get (l : List UInt8) (i : Nat) (h : i < l.length) : (bytesV l)[i]? = some (.int .u8 (l[i].toNat : Int)) := by
  simp [bytesV, byteV, List.getElem?_eq_getElem h]

theorem bytesV_set (l : List UInt8) (j : Nat) (c : UInt8) (h : j < l.length) : (bytesV l).set j (.int .u8 (c.toNat : Int)) (by rw [bytesV_size]; exact h) = bytesV (l.set j c) := by
  simp [bytesV, byteV]
theorem row_set (w : World) (b j : Nat) (l : List UInt8) (t : TypeId) (c : UInt8) (h : j < l.length) {fr : Nat × Nat} (hg : w.heap[b]? = some (.cells (bytesV l) t fr)) :
    w.setCell ⟨b, j, none⟩ (.int .u8 (c.toNat : Int)) = w.setRow b (bytesV (l.set j c)) := by
  rw [setCell_eq_setRow w b j (bytesV l) t fr _ hg]
  congr 1
  rw [← bytesV_set l j c h]
  simp [Array.setIfInBounds, bytesV_size, h]

theorem conv_any (l r : List UInt8) (b cp : Nat) (t : TypeId) (w : World) {fr : Nat × Nat} (hg : w.heap[b]? = some (.cells (bytesV (l ++ r)) t fr)) :
    (convert 87 9 (.slice (some ⟨b, 0, none⟩) l.length cp)).run Tryz.prog w = .ok (.string (str l)) w := by
  refine run_convert_bytes_back (P := Tryz.prog) w 87 9 5 ⟨b, 0, none⟩ cp l Tryz.underlying87 Tryz.underlying5 Tryz.underlying9 (fun j hj => ?_)
  rw [Go.WideShapes.add_plain, Nat.zero_add, cell_of_row w b j _ t _ hg, bytesV_get _ _ (by simp; omega), List.getElem_append_left hj]

end FrameC
end Go.Proofs.YtlnbjlidakdmlaaGreatDoor
namespace Go.Proofs.YtlnbjlidakdmlaaGreatDoor
open Go.RowKit
namespace FrameC
open FrameM TextR

theorem fEnd_cases (l : List UInt8) : (frontE l = 0 ∧ fEnd l = .returned (.tuple #[.string (str (payB l)), .string (str (restB l)), .int .i64 0])) ∨
    (∃ c : Nat, frontE l = c ∧ 0 < c ∧ c < 100 ∧ fEnd l = .returned (.tuple #[.string (str []), .string (str []), .int .i64 (c : Int)])) := by
  by_cases h : frontE l = 0
  · exact .inl ⟨h, fEnd_ok l h⟩
  · refine .inr ⟨frontE l, rfl, by omega, ?_, fEnd_bad l _ rfl h⟩
    unfold frontE
    repeat' split
    all_goals omega

theorem below_own {w w' : World} {B : Nat} {v : Value} {L : List ByteArray} (h : OwnT w B v L) (hb : Below w.heap.size w w') : OwnT w' B v L :=
  World.ownsRow.kept h (row := none) ⟨hb.os, hb.tape, hb.output, hb.size, fun k hk _ => hb.block k hk⟩ (by cases v.ownBlock <;> simp)
theorem own_lt {w : World} {B : Nat} {v : Value} {L : List ByteArray} (h : OwnT w B v L) : ∀ k, v.ownBlock = some k → B ≤ k := fun k hk => (World.ownsRow.lt h k hk).1
def aEnd (v : Value) (u c : Nat) : Ending := .returned (.tuple #[v, .int .i64 (u : Int), .int .i64 (c : Int)])
theorem snoc_str {w : World} {B n : Nat} {v : Value} {ms : List (List UInt8)} {m : List UInt8} (h : w.ownsRow B 9 1 v (n + 1) ((ms.map str).map Value.string ++ [Value.string (str m)])) (hn : n = (ms.map str).length) : OwnT w B v ((ms ++ [m]).map str) := by
  rw [List.map_append, List.map_singleton]
  exact snoc h hn

set_option maxHeartbeats 4000000 in
set_option maxRecDepth 100000 in
theorem rall_any (l : List UInt8) (w : World) (hp : l.length ≤ 140737488351232) :
    Calls Tryz.prog 72 #[.string (str l)] w fun e w' => ∃ v, e = aEnd v (allB l).2.1 (allB l).2.2 ∧ OwnT w' w.heap.size v ((allB l).1.map str) ∧ Below w.heap.size w w' := by
  have hsz := str_size l
  obtain ⟨i0, hi, hz0, hz1, hz2⟩ := info_parts info_text
  go_enter Tryz.func72, Tryz.ntmps72
  go_wp2_with fail
  go_loopw [5, 6] (fun vl vu wr => ∃ (u : Nat) (ms : List (List UInt8)), vu = .int .i64 u ∧ Hid (AllAt l u ms) ∧ Hid (OwnT wr w.heap.size vl (ms.map str)) ∧ Hid (Below w.heap.size w wr)) (fun _ vu _ => l.length - (intOf vu).toNat)
  case atStart => exact ⟨0, [], rfl, Lib.hid (AllAt.start l), Lib.hid (OwnT.nil _ _), Lib.hid (Below.refl _ _)⟩
  case round =>
    obtain ⟨u, ms, rfl, HA, HO, HB⟩ := hrel
    rename World => wr
    by_cases hlt : u < l.length
    · have hdec : decide (u < l.length) = true := by simpa using hlt
      have hs := sl_from l u u rfl (by omega)
      have hfew := HA.out.few
      have hlen : (l.drop u).length = l.length - u := List.length_drop
      rcases fEnd_cases (l.drop u) with ⟨h0, hE⟩ | ⟨c, h0, hc1, hc2, hE⟩
      · have HN := Lib.hid (HA.out.next hlt h0)
        have hfl := front_len _ h0
        have hpl := payB_length (l.drop u) (by omega)
        generalize l.drop u = r at *
        have HE := Lib.hid hE
        clear hE h0
        generalize hP : payB r = P at *
        go_wp2_with fail
        refine (rfront_any r _ (by omega)).mono ?_
        rintro e w1 ⟨he, hb1⟩
        rw [HE.out] at he
        subst he
        have HB1 := Lib.hid (HB.out.trans (hb1.mono HB.out.size))
        have HO1 := Lib.hid (below_own HO.out hb1)
        clear hb1 HO HB
        obtain ⟨L, hL⟩ : ∃ L, L = ms.map str := ⟨_, rfl⟩
        have hLl : L.length = ms.length := by rw [hL, List.length_map]
        rw [← hL] at HO1
        have HL := Lib.hid hL; clear hL
        go_wp2_with (at_builtin; refine wpList_one rfl _ _ 42 rfl w.heap.size 9 i0 (.string ⟨#[]⟩) Tryz.underlying42 hi hz0 hz1 hz2 rfl _ _ _ rfl (World.ownsRow.alloc HO1.out _) ⟨w1.heap.size, 0, none⟩ 1 (.string (str P)) rfl (text_cell _ _ _) rfl ?c1 ?c2 ?_)
        case c1 => omega
        case c2 => have := HB1.out.size; simp; omega
        intro v' w2 hown' hg
        have HB2 : Hid (Below w.heap.size w w2) := Lib.hid ((HB1.out.alloc HB1.out.size _).grown hg (by have := HB1.out.size; simp; omega) (own_lt HO1.out))
        have HO2 := Lib.hid (snoc hown' hLl.symm)
        clear hown' hg HO1 HB1
        go_wp2_with fail
        refine (rsize_any P _ (by omega)).mono ?_
        rintro e w3 ⟨rfl, rfl⟩
        go_wp2_with fail
        go_roundw
        case rel => exact ⟨u + (12 + P.length), ms ++ [P], by go_num, HN, by rw [List.map_append, List.map_singleton, ← HL.out]; exact HO2, HB2⟩
        case measure => simp [intOf]; omega
      · have HD := Lib.hid (HA.out.bad hlt (by omega))
        rw [h0] at HD
        generalize l.drop u = r at *
        have HE := Lib.hid hE
        clear hE h0
        have hcz : ((c : Int) == 0) = false := beq_eq_false_iff_ne.2 (by omega)
        go_wp2_with fail
        refine (rfront_any r _ (by omega)).mono ?_
        rintro e w1 ⟨he, hb1⟩
        rw [HE.out] at he
        subst he
        have HB1 := Lib.hid (HB.out.trans (hb1.mono HB.out.size))
        have HO1 := Lib.hid (below_own HO.out hb1)
        clear hb1 HO HB
        go_wp2_with fail
        go_ret3
        exact ⟨_, by rw [HD.out]; rfl, by rw [HD.out]; exact HO1.out, HB1.out⟩
    · have hdec : decide (u < l.length) = false := by simpa using hlt
      have HD := Lib.hid (HA.out.done hlt)
      go_wp2_with fail
      go_ret3
      exact ⟨_, by rw [HD.out]; rfl, by rw [HD.out]; exact HO.out, HB.out⟩
end FrameC
end Go.Proofs.YtlnbjlidakdmlaaGreatDoor
