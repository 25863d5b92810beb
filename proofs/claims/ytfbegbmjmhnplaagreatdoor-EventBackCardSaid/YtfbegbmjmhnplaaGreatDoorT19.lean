/-
  What the proof of EvBoth stands on, part 19.
-/
import Derived.Ground.SlgnProg
import Derived.Shelf.SortG.Plain
import Derived.Sort.OwnSortedInts
import Derived.Test.YtfbegbmjmhnplaaGreatDoorT18
set_option linter.unusedSimpArgs false
set_option linter.unusedVariables false
set_option maxHeartbeats 16000000
namespace Go.Proofs.YtfbegbmjmhnplaaGreatDoor
open Go.Lib (hid)
section
open Go.RowKit
namespace EvL
open StrC EvA
theorem zra (B b : Nat) (bs : List Value) (s : ByteArray) (w : World) (h : Lib.IsBuilder 117 5 B b bs w) (hlen : bs.length + s.size ≤ 140737488355328) (hBw : B ≤ w.heap.size) :
 Calls Tryz.prog 67 #[.pointer (some ⟨b, 0, none⟩), .string s] w fun e w' => e = .returned (.tuple #[.int .i64 s.size, .nilIface]) ∧ (Lib.BuilderAt 117 5 B b (.pointer (some ⟨b, 0, none⟩)) (bs ++ Lib.strCells s) w' ∧ Below B w w') :=
 Any.Builder_WriteString { Tryz.lays155 with } Tryz.Builder_Extra_155 B b bs s w h hlen hBw
theorem zrb (B b n : Nat) (w : World) (hB : B ≤ b) (hbk : w.heap[b]? = some (.cells #[.pointer none, .slice none 0 0] 117 (0, 0))) (hBw : B ≤ w.heap.size) (hn : n ≤ 281474976710656) :
 Calls Tryz.prog 66 #[.pointer (some ⟨b, 0, none⟩), .int .i64 n] w fun e w' => e = .returned (.tuple #[]) ∧ (Lib.BuilderAt 117 5 B b (.pointer (some ⟨b, 0, none⟩)) [] w' ∧ Below B w w') :=
 Any.Builder_Grow_fresh { Tryz.lays155 with } Tryz.Builder_Extra_155 B b n w hB hbk hBw hn
theorem zrc (B b : Nat) (l : List UInt8) (w : World) (h : Lib.IsBuilder 117 5 B b (Lib.byteCells l) w) (hBw : B ≤ w.heap.size) :
 Calls Tryz.prog 68 #[.pointer (some ⟨b, 0, none⟩)] w fun e w' => e = .returned (.string ⟨l.toArray⟩) ∧ Below B w w' :=
 Any.Builder_String_any { Tryz.lays155 with } Tryz.Builder_Extra_155 B b l w h hBw
theorem zrd (s : ByteArray) (c : UInt8) (w : World) :
 Calls Tryz.prog 154 #[.string s, .string ⟨#[c]⟩] w fun e w' => e = .returned (.int .i64 (Lib.countByte s.data.toList c)) ∧ w = w' :=
 (Any.strings_Count_one { Tryz.lays155 with } s c w).mono fun _ _ h => ⟨h.1, h.2.symm⟩
theorem pindex_any (s : ByteArray) (c : UInt8) (w : World) :
 Calls Tryz.prog 155 #[.string s, .string ⟨#[c]⟩] w fun e w' => e = .returned (.int .i64 (Lib.indexByte s.data.toList c)) ∧ w = w' := by
 have H : Hid (Calls Tryz.prog 188 #[.string s, .string ⟨#[c]⟩] w fun e w' => e = .returned (.int .i64 (Lib.indexByte s.data.toList c)) ∧ w = w') := hid ((Tryz.stringslite_Index_one s c w).mono fun _ _ h => ⟨h.1, h.2.symm⟩)
 go_enter Tryz.func155, Tryz.ntmps155
 go_wp2_with (go_at_call 188; refine H.out.mono ?_; rintro e w' ⟨rfl, rfl⟩)
 go_ret
 exact ⟨rfl, rfl⟩
theorem zre {a b : UInt8} {l : B} (h : ∀ c ∈ l, c ≠ a) : swapB a b l = l := by
 unfold swapB
 conv => rhs; rw [← List.map_id l]
 exact List.map_congr_left (fun c hc => by simp [h c hc])
theorem zrf (a b : UInt8) (x y : B) : swapB a b (x ++ y) = swapB a b x ++ swapB a b y := by unfold swapB; exact List.map_append
theorem zrg (A : B) (s : ByteArray) : Lib.byteCells A ++ Lib.strCells s = Lib.byteCells (A ++ s.data.toList) := by rw [Lib.strCells_eq, ← Lib.byteCells_append]
theorem slLH (l : B) (i j : Nat) (y : Int) (hy : y = j) (h1 : i ≤ j) (h2 : j ≤ l.length) (w : World) : (Instr.slice 9 (.string (str l)) (some (.int .i64 (i : Int))) (some (.int .i64 y)) none).run Tryz.prog w = .ok (.string (str ((l.drop i).take (j - i)))) w := by
 subst hy
 rw [run_slice_string w 9 (str l) .i64 .i64 _ _ Tryz.underlying9 (by omega) (by omega) (by rw [zbm]; omega), Int.toNat_natCast, Int.toNat_natCast, zpi]
set_option maxRecDepth 1000000 in
/-- strings.Replace, where something is replaced -/
theorem zrh (a b : UInt8) (hab : a ≠ b) (l : B) (w : World) (hl : l.length ≤ 140737488351232) (h0 : l.count a ≠ 0) :
 Calls Tryz.prog 124 #[.string (str l), .string ⟨#[a]⟩, .string ⟨#[b]⟩, .int .i64 (-1)] w fun e w' => e = .returned (.string (str (swapB a b l))) ∧ Below w.heap.size w w' := by
 have hsz := zbm l
 have HC := hid (zrd (str l) a w)
 rw [zbn] at HC
 unfold Lib.countByte at HC
 have hne : ((⟨#[a]⟩ : ByteArray).toList == (⟨#[b]⟩ : ByteArray).toList) = false := by
  refine (Lib.bytes_beq_false_iff _ _).2 (fun e => hab ?_)
  have := congrArg (fun s : ByteArray => s.data.toList) e
  simpa using this
 obtain ⟨K, hK⟩ : ∃ K, l.count a = K := ⟨_, rfl⟩
 have hKl : K ≤ l.length := by rw [← hK]; exact List.count_le_length
 have HK0 := hid hK
 rw [hK] at HC h0
 have hcz : ((K : Int) == 0) = false := beq_eq_false_iff_ne.2 (by omega)
 have hK1 : 1 ≤ K := by omega
 obtain ⟨SW, hSW⟩ : ∃ SW, swapB a b l = SW := ⟨_, rfl⟩
 have HSW := hid hSW
 have HSL : Hid (SW.length = l.length) := hid (by rw [← hSW]; exact zod a b l)
 have HAB := hid hab
 rw [hSW]
 have hab2 : (a == b) = false := by simpa using hab
 have hn0 : IntKind.i64.wrap ((l.length : Int) + IntKind.i64.wrap ((K : Int) * 0)) = (l.length : Int) := by simp [IntKind.wrap, IntKind.bits, IntKind.signed]; omega
 clear hK hSW hab h0
 go_enter Tryz.func124, Tryz.ntmps124
 go_wp2_with (first | (go_at_call 154; refine HC.out.mono ?_; rintro e w' ⟨rfl, rfl⟩) | fail)
 refine (zrb w.heap.size w.heap.size l.length _ (Nat.le_refl _) (heap_alloc_new w _) (by simp) (by omega)).mono ?_
 rintro e w1 ⟨rfl, hb0, hb1⟩
 have H1 : Hid (Lib.IsBuilder 117 5 w.heap.size w.heap.size (Lib.byteCells []) w1) := hid (Or.inr hb0)
 have Hb1 := hid (((Below.refl w.heap.size w).alloc (Nat.le_refl _) _).trans hb1)
 clear hb0 hb1 HC hn0
 go_wp2_with fail
 go_loopw [11, 53] (fun s11 s53 wx => ∃ (i s : Nat) (r A : B), s53 = .int .i64 i ∧ s11 = .int .i64 s ∧ i ≤ K ∧ s ≤ l.length ∧ Hid (A.length = s) ∧ Hid (Lib.IsBuilder 117 5 w.heap.size w.heap.size (Lib.byteCells A) wx) ∧ Hid (Below w.heap.size w wx) ∧ Hid (l.drop s = r) ∧ Hid (r.count a = K - i) ∧ Hid (A ++ swapB a b r = SW)) (fun _ v _ => K - (intOf v).toNat)
 case atStart => exact ⟨0, 0, l, [], rfl, rfl, Nat.zero_le _, Nat.zero_le _, hid rfl, H1, Hb1, hid rfl, hid HK0.out, hid HSW.out⟩
 case round =>
  obtain ⟨i, s, r, A, rfl, rfl, hi, hs, HAL, HB, HW, HD, HCT, HE⟩ := hrel
  rename World => wr
  have hrl : r.length = l.length - s := by rw [← HD.out, List.length_drop]
  by_cases hlt : i < K
  · have hdec : decide ((i : Int) < (K : Int)) = true := decide_eq_true (by omega)
    obtain ⟨x, y, hxy, hx⟩ : ∃ x y, r = x ++ a :: y ∧ ∀ c ∈ x, c ≠ a := by
     rcases VerM.zag a r with h | h
     · have := HCT.out
       rw [List.count_eq_zero_of_not_mem (fun hm => h a hm rfl)] at this
       omega
     · exact h
    have HIX := hid (pindex_any (str r) a wr)
    rw [zbn, hxy, ← Lib.index_one, VerM.zai y hx, ← hxy] at HIX
    have hxl : x.length + 1 ≤ l.length - s := by rw [← hrl, hxy]; simp
    have s1 := fun W => slF l s (s : Int) rfl hs W
    rw [HD.out] at s1
    have s2 := fun W => slLH l s (s + x.length) ((s : Int) + (x.length : Int)) (by omega) (by omega) (by omega) W
    rw [HD.out, hxy, Nat.add_sub_cancel_left, List.take_left' rfl] at s2
    have HN1 : Hid (∀ W, Lib.IsBuilder 117 5 w.heap.size w.heap.size (Lib.byteCells A) W → w.heap.size ≤ W.heap.size → Calls Tryz.prog 67 #[.pointer (some ⟨w.heap.size, 0, none⟩), .string (str x)] W fun e w' => e = .returned (.tuple #[.int .i64 x.length, .nilIface]) ∧ (Lib.BuilderAt 117 5 w.heap.size w.heap.size (.pointer (some ⟨w.heap.size, 0, none⟩)) (Lib.byteCells (A ++ x)) w' ∧ Below w.heap.size W w')) := hid (fun W h1 h2 => by
     have := zra w.heap.size w.heap.size _ (str x) W h1 (by rw [Lib.byteCells_length, zbm, HAL.out]; omega) h2
     rwa [zrg, zbn, zbm] at this)
    have HN2 : Hid (∀ W, Lib.IsBuilder 117 5 w.heap.size w.heap.size (Lib.byteCells (A ++ x)) W → w.heap.size ≤ W.heap.size → Calls Tryz.prog 67 #[.pointer (some ⟨w.heap.size, 0, none⟩), .string ⟨#[b]⟩] W fun e w' => e = .returned (.tuple #[.int .i64 1, .nilIface]) ∧ (Lib.BuilderAt 117 5 w.heap.size w.heap.size (.pointer (some ⟨w.heap.size, 0, none⟩)) (Lib.byteCells (A ++ x ++ [b])) w' ∧ Below w.heap.size W w')) := hid (fun W h1 h2 => by
     have := zra w.heap.size w.heap.size _ (⟨#[b]⟩ : ByteArray) W h1 (by rw [Lib.byteCells_length, List.length_append, HAL.out]; show s + x.length + 1 ≤ _; omega) h2
     rwa [zrg] at this)
    have HNX : Hid ((A ++ x ++ [b]).length = s + x.length + 1 ∧ l.drop (s + x.length + 1) = y ∧ y.count a = K - (i + 1) ∧ (A ++ x ++ [b]) ++ swapB a b y = SW) := hid ⟨by simp [HAL.out]; omega, by
     rw [Nat.add_assoc, ← List.drop_drop, HD.out, hxy, show x ++ a :: y = (x ++ [a]) ++ y by simp, List.drop_left' (by simp)], by
     have h1 := HCT.out
     rw [hxy, List.count_append, List.count_eq_zero_of_not_mem (fun hm => hx a hm rfl), List.count_cons_self] at h1
     omega, by
     rw [← HE.out, hxy, zrf, zre hx]
     simp [swapB]⟩
    have hs0 : (s : Int) + (x.length : Int) ≤ 140737488351232 := by omega
    have hBw : w.heap.size ≤ wr.heap.size := HW.out.size
    have HXB : Hid (s + x.length + 1 ≤ l.length) := hid (by omega)
    clear hrl hxy hx HAL HD HCT HE hxl
    obtain ⟨xl, hxl⟩ : ∃ xl, x.length = xl := ⟨_, rfl⟩
    rw [hxl] at HIX s2 HN1 HNX hs0 HXB
    go_wp2_with (first | (go_at_call 155; refine HIX.out.mono ?_; rintro e w' ⟨rfl, rfl⟩) | fail)
    refine (HN1.out _ HB.out hBw).mono ?_
    rintro e w3 ⟨rfl, h3, hb3⟩
    have H3 := hid h3
    have Hb3 := hid (HW.out.trans hb3)
    have hBw3 : w.heap.size ≤ w3.heap.size := Hb3.out.size
    clear h3 hb3
    go_wp2_with fail
    refine (HN2.out _ (Or.inr H3.out) hBw3).mono ?_
    rintro e w4 ⟨rfl, h4, hb4⟩
    have H4 : Hid (Lib.IsBuilder 117 5 w.heap.size w.heap.size (Lib.byteCells (A ++ x ++ [b])) w4) := hid (Or.inr h4)
    have Hb4 := hid (Hb3.out.trans hb4)
    clear h4 hb4
    go_wp2_with fail
    go_roundw
    case rel => exact ⟨i + 1, s + xl + 1, y, A ++ x ++ [b], by go_num, by go_num, hlt, HXB.out, hid HNX.out.1, H4, Hb4, hid HNX.out.2.1, hid HNX.out.2.2.1, hid HNX.out.2.2.2⟩
    case measure => simp [intOf]; omega
  · have hdec : decide ((i : Int) < (K : Int)) = false := decide_eq_false (by omega)
    have hiK : i = K := by omega
    have s1 := fun W => slF l s (s : Int) rfl hs W
    rw [HD.out] at s1
    have hfin : A ++ r = SW := by
     rw [← HE.out, zre (fun c hc e => by
      have h1 := HCT.out
      rw [hiK, Nat.sub_self, List.count_eq_zero] at h1
      rw [e] at hc
      exact h1 hc)]
    have HN1 : Hid (∀ W, Lib.IsBuilder 117 5 w.heap.size w.heap.size (Lib.byteCells A) W → w.heap.size ≤ W.heap.size → Calls Tryz.prog 67 #[.pointer (some ⟨w.heap.size, 0, none⟩), .string (str r)] W fun e w' => e = .returned (.tuple #[.int .i64 r.length, .nilIface]) ∧ (Lib.BuilderAt 117 5 w.heap.size w.heap.size (.pointer (some ⟨w.heap.size, 0, none⟩)) (Lib.byteCells SW) w' ∧ Below w.heap.size W w')) := hid (fun W h1 h2 => by
     have := zra w.heap.size w.heap.size _ (str r) W h1 (by rw [Lib.byteCells_length, zbm, HAL.out]; omega) h2
     rwa [zrg, zbn, zbm, hfin] at this)
    have hBw : w.heap.size ≤ wr.heap.size := HW.out.size
    clear hfin HAL HD HCT HE
    go_wp2_with fail
    refine (HN1.out _ HB.out hBw).mono ?_
    rintro e w3 ⟨rfl, h3, hb3⟩
    have H3 := hid h3
    have Hb3 := hid (HW.out.trans hb3)
    have hBw3 : w.heap.size ≤ w3.heap.size := Hb3.out.size
    clear h3 hb3
    go_wp2_with fail
    refine (zrc w.heap.size w.heap.size _ w3 (Or.inr H3.out) hBw3).mono ?_
    rintro e w5 ⟨rfl, hb5⟩
    have Hb5 := hid (Hb3.out.trans hb5)
    clear hb5
    go_wp2_with fail
    go_ret
    exact ⟨rfl, Hb5.out⟩
theorem zri (a b : UInt8) (hab : a ≠ b) (l : B) (w : World) (h0 : l.count a = 0) :
 Calls Tryz.prog 124 #[.string (str l), .string ⟨#[a]⟩, .string ⟨#[b]⟩, .int .i64 (-1)] w fun e w' => e = .returned (.string (str (swapB a b l))) ∧ Below w.heap.size w w' := by
 have HC := hid (zrd (str l) a w)
 rw [zbn] at HC
 unfold Lib.countByte at HC
 rw [h0] at HC
 have hne : ((⟨#[a]⟩ : ByteArray).toList == (⟨#[b]⟩ : ByteArray).toList) = false := by
  refine (Lib.bytes_beq_false_iff _ _).2 (fun e => hab ?_)
  have := congrArg (fun s : ByteArray => s.data.toList) e
  simpa using this
 have hab2 : (a == b) = false := by simpa using hab
 rw [zre (fun c hc e => by rw [e] at hc; exact (List.count_eq_zero.1 h0) hc)]
 clear h0 hab
 go_enter Tryz.func124, Tryz.ntmps124
 go_wp2_with (first | (go_at_call 154; refine HC.out.mono ?_; rintro e w' ⟨rfl, rfl⟩) | fail)
 go_ret
 exact ⟨rfl, Below.refl _ _⟩
theorem zrj (a b : UInt8) (hab : a ≠ b) (l : B) (w : World) (hl : l.length ≤ 140737488351232) :
 Calls Tryz.prog 90 #[.string (str l), .string ⟨#[a]⟩, .string ⟨#[b]⟩] w fun e w' => e = .returned (.string (str (swapB a b l))) ∧ Below w.heap.size w w' := by
 have H : Hid (Calls Tryz.prog 124 #[.string (str l), .string ⟨#[a]⟩, .string ⟨#[b]⟩, .int .i64 (-1)] w fun e w' => e = .returned (.string (str (swapB a b l))) ∧ Below w.heap.size w w') := hid (by
  by_cases h0 : l.count a = 0
  · exact zri a b hab l w h0
  · exact zrh a b hab l w hl h0)
 go_enter Tryz.func90, Tryz.ntmps90
 go_wp2_with (first | (go_at_call 124; refine H.out.mono ?_; rintro e w' ⟨rfl, hb⟩) | fail)
 go_ret
 exact ⟨rfl, hb⟩
end EvL
end
end Go.Proofs.YtfbegbmjmhnplaaGreatDoor
section
namespace Go.Proofs
open Go.Shelf
def Tryz.sortFd_ren : Go.Shelf.Ren := ⟨fun | 53 => 74 | 64 => 114 | 63 => 113 | 78 => 146 | 79 => 147 | 70 => 137 | 71 => 138 | 72 => 139 | 73 => 140 | 74 => 141 | 75 => 142 | 59 => 143 | 76 => 144 | 77 => 145 | 88 => 174 | 89 => 175 | 90 => 176 | 91 => 177 | 92 => 178 | 68 => 179 | 96 => 203 | n => n, fun | 22 => 75 | 23 => 77 | 3 => 3 | 51 => 107 | 0 => 0 | 67 => 25 | 69 => 24 | 4 => 4 | 61 => 186 | 60 => 185 | 44 => 191 | 5 => 5 | 9 => 9 | 75 => 219 | 79 => 223 | 83 => 253 | 84 => 254 | n => n, fun | n => n⟩
theorem Tryz.sortFd : Go.Proofs.SlLaysN.n53 Tryz.prog Tryz.sortFd_ren := {
 mixed := by kernel_rfl
 f53 := ⟨Tryz.f74.name, by decide, Tryz.func74.trans (congrArg some (by kernel_rfl))⟩
 f59 := ⟨Tryz.f143.name, by decide, Tryz.func143.trans (congrArg some (by kernel_rfl))⟩
 f63 := ⟨Tryz.f113.name, by decide, Tryz.func113.trans (congrArg some (by kernel_rfl))⟩
 f64 := Tryz.func114.trans (congrArg some (by kernel_rfl))
 f68 := ⟨Tryz.f179.name, by decide, Tryz.func179.trans (congrArg some (by kernel_rfl))⟩
 f70 := ⟨Tryz.f137.name, by decide, Tryz.func137.trans (congrArg some (by kernel_rfl))⟩
 f71 := ⟨Tryz.f138.name, by decide, Tryz.func138.trans (congrArg some (by kernel_rfl))⟩
 f72 := ⟨Tryz.f139.name, by decide, Tryz.func139.trans (congrArg some (by kernel_rfl))⟩
 f73 := ⟨Tryz.f140.name, by decide, Tryz.func140.trans (congrArg some (by kernel_rfl))⟩
 f74 := ⟨Tryz.f141.name, by decide, Tryz.func141.trans (congrArg some (by kernel_rfl))⟩
 f75 := ⟨Tryz.f142.name, by decide, Tryz.func142.trans (congrArg some (by kernel_rfl))⟩
 f76 := ⟨Tryz.f144.name, by decide, Tryz.func144.trans (congrArg some (by kernel_rfl))⟩
 f77 := ⟨Tryz.f145.name, by decide, Tryz.func145.trans (congrArg some (by kernel_rfl))⟩
 f78 := Tryz.func146.trans (congrArg some (by kernel_rfl))
 f79 := Tryz.func147.trans (congrArg some (by kernel_rfl))
 f88 := ⟨Tryz.f174.name, by decide, Tryz.func174.trans (congrArg some (by kernel_rfl))⟩
 f89 := Tryz.func175.trans (congrArg some (by kernel_rfl))
 f90 := Tryz.func176.trans (congrArg some (by kernel_rfl))
 f91 := ⟨Tryz.f177.name, by decide, Tryz.func177.trans (congrArg some (by kernel_rfl))⟩
 f92 := ⟨Tryz.f178.name, by decide, Tryz.func178.trans (congrArg some (by kernel_rfl))⟩
 f96 := ⟨Tryz.f203.name, by decide, Tryz.func203.trans (congrArg some (by kernel_rfl))⟩
 t0 := Tryz.underlying0
 a0 := Tryz.isAgg0
 z0 := Tryz.sizeOf0
 v0 := Tryz.zeroValue0
 t3 := Tryz.underlying3
 a3 := Tryz.isAgg3
 z3 := Tryz.sizeOf3
 v3 := Tryz.zeroValue3
 t4 := Tryz.underlying4
 a4 := Tryz.isAgg4
 z4 := Tryz.sizeOf4
 v4 := Tryz.zeroValue4
 t5 := Tryz.underlying5
 a5 := Tryz.isAgg5
 z5 := Tryz.sizeOf5
 v5 := Tryz.zeroValue5
 t9 := Tryz.underlying9
 a9 := Tryz.isAgg9
 z9 := Tryz.sizeOf9
 v9 := Tryz.zeroValue9
 t22 := Tryz.underlying75
 a22 := Tryz.isAgg75
 z22 := Tryz.sizeOf75
 v22 := Tryz.zeroValue75
 t23 := Tryz.underlying77
 a23 := Tryz.isAgg77
 z23 := Tryz.sizeOf77
 v23 := Tryz.zeroValue77
 t44 := Tryz.underlying191
 a44 := Tryz.isAgg191
 z44 := Tryz.sizeOf191
 v44 := Tryz.zeroValue191
 t51 := Tryz.underlying107
 a51 := Tryz.isAgg107
 z51 := Tryz.sizeOf107
 v51 := Tryz.zeroValue107
 t60 := Tryz.underlying185
 a60 := Tryz.isAgg185
 z60 := Tryz.sizeOf185
 v60 := Tryz.zeroValue185
 t61 := Tryz.underlying186
 a61 := Tryz.isAgg186
 z61 := Tryz.sizeOf186
 v61 := Tryz.zeroValue186
 t67 := Tryz.underlying25
 a67 := Tryz.isAgg25
 z67 := Tryz.sizeOf25
 v67 := Tryz.zeroValue25
 t69 := Tryz.underlying24
 a69 := Tryz.isAgg24
 z69 := Tryz.sizeOf24
 v69 := Tryz.zeroValue24
 t75 := Tryz.underlying219
 a75 := Tryz.isAgg219
 z75 := Tryz.sizeOf219
 v75 := Tryz.zeroValue219
 t79 := Tryz.underlying223
 a79 := Tryz.isAgg223
 z79 := Tryz.sizeOf223
 v79 := Tryz.zeroValue223
 t83 := Tryz.underlying253
 a83 := Tryz.isAgg253
 z83 := Tryz.sizeOf253
 v83 := Tryz.zeroValue253
 t84 := Tryz.underlying254
 a84 := Tryz.isAgg254
 z84 := Tryz.sizeOf254
 v84 := Tryz.zeroValue254 }
end Go.Proofs
end
namespace Go.Proofs.YtfbegbmjmhnplaaGreatDoor
open Go.Lib (hid)
section
open Go.RowKit Go.Sort Go.Shelf
namespace EvF
def zrk (k : Nat) : List Int := match k with
 | 1 => [0, 4]
 | 2 => [0, 1, 2, 3, 4, 5, 6]
 | 3 => [0, 1, 2]
 | 4 => [0, 1, 2]
 | 5 => [0, 1, 2, 9]
 | 6 => [0, 1, 7]
 | 7 => [0, 1, 7]
 | 8 => [0, 7]
 | 9 => [0, 7, 8]
 | 10 => [0, 7, 8]
 | _ => []
theorem zrl : (Tryz.prog.info? 77).map (fun i => (i.zero, i.size, i.bytes)) = some (some (.int .i64 0), 1, 8) := by kernel_rfl
def FRow (w : World) (D : Nat) (v : Value) (L : List Int) : Prop := w.ownsRow D 77 1 v L.length (L.map (Value.int .i64))
def FieldsE (L : List Int) (w : World) (e : Ending) (w' : World) : Prop := ∃ v, e = .returned v ∧ FRow w' w.heap.size v L ∧ Below w.heap.size w w'
theorem zrm (w : World) (l : List Value) (t : TypeId) : ∀ j u, l[j]? = some u → (w.alloc (.cells l.toArray t)).cell? ((⟨w.heap.size, 0, none⟩ : Addr).add j) = some u := by
 intro j u hu
 rw [Go.WideShapes.add_plain, Nat.zero_add]
 simp only [World.cell?, heap_alloc_new]
 simpa using hu
theorem zrn (l : List Int) : ∀ u ∈ l.map (Value.int .i64), u.oneCell' = true := by
 intro u hu
 obtain ⟨x, -, rfl⟩ := List.mem_map.1 hu
 rfl
theorem zro {zs ss : List Int} (hp : zs.Perm ss) (hs : ss.Pairwise (· ≤ ·)) : zs.mergeSort (fun x y => decide (x ≤ y)) = ss := by
 have h1 : (zs.mergeSort (fun x y => decide (x ≤ y))).Pairwise (fun x y => decide (x ≤ y) = true) := List.pairwise_mergeSort (fun a b c => by simp; omega) (fun a b => by simp; omega) zs
 have h2 := List.mergeSort_perm zs (fun x y => decide (x ≤ y))
 exact List.Perm.eq_of_pairwise (le := fun x y => x ≤ y) (fun a b _ _ h k => Int.le_antisymm h k) (h1.imp fun h => by simpa using h) hs (h2.trans hp)
theorem zrp {w : World} {D : Nat} {v : Value} (zs ss : List Int) (hm : zs.mergeSort (fun x y => decide (x ≤ y)) = ss) (hl : ss.length = zs.length) (h0 : 0 < zs.length) (hs : zs.length ≤ 1000) (hown : FRow w D v zs) :
 ∃ g cp, v = .slice (some ⟨g, 0, none⟩) zs.length cp ∧ D ≤ g ∧ Calls Tryz.prog 74 #[.slice (some ⟨g, 0, none⟩) zs.length cp] w fun e w' => e = .returned (.tuple #[]) ∧ FRow w' D (.slice (some ⟨g, 0, none⟩) zs.length cp) ss ∧ w.grownBy w' (some g) := by
 rcases hown.2 with ⟨hnil, hz⟩ | ⟨g, cp, cur, rfl, hbase, hblk, h1, h2, h3, h4⟩
 · omega
 · have hgl : g < w.heap.size := (Array.getElem?_eq_some_iff.1 hblk).1
   refine ⟨g, cp, rfl, hbase, (AnyG.slices_Sort_int Tryz.sortFd g 0 cp zs w (holds_of_blockI hblk (by rw [Nat.mul_one] at h4; exact h4)) hgl (by omega)).mono ?_⟩
   rintro e w' ⟨rfl, n, os, rfl⟩
   rw [hm]
   have ho := ownsRow_sortedI (n := n) (os := os) hl hbase hblk h1 h2 h3
   refine ⟨rfl, ?_, grownBy_sortedI _⟩
   unfold FRow
   rw [hl]
   exact ho
set_option maxRecDepth 100000 in
theorem zrq (w : World) : Calls Tryz.prog 32 #[.int .u8 1] w (FieldsE [0, 4] w) := by
 obtain ⟨i0, hi, hz0, hz1, hz2⟩ := info_parts zrl
 have hm : ([0, 4] : List Int).mergeSort (fun x y => decide (x ≤ y)) = [0, 4] := zro (by decide) (by decide)
 go_enter Tryz.func32, Tryz.ntmps32
 go_wp2_with (first | (at_builtin; refine wpList_append_own _ rfl _ _ 75 rfl w.heap.size 77 i0 (.int .i64 0) 1 8 Tryz.underlying75 hi hz0 hz1 hz2 rfl (by decide) _ 0 [] rfl (World.ownsRow.alloc (World.ownsRow_nil w w.heap.size 77 1) _) ⟨w.heap.size, 0, none⟩ 2 2 [.int .i64 0, .int .i64 4] rfl rfl ?c1 ?c2 ?c3 ?c4 ?c5 ?_) | fail)
 case c1 => exact zrm w [.int .i64 0, .int .i64 4] 77
 case c2 => exact zrn [0, 4]
 case c3 => unfold maxLen; decide
 case c4 => decide
 case c5 => simp
 intro v1 w1 hown1 hg1 _
 have hb1 : Below w.heap.size w w1 := ((Below.refl w.heap.size w).alloc (Nat.le_refl _) _).grown hg1 (by simp) (fun j hj => by cases hj)
 have hrow : FRow w1 w.heap.size v1 [0, 4] := hown1
 obtain ⟨g, cp, rfl, hbase, HS⟩ := zrp [0, 4] [0, 4] hm rfl (by decide) (by decide) hrow
 have HSH := hid HS
 have HB := hid hb1
 clear HS
 go_wp2_with (first | (go_at_call 74; refine HSH.out.mono ?_; rintro e w' ⟨rfl, ho, hg⟩) | fail)
 go_ret
 exact ⟨_, rfl, ho, HB.out.grown hg HB.out.size (fun j hj => by cases hj; exact hbase)⟩
set_option maxRecDepth 100000 in
theorem zrr (w : World) : Calls Tryz.prog 32 #[.int .u8 2] w (FieldsE [0, 1, 2, 3, 4, 5, 6] w) := by
 obtain ⟨i0, hi, hz0, hz1, hz2⟩ := info_parts zrl
 have hm : ([1, 2, 3, 5, 6, 0, 4] : List Int).mergeSort (fun x y => decide (x ≤ y)) = [0, 1, 2, 3, 4, 5, 6] := zro (by decide) (by decide)
 go_enter Tryz.func32, Tryz.ntmps32
 go_wp2_with (first | (at_builtin; refine wpList_append_own _ rfl _ _ 75 rfl w.heap.size 77 i0 (.int .i64 0) 1 8 Tryz.underlying75 hi hz0 hz1 hz2 rfl (by decide) _ 0 [] rfl (World.ownsRow.alloc (World.ownsRow_nil w w.heap.size 77 1) _) ⟨w.heap.size, 0, none⟩ 5 5 [.int .i64 1, .int .i64 2, .int .i64 3, .int .i64 5, .int .i64 6] rfl rfl ?c1 ?c2 ?c3 ?c4 ?c5 ?_) | fail)
 case c1 => exact zrm w [.int .i64 1, .int .i64 2, .int .i64 3, .int .i64 5, .int .i64 6] 77
 case c2 => exact zrn [1, 2, 3, 5, 6]
 case c3 => unfold maxLen; decide
 case c4 => decide
 case c5 => simp
 intro v1 w1 hown1 hg1 _
 have hb1 : Below w.heap.size w w1 := ((Below.refl w.heap.size w).alloc (Nat.le_refl _) _).grown hg1 (by simp) (fun j hj => by cases hj)
 go_wp2_with (first | (at_builtin; refine wpList_append_own _ rfl _ _ 75 rfl w.heap.size 77 i0 (.int .i64 0) 1 8 Tryz.underlying75 hi hz0 hz1 hz2 rfl (by decide) _ 5 ([1, 2, 3, 5, 6].map (Value.int .i64)) rfl (World.ownsRow.alloc hown1 _) ⟨w1.heap.size, 0, none⟩ 2 2 [.int .i64 0, .int .i64 4] rfl rfl ?c1 ?c2 ?c3 ?c4 ?c5 ?_) | fail)
 case c1 => exact zrm w1 [.int .i64 0, .int .i64 4] 77
 case c2 => exact zrn [0, 4]
 case c3 => unfold maxLen; decide
 case c4 => decide
 case c5 => have := hb1.size; simp; omega
 intro v2 w2 hown2 hg2 _
 have hb2 : Below w.heap.size w w2 := (hb1.alloc hb1.size _).grown hg2 (by have := hb1.size; simp; omega) (fun j hj => (World.ownsRow.lt hown1 j hj).1)
 have hrow : FRow w2 w.heap.size v2 [1, 2, 3, 5, 6, 0, 4] := hown2
 obtain ⟨g, cp, rfl, hbase, HS⟩ := zrp [1, 2, 3, 5, 6, 0, 4] [0, 1, 2, 3, 4, 5, 6] hm rfl (by decide) (by decide) hrow
 have HSH := hid HS
 have HB := hid hb2
 clear HS
 go_wp2_with (first | (go_at_call 74; refine HSH.out.mono ?_; rintro e w' ⟨rfl, ho, hg⟩) | fail)
 go_ret
 exact ⟨_, rfl, ho, HB.out.grown hg HB.out.size (fun j hj => by cases hj; exact hbase)⟩
set_option maxRecDepth 100000 in
theorem zrs (w : World) : Calls Tryz.prog 32 #[.int .u8 3] w (FieldsE [0, 1, 2] w) := by
 obtain ⟨i0, hi, hz0, hz1, hz2⟩ := info_parts zrl
 have hm : ([0, 1, 2] : List Int).mergeSort (fun x y => decide (x ≤ y)) = [0, 1, 2] := zro (by decide) (by decide)
 go_enter Tryz.func32, Tryz.ntmps32
 go_wp2_with (first | (at_builtin; refine wpList_append_own _ rfl _ _ 75 rfl w.heap.size 77 i0 (.int .i64 0) 1 8 Tryz.underlying75 hi hz0 hz1 hz2 rfl (by decide) _ 0 [] rfl (World.ownsRow.alloc (World.ownsRow_nil w w.heap.size 77 1) _) ⟨w.heap.size, 0, none⟩ 3 3 [.int .i64 0, .int .i64 1, .int .i64 2] rfl rfl ?c1 ?c2 ?c3 ?c4 ?c5 ?_) | fail)
 case c1 => exact zrm w [.int .i64 0, .int .i64 1, .int .i64 2] 77
 case c2 => exact zrn [0, 1, 2]
 case c3 => unfold maxLen; decide
 case c4 => decide
 case c5 => simp
 intro v1 w1 hown1 hg1 _
 have hb1 : Below w.heap.size w w1 := ((Below.refl w.heap.size w).alloc (Nat.le_refl _) _).grown hg1 (by simp) (fun j hj => by cases hj)
 have hrow : FRow w1 w.heap.size v1 [0, 1, 2] := hown1
 obtain ⟨g, cp, rfl, hbase, HS⟩ := zrp [0, 1, 2] [0, 1, 2] hm rfl (by decide) (by decide) hrow
 have HSH := hid HS
 have HB := hid hb1
 clear HS
 go_wp2_with (first | (go_at_call 74; refine HSH.out.mono ?_; rintro e w' ⟨rfl, ho, hg⟩) | fail)
 go_ret
 exact ⟨_, rfl, ho, HB.out.grown hg HB.out.size (fun j hj => by cases hj; exact hbase)⟩
set_option maxRecDepth 100000 in
theorem zrt (w : World) : Calls Tryz.prog 32 #[.int .u8 4] w (FieldsE [0, 1, 2] w) := by
 obtain ⟨i0, hi, hz0, hz1, hz2⟩ := info_parts zrl
 have hm : ([0, 1, 2] : List Int).mergeSort (fun x y => decide (x ≤ y)) = [0, 1, 2] := zro (by decide) (by decide)
 go_enter Tryz.func32, Tryz.ntmps32
 go_wp2_with (first | (at_builtin; refine wpList_append_own _ rfl _ _ 75 rfl w.heap.size 77 i0 (.int .i64 0) 1 8 Tryz.underlying75 hi hz0 hz1 hz2 rfl (by decide) _ 0 [] rfl (World.ownsRow.alloc (World.ownsRow_nil w w.heap.size 77 1) _) ⟨w.heap.size, 0, none⟩ 3 3 [.int .i64 0, .int .i64 1, .int .i64 2] rfl rfl ?c1 ?c2 ?c3 ?c4 ?c5 ?_) | fail)
 case c1 => exact zrm w [.int .i64 0, .int .i64 1, .int .i64 2] 77
 case c2 => exact zrn [0, 1, 2]
 case c3 => unfold maxLen; decide
 case c4 => decide
 case c5 => simp
 intro v1 w1 hown1 hg1 _
 have hb1 : Below w.heap.size w w1 := ((Below.refl w.heap.size w).alloc (Nat.le_refl _) _).grown hg1 (by simp) (fun j hj => by cases hj)
 have hrow : FRow w1 w.heap.size v1 [0, 1, 2] := hown1
 obtain ⟨g, cp, rfl, hbase, HS⟩ := zrp [0, 1, 2] [0, 1, 2] hm rfl (by decide) (by decide) hrow
 have HSH := hid HS
 have HB := hid hb1
 clear HS
 go_wp2_with (first | (go_at_call 74; refine HSH.out.mono ?_; rintro e w' ⟨rfl, ho, hg⟩) | fail)
 go_ret
 exact ⟨_, rfl, ho, HB.out.grown hg HB.out.size (fun j hj => by cases hj; exact hbase)⟩
set_option maxRecDepth 100000 in
theorem zru (w : World) : Calls Tryz.prog 32 #[.int .u8 5] w (FieldsE [0, 1, 2, 9] w) := by
 obtain ⟨i0, hi, hz0, hz1, hz2⟩ := info_parts zrl
 have hm : ([9, 0, 1, 2] : List Int).mergeSort (fun x y => decide (x ≤ y)) = [0, 1, 2, 9] := zro (by decide) (by decide)
 go_enter Tryz.func32, Tryz.ntmps32
 go_wp2_with (first | (at_builtin; refine wpList_append_own _ rfl _ _ 75 rfl w.heap.size 77 i0 (.int .i64 0) 1 8 Tryz.underlying75 hi hz0 hz1 hz2 rfl (by decide) _ 0 [] rfl (World.ownsRow.alloc (World.ownsRow_nil w w.heap.size 77 1) _) ⟨w.heap.size, 0, none⟩ 1 1 [.int .i64 9] rfl rfl ?c1 ?c2 ?c3 ?c4 ?c5 ?_) | fail)
 case c1 => exact zrm w [.int .i64 9] 77
 case c2 => exact zrn [9]
 case c3 => unfold maxLen; decide
 case c4 => decide
 case c5 => simp
 intro v1 w1 hown1 hg1 _
 have hb1 : Below w.heap.size w w1 := ((Below.refl w.heap.size w).alloc (Nat.le_refl _) _).grown hg1 (by simp) (fun j hj => by cases hj)
 go_wp2_with (first | (at_builtin; refine wpList_append_own _ rfl _ _ 75 rfl w.heap.size 77 i0 (.int .i64 0) 1 8 Tryz.underlying75 hi hz0 hz1 hz2 rfl (by decide) _ 1 ([9].map (Value.int .i64)) rfl (World.ownsRow.alloc hown1 _) ⟨w1.heap.size, 0, none⟩ 3 3 [.int .i64 0, .int .i64 1, .int .i64 2] rfl rfl ?c1 ?c2 ?c3 ?c4 ?c5 ?_) | fail)
 case c1 => exact zrm w1 [.int .i64 0, .int .i64 1, .int .i64 2] 77
 case c2 => exact zrn [0, 1, 2]
 case c3 => unfold maxLen; decide
 case c4 => decide
 case c5 => have := hb1.size; simp; omega
 intro v2 w2 hown2 hg2 _
 have hb2 : Below w.heap.size w w2 := (hb1.alloc hb1.size _).grown hg2 (by have := hb1.size; simp; omega) (fun j hj => (World.ownsRow.lt hown1 j hj).1)
 have hrow : FRow w2 w.heap.size v2 [9, 0, 1, 2] := hown2
 obtain ⟨g, cp, rfl, hbase, HS⟩ := zrp [9, 0, 1, 2] [0, 1, 2, 9] hm rfl (by decide) (by decide) hrow
 have HSH := hid HS
 have HB := hid hb2
 clear HS
 go_wp2_with (first | (go_at_call 74; refine HSH.out.mono ?_; rintro e w' ⟨rfl, ho, hg⟩) | fail)
 go_ret
 exact ⟨_, rfl, ho, HB.out.grown hg HB.out.size (fun j hj => by cases hj; exact hbase)⟩
set_option maxRecDepth 100000 in
theorem zrv (w : World) : Calls Tryz.prog 32 #[.int .u8 6] w (FieldsE [0, 1, 7] w) := by
 obtain ⟨i0, hi, hz0, hz1, hz2⟩ := info_parts zrl
 have hm : ([0, 1, 7] : List Int).mergeSort (fun x y => decide (x ≤ y)) = [0, 1, 7] := zro (by decide) (by decide)
 go_enter Tryz.func32, Tryz.ntmps32
 go_wp2_with (first | (at_builtin; refine wpList_append_own _ rfl _ _ 75 rfl w.heap.size 77 i0 (.int .i64 0) 1 8 Tryz.underlying75 hi hz0 hz1 hz2 rfl (by decide) _ 0 [] rfl (World.ownsRow.alloc (World.ownsRow_nil w w.heap.size 77 1) _) ⟨w.heap.size, 0, none⟩ 3 3 [.int .i64 0, .int .i64 1, .int .i64 7] rfl rfl ?c1 ?c2 ?c3 ?c4 ?c5 ?_) | fail)
 case c1 => exact zrm w [.int .i64 0, .int .i64 1, .int .i64 7] 77
 case c2 => exact zrn [0, 1, 7]
 case c3 => unfold maxLen; decide
 case c4 => decide
 case c5 => simp
 intro v1 w1 hown1 hg1 _
 have hb1 : Below w.heap.size w w1 := ((Below.refl w.heap.size w).alloc (Nat.le_refl _) _).grown hg1 (by simp) (fun j hj => by cases hj)
 have hrow : FRow w1 w.heap.size v1 [0, 1, 7] := hown1
 obtain ⟨g, cp, rfl, hbase, HS⟩ := zrp [0, 1, 7] [0, 1, 7] hm rfl (by decide) (by decide) hrow
 have HSH := hid HS
 have HB := hid hb1
 clear HS
 go_wp2_with (first | (go_at_call 74; refine HSH.out.mono ?_; rintro e w' ⟨rfl, ho, hg⟩) | fail)
 go_ret
 exact ⟨_, rfl, ho, HB.out.grown hg HB.out.size (fun j hj => by cases hj; exact hbase)⟩
set_option maxRecDepth 100000 in
theorem zrw (w : World) : Calls Tryz.prog 32 #[.int .u8 7] w (FieldsE [0, 1, 7] w) := by
 obtain ⟨i0, hi, hz0, hz1, hz2⟩ := info_parts zrl
 have hm : ([0, 1, 7] : List Int).mergeSort (fun x y => decide (x ≤ y)) = [0, 1, 7] := zro (by decide) (by decide)
 go_enter Tryz.func32, Tryz.ntmps32
 go_wp2_with (first | (at_builtin; refine wpList_append_own _ rfl _ _ 75 rfl w.heap.size 77 i0 (.int .i64 0) 1 8 Tryz.underlying75 hi hz0 hz1 hz2 rfl (by decide) _ 0 [] rfl (World.ownsRow.alloc (World.ownsRow_nil w w.heap.size 77 1) _) ⟨w.heap.size, 0, none⟩ 3 3 [.int .i64 0, .int .i64 1, .int .i64 7] rfl rfl ?c1 ?c2 ?c3 ?c4 ?c5 ?_) | fail)
 case c1 => exact zrm w [.int .i64 0, .int .i64 1, .int .i64 7] 77
 case c2 => exact zrn [0, 1, 7]
 case c3 => unfold maxLen; decide
 case c4 => decide
 case c5 => simp
 intro v1 w1 hown1 hg1 _
 have hb1 : Below w.heap.size w w1 := ((Below.refl w.heap.size w).alloc (Nat.le_refl _) _).grown hg1 (by simp) (fun j hj => by cases hj)
 have hrow : FRow w1 w.heap.size v1 [0, 1, 7] := hown1
 obtain ⟨g, cp, rfl, hbase, HS⟩ := zrp [0, 1, 7] [0, 1, 7] hm rfl (by decide) (by decide) hrow
 have HSH := hid HS
 have HB := hid hb1
 clear HS
 go_wp2_with (first | (go_at_call 74; refine HSH.out.mono ?_; rintro e w' ⟨rfl, ho, hg⟩) | fail)
 go_ret
 exact ⟨_, rfl, ho, HB.out.grown hg HB.out.size (fun j hj => by cases hj; exact hbase)⟩
set_option maxRecDepth 100000 in
theorem fields_8 (w : World) : Calls Tryz.prog 32 #[.int .u8 8] w (FieldsE [0, 7] w) := by
 obtain ⟨i0, hi, hz0, hz1, hz2⟩ := info_parts zrl
 have hm : ([0, 7] : List Int).mergeSort (fun x y => decide (x ≤ y)) = [0, 7] := zro (by decide) (by decide)
 go_enter Tryz.func32, Tryz.ntmps32
 go_wp2_with (first | (at_builtin; refine wpList_append_own _ rfl _ _ 75 rfl w.heap.size 77 i0 (.int .i64 0) 1 8 Tryz.underlying75 hi hz0 hz1 hz2 rfl (by decide) _ 0 [] rfl (World.ownsRow.alloc (World.ownsRow_nil w w.heap.size 77 1) _) ⟨w.heap.size, 0, none⟩ 2 2 [.int .i64 0, .int .i64 7] rfl rfl ?c1 ?c2 ?c3 ?c4 ?c5 ?_) | fail)
 case c1 => exact zrm w [.int .i64 0, .int .i64 7] 77
 case c2 => exact zrn [0, 7]
 case c3 => unfold maxLen; decide
 case c4 => decide
 case c5 => simp
 intro v1 w1 hown1 hg1 _
 have hb1 : Below w.heap.size w w1 := ((Below.refl w.heap.size w).alloc (Nat.le_refl _) _).grown hg1 (by simp) (fun j hj => by cases hj)
 have hrow : FRow w1 w.heap.size v1 [0, 7] := hown1
 obtain ⟨g, cp, rfl, hbase, HS⟩ := zrp [0, 7] [0, 7] hm rfl (by decide) (by decide) hrow
 have HSH := hid HS
 have HB := hid hb1
 clear HS
 go_wp2_with (first | (go_at_call 74; refine HSH.out.mono ?_; rintro e w' ⟨rfl, ho, hg⟩) | fail)
 go_ret
 exact ⟨_, rfl, ho, HB.out.grown hg HB.out.size (fun j hj => by cases hj; exact hbase)⟩
set_option maxRecDepth 100000 in
theorem fields_9 (w : World) : Calls Tryz.prog 32 #[.int .u8 9] w (FieldsE [0, 7, 8] w) := by
 obtain ⟨i0, hi, hz0, hz1, hz2⟩ := info_parts zrl
 have hm : ([8, 0, 7] : List Int).mergeSort (fun x y => decide (x ≤ y)) = [0, 7, 8] := zro (by decide) (by decide)
 go_enter Tryz.func32, Tryz.ntmps32
 go_wp2_with (first | (at_builtin; refine wpList_append_own _ rfl _ _ 75 rfl w.heap.size 77 i0 (.int .i64 0) 1 8 Tryz.underlying75 hi hz0 hz1 hz2 rfl (by decide) _ 0 [] rfl (World.ownsRow.alloc (World.ownsRow_nil w w.heap.size 77 1) _) ⟨w.heap.size, 0, none⟩ 1 1 [.int .i64 8] rfl rfl ?c1 ?c2 ?c3 ?c4 ?c5 ?_) | fail)
 case c1 => exact zrm w [.int .i64 8] 77
 case c2 => exact zrn [8]
 case c3 => unfold maxLen; decide
 case c4 => decide
 case c5 => simp
 intro v1 w1 hown1 hg1 _
 have hb1 : Below w.heap.size w w1 := ((Below.refl w.heap.size w).alloc (Nat.le_refl _) _).grown hg1 (by simp) (fun j hj => by cases hj)
 go_wp2_with (first | (at_builtin; refine wpList_append_own _ rfl _ _ 75 rfl w.heap.size 77 i0 (.int .i64 0) 1 8 Tryz.underlying75 hi hz0 hz1 hz2 rfl (by decide) _ 1 ([8].map (Value.int .i64)) rfl (World.ownsRow.alloc hown1 _) ⟨w1.heap.size, 0, none⟩ 2 2 [.int .i64 0, .int .i64 7] rfl rfl ?c1 ?c2 ?c3 ?c4 ?c5 ?_) | fail)
 case c1 => exact zrm w1 [.int .i64 0, .int .i64 7] 77
 case c2 => exact zrn [0, 7]
 case c3 => unfold maxLen; decide
 case c4 => decide
 case c5 => have := hb1.size; simp; omega
 intro v2 w2 hown2 hg2 _
 have hb2 : Below w.heap.size w w2 := (hb1.alloc hb1.size _).grown hg2 (by have := hb1.size; simp; omega) (fun j hj => (World.ownsRow.lt hown1 j hj).1)
 have hrow : FRow w2 w.heap.size v2 [8, 0, 7] := hown2
 obtain ⟨g, cp, rfl, hbase, HS⟩ := zrp [8, 0, 7] [0, 7, 8] hm rfl (by decide) (by decide) hrow
 have HSH := hid HS
 have HB := hid hb2
 clear HS
 go_wp2_with (first | (go_at_call 74; refine HSH.out.mono ?_; rintro e w' ⟨rfl, ho, hg⟩) | fail)
 go_ret
 exact ⟨_, rfl, ho, HB.out.grown hg HB.out.size (fun j hj => by cases hj; exact hbase)⟩
set_option maxRecDepth 100000 in
theorem zrx (w : World) : Calls Tryz.prog 32 #[.int .u8 10] w (FieldsE [0, 7, 8] w) := by
 obtain ⟨i0, hi, hz0, hz1, hz2⟩ := info_parts zrl
 have hm : ([8, 0, 7] : List Int).mergeSort (fun x y => decide (x ≤ y)) = [0, 7, 8] := zro (by decide) (by decide)
 go_enter Tryz.func32, Tryz.ntmps32
 go_wp2_with (first | (at_builtin; refine wpList_append_own _ rfl _ _ 75 rfl w.heap.size 77 i0 (.int .i64 0) 1 8 Tryz.underlying75 hi hz0 hz1 hz2 rfl (by decide) _ 0 [] rfl (World.ownsRow.alloc (World.ownsRow_nil w w.heap.size 77 1) _) ⟨w.heap.size, 0, none⟩ 1 1 [.int .i64 8] rfl rfl ?c1 ?c2 ?c3 ?c4 ?c5 ?_) | fail)
 case c1 => exact zrm w [.int .i64 8] 77
 case c2 => exact zrn [8]
 case c3 => unfold maxLen; decide
 case c4 => decide
 case c5 => simp
 intro v1 w1 hown1 hg1 _
 have hb1 : Below w.heap.size w w1 := ((Below.refl w.heap.size w).alloc (Nat.le_refl _) _).grown hg1 (by simp) (fun j hj => by cases hj)
 go_wp2_with (first | (at_builtin; refine wpList_append_own _ rfl _ _ 75 rfl w.heap.size 77 i0 (.int .i64 0) 1 8 Tryz.underlying75 hi hz0 hz1 hz2 rfl (by decide) _ 1 ([8].map (Value.int .i64)) rfl (World.ownsRow.alloc hown1 _) ⟨w1.heap.size, 0, none⟩ 2 2 [.int .i64 0, .int .i64 7] rfl rfl ?c1 ?c2 ?c3 ?c4 ?c5 ?_) | fail)
 case c1 => exact zrm w1 [.int .i64 0, .int .i64 7] 77
 case c2 => exact zrn [0, 7]
 case c3 => unfold maxLen; decide
 case c4 => decide
 case c5 => have := hb1.size; simp; omega
 intro v2 w2 hown2 hg2 _
 have hb2 : Below w.heap.size w w2 := (hb1.alloc hb1.size _).grown hg2 (by have := hb1.size; simp; omega) (fun j hj => (World.ownsRow.lt hown1 j hj).1)
 have hrow : FRow w2 w.heap.size v2 [8, 0, 7] := hown2
 obtain ⟨g, cp, rfl, hbase, HS⟩ := zrp [8, 0, 7] [0, 7, 8] hm rfl (by decide) (by decide) hrow
 have HSH := hid HS
 have HB := hid hb2
 clear HS
 go_wp2_with (first | (go_at_call 74; refine HSH.out.mono ?_; rintro e w' ⟨rfl, ho, hg⟩) | fail)
 go_ret
 exact ⟨_, rfl, ho, HB.out.grown hg HB.out.size (fun j hj => by cases hj; exact hbase)⟩
end EvF
end
end Go.Proofs.YtfbegbmjmhnplaaGreatDoor
