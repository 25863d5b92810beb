/-
  What the proof of EventForms stands on, part 31.
-/
import Derived.Laws.BytesString
import Derived.Lib.SlBytesRow
import Derived.Test.YtbiplmbcdhjiaaaGreatDoorT30
set_option linter.unusedSimpArgs false
set_option linter.unusedVariables false
set_option maxHeartbeats 16000000
namespace Go.Proofs.YtbiplmbcdhjiaaaGreatDoor
open Go.Lib (hid)
section
open Go.RowKit
namespace EvA
open StrC CodeM
def hexB (l : B) : B := l.flatMap fun c => SumM.digits c.toNat 2
def swapB (a b : UInt8) (l : B) : B := l.map fun c => if c = a then b else c
def noteT (l : B) : B := if l = [] then [45] else hexB l
def partG (tx sx ox : B → B) (ux nx : Nat → B) (e : EvG) (x : Int) : List B :=
 if x = 0 then [tx e.who] else if x = 1 then [tx e.name] else if x = 2 then [tx e.ver] else if x = 3 then nx e.needs.length :: e.needs.flatMap (fun p => [tx p.1, sx p.2]) else if x = 4 then [ux e.sum]
 else if x = 5 then [nx e.n] else if x = 6 then [nx e.size] else if x = 7 then [tx e.holder] else if x = 8 then [tx e.note] else [ox e.note]
def partB (e : EvG) (x : Int) : List B := partG textB textB textB (fun n => wordB n 8) uintB e x
def partT (e : EvG) (x : Int) : List B := partG id (swapB 32 95) noteT (fun n => SumM.digits n 16) Lib.decDigits e x
def bytesM (e : EvG) (L : List Int) : B := UInt8.ofNat e.k :: L.flatMap (fun x => (partB e x).flatten)
def lineM (k : B) (e : EvG) (L : List Int) : B := k ++ L.flatMap (fun x => (partT e x).flatMap (fun t => 32 :: t))
theorem zww (sep : B) (r : List B) : Lib.joinTail sep r = r.flatMap (sep ++ ·) := by
 unfold Lib.joinTail
 rw [List.flatMap_def]
theorem zwx (e : EvG) (L : List Int) : Lib.join ([UInt8.ofNat e.k] :: L.flatMap (partB e)) [] = bytesM e L := by
 rw [Lib.join_cons, zww]
 unfold bytesM
 simp only [List.nil_append, List.singleton_append, List.cons.injEq, true_and]
 induction L with
 | nil => rfl
 | cons x r ih => rw [List.flatMap_cons, List.flatMap_append, ih, List.flatMap_cons]; simp [List.flatMap_def]
theorem zwy (k : B) (e : EvG) (L : List Int) : Lib.join (k :: L.flatMap (partT e)) [32] = lineM k e L := by
 rw [Lib.join_cons, zww]
 unfold lineM
 congr 1
 induction L with
 | nil => rfl
 | cons x r ih => rw [List.flatMap_cons, List.flatMap_append, ih, List.flatMap_cons]; simp
theorem zwz (n k m : Nat) : SumM.digits (n / 16 ^ m) k ++ SumM.digits n m = SumM.digits n (k + m) := by
 induction k with
 | zero => simp [SumM.digits]
 | succ k ih =>
  rw [show k + 1 + m = (k + m) + 1 from by omega]
  simp only [SumM.digits, List.cons_append, ih]
  rw [Nat.div_div_eq_div_mul, ← Nat.pow_add, Nat.add_comm m k]
theorem zxa (n k m : Nat) (h : k ≤ m) : SumM.digits (n % 16 ^ m) k = SumM.digits n k := by
 induction k with
 | zero => rfl
 | succ k ih =>
  simp only [SumM.digits, ih (by omega)]
  congr 2
  have e : 16 ^ m = 16 ^ k * 16 ^ (m - k) := by rw [← Nat.pow_add]; congr 1; omega
  rw [e, Nat.mod_mul_right_div_self]
  have e2 : 16 ^ (m - k) = 16 * 16 ^ (m - k - 1) := by rw [Nat.mul_comm, ← Nat.pow_succ]; congr 1; omega
  rw [e2, Nat.mod_mul_right_mod]
theorem zxb (x : Nat) : ∀ k, hexB (wordB x k) = SumM.digits x (2 * k)
 | 0 => rfl
 | k + 1 => by
  unfold hexB
  rw [wordB, List.flatMap_cons]
  have ih := zxb x k
  unfold hexB at ih
  rw [ih, show 2 * (k + 1) = 2 + 2 * k from by omega, ← zwz x 2 (2 * k)]
  congr 1
  have e : (256 : Nat) ^ k = 16 ^ (2 * k) := by rw [Nat.pow_mul]
  rw [show (UInt8.ofNat (x / 256 ^ k % 256)).toNat = x / 256 ^ k % 256 from by simp, e]
  exact zxa _ 2 2 (Nat.le_refl _)
theorem zxc (l : B) : (hexB l).length = 2 * l.length := by
 induction l with
 | nil => rfl
 | cons c r ih =>
  unfold hexB at ih ⊢
  rw [List.flatMap_cons, List.length_append, SumM.zwi, ih, List.length_cons]
  omega
theorem zxd (a b : UInt8) (hab : a ≠ b) : ∀ (s : List UInt8) (k : Nat), s.count a ≤ k → Lib.replaceK [a] [b] k s = swapB a b s
 | [], k, _ => by cases k <;> simp [Lib.replaceK, Lib.index, swapB]
 | c :: l, k, h => by
  by_cases e : c = a
  · subst e
    rw [List.count_cons_self] at h
    obtain ⟨k, rfl⟩ : ∃ m, k = m + 1 := ⟨k - 1, by omega⟩
    have hix : Lib.index (c :: l) [c] = (0 : Nat) := by unfold Lib.index; rw [if_pos (by simp [List.isPrefixOf])]; rfl
    rw [Lib.replaceK_hit [c] [b] k (c :: l) 0 hix]
    simp only [List.take_zero, List.nil_append, List.length_cons, List.length_nil, Nat.zero_add, List.drop_succ_cons, List.drop_zero]
    rw [zxd c b hab l k (by omega)]
    simp [swapB]
  · rw [List.count_cons_of_ne (by simpa using e)] at h
    have hf : swapB a b (c :: l) = c :: swapB a b l := by simp [swapB, e]
    rw [hf, ← zxd a b hab l k h]
    have hix := NameM.zul l e
    cases k with
    | zero => rfl
    | succ k =>
     have hge := Lib.index_ge l [a]
     by_cases hm : Lib.index l [a] = -1
     · rw [if_pos hm] at hix
       unfold Lib.replaceK
       rw [if_pos (by rw [hix]; rfl), if_pos (by rw [hm]; rfl)]
     · rw [if_neg hm] at hix
       obtain ⟨i, hi⟩ : ∃ i : Nat, Lib.index l [a] = i := ⟨(Lib.index l [a]).toNat, by omega⟩
       rw [Lib.replaceK_hit [a] [b] k l i hi, Lib.replaceK_hit [a] [b] k (c :: l) (i + 1) (by rw [hix, hi]; rfl)]
       simp only [List.take_succ_cons, List.cons_append, List.length_cons, List.length_nil]
       rw [show i + 1 + (0 + 1) = (i + (0 + 1)) + 1 from rfl, List.drop_succ_cons]
theorem zxe (a b : UInt8) (hab : a ≠ b) (s : List UInt8) : Lib.replaceAll s [a] [b] = swapB a b s := by
 unfold Lib.replaceAll Lib.replace
 rw [if_neg (by simp [hab])]
 refine zxd a b hab s _ ?_
 unfold Lib.replaceNum
 rw [if_pos (Or.inl (by decide)), Lib.count_one]
 exact Nat.le_refl _
theorem zxf (a b : UInt8) (l : B) : (swapB a b l).length = l.length := by simp [swapB]
end EvA
end
section
open Go.RowKit
namespace SumC
open SumM
theorem hex_cut (d : Nat) (w : World) (h : d < 16) :
 (Instr.slice 9 (.string ⟨#[48, 49, 50, 51, 52, 53, 54, 55, 56, 57, 97, 98, 99, 100, 101, 102]⟩) (some (.int .u64 (d : Int))) (some (.int .u64 ((d : Int) + 1))) none).run Tryz.prog w = .ok (.string ⟨#[hd d]⟩) w := by
 rcases (by omega : d = 0 ∨ d = 1 ∨ d = 2 ∨ d = 3 ∨ d = 4 ∨ d = 5 ∨ d = 6 ∨ d = 7 ∨ d = 8 ∨ d = 9 ∨ d = 10 ∨ d = 11 ∨ d = 12 ∨ d = 13 ∨ d = 14 ∨ d = 15) with rfl | rfl | rfl | rfl | rfl | rfl | rfl | rfl | rfl | rfl | rfl | rfl | rfl | rfl | rfl | rfl <;> kernel_rfl
theorem zxg (x : Nat) (w : World) :
 (Instr.slice 9 (.string ⟨#[48, 49, 50, 51, 52, 53, 54, 55, 56, 57, 97, 98, 99, 100, 101, 102]⟩) (some (.int .u64 ((x : Int) % 16))) (some (.int .u64 ((x : Int) % 16 + 1))) none).run Tryz.prog w = .ok (.string ⟨#[hd (x % 16)]⟩) w := by
 have h := hex_cut (x % 16) w (by omega)
 rw [show ((x % 16 : Nat) : Int) = (x : Int) % 16 from by omega] at h
 exact h
theorem zxh (n m : Nat) (w : World) (h1 : n < 18446744073709551616) (hm : m ≤ 16) :
 Calls Tryz.prog 89 #[.int .u64 n, .int .i64 m] w fun e w' => e = .returned (.string ⟨(digits n m).toArray⟩) ∧ w = w' := by
 have H1 := hid h1; clear h1
 go_enter Tryz.func89, Tryz.ntmps89
 go_wp2
 go_loop [0, 5, 6] (fun x s i => ∃ k : Nat, k ≤ m ∧ i = .int .i64 k ∧ x = .int .u64 (n / 16 ^ k : Nat) ∧ s = .string ⟨(digits n k).toArray⟩) (fun _ _ i => m - (intOf i).toNat)
 case atStart => exact ⟨0, Nat.zero_le _, rfl, by simp, rfl⟩
 case round =>
  obtain ⟨k, hk, rfl, rfl, rfl⟩ := hrel
  by_cases hlt : k < m
  · have hdiv := hid (zwj n k)
    have hX : n / 16 ^ k ≤ 18446744073709551615 := by have := H1.out; have := Nat.div_le_self n (16 ^ k); omega
    have hd := hid (show digits n (k + 1) = hd (n / 16 ^ k % 16) :: digits n k from rfl)
    have hlen : (digits n k).length ≤ 16 := by rw [zwi]; omega
    generalize n / 16 ^ k = X at *
    generalize digits n k = D at *
    have hdec : decide (k < m) = true := by simpa using hlt
    have hand := and15 X hX
    have hcut := zxg X w
    go_wp2
    go_round
    case rel => exact ⟨k + 1, by omega, by go_num, by rw [← hdiv.out]; go_num, by rw [hd.out, zwk]⟩
    case measure => simp [intOf]; omega
  · have hdec : decide (k < m) = false := by simpa using hlt
    go_wp2
    go_ret
    exact ⟨by rw [show k = m from by omega]; rfl, rfl⟩
end SumC
end
section
open Go.RowKit Go.Sort
namespace EvA
open StrC EvF TextR CodeM
def fldS (k : Nat) : B := match k with
 | 1 => [119, 115]
 | 2 => [119, 110, 118, 101, 115, 78, 122]
 | 3 => [119, 110, 118]
 | 4 => [119, 110, 118]
 | 5 => [119, 110, 118, 116]
 | 6 => [119, 110, 104]
 | 7 => [119, 110, 104]
 | 8 => [119, 104]
 | 9 => [119, 104, 116]
 | 10 => [119, 104, 116]
 | _ => []
theorem zxi {k : Nat} : k = 1 ∨ k = 2 ∨ k = 3 ∨ k = 4 ∨ k = 5 ∨ k = 6 ∨ k = 7 ∨ k = 8 ∨ k = 9 ∨ k = 10 ∨ (k = 0 ∨ 11 ≤ k) := by omega
theorem zxj {k : Nat} (h : k = 0 ∨ 11 ≤ k) : fldS k = [] := by
 unfold fldS
 split <;> first | omega | rfl
theorem zxk (k : Nat) (w : World) : Calls Tryz.prog 41 #[.int .u8 k] w fun e w' => e = .returned (.string (str (fldS k))) ∧ w = w' := by
 rcases zxi (k := k) with rfl | rfl | rfl | rfl | rfl | rfl | rfl | rfl | rfl | rfl | h
 case inr.inr.inr.inr.inr.inr.inr.inr.inr.inr =>
  rw [zxj h]
  have h1 : ¬ k = 1 := by omega
  have h2 : ¬ k = 2 := by omega
  have h3 : ¬ k = 3 := by omega
  have h4 : ¬ k = 4 := by omega
  have h5 : ¬ k = 5 := by omega
  have h6 : ¬ k = 6 := by omega
  have h7 : ¬ k = 7 := by omega
  have h8 : ¬ k = 8 := by omega
  have h9 : ¬ k = 9 := by omega
  have h10 : ¬ k = 10 := by omega
  clear h
  go_enter Tryz.func41, Tryz.ntmps41
  go_wp2_with fail
  all_goals go_ret
  all_goals exact ⟨rfl, rfl⟩
 all_goals (go_enter Tryz.func41, Tryz.ntmps41)
 all_goals go_wp2_with fail
 all_goals go_ret
 all_goals exact ⟨rfl, rfl⟩
theorem zxl {l : B} {j : Nat} {c : UInt8} (hj : j < l.length) : (l.take (j + 1)).contains c = ((l.take j).contains c || (l.getD j 0 == c)) := by
 have e : l.getD j 0 = l[j] := by simp [hj]
 rw [e, List.take_add_one, List.getElem?_eq_getElem hj, Bool.eq_iff_iff, Bool.or_eq_true, List.contains_iff_mem, List.contains_iff_mem, List.mem_append, beq_iff_eq, Option.toList_some, List.mem_singleton]
 constructor <;> (rintro (h | h)) <;> first | exact Or.inl h | exact Or.inr h.symm
theorem zxm (k : Nat) : (fldS k).length ≤ 7 := by
 unfold fldS
 split <;> decide
theorem zxn (k : Nat) (c : UInt8) (w : World) : Calls Tryz.prog 26 #[.int .u8 k, .int .u8 c.toNat] w fun e w' => e = .returned (.bool ((fldS k).contains c)) ∧ w = w' := by
 have HF := hid (zxk k w)
 have hl := zxm k
 generalize fldS k = l at *
 have hsz := zbl l
 obtain ⟨r0, hr0⟩ : ∃ r0, l.contains c = r0 := ⟨_, rfl⟩
 have HR0 := hid hr0
 rw [hr0]
 clear hr0
 go_enter Tryz.func26, Tryz.ntmps26
 go_wp2_with fail
 refine HF.out.mono ?_
 rintro e w' ⟨rfl, rfl⟩
 go_wp2_with fail
 go_loop [6] (fun i => ∃ j : Nat, i = .int .i64 j ∧ j ≤ l.length ∧ Hid ((l.take j).contains c = false)) (fun i => l.length - (intOf i).toNat)
 case atStart => exact ⟨0, rfl, Nat.zero_le _, hid (by simp)⟩
 case round =>
  obtain ⟨j, rfl, hj, HA⟩ := hrel
  by_cases hlt : j < l.length
  · have hdec : decide (j < l.length) = true := by simpa using hlt
    have HT := hid (zxl (c := c) hlt)
    have hidx := zbo l (j : Int) j rfl hlt
    by_cases hc : l.getD j 0 = c
    · have HR : Hid (r0 = true) := hid (by rw [← HR0.out, ← hc, List.contains_iff_mem]; simp [hlt])
      rw [hc] at hidx
      go_wp2_with fail
      go_ret
      exact ⟨by rw [HR.out]; rfl, rfl⟩
    · have hne : ¬ (l.getD j 0).toNat = c.toNat := fun h => hc (UInt8.toNat_inj.1 h)
      have HR : Hid ((l.take (j + 1)).contains c = false) := hid (by rw [HT.out, HA.out]; simpa using hc)
      generalize (l.getD j 0).toNat = x at *
      clear hc HT
      go_wp2_with fail
      go_round
      case rel => exact ⟨j + 1, by go_num, by omega, HR⟩
      case measure => simp [intOf]; omega
  · have hdec : decide (j < l.length) = false := by simpa using hlt
    have HR : Hid (r0 = false) := hid (by have h := HA.out; rw [List.take_of_length_le (by omega)] at h; rw [← HR0.out, h])
    go_wp2_with fail
    go_ret
    exact ⟨by rw [HR.out]; rfl, rfl⟩
def ltB (a b : B) : Bool := Op.bytesLess (str a).toList (str b).toList
def spanIs (s : B) : Bool := decide (SpanC.formO s = some s)
def okN (L : List (B × B)) (j : Nat) : Bool := NameM.isN (L.getD j ([], [])).1 && (spanIs (L.getD j ([], [])).2 && (decide (j = 0) || ltB (L.getD (j - 1) ([], [])).1 (L.getD j ([], [])).1))
def needsM (L : List (B × B)) : Bool := decide (L.length ≤ 64) && (List.range L.length).all (okN L)
theorem zxo {L : List (B × B)} {j : Nat} (h : (List.range j).all (okN L) = true) (hj : okN L j = true) : (List.range (j + 1)).all (okN L) = true := by
 rw [List.range_succ, List.all_append, h]
 simp [hj]
theorem zxp {L : List (B × B)} {j : Nat} (hj : j < L.length) (h : okN L j = false) : needsM L = false := by
 unfold needsM
 have : (List.range L.length).all (okN L) = false := by
  rw [List.all_eq_false]
  exact ⟨j, by simpa using hj, by simp [h]⟩
 rw [this, Bool.and_false]
theorem NeIn.at2 {w : World} {a : Option Addr} {c : Nat} {L : List (B × B)} (h : NeIn w a c L) (i : Nat) (hi : i < L.length) : ∃ (g o : Nat), a = some ⟨g, o, none⟩ ∧ ∀ j, j < L.length →
 w.cell? ⟨g, o + j * 2, none⟩ = some (.string (str (L.getD j ([], [])).1)) ∧ w.cell? ⟨g, o + j * 2 + 1, none⟩ = some (.string (str (L.getD j ([], [])).2)) := by
 obtain ⟨g, o, rfl, key⟩ := h.cells (by omega)
 refine ⟨g, o, rfl, fun j hj => ?_⟩
 have k := key j hj
 have e : L[j]! = L.getD j ([], []) := by rw [getElem!_pos L j hj]; simp [hj]
 rw [e] at k
 exact ⟨k 0 (by omega), k 1 (by omega)⟩
set_option maxRecDepth 100000 in
theorem zxq (a : Option Addr) (c : Nat) (L : List (B × B)) (w : World) (hN : NeIn w a c L) : Calls Tryz.prog 29 #[.slice a L.length c] w fun e w' => e = .returned (.bool (needsM L)) ∧ Below w.heap.size w w' := by
 by_cases hm : L.length ≤ 64
 case neg =>
  have hd : decide (64 < L.length) = true := decide_eq_true (by omega)
  have hd2 : decide ((64 : Int) < (L.length : Int)) = true := decide_eq_true (by omega)
  have HR : Hid (needsM L = false) := hid (by unfold needsM; rw [decide_eq_false hm, Bool.false_and])
  clear hN hm
  go_enter Tryz.func29, Tryz.ntmps29
  go_wp2_with fail
  go_ret
  exact ⟨by rw [HR.out]; rfl, Below.refl _ _⟩
 case pos =>
  have hd : decide (64 < L.length) = false := decide_eq_false (by omega)
  have hd2 : decide ((64 : Int) < (L.length : Int)) = false := decide_eq_false (by omega)
  have HN := hid hN
  have HM := hid hm
  clear hN
  go_enter Tryz.func29, Tryz.ntmps29
  go_wp2_with fail
  go_loopw [3] (fun i wr => ∃ j : Nat, i = .int .i64 j ∧ j ≤ L.length ∧ Hid ((List.range j).all (okN L) = true) ∧ Hid (Below w.heap.size w wr)) (fun i _ => L.length - (intOf i).toNat)
  case atStart => exact ⟨0, rfl, Nat.zero_le _, hid rfl, hid (Below.refl _ _)⟩
  case round =>
   obtain ⟨j, rfl, hj, HA, HI⟩ := hrel
   rename World => wr
   by_cases hlt : j < L.length
   · have hdec : decide (j < L.length) = true := by simpa using hlt
     obtain ⟨g, o, rfl, hk⟩ := (HN.out.gr HI.out).at2 j hlt
     obtain ⟨k0, k1⟩ := hk j hlt
     have HSH : Hid ((L.getD j ([], [])).1.length ≤ 140737488351232 ∧ (L.getD j ([], [])).2.length ≤ 140737488351232) := hid (HN.out.short _ (by simp [hlt]))
     have HRN : Hid (okN L j = false → needsM L = false) := hid (zxp hlt)
     have HRX : Hid (okN L j = true → (List.range (j + 1)).all (okN L) = true) := hid (zxo HA.out)
     have HOK : Hid (okN L j = (NameM.isN (L.getD j ([], [])).1 && (spanIs (L.getD j ([], [])).2 && (decide (j = 0) || ltB (L.getD (j - 1) ([], [])).1 (L.getD j ([], [])).1)))) := hid rfl
     have HNI := hid (fun W => NameC.zvb (L.getD j ([], [])).1 W (Nat.le_trans HSH.out.1 (by decide)))
     have HSI : Hid (∀ W, Calls Tryz.prog 65 #[.string (str (L.getD j ([], [])).2)] W fun e w' => e = .returned (.bool (spanIs (L.getD j ([], [])).2)) ∧ Below W.heap.size W w') := hid (fun W => SpanC.zsf (L.getD j ([], [])).2 W (Nat.le_trans HSH.out.2 (by decide)))
     obtain ⟨n1, hn1⟩ : ∃ n1, (L.getD j ([], [])).1 = n1 := ⟨_, rfl⟩
     obtain ⟨s1, hs1⟩ : ∃ s1, (L.getD j ([], [])).2 = s1 := ⟨_, rfl⟩
     obtain ⟨m1, hm1⟩ : ∃ m1, (L.getD (j - 1) ([], [])).1 = m1 := ⟨_, rfl⟩
     have HPR : Hid (0 < j → wr.cell? ⟨g, o + (j - 1) * 2, none⟩ = some (.string (str m1))) := hid (fun h => by rw [← hm1]; exact (hk (j - 1) (by omega)).1)
     rw [hn1, hs1, hm1] at HOK
     rw [hn1] at HNI k0
     rw [hs1] at HSI k1
     clear hk hn1 hs1 hm1 HSH
     generalize okN L j = okj at *
     generalize NameM.isN n1 = bn at *
     generalize spanIs s1 = bs at *
     go_upto_region 6 with fail
     have cI : ∀ d os, Calls Tryz.prog 27 _ (Go.Sort.grow (redrawn wr d) os) _ := fun d os => Calls.regrown_of (HNI.out _)
     have cS : ∀ d os, Calls Tryz.prog 65 _ (Go.Sort.grow (redrawn wr d) os) _ := fun d os => Calls.regrown_of (HSI.out _)
     have k0' := cell_regrown k0
     have k1' := cell_regrown k1
     clear k0 k1
     rcases (Bool.eq_false_or_eq_true bn).symm with rfl | rfl
     · have HR := hid (HRN.out (by rw [HOK.out]; rfl))
       refine wp_region_quiet_below (by kernel_rfl) (by kernel_rfl) ?_
       repeat (go_big_quiet_step (first | exact cI _ _ | exact cS _ _))
       refine wpQuiet_nil ?_
       intro _ hw'
       obtain ⟨⟨dq, osq⟩, hw''⟩ := hw'
       subst hw''
       go_wp2_with fail
       go_ret
       exact ⟨by rw [HR.out]; rfl, HI.out.trans ((below_regrown wr dq osq).mono HI.out.size)⟩
     rcases (Bool.eq_false_or_eq_true bs).symm with rfl | rfl
     · have HR := hid (HRN.out (by rw [HOK.out]; rfl))
       refine wp_region_quiet_below (by kernel_rfl) (by kernel_rfl) ?_
       repeat (go_big_quiet_step (first | exact cI _ _ | exact cS _ _))
       refine wpQuiet_nil ?_
       intro _ hw'
       obtain ⟨⟨dq, osq⟩, hw''⟩ := hw'
       subst hw''
       go_wp2_with fail
       go_ret
       exact ⟨by rw [HR.out]; rfl, HI.out.trans ((below_regrown wr dq osq).mono HI.out.size)⟩
     rcases Nat.eq_zero_or_pos j with hj0 | h0
     · have HX := hid (HRX.out (by rw [HOK.out, hj0]; rfl))
       have hgt : decide ((0 : Int) < (j : Int)) = false := by simp [hj0]
       have hgt2 : decide (0 < j) = false := by simp [hj0]
       clear hj0
       refine wp_region_quiet_below (by kernel_rfl) (by kernel_rfl) ?_
       repeat (go_big_quiet_step (first | exact cI _ _ | exact cS _ _))
       refine wpQuiet_nil ?_
       intro _ hw'
       obtain ⟨⟨dq, osq⟩, hw''⟩ := hw'
       subst hw''
       go_wp2_with fail
       go_roundw
       case rel => exact ⟨j + 1, by go_num, hlt, HX, hid (HI.out.trans ((below_regrown wr dq osq).mono HI.out.size))⟩
       case measure => simp [intOf]; omega
     · obtain ⟨i, rfl⟩ : ∃ i, j = i + 1 := ⟨j - 1, by omega⟩
       have m0 := HPR.out (by omega)
       rw [Nat.add_sub_cancel] at m0
       have m0' := cell_regrown m0
       have hgt : decide ((0 : Int) < ((i + 1 : Nat) : Int)) = true := decide_eq_true (by omega)
       have hwi : IntKind.i64.wrap (i : Int) = i := IntWalk.i64_in _ ⟨by omega, by omega⟩
       have hltb : Op.bytesLess (str m1).toList (str n1).toList = ltB m1 n1 := rfl
       have HOK2 : Hid (okj = ltB m1 n1) := hid (by rw [HOK.out]; simp)
       generalize ltB m1 n1 = bl at *
       clear m0 HOK HPR
       rcases (Bool.eq_false_or_eq_true bl).symm with rfl | rfl
       · have HR := hid (HRN.out HOK2.out)
         refine wp_region_quiet_below (by kernel_rfl) (by kernel_rfl) ?_
         repeat (go_big_quiet_step (first | exact cI _ _ | exact cS _ _))
         refine wpQuiet_nil ?_
         intro _ hw'
         obtain ⟨⟨dq, osq⟩, hw''⟩ := hw'
         subst hw''
         go_wp2_with fail
         go_ret
         exact ⟨by rw [HR.out]; rfl, HI.out.trans ((below_regrown wr dq osq).mono HI.out.size)⟩
       · have HX := hid (HRX.out HOK2.out)
         refine wp_region_quiet_below (by kernel_rfl) (by kernel_rfl) ?_
         repeat (go_big_quiet_step (first | exact cI _ _ | exact cS _ _))
         refine wpQuiet_nil ?_
         intro _ hw'
         obtain ⟨⟨dq, osq⟩, hw''⟩ := hw'
         subst hw''
         go_wp2_with fail
         go_roundw
         case rel => exact ⟨i + 1 + 1, by go_num, hlt, HX, hid (HI.out.trans ((below_regrown wr dq osq).mono HI.out.size))⟩
         case measure => simp [intOf]; omega
   · have hdec : decide (j < L.length) = false := by simpa using hlt
     have hje : j = L.length := by omega
     have HR : Hid (needsM L = true) := hid (by unfold needsM; rw [decide_eq_true HM.out, ← hje, HA.out]; rfl)
     go_wp2_with fail
     go_ret
     exact ⟨by rw [HR.out]; rfl, HI.out⟩
end EvA
end
section
open Go.RowKit Go.Sort
namespace EvA
open StrC EvF EvC TextR CodeM
def nm (k : Nat) (c : UInt8) : Bool := (fldS k).contains c
def fieldOk (named : Bool) (l : B) (ok : Bool) : Bool := if named then (!decide (l = []) && ok) else decide (l = [])
def restOk (e : EvG) : Bool := (nm e.k 115 || decide (e.sum = 0)) && ((nm e.k 78 || (decide (e.n = 0) && (decide (e.size = 0) && decide (e.needs = [])))) && (nm e.k 116 || decide (e.note = [])))
def lastOk (e : EvG) : Bool := if e.k = 2 then (decide (1 ≤ e.n) && (decide (e.size ≤ 65536) && needsM e.needs)) else if e.k = 5 then decide (e.note.length ≤ 256) else if e.k = 9 ∨ e.k = 10 then NameM.holder e.note else true
def mayD (e : EvG) : Bool := decide (1 ≤ e.k ∧ e.k ≤ 10) && (NameM.holder e.who && (fieldOk (nm e.k 110) e.name (NameM.isN e.name) && (fieldOk (nm e.k 118) e.ver (VerM.isT e.ver) && (fieldOk (nm e.k 104) e.holder (NameM.holder e.holder) && (restOk e && lastOk e)))))
theorem zxr : NameM.isN [] = false := by decide +kernel
theorem isT_no : VerM.isT [] = false := by decide +kernel
theorem zxs : NameM.holder [] = false := by decide +kernel
theorem zxt (l : B) : (NameC.holdCode l == 0) = NameM.holder l := by unfold NameC.holdCode; cases NameM.holder l <;> rfl
theorem zxu {l : B} {f : B → Bool} (h : f [] = false) : fieldOk true l (f l) = f l := by
 unfold fieldOk
 by_cases e : l = []
 · subst e; rw [h]; rfl
 · simp [e]
theorem zxv (l : B) (b : Bool) : fieldOk false l b = decide (l = []) := rfl
theorem zxw (e : EvG) (h : 1 ≤ e.k ∧ e.k ≤ 10) : mayD e = mayL e (needsM e.needs) (fieldsM e.k) := by
 obtain ⟨k, who, name, ver, na, nc, needs, sum, n, size, holder, note⟩ := e
 have hk : k = 1 ∨ k = 2 ∨ k = 3 ∨ k = 4 ∨ k = 5 ∨ k = 6 ∨ k = 7 ∨ k = 8 ∨ k = 9 ∨ k = 10 := by have h1 : 1 ≤ k := h.1; have h2 : k ≤ 10 := h.2; omega
 have e1 : ∀ x : Nat, decide ((1 : Int) ≤ (x : Int)) = decide (1 ≤ x) := fun x => by rw [Bool.eq_iff_iff]; simp; omega
 have e2 : ∀ x : Nat, decide ((x : Int) ≤ 65536) = decide (x ≤ 65536) := fun x => by rw [Bool.eq_iff_iff]; simp; omega
 have e3 : ∀ l : B, decide (((str l).size : Int) ≤ 256) = decide (l.length ≤ 256) := fun l => by rw [zbl, Bool.eq_iff_iff]; simp; omega
 have e4 : ∀ l : B, decide (1 ≤ l.length) = !decide (l = []) := fun l => by cases l <;> simp
 rcases hk with rfl | rfl | rfl | rfl | rfl | rfl | rfl | rfl | rfl | rfl <;>
  simp [mayD, mayL, sameE, fieldsM, blankL, blankF, kindE, fitB, nm, fldS, zxu zxr, zxu isT_no, zxu zxs, zxv, restOk, lastOk, zxt, e1, e2, e3] <;>
  (rw [Bool.eq_iff_iff]; simp only [Bool.and_eq_true, decide_eq_true_eq]; constructor <;> (intro h; simp_all))
theorem zxx (e : EvG) (h : e.k = 0 ∨ 11 ≤ e.k) : mayD e = false := by
 unfold mayD
 rw [decide_eq_false (by omega), Bool.false_and]
end EvA
end
section
open Go.RowKit Go.Sort
namespace EvA
open StrC EvF EvC TextR CodeM
open VerC (Vw)
theorem zxy : ∀ (x y : List UInt8), Op.bytesLess x y = false → Op.bytesLess y x = false → x = y
 | [], [], _, _ => rfl
 | [], _ :: _, h, _ => by simp [Op.bytesLess] at h
 | _ :: _, [], _, h => by simp [Op.bytesLess] at h
 | a :: x, b :: y, h1, h2 => by
  unfold Op.bytesLess at h1 h2
  by_cases hab : a = b
  · subst hab
    simp at h1 h2
    rw [zxy x y h1 h2]
  · have : a.toNat ≠ b.toNat := fun h => hab (UInt8.toNat_inj.1 h)
    simp [hab, Ne.symm hab, UInt8.lt_iff_toNat_lt] at h1 h2
    omega
theorem zxz : ∀ x : List UInt8, Op.bytesLess x x = false
 | [] => rfl
 | a :: x => by unfold Op.bytesLess; simp [zxz x]
theorem zya : ∀ (x y : List UInt8), Op.bytesLess x y = true → Op.bytesLess y x = false
 | [], [], h => by simp [Op.bytesLess] at h
 | [], _ :: _, _ => by simp [Op.bytesLess]
 | _ :: _, [], h => by simp [Op.bytesLess] at h
 | a :: x, b :: y, h => by
  unfold Op.bytesLess at h ⊢
  by_cases hab : a = b
  · subst hab
    simp at h ⊢
    exact zya x y h
  · simp [hab, Ne.symm hab, UInt8.lt_iff_toNat_lt] at h ⊢
    omega
theorem le_notL (a b : List UInt8) : (Op.bytesLess a b || a == b) = !Op.bytesLess b a := by
 cases h1 : Op.bytesLess a b with
 | true => rw [zya a b h1]; rfl
 | false =>
  cases h2 : Op.bytesLess b a with
  | true =>
   have : ¬ a = b := fun e => by rw [e, zxz] at h2; cases h2
   simp [this]
  | false => rw [zxy a b h1 h2]; simp
theorem lt_no {b : B} (h : NameM.isN b = true) : ltB [] b = true := by
 unfold ltB
 rw [ByteArray.toList_eq, ByteArray.toList_eq, zbm, zbm]
 cases b with
 | nil => rw [zxr] at h; cases h
 | cons c r => rfl
def lastN (L : List (B × B)) (j : Nat) : B := if j = 0 then [] else (L.getD (j - 1) ([], [])).1
theorem zyb (L : List (B × B)) (j : Nat) : okN L j = (ltB (lastN L j) (L.getD j ([], [])).1 && (NameM.isN (L.getD j ([], [])).1 && spanIs (L.getD j ([], [])).2)) := by
 unfold okN lastN
 by_cases hj : j = 0
 · subst hj
   simp only [decide_true, Bool.true_or, Bool.and_true, if_true]
   cases h : NameM.isN (L.getD 0 ([], [])).1 with
   | false => simp
   | true => rw [lt_no h]; rfl
 · rw [if_neg hj]
   simp only [hj, decide_false, Bool.false_or]
   cases NameM.isN (L.getD j ([], [])).1 <;> cases spanIs (L.getD j ([], [])).2 <;> simp
theorem zyc (L : List (B × B)) (j : Nat) : lastN L (j + 1) = (L.getD j ([], [])).1 := by unfold lastN; rw [if_neg (by omega)]; rfl
theorem zyd {w : World} {p : Nat} {a b : B} (h : w.heap[p]? = some (.cells #[.string (str a), .string (str b)] 78)) : w.cell? ⟨p, 0, none⟩ = some (.string (str a)) ∧ w.cell? ⟨p, 1, none⟩ = some (.string (str b)) := by
 constructor <;> simp [World.cell?, h]
set_option maxRecDepth 100000 in
theorem zye (a : Option Addr) (c : Nat) (L : List (B × B)) (w : World) (hN : NeIn w a c L) (hv : Vw w) : Calls Tryz.prog 70 #[.slice a L.length c] w fun r w' => r = .returned (.bool (needsM L)) ∧ Below w.heap.size w w' := by
 by_cases hm : L.length ≤ 64
 case neg =>
  have hd : decide (64 < L.length) = true := decide_eq_true (by omega)
  have hd2 : decide ((64 : Int) < (L.length : Int)) = true := decide_eq_true (by omega)
  have HR : Hid (needsM L = false) := hid (by unfold needsM; rw [decide_eq_false hm, Bool.false_and])
  clear hN hm
  go_enter Tryz.func70, Tryz.ntmps70
  go_wp2_with fail
  go_ret
  exact ⟨by rw [HR.out]; rfl, Below.refl _ _⟩
 case pos =>
  have hd : decide (64 < L.length) = false := decide_eq_false (by omega)
  have hd2 : decide ((64 : Int) < (L.length : Int)) = false := decide_eq_false (by omega)
  have HN := hid hN
  have HV := hid hv
  have HM := hid hm
  clear hN hv
  go_enter Tryz.func70, Tryz.ntmps70
  go_wp2_with fail
  go_loopw [3, 5, 11] (fun vl _ i wr => ∃ (j : Nat) (last : B), i = .int .i64 j ∧ vl = .string (str last) ∧ j ≤ L.length ∧ Hid (last = lastN L j) ∧ Hid ((List.range j).all (okN L) = true) ∧ Hid (Below w.heap.size w wr)) (fun _ _ i _ => L.length - (intOf i).toNat)
  case atStart => exact ⟨0, [], rfl, rfl, Nat.zero_le _, hid rfl, hid rfl, hid (Below.refl _ _)⟩
  case round =>
   obtain ⟨j, last, rfl, rfl, hj, HLA, HA, HI⟩ := hrel
   rename World => wr
   by_cases hlt : j < L.length
   · have hdec : decide (j < L.length) = true := by simpa using hlt
     obtain ⟨g, o, rfl, hk⟩ := (HN.out.gr HI.out).at2 j hlt
     obtain ⟨k0, k1⟩ := hk j hlt
     have HSH : Hid ((L.getD j ([], [])).1.length ≤ 140737488351232 ∧ (L.getD j ([], [])).2.length ≤ 140737488351232) := hid (HN.out.short _ (by simp [hlt]))
     have HRN : Hid (okN L j = false → needsM L = false) := hid (zxp hlt)
     have HRX : Hid (okN L j = true → (List.range (j + 1)).all (okN L) = true) := hid (zxo HA.out)
     have HOK : Hid (okN L j = (ltB last (L.getD j ([], [])).1 && (NameM.isN (L.getD j ([], [])).1 && spanIs (L.getD j ([], [])).2))) := hid (by rw [HLA.out]; exact zyb L j)
     have HLN := hid (zyc L j)
     generalize hn1 : (L.getD j ([], [])).1 = n1 at *
     generalize hs1 : (L.getD j ([], [])).2 = s1 at *
     generalize okN L j = okj at *
     have HBA : Hid (Below w.heap.size w (wr.alloc (.cells #[.string (str n1), .string (str s1)] 78))) := hid (HI.out.trans ((alW wr _).mono HI.out.size))
     have HPB : Hid (∀ W, Below (wr.alloc (.cells #[.string (str n1), .string (str s1)] 78)).heap.size (wr.alloc (.cells #[.string (str n1), .string (str s1)] 78)) W → W.heap[wr.heap.size]? = some (.cells #[.string (str n1), .string (str s1)] 78)) := hid (fun W h => (h.block _ (by simp)).trans (heap_alloc_new wr _))
     obtain ⟨q0, q1⟩ := zyd (HPB.out _ (Below.refl _ _))
     have hlb : (Op.bytesLess (str n1).toList (str last).toList || (str n1).toList == (str last).toList) = !ltB last n1 := le_notL _ _
     have HNI := hid (NameC.zvz n1 (wr.alloc (.cells #[.string (str n1), .string (str s1)] 78)) (by have := HSH.out.1; omega))
     have HSI : Hid (∀ W, Below w.heap.size w W → Calls Tryz.prog 124 #[.string (str s1)] W fun r w' => r = .returned (.bool (spanIs s1)) ∧ Below W.heap.size W w') := hid (fun W h => SpanC.pIs_any s1 W (HV.out.gr h) (by have := HSH.out.2; omega))
     generalize ltB last n1 = b1 at *
     generalize NameM.isN n1 = b2 at *
     generalize spanIs s1 = b3 at *
     clear hn1 hs1 hk HA HLA
     have HSH2 := HSH
     clear HSH
     rcases (Bool.eq_false_or_eq_true b1).symm with rfl | rfl
     · have HR := hid (HRN.out (by rw [HOK.out]; rfl))
       go_wp2_with fail
       go_ret
       exact ⟨by rw [HR.out]; rfl, HBA.out⟩
     rcases (Bool.eq_false_or_eq_true b2).symm with rfl | rfl
     · have HR := hid (HRN.out (by rw [HOK.out]; rfl))
       go_wp2_with (first | (go_at_call 68; refine HNI.out.mono ?_; rintro r w1 ⟨rfl, hb1⟩; have HB1 := hid (HBA.out.trans (hb1.mono HBA.out.size)); clear hb1) | fail)
       go_ret
       exact ⟨by rw [HR.out]; rfl, HB1.out⟩
     rcases (Bool.eq_false_or_eq_true b3).symm with rfl | rfl
     · have HR := hid (HRN.out (by rw [HOK.out]; rfl))
       go_wp2_with (first | (go_at_call 68; refine HNI.out.mono ?_; rintro r w1 ⟨rfl, hb1⟩; have HB1 := hid (HBA.out.trans (hb1.mono HBA.out.size)); obtain ⟨q0, q1⟩ := zyd (HPB.out _ hb1); clear hb1) | (go_at_call 124; refine (HSI.out _ HB1.out).mono ?_; rintro r w2 ⟨rfl, hb2⟩; have HB2 := hid (HB1.out.trans (hb2.mono HB1.out.size)); clear hb2) | fail)
       go_ret
       exact ⟨by rw [HR.out]; rfl, HB2.out⟩
     have HX := hid (HRX.out (by rw [HOK.out]; rfl))
     go_wp2_with (first | (go_at_call 68; refine HNI.out.mono ?_; rintro r w1 ⟨rfl, hb1⟩; have HB1 := hid (HBA.out.trans (hb1.mono HBA.out.size)); have HP1 := hid hb1; obtain ⟨q0, q1⟩ := zyd (HPB.out _ hb1); clear hb1) | (go_at_call 124; refine (HSI.out _ HB1.out).mono ?_; rintro r w2 ⟨rfl, hb2⟩; have HB2 := hid (HB1.out.trans (hb2.mono HB1.out.size)); obtain ⟨p0, p1⟩ := zyd (HPB.out _ (HP1.out.trans (hb2.mono HP1.out.size))); clear hb2 q0 q1) | fail)
     go_roundw
     case rel => exact ⟨j + 1, n1, by go_num, rfl, hlt, hid HLN.out.symm, HX, HB2⟩
     case measure => simp [intOf]; omega
   · have hdec : decide (j < L.length) = false := by simpa using hlt
     have hje : j = L.length := by omega
     have HR : Hid (needsM L = true) := hid (by unfold needsM; rw [decide_eq_true HM.out, ← hje, HA.out]; rfl)
     go_wp2_with fail
     go_ret
     exact ⟨by rw [HR.out]; rfl, HI.out⟩
theorem zyf (e : EvG) (w : World) (hN : NeIn w e.na e.nc e.needs) (hv : Vw w) : FitN e (needsM e.needs) w := fun W h => zye e.na e.nc e.needs W (hN.gr h) (hv.gr h)
end EvA
end
end Go.Proofs.YtbiplmbcdhjiaaaGreatDoor
