/-
  The document's own answers for layer 5: the files' names, which file a name is, the records of one file.
-/
import Derived.Test.YtlnbjlidakdmlaaGreatDoorLogMath
import Derived.Test.YtlnbjlidakdmlaaGreatDoorFrameRef
import Derived.Lib.SlBytesConst
namespace Go.Proofs.YtlnbjlidakdmlaaGreatDoor
open Go.RowKit
namespace LogC
open LogM FrameM FrameC TextR

theorem div_step (n i : Nat) : n / 10 ^ i / 10 = n / 10 ^ (i + 1) := by rw [Nat.div_div_eq_div_mul, Nat.pow_succ]
/-- the row of a constant's bytes, with its mark -/
def markW (w : World) (l : List UInt8) : World := w.alloc (.cells (bytesV l) 5 (12, 13))
theorem mark_row (w : World) (l : List UInt8) : (markW w l).heap[w.heap.size]? = some (.cells (bytesV l) 5 (12, 13)) := by
  show (w.heap.push _)[w.heap.size]? = _
  simp
theorem push_turn (h : Array Obj) (o : Obj) (f : Obj → Obj) : (h.push o).modify h.size f = h.push (f o) := by
  refine Array.ext (by simp) (fun j h1 _ => ?_)
  rw [Array.getElem_modify, Array.getElem_push, Array.getElem_push]
  rcases Nat.lt_or_ge j h.size with hj | hj
  · rw [dif_pos hj, if_neg (by omega), dif_pos hj]
  · have e : h.size = j := by simp at h1; omega
    rw [dif_neg (by omega), if_pos e, dif_neg (by omega)]
theorem mark_set (w : World) (l m : List UInt8) : (markW w l).setRow w.heap.size (bytesV m) = markW w m := by
  unfold markW World.setRow
  show ({ w.alloc _ with heap := (w.heap.push _).modify w.heap.size _ } : World) = _
  rw [push_turn]
  rfl
theorem mark_conv (n : Nat) (w : World) : (convert 87 87 (.slice (some ⟨w.heap.size, 0, none⟩) 12 12)).run Tryz.prog (w.alloc (.cells #[.int .u8 108, .int .u8 111, .int .u8 103, .int .u8 47, .int .u8 48, .int .u8 48, .int .u8 48, .int .u8 48, .int .u8 48, .int .u8 48, .int .u8 48, .int .u8 48] 5)) = .ok (.slice (some ⟨w.heap.size, 0, none⟩) 12 12) (markW w (fileAt n 0)) :=
  Go.Lib.run_convert_bytes_const (P := Tryz.prog) w 87 5 (bytesV (fileAt n 0)) 12 12 Tryz.underlying87 Tryz.underlying5
set_option maxHeartbeats 2000000 in
set_option maxRecDepth 100000 in
theorem rfile_any (n : Nat) (w : World) (h : n < 9223372036854775808) :
    Calls Tryz.prog 28 #[.int .i64 n] w fun e w' => e = .returned (.string (str (fileB n))) ∧ Below w.heap.size w w' := by
  have hn := Lib.hid h; clear h
  have hcs := mark_conv n w
  go_enter Tryz.func28, Tryz.ntmps28
  go_wp2_with fail
  go_loopw [0, 4] (fun vn vi wr => ∃ i : Nat, i ≤ 8 ∧ vi = .int .i64 i ∧ vn = .int .i64 ((n / 10 ^ i : Nat) : Int) ∧ Hid (wr = markW w (fileAt n i))) (fun _ vi _ => 8 - (intOf vi).toNat)
  case atStart => exact ⟨0, Nat.zero_le _, rfl, by simp, Lib.hid rfl⟩
  case round =>
    obtain ⟨i, hi, rfl, rfl, HW⟩ := hrel
    rename World => wr
    have hnew : wr.heap[w.heap.size]? = some (.cells (bytesV (fileAt n i)) 5 (12, 13)) := by rw [HW.out]; exact mark_row w _
    have hfl := fileAt_length n i hi
    have hle : n / 10 ^ i < 9223372036854775808 := Nat.lt_of_le_of_lt (Nat.div_le_self _ _) hn.out
    by_cases hlt : i < 8
    · have hdec : decide ((i : Int) < 8) = true := by simp; omega
      have hcell : wr.cell? ⟨w.heap.size, 11 - i, none⟩ = some (.int .u8 ((fileAt n i)[11 - i].toNat : Int)) := by
        rw [cell_of_row wr _ (11 - i) _ _ _ hnew]; exact bytesV_get _ _ (by omega)
      have hfr : wr.frozen? ⟨w.heap.size, 11 - i, none⟩ = false := by simp [World.frozen?, hnew]; omega
      have hset := row_set wr w.heap.size (11 - i) (fileAt n i) 5 (UInt8.ofNat (48 + n / 10 ^ i % 10)) (by omega) hnew
      rw [fileAt_set n i hlt, digit_nat] at hset
      have hst : Hid (wr.setCell ⟨w.heap.size, 11 - i, none⟩ (.int .u8 ((48 + n / 10 ^ i % 10 : Nat) : Int)) = markW w (fileAt n (i + 1))) := Lib.hid (by
        rw [hset, HW.out]
        exact mark_set w _ _)
      have HDV := Lib.hid (div_step n i)
      clear hset hnew
      generalize (fileAt n i)[11 - i].toNat = c at *
      generalize n / 10 ^ i = m at *
      go_wp2_with fail
      go_roundw
      case rel => exact ⟨i + 1, by omega, by go_num, by rw [← HDV.out]; simp, Lib.hid (by rw [← hst.out]; simp)⟩
      case measure => simp [intOf]; omega
    · obtain rfl : i = 8 := by omega
      rw [fileAt_all] at hnew
      have hcv := conv_any (fileB n) [] w.heap.size 12 5 wr (by rw [List.append_nil]; exact hnew)
      rw [fileB_length] at hcv
      have HB : Hid (Below w.heap.size w wr) := Lib.hid (by rw [HW.out]; exact (Below.refl _ _).alloc (Nat.le_refl _) _)
      clear hnew
      go_wp2_with fail
      go_ret
      exact ⟨rfl, HB.out⟩

theorem num_len {l : List UInt8} (h : l.length ≠ 12) : numB l = 0 := if_neg (fun e => h e.1)
theorem num_pre {l : List UInt8} (h : l.take 4 ≠ pre4) : numB l = 0 := if_neg (fun e => h e.2.1)
theorem num_bad {l : List UInt8} (i : Nat) (h4 : 4 ≤ i) (hi : i < l.length) (h : isDig l[i] = false) : numB l = 0 := by
  refine if_neg (fun e => ?_)
  have := List.all_eq_true.1 e.2.2 l[i] (List.mem_iff_getElem.2 ⟨i - 4, by simp; omega, by simp [show 4 + (i - 4) = i by omega]⟩)
  rw [h] at this
  cases this
/-- the first k behind 'log/' are digits -/
def Digits (l : List UInt8) (k : Nat) : Prop := ((l.drop 4).take k).all isDig = true
theorem digits_step {l : List UInt8} {k : Nat} (h : Digits l k) (hk : 4 + k < l.length) (hd : isDig l[4 + k] = true) : Digits l (k + 1) ∧ decV ((l.drop 4).take (k + 1)) = 10 * decV ((l.drop 4).take k) + (l[4 + k].toNat - 48) := by
  have hk2 : k < (l.drop 4).length := by rw [List.length_drop]; omega
  have e : (l.drop 4).take (k + 1) = (l.drop 4).take k ++ [l[4 + k]] := by
    rw [List.take_succ_eq_append_getElem hk2, List.getElem_drop]
  refine ⟨?_, by rw [e, decV_snoc]⟩
  unfold Digits at h ⊢
  rw [e, List.all_append, h]
  simp [hd]
theorem digits_lt {l : List UInt8} {k : Nat} (h : Digits l k) (hk : k ≤ 8) : decV ((l.drop 4).take k) < 100000000 := by
  have h1 := decV_lt _ h
  have h2 : 10 ^ ((l.drop 4).take k).length ≤ 10 ^ 8 := Nat.pow_le_pow_right (by decide) (by rw [List.length_take]; omega)
  exact Nat.lt_of_lt_of_le h1 h2
theorem digits_all {l : List UInt8} (h : Digits l 8) (hl : l.length = 12) (hp : l.take 4 = pre4) : numB l = decV ((l.drop 4).take 8) := by
  have e : (l.drop 4).take 8 = l.drop 4 := List.take_of_length_le (by rw [List.length_drop]; omega)
  unfold Digits at h
  rw [e] at h ⊢
  exact if_pos ⟨hl, hp, h⟩

set_option maxHeartbeats 2000000 in
set_option maxRecDepth 100000 in
theorem rnumber_any (l : List UInt8) (w : World) :
    Calls Tryz.prog 32 #[.string (str l)] w fun e w' => e = .returned (.int .i64 (numB l : Nat)) ∧ w = w' := by
  have hsz := str_size l
  by_cases h12 : l.length = 12
  · have s1 := sl_to l 4 4 rfl (by omega)
    by_cases hp : l.take 4 = pre4
    · rw [hp] at s1
      have HP := Lib.hid hp
      clear hp
      have hne : ((str pre4).toList == [108, 111, 103, 47]) = true := by rw [ByteArray.toList_eq, str_list]; rfl
      have hsz2 : (str l).size = 12 := by rw [hsz, h12]
      clear hsz
      go_enter Tryz.func32, Tryz.ntmps32
      go_wp2_with fail
      go_loop [3, 4] (fun vn vi => ∃ k : Nat, k ≤ 8 ∧ vi = .int .i64 (4 + (k : Int)) ∧ vn = .int .i64 ((decV ((l.drop 4).take k) : Nat) : Int) ∧ Hid (Digits l k)) (fun _ vi => 12 - (intOf vi).toNat)
      case atStart => exact ⟨0, Nat.zero_le _, rfl, rfl, Lib.hid rfl⟩
      case round =>
        obtain ⟨k, hk, rfl, rfl, HD⟩ := hrel
        by_cases hlt : k < 8
        · have hdec : decide ((4 + (k : Int)) < 12) = true := by simp; omega
          have hidx := idx_any l (4 + (k : Int)) (4 + k) (by omega) (by omega)
          have hnl := digits_lt HD.out hk
          have HBAD := Lib.hid (fun (h : isDig l[4 + k] = false) => num_bad (l := l) (4 + k) (by omega) (by omega) h)
          have HST := Lib.hid (fun (h : isDig l[4 + k] = true) => digits_step HD.out (by omega) h)
          have hc := l[4 + k].toNat_lt
          generalize decV ((l.drop 4).take k) = n at *
          generalize l[4 + k] = c at *
          by_cases hd : 48 ≤ c.toNat ∧ c.toNat ≤ 57
          · have hdg : isDig c = true := by simp [isDig, hd.1, hd.2]
            obtain ⟨q1, q2⟩ := HST.out hdg
            have Q1 := Lib.hid q1
            have Q2 := Lib.hid q2
            have d1 : decide (c.toNat < 48) = false := by simp; omega
            have d2 : decide (57 < c.toNat) = false := by simp; omega
            obtain ⟨e1, e2⟩ := hd
            clear q1 q2 hdg
            go_wp2_with fail
            go_round
            case rel => exact ⟨k + 1, by omega, by go_num, by rw [Q2.out]; congr 1; omega, Q1⟩
            case measure => simp [intOf]; omega
          · have hdg : isDig c = false := by simp [isDig]; omega
            have hz := Lib.hid (HBAD.out hdg)
            clear hdg HBAD HST
            by_cases d : c.toNat < 48
            · have d1 : decide (c.toNat < 48) = true := by simpa using d
              clear hd
              go_wp2_with fail
              go_ret
              exact ⟨by rw [hz.out]; rfl, rfl⟩
            · have d1 : decide (c.toNat < 48) = false := by simpa using d
              have d2 : decide (57 < c.toNat) = true := by simp; omega
              have d3 : 57 < c.toNat := by omega
              clear hd
              go_wp2_with fail
              go_ret
              exact ⟨by rw [hz.out]; rfl, rfl⟩
        · obtain rfl : k = 8 := by omega
          have hall := Lib.hid (digits_all HD.out h12 HP.out)
          generalize decV ((l.drop 4).take 8) = n at *
          go_wp2_with fail
          go_ret
          exact ⟨by rw [hall.out]; rfl, rfl⟩
    · have hz := Lib.hid (num_pre hp)
      have hne : ((str (l.take 4)).toList == [108, 111, 103, 47]) = false := by
        rw [ByteArray.toList_eq, str_list]
        simpa [pre4] using hp
      generalize l.take 4 = q at *
      clear hp
      go_enter Tryz.func32, Tryz.ntmps32
      go_wp2_with fail
      go_ret
      exact ⟨by rw [hz.out]; rfl, rfl⟩
  · have hz := Lib.hid (num_len h12)
    have hb : ((l.length : Int) == 12) = false := beq_eq_false_iff_ne.2 (by omega)
    go_enter Tryz.func32, Tryz.ntmps32
    go_wp2_with fail
    go_ret
    exact ⟨by rw [hz.out]; rfl, rfl⟩

/-! ### the records of one file -/
def usedB : List (List UInt8) → Nat
  | [] => 0
  | p :: r => (12 + p.length) + usedB r
theorem used_append (a b : List (List UInt8)) : usedB (a ++ b) = usedB a + usedB b := by
  induction a with
  | nil => simp [usedB]
  | cons p r ih => simp [usedB, ih]; omega
theorem used_step (ms : List (List UInt8)) (i : Nat) (h : i < ms.length) : usedB (ms.take (i + 1)) = usedB (ms.take i) + (12 + ms[i].length) := by
  rw [List.take_succ_eq_append_getElem h, used_append]; simp [usedB]
/-- the records of a file (64 at most) -/
def hasB (l : List UInt8) : List (List UInt8) := (allB l).1.take 64
theorem used_all (l : List UInt8) : ∀ n, l.length ≤ n → usedB (allB l).1 ≤ l.length
  | 0, h => by
    obtain rfl : l = [] := List.length_eq_zero_iff.1 (by omega)
    rw [all_nil]; simp [usedB]
  | n + 1, h => by
    by_cases h0 : l = []
    · subst h0; rw [all_nil]; simp [usedB]
    · by_cases he : frontE l = 0
      · have hf := front_len l he
        have hp := payB_length l (by omega)
        have hr : (restB l).length = l.length - (12 + lenB l) := by rw [restB, List.length_drop]
        have ih := used_all (restB l) n (by omega)
        rw [all_cons l h0 he]
        simp only [usedB]
        omega
      · rw [all_bad l h0 he]; simp [usedB]
theorem used_take (ms : List (List UInt8)) (k : Nat) : usedB (ms.take k) ≤ usedB ms := by
  have e := used_append (ms.take k) (ms.drop k)
  rw [List.take_append_drop] at e
  omega
theorem own_take {w : World} {B g cp : Nat} {L : List ByteArray} (h : OwnT w B (.slice (some ⟨g, 0, none⟩) L.length cp) L) (k : Nat) (hk : k ≤ L.length) : OwnT w B (.slice (some ⟨g, 0, none⟩) k cp) (L.take k) := by
  obtain ⟨h1, ⟨h2, -⟩ | ⟨g', cap, cur, h2, h3, h4, h5, h6, h7, h8⟩⟩ := h
  · cases h2
  · cases h2
    have hl : (L.take k).length = k := by rw [List.length_take]; omega
    refine ⟨by rw [List.length_map]; simp, .inr ⟨g, cp, cur, by rw [hl], h3, h4, by rw [hl]; omega, h6, h7, ?_⟩⟩
    rw [hl, List.map_take, ← h8, List.take_take]
    congr 1
    simp
    omega

set_option maxHeartbeats 4000000 in
set_option maxRecDepth 100000 in
theorem rhas_any (l : List UInt8) (w : World) (hp : l.length ≤ 140737488351232) :
    Calls Tryz.prog 30 #[.string (str l)] w fun e w' => ∃ v, e = .returned (.tuple #[v, .int .i64 (usedB (hasB l) : Nat)]) ∧ OwnT w' w.heap.size v ((hasB l).map str) ∧ Below w.heap.size w w' := by
  have hu := used_take (allB l).1 64
  have hu2 := used_all l l.length (Nat.le_refl _)
  have h4 := Lib.hid (rall_any l w hp)
  unfold aEnd at h4
  have hlen : (hasB l).length ≤ 64 := by unfold hasB; rw [List.length_take]; omega
  have hub : usedB (hasB l) ≤ 140737488351232 := by unfold hasB; omega
  have hml : ((allB l).1.map str).length = (allB l).1.length := List.length_map _
  have hhas : (hasB l).map str = ((allB l).1.map str).take 64 := by unfold hasB; rw [List.map_take]
  have hsm : ∀ i (h : i < (hasB l).length), (str (hasB l)[i]).size = (hasB l)[i].length := fun i h => str_size _
  have HS := Lib.hid (used_step (hasB l))
  have hsh1 : (allB l).1.length ≤ 64 → (hasB l).length = (allB l).1.length := fun h => by unfold hasB; rw [List.length_take, Nat.min_eq_right h]
  have hsh2 : 64 ≤ (allB l).1.length → (hasB l).length = 64 := fun h => by unfold hasB; rw [List.length_take, Nat.min_eq_left h]
  clear hu hu2
  go_enter Tryz.func30, Tryz.ntmps30
  go_wp2_with fail
  refine h4.out.mono ?_
  rintro e w1 ⟨v, rfl, ho, hb⟩
  have HB1 := Lib.hid hb; clear hb
  have HO := Lib.hid ho
  obtain ⟨a, cp, rfl, hc⟩ := ho.open_
  generalize (allB l).2.1 = u1 at *
  generalize (allB l).2.2 = u2 at *
  generalize hM : (allB l).1.map str = M at *
  have HML := Lib.hid hml
  have HHAS := Lib.hid hhas
  clear hml
  clear hhas
  by_cases h64 : 64 < M.length
  · have hdec : decide (64 < (M.length : Int)) = true := by simp; omega
    obtain ⟨g, rfl, -, hg, hcell⟩ := hc (by omega)
    have HO2 := Lib.hid (own_take HO.out 64 (by omega))
    have hn : (hasB l).length = 64 := hsh2 (by have := HML.out; omega)
    rw [← HHAS.out] at HO2
    have HC := Lib.hid hcell
    have hcp : M.length ≤ cp := by
      obtain ⟨-, ⟨h2, -⟩ | ⟨g', cap, cur, h2, -, -, h5, -⟩⟩ := HO.out
      · cases h2
      · cases h2; exact h5
    clear hcell hc ho
    go_wp2_with fail
    go_loopw [7, 8] (fun vu vi wr => ∃ i : Nat, w1 = wr ∧ i ≤ 64 ∧ vi = .int .i64 i ∧ vu = .int .i64 ((usedB ((hasB l).take i) : Nat) : Int)) (fun _ vi _ => 64 - (intOf vi).toNat)
    case atStart => exact ⟨0, rfl, Nat.zero_le _, rfl, rfl⟩
    case round =>
      obtain ⟨i, rfl, hi, rfl, rfl⟩ := hrel
      by_cases hlt : i < 64
      · have hd2 : decide ((i : Int) < (64 : Int)) = true := by simp; omega
        have hd3 : decide (i < 64) = true := by simpa using hlt
        have hcl : w1.cell? ⟨g, i, none⟩ = some (.string (str (hasB l)[i])) := by
          rw [HC.out i (by omega)]
          have e : M[i]? = some (str (hasB l)[i]) := by
            have := congrArg (fun z : List ByteArray => z[i]?) HHAS.out
            simp only [List.getElem?_map, List.getElem?_take, List.getElem?_eq_getElem (show i < (hasB l).length by omega), Option.map_some] at this
            rw [if_pos (by omega)] at this
            exact this.symm
          rw [List.getElem?_eq_getElem (by omega)] at e
          rw [Option.some.inj e]
        have hst := Lib.hid (HS.out i (by omega))
        have hle := Lib.hid (used_take (hasB l) i)
        have hpl := Lib.hid (used_take (hasB l) (i + 1))
        generalize hX : usedB ((hasB l).take (i + 1)) = X at *
        generalize hY : usedB ((hasB l).take i) = Y at *
        generalize (hasB l)[i] = q at *
        have hq : q.length ≤ 140737488351232 := by have := hst.out; have := hpl.out; omega
        go_wp2_with fail
        refine (rsize_any q _ (by omega)).mono ?_
        rintro e w2 ⟨rfl, rfl⟩
        have hy : Y ≤ 140737488351232 := by have := hle.out; omega
        go_wp2_with fail
        go_roundw
        case rel => exact ⟨i + 1, trivial, by omega, by go_num, by rw [hX, hst.out]; go_num⟩
        case measure => simp [intOf]; omega
      · obtain rfl : i = 64 := by omega
        have hd3 : decide (64 < 64) = false := by simp
        have hall : (hasB l).take 64 = hasB l := List.take_of_length_le (by omega)
        go_wp2_with fail
        go_ret2
        exact ⟨_, by rw [hall]; rfl, HO2.out, HB1.out⟩
  · have hdec : decide (64 < (M.length : Int)) = false := by simp; omega
    have HC0 := Lib.hid hc
    have hn : (hasB l).length = M.length := (hsh1 (by have := HML.out; omega)).trans HML.out.symm
    have hMM : M.take 64 = M := List.take_of_length_le (by omega)
    have HO2 : Hid (OwnT w1 w.heap.size (.slice a M.length cp) ((hasB l).map str)) := Lib.hid (by rw [HHAS.out, hMM]; exact HO.out)
    clear hc ho hMM
    go_wp2_with fail
    go_loopw [7, 8] (fun vu vi wr => ∃ i : Nat, w1 = wr ∧ i ≤ M.length ∧ vi = .int .i64 i ∧ vu = .int .i64 ((usedB ((hasB l).take i) : Nat) : Int)) (fun _ vi _ => M.length - (intOf vi).toNat)
    case atStart => exact ⟨0, rfl, Nat.zero_le _, rfl, rfl⟩
    case round =>
      obtain ⟨i, rfl, hi, rfl, rfl⟩ := hrel
      by_cases hlt : i < M.length
      · have hd2 : decide ((i : Int) < (M.length : Int)) = true := by simp; omega
        have hd3 : decide (i < M.length) = true := by simpa using hlt
        obtain ⟨g, rfl, -, hg, hcell⟩ := HC0.out (by omega)
        have hcl : w1.cell? ⟨g, i, none⟩ = some (.string (str (hasB l)[i])) := by
          rw [hcell i (by omega)]
          have e : M[i]? = some (str (hasB l)[i]) := by
            have := congrArg (fun z : List ByteArray => z[i]?) HHAS.out
            simp only [List.getElem?_map, List.getElem?_take, List.getElem?_eq_getElem (show i < (hasB l).length by omega), Option.map_some] at this
            rw [if_pos (by omega)] at this
            exact this.symm
          rw [List.getElem?_eq_getElem (by omega)] at e
          rw [Option.some.inj e]
        clear hcell
        have hst := Lib.hid (HS.out i (by omega))
        have hle := Lib.hid (used_take (hasB l) i)
        have hpl := Lib.hid (used_take (hasB l) (i + 1))
        generalize hX : usedB ((hasB l).take (i + 1)) = X at *
        generalize hY : usedB ((hasB l).take i) = Y at *
        generalize (hasB l)[i] = q at *
        have hq : q.length ≤ 140737488351232 := by have := hst.out; have := hpl.out; omega
        go_wp2_with fail
        refine (rsize_any q _ (by omega)).mono ?_
        rintro e w2 ⟨rfl, rfl⟩
        have hy : Y ≤ 140737488351232 := by have := hle.out; omega
        go_wp2_with fail
        go_roundw
        case rel => exact ⟨i + 1, trivial, by omega, by go_num, by rw [hX, hst.out]; go_num⟩
        case measure => simp [intOf]; omega
      · obtain rfl : i = M.length := by omega
        have hd3 : decide (M.length < M.length) = false := by simp
        have hall : (hasB l).take M.length = hasB l := List.take_of_length_le (by omega)
        go_wp2_with fail
        go_ret2
        exact ⟨_, by rw [hall]; rfl, HO2.out, HB1.out⟩
end LogC
end Go.Proofs.YtlnbjlidakdmlaaGreatDoor
