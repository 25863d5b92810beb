/-
  Package frame's small calls: the length that a head says, a number as bytes, the head of a payload.
  Package frame's first: whether a record stands at the front of bytes, and its payload.
  Package frame's Front and All.
-/
import Derived.Test.YtlnbjlidakdmlaaGreatDoorFrameRef
import Derived.Test.YtlnbjlidakdmlaaGreatDoorSumMany
import Derived.Test.YtlnbjlidakdmlaaGreatDoorErrTold
import Derived.Laws.CopyOwn
import Derived.Laws.IdiomStrings
import Derived.ChangeKeysEq
import Derived.Laws.StructEq
import Derived.Laws.CopyRow
namespace Go.Proofs.YtlnbjlidakdmlaaGreatDoor
open Go.RowKit
namespace FrameC
open FrameM
open SumM (fnv nfnv nfnv_lt fnv_nat)
open CodeM (wordB wordB_length byteV)

set_option maxHeartbeats 1000000 in
theorem length_any (l : List UInt8) (hl : l.length = 12) (w : World) :
    Calls Tryz.prog 133 #[.agg (bytesV l)] w fun e w' => e = .returned (.int .u64 (lenB l : Nat)) ∧ Below w.heap.size w w' := by
  have hsz := bytesV_size l
  have hget := Lib.hid (bytesV_get l)
  go_enter Tryz.func133, Tryz.ntmps133
  go_wp2_with fail
  go_loop [3, 5, 8] (fun vn _ vi => ∃ i : Nat, i ≤ 4 ∧ vi = .int .i64 i ∧ vn = .int .u64 (beN (l.take i) : Nat)) (fun _ _ vi => 4 - (intOf vi).toNat)
  case atStart => exact ⟨0, Nat.zero_le _, rfl, rfl⟩
  case round =>
    obtain ⟨i, hi, rfl, rfl⟩ := hrel
    by_cases hlt : i < 4
    · have hdec : decide ((i : Int) < 4) = true := by simp; omega
      have hc0 := hget.out i (by omega)
      have HS := Lib.hid (be_step l i (by omega))
      have hb := be_take l i hi
      have hc := l[i].toNat_lt
      generalize beN (l.take i) = n at *
      generalize l[i] = c at *
      go_wp2_with fail
      go_round
      case rel => exact ⟨i + 1, by omega, by go_num, by rw [HS.out, or_u64 n c.toNat hb hc]⟩
      case measure => simp [intOf]; omega
    · obtain rfl : i = 4 := by omega
      go_wp2_with fail
      go_ret
      exact ⟨rfl, (Below.refl _ _).alloc (Nat.le_refl _) _⟩

/-! ### a number, into a row of bytes -/
/-- W's first i bytes, laid over l from place o on -/
def sp (l : List UInt8) (o : Nat) (W : List UInt8) (i : Nat) : List UInt8 := l.take o ++ (W.take i ++ l.drop (o + i))
theorem sp_zero (l : List UInt8) (o : Nat) (W : List UInt8) : sp l o W 0 = l := by simp [sp]
theorem sp_length (l : List UInt8) (o : Nat) (W : List UInt8) (i : Nat) (hi : i ≤ W.length) (h : o + W.length ≤ l.length) : (sp l o W i).length = l.length := by
  simp only [sp, List.length_append, List.length_take, List.length_drop]; omega
theorem sp_step (l : List UInt8) (o : Nat) (W : List UInt8) (i : Nat) (hi : i < W.length) (h : o + W.length ≤ l.length) : (sp l o W i).set (o + i) W[i] = sp l o W (i + 1) := by
  have e1 : (l.take o).length = o := by rw [List.length_take]; omega
  have e2 : (W.take i).length = i := by rw [List.length_take]; omega
  have e3 : l.drop (o + i) = l[o + i] :: l.drop (o + i + 1) := List.drop_eq_getElem_cons (by omega)
  unfold sp
  rw [List.set_append_right _ _ (by omega), e1, Nat.add_sub_cancel_left, List.set_append_right _ _ (by omega), e2, Nat.sub_self, e3, List.set_cons_zero, List.take_succ_eq_append_getElem hi, List.append_assoc]
  rfl
theorem wordB_get (x : Nat) : ∀ (n i : Nat) (h : i < n), (wordB x n)[i]'(by rw [wordB_length]; exact h) = UInt8.ofNat (x / 256 ^ (n - 1 - i) % 256)
  | n + 1, 0, _ => by simp [wordB]
  | n + 1, i + 1, h => by
    have := wordB_get x n i (by omega)
    simp only [wordB, List.getElem_cons_succ, this]
    congr 4
    omega
set_option maxHeartbeats 2000000 in
set_option maxRecDepth 100000 in
theorem write_any (b o n cp x : Nat) (l : List UInt8) (t : TypeId) (w : World) (hn : n ≤ 8) (ho : o + n ≤ l.length) (hg : w.heap[b]? = some (.cells (bytesV l) t (0, 0))) :
    Calls Tryz.prog 98 #[.slice (some ⟨b, o, none⟩) n cp, .int .u64 x] w fun e w' => e = .returned (.tuple #[]) ∧ w' = w.setRow b (bytesV (sp l o (wordB x n) n)) := by
  have hwl := wordB_length x n
  have HG := Lib.hid hg
  go_enter Tryz.func98, Tryz.ntmps98
  go_wp2_with fail
  go_loopw [4, 7] (fun _ vi wr => ∃ i : Nat, i ≤ n ∧ vi = .int .i64 i ∧ Hid (wr = w.setRow b (bytesV (sp l o (wordB x n) i)))) (fun _ vi _ => n - (intOf vi).toNat)
  case atStart => exact ⟨0, Nat.zero_le _, rfl, Lib.hid (by rw [sp_zero]; exact (setRow_self w b _ t _ hg).symm)⟩
  case round =>
    obtain ⟨i, hi, rfl, HW⟩ := hrel
    rename World => wr
    by_cases hlt : i < n
    · have hdec : decide (i < n) = true := by simpa using hlt
      have hspl := sp_length l o (wordB x n) i (by omega) (by omega)
      have hgw : wr.heap[b]? = some (.cells (bytesV (sp l o (wordB x n) i)) t (0, 0)) := by rw [HW.out]; exact setRow_heap w b _ _ t _ hg
      have hcell : wr.cell? ⟨b, o + i, none⟩ = some (.int .u8 ((sp l o (wordB x n) i)[o + i].toNat : Int)) := by
        rw [cell_of_row wr b (o + i) _ t _ hgw]; exact bytesV_get _ _ (by omega)
      have hfr : wr.frozen? ⟨b, o + i, none⟩ = false := by simp [World.frozen?, hgw]
      have hset := Lib.hid (row_set wr b (o + i) (sp l o (wordB x n) i) t (wordB x n)[i] (by omega) hgw)
      rw [sp_step l o (wordB x n) i (by omega) (by omega), wordB_get x n i hlt, UInt8.toNat_ofNat_of_lt' (Nat.mod_lt _ (by decide)), ← CodeC.shift_cast] at hset
      clear hgw
      generalize (sp l o (wordB x n) i)[o + i].toNat = c at *
      go_wp2_with fail
      go_roundw
      case rel => exact ⟨i + 1, by omega, by go_num, Lib.hid (by rw [hset.out, HW.out, setRow_setRow])⟩
      case measure => simp [intOf]; omega
    · obtain rfl : i = n := by omega
      have hdec : decide (i < i) = false := by simp
      go_wp2_with fail
      exact bodyPost_end (results_none rfl _ _ _) rfl ⟨rfl, HW.out⟩

/-! ### the head of a payload -/
theorem info_head : (Tryz.prog.info? 114).map (·.size) = some 12 := by kernel_rfl
theorem bytesV_one (l : List UInt8) : (bytesV l).all (·.oneCell') = true := by
  rw [Array.all_eq_true_iff_forall_mem]
  intro v hv
  simp only [bytesV, List.mem_toArray, List.mem_map] at hv
  obtain ⟨c, _, rfl⟩ := hv
  rfl
def zeros : List UInt8 := [0, 0, 0, 0, 0, 0, 0, 0, 0, 0, 0, 0]
theorem sp_first (n : Nat) : sp zeros 0 (wordB n 4) 4 = wordB n 4 ++ [0, 0, 0, 0, 0, 0, 0, 0] := by
  simp [sp, zeros, List.take_of_length_le, wordB_length]
theorem sp_second (A W : List UInt8) (hA : A.length = 4) (hW : W.length = 8) : sp (A ++ [0, 0, 0, 0, 0, 0, 0, 0]) 4 W 8 = A ++ W := by
  unfold sp
  rw [List.take_left' hA, List.take_of_length_le (by omega), List.drop_of_length_le (by simp [hA])]
  simp
/-- what headOf has laid, ahead of the sum -/
structure HeadAt (w : World) (g : Nat) (t0 t1 : TypeId) (l : List UInt8) : Prop where
  row0 : w.heap[g]? = some (.cells (bytesV zeros) t0 (0, 0))
  row1 : w.heap[g + 1]? = some (.cells (bytesV l) t1 (0, 0))

def two (w : World) : World := (w.alloc (.cells (bytesV zeros) 114)).alloc (.cells (bytesV zeros) 114)
theorem two_row0 (w : World) : (two w).heap[w.heap.size]? = some (.cells (bytesV zeros) 114 (0, 0)) := by
  unfold two
  rw [heap_alloc_old _ _ (by simp)]
  exact heap_alloc_new w _
theorem two_row1 (w : World) : (two w).heap[w.heap.size + 1]? = some (.cells (bytesV zeros) 114 (0, 0)) := by
  have h := heap_alloc_new (w.alloc (.cells (bytesV zeros) 114)) (.cells (bytesV zeros) 114)
  rw [World.size_alloc] at h
  exact h
theorem two_below (w : World) : Below w.heap.size w (two w) := ((Below.refl _ _).alloc (Nat.le_refl _) _).alloc (by simp) _

set_option maxHeartbeats 4000000 in
set_option maxRecDepth 100000 in
theorem all_two (b : Nat) (A p : List UInt8) (w : World) (h0 : w.cell? ⟨b, 0, none⟩ = some (.string (str A))) (h1 : w.cell? ⟨b, 1, none⟩ = some (.string (str p))) (hA : A.length ≤ 4611686018427387000) (hp : p.length ≤ 4611686018427387000) :
    Calls Tryz.prog 99 #[.slice (some ⟨b, 0, none⟩) 2 2] w fun e w' => e = .returned (.int .u64 (nfnv none0 (A ++ p) : Nat)) ∧ w = w' := by
  refine (SumC.all_some b 0 2 2 [str A, str p] w (Nat.le_refl _) (by decide) (fun i hi => ?_) (fun i hi => ?_)).mono ?_
  · rcases (by omega : i = 0 ∨ i = 1) with rfl | rfl
    · exact h0
    · exact h1
  · rcases (by omega : i = 0 ∨ i = 1) with rfl | rfl
    · show (str A).size ≤ _; rw [str_size]; unfold maxLen; omega
    · show (str p).size ≤ _; rw [str_size]; unfold maxLen; omega
  · rintro e w' ⟨rfl, rfl⟩
    refine ⟨?_, rfl⟩
    rw [← fnv_nat (A ++ p) none0 (by decide), SumM.fnv_append]
    rfl

set_option maxHeartbeats 4000000 in
set_option maxRecDepth 100000 in
theorem headOf_any (p : List UInt8) (w : World) (hp : p.length ≤ 4611686018427387000) :
    Calls Tryz.prog 77 #[.string (str p)] w fun e w' => e = .returned (.agg (bytesV (headB p))) ∧ Below w.heap.size w w' := by
  have hsz := str_size p
  go_enter Tryz.func77, Tryz.ntmps77
  go_wp2_with fail
  change Calls _ _ _ (two w) _
  refine (write_any (w.heap.size + 1) 0 4 12 p.length zeros _ _ (by decide) (by decide) (two_row1 w)).mono ?_
  rintro e w1 ⟨rfl, hw1⟩
  rw [sp_first] at hw1
  have HH : Hid (HeadAt w1 w.heap.size 114 114 (wordB p.length 4 ++ [0, 0, 0, 0, 0, 0, 0, 0])) := Lib.hid (by
    rw [hw1]
    exact ⟨by rw [setRow_other _ _ _ _ (by omega)]; exact two_row0 w, setRow_heap _ _ _ _ _ _ (two_row1 w)⟩)
  have HB1 : Hid (Below w.heap.size w w1) := Lib.hid (by rw [hw1]; exact below_setRow (two_below w) (by omega) _)
  have hcv : (convert 87 9 (.slice (some ⟨w.heap.size + 1, 0, none⟩) 4 12)).run Tryz.prog w1.drew = .ok (.string (str (wordB p.length 4))) w1.drew := by
    have := conv_any (wordB p.length 4) [0, 0, 0, 0, 0, 0, 0, 0] (w.heap.size + 1) 12 114 w1.drew HH.out.row1
    rw [wordB_length] at this
    exact this
  have hlt1 := (Array.getElem?_eq_some_iff.1 HH.out.row1).1
  have HR : Hid (∀ o, (w1.alloc o).drew.heap[w.heap.size + 1]? = some (.cells (bytesV (wordB p.length 4 ++ [0, 0, 0, 0, 0, 0, 0, 0])) 114 (0, 0))) := Lib.hid (fun o => by
    show (w1.alloc o).heap[_]? = _
    rw [heap_alloc_old _ _ hlt1]
    exact HH.out.row1)
  have HR0 : Hid (∀ o, (w1.alloc o).drew.heap[w.heap.size]? = some (.cells (bytesV zeros) 114 (0, 0))) := Lib.hid (fun o => by
    show (w1.alloc o).heap[_]? = _
    rw [heap_alloc_old _ _ (by omega)]
    exact HH.out.row0)
  clear hw1 hlt1
  have HW := Lib.hid (wordB_length p.length 4)
  generalize hA : wordB p.length 4 = A at *
  have HA := Lib.hid hA; clear hA
  go_wp2_with fail
  go_region_with (first
    | (go_at_call 99
       refine (all_two w1.heap.size A p _ (by show (w1.alloc _).cell? _ = _; rw [World.cell?_alloc_at _ _ _ _ rfl]; rfl) (by show (w1.alloc _).cell? _ = _; rw [World.cell?_alloc_at _ _ _ _ rfl]; rfl) (by rw [HW.out]; decide) hp).mono ?_
       rintro e w' ⟨rfl, rfl⟩)
    | (go_at_call 98
       refine (write_any (w.heap.size + 1) 4 8 8 (nfnv none0 (A ++ p)) (A ++ [0, 0, 0, 0, 0, 0, 0, 0]) _ _ (by decide) (by rw [List.length_append, HW.out]; decide) (HR.out _)).mono ?_
       rintro e w2 ⟨rfl, hw2⟩))
  have hhead : A ++ wordB (nfnv none0 (A ++ p)) 8 = headB p := by unfold headB sumB; rw [HA.out]
  rw [sp_second A _ HW.out (wordB_length _ _), hhead]
  have hr1 := setRow_heap _ _ _ (bytesV (headB p)) _ _ (HR.out (.cells #[.string (str A), .string (str p)] 9))
  have hr0 : ((w1.alloc (.cells #[.string (str A), .string (str p)] 9)).drew.setRow (w.heap.size + 1) (bytesV (headB p))).heap[w.heap.size]? = some (.cells (bytesV zeros) 114 (0, 0)) := by
    rw [setRow_other _ _ _ _ (by omega)]; exact HR0.out _
  have HB2 : Hid (Below w.heap.size w ((w1.alloc (.cells #[.string (str A), .string (str p)] 9)).drew.setRow (w.heap.size + 1) (bytesV (headB p)))) := Lib.hid (below_setRow (HB1.out.alloc HB1.out.size _).drew (by omega) _)
  generalize (w1.alloc (.cells #[.string (str A), .string (str p)] 9)).drew.setRow (w.heap.size + 1) (bytesV (headB p)) = w2 at *
  clear HR HR0 HB1 HH hcv
  have hsh := bytesV_size (headB p)
  rw [headB_length] at hsh
  have hinf : (Tryz.prog.info? 114).map (·.size) = some (bytesV (headB p)).size := by rw [hsh]; exact info_head
  go_wp2_with (first
    | (refine wpList_load_row rfl 114 _ rfl _ rfl _ _ _ _ hr1 Tryz.underlying114 rfl hinf ?_)
    | (refine wpList_store_row rfl 114 _ _ rfl _ _ rfl rfl _ _ hr0 hinf (by rw [hsh]; rfl) (bytesV_one _) ?_))
  exact bodyPost_ret (results_cell_row rfl _ _ w.heap.size _ _ _ _ rfl (setRow_heap _ _ _ _ _ _ hr0) Tryz.underlying114 rfl hinf) rfl ⟨rfl, below_setRow HB2.out (Nat.le_refl _) _⟩

/-! ### fault, Of, Size -/
open ErrC in
/-- an error of a call: nil, or the fault of that number, of nothing, there, in new memory -/
def FErr (w w' : World) (v : Value) (c : Nat) (a : Int) : Prop := (c = 0 ∧ v = .nilIface) ∨ (c ≠ 0 ∧ ∃ f, v = .iface 102 (.pointer (some ⟨f, 0, none⟩)) ∧ w.heap.size ≤ f ∧ IsFault w' f 0 c ⟨#[]⟩ a)
theorem FErr.none (w w' : World) (a : Int) : FErr w w' .nilIface 0 a := .inl ⟨rfl, rfl⟩
theorem FErr.below {w0 w w' : World} {v : Value} {c : Nat} {a : Int} (h : FErr w0 w v c a) (hb : Below w.heap.size w w') : FErr w0 w' v c a := by
  rcases h with h | ⟨h0, f, h1, h2, h3⟩
  · exact .inl h
  · exact .inr ⟨h0, f, h1, h2, h3.below hb h3.lt⟩
theorem FErr.from_ {w0 w1 w : World} {v : Value} {c : Nat} {a : Int} (h : FErr w1 w v c a) (hb : w0.heap.size ≤ w1.heap.size) : FErr w0 w v c a := by
  rcases h with h | ⟨h0, f, h1, h2, h3⟩
  · exact .inl h
  · exact .inr ⟨h0, f, h1, Nat.le_trans hb h2, h3⟩
def faultW (c : Nat) (a : Int) (w : World) : World := w.alloc (.cells #[.int .i64 c, .string ⟨#[]⟩, .int .i64 a, .nilIface] 104)
theorem fault_any (c : Nat) (a : Int) (w : World) :
    Calls Tryz.prog 76 #[.int .i64 c, .int .i64 a] w fun e w' => e = .returned (.iface 102 (.pointer (some ⟨w.heap.size, 0, none⟩))) ∧ w' = faultW c a w := by
  go_enter Tryz.func76, Tryz.ntmps76
  go_wp2_with fail
  go_ret
  exact ⟨rfl, rfl⟩
theorem fault_below (c : Nat) (a : Int) (w : World) : Below w.heap.size w (faultW c a w) := (Below.refl _ _).alloc (Nat.le_refl _) _
theorem fault_is (c : Nat) (h : c ≠ 0) (a : Int) (w : World) : FErr w (faultW c a w) (.iface 102 (.pointer (some ⟨w.heap.size, 0, none⟩))) c a :=
  .inr ⟨h, _, rfl, Nat.le_refl _, by constructor <;> · unfold faultW; rw [World.cell?_alloc_at _ _ _ _ rfl]; rfl⟩

theorem size_any (p : List UInt8) (w : World) (hp : p.length ≤ 4611686018427387000) :
    Calls Tryz.prog 88 #[.string (str p)] w fun e w' => e = .returned (.int .i64 ((12 + p.length : Nat) : Int)) ∧ w = w' := by
  have hsz := str_size p
  go_enter Tryz.func88, Tryz.ntmps88
  go_wp2_with fail
  go_ret
  exact ⟨by go_num, rfl⟩

/-- what Of hands back -/
def OfE (p : List UInt8) (w : World) (e : Ending) (w' : World) : Prop :=
  ∃ ev, e = .returned (.tuple #[.string (str (if 131072 < p.length then [] else recB p)), ev]) ∧ FErr w w' ev (if 131072 < p.length then 4 else 0) (-1) ∧ Below w.heap.size w w'

set_option maxHeartbeats 4000000 in
set_option maxRecDepth 100000 in
theorem of_any (p : List UInt8) (w : World) (hp : p.length ≤ 9223372036854775807) :
    Calls Tryz.prog 37 #[.string (str p)] w (OfE p w) := by
  have hsz := str_size p
  unfold OfE
  by_cases h : 131072 < p.length
  · have ht : decide (131072 < (p.length : Int)) = true := by simp; omega
    rw [if_pos h, if_pos h]
    go_enter Tryz.func37, Tryz.ntmps37
    go_wp2_with fail
    refine (fault_any 4 (-1) _).mono ?_
    rintro e w1 ⟨rfl, rfl⟩
    go_wp2_with fail
    go_ret2
    exact ⟨_, rfl, fault_is 4 (by decide) (-1) w, fault_below 4 (-1) w⟩
  · have ht : decide (131072 < (p.length : Int)) = false := by simp; omega
    rw [if_neg h, if_neg h]
    have hsh := bytesV_size (headB p)
    have hhl := headB_length p
    rw [hhl] at hsh
    have hinf : (Tryz.prog.info? 114).map (·.size) = some (bytesV (headB p)).size := by rw [hsh]; exact info_head
    have a1 : ∀ w, (Op.stringOp .add (str (headB p)) (str p)).run Tryz.prog w = .ok (.string (str (recB p))) w := fun w => add_any (headB p) p w (by omega)
    go_enter Tryz.func37, Tryz.ntmps37
    go_wp2_with fail
    refine (headOf_any p _ (by omega)).mono ?_
    rintro e w1 ⟨rfl, hb1⟩
    have HB1 := Lib.hid hb1; clear hb1
    have hnew := heap_alloc_new w1 (.cells (bytesV zeros) 114)
    have hcv := conv_any (headB p) [] w1.heap.size 12 114 ((w1.alloc (.cells (bytesV zeros) 114)).setRow w1.heap.size (bytesV (headB p))) (by rw [List.append_nil]; exact setRow_heap _ _ _ _ _ _ hnew)
    rw [hhl] at hcv
    have HB2 : Hid (Below w.heap.size w ((w1.alloc (.cells (bytesV zeros) 114)).setRow w1.heap.size (bytesV (headB p)))) := Lib.hid (below_setRow (HB1.out.alloc HB1.out.size _) HB1.out.size _)
    go_wp2_with (refine wpList_store_row rfl 114 _ _ rfl _ _ rfl rfl _ _ hnew hinf (by rw [hsh]; rfl) (bytesV_one _) ?_; change wpList _ _ _ _ _ ((w1.alloc (.cells (bytesV zeros) 114)).setRow w1.heap.size (bytesV (headB p))); generalize (w1.alloc (.cells (bytesV zeros) 114)).setRow w1.heap.size (bytesV (headB p)) = w2 at *)
    go_ret2
    exact ⟨_, rfl, FErr.none _ _ _, HB2.out⟩
end FrameC
end Go.Proofs.YtlnbjlidakdmlaaGreatDoor
namespace Go.Proofs.YtlnbjlidakdmlaaGreatDoor
open Go.RowKit
namespace FrameC
open FrameM
open CodeM (wordB wordB_length byteV)

/-! ### two heads held against each other -/
theorem info_byte : (Tryz.prog.info? 5).map (fun i => (i.zero, i.size, i.bytes)) = some (some (.int .u8 0), 1, 1) := by kernel_rfl
theorem cells_u8 : Tryz.prog.cellsOf 5 = 1 := by kernel_rfl
theorem plain_u8 : Tryz.prog.plainKey 5 = true := by kernel_rfl
theorem items_any (xs ys : List UInt8) (w : World) : ∀ is : List Nat, (∀ i ∈ is, i < xs.length ∧ i < ys.length) →
    (Op.eqItems 9999 5 1 (bytesV xs) (bytesV ys) is).run Tryz.prog w = .ok (is.all fun i => xs[i]? == ys[i]?) w
  | [], _ => by simp [Op.eqItems]
  | i :: is, h => by
    obtain ⟨h1, h2⟩ := h i (by simp)
    have e1 := run_part_plain (P := Tryz.prog) w plain_u8 (xs := bytesV xs) (off := i) (bytesV_get xs i h1)
    have e2 := run_part_plain (P := Tryz.prog) w plain_u8 (xs := bytesV ys) (off := i) (bytesV_get ys i h2)
    have e3 := run_equalIn_int (P := Tryz.prog) w 9998 5 .u8 .u8 (xs[i].toNat : Int) (ys[i].toNat : Int) Tryz.underlying5
    have e4 : (((xs[i].toNat : Int)) == ((ys[i].toNat : Int))) = (xs[i]? == ys[i]?) := by
      rw [List.getElem?_eq_getElem h1, List.getElem?_eq_getElem h2, Bool.eq_iff_iff, beq_iff_eq, beq_iff_eq, Option.some.injEq, ← UInt8.toNat_inj]
      omega
    have ih := items_any xs ys w is (fun j hj => h j (by simp [hj]))
    simp only [Op.eqItems, Nat.mul_one, Sem.run_bind, e1, e2, e3, Result.andThen_ok, e4]
    cases hb : xs[i]? == ys[i]? with
    | false => simp [hb]
    | true => simp only [Bool.not_true, Bool.false_eq_true, if_false, ih, List.all_cons, hb, Bool.true_and]
theorem all_iff (xs ys : List UInt8) (n : Nat) (hx : xs.length = n) (hy : ys.length = n) : ((List.range n).all fun i => xs[i]? == ys[i]?) = decide (xs = ys) := by
  rw [Bool.eq_iff_iff, List.all_eq_true, decide_eq_true_iff]
  constructor
  · intro h
    apply List.ext_getElem?
    intro i
    by_cases hi : i < n
    · exact beq_iff_eq.1 (h i (List.mem_range.2 hi))
    · rw [List.getElem?_eq_none (by omega), List.getElem?_eq_none (by omega)]
  · rintro rfl i _
    exact beq_self_eq_true _
theorem neq_any (xs ys : List UInt8) (hx : xs.length = 12) (hy : ys.length = 12) (w : World) : (binOp .neq 114 (.agg (bytesV xs)) (.agg (bytesV ys))).run Tryz.prog w = .ok (.bool (!decide (xs = ys))) w := by
  obtain ⟨i, hi, -, -, -⟩ := info_parts info_byte
  rw [run_neq_struct, run_equalIn_array w 9999 (bytesV xs) (bytesV ys) Tryz.underlying114 hi, cells_u8, items_any xs ys w (List.range 12) (fun i h => by have := List.mem_range.1 h; omega), all_iff xs ys 12 hx hy]
  rfl

theorem equal_any (xs ys : List UInt8) (hx : xs.length = 12) (hy : ys.length = 12) (w : World) : (Op.equalIn 10000 114 (.agg (bytesV xs)) (.agg (bytesV ys))).run Tryz.prog w = .ok (decide (xs = ys)) w := by
  obtain ⟨i, hi, -, -, -⟩ := info_parts info_byte
  rw [run_equalIn_array w 9999 (bytesV xs) (bytesV ys) Tryz.underlying114 hi, cells_u8, items_any xs ys w (List.range 12) (fun i h => by have := List.mem_range.1 h; omega), all_iff xs ys 12 hx hy]
/-! ### copy(h[:], s) -/
theorem run_copy_head (l : List UInt8) (g : Nat) (ty : TypeId) (w : World) (hg : w.heap[g]? = some (.cells (bytesV zeros) 114 (0, 0))) :
    (Builtin.copy_ #[87, 9] ty #[.slice (some ⟨g, 0, none⟩) 12 12, .string (str l)]).run Tryz.prog w = .ok (.int .i64 ((min l.length 12 : Nat) : Int)) (w.setRow g (bytesV (l.take 12 ++ zeros.drop l.length))) := by
  have hvs : (((l.take 12).map byteV)).length = min l.length 12 := by rw [List.length_map, List.length_take, Nat.min_comm]
  have hst := run_storeCells_at Tryz.prog g 0 114 ((l.take 12).map byteV) 0 (bytesV zeros) w hg (by rw [hvs, bytesV_size]; exact Nat.le_trans (Nat.le_of_eq (by simp)) (Nat.min_le_right l.length 12)) (by
    intro v hv
    obtain ⟨c, _, rfl⟩ := List.mem_map.1 hv
    rfl)
  rw [hvs] at hst
  obtain ⟨i, hi, -, -, -⟩ := info_parts info_byte
  have hmin : Nat.min (str l).size 12 = min l.length 12 := by rw [str_size]
  have htk : List.take (min l.length 12) (List.map (fun b : UInt8 => Value.int IntKind.u8 (b.toNat : Int)) l) = (l.take 12).map byteV := by
    rw [← List.map_take]
    have e : l.take (min l.length 12) = l.take 12 := by
      by_cases h : l.length ≤ 12
      · exact (List.take_of_length_le (by omega)).trans (List.take_of_length_le h).symm
      · rw [Nat.min_eq_right (by omega)]
    rw [e]
    rfl
  have hdz : zeros.drop (min l.length 12) = zeros.drop l.length := by
    by_cases h : l.length ≤ 12
    · rw [Nat.min_eq_left h]
    · rw [Nat.min_eq_right (by omega), List.drop_of_length_le (show zeros.length ≤ 12 from Nat.le_refl _), List.drop_of_length_le (show zeros.length ≤ l.length from Nat.le_of_lt (Nat.lt_of_not_le h))]
  have hrow : ((bytesV zeros).toList.take (0 + 0) ++ (l.take 12).map byteV ++ (bytesV zeros).toList.drop (0 + 0 + min l.length 12)).toArray = bytesV (l.take 12 ++ zeros.drop l.length) := by
    unfold bytesV
    rw [Nat.zero_add, Nat.zero_add, List.take_zero, List.nil_append, List.map_append, ← hdz, ← List.map_drop]
  rw [hrow] at hst
  simp [Builtin.copy_, run_underlying Tryz.underlying87, Builtin.lenOf, Builtin.firstCells, sizeOf, typeInfo, hi, hmin, str_list]
  rw [htk, hst]
  rfl
theorem wpList_copy_eq {P : Program} (w : World) {ops : Array Oper} {rest : List Oper} {o : Oper} {a : Act} {Q : Exit → Act → World → Prop} (hgd : o.guard = none) (d s : Operand) (t t' : TypeId)
    (ho : o.op = .call { callee := .builtin .copy, args := #[d, s], argTypes := #[t, t'] }) (v u : Value) (hd : a.eval d = v) (hs : a.eval s = u) {v' : Value} {w' : World}
    (hr : (Builtin.copy_ #[t, t'] o.type #[v, u]).run P w = .ok v' w') (h : wpList P ops Q rest (a.put o.dst v') w') : wpList P ops Q (o :: rest) a w :=
  wpList_plain hgd fun _ hK => by
    unfold Oper.wp execOp
    simp only [ho, resolve, invoke, builtin, Sem.run_bind, Sem.run_pure, Result.andThen_ok, List.map_toArray, List.map_cons, List.map_nil, hd, hs, hr]
    exact hK _ _ h

theorem zeros_eq : bytesV zeros = #[.int .u8 0, .int .u8 0, .int .u8 0, .int .u8 0, .int .u8 0, .int .u8 0, .int .u8 0, .int .u8 0, .int .u8 0, .int .u8 0, .int .u8 0, .int .u8 0] := rfl
/-- a head's twelve cells -/
theorem twelve (H : List UInt8) (h : H.length = 12) : ∃ c0 c1 c2 c3 c4 c5 c6 c7 c8 c9 c10 c11, H = [c0, c1, c2, c3, c4, c5, c6, c7, c8, c9, c10, c11] := by
  match H, h with
  | [c0, c1, c2, c3, c4, c5, c6, c7, c8, c9, c10, c11], _ => exact ⟨c0, c1, c2, c3, c4, c5, c6, c7, c8, c9, c10, c11, rfl⟩
structure Cells12 (w : World) (g : Nat) (c0 c1 c2 c3 c4 c5 c6 c7 c8 c9 c10 c11 : UInt8) : Prop where
  k0 : w.cell? ⟨g, 0, none⟩ = some (.int .u8 (c0.toNat : Int))
  k1 : w.cell? ⟨g, 1, none⟩ = some (.int .u8 (c1.toNat : Int))
  k2 : w.cell? ⟨g, 2, none⟩ = some (.int .u8 (c2.toNat : Int))
  k3 : w.cell? ⟨g, 3, none⟩ = some (.int .u8 (c3.toNat : Int))
  k4 : w.cell? ⟨g, 4, none⟩ = some (.int .u8 (c4.toNat : Int))
  k5 : w.cell? ⟨g, 5, none⟩ = some (.int .u8 (c5.toNat : Int))
  k6 : w.cell? ⟨g, 6, none⟩ = some (.int .u8 (c6.toNat : Int))
  k7 : w.cell? ⟨g, 7, none⟩ = some (.int .u8 (c7.toNat : Int))
  k8 : w.cell? ⟨g, 8, none⟩ = some (.int .u8 (c8.toNat : Int))
  k9 : w.cell? ⟨g, 9, none⟩ = some (.int .u8 (c9.toNat : Int))
  k10 : w.cell? ⟨g, 10, none⟩ = some (.int .u8 (c10.toNat : Int))
  k11 : w.cell? ⟨g, 11, none⟩ = some (.int .u8 (c11.toNat : Int))
theorem cells12 {w : World} {g : Nat} {t : TypeId} {c0 c1 c2 c3 c4 c5 c6 c7 c8 c9 c10 c11 : UInt8} (h : w.heap[g]? = some (.cells (bytesV [c0, c1, c2, c3, c4, c5, c6, c7, c8, c9, c10, c11]) t (0, 0))) : Cells12 w g c0 c1 c2 c3 c4 c5 c6 c7 c8 c9 c10 c11 := by
  constructor <;> · rw [cell_of_row w g _ _ t _ h]; rfl
theorem Cells12.below {w w' : World} {g : Nat} {c0 c1 c2 c3 c4 c5 c6 c7 c8 c9 c10 c11 : UInt8} (h : Cells12 w g c0 c1 c2 c3 c4 c5 c6 c7 c8 c9 c10 c11) (hb : Below w.heap.size w w') : Cells12 w' g c0 c1 c2 c3 c4 c5 c6 c7 c8 c9 c10 c11 := by
  have hlt : g < w.heap.size := World.block_lt_of_cell? _ _ h.k0
  constructor
  · rw [hb.cell hlt]; exact h.k0
  · rw [hb.cell hlt]; exact h.k1
  · rw [hb.cell hlt]; exact h.k2
  · rw [hb.cell hlt]; exact h.k3
  · rw [hb.cell hlt]; exact h.k4
  · rw [hb.cell hlt]; exact h.k5
  · rw [hb.cell hlt]; exact h.k6
  · rw [hb.cell hlt]; exact h.k7
  · rw [hb.cell hlt]; exact h.k8
  · rw [hb.cell hlt]; exact h.k9
  · rw [hb.cell hlt]; exact h.k10
  · rw [hb.cell hlt]; exact h.k11
/-! ### first -/
theorem len_take12 (l : List UInt8) : lenB (l.take 12) = lenB l := by unfold lenB; rw [List.take_take]; rfl
theorem sl_to_u (l : List UInt8) (n : Nat) (h1 : n ≤ l.length) (w : World) :
    (Instr.slice 9 (.string (str l)) none (some (.int .u64 (n : Int))) none).run Tryz.prog w = .ok (.string (str (l.take n))) w := by
  rw [run_slice_string_h w 9 (str l) Tryz.underlying9 .u64 _ (by omega) (by rw [str_size]; omega), Int.toNat_natCast, str_extract]; rfl
def FirstE (l : List UInt8) (w : World) (e : Ending) (w' : World) : Prop := e = .returned (.tuple #[.string (str (frontP l)), .int .i64 (frontE l : Nat)]) ∧ Below w.heap.size w w'
theorem first_bad {l : List UInt8} {c : Nat} (h : frontE l = c) (hc : c ≠ 0) : (.returned (.tuple #[.string (str (frontP l)), .int .i64 (frontE l : Nat)]) : Ending) = .returned (.tuple #[.string (str []), .int .i64 (c : Int)]) := by simp [frontP, h, hc]
theorem first_ok {l : List UInt8} (h : frontE l = 0) : (.returned (.tuple #[.string (str (frontP l)), .int .i64 (frontE l : Nat)]) : Ending) = .returned (.tuple #[.string (str (payB l)), .int .i64 0]) := by simp [frontP, h]

set_option maxHeartbeats 4000000 in
set_option maxRecDepth 100000 in
theorem first_any (l : List UInt8) (w : World) (hp : l.length ≤ 4611686018427387000) :
    Calls Tryz.prog 105 #[.string (str l)] w (FirstE l w) := by
  have hsz := str_size l
  have hnew := heap_alloc_new w (.cells (bytesV zeros) 114)
  have hcopy := run_copy_head l w.heap.size 3 (w.alloc (.cells (bytesV zeros) 114)) hnew
  have hB : Hid (Below w.heap.size w ((w.alloc (.cells (bytesV zeros) 114)).setRow w.heap.size (bytesV (l.take 12 ++ zeros.drop l.length)))) := Lib.hid (below_setRow ((Below.refl _ _).alloc (Nat.le_refl _) _) (Nat.le_refl _) _)
  have hrow := setRow_heap _ _ _ (bytesV (l.take 12 ++ zeros.drop l.length)) _ _ hnew
  have hc12 : Hid (12 ≤ l.length → l.take 12 ++ zeros.drop l.length = l.take 12) := Lib.hid (fun h => by rw [List.drop_of_length_le (show zeros.length ≤ l.length from h), List.append_nil])
  generalize hw1 : (w.alloc (.cells (bytesV zeros) 114)).setRow w.heap.size (bytesV (l.take 12 ++ zeros.drop l.length)) = w1 at *
  rw [zeros_eq] at hcopy
  clear hw1 hnew
  have HROW := Lib.hid hrow
  clear hrow
  by_cases h12 : l.length < 12
  · have hE := Lib.hid (first_bad (front_short l h12) (by decide))
    have ht : decide (((min l.length 12 : Nat) : Int) < 12) = true := by simp; omega
    go_enter Tryz.func105, Tryz.ntmps105
    go_wp2_with fail
    go_ret2
    exact ⟨hE.out.symm, hB.out⟩
  · have ht : decide (((min l.length 12 : Nat) : Int) < 12) = false := by simp; omega
    have hmin : min l.length 12 = 12 := by omega
    rw [hmin] at hcopy
    have hH := hc12.out (by omega)
    rw [hH] at HROW
    have hHl : (l.take 12).length = 12 := by rw [List.length_take]; omega
    have s1 := sl_from l 12 12 rfl (by omega)
    have HL := Lib.hid (len_take12 l)
    obtain ⟨m, hm⟩ : ∃ m, l.length = 12 + m := ⟨l.length - 12, by omega⟩
    have hdl : (str (l.drop 12)).size = m := by rw [str_size, List.length_drop]; omega
    clear hH hc12 ht hmin
    have HN := Lib.hid (lenB_lt l)
    have ht1 := Lib.hid (show (l.take 12).take 4 = l.take 4 by rw [List.take_take]; rfl)
    obtain ⟨c0, c1, c2, c3, c4, c5, c6, c7, c8, c9, c10, c11, hHH⟩ := twelve _ hHl
    rw [hHH] at HROW HL
    have HC := Lib.hid (cells12 HROW.out)
    have k0 := HC.out.k0
    have k1 := HC.out.k1
    have k2 := HC.out.k2
    have k3 := HC.out.k3
    have k4 := HC.out.k4
    have k5 := HC.out.k5
    have k6 := HC.out.k6
    have k7 := HC.out.k7
    have k8 := HC.out.k8
    have k9 := HC.out.k9
    have k10 := HC.out.k10
    have k11 := HC.out.k11
    have HHH := Lib.hid hHH
    clear hHH hHl HROW
    go_enter Tryz.func105, Tryz.ntmps105
    go_wp2_with fail
    go_region_with (first
      | (go_at_call 133
         refine (length_any [c0, c1, c2, c3, c4, c5, c6, c7, c8, c9, c10, c11] rfl _).mono ?_
         rw [HL.out]
         rintro e w2 ⟨rfl, hb2⟩
         have HB2 : Hid (Below w1.heap.size w1 w2) := Lib.hid ⟨hb2.os, hb2.tape, hb2.output, hb2.size, hb2.block⟩
         clear hb2))
    have HBB := Lib.hid (hB.out.trans (HB2.out.mono hB.out.size))
    have HC2 := Lib.hid (HC.out.below HB2.out)
    clear k0 k1 k2 k3 k4 k5 k6 k7 k8 k9 k10 k11 HC HB2 hB hcopy s1
    by_cases hlong : 131072 < lenB l
    · have hE := Lib.hid (first_bad (front_long l h12 hlong) (by decide))
      generalize lenB l = n at *
      have ht2 : decide (131072 < (n : Int)) = true := by simp; omega
      go_wp2_with fail
      go_ret2
      exact ⟨hE.out.symm, HBB.out⟩
    · by_cases htorn : l.length < 12 + lenB l
      · have hE := Lib.hid (first_bad (front_torn l h12 hlong htorn) (by decide))
        have hm2 : m < lenB l := by omega
        generalize lenB l = n at *
        have ht2 : decide (131072 < (n : Int)) = false := by simp; omega
        have ht3 : decide ((m : Int) < (n : Int)) = true := by simp; omega
        go_wp2_with fail
        go_ret2
        exact ⟨hE.out.symm, HBB.out⟩
      · have hm2 : ¬ m < lenB l := by omega
        have hok := Lib.hid (fun h => first_ok (front_ok l h12 hlong htorn h))
        have hbad := Lib.hid (fun h => first_bad (front_bad l h12 hlong htorn h) (by decide))
        have hhead := Lib.hid (head_iff l htorn)
        have s2 := sl_to_u (l.drop 12) (lenB l) (by rw [List.length_drop]; omega)
        change ∀ w, _ = Result.ok (Value.string (str (payB l))) w at s2
        have hpl := Lib.hid (payB_length l htorn)
        rw [HHH.out] at hhead
        generalize lenB l = n at *
        have ht2 : decide (131072 < (n : Int)) = false := by simp; omega
        have ht3 : decide ((m : Int) < (n : Int)) = false := by simp; omega
        generalize payB l = P at *
        by_cases hs : [c0, c1, c2, c3, c4, c5, c6, c7, c8, c9, c10, c11] = headB P
        · have hE := Lib.hid (hok.out (hhead.out.1 hs))
          clear hok hbad hhead
          have hneq : ∀ w, (binOp .neq 114 (.agg #[.int .u8 (c0.toNat : Int), .int .u8 (c1.toNat : Int), .int .u8 (c2.toNat : Int), .int .u8 (c3.toNat : Int), .int .u8 (c4.toNat : Int), .int .u8 (c5.toNat : Int), .int .u8 (c6.toNat : Int), .int .u8 (c7.toNat : Int), .int .u8 (c8.toNat : Int), .int .u8 (c9.toNat : Int), .int .u8 (c10.toNat : Int), .int .u8 (c11.toNat : Int)]) (.agg (bytesV (headB P)))).run Tryz.prog w = .ok (.bool false) w := fun w => (neq_any [c0, c1, c2, c3, c4, c5, c6, c7, c8, c9, c10, c11] (headB P) rfl (headB_length P) w).trans (by simp [hs])
          have heql : ∀ w, (Op.equalIn 10000 114 (.agg #[.int .u8 (c0.toNat : Int), .int .u8 (c1.toNat : Int), .int .u8 (c2.toNat : Int), .int .u8 (c3.toNat : Int), .int .u8 (c4.toNat : Int), .int .u8 (c5.toNat : Int), .int .u8 (c6.toNat : Int), .int .u8 (c7.toNat : Int), .int .u8 (c8.toNat : Int), .int .u8 (c9.toNat : Int), .int .u8 (c10.toNat : Int), .int .u8 (c11.toNat : Int)]) (.agg (bytesV (headB P)))).run Tryz.prog w = .ok true w := fun w => (equal_any [c0, c1, c2, c3, c4, c5, c6, c7, c8, c9, c10, c11] (headB P) rfl (headB_length P) w).trans (by simp [hs])
          clear hs
          have k0 := HC2.out.k0
          have k1 := HC2.out.k1
          have k2 := HC2.out.k2
          have k3 := HC2.out.k3
          have k4 := HC2.out.k4
          have k5 := HC2.out.k5
          have k6 := HC2.out.k6
          have k7 := HC2.out.k7
          have k8 := HC2.out.k8
          have k9 := HC2.out.k9
          have k10 := HC2.out.k10
          have k11 := HC2.out.k11
          go_wp2_with fail
          go_region_with (first
            | (go_at_call 77
               refine (headOf_any P _ (by have := hpl.out; have := HN.out; omega)).mono ?_
               rintro e w3 ⟨rfl, hb3⟩
               have HB3 : Hid (Below w2.heap.size w2 w3) := Lib.hid ⟨hb3.os, hb3.tape, hb3.output, hb3.size, hb3.block⟩
               have HC3 := HC2.out.below HB3.out
               have q0 := HC3.k0
               have q1 := HC3.k1
               have q2 := HC3.k2
               have q3 := HC3.k3
               have q4 := HC3.k4
               have q5 := HC3.k5
               have q6 := HC3.k6
               have q7 := HC3.k7
               have q8 := HC3.k8
               have q9 := HC3.k9
               have q10 := HC3.k10
               have q11 := HC3.k11
               clear hb3 HC3))
          all_goals
            have HBE := Lib.hid (HBB.out.trans (HB3.out.mono HBB.out.size))
            go_wp2_with fail
            go_ret2
            exact ⟨hE.out.symm, HBE.out⟩
        · have hE := Lib.hid (hbad.out (fun h => hs (hhead.out.2 h)))
          clear hok hbad hhead
          have hneq : ∀ w, (binOp .neq 114 (.agg #[.int .u8 (c0.toNat : Int), .int .u8 (c1.toNat : Int), .int .u8 (c2.toNat : Int), .int .u8 (c3.toNat : Int), .int .u8 (c4.toNat : Int), .int .u8 (c5.toNat : Int), .int .u8 (c6.toNat : Int), .int .u8 (c7.toNat : Int), .int .u8 (c8.toNat : Int), .int .u8 (c9.toNat : Int), .int .u8 (c10.toNat : Int), .int .u8 (c11.toNat : Int)]) (.agg (bytesV (headB P)))).run Tryz.prog w = .ok (.bool true) w := fun w => (neq_any [c0, c1, c2, c3, c4, c5, c6, c7, c8, c9, c10, c11] (headB P) rfl (headB_length P) w).trans (by simp [hs])
          have heql : ∀ w, (Op.equalIn 10000 114 (.agg #[.int .u8 (c0.toNat : Int), .int .u8 (c1.toNat : Int), .int .u8 (c2.toNat : Int), .int .u8 (c3.toNat : Int), .int .u8 (c4.toNat : Int), .int .u8 (c5.toNat : Int), .int .u8 (c6.toNat : Int), .int .u8 (c7.toNat : Int), .int .u8 (c8.toNat : Int), .int .u8 (c9.toNat : Int), .int .u8 (c10.toNat : Int), .int .u8 (c11.toNat : Int)]) (.agg (bytesV (headB P)))).run Tryz.prog w = .ok false w := fun w => (equal_any [c0, c1, c2, c3, c4, c5, c6, c7, c8, c9, c10, c11] (headB P) rfl (headB_length P) w).trans (by simp [hs])
          clear hs
          have k0 := HC2.out.k0
          have k1 := HC2.out.k1
          have k2 := HC2.out.k2
          have k3 := HC2.out.k3
          have k4 := HC2.out.k4
          have k5 := HC2.out.k5
          have k6 := HC2.out.k6
          have k7 := HC2.out.k7
          have k8 := HC2.out.k8
          have k9 := HC2.out.k9
          have k10 := HC2.out.k10
          have k11 := HC2.out.k11
          go_wp2_with fail
          go_region_with (first
            | (go_at_call 77
               refine (headOf_any P _ (by have := hpl.out; have := HN.out; omega)).mono ?_
               rintro e w3 ⟨rfl, hb3⟩
               have HB3 : Hid (Below w2.heap.size w2 w3) := Lib.hid ⟨hb3.os, hb3.tape, hb3.output, hb3.size, hb3.block⟩
               have HC3 := HC2.out.below HB3.out
               have q0 := HC3.k0
               have q1 := HC3.k1
               have q2 := HC3.k2
               have q3 := HC3.k3
               have q4 := HC3.k4
               have q5 := HC3.k5
               have q6 := HC3.k6
               have q7 := HC3.k7
               have q8 := HC3.k8
               have q9 := HC3.k9
               have q10 := HC3.k10
               have q11 := HC3.k11
               clear hb3 HC3))
          all_goals
            have HBE := Lib.hid (HBB.out.trans (HB3.out.mono HBB.out.size))
            go_wp2_with fail
            go_ret2
            exact ⟨hE.out.symm, HBE.out⟩
end FrameC
end Go.Proofs.YtlnbjlidakdmlaaGreatDoor
namespace Go.Proofs.YtlnbjlidakdmlaaGreatDoor
open Go.RowKit
namespace FrameC
open FrameM TextR

/-! ### Front -/
def FrontE (l : List UInt8) (w : World) (e : Ending) (w' : World) : Prop :=
  ∃ ev, e = .returned (.tuple #[.string (str (frontP l)), .string (str (frontR l)), ev]) ∧ FErr w w' ev (frontE l) 0 ∧ Below w.heap.size w w'

/-! ### All -/
def AllE (l : List UInt8) (w : World) (e : Ending) (w' : World) : Prop :=
  ∃ v ev, e = .returned (.tuple #[v, .int .i64 ((allB l).2.1 : Nat), ev]) ∧ OwnT w' w.heap.size v ((allB l).1.map str) ∧ FErr w w' ev (allB l).2.2 (allB l).2.1 ∧ Below w.heap.size w w'
theorem first_cases (l : List UInt8) (w : World) (hp : l.length ≤ 4611686018427387000) :
    (frontE l = 0 ∧ Calls Tryz.prog 105 #[.string (str l)] w fun e w' => e = .returned (.tuple #[.string (str (payB l)), .int .i64 0]) ∧ Below w.heap.size w w') ∨
    (∃ c : Nat, frontE l = c ∧ 0 < c ∧ c < 100 ∧ Calls Tryz.prog 105 #[.string (str l)] w fun e w' => e = .returned (.tuple #[.string (str []), .int .i64 (c : Int)]) ∧ Below w.heap.size w w') := by
  rcases fEnd_cases l with ⟨h, -⟩ | ⟨c, h, h1, h2, -⟩
  · exact .inl ⟨h, (first_any l w hp).mono fun _ _ ⟨he, hb⟩ => ⟨he.trans (first_ok h), hb⟩⟩
  · exact .inr ⟨c, h, h1, h2, (first_any l w hp).mono fun _ _ ⟨he, hb⟩ => ⟨he.trans (first_bad h (by omega)), hb⟩⟩

set_option maxHeartbeats 4000000 in
set_option maxRecDepth 100000 in
theorem all_any (l : List UInt8) (w : World) (hp : l.length ≤ 140737488351232) :
    Calls Tryz.prog 87 #[.string (str l)] w (AllE l w) := by
  have hsz := str_size l
  obtain ⟨i0, hi, hz0, hz1, hz2⟩ := info_parts info_text
  unfold AllE
  go_enter Tryz.func87, Tryz.ntmps87
  go_wp2_with fail
  go_loopw [2, 3] (fun vl vu wr => ∃ (u : Nat) (ms : List (List UInt8)), vu = .int .i64 u ∧ Hid (AllAt l u ms) ∧ Hid (OwnT wr w.heap.size vl (ms.map str)) ∧ Hid (Below w.heap.size w wr)) (fun _ vu _ => l.length - (intOf vu).toNat)
  case atStart => exact ⟨0, [], rfl, Lib.hid (AllAt.start l), Lib.hid (OwnT.nil _ _), Lib.hid (Below.refl _ _)⟩
  case round =>
    obtain ⟨u, ms, rfl, HA, HO, HB⟩ := hrel
    rename World => wr
    by_cases hlt : u < l.length
    · have hdec : decide (u < l.length) = true := by simpa using hlt
      have hs := sl_from l u u rfl (by omega)
      have hfew := HA.out.few
      have hlen : (l.drop u).length = l.length - u := List.length_drop
      rcases first_cases (l.drop u) wr (by omega) with ⟨h0, hF⟩ | ⟨c, h0, hc1, hc2, hF⟩
      · have HN := Lib.hid (HA.out.next hlt h0)
        have hfl := front_len _ h0
        have hpl := payB_length (l.drop u) (by omega)
        generalize l.drop u = r at *
        have HF := Lib.hid hF
        clear hF h0
        generalize hP : payB r = P at *
        go_wp2_with fail
        refine HF.out.mono ?_
        rintro e w1 ⟨rfl, hb1⟩
        have HB1 := Lib.hid (HB.out.trans (hb1.mono HB.out.size))
        have HO1 := Lib.hid (below_own HO.out hb1)
        clear hb1 HO HB
        obtain ⟨L, hL⟩ : ∃ L, L = ms.map str := ⟨_, rfl⟩
        have hLl : L.length = ms.length := by rw [hL, List.length_map]
        rw [← hL] at HO1
        have HL := Lib.hid hL; clear hL
        go_wp2_with (at_builtin; refine wpList_one rfl _ _ 42 rfl w.heap.size 9 i0 (.string ⟨#[]⟩) Tryz.underlying42 hi hz0 hz1 hz2 rfl _ _ _ rfl (World.ownsRow.alloc HO1.out _) ⟨w1.heap.size, 0, none⟩ 1 (.string (str P)) rfl (text_cell _ _ _) rfl ?c1 ?c2 ?_)
        case c1 => omega
        case c2 => have := HB1.out.size; simp; omega
        intro v' w2 hown' hg
        have HB2 : Hid (Below w.heap.size w w2) := Lib.hid ((HB1.out.alloc HB1.out.size _).grown hg (by have := HB1.out.size; simp; omega) (own_lt HO1.out))
        have HO2 := Lib.hid (snoc hown' hLl.symm)
        clear hown' hg HO1 HB1
        go_wp2_with fail
        refine (size_any P _ (by omega)).mono ?_
        rintro e w3 ⟨rfl, rfl⟩
        go_wp2_with fail
        go_roundw
        case rel => exact ⟨u + (12 + P.length), ms ++ [P], by go_num, HN, by rw [List.map_append, List.map_singleton, ← HL.out]; exact HO2, HB2⟩
        case measure => simp [intOf]; omega
      · have HD := Lib.hid (HA.out.bad hlt (by omega))
        rw [h0] at HD
        generalize l.drop u = r at *
        have HF := Lib.hid hF
        clear hF h0
        have hcz : ((c : Int) == 0) = false := beq_eq_false_iff_ne.2 (by omega)
        go_wp2_with fail
        refine HF.out.mono ?_
        rintro e w1 ⟨rfl, hb1⟩
        have HB1 := Lib.hid (HB.out.trans (hb1.mono HB.out.size))
        have HO1 := Lib.hid (below_own HO.out hb1)
        clear hb1 HO HB
        go_wp2_with fail
        refine (fault_any c u _).mono ?_
        rintro e w2 ⟨rfl, rfl⟩
        have HB2 := Lib.hid (HB1.out.trans ((fault_below c u w1).mono HB1.out.size))
        have HO2 := Lib.hid (below_own HO1.out (fault_below c u w1))
        have HE2 := Lib.hid ((fault_is c (by omega) u w1).from_ HB1.out.size)
        go_wp2_with fail
        go_ret3
        exact ⟨_, _, by rw [HD.out]; rfl, by rw [HD.out]; exact HO2.out, by rw [HD.out]; exact HE2.out, HB2.out⟩
    · have hdec : decide (u < l.length) = false := by simpa using hlt
      have HD := Lib.hid (HA.out.done hlt)
      go_wp2_with fail
      go_ret3
      exact ⟨_, _, by rw [HD.out]; rfl, by rw [HD.out]; exact HO.out, by rw [HD.out]; exact FErr.none _ _ _, HB.out⟩
end FrameC
end Go.Proofs.YtlnbjlidakdmlaaGreatDoor
