/-
  Package frame's small calls: the length that a head says, a number as bytes, the head of a payload.
-/
import Derived.Test.YtpmbokklpidohaaDoorFrameRef
import Derived.Test.YtpmbokklpidohaaDoorSumMany
import Derived.Test.YtpmbokklpidohaaDoorErrTold
import Derived.Laws.CopyOwn
import Derived.Laws.IdiomStrings
namespace Go.Proofs.YtpmbokklpidohaaDoor
open Go.RowKit
namespace FrameC
open FrameM
open SumM (fnv nfnv nfnv_lt fnv_nat)
open CodeM (wordB wordB_length byteV)

/-- a row of bytes -/
def bytesV (l : List UInt8) : Array Value := (l.map byteV).toArray
theorem bytesV_size (l : List UInt8) : (bytesV l).size = l.length := by simp [bytesV]
theorem bytesV_get (l : List UInt8) (i : Nat) (h : i < l.length) : (bytesV l)[i]? = some (.int .u8 (l[i].toNat : Int)) := by
  simp [bytesV, byteV, List.getElem?_eq_getElem h]

set_option maxHeartbeats 1000000 in
theorem length_any (l : List UInt8) (hl : l.length = 12) (w : World) :
    Calls Tryd.prog 30 #[.agg (bytesV l)] w fun e w' => e = .returned (.int .u64 (lenB l : Nat)) ∧ Below w.heap.size w w' := by
  have hsz := bytesV_size l
  have hget := Lib.hid (bytesV_get l)
  go_enter Tryd.func30, Tryd.ntmps30
  go_wp2_with fail
  go_loop [3, 5, 8] (fun vn _ vi => ∃ i : Nat, i ≤ 4 ∧ vi = .int .i64 i ∧ vn = .int .u64 (beN (l.take i) : Nat)) (fun _ _ vi => 4 - (intOf vi).toNat)
  case atStart => exact ⟨0, Nat.zero_le _, rfl, rfl⟩
  case round =>
    obtain ⟨i, hi, rfl, rfl⟩ := hrel
    by_cases hlt : i < 4
    · have hdec : decide ((i : Int) < 4) = true := by simp; omega
      have hc0 := hget.out i (by omega)
      have HS := Lib.hid (be_step l i (by omega))
      have hb := be_take l i hi
      have hc := l[i].toNat_lt
      generalize beN (l.take i) = n at *
      generalize l[i] = c at *
      go_wp2_with fail
      go_round
      case rel => exact ⟨i + 1, by omega, by go_num, by rw [HS.out, or_u64 n c.toNat hb hc]⟩
      case measure => simp [intOf]; omega
    · obtain rfl : i = 4 := by omega
      go_wp2_with fail
      go_ret
      exact ⟨rfl, (Below.refl _ _).alloc (Nat.le_refl _) _⟩

/-! ### a number, into a row of bytes -/
/-- W's first i bytes, laid over l from place o on -/
def sp (l : List UInt8) (o : Nat) (W : List UInt8) (i : Nat) : List UInt8 := l.take o ++ (W.take i ++ l.drop (o + i))
theorem sp_zero (l : List UInt8) (o : Nat) (W : List UInt8) : sp l o W 0 = l := by simp [sp]
theorem sp_length (l : List UInt8) (o : Nat) (W : List UInt8) (i : Nat) (hi : i ≤ W.length) (h : o + W.length ≤ l.length) : (sp l o W i).length = l.length := by
  simp only [sp, List.length_append, List.length_take, List.length_drop]; omega
theorem sp_step (l : List UInt8) (o : Nat) (W : List UInt8) (i : Nat) (hi : i < W.length) (h : o + W.length ≤ l.length) : (sp l o W i).set (o + i) W[i] = sp l o W (i + 1) := by
  have e1 : (l.take o).length = o := by rw [List.length_take]; omega
  have e2 : (W.take i).length = i := by rw [List.length_take]; omega
  have e3 : l.drop (o + i) = l[o + i] :: l.drop (o + i + 1) := List.drop_eq_getElem_cons (by omega)
  unfold sp
  rw [List.set_append_right _ _ (by omega), e1, Nat.add_sub_cancel_left, List.set_append_right _ _ (by omega), e2, Nat.sub_self, e3, List.set_cons_zero, List.take_succ_eq_append_getElem hi, List.append_assoc]
  rfl
theorem bytesV_set (l : List UInt8) (j : Nat) (c : UInt8) (h : j < l.length) : (bytesV l).set j (.int .u8 (c.toNat : Int)) (by rw [bytesV_size]; exact h) = bytesV (l.set j c) := by
  simp [bytesV, byteV]
theorem wordB_get (x : Nat) : ∀ (n i : Nat) (h : i < n), (wordB x n)[i]'(by rw [wordB_length]; exact h) = UInt8.ofNat (x / 256 ^ (n - 1 - i) % 256)
  | n + 1, 0, _ => by simp [wordB]
  | n + 1, i + 1, h => by
    have := wordB_get x n i (by omega)
    simp only [wordB, List.getElem_cons_succ, this]
    congr 4
    omega
theorem row_set (w : World) (b j : Nat) (l : List UInt8) (t : TypeId) (c : UInt8) (h : j < l.length) (hg : w.heap[b]? = some (.cells (bytesV l) t (0, 0))) :
    w.setCell ⟨b, j, none⟩ (.int .u8 (c.toNat : Int)) = w.setRow b (bytesV (l.set j c)) := by
  rw [setCell_eq_setRow w b j (bytesV l) t (0, 0) _ hg]
  congr 1
  rw [← bytesV_set l j c h]
  simp [Array.setIfInBounds, bytesV_size, h]

set_option maxHeartbeats 2000000 in
set_option maxRecDepth 100000 in
theorem write_any (b o n cp x : Nat) (l : List UInt8) (t : TypeId) (w : World) (hn : n ≤ 8) (ho : o + n ≤ l.length) (hg : w.heap[b]? = some (.cells (bytesV l) t (0, 0))) :
    Calls Tryd.prog 25 #[.slice (some ⟨b, o, none⟩) n cp, .int .u64 x] w fun e w' => e = .returned (.tuple #[]) ∧ w' = w.setRow b (bytesV (sp l o (wordB x n) n)) := by
  have hwl := wordB_length x n
  have HG := Lib.hid hg
  go_enter Tryd.func25, Tryd.ntmps25
  go_wp2_with fail
  go_loopw [4, 7] (fun _ vi wr => ∃ i : Nat, i ≤ n ∧ vi = .int .i64 i ∧ Hid (wr = w.setRow b (bytesV (sp l o (wordB x n) i)))) (fun _ vi _ => n - (intOf vi).toNat)
  case atStart => exact ⟨0, Nat.zero_le _, rfl, Lib.hid (by rw [sp_zero]; exact (setRow_self w b _ t _ hg).symm)⟩
  case round =>
    obtain ⟨i, hi, rfl, HW⟩ := hrel
    rename World => wr
    by_cases hlt : i < n
    · have hdec : decide (i < n) = true := by simpa using hlt
      have hspl := sp_length l o (wordB x n) i (by omega) (by omega)
      have hgw : wr.heap[b]? = some (.cells (bytesV (sp l o (wordB x n) i)) t (0, 0)) := by rw [HW.out]; exact setRow_heap w b _ _ t _ hg
      have hcell : wr.cell? ⟨b, o + i, none⟩ = some (.int .u8 ((sp l o (wordB x n) i)[o + i].toNat : Int)) := by
        rw [cell_of_row wr b (o + i) _ t _ hgw]; exact bytesV_get _ _ (by omega)
      have hfr : wr.frozen? ⟨b, o + i, none⟩ = false := by simp [World.frozen?, hgw]
      have hset := Lib.hid (row_set wr b (o + i) (sp l o (wordB x n) i) t (wordB x n)[i] (by omega) hgw)
      rw [sp_step l o (wordB x n) i (by omega) (by omega), wordB_get x n i hlt, UInt8.toNat_ofNat_of_lt' (Nat.mod_lt _ (by decide)), ← CodeC.shift_cast] at hset
      clear hgw
      generalize (sp l o (wordB x n) i)[o + i].toNat = c at *
      go_wp2_with fail
      go_roundw
      case rel => exact ⟨i + 1, by omega, by go_num, Lib.hid (by rw [hset.out, HW.out, setRow_setRow])⟩
      case measure => simp [intOf]; omega
    · obtain rfl : i = n := by omega
      have hdec : decide (i < i) = false := by simp
      go_wp2_with fail
      exact bodyPost_end (results_none rfl _ _ _) rfl ⟨rfl, HW.out⟩

/-! ### the head of a payload -/
theorem info_head : (Tryd.prog.info? 49).map (·.size) = some 12 := by kernel_rfl
theorem bytesV_one (l : List UInt8) : (bytesV l).all (·.oneCell') = true := by
  rw [Array.all_eq_true_iff_forall_mem]
  intro v hv
  simp only [bytesV, List.mem_toArray, List.mem_map] at hv
  obtain ⟨c, _, rfl⟩ := hv
  rfl
def zeros : List UInt8 := [0, 0, 0, 0, 0, 0, 0, 0, 0, 0, 0, 0]
theorem sp_first (n : Nat) : sp zeros 0 (wordB n 4) 4 = wordB n 4 ++ [0, 0, 0, 0, 0, 0, 0, 0] := by
  simp [sp, zeros, List.take_of_length_le, wordB_length]
theorem sp_second (A W : List UInt8) (hA : A.length = 4) (hW : W.length = 8) : sp (A ++ [0, 0, 0, 0, 0, 0, 0, 0]) 4 W 8 = A ++ W := by
  unfold sp
  rw [List.take_left' hA, List.take_of_length_le (by omega), List.drop_of_length_le (by simp [hA])]
  simp
/-- what headOf has laid, ahead of the sum -/
structure HeadAt (w : World) (g : Nat) (t0 t1 : TypeId) (l : List UInt8) : Prop where
  row0 : w.heap[g]? = some (.cells (bytesV zeros) t0 (0, 0))
  row1 : w.heap[g + 1]? = some (.cells (bytesV l) t1 (0, 0))

def two (w : World) : World := (w.alloc (.cells (bytesV zeros) 49)).alloc (.cells (bytesV zeros) 49)
theorem two_row0 (w : World) : (two w).heap[w.heap.size]? = some (.cells (bytesV zeros) 49 (0, 0)) := by
  unfold two
  rw [heap_alloc_old _ _ (by simp)]
  exact heap_alloc_new w _
theorem two_row1 (w : World) : (two w).heap[w.heap.size + 1]? = some (.cells (bytesV zeros) 49 (0, 0)) := by
  have h := heap_alloc_new (w.alloc (.cells (bytesV zeros) 49)) (.cells (bytesV zeros) 49)
  rw [World.size_alloc] at h
  exact h
theorem two_below (w : World) : Below w.heap.size w (two w) := ((Below.refl _ _).alloc (Nat.le_refl _) _).alloc (by simp) _

theorem conv_any (l r : List UInt8) (b cp : Nat) (t : TypeId) (w : World) (hg : w.heap[b]? = some (.cells (bytesV (l ++ r)) t (0, 0))) :
    (convert 32 9 (.slice (some ⟨b, 0, none⟩) l.length cp)).run Tryd.prog w = .ok (.string (str l)) w := by
  refine run_convert_bytes_back (P := Tryd.prog) w 32 9 5 ⟨b, 0, none⟩ cp l Tryd.underlying32 Tryd.underlying5 Tryd.underlying9 (fun j hj => ?_)
  rw [Go.WideShapes.add_plain, Nat.zero_add, cell_of_row w b j _ t _ hg, bytesV_get _ _ (by simp; omega), List.getElem_append_left hj]

set_option maxHeartbeats 4000000 in
set_option maxRecDepth 100000 in
theorem all_two (b : Nat) (A p : List UInt8) (w : World) (h0 : w.cell? ⟨b, 0, none⟩ = some (.string (str A))) (h1 : w.cell? ⟨b, 1, none⟩ = some (.string (str p))) (hA : A.length ≤ 4611686018427387000) (hp : p.length ≤ 4611686018427387000) :
    Calls Tryd.prog 26 #[.slice (some ⟨b, 0, none⟩) 2 2] w fun e w' => e = .returned (.int .u64 (nfnv none0 (A ++ p) : Nat)) ∧ w = w' := by
  refine (SumC.all_some b 0 2 2 [str A, str p] w (Nat.le_refl _) (by decide) (fun i hi => ?_) (fun i hi => ?_)).mono ?_
  · rcases (by omega : i = 0 ∨ i = 1) with rfl | rfl
    · exact h0
    · exact h1
  · rcases (by omega : i = 0 ∨ i = 1) with rfl | rfl
    · show (str A).size ≤ _; rw [str_size]; unfold maxLen; omega
    · show (str p).size ≤ _; rw [str_size]; unfold maxLen; omega
  · rintro e w' ⟨rfl, rfl⟩
    refine ⟨?_, rfl⟩
    rw [← fnv_nat (A ++ p) none0 (by decide), SumM.fnv_append]
    rfl

set_option maxHeartbeats 4000000 in
set_option maxRecDepth 100000 in
theorem headOf_any (p : List UInt8) (w : World) (hp : p.length ≤ 4611686018427387000) :
    Calls Tryd.prog 19 #[.string (str p)] w fun e w' => e = .returned (.agg (bytesV (headB p))) ∧ Below w.heap.size w w' := by
  have hsz := str_size p
  go_enter Tryd.func19, Tryd.ntmps19
  go_wp2_with fail
  change Calls _ _ _ (two w) _
  refine (write_any (w.heap.size + 1) 0 4 12 p.length zeros _ _ (by decide) (by decide) (two_row1 w)).mono ?_
  rintro e w1 ⟨rfl, hw1⟩
  rw [sp_first] at hw1
  have HH : Hid (HeadAt w1 w.heap.size 49 49 (wordB p.length 4 ++ [0, 0, 0, 0, 0, 0, 0, 0])) := Lib.hid (by
    rw [hw1]
    exact ⟨by rw [setRow_other _ _ _ _ (by omega)]; exact two_row0 w, setRow_heap _ _ _ _ _ _ (two_row1 w)⟩)
  have HB1 : Hid (Below w.heap.size w w1) := Lib.hid (by rw [hw1]; exact below_setRow (two_below w) (by omega) _)
  have hcv : (convert 32 9 (.slice (some ⟨w.heap.size + 1, 0, none⟩) 4 12)).run Tryd.prog w1.drew = .ok (.string (str (wordB p.length 4))) w1.drew := by
    have := conv_any (wordB p.length 4) [0, 0, 0, 0, 0, 0, 0, 0] (w.heap.size + 1) 12 49 w1.drew HH.out.row1
    rw [wordB_length] at this
    exact this
  have hlt1 := (Array.getElem?_eq_some_iff.1 HH.out.row1).1
  have HR : Hid (∀ o, (w1.alloc o).drew.heap[w.heap.size + 1]? = some (.cells (bytesV (wordB p.length 4 ++ [0, 0, 0, 0, 0, 0, 0, 0])) 49 (0, 0))) := Lib.hid (fun o => by
    show (w1.alloc o).heap[_]? = _
    rw [heap_alloc_old _ _ hlt1]
    exact HH.out.row1)
  have HR0 : Hid (∀ o, (w1.alloc o).drew.heap[w.heap.size]? = some (.cells (bytesV zeros) 49 (0, 0))) := Lib.hid (fun o => by
    show (w1.alloc o).heap[_]? = _
    rw [heap_alloc_old _ _ (by omega)]
    exact HH.out.row0)
  clear hw1 hlt1
  have HW := Lib.hid (wordB_length p.length 4)
  generalize hA : wordB p.length 4 = A at *
  have HA := Lib.hid hA; clear hA
  go_wp2_with fail
  go_region_with (first
    | (go_at_call 26
       refine (all_two w1.heap.size A p _ (by show (w1.alloc _).cell? _ = _; rw [World.cell?_alloc_at _ _ _ _ rfl]; rfl) (by show (w1.alloc _).cell? _ = _; rw [World.cell?_alloc_at _ _ _ _ rfl]; rfl) (by rw [HW.out]; decide) hp).mono ?_
       rintro e w' ⟨rfl, rfl⟩)
    | (go_at_call 25
       refine (write_any (w.heap.size + 1) 4 8 8 (nfnv none0 (A ++ p)) (A ++ [0, 0, 0, 0, 0, 0, 0, 0]) _ _ (by decide) (by rw [List.length_append, HW.out]; decide) (HR.out _)).mono ?_
       rintro e w2 ⟨rfl, hw2⟩))
  have hhead : A ++ wordB (nfnv none0 (A ++ p)) 8 = headB p := by unfold headB sumB; rw [HA.out]
  rw [sp_second A _ HW.out (wordB_length _ _), hhead]
  have hr1 := setRow_heap _ _ _ (bytesV (headB p)) _ _ (HR.out (.cells #[.string (str A), .string (str p)] 9))
  have hr0 : ((w1.alloc (.cells #[.string (str A), .string (str p)] 9)).drew.setRow (w.heap.size + 1) (bytesV (headB p))).heap[w.heap.size]? = some (.cells (bytesV zeros) 49 (0, 0)) := by
    rw [setRow_other _ _ _ _ (by omega)]; exact HR0.out _
  have HB2 : Hid (Below w.heap.size w ((w1.alloc (.cells #[.string (str A), .string (str p)] 9)).drew.setRow (w.heap.size + 1) (bytesV (headB p)))) := Lib.hid (below_setRow (HB1.out.alloc HB1.out.size _).drew (by omega) _)
  generalize (w1.alloc (.cells #[.string (str A), .string (str p)] 9)).drew.setRow (w.heap.size + 1) (bytesV (headB p)) = w2 at *
  clear HR HR0 HB1 HH hcv
  have hsh := bytesV_size (headB p)
  rw [headB_length] at hsh
  have hinf : (Tryd.prog.info? 49).map (·.size) = some (bytesV (headB p)).size := by rw [hsh]; exact info_head
  go_wp2_with (first
    | (refine wpList_load_row rfl 49 _ rfl _ rfl _ _ _ _ hr1 Tryd.underlying49 rfl hinf ?_)
    | (refine wpList_store_row rfl 49 _ _ rfl _ _ rfl rfl _ _ hr0 hinf (by rw [hsh]; rfl) (bytesV_one _) ?_))
  exact bodyPost_ret (results_cell_row rfl _ _ w.heap.size _ _ _ _ rfl (setRow_heap _ _ _ _ _ _ hr0) Tryd.underlying49 rfl hinf) rfl ⟨rfl, below_setRow HB2.out (Nat.le_refl _) _⟩

/-! ### fault, Of, Size -/
open ErrC in
/-- an error of a call: nil, or the fault of that number, of nothing, there, in new memory -/
def FErr (w w' : World) (v : Value) (c : Nat) (a : Int) : Prop := (c = 0 ∧ v = .nilIface) ∨ (c ≠ 0 ∧ ∃ f, v = .iface 60 (.pointer (some ⟨f, 0, none⟩)) ∧ w.heap.size ≤ f ∧ IsFault w' f 0 c ⟨#[]⟩ a)
theorem FErr.none (w w' : World) (a : Int) : FErr w w' .nilIface 0 a := .inl ⟨rfl, rfl⟩
theorem FErr.below {w0 w w' : World} {v : Value} {c : Nat} {a : Int} (h : FErr w0 w v c a) (hb : Below w.heap.size w w') : FErr w0 w' v c a := by
  rcases h with h | ⟨h0, f, h1, h2, h3⟩
  · exact .inl h
  · exact .inr ⟨h0, f, h1, h2, h3.below hb h3.lt⟩
theorem FErr.from_ {w0 w1 w : World} {v : Value} {c : Nat} {a : Int} (h : FErr w1 w v c a) (hb : w0.heap.size ≤ w1.heap.size) : FErr w0 w v c a := by
  rcases h with h | ⟨h0, f, h1, h2, h3⟩
  · exact .inl h
  · exact .inr ⟨h0, f, h1, Nat.le_trans hb h2, h3⟩
def faultW (c : Nat) (a : Int) (w : World) : World := w.alloc (.cells #[.int .i64 c, .string ⟨#[]⟩, .int .i64 a, .nilIface] 62)
theorem fault_any (c : Nat) (a : Int) (w : World) :
    Calls Tryd.prog 18 #[.int .i64 c, .int .i64 a] w fun e w' => e = .returned (.iface 60 (.pointer (some ⟨w.heap.size, 0, none⟩))) ∧ w' = faultW c a w := by
  go_enter Tryd.func18, Tryd.ntmps18
  go_wp2_with fail
  go_ret
  exact ⟨rfl, rfl⟩
theorem fault_below (c : Nat) (a : Int) (w : World) : Below w.heap.size w (faultW c a w) := (Below.refl _ _).alloc (Nat.le_refl _) _
theorem fault_is (c : Nat) (h : c ≠ 0) (a : Int) (w : World) : FErr w (faultW c a w) (.iface 60 (.pointer (some ⟨w.heap.size, 0, none⟩))) c a :=
  .inr ⟨h, _, rfl, Nat.le_refl _, by constructor <;> · unfold faultW; rw [World.cell?_alloc_at _ _ _ _ rfl]; rfl⟩

theorem size_any (p : List UInt8) (w : World) (hp : p.length ≤ 4611686018427387000) :
    Calls Tryd.prog 11 #[.string (str p)] w fun e w' => e = .returned (.int .i64 ((12 + p.length : Nat) : Int)) ∧ w = w' := by
  have hsz := str_size p
  go_enter Tryd.func11, Tryd.ntmps11
  go_wp2_with fail
  go_ret
  exact ⟨by go_num, rfl⟩

/-- what Of hands back -/
def OfE (p : List UInt8) (w : World) (e : Ending) (w' : World) : Prop :=
  ∃ ev, e = .returned (.tuple #[.string (str (if 131072 < p.length then [] else recB p)), ev]) ∧ FErr w w' ev (if 131072 < p.length then 4 else 0) (-1) ∧ Below w.heap.size w w'

set_option maxHeartbeats 4000000 in
set_option maxRecDepth 100000 in
theorem of_any (p : List UInt8) (w : World) (hp : p.length ≤ 9223372036854775807) :
    Calls Tryd.prog 8 #[.string (str p)] w (OfE p w) := by
  have hsz := str_size p
  unfold OfE
  by_cases h : 131072 < p.length
  · have ht : decide (131072 < (p.length : Int)) = true := by simp; omega
    rw [if_pos h, if_pos h]
    go_enter Tryd.func8, Tryd.ntmps8
    go_wp2_with fail
    refine (fault_any 4 (-1) _).mono ?_
    rintro e w1 ⟨rfl, rfl⟩
    go_wp2_with fail
    go_ret2
    exact ⟨_, rfl, fault_is 4 (by decide) (-1) w, fault_below 4 (-1) w⟩
  · have ht : decide (131072 < (p.length : Int)) = false := by simp; omega
    rw [if_neg h, if_neg h]
    have hsh := bytesV_size (headB p)
    have hhl := headB_length p
    rw [hhl] at hsh
    have hinf : (Tryd.prog.info? 49).map (·.size) = some (bytesV (headB p)).size := by rw [hsh]; exact info_head
    have a1 : ∀ w, (Op.stringOp .add (str (headB p)) (str p)).run Tryd.prog w = .ok (.string (str (recB p))) w := fun w => add_any (headB p) p w (by omega)
    go_enter Tryd.func8, Tryd.ntmps8
    go_wp2_with fail
    refine (headOf_any p _ (by omega)).mono ?_
    rintro e w1 ⟨rfl, hb1⟩
    have HB1 := Lib.hid hb1; clear hb1
    have hnew := heap_alloc_new w1 (.cells (bytesV zeros) 49)
    have hcv := conv_any (headB p) [] w1.heap.size 12 49 ((w1.alloc (.cells (bytesV zeros) 49)).setRow w1.heap.size (bytesV (headB p))) (by rw [List.append_nil]; exact setRow_heap _ _ _ _ _ _ hnew)
    rw [hhl] at hcv
    have HB2 : Hid (Below w.heap.size w ((w1.alloc (.cells (bytesV zeros) 49)).setRow w1.heap.size (bytesV (headB p)))) := Lib.hid (below_setRow (HB1.out.alloc HB1.out.size _) HB1.out.size _)
    go_wp2_with (refine wpList_store_row rfl 49 _ _ rfl _ _ rfl rfl _ _ hnew hinf (by rw [hsh]; rfl) (bytesV_one _) ?_; change wpList _ _ _ _ _ ((w1.alloc (.cells (bytesV zeros) 49)).setRow w1.heap.size (bytesV (headB p))); generalize (w1.alloc (.cells (bytesV zeros) 49)).setRow w1.heap.size (bytesV (headB p)) = w2 at *)
    go_ret2
    exact ⟨_, rfl, FErr.none _ _ _, HB2.out⟩
end FrameC
end Go.Proofs.YtpmbokklpidohaaDoor
