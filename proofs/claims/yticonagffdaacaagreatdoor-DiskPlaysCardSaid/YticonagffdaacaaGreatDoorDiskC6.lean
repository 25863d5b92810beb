/-
  Package disk's Read, Size, Has, Dead, Writes, Restart, New.
-/
import Derived.Test.YticonagffdaacaaGreatDoorDiskC5
import Derived.Laws.BytesArg
namespace Go.Proofs.YticonagffdaacaaGreatDoor
open Go.RowKit Go.Maps
namespace DiskP
open DiskM DiskC ErrC
open Go.Lib (strCells strCells_length)

theorem nums_back (t : ByteArray) : strOfNums (t.data.toList.map fun x => (x.toNat : Int)) = t := by
  unfold strOfNums
  rw [List.map_map]
  have e : ((fun n : Int => UInt8.ofNat n.toNat) ∘ fun x : UInt8 => (x.toNat : Int)) = id := by
    funext x
    simp
  rw [e, List.map_id]
/-- string(held) -/
theorem text_of {w : World} {v : Value} {x : ByteArray} (h : Byt w v x) : (convert 67 9 v).run Tryz.prog w = .ok (.string x) w := by
  rcases h with ⟨rfl, rfl⟩ | ⟨g, cap, rfl, h1, h2, h3, h4⟩
  · have := run_convert_bytes_nil (P := Tryz.prog) w 67 5 Tryz.underlying67 Tryz.underlying5 0 0 9 Tryz.underlying9
    exact this
  · have := run_convert_bytes_arg (P := Tryz.prog) w 67 5 Tryz.underlying67 Tryz.underlying5 g 0 x.size cap (x.data.toList.map fun b => (b.toNat : Int)) (by rw [List.length_map, Array.length_toList]; rfl) (fun i hi => by
      have hil : i < x.data.toList.length := by rw [Array.length_toList]; exact hi
      rw [Nat.zero_add]
      refine h4 i _ ?_
      unfold strCells
      rw [List.getElem?_map, List.getElem?_eq_getElem hil]
      simp [List.getD, List.getElem?_eq_getElem hil]) 9 Tryz.underlying9
    rw [nums_back] at this
    exact this
theorem readS_eq (name : ByteArray) (s : DS) : readS name s = (if findC1 name s = 0 then bytesF name s.fs else ⟨#[]⟩, findC1 name s) := by
  unfold readS
  by_cases h : findC1 name s = 0
  · obtain ⟨h1, h2⟩ := findC1_zero h
    obtain ⟨h3, h4⟩ := readyC_z h1
    rw [if_neg (by rw [h3]; decide), if_neg (by rw [h4]; decide), if_neg (by rw [h2]; decide), if_pos h, h]
  · rw [if_neg h]
    rcases findC1_ne h with ⟨h1, h2⟩ | ⟨h1, h2, h3⟩
    · rw [h2]
      rcases readyC_ne h1 with ⟨h4, h5⟩ | ⟨h4, h5, h6⟩
      · rw [if_pos h4, h5]
      · rw [if_neg (by rw [h4]; decide), if_pos h5, h6]
    · obtain ⟨h4, h5⟩ := readyC_z h1
      rw [if_neg (by rw [h4]; decide), if_neg (by rw [h5]; decide), if_pos h2, h3]
/-- find of one name, in one word -/
theorem find1 {B b m : Nat} {F : Nat → Prop} {cut : Int} {s : DS} {D : DataW Unit} {vals : ByteArray → Value} {w : World} (h : Dsk B w b F cut s m D vals) (name : ByteArray) :
    ∃ v, Byt w v (readS name s).1 ∧ Calls Tryz.prog 53 #[.pointer (some ⟨b, 0, none⟩), .string name, .slice none 0 0] w (FindE w v (readS name s).2 name) := by
  have hf := find_of h name name (.slice none 0 0) (readyC name s.dead) (fun e => (readyC_zero e).1) (ready1 b m s.dead name w h.c0 h.c3)
  rw [findC_two, show (findC (readyC name s.dead) name name s.fs).1 = findC1 name s from rfl] at hf
  rw [readS_eq]
  by_cases hr : findC1 name s = 0
  · rw [if_pos hr] at hf ⊢
    exact ⟨_, (h.row name).1, hf⟩
  · rw [if_neg hr] at hf ⊢
    exact ⟨_, Or.inl ⟨rfl, rfl⟩, hf⟩
set_option maxHeartbeats 1000000 in
set_option maxRecDepth 100000 in
theorem read_any {B b m : Nat} {F : Nat → Prop} {cut : Int} {s : DS} {D : DataW Unit} {vals : ByteArray → Value} {w : World} (h : Dsk B w b F cut s m D vals) (name : ByteArray) :
    Calls Tryz.prog 27 #[.pointer (some ⟨b, 0, none⟩), .string name] w fun e w' => ∃ ev, e = .returned (.tuple #[.string (readS name s).1, ev]) ∧ DErr w w' ev (readS name s).2 name ∧ Below w.heap.size w w' := by
  obtain ⟨v, hv, hf⟩ := find1 h name
  have HF := Lib.hid hf
  have HV := Lib.hid hv
  clear h hf hv
  generalize readS name s = R at *
  obtain ⟨x, c⟩ := R
  go_enter Tryz.func27, Tryz.ntmps27
  go_wp2_with fail
  refine HF.out.mono ?_
  rintro e w1 ⟨ev, rfl, he, hb⟩
  have hcv := text_of (HV.out.keeps hb.size (fun g hg => hb.block g (HV.out.lt g hg)))
  have HE := Lib.hid he
  have HB := Lib.hid hb
  clear he hb
  go_wp2_with fail
  go_ret2
  exact ⟨_, rfl, HE.out, HB.out⟩
set_option maxHeartbeats 1000000 in
set_option maxRecDepth 100000 in
theorem size_any {B b m : Nat} {F : Nat → Prop} {cut : Int} {s : DS} {D : DataW Unit} {vals : ByteArray → Value} {w : World} (h : Dsk B w b F cut s m D vals) (name : ByteArray) :
    Calls Tryz.prog 28 #[.pointer (some ⟨b, 0, none⟩), .string name] w fun e w' => ∃ ev, e = .returned (.tuple #[.int .i64 (readS name s).1.size, ev]) ∧ DErr w w' ev (readS name s).2 name ∧ Below w.heap.size w w' := by
  obtain ⟨v, hv, hf⟩ := find1 h name
  obtain ⟨a, c2, rfl, -⟩ := hv.len
  have HF := Lib.hid hf
  clear h hf hv
  generalize readS name s = R at *
  obtain ⟨x, c⟩ := R
  go_enter Tryz.func28, Tryz.ntmps28
  go_wp2_with fail
  refine HF.out.mono ?_
  rintro e w1 ⟨ev, rfl, he, hb⟩
  have HE := Lib.hid he
  have HB := Lib.hid hb
  clear he hb
  go_wp2_with fail
  go_ret2
  exact ⟨_, rfl, HE.out, HB.out⟩
theorem has_read (name : ByteArray) (s : DS) (hl : ∀ f ∈ s.fs, mayB f.1 = true) (hs : Sorted s.fs) : (hasF name s.fs && !s.dead) = decide ((readS name s).2 = 0) := by
  rw [readS_eq]
  by_cases h : findC1 name s = 0
  · obtain ⟨h1, h2⟩ := findC1_zero h
    obtain ⟨h3, h4⟩ := readyC_z h1
    simp [h, h2, h4]
  · simp only [h, decide_false]
    rcases findC1_ne h with ⟨h1, -⟩ | ⟨-, h2, -⟩
    · rcases readyC_ne h1 with ⟨h4, -⟩ | ⟨-, h5, -⟩
      · have : hasF name s.fs = false := by
          cases e : hasF name s.fs with
          | false => rfl
          | true =>
            obtain ⟨f, hf, rfl⟩ := (has_mem hs).1 e
            rw [hl f hf] at h4; cases h4
        rw [this]; rfl
      · rw [h5]; simp
    · rw [h2]; rfl
set_option maxHeartbeats 1000000 in
set_option maxRecDepth 100000 in
theorem has_any {B b m : Nat} {F : Nat → Prop} {cut : Int} {s : DS} {D : DataW Unit} {vals : ByteArray → Value} {w : World} (h : Dsk B w b F cut s m D vals) (name : ByteArray) :
    Calls Tryz.prog 30 #[.pointer (some ⟨b, 0, none⟩), .string name] w fun e w' => e = .returned (.bool (decide ((readS name s).2 = 0))) ∧ Below w.heap.size w w' := by
  obtain ⟨v, hv, hf⟩ := find1 h name
  have HF := Lib.hid hf
  clear h hf hv
  generalize (readS name s).2 = c at *
  by_cases hc : c = 0
  · subst hc
    go_enter Tryz.func30, Tryz.ntmps30
    go_wp2_with fail
    refine HF.out.mono ?_
    rintro e w1 ⟨ev, rfl, he, hb⟩
    obtain rfl := nil_ev rfl he
    have HB := Lib.hid hb
    clear he hb
    go_wp2_with fail
    go_ret
    exact ⟨rfl, HB.out⟩
  · rw [show decide (c = 0) = false by simpa using hc]
    have HC := Lib.hid hc; clear hc
    go_enter Tryz.func30, Tryz.ntmps30
    go_wp2_with fail
    refine HF.out.mono ?_
    rintro e w1 ⟨ev, rfl, he, hb⟩
    obtain ⟨f, rfl⟩ := err_ev HC.out he
    have HB := Lib.hid hb
    clear he hb
    go_wp2_with fail
    go_ret
    exact ⟨rfl, HB.out⟩
set_option maxHeartbeats 1000000 in
set_option maxRecDepth 100000 in
theorem dead_any {B b m : Nat} {F : Nat → Prop} {cut : Int} {s : DS} {D : DataW Unit} {vals : ByteArray → Value} {w : World} (h : Dsk B w b F cut s m D vals) :
    Calls Tryz.prog 8 #[.pointer (some ⟨b, 0, none⟩)] w fun e w' => e = .returned (.bool s.dead) ∧ w = w' := by
  have k3 := h.c3
  have HT := Lib.hid (there_any b m w h.c0)
  clear h
  go_enter Tryz.func8, Tryz.ntmps8
  go_wp2_with fail
  refine HT.out.mono ?_
  rintro e w1 ⟨rfl, rfl⟩
  go_wp2_with fail
  go_ret
  exact ⟨rfl, rfl⟩
set_option maxHeartbeats 1000000 in
set_option maxRecDepth 100000 in
theorem writes_any {B b m : Nat} {F : Nat → Prop} {cut : Int} {s : DS} {D : DataW Unit} {vals : ByteArray → Value} {w : World} (h : Dsk B w b F cut s m D vals) :
    Calls Tryz.prog 9 #[.pointer (some ⟨b, 0, none⟩)] w fun e w' => e = .returned (.int .i64 s.count) ∧ w = w' := by
  have k2 := h.c2
  have HT := Lib.hid (there_any b m w h.c0)
  clear h
  go_enter Tryz.func9, Tryz.ntmps9
  go_wp2_with fail
  refine HT.out.mono ?_
  rintro e w1 ⟨rfl, rfl⟩
  go_wp2_with fail
  go_ret
  exact ⟨rfl, rfl⟩
set_option maxHeartbeats 1000000 in
set_option maxRecDepth 100000 in
theorem restart_any {B b m : Nat} {F : Nat → Prop} {cut : Int} {s : DS} {D : DataW Unit} {vals : ByteArray → Value} {w : World} (h : Dsk B w b F cut s m D vals) (n : Int) :
    Calls Tryz.prog 33 #[.pointer (some ⟨b, 0, none⟩), .int .i64 n] w fun e w' => DevE (IsP B) F b n 0 ⟨#[]⟩ ⟨s.fs, 0, false⟩ w e w' ∧ Keeps (· = b) w w' := by
  have k1 := h.c1
  have k2 := h.c2
  have k3 := h.c3
  have f1 := h.free 1
  have f2 := h.free 2
  have f3 := h.free 3
  have HT := Lib.hid (there_any b m w h.c0)
  have HD := Lib.hid h
  clear h
  go_enter Tryz.func33, Tryz.ntmps33
  go_wp2_with fail
  refine HT.out.mono ?_
  rintro e w1 ⟨rfl, rfl⟩
  go_wp2_with fail
  go_ret
  have hk : Keeps (· = b) w (((w.setCell ⟨b, 1, none⟩ (.int .i64 n)).setCell ⟨b, 2, none⟩ (.int .i64 0)).setCell ⟨b, 3, none⟩ (.bool false)) := (((Keeps.refl _ w).setb 1 _).setb 2 _).setb 3 _
  refine ⟨⟨.nilIface, F, rfl, Or.inl ⟨rfl, rfl⟩, ⟨m, D, vals, ?_⟩, hk.mono (fun i e => by rw [e]; exact HD.out.files.fb), fun i hi => Or.inl hi⟩, hk⟩
  have e1 : (w.setCell ⟨b, 1, none⟩ (.int .i64 n)).cell? ⟨b, 1, none⟩ = some (.int .i64 n) := World.cell?_setCell_same _ _ _ k1
  have k2' : (w.setCell ⟨b, 1, none⟩ (.int .i64 n)).cell? ⟨b, 2, none⟩ = some (.int .i64 s.count) := by rw [cell_ne (by decide)]; exact k2
  have k3' : ((w.setCell ⟨b, 1, none⟩ (.int .i64 n)).setCell ⟨b, 2, none⟩ (.int .i64 0)).cell? ⟨b, 3, none⟩ = some (.bool s.dead) := by rw [cell_ne (by decide), cell_ne (by decide)]; exact k3
  have e2 : ((w.setCell ⟨b, 1, none⟩ (.int .i64 n)).setCell ⟨b, 2, none⟩ (.int .i64 0)).cell? ⟨b, 2, none⟩ = some (.int .i64 0) := World.cell?_setCell_same _ _ _ k2'
  exact ⟨by rw [cell_ne (by decide), cell_ne (by decide), cell_ne (by decide)]; exact HD.out.c0, by rw [cell_ne (by decide), cell_ne (by decide)]; exact e1, by rw [cell_ne (by decide)]; exact e2,
    World.cell?_setCell_same _ _ _ k3', fun j => by simpa using HD.out.free j,
    HD.out.files.turn hk (fun e => HD.out.files.bm e.symm) (fun n' g _ hg e => ((HD.out.files.file n' (fun e => e)).blk g hg).1 e) (fun _ e => e) (fun _ e => e) (fun i hi => by simpa using HD.out.files.lt i hi), by show n < 0 ∨ (0 : Int) ≤ n; omega, by simpa using HD.out.bw⟩
set_option maxHeartbeats 1000000 in
set_option maxRecDepth 100000 in
theorem new_any {B : Nat} {w : World} (cut : Int) (hB : B ≤ w.heap.size) :
    Calls Tryz.prog 5 #[.int .i64 cut] w fun e w' => ∃ b F, e = .returned (.pointer (some ⟨b, 0, none⟩)) ∧ IsP B w' b F cut ⟨[], 0, false⟩ ∧ Below w.heap.size w w' ∧ ∀ i, F i → w.heap.size ≤ i := by
  have HB := Lib.hid hB; clear hB
  have hmm := @run_makeMap Tryz.prog
  go_enter Tryz.func5, Tryz.ntmps5
  go_wp2_with fail
  go_ret
  refine ⟨w.heap.size + 1, fun i => i = w.heap.size ∨ i = w.heap.size + 1, rfl, ⟨w.heap.size, .map [], fun _ => .slice none 0 0, ?_⟩, ((Below.refl _ _).alloc (Nat.le_refl _) _).alloc (by simp) _, fun i hi => by omega⟩
  have c : ∀ j u, [Value.map (some w.heap.size), .int .i64 cut, .int .i64 0, .bool false][j]? = some u → ((w.alloc (.map #[] 0)).alloc (.cells #[.map (some w.heap.size), .int .i64 cut, .int .i64 0, .bool false] 44)).cell? ⟨w.heap.size + 1, j, none⟩ = some u := by
    intro j u hu
    rw [World.cell?_alloc_at _ _ _ _ (by simp)]
    match j, hu with
    | 0, hu => exact hu
    | 1, hu => exact hu
    | 2, hu => exact hu
    | 3, hu => exact hu
    | j + 4, hu => simp at hu
  refine ⟨c 0 _ rfl, c 1 _ rfl, c 2 _ rfl, c 3 _ rfl, fun j => by simp, ?_, by show cut < 0 ∨ (0 : Int) ≤ cut; omega, Nat.le_trans HB.out (by simp; omega)⟩
  exact ⟨(World.ownsMap_made w _ _ _).alloc _, rfl, fun n => rfl, fun n => rfl, fun n _ => ⟨Or.inl ⟨rfl, rfl⟩, fun g e => (by cases e), Or.inl (Or.inl rfl)⟩, Sorted.nil, fun i hi => by simp; omega, Or.inr rfl, Or.inl rfl, by omega⟩
end DiskP
end Go.Proofs.YticonagffdaacaaGreatDoor
