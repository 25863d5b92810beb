/-
  Package disk's Read, Size, Has, Dead, Writes, Restart, New.
  Package disk's Names: the map's keys, sorted.
-/
import Derived.Test.YtpmbokklpidohaaGreatDoorDiskC5
import Derived.Laws.BytesArg
import Derived.Test.YtpmbokklpidohaaGreatDoorSortLay
import Derived.Sort.KeysCollected
import Derived.Sort.OwnSorted
namespace Go.Proofs.YtpmbokklpidohaaGreatDoor
open Go.RowKit Go.Maps
namespace DiskP
open DiskM DiskC ErrC
open Go.Lib (strCells strCells_length)

theorem nums_back (t : ByteArray) : strOfNums (t.data.toList.map fun x => (x.toNat : Int)) = t := by
  unfold strOfNums
  rw [List.map_map]
  have e : ((fun n : Int => UInt8.ofNat n.toNat) ∘ fun x : UInt8 => (x.toNat : Int)) = id := by
    funext x
    simp
  rw [e, List.map_id]
/-- string(held) -/
theorem text_of {w : World} {v : Value} {x : ByteArray} (h : Byt w v x) : (convert 64 9 v).run Tryz.prog w = .ok (.string x) w := by
  rcases h with ⟨rfl, rfl⟩ | ⟨g, cap, rfl, h1, h2, h3, h4⟩
  · have := run_convert_bytes_nil (P := Tryz.prog) w 64 5 Tryz.underlying64 Tryz.underlying5 0 0 9 Tryz.underlying9
    exact this
  · have := run_convert_bytes_arg (P := Tryz.prog) w 64 5 Tryz.underlying64 Tryz.underlying5 g 0 x.size cap (x.data.toList.map fun b => (b.toNat : Int)) (by rw [List.length_map, Array.length_toList]; rfl) (fun i hi => by
      have hil : i < x.data.toList.length := by rw [Array.length_toList]; exact hi
      rw [Nat.zero_add]
      refine h4 i _ ?_
      unfold strCells
      rw [List.getElem?_map, List.getElem?_eq_getElem hil]
      simp [List.getD, List.getElem?_eq_getElem hil]) 9 Tryz.underlying9
    rw [nums_back] at this
    exact this
theorem readS_eq (name : ByteArray) (s : DS) : readS name s = (if findC1 name s = 0 then bytesF name s.fs else ⟨#[]⟩, findC1 name s) := by
  unfold readS
  by_cases h : findC1 name s = 0
  · obtain ⟨h1, h2⟩ := findC1_zero h
    obtain ⟨h3, h4⟩ := readyC_z h1
    rw [if_neg (by rw [h3]; decide), if_neg (by rw [h4]; decide), if_neg (by rw [h2]; decide), if_pos h, h]
  · rw [if_neg h]
    rcases findC1_ne h with ⟨h1, h2⟩ | ⟨h1, h2, h3⟩
    · rw [h2]
      rcases readyC_ne h1 with ⟨h4, h5⟩ | ⟨h4, h5, h6⟩
      · rw [if_pos h4, h5]
      · rw [if_neg (by rw [h4]; decide), if_pos h5, h6]
    · obtain ⟨h4, h5⟩ := readyC_z h1
      rw [if_neg (by rw [h4]; decide), if_neg (by rw [h5]; decide), if_pos h2, h3]
/-- find of one name, in one word -/
theorem find1 {B b m : Nat} {F : Nat → Prop} {cut : Int} {s : DS} {D : DataW Unit} {vals : ByteArray → Value} {w : World} (h : Dsk B w b F cut s m D vals) (name : ByteArray) :
    ∃ v, Byt w v (readS name s).1 ∧ Calls Tryz.prog 52 #[.pointer (some ⟨b, 0, none⟩), .string name, .slice none 0 0] w (FindE w v (readS name s).2 name) := by
  have hf := find_of h name name (.slice none 0 0) (readyC name s.dead) (fun e => (readyC_zero e).1) (ready1 b m s.dead name w h.c0 h.c3)
  rw [findC_two, show (findC (readyC name s.dead) name name s.fs).1 = findC1 name s from rfl] at hf
  rw [readS_eq]
  by_cases hr : findC1 name s = 0
  · rw [if_pos hr] at hf ⊢
    exact ⟨_, (h.row name).1, hf⟩
  · rw [if_neg hr] at hf ⊢
    exact ⟨_, Or.inl ⟨rfl, rfl⟩, hf⟩
set_option maxHeartbeats 1000000 in
set_option maxRecDepth 100000 in
theorem read_any {B b m : Nat} {F : Nat → Prop} {cut : Int} {s : DS} {D : DataW Unit} {vals : ByteArray → Value} {w : World} (h : Dsk B w b F cut s m D vals) (name : ByteArray) :
    Calls Tryz.prog 26 #[.pointer (some ⟨b, 0, none⟩), .string name] w fun e w' => ∃ ev, e = .returned (.tuple #[.string (readS name s).1, ev]) ∧ DErr w w' ev (readS name s).2 name ∧ Below w.heap.size w w' := by
  obtain ⟨v, hv, hf⟩ := find1 h name
  have HF := Lib.hid hf
  have HV := Lib.hid hv
  clear h hf hv
  generalize readS name s = R at *
  obtain ⟨x, c⟩ := R
  go_enter Tryz.func26, Tryz.ntmps26
  go_wp2_with fail
  refine HF.out.mono ?_
  rintro e w1 ⟨ev, rfl, he, hb⟩
  have hcv := text_of (HV.out.keeps hb.size (fun g hg => hb.block g (HV.out.lt g hg)))
  have HE := Lib.hid he
  have HB := Lib.hid hb
  clear he hb
  go_wp2_with fail
  go_ret2
  exact ⟨_, rfl, HE.out, HB.out⟩
set_option maxHeartbeats 1000000 in
set_option maxRecDepth 100000 in
theorem size_any {B b m : Nat} {F : Nat → Prop} {cut : Int} {s : DS} {D : DataW Unit} {vals : ByteArray → Value} {w : World} (h : Dsk B w b F cut s m D vals) (name : ByteArray) :
    Calls Tryz.prog 27 #[.pointer (some ⟨b, 0, none⟩), .string name] w fun e w' => ∃ ev, e = .returned (.tuple #[.int .i64 (readS name s).1.size, ev]) ∧ DErr w w' ev (readS name s).2 name ∧ Below w.heap.size w w' := by
  obtain ⟨v, hv, hf⟩ := find1 h name
  obtain ⟨a, c2, rfl, -⟩ := hv.len
  have HF := Lib.hid hf
  clear h hf hv
  generalize readS name s = R at *
  obtain ⟨x, c⟩ := R
  go_enter Tryz.func27, Tryz.ntmps27
  go_wp2_with fail
  refine HF.out.mono ?_
  rintro e w1 ⟨ev, rfl, he, hb⟩
  have HE := Lib.hid he
  have HB := Lib.hid hb
  clear he hb
  go_wp2_with fail
  go_ret2
  exact ⟨_, rfl, HE.out, HB.out⟩
theorem has_read (name : ByteArray) (s : DS) (hl : ∀ f ∈ s.fs, mayB f.1 = true) (hs : Sorted s.fs) : (hasF name s.fs && !s.dead) = decide ((readS name s).2 = 0) := by
  rw [readS_eq]
  by_cases h : findC1 name s = 0
  · obtain ⟨h1, h2⟩ := findC1_zero h
    obtain ⟨h3, h4⟩ := readyC_z h1
    simp [h, h2, h4]
  · simp only [h, decide_false]
    rcases findC1_ne h with ⟨h1, -⟩ | ⟨-, h2, -⟩
    · rcases readyC_ne h1 with ⟨h4, -⟩ | ⟨-, h5, -⟩
      · have : hasF name s.fs = false := by
          cases e : hasF name s.fs with
          | false => rfl
          | true =>
            obtain ⟨f, hf, rfl⟩ := (has_mem hs).1 e
            rw [hl f hf] at h4; cases h4
        rw [this]; rfl
      · rw [h5]; simp
    · rw [h2]; rfl
set_option maxHeartbeats 1000000 in
set_option maxRecDepth 100000 in
theorem has_any {B b m : Nat} {F : Nat → Prop} {cut : Int} {s : DS} {D : DataW Unit} {vals : ByteArray → Value} {w : World} (h : Dsk B w b F cut s m D vals) (name : ByteArray) :
    Calls Tryz.prog 29 #[.pointer (some ⟨b, 0, none⟩), .string name] w fun e w' => e = .returned (.bool (decide ((readS name s).2 = 0))) ∧ Below w.heap.size w w' := by
  obtain ⟨v, hv, hf⟩ := find1 h name
  have HF := Lib.hid hf
  clear h hf hv
  generalize (readS name s).2 = c at *
  by_cases hc : c = 0
  · subst hc
    go_enter Tryz.func29, Tryz.ntmps29
    go_wp2_with fail
    refine HF.out.mono ?_
    rintro e w1 ⟨ev, rfl, he, hb⟩
    obtain rfl := nil_ev rfl he
    have HB := Lib.hid hb
    clear he hb
    go_wp2_with fail
    go_ret
    exact ⟨rfl, HB.out⟩
  · rw [show decide (c = 0) = false by simpa using hc]
    have HC := Lib.hid hc; clear hc
    go_enter Tryz.func29, Tryz.ntmps29
    go_wp2_with fail
    refine HF.out.mono ?_
    rintro e w1 ⟨ev, rfl, he, hb⟩
    obtain ⟨f, rfl⟩ := err_ev HC.out he
    have HB := Lib.hid hb
    clear he hb
    go_wp2_with fail
    go_ret
    exact ⟨rfl, HB.out⟩
set_option maxHeartbeats 1000000 in
set_option maxRecDepth 100000 in
theorem dead_any {B b m : Nat} {F : Nat → Prop} {cut : Int} {s : DS} {D : DataW Unit} {vals : ByteArray → Value} {w : World} (h : Dsk B w b F cut s m D vals) :
    Calls Tryz.prog 12 #[.pointer (some ⟨b, 0, none⟩)] w fun e w' => e = .returned (.bool s.dead) ∧ w = w' := by
  have k3 := h.c3
  have HT := Lib.hid (there_any b m w h.c0)
  clear h
  go_enter Tryz.func12, Tryz.ntmps12
  go_wp2_with fail
  refine HT.out.mono ?_
  rintro e w1 ⟨rfl, rfl⟩
  go_wp2_with fail
  go_ret
  exact ⟨rfl, rfl⟩
set_option maxHeartbeats 1000000 in
set_option maxRecDepth 100000 in
theorem writes_any {B b m : Nat} {F : Nat → Prop} {cut : Int} {s : DS} {D : DataW Unit} {vals : ByteArray → Value} {w : World} (h : Dsk B w b F cut s m D vals) :
    Calls Tryz.prog 11 #[.pointer (some ⟨b, 0, none⟩)] w fun e w' => e = .returned (.int .i64 s.count) ∧ w = w' := by
  have k2 := h.c2
  have HT := Lib.hid (there_any b m w h.c0)
  clear h
  go_enter Tryz.func11, Tryz.ntmps11
  go_wp2_with fail
  refine HT.out.mono ?_
  rintro e w1 ⟨rfl, rfl⟩
  go_wp2_with fail
  go_ret
  exact ⟨rfl, rfl⟩
set_option maxHeartbeats 1000000 in
set_option maxRecDepth 100000 in
theorem restart_any {B b m : Nat} {F : Nat → Prop} {cut : Int} {s : DS} {D : DataW Unit} {vals : ByteArray → Value} {w : World} (h : Dsk B w b F cut s m D vals) (n : Int) :
    Calls Tryz.prog 32 #[.pointer (some ⟨b, 0, none⟩), .int .i64 n] w fun e w' => DevE (IsP B) F b n 0 ⟨#[]⟩ ⟨s.fs, 0, false⟩ w e w' ∧ Keeps (· = b) w w' := by
  have k1 := h.c1
  have k2 := h.c2
  have k3 := h.c3
  have f1 := h.free 1
  have f2 := h.free 2
  have f3 := h.free 3
  have HT := Lib.hid (there_any b m w h.c0)
  have HD := Lib.hid h
  clear h
  go_enter Tryz.func32, Tryz.ntmps32
  go_wp2_with fail
  refine HT.out.mono ?_
  rintro e w1 ⟨rfl, rfl⟩
  go_wp2_with fail
  go_ret
  have hk : Keeps (· = b) w (((w.setCell ⟨b, 1, none⟩ (.int .i64 n)).setCell ⟨b, 2, none⟩ (.int .i64 0)).setCell ⟨b, 3, none⟩ (.bool false)) := (((Keeps.refl _ w).setb 1 _).setb 2 _).setb 3 _
  refine ⟨⟨.nilIface, F, rfl, Or.inl ⟨rfl, rfl⟩, ⟨m, D, vals, ?_⟩, hk.mono (fun i e => by rw [e]; exact HD.out.files.fb), fun i hi => Or.inl hi⟩, hk⟩
  have e1 : (w.setCell ⟨b, 1, none⟩ (.int .i64 n)).cell? ⟨b, 1, none⟩ = some (.int .i64 n) := World.cell?_setCell_same _ _ _ k1
  have k2' : (w.setCell ⟨b, 1, none⟩ (.int .i64 n)).cell? ⟨b, 2, none⟩ = some (.int .i64 s.count) := by rw [cell_ne (by decide)]; exact k2
  have k3' : ((w.setCell ⟨b, 1, none⟩ (.int .i64 n)).setCell ⟨b, 2, none⟩ (.int .i64 0)).cell? ⟨b, 3, none⟩ = some (.bool s.dead) := by rw [cell_ne (by decide), cell_ne (by decide)]; exact k3
  have e2 : ((w.setCell ⟨b, 1, none⟩ (.int .i64 n)).setCell ⟨b, 2, none⟩ (.int .i64 0)).cell? ⟨b, 2, none⟩ = some (.int .i64 0) := World.cell?_setCell_same _ _ _ k2'
  exact ⟨by rw [cell_ne (by decide), cell_ne (by decide), cell_ne (by decide)]; exact HD.out.c0, by rw [cell_ne (by decide), cell_ne (by decide)]; exact e1, by rw [cell_ne (by decide)]; exact e2,
    World.cell?_setCell_same _ _ _ k3', fun j => by simpa using HD.out.free j,
    HD.out.files.turn hk (fun e => HD.out.files.bm e.symm) (fun n' g _ hg e => ((HD.out.files.file n' (fun e => e)).blk g hg).1 e) (fun _ e => e) (fun _ e => e) (fun i hi => by simpa using HD.out.files.lt i hi), by show n < 0 ∨ (0 : Int) ≤ n; omega, by simpa using HD.out.bw⟩
set_option maxHeartbeats 1000000 in
set_option maxRecDepth 100000 in
theorem new_any {B : Nat} {w : World} (cut : Int) (hB : B ≤ w.heap.size) :
    Calls Tryz.prog 4 #[.int .i64 cut] w fun e w' => ∃ b F, e = .returned (.pointer (some ⟨b, 0, none⟩)) ∧ IsP B w' b F cut ⟨[], 0, false⟩ ∧ Below w.heap.size w w' ∧ ∀ i, F i → w.heap.size ≤ i := by
  have HB := Lib.hid hB; clear hB
  have hmm := @run_makeMap Tryz.prog
  go_enter Tryz.func4, Tryz.ntmps4
  go_wp2_with fail
  go_ret
  refine ⟨w.heap.size + 1, fun i => i = w.heap.size ∨ i = w.heap.size + 1, rfl, ⟨w.heap.size, .map [], fun _ => .slice none 0 0, ?_⟩, ((Below.refl _ _).alloc (Nat.le_refl _) _).alloc (by simp) _, fun i hi => by omega⟩
  have c : ∀ j u, [Value.map (some w.heap.size), .int .i64 cut, .int .i64 0, .bool false][j]? = some u → ((w.alloc (.map #[] 0)).alloc (.cells #[.map (some w.heap.size), .int .i64 cut, .int .i64 0, .bool false] 43)).cell? ⟨w.heap.size + 1, j, none⟩ = some u := by
    intro j u hu
    rw [World.cell?_alloc_at _ _ _ _ (by simp)]
    match j, hu with
    | 0, hu => exact hu
    | 1, hu => exact hu
    | 2, hu => exact hu
    | 3, hu => exact hu
    | j + 4, hu => simp at hu
  refine ⟨c 0 _ rfl, c 1 _ rfl, c 2 _ rfl, c 3 _ rfl, fun j => by simp, ?_, by show cut < 0 ∨ (0 : Int) ≤ cut; omega, Nat.le_trans HB.out (by simp; omega)⟩
  exact ⟨(World.ownsMap_made w _ _ _).alloc _, rfl, fun n => rfl, fun n => rfl, fun n _ => ⟨Or.inl ⟨rfl, rfl⟩, fun g e => (by cases e), Or.inl (Or.inl rfl)⟩, Sorted.nil, fun i hi => by simp; omega, Or.inr rfl, Or.inl rfl, by omega⟩
end DiskP
end Go.Proofs.YtpmbokklpidohaaGreatDoor
namespace Go.Proofs.YtpmbokklpidohaaGreatDoor
open Go.RowKit Go.Maps Go.Sort
namespace DiskP
open DiskM DiskC ErrC

def keysN (fs : FL) : List (List UInt8) := fs.map (fun f => f.1.data.toList)
theorem keysN_mem {fs : FL} (hs : Sorted fs) (x : List UInt8) : x ∈ keysN fs ↔ hasF ⟨x.toArray⟩ fs = true := by
  rw [has_mem hs]
  unfold keysN
  rw [List.mem_map]
  constructor
  · rintro ⟨f, hf, rfl⟩; exact ⟨f, hf, by simp⟩
  · rintro ⟨f, hf, h⟩; exact ⟨f, hf, by rw [h]⟩
theorem less_lt {a b : ByteArray} (h : lessN a b = true) : a.data.toList < b.data.toList := by
  unfold lessN at h
  rw [bytesLess_eq] at h
  rw [ByteArray.toList_eq, ByteArray.toList_eq] at h
  simpa using h
theorem keysN_sorted {fs : FL} (hs : Sorted fs) : (keysN fs).Pairwise (fun a b => a < b) := by
  unfold keysN
  rw [List.pairwise_map]
  exact hs.imp (fun h => less_lt h)
theorem keysN_sort {fs : FL} (hs : Sorted fs) {ss : List (List UInt8)} (hp : ss.Perm (keysN fs)) : ss.mergeSort (fun x y => decide (x ≤ y)) = keysN fs := by
  have tr : ∀ a b c : List UInt8, leB a b = true → leB b c = true → leB a c = true := fun a b c h1 h2 => by simp only [leB, decide_eq_true_eq] at *; exact List.le_trans h1 h2
  have to : ∀ a b : List UInt8, (leB a b || leB b a) = true := fun a b => by simp only [leB, Bool.or_eq_true, decide_eq_true_eq]; exact List.le_total a b
  refine List.Perm.eq_of_pairwise (le := fun a b => leB a b = true) (fun a b _ _ h1 h2 => ?_) (List.pairwise_mergeSort tr to ss) ((keysN_sorted hs).imp (fun h => ?_)) ((List.mergeSort_perm ss leB).trans hp)
  · simp only [leB, decide_eq_true_eq] at h1 h2
    exact List.le_antisymm h1 h2
  · simp only [leB, decide_eq_true_eq]
    exact List.le_of_lt h
theorem keysN_perm {fs : FL} (hs : Sorted fs) {ss : List (List UInt8)} {D : DataW Unit} (hd : ∀ n, Maps.has D (keyN n) = hasF n fs) (hn : ss.Nodup) (hm : ∀ x, x ∈ ss ↔ Maps.has D (.string x) = true) : ss.Perm (keysN fs) := by
  refine (List.perm_ext_iff_of_nodup hn ((keysN_sorted hs).imp (fun h e => by rw [e] at h; exact List.lt_irrefl _ h))).2 fun x => ?_
  rw [hm x, keysN_mem hs, ← hd]
theorem keysN_cells (fs : FL) : (keysN fs).map encStr = (fs.map (·.1)).map Value.string := by
  unfold keysN
  rw [List.map_map, List.map_map]
  apply List.map_congr_left
  intro f _
  simp [encStr]
set_option maxRecDepth 100000 in
set_option maxHeartbeats 1000000 in
theorem names_dead {B b m : Nat} {F : Nat → Prop} {cut : Int} {s : DS} {D : DataW Unit} {vals : ByteArray → Value} {w : World} (h : Dsk B w b F cut s m D vals) (hd : s.dead = true) :
    Calls Tryz.prog 37 #[.pointer (some ⟨b, 0, none⟩)] w fun e w' => ∃ u, e = .returned u ∧ TextR.OwnT w' w.heap.size u (namesS s) ∧ Below w.heap.size w w' := by
  have k3 := h.c3
  have HT := Lib.hid (there_any b m w h.c0)
  rw [hd] at k3
  rw [show namesS s = [] by unfold namesS; rw [if_pos hd]]
  clear h hd
  go_enter Tryz.func37, Tryz.ntmps37
  go_wp2_with fail
  refine HT.out.mono ?_
  rintro e w1 ⟨rfl, rfl⟩
  go_wp2_with fail
  go_ret
  exact ⟨_, rfl, TextR.OwnT.nil _ _, Below.refl _ _⟩
set_option maxRecDepth 100000 in
set_option maxHeartbeats 4000000 in
theorem names_live {B b m : Nat} {F : Nat → Prop} {cut : Int} {s : DS} {D : DataW Unit} {vals : ByteArray → Value} {w : World} (h : Dsk B w b F cut s m D vals) (hd : s.dead = false) (hl : s.fs.length ≤ 65536) :
    Calls Tryz.prog 37 #[.pointer (some ⟨b, 0, none⟩)] w fun e w' => ∃ u, e = .returned u ∧ TextR.OwnT w' w.heap.size u (namesS s) ∧ Below w.heap.size w w' := by
  have k0 := h.c0
  have k3 := h.c3
  have HT := Lib.hid (there_any b m w h.c0)
  rw [hd] at k3
  rw [show namesS s = s.fs.map (·.1) by unfold namesS; rw [if_neg (by rw [hd]; decide)]]
  have hown := h.files.map
  have hsz := h.files.size
  have hbl : m < w.heap.size := h.files.lt m h.files.fm
  have HSO := Lib.hid h.files.sorted
  have HDOM := Lib.hid h.files.dom
  have hmax : Maps.size D ≤ maxLen := by rw [hsz]; unfold maxLen; omega
  have hbytes : 16 * Maps.size D ≤ 140737488355328 := by rw [hsz]; omega
  clear h hd hl hsz
  generalize s.fs.length = n at *
  obtain ⟨i0, hi, hz0, hz1, hz2⟩ := info_parts TextR.info_text
  go_enter Tryz.func37, Tryz.ntmps37
  go_wp2_with fail
  refine HT.out.mono ?_
  rintro e w0 ⟨rfl, rfl⟩
  go_wp2_with (first
    | (at_len; refine wpList_len_own _ rfl _ 41 rfl 9 64 Tryz.underlying41 _ m n _ rfl hown ?_)
    | (at_make; refine wpList_make_own _ rfl _ _ 68 rfl w.heap.size 9 i0 (.string ⟨#[]⟩) 1 Tryz.underlying68 hi hz0 hz1 _ _ _ (Maps.size D) rfl rfl rfl (by rw [hz2]; omega) hmax (Nat.le_refl _) ?_; intro w1 hrow1 hg1; have k1 : w1.cell? ⟨b, 0, none⟩ = some (.map (some m)) := hg1.cell k0 (by simp))
    | (at_range; refine wpList_range_own _ rfl _ 41 rfl 9 64 keyed Tryz.underlying41 _ m n _ rfl (hown.kept hg1 (by simp)) ?_; intro w2 hrg0 hg0 hs0))
  go_frame
  go_loopw [3] (fun v wr => ∃ (left : Lit → Bool) (cnt : Nat) (ss : List (List UInt8)), wr.ranges Tryz.prog 9 eR m w1.heap.size n D left cnt ∧ ss.length + cnt ≤ Maps.size D ∧
      wr.ownsRow w.heap.size 9 1 v ss.length (ss.map encStr) ∧ v ≠ .slice none 0 0 ∧ Hid (Collected D left ss) ∧ Below w.heap.size w wr)
    (fun _ wr => wr.rangeLeft m w1.heap.size)
  case atStart =>
    exact ⟨_, _, [], hrg0, by simp, hrow1.kept hg0 (Or.inr (by simp [Value.ownBlock])), by simp, Lib.hid (Collected.start D),
      ((Below.refl _ _).grown hg1 (Nat.le_refl _) (fun j hj => by cases hj)).grown hg0 hg1.size (fun j hj => by cases hj)⟩
  case round =>
    obtain ⟨left, cnt, ss, hrg, hcs, hrow, hnn, HC, hnx⟩ := hrel
    rename World => wr
    go_wp2_with (at_next; refine wpList_next_ranges _ rfl _ rfl 9 keyed eR encStr (id : Value → Value) (fun key kl hk => by obtain ⟨x, hx, _⟩ := Maps.keyOf_str Tryz.underlying9 hk; exact ⟨x, hx⟩) (fun v y _ => ⟨v, rfl⟩) m w1.heap.size n _ _ _ rfl hrg ?_ ?_)
    · intro hc0 hl0
      rcases hrow.2 with ⟨hnil, _⟩ | ⟨g, cap, cur, rfl, hbase, hb, h1, h2, h3, h4⟩
      · exact absurd hnil hnn
      have hH : Holds encStr wr g 0 ss.toArray := holds_of_block hb (by simpa using h4)
      have hgl : g < wr.heap.size := (Array.getElem?_eq_some_iff.1 hb).1
      have hc := Tryz.slices_Sort_string g 0 cap ss wr hH hgl (by unfold maxLen at *; omega)
      go_wp2_with fail
      refine hc.mono ?_
      rintro e w' ⟨rfl, nn, os, rfl⟩
      go_wp2_with fail
      go_ret
      have hpm := keysN_perm HSO.out HDOM.out HC.out.1 (fun x => by rw [HC.out.2 x, hl0]; simp)
      have hsort := keysN_sort HSO.out hpm
      refine ⟨_, rfl, ?_, hnx.grown (grownBy_sorted _) hnx.size (fun j hj => by cases hj; exact hbase)⟩
      rw [hsort]
      have hlen : (keysN s.fs).length = ss.length := hpm.length_eq.symm
      have hrw := ownsRow_sorted (w := wr) (n := nn) (os := os) (e := 9) (ss := ss) (ts := keysN s.fs) hlen hbase hb h1 h2 h3
      rw [keysN_cells] at hrw
      have hl2 : ss.length = (s.fs.map (·.1)).length := by rw [← hlen]; simp [keysN]
      rw [hl2] at hrw ⊢
      exact hrw
    · intro x c kl yd yp w3 cnt2 hkey hlk hv hat hrg2 hlt hg2 hs2 hen
      obtain ⟨x', ex, rfl, _⟩ := Maps.keyOf_str Tryz.underlying9 hkey
      obtain rfl : x = x' := encStr_inj ex
      have hrow2 := hrow.kept hg2 (Or.inr (row_ne_iter hrow hrg).symm)
      clear hs2
      go_wp2_with (at_builtin; refine wpList_append_own _ rfl _ _ 68 rfl w.heap.size 9 i0 (.string ⟨#[]⟩) 1 16 Tryz.underlying68 hi hz0 hz1 hz2 rfl (by decide) _ _ _ rfl (hrow2.alloc _) ⟨w3.heap.size, 0, none⟩ 1 1 [encStr x] rfl rfl (cell_one_new _ _ _) (by simp [Value.oneCell', encStr]) (by unfold maxLen at *; omega) (by omega) (by have := hnx.size; have := hg2.size; simp; omega) ?_; intro v' w4 hown' hg3 hnil3)
      have hrg3 := (hrg2.alloc _).kept hg3 (row_ne_low hrow2 hbl) (row_ne_iter hrow2 hrg2)
      go_roundw
      case rel =>
        refine ⟨_, cnt2, ss ++ [x], hrg3, by simp; omega, by simpa using hown', fun hv' => by have := (hnil3.1 hv').2; omega, Lib.hid (HC.out.step hlk hat), ?_⟩
        exact ((hnx.grown hg2 hnx.size (fun j hj => by cases hj; exact hg1.size)).alloc (by have := hnx.size; have := hg2.size; omega) _).grown hg3 (by have := hnx.size; have := hg2.size; simp; omega) (fun j hj => (hrow2.lt j hj).1)
      case measure => rw [hrg3.left_eq, hrg.left_eq]; exact hlt
end DiskP
end Go.Proofs.YtpmbokklpidohaaGreatDoor
