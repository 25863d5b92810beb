/-
  The law of bytes at the bound (BlobLong).
-/
import Derived.Test.YtfbdhlpgklkjmaaGreatDoorBlobVars
import Derived.Laws.MakeOwn
namespace Go.Proofs.YtfbdhlpgklkjmaaGreatDoor
open Go.RowKit Go.Sort
namespace BlobC
open BlobM PathM DiskM DiskC ErrC PathC StrC TextR
open VerM (B)
open DiskP (RP disk_dev)
set_option linter.unusedSimpArgs false
set_option linter.unusedVariables false
def byteVB (c : UInt8) : Value := .int .u8 (c.toNat : Int)
theorem info_byteB : (Tryz.prog.info? 5).map (fun i => (i.zero, i.size, i.bytes)) = some (some (.int .u8 0), 1, 1) := by kernel_rfl
def bytesV (l : List UInt8) : Array Value := (l.map byteVB).toArray
theorem bytesV_size (l : List UInt8) : (bytesV l).size = l.length := by simp [bytesV]
theorem bytesV_get (l : List UInt8) (i : Nat) (h : i < l.length) : (bytesV l)[i]? = some (.int .u8 (l[i].toNat : Int)) := by
  simp [bytesV, byteVB, List.getElem?_eq_getElem h]

theorem bytesV_set (l : List UInt8) (j : Nat) (c : UInt8) (h : j < l.length) : (bytesV l).set j (.int .u8 (c.toNat : Int)) (by rw [bytesV_size]; exact h) = bytesV (l.set j c) := by
  simp [bytesV, byteVB]
theorem row_set (w : World) (b j : Nat) (l : List UInt8) (t : TypeId) (c : UInt8) (h : j < l.length) {fr : Nat × Nat} (hg : w.heap[b]? = some (.cells (bytesV l) t fr)) :
    w.setCell ⟨b, j, none⟩ (.int .u8 (c.toNat : Int)) = w.setRow b (bytesV (l.set j c)) := by
  rw [setCell_eq_setRow w b j (bytesV l) t fr _ hg]
  congr 1
  rw [← bytesV_set l j c h]
  simp [Array.setIfInBounds, bytesV_size, h]

theorem conv_any (l r : List UInt8) (b cp : Nat) (t : TypeId) (w : World) {fr : Nat × Nat} (hg : w.heap[b]? = some (.cells (bytesV (l ++ r)) t fr)) :
    (convert 45 9 (.slice (some ⟨b, 0, none⟩) l.length cp)).run Tryz.prog w = .ok (.string (str l)) w := by
  refine run_convert_bytes_back (P := Tryz.prog) w 45 9 5 ⟨b, 0, none⟩ cp l Tryz.underlying45 Tryz.underlying5 Tryz.underlying9 (fun j hj => ?_)
  rw [Go.WideShapes.add_plain, Nat.zero_add, cell_of_row w b j _ t _ hg, bytesV_get _ _ (by simp; omega), List.getElem_append_left hj]

theorem byte_u8 {a : Int} (h : (Lit.int .u8 a).wf = true) : ∃ c : UInt8, a = (c.toNat : Int) := by
  simp [Lit.wf, IntKind.min, IntKind.max, IntKind.signed, IntKind.bits] at h
  exact ⟨UInt8.ofNat a.toNat, by rw [UInt8.toNat_ofNat_of_lt' (by show a.toNat < 256; omega)]; omega⟩
theorem and_low2 (a : Int) : bits .and .i64 a 3 = a % 4 := by
  show IntKind.i64.wrap ((BitVec.ofInt 64 a &&& BitVec.ofInt 64 3).toNat : Int) = _
  have e : (BitVec.ofInt 64 a &&& BitVec.ofInt 64 3).toNat = (BitVec.ofInt 64 a).toNat % 4 := by
    rw [BitVec.toNat_and]
    exact Nat.and_two_pow_sub_one_eq_mod _ 2
  rw [e, BitVec.toNat_ofInt, IntKind.wrap_i64]
  omega
theorem made_bytes (n : Nat) : madeCells (Value.int .u8 0).cells n = bytesV (List.replicate n 0) := by
  apply Array.ext
  · simp [madeCells, bytesV]
  · intro i h1 h2
    simp [madeCells, bytesV, byteVB, Value.cells, Nat.mod_one]
/-- the first i of n bytes are written -/
def fill (c : UInt8) (n i : Nat) : List UInt8 := List.replicate i c ++ List.replicate (n - i) 0
theorem fill_length (c : UInt8) (n i : Nat) (h : i ≤ n) : (fill c n i).length = n := by simp [fill]; omega
theorem fill_set (c : UInt8) (n i : Nat) (h : i < n) : (fill c n i).set i c = fill c n (i + 1) := by
  unfold fill
  rw [List.set_append_right _ _ (by simp), List.length_replicate, Nat.sub_self, show n - i = (n - (i + 1)) + 1 by omega, List.replicate_succ, List.set_cons_zero, List.replicate_succ', List.append_assoc]
  rfl
theorem fill_zero (c : UInt8) (n : Nat) : fill c n 0 = List.replicate n 0 := by simp [fill]
theorem fill_all (c : UInt8) (n : Nat) : fill c n n = List.replicate n c := by simp [fill]


theorem no_blobs {s : DS} {L : List Bl} (h : AllP (namesS s) L) (h0 : s.fs = []) : L = [] := by
  have := h.len
  unfold namesS at this
  rw [h0] at this
  refine List.length_eq_zero_iff.1 ?_
  split at this <;> simpa using this
set_option maxHeartbeats 8000000 in
set_option maxRecDepth 100000 in
theorem long_any (more : Int) (c : UInt8) (w : World) (hv : VarsB w) :
    Calls Tryz.prog 4 #[.int .i64 more, .int .u8 (c.toNat : Int)] w fun e w' => e = .returned (.bool true) ∧ Below w.heap.size w w' := by
  have HV := Lib.hid hv; clear hv
  obtain ⟨m, hm, hm4⟩ : ∃ m : Nat, more % 4 = (m : Int) ∧ m < 4 := ⟨(more % 4).toNat, by omega, by omega⟩
  have ha : bits .and .i64 more 3 = (m : Int) := by rw [and_low2]; exact hm
  obtain ⟨n, hn⟩ : ∃ n, n = 65535 + m := ⟨_, rfl⟩
  have hnm : (65536 + (m : Int) - 1) = (n : Int) := by omega
  obtain ⟨i0, hi, hz0, hz1, hz2⟩ := info_parts info_byteB
  have hmk := run_make (P := Tryz.prog) w 45 5 i0 _ Tryz.underlying45 hi hz0 .i64 .i64 (n : Int) (n : Int) (by omega) (by omega) (by rw [hz2]; omega) (by omega)
  rw [Int.toNat_natCast, hz1, Nat.mul_one, made_bytes] at hmk
  have hnew := Lib.hid (heap_alloc_new w (.cells (bytesV (List.replicate n 0)) 5))
  have hB1 : Hid (Below w.heap.size w (w.alloc (.cells (bytesV (List.replicate n 0)) 5))) := Lib.hid ((Below.refl _ _).alloc (Nat.le_refl _) _)
  generalize w.alloc (.cells (bytesV (List.replicate n 0)) 5) = w1 at *
  have hn2 : n ≤ 65540 := by omega
  clear hm hn hz0 hz1 hz2 hi
  go_enter Tryz.func4, Tryz.ntmps4
  go_wp2_with fail
  go_loopw [7] (fun vi wr => ∃ i : Nat, i ≤ n ∧ vi = .int .i64 i ∧ Hid (wr.heap[w.heap.size]? = some (.cells (bytesV (fill c n i)) 5 (0, 0))) ∧ Hid (Below w.heap.size w wr)) (fun vi _ => n - (intOf vi).toNat)
  case atStart => exact ⟨0, Nat.zero_le _, rfl, by rw [fill_zero]; exact hnew, hB1⟩
  case round =>
    obtain ⟨i, hi, rfl, HR, HB⟩ := hrel
    rename World => wr
    by_cases hlt : i < n
    · have hdec : decide (i < n) = true := by simpa using hlt
      have hfl := fill_length c n i hi
      have hcell : wr.cell? ⟨w.heap.size, i, none⟩ = some (.int .u8 ((fill c n i)[i].toNat : Int)) := by
        rw [cell_of_row wr _ i _ _ _ HR.out]; exact bytesV_get _ _ (by omega)
      have hfr : wr.frozen? ⟨w.heap.size, i, none⟩ = false := by simp [World.frozen?, HR.out]
      have hset := row_set wr w.heap.size i (fill c n i) 5 c (by omega) HR.out
      rw [fill_set c n i hlt] at hset
      have HR2 : Hid ((wr.setCell ⟨w.heap.size, i, none⟩ (.int .u8 (c.toNat : Int))).heap[w.heap.size]? = some (.cells (bytesV (fill c n (i + 1))) 5 (0, 0))) := Lib.hid (by rw [hset]; exact setRow_heap _ _ _ _ _ _ HR.out)
      have HB2 : Hid (Below w.heap.size w (wr.setCell ⟨w.heap.size, i, none⟩ (.int .u8 (c.toNat : Int)))) := Lib.hid (HB.out.setCell (Nat.le_refl _) _)
      clear hset
      generalize (fill c n i)[i] = c0 at *
      go_wp2_with fail
      go_roundw
      case rel => exact ⟨i + 1, by omega, by go_num, HR2, HB2⟩
      case measure => simp [intOf]; omega
    · obtain rfl : i = n := by omega
      have hdec : decide (i < i) = false := by simp
      have hrow := HR.out
      rw [fill_all] at hrow
      have hrl : (List.replicate i c).length = i := List.length_replicate
      have hlt1 : Hid (w.heap.size < wr.heap.size) := Lib.hid ((Array.getElem?_eq_some_iff.1 hrow).1)
      have HCV := Lib.hid (fun (w2 : World) (h : w2.heap[w.heap.size]? = wr.heap[w.heap.size]?) => conv_any (List.replicate i c) [] w.heap.size i 5 w2 (by rw [show List.replicate i c ++ [] = List.replicate i c by simp, h]; exact hrow))
      rw [hrl] at HCV
      have HSZ : Hid ((str (List.replicate i c)).size = i) := Lib.hid (by rw [str_size, hrl])
      clear hrow hrl HR
      generalize str (List.replicate i c) = X at *
      have HVR := Lib.hid (HV.out.below HB.out)
      have HN := Lib.hid (new_lv (-1) wr HVR.out)
      go_wp2_with (first
        | (go_at_call 6; refine HN.out.mono ?_; rintro e w2 ⟨b, F1, rfl, h1⟩; have H1 := Lib.hid h1; clear h1)
        | (go_at_call 8; refine (open_new H1.out).mono ?_; rintro e w3 ⟨p, F2, rfl, h2, hp2⟩; have H2 := Lib.hid h2; have HP2 := Lib.hid hp2; have hcv3 := HCV.out w3 (h2.low.block _ hlt1.out); clear h2 hp2)
        | fail)
      have HPW : Hid (w.heap.size < w3.heap.size) := Lib.hid (Nat.lt_of_lt_of_le hlt1.out H2.out.low.size)
      by_cases hbig : 65536 < i
      · have hd1 : decide (65536 < i) = true := decide_eq_true hbig
        have hd2 : decide ((65536 : Int) < i) = true := decide_eq_true (by omega)
        have HPUT : Hid (Calls Tryz.prog 10 #[.pointer (some ⟨p, 0, none⟩), .string X] w3 (DiskE wr.heap.size b F2 (-1) 4 ⟨#[]⟩ ⟨[], 0, false⟩ w3 (fun ev => .tuple #[zV, ev]))) := Lib.hid ((put_any X H2.out.bs HP2.out empty_good (Nat.zero_le _) (Nat.zero_le _) (by have := HSZ.out; omega)).mono (by
          rintro e w' ⟨L, -, h⟩
          have hr : putR (-1) X L ⟨[], 0, false⟩ = ⟨4, ⟨#[]⟩, (0, 0), ⟨[], 0, false⟩⟩ := by unfold putR; rw [if_pos (by rw [HSZ.out]; exact hbig)]
          rw [hr] at h
          exact h))
        have heq := eq_z
        clear hbig
        go_wp2_with fail
        refine HPUT.out.mono ?_
        rintro e w4 ⟨ev, F4, rfl, hde, hbs, hk, hf⟩
        have H4 := Lib.hid ((H2.out.disk hbs hk).below (alB w4 zO))
        have HP4 := Lib.hid ((HP2.out.dev hk hf).below (alB w4 zO))
        have HDE := Lib.hid (derr_below hde (alB w4 zO))
        obtain ⟨z0, z1⟩ := z_cells (heap_alloc_new w4 zO)
        clear hde hbs hk hf HPUT
        go_wp2_with fail
        refine (is_derr HDE.out (by decide) (by decide) H4.out.bs.ln.vars).mono ?_
        rintro e w5 ⟨rfl, hb5⟩
        have H5 := Lib.hid (H4.out.below hb5)
        have HP5 := Lib.hid (HP4.out.below hb5)
        clear hb5 z0 z1
        go_wp2_with fail
        refine (all_any H5.out.bs HP5.out empty_good (Nat.zero_le _)).mono ?_
        rintro e w6 ⟨L, v, rfl, hap, hrow, hb6⟩
        have hL := no_blobs hap rfl
        subst hL
        obtain ⟨cpa, av, rfl⟩ : ∃ cpa av, v = .slice av 0 cpa := by
          rcases hrow.2 with ⟨e, h0⟩ | ⟨g, cp, cur, e, _⟩
          · exact ⟨0, none, by rw [e]⟩
          · exact ⟨cp, _, e⟩
        have H6 := Lib.hid (H5.out.below hb6)
        clear hap hrow hb6
        go_wp2_with fail
        refine (alive_any w6 (HVR.out.below H6.out.low)).mono ?_
        rintro e w7 ⟨rfl, hb7⟩
        have HB7 := Lib.hid (H6.out.low.trans (hb7.mono H6.out.low.size))
        clear hb7
        go_wp2_with fail
        go_ret
        exact ⟨rfl, HB.out.trans (HB7.out.mono HB.out.size)⟩
      · have hd1 : decide (65536 < i) = false := decide_eq_false hbig
        have hd2 : decide ((65536 : Int) < i) = false := decide_eq_false (by omega)
        have HPUT := Lib.hid (put_lv X H2.out HP2.out (by decide) (Inv.nil 65536 0) (by decide) rfl (by decide) (by have := HSZ.out; omega) rfl (by decide))
        clear hbig
        go_wp2_with fail
        refine HPUT.out.mono ?_
        rintro e w4 ⟨x, F4, s4, rfl, h4, hp4, hl4, -, hk4⟩
        have HB4 := Lib.hid (alB w4 (bO x))
        have H4 := Lib.hid (h4.below HB4.out)
        have HP4 := Lib.hid (hp4.below HB4.out)
        have HROW4 : Hid (w4.heap[w.heap.size]? = wr.heap[w.heap.size]?) := Lib.hid (h4.low.block _ hlt1.out)
        have hgood : DiskC.Good s4.fs := hl4.inv.good (by decide) (by decide)
        have HG1 : Hid (getR x s4 = (X, 0, ⟨#[]⟩)) := Lib.hid (by
          rw [get_has hl4.ok hl4.dead hl4.has (by rw [hl4.held]; exact hl4.sum), hl4.held])
        have HGET := Lib.hid (get_any x H4.out.bs HP4.out hl4.ok.sum hl4.ok.hi hgood)
        obtain ⟨z0, z1⟩ := b_cells (heap_alloc_new w4 (bO x))
        clear h4 hp4 hl4 hk4 hgood HPUT hcv3
        go_wp2_with fail
        refine HGET.out.mono ?_
        rintro e w6 ⟨ev, rfl, hde, hb6⟩
        rw [HG1.out] at hde
        have hev : ev = .nilIface := by
          rcases hde with ⟨-, h⟩ | ⟨h, -⟩
          · exact h
          · exact absurd rfl h
        subst hev
        have H6 := Lib.hid (H4.out.below hb6)
        have hcv6 := HCV.out w6 (H6.out.low.block _ hlt1.out)
        have hxx : (X.toList == X.toList) = true := by simp
        clear hde hb6 z0 z1 HGET
        rw [HG1.out]
        go_wp2_with fail
        refine (alive_any w6 (HVR.out.below H6.out.low)).mono ?_
        rintro e w7 ⟨rfl, hb7⟩
        have HB7 := Lib.hid (H6.out.low.trans (hb7.mono H6.out.low.size))
        clear hb7
        go_wp2_with fail
        go_ret
        exact ⟨rfl, HB.out.trans (HB7.out.mono HB.out.size)⟩
end BlobC
end Go.Proofs.YtfbdhlpgklkjmaaGreatDoor
