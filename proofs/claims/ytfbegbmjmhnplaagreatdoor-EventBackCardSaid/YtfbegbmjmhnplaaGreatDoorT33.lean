/-
  What the proof of EvBoth stands on, part 33.
-/
import Derived.Test.YtfbegbmjmhnplaaGreatDoorT32
set_option linter.unusedSimpArgs false
set_option linter.unusedVariables false
set_option maxHeartbeats 16000000
namespace Go.Proofs.YtfbegbmjmhnplaaGreatDoor
open Go.Lib (hid)
section
open Go.RowKit Go.Sort
namespace EvS
open StrC EvF EvC EvA TextR CodeM CodeC ErrC ErrU
open VerC (Vw)
abbrev flt9 (f : Nat) : Value := .iface 83 (.pointer (some ⟨f, 0, none⟩))
abbrev topO (y f : Nat) : Obj := .cells #[.int .i64 90, .string ⟨#[]⟩, .int .i64 y, flt9 f] 85
abbrev oneO : Obj := .cells #[.int .i64 90, .string ⟨#[]⟩, .int .i64 0, .nilIface] 85
theorem ycy (c : Int) (w : World) : Calls Tryz.prog 26 #[.iface 28 (.int .i64 c), .iface 28 (.int .i64 c)] w fun e w' => e = .returned (.bool true) ∧ w = w' := by
 have x1 := @run_callFunc_extern Tryz.prog 64 _ Extern.ReflectliteType.typeOf Tryz.func64 (by kernel_rfl) (by kernel_rfl) (by kernel_rfl) (by kernel_rfl)
 have y1 := to_en
 have y2 := ztv
 have y3 := m_cmp
 go_enter Tryz.func26, Tryz.ntmps26
 go_wp2_with (go_at_call 65; refine (ztz c _).mono ?_; rintro e w' ⟨rfl, rfl⟩)
 go_ret
 exact ⟨rfl, rfl⟩
theorem Oth.low {b B : Nat} {w w' : World} (h : Oth b w w') (hb : B ≤ b) (hB : B ≤ w.heap.size) : Below B w w' := ⟨h.os, h.tape, h.output, h.size, fun k hk => h.block k (by omega) (by omega)⟩
theorem rdr_new {W : World} {b : Nat} {s : ByteArray} (h : W.heap[b]? = some (.cells #[.bool true, .string s, .int .i64 0] 126)) : IsRdr W b 0 s 0 := ⟨by simp [World.cell?, h], by simp [World.cell?, h], by simp [World.cell?, h], zpg h⟩
theorem ycz {W : World} {f r : Nat} {c a : Int} {t : ByteArray} (hf : IsFault W f 0 c t a) (hr : W.heap[r]? = some zE0) : f ≠ r := by
 rintro rfl
 have h1 := hf.code
 simp [World.cell?, hr] at h1
structure RdS (w : World) (s : ByteArray) (y : Nat) (W : World) : Prop where
 res : W.heap[w.heap.size]? = some zE0
 rdr : IsRdr W (w.heap.size + 1) 0 s y
 low : Below w.heap.size w W
 sz : w.heap.size + 3 ≤ W.heap.size
theorem RdS.gr {w W W' : World} {s : ByteArray} {y : Nat} (h : RdS w s y W) (hb : Below W.heap.size W W') : RdS w s y W' :=
 ⟨(hb.block _ (zpf h.res)).trans h.res, ycn h.rdr (hb.block _ h.rdr.lt), h.low.trans (hb.mono h.low.size), Nat.le_trans h.sz hb.size⟩
theorem RdS.but {w W W' : World} {s : ByteArray} {y y2 : Nat} (h : RdS w s y W) (hb : Oth (w.heap.size + 1) W W') (hr : IsRdr W' (w.heap.size + 1) 0 s y2) : RdS w s y2 W' :=
 ⟨(hb.block _ (zpf h.res) (by omega)).trans h.res, hr, h.low.trans (hb.low (by omega) h.low.size), Nat.le_trans h.sz hb.size⟩
def ReadP (s : ByteArray) (w : World) (r : Ending) (w' : World) : Prop := Below w.heap.size w w' ∧
 (((readD s).2.1 = true ∧ ∃ a c, r = .returned (.tuple #[evV (atE (readD s).1 a c), .nilIface]) ∧ NeIn w' a c (readD s).1.needs) ∨
 ((readD s).2.1 = false ∧ (readD s).2.2.2 = 0 ∧ (readD s).2.2.1 = 0 ∧ ∃ g, r = .returned (.tuple #[evV (EvA.kindV 0), flt9 g]) ∧ w.heap.size ≤ g ∧ w'.heap[g]? = some oneO) ∨
 ((readD s).2.1 = false ∧ (readD s).2.2.2 ≠ 0 ∧ (readD s).2.2.2 ≤ 23 ∧ (readD s).2.2.1 ≤ s.size ∧ ∃ g f, r = .returned (.tuple #[evV (EvA.kindV 0), flt9 g]) ∧ w.heap.size ≤ g ∧ w'.heap[g]? = some (topO (readD s).2.2.1 f) ∧ IsFault w' f 0 (readD s).2.2.2 ⟨#[]⟩ (readD s).2.2.1))
theorem t_er {k : Nat} {s : ByteArray} (hk : k ≤ s.size) : (tRes 65536 k s).2.2.1 ≤ 22 ∧ ((tRes 65536 k s).2.2.1 ≠ 0 → (tRes 65536 k s).2.2.2.1 = (tRes 65536 k s).2.2.2.2) := by
 rcases zur 65536 k s hk with ⟨e, -, h2, hu⟩ | ⟨a, q, -, -, -, hu⟩
 · rw [hu]; exact ⟨h2, fun _ => rfl⟩
 · rw [hu]; exact ⟨Nat.zero_le _, fun h => absurd rfl h⟩
theorem u_er {m k : Nat} {s : ByteArray} (hk : k ≤ s.size) : (uRes m k (s.data.toList.drop k)).2.1 ≤ 22 ∧ ((uRes m k (s.data.toList.drop k)).2.1 ≠ 0 → (uRes m k (s.data.toList.drop k)).2.2.1 = (uRes m k (s.data.toList.drop k)).2.2.2) := by
 rcases zmv m k s hk with ⟨e, -, h2, hu⟩ | ⟨a, q, -, -, hu⟩
 · rw [hu]; exact ⟨h2, fun _ => rfl⟩
 · rw [hu]; exact ⟨Nat.zero_le _, fun h => absurd rfl h⟩
theorem w_er {k : Nat} {s : ByteArray} : (wRes k s).2.1 ≤ 22 ∧ ((wRes k s).2.1 ≠ 0 → (wRes k s).2.2.1 = (wRes k s).2.2.2) := by
 by_cases h8 : s.size - k < 8
 · rw [zuu h8]; exact ⟨by show (20 : Nat) ≤ 22; decide, fun _ => rfl⟩
 · rw [zuv h8]; exact ⟨Nat.zero_le _, fun h => absurd rfl h⟩
theorem yda {s : ByteArray} : ∀ (n k : Nat) (P : List (B × B)), k ≤ s.size → (ndsR s n k P).2.1 ≤ 22 ∧ ((ndsR s n k P).2.1 ≠ 0 → (ndsR s n k P).2.2.1 = (ndsR s n k P).2.2.2)
 | 0, k, P, _ => ⟨Nat.zero_le _, fun h => absurd rfl h⟩
 | n + 1, k, P, hk => by
   have h1 := t_in hk
   have h2 := t_in h1
   rw [ndsR]
   simp only
   split
   · exact t_er hk
   · split
     · exact t_er h1
     · exact yda n _ _ h2
theorem ydb {s : ByteArray} {k : Nat} {e : EvG} (x : Int) (hk : k ≤ s.size) : (allR s k e x).2.1 ≤ 22 ∧ ((allR s k e x).2.1 ≠ 0 → (allR s k e x).2.2.1 = (allR s k e x).2.2.2) := by
 have ht := t_er hk
 have hu := u_er (m := 4294967295) hk
 have hw := w_er (k := k) (s := s)
 unfold allR
 split
 · unfold zve
   have h6 := u_er (m := 64) hk
   have h7 := u_in (m := 64) hk
   simp only
   split
   · exact h6
   · exact yda _ _ _ h7
 · unfold fldR
   simp only
   (repeat' split) <;> assumption
theorem ydc {s : ByteArray} : ∀ (L : List Int) (k : Nat) (e : EvG), k ≤ s.size → (foldR s L k e).2.1 ≤ 22 ∧ ((foldR s L k e).2.1 ≠ 0 → (foldR s L k e).2.2.1 = (foldR s L k e).2.2.2) ∧ (foldR s L k e).2.2.2 ≤ s.size
 | [], k, e, hk => ⟨Nat.zero_le _, fun h => absurd rfl h, hk⟩
 | x :: r, k, e, hk => by
   rw [foldR]
   split
   · exact ⟨(ydb x hk).1, (ydb x hk).2, zzt x hk⟩
   · exact ydc r _ _ (zzt x hk)
def ClsF (s : ByteArray) (w2 w3 : World) (v : Value) (y : Nat) : Prop := ∃ f c : Nat, v = flt9 f ∧ c ≠ 0 ∧ c ≤ 22 ∧ y ≤ s.size ∧ w2.heap.size ≤ f ∧ IsFault w3 f 0 c ⟨#[]⟩ y ∧ readD s = (EvA.kindV 0, false, y, c)
def ClsN (s : ByteArray) (v : Value) : Prop := v = .iface 28 (.int .i64 90) ∧ readD s = (EvA.kindV 0, false, 0, 0)
def ClsK (s : ByteArray) (w3 : World) (K : Nat) (e : EvG) (v : Value) (y : Nat) : Prop := v = .nilIface ∧ y ≤ s.size ∧ ∃ g a c, e = atE g a c ∧ Sh g ∧ NeIn w3 a c g.needs ∧ (∀ p, a = some p → K ≤ p.block) ∧ readD s = if y < s.size then (EvA.kindV 0, false, y, 23) else if mayD g = false then (EvA.kindV 0, false, 0, 0) else (g, true, 0, 0)
theorem zG_is (k : Nat) : zG k = EvA.kindV k := rfl
theorem cls (s : ByteArray) (b n : Nat) (w2 w3 : World) (r : Ending) (h : EvE b w2.heap.size (StB s b n) IsB (rdB s) 0 w2 r w3) : ∃ e v y, r = .returned (.tuple #[evV e, v]) ∧ Oth b w2 w3 ∧ IsRdr w3 b 0 s y ∧ (ClsF s w2 w3 v y ∨ ClsN s v ∨ ClsK s w3 w2.heap.size e v y) := by
 obtain ⟨e, v, hr, ho, -, y, hst, hor⟩ := h
 refine ⟨e, v, y, hr, ho, hst.1, ?_⟩
 have hy := hst.2.1
 have hD : readD s = if (fstR s).2.1 ≠ 0 then (EvA.kindV 0, false, 0, (fstR s).2.1) else if zrk (fstR s).1 = [] then (EvA.kindV 0, false, 0, 0) else
  if (foldR s (zrk (fstR s).1) (fstR s).2.2 (EvA.kindV (fstR s).1)).2.1 ≠ 0 then (EvA.kindV 0, false, (foldR s (zrk (fstR s).1) (fstR s).2.2 (EvA.kindV (fstR s).1)).2.2.1, (foldR s (zrk (fstR s).1) (fstR s).2.2 (EvA.kindV (fstR s).1)).2.1)
  else if (foldR s (zrk (fstR s).1) (fstR s).2.2 (EvA.kindV (fstR s).1)).2.2.2 < s.size then (EvA.kindV 0, false, (foldR s (zrk (fstR s).1) (fstR s).2.2 (EvA.kindV (fstR s).1)).2.2.2, 23)
  else if mayD (foldR s (zrk (fstR s).1) (fstR s).2.2 (EvA.kindV (fstR s).1)).1 = false then (EvA.kindV 0, false, 0, 0) else ((foldR s (zrk (fstR s).1) (fstR s).2.2 (EvA.kindV (fstR s).1)).1, true, 0, 0) := rfl
 have hkd : (rdB s).kind 0 = ((fstR s).1, (fstR s).2.1, 0, (fstR s).2.2) := by
  show ((bRes 0 s).1, (bRes 0 s).2.1, 0, (bRes 0 s).2.2) = _
  rw [ycx]
 have hin : (fstR s).2.2 ≤ s.size := by rw [← ycx]; exact b_in (Nat.zero_le _)
 have hf0 : (fstR s).2.1 ≠ 0 → (fstR s).2.1 ≤ 22 ∧ (fstR s).2.2 = 0 := by
  unfold fstR
  split
  · intro h; exact absurd rfl h
  · intro _; exact ⟨by decide, rfl⟩
 have hk255 : (fstR s).1 ≤ 255 := by rw [← ycx]; exact b_le 0 s
 rw [hkd] at hor
 simp only [zG_is] at hor
 have hal := ycw s (zrk (fstR s).1) (fstR s).2.2 (EvA.kindV (fstR s).1) hin
 have her := ydc (zrk (fstR s).1) (fstR s).2.2 (EvA.kindV (fstR s).1) hin
 have hsh := zzu (s := s) (zrk (fstR s).1) (fstR s).2.2 (EvA.kindV (fstR s).1) (zzp hk255)
 generalize foldF (rdB s) (zrk (fstR s).1) (fstR s).2.2 (EvA.kindV (fstR s).1) = F at *
 generalize foldR s (zrk (fstR s).1) (fstR s).2.2 (EvA.kindV (fstR s).1) = G at *
 rcases hor with ⟨h1, -, h3, rfl⟩ | ⟨h1, h2, rfl, rfl⟩ | ⟨h1, h2, -, h4, h5, rfl⟩ | ⟨h1, h2, rfl, h4, rfl, a, c, rfl, h5, h6⟩
 · rcases h3 with ⟨h3, -⟩ | ⟨h3, f, rfl, h5, h6⟩
   · exact absurd h3 h1
   · obtain ⟨k1, k2⟩ := hf0 h1
     rw [if_pos h1] at hD
     refine .inl ⟨f, (fstR s).2.1, rfl, h1, k1, hy, h5, ?_, ?_⟩
     · rw [k2]; exact h6
     · rw [k2]; exact hD
 · rw [if_neg (by simpa using h1), if_pos h2] at hD
   exact .inr (.inl ⟨rfl, hD⟩)
 · rw [if_neg (by simpa using h1), if_neg h2] at hD
   have h4' : G.2.1 ≠ 0 := by rw [← hal.er]; exact h4
   rw [if_pos h4'] at hD
   rcases h5 with ⟨h3, -⟩ | ⟨h3, f, rfl, h7, h6⟩
   · exact absurd h3 h4
   · rw [hal.nx] at hy
     refine .inl ⟨f, G.2.1, rfl, h4', her.1, by rw [hal.nx]; exact her.2.2, h7, ?_, ?_⟩
     · rw [hal.nx, ← her.2.1 h4', ← hal.at_ h4', ← hal.er]; exact h6
     · rw [hal.nx, ← her.2.1 h4']; exact hD
 · rw [if_neg (by simpa using h1), if_neg h2] at hD
   have h4' : G.2.1 = 0 := by rw [← hal.er]; exact h4
   rw [if_neg (by simpa using h4')] at hD
   have hv := hal.val h4'
   refine .inr (.inr ⟨rfl, hy, G.1, a, c, by rw [hv], hsh, ?_, h6, ?_⟩)
   · rw [hv] at h5; exact h5
   · rw [hal.nx]; exact hD
theorem sh_in {w : World} {g : EvG} {a : Option Addr} {c : Nat} (h : Sh g) (hn : NeIn w a c g.needs) : EvIn w (atE g a c) :=
 ⟨h.k, h.sum, h.n, h.size, Nat.le_trans h.who (by decide), Nat.le_trans h.name (by decide), Nat.le_trans h.ver (by decide), Nat.le_trans h.holder (by decide), Nat.le_trans h.note (by decide), hn⟩
set_option maxRecDepth 100000 in
theorem pread_any (s : ByteArray) (w : World) (hs : s.size ≤ 4611686018427387904) (hv : Vw w) : Calls Tryz.prog 12 #[.string s] w (ReadP s w) := by
 have h0 := heap_alloc_new w zE0
 have hb0 := alW w zE0
 have hs0 : (w.alloc zE0).heap.size = w.heap.size + 1 := by simp
 have hn1 := heap_alloc_new (w.alloc zE0) (.cells #[.bool true, .string s, .int .i64 0] 126)
 have hb1 := alW (w.alloc zE0) (.cells #[.bool true, .string s, .int .i64 0] 126)
 have hs1 : ((w.alloc zE0).alloc (.cells #[.bool true, .string s, .int .i64 0] 126)).heap.size = w.heap.size + 2 := by simp
 rw [hs0] at hn1
 have hrd1 : IsRdr ((w.alloc zE0).alloc (.cells #[.bool true, .string s, .int .i64 0] 126)) (w.heap.size + 1) 0 s 0 := rdr_new hn1
 have hz1 : ((w.alloc zE0).alloc (.cells #[.bool true, .string s, .int .i64 0] 126)).heap[w.heap.size]? = some zE0 := (hb1.block _ (by omega)).trans h0
 have HLOW : Hid (Below w.heap.size w ((w.alloc zE0).alloc (.cells #[.bool true, .string s, .int .i64 0] 126))) := hid (hb0.trans (hb1.mono (by omega)))
 have HZ1 := hid hz1
 have HR1 := hid hrd1
 have HS0 := hid hs0
 have HS1 := hid hs1
 have HS := hid hs
 have HV := hid hv
 clear h0 hb0 hs0 hn1 hb1 hs1 hrd1 hz1 hs hv
 go_enter Tryz.func12, Tryz.ntmps12
 go_wp2_with fail
 refine (zuh s _).mono ?_
 rintro r w1 ⟨rfl, rfl⟩
 rw [HS0.out]
 generalize (w.alloc zE0).alloc (.cells #[.bool true, .string s, .int .i64 0] 126) = w1 at *
 go_wp2_with fail
 refine (EvN.out_no _ _).mono ?_
 rintro r w2 ⟨rfl, hn2, hb2⟩
 rw [HS1.out] at hn2
 have HR2 : Hid (RdS w s 0 w2) := hid (by
  have hl := zpf hn2
  exact ⟨(hb2.block _ (by have := HS1.out; omega)).trans HZ1.out, ycn HR1.out (hb2.block _ (by have := HS1.out; omega)), HLOW.out.trans (hb2.mono (by have := HS1.out; omega)), by omega⟩)
 have HEV := hid (zzd (okB s (w.heap.size + 1) (w.heap.size + 2) (by omega) HS.out) (fun k _ => ybh k) w2 0 (by have := HR2.out.sz; omega) ⟨HR2.out.rdr, Nat.zero_le _, hn2⟩)
 rw [HS1.out]
 clear hn2 hb2
 go_wp2_with fail
 refine HEV.out.mono ?_
 intro r w3 hr
 obtain ⟨e, v, y, rfl, ho, hrd, hcls⟩ := cls s _ _ _ _ _ hr
 have HR3 : Hid (RdS w s y w3) := hid (HR2.out.but ho hrd)
 have hz3 := heap_alloc_new w3 zE0
 have hb4 : Below w3.heap.size w3 ((w3.alloc zE0).setRow w3.heap.size (evL e).toArray) := below_setRow (alW w3 zE0) (Nat.le_refl _) _
 have HR4 : Hid (RdS w s y ((w3.alloc zE0).setRow w3.heap.size (evL e).toArray)) := hid (HR3.out.gr hb4)
 have hev4 : ((w3.alloc zE0).setRow w3.heap.size (evL e).toArray).heap[w3.heap.size]? = some (evO e) := setRow_heap _ _ _ _ _ _ hz3
 have HEV4 := hid hev4
 have HB4 := hid hb4
 clear hr ho hrd HEV hev4 hb4
 rcases hcls with ⟨f, c, rfl, hc0, hc22, hys, hf2, hfl, hD⟩ | ⟨rfl, hD⟩ | ⟨rfl, hys, g, a, c, he, hsh, hne, hge, hD⟩
 · have HF : Hid (IsFault ((w3.alloc zE0).setRow w3.heap.size (evL e).toArray) f 0 c ⟨#[]⟩ y) := hid (yco hfl (HB4.out.block f hfl.lt))
   have HC0 := hid hc0
   have HYS := hid hys
   have HDD := hid hD
   have HR := HR4
   have hc22' : c ≤ 23 := by omega
   clear hfl hf2 hc0 hys hD
   go_wp2_with (first | (refine wpList_store_row rfl 27 _ _ rfl w3.heap.size (evL e).toArray rfl rfl _ _ hz3 zpa rfl (zpb _) ?_) | fail)
   clear hz3
   generalize (w3.alloc zE0).setRow w3.heap.size (evL e).toArray = w4 at *
   have hc4 := HF.out.code
   have hu4 := HF.out.under
   have HIS := hid (yca f 0 c 90 (by omega) w4 hc4 hu4)
   clear hc4 hu4
   go_wp2_with fail
   refine HIS.out.mono ?_
   rintro r w5 ⟨rfl, rfl⟩
   have hb5 := alW w4 (.cells #[.iface 28 (.int .i64 c)] 40)
   have HR5 := hid (HR.out.gr hb5)
   have HF5 := hid (yco HF.out (hb5.block f HF.out.lt))
   clear hb5 HIS
   generalize w4.alloc (.cells #[.iface 28 (.int .i64 c)] 40) = w6 at *
   have HAT := hid (at_is (w.heap.size + 1) 0 s y w6 HR5.out.rdr)
   go_wp2_with fail
   refine HAT.out.mono ?_
   rintro r w7 ⟨rfl, rfl⟩
   have hb8 := alW w6 (topO y f)
   have HR8 := hid (HR5.out.gr hb8)
   have HF8 := hid (yco HF5.out (hb8.block f HF5.out.lt))
   have HG8 := hid (heap_alloc_new w6 (topO y f))
   have HL6 := hid HR5.out.sz
   have hz8 := HR8.out.res
   have hfne : f ≠ w.heap.size := ycz HF8.out hz8
   have HFN := hid hfne
   clear hb8 HAT hfne
   go_wp2_with (first | (refine wpList_store_row rfl 27 _ _ rfl w.heap.size (evL (EvA.kindV 0)).toArray rfl rfl _ _ hz8 zpa rfl (zpb _) ?_) | fail)
   refine bodyPost_ret (zyo rfl _ _ w.heap.size _ (evL (EvA.kindV 0)).toArray _ _ rfl (setRow_heap _ _ _ _ _ _ hz8) Tryz.underlying27 rfl zpa) rfl ?_
   have hset : ∀ j, j ≠ w.heap.size → ((w6.alloc (topO y f)).setRow w.heap.size (evL (EvA.kindV 0)).toArray).heap[j]? = (w6.alloc (topO y f)).heap[j]? := fun j hj => setRow_other _ _ j _ hj
   refine ⟨below_setRow HR8.out.low (Nat.le_refl _) _, .inr (.inr ?_)⟩
   rw [HDD.out]
   exact ⟨rfl, HC0.out, by omega, HYS.out, w6.heap.size, f, rfl, by have := HL6.out; omega, (hset _ (by have := HL6.out; omega)).trans HG8.out, yco HF8.out (hset f HFN.out)⟩
 · have HDD := hid hD
   have HR := HR4
   clear hD
   go_wp2_with (first | (refine wpList_store_row rfl 27 _ _ rfl w3.heap.size (evL e).toArray rfl rfl _ _ hz3 zpa rfl (zpb _) ?_) | fail)
   clear hz3
   generalize (w3.alloc zE0).setRow w3.heap.size (evL e).toArray = w4 at *
   have HIS := hid (ycy 90 w4)
   go_wp2_with fail
   refine HIS.out.mono ?_
   rintro r w5 ⟨rfl, rfl⟩
   have hb8 := alW w4 oneO
   have HR8 := hid (HR.out.gr hb8)
   have HG8 := hid (heap_alloc_new w4 oneO)
   have HL6 := hid HR.out.sz
   have hz8 := HR8.out.res
   clear hb8 HIS
   go_wp2_with (first | (refine wpList_store_row rfl 27 _ _ rfl w.heap.size (evL (EvA.kindV 0)).toArray rfl rfl _ _ hz8 zpa rfl (zpb _) ?_) | fail)
   refine bodyPost_ret (zyo rfl _ _ w.heap.size _ (evL (EvA.kindV 0)).toArray _ _ rfl (setRow_heap _ _ _ _ _ _ hz8) Tryz.underlying27 rfl zpa) rfl ?_
   refine ⟨below_setRow HR8.out.low (Nat.le_refl _) _, .inr (.inl ?_)⟩
   rw [HDD.out]
   exact ⟨rfl, rfl, rfl, w4.heap.size, rfl, by have := HL6.out; omega, (setRow_other _ _ _ _ (by have := HL6.out; omega)).trans HG8.out⟩
 · have HDD := hid hD
   have HYS := hid hys
   have HNE := hid hne
   have HSH := hid hsh
   have HE := hid he
   have HGE := hid hge
   have hw3 := HR3.out.sz
   have HNE4 : Hid (NeIn ((w3.alloc zE0).setRow w3.heap.size (evL e).toArray) a c g.needs) := hid (hne.gr HB4.out)
   clear hD hys hne hsh hge he
   go_wp2_with (first | (refine wpList_store_row rfl 27 _ _ rfl w3.heap.size (evL e).toArray rfl rfl _ _ hz3 zpa rfl (zpb _) ?_) | fail)
   clear hz3
   generalize (w3.alloc zE0).setRow w3.heap.size (evL e).toArray = w4 at *
   have HEN := hid (rend_is (w.heap.size + 1) 0 s y w4 HYS.out HR4.out.rdr)
   by_cases hlt : y < s.size
   · have hD2 : readD s = (EvA.kindV 0, false, y, 23) := by rw [HDD.out, if_pos hlt]
     have HD2 := hid hD2
     have hce : endC y s = 23 := by unfold endC; rw [if_pos hlt]
     rw [hce] at HEN
     clear hD2 hce
     go_wp2_with fail
     refine HEN.out.mono ?_
     rintro r w8 ⟨ev, rfl, hie, hrd8, hbt⟩
     rcases hie with ⟨h, -⟩ | ⟨-, f, rfl, hf2, hfl⟩
     · exact absurd h (by decide)
     have HR : Hid (RdS w s y w8) := hid (HR4.out.but (ycm hbt) hrd8)
     have HF := hid hfl
     have HC0 : Hid ((23 : Nat) ≠ 0) := hid (by decide)
     have hev8 := (hbt.block _ (zpf HEV4.out) (by omega)).trans HEV4.out
     obtain ⟨c, hc23⟩ : ∃ c : Nat, c = 23 := ⟨_, rfl⟩
     rw [← hc23] at HF HC0 HD2
     have hc22' : c ≤ 23 := by omega
     have hc90 : 20 ≤ c := by omega
     clear hc23 hf2 hfl hrd8 hbt
     go_wp2_with fail
     have hc4 := HF.out.code
     have hu4 := HF.out.under
     have HIS := hid (yca f 0 c 90 (by omega) w8 hc4 hu4)
     clear hc4 hu4
     go_wp2_with fail
     refine HIS.out.mono ?_
     rintro r w5 ⟨rfl, rfl⟩
     have hb5 := alW w8 (.cells #[.iface 28 (.int .i64 c)] 40)
     have HR5 := hid (HR.out.gr hb5)
     have HF5 := hid (yco HF.out (hb5.block f HF.out.lt))
     clear hb5 HIS
     generalize w8.alloc (.cells #[.iface 28 (.int .i64 c)] 40) = w6 at *
     have HAT := hid (at_is (w.heap.size + 1) 0 s y w6 HR5.out.rdr)
     go_wp2_with fail
     refine HAT.out.mono ?_
     rintro r w7 ⟨rfl, rfl⟩
     have hb8 := alW w6 (topO y f)
     have HR8 := hid (HR5.out.gr hb8)
     have HF8 := hid (yco HF5.out (hb8.block f HF5.out.lt))
     have HG8 := hid (heap_alloc_new w6 (topO y f))
     have HL6 := hid HR5.out.sz
     have hz8 := HR8.out.res
     have hfne : f ≠ w.heap.size := ycz HF8.out hz8
     have HFN := hid hfne
     clear hb8 HAT hfne
     go_wp2_with (first | (refine wpList_store_row rfl 27 _ _ rfl w.heap.size (evL (EvA.kindV 0)).toArray rfl rfl _ _ hz8 zpa rfl (zpb _) ?_) | fail)
     refine bodyPost_ret (zyo rfl _ _ w.heap.size _ (evL (EvA.kindV 0)).toArray _ _ rfl (setRow_heap _ _ _ _ _ _ hz8) Tryz.underlying27 rfl zpa) rfl ?_
     have hset : ∀ j, j ≠ w.heap.size → ((w6.alloc (topO y f)).setRow w.heap.size (evL (EvA.kindV 0)).toArray).heap[j]? = (w6.alloc (topO y f)).heap[j]? := fun j hj => setRow_other _ _ j _ hj
     refine ⟨below_setRow HR8.out.low (Nat.le_refl _) _, .inr (.inr ?_)⟩
     rw [HD2.out]
     exact ⟨rfl, HC0.out, by omega, HYS.out, w6.heap.size, f, rfl, by have := HL6.out; omega, (hset _ (by have := HL6.out; omega)).trans HG8.out, yco HF8.out (hset f HFN.out)⟩
   · have hD2 : readD s = if mayD g = false then (EvA.kindV 0, false, 0, 0) else (g, true, 0, 0) := by rw [HDD.out, if_neg hlt]
     have HD2 := hid hD2
     have hce : endC y s = 0 := by unfold endC; rw [if_neg hlt]
     rw [hce] at HEN
     clear hD2 hce
     go_wp2_with fail
     refine HEN.out.mono ?_
     rintro r w8 ⟨ev, rfl, hie, hrd8, hbt⟩
     rcases hie with ⟨-, rfl⟩ | ⟨h, -⟩
     case inr => exact absurd rfl h
     have HR8' : Hid (RdS w s y w8) := hid (HR4.out.but (ycm hbt) hrd8)
     have hev8 : w8.heap[w3.heap.size]? = some (evO e) := (hbt.block _ (zpf HEV4.out) (by omega)).trans HEV4.out
     have hne8 : NeIn w8 a c g.needs := zyu HNE4.out (fun p hl o hp => hbt.block p hl (by have := HGE.out _ hp; have := HR2.out.sz; simp only at *; omega))
     have HV8 := hid (HV.out.gr HR8'.out.low)
     have HMY := hid (pmay_any e w8 (by rw [HE.out]; exact sh_in HSH.out hne8) HV8.out)
     have hmd : mayD e = mayD g := by rw [HE.out]; rfl
     rw [hmd] at HMY
     have HEV8 := hid hev8
     have HNE8 := hid hne8
     clear hrd8 hbt hmd hne8
     by_cases hmy : mayD g = false
     · have hD3 : readD s = (EvA.kindV 0, false, 0, 0) := by rw [HD2.out, if_pos hmy]
       have HDD := hid hD3
       rw [hmy] at HMY
       unfold mayC at HMY
       clear hD3
       obtain ⟨p0, p1, p2, p3, p4, p5, p6, p7, p8, p9⟩ := zos hev8
       go_wp2_with fail
       refine HMY.out.mono ?_
       rintro r w9 ⟨rfl, hb9⟩
       have HR : Hid (RdS w s y w9) := hid (HR8'.out.gr hb9)
       clear hb9 hev8 p0 p1 p2 p3 p4 p5 p6 p7 p8 p9
       go_wp2_with fail
       have HIS := hid (ycy 90 w9)
       go_wp2_with fail
       refine HIS.out.mono ?_
       rintro r w5 ⟨rfl, rfl⟩
       have hb8 := alW w9 oneO
       have HR8 := hid (HR.out.gr hb8)
       have HG8 := hid (heap_alloc_new w9 oneO)
       have HL6 := hid HR.out.sz
       have hz8 := HR8.out.res
       clear hb8 HIS
       go_wp2_with (first | (refine wpList_store_row rfl 27 _ _ rfl w.heap.size (evL (EvA.kindV 0)).toArray rfl rfl _ _ hz8 zpa rfl (zpb _) ?_) | fail)
       refine bodyPost_ret (zyo rfl _ _ w.heap.size _ (evL (EvA.kindV 0)).toArray _ _ rfl (setRow_heap _ _ _ _ _ _ hz8) Tryz.underlying27 rfl zpa) rfl ?_
       refine ⟨below_setRow HR8.out.low (Nat.le_refl _) _, .inr (.inl ?_)⟩
       rw [HDD.out]
       exact ⟨rfl, rfl, rfl, w9.heap.size, rfl, by have := HL6.out; omega, (setRow_other _ _ _ _ (by have := HL6.out; omega)).trans HG8.out⟩
     · have hmy' : mayD g = true := by simpa using hmy
       have hD3 : readD s = (g, true, 0, 0) := by rw [HD2.out, if_neg hmy]
       have HDD := hid hD3
       rw [hmy'] at HMY
       unfold mayC at HMY
       clear hD3
       obtain ⟨p0, p1, p2, p3, p4, p5, p6, p7, p8, p9⟩ := zos hev8
       go_wp2_with fail
       refine HMY.out.mono ?_
       rintro r w9 ⟨rfl, hb9⟩
       have HR : Hid (RdS w s y w9) := hid (HR8'.out.gr hb9)
       have hev9 := (hb9.block _ (zpf HEV8.out)).trans HEV8.out
       have HNE9 := hid (HNE8.out.gr hb9)
       have hz9 := HR.out.res
       clear hb9 hev8 p0 p1 p2 p3 p4 p5 p6 p7 p8 p9
       obtain ⟨p0, p1, p2, p3, p4, p5, p6, p7, p8, p9⟩ := zos hev9
       go_wp2_with (first | (refine wpList_store_row rfl 27 _ _ rfl w.heap.size (evL e).toArray rfl rfl _ _ hz9 zpa rfl (zpb _) ?_) | fail)
       refine bodyPost_ret (zyo rfl _ _ w.heap.size _ (evL e).toArray _ _ rfl (setRow_heap _ _ _ _ _ _ hz9) Tryz.underlying27 rfl zpa) rfl ?_
       refine ⟨below_setRow HR.out.low (Nat.le_refl _) _, .inl ?_⟩
       rw [HDD.out]
       exact ⟨rfl, a, c, by rw [HE.out]; rfl, zyu HNE9.out (fun p hl o hp => setRow_other _ _ _ _ (by have := HGE.out _ hp; have := HR2.out.sz; simp only at *; omega))⟩
end EvS
end
section
namespace CodeM
theorem ydd : ∀ (l : List UInt8) (n x v m : Nat), ur n x l = .inr (v, m) → ∃ y, v = x + y * 128 ^ n ∧ n ≤ m ∧ uintB y = l.take (m - n) ∧ (n = 0 ∨ 1 ≤ y)
 | [], n, x, v, m, h => by rw [ur] at h; split at h <;> cases h
 | c :: r, n, x, v, m, h => by
   have hc := c.toNat_lt
   rw [ur] at h
   split at h
   · cases h
   · split at h
     · cases h
     · split at h
       · rename_i hlt
         split at h
         · cases h
         · cases h
           refine ⟨c.toNat, by rw [Nat.mod_eq_of_lt hlt], by omega, ?_, by omega⟩
           rw [zmh _ (by omega), show n + 1 - n = 1 by omega]
           simp
       · obtain ⟨y, h1, h2, h3, h4⟩ := ydd r _ _ _ _ h
         have hy : 1 ≤ y := by omega
         refine ⟨c.toNat % 128 + 128 * y, ?_, by omega, ?_, by omega⟩
         · rw [h1, Nat.pow_succ, Nat.add_mul, Nat.mul_comm 128 y, Nat.mul_assoc, Nat.mul_comm 128 (128 ^ n), Nat.add_assoc]
         · rw [zmg _ (by omega), show (c.toNat % 128 + 128 * y) % 128 + 128 = c.toNat by omega, show (c.toNat % 128 + 128 * y) / 128 = y by omega, h3, show m - n = (m - (n + 1)) + 1 by omega]
           simp
theorem yde {most k v q : Nat} {s : ByteArray} (h : uRes most k (s.data.toList.drop k) = (v, 0, 0, q)) : k ≤ q ∧ v ≤ most ∧ uintB v = (s.data.toList.drop k).take (q - k) := by
 unfold uRes at h
 cases hu : ur 0 0 (s.data.toList.drop k) with
 | inl e =>
   rw [hu] at h
   simp only [Prod.mk.injEq] at h
   obtain ⟨-, he, hk, -⟩ := h
   exfalso
   have hl : ∀ (l : List UInt8) (n x e : Nat), ur n x l = .inl e → e ≠ 0 := by
    intro l
    induction l with
    | nil => intro n x e h; rw [ur] at h; split at h <;> (cases h; decide)
    | cons c r ih =>
      intro n x e h
      rw [ur] at h
      split at h
      · cases h; decide
      · split at h
        · cases h; decide
        · split at h
          · split at h
            · cases h; decide
            · cases h
          · exact ih _ _ _ h
   exact hl _ _ _ _ hu he
 | inr p =>
   obtain ⟨v', m⟩ := p
   rw [hu] at h
   simp only at h
   split at h
   · simp at h
   · rename_i hm
     simp only [Prod.mk.injEq] at h
     obtain ⟨rfl, -, -, rfl⟩ := h
     obtain ⟨y, h1, h2, h3, h4⟩ := ydd _ _ _ _ _ hu
     refine ⟨by omega, by omega, ?_⟩
     rw [show v' = y by simpa using h1, h3]
     congr 1; omega
theorem ydf (l : List UInt8) (k a q : Nat) (h1 : k ≤ a) (h2 : a ≤ q) : (l.drop k).take (a - k) ++ (l.drop a).take (q - a) = (l.drop k).take (q - k) := by
 have e : l.drop a = (l.drop k).drop (a - k) := by rw [List.drop_drop]; congr 1; omega
 rw [e, show q - k = (a - k) + (q - a) by omega, List.take_add]
theorem ydg {most k a b q : Nat} {s : ByteArray} (hk : k ≤ s.size) (h : tRes most k s = (a, b, 0, 0, q)) : k ≤ q ∧ q ≤ s.size ∧ textB (s.extract a b).data.toList = (s.data.toList.drop k).take (q - k) := by
 rcases zmv most k s hk with ⟨e, he, he2, hu⟩ | ⟨v, d, hv, hd, hu⟩
 · rw [zmw hu he] at h
   simp only [Prod.mk.injEq] at h
   exact absurd h.2.2.1 he
 · obtain ⟨h1, h2, h3⟩ := yde hu
   by_cases hq : s.size - (k + d) < v
   · rw [zmx hu hq] at h
     simp at h
   · rw [zmy hu hq] at h
     simp only [Prod.mk.injEq] at h
     obtain ⟨rfl, rfl, -, -, rfl⟩ := h
     refine ⟨by omega, by omega, ?_⟩
     have hd : (s.extract (k + d) (k + d + v)).data.toList = (s.data.toList.drop (k + d)).take v := by rw [Lib.extract_data]; congr 1; omega
     have hl : ((s.data.toList.drop (k + d)).take v).length = v := by
      have e : s.data.toList.length = s.size := by simp
      rw [List.length_take, List.length_drop, e]; omega
     unfold textB
     rw [hd, hl, h3, show v = k + d + v - (k + d) by omega]
     have := ydf s.data.toList k (k + d) (k + d + v) (by omega) (by omega)
     simpa using this
theorem ydh (y k x : Nat) (r : List UInt8) (h : y * 128 ^ k + x < 18446744073709551616) (hx : x < 128 ^ k) (h0 : k = 0 ∨ 1 ≤ y) : ur k x (uintB y ++ r) = .inr (x + y * 128 ^ k, k + (uintB y).length) := by
 have hk : k ≤ 9 := by
  rcases h0 with h0 | h0
  · omega
  · exact zmj k y (y * 128 ^ k) (Nat.le_refl _) h0 (by omega)
 have h9 : k = 9 → y ≤ 1 := by
  intro e
  subst e
  have : (128 : Nat) ^ 9 = 9223372036854775808 := by decide
  omega
 induction y using Nat.strongRecOn generalizing k x with
 | _ y ih =>
   by_cases hb : 127 < y
   · rw [zmg y hb, List.cons_append, ur, if_neg (by omega), UInt8.toNat_ofNat_of_lt' (show y % 128 + 128 < 256 by omega), if_neg (by omega), if_neg (by omega)]
     have hk9 : k ≠ 9 := fun e => by have := h9 e; omega
     have e1 : (y % 128 + 128) % 128 = y % 128 := by omega
     have e2 : y = y % 128 + 128 * (y / 128) := by omega
     have e3 : y * 128 ^ k = y % 128 * 128 ^ k + y / 128 * 128 ^ (k + 1) := by
      rw [Nat.pow_succ, Nat.mul_comm (128 ^ k) 128, ← Nat.mul_assoc, Nat.mul_comm (y / 128) 128, ← Nat.add_mul, ← e2]
     have hx' : x + y % 128 * 128 ^ k < 128 ^ (k + 1) := zmq x k _ hx (Nat.mod_lt _ (by decide))
     rw [e1, ih (y / 128) (by omega) (k + 1) (x + y % 128 * 128 ^ k) (by omega) hx' (Or.inr (by omega)) (by omega) (fun e => by
      have hy8 : k = 8 := by omega
      subst hy8
      have : (128 : Nat) ^ 8 = 72057594037927936 := by decide
      omega)]
     rw [List.length_cons]
     congr 2
     · omega
     · omega
   · rw [zmh y hb, List.singleton_append, ur, if_neg (by omega), UInt8.toNat_ofNat_of_lt' (show y < 256 by omega), if_neg (by omega), if_pos (by omega), if_neg (by omega), Nat.mod_eq_of_lt (by omega)]
     rfl
theorem ydi {most k v : Nat} {s : ByteArray} {r : List UInt8} (h : s.data.toList.drop k = uintB v ++ r) (hv : v < 18446744073709551616) (hm : v ≤ most) : uRes most k (s.data.toList.drop k) = (v, 0, 0, k + (uintB v).length) := by
 have := ydh v 0 0 r (by simpa using hv) (by decide) (Or.inl rfl)
 rw [h, uRes, this]
 simp
 omega
theorem ydj {l a r : List UInt8} {k : Nat} (h : l.drop k = a ++ r) : l.drop (k + a.length) = r := by
 rw [← List.drop_drop, h, List.drop_left]
theorem ydk {most k : Nat} {s t : ByteArray} {r : List UInt8} (hk : k ≤ s.size) (h : s.data.toList.drop k = textB t.data.toList ++ r) (hv : t.size < 18446744073709551616) (hm : t.size ≤ most) :
 tRes most k s = (k + (uintB t.size).length, k + (textB t.data.toList).length, 0, 0, k + (textB t.data.toList).length) ∧ s.extract (k + (uintB t.size).length) (k + (textB t.data.toList).length) = t ∧ k + (textB t.data.toList).length ≤ s.size := by
 have e : t.data.toList.length = t.size := by simp
 have es : s.data.toList.length = s.size := by simp
 have e2 : (textB t.data.toList).length = (uintB t.size).length + t.size := by rw [textB, List.length_append, e]
 have h1 : s.data.toList.drop k = uintB t.size ++ (t.data.toList ++ r) := by rw [h, textB, e, List.append_assoc]
 have hu := ydi h1 hv hm
 have h2 := ydj h1
 have hl := congrArg List.length h
 rw [List.length_drop, List.length_append, es] at hl
 rw [e2] at hl ⊢
 refine ⟨?_, ?_, by omega⟩
 · rw [zmy hu (by omega), Nat.add_assoc]
 · apply ByteArray.ext
   apply Array.toList_inj.1
   rw [Lib.extract_data, h2, show k + ((uintB t.size).length + t.size) - (k + (uintB t.size).length) = t.size by omega, ← e, List.take_left]
theorem ydl {k x : Nat} {s : ByteArray} {r : List UInt8} (h : s.data.toList.drop k = wordB x 8 ++ r) (hx : x < 18446744073709551616) : wRes k s = (x, 0, 0, k + 8) := by
 have es : s.data.toList.length = s.size := by simp
 have hl := congrArg List.length h
 rw [List.length_drop, List.length_append, es, zml] at hl
 have e8 : (wordB x 8 ++ r).take 8 = wordB x 8 := by
  rw [List.take_append_of_le_length (by rw [zml]; omega), List.take_of_length_le (by rw [zml]; omega)]
 rw [zuv (by omega), h, e8, zut]
 congr 1
 omega
end CodeM
end
end Go.Proofs.YtfbegbmjmhnplaaGreatDoor
