/-
  What the proof of EvBoth stands on, part 32.
-/
import Derived.Test.YtfbegbmjmhnplaaGreatDoorT31
set_option linter.unusedSimpArgs false
set_option linter.unusedVariables false
set_option maxHeartbeats 16000000
namespace Go.Proofs.YtfbegbmjmhnplaaGreatDoor
open Go.Lib (hid)
section
open Go.RowKit Go.Sort
namespace EvL
open StrC EvA EvF EvS EvC CodeM CodeC
open VerC (Vw)
def readF (s : B) : EvG × Nat × Nat × B := foldF lineR (zrk (zzv (fstB 32 s))) (rstB 32 s) (zG (zzv (fstB 32 s)))
def okS (s : B) : Bool := decide (zrk (zzv (fstB 32 s)) ≠ []) && (decide ((readF s).2.1 = 0) && (mayD (readF s).1 && decide (lineM (kw (readF s).1.k) (readF s).1 (zrk (readF s).1.k) = s)))
def ReadTE (s : B) (w : World) (r : Ending) (w' : World) : Prop := Below w.heap.size w w' ∧
 ((okS s = true ∧ Bnd (readF s).1 ∧ ∃ a c, r = .returned (.tuple #[evV (atE (readF s).1 a c), .int .i64 0]) ∧ NeIn w' a c (readF s).1.needs) ∨ (okS s = false ∧ r = .returned (.tuple #[evV (zG 0), .int .i64 90])))
theorem ych (s : B) (w : World) : Calls Tryz.prog 15 #[.string (str s)] w fun e w' => e = .returned (.agg (rdV (rdL (w.heap.size + 1))).toArray) ∧ w'.heap[w.heap.size + 1]? = some (lnO s) ∧ Below w.heap.size w w' ∧ w'.heap.size = w.heap.size + 2 := by
 obtain ⟨h0, h1, hb, hs⟩ := EvN.ycg w EvN.rdgZ (lnO s)
 have hinf := EvN.ycf
 have hone : ((rdV (rdL (w.heap.size + 1))).toArray.all (·.oneCell')) = true := by simp [Value.oneCell']
 have H1 := hid h1
 have HB := hid hb
 have HS := hid hs
 clear h1 hb hs
 go_enter Tryz.func15, Tryz.ntmps15
 go_wp2_with (first | (refine wpList_store_row rfl 49 _ _ rfl w.heap.size (rdV (rdL (w.heap.size + 1))).toArray rfl rfl _ _ h0 hinf rfl hone ?_) | fail)
 refine bodyPost_ret (zsh rfl _ _ w.heap.size _ (rdV (rdL (w.heap.size + 1))).toArray _ _ rfl (setRow_heap _ _ _ _ _ _ h0) Tryz.underlying49 rfl hinf) rfl ?_
 exact ⟨rfl, (setRow_other _ _ _ _ (by omega)).trans H1.out, below_setRow HB.out (Nat.le_refl _) _, by simp⟩
theorem yci (b : Nat) : ∀ x y e, Bnd e → Bnd (oneF lineR x y e).1 := fun x y e h => zvt (okL b) x y h
theorem ycj (s : B) : Bnd (readF s).1 := zyp (yci 0) _ _ _ (bnd_z (by have := yag (fstB 32 s); omega))
theorem yck {w : World} {g : EvG} {a : Option Addr} {c : Nat} (hb : Bnd g) (hn : NeIn w a c g.needs) : EvIn w (atE g a c) := ⟨hb.k, hb.sum, hb.n, hb.size, hb.who, hb.name, hb.ver, hb.holder, hb.note, hn⟩
set_option maxRecDepth 100000 in
theorem ycl (s : B) (w : World) (hs : s.length ≤ 140737488351232) (hv : Vw w) (hw : ∀ k, k < 11 → w.cell? ⟨0, k, none⟩ = some (.string (str (kw k)))) :
 Calls Tryz.prog 6 #[.string (str s)] w (ReadTE s w) := by
 have h0 := heap_alloc_new w zE0
 have hb0 := alW w zE0
 have hs0 : (w.alloc zE0).heap.size = w.heap.size + 1 := by simp
 have HOL := hid (ych s (w.alloc zE0))
 have HZ := hid h0
 have HB0 := hid hb0
 have HS0 := hid hs0
 have HV := hid hv
 have HLV : Hid (∀ W, Below w.heap.size w W → LnV w.heap.size W) := hid (fun W hb => by
  obtain ⟨v, h1, h2⟩ := hv.syn
  obtain ⟨u, h3, h4⟩ := hv.ran
  have l1 := World.block_lt_of_cell? _ _ h1
  have l3 := World.block_lt_of_cell? _ _ h3
  have l5 := World.block_lt_of_cell? _ _ (hw 0 (by decide))
  exact ⟨⟨v, (hb.cell l1).trans h1, h2⟩, ⟨u, (hb.cell l3).trans h3, h4⟩, fun k hk => (hb.cell (World.block_lt_of_cell? _ _ (hw k hk))).trans (hw k hk), l1, l3, l5⟩)
 have HWD : Hid (∀ W, Below w.heap.size w W → ∀ k, k < 11 → W.cell? ⟨0, k, none⟩ = some (.string (str (kw k)))) := hid (fun W hb k hk => (hb.cell (World.block_lt_of_cell? _ _ (hw k hk))).trans (hw k hk))
 have HSL := hid hs
 clear h0 hb0 hs0 hv hw hs
 go_enter Tryz.func6, Tryz.ntmps6
 go_wp2_with fail
 refine HOL.out.mono ?_
 rintro e w1 ⟨rfl, hl1, hb1, hsz1⟩
 rw [HS0.out] at hl1 hsz1 ⊢
 have HB1 : Hid (Below w.heap.size w w1) := hid (HB0.out.trans (hb1.mono HB0.out.size))
 have HZ1 := hid ((hb1.block _ (by have := HS0.out; omega)).trans HZ.out)
 have HST : Hid (StL (w.heap.size + 1 + 1) w1 s) := hid ⟨hl1, HSL.out, by
  have h := HLV.out w1 HB1.out
  exact ⟨h.syn, h.ran, h.words, by have := h.low; omega⟩⟩
 have HEV := hid (zzd (okL (w.heap.size + 1 + 1)) (fun k _ => ybh k) w1 s (by omega) HST.out)
 have HSZ1 := hid hsz1
 clear hl1 hb1 hsz1
 go_wp2_with fail
 refine HEV.out.mono ?_
 rintro r w2 ⟨e, v, rfl, ho, hin, y, -, hor⟩
 have hor2 : (∃ t u, v = .iface t u) ∧ okS s = false ∨ v = .nilIface ∧ zrk (zzv (fstB 32 s)) ≠ [] ∧ (readF s).2.1 = 0 ∧ ∃ a c, e = atE (readF s).1 a c ∧ NeIn w2 a c (readF s).1.needs ∧ ∀ g, a = some g → w1.heap.size ≤ g.block := by
  rcases hor with ⟨h1, -⟩ | ⟨-, h2, rfl, -⟩ | ⟨-, h2, h3, h4, -⟩ | ⟨-, h2, rfl, h4, -, a, c, rfl, h5, h6⟩
  · exact absurd rfl h1
  · refine .inl ⟨⟨_, _, rfl⟩, ?_⟩
    have h2' : zrk (zzv (fstB 32 s)) = [] := h2
    unfold okS
    rw [decide_eq_false (by simpa using h2')]
    rfl
  · refine .inl ⟨h3, ?_⟩
    have h4' : (readF s).2.1 ≠ 0 := h4
    unfold okS
    rw [decide_eq_false h4', Bool.false_and, Bool.and_false]
  · exact .inr ⟨rfl, h2, h4, a, c, rfl, h5, h6⟩
 have HB2 : Hid (Below w.heap.size w w2) := hid ⟨ho.os.trans HB1.out.os, ho.tape.trans HB1.out.tape, ho.output.trans HB1.out.output, Nat.le_trans HB1.out.size ho.size, fun k hk => (ho.block k (Nat.lt_of_lt_of_le hk HB1.out.size) (by omega)).trans (HB1.out.block k hk)⟩
 have HZ2 := hid ((ho.block _ (zpf HZ1.out) (by omega)).trans HZ1.out)
 have hz3 := heap_alloc_new w2 zE0
 have hb3 : Below w2.heap.size w2 ((w2.alloc zE0).setRow w2.heap.size (evL e).toArray) := below_setRow (alW w2 zE0) (Nat.le_refl _) _
 have hev3 : ((w2.alloc zE0).setRow w2.heap.size (evL e).toArray).heap[w2.heap.size]? = some (evO e) := setRow_heap _ _ _ _ _ _ hz3
 have HB3 := hid (HB2.out.trans (hb3.mono HB2.out.size))
 have HZ3 := hid ((hb3.block _ (zpf HZ2.out)).trans HZ2.out)
 have HEV3 := hid hev3
 have HPT := hid (ybu e _ (hin.gr hb3) (HV.out.gr HB3.out) (HWD.out _ HB3.out))
 obtain ⟨T0, hT0⟩ : ∃ T0, T0 = (if mayD e then lineM (kw e.k) e (zrk e.k) else []) := ⟨_, rfl⟩
 obtain ⟨c0, hc0⟩ : ∃ c0, c0 = mayC (mayD e) := ⟨_, rfl⟩
 rw [← hT0, ← hc0] at HPT
 have HT0 := hid hT0
 have HC0 := hid hc0
 clear hT0 hc0
 have HNE3 : Hid (∀ a c L, NeIn w2 a c L → NeIn ((w2.alloc zE0).setRow w2.heap.size (evL e).toArray) a c L) := hid (fun a c L h => h.gr hb3)
 have HLT2 : Hid (w.heap.size < w2.heap.size) := hid (zpf HZ2.out)
 clear HEV ho hin hor hb3 hev3
 go_wp2_with (first | (refine wpList_store_row rfl 27 _ _ rfl w2.heap.size (evL e).toArray rfl rfl _ _ hz3 zpa rfl (zpb _) ?_; have hev3 := HEV3.out; clear hz3) | (refine wpList_load_row rfl 27 _ rfl w2.heap.size rfl _ _ _ _ hev3 Tryz.underlying27 rfl zpa ?_) | fail)
 generalize (w2.alloc zE0).setRow w2.heap.size (evL e).toArray = w3 at *
 have hev3 := HEV3.out
 refine HPT.out.mono ?_
 rintro r w4 ⟨rfl, hb4⟩
 have HB4 := hid (HB3.out.trans (hb4.mono HB3.out.size))
 have hz4 := (hb4.block _ (zpf HZ3.out)).trans HZ3.out
 have hev4 := (hb4.block _ (zpf hev3)).trans hev3
 have HNE4 : Hid (∀ a c L, NeIn w2 a c L → NeIn w4 a c L) := hid (fun a c L h => (HNE3.out a c L h).gr hb4)
 clear hb4 hev3 HPT
 rcases hor2 with ⟨⟨t, u, rfl⟩, hno⟩ | ⟨rfl, hf, h0, a, c, rfl, hne, hge⟩
 · have HNO := hid hno
   clear hno
   go_wp2_with (first | (refine wpList_store_row rfl 27 _ _ rfl w.heap.size (evL (zG 0)).toArray rfl rfl _ _ hz4 zpa rfl (zpb _) ?_) | fail)
   refine bodyPost_ret (EvS.zyo rfl _ _ w.heap.size _ (evL (zG 0)).toArray _ _ rfl (setRow_heap _ _ _ _ _ _ hz4) Tryz.underlying27 rfl zpa) rfl ?_
   exact ⟨below_setRow HB4.out (Nat.le_refl _) _, .inr ⟨HNO.out, rfl⟩⟩
 · have HNEW := hid (HNE4.out a c _ hne)
   have hm0 : mayD (atE (readF s).1 a c) = mayD (readF s).1 := rfl
   have hl0 : lineM (kw (atE (readF s).1 a c).k) (atE (readF s).1 a c) (zrk (atE (readF s).1 a c).k) = lineM (kw (readF s).1.k) (readF s).1 (zrk (readF s).1.k) := rfl
   have HOK : Hid (okS s = (mayD (readF s).1 && decide (lineM (kw (readF s).1.k) (readF s).1 (zrk (readF s).1.k) = s))) := hid (by
    unfold okS
    rw [decide_eq_true hf, decide_eq_true h0, Bool.true_and, Bool.true_and])
   have HTT : Hid (T0 = if mayD (readF s).1 then lineM (kw (readF s).1.k) (readF s).1 (zrk (readF s).1.k) else []) := hid (by rw [HT0.out, hm0, hl0])
   have HCC : Hid (c0 = mayC (mayD (readF s).1)) := hid (by rw [HC0.out, hm0])
   have HBN := hid (ycj s)
   have HGE := hid hge
   clear hf h0 hne hm0 hl0 HT0 HC0 hge
   generalize hG : (readF s).1 = G at *
   have HG := hid hG
   clear hG
   generalize lineM (kw G.k) G (zrk G.k) = T at *
   generalize mayD G = m at *
   have HKE : Hid (NeIn (w4.setRow w.heap.size (evL (atE G a c)).toArray) a c G.needs) := hid (zoz HNEW.out (fun g o hg => by
    have h1 := HGE.out _ hg
    simp only at h1
    have := HSZ1.out
    exact setRow_other _ _ _ _ (by omega)))
   cases m with
   | false =>
     have HOK2 : Hid (okS s = false) := hid (by rw [HOK.out, Bool.false_and])
     obtain rfl : c0 = 90 := HCC.out
     clear HOK HCC HTT
     go_wp2_with (first | (refine wpList_store_row rfl 27 _ _ rfl w.heap.size (evL (zG 0)).toArray rfl rfl _ _ hz4 zpa rfl (zpb _) ?_) | fail)
     refine bodyPost_ret (EvS.zyo rfl _ _ w.heap.size _ (evL (zG 0)).toArray _ _ rfl (setRow_heap _ _ _ _ _ _ hz4) Tryz.underlying27 rfl zpa) rfl ?_
     exact ⟨below_setRow HB4.out (Nat.le_refl _) _, .inr ⟨HOK2.out, rfl⟩⟩
   | true =>
     obtain rfl : c0 = 0 := HCC.out
     obtain rfl : T0 = T := HTT.out
     clear HCC HTT
     by_cases hT : T0 = s
     · have k1 : ((str T0).toList != (str s).toList) = false := by rw [zbs]; exact decide_eq_false (by simpa using hT)
       have k2 : ((str T0).toList == (str s).toList) = true := by rw [zbr]; exact decide_eq_true hT
       have k3 : (T0 == s) = true := by simpa using hT
       have k4 : (T0 != s) = false := by simpa using hT
       have HOK2 : Hid (okS s = true) := hid (by rw [HOK.out, Bool.true_and, decide_eq_true hT])
       clear HOK hT
       go_wp2_with (first | (refine wpList_load_row rfl 27 _ rfl w2.heap.size rfl _ _ _ _ hev4 Tryz.underlying27 rfl zpa ?_) | (refine wpList_store_row rfl 27 _ _ rfl w.heap.size (evL (atE G a c)).toArray rfl rfl _ _ hz4 zpa rfl (zpb _) ?_) | fail)
       refine bodyPost_ret (EvS.zyo rfl _ _ w.heap.size _ (evL (atE G a c)).toArray _ _ rfl (setRow_heap _ _ _ _ _ _ hz4) Tryz.underlying27 rfl zpa) rfl ?_
       unfold ReadTE
       rw [HG.out]
       exact ⟨below_setRow HB4.out (Nat.le_refl _) _, .inl ⟨HOK2.out, HBN.out, a, c, rfl, HKE.out⟩⟩
     · have k1 : ((str T0).toList != (str s).toList) = true := by rw [zbs]; exact decide_eq_true hT
       have k2 : ((str T0).toList == (str s).toList) = false := by rw [zbr]; exact decide_eq_false hT
       have k3 : (T0 == s) = false := by simpa using hT
       have k4 : (T0 != s) = true := by simpa using hT
       have HOK2 : Hid (okS s = false) := hid (by rw [HOK.out, Bool.true_and, decide_eq_false hT])
       clear HOK hT
       go_wp2_with (first | (refine wpList_store_row rfl 27 _ _ rfl w.heap.size (evL (zG 0)).toArray rfl rfl _ _ hz4 zpa rfl (zpb _) ?_) | fail)
       refine bodyPost_ret (EvS.zyo rfl _ _ w.heap.size _ (evL (zG 0)).toArray _ _ rfl (setRow_heap _ _ _ _ _ _ hz4) Tryz.underlying27 rfl zpa) rfl ?_
       exact ⟨below_setRow HB4.out (Nat.le_refl _) _, .inr ⟨HOK2.out, rfl⟩⟩
end EvL
end
section
open Go.RowKit Go.Sort
namespace EvS
open StrC EvF EvC EvA TextR CodeM CodeC ErrC
def StB (s : ByteArray) (b n : Nat) (W : World) (k : Nat) : Prop := IsRdr W b 0 s k ∧ k ≤ s.size ∧ W.heap[n]? = some (.cells #[ptS b] 79)
def IsB (W0 W : World) (v : Value) (c a : Nat) : Prop := IsErr W0 W v c (a : Int)
theorem ycm {b : Nat} {w w' : World} (h : But b w w') : Oth b w w' := ⟨h.os, h.tape, h.output, h.size, h.block⟩
theorem ycn {W W' : World} {b k : Nat} {s : ByteArray} (h : IsRdr W b 0 s k) (hb : W'.heap[b]? = W.heap[b]?) : IsRdr W' b 0 s k :=
 ⟨(World.cell?_of_block (a := ⟨b, 0, none⟩) hb).trans h.made, (World.cell?_of_block (a := ⟨b, 0 + 1, none⟩) hb).trans h.text, (World.cell?_of_block (a := ⟨b, 0 + 2, none⟩) hb).trans h.at_, (World.frozen?_of_block (a := ⟨b, 0 + 2, none⟩) hb).trans h.free⟩
theorem yco {W W' : World} {f : Nat} {c a : Int} {t : ByteArray} (h : IsFault W f 0 c t a) (hb : W'.heap[f]? = W.heap[f]?) : IsFault W' f 0 c t a :=
 ⟨(World.cell?_of_block (a := ⟨f, 0, none⟩) hb).trans h.code, (World.cell?_of_block (a := ⟨f, 0 + 1, none⟩) hb).trans h.what, (World.cell?_of_block (a := ⟨f, 0 + 2, none⟩) hb).trans h.at_, (World.cell?_of_block (a := ⟨f, 0 + 3, none⟩) hb).trans h.under⟩
theorem srcB (s : ByteArray) (b n : Nat) (hb : b < n) : Src b (n + 1) (StB s b n) IsB where
 lt := by omega
 stay := fun ⟨h1, h2, h3⟩ hw => ⟨ycn h1 (hw b (by omega)), h2, (hw n (by omega)).trans h3⟩
 keep := fun h hs hw => by
  rcases h with h | ⟨h1, f, h2, h3, h4⟩
  · exact .inl h
  · exact .inr ⟨h1, f, h2, h3, yco h4 (hw f h3 h4.lt)⟩
 up := fun h hs => by
  rcases h with h | ⟨h1, f, h2, h3, h4⟩
  · exact .inl h
  · exact .inr ⟨h1, f, h2, Nat.le_trans hs h3, h4⟩
 none_ := fun h => by
  rcases h with h | ⟨h1, -⟩
  · exact h.2
  · exact absurd rfl h1
 nil_ := .inl ⟨rfl, rfl⟩
 some_ := fun hc h => by
  rcases h with h | ⟨h1, f, h2, -⟩
  · exact absurd h.1 hc
  · exact ⟨_, _, h2⟩
def textB (s : ByteArray) (k : Nat) : B × Nat × Nat × Nat := (cutB s (tRes 65536 k s).1 (tRes 65536 k s).2.1, (tRes 65536 k s).2.2.1, k, (tRes 65536 k s).2.2.2.2)
def rdB (s : ByteArray) : RdF Nat where
 kind := fun k => ((bRes k s).1, (bRes k s).2.1, k, (bRes k s).2.2)
 text := textB s
 span := textB s
 note := textB s
 sum := fun k => ((wRes k s).1, (wRes k s).2.1, k, (wRes k s).2.2.2)
 num := fun m k => ((uRes m k (s.data.toList.drop k)).1, (uRes m k (s.data.toList.drop k)).2.1, k, (uRes m k (s.data.toList.drop k)).2.2.2)
abbrev rdQ (n b : Nat) : RdFn := { fk := 79, bk := #[], ck := #[ptS n], ft := 81, bt := #[], ct := #[ptS n], fs := 81, bs := #[], cs := #[ptS n], fo := 81, bo := #[], co := #[ptS n], fu := 83, bu := #[ptS b], cu := #[], fn := 84, bn := #[ptS b], cn := #[] }
theorem b_in {k : Nat} {s : ByteArray} (hk : k ≤ s.size) : (bRes k s).2.2 ≤ s.size := by
 unfold bRes
 split
 · simp only; omega
 · exact hk
theorem kindB_any (s : ByteArray) (b n : Nat) (hb : b < n) (hs : s.size ≤ 4611686018427387904) : Part (fun n : Nat => .int .u8 n) b (n + 1) (StB s b n) IsB 79 #[ptS n] (rdB s).kind := by
 intro W k hL hst
 obtain ⟨h1, h2, h3⟩ := hst
 have c0 := cell1 h3
 have HB := hid (zvb b 0 s k W h2 hs h1)
 have HN := hid h3
 have HK := hid h2
 have HLN := hid (zpf h3)
 clear h1 h2 h3
 go_enter Tryz.func79, Tryz.ntmps79
 go_wp2_with fail
 refine HB.out.mono ?_
 rintro e w2 ⟨ev, rfl, hie, hr2, hbt⟩
 have HI := hid hie
 have HR := hid hr2
 have HBT := hid hbt
 clear hie hr2 hbt c0
 go_wp2_with fail
 go_ret2
 exact ⟨ev, rfl, HI.out, ⟨HR.out, b_in HK.out, (HBT.out.block n HLN.out (by omega)).trans HN.out⟩, ycm HBT.out⟩
theorem ycp (s : ByteArray) (b n : Nat) (hb : b < n) (hs : s.size ≤ 4611686018427387904) : Part (fun t : B => .string (str t)) b (n + 1) (StB s b n) IsB 81 #[ptS n] (textB s) := by
 intro W k hL hst
 obtain ⟨h1, h2, h3⟩ := hst
 have c0 := cell1 h3
 have HB := hid (zuz b 0 s k 65536 W h2 hs (by decide) h1)
 have HN := hid h3
 have HK := hid h2
 have HLN := hid (zpf h3)
 clear h1 h2 h3
 go_enter Tryz.func81, Tryz.ntmps81
 go_wp2_with fail
 refine HB.out.mono ?_
 rintro e w2 ⟨ev, rfl, hie, hr2, hbt⟩
 have HI := hid hie
 have HR := hid hr2
 have HBT := hid hbt
 clear hie hr2 hbt c0
 go_wp2_with fail
 go_ret2
 refine ⟨ev, ?_, HI.out, ⟨HR.out, t_in HK.out, (HBT.out.block n HLN.out (by omega)).trans HN.out⟩, ycm HBT.out⟩
 rw [zvc]
 rfl
theorem ycq (s : ByteArray) (b n : Nat) (hb : b < n) (hs : s.size ≤ 4611686018427387904) : Part (fun n : Nat => .int .u64 n) b (n + 1) (StB s b n) IsB 83 #[ptS b] (rdB s).sum := by
 intro W k hL hst
 obtain ⟨h1, h2, h3⟩ := hst
 refine (zva b 0 s k W h2 hs h1).mono ?_
 rintro e w2 ⟨ev, rfl, hie, hr2, hbt⟩
 exact ⟨ev, rfl, hie, ⟨hr2, w_in h2, (hbt.block n (zpf h3) (by omega)).trans h3⟩, ycm hbt⟩
theorem ycr (s : ByteArray) (b n m : Nat) (hb : b < n) (hs : s.size ≤ 4611686018427387904) (hm : m < 18446744073709551616) : Part (fun n : Nat => .int .u64 n) b (n + 1) (StB s b n) IsB 84 #[ptS b, .int .u64 m] ((rdB s).num m) := by
 intro W k hL hst
 obtain ⟨h1, h2, h3⟩ := hst
 refine (zuy b 0 s k m W h2 hs hm h1).mono ?_
 rintro e w2 ⟨ev, rfl, hie, hr2, hbt⟩
 exact ⟨ev, rfl, hie, ⟨hr2, u_in h2, (hbt.block n (zpf h3) (by omega)).trans h3⟩, ycm hbt⟩
theorem ent_o1 : EntS 79 := by intro args w; kernel_rfl
theorem ycs : EntS 81 := by intro args w; kernel_rfl
theorem ent_wd : EntS 83 := by intro args w; kernel_rfl
theorem ent_un : EntS 84 := by intro args w; kernel_rfl
theorem b_le (k : Nat) (s : ByteArray) : (bRes k s).1 ≤ 255 := by
 unfold bRes
 split
 · rename_i h
   have := s[k].toNat_lt
   simp only
   omega
 · exact Nat.zero_le _
theorem okB (s : ByteArray) (b n : Nat) (hb : b < n) (hs : s.size ≤ 4611686018427387904) : RdOk b (n + 1) (StB s b n) IsB (rdQ n b) (rdB s) where
 src := srcB s b n hb
 kind := by simpa using kindB_any s b n hb hs
 text := by
  have h := ycp s b n hb hs
  rw [show (#[] ++ #[ptS n] : Array Value) = #[ptS n] from rfl]
  exact h
 span := by
  have h := ycp s b n hb hs
  rw [show (#[] ++ #[ptS n] : Array Value) = #[ptS n] from rfl]
  exact h
 note := by
  have h := ycp s b n hb hs
  rw [show (#[] ++ #[ptS n] : Array Value) = #[ptS n] from rfl]
  exact h
 sum := by simpa using ycq s b n hb hs
 n64 := by simpa using ycr s b n 64 hb hs (by decide)
 n32 := by simpa using ycr s b n 4294967295 hb hs (by decide)
 ek := ent_o1
 et := ycs
 es := ycs
 eo := ycs
 eu := ent_wd
 en := ent_un
 kle := fun k => b_le k s
 tle := fun k => Nat.le_trans (t_len 65536 k s) (by decide)
 sle := fun k => Nat.le_trans (t_len 65536 k s) (by decide)
 ole := fun k => Nat.le_trans (t_len 65536 k s) (by decide)
 ule := fun k => zzq k s
 m64 := fun k _ => zvd
 m32 := fun k => Nat.le_trans (m := 4294967295) zvd (by decide)
structure Alike {α : Type} (x : α × Nat × Nat × Nat) (y : α × Nat × Nat × Nat) : Prop where
 er : x.2.1 = y.2.1
 nx : x.2.2.2 = y.2.2.2
 at_ : y.2.1 ≠ 0 → x.2.2.1 = y.2.2.1
 val : y.2.1 = 0 → x.1 = y.1
theorem t_at {k : Nat} {s : ByteArray} (hk : k ≤ s.size) (h : (tRes 65536 k s).2.2.1 ≠ 0) : k = (tRes 65536 k s).2.2.2.1 := by
 rcases zur 65536 k s hk with ⟨e, -, -, hu⟩ | ⟨a, q, -, -, -, hu⟩
 · rw [hu]
 · rw [hu] at h; exact absurd rfl h
theorem u_at {m k : Nat} {s : ByteArray} (hk : k ≤ s.size) (h : (uRes m k (s.data.toList.drop k)).2.1 ≠ 0) : k = (uRes m k (s.data.toList.drop k)).2.2.1 := by
 rcases zmv m k s hk with ⟨e, -, -, hu⟩ | ⟨a, q, -, -, hu⟩
 · rw [hu]
 · rw [hu] at h; exact absurd rfl h
theorem w_at {k : Nat} {s : ByteArray} (h : (wRes k s).2.1 ≠ 0) : k = (wRes k s).2.2.1 := by
 by_cases h8 : s.size - k < 8
 · rw [zuu h8]
 · rw [zuv h8] at h; exact absurd rfl h
theorem yct (s : ByteArray) : ∀ (n k : Nat) (P : List (B × B)), k ≤ s.size → Alike (ndsF (rdB s) n k P) (ndsR s n k P)
 | 0, k, P, hk => ⟨rfl, rfl, fun h => absurd rfl h, fun _ => rfl⟩
 | n + 1, k, P, hk => by
   obtain ⟨⟨a1, b1, e1, p1, q1⟩, hT⟩ : ∃ T, tRes 65536 k s = T := ⟨_, rfl⟩
   have hx : (rdB s).text k = (cutB s a1 b1, e1, k, q1) := by show textB s k = _; unfold textB; rw [hT]
   have hk1 : q1 ≤ s.size := by have := t_in hk; rw [hT] at this; exact this
   have ha1 : e1 ≠ 0 → k = p1 := fun h => by have := t_at hk (by rw [hT]; exact h); rw [hT] at this; exact this
   obtain ⟨⟨a2, b2, e2, p2, q2⟩, hT2⟩ : ∃ T, tRes 65536 q1 s = T := ⟨_, rfl⟩
   have hx2 : (rdB s).span q1 = (cutB s a2 b2, e2, q1, q2) := by show textB s q1 = _; unfold textB; rw [hT2]
   have hk2 : q2 ≤ s.size := by have := t_in hk1; rw [hT2] at this; exact this
   have ha2 : e2 ≠ 0 → q1 = p2 := fun h => by have := t_at hk1 (by rw [hT2]; exact h); rw [hT2] at this; exact this
   have IH := yct s n q2 (P ++ [(cutB s a1 b1, cutB s a2 b2)]) hk2
   rw [ndsF, ndsR]
   simp only [hT, hx, hT2, hx2]
   by_cases h1 : e1 = 0
   · subst h1
     by_cases h2 : e2 = 0
     · subst h2
       simp only [ne_eq, not_true_eq_false, if_false]
       exact IH
     · simp only [h2, ne_eq, not_true_eq_false, not_false_eq_true, if_true, if_false]
       exact ⟨rfl, rfl, fun _ => ha2 h2, fun h => absurd h h2⟩
   · simp only [h1, ne_eq, not_false_eq_true, if_true]
     exact ⟨rfl, rfl, fun _ => ha1 h1, fun h => absurd h h1⟩
theorem ycu (s : ByteArray) (k : Nat) (hk : k ≤ s.size) : Alike (zvi (rdB s) k) (zve s k) := by
 obtain ⟨⟨v1, e1, p1, q1⟩, hT⟩ : ∃ T, uRes 64 k (s.data.toList.drop k) = T := ⟨_, rfl⟩
 have hx : (rdB s).num 64 k = (v1, e1, k, q1) := by
  show ((uRes 64 k (s.data.toList.drop k)).1, (uRes 64 k (s.data.toList.drop k)).2.1, k, (uRes 64 k (s.data.toList.drop k)).2.2.2) = _
  rw [hT]
 have hk1 : q1 ≤ s.size := by have := u_in (m := 64) hk; rw [hT] at this; exact this
 have ha1 : e1 ≠ 0 → k = p1 := fun h => by have := u_at (m := 64) hk (by rw [hT]; exact h); rw [hT] at this; exact this
 have IH := yct s v1 q1 [] hk1
 unfold zvi zve
 simp only [hT, hx]
 by_cases h1 : e1 = 0
 · subst h1
   simp only [ne_eq, not_true_eq_false, if_false]
   exact IH
 · simp only [h1, ne_eq, not_false_eq_true, if_true]
   exact ⟨rfl, rfl, fun _ => ha1 h1, fun _ => rfl⟩
theorem ycv (s : ByteArray) (k : Nat) (hk : k ≤ s.size) (e : EvG) (x : Int) : Alike (oneF (rdB s) x k e) (allR s k e x) := by
 have hn := ycu s k hk
 obtain ⟨⟨a1, b1, e1, p1, q1⟩, hT⟩ : ∃ T, tRes 65536 k s = T := ⟨_, rfl⟩
 have hx : (rdB s).text k = (cutB s a1 b1, e1, k, q1) := by show textB s k = _; unfold textB; rw [hT]
 have hx' : (rdB s).note k = (cutB s a1 b1, e1, k, q1) := hx
 have ha1 : e1 ≠ 0 → k = p1 := fun h => by have := t_at hk (by rw [hT]; exact h); rw [hT] at this; exact this
 obtain ⟨⟨v2, e2, p2, q2⟩, hU⟩ : ∃ T, uRes 4294967295 k (s.data.toList.drop k) = T := ⟨_, rfl⟩
 have hy : (rdB s).num 4294967295 k = (v2, e2, k, q2) := by
  show ((uRes 4294967295 k (s.data.toList.drop k)).1, (uRes 4294967295 k (s.data.toList.drop k)).2.1, k, (uRes 4294967295 k (s.data.toList.drop k)).2.2.2) = _
  rw [hU]
 have ha2 : e2 ≠ 0 → k = p2 := fun h => by have := u_at (m := 4294967295) hk (by rw [hU]; exact h); rw [hU] at this; exact this
 obtain ⟨⟨v3, e3, p3, q3⟩, hV⟩ : ∃ T, wRes k s = T := ⟨_, rfl⟩
 have hz : (rdB s).sum k = (v3, e3, k, q3) := by
  show ((wRes k s).1, (wRes k s).2.1, k, (wRes k s).2.2.2) = _
  rw [hV]
 have ha3 : e3 ≠ 0 → k = p3 := fun h => by have := w_at (k := k) (s := s) (by rw [hV]; exact h); rw [hV] at this; exact this
 have hv2 : v2 % 4294967296 = v2 := Nat.mod_eq_of_lt (by have := zvd (most := 4294967295) (k := k) (l := s.data.toList.drop k); rw [hU] at this; simp only at this; omega)
 have hy2 : shortF (rdB s) k = (v2, e2, k, q2) := by unfold shortF; rw [hy]; simp only [hv2]
 unfold oneF allR fldR
 simp only [hx, hx', hy2, hz, hT, hU, hV]
 by_cases h3 : x = 3
 · subst h3
   refine ⟨hn.er, hn.nx, fun h => hn.at_ h, fun h => ?_⟩
   show { e with needs := (zvi (rdB s) k).1 } = { e with needs := (zve s k).1 }
   rw [hn.val h]
 rw [if_neg h3, if_neg h3]
 by_cases h0 : x = 0
 · rw [if_pos h0, if_pos h0]; exact ⟨rfl, rfl, ha1, fun _ => rfl⟩
 rw [if_neg h0, if_neg h0]
 by_cases h1 : x = 1
 · rw [if_pos h1, if_pos h1]; exact ⟨rfl, rfl, ha1, fun _ => rfl⟩
 rw [if_neg h1, if_neg h1]
 by_cases h2 : x = 2
 · rw [if_pos h2, if_pos h2]; exact ⟨rfl, rfl, ha1, fun _ => rfl⟩
 rw [if_neg h2, if_neg h2]
 by_cases h4 : x = 4
 · rw [if_pos h4, if_pos h4]; exact ⟨rfl, rfl, ha3, fun _ => rfl⟩
 rw [if_neg h4, if_neg h4]
 by_cases h5 : x = 5
 · rw [if_pos h5, if_pos h5]; exact ⟨rfl, rfl, ha2, fun _ => rfl⟩
 rw [if_neg h5, if_neg h5]
 by_cases h6 : x = 6
 · rw [if_pos h6, if_pos h6]; exact ⟨rfl, rfl, ha2, fun _ => rfl⟩
 rw [if_neg h6, if_neg h6]
 by_cases h7 : x = 7
 · rw [if_pos h7, if_pos h7]; exact ⟨rfl, rfl, ha1, fun _ => rfl⟩
 rw [if_neg h7, if_neg h7]
 by_cases h8 : x = 8
 · rw [if_pos h8]; exact ⟨rfl, rfl, ha1, fun _ => rfl⟩
 rw [if_neg h8]
 exact ⟨rfl, rfl, ha1, fun _ => rfl⟩
theorem ycw (s : ByteArray) : ∀ (L : List Int) (k : Nat) (e : EvG), k ≤ s.size → Alike (foldF (rdB s) L k e) (foldR s L k e)
 | [], k, e, _ => ⟨rfl, rfl, fun h => absurd rfl h, fun _ => rfl⟩
 | x :: r, k, e, hk => by
   have h1 := ycv s k hk e x
   rw [foldF, foldR]
   by_cases h0 : (allR s k e x).2.1 ≠ 0
   · rw [if_pos h0, if_pos (by rw [h1.er]; exact h0)]
     exact h1
   · rw [if_neg h0, if_neg (by rw [h1.er]; exact h0)]
     have hv := h1.val (by simpa using h0)
     rw [hv, h1.nx]
     exact ycw s r _ _ (zzt x hk)
theorem ycx (s : ByteArray) : bRes 0 s = fstR s := by
 unfold bRes fstR
 rfl
end EvS
end
end Go.Proofs.YtfbegbmjmhnplaaGreatDoor
