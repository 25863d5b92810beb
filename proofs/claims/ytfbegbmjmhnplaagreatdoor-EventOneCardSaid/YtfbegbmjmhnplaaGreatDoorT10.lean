/-
  What the proof of EvBoth stands on, part 10.
-/
import Derived.Test.YtfbegbmjmhnplaaGreatDoorT09
set_option linter.unusedSimpArgs false
set_option linter.unusedVariables false
set_option maxHeartbeats 16000000
namespace Go.Proofs.YtfbegbmjmhnplaaGreatDoor
open Go.Lib (hid)
section
open Go.RowKit
namespace SpanC
open VerM SpanM StrC TextR VerC
theorem zii (r : StR) (w : World) : (Instr.field 266 (stV r) 0).run Tryz.prog w = .ok (edV r.f) w := by kernel_rfl
theorem zij (r : StR) (w : World) : (Instr.field 266 (stV r) 1).run Tryz.prog w = .ok (edV r.t) w := by kernel_rfl
def heavy (v : Ver) : Int := if v.a ≠ 0 then 0 else if v.b ≠ 0 then 1 else 2
def nextE (v : Ver) (k : Int) : Ed := match nextV v k with
 | some u => ⟨zbk u, 0⟩
 | none => allS.t
set_option maxRecDepth 100000 in
theorem zik (v : Ver) (a : Option Addr) (c : Nat) (w : World) :
 Calls Tryz.prog 253 #[verV v.a v.b v.c a v.pre.length c] w fun e w' => e = .returned (.int .i64 (heavy v)) ∧ Below w.heap.size w w' := by
 have HB0 : Hid (Below w.heap.size w (w.alloc (verO v.a v.b v.c a v.pre.length c))) := hid ((Below.refl _ w).alloc (Nat.le_refl _) _)
 have HV : Hid (heavy v = if v.a ≠ 0 then 0 else if v.b ≠ 0 then 1 else 2) := hid rfl
 by_cases h1 : v.a = 0
 · by_cases h2 : v.b = 0
   · have d1 : ((v.a : Int) != 0) = false := by rw [h1]; rfl
     have d2 : ((v.b : Int) != 0) = false := by rw [h2]; rfl
     have HR : Hid (heavy v = 2) := hid (by rw [HV.out]; simp [h1, h2])
     clear h1 h2 HV
     go_enter Tryz.func253, Tryz.ntmps253
     go_wp2_with fail
     go_ret
     exact ⟨by rw [HR.out]; rfl, HB0.out⟩
   · have d1 : ((v.a : Int) != 0) = false := by rw [h1]; rfl
     have d2 : ((v.b : Int) != 0) = true := by rw [bne_iff_ne]; omega
     have HR : Hid (heavy v = 1) := hid (by rw [HV.out]; simp [h1, h2])
     clear h1 h2 HV
     go_enter Tryz.func253, Tryz.ntmps253
     go_wp2_with fail
     go_ret
     exact ⟨by rw [HR.out]; rfl, HB0.out⟩
 · have d1 : ((v.a : Int) != 0) = true := by rw [bne_iff_ne]; omega
   have HR : Hid (heavy v = 0) := hid (by rw [HV.out]; simp [h1])
   clear h1 HV
   go_enter Tryz.func253, Tryz.ntmps253
   go_wp2_with fail
   go_ret
   exact ⟨by rw [HR.out]; rfl, HB0.out⟩
theorem zil {v u : Ver} {k : Int} (hm : may v = true) (h : nextV v k = some u) : may u = true ∧ u.pre = [] := by
 obtain ⟨h1, h2, h3, -, -⟩ := zcc hm
 have hz : (0 : Nat) ≤ mx := Nat.zero_le _
 unfold nextV at h
 split at h
 · split at h
   · cases h
   · cases h; exact ⟨zbx (show v.a + 1 ≤ mx by omega) hz hz (Nat.zero_le _) rfl, rfl⟩
 · split at h
   · split at h
     · cases h
     · cases h; exact ⟨zbx h1 (show v.b + 1 ≤ mx by omega) hz (Nat.zero_le _) rfl, rfl⟩
   · split at h
     · split at h
       · cases h
       · cases h; exact ⟨zbx h1 h2 (show v.c + 1 ≤ mx by omega) (Nat.zero_le _) rfl, rfl⟩
     · cases h
set_option maxRecDepth 100000 in
theorem zim (v : Ver) (a : Option Addr) (c : Nat) (k : Int) (w : World) (hm : may v = true) (hT : Txs w a c v.pre) :
 Calls Tryz.prog 254 #[verV v.a v.b v.c a v.pre.length c, .int .i64 k] w fun e w' => ∃ x : EdR, e = .returned (edV x) ∧ x.ed = nextE v k ∧ EdOk w' x ∧ Below w.heap.size w w' := by
 have hn := heap_alloc_new (w.alloc (verO v.a v.b v.c a v.pre.length c)) (.cells #[.int .u32 0, .int .u32 0, .int .u32 0, .slice none 0 0, .int .i64 0] 264)
 have hs1 : (w.alloc (verO v.a v.b v.c a v.pre.length c)).heap.size = w.heap.size + 1 := by simp
 rw [hs1] at hn
 have HB0 : Hid (Below w.heap.size w ((w.alloc (verO v.a v.b v.c a v.pre.length c)).alloc (.cells #[.int .u32 0, .int .u32 0, .int .u32 0, .slice none 0 0, .int .i64 0] 264))) := hid (((Below.refl _ w).alloc (Nat.le_refl _) _).alloc (by simp) _)
 have HNX := hid (zfl v k a c _ (hT.gr HB0.out))
 go_enter Tryz.func254, Tryz.ntmps254
 go_wp2_with fail
 generalize (w.alloc (verO v.a v.b v.c a v.pre.length c)).alloc (.cells #[.int .u32 0, .int .u32 0, .int .u32 0, .slice none 0 0, .int .i64 0] 264) = W at *
 have hlt : w.heap.size + 1 < W.heap.size := (Array.getElem?_eq_some_iff.1 hn).1
 refine HNX.out.mono ?_
 rintro e w1 ⟨rfl, hb1⟩
 refine Hid.out ?_
 refine hid ?_
 have hn1 := (hb1.block _ hlt).trans hn
 have HB1 := hid (HB0.out.trans (hb1.mono HB0.out.size))
 have hl1 : w.heap.size + 1 < w1.heap.size := (Array.getElem?_eq_some_iff.1 hn1).1
 clear hn hs1 hlt hb1 HB0 HNX
 rcases hnv : nextV v k with _ | u
 · obtain ⟨e1, e2⟩ := zfe hm hnv
   rw [e1, e2]
   have HE : Hid (nextE v k = allS.t) := hid (by unfold nextE; rw [hnv])
   have hn2 := (heap_alloc_old w1 (verO 0 0 0 none 0 0) (r := w.heap.size + 1) hl1).trans hn1
   have HB2 := hid (HB1.out.alloc HB1.out.size (verO 0 0 0 none 0 0))
   have HN2 := hid hn2
   have hl2 : Hid (w.heap.size + 1 < (w1.alloc (verO 0 0 0 none 0 0)).heap.size) := hid (Array.getElem?_eq_some_iff.1 hn2).1
   clear hnv e1 e2 hn1 hl1 HB1 hn2
   go_wp2_with (go_at_call 230; refine (zhl _).mono ?_; rintro e w2 ⟨r0, rfl, hst0, hok0, hb2⟩; refine Hid.out ?_)
   refine hid ?_
   have hn3 := (hb2.block _ hl2.out).trans HN2.out
   have HB3 := hid (HB2.out.trans (hb2.mono HB2.out.size))
   have HST := hid (congrArg St.t hst0)
   have HOK := hid hok0.t
   have hft := zij r0
   clear hst0 hb2 hok0 hl2 HN2 HB2
   go_wp2_with (refine wpList_store_row rfl 264 _ _ rfl (w.heap.size + 1) (edL r0.t).toArray rfl rfl _ _ hn3 zgx rfl (zgz _) ?_)
   refine bodyPost_ret (results_cell_row rfl _ _ (w.heap.size + 1) 264 (edL r0.t).toArray _ _ rfl (setRow_heap _ _ _ _ _ _ hn3) Tryz.underlying264 rfl zgx) rfl ?_
   exact ⟨r0.t, rfl, by rw [HE.out]; exact HST.out, HOK.out.keep (zhi hn3 (by decide)) (fun j _ hj => Go.setRow_other _ _ _ _ hj), below_setRow HB3.out (by omega) _⟩
 · obtain ⟨e1, e2⟩ := zff hm hnv
   rw [e1, e2]
   obtain ⟨hmu, hpu⟩ := zil hm hnv
   have HE : Hid (nextE v k = ⟨zbk u, 0⟩) := hid (by unfold nextE; rw [hnv])
   have HL := hid (fun w' => (zfd u none 0 w' (by rw [hpu]; exact Txs.nil _ _ _)).mono fun e w'' (h : LeastE u w' e w'') => (⟨h.2.2 hmu, h.1⟩ : (∃ g, e = .returned (.tuple #[verV u.a u.b u.c (some ⟨g, 0, none⟩) 1 1, .int .i64 0]) ∧ LeastI w' w'' g) ∧ Below w'.heap.size w' w''))
   rw [hpu] at HL
   have HMU := hid hmu
   have hn2 := (heap_alloc_old w1 (verO u.a u.b u.c none 0 0) (r := w.heap.size + 1) hl1).trans hn1
   have HB2 := hid (HB1.out.alloc HB1.out.size (verO u.a u.b u.c none 0 0))
   have HN2 := hid hn2
   have hl2 : Hid (w.heap.size + 1 < (w1.alloc (verO u.a u.b u.c none 0 0)).heap.size) := hid (Array.getElem?_eq_some_iff.1 hn2).1
   clear hnv e1 e2 hn1 hl1 HB1 hn2 hmu hpu
   go_wp2_with (go_at_call 250; refine (HL.out _).mono ?_; rintro e w2 ⟨⟨g, rfl, hL⟩, hb2⟩; refine Hid.out ?_)
   refine hid ?_
   have hn3 := (hb2.block _ hl2.out).trans HN2.out
   have HB3 := hid (HB2.out.trans (hb2.mono HB2.out.size))
   have hl3 : w.heap.size + 1 < w2.heap.size := (Array.getElem?_eq_some_iff.1 hn3).1
   have hn4 := (heap_alloc_old w2 (verO u.a u.b u.c (some ⟨g, 0, none⟩) 1 1) (r := w.heap.size + 1) hl3).trans hn3
   have HB4 := hid (HB3.out.alloc HB3.out.size (verO u.a u.b u.c (some ⟨g, 0, none⟩) 1 1))
   have HTX := hid (hL.txs.alloc (verO u.a u.b u.c (some ⟨g, 0, none⟩) 1 1))
   have HKI := hid (hL.kind.below ((Below.refl _ w2).alloc (Nat.le_refl _) (verO u.a u.b u.c (some ⟨g, 0, none⟩) 1 1)))
   have HLM : Hid (may (zbk u) = true) := hid (by
    obtain ⟨h1, h2, h3, -, -⟩ := zcc HMU.out
    exact zbx h1 h2 h3 (by show 1 ≤ 8; omega) rfl)
   clear hL hb2 hn3 hl3 hl2 HN2 HB2 HB3 HL
   go_wp2_with (refine wpList_store_row rfl 264 _ _ rfl (w.heap.size + 1) (edL ⟨zbk u, some ⟨g, 0, none⟩, 1, 0⟩).toArray rfl rfl _ _ hn4 zgx rfl (zgz _) ?_)
   refine bodyPost_ret (results_cell_row rfl _ _ (w.heap.size + 1) 264 (edL ⟨zbk u, some ⟨g, 0, none⟩, 1, 0⟩).toArray _ _ rfl (setRow_heap _ _ _ _ _ _ hn4) Tryz.underlying264 rfl zgx) rfl ?_
   exact ⟨⟨zbk u, some ⟨g, 0, none⟩, 1, 0⟩, rfl, HE.out.symm, EdOk.keep ⟨⟨HLM.out, by show 0 ≤ 2; omega, fun h => by cases h⟩, HTX.out, fun b f e => (by cases e; exact HKI.out), fun e => (by cases e)⟩ (zhi hn4 (by decide)) (fun j _ hj => Go.setRow_other _ _ _ _ hj), below_setRow HB4.out (by omega) _⟩
end SpanC
open Go.RowKit
namespace SpanC
open VerM SpanM StrC TextR VerC
def signC : B := [61, 60, 62, 126, 94]
def sgnB (s : B) : B := s.takeWhile (signC.contains ·)
def bodB (s : B) : B := s.dropWhile (signC.contains ·)
theorem sgn_bod (s : B) : sgnB s ++ bodB s = s := List.takeWhile_append_dropWhile
theorem zin (s : B) : Lib.trimSuffix s (bodB s) = sgnB s := by
 have h := sgn_bod s
 have hs : Lib.hasSuffix s (bodB s) = true := by
  unfold Lib.hasSuffix
  rw [List.isSuffixOf_iff_suffix]
  exact ⟨sgnB s, h⟩
 unfold Lib.trimSuffix
 rw [if_pos hs]
 have hl : s.length - (bodB s).length = (sgnB s).length := by
  have := congrArg List.length h
  rw [List.length_append] at this
  omega
 rw [hl]
 have h2 := List.take_left (l₁ := sgnB s) (l₂ := bodB s)
 rw [h] at h2
 exact h2
def signM (g : B) (v : Ver) : Option St :=
 if g = [] ∨ g = [61] then some ⟨⟨v, 0⟩, ⟨v, 1⟩⟩
 else if g = [60] then some ⟨allS.f, ⟨v, 0⟩⟩
 else if g = [60, 61] then some ⟨allS.f, ⟨v, 1⟩⟩
 else if g = [62] then some ⟨⟨v, 1⟩, allS.t⟩
 else if g = [62, 61] then some ⟨⟨v, 0⟩, allS.t⟩
 else if g = [94] then some ⟨⟨v, 0⟩, nextE v (heavy v)⟩
 else if g = [126] then some ⟨⟨v, 0⟩, nextE v 1⟩
 else none
def compM (s : B) : Option St := match readB (bodB s) with
 | some v => signM (sgnB s) v
 | none => none
def zeroR : StR := ⟨⟨⟨0, 0, 0, []⟩, none, 0, 0⟩, ⟨⟨0, 0, 0, []⟩, none, 0, 0⟩⟩
def MaybeE (o : Option St) (w : World) (e : Ending) (w' : World) : Prop := Below w.heap.size w w' ∧ (o = none → e = .returned (.tuple #[stV zeroR, .bool false])) ∧ ∀ st, o = some st → ∃ r : StR, e = .returned (.tuple #[stV r, .bool true]) ∧ r.st = st ∧ StOk w' r
theorem MaybeE.no {w w' : World} (h : Below w.heap.size w w') : MaybeE none w (.returned (.tuple #[stV zeroR, .bool false])) w' := ⟨h, fun _ => rfl, fun st h => (by cases h)⟩
theorem MaybeE.yes {w w' : World} {st : St} {r : StR} (h : Below w.heap.size w w') (h1 : r.st = st) (h2 : StOk w' r) : MaybeE (some st) w (.returned (.tuple #[stV r, .bool true])) w' := ⟨h, fun h => (by cases h), fun st' h => (by cases h; exact ⟨r, rfl, h1, h2⟩)⟩
theorem zio (s : B) (w : World) : Calls Tryz.prog 251 #[.string (str s), .string ⟨#[61, 60, 62, 126, 94]⟩] w fun e w' => e = .returned (.string (str (bodB s))) ∧ Below w.heap.size w w' :=
 (Any.strings_TrimLeft_laid Tryz.lays161 (by kernel_rfl) (str s) ⟨#[61, 60, 62, 126, 94]⟩ w (by decide) (Go.Proofs.ascii_of_all (by decide))).mono fun _ _ h => h
theorem zip (s : B) (w : World) (hs : s.length ≤ 9223372036854775807) : Calls Tryz.prog 252 #[.string (str s), .string (str (bodB s))] w fun e w' => e = .returned (.string (str (sgnB s))) ∧ w' = w :=
 (Tryz.strings_TrimSuffix (str s) (str (bodB s)) w (by rw [zbm]; exact hs)).mono fun e w' ⟨h1, h2⟩ => ⟨by rw [h1]; show Ending.returned (.string ⟨(Lib.trimSuffix s (bodB s)).toArray⟩) = _; rw [zin]; rfl, h2⟩
set_option maxRecDepth 100000 in
theorem ziq (s : B) (w : World) (hv : Vw w) (hs : s.length ≤ 9223372036854775807) :
 Calls Tryz.prog 231 #[.string (str s)] w (MaybeE (compM s) w) := by
 have hn := heap_alloc_new w (stO zeroR)
 have HB0 : Hid (Below w.heap.size w (w.alloc (stO zeroR))) := hid ((Below.refl _ w).alloc (Nat.le_refl _) _)
 have HV := hid hv
 have HTS := hid (fun w => zip s w hs)
 have HC : Hid (compM s = match readB (bodB s) with | some v => signM (sgnB s) v | none => none) := hid rfl
 have HTL := hid (fun w => zio s w)
 have HRD := hid (fun w hv => zhn (bodB s) w hv)
 generalize compM s = cm at *
 generalize bodB s = bd at *
 generalize sgnB s = sg at *
 have hlt : w.heap.size < (w.alloc (stO zeroR)).heap.size := by simp
 have HLT := hid hlt
 have HN := hid hn
 clear hv hs hn hlt
 go_enter Tryz.func231, Tryz.ntmps231
 go_wp2_with (go_at_call 251; refine (HTL.out _).mono ?_; rintro e w1 ⟨rfl, hb1⟩; refine Hid.out ?_)
 refine hid ?_
 have HB1 := hid (HB0.out.trans (hb1.mono HB0.out.size))
 have HN1 := hid ((hb1.block _ HLT.out).trans HN.out)
 clear hb1 HB0 HN HLT HTL
 go_wp2_with (go_at_call 118; refine (HRD.out _ (HV.out.gr HB1.out)).mono ?_; rintro e w2 ⟨x2, rfl, he, hb2, hnw⟩; refine Hid.out ?_)
 refine hid ?_
 have HB2 := hid (HB1.out.trans (hb2.mono HB1.out.size))
 have hl1 := (Array.getElem?_eq_some_iff.1 HN1.out).1
 have hn2 := (hb2.block _ hl1).trans HN1.out
 have hl2 : w.heap.size < w2.heap.size := (Array.getElem?_eq_some_iff.1 hn2).1
 rcases zea he with ⟨v, a, cp, hrd, rfl, hT⟩ | ⟨hrd, rfl⟩
 rotate_left
 · have HE : Hid (cm = none) := hid (by rw [HC.out, hrd])
   have hn3 := (heap_alloc_old w2 (verO 0 0 0 none 0 0) (r := w.heap.size) hl2).trans hn2
   have HB3 := hid (HB2.out.alloc HB2.out.size (verO 0 0 0 none 0 0))
   clear he hb2 hnw hrd hn2 hl2 hl1 HN1 HB1 HB2 HC HV HRD HTS
   go_wp2_with (refine wpList_store_row rfl 266 _ _ rfl w.heap.size (stL zeroR).toArray rfl rfl _ _ hn3 zgw rfl (zgy _) ?_)
   refine bodyPost_ret (VerC.zcj rfl _ _ w.heap.size _ (stL zeroR).toArray _ _ rfl (setRow_heap _ _ _ _ _ _ hn3) Tryz.underlying266 rfl zgw) rfl ?_
   rw [HE.out]
   exact MaybeE.no (below_setRow HB3.out (Nat.le_refl _) _)
 have HE : Hid (cm = signM sg v) := hid (by rw [HC.out, hrd])
 have HMV : Hid (may v = true) := hid (zau hrd).2.2
 have HNE := hid (hnw _ _ _ _ _ _ _ rfl)
 have hn3 := (heap_alloc_old w2 (verO v.a v.b v.c a v.pre.length cp) (r := w.heap.size) hl2).trans hn2
 have HB3 := hid (HB2.out.alloc HB2.out.size (verO v.a v.b v.c a v.pre.length cp))
 have hv3 := heap_alloc_new w2 (verO v.a v.b v.c a v.pre.length cp)
 have HK0 : Hid (∀ s, s ≤ 1 → EdOk (w2.alloc (verO v.a v.b v.c a v.pre.length cp)) ⟨v, a, cp, s⟩) := hid (fun s hs => ⟨⟨HMV.out, by show s ≤ 2; omega, fun h => by have : s = 2 := h; omega⟩, hT.alloc _, fun b f e => ((HNE.out.1 b f e).2).below ((Below.refl _ w2).alloc (Nat.le_refl _) _), HNE.out.2⟩)
 have hz3 : w2.heap.size < (w2.alloc (verO v.a v.b v.c a v.pre.length cp)).heap.size := by simp
 clear he hb2 hnw hrd hn2 hl1 HN1 HB1 HB2 HC HV HRD hT
 go_upto_region 5 with fail
 generalize hg3 : w2.alloc (verO v.a v.b v.c a v.pre.length cp) = w3 at *
 clear hg3
 obtain ⟨vq0, vq1, vq2, vq3⟩ := zch hv3
 have HV3 := hid hv3
 have hl3 : w.heap.size < w3.heap.size := (Array.getElem?_eq_some_iff.1 hn3).1
 have hn4 := (heap_alloc_old w3 (stO ⟨⟨v, a, cp, 0⟩, ⟨v, a, cp, 1⟩⟩) (r := w.heap.size) hl3).trans hn3
 have hv4 := (heap_alloc_old w3 (stO ⟨⟨v, a, cp, 0⟩, ⟨v, a, cp, 1⟩⟩) (r := w2.heap.size) hz3).trans hv3
 have hx4 := heap_alloc_new w3 (stO ⟨⟨v, a, cp, 0⟩, ⟨v, a, cp, 1⟩⟩)
 have HB4 := hid (HB3.out.alloc HB3.out.size (stO ⟨⟨v, a, cp, 0⟩, ⟨v, a, cp, 1⟩⟩))
 have HK4 : Hid (∀ s, s ≤ 1 → EdOk (w3.alloc (stO ⟨⟨v, a, cp, 0⟩, ⟨v, a, cp, 1⟩⟩)) ⟨v, a, cp, s⟩) := hid (fun s hs => (HK0.out s hs).gr ((Below.refl _ w3).alloc (Nat.le_refl _) _))
 have hz4 : w3.heap.size < (w3.alloc (stO ⟨⟨v, a, cp, 0⟩, ⟨v, a, cp, 1⟩⟩)).heap.size := by simp
 have HN4 := hid hn4
 have HV4 := hid hv4
 have HX4 := hid hx4
 have HZ4 := hid hz4
 have HL2 := hid hl2
 have HZ3 := hid hz3
 clear hn3 hv3 hn4 hv4 hx4 hz3 hz4 HB3 HK0 hl3 hl2
 have e0 : ∀ x : ByteArray, ((str sg).toList == x.toList) = decide (sg = x.data.toList) := fun x => beq_lit x sg
 go_wp2_with (go_at_call 252; refine (HTS.out _).mono ?_; rintro e w' ⟨rfl, rfl⟩; refine Hid.out ?_)
 refine hid ?_
 have HPQ : Hid (w.heap.size < w3.heap.size) := hid (by have := HL2.out; have := HZ3.out; omega)
 generalize hg4 : w3.alloc (stO ⟨⟨v, a, cp, 0⟩, ⟨v, a, cp, 1⟩⟩) = w4 at *
 clear hg4
 have HZP4 : Hid (w.heap.size < w4.heap.size) := hid (by have := HPQ.out; have := HZ4.out; omega)
 have HVB : Hid (w2.heap.size < w4.heap.size) := hid (by have := HZ3.out; have := HZ4.out; omega)
 obtain ⟨q0, q1, q2, q3, q4, q5, q6, q7, q8, q9⟩ := zgn HX4.out
 obtain ⟨v0, v1, v2, v3⟩ := zch HV4.out
 have f4 := zcm HX4.out 4
 have f9 := zcm HX4.out 9
 have hn4 := HN4.out
 clear e0
 rcases Classical.em (sg = []) with rfl | g0
 ·
  have k0 : (str []).toList.isEmpty = true := by rw [ByteArray.toList_eq]; rfl
  have k1 : ((str []).toList == ([61] : List UInt8)) = false := (zbt [] [61]).trans (by decide)
  have k2 : ((str []).toList == ([60] : List UInt8)) = false := (zbt [] [60]).trans (by decide)
  have k3 : ((str []).toList == ([60, 61] : List UInt8)) = false := (zbt [] [60, 61]).trans (by decide)
  have k4 : ((str []).toList == ([62] : List UInt8)) = false := (zbt [] [62]).trans (by decide)
  have k5 : ((str []).toList == ([62, 61] : List UInt8)) = false := (zbt [] [62, 61]).trans (by decide)
  have k6 : ((str []).toList == ([94] : List UInt8)) = false := (zbt [] [94]).trans (by decide)
  have k7 : ((str []).toList == ([126] : List UInt8)) = false := (zbt [] [126]).trans (by decide)
  have HE : Hid (cm = some ⟨⟨v, 0⟩, ⟨v, 1⟩⟩) := hid (HE.out.trans rfl)
  have HS4 : Hid (StOk w4 (⟨⟨v, a, cp, 0⟩, ⟨v, a, cp, 1⟩⟩ : StR)) := hid ⟨HK4.out 0 (by omega), HK4.out 1 (by omega)⟩
  clear q0 q1 q2 q3 q4 q5 q6 q7 q8 q9
  obtain ⟨q0, q1, q2, q3, q4, q5, q6, q7, q8, q9⟩ := zgn HX4.out
  go_wp2_with (refine wpList_store_row rfl 266 _ _ rfl w.heap.size (stL (⟨⟨v, a, cp, 0⟩, ⟨v, a, cp, 1⟩⟩ : StR)).toArray rfl rfl _ _ hn4 zgw rfl (zgy _) ?_)
  refine bodyPost_ret (VerC.zcj rfl _ _ w.heap.size _ (stL (⟨⟨v, a, cp, 0⟩, ⟨v, a, cp, 1⟩⟩ : StR)).toArray _ _ rfl (setRow_heap _ _ _ _ _ _ hn4) Tryz.underlying266 rfl zgw) rfl ?_
  rw [HE.out]
  exact MaybeE.yes (below_setRow HB4.out (Nat.le_refl _) _) rfl (HS4.out.keep (zhi hn4 (by decide)) (fun j _ hj => Go.setRow_other _ _ _ _ hj))
 rcases Classical.em (sg = [61]) with rfl | g1
 ·
  have k0 : (str [61]).toList.isEmpty = false := by rw [ByteArray.toList_eq]; rfl
  have k1 : ((str [61]).toList == ([61] : List UInt8)) = true := (zbt [61] [61]).trans (by decide)
  have k2 : ((str [61]).toList == ([60] : List UInt8)) = false := (zbt [61] [60]).trans (by decide)
  have k3 : ((str [61]).toList == ([60, 61] : List UInt8)) = false := (zbt [61] [60, 61]).trans (by decide)
  have k4 : ((str [61]).toList == ([62] : List UInt8)) = false := (zbt [61] [62]).trans (by decide)
  have k5 : ((str [61]).toList == ([62, 61] : List UInt8)) = false := (zbt [61] [62, 61]).trans (by decide)
  have k6 : ((str [61]).toList == ([94] : List UInt8)) = false := (zbt [61] [94]).trans (by decide)
  have k7 : ((str [61]).toList == ([126] : List UInt8)) = false := (zbt [61] [126]).trans (by decide)
  have HE : Hid (cm = some ⟨⟨v, 0⟩, ⟨v, 1⟩⟩) := hid (HE.out.trans rfl)
  have HS4 : Hid (StOk w4 (⟨⟨v, a, cp, 0⟩, ⟨v, a, cp, 1⟩⟩ : StR)) := hid ⟨HK4.out 0 (by omega), HK4.out 1 (by omega)⟩
  clear q0 q1 q2 q3 q4 q5 q6 q7 q8 q9
  obtain ⟨q0, q1, q2, q3, q4, q5, q6, q7, q8, q9⟩ := zgn HX4.out
  go_wp2_with (refine wpList_store_row rfl 266 _ _ rfl w.heap.size (stL (⟨⟨v, a, cp, 0⟩, ⟨v, a, cp, 1⟩⟩ : StR)).toArray rfl rfl _ _ hn4 zgw rfl (zgy _) ?_)
  refine bodyPost_ret (VerC.zcj rfl _ _ w.heap.size _ (stL (⟨⟨v, a, cp, 0⟩, ⟨v, a, cp, 1⟩⟩ : StR)).toArray _ _ rfl (setRow_heap _ _ _ _ _ _ hn4) Tryz.underlying266 rfl zgw) rfl ?_
  rw [HE.out]
  exact MaybeE.yes (below_setRow HB4.out (Nat.le_refl _) _) rfl (HS4.out.keep (zhi hn4 (by decide)) (fun j _ hj => Go.setRow_other _ _ _ _ hj))
 rcases Classical.em (sg = [60]) with rfl | g2
 ·
  have k0 : (str [60]).toList.isEmpty = false := by rw [ByteArray.toList_eq]; rfl
  have k1 : ((str [60]).toList == ([61] : List UInt8)) = false := (zbt [60] [61]).trans (by decide)
  have k2 : ((str [60]).toList == ([60] : List UInt8)) = true := (zbt [60] [60]).trans (by decide)
  have k3 : ((str [60]).toList == ([60, 61] : List UInt8)) = false := (zbt [60] [60, 61]).trans (by decide)
  have k4 : ((str [60]).toList == ([62] : List UInt8)) = false := (zbt [60] [62]).trans (by decide)
  have k5 : ((str [60]).toList == ([62, 61] : List UInt8)) = false := (zbt [60] [62, 61]).trans (by decide)
  have k6 : ((str [60]).toList == ([94] : List UInt8)) = false := (zbt [60] [94]).trans (by decide)
  have k7 : ((str [60]).toList == ([126] : List UInt8)) = false := (zbt [60] [126]).trans (by decide)
  have HE : Hid (cm = some ⟨allS.f, ⟨v, 0⟩⟩) := hid (HE.out.trans rfl)
  have HXX : Hid ((w4.setCell ⟨w3.heap.size, 9, none⟩ (.int .i64 0)).heap[w3.heap.size]? = some (stO (⟨⟨v, a, cp, 0⟩, ⟨v, a, cp, 0⟩⟩ : StR))) := hid (zck HX4.out 9 _)
  have HPP : Hid ((w4.setCell ⟨w3.heap.size, 9, none⟩ (.int .i64 0)).heap[w.heap.size]? = some (stO zeroR)) := hid ((zcl 9 _ (by have := HPQ.out; omega)).trans HN4.out)
  have HZ : Hid (w3.heap.size < (w4.setCell ⟨w3.heap.size, 9, none⟩ (.int .i64 0)).heap.size) := hid (by have := HZ4.out; simpa using this)
  have HZP : Hid (w.heap.size < (w4.setCell ⟨w3.heap.size, 9, none⟩ (.int .i64 0)).heap.size) := hid (by have := HZP4.out; simpa using this)
  have HBB : Hid (Below w.heap.size w (w4.setCell ⟨w3.heap.size, 9, none⟩ (.int .i64 0))) := hid (HB4.out.setCell (by have := HPQ.out; show w.heap.size ≤ w3.heap.size; omega) _)
  have HKK : Hid (∀ s, s ≤ 1 → EdOk (w4.setCell ⟨w3.heap.size, 9, none⟩ (.int .i64 0)) ⟨v, a, cp, s⟩) := hid (fun s hs => (HK4.out s hs).keep (zhi HX4.out (by decide)) fun j _ hj => zcl 9 _ hj)
  clear hn4
  go_wp2_with (go_at_call 230; refine (zhl _).mono ?_; rintro e w5 ⟨r0, rfl, hst0, hok0, hb5⟩; refine Hid.out ?_)
  refine hid ?_
  have hft := zii r0
  have HST := hid (congrArg St.f hst0)
  have HX5 := hid ((hb5.block _ HZ.out).trans HXX.out)
  have hp5 := (hb5.block _ HZP.out).trans HPP.out
  have HB5 := hid (HBB.out.trans (hb5.mono HBB.out.size))
  have HO5 := hid hok0
  have HK5 : Hid (∀ s, s ≤ 1 → EdOk w5 ⟨v, a, cp, s⟩) := hid (fun s hs => (HKK.out s hs).gr hb5)
  clear hst0 hok0 hb5 HXX HPP HZP HBB HKK
  obtain ⟨w6, e6, hA6, hE6, -, hs6⟩ := zhf HX5.out r0.f
  have hp6 := (hE6 _ (by have := HPQ.out; omega)).trans hp5
  have hnq : ¬ IsText w5 w3.heap.size := zhi HX5.out (by decide)
  have HO6 : Hid (StOk w6 ⟨r0.f, ((⟨⟨v, a, cp, 0⟩, ⟨v, a, cp, 0⟩⟩ : StR) : StR).t⟩) := hid ⟨HO5.out.f.keep hnq fun j _ hj => hE6 j hj, (HK5.out _ (by show ((⟨⟨v, a, cp, 0⟩, ⟨v, a, cp, 0⟩⟩ : StR) : StR).t.s ≤ 1; simp)).keep hnq fun j _ hj => hE6 j hj⟩
  have HB6 : Hid (Below w.heap.size w w6) := hid (by rw [← e6]; exact below_setCells HB5.out _ _ _ (by have := HPQ.out; omega))
  have HE6 := hid e6
  have HA6 := hid hA6
  have HP6 := hid hp6
  have HTH := hid (zhe (o := 0) (n := 5) HX5.out (by simp))
  clear e6 hA6 hE6 hs6 hnq hp5 hp6 HX5 HB5 HO5 HK5
  go_wp2_with (first
   | (refine wpList_store_row rfl 266 _ _ rfl w.heap.size (stL ⟨r0.f, ((⟨⟨v, a, cp, 0⟩, ⟨v, a, cp, 0⟩⟩ : StR) : StR).t⟩).toArray rfl rfl _ _ hpz zgw rfl (zgy _) ?_)
   | (refine wpList_store_mid rfl 264 _ _ rfl w3.heap.size 0 (edL r0.f).toArray rfl rfl HTH.out zgx (zgz _) ?_; change wpList _ _ _ _ _ (w5.setCells w3.heap.size 0 (edL r0.f)); rw [HE6.out]; clear HTH HE6; have hpz := HP6.out; obtain ⟨q0, q1, q2, q3, q4, q5, q6, q7, q8, q9⟩ := zgn HA6.out))
  have hpz := HP6.out
  refine bodyPost_ret (VerC.zcj rfl _ _ w.heap.size _ (stL ⟨r0.f, ((⟨⟨v, a, cp, 0⟩, ⟨v, a, cp, 0⟩⟩ : StR) : StR).t⟩).toArray _ _ rfl (setRow_heap _ _ _ _ _ _ hpz) Tryz.underlying266 rfl zgw) rfl ?_
  rw [HE.out]
  exact MaybeE.yes (below_setRow HB6.out (Nat.le_refl _) _) (by have h := HST.out; show (⟨_, _⟩ : St) = _; rw [show r0.f.ed = allS.f from h]; rfl) (HO6.out.keep (zhi hpz (by decide)) (fun j _ hj => Go.setRow_other _ _ _ _ hj))
 rcases Classical.em (sg = [60, 61]) with rfl | g3
 ·
  have k0 : (str [60, 61]).toList.isEmpty = false := by rw [ByteArray.toList_eq]; rfl
  have k1 : ((str [60, 61]).toList == ([61] : List UInt8)) = false := (zbt [60, 61] [61]).trans (by decide)
  have k2 : ((str [60, 61]).toList == ([60] : List UInt8)) = false := (zbt [60, 61] [60]).trans (by decide)
  have k3 : ((str [60, 61]).toList == ([60, 61] : List UInt8)) = true := (zbt [60, 61] [60, 61]).trans (by decide)
  have k4 : ((str [60, 61]).toList == ([62] : List UInt8)) = false := (zbt [60, 61] [62]).trans (by decide)
  have k5 : ((str [60, 61]).toList == ([62, 61] : List UInt8)) = false := (zbt [60, 61] [62, 61]).trans (by decide)
  have k6 : ((str [60, 61]).toList == ([94] : List UInt8)) = false := (zbt [60, 61] [94]).trans (by decide)
  have k7 : ((str [60, 61]).toList == ([126] : List UInt8)) = false := (zbt [60, 61] [126]).trans (by decide)
  have HE : Hid (cm = some ⟨allS.f, ⟨v, 1⟩⟩) := hid (HE.out.trans rfl)
  have HXX := HX4
  have HPP := HN4
  have HZ := HZ4
  have HZP := HZP4
  have HBB := HB4
  have HKK := HK4
  clear hn4 f4 f9
  go_wp2_with (go_at_call 230; refine (zhl _).mono ?_; rintro e w5 ⟨r0, rfl, hst0, hok0, hb5⟩; refine Hid.out ?_)
  refine hid ?_
  have hft := zii r0
  have HST := hid (congrArg St.f hst0)
  have HX5 := hid ((hb5.block _ HZ.out).trans HXX.out)
  have hp5 := (hb5.block _ HZP.out).trans HPP.out
  have HB5 := hid (HBB.out.trans (hb5.mono HBB.out.size))
  have HO5 := hid hok0
  have HK5 : Hid (∀ s, s ≤ 1 → EdOk w5 ⟨v, a, cp, s⟩) := hid (fun s hs => (HKK.out s hs).gr hb5)
  clear hst0 hok0 hb5 HXX HPP HZP HBB HKK
  obtain ⟨w6, e6, hA6, hE6, -, hs6⟩ := zhf HX5.out r0.f
  have hp6 := (hE6 _ (by have := HPQ.out; omega)).trans hp5
  have hnq : ¬ IsText w5 w3.heap.size := zhi HX5.out (by decide)
  have HO6 : Hid (StOk w6 ⟨r0.f, ((⟨⟨v, a, cp, 0⟩, ⟨v, a, cp, 1⟩⟩ : StR) : StR).t⟩) := hid ⟨HO5.out.f.keep hnq fun j _ hj => hE6 j hj, (HK5.out _ (by show ((⟨⟨v, a, cp, 0⟩, ⟨v, a, cp, 1⟩⟩ : StR) : StR).t.s ≤ 1; simp)).keep hnq fun j _ hj => hE6 j hj⟩
  have HB6 : Hid (Below w.heap.size w w6) := hid (by rw [← e6]; exact below_setCells HB5.out _ _ _ (by have := HPQ.out; omega))
  have HE6 := hid e6
  have HA6 := hid hA6
  have HP6 := hid hp6
  have HTH := hid (zhe (o := 0) (n := 5) HX5.out (by simp))
  clear e6 hA6 hE6 hs6 hnq hp5 hp6 HX5 HB5 HO5 HK5
  go_wp2_with (first
   | (refine wpList_store_row rfl 266 _ _ rfl w.heap.size (stL ⟨r0.f, ((⟨⟨v, a, cp, 0⟩, ⟨v, a, cp, 1⟩⟩ : StR) : StR).t⟩).toArray rfl rfl _ _ hpz zgw rfl (zgy _) ?_)
   | (refine wpList_store_mid rfl 264 _ _ rfl w3.heap.size 0 (edL r0.f).toArray rfl rfl HTH.out zgx (zgz _) ?_; change wpList _ _ _ _ _ (w5.setCells w3.heap.size 0 (edL r0.f)); rw [HE6.out]; clear HTH HE6; have hpz := HP6.out; obtain ⟨q0, q1, q2, q3, q4, q5, q6, q7, q8, q9⟩ := zgn HA6.out))
  have hpz := HP6.out
  refine bodyPost_ret (VerC.zcj rfl _ _ w.heap.size _ (stL ⟨r0.f, ((⟨⟨v, a, cp, 0⟩, ⟨v, a, cp, 1⟩⟩ : StR) : StR).t⟩).toArray _ _ rfl (setRow_heap _ _ _ _ _ _ hpz) Tryz.underlying266 rfl zgw) rfl ?_
  rw [HE.out]
  exact MaybeE.yes (below_setRow HB6.out (Nat.le_refl _) _) (by have h := HST.out; show (⟨_, _⟩ : St) = _; rw [show r0.f.ed = allS.f from h]; rfl) (HO6.out.keep (zhi hpz (by decide)) (fun j _ hj => Go.setRow_other _ _ _ _ hj))
 rcases Classical.em (sg = [62]) with rfl | g4
 ·
  have k0 : (str [62]).toList.isEmpty = false := by rw [ByteArray.toList_eq]; rfl
  have k1 : ((str [62]).toList == ([61] : List UInt8)) = false := (zbt [62] [61]).trans (by decide)
  have k2 : ((str [62]).toList == ([60] : List UInt8)) = false := (zbt [62] [60]).trans (by decide)
  have k3 : ((str [62]).toList == ([60, 61] : List UInt8)) = false := (zbt [62] [60, 61]).trans (by decide)
  have k4 : ((str [62]).toList == ([62] : List UInt8)) = true := (zbt [62] [62]).trans (by decide)
  have k5 : ((str [62]).toList == ([62, 61] : List UInt8)) = false := (zbt [62] [62, 61]).trans (by decide)
  have k6 : ((str [62]).toList == ([94] : List UInt8)) = false := (zbt [62] [94]).trans (by decide)
  have k7 : ((str [62]).toList == ([126] : List UInt8)) = false := (zbt [62] [126]).trans (by decide)
  have HE : Hid (cm = some ⟨⟨v, 1⟩, allS.t⟩) := hid (HE.out.trans rfl)
  have HXX : Hid ((w4.setCell ⟨w3.heap.size, 4, none⟩ (.int .i64 1)).heap[w3.heap.size]? = some (stO (⟨⟨v, a, cp, 1⟩, ⟨v, a, cp, 1⟩⟩ : StR))) := hid (zck HX4.out 4 _)
  have HPP : Hid ((w4.setCell ⟨w3.heap.size, 4, none⟩ (.int .i64 1)).heap[w.heap.size]? = some (stO zeroR)) := hid ((zcl 4 _ (by have := HPQ.out; omega)).trans HN4.out)
  have HZ : Hid (w3.heap.size < (w4.setCell ⟨w3.heap.size, 4, none⟩ (.int .i64 1)).heap.size) := hid (by have := HZ4.out; simpa using this)
  have HZP : Hid (w.heap.size < (w4.setCell ⟨w3.heap.size, 4, none⟩ (.int .i64 1)).heap.size) := hid (by have := HZP4.out; simpa using this)
  have HBB : Hid (Below w.heap.size w (w4.setCell ⟨w3.heap.size, 4, none⟩ (.int .i64 1))) := hid (HB4.out.setCell (by have := HPQ.out; show w.heap.size ≤ w3.heap.size; omega) _)
  have HKK : Hid (∀ s, s ≤ 1 → EdOk (w4.setCell ⟨w3.heap.size, 4, none⟩ (.int .i64 1)) ⟨v, a, cp, s⟩) := hid (fun s hs => (HK4.out s hs).keep (zhi HX4.out (by decide)) fun j _ hj => zcl 4 _ hj)
  clear hn4
  go_wp2_with (go_at_call 230; refine (zhl _).mono ?_; rintro e w5 ⟨r0, rfl, hst0, hok0, hb5⟩; refine Hid.out ?_)
  refine hid ?_
  have hft := zij r0
  have HST := hid (congrArg St.t hst0)
  have HX5 := hid ((hb5.block _ HZ.out).trans HXX.out)
  have hp5 := (hb5.block _ HZP.out).trans HPP.out
  have HB5 := hid (HBB.out.trans (hb5.mono HBB.out.size))
  have HO5 := hid hok0
  have HK5 : Hid (∀ s, s ≤ 1 → EdOk w5 ⟨v, a, cp, s⟩) := hid (fun s hs => (HKK.out s hs).gr hb5)
  clear hst0 hok0 hb5 HXX HPP HZP HBB HKK
  obtain ⟨w6, e6, hA6, hE6, -, hs6⟩ := zhg HX5.out r0.t
  have hp6 := (hE6 _ (by have := HPQ.out; omega)).trans hp5
  have hnq : ¬ IsText w5 w3.heap.size := zhi HX5.out (by decide)
  have HO6 : Hid (StOk w6 ⟨((⟨⟨v, a, cp, 1⟩, ⟨v, a, cp, 1⟩⟩ : StR) : StR).f, r0.t⟩) := hid ⟨(HK5.out _ (by show ((⟨⟨v, a, cp, 1⟩, ⟨v, a, cp, 1⟩⟩ : StR) : StR).f.s ≤ 1; simp)).keep hnq fun j _ hj => hE6 j hj, HO5.out.t.keep hnq fun j _ hj => hE6 j hj⟩
  have HB6 : Hid (Below w.heap.size w w6) := hid (by rw [← e6]; exact below_setCells HB5.out _ _ _ (by have := HPQ.out; omega))
  have HE6 := hid e6
  have HA6 := hid hA6
  have HP6 := hid hp6
  have HTH := hid (zhe (o := 5) (n := 5) HX5.out (by simp))
  clear e6 hA6 hE6 hs6 hnq hp5 hp6 HX5 HB5 HO5 HK5
  go_wp2_with (first
   | (refine wpList_store_row rfl 266 _ _ rfl w.heap.size (stL ⟨((⟨⟨v, a, cp, 1⟩, ⟨v, a, cp, 1⟩⟩ : StR) : StR).f, r0.t⟩).toArray rfl rfl _ _ hpz zgw rfl (zgy _) ?_)
   | (refine wpList_store_mid rfl 264 _ _ rfl w3.heap.size 5 (edL r0.t).toArray rfl rfl HTH.out zgx (zgz _) ?_; change wpList _ _ _ _ _ (w5.setCells w3.heap.size 5 (edL r0.t)); rw [HE6.out]; clear HTH HE6; have hpz := HP6.out; obtain ⟨q0, q1, q2, q3, q4, q5, q6, q7, q8, q9⟩ := zgn HA6.out))
  have hpz := HP6.out
  refine bodyPost_ret (VerC.zcj rfl _ _ w.heap.size _ (stL ⟨((⟨⟨v, a, cp, 1⟩, ⟨v, a, cp, 1⟩⟩ : StR) : StR).f, r0.t⟩).toArray _ _ rfl (setRow_heap _ _ _ _ _ _ hpz) Tryz.underlying266 rfl zgw) rfl ?_
  rw [HE.out]
  exact MaybeE.yes (below_setRow HB6.out (Nat.le_refl _) _) (by have h := HST.out; show (⟨_, _⟩ : St) = _; rw [show r0.t.ed = allS.t from h]; rfl) (HO6.out.keep (zhi hpz (by decide)) (fun j _ hj => Go.setRow_other _ _ _ _ hj))
 rcases Classical.em (sg = [62, 61]) with rfl | g5
 ·
  have k0 : (str [62, 61]).toList.isEmpty = false := by rw [ByteArray.toList_eq]; rfl
  have k1 : ((str [62, 61]).toList == ([61] : List UInt8)) = false := (zbt [62, 61] [61]).trans (by decide)
  have k2 : ((str [62, 61]).toList == ([60] : List UInt8)) = false := (zbt [62, 61] [60]).trans (by decide)
  have k3 : ((str [62, 61]).toList == ([60, 61] : List UInt8)) = false := (zbt [62, 61] [60, 61]).trans (by decide)
  have k4 : ((str [62, 61]).toList == ([62] : List UInt8)) = false := (zbt [62, 61] [62]).trans (by decide)
  have k5 : ((str [62, 61]).toList == ([62, 61] : List UInt8)) = true := (zbt [62, 61] [62, 61]).trans (by decide)
  have k6 : ((str [62, 61]).toList == ([94] : List UInt8)) = false := (zbt [62, 61] [94]).trans (by decide)
  have k7 : ((str [62, 61]).toList == ([126] : List UInt8)) = false := (zbt [62, 61] [126]).trans (by decide)
  have HE : Hid (cm = some ⟨⟨v, 0⟩, allS.t⟩) := hid (HE.out.trans rfl)
  have HXX := HX4
  have HPP := HN4
  have HZ := HZ4
  have HZP := HZP4
  have HBB := HB4
  have HKK := HK4
  clear hn4 f4 f9
  go_wp2_with (go_at_call 230; refine (zhl _).mono ?_; rintro e w5 ⟨r0, rfl, hst0, hok0, hb5⟩; refine Hid.out ?_)
  refine hid ?_
  have hft := zij r0
  have HST := hid (congrArg St.t hst0)
  have HX5 := hid ((hb5.block _ HZ.out).trans HXX.out)
  have hp5 := (hb5.block _ HZP.out).trans HPP.out
  have HB5 := hid (HBB.out.trans (hb5.mono HBB.out.size))
  have HO5 := hid hok0
  have HK5 : Hid (∀ s, s ≤ 1 → EdOk w5 ⟨v, a, cp, s⟩) := hid (fun s hs => (HKK.out s hs).gr hb5)
  clear hst0 hok0 hb5 HXX HPP HZP HBB HKK
  obtain ⟨w6, e6, hA6, hE6, -, hs6⟩ := zhg HX5.out r0.t
  have hp6 := (hE6 _ (by have := HPQ.out; omega)).trans hp5
  have hnq : ¬ IsText w5 w3.heap.size := zhi HX5.out (by decide)
  have HO6 : Hid (StOk w6 ⟨((⟨⟨v, a, cp, 0⟩, ⟨v, a, cp, 1⟩⟩ : StR) : StR).f, r0.t⟩) := hid ⟨(HK5.out _ (by show ((⟨⟨v, a, cp, 0⟩, ⟨v, a, cp, 1⟩⟩ : StR) : StR).f.s ≤ 1; simp)).keep hnq fun j _ hj => hE6 j hj, HO5.out.t.keep hnq fun j _ hj => hE6 j hj⟩
  have HB6 : Hid (Below w.heap.size w w6) := hid (by rw [← e6]; exact below_setCells HB5.out _ _ _ (by have := HPQ.out; omega))
  have HE6 := hid e6
  have HA6 := hid hA6
  have HP6 := hid hp6
  have HTH := hid (zhe (o := 5) (n := 5) HX5.out (by simp))
  clear e6 hA6 hE6 hs6 hnq hp5 hp6 HX5 HB5 HO5 HK5
  go_wp2_with (first
   | (refine wpList_store_row rfl 266 _ _ rfl w.heap.size (stL ⟨((⟨⟨v, a, cp, 0⟩, ⟨v, a, cp, 1⟩⟩ : StR) : StR).f, r0.t⟩).toArray rfl rfl _ _ hpz zgw rfl (zgy _) ?_)
   | (refine wpList_store_mid rfl 264 _ _ rfl w3.heap.size 5 (edL r0.t).toArray rfl rfl HTH.out zgx (zgz _) ?_; change wpList _ _ _ _ _ (w5.setCells w3.heap.size 5 (edL r0.t)); rw [HE6.out]; clear HTH HE6; have hpz := HP6.out; obtain ⟨q0, q1, q2, q3, q4, q5, q6, q7, q8, q9⟩ := zgn HA6.out))
  have hpz := HP6.out
  refine bodyPost_ret (VerC.zcj rfl _ _ w.heap.size _ (stL ⟨((⟨⟨v, a, cp, 0⟩, ⟨v, a, cp, 1⟩⟩ : StR) : StR).f, r0.t⟩).toArray _ _ rfl (setRow_heap _ _ _ _ _ _ hpz) Tryz.underlying266 rfl zgw) rfl ?_
  rw [HE.out]
  exact MaybeE.yes (below_setRow HB6.out (Nat.le_refl _) _) (by have h := HST.out; show (⟨_, _⟩ : St) = _; rw [show r0.t.ed = allS.t from h]; rfl) (HO6.out.keep (zhi hpz (by decide)) (fun j _ hj => Go.setRow_other _ _ _ _ hj))
 rcases Classical.em (sg = [94]) with rfl | g6
 ·
  have k0 : (str [94]).toList.isEmpty = false := by rw [ByteArray.toList_eq]; rfl
  have k1 : ((str [94]).toList == ([61] : List UInt8)) = false := (zbt [94] [61]).trans (by decide)
  have k2 : ((str [94]).toList == ([60] : List UInt8)) = false := (zbt [94] [60]).trans (by decide)
  have k3 : ((str [94]).toList == ([60, 61] : List UInt8)) = false := (zbt [94] [60, 61]).trans (by decide)
  have k4 : ((str [94]).toList == ([62] : List UInt8)) = false := (zbt [94] [62]).trans (by decide)
  have k5 : ((str [94]).toList == ([62, 61] : List UInt8)) = false := (zbt [94] [62, 61]).trans (by decide)
  have k6 : ((str [94]).toList == ([94] : List UInt8)) = true := (zbt [94] [94]).trans (by decide)
  have k7 : ((str [94]).toList == ([126] : List UInt8)) = false := (zbt [94] [126]).trans (by decide)
  have HE : Hid (cm = some ⟨⟨v, 0⟩, nextE v (heavy v)⟩) := hid (HE.out.trans rfl)
  go_wp2_with (go_at_call 253; refine (zik v a cp _).mono ?_; rintro e w7 ⟨rfl, hb7⟩; refine Hid.out ?_)
  refine hid ?_
  have HXX := hid ((hb7.block _ HZ4.out).trans HX4.out)
  have HPP := hid ((hb7.block _ HZP4.out).trans HN4.out)
  have HVV := hid ((hb7.block _ HVB.out).trans HV4.out)
  have HZ : Hid (w3.heap.size < w7.heap.size) := hid (Nat.lt_of_lt_of_le HZ4.out hb7.size)
  have HZP : Hid (w.heap.size < w7.heap.size) := hid (Nat.lt_of_lt_of_le HZP4.out hb7.size)
  have HBB := hid (HB4.out.trans (hb7.mono HB4.out.size))
  have HKK : Hid (∀ s, s ≤ 1 → EdOk w7 ⟨v, a, cp, s⟩) := hid (fun s hs => (HK4.out s hs).gr hb7)
  clear hb7 hn4 f4 f9 q0 q1 q2 q3 q4 q5 q6 q7 q8 q9 v0 v1 v2 v3
  obtain ⟨v0, v1, v2, v3⟩ := zch HVV.out
  go_wp2_with (go_at_call 254; refine (zim v a cp (heavy v) _ HMV.out (HKK.out 0 (by omega)).txs).mono ?_; rintro e w5 ⟨y, rfl, hy0, hok0, hb5⟩; refine Hid.out ?_)
  refine hid ?_
  have HST := hid hy0
  have HX5 := hid ((hb5.block _ HZ.out).trans HXX.out)
  have hp5 := (hb5.block _ HZP.out).trans HPP.out
  have HB5 := hid (HBB.out.trans (hb5.mono HBB.out.size))
  have HO5 := hid hok0
  have HK5 : Hid (∀ s, s ≤ 1 → EdOk w5 ⟨v, a, cp, s⟩) := hid (fun s hs => (HKK.out s hs).gr hb5)
  clear hy0 hok0 hb5 HXX HPP HZP HBB HKK
  obtain ⟨w6, e6, hA6, hE6, -, hs6⟩ := zhg HX5.out y
  have hp6 := (hE6 _ (by have := HPQ.out; omega)).trans hp5
  have hnq : ¬ IsText w5 w3.heap.size := zhi HX5.out (by decide)
  have HO6 : Hid (StOk w6 ⟨((⟨⟨v, a, cp, 0⟩, ⟨v, a, cp, 1⟩⟩ : StR) : StR).f, y⟩) := hid ⟨(HK5.out 0 (by omega)).keep hnq fun j _ hj => hE6 j hj, HO5.out.keep hnq fun j _ hj => hE6 j hj⟩
  have HB6 : Hid (Below w.heap.size w w6) := hid (by rw [← e6]; exact below_setCells HB5.out _ _ _ (by have := HPQ.out; omega))
  have HE6 := hid e6
  have HA6 := hid hA6
  have HP6 := hid hp6
  have HTH := hid (zhe (o := 5) (n := 5) HX5.out (by simp))
  clear e6 hA6 hE6 hs6 hnq hp5 hp6 HX5 HB5 HO5 HK5
  go_wp2_with (first
   | (refine wpList_store_row rfl 266 _ _ rfl w.heap.size (stL ⟨((⟨⟨v, a, cp, 0⟩, ⟨v, a, cp, 1⟩⟩ : StR) : StR).f, y⟩).toArray rfl rfl _ _ hpz zgw rfl (zgy _) ?_)
   | (refine wpList_store_mid rfl 264 _ _ rfl w3.heap.size 5 (edL y).toArray rfl rfl HTH.out zgx (zgz _) ?_; change wpList _ _ _ _ _ (w5.setCells w3.heap.size 5 (edL y)); rw [HE6.out]; clear HTH HE6; have hpz := HP6.out; obtain ⟨q0, q1, q2, q3, q4, q5, q6, q7, q8, q9⟩ := zgn HA6.out))
  have hpz := HP6.out
  refine bodyPost_ret (VerC.zcj rfl _ _ w.heap.size _ (stL ⟨((⟨⟨v, a, cp, 0⟩, ⟨v, a, cp, 1⟩⟩ : StR) : StR).f, y⟩).toArray _ _ rfl (setRow_heap _ _ _ _ _ _ hpz) Tryz.underlying266 rfl zgw) rfl ?_
  rw [HE.out]
  exact MaybeE.yes (below_setRow HB6.out (Nat.le_refl _) _) (by have h := HST.out; show (⟨_, _⟩ : St) = _; rw [show y.ed = nextE v (heavy v) from h]; rfl) (HO6.out.keep (zhi hpz (by decide)) (fun j _ hj => Go.setRow_other _ _ _ _ hj))
 rcases Classical.em (sg = [126]) with rfl | g7
 ·
  have k0 : (str [126]).toList.isEmpty = false := by rw [ByteArray.toList_eq]; rfl
  have k1 : ((str [126]).toList == ([61] : List UInt8)) = false := (zbt [126] [61]).trans (by decide)
  have k2 : ((str [126]).toList == ([60] : List UInt8)) = false := (zbt [126] [60]).trans (by decide)
  have k3 : ((str [126]).toList == ([60, 61] : List UInt8)) = false := (zbt [126] [60, 61]).trans (by decide)
  have k4 : ((str [126]).toList == ([62] : List UInt8)) = false := (zbt [126] [62]).trans (by decide)
  have k5 : ((str [126]).toList == ([62, 61] : List UInt8)) = false := (zbt [126] [62, 61]).trans (by decide)
  have k6 : ((str [126]).toList == ([94] : List UInt8)) = false := (zbt [126] [94]).trans (by decide)
  have k7 : ((str [126]).toList == ([126] : List UInt8)) = true := (zbt [126] [126]).trans (by decide)
  have HE : Hid (cm = some ⟨⟨v, 0⟩, nextE v 1⟩) := hid (HE.out.trans rfl)
  have HXX := HX4
  have HPP := HN4
  have HZ := HZ4
  have HZP := HZP4
  have HBB := HB4
  have HKK := HK4
  clear hn4 f4 f9
  go_wp2_with (go_at_call 254; refine (zim v a cp (1) _ HMV.out (HKK.out 0 (by omega)).txs).mono ?_; rintro e w5 ⟨y, rfl, hy0, hok0, hb5⟩; refine Hid.out ?_)
  refine hid ?_
  have HST := hid hy0
  have HX5 := hid ((hb5.block _ HZ.out).trans HXX.out)
  have hp5 := (hb5.block _ HZP.out).trans HPP.out
  have HB5 := hid (HBB.out.trans (hb5.mono HBB.out.size))
  have HO5 := hid hok0
  have HK5 : Hid (∀ s, s ≤ 1 → EdOk w5 ⟨v, a, cp, s⟩) := hid (fun s hs => (HKK.out s hs).gr hb5)
  clear hy0 hok0 hb5 HXX HPP HZP HBB HKK
  obtain ⟨w6, e6, hA6, hE6, -, hs6⟩ := zhg HX5.out y
  have hp6 := (hE6 _ (by have := HPQ.out; omega)).trans hp5
  have hnq : ¬ IsText w5 w3.heap.size := zhi HX5.out (by decide)
  have HO6 : Hid (StOk w6 ⟨((⟨⟨v, a, cp, 0⟩, ⟨v, a, cp, 1⟩⟩ : StR) : StR).f, y⟩) := hid ⟨(HK5.out 0 (by omega)).keep hnq fun j _ hj => hE6 j hj, HO5.out.keep hnq fun j _ hj => hE6 j hj⟩
  have HB6 : Hid (Below w.heap.size w w6) := hid (by rw [← e6]; exact below_setCells HB5.out _ _ _ (by have := HPQ.out; omega))
  have HE6 := hid e6
  have HA6 := hid hA6
  have HP6 := hid hp6
  have HTH := hid (zhe (o := 5) (n := 5) HX5.out (by simp))
  clear e6 hA6 hE6 hs6 hnq hp5 hp6 HX5 HB5 HO5 HK5
  go_wp2_with (first
   | (refine wpList_store_row rfl 266 _ _ rfl w.heap.size (stL ⟨((⟨⟨v, a, cp, 0⟩, ⟨v, a, cp, 1⟩⟩ : StR) : StR).f, y⟩).toArray rfl rfl _ _ hpz zgw rfl (zgy _) ?_)
   | (refine wpList_store_mid rfl 264 _ _ rfl w3.heap.size 5 (edL y).toArray rfl rfl HTH.out zgx (zgz _) ?_; change wpList _ _ _ _ _ (w5.setCells w3.heap.size 5 (edL y)); rw [HE6.out]; clear HTH HE6; have hpz := HP6.out; obtain ⟨q0, q1, q2, q3, q4, q5, q6, q7, q8, q9⟩ := zgn HA6.out))
  have hpz := HP6.out
  refine bodyPost_ret (VerC.zcj rfl _ _ w.heap.size _ (stL ⟨((⟨⟨v, a, cp, 0⟩, ⟨v, a, cp, 1⟩⟩ : StR) : StR).f, y⟩).toArray _ _ rfl (setRow_heap _ _ _ _ _ _ hpz) Tryz.underlying266 rfl zgw) rfl ?_
  rw [HE.out]
  exact MaybeE.yes (below_setRow HB6.out (Nat.le_refl _) _) (by have h := HST.out; show (⟨_, _⟩ : St) = _; rw [show y.ed = nextE v (1) from h]; rfl) (HO6.out.keep (zhi hpz (by decide)) (fun j _ hj => Go.setRow_other _ _ _ _ hj))
 have k0 : (str sg).toList.isEmpty = false := by
  rw [ByteArray.toList_eq, zbn]
  cases sg with
  | nil => exact absurd rfl g0
  | cons _ _ => rfl
 have k1 : ((str sg).toList == ([61] : List UInt8)) = false := (zbt sg [61]).trans (decide_eq_false g1)
 have k2 : ((str sg).toList == ([60] : List UInt8)) = false := (zbt sg [60]).trans (decide_eq_false g2)
 have k3 : ((str sg).toList == ([60, 61] : List UInt8)) = false := (zbt sg [60, 61]).trans (decide_eq_false g3)
 have k4 : ((str sg).toList == ([62] : List UInt8)) = false := (zbt sg [62]).trans (decide_eq_false g4)
 have k5 : ((str sg).toList == ([62, 61] : List UInt8)) = false := (zbt sg [62, 61]).trans (decide_eq_false g5)
 have k6 : ((str sg).toList == ([94] : List UInt8)) = false := (zbt sg [94]).trans (decide_eq_false g6)
 have k7 : ((str sg).toList == ([126] : List UInt8)) = false := (zbt sg [126]).trans (decide_eq_false g7)
 have HE2 : Hid (cm = none) := hid (by rw [HE.out]; unfold signM; simp [g0, g1, g2, g3, g4, g5, g6, g7])
 clear g0 g1 g2 g3 g4 g5 g6 g7
 go_wp2_with (refine wpList_store_row rfl 266 _ _ rfl w.heap.size (stL zeroR).toArray rfl rfl _ _ hn4 zgw rfl (zgy _) ?_)
 refine bodyPost_ret (VerC.zcj rfl _ _ w.heap.size _ (stL zeroR).toArray _ _ rfl (setRow_heap _ _ _ _ _ _ hn4) Tryz.underlying266 rfl zgw) rfl ?_
 rw [HE2.out]
 exact MaybeE.no (below_setRow HB4.out (Nat.le_refl _) _)
end SpanC
end
end Go.Proofs.YtfbegbmjmhnplaaGreatDoor
