/-
  Package span's heaviest and aheadOfNext: one contract a function.
-/
import Derived.Test.YtgoocnmbihjmlaaGreatDoorSpanMeet
import Derived.Test.YtgoocnmbihjmlaaGreatDoorVerNext
namespace Go.Proofs.YtgoocnmbihjmlaaGreatDoor
open Go.RowKit
namespace SpanC
open VerM SpanM StrC TextR VerC
set_option linter.unusedSimpArgs false

theorem field_f (r : StR) (w : World) : (Instr.field 84 (stV r) 0).run Tryz.prog w = .ok (edV r.f) w := by kernel_rfl
theorem field_t (r : StR) (w : World) : (Instr.field 84 (stV r) 1).run Tryz.prog w = .ok (edV r.t) w := by kernel_rfl
/-- the first part that is not 0; the last one, if all are -/
def heavy (v : Ver) : Int := if v.a ≠ 0 then 0 else if v.b ≠ 0 then 1 else 2
/-- the edge ahead of all versions with one more in a part -/
def nextE (v : Ver) (k : Int) : Ed := match nextV v k with
  | some u => ⟨leastV u, 0⟩
  | none => allS.t
set_option maxHeartbeats 2000000 in
set_option maxRecDepth 100000 in
theorem pheavy_any (v : Ver) (a : Option Addr) (c : Nat) (w : World) :
    Calls Tryz.prog 127 #[verV v.a v.b v.c a v.pre.length c] w fun e w' => e = .returned (.int .i64 (heavy v)) ∧ Below w.heap.size w w' := by
  have HB0 : Hid (Below w.heap.size w (w.alloc (verO v.a v.b v.c a v.pre.length c))) := Lib.hid ((Below.refl _ w).alloc (Nat.le_refl _) _)
  have HV : Hid (heavy v = if v.a ≠ 0 then 0 else if v.b ≠ 0 then 1 else 2) := Lib.hid rfl
  by_cases h1 : v.a = 0
  · by_cases h2 : v.b = 0
    · have d1 : ((v.a : Int) != 0) = false := by rw [h1]; rfl
      have d2 : ((v.b : Int) != 0) = false := by rw [h2]; rfl
      have HR : Hid (heavy v = 2) := Lib.hid (by rw [HV.out]; simp [h1, h2])
      clear h1 h2 HV
      go_enter Tryz.func127, Tryz.ntmps127
      go_wp2_with fail
      go_ret
      exact ⟨by rw [HR.out]; rfl, HB0.out⟩
    · have d1 : ((v.a : Int) != 0) = false := by rw [h1]; rfl
      have d2 : ((v.b : Int) != 0) = true := by rw [bne_iff_ne]; omega
      have HR : Hid (heavy v = 1) := Lib.hid (by rw [HV.out]; simp [h1, h2])
      clear h1 h2 HV
      go_enter Tryz.func127, Tryz.ntmps127
      go_wp2_with fail
      go_ret
      exact ⟨by rw [HR.out]; rfl, HB0.out⟩
  · have d1 : ((v.a : Int) != 0) = true := by rw [bne_iff_ne]; omega
    have HR : Hid (heavy v = 0) := Lib.hid (by rw [HV.out]; simp [h1])
    clear h1 HV
    go_enter Tryz.func127, Tryz.ntmps127
    go_wp2_with fail
    go_ret
    exact ⟨by rw [HR.out]; rfl, HB0.out⟩
theorem ed_onec (x : EdR) : ((edL x).toArray.all (·.oneCell')) = true := ed_one x
theorem nextV_may {v u : Ver} {k : Int} (hm : may v = true) (h : nextV v k = some u) : may u = true ∧ u.pre = [] := by
  obtain ⟨h1, h2, h3, -, -⟩ := may_parts hm
  have hz : (0 : Nat) ≤ mx := Nat.zero_le _
  unfold nextV at h
  split at h
  · split at h
    · cases h
    · cases h; exact ⟨may_yes (show v.a + 1 ≤ mx by omega) hz hz (Nat.zero_le _) rfl, rfl⟩
  · split at h
    · split at h
      · cases h
      · cases h; exact ⟨may_yes h1 (show v.b + 1 ≤ mx by omega) hz (Nat.zero_le _) rfl, rfl⟩
    · split at h
      · split at h
        · cases h
        · cases h; exact ⟨may_yes h1 h2 (show v.c + 1 ≤ mx by omega) (Nat.zero_le _) rfl, rfl⟩
      · cases h
set_option maxHeartbeats 4000000 in
set_option maxRecDepth 100000 in
theorem pahead_any (v : Ver) (a : Option Addr) (c : Nat) (k : Int) (w : World) (hm : may v = true) (hT : Txs w a c v.pre) :
    Calls Tryz.prog 128 #[verV v.a v.b v.c a v.pre.length c, .int .i64 k] w fun e w' => ∃ x : EdR, e = .returned (edV x) ∧ x.ed = nextE v k ∧ EdOk w' x ∧ Below w.heap.size w w' := by
  have hn := heap_alloc_new (w.alloc (verO v.a v.b v.c a v.pre.length c)) (.cells #[.int .u32 0, .int .u32 0, .int .u32 0, .slice none 0 0, .int .i64 0] 82)
  have hs1 : (w.alloc (verO v.a v.b v.c a v.pre.length c)).heap.size = w.heap.size + 1 := by simp
  rw [hs1] at hn
  have HB0 : Hid (Below w.heap.size w ((w.alloc (verO v.a v.b v.c a v.pre.length c)).alloc (.cells #[.int .u32 0, .int .u32 0, .int .u32 0, .slice none 0 0, .int .i64 0] 82))) := Lib.hid (((Below.refl _ w).alloc (Nat.le_refl _) _).alloc (by simp) _)
  have HNX := Lib.hid (pNext_any v k a c _ (hT.gr HB0.out))
  go_enter Tryz.func128, Tryz.ntmps128
  go_wp2_with fail
  generalize (w.alloc (verO v.a v.b v.c a v.pre.length c)).alloc (.cells #[.int .u32 0, .int .u32 0, .int .u32 0, .slice none 0 0, .int .i64 0] 82) = W at *
  have hlt : w.heap.size + 1 < W.heap.size := (Array.getElem?_eq_some_iff.1 hn).1
  refine HNX.out.mono ?_
  rintro e w1 ⟨rfl, hb1⟩
  refine Hid.out ?_
  refine Lib.hid ?_
  have hn1 := (hb1.block _ hlt).trans hn
  have HB1 := Lib.hid (HB0.out.trans (hb1.mono HB0.out.size))
  have hl1 : w.heap.size + 1 < w1.heap.size := (Array.getElem?_eq_some_iff.1 hn1).1
  clear hn hs1 hlt hb1 HB0 HNX
  rcases hnv : nextV v k with _ | u
  · obtain ⟨e1, e2⟩ := nx_none hm hnv
    rw [e1, e2]
    have HE : Hid (nextE v k = allS.t) := Lib.hid (by unfold nextE; rw [hnv])
    have hn2 := (heap_alloc_old w1 (verO 0 0 0 none 0 0) (r := w.heap.size + 1) hl1).trans hn1
    have HB2 := Lib.hid (HB1.out.alloc HB1.out.size (verO 0 0 0 none 0 0))
    have HN2 := Lib.hid hn2
    have hl2 : Hid (w.heap.size + 1 < (w1.alloc (verO 0 0 0 none 0 0)).heap.size) := Lib.hid (Array.getElem?_eq_some_iff.1 hn2).1
    clear hnv e1 e2 hn1 hl1 HB1 hn2
    go_wp2_with (go_at_call 54; refine (pall_any _).mono ?_; rintro e w2 ⟨r0, rfl, hst0, hok0, hb2⟩; refine Hid.out ?_)
    refine Lib.hid ?_
    have hn3 := (hb2.block _ hl2.out).trans HN2.out
    have HB3 := Lib.hid (HB2.out.trans (hb2.mono HB2.out.size))
    have HST := Lib.hid (congrArg St.t hst0)
    have HOK := Lib.hid hok0.t
    have hft := field_t r0
    clear hst0 hb2 hok0 hl2 HN2 HB2
    go_wp2_with (refine wpList_store_row rfl 82 _ _ rfl (w.heap.size + 1) (edL r0.t).toArray rfl rfl _ _ hn3 info_ed rfl (ed_one _) ?_)
    refine bodyPost_ret (results_cell_row rfl _ _ (w.heap.size + 1) 82 (edL r0.t).toArray _ _ rfl (setRow_heap _ _ _ _ _ _ hn3) Tryz.underlying82 rfl info_ed) rfl ?_
    exact ⟨r0.t, rfl, by rw [HE.out]; exact HST.out, HOK.out.keep (no_text hn3 (by decide)) (fun j _ hj => Go.setRow_other _ _ _ _ hj), below_setRow HB3.out (by omega) _⟩
  · obtain ⟨e1, e2⟩ := nx_some hm hnv
    rw [e1, e2]
    obtain ⟨hmu, hpu⟩ := nextV_may hm hnv
    have HE : Hid (nextE v k = ⟨leastV u, 0⟩) := Lib.hid (by unfold nextE; rw [hnv])
    have HL := Lib.hid (fun w' => (pLeast_any u none 0 w' (by rw [hpu]; exact Txs.nil _ _ _)).mono fun e w'' (h : LeastE u w' e w'') => (⟨h.2.2 hmu, h.1⟩ : (∃ g, e = .returned (.tuple #[verV u.a u.b u.c (some ⟨g, 0, none⟩) 1 1, .int .i64 0]) ∧ LeastI w' w'' g) ∧ Below w'.heap.size w' w''))
    rw [hpu] at HL
    have HMU := Lib.hid hmu
    have hn2 := (heap_alloc_old w1 (verO u.a u.b u.c none 0 0) (r := w.heap.size + 1) hl1).trans hn1
    have HB2 := Lib.hid (HB1.out.alloc HB1.out.size (verO u.a u.b u.c none 0 0))
    have HN2 := Lib.hid hn2
    have hl2 : Hid (w.heap.size + 1 < (w1.alloc (verO u.a u.b u.c none 0 0)).heap.size) := Lib.hid (Array.getElem?_eq_some_iff.1 hn2).1
    clear hnv e1 e2 hn1 hl1 HB1 hn2 hmu hpu
    go_wp2_with (go_at_call 85; refine (HL.out _).mono ?_; rintro e w2 ⟨⟨g, rfl, hL⟩, hb2⟩; refine Hid.out ?_)
    refine Lib.hid ?_
    have hn3 := (hb2.block _ hl2.out).trans HN2.out
    have HB3 := Lib.hid (HB2.out.trans (hb2.mono HB2.out.size))
    have hl3 : w.heap.size + 1 < w2.heap.size := (Array.getElem?_eq_some_iff.1 hn3).1
    have hn4 := (heap_alloc_old w2 (verO u.a u.b u.c (some ⟨g, 0, none⟩) 1 1) (r := w.heap.size + 1) hl3).trans hn3
    have HB4 := Lib.hid (HB3.out.alloc HB3.out.size (verO u.a u.b u.c (some ⟨g, 0, none⟩) 1 1))
    have HTX := Lib.hid (hL.txs.alloc (verO u.a u.b u.c (some ⟨g, 0, none⟩) 1 1))
    have HKI := Lib.hid (hL.kind.below ((Below.refl _ w2).alloc (Nat.le_refl _) (verO u.a u.b u.c (some ⟨g, 0, none⟩) 1 1)))
    have HLM : Hid (may (leastV u) = true) := Lib.hid (by
      obtain ⟨h1, h2, h3, -, -⟩ := may_parts HMU.out
      exact may_yes h1 h2 h3 (by show 1 ≤ 8; omega) rfl)
    clear hL hb2 hn3 hl3 hl2 HN2 HB2 HB3 HL
    go_wp2_with (refine wpList_store_row rfl 82 _ _ rfl (w.heap.size + 1) (edL ⟨leastV u, some ⟨g, 0, none⟩, 1, 0⟩).toArray rfl rfl _ _ hn4 info_ed rfl (ed_one _) ?_)
    refine bodyPost_ret (results_cell_row rfl _ _ (w.heap.size + 1) 82 (edL ⟨leastV u, some ⟨g, 0, none⟩, 1, 0⟩).toArray _ _ rfl (setRow_heap _ _ _ _ _ _ hn4) Tryz.underlying82 rfl info_ed) rfl ?_
    exact ⟨⟨leastV u, some ⟨g, 0, none⟩, 1, 0⟩, rfl, HE.out.symm, EdOk.keep ⟨⟨HLM.out, by show 0 ≤ 2; omega, fun h => by cases h⟩, HTX.out, fun b f e => (by cases e; exact HKI.out), fun e => (by cases e)⟩ (no_text hn4 (by decide)) (fun j _ hj => Go.setRow_other _ _ _ _ hj), below_setRow HB4.out (by omega) _⟩
end SpanC
end Go.Proofs.YtgoocnmbihjmlaaGreatDoor
