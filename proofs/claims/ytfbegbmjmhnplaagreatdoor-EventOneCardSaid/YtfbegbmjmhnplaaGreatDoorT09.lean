/-
  What the proof of EvBoth stands on, part 9.
-/
import Derived.Shelf.Spec.SlicesGrow
import Derived.Shelf.Strings.SlTrimAscii
import Derived.Test.YtfbegbmjmhnplaaGreatDoorT08
set_option linter.unusedSimpArgs false
set_option linter.unusedVariables false
set_option maxHeartbeats 16000000
namespace Go.Proofs.YtfbegbmjmhnplaaGreatDoor
open Go.Lib (hid)
section
open Go.RowKit
namespace SpanC
open VerM SpanM StrC TextR VerC Go.Sort Go.Shelf
theorem zif {w : World} {B g n cp : Nat} {A : List StR} {x : StR} (h : w.ownsRow B 266 10 (.slice (some ⟨g, 0, none⟩) n cp) n (A.flatMap stL)) (hA : A.length = n) (p : Nat) (hp : A[p]? = some x) (y : EdR) :
 (w.setCells g (p * 10 + 5) (edL y)).ownsRow B 266 10 (.slice (some ⟨g, 0, none⟩) n cp) n ((A.set p ⟨x.f, y⟩).flatMap stL) := by
 have hlt := (List.getElem?_eq_some_iff.1 hp).1
 refine RowKC.own_put h (p * 10 + 5) (edL y) (by simp; omega) (by rw [RowKC.zgf stL 10 zhm, List.length_set, hA]) fun t ht => ?_
 rw [RowKC.zge stL 10 zhm _ t (by rw [List.length_set, hA]; exact ht), RowKC.zge stL 10 zhm A t (by rw [hA]; exact ht), RowKC.zhu A p _ _ hlt]
 have hx : A[p]! = x := by rw [getElem!_pos A p hlt]; rw [List.getElem?_eq_getElem hlt] at hp; exact Option.some.inj hp
 by_cases hq : t / 10 = p
 · rw [if_pos hq, hq, hx]
   obtain ⟨c, hc, rfl⟩ : ∃ c, c < 10 ∧ t = p * 10 + c := ⟨t % 10, Nat.mod_lt _ (by decide), by omega⟩
   rw [show (p * 10 + c) % 10 = c from by omega]
   match c, hc with
   | 0, _ => rw [if_neg (by omega)]; rfl
   | 1, _ => rw [if_neg (by omega)]; rfl
   | 2, _ => rw [if_neg (by omega)]; rfl
   | 3, _ => rw [if_neg (by omega)]; rfl
   | 4, _ => rw [if_neg (by omega)]; rfl
   | 5, _ => rw [if_pos (by simp), show p * 10 + 5 - (p * 10 + 5) = 0 from by omega]; rfl
   | 6, _ => rw [if_pos (by simp), show p * 10 + 6 - (p * 10 + 5) = 1 from by omega]; rfl
   | 7, _ => rw [if_pos (by simp), show p * 10 + 7 - (p * 10 + 5) = 2 from by omega]; rfl
   | 8, _ => rw [if_pos (by simp), show p * 10 + 8 - (p * 10 + 5) = 3 from by omega]; rfl
   | 9, _ => rw [if_pos (by simp), show p * 10 + 9 - (p * 10 + 5) = 4 from by omega]; rfl
 · rw [if_neg hq, if_neg (by simp; omega)]
theorem zig {w : World} {B B' : Nat} {v : Value} {L : List StR} (h : StRow w B v L) (hb : B' ≤ B) : StRow w B' v L := by
 obtain ⟨hl, ⟨h0, h1⟩ | ⟨g', cp', cur, e1, hbase, hb', h1, h2, h3, h4⟩⟩ := h
 · exact ⟨hl, .inl ⟨h0, h1⟩⟩
 · exact ⟨hl, .inr ⟨g', cp', cur, e1, by omega, hb', h1, h2, h3, h4⟩⟩
structure FormI (D : List StR) (w2 wq : World) (u : Value) (A : List StR) (k : Nat) : Prop where
 put : PutI (D.map StR.st) k (A.map StR.st)
 row : StRow wq w2.heap.size u A
 ok : AllOk wq A
 below : Below w2.heap.size w2 wq
 len : A.length ≤ k
theorem FormI.le {D : List StR} {w2 wq : World} {u : Value} {A : List StR} {k : Nat} (h : FormI D w2 wq u A k) : k ≤ D.length := by have := h.put.le; rwa [List.length_map] at this
set_option maxRecDepth 100000 in
theorem zih (v : Value) (L : List StR) (w : World) (B : Nat) (hB : B ≤ w.heap.size) (hr : StRow w B v L) (hok : AllOk w L) (hl : L.length ≤ 1000000) :
 Calls Tryz.prog 209 #[v] w fun e w' => ∃ u R, e = .returned u ∧ StRow w' B u R ∧ AllOk w' R ∧ R.map StR.st = formM (L.map StR.st) ∧ Below B w w' ∧ Els v.ownBlock w w' := by
 obtain ⟨i0, hi, hz0, hz1, hz2⟩ := info_parts zhr
 have HDL := hid (zib v L w B hB hr hok hl)
 obtain ⟨ob, hob⟩ : ∃ ob, v.ownBlock = ob := ⟨_, rfl⟩
 rw [hob] at HDL ⊢
 clear hob
 have HBB := hid hB
 have HFS : Hid (∀ e, inL e ((full L).map StR.st) ↔ inL e (L.map StR.st)) := hid (fun e => by
  constructor
  · rintro ⟨s, hs, hi⟩
    obtain ⟨x, hx, rfl⟩ := List.mem_map.1 hs
    exact ⟨_, List.mem_map.2 ⟨x, (List.mem_filter.1 hx).1, rfl⟩, hi⟩
  · rintro ⟨s, hs, hi⟩
    obtain ⟨x, hx, rfl⟩ := List.mem_map.1 hs
    refine ⟨_, List.mem_map.2 ⟨x, List.mem_filter.2 ⟨hx, ?_⟩, rfl⟩, hi⟩
    have := zfr hi
    unfold empB
    simpa using this)
 have HFE : Hid (∀ x ∈ full L, cE x.st.f x.st.t < 0) := hid (fun x hx => by
  have := (List.mem_filter.1 hx).2
  unfold empB at this
  simpa using this)
 have hfl : (full L).length ≤ 1000000 := Nat.le_trans (List.length_filter_le _ _) hl
 clear hr hok hB hl
 generalize full L = F at *
 go_enter Tryz.func209, Tryz.ntmps209
 go_wp2_with (go_at_call 233; refine HDL.out.mono ?_; rintro e w1 ⟨u1, rfl, hr1, hok1, hb1, he1, ho1⟩; refine Hid.out ?_)
 refine hid ?_
 have HB1 := hid hb1
 have HE1 := hid he1
 have HO1 := hid ho1
 clear HDL hb1 he1 ho1
 rcases Nat.eq_zero_or_pos F.length with hF0 | hF0
 · have hF : F = [] := List.length_eq_zero_iff.1 hF0
   subst hF
   obtain ⟨va, cp, rfl⟩ := hr1.value
   have HSF := hid (fun fv W => AnyF.slices_SortFunc_none Tryz.sortSt va cp fv W)
   have HE : Hid ([] = formM (L.map StR.st)) := hid (zgc Can.nil HFS.out)
   clear hr1 hok1
   go_wp2_with (go_at_call 235; refine (HSF.out _ _).mono ?_; rintro e w' ⟨rfl, rfl⟩)
   refine wp_loop_rounds 1 ?_
   rw [rounds_succ]
   go_wp2_with fail
   go_ret
   exact ⟨_, [], rfl, World.ownsRow_nil _ _ _ _, fun x h => (by cases h), HE.out, HB1.out, HE1.out⟩
 obtain ⟨va, cp, rfl⟩ := hr1.value
 obtain ⟨g, rfl, -, hcp, hBg, hgl, hng, -, -, -⟩ := hr1.there 0 hF0
 obtain ⟨d, HD1, HD2⟩ : ∃ d : Array (TS w1), Hid (d.toList.flatMap encTS = F.flatMap stL) ∧ Hid (d.toList.map (·.x) = F) := by
  refine ⟨(F.attach.map fun x => (⟨x.1, hok1 x.1 x.2⟩ : TS w1)).toArray, hid ?_, hid ?_⟩
  · simp only [List.toList_toArray, List.flatMap_map]
    rw [show (fun x : { x // x ∈ F } => encTS (⟨x.1, hok1 x.1 x.2⟩ : TS w1)) = fun x : { x // x ∈ F } => stL x.1 from rfl]
    simp
  · simp only [List.toList_toArray, List.map_map]
    rw [show ((·.x) ∘ fun x : { x // x ∈ F } => (⟨x.1, hok1 x.1 x.2⟩ : TS w1)) = fun x : { x // x ∈ F } => x.1 from rfl]
    simp
 have hdl : d.size = F.length := by have := congrArg List.length HD2.out; simpa using this
 have hown := hr1
 unfold StRow at hown
 rw [← HD1.out, ← hdl] at hown
 have HSF := hid (zid g cp w1 d (RowKC.zgi encTS 10 (fun _ => rfl) hown) hgl hng (by omega))
 have HOWN := hid hown
 have HNG := hid hng
 rw [hdl] at HSF
 clear hown HD1 hok1 hr1 hng
 go_wp2_with (go_at_call 235; refine HSF.out.mono ?_; rintro e w' ⟨rfl, d', nn, os, hpm, hst, rfl⟩; refine Hid.out ?_)
 refine hid ?_
 obtain ⟨hs1, hs2, hs3⟩ := zie (by rw [hdl]; exact hpm) (by rw [hdl]; exact hst)
 rw [hdl] at HOWN hs1
 have own2 := RowKC.zgm encTS 10 (fun _ => rfl) (n := nn) (os := os) hs1 HOWN.out
 have HB2 : Hid (Below B w (sortWorldK encTS 10 w1 g 0 nn d' os)) := hid (HB1.out.grown (RowKC.zgk encTS 10 d') (Nat.le_trans HBB.out HB1.out.size) (fun j hj => by cases hj; exact hBg))
 have HE2 : Hid (Els ob w (sortWorldK encTS 10 w1 g 0 nn d' os)) := hid (fun k hk hn => ((RowKC.zgk encTS 10 d').block k (Nat.lt_of_lt_of_le hk HB1.out.size) (fun e => hn (by rw [← HO1.out, e]; rfl))).trans (HE1.out k hk hn))
 obtain ⟨D, hD⟩ : ∃ D : List StR, d'.toList.map (·.x) = D := ⟨_, rfl⟩
 have hDl : D.length = F.length := by rw [← hD]; simp [hs1]
 have HOKD : Hid (AllOk (sortWorldK encTS 10 w1 g 0 nn d' os) D) := hid (fun y hy => by
  rw [← hD] at hy
  obtain ⟨z, _, rfl⟩ := List.mem_map.1 hy
  exact ts_at z _ _ _ _ _ _ HNG.out)
 have HROW : Hid (StRow (sortWorldK encTS 10 w1 g 0 nn d' os) B (.slice (some ⟨g, 0, none⟩) F.length cp) D) := hid (by
  unfold StRow
  rw [hDl, ← hD, List.flatMap_map]
  exact own2)
 have hmem : ∀ x, x ∈ D ↔ x ∈ F := fun x => by rw [← hD, hs3, HD2.out]
 have HRI : Hid (Rises (D.map StR.st)) := hid ⟨by rw [← hD, List.map_map]; exact hs2, fun s hs => by
  obtain ⟨x, hx, rfl⟩ := List.mem_map.1 hs
  exact HFE.out x ((hmem x).1 hx)⟩
 have HSET : Hid (∀ e, inL e (D.map StR.st) ↔ inL e (L.map StR.st)) := hid (fun e => by
  rw [← HFS.out]
  constructor
  · rintro ⟨s, hs, hi⟩
    obtain ⟨x, hx, rfl⟩ := List.mem_map.1 hs
    exact ⟨_, List.mem_map.2 ⟨x, (hmem x).1 hx, rfl⟩, hi⟩
  · rintro ⟨s, hs, hi⟩
    obtain ⟨x, hx, rfl⟩ := List.mem_map.1 hs
    exact ⟨_, List.mem_map.2 ⟨x, (hmem x).2 hx, rfl⟩, hi⟩)
 clear hs1 hs2 hs3 own2 hD hmem hpm hst HSF HOWN HNG HD2 hdl HB1 hgl
 generalize sortWorldK encTS 10 w1 g 0 nn d' os = w2 at *
 have HDB : Hid (D.length ≤ 1000000) := hid (by omega)
 rw [← hDl] at *
 clear hDl
 go_wp2_with fail
 go_loopw [3, 5, 6, 13, 20, 38] (fun u _ _ i _ _ wq => ∃ (k : Nat) (A : List StR), i = .int .i64 k ∧ Hid (FormI D w2 wq u A k)) (fun _ _ _ i _ _ _ => D.length - (intOf i).toNat)
 case atStart => exact ⟨0, [], rfl, hid ⟨PutI.start _, World.ownsRow_nil _ _ _ _, fun x h => (by cases h), Below.refl _ _, Nat.le_refl _⟩⟩
 case round =>
  obtain ⟨k, A, rfl, HI⟩ := hrel
  rename World => wq
  have hkl := HI.out.le
  by_cases hlt : k < D.length
  · have hdec : decide (k < D.length) = true := by simpa using hlt
    obtain ⟨g', x, hx, hxm, hxs, hge, -, -, hg, -, -, c0, c1, c2, c3, c4, c5, c6, c7, c8, c9⟩ := (HROW.out.below HI.out.below).at k hlt
    cases hge
    have HXS : Hid ((D.map StR.st)[k]? = some x.st) := hid (by rw [List.getElem?_map, hxs]; rfl)
    have HXO := hid ((HOKD.out x hxm).gr HI.out.below)
    obtain ⟨va, cpA, rfl⟩ := HI.out.row.value
    have HAL : Hid (A.length ≤ 1000000) := hid (by have h := HI.out.len; have h2 := HDB.out; omega)
    have HLK := hid HI.out.len
    have hkb : k + 1 ≤ 1000001 := by have := HDB.out; omega
    have hnx := heap_alloc_new wq (stO x)
    have hgx : wq.heap.size < (wq.alloc (stO x)).heap.size := by simp
    have hB4 : Below wq.heap.size wq (wq.alloc (stO x)) := (Below.refl _ wq).alloc (Nat.le_refl _) _
    have HY4 := hid (HXO.out.gr hB4)
    have HO4 := hid (HI.out.row.below hB4)
    have HA4 := hid (HI.out.ok.gr hB4)
    have HB4 := hid (HI.out.below.alloc HI.out.below.size (stO x))
    clear hx hxm hxs hB4
    go_upto_region 8 with fail
    clear c0 c1 c2 c3 c4 c5 c6 c7 c8 c9
    obtain ⟨q0, q1, q2, q3, q4, q5, q6, q7, q8, q9⟩ := zgn hnx
    generalize hw4 : wq.alloc (stO x) = w4 at *
    have HN4 := hid hnx
    clear hnx hw4
    have k0 := cell_regrown q0
    have k1 := cell_regrown q1
    have k2 := cell_regrown q2
    have k3 := cell_regrown q3
    have k4 := cell_regrown q4
    have k5 := cell_regrown q5
    have k6 := cell_regrown q6
    have k7 := cell_regrown q7
    have k8 := cell_regrown q8
    have k9 := cell_regrown q9
    clear q0 q1 q2 q3 q4 q5 q6 q7 q8 q9
    rcases List.eq_nil_or_concat A with rfl | ⟨A', y, hAe⟩
    · have HMORE : Hid (PutI (D.map StR.st) (k + 1) (([] : List StR).map StR.st ++ [x].map StR.st)) := hid (HI.out.put.more HRI.out HXS.out (fun z hz => (by cases hz)))
      simp only [List.length_nil] at *
      rw [show wrap64 (((0 : Nat) : Int) - 1) = -1 from by unfold wrap64; omega]
      go_wp2_with fail
      refine wp_region_quiet_below (by kernel_rfl) (by kernel_rfl) ?_
      repeat (first | go_big_quiet_step (fail) | quiet_step (fail))
      refine wpQuiet_nil ?_
      intro _ hw'
      obtain ⟨⟨dq, osq⟩, hw''⟩ := hw'
      subst hw''
      have HBQ := hid (below_regrown w4 dq osq)
      clear k0 k1 k2 k3 k4 k5 k6 k7 k8 k9
      generalize Go.Sort.grow (redrawn w4 dq) osq = w5 at *
      have hn5 := (HBQ.out.block _ hgx).trans HN4.out
      obtain ⟨q0, q1, q2, q3, q4, q5, q6, q7, q8, q9⟩ := zgn hn5
      have hown5 := HO4.out.below HBQ.out
      unfold StRow at hown5
      have HO5 := hid hown5
      have HB5 := hid (HB4.out.trans (HBQ.out.mono HB4.out.size))
      have HA5 := hid (HA4.out.gr HBQ.out)
      have HY5 := hid (HY4.out.gr HBQ.out)
      have HSZ := hid HB5.out.size
      clear hn5 HBQ HB4 HA4 HY4 HN4 HO4 hgx
      go_wp2_with (at_builtin; refine wpList_append_own _ rfl _ _ 228 rfl w2.heap.size 266 i0 _ 10 96 Tryz.underlying228 hi hz0 hz1 hz2 rfl (by decide) _ _ _ rfl (hown5.alloc _) ⟨w5.heap.size, 0, none⟩ 1 1 (stL x) rfl rfl ?c1 ?c2 ?c3 ?c4 ?c5 ?_)
      case c1 => exact zho w5 (stL x) 266
      case c2 => exact zhq x
      case c3 => simp [maxLen]
      case c4 => simp
      case c5 => have := HSZ.out; simp; omega
      intro v' w6 hown6 hg6 _
      have HNEXT : Hid (FormI D w2 w6 v' ([] ++ [x]) (k + 1)) := hid ⟨by rw [List.map_append]; exact HMORE.out, by
       unfold StRow
       rw [List.flatMap_append, List.length_append]
       simpa using hown6, fun z hz => by
       have key : ∀ z, StOk w5 z → StOk w6 z := fun z hz => zhp (hz.gr ((Below.refl _ w5).alloc (Nat.le_refl _) _)) (HO5.out.alloc _) (by decide) hg6
       rcases List.mem_append.1 hz with hz | hz
       · exact key z (HA5.out z hz)
       · rw [List.mem_singleton.1 hz]; exact key _ HY5.out, (HB5.out.alloc HB5.out.size _).grown hg6 (by simp; have := HB5.out.size; omega) (fun j hj => (World.ownsRow.lt HO5.out j hj).1), by simp⟩
      clear hown6 hg6 hown5
      go_wp2_with fail
      go_roundw
      case rel => exact ⟨k + 1, _, by go_num, HNEXT⟩
      case measure => simp [intOf]; omega
    · rw [List.concat_eq_append] at hAe
      subst hAe
      have hAl : (A' ++ [y]).length = A'.length + 1 := by simp
      obtain ⟨p, hp⟩ : ∃ p, A'.length = p := ⟨_, rfl⟩
      have hsub : ((p + 1 : Nat) : Int) - 1 = (p : Int) := by omega
      have hneg : decide ((p : Int) < 0) = false := decide_eq_false (by omega)
      obtain ⟨g2, z, hz, hzm, hzs, rfl, -, -, hg2l, -, -, z0, z1, z2, z3, z4, z5, z6, z7, z8, z9⟩ := HO4.out.at p (by rw [hAl]; omega)
      have hzy : z = y := by
       rw [← hp, List.getElem?_append_right (Nat.le_refl _), Nat.sub_self] at hzs
       exact (Option.some.inj hzs).symm
      subst hzy
      have HP := hid hp
      have HAL' : Hid ((A' ++ [z]).length = p + 1) := hid (by rw [hAl, hp])
      have HPB : Hid (p + 1 ≤ 1000000) := hid (by have h := HAL.out; rwa [HAL'.out] at h)
      have HO4' : Hid (w4.ownsRow w2.heap.size 266 10 (.slice (some ⟨g2, 0, none⟩) (p + 1) cpA) (p + 1) ((A' ++ [z]).flatMap stL)) := hid (by have h := HO4.out; unfold StRow at h; rwa [hAl, hp] at h)
      have HZ4 := hid (HA4.out z hzm)
      rw [hAl, hp]
      have e5 := cell_regrown z5
      have e6 := cell_regrown z6
      have e7 := cell_regrown z7
      have e8 := cell_regrown z8
      have e9 := cell_regrown z9
      obtain ⟨r1, hr1⟩ : ∃ r, cE z.t.ed x.f.ed = r := ⟨_, rfl⟩
      obtain ⟨r2, hr2⟩ : ∃ r, cE z.t.ed x.t.ed = r := ⟨_, rfl⟩
      have HCC := hid (fun d os => zgs z.t x.f (Go.Sort.grow (redrawn w4 d) os) ((HZ4.out.gr (below_regrown w4 d os)).t) ((HY4.out.gr (below_regrown w4 d os)).f))
      rw [hr1] at HCC
      have cC : ∀ d os, Calls Tryz.prog 237 #[edV z.t, edV x.f] (Go.Sort.grow (redrawn w4 d) os) _ := fun d os => Calls.regrown_of ((HCC.out d os).mono fun _ _ h => ⟨h.1, h.2.below⟩)
      have HR1 := hid hr1
      have HR2 := hid hr2
      clear hr1 hr2 hz hzs hzm z0 z1 z2 z3 z4 z5 z6 z7 z8 z9 hAl hp
      have hwp : wrap64 (((p + 1 : Nat) : Int) - 1) = (p : Int) := by have := HPB.out; unfold wrap64; omega
      rw [hwp]
      by_cases h1 : r1 < 0
      · have d1 : decide (r1 < 0) = true := decide_eq_true h1
        have HMORE : Hid (PutI (D.map StR.st) (k + 1) ((A' ++ [z]).map StR.st ++ [x].map StR.st)) := hid (HI.out.put.more HRI.out HXS.out (by
         have hc := HI.out.put.can
         rw [List.map_append] at hc ⊢
         exact hc.ends (by show cE z.t.ed x.f.ed < 0; rw [HR1.out]; exact h1)))
        clear h1 hsub
        go_wp2_with fail
        refine wp_region_quiet_below (by kernel_rfl) (by kernel_rfl) ?_
        repeat (first | go_big_quiet_step (exact cC _ _) | quiet_step (exact cC _ _))
        refine wpQuiet_nil ?_
        intro _ hw'
        obtain ⟨⟨dq, osq⟩, hw''⟩ := hw'
        subst hw''
        have HBQ := hid (below_regrown w4 dq osq)
        clear k0 k1 k2 k3 k4 k5 k6 k7 k8 k9 e5 e6 e7 e8 e9 cC HCC
        generalize Go.Sort.grow (redrawn w4 dq) osq = w5 at *
        have hn5 := (HBQ.out.block _ hgx).trans HN4.out
        obtain ⟨q0, q1, q2, q3, q4, q5, q6, q7, q8, q9⟩ := zgn hn5
        have hown5 : w5.ownsRow w2.heap.size 266 10 (.slice (some ⟨g2, 0, none⟩) (p + 1) cpA) (p + 1) ((A' ++ [z]).flatMap stL) := World.ownsRow.kept HO4'.out (zgd HBQ.out) (Classical.em _)
        have HO5 := hid hown5
        have HB5 := hid (HB4.out.trans (HBQ.out.mono HB4.out.size))
        have HA5 := hid (HA4.out.gr HBQ.out)
        have HY5 := hid (HY4.out.gr HBQ.out)
        have HSZ := hid HB5.out.size
        clear hn5 HBQ HB4 HA4 HY4 HN4 HO4 HO4' hgx
        go_wp2_with (at_builtin; refine wpList_append_own _ rfl _ _ 228 rfl w2.heap.size 266 i0 _ 10 96 Tryz.underlying228 hi hz0 hz1 hz2 rfl (by decide) _ _ _ rfl (hown5.alloc _) ⟨w5.heap.size, 0, none⟩ 1 1 (stL x) rfl rfl ?c1 ?c2 ?c3 ?c4 ?c5 ?_)
        case c1 => exact zho w5 (stL x) 266
        case c2 => exact zhq x
        case c3 => have := HPB.out; unfold maxLen; omega
        case c4 => have := HPB.out; omega
        case c5 => have := HSZ.out; simp; omega
        intro v' w6 hown6 hg6 _
        have HNEXT : Hid (FormI D w2 w6 v' ((A' ++ [z]) ++ [x]) (k + 1)) := hid ⟨by rw [List.map_append]; exact HMORE.out, by
         unfold StRow
         rw [List.flatMap_append, List.length_append, HAL'.out]
         simpa using hown6, fun z hz => by
         have key : ∀ z, StOk w5 z → StOk w6 z := fun z hz => zhp (hz.gr ((Below.refl _ w5).alloc (Nat.le_refl _) _)) (HO5.out.alloc _) (by decide) hg6
         rcases List.mem_append.1 hz with hz | hz
         · exact key z (HA5.out z hz)
         · rw [List.mem_singleton.1 hz]; exact key _ HY5.out, (HB5.out.alloc HB5.out.size _).grown hg6 (by simp; have := HB5.out.size; omega) (fun j hj => (World.ownsRow.lt HO5.out j hj).1), by have := HLK.out; simp at this ⊢; omega⟩
        clear hown6 hg6 hown5
        go_wp2_with fail
        go_roundw
        case rel => exact ⟨k + 1, _, by go_num, HNEXT⟩
        case measure => simp [intOf]; omega
      · have d1 : decide (r1 < 0) = false := decide_eq_false h1
        have HGE : Hid (cE x.st.f z.st.t ≤ 0) := hid (by have := zfq x.f.ed z.t.ed; show cE x.f.ed z.t.ed ≤ 0; have h := HR1.out; omega)
        clear h1 hsub
        go_wp2_with fail
        refine wp_region_quiet_below (by kernel_rfl) (by kernel_rfl) ?_
        repeat (first | go_big_quiet_step (exact cC _ _) | quiet_step (exact cC _ _))
        refine wpQuiet_nil ?_
        intro _ hw'
        obtain ⟨⟨dq, osq⟩, hw''⟩ := hw'
        subst hw''
        have HBQ := hid (below_regrown w4 dq osq)
        clear k0 k1 k2 k3 k4 k5 k6 k7 k8 k9 e5 e6 e7 e8 e9 cC HCC
        generalize Go.Sort.grow (redrawn w4 dq) osq = w5 at *
        have hn5 := (HBQ.out.block _ hgx).trans HN4.out
        have hO5 : w5.ownsRow w2.heap.size 266 10 (.slice (some ⟨g2, 0, none⟩) (p + 1) cpA) (p + 1) ((A' ++ [z]).flatMap stL) := World.ownsRow.kept HO4'.out (zgd HBQ.out) (Classical.em _)
        have HO5 := hid hO5
        have HB5 := hid (HB4.out.trans (HBQ.out.mono HB4.out.size))
        have HA5 := hid (HA4.out.gr HBQ.out)
        have HY5 := hid (HY4.out.gr HBQ.out)
        have HZ5 := hid (HZ4.out.gr HBQ.out)
        have hgx5 : wq.heap.size < w5.heap.size := Nat.lt_of_lt_of_le hgx HBQ.out.size
        have HG2 : Hid (w2.heap.size ≤ g2) := hid (World.ownsRow.lt HO5.out g2 rfl).1
        have hg25 : g2 < w5.heap.size := (World.ownsRow.lt HO5.out g2 rfl).2
        clear HBQ HB4 HA4 HY4 HN4 HO4 HO4' HZ4 hgx hg2l
        go_upto_region 10 with fail
        obtain ⟨q0, q1, q2, q3, q4, q5, q6, q7, q8, q9⟩ := zgn hn5
        have hrow5 : StRow w5 w2.heap.size (.slice (some ⟨g2, 0, none⟩) (p + 1) cpA) (A' ++ [z]) := by unfold StRow; rw [HAL'.out]; exact hO5
        obtain ⟨g3, z', hz, hzm, hzs, hge, -, -, -, hnt, hfz, z0, z1, z2, z3, z4, z5, z6, z7, z8, z9⟩ := hrow5.at p (by rw [HAL'.out]; omega)
        cases hge
        have hzy : z' = z := by
         rw [← HP.out, List.getElem?_append_right (Nat.le_refl _), Nat.sub_self] at hzs
         exact (Option.some.inj hzs).symm
        subst hzy
        have HN5 := hid hn5
        have HNT := hid hnt
        have HFZ := hid hfz
        have HIS : Hid (∀ j, j < 10 → (w5.cell? ⟨g2, p * 10 + j, none⟩).isSome = true) := hid (fun j hj => by
         rw [HO5.out.cellAt _ (by omega), RowKC.zge stL 10 zhm _ _ (by rw [HAL'.out]; omega)]; rfl)
        have k0 := cell_regrown q0
        have k1 := cell_regrown q1
        have k2 := cell_regrown q2
        have k3 := cell_regrown q3
        have k4 := cell_regrown q4
        have k5 := cell_regrown q5
        have k6 := cell_regrown q6
        have k7 := cell_regrown q7
        have k8 := cell_regrown q8
        have k9 := cell_regrown q9
        have e5 := cell_regrown z5
        have e6 := cell_regrown z6
        have e7 := cell_regrown z7
        have e8 := cell_regrown z8
        have e9 := cell_regrown z9
        have HCC := hid (fun d os => zgs z'.t x.t (Go.Sort.grow (redrawn w5 d) os) ((HZ5.out.gr (below_regrown w5 d os)).t) ((HY5.out.gr (below_regrown w5 d os)).t))
        rw [HR2.out] at HCC
        have cC : ∀ d os, Calls Tryz.prog 237 #[edV z'.t, edV x.t] (Go.Sort.grow (redrawn w5 d) os) _ := fun d os => Calls.regrown_of ((HCC.out d os).mono fun _ _ h => ⟨h.1, h.2.below⟩)
        clear hz hzm hzs hn5 hO5 hrow5 hnt hfz q0 q1 q2 q3 q4 q5 q6 q7 q8 q9 z0 z1 z2 z3 z4 z5 z6 z7 z8 z9
        by_cases h2 : r2 < 0
        · have d2 : decide (r2 < 0) = true := decide_eq_true h2
          have HWIDE : Hid (PutI (D.map StR.st) (k + 1) ((A' ++ [(⟨z'.f, x.t⟩ : StR)]).map StR.st)) := hid (by
           have hc := HI.out.put
           rw [List.map_append] at hc ⊢
           exact hc.wide HRI.out HXS.out HGE.out (by show cE z'.t.ed x.t.ed < 0; rw [HR2.out]; exact h2))
          clear h2
          go_wp2_with fail
          refine wp_region_quiet_below (by kernel_rfl) (by kernel_rfl) ?_
          repeat (first | go_big_quiet_step (exact cC _ _) | quiet_step (exact cC _ _))
          refine wpQuiet_nil ?_
          intro _ hw'
          obtain ⟨⟨dq, osq⟩, hw''⟩ := hw'
          subst hw''
          have HBQ := hid (below_regrown w5 dq osq)
          clear k0 k1 k2 k3 k4 k5 k6 k7 k8 k9 e5 e6 e7 e8 e9 cC HCC
          generalize Go.Sort.grow (redrawn w5 dq) osq = w6 at *
          have hn6 := (HBQ.out.block _ hgx5).trans HN5.out
          obtain ⟨q0, q1, q2, q3, q4, q5, q6, q7, q8, q9⟩ := zgn hn6
          have hO6 : w6.ownsRow w2.heap.size 266 10 (.slice (some ⟨g2, 0, none⟩) (p + 1) cpA) (p + 1) ((A' ++ [z']).flatMap stL) := World.ownsRow.kept HO5.out (zgd HBQ.out) (Classical.em _)
          obtain ⟨w7, e7⟩ : ∃ w7, w6.setCells g2 (p * 10 + 5) (edL x.t) = w7 := ⟨_, rfl⟩
          have hset : (A' ++ [z']).set p ⟨z'.f, x.t⟩ = A' ++ [(⟨z'.f, x.t⟩ : StR)] := by
           rw [← HP.out, List.set_append_right _ _ (Nat.le_refl _), Nat.sub_self]; rfl
          have HROW7 : Hid (StRow w7 w2.heap.size (.slice (some ⟨g2, 0, none⟩) (p + 1) cpA) (A' ++ [(⟨z'.f, x.t⟩ : StR)])) := hid (by
           rw [← e7, ← hset]
           unfold StRow
           rw [List.length_set, HAL'.out]
           exact zif hO6 HAL'.out p (by rw [← HP.out, List.getElem?_append_right (Nat.le_refl _), Nat.sub_self]; rfl) x.t)
          have hnt6 : ¬ IsText w6 g2 := fun h => HNT.out (by
           obtain ⟨c, f, h⟩ := h
           exact ⟨c, f, (HBQ.out.block g2 hg25).symm.trans h⟩)
          have HALL7 : Hid (AllOk w7 (A' ++ [(⟨z'.f, x.t⟩ : StR)])) := hid (fun y hy => by
           rw [← e7]
           have key : ∀ y, StOk w5 y → StOk (w6.setCells g2 (p * 10 + 5) (edL x.t)) y := fun y h => (h.gr HBQ.out).keep hnt6 fun k _ hk => zhb w6 g2 hk _ _
           rcases List.mem_append.1 hy with hy | hy
           · exact key y (HA5.out y (List.mem_append_left _ hy))
           · rw [List.mem_singleton.1 hy]
             exact ⟨(key z' HZ5.out).f, (key x HY5.out).t⟩)
          have HB7 : Hid (Below w2.heap.size w2 w7) := hid (by
           rw [← e7]
           exact below_setCells (HB5.out.trans (HBQ.out.mono HB5.out.size)) g2 _ _ HG2.out)
          have HTH : Hid (w6.there g2 (p * 10 + 5) 5) := hid (fun j hj => ⟨by
           rw [HBQ.out.cell (show g2 < w5.heap.size from hg25)]
           rw [Nat.add_assoc]; exact HIS.out (5 + j) (by omega), by
           rw [HBQ.out.frozen (show g2 < w5.heap.size from hg25)]; exact HFZ.out _⟩)
          have HE7 := hid e7
          clear e7 hset hnt6 hO6 hn6 HBQ
          go_wp2_with (refine wpList_store_mid rfl 264 _ _ rfl g2 (p * 10 + 5) (edL x.t).toArray rfl rfl HTH.out zgx (zgz _) ?_; change wpList _ _ _ _ _ (w6.setCells g2 (p * 10 + 5) (edL x.t)); rw [HE7.out]; clear HTH HE7 q0 q1 q2 q3 q4 q5 q6 q7 q8 q9)
          go_roundw
          case rel => exact ⟨k + 1, _, by go_num, hid ⟨HWIDE.out, HROW7.out, HALL7.out, HB7.out, by have := HLK.out; simp at this ⊢; omega⟩⟩
          case measure => simp [intOf]; omega
        · have d2 : decide (r2 < 0) = false := decide_eq_false h2
          have HSKIP : Hid (PutI (D.map StR.st) (k + 1) ((A' ++ [z']).map StR.st)) := hid (by
           have hc := HI.out.put
           rw [List.map_append] at hc ⊢
           exact hc.skip HRI.out HXS.out (by show cE x.t.ed z'.t.ed ≤ 0; have := zfq x.t.ed z'.t.ed; have h := HR2.out; omega))
          clear h2
          go_wp2_with fail
          refine wp_region_quiet_below (by kernel_rfl) (by kernel_rfl) ?_
          repeat (first | go_big_quiet_step (exact cC _ _) | quiet_step (exact cC _ _))
          refine wpQuiet_nil ?_
          intro _ hw'
          obtain ⟨⟨dq, osq⟩, hw''⟩ := hw'
          subst hw''
          have HBQ := hid (below_regrown w5 dq osq)
          clear k0 k1 k2 k3 k4 k5 k6 k7 k8 k9 e5 e6 e7 e8 e9 cC HCC
          generalize Go.Sort.grow (redrawn w5 dq) osq = w6 at *
          have HROW6 : Hid (StRow w6 w2.heap.size (.slice (some ⟨g2, 0, none⟩) (p + 1) cpA) (A' ++ [z'])) := hid (by
           unfold StRow; rw [HAL'.out]
           exact World.ownsRow.kept HO5.out (zgd HBQ.out) (Classical.em _))
          have HALL6 := hid (HA5.out.gr HBQ.out)
          have HB6 := hid (HB5.out.trans (HBQ.out.mono HB5.out.size))
          clear HBQ
          go_wp2_with fail
          go_roundw
          case rel => exact ⟨k + 1, _, by go_num, hid ⟨HSKIP.out, HROW6.out, HALL6.out, HB6.out, by have := HLK.out; simp at this ⊢; omega⟩⟩
          case measure => simp [intOf]; omega
  · have hdec : decide (k < D.length) = false := by simpa using hlt
    have hke : k = D.length := by omega
    have HE : Hid (A.map StR.st = formM (L.map StR.st)) := hid (zgc HI.out.put.can fun e => by
     rw [HI.out.put.set, hke, List.take_of_length_le (by rw [List.length_map]; exact Nat.le_refl _), HSET.out])
    go_wp2_with fail
    go_ret
    exact ⟨_, A, rfl, zig HI.out.row (Nat.le_trans HBB.out HB2.out.size), HI.out.ok, HE.out, HB2.out.trans (HI.out.below.mono (Nat.le_trans HBB.out HB2.out.size)), HE2.out.below HB2.out.size HI.out.below⟩
end SpanC
end
section
open Go.RowKit
namespace SpanC
open VerM SpanM StrC TextR VerC
def mayC (L : List IvG) : Int := if spanB L then 0 else 80
end SpanC
end
section

end
section
open Go.RowKit
namespace SpanC
open VerM SpanM StrC TextR VerC
end SpanC
open Go.RowKit
namespace SpanC
open VerM SpanM
end SpanC
open Go.RowKit
namespace SpanC
open VerM SpanM
theorem all_back (v : Ver) {k : Nat} (hk : k ≠ 2) : cE ⟨v, k⟩ allS.t < 0 := by
 unfold cE VerM.lex late allS
 simp only [hk, if_false, if_true]
 rw [if_pos (by decide)]
 decide
end SpanC
open Go.RowKit
namespace SpanC
open VerM SpanM StrC TextR VerC
section
variable {P : Program} (w : World)
end
end SpanC
end
end Go.Proofs.YtfbegbmjmhnplaaGreatDoor
section
namespace Go.Proofs
open Go.Shelf
def Tryz.lays161_ren : Go.Shelf.Ren := ⟨fun | 161 => 251 | 231 => 262 | 227 => 263 | 233 => 264 | 235 => 265 | 228 => 279 | 197 => 156 | 151 => 280 | 260 => 189 | 152 => 290 | 137 => 295 | 119 => 296 | 224 => 213 | 225 => 212 | 217 => 211 | 266 => 241 | n => n, fun | 9 => 9 | 4 => 4 | 3 => 3 | 5 => 5 | 117 => 320 | 116 => 319 | 0 => 0 | 124 => 323 | 105 => 201 | 21 => 21 | 119 => 271 | 46 => 107 | 139 => 274 | 138 => 273 | n => n, fun | 3 => 5 | 4 => 6 | n => n⟩
theorem Tryz.lays161 : Go.Proofs.Lays.n161 Tryz.prog Tryz.lays161_ren := {
 mixed := by kernel_rfl
 f119 := Tryz.func296.trans (congrArg some (by kernel_rfl))
 f137 := Tryz.func295.trans (congrArg some (by kernel_rfl))
 f151 := Tryz.func280.trans (congrArg some (by kernel_rfl))
 f152 := Tryz.func290.trans (congrArg some (by kernel_rfl))
 f161 := Tryz.func251.trans (congrArg some (by kernel_rfl))
 f197 := Tryz.func156.trans (congrArg some (by kernel_rfl))
 f217 := Tryz.func211.trans (congrArg some (by kernel_rfl))
 f224 := Tryz.func213.trans (congrArg some (by kernel_rfl))
 f225 := Tryz.func212.trans (congrArg some (by kernel_rfl))
 f227 := Tryz.func263.trans (congrArg some (by kernel_rfl))
 f228 := Tryz.func279.trans (congrArg some (by kernel_rfl))
 f231 := Tryz.func262.trans (congrArg some (by kernel_rfl))
 f233 := Tryz.func264.trans (congrArg some (by kernel_rfl))
 f235 := Tryz.func265.trans (congrArg some (by kernel_rfl))
 f260 := Tryz.func189.trans (congrArg some (by kernel_rfl))
 f266 := Tryz.func241.trans (congrArg some (by kernel_rfl))
 t0 := Tryz.underlying0
 a0 := Tryz.isAgg0
 z0 := Tryz.sizeOf0
 v0 := Tryz.zeroValue0
 t3 := Tryz.underlying3
 a3 := Tryz.isAgg3
 z3 := Tryz.sizeOf3
 v3 := Tryz.zeroValue3
 t4 := Tryz.underlying4
 a4 := Tryz.isAgg4
 z4 := Tryz.sizeOf4
 v4 := Tryz.zeroValue4
 t5 := Tryz.underlying5
 a5 := Tryz.isAgg5
 z5 := Tryz.sizeOf5
 v5 := Tryz.zeroValue5
 t9 := Tryz.underlying9
 a9 := Tryz.isAgg9
 z9 := Tryz.sizeOf9
 v9 := Tryz.zeroValue9
 t21 := Tryz.underlying21
 a21 := Tryz.isAgg21
 z21 := Tryz.sizeOf21
 v21 := Tryz.zeroValue21
 t46 := Tryz.underlying107
 a46 := Tryz.isAgg107
 z46 := Tryz.sizeOf107
 v46 := Tryz.zeroValue107
 t105 := Tryz.underlying201
 a105 := Tryz.isAgg201
 z105 := Tryz.sizeOf201
 v105 := Tryz.zeroValue201
 t116 := Tryz.underlying319
 a116 := Tryz.isAgg319
 z116 := Tryz.sizeOf319
 t117 := Tryz.underlying320
 a117 := Tryz.isAgg320
 z117 := Tryz.sizeOf320
 v117 := Tryz.zeroValue320
 t119 := Tryz.underlying271
 a119 := Tryz.isAgg271
 z119 := Tryz.sizeOf271
 t124 := Tryz.underlying323
 a124 := Tryz.isAgg323
 z124 := Tryz.sizeOf323
 v124 := Tryz.zeroValue323
 t138 := Tryz.underlying273
 a138 := Tryz.isAgg273
 z138 := Tryz.sizeOf273
 v138 := Tryz.zeroValue273
 t139 := Tryz.underlying274
 a139 := Tryz.isAgg274
 z139 := Tryz.sizeOf274
 v139 := Tryz.zeroValue274
 g3 := by kernel_rfl
 g4 := by kernel_rfl }
def Tryz.lays102_ren : Go.Shelf.Ren := ⟨fun | 102 => 252 | 209 => 266 | 207 => 281 | n => n, fun | 9 => 9 | 4 => 4 | 3 => 3 | n => n, fun | n => n⟩
theorem Tryz.lays102 : Go.Proofs.Lays.n102 Tryz.prog Tryz.lays102_ren := {
 mixed := by kernel_rfl
 f102 := Tryz.func252.trans (congrArg some (by kernel_rfl))
 f207 := Tryz.func281.trans (congrArg some (by kernel_rfl))
 f209 := Tryz.func266.trans (congrArg some (by kernel_rfl))
 t3 := Tryz.underlying3
 a3 := Tryz.isAgg3
 z3 := Tryz.sizeOf3
 v3 := Tryz.zeroValue3
 t4 := Tryz.underlying4
 a4 := Tryz.isAgg4
 z4 := Tryz.sizeOf4
 v4 := Tryz.zeroValue4
 t9 := Tryz.underlying9
 a9 := Tryz.isAgg9
 z9 := Tryz.sizeOf9
 v9 := Tryz.zeroValue9 }
open Go.RowKit Go.Lib in
/-- strings.TrimSuffix: "TrimSuffix returns s without the provided trailing suffix string. If s doesn't end with suffix, s is returned unchanged.": IT RETURNS 'Lib.trimSuffix s suffix'; the world is as it was. (LAID: no walk: one application.) -/
theorem Tryz.strings_TrimSuffix (s p : ByteArray) (w : World) (hs : s.size ≤ 9223372036854775807) :
 Calls Tryz.prog 252 #[.string s, .string p] w fun e w' => e = .returned (.string ⟨(Lib.trimSuffix s.data.toList p.data.toList).toArray⟩) ∧ w' = w := Any.strings_TrimSuffix Tryz.lays102 s p w hs
end Go.Proofs
end
namespace Go.Proofs.YtfbegbmjmhnplaaGreatDoor
open Go.Lib (hid)
end Go.Proofs.YtfbegbmjmhnplaaGreatDoor
