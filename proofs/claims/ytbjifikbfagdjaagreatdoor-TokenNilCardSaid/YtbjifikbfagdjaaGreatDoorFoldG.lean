/-
  Package fold: what an account's event makes: apply, Of; what a state tells of an account.
-/
import Derived.Test.YtbjifikbfagdjaaGreatDoorFoldF
namespace Go.Proofs.YtbjifikbfagdjaaGreatDoor
open Go.RowKit Go.Maps Go.Sort
namespace FoldC
open StrC EvF EvC EvA TextR EvN
open VerC (Vw)
open ErrC (IsFault)
set_option linter.unusedSimpArgs false
set_option linter.unusedVariables false
set_option maxRecDepth 100000

/-- slices.Index over two fields that are others -/
theorem index_no {w : World} {g cp : Nat} {x y z : Int} (h0 : w.cell? ⟨g, 0, none⟩ = some (.int .i64 x)) (h1 : w.cell? ⟨g, 1, none⟩ = some (.int .i64 y)) (hx : z ≠ x) (hy : z ≠ y) :
    Calls Tryz.prog 113 #[.slice (some ⟨g, 0, none⟩) 2 cp, .int .i64 z] w fun r w' => r = .returned (.int .i64 (-1)) ∧ w = w' := by
  have hdx : decide (z = x) = false := by simpa using hx
  have hdy : decide (z = y) = false := by simpa using hy
  have ebx : (z == x) = false := by simpa using hx
  have eby : (z == y) = false := by simpa using hy
  go_enter Tryz.func113, Tryz.ntmps113
  go_wp2_with fail
  refine wp_loop_rounds 3 ?_
  rw [rounds_succ]
  go_wp2_with fail
  rw [rounds_succ]
  go_wp2_with fail
  rw [rounds_succ]
  go_wp2_with fail
  go_ret
  exact ⟨rfl, rfl⟩
theorem contains_no {w : World} {g cp : Nat} {x y z : Int} (h0 : w.cell? ⟨g, 0, none⟩ = some (.int .i64 x)) (h1 : w.cell? ⟨g, 1, none⟩ = some (.int .i64 y)) (hx : z ≠ x) (hy : z ≠ y) :
    Calls Tryz.prog 80 #[.slice (some ⟨g, 0, none⟩) 2 cp, .int .i64 z] w fun r w' => r = .returned (.bool false) ∧ w = w' := by
  have HI := Lib.hid (index_no (cp := cp) h0 h1 hx hy)
  clear h0 h1 hx hy
  go_enter Tryz.func80, Tryz.ntmps80
  go_wp2_with fail
  refine HI.out.mono ?_
  rintro r w' ⟨rfl, rfl⟩
  go_wp2_with fail
  go_ret
  exact ⟨rfl, rfl⟩
/-- an account's event is about no package -/
theorem about_1 (e : EvG) (hk : e.k = 1) (w : World) : Calls Tryz.prog 44 #[evV e] w fun r w' => r = .returned (.tuple #[.string ⟨#[]⟩, .bool false]) ∧ Below w.heap.size w w' := by
  have hB0 := alW w (evO e)
  have HF := Lib.hid (fields_1 (w.alloc (evO e)))
  obtain ⟨c0, c1, c2, c3, c4, c5, c6, c7, c8, c9⟩ := ev_cells (heap_alloc_new w (evO e))
  rw [hk] at c0
  have HB0 := Lib.hid hB0
  clear hB0 hk
  go_enter Tryz.func44, Tryz.ntmps44
  go_wp2_with fail
  refine HF.out.mono ?_
  rintro r w1 ⟨v, rfl, hrow, hb1⟩
  obtain ⟨a, cp, rfl, hcell⟩ := fds_open hrow
  obtain ⟨g, rfl, hg0, hg1, hcl⟩ := hcell (by decide)
  have HI := Lib.hid (contains_no (cp := cp) (z := 1) (hcl 0 (by decide)) (hcl 1 (by decide)) (by decide) (by decide))
  have HB1 := Lib.hid (chW HB0.out hb1)
  clear hrow hcell hg0 hg1 hcl hb1 c0 c1 c2 c3 c4 c5 c6 c7 c8 c9
  go_wp2_with fail
  refine HI.out.mono ?_
  rintro r w2 ⟨rfl, rfl⟩
  go_wp2_with fail
  go_ret2
  exact ⟨rfl, HB1.out⟩
/-- an account is laid -/
theorem addacc_any {w : World} {s : Nat} {h : Int} {m1 m2 m3 m4 m5 n1 n2 : Nat} {D1 D2 : DataW Unit} (hs : StA w s h m1 m2 m3 m4 m5 n1 n2 D1 D2) (e : EvG) (hl : e.who.length ≤ maxLen) (hn : n1 < maxLen) (hsum : (Lit.int .u64 e.sum).wf = true) :
    Calls Tryz.prog 61 #[pS s, evV e] w fun r w' => r = .returned (.tuple #[]) ∧ (w.alloc (evO e)).drew.mapTurned w' m1 ∧ w'.ownsMap Tryz.prog 9 RA m1 (n1 + 1) (D1.put (keyS e.who) (.lit (.int .u64 e.sum))) := by
  have hs0 := hs.gr (alW w (evO e))
  obtain ⟨k0, k1, k2, k3, k4, k5⟩ := st_cells hs0.st
  obtain ⟨c0, c1, c2, c3, c4, c5, c6, c7, c8, c9⟩ := ev_cells (heap_alloc_new w (evO e))
  have HK := Lib.hid (keyOfS hl)
  have HO : Hid ((w.alloc (evO e)).drew.ownsMap Tryz.prog 9 RA m1 n1 D1) := Lib.hid hs0.acc.drew
  have HV : Hid (RA (.int .u64 e.sum) = some (.lit (.int .u64 e.sum), [])) := Lib.hid (plainElem_int Tryz.underlying29 hsum)
  have HN := Lib.hid hn
  clear hs hs0 hl hn hsum
  go_enter Tryz.func61, Tryz.ntmps61
  go_wp2_with fail
  generalize hW0 : w.alloc (evO e) = W0 at *
  go_still_tail 8, (by kernel_rfl)
  change wpList _ _ _ _ _ W0.drew
  go_wp2_with (first | (at_mapUpdate; refine wpList_mapUpdate_in _ rfl _ _ _ 78 rfl 9 29 keyed Tryz.underlying78 RA m1 n1 D1 rfl HO.out HN.out _ _ _ rfl rfl HK.out _ _ HV.out ?_; intro w1 hown1 hturn1) | fail)
  refine bodyPost_end (results_none rfl _ _ _) rfl ?_
  exact ⟨rfl, hturn1, hown1⟩
theorem Kp.drew {X : Nat → Prop} {w w' : World} (h : Kp X w w') : Kp X w w'.drew := ⟨h.os, h.tape, h.output, h.size, h.block⟩
theorem StA.drew {w : World} {s : Nat} {h : Int} {m1 m2 m3 m4 m5 n1 n2 : Nat} {D1 D2 : DataW Unit} (hs : StA w s h m1 m2 m3 m4 m5 n1 n2 D1 D2) : StA w.drew s h m1 m2 m3 m4 m5 n1 n2 D1 D2 := ⟨hs.st, hs.acc.drew, hs.tea.drew⟩
theorem StA.head {w : World} {s : Nat} {h : Int} {m1 m2 m3 m4 m5 n1 n2 : Nat} {D1 D2 : DataW Unit} (hs : StA w s h m1 m2 m3 m4 m5 n1 n2 D1 D2) (h1 : m1 ≠ s) (h2 : m2 ≠ s) (x : Int) : StA (w.setCell ⟨s, 0, none⟩ (.int .i64 x)) s x m1 m2 m3 m4 m5 n1 n2 D1 D2 :=
  ⟨by rw [set_row hs.st]; rfl, hs.acc.setCell h1 _, hs.tea.setCell h2 _⟩
theorem StA.laid {w w' : World} {s : Nat} {h : Int} {m1 m2 m3 m4 m5 n1 n2 n3 : Nat} {D1 D2 D3 : DataW Unit} {o : Obj} (hs : StA w s h m1 m2 m3 m4 m5 n1 n2 D1 D2) (h1 : m1 ≠ s) (h2 : m1 ≠ m2) (ht : (w.alloc o).drew.mapTurned w' m1) (ho : w'.ownsMap Tryz.prog 9 RA m1 n3 D3) : StA w' s h m1 m2 m3 m4 m5 n3 n2 D3 D2 ∧ Kp (fun k => k = m1) w w' := by
  have hk : Kp (fun k => k = m1) w w' := (Kp.of (alW w o)).drew.turn rfl ht
  exact ⟨⟨(hk.block s hs.lt.1 (fun e => h1 e.symm)).trans hs.st, ho, own_blk hs.tea (hk.block m2 hs.lt.2.2 (fun e => h2 e.symm))⟩, hk⟩
theorem Kp.wide {X Y : Nat → Prop} {w w' : World} (h : Kp X w w') (hx : ∀ k, X k → Y k) : Kp Y w w' := ⟨h.os, h.tape, h.output, h.size, fun k hk hy => h.block k hk (fun e => hy (hx k e))⟩
/-- what an account's event makes of a state -/
structure AppE (w : World) (s : Nat) (h : Int) (m1 m2 m3 m4 m5 n1 n2 : Nat) (D1 D2 : DataW Unit) (e : EvG) (w' : World) : Prop where
  st : StA w' s (h + 1) m1 m2 m3 m4 m5 (n1 + 1) n2 (D1.put (keyS e.who) (.lit (.int .u64 e.sum))) D2
  kp : Kp (fun k => k = s ∨ k = m1) w w'
theorem apply_1 {w : World} {s : Nat} {h : Int} {m1 m2 m3 m4 m5 n1 n2 : Nat} {D1 D2 : DataW Unit} (hs : StA w s h m1 m2 m3 m4 m5 n1 n2 D1 D2) (hms : m1 ≠ s) (hm12 : m1 ≠ m2) (hm2s : m2 ≠ s) (e : EvG) (hk : e.k = 1) (hz : EvSz e) (hl : e.who.length ≤ maxLen) (hv : Vw w) (t : ByteArray) (ht : w.cell? ⟨1, 1, none⟩ = some (.string t))
    (hn : e.na = none) (hn2 : e.needs = []) (hn3 : e.nc = 0) (hm : mayL e true [0, 4] = true) (h2 : Maps.has D2 (keyS e.who) = false) (h1 : Maps.has D1 (keyS e.who) = false) (hn1 : n1 < maxLen) (hsum : (Lit.int .u64 e.sum).wf = true) (hh0 : 0 ≤ h) (hh1 : h ≤ 1000000) (a : Int) :
    Calls Tryz.prog 29 #[pS s, evV e, .int .i64 a] w fun r w' => r = .returned .nilIface ∧ AppE w s h m1 m2 m3 m4 m5 n1 n2 D1 D2 e w' := by
  have hB0 := alW w (evO e)
  have hr := heap_alloc_new w (evO e)
  have hs0 : (w.alloc (evO e)).heap.size = w.heap.size + 1 := by simp
  have HST : Hid (∀ W, Below w.heap.size w W → StA W s h m1 m2 m3 m4 m5 n1 n2 D1 D2) := Lib.hid (fun W hb => hs.gr hb)
  have HFT : Hid (∀ W, Below w.heap.size w W → Calls Tryz.prog 42 #[pS s, evV e, .int .i64 a] W fun r w' => r = .returned .nilIface ∧ Below W.heap.size W w') := Lib.hid (fun W hb => sfits_1 (HST.out W hb) e hk hz hl (hv.gr hb) t ((hb.cell (World.block_lt_of_cell? _ _ ht)).trans ht) hn hn2 hn3 hm h2 h1 a)
  have HAD : Hid (∀ W, StA W s (h + 1) m1 m2 m3 m4 m5 n1 n2 D1 D2 → Calls Tryz.prog 61 #[pS s, evV e] W fun r w' => r = .returned (.tuple #[]) ∧ (W.alloc (evO e)).drew.mapTurned w' m1 ∧ w'.ownsMap Tryz.prog 9 RA m1 (n1 + 1) (D1.put (keyS e.who) (.lit (.int .u64 e.sum)))) := Lib.hid (fun W h => addacc_any h e hl hn1 hsum)
  have HAB : Hid (∀ W, Calls Tryz.prog 44 #[evV e] W fun r w' => r = .returned (.tuple #[.string ⟨#[]⟩, .bool false]) ∧ Below W.heap.size W w') := Lib.hid (fun W => about_1 e hk W)
  have HD := Lib.hid deeds_any
  have HB0 := Lib.hid hB0
  have HS0 := Lib.hid hs0
  have hsl := hs.lt
  have HLT := Lib.hid hsl
  /- the event's own cells, in each world that has kept what was there but for the state and its accounts -/
  have HC : Hid (∀ W, Kp (fun k => k = s ∨ k = m1) (w.alloc (evO e)) W → W.heap[w.heap.size]? = some (evO e)) := Lib.hid (fun W hb => (hb.block _ (by omega) (by rintro (h | h) <;> omega)).trans hr)
  have HCC : Hid (∀ W, Kp (fun k => k = s ∨ k = m1) (w.alloc (evO e)) W → W.cell? ⟨w.heap.size, 0, none⟩ = some (.int .u8 (1 : Nat)) ∧ W.cell? ⟨w.heap.size, 1, none⟩ = some (.string (str e.who)) ∧ W.cell? ⟨w.heap.size, 2, none⟩ = some (.string (str e.name)) ∧ W.cell? ⟨w.heap.size, 3, none⟩ = some (.string (str e.ver)) ∧ W.cell? ⟨w.heap.size, 4, none⟩ = some (.slice e.na e.needs.length e.nc) ∧ W.cell? ⟨w.heap.size, 5, none⟩ = some (.int .u64 e.sum) ∧ W.cell? ⟨w.heap.size, 6, none⟩ = some (.int .u32 e.n) ∧ W.cell? ⟨w.heap.size, 7, none⟩ = some (.int .u32 e.size) ∧ W.cell? ⟨w.heap.size, 8, none⟩ = some (.string (str e.holder)) ∧ W.cell? ⟨w.heap.size, 9, none⟩ = some (.string (str e.note))) := Lib.hid (fun W hb => by
    have := ev_cells (HC.out W hb)
    rw [hk] at this
    exact this)
  have HKP : Hid (∀ W, Kp (fun k => k = s ∨ k = m1) (w.alloc (evO e)) W → Kp (fun k => k = s ∨ k = m1) w W) := Lib.hid (fun W hb => (Kp.of HB0.out).trans hb)
  have HNE := Lib.hid (And.intro hms (And.intro hm12 hm2s))
  have hwr : wrap64 (h + 1) = h + 1 := by unfold wrap64; omega
  obtain ⟨c0, c1, c2, c3, c4, c5, c6, c7, c8, c9⟩ := HCC.out _ (Kp.refl _ _)
  have HWR := Lib.hid hwr
  clear hs hr hB0 hs0 hz hl hv ht hn hn2 hn3 hm h1 h2 hsl hms hm12 hm2s hn1 hsum hwr
  obtain ⟨ek, who, name, ver, na, nc, needs, sum, n, size, holder, note⟩ := e
  simp only at hk
  subst hk
  go_enter Tryz.func29, Tryz.ntmps29
  go_wp2_with fail
  refine (HFT.out _ HB0.out).mono ?_
  rintro r w1 ⟨rfl, hb1⟩
  have HK1 : Hid (Kp (fun k => k = s ∨ k = m1) (w.alloc (evO ⟨1, who, name, ver, na, nc, needs, sum, n, size, holder, note⟩)) w1) := Lib.hid (Kp.of hb1)
  have HS1 := Lib.hid (HST.out _ (chW HB0.out hb1))
  clear hb1 c0 c1 c2 c3 c4 c5 c6 c7 c8 c9
  obtain ⟨c0, c1, c2, c3, c4, c5, c6, c7, c8, c9⟩ := HCC.out _ HK1.out
  obtain ⟨k0, k1, k2, k3, k4, k5⟩ := st_cells HS1.out.st
  have hfz := no_frozen HS1.out.st 0
  have hwr := HWR.out
  go_wp2_with fail
  have HSA := Lib.hid (HS1.out.head HNE.out.1 HNE.out.2.2 (h + 1))
  have HKA : Hid (Kp (fun k => k = s ∨ k = m1) (w.alloc (evO ⟨1, who, name, ver, na, nc, needs, sum, n, size, holder, note⟩)) (w1.setCell ⟨s, 0, none⟩ (.int .i64 (h + 1)))) := Lib.hid (HK1.out.set (Or.inl rfl) 0 _)
  clear c0 c1 c2 c3 c4 c5 c6 c7 c8 c9 k0 k1 k2 k3 k4 k5 hfz hwr
  generalize w1.setCell ⟨s, 0, none⟩ (.int .i64 (h + 1)) = wA at *
  obtain ⟨c0, c1, c2, c3, c4, c5, c6, c7, c8, c9⟩ := HCC.out _ HKA.out
  have HKd := Lib.hid HKA.out.drew
  have HSd := Lib.hid HSA.out.drew
  have hix := idx_deed1
  have hfl := fld_deed1
  go_region_held3 (fun w' => w'.cell? ⟨w.heap.size, 0, none⟩ = some (.int .u8 (1 : Nat)) ∧ w'.cell? ⟨w.heap.size, 1, none⟩ = some (.string (str who)) ∧ w'.cell? ⟨w.heap.size, 2, none⟩ = some (.string (str name)) ∧ w'.cell? ⟨w.heap.size, 3, none⟩ = some (.string (str ver)) ∧ w'.cell? ⟨w.heap.size, 4, none⟩ = some (.slice na needs.length nc) ∧ w'.cell? ⟨w.heap.size, 5, none⟩ = some (.int .u64 sum) ∧ w'.cell? ⟨w.heap.size, 6, none⟩ = some (.int .u32 n) ∧ w'.cell? ⟨w.heap.size, 7, none⟩ = some (.int .u32 size) ∧ w'.cell? ⟨w.heap.size, 8, none⟩ = some (.string (str holder)) ∧ w'.cell? ⟨w.heap.size, 9, none⟩ = some (.string (str note)))
    (first | exact HCC.out _ HK4.out | exact HCC.out _ HK3.out | exact ⟨c0, c1, c2, c3, c4, c5, c6, c7, c8, c9⟩ | fail)
    (first
      | (go_at_call 43; refine (HD.out _).mono ?_; rintro r w3 ⟨rfl, hb3⟩; have HK3 := Lib.hid (HKd.out.trans (Kp.of hb3)); have HS3 := Lib.hid (HSd.out.gr hb3); clear hb3)
      | (go_at_call 61; refine (HAD.out _ HS3.out).mono ?_; rintro r w4 ⟨rfl, hturn, hown⟩; have HL4 := Lib.hid (HS3.out.laid HNE.out.1 HNE.out.2.1 hturn hown); have HK4 := Lib.hid (HK3.out.trans (HL4.out.2.wide (fun k hk => Or.inr hk))); clear hturn hown)
      | fail)
  clear c0 c1 c2 c3 c4 c5 c6 c7 c8 c9 hix hfl
  obtain ⟨c0, c1, c2, c3, c4, c5, c6, c7, c8, c9⟩ := HCC.out _ HK4.out
  go_wp2_with fail
  refine (HAB.out _).mono ?_
  rintro r w5 ⟨rfl, hb5⟩
  have HS5 := Lib.hid (HL4.out.1.gr hb5)
  have HK5 := Lib.hid (HK4.out.trans (Kp.of hb5))
  clear hb5 c0 c1 c2 c3 c4 c5 c6 c7 c8 c9
  go_wp2_with fail
  go_ret
  exact ⟨rfl, HS5.out, HKP.out _ HK5.out⟩
/-- a state by value -/
abbrev stZ : Obj := .cells #[.int .i64 0, .map none, .map none, .map none, .map none, .map none] 84
theorem info_st : (Tryz.prog.info? 84).map (·.size) = some 6 := by kernel_rfl
theorem st_one (h : Int) (m1 m2 m3 m4 m5 : Nat) : ((stL h m1 m2 m3 m4 m5).toArray.all (·.oneCell')) = true := by simp [Value.oneCell']
theorem told_any {w : World} {s : Nat} {h : Int} {m1 m2 m3 m4 m5 : Nat} (hh : w.heap[s]? = some (stO h m1 m2 m3 m4 m5)) :
    Calls Tryz.prog 37 #[pS s] w fun r w' => r = .returned (.agg (stL h m1 m2 m3 m4 m5).toArray) ∧ Below w.heap.size w w' := by
  have hz := heap_alloc_new w stZ
  have hs1 := ((alW w stZ).block s (Array.getElem?_eq_some_iff.1 hh).1).trans hh
  have HB := Lib.hid (below_setRow (alW w stZ) (Nat.le_refl _) (stL h m1 m2 m3 m4 m5).toArray)
  clear hh
  go_enter Tryz.func37, Tryz.ntmps37
  go_wp2_with (first
    | (refine wpList_load_row rfl 84 _ rfl s rfl _ _ _ _ hs1 Tryz.underlying84 rfl info_st ?_)
    | (refine wpList_store_row rfl 84 _ _ rfl w.heap.size (stL h m1 m2 m3 m4 m5).toArray rfl rfl _ _ hz info_st rfl (st_one _ _ _ _ _ _) ?_)
    | fail)
  refine bodyPost_ret (res_c1 rfl _ _ w.heap.size _ (stL h m1 m2 m3 m4 m5).toArray _ _ rfl (setRow_heap _ _ _ _ _ _ hz) Tryz.underlying84 rfl info_st) rfl ?_
  exact ⟨rfl, HB.out⟩
theorem fld_st1 (h : Int) (m1 m2 m3 m4 m5 : Nat) (W : World) : (Instr.field 84 (.agg (stL h m1 m2 m3 m4 m5).toArray) 1).run Tryz.prog W = .ok (.map (some m1)) W := by kernel_rfl
theorem account_any {w : World} {s : Nat} {h : Int} {m1 m2 m3 m4 m5 n1 n2 : Nat} {D1 D2 : DataW Unit} (hs : StA w s h m1 m2 m3 m4 m5 n1 n2 D1 D2) (l : List UInt8) (hl : l.length ≤ maxLen) :
    Calls Tryz.prog 24 #[pS s, .string (str l)] w fun r w' => (∃ c : Int, r = .returned (.tuple #[.int .u64 c, .bool (Maps.has D1 (keyS l))]) ∧ D1.atKey (keyS l) (.lit (.int .u64 0)) = .lit (.int .u64 c)) ∧ Below w.heap.size w w' := by
  have HT := Lib.hid (told_any hs.st)
  have HST : Hid (∀ W, Below w.heap.size w W → W.ownsMap Tryz.prog 9 RA m1 n1 D1) := Lib.hid (fun W hb => (hs.gr hb).acc)
  have HK := Lib.hid (keyOfS hl)
  clear hs hl
  go_enter Tryz.func24, Tryz.ntmps24
  go_wp2_with fail
  refine HT.out.mono ?_
  rintro r w1 ⟨rfl, hb⟩
  have HO := Lib.hid (HST.out _ hb)
  have HB := Lib.hid hb
  clear hb
  have hfl := fld_st1 h m1 m2 m3 m4 m5
  go_wp2_with (first | (at_lookup; refine wpList_lookup_own_ok_int _ rfl _ _ 78 rfl 9 29 .u64 keyed Tryz.underlying78 Tryz.underlying29 (zeroU _) m1 n1 D1 rfl HO.out _ _ rfl HK.out ?_; intro c hat hwc; have HAT := Lib.hid hat; clear hat hwc) | fail)
  go_ret2
  exact ⟨⟨c, rfl, HAT.out⟩, HB.out⟩
end FoldC
end Go.Proofs.YtbjifikbfagdjaaGreatDoor
