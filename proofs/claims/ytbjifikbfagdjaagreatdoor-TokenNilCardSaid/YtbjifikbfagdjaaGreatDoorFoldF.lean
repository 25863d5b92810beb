/-
  Package fold: fits, of no state, of an event of no kind, of an account's event.
-/
import Derived.Test.YtbjifikbfagdjaaGreatDoorFoldB
import Derived.Test.YtbjifikbfagdjaaGreatDoorErrText
namespace Go.Proofs.YtbjifikbfagdjaaGreatDoor
open Go.RowKit Go.Maps Go.Sort
namespace FoldC
open StrC EvF EvC EvA TextR EvN
open VerC (Vw)
open ErrC (IsFault)
set_option linter.unusedSimpArgs false
set_option linter.unusedVariables false
set_option maxRecDepth 100000

abbrev fV (g : Nat) : Value := .iface 68 (pS g)
abbrev fO (c : Int) (s : ByteArray) (a : Int) : Obj := .cells #[.int .i64 c, .string s, .int .i64 a, .nilIface] 72
/-- a fault of its own -/
def FaultE (c : Int) (s : ByteArray) (a : Int) (w : World) (r : Ending) (w' : World) : Prop := ∃ f, r = .returned (fV f) ∧ w'.heap[f]? = some (fO c s a) ∧ w.heap.size ≤ f ∧ Below w.heap.size w w'
theorem fault_is {w : World} {f : Nat} {c : Int} {s : ByteArray} {a : Int} (h : w.heap[f]? = some (fO c s a)) : IsFault w f 0 c s a := by
  refine ⟨?_, ?_, ?_, ?_⟩ <;> simp [World.cell?, h]
theorem tfault_any (c : Int) (w : World) : Calls Tryz.prog 22 #[.int .i64 c] w (FaultE c ⟨#[]⟩ (-1) w) := by
  have hz := Lib.hid (heap_alloc_new w (fO c ⟨#[]⟩ (-1)))
  have HB := Lib.hid (alW w (fO c ⟨#[]⟩ (-1)))
  go_enter Tryz.func22, Tryz.ntmps22
  go_wp2_with fail
  go_ret
  exact ⟨_, rfl, hz.out, Nat.le_refl _, HB.out⟩
theorem sfits_nil (e : EvG) (a : Int) (w : World) : Calls Tryz.prog 42 #[.pointer none, evV e, .int .i64 a] w (FaultE 1 ⟨#[]⟩ a w) := by
  have HN := Lib.hid (there_nil (w.alloc (evO e)))
  have hz := heap_alloc_new (w.alloc (evO e)) (fO 1 ⟨#[]⟩ a)
  have HB := Lib.hid (chW (alW w (evO e)) (alW _ (fO 1 ⟨#[]⟩ a)))
  have HZ := Lib.hid hz
  have hsz : (w.alloc (evO e)).heap.size = w.heap.size + 1 := by simp
  have HS := Lib.hid hsz
  clear hz hsz
  go_enter Tryz.func42, Tryz.ntmps42
  go_wp2_with fail
  refine HN.out.mono ?_
  rintro r w1 ⟨rfl, rfl⟩
  go_wp2_with fail
  go_ret
  exact ⟨_, rfl, by have := HZ.out; rw [HS.out] at this; exact this, by omega, HB.out⟩
/-- the words of kinds -/
theorem word_0 (w : World) : Calls Tryz.prog 57 #[.int .u8 0] w fun r w' => r = .returned (.tuple #[.string ⟨#[]⟩, .int .i64 2]) ∧ Below w.heap.size w w' := by
  have HIK := Lib.hid (iskind_of (k := 0) (L := []) (fun w => EvN.fields_0 w) w)
  go_enter Tryz.func57, Tryz.ntmps57
  go_wp2_with fail
  refine HIK.out.mono ?_
  rintro r w1 ⟨rfl, hb⟩
  go_wp2_with fail
  go_ret2
  exact ⟨rfl, hb⟩
theorem word_1 (t : ByteArray) (w : World) (ht : w.cell? ⟨1, 1, none⟩ = some (.string t)) : Calls Tryz.prog 57 #[.int .u8 1] w fun r w' => r = .returned (.tuple #[.string t, .int .i64 0]) ∧ Below w.heap.size w w' := by
  have HIK := Lib.hid (iskind_of (k := 1) (L := [0, 4]) (fun w => fields_1 w) w)
  go_enter Tryz.func57, Tryz.ntmps57
  go_wp2_with fail
  refine HIK.out.mono ?_
  rintro r w1 ⟨rfl, hb⟩
  have ht1 := (hb.cell (World.block_lt_of_cell? _ _ ht)).trans ht
  have HB := Lib.hid hb
  clear hb ht
  go_wp2_with fail
  go_ret2
  exact ⟨rfl, HB.out⟩
/-- an event of no kind fits nowhere -/
theorem sfits_0 {w : World} {s : Nat} {h : Int} {m1 m2 m3 m4 m5 : Nat} (hh : w.heap[s]? = some (stO h m1 m2 m3 m4 m5)) (a : Int) : Calls Tryz.prog 42 #[pS s, evV (kindE 0), .int .i64 a] w (FaultE 90 ⟨#[]⟩ a w) := by
  have hB0 := alW w (evO (kindE 0))
  have hr := heap_alloc_new w (evO (kindE 0))
  have hs0 : (w.alloc (evO (kindE 0))).heap.size = w.heap.size + 1 := by simp
  have hsl : s < w.heap.size := (Array.getElem?_eq_some_iff.1 hh).1
  have HTH := Lib.hid (there_st (w := w.alloc (evO (kindE 0))) ((hB0.block s hsl).trans hh))
  have HC : Hid (∀ W, Below (w.heap.size + 1) (w.alloc (evO (kindE 0))) W → W.heap[w.heap.size]? = some (evO (kindE 0))) := Lib.hid (fun W hb => (hb.block _ (by omega)).trans hr)
  have HW := Lib.hid word_0
  have HM := Lib.hid may_no
  have HB0 := Lib.hid hB0
  have HS0 := Lib.hid hs0
  obtain ⟨c0, c1, c2, c3, c4, c5, c6, c7, c8, c9⟩ := ev_cells hr
  clear hh hr hB0 hs0 hsl
  unfold kindE at *
  go_enter Tryz.func42, Tryz.ntmps42
  go_wp2_with fail
  refine HTH.out.mono ?_
  rintro r w0 ⟨rfl, rfl⟩
  go_wp2_with fail
  refine (HW.out _).mono ?_
  rintro r w1 ⟨rfl, hb1⟩
  have HB1 := Lib.hid (hb1.mono (Nat.le_of_eq HS0.out.symm))
  clear hb1 c0 c1 c2 c3 c4 c5 c6 c7 c8 c9
  obtain ⟨c0, c1, c2, c3, c4, c5, c6, c7, c8, c9⟩ := ev_cells (HC.out _ HB1.out)
  go_wp2_with fail
  refine (HM.out _).mono ?_
  rintro r w2 ⟨rfl, hb2⟩
  have HB2 := Lib.hid (HB1.out.trans (hb2.mono (Nat.le_trans (Nat.le_of_eq HS0.out.symm) HB1.out.size)))
  have HZ := Lib.hid (heap_alloc_new w2 (fO 90 ⟨#[]⟩ a))
  have HBE := Lib.hid (HB0.out.trans ((HB2.out.mono (by omega : w.heap.size ≤ w.heap.size + 1)).trans ((alW w2 (fO 90 ⟨#[]⟩ a)).mono (Nat.le_trans (by omega : w.heap.size ≤ w.heap.size + 1) (Nat.le_trans (Nat.le_of_eq HS0.out.symm) HB2.out.size)))))
  clear hb2 c0 c1 c2 c3 c4 c5 c6 c7 c8 c9
  go_wp2_with fail
  go_ret
  exact ⟨_, rfl, HZ.out, Nat.le_trans (by omega : w.heap.size ≤ w.heap.size + 1) (Nat.le_trans (Nat.le_of_eq HS0.out.symm) HB2.out.size), HBE.out⟩
theorem idx_deed1 (W : World) : (Instr.index 109 (.agg deedL.toArray) (.int .u8 1)).run Tryz.prog W = .ok (.agg #[.func (.func 60) #[] #[], .func (.func 61) #[] #[]]) W := by kernel_rfl
theorem fld_deed0 (W : World) : (Instr.field 108 (.agg #[.func (.func 60) #[] #[], .func (.func 61) #[] #[]]) 0).run Tryz.prog W = .ok (.func (.func 60) #[] #[]) W := by kernel_rfl
theorem fld_deed1 (W : World) : (Instr.field 108 (.agg #[.func (.func 60) #[] #[], .func (.func 61) #[] #[]]) 1).run Tryz.prog W = .ok (.func (.func 61) #[] #[]) W := by kernel_rfl
/-- an account's event fits where nobody has its name -/
theorem sfits_1 {w : World} {s : Nat} {h : Int} {m1 m2 m3 m4 m5 n1 n2 : Nat} {D1 D2 : DataW Unit} (hs : StA w s h m1 m2 m3 m4 m5 n1 n2 D1 D2) (e : EvG) (hk : e.k = 1) (hz : EvSz e) (hl : e.who.length ≤ maxLen) (hv : Vw w) (t : ByteArray) (ht : w.cell? ⟨1, 1, none⟩ = some (.string t))
    (hn : e.na = none) (hn2 : e.needs = []) (hn3 : e.nc = 0) (hm : mayL e true [0, 4] = true) (h2 : Maps.has D2 (keyS e.who) = false) (h1 : Maps.has D1 (keyS e.who) = false) (a : Int) :
    Calls Tryz.prog 42 #[pS s, evV e, .int .i64 a] w fun r w' => r = .returned .nilIface ∧ Below w.heap.size w w' := by
  have hB0 := alW w (evO e)
  have hr := heap_alloc_new w (evO e)
  have hs0 : (w.alloc (evO e)).heap.size = w.heap.size + 1 := by simp
  have HST : Hid (∀ W, Below w.heap.size w W → StA W s h m1 m2 m3 m4 m5 n1 n2 D1 D2) := Lib.hid (fun W hb => hs.gr hb)
  have HTH := Lib.hid (there_st (HST.out _ hB0).st)
  have HC : Hid (∀ W, Below (w.heap.size + 1) (w.alloc (evO e)) W → W.heap[w.heap.size]? = some (evO e)) := Lib.hid (fun W hb => (hb.block _ (by omega)).trans hr)
  have HW : Hid (∀ W, Below w.heap.size w W → Calls Tryz.prog 57 #[.int .u8 e.k] W fun r w' => r = .returned (.tuple #[.string t, .int .i64 0]) ∧ Below W.heap.size W w') := Lib.hid (fun W hb => by rw [hk]; exact word_1 t W ((hb.cell (World.block_lt_of_cell? _ _ ht)).trans ht))
  have HM : Hid (∀ W, Below w.heap.size w W → Calls Tryz.prog 58 #[evV e] W fun r w' => r = .returned (.int .i64 0) ∧ Below W.heap.size W w') := Lib.hid (fun W hb => by
    have := may_any e true [0, 4] (by rw [hk]; exact fun w => fields_1 w) (by decide) (by decide) (by decide) W hz (hv.gr hb) (FitN.no hn hn2 hn3 W) (by rw [hn, hn2, hn3]; exact NeIn.no W)
    rw [hm] at this
    exact this)
  have HAF : Hid (∀ W, Below w.heap.size w W → Calls Tryz.prog 60 #[pS s, evV e] W fun r w' => r = .returned (.bool true) ∧ Below W.heap.size W w') := Lib.hid (fun W hb => by
    have := accfits_any (HST.out W hb) e hl
    rw [h1, h2] at this
    exact this.mono (fun r w' ⟨hr, hw⟩ => ⟨hr, by rw [hw]; exact alW W _⟩))
  have HD := Lib.hid deeds_any
  have HB0 := Lib.hid hB0
  have HS0 := Lib.hid hs0
  have HCC : Hid (∀ W, Below (w.heap.size + 1) (w.alloc (evO e)) W → W.cell? ⟨w.heap.size, 0, none⟩ = some (.int .u8 (1 : Nat)) ∧ W.cell? ⟨w.heap.size, 1, none⟩ = some (.string (str e.who)) ∧ W.cell? ⟨w.heap.size, 2, none⟩ = some (.string (str e.name)) ∧ W.cell? ⟨w.heap.size, 3, none⟩ = some (.string (str e.ver)) ∧ W.cell? ⟨w.heap.size, 4, none⟩ = some (.slice e.na e.needs.length e.nc) ∧ W.cell? ⟨w.heap.size, 5, none⟩ = some (.int .u64 e.sum) ∧ W.cell? ⟨w.heap.size, 6, none⟩ = some (.int .u32 e.n) ∧ W.cell? ⟨w.heap.size, 7, none⟩ = some (.int .u32 e.size) ∧ W.cell? ⟨w.heap.size, 8, none⟩ = some (.string (str e.holder)) ∧ W.cell? ⟨w.heap.size, 9, none⟩ = some (.string (str e.note))) := Lib.hid (fun W hb => by
    have := ev_cells (HC.out W hb)
    rw [hk] at this
    exact this)
  have HLOW : Hid (∀ W, Below (w.heap.size + 1) (w.alloc (evO e)) W → Below w.heap.size w W) := Lib.hid (fun W hb => hB0.trans (hb.mono (by omega)))
  have HUP : Hid (∀ W W', Below (w.heap.size + 1) (w.alloc (evO e)) W → Below W.heap.size W W' → Below (w.heap.size + 1) (w.alloc (evO e)) W') := Lib.hid (fun W W' h k => h.trans (k.mono (by have := h.size; omega)))
  obtain ⟨c0, c1, c2, c3, c4, c5, c6, c7, c8, c9⟩ := HCC.out _ (Below.refl _ _)
  have HBr := Lib.hid (Below.refl (w.heap.size + 1) (w.alloc (evO e)))
  clear hs hr hB0 hs0 hz hl hv ht hn hn2 hn3 hm h1 h2
  obtain ⟨ek, who, name, ver, na, nc, needs, sum, n, size, holder, note⟩ := e
  simp only at hk
  subst hk
  go_enter Tryz.func42, Tryz.ntmps42
  go_wp2_with fail
  refine HTH.out.mono ?_
  rintro r w0 ⟨rfl, rfl⟩
  go_wp2_with fail
  refine (HW.out _ (HLOW.out _ HBr.out)).mono ?_
  rintro r w1 ⟨rfl, hb1⟩
  have HB1 := Lib.hid (HUP.out _ _ HBr.out hb1)
  clear hb1 c0 c1 c2 c3 c4 c5 c6 c7 c8 c9
  obtain ⟨c0, c1, c2, c3, c4, c5, c6, c7, c8, c9⟩ := HCC.out _ HB1.out
  go_wp2_with fail
  refine (HM.out _ (HLOW.out _ HB1.out)).mono ?_
  rintro r w2 ⟨rfl, hb2⟩
  have HB2 := Lib.hid (HUP.out _ _ HB1.out hb2)
  clear hb2 c0 c1 c2 c3 c4 c5 c6 c7 c8 c9
  obtain ⟨c0, c1, c2, c3, c4, c5, c6, c7, c8, c9⟩ := HCC.out _ HB2.out
  go_wp2_with fail
  have hix := idx_deed1
  have hfl := fld_deed0
  have HBd : Hid (Below (w.heap.size + 1) (w.alloc (evO ⟨1, who, name, ver, na, nc, needs, sum, n, size, holder, note⟩)) w2.drew) := Lib.hid (VerC.below_drew HB2.out)
  go_region_held3 (fun w' => w'.cell? ⟨w.heap.size, 0, none⟩ = some (.int .u8 (1 : Nat)) ∧ w'.cell? ⟨w.heap.size, 1, none⟩ = some (.string (str who)) ∧ w'.cell? ⟨w.heap.size, 2, none⟩ = some (.string (str name)) ∧ w'.cell? ⟨w.heap.size, 3, none⟩ = some (.string (str ver)) ∧ w'.cell? ⟨w.heap.size, 4, none⟩ = some (.slice na needs.length nc) ∧ w'.cell? ⟨w.heap.size, 5, none⟩ = some (.int .u64 sum) ∧ w'.cell? ⟨w.heap.size, 6, none⟩ = some (.int .u32 n) ∧ w'.cell? ⟨w.heap.size, 7, none⟩ = some (.int .u32 size) ∧ w'.cell? ⟨w.heap.size, 8, none⟩ = some (.string (str holder)) ∧ w'.cell? ⟨w.heap.size, 9, none⟩ = some (.string (str note)))
    (first | exact HCC.out _ HB4.out | exact HCC.out _ HB3.out | exact ⟨c0, c1, c2, c3, c4, c5, c6, c7, c8, c9⟩ | fail)
    (first
      | (go_at_call 43; refine (HD.out _).mono ?_; rintro r w3 ⟨rfl, hb3⟩; have HB3 := Lib.hid (HUP.out _ _ HBd.out hb3); clear hb3)
      | (go_at_call 60; refine (HAF.out _ (HLOW.out _ HB3.out)).mono ?_; rintro r w4 ⟨rfl, hb4⟩; have HB4 := Lib.hid (HUP.out _ _ HB3.out hb4); clear hb4)
      | fail)
  all_goals (go_wp2_with fail)
  all_goals go_ret
  all_goals exact ⟨rfl, HLOW.out _ HB4.out⟩
end FoldC
end Go.Proofs.YtbjifikbfagdjaaGreatDoor
