/-
  The statement 'any bytes, read by any calls', walked.
-/
import Derived.Test.YtgjcbcakmcgjhaaDoorCodeStep
import Derived.Test.YtgjcbcakmcgjhaaDoorRegQuiet
import Derived.Deep.RegionWith
import Derived.Deep.DeepCutAuto
namespace Go.Proofs.YtgjcbcakmcgjhaaDoor
open Go.RowKit
namespace CodeC
open CodeM ErrC

theorem step_any (b o x y k B M : Nat) (D T E : Int) (s : ByteArray) (w : World) (h : Both w b o x y s k B) (hM : M < 18446744073709551616) (hT : T ≤ 9223372036854775807) (hE : E ≤ 9223372036854775807) :
    Calls Tryd.prog 18 #[.pointer (some ⟨b, o, none⟩), .pointer (some ⟨x, y, none⟩), .agg #[.int .i64 D, .int .u64 M, .int .i64 T, .int .i64 E]] w (StepE b o x y s B w) := by
  by_cases h0 : D = 0
  · subst h0; exact step_uint b o x y k B M T E s w h hM
  by_cases h1 : D = 1
  · subst h1; exact step_word b o x y k B M T E s w h
  by_cases h2 : D = 2
  · subst h2; exact step_byte b o x y k B M T E s w h
  by_cases h3 : D = 3
  · subst h3; exact step_text b o x y k B M T E s w h hT
  by_cases h4 : D = 4
  · subst h4
    by_cases ht : T ≤ 65536
    · exact step_texts b o x y k B M T E s w h ht hE
    · exact step_long b o x y k B M T E s w h (by omega)
  exact step_end b o x y k B M D T E s w h h0 h1 h2 h3 h4

theorem Both.next {w w' : World} {b o x y k k' B : Nat} {s : ByteArray} (h : Both w b o x y s k B) (hk : k' ≤ s.size) (hr : IsRdr w' b o s k') (hx : IsRef w' x y s k') (hb : Below B w w') : Both w' b o x y s k' B :=
  ⟨hr, hx, h.ne, h.hb, h.hx, Nat.le_trans h.hw hb.size, hk, h.sz, Vars.belowB h.vars hb h.g0 h.g1, h.g0, h.g1⟩
theorem Both.drewN {w : World} {b o x y k B : Nat} {s : ByteArray} (h : Both w b o x y s k B) (q : Nat) : Both (w.drewN q) b o x y s k B :=
  h.next h.le (h.rdr.drewN q) (h.ref.drewN q) (below_drewN (Below.refl _ _) q)
theorem Both.start (s : ByteArray) (w : World) (hs : s.size ≤ 4611686018427387904) (hv : Vars w) :
    Both ((w.alloc (.cells #[.bool true, .string s, .int .i64 0] 61)).alloc (.cells #[.string s, .int .i64 0] 35)) w.heap.size 0 (w.heap.size + 1) 0 s 0 w.heap.size := by
  have hb : Below w.heap.size w ((w.alloc (.cells #[.bool true, .string s, .int .i64 0] 61)).alloc (.cells #[.string s, .int .i64 0] 35)) := ((Below.refl _ _).alloc (Nat.le_refl _) _).alloc (by simp) _
  have hg0 : 0 < w.heap.size := World.block_lt_of_cell? _ _ hv.err
  have hg1 : 1 < w.heap.size := by obtain ⟨z, hz⟩ := hv.pow 0 (by decide); exact World.block_lt_of_cell? _ _ hz
  refine ⟨(new_is s w).below ((Below.refl _ _).alloc (Nat.le_refl _) _) (by simp), ⟨?_, ?_, ?_⟩, by omega, Nat.le_refl _, by omega, hb.size, Nat.zero_le _, hs, Vars.belowB hv hb hg0 hg1, hg0, hg1⟩
  · rw [World.cell?_alloc_at _ _ _ _ (by simp)]; rfl
  · rw [World.cell?_alloc_at _ _ _ _ (by simp)]; rfl
  · simp

theorem rest_eq (b o : Nat) (s R : ByteArray) (k : Nat) (w : World) (hk : k ≤ s.size) (hR : R = s.extract k s.size) (hr : IsRdr w b o s k) : Calls Tryd.prog 20 #[.pointer (some ⟨b, o, none⟩)] w fun e w' => e = .returned (.string R) ∧ ∃ q, w' = w.drewN q := by
  subst hR
  exact rest_is b o s k w hk hr
theorem same_int (k : Nat) : ((k : Int) != (k : Int)) = false := by simp
/-- the steps, as their cells hold them -/
def Steps (w : World) (b o len : Nat) : Prop := ∀ i, i < len → ∃ (D T E : Int) (M : Nat), M < 18446744073709551616 ∧ T ≤ 9223372036854775807 ∧ E ≤ 9223372036854775807 ∧
  w.cell? ⟨b, o + i * 4, none⟩ = some (.int .i64 D) ∧ w.cell? ⟨b, o + i * 4 + 1, none⟩ = some (.int .u64 M) ∧ w.cell? ⟨b, o + i * 4 + 2, none⟩ = some (.int .i64 T) ∧ w.cell? ⟨b, o + i * 4 + 3, none⟩ = some (.int .i64 E)

set_option maxHeartbeats 40000000 in
set_option maxRecDepth 100000 in
theorem reads_some (s : ByteArray) (b o len cp : Nat) (w : World) (hs : s.size ≤ 4611686018427387904) (hb : b < w.heap.size) (hS : Steps w b o len) (hv : Vars w) :
    Calls Tryd.prog 4 #[.string s, .slice (some ⟨b, o, none⟩) len cp] w fun e w' => e = .returned (.bool true) ∧ Below w.heap.size w w' := by
  have HST := Lib.hid (Both.start s w hs hv)
  have HV := Lib.hid hv; clear hv
  have HS := Lib.hid hS; clear hS
  go_enter Tryd.func4, Tryd.ntmps4
  go_wp2_with fail
  refine (new_any s _).mono ?_
  rintro e w1 ⟨rfl, rfl⟩
  go_wp2_with fail
  go_loopw [7] (fun vi wr => ∃ (i k : Nat), i ≤ len ∧ vi = .int .i64 i ∧ Hid (Both wr w.heap.size 0 (w.heap.size + 1) 0 s k w.heap.size) ∧ Hid (Below w.heap.size w wr)) (fun vi _ => len - (intOf vi).toNat)
  case atStart => exact ⟨0, 0, Nat.zero_le _, rfl, HST, Lib.hid (((Below.refl _ _).alloc (Nat.le_refl _) _).alloc (by simp) _)⟩
  case round =>
    obtain ⟨i, k, hi, rfl, HB, HBW⟩ := hrel
    rename World => wr
    by_cases hlt : i < len ∧ i < 200
    · obtain ⟨h1, h2⟩ := hlt
      have hdec : decide (i < len) = true := by simpa using h1
      have hdec2 : decide (i < 200) = true := by simpa using h2
      obtain ⟨D, T, E, M, hM, hT, hE, c0, c1, c2, c3⟩ := HS.out i h1
      have e0 : wr.cell? ⟨b, o + i * 4, none⟩ = some (.int .i64 D) := by rw [HBW.out.cell hb]; exact c0
      have e1 : wr.cell? ⟨b, o + i * 4 + 1, none⟩ = some (.int .u64 M) := by rw [HBW.out.cell hb]; exact c1
      have e2 : wr.cell? ⟨b, o + i * 4 + 2, none⟩ = some (.int .i64 T) := by rw [HBW.out.cell hb]; exact c2
      have e3 : wr.cell? ⟨b, o + i * 4 + 3, none⟩ = some (.int .i64 E) := by rw [HBW.out.cell hb]; exact c3
      clear c0 c1 c2 c3
      have HBD := Lib.hid (HB.out.drewN 1)
      have HBWD := Lib.hid (below_drewN HBW.out 1)
      go_wp2_with fail
      refine wp_region_any (by kernel_rfl) ?_
      change wpAny _ _ _ _ _ _ _ (World.drew _)
      refine wpAny_take (i := 0) (v := .pointer (some ⟨w.heap.size, 0, none⟩)) rfl (by kernel_rfl) (by kernel_rfl) (by kernel_rfl) (fun _ _ _ h => h) (Or.inl ⟨by rfl, by intro w; go_simp⟩) ?_
      refine wpAny_take (i := 1) (v := .pointer (some ⟨w.heap.size + 1, 0, none⟩)) rfl (by kernel_rfl) (by kernel_rfl) (by kernel_rfl) (fun _ _ _ h => h) (Or.inl ⟨by rfl, by intro w; go_simp⟩) ?_
      refine wpAny_take (i := 2) (v := .slice (some ⟨b, o, none⟩) len cp) rfl (by kernel_rfl) (by kernel_rfl) (by kernel_rfl) (fun _ _ _ h => h) (Or.inl ⟨by rfl, by intro w; go_simp⟩) ?_
      refine wpAny_take (i := 3) (v := .int .i64 i) rfl (by kernel_rfl) (by kernel_rfl) (by kernel_rfl) (fun _ _ _ h => h) (Or.inl ⟨by rfl, by intro w; go_simp⟩) ?_
      refine wpAny_ready (rs := [4]) (by kernel_rfl) (by simp) ?_
      refine AllReady.cons rfl (fun K hK => ?_) AllReady.nil
      go_simp
      refine hK _ _ ?_
      clear hK K
      refine wpAny_ready (rs := [5]) (by kernel_rfl) (by simp) ?_
      refine AllReady.cons rfl (fun K hK => ?_) AllReady.nil
      go_simp
      refine hK _ _ ?_
      clear hK K
      refine wpAny_ready (rs := [6]) (by kernel_rfl) (by simp) ?_
      refine AllReady.cons rfl (fun K hK => ?_) AllReady.nil
      go_simp
      go_wp2_with (go_at_call 18; refine (step_any w.heap.size 0 (w.heap.size + 1) 0 k w.heap.size M D T E s _ HBD.out hM hT hE).mono ?_; rintro e w1 ⟨rfl, k1, hk1, hr1, hx1, hb1⟩)
      have HR1 := Lib.hid hr1
      have HX1 := Lib.hid hx1
      have x1 := hx1.at_
      have HB1 := Lib.hid hb1
      have HK1 := Lib.hid hk1
      have hcut := cut_rest s k1 hk1
      have tne := same_int k1
      obtain ⟨R, hR⟩ : ∃ R, R = s.extract k1 s.size := ⟨_, rfl⟩
      rw [← hR] at hcut
      have HRR := Lib.hid hR
      clear hr1 hx1 hb1 hk1 hR e0 e1 e2 e3
      refine wpAny_ready (rs := [7]) (by kernel_rfl) (by simp) ?_
      refine AllReady.cons rfl (fun K hK => ?_) AllReady.nil
      go_simp
      refine hK _ _ ?_
      clear hK K
      refine wpAny_ready (rs := [8]) (by kernel_rfl) (by simp) ?_
      refine AllReady.cons rfl (fun K hK => ?_) AllReady.nil
      go_simp
      refine hK _ _ ?_
      clear hK K
      refine RegQ.tail 9 (by kernel_rfl) (by kernel_rfl) (by kernel_rfl) ?_
      simp only [List.drop_succ_cons, List.drop_zero]
      repeat (quiet_step (first
        | (go_at_call 19; exact Calls.quiet_of_same ((at_is w.heap.size 0 s k1 _ (HR1.out.drewN _)).mono fun _ _ ⟨he, hw⟩ => ⟨he, hw.symm⟩))
        | (go_at_call 20; exact Calls.quiet_of (rest_eq w.heap.size 0 s R k1 _ HK1.out HRR.out (HR1.out.drewN _)))))
      refine wpQuiet_nil ?_
      rintro w' ⟨nq, rfl⟩
      have HBN := Lib.hid (HBWD.out.trans HB1.out)
      have HNX := Lib.hid ((HBD.out.next HK1.out HR1.out HX1.out HB1.out).drewN nq)
      have HBN2 := Lib.hid (below_drewN HBN.out nq)
      go_wp2_with fail
      go_roundw
      case rel => exact ⟨i + 1, k1, by omega, by go_num, HNX, HBN2⟩
      case measure => simp [intOf]; omega
    · by_cases h1 : i < len
      · have hdec : decide (i < len) = true := by simpa using h1
        have hdec2 : decide (i < 200) = false := by simp; omega
        have h2 : 200 ≤ i := by omega
        clear hlt
        go_wp2_with fail
        refine (alive_any _ HB.out.vars).mono ?_
        rintro e w2 ⟨rfl, hb2⟩
        have HBE := Lib.hid (HBW.out.trans (hb2.mono HBW.out.size)); clear hb2
        go_wp2_with fail
        go_ret
        exact ⟨rfl, HBE.out⟩
      · have hdec : decide (i < len) = false := by simpa using h1
        clear hlt
        go_wp2_with fail
        refine (alive_any _ HB.out.vars).mono ?_
        rintro e w2 ⟨rfl, hb2⟩
        have HBE := Lib.hid (HBW.out.trans (hb2.mono HBW.out.size)); clear hb2
        go_wp2_with fail
        go_ret
        exact ⟨rfl, HBE.out⟩

set_option maxHeartbeats 1000000 in
theorem reads_none (s : ByteArray) (a : Option Addr) (cp : Nat) (w : World) (hv : Vars w) :
    Calls Tryd.prog 4 #[.string s, .slice a 0 cp] w fun e w' => e = .returned (.bool true) ∧ Below w.heap.size w w' := by
  have HB := Lib.hid (show Below w.heap.size w ((w.alloc (.cells #[.bool true, .string s, .int .i64 0] 61)).alloc (.cells #[.string s, .int .i64 0] 35)) from ((Below.refl _ _).alloc (Nat.le_refl _) _).alloc (by simp) _)
  have HV := Lib.hid (hv.below HB.out)
  clear hv
  go_enter Tryd.func4, Tryd.ntmps4
  go_wp2_with fail
  refine (new_any s _).mono ?_
  rintro e w1 ⟨rfl, rfl⟩
  go_wp2_with fail
  refine wp_loop_rounds 1 ?_; rw [rounds_succ]; go_wp2_with fail
  refine (alive_any _ HV.out).mono ?_
  rintro e w2 ⟨rfl, hb2⟩
  have HBE := Lib.hid (HB.out.trans (hb2.mono HB.out.size)); clear hb2
  go_wp2_with fail
  go_ret
  exact ⟨rfl, HBE.out⟩
end CodeC
end Go.Proofs.YtgjcbcakmcgjhaaDoor
