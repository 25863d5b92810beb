/-
  Package version's numbers, version, May, Release, Least, Next: one contract a function.
-/
import Derived.Test.YtgoocnmbihjmlaaGreatDoorVerP
namespace Go.Proofs.YtgoocnmbihjmlaaGreatDoor
open Go.RowKit
namespace VerC
open VerM StrC TextR
set_option linter.unusedSimpArgs false

/-- three numbers, as an array -/
abbrev arrV (x y z : Int) : Value := .agg #[.int .u32 x, .int .u32 y, .int .u32 z]
theorem results_cell1 {P : Program} {fn : Func} {p : Tmp} {ty : TypeId} (h : fn.results = #[.cell p ty]) (tmps : Array Value) (w : World) (g : Nat) (t : TypeId) (cs : Array Value) (fr : Nat × Nat) (d : TypeDesc)
    (hp : tmps.getD p undef = .pointer (some ⟨g, 0, none⟩)) (hg : w.heap[g]? = some (.cells cs t fr))
    (hu : P.underlying ty = some d) (hd : (match d with | .struct _ | .array _ _ => true | _ => false) = true) (hi : (P.info? ty).map (·.size) = some cs.size) :
    (results fn tmps).run P w = .ok (.agg cs) w := by
  have hp' : tmps[p]?.getD undef = .pointer (some ⟨g, 0, none⟩) := by simpa using hp
  simp [results, h, hp', asAddr, run_loadVar_row w g t ty cs fr d hg hu hd hi]
theorem info_arr : (Tryz.prog.info? 116).map (·.size) = some 3 := by kernel_rfl
theorem pnumbers_any (x y z : Int) (a : Option Addr) (n cap : Nat) (w : World) :
    Calls Tryz.prog 78 #[verV x y z a n cap] w fun e w' => e = .returned (arrV x y z) ∧ Gr w w' := by
  have hnew := heap_alloc_new (w.alloc (verO x y z a n cap)) (.cells #[.int .u32 x, .int .u32 y, .int .u32 z] 116)
  have hsz : (w.alloc (verO x y z a n cap)).heap.size = w.heap.size + 1 := by simp
  rw [hsz] at hnew
  go_enter Tryz.func78, Tryz.ntmps78
  go_wp2_with fail
  refine bodyPost_ret (results_cell1 rfl _ _ (w.heap.size + 1) _ _ _ _ rfl hnew Tryz.underlying116 rfl info_arr) rfl ?_
  exact ⟨rfl, ((Gr.refl w).alloc _).alloc _⟩
theorem pversion_any (x y z : Int) (w : World) :
    Calls Tryz.prog 94 #[arrV x y z] w fun e w' => e = .returned (verV x y z none 0 0) ∧ Gr w w' := by
  have hnew := heap_alloc_new (w.alloc (.cells #[.int .u32 x, .int .u32 y, .int .u32 z] 116)) (verO x y z none 0 0)
  have hsz : (w.alloc (.cells #[.int .u32 x, .int .u32 y, .int .u32 z] 116)).heap.size = w.heap.size + 1 := by simp
  rw [hsz] at hnew
  go_enter Tryz.func94, Tryz.ntmps94
  go_wp2_with fail
  refine bodyPost_ret (results_cell1 rfl _ _ (w.heap.size + 1) _ _ _ _ rfl hnew Tryz.underlying43 rfl info_ver) rfl ?_
  exact ⟨rfl, ((Gr.refl w).alloc _).alloc _⟩
theorem idx_arr (x y z : Int) : (∀ w, (Instr.index 116 (arrV x y z) (.int .i64 0)).run Tryz.prog w = .ok (.int .u32 x) w) ∧ (∀ w, (Instr.index 116 (arrV x y z) (.int .i64 1)).run Tryz.prog w = .ok (.int .u32 y) w) ∧ ∀ w, (Instr.index 116 (arrV x y z) (.int .i64 2)).run Tryz.prog w = .ok (.int .u32 z) w := by
  refine ⟨fun w => ?_, fun w => ?_, fun w => ?_⟩ <;> simp [Instr.index, run_underlying Tryz.underlying116, asIntOf, go_sem]
def mayE (v : Ver) : Int := if may v = true then 0 else 70
theorem mayE_no {v : Ver} (h : may v = false) : mayE v = 70 := by unfold mayE; rw [h]; rfl
theorem mayE_yes {v : Ver} (h : may v = true) : mayE v = 0 := by unfold mayE; rw [h]; rfl
set_option maxHeartbeats 4000000 in
set_option maxRecDepth 100000 in
theorem pmay_any (v : Ver) (a : Option Addr) (cap : Nat) (w : World) (hT : Txs w a cap v.pre) :
    Calls Tryz.prog 46 #[verV v.a v.b v.c a v.pre.length cap] w fun e w' => e = .returned (.int .i64 (mayE v)) ∧ Gr w w' := by
  obtain ⟨i0, i1, i2⟩ := idx_arr v.a v.b v.c
  have HN := Lib.hid (pnumbers_any v.a v.b v.c a v.pre.length cap)
  have hg0 : Gr w (w.alloc (verO v.a v.b v.c a v.pre.length cap)) := (Gr.refl w).alloc _
  have hsz : (w.alloc (verO v.a v.b v.c a v.pre.length cap)).heap.size = w.heap.size + 1 := by simp
  have hnew := heap_alloc_new w (verO v.a v.b v.c a v.pre.length cap)
  have HNO := Lib.hid (fun h => may_not (v := v) h)
  have HA := Lib.hid (fun k h => mayE_no (may_no (v := v) (tl_not ident v.pre k h)))
  have HY := Lib.hid (fun h1 h2 h3 h4 h => mayE_yes (may_yes (v := v) h1 h2 h3 h4 h))
  have HX := Lib.hid (fun h => mayE_no (HNO.out h))
  generalize mayE v = r at *
  clear HNO
  obtain ⟨na, nb, nc, p⟩ := v
  dsimp only at *
  have HG0 := Lib.hid hg0
  have HT := Lib.hid hT
  have HNEW := Lib.hid hnew
  have HSZ := Lib.hid hsz
  clear hg0 hT hnew hsz
  by_cases h1 : na ≤ mx
  rotate_left
  · have H := Lib.hid (HX.out (fun e => h1 e.1))
    have d1 : decide (2147483647 < (na : Int)) = true := by unfold mx at h1; exact decide_eq_true (by omega)
    clear h1
    go_enter Tryz.func46, Tryz.ntmps46
    go_wp2_with (first
      | (refine wpList_load_row rfl 43 _ rfl w.heap.size rfl _ _ _ _ (heap_alloc_new w _) Tryz.underlying43 rfl info_ver ?_)
      | (go_at_call 78; refine (HN.out _).mono ?_; rintro e w1 ⟨rfl, hg1⟩))
    refine wp_loop_rounds 1 ?_
    rw [rounds_succ]
    clear HN HA HY HX HT HNEW HSZ
    go_wp2_with fail
    go_ret
    exact ⟨by rw [H.out]; rfl, HG0.out.trans hg1⟩
  have d1 : decide (2147483647 < (na : Int)) = false := by unfold mx at h1; exact decide_eq_false (by omega)
  by_cases h2 : nb ≤ mx
  rotate_left
  · have H := Lib.hid (HX.out (fun e => h2 e.2.1))
    have d2 : decide (2147483647 < (nb : Int)) = true := by unfold mx at h2; exact decide_eq_true (by omega)
    clear h1 h2
    go_enter Tryz.func46, Tryz.ntmps46
    go_wp2_with (first
      | (refine wpList_load_row rfl 43 _ rfl w.heap.size rfl _ _ _ _ (heap_alloc_new w _) Tryz.underlying43 rfl info_ver ?_)
      | (go_at_call 78; refine (HN.out _).mono ?_; rintro e w1 ⟨rfl, hg1⟩))
    refine wp_loop_rounds 2 ?_
    rw [rounds_succ]
    clear HN HA HY HX HT HNEW HSZ
    go_wp2_with fail
    rw [rounds_succ]
    go_wp2_with fail
    go_ret
    exact ⟨by rw [H.out]; rfl, HG0.out.trans hg1⟩
  have d2 : decide (2147483647 < (nb : Int)) = false := by unfold mx at h2; exact decide_eq_false (by omega)
  by_cases h3 : nc ≤ mx
  rotate_left
  · have H := Lib.hid (HX.out (fun e => h3 e.2.2.1))
    have d3 : decide (2147483647 < (nc : Int)) = true := by unfold mx at h3; exact decide_eq_true (by omega)
    clear h1 h2 h3
    go_enter Tryz.func46, Tryz.ntmps46
    go_wp2_with (first
      | (refine wpList_load_row rfl 43 _ rfl w.heap.size rfl _ _ _ _ (heap_alloc_new w _) Tryz.underlying43 rfl info_ver ?_)
      | (go_at_call 78; refine (HN.out _).mono ?_; rintro e w1 ⟨rfl, hg1⟩))
    refine wp_loop_rounds 3 ?_
    rw [rounds_succ]
    clear HN HA HY HX HT HNEW HSZ
    go_wp2_with fail
    rw [rounds_succ]
    go_wp2_with fail
    rw [rounds_succ]
    go_wp2_with fail
    go_ret
    exact ⟨by rw [H.out]; rfl, HG0.out.trans hg1⟩
  have d3 : decide (2147483647 < (nc : Int)) = false := by unfold mx at h3; exact decide_eq_false (by omega)
  have HY2 := Lib.hid (HY.out h1 h2 h3)
  have HX2 := Lib.hid (fun (h : ¬ p.length ≤ 8) => HX.out (fun e => h e.2.2.2))
  have HS := Lib.hid (tl_succ ident p)
  have HE := Lib.hid (show (p.take p.length).all ident = p.all ident by rw [List.take_length])
  clear h1 h2 h3 HX HY
  go_enter Tryz.func46, Tryz.ntmps46
  go_wp2_with (first
    | (refine wpList_load_row rfl 43 _ rfl w.heap.size rfl _ _ _ _ (heap_alloc_new w _) Tryz.underlying43 rfl info_ver ?_)
    | (go_at_call 78; refine (HN.out _).mono ?_; rintro e w1 ⟨rfl, hg1⟩))
  have hr1 := (hg1.below.block w.heap.size (by rw [HSZ.out]; omega)).trans HNEW.out
  have HT1 := Lib.hid (HT.out.gr (HG0.out.trans hg1).below)
  have HG1 := Lib.hid (HG0.out.trans hg1)
  obtain ⟨q0, q1, q2, q3⟩ := ver_cells hr1
  clear hg1 hr1 HN HT HG0 HNEW HSZ
  refine wp_loop_rounds 4 ?_
  rw [rounds_succ]
  go_wp2_with fail
  rw [rounds_succ]
  go_wp2_with fail
  rw [rounds_succ]
  go_wp2_with fail
  rw [rounds_succ]
  by_cases h4 : p.length ≤ 8
  rotate_left
  · have H := Lib.hid (HX2.out h4)
    have d4 : decide (8 < (p.length : Int)) = true := decide_eq_true (by omega)
    go_wp2_with fail
    go_ret
    exact ⟨by rw [H.out]; rfl, HG1.out⟩
  have d4 : decide (8 < (p.length : Int)) = false := decide_eq_false (by omega)
  have HY3 := Lib.hid (HY2.out h4)
  clear HY2 HX2 i0 i1 i2 d1 d2 d3
  go_wp2_with fail
  clear q0 q1 q2 q3
  go_loop [6, 22] (fun _ i => ∃ k : Nat, k ≤ p.length ∧ i = .int .i64 k ∧ (p.take k).all ident = true) (fun _ i => p.length - (intOf i).toNat)
  case atStart => exact ⟨0, Nat.zero_le _, rfl, rfl⟩
  case round =>
    obtain ⟨k, hk, rfl, ha⟩ := hrel
    have HQ := Lib.hid ha; clear ha
    by_cases hlt : k < p.length
    · have hdec : decide (k < p.length) = true := by simpa using hlt
      have hn := Lib.hid (HS.out k hlt)
      obtain ⟨b, o, rfl, hc⟩ := HT1.out.cells (by omega)
      have hck := hc k hlt
      have hsl := HT1.out.mem k hlt
      clear hc
      generalize p.getD k [] = s at *
      have HI := Lib.hid (fun w => pident_any s w (by omega))
      generalize ident s = is at *
      go_wp2_with (go_at_call 79; refine (HI.out _).mono ?_; rintro e w' ⟨rfl, rfl⟩)
      · go_ret
        exact ⟨by rw [HA.out (k + 1) (by rw [hn.out, HQ.out]; rename_i h; simpa using h)]; rfl, HG1.out⟩
      · exact ⟨⟨k + 1, by omega, by go_num, by rw [hn.out, HQ.out]; rename_i h; simpa using h⟩, by simp [intOf]; omega⟩
    · have hdec : decide (k < p.length) = false := by simpa using hlt
      have H := Lib.hid (HY3.out (by rw [← HE.out, show p.length = k from by omega, HQ.out]))
      go_wp2
      go_ret
      exact ⟨by rw [H.out]; rfl, HG1.out⟩
end VerC
end Go.Proofs.YtgoocnmbihjmlaaGreatDoor
