/-
  The law PathReads (layer 11), walked.
-/
import Derived.Test.YtkngdhchjofleaaPathUnder
import Derived.Lib.QuietBelow
import Derived.BigQuiet
import Derived.Deep.QuietTactic
import Derived.Deep.CutBlock
import Derived.Handy
import Derived.Maps.AppendAt
namespace Go.Proofs.Ytkngdhchjofleaa
open Go.RowKit
namespace PathC
open PathM StrC TextR
open VerM (B TL val dig)
open VerC (Txs)
set_option linter.unusedSimpArgs false
set_option linter.unusedVariables false

theorem one_texts (Z : TL) : ∀ u ∈ (Z.map str).map Value.string, u.oneCell' = true := by
  intro u hu
  obtain ⟨s, -, rfl⟩ := List.mem_map.1 hu
  rfl
/-- 'append([]string(nil), l...)' -/
theorem wpList_copy {P : Program} {w : World} {ops : Array Oper} {rest : List Oper} {o : Oper} {a : Act} {Q : Exit → Act → World → Prop} (hgd : o.guard = none) (s x : Operand) (t : TypeId)
    (ho : o.op = .call { callee := .builtin .append, args := #[s, x], argTypes := #[t, t] })
    (i : TypeInfo) (z : Value) (ht : P.underlying t = some (.slice 9)) (hi : P.info? 9 = some i) (hz : i.zero = some z)
    (hsize : i.size = 1) (hby : i.bytes = 16) (hzs : z.cells.size = 1) (hs : a.eval s = .slice none 0 0)
    (aa : Option Addr) (cap : Nat) (Z : TL) (hx : a.eval x = .slice aa Z.length cap) (hT : Txs w aa cap Z) (hnil : aa = none → cap = 0) (hn : Z.length ≤ 1000)
    (h : ∀ v w', OwnT w' w.heap.size v (Z.map str) → w.grownBy w' none → wpList P ops Q rest (a.put o.dst v) w') : wpList P ops Q (o :: rest) a w := by
  refine wpList_plain hgd fun K hK => ?_
  have hown : w.ownsRow w.heap.size 9 1 (.slice none 0 0) 0 [] := World.ownsRow_nil _ _ _ _
  have key : ∃ v' w', (Builtin.append_ #[t, t] o.type #[.slice none 0 0, .slice aa Z.length cap]).run P w = .ok v' w' ∧ w'.ownsRow w.heap.size 9 1 v' (0 + Z.length) ([] ++ (Z.map str).map Value.string) ∧ w.grownBy w' none := by
    cases aa with
    | none =>
      have hc := hnil rfl
      have hz0 : Z = [] := by
        apply Classical.byContradiction
        intro hne
        obtain ⟨b, f, e, -⟩ := hT.cells (List.length_pos_iff.2 hne)
        cases e
      subst hz0 hc
      exact ⟨_, w, run_append_owned_none (P := P) (w := w) w.heap.size t o.type 9 i 1 ht hi (.slice none 0 0) 0 _ hown, by simpa using hown, ⟨rfl, rfl, rfl, Nat.le_refl _, fun _ _ _ => rfl⟩⟩
    | some ad =>
      have hcs : ∀ j u, ((Z.map str).map Value.string)[j]? = some u → w.cell? (ad.add j) = some u := by
        intro j u hu
        have hj : j < Z.length := by
          have := (List.getElem?_eq_some_iff.1 hu).1
          simpa using this
        obtain ⟨b, f, e, hc⟩ := hT.cells (by omega)
        cases e
        rw [Go.WideShapes.add_plain, hc j hj, ← hu]
        simp [hj]
      obtain ⟨v', w', hr, h2, h3, _, h5⟩ := run_append_own_at (P := P) w w.heap.size t o.type 9 i z 1 16 ht hi hz hsize hby hzs (by decide) (.slice none 0 0) 0 _ hown ad Z.length cap _ (by simp) hcs (one_texts Z) (by unfold maxLen; omega) (by omega) (Nat.le_refl _)
      exact ⟨v', w', hr, h2, h3⟩
  obtain ⟨v', w', hr, h2, h3⟩ := key
  unfold Oper.wp execOp
  simp only [ho, resolve, invoke, builtin, Sem.run_bind, Sem.run_pure, Result.andThen_ok, List.map_toArray, List.map_cons, List.map_nil, hs, hx, hr]
  refine hK _ _ (h v' w' ?_ h3)
  unfold OwnT
  simpa using h2
theorem rpth_kind (o : Option Pth) (l : B) (h : o = readP NameM.isN l) : (pt o).kind ≤ 4 := by
  subst h
  have H : ∀ x : Option Pth, (∀ p, x = some p → p.kind ≤ 4) → (pt x).kind ≤ 4 := by
    intro x hx
    cases x with
    | none => decide
    | some p => exact hx p rfl
  refine H _ fun p hp => ?_
  unfold readP at hp
  (repeat' split at hp)
  · unfold logR at hp; split at hp <;> simp at hp; subst hp; show 1 ≤ 4; omega
  · unfold blobR at hp; split at hp <;> simp at hp; subst hp; show 2 ≤ 4; omega
  · unfold pageR at hp; split at hp <;> simp at hp; subst hp; show 3 ≤ 4; omega
  · unfold stageR at hp; split at hp <;> simp at hp; subst hp; show 4 ≤ 4; omega
  · cases hp
set_option maxHeartbeats 1000000 in
theorem said_any (k n s p : Int) (nm : B) (w : World) (h0 : 0 ≤ k) (h1 : k ≤ 4) :
    Calls Try.prog 6 #[.agg #[.int .i64 k, .int .i64 n, .int .u64 s, .int .u32 p, .string (str nm)]] w fun e w' => e = .returned (.agg #[.int .u8 k, .int .i64 n, .int .u64 s, .int .u32 p, .string (str nm)]) ∧ Below w.heap.size w w' := by
  have hcv : IntKind.u8.wrap k = k := IntWalk.u8_in _ ⟨by omega, by omega⟩
  go_enter Try.func6, Try.ntmps6
  go_wp2_with fail
  refine bodyPost_ret (results_cell_row rfl _ _ (w.heap.size + 1) _ #[.int .u8 k, .int .i64 n, .int .u64 s, .int .u32 p, .string (str nm)] _ _ rfl (by simpa using heap_alloc_new (w.alloc (rpthO k n s p nm)) (pthO k n s p nm)) Try.underlying29 rfl info_pth) rfl ?_
  exact ⟨rfl, ((Below.refl _ w).alloc (Nat.le_refl _) _).alloc (by simp) _⟩

/-- the five cells of a path, in each world that grows out of one -/
theorem pth_grown {W : World} {g : Nat} {k n s p : Int} {nm : B} (h : W.heap[g]? = some (pthO k n s p nm)) : ∀ d os,
    (Go.Sort.grow (redrawn W d) os).cell? ⟨g, 0, none⟩ = some (.int .u8 k) ∧ (Go.Sort.grow (redrawn W d) os).cell? ⟨g, 1, none⟩ = some (.int .i64 n) ∧ (Go.Sort.grow (redrawn W d) os).cell? ⟨g, 2, none⟩ = some (.int .u64 s) ∧ (Go.Sort.grow (redrawn W d) os).cell? ⟨g, 3, none⟩ = some (.int .u32 p) ∧ (Go.Sort.grow (redrawn W d) os).cell? ⟨g, 4, none⟩ = some (.string (str nm)) := fun d os =>
  pth_cells (((below_regrown W d os).block g (Array.getElem?_eq_some_iff.1 h).1).trans h)
theorem own_txs {w : World} {N : Nat} {v : Value} {Z : TL} (h : OwnT w N v (Z.map str)) (hs : ∀ s ∈ Z, s.length ≤ 9223372036854775807) (hn : Z.length ≤ 1000) : ∃ a cp, v = .slice a Z.length cp ∧ Txs w a cp Z := by
  have h' : w.ownsRow N 9 1 v (Z.map str).length ((Z.map str).map Value.string) := h
  obtain ⟨a, cp, e, hc⟩ := h.open_
  rw [List.length_map] at e
  have hcap : Z.length ≤ cp := by
    obtain ⟨_, ⟨rfl, h0⟩ | ⟨g, cp2, cur, rfl, hg0, hblk, hle, hcm, hsz, htk⟩⟩ := h'
    · rw [List.length_map] at h0; omega
    · obtain ⟨-, -, rfl⟩ := Value.slice.inj e; rw [List.length_map] at hle; exact hle
  refine ⟨a, cp, e, ⟨hcap, hs, by omega, fun h0 => ?_⟩⟩
  obtain ⟨g, e1, e2, e3, e4⟩ := hc (by rw [List.length_map]; exact h0)
  refine ⟨g, 0, e1, fun i hi => ?_⟩
  have := e4 i (by simpa using hi)
  rw [Nat.zero_add, this]
  simp [hi]
theorem under_split (k : Int) (Z : TL) (j : Nat) : under k Z = under k (Z.take j) ++ under k (Z.drop j) := by
  unfold under
  rw [← List.filter_append, List.take_append_drop]
theorem under_at (k : Int) (Z : TL) (j : Nat) (h : j < Z.length) (hk : keep k (Z.getD j []) = true) : (under k (Z.take j)).length < (under k Z).length ∧ (under k Z).getD (under k (Z.take j)).length [] = Z.getD j [] ∧ (under k (Z.take (j + 1))).length = (under k (Z.take j)).length + 1 := by
  have e := under_split k Z (j + 1)
  have e2 := under_succ k Z j h
  rw [hk] at e2
  simp only [if_true] at e2
  refine ⟨?_, ?_, by rw [e2]; simp⟩
  · rw [e, e2]; simp
  · rw [e, e2, List.getD_eq_getElem?_getD]
    simp
theorem under_not (k : Int) (Z : TL) (j : Nat) (h : j < Z.length) (hk : keep k (Z.getD j []) = false) : (under k (Z.take (j + 1))).length = (under k (Z.take j)).length := by
  rw [under_succ k Z j h, hk]; simp
set_option maxHeartbeats 2000000 in
set_option maxRecDepth 100000 in
theorem reads_any (k : Int) (l : B) (Z : TL) (a : Option Addr) (cap : Nat) (w : World) (hl : l.length ≤ 9223372036854775807) (hT : Txs w a cap Z) (hnil : a = none → cap = 0) :
    Calls Try.prog 3 #[.string (str l), .int .u8 k, .slice a Z.length cap] w fun e w' => e = .returned (.bool true) ∧ Below w.heap.size w w' := by
  have HR := Lib.hid (fun w => pRead_any l w hl)
  have HD := Lib.hid (fun w => rRead_any l w hl)
  have hk4 := rpth_kind _ l rfl
  have HT := Lib.hid hT
  have HNL := Lib.hid hnil
  unfold ppV at HR
  unfold rpV at HD
  generalize readP NameM.isN l = o at *
  have k0 : (0 : Int) ≤ ((pt o).kind : Int) := by omega
  have k4 : ((pt o).kind : Int) ≤ 4 := by omega
  clear hk4 hT hnil hl
  generalize ((pt o).kind : Int) = v1 at *
  generalize ((pt o).n : Int) = v2 at *
  generalize (pt o).sum = v3 at *
  generalize ((pt o).part : Int) = v4 at *
  generalize (pt o).name = v5 at *
  generalize er o = v6 at *
  have HSD := Lib.hid (fun w => said_any v1 v2 v3 v4 v5 w k0 k4)
  clear k0 k4
  go_enter Try.func3, Try.ntmps3
  go_wp2_with (first
    | (go_at_call 4; refine (HR.out _).mono ?_; rintro e w1 ⟨rfl, hb1⟩)
    | (go_at_call 5; refine (HD.out _).mono ?_; rintro e w2 ⟨rfl, hb2⟩))
  have r1 := (hb2.block w1.heap.size (by simp)).trans (heap_alloc_new w1 (pthO v1 v2 v3 v4 v5))
  have HB2 : Hid (Below w.heap.size w (w2.alloc (rpthO v1 v2 v3 v4 v5))) := Lib.hid (by
    have b1 := hb1.alloc hb1.size (pthO v1 v2 v3 v4 v5)
    have b2 := b1.trans (hb2.mono b1.size)
    exact b2.alloc b2.size _)
  have hlt : w1.heap.size < w2.heap.size := (Array.getElem?_eq_some_iff.1 r1).1
  have r1' := (heap_alloc_old w2 (rpthO v1 v2 v3 v4 v5) (r := w1.heap.size) hlt).trans r1
  have r2' := heap_alloc_new w2 (rpthO v1 v2 v3 v4 v5)
  clear hb1 hb2 r1 hlt
  generalize w2.alloc (rpthO v1 v2 v3 v4 v5) = W at *
  have HP := Lib.hid r1'
  have HQ := Lib.hid r2'
  have kp := pth_grown r1'
  have c0 := fun d os => (kp d os).1
  have c1 := fun d os => (kp d os).2.1
  have c2 := fun d os => (kp d os).2.2.1
  have c3 := fun d os => (kp d os).2.2.2.1
  have c4 := fun d os => (kp d os).2.2.2.2
  obtain ⟨q0, q1, q2, q3, q4⟩ := rpth_cells r2'
  have d0 := cell_regrown q0
  have d1 := cell_regrown q1
  have d2 := cell_regrown q2
  have d3 := cell_regrown q3
  have d4 := cell_regrown q4
  clear r1' r2' q0 q1 q2 q3 q4 kp
  have cS : ∀ d os, Calls Try.prog 6 _ (Go.Sort.grow (redrawn W d) os) _ := fun d os => Calls.regrown_of (HSD.out _)
  refine wp_region_quiet_below (by kernel_rfl) (by kernel_rfl) ?_
  repeat (quiet_step (first | exact cS _ _))
  refine wpQuiet_nil ?_
  intro _ hw'
  obtain ⟨⟨dq, osq⟩, hw''⟩ := hw'
  subst hw''
  have hbq := below_regrown W dq osq
  have HB3 := Lib.hid (HB2.out.trans (hbq.mono HB2.out.size))
  have HP3 := Lib.hid ((hbq.block _ (Array.getElem?_eq_some_iff.1 HP.out).1).trans HP.out)
  have HQ3 := Lib.hid ((hbq.block _ (Array.getElem?_eq_some_iff.1 HQ.out).1).trans HQ.out)
  clear cS c0 c1 c2 c3 c4 d0 d1 d2 d3 d4 HP HQ hbq HB2
  generalize Go.Sort.grow (redrawn W dq) osq = W9 at *
  generalize hbb : decide (300 < (Z.length : Int)) = bb
  cases bb
  rotate_left
  · clear hbb
    go_wp2_with fail
    have kp := pth_grown HP3.out
    have c0 := fun d os => (kp d os).1
    have c1 := fun d os => (kp d os).2.1
    have c2 := fun d os => (kp d os).2.2.1
    have c3 := fun d os => (kp d os).2.2.2.1
    have c4 := fun d os => (kp d os).2.2.2.2
    obtain ⟨q0, q1, q2, q3, q4⟩ := rpth_cells HQ3.out
    have d0 := cell_regrown q0
    have d1 := cell_regrown q1
    have d2 := cell_regrown q2
    have d3 := cell_regrown q3
    have d4 := cell_regrown q4
    clear q0 q1 q2 q3 q4 kp
    have cS : ∀ d os, Calls Try.prog 6 _ (Go.Sort.grow (redrawn W9 d) os) _ := fun d os => Calls.regrown_of (HSD.out _)
    have cA : ∀ d os, Calls Try.prog 7 _ (Go.Sort.grow (redrawn W9 d) os) _ := fun d os => Calls.regrown_of (alive_any _)
    refine wp_region_quiet_below (by kernel_rfl) (by kernel_rfl) ?_
    repeat (quiet_step (first | exact cS _ _ | exact cA _ _))
    refine wpQuiet_nil ?_
    intro _ hw'
    obtain ⟨⟨dq2, osq2⟩, hw''⟩ := hw'
    subst hw''
    have hbq := Lib.hid (below_regrown W9 dq2 osq2)
    clear cS cA c0 c1 c2 c3 c4 d0 d1 d2 d3 d4 HP3 HQ3
    generalize Go.Sort.grow (redrawn W9 dq2) osq2 = W10 at *
    go_wp2_with fail
    go_ret
    exact ⟨rfl, HB3.out.trans (hbq.out.mono HB3.out.size)⟩
  have h300 : ¬ 300 < Z.length := by have := of_decide_eq_false hbb; omega
  clear hbb
  have HTW := Lib.hid (HT.out.gr HB3.out)
  have HU := Lib.hid (fun w a cap (h : Txs w a cap Z) => pUnder_any k Z a cap w h (by omega))
  have HZ := Lib.hid (show Z.length ≤ 300 by omega)
  obtain ⟨i0, hi, hz0, hz1, hz2⟩ := info_parts TextR.info_text
  clear h300 HP3 HQ3
  go_wp2_with (at_builtin; refine wpList_copy rfl _ _ 23 rfl i0 (.string ⟨#[]⟩) Try.underlying23 hi hz0 hz1 hz2 rfl rfl a cap Z rfl HTW.out HNL.out (by have := HZ.out; omega) ?_)
  intro vm W4 hm hg4
  obtain ⟨am, cpm, rfl, hTM⟩ := own_txs hm (fun s hs => HTW.out.short s hs) (by have := HZ.out; omega)
  have HB4 := Lib.hid (HB3.out.grown hg4 HB3.out.size (fun j hj => by cases hj))
  have HTL4 := Lib.hid (HTW.out.gr ((Below.refl W9.heap.size W9).grown hg4 (Nat.le_refl _) (fun j hj => by cases hj)))
  have HTM4 := Lib.hid hTM
  clear hm hg4 hTM HTW HB3
  go_wp2_with (go_at_call 8; refine (HU.out _ _ _ HTM4.out).mono ?_; rintro e W5 ⟨au, rfl, hu5⟩)
  have HB5 := Lib.hid (HB4.out.trans (hu5.below.mono HB4.out.size))
  have HTL := Lib.hid (HTL4.out.gr hu5.below)
  have HTM := Lib.hid (HTM4.out.gr hu5.below)
  have HUC := Lib.hid hu5.txs
  have HK : Hid (∀ j, keep k (Z.getD j []) = (decide (er (readP NameM.isN (Z.getD j [])) = 0) && decide (((pt (readP NameM.isN (Z.getD j []))).kind : Int) = k))) := Lib.hid (fun j => rfl)
  have HDJ := Lib.hid (fun j (h : j < Z.length) w => rRead_any (Z.getD j []) w (HTL.out.mem j h))
  have HK4 := Lib.hid (fun j => rpth_kind (readP NameM.isN (Z.getD j [])) (Z.getD j []) rfl)
  have HAT := Lib.hid (fun j h hk => under_at k Z j h hk)
  have HNT := Lib.hid (fun j h hk => under_not k Z j h hk)
  have HLE := Lib.hid (fun j => under_length k Z j)
  have HEN := Lib.hid (show (under k (Z.take Z.length)).length = (under k Z).length by rw [List.take_length])
  have HUL := Lib.hid (show (under k Z).length ≤ 300 by have := under_length k Z Z.length; rw [List.take_length] at this; have := HZ.out; omega)
  clear hu5 HB4 HTL4 HTM4 HU
  go_loopw [13, 14] (fun n i wr => ∃ j : Nat, j ≤ Z.length ∧ i = .int .i64 j ∧ n = .int .i64 ((under k (Z.take j)).length : Nat) ∧ Below W5.heap.size W5 wr) (fun _ i _ => Z.length - (intOf i).toNat)
  case atStart => exact ⟨0, Nat.zero_le _, rfl, rfl, Below.refl _ _⟩
  case round =>
    obtain ⟨j, hj, rfl, rfl, hbw⟩ := hrel
    rename World => wr
    by_cases hlt : j < Z.length
    · have hdec : decide (j < Z.length) = true := by simpa using hlt
      obtain ⟨b, f, rfl, hcl⟩ := HTL.out.cells (by omega)
      obtain ⟨bm, fm, rfl, hcm⟩ := HTM.out.cells (by omega)
      have cl := hcl j hlt
      have cm := hcm j hlt
      have bl := World.block_lt_of_cell? _ _ cl
      have bmm := World.block_lt_of_cell? _ _ cm
      have cl' : wr.cell? ⟨b, f + j, none⟩ = some (.string (str (Z.getD j []))) := by rw [hbw.cell (by exact bl)]; exact cl
      have HDj := Lib.hid (HDJ.out j hlt)
      have HKj := Lib.hid (HK.out j)
      have hk4 := HK4.out j
      have HATj := Lib.hid (HAT.out j hlt)
      have HNTj := Lib.hid (HNT.out j hlt)
      have hle := HLE.out j
      have hul := HUL.out
      have HBW := Lib.hid hbw
      unfold rpV at HDj
      clear hcl hcm hbw
      generalize keep k (Z.getD j []) = kp at *
      generalize readP NameM.isN (Z.getD j []) = rd at *
      generalize Z.getD j [] = s at *
      have her : er rd = 0 ∨ er rd = 110 := by unfold er; split <;> simp
      have x0 : (0 : Int) ≤ ((pt rd).kind : Int) := by omega
      have x4 : ((pt rd).kind : Int) ≤ 4 := by omega
      clear hk4
      generalize ((pt rd).kind : Int) = y1 at *
      generalize ((pt rd).n : Int) = y2 at *
      generalize (pt rd).sum = y3 at *
      generalize ((pt rd).part : Int) = y4 at *
      generalize (pt rd).name = y5 at *
      generalize er rd = y6 at *
      have hcv : IntKind.u8.wrap y1 = y1 := IntWalk.u8_in _ ⟨by omega, by omega⟩
      have heq : ((str s).toList != (str s).toList) = false := by simp
      clear x0 x4
      have CL := Lib.hid cl
      have CM := Lib.hid cm
      clear cl cm
      have CR : Hid (∀ w2, Below wr.heap.size wr w2 → ∀ o : Obj, (w2.alloc o).cell? ⟨b, f + j, none⟩ = some (.string (str s)) ∧ (w2.alloc o).cell? ⟨bm, fm + j, none⟩ = some (.string (str s)) ∧ Below W5.heap.size W5 (w2.alloc o)) := Lib.hid (fun w2 hb o => by
        have hb2 : Below W5.heap.size W5 (w2.alloc o) := (HBW.out.trans (hb.mono HBW.out.size)).alloc (Nat.le_trans HBW.out.size hb.size) o
        exact ⟨by rw [hb2.cell (by exact bl)]; exact CL.out, by rw [hb2.cell (by exact bmm)]; exact CM.out, hb2⟩)
      clear bl bmm CL CM
      have hwj : wrap64 ((j : Int) + 1) = ((j + 1 : Nat) : Int) := by have := HZ.out; rw [IntWalk.wrap64_in _ ⟨by omega, by omega⟩]; omega
      rcases her with rfl | rfl
      · by_cases hk : y1 = k
        · have hd : (y1 == k) = true := by simpa using hk
          have hd2 : decide (y1 = k) = true := decide_eq_true hk
          obtain ⟨n1, n2, n3⟩ := HATj.out (by rw [HKj.out, hd2]; rfl)
          obtain ⟨g, rfl, -, gl, hcu⟩ := HUC.out (by omega)
          have cu := hcu _ n1
          rw [n2] at cu
          have CU : Hid (∀ w2 : World, Below W5.heap.size W5 w2 → w2.cell? ⟨g, (under k (Z.take j)).length, none⟩ = some (.string (str s))) := Lib.hid (fun w2 hb2 => by rw [hb2.cell (by exact gl)]; exact cu)
          have N3 := Lib.hid n3
          clear hk HKj HATj HNTj cu gl hcu n2 n3
          generalize (under k (Z.take j)).length = n at *
          generalize (under k Z).length = m at *
          have hdn : decide ((m : Int) ≤ (n : Int)) = false := decide_eq_false (by omega)
          have hdn' : decide (m ≤ n) = false := decide_eq_false (by omega)
          have hw1 : IntKind.i64.wrap ((n : Int) + 1) = (n : Int) + 1 := IntWalk.i64_in _ ⟨by omega, by omega⟩
          go_wp2_with (go_at_call 5; refine (HDj.out _).mono ?_; rintro e w2 ⟨rfl, hb⟩; obtain ⟨z1, z2, z3⟩ := CR.out w2 hb (rpthO y1 y2 y3 y4 y5); have HB6 := Lib.hid z3; clear hb z3; have z4 := CU.out _ HB6.out)
          go_quiet (fail)
          go_wp2_with fail
          go_quiet (fail)
          go_wp2_with fail
          rw [hwj]
          refine ⟨⟨j + 1, by omega, rfl, by rw [N3.out]; rfl, below_drewN HB6.out _⟩, ?_⟩
          simp [intOf]; omega
        · have hd : (y1 == k) = false := by simpa using hk
          have hd2 : decide (y1 = k) = false := decide_eq_false hk
          have N3 := Lib.hid (HNTj.out (by rw [HKj.out, hd2]; simp))
          clear hk HKj HATj HNTj
          go_wp2_with (go_at_call 5; refine (HDj.out _).mono ?_; rintro e w2 ⟨rfl, hb⟩; obtain ⟨z1, z2, z3⟩ := CR.out w2 hb (rpthO y1 y2 y3 y4 y5); have HB6 := Lib.hid z3; clear hb z3)
          go_quiet (fail)
          go_wp2_with fail
          go_roundw
          case rel => exact ⟨j + 1, by omega, by rw [hwj], by rw [N3.out], below_drewN HB6.out _⟩
          case measure => rw [hwj]; simp [intOf]; omega
      · have N3 := Lib.hid (HNTj.out (by rw [HKj.out]; simp))
        clear HKj HATj HNTj
        go_wp2_with (go_at_call 5; refine (HDj.out _).mono ?_; rintro e w2 ⟨rfl, hb⟩; obtain ⟨z1, z2, z3⟩ := CR.out w2 hb (rpthO y1 y2 y3 y4 y5); have HB6 := Lib.hid z3; clear hb z3)
        go_quiet (fail)
        go_wp2_with fail
        go_roundw
        case rel => exact ⟨j + 1, by omega, by rw [hwj], by rw [N3.out], below_drewN HB6.out _⟩
        case measure => rw [hwj]; simp [intOf]; omega
    · have hdec : decide (j < Z.length) = false := by simpa using hlt
      have hke : j = Z.length := by omega
      subst hke
      rw [HEN.out]
      have HBW := Lib.hid hbw
      clear hlt hbw
      go_wp2_with (go_at_call 7; refine (alive_any _).mono ?_; rintro e w6 ⟨rfl, hb6⟩)
      go_ret
      exact ⟨rfl, (HB5.out.trans (HBW.out.mono HB5.out.size)).trans (hb6.mono (by have := HB5.out.size; have := HBW.out.size; omega))⟩
end PathC
end Go.Proofs.Ytkngdhchjofleaa
