/-
  A region that draws its order and only reads, within a round of a range over a function: one walk of the text's order serves every order. (In a round every operation that is no defer statement is carried out as everywhere.)
  Both logs say the same: the law's stands.
-/
import Derived.Test.YtlnbjlidakdmlaaGreatDoorChecked
import Derived.Sort.QuietIn
import Derived.TacticsIn
import Derived.Test.YtlnbjlidakdmlaaGreatDoorLogTwo
import Derived.Test.YtlnbjlidakdmlaaGreatDoorLogIter
import Derived.Sort.CutIn
import Derived.RegionIn
namespace Go.Proofs.YtlnbjlidakdmlaaGreatDoor
namespace RoundQ
variable {F : Fence} {n : Nat} {P : Program} {ops : Array Oper} {md : Region.Mode} {C : World → Prop}

def noDefer (o : Oper) : Bool := match o.op with | .defer _ => false | _ => true
theorem noDefer_spec {o : Oper} (h : noDefer o = true) : ∀ c, o.op ≠ .defer c := fun c e => by
  unfold noDefer at h
  rw [e] at h
  cases h
theorem op_of_quiet {o : Oper} {a : Act} {K : Act → Prop} {K' : Act → World → Prop} {Q' : Exit → Act → World → Prop} {w : World} (hro : noDefer o = true) (hw : C w) (h : ∀ a w', C w' → K a → K' a w')
    (ha : o.askedIn F P a C) (hh : o.quietIn F n P a C K) : o.wpIn F n P a w K' Q' := by
  obtain ⟨v, h1, h2⟩ := hh
  have h3 := h1 w hw
  unfold Oper.quietAtIn at h3
  unfold Oper.wpIn
  refine ⟨ha w hw, ?_⟩
  rw [Oper.semAt_eq F.round a.eval o (noDefer_spec hro)]
  generalize (execOp a.eval o).run P w = r at *
  cases r with
  | ok x w' =>
    cases x <;> simp only [Oper.quietUponIn] at h3 <;> simp only [Oper.uponIn]
    case value u =>
      obtain ⟨e1, e2⟩ := h3
      rw [e1, e2]
      exact h _ _ hw h2
    case skip =>
      obtain ⟨e1, e2⟩ := h3
      rw [e1, ← e2]
      exact h _ _ hw h2
    case enter f args =>
      obtain ⟨e1, hd, hc⟩ := h3
      rw [e1]
      exact ⟨hd, hc.mono fun e w'' ⟨he, hw''⟩ => by subst he; exact h _ _ hw'' h2⟩
  | halt x w' => simp only [Oper.quietUponIn] at h3
theorem wpOp_of_quiet {i : Nat} {a : Act} {K : Act → Prop} {K' : Act → World → Prop} {Q' : Exit → Act → World → Prop} {w : World} (hro : ∀ o, ops[i]? = some o → noDefer o = true) (hC : C w) (h : ∀ a w', C w' → K a → K' a w')
    (hh : qOpIn F n P ops C i K a) : wpOpIn F n P ops Q' i K' a w := by
  unfold qOpIn at hh
  unfold wpOpIn
  split
  · rename_i ho
    simp only [ho] at hh
    exact h _ _ hC hh
  · rename_i o ho
    simp only [ho] at hh
    obtain ⟨ha, hh⟩ := hh
    split
    · rename_i hw; simp only [hw, if_true] at hh; exact op_of_quiet (hro o ho) hC h ha hh
    · rename_i hw; simp only [hw] at hh; exact ⟨ha w hC, h _ _ hC hh⟩
theorem wpAny_of_quiet {Q : Act → Prop} {Q' : Exit → Act → World → Prop} (hro : ∀ (i : Nat) (o : Oper), ops[i]? = some o → noDefer o = true) (hQ : ∀ a w, C w → Q a → Q' .normal a w) : ∀ (fuel : Nat) (listed : Array Bool) (a : Act) (w : World), C w →
    wpAnyQIn F n P md ops C Q fuel listed a → wpAnyIn F n P md ops Q' fuel listed a w
  | 0, _, _, _, hw, h => ⟨h.1, hQ _ _ hw h.2⟩
  | fuel + 1, _, _, _, hw, h => ⟨fun h0 => hQ _ _ hw (h.1 h0), fun i hi => wpOp_of_quiet (hro i) hw (fun a' w' hw' => wpAny_of_quiet hro hQ fuel _ a' w' hw') (h.2 i hi)⟩
theorem region_quiet {id : Nat} {Q : Exit → Act → World → Prop} {a : Act} {w : World} {l : List Oper} (hro : l.all noDefer = true) (hm : P.follows .mixedOrders = true) (hB : Region.lexB .any l.toArray = true)
    (h : wpQuietIn F n P l.toArray (fun w' => ∃ n, w' = w.drewN n) (fun a' => ∀ w', (∃ n, w' = w.drewN n) → Q .normal a' w') l a) : (Code.region id l.toArray true).wpIn F n P Q a w := by
  simp only [Region.lexB, Bool.and_eq_true] at hB
  have hnd : ∀ (i : Nat) o, l.toArray[i]? = some o → noDefer o = true := fun i o ho => List.all_eq_true.1 hro o (by
    rw [List.getElem?_toArray] at ho
    exact List.mem_of_getElem? ho)
  refine wpIn_region_any hm (wpAny_of_quiet (C := fun w' => ∃ n, w' = w.drewN n) (Q := fun a' => ∀ w', (∃ n, w' = w.drewN n) → Q .normal a' w') hnd (fun _ w' hw' h => h w' hw') _ _ _ _ ⟨1, rfl⟩ ?_)
  have := wpAnyQIn_lex (F := F) (n := n) (C := fun w' => ∃ n, w' = w.drewN n) (md := .any) hB.1 l 0 (Array.replicate l.toArray.size false) a (by simp) (by simpa using hB.2) h
  simpa using this
end RoundQ
end Go.Proofs.YtlnbjlidakdmlaaGreatDoor
namespace Go.Proofs.YtlnbjlidakdmlaaGreatDoor
open Go.RowKit Go.Shelf
set_option linter.unusedVariables false
namespace LogP
open LogM FrameM FrameC TextR DiskM DiskC LogC ErrC
attribute [local go_sem] Oper.semAt_some Fence.wide Oper.askedIn

theorem chainB {a w w' : World} (h1 : Below a.heap.size a w) (h2 : Below w.heap.size w w') : Below a.heap.size a w' := h1.trans (h2.mono h1.size)
set_option maxRecDepth 100000 in
set_option maxHeartbeats 16000000 in
theorem stands_two {B : Nat} {w : World} {b y p nb q : Nat} {F : Nat → Prop} {v lv rv : Value} {cut : Int} {L : List (List UInt8)} {br : Bool} {s : DS} (h : TwoG B w b y p nb q F v lv rv cut L br s cut L br s) (hL : L.length ≤ 10000000) :
    CallsIn Fence.wide 6 Tryz.prog 19 #[.pointer (some ⟨p, 0, none⟩), .pointer (some ⟨q, 0, none⟩)] w fun e w' => e = .returned (.bool true) ∧ Below w.heap.size w w' := by
  have hcmp : ∀ (x y : Nat) (w : World), (binOp .eql 93 (.func (.func 101) #[] #[.pointer (some ⟨x, 0, none⟩), .pointer (some ⟨y, 0, none⟩)]) .nilFunc).run Tryz.prog w = .ok (.bool false) w := fun x y w => by kernel_rfl
  obtain ⟨M, hM⟩ : ∃ M, M = L.map str := ⟨_, rfl⟩
  have hml : M.length = L.length := by rw [hM, List.length_map]
  obtain ⟨ra, rc, hrv, -⟩ := h.ref.log.row.open_
  rw [← hM] at hrv
  subst hrv
  have HM := Lib.hid hM
  have HML := Lib.hid hml
  have hm2 : M.length ≤ 10000000 := by omega
  have H := Lib.hid h
  have c1 := h.ref.log.list
  have c2 := h.ref.log.broken
  have hq := h.ref.log.lt
  -- the world behind the two boxes
  obtain ⟨W0, hW0⟩ : ∃ W0, (w.alloc (.cells #[.pointer (some ⟨q, 0, none⟩)] 32)).alloc (.cells #[.bool false] 4) = W0 := ⟨_, rfl⟩
  have hb0 : Below w.heap.size w W0 := by rw [← hW0]; exact ((Below.refl _ _).alloc (Nat.le_refl _) _).alloc (by simp) _
  have b3 : W0.cell? ⟨w.heap.size, 0, none⟩ = some (.pointer (some ⟨q, 0, none⟩)) := by rw [← hW0, World.cell?_alloc_lt _ _ _ (by simp), World.cell?_alloc_at _ _ _ _ rfl]; rfl
  have d1 : W0.cell? ⟨q, 1, none⟩ = some (.slice ra M.length rc) := by rw [hb0.cell hq]; exact c1
  have d2 : W0.cell? ⟨q, 2, none⟩ = some (.bool br) := by rw [hb0.cell hq]; exact c2
  have hbk : ∀ k, Below w.heap.size w (W0.drewN k) := fun k => ⟨hb0.os, hb0.tape, hb0.output, hb0.size, hb0.block⟩
  have HLEN : Hid (∀ k, Calls Tryz.prog 55 #[.pointer (some ⟨p, 0, none⟩)] (W0.drewN k) fun e w1 => e = .returned (.int .i64 (M.length : Nat)) ∧ w1 = W0.drewN k) := Lib.hid (fun k => by rw [HML.out]; exact (len_any (H.out.pld.pl.below (hbk k))).mono fun _ _ h => ⟨h.1, h.2.symm⟩)
  have HFIL : Hid (∀ k, Calls Tryz.prog 56 #[.pointer (some ⟨p, 0, none⟩)] (W0.drewN k) fun e w1 => e = .returned (.int .i64 (filesN L.length : Nat)) ∧ w1 = W0.drewN k) := Lib.hid (fun k => (files_any (H.out.pld.pl.below (hbk k)) (by omega)).mono fun _ _ h => ⟨h.1, h.2.symm⟩)
  have HRFI : Hid (∀ k, Calls Tryz.prog 57 #[.pointer (some ⟨q, 0, none⟩)] (W0.drewN k) fun e w1 => e = .returned (.int .i64 (filesN L.length : Nat)) ∧ w1 = W0.drewN k) := Lib.hid (fun k => (rfiles_any (H.out.ref.below (hbk k)).log (by omega)).mono fun _ _ h => ⟨h.1, h.2.symm⟩)
  have HBRK : Hid (∀ k, Calls Tryz.prog 11 #[.pointer (some ⟨p, 0, none⟩)] (W0.drewN k) fun e w1 => e = .returned (.bool br) ∧ w1 = W0.drewN k) := Lib.hid (fun k => (broken_any (H.out.pld.pl.below (hbk k))).mono fun _ _ h => ⟨h.1, h.2.symm⟩)
  clear hbk
  have HS0 : Hid (w.heap.size + 2 ≤ W0.heap.size) := Lib.hid (by rw [← hW0]; simp)
  have HRES : Hid (Boxed W0 (w.heap.size + 1) 4 (.bool false)) := Lib.hid (by
    rw [← hW0]
    have := Boxed.new (w.alloc (.cells #[.pointer (some ⟨q, 0, none⟩)] 32)) 4 (.bool false)
    rwa [World.size_alloc] at this)
  have HBX : Hid (Boxed W0 w.heap.size 32 (.pointer (some ⟨q, 0, none⟩))) := Lib.hid (by
    rw [← hW0]
    exact (Boxed.new w 32 (.pointer (some ⟨q, 0, none⟩))).alloc _)
  have HB0 := Lib.hid hb0
  clear h hM hml hb0 c1 c2
  refine callsIn_of_wp_marks Tryz.func19 rfl trivial ?_ rfl
  simp only [Tryz.ntmps19, List.size_toArray, List.length_cons, List.length_nil, Nat.reduceAdd, Nat.reduceSub, Array.replicate_succ, Array.replicate_zero, List.push_toArray, List.append_toArray, List.nil_append, List.cons_append]
  gi_upto_region 3 with fail
  clear hW0
  gi_quiet (first
    | (gi_at_call 55; exact CallsIn.quiet_of_same (callsIn_wide.2 (HLEN.out _)))
    | (gi_at_call 56; exact CallsIn.quiet_of_same (callsIn_wide.2 (HFIL.out _)))
    | (gi_at_call 57; exact CallsIn.quiet_of_same (callsIn_wide.2 (HRFI.out _)))
    | (gi_at_call 11; exact CallsIn.quiet_of_same (callsIn_wide.2 (HBRK.out _))))
  obtain ⟨W1, hW1⟩ : ∃ W1, W0.drewN nq = W1 := ⟨_, rfl⟩
  have HB1 : Hid (Below w.heap.size w W1) := Lib.hid (by rw [← hW1]; exact ⟨HB0.out.os, HB0.out.tape, HB0.out.output, HB0.out.size, HB0.out.block⟩)
  have b31 : W1.cell? ⟨w.heap.size, 0, none⟩ = some (.pointer (some ⟨q, 0, none⟩)) := by rw [← hW1]; exact b3
  have HS1 : Hid (w.heap.size + 2 ≤ W1.heap.size) := Lib.hid (by rw [← hW1]; exact HS0.out)
  have HRES1 : Hid (Boxed W1 (w.heap.size + 1) 4 (.bool false)) := Lib.hid (by rw [← hW1]; exact HRES.out)
  have HBX1 : Hid (Boxed W1 w.heap.size 32 (.pointer (some ⟨q, 0, none⟩))) := Lib.hid (by rw [← hW1]; exact HBX.out)
  rw [hW1]
  clear hW1 b3 d1 d2 HB0 HLEN HFIL HRFI HBRK HS0 HRES HBX
  gi_wp2_with fail
  refine (callsIn_wide.2 (all_any _ _)).mono ?_
  rintro e w4 ⟨rfl, hw4⟩
  have HB34 : Hid (Below W1.heap.size W1 w4) := Lib.hid (by rw [hw4]; exact (walkW_facts _ 0 W1).2.2.2)
  clear hw4
  unfold walkF
  gi_wp2_with fail
  refine (callsIn_wide.2 (all_any _ _)).mono ?_
  rintro e w6 ⟨rfl, hw6⟩
  have hs5 : (w4.alloc (.cells #[.int .i64 0] 3)).heap.size = w4.heap.size + 1 := by simp
  obtain ⟨k0, k1, k2, k3⟩ := walkW_facts (some ⟨p, 0, none⟩) 0 (w4.alloc (.cells #[.int .i64 0] 3))
  rw [← hw6] at k0 k1 k2 k3
  rw [hs5] at k0 k1 k2
  have hb5 : Below w4.heap.size w4 (w4.alloc (.cells #[.int .i64 0] 3)) := (Below.refl _ _).alloc (Nat.le_refl _) _
  have HN6 : Hid (Boxed w6 w4.heap.size 3 (.int .i64 ((0 : Nat) : Int))) := Lib.hid ((k3.block _ (by rw [hs5]; omega)).trans (Boxed.new w4 3 (.int .i64 0)))
  have HB46 : Hid (Below w4.heap.size w4 w6) := Lib.hid (hb5.trans (k3.mono (by rw [hs5]; omega)))
  have HB14 := Lib.hid (HB1.out.trans (HB34.out.mono HB1.out.size))
  have HB6 : Hid (Below w.heap.size w w6) := Lib.hid (HB14.out.trans (HB46.out.mono HB14.out.size))
  have HK1 := Lib.hid k1
  have HK2 := Lib.hid k2
  have HSZ := Lib.hid k0
  clear hw6 hs5 k0 k1 k2 k3 hb5
  gi_wp2_with fail
  have h46 := HB46.out.size
  have hfoot : ∀ k, FootP p nb lv k → k < w4.heap.size := fun k hk => Nat.lt_of_lt_of_le (H.out.pld.pl.foot k hk).2 HB14.out.size
  refine wpIn_rangeFunc_ownG rfl (by decide) (gf := 101) (lb := #[.pointer (some ⟨(w4.heap.size + 1), 0, none⟩), .pointer (some ⟨(w4.heap.size + 1) + 1, 0, none⟩)]) rfl trivial (enters_of Tryz.func101 (by kernel_rfl) rfl)
    (walk_stops 5 (by decide) (w4.heap.size + 1) ((w4.heap.size + 1) + 1) w4.heap.size 0 0 rfl (by decide) (H.out.pld.pl.below HB6.out) (by omega) h46 hfoot HK1.out HK2.out) belowK_t (belowK_b h46) (Below.refl _ _) (fun _ => rfl)
    (fun (pre : List (Nat × ByteArray)) W => Boxed W w4.heap.size 3 (.int .i64 (pre.length : Int)) ∧ Below w4.heap.size w6 W)
    (fun _ pre _ => ∀ k, pre ≠ tell L 0 k)
    (OwnFrom.and (Own.from (boxed_own w4.heap.size 3 (fun (pre : List (Nat × ByteArray)) => .int .i64 (pre.length : Int))) _) (ownFrom_below h46 h46))
    (fun _ _ _ _ _ hs _ _ => hs)
    ⟨HN6.out, Below.refl _ _⟩
    (fun (x : Nat × ByteArray) => { tmps := #[.pointer (some ⟨p, 0, none⟩), .pointer (some ⟨q, 0, none⟩), undef, .pointer (some ⟨w.heap.size, 0, none⟩), .pointer (some ⟨w.heap.size + 1, 0, none⟩), .pointer (some ⟨w4.heap.size, 0, none⟩), .int .i64 (x.1 : Int), .string x.2, undef, undef, undef, undef, undef, undef, .pointer (some ⟨q, 0, none⟩), .bool false, undef, undef, .pointer (some ⟨p, 0, none⟩), .int .i64 (M.length : Int), .pointer (some ⟨q, 0, none⟩), .pointer (some ⟨q, 0, none⟩), .pointer (some ⟨q, 1, none⟩), .slice ra M.length rc, .int .i64 (M.length : Int), .bool false, .bool false, .pointer (some ⟨p, 0, none⟩), .int .i64 (filesN L.length : Nat), .pointer (some ⟨q, 0, none⟩), .int .i64 (filesN L.length : Nat), .bool false, .bool false, .bool false, .pointer (some ⟨p, 0, none⟩), .bool br, .pointer (some ⟨q, 0, none⟩), .pointer (some ⟨q, 0, none⟩), .pointer (some ⟨q, 2, none⟩), .bool br, .bool false, .bool false, .pointer (some ⟨p, 0, none⟩), walkF W1.heap.size (W1.heap.size + 1), .bool false, .pointer (some ⟨p, 0, none⟩), walkF (w4.heap.size + 1) ((w4.heap.size + 1) + 1), .int .i64 (x.1 : Int), .string x.2, undef, undef, undef, undef, undef, undef, undef, undef, undef, undef, undef, undef, undef, undef, undef, undef, undef, undef, undef, undef, undef, undef, undef, undef, undef, undef, undef, undef, undef, undef, undef, undef, undef, undef, undef, undef, undef, undef, undef, undef, undef, undef, undef, undef, undef, undef, undef, undef, undef, undef, undef, undef, undef, undef, undef, undef, undef, undef, undef, undef, undef, undef, undef, undef, undef, undef, undef, undef, undef, undef, undef, undef, undef, undef, undef, undef, undef, undef, undef, undef, undef, undef, undef, undef, undef, undef, undef, undef, undef, undef, undef, undef, undef, undef, undef, undef, undef, undef, undef, undef, undef, undef, undef, undef, undef, undef, undef, undef, undef, undef, undef, undef, undef, undef, undef, undef, undef, undef, undef, undef, undef, undef, undef, undef, undef], defers := [] }) ?assign ?body ?done ?stop
  case assign =>
    intro l x W K hK
    dsimp only [encW]
    gi_wp2
    exact hK
  case body =>
    rintro l pre x W ⟨hv, hB⟩ hlt
    have hlt2 : pre.length < M.length := by rw [HML.out]; omega
    have hcn := hv.cell
    have hfn := hv.frozen
    have hqB := H.out.ref.log.lt
    have h14 : w.heap.size ≤ w4.heap.size := HB14.out.size
    have hbb : Below w.heap.size w W := HB6.out.trans (hB.mono h14)
    have hb4 : Below w4.heap.size w4 W := HB46.out.trans hB
    have e3 : W.cell? ⟨w.heap.size, 0, none⟩ = some (.pointer (some ⟨q, 0, none⟩)) := by
      have hs1 := HS1.out
      have hs4 := HB34.out.size
      rw [hb4.cell (by show w.heap.size < w4.heap.size; omega), HB34.out.cell (by show w.heap.size < W1.heap.size; omega)]
      exact HBX1.out.cell
    have e1 : W.cell? ⟨q, 1, none⟩ = some (.slice ra M.length rc) := by
      rw [hbb.cell hqB, H.out.ref.log.list, HM.out]
    have hres : Boxed W (w.heap.size + 1) 4 (.bool false) := by
      have hs1 := HS1.out
      have hs4 := HB34.out.size
      have h := HRES1.out
      unfold Boxed at h ⊢
      rw [hb4.block _ (by omega), HB34.out.block _ (by omega)]
      exact h
    obtain ⟨g, rfl, hgl, hrow⟩ : ∃ g, ra = some ⟨g, 0, none⟩ ∧ g < w.heap.size ∧ w.cell? ⟨g, pre.length, none⟩ = some (.string M[pre.length]) := by
      obtain ⟨a, cp, he, hrest⟩ := H.out.ref.log.row.open_
      rw [← HM.out] at he
      simp only [Value.slice.injEq, true_and] at he
      obtain ⟨rfl, rfl⟩ := he
      obtain ⟨g, rfl, -, hgl, hc⟩ := hrest (by rw [← HM.out]; omega)
      refine ⟨g, rfl, hgl, ?_⟩
      have h1 := hc pre.length (by rw [← HM.out]; exact hlt2)
      simp only [HM.out]
      exact h1
    have hrowW : W.cell? ⟨g, pre.length, none⟩ = some (.string M[pre.length]) := by rw [hbb.cell (by exact hgl)]; exact hrow
    have hwi : IntKind.i64.wrap (pre.length : Int) = pre.length := IntWalk.i64_in _ ⟨by omega, by omega⟩
    have hd : decide ((M.length : Int) ≤ (pre.length : Int)) = false := decide_eq_false (by omega)
    have hd' : decide (M.length ≤ pre.length) = false := decide_eq_false (by omega)
    have HMX : M[pre.length] = str (L.getD pre.length []) := by
      simp only [HM.out]
      rw [List.getElem_map, List.getD_eq_getElem?_getD, List.getElem?_eq_getElem (by rw [← HML.out]; exact hlt2)]; rfl
    by_cases hx : x = (pre.length, M[pre.length])
    · subst hx
      clear hrow HMX
      generalize M[pre.length] = tx at *
      gi_wp2_with fail
      refine RoundQ.region_quiet (by kernel_rfl) (by kernel_rfl) (by kernel_rfl) ?_
      repeat (gi_big_quiet_step (fail))
      refine wpQuietIn_nil ?_
      rintro _ ⟨nq, rfl⟩
      gi_wp2_with fail
      have hg : W.grownBy ((W.drewN nq).setCell ⟨w4.heap.size, 0, none⟩ (.int .i64 ((pre.length : Int) + 1))) (some w4.heap.size) := by
        have h := grownBy_setCell' (W.drewN nq) w4.heap.size (.int .i64 ((pre.length : Int) + 1))
        exact ⟨h.os, h.tape, h.output, h.size, h.block⟩
      refine ⟨KeepsFrom.of_grownBy hg (fun j hj => by cases hj; have := HSZ.out; omega), (Below.refl _ _).grown hg (by have := hb4.size; omega) (fun j hj => by cases hj; exact Nat.le_refl _), ?_, hB.grown hg (by have := hb4.size; omega) (fun j hj => by cases hj; exact Nat.le_refl _)⟩
      have hbx : Boxed (W.drewN nq) w4.heap.size 3 (.int .i64 (pre.length : Int)) := hv
      have h := Boxed.set (.int .i64 ((pre.length : Int) + 1)) hbx
      rw [show ((pre ++ [(pre.length, tx)]).length : Int) = (pre.length : Int) + 1 from by simp]
      exact h
    · have HIX : Hid (∀ k, pre ++ [x] ≠ tell L 0 k) := Lib.hid (fun k e => by
        have hl := congrArg List.length e
        rw [tell_length, List.length_append] at hl
        have hk : k = pre.length + 1 := by simpa using hl.symm
        subst hk
        rw [tell_succ] at e
        have e2 := List.append_inj_right' e rfl
        simp only [List.cons.injEq, and_true] at e2
        refine hx ?_
        rw [e2, HMX]
        simp [tellF])
      have hresc := hres.cell
      have hresf := hres.frozen
      rcases x with ⟨xi, xs⟩
      by_cases hxi : xi = pre.length
      · subst hxi
        have hxs : ¬ xs = M[pre.length] := fun e => hx (by rw [e])
        have hsn : (xs.toList == (M[pre.length]).toList) = false := by
          rw [beq_eq_false_iff_ne, ByteArray.toList_eq, ByteArray.toList_eq]
          intro e
          exact hxs (ByteArray.ext (Array.toList_inj.1 e))
        have hsn2 : (xs.toList != (M[pre.length]).toList) = true := by rw [bne, hsn]; rfl
        clear hx HMX hrow hxs
        generalize M[pre.length] = tx at *
        gi_wp2_with fail
        refine RoundQ.region_quiet (by kernel_rfl) (by kernel_rfl) (by kernel_rfl) ?_
        repeat (gi_big_quiet_step (fail))
        refine wpQuietIn_nil ?_
        rintro _ ⟨nq, rfl⟩
        gi_wp2_with fail
        have hg : W.grownBy ((W.drewN nq).setCell ⟨w.heap.size + 1, 0, none⟩ (.bool false)) (some (w.heap.size + 1)) := by
          have h := grownBy_setCell' (W.drewN nq) (w.heap.size + 1) (.bool false)
          exact ⟨h.os, h.tape, h.output, h.size, h.block⟩
        exact ⟨KeepsFrom.of_grownBy hg (fun j hj => by cases hj; have := HSZ.out; have := HS1.out; have := HB34.out.size; omega), HIX.out⟩
      · have hne : ((xi : Int) == (pre.length : Int)) = false := by rw [beq_eq_false_iff_ne]; omega
        have hne2 : ((xi : Int) != (pre.length : Int)) = true := by rw [bne, hne]; rfl
        have hne3 : ¬ xi = pre.length := hxi
        clear hx HMX hrow
        gi_wp2_with fail
        refine RoundQ.region_quiet (by kernel_rfl) (by kernel_rfl) (by kernel_rfl) ?_
        repeat (gi_big_quiet_step (fail))
        refine wpQuietIn_nil ?_
        rintro _ ⟨nq, rfl⟩
        gi_wp2_with fail
        have hg : W.grownBy ((W.drewN nq).setCell ⟨w.heap.size + 1, 0, none⟩ (.bool false)) (some (w.heap.size + 1)) := by
          have h := grownBy_setCell' (W.drewN nq) (w.heap.size + 1) (.bool false)
          exact ⟨h.os, h.tape, h.output, h.size, h.block⟩
        exact ⟨KeepsFrom.of_grownBy hg (fun j hj => by cases hj; have := HSZ.out; have := HS1.out; have := HB34.out.size; omega), HIX.out⟩
  case stop =>
    rintro D c pre W _ ⟨k, -, e⟩ h _
    exact absurd e (h k)
  case done =>
    rintro D ys w7 hD rfl ⟨hv, hB⟩ hK
    have h14 : w.heap.size ≤ w4.heap.size := HB14.out.size
    have hb7 : Below w.heap.size w w7 := HB6.out.trans (hB.mono h14)
    have hb47 : Below w4.heap.size w4 w7 := HB46.out.trans hB
    have hs1 := HS1.out
    have hs4 := HB34.out.size
    have e3 : w7.cell? ⟨w.heap.size, 0, none⟩ = some (.pointer (some ⟨q, 0, none⟩)) := by
      rw [hb47.cell (by show w.heap.size < w4.heap.size; omega), HB34.out.cell (by show w.heap.size < W1.heap.size; omega)]
      exact HBX1.out.cell
    have hqB := H.out.ref.log.lt
    have e1 : w7.cell? ⟨q, 1, none⟩ = some (.slice ra M.length rc) := by
      rw [hb7.cell hqB, H.out.ref.log.list, HM.out]
    have hres : Boxed w7 (w.heap.size + 1) 4 (.bool false) := by
      have h := HRES1.out
      unfold Boxed at h ⊢
      rw [hb47.block _ (by omega), HB34.out.block _ (by omega)]
      exact h
    have hn7 : w7.cell? ⟨w4.heap.size, 0, none⟩ = some (.int .i64 (M.length : Int)) := by
      have := hv.cell
      rw [tell_length, Nat.sub_zero, ← HML.out] at this
      exact this
    have hlt7 : w4.heap.size < w7.heap.size := hv.lt
    have hD7 : D < w7.heap.size := (Array.getElem?_eq_some_iff.1 hK).1
    have HROW0 : Hid (ra = none ∨ ∃ g, ra = some ⟨g, 0, none⟩) := Lib.hid (by
      have hown : w.ownsRow 0 9 1 (.slice ra M.length rc) (L.map str).length ((L.map str).map Value.string) := by have := H.out.ref.log.row; unfold OwnT at this; exact this
      rcases hown.2 with ⟨h0, _⟩ | ⟨g', cp', cur, h0, _, _, h1, _⟩
      · left; simp only [Value.slice.injEq] at h0; exact h0.1
      · right; simp only [Value.slice.injEq] at h0; exact ⟨g', h0.1⟩)
    have HROW : Hid (0 < M.length → ∃ g, ra = some ⟨g, 0, none⟩ ∧ g < w.heap.size ∧ (∀ j, j < M.length → w.cell? ⟨g, j, none⟩ = some (.string (str (L.getD j [])))) ∧ M.length ≤ rc) := Lib.hid (fun hpos => by
      have hown : w.ownsRow 0 9 1 (.slice ra M.length rc) (L.map str).length ((L.map str).map Value.string) := by have := H.out.ref.log.row; unfold OwnT at this; exact this
      obtain ⟨a, cp, he, hrest⟩ := H.out.ref.log.row.open_
      rw [← HM.out] at he hrest
      simp only [Value.slice.injEq, true_and] at he
      obtain ⟨rfl, rfl⟩ := he
      obtain ⟨g, rfl, -, hgl, hc⟩ := hrest hpos
      refine ⟨g, rfl, hgl, fun j hj => ?_, ?_⟩
      rotate_left
      · rcases hown.2 with ⟨h0, _⟩ | ⟨g', cp', cur, h0, _, _, h1, _⟩
        · cases h0
        · simp only [Value.slice.injEq] at h0; omega
      rw [hc j hj]
      have hjl : j < L.length := by rw [← HML.out]; exact hj
      simp only [HM.out]
      rw [List.getElem_map, List.getD_eq_getElem?_getD, List.getElem?_eq_getElem hjl]; rfl)
    have HPL := Lib.hid (H.out.pld.pl.below hb7)
    have HV7 : Hid (VarsT w7) := Lib.hid (H.out.pld.vars.belowG (hb7.mono H.out.pld.hw) H.out.pld.g.1 H.out.pld.g.2)
    have HB7 := Lib.hid hb7
    have HG7 : Hid (0 < w7.heap.size ∧ 1 < w7.heap.size) := Lib.hid (by have h1 := H.out.pld.g; have h2 := H.out.pld.hw; have h3 := hb7.size; omega)
    have HRES7 := Lib.hid hres
    have HK7 := Lib.hid hK
    have HN7 := Lib.hid hn7
    have E3 := Lib.hid e3
    have E1 := Lib.hid e1
    clear hv hB hb7 hb47 hres hn7 hK e3 e1
    gi_wp2_with fail
    refine wpIn_wide.2 ?_
    go_loopw [8, 9, 10, 11, 12, 13] (fun iv _ _ _ _ _ wq => ∃ i : Int, iv = .int .i64 i ∧ -1 ≤ i ∧ i ≤ 2 * M.length + 1 ∧ Hid (Below w7.heap.size w7 wq)) (fun iv _ _ _ _ _ _ => (M.length + 1 - intOf iv).toNat)
    case atStart => exact ⟨-1, rfl, by omega, by omega, Lib.hid (Below.refl _ _)⟩
    case round =>
      obtain ⟨i, rfl, hi1, hi2, HBQ⟩ := hrel
      rename World => wq
      have e3 : wq.cell? ⟨w.heap.size, 0, none⟩ = some (.pointer (some ⟨q, 0, none⟩)) := by rw [HBQ.out.cell (by show w.heap.size < w7.heap.size; omega)]; exact E3.out
      have e1 : wq.cell? ⟨q, 1, none⟩ = some (.slice ra M.length rc) := by rw [HBQ.out.cell (by show q < w7.heap.size; have := HB7.out.size; omega)]; exact E1.out
      by_cases hil : i ≤ M.length
      · have hd1 : decide (i ≤ (M.length : Int)) = true := decide_eq_true hil
        have hpl := HPL.out.below HBQ.out
        have HAT := Lib.hid (at_any i hpl)
        clear hpl
        rcases Classical.em (0 ≤ i ∧ i < M.length) with hin | hin
        · obtain ⟨k, rfl⟩ : ∃ k : Nat, i = (k : Int) := ⟨i.toNat, by omega⟩
          have hkl : k < M.length := by omega
          have hT : atT L (k : Int) = str (L.getD k []) := by
            have := HML.out
            unfold atT
            rw [dif_pos (by omega), List.getD_eq_getElem?_getD, List.getElem?_eq_getElem (by omega)]; rfl
          have hC : atC L (k : Int) = 0 := by have := HML.out; unfold atC; rw [if_pos (by omega)]
          have hd2 : decide ((k : Int) < 0) = false := decide_eq_false (by omega)
          have hd3 : decide ((M.length : Int) ≤ (k : Int)) = false := decide_eq_false (by omega)
          obtain ⟨gM, rfl, hgM, hrM, hMrc⟩ := HROW.out (by omega)
          have HRM := Lib.hid hrM
          clear hrM
          go_wp2_with fail
          refine HAT.out.mono ?_
          rintro e w8 ⟨ev, rfl, hfe, hb8⟩
          rw [hT]
          rw [hC] at hfe
          obtain rfl : ev = .nilIface := by rcases hfe with ⟨_, h⟩ | ⟨h0, _⟩; exact h; exact absurd rfl h0
          have HB8 := Lib.hid (chainB HBQ.out hb8)
          have e1 : w8.cell? ⟨q, 1, none⟩ = some (.slice (some ⟨gM, 0, none⟩) M.length rc) := by rw [HB8.out.cell (by show q < w7.heap.size; have := HB7.out.size; omega)]; exact E1.out
          have hcm : w8.cell? ⟨gM, k, none⟩ = some (.string (str (L.getD k []))) := by rw [HB8.out.cell (by show gM < w7.heap.size; have := HB7.out.size; omega), HB7.out.cell (by exact hgM)]; exact HRM.out k hkl
          have e3 : w8.cell? ⟨w.heap.size, 0, none⟩ = some (.pointer (some ⟨q, 0, none⟩)) := by rw [HB8.out.cell (by show w.heap.size < w7.heap.size; omega)]; exact E3.out
          clear hb8 hfe hT hC HAT
          generalize str (L.getD k []) = tx at *
          go_wp2_with fail
          have hmaxL := HML.out
          have e3 : w8.cell? ⟨w.heap.size, 0, none⟩ = some (.pointer (some ⟨q, 0, none⟩)) := by rw [HB8.out.cell (by show w.heap.size < w7.heap.size; omega)]; exact E3.out
          have e1 : w8.cell? ⟨q, 1, none⟩ = some (.slice (some ⟨gM, 0, none⟩) M.length rc) := by rw [HB8.out.cell (by show q < w7.heap.size; have := HB7.out.size; omega)]; exact E1.out
          have HFR := Lib.hid (from_any ((k : Int)) (k) (by omega) (by omega) (HPL.out.below HB8.out) (by omega))
          clear hmaxL
          go_wp2_with fail
          refine HFR.out.mono ?_
          rintro e w9 ⟨vf, rfl, hof, hb9⟩
          have HB9 := Lib.hid (chainB HB8.out hb9)
          have e3 : w9.cell? ⟨w.heap.size, 0, none⟩ = some (.pointer (some ⟨q, 0, none⟩)) := by rw [HB9.out.cell (by show w.heap.size < w7.heap.size; omega)]; exact E3.out
          have e1 : w9.cell? ⟨q, 1, none⟩ = some (.slice (some ⟨gM, 0, none⟩) M.length rc) := by rw [HB9.out.cell (by show q < w7.heap.size; have := HB7.out.size; omega)]; exact E1.out
          obtain ⟨fa, fc, rfl, hfo⟩ := hof.open_
          have hfl : ((L.drop (k)).map str).length = M.length - k := by have := HML.out; rw [List.length_map, List.length_drop]; omega
          have HFO := Lib.hid hfo
          have HOF := Lib.hid hof
          rw [hfl]
          have HW9 : Hid (w7.heap.size ≤ w8.heap.size) := Lib.hid HB8.out.size
          clear hfo hof hb9 HFR hfl
          have hmn : min (k : Int) (M.length : Int) = (k : Int) := by omega
          have hrc : ¬ rc = k := by omega
          go_wp2_with fail
          go_quiet (fail)
          go_wp2_with fail

          have hpos : 0 < M.length - k := by omega
          obtain ⟨gF, rfl, hgF, hgFl, hcF⟩ := HFO.out (by rw [List.length_map, List.length_drop, ← HML.out]; exact hpos)
          have hcF2 : ∀ t, t < M.length - k → w9.cell? ⟨gF, t, none⟩ = some (.string (str (L.getD (k + t) []))) := fun t ht => by
            have hML := HML.out
            have h1 : t < ((L.drop (k)).map str).length := by rw [List.length_map, List.length_drop]; omega
            rw [hcF t h1, List.getElem_map, List.getElem_drop, List.getD_eq_getElem?_getD, List.getElem?_eq_getElem (by omega)]; simp
          have hfF : ∀ t, w9.frozen? ⟨gF, t, none⟩ = false := fun t => by
            have h := HOF.out
            unfold OwnT at h
            exact h.frozenAt t
          have HIN : Hid ((∀ t, 0 ≤ t → t < M.length - k → w9.cell? ⟨gF, t, none⟩ = some (.string (str (L.getD (k + t) [])))) ∧ (∀ t, w9.frozen? ⟨gF, t, none⟩ = false) ∧ Below w7.heap.size w7 w9) := Lib.hid ⟨fun t _ ht => hcF2 t ht, hfF, HB9.out⟩
          have HGF : Hid (w7.heap.size ≤ gF) := Lib.hid (Nat.le_trans HW9.out hgF)
          clear hcF2 hfF hcF hgF hgFl HFO HOF
          go_loopw [13] (fun kv wz => ∃ j : Nat, kv = .int .i64 j ∧ j ≤ M.length - k ∧ Hid ((∀ t, j ≤ t → t < M.length - k → wz.cell? ⟨gF, t, none⟩ = some (.string (str (L.getD (k + t) [])))) ∧ (∀ t, wz.frozen? ⟨gF, t, none⟩ = false) ∧ Below w7.heap.size w7 wz)) (fun kv _ => M.length - k - (intOf kv).toNat)
          case atStart => exact ⟨0, rfl, Nat.zero_le _, Lib.hid ⟨fun t h1 h2 => by simpa using HIN.out.1 t h1 h2, fun t => by simpa using HIN.out.2.1 t, below_drewN HIN.out.2.2 _⟩⟩
          case round =>
            obtain ⟨j, rfl, hjl, HJ⟩ := hrel
            rename World => wz
            by_cases hjj : j < M.length - k
            · have hdj : decide (j < M.length - k) = true := decide_eq_true hjj
              have hx1 := HJ.out.1 j (Nat.le_refl _) hjj
              have hx2 : wz.cell? ⟨gM, k + j, none⟩ = some (.string (str (L.getD (k + j) []))) := by rw [HJ.out.2.2.cell (by show gM < w7.heap.size; have := HB7.out.size; omega), HB7.out.cell (by exact hgM)]; exact HRM.out _ (by omega)
              have hfz := HJ.out.2.1 j
              generalize str (L.getD (k + j) []) = ty at *
              go_wp2
              go_quiet (fail)
              go_wp2
              go_roundw
              case rel =>
                refine ⟨j + 1, by go_num, by omega, Lib.hid ⟨fun t h1 h2 => ?_, fun t => by simpa using HJ.out.2.1 t, (below_drewN HJ.out.2.2 _).setCell HGF.out _⟩⟩
                rw [World.cell?_setCell_other _ _ _ _ (fun e => by cases e; omega)]
                simpa using HJ.out.1 t (by omega) h2
              case measure => simp [intOf]; omega
            · have hdj : decide (j < M.length - k) = false := decide_eq_false hjj
              have HBZ := Lib.hid HJ.out.2.2
              clear HJ
              have e3 : wz.cell? ⟨w.heap.size, 0, none⟩ = some (.pointer (some ⟨q, 0, none⟩)) := by rw [HBZ.out.cell (by show w.heap.size < w7.heap.size; omega)]; exact E3.out
              have e1 : wz.cell? ⟨q, 1, none⟩ = some (.slice (some ⟨gM, 0, none⟩) M.length rc) := by rw [HBZ.out.cell (by show q < w7.heap.size; have := HB7.out.size; omega)]; exact E1.out
              go_wp2_with fail
              go_roundw
              case rel => exact ⟨_, rfl, by omega, by omega, HBZ⟩
              case measure => simp [intOf]; omega
        · rcases Classical.em (i < 0) with hneg | hneg
          · obtain rfl : i = -1 := by omega
            have hd2 : decide ((-1 : Int) < 0) = true := by decide
            have hmx : max (-1 : Int) 0 = 0 := by decide
            have hmn : min (0 : Int) (M.length : Int) = 0 := by omega
            rcases Nat.eq_zero_or_pos M.length with hz | hpos
            · have hd0 : decide ((0 : Int) < (M.length : Int)) = false := decide_eq_false (by omega)
              have hd0' : decide (0 < M.length) = false := decide_eq_false (by omega)
              have HZ := Lib.hid hz
              clear hz
              rcases HROW0.out with rfl | ⟨gM, rfl⟩
              · skip
                have hT : atT L ((-1 : Int)) = ⟨#[]⟩ := by have := HML.out; unfold atT; exact dif_neg (by omega)
                have hC : atC L ((-1 : Int)) = 2 := by have := HML.out; unfold atC; rw [if_neg (by omega)]
                skip
                go_wp2_with fail
                refine HAT.out.mono ?_
                rintro e w80 ⟨ev, rfl, hfe, hb8⟩
                rw [hT]
                rw [hC] at hfe
                have HB80 := Lib.hid (chainB HBQ.out hb8)
                have HFE := Lib.hid hfe
                have e1 : w80.cell? ⟨q, 1, none⟩ = some (.slice none M.length rc) := by rw [HB80.out.cell (by show q < w7.heap.size; have := HB7.out.size; omega)]; exact E1.out
                have e3 : w80.cell? ⟨w.heap.size, 0, none⟩ = some (.pointer (some ⟨q, 0, none⟩)) := by rw [HB80.out.cell (by show w.heap.size < w7.heap.size; omega)]; exact E3.out
                clear hb8 hfe hT hC HAT
                go_wp2_with fail
                refine (is_ferr HFE.out (by decide) (by omega) ((-1 : Int)) (fun _ => rfl) (HV7.out.belowG HB80.out HG7.out.1 HG7.out.2).vars).mono ?_
                rintro e w8 ⟨rfl, hb81⟩
                have HB8 := Lib.hid (chainB HB80.out hb81)
                clear hb81
                go_wp2_with fail
                have hmaxL := HML.out
                have e3 : w8.cell? ⟨w.heap.size, 0, none⟩ = some (.pointer (some ⟨q, 0, none⟩)) := by rw [HB8.out.cell (by show w.heap.size < w7.heap.size; omega)]; exact E3.out
                have e1 : w8.cell? ⟨q, 1, none⟩ = some (.slice none M.length rc) := by rw [HB8.out.cell (by show q < w7.heap.size; have := HB7.out.size; omega)]; exact E1.out
                have HFR := Lib.hid (from_any ((-1 : Int)) (0) (by omega) (by omega) (HPL.out.below HB8.out) (by omega))
                clear hmaxL
                go_wp2_with fail
                refine HFR.out.mono ?_
                rintro e w9 ⟨vf, rfl, hof, hb9⟩
                have HB9 := Lib.hid (chainB HB8.out hb9)
                have e3 : w9.cell? ⟨w.heap.size, 0, none⟩ = some (.pointer (some ⟨q, 0, none⟩)) := by rw [HB9.out.cell (by show w.heap.size < w7.heap.size; omega)]; exact E3.out
                have e1 : w9.cell? ⟨q, 1, none⟩ = some (.slice none M.length rc) := by rw [HB9.out.cell (by show q < w7.heap.size; have := HB7.out.size; omega)]; exact E1.out
                obtain ⟨fa, fc, rfl, hfo⟩ := hof.open_
                have hfl : ((L.drop (0)).map str).length = M.length := by have := HML.out; rw [List.length_map, List.length_drop]; omega
                have HFO := Lib.hid hfo
                have HOF := Lib.hid hof
                rw [hfl]
                have HW9 : Hid (w7.heap.size ≤ w8.heap.size) := Lib.hid HB8.out.size
                clear hfo hof hb9 HFR hfl

                go_wp2_with fail
                go_quiet (fail)
                go_wp2_with fail

                all_goals (
                  go_loopw [13] (fun kv wz => kv = .int .i64 0 ∧ Hid (Below w7.heap.size w7 wz)) (fun _ _ => 0)
                  case atStart => exact ⟨rfl, Lib.hid (below_drewN HB9.out _)⟩
                  case round =>
                    obtain ⟨rfl, HBZ⟩ := hrel
                    rename World => wz
                    have e3 := (HBZ.out.cell (show w.heap.size < w7.heap.size by omega)).trans E3.out
                    have e1 := (HBZ.out.cell (show q < w7.heap.size by have := HB7.out.size; omega)).trans E1.out
                    go_wp2_with fail
                    go_roundw
                    case rel => exact ⟨_, rfl, by omega, by omega, HBZ⟩
                    case measure => simp [intOf]; omega)
              · skip
                have hT : atT L ((-1 : Int)) = ⟨#[]⟩ := by have := HML.out; unfold atT; exact dif_neg (by omega)
                have hC : atC L ((-1 : Int)) = 2 := by have := HML.out; unfold atC; rw [if_neg (by omega)]
                skip
                go_wp2_with fail
                refine HAT.out.mono ?_
                rintro e w80 ⟨ev, rfl, hfe, hb8⟩
                rw [hT]
                rw [hC] at hfe
                have HB80 := Lib.hid (chainB HBQ.out hb8)
                have HFE := Lib.hid hfe
                have e1 : w80.cell? ⟨q, 1, none⟩ = some (.slice (some ⟨gM, 0, none⟩) M.length rc) := by rw [HB80.out.cell (by show q < w7.heap.size; have := HB7.out.size; omega)]; exact E1.out
                have e3 : w80.cell? ⟨w.heap.size, 0, none⟩ = some (.pointer (some ⟨q, 0, none⟩)) := by rw [HB80.out.cell (by show w.heap.size < w7.heap.size; omega)]; exact E3.out
                clear hb8 hfe hT hC HAT
                go_wp2_with fail
                refine (is_ferr HFE.out (by decide) (by omega) ((-1 : Int)) (fun _ => rfl) (HV7.out.belowG HB80.out HG7.out.1 HG7.out.2).vars).mono ?_
                rintro e w8 ⟨rfl, hb81⟩
                have HB8 := Lib.hid (chainB HB80.out hb81)
                clear hb81
                go_wp2_with fail
                have hmaxL := HML.out
                have e3 : w8.cell? ⟨w.heap.size, 0, none⟩ = some (.pointer (some ⟨q, 0, none⟩)) := by rw [HB8.out.cell (by show w.heap.size < w7.heap.size; omega)]; exact E3.out
                have e1 : w8.cell? ⟨q, 1, none⟩ = some (.slice (some ⟨gM, 0, none⟩) M.length rc) := by rw [HB8.out.cell (by show q < w7.heap.size; have := HB7.out.size; omega)]; exact E1.out
                have HFR := Lib.hid (from_any ((-1 : Int)) (0) (by omega) (by omega) (HPL.out.below HB8.out) (by omega))
                clear hmaxL
                go_wp2_with fail
                refine HFR.out.mono ?_
                rintro e w9 ⟨vf, rfl, hof, hb9⟩
                have HB9 := Lib.hid (chainB HB8.out hb9)
                have e3 : w9.cell? ⟨w.heap.size, 0, none⟩ = some (.pointer (some ⟨q, 0, none⟩)) := by rw [HB9.out.cell (by show w.heap.size < w7.heap.size; omega)]; exact E3.out
                have e1 : w9.cell? ⟨q, 1, none⟩ = some (.slice (some ⟨gM, 0, none⟩) M.length rc) := by rw [HB9.out.cell (by show q < w7.heap.size; have := HB7.out.size; omega)]; exact E1.out
                obtain ⟨fa, fc, rfl, hfo⟩ := hof.open_
                have hfl : ((L.drop (0)).map str).length = M.length := by have := HML.out; rw [List.length_map, List.length_drop]; omega
                have HFO := Lib.hid hfo
                have HOF := Lib.hid hof
                rw [hfl]
                have HW9 : Hid (w7.heap.size ≤ w8.heap.size) := Lib.hid HB8.out.size
                clear hfo hof hb9 HFR hfl

                go_wp2_with fail
                go_quiet (fail)
                go_wp2_with fail

                all_goals (
                  go_loopw [13] (fun kv wz => kv = .int .i64 0 ∧ Hid (Below w7.heap.size w7 wz)) (fun _ _ => 0)
                  case atStart => exact ⟨rfl, Lib.hid (below_drewN HB9.out _)⟩
                  case round =>
                    obtain ⟨rfl, HBZ⟩ := hrel
                    rename World => wz
                    have e3 := (HBZ.out.cell (show w.heap.size < w7.heap.size by omega)).trans E3.out
                    have e1 := (HBZ.out.cell (show q < w7.heap.size by have := HB7.out.size; omega)).trans E1.out
                    go_wp2_with fail
                    go_roundw
                    case rel => exact ⟨_, rfl, by omega, by omega, HBZ⟩
                    case measure => simp [intOf]; omega)
            · obtain ⟨gM, rfl, hgM, hrM, hMrc⟩ := HROW.out hpos
              have HRM := Lib.hid hrM
              clear hrM
              have hT : atT L ((-1 : Int)) = ⟨#[]⟩ := by have := HML.out; unfold atT; exact dif_neg (by omega)
              have hC : atC L ((-1 : Int)) = 2 := by have := HML.out; unfold atC; rw [if_neg (by omega)]
              skip
              go_wp2_with fail
              refine HAT.out.mono ?_
              rintro e w80 ⟨ev, rfl, hfe, hb8⟩
              rw [hT]
              rw [hC] at hfe
              have HB80 := Lib.hid (chainB HBQ.out hb8)
              have HFE := Lib.hid hfe
              have e1 : w80.cell? ⟨q, 1, none⟩ = some (.slice (some ⟨gM, 0, none⟩) M.length rc) := by rw [HB80.out.cell (by show q < w7.heap.size; have := HB7.out.size; omega)]; exact E1.out
              have e3 : w80.cell? ⟨w.heap.size, 0, none⟩ = some (.pointer (some ⟨q, 0, none⟩)) := by rw [HB80.out.cell (by show w.heap.size < w7.heap.size; omega)]; exact E3.out
              clear hb8 hfe hT hC HAT
              go_wp2_with fail
              refine (is_ferr HFE.out (by decide) (by omega) ((-1 : Int)) (fun _ => rfl) (HV7.out.belowG HB80.out HG7.out.1 HG7.out.2).vars).mono ?_
              rintro e w8 ⟨rfl, hb81⟩
              have HB8 := Lib.hid (chainB HB80.out hb81)
              clear hb81
              go_wp2_with fail
              have hmaxL := HML.out
              have e3 : w8.cell? ⟨w.heap.size, 0, none⟩ = some (.pointer (some ⟨q, 0, none⟩)) := by rw [HB8.out.cell (by show w.heap.size < w7.heap.size; omega)]; exact E3.out
              have e1 : w8.cell? ⟨q, 1, none⟩ = some (.slice (some ⟨gM, 0, none⟩) M.length rc) := by rw [HB8.out.cell (by show q < w7.heap.size; have := HB7.out.size; omega)]; exact E1.out
              have HFR := Lib.hid (from_any ((-1 : Int)) (0) (by omega) (by omega) (HPL.out.below HB8.out) (by omega))
              clear hmaxL
              go_wp2_with fail
              refine HFR.out.mono ?_
              rintro e w9 ⟨vf, rfl, hof, hb9⟩
              have HB9 := Lib.hid (chainB HB8.out hb9)
              have e3 : w9.cell? ⟨w.heap.size, 0, none⟩ = some (.pointer (some ⟨q, 0, none⟩)) := by rw [HB9.out.cell (by show w.heap.size < w7.heap.size; omega)]; exact E3.out
              have e1 : w9.cell? ⟨q, 1, none⟩ = some (.slice (some ⟨gM, 0, none⟩) M.length rc) := by rw [HB9.out.cell (by show q < w7.heap.size; have := HB7.out.size; omega)]; exact E1.out
              obtain ⟨fa, fc, rfl, hfo⟩ := hof.open_
              have hfl : ((L.drop (0)).map str).length = M.length := by have := HML.out; rw [List.length_map, List.length_drop]; omega
              have HFO := Lib.hid hfo
              have HOF := Lib.hid hof
              rw [hfl]
              have HW9 : Hid (w7.heap.size ≤ w8.heap.size) := Lib.hid HB8.out.size
              clear hfo hof hb9 HFR hfl

              go_wp2_with fail
              go_quiet (fail)
              go_wp2_with fail

              have hpos : 0 < M.length := by omega
              obtain ⟨gF, rfl, hgF, hgFl, hcF⟩ := HFO.out (by rw [List.length_map, List.length_drop, ← HML.out]; exact hpos)
              have hcF2 : ∀ t, t < M.length → w9.cell? ⟨gF, t, none⟩ = some (.string (str (L.getD (t) []))) := fun t ht => by
                have hML := HML.out
                have h1 : t < ((L.drop (0)).map str).length := by rw [List.length_map, List.length_drop]; omega
                rw [hcF t h1, List.getElem_map, List.getElem_drop, List.getD_eq_getElem?_getD, List.getElem?_eq_getElem (by omega)]; simp
              have hfF : ∀ t, w9.frozen? ⟨gF, t, none⟩ = false := fun t => by
                have h := HOF.out
                unfold OwnT at h
                exact h.frozenAt t
              have HIN : Hid ((∀ t, 0 ≤ t → t < M.length → w9.cell? ⟨gF, t, none⟩ = some (.string (str (L.getD (t) [])))) ∧ (∀ t, w9.frozen? ⟨gF, t, none⟩ = false) ∧ Below w7.heap.size w7 w9) := Lib.hid ⟨fun t _ ht => hcF2 t ht, hfF, HB9.out⟩
              have HGF : Hid (w7.heap.size ≤ gF) := Lib.hid (Nat.le_trans HW9.out hgF)
              clear hcF2 hfF hcF hgF hgFl HFO HOF
              go_loopw [13] (fun kv wz => ∃ j : Nat, kv = .int .i64 j ∧ j ≤ M.length ∧ Hid ((∀ t, j ≤ t → t < M.length → wz.cell? ⟨gF, t, none⟩ = some (.string (str (L.getD (t) [])))) ∧ (∀ t, wz.frozen? ⟨gF, t, none⟩ = false) ∧ Below w7.heap.size w7 wz)) (fun kv _ => M.length - (intOf kv).toNat)
              case atStart => exact ⟨0, rfl, Nat.zero_le _, Lib.hid ⟨fun t h1 h2 => by simpa using HIN.out.1 t h1 h2, fun t => by simpa using HIN.out.2.1 t, below_drewN HIN.out.2.2 _⟩⟩
              case round =>
                obtain ⟨j, rfl, hjl, HJ⟩ := hrel
                rename World => wz
                by_cases hjj : j < M.length
                · have hdj : decide (j < M.length) = true := decide_eq_true hjj
                  have hx1 := HJ.out.1 j (Nat.le_refl _) hjj
                  have hx2 : wz.cell? ⟨gM, j, none⟩ = some (.string (str (L.getD (j) []))) := by rw [HJ.out.2.2.cell (by show gM < w7.heap.size; have := HB7.out.size; omega), HB7.out.cell (by exact hgM)]; exact HRM.out _ (by omega)
                  have hfz := HJ.out.2.1 j
                  generalize str (L.getD (j) []) = ty at *
                  go_wp2
                  go_quiet (fail)
                  go_wp2
                  go_roundw
                  case rel =>
                    refine ⟨j + 1, by go_num, by omega, Lib.hid ⟨fun t h1 h2 => ?_, fun t => by simpa using HJ.out.2.1 t, (below_drewN HJ.out.2.2 _).setCell HGF.out _⟩⟩
                    rw [World.cell?_setCell_other _ _ _ _ (fun e => by cases e; omega)]
                    simpa using HJ.out.1 t (by omega) h2
                  case measure => simp [intOf]; omega
                · have hdj : decide (j < M.length) = false := decide_eq_false hjj
                  have HBZ := Lib.hid HJ.out.2.2
                  clear HJ
                  have e3 : wz.cell? ⟨w.heap.size, 0, none⟩ = some (.pointer (some ⟨q, 0, none⟩)) := by rw [HBZ.out.cell (by show w.heap.size < w7.heap.size; omega)]; exact E3.out
                  have e1 : wz.cell? ⟨q, 1, none⟩ = some (.slice (some ⟨gM, 0, none⟩) M.length rc) := by rw [HBZ.out.cell (by show q < w7.heap.size; have := HB7.out.size; omega)]; exact E1.out
                  go_wp2_with fail
                  go_roundw
                  case rel => exact ⟨_, rfl, by omega, by omega, HBZ⟩
                  case measure => simp [intOf]; omega
          · obtain ⟨m, rfl⟩ : ∃ m : Nat, i = (m : Int) := ⟨i.toNat, by omega⟩
            have hd2 : decide ((m : Int) < 0) = false := decide_eq_false (by omega)
            have hd3 : decide ((M.length : Int) ≤ (m : Int)) = true := decide_eq_true (by omega)
            have hmn : min (m : Int) (M.length : Int) = (M.length : Int) := by omega
            rcases HROW0.out with rfl | ⟨gM, rfl⟩
            · skip
              have hT : atT L ((m : Int)) = ⟨#[]⟩ := by have := HML.out; unfold atT; exact dif_neg (by omega)
              have hC : atC L ((m : Int)) = 2 := by have := HML.out; unfold atC; rw [if_neg (by omega)]
              skip
              go_wp2_with fail
              refine HAT.out.mono ?_
              rintro e w80 ⟨ev, rfl, hfe, hb8⟩
              rw [hT]
              rw [hC] at hfe
              have HB80 := Lib.hid (chainB HBQ.out hb8)
              have HFE := Lib.hid hfe
              have e1 : w80.cell? ⟨q, 1, none⟩ = some (.slice none M.length rc) := by rw [HB80.out.cell (by show q < w7.heap.size; have := HB7.out.size; omega)]; exact E1.out
              have e3 : w80.cell? ⟨w.heap.size, 0, none⟩ = some (.pointer (some ⟨q, 0, none⟩)) := by rw [HB80.out.cell (by show w.heap.size < w7.heap.size; omega)]; exact E3.out
              clear hb8 hfe hT hC HAT
              go_wp2_with fail
              refine (is_ferr HFE.out (by decide) (by omega) ((m : Int)) (fun _ => rfl) (HV7.out.belowG HB80.out HG7.out.1 HG7.out.2).vars).mono ?_
              rintro e w8 ⟨rfl, hb81⟩
              have HB8 := Lib.hid (chainB HB80.out hb81)
              clear hb81
              go_wp2_with fail
              have hmaxL := HML.out
              have e3 : w8.cell? ⟨w.heap.size, 0, none⟩ = some (.pointer (some ⟨q, 0, none⟩)) := by rw [HB8.out.cell (by show w.heap.size < w7.heap.size; omega)]; exact E3.out
              have e1 : w8.cell? ⟨q, 1, none⟩ = some (.slice none M.length rc) := by rw [HB8.out.cell (by show q < w7.heap.size; have := HB7.out.size; omega)]; exact E1.out
              have HFR := Lib.hid (from_any ((m : Int)) (m) (by omega) (by omega) (HPL.out.below HB8.out) (by omega))
              clear hmaxL
              go_wp2_with fail
              refine HFR.out.mono ?_
              rintro e w9 ⟨vf, rfl, hof, hb9⟩
              have HB9 := Lib.hid (chainB HB8.out hb9)
              have e3 : w9.cell? ⟨w.heap.size, 0, none⟩ = some (.pointer (some ⟨q, 0, none⟩)) := by rw [HB9.out.cell (by show w.heap.size < w7.heap.size; omega)]; exact E3.out
              have e1 : w9.cell? ⟨q, 1, none⟩ = some (.slice none M.length rc) := by rw [HB9.out.cell (by show q < w7.heap.size; have := HB7.out.size; omega)]; exact E1.out
              obtain ⟨fa, fc, rfl, hfo⟩ := hof.open_
              have hfl : ((L.drop (m)).map str).length = 0 := by have := HML.out; rw [List.length_map, List.length_drop]; omega
              have HFO := Lib.hid hfo
              have HOF := Lib.hid hof
              rw [hfl]
              have HW9 : Hid (w7.heap.size ≤ w8.heap.size) := Lib.hid HB8.out.size
              clear hfo hof hb9 HFR hfl

              go_wp2_with fail
              go_quiet (fail)
              go_wp2_with fail

              all_goals (
                go_loopw [13] (fun kv wz => kv = .int .i64 0 ∧ Hid (Below w7.heap.size w7 wz)) (fun _ _ => 0)
                case atStart => exact ⟨rfl, Lib.hid (below_drewN HB9.out _)⟩
                case round =>
                  obtain ⟨rfl, HBZ⟩ := hrel
                  rename World => wz
                  have e3 := (HBZ.out.cell (show w.heap.size < w7.heap.size by omega)).trans E3.out
                  have e1 := (HBZ.out.cell (show q < w7.heap.size by have := HB7.out.size; omega)).trans E1.out
                  go_wp2_with fail
                  go_roundw
                  case rel => exact ⟨_, rfl, by omega, by omega, HBZ⟩
                  case measure => simp [intOf]; omega)
            · rcases Classical.em (rc = M.length) with hrc | hrc
              · have hrt : (rc = M.length) = True := eq_true hrc
                clear hrc
                have hT : atT L ((m : Int)) = ⟨#[]⟩ := by have := HML.out; unfold atT; exact dif_neg (by omega)
                have hC : atC L ((m : Int)) = 2 := by have := HML.out; unfold atC; rw [if_neg (by omega)]
                skip
                go_wp2_with fail
                refine HAT.out.mono ?_
                rintro e w80 ⟨ev, rfl, hfe, hb8⟩
                rw [hT]
                rw [hC] at hfe
                have HB80 := Lib.hid (chainB HBQ.out hb8)
                have HFE := Lib.hid hfe
                have e1 : w80.cell? ⟨q, 1, none⟩ = some (.slice (some ⟨gM, 0, none⟩) M.length rc) := by rw [HB80.out.cell (by show q < w7.heap.size; have := HB7.out.size; omega)]; exact E1.out
                have e3 : w80.cell? ⟨w.heap.size, 0, none⟩ = some (.pointer (some ⟨q, 0, none⟩)) := by rw [HB80.out.cell (by show w.heap.size < w7.heap.size; omega)]; exact E3.out
                clear hb8 hfe hT hC HAT
                go_wp2_with fail
                refine (is_ferr HFE.out (by decide) (by omega) ((m : Int)) (fun _ => rfl) (HV7.out.belowG HB80.out HG7.out.1 HG7.out.2).vars).mono ?_
                rintro e w8 ⟨rfl, hb81⟩
                have HB8 := Lib.hid (chainB HB80.out hb81)
                clear hb81
                go_wp2_with fail
                have hmaxL := HML.out
                have e3 : w8.cell? ⟨w.heap.size, 0, none⟩ = some (.pointer (some ⟨q, 0, none⟩)) := by rw [HB8.out.cell (by show w.heap.size < w7.heap.size; omega)]; exact E3.out
                have e1 : w8.cell? ⟨q, 1, none⟩ = some (.slice (some ⟨gM, 0, none⟩) M.length rc) := by rw [HB8.out.cell (by show q < w7.heap.size; have := HB7.out.size; omega)]; exact E1.out
                have HFR := Lib.hid (from_any ((m : Int)) (m) (by omega) (by omega) (HPL.out.below HB8.out) (by omega))
                clear hmaxL
                go_wp2_with fail
                refine HFR.out.mono ?_
                rintro e w9 ⟨vf, rfl, hof, hb9⟩
                have HB9 := Lib.hid (chainB HB8.out hb9)
                have e3 : w9.cell? ⟨w.heap.size, 0, none⟩ = some (.pointer (some ⟨q, 0, none⟩)) := by rw [HB9.out.cell (by show w.heap.size < w7.heap.size; omega)]; exact E3.out
                have e1 : w9.cell? ⟨q, 1, none⟩ = some (.slice (some ⟨gM, 0, none⟩) M.length rc) := by rw [HB9.out.cell (by show q < w7.heap.size; have := HB7.out.size; omega)]; exact E1.out
                obtain ⟨fa, fc, rfl, hfo⟩ := hof.open_
                have hfl : ((L.drop (m)).map str).length = 0 := by have := HML.out; rw [List.length_map, List.length_drop]; omega
                have HFO := Lib.hid hfo
                have HOF := Lib.hid hof
                rw [hfl]
                have HW9 : Hid (w7.heap.size ≤ w8.heap.size) := Lib.hid HB8.out.size
                clear hfo hof hb9 HFR hfl

                go_wp2_with fail
                go_quiet (fail)
                go_wp2_with fail

                all_goals (
                  go_loopw [13] (fun kv wz => kv = .int .i64 0 ∧ Hid (Below w7.heap.size w7 wz)) (fun _ _ => 0)
                  case atStart => exact ⟨rfl, Lib.hid (below_drewN HB9.out _)⟩
                  case round =>
                    obtain ⟨rfl, HBZ⟩ := hrel
                    rename World => wz
                    have e3 := (HBZ.out.cell (show w.heap.size < w7.heap.size by omega)).trans E3.out
                    have e1 := (HBZ.out.cell (show q < w7.heap.size by have := HB7.out.size; omega)).trans E1.out
                    go_wp2_with fail
                    go_roundw
                    case rel => exact ⟨_, rfl, by omega, by omega, HBZ⟩
                    case measure => simp [intOf]; omega)
              · skip
                have hT : atT L ((m : Int)) = ⟨#[]⟩ := by have := HML.out; unfold atT; exact dif_neg (by omega)
                have hC : atC L ((m : Int)) = 2 := by have := HML.out; unfold atC; rw [if_neg (by omega)]
                skip
                go_wp2_with fail
                refine HAT.out.mono ?_
                rintro e w80 ⟨ev, rfl, hfe, hb8⟩
                rw [hT]
                rw [hC] at hfe
                have HB80 := Lib.hid (chainB HBQ.out hb8)
                have HFE := Lib.hid hfe
                have e1 : w80.cell? ⟨q, 1, none⟩ = some (.slice (some ⟨gM, 0, none⟩) M.length rc) := by rw [HB80.out.cell (by show q < w7.heap.size; have := HB7.out.size; omega)]; exact E1.out
                have e3 : w80.cell? ⟨w.heap.size, 0, none⟩ = some (.pointer (some ⟨q, 0, none⟩)) := by rw [HB80.out.cell (by show w.heap.size < w7.heap.size; omega)]; exact E3.out
                clear hb8 hfe hT hC HAT
                go_wp2_with fail
                refine (is_ferr HFE.out (by decide) (by omega) ((m : Int)) (fun _ => rfl) (HV7.out.belowG HB80.out HG7.out.1 HG7.out.2).vars).mono ?_
                rintro e w8 ⟨rfl, hb81⟩
                have HB8 := Lib.hid (chainB HB80.out hb81)
                clear hb81
                go_wp2_with fail
                have hmaxL := HML.out
                have e3 : w8.cell? ⟨w.heap.size, 0, none⟩ = some (.pointer (some ⟨q, 0, none⟩)) := by rw [HB8.out.cell (by show w.heap.size < w7.heap.size; omega)]; exact E3.out
                have e1 : w8.cell? ⟨q, 1, none⟩ = some (.slice (some ⟨gM, 0, none⟩) M.length rc) := by rw [HB8.out.cell (by show q < w7.heap.size; have := HB7.out.size; omega)]; exact E1.out
                have HFR := Lib.hid (from_any ((m : Int)) (m) (by omega) (by omega) (HPL.out.below HB8.out) (by omega))
                clear hmaxL
                go_wp2_with fail
                refine HFR.out.mono ?_
                rintro e w9 ⟨vf, rfl, hof, hb9⟩
                have HB9 := Lib.hid (chainB HB8.out hb9)
                have e3 : w9.cell? ⟨w.heap.size, 0, none⟩ = some (.pointer (some ⟨q, 0, none⟩)) := by rw [HB9.out.cell (by show w.heap.size < w7.heap.size; omega)]; exact E3.out
                have e1 : w9.cell? ⟨q, 1, none⟩ = some (.slice (some ⟨gM, 0, none⟩) M.length rc) := by rw [HB9.out.cell (by show q < w7.heap.size; have := HB7.out.size; omega)]; exact E1.out
                obtain ⟨fa, fc, rfl, hfo⟩ := hof.open_
                have hfl : ((L.drop (m)).map str).length = 0 := by have := HML.out; rw [List.length_map, List.length_drop]; omega
                have HFO := Lib.hid hfo
                have HOF := Lib.hid hof
                rw [hfl]
                have HW9 : Hid (w7.heap.size ≤ w8.heap.size) := Lib.hid HB8.out.size
                clear hfo hof hb9 HFR hfl

                go_wp2_with fail
                go_quiet (fail)
                go_wp2_with fail

                all_goals (
                  go_loopw [13] (fun kv wz => kv = .int .i64 0 ∧ Hid (Below w7.heap.size w7 wz)) (fun _ _ => 0)
                  case atStart => exact ⟨rfl, Lib.hid (below_drewN HB9.out _)⟩
                  case round =>
                    obtain ⟨rfl, HBZ⟩ := hrel
                    rename World => wz
                    have e3 := (HBZ.out.cell (show w.heap.size < w7.heap.size by omega)).trans E3.out
                    have e1 := (HBZ.out.cell (show q < w7.heap.size by have := HB7.out.size; omega)).trans E1.out
                    go_wp2_with fail
                    go_roundw
                    case rel => exact ⟨_, rfl, by omega, by omega, HBZ⟩
                    case measure => simp [intOf]; omega)
      · have hd1 : decide (i ≤ (M.length : Int)) = false := decide_eq_false hil
        have hnq : wq.cell? ⟨w4.heap.size, 0, none⟩ = some (.int .i64 (M.length : Int)) := (HBQ.out.cell (show w4.heap.size < w7.heap.size by exact hlt7)).trans HN7.out
        have hsz7 := HB7.out.size
        have hrs : Boxed wq (w.heap.size + 1) 4 (.bool false) := (HBQ.out.block _ (by omega)).trans HRES7.out
        have hrc := hrs.cell
        have hrf := hrs.frozen
        have hKq : wq.heap[D]? = some (.deferred (some [])) := (HBQ.out.block _ hD7).trans HK7.out
        go_wp2_with fail
        refine wpIn_wide.2 ?_
        go_wp2_with fail
        refine wp_region_still_tail 7 (by kernel_rfl) (by kernel_rfl) ?_
        obtain ⟨wd, hwd⟩ : ∃ wd, wd = wq.drewN 1 := ⟨_, rfl⟩
        change wpStill _ _ (wq.drewN 1) (fun a' => wpList _ _ _ _ a' (wq.drewN 1)) _ _
        rw [← hwd]
        have hnd : wd.cell? ⟨w4.heap.size, 0, none⟩ = some (.int .i64 (M.length : Int)) := by rw [hwd]; simpa using hnq
        have e3 : wd.cell? ⟨w.heap.size, 0, none⟩ = some (.pointer (some ⟨q, 0, none⟩)) := by rw [hwd]; simpa using e3
        have e1 : wd.cell? ⟨q, 1, none⟩ = some (.slice ra M.length rc) := by rw [hwd]; simpa using e1
        have hrd : Boxed wd (w.heap.size + 1) 4 (.bool false) := by rw [hwd]; exact hrs
        have hrc := hrd.cell
        have hrf := hrd.frozen
        have HKD : Hid (wd.heap[D]? = some (.deferred (some []))) := Lib.hid (by rw [hwd]; exact hKq)
        have HBD : Hid (Below w7.heap.size w7 wd) := Lib.hid (by rw [hwd]; exact below_drewN HBQ.out 1)
        have HRD := Lib.hid hrd
        clear hwd hnq hrs hKq hrd
        simp only [List.take_succ_cons, List.take_zero, List.drop_succ_cons, List.drop_zero]
        repeat still_step
        refine wpStill_nil ?_
        go_wp2_with fail
        have h6 := HSZ.out
        have hKw : (wd.setCell ⟨w.heap.size + 1, 0, none⟩ (.bool true)).heap[D]? = some (.deferred (some [])) := by
          rw [Below.heap_setCell _ _ _ _ (by show D ≠ w.heap.size + 1; omega)]; exact HKD.out
        have hBw : Below w.heap.size w (wd.setCell ⟨w.heap.size + 1, 0, none⟩ (.bool true)) := (HB7.out.trans (HBD.out.mono HB7.out.size)).setCell (Nat.le_succ _) _
        refine ⟨by simp, .inl ⟨_, _, rfl, run_takeDeferred hKw, ?_⟩⟩
        refine ⟨_, results_cell_bool rfl _ _ ⟨w.heap.size + 1, 0, none⟩ (.bool true) rfl ?_, rfl, hBw.trans (belowK_b (w := w) (Nat.le_refl _) _ D _ _ (by omega) hKw rfl rfl)⟩
        have hbx := Boxed.set (.bool true) HRD.out
        have h2 : Boxed ((wd.setCell ⟨w.heap.size + 1, 0, none⟩ (.bool true)).putObj D (.deferred none)) (w.heap.size + 1) 4 (.bool true) := hbx.kept (grownBy_putObj' _ D _) (fun e => by cases e; omega)
        exact h2.cell
theorem stands_any {B : Nat} {w : World} {b y p nb q : Nat} {F : Nat → Prop} {v lv rv : Value} {cut : Int} {L : List (List UInt8)} {br : Bool} {s : DS} (h : TwoG B w b y p nb q F v lv rv cut L br s cut L br s) (hL : L.length ≤ 10000000) :
    Calls Tryz.prog 19 #[.pointer (some ⟨p, 0, none⟩), .pointer (some ⟨q, 0, none⟩)] w fun e w' => e = .returned (.bool true) ∧ Below w.heap.size w w' := (callsIn_wide (n := 6)).1 (stands_two h hL)
end LogP
end Go.Proofs.YtlnbjlidakdmlaaGreatDoor
