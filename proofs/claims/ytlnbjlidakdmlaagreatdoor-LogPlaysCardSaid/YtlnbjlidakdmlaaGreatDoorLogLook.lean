/-
  Package log's named and goesOn.
  Package log's look: what is looked at of a file.
  Package log's clean: what stands behind the last file's records is taken away.
-/
import Derived.Test.YtlnbjlidakdmlaaGreatDoorLogApp
import Derived.Test.YtlnbjlidakdmlaaGreatDoorDiskMath3
import Derived.Test.YtlnbjlidakdmlaaGreatDoorFrameP
import Derived.Deep.CutBlock
import Derived.Handy
import Derived.Laws.Cover1
namespace Go.Proofs.YtlnbjlidakdmlaaGreatDoor
open Go.RowKit
set_option linter.unusedVariables false
namespace LogP
open LogM FrameM FrameC TextR DiskM DiskC LogC ErrC

theorem pre_iff (l : List UInt8) : Lib.hasPrefix l pre4 = decide (l.take 4 = pre4) := by
  unfold Lib.hasPrefix
  rw [Bool.eq_iff_iff, List.isPrefixOf_iff_prefix, decide_eq_true_iff, List.prefix_iff_eq_take]
  exact ⟨fun h => h.symm, fun h => h.symm⟩
theorem cut_any (l : List UInt8) (w : World) :
    Calls Tryz.prog 89 #[.string (str l), .string ⟨#[108, 111, 103, 47]⟩] w fun e w' => e = .returned (.tuple #[.string (str (if l.take 4 = pre4 then l.drop 4 else l)), .bool (decide (l.take 4 = pre4))]) ∧ w = w' := by
  refine (Tryz.strings_CutPrefix (str l) ⟨#[108, 111, 103, 47]⟩ w).mono ?_
  rintro e w' ⟨rfl, rfl⟩
  have e1 : (⟨#[108, 111, 103, 47]⟩ : ByteArray).data.toList = pre4 := rfl
  rw [e1, str_list]
  refine ⟨?_, rfl⟩
  have h := pre_iff l
  unfold Lib.trimPrefix
  rw [h]
  by_cases hp : l.take 4 = pre4
  · simp only [hp, decide_true, if_true]; rfl
  · simp only [hp, decide_false, if_false]; rfl
theorem trim_any (l : List UInt8) (w : World) (h : l.length ≤ 4611686018427387904) :
    Calls Tryz.prog 90 #[.string (str l), .string ⟨#[48, 49, 50, 51, 52, 53, 54, 55, 56, 57]⟩] w fun e w' => e = .returned (.string (str (Lib.trimS l digs))) ∧ Below w.heap.size w w' :=
  Tryz.strings_Trim_set (str l) ⟨#[48, 49, 50, 51, 52, 53, 54, 55, 56, 57]⟩ w (by rw [str_size]; omega) (by decide) (fun j b hb => by
    have h1 : b ∈ [48, 49, 50, 51, 52, 53, 54, 55, 56, 57] := List.mem_of_getElem? hb
    revert b
    intro b hb h1
    have : ∀ x ∈ ([48, 49, 50, 51, 52, 53, 54, 55, 56, 57] : List UInt8), x.toNat < 128 := by decide
    exact this b h1)
set_option maxRecDepth 100000 in
theorem named_list (l : List UInt8) (w : World) (h : l.length ≤ 4611686018427387904) :
    Calls Tryz.prog 69 #[.string (str l)] w fun e w' => e = .returned (.bool (namedB l)) ∧ Below w.heap.size w w' := by
  have hsz := str_size l
  by_cases hp : l.take 4 = pre4
  · have hcp := Lib.hid (fun w => cut_any l w)
    simp only [hp, decide_true, if_true] at hcp
    have hszd := str_size (l.drop 4)
    have hdl : (l.drop 4).length = l.length - 4 := List.length_drop
    have h4 : 4 ≤ l.length := by
      have := congrArg List.length hp
      rw [List.length_take] at this
      simp [pre4] at this
      omega
    by_cases h8 : l.length = 12
    · have htr := Lib.hid (fun w => trim_any (l.drop 4) w (by omega))
      have hb8 : ((l.drop 4).length : Int) = 8 := by omega
      have HB : Hid (namedB l = ((str (Lib.trimS (l.drop 4) digs)).toList == [])) := Lib.hid (by
        rw [ByteArray.toList_eq, str_list]
        unfold namedB
        rw [Bool.eq_iff_iff, decide_eq_true_iff, beq_iff_eq, trim_nil]
        exact ⟨fun h => h.2.2, fun h => ⟨h8, hp, h⟩⟩)
      generalize Lib.trimS (l.drop 4) digs = T at *
      generalize l.drop 4 = D at *
      have hD8 : D.length = 8 := by omega
      clear hp hdl h4 hb8
      rw [hD8] at hszd
      generalize hq : ((str T).toList == []) = q at *
      go_enter Tryz.func69, Tryz.ntmps69
      go_wp2_with fail
      refine (hcp.out w).mono ?_
      rintro e w' ⟨rfl, rfl⟩
      go_wp2_with fail
      refine (htr.out w).mono ?_
      rintro e w' ⟨rfl, hb⟩
      have HBB := Lib.hid hb
      clear hb
      go_wp2_with fail
      go_ret
      exact ⟨by rw [HB.out]; rfl, HBB.out⟩
    · have HB : Hid (namedB l = false) := Lib.hid (decide_eq_false (fun h => h8 h.1))
      generalize l.drop 4 = D at *
      have hD8 : ((D.length : Int) == 8) = false := beq_eq_false_iff_ne.2 (by omega)
      go_enter Tryz.func69, Tryz.ntmps69
      go_wp2_with fail
      refine (hcp.out w).mono ?_
      rintro e w' ⟨rfl, rfl⟩
      go_wp2_with fail
      go_ret
      exact ⟨by rw [HB.out]; rfl, Below.refl _ _⟩
  · have hcp := Lib.hid (fun w => cut_any l w)
    simp only [hp, decide_false, if_false] at hcp
    have HB : Hid (namedB l = false) := Lib.hid (decide_eq_false (fun h => hp h.2.1))
    go_enter Tryz.func69, Tryz.ntmps69
    go_wp2_with fail
    refine (hcp.out w).mono ?_
    rintro e w' ⟨rfl, rfl⟩
    go_wp2_with fail
    go_ret
    exact ⟨by rw [HB.out]; rfl, Below.refl _ _⟩
theorem named_any (m : ByteArray) (w : World) (h : m.size ≤ 4611686018427387904) :
    Calls Tryz.prog 69 #[.string m] w fun e w' => e = .returned (.bool (namedB m.data.toList)) ∧ Below w.heap.size w w' := by
  have := named_list m.data.toList w (by exact h)
  rw [← str_of] at this
  exact this

/-! ### which names are behind -/
theorem le_not (a b : List UInt8) : (Op.bytesLess a b || a == b) = !Op.bytesLess b a := by
  cases h1 : Op.bytesLess b a with
  | true =>
    have hab : Op.bytesLess a b = false := by
      cases h2 : Op.bytesLess a b with
      | false => rfl
      | true =>
        have := bless_trans _ _ _ h1 h2
        rw [less_self] at this
        cases this
    have hne : (a == b) = false := beq_eq_false_iff_ne.2 (fun e => by rw [e, less_self] at h1; cases h1)
    rw [hab, hne]; rfl
  | false =>
    cases h2 : Op.bytesLess a b with
    | true => rfl
    | false =>
      rw [bless_total _ _ h2 h1]
      simp
/-- what the program asks of a name, and the document -/
theorem behind_iff (n : Nat) (hn : n < 100000000) (m : ByteArray) : (namedB m.data.toList = true ∧ (Op.bytesLess m.toList (nameN n).toList || m.toList == (nameN n).toList) = false) ↔ n < numT m := by
  have e1 : (nameN n).toList = fileB n := by rw [ByteArray.toList_eq, str_list]
  rw [le_not, e1, ByteArray.toList_eq, Bool.not_eq_false']
  unfold numT
  constructor
  · rintro ⟨h1, h2⟩
    exact (behind_num n hn _ h1).1 h2
  · intro h
    have hz : namedB m.data.toList = true := by
      cases hb : namedB m.data.toList with
      | true => rfl
      | false => rw [not_named hb] at h; omega
    exact ⟨hz, (behind_num n hn _ hz).2 h⟩

/-! ### segment -/
def segV (n : Nat) (pv : Value) (u z : Nat) : Value := .agg #[.string (nameN n), pv, .int .i64 (u : Int), .int .i64 (z : Int)]
theorem goesOn_any (n k cp u z : Nat) (a : Option Addr) (w : World) :
    Calls Tryz.prog 66 #[segV n (.slice a k cp) u z] w fun e w' => e = .returned (.bool (decide (k = 64 ∧ u = z))) ∧ Below w.heap.size w w' := by
  unfold segV
  by_cases h1 : k = 64
  · by_cases h2 : u = z
    · have e : decide (k = 64 ∧ u = z) = true := decide_eq_true ⟨h1, h2⟩
      have hb1 : ((k : Int) == 64) = true := beq_iff_eq.2 (by omega)
      have hb2 : ((u : Int) == (z : Int)) = true := beq_iff_eq.2 (by omega)
      rw [e]
      clear h1 h2
      go_enter Tryz.func66, Tryz.ntmps66
      go_wp2_with fail
      all_goals (go_ret; exact ⟨by simp_all, (Below.refl _ _).alloc (Nat.le_refl _) _⟩)
    · have e : decide (k = 64 ∧ u = z) = false := decide_eq_false (fun h => h2 h.2)
      have hb1 : ((k : Int) == 64) = true := beq_iff_eq.2 (by omega)
      have hb2 : ((u : Int) == (z : Int)) = false := beq_eq_false_iff_ne.2 (by omega)
      rw [e]
      clear h1 h2
      go_enter Tryz.func66, Tryz.ntmps66
      go_wp2_with fail
      all_goals (go_ret; exact ⟨by simp_all, (Below.refl _ _).alloc (Nat.le_refl _) _⟩)
  · have e : decide (k = 64 ∧ u = z) = false := decide_eq_false (fun h => h1 h.1)
    have hb1 : ((k : Int) == 64) = false := beq_eq_false_iff_ne.2 (by omega)
    rw [e]
    clear h1
    go_enter Tryz.func66, Tryz.ntmps66
    go_wp2_with fail
    all_goals (go_ret; exact ⟨rfl, (Below.refl _ _).alloc (Nat.le_refl _) _⟩)
end LogP
end Go.Proofs.YtlnbjlidakdmlaaGreatDoor
namespace Go.Proofs.YtlnbjlidakdmlaaGreatDoor
open Go.RowKit
set_option linter.unusedVariables false
namespace LogP
open LogM FrameM FrameC TextR DiskM DiskC LogC ErrC

theorem used_eq (l : List UInt8) : ∀ n, l.length ≤ n → (allB l).2.1 = usedB (allB l).1
  | 0, h => by
    obtain rfl : l = [] := List.length_eq_zero_iff.1 (by omega)
    rw [all_nil]; rfl
  | n + 1, h => by
    by_cases h0 : l = []
    · subst h0; rw [all_nil]; rfl
    · by_cases he : frontE l = 0
      · have hf := front_len l he
        have hp := payB_length l (by omega)
        have hr : (restB l).length = l.length - (12 + lenB l) := by rw [restB, List.length_drop]
        have ih := used_eq (restB l) n (by omega)
        rw [all_cons l h0 he]
        simp only [usedB]
        omega
      · rw [all_bad l h0 he]; rfl
theorem own_take2 {w : World} {B cp : Nat} {a : Option Addr} {L : List ByteArray} (h : OwnT w B (.slice a L.length cp) L) (k : Nat) (hk : k ≤ L.length) : OwnT w B (.slice a k cp) (L.take k) := by
  rcases Nat.eq_zero_or_pos L.length with h0 | h0
  · obtain rfl : k = 0 := by omega
    have e : L = [] := List.eq_nil_of_length_eq_zero h0
    subst e
    exact h
  · obtain ⟨g, rfl, -⟩ := own_cell h 0 h0
    exact own_take h k hk
theorem own_low {w : World} {B B' : Nat} {v : Value} {L : List ByteArray} (h : OwnT w B v L) (hB : B' ≤ B) : OwnT w B' v L := ⟨h.1, h.2.imp id (fun ⟨g, cap, cur, e, h1, r⟩ => ⟨g, cap, cur, e, Nat.le_trans hB h1, r⟩)⟩
theorem keeps_row (w : World) (g : Nat) (cs : Array Value) : Keeps (· = g) w (w.setRow g cs) := ⟨rfl, rfl, rfl, by simp, fun k _ hk => setRow_other w g k cs hk⟩
def lenOf : Value → Nat
  | .slice _ n _ => n
  | _ => 0
theorem used_ge : ∀ M : List (List UInt8), 12 * M.length ≤ usedB M
  | [] => Nat.zero_le _
  | p :: r => by have := used_ge r; simp only [usedB, List.length_cons]; omega
section
variable {P : Program}
/-- two results: a struct out of its cells, and a plain one -/
theorem results_cell_tmp {fn : Func} {p q : Tmp} {ty : TypeId} (h : fn.results = #[.cell p ty, .tmp q]) (tmps : Array Value) (w : World) (g : Nat) (t : TypeId) (cs : Array Value) (fr : Nat × Nat) (d : TypeDesc)
    (hp : tmps.getD p undef = .pointer (some ⟨g, 0, none⟩)) (hg : w.heap[g]? = some (.cells cs t fr))
    (hu : P.underlying ty = some d) (hd : (match d with | .struct _ | .array _ _ => true | _ => false) = true) (hi : (P.info? ty).map (·.size) = some cs.size) :
    (results fn tmps).run P w = .ok (.tuple #[.agg cs, tmps.getD q undef]) w := by
  have hp' : tmps[p]?.getD undef = .pointer (some ⟨g, 0, none⟩) := by simpa using hp
  simp [results, h, hp', asAddr, run_loadVar_row w g t ty cs fr d hg hu hd hi]
end
theorem info_seg : (Tryz.prog.info? 65).map (·.size) = some 4 := by kernel_rfl
theorem seg_one (x : ByteArray) (a : Option Addr) (k cp : Nat) (u z : Int) : (#[Value.string x, .slice a k cp, .int .i64 u, .int .i64 z].all (·.oneCell')) = true := by simp [Value.oneCell']
def zeroSeg : Value := .agg #[.string ⟨#[]⟩, .slice none 0 0, .int .i64 0, .int .i64 0]
def LookE (n : Nat) (s : DS) (w : World) (e : Ending) (w' : World) : Prop :=
  (s.dead = true ∧ ∃ ev, e = .returned (.tuple #[zeroSeg, ev]) ∧ DErr w w' ev 5 (nameN n) ∧ Below w.heap.size w w') ∨
  (s.dead = false ∧ ∃ a cp, e = .returned (.tuple #[segV n (.slice a (partL s.fs n).length cp) (usedB (partL s.fs n)) (fileL s.fs n).length, .nilIface]) ∧ OwnT w' w.heap.size (.slice a (partL s.fs n).length cp) ((partL s.fs n).map str) ∧ Below w.heap.size w w')
theorem readS_dead {n : Nat} {s : DS} (hd : s.dead = true) : readS (nameN n) s = (⟨#[]⟩, 5) := by
  unfold readS
  rw [if_neg (by rw [may_name]; decide), if_pos hd]
set_option maxHeartbeats 4000000 in
set_option maxRecDepth 100000 in
theorem look_dead {R : World → Nat → (Nat → Prop) → Int → DS → Prop} {B : Nat} (hD : Dev B R) {w : World} {b : Nat} {F : Nat → Prop} {cut : Int} {s : DS} (n : Nat) (h : Ln B R w b F cut s) (hg : DiskC.Good s.fs) (hd : s.dead = true) :
    Calls Tryz.prog 65 #[.pointer (some ⟨b, 0, none⟩), .string (nameN n)] w (LookE n s w) := by
  have hb0 : Below w.heap.size w (w.alloc (.cells #[.string ⟨#[]⟩, .slice none 0 0, .int .i64 0, .int .i64 0] 65)) := (Below.refl _ w).alloc (Nat.le_refl _) _
  have hL := (h.below hD hb0).1
  have HREAD := Lib.hid (hD.read (nameN n) hL.rep hg hL.vars)
  have hnew := heap_alloc_new w (.cells #[.string ⟨#[]⟩, .slice none 0 0, .int .i64 0, .int .i64 0] 65)
  rw [readS_dead hd] at HREAD
  have HDD := Lib.hid hd
  have hsz : (w.alloc (.cells #[.string ⟨#[]⟩, .slice none 0 0, .int .i64 0, .int .i64 0] 65)).heap.size = w.heap.size + 1 := by simp
  have HB0 := Lib.hid hb0
  clear h hg hd hL hb0
  go_enter Tryz.func65, Tryz.ntmps65
  go_wp2_with fail
  refine HREAD.out.mono ?_
  rintro e w1 ⟨ev, rfl, he, hb⟩
  have HE := Lib.hid he
  have HIS := Lib.hid (is_of he 6 (by decide))
  have HB1 := Lib.hid (HB0.out.trans (hb.mono (by rw [hsz]; omega)))
  have hnew1 := (hb.block w.heap.size (by rw [hsz]; omega)).trans hnew
  have hs1 := hb.size
  obtain ⟨f, rfl, -, -⟩ := derr_some he (by decide)
  clear he hb hnew HREAD
  go_wp2_with fail
  refine HIS.out.mono ?_
  rintro e w2 ⟨rfl, hb⟩
  have hnew2 := (hb.block w.heap.size (by omega)).trans hnew1
  have HB2 := Lib.hid (HB1.out.trans (hb.mono (by omega)))
  have HE2 := Lib.hid (HE.out.keeps (Keeps.of_below (S := fun _ => False) hb) (fun _ h => h.elim))
  clear hb hnew1 HIS HE HB1
  have hinf := info_seg
  go_wp2_with (refine wpList_store_row rfl 65 _ _ rfl w.heap.size #[.string ⟨#[]⟩, .slice none 0 0, .int .i64 0, .int .i64 0] rfl rfl _ _ hnew2 hinf rfl (seg_one _ _ _ _ _ _) ?_)
  refine bodyPost_ret (results_cell_tmp rfl _ _ w.heap.size _ #[.string ⟨#[]⟩, .slice none 0 0, .int .i64 0, .int .i64 0] _ _ rfl (setRow_heap _ _ _ _ _ _ hnew2) Tryz.underlying65 rfl hinf) rfl ?_
  have hb3 : Below w.heap.size w (w2.setRow w.heap.size #[.string ⟨#[]⟩, .slice none 0 0, .int .i64 0, .int .i64 0]) := below_setRow HB2.out (Nat.le_refl _) _
  exact .inl ⟨HDD.out, _, rfl, derr_from (HE2.out.keeps (S := fun i => i = w.heap.size) ⟨rfl, rfl, rfl, by simp, fun k _ hk => setRow_other w2 w.heap.size k _ hk⟩ (fun i e => by rw [e, hsz]; omega)) (by rw [hsz]; omega), hb3⟩
set_option maxHeartbeats 8000000 in
set_option maxRecDepth 100000 in
theorem look_live {R : World → Nat → (Nat → Prop) → Int → DS → Prop} {B : Nat} (hD : Dev B R) {w : World} {b : Nat} {F : Nat → Prop} {cut : Int} {s : DS} (n : Nat) (h : Ln B R w b F cut s) (hg : DiskC.Good s.fs) (hd : s.dead = false) :
    Calls Tryz.prog 65 #[.pointer (some ⟨b, 0, none⟩), .string (nameN n)] w (LookE n s w) := by
  have hb0 : Below w.heap.size w (w.alloc (.cells #[.string ⟨#[]⟩, .slice none 0 0, .int .i64 0, .int .i64 0] 65)) := (Below.refl _ w).alloc (Nat.le_refl _) _
  have hL := (h.below hD hb0).1
  have HREAD := Lib.hid (hD.read (nameN n) hL.rep hg hL.vars)
  have hnew := heap_alloc_new w (.cells #[.string ⟨#[]⟩, .slice none 0 0, .int .i64 0, .int .i64 0] 65)
  have HDD := Lib.hid hd
  have hsz : (w.alloc (.cells #[.string ⟨#[]⟩, .slice none 0 0, .int .i64 0, .int .i64 0] 65)).heap.size = w.heap.size + 1 := by simp
  have HB0 := Lib.hid hb0
  have HNEW := Lib.hid hnew
  have HSZ := Lib.hid hsz
  have HG := Lib.hid hg
  -- what is read, as bytes
  have HRD : Hid ((readS (nameN n) s).1 = str (fileL s.fs n) ∧ ((readS (nameN n) s).2 = 0 ∨ (readS (nameN n) s).2 = 6)) := Lib.hid (by
    unfold readS
    rw [if_neg (by rw [may_name]; decide), if_neg (by rw [hd]; decide)]
    by_cases hh : hasF (nameN n) s.fs = false
    · rw [if_pos hh, (no_file hh).1]
      exact ⟨rfl, .inr rfl⟩
    · rw [if_neg hh]
      exact ⟨str_of _, .inl rfl⟩)
  have hlen := file_len hg n
  clear h hg hd hL hb0 hnew hsz
  generalize readS (nameN n) s = rd at *
  obtain ⟨tx, c⟩ := rd
  obtain ⟨htx, hcc⟩ := HRD.out
  dsimp only at htx hcc HREAD
  subst htx
  have HCC := Lib.hid hcc
  clear hcc HRD
  go_enter Tryz.func65, Tryz.ntmps65
  go_wp2_with fail
  refine HREAD.out.mono ?_
  rintro e w1 ⟨ev, rfl, he, hb⟩
  have HE := Lib.hid he
  have HIS : Hid (c = 6 → Calls Tryz.prog 25 #[ev, .iface 69 (.int .i64 6)] w1 fun e w' => e = .returned (.bool true) ∧ Below w1.heap.size w1 w') := Lib.hid (fun h6 => by
    have := is_of he 6 (by decide)
    rw [h6] at this
    exact this)
  have HB1 := Lib.hid (HB0.out.trans (hb.mono (by rw [HSZ.out]; omega)))
  have HNEW1 := Lib.hid ((hb.block w.heap.size (by rw [HSZ.out]; omega)).trans HNEW.out)
  clear he hb HNEW HREAD HB0
  go_upto_region 2 with fail
  go_cut [25] from 18 (fun v25 wx => v25 = .bool false ∧ Hid (Below w1.heap.size w1 wx))
  case first =>
    rcases HCC.out with rfl | rfl
    · obtain rfl := derr_nil HE.out
      go_wp2_with fail
      go_meet
      case rel => exact ⟨rfl, Lib.hid (Below.refl _ _)⟩
    · have HIS2 := Lib.hid (HIS.out rfl)
      obtain ⟨f, rfl, -, -⟩ := derr_some HE.out (by decide)
      go_wp2_with fail
      refine HIS2.out.mono ?_
      rintro e w2 ⟨rfl, hb⟩
      have HBB := Lib.hid hb
      clear hb
      go_wp2_with fail
      go_meet
      case rel => exact ⟨rfl, HBB⟩
  case rest =>
    obtain ⟨rfl, HBX⟩ := hcut
    have HB2 := Lib.hid (HB1.out.trans (HBX.out.mono HB1.out.size))
    have HNEW2 : Hid (wc.heap[w.heap.size]? = _) := Lib.hid ((HBX.out.block w.heap.size (Array.getElem?_eq_some_iff.1 HNEW1.out).1).trans HNEW1.out)
    have HB2s : Hid (w.heap.size < wc.heap.size) := Lib.hid (Array.getElem?_eq_some_iff.1 HNEW2.out).1
    have HALL := Lib.hid (fun w4 => FrameC.all_any (fileL s.fs n) w4 (by omega))
    unfold AllE at HALL
    have HUE : Hid ((allB (fileL s.fs n)).2.1 = usedB (allB (fileL s.fs n)).1) := Lib.hid (used_eq _ _ (Nat.le_refl _))
    have hub := used_all (fileL s.fs n) _ (Nat.le_refl _)
    have hsl := str_size (fileL s.fs n)
    have HPART : Hid (∀ k, k ≤ 64 → (64 ≤ k ∨ k = (allB (fileL s.fs n)).1.length) → (allB (fileL s.fs n)).1.take k = partL s.fs n) := Lib.hid (fun k h1 h2 => by
      unfold partL hasB
      rcases h2 with h2 | h2
      · rw [show k = 64 by omega]
      · rw [List.take_of_length_le (by omega), List.take_of_length_le (by omega)])
    have hl64 := part_len s.fs n
    clear HIS HE HCC HB1 HNEW1 HBX
    go_wp2_with fail
    refine (HALL.out wc).mono ?_
    rintro e w3 ⟨v, ev2, rfl, ho, -, hb⟩
    rw [HUE.out]
    have HB3 := Lib.hid (HB2.out.trans (hb.mono HB2.out.size))
    have HNEW3 : Hid (w3.heap[w.heap.size]? = _) := Lib.hid ((hb.block w.heap.size (Array.getElem?_eq_some_iff.1 HNEW2.out).1).trans HNEW2.out)
    generalize (allB (fileL s.fs n)).1 = M at *
    obtain ⟨MM, hMM⟩ : ∃ MM, MM = M.map str := ⟨_, rfl⟩
    have hMl : MM.length = M.length := by rw [hMM, List.length_map]
    rw [← hMM] at ho
    have hfew : M.length ≤ 2000000 := by have := used_ge M; omega
    have HO := Lib.hid ho
    obtain ⟨a, cp, rfl, -⟩ := ho.open_
    have HMM := Lib.hid hMM
    have HML := Lib.hid hMl
    clear ho hb hMM HB2 HNEW2 HALL HUE hMl
    have HU0 : Hid (usedB M = usedB (M.take MM.length)) := Lib.hid (by rw [HML.out, List.take_length])
    have HST := Lib.hid (used_step M)
    have HUB := Lib.hid (used_take M)
    have hub2 : usedB M ≤ 16777216 := by omega
    generalize usedB M = U0 at *
    go_wp2_with fail
    go_loopw [8, 9] (fun v8 v9 wr => ∃ k u : Nat, w3 = wr ∧ k ≤ MM.length ∧ Hid ((64 ≤ k ∨ k = M.length) ∧ u = usedB (M.take k)) ∧ v8 = .slice a k cp ∧ v9 = .int .i64 (u : Int)) (fun v8 _ _ => lenOf v8)
    case atStart => exact ⟨MM.length, U0, rfl, Nat.le_refl _, Lib.hid ⟨.inr HML.out, HU0.out⟩, rfl, rfl⟩
    case round =>
      obtain ⟨k, u, rfl, hk, HKU, rfl, rfl⟩ := hrel
      by_cases h64 : 64 < k
      · obtain ⟨m, rfl⟩ : ∃ m, k = m + 1 := ⟨k - 1, by omega⟩
        have hd1 : decide ((64 : Int) < (m : Int) + 1) = true := by simp; omega
        obtain ⟨g, rfl, -, -, hcl⟩ := own_cell HO.out m (by omega)
        have hmM : m < M.length := by have := HML.out; omega
        have hmk : MM[m]'(by omega) = str M[m] := by simp [HMM.out]
        rw [hmk] at hcl
        have hus := HST.out m hmM
        have hle : u ≤ U0 := by rw [HKU.out.2]; exact HUB.out _
        have hu2 : u = usedB (M.take m) + (12 + M[m].length) := by rw [HKU.out.2, hus]
        have HSZ2 := Lib.hid (fun w4 => FrameC.size_any M[m] w4 (by omega))
        have hcp : MM.length ≤ cp := by
          obtain ⟨-, ⟨h2, -⟩ | ⟨g', cap, cur, h2, -, -, h5, -⟩⟩ := HO.out
          · cases h2
          · cases h2; exact h5
        have hmc : m ≤ cp := by omega
        have hm1 : m ≤ 2000000 := by have := HML.out; omega
        have HNU : Hid ((64 ≤ m ∨ m = M.length) ∧ usedB (M.take m) = usedB (M.take m)) := Lib.hid ⟨.inl (by omega), rfl⟩
        clear hus hmk
        generalize hY : usedB (M.take m) = Y at *
        generalize M[m] = x at *
        have HY := Lib.hid hY
        have HX : Hid (x.length ≤ 16777216) := Lib.hid (by omega)
        subst hu2
        clear hmM hY
        go_wp2_with fail
        refine (HSZ2.out w3).mono ?_
        rintro e w4 ⟨rfl, rfl⟩
        have hx := HX.out
        go_wp2_with fail
        go_roundw
        case rel => exact ⟨m, Y, trivial, by omega, Lib.hid ⟨HNU.out.1, HY.out.symm⟩, by go_num, by go_num⟩
        case measure => simp [lenOf]
      · have hd1 : decide ((64 : Int) < (k : Int)) = false := by simp; omega
        have HP := Lib.hid (HPART.out k (by omega) HKU.out.1)
        have HU : Hid (u = usedB (partL s.fs n)) := Lib.hid (by rw [HKU.out.2, HP.out])
        have HPL : Hid (k = (partL s.fs n).length) := Lib.hid (by
          rw [← HP.out, List.length_take, Nat.min_eq_left (by have := HML.out; omega)])
        have HO2 : Hid (OwnT w3 wc.heap.size (.slice a (partL s.fs n).length cp) ((partL s.fs n).map str)) := Lib.hid (by
          rw [← HPL.out, ← HP.out, List.map_take, ← HMM.out]
          exact own_take2 HO.out k hk)
        have hinf := info_seg
        have hnew3 := HNEW3.out
        have hbw := HB3.out
        obtain ⟨q1, hq1⟩ : ∃ q, q = (partL s.fs n).length := ⟨_, rfl⟩
        obtain ⟨q2, hq2⟩ : ∃ q, q = (fileL s.fs n).length := ⟨_, rfl⟩
        have e1 : k = q1 := by rw [hq1]; exact HPL.out
        subst e1
        rw [← hq2] at hsl
        have HQ1 := Lib.hid hq1
        have HQ2 := Lib.hid hq2
        clear HP hq1 hq2
        go_wp2_with (refine wpList_store_row rfl 65 _ _ rfl w.heap.size #[.string (nameN n), .slice a k cp, .int .i64 (u : Int), .int .i64 (q2 : Int)] rfl rfl _ _ hnew3 hinf rfl (seg_one _ _ _ _ _ _) ?_)
        refine bodyPost_ret (results_cell_tmp rfl _ _ w.heap.size _ #[.string (nameN n), .slice a k cp, .int .i64 (u : Int), .int .i64 (q2 : Int)] _ _ rfl (setRow_heap _ _ _ _ _ _ hnew3) Tryz.underlying65 rfl hinf) rfl ?_
        have hbb := below_setRow HB3.out (Nat.le_refl _) #[.string (nameN n), .slice a k cp, .int .i64 (u : Int), .int .i64 (q2 : Int)]
        refine .inr ⟨HDD.out, a, cp, ?_, ?_, hbb⟩
        · rw [← HQ1.out, ← HQ2.out, ← HU.out]
          rfl
        · have hlow := own_lt HO2.out
          have hwc := HB2s.out
          exact own_low (own_keeps HO2.out (keeps_row w3 w.heap.size _) (fun g hg e => by have := hlow g hg; omega)) (by omega)
theorem look_any {R : World → Nat → (Nat → Prop) → Int → DS → Prop} {B : Nat} (hD : Dev B R) {w : World} {b : Nat} {F : Nat → Prop} {cut : Int} {s : DS} (n : Nat) (h : Ln B R w b F cut s) (hg : DiskC.Good s.fs) :
    Calls Tryz.prog 65 #[.pointer (some ⟨b, 0, none⟩), .string (nameN n)] w (LookE n s w) := by
  cases hd : s.dead with
  | true => exact look_dead hD n h hg hd
  | false => exact look_live hD n h hg hd
end LogP
end Go.Proofs.YtlnbjlidakdmlaaGreatDoor
namespace Go.Proofs.YtlnbjlidakdmlaaGreatDoor
open Go.RowKit
set_option linter.unusedVariables false
namespace LogP
open LogM FrameM FrameC TextR DiskM DiskC LogC ErrC

/-- while files are taken away -/
structure Cln (R : World → Nat → (Nat → Prop) → Int → DS → Prop) (w0 w : World) (B b : Nat) (F F1 : Nat → Prop) (cut : Int) (s1 : DS) (q n u z : Nat) (v : Value) (names : List ByteArray) : Prop where
  ln : Ln B R w b F1 cut s1
  keeps : Keeps F w0 w
  foot : ∀ i, F1 i → F i ∨ w0.heap.size ≤ i
  c0 : w.cell? ⟨q, 0, none⟩ = some (.string (nameN n))
  c2 : w.cell? ⟨q, 2, none⟩ = some (.int .i64 (u : Int))
  c3 : w.cell? ⟨q, 3, none⟩ = some (.int .i64 (z : Int))
  names : OwnT w 0 v names
  sepq : ¬ F1 q
  sepn : ∀ g, v.ownBlock = some g → ¬ F1 g
theorem Cln.dev {R : World → Nat → (Nat → Prop) → Int → DS → Prop} {w0 w w' : World} {B b : Nat} {F F1 F2 : Nat → Prop} {cut : Int} {s1 s2 : DS} {q n u z : Nat} {v : Value} {names : List ByteArray} (h : Cln R w0 w B b F F1 cut s1 q n u z v names) (hr : R w' b F2 cut s2) (hk : Keeps F1 w w') (hf : ∀ i, F2 i → F1 i ∨ w.heap.size ≤ i) :
    Cln R w0 w' B b F F2 cut s2 q n u z v names := by
  have hq : q < w.heap.size := World.block_lt_of_cell? _ _ h.c0
  have e : w'.heap[q]? = w.heap[q]? := hk.block q hq h.sepq
  have hc : ∀ j, w'.cell? ⟨q, j, none⟩ = w.cell? ⟨q, j, none⟩ := fun j => World.cell?_of_block (a := ⟨q, j, none⟩) e
  have hs := h.keeps.size
  refine ⟨(h.ln.dev hr hk hf).1, h.keeps.then hk (fun i hi hF => (h.foot i hF).resolve_right (by omega)), fun i hi => ?_, by rw [hc]; exact h.c0, by rw [hc]; exact h.c2, by rw [hc]; exact h.c3, own_keeps h.names hk h.sepn, fun hF => ?_, fun g hg hF => ?_⟩
  · rcases hf i hi with h1 | h1
    · exact h.foot i h1
    · exact .inr (by omega)
  · rcases hf q hF with h1 | h1
    · exact h.sepq h1
    · omega
  · rcases hf g hF with h1 | h1
    · exact h.sepn g hg h1
    · have := (World.ownsRow.lt h.names g hg).2; omega
theorem Cln.below {R : World → Nat → (Nat → Prop) → Int → DS → Prop} {w0 w w' : World} {B b : Nat} {F F1 : Nat → Prop} {cut : Int} {s1 : DS} {q n u z : Nat} {v : Value} {names : List ByteArray} (hD : Dev B R) (h : Cln R w0 w B b F F1 cut s1 q n u z v names) (hb : Below w.heap.size w w') : Cln R w0 w' B b F F1 cut s1 q n u z v names :=
  h.dev (h.ln.below hD hb).1.rep (Keeps.of_below hb) (fun _ h => .inl h)
theorem derr_what {w w' : World} {ev : Value} {c : Nat} {t u : ByteArray} (h : DErr w w' ev c t) : DErr w w' ev c (if c = 0 then u else t) := by
  by_cases hz : c = 0
  · subst hz
    exact .inl ⟨rfl, derr_nil h⟩
  · rw [if_neg hz]; exact h
theorem Cln.drewN {R : World → Nat → (Nat → Prop) → Int → DS → Prop} {w0 w : World} {B b : Nat} {F F1 : Nat → Prop} {cut : Int} {s1 : DS} {q n u z : Nat} {v : Value} {names : List ByteArray} (hD : Dev B R) (h : Cln R w0 w B b F F1 cut s1 q n u z v names) (k : Nat) : Cln R w0 (w.drewN k) B b F F1 cut s1 q n u z v names := h.below hD (LogC.drewN_b w k)
theorem Cln.failed {R : World → Nat → (Nat → Prop) → Int → DS → Prop} {w0 w w' : World} {B b : Nat} {F F1 : Nat → Prop} {cut : Int} {s s1 : DS} {q n u z : Nat} {v ev : Value} {names : List ByteArray} {c : Nat} {t : ByteArray} (h : Cln R w0 w' B b F F1 cut s1 q n u z v names) (he : DErr w w' ev c t) (hs : w0.heap.size ≤ w.heap.size) (hr : openS cut s = (c, t, s1)) :
    DevE R F b cut (openS cut s).1 (openS cut s).2.1 (openS cut s).2.2 w0 (.returned ev) w' := by
  rw [hr]
  exact ⟨ev, F1, rfl, derr_from he hs, h.ln.rep, h.keeps, h.foot⟩

set_option maxHeartbeats 8000000 in
set_option maxRecDepth 100000 in
theorem clean_any {R : World → Nat → (Nat → Prop) → Int → DS → Prop} {B : Nat} (hD : Dev B R) {w : World} {b : Nat} {F : Nat → Prop} {cut : Int} {s : DS} (a0 : Option Addr) (k0 cp0 : Nat) (h : Ln B R w b F cut s) (hg : DiskC.Good s.fs) (hmay : ∀ f ∈ s.fs, mayB f.1 = true) (hc : s.count ≤ 549755000000) (hd : s.dead = false) :
    Calls Tryz.prog 27 #[segV (lastN s.fs) (.slice a0 k0 cp0) (usedB (partL s.fs (lastN s.fs))) (fileL s.fs (lastN s.fs)).length, .pointer (some ⟨b, 0, none⟩)] w
      (DevE R F b cut (openS cut s).1 (openS cut s).2.1 (openS cut s).2.2 w) := by
  have hlast := last_le hg
  obtain ⟨n, hn⟩ : ∃ n, n = lastN s.fs := ⟨_, rfl⟩
  have HOS : Hid (∀ s1, dropS cut n (namesS s) s = (0, str [], s1) → openS cut s = tornS cut n s.fs s1) := Lib.hid (fun s1 h => by rw [hn]; exact open_go hd (by rw [← hn]; exact h))
  have HST : Hid (∀ c m s2, dropS cut n (namesS s) s = (c, m, s2) → c ≠ 0 → openS cut s = (c, m, s2)) := Lib.hid (fun c m s2 h hz => open_stop hd (by rw [← hn]; exact h) hz)
  rw [← hn]
  rw [← hn] at hlast
  have HUS : Hid (usedB (partL s.fs n) = usedB (partL s.fs n) ∧ (fileL s.fs n).length = (fileL s.fs n).length) := Lib.hid ⟨rfl, rfl⟩
  have hul := used_part s.fs n
  have hzl := file_len hg n
  obtain ⟨u, hu⟩ : ∃ u, u = usedB (partL s.fs n) := ⟨_, rfl⟩
  obtain ⟨z, hz⟩ : ∃ z, z = (fileL s.fs n).length := ⟨_, rfl⟩
  rw [← hu, ← hz]
  rw [← hu, ← hz] at hul
  rw [← hz] at hzl
  have HU := Lib.hid hu
  have HZ := Lib.hid hz
  clear hu hz hn HUS
  have hnl := names_len s
  have hfl := hg.1
  have HM : Hid (∀ m ∈ namesS s, m.size ≤ 128) := Lib.hid (fun m hm => by
    obtain ⟨f, hf, rfl⟩ := name_has hm
    have := hmay f hf
    unfold mayB at this
    simp at this
    exact this.2)
  -- the box
  obtain ⟨W1, hW1⟩ : ∃ W1, w.alloc (.cells #[.string (nameN n), .slice a0 k0 cp0, .int .i64 (u : Int), .int .i64 (z : Int)] 65) = W1 := ⟨_, rfl⟩
  have hb1 : Below w.heap.size w W1 := by rw [← hW1]; exact (Below.refl _ w).alloc (Nat.le_refl _) _
  have hs1 : W1.heap.size = w.heap.size + 1 := by rw [← hW1]; simp
  have hL1 := (h.below hD hb1).1
  have hx0 : W1.cell? ⟨w.heap.size, 0, none⟩ = some (.string (nameN n)) := by rw [← hW1, World.cell?_alloc_at _ _ _ _ rfl]; rfl
  have hx2 : W1.cell? ⟨w.heap.size, 2, none⟩ = some (.int .i64 (u : Int)) := by rw [← hW1, World.cell?_alloc_at _ _ _ _ rfl]; rfl
  have hx3 : W1.cell? ⟨w.heap.size, 3, none⟩ = some (.int .i64 (z : Int)) := by rw [← hW1, World.cell?_alloc_at _ _ _ _ rfl]; rfl
  have HNM := Lib.hid (hD.names hL1.rep hg hL1.vars)
  have HCL0 : Hid (∀ w2 v, Below W1.heap.size W1 w2 → OwnT w2 W1.heap.size v (namesS s) → Cln R w w2 B b F F cut s w.heap.size n u z v (namesS s)) := Lib.hid (fun w2 v hb ho => by
    have hL2 := (hL1.below hD hb).1
    exact ⟨hL2, (Keeps.of_below (S := F) hb1).trans (Keeps.of_below (hb.mono (Nat.le_refl _))), fun _ h => .inl h,
      by rw [hb.cell (by show w.heap.size < W1.heap.size; omega)]; exact hx0, by rw [hb.cell (by show w.heap.size < W1.heap.size; omega)]; exact hx2, by rw [hb.cell (by show w.heap.size < W1.heap.size; omega)]; exact hx3, own_low ho (Nat.zero_le _),
      fun hF => by have := hD.lt h.rep _ hF; omega, fun g hg2 hF => by have := hD.lt h.rep _ hF; have := own_lt ho g hg2; omega⟩)
  have HD := Lib.hid hD
  have HG := Lib.hid hg
  have HC := Lib.hid hc
  have HS1 := Lib.hid hs1
  clear h hg hmay hc hd hb1 hL1 hx0 hx2 hx3 hs1 hD
  unfold segV
  go_enter Tryz.func27, Tryz.ntmps27
  go_wp2_with fail
  refine HNM.out.mono ?_
  rintro e w2 ⟨v, rfl, ho, hb⟩
  have HCL := Lib.hid (HCL0.out w2 v hb ho)
  clear hb ho HCL0 HNM hW1
  generalize hNM : namesS s = names at *
  have HNM2 := Lib.hid hNM
  clear hNM
  have hun := HCL.out.names
  obtain ⟨a, cp, rfl, -⟩ := hun.open_
  clear hun
  go_wp2_with fail
  go_loopw [11] (fun vi wr => ∃ (i : Nat) (F1 : Nat → Prop) (s1 : DS), vi = .int .i64 i ∧ i ≤ names.length ∧ Hid (Cln R w wr B b F F1 cut s1 w.heap.size n u z (.slice a names.length cp) names) ∧ Hid (dropS cut n names s = dropS cut n (names.drop i) s1) ∧ Hid (DiskC.Good s1.fs ∧ s1.count ≤ s.count + i)) (fun vi _ => names.length - (intOf vi).toNat)
  case atStart => exact ⟨0, F, s, rfl, Nat.zero_le _, HCL, Lib.hid (by rw [List.drop_zero]), Lib.hid ⟨HG.out, Nat.le_refl _⟩⟩
  case round =>
    obtain ⟨i, F1, s1, rfl, hi, HCL1, HDE, HG1⟩ := hrel
    rename World => wr
    clear HCL
    by_cases hlt : i < names.length
    · have hdec : decide (i < names.length) = true := by simpa using hlt
      obtain ⟨g, rfl, -, hgl, hcl⟩ := own_cell HCL1.out.names i hlt
      have HDN : Hid (names.drop i = names[i] :: names.drop (i + 1)) := Lib.hid (List.drop_eq_getElem_cons hlt)
      have hm128 := HM.out names[i] (List.getElem_mem hlt)
      generalize names[i] = m at *
      have HNMD := Lib.hid (fun w4 => named_any m w4 (by omega))
      have HBI := Lib.hid (behind_iff n (by omega) m)
      have c0 := HCL1.out.c0
      have hql : w.heap.size < wr.heap.size := World.block_lt_of_cell? _ _ c0
      cases hnm : namedB m.data.toList with
      | false =>
        have HDE2 : Hid (dropS cut n names s = dropS cut n (names.drop (i + 1)) s1) := Lib.hid (by
          rw [HDE.out, HDN.out, drop_cons_pass (fun hh => by have := (HBI.out.2 hh).1; rw [hnm] at this; cases this)])
        rw [hnm] at HNMD
        clear hnm
        go_wp2_with fail
        refine (HNMD.out wr).mono ?_
        rintro e w3 ⟨rfl, hb⟩
        have HCL3 := Lib.hid (HCL1.out.below HD.out hb)
        clear hb
        go_wp2_with fail
        go_roundw
        case rel => exact ⟨i + 1, F1, s1, by go_num, by omega, HCL3, HDE2, Lib.hid ⟨HG1.out.1, by have := HG1.out.2; omega⟩⟩
        case measure => simp [intOf]; omega
      | true =>
        rw [hnm] at HNMD
        have HNT := Lib.hid hnm
        clear hnm
        cases hle : (Op.bytesLess m.toList (nameN n).toList || m.toList == (nameN n).toList) with
        | true =>
          have HDE2 : Hid (dropS cut n names s = dropS cut n (names.drop (i + 1)) s1) := Lib.hid (by
            rw [HDE.out, HDN.out, drop_cons_pass (fun hh => by have := (HBI.out.2 hh).2; rw [hle] at this; cases this)])
          go_wp2_with fail
          refine (HNMD.out wr).mono ?_
          rintro e w3 ⟨rfl, hb⟩
          have HCL3 := Lib.hid (HCL1.out.below HD.out hb)
          have c03 := HCL3.out.c0
          clear hb
          go_wp2_with fail
          go_roundw
          case rel => exact ⟨i + 1, F1, s1, by go_num, by omega, HCL3, HDE2, Lib.hid ⟨HG1.out.1, by have := HG1.out.2; omega⟩⟩
          case measure => simp [intOf]; omega
        | false =>
          have HGO : Hid (n < numT m) := Lib.hid (HBI.out.1 ⟨HNT.out, hle⟩)
          have HREM := Lib.hid (fun w4 (h4 : Ln B R w4 b F1 cut s1) => HD.out.remove m h4.rep HG1.out.1 (by have := HG1.out.2; have := HC.out; omega) h4.vars)
          have hg1 := remove_good (cut := cut) (name := m) HG1.out.1
          have HG2 := Lib.hid hg1
          clear hg1
          generalize hrm : removeS cut m s1 = r at *
          obtain ⟨c, s2⟩ := r
          have HRM := Lib.hid hrm
          clear hrm
          go_wp2_with fail
          refine (HNMD.out wr).mono ?_
          rintro e w3 ⟨rfl, hb⟩
          have HCL3 := Lib.hid (HCL1.out.below HD.out hb)
          have c03 := HCL3.out.c0
          have hs3 := hb.size
          clear hb
          go_wp2_with fail
          refine (HREM.out w3 HCL3.out.ln).mono ?_
          rintro e w4 ⟨ev, F2, rfl, he, hr, hk, hf⟩
          have HCL4 := Lib.hid (HCL3.out.dev hr hk hf)
          have HE := Lib.hid he
          clear hr hk hf
          by_cases hz : c = 0
          · subst hz
            obtain rfl := derr_nil he
            have HDE2 : Hid (dropS cut n names s = dropS cut n (names.drop (i + 1)) s2) := Lib.hid (by
              rw [HDE.out, HDN.out, drop_cons_go HGO.out (by rw [HRM.out]), HRM.out])
            clear he
            go_wp2_with fail
            go_roundw
            case rel => exact ⟨i + 1, F2, s2, by go_num, by omega, HCL4, HDE2, Lib.hid ⟨HG2.out.1, by have := HG2.out.2; have := HG1.out.2; omega⟩⟩
            case measure => simp [intOf]; omega
          · obtain ⟨f, rfl, -, -⟩ := derr_some he hz
            have HR : Hid (openS cut s = (c, m, s2)) := Lib.hid (HST.out c m s2 (by
              rw [HDE.out, HDN.out, drop_cons_stop HGO.out (by rw [HRM.out]; exact hz), HRM.out]) hz)
            clear he hz
            go_wp2_with fail
            go_ret
            exact HCL4.out.failed HE.out (by omega) HR.out
    · have hdec : decide (i < names.length) = false := by simpa using hlt
      have HOS2 : Hid (openS cut s = tornS cut n s.fs s1) := Lib.hid (HOS.out s1 (by
        rw [HDE.out, List.drop_of_length_le (by omega)]
        rfl))
      have c0 := HCL1.out.c0
      have c2 := HCL1.out.c2
      have c3 := HCL1.out.c3
      have hql : w.heap.size < wr.heap.size := World.block_lt_of_cell? _ _ c0
      by_cases huz : u = z
      · have hb1 : ((u : Int) == (z : Int)) = true := beq_iff_eq.2 (by omega)
        have HR : Hid (openS cut s = (0, str [], s1)) := Lib.hid (by rw [HOS2.out, torn_clean (by rw [← HU.out, ← HZ.out]; exact huz)])
        clear huz
        go_wp2_with fail
        all_goals (go_ret; exact HCL1.out.failed (w := wr) (.inl ⟨rfl, rfl⟩) (by omega) HR.out)
      · have hb1 : ((u : Int) == (z : Int)) = false := beq_eq_false_iff_ne.2 (by omega)
        have HTR := Lib.hid (HD.out.trunc (nameN n) (u : Int) HCL1.out.ln.rep HG1.out.1 (by have := HG1.out.2; have := HC.out; omega) HCL1.out.ln.vars)
        generalize htc : truncS cut (nameN n) (u : Int) s1 = r at *
        obtain ⟨c, s2⟩ := r
        have HR : Hid (openS cut s = (c, if c = 0 then str [] else nameN n, s2)) := Lib.hid (by rw [HOS2.out, torn_cut (c := c) (s2 := s2) (by rw [← HU.out, ← HZ.out]; exact huz) (by rw [← HU.out, htc])])
        clear huz htc
        go_wp2_with fail
        refine HTR.out.mono ?_
        rintro e w4 ⟨ev, F2, rfl, he, hr, hk, hf⟩
        have HCL4 := Lib.hid (HCL1.out.dev hr hk hf)
        have HE : Hid (DErr wr w4 ev c (if c = 0 then str [] else nameN n)) := Lib.hid (derr_what he)
        clear he hr hk hf
        go_wp2_with fail
        go_ret
        exact HCL4.out.failed HE.out (by omega) HR.out
end LogP
end Go.Proofs.YtlnbjlidakdmlaaGreatDoor
