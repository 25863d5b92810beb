/-
  The law LogCuts' parts: says; the law's state (a disk, its log, the row of what was answered) and what each call makes of it.
-/
import Derived.Test.YtinoghanlokenaaGreatDoorLogAlive
import Derived.Test.YtinoghanlokenaaGreatDoorLogIter
import Derived.BigQuiet
import Derived.ArgAppend
namespace Go.Proofs.YtinoghanlokenaaGreatDoor
open Go.RowKit
set_option linter.unusedVariables false
namespace LogP
open LogM FrameM FrameC TextR DiskM DiskC LogC ErrC

/-- the disk and the row of what was answered, apart from each other -/
structure Cst (B : Nat) (w wr : World) (b : Nat) (F : Nat → Prop) (cut : Int) (fs : FL) (c : Nat) (d : Bool) (L : List (List UInt8)) (T : List UInt8) (vin : Value) (M : List ByteArray) : Prop where
  ln : Ln B (DiskP.RP B) wr b F cut ⟨fs, c, d⟩
  inv : InvT fs L T
  good : DiskC.Good fs
  row : OwnT wr B vin M
  sep : ∀ g, vin.ownBlock = some g → ¬ F g
  below : Below B w wr
  vars : VarsT wr
section
variable {B : Nat} {w wr : World} {b : Nat} {F : Nat → Prop} {cut : Int} {fs : FL} {c : Nat} {d : Bool} {L : List (List UInt8)} {T : List UInt8} {vin : Value} {M : List ByteArray}
theorem Cst.turn (h : Cst B w wr b F cut fs c d L T vin M) {S : Nat → Prop} {w1 : World} {F' : Nat → Prop} {cut' : Int} {fs' : FL} {c' : Nat} {d' : Bool} {L' : List (List UInt8)} {T' : List UInt8}
    (hr : DiskP.RP B w1 b F' cut' ⟨fs', c', d'⟩) (hk : Keeps S wr w1) (hS : ∀ i, S i → B ≤ i) (hsep : ∀ g, vin.ownBlock = some g → ¬ S g) (hf : ∀ i, F' i → S i ∨ F i ∨ wr.heap.size ≤ i) (hi : InvT fs' L' T') (hg : DiskC.Good fs') :
    Cst B w w1 b F' cut' fs' c' d' L' T' vin M := by
  have hb := hk.toBelow hS h.ln.hw
  have hv := h.vars.belowG hb h.ln.g0 h.ln.g1
  refine ⟨⟨hr, fun i hi => ?_, Nat.le_trans h.ln.hw hk.size, hv.vars, h.ln.g0, h.ln.g1⟩, hi, hg, own_keeps h.row hk hsep, fun g hg hF => ?_, h.below.trans hb, hv⟩
  · rcases hf i hi with h1 | h1 | h1
    · exact hS i h1
    · exact h.ln.low i h1
    · exact Nat.le_trans h.ln.hw h1
  · rcases hf g hF with h1 | h1 | h1
    · exact hsep g hg h1
    · exact h.sep g hg h1
    · have := (World.ownsRow.lt h.row g hg).2; omega
theorem Cst.onto (h : Cst B w wr b F cut fs c d L T vin M) {w1 : World} (hb : Below wr.heap.size wr w1) : Cst B w w1 b F cut fs c d L T vin M :=
  h.turn (S := fun _ => False) (h.ln.below (DiskP.disk_dev B) hb).1.rep (Keeps.of_below hb) (fun _ e => e.elim) (fun _ _ e => e) (fun i hi => .inr (.inl hi)) h.inv h.good
/-- and a log over it -/
structure Lst (B : Nat) (w wr : World) (b : Nat) (F : Nat → Prop) (cut : Int) (fs : FL) (c : Nat) (L : List (List UInt8)) (vin : Value) (M : List ByteArray) (p nb : Nat) (lv : Value) : Prop where
  c : Cst B w wr b F cut fs c false L [] vin M
  pl : IsPL wr B p nb b lv L false
  dis : ∀ i, FootP p nb lv i → ¬ F i
  sep : ∀ g, vin.ownBlock = some g → ¬ FootP p nb lv g
variable {p nb : Nat} {lv : Value}
theorem Lst.pld (h : Lst B w wr b F cut fs c L vin M p nb lv) : PLD (DiskP.RP B) wr B p nb b F lv cut L false ⟨fs, c, false⟩ :=
  ⟨h.pl, h.c.ln.rep, h.dis, h.c.ln.low, h.c.ln.hw, h.c.vars, h.c.ln.g0, h.c.ln.g1⟩
theorem Lst.onto (h : Lst B w wr b F cut fs c L vin M p nb lv) {w1 : World} (hb : Below wr.heap.size wr w1) : Lst B w w1 b F cut fs c L vin M p nb lv := ⟨h.c.onto hb, h.pl.below hb, h.dis, h.sep⟩
/-! ### the calls -/
theorem c_new (w : World) (hv : VarsT w) : Calls Tryz.prog 6 #[.int .i64 (-1)] w fun e w1 => ∃ b F, e = .returned (.pointer (some ⟨b, 0, none⟩)) ∧ Cst w.heap.size w w1 b F (-1) [] 0 false [] [] (.slice none 0 0) [] :=
  ((DiskP.disk_dev w.heap.size).new (-1) (Nat.le_refl _)).mono (by
    rintro e w1 ⟨b, F, rfl, hr, hb, hF⟩
    exact ⟨b, F, rfl, ⟨hr, hF, hb.size, (hv.below hb).vars, DiskC.Vars.g0 hv.vars, DiskC.Vars.g1 hv.vars⟩, InvT.empty, ⟨Nat.zero_le _, fun f h => by cases h⟩, OwnT.nil _ _, (fun g h => by cases h), hb, hv.below hb⟩)
theorem c_restart (n : Int) (h : Cst B w wr b F cut fs c d L T vin M) : Calls Tryz.prog 15 #[.pointer (some ⟨b, 0, none⟩), .int .i64 n] wr fun e w1 => e = .returned .nilIface ∧ ∃ F', Cst B w w1 b F' n fs 0 false L T vin M :=
  ((DiskP.disk_dev B).restart n h.ln.rep h.good h.ln.vars).mono (by
    rintro e w1 ⟨⟨ev, F', rfl, he, hr, hk, hf⟩, -⟩
    obtain rfl := derr_nil he
    exact ⟨rfl, F', h.turn hr hk h.ln.low h.sep (fun i hi => .inr (hf i hi)) h.inv h.good⟩)
theorem l_restart (n : Int) (h : Lst B w wr b F cut fs c L vin M p nb lv) : Calls Tryz.prog 15 #[.pointer (some ⟨b, 0, none⟩), .int .i64 n] wr fun e w1 => e = .returned .nilIface ∧ ∃ F', Lst B w w1 b F' n fs 0 L vin M p nb lv :=
  ((DiskP.disk_dev B).restart n h.c.ln.rep h.c.good h.c.ln.vars).mono (by
    rintro e w1 ⟨⟨ev, F', rfl, he, hr, hk, hf⟩, -⟩
    obtain rfl := derr_nil he
    refine ⟨rfl, F', h.c.turn hr hk h.c.ln.low h.c.sep (fun i hi => .inr (hf i hi)) h.c.inv h.c.good, h.pl.keeps hk h.dis, fun i hi hF => ?_, h.sep⟩
    rcases hf i hF with h1 | h1
    · exact h.dis i hi h1
    · have := (h.pl.foot i hi).2; omega)
theorem c_dead (h : Cst B w wr b F cut fs c d L T vin M) : Calls Tryz.prog 26 #[.pointer (some ⟨b, 0, none⟩)] wr fun e w1 => e = .returned (.bool d) ∧ Below wr.heap.size wr w1 := (DiskP.disk_dev B).dead h.ln.rep h.good h.ln.vars
theorem l_writes (h : Lst B w wr b F cut fs c L vin M p nb lv) : Calls Tryz.prog 22 #[.pointer (some ⟨b, 0, none⟩)] wr fun e w1 => e = .returned (.int .i64 c) ∧ Lst B w w1 b F cut fs c L vin M p nb lv :=
  ((DiskP.disk_dev B).writes h.c.ln.rep h.c.good h.c.ln.vars).mono (by
    rintro e w1 ⟨rfl, hb⟩
    exact ⟨rfl, h.onto hb⟩)
/-- Open: the log has what was answered; where it is cut, the power is lost and nothing is written -/
def OpenC (B : Nat) (w wr : World) (b : Nat) (cut : Int) (fs : FL) (L : List (List UInt8)) (T : List UInt8) (vin : Value) (M : List ByteArray) (e : Ending) (w1 : World) : Prop :=
  (∃ p nb lv F' fs' c', e = .returned (.tuple #[.pointer (some ⟨p, 0, none⟩), .nilIface]) ∧ Lst B w w1 b F' cut fs' c' L vin M p nb lv ∧ fs'.length = fs.length ∧ (T = [] → c' = 0)) ∨
  (∃ f F', e = .returned (.tuple #[.pointer none, .iface 107 (.pointer (some ⟨f, 0, none⟩))]) ∧ Cst B w w1 b F' cut fs 0 true L T vin M ∧ 0 ≤ cut ∧ T ≠ [])
theorem c_open (h : Cst B w wr b F cut fs 0 false L T vin M) : Calls Tryz.prog 8 #[.pointer (some ⟨b, 0, none⟩)] wr (OpenC B w wr b cut fs L T vin M) := by
  refine (popen_any (DiskP.disk_dev B) h.ln h.vars h.good h.ln.rep.2 (Nat.zero_le _)).mono ?_
  unfold POpenE OpenC
  have hlog := h.inv.log 0 false
  have hgood := (open_good (cut := cut) (s := ⟨fs, 0, false⟩) h.good).1
  rw [hlog]
  by_cases hT : T = []
  · subst hT
    rw [h.inv.open_ cut 0]
    dsimp only
    rintro e w1 (⟨-, p, nb, lv, F', rfl, hp, hk, hF, hf⟩ | ⟨h1, -⟩)
    · exact .inl ⟨p, nb, lv, F', fs, 0, rfl, ⟨h.turn hp.rep hk h.ln.low h.sep (fun i hi => .inr (hf i hi)) h.inv h.good, hp.pl, hp.dis, fun g hg hi => by have := (World.ownsRow.lt h.row g hg).2; have := hF g hi; omega⟩, rfl, fun _ => rfl⟩
    · exact absurd rfl h1
  · rcases h.inv.openT hT cut 0 with ⟨hr, ho⟩ | ⟨hr, fs', ho, hi, hl⟩
    · rw [ho]
      dsimp only
      rintro e w1 (⟨h1, -⟩ | ⟨-, ev, F', rfl, he, hR, hk, hf⟩)
      · cases h1
      · obtain ⟨f, rfl, -, -⟩ := derr_some he (by decide)
        refine .inr ⟨f, F', rfl, h.turn hR hk h.ln.low h.sep (fun i hi => .inr (hf i hi)) h.inv h.good, ?_, hT⟩
        unfold rawB at hr
        simp at hr
        omega
    · rw [ho] at hgood
      rw [ho]
      dsimp only
      rintro e w1 (⟨-, p, nb, lv, F', rfl, hp, hk, hF, hf⟩ | ⟨h1, -⟩)
      · exact .inl ⟨p, nb, lv, F', fs', 0 + 1, rfl, ⟨h.turn hp.rep hk h.ln.low h.sep (fun i hi => .inr (hf i hi)) hi hgood, hp.pl, hp.dis, fun g hg hi => by have := (World.ownsRow.lt h.row g hg).2; have := hF g hi; omega⟩, hl, fun e => absurd e hT⟩
      · exact absurd rfl h1
/-- Append: answered, and in; or cut, and a beginning of it stands there -/
def AppC (B : Nat) (w wr : World) (b : Nat) (cut : Int) (fs : FL) (L : List (List UInt8)) (q : List UInt8) (vin : Value) (M : List ByteArray) (e : Ending) (w1 : World) : Prop :=
  (∃ F' fs' c', e = .returned .nilIface ∧ Cst B w w1 b F' cut fs' c' false (L ++ [q]) [] vin M ∧ fs'.length ≤ fs.length + 1) ∨
  (∃ f F' fs' c' T, e = .returned (.iface 107 (.pointer (some ⟨f, 0, none⟩))) ∧ Cst B w w1 b F' cut fs' c' true L T vin M ∧ fs'.length ≤ fs.length + 1)
theorem l_append (q : List UInt8) (hq : q.length ≤ 131072) (h : Lst B w wr b F cut fs c L vin M p nb lv) (hfl : fs.length < 1000) (hl : L.length < 10000) (hc : c ≤ 549755813888) :
    Calls Tryz.prog 11 #[.pointer (some ⟨p, 0, none⟩), .string (str q)] wr (AppC B w wr b cut fs L q vin M) := by
  have hpl := h.pld
  refine (pappend_any (DiskP.disk_dev B) q hpl h.c.good hc (by omega) (by omega)).mono ?_
  have hgood := (appendL_good (cut := cut) (pl := q) (L := L) (br := false) (s := ⟨fs, c, false⟩) h.c.good).1
  unfold PAppE AppC
  have hsep : ∀ g, vin.ownBlock = some g → ¬ FootD p nb lv F g := fun g hg hi => hi.elim (h.sep g hg) (h.c.sep g hg)
  have hft : ∀ {lv' : Value} {F' : Nat → Prop}, (∀ i, FootD p nb lv' F' i → FootD p nb lv F i ∨ wr.heap.size ≤ i) → ∀ i, F' i → FootD p nb lv F i ∨ F i ∨ wr.heap.size ≤ i := fun hf i hi => (hf i (.inr hi)).imp id .inr
  rcases h.c.inv.append q hq hfl hl cut c with ⟨fs', c', e, hi, hle⟩ | ⟨fs', c', T, e, hi, hle⟩
  · rw [e] at hgood
    rw [e]
    dsimp only
    rintro e w1 ⟨ev, lv', F', rfl, he, hp, hk, hf⟩
    obtain rfl := derr_nil he
    exact .inl ⟨F', fs', c', rfl, h.c.turn hp.rep hk hpl.low2 hsep (hft hf) hi hgood, hle⟩
  · rw [e] at hgood
    rw [e]
    dsimp only
    rintro e w1 ⟨ev, lv', F', rfl, he, hp, hk, hf⟩
    obtain ⟨f, rfl, -, -⟩ := derr_some he (by decide)
    exact .inr ⟨f, F', fs', c', T, rfl, h.c.turn hp.rep hk hpl.low2 hsep (hft hf) hi hgood, hle⟩
end
/-! ### the row grows -/
section
variable {B : Nat} {w wr : World} {b : Nat} {F : Nat → Prop} {cut : Int} {fs : FL} {c : Nat} {d : Bool} {L : List (List UInt8)} {T : List UInt8} {vin : Value} {M : List ByteArray}
theorem Cst.grown (h : Cst B w wr b F cut fs c d L T vin M) {wa w1 : World} {vin' : Value} {M' : List ByteArray} (hb : Below wr.heap.size wr wa) (hg : wa.grownBy w1 vin.ownBlock) (hrow : OwnT w1 B vin' M') (hat : vin'.ownBlock = vin.ownBlock ∨ vin'.ownBlock = some wa.heap.size) :
    Cst B w w1 b F cut fs c d L T vin' M' := by
  have hk : Keeps (fun i => vin.ownBlock = some i) wr w1 := (Keeps.of_below (S := fun i => vin.ownBlock = some i) hb).trans ⟨hg.os, hg.tape, hg.output, hg.size, fun k hk hs => hg.block k hk (fun e => hs e.symm)⟩
  have hSB : ∀ i, vin.ownBlock = some i → B ≤ i := fun i hi => (World.ownsRow.lt h.row i hi).1
  have hbl := hk.toBelow hSB h.ln.hw
  have hv := h.vars.belowG hbl h.ln.g0 h.ln.g1
  have hr := (DiskP.disk_dev B).keeps h.ln.rep hk (fun i hF hS => h.sep i hS hF) hSB
  refine ⟨⟨hr, h.ln.low, Nat.le_trans h.ln.hw hk.size, hv.vars, h.ln.g0, h.ln.g1⟩, h.inv, h.good, hrow, fun g e hF => ?_, h.below.trans hbl, hv⟩
  rcases hat with e2 | e2
  · exact h.sep g (e2.symm.trans e) hF
  · have h1 := (DiskP.disk_dev B).lt h.ln.rep g hF
    rw [e2] at e
    have h2 := hb.size
    have h3 : wa.heap.size = g := by simpa using e
    omega
end
/-- append to a row that has no room, at a step of a region that draws -/
theorem step_append_full {P : Program} {w : World} {ops : Array Oper} {o : Oper} {a : Act} {K : Act → World → Prop} {Q : Exit → Act → World → Prop} {E : Prop} (hgd : o.guard = none) (s x : Operand) (t : TypeId)
    (ho : o.op = .call { callee := .builtin .append, args := #[s, x], argTypes := #[t, t] })
    (e : TypeId) (i : TypeInfo) (z : Value) (ht : P.underlying t = some (.slice e)) (hi : P.info? e = some i) (hz : i.zero = some z)
    (hsize : i.size = 1) (hby : i.bytes = 16) (hzs : z.cells.size = 1) (ao : Option Addr) (n : Nat) (M : List ByteArray) (hs : a.eval s = .slice ao n n) (hn : M.length = n) (hnone : ao = none → n = 0)
    (hold : ∀ g, ao = some g → ∀ j u, (M.map Value.string)[j]? = some u → w.cell? (g.add j) = some u)
    (ad : Addr) (y : ByteArray) (hx : a.eval x = .slice (some ad) 1 1) (hc : w.cell? ad = some (.string y)) (hl : n ≤ 1000)
    (h : ∀ ao' cap w', w.grownBy w' none → K (a.put o.dst (.slice ao' (n + 1) cap)) w') :
    if Region.wanted o (yielded ops a.tmps) = true then Oper.wp P o a w K Q else E := by
  have hw : Region.wanted o (yielded ops a.tmps) = true := by simp [Region.wanted, hgd]
  rw [if_pos hw]
  have h1 : ∀ j u, ([Value.string y] : List Value)[j]? = some u → w.cell? (ad.add j) = some u := fun j u hu => by
    rcases j with _ | j
    · have e0 : ad.add 0 = ad := by cases ad with | mk b off spot => simp [Addr.add]
      rw [e0, hc]
      simpa using hu
    · simp at hu
  have key : ∃ v' w', (Builtin.append_ #[t, t] o.type #[.slice ao n n, .slice (some ad) 1 1]).run P w = .ok v' w' ∧ w'.ownsRow w.heap.size e 1 v' (n + 1) (M.map Value.string ++ [.string y]) ∧ w.grownBy w' none := by
    cases ao with
    | some g => exact run_append_arg_grows (P := P) w t o.type e i z 1 16 ht hi hz hsize hby hzs (by decide) g n n (M.map Value.string) (by simp [hn]) (hold g rfl) ad 1 1 [.string y] rfl h1 (by omega) (by unfold maxLen; omega) (by omega)
    | none =>
      obtain rfl := hnone rfl
      obtain rfl : M = [] := List.eq_nil_of_length_eq_zero hn
      obtain ⟨v', w', hrun, r1, r2, _⟩ := run_append_own (P := P) w w.heap.size t o.type e i z 1 16 ht hi hz hsize hby hzs (by decide) (.slice none 0 0) 0 [] (World.ownsRow_nil w _ e 1) ad 1 1 [.string y] rfl h1 (by intro u hu; simp at hu; subst hu; rfl) (by unfold maxLen; omega) (by omega) (Nat.le_refl _)
      exact ⟨v', w', hrun, r1, r2⟩
  obtain ⟨v', w', hr, h2, h3⟩ := key
  obtain ⟨ao', cap, rfl⟩ : ∃ ao' cap, v' = .slice ao' (n + 1) cap := by
    rcases h2.2 with ⟨rfl, h0⟩ | ⟨g, cap, cur, rfl, -⟩
    · omega
    · exact ⟨_, _, rfl⟩
  unfold Oper.wp execOp
  simp only [ho, resolve, invoke, builtin, Sem.run_bind, Sem.run_pure, Result.andThen_ok, List.map_toArray, List.map_cons, List.map_nil, hs, hx, hr]
  exact h ao' cap w' h3
theorem slice_full (av : Option Addr) (n cv : Nat) (h : n ≤ cv) (w : World) : (Instr.slice 42 (.slice av n cv) none (some (.int .i64 (n : Int))) (some (.int .i64 (n : Int)))).run Tryz.prog w = .ok (.slice av n n) w := by
  have ht : Tryz.prog.underlying 42 = some (.slice (Tryz.prog.elem 42)) := by kernel_rfl
  have hz : (Go.sizeOf (Tryz.prog.elem 42)).run Tryz.prog w = .ok 1 w := by
    have he : Tryz.prog.elem 42 = 9 := by kernel_rfl
    obtain ⟨ti, hti, -, hz1, -⟩ := info_parts info_text
    rw [he]
    simp [sizeOf, typeInfo, hti, hz1]
  rw [run_slice_hm w 42 av n cv ht .i64 .i64 (n : Int) (n : Int) (by omega) (by omega) (by omega), hz]
  simp only [Result.andThen_ok, sliced, Int.toNat_natCast, Nat.sub_zero]
  cases av with
  | none => simp
  | some g =>
    obtain ⟨b, o, spot⟩ := g
    simp [Addr.add]
/-- the inner loop: without power still, or opened -/
def Inn (B : Nat) (w wx : World) (b : Nat) (L : List (List UInt8)) (T : List UInt8) (vin : Value) (M : List ByteArray) (n : Nat) (va ve : Value) : Prop :=
  (∃ f F cut fs c, ve = .iface 107 (.pointer (some ⟨f, 0, none⟩)) ∧ Cst B w wx b F cut fs c true L T vin M ∧ fs.length ≤ n) ∨
  (∃ p nb lv F cut fs c, ve = .nilIface ∧ va = .pointer (some ⟨p, 0, none⟩) ∧ Lst B w wx b F cut fs c L vin M p nb lv ∧ fs.length ≤ n)
def badE : Value → Nat
  | .nilIface => 0
  | _ => 1
/-! ### says -/
theorem says_false {B : Nat} {w : World} {p nb b : Nat} {lv : Value} {L : List (List UInt8)} {br : Bool} (h : IsPL w B p nb b lv L br) (a : Option Addr) (k cp : Nat) (hk : L.length ≠ k) :
    Calls Tryz.prog 25 #[.pointer (some ⟨p, 0, none⟩), .slice a k cp] w fun e w1 => e = .returned (.bool false) ∧ w = w1 := by
  have hd : ((L.length : Int) != (k : Int)) = true := by simp; omega
  have H := Lib.hid h
  generalize hn : L.length = n at hd
  have HL : Hid (Calls Tryz.prog 29 #[.pointer (some ⟨p, 0, none⟩)] w fun e w' => e = .returned (.int .i64 (n : Nat)) ∧ w = w') := Lib.hid (by rw [← hn]; exact len_any h)
  clear h hk hn
  go_enter Tryz.func25, Tryz.ntmps25
  go_wp2_with fail
  refine HL.out.mono ?_
  rintro e w' ⟨rfl, rfl⟩
  go_wp2_with fail
  go_ret
  exact ⟨rfl, rfl⟩
set_option maxHeartbeats 4000000 in
set_option maxRecDepth 100000 in
theorem says_true {B : Nat} {w : World} {p nb b : Nat} {lv vin : Value} {L : List (List UInt8)} {br : Bool} (h : IsPL w B p nb b lv L br) (hL : L.length ≤ 10000) {M : List ByteArray} (hM : M = L.map str) (hrow : OwnT w B vin M) :
    Calls Tryz.prog 25 #[.pointer (some ⟨p, 0, none⟩), vin] w fun e w1 => e = .returned (.bool true) ∧ Below w.heap.size w w1 := by
  have hl : M.length = L.length := by rw [hM, List.length_map]
  obtain ⟨a, cp, rfl, -⟩ := hrow.open_
  have HR := Lib.hid hrow
  have HL : Hid (Calls Tryz.prog 29 #[.pointer (some ⟨p, 0, none⟩)] w fun e w' => e = .returned (.int .i64 (M.length : Nat)) ∧ w = w') := Lib.hid (by rw [hl]; exact len_any h)
  have HF : Hid (Calls Tryz.prog 30 #[.pointer (some ⟨p, 0, none⟩), .int .i64 0] w fun e w' => ∃ v, e = .returned v ∧ OwnT w' w.heap.size v M ∧ Below w.heap.size w w') := Lib.hid (by
    have := from_any 0 0 rfl (by decide) h (by omega)
    unfold FromE at this
    rw [List.drop_zero, ← hM] at this
    exact this)
  have hM2 : M.length ≤ 10000 := by omega
  clear h hM hl hL hrow
  go_enter Tryz.func25, Tryz.ntmps25
  go_wp2_with fail
  refine HL.out.mono ?_
  rintro e w' ⟨rfl, rfl⟩
  go_wp2_with fail
  refine HF.out.mono ?_
  rintro e w1 ⟨v, rfl, ho, hb⟩
  obtain ⟨a1, cp1, rfl, -⟩ := ho.open_
  have HO := Lib.hid ho
  have HB := Lib.hid hb
  have HR1 : Hid (OwnT w1 B (.slice a M.length cp) M) := Lib.hid (own_keeps HR.out (Keeps.of_below (S := fun _ => False) hb) (fun _ _ e => e))
  clear ho hb HL HF
  go_wp2_with fail
  go_loopw [6] (fun vi wr => ∃ k q : Nat, k ≤ M.length ∧ vi = .int .i64 k ∧ wr = w1.drewN q) (fun vi _ => M.length - (intOf vi).toNat)
  case atStart => exact ⟨0, 0, Nat.zero_le _, rfl, rfl⟩
  case round =>
    obtain ⟨k, q, hk, rfl, rfl⟩ := hrel
    by_cases hlt : k < M.length
    · have hd : decide (k < M.length) = true := decide_eq_true hlt
      obtain ⟨g, rfl, -, -, c1⟩ := own_cell HR1.out k hlt
      obtain ⟨g1, rfl, -, -, c2⟩ := own_cell HO.out k hlt
      have hw : IntKind.i64.wrap (k : Int) = k := IntWalk.i64_in _ ⟨by omega, by omega⟩
      have hi1 : (k : Int) < M.length := by omega
      go_wp2_with fail
      go_quiet (fail)
      go_wp2_with fail
      go_roundw
      case rel => exact ⟨k + 1, _, by omega, by go_num, rfl⟩
      case measure => simp [intOf]; omega
    · have hd : decide (k < M.length) = false := decide_eq_false hlt
      go_wp2_with fail
      go_ret
      exact ⟨rfl, HB.out.trans ⟨rfl, rfl, rfl, Nat.le_refl _, fun _ _ => rfl⟩⟩
end LogP
end Go.Proofs.YtinoghanlokenaaGreatDoor
