/-
  The law of those very bytes (BlobVery): its state, and what each call makes of it.
-/
import Derived.Test.YtfbdhlpgklkjmaaGreatDoorBlobVars
import Derived.Deep.CutRange
import Derived.Deep.CutBlock
import Derived.Deep.RegionWith
import Derived.Deep.RegionHeld3
namespace Go.Proofs.YtfbdhlpgklkjmaaGreatDoor
open Go.RowKit Go.Sort
namespace BlobC
open BlobM PathM DiskM DiskC ErrC PathC StrC TextR
open VerM (B)
open DiskP (RP disk_dev)
set_option linter.unusedSimpArgs false
set_option linter.unusedVariables false

/-! ### what is staged, of a disk that Put alone writes -/
theorem filter_one {p : B → Bool} {a : B} : ∀ {l : List B}, l.Nodup → (∀ x ∈ l, p x = decide (x = a)) → l.filter p = if a ∈ l then [a] else []
  | [], _, _ => by simp
  | x :: r, hn, hp => by
    obtain ⟨h1, h2⟩ := List.nodup_cons.1 hn
    have ih := filter_one h2 (fun y hy => hp y (List.mem_cons_of_mem _ hy))
    rw [List.filter_cons, hp x List.mem_cons_self, ih]
    by_cases hx : x = a
    · subst hx
      simp [h1]
    · have hx2 : ¬ a = x := fun e => hx e.symm
      simp [hx, hx2]
theorem stages_is {Z : Nat} {s : DS} {k : Nat} (h : Inv Z s.fs k) (hd : s.dead = false) : (stagesL s).map str = if hasF stageB s.fs = true then [stageB] else [] := by
  have hnm : namesS s = s.fs.map (·.1) := by unfold namesS; rw [hd]; rfl
  have hnd : ((namesS s).map (·.data.toList)).Nodup := by
    rw [hnm, List.map_map]
    refine List.Pairwise.map _ (fun a b hab e => ?_) (h.sorted.imp (fun {a b} hab => hab))
    have e1 : a.1 = b.1 := ByteArray.ext (Array.toList_inj.1 e)
    rw [e1, less_irr] at hab
    cases hab
  have hp : ∀ x ∈ (namesS s).map (·.data.toList), keep 4 x = decide (x = stageN 1) := fun x hx => by
    rw [hnm, List.map_map] at hx
    obtain ⟨f, hf, rfl⟩ := List.mem_map.1 hx
    have hh := (has_mem h.sorted).2 ⟨f, hf, rfl⟩
    show keep 4 f.1.data.toList = decide (f.1.data.toList = stageN 1)
    rcases h.kind f.1 hh with e | ⟨y, hy, e, _⟩
    · rw [e]
      have h2 := read_stageN NameM.isN 1 (by decide) (by decide)
      rw [show ((1 : Nat) : Int) = 1 from rfl] at h2
      have e2 : stageB.data.toList = stageN 1 := rfl
      rw [e2, decide_eq_true rfl]
      unfold keep
      rw [h2]
      rfl
    · rw [e]
      have e2 : (nameB y).data.toList = blobN y.1 y.2 := rfl
      have hr := (blobOf_some (blobOf_blobN hy)).2.2
      rw [e2, decide_eq_false (fun e3 => stageB_ne hy (by unfold stageB nameB; rw [e3]))]
      unfold keep
      rw [hr]
      rfl
  unfold stagesL under
  rw [filter_one hnd hp]
  have hm : stageN 1 ∈ (namesS s).map (·.data.toList) ↔ hasF stageB s.fs = true := by
    rw [← names_of h.sorted, hnm]
    constructor
    · intro hx
      obtain ⟨n, hn, e⟩ := List.mem_map.1 hx
      have : n = stageB := ByteArray.ext (Array.toList_inj.1 e)
      rw [← this]; exact hn
    · intro hx
      exact List.mem_map.2 ⟨stageB, hx, rfl⟩
  by_cases hh : hasF stageB s.fs = true
  · rw [if_pos (hm.2 hh), if_pos hh]; rfl
  · rw [if_neg (fun h => hh (hm.1 h)), if_neg hh]; rfl

/-! ### the law's state -/
abbrev PB := Bl × ByteArray
def encP (x : PB) : List Value := [.int .u64 x.1.1, .int .u32 x.1.2, .string x.2]
theorem encP_length (x : PB) : (encP x).length = 3 := rfl
instance : Inhabited PB := ⟨((0, 0), ⟨#[]⟩)⟩
def PRow (w : World) (D : Nat) (v : Value) (M : List PB) : Prop := w.ownsRow D 40 3 v M.length (M.flatMap encP)
theorem own_keeps3 {S : Nat → Prop} {w w' : World} {D : Nat} {v : Value} {M : List PB} (h : PRow w D v M) (k : Keeps S w w') (hS : ∀ g, v.ownBlock = some g → ¬ S g) : PRow w' D v M := by
  obtain ⟨h1, h2 | ⟨g, cap, cur, rfl, h3, h4, h5⟩⟩ := h
  · exact ⟨h1, .inl h2⟩
  · exact ⟨h1, .inr ⟨g, cap, cur, rfl, h3, by rw [k.block g (Array.getElem?_eq_some_iff.1 h4).1 (hS g rfl)]; exact h4, h5⟩⟩
/-- the disk, and the row of what was answered, apart from it -/
structure Vst (w wr : World) (b : Nat) (F : Nat → Prop) (cut : Int) (s : DS) (vin : Value) (M : List PB) (n : Nat) : Prop where
  lv : Lv w wr b F cut s
  row : PRow wr w.heap.size vin M
  sep : ∀ g, vin.ownBlock = some g → ¬ F g
  inv : Inv 2000 s.fs n
  all : ∀ x ∈ M, Ok x.1 ∧ hasF (nameB x.1) s.fs = true ∧ bytesF (nameB x.1) s.fs = x.2
section
variable {w wr wj : World} {b : Nat} {F : Nat → Prop} {cut : Int} {s : DS} {vin : Value} {M : List PB} {n : Nat}
theorem Vst.below (h : Vst w wr b F cut s vin M n) (hb : Below wr.heap.size wr wj) : Vst w wj b F cut s vin M n :=
  ⟨h.lv.below hb, own_keeps3 h.row (Keeps.of_below (S := fun _ => False) hb) (fun _ _ e => e), h.sep, h.inv, h.all⟩
theorem Vst.dev {F' : Nat → Prop} {cut' : Int} {s' : DS} {n' : Nat} (h : Vst w wr b F cut s vin M n) (hbs : Bs w.heap.size wj b F' cut' s') (hk : Keeps F wr wj) (hf : ∀ i, F' i → F i ∨ wr.heap.size ≤ i) (hi : Inv 2000 s'.fs n')
    (ho : ∀ y, Ok y → hasF (nameB y) s.fs = true → hasF (nameB y) s'.fs = true ∧ bytesF (nameB y) s'.fs = bytesF (nameB y) s.fs) : Vst w wj b F' cut' s' vin M n' := by
  refine ⟨h.lv.disk hbs hk, own_keeps3 h.row hk h.sep, fun g hg hF => ?_, hi, fun x hx => ?_⟩
  · rcases hf g hF with h1 | h1
    · exact h.sep g hg h1
    · have := (World.ownsRow.lt h.row g hg).2; omega
  · obtain ⟨a1, a2, a3⟩ := h.all x hx
    obtain ⟨b1, b2⟩ := ho x.1 a1 a2
    exact ⟨a1, b1, b2.trans a3⟩
/-- started again -/
theorem v_restart (c : Int) (h : Vst w wr b F cut s vin M n) (hn : n ≤ 200) : Calls Tryz.prog 7 #[.pointer (some ⟨b, 0, none⟩), .int .i64 c] wr fun e w1 => e = .returned .nilIface ∧ ∃ F', Vst w w1 b F' c ⟨s.fs, 0, false⟩ vin M n ∧ ∀ p, Sto wr p b F → Sto w1 p b F' :=
  ((disk_dev w.heap.size).restart c h.lv.bs.ln.rep (h.inv.good (by omega) (by omega)) h.lv.bs.ln.vars).mono (by
    rintro e w1 ⟨⟨ev, F', rfl, he, hr, hk, hf⟩, -⟩
    rcases he with ⟨-, rfl⟩ | ⟨h0, -⟩
    · exact ⟨rfl, F', h.dev (h.lv.bs.dev hr hk hf) hk hf h.inv (fun y _ hy => ⟨hy, rfl⟩), fun p hp => hp.dev hk hf⟩
    · exact absurd rfl h0)
/-- opened, with power -/
theorem v_open (h : Vst w wr b F (-1) ⟨s.fs, 0, false⟩ vin M n) (hn : n ≤ 200) : Calls Tryz.prog 8 #[.pointer (some ⟨b, 0, none⟩)] wr fun e w1 => ∃ p F' s', e = .returned (.tuple #[.pointer (some ⟨p, 0, none⟩), .nilIface]) ∧ Vst w w1 b F' (-1) s' vin M n ∧ Sto w1 p b F' ∧ s'.dead = false ∧ hasF stageB s'.fs = false := by
  have hg : DiskC.Good s.fs := h.inv.good (by omega) (by omega)
  have hos : openS (-1) ⟨s.fs, 0, false⟩ = sweepS (-1) ((stagesL ⟨s.fs, 0, false⟩).map str) ⟨s.fs, 0, false⟩ := by unfold openS; rw [if_neg (by show ¬ (false = true); decide)]
  rw [stages_is h.inv rfl] at hos
  obtain ⟨s2, e1, e2, e3, e4, e5⟩ := sweep_inv (cut := -1) (s := ⟨s.fs, 0, false⟩) h.inv rfl rfl
  rw [e1] at hos
  refine (open_any h.lv.bs hg (by have := h.inv.len; have : s.fs.length ≤ n + 1 := this; show s.fs.length ≤ 300; omega) (Nat.zero_le _)).mono ?_
  rintro e w1 ⟨F', hb, hk, hf, hx⟩
  rw [hos] at hb hx
  rcases hx with ⟨-, p, rfl, -, hs⟩ | ⟨hne, -⟩
  · exact ⟨p, F', s2, rfl, h.dev hb hk hf e2 (fun y hy hh => by
      have := e5 _ (stageB_ne hy).symm
      exact ⟨this.1.trans hh, this.2⟩), hs, e3, e4⟩
  · exact absurd rfl hne
/-- what was answered is there -/
theorem v_get {p : Nat} {x : PB} (h : Vst w wr b F cut s vin M n) (hp : Sto wr p b F) (hd : s.dead = false) (hn : n ≤ 200) (hx : x ∈ M) : Calls Tryz.prog 9 #[.pointer (some ⟨p, 0, none⟩), bV x.1] wr fun e w1 => e = .returned (.tuple #[.string x.2, .nilIface]) ∧ Below wr.heap.size wr w1 := by
  obtain ⟨a1, a2, a3⟩ := h.all x hx
  have hs : x.1.1 = sumN (bytesF (nameB x.1) s.fs).data.toList := by
    rcases h.inv.kind _ a2 with e | ⟨y, hy, e, h3⟩
    · exact absurd e.symm (stageB_ne a1)
    · rw [nameB_inj a1 hy e, h3, ← nameB_inj a1 hy e]; rfl
  have hr := get_has a1 hd a2 hs
  refine (get_any x.1 h.lv.bs hp a1.sum a1.hi (h.inv.good (by omega) (by omega))).mono ?_
  rintro e w1 ⟨ev, rfl, hde, hb⟩
  rw [hr] at hde
  rcases hde with ⟨-, rfl⟩ | ⟨h0, -⟩
  · exact ⟨by rw [hr, a3], hb⟩
  · exact absurd rfl h0
/-- put: whole, or the power is lost -/
def VPut (w wr : World) (b p : Nat) (cut : Int) (bytes : ByteArray) (vin : Value) (M : List PB) (n : Nat) (e : Ending) (w1 : World) : Prop :=
  (∃ x F' s', e = .returned (.tuple #[bV x, .nilIface]) ∧ Vst w w1 b F' cut s' vin M (n + 1) ∧ s'.dead = false ∧ Ok x ∧ hasF (nameB x) s'.fs = true ∧ bytesF (nameB x) s'.fs = bytes) ∨
  (∃ x F' s' f, e = .returned (.tuple #[bV x, .iface 84 (.pointer (some ⟨f, 0, none⟩))]) ∧ Vst w w1 b F' cut s' vin M (n + 1) ∧ s'.dead = true)
theorem v_put {p : Nat} (bytes : ByteArray) (h : Vst w wr b F cut s vin M n) (hp : Sto wr p b F) (hd : s.dead = false) (hc : s.count = 0) (hst : hasF stageB s.fs = false) (hn : n ≤ 200) (hz : bytes.size ≤ 2000) :
    Calls Tryz.prog 10 #[.pointer (some ⟨p, 0, none⟩), .string bytes] wr (VPut w wr b p cut bytes vin M n) := by
  have hg : DiskC.Good s.fs := h.inv.good (by omega) (by omega)
  refine (put_any bytes h.lv.bs hp hg (by have := h.inv.len; omega) (by omega) (by omega)).mono ?_
  rintro e w1 ⟨L, hL, ev, F', rfl, hde, hbs, hk, hf⟩
  have hnm : namesS s = s.fs.map (·.1) := by unfold namesS; rw [hd]; rfl
  have hL := hL hd (by omega)
  rw [hnm] at hL
  have q := put_all (cut := cut) h.inv (by omega) hd (by omega) hz hst hL
  rcases q.res with ⟨e1, e2, e3, e4, e5, e6, e7⟩ | ⟨e1, e2⟩
  · rw [e1] at hde
    rcases hde with ⟨-, rfl⟩ | ⟨hne, -⟩
    · exact .inl ⟨_, F', _, rfl, h.dev hbs hk hf q.inv q.old, e2, e3, e4, e5⟩
    · exact absurd rfl hne
  · rw [e1] at hde
    rcases hde with ⟨h0, -⟩ | ⟨-, f, rfl, -⟩
    · cases h0
    · exact .inr ⟨_, F', _, f, rfl, h.dev hbs hk hf q.inv q.old, e2⟩
/-- the row has one more -/
theorem Vst.grown (h : Vst w wr b F cut s vin M n) {wa w1 : World} {vin' : Value} {x : PB} (hb : Below wr.heap.size wr wa) (hg : wa.grownBy w1 vin.ownBlock) (hrow : PRow w1 w.heap.size vin' (M ++ [x])) (hat : vin'.ownBlock = vin.ownBlock ∨ ∃ g, vin'.ownBlock = some g ∧ wr.heap.size ≤ g)
    (hx : Ok x.1 ∧ hasF (nameB x.1) s.fs = true ∧ bytesF (nameB x.1) s.fs = x.2) : Vst w w1 b F cut s vin' (M ++ [x]) n := by
  have hk : Keeps (fun i => vin.ownBlock = some i) wr w1 := (Keeps.of_below (S := fun i => vin.ownBlock = some i) hb).trans ⟨hg.os, hg.tape, hg.output, hg.size, fun k hk hs => hg.block k hk (fun e => hs e.symm)⟩
  have hSB : ∀ i, vin.ownBlock = some i → w.heap.size ≤ i := fun i hi => (World.ownsRow.lt h.row i hi).1
  refine ⟨⟨h.lv.bs.keeps hk (fun i hF hS => h.sep i hS hF) hSB, h.lv.low.trans (hk.toBelow hSB h.lv.bs.ln.hw)⟩, hrow, fun g e hF => ?_, h.inv, fun y hy => ?_⟩
  · rcases hat with e2 | ⟨g2, e2, h2⟩
    · exact h.sep g (e2.symm.trans e) hF
    · have h1 := (disk_dev w.heap.size).lt h.lv.bs.ln.rep g hF
      rw [e2] at e
      cases e
      omega
  · rcases List.mem_append.1 hy with hy | hy
    · exact h.all y hy
    · rw [List.mem_singleton.1 hy]; exact hx
theorem v_new (w : World) (hv : VarsB w) : Calls Tryz.prog 6 #[.int .i64 (-1)] w fun e w1 => ∃ b F, e = .returned (.pointer (some ⟨b, 0, none⟩)) ∧ Vst w w1 b F (-1) ⟨[], 0, false⟩ (.slice none 0 0) [] 0 :=
  (new_lv (-1) w hv).mono (by
    rintro e w1 ⟨b, F, rfl, h⟩
    exact ⟨b, F, rfl, h, World.ownsRow_nil _ _ _ _, (fun g h => by cases h), Inv.nil 2000 0, fun x hx => by cases hx⟩)
theorem Vst.vars (h : Vst w wr b F cut s vin M n) : VarsB wr := ⟨h.lv.bs.ln.vars, h.lv.bs.tab⟩
theorem Vst.pair (h : Vst w wr b F cut s vin M n) {x y : PB} (hx : x ∈ M) (hy : y ∈ M) : x.1 = y.1 ↔ x.2 = y.2 := by
  obtain ⟨a1, a2, a3⟩ := h.all x hx
  obtain ⟨b1, b2, b3⟩ := h.all y hy
  constructor
  · intro e
    rw [← a3, ← b3, e]
  · intro e
    exact h.inv.one _ _ a1 b1 a2 b2 (by rw [a3, b3, e])
theorem Vst.at (h : Vst w wr b F cut s vin M n) : ∃ av cp, vin = .slice av M.length cp ∧ ∀ i, i < M.length → ∃ g, av = some ⟨g, 0, none⟩ ∧ g < wr.heap.size ∧ wr.cell? ⟨g, i * 3, none⟩ = some (.int .u64 (M[i]!).1.1) ∧ wr.cell? ⟨g, i * 3 + 1, none⟩ = some (.int .u32 (M[i]!).1.2) ∧ wr.cell? ⟨g, i * 3 + 2, none⟩ = some (.string (M[i]!).2) := by
  have hrow := h.row
  unfold PRow at hrow
  rcases hrow.2 with ⟨e, h0⟩ | ⟨g, cp, cur, rfl, hbase, hblk, _⟩
  · exact ⟨none, 0, by rw [h0]; exact e, fun i hi => by omega⟩
  · refine ⟨_, cp, rfl, fun i hi => ⟨g, rfl, (Array.getElem?_eq_some_iff.1 hblk).1, ?_⟩⟩
    have key : ∀ c, c < 3 → wr.cell? ⟨g, i * 3 + c, none⟩ = some ((encP M[i]!)[c]!) := fun c hc => by
      rw [hrow.cellAt (i * 3 + c) (by omega), RowKC.flat_get encP 3 encP_length M _ (by omega), show (i * 3 + c) / 3 = i from by omega, show (i * 3 + c) % 3 = c from by omega]
    exact ⟨key 0 (by omega), key 1 (by omega), key 2 (by omega)⟩
end

/-- append to a row of one's own, at a step of a region that draws: and where the new row lies -/
theorem step_append_at {P : Program} {w : World} {ops : Array Oper} {o : Oper} {a : Act} {K : Act → World → Prop} {Q : Exit → Act → World → Prop} {E : Prop} (hgd : o.guard = none) (s x : Operand) (t : TypeId)
    (ho : o.op = .call { callee := .builtin .append, args := #[s, x], argTypes := #[t, t] })
    (base : Nat) (e : TypeId) (i : TypeInfo) (z : Value) (size bytes : Nat) (ht : P.underlying t = some (.slice e)) (hi : P.info? e = some i) (hz : i.zero = some z)
    (hsize : i.size = size) (hby : i.bytes = bytes) (hzs : z.cells.size = size) (hsz : 0 < size)
    (v : Value) (n : Nat) (xs : List Value) (hs : a.eval s = v) (hown : w.ownsRow base e size v n xs)
    (ad : Addr) (m c : Nat) (news : List Value) (hx : a.eval x = .slice (some ad) m c) (hl : news.length = m * size) (hnews : ∀ j u, news[j]? = some u → w.cell? (ad.add j) = some u) (h1 : ∀ u ∈ news, u.oneCell' = true)
    (h63 : n + m ≤ maxLen) (hbytes : (n + m) * bytes ≤ 140737488355328) (hbase : base ≤ w.heap.size)
    (h : ∀ v' w', w'.ownsRow base e size v' (n + m) (xs ++ news) → w.grownBy w' v.ownBlock → (v'.ownBlock = v.ownBlock ∨ v'.ownBlock = some w.heap.size) → K (a.put o.dst v') w') :
    if Region.wanted o (yielded ops a.tmps) = true then Oper.wp P o a w K Q else E := by
  have hw : Region.wanted o (yielded ops a.tmps) = true := by simp [Region.wanted, hgd]
  rw [if_pos hw]
  obtain ⟨v', w', hr, h2, h3, _, h5⟩ := run_append_own_at (P := P) w base t o.type e i z size bytes ht hi hz hsize hby hzs hsz v n xs hown ad m c news hl hnews h1 h63 hbytes hbase
  unfold Oper.wp execOp
  simp only [ho, resolve, invoke, builtin, Sem.run_bind, Sem.run_pure, Result.andThen_ok, List.map_toArray, List.map_cons, List.map_nil, hs, hx, hr]
  exact h v' w' h2 h3 h5
abbrev pO (x : Bl) (q : ByteArray) : Obj := .cells #[.int .u64 x.1, .int .u32 x.2, .string q] 40
theorem pb_ones (x : PB) : ∀ u ∈ encP x, u.oneCell' = true := by
  intro u hu
  simp only [encP, List.mem_cons, List.not_mem_nil, or_false] at hu
  rcases hu with rfl | rfl | rfl <;> rfl
theorem p_new (w : World) (x : Bl) (q : ByteArray) : ∀ j u, (encP (x, q))[j]? = some u → ((w.alloc (pO x q)).drew).cell? ((⟨w.heap.size, 0, none⟩ : Addr).add j) = some u := fun j u hu => cells_new w [.int .u64 x.1, .int .u32 x.2, .string q] 40 j u hu
theorem drewB (w : World) : Below w.heap.size w w.drew := ⟨rfl, rfl, rfl, Nat.le_refl _, fun _ _ => rfl⟩
theorem and_low7 (a : Int) : ∃ n : Int, bits .and .i64 a 127 = n := ⟨_, rfl⟩
theorem info_pb : (Tryz.prog.info? 40).map (fun i => (i.zero, i.size, i.bytes)) = some (some (.agg #[.int .u64 0, .int .u32 0, .string ⟨#[]⟩]), 3, 32) := by kernel_rfl
theorem getD_bang {M : List PB} {i : Nat} (h : i < M.length) : M[i]! ∈ M := by rw [getElem!_pos M i h]; exact List.getElem_mem h
set_option maxHeartbeats 16000000 in
set_option maxRecDepth 100000 in
theorem very_any (a0 a1 : Option Addr) (len0 cap0 len1 cap1 : Nat) (z0 : List ByteArray) (z1 : List Int) (w : World) (hv : VarsB w)
    (ht : ∀ i, i < len0 → ∃ g o, a0 = some ⟨g, o, none⟩ ∧ g < w.heap.size ∧ w.cell? ⟨g, o + i, none⟩ = some (.string (z0.getD i ByteArray.empty)))
    (hi : ∀ i, i < len1 → ∃ g o, a1 = some ⟨g, o, none⟩ ∧ g < w.heap.size ∧ w.cell? ⟨g, o + i, none⟩ = some (.int .i64 (z1.getD i 0)))
    (hm0 : len0 ≤ 9223372036854775807) (hm1 : len1 ≤ 9223372036854775806) :
    Calls Tryz.prog 3 #[.slice a0 len0 cap0, .slice a1 len1 cap1] w fun e w' => e = .returned (.bool true) ∧ Below w.heap.size w w' := by
  have HV := Lib.hid hv
  have HT := Lib.hid ht
  have HI := Lib.hid hi
  clear hv ht hi
  obtain ⟨ti, hti, hz0, hz1, hz2⟩ := info_parts info_pb
  have HN := Lib.hid (v_new w HV.out)
  go_enter Tryz.func3, Tryz.ntmps3
  go_wp2_with fail
  refine HN.out.mono ?_
  rintro e w1 ⟨b, F, rfl, hc⟩
  have HC1 := Lib.hid hc
  clear hc HN
  go_wp2_with fail
  go_loopw [6, 7] (fun vin vi wr => ∃ (i : Nat) (F : Nat → Prop) (cut : Int) (s : DS) (M : List PB), vi = .int .i64 i ∧ i ≤ len0 ∧ i ≤ 40 ∧ Hid (Vst w wr b F cut s vin M i) ∧ Hid (M.length ≤ i)) (fun _ vi _ => len0 - (intOf vi).toNat)
  case atStart => exact ⟨0, F, -1, ⟨[], 0, false⟩, [], rfl, Nat.zero_le _, by omega, HC1, Lib.hid (Nat.zero_le _)⟩
  case round =>
    obtain ⟨i, F, cut, s, M, rfl, hi, hi2, HC, HML⟩ := hrel
    rename World => wr
    have hwi : IntKind.i64.wrap (i : Int) = i := IntWalk.i64_in _ ⟨by omega, by omega⟩
    go_upto_region 4 with fail
    go_cut [25] from 18 to 25 (fun v25 wx => v25 = .bool (decide (i < len0 ∧ i < 40)) ∧ wr = wx)
    case first =>
      by_cases hlt : i < len0
      · have hd1 : decide (i < len0) = true := decide_eq_true hlt
        by_cases h40 : i < 40
        · have hd2 : decide ((i : Int) < 40) = true := decide_eq_true (by omega)
          have HDC : Hid (decide (i < len0 ∧ i < 40) = true) := Lib.hid (decide_eq_true ⟨hlt, h40⟩)
          go_wp2_with fail
          go_meet
          case rel => exact ⟨by rw [HDC.out], rfl⟩
        · have hd2 : decide ((i : Int) < 40) = false := decide_eq_false (by omega)
          have HDC : Hid (decide (i < len0 ∧ i < 40) = false) := Lib.hid (decide_eq_false (fun h => h40 h.2))
          go_wp2_with fail
          go_meet
          case rel => exact ⟨by rw [HDC.out], rfl⟩
      · have hd1 : decide (i < len0) = false := decide_eq_false hlt
        have HDC : Hid (decide (i < len0 ∧ i < 40) = false) := Lib.hid (decide_eq_false (fun h => hlt h.1))
        go_wp2_with fail
        go_meet
        case rel => exact ⟨by rw [HDC.out], rfl⟩
    case rest =>
      obtain ⟨rfl, rfl⟩ := hcut
      by_cases hin : i < len0 ∧ i < 40
      · obtain ⟨hlt, h40⟩ := hin
        have hdin : decide (i < len0 ∧ i < 40) = true := decide_eq_true ⟨hlt, h40⟩
        rw [hdin]
        obtain ⟨tb, off, rfl, htb, hcell⟩ := HT.out i hlt
        have HCELL := Lib.hid hcell
        have HTB := Lib.hid htb
        have hcl : wr.cell? ⟨tb, off + i, none⟩ = some (.string (z0.getD i ByteArray.empty)) := by rw [HC.out.lv.low.cell htb]; exact hcell
        generalize z0.getD i ByteArray.empty = q at *
        clear hcell htb hdin
        by_cases hx : 2000 < q.size
        · have hd3 : decide ((2000 : Int) < (q.size : Int)) = true := decide_eq_true (by omega)
          go_wp2_with fail
          go_roundw
          case rel => exact ⟨i + 1, F, cut, s, M, by go_num, by omega, by omega, Lib.hid ⟨HC.out.lv, HC.out.row, HC.out.sep, HC.out.inv.mono (by omega), HC.out.all⟩, Lib.hid (by have := HML.out; omega)⟩
          case measure => simp [intOf]; omega
        · have hd3 : decide ((2000 : Int) < (q.size : Int)) = false := decide_eq_false (by omega)
          have HQ : Hid (q.size ≤ 2000) := Lib.hid (by omega)
          clear hx
          go_upto_if 37 with fail
          go_cut [8] from 34 to 42 (fun v8 wx => ∃ n : Int, v8 = .int .i64 n ∧ wr = wx)
          case first =>
            by_cases hlk : i < len1
            · have hd4 : decide (i < len1) = true := decide_eq_true hlk
              obtain ⟨ib, io, rfl, hib, hic⟩ := HI.out i hlk
              have hil : wr.cell? ⟨ib, io + i, none⟩ = some (.int .i64 (z1.getD i 0)) := by rw [HC.out.lv.low.cell hib]; exact hic
              generalize z1.getD i 0 = zz at *
              obtain ⟨nn, hnn⟩ := and_low7 zz
              go_wp2_with fail
              go_meet
              case rel => exact ⟨_, rfl, rfl⟩
            · have hd4 : decide (i < len1) = false := decide_eq_false hlk
              go_wp2_with fail
              go_meet
              case rel => exact ⟨_, rfl, rfl⟩
          case rest =>
            obtain ⟨n, rfl, rfl⟩ := hcut
            clear hd3
            go_wp2_with fail
            refine (v_restart (-1) HC.out (by omega)).mono ?_
            rintro e w2 ⟨rfl, F2, h2, -⟩
            have HC2 := Lib.hid h2
            clear h2
            go_wp2_with fail
            refine (v_open HC2.out (by omega)).mono ?_
            rintro e w3 ⟨p, F3, s3, rfl, h3, hp3, hd3, hst3⟩
            have HC3 := Lib.hid h3
            have HP3 := Lib.hid hp3
            have HD3 := Lib.hid hd3
            have HS3 := Lib.hid hst3
            obtain ⟨av, cv, hvin, -⟩ := h3.at
            clear h3 hp3 hd3 hst3 hcl
            subst hvin
            have hml := HML.out
            go_wp2_with fail
            go_loopw [11] (fun vk wx => ∃ k : Nat, vk = .int .i64 k ∧ k ≤ M.length ∧ Hid (Below w3.heap.size w3 wx)) (fun vk _ => M.length - (intOf vk).toNat)
            case atStart => exact ⟨0, rfl, Nat.zero_le _, Lib.hid (Below.refl _ _)⟩
            case round =>
              obtain ⟨k, rfl, hk, HBX⟩ := hrel
              rename World => wx
              have HCX := Lib.hid (HC3.out.below HBX.out)
              have hwk : IntKind.i64.wrap (k : Int) = k := IntWalk.i64_in _ ⟨by omega, by omega⟩
              by_cases hlk : k < M.length
              · have hdk : decide (k < M.length) = true := decide_eq_true hlk
                obtain ⟨av2, cv2, e2, hat⟩ := HCX.out.at
                cases e2
                obtain ⟨g, rfl, hg, g0, g1, g2⟩ := hat k hlk
                have HGET := Lib.hid (v_get HCX.out (HP3.out.below HBX.out) HD3.out (by omega) (getD_bang hlk))
                clear hat
                generalize M[k]! = x at *
                have hxx : (x.2.toList == x.2.toList) = true := by simp
                go_wp2_with fail
                refine HGET.out.mono ?_
                rintro e w5 ⟨rfl, hb5⟩
                have y2 := (hb5.cell hg).trans g2
                have HB5 := Lib.hid (HBX.out.trans (hb5.mono HBX.out.size))
                clear hb5 g0 g1 g2
                go_wp2_with fail
                go_roundw
                case rel => exact ⟨k + 1, by go_num, by omega, HB5⟩
                case measure => simp [intOf]; omega
              · have hdk : decide (k < M.length) = false := decide_eq_false hlk
                have HPX := Lib.hid (HP3.out.below HBX.out)
                go_wp2_with fail
                refine (v_restart n HCX.out (by omega)).mono ?_
                rintro e w6 ⟨rfl, F6, h6, hp6⟩
                have HC6 := Lib.hid h6
                have HP6 := Lib.hid (hp6 _ HPX.out)
                have hcl6 : w6.cell? ⟨tb, off + i, none⟩ = some (.string q) := by rw [h6.lv.low.cell HTB.out]; exact HCELL.out
                clear h6 hp6 hlk hk
                go_wp2_with fail
                refine (v_put q HC6.out HP6.out rfl rfl HS3.out (by omega) HQ.out).mono ?_
                rintro e w7 (⟨x, F7, s7, rfl, h7, hd7, ho7, hh7, hb7⟩ | ⟨x, F7, s7, f, rfl, h7, hd7⟩)
                · have HBA := Lib.hid (alB w7 (bO x))
                  have HC7 := Lib.hid (h7.below HBA.out)
                  have HX7 := Lib.hid (And.intro ho7 (And.intro hh7 hb7))
                  have HRL : Hid (∀ g, (Value.slice av M.length cv).ownBlock = some g → w.heap.size ≤ g ∧ g < w7.heap.size) := Lib.hid (fun g hg => World.ownsRow.lt h7.row g hg)
                  have HDE : Hid (∀ W, Below (w7.alloc (bO x)).heap.size (w7.alloc (bO x)) W → Calls Tryz.prog 11 #[.pointer (some ⟨b, 0, none⟩)] W fun e w' => e = .returned (.bool false) ∧ Below W.heap.size W w') := Lib.hid (fun W g => by
                    have := (disk_dev w.heap.size).dead (HC7.out.below g).lv.bs.ln.rep (HC7.out.inv.good (by omega) (by omega)) (HC7.out.below g).lv.bs.ln.vars
                    rwa [hd7] at this)
                  obtain ⟨x0, x1⟩ := b_cells (heap_alloc_new w7 (bO x))
                  clear h7 hd7 ho7 hh7 hb7 hcl6
                  generalize hW7 : w7.alloc (bO x) = W7 at *
                  go_upto_region 24 with fail
                  go_cut [101] from 97 to 101 (fun v101 wy => v101 = .bool false ∧ Hid (Below W7.heap.size W7 wy))
                  case first =>
                    go_region_with
                      (go_at_call 11
                       refine (HDE.out W7.drew (drewB W7)).mono ?_
                       rintro e w8 ⟨rfl, hb⟩
                       have HB8 := Lib.hid ((drewB W7).trans (hb.mono (drewB W7).size))
                       clear hb)
                    all_goals (go_wp2_with fail)
                    all_goals (go_meet)
                    all_goals (case rel => exact ⟨rfl, HB8⟩)
                  case rest =>
                    obtain ⟨rfl, HBX8⟩ := hcut
                    have HC8 := Lib.hid (HC7.out.below HBX8.out)
                    have hcl8 : wc.cell? ⟨tb, off + i, none⟩ = some (.string q) := by rw [HC8.out.lv.low.cell HTB.out]; exact HCELL.out
                    have y0 := (HBX8.out.cell (World.block_lt_of_cell? _ _ x0)).trans x0
                    have y1 := (HBX8.out.cell (World.block_lt_of_cell? _ _ x1)).trans x1
                    have htbw : tb < wc.heap.size := World.block_lt_of_cell? _ _ hcl8
                    have hxw : w7.heap.size < wc.heap.size := World.block_lt_of_cell? _ _ y0
                    clear HDE HBX8 x0 x1 hW7
                    have HBO : Hid (Below wc.heap.size wc (wc.alloc (pO x q)).drew) := Lib.hid ((alB wc (pO x q)).trans ((drewB _).mono (alB wc (pO x q)).size))
                    have HOWN : Hid (((wc.alloc (pO x q)).drew).ownsRow w.heap.size 40 3 (.slice av M.length cv) M.length (M.flatMap encP)) := Lib.hid (own_keeps3 HC8.out.row (Keeps.of_below (S := fun _ => False) HBO.out) (fun _ _ e => e))
                    have HSRC := Lib.hid (p_new wc x q)
                    have HBASE : Hid (w.heap.size ≤ ((wc.alloc (pO x q)).drew).heap.size) := Lib.hid (Nat.le_trans HC8.out.lv.bs.ln.hw HBO.out.size)
                    have HAFT : Hid (∀ w9, ((wc.alloc (pO x q)).drew).grownBy w9 (Value.slice av M.length cv).ownBlock → w9.cell? ⟨tb, off + i, none⟩ = some (.string q) ∧ w9.cell? ⟨w7.heap.size, 0, none⟩ = some (.int .u64 x.1) ∧ w9.cell? ⟨w7.heap.size, 1, none⟩ = some (.int .u32 x.2)) := Lib.hid (fun w9 hg => by
                      have k1 : w9.heap[tb]? = wc.heap[tb]? := (hg.block tb (Nat.lt_of_lt_of_le htbw HBO.out.size) (fun e => by have := (HRL.out _ e.symm).1; have := HTB.out; omega)).trans (HBO.out.block tb htbw)
                      have k2 : w9.heap[w7.heap.size]? = wc.heap[w7.heap.size]? := (hg.block _ (Nat.lt_of_lt_of_le hxw HBO.out.size) (fun e => by have := (HRL.out _ e.symm).2; omega)).trans (HBO.out.block _ hxw)
                      exact ⟨(World.cell?_of_block (a := ⟨tb, off + i, none⟩) k1).trans hcl8, (World.cell?_of_block (a := ⟨w7.heap.size, 0, none⟩) k2).trans y0, (World.cell?_of_block (a := ⟨w7.heap.size, 1, none⟩) k2).trans y1⟩)
                    have HMX : Hid (M.length ≤ 40) := Lib.hid (by omega)
                    go_upto_region 27 with fail
                    go_region_held3 (fun w' => w'.cell? ⟨tb, off + i, none⟩ = some (.string q) ∧ w'.cell? ⟨w7.heap.size, 0, none⟩ = some (.int .u64 x.1) ∧ w'.cell? ⟨w7.heap.size, 1, none⟩ = some (.int .u32 x.2))
                      (first | exact ⟨hcl8, y0, y1⟩ | exact ⟨VerC.cell_on _ hcl8, VerC.cell_on _ y0, VerC.cell_on _ y1⟩ | assumption | fail)
                      (first
                        | (refine step_append_at rfl _ _ _ (by rfl) w.heap.size 40 ti _ 3 32 Tryz.underlying26 hti hz0 hz1 hz2 rfl (by decide) (.slice av M.length cv) M.length (M.flatMap encP) (by simp [Act.eval]) HOWN.out ⟨wc.heap.size, 0, none⟩ 1 1 (encP (x, q)) (by simp [Act.eval]) rfl HSRC.out (pb_ones _) (by unfold maxLen; have := HMX.out; omega) (by have := HMX.out; omega) HBASE.out ?_
                           intro v' w9 hown9 hg9 hat9
                           have hS9 : w9.cell? ⟨tb, off + i, none⟩ = some (.string q) ∧ w9.cell? ⟨w7.heap.size, 0, none⟩ = some (.int .u64 x.1) ∧ w9.cell? ⟨w7.heap.size, 1, none⟩ = some (.int .u32 x.2) := HAFT.out w9 hg9
                           have HX9 := Lib.hid (And.intro hown9 (And.intro hg9 hat9))
                           clear hown9 hg9 hat9)
                        | fail)
                    all_goals
                      have HC9 : Hid (Vst w w9 b F7 n s7 v' (M ++ [(x, q)]) (i + 1)) := Lib.hid (by
                        obtain ⟨hown9, hg9, hat9⟩ := HX9.out
                        refine HC8.out.grown HBO.out hg9 ?_ (hat9.imp id (fun h => ⟨_, h, HBO.out.size⟩)) HX7.out
                        unfold PRow
                        rw [List.length_append, List.flatMap_append]
                        simpa using hown9)
                      clear HX9 hS9 HAFT HOWN HSRC HBASE
                      go_wp2_with fail
                      go_roundw
                      case rel => exact ⟨i + 1, F7, n, s7, M ++ [(x, q)], by go_num, by omega, by omega, HC9, Lib.hid (by simp; omega)⟩
                      case measure => simp [intOf]; omega
                · have HBA := Lib.hid (alB w7 (bO x))
                  have HC7 := Lib.hid (h7.below HBA.out)
                  have HDE : Hid (∀ W, Below (w7.alloc (bO x)).heap.size (w7.alloc (bO x)) W → Calls Tryz.prog 11 #[.pointer (some ⟨b, 0, none⟩)] W fun e w' => e = .returned (.bool true) ∧ Below W.heap.size W w') := Lib.hid (fun W g => by
                    have := (disk_dev w.heap.size).dead (HC7.out.below g).lv.bs.ln.rep (HC7.out.inv.good (by omega) (by omega)) (HC7.out.below g).lv.bs.ln.vars
                    rwa [hd7] at this)
                  clear h7 hd7 hcl6
                  generalize hW7 : w7.alloc (bO x) = W7 at *
                  go_upto_region 24 with fail
                  go_cut [101] from 97 to 101 (fun v101 wy => v101 = .bool false ∧ Hid (Below W7.heap.size W7 wy))
                  case first =>
                    go_region_with
                      (go_at_call 11
                       refine (HDE.out W7.drew (drewB W7)).mono ?_
                       rintro e w8 ⟨rfl, hb⟩
                       have HB8 := Lib.hid ((drewB W7).trans (hb.mono (drewB W7).size))
                       clear hb)
                    all_goals (go_wp2_with fail)
                    all_goals (go_meet)
                    all_goals (case rel => exact ⟨rfl, HB8⟩)
                  case rest =>
                    obtain ⟨rfl, HBX8⟩ := hcut
                    have HC8 := Lib.hid (HC7.out.below HBX8.out)
                    clear HDE HBX8 hW7
                    go_wp2_with fail
                    go_roundw
                    case rel => exact ⟨i + 1, F7, n, s7, M, by go_num, by omega, by omega, HC8, Lib.hid (by omega)⟩
                    case measure => simp [intOf]; omega
      · have hdin : decide (i < len0 ∧ i < 40) = false := decide_eq_false hin
        rw [hdin]
        obtain ⟨av, cv, hvin, -⟩ := HC.out.at
        subst hvin
        have hml := HML.out
        clear HT HI hdin hin
        go_wp2_with fail
        go_loopw [15] (fun vi wx => ∃ k : Nat, vi = .int .i64 k ∧ k ≤ M.length ∧ Hid (Below wr.heap.size wr wx)) (fun vi _ => M.length - (intOf vi).toNat)
        case atStart => exact ⟨0, rfl, Nat.zero_le _, Lib.hid (Below.refl _ _)⟩
        case round =>
          obtain ⟨k, rfl, hk, HBX⟩ := hrel
          rename World => wx
          have hwk : IntKind.i64.wrap (k : Int) = k := IntWalk.i64_in _ ⟨by omega, by omega⟩
          by_cases hlk : k < M.length
          · have hdk : decide (k < M.length) = true := decide_eq_true hlk
            go_wp2_with fail
            go_loopw [16] (fun vj wy => ∃ j : Nat, vj = .int .i64 j ∧ j ≤ k ∧ Hid (Below wr.heap.size wr wy)) (fun vj _ => k - (intOf vj).toNat)
            case atStart => exact ⟨0, rfl, Nat.zero_le _, HBX⟩
            case round =>
              obtain ⟨j, rfl, hj, HBY⟩ := hrel
              rename World => wy
              have hwj : IntKind.i64.wrap (j : Int) = j := IntWalk.i64_in _ ⟨by omega, by omega⟩
              by_cases hlj : j < k
              · have hdj : decide (j < k) = true := decide_eq_true hlj
                have hCY := HC.out.below HBY.out
                obtain ⟨av2, cv2, e2, hat⟩ := hCY.at
                cases e2
                obtain ⟨g, rfl, hg, g0, g1, g2⟩ := hat k hlk
                obtain ⟨g', e3, -, f0, f1, f2⟩ := hat j (by omega)
                cases e3
                have hpair := hCY.pair (getD_bang hlk) (getD_bang (by omega : j < M.length))
                clear hat hCY
                generalize M[k]! = x at *
                generalize M[j]! = y at *
                have heq := eq_bl x.1 y.1
                have hst := beq_bytes x.2 y.2
                by_cases hxy : x.2 = y.2
                · have d1 : decide (x.1 = y.1) = true := decide_eq_true (hpair.2 hxy)
                  have d2 : decide (x.2 = y.2) = true := decide_eq_true hxy
                  rw [d1] at heq
                  rw [d2] at hst
                  clear d1 d2 hxy hpair
                  go_upto_region 34 with fail
                  go_quiet (fail)
                  go_wp2_with fail
                  go_roundw
                  case rel => exact ⟨j + 1, by go_num, by omega, Lib.hid (below_drewN HBY.out _)⟩
                  case measure => simp [intOf]; omega
                · have d1 : decide (x.1 = y.1) = false := decide_eq_false (fun e => hxy (hpair.1 e))
                  have d2 : decide (x.2 = y.2) = false := decide_eq_false hxy
                  rw [d1] at heq
                  rw [d2] at hst
                  clear d1 d2 hxy hpair
                  go_upto_region 34 with fail
                  go_quiet (fail)
                  go_wp2_with fail
                  go_roundw
                  case rel => exact ⟨j + 1, by go_num, by omega, Lib.hid (below_drewN HBY.out _)⟩
                  case measure => simp [intOf]; omega
              · have hdj : decide (j < k) = false := decide_eq_false hlj
                go_wp2_with fail
                go_roundw
                case rel => exact ⟨k + 1, by go_num, by omega, HBY⟩
                case measure => simp [intOf]; omega
          · have hdk : decide (k < M.length) = false := decide_eq_false hlk
            go_wp2_with fail
            refine (alive_any wx (HC.out.vars.below HBX.out)).mono ?_
            rintro e w7 ⟨rfl, hb7⟩
            have HB7 := Lib.hid ((HC.out.lv.low.trans (HBX.out.mono HC.out.lv.low.size)).trans (hb7.mono (Nat.le_trans HC.out.lv.low.size HBX.out.size)))
            clear hb7
            go_wp2_with fail
            go_ret
            exact ⟨rfl, HB7.out⟩
theorem blk_of {w : World} {b o : Nat} {v : Value} (h : w.cell? ⟨b, o, none⟩ = some v) : b < w.heap.size := World.block_lt_of_cell? _ _ h
/-- a slice's texts at a plain address, where there is one at all -/
theorem texts_flat {w : World} {a : Addr} {zs : List ByteArray} (h : ∀ i, i < zs.length → w.cell? (a.add i) = some (.string (zs.getD i ByteArray.empty))) (hp : 0 < zs.length) :
    ∃ b off, a = ⟨b, off, none⟩ ∧ b < w.heap.size ∧ ∀ j, j < zs.length → w.cell? ⟨b, off + j, none⟩ = some (.string (zs.getD j ByteArray.empty)) := by
  obtain ⟨b, off, spot⟩ := a
  have hspot : spot = none := by simpa [Addr.add] using World.cell?_spot (h 0 hp)
  subst hspot
  exact ⟨b, off, rfl, blk_of (by simpa [Addr.add] using h 0 hp), fun j hj => by rw [← Go.WideShapes.add_plain]; exact h j hj⟩
end BlobC
end Go.Proofs.YtfbdhlpgklkjmaaGreatDoor
