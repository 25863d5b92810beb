/-
  Package blob's small calls, and its search: there, fault, fileOf, has, All, look.
  Package blob's look: the search among the blobs on the disk.
  Package blob's calls: write, Put, Get, Open.
  Package blob's calls: Get, Open, and the calls of no store.
-/
import Derived.Test.YtfbdhlpgklkjmaaGreatDoorBlobP
import Derived.Test.YtfbdhlpgklkjmaaGreatDoorBlobMath
import Derived.Test.YtfbdhlpgklkjmaaGreatDoorPathNames
import Derived.Test.YtfbdhlpgklkjmaaGreatDoorSumCore
import Derived.Test.YtfbdhlpgklkjmaaGreatDoorDiskR
import Derived.Test.YtfbdhlpgklkjmaaGreatDoorRowK
import Derived.Laws.AppendOwn
import Derived.OwnWalk
import Derived.Lib.QuietBelow
import Derived.Deep.RegionHeld3
import Derived.BigQuiet
import Derived.WalkMore
import Derived.ScopeJumps
import Derived.Test.YtfbdhlpgklkjmaaGreatDoorDiskSame
import Derived.Test.YtfbdhlpgklkjmaaGreatDoorPathUnder
import Derived.Test.YtfbdhlpgklkjmaaGreatDoorDiskNil
import Derived.Deep.QuietTactic
namespace Go.Proofs.YtfbdhlpgklkjmaaGreatDoor
open Go.RowKit Go.Sort
namespace BlobC
open BlobM PathM DiskM DiskC ErrC PathC StrC TextR
open VerM (B)
open DiskP (RP disk_dev)
set_option linter.unusedSimpArgs false
set_option linter.unusedVariables false

theorem tx_str (l : B) : tx l = str l := rfl
theorem tab_keeps {w w' : World} (h : Tab w) (e : w'.heap[1]? = w.heap[1]?) : Tab w' := by
  have g_pow : Tryz.prog.globalNamed "internal/strconv.uint64pow10" = some 1 := by kernel_rfl
  unfold Tab Lib.TabIs World.var? at h ⊢
  rw [g_pow] at h ⊢
  simp only [Option.bind_some] at h ⊢
  rw [e]
  exact h
/-- a disk above B, with the variables that are read -/
structure Bs (D : Nat) (w : World) (b : Nat) (F : Nat → Prop) (cut : Int) (s : DS) : Prop where
  ln : Ln D (RP D) w b F cut s
  tab : Tab w
theorem Bs.below {D : Nat} {w w' : World} {b : Nat} {F : Nat → Prop} {cut : Int} {s : DS} (h : Bs D w b F cut s) (hb : Below w.heap.size w w') : Bs D w' b F cut s := ⟨(h.ln.below (disk_dev D) hb).1, h.tab.below hb⟩
theorem Bs.dev {D : Nat} {w w' : World} {b : Nat} {F F' : Nat → Prop} {cut cut' : Int} {s s' : DS} (h : Bs D w b F cut s) (hr : RP D w' b F' cut' s') (hk : Keeps F w w') (hf : ∀ i, F' i → F i ∨ w.heap.size ≤ i) : Bs D w' b F' cut' s' :=
  ⟨(h.ln.dev hr hk hf).1, tab_keeps h.tab (hk.block _ (Nat.lt_of_lt_of_le h.ln.g1 h.ln.hw) (fun hF => by have := h.ln.low _ hF; have := h.ln.g1; omega))⟩
/-- what is written elsewhere, above D -/
theorem Bs.keeps {D : Nat} {w w' : World} {b : Nat} {F S : Nat → Prop} {cut : Int} {s : DS} (h : Bs D w b F cut s) (hk : Keeps S w w') (hS : ∀ i, F i → ¬ S i) (hD : ∀ i, S i → D ≤ i) : Bs D w' b F cut s :=
  have hb : Below D w w' := hk.toBelow hD h.ln.hw
  ⟨⟨(disk_dev D).keeps h.ln.rep hk hS hD, h.ln.low, Nat.le_trans h.ln.hw hk.size, Vars.belowG h.ln.vars hb h.ln.g0 h.ln.g1, h.ln.g0, h.ln.g1⟩, tab_keeps h.tab (hb.block _ h.ln.g1)⟩
/-- a store over a disk -/
structure Sto (w : World) (p b : Nat) (F : Nat → Prop) : Prop where
  cell : w.cell? ⟨p, 0, none⟩ = some (.pointer (some ⟨b, 0, none⟩))
  sep : ¬ F p
theorem Sto.lt {w : World} {p b : Nat} {F : Nat → Prop} (h : Sto w p b F) : p < w.heap.size := World.block_lt_of_cell? _ _ h.cell
theorem Sto.below {w w' : World} {p b : Nat} {F : Nat → Prop} (h : Sto w p b F) (hb : Below w.heap.size w w') : Sto w' p b F := ⟨by rw [hb.cell h.lt]; exact h.cell, h.sep⟩
theorem Sto.dev {w w' : World} {p b : Nat} {F F' : Nat → Prop} (h : Sto w p b F) (hk : Keeps F w w') (hf : ∀ i, F' i → F i ∨ w.heap.size ≤ i) : Sto w' p b F' :=
  ⟨by rw [World.cell?_of_block (a := ⟨p, 0, none⟩) (hk.block p h.lt h.sep)]; exact h.cell, fun hp => by
    rcases hf p hp with h1 | h1
    · exact h.sep h1
    · have := h.lt; omega⟩

theorem there_any (p b : Nat) (w : World) (h : w.cell? ⟨p, 0, none⟩ = some (.pointer (some ⟨b, 0, none⟩))) :
    Calls Tryz.prog 24 #[.pointer (some ⟨p, 0, none⟩)] w fun e w' => e = .returned (.bool true) ∧ w = w' := by
  go_enter Tryz.func24, Tryz.ntmps24
  go_wp2_with fail
  go_ret
  exact ⟨rfl, rfl⟩
theorem there_nil (w : World) : Calls Tryz.prog 24 #[.pointer none] w fun e w' => e = .returned (.bool false) ∧ w = w' := by
  go_enter Tryz.func24, Tryz.ntmps24
  go_wp2_with fail
  go_ret
  exact ⟨rfl, rfl⟩
theorem bfault_any (c : Nat) (t : ByteArray) (w : World) :
    Calls Tryz.prog 20 #[.int .i64 c, .string t] w fun e w' => e = .returned (.iface 84 (.pointer (some ⟨w.heap.size, 0, none⟩))) ∧ DiskP.faultW c t w = w' := by
  unfold DiskP.faultW
  go_enter Tryz.func20, Tryz.ntmps20
  go_wp2_with fail
  go_ret
  exact ⟨rfl, rfl⟩
theorem nameB_str {x : Bl} (h : Ok x) : mkE (blobN x.1 x.2) = .returned (.tuple #[.string (nameB x), .int .i64 0]) := by
  rw [mkE_some (fun e => by have := blobN_length h; rw [e] at this; simp at this)]
  rfl
theorem fileOf_any (x : Bl) (w : World) (hx : Ok x) (ht : Tab w) :
    Calls Tryz.prog 34 #[bV x] w fun e w' => e = .returned (.string (nameB x)) ∧ Below w.heap.size w w' := by
  have HB1 : Hid (Below w.heap.size w (w.alloc (blobO x.1 x.2))) := Lib.hid ((Below.refl _ _).alloc (Nat.le_refl _) _)
  have HP := Lib.hid (pBlob_any x.1 x.2 (w.alloc (blobO x.1 x.2)) hx.sum hx.hi (ht.below HB1.out))
  rw [nameB_str hx] at HP
  generalize nameB x = nm at *
  obtain ⟨c0, c1⟩ := blob_cells (heap_alloc_new w (blobO x.1 x.2))
  clear hx ht
  go_enter Tryz.func34, Tryz.ntmps34
  go_wp2_with (go_at_call 25; refine HP.out.mono ?_; rintro e w' ⟨rfl, hb⟩)
  go_ret
  exact ⟨rfl, HB1.out.trans (hb.mono HB1.out.size)⟩

/-! ### has -/
theorem read_has {s : DS} {x : Bl} (hx : Ok x) (hd : s.dead = false) : readS (nameB x) s = if hasF (nameB x) s.fs = true then (bytesF (nameB x) s.fs, 0) else (⟨#[]⟩, 6) := by
  unfold readS
  rw [if_neg (by rw [nameB_may hx]; decide), if_neg (by rw [hd]; decide)]
  cases hasF (nameB x) s.fs <;> rfl
theorem beq_bytes (x y : ByteArray) : (x.toList == y.toList) = decide (x = y) := by
  rw [Bool.eq_iff_iff, decide_eq_true_eq, beq_iff_eq, ByteArray.toList_eq, ByteArray.toList_eq]
  exact ⟨fun h => ByteArray.ext (Array.toList_inj.1 h), fun h => by rw [h]⟩
set_option maxHeartbeats 2000000 in
theorem has_any {D p b : Nat} {F : Nat → Prop} {cut : Int} {s : DS} {w : World} (x : Bl) (bytes : ByteArray) (h : Bs D w b F cut s) (hp : Sto w p b F) (hx : Ok x) (hg : DiskC.Good s.fs) (hd : s.dead = false) (hh : hasF (nameB x) s.fs = true) :
    Calls Tryz.prog 45 #[.pointer (some ⟨p, 0, none⟩), bV x, .string bytes] w fun e w' => e = .returned (.bool (hasB s.fs x bytes)) ∧ Below w.heap.size w w' := by
  have HB1 : Hid (Below w.heap.size w (w.alloc (bO x))) := Lib.hid ((Below.refl _ _).alloc (Nat.le_refl _) _)
  have HS := Lib.hid (h.below HB1.out)
  have p0 := (hp.below HB1.out).cell
  obtain ⟨c0, c1⟩ := b_cells (heap_alloc_new w (bO x))
  have HE : Hid (hasB s.fs x bytes = ((bytesF (nameB x) s.fs).toList == bytes.toList)) := Lib.hid (by unfold hasB; rw [hh, beq_bytes]; rfl)
  have HF : Hid (∀ W', Below (w.alloc (bO x)).heap.size (w.alloc (bO x)) W' → Calls Tryz.prog 34 #[bV x] W' fun e w' => e = .returned (.string (nameB x)) ∧ Below W'.heap.size W' w') := Lib.hid (fun W' g => fileOf_any x W' hx (HS.out.tab.below g))
  have HR : Hid (∀ W', Below (w.alloc (bO x)).heap.size (w.alloc (bO x)) W' → Calls Tryz.prog 26 #[.pointer (some ⟨b, 0, none⟩), .string (nameB x)] W' fun e w' => e = .returned (.tuple #[.string (bytesF (nameB x) s.fs), .nilIface]) ∧ Below W'.heap.size W' w') := Lib.hid (fun W' g =>
    ((disk_dev D).read (nameB x) (HS.out.below g).ln.rep hg (HS.out.below g).ln.vars).mono (fun e w' h => by
      obtain ⟨ev, he, hde, hb⟩ := h
      rw [read_has hx hd, if_pos hh] at he hde
      rcases hde with ⟨-, rfl⟩ | ⟨h0, -⟩
      · exact ⟨he, hb⟩
      · exact absurd rfl h0))
  generalize hasB s.fs x bytes = RB at *
  generalize bytesF (nameB x) s.fs = held at *
  generalize nameB x = nm at *
  clear h hp hx hg hd hh
  go_enter Tryz.func45, Tryz.ntmps45
  go_upto_region 1 with fail
  generalize w.alloc (bO x) = W at *
  have k0 := cell_regrown c0
  have k1 := cell_regrown c1
  have k2 := cell_regrown p0
  have cF : ∀ d os, Calls Tryz.prog 34 _ (Go.Sort.grow (redrawn W d) os) _ := fun d os => Calls.regrown_of (HF.out _ (below_regrown W d os))
  have cR : ∀ d os, Calls Tryz.prog 26 _ (Go.Sort.grow (redrawn W d) os) _ := fun d os => Calls.regrown_of (HR.out _ (below_regrown W d os))
  refine wp_region_quiet_below (by kernel_rfl) (by kernel_rfl) ?_
  repeat (quiet_step (first | exact cF _ _ | exact cR _ _))
  refine wpQuiet_nil ?_
  intro _ hw'
  obtain ⟨⟨dq, osq⟩, hw''⟩ := hw'
  subst hw''
  have HB2 := Lib.hid (below_regrown W dq osq)
  clear cF cR k0 k1 k2
  generalize Go.Sort.grow (redrawn W dq) osq = W9 at *
  go_wp2_with fail
  go_ret
  exact ⟨by rw [HE.out]; rfl, HB1.out.trans (HB2.out.mono HB1.out.size)⟩

/-! ### All -/
theorem rp_form {D : Nat} {w : World} {b : Nat} {F : Nat → Prop} {cut : Int} {s : DS} (h : RP D w b F cut s) : DiskP.May s.fs ∧ Sorted s.fs := by
  obtain ⟨⟨m, Dw, vals, hD⟩, hm⟩ := h
  exact ⟨hm, hD.files.sorted⟩
theorem name_short {s : DS} (hm : DiskP.May s.fs) (q : Nat) (hq : q < (namesS s).length) : ((namesS s)[q]).size ≤ 128 := by
  have hmem := List.getElem_mem hq
  generalize (namesS s)[q] = n at *
  unfold namesS at hmem
  split at hmem
  · cases hmem
  · obtain ⟨f, hf, rfl⟩ := List.mem_map.1 hmem
    have := hm f hf
    unfold mayB at this
    simp only [Bool.and_eq_true, decide_eq_true_eq] at this
    exact this.2
theorem own_base {w : World} {D D' k n : Nat} {e : TypeId} {v : Value} {xs : List Value} (h : w.ownsRow D e k v n xs) (hb : D' ≤ D) : w.ownsRow D' e k v n xs := by
  obtain ⟨hl, ⟨h0, h1⟩ | ⟨g', cp', cur, e1, hbase, hb', h1, h2, h3, h4⟩⟩ := h
  · exact ⟨hl, .inl ⟨h0, h1⟩⟩
  · exact ⟨hl, .inr ⟨g', cp', cur, e1, by omega, hb', h1, h2, h3, h4⟩⟩
def blobsL (l : List B) : List Bl := l.filterMap blobOf
theorem blobs_succ (p : List B) (j : Nat) (h : j < p.length) : blobsL (p.take (j + 1)) = blobsL (p.take j) ++ (match blobOf (p.getD j []) with | some x => [x] | none => []) := by
  unfold blobsL
  rw [List.take_add_one, List.getElem?_eq_getElem h, List.filterMap_append]
  have e : p.getD j [] = p[j] := by simp [h]
  rw [e]
  congr 1
  cases hk : blobOf p[j] <;> simp [hk]
theorem blobs_length (p : List B) : (blobsL p).length ≤ p.length := List.length_filterMap_le _ _
theorem info_bl : (Tryz.prog.info? 38).map (fun i => (i.zero, i.size, i.bytes)) = some (some (.agg #[.int .u64 0, .int .u32 0]), 2, 16) := by kernel_rfl
/-- a row of blobs of a call's own -/
def BlRow (w : World) (D : Nat) (v : Value) (L : List Bl) : Prop := w.ownsRow D 38 2 v L.length (L.flatMap encB)
structure AllI (w wr : World) (p : List B) (j : Nat) (v : Value) : Prop where
  own : BlRow wr w.heap.size v (blobsL (p.take j))
  below : Below w.heap.size w wr
theorem bl_ones (x : Bl) : ∀ u ∈ encB x, u.oneCell' = true := by
  intro u hu
  simp only [encB, List.mem_cons, List.not_mem_nil, or_false] at hu
  rcases hu with rfl | rfl <;> rfl
theorem cells_new (w : World) (l : List Value) (t : TypeId) : ∀ j u, l[j]? = some u → (w.alloc (.cells l.toArray t)).cell? ((⟨w.heap.size, 0, none⟩ : Addr).add j) = some u := by
  intro j u hu
  rw [Go.WideShapes.add_plain, Nat.zero_add]
  simp only [World.cell?, heap_alloc_new]
  simpa using hu
theorem grown_below {w w' : World} (h : Below w.heap.size w w') (row : Option Nat) : w.grownBy w' row := ⟨h.os, h.tape, h.output, h.size, fun k hk _ => h.block k hk⟩
theorem own_below {w w' : World} {D k n : Nat} {e : TypeId} {v : Value} {xs : List Value} (h : w.ownsRow D e k v n xs) (hb : Below w.heap.size w w') : w'.ownsRow D e k v n xs := World.ownsRow.kept h (grown_below hb _) (Classical.em _)
/-- how All ends -/
def AllE (w : World) (s : DS) (e : Ending) (w' : World) : Prop := ∃ L v, e = .returned v ∧ AllP (namesS s) L ∧ BlRow w' w.heap.size v L ∧ Below w.heap.size w w'
theorem all_of {names : List ByteArray} {L : List Bl} (h1 : L.Pairwise (fun a b => ¬ cmpB b a < 0)) (h2 : ∀ x, x ∈ L ↔ x ∈ blobsL (names.map (·.data.toList))) (h3 : L.length = (blobsL (names.map (·.data.toList))).length) : AllP names L := by
  refine ⟨fun x => ?_, h1, ?_⟩
  · rw [h2]
    unfold blobsL
    rw [List.mem_filterMap]
    constructor
    · rintro ⟨l, hl, e⟩
      obtain ⟨n, hn, rfl⟩ := List.mem_map.1 hl
      exact ⟨n, hn, e⟩
    · rintro ⟨n, hn, e⟩
      exact ⟨_, List.mem_map.2 ⟨n, hn, rfl⟩, e⟩
  · have := blobs_length (names.map (·.data.toList))
    rw [List.length_map] at this
    omega
theorem app_none (l : List Bl) : l ++ [] = l := by simp
theorem no_blob {l : B} (h : blobOf l = none) : (((pt (readP NameM.isN l)).kind : Int) == 2) = false := by
  unfold blobOf at h
  cases hr : readP NameM.isN l with
  | none => rfl
  | some q =>
    rw [hr] at h
    simp only at h
    split at h
    · cases h
    · rename_i hk
      show ((q.kind : Int) == 2) = false
      simpa using fun e : (q.kind : Int) = 2 => hk (by omega)
set_option maxHeartbeats 8000000 in
set_option maxRecDepth 100000 in
theorem all_any {D p b : Nat} {F : Nat → Prop} {cut : Int} {s : DS} {w : World} (h : Bs D w b F cut s) (hp : Sto w p b F) (hg : DiskC.Good s.fs) (hl : s.fs.length ≤ 300) :
    Calls Tryz.prog 14 #[.pointer (some ⟨p, 0, none⟩)] w (AllE w s) := by
  have p0 := hp.cell
  have HT := Lib.hid (there_any p b w p0)
  have HN := Lib.hid ((disk_dev D).names h.ln.rep hg h.ln.vars)
  obtain ⟨i0, hi, hz0, hz1, hz2⟩ := info_parts info_bl
  obtain ⟨P, hP⟩ : ∃ P, P = (namesS s).map (·.data.toList) := ⟨_, rfl⟩
  have HPS : Hid (∀ q : Nat, q < P.length → (P.getD q []).length ≤ 9223372036854775807) := Lib.hid (by
    intro q hq
    rw [hP] at hq ⊢
    rw [List.length_map] at hq
    have hm := (rp_form h.ln.rep).1
    have hget : ((namesS s).map (·.data.toList)).getD q [] = ((namesS s)[q]).data.toList := by simp [hq]
    rw [hget, dl]
    have := name_short hm q hq
    omega)
  have hPl : P.length ≤ 300 := by
    rw [hP, List.length_map]
    unfold namesS
    split
    · exact Nat.zero_le _
    · rw [List.length_map]; exact hl
  have HPC : Hid (∀ (v : Value) (w' : World), OwnT w' w.heap.size v (namesS s) → ∃ a cp, v = .slice a P.length cp ∧ (0 < P.length → ∃ g, a = some ⟨g, 0, none⟩ ∧ w.heap.size ≤ g ∧ g < w'.heap.size ∧ ∀ i, i < P.length → w'.cell? ⟨g, i, none⟩ = some (.string (str (P.getD i []))))) := Lib.hid (by
    intro v w' ho
    obtain ⟨a, cp, e, hc⟩ := ho.open_
    rw [hP, List.length_map]
    refine ⟨a, cp, e, fun h0 => ?_⟩
    obtain ⟨g, e1, e2, e3, e4⟩ := hc h0
    refine ⟨g, e1, e2, e3, fun i hi => ?_⟩
    rw [e4 i hi]
    have hget : ((namesS s).map (·.data.toList)).getD i [] = ((namesS s)[i]).data.toList := by simp [hi]
    rw [hget, ← str_of])
  have HAO : Hid (∀ L : List Bl, L.Pairwise (fun a b => ¬ cmpB b a < 0) → (∀ x, x ∈ L ↔ x ∈ blobsL P) → L.length = (blobsL P).length → AllP (namesS s) L) := Lib.hid (fun L h1 h2 h3 => all_of h1 (by rw [← hP]; exact h2) (by rw [← hP]; exact h3))
  unfold AllE
  generalize namesS s = NS at *
  clear h hp hg hl hP
  go_enter Tryz.func14, Tryz.ntmps14
  go_wp2_with (first
    | (go_at_call 24; refine HT.out.mono ?_; rintro e w' ⟨rfl, rfl⟩)
    | (go_at_call 22; refine HN.out.mono ?_; rintro e w1 ⟨u, rfl, ho, hb1⟩; obtain ⟨a, cp, rfl, hcl⟩ := HPC.out _ _ ho; have HB1 := Lib.hid hb1; have HCL := Lib.hid hcl; clear ho hb1 hcl HPC HT HN)
    | fail)
  go_loopw [3, 17] (fun v i wr => ∃ j : Nat, j ≤ P.length ∧ i = .int .i64 j ∧ AllI w1 wr P j v) (fun _ i _ => P.length - (intOf i).toNat)
  case atStart => exact ⟨0, Nat.zero_le _, rfl, ⟨World.ownsRow_nil _ _ _ _, Below.refl _ _⟩⟩
  case round =>
    obtain ⟨j, hj, rfl, HI⟩ := hrel
    rename World => wr
    by_cases hlt : j < P.length
    · have hdec : decide (j < P.length) = true := by simpa using hlt
      obtain ⟨g, rfl, hg1, hg2, hcl⟩ := HCL.out (by omega)
      have hc : wr.cell? ⟨g, j, none⟩ = some (.string (str (P.getD j []))) := by rw [HI.below.cell (by exact hg2)]; exact hcl j hlt
      have HS := Lib.hid (blobs_succ P j hlt)
      have hRd := pRead_any (P.getD j []) wr (HPS.out j hlt)
      have hown := HI.own
      have HBW := Lib.hid HI.below
      have hlen := blobs_length (P.take j)
      rw [List.length_take] at hlen
      unfold BlRow at hown
      clear HI hcl
      rcases hbo : blobOf (P.getD j []) with _ | x
      · have hnk := no_blob hbo
        have HRd := Lib.hid hRd
        unfold ppV at HRd
        rw [hbo] at HS
        clear hbo hRd
        generalize readP NameM.isN (P.getD j []) = rd at *
        generalize P.getD j [] = st at *
        generalize ((pt rd).kind : Int) = k1 at *
        generalize ((pt rd).n : Int) = k2 at *
        generalize (pt rd).sum = k3 at *
        generalize ((pt rd).part : Int) = k4 at *
        generalize (pt rd).name = k5 at *
        generalize er rd = k6 at *
        go_wp2_with (first
          | (go_at_call 31; refine HRd.out.mono ?_; rintro e w2 ⟨rfl, hb2⟩; have HB2 := Lib.hid hb2; clear hb2)
          | fail)
        go_roundw
        case rel => exact ⟨j + 1, by omega, by go_num, ⟨by rw [HS.out, app_none]; exact (own_below hown HB2.out).alloc _, (HBW.out.trans (HB2.out.mono HBW.out.size)).alloc (Nat.le_trans HBW.out.size HB2.out.size) _⟩⟩
        case measure => simp [intOf]; omega
      · obtain ⟨-, hok, hrd⟩ := blobOf_some hbo
        rw [hrd] at hRd
        have HRd := Lib.hid hRd
        unfold ppV at HRd
        rw [hbo] at HS
        clear hbo hRd hrd
        generalize P.getD j [] = st at *
        generalize blobsL (P.take j) = L at *
        simp only [pt, er, pthV] at HRd
        go_wp2_with (first
          | (go_at_call 31; refine HRd.out.mono ?_; rintro e w2 ⟨rfl, hb2⟩; have hown2 := own_below hown hb2; have HB2 := Lib.hid hb2; clear hb2)
          | (at_builtin; refine wpList_append_own _ rfl _ _ 47 rfl w1.heap.size 38 i0 (.agg #[.int .u64 0, .int .u32 0]) 2 16 Tryz.underlying47 hi hz0 hz1 hz2 rfl (by decide) _ _ _ rfl (World.ownsRow.alloc (World.ownsRow.alloc hown2 _) _) ⟨w2.heap.size + 1, 0, none⟩ 1 1 (encB x) rfl rfl ?c1 ?c2 ?c3 ?c4 ?c5 ?_)
          | fail)
        case c1 =>
          intro q u hu
          have := cells_new (w2.alloc (.cells #[.int .u8 2, .int .i64 0, .int .u64 x.1, .int .u32 x.2, .string (str [])] 75)) [.int .u64 x.1, .int .u32 x.2] 38 q u hu
          simpa using this
        case c2 => exact bl_ones x
        case c3 => unfold maxLen; omega
        case c4 => omega
        case c5 => have := HBW.out.size; have := HB2.out.size; simp; omega
        intro v' w4 hown4 hg4 _
        have HNX : Hid (AllI w1 w4 P (j + 1) v') := Lib.hid ⟨by
          rw [HS.out]
          unfold BlRow
          rw [List.length_append, List.flatMap_append]
          simpa using hown4, ((((HBW.out.trans (HB2.out.mono HBW.out.size)).alloc (Nat.le_trans HBW.out.size HB2.out.size) _).alloc (by have := HBW.out.size; have := HB2.out.size; simp; omega) _).grown hg4 (by have := HBW.out.size; have := HB2.out.size; simp; omega) (fun j hj => (World.ownsRow.lt hown2 j hj).1))⟩
        clear hown4 hg4 hown2 hown
        go_wp2
        go_roundw
        case rel => exact ⟨j + 1, by omega, by go_num, HNX.out⟩
        case measure => simp [intOf]; omega
    · have hdec : decide (j < P.length) = false := by simpa using hlt
      have hke : j = P.length := by omega
      subst hke
      have hown := HI.own
      have HBW : Hid (Below w.heap.size w wr) := Lib.hid (HB1.out.trans (HI.below.mono HB1.out.size))
      rw [List.take_length] at hown
      clear HI hlt hj
      have hlen := blobs_length P
      generalize hLL : blobsL P = L at *
      rcases hown.2 with ⟨rfl, h0⟩ | ⟨g2, cp2, cur, rfl, hbase, hblk, h1, h2, h3, h4⟩
      · have hL0 : L = [] := List.length_eq_zero_iff.1 h0
        have HSF := Lib.hid (fun W => AnyF.slices_SortFunc_none Tryz.sortBl none 0 (.func (.func 33) #[] #[]) W)
        rw [hL0] at hown HAO
        clear hL0 h0
        go_wp2_with (first | (go_at_call 32; refine (HSF.out _).mono ?_; rintro e w' ⟨rfl, rfl⟩) | fail)
        go_ret
        exact ⟨[], _, rfl, HAO.out [] List.Pairwise.nil (fun x => Iff.rfl) rfl, World.ownsRow_nil _ _ _ _, HBW.out⟩
      · have hgl : g2 < wr.heap.size := (Array.getElem?_eq_some_iff.1 hblk).1
        have HOWN := Lib.hid hown
        obtain ⟨d, rfl⟩ : ∃ d : Array Bl, L = d.toList := ⟨L.toArray, by simp⟩
        rw [Array.length_toList] at hlen
        have hown' : wr.ownsRow w1.heap.size 38 2 (.slice (some ⟨g2, 0, none⟩) d.size cp2) d.size (d.toList.flatMap encB) := by simpa [BlRow] using hown
        have HSF := Lib.hid (psortBl_any g2 cp2 wr d (RowKC.holdsK_of_own encB 2 encB_length hown') hgl (by omega))
        have hdl : d.toList.length = d.size := by simp
        rw [hdl] at *
        clear hown h3 h4 hblk
        go_wp2_with (first | (go_at_call 32; refine HSF.out.mono ?_; rintro e w' ⟨rfl, d', nn, os, hpm, hst, rfl⟩) | fail)
        go_ret
        obtain ⟨s1, s2, s3⟩ := sorted_bls hpm hst
        refine ⟨d'.toList, _, rfl, HAO.out _ (s2.imp fun h => by omega) s3 (by simp [s1]), ?_, ?_⟩
        · have own2 := RowKC.own_sortedK encB 2 encB_length (n := nn) (os := os) s1 hown'
          have hdl2 : d'.toList.length = d.size := by simp [s1]
          unfold BlRow
          rw [hdl2]
          exact own_base own2 HB1.out.size
        · exact HBW.out.grown (RowKC.grownBy_sortedK encB 2 d') HBW.out.size (fun j hj => by cases hj; exact Nat.le_trans HB1.out.size hbase)
end BlobC
end Go.Proofs.YtfbdhlpgklkjmaaGreatDoor
namespace Go.Proofs.YtfbdhlpgklkjmaaGreatDoor
open Go.RowKit Go.Sort
namespace BlobC
open BlobM PathM DiskM DiskC ErrC PathC StrC TextR
open VerM (B)
open DiskP (RP disk_dev)
set_option linter.unusedSimpArgs false
set_option linter.unusedVariables false

theorem eq_bl (x y : Bl) (w : World) : (binOp .eql 38 (.agg #[.int .u64 x.1, .int .u32 x.2]) (.agg #[.int .u64 y.1, .int .u32 y.2])).run Tryz.prog w = .ok (.bool (decide (x = y))) w := by
  have p1 : ∀ w, (part 35 #[.int .u64 x.1, .int .u32 x.2] 0).run Tryz.prog w = .ok (.int .u64 x.1) w := fun w => by kernel_rfl
  have p2 : ∀ w, (part 36 #[.int .u64 x.1, .int .u32 x.2] 1).run Tryz.prog w = .ok (.int .u32 x.2) w := fun w => by kernel_rfl
  have p3 : ∀ w, (part 35 #[.int .u64 y.1, .int .u32 y.2] 0).run Tryz.prog w = .ok (.int .u64 y.1) w := fun w => by kernel_rfl
  have p4 : ∀ w, (part 36 #[.int .u64 y.1, .int .u32 y.2] 1).run Tryz.prog w = .ok (.int .u32 y.2) w := fun w => by kernel_rfl
  rw [run_eql_struct, run_equalIn_agg w 9999 38 _ _ (by kernel_rfl) (by kernel_rfl)]
  have hfs : ∃ f0 f1 : Field, (Tryz.prog.fieldsOf 38).toList = [f0, f1] ∧ (f0.name.length == 1) = false ∧ (f1.name == "_") = false ∧ f0.type = 35 ∧ f1.type = 36 ∧ f0.offset = 0 ∧ f1.offset = 1 :=
    ⟨(Tryz.prog.fieldsOf 38)[0]!, (Tryz.prog.fieldsOf 38)[1]!, by kernel_rfl, by kernel_rfl, by kernel_rfl, by kernel_rfl, by kernel_rfl, by kernel_rfl, by kernel_rfl⟩
  obtain ⟨f0, f1, hf, m0, m1, t0, t1, o0, o1⟩ := hfs
  have n1 : f1.name ≠ "_" := by simpa using m1
  have n0 : f0.name ≠ "_" := fun h => by rw [h] at m0; exact absurd m0 (by decide)
  rw [hf]
  have e0 : ∀ (a b : Nat) w, (Op.equalIn 9999 35 (.int .u64 a) (.int .u64 b)).run Tryz.prog w = .ok ((a : Int) == b) w := fun a b w => run_equalIn_int w 9998 35 _ _ _ _ Tryz.underlying35
  have e1 : ∀ (a b : Nat) w, (Op.equalIn 9999 36 (.int .u32 a) (.int .u32 b)).run Tryz.prog w = .ok ((a : Int) == b) w := fun a b w => run_equalIn_int w 9998 36 _ _ _ _ Tryz.underlying36
  simp only [Op.eqFields, n0, n1, ne_eq, not_false_eq_true, if_true, t0, t1, o0, o1, Sem.run_bind, p1, p3, Result.andThen_ok, e0]
  obtain ⟨x1, x2⟩ := x
  obtain ⟨y1, y2⟩ := y
  dsimp only at p1 p2 p3 p4 ⊢
  by_cases h1 : x1 = y1
  · have d1 : ((x1 : Int) == (y1 : Int)) = true := by simp [h1]
    by_cases h2 : x2 = y2
    · have d2 : ((x2 : Int) == (y2 : Int)) = true := by simp [h2]
      have e3 : decide ((x1, x2) = (y1, y2)) = true := by simp [h1, h2]
      simp only [d1, d2, e3, p2, p4, Result.andThen, Bool.not_true, Bool.false_eq_true, if_false, Sem.run_bind, e1]
      simp
    · have d2 : ((x2 : Int) == (y2 : Int)) = false := by simp; omega
      have e3 : decide ((x1, x2) = (y1, y2)) = false := by simp [h2]
      simp only [d1, d2, e3, p2, p4, Result.andThen, Bool.not_true, Bool.false_eq_true, if_false, Sem.run_bind, e1]
      simp
  · have d1 : ((x1 : Int) == (y1 : Int)) = false := by simp; omega
    have e3 : decide ((x1, x2) = (y1, y2)) = false := by simp [h1]
    simp only [d1, e3, Result.andThen]
    simp
section
variable {P : Program}
theorem results_cell_tmp {fn : Func} {p q : Tmp} {ty : TypeId} (h : fn.results = #[.cell p ty, .tmp q]) (tmps : Array Value) (w : World) (g : Nat) (t : TypeId) (cs : Array Value) (fr : Nat × Nat) (d : TypeDesc)
    (hp : tmps.getD p undef = .pointer (some ⟨g, 0, none⟩)) (hg : w.heap[g]? = some (.cells cs t fr))
    (hu : P.underlying ty = some d) (hd : (match d with | .struct _ | .array _ _ => true | _ => false) = true) (hi : (P.info? ty).map (·.size) = some cs.size) :
    (results fn tmps).run P w = .ok (.tuple #[.agg cs, tmps.getD q undef]) w := by
  have hp' : tmps[p]?.getD undef = .pointer (some ⟨g, 0, none⟩) := by simpa using hp
  simp [results, h, hp', asAddr, run_loadVar_row w g t ty cs fr d hg hu hd hi]
end
theorem info_bls : (Tryz.prog.info? 38).map (·.size) = some 2 := by kernel_rfl
theorem bl_one (s n : Int) : (#[Value.int .u64 s, .int .u32 n].all (·.oneCell')) = true := by simp [Value.oneCell']
theorem keeps_row (w : World) (g : Nat) (cs : Array Value) : Keeps (· = g) w (w.setRow g cs) := ⟨rfl, rfl, rfl, by simp, fun k _ hk => setRow_other w g k cs hk⟩
theorem setCell_row {w : World} {q j : Nat} {cs : Array Value} {t : TypeId} {fr : Nat × Nat} (h : w.heap[q]? = some (.cells cs t fr)) (u : Value) : (w.setCell ⟨q, j, none⟩ u).heap[q]? = some (.cells (cs.setIfInBounds j u) t fr) := by
  simp [World.setCell, h, Array.getElem?_modify]
theorem bl_cells {w : World} {D g cp : Nat} {L : List Bl} (h : w.ownsRow D 38 2 (.slice (some ⟨g, 0, none⟩) L.length cp) L.length (L.flatMap encB)) (i : Nat) (hi : i < L.length) : w.cell? ⟨g, i * 2, none⟩ = some (.int .u64 L[i].1) ∧ w.cell? ⟨g, i * 2 + 1, none⟩ = some (.int .u32 L[i].2) := by
  have key : ∀ c, c < 2 → w.cell? ⟨g, i * 2 + c, none⟩ = some ((encB L[i])[c]!) := fun c hc => by
    rw [h.cellAt (i * 2 + c) (by omega), RowKC.flat_get encB 2 encB_length L _ (by omega), show (i * 2 + c) / 2 = i from by omega, show (i * 2 + c) % 2 = c from by omega, getElem!_pos L i hi]
  exact ⟨key 0 (by omega), key 1 (by omega)⟩
/-- what the search finds and leaves -/
structure LkI (w0 wr : World) (fb : Nat) (sm n : Nat) : Prop where
  keeps : Keeps (· = fb) w0 wr
  free : wr.heap[fb]? = some (bO (sm, n))
theorem LkI.below {w0 wr w' : World} {fb sm n : Nat} (h : LkI w0 wr fb sm n) (hb : Below wr.heap.size wr w') : LkI w0 w' fb sm n :=
  ⟨h.keeps.then (Keeps.of_below (S := fun _ => False) hb) (fun _ _ h => h.elim), (hb.block fb (Array.getElem?_eq_some_iff.1 h.free).1).trans h.free⟩
theorem LkI.next {w0 wr : World} {fb sm n : Nat} (h : LkI w0 wr fb sm n) : LkI w0 (wr.setCell ⟨fb, 1, none⟩ (.int .u32 ((n + 1 : Nat) : Int))) fb sm (n + 1) :=
  ⟨h.keeps.trans (Keeps.setb (Keeps.refl _ _) 1 _), by rw [setCell_row h.free]; rfl⟩
def LookE (s : DS) (bytes : ByteArray) (w : World) (e : Ending) (w' : World) : Prop :=
  ∃ L, AllP (namesS s) L ∧ e = .returned (.tuple #[bV (lookB s.fs bytes L).1, .bool (lookB s.fs bytes L).2]) ∧ Below w.heap.size w w'
set_option maxHeartbeats 8000000 in
set_option maxRecDepth 100000 in
theorem look_any {D p b : Nat} {F : Nat → Prop} {cut : Int} {s : DS} {w : World} (bytes : ByteArray) (h : Bs D w b F cut s) (hp : Sto w p b F) (hg : DiskC.Good s.fs) (hl : s.fs.length ≤ 300) (hd : s.dead = false) (hz : bytes.size ≤ 1048576) :
    Calls Tryz.prog 28 #[.pointer (some ⟨p, 0, none⟩), .string bytes] w (LookE s bytes w) := by
  have HBS := Lib.hid h
  have HPS := Lib.hid hp
  have HG := Lib.hid hg
  have HD := Lib.hid hd
  have HLen := Lib.hid hl
  have hnm : namesS s = s.fs.map (·.1) := by unfold namesS; rw [hd]; rfl
  have hinf := info_bls
  have HSO : Hid (∀ w, Calls Tryz.prog 27 #[.string bytes] w fun e w' => e = .returned (.int .u64 (sumN bytes.data.toList)) ∧ w = w') := Lib.hid (fun w => by rw [← sumN_fnv]; exact SumC.of_any bytes w (by unfold maxLen; omega))
  obtain ⟨sm, hsm⟩ : ∃ sm, sumN bytes.data.toList = sm := ⟨_, rfl⟩
  have HLB : Hid (∀ L, lookB s.fs bytes L = lookL (fun x => hasB s.fs x bytes) sm L 1) := Lib.hid (fun L => by rw [← hsm]; rfl)
  rw [hsm] at HSO
  clear hsm hl hz
  have HB0 : Hid (Below w.heap.size w (w.alloc (bO (0, 0)))) := Lib.hid ((Below.refl _ _).alloc (Nat.le_refl _) _)
  have HB1 : Hid (Below w.heap.size w ((w.alloc (bO (0, 0))).alloc (bO (sm, 1)))) := Lib.hid (HB0.out.alloc HB0.out.size _)
  have hr1 : ((w.alloc (bO (0, 0))).alloc (bO (sm, 1))).heap[w.heap.size]? = some (bO (0, 0)) := by rw [heap_alloc_old _ _ (by simp)]; exact heap_alloc_new w _
  have hf1 : ((w.alloc (bO (0, 0))).alloc (bO (sm, 1))).heap[w.heap.size + 1]? = some (bO (sm, 1)) := by
    have := heap_alloc_new (w.alloc (bO (0, 0))) (bO (sm, 1))
    simpa using this
  have HALL := Lib.hid (all_any (h.below HB1.out) (hp.below HB1.out) hg HLen.out)
  have HFB : Hid (∀ i, F i → ¬ i = w.heap.size + 1) := Lib.hid (fun i hi e => by have := (disk_dev D).lt h.ln.rep i hi; omega)
  have HDD : Hid (D ≤ w.heap.size) := Lib.hid h.ln.hw
  clear h hp hg hd
  go_enter Tryz.func28, Tryz.ntmps28
  go_wp2_with fail
  go_step3
  go_wp2_with (first | (go_at_call 27; refine (HSO.out _).mono ?_; rintro e w' ⟨rfl, rfl⟩) | fail)
  go_step3
  go_wp2_with (first
    | (go_at_call 27; refine (HSO.out _).mono ?_; rintro e w' ⟨rfl, rfl⟩)
    | (go_at_call 14; refine HALL.out.mono ?_; rintro e w3 ⟨L, v, rfl, hap, hrow, hb3⟩; have HAP := Lib.hid hap; have HRW := Lib.hid hrow; have HB3 := Lib.hid hb3; obtain ⟨cpa, av, rfl⟩ : ∃ cpa av, v = .slice av L.length cpa := (by rcases hrow.2 with ⟨e, h0⟩ | ⟨g, cp, cur, e, _⟩; exact ⟨0, none, by rw [e, h0]⟩; exact ⟨cp, _, e⟩); clear hap hrow hb3 HALL HSO)
    | fail)
  have HLKI : Hid (LkI w3 w3 (w.heap.size + 1) sm 1) := Lib.hid ⟨Keeps.refl _ _, (HB3.out.block (w.heap.size + 1) (by simp)).trans hf1⟩
  have HLKI0 : Hid (w3.heap[w.heap.size + 1]? = some (bO (sm, 1))) := Lib.hid ((HB3.out.block (w.heap.size + 1) (by simp)).trans hf1)
  have HRB : Hid (w3.heap[w.heap.size]? = some (bO (0, 0))) := Lib.hid ((HB3.out.block w.heap.size (by simp; omega)).trans hr1)
  have HSZ : Hid (w.heap.size + 2 ≤ w3.heap.size) := Lib.hid (by have := HB3.out.size; simp at this; omega)
  have HBW : Hid (Below w.heap.size w w3) := Lib.hid (HB1.out.trans (HB3.out.mono HB1.out.size))
  have HBS3 := Lib.hid ((HBS.out.below HB1.out).below HB3.out)
  have HPS3 := Lib.hid ((HPS.out.below HB1.out).below HB3.out)
  have HROW : Hid (∀ k, k < L.length → ∃ g, av = some ⟨g, 0, none⟩ ∧ w.heap.size + 2 ≤ g ∧ g < w3.heap.size ∧ w3.cell? ⟨g, k * 2, none⟩ = some (.int .u64 (L.getD k (0, 0)).1) ∧ w3.cell? ⟨g, k * 2 + 1, none⟩ = some (.int .u32 (L.getD k (0, 0)).2)) := Lib.hid (fun k hk => by
    have hrow := HRW.out
    unfold BlRow at hrow
    rcases hrow.2 with ⟨e, h0⟩ | ⟨g, cp, cur, e, hbase, hblk, _⟩
    · omega
    · cases e
      have hc := bl_cells hrow k hk
      have hget : L.getD k (0, 0) = L[k] := by simp [hk]
      refine ⟨g, rfl, by simpa using hbase, (Array.getElem?_eq_some_iff.1 hblk).1, ?_⟩
      rw [hget]; exact hc)
  have HLL : Hid (L.length ≤ 300) := Lib.hid (by have := HAP.out.len; rw [hnm, List.length_map] at this; have := HLen.out; omega)
  have HXOK : Hid (∀ k, k < L.length → Ok (L.getD k (0, 0)) ∧ hasF (nameB (L.getD k (0, 0))) s.fs = true) := Lib.hid (fun k hk => by
    have hget : L.getD k (0, 0) = L[k] := by simp [hk]
    have hm : L[k] ∈ L := List.getElem_mem hk
    rw [hget]
    have hok := HAP.out.ok hm
    refine ⟨hok, ?_⟩
    have h1 := (HAP.out.name hok).1 hm
    rw [hnm] at h1
    exact (names_of (rp_form HBS.out.ln.rep).2).1 h1)
  obtain ⟨LB, hLB⟩ : ∃ LB, lookB s.fs bytes L = LB := ⟨_, rfl⟩
  have HRES : Hid (lookL (fun x => hasB s.fs x bytes) sm (L.drop 0) 1 = LB) := Lib.hid (by rw [List.drop_zero, ← HLB.out, hLB])
  have HEND : Hid (∀ (w' : World), Below w.heap.size w w' → LookE s bytes w (.returned (.tuple #[bV LB.1, .bool LB.2])) w') := Lib.hid (fun w' hb => ⟨L, HAP.out, by rw [hLB], hb⟩)
  clear hLB hnm hr1 hf1 HRW HLB HB3 HB1 HB0 HBS HPS
  generalize hfb : w.heap.size + 1 = fb at *
  go_loopw [15] (fun i wr => ∃ k n : Nat, i = .int .i64 k ∧ k ≤ L.length ∧ n ≤ k + 1 ∧ Hid (lookL (fun x => hasB s.fs x bytes) sm (L.drop k) n = LB) ∧ Hid (LkI w3 wr fb sm n)) (fun i _ => L.length - (intOf i).toNat)
  case atStart => exact ⟨0, 1, rfl, Nat.zero_le _, by omega, HRES, HLKI⟩
  case round =>
    obtain ⟨k, n, rfl, hk, hn, HR, HI⟩ := hrel
    rename World => wr
    have hll := HLL.out
    clear HRES HLKI
    obtain ⟨f0, f1⟩ := b_cells HI.out.free
    have ffz : wr.frozen? ⟨fb, 1, none⟩ = false := by simp [World.frozen?, HI.out.free]
    dsimp only at f0 f1
    have HBWR : Hid (Below w.heap.size w wr) := Lib.hid (HBW.out.trans (HI.out.keeps.toBelow (fun i e => by omega) HBW.out.size))
    by_cases hlt : k < L.length
    · have hdec : decide (k < L.length) = true := by simpa using hlt
      obtain ⟨g, rfl, hg1, hg2, r0, r1⟩ := HROW.out k hlt
      obtain ⟨hxo, hxh⟩ := HXOK.out k hlt
      have HXO := Lib.hid hxo
      have HXH := Lib.hid hxh
      have HST : Hid (lookL (fun x => hasB s.fs x bytes) sm (L.drop k) n = if (L.getD k (0, 0)).1 < sm then lookL (fun x => hasB s.fs x bytes) sm (L.drop (k + 1)) n else if sm < (L.getD k (0, 0)).1 then ((sm, n), false) else if hasB s.fs (L.getD k (0, 0)) bytes then (L.getD k (0, 0), true) else lookL (fun x => hasB s.fs x bytes) sm (L.drop (k + 1)) (if L.getD k (0, 0) = (sm, n) then n + 1 else n)) := Lib.hid (by
        have hget : L.getD k (0, 0) = L[k] := by simp [hlt]
        rw [hget]; exact look_drop hlt)
      have hkb : wr.heap[g]? = w3.heap[g]? := HI.out.keeps.block g hg2 (by omega)
      have q0 : wr.cell? ⟨g, k * 2, none⟩ = some (.int .u64 (L.getD k (0, 0)).1) := (World.cell?_of_block (a := ⟨g, k * 2, none⟩) hkb).trans r0
      have q1 : wr.cell? ⟨g, k * 2 + 1, none⟩ = some (.int .u32 (L.getD k (0, 0)).2) := (World.cell?_of_block (a := ⟨g, k * 2 + 1, none⟩) hkb).trans r1
      clear hxo hxh r0 r1 hkb
      generalize L.getD k (0, 0) = x at *
      have hwl := HI.out.keeps.size
      have HBA : Hid (Below wr.heap.size wr (wr.alloc (bO x))) := Lib.hid ((Below.refl _ _).alloc (Nat.le_refl _) _)
      have HBSR : Hid (Bs D (wr.alloc (bO x)) b F cut s) := Lib.hid ((HBS3.out.keeps HI.out.keeps (fun i hi e => HFB.out i hi e) (fun i e => by have := HDD.out; omega)).below HBA.out)
      have HPSR : Hid (Sto (wr.alloc (bO x)) p b F) := Lib.hid (Sto.below ⟨by
        have hpl := HPS3.out.lt
        have hne : ¬ p = fb := fun e => by
          have h1 := HPS3.out.cell
          have h2 := HLKI0.out
          rw [e, World.cell?, h2] at h1
          simp at h1
        rw [World.cell?_of_block (a := ⟨p, 0, none⟩) (HI.out.keeps.block p hpl hne)]; exact HPS3.out.cell, HPS3.out.sep⟩ HBA.out)
      have HHAS := Lib.hid (has_any x bytes HBSR.out HPSR.out HXO.out HG.out HD.out HXH.out)
      obtain ⟨x0, x1⟩ := b_cells (heap_alloc_new wr (bO x))
      have HF : Hid ((wr.alloc (bO x)).cell? ⟨fb, 0, none⟩ = some (.int .u64 sm) ∧ (wr.alloc (bO x)).cell? ⟨fb, 1, none⟩ = some (.int .u32 n)) := Lib.hid ⟨VerC.cell_on _ f0, VerC.cell_on _ f1⟩
      have hrb : (wr.alloc (bO x)).heap[w.heap.size]? = some (bO (0, 0)) := by
        rw [heap_alloc_old _ _ (by have := HSZ.out; omega), HI.out.keeps.block w.heap.size (by have := HSZ.out; omega) (by omega)]; exact HRB.out
      have HBWA : Hid (Below w.heap.size w (wr.alloc (bO x))) := Lib.hid (HBWR.out.trans (HBA.out.mono HBWR.out.size))
      obtain ⟨F0, F1⟩ := HF.out
      clear HF f0 f1
      by_cases h1 : x.1 < sm
      · have d1 : decide (x.1 < sm) = true := decide_eq_true h1
        have HR2 : Hid (lookL (fun x => hasB s.fs x bytes) sm (L.drop (k + 1)) n = LB) := Lib.hid (by have := HST.out; rw [HR.out, if_pos h1] at this; exact this.symm)
        have HI2 := Lib.hid (HI.out.below HBA.out)
        clear h1 HST
        go_wp2_with fail
        go_roundw
        case rel => exact ⟨k + 1, n, by go_num, by omega, by omega, HR2, HI2⟩
        case measure => simp [intOf]; omega
      have d1 : decide (x.1 < sm) = false := decide_eq_false h1
      by_cases h2 : sm < x.1
      · have d2 : decide (sm < x.1) = true := decide_eq_true h2
        have HR2 : Hid (((sm, n), false) = LB) := Lib.hid (by have := HST.out; rw [HR.out, if_neg h1, if_pos h2] at this; exact this.symm)
        clear h1 h2 HST
        go_wp2_with (first | (refine wpList_store_row rfl 38 _ _ rfl w.heap.size #[.int .u64 sm, .int .u32 n] rfl rfl _ _ hrb hinf rfl (bl_one _ _) ?_) | fail)
        try rw [Exit.noGoto_ret]
        refine bodyPost_ret (results_cell_tmp rfl _ _ w.heap.size _ #[.int .u64 sm, .int .u32 n] _ _ rfl (setRow_heap _ _ _ _ _ _ hrb) Tryz.underlying38 rfl hinf) rfl ?_
        have hend := HEND.out _ (below_setRow HBWA.out (Nat.le_refl _) #[.int .u64 sm, .int .u32 n])
        rw [← HR2.out] at hend
        exact hend
      have d2 : decide (sm < x.1) = false := decide_eq_false h2
      have hrb5 : ∀ w5, Below (wr.alloc (bO x)).heap.size (wr.alloc (bO x)) w5 → w5.heap[w.heap.size]? = some (bO (0, 0)) := fun w5 hb => (hb.block _ (by have := HSZ.out; simp; omega)).trans hrb
      have HRB5 := Lib.hid hrb5
      clear hrb5
      by_cases h3 : hasB s.fs x bytes = true
      · have HR2 : Hid ((x, true) = LB) := Lib.hid (by have := HST.out; rw [HR.out, if_neg h1, if_neg h2, if_pos h3] at this; exact this.symm)
        rw [h3] at HHAS
        clear h1 h2 h3 HST
        go_wp2_with (first
          | (go_at_call 45; refine HHAS.out.mono ?_; rintro e w5 ⟨rfl, hb5⟩; have y0 := (hb5.cell (World.block_lt_of_cell? _ _ x0)).trans x0; have y1 := (hb5.cell (World.block_lt_of_cell? _ _ x1)).trans x1; have hrb6 := HRB5.out w5 hb5; have HB5 : Hid (Below w.heap.size w w5) := Lib.hid (HBWA.out.trans (hb5.mono HBWA.out.size)); clear hb5 x0 x1 F0 F1 q0 q1 hrb)
          | (refine wpList_store_row rfl 38 _ _ rfl w.heap.size #[.int .u64 x.1, .int .u32 x.2] rfl rfl _ _ hrb6 hinf rfl (bl_one _ _) ?_)
          | fail)
        try rw [Exit.noGoto_ret]
        refine bodyPost_ret (results_cell_tmp rfl _ _ w.heap.size _ #[.int .u64 x.1, .int .u32 x.2] _ _ rfl (setRow_heap _ _ _ _ _ _ hrb6) Tryz.underlying38 rfl hinf) rfl ?_
        have hend := HEND.out _ (below_setRow HB5.out (Nat.le_refl _) #[.int .u64 x.1, .int .u32 x.2])
        rw [← HR2.out] at hend
        exact hend
      have h3f : hasB s.fs x bytes = false := by simpa using h3
      rw [h3f] at HHAS
      have heq := eq_bl x (sm, n)
      dsimp only at heq
      by_cases h4 : x = (sm, n)
      · have d4 : decide (x = (sm, n)) = true := decide_eq_true h4
        have HR2 : Hid (lookL (fun x => hasB s.fs x bytes) sm (L.drop (k + 1)) (n + 1) = LB) := Lib.hid (by have := HST.out; rw [HR.out, if_neg h1, if_neg h2, if_neg h3, if_pos h4] at this; exact this.symm)
        rw [d4] at heq
        have hw1 : IntKind.u32.wrap ((n : Int) + 1) = ((n + 1 : Nat) : Int) := by rw [IntKind.wrap_u32]; omega
        clear h1 h2 h3 h4 HST d4 h3f
        go_wp2_with (first
          | (go_at_call 45; refine HHAS.out.mono ?_; rintro e w5 ⟨rfl, hb5⟩; have y0 := (hb5.cell (World.block_lt_of_cell? _ _ x0)).trans x0; have y1 := (hb5.cell (World.block_lt_of_cell? _ _ x1)).trans x1; have HI5 := Lib.hid ((HI.out.below HBA.out).below hb5); obtain ⟨G0, G1⟩ := b_cells HI5.out.free; have gfz : w5.frozen? ⟨fb, 1, none⟩ = false := (by simp [World.frozen?, HI5.out.free]); clear hb5 x0 x1 F0 F1 q0 q1 hrb)
          | fail)
        go_roundw
        case rel => exact ⟨k + 1, n + 1, by go_num, by omega, by omega, HR2, Lib.hid HI5.out.next⟩
        case measure => simp [intOf]; omega
      · have d4 : decide (x = (sm, n)) = false := decide_eq_false h4
        have HR2 : Hid (lookL (fun x => hasB s.fs x bytes) sm (L.drop (k + 1)) n = LB) := Lib.hid (by have := HST.out; rw [HR.out, if_neg h1, if_neg h2, if_neg h3, if_neg h4] at this; exact this.symm)
        rw [d4] at heq
        clear h1 h2 h3 h4 HST d4 h3f
        go_wp2_with (first
          | (go_at_call 45; refine HHAS.out.mono ?_; rintro e w5 ⟨rfl, hb5⟩; have y0 := (hb5.cell (World.block_lt_of_cell? _ _ x0)).trans x0; have y1 := (hb5.cell (World.block_lt_of_cell? _ _ x1)).trans x1; have HI5 := Lib.hid ((HI.out.below HBA.out).below hb5); obtain ⟨G0, G1⟩ := b_cells HI5.out.free; clear hb5 x0 x1 F0 F1 q0 q1 hrb)
          | fail)
        go_roundw
        case rel => exact ⟨k + 1, n, by go_num, by omega, by omega, HR2, HI5⟩
        case measure => simp [intOf]; omega
    · have hdec : decide (k < L.length) = false := by simpa using hlt
      have HR2 : Hid (((sm, n), false) = LB) := Lib.hid (by have := HR.out; rw [List.drop_of_length_le (by omega)] at this; exact this)
      have hrb : wr.heap[w.heap.size]? = some (bO (0, 0)) := by
        rw [HI.out.keeps.block w.heap.size (by have := HSZ.out; omega) (by omega)]; exact HRB.out
      go_wp2_with (first | (refine wpList_store_row rfl 38 _ _ rfl w.heap.size #[.int .u64 sm, .int .u32 n] rfl rfl _ _ hrb hinf rfl (bl_one _ _) ?_) | fail)
      try rw [Exit.noGoto_ret]
      refine bodyPost_ret (results_cell_tmp rfl _ _ w.heap.size _ #[.int .u64 sm, .int .u32 n] _ _ rfl (setRow_heap _ _ _ _ _ _ hrb) Tryz.underlying38 rfl hinf) rfl ?_
      have hend := HEND.out _ (below_setRow HBWR.out (Nat.le_refl _) #[.int .u64 sm, .int .u32 n])
      rw [← HR2.out] at hend
      exact hend
end BlobC
end Go.Proofs.YtfbdhlpgklkjmaaGreatDoor
namespace Go.Proofs.YtfbdhlpgklkjmaaGreatDoor
open Go.RowKit Go.Sort
namespace BlobC
open BlobM PathM DiskM DiskC ErrC PathC StrC TextR
open VerM (B)
open DiskP (RP disk_dev)
set_option linter.unusedSimpArgs false
set_option linter.unusedVariables false

theorem stage_str : mkE (stageN 1) = .returned (.tuple #[.string stageB, .int .i64 0]) := by
  rw [mkE_some (by decide +kernel)]; rfl
theorem derr_from {w0 w w' : World} {ev : Value} {c : Nat} {t : ByteArray} (h : DErr w w' ev c t) (hs : w0.heap.size ≤ w.heap.size) : DErr w0 w' ev c t := DiskP.DErr.from h hs
/-- how a call ends that may write the disk -/
def DiskE (D : Nat) (b : Nat) (F : Nat → Prop) (cut : Int) (c : Nat) (t : ByteArray) (s2 : DS) (w : World) (mk : Value → Value) (e : Ending) (w' : World) : Prop :=
  ∃ ev F', e = .returned (mk ev) ∧ DErr w w' ev c t ∧ Bs D w' b F' cut s2 ∧ Keeps F w w' ∧ ∀ i, F' i → F i ∨ w.heap.size ≤ i
set_option maxHeartbeats 8000000 in
set_option maxRecDepth 100000 in
theorem write_any {D p b : Nat} {F : Nat → Prop} {cut : Int} {s : DS} {w : World} (x : Bl) (bytes : ByteArray) (h : Bs D w b F cut s) (hp : Sto w p b F) (hx : Ok x) (hg : DiskC.Good s.fs) (hc : s.count ≤ 549755000000) (hz : bytes.size ≤ 65536) :
    Calls Tryz.prog 29 #[.pointer (some ⟨p, 0, none⟩), bV x, .string bytes] w (DiskE D b F cut (storeS cut bytes x s).code (storeS cut bytes x s).what (storeS cut bytes x s).s w id) := by
  have HB0 : Hid (Below w.heap.size w (w.alloc (bO x))) := Lib.hid ((Below.refl _ _).alloc (Nat.le_refl _) _)
  have HBS0 := Lib.hid (h.below HB0.out)
  have HPS0 := Lib.hid (hp.below HB0.out)
  have HG := Lib.hid hg
  have HGP := Lib.hid (put_good (cut := cut) (name := stageB) (x := bytes) (s := s) hg)
  have HX := Lib.hid hx
  have HFL : Hid (∀ i, F i → i < w.heap.size) := Lib.hid (fun i hi => (disk_dev D).lt h.ln.rep i hi)
  have HSTG := Lib.hid (pStage_any 1 (w.alloc (bO x)) (by decide) (by decide) HBS0.out.tab)
  rw [stage_str] at HSTG
  obtain ⟨c0, c1⟩ := b_cells (heap_alloc_new w (bO x))
  obtain ⟨ST, hST⟩ : ∃ ST, storeS cut bytes x s = ST := ⟨_, rfl⟩
  rw [hST]
  have HSTO := Lib.hid hST
  clear h hp hg hx hST
  go_enter Tryz.func29, Tryz.ntmps29
  go_wp2_with (first
    | (go_at_call 46; refine HSTG.out.mono ?_; rintro e w1 ⟨rfl, hb1⟩; have HBS1 := Lib.hid (HBS0.out.below hb1); have HPS1 := Lib.hid (HPS0.out.below hb1); have p1 := HPS1.out.cell; have y0 := (hb1.cell (World.block_lt_of_cell? _ _ c0)).trans c0; have y1 := (hb1.cell (World.block_lt_of_cell? _ _ c1)).trans c1; have HB1 : Hid (Below w.heap.size w w1) := Lib.hid (HB0.out.trans (hb1.mono HB0.out.size)); have HZ1 : Hid (w.heap.size < w1.heap.size) := Lib.hid (by have := hb1.size; simp at this; omega); clear hb1 c0 c1 HSTG)
    | fail)
  refine ((disk_dev D).put stageB bytes HBS1.out.ln.rep HG.out (by omega) HBS1.out.ln.vars).mono ?_
  rintro e w2 ⟨ev, F1, rfl, hde, hr, hk, hf⟩
  have HBS2 := Lib.hid (HBS1.out.dev hr hk hf)
  have HPS2 := Lib.hid (HPS1.out.dev hk hf)
  have HK2 : Hid (Keeps F w w2) := Lib.hid ((Keeps.of_below (S := F) HB1.out).trans hk)
  have HF2 : Hid (∀ i, F1 i → F i ∨ w1.heap.size ≤ i) := Lib.hid hf
  have HDE := Lib.hid hde
  have hbx : w2.heap[w.heap.size]? = w1.heap[w.heap.size]? := hk.block _ HZ1.out (fun hF => by have := HFL.out _ hF; omega)
  have z0 := (World.cell?_of_block (a := ⟨w.heap.size, 0, none⟩) hbx).trans y0
  have z1 := (World.cell?_of_block (a := ⟨w.heap.size, 1, none⟩) hbx).trans y1
  have HZ2 : Hid (w1.heap.size ≤ w2.heap.size) := Lib.hid hk.size
  clear hde hr hk hf hbx y0 y1 p1
  have p2 := HPS2.out.cell
  by_cases hcode : (putS cut stageB bytes s).1 = 0
  · obtain ⟨hev⟩ : ∃ _ : ev = .nilIface, True := ⟨by rcases HDE.out with ⟨-, h⟩ | ⟨h, -⟩; exact h; exact absurd hcode h, trivial⟩
    subst hev
    have HST : Hid (ST = ⟨(renameS cut stageB (nameB x) (putS cut stageB bytes s).2).1, (renameS cut stageB (nameB x) (putS cut stageB bytes s).2).2.1, x, (renameS cut stageB (nameB x) (putS cut stageB bytes s).2).2.2⟩) := Lib.hid (by rw [← HSTO.out]; unfold storeS; rw [if_neg (by simpa using hcode)])
    clear HDE hcode HSTO
    generalize (putS cut stageB bytes s).2 = s1 at *
    have HFO : Hid (∀ W, Below w2.heap.size w2 W → Calls Tryz.prog 34 #[bV x] W fun e w' => e = .returned (.string (nameB x)) ∧ Below W.heap.size W w') := Lib.hid (fun W g => fileOf_any x W HX.out (HBS2.out.tab.below g))
    have HRN : Hid (∀ W, Below w2.heap.size w2 W → Calls Tryz.prog 48 #[.pointer (some ⟨b, 0, none⟩), .string stageB, .string (nameB x)] W (DevE (RP D) F1 b cut (renameS cut stageB (nameB x) s1).1 (renameS cut stageB (nameB x) s1).2.1 (renameS cut stageB (nameB x) s1).2.2 W)) := Lib.hid (fun W g =>
      (disk_dev D).rename stageB (nameB x) (HBS2.out.below g).ln.rep HGP.out.1 (by have := HGP.out.2; omega) (HBS2.out.below g).ln.vars)
    have HBD : Hid (Below w2.heap.size w2 w2.drew) := Lib.hid ⟨rfl, rfl, rfl, Nat.le_refl _, fun _ _ => rfl⟩
    generalize renameS cut stageB (nameB x) s1 = rr at *
    generalize nameB x = nm at *
    have HXF : Hid (¬ F1 w.heap.size ∧ ¬ F1 p) := Lib.hid ⟨fun hF => by
      rcases HF2.out _ hF with h1 | h1
      · have := HFL.out _ h1; omega
      · have := HZ1.out; omega, HPS2.out.sep⟩
    have HLTS : Hid (w.heap.size < w2.heap.size ∧ p < w2.heap.size) := Lib.hid ⟨by have := HZ1.out; have := HZ2.out; omega, HPS2.out.lt⟩
    go_wp2_with fail
    go_region_held3 (fun w' => w'.cell? ⟨p, 0, none⟩ = some (.pointer (some ⟨b, 0, none⟩)) ∧ w'.cell? ⟨w.heap.size, 0, none⟩ = some (.int .u64 x.1) ∧ w'.cell? ⟨w.heap.size, 1, none⟩ = some (.int .u32 x.2))
      (first | exact ⟨p2, z0, z1⟩ | assumption | fail)
      (first
        | (go_at_call 34; refine (HFO.out _ HBD.out).mono ?_; rintro e w3 ⟨rfl, hb3⟩
           have HB3 : Hid (Below w2.heap.size w2 w3) := Lib.hid (HBD.out.trans (hb3.mono HBD.out.size))
           have hS3 : w3.cell? ⟨p, 0, none⟩ = some (.pointer (some ⟨b, 0, none⟩)) ∧ w3.cell? ⟨w.heap.size, 0, none⟩ = some (.int .u64 x.1) ∧ w3.cell? ⟨w.heap.size, 1, none⟩ = some (.int .u32 x.2) := ⟨(HB3.out.cell HLTS.out.2).trans p2, (HB3.out.cell HLTS.out.1).trans z0, (HB3.out.cell HLTS.out.1).trans z1⟩
           clear hb3)
        | (go_at_call 48; refine (HRN.out w3 HB3.out).mono ?_; rintro e w4 ⟨ev, F2, rfl, hde4, hr4, hk4, hf4⟩
           have hb1 := hk4.block p (Nat.lt_of_lt_of_le HLTS.out.2 HB3.out.size) HXF.out.2
           have hb2 := hk4.block w.heap.size (Nat.lt_of_lt_of_le HLTS.out.1 HB3.out.size) HXF.out.1
           have hS4 : w4.cell? ⟨p, 0, none⟩ = some (.pointer (some ⟨b, 0, none⟩)) ∧ w4.cell? ⟨w.heap.size, 0, none⟩ = some (.int .u64 x.1) ∧ w4.cell? ⟨w.heap.size, 1, none⟩ = some (.int .u32 x.2) := ⟨(World.cell?_of_block (a := ⟨p, 0, none⟩) hb1).trans hS3.1, (World.cell?_of_block (a := ⟨w.heap.size, 0, none⟩) hb2).trans hS3.2.1, (World.cell?_of_block (a := ⟨w.heap.size, 1, none⟩) hb2).trans hS3.2.2⟩
           have HE4 := Lib.hid (And.intro hde4 (And.intro hr4 (And.intro hk4 hf4)))
           clear hde4 hr4 hk4 hf4 hb1 hb2)
        | fail)
    all_goals (go_wp2_with fail)
    all_goals go_ret
    all_goals
      obtain ⟨hde4, hr4, hk4, hf4⟩ := HE4.out
      have hz23 := HB3.out.size
      have hz1 := HZ1.out
      have hz2 := HZ2.out
      have hz12 := HB1.out.size
      refine ⟨_, F2, rfl, by rw [HST.out]; exact derr_from hde4 (by omega), by rw [HST.out]; exact (HBS2.out.below HB3.out).dev hr4 hk4 hf4, ?_, fun i hi => ?_⟩
      · exact (HK2.out.trans (Keeps.of_below HB3.out)).then hk4 (fun i hi hF => by
          rcases HF2.out i hF with h1 | h1
          · exact h1
          · omega)
      · rcases hf4 i hi with h1 | h1
        · rcases HF2.out i h1 with h2 | h2
          · exact .inl h2
          · exact .inr (by omega)
        · exact .inr (by omega)
  · obtain ⟨f, hev⟩ : ∃ f, ev = .iface 84 (.pointer (some ⟨f, 0, none⟩)) := by
      rcases HDE.out with ⟨h, -⟩ | ⟨-, f, h, -⟩
      · exact absurd h hcode
      · exact ⟨f, h⟩
    subst hev
    have HST : Hid (ST = ⟨(putS cut stageB bytes s).1, stageB, x, (putS cut stageB bytes s).2⟩) := Lib.hid (by rw [← HSTO.out]; unfold storeS; rw [if_pos (by simpa using hcode)])
    clear hcode HSTO
    generalize putS cut stageB bytes s = ps at *
    go_wp2_with fail
    go_ret
    have hz12 := HB1.out.size
    refine ⟨_, F1, rfl, by rw [HST.out]; exact derr_from HDE.out hz12, by rw [HST.out]; exact HBS2.out, HK2.out, fun i hi => ?_⟩
    rcases HF2.out i hi with h1 | h1
    · exact .inl h1
    · exact .inr (by omega)

/-! ### Put -/
theorem row_end {D : Nat} {w w1 w5 : World} {b : Nat} {F F5 : Nat → Prop} {cut : Int} {s5 : DS} {ev : Value} {c : Nat} {t : ByteArray} (cs : Array Value) (hw : w.heap.size < w1.heap.size) (hbs : Bs D w5 b F5 cut s5) (hd : DErr w1 w5 ev c t) (hk : Keeps F w w5) (hf : ∀ i, F5 i → F i ∨ w1.heap.size ≤ i) (hF : ∀ i, F i → i < w.heap.size) (hD : D ≤ w.heap.size) :
    DErr w (w5.setRow w.heap.size cs) ev c t ∧ Bs D (w5.setRow w.heap.size cs) b F5 cut s5 ∧ Keeps F w (w5.setRow w.heap.size cs) ∧ ∀ i, F5 i → F i ∨ w.heap.size ≤ i := by
  have kr := keeps_row w5 w.heap.size cs
  refine ⟨derr_from (hd.keeps kr (fun i e => by omega)) (Nat.le_of_lt hw), hbs.keeps kr (fun i hi e => ?_) (fun i e => by omega), hk.then kr (fun i hi e => by omega), fun i hi => ?_⟩
  · rcases hf i hi with h1 | h1
    · have := hF i h1; omega
    · omega
  · rcases hf i hi with h1 | h1
    · exact .inl h1
    · exact .inr (by omega)
theorem look_ok {fs : FL} {bytes : ByteArray} {L : List Bl} (hr : L.Pairwise (fun a b => ¬ cmpB b a < 0)) (hl : L.length ≤ 60000) (hf : (lookB fs bytes L).2 = false) : Ok (lookB fs bytes L).1 := by
  obtain ⟨a1, a2, a3, _⟩ := look_no (P := fun x => hasB fs x bytes) hr hf
  refine ⟨?_, a2, ?_⟩
  · show (lookL _ _ _ _).1.1 < _
    rw [a1]; exact sumN_lt _
  · show (lookL _ _ _ _).1.2 ≤ _
    omega
def PutE (D b : Nat) (F : Nat → Prop) (cut : Int) (bytes : ByteArray) (s : DS) (w : World) (e : Ending) (w' : World) : Prop :=
  ∃ L, (s.dead = false → bytes.size ≤ 65536 → AllP (namesS s) L) ∧ DiskE D b F cut (putR cut bytes L s).code (putR cut bytes L s).what (putR cut bytes L s).s w (fun ev => .tuple #[bV (putR cut bytes L s).b, ev]) e w'
set_option maxHeartbeats 8000000 in
set_option maxRecDepth 100000 in
theorem put_any {D p b : Nat} {F : Nat → Prop} {cut : Int} {s : DS} {w : World} (bytes : ByteArray) (h : Bs D w b F cut s) (hp : Sto w p b F) (hg : DiskC.Good s.fs) (hl : s.fs.length ≤ 300) (hc : s.count ≤ 549755000000) (hz : bytes.size ≤ 9223372036854775807) :
    Calls Tryz.prog 10 #[.pointer (some ⟨p, 0, none⟩), .string bytes] w (PutE D b F cut bytes s w) := by
  have HB0 : Hid (Below w.heap.size w (w.alloc (bO (0, 0)))) := Lib.hid ((Below.refl _ _).alloc (Nat.le_refl _) _)
  have hs0 : (w.alloc (bO (0, 0))).heap.size = w.heap.size + 1 := by simp
  have HBS0 := Lib.hid (h.below HB0.out)
  have HPS0 := Lib.hid (hp.below HB0.out)
  have hrb : (w.alloc (bO (0, 0))).heap[w.heap.size]? = some (bO (0, 0)) := heap_alloc_new w _
  have HG := Lib.hid hg
  have HL := Lib.hid hl
  have HFL : Hid (∀ i, F i → i < w.heap.size) := Lib.hid (fun i hi => (disk_dev D).lt h.ln.rep i hi)
  have HDW : Hid (D ≤ w.heap.size) := Lib.hid h.ln.hw
  have HK0 : Hid (Keeps F w (w.alloc (bO (0, 0)))) := Lib.hid (Keeps.of_below HB0.out)
  have hinf := info_bls
  have hp0 := HPS0.out.cell
  clear h hp hg hl
  generalize hW : w.alloc (bO (0, 0)) = w0 at *
  have HT := Lib.hid (there_any p b w0 hp0)
  have hsz0 : w.heap.size < w0.heap.size := by omega
  by_cases hbig : 65536 < bytes.size
  · have hd : decide (65536 < bytes.size) = true := decide_eq_true hbig
    have hd2 : decide ((65536 : Int) < bytes.size) = true := decide_eq_true (by omega)
    have HFT := Lib.hid (bfault_any 4 ⟨#[]⟩ w0)
    have HR : Hid (∀ L, putR cut bytes L s = ⟨4, ⟨#[]⟩, (0, 0), s⟩) := Lib.hid (fun L => by unfold putR; rw [if_pos hbig])
    have HNO : Hid (bytes.size ≤ 65536 → False) := Lib.hid (fun h => by omega)
    have HD1 := Lib.hid (DiskP.fault_derr 4 (by decide) ⟨#[]⟩ w0)
    rw [hs0] at HD1
    have HB1 := Lib.hid (DiskP.fault_below 4 ⟨#[]⟩ w0)
    have hrb1 := (HB1.out.block _ hsz0).trans hrb
    clear hbig hrb
    generalize hW1 : DiskP.faultW 4 ⟨#[]⟩ w0 = w1 at *
    subst hW
    go_enter Tryz.func10, Tryz.ntmps10
    go_wp2_with (first
      | (go_at_call 24; refine HT.out.mono ?_; rintro e w' ⟨rfl, rfl⟩)
      | (go_at_call 20; refine HFT.out.mono ?_; rintro e w' ⟨rfl, rfl⟩)
      | (refine wpList_store_row rfl 38 _ _ rfl w.heap.size #[.int .u64 0, .int .u32 0] rfl rfl _ _ hrb1 hinf rfl (bl_one _ _) ?_)
      | fail)
    refine bodyPost_ret (results_cell_tmp rfl _ _ w.heap.size _ #[.int .u64 0, .int .u32 0] _ _ rfl (setRow_heap _ _ _ _ _ _ hrb1) Tryz.underlying38 rfl hinf) rfl ?_
    refine ⟨[], fun _ h => (HNO.out h).elim, ?_⟩
    rw [HR.out]
    obtain ⟨a1, a2, a3, a4⟩ := row_end #[.int .u64 0, .int .u32 0] hsz0 (HBS0.out.below HB1.out) HD1.out (HK0.out.trans (Keeps.of_below HB1.out)) (fun i hi => .inl hi) HFL.out HDW.out
    exact ⟨_, F, rfl, a1, a2, a3, a4⟩
  have HSM : Hid (bytes.size ≤ 65536) := Lib.hid (by omega)
  have hd : decide (65536 < bytes.size) = false := decide_eq_false hbig
  have hd2 : decide ((65536 : Int) < bytes.size) = false := decide_eq_false (by omega)
  have HDE := Lib.hid ((disk_dev D).dead HBS0.out.ln.rep HG.out HBS0.out.ln.vars)
  by_cases hdead : s.dead = true
  · rw [hdead] at HDE
    have HR : Hid (∀ L, putR cut bytes L s = ⟨5, ⟨#[]⟩, (0, 0), s⟩) := Lib.hid (fun L => by unfold putR; rw [if_neg hbig, if_pos hdead])
    have HNO : Hid (s.dead = false → False) := Lib.hid (fun h => by rw [h] at hdead; cases hdead)
    clear hbig hdead
    subst hW
    go_enter Tryz.func10, Tryz.ntmps10
    go_wp2_with (first
      | (go_at_call 24; refine HT.out.mono ?_; rintro e w' ⟨rfl, rfl⟩)
      | (go_at_call 11; refine HDE.out.mono ?_; rintro e w1 ⟨rfl, hb1⟩; have HB1 := Lib.hid hb1; have hrb1 := (hb1.block _ hsz0).trans hrb; clear hb1)
      | (go_at_call 20; refine (bfault_any 5 ⟨#[]⟩ w1).mono ?_; rintro e w' ⟨rfl, rfl⟩; have HD2 := Lib.hid (DiskP.fault_derr 5 (by decide) ⟨#[]⟩ w1); have HB2 := Lib.hid (DiskP.fault_below 5 ⟨#[]⟩ w1); have hrb2 := (HB2.out.block _ (Nat.lt_of_lt_of_le hsz0 HB1.out.size)).trans hrb1; generalize hW1 : DiskP.faultW 5 ⟨#[]⟩ w1 = w2 at *)
      | (refine wpList_store_row rfl 38 _ _ rfl w.heap.size #[.int .u64 0, .int .u32 0] rfl rfl _ _ hrb2 hinf rfl (bl_one _ _) ?_)
      | fail)
    refine bodyPost_ret (results_cell_tmp rfl _ _ w.heap.size _ #[.int .u64 0, .int .u32 0] _ _ rfl (setRow_heap _ _ _ _ _ _ hrb2) Tryz.underlying38 rfl hinf) rfl ?_
    refine ⟨[], fun h _ => (HNO.out h).elim, ?_⟩
    rw [HR.out]
    obtain ⟨a1, a2, a3, a4⟩ := row_end #[.int .u64 0, .int .u32 0] hsz0 ((HBS0.out.below HB1.out).below HB2.out) (derr_from HD2.out HB1.out.size) ((HK0.out.trans (Keeps.of_below HB1.out)).trans (Keeps.of_below HB2.out)) (fun i hi => .inl hi) HFL.out HDW.out
    exact ⟨_, F, rfl, a1, a2, a3, a4⟩
  have hdf : s.dead = false := by simpa using hdead
  have HDF := Lib.hid hdf
  rw [hdf] at HDE
  have hnm : namesS s = s.fs.map (·.1) := by unfold namesS; rw [hdf]; rfl
  have HNM := Lib.hid hnm
  have HLK : Hid (∀ w1, Below w0.heap.size w0 w1 → Calls Tryz.prog 28 #[.pointer (some ⟨p, 0, none⟩), .string bytes] w1 (LookE s bytes w1)) := Lib.hid (fun w1 hb => look_any bytes (HBS0.out.below hb) (HPS0.out.below hb) HG.out HL.out HDF.out (by have := HSM.out; omega))
  have HR : Hid (∀ L, putR cut bytes L s = if (lookB s.fs bytes L).2 = true then ⟨0, ⟨#[]⟩, (lookB s.fs bytes L).1, s⟩
      else if (storeS cut bytes (lookB s.fs bytes L).1 s).code ≠ 0 then ⟨(storeS cut bytes (lookB s.fs bytes L).1 s).code, (storeS cut bytes (lookB s.fs bytes L).1 s).what, (0, 0), (storeS cut bytes (lookB s.fs bytes L).1 s).s⟩
      else ⟨0, ⟨#[]⟩, (lookB s.fs bytes L).1, (storeS cut bytes (lookB s.fs bytes L).1 s).s⟩) := Lib.hid (fun L => by unfold putR; rw [if_neg hbig, if_neg hdead])
  clear hbig hdead hdf hnm
  subst hW
  go_enter Tryz.func10, Tryz.ntmps10
  go_wp2_with (first
    | (go_at_call 24; refine HT.out.mono ?_; rintro e w' ⟨rfl, rfl⟩)
    | (go_at_call 11; refine HDE.out.mono ?_; rintro e w1 ⟨rfl, hb1⟩; have HB1 := Lib.hid hb1; clear hb1)
    | fail)
  refine (HLK.out _ HB1.out).mono ?_
  rintro e w2 ⟨L, hap, rfl, hb2⟩
  have HB2 : Hid (Below (w.alloc (bO (0, 0))).heap.size (w.alloc (bO (0, 0))) w2) := Lib.hid (HB1.out.trans (hb2.mono HB1.out.size))
  have HAP := Lib.hid hap
  have HRL := Lib.hid (HR.out L)
  have hrb2 := (HB2.out.block _ hsz0).trans hrb
  have HOKN : Hid ((lookB s.fs bytes L).2 = false → Ok (lookB s.fs bytes L).1) := Lib.hid (fun h => look_ok hap.rise (by have := hap.len; rw [HNM.out, List.length_map] at this; have := HL.out; omega) h)
  obtain ⟨x, hx⟩ : ∃ x, (lookB s.fs bytes L).1 = x := ⟨_, rfl⟩
  obtain ⟨fd, hfd⟩ : ∃ fd, (lookB s.fs bytes L).2 = fd := ⟨_, rfl⟩
  rw [hx, hfd] at HRL HOKN
  rw [hx, hfd]
  have HBX : Hid (Below (w.alloc (bO (0, 0))).heap.size (w.alloc (bO (0, 0))) (w2.alloc (bO x))) := Lib.hid (HB2.out.alloc HB2.out.size _)
  have hrb3 := (HBX.out.block _ hsz0).trans hrb
  obtain ⟨c0, c1⟩ := b_cells (heap_alloc_new w2 (bO x))
  have HS2 : Hid (w.heap.size < w2.heap.size) := Lib.hid (Nat.lt_of_lt_of_le hsz0 HB2.out.size)
  clear hap hb2 hx hfd HB1 HR HLK HDE HT hrb2 hrb
  have HBS3 := Lib.hid (HBS0.out.below HBX.out)
  have HPS3 := Lib.hid (HPS0.out.below HBX.out)
  by_cases hf : fd = true
  · subst hf
    have HR2 : Hid (putR cut bytes L s = ⟨0, ⟨#[]⟩, x, s⟩) := Lib.hid (by rw [HRL.out, if_pos rfl])
    go_wp2_with (first
      | (refine wpList_store_row rfl 38 _ _ rfl w.heap.size #[.int .u64 x.1, .int .u32 x.2] rfl rfl _ _ hrb3 hinf rfl (bl_one _ _) ?_)
      | fail)
    refine bodyPost_ret (results_cell_tmp rfl _ _ w.heap.size _ #[.int .u64 x.1, .int .u32 x.2] _ _ rfl (setRow_heap _ _ _ _ _ _ hrb3) Tryz.underlying38 rfl hinf) rfl ?_
    refine ⟨L, fun _ _ => HAP.out, ?_⟩
    rw [HR2.out]
    obtain ⟨a1, a2, a3, a4⟩ := row_end (w1 := w.alloc (bO (0, 0))) (ev := .nilIface) (c := 0) (t := ⟨#[]⟩) #[.int .u64 x.1, .int .u32 x.2] hsz0 HBS3.out (.inl ⟨rfl, rfl⟩) (HK0.out.trans (Keeps.of_below HBX.out)) (fun i hi => .inl hi) HFL.out HDW.out
    exact ⟨_, F, rfl, a1, a2, a3, a4⟩
  have hf : fd = false := by simpa using hf
  subst hf
  have HWR := Lib.hid (write_any x bytes HBS3.out HPS3.out (HOKN.out rfl) HG.out hc HSM.out)
  obtain ⟨ST, hST⟩ : ∃ ST, storeS cut bytes x s = ST := ⟨_, rfl⟩
  rw [hST] at HWR HRL
  clear hST
  have hrow0 := heap_alloc_new w2 (bO x)
  go_wp2_with fail
  refine HWR.out.mono ?_
  rintro e w5 ⟨ev, F5, rfl, hde, hbs, hk, hff⟩
  have hbx : w5.heap[w2.heap.size]? = (w2.alloc (bO x)).heap[w2.heap.size]? := hk.block _ (by simp) (fun hF => by have := HFL.out _ hF; have := HS2.out; omega)
  obtain ⟨d0, d1⟩ := b_cells (hbx.trans hrow0)
  have hrb5 : w5.heap[w.heap.size]? = some (bO (0, 0)) := (hk.block _ (by have := HS2.out; simp; omega) (fun hF => by have := HFL.out _ hF; omega)).trans hrb3
  have HBS5 := Lib.hid hbs
  have HDE5 := Lib.hid (derr_from (w0 := w.alloc (bO (0, 0))) hde HBX.out.size)
  have HK5 : Hid (Keeps F w w5) := Lib.hid ((HK0.out.trans (Keeps.of_below HBX.out)).trans hk)
  have HF5 : Hid (∀ i, F5 i → F i ∨ (w.alloc (bO (0, 0))).heap.size ≤ i) := Lib.hid (fun i hi => (hff i hi).imp id (fun h => Nat.le_trans HBX.out.size h))
  clear hde hbs hk hff hbx hrow0 c0 c1 hrb3 HWR
  by_cases hcode : ST.code = 0
  · have hev : ev = .nilIface := by
      rcases HDE5.out with ⟨-, h⟩ | ⟨h, -⟩
      · exact h
      · exact absurd hcode h
    subst hev
    have HR2 : Hid (putR cut bytes L s = ⟨0, ⟨#[]⟩, x, ST.s⟩) := Lib.hid (by rw [HRL.out, if_neg (by decide), if_neg (by simpa using hcode)])
    clear hcode HDE5
    dsimp only [id]
    go_wp2_with (first
      | (refine wpList_store_row rfl 38 _ _ rfl w.heap.size #[.int .u64 x.1, .int .u32 x.2] rfl rfl _ _ hrb5 hinf rfl (bl_one _ _) ?_)
      | fail)
    refine bodyPost_ret (results_cell_tmp rfl _ _ w.heap.size _ #[.int .u64 x.1, .int .u32 x.2] _ _ rfl (setRow_heap _ _ _ _ _ _ hrb5) Tryz.underlying38 rfl hinf) rfl ?_
    refine ⟨L, fun _ _ => HAP.out, ?_⟩
    rw [HR2.out]
    obtain ⟨a1, a2, a3, a4⟩ := row_end (w1 := w.alloc (bO (0, 0))) (ev := .nilIface) (c := 0) (t := ⟨#[]⟩) #[.int .u64 x.1, .int .u32 x.2] hsz0 HBS5.out (.inl ⟨rfl, rfl⟩) HK5.out HF5.out HFL.out HDW.out
    exact ⟨_, F5, rfl, a1, a2, a3, a4⟩
  · obtain ⟨f, hev⟩ : ∃ f, ev = .iface 84 (.pointer (some ⟨f, 0, none⟩)) := by
      rcases HDE5.out with ⟨h, -⟩ | ⟨-, f, h, -⟩
      · exact absurd h hcode
      · exact ⟨f, h⟩
    subst hev
    have HR2 : Hid (putR cut bytes L s = ⟨ST.code, ST.what, (0, 0), ST.s⟩) := Lib.hid (by rw [HRL.out, if_neg (by decide), if_pos (by simpa using hcode)])
    clear hcode
    dsimp only [id]
    go_wp2_with (first
      | (refine wpList_store_row rfl 38 _ _ rfl w.heap.size #[.int .u64 0, .int .u32 0] rfl rfl _ _ hrb5 hinf rfl (bl_one _ _) ?_)
      | fail)
    refine bodyPost_ret (results_cell_tmp rfl _ _ w.heap.size _ #[.int .u64 0, .int .u32 0] _ _ rfl (setRow_heap _ _ _ _ _ _ hrb5) Tryz.underlying38 rfl hinf) rfl ?_
    refine ⟨L, fun _ _ => HAP.out, ?_⟩
    rw [HR2.out]
    obtain ⟨a1, a2, a3, a4⟩ := row_end (w1 := w.alloc (bO (0, 0))) #[.int .u64 0, .int .u32 0] hsz0 HBS5.out HDE5.out HK5.out HF5.out HFL.out HDW.out
    exact ⟨_, F5, rfl, a1, a2, a3, a4⟩
end BlobC
end Go.Proofs.YtfbdhlpgklkjmaaGreatDoor
namespace Go.Proofs.YtfbdhlpgklkjmaaGreatDoor
open Go.RowKit Go.Sort
namespace BlobC
open BlobM PathM DiskM DiskC ErrC PathC StrC TextR
open VerM (B)
open VerC (Txs)
open DiskP (RP disk_dev)
set_option linter.unusedSimpArgs false
set_option linter.unusedVariables false

/-! ### Get -/
def getR (x : Bl) (s : DS) : ByteArray × Nat × ByteArray :=
  if x.2 = 0 then (⟨#[]⟩, 2, ⟨#[]⟩) else if (readS (nameB x) s).2 ≠ 0 then (⟨#[]⟩, (readS (nameB x) s).2, nameB x)
  else if sumN (readS (nameB x) s).1.data.toList ≠ x.1 then (⟨#[]⟩, 120, nameB x) else ((readS (nameB x) s).1, 0, ⟨#[]⟩)
def GetE (x : Bl) (s : DS) (w : World) (e : Ending) (w' : World) : Prop := ∃ ev, e = .returned (.tuple #[.string (getR x s).1, ev]) ∧ DErr w w' ev (getR x s).2.1 (getR x s).2.2 ∧ Below w.heap.size w w'
set_option maxHeartbeats 4000000 in
set_option maxRecDepth 100000 in
theorem get_any {D p b : Nat} {F : Nat → Prop} {cut : Int} {s : DS} {w : World} (x : Bl) (h : Bs D w b F cut s) (hp : Sto w p b F) (hs : x.1 < 18446744073709551616) (hn : x.2 ≤ 4294967295) (hg : DiskC.Good s.fs) :
    Calls Tryz.prog 9 #[.pointer (some ⟨p, 0, none⟩), bV x] w (GetE x s w) := by
  have HB0 : Hid (Below w.heap.size w (w.alloc (bO x))) := Lib.hid ((Below.refl _ _).alloc (Nat.le_refl _) _)
  have HBS0 := Lib.hid (h.below HB0.out)
  have HPS0 := Lib.hid (hp.below HB0.out)
  have hp0 := HPS0.out.cell
  have HT := Lib.hid (there_any p b _ hp0)
  have HG := Lib.hid hg
  obtain ⟨c0, c1⟩ := b_cells (heap_alloc_new w (bO x))
  have HPB := Lib.hid (pBlob_any x.1 x.2 (w.alloc (bO x)) hs hn HBS0.out.tab)
  by_cases h0 : x.2 = 0
  · have HR : Hid (getR x s = (⟨#[]⟩, 2, ⟨#[]⟩)) := Lib.hid (by unfold getR; rw [if_pos h0])
    have e0 : mkE (blobN x.1 x.2) = .returned (.tuple #[.string (str []), .int .i64 110]) := by rw [h0]; rfl
    rw [e0] at HPB
    unfold GetE
    rw [HR.out]
    clear h hp hs hn hg h0 e0
    go_enter Tryz.func9, Tryz.ntmps9
    go_wp2_with (first
      | (go_at_call 24; refine HT.out.mono ?_; rintro e w' ⟨rfl, rfl⟩)
      | (go_at_call 25; refine HPB.out.mono ?_; rintro e w1 ⟨rfl, hb1⟩; have HB1 := Lib.hid hb1; clear hb1)
      | (go_at_call 20; refine (bfault_any 2 ⟨#[]⟩ w1).mono ?_; rintro e w' ⟨rfl, rfl⟩)
      | fail)
    go_ret2
    have HBW := HB0.out.trans (HB1.out.mono HB0.out.size)
    exact ⟨_, rfl, derr_from (DiskP.fault_derr 2 (by decide) ⟨#[]⟩ w1) HBW.size, HBW.trans ((DiskP.fault_below 2 ⟨#[]⟩ w1).mono HBW.size)⟩
  have hx : Ok x := ⟨hs, by omega, hn⟩
  rw [nameB_str hx] at HPB
  have HRD : Hid (∀ W, Below (w.alloc (bO x)).heap.size (w.alloc (bO x)) W → Calls Tryz.prog 26 #[.pointer (some ⟨b, 0, none⟩), .string (nameB x)] W fun e w' => ∃ ev, e = .returned (.tuple #[.string (readS (nameB x) s).1, ev]) ∧ DErr W w' ev (readS (nameB x) s).2 (nameB x) ∧ Below W.heap.size W w') := Lib.hid (fun W g => (disk_dev D).read (nameB x) (HBS0.out.below g).ln.rep HG.out (HBS0.out.below g).ln.vars)
  have HBZ : Hid ((readS (nameB x) s).1.size ≤ 16777216) := Lib.hid (by
    unfold readS
    split
    · show 0 ≤ _; omega
    split
    · show 0 ≤ _; omega
    split
    · show 0 ≤ _; omega
    · exact good_bytes hg _)
  have HR0 : Hid (getR x s = if (readS (nameB x) s).2 ≠ 0 then (⟨#[]⟩, (readS (nameB x) s).2, nameB x) else if sumN (readS (nameB x) s).1.data.toList ≠ x.1 then (⟨#[]⟩, 120, nameB x) else ((readS (nameB x) s).1, 0, ⟨#[]⟩)) := Lib.hid (by unfold getR; rw [if_neg h0])
  unfold GetE
  generalize getR x s = GR at *
  generalize readS (nameB x) s = rd at *
  obtain ⟨by', code⟩ := rd
  dsimp only at HRD HBZ HR0
  generalize nameB x = nm at *
  have HSO : Hid (∀ w, Calls Tryz.prog 27 #[.string by'] w fun e w' => e = .returned (.int .u64 (sumN by'.data.toList)) ∧ w = w') := Lib.hid (fun w => by rw [← sumN_fnv]; exact SumC.of_any by' w (by unfold maxLen; have := HBZ.out; omega))
  generalize sumN by'.data.toList = sm at *
  clear h hp hs hn hg h0 hx
  go_enter Tryz.func9, Tryz.ntmps9
  go_wp2_with (first
    | (go_at_call 24; refine HT.out.mono ?_; rintro e w' ⟨rfl, rfl⟩)
    | (go_at_call 25; refine HPB.out.mono ?_; rintro e w1 ⟨rfl, hb1⟩; have HB1 := Lib.hid hb1; have p1 := (hb1.cell (World.block_lt_of_cell? _ _ hp0)).trans hp0; have d0 := (hb1.cell (World.block_lt_of_cell? _ _ c0)).trans c0; clear hb1 c0 c1 hp0)
    | fail)
  refine (HRD.out _ HB1.out).mono ?_
  rintro e w2 ⟨ev, rfl, hde, hb2⟩
  have e0 := (hb2.cell (World.block_lt_of_cell? _ _ d0)).trans d0
  have HBW : Hid (Below w.heap.size w w2) := Lib.hid ((HB0.out.trans (HB1.out.mono HB0.out.size)).trans (hb2.mono (HB0.out.trans (HB1.out.mono HB0.out.size)).size))
  have HDE := Lib.hid (derr_from (w0 := w) hde (HB0.out.trans (HB1.out.mono HB0.out.size)).size)
  clear hde hb2 HB1 HRD HPB HT d0 p1
  by_cases hc : code = 0
  · have hev : ev = .nilIface := by
      rcases HDE.out with ⟨-, h⟩ | ⟨h, -⟩
      · exact h
      · exact absurd hc h
    subst hev
    by_cases hsm : sm = x.1
    · have HR1 : Hid (GR = (by', 0, ⟨#[]⟩)) := Lib.hid (by rw [HR0.out, if_neg (by simpa using hc), if_neg (by simpa using hsm)])
      subst hsm
      clear hc HDE
      go_wp2_with fail
      go_quiet ((go_at_call 27; exact Calls.quiet_of_same ((HSO.out _).mono fun _ _ h => ⟨h.1, h.2.symm⟩)))
      go_wp2_with fail
      go_ret2
      rw [HR1.out]
      exact ⟨_, rfl, .inl ⟨rfl, rfl⟩, below_drewN HBW.out _⟩
    · have HR1 : Hid (GR = (⟨#[]⟩, 120, nm)) := Lib.hid (by rw [HR0.out, if_neg (by simpa using hc), if_pos (by simpa using hsm)])
      have hd : decide (sm = x.1) = false := decide_eq_false hsm
      have hd2 : decide ((sm : Int) = x.1) = false := decide_eq_false (by omega)
      clear hc HDE
      go_wp2_with fail
      go_quiet ((go_at_call 27; exact Calls.quiet_of_same ((HSO.out _).mono fun _ _ h => ⟨h.1, h.2.symm⟩)))
      go_wp2_with (first | (go_at_call 20; refine (bfault_any 120 nm _).mono ?_; rintro e w' ⟨rfl, rfl⟩) | fail)
      go_ret2
      rw [HR1.out]
      exact ⟨_, rfl, derr_from (DiskP.fault_derr 120 (by decide) nm _) HBW.out.size, (below_drewN HBW.out _).trans ((DiskP.fault_below 120 nm _).mono HBW.out.size)⟩
  · obtain ⟨f, hev⟩ : ∃ f, ev = .iface 84 (.pointer (some ⟨f, 0, none⟩)) := by
      rcases HDE.out with ⟨h, -⟩ | ⟨-, f, h, -⟩
      · exact absurd h hc
      · exact ⟨f, h⟩
    subst hev
    have HR1 : Hid (GR = (⟨#[]⟩, code, nm)) := Lib.hid (by rw [HR0.out, if_pos (by simpa using hc)])
    clear hc
    go_wp2_with fail
    go_ret2
    rw [HR1.out]
    exact ⟨_, rfl, HDE.out, HBW.out⟩

/-! ### no store, no disk -/
theorem same_nil (w : World) : Calls Tryz.prog 19 #[.pointer none, .pointer none] w fun e w' => e = .returned (.bool false) ∧ Below w.heap.size w w' := by
  have HT := Lib.hid (fun w => DiskP.there_nil w)
  go_enter Tryz.func19, Tryz.ntmps19
  go_wp2_with fail
  go_quiet ((go_at_call 17; exact Calls.quiet_of_same ((HT.out _).mono fun _ _ h => ⟨h.1, h.2.symm⟩)))
  go_wp2_with fail
  go_ret
  exact ⟨rfl, below_drewN (Below.refl _ _) _⟩
def FaultE (c : Nat) (mk : Value → Value) (w : World) (e : Ending) (w' : World) : Prop := ∃ ev, e = .returned (mk ev) ∧ DErr w w' ev c ⟨#[]⟩ ∧ Below w.heap.size w w'
theorem open_nil (w : World) : Calls Tryz.prog 8 #[.pointer none] w (FaultE 1 (fun ev => .tuple #[.pointer none, ev]) w) := by
  go_enter Tryz.func8, Tryz.ntmps8
  go_wp2_with (first
    | (go_at_call 19; refine (same_nil w).mono ?_; rintro e w1 ⟨rfl, hb1⟩; have HB1 := Lib.hid hb1; clear hb1)
    | (go_at_call 20; refine (bfault_any 1 ⟨#[]⟩ w1).mono ?_; rintro e w' ⟨rfl, rfl⟩)
    | fail)
  go_ret2
  exact ⟨_, rfl, derr_from (DiskP.fault_derr 1 (by decide) ⟨#[]⟩ w1) HB1.out.size, HB1.out.trans ((DiskP.fault_below 1 ⟨#[]⟩ w1).mono HB1.out.size)⟩
set_option maxHeartbeats 1000000 in
theorem put_nil (bytes : ByteArray) (w : World) : Calls Tryz.prog 10 #[.pointer none, .string bytes] w (FaultE 1 (fun ev => .tuple #[bV (0, 0), ev]) w) := by
  have HB0 : Hid (Below w.heap.size w (w.alloc (bO (0, 0)))) := Lib.hid ((Below.refl _ _).alloc (Nat.le_refl _) _)
  have hrb : (w.alloc (bO (0, 0))).heap[w.heap.size]? = some (bO (0, 0)) := heap_alloc_new w _
  have hs0 : (w.alloc (bO (0, 0))).heap.size = w.heap.size + 1 := by simp
  have hinf := info_bls
  have HD1 := Lib.hid (DiskP.fault_derr 1 (by decide) ⟨#[]⟩ (w.alloc (bO (0, 0))))
  have HB1 := Lib.hid (DiskP.fault_below 1 ⟨#[]⟩ (w.alloc (bO (0, 0))))
  have hrb1 := (HB1.out.block w.heap.size (by omega)).trans hrb
  rw [hs0] at HD1
  clear hrb
  go_enter Tryz.func10, Tryz.ntmps10
  go_wp2_with (first
    | (go_at_call 24; refine (there_nil _).mono ?_; rintro e w' ⟨rfl, rfl⟩)
    | (go_at_call 20; refine (bfault_any 1 ⟨#[]⟩ _).mono ?_; rintro e w' ⟨rfl, rfl⟩)
    | (refine wpList_store_row rfl 38 _ _ rfl w.heap.size #[.int .u64 0, .int .u32 0] rfl rfl _ _ hrb1 hinf rfl (bl_one _ _) ?_)
    | fail)
  refine bodyPost_ret (results_cell_tmp rfl _ _ w.heap.size _ #[.int .u64 0, .int .u32 0] _ _ rfl (setRow_heap _ _ _ _ _ _ hrb1) Tryz.underlying38 rfl hinf) rfl ?_
  have kr := keeps_row (DiskP.faultW 1 ⟨#[]⟩ (w.alloc (bO (0, 0)))) w.heap.size #[.int .u64 0, .int .u32 0]
  have hbb := HB0.out.trans (HB1.out.mono HB0.out.size)
  exact ⟨_, rfl, derr_from (HD1.out.keeps kr (fun i e => by omega)) HB0.out.size, below_setRow hbb (Nat.le_refl _) _⟩
theorem get_nil (x : Bl) (w : World) : Calls Tryz.prog 9 #[.pointer none, bV x] w (FaultE 1 (fun ev => .tuple #[.string ⟨#[]⟩, ev]) w) := by
  have HB0 : Hid (Below w.heap.size w (w.alloc (bO x))) := Lib.hid ((Below.refl _ _).alloc (Nat.le_refl _) _)
  go_enter Tryz.func9, Tryz.ntmps9
  go_wp2_with (first
    | (go_at_call 24; refine (there_nil _).mono ?_; rintro e w' ⟨rfl, rfl⟩)
    | fail)
  refine (bfault_any 1 ⟨#[]⟩ (w.alloc (bO x))).mono ?_
  rintro e w' ⟨rfl, rfl⟩
  go_wp2_with fail
  go_ret2
  have hs0 : (w.alloc (bO x)).heap.size = w.heap.size + 1 := by simp
  have h1 := DiskP.fault_derr 1 (by decide) ⟨#[]⟩ (w.alloc (bO x))
  rw [hs0] at h1
  exact ⟨_, rfl, derr_from h1 HB0.out.size, HB0.out.trans ((DiskP.fault_below 1 ⟨#[]⟩ _).mono HB0.out.size)⟩
set_option maxHeartbeats 1000000 in
theorem find_nil (bytes : ByteArray) (w : World) : Calls Tryz.prog 15 #[.pointer none, .string bytes] w fun e w' => e = .returned (.tuple #[bV (0, 0), .bool false]) ∧ Below w.heap.size w w' := by
  have HB0 : Hid (Below w.heap.size w (w.alloc (bO (0, 0)))) := Lib.hid ((Below.refl _ _).alloc (Nat.le_refl _) _)
  have hrb : (w.alloc (bO (0, 0))).heap[w.heap.size]? = some (bO (0, 0)) := heap_alloc_new w _
  have hinf := info_bls
  have HT := Lib.hid (fun w => there_nil w)
  go_enter Tryz.func15, Tryz.ntmps15
  go_wp2_with (first
    | (go_at_call 24; refine (HT.out _).mono ?_; rintro e w' ⟨rfl, rfl⟩)
    | (refine wpList_store_row rfl 38 _ _ rfl w.heap.size #[.int .u64 0, .int .u32 0] rfl rfl _ _ hrb hinf rfl (bl_one _ _) ?_)
    | fail)
  refine bodyPost_ret (results_cell_tmp rfl _ _ w.heap.size _ #[.int .u64 0, .int .u32 0] _ _ rfl (setRow_heap _ _ _ _ _ _ hrb) Tryz.underlying38 rfl hinf) rfl ?_
  exact ⟨rfl, below_setRow HB0.out (Nat.le_refl _) _⟩
theorem all_nil (w : World) : Calls Tryz.prog 14 #[.pointer none] w fun e w' => e = .returned (.slice none 0 0) ∧ w = w' := by
  go_enter Tryz.func14, Tryz.ntmps14
  go_wp2_with (first
    | (go_at_call 24; refine (there_nil _).mono ?_; rintro e w' ⟨rfl, rfl⟩)
    | fail)
  go_ret
  exact ⟨rfl, rfl⟩
theorem keep_nil (v : Value) (w : World) : Calls Tryz.prog 16 #[.pointer none, v] w (FaultE 1 (fun ev => .tuple #[.slice none 0 0, ev]) w) := by
  go_enter Tryz.func16, Tryz.ntmps16
  go_wp2_with (first
    | (go_at_call 24; refine (there_nil _).mono ?_; rintro e w' ⟨rfl, rfl⟩)
    | (go_at_call 20; refine (bfault_any 1 ⟨#[]⟩ w).mono ?_; rintro e w' ⟨rfl, rfl⟩)
    | fail)
  go_ret2
  exact ⟨_, rfl, DiskP.fault_derr 1 (by decide) ⟨#[]⟩ w, DiskP.fault_below 1 ⟨#[]⟩ w⟩

/-! ### Open -/
theorem same_any {D b : Nat} {F : Nat → Prop} {cut : Int} {s : DS} {w : World} (h : Bs D w b F cut s) : Calls Tryz.prog 19 #[.pointer (some ⟨b, 0, none⟩), .pointer (some ⟨b, 0, none⟩)] w fun e w' => e = .returned (.bool true) ∧ Below w.heap.size w w' := by
  obtain ⟨⟨m, Dw, vals, hD⟩, -⟩ := h.ln.rep
  refine (DiskP.same_files hD.files hD.files hD.c0 hD.c0).mono ?_
  rintro e w' ⟨rfl, hb⟩
  exact ⟨by rw [decide_eq_true rfl], hb⟩
theorem own_txs {w : World} {D : Nat} {v : Value} {L : List ByteArray} (h : OwnT w D v L) (hs : ∀ i (h : i < L.length), (L[i]).size ≤ 128) (hl : L.length ≤ 300) : ∃ a cp, v = .slice a (L.map (·.data.toList)).length cp ∧ Txs w a cp (L.map (·.data.toList)) := by
  obtain ⟨a, cp, e, hc⟩ := h.open_
  have hcap : L.length ≤ cp := by
    have h' : w.ownsRow D 9 1 v L.length (L.map Value.string) := h
    obtain ⟨_, ⟨rfl, h0⟩ | ⟨g, cp2, cur, rfl, hg0, hblk, hle, hcm, hsz, htk⟩⟩ := h'
    · omega
    · cases e
      omega
  refine ⟨a, cp, by rw [List.length_map]; exact e, ⟨by rw [List.length_map]; exact hcap, fun x hx => ?_, by rw [List.length_map]; omega, fun h0 => ?_⟩⟩
  · obtain ⟨y, hy, rfl⟩ := List.mem_map.1 hx
    obtain ⟨i, hi, rfl⟩ := List.getElem_of_mem hy
    have := hs i hi
    rw [dl]
    omega
  · rw [List.length_map] at h0
    obtain ⟨g, e1, e2, e3, e4⟩ := hc h0
    refine ⟨g, 0, e1, fun i hi => ?_⟩
    rw [List.length_map] at hi
    have hget : (L.map (·.data.toList)).getD i [] = (L[i]).data.toList := by simp [hi]
    rw [Nat.zero_add, e4 i hi, hget, ← str_of]
/-- the names of what is staged -/
def stagesL (s : DS) : List B := under 4 ((namesS s).map (·.data.toList))
def openS (cut : Int) (s : DS) : Nat × ByteArray × DS := if s.dead = true then (5, ⟨#[]⟩, s) else sweepS cut ((stagesL s).map str) s
def OpenE (D b : Nat) (F : Nat → Prop) (cut : Int) (s : DS) (w : World) (e : Ending) (w' : World) : Prop :=
  ∃ F', Bs D w' b F' cut (openS cut s).2.2 ∧ Keeps F w w' ∧ (∀ i, F' i → F i ∨ w.heap.size ≤ i) ∧
    (((openS cut s).1 = 0 ∧ ∃ p, e = .returned (.tuple #[.pointer (some ⟨p, 0, none⟩), .nilIface]) ∧ w.heap.size ≤ p ∧ Sto w' p b F') ∨
     ((openS cut s).1 ≠ 0 ∧ ∃ ev, e = .returned (.tuple #[.pointer none, ev]) ∧ DErr w w' ev (openS cut s).1 (openS cut s).2.1))
theorem sweep_drop {cut : Int} {L : List B} {s : DS} {k : Nat} (h : k < L.length) : sweepS cut ((L.drop k).map str) s = if (removeS cut (str (L.getD k [])) s).1 ≠ 0 then ((removeS cut (str (L.getD k [])) s).1, str (L.getD k []), (removeS cut (str (L.getD k [])) s).2) else sweepS cut ((L.drop (k + 1)).map str) (removeS cut (str (L.getD k [])) s).2 := by
  have hget : L.getD k [] = L[k] := by simp [h]
  rw [hget, List.drop_eq_getElem_cons h, List.map_cons, sweepS]
/-- a round of Open's loop -/
structure OpI (D : Nat) (w0 wr : World) (b : Nat) (F Fk : Nat → Prop) (cut : Int) (sk : DS) : Prop where
  bs : Bs D wr b Fk cut sk
  keeps : Keeps F w0 wr
  foot : ∀ i, Fk i → F i ∨ w0.heap.size ≤ i
  good : DiskC.Good sk.fs
  count : sk.count ≤ 549755500000
set_option maxHeartbeats 8000000 in
set_option maxRecDepth 100000 in
theorem open_any {D b : Nat} {F : Nat → Prop} {cut : Int} {s : DS} {w : World} (h : Bs D w b F cut s) (hg : DiskC.Good s.fs) (hl : s.fs.length ≤ 300) (hc : s.count ≤ 549755000000) :
    Calls Tryz.prog 8 #[.pointer (some ⟨b, 0, none⟩)] w (OpenE D b F cut s w) := by
  have HS := Lib.hid (same_any h)
  have HBS := Lib.hid h
  have HG := Lib.hid hg
  have HFL : Hid (∀ i, F i → i < w.heap.size) := Lib.hid (fun i hi => (disk_dev D).lt h.ln.rep i hi)
  have HDD : Hid (∀ W, Below w.heap.size w W → Calls Tryz.prog 11 #[.pointer (some ⟨b, 0, none⟩)] W fun e w' => e = .returned (.bool s.dead) ∧ Below W.heap.size W w') := Lib.hid (fun W g => (disk_dev D).dead (HBS.out.below g).ln.rep HG.out (HBS.out.below g).ln.vars)
  by_cases hd : s.dead = true
  · have HR : Hid (openS cut s = (5, ⟨#[]⟩, s)) := Lib.hid (by unfold openS; rw [if_pos hd])
    rw [hd] at HDD
    clear h hg hl hd hc
    go_enter Tryz.func8, Tryz.ntmps8
    go_wp2_with (first
      | (go_at_call 19; refine HS.out.mono ?_; rintro e w1 ⟨rfl, hb1⟩; have HB1 := Lib.hid hb1; clear hb1)
      | (go_at_call 11; refine (HDD.out w1 HB1.out).mono ?_; rintro e w2 ⟨rfl, hb2⟩; have HB2 : Hid (Below w.heap.size w w2) := Lib.hid (HB1.out.trans (hb2.mono HB1.out.size)); clear hb2)
      | (go_at_call 20; refine (bfault_any 5 ⟨#[]⟩ w2).mono ?_; rintro e w' ⟨rfl, rfl⟩)
      | fail)
    go_ret2
    have hb3 := DiskP.fault_below 5 ⟨#[]⟩ w2
    unfold OpenE
    rw [HR.out]
    exact ⟨F, (HBS.out.below HB2.out).below hb3, Keeps.of_below (HB2.out.trans (hb3.mono HB2.out.size)), fun i hi => .inl hi, .inr ⟨by show (5 : Nat) ≠ 0; decide, _, rfl, derr_from (DiskP.fault_derr 5 (by decide) ⟨#[]⟩ w2) HB2.out.size⟩⟩
  have hd : s.dead = false := by simpa using hd
  rw [hd] at HDD
  have hnl : (namesS s).length ≤ 300 := by
    unfold namesS
    rw [hd]
    simpa using hl
  have HNT : Hid (∀ W, Below w.heap.size w W → Calls Tryz.prog 22 #[.pointer (some ⟨b, 0, none⟩)] W fun e w' => ∃ a cp, e = .returned (.slice a ((namesS s).map (·.data.toList)).length cp) ∧ Txs w' a cp ((namesS s).map (·.data.toList)) ∧ Below W.heap.size W w') := Lib.hid (fun W g => by
    refine ((disk_dev D).names (HBS.out.below g).ln.rep HG.out (HBS.out.below g).ln.vars).mono ?_
    rintro e w' ⟨u, rfl, ho, hb⟩
    obtain ⟨a, cp, rfl, ht⟩ := own_txs ho (fun i hi => name_short (rp_form HBS.out.ln.rep).1 i hi) hnl
    exact ⟨a, cp, rfl, ht, hb⟩)
  have HUN : Hid (∀ W a cp, Txs W a cp ((namesS s).map (·.data.toList)) → Calls Tryz.prog 21 #[.int .u8 4, .slice a ((namesS s).map (·.data.toList)).length cp] W fun e w' => ∃ a', e = .returned (.slice a' (stagesL s).length (stagesL s).length) ∧ UnE W w' 4 ((namesS s).map (·.data.toList)) a') := Lib.hid (fun W a cp ht => pUnder_any 4 _ a cp W ht (by rw [List.length_map]; exact hnl))
  have hsl : (stagesL s).length ≤ 300 := by
    have := under_length 4 ((namesS s).map (·.data.toList)) ((namesS s).map (·.data.toList)).length
    rw [List.take_length, List.length_map] at this
    show (under 4 _).length ≤ _
    omega
  have HUC : Hid (∀ W w' a', UnE W w' 4 ((namesS s).map (·.data.toList)) a' → Below W.heap.size W w' ∧ (0 < (stagesL s).length → ∃ g, a' = some ⟨g, 0, none⟩ ∧ W.heap.size ≤ g ∧ g < w'.heap.size ∧ ∀ i, i < (stagesL s).length → w'.cell? ⟨g, i, none⟩ = some (.string (str ((stagesL s).getD i []))))) := Lib.hid (fun W w' a' h => ⟨h.below, h.txs⟩)
  have HR : Hid (openS cut s = sweepS cut ((stagesL s).map str) s) := Lib.hid (by unfold openS; rw [if_neg (by rw [hd]; decide)])
  unfold OpenE
  generalize openS cut s = RS at *
  generalize stagesL s = T at *
  generalize (namesS s).map (·.data.toList) = NS at *
  clear h hg hl hd hnl
  go_enter Tryz.func8, Tryz.ntmps8
  go_wp2_with (first
    | (go_at_call 19; refine HS.out.mono ?_; rintro e w1 ⟨rfl, hb1⟩; have HB1 := Lib.hid hb1; clear hb1)
    | (go_at_call 11; refine (HDD.out w1 HB1.out).mono ?_; rintro e w2 ⟨rfl, hb2⟩; have HB2 : Hid (Below w.heap.size w w2) := Lib.hid (HB1.out.trans (hb2.mono HB1.out.size)); clear hb2)
    | (go_at_call 22; refine (HNT.out w2 HB2.out).mono ?_; rintro e w3 ⟨a, cp, rfl, ht, hb3⟩; have HTX := Lib.hid ht; have HB3 : Hid (Below w.heap.size w w3) := Lib.hid (HB2.out.trans (hb3.mono HB2.out.size)); clear ht hb3)
    | (go_at_call 21; refine (HUN.out w3 a cp HTX.out).mono ?_; rintro e w4 ⟨a', rfl, hu⟩; obtain ⟨hb4, hc4⟩ := HUC.out _ _ _ hu; have HB4 : Hid (Below w.heap.size w w4) := Lib.hid (HB3.out.trans (hb4.mono HB3.out.size)); have HC4 := Lib.hid hc4; have HZ3 := Lib.hid HB3.out.size; clear hu hb4 hc4)
    | fail)
  have HOI : Hid (OpI D w w4 b F F cut s) := Lib.hid ⟨HBS.out.below HB4.out, Keeps.of_below HB4.out, fun i hi => .inl hi, HG.out, by omega⟩
  have HRW : Hid (∀ (wr : World), Keeps F w4 wr → 0 < T.length → ∃ g, a' = some ⟨g, 0, none⟩ ∧ ∀ i, i < T.length → wr.cell? ⟨g, i, none⟩ = some (.string (str (T.getD i [])))) := Lib.hid (fun wr hk h0 => by
    obtain ⟨g, e, h1, h2, h3⟩ := HC4.out h0
    refine ⟨g, e, fun i hi => ?_⟩
    rw [World.cell?_of_block (a := ⟨g, i, none⟩) (hk.block g h2 (fun hF => by have := HFL.out g hF; have := HZ3.out; omega))]
    exact h3 i hi)
  have HRES : Hid (sweepS cut ((T.drop 0).map str) s = RS) := Lib.hid (by rw [HR.out]; rfl)
  have HZW := Lib.hid HB4.out.size
  clear HR HS HDD HNT HUN HUC HC4 HTX HB3 HB2 HB1 HG
  go_loopw [5, 6, 19] (fun _ _ i wr => ∃ (k : Nat) (Fk : Nat → Prop) (sk : DS), i = .int .i64 k ∧ k ≤ T.length ∧ sk.count ≤ 549755000000 + k ∧ Hid (sweepS cut ((T.drop k).map str) sk = RS) ∧ Hid (OpI D w wr b F Fk cut sk) ∧ Hid (Keeps F w4 wr) ∧ Hid (∀ i, Fk i → F i ∨ w4.heap.size ≤ i)) (fun _ _ i _ => T.length - (intOf i).toNat)
  case atStart => exact ⟨0, F, s, rfl, Nat.zero_le _, by omega, HRES, HOI, Lib.hid (Keeps.refl _ _), Lib.hid (fun i hi => .inl hi)⟩
  case round =>
    obtain ⟨k, Fk, sk, rfl, hk, hcn, HSW, HO, HK4, HF4⟩ := hrel
    rename World => wr
    clear HRES HOI
    by_cases hlt : k < T.length
    · have hdec : decide (k < T.length) = true := by simpa using hlt
      obtain ⟨g, rfl, hcl⟩ := HRW.out wr HK4.out (by omega)
      have hcell := hcl k hlt
      have HST := Lib.hid (sweep_drop (cut := cut) (s := sk) hlt)
      rw [HSW.out] at HST
      have HRM := Lib.hid ((disk_dev D).remove (str (T.getD k [])) HO.out.bs.ln.rep HO.out.good (by have := HO.out.count; omega) HO.out.bs.ln.vars)
      have HRG := Lib.hid (remove_good (cut := cut) (name := str (T.getD k [])) (s := sk) HO.out.good)
      clear hcl
      generalize str (T.getD k []) = fn at *
      generalize removeS cut fn sk = rr at *
      obtain ⟨rc, s2⟩ := rr
      dsimp only at HRM HRG HST
      go_wp2_with fail
      refine HRM.out.mono ?_
      rintro e w5 ⟨ev, F5, rfl, hde, hr, hk5, hf5⟩
      have HBS5 := Lib.hid (HO.out.bs.dev hr hk5 hf5)
      have HK45 : Hid (Keeps F w4 w5) := Lib.hid (HK4.out.then hk5 (fun i hi hF => by rcases HF4.out i hF with h1 | h1; exact h1; omega))
      have HF45 : Hid (∀ i, F5 i → F i ∨ w4.heap.size ≤ i) := Lib.hid (fun i hi => by
        rcases hf5 i hi with h1 | h1
        · exact HF4.out i h1
        · exact .inr (Nat.le_trans HK4.out.size h1))
      have HDE := Lib.hid (derr_from (w0 := w) hde (Nat.le_trans HZW.out HK4.out.size))
      have HKW : Hid (Keeps F w w5) := Lib.hid ((Keeps.of_below (S := F) HB4.out).trans HK45.out)
      clear hde hr hk5 hf5 HRM
      by_cases hcode : rc = 0
      · have hev : ev = .nilIface := by
          rcases HDE.out with ⟨-, h⟩ | ⟨h, -⟩
          · exact h
          · exact absurd hcode h
        subst hev
        have HSW2 : Hid (sweepS cut ((T.drop (k + 1)).map str) s2 = RS) := Lib.hid (by have := HST.out; rw [if_neg (by simpa using hcode)] at this; exact this.symm)
        have HO2 : Hid (OpI D w w5 b F F5 cut s2) := Lib.hid ⟨HBS5.out, HKW.out, fun i hi => (HF45.out i hi).imp id (fun h => Nat.le_trans HZW.out h), HRG.out.1, by have := HRG.out.2; omega⟩
        have hcn2 : s2.count ≤ 549755000000 + (k + 1) := by have := HRG.out.2; omega
        clear hcode HST HDE
        go_wp2_with fail
        go_roundw
        case rel => exact ⟨k + 1, F5, s2, by go_num, by omega, hcn2, HSW2, HO2, HK45, HF45⟩
        case measure => simp [intOf]; omega
      · obtain ⟨f, hev⟩ : ∃ f, ev = .iface 84 (.pointer (some ⟨f, 0, none⟩)) := by
          rcases HDE.out with ⟨h, -⟩ | ⟨-, f, h, -⟩
          · exact absurd h hcode
          · exact ⟨f, h⟩
        subst hev
        have HR1 : Hid (RS = (rc, fn, s2)) := Lib.hid (by have := HST.out; rw [if_pos (by simpa using hcode)] at this; exact this)
        have HNE := Lib.hid hcode
        clear hcode HST
        go_wp2_with fail
        go_ret2
        rw [HR1.out]
        exact ⟨F5, HBS5.out, HKW.out, fun i hi => (HF45.out i hi).imp id (fun h => Nat.le_trans HZW.out h), .inr ⟨HNE.out, _, rfl, HDE.out⟩⟩
    · have hdec : decide (k < T.length) = false := by simpa using hlt
      have HR1 : Hid (RS = (0, ⟨#[]⟩, sk)) := Lib.hid (by have := HSW.out; rw [List.drop_of_length_le (by omega)] at this; exact this.symm)
      clear hlt hk
      go_wp2_with fail
      go_ret2
      rw [HR1.out]
      have hal : Below wr.heap.size wr (wr.alloc (.cells #[.pointer (some ⟨b, 0, none⟩)] 66)) := (Below.refl _ _).alloc (Nat.le_refl _) _
      have hwr : w.heap.size ≤ wr.heap.size := HO.out.keeps.size
      refine ⟨Fk, HO.out.bs.below hal, HO.out.keeps.trans (Keeps.of_below hal), fun i hi => (HF4.out i hi).imp id (fun h => Nat.le_trans HZW.out h), .inl ⟨rfl, wr.heap.size, rfl, hwr, ⟨?_, fun hF => ?_⟩⟩⟩
      · rw [World.cell?_alloc_at _ _ _ _ rfl]; rfl
      · have := (disk_dev D).lt HO.out.bs.ln.rep _ hF
        omega
end BlobC
end Go.Proofs.YtfbdhlpgklkjmaaGreatDoor
