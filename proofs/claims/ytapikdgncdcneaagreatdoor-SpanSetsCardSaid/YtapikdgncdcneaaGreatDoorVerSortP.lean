/-
  Package version's Sort: the loop of reads, the sort of what was read, the loop of texts, Compact.
-/
import Derived.Test.YtapikdgncdcneaaGreatDoorVerSort
import Derived.Test.YtapikdgncdcneaaGreatDoorRowK
namespace Go.Proofs.YtapikdgncdcneaaGreatDoor
open Go.RowKit
namespace VerC
open VerM StrC TextR Go.Sort Go.Shelf
set_option linter.unusedSimpArgs false

theorem info_told : (Tryz.prog.info? 112).map (fun i => (i.zero, i.size, i.bytes)) = some (some (.agg #[.string ⟨#[]⟩, .int .u32 0, .int .u32 0, .int .u32 0, .slice none 0 0]), 5, 56) := by kernel_rfl
/-- a text, what it says, and where the texts of that lie -/
structure RecT where
  s : B
  v : Ver
  a : Option Addr
  c : Nat
instance : Inhabited RecT := ⟨⟨[], ⟨0, 0, 0, []⟩, none, 0⟩⟩
def encR (x : RecT) : List Value := toldL x.s x.v x.a x.c
theorem encR_length (x : RecT) : (encR x).length = 5 := rfl
structure RecOk (w : World) (x : RecT) : Prop where
  read : readB x.s = some x.v
  txs : Txs w x.a x.c x.v.pre
  kind : ∀ b f, x.a = some ⟨b, f, none⟩ → IsText w b
theorem RecOk.below {w w' : World} {x : RecT} (h : RecOk w x) (g : Below w.heap.size w w') : RecOk w' x := ⟨h.read, h.txs.gr g, fun b f e => (h.kind b f e).below g⟩
/-- what a round of the first loop finds and leaves -/
structure ReadI (L : TL) (w : World) (v : Value) (wr : World) (k : Nat) (D : List RecT) : Prop where
  le : k ≤ L.length
  own : wr.ownsRow w.heap.size 112 5 v k (D.flatMap encR)
  txt : D.map (·.s) = L.take k
  ok : ∀ x ∈ D, RecOk wr x
  below : Below w.heap.size w wr
theorem ReadI.len {L : TL} {w wr : World} {v : Value} {k : Nat} {D : List RecT} (h : ReadI L w v wr k D) : D.length = k := by
  have := congrArg List.length h.txt
  rw [List.length_map, List.length_take] at this
  have := h.le
  omega
theorem ReadI.step {L : TL} {w wr w1 w2 w3 : World} {v v2 : Value} {k : Nat} {D : List RecT} {x : RecT} (h : ReadI L w v wr k D) (hk : k < L.length) (hs : x.s = L.getD k []) (hb1 : Below wr.heap.size wr w1) (hx : RecOk w2 x) (hb2 : Below w1.heap.size w1 w2)
    (hown : w3.ownsRow w.heap.size 112 5 v2 (k + 1) (D.flatMap encR ++ encR x)) (hg : w2.grownBy w3 v.ownBlock) (hown2 : w2.ownsRow w.heap.size 112 5 v k (D.flatMap encR)) : ReadI L w v2 w3 (k + 1) (D ++ [x]) := by
  have hfar : ∀ y, RecOk w2 y → RecOk w3 y := fun y hy => by
    have hne : ∀ b f, y.a = some ⟨b, f, none⟩ → some b ≠ v.ownBlock := fun b f e e1 => by
      obtain ⟨cur, fz, hb⟩ := hy.kind b f e
      rcases hown2.2 with ⟨rfl, _⟩ | ⟨g, cp, cur2, rfl, _, hb2, _⟩
      · simp [Value.ownBlock] at e1
      · have : b = g := by simpa [Value.ownBlock] using e1
        subst this
        rw [hb] at hb2
        injection hb2 with hb2; injection hb2 with _ hb2 _
        exact absurd hb2 (by decide)
    have hblk : ∀ b f, y.a = some ⟨b, f, none⟩ → w3.heap[b]? = w2.heap[b]? := fun b f e => hg.block b (hy.kind b f e).lt (hne b f e)
    refine ⟨hy.read, ⟨hy.txs.cap, hy.txs.short, hy.txs.few, fun h0 => ?_⟩, fun b f e => (hy.kind b f e).of (hblk b f e)⟩
    obtain ⟨b, o, e, hc⟩ := hy.txs.cells h0
    exact ⟨b, o, e, fun i hi => (World.cell?_of_block (a := ⟨b, o + i, none⟩) (hblk b o e)).trans (hc i hi)⟩
  refine ⟨hk, by simpa using hown, ?_, fun y hy => ?_, ?_⟩
  · rw [List.map_append, h.txt, List.map_singleton, hs, List.take_add_one]; simp [hk]
  · rcases List.mem_append.1 hy with hy | hy
    · exact hfar y (((h.ok y hy).below hb1).below hb2)
    · rw [List.mem_singleton.1 hy]; exact hfar x hx
  · exact ((chain (Nat.le_refl _) h.below hb1).trans (hb2.mono (Nat.le_trans h.below.size hb1.size))).grown hg (Nat.le_trans (Nat.le_trans h.below.size hb1.size) hb2.size) (fun j hj => (World.ownsRow.lt hown2 j hj).1)
/-- the records, with what the sort asks of them -/
def toTD {w : World} {g : Nat} (x : RecT) (h : RecOk w x) (hg : ∃ cur fz, w.heap[g]? = some (.cells cur 112 fz)) : TD w g := ⟨x.s, x.v, x.a, x.c, h.read, h.txs, fun b o e => by
  rintro rfl
  obtain ⟨c1, f1, h1⟩ := h.kind b o e
  obtain ⟨c2, f2, h2⟩ := hg
  rw [h1] at h2
  injection h2 with h2; injection h2 with _ h2 _
  exact absurd h2 (by decide)⟩
theorem cmpTD_T {w : World} {g : Nat} (x y : TD w g) : cmpTD x y = ordT x.s y.s := by unfold cmpTD; rw [ordT_some x.read y.read]
/-- what the sort leaves of the texts -/
theorem sorted_texts {w : World} {g : Nat} {d d' : Array (TD w g)} (hp : Go.Sort.PermIn 0 d.size d d') (hs : Go.Sort.SortedIn (ltOf cmpTD) 0 d.size d') : d'.size = d.size ∧ (d'.toList.map (·.s)).Pairwise (fun a b => ordT a b ≤ 0) ∧ (∀ x ∈ d'.toList.map (·.s), isT x = true) ∧ ∀ x, x ∈ d'.toList.map (·.s) ↔ x ∈ d.toList.map (·.s) := by
  obtain ⟨h1, _, h2⟩ := hp
  refine ⟨h1, ?_, fun x hx => ?_, fun x => ?_⟩
  · rw [List.pairwise_map, List.pairwise_iff_getElem]
    intro i j hi hj hij
    have := hs i j (by omega) hij (by simpa [h1] using hj)
    unfold ltOf at this
    rw [decide_eq_false_iff_not] at this
    simp only [Array.length_toList] at hi hj
    rw [getElem!_pos d' i hi, getElem!_pos d' j hj, cmpTD_T] at this
    have a := @ordT_anti d'[i].s d'[j].s
    simp only [Array.getElem_toList]
    omega
  · obtain ⟨y, _, rfl⟩ := List.mem_map.1 hx
    exact isT_of y.read
  · have e1 : d'.extract 0 d.size = d' := by rw [← h1]; simp
    have e2 : d.extract 0 d.size = d := by simp
    rw [e1, e2] at h2
    exact (h2.map (·.s)).mem_iff
theorem pReadN_val (l : B) (w : World) (hv : Vw w) :
    Calls Tryz.prog 50 #[.string (str l)] w fun e w' => ∃ x, e = .returned x ∧ ReadE l w' (.returned x) ∧ Below w.heap.size w w' ∧ NewE w.heap.size w' (.returned x) :=
  (pReadN_any l w hv).mono fun e w' ⟨⟨he, hb⟩, hn⟩ => by
    obtain ⟨x, rfl⟩ := readE_ret he
    exact ⟨x, rfl, he, hb, hn⟩
theorem cells_new (w : World) (l : List Value) (t : TypeId) : ∀ j u, l[j]? = some u → (w.alloc (.cells l.toArray t)).cell? ((⟨w.heap.size, 0, none⟩ : Addr).add j) = some u := by
  intro j u hu
  rw [Go.WideShapes.add_plain, Nat.zero_add]
  simp only [World.cell?, heap_alloc_new]
  simpa using hu
theorem own_cut {w : World} {B g n m cp : Nat} {e : TypeId} {xs : List Value} (h : w.ownsRow B e 1 (.slice (some ⟨g, 0, none⟩) n cp) n xs) (hm : m ≤ n) : w.ownsRow B e 1 (.slice (some ⟨g, 0, none⟩) m cp) m (xs.take m) := by
  obtain ⟨hl, ⟨h0, _⟩ | ⟨g', cp', cur, e1, hbase, hb, h1, h2, h3, h4⟩⟩ := h
  · cases h0
  simp only [Value.slice.injEq, Option.some.injEq, Addr.mk.injEq, and_true, true_and] at e1
  obtain ⟨rfl, rfl⟩ := e1
  refine ⟨by rw [List.length_take, hl]; omega, .inr ⟨g, cp, cur, rfl, hbase, hb, by omega, h2, h3, ?_⟩⟩
  rw [← h4, List.take_take]
  congr 1
  omega
theorem own_base {w : World} {B B' n : Nat} {e : TypeId} {v : Value} {xs : List Value} (h : w.ownsRow B e 1 v n xs) (hb : B' ≤ B) : w.ownsRow B' e 1 v n xs := by
  obtain ⟨hl, ⟨h0, h1⟩ | ⟨g', cp', cur, e1, hbase, hb', h1, h2, h3, h4⟩⟩ := h
  · exact ⟨hl, .inl ⟨h0, h1⟩⟩
  · exact ⟨hl, .inr ⟨g', cp', cur, e1, by omega, hb', h1, h2, h3, h4⟩⟩
theorem compact_is {F : TL} (hs : F.Pairwise (fun a b => ordT a b ≤ 0)) (ht : ∀ x ∈ F, isT x = true) : SV (Lib.compact F) ∧ ∀ x, x ∈ Lib.compact F ↔ x ∈ F := by
  have h := compactV F.toArray hs ht F.length (by simp)
  simp only [List.take_length] at h
  exact h
theorem compact_len (F : TL) : (Lib.compact F).length ≤ F.length := by
  unfold Lib.compact Lib.compactUpTo
  rw [List.length_map]
  refine Nat.le_trans (List.length_filter_le _ _) ?_
  rw [List.length_range]
  exact Nat.le_refl _
theorem rec_cells {w : World} {B n g cp : Nat} {R : List RecT} (h : w.ownsRow B 112 5 (.slice (some ⟨g, 0, none⟩) n cp) n (R.flatMap encR)) (hn : R.length = n) (i : Nat) (hi : i < n) : ∃ x : RecT, x = R[i]! ∧
    w.cell? ⟨g, i * 5, none⟩ = some (.string (str x.s)) ∧ w.cell? ⟨g, i * 5 + 1, none⟩ = some (.int .u32 x.v.a) ∧ w.cell? ⟨g, i * 5 + 2, none⟩ = some (.int .u32 x.v.b) ∧ w.cell? ⟨g, i * 5 + 3, none⟩ = some (.int .u32 x.v.c) ∧ w.cell? ⟨g, i * 5 + 4, none⟩ = some (.slice x.a x.v.pre.length x.c) := by
  have key : ∀ c, c < 5 → w.cell? ⟨g, i * 5 + c, none⟩ = some ((encR R[i]!)[c]!) := fun c hc => by
    rw [h.cellAt (i * 5 + c) (by omega), RowKC.flat_get encR 5 encR_length R _ (by omega), show (i * 5 + c) / 5 = i from by omega, show (i * 5 + c) % 5 = c from by omega]
  exact ⟨_, rfl, key 0 (by omega), key 1 (by omega), key 2 (by omega), key 3 (by omega), key 4 (by omega)⟩
/-- what a round of the second loop finds and leaves -/
structure TextI (F : TL) (w w2 : World) (v : Value) (wq : World) (k : Nat) : Prop where
  le : k ≤ F.length
  own : OwnS wq w2.heap.size v (F.take k)
  below : Below w2.heap.size w2 wq
set_option maxHeartbeats 8000000 in
set_option maxRecDepth 100000 in
theorem psortv_any (b o cap : Nat) (L : TL) (w : World) (hv : Vw w) (hp : 0 < L.length) (hL : L.length ≤ 200) (hb : b < w.heap.size) (hc : TextsIn w b o L) :
    Calls Tryz.prog 48 #[.slice (some ⟨b, o, none⟩) L.length cap] w (SortVE L w) := by
  obtain ⟨i0, hi, hz0, hz1, hz2⟩ := info_parts info_told
  obtain ⟨j0, hj, jz0, jz1, jz2⟩ := info_parts info_text
  have HC := Lib.hid hc
  have HV := Lib.hid hv
  clear hc hv
  go_enter Tryz.func48, Tryz.ntmps48
  go_wp2_with fail
  go_loopw [4, 6, 7, 8, 15] (fun v _ _ _ i wr => ∃ (k : Nat) (D : List RecT), i = .int .i64 k ∧ ReadI L w v wr k D) (fun _ _ _ _ i _ => L.length - (intOf i).toNat)
  case atStart => exact ⟨0, [], rfl, Nat.zero_le _, World.ownsRow_nil _ _ _ _, by simp, fun x h => (by cases h), Below.refl _ _⟩
  case round =>
    obtain ⟨k, D, rfl, HI⟩ := hrel
    rename World => wr
    have hkl := HI.le
    by_cases hlt : k < L.length
    · have hdec : decide (k < L.length) = true := by simpa using hlt
      have hcell := (HC.out.below HI.below hb) k hlt
      have HIT := Lib.hid HI
      have HR := Lib.hid (pReadN_val (L.getD k []) wr (HV.out.gr HI.below))
      have hmem : L.getD k [] ∈ L := by rw [getD_at hlt]; exact List.getElem_mem hlt
      have HMEM := Lib.hid hmem
      have hx : Hid (∀ x : RecT, x.s = L.getD k [] → x.s = L.getD k []) := Lib.hid fun x h => h
      clear HI hmem
      generalize hs : L.getD k [] = s at *
      go_wp2_with (go_at_call 50; refine HR.out.mono ?_; rintro e w1 ⟨x1, rfl, he, hb1, hn1⟩; refine Hid.out ?_)
      refine Lib.hid ?_
      rcases readE_cases he with ⟨v, a, cp, hrd, rfl, hT⟩ | ⟨hrd, rfl⟩
      · have HOK : Hid (RecOk w1 ⟨s, v, a, cp⟩) := Lib.hid ⟨hrd, hT, fun b f e => ((hn1 _ _ _ _ _ _ _ rfl).1 b f e).2⟩
        have HB1 := Lib.hid hb1
        have hown1 : w1.ownsRow w.heap.size 112 5 u4 k (D.flatMap encR) := World.ownsRow.kept HIT.out.own (grown_below hb1) (Classical.em _)
        have hsz1 : w.heap.size ≤ w1.heap.size := Nat.le_trans HIT.out.below.size hb1.size
        clear he hb1 hn1 hrd hT HR
        have hown2 := hown1.alloc (verO v.a v.b v.c a v.pre.length cp)
        have HO2 := Lib.hid hown2
        have HB2 : Hid (Below w1.heap.size w1 (w1.alloc (verO v.a v.b v.c a v.pre.length cp))) := Lib.hid ((Below.refl _ w1).alloc (Nat.le_refl _) _)
        go_wp2_with (at_builtin; refine wpList_append_own _ rfl _ _ 110 rfl w.heap.size 112 i0 (.agg #[.string ⟨#[]⟩, .int .u32 0, .int .u32 0, .int .u32 0, .slice none 0 0]) 5 56 Tryz.underlying110 hi hz0 hz1 hz2 rfl (by decide) _ _ _ rfl (hown2.alloc _) ⟨w1.heap.size + 1, 0, none⟩ 1 1 (toldL s v a cp) rfl rfl ?c1 ?c2 ?c3 ?c4 ?c5 ?_)
        case c1 => have h := cells_new (w1.alloc (verO v.a v.b v.c a v.pre.length cp)) (toldL s v a cp) 112; simp only [World.size_alloc] at h; exact h
        case c2 => intro u hu; simp only [toldL, List.mem_cons, List.not_mem_nil, or_false] at hu; rcases hu with rfl | rfl | rfl | rfl | rfl <;> rfl
        case c3 => unfold maxLen; omega
        case c4 => omega
        case c5 => simp; omega
        intro v' w4 hown4 hg4 _
        have HNEXT := Lib.hid (HIT.out.step (x := ⟨s, v, a, cp⟩) hlt hs.symm HB1.out (((HOK.out).below HB2.out).below ((Below.refl _ _).alloc (Nat.le_refl _) _)) (HB2.out.alloc HB2.out.size _) hown4 hg4 (HO2.out.alloc _))
        clear hown4 hg4 hown1 hown2
        go_wp2
        go_roundw
        case rel => exact ⟨k + 1, _, by go_num, HNEXT.out⟩
        case measure => simp [intOf]; omega
      · have HNO : Hid (L.all isT = false) := Lib.hid (by
          rw [Bool.eq_false_iff]; intro e
          have := List.all_eq_true.1 e s HMEM.out
          rw [isT_no hrd] at this; cases this)
        have HB1 := Lib.hid hb1
        clear he hb1 hn1 hrd HR
        go_wp2_with fail
        go_ret2
        exact ⟨(chain (Nat.le_refl _) HIT.out.below HB1.out).alloc (Nat.le_trans HIT.out.below.size HB1.out.size) _, fun _ => rfl, fun h => absurd (h.symm.trans HNO.out) (by decide)⟩
    · have hdec : decide (k < L.length) = false := by simpa using hlt
      have hke : k = L.length := by omega
      subst hke
      have HTX : Hid (D.map (·.s) = L) := Lib.hid (by have := HI.txt; rwa [List.take_length] at this)
      have hDl := HI.len
      have HOK := Lib.hid HI.ok
      have hown := HI.own
      have HBW := Lib.hid HI.below
      clear HI hlt hkl
      rcases hown.2 with ⟨hnil, h0⟩ | ⟨g, cp, cur, rfl, hbase, hblk, h1, h2, h3, h4⟩
      · omega
      have hgl : g < wr.heap.size := (Array.getElem?_eq_some_iff.1 hblk).1
      obtain ⟨d, HD1, HD2⟩ : ∃ d : Array (TD wr g), Hid (d.toList.flatMap encTD = D.flatMap encR) ∧ Hid (d.toList.map (·.s) = L) := by
        refine ⟨(D.attach.map fun x => toTD x.1 (HOK.out x.1 x.2) ⟨_, _, hblk⟩).toArray, Lib.hid ?_, Lib.hid ?_⟩
        · simp only [List.toList_toArray, List.flatMap_map]
          rw [show (fun x : { x // x ∈ D } => encTD (toTD x.1 (HOK.out x.1 x.2) ⟨_, _, hblk⟩)) = fun x : { x // x ∈ D } => encR x.1 from rfl]
          simp
        · rw [← HTX.out]
          simp only [List.toList_toArray, List.map_map]
          rw [show ((·.s) ∘ fun x : { x // x ∈ D } => toTD x.1 (HOK.out x.1 x.2) ⟨_, _, hblk⟩) = fun x : { x // x ∈ D } => x.1.s from rfl]
          simp
      have hdl : d.size = L.length := by have := congrArg List.length HD2.out; simpa using this
      rw [← HD1.out, ← hdl] at hown
      have HSF := Lib.hid (psortFunc_any g 0 cp wr d (RowKC.holdsK_of_own encTD 5 (fun _ => rfl) hown) hgl (by omega))
      have HOWN := Lib.hid hown
      rw [hdl] at HSF
      clear hown hblk h3 h4 HD1 HOK
      go_wp2_with (go_at_call 74; refine HSF.out.mono ?_; rintro e w' ⟨rfl, d', nn, os, hpm, hst, rfl⟩)
      obtain ⟨hs1, hs2, hs3, hs4⟩ := sorted_texts (by rw [hdl]; exact hpm) (by rw [hdl]; exact hst)
      rw [hdl] at HOWN hs1
      have own2 := RowKC.own_sortedK encTD 5 (fun _ => rfl) (n := nn) (os := os) hs1 HOWN.out
      have HB2 : Hid (Below w.heap.size w (sortWorldK encTD 5 wr g 0 nn d' os)) := Lib.hid (HBW.out.grown (RowKC.grownBy_sortedK encTD 5 d') HBW.out.size (fun j hj => by cases hj; exact hbase))
      obtain ⟨R, HR1, HR2⟩ : ∃ R : List RecT, d'.toList.flatMap encTD = R.flatMap encR ∧ d'.toList.map (·.s) = R.map (·.s) := ⟨d'.toList.map fun x => ⟨x.s, x.v, x.a, x.c⟩, by rw [List.flatMap_map]; rfl, by rw [List.map_map]; rfl⟩
      have hRl : R.length = L.length := by have := congrArg List.length HR2; simpa [hs1] using this.symm
      rw [HR1] at own2
      rw [HR2] at hs2 hs3 hs4
      have HS4 : Hid (∀ x, x ∈ R.map (·.s) ↔ x ∈ L) := Lib.hid (fun x => by rw [hs4, HD2.out])
      have HCP := Lib.hid (compact_is hs2 hs3)
      have HALL : Hid (L.all isT = true) := Lib.hid (List.all_eq_true.2 fun x hx => hs3 x ((HS4.out x).2 hx))
      have HO2 := Lib.hid own2
      clear hs2 hs3 hs4 hpm hst HR1 HR2 own2 HSF HOWN HBW HD2 hdl hs1
      generalize sortWorldK encTD 5 wr g 0 nn d' os = w2 at *
      have hFl : (R.map (·.s)).length = L.length := by rw [List.length_map, hRl]
      go_wp2_with fail
      go_loopw [10, 12, 39] (fun v _ i wq => ∃ k : Nat, i = .int .i64 k ∧ TextI (R.map (·.s)) w w2 v wq k) (fun _ _ i _ => L.length - (intOf i).toNat)
      case atStart => exact ⟨0, rfl, Nat.zero_le _, by simpa using OwnS.nil _ _, Below.refl _ _⟩
      case round =>
        obtain ⟨k, rfl, HI⟩ := hrel
        rename World => wq
        have hkl := HI.le
        rw [hFl] at hkl
        by_cases hlt : k < L.length
        · have hdec : decide (k < L.length) = true := by simpa using hlt
          have hrow : wq.ownsRow w.heap.size 112 5 (.slice (some ⟨g, 0, none⟩) L.length cp) L.length (R.flatMap encR) := World.ownsRow.kept HO2.out (grown_below HI.below) (Classical.em _)
          obtain ⟨x, hx, c0, c1, c2, c3, c4⟩ := rec_cells hrow hRl k hlt
          have HIT := Lib.hid HI
          have HX := Lib.hid hx
          clear HI hx hrow
          have hown := HIT.out.own
          unfold OwnS at hown
          have hFk : ((R.map (·.s)).take k).length = k := by rw [List.length_take]; omega
          rw [hFk] at hown
          have HSZ := Lib.hid HIT.out.below.size
          have hown2 := (hown.alloc (.cells #[.string (str x.s), .int .u32 x.v.a, .int .u32 x.v.b, .int .u32 x.v.c, .slice x.a x.v.pre.length x.c] 112)).alloc (.cells #[.string (str x.s)] 9)
          have HOW2 := Lib.hid hown2
          go_wp2_with (at_builtin; refine wpList_append_own _ rfl _ _ 34 rfl w2.heap.size 9 j0 (.string ⟨#[]⟩) 1 16 Tryz.underlying34 hj jz0 jz1 jz2 rfl (by decide) _ _ _ rfl hown2 ⟨wq.heap.size + 1, 0, none⟩ 1 1 [encT x.s] rfl rfl ?c1 ?c2 ?c3 ?c4 ?c5 ?_)
          case c1 => have h := cells_new (wq.alloc (.cells #[.string (str x.s), .int .u32 x.v.a, .int .u32 x.v.b, .int .u32 x.v.c, .slice x.a x.v.pre.length x.c] 112)) [encT x.s] 9; simp only [World.size_alloc] at h; exact h
          case c2 => simp [Value.oneCell', encT]
          case c3 => unfold maxLen; omega
          case c4 => omega
          case c5 => have := HSZ.out; simp; omega
          intro v' w4 hown4 hg4 _
          have HNEXT : Hid (TextI (R.map (·.s)) w w2 v' w4 (k + 1)) := Lib.hid ⟨by omega, by
              have e : (R.map (·.s)).take (k + 1) = (R.map (·.s)).take k ++ [x.s] := by
                rw [List.take_add_one, HX.out, getElem!_pos R k (by omega)]
                simp [show k < R.length by omega]
              rw [e]
              exact snocS (by rw [List.map_take, List.map_map]; exact hown4) hFk.symm, ((HIT.out.below.alloc HIT.out.below.size _).alloc (by simp; have := HIT.out.below.size; omega) _).grown hg4 (by have := HIT.out.below.size; simp; omega) (fun j hj => (World.ownsRow.lt HOW2.out j hj).1)⟩
          clear hown4 hg4 hown hown2
          go_wp2
          go_roundw
          case rel => exact ⟨k + 1, by go_num, HNEXT.out⟩
          case measure => simp [intOf]; omega
        · have hdec : decide (k < L.length) = false := by simpa using hlt
          have hke : k = L.length := by omega
          subst hke
          have hown := HI.own
          have HBQ := Lib.hid HI.below
          rw [show (R.map (·.s)).take L.length = R.map (·.s) from by rw [← hFl, List.take_length]] at hown
          clear HI hlt hkl
          generalize R.map (·.s) = F at *
          unfold OwnS at hown
          rw [hFl] at hown
          rcases hown.2 with ⟨hnil, h0⟩ | ⟨g2, cp2, cur2, rfl, hbase2, hblk2, k1, k2, k3, k4⟩
          · omega
          have hH2 : Holds encStr wq g2 0 F.toArray := holds_of_block hblk2 (by rw [Nat.mul_one] at k4; rw [hFl]; exact k4)
          have hgl2 : g2 < wq.heap.size := (Array.getElem?_eq_some_iff.1 hblk2).1
          have hcc := Lib.hid (Tryz.slices_Compact_string g2 0 cp2 F wq hH2 (by omega) (by omega))
          rw [hFl] at hcc
          have HCL := Lib.hid (compact_len F)
          clear hH2 k4 hown
          go_wp2_with (go_at_call 75; refine hcc.out.mono ?_; rintro e w' ⟨rfl, qq, rfl⟩)
          go_ret2
          have hll : (Lib.compact F ++ List.replicate (L.length - (Lib.compact F).length) []).length = F.length := by rw [List.length_append, List.length_replicate]; have := HCL.out; omega
          have own3 := ownsRow_sorted (n := qq) (os := #[]) (base := w2.heap.size) (e := 9) hll hbase2 hblk2 (by omega) k2 k3
          have hB3 : Below w.heap.size w (grow (putRow encStr (Sort.ahead wq qq) g2 0 (Lib.compact F ++ List.replicate (L.length - (Lib.compact F).length) []).toArray) #[]) := (HB2.out.trans (HBQ.out.mono HB2.out.size)).grown (grownBy_sorted _) (Nat.le_trans HB2.out.size HBQ.out.size) (fun j hj => by cases hj; exact Nat.le_trans HB2.out.size hbase2)
          rw [grow_empty] at own3 hB3
          refine ⟨hB3, fun h => absurd (h.symm.trans HALL.out) (by decide), fun _ => ⟨some ⟨g2, 0, none⟩, cp2, Lib.compact F, rfl, ?_, HCP.out.1, fun x => (HCP.out.2 x).trans (HS4.out x)⟩⟩
          have own4 := own_cut own3 (show (Lib.compact F).length ≤ F.length from HCL.out)
          rw [List.map_append, List.take_left' (List.length_map _)] at own4
          exact own_base own4 HB2.out.size
/-- of no text at all -/
theorem psortv_none (a : Option Addr) (cap : Nat) (w : World) :
    Calls Tryz.prog 48 #[.slice a 0 cap] w fun e w' => e = .returned (.tuple #[.slice none 0 0, .int .i64 0]) ∧ w = w' := by
  have HSF := Lib.hid (fun fv W => AnyF.slices_SortFunc_none Tryz.sortTold none 0 fv W)
  go_enter Tryz.func48, Tryz.ntmps48
  go_wp2_with fail
  refine wp_loop_rounds 1 ?_
  rw [rounds_succ]
  go_wp2_with (go_at_call 74; refine (HSF.out _ _).mono ?_; rintro e w' ⟨rfl, rfl⟩)
  refine wp_loop_rounds 1 ?_
  rw [rounds_succ]
  go_wp2_with (go_at_call 75; refine (Tryz.slices_Compact_string_empty _ _ _).mono ?_; rintro e w' ⟨rfl, rfl⟩)
  go_ret2
  exact ⟨rfl, rfl⟩
end VerC
end Go.Proofs.YtapikdgncdcneaaGreatDoor
