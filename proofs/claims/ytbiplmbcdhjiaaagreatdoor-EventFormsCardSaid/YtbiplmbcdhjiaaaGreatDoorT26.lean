/-
  What the proof of EventForms stands on, part 26.
-/
import Derived.Deep.RegionHeld3
import Derived.Laws.CopyOwn
import Derived.Laws.StructEq
import Derived.Lib.QuietBelow
import Derived.OwnWalk
import Derived.Test.YtbiplmbcdhjiaaaGreatDoorT25
set_option linter.unusedSimpArgs false
set_option linter.unusedVariables false
set_option maxHeartbeats 16000000
namespace Go.Proofs.YtbiplmbcdhjiaaaGreatDoor
open Go.Lib (hid)
section
open Go.RowKit
namespace EvC
open EvA StrC AppC
theorem ztd {w : World} {g : Nat} {e : EvG} (h : w.heap[g]? = some (evO e)) :
 w.cell? ⟨g, 0, none⟩ = some (.int .u8 e.k) ∧ w.cell? ⟨g, 1, none⟩ = some (.string (str e.who)) ∧ w.cell? ⟨g, 2, none⟩ = some (.string (str e.name)) ∧ w.cell? ⟨g, 3, none⟩ = some (.string (str e.ver)) ∧ w.cell? ⟨g, 4, none⟩ = some (.slice e.na e.needs.length e.nc) ∧
 w.cell? ⟨g, 5, none⟩ = some (.int .u64 e.sum) ∧ w.cell? ⟨g, 6, none⟩ = some (.int .u32 e.n) ∧ w.cell? ⟨g, 7, none⟩ = some (.int .u32 e.size) ∧ w.cell? ⟨g, 8, none⟩ = some (.string (str e.holder)) ∧ w.cell? ⟨g, 9, none⟩ = some (.string (str e.note)) := by
 refine ⟨?_, ?_, ?_, ?_, ?_, ?_, ?_, ?_, ?_, ?_⟩ <;> (rw [cell_of_row w g _ _ _ (0, 0) h]; rfl)
theorem zte (x y : B × B) (w : World) : (binOp .neq 78 (.agg #[.string (str x.1), .string (str x.2)]) (.agg #[.string (str y.1), .string (str y.2)])).run Tryz.prog w = .ok (.bool (decide (x ≠ y))) w := by
 have p1 : ∀ w, (part 9 #[.string (str x.1), .string (str x.2)] 0).run Tryz.prog w = .ok (.string (str x.1)) w := fun w => by kernel_rfl
 have p2 : ∀ w, (part 9 #[.string (str x.1), .string (str x.2)] 1).run Tryz.prog w = .ok (.string (str x.2)) w := fun w => by kernel_rfl
 have p3 : ∀ w, (part 9 #[.string (str y.1), .string (str y.2)] 0).run Tryz.prog w = .ok (.string (str y.1)) w := fun w => by kernel_rfl
 have p4 : ∀ w, (part 9 #[.string (str y.1), .string (str y.2)] 1).run Tryz.prog w = .ok (.string (str y.2)) w := fun w => by kernel_rfl
 rw [run_neq_struct, run_equalIn_agg w 9999 78 _ _ (by kernel_rfl) (by kernel_rfl)]
 have hfs : ∃ f0 f1 : Field, (Tryz.prog.fieldsOf 78).toList = [f0, f1] ∧ (f0.name.length == 1) = false ∧ (f1.name.length == 1) = false ∧ f0.type = 9 ∧ f1.type = 9 ∧ f0.offset = 0 ∧ f1.offset = 1 :=
  ⟨(Tryz.prog.fieldsOf 78)[0]!, (Tryz.prog.fieldsOf 78)[1]!, by kernel_rfl, by kernel_rfl, by kernel_rfl, by kernel_rfl, by kernel_rfl, by kernel_rfl, by kernel_rfl⟩
 obtain ⟨f0, f1, hf, m0, m1, t0, t1, o0, o1⟩ := hfs
 have n0 : f0.name ≠ "_" := fun h => by rw [h] at m0; exact absurd m0 (by decide)
 have n1 : f1.name ≠ "_" := fun h => by rw [h] at m1; exact absurd m1 (by decide)
 rw [hf]
 simp only [Op.eqFields, n0, n1, ne_eq, not_false_eq_true, if_true, t0, t1, o0, o1, Sem.run_bind, p1, p3, Result.andThen_ok, run_equalIn_string w 9998 9 _ _ Tryz.underlying9, zbp]
 obtain ⟨x1, x2⟩ := x
 obtain ⟨y1, y2⟩ := y
 dsimp only at p1 p2 p3 p4 ⊢
 by_cases h1 : x1 = y1
 · have e1 : decide (x1 = y1) = true := decide_eq_true h1
   by_cases h2 : x2 = y2
   · have e2 : decide (x2 = y2) = true := decide_eq_true h2
     have e3 : decide ((x1, x2) ≠ (y1, y2)) = false := by simp [h1, h2]
     simp only [e1, e2, e3, p2, p4, Result.andThen, Bool.not_true, Bool.false_eq_true, if_false, Sem.run_bind, run_equalIn_string w 9998 9 _ _ Tryz.underlying9, zbp]
     simp
   · have e2 : decide (x2 = y2) = false := decide_eq_false h2
     have e3 : decide ((x1, x2) ≠ (y1, y2)) = true := by simp [h2]
     simp only [e1, e2, e3, p2, p4, Result.andThen, Bool.not_true, Bool.false_eq_true, if_false, Sem.run_bind, run_equalIn_string w 9998 9 _ _ Tryz.underlying9, zbp]
     simp
 · have e1 : decide (x1 = y1) = false := decide_eq_false h1
   have e3 : decide ((x1, x2) ≠ (y1, y2)) = true := by simp [h1]
   simp only [e1, e3, Result.andThen]
   simp
theorem ztf {L M : List (B × B)} (hl : L.length = M.length) (h : ∀ j, j < L.length → L[j]? = M[j]?) : L = M := by
 apply List.ext_getElem?
 intro j
 by_cases hj : j < L.length
 · exact h j hj
 · rw [List.getElem?_eq_none (by omega), List.getElem?_eq_none (by omega)]
theorem ztg (a1 : Option Addr) (c1 : Nat) (L : List (B × B)) (a2 : Option Addr) (c2 : Nat) (M : List (B × B)) (w : World) (h1 : NeIn w a1 c1 L) (h2 : NeIn w a2 c2 M) :
 Calls Tryz.prog 40 #[.slice a1 L.length c1, .slice a2 M.length c2] w fun e w' => e = .returned (.bool (decide (L = M))) ∧ ∃ q, w' = w.drewN q := by
 by_cases hl : L.length = M.length
 rotate_left
 · have tne : ((L.length : Int) != (M.length : Int)) = true := by rw [bne_iff_ne]; omega
   have hd : decide (L = M) = false := decide_eq_false (fun e => hl (by rw [e]))
   rw [hd]
   clear h1 h2
   go_enter Tryz.func40, Tryz.ntmps40
   go_wp2_with fail
   go_ret
   exact ⟨rfl, 0, rfl⟩
 have tne : ((L.length : Int) != (M.length : Int)) = false := by rw [bne_eq_false_iff_eq]; omega
 have HL := hid hl
 have H1 := hid h1
 have H2 := hid h2
 have hlm := h1.few
 have HLM : Hid (L.length ≤ 4398046510976) := hid (by omega)
 clear h1 h2 hlm
 go_enter Tryz.func40, Tryz.ntmps40
 go_wp2_with fail
 clear hl tne
 go_loopw [5, 13] (fun _ vi wr => ∃ i q : Nat, i ≤ L.length ∧ vi = .int .i64 i ∧ wr = w.drewN q ∧ Hid (∀ j, j < i → L[j]? = M[j]?)) (fun _ vi _ => L.length - (intOf vi).toNat)
 case atStart => exact ⟨0, 0, Nat.zero_le _, rfl, rfl, hid (fun j h => absurd h (by omega))⟩
 case round =>
  obtain ⟨i, q, hi, rfl, rfl, HS⟩ := hrel
  by_cases hlt : i < L.length
  · have hdec : decide (i < L.length) = true := by simpa using hlt
    have hgt : i < M.length := by have := HL.out; omega
    have hdec2 : decide (i < M.length) = true := by simpa using hgt
    obtain ⟨g, o, x, -, hx, rfl, x1, x2⟩ := H1.out.at i hlt
    obtain ⟨g', o', y, -, hy, rfl, y1, y2⟩ := H2.out.at i hgt
    have es3 : IntKind.i64.wrap (i : Int) = (i : Int) := IntWalk.i64_in _ ⟨by omega, by have := HLM.out; omega⟩
    have hib : i < 4398046510976 := by have := HLM.out; omega
    have n1 : (0 : Int) ≤ (i : Int) := by omega
    have n2 : (i : Int) < (L.length : Int) := by omega
    have n3 : (i : Int) < (M.length : Int) := by omega
    have hneq := zte x y
    have HSN := hid (show x = y → ∀ j, j < i + 1 → L[j]? = M[j]? from fun e j hj => by
     by_cases e2 : j = i
     · subst e2; rw [hx, hy, e]
     · exact HS.out j (by omega))
    have HNO := hid (show x ≠ y → decide (L = M) = false from fun e => decide_eq_false (fun e2 => by
     rw [e2, hy] at hx
     exact e (Option.some.inj hx).symm))
    clear hx hy
    by_cases hs : x = y
    · have hdn : decide (x ≠ y) = false := by simp [hs]
      rw [hdn] at hneq
      have HNX := hid (HSN.out hs)
      clear hs hdn
      go_wp2_with fail
      go_quiet (fail)
      go_wp2_with fail
      go_roundw
      case rel => exact ⟨i + 1, _, by omega, by go_num, rfl, HNX⟩
      case measure => simp [intOf]; omega
    · have hdn : decide (x ≠ y) = true := by simp [hs]
      rw [hdn] at hneq
      have HNX := hid (HNO.out hs)
      clear hs hdn
      go_wp2_with fail
      go_quiet (fail)
      go_wp2_with fail
      go_ret
      rw [HNX.out]
      exact ⟨rfl, _, World.drewN_drewN _ _ _⟩
  · have hdec : decide (i < L.length) = false := by simpa using hlt
    have hdec2 : decide (i < M.length) = false := by have := HL.out; simp; omega
    have hsl : decide (L = M) = true := decide_eq_true (ztf HL.out (fun j hj => HS.out j (by omega)))
    have HSL := hid hsl
    clear hsl
    go_wp2_with fail
    go_ret
    rw [HSL.out]
    exact ⟨rfl, _, rfl⟩
def sameE (a b : EvG) : Bool := decide (a.k = b.k) && decide (a.who = b.who) && decide (a.name = b.name) && decide (a.ver = b.ver) && decide (a.needs = b.needs) && decide (a.sum = b.sum) && decide (a.n = b.n) && decide (a.size = b.size) && decide (a.holder = b.holder) && decide (a.note = b.note)
theorem zth {B : Nat} {w w' : World} (h : Below B w w') (q : Nat) : Below B w (w'.drewN q) := ⟨h.os, h.tape, h.output, h.size, h.block⟩
set_option maxRecDepth 100000 in
theorem zti (a b : EvG) (w : World) (ha : NeIn w a.na a.nc a.needs) (hb : NeIn w b.na b.nc b.needs) :
 Calls Tryz.prog 15 #[evV a, evV b] w fun e w' => e = .returned (.bool (sameE a b)) ∧ Below w.heap.size w w' := by
 have hb1 : Below w.heap.size w (w.alloc (evO a)) := (Below.refl _ w).alloc (Nat.le_refl _) _
 have hb2 : Below w.heap.size w ((w.alloc (evO a)).alloc (evO b)) := hb1.alloc hb1.size _
 have HEQ := hid (ztg a.na a.nc a.needs b.na b.nc b.needs ((w.alloc (evO a)).alloc (evO b)) (ha.gr hb2) (hb.gr hb2))
 have HB : Hid (∀ q, Below w.heap.size w (((w.alloc (evO a)).alloc (evO b)).drewN q)) := hid (fun q => zth hb2 q)
 have hn2 := heap_alloc_new (w.alloc (evO a)) (evO b)
 have hn1 := heap_alloc_old (w.alloc (evO a)) (evO b) (r := w.heap.size) (by simp)
 rw [heap_alloc_new w (evO a)] at hn1
 obtain ⟨x0, x1, x2, x3, x4, x5, x6, x7, x8, x9⟩ := ztd hn1
 obtain ⟨y0, y1, y2, y3, y4, y5, y6, y7, y8, y9⟩ := ztd hn2
 simp only [World.size_alloc] at y0 y1 y2 y3 y4 y5 y6 y7 y8 y9
 clear ha hb hb1 hb2 hn1 hn2
 by_cases h0 : a.k = b.k
 rotate_left
 · have e0 : ((a.k : Int) == (b.k : Int)) = false := by rw [beq_eq_false_iff_ne]; omega
   have n0 : ((a.k : Int) != (b.k : Int)) = true := by unfold bne; rw [e0]; rfl
   have hs : sameE a b = false := by unfold sameE; simp [h0]
   rw [hs]
   clear hs h0
   go_enter Tryz.func15, Tryz.ntmps15
   go_wp2_with fail
   go_ret
   exact ⟨rfl, HB.out 0⟩
 by_cases h1 : a.who = b.who
 rotate_left
 · have e0 : ((a.k : Int) == (b.k : Int)) = true := by rw [beq_iff_eq]; omega
   have n0 : ((a.k : Int) != (b.k : Int)) = false := by unfold bne; rw [e0]; rfl
   have e1 : ((str a.who).toList == (str b.who).toList) = false := by rw [zbp]; simpa using h1
   have n1 : ((str a.who).toList != (str b.who).toList) = true := by unfold bne; rw [e1]; rfl
   have hs : sameE a b = false := by unfold sameE; simp [h1]
   rw [hs]
   clear hs h0 h1
   go_enter Tryz.func15, Tryz.ntmps15
   go_wp2_with fail
   go_ret
   exact ⟨rfl, HB.out 0⟩
 by_cases h2 : a.name = b.name
 rotate_left
 · have e0 : ((a.k : Int) == (b.k : Int)) = true := by rw [beq_iff_eq]; omega
   have n0 : ((a.k : Int) != (b.k : Int)) = false := by unfold bne; rw [e0]; rfl
   have e1 : ((str a.who).toList == (str b.who).toList) = true := by rw [zbp]; simpa using h1
   have n1 : ((str a.who).toList != (str b.who).toList) = false := by unfold bne; rw [e1]; rfl
   have e2 : ((str a.name).toList == (str b.name).toList) = false := by rw [zbp]; simpa using h2
   have n2 : ((str a.name).toList != (str b.name).toList) = true := by unfold bne; rw [e2]; rfl
   have hs : sameE a b = false := by unfold sameE; simp [h2]
   rw [hs]
   clear hs h0 h1 h2
   go_enter Tryz.func15, Tryz.ntmps15
   go_wp2_with fail
   go_ret
   exact ⟨rfl, HB.out 0⟩
 by_cases h3 : a.ver = b.ver
 rotate_left
 · have e0 : ((a.k : Int) == (b.k : Int)) = true := by rw [beq_iff_eq]; omega
   have n0 : ((a.k : Int) != (b.k : Int)) = false := by unfold bne; rw [e0]; rfl
   have e1 : ((str a.who).toList == (str b.who).toList) = true := by rw [zbp]; simpa using h1
   have n1 : ((str a.who).toList != (str b.who).toList) = false := by unfold bne; rw [e1]; rfl
   have e2 : ((str a.name).toList == (str b.name).toList) = true := by rw [zbp]; simpa using h2
   have n2 : ((str a.name).toList != (str b.name).toList) = false := by unfold bne; rw [e2]; rfl
   have e3 : ((str a.ver).toList == (str b.ver).toList) = false := by rw [zbp]; simpa using h3
   have n3 : ((str a.ver).toList != (str b.ver).toList) = true := by unfold bne; rw [e3]; rfl
   have hs : sameE a b = false := by unfold sameE; simp [h3]
   rw [hs]
   clear hs h0 h1 h2 h3
   go_enter Tryz.func15, Tryz.ntmps15
   go_wp2_with fail
   go_ret
   exact ⟨rfl, HB.out 0⟩
 by_cases h4 : a.needs = b.needs
 rotate_left
 · have e0 : ((a.k : Int) == (b.k : Int)) = true := by rw [beq_iff_eq]; omega
   have n0 : ((a.k : Int) != (b.k : Int)) = false := by unfold bne; rw [e0]; rfl
   have e1 : ((str a.who).toList == (str b.who).toList) = true := by rw [zbp]; simpa using h1
   have n1 : ((str a.who).toList != (str b.who).toList) = false := by unfold bne; rw [e1]; rfl
   have e2 : ((str a.name).toList == (str b.name).toList) = true := by rw [zbp]; simpa using h2
   have n2 : ((str a.name).toList != (str b.name).toList) = false := by unfold bne; rw [e2]; rfl
   have e3 : ((str a.ver).toList == (str b.ver).toList) = true := by rw [zbp]; simpa using h3
   have n3 : ((str a.ver).toList != (str b.ver).toList) = false := by unfold bne; rw [e3]; rfl
   have e4 : decide (a.needs = b.needs) = false := by simpa using h4
   have hs : sameE a b = false := by unfold sameE; simp [h4]
   rw [e4] at HEQ
   rw [hs]
   clear hs h0 h1 h2 h3 h4
   go_enter Tryz.func15, Tryz.ntmps15
   go_wp2_with (go_at_call 40; refine HEQ.out.mono ?_; rintro e w' ⟨rfl, q, rfl⟩)
   go_ret
   exact ⟨rfl, HB.out _⟩
 by_cases h5 : a.sum = b.sum
 rotate_left
 · have e0 : ((a.k : Int) == (b.k : Int)) = true := by rw [beq_iff_eq]; omega
   have n0 : ((a.k : Int) != (b.k : Int)) = false := by unfold bne; rw [e0]; rfl
   have e1 : ((str a.who).toList == (str b.who).toList) = true := by rw [zbp]; simpa using h1
   have n1 : ((str a.who).toList != (str b.who).toList) = false := by unfold bne; rw [e1]; rfl
   have e2 : ((str a.name).toList == (str b.name).toList) = true := by rw [zbp]; simpa using h2
   have n2 : ((str a.name).toList != (str b.name).toList) = false := by unfold bne; rw [e2]; rfl
   have e3 : ((str a.ver).toList == (str b.ver).toList) = true := by rw [zbp]; simpa using h3
   have n3 : ((str a.ver).toList != (str b.ver).toList) = false := by unfold bne; rw [e3]; rfl
   have e4 : decide (a.needs = b.needs) = true := by simpa using h4
   have e5 : ((a.sum : Int) == (b.sum : Int)) = false := by rw [beq_eq_false_iff_ne]; omega
   have n5 : ((a.sum : Int) != (b.sum : Int)) = true := by unfold bne; rw [e5]; rfl
   have hs : sameE a b = false := by unfold sameE; simp [h5]
   rw [e4] at HEQ
   rw [hs]
   clear hs h0 h1 h2 h3 h4 h5
   go_enter Tryz.func15, Tryz.ntmps15
   go_wp2_with (go_at_call 40; refine HEQ.out.mono ?_; rintro e w' ⟨rfl, q, rfl⟩)
   go_ret
   exact ⟨rfl, HB.out _⟩
 by_cases h6 : a.n = b.n
 rotate_left
 · have e0 : ((a.k : Int) == (b.k : Int)) = true := by rw [beq_iff_eq]; omega
   have n0 : ((a.k : Int) != (b.k : Int)) = false := by unfold bne; rw [e0]; rfl
   have e1 : ((str a.who).toList == (str b.who).toList) = true := by rw [zbp]; simpa using h1
   have n1 : ((str a.who).toList != (str b.who).toList) = false := by unfold bne; rw [e1]; rfl
   have e2 : ((str a.name).toList == (str b.name).toList) = true := by rw [zbp]; simpa using h2
   have n2 : ((str a.name).toList != (str b.name).toList) = false := by unfold bne; rw [e2]; rfl
   have e3 : ((str a.ver).toList == (str b.ver).toList) = true := by rw [zbp]; simpa using h3
   have n3 : ((str a.ver).toList != (str b.ver).toList) = false := by unfold bne; rw [e3]; rfl
   have e4 : decide (a.needs = b.needs) = true := by simpa using h4
   have e5 : ((a.sum : Int) == (b.sum : Int)) = true := by rw [beq_iff_eq]; omega
   have n5 : ((a.sum : Int) != (b.sum : Int)) = false := by unfold bne; rw [e5]; rfl
   have e6 : ((a.n : Int) == (b.n : Int)) = false := by rw [beq_eq_false_iff_ne]; omega
   have n6 : ((a.n : Int) != (b.n : Int)) = true := by unfold bne; rw [e6]; rfl
   have hs : sameE a b = false := by unfold sameE; simp [h6]
   rw [e4] at HEQ
   rw [hs]
   clear hs h0 h1 h2 h3 h4 h5 h6
   go_enter Tryz.func15, Tryz.ntmps15
   go_wp2_with (go_at_call 40; refine HEQ.out.mono ?_; rintro e w' ⟨rfl, q, rfl⟩)
   go_ret
   exact ⟨rfl, HB.out _⟩
 by_cases h7 : a.size = b.size
 rotate_left
 · have e0 : ((a.k : Int) == (b.k : Int)) = true := by rw [beq_iff_eq]; omega
   have n0 : ((a.k : Int) != (b.k : Int)) = false := by unfold bne; rw [e0]; rfl
   have e1 : ((str a.who).toList == (str b.who).toList) = true := by rw [zbp]; simpa using h1
   have n1 : ((str a.who).toList != (str b.who).toList) = false := by unfold bne; rw [e1]; rfl
   have e2 : ((str a.name).toList == (str b.name).toList) = true := by rw [zbp]; simpa using h2
   have n2 : ((str a.name).toList != (str b.name).toList) = false := by unfold bne; rw [e2]; rfl
   have e3 : ((str a.ver).toList == (str b.ver).toList) = true := by rw [zbp]; simpa using h3
   have n3 : ((str a.ver).toList != (str b.ver).toList) = false := by unfold bne; rw [e3]; rfl
   have e4 : decide (a.needs = b.needs) = true := by simpa using h4
   have e5 : ((a.sum : Int) == (b.sum : Int)) = true := by rw [beq_iff_eq]; omega
   have n5 : ((a.sum : Int) != (b.sum : Int)) = false := by unfold bne; rw [e5]; rfl
   have e6 : ((a.n : Int) == (b.n : Int)) = true := by rw [beq_iff_eq]; omega
   have n6 : ((a.n : Int) != (b.n : Int)) = false := by unfold bne; rw [e6]; rfl
   have e7 : ((a.size : Int) == (b.size : Int)) = false := by rw [beq_eq_false_iff_ne]; omega
   have n7 : ((a.size : Int) != (b.size : Int)) = true := by unfold bne; rw [e7]; rfl
   have hs : sameE a b = false := by unfold sameE; simp [h7]
   rw [e4] at HEQ
   rw [hs]
   clear hs h0 h1 h2 h3 h4 h5 h6 h7
   go_enter Tryz.func15, Tryz.ntmps15
   go_wp2_with (go_at_call 40; refine HEQ.out.mono ?_; rintro e w' ⟨rfl, q, rfl⟩)
   go_ret
   exact ⟨rfl, HB.out _⟩
 by_cases h8 : a.holder = b.holder
 rotate_left
 · have e0 : ((a.k : Int) == (b.k : Int)) = true := by rw [beq_iff_eq]; omega
   have n0 : ((a.k : Int) != (b.k : Int)) = false := by unfold bne; rw [e0]; rfl
   have e1 : ((str a.who).toList == (str b.who).toList) = true := by rw [zbp]; simpa using h1
   have n1 : ((str a.who).toList != (str b.who).toList) = false := by unfold bne; rw [e1]; rfl
   have e2 : ((str a.name).toList == (str b.name).toList) = true := by rw [zbp]; simpa using h2
   have n2 : ((str a.name).toList != (str b.name).toList) = false := by unfold bne; rw [e2]; rfl
   have e3 : ((str a.ver).toList == (str b.ver).toList) = true := by rw [zbp]; simpa using h3
   have n3 : ((str a.ver).toList != (str b.ver).toList) = false := by unfold bne; rw [e3]; rfl
   have e4 : decide (a.needs = b.needs) = true := by simpa using h4
   have e5 : ((a.sum : Int) == (b.sum : Int)) = true := by rw [beq_iff_eq]; omega
   have n5 : ((a.sum : Int) != (b.sum : Int)) = false := by unfold bne; rw [e5]; rfl
   have e6 : ((a.n : Int) == (b.n : Int)) = true := by rw [beq_iff_eq]; omega
   have n6 : ((a.n : Int) != (b.n : Int)) = false := by unfold bne; rw [e6]; rfl
   have e7 : ((a.size : Int) == (b.size : Int)) = true := by rw [beq_iff_eq]; omega
   have n7 : ((a.size : Int) != (b.size : Int)) = false := by unfold bne; rw [e7]; rfl
   have e8 : ((str a.holder).toList == (str b.holder).toList) = false := by rw [zbp]; simpa using h8
   have n8 : ((str a.holder).toList != (str b.holder).toList) = true := by unfold bne; rw [e8]; rfl
   have hs : sameE a b = false := by unfold sameE; simp [h8]
   rw [e4] at HEQ
   rw [hs]
   clear hs h0 h1 h2 h3 h4 h5 h6 h7 h8
   go_enter Tryz.func15, Tryz.ntmps15
   go_wp2_with (go_at_call 40; refine HEQ.out.mono ?_; rintro e w' ⟨rfl, q, rfl⟩)
   go_ret
   exact ⟨rfl, HB.out _⟩
 by_cases h9 : a.note = b.note
 rotate_left
 · have e0 : ((a.k : Int) == (b.k : Int)) = true := by rw [beq_iff_eq]; omega
   have n0 : ((a.k : Int) != (b.k : Int)) = false := by unfold bne; rw [e0]; rfl
   have e1 : ((str a.who).toList == (str b.who).toList) = true := by rw [zbp]; simpa using h1
   have n1 : ((str a.who).toList != (str b.who).toList) = false := by unfold bne; rw [e1]; rfl
   have e2 : ((str a.name).toList == (str b.name).toList) = true := by rw [zbp]; simpa using h2
   have n2 : ((str a.name).toList != (str b.name).toList) = false := by unfold bne; rw [e2]; rfl
   have e3 : ((str a.ver).toList == (str b.ver).toList) = true := by rw [zbp]; simpa using h3
   have n3 : ((str a.ver).toList != (str b.ver).toList) = false := by unfold bne; rw [e3]; rfl
   have e4 : decide (a.needs = b.needs) = true := by simpa using h4
   have e5 : ((a.sum : Int) == (b.sum : Int)) = true := by rw [beq_iff_eq]; omega
   have n5 : ((a.sum : Int) != (b.sum : Int)) = false := by unfold bne; rw [e5]; rfl
   have e6 : ((a.n : Int) == (b.n : Int)) = true := by rw [beq_iff_eq]; omega
   have n6 : ((a.n : Int) != (b.n : Int)) = false := by unfold bne; rw [e6]; rfl
   have e7 : ((a.size : Int) == (b.size : Int)) = true := by rw [beq_iff_eq]; omega
   have n7 : ((a.size : Int) != (b.size : Int)) = false := by unfold bne; rw [e7]; rfl
   have e8 : ((str a.holder).toList == (str b.holder).toList) = true := by rw [zbp]; simpa using h8
   have n8 : ((str a.holder).toList != (str b.holder).toList) = false := by unfold bne; rw [e8]; rfl
   have e9 : ((str a.note).toList == (str b.note).toList) = false := by rw [zbp]; simpa using h9
   have n9 : ((str a.note).toList != (str b.note).toList) = true := by unfold bne; rw [e9]; rfl
   have hs : sameE a b = false := by unfold sameE; simp [h9]
   rw [e4] at HEQ
   rw [hs]
   clear hs h0 h1 h2 h3 h4 h5 h6 h7 h8 h9
   go_enter Tryz.func15, Tryz.ntmps15
   go_wp2_with (go_at_call 40; refine HEQ.out.mono ?_; rintro e w' ⟨rfl, q, rfl⟩)
   go_ret
   exact ⟨rfl, HB.out _⟩
 have e0 : ((a.k : Int) == (b.k : Int)) = true := by rw [beq_iff_eq]; omega
 have n0 : ((a.k : Int) != (b.k : Int)) = false := by unfold bne; rw [e0]; rfl
 have e1 : ((str a.who).toList == (str b.who).toList) = true := by rw [zbp]; simpa using h1
 have n1 : ((str a.who).toList != (str b.who).toList) = false := by unfold bne; rw [e1]; rfl
 have e2 : ((str a.name).toList == (str b.name).toList) = true := by rw [zbp]; simpa using h2
 have n2 : ((str a.name).toList != (str b.name).toList) = false := by unfold bne; rw [e2]; rfl
 have e3 : ((str a.ver).toList == (str b.ver).toList) = true := by rw [zbp]; simpa using h3
 have n3 : ((str a.ver).toList != (str b.ver).toList) = false := by unfold bne; rw [e3]; rfl
 have e4 : decide (a.needs = b.needs) = true := by simpa using h4
 have e5 : ((a.sum : Int) == (b.sum : Int)) = true := by rw [beq_iff_eq]; omega
 have n5 : ((a.sum : Int) != (b.sum : Int)) = false := by unfold bne; rw [e5]; rfl
 have e6 : ((a.n : Int) == (b.n : Int)) = true := by rw [beq_iff_eq]; omega
 have n6 : ((a.n : Int) != (b.n : Int)) = false := by unfold bne; rw [e6]; rfl
 have e7 : ((a.size : Int) == (b.size : Int)) = true := by rw [beq_iff_eq]; omega
 have n7 : ((a.size : Int) != (b.size : Int)) = false := by unfold bne; rw [e7]; rfl
 have e8 : ((str a.holder).toList == (str b.holder).toList) = true := by rw [zbp]; simpa using h8
 have n8 : ((str a.holder).toList != (str b.holder).toList) = false := by unfold bne; rw [e8]; rfl
 have e9 : ((str a.note).toList == (str b.note).toList) = true := by rw [zbp]; simpa using h9
 have n9 : ((str a.note).toList != (str b.note).toList) = false := by unfold bne; rw [e9]; rfl
 have hs : sameE a b = true := by unfold sameE; simp [h0, h1, h2, h3, h4, h5, h6, h7, h8, h9]
 rw [e4] at HEQ
 rw [hs]
 clear hs h0 h1 h2 h3 h4 h5 h6 h7 h8 h9
 go_enter Tryz.func15, Tryz.ntmps15
 go_wp2_with (go_at_call 40; refine HEQ.out.mono ?_; rintro e w' ⟨rfl, q, rfl⟩)
 go_ret
 exact ⟨rfl, HB.out _⟩
end EvC
end
section
open Go.RowKit
namespace EvC
open EvA StrC AppC
theorem ztj : ∀ (L : List (B × B)) (i j : Nat), i < L.length → j < 2 → (L.flatMap needL)[i * 2 + j]? = some ((needL L[i]!)[j]!)
 | [], _, _, h, _ => absurd h (by simp)
 | x :: L, 0, j, _, hj => by
  have : j = 0 ∨ j = 1 := by omega
  rcases this with rfl | rfl <;> rfl
 | x :: L, i + 1, j, h, hj => by
  have ih := ztj L i j (by simpa using h) hj
  show (needL x ++ L.flatMap needL)[(i + 1) * 2 + j]? = _
  rw [List.getElem?_append_right (by simp; omega)]
  have : (i + 1) * 2 + j - (needL x).length = i * 2 + j := by simp; omega
  rw [this, ih]
  rfl
theorem ztk : ∀ (L : List (B × B)), (L.flatMap needL).length = L.length * 2
 | [] => rfl
 | x :: L => by
  show (needL x ++ L.flatMap needL).length = _
  rw [List.length_append, ztk L, List.length_cons]
  show 2 + L.length * 2 = (L.length + 1) * 2
  omega
theorem ztl (L : List (B × B)) : ∀ u ∈ L.flatMap needL, u.oneCell' = true := by
 intro u hu
 obtain ⟨x, _, hx⟩ := List.mem_flatMap.1 hu
 simp only [List.mem_cons, List.not_mem_nil, or_false] at hx
 rcases hx with rfl | rfl <;> rfl
theorem ne_news {w : World} {a : Option Addr} {c : Nat} {L : List (B × B)} (h : NeIn w a c L) : ∀ ad, a = some ad → ∀ j u, (L.flatMap needL)[j]? = some u → w.cell? (ad.add j) = some u := by
 intro ad e j u hu
 have hj : j < L.length * 2 := by
  have := (List.getElem?_eq_some_iff.1 hu).1
  rwa [ztk] at this
 obtain ⟨g, o, e2, hc⟩ := h.cells (by omega)
 rw [e] at e2
 cases e2
 have hk := hc (j / 2) (by omega) (j % 2) (by omega)
 have e3 := ztj L (j / 2) (j % 2) (by omega) (by omega)
 rw [show j / 2 * 2 + j % 2 = j from by omega] at e3
 rw [e3] at hu
 rw [Go.WideShapes.add_plain, ← hu, ← hk]
 congr 2
 omega
theorem ztm {w : World} {N : Nat} {v : Value} {L : List (B × B)} (h : w.ownsRow N 78 2 v L.length (L.flatMap needL)) (hf : L.length * 32 ≤ 140737488351232) (hs : ∀ x ∈ L, x.1.length ≤ 140737488351232 ∧ x.2.length ≤ 140737488351232) :
 ∃ a c, v = .slice a L.length c ∧ NeIn w a c L := by
 have h' := h
 obtain ⟨_, ⟨rfl, h0⟩ | ⟨g, cp, cur, rfl, hg0, hblk, hle, _⟩⟩ := h'
 · have : L = [] := List.length_eq_zero_iff.1 h0
   subst this
   exact ⟨none, 0, rfl, NeIn.no w⟩
 · refine ⟨_, cp, rfl, hle, hf, hs, fun h0 => ⟨g, 0, rfl, fun i hi j hj => ?_⟩⟩
   rw [Nat.zero_add, h.cellAt (i * 2 + j) (by omega), ztj L i j hi hj]
theorem ne_keep {w w' : World} {a : Option Addr} {c : Nat} {L : List (B × B)} (h : NeIn w a c L) (g : ∀ b o, a = some ⟨b, o, none⟩ → w'.heap[b]? = w.heap[b]?) : NeIn w' a c L :=
 ⟨h.le, h.few, h.short, fun h0 => by
  obtain ⟨b, o, e, hc⟩ := h.cells h0
  exact ⟨b, o, e, fun i hi j hj => by rw [World.cell?_of_block (a := ⟨b, o + i * 2 + j, none⟩) (g b o e)]; exact hc i hi j hj⟩⟩
theorem ztn : (Tryz.prog.info? 78).map (fun i => (i.zero, i.size, i.bytes)) = some (some (.agg #[.string ⟨#[]⟩, .string ⟨#[]⟩]), 2, 32) := by kernel_rfl
theorem zto : (Tryz.prog.info? 27).map (·.size) = some 10 := by kernel_rfl
theorem ztp (e : EvG) : ((evL e).toArray.all (·.oneCell')) = true := by simp [Value.oneCell']
abbrev evZ : Obj := .cells #[.int .u8 0, .string ⟨#[]⟩, .string ⟨#[]⟩, .string ⟨#[]⟩, .slice none 0 0, .int .u64 0, .int .u32 0, .int .u32 0, .string ⟨#[]⟩, .string ⟨#[]⟩] 27
theorem ztq {w : World} {g : Nat} {cs : Array Value} {t : TypeId} {fr : Nat × Nat} (h : w.heap[g]? = some (.cells cs t fr)) (i : Nat) (v : Value) : (w.setCell ⟨g, i, none⟩ v).heap[g]? = some (.cells (cs.setIfInBounds i v) t fr) := by
 unfold World.setCell
 simp [Array.getElem?_modify, h]
theorem ztr {w : World} {g k : Nat} (i : Nat) (v : Value) (h : k ≠ g) : (w.setCell ⟨g, i, none⟩ v).heap[k]? = w.heap[k]? := Below.heap_setCell w ⟨g, i, none⟩ v k h
theorem zts {w : World} {g : Nat} {cs : Array Value} {t : TypeId} (h : w.heap[g]? = some (.cells cs t (0, 0))) (i : Nat) : w.frozen? ⟨g, i, none⟩ = false := by simp [World.frozen?, h]
theorem res_c {P : Program} {fn : Func} {p : Tmp} {ty : TypeId} (h : fn.results = #[.cell p ty]) (tmps : Array Value) (w : World) (g : Nat) (t : TypeId) (cs : Array Value) (fr : Nat × Nat) (d : TypeDesc)
 (hp : tmps.getD p undef = .pointer (some ⟨g, 0, none⟩)) (hg : w.heap[g]? = some (.cells cs t fr))
 (hu : P.underlying ty = some d) (hd : (match d with | .struct _ | .array _ _ => true | _ => false) = true) (hi : (P.info? ty).map (·.size) = some cs.size) :
 (results fn tmps).run P w = .ok (.agg cs) w := by
 have hp' : tmps[p]?.getD undef = .pointer (some ⟨g, 0, none⟩) := by simpa using hp
 simp [results, h, hp', asAddr, run_loadVar_row w g t ty cs fr d hg hu hd hi]
def atE (e : EvG) (a : Option Addr) (c : Nat) : EvG := ⟨e.k, e.who, e.name, e.ver, a, c, e.needs, e.sum, e.n, e.size, e.holder, e.note⟩
set_option maxRecDepth 100000 in
theorem ztt (e : EvG) (w : World) (hN : NeIn w e.na e.nc e.needs) :
 Calls Tryz.prog 5 #[evV e] w fun r w' => ∃ a c, r = .returned (evV (atE e a c)) ∧ NeIn w' a c e.needs ∧ Below w.heap.size w w' := by
 obtain ⟨i0, hi, hz0, hz1, hz2⟩ := info_parts ztn
 have hnew := heap_alloc_new w (evO e)
 have hB0 : Below w.heap.size w (w.alloc (evO e)) := (Below.refl _ w).alloc (Nat.le_refl _) _
 have hr1 := (heap_alloc_old (w.alloc (evO e)) evZ (r := w.heap.size) (by simp)).trans hnew
 have hn1 := heap_alloc_new (w.alloc (evO e)) evZ
 have hs1 : (w.alloc (evO e)).heap.size = w.heap.size + 1 := by simp
 rw [hs1] at hn1
 have HB1 := hid (hB0.alloc hB0.size evZ)
 have HT2 := hid (hN.gr HB1.out)
 have hs2 : ((w.alloc (evO e)).alloc evZ).heap.size = w.heap.size + 2 := by simp
 have HS2 := hid hs2
 have HR1 := hid hr1
 have HN1 := hid hn1
 have HFEW := hid hN.few
 have HSH := hid hN.short
 obtain ⟨x0, x1, x2, x3, x4, x5, x6, x7, x8, x9⟩ := ztd hr1
 clear hN hnew hB0 hs1 hr1 hn1 hs2 x0 x1 x2 x3 x5 x6 x7 x8 x9
 go_enter Tryz.func5, Tryz.ntmps5
 go_wp2_with (at_builtin; (refine ztc _ rfl _ _ 23 rfl (w.heap.size + 2) 78 i0 _ 2 32 Tryz.underlying23 hi hz0 hz1 hz2 rfl (by decide) _ _ _ rfl (World.ownsRow_nil _ _ _ _) e.na e.needs.length e.nc (e.needs.flatMap needL) rfl HT2.out.nil_ (ztk _) (ne_news HT2.out) (ztl _) ?c4 ?c5 ?c6 ?_))
 case c4 => have := HFEW.out; unfold maxLen; omega
 case c5 => have := HFEW.out; omega
 case c6 => rw [HS2.out]; exact Nat.le_refl _
 intro v' w3 hown hg
 have hB3 : Below w.heap.size w w3 := HB1.out.grown hg (by rw [HS2.out]; omega) (fun k hk => by cases hk)
 have hr3 : w3.heap[w.heap.size]? = some (evO e) := (hg.block w.heap.size (by rw [HS2.out]; omega) (by simp [Value.ownBlock])).trans HR1.out
 have hn3 : w3.heap[w.heap.size + 1]? = some evZ := (hg.block (w.heap.size + 1) (by rw [HS2.out]; omega) (by simp [Value.ownBlock])).trans HN1.out
 have hO : w3.ownsRow (w.heap.size + 2) 78 2 v' e.needs.length (e.needs.flatMap needL) := by simpa using hown
 obtain ⟨a', c', rfl, hT3⟩ := ztm hO HFEW.out HSH.out
 have HOW := hid hO
 have HT3 := hid hT3
 have HB3 := hid hB3
 clear hown hg hO hT3 hB3 HT2 HS2 HR1 HN1 x4
 have hr4 : (w3.setCell ⟨w.heap.size, 4, none⟩ (.slice a' e.needs.length c')).heap[w.heap.size]? = some (evO (atE e a' c')) := ztq hr3 4 _
 have hn4 : (w3.setCell ⟨w.heap.size, 4, none⟩ (.slice a' e.needs.length c')).heap[w.heap.size + 1]? = some evZ := (ztr 4 _ (by omega)).trans hn3
 have f4 := zts hr3 4
 obtain ⟨x0, x1, x2, x3, x4, x5, x6, x7, x8, x9⟩ := ztd hr3
 have HB4 : Hid (Below w.heap.size w (w3.setCell ⟨w.heap.size, 4, none⟩ (.slice a' e.needs.length c'))) := hid (HB3.out.setCell (show w.heap.size ≤ (⟨w.heap.size, 4, none⟩ : Addr).block from Nat.le_refl _) _)
 have HOW5 : Hid (NeIn ((w3.setCell ⟨w.heap.size, 4, none⟩ (.slice a' e.needs.length c')).setRow (w.heap.size + 1) (evL (atE e a' c')).toArray) a' c' e.needs) := hid (ne_keep HT3.out (fun b o ea => by
  subst ea
  have hlt := (World.ownsRow.lt HOW.out b rfl).1
  rw [setRow_other _ _ _ _ (by omega), ztr 4 _ (by omega)]))
 clear hn3 x0 x1 x2 x3 x5 x6 x7 x8 x9 HB3
 go_wp2_with (first
  | (refine wpList_load_row rfl 27 _ rfl w.heap.size rfl _ _ _ _ hr4 Tryz.underlying27 rfl zto ?_)
  | (refine wpList_store_row rfl 27 _ _ rfl (w.heap.size + 1) (evL (atE e a' c')).toArray rfl rfl _ _ hn4 zto rfl (ztp _) ?_)
  | fail)
 refine bodyPost_ret (res_c rfl _ _ (w.heap.size + 1) _ _ _ _ rfl (setRow_heap _ _ _ _ _ _ hn4) Tryz.underlying27 rfl zto) rfl ?_
 exact ⟨a', c', rfl, HOW5.out, below_setRow HB4.out (by omega) _⟩
end EvC
end
end Go.Proofs.YtbiplmbcdhjiaaaGreatDoor
