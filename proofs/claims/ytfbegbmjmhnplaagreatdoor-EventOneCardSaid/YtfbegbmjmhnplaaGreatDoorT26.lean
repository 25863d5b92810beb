/-
  What the proof of EvBoth stands on, part 26.
-/
import Derived.Laws.RangeAny
import Derived.Lib.OthersKept
import Derived.Test.YtfbegbmjmhnplaaGreatDoorT22
set_option linter.unusedSimpArgs false
set_option linter.unusedVariables false
set_option maxHeartbeats 16000000
namespace Go.Proofs.YtfbegbmjmhnplaaGreatDoor
open Go.Lib (hid)
section
open Go.RowKit
namespace NameC
open NameM StrC
def kindN (n : Nat) : Int := if 97 ≤ n ∧ n ≤ 122 then 4 else if 65 ≤ n ∧ n ≤ 90 then 3 else if 48 ≤ n ∧ n ≤ 57 then 2 else if n = 45 ∨ n = 95 ∨ n = 46 then 1 else 0
theorem retI {a b : Int} (h : a = b) : Ending.returned (.int .i64 a) = Ending.returned (.int .i64 b) := by rw [h]
theorem zwb (n : Nat) (w : World) (h : n ≤ 2147483647) :
 Calls Tryz.prog 116 #[.int .i32 n] w fun e w' => e = .returned (.int .i64 (kindN n)) ∧ w = w' := by
 have H := hid (show kindN n = if 97 ≤ n ∧ n ≤ 122 then 4 else if 65 ≤ n ∧ n ≤ 90 then 3 else if 48 ≤ n ∧ n ≤ 57 then 2 else if n = 45 ∨ n = 95 ∨ n = 46 then 1 else 0 from rfl)
 generalize kindN n = K at *
 go_enter Tryz.func116, Tryz.ntmps116
 go_wp2
 all_goals go_ret
 all_goals refine ⟨retI ?_, rfl⟩
 all_goals rw [H.out]
 all_goals (repeat' split)
 all_goals first | rfl | omega | (simp only [beq_iff_eq, beq_eq_false_iff_ne, ne_eq] at *; omega)
theorem fits_any (l : List UInt8) (w : World) (hl : l.length ≤ 9223372036854775807) :
 Calls Tryz.prog 115 #[.string (str l)] w fun e w' => e = .returned (.bool (decide (1 ≤ l.length) && decide (l.length ≤ 64))) ∧ w = w' := by
 have hs := zbm l
 have H := hid (show (decide (1 ≤ l.length) && decide (l.length ≤ 64)) = decide (1 ≤ l.length ∧ l.length ≤ 64) by rw [Bool.eq_iff_iff]; simp)
 rw [H.out]
 go_enter Tryz.func115, Tryz.ntmps115
 go_wp2
 all_goals go_ret
 all_goals (refine ⟨retB ?_, rfl⟩; rw [Bool.eq_iff_iff]; simp only [Bool.false_eq_true, true_iff, false_iff, decide_eq_true_eq, Bool.and_eq_true]; omega)
theorem retS {a b : List UInt8} {x y : Int} (h : a = b) (h2 : x = y) : Ending.returned (.tuple #[.string (str a), .int .i64 x]) = Ending.returned (.tuple #[.string (str b), .int .i64 y]) := by rw [h, h2]
theorem info_u8 : (Tryz.prog.info? 5).map (fun i => (i.zero, i.size, i.bytes)) = some (some (.int .u8 0), 1, 1) := by kernel_rfl
def byteV (l : List UInt8) : List Value := l.map fun c => Value.int .u8 (c.toNat : Int)
theorem zwc (a b : List UInt8) : byteV a ++ byteV b = byteV (a ++ b) := by simp [byteV]
theorem zwd (l : List UInt8) : (byteV l).length = l.length := by simp [byteV]
theorem zwe (l : List UInt8) (k : Nat) (h : k < l.length) (h' : k < (str l).size) : (str l)[k]'h' = l.getD k 0 := by
 have : l.getD k 0 = l[k] := by rw [List.getD_eq_getElem?_getD, List.getElem?_eq_getElem h]; rfl
 rw [this]; rfl
theorem zwf (wr : World) (b : Nat) (l : List UInt8) (k : Nat) (hk : wr.heap[b]? = some (.stringIter (str l) k)) (h : k < l.length) (hb : (l.getD k 0).toNat < 128) (ty : TypeId) :
 (Instr.next (.pointer (some ⟨b, 0, none⟩)) true ty).run Tryz.prog wr = .ok (.tuple #[.bool true, .int .i64 k, .int .i32 ((l.getD k 0).toNat : Int)]) (wr.iterAt b (str l) (k + 1)) := by
 have h' : k < (str l).size := by rw [zbm]; exact h
 rw [Lib.run_next_ascii_at wr b (str l) k ty hk h' (by rw [zwe l k h h']; exact hb), zwe l k h h']
theorem zwg (wr : World) (b : Nat) (l : List UInt8) (k : Nat) (hk : wr.heap[b]? = some (.stringIter (str l) k)) (h : k < l.length) (hb : 128 ≤ (l.getD k 0).toNat) : ∃ n k' : Nat, 128 ≤ n ∧ n ≤ 2147483647 ∧ ∀ ty,
 (Instr.next (.pointer (some ⟨b, 0, none⟩)) true ty).run Tryz.prog wr = .ok (.tuple #[.bool true, .int .i64 k, .int .i32 n]) (wr.iterAt b (str l) k') := by
 have h' : k < (str l).size := by rw [zbm]; exact h
 have hd := decode_high (str l) k h' (by rw [zwe l k h h']; exact hb)
 exact ⟨_, _, hd.1, decode_le _ _, fun ty => Lib.run_next_any_at wr b (str l) k ty hk h'⟩
theorem zwh (wr : World) (b : Nat) (l : List UInt8) (k : Nat) (hk : wr.heap[b]? = some (.stringIter (str l) k)) (h : ¬ k < l.length) (ty : TypeId) :
 (Instr.next (.pointer (some ⟨b, 0, none⟩)) true ty).run Tryz.prog wr = .ok (.tuple #[.bool false]) wr :=
 Lib.run_next_end_at wr b (str l) k ty hk (by rw [zbm]; exact h)
theorem zwi {w : World} {B e size n : Nat} {v : Value} {xs : List Value} {k : Nat} {s : ByteArray} {pos : Nat} (h : w.ownsRow B e size v n xs) (hk : w.heap[k]? = some (.stringIter s pos)) (pos' : Nat) : (w.iterAt k s pos').ownsRow B e size v n xs := by
 refine ⟨h.1, ?_⟩
 rcases h.2 with h0 | ⟨g, cap, cur, hv, hb, hg, rest⟩
 · exact .inl h0
 · refine .inr ⟨g, cap, cur, hv, hb, ?_, rest⟩
   rw [Lib.iterAt_other _ _ _ _ _ (fun e => by subst e; rw [hk] at hg; cases hg)]
   exact hg
theorem zwj {w : World} {B e size n : Nat} {v : Value} {xs : List Value} {k : Nat} {s : ByteArray} {pos : Nat} (h : w.ownsRow B e size v n xs) (hk : w.heap[k]? = some (.stringIter s pos)) : some k ≠ v.ownBlock := by
 rcases h.2 with ⟨rfl, _⟩ | ⟨g, cap, cur, rfl, hb, hg, rest⟩
 · simp [Value.ownBlock]
 · intro e
   simp only [Value.ownBlock, Option.some.injEq] at e
   subst e
   rw [hk] at hg
   cases hg
theorem zwk {w : World} {B n : Nat} {xs : List Value} {v : Value} (hpos : 0 < n) (hl : xs.length = n) (h : w.ownsRow B 5 1 v n xs) :
 ∃ g cp, v = .slice (some ⟨g, 0, none⟩) n cp ∧ B ≤ g ∧ n ≤ cp ∧ ∀ j u, xs[j]? = some u → w.cell? ((⟨g, 0, none⟩ : Addr).add j) = some u := by
 have hcs : ∀ g, v.ownBlock = some g → _ := fun g hg => h.cells hg
 obtain ⟨_, ⟨rfl, h0⟩ | ⟨g, cp, cur, rfl, hg0, hblk, hle, hcm, hsz, htk⟩⟩ := h
 · omega
 · exact ⟨g, cp, rfl, hg0, hle, hcs g rfl⟩
theorem zwl (l : List UInt8) (j : Nat) (h : j < l.length) : (byteV l)[j]? = some (.int .u8 ((l.getD j 0).toNat : Int)) := by
 simp [byteV, h]
theorem zwm {c : UInt8} (h : letter c = true) : (kindN c.toNat = 4 ∨ kindN c.toNat = 3 ∨ kindN c.toNat = 2) ∧ c.toNat < 128 := by
 simp only [letter, Bool.or_eq_true, Bool.and_eq_true, decide_eq_true_eq] at h
 unfold kindN
 refine ⟨?_, by omega⟩
 repeat' split
 all_goals omega
theorem zwn {c : UInt8} (h : sign c = true) : kindN c.toNat = 1 ∧ c.toNat < 128 := by
 simp only [sign, Bool.or_eq_true, decide_eq_true_eq] at h
 unfold kindN
 refine ⟨?_, by omega⟩
 repeat' split
 all_goals first | rfl | omega
theorem zwo {c : UInt8} (h : okB c = false) : kindN c.toNat = 0 := by
 unfold okB at h
 rw [Bool.or_eq_false_iff] at h
 obtain ⟨h1, h2⟩ := h
 simp only [letter, Bool.or_eq_false_iff, Bool.and_eq_false_iff, decide_eq_false_iff_not] at h1
 simp only [sign, Bool.or_eq_false_iff, decide_eq_false_iff_not] at h2
 unfold kindN
 repeat' split
 all_goals first | rfl | omega
theorem zwp {n : Nat} (h : 128 ≤ n) : kindN n = 0 := by
 unfold kindN
 repeat' split
 all_goals first | rfl | omega
structure NormI (l : List UInt8) (B : Nat) (w : World) (v : Value) (wr : World) (k : Nat) : Prop where
 le : k ≤ l.length
 it : wr.heap[B]? = some (.stringIter (str l) k)
 own : wr.ownsRow B 5 1 v (prog (l.take k)).length (byteV (prog (l.take k)))
 below : Below B w wr
 ok : (l.take k).all okB = true
 first : 0 < k → letter (l.getD 0 0) = true
 last : 0 < k → k = l.length → letter (l.getD (l.length - 1) 0) = true
theorem zwq {l : List UInt8} (h : letter (l.getD 0 0) = false) : may l = false := by unfold may; rw [h]; simp
theorem zwr {l : List UInt8} (h : letter (l.getD (l.length - 1) 0) = false) : may l = false := by unfold may; rw [h]; simp
theorem may_mid {l : List UInt8} {k : Nat} (hk : k < l.length) (h : okB (l.getD k 0) = false) : may l = false := by
 have : l.all okB = false := by
  refine all_not okB l (k + 1) ?_
  rw [all_succ okB l k hk, h, Bool.and_false]
 unfold may; rw [this]; simp
theorem zws {l : List UInt8} (h : may l = false) : norm l = [] ∧ code l = 60 := by
 unfold norm code; rw [h]; exact ⟨rfl, rfl⟩
theorem zwt {l : List UInt8} (h : may l = true) : norm l = formD [45] l ∧ code l = 0 := by
 unfold norm code; rw [h]; exact ⟨rfl, rfl⟩
theorem NormI.letter {l : List UInt8} {B : Nat} {w wr w2 : World} {v v2 : Value} {k : Nat} (h : NormI l B w v wr k) (hk : k < l.length) (hc : letter (l.getD k 0) = true)
 (h1 : w2.heap[B]? = some (.stringIter (str l) (k + 1))) (h2 : w2.ownsRow B 5 1 v2 ((prog (l.take k)).length + 1) (byteV (prog (l.take k)) ++ [.int .u8 ((low (l.getD k 0)).toNat : Int)])) (h3 : Below B w w2) : NormI l B w v2 w2 (k + 1) := by
 have e : prog (l.take (k + 1)) = prog (l.take k) ++ [low (l.getD k 0)] := by rw [znk l k hk, znf hc]
 refine ⟨hk, h1, ?_, h3, ?_, ?_, ?_⟩
 · rw [e, ← zwc, List.length_append]; exact h2
 · rw [all_succ okB l k hk, h.ok]; unfold okB; rw [hc]; rfl
 · intro _
   rcases Nat.eq_zero_or_pos k with e0 | e0
   · subst e0; exact hc
   · exact h.first e0
 · intro _ e1; rw [← e1]; exact hc
theorem NormI.sign {l : List UInt8} {B : Nat} {w wr w2 : World} {v v2 : Value} {k : Nat} (h : NormI l B w v wr k) (hk : k < l.length) (hc : NameM.sign (l.getD k 0) = true) (h0 : 0 < k) (hl : k + 1 ≠ l.length)
 (h1 : w2.heap[B]? = some (.stringIter (str l) (k + 1))) (h2 : if (st [45] (l.take k)).2 then w2.ownsRow B 5 1 v2 (prog (l.take k)).length (byteV (prog (l.take k))) else w2.ownsRow B 5 1 v2 ((prog (l.take k)).length + 1) (byteV (prog (l.take k)) ++ [.int .u8 45])) (h3 : Below B w w2) : NormI l B w v2 w2 (k + 1) := by
 have e : prog (l.take (k + 1)) = if (st [45] (l.take k)).2 then prog (l.take k) else prog (l.take k) ++ [45] := by rw [znk l k hk, zng (znl hc)]
 refine ⟨hk, h1, ?_, h3, ?_, fun _ => h.first h0, fun _ e1 => absurd e1 hl⟩
 · rw [e]
   split
   · rename_i hr; rw [if_pos hr] at h2; exact h2
   · rename_i hr; rw [if_neg hr] at h2; rw [← zwc, List.length_append]; exact h2
 · rw [all_succ okB l k hk, h.ok]; unfold okB; rw [hc]; simp
set_option maxRecDepth 100000 in
theorem zwu (l : List UInt8) (w : World) (h1 : 1 ≤ l.length) (h2 : l.length ≤ 64) :
 Calls Tryz.prog 117 #[.string (str l)] w fun e w' => e = .returned (.tuple #[.string (str (norm l)), .int .i64 (code l)]) ∧ Below w.heap.size w w' := by
 have hs := zbm l
 obtain ⟨i0, hi, hz0, hz1, hz2⟩ := info_parts info_u8
 have HF := hid (show (decide (1 ≤ l.length) && decide (l.length ≤ 64)) = true by rw [decide_eq_true h1, decide_eq_true h2]; rfl)
 have HFC := hid (fits_any l w (by omega))
 rw [HF.out] at HFC
 clear HF
 go_enter Tryz.func117, Tryz.ntmps117
 go_wp2_with (go_at_call 115; refine HFC.out.mono ?_; rintro e w' ⟨rfl, rfl⟩)
 go_loopw [4, 5, 6] (fun v _ _ wr => ∃ k : Nat, NormI l w.heap.size w v wr k) (fun _ _ _ wr => l.length - wr.iterPos w.heap.size)
 case atStart => exact ⟨0, Nat.zero_le _, World.iter_heap _ _ _, World.ownsRow_nil _ _ _ _, (Below.refl _ _).alloc (Nat.le_refl _) _, rfl, fun h => absurd h (by decide), fun h => absurd h (by decide)⟩
 case round =>
  obtain ⟨k, HI⟩ := hrel
  rename World => wr
  have hit := HI.it
  by_cases hlt : k < l.length
  · rcases Bool.eq_false_or_eq_true (letter (l.getD k 0)) with hlet | hlet
    · obtain ⟨hkind, hasc⟩ := zwm hlet
      have hnx := zwf wr w.heap.size l k hit hlt hasc
      have HLI := hid (low_int (l.getD k 0))
      have hown := zwi HI.own hit (k + 1)
      have hit2 := Lib.iterAt_heap wr w.heap.size (str l) k (k + 1) hit
      have HST := hid (fun (w2 : World) (v2 : Value) h1 h2 h3 => HI.letter (w2 := w2) (v2 := v2) hlt hlet h1 h2 h3)
      have HBW := hid (Lib.below_iterAt HI.below (Nat.le_refl _) (str l) (k + 1))
      have hplen : (prog (l.take k)).length ≤ 64 := Nat.le_trans (znj _) (by rw [List.length_take]; omega)
      have HIT := hid HI
      clear HI
      generalize l.getD k 0 = c at *
      generalize prog (l.take k) = F at *
      generalize wr.iterAt w.heap.size (str l) (k + 1) = wd at *
      rcases hkind with hkd | hkd | hkd
      · have HK := hid (fun w => zwb c.toNat w (by omega))
        rw [hkd] at HK
        have hlow : Int.ofNat (low c).toNat = (c.toNat : Int) := by
         have := HLI.out; unfold kindN at hkd; revert hkd
         (repeat' split) <;> intro hkd <;> first | omega | (rw [if_neg (by omega)] at this; exact this)
        have HLW := hid hlow
        clear hlow
        go_wp2_with (first
         | (go_at_call 116; refine (HK.out _).mono ?_; rintro e w' ⟨rfl, rfl⟩)
         | (at_builtin; refine wpList_append_own _ rfl _ _ 108 rfl w.heap.size 5 i0 (.int .u8 0) 1 1 Tryz.underlying108 hi hz0 hz1 hz2 rfl (by decide) _ _ _ rfl (hown.alloc _) ⟨wd.heap.size, 0, none⟩ 1 1 [.int .u8 ((c.toNat : Int))] rfl rfl ?c1 ?c2 ?c3 ?c4 ?c5 ?_))
        case c1 => exact cell_one_new _ _ _
        case c2 => simp [Value.oneCell']
        case c3 => unfold maxLen; omega
        case c4 => omega
        case c5 => have := HBW.out.size; simp; omega
        intro v' w4 hown4 hg4 _
        have hapart := zwj hown hit2
        go_wp2
        go_roundw
        case rel =>
         refine ⟨k + 1, HST.out _ _ ?_ ?_ ?_⟩
         · rw [hg4.block _ (by have := (Array.getElem?_eq_some_iff.1 hit2).1; simp; omega) hapart]; rw [Below.heap_alloc _ _ _ (Array.getElem?_eq_some_iff.1 hit2).1]; exact hit2
         · have e := HLW.out; rw [show ((low c).toNat : Int) = (c.toNat : Int) from e]; exact hown4
         · exact ((HBW.out.alloc HBW.out.size _).grown hg4 (by have := HBW.out.size; simp; omega) (fun j hj => (hown.lt j hj).1))
        case measure => rw [iterPos_of hit, iterPos_of (by rw [hg4.block _ (by have := (Array.getElem?_eq_some_iff.1 hit2).1; simp; omega) hapart]; rw [Below.heap_alloc _ _ _ (Array.getElem?_eq_some_iff.1 hit2).1]; exact hit2)]; omega
      · have HK := hid (fun w => zwb c.toNat w (by omega))
        rw [hkd] at HK
        have hlow : Int.ofNat (low c).toNat = (c.toNat : Int) + 32 := by
         have := HLI.out; unfold kindN at hkd; revert hkd
         (repeat' split) <;> intro hkd <;> first | omega | (rw [if_pos (by omega)] at this; exact this)
        have HLW := hid hlow
        clear hlow
        go_wp2_with (first
         | (go_at_call 116; refine (HK.out _).mono ?_; rintro e w' ⟨rfl, rfl⟩)
         | (at_builtin; refine wpList_append_own _ rfl _ _ 108 rfl w.heap.size 5 i0 (.int .u8 0) 1 1 Tryz.underlying108 hi hz0 hz1 hz2 rfl (by decide) _ _ _ rfl (hown.alloc _) ⟨wd.heap.size, 0, none⟩ 1 1 [.int .u8 (((c.toNat : Int) + 32))] rfl rfl ?c1 ?c2 ?c3 ?c4 ?c5 ?_))
        case c1 => exact cell_one_new _ _ _
        case c2 => simp [Value.oneCell']
        case c3 => unfold maxLen; omega
        case c4 => omega
        case c5 => have := HBW.out.size; simp; omega
        intro v' w4 hown4 hg4 _
        have hapart := zwj hown hit2
        go_wp2
        go_roundw
        case rel =>
         refine ⟨k + 1, HST.out _ _ ?_ ?_ ?_⟩
         · rw [hg4.block _ (by have := (Array.getElem?_eq_some_iff.1 hit2).1; simp; omega) hapart]; rw [Below.heap_alloc _ _ _ (Array.getElem?_eq_some_iff.1 hit2).1]; exact hit2
         · have e := HLW.out; rw [show ((low c).toNat : Int) = (c.toNat : Int) + 32 from e]; exact hown4
         · exact ((HBW.out.alloc HBW.out.size _).grown hg4 (by have := HBW.out.size; simp; omega) (fun j hj => (hown.lt j hj).1))
        case measure => rw [iterPos_of hit, iterPos_of (by rw [hg4.block _ (by have := (Array.getElem?_eq_some_iff.1 hit2).1; simp; omega) hapart]; rw [Below.heap_alloc _ _ _ (Array.getElem?_eq_some_iff.1 hit2).1]; exact hit2)]; omega
      · have HK := hid (fun w => zwb c.toNat w (by omega))
        rw [hkd] at HK
        have hlow : Int.ofNat (low c).toNat = (c.toNat : Int) := by
         have := HLI.out; unfold kindN at hkd; revert hkd
         (repeat' split) <;> intro hkd <;> first | omega | (rw [if_neg (by omega)] at this; exact this)
        have HLW := hid hlow
        clear hlow
        go_wp2_with (first
         | (go_at_call 116; refine (HK.out _).mono ?_; rintro e w' ⟨rfl, rfl⟩)
         | (at_builtin; refine wpList_append_own _ rfl _ _ 108 rfl w.heap.size 5 i0 (.int .u8 0) 1 1 Tryz.underlying108 hi hz0 hz1 hz2 rfl (by decide) _ _ _ rfl (hown.alloc _) ⟨wd.heap.size, 0, none⟩ 1 1 [.int .u8 ((c.toNat : Int))] rfl rfl ?c1 ?c2 ?c3 ?c4 ?c5 ?_))
        case c1 => exact cell_one_new _ _ _
        case c2 => simp [Value.oneCell']
        case c3 => unfold maxLen; omega
        case c4 => omega
        case c5 => have := HBW.out.size; simp; omega
        intro v' w4 hown4 hg4 _
        have hapart := zwj hown hit2
        go_wp2
        go_roundw
        case rel =>
         refine ⟨k + 1, HST.out _ _ ?_ ?_ ?_⟩
         · rw [hg4.block _ (by have := (Array.getElem?_eq_some_iff.1 hit2).1; simp; omega) hapart]; rw [Below.heap_alloc _ _ _ (Array.getElem?_eq_some_iff.1 hit2).1]; exact hit2
         · have e := HLW.out; rw [show ((low c).toNat : Int) = (c.toNat : Int) from e]; exact hown4
         · exact ((HBW.out.alloc HBW.out.size _).grown hg4 (by have := HBW.out.size; simp; omega) (fun j hj => (hown.lt j hj).1))
        case measure => rw [iterPos_of hit, iterPos_of (by rw [hg4.block _ (by have := (Array.getElem?_eq_some_iff.1 hit2).1; simp; omega) hapart]; rw [Below.heap_alloc _ _ _ (Array.getElem?_eq_some_iff.1 hit2).1]; exact hit2)]; omega
    · -- no letter
      have HBL := hid HI.below
      rcases Bool.eq_false_or_eq_true (okB (l.getD k 0)) with hok | hok
      rotate_left
      · -- what no name has
        obtain ⟨hn, hcd⟩ := zws (may_mid hlt hok)
        have HN := hid hn
        have HC := hid hcd
        have hkz := zwo hok
        clear hn hcd
        rcases Nat.lt_or_ge (l.getD k 0).toNat 128 with hasc | hasc
        · have hnx := zwf wr w.heap.size l k hit hlt hasc
          have HBW := hid (Lib.below_iterAt HI.below (Nat.le_refl _) (str l) (k + 1))
          clear HI hlet hok
          generalize l.getD k 0 = c at *
          generalize wr.iterAt w.heap.size (str l) (k + 1) = wd at *
          have HK := hid (fun w => zwb c.toNat w (by omega))
          rw [hkz] at HK
          go_wp2_with (go_at_call 116; refine (HK.out _).mono ?_; rintro e w' ⟨rfl, rfl⟩)
          go_ret2
          exact ⟨retS HN.out.symm HC.out.symm, HBW.out⟩
        · obtain ⟨n, k', hn1, hn2, hnx⟩ := zwg wr w.heap.size l k hit hlt hasc
          have HBW := hid (Lib.below_iterAt HI.below (Nat.le_refl _) (str l) k')
          have hkh := zwp hn1
          clear HI hlet hok
          generalize wr.iterAt w.heap.size (str l) k' = wd at *
          have HK := hid (fun w => zwb n w hn2)
          rw [hkh] at HK
          go_wp2_with (go_at_call 116; refine (HK.out _).mono ?_; rintro e w' ⟨rfl, rfl⟩)
          go_ret2
          exact ⟨retS HN.out.symm HC.out.symm, HBW.out⟩
      · have hsg : NameM.sign (l.getD k 0) = true := by unfold okB at hok; rw [hlet] at hok; simpa using hok
        obtain ⟨hkd, hasc⟩ := zwn hsg
        have hnx := zwf wr w.heap.size l k hit hlt hasc
        have HK := hid (fun w => zwb (l.getD k 0).toNat w (by omega))
        rw [hkd] at HK
        have HBW := hid (Lib.below_iterAt HI.below (Nat.le_refl _) (str l) (k + 1))
        by_cases hk0 : k = 0
        · obtain ⟨hn, hcd⟩ := zws (zwq (l := l) (by rw [hk0] at hlet; exact hlet))
          have HN := hid hn
          have HC := hid hcd
          clear hn hcd HI hlet hok hsg
          generalize l.getD k 0 = c at *
          subst hk0
          generalize wr.iterAt w.heap.size (str l) (0 + 1) = wd at *
          go_wp2_with (go_at_call 116; refine (HK.out _).mono ?_; rintro e w' ⟨rfl, rfl⟩)
          all_goals go_ret2
          all_goals exact ⟨retS HN.out.symm HC.out.symm, HBW.out⟩
        by_cases hkl : k + 1 = l.length
        · obtain ⟨hn, hcd⟩ := zws (zwr (l := l) (by rw [show l.length - 1 = k from by omega]; exact hlet))
          have HN := hid hn
          have HC := hid hcd
          clear hn hcd HI hlet hok hsg
          generalize l.getD k 0 = c at *
          generalize wr.iterAt w.heap.size (str l) (k + 1) = wd at *
          have hd0 : ((k : Int) == 0) = false := by rw [beq_eq_false_iff_ne]; omega
          have hd1 : ((k : Int) == (l.length : Int) - 1) = true := by rw [beq_iff_eq]; omega
          go_wp2_with (go_at_call 116; refine (HK.out _).mono ?_; rintro e w' ⟨rfl, rfl⟩)
          all_goals go_ret2
          all_goals exact ⟨retS HN.out.symm HC.out.symm, HBW.out⟩
        have hown := zwi HI.own hit (k + 1)
        have hit2 := Lib.iterAt_heap wr w.heap.size (str l) k (k + 1) hit
        have HST := hid (fun (w2 : World) (v2 : Value) h1 h2 h3 => HI.sign (w2 := w2) (v2 := v2) hlt hsg (by omega) hkl h1 h2 h3)
        have hplen : (prog (l.take k)).length ≤ 64 := Nat.le_trans (znj _) (by rw [List.length_take]; omega)
        have hne : l.take k ≠ [] := by
         intro e
         have h3 : (l.take k).length = 0 := by rw [e]; rfl
         rw [List.length_take] at h3
         omega
        obtain ⟨R, x, hR, hx45⟩ := znh hne
        have hRl : (prog (l.take k)).length = R.length + 1 := by rw [hR]; simp
        obtain ⟨g, cp, hv, hg0, hcp, hcells⟩ := zwk (by omega) (zwd _) hown
        have hcx : (wr.iterAt w.heap.size (str l) (k + 1)).cell? ⟨g, R.length, none⟩ = some (.int .u8 (x.toNat : Int)) := by
         have := hcells R.length _ (zwl _ _ (by omega))
         rw [Go.WideShapes.add_plain, Nat.zero_add] at this
         rw [this, hR]; simp
        subst hv
        have HRL := hid hRl
        rw [hRl] at hown hplen
        rw [hRl]
        clear HI hlet hok hsg hcells hR hne hRl
        generalize l.getD k 0 = c at *
        generalize prog (l.take k) = F at *
        generalize wr.iterAt w.heap.size (str l) (k + 1) = wd at *
        generalize (st [45] (l.take k)).2 = run at *
        have hd0 : ((k : Int) == 0) = false := by rw [beq_eq_false_iff_ne]; omega
        have hd1 : ((k : Int) == (l.length : Int) - 1) = false := by rw [beq_eq_false_iff_ne]; omega
        by_cases hx : x = 45
        · have hrun : run = true := hx45.1 hx
          subst hx
          subst hrun
          go_wp2_with (go_at_call 116; refine (HK.out _).mono ?_; rintro e w' ⟨rfl, rfl⟩)
          go_roundw
          case rel => exact ⟨k + 1, HST.out _ _ hit2 (by rw [if_pos trivial, HRL.out]; exact hown) HBW.out⟩
          case measure => rw [iterPos_of hit, iterPos_of hit2]; omega
        · have hrun : run = false := by cases run; rfl; exact absurd (hx45.2 rfl) hx
          subst hrun
          have hxn : ((x.toNat : Int) == 45) = false := by rw [beq_eq_false_iff_ne]; intro e; exact hx (UInt8.toNat_inj.1 (by show x.toNat = 45; omega))
          have hxn2 : ((x.toNat : Int) != 45) = true := by unfold bne; rw [hxn]; rfl
          go_wp2_with (first
           | (go_at_call 116; refine (HK.out _).mono ?_; rintro e w' ⟨rfl, rfl⟩)
           | (at_builtin; refine wpList_append_own _ rfl _ _ 108 rfl w.heap.size 5 i0 (.int .u8 0) 1 1 Tryz.underlying108 hi hz0 hz1 hz2 rfl (by decide) _ _ _ rfl (hown.alloc _) ⟨wd.heap.size, 0, none⟩ 1 1 [.int .u8 45] rfl rfl ?c1 ?c2 ?c3 ?c4 ?c5 ?_))
          case c1 => exact cell_one_new _ _ _
          case c2 => simp [Value.oneCell']
          case c3 => unfold maxLen; omega
          case c4 => omega
          case c5 => have := HBW.out.size; simp; omega
          intro v' w4 hown4 hg4 _
          have hapart := zwj hown hit2
          have hit4 : w4.heap[w.heap.size]? = some (.stringIter (str l) (k + 1)) := by
           rw [hg4.block _ (by have := (Array.getElem?_eq_some_iff.1 hit2).1; simp; omega) hapart, Below.heap_alloc _ _ _ (Array.getElem?_eq_some_iff.1 hit2).1]; exact hit2
          go_wp2
          go_roundw
          case rel => exact ⟨k + 1, HST.out _ _ hit4 (by rw [if_neg (by decide), HRL.out]; exact hown4) ((HBW.out.alloc HBW.out.size _).grown hg4 (by have := HBW.out.size; simp; omega) (fun j hj => (hown.lt j hj).1))⟩
          case measure => rw [iterPos_of hit, iterPos_of hit4]; omega
  · -- the end
    have hke : k = l.length := by have := HI.le; omega
    subst hke
    have hnx := zwh wr w.heap.size l l.length hit hlt
    have hm : may l = true := znn.2 ⟨h1, h2, HI.first (by omega), HI.last (by omega) rfl, by have := HI.ok; rwa [List.take_length] at this⟩
    obtain ⟨hn, hcd⟩ := zwt hm
    have HN := hid hn
    have HC := hid hcd
    have hown := HI.own
    have HBW := hid HI.below
    rw [List.take_length, zni (by intro e; rw [e] at h1; simp at h1) (HI.last (by omega) rfl)] at hown
    have hfl : 0 < (formD [45] l).length := by
     have := (znm [45] l (by intro e; rw [e] at h1; simp at h1) (HI.first (by omega))).1
     exact List.length_pos_iff.2 this
    obtain ⟨g, cp, hv, hg0, hcp, hcells⟩ := zwk hfl (zwd _) hown
    subst hv
    have hcv := run_convert_bytes_back (P := Tryz.prog) wr 108 9 5 ⟨g, 0, none⟩ cp (formD [45] l) Tryz.underlying108 Tryz.underlying5 Tryz.underlying9 (fun j hj => by
     have e := hcells j _ (zwl _ _ hj)
     rw [e, List.getD_eq_getElem?_getD, List.getElem?_eq_getElem hj]; rfl)
    clear HI hcells hown hfl hm hn hcd
    generalize formD [45] l = F at *
    go_wp2
    go_ret2
    exact ⟨retS HN.out.symm HC.out.symm, HBW.out⟩
theorem zwv (l : List UInt8) (w : World) (hl : l.length ≤ 9223372036854775807) :
 Calls Tryz.prog 117 #[.string (str l)] w fun e w' => e = .returned (.tuple #[.string (str (norm l)), .int .i64 (code l)]) ∧ Below w.heap.size w w' := by
 by_cases h : 1 ≤ l.length ∧ l.length ≤ 64
 · exact zwu l w h.1 h.2
 · have hf : (decide (1 ≤ l.length) && decide (l.length ≤ 64)) = false := by
    rw [Bool.and_eq_false_iff, decide_eq_false_iff_not, decide_eq_false_iff_not]; omega
   obtain ⟨hn, hcd⟩ := zws (l := l) (by unfold may; rw [hf]; rfl)
   have HN := hid hn
   have HC := hid hcd
   have HFC := hid (fits_any l w hl)
   rw [hf] at HFC
   clear hn hcd hf h
   go_enter Tryz.func117, Tryz.ntmps117
   go_wp2_with (go_at_call 115; refine HFC.out.mono ?_; rintro e w' ⟨rfl, rfl⟩)
   go_ret2
   exact ⟨retS HN.out.symm HC.out.symm, Below.refl _ _⟩
end NameC
end
section
open Go.RowKit
namespace NameC
open NameM StrC
theorem zww (l : List UInt8) (w : World) (hl : l.length ≤ 9223372036854775807) :
 Calls Tryz.prog 76 #[.string (str l)] w fun e w' => e = .returned (.bool (isN l)) ∧ Below w.heap.size w w' := by
 have HN := hid (zwv l w hl)
 rcases Bool.eq_false_or_eq_true (may l) with hm | hm
 · have hc : code l = 0 := by unfold code; rw [if_pos hm]
   have H1 := hid (show isN l = decide (norm l = l) by unfold isN norm; rw [if_pos hm, hm, Bool.true_and])
   rw [hc] at HN
   clear hc
   generalize norm l = n at *
   go_enter Tryz.func76, Tryz.ntmps76
   go_wp2_with (go_at_call 117; refine HN.out.mono ?_; rintro e w' ⟨rfl, hb⟩)
   go_ret
   exact ⟨retB (by rw [zbr, H1.out]), hb⟩
 · have hc : code l = 60 := by unfold code; rw [if_neg (by rw [hm]; decide)]
   have H1 := hid (show isN l = false by unfold isN; rw [hm]; rfl)
   rw [hc] at HN
   clear hc
   go_enter Tryz.func76, Tryz.ntmps76
   go_wp2_with (go_at_call 117; refine HN.out.mono ?_; rintro e w' ⟨rfl, hb⟩)
   all_goals go_ret
   all_goals exact ⟨retB H1.out.symm, hb⟩
def zwx (l : List UInt8) : Int := if holder l then 0 else 61
theorem zwy {l : List UInt8} (h : holder l = false) : zwx l = 61 := by unfold zwx; rw [h]; rfl
theorem zwz {l : List UInt8} {k : Nat} (hk : k < l.length) (h : holdB (l.getD k 0) = false) : holder l = false := by
 have : l.all holdB = false := by
  refine all_not holdB l (k + 1) ?_
  rw [all_succ holdB l k hk, h, Bool.and_false]
 unfold holder; rw [this]; simp
theorem zxa {l : List UInt8} (h : ¬ (97 ≤ (l.getD 0 0).toNat ∧ (l.getD 0 0).toNat ≤ 122)) : holder l = false := by
 have : (decide (97 ≤ (l.getD 0 0).toNat) && decide ((l.getD 0 0).toNat ≤ 122)) = false := by
  rw [Bool.and_eq_false_iff, decide_eq_false_iff_not, decide_eq_false_iff_not]; omega
 unfold holder; rw [this]; simp
theorem zxb {l : List UInt8} (h1 : 1 ≤ l.length) (h2 : l.length ≤ 64) (h3 : 97 ≤ (l.getD 0 0).toNat ∧ (l.getD 0 0).toNat ≤ 122) (h4 : l.all holdB = true) : zwx l = 0 := by
 unfold zwx holder
 rw [decide_eq_true h1, decide_eq_true h2, decide_eq_true h3.1, decide_eq_true h3.2, h4]; rfl
theorem zxc {c : UInt8} (h : holdB c = true) : (kindN c.toNat = 4 ∧ (97 ≤ c.toNat ∧ c.toNat ≤ 122) ∨ kindN c.toNat = 2 ∧ ¬ (97 ≤ c.toNat ∧ c.toNat ≤ 122)) ∧ c.toNat < 128 := by
 simp only [holdB, Bool.or_eq_true, Bool.and_eq_true, decide_eq_true_eq] at h
 unfold kindN
 refine ⟨?_, by omega⟩
 repeat' split
 all_goals omega
theorem zxd {c : UInt8} (h : holdB c = false) : kindN c.toNat ≠ 4 ∧ kindN c.toNat ≠ 2 := by
 simp only [holdB, Bool.or_eq_false_iff, Bool.and_eq_false_iff, decide_eq_false_iff_not] at h
 unfold kindN
 repeat' split
 all_goals omega
structure HoldI (l : List UInt8) (B : Nat) (w wr : World) (k : Nat) : Prop where
 le : k ≤ l.length
 it : wr.heap[B]? = some (.stringIter (str l) k)
 below : Below B w wr
 ok : (l.take k).all holdB = true
 first : 0 < k → (97 ≤ (l.getD 0 0).toNat ∧ (l.getD 0 0).toNat ≤ 122)
set_option maxRecDepth 100000 in
theorem zxe (l : List UInt8) (w : World) (hl : l.length ≤ 9223372036854775807) :
 Calls Tryz.prog 75 #[.string (str l)] w fun e w' => e = .returned (.int .i64 (zwx l)) ∧ Below w.heap.size w w' := by
 by_cases hb : 1 ≤ l.length ∧ l.length ≤ 64
 rotate_left
 · have hf : (decide (1 ≤ l.length) && decide (l.length ≤ 64)) = false := by
    rw [Bool.and_eq_false_iff, decide_eq_false_iff_not, decide_eq_false_iff_not]; omega
   have HC := hid (zwy (l := l) (by unfold holder; rw [hf]; rfl))
   have HFC := hid (fits_any l w hl)
   rw [hf] at HFC
   clear hf hb
   go_enter Tryz.func75, Tryz.ntmps75
   go_wp2_with (go_at_call 115; refine HFC.out.mono ?_; rintro e w' ⟨rfl, rfl⟩)
   go_ret
   exact ⟨retI HC.out.symm, Below.refl _ _⟩
 obtain ⟨h1, h2⟩ := hb
 have hs := zbm l
 have hf : (decide (1 ≤ l.length) && decide (l.length ≤ 64)) = true := by rw [decide_eq_true h1, decide_eq_true h2]; rfl
 have HFC := hid (fits_any l w hl)
 rw [hf] at HFC
 clear hf
 go_enter Tryz.func75, Tryz.ntmps75
 go_wp2_with (go_at_call 115; refine HFC.out.mono ?_; rintro e w' ⟨rfl, rfl⟩)
 go_loopw [3, 4, 5] (fun _ _ _ wr => ∃ k : Nat, HoldI l w.heap.size w wr k) (fun _ _ _ wr => l.length - wr.iterPos w.heap.size)
 case atStart => exact ⟨0, Nat.zero_le _, World.iter_heap _ _ _, (Below.refl _ _).alloc (Nat.le_refl _) _, rfl, fun h => absurd h (by decide)⟩
 case round =>
  obtain ⟨k, HI⟩ := hrel
  rename World => wr
  have hit := HI.it
  by_cases hlt : k < l.length
  · rcases Nat.lt_or_ge (l.getD k 0).toNat 128 with hasc | hasc
    · have hnx := zwf wr w.heap.size l k hit hlt hasc
      have hit2 := Lib.iterAt_heap wr w.heap.size (str l) k (k + 1) hit
      have hbw := Lib.below_iterAt HI.below (Nat.le_refl _) (str l) (k + 1)
      have HBW := hid hbw
      have HK := hid (fun w => zwb (l.getD k 0).toNat w (by omega))
      rcases Bool.eq_false_or_eq_true (holdB (l.getD k 0)) with hh | hh
      · have HST := hid (show (97 ≤ (l.getD k 0).toNat ∧ (l.getD k 0).toNat ≤ 122 ∨ 0 < k) → HoldI l w.heap.size w (wr.iterAt w.heap.size (str l) (k + 1)) (k + 1) from fun hx => ⟨hlt, hit2, hbw, by rw [all_succ holdB l k hlt, HI.ok, hh]; rfl, fun _ => by
         rcases Nat.eq_zero_or_pos k with e0 | e0
         · subst e0; rcases hx with hx | hx; exact hx; omega
         · exact HI.first e0⟩)
        rcases (zxc hh).1 with ⟨hkd, hsm⟩ | ⟨hkd, hsm⟩
        · rw [hkd] at HK
          clear HI hbw hh
          generalize l.getD k 0 = c at *
          generalize wr.iterAt w.heap.size (str l) (k + 1) = wd at *
          go_wp2_with (go_at_call 116; refine (HK.out _).mono ?_; rintro e w' ⟨rfl, rfl⟩)
          go_roundw
          case rel => exact ⟨k + 1, HST.out (Or.inl hsm)⟩
          case measure => rw [iterPos_of hit, iterPos_of hit2]; omega
        · rw [hkd] at HK
          by_cases hk0 : k = 0
          · have HC := hid (zwy (l := l) (zxa (by rw [hk0] at hsm; exact hsm)))
            clear HI hbw hh HST hsm
            generalize l.getD k 0 = c at *
            subst hk0
            generalize wr.iterAt w.heap.size (str l) (0 + 1) = wd at *
            go_wp2_with (go_at_call 116; refine (HK.out _).mono ?_; rintro e w' ⟨rfl, rfl⟩)
            go_ret
            exact ⟨retI HC.out.symm, HBW.out⟩
          · have hd0 : ((k : Int) == 0) = false := by rw [beq_eq_false_iff_ne]; omega
            clear HI hbw hh hsm
            generalize l.getD k 0 = c at *
            generalize wr.iterAt w.heap.size (str l) (k + 1) = wd at *
            go_wp2_with (go_at_call 116; refine (HK.out _).mono ?_; rintro e w' ⟨rfl, rfl⟩)
            go_roundw
            case rel => exact ⟨k + 1, HST.out (Or.inr (by omega))⟩
            case measure => rw [iterPos_of hit, iterPos_of hit2]; omega
      · have HC := hid (zwy (zwz hlt hh))
        obtain ⟨hn4, hn2⟩ := zxd hh
        have hb4 : (kindN (l.getD k 0).toNat != 4) = true := by rw [bne_iff_ne]; exact hn4
        have hb2 : (kindN (l.getD k 0).toNat != 2) = true := by rw [bne_iff_ne]; exact hn2
        clear HI hbw hh
        generalize kindN (l.getD k 0).toNat = K at *
        generalize l.getD k 0 = c at *
        generalize wr.iterAt w.heap.size (str l) (k + 1) = wd at *
        go_wp2_with (go_at_call 116; refine (HK.out _).mono ?_; rintro e w' ⟨rfl, rfl⟩)
        all_goals go_ret
        all_goals exact ⟨retI HC.out.symm, HBW.out⟩
    · obtain ⟨n, k', hn1, hn2, hnx⟩ := zwg wr w.heap.size l k hit hlt hasc
      have HBW := hid (Lib.below_iterAt HI.below (Nat.le_refl _) (str l) k')
      have HC := hid (zwy (zwz hlt (by simp only [holdB, Bool.or_eq_false_iff, Bool.and_eq_false_iff, decide_eq_false_iff_not]; omega)))
      have HK := hid (fun w => zwb n w hn2)
      rw [zwp hn1] at HK
      clear HI
      generalize wr.iterAt w.heap.size (str l) k' = wd at *
      go_wp2_with (go_at_call 116; refine (HK.out _).mono ?_; rintro e w' ⟨rfl, rfl⟩)
      all_goals go_ret
      all_goals exact ⟨retI HC.out.symm, HBW.out⟩
  · have hke : k = l.length := by have := HI.le; omega
    subst hke
    have hnx := zwh wr w.heap.size l l.length hit hlt
    have HC := hid (zxb h1 h2 (HI.first (by omega)) (by have := HI.ok; rwa [List.take_length] at this))
    have HBW := hid HI.below
    clear HI
    go_wp2
    go_ret
    exact ⟨retI HC.out.symm, HBW.out⟩
end NameC
end
end Go.Proofs.YtfbegbmjmhnplaaGreatDoor
