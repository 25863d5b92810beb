/-
  Package path's Under (layer 11): those of the texts that are names of one kind.
-/
import Derived.Test.YtfbdhlpgklkjmaaGreatDoorPathP
import Derived.Test.YtfbdhlpgklkjmaaGreatDoorPathAlive
import Derived.Test.YtfbdhlpgklkjmaaGreatDoorVerMem
import Derived.Test.YtfbdhlpgklkjmaaGreatDoorTextRow
import Derived.OwnWalk
import Derived.Laws.AppendOwn
namespace Go.Proofs.YtfbdhlpgklkjmaaGreatDoor
open Go.RowKit
namespace PathC
open PathM StrC TextR
open VerM (B TL val dig)
open VerC (Txs)
set_option linter.unusedSimpArgs false
set_option linter.unusedVariables false

/-- a name of that kind -/
def keep (k : Int) (s : B) : Bool := decide (er (readP NameM.isN s) = 0) && decide (((pt (readP NameM.isN s)).kind : Int) = k)
def under (k : Int) (p : TL) : TL := p.filter (keep k)
theorem under_succ (k : Int) (p : TL) (j : Nat) (h : j < p.length) : under k (p.take (j + 1)) = under k (p.take j) ++ (if keep k (p.getD j []) = true then [p.getD j []] else []) := by
  unfold under
  rw [List.take_add_one, List.getElem?_eq_getElem h, List.filter_append]
  have e : p.getD j [] = p[j] := by simp [h]
  rw [e]
  congr 1
  by_cases hk : keep k p[j] = true
  · simp [hk]
  · simp [hk]
theorem under_length (k : Int) (p : TL) (j : Nat) : (under k (p.take j)).length ≤ j := by
  unfold under
  have h1 := (List.filter_sublist (p := keep k) (l := p.take j)).length_le
  rw [List.length_take] at h1
  omega
theorem slice_all (av : Option Addr) (n cv : Nat) (h : n ≤ cv) (w : World) : (Instr.slice 22 (.slice av n cv) none (some (.int .i64 (n : Int))) (some (.int .i64 (n : Int)))).run Tryz.prog w = .ok (.slice av n n) w := by
  have ht : Tryz.prog.underlying 22 = some (.slice (Tryz.prog.elem 22)) := by kernel_rfl
  have hz : (Go.sizeOf (Tryz.prog.elem 22)).run Tryz.prog w = .ok 1 w := by
    have he : Tryz.prog.elem 22 = 9 := by kernel_rfl
    obtain ⟨ti, hti, -, hz1, -⟩ := info_parts info_text
    rw [he]
    simp [sizeOf, typeInfo, hti, hz1]
  rw [run_slice_hm w 22 av n cv ht .i64 .i64 (n : Int) (n : Int) (by omega) (by omega) (by omega), hz]
  simp only [Result.andThen_ok, sliced, Int.toNat_natCast, Nat.sub_zero]
  cases av with
  | none => simp
  | some g =>
    obtain ⟨b, o, spot⟩ := g
    simp [Addr.add]

theorem grown_below {w w' : World} (h : Below w.heap.size w w') (row : Option Nat) : w.grownBy w' row := ⟨h.os, h.tape, h.output, h.size, fun k hk _ => h.block k hk⟩
theorem own_below {w w' : World} {B n : Nat} {v : Value} {xs : List Value} (h : w.ownsRow B 9 1 v n xs) (hb : Below w.heap.size w w') : w'.ownsRow B 9 1 v n xs := World.ownsRow.kept h (grown_below hb _) (Classical.em _)
/-- what a round of Under's loop finds and leaves -/
structure UnI (w wr : World) (k : Int) (p : TL) (j : Nat) (v : Value) : Prop where
  own : OwnT wr w.heap.size v ((under k (p.take j)).map str)
  below : Below w.heap.size w wr
theorem UnI.skip {w wr w' : World} {k : Int} {p : TL} {j : Nat} {v : Value} (h : UnI w wr k p j v) (hj : j < p.length) (hk : keep k (p.getD j []) = false) (o : Obj) (g : Below wr.heap.size wr w') : UnI w (w'.alloc o) k p (j + 1) v := by
  refine ⟨?_, ((h.below.trans (g.mono h.below.size)).alloc (Nat.le_trans h.below.size g.size) o)⟩
  rw [under_succ k p j hj, hk]
  simp only [Bool.false_eq_true, if_false, List.append_nil]
  exact World.ownsRow.alloc (own_below h.own g) o
theorem UnI.add {w wr w' w2 : World} {k : Int} {p : TL} {j : Nat} {v v2 : Value} (h : UnI w wr k p j v) (hj : j < p.length) (hk : keep k (p.getD j []) = true) (g : Below w.heap.size w w2)
    (hown : w2.ownsRow w.heap.size 9 1 v2 ((under k (p.take j)).length + 1) (((under k (p.take j)).map str).map Value.string ++ [.string (str (p.getD j []))])) : UnI w w2 k p (j + 1) v2 := by
  refine ⟨?_, g⟩
  rw [under_succ k p j hj, hk]
  simp only [if_true, List.map_append, List.map_singleton]
  exact snoc hown (by simp)
/-- how Under ends -/
structure UnE (w w' : World) (k : Int) (p : TL) (a : Option Addr) : Prop where
  txs : 0 < (under k p).length → ∃ g, a = some ⟨g, 0, none⟩ ∧ w.heap.size ≤ g ∧ g < w'.heap.size ∧ ∀ i, i < (under k p).length → w'.cell? ⟨g, i, none⟩ = some (.string (str ((under k p).getD i [])))
  below : Below w.heap.size w w'
theorem UnI.done {w wr : World} {k : Int} {p : TL} {v : Value} (h : UnI w wr k p p.length v) : ∃ a cp, v = .slice a (under k p).length cp ∧ (under k p).length ≤ cp ∧ UnE w wr k p a := by
  have ho := h.own
  rw [List.take_length] at ho
  obtain ⟨a, cp, e, hc⟩ := ho.open_
  rw [List.length_map] at e
  have hcap : (under k p).length ≤ cp := by
    have h' : wr.ownsRow w.heap.size 9 1 v ((under k p).map str).length (((under k p).map str).map Value.string) := ho
    obtain ⟨_, ⟨rfl, h0⟩ | ⟨g, cp2, cur, rfl, hg0, hblk, hle, hcm, hsz, htk⟩⟩ := h'
    · rw [List.length_map] at h0; omega
    · obtain ⟨-, -, rfl⟩ := Value.slice.inj e; rw [List.length_map] at hle; exact hle
  refine ⟨a, cp, e, hcap, fun h0 => ?_, h.below⟩
  obtain ⟨g, e1, e2, e3, e4⟩ := hc (by rw [List.length_map]; exact h0)
  refine ⟨g, e1, e2, e3, fun i hi => ?_⟩
  have := e4 i (by simpa using hi)
  rw [this]
  simp [hi]
set_option maxHeartbeats 2000000 in
theorem pUnder_any (k : Int) (p : TL) (a : Option Addr) (cap : Nat) (w : World) (hT : Txs w a cap p) (hl : p.length ≤ 300) :
    Calls Tryz.prog 21 #[.int .u8 k, .slice a p.length cap] w fun e w' => ∃ a', e = .returned (.slice a' (under k p).length (under k p).length) ∧ UnE w w' k p a' := by
  obtain ⟨i0, hi, hz0, hz1, hz2⟩ := info_parts TextR.info_text
  have hmax : p.length ≤ maxLen := by unfold maxLen; omega
  have HT := Lib.hid hT
  have HL := Lib.hid hl
  have HR := Lib.hid (fun j (h : j < p.length) w => pRead_any (p.getD j []) w (hT.mem j h))
  have HK : Hid (∀ j, keep k (p.getD j []) = (decide (er (readP NameM.isN (p.getD j [])) = 0) && decide (((pt (readP NameM.isN (p.getD j []))).kind : Int) = k))) := Lib.hid (fun j => rfl)
  have hab : 0 < p.length → ∃ b o, a = some ⟨b, o, none⟩ ∧ ∀ i, i < p.length → w.cell? ⟨b, o + i, none⟩ = some (.string (str (p.getD i []))) := hT.cells
  have HAB := Lib.hid hab
  clear hT hab
  go_enter Tryz.func21, Tryz.ntmps21
  go_wp2_with (at_make; refine wpList_make_own _ rfl _ _ 22 rfl w.heap.size 9 i0 (.string ⟨#[]⟩) 1 Tryz.underlying22 hi hz0 hz1 _ _ _ p.length rfl rfl rfl (by rw [hz2]; omega) hmax (Nat.le_refl _) ?_; intro w1 hrow1 hg1)
  go_loopw [5, 15] (fun v i wr => ∃ j : Nat, j ≤ p.length ∧ i = .int .i64 j ∧ UnI w wr k p j v) (fun _ i _ => p.length - (intOf i).toNat)
  case atStart => exact ⟨0, Nat.zero_le _, rfl, ⟨hrow1, (Below.refl _ _).grown hg1 (Nat.le_refl _) (fun j hj => by cases hj)⟩⟩
  case round =>
    obtain ⟨j, hj, rfl, HI⟩ := hrel
    rename World => wr
    clear hrow1 hg1
    by_cases hlt : j < p.length
    · have hdec : decide (j < p.length) = true := by simpa using hlt
      obtain ⟨b, o, rfl, hcl⟩ := HAB.out (by omega)
      have hb0 := World.block_lt_of_cell? _ _ (hcl j hlt)
      have hc : wr.cell? ⟨b, o + j, none⟩ = some (.string (str (p.getD j []))) := by rw [HI.below.cell (by exact hb0)]; exact hcl j hlt
      have HRj := Lib.hid (HR.out j hlt)
      have HKj := Lib.hid (HK.out j)
      have HSK := Lib.hid (fun (hk : keep k (p.getD j []) = false) w' o (g : Below wr.heap.size wr w') => HI.skip hlt hk o g)
      have HAD := Lib.hid (fun (hk : keep k (p.getD j []) = true) w2 v2 (g : Below w.heap.size w w2) ho => HI.add (w' := w2) (v2 := v2) hlt hk g ho)
      have hown := HI.own
      have HBW := Lib.hid HI.below
      have hlen := under_length k p j
      clear HI hcl hb0
      unfold ppV at HRj
      generalize keep k (p.getD j []) = kp at *
      generalize readP NameM.isN (p.getD j []) = rd at *
      generalize p.getD j [] = s at *
      have her : er rd = 0 ∨ er rd = 110 := by unfold er; split <;> simp
      unfold OwnT at hown
      rw [List.length_map] at hown
      generalize (under k (p.take j)) = F at *
      generalize ((pt rd).kind : Int) = k1 at *
      generalize ((pt rd).n : Int) = k2 at *
      generalize (pt rd).sum = k3 at *
      generalize ((pt rd).part : Int) = k4 at *
      generalize (pt rd).name = k5 at *
      generalize er rd = k6 at *
      rcases her with rfl | rfl
      · by_cases hk : k1 = k
        · have hd : (k1 == k) = true := by simpa using hk
          have hd2 : decide (k1 = k) = true := decide_eq_true hk
          have HKP := Lib.hid (HAD.out (by rw [HKj.out, hd2]; rfl))
          clear hk HKj HSK HAD
          go_wp2_with (first
            | (go_at_call 31; refine (HRj.out _).mono ?_; rintro e w2 ⟨rfl, hb1⟩; have hown1 := own_below hown hb1)
            | (at_builtin; refine wpList_append_own _ rfl _ _ 22 rfl w.heap.size 9 i0 (.string ⟨#[]⟩) 1 16 Tryz.underlying22 hi hz0 hz1 hz2 rfl (by decide) _ _ _ rfl (World.ownsRow.alloc (World.ownsRow.alloc hown1 _) _) ⟨w2.heap.size + 1, 0, none⟩ 1 1 [.string (str s)] rfl rfl ?c1 ?c2 ?c3 ?c4 ?c5 ?_))
          case c1 =>
            intro q u hu
            have := text_cell (w2.alloc (.cells #[.int .u8 k1, .int .i64 k2, .int .u64 k3, .int .u32 k4, .string (str k5)] 75)) (.string (str s)) 9 q u hu
            simpa using this
          case c2 => exact one_text _
          case c3 => unfold maxLen; have := HL.out; omega
          case c4 => have := HL.out; omega
          case c5 => have := HBW.out.size; have := hb1.size; simp; omega
          intro v' w4 hown4 hg4 _
          go_wp2
          go_roundw
          case rel => exact ⟨j + 1, by omega, by go_num, HKP.out _ _ (((((HBW.out.trans (hb1.mono HBW.out.size)).alloc (Nat.le_trans HBW.out.size hb1.size) _).alloc (by have := HBW.out.size; have := hb1.size; simp; omega) _).grown hg4 (by have := HBW.out.size; have := hb1.size; simp; omega) (fun j hj => (World.ownsRow.lt hown1 j hj).1))) (by rw [List.map_map]; exact hown4)⟩
          case measure => simp [intOf]; omega
        · have hd : (k1 == k) = false := by simpa using hk
          have hd2 : decide (k1 = k) = false := decide_eq_false hk
          have HKP := Lib.hid (HSK.out (by rw [HKj.out, hd2]; simp))
          clear hk HKj HSK HAD
          go_wp2_with (go_at_call 31; refine (HRj.out _).mono ?_; rintro e w2 ⟨rfl, hb1⟩; have HB1 := Lib.hid hb1; clear hb1)
          go_roundw
          case rel => exact ⟨j + 1, by omega, by go_num, HKP.out _ _ HB1.out⟩
          case measure => simp [intOf]; omega
      · have HKP := Lib.hid (HSK.out (by rw [HKj.out]; simp))
        clear HKj HSK HAD
        go_wp2_with (go_at_call 31; refine (HRj.out _).mono ?_; rintro e w2 ⟨rfl, hb1⟩; have HB1 := Lib.hid hb1; clear hb1)
        go_roundw
        case rel => exact ⟨j + 1, by omega, by go_num, HKP.out _ _ HB1.out⟩
        case measure => simp [intOf]; omega
    · have hdec : decide (j < p.length) = false := by simpa using hlt
      have hke : j = p.length := by omega
      subst hke
      obtain ⟨ao, cp, rfl, hcp, he⟩ := HI.done
      have hsl := slice_all ao (under k p).length cp hcp
      have HE := Lib.hid he
      clear HI he hlt hcp
      go_wp2_with fail
      go_ret
      exact ⟨ao, rfl, HE.out⟩
end PathC
end Go.Proofs.YtfbdhlpgklkjmaaGreatDoor
