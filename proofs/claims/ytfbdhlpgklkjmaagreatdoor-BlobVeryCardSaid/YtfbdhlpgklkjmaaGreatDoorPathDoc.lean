/-
  The document's own answers for layer 11 (names of files): one contract a function; nothing that was there is written.
-/
import Derived.Test.YtfbdhlpgklkjmaaGreatDoorPathMath
import Derived.Test.YtfbdhlpgklkjmaaGreatDoorSumAlive
import Derived.Test.YtfbdhlpgklkjmaaGreatDoorNameRef
import Derived.Test.YtfbdhlpgklkjmaaGreatDoorVerRef
import Derived.Laws.CopyOwn
namespace Go.Proofs.YtfbdhlpgklkjmaaGreatDoor
open Go.RowKit
namespace PathC
open PathM StrC
open VerM (B val dig)
set_option linter.unusedSimpArgs false
set_option linter.unusedVariables false

/-! ### pieces of a text -/
theorem str_extract (l : B) (a b : Nat) : (str l).extract a b = str ((l.take b).drop a) := by
  apply ByteArray.ext
  simp [str, List.extract_eq_take_drop, List.drop_take]
theorem sl_from (l : B) (x : Int) (a : Nat) (hx : x = a) (h1 : a ≤ l.length) (w : World) :
    (Instr.slice 9 (.string (str l)) (some (.int .i64 x)) none none).run Tryz.prog w = .ok (.string (str (l.drop a))) w := by
  subst hx
  rw [run_slice_string_l w 9 (str l) Tryz.underlying9 .i64 _ (by omega) (by rw [str_size]; omega), Int.toNat_natCast, str_extract, str_size, List.take_of_length_le (Nat.le_refl _)]
theorem sl_to (l : B) (x : Int) (a : Nat) (hx : x = a) (h1 : a ≤ l.length) (w : World) :
    (Instr.slice 9 (.string (str l)) none (some (.int .i64 x)) none).run Tryz.prog w = .ok (.string (str (l.take a))) w := by
  subst hx
  rw [run_slice_string_h w 9 (str l) Tryz.underlying9 .i64 _ (by omega) (by rw [str_size]; omega), Int.toNat_natCast, str_extract]; rfl

/-! ### digits -/
theorem all_dig_take {l : B} {k : Nat} (h : k < l.length) : (l.take (k + 1)).all dig = ((l.take k).all dig && dig (l.getD k 0)) := VerC.all_succ dig l k h
theorem dig_iff (c : UInt8) : dig c = (decide (48 ≤ c.toNat) && decide (c.toNat ≤ 57)) := rfl
theorem fold_ge : ∀ (l : B) (a : Nat), a ≤ l.foldl (fun n c => 10 * n + (c.toNat - 48)) a
  | [], _ => Nat.le_refl _
  | c :: r, a => by
    have := fold_ge r (10 * a + (c.toNat - 48))
    show a ≤ r.foldl _ (10 * a + (c.toNat - 48))
    omega
theorem val_take_le (l : B) (k : Nat) : val (l.take k) ≤ val l := by
  have e : val l = (l.drop k).foldl (fun n c => 10 * n + (c.toNat - 48)) (val (l.take k)) := by
    unfold VerM.val
    rw [← List.foldl_append, List.take_append_drop]
  rw [e]
  exact fold_ge _ _

/-! ### names of files -/
theorem add_lit (p : ByteArray) (h T : B) (hp : p = str h) (h100 : h.length ≤ 100) (hT : T.length ≤ 4611686018427387000) (w : World) : (Op.stringOp .add p (str T)).run Tryz.prog w = .ok (.string (str (h ++ T))) w := by
  subst hp; exact add_any h T w (by omega)
theorem add_lit' (p : ByteArray) (h T : B) (hp : p = str h) (h100 : h.length ≤ 100) (hT : T.length ≤ 4611686018427387000) (w : World) : (Op.stringOp .add (str T) p).run Tryz.prog w = .ok (.string (str (T ++ h))) w := by
  subst hp; exact add_any T h w (by omega)
theorem rep_dig (n k : Nat) (h : n < 10 ^ (k + 1)) : ∀ j, LogM.dig n (k + 1 + j) = List.replicate j 48 ++ LogM.dig n (k + 1)
  | 0 => by simp
  | j + 1 => by
    have e : n / 10 ^ (k + 1 + j) = 0 := Nat.div_eq_of_lt (Nat.lt_of_lt_of_le h (Nat.pow_le_pow_right (by decide) (by omega)))
    rw [show k + 1 + (j + 1) = (k + 1 + j) + 1 by omega, LogM.dig, e, rep_dig n k h j, List.replicate_succ]
    rfl
/-- a number's digits behind as many noughts as are wanting to eight -/
theorem dec_pad (n : Nat) (h1 : 1 ≤ n) (h2 : n ≤ 99999999) : (Lib.decDigits n).length ≤ 8 ∧ ∀ j, j + (Lib.decDigits n).length = 8 → List.replicate j (48 : UInt8) ++ Lib.decDigits n = LogM.dig n 8 := by
  obtain ⟨k, a, b⟩ := pow_at n h1
  have e := LogM.dec_dig k n a b
  have hl : (Lib.decDigits n).length = k + 1 := by rw [e, LogM.dig_length]
  refine ⟨dec_length n 7 (by simp; omega), fun j hj => ?_⟩
  rw [hl] at hj
  rw [e, ← rep_dig n k b j]
  congr 1; omega
theorem rep_cons (j : Nat) (D : B) : (48 : UInt8) :: (List.replicate j 48 ++ D) = List.replicate (j + 1) 48 ++ D := by rw [List.replicate_succ]; rfl

/-! ### Read -/
abbrev rpthV (k n s p : Int) (nm : B) : Value := .agg #[.int .i64 k, .int .i64 n, .int .u64 s, .int .u32 p, .string (str nm)]
theorem rpth_one (k n s p : Int) (nm : B) : (#[Value.int .i64 k, .int .i64 n, .int .u64 s, .int .u32 p, .string (str nm)].all (·.oneCell')) = true := by simp [Value.oneCell']
/-- what was read, or nothing -/
def pt (o : Option Pth) : Pth := o.getD none0
def er (o : Option Pth) : Int := if o.isSome then 0 else 110
theorem pt_some (p : Pth) : pt (some p) = p := rfl
theorem pt_none : pt none = none0 := rfl
theorem er_some (p : Pth) : er (some p) = 0 := rfl
theorem er_none : er none = 110 := rfl
def rpV (o : Option Pth) : Value := .tuple #[rpthV (pt o).kind (pt o).n (pt o).sum (pt o).part (pt o).name, .int .i64 (er o)]
theorem rpV_is {o : Option Pth} {x : Option Pth} (h : o = x) : rpV o = rpV x := by rw [h]
/-- begins with that, and a slash -/
theorem begins (h l : B) (hh : ∀ c ∈ h, c ≠ (47 : UInt8)) : (l.take (h ++ [47]).length = h ++ [47]) = (ahd 47 l = h ∧ l = h ++ 47 :: bhd 47 l) := by
  rw [List.length_append]; exact propext (starts_iff h l hh)
theorem begins_drop {h l : B} (e : ahd 47 l = h ∧ l = h ++ 47 :: bhd 47 l) : l.drop (h ++ [47]).length = bhd 47 l := by
  rw [List.length_append]; exact starts_drop e.2
/-- what reading says where a text begins so, and where it begins with none of them -/
theorem read_log {is : B → Bool} {l : B} (h : ahd 47 l = logH) : readP is l = logR (bhd 47 l) := by unfold readP; rw [if_pos h]
theorem read_stage {is : B → Bool} {l : B} (h : ahd 47 l = stageH) : readP is l = stageR (bhd 47 l) := by unfold readP; rw [if_neg (by rw [h]; decide), if_neg (by rw [h]; decide), if_neg (by rw [h]; decide), if_pos h]
theorem read_page {is : B → Bool} {l : B} (h : ahd 47 l = pageH) : readP is l = pageR is (bhd 47 l) := by unfold readP; rw [if_neg (by rw [h]; decide), if_neg (by rw [h]; decide), if_pos h]
theorem read_blob {is : B → Bool} {l : B} (h : ahd 47 l = blobH) : readP is l = blobR (bhd 47 l) := by unfold readP; rw [if_neg (by rw [h]; decide), if_pos h]
/-- where there is no slash nothing is behind it -/
theorem no_slash {h l : B} (h1 : ahd 47 l = h) (h2 : ¬ l = h ++ 47 :: bhd 47 l) : bhd 47 l = [] := by
  rcases VerM.firstAt 47 l with e | ⟨x, r, e, hx⟩
  · exact (ahd_none e).2
  · subst e
    rw [(ahd_hit r hx).1] at h1
    rw [(ahd_hit r hx).2, h1] at h2
    exact absurd rfl h2
theorem none_nil (is : B → Bool) (hi : is [] = false) : logR [] = none ∧ stageR [] = none ∧ pageR is [] = none ∧ blobR [] = none := by
  refine ⟨by unfold logR; rw [if_neg]; simp, ?_, by unfold pageR; rw [hi]; rfl, ?_⟩
  · unfold stageR plain; rw [if_neg]; simp [VerM.val]
  · unfold blobR
    rw [(ahd_none (d := 45) (l := []) (by simp)).1]
    rfl
theorem isN_nil : NameM.isN [] = false := by decide +kernel
/-- which of the four, if any -/
theorem which (is : B → Bool) (hi : is [] = false) (l : B) : (ahd 47 l = logH ∧ l = logH ++ 47 :: bhd 47 l) ∨ (ahd 47 l = stageH ∧ l = stageH ++ 47 :: bhd 47 l) ∨ (ahd 47 l = pageH ∧ l = pageH ++ 47 :: bhd 47 l) ∨ (ahd 47 l = blobH ∧ l = blobH ++ 47 :: bhd 47 l) ∨
    (¬ (ahd 47 l = logH ∧ l = logH ++ 47 :: bhd 47 l) ∧ ¬ (ahd 47 l = stageH ∧ l = stageH ++ 47 :: bhd 47 l) ∧ ¬ (ahd 47 l = pageH ∧ l = pageH ++ 47 :: bhd 47 l) ∧ ¬ (ahd 47 l = blobH ∧ l = blobH ++ 47 :: bhd 47 l) ∧ readP is l = none) := by
  by_cases h1 : ahd 47 l = logH ∧ l = logH ++ 47 :: bhd 47 l
  · exact .inl h1
  by_cases h2 : ahd 47 l = stageH ∧ l = stageH ++ 47 :: bhd 47 l
  · exact .inr (.inl h2)
  by_cases h3 : ahd 47 l = pageH ∧ l = pageH ++ 47 :: bhd 47 l
  · exact .inr (.inr (.inl h3))
  by_cases h4 : ahd 47 l = blobH ∧ l = blobH ++ 47 :: bhd 47 l
  · exact .inr (.inr (.inr (.inl h4)))
  refine .inr (.inr (.inr (.inr ⟨h1, h2, h3, h4, ?_⟩)))
  obtain ⟨n1, n2, n3, n4⟩ := none_nil is hi
  by_cases e1 : ahd 47 l = logH
  · rw [read_log e1, no_slash e1 (fun e => h1 ⟨e1, e⟩), n1]
  by_cases e2 : ahd 47 l = stageH
  · rw [read_stage e2, no_slash e2 (fun e => h2 ⟨e2, e⟩), n2]
  by_cases e3 : ahd 47 l = pageH
  · rw [read_page e3, no_slash e3 (fun e => h3 ⟨e3, e⟩), n3]
  by_cases e4 : ahd 47 l = blobH
  · rw [read_blob e4, no_slash e4 (fun e => h4 ⟨e4, e⟩), n4]
  unfold readP
  rw [if_neg e1, if_neg e4, if_neg e3, if_neg e2]

/-! ### the document's Read: one way after the other -/
theorem other {a b l : B} (h : ahd 47 l = a) (n : a ≠ b) : ¬ (ahd 47 l = b ∧ l = b ++ 47 :: bhd 47 l) := fun x => n (h.symm.trans x.1)
theorem res_ct {P : Program} {fn : Func} {p q : Tmp} {ty : TypeId} (h : fn.results = #[.cell p ty, .tmp q]) (tmps : Array Value) (w : World) (g : Nat) (t : TypeId) (cs : Array Value) (fr : Nat × Nat) (d : TypeDesc)
    (hp : tmps.getD p undef = .pointer (some ⟨g, 0, none⟩)) (hg : w.heap[g]? = some (.cells cs t fr))
    (hu : P.underlying ty = some d) (hd : (match d with | .struct _ | .array _ _ => true | _ => false) = true) (hi : (P.info? ty).map (·.size) = some cs.size) :
    (results fn tmps).run P w = .ok (.tuple #[.agg cs, tmps.getD q undef]) w := by
  have hp' : tmps[p]?.getD undef = .pointer (some ⟨g, 0, none⟩) := by simpa using hp
  simp [results, h, hp', asAddr, run_loadVar_row w g t ty cs fr d hg hu hd hi]
theorem setCell_rowp {w : World} {g : Nat} {cs : Array Value} {t : TypeId} {fr : Nat × Nat} (h : w.heap[g]? = some (.cells cs t fr)) (i : Nat) (v : Value) : (w.setCell ⟨g, i, none⟩ v).heap[g]? = some (.cells (cs.setIfInBounds i v) t fr) := by
  unfold World.setCell
  simp [Array.getElem?_modify, h]
theorem cells_frozen {w : World} {g : Nat} {cs : Array Value} {t : TypeId} (h : w.heap[g]? = some (.cells cs t)) (i : Nat) : w.frozen? ⟨g, i, none⟩ = false := by simp [World.frozen?, h]
theorem numD_bound (l : B) : -1 ≤ numD l ∧ numD l ≤ 9223372036854775807 := by
  unfold numD
  split
  · omega
  · rename_i h
    have h2 : l.all dig = true := by cases e : l.all dig <;> simp_all
    have := Nat.lt_of_lt_of_le (VerC.val_lt l h2) (Nat.pow_le_pow_right (by decide) (show l.length ≤ 10 by omega))
    omega
end PathC
end Go.Proofs.YtfbdhlpgklkjmaaGreatDoor
