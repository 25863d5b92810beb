/-
  What the proof of EvBoth stands on, part 15.
-/
import Derived.Laws.StructEq
import Derived.OwnWalk
import Derived.Test.YtfbegbmjmhnplaaGreatDoorT14
set_option linter.unusedSimpArgs false
set_option linter.unusedVariables false
set_option maxHeartbeats 16000000
namespace Go.Proofs.YtfbegbmjmhnplaaGreatDoor
open Go.Lib (hid)
section
open Go.RowKit
namespace EvA
open StrC CodeM
def hexB (l : B) : B := l.flatMap fun c => SumM.digits c.toNat 2
def swapB (a b : UInt8) (l : B) : B := l.map fun c => if c = a then b else c
def noteT (l : B) : B := if l = [] then [45] else hexB l
def partG (tx sx ox : B → B) (ux nx : Nat → B) (e : EvG) (x : Int) : List B :=
 if x = 0 then [tx e.who] else if x = 1 then [tx e.name] else if x = 2 then [tx e.ver] else if x = 3 then nx e.needs.length :: e.needs.flatMap (fun p => [tx p.1, sx p.2]) else if x = 4 then [ux e.sum]
 else if x = 5 then [nx e.n] else if x = 6 then [nx e.size] else if x = 7 then [tx e.holder] else if x = 8 then [tx e.note] else [ox e.note]
def partB (e : EvG) (x : Int) : List B := partG textB textB textB (fun n => wordB n 8) uintB e x
def partT (e : EvG) (x : Int) : List B := partG id (swapB 32 95) noteT (fun n => SumM.digits n 16) Lib.decDigits e x
def znt (e : EvG) (L : List Int) : B := UInt8.ofNat e.k :: L.flatMap (fun x => (partB e x).flatten)
def lineM (k : B) (e : EvG) (L : List Int) : B := k ++ L.flatMap (fun x => (partT e x).flatMap (fun t => 32 :: t))
theorem znu (sep : B) (r : List B) : Lib.joinTail sep r = r.flatMap (sep ++ ·) := by
 unfold Lib.joinTail
 rw [List.flatMap_def]
theorem znv (e : EvG) (L : List Int) : Lib.join ([UInt8.ofNat e.k] :: L.flatMap (partB e)) [] = znt e L := by
 rw [Lib.join_cons, znu]
 unfold znt
 simp only [List.nil_append, List.singleton_append, List.cons.injEq, true_and]
 induction L with
 | nil => rfl
 | cons x r ih => rw [List.flatMap_cons, List.flatMap_append, ih, List.flatMap_cons]; simp [List.flatMap_def]
theorem znw (k : B) (e : EvG) (L : List Int) : Lib.join (k :: L.flatMap (partT e)) [32] = lineM k e L := by
 rw [Lib.join_cons, znu]
 unfold lineM
 congr 1
 induction L with
 | nil => rfl
 | cons x r ih => rw [List.flatMap_cons, List.flatMap_append, ih, List.flatMap_cons]; simp
theorem znx (n k m : Nat) : SumM.digits (n / 16 ^ m) k ++ SumM.digits n m = SumM.digits n (k + m) := by
 induction k with
 | zero => simp [SumM.digits]
 | succ k ih =>
   rw [show k + 1 + m = (k + m) + 1 from by omega]
   simp only [SumM.digits, List.cons_append, ih]
   rw [Nat.div_div_eq_div_mul, ← Nat.pow_add, Nat.add_comm m k]
theorem zny (n k m : Nat) (h : k ≤ m) : SumM.digits (n % 16 ^ m) k = SumM.digits n k := by
 induction k with
 | zero => rfl
 | succ k ih =>
   simp only [SumM.digits, ih (by omega)]
   congr 2
   have e : 16 ^ m = 16 ^ k * 16 ^ (m - k) := by rw [← Nat.pow_add]; congr 1; omega
   rw [e, Nat.mod_mul_right_div_self]
   have e2 : 16 ^ (m - k) = 16 * 16 ^ (m - k - 1) := by rw [Nat.mul_comm, ← Nat.pow_succ]; congr 1; omega
   rw [e2, Nat.mod_mul_right_mod]
theorem znz (x : Nat) : ∀ k, hexB (wordB x k) = SumM.digits x (2 * k)
 | 0 => rfl
 | k + 1 => by
   unfold hexB
   rw [wordB, List.flatMap_cons]
   have ih := znz x k
   unfold hexB at ih
   rw [ih, show 2 * (k + 1) = 2 + 2 * k from by omega, ← znx x 2 (2 * k)]
   congr 1
   have e : (256 : Nat) ^ k = 16 ^ (2 * k) := by rw [Nat.pow_mul]
   rw [show (UInt8.ofNat (x / 256 ^ k % 256)).toNat = x / 256 ^ k % 256 from by simp, e]
   exact zny _ 2 2 (Nat.le_refl _)
theorem zoa (l : B) : (hexB l).length = 2 * l.length := by
 induction l with
 | nil => rfl
 | cons c r ih =>
   unfold hexB at ih ⊢
   rw [List.flatMap_cons, List.length_append, SumM.zmf, ih, List.length_cons]
   omega
theorem zob (a b : UInt8) (hab : a ≠ b) : ∀ (s : List UInt8) (k : Nat), s.count a ≤ k → Lib.replaceK [a] [b] k s = swapB a b s
 | [], k, _ => by cases k <;> simp [Lib.replaceK, Lib.index, swapB]
 | c :: l, k, h => by
   by_cases e : c = a
   · subst e
     rw [List.count_cons_self] at h
     obtain ⟨k, rfl⟩ : ∃ m, k = m + 1 := ⟨k - 1, by omega⟩
     have hix : Lib.index (c :: l) [c] = (0 : Nat) := by unfold Lib.index; rw [if_pos (by simp [List.isPrefixOf])]; rfl
     rw [Lib.replaceK_hit [c] [b] k (c :: l) 0 hix]
     simp only [List.take_zero, List.nil_append, List.length_cons, List.length_nil, Nat.zero_add, List.drop_succ_cons, List.drop_zero]
     rw [zob c b hab l k (by omega)]
     simp [swapB]
   · rw [List.count_cons_of_ne (by simpa using e)] at h
     have hf : swapB a b (c :: l) = c :: swapB a b l := by simp [swapB, e]
     rw [hf, ← zob a b hab l k h]
     have hix := NameM.zne l e
     cases k with
     | zero => rfl
     | succ k =>
       have hge := Lib.index_ge l [a]
       by_cases hm : Lib.index l [a] = -1
       · rw [if_pos hm] at hix
         unfold Lib.replaceK
         rw [if_pos (by rw [hix]; rfl), if_pos (by rw [hm]; rfl)]
       · rw [if_neg hm] at hix
         obtain ⟨i, hi⟩ : ∃ i : Nat, Lib.index l [a] = i := ⟨(Lib.index l [a]).toNat, by omega⟩
         rw [Lib.replaceK_hit [a] [b] k l i hi, Lib.replaceK_hit [a] [b] k (c :: l) (i + 1) (by rw [hix, hi]; rfl)]
         simp only [List.take_succ_cons, List.cons_append, List.length_cons, List.length_nil]
         rw [show i + 1 + (0 + 1) = (i + (0 + 1)) + 1 from rfl, List.drop_succ_cons]
theorem zoc (a b : UInt8) (hab : a ≠ b) (s : List UInt8) : Lib.replaceAll s [a] [b] = swapB a b s := by
 unfold Lib.replaceAll Lib.replace
 rw [if_neg (by simp [hab])]
 refine zob a b hab s _ ?_
 unfold Lib.replaceNum
 rw [if_pos (Or.inl (by decide)), Lib.count_one]
 exact Nat.le_refl _
theorem zod (a b : UInt8) (l : B) : (swapB a b l).length = l.length := by simp [swapB]
end EvA
end
section
open Go.RowKit
namespace EvL
open StrC CodeM EvA
def fstB (d : UInt8) (l : B) : B := l.takeWhile (fun c => decide (c ≠ d))
def rstB (d : UInt8) (l : B) : B := (l.dropWhile (fun c => decide (c ≠ d))).drop 1
theorem zoe {d : UInt8} {l : B} (h : ∀ c ∈ l, c ≠ d) : fstB d l = l ∧ rstB d l = [] := by
 have := VerM.zal (p := fun c => decide (c ≠ d)) (s := l) (fun c hc => by simpa using h c hc)
 exact ⟨this.1, by unfold rstB; rw [this.2]; rfl⟩
theorem zof {d : UInt8} {x : B} (r : B) (h : ∀ c ∈ x, c ≠ d) : fstB d (x ++ d :: r) = x ∧ rstB d (x ++ d :: r) = r := by
 have h1 : ∀ c ∈ x, (fun c => decide (c ≠ d)) c = true := fun c hc => by simpa using h c hc
 constructor
 · unfold fstB
   rw [List.takeWhile_append_of_pos h1]; simp
 · unfold rstB
   rw [List.dropWhile_append_of_pos h1]; simp
theorem zog (d : UInt8) (l : B) : (rstB d l).length ≤ l.length := by
 unfold rstB
 rw [List.length_drop]
 have := (List.dropWhile_sublist (l := l) (fun c => decide (c ≠ d))).length_le
 omega
theorem zoh (d : UInt8) (l : B) : (fstB d l).length ≤ l.length := (List.takeWhile_sublist _).length_le
theorem zoi (d : UInt8) (l : B) : (Lib.indexByte l d = -1 ∧ fstB d l = l ∧ rstB d l = []) ∨ ∃ k : Nat, Lib.indexByte l d = (k : Int) ∧ k < l.length ∧ l.take k = fstB d l ∧ l.drop (k + 1) = rstB d l := by
 rcases VerM.zag d l with h | ⟨x, r, e, hx⟩
 · exact .inl ⟨by rw [← Lib.index_one]; exact VerM.zah h, (zoe h).1, (zoe h).2⟩
 · subst e
   refine .inr ⟨x.length, by rw [← Lib.index_one]; exact VerM.zai r hx, by simp, ?_, ?_⟩
   · rw [(zof r hx).1]; simp
   · rw [(zof r hx).2, show x ++ d :: r = (x ++ [d]) ++ r by simp, List.drop_left' (by simp)]
def hexD (c : UInt8) : Option Nat :=
 if 48 ≤ c.toNat ∧ c.toNat ≤ 57 then some (c.toNat - 48) else if 97 ≤ c.toNat ∧ c.toNat ≤ 102 then some (c.toNat - 87) else if 65 ≤ c.toNat ∧ c.toNat ≤ 70 then some (c.toNat - 55) else none
theorem zoj {c : UInt8} {n : Nat} (h : hexD c = some n) : n < 16 := by
 unfold hexD at h
 split at h
 · cases h; omega
 split at h
 · cases h; omega
 split at h
 · cases h; omega
 · cases h
def twoD : B → Option Nat
 | [c] => hexD c
 | [c, d] => match hexD c, hexD d with
   | some x, some y => some (16 * x + y)
   | _, _ => none
 | _ => none
theorem twoD_lt {l : B} {n : Nat} (h : twoD l = some n) : n < 256 := by
 unfold twoD at h
 split at h
 · have := zoj h; omega
 · split at h
   · rename_i x y h1 h2
     cases h
     have := zoj h1
     have := zoj h2
     omega
   · cases h
 · cases h
def chk2 : B → List B
 | [] => []
 | [c] => [[c]]
 | c :: d :: r => [c, d] :: chk2 r
def saysB : List B → Option B
 | [] => some []
 | p :: r => match twoD p, saysB r with
   | some n, some t => some (UInt8.ofNat n :: t)
   | _, _ => none
def zok (l : B) : Option B := if l.length ≤ 512 then saysB (chk2 l) else none
theorem zol {d : Nat} (h : d < 16) : hexD (SumM.hd d) = some d := by
 have : d = 0 ∨ d = 1 ∨ d = 2 ∨ d = 3 ∨ d = 4 ∨ d = 5 ∨ d = 6 ∨ d = 7 ∨ d = 8 ∨ d = 9 ∨ d = 10 ∨ d = 11 ∨ d = 12 ∨ d = 13 ∨ d = 14 ∨ d = 15 := by omega
 rcases this with rfl | rfl | rfl | rfl | rfl | rfl | rfl | rfl | rfl | rfl | rfl | rfl | rfl | rfl | rfl | rfl <;> decide
theorem zom : ∀ l : B, saysB (chk2 (hexB l)) = some l
 | [] => rfl
 | c :: r => by
   have e : hexB (c :: r) = SumM.hd (c.toNat / 16 % 16) :: SumM.hd (c.toNat % 16) :: hexB r := by
    unfold hexB
    rw [List.flatMap_cons]
    simp [SumM.digits]
   rw [e, chk2, saysB, zom r]
   have h1 := zol (d := c.toNat / 16 % 16) (by omega)
   have h2 := zol (d := c.toNat % 16) (by omega)
   have h3 : 16 * (c.toNat / 16 % 16) + c.toNat % 16 = c.toNat := by have := c.toNat_lt; omega
   simp only [twoD, h1, h2, h3]
   simp
theorem zon {l : B} (h : l.length ≤ 256) : zok (hexB l) = some l := by
 unfold zok
 rw [if_pos (by rw [zoa]; omega), zom]
theorem zoo (x : Nat) : zok (SumM.digits x 16) = some (wordB x 8) := by
 have h := znz x 8
 rw [← h]
 exact zon (by rw [zml]; decide)
theorem zop : ∀ (l : List B) (t : B), saysB l = some t → t.length = l.length
 | [], t, h => by cases h; rfl
 | p :: r, t, h => by
   rw [saysB] at h
   split at h
   · rename_i n u h1 h2
     cases h
     have := zop r u h2
     simp [this]
   · cases h
theorem zoq : ∀ l : B, (chk2 l).length ≤ l.length
 | [] => Nat.le_refl _
 | [c] => Nat.le_refl _
 | c :: d :: r => by rw [chk2]; have := zoq r; simp only [List.length_cons]; omega
theorem zor {l t : B} (h : zok l = some t) : t.length ≤ 512 := by
 unfold zok at h
 split at h
 · have h1 := zop _ _ h
   have h2 := zoq l
   omega
 · cases h
end EvL
end
end Go.Proofs.YtfbegbmjmhnplaaGreatDoor
section
namespace Go.Proofs
open Go.Shelf
def Tryz.lays219_ren : Go.Shelf.Ren := ⟨fun | 219 => 188 | 217 => 211 | 225 => 212 | 224 => 213 | 267 => 214 | 266 => 241 | 314 => 242 | n => n, fun | 9 => 9 | 3 => 3 | 4 => 4 | 5 => 5 | 46 => 107 | 146 => 297 | 51 => 25 | n => n, fun | 1 => 1 | n => n⟩
theorem Tryz.lays219 : Go.Proofs.Lays.n219 Tryz.prog Tryz.lays219_ren := {
 mixed := by kernel_rfl
 f217 := Tryz.func211.trans (congrArg some (by kernel_rfl))
 f219 := Tryz.func188.trans (congrArg some (by kernel_rfl))
 f224 := Tryz.func213.trans (congrArg some (by kernel_rfl))
 f225 := Tryz.func212.trans (congrArg some (by kernel_rfl))
 f266 := Tryz.func241.trans (congrArg some (by kernel_rfl))
 f267 := Tryz.func214.trans (congrArg some (by kernel_rfl))
 f314 := Tryz.func242.trans (congrArg some (by kernel_rfl))
 t3 := Tryz.underlying3
 a3 := Tryz.isAgg3
 z3 := Tryz.sizeOf3
 v3 := Tryz.zeroValue3
 t4 := Tryz.underlying4
 a4 := Tryz.isAgg4
 z4 := Tryz.sizeOf4
 v4 := Tryz.zeroValue4
 t5 := Tryz.underlying5
 a5 := Tryz.isAgg5
 z5 := Tryz.sizeOf5
 v5 := Tryz.zeroValue5
 t9 := Tryz.underlying9
 a9 := Tryz.isAgg9
 z9 := Tryz.sizeOf9
 v9 := Tryz.zeroValue9
 t46 := Tryz.underlying107
 a46 := Tryz.isAgg107
 z46 := Tryz.sizeOf107
 v46 := Tryz.zeroValue107
 t51 := Tryz.underlying25
 a51 := Tryz.isAgg25
 z51 := Tryz.sizeOf25
 v51 := Tryz.zeroValue25
 t146 := Tryz.underlying297
 a146 := Tryz.isAgg297
 z146 := Tryz.sizeOf297
 v146 := Tryz.zeroValue297
 g1 := by kernel_rfl }
open Go.RowKit Go.Lib in
/-- internal/stringslite.Index (what strings.Index calls) AT A substr OF ONE BYTE c: IT RETURNS 'Lib.indexByte s c'; the world is as it was. (LAID: no walk: one application.) -/
theorem Tryz.stringslite_Index_one (s : ByteArray) (c : UInt8) (w : World) :
 Calls Tryz.prog 188 #[.string s, .string ⟨#[c]⟩] w fun e w' => e = .returned (.int .i64 (Lib.indexByte s.data.toList c)) ∧ w' = w := Any.stringslite_Index_one Tryz.lays219 s c w
end Go.Proofs
end
namespace Go.Proofs.YtfbegbmjmhnplaaGreatDoor
open Go.Lib (hid)
section
open Go.RowKit
namespace AppC
section
variable {P : Program} (w : World)
end
theorem step_append_own {P : Program} {w : World} {ops : Array Oper} {o : Oper} {a : Act} {K : Act → World → Prop} {Q : Exit → Act → World → Prop} {E : Prop} (hgd : o.guard = none) (s x : Operand) (t : TypeId)
 (ho : o.op = .call { callee := .builtin .append, args := #[s, x], argTypes := #[t, t] })
 (base : Nat) (e : TypeId) (i : TypeInfo) (z : Value) (size bytes : Nat) (ht : P.underlying t = some (.slice e)) (hi : P.info? e = some i) (hz : i.zero = some z)
 (hsize : i.size = size) (hby : i.bytes = bytes) (hzs : z.cells.size = size) (hsz : 0 < size)
 (v : Value) (n : Nat) (xs : List Value) (hs : a.eval s = v) (hown : w.ownsRow base e size v n xs)
 (ad : Addr) (m c : Nat) (news : List Value) (hx : a.eval x = .slice (some ad) m c) (hl : news.length = m * size) (hnews : ∀ j u, news[j]? = some u → w.cell? (ad.add j) = some u) (h1 : ∀ u ∈ news, u.oneCell' = true)
 (h63 : n + m ≤ maxLen) (hbytes : (n + m) * bytes ≤ 140737488355328) (hbase : base ≤ w.heap.size)
 (h : ∀ v' w', w'.ownsRow base e size v' (n + m) (xs ++ news) → w.grownBy w' v.ownBlock → K (a.put o.dst v') w') :
 if Region.wanted o (yielded ops a.tmps) = true then Oper.wp P o a w K Q else E := by
 have hw : Region.wanted o (yielded ops a.tmps) = true := by simp [Region.wanted, hgd]
 rw [if_pos hw]
 obtain ⟨v', w', hr, h2, h3, _⟩ := run_append_own (P := P) w base t o.type e i z size bytes ht hi hz hsize hby hzs hsz v n xs hown ad m c news hl hnews h1 h63 hbytes hbase
 unfold Oper.wp execOp
 simp only [ho, resolve, invoke, builtin, Sem.run_bind, Sem.run_pure, Result.andThen_ok, List.map_toArray, List.map_cons, List.map_nil, hs, hx, hr]
 exact h v' w' h2 h3
end AppC
end
section
open Go.RowKit
namespace EvC
open EvA StrC AppC
theorem zos {w : World} {g : Nat} {e : EvG} (h : w.heap[g]? = some (evO e)) :
 w.cell? ⟨g, 0, none⟩ = some (.int .u8 e.k) ∧ w.cell? ⟨g, 1, none⟩ = some (.string (str e.who)) ∧ w.cell? ⟨g, 2, none⟩ = some (.string (str e.name)) ∧ w.cell? ⟨g, 3, none⟩ = some (.string (str e.ver)) ∧ w.cell? ⟨g, 4, none⟩ = some (.slice e.na e.needs.length e.nc) ∧
 w.cell? ⟨g, 5, none⟩ = some (.int .u64 e.sum) ∧ w.cell? ⟨g, 6, none⟩ = some (.int .u32 e.n) ∧ w.cell? ⟨g, 7, none⟩ = some (.int .u32 e.size) ∧ w.cell? ⟨g, 8, none⟩ = some (.string (str e.holder)) ∧ w.cell? ⟨g, 9, none⟩ = some (.string (str e.note)) := by
 refine ⟨?_, ?_, ?_, ?_, ?_, ?_, ?_, ?_, ?_, ?_⟩ <;> (rw [cell_of_row w g _ _ _ (0, 0) h]; rfl)
theorem zot (x y : B × B) (w : World) : (binOp .neq 63 (.agg #[.string (str x.1), .string (str x.2)]) (.agg #[.string (str y.1), .string (str y.2)])).run Tryz.prog w = .ok (.bool (decide (x ≠ y))) w := by
 have p1 : ∀ w, (part 9 #[.string (str x.1), .string (str x.2)] 0).run Tryz.prog w = .ok (.string (str x.1)) w := fun w => by kernel_rfl
 have p2 : ∀ w, (part 9 #[.string (str x.1), .string (str x.2)] 1).run Tryz.prog w = .ok (.string (str x.2)) w := fun w => by kernel_rfl
 have p3 : ∀ w, (part 9 #[.string (str y.1), .string (str y.2)] 0).run Tryz.prog w = .ok (.string (str y.1)) w := fun w => by kernel_rfl
 have p4 : ∀ w, (part 9 #[.string (str y.1), .string (str y.2)] 1).run Tryz.prog w = .ok (.string (str y.2)) w := fun w => by kernel_rfl
 rw [run_neq_struct, run_equalIn_agg w 9999 63 _ _ (by kernel_rfl) (by kernel_rfl)]
 have hfs : ∃ f0 f1 : Field, (Tryz.prog.fieldsOf 63).toList = [f0, f1] ∧ (f0.name.length == 1) = false ∧ (f1.name.length == 1) = false ∧ f0.type = 9 ∧ f1.type = 9 ∧ f0.offset = 0 ∧ f1.offset = 1 :=
  ⟨(Tryz.prog.fieldsOf 63)[0]!, (Tryz.prog.fieldsOf 63)[1]!, by kernel_rfl, by kernel_rfl, by kernel_rfl, by kernel_rfl, by kernel_rfl, by kernel_rfl, by kernel_rfl⟩
 obtain ⟨f0, f1, hf, m0, m1, t0, t1, o0, o1⟩ := hfs
 have n0 : f0.name ≠ "_" := fun h => by rw [h] at m0; exact absurd m0 (by decide)
 have n1 : f1.name ≠ "_" := fun h => by rw [h] at m1; exact absurd m1 (by decide)
 rw [hf]
 simp only [Op.eqFields, n0, n1, ne_eq, not_false_eq_true, if_true, t0, t1, o0, o1, Sem.run_bind, p1, p3, Result.andThen_ok, run_equalIn_string w 9998 9 _ _ Tryz.underlying9, zbr]
 obtain ⟨x1, x2⟩ := x
 obtain ⟨y1, y2⟩ := y
 dsimp only at p1 p2 p3 p4 ⊢
 by_cases h1 : x1 = y1
 · have e1 : decide (x1 = y1) = true := decide_eq_true h1
   by_cases h2 : x2 = y2
   · have e2 : decide (x2 = y2) = true := decide_eq_true h2
     have e3 : decide ((x1, x2) ≠ (y1, y2)) = false := by simp [h1, h2]
     simp only [e1, e2, e3, p2, p4, Result.andThen, Bool.not_true, Bool.false_eq_true, if_false, Sem.run_bind, run_equalIn_string w 9998 9 _ _ Tryz.underlying9, zbr]
     simp
   · have e2 : decide (x2 = y2) = false := decide_eq_false h2
     have e3 : decide ((x1, x2) ≠ (y1, y2)) = true := by simp [h2]
     simp only [e1, e2, e3, p2, p4, Result.andThen, Bool.not_true, Bool.false_eq_true, if_false, Sem.run_bind, run_equalIn_string w 9998 9 _ _ Tryz.underlying9, zbr]
     simp
 · have e1 : decide (x1 = y1) = false := decide_eq_false h1
   have e3 : decide ((x1, x2) ≠ (y1, y2)) = true := by simp [h1]
   simp only [e1, e3, Result.andThen]
   simp
theorem eq_upto {L M : List (B × B)} (hl : L.length = M.length) (h : ∀ j, j < L.length → L[j]? = M[j]?) : L = M := by
 apply List.ext_getElem?
 intro j
 by_cases hj : j < L.length
 · exact h j hj
 · rw [List.getElem?_eq_none (by omega), List.getElem?_eq_none (by omega)]
theorem zou (a1 : Option Addr) (c1 : Nat) (L : List (B × B)) (a2 : Option Addr) (c2 : Nat) (M : List (B × B)) (w : World) (h1 : NeIn w a1 c1 L) (h2 : NeIn w a2 c2 M) :
 Calls Tryz.prog 39 #[.slice a1 L.length c1, .slice a2 M.length c2] w fun e w' => e = .returned (.bool (decide (L = M))) ∧ ∃ q, w' = w.drewN q := by
 by_cases hl : L.length = M.length
 rotate_left
 · have tne : ((L.length : Int) != (M.length : Int)) = true := by rw [bne_iff_ne]; omega
   have hd : decide (L = M) = false := decide_eq_false (fun e => hl (by rw [e]))
   rw [hd]
   clear h1 h2
   go_enter Tryz.func39, Tryz.ntmps39
   go_wp2_with fail
   go_ret
   exact ⟨rfl, 0, rfl⟩
 have tne : ((L.length : Int) != (M.length : Int)) = false := by rw [bne_eq_false_iff_eq]; omega
 have HL := hid hl
 have H1 := hid h1
 have H2 := hid h2
 have hlm := h1.few
 have HLM : Hid (L.length ≤ 4398046510976) := hid (by omega)
 clear h1 h2 hlm
 go_enter Tryz.func39, Tryz.ntmps39
 go_wp2_with fail
 clear hl tne
 go_loopw [5, 13] (fun _ vi wr => ∃ i q : Nat, i ≤ L.length ∧ vi = .int .i64 i ∧ wr = w.drewN q ∧ Hid (∀ j, j < i → L[j]? = M[j]?)) (fun _ vi _ => L.length - (intOf vi).toNat)
 case atStart => exact ⟨0, 0, Nat.zero_le _, rfl, rfl, hid (fun j h => absurd h (by omega))⟩
 case round =>
  obtain ⟨i, q, hi, rfl, rfl, HS⟩ := hrel
  by_cases hlt : i < L.length
  · have hdec : decide (i < L.length) = true := by simpa using hlt
    have hgt : i < M.length := by have := HL.out; omega
    have hdec2 : decide (i < M.length) = true := by simpa using hgt
    obtain ⟨g, o, x, -, hx, rfl, x1, x2⟩ := H1.out.at i hlt
    obtain ⟨g', o', y, -, hy, rfl, y1, y2⟩ := H2.out.at i hgt
    have es3 : IntKind.i64.wrap (i : Int) = (i : Int) := IntWalk.i64_in _ ⟨by omega, by have := HLM.out; omega⟩
    have hib : i < 4398046510976 := by have := HLM.out; omega
    have n1 : (0 : Int) ≤ (i : Int) := by omega
    have n2 : (i : Int) < (L.length : Int) := by omega
    have n3 : (i : Int) < (M.length : Int) := by omega
    have hneq := zot x y
    have HSN := hid (show x = y → ∀ j, j < i + 1 → L[j]? = M[j]? from fun e j hj => by
     by_cases e2 : j = i
     · subst e2; rw [hx, hy, e]
     · exact HS.out j (by omega))
    have HNO := hid (show x ≠ y → decide (L = M) = false from fun e => decide_eq_false (fun e2 => by
     rw [e2, hy] at hx
     exact e (Option.some.inj hx).symm))
    clear hx hy
    by_cases hs : x = y
    · have hdn : decide (x ≠ y) = false := by simp [hs]
      rw [hdn] at hneq
      have HNX := hid (HSN.out hs)
      clear hs hdn
      go_wp2_with fail
      go_quiet (fail)
      go_wp2_with fail
      go_roundw
      case rel => exact ⟨i + 1, _, by omega, by go_num, rfl, HNX⟩
      case measure => simp [intOf]; omega
    · have hdn : decide (x ≠ y) = true := by simp [hs]
      rw [hdn] at hneq
      have HNX := hid (HNO.out hs)
      clear hs hdn
      go_wp2_with fail
      go_quiet (fail)
      go_wp2_with fail
      go_ret
      rw [HNX.out]
      exact ⟨rfl, _, World.drewN_drewN _ _ _⟩
  · have hdec : decide (i < L.length) = false := by simpa using hlt
    have hdec2 : decide (i < M.length) = false := by have := HL.out; simp; omega
    have hsl : decide (L = M) = true := decide_eq_true (eq_upto HL.out (fun j hj => HS.out j (by omega)))
    have HSL := hid hsl
    clear hsl
    go_wp2_with fail
    go_ret
    rw [HSL.out]
    exact ⟨rfl, _, rfl⟩
def sameE (a b : EvG) : Bool := decide (a.k = b.k) && decide (a.who = b.who) && decide (a.name = b.name) && decide (a.ver = b.ver) && decide (a.needs = b.needs) && decide (a.sum = b.sum) && decide (a.n = b.n) && decide (a.size = b.size) && decide (a.holder = b.holder) && decide (a.note = b.note)
theorem zov {B : Nat} {w w' : World} (h : Below B w w') (q : Nat) : Below B w (w'.drewN q) := ⟨h.os, h.tape, h.output, h.size, h.block⟩
set_option maxRecDepth 100000 in
theorem zow (a b : EvG) (w : World) (ha : NeIn w a.na a.nc a.needs) (hb : NeIn w b.na b.nc b.needs) :
 Calls Tryz.prog 14 #[evV a, evV b] w fun e w' => e = .returned (.bool (sameE a b)) ∧ Below w.heap.size w w' := by
 have hb1 : Below w.heap.size w (w.alloc (evO a)) := (Below.refl _ w).alloc (Nat.le_refl _) _
 have hb2 : Below w.heap.size w ((w.alloc (evO a)).alloc (evO b)) := hb1.alloc hb1.size _
 have HEQ := hid (zou a.na a.nc a.needs b.na b.nc b.needs ((w.alloc (evO a)).alloc (evO b)) (ha.gr hb2) (hb.gr hb2))
 have HB : Hid (∀ q, Below w.heap.size w (((w.alloc (evO a)).alloc (evO b)).drewN q)) := hid (fun q => zov hb2 q)
 have hn2 := heap_alloc_new (w.alloc (evO a)) (evO b)
 have hn1 := heap_alloc_old (w.alloc (evO a)) (evO b) (r := w.heap.size) (by simp)
 rw [heap_alloc_new w (evO a)] at hn1
 obtain ⟨x0, x1, x2, x3, x4, x5, x6, x7, x8, x9⟩ := zos hn1
 obtain ⟨y0, y1, y2, y3, y4, y5, y6, y7, y8, y9⟩ := zos hn2
 simp only [World.size_alloc] at y0 y1 y2 y3 y4 y5 y6 y7 y8 y9
 clear ha hb hb1 hb2 hn1 hn2
 by_cases h0 : a.k = b.k
 rotate_left
 · have e0 : ((a.k : Int) == (b.k : Int)) = false := by rw [beq_eq_false_iff_ne]; omega
   have n0 : ((a.k : Int) != (b.k : Int)) = true := by unfold bne; rw [e0]; rfl
   have hs : sameE a b = false := by unfold sameE; simp [h0]
   rw [hs]
   clear hs h0
   go_enter Tryz.func14, Tryz.ntmps14
   go_wp2_with fail
   go_ret
   exact ⟨rfl, HB.out 0⟩
 by_cases h1 : a.who = b.who
 rotate_left
 · have e0 : ((a.k : Int) == (b.k : Int)) = true := by rw [beq_iff_eq]; omega
   have n0 : ((a.k : Int) != (b.k : Int)) = false := by unfold bne; rw [e0]; rfl
   have e1 : ((str a.who).toList == (str b.who).toList) = false := by rw [zbr]; simpa using h1
   have n1 : ((str a.who).toList != (str b.who).toList) = true := by unfold bne; rw [e1]; rfl
   have hs : sameE a b = false := by unfold sameE; simp [h1]
   rw [hs]
   clear hs h0 h1
   go_enter Tryz.func14, Tryz.ntmps14
   go_wp2_with fail
   go_ret
   exact ⟨rfl, HB.out 0⟩
 by_cases h2 : a.name = b.name
 rotate_left
 · have e0 : ((a.k : Int) == (b.k : Int)) = true := by rw [beq_iff_eq]; omega
   have n0 : ((a.k : Int) != (b.k : Int)) = false := by unfold bne; rw [e0]; rfl
   have e1 : ((str a.who).toList == (str b.who).toList) = true := by rw [zbr]; simpa using h1
   have n1 : ((str a.who).toList != (str b.who).toList) = false := by unfold bne; rw [e1]; rfl
   have e2 : ((str a.name).toList == (str b.name).toList) = false := by rw [zbr]; simpa using h2
   have n2 : ((str a.name).toList != (str b.name).toList) = true := by unfold bne; rw [e2]; rfl
   have hs : sameE a b = false := by unfold sameE; simp [h2]
   rw [hs]
   clear hs h0 h1 h2
   go_enter Tryz.func14, Tryz.ntmps14
   go_wp2_with fail
   go_ret
   exact ⟨rfl, HB.out 0⟩
 by_cases h3 : a.ver = b.ver
 rotate_left
 · have e0 : ((a.k : Int) == (b.k : Int)) = true := by rw [beq_iff_eq]; omega
   have n0 : ((a.k : Int) != (b.k : Int)) = false := by unfold bne; rw [e0]; rfl
   have e1 : ((str a.who).toList == (str b.who).toList) = true := by rw [zbr]; simpa using h1
   have n1 : ((str a.who).toList != (str b.who).toList) = false := by unfold bne; rw [e1]; rfl
   have e2 : ((str a.name).toList == (str b.name).toList) = true := by rw [zbr]; simpa using h2
   have n2 : ((str a.name).toList != (str b.name).toList) = false := by unfold bne; rw [e2]; rfl
   have e3 : ((str a.ver).toList == (str b.ver).toList) = false := by rw [zbr]; simpa using h3
   have n3 : ((str a.ver).toList != (str b.ver).toList) = true := by unfold bne; rw [e3]; rfl
   have hs : sameE a b = false := by unfold sameE; simp [h3]
   rw [hs]
   clear hs h0 h1 h2 h3
   go_enter Tryz.func14, Tryz.ntmps14
   go_wp2_with fail
   go_ret
   exact ⟨rfl, HB.out 0⟩
 by_cases h4 : a.needs = b.needs
 rotate_left
 · have e0 : ((a.k : Int) == (b.k : Int)) = true := by rw [beq_iff_eq]; omega
   have n0 : ((a.k : Int) != (b.k : Int)) = false := by unfold bne; rw [e0]; rfl
   have e1 : ((str a.who).toList == (str b.who).toList) = true := by rw [zbr]; simpa using h1
   have n1 : ((str a.who).toList != (str b.who).toList) = false := by unfold bne; rw [e1]; rfl
   have e2 : ((str a.name).toList == (str b.name).toList) = true := by rw [zbr]; simpa using h2
   have n2 : ((str a.name).toList != (str b.name).toList) = false := by unfold bne; rw [e2]; rfl
   have e3 : ((str a.ver).toList == (str b.ver).toList) = true := by rw [zbr]; simpa using h3
   have n3 : ((str a.ver).toList != (str b.ver).toList) = false := by unfold bne; rw [e3]; rfl
   have e4 : decide (a.needs = b.needs) = false := by simpa using h4
   have hs : sameE a b = false := by unfold sameE; simp [h4]
   rw [e4] at HEQ
   rw [hs]
   clear hs h0 h1 h2 h3 h4
   go_enter Tryz.func14, Tryz.ntmps14
   go_wp2_with (go_at_call 39; refine HEQ.out.mono ?_; rintro e w' ⟨rfl, q, rfl⟩)
   go_ret
   exact ⟨rfl, HB.out _⟩
 by_cases h5 : a.sum = b.sum
 rotate_left
 · have e0 : ((a.k : Int) == (b.k : Int)) = true := by rw [beq_iff_eq]; omega
   have n0 : ((a.k : Int) != (b.k : Int)) = false := by unfold bne; rw [e0]; rfl
   have e1 : ((str a.who).toList == (str b.who).toList) = true := by rw [zbr]; simpa using h1
   have n1 : ((str a.who).toList != (str b.who).toList) = false := by unfold bne; rw [e1]; rfl
   have e2 : ((str a.name).toList == (str b.name).toList) = true := by rw [zbr]; simpa using h2
   have n2 : ((str a.name).toList != (str b.name).toList) = false := by unfold bne; rw [e2]; rfl
   have e3 : ((str a.ver).toList == (str b.ver).toList) = true := by rw [zbr]; simpa using h3
   have n3 : ((str a.ver).toList != (str b.ver).toList) = false := by unfold bne; rw [e3]; rfl
   have e4 : decide (a.needs = b.needs) = true := by simpa using h4
   have e5 : ((a.sum : Int) == (b.sum : Int)) = false := by rw [beq_eq_false_iff_ne]; omega
   have n5 : ((a.sum : Int) != (b.sum : Int)) = true := by unfold bne; rw [e5]; rfl
   have hs : sameE a b = false := by unfold sameE; simp [h5]
   rw [e4] at HEQ
   rw [hs]
   clear hs h0 h1 h2 h3 h4 h5
   go_enter Tryz.func14, Tryz.ntmps14
   go_wp2_with (go_at_call 39; refine HEQ.out.mono ?_; rintro e w' ⟨rfl, q, rfl⟩)
   go_ret
   exact ⟨rfl, HB.out _⟩
 by_cases h6 : a.n = b.n
 rotate_left
 · have e0 : ((a.k : Int) == (b.k : Int)) = true := by rw [beq_iff_eq]; omega
   have n0 : ((a.k : Int) != (b.k : Int)) = false := by unfold bne; rw [e0]; rfl
   have e1 : ((str a.who).toList == (str b.who).toList) = true := by rw [zbr]; simpa using h1
   have n1 : ((str a.who).toList != (str b.who).toList) = false := by unfold bne; rw [e1]; rfl
   have e2 : ((str a.name).toList == (str b.name).toList) = true := by rw [zbr]; simpa using h2
   have n2 : ((str a.name).toList != (str b.name).toList) = false := by unfold bne; rw [e2]; rfl
   have e3 : ((str a.ver).toList == (str b.ver).toList) = true := by rw [zbr]; simpa using h3
   have n3 : ((str a.ver).toList != (str b.ver).toList) = false := by unfold bne; rw [e3]; rfl
   have e4 : decide (a.needs = b.needs) = true := by simpa using h4
   have e5 : ((a.sum : Int) == (b.sum : Int)) = true := by rw [beq_iff_eq]; omega
   have n5 : ((a.sum : Int) != (b.sum : Int)) = false := by unfold bne; rw [e5]; rfl
   have e6 : ((a.n : Int) == (b.n : Int)) = false := by rw [beq_eq_false_iff_ne]; omega
   have n6 : ((a.n : Int) != (b.n : Int)) = true := by unfold bne; rw [e6]; rfl
   have hs : sameE a b = false := by unfold sameE; simp [h6]
   rw [e4] at HEQ
   rw [hs]
   clear hs h0 h1 h2 h3 h4 h5 h6
   go_enter Tryz.func14, Tryz.ntmps14
   go_wp2_with (go_at_call 39; refine HEQ.out.mono ?_; rintro e w' ⟨rfl, q, rfl⟩)
   go_ret
   exact ⟨rfl, HB.out _⟩
 by_cases h7 : a.size = b.size
 rotate_left
 · have e0 : ((a.k : Int) == (b.k : Int)) = true := by rw [beq_iff_eq]; omega
   have n0 : ((a.k : Int) != (b.k : Int)) = false := by unfold bne; rw [e0]; rfl
   have e1 : ((str a.who).toList == (str b.who).toList) = true := by rw [zbr]; simpa using h1
   have n1 : ((str a.who).toList != (str b.who).toList) = false := by unfold bne; rw [e1]; rfl
   have e2 : ((str a.name).toList == (str b.name).toList) = true := by rw [zbr]; simpa using h2
   have n2 : ((str a.name).toList != (str b.name).toList) = false := by unfold bne; rw [e2]; rfl
   have e3 : ((str a.ver).toList == (str b.ver).toList) = true := by rw [zbr]; simpa using h3
   have n3 : ((str a.ver).toList != (str b.ver).toList) = false := by unfold bne; rw [e3]; rfl
   have e4 : decide (a.needs = b.needs) = true := by simpa using h4
   have e5 : ((a.sum : Int) == (b.sum : Int)) = true := by rw [beq_iff_eq]; omega
   have n5 : ((a.sum : Int) != (b.sum : Int)) = false := by unfold bne; rw [e5]; rfl
   have e6 : ((a.n : Int) == (b.n : Int)) = true := by rw [beq_iff_eq]; omega
   have n6 : ((a.n : Int) != (b.n : Int)) = false := by unfold bne; rw [e6]; rfl
   have e7 : ((a.size : Int) == (b.size : Int)) = false := by rw [beq_eq_false_iff_ne]; omega
   have n7 : ((a.size : Int) != (b.size : Int)) = true := by unfold bne; rw [e7]; rfl
   have hs : sameE a b = false := by unfold sameE; simp [h7]
   rw [e4] at HEQ
   rw [hs]
   clear hs h0 h1 h2 h3 h4 h5 h6 h7
   go_enter Tryz.func14, Tryz.ntmps14
   go_wp2_with (go_at_call 39; refine HEQ.out.mono ?_; rintro e w' ⟨rfl, q, rfl⟩)
   go_ret
   exact ⟨rfl, HB.out _⟩
 by_cases h8 : a.holder = b.holder
 rotate_left
 · have e0 : ((a.k : Int) == (b.k : Int)) = true := by rw [beq_iff_eq]; omega
   have n0 : ((a.k : Int) != (b.k : Int)) = false := by unfold bne; rw [e0]; rfl
   have e1 : ((str a.who).toList == (str b.who).toList) = true := by rw [zbr]; simpa using h1
   have n1 : ((str a.who).toList != (str b.who).toList) = false := by unfold bne; rw [e1]; rfl
   have e2 : ((str a.name).toList == (str b.name).toList) = true := by rw [zbr]; simpa using h2
   have n2 : ((str a.name).toList != (str b.name).toList) = false := by unfold bne; rw [e2]; rfl
   have e3 : ((str a.ver).toList == (str b.ver).toList) = true := by rw [zbr]; simpa using h3
   have n3 : ((str a.ver).toList != (str b.ver).toList) = false := by unfold bne; rw [e3]; rfl
   have e4 : decide (a.needs = b.needs) = true := by simpa using h4
   have e5 : ((a.sum : Int) == (b.sum : Int)) = true := by rw [beq_iff_eq]; omega
   have n5 : ((a.sum : Int) != (b.sum : Int)) = false := by unfold bne; rw [e5]; rfl
   have e6 : ((a.n : Int) == (b.n : Int)) = true := by rw [beq_iff_eq]; omega
   have n6 : ((a.n : Int) != (b.n : Int)) = false := by unfold bne; rw [e6]; rfl
   have e7 : ((a.size : Int) == (b.size : Int)) = true := by rw [beq_iff_eq]; omega
   have n7 : ((a.size : Int) != (b.size : Int)) = false := by unfold bne; rw [e7]; rfl
   have e8 : ((str a.holder).toList == (str b.holder).toList) = false := by rw [zbr]; simpa using h8
   have n8 : ((str a.holder).toList != (str b.holder).toList) = true := by unfold bne; rw [e8]; rfl
   have hs : sameE a b = false := by unfold sameE; simp [h8]
   rw [e4] at HEQ
   rw [hs]
   clear hs h0 h1 h2 h3 h4 h5 h6 h7 h8
   go_enter Tryz.func14, Tryz.ntmps14
   go_wp2_with (go_at_call 39; refine HEQ.out.mono ?_; rintro e w' ⟨rfl, q, rfl⟩)
   go_ret
   exact ⟨rfl, HB.out _⟩
 by_cases h9 : a.note = b.note
 rotate_left
 · have e0 : ((a.k : Int) == (b.k : Int)) = true := by rw [beq_iff_eq]; omega
   have n0 : ((a.k : Int) != (b.k : Int)) = false := by unfold bne; rw [e0]; rfl
   have e1 : ((str a.who).toList == (str b.who).toList) = true := by rw [zbr]; simpa using h1
   have n1 : ((str a.who).toList != (str b.who).toList) = false := by unfold bne; rw [e1]; rfl
   have e2 : ((str a.name).toList == (str b.name).toList) = true := by rw [zbr]; simpa using h2
   have n2 : ((str a.name).toList != (str b.name).toList) = false := by unfold bne; rw [e2]; rfl
   have e3 : ((str a.ver).toList == (str b.ver).toList) = true := by rw [zbr]; simpa using h3
   have n3 : ((str a.ver).toList != (str b.ver).toList) = false := by unfold bne; rw [e3]; rfl
   have e4 : decide (a.needs = b.needs) = true := by simpa using h4
   have e5 : ((a.sum : Int) == (b.sum : Int)) = true := by rw [beq_iff_eq]; omega
   have n5 : ((a.sum : Int) != (b.sum : Int)) = false := by unfold bne; rw [e5]; rfl
   have e6 : ((a.n : Int) == (b.n : Int)) = true := by rw [beq_iff_eq]; omega
   have n6 : ((a.n : Int) != (b.n : Int)) = false := by unfold bne; rw [e6]; rfl
   have e7 : ((a.size : Int) == (b.size : Int)) = true := by rw [beq_iff_eq]; omega
   have n7 : ((a.size : Int) != (b.size : Int)) = false := by unfold bne; rw [e7]; rfl
   have e8 : ((str a.holder).toList == (str b.holder).toList) = true := by rw [zbr]; simpa using h8
   have n8 : ((str a.holder).toList != (str b.holder).toList) = false := by unfold bne; rw [e8]; rfl
   have e9 : ((str a.note).toList == (str b.note).toList) = false := by rw [zbr]; simpa using h9
   have n9 : ((str a.note).toList != (str b.note).toList) = true := by unfold bne; rw [e9]; rfl
   have hs : sameE a b = false := by unfold sameE; simp [h9]
   rw [e4] at HEQ
   rw [hs]
   clear hs h0 h1 h2 h3 h4 h5 h6 h7 h8 h9
   go_enter Tryz.func14, Tryz.ntmps14
   go_wp2_with (go_at_call 39; refine HEQ.out.mono ?_; rintro e w' ⟨rfl, q, rfl⟩)
   go_ret
   exact ⟨rfl, HB.out _⟩
 have e0 : ((a.k : Int) == (b.k : Int)) = true := by rw [beq_iff_eq]; omega
 have n0 : ((a.k : Int) != (b.k : Int)) = false := by unfold bne; rw [e0]; rfl
 have e1 : ((str a.who).toList == (str b.who).toList) = true := by rw [zbr]; simpa using h1
 have n1 : ((str a.who).toList != (str b.who).toList) = false := by unfold bne; rw [e1]; rfl
 have e2 : ((str a.name).toList == (str b.name).toList) = true := by rw [zbr]; simpa using h2
 have n2 : ((str a.name).toList != (str b.name).toList) = false := by unfold bne; rw [e2]; rfl
 have e3 : ((str a.ver).toList == (str b.ver).toList) = true := by rw [zbr]; simpa using h3
 have n3 : ((str a.ver).toList != (str b.ver).toList) = false := by unfold bne; rw [e3]; rfl
 have e4 : decide (a.needs = b.needs) = true := by simpa using h4
 have e5 : ((a.sum : Int) == (b.sum : Int)) = true := by rw [beq_iff_eq]; omega
 have n5 : ((a.sum : Int) != (b.sum : Int)) = false := by unfold bne; rw [e5]; rfl
 have e6 : ((a.n : Int) == (b.n : Int)) = true := by rw [beq_iff_eq]; omega
 have n6 : ((a.n : Int) != (b.n : Int)) = false := by unfold bne; rw [e6]; rfl
 have e7 : ((a.size : Int) == (b.size : Int)) = true := by rw [beq_iff_eq]; omega
 have n7 : ((a.size : Int) != (b.size : Int)) = false := by unfold bne; rw [e7]; rfl
 have e8 : ((str a.holder).toList == (str b.holder).toList) = true := by rw [zbr]; simpa using h8
 have n8 : ((str a.holder).toList != (str b.holder).toList) = false := by unfold bne; rw [e8]; rfl
 have e9 : ((str a.note).toList == (str b.note).toList) = true := by rw [zbr]; simpa using h9
 have n9 : ((str a.note).toList != (str b.note).toList) = false := by unfold bne; rw [e9]; rfl
 have hs : sameE a b = true := by unfold sameE; simp [h0, h1, h2, h3, h4, h5, h6, h7, h8, h9]
 rw [e4] at HEQ
 rw [hs]
 clear hs h0 h1 h2 h3 h4 h5 h6 h7 h8 h9
 go_enter Tryz.func14, Tryz.ntmps14
 go_wp2_with (go_at_call 39; refine HEQ.out.mono ?_; rintro e w' ⟨rfl, q, rfl⟩)
 go_ret
 exact ⟨rfl, HB.out _⟩
end EvC
end
section
open Go.RowKit
namespace EvC
open EvA StrC AppC
theorem zox : ∀ (L : List (B × B)) (i j : Nat), i < L.length → j < 2 → (L.flatMap needL)[i * 2 + j]? = some ((needL L[i]!)[j]!)
 | [], _, _, h, _ => absurd h (by simp)
 | x :: L, 0, j, _, hj => by
   have : j = 0 ∨ j = 1 := by omega
   rcases this with rfl | rfl <;> rfl
 | x :: L, i + 1, j, h, hj => by
   have ih := zox L i j (by simpa using h) hj
   show (needL x ++ L.flatMap needL)[(i + 1) * 2 + j]? = _
   rw [List.getElem?_append_right (by simp; omega)]
   have : (i + 1) * 2 + j - (needL x).length = i * 2 + j := by simp; omega
   rw [this, ih]
   rfl
theorem zoy {w : World} {N : Nat} {v : Value} {L : List (B × B)} (h : w.ownsRow N 63 2 v L.length (L.flatMap needL)) (hf : L.length * 32 ≤ 140737488351232) (hs : ∀ x ∈ L, x.1.length ≤ 140737488351232 ∧ x.2.length ≤ 140737488351232) :
 ∃ a c, v = .slice a L.length c ∧ NeIn w a c L := by
 have h' := h
 obtain ⟨_, ⟨rfl, h0⟩ | ⟨g, cp, cur, rfl, hg0, hblk, hle, _⟩⟩ := h'
 · have : L = [] := List.length_eq_zero_iff.1 h0
   subst this
   exact ⟨none, 0, rfl, NeIn.no w⟩
 · refine ⟨_, cp, rfl, hle, hf, hs, fun h0 => ⟨g, 0, rfl, fun i hi j hj => ?_⟩⟩
   rw [Nat.zero_add, h.cellAt (i * 2 + j) (by omega), zox L i j hi hj]
theorem zoz {w w' : World} {a : Option Addr} {c : Nat} {L : List (B × B)} (h : NeIn w a c L) (g : ∀ b o, a = some ⟨b, o, none⟩ → w'.heap[b]? = w.heap[b]?) : NeIn w' a c L :=
 ⟨h.le, h.few, h.short, fun h0 => by
  obtain ⟨b, o, e, hc⟩ := h.cells h0
  exact ⟨b, o, e, fun i hi j hj => by rw [World.cell?_of_block (a := ⟨b, o + i * 2 + j, none⟩) (g b o e)]; exact hc i hi j hj⟩⟩
theorem zpa : (Tryz.prog.info? 27).map (·.size) = some 10 := by kernel_rfl
theorem zpb (e : EvG) : ((evL e).toArray.all (·.oneCell')) = true := by simp [Value.oneCell']
theorem zpc {w : World} {g : Nat} {cs : Array Value} {t : TypeId} {fr : Nat × Nat} (h : w.heap[g]? = some (.cells cs t fr)) (i : Nat) (v : Value) : (w.setCell ⟨g, i, none⟩ v).heap[g]? = some (.cells (cs.setIfInBounds i v) t fr) := by
 unfold World.setCell
 simp [Array.getElem?_modify, h]
theorem zpd {w : World} {g k : Nat} (i : Nat) (v : Value) (h : k ≠ g) : (w.setCell ⟨g, i, none⟩ v).heap[k]? = w.heap[k]? := Below.heap_setCell w ⟨g, i, none⟩ v k h
theorem zpe {w : World} {g : Nat} {cs : Array Value} {t : TypeId} (h : w.heap[g]? = some (.cells cs t (0, 0))) (i : Nat) : w.frozen? ⟨g, i, none⟩ = false := by simp [World.frozen?, h]
def atE (e : EvG) (a : Option Addr) (c : Nat) : EvG := ⟨e.k, e.who, e.name, e.ver, a, c, e.needs, e.sum, e.n, e.size, e.holder, e.note⟩
end EvC
end
end Go.Proofs.YtfbegbmjmhnplaaGreatDoor
