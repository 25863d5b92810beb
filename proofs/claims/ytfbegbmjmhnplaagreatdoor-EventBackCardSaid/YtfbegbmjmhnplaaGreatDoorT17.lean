/-
  What the proof of EvBoth stands on, part 17.
-/
import Derived.Test.YtfbegbmjmhnplaaGreatDoorT15
set_option linter.unusedSimpArgs false
set_option linter.unusedVariables false
set_option maxHeartbeats 16000000
namespace Go.Proofs.YtfbegbmjmhnplaaGreatDoor
open Go.Lib (hid)
section
open Go.RowKit Go.Shelf
namespace RoundD
variable {F : Fence} {n : Nat} {P : Program} {ops : Array Oper} {md : Region.Mode} {C : World → Prop}
def zpp (o : Oper) : Bool := match o.op with | .defer _ => false | _ => true
theorem zpq {o : Oper} (h : zpp o = true) : ∀ c, o.op ≠ .defer c := fun c e => by
 unfold zpp at h
 rw [e] at h
 cases h
theorem zpr {o : Oper} {a : Act} {K : Act → Prop} {K' : Act → World → Prop} {Q' : Exit → Act → World → Prop} {w : World} (hro : zpp o = true) (hw : C w) (h : ∀ a w', C w' → K a → K' a w')
 (ha : o.askedIn F P a C) (hh : o.quietIn F n P a C K) : o.wpIn F n P a w K' Q' := by
 obtain ⟨v, h1, h2⟩ := hh
 have h3 := h1 w hw
 unfold Oper.quietAtIn at h3
 unfold Oper.wpIn
 refine ⟨ha w hw, ?_⟩
 rw [Oper.semAt_eq F.round a.eval o (zpq hro)]
 generalize (execOp a.eval o).run P w = r at *
 cases r with
 | ok x w' =>
   cases x <;> simp only [Oper.quietUponIn] at h3 <;> simp only [Oper.uponIn]
   case value u =>
    obtain ⟨e1, e2⟩ := h3
    rw [e1, e2]
    exact h _ _ hw h2
   case skip =>
    obtain ⟨e1, e2⟩ := h3
    rw [e1, ← e2]
    exact h _ _ hw h2
   case enter f args =>
    obtain ⟨e1, hd, hc⟩ := h3
    rw [e1]
    exact ⟨hd, hc.mono fun e w'' ⟨he, hw''⟩ => by subst he; exact h _ _ hw'' h2⟩
 | halt x w' => simp only [Oper.quietUponIn] at h3
theorem zps {i : Nat} {a : Act} {K : Act → Prop} {K' : Act → World → Prop} {Q' : Exit → Act → World → Prop} {w : World} (hro : ∀ o, ops[i]? = some o → zpp o = true) (hC : C w) (h : ∀ a w', C w' → K a → K' a w')
 (hh : qOpIn F n P ops C i K a) : wpOpIn F n P ops Q' i K' a w := by
 unfold qOpIn at hh
 unfold wpOpIn
 split
 · rename_i ho
   simp only [ho] at hh
   exact h _ _ hC hh
 · rename_i o ho
   simp only [ho] at hh
   obtain ⟨ha, hh⟩ := hh
   split
   · rename_i hw; simp only [hw, if_true] at hh; exact zpr (hro o ho) hC h ha hh
   · rename_i hw; simp only [hw] at hh; exact ⟨ha w hC, h _ _ hC hh⟩
theorem zpt {Q : Act → Prop} {Q' : Exit → Act → World → Prop} (hro : ∀ (i : Nat) (o : Oper), ops[i]? = some o → zpp o = true) (hQ : ∀ a w, C w → Q a → Q' .normal a w) : ∀ (fuel : Nat) (listed : Array Bool) (a : Act) (w : World), C w →
 wpAnyQIn F n P md ops C Q fuel listed a → wpAnyIn F n P md ops Q' fuel listed a w
 | 0, _, _, _, hw, h => ⟨h.1, hQ _ _ hw h.2⟩
 | fuel + 1, _, _, _, hw, h => ⟨fun h0 => hQ _ _ hw (h.1 h0), fun i hi => zps (hro i) hw (fun a' w' hw' => zpt hro hQ fuel _ a' w' hw') (h.2 i hi)⟩
theorem zpu {id : Nat} {Q : Exit → Act → World → Prop} {a : Act} {w : World} {l : List Oper} (hro : l.all zpp = true) (hm : P.follows .mixedOrders = true) (hB : Region.lexB .any l.toArray = true)
 (h : wpQuietIn F n P l.toArray (fun w' => ∃ n, w' = w.drewN n) (fun a' => ∀ w', (∃ n, w' = w.drewN n) → Q .normal a' w') l a) : (Code.region id l.toArray true).wpIn F n P Q a w := by
 simp only [Region.lexB, Bool.and_eq_true] at hB
 have hnd : ∀ (i : Nat) o, l.toArray[i]? = some o → zpp o = true := fun i o ho => List.all_eq_true.1 hro o (by
  rw [List.getElem?_toArray] at ho
  exact List.mem_of_getElem? ho)
 refine wpIn_region_any hm (zpt (C := fun w' => ∃ n, w' = w.drewN n) (Q := fun a' => ∀ w', (∃ n, w' = w.drewN n) → Q .normal a' w') hnd (fun _ w' hw' h => h w' hw') _ _ _ _ ⟨1, rfl⟩ ?_)
 have := wpAnyQIn_lex (F := F) (n := n) (C := fun w' => ∃ n, w' = w.drewN n) (md := .any) hB.1 l 0 (Array.replicate l.toArray.size false) a (by simp) (by simpa using hB.2) h
 simpa using this
end RoundD
namespace EvL
open StrC EvA SpanC
attribute [local go_sem] Oper.semAt_some
def encC (g m k : Nat) : Array Value := #[.slice (some ⟨g, 2 * k, none⟩) (min 2 (m - 2 * k)) (min 2 (m - 2 * k))]
def zpv (a b : Nat) : Value := .func (.func 162) #[] #[.pointer (some ⟨a, 0, none⟩), .pointer (some ⟨b, 0, none⟩)]
def zpw (v : Value) (w : World) : World := (w.alloc (.cells #[v] 108)).alloc (.cells #[.int .i64 2] 3)
theorem zpx (v : Value) (w : World) : (zpw v w).heap.size = w.heap.size + 2 ∧ (zpw v w).cell? ⟨w.heap.size, 0, none⟩ = some v ∧ (zpw v w).cell? ⟨w.heap.size + 1, 0, none⟩ = some (.int .i64 2) ∧ Below w.heap.size w (zpw v w) := by
 unfold zpw
 refine ⟨by simp, ?_, ?_, ((Below.refl _ w).alloc (Nat.le_refl _) _).alloc (by simp) _⟩
 · rw [World.cell?_alloc_lt _ _ _ (by simp), World.cell?_alloc_at _ _ _ _ rfl]; rfl
 · rw [World.cell?_alloc_at _ _ _ _ (by simp)]; rfl
theorem zpy (a : Option Addr) (m c : Nat) (w : World) :
 Calls Tryz.prog 127 #[.slice a m c, .int .i64 2] w fun e w' => e = .returned (zpv w.heap.size (w.heap.size + 1)) ∧ w' = zpw (.slice a m c) w := by
 unfold zpv zpw
 go_enter Tryz.func127, Tryz.ntmps127
 go_wp2_with fail
 go_ret
 exact ⟨rfl, rfl⟩
theorem slB1 (g m c i : Nat) (hi : i < m) (hm : m ≤ c) (W : World) : (Instr.slice 108 (.slice (some ⟨g, 0, none⟩) m c) (some (.int .i64 (i : Int))) none none).run Tryz.prog W = .ok (.slice (some ⟨g, i, none⟩) (m - i) (c - i)) W := by
 have ht : Tryz.prog.underlying 108 = some (.slice (Tryz.prog.elem 108)) := by kernel_rfl
 have hz : ∀ w, (Go.sizeOf (Tryz.prog.elem 108)).run Tryz.prog w = .ok 1 w := by intro w; kernel_rfl
 rw [run_slice_l W _ _ _ _ ht .i64 _ (by omega) (by omega), hz]
 have hne : ¬ c = i := by omega
 by_cases h0 : i = 0
 · subst h0; simp [Result.andThen, sliced, Addr.add, hne]
 · simp [Result.andThen, sliced, Addr.add, hne, h0]
theorem slB3 (g m c i e : Nat) (he : 0 < e) (hi : i + e ≤ m) (hm : m ≤ c) (W : World) : (Instr.slice 108 (.slice (some ⟨g, 0, none⟩) m c) (some (.int .i64 (i : Int))) (some (.int .i64 ((i : Int) + (e : Int)))) (some (.int .i64 ((i : Int) + (e : Int))))).run Tryz.prog W = .ok (.slice (some ⟨g, i, none⟩) e e) W := by
 have ht : Tryz.prog.underlying 108 = some (.slice (Tryz.prog.elem 108)) := by kernel_rfl
 have hz : ∀ w, (Go.sizeOf (Tryz.prog.elem 108)).run Tryz.prog w = .ok 1 w := by intro w; kernel_rfl
 rw [run_slice_lhm W _ _ _ _ ht .i64 .i64 .i64 _ _ _ (by omega) (by omega) (by omega) (by omega), hz]
 have hne : ¬ i + e = i := by omega
 have e1 : ((i : Int) + (e : Int)).toNat = i + e := by omega
 by_cases h0 : i = 0
 · subst h0; simp [Result.andThen, sliced, Addr.add, e1]
   try omega
 · simp [Result.andThen, sliced, Addr.add, h0, e1]
   try omega
set_option maxRecDepth 100000 in
theorem zpz (n : Nat) (hn : 3 ≤ n) (l bs bn g m c K : Nat) (hm : m ≤ 512) (hmc : m ≤ c) (hK : K = (m + 1) / 2) (J Jx : List Nat → World → Prop) (Kp : World → World → Prop) (hKt : ∀ {A B C : World}, Kp A B → Kp B C → Kp A C) (hKd : ∀ A m, Kp A (A.drewN m))
 (hJd : ∀ pre W m, J pre W → J pre (W.drewN m))
 (hY : ∀ pre x W, J pre W → pre.length < K → YieldAt Fence.wide (n - 1) Tryz.prog l (encC g m x) W fun e W' =>
   (e = .returned (.bool true) ∧ J (pre ++ [x]) W' ∧ Kp W W') ∨ (e = .returned (.bool false) ∧ Jx (pre ++ [x]) W'))
 (W : World) (hbs : ∀ W', Kp W W' → W'.cell? ⟨bs, 0, none⟩ = some (.slice (some ⟨g, 0, none⟩) m c)) (hbn : ∀ W', Kp W W' → W'.cell? ⟨bn, 0, none⟩ = some (.int .i64 2)) (h0 : J [] W) :
 CallsIn Fence.wide n Tryz.prog 162 #[.func (.yield l) #[] #[], .pointer (some ⟨bs, 0, none⟩), .pointer (some ⟨bn, 0, none⟩)] W fun e W' => (∃ v, e = .returned v) ∧
  ((∃ ys, ys = List.range K ∧ J ys W') ∨ (∃ pre, (∃ k, k ≤ K ∧ pre = List.range k) ∧ Jx pre W')) := by
 have HJD := hid hJd
 have HBS := hid hbs
 have HBN := hid hbn
 have HKT : Hid (∀ A B C : World, Kp A B → Kp B C → Kp A C) := hid (fun A B C => @hKt A B C)
 have HKD := hid hKd
 have HK0 := hid (hKd W 0)
 clear hJd hbs hbn hKt hKd
 refine callsIn_of_wp Tryz.func162 rfl trivial ?_ rfl
 simp only [Tryz.ntmps162, List.size_toArray, List.length_cons, List.length_nil, Nat.reduceAdd, Nat.reduceSub, Array.replicate_succ, Array.replicate_zero, List.push_toArray, List.append_toArray, List.nil_append, List.cons_append]
 gi_wp2_with fail
 gi_loopw [4] (fun v4 wr => ∃ (k i : Nat), v4 = .int .i64 i ∧ Hid (J (List.range k) wr) ∧ Hid (Kp W wr) ∧ Hid (i = 2 * k ∧ k ≤ K)) (fun v4 _ => m + 2 - (intOf v4).toNat)
 case atStart => exact ⟨0, 0, rfl, hid h0, hid HK0.out, hid ⟨rfl, Nat.zero_le _⟩⟩
 case round =>
  obtain ⟨k, i, rfl, HJ, HB, HI⟩ := hrel
  rename World => wr
  have hbs := HBS.out wr HB.out
  have hbn := HBN.out wr HB.out
  by_cases hlt : i < m
  · have hdec : decide ((i : Int) < (m : Int)) = true := decide_eq_true (by omega)
    have hkK : k < K := by have := HI.out; omega
    have HX : Hid (i = 2 * k ∧ k < K) := hid ⟨HI.out.1, hkK⟩
    obtain ⟨e, he⟩ : ∃ e, e = min 2 (m - i) := ⟨_, rfl⟩
    have he0 : 0 < e := by omega
    have he2 : e ≤ 2 := by omega
    have hie : i + e ≤ m := by omega
    have s1 := fun W => slB1 g m c i hlt hmc W
    have s3 := fun W => slB3 g m c i e he0 hie hmc W
    have hmin : min (2 : Int) ((m - i : Nat) : Int) = (e : Int) := by omega
    have HTS := hid (@List.range_succ k)
    have HYY := hid fun q => hY _ k (wr.drewN q) (HJD.out _ _ q HJ.out) (by rw [List.length_range]; exact hkK)
    unfold encC at HYY
    rw [← HX.out.1, ← he] at HYY
    have HBQ := hid fun q => HKT.out _ _ _ HB.out (HKD.out wr q)
    have HBSq := hid fun q => HBS.out (wr.drewN q) (HBQ.out q)
    clear he HI hkK HJ
    gi_wp2_with fail
    refine RoundD.zpu (by kernel_rfl) (by kernel_rfl) (by kernel_rfl) ?_
    repeat (gi_big_quiet_step (fail))
    refine wpQuietIn_nil ?_
    rintro _ ⟨nq, rfl⟩
    obtain ⟨fn, tmps, assign, body, hy, hR⟩ := HYY.out nq
    have hbs2 := HBSq.out nq
    gi_wp2_with fail
    refine ⟨fun h => Bool.noConfusion h, hR.mono ?_⟩
    rintro e W3 (⟨rfl, hJ3, hk3⟩ | ⟨rfl, hJx3⟩)
    · have hbn3 := HBN.out W3 (HKT.out _ _ _ (HBQ.out nq) hk3)
      have HJ3 := hid hJ3
      have HK3 := hid (HKT.out _ _ _ (HBQ.out nq) hk3)
      clear hJ3 hk3
      gi_wp2_with fail
      go_roundw
      case rel => exact ⟨k + 1, i + 2, by go_num, hid (by rw [HTS.out]; exact HJ3.out), HK3, hid (by have := HX.out; omega)⟩
      case measure => simp [intOf]; omega
    · gi_wp2_with fail
      refine bodyPost_ret (results_none rfl _ _ _) rfl ?_
      exact ⟨⟨_, rfl⟩, .inr ⟨_, ⟨k + 1, HX.out.2, HTS.out.symm⟩, hJx3⟩⟩
  · have hkl : Hid (k = K) := hid (by have := HI.out; omega)
    have hdec : decide ((i : Int) < (m : Int)) = false := decide_eq_false (by omega)
    gi_wp2_with fail
    go_end0
    exact ⟨⟨_, rfl⟩, .inl ⟨_, by rw [← hkl.out], HJ.out⟩⟩
theorem zqa (n : Nat) (hn : 3 ≤ n) (bs bn gT n₀ g m c K : Nat) {w0 : World} (hm : m ≤ 512) (hmc : m ≤ c) (hK : K = (m + 1) / 2) (hn₀ : n₀ ≤ w0.heap.size)
 (hbs : w0.cell? ⟨bs, 0, none⟩ = some (.slice (some ⟨g, 0, none⟩) m c)) (hbn : w0.cell? ⟨bn, 0, none⟩ = some (.int .i64 2)) (h1 : bs < n₀) (h2 : bs ≠ gT) (h3 : bn < n₀) (h4 : bn ≠ gT) :
 SeqStopsK Fence.wide n Tryz.prog 162 #[.pointer (some ⟨bs, 0, none⟩), .pointer (some ⟨bn, 0, none⟩)] (encC g m) (Bx gT n₀) (fun ys => ys = List.range K) (fun pre => ∃ k, k ≤ K ∧ pre = List.range k) K w0 := by
 intro l J Jx W hW hJ hJx hY h0
 have hW2 : Bx gT n₀ w0 W := Bx.of_below (hW.mono hn₀)
 exact zpz n hn l bs bn g m c K hm hmc hK J Jx (Bx gT n₀) (fun h k => h.trans k) (fun A m => (Bx.refl gT n₀ A).drewN m) (fun pre W' m h => hJ pre W' _ none h (zko _ _ _) (fun r e => by cases e)) hY W
  (fun W' h => by rw [(hW2.trans h).cell h1 h2]; exact hbs) (fun W' h => by rw [(hW2.trans h).cell h3 h4]; exact hbn) h0
end EvL
end
section
open Go.RowKit
namespace CodeC
open CodeM
theorem zqb (l : List UInt8) : strOfNums (l.map fun c => (c.toNat : Int)) = ⟨l.toArray⟩ := by
 apply ByteArray.ext
 apply Array.toList_inj.1
 rw [strOfNums_data, List.map_map]
 show _ = l
 conv => rhs; rw [← List.map_id l]
 apply List.map_congr_left
 intro c _
 simp
theorem shift8 (x k : Nat) : x / 2 ^ (8 * k) = x / 256 ^ k := by rw [Nat.pow_mul]
theorem zqc (x k : Nat) : ((x : Int) / 2 ^ (8 * k) % 256) = ((x / 256 ^ k % 256 : Nat) : Int) := by
 rw [← shift8]; simp
end CodeC
end
section
open Go.RowKit
namespace CodeC
open CodeM
theorem info_u8 : (Tryz.prog.info? 5).map (fun i => (i.zero, i.size, i.bytes)) = some (some (.int .u8 0), 1, 1) := by kernel_rfl
theorem zqd (w : World) (v : Value) (t : TypeId) : ∀ j u, [v][j]? = some u → (w.alloc (.cells #[v] t)).cell? ((⟨w.heap.size, 0, none⟩ : Addr).add j) = some u := by
 intro j u hu
 match j with
 | 0 =>
   rw [Go.WideShapes.add_plain, World.cell?_alloc_at _ _ _ _ rfl]
   simpa using hu
 | j + 1 => simp at hu
theorem zqe (n : Int) : ∀ u ∈ [Value.int .u8 n], u.oneCell' = true := by
 intro u hu
 rw [List.mem_singleton] at hu
 subst hu
 rfl
theorem zqf {w : World} {B n : Nat} {v : Value} {l : List UInt8} (h : w.ownsRow B 5 1 v n (l.map byteV)) (hn : 0 < n) :
 (convert 108 9 v).run Tryz.prog w = .ok (.string ⟨l.toArray⟩) w := by
 have hcs : ∀ g, v.ownBlock = some g → _ := fun g hg => h.cells hg
 have hl : l.length = n := by have := h.1; simpa using this
 obtain ⟨_, ⟨rfl, h0⟩ | ⟨g, cp, cur, rfl, hg0, hblk, hle, hcm, hsz, htk⟩⟩ := h
 · omega
 · have e := run_convert_bytes_arg (P := Tryz.prog) w 108 5 Tryz.underlying108 Tryz.underlying5 g 0 n cp (l.map fun c => (c.toNat : Int)) (by simp [hl]) (fun i hi => by
    have := hcs g rfl i (.int .u8 ((l.map fun c => (c.toNat : Int)).getD i 0)) (by
     have hi' : i < l.length := by omega
     simp [hi', byteV])
    rw [Go.WideShapes.add_plain] at this
    exact this) 9 Tryz.underlying9
   rw [e, zqb]
theorem zqg {w : World} {B n : Nat} {v : Value} {l : List UInt8} {m : Nat} {x : Int} (h : w.ownsRow B 5 1 v (n + 1) (l.map byteV ++ [Value.int .u8 x])) (hx : x = (m : Int)) (hm : m < 256) :
 w.ownsRow B 5 1 v (n + 1) ((l ++ [UInt8.ofNat m]).map byteV) := by
 subst hx
 rw [List.map_append, List.map_singleton, zmi m hm]
 exact h
theorem zqh : ∀ (n x : Nat), x < 128 ^ n → 0 < n → (uintB x).length ≤ n
 | 0, _, _, h => absurd h (by omega)
 | 1, x, h, _ => by rw [zmh x (by omega)]; simp
 | n + 2, x, h, _ => by
   by_cases hb : 127 < x
   · rw [zmg x hb]
     have : x / 128 < 128 ^ (n + 1) := by
      rw [Nat.div_lt_iff_lt_mul (by decide), ← Nat.pow_succ]
      exact h
     have := zqh (n + 1) (x / 128) this (by omega)
     simp; omega
   · rw [zmh x hb]; simp
theorem zqi (x : Nat) (h : x < 18446744073709551616) : (uintB x).length ≤ 10 := by
 have h3 : (128 : Nat) ^ 10 = 1180591620717411303424 := by decide
 exact zqh 10 x (by omega) (by omega)
end CodeC
end
end Go.Proofs.YtfbegbmjmhnplaaGreatDoor
