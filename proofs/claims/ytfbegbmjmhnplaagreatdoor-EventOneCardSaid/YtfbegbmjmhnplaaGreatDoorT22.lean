/-
  What the proof of EvBoth stands on, part 22.
-/
import Derived.Test.YtfbegbmjmhnplaaGreatDoorT20
import Derived.Test.YtfbegbmjmhnplaaGreatDoorT21
set_option linter.unusedSimpArgs false
set_option linter.unusedVariables false
set_option maxHeartbeats 16000000
namespace Go.Proofs.YtfbegbmjmhnplaaGreatDoor
open Go.Lib (hid)
section
open Go.RowKit Go.Sort
namespace EvA
open StrC EvF EvC TextR CodeM CodeC
structure EvSm (e : EvG) : Prop where
 who : e.who.length ≤ 1000
 name : e.name.length ≤ 1000
 ver : e.ver.length ≤ 1000
 holder : e.holder.length ≤ 1000
 note : e.note.length ≤ 1000
 few : e.needs.length ≤ 64
 need : ∀ p ∈ e.needs, p.1.length ≤ 1000 ∧ p.2.length ≤ 1000
 sum : e.sum < 18446744073709551616
 n : e.n < 4294967296
 size : e.size < 4294967296
def WrS (w : World) (F : FuncId) (f : B → B) : Prop := ∀ (s : B), s.length ≤ 1000 → ∀ W, Below w.heap.size w W → Calls Tryz.prog F #[.string (str s)] W fun e w' => e = .returned (.string (str (f s))) ∧ Below W.heap.size W w'
def WrN (w : World) (F : FuncId) (f : Nat → B) : Prop := ∀ (x : Nat), x < 18446744073709551616 → ∀ W, Below w.heap.size w W → Calls Tryz.prog F #[.int .u64 x] W fun e w' => e = .returned (.string (str (f x))) ∧ Below W.heap.size W w'
def Ent (F : FuncId) : Prop := ∀ (args : Array Value) (w : World), Sem.run Tryz.prog (callFunc F args) w = .ok (.enter F args) w
abbrev wrL (FK FT FS FO FU FN : FuncId) : List Value := [.func (.func FK) #[] #[], .func (.func FT) #[] #[], .func (.func FS) #[] #[], .func (.func FO) #[] #[], .func (.func FU) #[] #[], .func (.func FN) #[] #[]]
abbrev needO (x : B × B) : Obj := .cells (needL x).toArray 63
theorem zsz {w : World} {p : Nat} {x : B × B} (h : w.heap[p]? = some (needO x)) : w.cell? ⟨p, 0, none⟩ = some (.string (str x.1)) ∧ w.cell? ⟨p, 1, none⟩ = some (.string (str x.2)) := by
 constructor <;> simp [World.cell?, h]
theorem zta {w : World} {p : Nat} {FK FT FS FO FU FN : FuncId} (h : w.heap[p]? = some (wrO (wrL FK FT FS FO FU FN))) : w.cell? ⟨p, 0, none⟩ = some (.func (.func FK) #[] #[]) ∧ w.cell? ⟨p, 1, none⟩ = some (.func (.func FT) #[] #[]) ∧ w.cell? ⟨p, 2, none⟩ = some (.func (.func FS) #[] #[]) ∧
 w.cell? ⟨p, 3, none⟩ = some (.func (.func FO) #[] #[]) ∧ w.cell? ⟨p, 4, none⟩ = some (.func (.func FU) #[] #[]) ∧ w.cell? ⟨p, 5, none⟩ = some (.func (.func FN) #[] #[]) := by
 refine ⟨?_, ?_, ?_, ?_, ?_, ?_⟩ <;> simp [World.cell?, h]
theorem ztb (a b : ByteArray) : ∀ u ∈ [Value.string a, Value.string b], u.oneCell' = true := by
 intro u hu
 simp only [List.mem_cons, List.not_mem_nil, or_false] at hu
 rcases hu with rfl | rfl <;> rfl
theorem ztc (L : List ByteArray) : ∀ u ∈ L.map Value.string, u.oneCell' = true := by
 intro u hu
 obtain ⟨x, -, rfl⟩ := List.mem_map.1 hu
 rfl
theorem ztd (w : World) (l : List Value) (t : TypeId) : ∀ j u, l[j]? = some u → (w.alloc (.cells l.toArray t)).cell? ((⟨w.heap.size, 0, none⟩ : Addr).add j) = some u := by
 intro j u hu
 rw [Go.WideShapes.add_plain, Nat.zero_add]
 simp only [World.cell?, heap_alloc_new]
 simpa using hu
theorem own_two {w : World} {D : Nat} {v : Value} {L : List ByteArray} {n : Nat} {a b : ByteArray} (h : w.ownsRow D 9 1 v (n + 2) (L.map Value.string ++ [.string a, .string b])) (hn : n = L.length) : OwnT w D v (L ++ [a, b]) := by
 subst hn
 unfold OwnT
 rw [List.length_append, List.map_append]
 exact h
theorem own_le {w : World} {A D : Nat} {v : Value} {L : List ByteArray} (h : OwnT w A v L) (hd : D ≤ A) : OwnT w D v L := by
 obtain ⟨h1, h2 | ⟨g, cap, cur, rfl, h3, h4, h5⟩⟩ := h
 · exact ⟨h1, .inl h2⟩
 · exact ⟨h1, .inr ⟨g, cap, cur, rfl, Nat.le_trans hd h3, h4, h5⟩⟩
def needG (tx sx : B → B) (nx : Nat → B) (L : List (B × B)) : List B := nx L.length :: L.flatMap (fun p => [tx p.1, sx p.2])
theorem zte (tx sx : B → B) (L : List (B × B)) : (L.flatMap (fun p => [tx p.1, sx p.2])).length = 2 * L.length := by
 induction L with
 | nil => rfl
 | cons p r ih => rw [List.flatMap_cons, List.length_append, ih]; simp; omega
theorem ztf (tx sx : B → B) (L : List (B × B)) (j : Nat) (p : B × B) (h : L[j]? = some p) : (L.take (j + 1)).flatMap (fun p => [tx p.1, sx p.2]) = (L.take j).flatMap (fun p => [tx p.1, sx p.2]) ++ [tx p.1, sx p.2] := by
 rw [List.take_add_one, h, List.flatMap_append]
 simp
set_option maxRecDepth 100000 in
theorem ztg (FK FT FS FO FU FN : FuncId) (tx sx : B → B) (nx : Nat → B) (a : Option Addr) (c : Nat) (L : List (B × B)) (w : World) (hN : NeIn w a c L) (hl : L.length ≤ 64) (hs : ∀ p ∈ L, p.1.length ≤ 1000 ∧ p.2.length ≤ 1000)
 (hT : WrS w FT tx) (hS : WrS w FS sx) (hX : WrN w FN nx) (eT : Ent FT) (eS : Ent FS) (eN : Ent FN) :
 Calls Tryz.prog 73 #[.agg (wrL FK FT FS FO FU FN).toArray, .slice a L.length c] w fun e w' => ∃ v P, e = .returned v ∧ P = (needG tx sx nx L).map str ∧ OwnT w' w.heap.size v P ∧ Below w.heap.size w w' := by
 obtain ⟨i0, hi, hz0, hz1, hz2⟩ := info_parts info_text
 have hB0 : Below w.heap.size w (w.alloc (wrO (wrL FK FT FS FO FU FN))) := alW w _
 have hr := heap_alloc_new w (wrO (wrL FK FT FS FO FU FN))
 have hs0 : (w.alloc (wrO (wrL FK FT FS FO FU FN))).heap.size = w.heap.size + 1 := by simp
 have HN := hid hN
 have HS := hid hs
 have HT := hid hT
 have HSP := hid hS
 have HC : Hid (∀ W, Below (w.heap.size + 1) (w.alloc (wrO (wrL FK FT FS FO FU FN))) W → W.heap[w.heap.size]? = some (wrO (wrL FK FT FS FO FU FN))) := hid (fun W hb => (hb.block _ (by omega)).trans hr)
 have HX := hid (hX L.length (by omega) _ hB0)
 have hcv : IntKind.u64.wrap (L.length : Int) = L.length := by rw [IntWalk.u64_in _ ⟨by omega, by omega⟩]
 have HB0 := hid hB0
 have HS0 := hid hs0
 obtain ⟨c0, c1, c2, c3, c4, c5⟩ := zta hr
 clear hN hs hT hS hX hB0 hr hs0
 unfold Ent at eT eS eN
 go_enter Tryz.func73, Tryz.ntmps73
 go_wp2_with fail
 refine HX.out.mono ?_
 rintro e1 w1 ⟨rfl, hb1⟩
 have HB1 : Hid (Below (w.heap.size + 1) (w.alloc (wrO (wrL FK FT FS FO FU FN))) w1) := hid (hb1.mono (Nat.le_of_eq HS0.out.symm))
 have HL1 : Hid (w.heap.size + 1 ≤ w1.heap.size) := hid (Nat.le_trans (Nat.le_of_eq HS0.out.symm) HB1.out.size)
 have HI0 : Hid (OwnT (w1.alloc (.cells #[.string (str (nx L.length))] 9)) (w.heap.size + 1) (.slice (some ⟨w1.heap.size, 0, none⟩) 1 1) [str (nx L.length)]) := hid (zsl w1 (str (nx L.length)) (w.heap.size + 1) (by have := HL1.out; omega))
 have HW0 : Hid (Below (w.heap.size + 1) (w.alloc (wrO (wrL FK FT FS FO FU FN))) (w1.alloc (.cells #[.string (str (nx L.length))] 9))) := hid (HB1.out.trans ((alW w1 _).mono HL1.out))
 clear hb1 c0 c1 c2 c3 c4 c5 HX
 go_wp2_with fail
 go_loopw [5, 7, 17] (fun vp _ i wr => ∃ (j : Nat) (P : List ByteArray), i = .int .i64 j ∧ j ≤ L.length ∧ P.length = 2 * j + 1 ∧ Hid (P = (nx L.length :: (L.take j).flatMap (fun p => [tx p.1, sx p.2])).map str) ∧ Hid (OwnT wr (w.heap.size + 1) vp P) ∧ Hid (Below (w.heap.size + 1) (w.alloc (wrO (wrL FK FT FS FO FU FN))) wr)) (fun _ _ i _ => L.length - (intOf i).toNat)
 case atStart => exact ⟨0, [str (nx L.length)], rfl, Nat.zero_le _, rfl, hid rfl, HI0, HW0⟩
 case round =>
  obtain ⟨j, P, rfl, hj, hPl, HP, HO, HW⟩ := hrel
  rename World => wr
  have HWW : Hid (Below w.heap.size w wr) := hid (HB0.out.trans (HW.out.mono (by omega)))
  have HLR : Hid (w.heap.size + 1 ≤ wr.heap.size) := hid (Nat.le_trans (Nat.le_of_eq HS0.out.symm) HW.out.size)
  by_cases hlt : j < L.length
  · have hdec : decide (j < L.length) = true := by simpa using hlt
    obtain ⟨g, o, p, hp, hx, rfl, k0, k1⟩ := (HN.out.gr HWW.out).at j hlt
    have HPN := hid (ztf tx sx L j p hx)
    obtain ⟨p1, p2⟩ := HS.out p hp
    have hnx := heap_alloc_new wr (needO p)
    have hgx : wr.heap.size < (wr.alloc (needO p)).heap.size := by simp
    have hgw : w.heap.size < (wr.alloc (needO p)).heap.size := by have := HLR.out; simp; omega
    have HBA : Hid (Below (w.heap.size + 1) (w.alloc (wrO (wrL FK FT FS FO FU FN))) (wr.alloc (needO p))) := hid (HW.out.trans ((alW wr _).mono HLR.out))
    obtain ⟨q0, q1⟩ := zsz hnx
    obtain ⟨-, c1, c2, -, -, -⟩ := zta (HC.out _ HBA.out)
    have HWA : Hid (∀ W, Below (wr.alloc (needO p)).heap.size (wr.alloc (needO p)) W → Below w.heap.size w W) := hid (fun W h => (HWW.out.trans ((alW wr (needO p)).mono HWW.out.size)).trans (h.mono (by have := HLR.out; simp; omega)))
    have HT1 : Hid (∀ W, Below (wr.alloc (needO p)).heap.size (wr.alloc (needO p)) W → Calls Tryz.prog FT #[.string (str p.1)] W fun e w' => e = .returned (.string (str (tx p.1))) ∧ Below W.heap.size W w') := hid (fun W h => HT.out p.1 p1 W (HWA.out W h))
    have HT2 : Hid (∀ W, Below (wr.alloc (needO p)).heap.size (wr.alloc (needO p)) W → Calls Tryz.prog FS #[.string (str p.2)] W fun e w' => e = .returned (.string (str (sx p.2))) ∧ Below W.heap.size W w') := hid (fun W h => HSP.out p.2 p2 W (HWA.out W h))
    clear hp hx p1 p2
    go_upto_region 6 with fail
    clear k0 k1
    have HAT : Hid (∀ b, u5.ownBlock = some b → w.heap.size + 1 ≤ b) := hid (fun b hb => (World.ownsRow.lt HO.out b hb).1)
    have HOA : Hid (∀ W, Below (wr.alloc (needO p)).heap.size (wr.alloc (needO p)) W → OwnT W (w.heap.size + 1) u5 P) := hid (fun W h => zsm (zsm HO.out (alW wr (needO p))) h)
    have hOL : Hid (∀ b, u5.ownBlock = some b → b < wr.heap.size) := hid (fun b hb => (World.ownsRow.lt HO.out b hb).2)
    generalize hw1 : wr.alloc (needO p) = w2 at *
    have HD1 : Hid (Below w2.heap.size w2 w2.drew) := hid (Below.refl w2.heap.size w2).drew
    have HKS : Hid (∀ w', Below w2.heap.size w2 w' → w'.cell? ⟨w.heap.size, 1, none⟩ = some (.func (.func FT) #[] #[]) ∧ w'.cell? ⟨w.heap.size, 2, none⟩ = some (.func (.func FS) #[] #[]) ∧ w'.cell? ⟨wr.heap.size, 0, none⟩ = some (.string (str p.1)) ∧ w'.cell? ⟨wr.heap.size, 1, none⟩ = some (.string (str p.2))) := hid (fun w' h => ⟨(h.cell hgw).trans c1, (h.cell hgw).trans c2, (h.cell hgx).trans q0, (h.cell hgx).trans q1⟩)
    have HKS4 : Hid (∀ w3 w5 o, Below w2.heap.size w2 w3 → (World.alloc w3 o).grownBy w5 u5.ownBlock → w5.cell? ⟨w.heap.size, 1, none⟩ = some (.func (.func FT) #[] #[]) ∧ w5.cell? ⟨w.heap.size, 2, none⟩ = some (.func (.func FS) #[] #[]) ∧ w5.cell? ⟨wr.heap.size, 0, none⟩ = some (.string (str p.1)) ∧ w5.cell? ⟨wr.heap.size, 1, none⟩ = some (.string (str p.2))) := hid (fun w3 w5 o h hg => by
     have h3 := h.size
     have hb : ∀ b, b < w2.heap.size → u5.ownBlock ≠ some b → w5.heap[b]? = w3.heap[b]? := fun b hb hne => (hg.block _ (by simp; omega) (fun e => hne e.symm)).trans (Below.heap_alloc _ _ _ (by omega))
     have e1 := hb w.heap.size hgw (fun e => by have := HAT.out _ e; omega)
     have e2 := hb wr.heap.size hgx (fun e => by have := hOL.out _ e; omega)
     obtain ⟨k0, k1, k2, k3⟩ := HKS.out w3 h
     exact ⟨(World.cell?_of_block (a := ⟨w.heap.size, 1, none⟩) e1).trans k0, (World.cell?_of_block (a := ⟨w.heap.size, 2, none⟩) e1).trans k1, (World.cell?_of_block (a := ⟨wr.heap.size, 0, none⟩) e2).trans k2, (World.cell?_of_block (a := ⟨wr.heap.size, 1, none⟩) e2).trans k3⟩)
    have HLE : Hid (P.length + 2 ≤ maxLen) := hid (by unfold maxLen; omega)
    have HLB : Hid ((P.length + 2) * 16 ≤ 140737488355328) := hid (by omega)
    have HBASE : Hid (∀ w3 o, Below w2.heap.size w2 w3 → w.heap.size + 1 ≤ (World.alloc w3 o).heap.size) := hid (fun w3 o h => by have h1 := h.size; simp; omega)
    have HW2 : Hid (Below (w.heap.size + 1) (w.alloc (wrO (wrL FK FT FS FO FU FN))) w2) := HBA
    clear hw1 hnx HT HSP HBA
    go_region_held3 (fun w' => w'.cell? ⟨w.heap.size, 1, none⟩ = some (.func (.func FT) #[] #[]) ∧ w'.cell? ⟨w.heap.size, 2, none⟩ = some (.func (.func FS) #[] #[]) ∧ w'.cell? ⟨wr.heap.size, 0, none⟩ = some (.string (str p.1)) ∧ w'.cell? ⟨wr.heap.size, 1, none⟩ = some (.string (str p.2)))
     (first | exact ⟨c1, c2, q0, q1⟩ | assumption | exact HKS.out _ (HB4.out.alloc HB4.out.size _) | fail)
     (first
       | (with_reducible refine (HT1.out w2.drew HD1.out).mono ?_; rintro e w3 ⟨rfl, hb3⟩; have hS3 := HKS.out w3 (HD1.out.trans (hb3.mono HD1.out.size)); have HB3 : Hid (Below w2.heap.size w2 w3) := hid (HD1.out.trans (hb3.mono HD1.out.size)); clear hb3)
       | (with_reducible refine (HT2.out w3 HB3.out).mono ?_; rintro e w4 ⟨rfl, hb4⟩; have hS4 := HKS.out w4 (HB3.out.trans (hb4.mono HB3.out.size)); have HB4 : Hid (Below w2.heap.size w2 w4) := hid (HB3.out.trans (hb4.mono HB3.out.size)); clear hb4)
       | (refine AppC.step_append_own rfl _ _ _ (by rfl) (w.heap.size + 1) 9 i0 _ 1 16 Tryz.underlying52 hi hz0 hz1 hz2 rfl (by decide) u5 P.length (P.map Value.string) (by simp [Act.eval]) (zsm (HOA.out w4 HB4.out) (alW w4 _)) ⟨w4.heap.size, 0, none⟩ 2 2 [.string (str (tx p.1)), .string (str (sx p.2))] (by simp [Act.eval]) rfl (ztd w4 _ _) (ztb _ _) HLE.out HLB.out (HBASE.out w4 _ HB4.out) ?_
          intro v' w5 hown5 hg5
          have hS5 := HKS4.out w4 w5 _ HB4.out hg5
          have HX5 := hid (And.intro hown5 hg5)
          clear hown5 hg5)
       | fail)
    all_goals
     have HROW : Hid (OwnT w5 (w.heap.size + 1) v' (P ++ [str (tx p.1), str (sx p.2)])) := hid (own_two HX5.out.1 rfl)
     have HNX : Hid (P ++ [str (tx p.1), str (sx p.2)] = (nx L.length :: (L.take (j + 1)).flatMap (fun p => [tx p.1, sx p.2])).map str) := hid (by rw [HPN.out, HP.out]; simp)
     have HBW : Hid (Below (w.heap.size + 1) (w.alloc (wrO (wrL FK FT FS FO FU FN))) w5) := hid (by
      have h0 := HW2.out.trans (HB4.out.mono (by omega : w.heap.size + 1 ≤ w2.heap.size))
      exact (h0.trans ((alW w4 _).mono (by have := HB4.out.size; omega))).grown HX5.out.2 (by have := HB4.out.size; simp; omega) (fun b hb => HAT.out b hb))
     clear HX5
     go_wp2_with fail
     go_roundw
     case rel => exact ⟨j + 1, _, by go_num, hlt, by simp; omega, HNX, HROW, HBW⟩
     case measure => simp [intOf]; omega
  · have hje : j = L.length := by omega
    subst hje
    have hdec : decide (L.length < L.length) = false := by simp
    have HPE : Hid (P = (needG tx sx nx L).map str) := hid (by rw [HP.out, List.take_length]; rfl)
    go_wp2_with fail
    go_ret
    exact ⟨_, P, rfl, HPE.out, own_le HO.out (Nat.le_succ _), HWW.out⟩
theorem WrI.adds {w W0 w2 wr w' : World} {g : Nat} {v v' : Value} {L Q : List ByteArray} (h : WrI w W0 w2 g wr v L) (hg : g < w2.heap.size) (hW : w.heap.size + 2 ≤ W0.heap.size) (hown : w'.ownsRow w.heap.size 9 1 v' (L.length + Q.length) (L.map Value.string ++ Q.map Value.string))
 (hgr : wr.grownBy w' v.ownBlock) (hat : v'.ownBlock = v.ownBlock ∨ v'.ownBlock = some wr.heap.size) : WrI w W0 w2 g w' v' (L ++ Q) := by
 refine ⟨?_, h.low.grown hgr (Nat.le_trans hW h.low.size) (fun j hj => (h.at_ j hj).1), (hgr.block g (Nat.lt_of_lt_of_le hg h.size) (fun e => (h.at_ g e.symm).2 rfl)).trans h.fld, fun b hb => ?_, Nat.le_trans h.size hgr.size⟩
 · unfold OwnT
   rw [List.length_append, List.map_append]
   exact hown
 · rcases hat with e | e
   · exact h.at_ b (e.symm.trans hb)
   · rw [e] at hb
     cases hb
     exact ⟨Nat.le_trans hW h.low.size, by have := h.size; omega⟩
theorem parts_step {f : Int → List B} {L : List Int} {j : Nat} {c : B} {P Q : List ByteArray} {x : Int} (hP : P = (c :: (L.take j).flatMap f).map str) (hj : j < L.length) (hx : L.getD j 0 = x) (hQ : Q = (f x).map str) : P ++ Q = (c :: (L.take (j + 1)).flatMap f).map str := by
 have e : L[j]? = some x := by rw [← hx]; simp [hj]
 rw [List.take_add_one, e, hP, hQ]
 simp
set_option maxRecDepth 100000 in
theorem zth (FK FT FS FO FU FN : FuncId) (tx sx ox : B → B) (ux nx : Nat → B) (kx : B) (e : EvG) (L : List Int) (w : World) (hF : FdsK e.k L) (hfd : ∀ x ∈ L, 0 ≤ x ∧ x ≤ 9) (hl : L.length ≤ 10) (hl0 : 0 < L.length) (hsm : EvSm e) (hN : NeIn w e.na e.nc e.needs)
 (hK : ∀ W, Below w.heap.size w W → Calls Tryz.prog FK #[.int .u8 e.k] W fun e w' => e = .returned (.string (str kx)) ∧ Below W.heap.size W w')
 (hT : WrS w FT tx) (hS : WrS w FS sx) (hO : WrS w FO ox) (hU : WrN w FU ux) (hX : WrN w FN nx) (eK : Ent FK) (eT : Ent FT) (eS : Ent FS) (eO : Ent FO) (eU : Ent FU) (eN : Ent FN) :
 Calls Tryz.prog 29 #[.agg (wrL FK FT FS FO FU FN).toArray, evV e] w fun e' w' => ∃ v P, e' = .returned v ∧ P = (kx :: L.flatMap (partG tx sx ox ux nx e)).map str ∧ OwnT w' w.heap.size v P ∧ Below w.heap.size w w' := by
 obtain ⟨i0, hi, hz0, hz1, hz2⟩ := info_parts info_text
 have hB0 : Below w.heap.size w ((w.alloc (wrO (wrL FK FT FS FO FU FN))).alloc (evO e)) := chW (alW w _) (alW _ _)
 have hs0 : ((w.alloc (wrO (wrL FK FT FS FO FU FN))).alloc (evO e)).heap.size = w.heap.size + 2 := by simp
 have hr1 : ((w.alloc (wrO (wrL FK FT FS FO FU FN))).alloc (evO e)).heap[w.heap.size]? = some (wrO (wrL FK FT FS FO FU FN)) := by rw [heap_alloc_old _ _ (by simp)]; exact heap_alloc_new w _
 have hr2 : ((w.alloc (wrO (wrL FK FT FS FO FU FN))).alloc (evO e)).heap[w.heap.size + 1]? = some (evO e) := by have := heap_alloc_new (w.alloc (wrO (wrL FK FT FS FO FU FN))) (evO e); simpa using this
 generalize hW0 : (w.alloc (wrO (wrL FK FT FS FO FU FN))).alloc (evO e) = W0 at *
 have HR1 : Hid (∀ W, Below (w.heap.size + 2) W0 W → W.heap[w.heap.size]? = some (wrO (wrL FK FT FS FO FU FN))) := hid (fun W hb => (hb.block w.heap.size (by omega)).trans hr1)
 have HR2 : Hid (∀ W, Below (w.heap.size + 2) W0 W → W.heap[w.heap.size + 1]? = some (evO e)) := hid (fun W hb => (hb.block (w.heap.size + 1) (by omega)).trans hr2)
 have HW0 : Hid (w.heap.size + 2 ≤ W0.heap.size) := hid (by omega)
 have HB0 := hid hB0
 have HUP : Hid (∀ W, Below (w.heap.size + 2) W0 W → Below w.heap.size w W) := hid (fun W hb => HB0.out.trans (hb.mono (by omega)))
 have HF := hid hF
 have HN := hid hN
 have HSM := hid hsm
 have HT := hid hT
 have HSP := hid hS
 have HO := hid hO
 have HU := hid hU
 have HX := hid hX
 have HFD : Hid (∀ j, j < L.length → 0 ≤ L.getD j 0 ∧ L.getD j 0 ≤ 9) := hid (fun j hj => hfd _ (by simp [hj]))
 have HL0 := hid hl0
 have HKK := hid (hK W0 hB0)
 obtain ⟨a0, -, -, -, -, -⟩ := zta (HR1.out _ (Below.refl _ _))
 have b0 := (zos (HR2.out _ (Below.refl _ _))).1
 subst hW0
 clear hB0 hr1 hr2 hF hN hsm hT hS hO hU hX hfd hl0 hK hs0
 have ES : Hid (Ent FS) := hid eS
 clear eS
 unfold Ent at eK eT eO eU eN
 go_enter Tryz.func29, Tryz.ntmps29
 go_wp2_with fail
 refine HKK.out.mono ?_
 rintro e1 w1 ⟨rfl, hb1⟩
 have HBA := hid ((hb1.mono HW0.out).trans ((alW w1 (.cells #[.string (str kx)] 9)).mono (Nat.le_trans HW0.out hb1.size)))
 have HL1 : Hid (w.heap.size + 2 ≤ w1.heap.size) := hid (Nat.le_trans HW0.out hb1.size)
 have b0' := (zos (HR2.out _ HBA.out)).1
 clear hb1 a0 b0
 go_wp2_with fail
 refine (HF.out _).mono ?_
 rintro e2 w2 ⟨v, rfl, hrow, hb2⟩
 obtain ⟨g, cp, rfl, hg0, hg1, hcl⟩ := zsn hrow HL0.out
 have hg0' : w1.heap.size + 1 ≤ g := by simpa using hg0
 have HI0 : Hid (WrI w ((w.alloc (wrO (wrL FK FT FS FO FU FN))).alloc (evO e)) w2 g w2 (.slice (some ⟨w1.heap.size, 0, none⟩) 1 1) [str kx]) := hid
  ⟨zsm (zsl w1 (str kx) w.heap.size (by have := HL1.out; omega)) hb2, HBA.out.trans (hb2.mono (by have := HL1.out; simp; omega)), rfl, fun b hb => by cases hb; exact ⟨HL1.out, by show w1.heap.size ≠ g; omega⟩, Nat.le_refl _⟩
 have HG := hid hg1
 have HFC : Hid (∀ W : World, W.heap[g]? = w2.heap[g]? → ∀ j, j < L.length → W.cell? ⟨g, j, none⟩ = some (.int .i64 (L.getD j 0))) := hid (fun W hk j hj => (World.cell?_of_block (a := ⟨g, j, none⟩) hk).trans (hcl j hj))
 clear hrow hb2 hcl hg0 hg0' hg1 b0' HBA HKK
 go_wp2_with fail
 go_loopw [5, 7, 18] (fun vp _ i wr => ∃ (j : Nat) (P : List ByteArray), i = .int .i64 j ∧ j ≤ L.length ∧ P.length ≤ 200 * j + 1 ∧ Hid (P = (kx :: (L.take j).flatMap (partG tx sx ox ux nx e)).map str) ∧ Hid (WrI w ((w.alloc (wrO (wrL FK FT FS FO FU FN))).alloc (evO e)) w2 g wr vp P)) (fun _ _ i _ => L.length - (intOf i).toNat)
 case atStart => exact ⟨0, [str kx], rfl, Nat.zero_le _, by simp, hid rfl, HI0⟩
 case round =>
  obtain ⟨j, P, rfl, hj, hPl, HP, HI⟩ := hrel
  rename World => wr
  clear HI0
  have HWR := hid (HUP.out wr HI.out.low)
  have HLR : Hid (w.heap.size + 2 ≤ wr.heap.size) := hid (Nat.le_trans HW0.out HI.out.low.size)
  by_cases hlt : j < L.length
  · have hdec : decide (j < L.length) = true := by simpa using hlt
    have hcell := HFC.out wr HI.out.fld j hlt
    have HST : Hid (∀ x Q, L.getD j 0 = x → Q = (partG tx sx ox ux nx e x).map str → P ++ Q = (kx :: (L.take (j + 1)).flatMap (partG tx sx ox ux nx e)).map str) := hid (fun x Q hx hQ => parts_step HP.out hlt hx hQ)
    obtain ⟨f0, f9⟩ := HFD.out j hlt
    have hx : L.getD j 0 = 0 ∨ L.getD j 0 = 1 ∨ L.getD j 0 = 2 ∨ L.getD j 0 = 3 ∨ L.getD j 0 = 4 ∨ L.getD j 0 = 5 ∨ L.getD j 0 = 6 ∨ L.getD j 0 = 7 ∨ L.getD j 0 = 8 ∨ L.getD j 0 = 9 := by omega
    clear f0 f9 HP
    rcases hx with hx | hx | hx | hx | hx | hx | hx | hx | hx | hx <;> rw [hx] at hcell <;> replace HST := hid (fun Q => HST.out _ Q hx) <;> clear hx
    · have a1 : wr.cell? ⟨w.heap.size, 1, none⟩ = some (.func (.func FT) #[] #[]) := by simp [World.cell?, HR1.out _ HI.out.low]
      have b1 : wr.cell? ⟨w.heap.size + 1, 1, none⟩ = some (.string (str e.who)) := by simp [World.cell?, HR2.out _ HI.out.low]
      have HC := hid (HT.out e.who HSM.out.who wr HWR.out)
      go_wp2_with fail
      refine HC.out.mono ?_
      rintro e3 w3 ⟨rfl, hb3⟩
      have HI3 := hid ((HI.out.on HG.out hb3 HW0.out).on HG.out (alW w3 (.cells #[.string (str (tx e.who))] 9)) HW0.out)
      have HB3 : Hid (w.heap.size ≤ (w3.alloc (.cells #[.string (str (tx e.who))] 9)).heap.size) := hid (by have := HI3.out.low.size; have := HW0.out; omega)
      clear hb3 hcell a1 b1 HC
      go_wp2_with (first | (at_builtin; refine wpList_append_own_at _ rfl _ _ 52 rfl w.heap.size 9 i0 (.string ⟨#[]⟩) 1 16 Tryz.underlying52 hi hz0 hz1 hz2 rfl (by decide) _ P.length (P.map Value.string) rfl HI3.out.own ⟨w3.heap.size, 0, none⟩ 1 1 [.string (str (tx e.who))] rfl rfl ?c1 ?c2 ?c3 ?c4 ?c5 ?_) | fail)
      case c1 => exact zbz w3 (.string (str (tx e.who))) 9
      case c2 => exact zby _
      case c3 => unfold maxLen; omega
      case c4 => omega
      case c5 => exact HB3.out
      intro v' w4 hown4 hg4 _ hat4
      have HI4 := hid (HI3.out.add HG.out HW0.out hown4 hg4 (by simpa using hat4))
      have HNX := hid (HST.out [str (tx e.who)] rfl)
      clear hown4 hg4 hat4 HI3 HST
      go_wp2_with fail
      go_roundw
      case rel => exact ⟨j + 1, P ++ [str (tx e.who)], by go_num, hlt, by simp; omega, HNX, HI4⟩
      case measure => simp [intOf]; omega
    · have a1 : wr.cell? ⟨w.heap.size, 1, none⟩ = some (.func (.func FT) #[] #[]) := by simp [World.cell?, HR1.out _ HI.out.low]
      have b1 : wr.cell? ⟨w.heap.size + 1, 2, none⟩ = some (.string (str e.name)) := by simp [World.cell?, HR2.out _ HI.out.low]
      have HC := hid (HT.out e.name HSM.out.name wr HWR.out)
      go_wp2_with fail
      refine HC.out.mono ?_
      rintro e3 w3 ⟨rfl, hb3⟩
      have HI3 := hid ((HI.out.on HG.out hb3 HW0.out).on HG.out (alW w3 (.cells #[.string (str (tx e.name))] 9)) HW0.out)
      have HB3 : Hid (w.heap.size ≤ (w3.alloc (.cells #[.string (str (tx e.name))] 9)).heap.size) := hid (by have := HI3.out.low.size; have := HW0.out; omega)
      clear hb3 hcell a1 b1 HC
      go_wp2_with (first | (at_builtin; refine wpList_append_own_at _ rfl _ _ 52 rfl w.heap.size 9 i0 (.string ⟨#[]⟩) 1 16 Tryz.underlying52 hi hz0 hz1 hz2 rfl (by decide) _ P.length (P.map Value.string) rfl HI3.out.own ⟨w3.heap.size, 0, none⟩ 1 1 [.string (str (tx e.name))] rfl rfl ?c1 ?c2 ?c3 ?c4 ?c5 ?_) | fail)
      case c1 => exact zbz w3 (.string (str (tx e.name))) 9
      case c2 => exact zby _
      case c3 => unfold maxLen; omega
      case c4 => omega
      case c5 => exact HB3.out
      intro v' w4 hown4 hg4 _ hat4
      have HI4 := hid (HI3.out.add HG.out HW0.out hown4 hg4 (by simpa using hat4))
      have HNX := hid (HST.out [str (tx e.name)] rfl)
      clear hown4 hg4 hat4 HI3 HST
      go_wp2_with fail
      go_roundw
      case rel => exact ⟨j + 1, P ++ [str (tx e.name)], by go_num, hlt, by simp; omega, HNX, HI4⟩
      case measure => simp [intOf]; omega
    · have a1 : wr.cell? ⟨w.heap.size, 1, none⟩ = some (.func (.func FT) #[] #[]) := by simp [World.cell?, HR1.out _ HI.out.low]
      have b1 : wr.cell? ⟨w.heap.size + 1, 3, none⟩ = some (.string (str e.ver)) := by simp [World.cell?, HR2.out _ HI.out.low]
      have HC := hid (HT.out e.ver HSM.out.ver wr HWR.out)
      go_wp2_with fail
      refine HC.out.mono ?_
      rintro e3 w3 ⟨rfl, hb3⟩
      have HI3 := hid ((HI.out.on HG.out hb3 HW0.out).on HG.out (alW w3 (.cells #[.string (str (tx e.ver))] 9)) HW0.out)
      have HB3 : Hid (w.heap.size ≤ (w3.alloc (.cells #[.string (str (tx e.ver))] 9)).heap.size) := hid (by have := HI3.out.low.size; have := HW0.out; omega)
      clear hb3 hcell a1 b1 HC
      go_wp2_with (first | (at_builtin; refine wpList_append_own_at _ rfl _ _ 52 rfl w.heap.size 9 i0 (.string ⟨#[]⟩) 1 16 Tryz.underlying52 hi hz0 hz1 hz2 rfl (by decide) _ P.length (P.map Value.string) rfl HI3.out.own ⟨w3.heap.size, 0, none⟩ 1 1 [.string (str (tx e.ver))] rfl rfl ?c1 ?c2 ?c3 ?c4 ?c5 ?_) | fail)
      case c1 => exact zbz w3 (.string (str (tx e.ver))) 9
      case c2 => exact zby _
      case c3 => unfold maxLen; omega
      case c4 => omega
      case c5 => exact HB3.out
      intro v' w4 hown4 hg4 _ hat4
      have HI4 := hid (HI3.out.add HG.out HW0.out hown4 hg4 (by simpa using hat4))
      have HNX := hid (HST.out [str (tx e.ver)] rfl)
      clear hown4 hg4 hat4 HI3 HST
      go_wp2_with fail
      go_roundw
      case rel => exact ⟨j + 1, P ++ [str (tx e.ver)], by go_num, hlt, by simp; omega, HNX, HI4⟩
      case measure => simp [intOf]; omega
    · obtain ⟨a0, a1, a2, a3, a4, a5⟩ := zta (HR1.out _ HI.out.low)
      have b1 : wr.cell? ⟨w.heap.size + 1, 4, none⟩ = some (.slice e.na e.needs.length e.nc) := by simp [World.cell?, HR2.out _ HI.out.low]
      have HC := hid (ztg FK FT FS FO FU FN tx sx nx e.na e.nc e.needs wr (HN.out.gr HWR.out) HSM.out.few HSM.out.need (fun s hs W h => HT.out s hs W (HWR.out.trans (h.mono HWR.out.size))) (fun s hs W h => HSP.out s hs W (HWR.out.trans (h.mono HWR.out.size))) (fun x hx W h => HX.out x hx W (HWR.out.trans (h.mono HWR.out.size))) eT ES.out eN)
      go_wp2_with fail
      refine HC.out.mono ?_
      rintro e3 w3 ⟨v3, Q, rfl, hQ, hown3, hb3⟩
      have hQl : Q.length ≤ 129 ∧ 0 < Q.length := by rw [hQ, List.length_map]; unfold needG; rw [List.length_cons, zte]; have := HSM.out.few; omega
      have HNX := hid (HST.out Q hQ)
      obtain ⟨a, cp3, rfl, hcl3⟩ := hown3.open_
      obtain ⟨g3, rfl, hg3, hg3', hcl3⟩ := hcl3 hQl.2
      have HI3 := hid (HI.out.on HG.out hb3 HW0.out)
      have HB3 : Hid (w.heap.size ≤ w3.heap.size) := hid (by have := HI3.out.low.size; have := HW0.out; omega)
      have HCL3 : Hid (∀ (j : Nat) (u : Value), (Q.map Value.string)[j]? = some u → w3.cell? ((⟨g3, 0, none⟩ : Addr).add j) = some u) := hid (fun j u hu => by
       rw [Go.WideShapes.add_plain, Nat.zero_add]
       have hj : j < Q.length := by have := (List.getElem?_eq_some_iff.1 hu).1; simpa using this
       rw [hcl3 j hj]
       rw [List.getElem?_map, List.getElem?_eq_getElem hj] at hu
       simpa using hu)
      clear hb3 hcell a0 a1 a2 a3 a4 a5 b1 HC hQ hown3 hcl3 hg3 hg3'
      go_wp2_with (first | (at_builtin; refine wpList_append_own_at _ rfl _ _ 52 rfl w.heap.size 9 i0 (.string ⟨#[]⟩) 1 16 Tryz.underlying52 hi hz0 hz1 hz2 rfl (by decide) _ P.length (P.map Value.string) rfl HI3.out.own ⟨g3, 0, none⟩ Q.length cp3 (Q.map Value.string) rfl (by simp) ?c1 ?c2 ?c3 ?c4 ?c5 ?_) | fail)
      case c1 => exact HCL3.out
      case c2 => exact ztc Q
      case c3 => unfold maxLen; omega
      case c4 => omega
      case c5 => exact HB3.out
      intro v' w4 hown4 hg4 _ hat4
      have HI4 := hid (HI3.out.adds HG.out HW0.out hown4 hg4 hat4)
      clear hown4 hg4 hat4 HI3 HST
      go_wp2_with fail
      go_roundw
      case rel => exact ⟨j + 1, P ++ Q, by go_num, hlt, by simp; omega, HNX, HI4⟩
      case measure => simp [intOf]; omega
    · have a1 : wr.cell? ⟨w.heap.size, 4, none⟩ = some (.func (.func FU) #[] #[]) := by simp [World.cell?, HR1.out _ HI.out.low]
      have b1 : wr.cell? ⟨w.heap.size + 1, 5, none⟩ = some (.int .u64 e.sum) := by simp [World.cell?, HR2.out _ HI.out.low]
      have HC := hid (HU.out e.sum HSM.out.sum wr HWR.out)
      go_wp2_with fail
      refine HC.out.mono ?_
      rintro e3 w3 ⟨rfl, hb3⟩
      have HI3 := hid ((HI.out.on HG.out hb3 HW0.out).on HG.out (alW w3 (.cells #[.string (str (ux e.sum))] 9)) HW0.out)
      have HB3 : Hid (w.heap.size ≤ (w3.alloc (.cells #[.string (str (ux e.sum))] 9)).heap.size) := hid (by have := HI3.out.low.size; have := HW0.out; omega)
      clear hb3 hcell a1 b1 HC
      go_wp2_with (first | (at_builtin; refine wpList_append_own_at _ rfl _ _ 52 rfl w.heap.size 9 i0 (.string ⟨#[]⟩) 1 16 Tryz.underlying52 hi hz0 hz1 hz2 rfl (by decide) _ P.length (P.map Value.string) rfl HI3.out.own ⟨w3.heap.size, 0, none⟩ 1 1 [.string (str (ux e.sum))] rfl rfl ?c1 ?c2 ?c3 ?c4 ?c5 ?_) | fail)
      case c1 => exact zbz w3 (.string (str (ux e.sum))) 9
      case c2 => exact zby _
      case c3 => unfold maxLen; omega
      case c4 => omega
      case c5 => exact HB3.out
      intro v' w4 hown4 hg4 _ hat4
      have HI4 := hid (HI3.out.add HG.out HW0.out hown4 hg4 (by simpa using hat4))
      have HNX := hid (HST.out [str (ux e.sum)] rfl)
      clear hown4 hg4 hat4 HI3 HST
      go_wp2_with fail
      go_roundw
      case rel => exact ⟨j + 1, P ++ [str (ux e.sum)], by go_num, hlt, by simp; omega, HNX, HI4⟩
      case measure => simp [intOf]; omega
    · have a1 : wr.cell? ⟨w.heap.size, 5, none⟩ = some (.func (.func FN) #[] #[]) := by simp [World.cell?, HR1.out _ HI.out.low]
      have b1 : wr.cell? ⟨w.heap.size + 1, 6, none⟩ = some (.int .u32 e.n) := by simp [World.cell?, HR2.out _ HI.out.low]
      have HC := hid (HX.out e.n (by have := HSM.out.n; omega) wr HWR.out)
      have hcv : IntKind.u64.wrap (e.n : Int) = e.n := IntWalk.u64_in _ ⟨by omega, by have := HSM.out.n; omega⟩
      go_wp2_with fail
      refine HC.out.mono ?_
      rintro e3 w3 ⟨rfl, hb3⟩
      have HI3 := hid ((HI.out.on HG.out hb3 HW0.out).on HG.out (alW w3 (.cells #[.string (str (nx e.n))] 9)) HW0.out)
      have HB3 : Hid (w.heap.size ≤ (w3.alloc (.cells #[.string (str (nx e.n))] 9)).heap.size) := hid (by have := HI3.out.low.size; have := HW0.out; omega)
      clear hb3 hcell a1 b1 HC
      go_wp2_with (first | (at_builtin; refine wpList_append_own_at _ rfl _ _ 52 rfl w.heap.size 9 i0 (.string ⟨#[]⟩) 1 16 Tryz.underlying52 hi hz0 hz1 hz2 rfl (by decide) _ P.length (P.map Value.string) rfl HI3.out.own ⟨w3.heap.size, 0, none⟩ 1 1 [.string (str (nx e.n))] rfl rfl ?c1 ?c2 ?c3 ?c4 ?c5 ?_) | fail)
      case c1 => exact zbz w3 (.string (str (nx e.n))) 9
      case c2 => exact zby _
      case c3 => unfold maxLen; omega
      case c4 => omega
      case c5 => exact HB3.out
      intro v' w4 hown4 hg4 _ hat4
      have HI4 := hid (HI3.out.add HG.out HW0.out hown4 hg4 (by simpa using hat4))
      have HNX := hid (HST.out [str (nx e.n)] rfl)
      clear hown4 hg4 hat4 HI3 HST
      go_wp2_with fail
      go_roundw
      case rel => exact ⟨j + 1, P ++ [str (nx e.n)], by go_num, hlt, by simp; omega, HNX, HI4⟩
      case measure => simp [intOf]; omega
    · have a1 : wr.cell? ⟨w.heap.size, 5, none⟩ = some (.func (.func FN) #[] #[]) := by simp [World.cell?, HR1.out _ HI.out.low]
      have b1 : wr.cell? ⟨w.heap.size + 1, 7, none⟩ = some (.int .u32 e.size) := by simp [World.cell?, HR2.out _ HI.out.low]
      have HC := hid (HX.out e.size (by have := HSM.out.size; omega) wr HWR.out)
      have hcv : IntKind.u64.wrap (e.size : Int) = e.size := IntWalk.u64_in _ ⟨by omega, by have := HSM.out.size; omega⟩
      go_wp2_with fail
      refine HC.out.mono ?_
      rintro e3 w3 ⟨rfl, hb3⟩
      have HI3 := hid ((HI.out.on HG.out hb3 HW0.out).on HG.out (alW w3 (.cells #[.string (str (nx e.size))] 9)) HW0.out)
      have HB3 : Hid (w.heap.size ≤ (w3.alloc (.cells #[.string (str (nx e.size))] 9)).heap.size) := hid (by have := HI3.out.low.size; have := HW0.out; omega)
      clear hb3 hcell a1 b1 HC
      go_wp2_with (first | (at_builtin; refine wpList_append_own_at _ rfl _ _ 52 rfl w.heap.size 9 i0 (.string ⟨#[]⟩) 1 16 Tryz.underlying52 hi hz0 hz1 hz2 rfl (by decide) _ P.length (P.map Value.string) rfl HI3.out.own ⟨w3.heap.size, 0, none⟩ 1 1 [.string (str (nx e.size))] rfl rfl ?c1 ?c2 ?c3 ?c4 ?c5 ?_) | fail)
      case c1 => exact zbz w3 (.string (str (nx e.size))) 9
      case c2 => exact zby _
      case c3 => unfold maxLen; omega
      case c4 => omega
      case c5 => exact HB3.out
      intro v' w4 hown4 hg4 _ hat4
      have HI4 := hid (HI3.out.add HG.out HW0.out hown4 hg4 (by simpa using hat4))
      have HNX := hid (HST.out [str (nx e.size)] rfl)
      clear hown4 hg4 hat4 HI3 HST
      go_wp2_with fail
      go_roundw
      case rel => exact ⟨j + 1, P ++ [str (nx e.size)], by go_num, hlt, by simp; omega, HNX, HI4⟩
      case measure => simp [intOf]; omega
    · have a1 : wr.cell? ⟨w.heap.size, 1, none⟩ = some (.func (.func FT) #[] #[]) := by simp [World.cell?, HR1.out _ HI.out.low]
      have b1 : wr.cell? ⟨w.heap.size + 1, 8, none⟩ = some (.string (str e.holder)) := by simp [World.cell?, HR2.out _ HI.out.low]
      have HC := hid (HT.out e.holder HSM.out.holder wr HWR.out)
      go_wp2_with fail
      refine HC.out.mono ?_
      rintro e3 w3 ⟨rfl, hb3⟩
      have HI3 := hid ((HI.out.on HG.out hb3 HW0.out).on HG.out (alW w3 (.cells #[.string (str (tx e.holder))] 9)) HW0.out)
      have HB3 : Hid (w.heap.size ≤ (w3.alloc (.cells #[.string (str (tx e.holder))] 9)).heap.size) := hid (by have := HI3.out.low.size; have := HW0.out; omega)
      clear hb3 hcell a1 b1 HC
      go_wp2_with (first | (at_builtin; refine wpList_append_own_at _ rfl _ _ 52 rfl w.heap.size 9 i0 (.string ⟨#[]⟩) 1 16 Tryz.underlying52 hi hz0 hz1 hz2 rfl (by decide) _ P.length (P.map Value.string) rfl HI3.out.own ⟨w3.heap.size, 0, none⟩ 1 1 [.string (str (tx e.holder))] rfl rfl ?c1 ?c2 ?c3 ?c4 ?c5 ?_) | fail)
      case c1 => exact zbz w3 (.string (str (tx e.holder))) 9
      case c2 => exact zby _
      case c3 => unfold maxLen; omega
      case c4 => omega
      case c5 => exact HB3.out
      intro v' w4 hown4 hg4 _ hat4
      have HI4 := hid (HI3.out.add HG.out HW0.out hown4 hg4 (by simpa using hat4))
      have HNX := hid (HST.out [str (tx e.holder)] rfl)
      clear hown4 hg4 hat4 HI3 HST
      go_wp2_with fail
      go_roundw
      case rel => exact ⟨j + 1, P ++ [str (tx e.holder)], by go_num, hlt, by simp; omega, HNX, HI4⟩
      case measure => simp [intOf]; omega
    · have a1 : wr.cell? ⟨w.heap.size, 1, none⟩ = some (.func (.func FT) #[] #[]) := by simp [World.cell?, HR1.out _ HI.out.low]
      have b1 : wr.cell? ⟨w.heap.size + 1, 9, none⟩ = some (.string (str e.note)) := by simp [World.cell?, HR2.out _ HI.out.low]
      have HC := hid (HT.out e.note HSM.out.note wr HWR.out)
      go_wp2_with fail
      refine HC.out.mono ?_
      rintro e3 w3 ⟨rfl, hb3⟩
      have HI3 := hid ((HI.out.on HG.out hb3 HW0.out).on HG.out (alW w3 (.cells #[.string (str (tx e.note))] 9)) HW0.out)
      have HB3 : Hid (w.heap.size ≤ (w3.alloc (.cells #[.string (str (tx e.note))] 9)).heap.size) := hid (by have := HI3.out.low.size; have := HW0.out; omega)
      clear hb3 hcell a1 b1 HC
      go_wp2_with (first | (at_builtin; refine wpList_append_own_at _ rfl _ _ 52 rfl w.heap.size 9 i0 (.string ⟨#[]⟩) 1 16 Tryz.underlying52 hi hz0 hz1 hz2 rfl (by decide) _ P.length (P.map Value.string) rfl HI3.out.own ⟨w3.heap.size, 0, none⟩ 1 1 [.string (str (tx e.note))] rfl rfl ?c1 ?c2 ?c3 ?c4 ?c5 ?_) | fail)
      case c1 => exact zbz w3 (.string (str (tx e.note))) 9
      case c2 => exact zby _
      case c3 => unfold maxLen; omega
      case c4 => omega
      case c5 => exact HB3.out
      intro v' w4 hown4 hg4 _ hat4
      have HI4 := hid (HI3.out.add HG.out HW0.out hown4 hg4 (by simpa using hat4))
      have HNX := hid (HST.out [str (tx e.note)] rfl)
      clear hown4 hg4 hat4 HI3 HST
      go_wp2_with fail
      go_roundw
      case rel => exact ⟨j + 1, P ++ [str (tx e.note)], by go_num, hlt, by simp; omega, HNX, HI4⟩
      case measure => simp [intOf]; omega
    · have a1 : wr.cell? ⟨w.heap.size, 3, none⟩ = some (.func (.func FO) #[] #[]) := by simp [World.cell?, HR1.out _ HI.out.low]
      have b1 : wr.cell? ⟨w.heap.size + 1, 9, none⟩ = some (.string (str e.note)) := by simp [World.cell?, HR2.out _ HI.out.low]
      have HC := hid (HO.out e.note HSM.out.note wr HWR.out)
      go_wp2_with fail
      refine HC.out.mono ?_
      rintro e3 w3 ⟨rfl, hb3⟩
      have HI3 := hid ((HI.out.on HG.out hb3 HW0.out).on HG.out (alW w3 (.cells #[.string (str (ox e.note))] 9)) HW0.out)
      have HB3 : Hid (w.heap.size ≤ (w3.alloc (.cells #[.string (str (ox e.note))] 9)).heap.size) := hid (by have := HI3.out.low.size; have := HW0.out; omega)
      clear hb3 hcell a1 b1 HC
      go_wp2_with (first | (at_builtin; refine wpList_append_own_at _ rfl _ _ 52 rfl w.heap.size 9 i0 (.string ⟨#[]⟩) 1 16 Tryz.underlying52 hi hz0 hz1 hz2 rfl (by decide) _ P.length (P.map Value.string) rfl HI3.out.own ⟨w3.heap.size, 0, none⟩ 1 1 [.string (str (ox e.note))] rfl rfl ?c1 ?c2 ?c3 ?c4 ?c5 ?_) | fail)
      case c1 => exact zbz w3 (.string (str (ox e.note))) 9
      case c2 => exact zby _
      case c3 => unfold maxLen; omega
      case c4 => omega
      case c5 => exact HB3.out
      intro v' w4 hown4 hg4 _ hat4
      have HI4 := hid (HI3.out.add HG.out HW0.out hown4 hg4 (by simpa using hat4))
      have HNX := hid (HST.out [str (ox e.note)] rfl)
      clear hown4 hg4 hat4 HI3 HST
      go_wp2_with fail
      go_roundw
      case rel => exact ⟨j + 1, P ++ [str (ox e.note)], by go_num, hlt, by simp; omega, HNX, HI4⟩
      case measure => simp [intOf]; omega
  · have hje : j = L.length := by omega
    have hdec : decide (j < L.length) = false := by simp; omega
    have HPE : Hid (P = (kx :: L.flatMap (partG tx sx ox ux nx e)).map str) := hid (by rw [HP.out, hje, List.take_length])
    go_wp2_with fail
    go_ret
    exact ⟨_, P, rfl, HPE.out, HI.out.own, HWR.out⟩
end EvA
end
section
open Go.RowKit
namespace NameC
open NameM StrC
theorem all_succ (p : UInt8 → Bool) (l : List UInt8) (k : Nat) (h : k < l.length) : (l.take (k + 1)).all p = ((l.take k).all p && p (l.getD k 0)) := by
 rw [List.take_add_one, List.all_append]; simp [h]
theorem all_not (p : UInt8 → Bool) (l : List UInt8) (k : Nat) (h : (l.take k).all p = false) : l.all p = false := by
 rw [← List.take_append_drop k l, List.all_append, h]; rfl
theorem low_int (c : UInt8) : ((low c).toNat : Int) = if 65 ≤ c.toNat ∧ c.toNat ≤ 90 then (c.toNat : Int) + 32 else c.toNat := by
 rw [znb]; split <;> simp
end NameC
end
end Go.Proofs.YtfbegbmjmhnplaaGreatDoor
