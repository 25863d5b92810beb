/-
  What the proof of EvBoth stands on, part 35.
-/
import Derived.Test.YtfbegbmjmhnplaaGreatDoorT34
set_option linter.unusedSimpArgs false
set_option linter.unusedVariables false
set_option maxHeartbeats 16000000
namespace Go.Proofs.YtfbegbmjmhnplaaGreatDoor
open Go.Lib (hid)
section
open Go.RowKit
namespace EvL
open StrC EvA EvF
theorem yeo {d : Nat} (h : d < 10) : (UInt8.ofNat (48 + d)).toNat = 48 + d := by simp; omega
theorem yep : ∀ (n : Nat), ∀ c ∈ Lib.decDigits n, VerM.dig c = true := by
 intro n
 induction n using Nat.strongRecOn with
 | _ n ih =>
   intro c hc
   rw [Lib.decDigits] at hc
   split at hc
   · simp only [List.mem_singleton] at hc
     subst hc
     simp [VerM.dig, yeo (by assumption : n < 10)]
     omega
   · rcases List.mem_append.1 hc with h | h
     · exact ih (n / 10) (by omega) c h
     · simp only [List.mem_singleton] at h
       subst h
       simp [VerM.dig, yeo (by omega : n % 10 < 10)]
       omega
theorem yeq (M : Nat) (c : UInt8) : ∀ (l : B) (acc u : Nat), Lib.parseUintM M acc l = .ok u → Lib.parseUintM M acc (l ++ [c]) = Lib.parseUintM M u [c]
 | [], acc, u, h => by
   simp only [Lib.parseUintM] at h
   injection h with h
   subst h
   rfl
 | d :: r, acc, u, h => by
   rw [List.cons_append]
   rw [Lib.parseUintM] at h ⊢
   split at h
   · split at h
     · cases h
     · split at h
       · cases h
       · rename_i h1 h2 h3
         rw [if_pos h1, if_neg h2, if_neg h3]
         exact yeq M c r _ u h
   · cases h
theorem yer (M : Nat) (hM : M ≤ 18446744073709551615) : ∀ n, n ≤ M → Lib.parseUintM M 0 (Lib.decDigits n) = .ok n := by
 intro n
 induction n using Nat.strongRecOn with
 | _ n ih =>
   intro hn
   rw [Lib.decDigits]
   have hb : ∀ d, d < 10 → (UInt8.ofNat (48 + d)).toNat = 48 + d := fun d hd => yeo hd
   split
   · rename_i h
     rw [Lib.parseUintM, hb n h, if_pos ⟨by omega, by omega⟩, if_neg (by omega), if_neg (by omega), Lib.parseUintM]
     congr 1; omega
   · have h1 := ih (n / 10) (by omega) (by omega)
     rw [yeq M _ _ _ _ h1, Lib.parseUintM, hb (n % 10) (by omega), if_pos ⟨by omega, by omega⟩, if_neg (by omega), if_neg (by omega), Lib.parseUintM]
     congr 1; omega
theorem dec_ne (n : Nat) : Lib.decDigits n ≠ [] := by
 rw [Lib.decDigits]
 split <;> simp
theorem pu_dec {n : Nat} (h : n ≤ 18446744073709551615) : Lib.parseUintB 64 (Lib.decDigits n) = .ok n := by
 unfold Lib.parseUintB
 rw [if_neg (dec_ne n)]
 exact yer _ (by decide) n h
def noB (l : B) : Prop := ∀ c ∈ l, c ≠ 32
theorem yet {f : UInt8 → Bool} (hf : f 32 = false) {l : B} (h : ∀ c ∈ l, f c = true) : noB l := fun c hc e => by
 have := h c hc
 rw [e, hf] at this
 cases this
theorem noB_dec (n : Nat) : noB (Lib.decDigits n) := yet (f := VerM.dig) (by decide) (yep n)
theorem yeu {l : B} (h : NameM.holder l = true) : noB l := by
 unfold NameM.holder at h
 simp only [Bool.and_eq_true, List.all_eq_true] at h
 exact yet (by decide) h.2
theorem yev {l : B} (h : NameM.isN l = true) : noB l := by
 unfold NameM.isN at h
 simp only [Bool.and_eq_true] at h
 have := (NameM.znn.1 h.1).2.2.2.2
 exact yet (f := NameM.okB) (by decide) (List.all_eq_true.1 this)
def vch (c : UInt8) : Bool := VerM.okI c || decide (c.toNat = 46)
theorem yew {f : UInt8 → Bool} {sep : B} (hs : ∀ c ∈ sep, f c = true) : ∀ (L : List B), (∀ t ∈ L, ∀ c ∈ t, f c = true) → ∀ c ∈ Lib.join L sep, f c = true
 | [], _, c, hc => by simp [Lib.join] at hc
 | t :: r, h, c, hc => by
   rw [Lib.join_cons] at hc
   rcases List.mem_append.1 hc with h1 | h1
   · exact h t (by simp) c h1
   · rw [znu] at h1
     obtain ⟨u, hu, h2⟩ := List.mem_flatMap.1 h1
     rcases List.mem_append.1 h2 with h3 | h3
     · exact hs c h3
     · exact h u (by simp [hu]) c h3
theorem yex {v : VerM.Ver} (h : VerM.may v = true) : ∀ c ∈ VerM.text v, vch c = true := by
 have hd : ∀ n, ∀ c ∈ Lib.decDigits n, vch c = true := fun n c hc => by
  have := yep n c hc
  simp [vch, VerM.okI, this]
 unfold VerM.may at h
 simp only [Bool.and_eq_true, List.all_eq_true] at h
 have hp : ∀ t ∈ v.pre, ∀ c ∈ t, vch c = true := fun t ht c hc => by
  have h1 := h.2 t ht
  unfold VerM.ident at h1
  simp only [Bool.and_eq_true, List.all_eq_true] at h1
  simp [vch, h1.1.2 c hc]
 have hpl : ∀ c ∈ VerM.preL v.pre, vch c = true := by
  intro c hc
  unfold VerM.preL at hc
  split at hc
  · cases hc
  · rename_i x y e
    rcases List.mem_cons.1 hc with rfl | hc
    · decide
    · exact yew (f := vch) (by intro c hc; simp at hc; subst hc; decide) _ hp c hc
 intro c hc
 unfold VerM.text at hc
 rcases List.mem_append.1 hc with h1 | h1
 · exact hd _ c h1
 rcases List.mem_cons.1 h1 with rfl | h1
 · decide
 rcases List.mem_append.1 h1 with h1 | h1
 · exact hd _ c h1
 rcases List.mem_cons.1 h1 with rfl | h1
 · decide
 rcases List.mem_append.1 h1 with h1 | h1
 · exact hd _ c h1
 · exact hpl c h1
theorem noB_isT {l : B} (h : VerM.isT l = true) : noB l := by
 obtain ⟨v, hv⟩ := VerM.zbl h
 obtain ⟨h1, -, h3⟩ := VerM.zau hv
 rw [← h1]
 exact yet (f := vch) (by decide) (yex h3)
def sch (c : UInt8) : Bool := vch c || (decide (c.toNat = 61) || (decide (c.toNat = 60) || (decide (c.toNat = 62) || (decide (c.toNat = 32) || (decide (c.toNat = 124) || (decide (c.toNat = 42) || decide (c.toNat = 33)))))))
theorem sch_v {c : UInt8} (h : vch c = true) : sch c = true := by simp [sch, h]
theorem yey {g : B} (hg : ∀ c ∈ g, sch c = true) {v : VerM.Ver} {t : B} (h : SpanC.zjg g v = some t) : ∀ c ∈ t, sch c = true := by
 unfold SpanC.zjg at h
 split at h
 · rename_i hv
   cases h
   unfold VerM.zap at hv
   simp only [Bool.and_eq_true] at hv
   intro c hc
   rcases List.mem_append.1 hc with h1 | h1
   · exact hg c h1
   · exact sch_v (yex hv.1 c h1)
 · cases h
theorem g_sch {g : B} (h : g.all sch = true) : ∀ c ∈ g, sch c = true := List.all_eq_true.1 h
theorem yez {e : SpanM.Ed} {t : B} (h : SpanC.zjh e = some t) : ∀ c ∈ t, sch c = true := by
 unfold SpanC.zjh at h
 split at h
 · cases h; intro c hc; cases hc
 · split at h
   · exact yey (g_sch (by decide)) h
   · exact yey (g_sch (by decide)) h
theorem yfa {e : SpanM.Ed} {t : B} (h : SpanC.zji e = some t) : ∀ c ∈ t, sch c = true := by
 unfold SpanC.zji at h
 split at h
 · cases h; intro c hc; cases hc
 · split at h
   · exact yey (g_sch (by decide)) h
   · exact yey (g_sch (by decide)) h
theorem one_sch {s : SpanM.St} {t : B} (h : SpanC.oneO s = some t) : ∀ c ∈ t, sch c = true := by
 unfold SpanC.oneO at h
 split at h
 · exact yey (g_sch (by decide)) h
 · split at h
   · rename_i a b ha hb
     have h1 := yez ha
     have h2 := yfa hb
     cases h
     intro c hc
     unfold SpanC.joinO at hc
     split at hc
     · simp at hc; subst hc; decide
     split at hc
     · rcases List.mem_append.1 hc with h3 | h3
       · exact h1 c h3
       · exact h2 c h3
     · rcases List.mem_append.1 hc with h3 | h3
       · exact h1 c h3
       rcases List.mem_cons.1 h3 with rfl | h3
       · decide
       · exact h2 c h3
   · cases h
theorem yfb {l : List SpanM.St} {t : B} (h : SpanC.zjr l = some t) : ∀ c ∈ t, sch c = true := by
 unfold SpanC.zjr at h
 split at h
 · cases h; exact g_sch (by decide)
 · split at h
   · rename_i ha
     split at h
     · cases h
       refine yew (g_sch (by decide)) _ (fun u hu => ?_)
       obtain ⟨s, hs, rfl⟩ := List.mem_map.1 hu
       have h1 := List.all_eq_true.1 ha s hs
       obtain ⟨x, hx⟩ := Option.isSome_iff_exists.1 h1
       unfold SpanC.oneT
       rw [hx]
       exact one_sch hx
     · cases h
   · cases h
theorem yfc {l : B} (h : ztj l = true) : ∀ c ∈ l, c ≠ 95 := by
 unfold ztj at h
 have h2 := of_decide_eq_true h
 unfold SpanC.formO at h2
 obtain ⟨L, -, h3⟩ := Option.bind_eq_some_iff.1 h2
 intro c hc e
 have := yfb h3 c hc
 rw [e] at this
 revert this
 decide
theorem swap_no {l : B} : noB (swapB 32 95 l) := by
 intro c hc
 unfold swapB at hc
 obtain ⟨d, -, rfl⟩ := List.mem_map.1 hc
 split
 · decide
 · assumption
theorem yfd {l : B} (h : ∀ c ∈ l, c ≠ 95) : swapB 95 32 (swapB 32 95 l) = l := by
 unfold swapB
 rw [List.map_map]
 conv => rhs; rw [← List.map_id l]
 refine List.map_congr_left (fun c hc => ?_)
 have h1 := h c hc
 simp only [Function.comp, id]
 by_cases e : c = 32
 · subst e; simp
 · simp [e, h1]
theorem hd_no (d : Nat) : SumM.hd d ≠ 32 := by
 by_cases h : d < 16
 · rcases (by omega : d = 0 ∨ d = 1 ∨ d = 2 ∨ d = 3 ∨ d = 4 ∨ d = 5 ∨ d = 6 ∨ d = 7 ∨ d = 8 ∨ d = 9 ∨ d = 10 ∨ d = 11 ∨ d = 12 ∨ d = 13 ∨ d = 14 ∨ d = 15) with rfl | rfl | rfl | rfl | rfl | rfl | rfl | rfl | rfl | rfl | rfl | rfl | rfl | rfl | rfl | rfl <;> decide
 · unfold SumM.hd
   rw [List.getD_eq_getElem?_getD, List.getElem?_eq_none (by show SumM.hexs.length ≤ d; have : SumM.hexs.length = 16 := rfl; omega)]
   decide
theorem yfe (n : Nat) : ∀ k, noB (SumM.digits n k)
 | 0, c, hc => by simp [SumM.digits] at hc
 | k + 1, c, hc => by
   simp only [SumM.digits] at hc
   rcases List.mem_cons.1 hc with rfl | h
   · exact hd_no _
   · exact yfe n k c h
theorem noB_hex (l : B) : noB (hexB l) := by
 intro c hc
 unfold hexB at hc
 obtain ⟨d, -, h⟩ := List.mem_flatMap.1 hc
 exact yfe _ _ c h
theorem yff (l : B) : noB (noteT l) := by
 unfold noteT
 split
 · intro c hc; simp at hc; subst hc; decide
 · exact noB_hex l
end EvL
end
section
open Go.RowKit
namespace EvL
open StrC EvA EvF EvS EvC CodeM
def setF (e a : EvG) (x : Int) : EvG :=
 if x = 0 then { a with who := e.who } else if x = 1 then { a with name := e.name } else if x = 2 then { a with ver := e.ver } else if x = 3 then { a with needs := e.needs } else if x = 4 then { a with sum := e.sum }
 else if x = 5 then { a with n := e.n } else if x = 6 then { a with size := e.size } else if x = 7 then { a with holder := e.holder } else { a with note := e.note }
theorem yfg (e : EvG) (h : sameE (zst e (zrk e.k)) (kindE e.k) = true) (hk : 1 ≤ e.k ∧ e.k ≤ 10) : (zrk e.k).foldl (setF e) (zG e.k) = atE e none 0 := by
 obtain ⟨k, who, name, ver, na, nc, needs, sum, n, size, holder, note⟩ := e
 have hk' : k = 1 ∨ k = 2 ∨ k = 3 ∨ k = 4 ∨ k = 5 ∨ k = 6 ∨ k = 7 ∨ k = 8 ∨ k = 9 ∨ k = 10 := by have h1 : 1 ≤ k := hk.1; have h2 : k ≤ 10 := hk.2; omega
 rcases hk' with rfl | rfl | rfl | rfl | rfl | rfl | rfl | rfl | rfl | rfl <;>
  simp [sameE, zrk, zst, zss, kindE] at h <;> simp [zrk, setF, zG, atE, h]
theorem yfh {σ : Type} (R : RdF σ) (e : EvG) (Q : σ → List Int → Prop) (L0 : List Int)
 (H : ∀ x r y a, x ∈ L0 → Q y (x :: r) → (oneF R x y a).1 = setF e a x ∧ (oneF R x y a).2.1 = 0 ∧ Q (oneF R x y a).2.2.2 r) :
 ∀ (L : List Int) (y : σ) (a : EvG), (∀ x ∈ L, x ∈ L0) → Q y L → (foldF R L y a).1 = L.foldl (setF e) a ∧ (foldF R L y a).2.1 = 0 ∧ Q (foldF R L y a).2.2.2 []
 | [], y, a, _, h => ⟨rfl, rfl, h⟩
 | x :: r, y, a, hl, h => by
   obtain ⟨h1, h2, h3⟩ := H x r y a (hl x (by simp)) h
   rw [foldF, if_neg (by simpa using h2), h1, List.foldl_cons]
   exact yfh R e Q L0 H r _ _ (fun z hz => hl z (by simp [hz])) h3
def restL : List B → B
 | [] => []
 | t :: r => t ++ r.flatMap (fun u => 32 :: u)
theorem cut_rest {t : B} (h : noB t) (r : List B) : fstB 32 (restL (t :: r)) = t ∧ rstB 32 (restL (t :: r)) = restL r := by
 cases r with
 | nil => simp only [restL, List.flatMap_nil, List.append_nil]; exact zoe h
 | cons u r => simp only [restL, List.flatMap_cons, List.cons_append]; exact zof _ h
theorem yfi (k : B) (e : EvG) (L : List Int) : lineM k e L = restL (k :: L.flatMap (partT e)) := by
 unfold lineM restL
 congr 1
 induction L with
 | nil => rfl
 | cons x r ih => rw [List.flatMap_cons, List.flatMap_cons, List.flatMap_append, ih]
def okT (l : B) : Prop := noB l ∧ l.length ≤ 65536
structure FitL (e : EvG) : Prop where
 who : okT e.who
 name : okT e.name
 ver : okT e.ver
 holder : okT e.holder
 note8 : 8 ∈ zrk e.k → okT e.note
 note9 : e.note.length ≤ 256
 needs : e.needs.length ≤ 64 ∧ ∀ p ∈ e.needs, okT p.1 ∧ (∀ c ∈ p.2, c ≠ 95) ∧ p.2.length ≤ 65536
 sum : e.sum ≤ 18446744073709551615
 n : e.n ≤ 4294967295
 size : e.size ≤ 4294967295
theorem yfj {t : B} (h : okT t) (r : List B) : lineR.text (restL (t :: r)) = (t, 0, 0, restL r) := by
 obtain ⟨h1, h2⟩ := cut_rest h.1 r
 show (capB (fstB 32 _), 0, 0, rstB 32 _) = _
 rw [h1, h2, zzw (Nat.le_trans h.2 (by decide))]
theorem yfk {t : B} (h : (∀ c ∈ t, c ≠ 95) ∧ t.length ≤ 65536) (r : List B) : lineR.span (restL (swapB 32 95 t :: r)) = (t, 0, 0, restL r) := by
 obtain ⟨h1, h2⟩ := cut_rest (swap_no (l := t)) r
 show (capB (swapB 95 32 (fstB 32 _)), 0, 0, rstB 32 _) = _
 rw [h1, h2, yfd h.1, zzw (Nat.le_trans h.2 (by decide))]
theorem yfl {t : B} (h : t.length ≤ 256) (r : List B) : lineR.note (restL (noteT t :: r)) = (t, 0, 0, restL r) := by
 obtain ⟨h1, h2⟩ := cut_rest (yff t) r
 show noteL _ = _
 unfold noteL
 rw [h1, h2]
 by_cases h0 : t = []
 · subst h0; simp [noteT]
 · have h3 : noteT t = hexB t := by unfold noteT; rw [if_neg h0]
   have h4 : hexB t ≠ [45] := fun e => by
    have := congrArg List.length e
    rw [zoa] at this
    simp at this
    omega
   rw [h3, if_neg h4, zon h]
theorem yfm {x : Nat} (h : x ≤ 18446744073709551615) (r : List B) : lineR.sum (restL (SumM.digits x 16 :: r)) = (x, 0, 0, restL r) := by
 obtain ⟨h1, h2⟩ := cut_rest (yfe x 16) r
 show sumL _ = _
 unfold sumL
 rw [h1, h2, zoo]
 have := ydl (k := 0) (x := x) (s := str (wordB x 8)) (r := []) (by simp [str]) (by omega)
 simp only [this]
theorem yfn {n m : Nat} (h : n ≤ m) (hm : m ≤ 18446744073709551615) (r : List B) : lineR.num m (restL (Lib.decDigits n :: r)) = (n, 0, 0, restL r) := by
 obtain ⟨h1, h2⟩ := cut_rest (noB_dec n) r
 show numL m _ = _
 unfold numL
 rw [h1, h2, pu_dec (by omega)]
 simp only
 rw [if_neg (by omega)]
theorem yfo : ∀ (M : List (B × B)) (P : List (B × B)) (r : List B), (∀ p ∈ M, okT p.1 ∧ (∀ c ∈ p.2, c ≠ 95) ∧ p.2.length ≤ 65536) → ndsF lineR M.length (restL (M.flatMap (fun p => [p.1, swapB 32 95 p.2]) ++ r)) P = (P ++ M, 0, 0, restL r)
 | [], P, r, _ => by simp [ndsF]
 | p :: M, P, r, h => by
   have hp := h p (by simp)
   have h1 := yfj hp.1 (swapB 32 95 p.2 :: (M.flatMap (fun p => [p.1, swapB 32 95 p.2]) ++ r))
   have h2 := yfk hp.2 (M.flatMap (fun p => [p.1, swapB 32 95 p.2]) ++ r)
   have IH := yfo M (P ++ [(p.1, p.2)]) r (fun q hq => h q (by simp [hq]))
   rw [List.length_cons, ndsF]
   simp only [List.flatMap_cons, List.cons_append, List.nil_append, h1, h2, ne_eq, not_true_eq_false, if_false]
   rw [IH]
   simp
theorem yfp {e : EvG} (h : FitL e) (r : List B) : zvi lineR (restL (partT e 3 ++ r)) = (e.needs, 0, 0, restL r) := by
 have h1 := yfn (n := e.needs.length) (m := 64) h.needs.1 (by decide) (e.needs.flatMap (fun p => [p.1, swapB 32 95 p.2]) ++ r)
 have h2 := yfo e.needs [] r h.needs.2
 have e3 : partT e 3 = Lib.decDigits e.needs.length :: e.needs.flatMap (fun p => [p.1, swapB 32 95 p.2]) := by
  unfold partT partG
  simp
 rw [e3]
 unfold zvi
 simp only [List.cons_append, h1, ne_eq, not_true_eq_false, if_false]
 rw [h2]
 rfl
theorem yfq {k : Nat} {x : Int} (h : x ∈ zrk k) : x = 0 ∨ x = 1 ∨ x = 2 ∨ x = 3 ∨ x = 4 ∨ x = 5 ∨ x = 6 ∨ x = 7 ∨ x = 8 ∨ x = 9 := by
 obtain ⟨j, hj, e⟩ := List.mem_iff_getElem.1 h
 obtain ⟨n, h1, h2⟩ := zyy k j hj
 rw [List.getD_eq_getElem?_getD, List.getElem?_eq_getElem hj, e] at h1
 simp only [Option.getD_some] at h1
 omega
theorem yfr {e : EvG} (h : FitL e) (x : Int) (r : List Int) (y : B) (a : EvG) (hx : x ∈ zrk e.k) (hq : y = restL ((x :: r).flatMap (partT e))) : (oneF lineR x y a).1 = setF e a x ∧ (oneF lineR x y a).2.1 = 0 ∧ (oneF lineR x y a).2.2.2 = restL (r.flatMap (partT e)) := by
 subst hq
 rw [List.flatMap_cons]
 rcases yfq hx with rfl | rfl | rfl | rfl | rfl | rfl | rfl | rfl | rfl | rfl
 · have h1 := yfj h.who (r.flatMap (partT e))
   simp [oneF, setF, partT, partG, h1]
 · have h1 := yfj h.name (r.flatMap (partT e))
   simp [oneF, setF, partT, partG, h1]
 · have h1 := yfj h.ver (r.flatMap (partT e))
   simp [oneF, setF, partT, partG, h1]
 · have h1 := yfp h (r.flatMap (partT e))
   simp [oneF, setF, h1]
 · have h1 := yfm h.sum (r.flatMap (partT e))
   simp [oneF, setF, partT, partG, h1]
 · have h1 := yfn (m := 4294967295) h.n (by decide) (r.flatMap (partT e))
   have h2 : e.n % 4294967296 = e.n := Nat.mod_eq_of_lt (by have := h.n; omega)
   simp [oneF, setF, partT, partG, shortF, h1, h2]
 · have h1 := yfn (m := 4294967295) h.size (by decide) (r.flatMap (partT e))
   have h2 : e.size % 4294967296 = e.size := Nat.mod_eq_of_lt (by have := h.size; omega)
   simp [oneF, setF, partT, partG, shortF, h1, h2]
 · have h1 := yfj h.holder (r.flatMap (partT e))
   simp [oneF, setF, partT, partG, h1]
 · have h1 := yfj (h.note8 hx) (r.flatMap (partT e))
   simp [oneF, setF, partT, partG, h1]
 · have h1 := yfl h.note9 (r.flatMap (partT e))
   simp [oneF, setF, partT, partG, h1]
theorem yfs {e : EvG} (h : FitL e) (hs : sameE (zst e (zrk e.k)) (kindE e.k) = true) (hk : 1 ≤ e.k ∧ e.k ≤ 10) :
 (foldF lineR (zrk e.k) (restL ((zrk e.k).flatMap (partT e))) (zG e.k)).1 = atE e none 0 ∧ (foldF lineR (zrk e.k) (restL ((zrk e.k).flatMap (partT e))) (zG e.k)).2.1 = 0 := by
 obtain ⟨h1, h2, -⟩ := yfh lineR e (fun y L => y = restL (L.flatMap (partT e))) (zrk e.k) (fun x r y a hx hq => yfr h x r y a hx hq) (zrk e.k) _ (zG e.k) (fun x hx => hx) rfl
 exact ⟨h1.trans (yfg e hs hk), h2⟩
end EvL
end
section
open Go.RowKit
namespace EvL
open StrC EvA EvF EvS EvC CodeM
structure FitB (e : EvG) : Prop where
 who : e.who.length ≤ 65536
 name : e.name.length ≤ 65536
 ver : e.ver.length ≤ 65536
 holder : e.holder.length ≤ 65536
 note : e.note.length ≤ 65536
 needs : e.needs.length ≤ 64 ∧ ∀ p ∈ e.needs, p.1.length ≤ 65536 ∧ p.2.length ≤ 65536
 sum : e.sum ≤ 18446744073709551615
 n : e.n ≤ 4294967295
 size : e.size ≤ 4294967295
def AtB (s : ByteArray) (k : Nat) (l : B) : Prop := k ≤ s.size ∧ s.data.toList.drop k = l
theorem AtB.next {s : ByteArray} {k : Nat} {a r : B} (h : AtB s k (a ++ r)) : AtB s (k + a.length) r := by
 have hl := congrArg List.length h.2
 rw [List.length_drop, List.length_append] at hl
 have e : s.data.toList.length = s.size := by simp
 exact ⟨by have := h.1; omega, ydj h.2⟩
theorem yft {s : ByteArray} {k : Nat} {t r : B} (ht : t.length ≤ 65536) (h : AtB s k (CodeM.textB t ++ r)) : ∃ k', (rdB s).text k = (t, 0, k, k') ∧ AtB s k' r := by
 obtain ⟨h1, h2, h3⟩ := ydk (most := 65536) (t := str t) h.1 h.2 (by rw [zbm]; omega) (by rw [zbm]; exact ht)
 refine ⟨k + (CodeM.textB t).length, ?_, h.next⟩
 show EvS.textB s k = _
 unfold EvS.textB cutB
 rw [h1]
 simp only
 rw [zbn] at h2 ⊢
 rw [h2]
 rfl
theorem yfu {s : ByteArray} {k v m : Nat} {r : B} (hv : v ≤ m) (hm : m ≤ 18446744073709551615) (h : AtB s k (uintB v ++ r)) : ∃ k', (rdB s).num m k = (v, 0, k, k') ∧ AtB s k' r := by
 have h1 := ydi (most := m) h.2 (by omega) hv
 refine ⟨k + (uintB v).length, ?_, h.next⟩
 show ((uRes m k _).1, (uRes m k _).2.1, k, (uRes m k _).2.2.2) = _
 rw [h1]
theorem sum_atB {s : ByteArray} {k x : Nat} {r : B} (hx : x ≤ 18446744073709551615) (h : AtB s k (wordB x 8 ++ r)) : ∃ k', (rdB s).sum k = (x, 0, k, k') ∧ AtB s k' r := by
 have h1 := ydl (x := x) h.2 (by omega)
 refine ⟨k + 8, ?_, by have := h.next; rwa [zml] at this⟩
 show ((wRes k s).1, (wRes k s).2.1, k, (wRes k s).2.2.2) = _
 rw [h1]
theorem yfv {s : ByteArray} : ∀ (M P : List (B × B)) (k : Nat) (r : B), (∀ p ∈ M, p.1.length ≤ 65536 ∧ p.2.length ≤ 65536) → AtB s k ((M.flatMap (fun p => [CodeM.textB p.1, CodeM.textB p.2])).flatten ++ r) → ∃ k' x, ndsF (rdB s) M.length k P = (P ++ M, 0, x, k') ∧ AtB s k' r
 | [], P, k, r, _, h => ⟨k, 0, by simp [ndsF], by simpa using h⟩
 | p :: M, P, k, r, hp, h => by
   have h0 := hp p (by simp)
   rw [List.flatMap_cons, List.flatten_append, List.append_assoc] at h
   simp only [List.flatten_cons, List.flatten_nil, List.append_nil, List.append_assoc] at h
   obtain ⟨k1, e1, a1⟩ := yft h0.1 h
   obtain ⟨k2, e2, a2⟩ := yft h0.2 a1
   have e2' : (rdB s).span k1 = (p.2, 0, k1, k2) := e2
   obtain ⟨k3, x, e3, a3⟩ := yfv M (P ++ [(p.1, p.2)]) k2 r (fun q hq => hp q (by simp [hq])) a2
   refine ⟨k3, x, ?_, a3⟩
   rw [List.length_cons, ndsF]
   simp only [e1, e2', ne_eq, not_true_eq_false, if_false]
   rw [e3]
   simp
theorem yfw {s : ByteArray} {e : EvG} (h : FitB e) {k : Nat} {r : B} (ha : AtB s k ((partB e 3).flatten ++ r)) : ∃ k' x, zvi (rdB s) k = (e.needs, 0, x, k') ∧ AtB s k' r := by
 have e3 : partB e 3 = uintB e.needs.length :: e.needs.flatMap (fun p => [CodeM.textB p.1, CodeM.textB p.2]) := by
  unfold partB partG
  simp
 rw [e3, List.flatten_cons, List.append_assoc] at ha
 obtain ⟨k1, e1, a1⟩ := yfu (m := 64) h.needs.1 (by decide) ha
 obtain ⟨k2, x, e2, a2⟩ := yfv e.needs [] k1 r h.needs.2 a1
 refine ⟨k2, x, ?_, a2⟩
 unfold zvi
 simp only [e1, ne_eq, not_true_eq_false, if_false]
 rw [e2]
 rfl
theorem one_atB {s : ByteArray} {e : EvG} (h : FitB e) (x : Int) (r : List Int) (k : Nat) (a : EvG) (hx : x ∈ zrk e.k) (hq : AtB s k ((x :: r).flatMap (fun x => (partB e x).flatten))) :
 (oneF (rdB s) x k a).1 = setF e a x ∧ (oneF (rdB s) x k a).2.1 = 0 ∧ AtB s (oneF (rdB s) x k a).2.2.2 (r.flatMap (fun x => (partB e x).flatten)) := by
 rw [List.flatMap_cons] at hq
 generalize hT : r.flatMap (fun x => (partB e x).flatten) = T at *
 rcases yfq hx with rfl | rfl | rfl | rfl | rfl | rfl | rfl | rfl | rfl | rfl
 · have e0 : (partB e 0).flatten = CodeM.textB e.who := by simp [partB, partG]
   rw [e0] at hq
   obtain ⟨k', e1, a1⟩ := yft (t := e.who) h.who hq
   simp [oneF, setF, e1, a1]
 · have e0 : (partB e 1).flatten = CodeM.textB e.name := by simp [partB, partG]
   rw [e0] at hq
   obtain ⟨k', e1, a1⟩ := yft (t := e.name) h.name hq
   simp [oneF, setF, e1, a1]
 · have e0 : (partB e 2).flatten = CodeM.textB e.ver := by simp [partB, partG]
   rw [e0] at hq
   obtain ⟨k', e1, a1⟩ := yft (t := e.ver) h.ver hq
   simp [oneF, setF, e1, a1]
 · obtain ⟨k', x, e1, a1⟩ := yfw h hq
   simp [oneF, setF, e1, a1]
 · have e0 : (partB e 4).flatten = wordB e.sum 8 := by simp [partB, partG]
   rw [e0] at hq
   obtain ⟨k', e1, a1⟩ := sum_atB (x := e.sum) h.sum hq
   simp [oneF, setF, e1, a1]
 · have e0 : (partB e 5).flatten = uintB e.n := by simp [partB, partG]
   rw [e0] at hq
   obtain ⟨k', e1, a1⟩ := yfu (v := e.n) (m := 4294967295) h.n (by decide) hq
   have h2 : e.n % 4294967296 = e.n := Nat.mod_eq_of_lt (by have := h.n; omega)
   simp [oneF, setF, shortF, e1, a1, h2]
 · have e0 : (partB e 6).flatten = uintB e.size := by simp [partB, partG]
   rw [e0] at hq
   obtain ⟨k', e1, a1⟩ := yfu (v := e.size) (m := 4294967295) h.size (by decide) hq
   have h2 : e.size % 4294967296 = e.size := Nat.mod_eq_of_lt (by have := h.size; omega)
   simp [oneF, setF, shortF, e1, a1, h2]
 · have e0 : (partB e 7).flatten = CodeM.textB e.holder := by simp [partB, partG]
   rw [e0] at hq
   obtain ⟨k', e1, a1⟩ := yft (t := e.holder) h.holder hq
   simp [oneF, setF, e1, a1]
 · have e0 : (partB e 8).flatten = CodeM.textB e.note := by simp [partB, partG]
   rw [e0] at hq
   obtain ⟨k', e1, a1⟩ := yft (t := e.note) h.note hq
   simp [oneF, setF, e1, a1]
 · have e0 : (partB e 9).flatten = CodeM.textB e.note := by simp [partB, partG]
   rw [e0] at hq
   obtain ⟨k', e1, a1⟩ := yft (t := e.note) h.note hq
   have e1' : (rdB s).note k = (e.note, 0, k, k') := e1
   simp [oneF, setF, e1', a1]
theorem yfx {e : EvG} (h : FitB e) (hs : sameE (zst e (zrk e.k)) (kindE e.k) = true) (hk : 1 ≤ e.k ∧ e.k ≤ 10) (hm : mayD e = true) : readD (str (znt e (zrk e.k))) = (atE e none 0, true, 0, 0) := by
 obtain ⟨s, hS⟩ : ∃ s, s = str (znt e (zrk e.k)) := ⟨_, rfl⟩
 rw [← hS]
 have hd : s.data.toList = UInt8.ofNat e.k :: (zrk e.k).flatMap (fun x => (partB e x).flatten) := by rw [hS]; rfl
 have hsz : s.size = 1 + ((zrk e.k).flatMap (fun x => (partB e x).flatten)).length := by
  have := congrArg List.length hd
  rw [List.length_cons] at this
  have e2 : s.data.toList.length = s.size := by simp
  omega
 have hf : fstR s = (e.k, 0, 1) := by
  unfold fstR
  rw [dif_pos (by omega)]
  have h0 : s[0]'(by omega) = UInt8.ofNat e.k := by
   have e1 : s.data.toList[0]'(by simp; omega) = UInt8.ofNat e.k := by simp [hd]
   rw [← e1]
   rfl
  rw [h0]
  congr 1
  simp
  omega
 have ha : AtB s 1 ((zrk e.k).flatMap (fun x => (partB e x).flatten)) := ⟨by omega, by rw [hd]; rfl⟩
 obtain ⟨h1, h2, h3⟩ := yfh (rdB s) e (fun k L => AtB s k (L.flatMap (fun x => (partB e x).flatten))) (zrk e.k) (fun x r y a hx hq => one_atB h x r y a hx hq) (zrk e.k) 1 (zG e.k) (fun x hx => hx) ha
 have hal := ycw s (zrk e.k) 1 (zG e.k) (by omega)
 have h2' : (foldR s (zrk e.k) 1 (zG e.k)).2.1 = 0 := by rw [← hal.er]; exact h2
 have h1' : (foldR s (zrk e.k) 1 (zG e.k)).1 = atE e none 0 := by rw [← hal.val h2', h1, yfg e hs hk]
 have h3' : ¬ (foldR s (zrk e.k) 1 (zG e.k)).2.2.2 < s.size := by
  rw [← hal.nx]
  have hl := congrArg List.length h3.2
  rw [List.length_drop] at hl
  have e2 : s.data.toList.length = s.size := by simp
  simp only [List.flatMap_nil, List.length_nil] at hl
  omega
 have hne : zrk e.k ≠ [] := by
  obtain ⟨k1, k2⟩ := hk
  rcases (by omega : e.k = 1 ∨ e.k = 2 ∨ e.k = 3 ∨ e.k = 4 ∨ e.k = 5 ∨ e.k = 6 ∨ e.k = 7 ∨ e.k = 8 ∨ e.k = 9 ∨ e.k = 10) with h | h | h | h | h | h | h | h | h | h <;> rw [h] <;> decide
 have hz : EvA.kindV e.k = zG e.k := rfl
 have hmay : mayD (atE e none 0) = true := hm
 unfold readD
 simp only [hf, hz]
 rw [if_neg (by simp), if_neg hne, if_neg (by simpa using h2'), if_neg h3', h1', hmay]
 rfl
end EvL
end
end Go.Proofs.YtfbegbmjmhnplaaGreatDoor
