/-
  What the proof of EvBoth stands on, part 29.
-/
import Derived.Test.YtfbegbmjmhnplaaGreatDoorT28
set_option linter.unusedSimpArgs false
set_option linter.unusedVariables false
set_option maxHeartbeats 16000000
namespace Go.Proofs.YtfbegbmjmhnplaaGreatDoor
open Go.Lib (hid)
section
open Go.RowKit Go.Sort
namespace EvA
open StrC EvF EvC TextR CodeM CodeC
def wordsL : List B := [[], [97, 99, 99, 111, 117, 110, 116], [112, 117, 98, 108, 105, 115, 104], [121, 97, 110, 107], [117, 110, 121, 97, 110, 107], [100, 101, 112, 114, 101, 99, 97, 116, 101], [111, 119, 110], [100, 105, 115, 111, 119, 110], [116, 101, 97, 109], [106, 111, 105, 110], [108, 101, 97, 118, 101]]
def kw (k : Nat) : B := wordsL.getD k []
theorem zze (k : Nat) : (kw k).length ≤ 9 := by
 by_cases h : k < 11
 · rcases (by omega : k = 0 ∨ k = 1 ∨ k = 2 ∨ k = 3 ∨ k = 4 ∨ k = 5 ∨ k = 6 ∨ k = 7 ∨ k = 8 ∨ k = 9 ∨ k = 10) with rfl | rfl | rfl | rfl | rfl | rfl | rfl | rfl | rfl | rfl | rfl <;> decide
 · unfold kw
   rw [List.getD_eq_getElem?_getD, List.getElem?_eq_none (by show 11 ≤ k; omega)]
   decide
theorem zzf {l : B} {k : Nat} (hk : k < l.length) : hexB (l.take (k + 1)) = hexB (l.take k) ++ SumM.digits (l.getD k 0).toNat 2 := by
 have e : l.getD k 0 = l[k] := by simp [hk]
 unfold hexB
 rw [List.take_add_one, List.getElem?_eq_getElem hk, List.flatMap_append, e]
 simp only [Option.toList_some, List.flatMap_cons, List.flatMap_nil, List.append_nil]
theorem zzg {l : B} (h : l = []) : noteT l = [45] := by unfold noteT; rw [if_pos h]
theorem zzh {l : B} (h : ¬ l = []) : noteT l = hexB l := by unfold noteT; rw [if_neg h]
theorem zzi {l : B} (h : l = []) : (str l).toList.isEmpty = true := by rw [ByteArray.toList_eq, zbn, h]; rfl
theorem zzj {l : B} (h : ¬ l = []) : (str l).toList.isEmpty = false := by rw [ByteArray.toList_eq, zbn]; simp [h]
end EvA
end
section
open Go.RowKit Go.Sort
namespace EvA
open StrC EvF EvC TextR CodeM CodeC
def allR (s : ByteArray) (k : Nat) (e : EvG) (x : Int) : EvG × Nat × Nat × Nat :=
 if x = 3 then ({ e with needs := (zve s k).1 }, (zve s k).2.1, (zve s k).2.2.1, (zve s k).2.2.2) else fldR s k e x
theorem t_len (most k : Nat) (s : ByteArray) : (cutB s (tRes most k s).1 (tRes most k s).2.1).length ≤ most := by
 unfold tRes cutB
 simp only
 split
 · split
   · simp
   · have := zvd (most := most) (k := k) (l := s.data.toList.drop k)
     simp
     omega
 · simp
theorem zzk (s : ByteArray) : ∀ (n k : Nat) (P : List (B × B)), (ndsR s n k P).1.length ≤ P.length + n
 | 0, k, P => Nat.le_refl _
 | n + 1, k, P => by
   rw [ndsR]
   simp only
   split
   · exact Nat.le_add_right _ _
   · split
     · exact Nat.le_add_right _ _
     · have := zzk s n (tRes 65536 (tRes 65536 k s).2.2.2.2 s).2.2.2.2 (P ++ [(cutB s (tRes 65536 k s).1 (tRes 65536 k s).2.1, cutB s (tRes 65536 (tRes 65536 k s).2.2.2.2 s).1 (tRes 65536 (tRes 65536 k s).2.2.2.2 s).2.1)])
       simp at this
       omega
theorem few_put {P : List (B × B)} {u : B × B} (h : ∀ x ∈ P, x.1.length ≤ 65536 ∧ x.2.length ≤ 65536) (hu : u.1.length ≤ 65536 ∧ u.2.length ≤ 65536) : ∀ x ∈ P ++ [u], x.1.length ≤ 65536 ∧ x.2.length ≤ 65536 := by
 intro x hx
 rcases List.mem_append.1 hx with hx | hx
 · exact h x hx
 · rw [List.mem_singleton.1 hx]; exact hu
theorem zzl (s : ByteArray) : ∀ (n k : Nat) (P : List (B × B)), (∀ x ∈ P, x.1.length ≤ 65536 ∧ x.2.length ≤ 65536) → ∀ x ∈ (ndsR s n k P).1, x.1.length ≤ 65536 ∧ x.2.length ≤ 65536
 | 0, k, P, h => h
 | n + 1, k, P, h => by
   rw [ndsR]
   simp only
   split
   · exact h
   · split
     · exact h
     · have h1 := t_len 65536 k s
       have h2 := t_len 65536 (tRes 65536 k s).2.2.2.2 s
       generalize cutB s (tRes 65536 k s).1 (tRes 65536 k s).2.1 = A at h1 ⊢
       generalize cutB s (tRes 65536 (tRes 65536 k s).2.2.2.2 s).1 (tRes 65536 (tRes 65536 k s).2.2.2.2 s).2.1 = C at h2 ⊢
       exact zzl s n _ _ (few_put (u := (A, C)) h ⟨h1, h2⟩)
theorem zzm (s : ByteArray) (k : Nat) : (zve s k).1.length ≤ 64 := by
 unfold zve
 simp only
 split
 · exact Nat.zero_le _
 · have h1 := zzk s (uRes 64 k (s.data.toList.drop k)).1 (uRes 64 k (s.data.toList.drop k)).2.2.2 []
   have h2 := zvd (most := 64) (k := k) (l := s.data.toList.drop k)
   simp at h1
   omega
theorem zzn (s : ByteArray) (k : Nat) : ∀ x ∈ (zve s k).1, x.1.length ≤ 65536 ∧ x.2.length ≤ 65536 := by
 unfold zve
 simp only
 split
 · intro x hx; cases hx
 · exact zzl s _ _ _ (fun x hx => by cases hx)
theorem zzo (s : ByteArray) (k : Nat) (e : EvG) (x : Int) : (fldR s k e x).1.na = e.na ∧ (fldR s k e x).1.nc = e.nc ∧ (fldR s k e x).1.needs = e.needs ∧ (fldR s k e x).1.k = e.k := by
 unfold fldR
 simp only
 (repeat' split) <;> exact ⟨rfl, rfl, rfl, rfl⟩
end EvA
end
section
open Go.RowKit Go.Sort
namespace EvA
open StrC EvF EvC TextR CodeM CodeC
def foldR (s : ByteArray) : List Int → Nat → EvG → EvG × Nat × Nat × Nat
 | [], k, e => (e, 0, 0, k)
 | x :: r, k, e => if (allR s k e x).2.1 ≠ 0 then allR s k e x else foldR s r (allR s k e x).2.2.2 (allR s k e x).1
def kindV (k : Nat) : EvG := ⟨k, [], [], [], none, 0, [], 0, 0, 0, [], []⟩
def fstR (s : ByteArray) : Nat × Nat × Nat := if h : 0 < s.size then (s[0].toNat, 0, 1) else (0, 20, 0)
def readD (s : ByteArray) : EvG × Bool × Nat × Nat :=
 let c := fstR s
 let f := foldR s (zrk c.1) c.2.2 (kindV c.1)
 if c.2.1 ≠ 0 then (kindV 0, false, 0, c.2.1)
 else if zrk c.1 = [] then (kindV 0, false, 0, 0)
 else if f.2.1 ≠ 0 then (kindV 0, false, f.2.2.1, f.2.1)
 else if f.2.2.2 < s.size then (kindV 0, false, f.2.2.2, 23)
 else if mayD f.1 = false then (kindV 0, false, 0, 0)
 else (f.1, true, 0, 0)
structure Sh (e : EvG) : Prop where
 k : e.k ≤ 255
 sum : e.sum ≤ 18446744073709551615
 n : e.n ≤ 4294967295
 size : e.size ≤ 4294967295
 who : e.who.length ≤ 65536
 name : e.name.length ≤ 65536
 ver : e.ver.length ≤ 65536
 holder : e.holder.length ≤ 65536
 note : e.note.length ≤ 65536
 few : e.needs.length ≤ 64
 short : ∀ x ∈ e.needs, x.1.length ≤ 65536 ∧ x.2.length ≤ 65536
theorem zzp {k : Nat} (h : k ≤ 255) : Sh (kindV k) :=
 ⟨h, Nat.zero_le _, Nat.zero_le _, Nat.zero_le _, Nat.zero_le _, Nat.zero_le _, Nat.zero_le _, Nat.zero_le _, Nat.zero_le _, Nat.zero_le _, fun x hx => by cases hx⟩
theorem zzq (k : Nat) (s : ByteArray) : (wRes k s).1 ≤ 18446744073709551615 := by
 unfold wRes
 split
 · exact Nat.zero_le _
 · have h := wv_lt ((s.data.toList.drop k).take 8)
   have h2 : ((s.data.toList.drop k).take 8).length ≤ 8 := by simp; omega
   have h3 : 256 ^ ((s.data.toList.drop k).take 8).length ≤ 256 ^ 8 := Nat.pow_le_pow_right (by decide) h2
   have h4 : (256 : Nat) ^ 8 = 18446744073709551616 := by decide
   simp only
   omega
theorem zzr {s : ByteArray} {k : Nat} {e : EvG} (x : Int) (h : Sh e) : Sh (allR s k e x).1 := by
 obtain ⟨h1, h2, h3, h4, h5, h6, h7, h8, h9, h10, h11⟩ := h
 have ht := t_len 65536 k s
 have hu := zvd (most := 4294967295) (k := k) (l := s.data.toList.drop k)
 have hw := zzq k s
 unfold allR
 split
 · exact ⟨h1, h2, h3, h4, h5, h6, h7, h8, h9, zzm s k, zzn s k⟩
 · unfold fldR
   simp only
   split
   · exact ⟨h1, h2, h3, h4, ht, h6, h7, h8, h9, h10, h11⟩
   split
   · exact ⟨h1, h2, h3, h4, h5, ht, h7, h8, h9, h10, h11⟩
   split
   · exact ⟨h1, h2, h3, h4, h5, h6, ht, h8, h9, h10, h11⟩
   split
   · exact ⟨h1, hw, h3, h4, h5, h6, h7, h8, h9, h10, h11⟩
   split
   · exact ⟨h1, h2, hu, h4, h5, h6, h7, h8, h9, h10, h11⟩
   split
   · exact ⟨h1, h2, h3, hu, h5, h6, h7, h8, h9, h10, h11⟩
   split
   · exact ⟨h1, h2, h3, h4, h5, h6, h7, ht, h9, h10, h11⟩
   · exact ⟨h1, h2, h3, h4, h5, h6, h7, h8, ht, h10, h11⟩
theorem t_in {k : Nat} {s : ByteArray} (hk : k ≤ s.size) : (tRes 65536 k s).2.2.2.2 ≤ s.size := by
 rcases zur 65536 k s hk with ⟨e, -, -, h⟩ | ⟨a, q, -, hq, -, h⟩
 · rw [h]; exact hk
 · rw [h]; exact hq
theorem u_in {m k : Nat} {s : ByteArray} (hk : k ≤ s.size) : (uRes m k (s.data.toList.drop k)).2.2.2 ≤ s.size := by
 rcases zmv m k s hk with ⟨e, he, he2, hu⟩ | ⟨v, d, hv, hd, hu⟩
 · rw [hu]; exact hk
 · rw [hu]; simp only; omega
theorem w_in {k : Nat} {s : ByteArray} (hk : k ≤ s.size) : (wRes k s).2.2.2 ≤ s.size := by
 unfold wRes
 split
 · exact hk
 · simp only; omega
theorem zzs {s : ByteArray} : ∀ (n k : Nat) (P : List (B × B)), k ≤ s.size → (ndsR s n k P).2.2.2 ≤ s.size
 | 0, k, P, h => h
 | n + 1, k, P, h => by
   have h1 := t_in h
   have h2 := t_in h1
   rw [ndsR]
   simp only
   split
   · exact h1
   · split
     · exact h2
     · exact zzs n _ _ h2
theorem zzt {s : ByteArray} {k : Nat} {e : EvG} (x : Int) (hk : k ≤ s.size) : (allR s k e x).2.2.2 ≤ s.size := by
 have ht := t_in hk
 have hu := u_in (m := 4294967295) hk
 have hw := w_in hk
 unfold allR
 split
 · unfold zve
   have h6 := u_in (m := 64) hk
   simp only
   split
   · exact h6
   · exact zzs _ _ _ h6
 · unfold fldR
   simp only
   (repeat' split) <;> assumption
theorem all_k {s : ByteArray} {k : Nat} {e : EvG} (x : Int) : (allR s k e x).1.k = e.k := by
 unfold allR
 split
 · rfl
 · exact (zzo s k e x).2.2.2
theorem zzu {s : ByteArray} : ∀ (L : List Int) (k : Nat) (e : EvG), Sh e → Sh (foldR s L k e).1
 | [], k, e, h => h
 | x :: r, k, e, h => by
   rw [foldR]
   split
   · exact zzr x h
   · exact zzu r _ _ (zzr x h)
end EvA
end
section
open Go.RowKit Go.Sort
namespace EvL
open StrC EvA EvF EvS EvC CodeM CodeC
open VerC (isErr)
def zzv (w : B) : Nat := ((List.range 11).find? (fun k => decide (EvA.wordsL.getD k [] = w))).getD 0
def capB (l : B) : B := l.take 140737488351232
theorem zzw {l : B} (h : l.length ≤ 140737488351232) : capB l = l := List.take_of_length_le h
theorem zzx (l : B) : (capB l).length ≤ 140737488351232 := by unfold capB; rw [List.length_take]; omega
def noteL (x : B) : B × Nat × Nat × B := if fstB 32 x = [45] then ([], 0, 0, rstB 32 x) else match zok (fstB 32 x) with
 | some t => (t, 0, 0, rstB 32 x)
 | none => ([], 1, 0, rstB 32 x)
def sumL (x : B) : Nat × Nat × Nat × B := match zok (fstB 32 x) with
 | some t => ((wRes 0 (str t)).1, (wRes 0 (str t)).2.1, 0, rstB 32 x)
 | none => (0, 1, 0, rstB 32 x)
def numL (m : Nat) (x : B) : Nat × Nat × Nat × B := match Lib.parseUintB 64 (fstB 32 x) with
 | .ok u => if m < u then (0, 1, 0, rstB 32 x) else (u, 0, 0, rstB 32 x)
 | .range => (18446744073709551615, 1, 0, rstB 32 x)
 | _ => (0, 1, 0, rstB 32 x)
def lineR : RdF B where
 kind := fun x => (zzv (fstB 32 x), 0, 0, rstB 32 x)
 text := fun x => (capB (fstB 32 x), 0, 0, rstB 32 x)
 span := fun x => (capB (swapB 95 32 (fstB 32 x)), 0, 0, rstB 32 x)
 note := noteL
 sum := sumL
 num := numL
structure LnV (b : Nat) (w : World) : Prop where
 syn : ∃ v, w.cell? ⟨3, 0, none⟩ = some v ∧ isErr v
 ran : ∃ v, w.cell? ⟨4, 0, none⟩ = some v ∧ isErr v
 words : ∀ k, k < 11 → w.cell? ⟨0, k, none⟩ = some (.string (str (EvA.wordsL.getD k [])))
 low : 3 < b ∧ 4 < b ∧ 0 < b
theorem LnV.on {b : Nat} {w w' : World} (h : LnV b w) (hw : ∀ j, j < b → w'.heap[j]? = w.heap[j]?) : LnV b w' := by
 obtain ⟨⟨v, hv, ev⟩, ⟨u, hu, eu⟩, hk, h1, h2, h3⟩ := h
 exact ⟨⟨v, (World.cell?_of_block (hw _ h1)).trans hv, ev⟩, ⟨u, (World.cell?_of_block (hw _ h2)).trans hu, eu⟩, fun k hk' => (World.cell?_of_block (hw _ h3)).trans (hk k hk'), h1, h2, h3⟩
def StL (b : Nat) (W : World) (x : B) : Prop := W.heap[b]? = some (lnO x) ∧ x.length ≤ 140737488351232 ∧ LnV b W
def IsL (W0 W : World) (v : Value) (c a : Nat) : Prop := (c = 0 ∧ v = .nilIface) ∨ (c ≠ 0 ∧ ∃ t u, v = .iface t u)
theorem srcL (b : Nat) : EvS.Src b (b + 1) (StL b) IsL where
 lt := by omega
 stay := fun ⟨h1, h2, h3⟩ hw => ⟨(hw b (by omega)).trans h1, h2, h3.on (fun j hj => hw j (by omega))⟩
 keep := fun h _ _ => h
 up := fun h _ => h
 none_ := fun h => by
  rcases h with h | ⟨h, -⟩
  · exact h.2
  · exact absurd rfl h
 nil_ := .inl ⟨rfl, rfl⟩
 some_ := fun hc h => by
  rcases h with ⟨h, -⟩ | ⟨-, h⟩
  · exact absurd h hc
  · exact h
theorem StL.next {b : Nat} {W W' : World} {x : B} (h : StL b W x) (h1 : W'.heap[b]? = some (lnO (rstB 32 x))) (h2 : Oth b W W') : StL b W' (rstB 32 x) :=
 ⟨h1, Nat.le_trans (zog 32 x) h.2.1, h.2.2.on (fun j hj => h2.block j (by have := zpf h.1; omega) (by omega))⟩
theorem StL.gr {b : Nat} {W W' : World} {x : B} (h : StL b W x) (hb : Below W.heap.size W W') : StL b W' x :=
 ⟨(hb.block b (zpf h.1)).trans h.1, h.2.1, h.2.2.on (fun j hj => hb.block j (by have := zpf h.1; omega))⟩
abbrev rdL (b : Nat) : RdFn := { fk := 40, bk := #[ptS b], ck := #[], ft := 41, bt := #[ptS b], ct := #[], fs := 42, bs := #[ptS b], cs := #[], fo := 43, bo := #[ptS b], co := #[], fu := 44, bu := #[ptS b], cu := #[], fn := 45, bn := #[ptS b], cn := #[] }
theorem zzy {W : World} {b : Nat} {s : ByteArray} (h : W.heap[b]? = some (.cells #[.bool true, .string s, .int .i64 0] 126)) : IsRdr W b 0 s 0 := ⟨by simp [World.cell?, h], by simp [World.cell?, h], by simp [World.cell?, h], zpg h⟩
theorem zzz (b : Nat) : Part (fun t : B => .string (str t)) b (b + 1) (StL b) IsL 41 #[ptS b] lineR.text := by
 intro W x hL hst
 have hcap : capB (fstB 32 x) = fstB 32 x := zzw (Nat.le_trans (zoh 32 x) hst.2.1)
 have HR : Hid (lineR.text x = (fstB 32 x, 0, 0, rstB 32 x)) := hid (by show (capB _, 0, 0, _) = _; rw [hcap])
 have HP := hid (zpk b x W hst.1 hst.2.1)
 have HS := hid hst
 clear hst hcap
 go_enter Tryz.func41, Tryz.ntmps41
 go_wp2_with fail
 refine HP.out.mono ?_
 rintro e w' ⟨rfl, h1, h2⟩
 have HN := hid (HS.out.next h1 h2)
 have HO := hid h2
 clear h1 h2
 go_wp2_with fail
 go_ret2
 rw [HR.out]
 exact ⟨_, rfl, .inl ⟨rfl, rfl⟩, HN.out, HO.out⟩
theorem yaa (b : Nat) : Part (fun t : B => .string (str t)) b (b + 1) (StL b) IsL 42 #[ptS b] lineR.span := by
 intro W x hL hst
 have hl := Nat.le_trans (zoh 32 x) hst.2.1
 have hcap : capB (swapB 95 32 (fstB 32 x)) = swapB 95 32 (fstB 32 x) := zzw (by rw [zod]; exact hl)
 have HR : Hid (lineR.span x = (swapB 95 32 (fstB 32 x), 0, 0, rstB 32 x)) := hid (by show (capB _, 0, 0, _) = _; rw [hcap])
 have HP := hid (zpk b x W hst.1 hst.2.1)
 have HRP := hid (fun W => zrj 95 32 (by decide) (fstB 32 x) W hl)
 have HS := hid hst
 clear hst hcap hl
 go_enter Tryz.func42, Tryz.ntmps42
 go_wp2_with fail
 refine HP.out.mono ?_
 rintro e w' ⟨rfl, h1, h2⟩
 have HN := hid (HS.out.next h1 h2)
 have HO := hid h2
 have HQ := hid (HRP.out w')
 clear h1 h2
 go_wp2_with fail
 refine HQ.out.mono ?_
 rintro e w2 ⟨rfl, hb⟩
 have HN2 := hid (HN.out.gr hb)
 have HO2 := hid (HO.out.trans (Oth.of_below hb))
 clear hb
 go_wp2_with fail
 go_ret2
 rw [HR.out]
 exact ⟨_, rfl, .inl ⟨rfl, rfl⟩, HN2.out, HO2.out⟩
theorem yab (b : Nat) : Part (fun t : B => .string (str t)) b (b + 1) (StL b) IsL 43 #[ptS b] lineR.note := by
 intro W x hL hst
 have HP := hid (zpk b x W hst.1 hst.2.1)
 have HS := hid hst
 have HR : Hid (lineR.note x = if fstB 32 x = [45] then ([], 0, 0, rstB 32 x) else match zok (fstB 32 x) with
  | some t => (t, 0, 0, rstB 32 x)
  | none => ([], 1, 0, rstB 32 x)) := hid rfl
 have hx : ∀ W', LnV b W' → Calls Tryz.prog 97 #[.string (str (fstB 32 x))] W' (UnE (zok (fstB 32 x)) W') := fun W' h => zqz _ W' h.syn (Nat.le_trans (zoh 32 x) hst.2.1)
 have HX := hid hx
 clear hst hx
 generalize fstB 32 x = A at *
 generalize zok A = u at *
 by_cases hA : A = [45]
 · have k1 : ((str A).toList == ([45] : List UInt8)) = true := (zbt A [45]).trans (decide_eq_true hA)
   rw [if_pos hA] at HR
   clear hA
   go_enter Tryz.func43, Tryz.ntmps43
   go_wp2_with fail
   refine HP.out.mono ?_
   rintro e w' ⟨rfl, h1, h2⟩
   have HN := hid (HS.out.next h1 h2)
   have HO := hid h2
   clear h1 h2
   go_wp2_with fail
   go_ret2
   rw [HR.out]
   exact ⟨_, rfl, .inl ⟨rfl, rfl⟩, HN.out, HO.out⟩
 · have k1 : ((str A).toList == ([45] : List UInt8)) = false := (zbt A [45]).trans (decide_eq_false hA)
   rw [if_neg hA] at HR
   clear hA
   go_enter Tryz.func43, Tryz.ntmps43
   go_wp2_with fail
   refine HP.out.mono ?_
   rintro e w' ⟨rfl, h1, h2⟩
   have HN := hid (HS.out.next h1 h2)
   have HO := hid h2
   have HQ := hid (HX.out w' (HN.out.2.2))
   clear h1 h2
   go_wp2_with fail
   refine HQ.out.mono ?_
   rintro e w2 ⟨hb, ⟨t, hu, rfl⟩ | ⟨hu, T, p, rfl⟩⟩
   · have HN2 := hid (HN.out.gr hb)
     have HO2 := hid (HO.out.trans (Oth.of_below hb))
     have HU := hid hu
     clear hb hu
     go_wp2_with fail
     go_ret2
     rw [HR.out, HU.out]
     exact ⟨_, rfl, .inl ⟨rfl, rfl⟩, HN2.out, HO2.out⟩
   · have HN2 := hid (HN.out.gr hb)
     have HO2 := hid (HO.out.trans (Oth.of_below hb))
     have HU := hid hu
     clear hb hu
     go_wp2_with fail
     go_ret2
     rw [HR.out, HU.out]
     exact ⟨_, rfl, .inr ⟨Nat.one_ne_zero, _, _, rfl⟩, HN2.out, HO2.out⟩
theorem yac (b : Nat) : Part (fun n : Nat => .int .u64 n) b (b + 1) (StL b) IsL 44 #[ptS b] lineR.sum := by
 intro W x hL hst
 have HP := hid (zpk b x W hst.1 hst.2.1)
 have HS := hid hst
 have HR : Hid (lineR.sum x = match zok (fstB 32 x) with
  | some t => ((wRes 0 (str t)).1, (wRes 0 (str t)).2.1, 0, rstB 32 x)
  | none => (0, 1, 0, rstB 32 x)) := hid rfl
 have hx : ∀ W', LnV b W' → Calls Tryz.prog 97 #[.string (str (fstB 32 x))] W' (UnE (zok (fstB 32 x)) W') := fun W' h => zqz _ W' h.syn (Nat.le_trans (zoh 32 x) hst.2.1)
 have HX := hid hx
 have HUL : Hid (∀ t, zok (fstB 32 x) = some t → (str t).size ≤ 512) := hid (fun t h => by rw [zbm]; exact zor h)
 clear hst hx
 generalize fstB 32 x = A at *
 generalize zok A = u at *
 go_enter Tryz.func44, Tryz.ntmps44
 go_wp2_with fail
 refine HP.out.mono ?_
 rintro e w' ⟨rfl, h1, h2⟩
 have HN := hid (HS.out.next h1 h2)
 have HO := hid h2
 have HQ := hid (HX.out w' (HN.out.2.2))
 clear h1 h2
 go_wp2_with fail
 refine HQ.out.mono ?_
 rintro e w2 ⟨hb, ⟨t, hu, rfl⟩ | ⟨hu, T, p, rfl⟩⟩
 · have HN2 := hid (HN.out.gr hb)
   have HO2 := hid (HO.out.trans (Oth.of_below hb))
   have HU := hid hu
   have HT := hid (HUL.out t hu)
   clear hb hu
   have HNW := hid (zuh (str t) w2)
   go_wp2_with fail
   refine HNW.out.mono ?_
   rintro e w3 ⟨rfl, rfl⟩
   have hn3 := heap_alloc_new w2 (.cells #[.bool true, .string (str t), .int .i64 0] 126)
   have hb3 := alW w2 (.cells #[.bool true, .string (str t), .int .i64 0] 126)
   have HN3 := hid (HN2.out.gr hb3)
   have HO3 := hid (HO2.out.trans (Oth.of_below hb3))
   have HW := hid (zva w2.heap.size 0 (str t) 0 _ (Nat.zero_le _) (Nat.le_trans HT.out (by decide)) (zzy hn3))
   generalize w2.alloc (.cells #[.bool true, .string (str t), .int .i64 0] 126) = w3 at *
   clear hn3 hb3
   go_wp2_with fail
   refine HW.out.mono ?_
   rintro e w4 ⟨ev, rfl, hie, hr4, hb4⟩
   have hbl : b < w2.heap.size := zpf HN2.out.1
   have HN4 : Hid (StL b w4 (rstB 32 x)) := hid ⟨(hb4.block b (zpf HN3.out.1) (by omega)).trans HN3.out.1, HN3.out.2.1, HN3.out.2.2.on (fun j hj => hb4.block j (by have := zpf HN3.out.1; omega) (by omega))⟩
   have HO4 : Hid (Oth b W w4) := hid (by
    have h0 := HO2.out
    have h3 := HO3.out
    exact ⟨hb4.os.trans h3.os, hb4.tape.trans h3.tape, hb4.output.trans h3.output, Nat.le_trans h3.size hb4.size, fun k hk hkb => (hb4.block k (Nat.lt_of_lt_of_le hk h3.size) (by have := h0.size; omega)).trans (h3.block k hk hkb)⟩)
   have HI : Hid (IsL W w4 ev (wRes 0 (str t)).2.1 0) := hid (by
    rcases hie with h | ⟨h1, f, h2, -⟩
    · exact .inl h
    · exact .inr ⟨h1, _, _, h2⟩)
   clear hie hr4 hb4 hbl
   go_wp2_with fail
   go_ret2
   rw [HR.out, HU.out]
   exact ⟨_, rfl, HI.out, HN4.out, HO4.out⟩
 · have HN2 := hid (HN.out.gr hb)
   have HO2 := hid (HO.out.trans (Oth.of_below hb))
   have HU := hid hu
   clear hb hu
   go_wp2_with fail
   go_ret2
   rw [HR.out, HU.out]
   exact ⟨_, rfl, .inr ⟨Nat.one_ne_zero, _, _, rfl⟩, HN2.out, HO2.out⟩
def PnE (o : Lib.NumEnd Nat) (w : World) (e : Ending) (w' : World) : Prop := Below w.heap.size w w' ∧ ((∃ u, o = .ok u ∧ u ≤ 18446744073709551615 ∧ e = .returned (.tuple #[.int .u64 u, .nilIface])) ∨ (o = .range ∧ ∃ T p, e = .returned (.tuple #[.int .u64 18446744073709551615, .iface T p])) ∨ ((∀ u, o ≠ .ok u) ∧ o ≠ .range ∧ ∃ T p, e = .returned (.tuple #[.int .u64 0, .iface T p])))
theorem yad (l : B) (w : World) (b : Nat) (hv : LnV b w) (hl : l.length ≤ 281474976710656) : Calls Tryz.prog 98 #[.string (str l), .int .i64 10, .int .i64 64] w (PnE (Lib.parseUintB 64 l) w) := by
 have hd : (str l).data.toList = l := zbn l
 cases hp : Lib.parseUintB 64 l with
 | ok u =>
   refine (Tryz.strconv_ParseUint_10_at64_ok (str l) (by rw [zbm]; omega) u (by rw [hd]; exact hp) w).mono fun e w' ⟨he, hw⟩ => ⟨?_, .inl ⟨u, rfl, ?_, he⟩⟩
   · rcases hw with rfl | rfl
     · exact Below.refl _ _
     · exact Lib.bytesWorld_below _ _ _
   · exact Lib.parseUintB_le hp
 | range =>
   obtain ⟨v, hc, hev⟩ := hv.ran
   exact (Tryz.strconv_ParseUint_10_at64_range (str l) (by rw [zbm]; omega) (by rw [hd]; exact hp) v w hc hev).mono fun e w' ⟨N, he, _, _, hb⟩ => ⟨hb, .inr (.inl ⟨rfl, _, _, he⟩)⟩
 | _ =>
   obtain ⟨v, hc, hev⟩ := hv.syn
   exact (Tryz.strconv_ParseUint_10_at64_bad (str l) (by rw [zbm]; omega) (Lib.parseUintB 64 l) (by rw [hd]) (fun u h => by rw [hp] at h; cases h) (fun h => by rw [hp] at h; cases h) v w hc hev).mono fun e w' ⟨N, he, _, _, hb⟩ => ⟨hb, .inr (.inr ⟨fun u h => (by cases h), fun h => (by cases h), _, _, he⟩)⟩
theorem yae (b m : Nat) (hm : m ≤ 18446744073709551615) : Part (fun n : Nat => .int .u64 n) b (b + 1) (StL b) IsL 45 #[ptS b, .int .u64 m] (lineR.num m) := by
 intro W x hL hst
 have HP := hid (zpk b x W hst.1 hst.2.1)
 have HS := hid hst
 have HR : Hid (lineR.num m x = match Lib.parseUintB 64 (fstB 32 x) with
  | .ok u => if m < u then (0, 1, 0, rstB 32 x) else (u, 0, 0, rstB 32 x)
  | .range => (18446744073709551615, 1, 0, rstB 32 x)
  | _ => (0, 1, 0, rstB 32 x)) := hid rfl
 have hx : ∀ W', LnV b W' → Calls Tryz.prog 98 #[.string (str (fstB 32 x)), .int .i64 10, .int .i64 64] W' (PnE (Lib.parseUintB 64 (fstB 32 x)) W') := fun W' h => yad _ W' b h (Nat.le_trans (Nat.le_trans (zoh 32 x) hst.2.1) (by decide))
 have HX := hid hx
 clear hst hx
 generalize fstB 32 x = A at *
 generalize Lib.parseUintB 64 A = o at *
 go_enter Tryz.func45, Tryz.ntmps45
 go_wp2_with fail
 refine HP.out.mono ?_
 rintro e w' ⟨rfl, h1, h2⟩
 have HN := hid (HS.out.next h1 h2)
 have HO := hid h2
 have HQ := hid (HX.out w' (HN.out.2.2))
 clear h1 h2
 go_wp2_with fail
 refine HQ.out.mono ?_
 rintro e w2 ⟨hb, ⟨u, hu, hul, rfl⟩ | ⟨hu, T, p, rfl⟩ | ⟨hu, hu2, T, p, rfl⟩⟩
 · have HN2 := hid (HN.out.gr hb)
   have HO2 := hid (HO.out.trans (Oth.of_below hb))
   subst hu
   by_cases hmu : m < u
   · have hd : decide ((m : Int) < (u : Int)) = true := decide_eq_true (by omega)
     have HR2 : Hid (lineR.num m x = (0, 1, 0, rstB 32 x)) := hid (by rw [HR.out]; simp only; rw [if_pos hmu])
     clear hb HR
     go_wp2_with fail
     go_ret2
     rw [HR2.out]
     exact ⟨_, rfl, .inr ⟨Nat.one_ne_zero, _, _, rfl⟩, HN2.out, HO2.out⟩
   · have hd : decide ((m : Int) < (u : Int)) = false := decide_eq_false (by omega)
     have HR2 : Hid (lineR.num m x = (u, 0, 0, rstB 32 x)) := hid (by rw [HR.out]; simp only; rw [if_neg hmu])
     clear hb HR
     go_wp2_with fail
     go_ret2
     rw [HR2.out]
     exact ⟨_, rfl, .inl ⟨rfl, rfl⟩, HN2.out, HO2.out⟩
 · have HN2 := hid (HN.out.gr hb)
   have HO2 := hid (HO.out.trans (Oth.of_below hb))
   subst hu
   have HR2 : Hid (lineR.num m x = (18446744073709551615, 1, 0, rstB 32 x)) := hid HR.out
   clear hb HR
   go_wp2_with fail
   go_ret2
   rw [HR2.out]
   exact ⟨_, rfl, .inr ⟨Nat.one_ne_zero, _, _, rfl⟩, HN2.out, HO2.out⟩
 · have HN2 := hid (HN.out.gr hb)
   have HO2 := hid (HO.out.trans (Oth.of_below hb))
   have HR2 : Hid (lineR.num m x = (0, 1, 0, rstB 32 x)) := hid (by
    rw [HR.out]
    cases o with
    | ok u => exact absurd rfl (hu u)
    | range => exact absurd rfl hu2
    | _ => rfl)
   clear hb HR hu hu2
   go_wp2_with fail
   go_ret2
   rw [HR2.out]
   exact ⟨_, rfl, .inr ⟨Nat.one_ne_zero, _, _, rfl⟩, HN2.out, HO2.out⟩
theorem yaf {w : B} {k : Nat} (hk : k < 11) (h : EvA.wordsL.getD k [] = w) (hn : ∀ j, j < k → EvA.wordsL.getD j [] ≠ w) : zzv w = k := by
 unfold zzv
 have : (List.range 11).find? (fun k => decide (EvA.wordsL.getD k [] = w)) = some k := by
  rw [List.find?_eq_some_iff_getElem]
  refine ⟨by simpa using h, k, by simpa using hk, by simp, fun j hj => ?_⟩
  simpa using hn j hj
 rw [this]
 rfl
theorem find_none {w : B} (hn : ∀ j, j < 11 → EvA.wordsL.getD j [] ≠ w) : zzv w = 0 := by
 unfold zzv
 have : (List.range 11).find? (fun k => decide (EvA.wordsL.getD k [] = w)) = none := by
  rw [List.find?_eq_none]
  intro x hx
  simpa using hn x (by simpa using hx)
 rw [this]
 rfl
theorem yag (w : B) : zzv w < 11 := by
 unfold zzv
 cases h : (List.range 11).find? (fun k => decide (EvA.wordsL.getD k [] = w)) with
 | none => show 0 < 11; decide
 | some k =>
   have := List.mem_of_find?_eq_some h
   simpa using this
abbrev yah : List Value := EvA.wordsL.map (fun t => Value.string (str t))
theorem yai (k : Nat) (hk : k < 11) (W : World) : (Instr.index 133 (.agg yah.toArray) (.int .i64 (k : Int))).run Tryz.prog W = .ok (.string (str (EvA.wordsL.getD k []))) W := by
 rcases (by omega : k = 0 ∨ k = 1 ∨ k = 2 ∨ k = 3 ∨ k = 4 ∨ k = 5 ∨ k = 6 ∨ k = 7 ∨ k = 8 ∨ k = 9 ∨ k = 10) with rfl | rfl | rfl | rfl | rfl | rfl | rfl | rfl | rfl | rfl | rfl <;> kernel_rfl
set_option maxRecDepth 100000 in
theorem yaj (b : Nat) : Part (fun n : Nat => .int .u8 n) b (b + 1) (StL b) IsL 40 #[ptS b] lineR.kind := by
 intro W x hL hst
 have HP := hid (zpk b x W hst.1 hst.2.1)
 have HS := hid hst
 have HR : Hid (lineR.kind x = (zzv (fstB 32 x), 0, 0, rstB 32 x)) := hid rfl
 clear hst
 generalize fstB 32 x = A at *
 go_enter Tryz.func40, Tryz.ntmps40
 go_wp2_with fail
 refine HP.out.mono ?_
 rintro e w' ⟨rfl, h1, h2⟩
 have HN := hid (HS.out.next h1 h2)
 have HO := hid h2
 have hrg : w'.rangeAt 0 0 yah := by
  intro j v hv
  have hj : j < 11 := by have := (List.getElem?_eq_some_iff.1 hv).1; simpa [yah, EvA.wordsL] using this
  have := HN.out.2.2.words j hj
  rw [Nat.zero_add, this]
  rw [← hv]
  simp only [yah, List.getElem?_map]
  rw [List.getD_eq_getElem?_getD, List.getElem?_eq_getElem (by exact hj)]
  rfl
 clear h1 h2
 go_wp2_with (first | (refine wpList_load_mid rfl 133 _ rfl 0 0 rfl yah _ hrg Tryz.underlying133 rfl (by kernel_rfl) ?_) | fail)
 clear hrg
 go_loopw [10] (fun i wr => ∃ k : Nat, i = .int .i64 k ∧ k ≤ 11 ∧ wr = w' ∧ Hid (∀ j, j < k → EvA.wordsL.getD j [] ≠ A)) (fun i _ => 11 - (intOf i).toNat)
 case atStart => exact ⟨0, rfl, Nat.zero_le _, rfl, hid (fun j hj => absurd hj (Nat.not_lt_zero _))⟩
 case round =>
  obtain ⟨k, rfl, hk, rfl, HK⟩ := hrel
  by_cases hlt : k < 11
  · have hix := fun W => yai k hlt W
    have hdec : decide ((k : Int) < 11) = true := decide_eq_true (by omega)
    by_cases hA : EvA.wordsL.getD k [] = A
    · have HF := hid (yaf hlt hA HK.out)
      have hcv : IntKind.u8.wrap (k : Int) = (k : Int) := IntWalk.u8_in _ ⟨by omega, by omega⟩
      generalize EvA.wordsL.getD k [] = D at *
      have k1 : ((str D).toList == (str A).toList) = true := by rw [zbr]; exact decide_eq_true hA
      clear hA HK
      go_wp2_with fail
      go_ret2
      rw [HR.out, HF.out]
      exact ⟨_, rfl, .inl ⟨rfl, rfl⟩, HN.out, HO.out⟩
    · have HK2 : Hid (∀ j, j < k + 1 → EvA.wordsL.getD j [] ≠ A) := hid (fun j hj => by
       rcases Nat.lt_succ_iff_lt_or_eq.1 hj with h | rfl
       · exact HK.out j h
       · exact hA)
      generalize EvA.wordsL.getD k [] = D at *
      have k1 : ((str D).toList == (str A).toList) = false := by rw [zbr]; exact decide_eq_false hA
      clear hA HK
      go_wp2_with fail
      go_roundw
      case rel => exact ⟨k + 1, by go_num, hlt, by trivial, HK2⟩
      case measure => simp [intOf]; omega
  · obtain rfl : k = 11 := by omega
    have HF := hid (find_none HK.out)
    clear HK
    go_wp2_with fail
    go_ret2
    rw [HR.out, HF.out]
    exact ⟨_, rfl, .inl ⟨rfl, rfl⟩, HN.out, HO.out⟩
theorem ent_lk : EntS 40 := by intro args w; kernel_rfl
theorem ent_lt : EntS 41 := by intro args w; kernel_rfl
theorem ent_ls : EntS 42 := by intro args w; kernel_rfl
theorem ent_lo : EntS 43 := by intro args w; kernel_rfl
theorem ent_lu : EntS 44 := by intro args w; kernel_rfl
theorem ent_ln : EntS 45 := by intro args w; kernel_rfl
theorem okL (b : Nat) : RdOk b (b + 1) (StL b) IsL (rdL b) lineR where
 src := srcL b
 kind := by simpa using yaj b
 text := by
  have h := zzz b
  rw [show (#[ptS b] ++ #[] : Array Value) = #[ptS b] from rfl]
  exact h
 span := by
  have h := yaa b
  rw [show (#[ptS b] ++ #[] : Array Value) = #[ptS b] from rfl]
  exact h
 note := by
  have h := yab b
  rw [show (#[ptS b] ++ #[] : Array Value) = #[ptS b] from rfl]
  exact h
 sum := by
  have h := yac b
  rw [show (#[ptS b] ++ #[] : Array Value) = #[ptS b] from rfl]
  exact h
 n64 := by simpa using yae b 64 (by decide)
 n32 := by simpa using yae b 4294967295 (by decide)
 ek := ent_lk
 et := ent_lt
 es := ent_ls
 eo := ent_lo
 eu := ent_lu
 en := ent_ln
 kle := fun x => by have := yag (fstB 32 x); show zzv (fstB 32 x) ≤ 255; omega
 tle := fun x => zzx _
 sle := fun x => zzx _
 ole := fun x => by
  show (noteL x).1.length ≤ _
  unfold noteL
  split
  · exact Nat.zero_le _
  · split
    · rename_i t h; exact Nat.le_trans (zor h) (by decide)
    · exact Nat.zero_le _
 ule := fun x => by
  show (sumL x).1 ≤ _
  unfold sumL
  split
  · rename_i t h; exact zzq 0 (str t)
  · exact Nat.zero_le _
 m64 := fun x => by
  show (numL 64 x).2.1 = 0 → (numL 64 x).1 ≤ 64
  unfold numL
  split
  · split
    · intro h; cases h
    · intro _; omega
  · intro h; cases h
  · intro h; cases h
 m32 := fun x => by
  show (numL 4294967295 x).1 ≤ _
  unfold numL
  split
  · split
    · exact Nat.zero_le _
    · show _ ≤ 18446744073709551615; omega
  · exact Nat.le_refl _
  · exact Nat.zero_le _
end EvL
end
section
open Go.RowKit Go.Sort
namespace EvA
open StrC EvF EvC TextR CodeM
open VerC (Vw)
theorem yak : ∀ (x y : List UInt8), Op.bytesLess x y = false → Op.bytesLess y x = false → x = y
 | [], [], _, _ => rfl
 | [], _ :: _, h, _ => by simp [Op.bytesLess] at h
 | _ :: _, [], _, h => by simp [Op.bytesLess] at h
 | a :: x, b :: y, h1, h2 => by
   unfold Op.bytesLess at h1 h2
   by_cases hab : a = b
   · subst hab
     simp at h1 h2
     rw [yak x y h1 h2]
   · have : a.toNat ≠ b.toNat := fun h => hab (UInt8.toNat_inj.1 h)
     simp [hab, Ne.symm hab, UInt8.lt_iff_toNat_lt] at h1 h2
     omega
theorem yal : ∀ x : List UInt8, Op.bytesLess x x = false
 | [] => rfl
 | a :: x => by unfold Op.bytesLess; simp [yal x]
theorem yam : ∀ (x y : List UInt8), Op.bytesLess x y = true → Op.bytesLess y x = false
 | [], [], h => by simp [Op.bytesLess] at h
 | [], _ :: _, _ => by simp [Op.bytesLess]
 | _ :: _, [], h => by simp [Op.bytesLess] at h
 | a :: x, b :: y, h => by
   unfold Op.bytesLess at h ⊢
   by_cases hab : a = b
   · subst hab
     simp at h ⊢
     exact yam x y h
   · simp [hab, Ne.symm hab, UInt8.lt_iff_toNat_lt] at h ⊢
     omega
theorem le_notL (a b : List UInt8) : (Op.bytesLess a b || a == b) = !Op.bytesLess b a := by
 cases h1 : Op.bytesLess a b with
 | true => rw [yam a b h1]; rfl
 | false =>
   cases h2 : Op.bytesLess b a with
   | true =>
     have : ¬ a = b := fun e => by rw [e, yal] at h2; cases h2
     simp [this]
   | false => rw [yak a b h1 h2]; simp
theorem lt_no {b : B} (h : NameM.isN b = true) : ltB [] b = true := by
 unfold ltB
 rw [ByteArray.toList_eq, ByteArray.toList_eq, zbn, zbn]
 cases b with
 | nil => rw [zxj] at h; cases h
 | cons c r => rfl
def lastN (L : List (B × B)) (j : Nat) : B := if j = 0 then [] else (L.getD (j - 1) ([], [])).1
theorem yan (L : List (B × B)) (j : Nat) : okN L j = (ltB (lastN L j) (L.getD j ([], [])).1 && (NameM.isN (L.getD j ([], [])).1 && ztj (L.getD j ([], [])).2)) := by
 unfold okN lastN
 by_cases hj : j = 0
 · subst hj
   simp only [decide_true, Bool.true_or, Bool.and_true, if_true]
   cases h : NameM.isN (L.getD 0 ([], [])).1 with
   | false => simp
   | true => rw [lt_no h]; rfl
 · rw [if_neg hj]
   simp only [hj, decide_false, Bool.false_or]
   cases NameM.isN (L.getD j ([], [])).1 <;> cases ztj (L.getD j ([], [])).2 <;> simp
theorem yao (L : List (B × B)) (j : Nat) : lastN L (j + 1) = (L.getD j ([], [])).1 := by unfold lastN; rw [if_neg (by omega)]; rfl
theorem yap {w : World} {p : Nat} {a b : B} (h : w.heap[p]? = some (.cells #[.string (str a), .string (str b)] 63)) : w.cell? ⟨p, 0, none⟩ = some (.string (str a)) ∧ w.cell? ⟨p, 1, none⟩ = some (.string (str b)) := by
 constructor <;> simp [World.cell?, h]
set_option maxRecDepth 100000 in
theorem yaq (a : Option Addr) (c : Nat) (L : List (B × B)) (w : World) (hN : NeIn w a c L) (hv : Vw w) : Calls Tryz.prog 78 #[.slice a L.length c] w fun r w' => r = .returned (.bool (ztk L)) ∧ Below w.heap.size w w' := by
 by_cases hm : L.length ≤ 64
 case neg =>
  have hd : decide (64 < L.length) = true := decide_eq_true (by omega)
  have hd2 : decide ((64 : Int) < (L.length : Int)) = true := decide_eq_true (by omega)
  have HR : Hid (ztk L = false) := hid (by unfold ztk; rw [decide_eq_false hm, Bool.false_and])
  clear hN hm
  go_enter Tryz.func78, Tryz.ntmps78
  go_wp2_with fail
  go_ret
  exact ⟨by rw [HR.out]; rfl, Below.refl _ _⟩
 case pos =>
  have hd : decide (64 < L.length) = false := decide_eq_false (by omega)
  have hd2 : decide ((64 : Int) < (L.length : Int)) = false := decide_eq_false (by omega)
  have HN := hid hN
  have HV := hid hv
  have HM := hid hm
  clear hN hv
  go_enter Tryz.func78, Tryz.ntmps78
  go_wp2_with fail
  go_loopw [3, 5, 11] (fun vl _ i wr => ∃ (j : Nat) (last : B), i = .int .i64 j ∧ vl = .string (str last) ∧ j ≤ L.length ∧ Hid (last = lastN L j) ∧ Hid ((List.range j).all (okN L) = true) ∧ Hid (Below w.heap.size w wr)) (fun _ _ i _ => L.length - (intOf i).toNat)
  case atStart => exact ⟨0, [], rfl, rfl, Nat.zero_le _, hid rfl, hid rfl, hid (Below.refl _ _)⟩
  case round =>
   obtain ⟨j, last, rfl, rfl, hj, HLA, HA, HI⟩ := hrel
   rename World => wr
   by_cases hlt : j < L.length
   · have hdec : decide (j < L.length) = true := by simpa using hlt
     obtain ⟨g, o, rfl, hk⟩ := (HN.out.gr HI.out).at2 j hlt
     obtain ⟨k0, k1⟩ := hk j hlt
     have HSH : Hid ((L.getD j ([], [])).1.length ≤ 140737488351232 ∧ (L.getD j ([], [])).2.length ≤ 140737488351232) := hid (HN.out.short _ (by simp [hlt]))
     have HRN : Hid (okN L j = false → ztk L = false) := hid (ztm hlt)
     have HRX : Hid (okN L j = true → (List.range (j + 1)).all (okN L) = true) := hid (ztl HA.out)
     have HOK : Hid (okN L j = (ltB last (L.getD j ([], [])).1 && (NameM.isN (L.getD j ([], [])).1 && ztj (L.getD j ([], [])).2))) := hid (by rw [HLA.out]; exact yan L j)
     have HLN := hid (yao L j)
     generalize hn1 : (L.getD j ([], [])).1 = n1 at *
     generalize hs1 : (L.getD j ([], [])).2 = s1 at *
     generalize okN L j = okj at *
     have HBA : Hid (Below w.heap.size w (wr.alloc (.cells #[.string (str n1), .string (str s1)] 63))) := hid (HI.out.trans ((alW wr _).mono HI.out.size))
     have HPB : Hid (∀ W, Below (wr.alloc (.cells #[.string (str n1), .string (str s1)] 63)).heap.size (wr.alloc (.cells #[.string (str n1), .string (str s1)] 63)) W → W.heap[wr.heap.size]? = some (.cells #[.string (str n1), .string (str s1)] 63)) := hid (fun W h => (h.block _ (by simp)).trans (heap_alloc_new wr _))
     obtain ⟨q0, q1⟩ := yap (HPB.out _ (Below.refl _ _))
     have hlb : (Op.bytesLess (str n1).toList (str last).toList || (str n1).toList == (str last).toList) = !ltB last n1 := le_notL _ _
     have HNI := hid (NameC.zww n1 (wr.alloc (.cells #[.string (str n1), .string (str s1)] 63)) (by have := HSH.out.1; omega))
     have HSI : Hid (∀ W, Below w.heap.size w W → Calls Tryz.prog 119 #[.string (str s1)] W fun r w' => r = .returned (.bool (ztj s1)) ∧ Below W.heap.size W w') := hid (fun W h => SpanC.pIs_any s1 W (HV.out.gr h) (by have := HSH.out.2; omega))
     generalize ltB last n1 = b1 at *
     generalize NameM.isN n1 = b2 at *
     generalize ztj s1 = b3 at *
     clear hn1 hs1 hk HA HLA
     have HSH2 := HSH
     clear HSH
     rcases (Bool.eq_false_or_eq_true b1).symm with rfl | rfl
     · have HR := hid (HRN.out (by rw [HOK.out]; rfl))
       go_wp2_with fail
       go_ret
       exact ⟨by rw [HR.out]; rfl, HBA.out⟩
     rcases (Bool.eq_false_or_eq_true b2).symm with rfl | rfl
     · have HR := hid (HRN.out (by rw [HOK.out]; rfl))
       go_wp2_with (first | (go_at_call 76; refine HNI.out.mono ?_; rintro r w1 ⟨rfl, hb1⟩; have HB1 := hid (HBA.out.trans (hb1.mono HBA.out.size)); clear hb1) | fail)
       go_ret
       exact ⟨by rw [HR.out]; rfl, HB1.out⟩
     rcases (Bool.eq_false_or_eq_true b3).symm with rfl | rfl
     · have HR := hid (HRN.out (by rw [HOK.out]; rfl))
       go_wp2_with (first | (go_at_call 76; refine HNI.out.mono ?_; rintro r w1 ⟨rfl, hb1⟩; have HB1 := hid (HBA.out.trans (hb1.mono HBA.out.size)); obtain ⟨q0, q1⟩ := yap (HPB.out _ hb1); clear hb1) | (go_at_call 119; refine (HSI.out _ HB1.out).mono ?_; rintro r w2 ⟨rfl, hb2⟩; have HB2 := hid (HB1.out.trans (hb2.mono HB1.out.size)); clear hb2) | fail)
       go_ret
       exact ⟨by rw [HR.out]; rfl, HB2.out⟩
     have HX := hid (HRX.out (by rw [HOK.out]; rfl))
     go_wp2_with (first | (go_at_call 76; refine HNI.out.mono ?_; rintro r w1 ⟨rfl, hb1⟩; have HB1 := hid (HBA.out.trans (hb1.mono HBA.out.size)); have HP1 := hid hb1; obtain ⟨q0, q1⟩ := yap (HPB.out _ hb1); clear hb1) | (go_at_call 119; refine (HSI.out _ HB1.out).mono ?_; rintro r w2 ⟨rfl, hb2⟩; have HB2 := hid (HB1.out.trans (hb2.mono HB1.out.size)); obtain ⟨p0, p1⟩ := yap (HPB.out _ (HP1.out.trans (hb2.mono HP1.out.size))); clear hb2 q0 q1) | fail)
     go_roundw
     case rel => exact ⟨j + 1, n1, by go_num, rfl, hlt, hid HLN.out.symm, HX, HB2⟩
     case measure => simp [intOf]; omega
   · have hdec : decide (j < L.length) = false := by simpa using hlt
     have hje : j = L.length := by omega
     have HR : Hid (ztk L = true) := hid (by unfold ztk; rw [decide_eq_true HM.out, ← hje, HA.out]; rfl)
     go_wp2_with fail
     go_ret
     exact ⟨by rw [HR.out]; rfl, HI.out⟩
theorem yar (e : EvG) (w : World) (hN : NeIn w e.na e.nc e.needs) (hv : Vw w) : FitN e (ztk e.needs) w := fun W h => yaq e.na e.nc e.needs W (hN.gr h) (hv.gr h)
end EvA
end
end Go.Proofs.YtfbegbmjmhnplaaGreatDoor
