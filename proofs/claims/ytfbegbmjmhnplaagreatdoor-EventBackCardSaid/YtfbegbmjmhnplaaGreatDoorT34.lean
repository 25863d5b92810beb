/-
  What the proof of EvBoth stands on, part 34.
-/
import Derived.Test.YtfbegbmjmhnplaaGreatDoorT33
set_option linter.unusedSimpArgs false
set_option linter.unusedVariables false
set_option maxHeartbeats 16000000
namespace Go.Proofs.YtfbegbmjmhnplaaGreatDoor
open Go.Lib (hid)
section
open Go.RowKit
namespace EvA
open StrC EvF EvC TextR CodeM CodeC
def cutL (s : ByteArray) (k q : Nat) : B := (s.data.toList.drop k).take (q - k)
theorem ydm (s : ByteArray) {k a q : Nat} (h1 : k ≤ a) (h2 : a ≤ q) : cutL s k a ++ cutL s a q = cutL s k q := ydf _ _ _ _ h1 h2
theorem ydn {s : ByteArray} {k : Nat} (hk : k ≤ s.size) (h : (tRes 65536 k s).2.2.1 = 0) : k ≤ (tRes 65536 k s).2.2.2.2 ∧ (tRes 65536 k s).2.2.2.2 ≤ s.size ∧ textB (cutB s (tRes 65536 k s).1 (tRes 65536 k s).2.1) = cutL s k (tRes 65536 k s).2.2.2.2 := by
 rcases zur 65536 k s hk with ⟨e, he, -, hu⟩ | ⟨a, q, -, -, -, hu⟩
 · rw [hu] at h; exact absurd h he
 · rw [hu]; exact ydg hk hu
theorem ydo {s : ByteArray} {m k : Nat} (hk : k ≤ s.size) (h : (uRes m k (s.data.toList.drop k)).2.1 = 0) : k ≤ (uRes m k (s.data.toList.drop k)).2.2.2 ∧ (uRes m k (s.data.toList.drop k)).2.2.2 ≤ s.size ∧ uintB (uRes m k (s.data.toList.drop k)).1 = cutL s k (uRes m k (s.data.toList.drop k)).2.2.2 := by
 rcases zmv m k s hk with ⟨e, he, -, hu⟩ | ⟨v, d, -, hd, hu⟩
 · rw [hu] at h; exact absurd h he
 · obtain ⟨k1, -, k3⟩ := yde hu
   rw [hu]; exact ⟨k1, hd, k3⟩
theorem ydp : ∀ (l : List UInt8) (x : Nat), wv x l = x * 256 ^ l.length + wv 0 l
 | [], x => by simp [wv]
 | c :: r, x => by
   have h1 : wv x (c :: r) = wv (x * 256 + c.toNat) r := rfl
   have h2 : wv 0 (c :: r) = wv (0 * 256 + c.toNat) r := rfl
   rw [h1, h2, ydp r (x * 256 + c.toNat), ydp r (0 * 256 + c.toNat), List.length_cons, Nat.pow_succ]
   have : (x * 256 + c.toNat) * 256 ^ r.length = x * (256 ^ r.length * 256) + c.toNat * 256 ^ r.length := by rw [Nat.add_mul, Nat.mul_assoc, Nat.mul_comm 256]
   have e0 : (0 * 256 + c.toNat) * 256 ^ r.length = c.toNat * 256 ^ r.length := by rw [Nat.zero_mul, Nat.zero_add]
   omega
theorem ydq (x y : Nat) : ∀ (k m : Nat), k ≤ m → wordB (x + y * 256 ^ m) k = wordB x k
 | 0, m, _ => rfl
 | k + 1, m, h => by
   have e : (x + y * 256 ^ m) / 256 ^ k % 256 = x / 256 ^ k % 256 := by
    obtain ⟨d, hd⟩ : ∃ d, m = k + 1 + d := ⟨m - (k + 1), by omega⟩
    have e2 : y * 256 ^ m = 256 ^ k * (256 * (y * 256 ^ d)) := by
     rw [hd, Nat.pow_add, Nat.pow_succ]
     simp only [Nat.mul_assoc, Nat.mul_left_comm]
    rw [e2, Nat.add_mul_div_left _ _ (Nat.pow_pos (by decide)), Nat.add_mul_mod_self_left]
   show UInt8.ofNat ((x + y * 256 ^ m) / 256 ^ k % 256) :: wordB (x + y * 256 ^ m) k = UInt8.ofNat (x / 256 ^ k % 256) :: wordB x k
   rw [e, ydq x y k m (by omega)]
theorem ydr : ∀ (l : List UInt8), wordB (wv 0 l) l.length = l
 | [] => rfl
 | c :: r => by
   have h1 : wv 0 (c :: r) = wv (0 * 256 + c.toNat) r := rfl
   have h2 := wv_lt r
   have h3 := c.toNat_lt
   rw [h1, ydp, List.length_cons]
   show UInt8.ofNat (((0 * 256 + c.toNat) * 256 ^ r.length + wv 0 r) / 256 ^ r.length % 256) :: wordB ((0 * 256 + c.toNat) * 256 ^ r.length + wv 0 r) r.length = c :: r
   rw [Nat.add_comm, ydq _ _ _ _ (Nat.le_refl _), ydr r]
   congr 1
   rw [Nat.mul_comm, Nat.add_mul_div_left _ _ (Nat.pow_pos (by decide)), Nat.div_eq_of_lt h2]
   rw [show (0 + (0 * 256 + c.toNat)) % 256 = c.toNat by omega]
   simp
theorem yds (l : List UInt8) (h : l.length = 8) : wordB (wv 0 l) 8 = l := by
 have := ydr l
 rwa [h] at this
theorem w_back {s : ByteArray} {k : Nat} (hk : k ≤ s.size) (h : (wRes k s).2.1 = 0) : k ≤ (wRes k s).2.2.2 ∧ (wRes k s).2.2.2 ≤ s.size ∧ wordB (wRes k s).1 8 = cutL s k (wRes k s).2.2.2 := by
 by_cases h8 : s.size - k < 8
 · rw [zuu h8] at h; exact absurd (show (20 : Nat) = 0 from h) (by decide)
 · rw [zuv h8]
   refine ⟨by simp, by simp only; omega, ?_⟩
   simp only [cutL]
   rw [show k + 8 - k = 8 by omega]
   exact yds _ (by simp; omega)
theorem ydt (s : ByteArray) : ∀ (n k : Nat) (P : List (B × B)), k ≤ s.size → (ndsR s n k P).2.1 = 0 → ∃ Q, (ndsR s n k P).1 = P ++ Q ∧ Q.length = n ∧ k ≤ (ndsR s n k P).2.2.2 ∧ (ndsR s n k P).2.2.2 ≤ s.size ∧ Q.flatMap (fun p => textB p.1 ++ textB p.2) = cutL s k (ndsR s n k P).2.2.2
 | 0, k, P, hk, _ => ⟨[], by simp [ndsR], rfl, Nat.le_refl _, hk, by simp [ndsR, cutL]⟩
 | n + 1, k, P, hk, h => by
   have h1 := @ydn s k hk
   obtain ⟨⟨a1, b1, e1, p1, q1⟩, hT⟩ : ∃ T, tRes 65536 k s = T := ⟨_, rfl⟩
   rw [hT] at h1
   have h2 := fun hq => @ydn s q1 hq
   obtain ⟨⟨a2, b2, e2, p2, q2⟩, hT2⟩ : ∃ T, tRes 65536 q1 s = T := ⟨_, rfl⟩
   rw [hT2] at h2
   have IH := fun hq h => ydt s n q2 (P ++ [(cutB s a1 b1, cutB s a2 b2)]) hq h
   rw [ndsR] at h ⊢
   simp only [hT, hT2] at h h1 h2 ⊢
   by_cases z1 : e1 = 0
   · subst z1
     obtain ⟨k1, k2, k3⟩ := h1 rfl
     by_cases z2 : e2 = 0
     · subst z2
       obtain ⟨j1, j2, j3⟩ := h2 k2 rfl
       simp only [ne_eq, not_true_eq_false, if_false] at h ⊢
       obtain ⟨Q, i1, i2, i3, i4, i5⟩ := IH j2 h
       refine ⟨(cutB s a1 b1, cutB s a2 b2) :: Q, by rw [i1]; simp, by simp [i2], by omega, i4, ?_⟩
       rw [List.flatMap_cons, i5, k3, j3, List.append_assoc, ydm s j1 i3, ydm s k1 (by omega)]
     · simp only [z2, ne_eq, not_true_eq_false, not_false_eq_true, if_true, if_false] at h
   · simp only [z1, ne_eq, not_false_eq_true, if_true] at h
theorem ydu (L : List (B × B)) : (L.flatMap (fun p => [textB p.1, textB p.2])).flatten = L.flatMap (fun p => textB p.1 ++ textB p.2) := by
 induction L with
 | nil => rfl
 | cons p r ih => rw [List.flatMap_cons, List.flatten_append, ih, List.flatMap_cons]; simp
theorem all_back {s : ByteArray} {k : Nat} {e : EvG} {x : Int} (hk : k ≤ s.size) (hx : x = 0 ∨ x = 1 ∨ x = 2 ∨ x = 3 ∨ x = 4 ∨ x = 5 ∨ x = 6 ∨ x = 7 ∨ x = 8 ∨ x = 9) (h : (allR s k e x).2.1 = 0) :
 k ≤ (allR s k e x).2.2.2 ∧ (allR s k e x).2.2.2 ≤ s.size ∧ (partB (allR s k e x).1 x).flatten = cutL s k (allR s k e x).2.2.2 := by
 have ht := @ydn s k hk
 have hu := @ydo s 4294967295 k hk
 have hw := @w_back s k hk
 rcases hx with rfl | rfl | rfl | rfl | rfl | rfl | rfl | rfl | rfl | rfl
 case inr.inr.inr.inl =>
  have hu6 := @ydo s 64 k hk
  have e3 : allR s k e 3 = ({ e with needs := (zve s k).1 }, (zve s k).2.1, (zve s k).2.2.1, (zve s k).2.2.2) := rfl
  rw [e3] at h ⊢
  simp only at h ⊢
  have hp : (partB { e with needs := (zve s k).1 } 3).flatten = uintB (zve s k).1.length ++ (zve s k).1.flatMap (fun p => textB p.1 ++ textB p.2) := by
   show (uintB (zve s k).1.length :: (zve s k).1.flatMap (fun p => [textB p.1, textB p.2])).flatten = _
   rw [List.flatten_cons, ydu]
  rw [hp]
  obtain ⟨⟨n, e1, p1, q1⟩, hU⟩ : ∃ T, uRes 64 k (s.data.toList.drop k) = T := ⟨_, rfl⟩
  rw [hU] at hu6
  unfold zve at h ⊢
  simp only [hU] at h hu6 ⊢
  by_cases z1 : e1 = 0
  · subst z1
    obtain ⟨k1, k2, k3⟩ := hu6 rfl
    simp only [ne_eq, not_true_eq_false, if_false] at h ⊢
    obtain ⟨Q, i1, i2, i3, i4, i5⟩ := ydt s n q1 [] k2 h
    rw [List.nil_append] at i1
    rw [i1, i2]
    exact ⟨by omega, i4, by rw [i5, k3, ydm s k1 i3]⟩
  · simp only [z1, ne_eq, not_false_eq_true, if_true] at h
 all_goals first
  | (have h' : (tRes 65536 k s).2.2.1 = 0 := h
     obtain ⟨k1, k2, k3⟩ := ht h'
     refine ⟨k1, k2, Eq.trans ?_ k3⟩
     show [textB _].flatten = _
     simp only [List.flatten_cons, List.flatten_nil, List.append_nil]; done)
  | (have h' : (tRes 65536 k s).2.2.1 = 0 := h
     obtain ⟨k1, k2, k3⟩ := ht h'
     exact ⟨k1, k2, Eq.trans (List.append_nil _) k3⟩)
  | (have h' : (uRes 4294967295 k (s.data.toList.drop k)).2.1 = 0 := h
     obtain ⟨k1, k2, k3⟩ := hu h'
     exact ⟨k1, k2, Eq.trans (List.append_nil _) k3⟩)
  | (have h' : (wRes k s).2.1 = 0 := h
     obtain ⟨k1, k2, k3⟩ := hw h'
     exact ⟨k1, k2, Eq.trans (List.append_nil _) k3⟩)
def cls (x : Int) : Int := if x = 9 then 8 else x
def Rng (x : Int) : Prop := x = 0 ∨ x = 1 ∨ x = 2 ∨ x = 3 ∨ x = 4 ∨ x = 5 ∨ x = 6 ∨ x = 7 ∨ x = 8 ∨ x = 9
theorem ydv {s : ByteArray} {k : Nat} {e : EvG} {x y : Int} (hx : Rng x) (hy : Rng y) (h : cls y ≠ cls x) : partB (allR s k e y).1 x = partB e x := by
 rcases hx with rfl | rfl | rfl | rfl | rfl | rfl | rfl | rfl | rfl | rfl <;> rcases hy with rfl | rfl | rfl | rfl | rfl | rfl | rfl | rfl | rfl | rfl <;> first | exact absurd rfl h | rfl
theorem ydw {s : ByteArray} {x : Int} (hx : Rng x) : ∀ (L : List Int) (k : Nat) (e : EvG), (∀ y ∈ L, Rng y ∧ cls y ≠ cls x) → partB (foldR s L k e).1 x = partB e x
 | [], k, e, _ => rfl
 | y :: r, k, e, h => by
   have hy := h y (List.mem_cons_self ..)
   rw [foldR]
   split
   · exact ydv hx hy.1 hy.2
   · rw [ydw hx r _ _ (fun z hz => h z (List.mem_cons_of_mem _ hz))]
     exact ydv hx hy.1 hy.2
theorem ydx {s : ByteArray} : ∀ (L : List Int) (k : Nat) (e : EvG), k ≤ s.size → (∀ y ∈ L, Rng y) → (L.map cls).Nodup → (foldR s L k e).2.1 = 0 →
 k ≤ (foldR s L k e).2.2.2 ∧ (foldR s L k e).2.2.2 ≤ s.size ∧ L.flatMap (fun x => (partB (foldR s L k e).1 x).flatten) = cutL s k (foldR s L k e).2.2.2
 | [], k, e, hk, _, _, _ => ⟨Nat.le_refl _, hk, by simp [foldR, cutL]⟩
 | x :: r, k, e, hk, hr, hn, h => by
   have hx : Rng x := hr x (List.mem_cons_self ..)
   rw [foldR] at h ⊢
   by_cases h0 : (allR s k e x).2.1 = 0
   · rw [if_neg (by simpa using h0)] at h ⊢
     obtain ⟨k1, k2, k3⟩ := all_back hk hx h0
     rw [List.map_cons, List.nodup_cons] at hn
     obtain ⟨j1, j2, j3⟩ := ydx r _ _ k2 (fun y hy => hr y (List.mem_cons_of_mem _ hy)) hn.2 h
     refine ⟨Nat.le_trans k1 j1, j2, ?_⟩
     rw [List.flatMap_cons, j3, ydw hx r _ _ (fun y hy => ⟨hr y (List.mem_cons_of_mem _ hy), fun e1 => hn.1 (e1 ▸ List.mem_map_of_mem hy)⟩), k3]
     exact ydm s k1 j1
   · rw [if_pos h0] at h
     exact absurd h h0
theorem ydy {s : ByteArray} : ∀ (L : List Int) (k : Nat) (e : EvG), (foldR s L k e).1.k = e.k
 | [], k, e => rfl
 | x :: r, k, e => by
   rw [foldR]
   split
   · exact all_k x
   · rw [ydy r]; exact all_k x
theorem ydz (k : Nat) : ∀ y ∈ zrk k, Rng y := by
 intro y hy
 unfold zrk at hy
 unfold Rng
 split at hy <;> simp at hy <;> omega
theorem yea (k : Nat) : ((zrk k).map cls).Nodup := by
 unfold zrk
 split <;> decide
theorem yeb {s : ByteArray} {g : EvG} {a u : Nat} (h : readD s = (g, true, a, u)) : znt g (zrk g.k) = s.data.toList ∧ mayD g = true := by
 unfold readD at h
 simp only at h
 split at h
 · cases h
 rename_i h1
 split at h
 · cases h
 rename_i h2
 split at h
 · cases h
 rename_i h3
 split at h
 · cases h
 rename_i h4
 split at h
 · cases h
 rename_i h5
 have hz : 0 < s.size := by
  rcases Nat.eq_zero_or_pos s.size with h0 | h0
  · exact absurd (show (fstR s).2.1 ≠ 0 by simp [fstR, h0]) h1
  · exact h0
 have hf : fstR s = (s[0].toNat, 0, 1) := by simp [fstR, hz]
 rw [hf] at h h2 h3 h4 h5
 simp only at h h2 h3 h4 h5
 obtain ⟨k1, k2, k3⟩ := ydx (s := s) (zrk s[0].toNat) 1 (kindV s[0].toNat) (by omega) (ydz _) (yea _) (by simpa using h3)
 have hk : (foldR s (zrk s[0].toNat) 1 (kindV s[0].toNat)).1.k = s[0].toNat := ydy (s := s) (zrk s[0].toNat) 1 (kindV s[0].toNat)
 have hq : (foldR s (zrk s[0].toNat) 1 (kindV s[0].toNat)).2.2.2 = s.size := Nat.le_antisymm k2 (Nat.not_lt.1 h4)
 rw [hq] at k3
 obtain rfl := (Prod.mk.inj h).1
 rw [hk]
 refine ⟨?_, by simpa using h5⟩
 unfold znt
 rw [k3, hk]
 unfold cutL
 have hd := zmm s 0 hz
 rw [List.drop_zero] at hd
 rw [hd, List.take_of_length_le (by simp)]
 simp [kindV]
end EvA
end
section
open Go.RowKit Go.Sort
namespace EvR
open StrC EvF EvC EvA TextR CodeM CodeC ErrC ErrU EvS
open VerC (Vw)
def e0 : EvG := ⟨3, [97], [98], [49, 46, 48, 46, 48], none, 0, [], 0, 0, 0, [], []⟩
theorem yec (w : World) (hv : Vw w) : Calls Tryz.prog 11 #[evV e0] w fun e w' => e = .returned (.int .i64 0) ∧ Below w.heap.size w w' := by
 have h := pmay_any e0 w ⟨by decide, by decide, by decide, by decide, by decide, by decide, by decide, by decide, by decide, NeIn.no w⟩ hv
 rw [show mayD e0 = true by decide +kernel] at h
 exact h
theorem fds3 : FdsK 3 [0, 1, 2] := fun w => zrs w
theorem yed {w : World} {D : Nat} {v : Value} {L : List ByteArray} (h : TextR.OwnT w D v L) (h0 : 0 < L.length) (sep : ByteArray) (hl : L.length ≤ 100) (hj : (Lib.join (L.map (·.data.toList)) sep.data.toList).length ≤ 100000) :
 Calls Tryz.prog 27 #[v, .string sep] w fun e w' => e = .returned (.string ⟨(Lib.join (L.map (·.data.toList)) sep.data.toList).toArray⟩) ∧ Below w.heap.size w w' := by
 have h1 : w.ownsRow D 9 1 v L.length (L.map Value.string) := h
 rcases h.2 with ⟨hnil, hz⟩ | ⟨g, cp, cur, rfl, hbase, hblk, hcp, _⟩
 · omega
 · exact Tryz.strings_Join g 0 cp L sep w (fun j x hx => by
    have hjl : j < L.length := (List.getElem?_eq_some_iff.1 hx).1
    rw [Nat.zero_add, h1.cellAt j (by omega)]
    simp [hx]) (Array.getElem?_eq_some_iff.1 hblk).1 (by omega) hcp (by omega)
theorem yee : (Lib.join (([str [3], str (textB [97]), str (textB [98]), str (textB [49, 46, 48, 46, 48])] : List ByteArray).map (·.data.toList)) (⟨#[]⟩ : ByteArray).data.toList) = [3, 1, 97, 1, 98, 5, 49, 46, 48, 46, 48] := by decide +kernel
set_option maxRecDepth 100000 in
theorem yef (w : World) (hv : Vw w) : Calls Tryz.prog 10 #[evV e0] w fun e w' => e = .returned (.tuple #[.string (str [3, 1, 97, 1, 98, 5, 49, 46, 48, 46, 48]), .int .i64 0]) ∧ Below w.heap.size w w' := by
 have hB0 := alW w (evO e0)
 have hr := heap_alloc_new w (evO e0)
 have hs0 : (w.alloc (evO e0)).heap.size = w.heap.size + 1 := by simp
 have HC : Hid (∀ W, Below (w.heap.size + 1) (w.alloc (evO e0)) W → W.cell? ⟨w.heap.size, 0, none⟩ = some (.int .u8 3) ∧ W.cell? ⟨w.heap.size, 1, none⟩ = some (.string (str [97])) ∧ W.cell? ⟨w.heap.size, 2, none⟩ = some (.string (str [98])) ∧ W.cell? ⟨w.heap.size, 3, none⟩ = some (.string (str [49, 46, 48, 46, 48])) ∧ W.cell? ⟨w.heap.size, 4, none⟩ = some (.slice none 0 0) ∧ W.cell? ⟨w.heap.size, 5, none⟩ = some (.int .u64 0) ∧ W.cell? ⟨w.heap.size, 6, none⟩ = some (.int .u32 0) ∧ W.cell? ⟨w.heap.size, 7, none⟩ = some (.int .u32 0) ∧ W.cell? ⟨w.heap.size, 8, none⟩ = some (.string (str [])) ∧ W.cell? ⟨w.heap.size, 9, none⟩ = some (.string (str []))) := hid (fun W hb => zos ((hb.block _ (by omega)).trans hr))
 have HM := hid (yec _ (hv.gr hB0))
 have HAB := hid zsj
 have HEV : Hid (∀ W, Calls Tryz.prog 29 #[.agg wrB.toArray, evV e0] W fun e' w' => ∃ v, e' = .returned v ∧ TextR.OwnT w' W.heap.size v [str [3], str (textB [97]), str (textB [98]), str (textB [49, 46, 48, 46, 48])] ∧ Below W.heap.size W w') := hid (fun W => zso e0 3 rfl fds3 (by decide) (by decide) (by decide) W)
 have HJ : Hid (∀ W D v, TextR.OwnT W D v [str [3], str (textB [97]), str (textB [98]), str (textB [49, 46, 48, 46, 48])] → Calls Tryz.prog 27 #[v, .string ⟨#[]⟩] W fun e w' => e = .returned (.string (str [3, 1, 97, 1, 98, 5, 49, 46, 48, 46, 48])) ∧ Below W.heap.size W w') := hid (fun W D v ho => by
  have h := yed ho (by decide) ⟨#[]⟩ (by decide) (by rw [yee]; decide)
  rw [yee] at h
  exact h)
 obtain ⟨c0, c1, c2, c3, c4, c5, c6, c7, c8, c9⟩ := HC.out _ (Below.refl _ _)
 have HB := hid hB0
 have HS0 := hid hs0
 clear hv hr hB0 hs0
 unfold e0 at *
 go_enter Tryz.func10, Tryz.ntmps10
 go_wp2_with fail
 refine HM.out.mono ?_
 rintro e1 w1 ⟨rfl, hb1⟩
 have HB1 := hid (hb1.mono (Nat.le_of_eq HS0.out.symm))
 clear hb1 c0 c1 c2 c3 c4 c5 c6 c7 c8 c9
 obtain ⟨c0, c1, c2, c3, c4, c5, c6, c7, c8, c9⟩ := HC.out _ HB1.out
 go_wp2_with fail
 have HB2 : Hid (Below (w.heap.size + 1) (w.alloc (evO ⟨3, [97], [98], [49, 46, 48, 46, 48], none, 0, [], 0, 0, 0, [], []⟩)) w1.drew) := hid (VerC.zet HB1.out)
 go_region_held3 (fun w' => w'.cell? ⟨w.heap.size, 0, none⟩ = some (.int .u8 3) ∧ w'.cell? ⟨w.heap.size, 1, none⟩ = some (.string (str [97])) ∧ w'.cell? ⟨w.heap.size, 2, none⟩ = some (.string (str [98])) ∧ w'.cell? ⟨w.heap.size, 3, none⟩ = some (.string (str [49, 46, 48, 46, 48])) ∧ w'.cell? ⟨w.heap.size, 4, none⟩ = some (.slice none 0 0) ∧ w'.cell? ⟨w.heap.size, 5, none⟩ = some (.int .u64 0) ∧ w'.cell? ⟨w.heap.size, 6, none⟩ = some (.int .u32 0) ∧ w'.cell? ⟨w.heap.size, 7, none⟩ = some (.int .u32 0) ∧ w'.cell? ⟨w.heap.size, 8, none⟩ = some (.string (str [])) ∧ w'.cell? ⟨w.heap.size, 9, none⟩ = some (.string (str [])))
  (first | exact ⟨c0, c1, c2, c3, c4, c5, c6, c7, c8, c9⟩ | exact ⟨VerC.zbw _ c0, VerC.zbw _ c1, VerC.zbw _ c2, VerC.zbw _ c3, VerC.zbw _ c4, VerC.zbw _ c5, VerC.zbw _ c6, VerC.zbw _ c7, VerC.zbw _ c8, VerC.zbw _ c9⟩ | exact hk3 | exact hk4 | exact hk5 | fail)
  (first
    | (go_at_call 28; refine (HAB.out _).mono ?_; rintro e w3 ⟨rfl, hb3⟩; have HB3 := hid (HB2.out.trans (hb3.mono (Nat.le_trans (Nat.le_of_eq HS0.out.symm) HB2.out.size))); have hk3 := HC.out _ HB3.out; clear hb3)
    | (go_at_call 29; refine (HEV.out _ ).mono ?_; rintro e w4 ⟨v, rfl, ho4, hb4⟩; have HB4 := hid (HB3.out.trans (hb4.mono (Nat.le_trans (Nat.le_of_eq HS0.out.symm) HB3.out.size))); have hk4 := HC.out _ HB4.out; have HO4 := hid ho4; clear hb4 ho4)
    | (go_at_call 27; refine (HJ.out _ _ _ HO4.out).mono ?_; rintro e w5 ⟨rfl, hb5⟩; have HB5 := hid (HB4.out.trans (hb5.mono (Nat.le_trans (Nat.le_of_eq HS0.out.symm) HB4.out.size))); have hk5 := HC.out _ HB5.out; clear hb5)
    | fail)
 all_goals (go_wp2_with fail)
 all_goals go_ret2
 all_goals exact ⟨rfl, HB.out.trans (HB5.out.mono (by omega))⟩
theorem yeg : (Lib.join (([str [121, 97, 110, 107], str (id [97]), str (id [98]), str (id [49, 46, 48, 46, 48])] : List ByteArray).map (·.data.toList)) (⟨#[32]⟩ : ByteArray).data.toList) = [121, 97, 110, 107, 32, 97, 32, 98, 32, 49, 46, 48, 46, 48] := by decide +kernel
set_option maxRecDepth 100000 in
theorem text_e0 (w : World) (hv : Vw w) (ht : w.cell? ⟨0, 3, none⟩ = some (.string (str [121, 97, 110, 107]))) : Calls Tryz.prog 13 #[evV e0] w fun e w' => e = .returned (.tuple #[.string (str [121, 97, 110, 107, 32, 97, 32, 98, 32, 49, 46, 48, 46, 48]), .int .i64 0]) ∧ Below w.heap.size w w' := by
 have hB0 := alW w (evO e0)
 have hr := heap_alloc_new w (evO e0)
 have hs0 : (w.alloc (evO e0)).heap.size = w.heap.size + 1 := by simp
 have HC : Hid (∀ W, Below (w.heap.size + 1) (w.alloc (evO e0)) W → W.cell? ⟨w.heap.size, 0, none⟩ = some (.int .u8 3) ∧ W.cell? ⟨w.heap.size, 1, none⟩ = some (.string (str [97])) ∧ W.cell? ⟨w.heap.size, 2, none⟩ = some (.string (str [98])) ∧ W.cell? ⟨w.heap.size, 3, none⟩ = some (.string (str [49, 46, 48, 46, 48])) ∧ W.cell? ⟨w.heap.size, 4, none⟩ = some (.slice none 0 0) ∧ W.cell? ⟨w.heap.size, 5, none⟩ = some (.int .u64 0) ∧ W.cell? ⟨w.heap.size, 6, none⟩ = some (.int .u32 0) ∧ W.cell? ⟨w.heap.size, 7, none⟩ = some (.int .u32 0) ∧ W.cell? ⟨w.heap.size, 8, none⟩ = some (.string (str [])) ∧ W.cell? ⟨w.heap.size, 9, none⟩ = some (.string (str []))) := hid (fun W hb => zos ((hb.block _ (by omega)).trans hr))
 have HM := hid (yec _ (hv.gr hB0))
 have HAB := hid zsk
 have HEV : Hid (∀ W, W.cell? ⟨0, 3, none⟩ = some (.string (str [121, 97, 110, 107])) → Calls Tryz.prog 29 #[.agg wrT.toArray, evV e0] W fun e' w' => ∃ v, e' = .returned v ∧ TextR.OwnT w' W.heap.size v [str [121, 97, 110, 107], str (id [97]), str (id [98]), str (id [49, 46, 48, 46, 48])] ∧ Below W.heap.size W w') := hid (fun W h => zsp e0 [121, 97, 110, 107] (by decide) fds3 (by decide) (by decide) (by decide) W h)
 have HJ : Hid (∀ W D v, TextR.OwnT W D v [str [121, 97, 110, 107], str (id [97]), str (id [98]), str (id [49, 46, 48, 46, 48])] → Calls Tryz.prog 27 #[v, .string ⟨#[32]⟩] W fun e w' => e = .returned (.string (str [121, 97, 110, 107, 32, 97, 32, 98, 32, 49, 46, 48, 46, 48])) ∧ Below W.heap.size W w') := hid (fun W D v ho => by
  have h := yed ho (by decide) ⟨#[32]⟩ (by decide) (by rw [yeg]; decide)
  rw [yeg] at h
  exact h)
 have HTW : Hid (∀ W, Below (w.heap.size + 1) (w.alloc (evO e0)) W → W.cell? ⟨0, 3, none⟩ = some (.string (str [121, 97, 110, 107]))) := hid (fun W hb => (hb.cell (Nat.lt_succ_of_lt (World.block_lt_of_cell? _ _ ht))).trans ((hB0.cell (World.block_lt_of_cell? _ _ ht)).trans ht))
 obtain ⟨c0, c1, c2, c3, c4, c5, c6, c7, c8, c9⟩ := HC.out _ (Below.refl _ _)
 have HB := hid hB0
 have HS0 := hid hs0
 clear hv hr hB0 hs0 ht
 unfold e0 at *
 go_enter Tryz.func13, Tryz.ntmps13
 go_wp2_with fail
 refine HM.out.mono ?_
 rintro e1 w1 ⟨rfl, hb1⟩
 have HB1 := hid (hb1.mono (Nat.le_of_eq HS0.out.symm))
 clear hb1 c0 c1 c2 c3 c4 c5 c6 c7 c8 c9
 obtain ⟨c0, c1, c2, c3, c4, c5, c6, c7, c8, c9⟩ := HC.out _ HB1.out
 go_wp2_with fail
 have HB2 : Hid (Below (w.heap.size + 1) (w.alloc (evO ⟨3, [97], [98], [49, 46, 48, 46, 48], none, 0, [], 0, 0, 0, [], []⟩)) w1.drew) := hid (VerC.zet HB1.out)
 go_region_held3 (fun w' => w'.cell? ⟨w.heap.size, 0, none⟩ = some (.int .u8 3) ∧ w'.cell? ⟨w.heap.size, 1, none⟩ = some (.string (str [97])) ∧ w'.cell? ⟨w.heap.size, 2, none⟩ = some (.string (str [98])) ∧ w'.cell? ⟨w.heap.size, 3, none⟩ = some (.string (str [49, 46, 48, 46, 48])) ∧ w'.cell? ⟨w.heap.size, 4, none⟩ = some (.slice none 0 0) ∧ w'.cell? ⟨w.heap.size, 5, none⟩ = some (.int .u64 0) ∧ w'.cell? ⟨w.heap.size, 6, none⟩ = some (.int .u32 0) ∧ w'.cell? ⟨w.heap.size, 7, none⟩ = some (.int .u32 0) ∧ w'.cell? ⟨w.heap.size, 8, none⟩ = some (.string (str [])) ∧ w'.cell? ⟨w.heap.size, 9, none⟩ = some (.string (str [])))
  (first | exact ⟨c0, c1, c2, c3, c4, c5, c6, c7, c8, c9⟩ | exact ⟨VerC.zbw _ c0, VerC.zbw _ c1, VerC.zbw _ c2, VerC.zbw _ c3, VerC.zbw _ c4, VerC.zbw _ c5, VerC.zbw _ c6, VerC.zbw _ c7, VerC.zbw _ c8, VerC.zbw _ c9⟩ | exact hk3 | exact hk4 | exact hk5 | fail)
  (first
    | (go_at_call 38; refine (HAB.out _).mono ?_; rintro e w3 ⟨rfl, hb3⟩; have HB3 := hid (HB2.out.trans (hb3.mono (Nat.le_trans (Nat.le_of_eq HS0.out.symm) HB2.out.size))); have hk3 := HC.out _ HB3.out; clear hb3)
    | (go_at_call 29; refine (HEV.out _ (HTW.out _ HB3.out)).mono ?_; rintro e w4 ⟨v, rfl, ho4, hb4⟩; have HB4 := hid (HB3.out.trans (hb4.mono (Nat.le_trans (Nat.le_of_eq HS0.out.symm) HB3.out.size))); have hk4 := HC.out _ HB4.out; have HO4 := hid ho4; clear hb4 ho4)
    | (go_at_call 27; refine (HJ.out _ _ _ HO4.out).mono ?_; rintro e w5 ⟨rfl, hb5⟩; have HB5 := hid (HB4.out.trans (hb5.mono (Nat.le_trans (Nat.le_of_eq HS0.out.symm) HB4.out.size))); have hk5 := HC.out _ HB5.out; clear hb5)
    | fail)
 all_goals (go_wp2_with fail)
 all_goals go_ret2
 all_goals exact ⟨rfl, HB.out.trans (HB5.out.mono (by omega))⟩
theorem yeh {w w' : World} {e : Ending} (h : ReadP ⟨#[]⟩ w e w') : ∃ g f, e = .returned (.tuple #[evV (EvA.kindV 0), flt9 g]) ∧ w'.heap[g]? = some (topO 0 f) ∧ IsFault w' f 0 (20 : Nat) ⟨#[]⟩ (0 : Nat) ∧ Below w.heap.size w w' := by
 have h0 : (⟨#[]⟩ : ByteArray).size = 0 := rfl
 have hD : readD ⟨#[]⟩ = (EvA.kindV 0, false, 0, 20) := by simp [readD, fstR, h0]
 obtain ⟨hb, hor⟩ := h
 rw [hD] at hor
 rcases hor with ⟨h1, -⟩ | ⟨-, h1, -⟩ | ⟨-, -, -, -, g, f, h1, -, h2, h3⟩
 · cases h1
 · cases h1
 · exact ⟨g, f, h1, h2, h3, hb⟩
set_option maxRecDepth 100000 in
theorem yei (w : World) (hv : Vw w) (ht : w.cell? ⟨0, 3, none⟩ = some (.string (str [121, 97, 110, 107]))) :
 Calls Tryz.prog 9 #[] w fun e w' => e = .returned (.bool true) ∧ Below w.heap.size w w' := by
 have hz := heap_alloc_new w zO9
 have hB1 : Below w.heap.size w ((w.alloc zO9).setRow w.heap.size (evL e0).toArray) := below_setRow (alW w zO9) (Nat.le_refl _) _
 have hr1 : ((w.alloc zO9).setRow w.heap.size (evL e0).toArray).heap[w.heap.size]? = some (evO e0) := setRow_heap _ _ _ _ _ _ hz
 have hV1 := hv.gr hB1
 have hs1 : w.heap.size < ((w.alloc zO9).setRow w.heap.size (evL e0).toArray).heap.size := (Array.getElem?_eq_some_iff.1 hr1).1
 have HK := hid hs1
 have ht1 := (hB1.cell (World.block_lt_of_cell? _ _ ht)).trans ht
 have HB1 := hid hB1
 have HBY : Hid (∀ W, Vw W → Calls Tryz.prog 10 #[evV e0] W fun e w' => e = .returned (.tuple #[.string ⟨#[3, 1, 97, 1, 98, 5, 49, 46, 48, 46, 48]⟩, .int .i64 0]) ∧ Below W.heap.size W w') := hid (fun W h => yef W h)
 have HTX : Hid (∀ W, Vw W → W.cell? ⟨0, 3, none⟩ = some (.string (str [121, 97, 110, 107])) → Calls Tryz.prog 13 #[evV e0] W fun e w' => e = .returned (.tuple #[.string ⟨#[121, 97, 110, 107, 32, 97, 32, 98, 32, 49, 46, 48, 46, 48]⟩, .int .i64 0]) ∧ Below W.heap.size W w') := hid (fun W h k => text_e0 W h k)
 clear hB1 hs1
 go_enter Tryz.func9, Tryz.ntmps9
 go_wp2_with (first | (refine wpList_store_row rfl 27 _ _ rfl w.heap.size (evL e0).toArray rfl rfl _ _ hz zpa rfl (zpb _) ?_) | (refine wpList_load_row rfl 27 _ rfl w.heap.size rfl _ _ _ _ hr1 Tryz.underlying27 rfl zpa ?_) | fail)
 clear hz hv ht
 have HR1 := hid hr1
 have HV1 := hid hV1
 have HT1 := hid ht1
 clear hr1 hV1 ht1
 generalize (w.alloc zO9).setRow w.heap.size (evL e0).toArray = w1 at *
 refine (HBY.out _ HV1.out).mono ?_
 rintro e w2 ⟨rfl, hb2⟩
 have hr2 := (hb2.block w.heap.size HK.out).trans HR1.out
 have HV2 := hid (HV1.out.gr hb2)
 have HT2 := hid ((hb2.cell (World.block_lt_of_cell? _ _ HT1.out)).trans HT1.out)
 have HB2 := hid hb2
 clear hb2
 go_wp2_with (first | (refine wpList_load_row rfl 27 _ rfl w.heap.size rfl _ _ _ _ hr2 Tryz.underlying27 rfl zpa ?_) | fail)
 refine (HTX.out _ HV2.out HT2.out).mono ?_
 rintro e w3 ⟨rfl, hb3⟩
 have HB3 := hid (chW HB2.out hb3)
 have HV3 := hid (HV2.out.gr hb3)
 clear hb3 hr2
 go_wp2_with fail
 refine (pread_any ⟨#[]⟩ _ (by decide) HV3.out).mono ?_
 intro e w4 hr4
 obtain ⟨g, f, rfl, hg, hf, hb4⟩ := yeh hr4
 have HB4 := hid (chW HB3.out hb4)
 have hz5 := heap_alloc_new w4 zO9
 have hlg := (Array.getElem?_eq_some_iff.1 hg).1
 have hlf := hf.lt
 have hg5 : ((w4.alloc zO9).setRow w4.heap.size (evL (EvA.kindV 0)).toArray).heap[g]? = some (topO 0 f) := by
  rw [setRow_other _ _ g _ (by omega), heap_alloc_old _ _ hlg]; exact hg
 have hf5 : IsFault ((w4.alloc zO9).setRow w4.heap.size (evL (EvA.kindV 0)).toArray) f 0 (20 : Nat) ⟨#[]⟩ (0 : Nat) := yco hf (by rw [setRow_other _ _ f _ (by omega), heap_alloc_old _ _ hlf])
 have HG5 := hid hg5
 have HF5 := hid hf5
 have HB5 : Hid (Below w1.heap.size w1 ((w4.alloc zO9).setRow w4.heap.size (evL (EvA.kindV 0)).toArray)) := hid (below_setRow (chW HB4.out (alW w4 zO9)) HB4.out.size _)
 clear hb4 hg hf hlg hlf hg5 hf5
 go_wp2_with (first | (refine wpList_store_row rfl 27 _ _ rfl w4.heap.size (evL (EvA.kindV 0)).toArray rfl rfl _ _ hz5 zpa rfl (zpb _) ?_) | fail)
 clear hz5
 generalize (w4.alloc zO9).setRow w4.heap.size (evL (EvA.kindV 0)).toArray = w5 at *
 have c0 : w5.cell? ⟨g, 0, none⟩ = some (.int .i64 90) := by simp [World.cell?, HG5.out]
 have c3 : w5.cell? ⟨g, 3, none⟩ = some (fV f) := by simp [World.cell?, HG5.out]
 refine (is_two g 90 _ _ w5 c0 c3).mono ?_
 rintro e w6 ⟨rfl, hb6⟩
 have d0 : w6.cell? ⟨g, 0, none⟩ = some (.int .i64 90) := (hb6.cell (World.block_lt_of_cell? _ _ c0)).trans c0
 have d3 : w6.cell? ⟨g, 3, none⟩ = some (fV f) := (hb6.cell (World.block_lt_of_cell? _ _ c3)).trans c3
 have hf6 := HF5.out.below hb6 HF5.out.lt
 have b0 := hf6.code
 have b3 := hf6.under
 have HB6 := hid (chW HB5.out hb6)
 have HIS := hid (yce g f 90 20 (by decide) w6 d0 d3 b0 b3)
 clear c0 c3 d0 d3 b0 b3 hf6 hb6
 go_wp2_with fail
 refine HIS.out.mono ?_
 rintro e w7 ⟨rfl, hb7⟩
 have HB7 := hid (chW HB6.out hb7)
 clear hb7
 go_wp2_with fail
 go_ret
 exact ⟨rfl, HB1.out.trans (HB7.out.mono HB1.out.size)⟩
end EvR
end
section
open Go.RowKit Go.Sort
namespace EvL
open StrC EvA EvF EvS EvC CodeM CodeC
open VerC (Vw)
structure WoV (w : World) : Prop where
 vw : Vw w
 words : ∀ k, k < 11 → w.cell? ⟨0, k, none⟩ = some (.string (str (kw k)))
theorem WoV.gr {w w' : World} (h : WoV w) (hb : Below w.heap.size w w') : WoV w' := ⟨h.vw.gr hb, fun k hk => (hb.cell (World.block_lt_of_cell? _ _ (h.words k hk))).trans (h.words k hk)⟩
def ReadL (s : ByteArray) (w : World) (r : Ending) (w' : World) : Prop := Below w.heap.size w w' ∧
 ((∃ G a c, r = .returned (.tuple #[evV (atE G a c), .nilIface]) ∧ EvIn w' (atE G a c) ∧ mayD G = true ∧ znt G (zrk G.k) = s.data.toList ∧ (readD s).1 = G ∧ (readD s).2.1 = true) ∨
 (∃ t u, r = .returned (.tuple #[evV (EvA.kindV 0), .iface t u]) ∧ (readD s).2.1 = false))
theorem yej {s : ByteArray} (h : (readD s).2.1 = true) : Sh (readD s).1 := by
 unfold readD at h ⊢
 simp only at h ⊢
 split at h
 · cases h
 split at h
 · cases h
 split at h
 · cases h
 split at h
 · cases h
 split at h
 · cases h
 rename_i k1 k2 k3 k4 k5
 rw [if_neg k1, if_neg k2, if_neg k3, if_neg k4, if_neg k5]
 exact zzu _ _ _ (zzp (by rw [← ycx]; exact b_le 0 s))
theorem yek (s : ByteArray) (w : World) (hs : s.size ≤ 4611686018427387904) (hv : Vw w) : Calls Tryz.prog 12 #[.string s] w (ReadL s w) := by
 refine (pread_any s w hs hv).mono ?_
 rintro r w' ⟨hb, ⟨h1, a, c, rfl, h3⟩ | ⟨h1, h2, h3, g, rfl, h4, h5⟩ | ⟨h1, h2, h3, hs2, g, f, rfl, h4, h5, h6⟩⟩
 · obtain ⟨⟨G, ok, x, y⟩, hD⟩ : ∃ D, readD s = D := ⟨_, rfl⟩
   rw [hD] at h1 h3 ⊢
   simp only at h1 h3
   subst h1
   obtain ⟨k1, k2⟩ := yeb hD
   have hsh := yej (s := s) (by rw [hD])
   rw [hD] at hsh
   exact ⟨hb, .inl ⟨G, a, c, rfl, sh_in hsh h3, k2, k1, by rw [hD], by rw [hD]⟩⟩
 · exact ⟨hb, .inr ⟨_, _, rfl, h1⟩⟩
 · exact ⟨hb, .inr ⟨_, _, rfl, h1⟩⟩
theorem yel {G : EvG} {w : World} (hin : EvIn w G) (hv : Vw w) (hm : mayD G = true) {T : B} (hT : znt G (zrk G.k) = T) : Calls Tryz.prog 10 #[evV G] w fun r w' => r = .returned (.tuple #[.string (str T), .int .i64 0]) ∧ Below w.heap.size w w' := by
 refine (ybt G w hin hv).mono ?_
 rintro r w' ⟨rfl, hb⟩
 rw [hm, if_pos rfl, hT]
 exact ⟨rfl, hb⟩
theorem yem {G : EvG} {w : World} (hin : EvIn w G) (hv : WoV w) (hm : mayD G = true) {T : B} (hT : lineM (kw G.k) G (zrk G.k) = T) : Calls Tryz.prog 13 #[evV G] w fun r w' => r = .returned (.tuple #[.string (str T), .int .i64 0]) ∧ Below w.heap.size w w' := by
 refine (ybu G w hin hv.vw hv.words).mono ?_
 rintro r w' ⟨rfl, hb⟩
 rw [hm, if_pos rfl, hT]
 exact ⟨rfl, hb⟩
set_option maxRecDepth 100000 in
/-- the law's second half -/
theorem yen (t : B) (w : World) (ht : t.length ≤ 140737488351232) (hv : WoV w) : Calls Tryz.prog 6 #[.string (str t)] w (fun r w' => Below w.heap.size w w' ∧ ((∃ X, r = .returned (.tuple #[evV X, .int .i64 0]) ∧ EvIn w' X ∧ mayD X = true ∧ lineM (kw X.k) X (zrk X.k) = t) ∨ (∃ X, r = .returned (.tuple #[evV X, .int .i64 90]) ∧ EvIn w' X))) := by
 refine (ycl t w ht hv.vw hv.words).mono ?_
 rintro r w' ⟨hb, ⟨h1, h2, a, c, rfl, h3⟩ | ⟨h1, rfl⟩⟩
 · unfold okS at h1
   simp only [Bool.and_eq_true, decide_eq_true_eq] at h1
   exact ⟨hb, .inl ⟨_, rfl, yck h2 h3, h1.2.2.1, h1.2.2.2⟩⟩
 · exact ⟨hb, .inr ⟨_, rfl, yck (g := zG 0) (a := none) (c := 0) (bnd_z (by decide)) (NeIn.no _)⟩⟩
set_option maxRecDepth 100000 in
theorem one_law (s t : ByteArray) (w : World) (hs : s.size ≤ 4611686018427387904) (ht : t.size ≤ 140737488351232) (hv : WoV w) : Calls Tryz.prog 5 #[.string s, .string t] w fun r w' => r = .returned (.bool true) ∧ Below w.heap.size w w' := by
 obtain ⟨tl, rfl⟩ : ∃ tl, t = str tl := ⟨_, zbo t⟩
 rw [zbm] at ht
 have HR := hid (yek s w hs hv.vw)
 have HV : Hid (∀ W, Below w.heap.size w W → WoV W) := hid (fun W h => hv.gr h)
 have HT : Hid (∀ W, Below w.heap.size w W → Calls Tryz.prog 6 #[.string (str tl)] W (fun r w' => Below W.heap.size W w' ∧ ((∃ X, r = .returned (.tuple #[evV X, .int .i64 0]) ∧ EvIn w' X ∧ mayD X = true ∧ lineM (kw X.k) X (zrk X.k) = tl) ∨ (∃ X, r = .returned (.tuple #[evV X, .int .i64 90]) ∧ EvIn w' X)))) := hid (fun W h => yen tl W ht (hv.gr h))
 have HAL : Hid (∀ W, Below w.heap.size w W → Calls Tryz.prog 9 #[] W fun r w' => r = .returned (.bool true) ∧ Below W.heap.size W w') := hid (fun W hb => EvR.yei W (hv.vw.gr hb) ((hv.gr hb).words 3 (by decide)))
 have HSB := hid (zbo s)
 clear hs ht hv
 have k1 : ∀ l : B, ((str l).toList != (str l).toList) = false := fun l => by rw [zbs]; exact decide_eq_false (by simp)
 go_enter Tryz.func5, Tryz.ntmps5
 go_wp2_with fail
 refine HR.out.mono ?_
 rintro r w1 ⟨hb1, ⟨G, a, c, rfl, hin, hm, hby, -, -⟩ | ⟨ty, u, rfl, -⟩⟩
 · have hz2 := heap_alloc_new w1 zE0
   have hb2 : Below w1.heap.size w1 ((w1.alloc zE0).setRow w1.heap.size (evL (atE G a c)).toArray) := below_setRow (alW w1 zE0) (Nat.le_refl _) _
   have hx2 : ((w1.alloc zE0).setRow w1.heap.size (evL (atE G a c)).toArray).heap[w1.heap.size]? = some (evO (atE G a c)) := setRow_heap _ _ _ _ _ _ hz2
   have HB2 := hid (hb1.trans (hb2.mono hb1.size))
   have HX2 := hid hx2
   have HBY : Hid (Calls Tryz.prog 10 #[evV (atE G a c)] ((w1.alloc zE0).setRow w1.heap.size (evL (atE G a c)).toArray) fun r w' => r = .returned (.tuple #[.string s, .int .i64 0]) ∧ Below ((w1.alloc zE0).setRow w1.heap.size (evL (atE G a c)).toArray).heap.size ((w1.alloc zE0).setRow w1.heap.size (evL (atE G a c)).toArray) w') := hid (by
    have h := yel (hin.gr hb2) (HV.out _ HB2.out).vw (show mayD (atE G a c) = true from hm) (show znt (atE G a c) (zrk (atE G a c).k) = s.data.toList from hby)
    rwa [← HSB.out] at h)
   have k2 : (s.toList != s.toList) = false := by simp
   clear hb1 hb2 hx2 hin hm hby
   go_wp2_with (first | (refine wpList_store_row rfl 27 _ _ rfl w1.heap.size (evL (atE G a c)).toArray rfl rfl _ _ hz2 zpa rfl (zpb _) ?_; have hx2 := HX2.out; clear hz2) | (refine wpList_load_row rfl 27 _ rfl w1.heap.size rfl _ _ _ _ hx2 Tryz.underlying27 rfl zpa ?_; clear hx2) | fail)
   refine HBY.out.mono ?_
   rintro r w3 ⟨rfl, hb3⟩
   have HBX := hid (HB2.out.trans (hb3.mono HB2.out.size))
   clear hb3 HBY HX2
   have HT1 := hid (HT.out _ HBX.out)
   go_wp2_with fail
   refine HT1.out.mono ?_
   rintro r w6 ⟨hb6, ⟨X, rfl, hx1, hx2, hx3⟩ | ⟨X, rfl, hx1⟩⟩
   · have hz7 := heap_alloc_new w6 zE0
     have hb7 : Below w6.heap.size w6 ((w6.alloc zE0).setRow w6.heap.size (evL X).toArray) := below_setRow (alW w6 zE0) (Nat.le_refl _) _
     have hx7 : ((w6.alloc zE0).setRow w6.heap.size (evL X).toArray).heap[w6.heap.size]? = some (evO X) := setRow_heap _ _ _ _ _ _ hz7
     have HB6 := hid (HBX.out.trans (hb6.mono HBX.out.size))
     have HB7 := hid (HB6.out.trans (hb7.mono HB6.out.size))
     have HX7 := hid hx7
     have HTX := hid (yem (hx1.gr hb7) (HV.out _ HB7.out) hx2 hx3)
     clear hb6 hb7 hx7 hx1 hx2 hx3
     go_wp2_with (first | (refine wpList_store_row rfl 27 _ _ rfl w6.heap.size (evL X).toArray rfl rfl _ _ hz7 zpa rfl (zpb _) ?_; have hx7 := HX7.out; clear hz7) | (refine wpList_load_row rfl 27 _ rfl w6.heap.size rfl _ _ _ _ hx7 Tryz.underlying27 rfl zpa ?_; clear hx7) | fail)
     refine HTX.out.mono ?_
     rintro r w8 ⟨rfl, hb8⟩
     have HB8 := hid (HB7.out.trans (hb8.mono HB7.out.size))
     have HAL8 := hid (HAL.out _ HB8.out)
     clear hb8
     go_wp2_with fail
     refine HAL8.out.mono ?_
     rintro r w9 ⟨rfl, hb9⟩
     have HB9 := hid (HB8.out.trans (hb9.mono HB8.out.size))
     clear hb9
     go_wp2_with fail
     go_ret
     exact ⟨rfl, HB9.out⟩
   · have hz7 := heap_alloc_new w6 zE0
     have hb7 : Below w6.heap.size w6 ((w6.alloc zE0).setRow w6.heap.size (evL X).toArray) := below_setRow (alW w6 zE0) (Nat.le_refl _) _
     have HB6 := hid (HBX.out.trans (hb6.mono HBX.out.size))
     have HB7 := hid (HB6.out.trans (hb7.mono HB6.out.size))
     have HAL8 := hid (HAL.out _ HB7.out)
     clear hb6 hb7 hx1
     go_wp2_with (first | (refine wpList_store_row rfl 27 _ _ rfl w6.heap.size (evL X).toArray rfl rfl _ _ hz7 zpa rfl (zpb _) ?_; clear hz7) | fail)
     refine HAL8.out.mono ?_
     rintro r w9 ⟨rfl, hb9⟩
     have HB9 := hid (HB7.out.trans (hb9.mono HB7.out.size))
     clear hb9
     go_wp2_with fail
     go_ret
     exact ⟨rfl, HB9.out⟩
 · have hz2 := heap_alloc_new w1 zE0
   have hb2 : Below w1.heap.size w1 ((w1.alloc zE0).setRow w1.heap.size (evL (EvA.kindV 0)).toArray) := below_setRow (alW w1 zE0) (Nat.le_refl _) _
   have HBX := hid (hb1.trans (hb2.mono hb1.size))
   clear hb1 hb2
   have HT1 := hid (HT.out _ HBX.out)
   go_wp2_with (first | (refine wpList_store_row rfl 27 _ _ rfl w1.heap.size (evL (EvA.kindV 0)).toArray rfl rfl _ _ hz2 zpa rfl (zpb _) ?_; clear hz2) | fail)
   refine HT1.out.mono ?_
   rintro r w6 ⟨hb6, ⟨X, rfl, hx1, hx2, hx3⟩ | ⟨X, rfl, hx1⟩⟩
   · have hz7 := heap_alloc_new w6 zE0
     have hb7 : Below w6.heap.size w6 ((w6.alloc zE0).setRow w6.heap.size (evL X).toArray) := below_setRow (alW w6 zE0) (Nat.le_refl _) _
     have hx7 : ((w6.alloc zE0).setRow w6.heap.size (evL X).toArray).heap[w6.heap.size]? = some (evO X) := setRow_heap _ _ _ _ _ _ hz7
     have HB6 := hid (HBX.out.trans (hb6.mono HBX.out.size))
     have HB7 := hid (HB6.out.trans (hb7.mono HB6.out.size))
     have HX7 := hid hx7
     have HTX := hid (yem (hx1.gr hb7) (HV.out _ HB7.out) hx2 hx3)
     clear hb6 hb7 hx7 hx1 hx2 hx3
     go_wp2_with (first | (refine wpList_store_row rfl 27 _ _ rfl w6.heap.size (evL X).toArray rfl rfl _ _ hz7 zpa rfl (zpb _) ?_; have hx7 := HX7.out; clear hz7) | (refine wpList_load_row rfl 27 _ rfl w6.heap.size rfl _ _ _ _ hx7 Tryz.underlying27 rfl zpa ?_; clear hx7) | fail)
     refine HTX.out.mono ?_
     rintro r w8 ⟨rfl, hb8⟩
     have HB8 := hid (HB7.out.trans (hb8.mono HB7.out.size))
     have HAL8 := hid (HAL.out _ HB8.out)
     clear hb8
     go_wp2_with fail
     refine HAL8.out.mono ?_
     rintro r w9 ⟨rfl, hb9⟩
     have HB9 := hid (HB8.out.trans (hb9.mono HB8.out.size))
     clear hb9
     go_wp2_with fail
     go_ret
     exact ⟨rfl, HB9.out⟩
   · have hz7 := heap_alloc_new w6 zE0
     have hb7 : Below w6.heap.size w6 ((w6.alloc zE0).setRow w6.heap.size (evL X).toArray) := below_setRow (alW w6 zE0) (Nat.le_refl _) _
     have HB6 := hid (HBX.out.trans (hb6.mono HBX.out.size))
     have HB7 := hid (HB6.out.trans (hb7.mono HB6.out.size))
     have HAL8 := hid (HAL.out _ HB7.out)
     clear hb6 hb7 hx1
     go_wp2_with (first | (refine wpList_store_row rfl 27 _ _ rfl w6.heap.size (evL X).toArray rfl rfl _ _ hz7 zpa rfl (zpb _) ?_; clear hz7) | fail)
     refine HAL8.out.mono ?_
     rintro r w9 ⟨rfl, hb9⟩
     have HB9 := hid (HB7.out.trans (hb9.mono HB7.out.size))
     clear hb9
     go_wp2_with fail
     go_ret
     exact ⟨rfl, HB9.out⟩
end EvL
end
end Go.Proofs.YtfbegbmjmhnplaaGreatDoor
