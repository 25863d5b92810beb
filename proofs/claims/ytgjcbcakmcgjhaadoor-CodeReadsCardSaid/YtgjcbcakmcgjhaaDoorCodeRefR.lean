/-
  What the document's own reader of layer 2 reads: one contract a method.
-/
import Derived.Test.YtgjcbcakmcgjhaaDoorCodeRefW
import Derived.BigQuiet
namespace Go.Proofs.YtgjcbcakmcgjhaaDoor
open Go.RowKit
namespace CodeC
open CodeM

/-- the document's reader, as its cells hold it -/
structure IsRef (w : World) (b o : Nat) (s : ByteArray) (k : Nat) : Prop where
  text : w.cell? ⟨b, o, none⟩ = some (.string s)
  at_ : w.cell? ⟨b, o + 1, none⟩ = some (.int .i64 k)
  free : w.frozen? ⟨b, o + 1, none⟩ = false

theorem idx_at (s : ByteArray) (k n : Nat) (h : k + n < s.size) (w : World) : (Instr.index 9 (.string s) (.int .i64 ((k : Int) + (n : Int)))).run Tryd.prog w = .ok (.int .u8 (s[k + n].toNat : Int)) w := by
  rw [run_index_string w 9 s .i64 _ Tryd.underlying9, dif_pos ⟨by omega, by omega⟩]
  have e : ((k : Int) + (n : Int)).toNat = k + n := by omega
  simp only [e]

/-- only block b was written -/
structure Only (b : Nat) (w w' : World) : Prop where
  os : w'.os = w.os
  tape : w'.tape = w.tape
  output : w'.output = w.output
  size : w'.heap.size = w.heap.size
  block : ∀ k, k ≠ b → w'.heap[k]? = w.heap[k]?
theorem Only.refl (b : Nat) (w : World) : Only b w w := ⟨rfl, rfl, rfl, rfl, fun _ _ => rfl⟩
theorem Only.drewN {b : Nat} {a w : World} (h : Only b a w) (q : Nat) : Only b a (w.drewN q) := ⟨h.os, h.tape, h.output, h.size, h.block⟩
theorem Only.set {b : Nat} {a w : World} (h : Only b a w) (o : Nat) (v : Value) : Only b a (w.setCell ⟨b, o, none⟩ v) :=
  ⟨h.os, h.tape, h.output, by simpa using h.size, fun k hk => by rw [Below.heap_setCell w ⟨b, o, none⟩ v k hk]; exact h.block k hk⟩
theorem Only.below {b B : Nat} {w w' : World} (h : Only b w w') (hB : B ≤ b) : Below B w w' := ⟨h.os, h.tape, h.output, by rw [h.size]; exact Nat.le_refl _, fun k hk => h.block k (by omega)⟩
theorem IsRef.drewN {w : World} {b o k : Nat} {s : ByteArray} (h : IsRef w b o s k) (q : Nat) : IsRef (w.drewN q) b o s k := ⟨by simpa using h.text, by simpa using h.at_, by simpa using h.free⟩
theorem IsRef.set {w : World} {b o k : Nat} {s : ByteArray} (h : IsRef w b o s k) (n : Nat) : IsRef (w.setCell ⟨b, o + 1, none⟩ (.int .i64 n)) b o s n :=
  ⟨by rw [World.cell?_setCell_other _ _ _ _ (fun e => by have := congrArg Addr.off e; simp at this)]; exact h.text, World.cell?_setCell_same _ _ _ h.at_, by simpa using h.free⟩

theorem IsRef.put {w : World} {b o k : Nat} {s : ByteArray} (h : IsRef w b o s k) (z : Int) (n : Nat) (hz : z = (n : Int)) : IsRef (w.setCell ⟨b, o + 1, none⟩ (.int .i64 z)) b o s n := by
  subst hz; exact h.set n

def uEnd (v e p : Nat) : Ending := .returned (.tuple #[.int .u64 v, .int .i64 e, .int .i64 p])
theorem uEnd_of {most k v e p q : Nat} {l : List UInt8} (h : uRes most k l = (v, e, p, q)) : uEnd (uRes most k l).1 (uRes most k l).2.1 (uRes most k l).2.2.1 = .returned (.tuple #[.int .u64 v, .int .i64 e, .int .i64 p]) := by rw [h]; rfl

set_option maxHeartbeats 4000000 in
set_option maxRecDepth 100000 in
theorem rruint_any (b o : Nat) (s : ByteArray) (k : Nat) (most : Nat) (w : World) (hk : k ≤ s.size) (hs : s.size ≤ 4611686018427387904) (hm : most < 18446744073709551616) (hr : IsRef w b o s k) :
    Calls Tryd.prog 29 #[.pointer (some ⟨b, o, none⟩), .int .u64 most] w fun e w' =>
      e = uEnd (uRes most k (s.data.toList.drop k)).1 (uRes most k (s.data.toList.drop k)).2.1 (uRes most k (s.data.toList.drop k)).2.2.1 ∧ IsRef w' b o s (uRes most k (s.data.toList.drop k)).2.2.2 ∧ Only b w w' := by
  have HR := Lib.hid hr
  obtain ⟨h0, h1, h2⟩ := hr
  have HM := Lib.hid hm; clear hm
  go_enter Tryd.func29, Tryd.ntmps29
  go_wp2_with fail
  go_loopw [7, 8, 9] (fun vx vn vc wr => ∃ (n x q : Nat), vx = .int .u64 x ∧ vn = .int .i64 n ∧ n ≤ 10 ∧ k + n ≤ s.size ∧ x < 128 ^ n ∧ wr = w.drewN q ∧ Hid (ur 0 0 (s.data.toList.drop k) = ur n x (s.data.toList.drop (k + n)))) (fun _ vn _ _ => 10 - (intOf vn).toNat)
  case atStart => exact ⟨0, 0, 0, rfl, rfl, by omega, by omega, by decide, rfl, Lib.hid rfl⟩
  case round =>
    obtain ⟨n, x, q, rfl, rfl, hn, hkn, hx, rfl, HU⟩ := hrel
    have HX := Lib.hid hx; clear hx
    by_cases h10 : n = 10
    · have t10 : ((n : Int) == 10) = true := beq_iff_eq.2 (by omega)
      have HE := Lib.hid (uRes_err (most := most) (k := k) (l := s.data.toList.drop k) (e := 21) (by rw [HU.out]; cases s.data.toList.drop (k + n) <;> simp [ur, h10]))
      clear h10
      go_wp2_with fail
      go_quiet (fail)
      go_wp2_with fail
      go_ret3
      exact ⟨(uEnd_of HE.out).symm, by rw [HE.out]; repeat (first | exact HR.out | apply IsRef.drewN), by repeat (first | exact Only.refl _ _ | apply Only.drewN)⟩
    · have t10 : ((n : Int) == 10) = false := beq_eq_false_iff_ne.2 (by omega)
      by_cases hend : s.size ≤ k + n
      · have HE := Lib.hid (uRes_err (most := most) (k := k) (l := s.data.toList.drop k) (e := 20) (by rw [HU.out, drop_nil s (k + n) hend]; simp [ur, h10]))
        go_wp2_with fail
        go_quiet (fail)
        go_wp2_with fail
        go_quiet (fail)
        go_wp2_with fail
        go_ret3
        exact ⟨(uEnd_of HE.out).symm, by rw [HE.out]; repeat (first | exact HR.out | apply IsRef.drewN), by repeat (first | exact Only.refl _ _ | apply Only.drewN)⟩
      · have hlt : k + n < s.size := by omega
        have hc := s[k + n].toNat_lt
        have hd1 : decide (s.size ≤ k + n) = false := by simpa using hlt
        have hidx := idx_at s k n hlt
        go_wp2_with fail
        go_quiet (fail)
        go_wp2_with fail
        go_quiet (fail)
        have hdc := drop_cons s (k + n) hlt
        have HD := Lib.hid hdc; clear hdc
        clear hidx
        generalize s[k + n] = c at *
        by_cases hA : n = 9 ∧ 1 < c.toNat
        · have HE := Lib.hid (uRes_err (most := most) (k := k) (l := s.data.toList.drop k) (e := 21) (by rw [HU.out, HD.out]; simp [ur, hA]))
          have t9 : ((n : Int) == 9) = true := beq_iff_eq.2 (by omega)
          have tc : decide (1 < c.toNat) = true := by simpa using hA.2
          have tc2 := hA.2
          clear hA
          go_wp2_with fail
          go_quiet (fail)
          go_wp2_with fail
          go_ret3
          exact ⟨(uEnd_of HE.out).symm, by rw [HE.out]; repeat (first | exact HR.out | apply IsRef.drewN), by repeat (first | exact Only.refl _ _ | apply Only.drewN)⟩
        · have hn9 : n ≤ 9 := by omega
          have h9c : n = 9 → c.toNat % 128 ≤ 1 := fun e => by have : ¬ 1 < c.toNat := fun h => hA ⟨e, h⟩; omega
          have hor := or_shift x n c.toNat HX.out hn9 h9c
          have hnx := Lib.hid (next_lt x n (c.toNat % 128) HX.out (Nat.mod_lt _ (by decide)))
          have hand : bits .and .u8 (c.toNat : Int) 127 = (c.toNat : Int) % 128 := bits_mask .u8 8 (by decide) wraps_u8 7 (by decide) _ (by omega) (by omega)
          by_cases hB : c.toNat < 128
          · have t128 : decide (c.toNat < 128) = true := by simpa using hB
            have t9c : n = 9 → decide (1 < c.toNat) = false := fun e => by have : ¬ 1 < c.toNat := fun h => hA ⟨e, h⟩; simpa using this
            by_cases hC : c.toNat = 0 ∧ 0 < n
            · have HE := Lib.hid (uRes_err (most := most) (k := k) (l := s.data.toList.drop k) (e := 21) (by rw [HU.out, HD.out, ur, if_neg h10, if_neg hA, if_pos hB, if_pos hC]))
              have tz : ((c.toNat : Int) == 0) = true := beq_iff_eq.2 (by omega)
              have tn : decide (1 < (n : Int) + 1) = true := by simp; omega
              have tn2 : 1 < (n : Int) + 1 := by omega
              have hz := hC.1
              by_cases h9 : n = 9
              · have t9 : ((n : Int) == 9) = true := beq_iff_eq.2 (by omega)
                have tc := t9c h9
                have hle : c.toNat ≤ 1 := by omega
                clear hA hC h9c t9c hz h9 h10
                go_wp2_with fail
                go_quiet (fail)
                go_wp2_with fail
                go_ret3
                exact ⟨(uEnd_of HE.out).symm, by rw [HE.out]; repeat (first | exact HR.out | apply IsRef.drewN), by repeat (first | exact Only.refl _ _ | apply Only.drewN)⟩
              · have t9 : ((n : Int) == 9) = false := beq_eq_false_iff_ne.2 (by omega)
                clear hA hC h9c t9c hz h9 h10
                go_wp2_with fail
                go_quiet (fail)
                go_wp2_with fail
                go_ret3
                exact ⟨(uEnd_of HE.out).symm, by rw [HE.out]; repeat (first | exact HR.out | apply IsRef.drewN), by repeat (first | exact Only.refl _ _ | apply Only.drewN)⟩
            · have hur : ur 0 0 (s.data.toList.drop k) = .inr (x + c.toNat % 128 * 128 ^ n, n + 1) := by rw [HU.out, HD.out, ur, if_neg h10, if_neg hA, if_pos hB, if_neg hC]
              have hX : x + c.toNat % 128 * 128 ^ n < 18446744073709551616 := by have h1 := shift_lt n (c.toNat % 128) hn9 (Nat.mod_lt _ (by decide)) h9c; rw [Nat.add_mul, Nat.one_mul] at h1; have := HX.out; omega
              have hnz : (c.toNat = 0 → n = 0) := fun e => by omega
              have hkn1 : k + (n + 1) ≤ s.size := by omega
              clear hC hA h9c hnx
              generalize x + c.toNat % 128 * 128 ^ n = X at *
              have HUR := Lib.hid hur; clear hur
              have h3 : (((n : Int) == 9) = true ∧ c.toNat ≤ 1 ∧ ((c.toNat : Int) == 0) = false) ∨ (((n : Int) == 9) = false ∧ ((c.toNat : Int) == 0) = true ∧ n ≤ 0) ∨ (((n : Int) == 9) = false ∧ ((c.toNat : Int) == 0) = false) := by
                by_cases e9 : n = 9
                · have : ¬ 1 < c.toNat := by simpa using t9c e9
                  exact Or.inl ⟨beq_iff_eq.2 (by omega), by omega, beq_eq_false_iff_ne.2 (fun e => by have := hnz (by omega); omega)⟩
                · by_cases ez : c.toNat = 0
                  · exact Or.inr (Or.inl ⟨beq_eq_false_iff_ne.2 (by omega), beq_iff_eq.2 (by omega), by have := hnz ez; omega⟩)
                  · exact Or.inr (Or.inr ⟨beq_eq_false_iff_ne.2 (by omega), beq_eq_false_iff_ne.2 (by omega)⟩)
              clear hnz t9c h10
              have hXm : X ≤ 18446744073709551615 := by omega
              clear hX
              by_cases hmost : most < X
              · have HE := Lib.hid (uRes_most HUR.out hmost (k := k))
                have tm : decide (most < X) = true := by simpa using hmost
                rcases h3 with ⟨t9, tle, tz⟩ | ⟨t9, tz, tn⟩ | ⟨t9, tz⟩
                all_goals
                  go_wp2_with fail
                  go_quiet (fail)
                  go_wp2_with fail
                  go_ret3
                  exact ⟨(uEnd_of HE.out).symm, by rw [HE.out]; repeat (first | exact HR.out | apply IsRef.drewN), by repeat (first | exact Only.refl _ _ | apply Only.drewN)⟩
              · have HE := Lib.hid (uRes_ok HUR.out hmost (k := k))
                have tm : decide (most < X) = false := by simpa using hmost
                rcases h3 with ⟨t9, tle, tz⟩ | ⟨t9, tz, tn⟩ | ⟨t9, tz⟩
                all_goals
                  go_wp2_with fail
                  go_ret3
                  refine ⟨(uEnd_of HE.out).symm, ?_, ?_⟩
                  · rw [HE.out]
                    repeat apply IsRef.drewN
                    refine IsRef.put (k := k) ?_ _ (k + (n + 1)) ?_
                    · repeat (first | exact HR.out | apply IsRef.drewN)
                    · omega
                  · repeat (first | exact Only.refl _ _ | apply Only.drewN | apply Only.set)
          · have t128 : decide (c.toNat < 128) = false := by simpa using hB
            have HN := Lib.hid (show ur n x (c :: s.data.toList.drop (k + n + 1)) = ur (n + 1) (x + c.toNat % 128 * 128 ^ n) (s.data.toList.drop (k + (n + 1))) by rw [ur, if_neg h10, if_neg hA, if_neg hB]; rfl)
            have h9 : n ≠ 9 := by omega
            have t9 : ((n : Int) == 9) = false := beq_eq_false_iff_ne.2 (by omega)
            clear h9c hA
            generalize x + c.toNat % 128 * 128 ^ n = X at *
            go_wp2_with fail
            go_roundw
            case rel => exact ⟨n + 1, X, _, rfl, by go_num, by omega, by omega, hnx.out, rfl, Lib.hid (by rw [HU.out, HD.out, HN.out])⟩
            case measure => simp [intOf]; omega

theorem idx_one (s : ByteArray) (k : Nat) (h : k < s.size) (w : World) : (Instr.index 9 (.string s) (.int .i64 (k : Int))).run Tryd.prog w = .ok (.int .u8 (s[k].toNat : Int)) w := by
  rw [run_index_string w 9 s .i64 _ Tryd.underlying9, dif_pos ⟨by omega, by omega⟩]
  have e : ((k : Int)).toNat = k := by omega
  simp only [e]

set_option maxHeartbeats 1000000 in
theorem rrbyte_short (b o : Nat) (s : ByteArray) (k : Nat) (w : World) (hk : s.size ≤ k) (hr : IsRef w b o s k) :
    Calls Tryd.prog 32 #[.pointer (some ⟨b, o, none⟩)] w fun e w' => e = .returned (.tuple #[.int .u8 0, .int .i64 20, .int .i64 k]) ∧ IsRef w' b o s k ∧ Only b w w' := by
  have HR := Lib.hid hr
  obtain ⟨h0, h1, h2⟩ := hr
  have hd : decide (s.size ≤ k) = true := by simpa using hk
  go_enter Tryd.func32, Tryd.ntmps32
  go_wp2_with fail
  go_quiet (fail)
  go_wp2_with fail
  go_quiet (fail)
  go_wp2_with fail
  go_ret3
  exact ⟨rfl, by repeat (first | exact HR.out | apply IsRef.drewN), by repeat (first | exact Only.refl _ _ | apply Only.drewN)⟩
set_option maxHeartbeats 1000000 in
theorem rrbyte_ok (b o : Nat) (s : ByteArray) (k : Nat) (w : World) (hk : k < s.size) (hs : s.size ≤ 4611686018427387904) (hr : IsRef w b o s k) :
    Calls Tryd.prog 32 #[.pointer (some ⟨b, o, none⟩)] w fun e w' => e = .returned (.tuple #[.int .u8 (s[k].toNat : Int), .int .i64 0, .int .i64 0]) ∧ IsRef w' b o s (k + 1) ∧ Only b w w' := by
  have HR := Lib.hid hr
  obtain ⟨h0, h1, h2⟩ := hr
  have hd : decide (s.size ≤ k) = false := by simpa using hk
  have hidx := idx_one s k hk
  go_enter Tryd.func32, Tryd.ntmps32
  go_wp2_with fail
  go_quiet (fail)
  go_wp2_with fail
  go_quiet (fail)
  go_wp2_with fail
  go_ret3
  refine ⟨rfl, ?_, by repeat (first | exact Only.refl _ _ | apply Only.drewN | apply Only.set)⟩
  repeat apply IsRef.drewN
  refine IsRef.put (k := k) ?_ _ (k + 1) ?_
  · repeat (first | exact HR.out | apply IsRef.drewN)
  · omega

theorem rrend_rest (b o : Nat) (s : ByteArray) (k : Nat) (w : World) (hk : k < s.size) (hr : IsRef w b o s k) :
    Calls Tryd.prog 35 #[.pointer (some ⟨b, o, none⟩)] w fun e w' => e = .returned (.tuple #[.int .i64 23, .int .i64 k]) ∧ IsRef w' b o s k ∧ Only b w w' := by
  have HR := Lib.hid hr
  obtain ⟨h0, h1, h2⟩ := hr
  have hd : decide (k < s.size) = true := by simpa using hk
  go_enter Tryd.func35, Tryd.ntmps35
  go_wp2_with fail
  go_quiet (fail)
  go_wp2_with fail
  go_quiet (fail)
  go_wp2_with fail
  go_ret2
  exact ⟨rfl, by repeat (first | exact HR.out | apply IsRef.drewN), by repeat (first | exact Only.refl _ _ | apply Only.drewN)⟩
theorem rrend_ok (b o : Nat) (s : ByteArray) (k : Nat) (w : World) (hk : s.size ≤ k) (hr : IsRef w b o s k) :
    Calls Tryd.prog 35 #[.pointer (some ⟨b, o, none⟩)] w fun e w' => e = .returned (.tuple #[.int .i64 0, .int .i64 0]) ∧ IsRef w' b o s k ∧ Only b w w' := by
  have HR := Lib.hid hr
  obtain ⟨h0, h1, h2⟩ := hr
  have hd : decide (k < s.size) = false := by simpa using hk
  go_enter Tryd.func35, Tryd.ntmps35
  go_wp2_with fail
  go_quiet (fail)
  go_wp2_with fail
  go_ret2
  exact ⟨rfl, by repeat (first | exact HR.out | apply IsRef.drewN), by repeat (first | exact Only.refl _ _ | apply Only.drewN)⟩

/-- a length's bound -/
def cap (n : Int) : Nat := n.toNat
theorem rmost_any (n : Int) (w : World) (h : n ≤ 9223372036854775807) : Calls Tryd.prog 42 #[.int .i64 n] w fun e w' => e = .returned (.int .u64 (cap n)) ∧ w = w' := by
  by_cases h0 : n < 0
  · have e : cap n = 0 := by unfold cap; omega
    rw [e]
    go_enter Tryd.func42, Tryd.ntmps42
    go_wp2_with fail
    go_ret
    exact ⟨rfl, rfl⟩
  · obtain ⟨m, rfl⟩ := Int.eq_ofNat_of_zero_le (show 0 ≤ n by omega)
    have e : cap (m : Int) = m := by unfold cap; omega
    rw [e]
    go_enter Tryd.func42, Tryd.ntmps42
    go_wp2_with fail
    go_ret
    exact ⟨rfl, rfl⟩

def tEnd (s : ByteArray) (a b e p : Nat) : Ending := .returned (.tuple #[.string (s.extract a b), .int .i64 e, .int .i64 p])
theorem extract_none (s : ByteArray) : s.extract 0 0 = ⟨#[]⟩ := by
  have h : (s.extract 0 0).size = 0 := by simp
  apply ByteArray.ext
  exact Array.eq_empty_of_size_eq_zero h

theorem cut_text (s : ByteArray) (q v : Nat) (h : q + v ≤ s.size) (w : World) : (Instr.slice 9 (.string s) (some (.int .i64 (q : Int))) (some (.int .i64 ((q : Int) + (v : Int)))) none).run Tryd.prog w = .ok (.string (s.extract q (q + v))) w := by
  rw [run_slice_string w 9 s .i64 .i64 _ _ Tryd.underlying9 (by omega) (by omega) (by omega)]
  have e1 : ((q : Int)).toNat = q := by omega
  have e2 : ((q : Int) + (v : Int)).toNat = q + v := by omega
  rw [e1, e2]

set_option maxHeartbeats 1000000 in
theorem rrtext_any (b o : Nat) (s : ByteArray) (k : Nat) (n : Int) (w : World) (hk : k ≤ s.size) (hs : s.size ≤ 4611686018427387904) (hn : n ≤ 9223372036854775807) (hr : IsRef w b o s k) :
    Calls Tryd.prog 33 #[.pointer (some ⟨b, o, none⟩), .int .i64 n] w fun e w' =>
      e = tEnd s (tRes (cap n) k s).1 (tRes (cap n) k s).2.1 (tRes (cap n) k s).2.2.1 (tRes (cap n) k s).2.2.2.1 ∧ IsRef w' b o s (tRes (cap n) k s).2.2.2.2 ∧ Only b w w' := by
  have HR := Lib.hid hr
  have h1 := hr.at_
  have hc := uRes_cases (cap n) k s hk
  have hcap : cap n < 18446744073709551616 := by unfold cap; omega
  go_enter Tryd.func33, Tryd.ntmps33
  go_wp2_with fail
  refine (rmost_any n _ hn).mono ?_
  rintro e w' ⟨rfl, rfl⟩
  go_wp2_with fail
  refine (rruint_any b o s k (cap n) _ hk hs hcap HR.out).mono ?_
  rintro e w1 ⟨rfl, hr1, ho1⟩
  clear h1
  rcases hc with ⟨e, he, he2, hu⟩ | ⟨v, m, hv, hm, hu⟩
  · have HT := Lib.hid (tRes_err hu he)
    rw [hu] at hr1 ⊢
    have te : ((e : Int) != 0) = true := by simpa using he
    have HR1 := Lib.hid hr1
    have HO := Lib.hid ho1
    clear hr1 ho1 hr hu he
    unfold uEnd
    go_wp2_with fail
    go_ret3
    rw [HT.out]
    exact ⟨by unfold tEnd; rw [extract_none]; rfl, HR1.out, HO.out⟩
  · rw [hu] at hr1 ⊢
    have h2 := hr1.text
    have h3 := hr1.at_
    have h4 := hr1.free
    have HR1 := Lib.hid hr1
    have HO := Lib.hid ho1
    have hvm : v < 18446744073709551616 := by omega
    clear hr1 ho1 hr hcap
    generalize k + m = q at *
    have e1 : IntKind.i64.wrap ((s.size : Int) - (q : Int)) = (s.size : Int) - (q : Int) := IntWalk.i64_in _ ⟨by omega, by omega⟩
    have e2 : IntKind.u64.wrap ((s.size : Int) - (q : Int)) = (s.size : Int) - (q : Int) := IntWalk.u64_in _ ⟨by omega, by omega⟩
    by_cases hq : s.size - q < v
    · have HT := Lib.hid (tRes_short hu hq)
      have tq : decide ((s.size : Int) - (q : Int) < (v : Int)) = true := by simp; omega
      unfold uEnd
      clear hu
      go_wp2_with fail
      go_quiet (fail)
      go_wp2_with fail
      go_ret3
      rw [HT.out]
      refine ⟨by unfold tEnd; rw [extract_none]; rfl, ?_, ?_⟩
      · repeat apply IsRef.drewN
        refine IsRef.put (k := q) ?_ _ k ?_
        · repeat (first | exact HR1.out | apply IsRef.drewN)
        · rfl
      · repeat (first | exact HO.out | apply Only.drewN | apply Only.set)
    · have HT := Lib.hid (tRes_ok hu hq)
      have tq : decide ((s.size : Int) - (q : Int) < (v : Int)) = false := by simp; omega
      unfold uEnd
      clear hu
      have e3 : IntKind.i64.wrap (v : Int) = (v : Int) := IntWalk.i64_in _ ⟨by omega, by omega⟩
      have e4 : IntKind.i64.wrap ((q : Int) + (v : Int)) = (q : Int) + (v : Int) := IntWalk.i64_in _ ⟨by omega, by omega⟩
      have hcut := cut_text s q v (by omega)
      go_wp2_with fail
      go_quiet (fail)
      go_wp2_with fail
      go_quiet (fail)
      go_wp2_with fail
      go_ret3
      rw [HT.out]
      refine ⟨rfl, ?_, ?_⟩
      · repeat apply IsRef.drewN
        refine IsRef.put (k := q) ?_ _ (q + v) ?_
        · repeat (first | exact HR1.out | apply IsRef.drewN)
        · omega
      · repeat (first | exact HO.out | apply Only.drewN | apply Only.set)
end CodeC
end Go.Proofs.YtgjcbcakmcgjhaaDoor
