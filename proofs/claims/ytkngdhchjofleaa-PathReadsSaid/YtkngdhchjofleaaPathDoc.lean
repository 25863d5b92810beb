/-
  The document's own answers for layer 11 (names of files): one contract a function; nothing that was there is written.
-/
import Derived.Test.YtkngdhchjofleaaPathMath
import Derived.Test.YtkngdhchjofleaaSumAlive
import Derived.Test.YtkngdhchjofleaaNameRef
import Derived.Test.YtkngdhchjofleaaVerRef
import Derived.Laws.CopyOwn
namespace Go.Proofs.Ytkngdhchjofleaa
open Go.RowKit
namespace PathC
open PathM StrC
open VerM (B val dig)
set_option linter.unusedSimpArgs false
set_option linter.unusedVariables false

/-! ### pieces of a text -/
theorem str_extract (l : B) (a b : Nat) : (str l).extract a b = str ((l.take b).drop a) := by
  apply ByteArray.ext
  simp [str, List.extract_eq_take_drop, List.drop_take]
theorem sl_from (l : B) (x : Int) (a : Nat) (hx : x = a) (h1 : a ≤ l.length) (w : World) :
    (Instr.slice 9 (.string (str l)) (some (.int .i64 x)) none none).run Try.prog w = .ok (.string (str (l.drop a))) w := by
  subst hx
  rw [run_slice_string_l w 9 (str l) Try.underlying9 .i64 _ (by omega) (by rw [str_size]; omega), Int.toNat_natCast, str_extract, str_size, List.take_of_length_le (Nat.le_refl _)]
theorem sl_to (l : B) (x : Int) (a : Nat) (hx : x = a) (h1 : a ≤ l.length) (w : World) :
    (Instr.slice 9 (.string (str l)) none (some (.int .i64 x)) none).run Try.prog w = .ok (.string (str (l.take a))) w := by
  subst hx
  rw [run_slice_string_h w 9 (str l) Try.underlying9 .i64 _ (by omega) (by rw [str_size]; omega), Int.toNat_natCast, str_extract]; rfl

/-! ### digits -/
theorem all_dig_take {l : B} {k : Nat} (h : k < l.length) : (l.take (k + 1)).all dig = ((l.take k).all dig && dig (l.getD k 0)) := VerC.all_succ dig l k h
theorem dig_iff (c : UInt8) : dig c = (decide (48 ≤ c.toNat) && decide (c.toNat ≤ 57)) := rfl
theorem fold_ge : ∀ (l : B) (a : Nat), a ≤ l.foldl (fun n c => 10 * n + (c.toNat - 48)) a
  | [], _ => Nat.le_refl _
  | c :: r, a => by
    have := fold_ge r (10 * a + (c.toNat - 48))
    show a ≤ r.foldl _ (10 * a + (c.toNat - 48))
    omega
theorem val_take_le (l : B) (k : Nat) : val (l.take k) ≤ val l := by
  have e : val l = (l.drop k).foldl (fun n c => 10 * n + (c.toNat - 48)) (val (l.take k)) := by
    unfold VerM.val
    rw [← List.foldl_append, List.take_append_drop]
  rw [e]
  exact fold_ge _ _

set_option maxHeartbeats 1000000 in
theorem rnumber11_any (l : B) (w : World) (hl : l.length ≤ 9223372036854775807) :
    Calls Try.prog 15 #[.string (str l)] w fun e w' => e = .returned (.int .i64 (numD l)) ∧ w = w' := by
  have hs := str_size l
  by_cases h0 : l = []
  · have H := Lib.hid (show numD l = -1 by unfold numD; rw [if_pos (.inl h0)])
    have he : (str l).toList.isEmpty = true := by rw [VerC.str_empty, decide_eq_true h0]
    clear h0
    go_enter Try.func15, Try.ntmps15
    go_wp2_with fail
    go_ret
    exact ⟨by rw [H.out]; rfl, rfl⟩
  have he : (str l).toList.isEmpty = false := by rw [VerC.str_empty, decide_eq_false h0]
  rcases Nat.lt_or_ge 10 l.length with h10 | h10
  · have H := Lib.hid (show numD l = -1 by unfold numD; rw [if_pos (.inr (.inl h10))])
    have hd : decide (10 < (l.length : Int)) = true := decide_eq_true (by omega)
    clear h0 h10
    go_enter Try.func15, Try.ntmps15
    go_wp2_with fail
    go_ret
    exact ⟨by rw [H.out]; rfl, rfl⟩
  have hd : decide (10 < (l.length : Int)) = false := decide_eq_false (by omega)
  have HX := Lib.hid (fun a (h : a < l.length) => idx_any l a a rfl h)
  have HV := Lib.hid (fun k (h : k ≤ l.length) (h2 : (l.take k).all dig = true) => Nat.lt_of_lt_of_le (VerC.val_lt (l.take k) h2) (Nat.pow_le_pow_right (by decide) (show (l.take k).length ≤ 10 by rw [List.length_take]; omega)))
  have HS := Lib.hid (fun k (h : k < l.length) => VerC.val_take l k h)
  have HD := Lib.hid (fun k (h : k < l.length) => all_dig_take (l := l) h)
  have HN := Lib.hid (fun k (h : (l.take k).all dig = false) => (show numD l = -1 by unfold numD; rw [if_pos (.inr (.inr (VerC.all_not dig l k h)))]))
  have HE := Lib.hid (fun (h : (l.take l.length).all dig = true) => (show numD l = (val l : Int) by
    rw [List.take_length] at h
    unfold numD; rw [if_neg]
    rintro (x | x | x)
    · exact h0 x
    · omega
    · rw [h] at x; cases x))
  clear h0
  have HL := Lib.hid h10
  clear h10
  go_enter Try.func15, Try.ntmps15
  go_wp2_with fail
  clear he hd
  go_loop [3, 4] (fun n i => ∃ k : Nat, k ≤ l.length ∧ i = .int .i64 k ∧ n = .int .i64 ((val (l.take k) : Nat) : Int) ∧ Hid ((l.take k).all dig = true)) (fun _ i => l.length - (intOf i).toNat)
  case atStart => exact ⟨0, Nat.zero_le _, rfl, rfl, Lib.hid rfl⟩
  case round =>
    obtain ⟨k, hk, rfl, rfl, HA⟩ := hrel
    have hv := HV.out k hk HA.out
    by_cases hlt : k < l.length
    · have hdec : decide (k < l.length) = true := by simpa using hlt
      have hx := HX.out k hlt
      have hn := Lib.hid (HS.out k hlt)
      have ha := Lib.hid (HD.out k hlt)
      have hno := Lib.hid (HN.out (k + 1))
      have hll := HL.out
      generalize l.getD k 0 = c at *
      generalize val (l.take k) = v at *
      have hc := c.toNat_lt
      by_cases h1 : c.toNat < 48
      · have H := Lib.hid (hno.out (by rw [ha.out, dig_iff]; simp; omega))
        have d1 : decide ((c.toNat : Int) < 48) = true := decide_eq_true (by omega)
        have d1' : decide (c.toNat < 48) = true := decide_eq_true h1
        clear hno
        go_wp2_with fail
        go_ret
        exact ⟨by rw [H.out]; rfl, rfl⟩
      have d1 : decide ((c.toNat : Int) < 48) = false := decide_eq_false (by omega)
      have d1' : decide (c.toNat < 48) = false := decide_eq_false h1
      by_cases h2 : 57 < c.toNat
      · have H := Lib.hid (hno.out (by rw [ha.out, dig_iff]; simp; omega))
        have d2 : decide (57 < (c.toNat : Int)) = true := decide_eq_true (by omega)
        have d2' : decide (57 < c.toNat) = true := decide_eq_true h2
        clear hno h1
        go_wp2_with fail
        go_ret
        exact ⟨by rw [H.out]; rfl, rfl⟩
      have d2 : decide (57 < (c.toNat : Int)) = false := decide_eq_false (by omega)
      have d2' : decide (57 < c.toNat) = false := decide_eq_false h2
      have H := Lib.hid (show (l.take (k + 1)).all dig = true by rw [ha.out, HA.out, dig_iff]; simp; omega)
      have e1 : IntKind.u8.wrap ((c.toNat : Int) - 48) = ((c.toNat - 48 : Nat) : Int) := by rw [IntWalk.u8_in _ ⟨by omega, by omega⟩]; omega
      clear hno ha
      go_wp2_with fail
      exact ⟨⟨k + 1, by omega, by go_num, by rw [hn.out]; go_num, H⟩, by simp [intOf]; omega⟩
    · have hdec : decide (k < l.length) = false := by simpa using hlt
      have hke : k = l.length := by omega
      subst hke
      have H := Lib.hid (HE.out HA.out)
      clear hlt
      go_wp2_with fail
      go_ret
      exact ⟨by rw [H.out]; rfl, rfl⟩

set_option maxHeartbeats 1000000 in
theorem rstarts_any (l h : B) (w : World) (hl : l.length ≤ 9223372036854775807) (hh : h.length ≤ 100) :
    Calls Try.prog 14 #[.string (str l), .string (str h)] w fun e w' => e = .returned (.tuple #[.string (str (if l.take h.length = h then l.drop h.length else [])), .bool (decide (l.take h.length = h))]) ∧ w = w' := by
  have hs := str_size l
  have hs2 := str_size h
  rcases Nat.lt_or_ge l.length h.length with hlt | hge
  · have hne : ¬ l.take h.length = h := by intro e; have := congrArg List.length e; rw [List.length_take] at this; omega
    have hd : decide ((l.length : Int) < (h.length : Int)) = true := decide_eq_true (by omega)
    have hd' : decide (l.length < h.length) = true := decide_eq_true hlt
    rw [if_neg hne, decide_eq_false hne]
    clear hne hlt
    go_enter Try.func14, Try.ntmps14
    go_wp2_with fail
    go_ret2
    exact ⟨rfl, rfl⟩
  have hd : decide ((l.length : Int) < (h.length : Int)) = false := decide_eq_false (by omega)
  have hd' : decide (l.length < h.length) = false := decide_eq_false (by omega)
  have hsl := fun w => sl_to l (h.length : Int) h.length rfl hge w
  have hsf := fun w => sl_from l (h.length : Int) h.length rfl hge w
  by_cases he : l.take h.length = h
  · rw [if_pos he, decide_eq_true he]
    rw [he] at hsl
    have hb : ((str h).toList != (str h).toList) = false := by simp
    have HG := Lib.hid hge
    clear he hge
    generalize l.drop h.length = d at *
    go_enter Try.func14, Try.ntmps14
    go_wp2_with fail
    go_ret2
    exact ⟨rfl, rfl⟩
  · rw [if_neg he, decide_eq_false he]
    have hb0 : ((str (l.take h.length)).toList == (str h).toList) = false := by rw [str_beq]; simpa using he
    have hb : ((str (l.take h.length)).toList != (str h).toList) = true := by rw [bne, hb0]; rfl
    have HG := Lib.hid hge
    clear he hge hsf
    generalize l.take h.length = t at *
    go_enter Try.func14, Try.ntmps14
    go_wp2_with fail
    go_ret2
    exact ⟨rfl, rfl⟩

/-! ### names of files -/
theorem add_lit (p : ByteArray) (h T : B) (hp : p = str h) (h100 : h.length ≤ 100) (hT : T.length ≤ 4611686018427387000) (w : World) : (Op.stringOp .add p (str T)).run Try.prog w = .ok (.string (str (h ++ T))) w := by
  subst hp; exact add_any h T w (by omega)
theorem add_lit' (p : ByteArray) (h T : B) (hp : p = str h) (h100 : h.length ≤ 100) (hT : T.length ≤ 4611686018427387000) (w : World) : (Op.stringOp .add (str T) p).run Try.prog w = .ok (.string (str (T ++ h))) w := by
  subst hp; exact add_any T h w (by omega)
theorem rep_dig (n k : Nat) (h : n < 10 ^ (k + 1)) : ∀ j, LogM.dig n (k + 1 + j) = List.replicate j 48 ++ LogM.dig n (k + 1)
  | 0 => by simp
  | j + 1 => by
    have e : n / 10 ^ (k + 1 + j) = 0 := Nat.div_eq_of_lt (Nat.lt_of_lt_of_le h (Nat.pow_le_pow_right (by decide) (by omega)))
    rw [show k + 1 + (j + 1) = (k + 1 + j) + 1 by omega, LogM.dig, e, rep_dig n k h j, List.replicate_succ]
    rfl
/-- a number's digits behind as many noughts as are wanting to eight -/
theorem dec_pad (n : Nat) (h1 : 1 ≤ n) (h2 : n ≤ 99999999) : (Lib.decDigits n).length ≤ 8 ∧ ∀ j, j + (Lib.decDigits n).length = 8 → List.replicate j (48 : UInt8) ++ Lib.decDigits n = LogM.dig n 8 := by
  obtain ⟨k, a, b⟩ := pow_at n h1
  have e := LogM.dec_dig k n a b
  have hl : (Lib.decDigits n).length = k + 1 := by rw [e, LogM.dig_length]
  refine ⟨dec_length n 7 (by simp; omega), fun j hj => ?_⟩
  rw [hl] at hj
  rw [e, ← rep_dig n k b j]
  congr 1; omega
theorem rep_cons (j : Nat) (D : B) : (48 : UInt8) :: (List.replicate j 48 ++ D) = List.replicate (j + 1) 48 ++ D := by rw [List.replicate_succ]; rfl

set_option maxHeartbeats 1000000 in
theorem rLog_any (n : Int) (w : World) (h0 : -9223372036854775808 ≤ n) (hn : n ≤ 9223372036854775807) :
    Calls Try.prog 16 #[.int .i64 n] w fun e w' => e = .returned (.string (str (logN n))) ∧ w = w' := by
  by_cases hlo : n < 1
  · have H := Lib.hid (show logN n = [] by unfold logN; rw [if_pos (.inl hlo)])
    have d1 : decide (n < 1) = true := decide_eq_true hlo
    clear hlo
    go_enter Try.func16, Try.ntmps16
    go_wp2_with fail
    go_ret
    exact ⟨by rw [H.out]; rfl, rfl⟩
  have d1 : decide (n < 1) = false := decide_eq_false hlo
  by_cases hhi : 99999999 < n
  · have H := Lib.hid (show logN n = [] by unfold logN; rw [if_pos (.inr hhi)])
    have d2 : decide (99999999 < n) = true := decide_eq_true hhi
    clear hlo hhi
    go_enter Try.func16, Try.ntmps16
    go_wp2_with fail
    go_ret
    exact ⟨by rw [H.out]; rfl, rfl⟩
  have d2 : decide (99999999 < n) = false := decide_eq_false hhi
  obtain ⟨m, rfl⟩ : ∃ m : Nat, n = m := ⟨n.toNat, by omega⟩
  have H := Lib.hid (show logN (m : Int) = logH ++ 47 :: LogM.dig m 8 by unfold logN; rw [if_neg (by omega)]; rfl)
  obtain ⟨p1, p2⟩ := dec_pad m (by omega) (by omega)
  have HP := Lib.hid p2
  have HN := Lib.hid (fun w => VerC.rNumber_any m w (by omega))
  have hconv : IntKind.u64.wrap (m : Int) = (m : Int) := by rw [IntKind.wrap_u64]; omega
  clear p2 h0 hn
  generalize Lib.decDigits m = D at *
  have HL := Lib.hid p1
  clear hlo hhi
  go_enter Try.func16, Try.ntmps16
  go_wp2_with (go_at_call 27; refine (HN.out _).mono ?_; rintro e w' ⟨rfl, rfl⟩)
  clear hconv d1 d2
  go_loop [3] (fun s => ∃ j : Nat, j + D.length ≤ 8 ∧ s = .string (str (List.replicate j 48 ++ D))) (fun s => match s with | .string b => 8 - b.size | _ => 0)
  case atStart => exact ⟨0, by have := HL.out; omega, rfl⟩
  case round =>
    obtain ⟨j, hj, rfl⟩ := hrel
    obtain ⟨T, hT⟩ : ∃ T, T = List.replicate j (48 : UInt8) ++ D := ⟨_, rfl⟩
    have hlen : T.length = j + D.length := by rw [hT]; simp
    have HT := Lib.hid hT
    rw [← hT]
    clear hT
    have hsz := str_size T
    have HJ := Lib.hid hj
    by_cases hlt : T.length < 8
    · have hdec : decide (T.length < 8) = true := decide_eq_true hlt
      have hdec' : decide ((T.length : Int) < 8) = true := decide_eq_true (by omega)
      have ha : ∀ w, (Op.stringOp .add ⟨#[48]⟩ (str T)).run Try.prog w = .ok (.string (str (48 :: T))) w := fun w => add_any [48] T w (by simp; omega)
      have HS := Lib.hid hlen
      have HLT := Lib.hid hlt
      clear hlt hlen hj
      go_wp2_with fail
      refine ⟨⟨j + 1, by have := HS.out; have := HLT.out; omega, ?_⟩, ?_⟩
      · rw [HT.out]; exact congrArg (fun l => Value.string (str l)) (rep_cons j D)
      · show 8 - (str (48 :: T)).size < 8 - (str T).size
        have := HLT.out
        rw [str_size, str_size, List.length_cons]; omega
    · have hdec : decide (T.length < 8) = false := decide_eq_false hlt
      have hdec' : decide ((T.length : Int) < 8) = false := decide_eq_false (by omega)
      have ha := fun w => add_lit ⟨#[108, 111, 103, 47]⟩ (logH ++ [47]) T rfl (by decide) (by omega) w
      have HS := Lib.hid (HP.out j (by omega))
      clear hlt hlen hj
      go_wp2_with fail
      go_ret
      exact ⟨by rw [H.out, ← HS.out, ← HT.out]; simp, rfl⟩

set_option maxHeartbeats 1000000 in
theorem rStage_any (n : Int) (w : World) (h0 : -9223372036854775808 ≤ n) (hn : n ≤ 9223372036854775807) :
    Calls Try.prog 17 #[.int .i64 n] w fun e w' => e = .returned (.string (str (stageN n))) ∧ w = w' := by
  by_cases hlo : n < 1
  · have H := Lib.hid (show stageN n = [] by unfold stageN; rw [if_pos (.inl hlo)])
    have d1 : decide (n < 1) = true := decide_eq_true hlo
    clear hlo
    go_enter Try.func17, Try.ntmps17
    go_wp2_with fail
    go_ret
    exact ⟨by rw [H.out]; rfl, rfl⟩
  have d1 : decide (n < 1) = false := decide_eq_false hlo
  by_cases hhi : 2147483647 < n
  · have H := Lib.hid (show stageN n = [] by unfold stageN; rw [if_pos (.inr hhi)])
    have d2 : decide (2147483647 < n) = true := decide_eq_true hhi
    clear hlo hhi
    go_enter Try.func17, Try.ntmps17
    go_wp2_with fail
    go_ret
    exact ⟨by rw [H.out]; rfl, rfl⟩
  have d2 : decide (2147483647 < n) = false := decide_eq_false hhi
  obtain ⟨m, rfl⟩ : ∃ m : Nat, n = m := ⟨n.toNat, by omega⟩
  have H := Lib.hid (show stageN (m : Int) = stageH ++ 47 :: Lib.decDigits m by unfold stageN; rw [if_neg (by omega)]; rfl)
  have hdl := dec_length m 9 (by simp; omega)
  have HN := Lib.hid (fun w => VerC.rNumber_any m w (by omega))
  have hconv : IntKind.u64.wrap (m : Int) = (m : Int) := by rw [IntKind.wrap_u64]; omega
  clear h0 hn
  generalize Lib.decDigits m = D at *
  have ha := fun w => add_lit ⟨#[115, 116, 97, 103, 101, 47]⟩ (stageH ++ [47]) D rfl (by decide) (by omega) w
  have HL := Lib.hid hdl
  clear hlo hhi hdl
  go_enter Try.func17, Try.ntmps17
  go_wp2_with (go_at_call 27; refine (HN.out _).mono ?_; rintro e w' ⟨rfl, rfl⟩)
  go_ret
  exact ⟨by rw [H.out]; rfl, rfl⟩

set_option maxHeartbeats 1000000 in
theorem rBlob_any (s n : Nat) (w : World) (hs : s < 18446744073709551616) (hn : n ≤ 4294967295) :
    Calls Try.prog 20 #[.int .u64 s, .int .u32 n] w fun e w' => e = .returned (.string (str (blobN s n))) ∧ w = w' := by
  by_cases hlo : n < 1
  · have H := Lib.hid (show blobN s n = [] by unfold blobN; rw [if_pos hlo])
    have d1 : decide (n < 1) = true := decide_eq_true hlo
    have d1' : decide ((n : Int) < 1) = true := decide_eq_true (by omega)
    have d1'' : decide (n = 0) = true := decide_eq_true (by omega)
    clear hlo
    go_enter Try.func20, Try.ntmps20
    go_wp2_with fail
    go_ret
    exact ⟨by rw [H.out]; rfl, rfl⟩
  have d1 : decide (n < 1) = false := decide_eq_false hlo
  have d1' : decide ((n : Int) < 1) = false := decide_eq_false (by omega)
  have d1'' : decide (n = 0) = false := decide_eq_false (by omega)
  have H := Lib.hid (show blobN s n = blobH ++ 47 :: (SumM.digits s 16 ++ 45 :: Lib.decDigits n) by unfold blobN; rw [if_neg hlo])
  have hdl := dec_length n 9 (by simp; omega)
  have hsl := SumM.digits_length s 16
  have HN := Lib.hid (fun w => VerC.rNumber_any n w (by omega))
  have HS : Hid (∀ w, Calls Try.prog 30 #[.int .u64 s] w fun e w' => e = .returned (.string (str (SumM.digits s 16))) ∧ w = w') := Lib.hid (fun w => SumC.rtext_any s w hs)
  generalize Lib.decDigits n = D at *
  generalize SumM.digits s 16 = T at *
  have ha := fun w => add_lit ⟨#[98, 108, 111, 98, 47]⟩ (blobH ++ [47]) T rfl (by decide) (by omega) w
  have hb := fun w => add_lit' ⟨#[45]⟩ [45] (blobH ++ [47] ++ T) rfl (by decide) (by simp [blobH]; omega) w
  have hc := fun w => add_any (blobH ++ [47] ++ T ++ [45]) D w (by simp [blobH]; omega)
  have hconv : IntKind.u64.wrap (n : Int) = (n : Int) := by rw [IntKind.wrap_u64]; omega
  obtain ⟨U, hU⟩ : ∃ U, U = blobH ++ [47] ++ T := ⟨_, rfl⟩
  rw [← hU] at ha hb hc
  obtain ⟨V, hV⟩ : ∃ V, V = U ++ [45] := ⟨_, rfl⟩
  rw [← hV] at hb hc
  obtain ⟨X, hX⟩ : ∃ X, X = V ++ D := ⟨_, rfl⟩
  rw [← hX] at hc
  have HR := Lib.hid (show blobH ++ 47 :: (T ++ 45 :: D) = X by rw [hX, hV, hU]; simp)
  clear hU hV hX hdl hsl hlo hs hn
  go_enter Try.func20, Try.ntmps20
  go_wp2_with (first
    | (go_at_call 27; refine (HN.out _).mono ?_; rintro e w' ⟨rfl, rfl⟩)
    | (go_at_call 30; refine (HS.out _).mono ?_; rintro e w' ⟨rfl, rfl⟩))
  go_ret
  exact ⟨by rw [H.out, HR.out]; rfl, rfl⟩

/-! ### Read -/
abbrev rpthV (k n s p : Int) (nm : B) : Value := .agg #[.int .i64 k, .int .i64 n, .int .u64 s, .int .u32 p, .string (str nm)]
abbrev rpthO (k n s p : Int) (nm : B) : Obj := .cells #[.int .i64 k, .int .i64 n, .int .u64 s, .int .u32 p, .string (str nm)] 34
theorem info_rpth : (Try.prog.info? 34).map (·.size) = some 5 := by kernel_rfl
theorem rpth_one (k n s p : Int) (nm : B) : (#[Value.int .i64 k, .int .i64 n, .int .u64 s, .int .u32 p, .string (str nm)].all (·.oneCell')) = true := by simp [Value.oneCell']
/-- what was read, or nothing -/
def pt (o : Option Pth) : Pth := o.getD none0
def er (o : Option Pth) : Int := if o.isSome then 0 else 110
theorem pt_some (p : Pth) : pt (some p) = p := rfl
theorem pt_none : pt none = none0 := rfl
theorem er_some (p : Pth) : er (some p) = 0 := rfl
theorem er_none : er none = 110 := rfl
def rpV (o : Option Pth) : Value := .tuple #[rpthV (pt o).kind (pt o).n (pt o).sum (pt o).part (pt o).name, .int .i64 (er o)]
theorem rpV_is {o : Option Pth} {x : Option Pth} (h : o = x) : rpV o = rpV x := by rw [h]
/-- begins with that, and a slash -/
theorem begins (h l : B) (hh : ∀ c ∈ h, c ≠ (47 : UInt8)) : (l.take (h ++ [47]).length = h ++ [47]) = (ahd 47 l = h ∧ l = h ++ 47 :: bhd 47 l) := by
  rw [List.length_append]; exact propext (starts_iff h l hh)
theorem begins_drop {h l : B} (e : ahd 47 l = h ∧ l = h ++ 47 :: bhd 47 l) : l.drop (h ++ [47]).length = bhd 47 l := by
  rw [List.length_append]; exact starts_drop e.2
/-- what reading says where a text begins so, and where it begins with none of them -/
theorem read_log {is : B → Bool} {l : B} (h : ahd 47 l = logH) : readP is l = logR (bhd 47 l) := by unfold readP; rw [if_pos h]
theorem read_stage {is : B → Bool} {l : B} (h : ahd 47 l = stageH) : readP is l = stageR (bhd 47 l) := by unfold readP; rw [if_neg (by rw [h]; decide), if_neg (by rw [h]; decide), if_neg (by rw [h]; decide), if_pos h]
theorem read_page {is : B → Bool} {l : B} (h : ahd 47 l = pageH) : readP is l = pageR is (bhd 47 l) := by unfold readP; rw [if_neg (by rw [h]; decide), if_neg (by rw [h]; decide), if_pos h]
theorem read_blob {is : B → Bool} {l : B} (h : ahd 47 l = blobH) : readP is l = blobR (bhd 47 l) := by unfold readP; rw [if_neg (by rw [h]; decide), if_pos h]
/-- where there is no slash nothing is behind it -/
theorem no_slash {h l : B} (h1 : ahd 47 l = h) (h2 : ¬ l = h ++ 47 :: bhd 47 l) : bhd 47 l = [] := by
  rcases VerM.firstAt 47 l with e | ⟨x, r, e, hx⟩
  · exact (ahd_none e).2
  · subst e
    rw [(ahd_hit r hx).1] at h1
    rw [(ahd_hit r hx).2, h1] at h2
    exact absurd rfl h2
theorem none_nil (is : B → Bool) (hi : is [] = false) : logR [] = none ∧ stageR [] = none ∧ pageR is [] = none ∧ blobR [] = none := by
  refine ⟨by unfold logR; rw [if_neg]; simp, ?_, by unfold pageR; rw [hi]; rfl, ?_⟩
  · unfold stageR plain; rw [if_neg]; simp [VerM.val]
  · unfold blobR
    rw [(ahd_none (d := 45) (l := []) (by simp)).1]
    rfl
theorem isN_nil : NameM.isN [] = false := by decide +kernel
/-- which of the four, if any -/
theorem which (is : B → Bool) (hi : is [] = false) (l : B) : (ahd 47 l = logH ∧ l = logH ++ 47 :: bhd 47 l) ∨ (ahd 47 l = stageH ∧ l = stageH ++ 47 :: bhd 47 l) ∨ (ahd 47 l = pageH ∧ l = pageH ++ 47 :: bhd 47 l) ∨ (ahd 47 l = blobH ∧ l = blobH ++ 47 :: bhd 47 l) ∨
    (¬ (ahd 47 l = logH ∧ l = logH ++ 47 :: bhd 47 l) ∧ ¬ (ahd 47 l = stageH ∧ l = stageH ++ 47 :: bhd 47 l) ∧ ¬ (ahd 47 l = pageH ∧ l = pageH ++ 47 :: bhd 47 l) ∧ ¬ (ahd 47 l = blobH ∧ l = blobH ++ 47 :: bhd 47 l) ∧ readP is l = none) := by
  by_cases h1 : ahd 47 l = logH ∧ l = logH ++ 47 :: bhd 47 l
  · exact .inl h1
  by_cases h2 : ahd 47 l = stageH ∧ l = stageH ++ 47 :: bhd 47 l
  · exact .inr (.inl h2)
  by_cases h3 : ahd 47 l = pageH ∧ l = pageH ++ 47 :: bhd 47 l
  · exact .inr (.inr (.inl h3))
  by_cases h4 : ahd 47 l = blobH ∧ l = blobH ++ 47 :: bhd 47 l
  · exact .inr (.inr (.inr (.inl h4)))
  refine .inr (.inr (.inr (.inr ⟨h1, h2, h3, h4, ?_⟩)))
  obtain ⟨n1, n2, n3, n4⟩ := none_nil is hi
  by_cases e1 : ahd 47 l = logH
  · rw [read_log e1, no_slash e1 (fun e => h1 ⟨e1, e⟩), n1]
  by_cases e2 : ahd 47 l = stageH
  · rw [read_stage e2, no_slash e2 (fun e => h2 ⟨e2, e⟩), n2]
  by_cases e3 : ahd 47 l = pageH
  · rw [read_page e3, no_slash e3 (fun e => h3 ⟨e3, e⟩), n3]
  by_cases e4 : ahd 47 l = blobH
  · rw [read_blob e4, no_slash e4 (fun e => h4 ⟨e4, e⟩), n4]
  unfold readP
  rw [if_neg e1, if_neg e4, if_neg e3, if_neg e2]

/-! ### the document's Read: one way after the other -/
theorem starts_yes (h l : B) (p : ByteArray) (hp : p = str (h ++ [47])) (hh : ∀ c ∈ h, c ≠ (47 : UInt8)) (h100 : h.length ≤ 50) (hl : l.length ≤ 9223372036854775807) (e : ahd 47 l = h ∧ l = h ++ 47 :: bhd 47 l) (w : World) :
    Calls Try.prog 14 #[.string (str l), .string p] w fun e w' => e = .returned (.tuple #[.string (str (bhd 47 l)), .bool true]) ∧ w = w' := by
  subst hp
  have H := rstarts_any l (h ++ [47]) w hl (by simp; omega)
  have e2 : l.take (h ++ [47]).length = h ++ [47] := by rw [begins h l hh]; exact e
  rw [if_pos e2, begins_drop e, decide_eq_true e2] at H
  exact H
theorem starts_no (h l : B) (p : ByteArray) (hp : p = str (h ++ [47])) (hh : ∀ c ∈ h, c ≠ (47 : UInt8)) (h100 : h.length ≤ 50) (hl : l.length ≤ 9223372036854775807) (e : ¬ (ahd 47 l = h ∧ l = h ++ 47 :: bhd 47 l)) (w : World) :
    Calls Try.prog 14 #[.string (str l), .string p] w fun e w' => e = .returned (.tuple #[.string (str []), .bool false]) ∧ w = w' := by
  subst hp
  have H := rstarts_any l (h ++ [47]) w hl (by simp; omega)
  have e2 : ¬ l.take (h ++ [47]).length = h ++ [47] := by rw [begins h l hh]; exact e
  rw [if_neg e2, decide_eq_false e2] at H
  exact H
theorem other {a b l : B} (h : ahd 47 l = a) (n : a ≠ b) : ¬ (ahd 47 l = b ∧ l = b ++ 47 :: bhd 47 l) := fun x => n (h.symm.trans x.1)
theorem number_nil (w : World) : Calls Try.prog 15 #[.string (str [])] w fun e w' => e = .returned (.int .i64 (-1)) ∧ w = w' := rnumber11_any [] w (by simp)
theorem res_ct {P : Program} {fn : Func} {p q : Tmp} {ty : TypeId} (h : fn.results = #[.cell p ty, .tmp q]) (tmps : Array Value) (w : World) (g : Nat) (t : TypeId) (cs : Array Value) (fr : Nat × Nat) (d : TypeDesc)
    (hp : tmps.getD p undef = .pointer (some ⟨g, 0, none⟩)) (hg : w.heap[g]? = some (.cells cs t fr))
    (hu : P.underlying ty = some d) (hd : (match d with | .struct _ | .array _ _ => true | _ => false) = true) (hi : (P.info? ty).map (·.size) = some cs.size) :
    (results fn tmps).run P w = .ok (.tuple #[.agg cs, tmps.getD q undef]) w := by
  have hp' : tmps[p]?.getD undef = .pointer (some ⟨g, 0, none⟩) := by simpa using hp
  simp [results, h, hp', asAddr, run_loadVar_row w g t ty cs fr d hg hu hd hi]
theorem setCell_rowp {w : World} {g : Nat} {cs : Array Value} {t : TypeId} {fr : Nat × Nat} (h : w.heap[g]? = some (.cells cs t fr)) (i : Nat) (v : Value) : (w.setCell ⟨g, i, none⟩ v).heap[g]? = some (.cells (cs.setIfInBounds i v) t fr) := by
  unfold World.setCell
  simp [Array.getElem?_modify, h]
theorem rpth_cells {w : World} {g : Nat} {k n s p : Int} {nm : B} (h : w.heap[g]? = some (rpthO k n s p nm)) :
    w.cell? ⟨g, 0, none⟩ = some (.int .i64 k) ∧ w.cell? ⟨g, 1, none⟩ = some (.int .i64 n) ∧ w.cell? ⟨g, 2, none⟩ = some (.int .u64 s) ∧ w.cell? ⟨g, 3, none⟩ = some (.int .u32 p) ∧ w.cell? ⟨g, 4, none⟩ = some (.string (str nm)) := by
  refine ⟨?_, ?_, ?_, ?_, ?_⟩ <;> simp [World.cell?, h]
theorem cells_frozen {w : World} {g : Nat} {cs : Array Value} {t : TypeId} (h : w.heap[g]? = some (.cells cs t)) (i : Nat) : w.frozen? ⟨g, i, none⟩ = false := by simp [World.frozen?, h]
theorem rzero (w : World) : (w.alloc (rpthO 0 0 0 0 [])).heap[w.heap.size]? = some (rpthO 0 0 0 0 []) := heap_alloc_new w _
theorem numD_bound (l : B) : -1 ≤ numD l ∧ numD l ≤ 9223372036854775807 := by
  unfold numD
  split
  · omega
  · rename_i h
    have h2 : l.all dig = true := by cases e : l.all dig <;> simp_all
    have := Nat.lt_of_lt_of_le (VerC.val_lt l h2) (Nat.pow_le_pow_right (by decide) (show l.length ≤ 10 by omega))
    omega
end PathC
end Go.Proofs.Ytkngdhchjofleaa
