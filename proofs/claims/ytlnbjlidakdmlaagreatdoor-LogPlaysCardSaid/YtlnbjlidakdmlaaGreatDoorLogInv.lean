/-
  What a disk has of a log that was written record by record, cut or not: the plain mathematics of P5.4 and P5.5.
-/
import Derived.Test.YtlnbjlidakdmlaaGreatDoorLogRef2
import Derived.Test.YtlnbjlidakdmlaaGreatDoorLogFill
import Derived.Test.YtlnbjlidakdmlaaGreatDoorDiskMath3
import Derived.Test.YtlnbjlidakdmlaaGreatDoorFrameMath
namespace Go.Proofs.YtlnbjlidakdmlaaGreatDoor
namespace LogC
open LogM FrameM FrameC DiskM DiskC

/-! ### pieces, one by one -/
def fl (n : ByteArray) (fs : FL) : List UInt8 := (bytesF n fs).data.toList
theorem ext_list (x : ByteArray) (a b : Nat) : (x.extract a b).data.toList = (x.data.toList.drop a).take (b - a) := Lib.extract_data x a b
theorem dl (x : ByteArray) : x.data.toList.length = x.size := Array.length_toList
theorem app_list (a b : ByteArray) : (a ++ b).data.toList = a.data.toList ++ b.data.toList := by rw [ByteArray.data_append, Array.toList_append]
/-- what pieces leave: all of them, or so many bytes of them -/
structure Adds (name : ByteArray) (x : List UInt8) (s : DS) (r : Bool × DS) : Prop where
  sorted : Sorted r.2.fs
  other : ∀ m, m ≠ name → hasF m r.2.fs = hasF m s.fs ∧ bytesF m r.2.fs = bytesF m s.fs
  len : r.2.fs.length ≤ s.fs.length + 1
  has : hasF name s.fs = true → hasF name r.2.fs = true
  res : (r.1 = true ∧ r.2.dead = false ∧ hasF name r.2.fs = true ∧ fl name r.2.fs = fl name s.fs ++ x) ∨ (r.1 = false ∧ r.2.dead = true ∧ ∃ q, q < x.length ∧ fl name r.2.fs = fl name s.fs ++ x.take q)
theorem lay_fl (name y : ByteArray) (fs : FL) : fl name (layF name y fs) = y.data.toList := by unfold fl; rw [(has_lay name y fs).2]
theorem room_le (name : ByteArray) (fs : FL) : room name fs ≤ fs.length + 1 := by unfold room; split <;> omega
theorem adds_gen (cut : Int) (name : ByteArray) : ∀ (fuel : Nat) (x : ByteArray) (s : DS), x.size < fuel → 0 < x.size → Sorted s.fs → s.dead = false → Adds name x.data.toList s (addsS cut name fuel x s)
  | 0, x, s, h, _, _, _ => by omega
  | k + 1, x, s, h, h0, hs, hd => by
    cases hr : rawB cut s.count s.dead with
    | false =>
      rw [addsS_no hr]
      exact ⟨hs, fun m _ => ⟨rfl, rfl⟩, by show s.fs.length ≤ _; omega, fun h => h, .inr ⟨rfl, rfl, 0, by rw [dl]; exact h0, by simp⟩⟩
    | true =>
      have hsl : Sorted (layF name (bytesF name s.fs ++ x.extract 0 (min x.size 32)) s.fs) := hs.lay
      have hoth : ∀ m, m ≠ name → hasF m (layF name (bytesF name s.fs ++ x.extract 0 (min x.size 32)) s.fs) = hasF m s.fs ∧ bytesF m (layF name (bytesF name s.fs ++ x.extract 0 (min x.size 32)) s.fs) = bytesF m s.fs := fun m hm => has_lay_other hm hs
      have hfl : fl name (layF name (bytesF name s.fs ++ x.extract 0 (min x.size 32)) s.fs) = fl name s.fs ++ x.data.toList.take 32 := by
        rw [lay_fl, app_list, ext_list, List.drop_zero, Nat.sub_zero]
        congr 1
        rcases Nat.le_total x.size 32 with h1 | h1
        · rw [Nat.min_eq_left h1, List.take_of_length_le (by rw [dl]; omega), List.take_of_length_le (by rw [dl]; omega)]
        · rw [Nat.min_eq_right h1]
      by_cases hx : x.size ≤ 32
      · rw [addsS_last hr hx]
        refine ⟨hsl, hoth, ?_, fun _ => (has_lay _ _ _).1, .inl ⟨rfl, hd, (has_lay _ _ _).1, ?_⟩⟩
        · show (layF _ _ _).length ≤ _; rw [lay_len]; exact room_le name s.fs
        · show fl name (layF _ _ _) = _
          rw [hfl, List.take_of_length_le (by rw [dl]; exact hx)]
      · rw [addsS_more hr hx]
        have ih := adds_gen cut name k (x.extract 32 x.size) ⟨layF name (bytesF name s.fs ++ x.extract 0 (min x.size 32)) s.fs, s.count + 1, s.dead⟩ (by rw [rest_size]; omega) (by rw [rest_size]; omega) hsl hd
        have e32 : (x.extract 32 x.size).data.toList = x.data.toList.drop 32 := by
          rw [ext_list, List.take_of_length_le (by rw [List.length_drop, dl]; omega)]
        refine ⟨ih.sorted, fun m hm => ?_, ?_, fun _ => ih.has (has_lay _ _ _).1, ?_⟩
        · have h1 := ih.other m hm
          have h2 := hoth m hm
          exact ⟨h1.1.trans h2.1, h1.2.trans h2.2⟩
        · refine Nat.le_trans (m := room name s.fs) ?_ (room_le name s.fs)
          have h1 : (addsS cut name k (x.extract 32 x.size) ⟨layF name (bytesF name s.fs ++ x.extract 0 (min x.size 32)) s.fs, s.count + 1, s.dead⟩).2.fs.length ≤ room name s.fs := by
            have := adds_len cut name k (x.extract 32 x.size) ⟨layF name (bytesF name s.fs ++ x.extract 0 (min x.size 32)) s.fs, s.count + 1, s.dead⟩ (has_lay _ _ _).1
            rw [this]
            show (layF _ _ _).length ≤ _
            rw [lay_len]
            exact Nat.le_refl _
          exact h1
        · rcases ih.res with ⟨h1, h2, h3, h4⟩ | ⟨h1, h2, q, hq, h4⟩
          · refine .inl ⟨h1, h2, h3, ?_⟩
            rw [h4]
            show fl name (layF _ _ _) ++ _ = _
            rw [hfl, e32, List.append_assoc, List.take_append_drop]
          · refine .inr ⟨h1, h2, 32 + q, ?_, ?_⟩
            · rw [e32, List.length_drop] at hq; omega
            · rw [h4]
              show fl name (layF _ _ _) ++ _ = _
              rw [hfl, e32, List.append_assoc, List.take_add]
where
  adds_len (cut : Int) (name : ByteArray) : ∀ (fuel : Nat) (x : ByteArray) (s : DS), hasF name s.fs = true → (addsS cut name fuel x s).2.fs.length = s.fs.length
    | 0, x, s, _ => rfl
    | k + 1, x, s, h => by
      have hl : ∀ y, (layF name y s.fs).length = s.fs.length := fun y => by rw [lay_len]; unfold room; rw [if_pos h]; rfl
      cases hr : rawB cut s.count s.dead with
      | false => rw [addsS_no hr]
      | true =>
        by_cases hx : x.size ≤ 32
        · rw [addsS_last hr hx]; exact hl _
        · rw [addsS_more hr hx, adds_len cut name k _ _ (has_lay _ _ _).1]; exact hl _
/-! ### the records of the files -/
def chunkL (L : List (List UInt8)) (k : Nat) : List (List UInt8) := (L.drop (64 * (k - 1))).take 64
/-- the file that is added to -/
def nowN (L : List (List UInt8)) : Nat := L.length / 64 + 1
/-- the disk has just these records; behind them in the file that is added to a beginning of one more, which is not whole -/
structure InvT (fs : FL) (L : List (List UInt8)) (T : List UInt8) : Prop where
  sorted : Sorted fs
  len : fs.length ≤ 1000
  bound : L.length ≤ 10000
  small : ∀ p ∈ L, p.length ≤ 131072
  file : ∀ k, 1 ≤ k → k < 100000000 → fileL fs k = recsB (chunkL L k) ++ (if k = nowN L then T else [])
  has : ∀ k, 1 ≤ k → k < 100000000 → 64 * (k - 1) < L.length → hasF (nameN k) fs = true
  none : ∀ k, nowN L < k → k < 100000000 → hasF (nameN k) fs = false
  torn : ∃ p c, p.length ≤ 131072 ∧ T = (recB p).take c ∧ c < (recB p).length
theorem InvT.empty : InvT [] [] [] := ⟨Sorted.nil, by decide, by decide, fun p h => (by cases h), fun k _ _ => by
    have : fileL [] k = [] := (no_file rfl).1
    rw [this]
    unfold chunkL
    simp [recsB], fun k _ _ h => by simp at h, fun k _ _ => rfl, ⟨[], 0, by decide, rfl, by rw [recB_length]; omega⟩⟩
theorem used_recs : ∀ M : List (List UInt8), usedB M = (recsB M).length
  | [] => rfl
  | p :: r => by rw [usedB, recsB, List.length_append, recB_length, used_recs r]
theorem chunk_len (L : List (List UInt8)) (k : Nat) : (chunkL L k).length = min 64 (L.length - 64 * (k - 1)) := by unfold chunkL; rw [List.length_take, List.length_drop]
theorem chunk_small {L : List (List UInt8)} (h : ∀ p ∈ L, p.length ≤ 131072) (k : Nat) : ∀ p ∈ chunkL L k, p.length ≤ 131072 := fun p hp => h p (List.mem_of_mem_drop (List.mem_of_mem_take hp))
/-- all records of a file, and a beginning of one that is not whole -/
theorem all_recs (M : List (List UInt8)) (hM : ∀ p ∈ M, p.length ≤ 131072) (p : List UInt8) (hp : p.length ≤ 131072) (c : Nat) (hc : c < (recB p).length) :
    allB (recsB M ++ (recB p).take c) = (M, (recsB M).length, if c = 0 then 0 else 40) := by
  have e1 : recsB (M ++ [p]) = recsB M ++ recB p := by rw [recs_append]; simp [recsB]
  have e2 : (M ++ [p]).take M.length = M := List.take_left
  have h := all_torn M.length (M ++ [p]) ((recsB M).length + c) (fun q hq => by
    rcases List.mem_append.1 hq with h1 | h1
    · exact hM q h1
    · rw [List.mem_singleton.1 h1]; exact hp) (by simp) (by rw [e2]; omega) (fun _ => by
      rw [List.take_of_length_le (by simp), e1, List.length_append]; omega) (by rw [e1, List.length_append]; omega)
  rw [e2, e1, List.take_append, List.take_of_length_le (by omega), Nat.add_sub_cancel_left] at h
  rw [h]
  congr 2
  by_cases h0 : c = 0
  · subst h0; simp
  · rw [if_neg (by omega), if_neg h0]
theorem InvT.part {fs : FL} {L : List (List UInt8)} {T : List UInt8} (h : InvT fs L T) {k : Nat} (h1 : 1 ≤ k) (h2 : k < 100000000) : partL fs k = chunkL L k := by
  have hs := chunk_small h.small k
  have hlen : (chunkL L k).length ≤ 64 := by rw [chunk_len]; omega
  unfold partL hasB
  rw [h.file k h1 h2]
  obtain ⟨p, c, hp, hT, hc⟩ := h.torn
  by_cases hk : k = nowN L
  · rw [if_pos hk, hT, all_recs _ hs p hp c hc]
    exact List.take_of_length_le hlen
  · rw [if_neg hk]
    have := all_recs (chunkL L k) hs p hp 0 (by omega)
    rw [List.take_zero] at this
    rw [this]
    exact List.take_of_length_le hlen
theorem InvT.full {fs : FL} {L : List (List UInt8)} {T : List UInt8} (h : InvT fs L T) {k : Nat} (h1 : 1 ≤ k) (hk : k < nowN L) : FullF fs k := by
  have hb := h.bound
  unfold nowN at hk
  have h2 : k < 100000000 := by omega
  refine ⟨h.has k h1 h2 (by omega), ?_, ?_⟩
  · rw [h.part h1 h2, chunk_len]; omega
  · rw [h.part h1 h2, h.file k h1 h2, if_neg (by unfold nowN; omega), List.append_nil, used_recs]
theorem now_le {fs : FL} {L : List (List UInt8)} {T : List UInt8} (h : InvT fs L T) : 1 ≤ nowN L ∧ nowN L ≤ 160 := by have := h.bound; unfold nowN; omega
theorem InvT.last {fs : FL} {L : List (List UInt8)} {T : List UInt8} (h : InvT fs L T) : lastN fs = nowN L := by
  have hn := now_le h
  refine (last_eq (by have := h.len; omega) ⟨hn.1, fun k h1 h2 => h.full h1 h2⟩ (fun hf => ?_)).symm
  have h1 := hf.2.1
  rw [h.part hn.1 (by omega), chunk_len] at h1
  unfold nowN at h1
  omega
theorem upTo_chunks {fs : FL} {L : List (List UInt8)} {T : List UInt8} (h : InvT fs L T) : ∀ k, k ≤ 1000 → upTo fs k = L.take (64 * k)
  | 0, _ => by simp [upTo]
  | k + 1, hk => by
    rw [upTo, upTo_chunks h k (by omega), h.part (by omega) (by omega)]
    unfold chunkL
    rw [Nat.add_sub_cancel, Nat.mul_add, Nat.mul_one, List.take_add]
theorem InvT.log {fs : FL} {L : List (List UInt8)} {T : List UInt8} (h : InvT fs L T) (c : Nat) (d : Bool) : logS ⟨fs, c, d⟩ = L := by
  unfold logS
  show upTo fs (lastN fs) = L
  have hn := now_le h
  rw [h.last, upTo_chunks h _ (by omega), List.take_of_length_le (by unfold nowN; omega)]
theorem InvT.drop {fs : FL} {L : List (List UInt8)} {T : List UInt8} (h : InvT fs L T) (cut : Int) (c : Nat) (d : Bool) : dropS cut (nowN L) (namesS ⟨fs, c, d⟩) ⟨fs, c, d⟩ = (0, str [], ⟨fs, c, d⟩) := by
  have hpass : ∀ m ∈ namesS ⟨fs, c, d⟩, ¬ nowN L < numT m := fun m hm hlt => by
    obtain ⟨f, hf, e⟩ := name_has hm
    have hz : numB m.data.toList ≠ 0 := by unfold numT at hlt; omega
    obtain ⟨h1, h2⟩ := file_num _ hz
    have hmn : m = nameN (numT m) := by
      have e2 := congrArg str h1
      rw [← str_of] at e2
      exact e2
    have := h.none (numT m) hlt h2
    rw [← hmn, (has_mem h.sorted).2 ⟨f, hf, e⟩] at this
    cases this
  suffices hh : ∀ l : List ByteArray, (∀ m ∈ l, ¬ nowN L < numT m) → dropS cut (nowN L) l ⟨fs, c, d⟩ = (0, str [], ⟨fs, c, d⟩) by exact hh _ hpass
  intro l
  induction l with
  | nil => intro _; rfl
  | cons m r ih => intro hl; rw [drop_cons_pass (hl m (by simp))]; exact ih (fun x hx => hl x (by simp [hx]))
/-- behind a clean end: opened, nothing is written -/
theorem InvT.open_ {fs : FL} {L : List (List UInt8)} (h : InvT fs L []) (cut : Int) (c : Nat) : openS cut ⟨fs, c, false⟩ = (0, str [], ⟨fs, c, false⟩) := by
  have hn := now_le h
  rw [open_go rfl (by show dropS cut (lastN fs) _ _ = _; rw [h.last]; exact h.drop cut c false)]
  show tornS cut (lastN fs) fs _ = _
  rw [h.last, torn_clean]
  rw [h.part hn.1 (by omega), h.file _ hn.1 (by omega), if_pos rfl, List.append_nil, used_recs]
theorem name_ne {a b : Nat} (ha : a < 100000000) (hb : b < 100000000) (h : a ≠ b) : nameN a ≠ nameN b := fun e => h (file_inj ha hb e)
/-- behind a torn end: the power is lost by the one raw write, or the end is clean -/
theorem InvT.openT {fs : FL} {L : List (List UInt8)} {T : List UInt8} (h : InvT fs L T) (hT : T ≠ []) (cut : Int) (c : Nat) :
    (rawB cut c false = false ∧ openS cut ⟨fs, c, false⟩ = (5, nameN (nowN L), ⟨fs, c, true⟩)) ∨
    (rawB cut c false = true ∧ ∃ fs', openS cut ⟨fs, c, false⟩ = (0, str [], ⟨fs', c + 1, false⟩) ∧ InvT fs' L [] ∧ fs'.length = fs.length) := by
  have hn := now_le h
  have hfile := h.file _ hn.1 (by omega)
  rw [if_pos rfl] at hfile
  have hpart := h.part hn.1 (k := nowN L) (by omega)
  have hlen : (fileL fs (nowN L)).length = (recsB (chunkL L (nowN L))).length + T.length := by rw [hfile, List.length_append]
  have hT0 : 0 < T.length := List.length_pos_iff.2 hT
  have hh : hasF (nameN (nowN L)) fs = true := by
    cases hx : hasF (nameN (nowN L)) fs with
    | true => rfl
    | false =>
      have := (no_file hx).1
      rw [this] at hlen
      simp at hlen
      omega
  have hu : usedB (partL fs (nowN L)) = (recsB (chunkL L (nowN L))).length := by rw [hpart, used_recs]
  have ho : openS cut ⟨fs, c, false⟩ = tornS cut (nowN L) fs ⟨fs, c, false⟩ := by
    rw [open_go rfl (by show dropS cut (lastN fs) _ _ = _; rw [h.last]; exact h.drop cut c false)]
    show tornS cut (lastN fs) fs _ = _
    rw [h.last]
  have hne : usedB (partL fs (nowN L)) ≠ (fileL fs (nowN L)).length := by omega
  have htr : ∀ r, truncS cut (nameN (nowN L)) (usedB (partL fs (nowN L)) : Nat) ⟨fs, c, false⟩ = r → r = if rawB cut c false = false then (5, ⟨fs, c, true⟩) else (0, ⟨layF (nameN (nowN L)) ((bytesF (nameN (nowN L)) fs).extract 0 (usedB (partL fs (nowN L)))) fs, c + 1, false⟩) := fun r e => by
    rw [← e]
    unfold truncS
    rw [if_neg (by rw [may_name]; decide), if_neg (show ¬ (false = true) by decide), if_neg (by rw [hh]; decide), if_neg (by
      have e2 : (bytesF (nameN (nowN L)) fs).size = (fileL fs (nowN L)).length := (dl _).symm
      show ¬ (((usedB (partL fs (nowN L)) : Nat) : Int) < 0 ∨ ((bytesF (nameN (nowN L)) fs).size : Int) < ((usedB (partL fs (nowN L)) : Nat) : Int))
      rintro (h1 | h1) <;> omega)]
    rfl
  cases hr : rawB cut c false with
  | false =>
    refine .inl ⟨rfl, ?_⟩
    have := htr _ rfl
    rw [hr, if_pos rfl] at this
    rw [ho, torn_cut hne this]
    rfl
  | true =>
    refine .inr ⟨rfl, layF (nameN (nowN L)) ((bytesF (nameN (nowN L)) fs).extract 0 (usedB (partL fs (nowN L)))) fs, ?_, ?_, ?_⟩
    · have := htr _ rfl
      rw [hr, if_neg (by decide)] at this
      rw [ho, torn_cut hne this]
      rfl
    · have hother : ∀ k, k ≠ nowN L → k < 100000000 → hasF (nameN k) (layF (nameN (nowN L)) ((bytesF (nameN (nowN L)) fs).extract 0 (usedB (partL fs (nowN L)))) fs) = hasF (nameN k) fs ∧ bytesF (nameN k) (layF (nameN (nowN L)) ((bytesF (nameN (nowN L)) fs).extract 0 (usedB (partL fs (nowN L)))) fs) = bytesF (nameN k) fs := fun k h1 h2 => has_lay_other (name_ne h2 (by omega) h1) h.sorted
      refine ⟨h.sorted.lay, ?_, h.bound, h.small, fun k h1 h2 => ?_, fun k h1 h2 h3 => ?_, fun k h1 h2 => ?_, ⟨[], 0, by decide, rfl, by rw [recB_length]; omega⟩⟩
      · rw [lay_len]; unfold room; rw [if_pos hh]; exact h.len
      · by_cases hk : k = nowN L
        · subst hk
          show fl _ _ = _
          rw [lay_fl, ext_list, if_pos rfl, List.append_nil, hu, List.drop_zero, Nat.sub_zero]
          show (fileL fs (nowN L)).take _ = _
          rw [hfile]
          exact List.take_left
        · have e := h.file k h1 h2
          rw [if_neg hk] at e
          rw [if_neg hk]
          unfold fileL at e ⊢
          rw [(hother k hk h2).2]
          exact e
      · by_cases hk : k = nowN L
        · subst hk; exact (has_lay _ _ _).1
        · rw [(hother k hk h2).1]; exact h.has k h1 h2 h3
      · rw [(hother k (by omega) h2).1]; exact h.none k h1 h2
    · rw [lay_len]; unfold room; rw [if_pos hh]; rfl
theorem chunk_snoc (L : List (List UInt8)) (p : List UInt8) (k : Nat) (h1 : 1 ≤ k) : chunkL (L ++ [p]) k = if k = nowN L then chunkL L k ++ [p] else chunkL L k := by
  unfold chunkL nowN
  by_cases hk : k = L.length / 64 + 1
  · rw [if_pos hk]
    subst hk
    rw [Nat.add_sub_cancel, List.drop_append_of_le_length (by omega), List.take_of_length_le (by rw [List.length_append, List.length_drop]; simp; omega), List.take_of_length_le (by rw [List.length_drop]; omega)]
  · rw [if_neg hk]
    rcases Nat.lt_or_ge k (L.length / 64 + 1) with h2 | h2
    · rw [List.drop_append_of_le_length (by omega), List.take_append_of_le_length (by rw [List.length_drop]; omega)]
    · rw [List.drop_of_length_le (by simp; omega), List.drop_of_length_le (by omega)]
/-- one record more, or a beginning of it -/
theorem InvT.append {fs : FL} {L : List (List UInt8)} (h : InvT fs L []) (p : List UInt8) (hp : p.length ≤ 131072) (hl : fs.length < 1000) (hb : L.length < 10000) (cut : Int) (c : Nat) :
    (∃ fs' c', appendL cut p L false ⟨fs, c, false⟩ = (0, str [], L ++ [p], false, ⟨fs', c', false⟩) ∧ InvT fs' (L ++ [p]) [] ∧ fs'.length ≤ fs.length + 1) ∨
    (∃ fs' c' T, appendL cut p L false ⟨fs, c, false⟩ = (5, nameN (nowN L), L, true, ⟨fs', c', true⟩) ∧ InvT fs' L T ∧ fs'.length ≤ fs.length + 1) := by
  have hn := now_le h
  have hfile := h.file _ hn.1 (by omega)
  rw [if_pos rfl, List.append_nil] at hfile
  have hrl := recB_length p
  have hcl : (chunkL L (nowN L)).length ≤ 64 := by rw [chunk_len]; omega
  have hsum : (recsB (chunkL L (nowN L))).length ≤ 8389376 := by
    refine Nat.le_trans (m := 64 * 131084) ?_ (by decide)
    rw [← used_recs]
    have : ∀ M : List (List UInt8), (∀ q ∈ M, q.length ≤ 131072) → usedB M ≤ M.length * 131084 := fun M => by
      induction M with
      | nil => intro _; simp [usedB]
      | cons q r ih =>
        intro hq
        have h1 := hq q (by simp)
        have h2 := ih (fun x hx => hq x (by simp [hx]))
        simp only [usedB, List.length_cons]
        omega
    exact Nat.le_trans (this _ (chunk_small h.small (nowN L))) (Nat.mul_le_mul_right _ hcl)
  have hsz : (bytesF (nameN (nowN L)) fs).size = (recsB (chunkL L (nowN L))).length := by rw [← dl]; show (fileL fs (nowN L)).length = _; rw [hfile]
  have hA := adds_gen cut (nameN (nowN L)) ((str (recB p)).size + 1) (str (recB p)) ⟨fs, c, false⟩ (by omega) (by rw [str_size]; omega) h.sorted rfl
  rw [str_list] at hA
  have happ : appendS cut (nameN (nowN L)) (str (recB p)) ⟨fs, c, false⟩ = (code5 (addsR cut (nameN (nowN L)) (str (recB p)) ⟨fs, c, false⟩).1, (addsR cut (nameN (nowN L)) (str (recB p)) ⟨fs, c, false⟩).2) := by
    unfold appendS
    rw [if_neg (by rw [may_name]; decide), if_neg (show ¬ (false = true) by decide), if_neg (by
      show ¬ (16777216 < (bytesF (nameN (nowN L)) fs).size + (str (recB p)).size ∨ (_ ∧ 65536 ≤ fs.length))
      rw [hsz, str_size]
      rintro (h1 | h1) <;> omega)]
  have hal : appendL cut p L false ⟨fs, c, false⟩ = if (appendS cut (nameN (nowN L)) (str (recB p)) ⟨fs, c, false⟩).1 = 0 then (0, str [], L ++ [p], false, (appendS cut (nameN (nowN L)) (str (recB p)) ⟨fs, c, false⟩).2)
      else ((appendS cut (nameN (nowN L)) (str (recB p)) ⟨fs, c, false⟩).1, nameN (nowN L), L, decide ((appendS cut (nameN (nowN L)) (str (recB p)) ⟨fs, c, false⟩).1 = 5), (appendS cut (nameN (nowN L)) (str (recB p)) ⟨fs, c, false⟩).2) := by
    unfold appendL
    rw [if_neg (by decide), if_neg (by rintro (h1 | h1) <;> omega)]
    rfl
  rw [happ] at hal
  rw [hal]
  change Adds _ _ _ (addsR cut (nameN (nowN L)) (str (recB p)) ⟨fs, c, false⟩) at hA
  generalize addsR cut (nameN (nowN L)) (str (recB p)) ⟨fs, c, false⟩ = r at hA ⊢
  obtain ⟨ok, fs', c', dd⟩ := r
  have hA1 := hA.sorted
  have hA2 : ∀ k, k ≠ nowN L → k < 100000000 → hasF (nameN k) fs' = hasF (nameN k) fs ∧ bytesF (nameN k) fs' = bytesF (nameN k) fs := fun k h1 h2 => hA.other _ (name_ne h2 (by omega) h1)
  have hA3 : fs'.length ≤ fs.length + 1 := hA.len
  have hA4 : hasF (nameN (nowN L)) fs = true → hasF (nameN (nowN L)) fs' = true := hA.has
  have hflo : ∀ k, k ≠ nowN L → k < 100000000 → fileL fs' k = fileL fs k := fun k h1 h2 => by unfold fileL; rw [(hA2 k h1 h2).2]
  have hfln : fl (nameN (nowN L)) fs = recsB (chunkL L (nowN L)) := hfile
  rcases hA.res with ⟨e1, e2, e3, e4⟩ | ⟨e1, e2, q, hq, e4⟩
  · dsimp only at e1 e2 e3 e4
    subst e1
    subst e2
    refine .inl ⟨fs', c', rfl, ⟨hA1, by omega, by simp; omega, fun x hx => ?_, fun k h1 h2 => ?_, fun k h1 h2 h3 => ?_, fun k h1 h2 => ?_, ⟨[], 0, by decide, rfl, by rw [recB_length]; omega⟩⟩, hA3⟩
    · rcases List.mem_append.1 hx with h1 | h1
      · exact h.small x h1
      · rw [List.mem_singleton.1 h1]; exact hp
    · rw [chunk_snoc L p k h1]
      by_cases hk : k = nowN L
      · subst hk
        rw [if_pos rfl, recs_append]
        show fl _ _ = _
        rw [e4, hfln]
        simp [recsB]
      · rw [if_neg hk, hflo k hk h2, h.file k h1 h2, if_neg hk]
        simp
    · by_cases hk : k = nowN L
      · subst hk; exact e3
      · rw [(hA2 k hk h2).1]
        refine h.has k h1 h2 ?_
        unfold nowN at hk
        simp at h3
        omega
    · have hge : nowN L ≤ nowN (L ++ [p]) := by unfold nowN; simp; omega
      rw [(hA2 k (by omega) h2).1]
      exact h.none k (by omega) h2
  · dsimp only at e1 e2 e4
    subst e1
    subst e2
    refine .inr ⟨fs', c', (recB p).take q, rfl, ⟨hA1, by omega, h.bound, h.small, fun k h1 h2 => ?_, fun k h1 h2 h3 => ?_, fun k h1 h2 => ?_, ⟨p, q, hp, rfl, hq⟩⟩, hA3⟩
    · by_cases hk : k = nowN L
      · subst hk
        rw [if_pos rfl]
        show fl _ _ = _
        rw [e4, hfln]
      · rw [if_neg hk, hflo k hk h2, h.file k h1 h2, if_neg hk]
    · by_cases hk : k = nowN L
      · subst hk; exact hA4 (h.has _ h1 h2 h3)
      · rw [(hA2 k hk h2).1]; exact h.has k h1 h2 h3
    · rw [(hA2 k (by omega) h2).1]; exact h.none k h1 h2
end LogC
end Go.Proofs.YtlnbjlidakdmlaaGreatDoor
