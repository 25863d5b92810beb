/-
  The document's own disk of layer 3: more of its calls (wip/gen/diskcalls2.py writes this text).
-/
import Derived.Test.YtlnbjlidakdmlaaGreatDoorDiskRef
namespace Go.Proofs.YtlnbjlidakdmlaaGreatDoor
open Go.RowKit
namespace DiskC
open DiskM

theorem laid_count {w w' : World} {b : Nat} {v v' : Value} {fs : FL} {cut : Int} {n : Nat} {dead : Bool} (h : Laid w w' b v v' fs cut ((n : Int) + 1) dead) : Laid w w' b v v' fs cut ((n + 1 : Nat) : Int) dead := laid_lay h
theorem dtake_any (b : Nat) (v : Value) (fs : FL) (cut count : Int) (dead : Bool) (name : ByteArray) (w : World) (h : IsDsk w b v fs cut count dead) (hm : fs.length ≤ 1048577) :
    Calls Tryz.prog 74 #[.pointer (some ⟨b, 0, none⟩), .string name] w fun e w' => e = .returned (.tuple #[]) ∧ ∃ v', Laid w w' b v v' (takeF name fs) cut count dead := by
  cases hh : hasF name fs with
  | true => exact dtake_old b v fs cut count dead name w h hh hm
  | false => exact dtake_none b v fs cut count dead name w h hh

set_option maxHeartbeats 4000000 in
theorem dremove_any (b : Nat) (v : Value) (cut : Int) (name : ByteArray) (s : DS) (w : World) (h : IsD w b v cut s) (hf : Fit s) :
    Calls Tryz.prog 33 #[.pointer (some ⟨b, 0, none⟩), .string name] w (CallE b v cut (removeS cut name s).1 (removeS cut name s).2 w) := by
  have h1 := h.dead
  have h0 := h.files
  have hbw := h.lt
  have HD : Hid (IsDsk w b v s.fs cut s.count s.dead) := Lib.hid h
  clear h
  have HF := Lib.hid hf; clear hf
  by_cases c1 : mayB name = false
  · rw [show removeS cut name s = (2, s) by simp [removeS, c1]]
    have HMAY := Lib.hid c1; clear c1
    go_enter Tryz.func33, Tryz.ntmps33
    go_wp2_with fail
    refine (dmay_any name _).mono ?_
    rintro e w' ⟨rfl, rfl⟩
    rw [HMAY.out]
    go_wp2_with fail
    go_ret
    exact ⟨rfl, v, Laid.refl HD.out⟩
  have c1' : mayB name = true := by simpa using c1
  have HMAY := Lib.hid c1'; clear c1 c1'
  cases hd : s.dead with
  | true =>
    rw [show removeS cut name s = (5, s) by have := HMAY.out; simp [removeS, this, hd]]
    rw [hd] at h1
    clear hd
    go_enter Tryz.func33, Tryz.ntmps33
    go_wp2_with fail
    refine (dmay_any name _).mono ?_
    rintro e w' ⟨rfl, rfl⟩
    rw [HMAY.out]
    go_wp2_with fail
    go_ret
    exact ⟨rfl, v, Laid.refl HD.out⟩
  | false =>
    rw [hd] at h1
    have HDD := Lib.hid hd; clear hd
    cases c3 : hasF name s.fs with
    | false =>
      rw [show removeS cut name s = (6, s) by have := HMAY.out; have := HDD.out; simp [removeS, *]]
      have HH := Lib.hid c3; clear c3
      go_enter Tryz.func33, Tryz.ntmps33
      go_wp2_with fail
      refine (dmay_any name _).mono ?_
      rintro e w' ⟨rfl, rfl⟩
      rw [HMAY.out]
      go_wp2_with fail
      refine (dhas_any b _ s.fs cut s.count s.dead name _ HD.out).mono ?_
      rintro e w' ⟨rfl, q, rfl⟩
      rw [HH.out, HDD.out]
      go_wp2_with fail
      go_ret
      exact ⟨rfl, v, (Laid.refl HD.out).drewN _⟩
    | true =>
      have HH := Lib.hid c3; clear c3
      by_cases c5 : rawB cut s.count s.dead = true
      · rw [show removeS cut name s = (0, ⟨takeF name s.fs, s.count + 1, s.dead⟩) by unfold removeS; rw [if_neg (by rw [HMAY.out]; decide), if_neg (by rw [HDD.out]; decide), if_neg (by rw [HH.out]; decide), if_neg (by rw [c5]; decide)]]
        have C5 := Lib.hid c5; clear c5
        go_enter Tryz.func33, Tryz.ntmps33
        go_wp2_with fail
        refine (dmay_any name _).mono ?_
        rintro e w' ⟨rfl, rfl⟩
        rw [HMAY.out]
        go_wp2_with fail
        refine (dhas_any b _ s.fs cut s.count s.dead name _ HD.out).mono ?_
        rintro e w' ⟨rfl, q, rfl⟩
        rw [HH.out, HDD.out]
        go_wp2_with fail
        refine (draw_yes b _ s.fs cut s.count s.dead _ (HD.out.drewN _) (by omega) (by have := HF.out.count; omega) C5.out).mono ?_
        rintro e w2 ⟨rfl, hd2, hk2⟩
        have HD2 := Lib.hid hd2
        have HL1 := Lib.hid (show Laid w w2 b _ _ s.fs cut ((s.count : Int) + 1) s.dead from ⟨hd2, ((Keeps.refl _ _).drewN _).then hk2 (fun i hi e => Or.inl e), fun g h => Or.inl h⟩)
        clear hd2 hk2
        go_wp2_with fail
        refine (dtake_any b _ s.fs cut ((s.count : Int) + 1) s.dead name _ HD2.out (by have := HF.out.len; omega)).mono ?_
        rintro e w3 ⟨rfl, v3, hl3⟩
        have HL2 := Lib.hid (laid_count (HL1.out.trans hl3 hbw))
        clear hl3
        go_wp2_with fail
        go_ret
        exact ⟨rfl, v3, HL2.out⟩
      · have c5' : rawB cut s.count s.dead = false := by simpa using c5
        rw [show removeS cut name s = (5, ⟨s.fs, s.count, true⟩) by unfold removeS; rw [if_neg (by rw [HMAY.out]; decide), if_neg (by rw [HDD.out]; decide), if_neg (by rw [HH.out]; decide), if_pos c5']]
        have C5 := Lib.hid c5'; clear c5 c5'
        go_enter Tryz.func33, Tryz.ntmps33
        go_wp2_with fail
        refine (dmay_any name _).mono ?_
        rintro e w' ⟨rfl, rfl⟩
        rw [HMAY.out]
        go_wp2_with fail
        refine (dhas_any b _ s.fs cut s.count s.dead name _ HD.out).mono ?_
        rintro e w' ⟨rfl, q, rfl⟩
        rw [HH.out, HDD.out]
        go_wp2_with fail
        refine (draw_no b _ s.fs cut s.count s.dead _ (HD.out.drewN _) C5.out).mono ?_
        rintro e w2 ⟨rfl, hd2, hk2⟩
        have HD2 := Lib.hid hd2
        have HK2 := Lib.hid hk2
        clear hd2 hk2
        go_wp2_with fail
        go_ret
        exact ⟨rfl, _, HD2.out, ((Keeps.refl _ _).drewN _).then HK2.out (fun i hi e => Or.inl e), fun g h => Or.inl h⟩

set_option maxHeartbeats 8000000 in
theorem dtrunc_any (b : Nat) (v : Value) (cut : Int) (name : ByteArray) (n : Int) (s : DS) (w : World) (h : IsD w b v cut s) (hf : Fit s) (hn : n ≤ 9223372036854775807) :
    Calls Tryz.prog 34 #[.pointer (some ⟨b, 0, none⟩), .string name, .int .i64 n] w (CallE b v cut (truncS cut name n s).1 (truncS cut name n s).2 w) := by
  have h1 := h.dead
  have h0 := h.files
  have hbw := h.lt
  have HD : Hid (IsDsk w b v s.fs cut s.count s.dead) := Lib.hid h
  clear h
  have HF := Lib.hid hf; clear hf
  by_cases c1 : mayB name = false
  · rw [show truncS cut name n s = (2, s) by simp [truncS, c1]]
    have HMAY := Lib.hid c1; clear c1
    go_enter Tryz.func34, Tryz.ntmps34
    go_wp2_with fail
    refine (dmay_any name _).mono ?_
    rintro e w' ⟨rfl, rfl⟩
    rw [HMAY.out]
    go_wp2_with fail
    go_ret
    exact ⟨rfl, v, Laid.refl HD.out⟩
  have c1' : mayB name = true := by simpa using c1
  have HMAY := Lib.hid c1'; clear c1 c1'
  cases hd : s.dead with
  | true =>
    rw [show truncS cut name n s = (5, s) by have := HMAY.out; simp [truncS, this, hd]]
    rw [hd] at h1
    clear hd
    go_enter Tryz.func34, Tryz.ntmps34
    go_wp2_with fail
    refine (dmay_any name _).mono ?_
    rintro e w' ⟨rfl, rfl⟩
    rw [HMAY.out]
    go_wp2_with fail
    go_ret
    exact ⟨rfl, v, Laid.refl HD.out⟩
  | false =>
    rw [hd] at h1
    have HDD := Lib.hid hd; clear hd
    cases c3 : hasF name s.fs with
    | false =>
      rw [show truncS cut name n s = (6, s) by have := HMAY.out; have := HDD.out; simp [truncS, *]]
      have HH := Lib.hid c3; clear c3
      go_enter Tryz.func34, Tryz.ntmps34
      go_wp2_with fail
      refine (dmay_any name _).mono ?_
      rintro e w' ⟨rfl, rfl⟩
      rw [HMAY.out]
      go_wp2_with fail
      refine (dhas_any b _ s.fs cut s.count s.dead name _ HD.out).mono ?_
      rintro e w' ⟨rfl, q, rfl⟩
      rw [HH.out, HDD.out]
      go_wp2_with fail
      go_ret
      exact ⟨rfl, v, (Laid.refl HD.out).drewN _⟩
    | true =>
      have HH := Lib.hid c3; clear c3
      by_cases c6 : n < 0
      · rw [show truncS cut name n s = (2, s) by unfold truncS; rw [if_neg (by rw [HMAY.out]; decide), if_neg (by rw [HDD.out]; decide), if_neg (by rw [HH.out]; decide), if_pos (Or.inl c6)]]
        go_enter Tryz.func34, Tryz.ntmps34
        go_wp2_with fail
        refine (dmay_any name _).mono ?_
        rintro e w' ⟨rfl, rfl⟩
        rw [HMAY.out]
        go_wp2_with fail
        refine (dhas_any b _ s.fs cut s.count s.dead name _ HD.out).mono ?_
        rintro e w' ⟨rfl, q, rfl⟩
        rw [HH.out, HDD.out]
        go_wp2_with fail
        go_ret
        exact ⟨rfl, v, (Laid.refl HD.out).drewN _⟩
      obtain ⟨m, rfl⟩ := Int.eq_ofNat_of_zero_le (show 0 ≤ n by omega)
      have hbz := HF.out.bytes name
      by_cases c7 : (bytesF name s.fs).size < m
      · rw [show truncS cut name (m : Int) s = (2, s) by unfold truncS; rw [if_neg (by rw [HMAY.out]; decide), if_neg (by rw [HDD.out]; decide), if_neg (by rw [HH.out]; decide), if_pos (Or.inr (by omega))]]
        have d7 : decide ((bytesF name s.fs).size < m) = true := by simpa using c7
        clear c6
        go_enter Tryz.func34, Tryz.ntmps34
        go_wp2_with fail
        refine (dmay_any name _).mono ?_
        rintro e w' ⟨rfl, rfl⟩
        rw [HMAY.out]
        go_wp2_with fail
        refine (dhas_any b _ s.fs cut s.count s.dead name _ HD.out).mono ?_
        rintro e w' ⟨rfl, q, rfl⟩
        rw [HH.out, HDD.out]
        go_wp2_with fail
        refine (dbytes_any b _ s.fs cut s.count s.dead name _ (HD.out.drewN _)).mono ?_
        rintro e w' ⟨rfl, q2, rfl⟩
        go_wp2_with fail
        go_ret
        exact ⟨rfl, v, (Laid.refl HD.out).drewN _⟩
      have d7 : decide ((bytesF name s.fs).size < m) = false := by simpa using c7
      have hm2 : m ≤ (bytesF name s.fs).size := by omega
      have hfr := front_at (bytesF name s.fs) m hm2
      have HFR := Lib.hid hfr; clear hfr
      have hneg : ¬ ((m : Int) < 0 ∨ ((bytesF name s.fs).size : Int) < (m : Int)) := by omega
      have HNEG := Lib.hid hneg
      clear hneg c6
      by_cases c5 : rawB cut s.count s.dead = true
      · rw [show truncS cut name (m : Int) s = (0, ⟨layF name ((bytesF name s.fs).extract 0 m) s.fs, s.count + 1, s.dead⟩) by unfold truncS; rw [if_neg (by rw [HMAY.out]; decide), if_neg (by rw [HDD.out]; decide), if_neg (by rw [HH.out]; decide), if_neg HNEG.out, if_neg (by rw [c5]; decide)]; rfl]
        have C5 := Lib.hid c5; clear c5
        go_enter Tryz.func34, Tryz.ntmps34
        go_wp2_with fail
        refine (dmay_any name _).mono ?_
        rintro e w' ⟨rfl, rfl⟩
        rw [HMAY.out]
        go_wp2_with fail
        refine (dhas_any b _ s.fs cut s.count s.dead name _ HD.out).mono ?_
        rintro e w' ⟨rfl, q, rfl⟩
        rw [HH.out, HDD.out]
        go_wp2_with fail
        refine (dbytes_any b _ s.fs cut s.count s.dead name _ (HD.out.drewN _)).mono ?_
        rintro e w' ⟨rfl, q2, rfl⟩
        go_wp2_with fail
        refine (draw_yes b _ s.fs cut s.count s.dead _ (HD.out.drewN _) (by omega) (by have := HF.out.count; omega) C5.out).mono ?_
        rintro e w2 ⟨rfl, hd2, hk2⟩
        have HD2 := Lib.hid hd2
        have HL1 := Lib.hid (show Laid w w2 b _ _ s.fs cut ((s.count : Int) + 1) s.dead from ⟨hd2, ((Keeps.refl _ _).drewN _).then hk2 (fun i hi e => Or.inl e), fun g h => Or.inl h⟩)
        clear hd2 hk2
        go_wp2_with fail
        refine (dbytes_any b _ s.fs cut ((s.count : Int) + 1) s.dead name _ HD2.out).mono ?_
        rintro e w' ⟨rfl, q3, rfl⟩
        have hfr := HFR.out
        go_wp2_with fail
        clear hfr
        refine (dlay_any b _ s.fs cut ((s.count : Int) + 1) s.dead name _ _ (HD2.out.drewN _) (by have := HF.out.len; omega)).mono ?_
        rintro e w3 ⟨rfl, v3, hl3⟩
        have HL2 := Lib.hid (laid_count ((HL1.out.drewN _).trans hl3 hbw))
        clear hl3
        go_wp2_with fail
        go_ret
        exact ⟨rfl, v3, HL2.out⟩
      · have c5' : rawB cut s.count s.dead = false := by simpa using c5
        rw [show truncS cut name (m : Int) s = (5, ⟨s.fs, s.count, true⟩) by unfold truncS; rw [if_neg (by rw [HMAY.out]; decide), if_neg (by rw [HDD.out]; decide), if_neg (by rw [HH.out]; decide), if_neg HNEG.out, if_pos c5']]
        have C5 := Lib.hid c5'; clear c5 c5'
        go_enter Tryz.func34, Tryz.ntmps34
        go_wp2_with fail
        refine (dmay_any name _).mono ?_
        rintro e w' ⟨rfl, rfl⟩
        rw [HMAY.out]
        go_wp2_with fail
        refine (dhas_any b _ s.fs cut s.count s.dead name _ HD.out).mono ?_
        rintro e w' ⟨rfl, q, rfl⟩
        rw [HH.out, HDD.out]
        go_wp2_with fail
        refine (dbytes_any b _ s.fs cut s.count s.dead name _ (HD.out.drewN _)).mono ?_
        rintro e w' ⟨rfl, q2, rfl⟩
        go_wp2_with fail
        refine (draw_no b _ s.fs cut s.count s.dead _ (HD.out.drewN _) C5.out).mono ?_
        rintro e w2 ⟨rfl, hd2, hk2⟩
        have HD2 := Lib.hid hd2
        have HK2 := Lib.hid hk2
        clear hd2 hk2
        go_wp2_with fail
        go_ret
        exact ⟨rfl, _, HD2.out, ((Keeps.refl _ _).drewN _).then HK2.out (fun i hi e => Or.inl e), fun g h => Or.inl h⟩

set_option maxHeartbeats 4000000 in
theorem dread_any (b : Nat) (v : Value) (cut : Int) (name : ByteArray) (s : DS) (w : World) (h : IsD w b v cut s) :
    Calls Tryz.prog 29 #[.pointer (some ⟨b, 0, none⟩), .string name] w fun e w' => e = .returned (.tuple #[.string (readS name s).1, .int .i64 (readS name s).2]) ∧ ∃ q, w' = w.drewN q := by
  have h1 := h.dead
  have h0 := h.files
  have HD : Hid (IsDsk w b v s.fs cut s.count s.dead) := Lib.hid h
  clear h
  by_cases c1 : mayB name = false
  · rw [show readS name s = (⟨#[]⟩, 2) by simp [readS, c1]]
    have HMAY := Lib.hid c1; clear c1
    go_enter Tryz.func29, Tryz.ntmps29
    go_wp2_with fail
    refine (dmay_any name _).mono ?_
    rintro e w' ⟨rfl, rfl⟩
    rw [HMAY.out]
    go_wp2_with fail
    go_ret2
    exact ⟨rfl, 0, rfl⟩
  have c1' : mayB name = true := by simpa using c1
  have HMAY := Lib.hid c1'; clear c1 c1'
  cases hd : s.dead with
  | true =>
    rw [show readS name s = (⟨#[]⟩, 5) by have := HMAY.out; simp [readS, this, hd]]
    rw [hd] at h1
    clear hd
    go_enter Tryz.func29, Tryz.ntmps29
    go_wp2_with fail
    refine (dmay_any name _).mono ?_
    rintro e w' ⟨rfl, rfl⟩
    rw [HMAY.out]
    go_wp2_with fail
    go_ret2
    exact ⟨rfl, 0, rfl⟩
  | false =>
    rw [hd] at h1
    have HDD := Lib.hid hd; clear hd
    cases c3 : hasF name s.fs with
    | false =>
      rw [show readS name s = (⟨#[]⟩, 6) by have := HMAY.out; have := HDD.out; simp [readS, *]]
      have HH := Lib.hid c3; clear c3
      go_enter Tryz.func29, Tryz.ntmps29
      go_wp2_with fail
      refine (dmay_any name _).mono ?_
      rintro e w' ⟨rfl, rfl⟩
      rw [HMAY.out]
      go_wp2_with fail
      refine (dhas_any b _ s.fs cut s.count s.dead name _ HD.out).mono ?_
      rintro e w' ⟨rfl, q, rfl⟩
      rw [HH.out, HDD.out]
      go_wp2_with fail
      go_ret2
      exact ⟨rfl, _, rfl⟩
    | true =>
      rw [show readS name s = (bytesF name s.fs, 0) by have := HMAY.out; have := HDD.out; simp [readS, *]]
      have HH := Lib.hid c3; clear c3
      go_enter Tryz.func29, Tryz.ntmps29
      go_wp2_with fail
      refine (dmay_any name _).mono ?_
      rintro e w' ⟨rfl, rfl⟩
      rw [HMAY.out]
      go_wp2_with fail
      refine (dhas_any b _ s.fs cut s.count s.dead name _ HD.out).mono ?_
      rintro e w' ⟨rfl, q, rfl⟩
      rw [HH.out, HDD.out]
      go_wp2_with fail
      refine (dbytes_any b _ s.fs cut s.count s.dead name _ (HD.out.drewN _)).mono ?_
      rintro e w' ⟨rfl, q2, rfl⟩
      go_wp2_with fail
      go_ret2
      exact ⟨rfl, _, rfl⟩

theorem drestart_any (b : Nat) (v : Value) (cut c2 : Int) (s : DS) (w : World) (h : IsD w b v cut s) :
    Calls Tryz.prog 12 #[.pointer (some ⟨b, 0, none⟩), .int .i64 c2] w fun e w' => e = .returned (.tuple #[]) ∧ Laid w w' b v v s.fs c2 0 false := by
  have h1 := h.cut
  have h2 := h.count
  have h3 := h.dead
  have f1 := h.free 1
  have f2 := h.free 2
  have f3 := h.free 3
  have HD : Hid (IsDsk w b v s.fs cut s.count s.dead) := Lib.hid h
  clear h
  go_enter Tryz.func12, Tryz.ntmps12
  go_wp2_with fail
  go_end0
  exact ⟨rfl, ((HD.out.setCut c2).setCount 0).setDead false, (((Keeps.refl _ _).set _ (Or.inl rfl) _).set _ (Or.inl rfl) _).set _ (Or.inl rfl) _, fun g h => Or.inl h⟩
theorem dnew_any (cut : Int) (w : World) : Calls Tryz.prog 5 #[.int .i64 cut] w fun e w' => e = .returned (.pointer (some ⟨w.heap.size, 0, none⟩)) ∧ w' = w.alloc (.cells #[.slice none 0 0, .int .i64 cut, .int .i64 0, .bool false] 54) := by
  go_enter Tryz.func5, Tryz.ntmps5
  go_wp2_with fail
  go_ret
  exact ⟨rfl, rfl⟩
theorem dnew_is (cut : Int) (w : World) : IsD (w.alloc (.cells #[.slice none 0 0, .int .i64 cut, .int .i64 0, .bool false] 54)) w.heap.size (.slice none 0 0) cut ⟨[], 0, false⟩ :=
  ⟨by simp, by simp, by simp, by simp, fun j => by simp, World.ownsRow_nil _ _ _ _, by intro h; cases h⟩
end DiskC
end Go.Proofs.YtlnbjlidakdmlaaGreatDoor
