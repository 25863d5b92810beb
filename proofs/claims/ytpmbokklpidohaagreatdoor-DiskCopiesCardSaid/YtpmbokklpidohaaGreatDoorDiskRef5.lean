/-
  The document's own disk of layer 3: its calls (wip/gen/diskcalls.py writes this text).
-/
import Derived.Test.YtpmbokklpidohaaGreatDoorDiskRef4
namespace Go.Proofs.YtpmbokklpidohaaGreatDoor
open Go.RowKit
namespace DiskC
open DiskM

theorem Fit.room {s : DS} (h : Fit s) (n : ByteArray) : room n s.fs ≤ 1048576 := by have := h.len; unfold DiskM.room; split <;> omega
/-- what a call answers: a number, and the disk behind it -/
def CallE (b : Nat) (v : Value) (cut : Int) (n : Nat) (s : DS) (w : World) (e : Ending) (w' : World) : Prop :=
  e = .returned (.int .i64 n) ∧ ∃ v', Laid w w' b v v' s.fs cut s.count s.dead
def IsD (w : World) (b : Nat) (v : Value) (cut : Int) (s : DS) : Prop := IsDsk w b v s.fs cut s.count s.dead

set_option maxHeartbeats 4000000 in
theorem dappend_any (b : Nat) (v : Value) (cut : Int) (name x : ByteArray) (s : DS) (w : World) (h : IsD w b v cut s) (hf : Fit s) (hx : x.size ≤ 549755813888) :
    Calls Tryz.prog 17 #[.pointer (some ⟨b, 0, none⟩), .string name, .string x] w (CallE b v cut (appendS cut name x s).1 (appendS cut name x s).2 w) := by
  have h1 := h.dead
  have h0 := h.files
  have hbw := h.lt
  have HD : Hid (IsDsk w b v s.fs cut s.count s.dead) := Lib.hid h
  clear h
  have HF := Lib.hid hf; clear hf
  have hbz := HF.out.bytes name
  by_cases c1 : mayB name = false
  · rw [show appendS cut name x s = (2, s) by simp [appendS, c1]]
    have HMAY := Lib.hid c1; clear c1 hbz
    go_enter Tryz.func17, Tryz.ntmps17
    go_wp2_with fail
    refine (dmay_any name _).mono ?_
    rintro e w' ⟨rfl, rfl⟩
    rw [HMAY.out]
    go_wp2_with fail
    go_ret
    exact ⟨rfl, v, Laid.refl HD.out⟩
  have c1' : mayB name = true := by simpa using c1
  have HMAY := Lib.hid c1'; clear c1 c1'
  cases hd : s.dead with
  | true =>
    rw [show appendS cut name x s = (5, s) by have := HMAY.out; simp [appendS, this, hd]]
    rw [hd] at h1
    clear hbz hd
    go_enter Tryz.func17, Tryz.ntmps17
    go_wp2_with fail
    refine (dmay_any name _).mono ?_
    rintro e w' ⟨rfl, rfl⟩
    rw [HMAY.out]
    go_wp2_with fail
    go_ret
    exact ⟨rfl, v, Laid.refl HD.out⟩
  | false =>
    rw [hd] at h1
    have HDD := Lib.hid hd; clear hd
    by_cases c2 : 16777216 < (bytesF name s.fs).size + x.size
    · rw [show appendS cut name x s = (4, s) by have := HMAY.out; have := HDD.out; simp [appendS, *]]
      have d2 : decide (16777216 < (bytesF name s.fs).size + x.size) = true := by simpa using c2
      have d3 : decide ((16777216 : Int) < ((bytesF name s.fs).size : Int) + (x.size : Int)) = true := by simp; omega
      go_enter Tryz.func17, Tryz.ntmps17
      go_wp2_with fail
      refine (dmay_any name _).mono ?_
      rintro e w' ⟨rfl, rfl⟩
      rw [HMAY.out]
      go_wp2_with fail
      refine (dbytes_any b v s.fs cut s.count s.dead name _ HD.out).mono ?_
      rintro e w' ⟨rfl, q, rfl⟩
      go_wp2_with fail
      go_ret
      exact ⟨rfl, v, (Laid.refl HD.out).drewN _⟩
    · have d3 : decide ((16777216 : Int) < ((bytesF name s.fs).size : Int) + (x.size : Int)) = false := by simp; omega
      cases c3 : hasF name s.fs with
      | true =>
        rw [show appendS cut name x s = (code5 (addsR cut name x s).1, (addsR cut name x s).2) by have := HMAY.out; have := HDD.out; simp [appendS, *]]
        have HH := Lib.hid c3; clear c3
        go_enter Tryz.func17, Tryz.ntmps17
        go_wp2_with fail
        refine (dmay_any name _).mono ?_
        rintro e w' ⟨rfl, rfl⟩
        rw [HMAY.out]
        go_wp2_with fail
        refine (dbytes_any b v s.fs cut s.count s.dead name _ HD.out).mono ?_
        rintro e w' ⟨rfl, q, rfl⟩
        go_wp2_with fail
        refine (dhas_any b v s.fs cut s.count s.dead name _ (HD.out.drewN _)).mono ?_
        rintro e w' ⟨rfl, q2, rfl⟩
        rw [HH.out, HDD.out]
        go_wp2_with fail
        refine (dadds_any b v cut name x s _ (HD.out.drewN _) (HF.out.room name) (by omega) (by have := HF.out.count; omega)).mono ?_
        rintro e w2 ⟨rfl, v2, hl⟩
        have HL := Lib.hid (((Laid.refl HD.out).drewN _).trans hl hbw)
        clear hl
        go_wp2_with fail
        go_ret
        exact ⟨rfl, v2, HL.out⟩
      | false =>
        have HH := Lib.hid c3
        clear c3
        rcases row_val HD.out.row with ⟨rfl, hnil⟩ | ⟨g, cp, rfl, hg, hm, -⟩
        · have hlen : s.fs.length = 0 := by rw [hnil]; rfl
          rw [show appendS cut name x s = (code5 (addsR cut name x s).1, (addsR cut name x s).2) by unfold appendS; rw [if_neg (by rw [HMAY.out]; decide), if_neg (by rw [HDD.out]; decide), if_neg (fun h => h.elim c2 (fun h => by omega))]]
          clear hnil hlen
          go_enter Tryz.func17, Tryz.ntmps17
          go_wp2_with fail
          refine (dmay_any name _).mono ?_
          rintro e w' ⟨rfl, rfl⟩
          rw [HMAY.out]
          go_wp2_with fail
          refine (dbytes_any b _ s.fs cut s.count s.dead name _ HD.out).mono ?_
          rintro e w' ⟨rfl, q, rfl⟩
          go_wp2_with fail
          refine (dhas_any b _ s.fs cut s.count s.dead name _ (HD.out.drewN _)).mono ?_
          rintro e w' ⟨rfl, q2, rfl⟩
          rw [HH.out, HDD.out]
          go_wp2_with fail
          refine (dadds_any b _ cut name x s _ (HD.out.drewN _) (HF.out.room name) (by omega) (by have := HF.out.count; omega)).mono ?_
          rintro e w2 ⟨rfl, v2, hl⟩
          have HL := Lib.hid (((Laid.refl HD.out).drewN _).trans hl hbw)
          clear hl
          go_wp2_with fail
          go_ret
          exact ⟨rfl, v2, HL.out⟩
        · by_cases c4 : 65536 ≤ s.fs.length
          · rw [show appendS cut name x s = (4, s) by have := HMAY.out; have := HDD.out; have := HH.out; simp [appendS, *]]
            have d4 : decide (65536 ≤ s.fs.length) = true := by simpa using c4
            have d5 : decide ((65536 : Int) ≤ (s.fs.length : Int)) = true := by simp; omega
            clear hm
            go_enter Tryz.func17, Tryz.ntmps17
            go_wp2_with fail
            refine (dmay_any name _).mono ?_
            rintro e w' ⟨rfl, rfl⟩
            rw [HMAY.out]
            go_wp2_with fail
            refine (dbytes_any b _ s.fs cut s.count s.dead name _ HD.out).mono ?_
            rintro e w' ⟨rfl, q, rfl⟩
            go_wp2_with fail
            refine (dhas_any b _ s.fs cut s.count s.dead name _ (HD.out.drewN _)).mono ?_
            rintro e w' ⟨rfl, q2, rfl⟩
            rw [HH.out, HDD.out]
            go_wp2_with fail
            go_ret
            exact ⟨rfl, _, (Laid.refl HD.out).drewN _⟩
          · rw [show appendS cut name x s = (code5 (addsR cut name x s).1, (addsR cut name x s).2) by unfold appendS; rw [if_neg (by rw [HMAY.out]; decide), if_neg (by rw [HDD.out]; decide), if_neg (fun h => h.elim c2 (fun h => by omega))]]
            have d5 : decide ((65536 : Int) ≤ (s.fs.length : Int)) = false := by simp; omega
            unfold maxLen at hm
            go_enter Tryz.func17, Tryz.ntmps17
            go_wp2_with fail
            refine (dmay_any name _).mono ?_
            rintro e w' ⟨rfl, rfl⟩
            rw [HMAY.out]
            go_wp2_with fail
            refine (dbytes_any b _ s.fs cut s.count s.dead name _ HD.out).mono ?_
            rintro e w' ⟨rfl, q, rfl⟩
            go_wp2_with fail
            refine (dhas_any b _ s.fs cut s.count s.dead name _ (HD.out.drewN _)).mono ?_
            rintro e w' ⟨rfl, q2, rfl⟩
            rw [HH.out, HDD.out]
            go_wp2_with fail
            refine (dadds_any b _ cut name x s _ (HD.out.drewN _) (HF.out.room name) (by omega) (by have := HF.out.count; omega)).mono ?_
            rintro e w2 ⟨rfl, v2, hl⟩
            have HL := Lib.hid (((Laid.refl HD.out).drewN _).trans hl hbw)
            clear hl
            go_wp2_with fail
            go_ret
            exact ⟨rfl, v2, HL.out⟩

theorem isD_lay {w : World} {b : Nat} {v : Value} {fs : FL} {cut : Int} {n : Nat} {dead : Bool} (h : IsDsk w b v fs cut ((n : Int) + 1) dead) : IsDsk w b v fs cut ((n + 1 : Nat) : Int) dead := by
  rw [show ((n + 1 : Nat) : Int) = (n : Int) + 1 by omega]; exact h
theorem laid_lay {w w' : World} {b : Nat} {v v' : Value} {fs : FL} {cut : Int} {n : Nat} {dead : Bool} (h : Laid w w' b v v' fs cut ((n : Int) + 1) dead) : Laid w w' b v v' fs cut ((n + 1 : Nat) : Int) dead := ⟨isD_lay h.dsk, h.keeps, h.row⟩
set_option maxHeartbeats 8000000 in
theorem dput_any (b : Nat) (v : Value) (cut : Int) (name x : ByteArray) (s : DS) (w : World) (h : IsD w b v cut s) (hf : Fit s) :
    Calls Tryz.prog 19 #[.pointer (some ⟨b, 0, none⟩), .string name, .string x] w (CallE b v cut (putS cut name x s).1 (putS cut name x s).2 w) := by
  have h1 := h.dead
  have h0 := h.files
  have hbw := h.lt
  have HD : Hid (IsDsk w b v s.fs cut s.count s.dead) := Lib.hid h
  clear h
  have HF := Lib.hid hf; clear hf
  by_cases c1 : mayB name = false
  · rw [show putS cut name x s = (2, s) by simp [putS, c1]]
    have HMAY := Lib.hid c1; clear c1
    go_enter Tryz.func19, Tryz.ntmps19
    go_wp2_with fail
    refine (dmay_any name _).mono ?_
    rintro e w' ⟨rfl, rfl⟩
    rw [HMAY.out]
    go_wp2_with fail
    go_ret
    exact ⟨rfl, v, Laid.refl HD.out⟩
  have c1' : mayB name = true := by simpa using c1
  have HMAY := Lib.hid c1'; clear c1 c1'
  cases hd : s.dead with
  | true =>
    rw [show putS cut name x s = (5, s) by have := HMAY.out; simp [putS, this, hd]]
    rw [hd] at h1
    clear hd
    go_enter Tryz.func19, Tryz.ntmps19
    go_wp2_with fail
    refine (dmay_any name _).mono ?_
    rintro e w' ⟨rfl, rfl⟩
    rw [HMAY.out]
    go_wp2_with fail
    go_ret
    exact ⟨rfl, v, Laid.refl HD.out⟩
  | false =>
    rw [hd] at h1
    have HDD := Lib.hid hd; clear hd
    by_cases c2 : 16777216 < x.size
    · rw [show putS cut name x s = (4, s) by have := HMAY.out; have := HDD.out; simp [putS, *]]
      have d2 : decide (16777216 < x.size) = true := by simpa using c2
      have d3 : decide ((16777216 : Int) < (x.size : Int)) = true := by simp; omega
      go_enter Tryz.func19, Tryz.ntmps19
      go_wp2_with fail
      refine (dmay_any name _).mono ?_
      rintro e w' ⟨rfl, rfl⟩
      rw [HMAY.out]
      go_wp2_with fail
      go_ret
      exact ⟨rfl, v, Laid.refl HD.out⟩
    · have d3 : decide ((16777216 : Int) < (x.size : Int)) = false := by simp; omega
      cases c3 : hasF name s.fs with
      | true =>
        have HH := Lib.hid c3; clear c3
        by_cases c5 : rawB cut s.count s.dead = true
        · have C5 := Lib.hid c5
          by_cases c6 : x.size = 0
          · rw [show putS cut name x s = (0, ⟨layF name ⟨#[]⟩ s.fs, s.count + 1, s.dead⟩) by unfold putS; rw [if_neg (by rw [HMAY.out]; decide), if_neg (by rw [HDD.out]; decide), if_neg (fun h => h.elim c2 (fun h => by rw [HH.out] at h; exact absurd h.1 (by decide))), if_neg (by rw [c5]; decide), if_pos c6]]
            have t1 : x.toList = [] := by rw [ByteArray.toList_eq]; exact List.eq_nil_of_length_eq_zero (by rw [Array.length_toList]; exact c6)
            have t2 : x.toList.isEmpty = true := by rw [t1]; rfl
            clear c5 c6
            go_enter Tryz.func19, Tryz.ntmps19
            go_wp2_with fail
            refine (dmay_any name _).mono ?_
            rintro e w' ⟨rfl, rfl⟩
            rw [HMAY.out]
            go_wp2_with fail
            refine (dhas_any b _ s.fs cut s.count s.dead name _ HD.out).mono ?_
            rintro e w' ⟨rfl, q, rfl⟩
            rw [HH.out, HDD.out]
            go_wp2_with fail
            refine (draw_yes b _ s.fs cut s.count s.dead _ (HD.out.drewN _) (by omega) (by have := HF.out.count; omega) C5.out).mono ?_
            rintro e w2 ⟨rfl, hd2, hk2⟩
            have HD2 := Lib.hid hd2
            have HL1 := Lib.hid (show Laid w w2 b _ _ s.fs cut ((s.count : Int) + 1) s.dead from ⟨hd2, ((Keeps.refl _ _).drewN _).then hk2 (fun i hi e => Or.inl e), fun g h => Or.inl h⟩)
            clear hd2 hk2
            go_wp2_with fail
            refine (dlay_any b _ s.fs cut ((s.count : Int) + 1) s.dead name ⟨#[]⟩ _ HD2.out (by have := HF.out.len; omega)).mono ?_
            rintro e w3 ⟨rfl, v3, hl3⟩
            have HL2 := Lib.hid (laid_lay (HL1.out.trans hl3 hbw))
            clear hl3
            go_wp2_with fail
            go_ret
            exact ⟨rfl, v3, HL2.out⟩
          · rw [show putS cut name x s = (code5 (addsR cut name x ⟨layF name ⟨#[]⟩ s.fs, s.count + 1, s.dead⟩).1, (addsR cut name x ⟨layF name ⟨#[]⟩ s.fs, s.count + 1, s.dead⟩).2) by unfold putS; rw [if_neg (by rw [HMAY.out]; decide), if_neg (by rw [HDD.out]; decide), if_neg (fun h => h.elim c2 (fun h => by rw [HH.out] at h; exact absurd h.1 (by decide))), if_neg (by rw [c5]; decide), if_neg c6]]
            have t2 : x.toList.isEmpty = false := by
              rw [ByteArray.toList_eq]
              cases e : x.data.toList with
              | nil => exact absurd (by have := congrArg List.length e; rw [Array.length_toList] at this; exact this) c6
              | cons a r => rfl
            clear c5 c6
            go_enter Tryz.func19, Tryz.ntmps19
            go_wp2_with fail
            refine (dmay_any name _).mono ?_
            rintro e w' ⟨rfl, rfl⟩
            rw [HMAY.out]
            go_wp2_with fail
            refine (dhas_any b _ s.fs cut s.count s.dead name _ HD.out).mono ?_
            rintro e w' ⟨rfl, q, rfl⟩
            rw [HH.out, HDD.out]
            go_wp2_with fail
            refine (draw_yes b _ s.fs cut s.count s.dead _ (HD.out.drewN _) (by omega) (by have := HF.out.count; omega) C5.out).mono ?_
            rintro e w2 ⟨rfl, hd2, hk2⟩
            have HD2 := Lib.hid hd2
            have HL1 := Lib.hid (show Laid w w2 b _ _ s.fs cut ((s.count : Int) + 1) s.dead from ⟨hd2, ((Keeps.refl _ _).drewN _).then hk2 (fun i hi e => Or.inl e), fun g h => Or.inl h⟩)
            clear hd2 hk2
            go_wp2_with fail
            refine (dlay_any b _ s.fs cut ((s.count : Int) + 1) s.dead name ⟨#[]⟩ _ HD2.out (by have := HF.out.len; omega)).mono ?_
            rintro e w3 ⟨rfl, v3, hl3⟩
            have HL2 := Lib.hid (laid_lay (HL1.out.trans hl3 hbw))
            clear hl3
            go_wp2_with fail
            refine (dadds_any b v3 cut name x ⟨layF name ⟨#[]⟩ s.fs, s.count + 1, s.dead⟩ _ HL2.out.dsk (by show room name (layF name ⟨#[]⟩ s.fs) ≤ _; rw [room_lay]; exact HF.out.room name) (by show (bytesF name (layF name ⟨#[]⟩ s.fs)).size + x.size ≤ _; rw [(has_lay _ _ _).2]; show 0 + x.size ≤ _; omega) (by show s.count + 1 + x.size ≤ _; have := HF.out.count; omega)).mono ?_
            rintro e w4 ⟨rfl, v4, hl4⟩
            have HL4 := Lib.hid (HL2.out.trans hl4 hbw)
            clear hl4
            go_wp2_with fail
            go_ret
            exact ⟨rfl, v4, HL4.out⟩
        · rw [show putS cut name x s = (5, ⟨s.fs, s.count, true⟩) by unfold putS; rw [if_neg (by rw [HMAY.out]; decide), if_neg (by rw [HDD.out]; decide), if_neg (fun h => h.elim c2 (fun h => by rw [HH.out] at h; exact absurd h.1 (by decide))), if_pos (by simpa using c5)]]
          have c5' : rawB cut s.count s.dead = false := by simpa using c5
          have C5 := Lib.hid c5'
          clear c5 c5'
          go_enter Tryz.func19, Tryz.ntmps19
          go_wp2_with fail
          refine (dmay_any name _).mono ?_
          rintro e w' ⟨rfl, rfl⟩
          rw [HMAY.out]
          go_wp2_with fail
          refine (dhas_any b _ s.fs cut s.count s.dead name _ HD.out).mono ?_
          rintro e w' ⟨rfl, q, rfl⟩
          rw [HH.out, HDD.out]
          go_wp2_with fail
          refine (draw_no b _ s.fs cut s.count s.dead _ (HD.out.drewN _) C5.out).mono ?_
          rintro e w2 ⟨rfl, hd2, hk2⟩
          have HD2 := Lib.hid hd2
          have HK2 := Lib.hid hk2
          clear hd2 hk2
          go_wp2_with fail
          go_ret
          exact ⟨rfl, _, HD2.out, ((Keeps.refl _ _).drewN _).then HK2.out (fun i hi e => Or.inl e), fun g h => Or.inl h⟩
      | false =>
        have HH := Lib.hid c3; clear c3
        rcases row_val HD.out.row with ⟨rfl, hnil⟩ | ⟨g, cp, rfl, hg, hm, -⟩
        · have hlen : s.fs.length = 0 := by rw [hnil]; rfl
          have HLEN := Lib.hid hlen
          clear hnil hlen
          by_cases c5 : rawB cut s.count s.dead = true
          · have C5 := Lib.hid c5
            by_cases c6 : x.size = 0
            · rw [show putS cut name x s = (0, ⟨layF name ⟨#[]⟩ s.fs, s.count + 1, s.dead⟩) by unfold putS; rw [if_neg (by rw [HMAY.out]; decide), if_neg (by rw [HDD.out]; decide), if_neg (fun h => h.elim c2 (fun h => by have := HLEN.out; omega)), if_neg (by rw [c5]; decide), if_pos c6]]
              have t1 : x.toList = [] := by rw [ByteArray.toList_eq]; exact List.eq_nil_of_length_eq_zero (by rw [Array.length_toList]; exact c6)
              have t2 : x.toList.isEmpty = true := by rw [t1]; rfl
              clear c5 c6
              go_enter Tryz.func19, Tryz.ntmps19
              go_wp2_with fail
              refine (dmay_any name _).mono ?_
              rintro e w' ⟨rfl, rfl⟩
              rw [HMAY.out]
              go_wp2_with fail
              refine (dhas_any b _ s.fs cut s.count s.dead name _ HD.out).mono ?_
              rintro e w' ⟨rfl, q, rfl⟩
              rw [HH.out, HDD.out]
              go_wp2_with fail
              refine (draw_yes b _ s.fs cut s.count s.dead _ (HD.out.drewN _) (by omega) (by have := HF.out.count; omega) C5.out).mono ?_
              rintro e w2 ⟨rfl, hd2, hk2⟩
              have HD2 := Lib.hid hd2
              have HL1 := Lib.hid (show Laid w w2 b _ _ s.fs cut ((s.count : Int) + 1) s.dead from ⟨hd2, ((Keeps.refl _ _).drewN _).then hk2 (fun i hi e => Or.inl e), fun g h => Or.inl h⟩)
              clear hd2 hk2
              go_wp2_with fail
              refine (dlay_any b _ s.fs cut ((s.count : Int) + 1) s.dead name ⟨#[]⟩ _ HD2.out (by have := HF.out.len; omega)).mono ?_
              rintro e w3 ⟨rfl, v3, hl3⟩
              have HL2 := Lib.hid (laid_lay (HL1.out.trans hl3 hbw))
              clear hl3
              go_wp2_with fail
              go_ret
              exact ⟨rfl, v3, HL2.out⟩
            · rw [show putS cut name x s = (code5 (addsR cut name x ⟨layF name ⟨#[]⟩ s.fs, s.count + 1, s.dead⟩).1, (addsR cut name x ⟨layF name ⟨#[]⟩ s.fs, s.count + 1, s.dead⟩).2) by unfold putS; rw [if_neg (by rw [HMAY.out]; decide), if_neg (by rw [HDD.out]; decide), if_neg (fun h => h.elim c2 (fun h => by have := HLEN.out; omega)), if_neg (by rw [c5]; decide), if_neg c6]]
              have t2 : x.toList.isEmpty = false := by
                rw [ByteArray.toList_eq]
                cases e : x.data.toList with
                | nil => exact absurd (by have := congrArg List.length e; rw [Array.length_toList] at this; exact this) c6
                | cons a r => rfl
              clear c5 c6
              go_enter Tryz.func19, Tryz.ntmps19
              go_wp2_with fail
              refine (dmay_any name _).mono ?_
              rintro e w' ⟨rfl, rfl⟩
              rw [HMAY.out]
              go_wp2_with fail
              refine (dhas_any b _ s.fs cut s.count s.dead name _ HD.out).mono ?_
              rintro e w' ⟨rfl, q, rfl⟩
              rw [HH.out, HDD.out]
              go_wp2_with fail
              refine (draw_yes b _ s.fs cut s.count s.dead _ (HD.out.drewN _) (by omega) (by have := HF.out.count; omega) C5.out).mono ?_
              rintro e w2 ⟨rfl, hd2, hk2⟩
              have HD2 := Lib.hid hd2
              have HL1 := Lib.hid (show Laid w w2 b _ _ s.fs cut ((s.count : Int) + 1) s.dead from ⟨hd2, ((Keeps.refl _ _).drewN _).then hk2 (fun i hi e => Or.inl e), fun g h => Or.inl h⟩)
              clear hd2 hk2
              go_wp2_with fail
              refine (dlay_any b _ s.fs cut ((s.count : Int) + 1) s.dead name ⟨#[]⟩ _ HD2.out (by have := HF.out.len; omega)).mono ?_
              rintro e w3 ⟨rfl, v3, hl3⟩
              have HL2 := Lib.hid (laid_lay (HL1.out.trans hl3 hbw))
              clear hl3
              go_wp2_with fail
              refine (dadds_any b v3 cut name x ⟨layF name ⟨#[]⟩ s.fs, s.count + 1, s.dead⟩ _ HL2.out.dsk (by show room name (layF name ⟨#[]⟩ s.fs) ≤ _; rw [room_lay]; exact HF.out.room name) (by show (bytesF name (layF name ⟨#[]⟩ s.fs)).size + x.size ≤ _; rw [(has_lay _ _ _).2]; show 0 + x.size ≤ _; omega) (by show s.count + 1 + x.size ≤ _; have := HF.out.count; omega)).mono ?_
              rintro e w4 ⟨rfl, v4, hl4⟩
              have HL4 := Lib.hid (HL2.out.trans hl4 hbw)
              clear hl4
              go_wp2_with fail
              go_ret
              exact ⟨rfl, v4, HL4.out⟩
          · rw [show putS cut name x s = (5, ⟨s.fs, s.count, true⟩) by unfold putS; rw [if_neg (by rw [HMAY.out]; decide), if_neg (by rw [HDD.out]; decide), if_neg (fun h => h.elim c2 (fun h => by have := HLEN.out; omega)), if_pos (by simpa using c5)]]
            have c5' : rawB cut s.count s.dead = false := by simpa using c5
            have C5 := Lib.hid c5'
            clear c5 c5'
            go_enter Tryz.func19, Tryz.ntmps19
            go_wp2_with fail
            refine (dmay_any name _).mono ?_
            rintro e w' ⟨rfl, rfl⟩
            rw [HMAY.out]
            go_wp2_with fail
            refine (dhas_any b _ s.fs cut s.count s.dead name _ HD.out).mono ?_
            rintro e w' ⟨rfl, q, rfl⟩
            rw [HH.out, HDD.out]
            go_wp2_with fail
            refine (draw_no b _ s.fs cut s.count s.dead _ (HD.out.drewN _) C5.out).mono ?_
            rintro e w2 ⟨rfl, hd2, hk2⟩
            have HD2 := Lib.hid hd2
            have HK2 := Lib.hid hk2
            clear hd2 hk2
            go_wp2_with fail
            go_ret
            exact ⟨rfl, _, HD2.out, ((Keeps.refl _ _).drewN _).then HK2.out (fun i hi e => Or.inl e), fun g h => Or.inl h⟩
        · by_cases c4 : 65536 ≤ s.fs.length
          · rw [show putS cut name x s = (4, s) by have := HMAY.out; have := HDD.out; have := HH.out; simp [putS, *]]
            have d4 : decide (65536 ≤ s.fs.length) = true := by simpa using c4
            have d5 : decide ((65536 : Int) ≤ (s.fs.length : Int)) = true := by simp; omega
            clear hm
            go_enter Tryz.func19, Tryz.ntmps19
            go_wp2_with fail
            refine (dmay_any name _).mono ?_
            rintro e w' ⟨rfl, rfl⟩
            rw [HMAY.out]
            go_wp2_with fail
            refine (dhas_any b _ s.fs cut s.count s.dead name _ HD.out).mono ?_
            rintro e w' ⟨rfl, q, rfl⟩
            rw [HH.out, HDD.out]
            go_wp2_with fail
            go_ret
            exact ⟨rfl, _, (Laid.refl HD.out).drewN _⟩
          · have d5 : decide ((65536 : Int) ≤ (s.fs.length : Int)) = false := by simp; omega
            unfold maxLen at hm
            by_cases c5 : rawB cut s.count s.dead = true
            · have C5 := Lib.hid c5
              by_cases c6 : x.size = 0
              · rw [show putS cut name x s = (0, ⟨layF name ⟨#[]⟩ s.fs, s.count + 1, s.dead⟩) by unfold putS; rw [if_neg (by rw [HMAY.out]; decide), if_neg (by rw [HDD.out]; decide), if_neg (fun h => h.elim c2 (fun h => by omega)), if_neg (by rw [c5]; decide), if_pos c6]]
                have t1 : x.toList = [] := by rw [ByteArray.toList_eq]; exact List.eq_nil_of_length_eq_zero (by rw [Array.length_toList]; exact c6)
                have t2 : x.toList.isEmpty = true := by rw [t1]; rfl
                clear c5 c6
                go_enter Tryz.func19, Tryz.ntmps19
                go_wp2_with fail
                refine (dmay_any name _).mono ?_
                rintro e w' ⟨rfl, rfl⟩
                rw [HMAY.out]
                go_wp2_with fail
                refine (dhas_any b _ s.fs cut s.count s.dead name _ HD.out).mono ?_
                rintro e w' ⟨rfl, q, rfl⟩
                rw [HH.out, HDD.out]
                go_wp2_with fail
                refine (draw_yes b _ s.fs cut s.count s.dead _ (HD.out.drewN _) (by omega) (by have := HF.out.count; omega) C5.out).mono ?_
                rintro e w2 ⟨rfl, hd2, hk2⟩
                have HD2 := Lib.hid hd2
                have HL1 := Lib.hid (show Laid w w2 b _ _ s.fs cut ((s.count : Int) + 1) s.dead from ⟨hd2, ((Keeps.refl _ _).drewN _).then hk2 (fun i hi e => Or.inl e), fun g h => Or.inl h⟩)
                clear hd2 hk2
                go_wp2_with fail
                refine (dlay_any b _ s.fs cut ((s.count : Int) + 1) s.dead name ⟨#[]⟩ _ HD2.out (by have := HF.out.len; omega)).mono ?_
                rintro e w3 ⟨rfl, v3, hl3⟩
                have HL2 := Lib.hid (laid_lay (HL1.out.trans hl3 hbw))
                clear hl3
                go_wp2_with fail
                go_ret
                exact ⟨rfl, v3, HL2.out⟩
              · rw [show putS cut name x s = (code5 (addsR cut name x ⟨layF name ⟨#[]⟩ s.fs, s.count + 1, s.dead⟩).1, (addsR cut name x ⟨layF name ⟨#[]⟩ s.fs, s.count + 1, s.dead⟩).2) by unfold putS; rw [if_neg (by rw [HMAY.out]; decide), if_neg (by rw [HDD.out]; decide), if_neg (fun h => h.elim c2 (fun h => by omega)), if_neg (by rw [c5]; decide), if_neg c6]]
                have t2 : x.toList.isEmpty = false := by
                  rw [ByteArray.toList_eq]
                  cases e : x.data.toList with
                  | nil => exact absurd (by have := congrArg List.length e; rw [Array.length_toList] at this; exact this) c6
                  | cons a r => rfl
                clear c5 c6
                go_enter Tryz.func19, Tryz.ntmps19
                go_wp2_with fail
                refine (dmay_any name _).mono ?_
                rintro e w' ⟨rfl, rfl⟩
                rw [HMAY.out]
                go_wp2_with fail
                refine (dhas_any b _ s.fs cut s.count s.dead name _ HD.out).mono ?_
                rintro e w' ⟨rfl, q, rfl⟩
                rw [HH.out, HDD.out]
                go_wp2_with fail
                refine (draw_yes b _ s.fs cut s.count s.dead _ (HD.out.drewN _) (by omega) (by have := HF.out.count; omega) C5.out).mono ?_
                rintro e w2 ⟨rfl, hd2, hk2⟩
                have HD2 := Lib.hid hd2
                have HL1 := Lib.hid (show Laid w w2 b _ _ s.fs cut ((s.count : Int) + 1) s.dead from ⟨hd2, ((Keeps.refl _ _).drewN _).then hk2 (fun i hi e => Or.inl e), fun g h => Or.inl h⟩)
                clear hd2 hk2
                go_wp2_with fail
                refine (dlay_any b _ s.fs cut ((s.count : Int) + 1) s.dead name ⟨#[]⟩ _ HD2.out (by have := HF.out.len; omega)).mono ?_
                rintro e w3 ⟨rfl, v3, hl3⟩
                have HL2 := Lib.hid (laid_lay (HL1.out.trans hl3 hbw))
                clear hl3
                go_wp2_with fail
                refine (dadds_any b v3 cut name x ⟨layF name ⟨#[]⟩ s.fs, s.count + 1, s.dead⟩ _ HL2.out.dsk (by show room name (layF name ⟨#[]⟩ s.fs) ≤ _; rw [room_lay]; exact HF.out.room name) (by show (bytesF name (layF name ⟨#[]⟩ s.fs)).size + x.size ≤ _; rw [(has_lay _ _ _).2]; show 0 + x.size ≤ _; omega) (by show s.count + 1 + x.size ≤ _; have := HF.out.count; omega)).mono ?_
                rintro e w4 ⟨rfl, v4, hl4⟩
                have HL4 := Lib.hid (HL2.out.trans hl4 hbw)
                clear hl4
                go_wp2_with fail
                go_ret
                exact ⟨rfl, v4, HL4.out⟩
            · rw [show putS cut name x s = (5, ⟨s.fs, s.count, true⟩) by unfold putS; rw [if_neg (by rw [HMAY.out]; decide), if_neg (by rw [HDD.out]; decide), if_neg (fun h => h.elim c2 (fun h => by omega)), if_pos (by simpa using c5)]]
              have c5' : rawB cut s.count s.dead = false := by simpa using c5
              have C5 := Lib.hid c5'
              clear c5 c5'
              go_enter Tryz.func19, Tryz.ntmps19
              go_wp2_with fail
              refine (dmay_any name _).mono ?_
              rintro e w' ⟨rfl, rfl⟩
              rw [HMAY.out]
              go_wp2_with fail
              refine (dhas_any b _ s.fs cut s.count s.dead name _ HD.out).mono ?_
              rintro e w' ⟨rfl, q, rfl⟩
              rw [HH.out, HDD.out]
              go_wp2_with fail
              refine (draw_no b _ s.fs cut s.count s.dead _ (HD.out.drewN _) C5.out).mono ?_
              rintro e w2 ⟨rfl, hd2, hk2⟩
              have HD2 := Lib.hid hd2
              have HK2 := Lib.hid hk2
              clear hd2 hk2
              go_wp2_with fail
              go_ret
              exact ⟨rfl, _, HD2.out, ((Keeps.refl _ _).drewN _).then HK2.out (fun i hi e => Or.inl e), fun g h => Or.inl h⟩
end DiskC
end Go.Proofs.YtpmbokklpidohaaGreatDoor
