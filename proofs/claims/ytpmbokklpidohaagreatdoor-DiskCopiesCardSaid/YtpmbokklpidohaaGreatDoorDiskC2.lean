/-
  Package disk's Put (its call is Append's text, turned).
-/
import Derived.Test.YtpmbokklpidohaaGreatDoorDiskC
namespace Go.Proofs.YtpmbokklpidohaaGreatDoor
open Go.RowKit Go.Maps
namespace DiskP
open DiskM DiskC ErrC

def putR (cut : Int) (name x : ByteArray) (s : DS) : Bool × DS :=
  if rawB cut s.count s.dead = false then (false, ⟨s.fs, s.count, true⟩) else if x.size = 0 then (true, ⟨layF name ⟨#[]⟩ s.fs, s.count + 1, s.dead⟩) else addsR cut name x ⟨layF name ⟨#[]⟩ s.fs, s.count + 1, s.dead⟩
theorem putS_eq (cut : Int) (name x : ByteArray) (s : DS) : putS cut name x s = if readyC name s.dead ≠ 0 then (readyC name s.dead, s) else if roomC name 0 x.size s.fs ≠ 0 then (4, s) else (code5 (putR cut name x s).1, (putR cut name x s).2) := by
  unfold putS
  by_cases h1 : mayB name = false
  · simp [readyC, h1]
  · by_cases h2 : s.dead = true
    · simp [readyC, h1, h2]
    · have hr0 : readyC name s.dead = 0 := by simp [readyC, h1, h2]
      by_cases h3 : 16777216 < x.size ∨ (hasF name s.fs = false ∧ 65536 ≤ s.fs.length)
      · have hm4 : roomC name 0 x.size s.fs = 4 := by unfold roomC; rw [if_pos (by simpa using h3)]
        rw [if_neg h1, if_neg h2, if_pos h3, if_neg (show ¬ (readyC name s.dead ≠ 0) from fun e => e hr0), if_pos (show roomC name 0 x.size s.fs ≠ 0 by rw [hm4]; decide)]
      · have hm0 : roomC name 0 x.size s.fs = 0 := by unfold roomC; rw [if_neg (by simpa using h3)]
        rw [if_neg h1, if_neg h2, if_neg h3, if_neg (show ¬ (readyC name s.dead ≠ 0) from fun e => e hr0), if_neg (show ¬ (roomC name 0 x.size s.fs ≠ 0) from fun e => e hm0)]
        unfold putR
        by_cases h4 : rawB cut s.count s.dead = false
        · rw [if_pos h4, if_pos h4]; rfl
        · rw [if_neg h4, if_neg h4]
          by_cases h5 : x.size = 0
          · rw [if_pos h5, if_pos h5]; rfl
          · rw [if_neg h5, if_neg h5]
/-- a file of nothing is laid -/
theorem Dsk.empty {B : Nat} {w : World} {b : Nat} {F : Nat → Prop} {cut : Int} {s : DS} {m : Nat} {D : DataW Unit} {vals : ByteArray → Value} {name : ByteArray} (h : Dsk B w b F cut s m D vals) (hn : name.size ≤ 128) (hlen : s.fs.length < maxLen) :
    ∃ w2 D' vals', (Instr.mapUpdate 41 (.map (some m)) (.string name) (.slice none 0 0)).run Tryz.prog w = .ok () w2 ∧ Dsk B w2 b F cut ⟨layF name ⟨#[]⟩ s.fs, s.count, s.dead⟩ m D' vals' ∧ w.grownBy w2 (some m) :=
  h.store F hn hlen (h.files.turn (S := fun _ => False) (Keeps.refl _ _) (fun e => e) (fun _ _ _ _ e => e) (fun _ e => e.elim) (fun _ e => e) h.files.lt) rfl (Nat.le_refl _) (Or.inl ⟨rfl, rfl⟩) (fun g e => by cases e) (Or.inl (Or.inl rfl)) (fun n g _ _ _ e => by cases e)
set_option maxHeartbeats 2000000 in
set_option maxRecDepth 100000 in
theorem put_body {B b m : Nat} {F : Nat → Prop} {cut : Int} {s : DS} {D : DataW Unit} {vals : ByteArray → Value} {w : World} (h : Dsk B w b F cut s m D vals) (p0 p1 p2 : Nat) (name x : ByteArray) (k0 : w.cell? ⟨p0, 0, none⟩ = some (.pointer (some ⟨b, 0, none⟩))) (k1 : w.cell? ⟨p1, 0, none⟩ = some (.string name)) (k2 : w.cell? ⟨p2, 0, none⟩ = some (.string x))
    (hp : ∀ p, p = p0 ∨ p = p1 ∨ p = p2 → ¬ F p) (hn : name.size ≤ 128) (hd : s.dead = false) (hm : room name s.fs ≤ 1048576) (hz : x.size ≤ 16777216) (hc : s.count + x.size ≤ 549772591104) :
    Calls Tryz.prog 48 #[.pointer (some ⟨p0, 0, none⟩), .pointer (some ⟨p1, 0, none⟩), .pointer (some ⟨p2, 0, none⟩)] w (AddE B F b cut (putR cut name x s) w) := by
  have hlen : s.fs.length < maxLen := by have := len_room name s.fs; unfold maxLen; omega
  by_cases hr : rawB cut s.count s.dead = false
  · rw [show putR cut name x s = (false, ⟨s.fs, s.count, true⟩) by simp [putR, hr]]
    have HSP := Lib.hid (spend_no h hr hd)
    have HD := Lib.hid h
    clear h hn hd hm hz hc hr hlen hp
    go_enter Tryz.func48, Tryz.ntmps48
    go_wp2_with fail
    refine HSP.out.mono ?_
    rintro e w1 ⟨rfl, hd1, hk1⟩
    have HD1 := Lib.hid hd1
    have HK1 := Lib.hid hk1; clear hd1 hk1
    go_wp2_with fail
    exact ⟨rfl, rfl, HD1.out.went (HK1.out.mono (fun i e => by rw [e]; exact HD.out.files.fb))⟩
  · have hrt : rawB cut s.count s.dead = true := by simpa using hr
    have HSP := Lib.hid (spend_yes h hrt (by omega))
    have hfb := h.files.fb
    have HFM := Lib.hid h.files.fm
    have HP := Lib.hid hp
    have HLT := Lib.hid hlen
    have HFB := Lib.hid hfb
    have HBD : Hid (room name s.fs ≤ 1048576 ∧ x.size ≤ 16777216 ∧ s.count + x.size ≤ 549772591104 ∧ s.dead = false) := Lib.hid ⟨hm, hz, hc, hd⟩
    have HD := Lib.hid h
    clear h hd hm hz hc hlen hfb hp
    have step : ∀ w1, Dsk B w1 b F cut ⟨s.fs, s.count + 1, s.dead⟩ m D vals → Keeps (· = b) w w1 → ∃ w2 D' vals', (Instr.mapUpdate 41 (.map (some m)) (.string name) (.slice none 0 0)).run Tryz.prog w1.drew = .ok () w2 ∧ Dsk B w2 b F cut ⟨layF name ⟨#[]⟩ s.fs, s.count + 1, s.dead⟩ m D' vals' ∧ Keeps F w w2 ∧
        w1.drew.cell? ⟨p0, 0, none⟩ = some (.pointer (some ⟨b, 0, none⟩)) ∧ w1.drew.cell? ⟨p1, 0, none⟩ = some (.string name) ∧ w2.cell? ⟨p0, 0, none⟩ = some (.pointer (some ⟨b, 0, none⟩)) ∧ w2.cell? ⟨p1, 0, none⟩ = some (.string name) ∧ w2.cell? ⟨p2, 0, none⟩ = some (.string x) ∧ w2.cell? ⟨b, 0, none⟩ = some (.map (some m)) ∧ w1.drew.cell? ⟨b, 0, none⟩ = some (.map (some m)) := by
      intro w1 h1 hk
      have h2 : Dsk B w1.drew b F cut ⟨s.fs, s.count + 1, s.dead⟩ m D vals := h1.drewN 1
      obtain ⟨w2, D', vals', hrun, h3, hg⟩ := h2.empty hn HLT.out
      have hk1 : Keeps F w w1.drew := (hk.mono (fun i e => by rw [e]; exact HFB.out)).drewN 1
      have hk2 : Keeps F w w2 := hk1.trans ((keeps_of_grown hg).mono (fun i hi => by cases hi; exact HFM.out))
      have ck : ∀ w', Keeps F w w' → ∀ p u, (p = p0 ∨ p = p1 ∨ p = p2) → w.cell? ⟨p, 0, none⟩ = some u → w'.cell? ⟨p, 0, none⟩ = some u := fun w' k p u hp hu =>
        (World.cell?_of_block (a := ⟨p, 0, none⟩) (k.block p (World.block_lt_of_cell? _ _ hu) (HP.out p hp))).trans hu
      exact ⟨w2, D', vals', hrun, h3, hk2, ck _ hk1 _ _ (Or.inl rfl) k0, ck _ hk1 _ _ (Or.inr (Or.inl rfl)) k1, ck _ hk2 _ _ (Or.inl rfl) k0, ck _ hk2 _ _ (Or.inr (Or.inl rfl)) k1, ck _ hk2 _ _ (Or.inr (Or.inr rfl)) k2, h3.c0, h2.c0⟩
    have HST := Lib.hid step; clear step
    by_cases hx : x.size = 0
    · rw [show putR cut name x s = (true, ⟨layF name ⟨#[]⟩ s.fs, s.count + 1, s.dead⟩) by simp [putR, hrt, hx]]
      have hem := no_name hx
      clear hx hr hrt
      go_enter Tryz.func48, Tryz.ntmps48
      go_wp2_with fail
      refine HSP.out.mono ?_
      rintro e w1 ⟨rfl, hd1, hk1⟩
      obtain ⟨w2, D', vals', hup, h3, hk2, e0, e1, f0, f1, f2, fb, eb⟩ := HST.out w1 hd1 hk1
      have H3 := Lib.hid h3
      have HK2 := Lib.hid hk2
      clear hd1 hk1 h3 hk2 k0 k1 k2
      go_wp2_with fail
      go_region_held3 (fun w' => w'.cell? ⟨p0, 0, none⟩ = some (.pointer (some ⟨b, 0, none⟩)) ∧ w'.cell? ⟨p1, 0, none⟩ = some (.string name) ∧ w'.cell? ⟨b, 0, none⟩ = some (.map (some m))) (first | exact ⟨e0, e1, eb⟩ | exact ⟨f0, f1, fb⟩) (fail)
      go_wp2_with fail
      go_end0
      exact ⟨rfl, H3.out.went HK2.out⟩
    · rw [show putR cut name x s = addsR cut name x ⟨layF name ⟨#[]⟩ s.fs, s.count + 1, s.dead⟩ by simp [putR, hrt, hx]]
      have hem := a_name (n := x) (by omega)
      clear hx hr hrt
      go_enter Tryz.func48, Tryz.ntmps48
      go_wp2_with fail
      refine HSP.out.mono ?_
      rintro e w1 ⟨rfl, hd1, hk1⟩
      obtain ⟨w2, D', vals', hup, h3, hk2, e0, e1, f0, f1, f2, fb, eb⟩ := HST.out w1 hd1 hk1
      have H3 := Lib.hid h3
      have HK2 := Lib.hid hk2
      have HA := Lib.hid (add_any h3 name x hn HBD.out.2.2.2 (by show room name (layF _ _ _) ≤ _; rw [room_lay]; exact HBD.out.1) (by show (bytesF name (layF _ _ _)).size + _ ≤ _; rw [(has_lay _ _ _).2]; have := HBD.out.2.1; show 0 + x.size ≤ _; omega) (by have := HBD.out.2.2.1; show s.count + 1 + x.size ≤ _; omega))
      clear hd1 hk1 h3 hk2 k0 k1 k2
      generalize addsR cut name x ⟨layF name ⟨#[]⟩ s.fs, s.count + 1, s.dead⟩ = R at *
      obtain ⟨ok, s1⟩ := R
      go_wp2_with fail
      go_region_held3 (fun w' => w'.cell? ⟨p0, 0, none⟩ = some (.pointer (some ⟨b, 0, none⟩)) ∧ w'.cell? ⟨p1, 0, none⟩ = some (.string name) ∧ w'.cell? ⟨b, 0, none⟩ = some (.map (some m))) (first | exact ⟨e0, e1, eb⟩ | exact ⟨f0, f1, fb⟩) (fail)
      go_wp2_with fail
      refine HA.out.mono ?_
      rintro e w3 ⟨rfl, hw⟩
      have HW := Lib.hid hw
      clear hw HA
      cases ok
      · go_wp2_with fail
        exact ⟨rfl, rfl, Went.of H3.out HK2.out (fun _ h => Or.inl h) HW.out⟩
      · go_wp2_with fail
        go_end0
        exact ⟨rfl, Went.of H3.out HK2.out (fun _ h => Or.inl h) HW.out⟩
set_option maxHeartbeats 4000000 in
set_option maxRecDepth 100000 in
theorem put_any {B b m : Nat} {F : Nat → Prop} {cut : Int} {s : DS} {D : DataW Unit} {vals : ByteArray → Value} {w : World} (h : Dsk B w b F cut s m D vals) (name x : ByteArray) (hg : DiskC.Good s.fs) (hc : s.count ≤ 549755813888) :
    Calls Tryz.prog 18 #[.pointer (some ⟨b, 0, none⟩), .string name, .string x] w (DevE (IsP B) F b cut (putS cut name x s).1 name (putS cut name x s).2 w) := by
  have hb1 := box_below w 23 (.pointer (some ⟨b, 0, none⟩))
  have hb2 := box_below (box1 w 23 (.pointer (some ⟨b, 0, none⟩))) 9 (.string name)
  have hb3 := box_below (box1 (box1 w 23 (.pointer (some ⟨b, 0, none⟩))) 9 (.string name)) 9 (.string x)
  have c0 := box_at w 23 (.pointer (some ⟨b, 0, none⟩))
  have c1 := box_at (box1 w 23 (.pointer (some ⟨b, 0, none⟩))) 9 (.string name)
  have c2 := box_at (box1 (box1 w 23 (.pointer (some ⟨b, 0, none⟩))) 9 (.string name)) 9 (.string x)
  have z1 := box_size w 23 (.pointer (some ⟨b, 0, none⟩))
  have z2 := box_size (box1 w 23 (.pointer (some ⟨b, 0, none⟩))) 9 (.string name)
  rw [z1] at c1
  rw [z2, z1] at c2
  replace c1 := box_keep c1 9 (.string x)
  replace c0 := box_keep (box_keep c0 9 (.string name)) 9 (.string x)
  have hb : Below w.heap.size w (box1 (box1 (box1 w 23 (.pointer (some ⟨b, 0, none⟩))) 9 (.string name)) 9 (.string x)) := (hb1.trans (hb2.mono hb1.size)).trans (hb3.mono (hb1.trans (hb2.mono hb1.size)).size)
  have HLTF := Lib.hid h.files.lt
  have HD := Lib.hid (h.below hb)
  have HB := Lib.hid hb
  clear hb1 hb2 hb3 z1 z2 hb h
  have hw3 : box1 (box1 (box1 w 23 (.pointer (some ⟨b, 0, none⟩))) 9 (.string name)) 9 (.string x) = ((w.alloc (.cells #[.pointer (some ⟨b, 0, none⟩)] 23)).alloc (.cells #[.string name] 9)).alloc (.cells #[.string x] 9) := rfl
  generalize box1 (box1 (box1 w 23 (.pointer (some ⟨b, 0, none⟩))) 9 (.string name)) 9 (.string x) = w3 at *
  rw [putS_eq]
  have HR := Lib.hid (ready1 b m s.dead name w3 HD.out.c0 HD.out.c3)
  by_cases hr : readyC name s.dead = 0
  · rw [if_neg (fun e => e hr)]
    obtain ⟨hn, hdead⟩ := readyC_zero hr
    have HRC := Lib.hid hr; clear hr
    by_cases hrm : roomC name 0 x.size s.fs = 0
    · rw [if_neg (fun e => e hrm)]
      obtain ⟨hz, hroom⟩ := roomC_zero hrm hg.1
      have HRM := Lib.hid hrm
      have HBD : Hid (room name s.fs ≤ 1048576 ∧ x.size ≤ 16777216 ∧ s.count + x.size ≤ 549772591104 ∧ s.dead = false) := Lib.hid ⟨hroom, by omega, by omega, hdead⟩
      clear hrm hg hc hdead hz hroom
      go_enter Tryz.func18, Tryz.ntmps18
      go_wp2_with fail
      rw [← hw3]
      refine HR.out.mono ?_
      rintro e w4 ⟨ev, rfl, he, hb4⟩
      obtain rfl := nil_ev HRC.out he
      have HD4 := Lib.hid (HD.out.below hb4)
      have HB4 := Lib.hid (HB.out.trans (hb4.mono HB.out.size))
      have k0 := below_keep hb4 c0
      have k1 := below_keep hb4 c1
      have k2 := below_keep hb4 c2
      have k3 := HD4.out.c0
      clear he hb4 c0 c1 c2 hw3 HD HR
      generalize hq : w.heap.size = q at *
      have HRO := Lib.hid (room_any HD4.out name 0 x.size hn (Nat.zero_le _))
      go_wp2_with fail
      refine HRO.out.mono ?_
      rintro e w5 ⟨ev, rfl, he, hb5⟩
      obtain rfl := nil_ev HRM.out he
      have d0 := below_keep hb5 k0
      have d1 := below_keep hb5 k1
      have d2 := below_keep hb5 k2
      have d3 := below_keep hb5 k3
      have HB5 := Lib.hid hb5
      clear he hb5
      have HD5 := Lib.hid (HD4.out.below HB5.out)
      have hbB : Below w.heap.size w w5 := by
        rw [hq]
        exact HB4.out.trans (HB5.out.mono (by have := HB4.out.size; rw [hq] at this; exact this))
      have HBB := Lib.hid hbB; clear hbB
      have HBODY := Lib.hid (put_body (HD5.out.below (poweredW_below name w5)) q (q + 1) (q + 1 + 1) name x (below_keep (poweredW_below name w5) d0) (below_keep (poweredW_below name w5) d1) (below_keep (poweredW_below name w5) d2) (fun p hp hF => by have := HLTF.out p hF; omega) hn HBD.out.2.2.2 HBD.out.1 HBD.out.2.1 HBD.out.2.2.1)
      have hcf : ∀ w : World, (callFunc 48 #[.pointer (some ⟨q, 0, none⟩), .pointer (some ⟨q + 1, 0, none⟩), .pointer (some ⟨q + 1 + 1, 0, none⟩)]).run Tryz.prog w = .ok (.enter 48 #[.pointer (some ⟨q, 0, none⟩), .pointer (some ⟨q + 1, 0, none⟩), .pointer (some ⟨q + 1 + 1, 0, none⟩)]) w := fun w => by simp [go_sem]
      have HCF := Lib.hid hcf; clear hcf
      have hmf : ∀ (fn : Fn) (first cap : Array Value) (w : World), (Instr.makeFunc fn first cap).run Tryz.prog w = .ok (.func fn first cap) w := fun _ _ _ _ => rfl
      clear hq
      go_wp2_with fail
      refine (powered_any HD5.out name _ _ (putR cut name x s).1 HCF.out HBODY.out).mono ?_
      rintro e w6 ⟨ev, rfl, he, hw⟩
      have HE := Lib.hid he
      have HW := Lib.hid hw
      clear he hw
      go_wp2_with fail
      go_ret
      exact devE_of HE.out HW.out HBB.out
    · rw [if_pos hrm]
      have HRM := Lib.hid hrm; clear hrm
      clear hg hc hdead
      go_enter Tryz.func18, Tryz.ntmps18
      go_wp2_with fail
      rw [← hw3]
      refine HR.out.mono ?_
      rintro e w4 ⟨ev, rfl, he, hb4⟩
      obtain rfl := nil_ev HRC.out he
      have HD4 := Lib.hid (HD.out.below hb4)
      have HB4 := Lib.hid (HB.out.trans (hb4.mono HB.out.size))
      have k0 := below_keep hb4 c0
      have k1 := below_keep hb4 c1
      have k2 := below_keep hb4 c2
      have k3 := HD4.out.c0
      clear he hb4 c0 c1 c2 hw3 HD HR
      generalize hq : w.heap.size = q at *
      have HRO := Lib.hid (room_any HD4.out name 0 x.size hn (Nat.zero_le _))
      go_wp2_with fail
      refine HRO.out.mono ?_
      rintro e w5 ⟨ev, rfl, he, hb5⟩
      obtain ⟨f5, rfl⟩ := err_ev HRM.out he
      have d0 := below_keep hb5 k0
      have d1 := below_keep hb5 k1
      have d2 := below_keep hb5 k2
      have d3 := below_keep hb5 k3
      have HE5 := Lib.hid he
      have HB5 := Lib.hid hb5
      clear he hb5
      go_wp2_with fail
      go_ret
      rw [show roomC name 0 x.size s.fs = 4 from roomC_ne HRM.out] at HE5
      refine devE_err HD4.out HE5.out HB5.out ?_
      rw [hq]
      exact HB4.out
  · rw [if_pos hr]
    have HRC := Lib.hid hr; clear hr
    go_enter Tryz.func18, Tryz.ntmps18
    go_wp2_with fail
    rw [← hw3]
    refine HR.out.mono ?_
    rintro e w4 ⟨ev, rfl, he, hb4⟩
    obtain ⟨f, rfl⟩ := err_ev HRC.out he
    have HE := Lib.hid he
    have HB4 := Lib.hid hb4; clear he hb4
    go_wp2_with fail
    go_ret
    exact devE_err HD.out HE.out HB4.out HB.out
end DiskP
end Go.Proofs.YtpmbokklpidohaaGreatDoor
