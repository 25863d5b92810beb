/-
  Package disk's Append.
  Package disk's Put (its call is Append's text, turned).
  Package disk's Remove.
  Package disk's Trunc (wip/gen/trunc.py writes this text).
  Package disk's Rename (wip/gen/trunc.py writes this text).
  Package disk's Read, Size, Has, Dead, Writes, Restart, New.
  Package disk's Names: the map's keys, sorted.
-/
import Derived.Test.YtfbdhlpgklkjmaaGreatDoorDiskQ
import Derived.Laws.BytesArg
import Derived.Test.YtfbdhlpgklkjmaaGreatDoorSortLay
import Derived.Sort.KeysCollected
import Derived.Sort.OwnSorted
namespace Go.Proofs.YtfbdhlpgklkjmaaGreatDoor
open Go.RowKit Go.Maps
namespace DiskP
open DiskM DiskC ErrC

def IsP (B : Nat) (w : World) (b : Nat) (F : Nat → Prop) (cut : Int) (s : DS) : Prop := ∃ m D vals, Dsk B w b F cut s m D vals
theorem Went.lift {B b : Nat} {F : Nat → Prop} {cut : Int} {s : DS} {w w1 w2 : World} (h : Went B F b cut s w1 w2) (hb : Below w.heap.size w w1) : Went B F b cut s w w2 := by
  obtain ⟨F2, m2, D2, vals2, h1, h2⟩ := h.is
  exact ⟨⟨F2, m2, D2, vals2, h1, fun i hi => (h2 i hi).imp id (fun h => Nat.le_trans hb.size h)⟩, (Keeps.of_below hb).trans h.keeps⟩
theorem devE_of {B b c : Nat} {F : Nat → Prop} {cut : Int} {s : DS} {t : ByteArray} {w w1 w2 : World} {ev : Value} (hd : DErr w1 w2 ev c t) (h : Went B F b cut s w1 w2) (hb : Below w.heap.size w w1) : DevE (IsP B) F b cut c t s w (.returned ev) w2 := by
  have h' := h.lift hb
  obtain ⟨F', m, D, vals, hD, hF⟩ := h'.is
  exact ⟨ev, F', rfl, DErr.from hd hb.size, ⟨m, D, vals, hD⟩, h'.keeps, hF⟩
theorem devE_err {B b c m : Nat} {F : Nat → Prop} {cut : Int} {s : DS} {D : DataW Unit} {vals : ByteArray → Value} {t : ByteArray} {w w1 w2 : World} {ev : Value} (hD : Dsk B w1 b F cut s m D vals) (hd : DErr w1 w2 ev c t) (h : Below w1.heap.size w1 w2) (hb : Below w.heap.size w w1) : DevE (IsP B) F b cut c t s w (.returned ev) w2 :=
  devE_of hd ((hD.below h).went (Keeps.of_below h)) hb
/-- the blocks in which a call's parameters lie that a closure takes -/
def box1 (w : World) (t : TypeId) (u : Value) : World := w.alloc (.cells #[u] t)
theorem box_below (w : World) (t : TypeId) (u : Value) : Below w.heap.size w (box1 w t u) := (Below.refl _ _).alloc (Nat.le_refl _) _
theorem box_at (w : World) (t : TypeId) (u : Value) : (box1 w t u).cell? ⟨w.heap.size, 0, none⟩ = some u := by
  unfold box1
  rw [World.cell?_alloc_at _ _ _ _ rfl]; rfl
theorem box_size (w : World) (t : TypeId) (u : Value) : (box1 w t u).heap.size = w.heap.size + 1 := by simp [box1]
theorem box_keep {w : World} {p : Addr} {u : Value} (h : w.cell? p = some u) (t : TypeId) (v : Value) : (box1 w t v).cell? p = some u := (World.cell?_alloc_lt w _ p (World.block_lt_of_cell? _ _ h)).trans h
theorem below_keep {w w' : World} (hb : Below w.heap.size w w') {p : Addr} {u : Value} (h : w.cell? p = some u) : w'.cell? p = some u := by rw [hb.cell (World.block_lt_of_cell? _ _ h)]; exact h

theorem appendS_eq (cut : Int) (name x : ByteArray) (s : DS) : appendS cut name x s = if readyC name s.dead ≠ 0 then (readyC name s.dead, s) else if roomC name (bytesF name s.fs).size x.size s.fs ≠ 0 then (4, s) else (code5 (addsR cut name x s).1, (addsR cut name x s).2) := by
  unfold appendS readyC roomC
  by_cases h1 : mayB name = false
  · simp [h1]
  · by_cases h2 : s.dead = true
    · simp [h1, h2]
    · by_cases h3 : 16777216 < (bytesF name s.fs).size + x.size ∨ (hasF name s.fs = false ∧ 65536 ≤ s.fs.length)
      · simp [h1, h2, h3]
      · simp [h1, h2, h3]
theorem readyC_zero {name : ByteArray} {dead : Bool} (h : readyC name dead = 0) : name.size ≤ 128 ∧ dead = false := by
  rcases readyC_cases name dead with ⟨h1, -⟩ | ⟨h1, -⟩ | ⟨h1, -⟩ | ⟨h1, h2, -, h3⟩
  · rw [h1] at h; cases h
  · rw [h1] at h; cases h
  · rw [h1] at h; cases h
  · exact ⟨h3, h2⟩
theorem err_ev {w w1 : World} {ev : Value} {c : Nat} {t : ByteArray} (hc : c ≠ 0) (h : DErr w w1 ev c t) : ∃ f, ev = .iface 84 (.pointer (some ⟨f, 0, none⟩)) := by
  rcases h with ⟨h0, -⟩ | ⟨-, f, rfl, -⟩
  · exact absurd h0 hc
  · exact ⟨f, rfl⟩
theorem nil_ev {w w1 : World} {ev : Value} {c : Nat} {t : ByteArray} (hc : c = 0) (h : DErr w w1 ev c t) : ev = .nilIface := by
  rcases h with ⟨-, h0⟩ | ⟨h0, -⟩
  · exact h0
  · exact absurd hc h0
theorem roomC_zero {name : ByteArray} {stay more : Nat} {fs : FL} (h : roomC name stay more fs = 0) (hl : fs.length ≤ 65536) : stay + more ≤ 16777216 ∧ room name fs ≤ 1048576 := by
  unfold roomC at h
  split at h
  · cases h
  · rename_i hn
    exact ⟨by omega, by unfold room; split <;> omega⟩
theorem roomC_ne {name : ByteArray} {stay more : Nat} {fs : FL} (h : ¬ roomC name stay more fs = 0) : roomC name stay more fs = 4 := by
  unfold roomC at h ⊢
  split
  · rfl
  · rename_i hn; rw [if_neg hn] at h; exact absurd rfl h
theorem below_drew1 (w : World) (q : Nat) : Below q w (w.drewN 1) := ⟨rfl, rfl, rfl, Nat.le_refl _, fun _ _ => rfl⟩
end DiskP
end Go.Proofs.YtfbdhlpgklkjmaaGreatDoor
namespace Go.Proofs.YtfbdhlpgklkjmaaGreatDoor
open Go.RowKit Go.Maps
namespace DiskP
open DiskM DiskC ErrC

def putR (cut : Int) (name x : ByteArray) (s : DS) : Bool × DS :=
  if rawB cut s.count s.dead = false then (false, ⟨s.fs, s.count, true⟩) else if x.size = 0 then (true, ⟨layF name ⟨#[]⟩ s.fs, s.count + 1, s.dead⟩) else addsR cut name x ⟨layF name ⟨#[]⟩ s.fs, s.count + 1, s.dead⟩
theorem putS_eq (cut : Int) (name x : ByteArray) (s : DS) : putS cut name x s = if readyC name s.dead ≠ 0 then (readyC name s.dead, s) else if roomC name 0 x.size s.fs ≠ 0 then (4, s) else (code5 (putR cut name x s).1, (putR cut name x s).2) := by
  unfold putS
  by_cases h1 : mayB name = false
  · simp [readyC, h1]
  · by_cases h2 : s.dead = true
    · simp [readyC, h1, h2]
    · have hr0 : readyC name s.dead = 0 := by simp [readyC, h1, h2]
      by_cases h3 : 16777216 < x.size ∨ (hasF name s.fs = false ∧ 65536 ≤ s.fs.length)
      · have hm4 : roomC name 0 x.size s.fs = 4 := by unfold roomC; rw [if_pos (by simpa using h3)]
        rw [if_neg h1, if_neg h2, if_pos h3, if_neg (show ¬ (readyC name s.dead ≠ 0) from fun e => e hr0), if_pos (show roomC name 0 x.size s.fs ≠ 0 by rw [hm4]; decide)]
      · have hm0 : roomC name 0 x.size s.fs = 0 := by unfold roomC; rw [if_neg (by simpa using h3)]
        rw [if_neg h1, if_neg h2, if_neg h3, if_neg (show ¬ (readyC name s.dead ≠ 0) from fun e => e hr0), if_neg (show ¬ (roomC name 0 x.size s.fs ≠ 0) from fun e => e hm0)]
        unfold putR
        by_cases h4 : rawB cut s.count s.dead = false
        · rw [if_pos h4, if_pos h4]; rfl
        · rw [if_neg h4, if_neg h4]
          by_cases h5 : x.size = 0
          · rw [if_pos h5, if_pos h5]; rfl
          · rw [if_neg h5, if_neg h5]
/-- a file of nothing is laid -/
theorem Dsk.empty {B : Nat} {w : World} {b : Nat} {F : Nat → Prop} {cut : Int} {s : DS} {m : Nat} {D : DataW Unit} {vals : ByteArray → Value} {name : ByteArray} (h : Dsk B w b F cut s m D vals) (hn : name.size ≤ 128) (hlen : s.fs.length < maxLen) :
    ∃ w2 D' vals', (Instr.mapUpdate 55 (.map (some m)) (.string name) (.slice none 0 0)).run Tryz.prog w = .ok () w2 ∧ Dsk B w2 b F cut ⟨layF name ⟨#[]⟩ s.fs, s.count, s.dead⟩ m D' vals' ∧ w.grownBy w2 (some m) :=
  h.store F hn hlen (h.files.turn (S := fun _ => False) (Keeps.refl _ _) (fun e => e) (fun _ _ _ _ e => e) (fun _ e => e.elim) (fun _ e => e) h.files.lt) rfl (Nat.le_refl _) (Or.inl ⟨rfl, rfl⟩) (fun g e => by cases e) (Or.inl (Or.inl rfl)) (fun n g _ _ _ e => by cases e)
set_option maxHeartbeats 2000000 in
set_option maxRecDepth 100000 in
theorem put_body {B b m : Nat} {F : Nat → Prop} {cut : Int} {s : DS} {D : DataW Unit} {vals : ByteArray → Value} {w : World} (h : Dsk B w b F cut s m D vals) (p0 p1 p2 : Nat) (name x : ByteArray) (k0 : w.cell? ⟨p0, 0, none⟩ = some (.pointer (some ⟨b, 0, none⟩))) (k1 : w.cell? ⟨p1, 0, none⟩ = some (.string name)) (k2 : w.cell? ⟨p2, 0, none⟩ = some (.string x))
    (hp : ∀ p, p = p0 ∨ p = p1 ∨ p = p2 → ¬ F p) (hn : name.size ≤ 128) (hd : s.dead = false) (hm : room name s.fs ≤ 1048576) (hz : x.size ≤ 16777216) (hc : s.count + x.size ≤ 549772591104) :
    Calls Tryz.prog 67 #[.pointer (some ⟨p0, 0, none⟩), .pointer (some ⟨p1, 0, none⟩), .pointer (some ⟨p2, 0, none⟩)] w (AddE B F b cut (putR cut name x s) w) := by
  have hlen : s.fs.length < maxLen := by have := len_room name s.fs; unfold maxLen; omega
  by_cases hr : rawB cut s.count s.dead = false
  · rw [show putR cut name x s = (false, ⟨s.fs, s.count, true⟩) by simp [putR, hr]]
    have HSP := Lib.hid (spend_no h hr hd)
    have HD := Lib.hid h
    clear h hn hd hm hz hc hr hlen hp
    go_enter Tryz.func67, Tryz.ntmps67
    go_wp2_with fail
    refine HSP.out.mono ?_
    rintro e w1 ⟨rfl, hd1, hk1⟩
    have HD1 := Lib.hid hd1
    have HK1 := Lib.hid hk1; clear hd1 hk1
    go_wp2_with fail
    exact ⟨rfl, rfl, HD1.out.went (HK1.out.mono (fun i e => by rw [e]; exact HD.out.files.fb))⟩
  · have hrt : rawB cut s.count s.dead = true := by simpa using hr
    have HSP := Lib.hid (spend_yes h hrt (by omega))
    have hfb := h.files.fb
    have HFM := Lib.hid h.files.fm
    have HP := Lib.hid hp
    have HLT := Lib.hid hlen
    have HFB := Lib.hid hfb
    have HBD : Hid (room name s.fs ≤ 1048576 ∧ x.size ≤ 16777216 ∧ s.count + x.size ≤ 549772591104 ∧ s.dead = false) := Lib.hid ⟨hm, hz, hc, hd⟩
    have HD := Lib.hid h
    clear h hd hm hz hc hlen hfb hp
    have step : ∀ w1, Dsk B w1 b F cut ⟨s.fs, s.count + 1, s.dead⟩ m D vals → Keeps (· = b) w w1 → ∃ w2 D' vals', (Instr.mapUpdate 55 (.map (some m)) (.string name) (.slice none 0 0)).run Tryz.prog w1.drew = .ok () w2 ∧ Dsk B w2 b F cut ⟨layF name ⟨#[]⟩ s.fs, s.count + 1, s.dead⟩ m D' vals' ∧ Keeps F w w2 ∧
        w1.drew.cell? ⟨p0, 0, none⟩ = some (.pointer (some ⟨b, 0, none⟩)) ∧ w1.drew.cell? ⟨p1, 0, none⟩ = some (.string name) ∧ w2.cell? ⟨p0, 0, none⟩ = some (.pointer (some ⟨b, 0, none⟩)) ∧ w2.cell? ⟨p1, 0, none⟩ = some (.string name) ∧ w2.cell? ⟨p2, 0, none⟩ = some (.string x) ∧ w2.cell? ⟨b, 0, none⟩ = some (.map (some m)) ∧ w1.drew.cell? ⟨b, 0, none⟩ = some (.map (some m)) := by
      intro w1 h1 hk
      have h2 : Dsk B w1.drew b F cut ⟨s.fs, s.count + 1, s.dead⟩ m D vals := h1.drewN 1
      obtain ⟨w2, D', vals', hrun, h3, hg⟩ := h2.empty hn HLT.out
      have hk1 : Keeps F w w1.drew := (hk.mono (fun i e => by rw [e]; exact HFB.out)).drewN 1
      have hk2 : Keeps F w w2 := hk1.trans ((keeps_of_grown hg).mono (fun i hi => by cases hi; exact HFM.out))
      have ck : ∀ w', Keeps F w w' → ∀ p u, (p = p0 ∨ p = p1 ∨ p = p2) → w.cell? ⟨p, 0, none⟩ = some u → w'.cell? ⟨p, 0, none⟩ = some u := fun w' k p u hp hu =>
        (World.cell?_of_block (a := ⟨p, 0, none⟩) (k.block p (World.block_lt_of_cell? _ _ hu) (HP.out p hp))).trans hu
      exact ⟨w2, D', vals', hrun, h3, hk2, ck _ hk1 _ _ (Or.inl rfl) k0, ck _ hk1 _ _ (Or.inr (Or.inl rfl)) k1, ck _ hk2 _ _ (Or.inl rfl) k0, ck _ hk2 _ _ (Or.inr (Or.inl rfl)) k1, ck _ hk2 _ _ (Or.inr (Or.inr rfl)) k2, h3.c0, h2.c0⟩
    have HST := Lib.hid step; clear step
    by_cases hx : x.size = 0
    · rw [show putR cut name x s = (true, ⟨layF name ⟨#[]⟩ s.fs, s.count + 1, s.dead⟩) by simp [putR, hrt, hx]]
      have hem := no_name hx
      clear hx hr hrt
      go_enter Tryz.func67, Tryz.ntmps67
      go_wp2_with fail
      refine HSP.out.mono ?_
      rintro e w1 ⟨rfl, hd1, hk1⟩
      obtain ⟨w2, D', vals', hup, h3, hk2, e0, e1, f0, f1, f2, fb, eb⟩ := HST.out w1 hd1 hk1
      have H3 := Lib.hid h3
      have HK2 := Lib.hid hk2
      clear hd1 hk1 h3 hk2 k0 k1 k2
      go_wp2_with fail
      go_region_held3 (fun w' => w'.cell? ⟨p0, 0, none⟩ = some (.pointer (some ⟨b, 0, none⟩)) ∧ w'.cell? ⟨p1, 0, none⟩ = some (.string name) ∧ w'.cell? ⟨b, 0, none⟩ = some (.map (some m))) (first | exact ⟨e0, e1, eb⟩ | exact ⟨f0, f1, fb⟩) (fail)
      go_wp2_with fail
      go_end0
      exact ⟨rfl, H3.out.went HK2.out⟩
    · rw [show putR cut name x s = addsR cut name x ⟨layF name ⟨#[]⟩ s.fs, s.count + 1, s.dead⟩ by simp [putR, hrt, hx]]
      have hem := a_name (n := x) (by omega)
      clear hx hr hrt
      go_enter Tryz.func67, Tryz.ntmps67
      go_wp2_with fail
      refine HSP.out.mono ?_
      rintro e w1 ⟨rfl, hd1, hk1⟩
      obtain ⟨w2, D', vals', hup, h3, hk2, e0, e1, f0, f1, f2, fb, eb⟩ := HST.out w1 hd1 hk1
      have H3 := Lib.hid h3
      have HK2 := Lib.hid hk2
      have HA := Lib.hid (add_any h3 name x hn HBD.out.2.2.2 (by show room name (layF _ _ _) ≤ _; rw [room_lay]; exact HBD.out.1) (by show (bytesF name (layF _ _ _)).size + _ ≤ _; rw [(has_lay _ _ _).2]; have := HBD.out.2.1; show 0 + x.size ≤ _; omega) (by have := HBD.out.2.2.1; show s.count + 1 + x.size ≤ _; omega))
      clear hd1 hk1 h3 hk2 k0 k1 k2
      generalize addsR cut name x ⟨layF name ⟨#[]⟩ s.fs, s.count + 1, s.dead⟩ = R at *
      obtain ⟨ok, s1⟩ := R
      go_wp2_with fail
      go_region_held3 (fun w' => w'.cell? ⟨p0, 0, none⟩ = some (.pointer (some ⟨b, 0, none⟩)) ∧ w'.cell? ⟨p1, 0, none⟩ = some (.string name) ∧ w'.cell? ⟨b, 0, none⟩ = some (.map (some m))) (first | exact ⟨e0, e1, eb⟩ | exact ⟨f0, f1, fb⟩) (fail)
      go_wp2_with fail
      refine HA.out.mono ?_
      rintro e w3 ⟨rfl, hw⟩
      have HW := Lib.hid hw
      clear hw HA
      cases ok
      · go_wp2_with fail
        exact ⟨rfl, rfl, Went.of H3.out HK2.out (fun _ h => Or.inl h) HW.out⟩
      · go_wp2_with fail
        go_end0
        exact ⟨rfl, Went.of H3.out HK2.out (fun _ h => Or.inl h) HW.out⟩
set_option maxHeartbeats 4000000 in
set_option maxRecDepth 100000 in
theorem put_any {B b m : Nat} {F : Nat → Prop} {cut : Int} {s : DS} {D : DataW Unit} {vals : ByteArray → Value} {w : World} (h : Dsk B w b F cut s m D vals) (name x : ByteArray) (hg : DiskC.Good s.fs) (hc : s.count ≤ 549755813888) :
    Calls Tryz.prog 47 #[.pointer (some ⟨b, 0, none⟩), .string name, .string x] w (DevE (IsP B) F b cut (putS cut name x s).1 name (putS cut name x s).2 w) := by
  have hb1 := box_below w 24 (.pointer (some ⟨b, 0, none⟩))
  have hb2 := box_below (box1 w 24 (.pointer (some ⟨b, 0, none⟩))) 9 (.string name)
  have hb3 := box_below (box1 (box1 w 24 (.pointer (some ⟨b, 0, none⟩))) 9 (.string name)) 9 (.string x)
  have c0 := box_at w 24 (.pointer (some ⟨b, 0, none⟩))
  have c1 := box_at (box1 w 24 (.pointer (some ⟨b, 0, none⟩))) 9 (.string name)
  have c2 := box_at (box1 (box1 w 24 (.pointer (some ⟨b, 0, none⟩))) 9 (.string name)) 9 (.string x)
  have z1 := box_size w 24 (.pointer (some ⟨b, 0, none⟩))
  have z2 := box_size (box1 w 24 (.pointer (some ⟨b, 0, none⟩))) 9 (.string name)
  rw [z1] at c1
  rw [z2, z1] at c2
  replace c1 := box_keep c1 9 (.string x)
  replace c0 := box_keep (box_keep c0 9 (.string name)) 9 (.string x)
  have hb : Below w.heap.size w (box1 (box1 (box1 w 24 (.pointer (some ⟨b, 0, none⟩))) 9 (.string name)) 9 (.string x)) := (hb1.trans (hb2.mono hb1.size)).trans (hb3.mono (hb1.trans (hb2.mono hb1.size)).size)
  have HLTF := Lib.hid h.files.lt
  have HD := Lib.hid (h.below hb)
  have HB := Lib.hid hb
  clear hb1 hb2 hb3 z1 z2 hb h
  have hw3 : box1 (box1 (box1 w 24 (.pointer (some ⟨b, 0, none⟩))) 9 (.string name)) 9 (.string x) = ((w.alloc (.cells #[.pointer (some ⟨b, 0, none⟩)] 24)).alloc (.cells #[.string name] 9)).alloc (.cells #[.string x] 9) := rfl
  generalize box1 (box1 (box1 w 24 (.pointer (some ⟨b, 0, none⟩))) 9 (.string name)) 9 (.string x) = w3 at *
  rw [putS_eq]
  have HR := Lib.hid (ready1 b m s.dead name w3 HD.out.c0 HD.out.c3)
  by_cases hr : readyC name s.dead = 0
  · rw [if_neg (fun e => e hr)]
    obtain ⟨hn, hdead⟩ := readyC_zero hr
    have HRC := Lib.hid hr; clear hr
    by_cases hrm : roomC name 0 x.size s.fs = 0
    · rw [if_neg (fun e => e hrm)]
      obtain ⟨hz, hroom⟩ := roomC_zero hrm hg.1
      have HRM := Lib.hid hrm
      have HBD : Hid (room name s.fs ≤ 1048576 ∧ x.size ≤ 16777216 ∧ s.count + x.size ≤ 549772591104 ∧ s.dead = false) := Lib.hid ⟨hroom, by omega, by omega, hdead⟩
      clear hrm hg hc hdead hz hroom
      go_enter Tryz.func47, Tryz.ntmps47
      go_wp2_with fail
      rw [← hw3]
      refine HR.out.mono ?_
      rintro e w4 ⟨ev, rfl, he, hb4⟩
      obtain rfl := nil_ev HRC.out he
      have HD4 := Lib.hid (HD.out.below hb4)
      have HB4 := Lib.hid (HB.out.trans (hb4.mono HB.out.size))
      have k0 := below_keep hb4 c0
      have k1 := below_keep hb4 c1
      have k2 := below_keep hb4 c2
      have k3 := HD4.out.c0
      clear he hb4 c0 c1 c2 hw3 HD HR
      generalize hq : w.heap.size = q at *
      have HRO := Lib.hid (room_any HD4.out name 0 x.size hn (Nat.zero_le _))
      go_wp2_with fail
      refine HRO.out.mono ?_
      rintro e w5 ⟨ev, rfl, he, hb5⟩
      obtain rfl := nil_ev HRM.out he
      have d0 := below_keep hb5 k0
      have d1 := below_keep hb5 k1
      have d2 := below_keep hb5 k2
      have d3 := below_keep hb5 k3
      have HB5 := Lib.hid hb5
      clear he hb5
      have HD5 := Lib.hid (HD4.out.below HB5.out)
      have hbB : Below w.heap.size w w5 := by
        rw [hq]
        exact HB4.out.trans (HB5.out.mono (by have := HB4.out.size; rw [hq] at this; exact this))
      have HBB := Lib.hid hbB; clear hbB
      have HBODY := Lib.hid (put_body (HD5.out.below (poweredW_below name w5)) q (q + 1) (q + 1 + 1) name x (below_keep (poweredW_below name w5) d0) (below_keep (poweredW_below name w5) d1) (below_keep (poweredW_below name w5) d2) (fun p hp hF => by have := HLTF.out p hF; omega) hn HBD.out.2.2.2 HBD.out.1 HBD.out.2.1 HBD.out.2.2.1)
      have hcf : ∀ w : World, (callFunc 67 #[.pointer (some ⟨q, 0, none⟩), .pointer (some ⟨q + 1, 0, none⟩), .pointer (some ⟨q + 1 + 1, 0, none⟩)]).run Tryz.prog w = .ok (.enter 67 #[.pointer (some ⟨q, 0, none⟩), .pointer (some ⟨q + 1, 0, none⟩), .pointer (some ⟨q + 1 + 1, 0, none⟩)]) w := fun w => by simp [go_sem]
      have HCF := Lib.hid hcf; clear hcf
      have hmf : ∀ (fn : Fn) (first cap : Array Value) (w : World), (Instr.makeFunc fn first cap).run Tryz.prog w = .ok (.func fn first cap) w := fun _ _ _ _ => rfl
      clear hq
      go_wp2_with fail
      refine (powered_any HD5.out name _ _ (putR cut name x s).1 HCF.out HBODY.out).mono ?_
      rintro e w6 ⟨ev, rfl, he, hw⟩
      have HE := Lib.hid he
      have HW := Lib.hid hw
      clear he hw
      go_wp2_with fail
      go_ret
      exact devE_of HE.out HW.out HBB.out
    · rw [if_pos hrm]
      have HRM := Lib.hid hrm; clear hrm
      clear hg hc hdead
      go_enter Tryz.func47, Tryz.ntmps47
      go_wp2_with fail
      rw [← hw3]
      refine HR.out.mono ?_
      rintro e w4 ⟨ev, rfl, he, hb4⟩
      obtain rfl := nil_ev HRC.out he
      have HD4 := Lib.hid (HD.out.below hb4)
      have HB4 := Lib.hid (HB.out.trans (hb4.mono HB.out.size))
      have k0 := below_keep hb4 c0
      have k1 := below_keep hb4 c1
      have k2 := below_keep hb4 c2
      have k3 := HD4.out.c0
      clear he hb4 c0 c1 c2 hw3 HD HR
      generalize hq : w.heap.size = q at *
      have HRO := Lib.hid (room_any HD4.out name 0 x.size hn (Nat.zero_le _))
      go_wp2_with fail
      refine HRO.out.mono ?_
      rintro e w5 ⟨ev, rfl, he, hb5⟩
      obtain ⟨f5, rfl⟩ := err_ev HRM.out he
      have d0 := below_keep hb5 k0
      have d1 := below_keep hb5 k1
      have d2 := below_keep hb5 k2
      have d3 := below_keep hb5 k3
      have HE5 := Lib.hid he
      have HB5 := Lib.hid hb5
      clear he hb5
      go_wp2_with fail
      go_ret
      rw [show roomC name 0 x.size s.fs = 4 from roomC_ne HRM.out] at HE5
      refine devE_err HD4.out HE5.out HB5.out ?_
      rw [hq]
      exact HB4.out
  · rw [if_pos hr]
    have HRC := Lib.hid hr; clear hr
    go_enter Tryz.func47, Tryz.ntmps47
    go_wp2_with fail
    rw [← hw3]
    refine HR.out.mono ?_
    rintro e w4 ⟨ev, rfl, he, hb4⟩
    obtain ⟨f, rfl⟩ := err_ev HRC.out he
    have HE := Lib.hid he
    have HB4 := Lib.hid hb4; clear he hb4
    go_wp2_with fail
    go_ret
    exact devE_err HD.out HE.out HB4.out HB.out
end DiskP
end Go.Proofs.YtfbdhlpgklkjmaaGreatDoor
namespace Go.Proofs.YtfbdhlpgklkjmaaGreatDoor
open Go.RowKit Go.Maps
namespace DiskP
open DiskM DiskC ErrC

/-- one file is taken out of the map -/
theorem Dsk.erase {B : Nat} {w : World} {b : Nat} {F : Nat → Prop} {cut : Int} {s : DS} {m : Nat} {D : DataW Unit} {vals : ByteArray → Value} {name : ByteArray} (h : Dsk B w b F cut s m D vals) (hn : name.size ≤ 128) (ty : TypeId) :
    ∃ w2, (Builtin.delete_ #[55, 9] ty #[.map (some m), .string name]).run Tryz.prog w = .ok (.tuple #[]) w2 ∧ Dsk B w2 b F cut ⟨takeF name s.fs, s.count, s.dead⟩ m (D.del (keyN name)) (upd vals name (.slice none 0 0)) ∧ w.grownBy w2 (some m) := by
  obtain ⟨w2, hrun, hm, ht⟩ := h.files.map.drop keyed Tryz.underlying55 (keyOfN hn) ty
  have hg := ht.grown
  have hbm := h.files.bm
  have e : w2.heap[b]? = w.heap[b]? := hg.block b h.lt (fun e => hbm (by simpa using e))
  have ec : ∀ j, w2.cell? ⟨b, j, none⟩ = w.cell? ⟨b, j, none⟩ := fun j => World.cell?_of_block (a := ⟨b, j, none⟩) e
  have ef : ∀ j, w2.frozen? ⟨b, j, none⟩ = w.frozen? ⟨b, j, none⟩ := fun j => World.frozen?_of_block (a := ⟨b, j, none⟩) e
  exact ⟨w2, hrun, ⟨by rw [ec]; exact h.c0, by rw [ec]; exact h.c1, by rw [ec]; exact h.c2, by rw [ec]; exact h.c3, fun j => by rw [ef]; exact h.free j, h.files.del hm hg, h.cnt, Nat.le_trans h.bw hg.size⟩, hg⟩
theorem step_delete {w : World} {ops : Array Oper} {o : Oper} {a : Act} {K : Act → World → Prop} {Q : Exit → Act → World → Prop} {E : Prop} (hgd : o.guard = none) (om ox : Operand)
    (ho : o.op = .call { callee := .builtin .delete, args := #[om, ox], argTypes := #[55, 9] }) {B b m : Nat} {F : Nat → Prop} {cut : Int} {s : DS} {D : DataW Unit} {vals : ByteArray → Value} (name : ByteArray) (hm : a.eval om = .map (some m)) (hx : a.eval ox = .string name)
    (hD : Dsk B w b F cut s m D vals) (hn : name.size ≤ 128)
    (h : ∀ w2, Dsk B w2 b F cut ⟨takeF name s.fs, s.count, s.dead⟩ m (D.del (keyN name)) (upd vals name (.slice none 0 0)) → w.grownBy w2 (some m) → K (a.put o.dst (.tuple #[])) w2) :
    if Region.wanted o (yielded ops a.tmps) = true then Oper.wp Tryz.prog o a w K Q else E := by
  have hw : Region.wanted o (yielded ops a.tmps) = true := by simp [Region.wanted, hgd]
  rw [if_pos hw]
  obtain ⟨w2, hrun, h2, h3⟩ := hD.erase hn o.type
  unfold Oper.wp execOp
  simp only [ho, resolve, invoke, builtin, Sem.run_bind, Sem.run_pure, Result.andThen_ok, List.map_toArray, List.map_cons, List.map_nil, hm, hx, hrun]
  exact h w2 h2 h3
def removeR (cut : Int) (name : ByteArray) (s : DS) : Bool × DS := if rawB cut s.count s.dead = false then (false, ⟨s.fs, s.count, true⟩) else (true, ⟨takeF name s.fs, s.count + 1, s.dead⟩)
def findC1 (name : ByteArray) (s : DS) : Nat := (findC (readyC name s.dead) name name s.fs).1
theorem findC_two (name : ByteArray) (s : DS) : (findC (readyC name s.dead) name name s.fs).2 = name := by
  unfold findC
  repeat' split
  all_goals rfl
theorem findC1_zero {name : ByteArray} {s : DS} (h : findC1 name s = 0) : readyC name s.dead = 0 ∧ hasF name s.fs = true := by
  unfold findC1 findC at h
  split at h
  · rename_i hc; exact absurd h hc
  · rename_i hc
    split at h
    · cases h
    · rename_i hh; exact ⟨by simpa using hc, by simpa using hh⟩
theorem findC1_ne {name : ByteArray} {s : DS} (h : ¬ findC1 name s = 0) : (readyC name s.dead ≠ 0 ∧ findC1 name s = readyC name s.dead) ∨ (readyC name s.dead = 0 ∧ hasF name s.fs = false ∧ findC1 name s = 6) := by
  unfold findC1 findC at h ⊢
  split at h
  · rename_i hc; exact Or.inl ⟨hc, by rw [if_pos hc]⟩
  · rename_i hc
    split at h
    · rename_i hh; exact Or.inr ⟨by simpa using hc, hh, by rw [if_neg hc, if_pos hh]⟩
    · exact absurd rfl h
theorem readyC_ne {name : ByteArray} {dead : Bool} (h : readyC name dead ≠ 0) : (mayB name = false ∧ readyC name dead = 2) ∨ (mayB name = true ∧ dead = true ∧ readyC name dead = 5) := by
  unfold readyC at h ⊢
  by_cases h1 : mayB name = false
  · exact Or.inl ⟨h1, by rw [if_pos h1]⟩
  · rw [if_neg h1] at h ⊢
    by_cases h2 : dead = true
    · exact Or.inr ⟨by simpa using h1, h2, by rw [if_pos h2]⟩
    · rw [if_neg h2] at h; exact absurd rfl h
theorem readyC_z {name : ByteArray} {dead : Bool} (h : readyC name dead = 0) : mayB name = true ∧ dead = false := by
  unfold readyC at h
  by_cases h1 : mayB name = false
  · rw [if_pos h1] at h; cases h
  · rw [if_neg h1] at h
    by_cases h2 : dead = true
    · rw [if_pos h2] at h; cases h
    · exact ⟨by simpa using h1, by simpa using h2⟩
theorem removeS_eq (cut : Int) (name : ByteArray) (s : DS) : removeS cut name s = if findC1 name s ≠ 0 then (findC1 name s, s) else (code5 (removeR cut name s).1, (removeR cut name s).2) := by
  unfold removeS
  by_cases h : findC1 name s = 0
  · obtain ⟨h1, h2⟩ := findC1_zero h
    obtain ⟨h3, h4⟩ := readyC_z h1
    rw [if_neg (by rw [h3]; decide), if_neg (by rw [h4]; decide), if_neg (by rw [h2]; decide), if_neg (show ¬ (findC1 name s ≠ 0) from fun e => e h)]
    unfold removeR
    by_cases h5 : rawB cut s.count s.dead = false
    · rw [if_pos h5, if_pos h5]; rfl
    · rw [if_neg h5, if_neg h5]; rfl
  · rw [if_pos (show findC1 name s ≠ 0 from h)]
    rcases findC1_ne h with ⟨h1, h2⟩ | ⟨h1, h2, h3⟩
    · rw [h2]
      rcases readyC_ne h1 with ⟨h4, h5⟩ | ⟨h4, h5, h6⟩
      · rw [if_pos h4, h5]
      · rw [if_neg (by rw [h4]; decide), if_pos h5, h6]
    · obtain ⟨h4, h5⟩ := readyC_z h1
      rw [if_neg (by rw [h4]; decide), if_neg (by rw [h5]; decide), if_pos h2, h3]
set_option maxHeartbeats 2000000 in
set_option maxRecDepth 100000 in
theorem remove_body {B b m : Nat} {F : Nat → Prop} {cut : Int} {s : DS} {D : DataW Unit} {vals : ByteArray → Value} {w : World} (h : Dsk B w b F cut s m D vals) (p0 p1 : Nat) (name : ByteArray) (k0 : w.cell? ⟨p0, 0, none⟩ = some (.pointer (some ⟨b, 0, none⟩))) (k1 : w.cell? ⟨p1, 0, none⟩ = some (.string name))
    (hp : ∀ p, p = p0 ∨ p = p1 → ¬ F p) (hn : name.size ≤ 128) (hd : s.dead = false) (hc : s.count ≤ 549755813888) :
    Calls Tryz.prog 40 #[.pointer (some ⟨p0, 0, none⟩), .pointer (some ⟨p1, 0, none⟩)] w (AddE B F b cut (removeR cut name s) w) := by
  by_cases hr : rawB cut s.count s.dead = false
  · rw [show removeR cut name s = (false, ⟨s.fs, s.count, true⟩) by simp [removeR, hr]]
    have HSP := Lib.hid (spend_no h hr hd)
    have HD := Lib.hid h
    clear h hn hd hc hr hp
    go_enter Tryz.func40, Tryz.ntmps40
    go_wp2_with fail
    refine HSP.out.mono ?_
    rintro e w1 ⟨rfl, hd1, hk1⟩
    have HD1 := Lib.hid hd1
    have HK1 := Lib.hid hk1; clear hd1 hk1
    go_wp2_with fail
    exact ⟨rfl, rfl, HD1.out.went (HK1.out.mono (fun i e => by rw [e]; exact HD.out.files.fb))⟩
  · have hrt : rawB cut s.count s.dead = true := by simpa using hr
    rw [show removeR cut name s = (true, ⟨takeF name s.fs, s.count + 1, s.dead⟩) by simp [removeR, hrt]]
    have HSP := Lib.hid (spend_yes h hrt (by omega))
    have HFM := Lib.hid h.files.fm
    have HP := Lib.hid hp
    have HFB := Lib.hid h.files.fb
    have HK0 := Lib.hid k0
    have HK1 := Lib.hid k1
    clear h hd hc hp hr hrt
    have ck : ∀ w', Keeps F w w' → w'.cell? ⟨p0, 0, none⟩ = some (.pointer (some ⟨b, 0, none⟩)) ∧ w'.cell? ⟨p1, 0, none⟩ = some (.string name) := fun w' k =>
      ⟨(World.cell?_of_block (a := ⟨p0, 0, none⟩) (k.block p0 (World.block_lt_of_cell? _ _ HK0.out) (HP.out p0 (Or.inl rfl)))).trans HK0.out, (World.cell?_of_block (a := ⟨p1, 0, none⟩) (k.block p1 (World.block_lt_of_cell? _ _ HK1.out) (HP.out p1 (Or.inr rfl)))).trans HK1.out⟩
    have HCK := Lib.hid ck; clear ck
    go_enter Tryz.func40, Tryz.ntmps40
    go_wp2_with fail
    refine HSP.out.mono ?_
    rintro e w1 ⟨rfl, hd1, hk1⟩
    have HD1 : Hid (Dsk B w1.drew b F cut ⟨s.fs, s.count + 1, s.dead⟩ m D vals) := Lib.hid (hd1.drewN 1)
    have hk2 : Keeps F w w1.drew := (hk1.mono (fun i e => by rw [e]; exact HFB.out)).drewN 1
    obtain ⟨e0, e1⟩ := HCK.out _ hk2
    have eb := HD1.out.c0
    have HK2 := Lib.hid hk2
    clear hd1 hk1 hk2 k0 k1
    go_wp2_with fail
    go_region_held3 (fun w' => w'.cell? ⟨p0, 0, none⟩ = some (.pointer (some ⟨b, 0, none⟩)) ∧ w'.cell? ⟨p1, 0, none⟩ = some (.string name) ∧ w'.cell? ⟨b, 0, none⟩ = some (.map (some m))) (first | exact ⟨e0, e1, eb⟩ | exact ⟨f0, f1, fb⟩)
      (first
        | (refine step_delete rfl (.tmp 7) (.tmp 8) rfl name (by simp [Act.eval]) (by simp [Act.eval]) HD1.out hn ?_
           intro w2 hd2 hg2
           have fb := hd2.c0
           have hk3 : Keeps F w w2 := HK2.out.trans ((keeps_of_grown hg2).mono (fun i hi => by cases hi; exact HFM.out))
           obtain ⟨f0, f1⟩ := HCK.out _ hk3
           have HD2 := Lib.hid hd2
           have HK3 := Lib.hid hk3
           clear hd2 hg2 hk3))
    go_wp2_with fail
    go_end0
    exact ⟨rfl, HD2.out.went HK3.out⟩
set_option maxHeartbeats 2000000 in
set_option maxRecDepth 100000 in
theorem remove_any {B b m : Nat} {F : Nat → Prop} {cut : Int} {s : DS} {D : DataW Unit} {vals : ByteArray → Value} {w : World} (h : Dsk B w b F cut s m D vals) (name : ByteArray) (hc : s.count ≤ 549755813888) :
    Calls Tryz.prog 23 #[.pointer (some ⟨b, 0, none⟩), .string name] w (DevE (IsP B) F b cut (removeS cut name s).1 name (removeS cut name s).2 w) := by
  have hb1 := box_below w 24 (.pointer (some ⟨b, 0, none⟩))
  have hb2 := box_below (box1 w 24 (.pointer (some ⟨b, 0, none⟩))) 9 (.string name)
  have c0 := box_at w 24 (.pointer (some ⟨b, 0, none⟩))
  have c1 := box_at (box1 w 24 (.pointer (some ⟨b, 0, none⟩))) 9 (.string name)
  have z1 := box_size w 24 (.pointer (some ⟨b, 0, none⟩))
  rw [z1] at c1
  replace c0 := box_keep c0 9 (.string name)
  have hb : Below w.heap.size w (box1 (box1 w 24 (.pointer (some ⟨b, 0, none⟩))) 9 (.string name)) := hb1.trans (hb2.mono hb1.size)
  have HLTF := Lib.hid h.files.lt
  have HD := Lib.hid (h.below hb)
  have HB := Lib.hid hb
  clear hb1 hb2 z1 hb h
  have hw3 : box1 (box1 w 24 (.pointer (some ⟨b, 0, none⟩))) 9 (.string name) = (w.alloc (.cells #[.pointer (some ⟨b, 0, none⟩)] 24)).alloc (.cells #[.string name] 9) := rfl
  generalize box1 (box1 w 24 (.pointer (some ⟨b, 0, none⟩))) 9 (.string name) = w3 at *
  rw [removeS_eq]
  have hf := find_of HD.out name name (.slice none 0 0) (readyC name s.dead) (fun e => (readyC_zero e).1) (ready1 b m s.dead name w3 HD.out.c0 HD.out.c3)
  rw [findC_two] at hf
  have HF : Hid (Calls Tryz.prog 38 #[.pointer (some ⟨b, 0, none⟩), .string name, .slice none 0 0] w3 (FindE w3 (if findC1 name s = 0 then vals name else .slice none 0 0) (findC1 name s) name)) := Lib.hid hf
  clear hf
  by_cases hr : findC1 name s = 0
  · rw [if_neg (show ¬ (findC1 name s ≠ 0) from fun e => e hr)]
    obtain ⟨hn, hdead⟩ := readyC_zero (findC1_zero hr).1
    have HRC := Lib.hid hr; clear hr
    have HBD : Hid (s.dead = false ∧ s.count ≤ 549755813888) := Lib.hid ⟨hdead, hc⟩
    clear hdead hc
    go_enter Tryz.func23, Tryz.ntmps23
    go_wp2_with fail
    rw [← hw3]
    refine HF.out.mono ?_
    rintro e w5 ⟨ev, rfl, he, hb4⟩
    obtain rfl := nil_ev HRC.out he
    have HD5 := Lib.hid (HD.out.below hb4)
    have HBB := Lib.hid (HB.out.trans (hb4.mono HB.out.size))
    have d0 := below_keep hb4 c0
    have d1 := below_keep hb4 c1
    clear he hb4 c0 c1 hw3 HD HF
    generalize hq : w.heap.size = q at *
    have HBODY := Lib.hid (remove_body (HD5.out.below (poweredW_below name w5)) q (q + 1) name (below_keep (poweredW_below name w5) d0) (below_keep (poweredW_below name w5) d1) (fun p hp hF => by have := HLTF.out p hF; omega) hn HBD.out.1 HBD.out.2)
    have hcf : ∀ w : World, (callFunc 40 #[.pointer (some ⟨q, 0, none⟩), .pointer (some ⟨q + 1, 0, none⟩)]).run Tryz.prog w = .ok (.enter 40 #[.pointer (some ⟨q, 0, none⟩), .pointer (some ⟨q + 1, 0, none⟩)]) w := fun w => by simp [go_sem]
    have HCF := Lib.hid hcf; clear hcf
    have hmf : ∀ (fn : Fn) (first cap : Array Value) (w : World), (Instr.makeFunc fn first cap).run Tryz.prog w = .ok (.func fn first cap) w := fun _ _ _ _ => rfl
    have HQ := Lib.hid hq
    clear hq
    go_wp2_with fail
    refine (powered_any HD5.out name _ _ (removeR cut name s).1 HCF.out HBODY.out).mono ?_
    rintro e w6 ⟨ev, rfl, he, hw⟩
    have HE := Lib.hid he
    have HW := Lib.hid hw
    clear he hw
    go_wp2_with fail
    go_ret
    exact devE_of HE.out HW.out (by rw [HQ.out]; exact HBB.out)
  · rw [if_pos (show findC1 name s ≠ 0 from hr)]
    have HRC := Lib.hid hr; clear hr hc
    go_enter Tryz.func23, Tryz.ntmps23
    go_wp2_with fail
    rw [← hw3]
    refine HF.out.mono ?_
    rintro e w4 ⟨ev, rfl, he, hb4⟩
    obtain ⟨f, rfl⟩ := err_ev HRC.out he
    have HE := Lib.hid he
    have HB4 := Lib.hid hb4; clear he hb4
    go_wp2_with fail
    go_ret
    exact devE_err HD.out HE.out HB4.out HB.out
end DiskP
end Go.Proofs.YtfbdhlpgklkjmaaGreatDoor
namespace Go.Proofs.YtfbdhlpgklkjmaaGreatDoor
open Go.RowKit Go.Maps
namespace DiskP
open DiskM DiskC ErrC
open Go.Lib (strCells strCells_length)

theorem cut_byt {w : World} {v : Value} {x : ByteArray} (h : Byt w v x) (k : Nat) (hk : k ≤ x.size) : ∃ a l c, v = .slice a l c ∧ l = x.size ∧ k ≤ c ∧ Byt w (.slice a k k) (x.extract 0 k) ∧ Full (.slice a k k) ∧ (Value.slice a k k).ownBlock = v.ownBlock ∧
    (∀ w' : World, (Instr.slice 45 (.slice a l c) none (some (.int .i64 (k : Int))) (some (.int .i64 (k : Int)))).run Tryz.prog w' = .ok (.slice a k k) w') := by
  rcases h with ⟨rfl, rfl⟩ | ⟨g, cap, rfl, h1, h2, h3, h4⟩
  · have e : k = 0 := Nat.le_zero.1 hk
    subst e
    refine ⟨none, 0, 0, rfl, rfl, Nat.le_refl _, Or.inl ⟨rfl, rfl⟩, Or.inl rfl, rfl, fun w' => ?_⟩
    kernel_rfl
  · have hs : (x.extract 0 k).size = k := by simp; omega
    refine ⟨some ⟨g, 0, none⟩, x.size, cap, rfl, rfl, by omega, Or.inr ⟨g, k, by rw [hs], by omega, by omega, h3, fun j u hu => h4 j u ?_⟩, Or.inr ⟨g, k, rfl⟩, rfl, fun w' => ?_⟩
    · have e : strCells (x.extract 0 k) = (strCells x).take k := by
        unfold strCells
        rw [Lib.extract_data, List.drop_zero, Nat.sub_zero, List.map_take]
      rw [e] at hu
      rw [List.getElem?_take] at hu
      split at hu
      · exact hu
      · cases hu
    · rw [run_slice_hm w' 45 (some ⟨g, 0, none⟩) x.size cap (by kernel_rfl) .i64 .i64 (k : Int) (k : Int) (by omega) (Int.le_refl _) (by omega)]
      have hsz : (sizeOf (Tryz.prog.elem 45)).run Tryz.prog w' = .ok 1 w' := by kernel_rfl
      rw [hsz]
      simp only [Result.andThen_ok, sliced, Int.toNat_natCast, Nat.sub_zero, Nat.zero_mul, Option.map_some]
      rw [plain_add]
      split <;> rfl
/-- a file is cut: its slice, without room behind -/
theorem Dsk.cutAt {B : Nat} {w : World} {b : Nat} {F : Nat → Prop} {cut : Int} {s : DS} {m : Nat} {D : DataW Unit} {vals : ByteArray → Value} {name : ByteArray} (h : Dsk B w b F cut s m D vals) (hn : name.size ≤ 128) (hlen : s.fs.length < maxLen) (v' : Value) (x : ByteArray) (hb : Byt w v' x) (hf : Full v') (hv : v'.ownBlock = (vals name).ownBlock) :
    ∃ w2 D' vals', (Instr.mapUpdate 55 (.map (some m)) (.string name) v').run Tryz.prog w = .ok () w2 ∧ Dsk B w2 b F cut ⟨layF name x s.fs, s.count, s.dead⟩ m D' vals' ∧ w.grownBy w2 (some m) := by
  have f := h.files.file name (fun e => e)
  exact h.store F hn hlen (h.files.turn (S := fun _ => False) (Keeps.refl _ _) (fun e => e) (fun _ _ _ _ e => e) (fun _ e => e.elim) (fun _ e => e) h.files.lt) rfl (Nat.le_refl _) hb (fun g e => f.blk g (hv ▸ e)) (Or.inl hf) (fun n g hne hfull hgn e => by
    rcases (h.files.file n (fun e => e)).room with hr | ⟨-, hr⟩
    · exact hfull hr
    · exact (hr g hgn).2 name (fun e => hne e.symm) (hv ▸ e))
theorem DErr.below' {w0 w1 w2 : World} {ev : Value} {c : Nat} {t : ByteArray} (h : DErr w0 w1 ev c t) (hb : Below w1.heap.size w1 w2) : DErr w0 w2 ev c t := by
  rcases h with h | ⟨h0, f, hv, hf, hF⟩
  · exact Or.inl h
  · exact Or.inr ⟨h0, f, hv, hf, hF.below hb hF.lt⟩
def truncR (cut : Int) (name : ByteArray) (n : Nat) (s : DS) : Bool × DS := if rawB cut s.count s.dead = false then (false, ⟨s.fs, s.count, true⟩) else (true, ⟨layF name ((bytesF name s.fs).extract 0 n) s.fs, s.count + 1, s.dead⟩)
theorem truncS_eq (cut : Int) (name : ByteArray) (n : Int) (s : DS) : truncS cut name n s = if findC1 name s ≠ 0 then (findC1 name s, s) else if n < 0 ∨ ((bytesF name s.fs).size : Int) < n then (2, s) else (code5 (truncR cut name n.toNat s).1, (truncR cut name n.toNat s).2) := by
  unfold truncS
  by_cases h : findC1 name s = 0
  · obtain ⟨h1, h2⟩ := findC1_zero h
    obtain ⟨h3, h4⟩ := readyC_z h1
    rw [if_neg (by rw [h3]; decide), if_neg (by rw [h4]; decide), if_neg (by rw [h2]; decide), if_neg (show ¬ (findC1 name s ≠ 0) from fun e => e h)]
    by_cases h6 : n < 0 ∨ ((bytesF name s.fs).size : Int) < n
    · rw [if_pos h6, if_pos h6]
    · rw [if_neg h6, if_neg h6]
      unfold truncR
      by_cases h5 : rawB cut s.count s.dead = false
      · rw [if_pos h5, if_pos h5]; rfl
      · rw [if_neg h5, if_neg h5]; rfl
  · rw [if_pos (show findC1 name s ≠ 0 from h)]
    rcases findC1_ne h with ⟨h1, h2⟩ | ⟨h1, h2, h3⟩
    · rw [h2]
      rcases readyC_ne h1 with ⟨h4, h5⟩ | ⟨h4, h5, h6⟩
      · rw [if_pos h4, h5]
      · rw [if_neg (by rw [h4]; decide), if_pos h5, h6]
    · obtain ⟨h4, h5⟩ := readyC_z h1
      rw [if_neg (by rw [h4]; decide), if_neg (by rw [h5]; decide), if_pos h2, h3]
end DiskP
end Go.Proofs.YtfbdhlpgklkjmaaGreatDoor
namespace Go.Proofs.YtfbdhlpgklkjmaaGreatDoor
open Go.RowKit Go.Maps
namespace DiskP
open DiskM DiskC ErrC
open Go.Lib (strCells strCells_length)

def renameR (cut : Int) (src dst : ByteArray) (s : DS) : Bool × DS := if rawB cut s.count s.dead = false then (false, ⟨s.fs, s.count, true⟩) else (true, ⟨layF dst (bytesF src s.fs) (takeF src s.fs), s.count + 1, s.dead⟩)
def renT (ok : Bool) (src : ByteArray) : ByteArray := if ok then ⟨#[]⟩ else src
def findC2 (src dst : ByteArray) (s : DS) : Nat × ByteArray := findC (readyC2 src dst s.dead).1 (readyC2 src dst s.dead).2 src s.fs
theorem findC2_zero {src dst : ByteArray} {s : DS} (h : (findC2 src dst s).1 = 0) : mayB src = true ∧ mayB dst = true ∧ s.dead = false ∧ hasF src s.fs = true := by
  unfold findC2 findC readyC2 at h
  by_cases h1 : mayB src = false
  · rw [if_pos h1] at h; cases h
  · rw [if_neg h1] at h
    by_cases h2 : mayB dst = false
    · rw [if_pos h2] at h; cases h
    · rw [if_neg h2] at h
      by_cases h3 : s.dead = true
      · rw [if_pos h3] at h; cases h
      · rw [if_neg h3] at h
        by_cases h4 : hasF src s.fs = false
        · rw [if_neg (show ¬ ((0, src).1 ≠ 0) from fun e => e rfl), if_pos h4] at h; cases h
        · exact ⟨by simpa using h1, by simpa using h2, by simpa using h3, by simpa using h4⟩
theorem renameS_eq (cut : Int) (src dst : ByteArray) (s : DS) : renameS cut src dst s = if (findC2 src dst s).1 ≠ 0 then ((findC2 src dst s).1, (findC2 src dst s).2, s) else (code5 (renameR cut src dst s).1, renT (renameR cut src dst s).1 src, (renameR cut src dst s).2) := by
  by_cases h : (findC2 src dst s).1 = 0
  · obtain ⟨h1, h2, h3, h4⟩ := findC2_zero h
    rw [if_neg (show ¬ ((findC2 src dst s).1 ≠ 0) from fun e => e h)]
    unfold renameS renameR
    rw [if_neg (by rw [h1]; decide), if_neg (by rw [h2]; decide), if_neg (by rw [h3]; decide), if_neg (by rw [h4]; decide)]
    by_cases h5 : rawB cut s.count s.dead = false
    · rw [if_pos h5, if_pos h5]; rfl
    · rw [if_neg h5, if_neg h5]; rfl
  · rw [if_pos (show (findC2 src dst s).1 ≠ 0 from h)]
    unfold findC2 findC readyC2 at h ⊢
    unfold renameS
    by_cases h1 : mayB src = false
    · rw [if_pos h1, if_pos h1]; rfl
    · rw [if_neg h1] at h ⊢
      rw [if_neg h1]
      by_cases h2 : mayB dst = false
      · rw [if_pos h2, if_pos h2]; rfl
      · rw [if_neg h2] at h ⊢
        rw [if_neg h2]
        by_cases h3 : s.dead = true
        · rw [if_pos h3, if_pos h3]; rfl
        · rw [if_neg h3] at h ⊢
          rw [if_neg h3]
          by_cases h4 : hasF src s.fs = false
          · rw [if_pos h4, if_neg (show ¬ ((0, src).1 ≠ 0) from fun e => e rfl), if_pos h4]
          · rw [if_neg (show ¬ ((0, src).1 ≠ 0) from fun e => e rfl), if_neg h4] at h; exact absurd rfl h
/-- a file that was taken is laid under another name -/
theorem Dsk.move {B : Nat} {w w2 : World} {b : Nat} {F : Nat → Prop} {cut : Int} {s : DS} {m : Nat} {D : DataW Unit} {vals : ByteArray → Value} {src dst : ByteArray} (h : Dsk B w b F cut s m D vals) (hn : dst.size ≤ 128) (hlen : s.fs.length < maxLen)
    (h2 : Dsk B w2 b F cut ⟨takeF src s.fs, s.count, s.dead⟩ m (D.del (keyN src)) (upd vals src (.slice none 0 0))) (hg : w.grownBy w2 (some m)) :
    ∃ w3 D' vals', (Instr.mapUpdate 55 (.map (some m)) (.string dst) (vals src)).run Tryz.prog w2 = .ok () w3 ∧ Dsk B w3 b F cut ⟨layF dst (bytesF src s.fs) (takeF src s.fs), s.count, s.dead⟩ m D' vals' ∧ w2.grownBy w3 (some m) := by
  have f := h.files.file src (fun e => e)
  have hbk : ∀ g, (vals src).ownBlock = some g → w2.heap[g]? = w.heap[g]? := fun g hgo => hg.block g (f.byt.lt g hgo) (fun e => (f.blk g hgo).2.1 (by simpa using e))
  have hl2 : (takeF src s.fs).length < maxLen := by have := DiskC.take_len src s.fs; omega
  refine h2.store F hn hl2 (h2.files.turn (S := fun _ => False) (Keeps.refl _ _) (fun e => e) (fun _ _ _ _ e => e) (fun _ e => e.elim) (fun _ e => e) h2.files.lt) rfl (Nat.le_refl _) (f.byt.keeps hg.size hbk) f.blk ?_ ?_
  · rcases f.room with hr | ⟨hr, h3⟩
    · exact Or.inl hr
    · refine Or.inr ⟨hr.keeps hbk, fun g hgo => ⟨(h3 g hgo).1, fun n' hn' => ?_⟩⟩
      by_cases e : n' = src
      · rw [e, upd_same]; intro e2; cases e2
      · rw [upd_other e]; exact (h3 g hgo).2 n' e
  · intro n g hne hfull hgn e2
    by_cases e : n = src
    · rw [e, upd_same] at hgn; cases hgn
    · rw [upd_other e] at hfull hgn
      rcases (h.files.file n (fun e => e)).room with hr | ⟨-, hr⟩
      · exact hfull hr
      · exact (hr g hgn).2 src (fun e3 => e e3.symm) e2
set_option maxHeartbeats 4000000 in
set_option maxRecDepth 100000 in
theorem rename_body {B b m : Nat} {F : Nat → Prop} {cut : Int} {s : DS} {D : DataW Unit} {vals : ByteArray → Value} {w : World} (h : Dsk B w b F cut s m D vals) (p0 p1 p2 p3 : Nat) (src dst : ByteArray) (k0 : w.cell? ⟨p0, 0, none⟩ = some (.pointer (some ⟨b, 0, none⟩))) (k1 : w.cell? ⟨p1, 0, none⟩ = some (.string src)) (k2 : w.cell? ⟨p2, 0, none⟩ = some (vals src)) (k3 : w.cell? ⟨p3, 0, none⟩ = some (.string dst))
    (hp : ∀ p, p = p0 ∨ p = p1 ∨ p = p2 ∨ p = p3 → ¬ F p) (hn : src.size ≤ 128) (hn2 : dst.size ≤ 128) (hd : s.dead = false) (hc : s.count ≤ 549755813888) (hlen : s.fs.length < maxLen) :
    Calls Tryz.prog 69 #[.pointer (some ⟨p0, 0, none⟩), .pointer (some ⟨p1, 0, none⟩), .pointer (some ⟨p2, 0, none⟩), .pointer (some ⟨p3, 0, none⟩)] w (AddE B F b cut (renameR cut src dst s) w) := by
  by_cases hr : rawB cut s.count s.dead = false
  · rw [show renameR cut src dst s = (false, ⟨s.fs, s.count, true⟩) by simp [renameR, hr]]
    have HSP := Lib.hid (spend_no h hr hd)
    have HD := Lib.hid h
    clear h hn hd hc hr hp hn2 hlen k1 k2 k3
    go_enter Tryz.func69, Tryz.ntmps69
    go_wp2_with fail
    refine HSP.out.mono ?_
    rintro e w1 ⟨rfl, hd1, hk1⟩
    have HD1 := Lib.hid hd1
    have HK1 := Lib.hid hk1; clear hd1 hk1
    go_wp2_with fail
    exact ⟨rfl, rfl, HD1.out.went (HK1.out.mono (fun i e => by rw [e]; exact HD.out.files.fb))⟩
  · have hrt : rawB cut s.count s.dead = true := by simpa using hr
    rw [show renameR cut src dst s = (true, ⟨layF dst (bytesF src s.fs) (takeF src s.fs), s.count + 1, s.dead⟩) by simp [renameR, hrt]]
    obtain ⟨a, c, hv, -⟩ := (h.files.file src (fun e => e)).byt.len
    have HV := Lib.hid hv
    rw [hv] at k2
    have HFB := Lib.hid h.files.fb
    have HFM := Lib.hid h.files.fm
    have HLEN := Lib.hid hlen
    have hck : ∀ w', Keeps F w w' → w'.cell? ⟨p0, 0, none⟩ = some (.pointer (some ⟨b, 0, none⟩)) ∧ w'.cell? ⟨p1, 0, none⟩ = some (.string src) ∧ w'.cell? ⟨p2, 0, none⟩ = some (.slice a (bytesF src s.fs).size c) ∧ w'.cell? ⟨p3, 0, none⟩ = some (.string dst) := fun w' k => by
      have ck : ∀ p u, (p = p0 ∨ p = p1 ∨ p = p2 ∨ p = p3) → w.cell? ⟨p, 0, none⟩ = some u → w'.cell? ⟨p, 0, none⟩ = some u := fun p u hpp hu =>
        (World.cell?_of_block (a := ⟨p, 0, none⟩) (k.block p (World.block_lt_of_cell? _ _ hu) (hp p hpp))).trans hu
      exact ⟨ck _ _ (Or.inl rfl) k0, ck _ _ (Or.inr (Or.inl rfl)) k1, ck _ _ (Or.inr (Or.inr (Or.inl rfl))) k2, ck _ _ (Or.inr (Or.inr (Or.inr rfl))) k3⟩
    have HCK := Lib.hid hck; clear hck
    have HSP := Lib.hid (spend_yes h hrt (by omega))
    clear h hd hc hp hr hrt hv hlen
    go_enter Tryz.func69, Tryz.ntmps69
    go_wp2_with fail
    refine HSP.out.mono ?_
    rintro e w1 ⟨rfl, hd1, hk1⟩
    have HD1 : Hid (Dsk B w1.drew b F cut ⟨s.fs, s.count + 1, s.dead⟩ m D vals) := Lib.hid (hd1.drewN 1)
    have hk2 : Keeps F w w1.drew := (hk1.mono (fun i e => by rw [e]; exact HFB.out)).drewN 1
    obtain ⟨e0, e1, e2, e3⟩ := HCK.out _ hk2
    have eb := HD1.out.c0
    have HK2 := Lib.hid hk2
    clear hd1 hk1 hk2 k0 k1 k2 k3
    go_wp2_with fail
    go_region_held3 (fun w' => w'.cell? ⟨p0, 0, none⟩ = some (.pointer (some ⟨b, 0, none⟩)) ∧ w'.cell? ⟨p1, 0, none⟩ = some (.string src) ∧ w'.cell? ⟨b, 0, none⟩ = some (.map (some m))) (first | exact ⟨e0, e1, eb⟩ | exact ⟨f0, f1, fb⟩)
      (first
        | (refine step_delete rfl (.tmp 9) (.tmp 10) rfl src (by simp [Act.eval]) (by simp [Act.eval]) HD1.out hn ?_
           intro w2 hd2 hg2
           have hk3 : Keeps F w w2 := HK2.out.trans ((keeps_of_grown hg2).mono (fun i hi => by cases hi; exact HFM.out))
           obtain ⟨f0, f1, f2, f3⟩ := HCK.out _ hk3
           have fb := hd2.c0
           obtain ⟨w3, D', vals', hup, h3, hg3⟩ := HD1.out.move hn2 HLEN.out (hd2.drewN 1) (w2 := w2.drew) ⟨hg2.os, hg2.tape, hg2.output, hg2.size, hg2.block⟩
           have hk4 : Keeps F w w3 := (hk3.drewN 1).trans ((keeps_of_grown hg3).mono (fun i hi => by cases hi; exact HFM.out))
           obtain ⟨g0, g1, g2, g3⟩ := HCK.out _ hk4
           obtain ⟨j0, j1, j2, j3⟩ := HCK.out _ (hk3.drewN 1)
           have gb := h3.c0
           have jb := (hd2.drewN 1).c0
           have H3 := Lib.hid h3
           have HK4 := Lib.hid hk4
           rw [HV.out] at hup
           clear hd2 hg2 hk3 h3 hg3 hk4))
    go_wp2_with fail
    go_region_held3 (fun w' => w'.cell? ⟨p0, 0, none⟩ = some (.pointer (some ⟨b, 0, none⟩)) ∧ w'.cell? ⟨p2, 0, none⟩ = some (.slice a (bytesF src s.fs).size c) ∧ w'.cell? ⟨p3, 0, none⟩ = some (.string dst) ∧ w'.cell? ⟨b, 0, none⟩ = some (.map (some m))) (first | exact ⟨j0, j2, j3, jb⟩ | exact ⟨g0, g2, g3, gb⟩) (fail)
    go_wp2_with fail
    go_end0
    exact ⟨rfl, H3.out.went HK4.out⟩
theorem ren_err {w w' : World} {ev : Value} {ok : Bool} {src : ByteArray} (h : DErr w w' ev (code5 ok) src) : DErr w w' ev (code5 ok) (renT ok src) := by
  cases ok
  · exact h
  · rcases h with ⟨h1, h2⟩ | ⟨h1, -⟩
    · exact Or.inl ⟨h1, h2⟩
    · exact absurd rfl h1
set_option maxHeartbeats 4000000 in
set_option maxRecDepth 100000 in
theorem rename_any {B b m : Nat} {F : Nat → Prop} {cut : Int} {s : DS} {D : DataW Unit} {vals : ByteArray → Value} {w : World} (h : Dsk B w b F cut s m D vals) (src dst : ByteArray) (hg : DiskC.Good s.fs) (hc : s.count ≤ 549755813888) :
    Calls Tryz.prog 48 #[.pointer (some ⟨b, 0, none⟩), .string src, .string dst] w (DevE (IsP B) F b cut (renameS cut src dst s).1 (renameS cut src dst s).2.1 (renameS cut src dst s).2.2 w) := by
  have hb1 := box_below w 24 (.pointer (some ⟨b, 0, none⟩))
  have hb2 := box_below (box1 w 24 (.pointer (some ⟨b, 0, none⟩))) 9 (.string src)
  have hb3 := box_below (box1 (box1 w 24 (.pointer (some ⟨b, 0, none⟩))) 9 (.string src)) 9 (.string dst)
  have hb4 := box_below (box1 (box1 (box1 w 24 (.pointer (some ⟨b, 0, none⟩))) 9 (.string src)) 9 (.string dst)) 9 (.string dst)
  have c0 := box_at w 24 (.pointer (some ⟨b, 0, none⟩))
  have c1 := box_at (box1 w 24 (.pointer (some ⟨b, 0, none⟩))) 9 (.string src)
  have c2 := box_at (box1 (box1 w 24 (.pointer (some ⟨b, 0, none⟩))) 9 (.string src)) 9 (.string dst)
  have c3 := box_at (box1 (box1 (box1 w 24 (.pointer (some ⟨b, 0, none⟩))) 9 (.string src)) 9 (.string dst)) 9 (.string dst)
  have z1 := box_size w 24 (.pointer (some ⟨b, 0, none⟩))
  have z2 := box_size (box1 w 24 (.pointer (some ⟨b, 0, none⟩))) 9 (.string src)
  have z3 := box_size (box1 (box1 w 24 (.pointer (some ⟨b, 0, none⟩))) 9 (.string src)) 9 (.string dst)
  rw [z1] at c1
  rw [z2, z1] at c2
  rw [z3, z2, z1] at c3
  replace c0 := box_keep (box_keep (box_keep c0 9 (.string src)) 9 (.string dst)) 9 (.string dst)
  replace c1 := box_keep (box_keep c1 9 (.string dst)) 9 (.string dst)
  replace c2 := box_keep c2 9 (.string dst)
  have hb : Below w.heap.size w (box1 (box1 (box1 (box1 w 24 (.pointer (some ⟨b, 0, none⟩))) 9 (.string src)) 9 (.string dst)) 9 (.string dst)) := (((hb1.trans (hb2.mono (hb1).size)).trans (hb3.mono ((hb1.trans (hb2.mono (hb1).size))).size)).trans (hb4.mono (((hb1.trans (hb2.mono (hb1).size)).trans (hb3.mono ((hb1.trans (hb2.mono (hb1).size))).size))).size))
  have HLTF := Lib.hid h.files.lt
  have HD := Lib.hid (h.below hb)
  have HB := Lib.hid hb
  clear hb1 hb2 hb3 hb4 z1 z2 z3 hb h
  have hw3 : box1 (box1 (box1 (box1 w 24 (.pointer (some ⟨b, 0, none⟩))) 9 (.string src)) 9 (.string dst)) 9 (.string dst) = (((w.alloc (.cells #[.pointer (some ⟨b, 0, none⟩)] 24)).alloc (.cells #[.string src] 9)).alloc (.cells #[.string dst] 9)).alloc (.cells #[.string dst] 9) := rfl
  generalize box1 (box1 (box1 (box1 w 24 (.pointer (some ⟨b, 0, none⟩))) 9 (.string src)) 9 (.string dst)) 9 (.string dst) = w3 at *
  rw [renameS_eq]
  have hf := find_of HD.out src (readyC2 src dst s.dead).2 (.slice (some ⟨w.heap.size + 1 + 1 + 1, 0, none⟩) 1 1) (readyC2 src dst s.dead).1 (fun e => by
      have h1 : mayB src = true := by
        unfold readyC2 at e
        by_cases h1 : mayB src = false
        · rw [if_pos h1] at e; cases e
        · simpa using h1
      exact mayB_le h1) (ready2 b m (w.heap.size + 1 + 1 + 1) s.dead src dst w3 HD.out.c0 HD.out.c3 c3)
  by_cases hr : (findC2 src dst s).1 = 0
  · rw [if_neg (show ¬ ((findC2 src dst s).1 ≠ 0) from fun e => e hr)]
    obtain ⟨hn, hn2, hdead, -⟩ := findC2_zero hr
    obtain ⟨va, vc, hv, -⟩ := (HD.out.row src).1.len
    have HF : Hid (Calls Tryz.prog 38 #[.pointer (some ⟨b, 0, none⟩), .string src, .slice (some ⟨w.heap.size + 1 + 1 + 1, 0, none⟩) 1 1] w3 (FindE w3 (.slice va (bytesF src s.fs).size vc) (findC2 src dst s).1 (findC2 src dst s).2)) := Lib.hid (by rw [show (findC (readyC2 src dst s.dead).1 (readyC2 src dst s.dead).2 src s.fs) = findC2 src dst s from rfl, if_pos hr, hv] at hf; exact hf)
    have HRC := Lib.hid hr
    have hlen : s.fs.length < maxLen := by have := hg.1; unfold maxLen; omega
    have HBD : Hid (src.size ≤ 128 ∧ dst.size ≤ 128 ∧ s.dead = false ∧ s.count ≤ 549755813888 ∧ s.fs.length < maxLen) := Lib.hid ⟨mayB_le hn, mayB_le hn2, hdead, hc, hlen⟩
    clear hf hr hn hn2 hdead hc hlen hg
    go_enter Tryz.func48, Tryz.ntmps48
    go_wp2_with fail
    rw [← hw3]
    refine HF.out.mono ?_
    rintro e w5 ⟨ev, rfl, he, hb4⟩
    obtain rfl := nil_ev HRC.out he
    have HD5 := Lib.hid ((HD.out.below hb4).below (box_below w5 45 (.slice va (bytesF src s.fs).size vc)))
    have HBB := Lib.hid ((HB.out.trans (hb4.mono HB.out.size)).trans ((box_below w5 45 (.slice va (bytesF src s.fs).size vc)).mono (HB.out.trans (hb4.mono HB.out.size)).size))
    have d0 := box_keep (below_keep hb4 c0) 45 (.slice va (bytesF src s.fs).size vc)
    have d1 := box_keep (below_keep hb4 c1) 45 (.slice va (bytesF src s.fs).size vc)
    have d2 := box_keep (below_keep hb4 c2) 45 (.slice va (bytesF src s.fs).size vc)
    have d3 := box_at w5 45 (.slice va (bytesF src s.fs).size vc)
    have hge := (HB.out.trans (hb4.mono HB.out.size)).size
    have HBODY := Lib.hid (rename_body (HD5.out.below (poweredW_below src _)) w.heap.size (w.heap.size + 1) w5.heap.size (w.heap.size + 1 + 1) src dst (below_keep (poweredW_below src _) d0) (below_keep (poweredW_below src _) d1) (by rw [hv]; exact below_keep (poweredW_below src _) d3) (below_keep (poweredW_below src _) d2) (fun p hp hF => by have := HLTF.out p hF; omega) HBD.out.1 HBD.out.2.1 HBD.out.2.2.1 HBD.out.2.2.2.1 HBD.out.2.2.2.2)
    unfold box1 at d0 d1 d2 d3
    clear he hb4 c0 c1 c2 c3 hw3 HD HF hv hge
    have hcf : ∀ (x0 x1 x2 x3 : Nat) (w : World), (callFunc 69 #[.pointer (some ⟨x0, 0, none⟩), .pointer (some ⟨x1, 0, none⟩), .pointer (some ⟨x2, 0, none⟩), .pointer (some ⟨x3, 0, none⟩)]).run Tryz.prog w = .ok (.enter 69 #[.pointer (some ⟨x0, 0, none⟩), .pointer (some ⟨x1, 0, none⟩), .pointer (some ⟨x2, 0, none⟩), .pointer (some ⟨x3, 0, none⟩)]) w := fun x0 x1 x2 x3 w => by simp [go_sem]
    have HCF := Lib.hid hcf; clear hcf
    have hmf : ∀ (fn : Fn) (first cap : Array Value) (w : World), (Instr.makeFunc fn first cap).run Tryz.prog w = .ok (.func fn first cap) w := fun _ _ _ _ => rfl
    go_wp2_with fail
    refine (powered_any HD5.out src _ _ (renameR cut src dst s).1 (HCF.out _ _ _ _) HBODY.out).mono ?_
    rintro e w6 ⟨ev, rfl, he, hw⟩
    have HE := Lib.hid (ren_err he)
    have HW := Lib.hid hw
    clear he hw
    go_wp2_with fail
    go_ret
    exact devE_of HE.out HW.out HBB.out
  · rw [if_pos (show (findC2 src dst s).1 ≠ 0 from hr)]
    have HF : Hid (Calls Tryz.prog 38 #[.pointer (some ⟨b, 0, none⟩), .string src, .slice (some ⟨w.heap.size + 1 + 1 + 1, 0, none⟩) 1 1] w3 (FindE w3 (.slice none 0 0) (findC2 src dst s).1 (findC2 src dst s).2)) := Lib.hid (by rw [show (findC (readyC2 src dst s.dead).1 (readyC2 src dst s.dead).2 src s.fs) = findC2 src dst s from rfl, if_neg hr] at hf; exact hf)
    have HRC := Lib.hid hr; clear hr hc hf hg
    go_enter Tryz.func48, Tryz.ntmps48
    go_wp2_with fail
    rw [← hw3]
    refine HF.out.mono ?_
    rintro e w4 ⟨ev, rfl, he, hb4⟩
    obtain ⟨f, rfl⟩ := err_ev HRC.out he
    have hb5 := box_below w4 45 (.slice none 0 0)
    have HE := Lib.hid (DErr.below' he hb5)
    have HB4 := Lib.hid (hb4.trans (hb5.mono hb4.size)); clear he hb4 hb5
    go_wp2_with fail
    go_ret
    exact devE_err HD.out HE.out HB4.out HB.out
end DiskP
end Go.Proofs.YtfbdhlpgklkjmaaGreatDoor
namespace Go.Proofs.YtfbdhlpgklkjmaaGreatDoor
open Go.RowKit Go.Maps
namespace DiskP
open DiskM DiskC ErrC
open Go.Lib (strCells strCells_length)

theorem nums_back (t : ByteArray) : strOfNums (t.data.toList.map fun x => (x.toNat : Int)) = t := by
  unfold strOfNums
  rw [List.map_map]
  have e : ((fun n : Int => UInt8.ofNat n.toNat) ∘ fun x : UInt8 => (x.toNat : Int)) = id := by
    funext x
    simp
  rw [e, List.map_id]
/-- string(held) -/
theorem text_of {w : World} {v : Value} {x : ByteArray} (h : Byt w v x) : (convert 45 9 v).run Tryz.prog w = .ok (.string x) w := by
  rcases h with ⟨rfl, rfl⟩ | ⟨g, cap, rfl, h1, h2, h3, h4⟩
  · have := run_convert_bytes_nil (P := Tryz.prog) w 45 5 Tryz.underlying45 Tryz.underlying5 0 0 9 Tryz.underlying9
    exact this
  · have := run_convert_bytes_arg (P := Tryz.prog) w 45 5 Tryz.underlying45 Tryz.underlying5 g 0 x.size cap (x.data.toList.map fun b => (b.toNat : Int)) (by rw [List.length_map, Array.length_toList]; rfl) (fun i hi => by
      have hil : i < x.data.toList.length := by rw [Array.length_toList]; exact hi
      rw [Nat.zero_add]
      refine h4 i _ ?_
      unfold strCells
      rw [List.getElem?_map, List.getElem?_eq_getElem hil]
      simp [List.getD, List.getElem?_eq_getElem hil]) 9 Tryz.underlying9
    rw [nums_back] at this
    exact this
theorem readS_eq (name : ByteArray) (s : DS) : readS name s = (if findC1 name s = 0 then bytesF name s.fs else ⟨#[]⟩, findC1 name s) := by
  unfold readS
  by_cases h : findC1 name s = 0
  · obtain ⟨h1, h2⟩ := findC1_zero h
    obtain ⟨h3, h4⟩ := readyC_z h1
    rw [if_neg (by rw [h3]; decide), if_neg (by rw [h4]; decide), if_neg (by rw [h2]; decide), if_pos h, h]
  · rw [if_neg h]
    rcases findC1_ne h with ⟨h1, h2⟩ | ⟨h1, h2, h3⟩
    · rw [h2]
      rcases readyC_ne h1 with ⟨h4, h5⟩ | ⟨h4, h5, h6⟩
      · rw [if_pos h4, h5]
      · rw [if_neg (by rw [h4]; decide), if_pos h5, h6]
    · obtain ⟨h4, h5⟩ := readyC_z h1
      rw [if_neg (by rw [h4]; decide), if_neg (by rw [h5]; decide), if_pos h2, h3]
/-- find of one name, in one word -/
theorem find1 {B b m : Nat} {F : Nat → Prop} {cut : Int} {s : DS} {D : DataW Unit} {vals : ByteArray → Value} {w : World} (h : Dsk B w b F cut s m D vals) (name : ByteArray) :
    ∃ v, Byt w v (readS name s).1 ∧ Calls Tryz.prog 38 #[.pointer (some ⟨b, 0, none⟩), .string name, .slice none 0 0] w (FindE w v (readS name s).2 name) := by
  have hf := find_of h name name (.slice none 0 0) (readyC name s.dead) (fun e => (readyC_zero e).1) (ready1 b m s.dead name w h.c0 h.c3)
  rw [findC_two, show (findC (readyC name s.dead) name name s.fs).1 = findC1 name s from rfl] at hf
  rw [readS_eq]
  by_cases hr : findC1 name s = 0
  · rw [if_pos hr] at hf ⊢
    exact ⟨_, (h.row name).1, hf⟩
  · rw [if_neg hr] at hf ⊢
    exact ⟨_, Or.inl ⟨rfl, rfl⟩, hf⟩
set_option maxHeartbeats 1000000 in
set_option maxRecDepth 100000 in
theorem read_any {B b m : Nat} {F : Nat → Prop} {cut : Int} {s : DS} {D : DataW Unit} {vals : ByteArray → Value} {w : World} (h : Dsk B w b F cut s m D vals) (name : ByteArray) :
    Calls Tryz.prog 26 #[.pointer (some ⟨b, 0, none⟩), .string name] w fun e w' => ∃ ev, e = .returned (.tuple #[.string (readS name s).1, ev]) ∧ DErr w w' ev (readS name s).2 name ∧ Below w.heap.size w w' := by
  obtain ⟨v, hv, hf⟩ := find1 h name
  have HF := Lib.hid hf
  have HV := Lib.hid hv
  clear h hf hv
  generalize readS name s = R at *
  obtain ⟨x, c⟩ := R
  go_enter Tryz.func26, Tryz.ntmps26
  go_wp2_with fail
  refine HF.out.mono ?_
  rintro e w1 ⟨ev, rfl, he, hb⟩
  have hcv := text_of (HV.out.keeps hb.size (fun g hg => hb.block g (HV.out.lt g hg)))
  have HE := Lib.hid he
  have HB := Lib.hid hb
  clear he hb
  go_wp2_with fail
  go_ret2
  exact ⟨_, rfl, HE.out, HB.out⟩
theorem has_read (name : ByteArray) (s : DS) (hl : ∀ f ∈ s.fs, mayB f.1 = true) (hs : Sorted s.fs) : (hasF name s.fs && !s.dead) = decide ((readS name s).2 = 0) := by
  rw [readS_eq]
  by_cases h : findC1 name s = 0
  · obtain ⟨h1, h2⟩ := findC1_zero h
    obtain ⟨h3, h4⟩ := readyC_z h1
    simp [h, h2, h4]
  · simp only [h, decide_false]
    rcases findC1_ne h with ⟨h1, -⟩ | ⟨-, h2, -⟩
    · rcases readyC_ne h1 with ⟨h4, -⟩ | ⟨-, h5, -⟩
      · have : hasF name s.fs = false := by
          cases e : hasF name s.fs with
          | false => rfl
          | true =>
            obtain ⟨f, hf, rfl⟩ := (has_mem hs).1 e
            rw [hl f hf] at h4; cases h4
        rw [this]; rfl
      · rw [h5]; simp
    · rw [h2]; rfl
set_option maxHeartbeats 1000000 in
set_option maxRecDepth 100000 in
theorem dead_any {B b m : Nat} {F : Nat → Prop} {cut : Int} {s : DS} {D : DataW Unit} {vals : ByteArray → Value} {w : World} (h : Dsk B w b F cut s m D vals) :
    Calls Tryz.prog 11 #[.pointer (some ⟨b, 0, none⟩)] w fun e w' => e = .returned (.bool s.dead) ∧ w = w' := by
  have k3 := h.c3
  have HT := Lib.hid (there_any b m w h.c0)
  clear h
  go_enter Tryz.func11, Tryz.ntmps11
  go_wp2_with fail
  refine HT.out.mono ?_
  rintro e w1 ⟨rfl, rfl⟩
  go_wp2_with fail
  go_ret
  exact ⟨rfl, rfl⟩
set_option maxHeartbeats 1000000 in
set_option maxRecDepth 100000 in
theorem restart_any {B b m : Nat} {F : Nat → Prop} {cut : Int} {s : DS} {D : DataW Unit} {vals : ByteArray → Value} {w : World} (h : Dsk B w b F cut s m D vals) (n : Int) :
    Calls Tryz.prog 7 #[.pointer (some ⟨b, 0, none⟩), .int .i64 n] w fun e w' => DevE (IsP B) F b n 0 ⟨#[]⟩ ⟨s.fs, 0, false⟩ w e w' ∧ Keeps (· = b) w w' := by
  have k1 := h.c1
  have k2 := h.c2
  have k3 := h.c3
  have f1 := h.free 1
  have f2 := h.free 2
  have f3 := h.free 3
  have HT := Lib.hid (there_any b m w h.c0)
  have HD := Lib.hid h
  clear h
  go_enter Tryz.func7, Tryz.ntmps7
  go_wp2_with fail
  refine HT.out.mono ?_
  rintro e w1 ⟨rfl, rfl⟩
  go_wp2_with fail
  go_ret
  have hk : Keeps (· = b) w (((w.setCell ⟨b, 1, none⟩ (.int .i64 n)).setCell ⟨b, 2, none⟩ (.int .i64 0)).setCell ⟨b, 3, none⟩ (.bool false)) := (((Keeps.refl _ w).setb 1 _).setb 2 _).setb 3 _
  refine ⟨⟨.nilIface, F, rfl, Or.inl ⟨rfl, rfl⟩, ⟨m, D, vals, ?_⟩, hk.mono (fun i e => by rw [e]; exact HD.out.files.fb), fun i hi => Or.inl hi⟩, hk⟩
  have e1 : (w.setCell ⟨b, 1, none⟩ (.int .i64 n)).cell? ⟨b, 1, none⟩ = some (.int .i64 n) := World.cell?_setCell_same _ _ _ k1
  have k2' : (w.setCell ⟨b, 1, none⟩ (.int .i64 n)).cell? ⟨b, 2, none⟩ = some (.int .i64 s.count) := by rw [cell_ne (by decide)]; exact k2
  have k3' : ((w.setCell ⟨b, 1, none⟩ (.int .i64 n)).setCell ⟨b, 2, none⟩ (.int .i64 0)).cell? ⟨b, 3, none⟩ = some (.bool s.dead) := by rw [cell_ne (by decide), cell_ne (by decide)]; exact k3
  have e2 : ((w.setCell ⟨b, 1, none⟩ (.int .i64 n)).setCell ⟨b, 2, none⟩ (.int .i64 0)).cell? ⟨b, 2, none⟩ = some (.int .i64 0) := World.cell?_setCell_same _ _ _ k2'
  exact ⟨by rw [cell_ne (by decide), cell_ne (by decide), cell_ne (by decide)]; exact HD.out.c0, by rw [cell_ne (by decide), cell_ne (by decide)]; exact e1, by rw [cell_ne (by decide)]; exact e2,
    World.cell?_setCell_same _ _ _ k3', fun j => by simpa using HD.out.free j,
    HD.out.files.turn hk (fun e => HD.out.files.bm e.symm) (fun n' g _ hg e => ((HD.out.files.file n' (fun e => e)).blk g hg).1 e) (fun _ e => e) (fun _ e => e) (fun i hi => by simpa using HD.out.files.lt i hi), by show n < 0 ∨ (0 : Int) ≤ n; omega, by simpa using HD.out.bw⟩
set_option maxHeartbeats 1000000 in
set_option maxRecDepth 100000 in
theorem new_any {B : Nat} {w : World} (cut : Int) (hB : B ≤ w.heap.size) :
    Calls Tryz.prog 6 #[.int .i64 cut] w fun e w' => ∃ b F, e = .returned (.pointer (some ⟨b, 0, none⟩)) ∧ IsP B w' b F cut ⟨[], 0, false⟩ ∧ Below w.heap.size w w' ∧ ∀ i, F i → w.heap.size ≤ i := by
  have HB := Lib.hid hB; clear hB
  have hmm := @run_makeMap Tryz.prog
  go_enter Tryz.func6, Tryz.ntmps6
  go_wp2_with fail
  go_ret
  refine ⟨w.heap.size + 1, fun i => i = w.heap.size ∨ i = w.heap.size + 1, rfl, ⟨w.heap.size, .map [], fun _ => .slice none 0 0, ?_⟩, ((Below.refl _ _).alloc (Nat.le_refl _) _).alloc (by simp) _, fun i hi => by omega⟩
  have c : ∀ j u, [Value.map (some w.heap.size), .int .i64 cut, .int .i64 0, .bool false][j]? = some u → ((w.alloc (.map #[] 0)).alloc (.cells #[.map (some w.heap.size), .int .i64 cut, .int .i64 0, .bool false] 57)).cell? ⟨w.heap.size + 1, j, none⟩ = some u := by
    intro j u hu
    rw [World.cell?_alloc_at _ _ _ _ (by simp)]
    match j, hu with
    | 0, hu => exact hu
    | 1, hu => exact hu
    | 2, hu => exact hu
    | 3, hu => exact hu
    | j + 4, hu => simp at hu
  refine ⟨c 0 _ rfl, c 1 _ rfl, c 2 _ rfl, c 3 _ rfl, fun j => by simp, ?_, by show cut < 0 ∨ (0 : Int) ≤ cut; omega, Nat.le_trans HB.out (by simp; omega)⟩
  exact ⟨(World.ownsMap_made w _ _ _).alloc _, rfl, fun n => rfl, fun n => rfl, fun n _ => ⟨Or.inl ⟨rfl, rfl⟩, fun g e => (by cases e), Or.inl (Or.inl rfl)⟩, Sorted.nil, fun i hi => by simp; omega, Or.inr rfl, Or.inl rfl, by omega⟩
end DiskP
end Go.Proofs.YtfbdhlpgklkjmaaGreatDoor
namespace Go.Proofs.YtfbdhlpgklkjmaaGreatDoor
open Go.RowKit Go.Maps Go.Sort
namespace DiskP
open DiskM DiskC ErrC

def keysN (fs : FL) : List (List UInt8) := fs.map (fun f => f.1.data.toList)
theorem keysN_mem {fs : FL} (hs : Sorted fs) (x : List UInt8) : x ∈ keysN fs ↔ hasF ⟨x.toArray⟩ fs = true := by
  rw [has_mem hs]
  unfold keysN
  rw [List.mem_map]
  constructor
  · rintro ⟨f, hf, rfl⟩; exact ⟨f, hf, by simp⟩
  · rintro ⟨f, hf, h⟩; exact ⟨f, hf, by rw [h]⟩
theorem less_lt {a b : ByteArray} (h : lessN a b = true) : a.data.toList < b.data.toList := by
  unfold lessN at h
  rw [bytesLess_eq] at h
  rw [ByteArray.toList_eq, ByteArray.toList_eq] at h
  simpa using h
theorem keysN_sorted {fs : FL} (hs : Sorted fs) : (keysN fs).Pairwise (fun a b => a < b) := by
  unfold keysN
  rw [List.pairwise_map]
  exact hs.imp (fun h => less_lt h)
theorem keysN_sort {fs : FL} (hs : Sorted fs) {ss : List (List UInt8)} (hp : ss.Perm (keysN fs)) : ss.mergeSort (fun x y => decide (x ≤ y)) = keysN fs := by
  have tr : ∀ a b c : List UInt8, leB a b = true → leB b c = true → leB a c = true := fun a b c h1 h2 => by simp only [leB, decide_eq_true_eq] at *; exact List.le_trans h1 h2
  have to : ∀ a b : List UInt8, (leB a b || leB b a) = true := fun a b => by simp only [leB, Bool.or_eq_true, decide_eq_true_eq]; exact List.le_total a b
  refine List.Perm.eq_of_pairwise (le := fun a b => leB a b = true) (fun a b _ _ h1 h2 => ?_) (List.pairwise_mergeSort tr to ss) ((keysN_sorted hs).imp (fun h => ?_)) ((List.mergeSort_perm ss leB).trans hp)
  · simp only [leB, decide_eq_true_eq] at h1 h2
    exact List.le_antisymm h1 h2
  · simp only [leB, decide_eq_true_eq]
    exact List.le_of_lt h
theorem keysN_perm {fs : FL} (hs : Sorted fs) {ss : List (List UInt8)} {D : DataW Unit} (hd : ∀ n, Maps.has D (keyN n) = hasF n fs) (hn : ss.Nodup) (hm : ∀ x, x ∈ ss ↔ Maps.has D (.string x) = true) : ss.Perm (keysN fs) := by
  refine (List.perm_ext_iff_of_nodup hn ((keysN_sorted hs).imp (fun h e => by rw [e] at h; exact List.lt_irrefl _ h))).2 fun x => ?_
  rw [hm x, keysN_mem hs, ← hd]
theorem keysN_cells (fs : FL) : (keysN fs).map encStr = (fs.map (·.1)).map Value.string := by
  unfold keysN
  rw [List.map_map, List.map_map]
  apply List.map_congr_left
  intro f _
  simp [encStr]
set_option maxRecDepth 100000 in
set_option maxHeartbeats 1000000 in
theorem names_dead {B b m : Nat} {F : Nat → Prop} {cut : Int} {s : DS} {D : DataW Unit} {vals : ByteArray → Value} {w : World} (h : Dsk B w b F cut s m D vals) (hd : s.dead = true) :
    Calls Tryz.prog 22 #[.pointer (some ⟨b, 0, none⟩)] w fun e w' => ∃ u, e = .returned u ∧ TextR.OwnT w' w.heap.size u (namesS s) ∧ Below w.heap.size w w' := by
  have k3 := h.c3
  have HT := Lib.hid (there_any b m w h.c0)
  rw [hd] at k3
  rw [show namesS s = [] by unfold namesS; rw [if_pos hd]]
  clear h hd
  go_enter Tryz.func22, Tryz.ntmps22
  go_wp2_with fail
  refine HT.out.mono ?_
  rintro e w1 ⟨rfl, rfl⟩
  go_wp2_with fail
  go_ret
  exact ⟨_, rfl, TextR.OwnT.nil _ _, Below.refl _ _⟩
set_option maxRecDepth 100000 in
set_option maxHeartbeats 4000000 in
theorem names_live {B b m : Nat} {F : Nat → Prop} {cut : Int} {s : DS} {D : DataW Unit} {vals : ByteArray → Value} {w : World} (h : Dsk B w b F cut s m D vals) (hd : s.dead = false) (hl : s.fs.length ≤ 65536) :
    Calls Tryz.prog 22 #[.pointer (some ⟨b, 0, none⟩)] w fun e w' => ∃ u, e = .returned u ∧ TextR.OwnT w' w.heap.size u (namesS s) ∧ Below w.heap.size w w' := by
  have k0 := h.c0
  have k3 := h.c3
  have HT := Lib.hid (there_any b m w h.c0)
  rw [hd] at k3
  rw [show namesS s = s.fs.map (·.1) by unfold namesS; rw [if_neg (by rw [hd]; decide)]]
  have hown := h.files.map
  have hsz := h.files.size
  have hbl : m < w.heap.size := h.files.lt m h.files.fm
  have HSO := Lib.hid h.files.sorted
  have HDOM := Lib.hid h.files.dom
  have hmax : Maps.size D ≤ maxLen := by rw [hsz]; unfold maxLen; omega
  have hbytes : 16 * Maps.size D ≤ 140737488355328 := by rw [hsz]; omega
  clear h hd hl hsz
  generalize s.fs.length = n at *
  obtain ⟨i0, hi, hz0, hz1, hz2⟩ := info_parts TextR.info_text
  go_enter Tryz.func22, Tryz.ntmps22
  go_wp2_with fail
  refine HT.out.mono ?_
  rintro e w0 ⟨rfl, rfl⟩
  go_wp2_with (first
    | (at_len; refine wpList_len_own _ rfl _ 55 rfl 9 45 Tryz.underlying55 _ m n _ rfl hown ?_)
    | (at_make; refine wpList_make_own _ rfl _ _ 22 rfl w.heap.size 9 i0 (.string ⟨#[]⟩) 1 Tryz.underlying22 hi hz0 hz1 _ _ _ (Maps.size D) rfl rfl rfl (by rw [hz2]; omega) hmax (Nat.le_refl _) ?_; intro w1 hrow1 hg1; have k1 : w1.cell? ⟨b, 0, none⟩ = some (.map (some m)) := hg1.cell k0 (by simp))
    | (at_range; refine wpList_range_own _ rfl _ 55 rfl 9 45 keyed Tryz.underlying55 _ m n _ rfl (hown.kept hg1 (by simp)) ?_; intro w2 hrg0 hg0 hs0))
  go_frame
  go_loopw [3] (fun v wr => ∃ (left : Lit → Bool) (cnt : Nat) (ss : List (List UInt8)), wr.ranges Tryz.prog 9 eR m w1.heap.size n D left cnt ∧ ss.length + cnt ≤ Maps.size D ∧
      wr.ownsRow w.heap.size 9 1 v ss.length (ss.map encStr) ∧ v ≠ .slice none 0 0 ∧ Hid (Collected D left ss) ∧ Below w.heap.size w wr)
    (fun _ wr => wr.rangeLeft m w1.heap.size)
  case atStart =>
    exact ⟨_, _, [], hrg0, by simp, hrow1.kept hg0 (Or.inr (by simp [Value.ownBlock])), by simp, Lib.hid (Collected.start D),
      ((Below.refl _ _).grown hg1 (Nat.le_refl _) (fun j hj => by cases hj)).grown hg0 hg1.size (fun j hj => by cases hj)⟩
  case round =>
    obtain ⟨left, cnt, ss, hrg, hcs, hrow, hnn, HC, hnx⟩ := hrel
    rename World => wr
    go_wp2_with (at_next; refine wpList_next_ranges _ rfl _ rfl 9 keyed eR encStr (id : Value → Value) (fun key kl hk => by obtain ⟨x, hx, _⟩ := Maps.keyOf_str Tryz.underlying9 hk; exact ⟨x, hx⟩) (fun v y _ => ⟨v, rfl⟩) m w1.heap.size n _ _ _ rfl hrg ?_ ?_)
    · intro hc0 hl0
      rcases hrow.2 with ⟨hnil, _⟩ | ⟨g, cap, cur, rfl, hbase, hb, h1, h2, h3, h4⟩
      · exact absurd hnil hnn
      have hH : Holds encStr wr g 0 ss.toArray := holds_of_block hb (by simpa using h4)
      have hgl : g < wr.heap.size := (Array.getElem?_eq_some_iff.1 hb).1
      have hc := Tryz.slices_Sort_string g 0 cap ss wr hH hgl (by unfold maxLen at *; omega)
      go_wp2_with fail
      refine hc.mono ?_
      rintro e w' ⟨rfl, nn, os, rfl⟩
      go_wp2_with fail
      go_ret
      have hpm := keysN_perm HSO.out HDOM.out HC.out.1 (fun x => by rw [HC.out.2 x, hl0]; simp)
      have hsort := keysN_sort HSO.out hpm
      refine ⟨_, rfl, ?_, hnx.grown (grownBy_sorted _) hnx.size (fun j hj => by cases hj; exact hbase)⟩
      rw [hsort]
      have hlen : (keysN s.fs).length = ss.length := hpm.length_eq.symm
      have hrw := ownsRow_sorted (w := wr) (n := nn) (os := os) (e := 9) (ss := ss) (ts := keysN s.fs) hlen hbase hb h1 h2 h3
      rw [keysN_cells] at hrw
      have hl2 : ss.length = (s.fs.map (·.1)).length := by rw [← hlen]; simp [keysN]
      rw [hl2] at hrw ⊢
      exact hrw
    · intro x c kl yd yp w3 cnt2 hkey hlk hv hat hrg2 hlt hg2 hs2 hen
      obtain ⟨x', ex, rfl, _⟩ := Maps.keyOf_str Tryz.underlying9 hkey
      obtain rfl : x = x' := encStr_inj ex
      have hrow2 := hrow.kept hg2 (Or.inr (row_ne_iter hrow hrg).symm)
      clear hs2
      go_wp2_with (at_builtin; refine wpList_append_own _ rfl _ _ 22 rfl w.heap.size 9 i0 (.string ⟨#[]⟩) 1 16 Tryz.underlying22 hi hz0 hz1 hz2 rfl (by decide) _ _ _ rfl (hrow2.alloc _) ⟨w3.heap.size, 0, none⟩ 1 1 [encStr x] rfl rfl (cell_one_new _ _ _) (by simp [Value.oneCell', encStr]) (by unfold maxLen at *; omega) (by omega) (by have := hnx.size; have := hg2.size; simp; omega) ?_; intro v' w4 hown' hg3 hnil3)
      have hrg3 := (hrg2.alloc _).kept hg3 (row_ne_low hrow2 hbl) (row_ne_iter hrow2 hrg2)
      go_roundw
      case rel =>
        refine ⟨_, cnt2, ss ++ [x], hrg3, by simp; omega, by simpa using hown', fun hv' => by have := (hnil3.1 hv').2; omega, Lib.hid (HC.out.step hlk hat), ?_⟩
        exact ((hnx.grown hg2 hnx.size (fun j hj => by cases hj; exact hg1.size)).alloc (by have := hnx.size; have := hg2.size; omega) _).grown hg3 (by have := hnx.size; have := hg2.size; simp; omega) (fun j hj => (hrow2.lt j hj).1)
      case measure => rw [hrg3.left_eq, hrg.left_eq]; exact hlt
end DiskP
end Go.Proofs.YtfbdhlpgklkjmaaGreatDoor
