/-
  Package disk's Append.
-/
import Derived.Test.YtpmbokklpidohaaGreatDoorDiskW
namespace Go.Proofs.YtpmbokklpidohaaGreatDoor
open Go.RowKit Go.Maps
namespace DiskP
open DiskM DiskC ErrC

def IsP (B : Nat) (w : World) (b : Nat) (F : Nat → Prop) (cut : Int) (s : DS) : Prop := ∃ m D vals, Dsk B w b F cut s m D vals
theorem Went.lift {B b : Nat} {F : Nat → Prop} {cut : Int} {s : DS} {w w1 w2 : World} (h : Went B F b cut s w1 w2) (hb : Below w.heap.size w w1) : Went B F b cut s w w2 := by
  obtain ⟨F2, m2, D2, vals2, h1, h2⟩ := h.is
  exact ⟨⟨F2, m2, D2, vals2, h1, fun i hi => (h2 i hi).imp id (fun h => Nat.le_trans hb.size h)⟩, (Keeps.of_below hb).trans h.keeps⟩
theorem devE_of {B b c : Nat} {F : Nat → Prop} {cut : Int} {s : DS} {t : ByteArray} {w w1 w2 : World} {ev : Value} (hd : DErr w1 w2 ev c t) (h : Went B F b cut s w1 w2) (hb : Below w.heap.size w w1) : DevE (IsP B) F b cut c t s w (.returned ev) w2 := by
  have h' := h.lift hb
  obtain ⟨F', m, D, vals, hD, hF⟩ := h'.is
  exact ⟨ev, F', rfl, DErr.from hd hb.size, ⟨m, D, vals, hD⟩, h'.keeps, hF⟩
theorem devE_err {B b c m : Nat} {F : Nat → Prop} {cut : Int} {s : DS} {D : DataW Unit} {vals : ByteArray → Value} {t : ByteArray} {w w1 w2 : World} {ev : Value} (hD : Dsk B w1 b F cut s m D vals) (hd : DErr w1 w2 ev c t) (h : Below w1.heap.size w1 w2) (hb : Below w.heap.size w w1) : DevE (IsP B) F b cut c t s w (.returned ev) w2 :=
  devE_of hd ((hD.below h).went (Keeps.of_below h)) hb
/-- the blocks in which a call's parameters lie that a closure takes -/
def box1 (w : World) (t : TypeId) (u : Value) : World := w.alloc (.cells #[u] t)
theorem box_below (w : World) (t : TypeId) (u : Value) : Below w.heap.size w (box1 w t u) := (Below.refl _ _).alloc (Nat.le_refl _) _
theorem box_at (w : World) (t : TypeId) (u : Value) : (box1 w t u).cell? ⟨w.heap.size, 0, none⟩ = some u := by
  unfold box1
  rw [World.cell?_alloc_at _ _ _ _ rfl]; rfl
theorem box_size (w : World) (t : TypeId) (u : Value) : (box1 w t u).heap.size = w.heap.size + 1 := by simp [box1]
theorem box_keep {w : World} {p : Addr} {u : Value} (h : w.cell? p = some u) (t : TypeId) (v : Value) : (box1 w t v).cell? p = some u := (World.cell?_alloc_lt w _ p (World.block_lt_of_cell? _ _ h)).trans h
theorem below_keep {w w' : World} (hb : Below w.heap.size w w') {p : Addr} {u : Value} (h : w.cell? p = some u) : w'.cell? p = some u := by rw [hb.cell (World.block_lt_of_cell? _ _ h)]; exact h

set_option maxHeartbeats 1000000 in
set_option maxRecDepth 100000 in
theorem append_body {B b m : Nat} {F : Nat → Prop} {cut : Int} {s : DS} {D : DataW Unit} {vals : ByteArray → Value} {w : World} (h : Dsk B w b F cut s m D vals) (p0 p1 p2 : Nat) (name x : ByteArray) (k0 : w.cell? ⟨p0, 0, none⟩ = some (.pointer (some ⟨b, 0, none⟩))) (k1 : w.cell? ⟨p1, 0, none⟩ = some (.string name)) (k2 : w.cell? ⟨p2, 0, none⟩ = some (.string x))
    (hn : name.size ≤ 128) (hd : s.dead = false) (hm : room name s.fs ≤ 1048576) (hz : (bytesF name s.fs).size + x.size ≤ 274877906944) (hc : s.count + x.size ≤ 1099511627776) :
    Calls Tryz.prog 43 #[.pointer (some ⟨p0, 0, none⟩), .pointer (some ⟨p1, 0, none⟩), .pointer (some ⟨p2, 0, none⟩)] w (AddE B F b cut (addsR cut name x s) w) := by
  have HA := Lib.hid (add_any h name x hn hd hm hz hc)
  clear h hn hd hm hz hc
  generalize addsR cut name x s = R at *
  obtain ⟨ok, s1⟩ := R
  go_enter Tryz.func43, Tryz.ntmps43
  go_wp2_with fail
  refine HA.out.mono ?_
  rintro e w' ⟨rfl, hw⟩
  have HW := Lib.hid hw
  clear hw HA
  cases ok
  · go_wp2_with fail
    exact ⟨rfl, rfl, HW.out⟩
  · go_wp2_with fail
    go_end0
    exact ⟨rfl, HW.out⟩
theorem appendS_eq (cut : Int) (name x : ByteArray) (s : DS) : appendS cut name x s = if readyC name s.dead ≠ 0 then (readyC name s.dead, s) else if roomC name (bytesF name s.fs).size x.size s.fs ≠ 0 then (4, s) else (code5 (addsR cut name x s).1, (addsR cut name x s).2) := by
  unfold appendS readyC roomC
  by_cases h1 : mayB name = false
  · simp [h1]
  · by_cases h2 : s.dead = true
    · simp [h1, h2]
    · by_cases h3 : 16777216 < (bytesF name s.fs).size + x.size ∨ (hasF name s.fs = false ∧ 65536 ≤ s.fs.length)
      · simp [h1, h2, h3]
      · simp [h1, h2, h3]
theorem readyC_zero {name : ByteArray} {dead : Bool} (h : readyC name dead = 0) : name.size ≤ 128 ∧ dead = false := by
  rcases readyC_cases name dead with ⟨h1, -⟩ | ⟨h1, -⟩ | ⟨h1, -⟩ | ⟨h1, h2, -, h3⟩
  · rw [h1] at h; cases h
  · rw [h1] at h; cases h
  · rw [h1] at h; cases h
  · exact ⟨h3, h2⟩
theorem err_ev {w w1 : World} {ev : Value} {c : Nat} {t : ByteArray} (hc : c ≠ 0) (h : DErr w w1 ev c t) : ∃ f, ev = .iface 88 (.pointer (some ⟨f, 0, none⟩)) := by
  rcases h with ⟨h0, -⟩ | ⟨-, f, rfl, -⟩
  · exact absurd h0 hc
  · exact ⟨f, rfl⟩
theorem nil_ev {w w1 : World} {ev : Value} {c : Nat} {t : ByteArray} (hc : c = 0) (h : DErr w w1 ev c t) : ev = .nilIface := by
  rcases h with ⟨-, h0⟩ | ⟨h0, -⟩
  · exact h0
  · exact absurd hc h0
theorem roomC_zero {name : ByteArray} {stay more : Nat} {fs : FL} (h : roomC name stay more fs = 0) (hl : fs.length ≤ 65536) : stay + more ≤ 16777216 ∧ room name fs ≤ 1048576 := by
  unfold roomC at h
  split at h
  · cases h
  · rename_i hn
    exact ⟨by omega, by unfold room; split <;> omega⟩
theorem roomC_ne {name : ByteArray} {stay more : Nat} {fs : FL} (h : ¬ roomC name stay more fs = 0) : roomC name stay more fs = 4 := by
  unfold roomC at h ⊢
  split
  · rfl
  · rename_i hn; rw [if_neg hn] at h; exact absurd rfl h
theorem below_drew1 (w : World) (q : Nat) : Below q w (w.drewN 1) := ⟨rfl, rfl, rfl, Nat.le_refl _, fun _ _ => rfl⟩
set_option maxHeartbeats 4000000 in
set_option maxRecDepth 100000 in
theorem append_any {B b m : Nat} {F : Nat → Prop} {cut : Int} {s : DS} {D : DataW Unit} {vals : ByteArray → Value} {w : World} (h : Dsk B w b F cut s m D vals) (name x : ByteArray) (hg : DiskC.Good s.fs) (hc : s.count ≤ 549755813888) :
    Calls Tryz.prog 16 #[.pointer (some ⟨b, 0, none⟩), .string name, .string x] w (DevE (IsP B) F b cut (appendS cut name x s).1 name (appendS cut name x s).2 w) := by
  have hb1 := box_below w 23 (.pointer (some ⟨b, 0, none⟩))
  have hb2 := box_below (box1 w 23 (.pointer (some ⟨b, 0, none⟩))) 9 (.string name)
  have hb3 := box_below (box1 (box1 w 23 (.pointer (some ⟨b, 0, none⟩))) 9 (.string name)) 9 (.string x)
  have c0 := box_at w 23 (.pointer (some ⟨b, 0, none⟩))
  have c1 := box_at (box1 w 23 (.pointer (some ⟨b, 0, none⟩))) 9 (.string name)
  have c2 := box_at (box1 (box1 w 23 (.pointer (some ⟨b, 0, none⟩))) 9 (.string name)) 9 (.string x)
  have z1 := box_size w 23 (.pointer (some ⟨b, 0, none⟩))
  have z2 := box_size (box1 w 23 (.pointer (some ⟨b, 0, none⟩))) 9 (.string name)
  rw [z1] at c1
  rw [z2, z1] at c2
  replace c1 := box_keep c1 9 (.string x)
  replace c0 := box_keep (box_keep c0 9 (.string name)) 9 (.string x)
  have hb : Below w.heap.size w (box1 (box1 (box1 w 23 (.pointer (some ⟨b, 0, none⟩))) 9 (.string name)) 9 (.string x)) := (hb1.trans (hb2.mono hb1.size)).trans (hb3.mono (hb1.trans (hb2.mono hb1.size)).size)
  have HD := Lib.hid (h.below hb)
  have HB := Lib.hid hb
  clear hb1 hb2 hb3 z1 z2 hb h
  have hw3 : box1 (box1 (box1 w 23 (.pointer (some ⟨b, 0, none⟩))) 9 (.string name)) 9 (.string x) = ((w.alloc (.cells #[.pointer (some ⟨b, 0, none⟩)] 23)).alloc (.cells #[.string name] 9)).alloc (.cells #[.string x] 9) := rfl
  generalize box1 (box1 (box1 w 23 (.pointer (some ⟨b, 0, none⟩))) 9 (.string name)) 9 (.string x) = w3 at *
  rw [appendS_eq]
  have HR := Lib.hid (ready1 b m s.dead name w3 HD.out.c0 HD.out.c3)
  by_cases hr : readyC name s.dead = 0
  · rw [if_neg (fun e => e hr)]
    obtain ⟨hn, hdead⟩ := readyC_zero hr
    have HRC := Lib.hid hr; clear hr
    have hx1 : (bytesF name s.fs).size ≤ 16777216 := good_bytes hg name
    have hx1' := Lib.hid hx1
    obtain ⟨va, vc, hv, -⟩ := (HD.out.row name).1.len
    by_cases hrm : roomC name (bytesF name s.fs).size x.size s.fs = 0
    · rw [if_neg (fun e => e hrm)]
      obtain ⟨hz, hroom⟩ := roomC_zero hrm hg.1
      have HRM := Lib.hid hrm
      have HBD : Hid (room name s.fs ≤ 1048576 ∧ (bytesF name s.fs).size + x.size ≤ 274877906944 ∧ s.count + x.size ≤ 1099511627776 ∧ s.dead = false) := Lib.hid ⟨hroom, by omega, by omega, hdead⟩
      clear hrm hg hc hdead hz hroom
      go_enter Tryz.func16, Tryz.ntmps16
      go_wp2_with fail
      rw [← hw3]
      refine HR.out.mono ?_
      rintro e w4 ⟨ev, rfl, he, hb4⟩
      obtain rfl := nil_ev HRC.out he
      have HD4 := Lib.hid (HD.out.below hb4)
      have HB4 := Lib.hid (HB.out.trans (hb4.mono HB.out.size))
      have k0 := below_keep hb4 c0
      have k1 := below_keep hb4 c1
      have k2 := below_keep hb4 c2
      have k3 := HD4.out.c0
      clear he hb4 c0 c1 c2 hw3 HD HR
      generalize hq : w.heap.size = q at *
      go_wp2_with fail
      have hlk : (Instr.lookup 41 (.map (some m)) (.string name) false).run Tryz.prog w4.drew = .ok (.slice va (bytesF name s.fs).size vc) w4.drew := by
        obtain ⟨v, ps, hrun, hv2⟩ := (HD4.out.drewN 1).files.map.lookup keyed Tryz.underlying41 (zeroB w4.drew) eR_nil (keyOfN hn)
        rw [HD4.out.files.look (fun e => e) hv2, hv] at hrun
        exact hrun
      have HRO := Lib.hid (room_any (HD4.out.drewN 1) name (bytesF name s.fs).size x.size hn hx1)
      go_region_held3 (fun w' => w'.cell? ⟨q, 0, none⟩ = some (.pointer (some ⟨b, 0, none⟩)) ∧ w'.cell? ⟨q + 1, 0, none⟩ = some (.string name) ∧ w'.cell? ⟨q + 1 + 1, 0, none⟩ = some (.string x) ∧ w'.cell? ⟨b, 0, none⟩ = some (.map (some m))) (first | exact ⟨k0, k1, k2, k3⟩ | exact ⟨d0, d1, d2, d3⟩)
        (first
          | (go_at_call 41
             refine HRO.out.mono ?_
             rintro e w5 ⟨ev, rfl, he, hb5⟩
             obtain rfl := nil_ev HRM.out he
             have d0 := below_keep hb5 k0
             have d1 := below_keep hb5 k1
             have d2 := below_keep hb5 k2
             have d3 := below_keep hb5 k3
             have HB5 := Lib.hid hb5
             clear he hb5))
      have HD5 := Lib.hid ((HD4.out.drewN 1).below HB5.out)
      have hbB : Below w.heap.size w w5 := by
        rw [hq]
        exact (HB4.out.trans (by rw [← hq]; exact below_drew1 w4 _)).trans (HB5.out.mono (by have := HB4.out.size; rw [hq] at this; exact this))
      have HBB := Lib.hid hbB; clear hbB
      have HBODY := Lib.hid (append_body (HD5.out.below (poweredW_below name w5)) q (q + 1) (q + 1 + 1) name x (below_keep (poweredW_below name w5) d0) (below_keep (poweredW_below name w5) d1) (below_keep (poweredW_below name w5) d2) hn HBD.out.2.2.2 HBD.out.1 HBD.out.2.1 HBD.out.2.2.1)
      have hcf : ∀ w : World, (callFunc 43 #[.pointer (some ⟨q, 0, none⟩), .pointer (some ⟨q + 1, 0, none⟩), .pointer (some ⟨q + 1 + 1, 0, none⟩)]).run Tryz.prog w = .ok (.enter 43 #[.pointer (some ⟨q, 0, none⟩), .pointer (some ⟨q + 1, 0, none⟩), .pointer (some ⟨q + 1 + 1, 0, none⟩)]) w := fun w => by simp [go_sem]
      have HCF := Lib.hid hcf; clear hcf
      have hmf : ∀ (fn : Fn) (first cap : Array Value) (w : World), (Instr.makeFunc fn first cap).run Tryz.prog w = .ok (.func fn first cap) w := fun _ _ _ _ => rfl
      clear hq
      go_wp2_with fail
      refine (powered_any HD5.out name _ _ (addsR cut name x s).1 HCF.out HBODY.out).mono ?_
      rintro e w6 ⟨ev, rfl, he, hw⟩
      have HE := Lib.hid he
      have HW := Lib.hid hw
      clear he hw
      go_wp2_with fail
      go_ret
      exact devE_of HE.out HW.out HBB.out
    · rw [if_pos hrm]
      have HRM := Lib.hid hrm; clear hrm
      clear hg hc hdead
      go_enter Tryz.func16, Tryz.ntmps16
      go_wp2_with fail
      rw [← hw3]
      refine HR.out.mono ?_
      rintro e w4 ⟨ev, rfl, he, hb4⟩
      obtain rfl := nil_ev HRC.out he
      have HD4 := Lib.hid (HD.out.below hb4)
      have HB4 := Lib.hid (HB.out.trans (hb4.mono HB.out.size))
      have k0 := below_keep hb4 c0
      have k1 := below_keep hb4 c1
      have k2 := below_keep hb4 c2
      have k3 := HD4.out.c0
      clear he hb4 c0 c1 c2 hw3 HD HR
      generalize hq : w.heap.size = q at *
      go_wp2_with fail
      have hlk : (Instr.lookup 41 (.map (some m)) (.string name) false).run Tryz.prog w4.drew = .ok (.slice va (bytesF name s.fs).size vc) w4.drew := by
        obtain ⟨v, ps, hrun, hv2⟩ := (HD4.out.drewN 1).files.map.lookup keyed Tryz.underlying41 (zeroB w4.drew) eR_nil (keyOfN hn)
        rw [HD4.out.files.look (fun e => e) hv2, hv] at hrun
        exact hrun
      have HRO := Lib.hid (room_any (HD4.out.drewN 1) name (bytesF name s.fs).size x.size hn hx1)
      go_region_held3 (fun w' => w'.cell? ⟨q, 0, none⟩ = some (.pointer (some ⟨b, 0, none⟩)) ∧ w'.cell? ⟨q + 1, 0, none⟩ = some (.string name) ∧ w'.cell? ⟨q + 1 + 1, 0, none⟩ = some (.string x) ∧ w'.cell? ⟨b, 0, none⟩ = some (.map (some m))) (first | exact ⟨k0, k1, k2, k3⟩ | exact ⟨d0, d1, d2, d3⟩)
        (first
          | (go_at_call 41
             refine HRO.out.mono ?_
             rintro e w5 ⟨ev, rfl, he, hb5⟩
             obtain ⟨f5, rfl⟩ := err_ev HRM.out he
             have d0 := below_keep hb5 k0
             have d1 := below_keep hb5 k1
             have d2 := below_keep hb5 k2
             have d3 := below_keep hb5 k3
             have HE5 := Lib.hid he
             have HB5 := Lib.hid hb5
             clear he hb5))
      go_wp2_with fail
      go_ret
      rw [show roomC name (bytesF name s.fs).size x.size s.fs = 4 from roomC_ne HRM.out] at HE5
      refine devE_err (HD4.out.drewN 1) HE5.out HB5.out ?_
      rw [hq]
      exact HB4.out.trans (by rw [← hq]; exact below_drew1 w4 _)
  · rw [if_pos hr]
    have HRC := Lib.hid hr; clear hr
    go_enter Tryz.func16, Tryz.ntmps16
    go_wp2_with fail
    rw [← hw3]
    refine HR.out.mono ?_
    rintro e w4 ⟨ev, rfl, he, hb4⟩
    obtain ⟨f, rfl⟩ := err_ev HRC.out he
    have HE := Lib.hid he
    have HB4 := Lib.hid hb4; clear he hb4
    go_wp2_with fail
    go_ret
    exact devE_err HD.out HE.out HB4.out HB.out
end DiskP
end Go.Proofs.YtpmbokklpidohaaGreatDoor
