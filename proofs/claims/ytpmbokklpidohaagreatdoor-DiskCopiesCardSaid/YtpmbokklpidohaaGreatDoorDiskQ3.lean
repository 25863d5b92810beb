/-
  Package disk's find, room, spend.
-/
import Derived.Test.YtpmbokklpidohaaGreatDoorDiskQ2
import Derived.Maps.OwnOps
namespace Go.Proofs.YtpmbokklpidohaaGreatDoor
open Go.RowKit Go.Maps
namespace DiskP
open DiskM DiskC ErrC

theorem zeroB (w : World) : (zeroValue 64).run Tryz.prog w = .ok (.slice none 0 0) w := by kernel_rfl
theorem eR_nil : eR (.slice none 0 0) = some (.nil, []) := rfl
/-- a slice and a fault, or none -/
def FindE (w : World) (v : Value) (c : Nat) (t : ByteArray) (e : Ending) (w' : World) : Prop := ∃ ev, e = .returned (.tuple #[v, ev]) ∧ DErr w w' ev c t ∧ Below w.heap.size w w'
def findC (c : Nat) (t : ByteArray) (name : ByteArray) (fs : FL) : Nat × ByteArray := if c ≠ 0 then (c, t) else if hasF name fs = false then (6, name) else (0, name)
set_option maxRecDepth 100000 in
set_option maxHeartbeats 4000000 in
theorem find_of {B b m : Nat} {F : Nat → Prop} {cut : Int} {s : DS} {D : DataW Unit} {vals : ByteArray → Value} {w : World} (h : Dsk B w b F cut s m D vals) (name t : ByteArray) (others : Value) (c : Nat) (hn : c = 0 → name.size ≤ 128)
    (hr : Calls Tryz.prog 40 #[.pointer (some ⟨b, 0, none⟩), .string name, others] w (ErrE w c t)) :
    Calls Tryz.prog 52 #[.pointer (some ⟨b, 0, none⟩), .string name, others] w (FindE w (if (findC c t name s.fs).1 = 0 then vals name else .slice none 0 0) (findC c t name s.fs).1 (findC c t name s.fs).2) := by
  have HR := Lib.hid hr; clear hr
  have HD := Lib.hid h; clear h
  by_cases hc : c = 0
  · subst hc
    have hkey := Lib.hid (keyOfN (hn rfl))
    clear hn
    cases hh : hasF name s.fs with
    | false =>
      rw [show findC 0 t name s.fs = (6, name) by simp [findC, hh]]
      have HH := Lib.hid hh; clear hh
      go_enter Tryz.func52, Tryz.ntmps52
      go_wp2_with fail
      refine HR.out.mono ?_
      rintro e w1 ⟨ev, rfl, he, hb⟩
      obtain ⟨-, rfl⟩ : 0 = 0 ∧ ev = .nilIface := by
        rcases he with he | ⟨h0, -⟩
        · exact he
        · exact absurd rfl h0
      have HD1 := Lib.hid (HD.out.below hb)
      have k0 := HD1.out.c0
      have HB1 := Lib.hid hb; clear he hb
      go_wp2_with (at_lookup; refine wpList_lookup_own_ok _ rfl _ _ 41 rfl 9 64 keyed Tryz.underlying41 eR (zeroB _) .nil [] eR_nil m s.fs.length D rfl HD1.out.files.map _ _ rfl hkey.out ?_; intro v ps hv; rw [HD1.out.files.dom, HH.out]; have HV := Lib.hid hv; clear hv)
      refine (fault_any 6 name _).mono ?_
      rintro e w' ⟨rfl, rfl⟩
      go_wp2_with fail
      go_ret2
      exact ⟨_, rfl, DErr.from (fault_derr 6 (by decide) name w1) HB1.out.size, HB1.out.trans ((fault_below 6 name w1).mono HB1.out.size)⟩
    | true =>
      rw [show findC 0 t name s.fs = (0, name) by simp [findC, hh]]
      have HH := Lib.hid hh; clear hh
      go_enter Tryz.func52, Tryz.ntmps52
      go_wp2_with fail
      refine HR.out.mono ?_
      rintro e w1 ⟨ev, rfl, he, hb⟩
      obtain ⟨-, rfl⟩ : 0 = 0 ∧ ev = .nilIface := by
        rcases he with he | ⟨h0, -⟩
        · exact he
        · exact absurd rfl h0
      have HD1 := Lib.hid (HD.out.below hb)
      have k0 := HD1.out.c0
      have HB1 := Lib.hid hb; clear he hb
      go_wp2_with (at_lookup; refine wpList_lookup_own_ok _ rfl _ _ 41 rfl 9 64 keyed Tryz.underlying41 eR (zeroB _) .nil [] eR_nil m s.fs.length D rfl HD1.out.files.map _ _ rfl hkey.out ?_; intro v ps hv; rw [HD1.out.files.dom, HH.out]; have HV := Lib.hid hv; clear hv)
      go_ret2
      exact ⟨_, by rw [HD1.out.files.look (fun e => e) HV.out]; rfl, Or.inl ⟨rfl, rfl⟩, HB1.out⟩
  · rw [show findC c t name s.fs = (c, t) by simp [findC, hc]]
    have hc2 : ¬ ((c, t).1 = 0) := hc
    rw [if_neg hc2]
    have HC := Lib.hid hc; clear hc hc2 hn
    go_enter Tryz.func52, Tryz.ntmps52
    go_wp2_with fail
    refine HR.out.mono ?_
    rintro e w1 ⟨ev, rfl, he, hb⟩
    have hev : ∃ f, ev = .iface 88 (.pointer (some ⟨f, 0, none⟩)) := by
      rcases he with ⟨h0, -⟩ | ⟨-, f, rfl, -⟩
      · exact absurd h0 HC.out
      · exact ⟨f, rfl⟩
    obtain ⟨f, rfl⟩ := hev
    have HE := Lib.hid he
    have HB1 := Lib.hid hb; clear he hb
    go_wp2_with fail
    go_ret2
    exact ⟨_, rfl, HE.out, HB1.out⟩
def roomC (name : ByteArray) (stay more : Nat) (fs : FL) : Nat := if 16777216 < stay + more ∨ (hasF name fs = false ∧ 65536 ≤ fs.length) then 4 else 0
set_option maxRecDepth 100000 in
set_option maxHeartbeats 4000000 in
theorem room_any {B b m : Nat} {F : Nat → Prop} {cut : Int} {s : DS} {D : DataW Unit} {vals : ByteArray → Value} {w : World} (h : Dsk B w b F cut s m D vals) (name : ByteArray) (stay more : Nat) (hn : name.size ≤ 128) (hs : stay ≤ 16777216) :
    Calls Tryz.prog 41 #[.pointer (some ⟨b, 0, none⟩), .string name, .int .i64 stay, .int .i64 more] w (ErrE w (roomC name stay more s.fs) name) := by
  have hkey := Lib.hid (keyOfN hn); clear hn
  have k0 := h.c0
  have hlen : ∀ ty : TypeId, (Builtin.len_ #[41] ty #[.map (some m)]).run Tryz.prog w = .ok (.int .i64 s.fs.length) w := fun ty => by
    have := h.files.map.len Tryz.underlying41 ty
    rw [h.files.size] at this
    exact this
  have HD := Lib.hid h; clear h
  have hw : IntKind.i64.wrap (16777216 - (stay : Int)) = 16777216 - (stay : Int) := IntWalk.i64_in _ ⟨by omega, by omega⟩
  have fin : ErrE w 4 name (.returned (.iface 88 (.pointer (some ⟨w.heap.size, 0, none⟩)))) (faultW 4 name w) := ⟨_, rfl, fault_derr 4 (by decide) name w, fault_below 4 name w⟩
  have HFIN := Lib.hid fin; clear fin
  by_cases h1 : 16777216 < stay + more
  · have hd : decide (16777216 - (stay : Int) < (more : Int)) = true := by simp; omega
    rw [show roomC name stay more s.fs = 4 by simp [roomC, h1]]
    clear h1 hs
    go_enter Tryz.func41, Tryz.ntmps41
    go_wp2_with (at_lookup; refine wpList_lookup_own_ok _ rfl _ _ 41 rfl 9 64 keyed Tryz.underlying41 eR (zeroB _) .nil [] eR_nil m s.fs.length D rfl HD.out.files.map _ _ rfl hkey.out ?_; intro v ps hv; rw [HD.out.files.dom]; clear hv)
    refine (fault_any 4 name _).mono ?_
    rintro e w' ⟨rfl, rfl⟩
    go_wp2_with fail
    go_ret
    exact HFIN.out
  · have hd : decide (16777216 - (stay : Int) < (more : Int)) = false := by simp; omega
    cases hh : hasF name s.fs with
    | true =>
      rw [show roomC name stay more s.fs = 0 by simp [roomC, h1, hh]]
      have HH := Lib.hid hh; clear hh h1 hs
      go_enter Tryz.func41, Tryz.ntmps41
      go_wp2_with (at_lookup; refine wpList_lookup_own_ok _ rfl _ _ 41 rfl 9 64 keyed Tryz.underlying41 eR (zeroB _) .nil [] eR_nil m s.fs.length D rfl HD.out.files.map _ _ rfl hkey.out ?_; intro v ps hv; rw [HD.out.files.dom, HH.out]; clear hv)
      go_ret
      exact errE_none w name
    | false =>
      by_cases h2 : 65536 ≤ s.fs.length
      · rw [show roomC name stay more s.fs = 4 by simp [roomC, h1, hh, h2]]
        have hd2 : decide ((65536 : Int) ≤ (s.fs.length : Int)) = true := by simp; omega
        have HH := Lib.hid hh; clear hh h1 hs h2
        go_enter Tryz.func41, Tryz.ntmps41
        go_wp2_with (at_lookup; refine wpList_lookup_own_ok _ rfl _ _ 41 rfl 9 64 keyed Tryz.underlying41 eR (zeroB _) .nil [] eR_nil m s.fs.length D rfl HD.out.files.map _ _ rfl hkey.out ?_; intro v ps hv; rw [HD.out.files.dom, HH.out]; clear hv)
        refine (fault_any 4 name _).mono ?_
        rintro e w' ⟨rfl, rfl⟩
        go_wp2_with fail
        go_ret
        exact HFIN.out
      · rw [show roomC name stay more s.fs = 0 by simp [roomC, h1, hh, h2]]
        have hd2 : decide ((65536 : Int) ≤ (s.fs.length : Int)) = false := by simp; omega
        have HH := Lib.hid hh; clear hh h1 hs h2
        go_enter Tryz.func41, Tryz.ntmps41
        go_wp2_with (at_lookup; refine wpList_lookup_own_ok _ rfl _ _ 41 rfl 9 64 keyed Tryz.underlying41 eR (zeroB _) .nil [] eR_nil m s.fs.length D rfl HD.out.files.map _ _ rfl hkey.out ?_; intro v ps hv; rw [HD.out.files.dom, HH.out]; clear hv)
        go_ret
        exact errE_none w name

/-! ### one raw write -/
theorem Dsk.setStruct {B : Nat} {w : World} {b : Nat} {F : Nat → Prop} {cut : Int} {s : DS} {m : Nat} {D : DataW Unit} {vals : ByteArray → Value} (h : Dsk B w b F cut s m D vals) (j : Nat) (u : Value) : Files NoEx (w.setCell ⟨b, j, none⟩ u) B b m F s.fs D vals :=
  h.files.turn (S := (· = b)) ((Keeps.refl _ _).setb _ _) (fun e => h.files.bm e.symm) (fun n g _ hg e => ((h.files.file n (fun e => e)).blk g hg).1 e) (fun _ e => e) (fun _ e => e) (fun i hi => by simpa using h.files.lt i hi)
theorem Dsk.setCut {B : Nat} {w : World} {b : Nat} {F : Nat → Prop} {cut : Int} {s : DS} {m : Nat} {D : DataW Unit} {vals : ByteArray → Value} (h : Dsk B w b F cut s m D vals) (c : Int) (hc : c < 0 ∨ (s.count : Int) ≤ c) : Dsk B (w.setCell ⟨b, 1, none⟩ (.int .i64 c)) b F c s m D vals :=
  ⟨by rw [cell_ne (by decide)]; exact h.c0, World.cell?_setCell_same _ _ _ h.c1, by rw [cell_ne (by decide)]; exact h.c2, by rw [cell_ne (by decide)]; exact h.c3, fun j => by simpa using h.free j, h.setStruct _ _, hc, by simpa using h.bw⟩
theorem Dsk.setCount {B : Nat} {w : World} {b : Nat} {F : Nat → Prop} {cut : Int} {s : DS} {m : Nat} {D : DataW Unit} {vals : ByteArray → Value} (h : Dsk B w b F cut s m D vals) (c : Nat) (hc : cut < 0 ∨ (c : Int) ≤ cut) : Dsk B (w.setCell ⟨b, 2, none⟩ (.int .i64 c)) b F cut ⟨s.fs, c, s.dead⟩ m D vals :=
  ⟨by rw [cell_ne (by decide)]; exact h.c0, by rw [cell_ne (by decide)]; exact h.c1, World.cell?_setCell_same _ _ _ h.c2, by rw [cell_ne (by decide)]; exact h.c3, fun j => by simpa using h.free j, h.setStruct _ _, hc, by simpa using h.bw⟩
theorem Dsk.setDead {B : Nat} {w : World} {b : Nat} {F : Nat → Prop} {cut : Int} {s : DS} {m : Nat} {D : DataW Unit} {vals : ByteArray → Value} (h : Dsk B w b F cut s m D vals) (d : Bool) : Dsk B (w.setCell ⟨b, 3, none⟩ (.bool d)) b F cut ⟨s.fs, s.count, d⟩ m D vals :=
  ⟨by rw [cell_ne (by decide)]; exact h.c0, by rw [cell_ne (by decide)]; exact h.c1, by rw [cell_ne (by decide)]; exact h.c2, World.cell?_setCell_same _ _ _ h.c3, fun j => by simpa using h.free j, h.setStruct _ _, h.cnt, by simpa using h.bw⟩
theorem Dsk.drewN {B : Nat} {w : World} {b : Nat} {F : Nat → Prop} {cut : Int} {s : DS} {m : Nat} {D : DataW Unit} {vals : ByteArray → Value} (h : Dsk B w b F cut s m D vals) (q : Nat) : Dsk B (w.drewN q) b F cut s m D vals :=
  h.keeps (S := fun _ => False) ((Keeps.refl _ w).drewN q) (fun _ _ e => e) (fun _ e => e.elim)
/-- what comes up where a raw write is not done -/
def LOST : List PanicEntry := [{ v := .iface 96 (.agg #[]), recovered := false }]
set_option maxRecDepth 100000 in
set_option maxHeartbeats 1000000 in
theorem spend_yes {B b m : Nat} {F : Nat → Prop} {cut : Int} {s : DS} {D : DataW Unit} {vals : ByteArray → Value} {w : World} (h : Dsk B w b F cut s m D vals) (hr : rawB cut s.count s.dead = true) (hc : s.count ≤ 4611686018427387904) :
    Calls Tryz.prog 49 #[.pointer (some ⟨b, 0, none⟩)] w fun e w' => e = .returned (.tuple #[]) ∧ Dsk B w' b F cut ⟨s.fs, s.count + 1, s.dead⟩ m D vals ∧ Keeps (· = b) w w' := by
  have hne : ¬ (0 ≤ cut ∧ cut ≤ s.count) := by unfold rawB at hr; simp at hr; omega
  have hcnt := h.cnt
  have k1 := h.c1
  have k2 := h.c2
  have kf := h.free 2
  have HD := Lib.hid h; clear h hr
  have hd : ((s.count : Int) == cut) = false := by rw [beq_eq_false_iff_ne]; omega
  have hadd : IntKind.i64.wrap ((s.count : Int) + 1) = (s.count : Int) + 1 := IntWalk.i64_in _ ⟨by omega, by omega⟩
  have HN : Hid (cut < 0 ∨ ((s.count + 1 : Nat) : Int) ≤ cut) := Lib.hid (by omega)
  clear hne hcnt hc
  go_enter Tryz.func49, Tryz.ntmps49
  go_wp2_with fail
  go_quiet (fail)
  go_wp2_with fail
  go_end0
  exact ⟨rfl, (HD.out.drewN _).setCount (s.count + 1) HN.out, ((Keeps.refl _ _).drewN _).setb _ _⟩
set_option maxRecDepth 100000 in
set_option maxHeartbeats 1000000 in
theorem spend_no {B b m : Nat} {F : Nat → Prop} {cut : Int} {s : DS} {D : DataW Unit} {vals : ByteArray → Value} {w : World} (h : Dsk B w b F cut s m D vals) (hr : rawB cut s.count s.dead = false) (hd0 : s.dead = false) :
    Calls Tryz.prog 49 #[.pointer (some ⟨b, 0, none⟩)] w fun e w' => e = .panicked LOST ∧ Dsk B w' b F cut ⟨s.fs, s.count, true⟩ m D vals ∧ Keeps (· = b) w w' := by
  have hne : 0 ≤ cut ∧ cut ≤ s.count := by unfold rawB at hr; rw [hd0] at hr; simpa using hr
  have hcnt := h.cnt
  have k1 := h.c1
  have k2 := h.c2
  have k3 := h.c3
  have kf := h.free 3
  have HD := Lib.hid h; clear h hr hd0
  have hd : ((s.count : Int) == cut) = true := by rw [beq_iff_eq]; omega
  clear hne hcnt
  unfold LOST
  go_enter Tryz.func49, Tryz.ntmps49
  go_wp2_with fail
  go_quiet (fail)
  go_wp2_with fail
  exact ⟨rfl, rfl, (HD.out.drewN _).setDead true, ((Keeps.refl _ _).drewN _).setb _ _⟩
end DiskP
end Go.Proofs.YtpmbokklpidohaaGreatDoor
