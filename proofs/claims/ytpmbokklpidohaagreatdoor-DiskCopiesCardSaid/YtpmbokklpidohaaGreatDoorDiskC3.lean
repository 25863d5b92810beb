/-
  Package disk's Remove.
-/
import Derived.Test.YtpmbokklpidohaaGreatDoorDiskC2
namespace Go.Proofs.YtpmbokklpidohaaGreatDoor
open Go.RowKit Go.Maps
namespace DiskP
open DiskM DiskC ErrC

/-- one file is taken out of the map -/
theorem Dsk.erase {B : Nat} {w : World} {b : Nat} {F : Nat → Prop} {cut : Int} {s : DS} {m : Nat} {D : DataW Unit} {vals : ByteArray → Value} {name : ByteArray} (h : Dsk B w b F cut s m D vals) (hn : name.size ≤ 128) (ty : TypeId) :
    ∃ w2, (Builtin.delete_ #[41, 9] ty #[.map (some m), .string name]).run Tryz.prog w = .ok (.tuple #[]) w2 ∧ Dsk B w2 b F cut ⟨takeF name s.fs, s.count, s.dead⟩ m (D.del (keyN name)) (upd vals name (.slice none 0 0)) ∧ w.grownBy w2 (some m) := by
  obtain ⟨w2, hrun, hm, ht⟩ := h.files.map.drop keyed Tryz.underlying41 (keyOfN hn) ty
  have hg := ht.grown
  have hbm := h.files.bm
  have e : w2.heap[b]? = w.heap[b]? := hg.block b h.lt (fun e => hbm (by simpa using e))
  have ec : ∀ j, w2.cell? ⟨b, j, none⟩ = w.cell? ⟨b, j, none⟩ := fun j => World.cell?_of_block (a := ⟨b, j, none⟩) e
  have ef : ∀ j, w2.frozen? ⟨b, j, none⟩ = w.frozen? ⟨b, j, none⟩ := fun j => World.frozen?_of_block (a := ⟨b, j, none⟩) e
  exact ⟨w2, hrun, ⟨by rw [ec]; exact h.c0, by rw [ec]; exact h.c1, by rw [ec]; exact h.c2, by rw [ec]; exact h.c3, fun j => by rw [ef]; exact h.free j, h.files.del hm hg, h.cnt, Nat.le_trans h.bw hg.size⟩, hg⟩
theorem step_delete {w : World} {ops : Array Oper} {o : Oper} {a : Act} {K : Act → World → Prop} {Q : Exit → Act → World → Prop} {E : Prop} (hgd : o.guard = none) (om ox : Operand)
    (ho : o.op = .call { callee := .builtin .delete, args := #[om, ox], argTypes := #[41, 9] }) {B b m : Nat} {F : Nat → Prop} {cut : Int} {s : DS} {D : DataW Unit} {vals : ByteArray → Value} (name : ByteArray) (hm : a.eval om = .map (some m)) (hx : a.eval ox = .string name)
    (hD : Dsk B w b F cut s m D vals) (hn : name.size ≤ 128)
    (h : ∀ w2, Dsk B w2 b F cut ⟨takeF name s.fs, s.count, s.dead⟩ m (D.del (keyN name)) (upd vals name (.slice none 0 0)) → w.grownBy w2 (some m) → K (a.put o.dst (.tuple #[])) w2) :
    if Region.wanted o (yielded ops a.tmps) = true then Oper.wp Tryz.prog o a w K Q else E := by
  have hw : Region.wanted o (yielded ops a.tmps) = true := by simp [Region.wanted, hgd]
  rw [if_pos hw]
  obtain ⟨w2, hrun, h2, h3⟩ := hD.erase hn o.type
  unfold Oper.wp execOp
  simp only [ho, resolve, invoke, builtin, Sem.run_bind, Sem.run_pure, Result.andThen_ok, List.map_toArray, List.map_cons, List.map_nil, hm, hx, hrun]
  exact h w2 h2 h3
def removeR (cut : Int) (name : ByteArray) (s : DS) : Bool × DS := if rawB cut s.count s.dead = false then (false, ⟨s.fs, s.count, true⟩) else (true, ⟨takeF name s.fs, s.count + 1, s.dead⟩)
def findC1 (name : ByteArray) (s : DS) : Nat := (findC (readyC name s.dead) name name s.fs).1
theorem findC_two (name : ByteArray) (s : DS) : (findC (readyC name s.dead) name name s.fs).2 = name := by
  unfold findC
  repeat' split
  all_goals rfl
theorem findC1_zero {name : ByteArray} {s : DS} (h : findC1 name s = 0) : readyC name s.dead = 0 ∧ hasF name s.fs = true := by
  unfold findC1 findC at h
  split at h
  · rename_i hc; exact absurd h hc
  · rename_i hc
    split at h
    · cases h
    · rename_i hh; exact ⟨by simpa using hc, by simpa using hh⟩
theorem findC1_ne {name : ByteArray} {s : DS} (h : ¬ findC1 name s = 0) : (readyC name s.dead ≠ 0 ∧ findC1 name s = readyC name s.dead) ∨ (readyC name s.dead = 0 ∧ hasF name s.fs = false ∧ findC1 name s = 6) := by
  unfold findC1 findC at h ⊢
  split at h
  · rename_i hc; exact Or.inl ⟨hc, by rw [if_pos hc]⟩
  · rename_i hc
    split at h
    · rename_i hh; exact Or.inr ⟨by simpa using hc, hh, by rw [if_neg hc, if_pos hh]⟩
    · exact absurd rfl h
theorem readyC_ne {name : ByteArray} {dead : Bool} (h : readyC name dead ≠ 0) : (mayB name = false ∧ readyC name dead = 2) ∨ (mayB name = true ∧ dead = true ∧ readyC name dead = 5) := by
  unfold readyC at h ⊢
  by_cases h1 : mayB name = false
  · exact Or.inl ⟨h1, by rw [if_pos h1]⟩
  · rw [if_neg h1] at h ⊢
    by_cases h2 : dead = true
    · exact Or.inr ⟨by simpa using h1, h2, by rw [if_pos h2]⟩
    · rw [if_neg h2] at h; exact absurd rfl h
theorem readyC_z {name : ByteArray} {dead : Bool} (h : readyC name dead = 0) : mayB name = true ∧ dead = false := by
  unfold readyC at h
  by_cases h1 : mayB name = false
  · rw [if_pos h1] at h; cases h
  · rw [if_neg h1] at h
    by_cases h2 : dead = true
    · rw [if_pos h2] at h; cases h
    · exact ⟨by simpa using h1, by simpa using h2⟩
theorem removeS_eq (cut : Int) (name : ByteArray) (s : DS) : removeS cut name s = if findC1 name s ≠ 0 then (findC1 name s, s) else (code5 (removeR cut name s).1, (removeR cut name s).2) := by
  unfold removeS
  by_cases h : findC1 name s = 0
  · obtain ⟨h1, h2⟩ := findC1_zero h
    obtain ⟨h3, h4⟩ := readyC_z h1
    rw [if_neg (by rw [h3]; decide), if_neg (by rw [h4]; decide), if_neg (by rw [h2]; decide), if_neg (show ¬ (findC1 name s ≠ 0) from fun e => e h)]
    unfold removeR
    by_cases h5 : rawB cut s.count s.dead = false
    · rw [if_pos h5, if_pos h5]; rfl
    · rw [if_neg h5, if_neg h5]; rfl
  · rw [if_pos (show findC1 name s ≠ 0 from h)]
    rcases findC1_ne h with ⟨h1, h2⟩ | ⟨h1, h2, h3⟩
    · rw [h2]
      rcases readyC_ne h1 with ⟨h4, h5⟩ | ⟨h4, h5, h6⟩
      · rw [if_pos h4, h5]
      · rw [if_neg (by rw [h4]; decide), if_pos h5, h6]
    · obtain ⟨h4, h5⟩ := readyC_z h1
      rw [if_neg (by rw [h4]; decide), if_neg (by rw [h5]; decide), if_pos h2, h3]
set_option maxHeartbeats 2000000 in
set_option maxRecDepth 100000 in
theorem remove_body {B b m : Nat} {F : Nat → Prop} {cut : Int} {s : DS} {D : DataW Unit} {vals : ByteArray → Value} {w : World} (h : Dsk B w b F cut s m D vals) (p0 p1 : Nat) (name : ByteArray) (k0 : w.cell? ⟨p0, 0, none⟩ = some (.pointer (some ⟨b, 0, none⟩))) (k1 : w.cell? ⟨p1, 0, none⟩ = some (.string name))
    (hp : ∀ p, p = p0 ∨ p = p1 → ¬ F p) (hn : name.size ≤ 128) (hd : s.dead = false) (hc : s.count ≤ 549755813888) :
    Calls Tryz.prog 57 #[.pointer (some ⟨p0, 0, none⟩), .pointer (some ⟨p1, 0, none⟩)] w (AddE B F b cut (removeR cut name s) w) := by
  by_cases hr : rawB cut s.count s.dead = false
  · rw [show removeR cut name s = (false, ⟨s.fs, s.count, true⟩) by simp [removeR, hr]]
    have HSP := Lib.hid (spend_no h hr hd)
    have HD := Lib.hid h
    clear h hn hd hc hr hp
    go_enter Tryz.func57, Tryz.ntmps57
    go_wp2_with fail
    refine HSP.out.mono ?_
    rintro e w1 ⟨rfl, hd1, hk1⟩
    have HD1 := Lib.hid hd1
    have HK1 := Lib.hid hk1; clear hd1 hk1
    go_wp2_with fail
    exact ⟨rfl, rfl, HD1.out.went (HK1.out.mono (fun i e => by rw [e]; exact HD.out.files.fb))⟩
  · have hrt : rawB cut s.count s.dead = true := by simpa using hr
    rw [show removeR cut name s = (true, ⟨takeF name s.fs, s.count + 1, s.dead⟩) by simp [removeR, hrt]]
    have HSP := Lib.hid (spend_yes h hrt (by omega))
    have HFM := Lib.hid h.files.fm
    have HP := Lib.hid hp
    have HFB := Lib.hid h.files.fb
    have HK0 := Lib.hid k0
    have HK1 := Lib.hid k1
    clear h hd hc hp hr hrt
    have ck : ∀ w', Keeps F w w' → w'.cell? ⟨p0, 0, none⟩ = some (.pointer (some ⟨b, 0, none⟩)) ∧ w'.cell? ⟨p1, 0, none⟩ = some (.string name) := fun w' k =>
      ⟨(World.cell?_of_block (a := ⟨p0, 0, none⟩) (k.block p0 (World.block_lt_of_cell? _ _ HK0.out) (HP.out p0 (Or.inl rfl)))).trans HK0.out, (World.cell?_of_block (a := ⟨p1, 0, none⟩) (k.block p1 (World.block_lt_of_cell? _ _ HK1.out) (HP.out p1 (Or.inr rfl)))).trans HK1.out⟩
    have HCK := Lib.hid ck; clear ck
    go_enter Tryz.func57, Tryz.ntmps57
    go_wp2_with fail
    refine HSP.out.mono ?_
    rintro e w1 ⟨rfl, hd1, hk1⟩
    have HD1 : Hid (Dsk B w1.drew b F cut ⟨s.fs, s.count + 1, s.dead⟩ m D vals) := Lib.hid (hd1.drewN 1)
    have hk2 : Keeps F w w1.drew := (hk1.mono (fun i e => by rw [e]; exact HFB.out)).drewN 1
    obtain ⟨e0, e1⟩ := HCK.out _ hk2
    have eb := HD1.out.c0
    have HK2 := Lib.hid hk2
    clear hd1 hk1 hk2 k0 k1
    go_wp2_with fail
    go_region_held3 (fun w' => w'.cell? ⟨p0, 0, none⟩ = some (.pointer (some ⟨b, 0, none⟩)) ∧ w'.cell? ⟨p1, 0, none⟩ = some (.string name) ∧ w'.cell? ⟨b, 0, none⟩ = some (.map (some m))) (first | exact ⟨e0, e1, eb⟩ | exact ⟨f0, f1, fb⟩)
      (first
        | (refine step_delete rfl (.tmp 7) (.tmp 8) rfl name (by simp [Act.eval]) (by simp [Act.eval]) HD1.out hn ?_
           intro w2 hd2 hg2
           have fb := hd2.c0
           have hk3 : Keeps F w w2 := HK2.out.trans ((keeps_of_grown hg2).mono (fun i hi => by cases hi; exact HFM.out))
           obtain ⟨f0, f1⟩ := HCK.out _ hk3
           have HD2 := Lib.hid hd2
           have HK3 := Lib.hid hk3
           clear hd2 hg2 hk3))
    go_wp2_with fail
    go_end0
    exact ⟨rfl, HD2.out.went HK3.out⟩
set_option maxHeartbeats 2000000 in
set_option maxRecDepth 100000 in
theorem remove_any {B b m : Nat} {F : Nat → Prop} {cut : Int} {s : DS} {D : DataW Unit} {vals : ByteArray → Value} {w : World} (h : Dsk B w b F cut s m D vals) (name : ByteArray) (hc : s.count ≤ 549755813888) :
    Calls Tryz.prog 24 #[.pointer (some ⟨b, 0, none⟩), .string name] w (DevE (IsP B) F b cut (removeS cut name s).1 name (removeS cut name s).2 w) := by
  have hb1 := box_below w 23 (.pointer (some ⟨b, 0, none⟩))
  have hb2 := box_below (box1 w 23 (.pointer (some ⟨b, 0, none⟩))) 9 (.string name)
  have c0 := box_at w 23 (.pointer (some ⟨b, 0, none⟩))
  have c1 := box_at (box1 w 23 (.pointer (some ⟨b, 0, none⟩))) 9 (.string name)
  have z1 := box_size w 23 (.pointer (some ⟨b, 0, none⟩))
  rw [z1] at c1
  replace c0 := box_keep c0 9 (.string name)
  have hb : Below w.heap.size w (box1 (box1 w 23 (.pointer (some ⟨b, 0, none⟩))) 9 (.string name)) := hb1.trans (hb2.mono hb1.size)
  have HLTF := Lib.hid h.files.lt
  have HD := Lib.hid (h.below hb)
  have HB := Lib.hid hb
  clear hb1 hb2 z1 hb h
  have hw3 : box1 (box1 w 23 (.pointer (some ⟨b, 0, none⟩))) 9 (.string name) = (w.alloc (.cells #[.pointer (some ⟨b, 0, none⟩)] 23)).alloc (.cells #[.string name] 9) := rfl
  generalize box1 (box1 w 23 (.pointer (some ⟨b, 0, none⟩))) 9 (.string name) = w3 at *
  rw [removeS_eq]
  have hf := find_of HD.out name name (.slice none 0 0) (readyC name s.dead) (fun e => (readyC_zero e).1) (ready1 b m s.dead name w3 HD.out.c0 HD.out.c3)
  rw [findC_two] at hf
  have HF : Hid (Calls Tryz.prog 52 #[.pointer (some ⟨b, 0, none⟩), .string name, .slice none 0 0] w3 (FindE w3 (if findC1 name s = 0 then vals name else .slice none 0 0) (findC1 name s) name)) := Lib.hid hf
  clear hf
  by_cases hr : findC1 name s = 0
  · rw [if_neg (show ¬ (findC1 name s ≠ 0) from fun e => e hr)]
    obtain ⟨hn, hdead⟩ := readyC_zero (findC1_zero hr).1
    have HRC := Lib.hid hr; clear hr
    have HBD : Hid (s.dead = false ∧ s.count ≤ 549755813888) := Lib.hid ⟨hdead, hc⟩
    clear hdead hc
    go_enter Tryz.func24, Tryz.ntmps24
    go_wp2_with fail
    rw [← hw3]
    refine HF.out.mono ?_
    rintro e w5 ⟨ev, rfl, he, hb4⟩
    obtain rfl := nil_ev HRC.out he
    have HD5 := Lib.hid (HD.out.below hb4)
    have HBB := Lib.hid (HB.out.trans (hb4.mono HB.out.size))
    have d0 := below_keep hb4 c0
    have d1 := below_keep hb4 c1
    clear he hb4 c0 c1 hw3 HD HF
    generalize hq : w.heap.size = q at *
    have HBODY := Lib.hid (remove_body (HD5.out.below (poweredW_below name w5)) q (q + 1) name (below_keep (poweredW_below name w5) d0) (below_keep (poweredW_below name w5) d1) (fun p hp hF => by have := HLTF.out p hF; omega) hn HBD.out.1 HBD.out.2)
    have hcf : ∀ w : World, (callFunc 57 #[.pointer (some ⟨q, 0, none⟩), .pointer (some ⟨q + 1, 0, none⟩)]).run Tryz.prog w = .ok (.enter 57 #[.pointer (some ⟨q, 0, none⟩), .pointer (some ⟨q + 1, 0, none⟩)]) w := fun w => by simp [go_sem]
    have HCF := Lib.hid hcf; clear hcf
    have hmf : ∀ (fn : Fn) (first cap : Array Value) (w : World), (Instr.makeFunc fn first cap).run Tryz.prog w = .ok (.func fn first cap) w := fun _ _ _ _ => rfl
    have HQ := Lib.hid hq
    clear hq
    go_wp2_with fail
    refine (powered_any HD5.out name _ _ (removeR cut name s).1 HCF.out HBODY.out).mono ?_
    rintro e w6 ⟨ev, rfl, he, hw⟩
    have HE := Lib.hid he
    have HW := Lib.hid hw
    clear he hw
    go_wp2_with fail
    go_ret
    exact devE_of HE.out HW.out (by rw [HQ.out]; exact HBB.out)
  · rw [if_pos (show findC1 name s ≠ 0 from hr)]
    have HRC := Lib.hid hr; clear hr hc
    go_enter Tryz.func24, Tryz.ntmps24
    go_wp2_with fail
    rw [← hw3]
    refine HF.out.mono ?_
    rintro e w4 ⟨ev, rfl, he, hb4⟩
    obtain ⟨f, rfl⟩ := err_ev HRC.out he
    have HE := Lib.hid he
    have HB4 := Lib.hid hb4; clear he hb4
    go_wp2_with fail
    go_ret
    exact devE_err HD.out HE.out HB4.out HB.out
end DiskP
end Go.Proofs.YtpmbokklpidohaaGreatDoor
