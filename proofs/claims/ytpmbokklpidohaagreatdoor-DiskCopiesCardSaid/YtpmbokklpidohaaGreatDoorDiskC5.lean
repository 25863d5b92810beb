/-
  Package disk's Rename (wip/gen/trunc.py writes this text).
-/
import Derived.Test.YtpmbokklpidohaaGreatDoorDiskC4
namespace Go.Proofs.YtpmbokklpidohaaGreatDoor
open Go.RowKit Go.Maps
namespace DiskP
open DiskM DiskC ErrC
open Go.Lib (strCells strCells_length)

def renameR (cut : Int) (src dst : ByteArray) (s : DS) : Bool × DS := if rawB cut s.count s.dead = false then (false, ⟨s.fs, s.count, true⟩) else (true, ⟨layF dst (bytesF src s.fs) (takeF src s.fs), s.count + 1, s.dead⟩)
def renT (ok : Bool) (src : ByteArray) : ByteArray := if ok then ⟨#[]⟩ else src
def findC2 (src dst : ByteArray) (s : DS) : Nat × ByteArray := findC (readyC2 src dst s.dead).1 (readyC2 src dst s.dead).2 src s.fs
theorem findC2_zero {src dst : ByteArray} {s : DS} (h : (findC2 src dst s).1 = 0) : mayB src = true ∧ mayB dst = true ∧ s.dead = false ∧ hasF src s.fs = true := by
  unfold findC2 findC readyC2 at h
  by_cases h1 : mayB src = false
  · rw [if_pos h1] at h; cases h
  · rw [if_neg h1] at h
    by_cases h2 : mayB dst = false
    · rw [if_pos h2] at h; cases h
    · rw [if_neg h2] at h
      by_cases h3 : s.dead = true
      · rw [if_pos h3] at h; cases h
      · rw [if_neg h3] at h
        by_cases h4 : hasF src s.fs = false
        · rw [if_neg (show ¬ ((0, src).1 ≠ 0) from fun e => e rfl), if_pos h4] at h; cases h
        · exact ⟨by simpa using h1, by simpa using h2, by simpa using h3, by simpa using h4⟩
theorem renameS_eq (cut : Int) (src dst : ByteArray) (s : DS) : renameS cut src dst s = if (findC2 src dst s).1 ≠ 0 then ((findC2 src dst s).1, (findC2 src dst s).2, s) else (code5 (renameR cut src dst s).1, renT (renameR cut src dst s).1 src, (renameR cut src dst s).2) := by
  by_cases h : (findC2 src dst s).1 = 0
  · obtain ⟨h1, h2, h3, h4⟩ := findC2_zero h
    rw [if_neg (show ¬ ((findC2 src dst s).1 ≠ 0) from fun e => e h)]
    unfold renameS renameR
    rw [if_neg (by rw [h1]; decide), if_neg (by rw [h2]; decide), if_neg (by rw [h3]; decide), if_neg (by rw [h4]; decide)]
    by_cases h5 : rawB cut s.count s.dead = false
    · rw [if_pos h5, if_pos h5]; rfl
    · rw [if_neg h5, if_neg h5]; rfl
  · rw [if_pos (show (findC2 src dst s).1 ≠ 0 from h)]
    unfold findC2 findC readyC2 at h ⊢
    unfold renameS
    by_cases h1 : mayB src = false
    · rw [if_pos h1, if_pos h1]; rfl
    · rw [if_neg h1] at h ⊢
      rw [if_neg h1]
      by_cases h2 : mayB dst = false
      · rw [if_pos h2, if_pos h2]; rfl
      · rw [if_neg h2] at h ⊢
        rw [if_neg h2]
        by_cases h3 : s.dead = true
        · rw [if_pos h3, if_pos h3]; rfl
        · rw [if_neg h3] at h ⊢
          rw [if_neg h3]
          by_cases h4 : hasF src s.fs = false
          · rw [if_pos h4, if_neg (show ¬ ((0, src).1 ≠ 0) from fun e => e rfl), if_pos h4]
          · rw [if_neg (show ¬ ((0, src).1 ≠ 0) from fun e => e rfl), if_neg h4] at h; exact absurd rfl h
/-- a file that was taken is laid under another name -/
theorem Dsk.move {B : Nat} {w w2 : World} {b : Nat} {F : Nat → Prop} {cut : Int} {s : DS} {m : Nat} {D : DataW Unit} {vals : ByteArray → Value} {src dst : ByteArray} (h : Dsk B w b F cut s m D vals) (hn : dst.size ≤ 128) (hlen : s.fs.length < maxLen)
    (h2 : Dsk B w2 b F cut ⟨takeF src s.fs, s.count, s.dead⟩ m (D.del (keyN src)) (upd vals src (.slice none 0 0))) (hg : w.grownBy w2 (some m)) :
    ∃ w3 D' vals', (Instr.mapUpdate 41 (.map (some m)) (.string dst) (vals src)).run Tryz.prog w2 = .ok () w3 ∧ Dsk B w3 b F cut ⟨layF dst (bytesF src s.fs) (takeF src s.fs), s.count, s.dead⟩ m D' vals' ∧ w2.grownBy w3 (some m) := by
  have f := h.files.file src (fun e => e)
  have hbk : ∀ g, (vals src).ownBlock = some g → w2.heap[g]? = w.heap[g]? := fun g hgo => hg.block g (f.byt.lt g hgo) (fun e => (f.blk g hgo).2.1 (by simpa using e))
  have hl2 : (takeF src s.fs).length < maxLen := by have := DiskC.take_len src s.fs; omega
  refine h2.store F hn hl2 (h2.files.turn (S := fun _ => False) (Keeps.refl _ _) (fun e => e) (fun _ _ _ _ e => e) (fun _ e => e.elim) (fun _ e => e) h2.files.lt) rfl (Nat.le_refl _) (f.byt.keeps hg.size hbk) f.blk ?_ ?_
  · rcases f.room with hr | ⟨hr, h3⟩
    · exact Or.inl hr
    · refine Or.inr ⟨hr.keeps hbk, fun g hgo => ⟨(h3 g hgo).1, fun n' hn' => ?_⟩⟩
      by_cases e : n' = src
      · rw [e, upd_same]; intro e2; cases e2
      · rw [upd_other e]; exact (h3 g hgo).2 n' e
  · intro n g hne hfull hgn e2
    by_cases e : n = src
    · rw [e, upd_same] at hgn; cases hgn
    · rw [upd_other e] at hfull hgn
      rcases (h.files.file n (fun e => e)).room with hr | ⟨-, hr⟩
      · exact hfull hr
      · exact (hr g hgn).2 src (fun e3 => e e3.symm) e2
set_option maxHeartbeats 4000000 in
set_option maxRecDepth 100000 in
theorem rename_body {B b m : Nat} {F : Nat → Prop} {cut : Int} {s : DS} {D : DataW Unit} {vals : ByteArray → Value} {w : World} (h : Dsk B w b F cut s m D vals) (p0 p1 p2 p3 : Nat) (src dst : ByteArray) (k0 : w.cell? ⟨p0, 0, none⟩ = some (.pointer (some ⟨b, 0, none⟩))) (k1 : w.cell? ⟨p1, 0, none⟩ = some (.string src)) (k2 : w.cell? ⟨p2, 0, none⟩ = some (vals src)) (k3 : w.cell? ⟨p3, 0, none⟩ = some (.string dst))
    (hp : ∀ p, p = p0 ∨ p = p1 ∨ p = p2 ∨ p = p3 → ¬ F p) (hn : src.size ≤ 128) (hn2 : dst.size ≤ 128) (hd : s.dead = false) (hc : s.count ≤ 549755813888) (hlen : s.fs.length < maxLen) :
    Calls Tryz.prog 55 #[.pointer (some ⟨p0, 0, none⟩), .pointer (some ⟨p1, 0, none⟩), .pointer (some ⟨p2, 0, none⟩), .pointer (some ⟨p3, 0, none⟩)] w (AddE B F b cut (renameR cut src dst s) w) := by
  by_cases hr : rawB cut s.count s.dead = false
  · rw [show renameR cut src dst s = (false, ⟨s.fs, s.count, true⟩) by simp [renameR, hr]]
    have HSP := Lib.hid (spend_no h hr hd)
    have HD := Lib.hid h
    clear h hn hd hc hr hp hn2 hlen k1 k2 k3
    go_enter Tryz.func55, Tryz.ntmps55
    go_wp2_with fail
    refine HSP.out.mono ?_
    rintro e w1 ⟨rfl, hd1, hk1⟩
    have HD1 := Lib.hid hd1
    have HK1 := Lib.hid hk1; clear hd1 hk1
    go_wp2_with fail
    exact ⟨rfl, rfl, HD1.out.went (HK1.out.mono (fun i e => by rw [e]; exact HD.out.files.fb))⟩
  · have hrt : rawB cut s.count s.dead = true := by simpa using hr
    rw [show renameR cut src dst s = (true, ⟨layF dst (bytesF src s.fs) (takeF src s.fs), s.count + 1, s.dead⟩) by simp [renameR, hrt]]
    obtain ⟨a, c, hv, -⟩ := (h.files.file src (fun e => e)).byt.len
    have HV := Lib.hid hv
    rw [hv] at k2
    have HFB := Lib.hid h.files.fb
    have HFM := Lib.hid h.files.fm
    have HLEN := Lib.hid hlen
    have hck : ∀ w', Keeps F w w' → w'.cell? ⟨p0, 0, none⟩ = some (.pointer (some ⟨b, 0, none⟩)) ∧ w'.cell? ⟨p1, 0, none⟩ = some (.string src) ∧ w'.cell? ⟨p2, 0, none⟩ = some (.slice a (bytesF src s.fs).size c) ∧ w'.cell? ⟨p3, 0, none⟩ = some (.string dst) := fun w' k => by
      have ck : ∀ p u, (p = p0 ∨ p = p1 ∨ p = p2 ∨ p = p3) → w.cell? ⟨p, 0, none⟩ = some u → w'.cell? ⟨p, 0, none⟩ = some u := fun p u hpp hu =>
        (World.cell?_of_block (a := ⟨p, 0, none⟩) (k.block p (World.block_lt_of_cell? _ _ hu) (hp p hpp))).trans hu
      exact ⟨ck _ _ (Or.inl rfl) k0, ck _ _ (Or.inr (Or.inl rfl)) k1, ck _ _ (Or.inr (Or.inr (Or.inl rfl))) k2, ck _ _ (Or.inr (Or.inr (Or.inr rfl))) k3⟩
    have HCK := Lib.hid hck; clear hck
    have HSP := Lib.hid (spend_yes h hrt (by omega))
    clear h hd hc hp hr hrt hv hlen
    go_enter Tryz.func55, Tryz.ntmps55
    go_wp2_with fail
    refine HSP.out.mono ?_
    rintro e w1 ⟨rfl, hd1, hk1⟩
    have HD1 : Hid (Dsk B w1.drew b F cut ⟨s.fs, s.count + 1, s.dead⟩ m D vals) := Lib.hid (hd1.drewN 1)
    have hk2 : Keeps F w w1.drew := (hk1.mono (fun i e => by rw [e]; exact HFB.out)).drewN 1
    obtain ⟨e0, e1, e2, e3⟩ := HCK.out _ hk2
    have eb := HD1.out.c0
    have HK2 := Lib.hid hk2
    clear hd1 hk1 hk2 k0 k1 k2 k3
    go_wp2_with fail
    go_region_held3 (fun w' => w'.cell? ⟨p0, 0, none⟩ = some (.pointer (some ⟨b, 0, none⟩)) ∧ w'.cell? ⟨p1, 0, none⟩ = some (.string src) ∧ w'.cell? ⟨b, 0, none⟩ = some (.map (some m))) (first | exact ⟨e0, e1, eb⟩ | exact ⟨f0, f1, fb⟩)
      (first
        | (refine step_delete rfl (.tmp 9) (.tmp 10) rfl src (by simp [Act.eval]) (by simp [Act.eval]) HD1.out hn ?_
           intro w2 hd2 hg2
           have hk3 : Keeps F w w2 := HK2.out.trans ((keeps_of_grown hg2).mono (fun i hi => by cases hi; exact HFM.out))
           obtain ⟨f0, f1, f2, f3⟩ := HCK.out _ hk3
           have fb := hd2.c0
           obtain ⟨w3, D', vals', hup, h3, hg3⟩ := HD1.out.move hn2 HLEN.out (hd2.drewN 1) (w2 := w2.drew) ⟨hg2.os, hg2.tape, hg2.output, hg2.size, hg2.block⟩
           have hk4 : Keeps F w w3 := (hk3.drewN 1).trans ((keeps_of_grown hg3).mono (fun i hi => by cases hi; exact HFM.out))
           obtain ⟨g0, g1, g2, g3⟩ := HCK.out _ hk4
           obtain ⟨j0, j1, j2, j3⟩ := HCK.out _ (hk3.drewN 1)
           have gb := h3.c0
           have jb := (hd2.drewN 1).c0
           have H3 := Lib.hid h3
           have HK4 := Lib.hid hk4
           rw [HV.out] at hup
           clear hd2 hg2 hk3 h3 hg3 hk4))
    go_wp2_with fail
    go_region_held3 (fun w' => w'.cell? ⟨p0, 0, none⟩ = some (.pointer (some ⟨b, 0, none⟩)) ∧ w'.cell? ⟨p2, 0, none⟩ = some (.slice a (bytesF src s.fs).size c) ∧ w'.cell? ⟨p3, 0, none⟩ = some (.string dst) ∧ w'.cell? ⟨b, 0, none⟩ = some (.map (some m))) (first | exact ⟨j0, j2, j3, jb⟩ | exact ⟨g0, g2, g3, gb⟩) (fail)
    go_wp2_with fail
    go_end0
    exact ⟨rfl, H3.out.went HK4.out⟩
theorem ren_err {w w' : World} {ev : Value} {ok : Bool} {src : ByteArray} (h : DErr w w' ev (code5 ok) src) : DErr w w' ev (code5 ok) (renT ok src) := by
  cases ok
  · exact h
  · rcases h with ⟨h1, h2⟩ | ⟨h1, -⟩
    · exact Or.inl ⟨h1, h2⟩
    · exact absurd rfl h1
set_option maxHeartbeats 4000000 in
set_option maxRecDepth 100000 in
theorem rename_any {B b m : Nat} {F : Nat → Prop} {cut : Int} {s : DS} {D : DataW Unit} {vals : ByteArray → Value} {w : World} (h : Dsk B w b F cut s m D vals) (src dst : ByteArray) (hg : DiskC.Good s.fs) (hc : s.count ≤ 549755813888) :
    Calls Tryz.prog 22 #[.pointer (some ⟨b, 0, none⟩), .string src, .string dst] w (DevE (IsP B) F b cut (renameS cut src dst s).1 (renameS cut src dst s).2.1 (renameS cut src dst s).2.2 w) := by
  have hb1 := box_below w 23 (.pointer (some ⟨b, 0, none⟩))
  have hb2 := box_below (box1 w 23 (.pointer (some ⟨b, 0, none⟩))) 9 (.string src)
  have hb3 := box_below (box1 (box1 w 23 (.pointer (some ⟨b, 0, none⟩))) 9 (.string src)) 9 (.string dst)
  have hb4 := box_below (box1 (box1 (box1 w 23 (.pointer (some ⟨b, 0, none⟩))) 9 (.string src)) 9 (.string dst)) 9 (.string dst)
  have c0 := box_at w 23 (.pointer (some ⟨b, 0, none⟩))
  have c1 := box_at (box1 w 23 (.pointer (some ⟨b, 0, none⟩))) 9 (.string src)
  have c2 := box_at (box1 (box1 w 23 (.pointer (some ⟨b, 0, none⟩))) 9 (.string src)) 9 (.string dst)
  have c3 := box_at (box1 (box1 (box1 w 23 (.pointer (some ⟨b, 0, none⟩))) 9 (.string src)) 9 (.string dst)) 9 (.string dst)
  have z1 := box_size w 23 (.pointer (some ⟨b, 0, none⟩))
  have z2 := box_size (box1 w 23 (.pointer (some ⟨b, 0, none⟩))) 9 (.string src)
  have z3 := box_size (box1 (box1 w 23 (.pointer (some ⟨b, 0, none⟩))) 9 (.string src)) 9 (.string dst)
  rw [z1] at c1
  rw [z2, z1] at c2
  rw [z3, z2, z1] at c3
  replace c0 := box_keep (box_keep (box_keep c0 9 (.string src)) 9 (.string dst)) 9 (.string dst)
  replace c1 := box_keep (box_keep c1 9 (.string dst)) 9 (.string dst)
  replace c2 := box_keep c2 9 (.string dst)
  have hb : Below w.heap.size w (box1 (box1 (box1 (box1 w 23 (.pointer (some ⟨b, 0, none⟩))) 9 (.string src)) 9 (.string dst)) 9 (.string dst)) := (((hb1.trans (hb2.mono (hb1).size)).trans (hb3.mono ((hb1.trans (hb2.mono (hb1).size))).size)).trans (hb4.mono (((hb1.trans (hb2.mono (hb1).size)).trans (hb3.mono ((hb1.trans (hb2.mono (hb1).size))).size))).size))
  have HLTF := Lib.hid h.files.lt
  have HD := Lib.hid (h.below hb)
  have HB := Lib.hid hb
  clear hb1 hb2 hb3 hb4 z1 z2 z3 hb h
  have hw3 : box1 (box1 (box1 (box1 w 23 (.pointer (some ⟨b, 0, none⟩))) 9 (.string src)) 9 (.string dst)) 9 (.string dst) = (((w.alloc (.cells #[.pointer (some ⟨b, 0, none⟩)] 23)).alloc (.cells #[.string src] 9)).alloc (.cells #[.string dst] 9)).alloc (.cells #[.string dst] 9) := rfl
  generalize box1 (box1 (box1 (box1 w 23 (.pointer (some ⟨b, 0, none⟩))) 9 (.string src)) 9 (.string dst)) 9 (.string dst) = w3 at *
  rw [renameS_eq]
  have hf := find_of HD.out src (readyC2 src dst s.dead).2 (.slice (some ⟨w.heap.size + 1 + 1 + 1, 0, none⟩) 1 1) (readyC2 src dst s.dead).1 (fun e => by
      have h1 : mayB src = true := by
        unfold readyC2 at e
        by_cases h1 : mayB src = false
        · rw [if_pos h1] at e; cases e
        · simpa using h1
      exact mayB_le h1) (ready2 b m (w.heap.size + 1 + 1 + 1) s.dead src dst w3 HD.out.c0 HD.out.c3 c3)
  by_cases hr : (findC2 src dst s).1 = 0
  · rw [if_neg (show ¬ ((findC2 src dst s).1 ≠ 0) from fun e => e hr)]
    obtain ⟨hn, hn2, hdead, -⟩ := findC2_zero hr
    obtain ⟨va, vc, hv, -⟩ := (HD.out.row src).1.len
    have HF : Hid (Calls Tryz.prog 52 #[.pointer (some ⟨b, 0, none⟩), .string src, .slice (some ⟨w.heap.size + 1 + 1 + 1, 0, none⟩) 1 1] w3 (FindE w3 (.slice va (bytesF src s.fs).size vc) (findC2 src dst s).1 (findC2 src dst s).2)) := Lib.hid (by rw [show (findC (readyC2 src dst s.dead).1 (readyC2 src dst s.dead).2 src s.fs) = findC2 src dst s from rfl, if_pos hr, hv] at hf; exact hf)
    have HRC := Lib.hid hr
    have hlen : s.fs.length < maxLen := by have := hg.1; unfold maxLen; omega
    have HBD : Hid (src.size ≤ 128 ∧ dst.size ≤ 128 ∧ s.dead = false ∧ s.count ≤ 549755813888 ∧ s.fs.length < maxLen) := Lib.hid ⟨mayB_le hn, mayB_le hn2, hdead, hc, hlen⟩
    clear hf hr hn hn2 hdead hc hlen hg
    go_enter Tryz.func22, Tryz.ntmps22
    go_wp2_with fail
    rw [← hw3]
    refine HF.out.mono ?_
    rintro e w5 ⟨ev, rfl, he, hb4⟩
    obtain rfl := nil_ev HRC.out he
    have HD5 := Lib.hid ((HD.out.below hb4).below (box_below w5 64 (.slice va (bytesF src s.fs).size vc)))
    have HBB := Lib.hid ((HB.out.trans (hb4.mono HB.out.size)).trans ((box_below w5 64 (.slice va (bytesF src s.fs).size vc)).mono (HB.out.trans (hb4.mono HB.out.size)).size))
    have d0 := box_keep (below_keep hb4 c0) 64 (.slice va (bytesF src s.fs).size vc)
    have d1 := box_keep (below_keep hb4 c1) 64 (.slice va (bytesF src s.fs).size vc)
    have d2 := box_keep (below_keep hb4 c2) 64 (.slice va (bytesF src s.fs).size vc)
    have d3 := box_at w5 64 (.slice va (bytesF src s.fs).size vc)
    have hge := (HB.out.trans (hb4.mono HB.out.size)).size
    have HBODY := Lib.hid (rename_body (HD5.out.below (poweredW_below src _)) w.heap.size (w.heap.size + 1) w5.heap.size (w.heap.size + 1 + 1) src dst (below_keep (poweredW_below src _) d0) (below_keep (poweredW_below src _) d1) (by rw [hv]; exact below_keep (poweredW_below src _) d3) (below_keep (poweredW_below src _) d2) (fun p hp hF => by have := HLTF.out p hF; omega) HBD.out.1 HBD.out.2.1 HBD.out.2.2.1 HBD.out.2.2.2.1 HBD.out.2.2.2.2)
    unfold box1 at d0 d1 d2 d3
    clear he hb4 c0 c1 c2 c3 hw3 HD HF hv hge
    have hcf : ∀ (x0 x1 x2 x3 : Nat) (w : World), (callFunc 55 #[.pointer (some ⟨x0, 0, none⟩), .pointer (some ⟨x1, 0, none⟩), .pointer (some ⟨x2, 0, none⟩), .pointer (some ⟨x3, 0, none⟩)]).run Tryz.prog w = .ok (.enter 55 #[.pointer (some ⟨x0, 0, none⟩), .pointer (some ⟨x1, 0, none⟩), .pointer (some ⟨x2, 0, none⟩), .pointer (some ⟨x3, 0, none⟩)]) w := fun x0 x1 x2 x3 w => by simp [go_sem]
    have HCF := Lib.hid hcf; clear hcf
    have hmf : ∀ (fn : Fn) (first cap : Array Value) (w : World), (Instr.makeFunc fn first cap).run Tryz.prog w = .ok (.func fn first cap) w := fun _ _ _ _ => rfl
    go_wp2_with fail
    refine (powered_any HD5.out src _ _ (renameR cut src dst s).1 (HCF.out _ _ _ _) HBODY.out).mono ?_
    rintro e w6 ⟨ev, rfl, he, hw⟩
    have HE := Lib.hid (ren_err he)
    have HW := Lib.hid hw
    clear he hw
    go_wp2_with fail
    go_ret
    exact devE_of HE.out HW.out HBB.out
  · rw [if_pos (show (findC2 src dst s).1 ≠ 0 from hr)]
    have HF : Hid (Calls Tryz.prog 52 #[.pointer (some ⟨b, 0, none⟩), .string src, .slice (some ⟨w.heap.size + 1 + 1 + 1, 0, none⟩) 1 1] w3 (FindE w3 (.slice none 0 0) (findC2 src dst s).1 (findC2 src dst s).2)) := Lib.hid (by rw [show (findC (readyC2 src dst s.dead).1 (readyC2 src dst s.dead).2 src s.fs) = findC2 src dst s from rfl, if_neg hr] at hf; exact hf)
    have HRC := Lib.hid hr; clear hr hc hf hg
    go_enter Tryz.func22, Tryz.ntmps22
    go_wp2_with fail
    rw [← hw3]
    refine HF.out.mono ?_
    rintro e w4 ⟨ev, rfl, he, hb4⟩
    obtain ⟨f, rfl⟩ := err_ev HRC.out he
    have hb5 := box_below w4 64 (.slice none 0 0)
    have HE := Lib.hid (DErr.below' he hb5)
    have HB4 := Lib.hid (hb4.trans (hb5.mono hb4.size)); clear he hb4 hb5
    go_wp2_with fail
    go_ret
    exact devE_err HD.out HE.out HB4.out HB.out
end DiskP
end Go.Proofs.YtpmbokklpidohaaGreatDoor
