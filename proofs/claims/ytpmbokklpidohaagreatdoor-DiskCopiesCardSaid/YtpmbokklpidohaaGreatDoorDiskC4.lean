/-
  Package disk's Trunc (wip/gen/trunc.py writes this text).
-/
import Derived.Test.YtpmbokklpidohaaGreatDoorDiskC3
namespace Go.Proofs.YtpmbokklpidohaaGreatDoor
open Go.RowKit Go.Maps
namespace DiskP
open DiskM DiskC ErrC
open Go.Lib (strCells strCells_length)

theorem cut_byt {w : World} {v : Value} {x : ByteArray} (h : Byt w v x) (k : Nat) (hk : k ≤ x.size) : ∃ a l c, v = .slice a l c ∧ l = x.size ∧ k ≤ c ∧ Byt w (.slice a k k) (x.extract 0 k) ∧ Full (.slice a k k) ∧ (Value.slice a k k).ownBlock = v.ownBlock ∧
    (∀ w' : World, (Instr.slice 64 (.slice a l c) none (some (.int .i64 (k : Int))) (some (.int .i64 (k : Int)))).run Tryz.prog w' = .ok (.slice a k k) w') := by
  rcases h with ⟨rfl, rfl⟩ | ⟨g, cap, rfl, h1, h2, h3, h4⟩
  · have e : k = 0 := Nat.le_zero.1 hk
    subst e
    refine ⟨none, 0, 0, rfl, rfl, Nat.le_refl _, Or.inl ⟨rfl, rfl⟩, Or.inl rfl, rfl, fun w' => ?_⟩
    kernel_rfl
  · have hs : (x.extract 0 k).size = k := by simp; omega
    refine ⟨some ⟨g, 0, none⟩, x.size, cap, rfl, rfl, by omega, Or.inr ⟨g, k, by rw [hs], by omega, by omega, h3, fun j u hu => h4 j u ?_⟩, Or.inr ⟨g, k, rfl⟩, rfl, fun w' => ?_⟩
    · have e : strCells (x.extract 0 k) = (strCells x).take k := by
        unfold strCells
        rw [Lib.extract_data, List.drop_zero, Nat.sub_zero, List.map_take]
      rw [e] at hu
      rw [List.getElem?_take] at hu
      split at hu
      · exact hu
      · cases hu
    · rw [run_slice_hm w' 64 (some ⟨g, 0, none⟩) x.size cap (by kernel_rfl) .i64 .i64 (k : Int) (k : Int) (by omega) (Int.le_refl _) (by omega)]
      have hsz : (sizeOf (Tryz.prog.elem 64)).run Tryz.prog w' = .ok 1 w' := by kernel_rfl
      rw [hsz]
      simp only [Result.andThen_ok, sliced, Int.toNat_natCast, Nat.sub_zero, Nat.zero_mul, Option.map_some]
      rw [plain_add]
      split <;> rfl
/-- a file is cut: its slice, without room behind -/
theorem Dsk.cutAt {B : Nat} {w : World} {b : Nat} {F : Nat → Prop} {cut : Int} {s : DS} {m : Nat} {D : DataW Unit} {vals : ByteArray → Value} {name : ByteArray} (h : Dsk B w b F cut s m D vals) (hn : name.size ≤ 128) (hlen : s.fs.length < maxLen) (v' : Value) (x : ByteArray) (hb : Byt w v' x) (hf : Full v') (hv : v'.ownBlock = (vals name).ownBlock) :
    ∃ w2 D' vals', (Instr.mapUpdate 41 (.map (some m)) (.string name) v').run Tryz.prog w = .ok () w2 ∧ Dsk B w2 b F cut ⟨layF name x s.fs, s.count, s.dead⟩ m D' vals' ∧ w.grownBy w2 (some m) := by
  have f := h.files.file name (fun e => e)
  exact h.store F hn hlen (h.files.turn (S := fun _ => False) (Keeps.refl _ _) (fun e => e) (fun _ _ _ _ e => e) (fun _ e => e.elim) (fun _ e => e) h.files.lt) rfl (Nat.le_refl _) hb (fun g e => f.blk g (hv ▸ e)) (Or.inl hf) (fun n g hne hfull hgn e => by
    rcases (h.files.file n (fun e => e)).room with hr | ⟨-, hr⟩
    · exact hfull hr
    · exact (hr g hgn).2 name (fun e => hne e.symm) (hv ▸ e))
theorem DErr.below' {w0 w1 w2 : World} {ev : Value} {c : Nat} {t : ByteArray} (h : DErr w0 w1 ev c t) (hb : Below w1.heap.size w1 w2) : DErr w0 w2 ev c t := by
  rcases h with h | ⟨h0, f, hv, hf, hF⟩
  · exact Or.inl h
  · exact Or.inr ⟨h0, f, hv, hf, hF.below hb hF.lt⟩
def truncR (cut : Int) (name : ByteArray) (n : Nat) (s : DS) : Bool × DS := if rawB cut s.count s.dead = false then (false, ⟨s.fs, s.count, true⟩) else (true, ⟨layF name ((bytesF name s.fs).extract 0 n) s.fs, s.count + 1, s.dead⟩)
theorem truncS_eq (cut : Int) (name : ByteArray) (n : Int) (s : DS) : truncS cut name n s = if findC1 name s ≠ 0 then (findC1 name s, s) else if n < 0 ∨ ((bytesF name s.fs).size : Int) < n then (2, s) else (code5 (truncR cut name n.toNat s).1, (truncR cut name n.toNat s).2) := by
  unfold truncS
  by_cases h : findC1 name s = 0
  · obtain ⟨h1, h2⟩ := findC1_zero h
    obtain ⟨h3, h4⟩ := readyC_z h1
    rw [if_neg (by rw [h3]; decide), if_neg (by rw [h4]; decide), if_neg (by rw [h2]; decide), if_neg (show ¬ (findC1 name s ≠ 0) from fun e => e h)]
    by_cases h6 : n < 0 ∨ ((bytesF name s.fs).size : Int) < n
    · rw [if_pos h6, if_pos h6]
    · rw [if_neg h6, if_neg h6]
      unfold truncR
      by_cases h5 : rawB cut s.count s.dead = false
      · rw [if_pos h5, if_pos h5]; rfl
      · rw [if_neg h5, if_neg h5]; rfl
  · rw [if_pos (show findC1 name s ≠ 0 from h)]
    rcases findC1_ne h with ⟨h1, h2⟩ | ⟨h1, h2, h3⟩
    · rw [h2]
      rcases readyC_ne h1 with ⟨h4, h5⟩ | ⟨h4, h5, h6⟩
      · rw [if_pos h4, h5]
      · rw [if_neg (by rw [h4]; decide), if_pos h5, h6]
    · obtain ⟨h4, h5⟩ := readyC_z h1
      rw [if_neg (by rw [h4]; decide), if_neg (by rw [h5]; decide), if_pos h2, h3]
set_option maxHeartbeats 2000000 in
set_option maxRecDepth 100000 in
theorem trunc_body {B b m : Nat} {F : Nat → Prop} {cut : Int} {s : DS} {D : DataW Unit} {vals : ByteArray → Value} {w : World} (h : Dsk B w b F cut s m D vals) (p0 p1 p2 p3 : Nat) (name : ByteArray) (n : Nat) (k0 : w.cell? ⟨p0, 0, none⟩ = some (.pointer (some ⟨b, 0, none⟩))) (k1 : w.cell? ⟨p1, 0, none⟩ = some (vals name)) (k2 : w.cell? ⟨p2, 0, none⟩ = some (.int .i64 n)) (k3 : w.cell? ⟨p3, 0, none⟩ = some (.string name))
    (hp : ∀ p, p = p0 ∨ p = p1 ∨ p = p2 ∨ p = p3 → ¬ F p) (hn : name.size ≤ 128) (hd : s.dead = false) (hc : s.count ≤ 549755813888) (hk : n ≤ (bytesF name s.fs).size) (hlen : s.fs.length < maxLen) :
    Calls Tryz.prog 54 #[.pointer (some ⟨p0, 0, none⟩), .pointer (some ⟨p1, 0, none⟩), .pointer (some ⟨p2, 0, none⟩), .pointer (some ⟨p3, 0, none⟩)] w (AddE B F b cut (truncR cut name n s) w) := by
  by_cases hr : rawB cut s.count s.dead = false
  · rw [show truncR cut name n s = (false, ⟨s.fs, s.count, true⟩) by simp [truncR, hr]]
    have HSP := Lib.hid (spend_no h hr hd)
    have HD := Lib.hid h
    clear h hn hd hc hr hp hk hlen k1 k2 k3
    go_enter Tryz.func54, Tryz.ntmps54
    go_wp2_with fail
    refine HSP.out.mono ?_
    rintro e w1 ⟨rfl, hd1, hk1⟩
    have HD1 := Lib.hid hd1
    have HK1 := Lib.hid hk1; clear hd1 hk1
    go_wp2_with fail
    exact ⟨rfl, rfl, HD1.out.went (HK1.out.mono (fun i e => by rw [e]; exact HD.out.files.fb))⟩
  · have hrt : rawB cut s.count s.dead = true := by simpa using hr
    rw [show truncR cut name n s = (true, ⟨layF name ((bytesF name s.fs).extract 0 n) s.fs, s.count + 1, s.dead⟩) by simp [truncR, hrt]]
    obtain ⟨a, l, c, hv, -, -, -, -, -, hsl⟩ := cut_byt (h.files.file name (fun e => e)).byt n hk
    rw [hv] at k1
    have step : ∀ w1, Dsk B w1 b F cut ⟨s.fs, s.count + 1, s.dead⟩ m D vals → Keeps (· = b) w w1 → ∃ w2 D' vals', (Instr.mapUpdate 41 (.map (some m)) (.string name) (.slice a n n)).run Tryz.prog w1.drew = .ok () w2 ∧ Dsk B w2 b F cut ⟨layF name ((bytesF name s.fs).extract 0 n) s.fs, s.count + 1, s.dead⟩ m D' vals' ∧ Keeps F w w2 ∧
        (w1.drew.cell? ⟨p0, 0, none⟩ = some (.pointer (some ⟨b, 0, none⟩)) ∧ w1.drew.cell? ⟨p1, 0, none⟩ = some (.slice a l c) ∧ w1.drew.cell? ⟨p2, 0, none⟩ = some (.int .i64 n) ∧ w1.drew.cell? ⟨p3, 0, none⟩ = some (.string name) ∧ w1.drew.cell? ⟨b, 0, none⟩ = some (.map (some m))) ∧
        (w2.cell? ⟨p0, 0, none⟩ = some (.pointer (some ⟨b, 0, none⟩)) ∧ w2.cell? ⟨p1, 0, none⟩ = some (.slice a l c) ∧ w2.cell? ⟨p2, 0, none⟩ = some (.int .i64 n) ∧ w2.cell? ⟨p3, 0, none⟩ = some (.string name) ∧ w2.cell? ⟨b, 0, none⟩ = some (.map (some m))) := by
      intro w1 h1 hkk
      have h2 : Dsk B w1.drew b F cut ⟨s.fs, s.count + 1, s.dead⟩ m D vals := h1.drewN 1
      obtain ⟨a', l', c', hv', -, -, hb, hf, ho, -⟩ := cut_byt (h2.files.file name (fun e => e)).byt n hk
      obtain ⟨rfl, rfl, rfl⟩ : a = a' ∧ l = l' ∧ c = c' := by rw [hv] at hv'; cases hv'; exact ⟨rfl, rfl, rfl⟩
      obtain ⟨w2, D', vals', hrun, h3, hg⟩ := h2.cutAt hn hlen (.slice a n n) _ hb hf ho
      have hk1 : Keeps F w w1.drew := (hkk.mono (fun i e => by rw [e]; exact h.files.fb)).drewN 1
      have hk2 : Keeps F w w2 := hk1.trans ((keeps_of_grown hg).mono (fun i hi => by cases hi; exact h.files.fm))
      have ck : ∀ w', Keeps F w w' → ∀ p u, (p = p0 ∨ p = p1 ∨ p = p2 ∨ p = p3) → w.cell? ⟨p, 0, none⟩ = some u → w'.cell? ⟨p, 0, none⟩ = some u := fun w' k p u hpp hu =>
        (World.cell?_of_block (a := ⟨p, 0, none⟩) (k.block p (World.block_lt_of_cell? _ _ hu) (hp p hpp))).trans hu
      exact ⟨w2, D', vals', hrun, h3, hk2, ⟨ck _ hk1 _ _ (Or.inl rfl) k0, ck _ hk1 _ _ (Or.inr (Or.inl rfl)) k1, ck _ hk1 _ _ (Or.inr (Or.inr (Or.inl rfl))) k2, ck _ hk1 _ _ (Or.inr (Or.inr (Or.inr rfl))) k3, h2.c0⟩,
        ⟨ck _ hk2 _ _ (Or.inl rfl) k0, ck _ hk2 _ _ (Or.inr (Or.inl rfl)) k1, ck _ hk2 _ _ (Or.inr (Or.inr (Or.inl rfl))) k2, ck _ hk2 _ _ (Or.inr (Or.inr (Or.inr rfl))) k3, h3.c0⟩⟩
    have HST := Lib.hid step; clear step
    have HSP := Lib.hid (spend_yes h hrt (by omega))
    clear h hd hc hp hr hrt hv hk hlen hn
    go_enter Tryz.func54, Tryz.ntmps54
    go_wp2_with fail
    refine HSP.out.mono ?_
    rintro e w1 ⟨rfl, hd1, hk1⟩
    obtain ⟨w2, D', vals', hup, h3, hk2, e5, f5⟩ := HST.out w1 hd1 hk1
    have H3 := Lib.hid h3
    have HK2 := Lib.hid hk2
    clear hd1 hk1 h3 hk2 k0 k1 k2 k3
    go_wp2_with fail
    go_region_held3 (fun w' => w'.cell? ⟨p0, 0, none⟩ = some (.pointer (some ⟨b, 0, none⟩)) ∧ w'.cell? ⟨p1, 0, none⟩ = some (.slice a l c) ∧ w'.cell? ⟨p2, 0, none⟩ = some (.int .i64 n) ∧ w'.cell? ⟨p3, 0, none⟩ = some (.string name) ∧ w'.cell? ⟨b, 0, none⟩ = some (.map (some m))) (first | exact e5 | exact f5) (fail)
    go_wp2_with fail
    go_end0
    exact ⟨rfl, H3.out.went HK2.out⟩
set_option maxHeartbeats 2000000 in
set_option maxRecDepth 100000 in
theorem trunc_any {B b m : Nat} {F : Nat → Prop} {cut : Int} {s : DS} {D : DataW Unit} {vals : ByteArray → Value} {w : World} (h : Dsk B w b F cut s m D vals) (name : ByteArray) (n : Int) (hg : DiskC.Good s.fs) (hc : s.count ≤ 549755813888) :
    Calls Tryz.prog 20 #[.pointer (some ⟨b, 0, none⟩), .string name, .int .i64 n] w (DevE (IsP B) F b cut (truncS cut name n s).1 name (truncS cut name n s).2 w) := by
  have hb1 := box_below w 23 (.pointer (some ⟨b, 0, none⟩))
  have hb2 := box_below (box1 w 23 (.pointer (some ⟨b, 0, none⟩))) 9 (.string name)
  have hb3 := box_below (box1 (box1 w 23 (.pointer (some ⟨b, 0, none⟩))) 9 (.string name)) 3 (.int .i64 n)
  have c0 := box_at w 23 (.pointer (some ⟨b, 0, none⟩))
  have c1 := box_at (box1 w 23 (.pointer (some ⟨b, 0, none⟩))) 9 (.string name)
  have c2 := box_at (box1 (box1 w 23 (.pointer (some ⟨b, 0, none⟩))) 9 (.string name)) 3 (.int .i64 n)
  have z1 := box_size w 23 (.pointer (some ⟨b, 0, none⟩))
  have z2 := box_size (box1 w 23 (.pointer (some ⟨b, 0, none⟩))) 9 (.string name)
  rw [z1] at c1
  rw [z2, z1] at c2
  replace c0 := box_keep (box_keep c0 9 (.string name)) 3 (.int .i64 n)
  replace c1 := box_keep c1 3 (.int .i64 n)
  have hb : Below w.heap.size w (box1 (box1 (box1 w 23 (.pointer (some ⟨b, 0, none⟩))) 9 (.string name)) 3 (.int .i64 n)) := ((hb1.trans (hb2.mono (hb1).size)).trans (hb3.mono ((hb1.trans (hb2.mono (hb1).size))).size))
  have HLTF := Lib.hid h.files.lt
  have HD := Lib.hid (h.below hb)
  have HB := Lib.hid hb
  clear hb1 hb2 hb3 z1 z2 hb h
  have hw3 : box1 (box1 (box1 w 23 (.pointer (some ⟨b, 0, none⟩))) 9 (.string name)) 3 (.int .i64 n) = ((w.alloc (.cells #[.pointer (some ⟨b, 0, none⟩)] 23)).alloc (.cells #[.string name] 9)).alloc (.cells #[.int .i64 n] 3) := rfl
  generalize box1 (box1 (box1 w 23 (.pointer (some ⟨b, 0, none⟩))) 9 (.string name)) 3 (.int .i64 n) = w3 at *
  rw [truncS_eq]
  have hf := find_of HD.out name name (.slice none 0 0) (readyC name s.dead) (fun e => (readyC_zero e).1) (ready1 b m s.dead name w3 HD.out.c0 HD.out.c3)
  rw [findC_two] at hf
  by_cases hr : findC1 name s = 0
  · rw [if_neg (show ¬ (findC1 name s ≠ 0) from fun e => e hr)]
    have HF : Hid (Calls Tryz.prog 52 #[.pointer (some ⟨b, 0, none⟩), .string name, .slice none 0 0] w3 (FindE w3 (vals name) (findC1 name s) name)) := Lib.hid (by rw [show (findC (readyC name s.dead) name name s.fs).1 = findC1 name s from rfl, if_pos hr] at hf; exact hf)
    clear hf
    obtain ⟨hn, hdead⟩ := readyC_zero (findC1_zero hr).1
    have HRC := Lib.hid hr; clear hr
    have hlen : s.fs.length < maxLen := by have := hg.1; unfold maxLen; omega
    have hszx : (bytesF name s.fs).size ≤ 16777216 := good_bytes hg name
    obtain ⟨va, vc, hv, hvc⟩ := (HD.out.row name).1.len
    have HV := Lib.hid hv
    have HBD : Hid (s.dead = false ∧ s.count ≤ 549755813888 ∧ s.fs.length < maxLen) := Lib.hid ⟨hdead, hc, hlen⟩
    clear hdead hc hlen hg hvc
    by_cases hbad : n < 0 ∨ ((bytesF name s.fs).size : Int) < n
    · rw [if_pos hbad]
      have hcase : (decide (n < 0) = true) ∨ (decide (n < 0) = false ∧ decide (((bytesF name s.fs).size : Int) < n) = true) := by
        by_cases h0 : n < 0
        · exact Or.inl (by simpa using h0)
        · exact Or.inr ⟨by simpa using h0, by rcases hbad with h | h; exact absurd h h0; simpa using h⟩
      clear hbad
      rw [hv] at HF
      rcases hcase with hc1 | ⟨hc1, hc2⟩
      all_goals
        go_enter Tryz.func20, Tryz.ntmps20
        go_wp2_with fail
        rw [← hw3]
        refine HF.out.mono ?_
        rintro e w5 ⟨ev, rfl, he, hb4⟩
        obtain rfl := nil_ev HRC.out he
        have HD5 := Lib.hid ((HD.out.below hb4).below (box_below w5 64 (.slice va (bytesF name s.fs).size vc)))
        have HBB := Lib.hid ((HB.out.trans (hb4.mono HB.out.size)).trans ((box_below w5 64 (.slice va (bytesF name s.fs).size vc)).mono (HB.out.trans (hb4.mono HB.out.size)).size))
        have d0 := box_keep (below_keep hb4 c0) 64 (.slice va (bytesF name s.fs).size vc)
        have d1 := box_keep (below_keep hb4 c1) 64 (.slice va (bytesF name s.fs).size vc)
        have d2 := box_keep (below_keep hb4 c2) 64 (.slice va (bytesF name s.fs).size vc)
        have d3 := box_at w5 64 (.slice va (bytesF name s.fs).size vc)
        unfold box1 at d0 d1 d2 d3
        clear he hb4 c0 c1 c2 hw3 HD HF
        go_wp2_with fail
        refine (fault_any 2 name _).mono ?_
        rintro e w6 ⟨rfl, rfl⟩
        go_wp2_with fail
        go_ret
        have hfd := fault_derr 2 (by decide) name (box1 w5 64 (.slice va (bytesF name s.fs).size vc))
        rw [box_size] at hfd
        exact devE_err HD5.out hfd (fault_below 2 name _) HBB.out
    · rw [if_neg hbad]
      obtain ⟨k, rfl⟩ : ∃ k : Nat, n = (k : Int) := ⟨n.toNat, by omega⟩
      have hk : k ≤ (bytesF name s.fs).size := by omega
      have hc1 : decide ((k : Int) < 0) = false := by simp
      have hc2 : decide ((bytesF name s.fs).size < k) = false := by simp; omega
      rw [Int.toNat_natCast]
      have HKK := Lib.hid hk
      clear hbad hk hszx
      rw [hv] at HF
      go_enter Tryz.func20, Tryz.ntmps20
      go_wp2_with fail
      rw [← hw3]
      refine HF.out.mono ?_
      rintro e w5 ⟨ev, rfl, he, hb4⟩
      obtain rfl := nil_ev HRC.out he
      have HD5 := Lib.hid ((HD.out.below hb4).below (box_below w5 64 (.slice va (bytesF name s.fs).size vc)))
      have HBB := Lib.hid ((HB.out.trans (hb4.mono HB.out.size)).trans ((box_below w5 64 (.slice va (bytesF name s.fs).size vc)).mono (HB.out.trans (hb4.mono HB.out.size)).size))
      have d0 := box_keep (below_keep hb4 c0) 64 (.slice va (bytesF name s.fs).size vc)
      have d1 := box_keep (below_keep hb4 c1) 64 (.slice va (bytesF name s.fs).size vc)
      have d2 := box_keep (below_keep hb4 c2) 64 (.slice va (bytesF name s.fs).size vc)
      have d3 := box_at w5 64 (.slice va (bytesF name s.fs).size vc)
      have hge := (HB.out.trans (hb4.mono HB.out.size)).size
      have HBODY := Lib.hid (trunc_body (HD5.out.below (poweredW_below name _)) w.heap.size w5.heap.size (w.heap.size + 1 + 1) (w.heap.size + 1) name k (below_keep (poweredW_below name _) d0) (by rw [hv]; exact below_keep (poweredW_below name _) d3) (below_keep (poweredW_below name _) d2) (below_keep (poweredW_below name _) d1) (fun p hp hF => by have := HLTF.out p hF; omega) hn HBD.out.1 HBD.out.2.1 HKK.out HBD.out.2.2)
      unfold box1 at d0 d1 d2 d3
      clear he hb4 c0 c1 c2 hw3 HD HF hv hge
      have hcf : ∀ (x0 x1 x2 x3 : Nat) (w : World), (callFunc 54 #[.pointer (some ⟨x0, 0, none⟩), .pointer (some ⟨x1, 0, none⟩), .pointer (some ⟨x2, 0, none⟩), .pointer (some ⟨x3, 0, none⟩)]).run Tryz.prog w = .ok (.enter 54 #[.pointer (some ⟨x0, 0, none⟩), .pointer (some ⟨x1, 0, none⟩), .pointer (some ⟨x2, 0, none⟩), .pointer (some ⟨x3, 0, none⟩)]) w := fun x0 x1 x2 x3 w => by simp [go_sem]
      have HCF := Lib.hid hcf; clear hcf
      have hmf : ∀ (fn : Fn) (first cap : Array Value) (w : World), (Instr.makeFunc fn first cap).run Tryz.prog w = .ok (.func fn first cap) w := fun _ _ _ _ => rfl
      go_wp2_with fail
      refine (powered_any HD5.out name _ _ (truncR cut name k s).1 (HCF.out _ _ _ _) HBODY.out).mono ?_
      rintro e w6 ⟨ev, rfl, he, hw⟩
      have HE := Lib.hid he
      have HW := Lib.hid hw
      clear he hw
      go_wp2_with fail
      go_ret
      exact devE_of HE.out HW.out HBB.out
  · rw [if_pos (show findC1 name s ≠ 0 from hr)]
    have HF : Hid (Calls Tryz.prog 52 #[.pointer (some ⟨b, 0, none⟩), .string name, .slice none 0 0] w3 (FindE w3 (.slice none 0 0) (findC1 name s) name)) := Lib.hid (by rw [show (findC (readyC name s.dead) name name s.fs).1 = findC1 name s from rfl, if_neg hr] at hf; exact hf)
    have HRC := Lib.hid hr; clear hr hc hf hg
    go_enter Tryz.func20, Tryz.ntmps20
    go_wp2_with fail
    rw [← hw3]
    refine HF.out.mono ?_
    rintro e w4 ⟨ev, rfl, he, hb4⟩
    obtain ⟨f, rfl⟩ := err_ev HRC.out he
    have hb5 := box_below w4 64 (.slice none 0 0)
    have HE := Lib.hid (DErr.below' he hb5)
    have HB4 := Lib.hid (hb4.trans (hb5.mono hb4.size)); clear he hb4 hb5
    go_wp2_with fail
    go_ret
    exact devE_err HD.out HE.out HB4.out HB.out
end DiskP
end Go.Proofs.YtpmbokklpidohaaGreatDoor
