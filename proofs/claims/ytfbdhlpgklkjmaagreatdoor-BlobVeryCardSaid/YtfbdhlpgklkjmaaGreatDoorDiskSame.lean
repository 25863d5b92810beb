/-
  Package disk's Same: the files of two disks held against each other (maps.EqualFunc over bytes.Equal, walked).
  Package disk's Same.
-/
import Derived.Test.YtfbdhlpgklkjmaaGreatDoorDiskCopy
import Derived.Test.YtfbdhlpgklkjmaaGreatDoorDiskC
namespace Go.Proofs.YtfbdhlpgklkjmaaGreatDoor
open Go.RowKit Go.Maps Go.Sort
namespace DiskP
open DiskM DiskC ErrC

theorem equal_bytes {v u : Value} {x y : ByteArray} (w : World) (hv : Byt w v x) (hu : Byt w u y) :
    Calls Tryz.prog 36 #[v, u] w fun e w' => e = .returned (.bool (x.toList == y.toList)) ∧ w = w' := by
  have c1 := text_of hv
  have c2 := text_of hu
  go_enter Tryz.func36, Tryz.ntmps36
  go_wp2_with fail
  go_ret
  exact ⟨rfl, rfl⟩
/-- what came of the first map is in the second, with the same bytes -/
def Alike (fs1 fs2 : FL) (left : Lit → Bool) : Prop := ∀ n, hasF n fs1 = true → left (keyN n) = false → hasF n fs2 = true ∧ bytesF n fs2 = bytesF n fs1
theorem bytes_iff (x y : ByteArray) : (x.toList == y.toList) = true ↔ x = y := by
  rw [ByteArray.toList_eq, ByteArray.toList_eq, beq_iff_eq]
  exact ⟨fun h => ByteArray.ext (Array.toList_inj.1 h), fun h => by rw [h]⟩

set_option maxRecDepth 100000 in
set_option maxHeartbeats 4000000 in
theorem eqf_any {B1 b1 m1 B2 b2 m2 : Nat} {F1 F2 : Nat → Prop} {fs1 fs2 : FL} {D1 D2 : DataW Unit} {vals1 vals2 : ByteArray → Value} {w : World}
    (h1 : Files NoEx w B1 b1 m1 F1 fs1 D1 vals1) (h2 : Files NoEx w B2 b2 m2 F2 fs2 D2 vals2) :
    Calls Tryz.prog 35 #[.map (some m1), .map (some m2), .func (.func 36) #[] #[]] w fun e w' => e = .returned (.bool (decide (fs1 = fs2))) ∧ Below w.heap.size w w' := by
  have hown1 := h1.map
  have hown2 := h2.map
  have H1 := Lib.hid h1
  have H2 := Lib.hid h2
  have hm1 : m1 < w.heap.size := h1.lt m1 h1.fm
  have hm2 : m2 < w.heap.size := h2.lt m2 h2.fm
  have hs1 := h1.size
  have hs2 := h2.size
  clear h1 h2
  by_cases hsz : fs1.length = fs2.length
  · go_enter Tryz.func35, Tryz.ntmps35
    go_wp2_with (first
      | (at_len; refine wpList_len_own _ rfl _ 55 rfl 9 45 Tryz.underlying55 _ m1 fs1.length _ rfl hown1 ?_)
      | (at_len; refine wpList_len_own _ rfl _ 55 rfl 9 45 Tryz.underlying55 _ m2 fs2.length _ rfl hown2 ?_)
      | (at_range; refine wpList_range_own _ rfl _ 55 rfl 9 45 keyed Tryz.underlying55 _ m1 fs1.length _ rfl hown1 ?_; intro w2 hrg0 hg0 hs0))
    go_frame
    go_loopw [18] (fun _ wr => ∃ (left : Lit → Bool) (cnt : Nat), wr.ranges Tryz.prog 9 eR m1 w.heap.size fs1.length D1 left cnt ∧ Hid (Alike fs1 fs2 left) ∧ Hid (∀ n, left (keyN n) = true → hasF n fs1 = true) ∧ Hid (Below w.heap.size w wr))
      (fun _ wr => wr.rangeLeft m1 w.heap.size)
    case atStart =>
      exact ⟨_, _, hrg0, Lib.hid (fun n hn hl => by rw [H1.out.dom, hn] at hl; cases hl), Lib.hid (fun n hn => by rw [← H1.out.dom n]; exact hn), Lib.hid ((Below.refl _ _).grown hg0 (Nat.le_refl _) (fun j hj => by cases hj))⟩
    case round =>
      obtain ⟨left, cnt, hrg, HA, HSUB, HB⟩ := hrel
      rename World => wr
      clear hrg0 hg0 hs0
      go_wp2_with (at_next; refine wpList_next_ranges _ rfl _ rfl 9 keyed eR encStr (id : Value → Value) (fun key kl hk => by obtain ⟨x, hx, _⟩ := Maps.keyOf_str Tryz.underlying9 hk; exact ⟨x, hx⟩) (fun v y _ => ⟨v, rfl⟩) m1 w.heap.size fs1.length _ _ _ rfl hrg ?_ ?_)
      · intro hc0 hl0
        have hd : decide (fs1 = fs2) = true := by
          simp
          exact sorted_len H1.out.sorted H2.out.sorted hsz (fun n hn => HA.out n hn (hl0 _))
        go_wp2_with fail
        go_ret
        exact ⟨by rw [hd]; rfl, HB.out⟩
      · intro x c kl yd yp w3 cnt2 hkey hlk hv hat hrg2 hlt hg2 hs2' hen
        obtain ⟨x', ex, rfl, _⟩ := Maps.keyOf_str Tryz.underlying9 hkey
        obtain rfl : x = x' := encStr_inj ex
        have hkn : keyN ⟨x.toArray⟩ = .string x := by simp [keyN]
        have hkx : encStr x = .string ⟨x.toArray⟩ := rfl
        rw [hkx] at hen
        rw [hkx]
        rw [← hkn] at hlk hat hrg2 hkey
        rw [hkx] at hkey
        generalize (⟨x.toArray⟩ : ByteArray) = nm at *
        have hc : c = vals1 nm := H1.out.look (n := nm) (ps := yp) (fun e => e) (by rw [hat .nil]; exact hv)
        subst hc
        have hh1 : hasF nm fs1 = true := HSUB.out nm hlk
        have HB3 : Hid (Below w.heap.size w w3) := Lib.hid (HB.out.grown hg2 HB.out.size (fun j hj => by cases hj; exact Nat.le_refl _))
        have hown3 : w3.ownsMap Tryz.prog 9 eR m2 fs2.length D2 := ownsMap_keeps hown2 (HB3.out.block m2 hm2)
        have hby1 : Byt w3 (vals1 nm) (bytesF nm fs1) := (H1.out.file nm (fun e => e)).byt.keeps HB3.out.size (fun g hg => HB3.out.block g ((H1.out.file nm (fun e => e)).byt.lt g hg))
        have hby2 : Byt w3 (vals2 nm) (bytesF nm fs2) := (H2.out.file nm (fun e => e)).byt.keeps HB3.out.size (fun g hg => HB3.out.block g ((H2.out.file nm (fun e => e)).byt.lt g hg))
        have HBY := Lib.hid (And.intro hby1 hby2)
        have HKK : Hid (∀ n, n ≠ nm → (keyN n).sameKey (keyN nm) = false) := Lib.hid (fun n hne => Maps.sameKey_ne (keyN_ne hne))
        clear hby1 hby2 hkn hkx ex hat hv
        cases hh : hasF nm fs2 with
        | false =>
          have hd : decide (fs1 = fs2) = false := by
            simp
            intro e
            rw [← e, hh1] at hh
            cases hh
          have HH := Lib.hid hh
          clear hh
          go_wp2_with (at_lookup; refine wpList_lookup_own_ok _ rfl _ _ 55 rfl 9 45 keyed Tryz.underlying55 eR (zeroB _) .nil [] eR_nil m2 fs2.length D2 rfl hown3 _ _ rfl hkey ?_; intro v ps hv; rw [H2.out.dom, HH.out]; clear hv)
          go_ret
          exact ⟨by rw [hd]; rfl, HB3.out⟩
        | true =>
          have HH := Lib.hid hh
          clear hh
          have HEQ := Lib.hid (equal_bytes (v := vals1 nm) (u := vals2 nm) w3 HBY.out.1 HBY.out.2)
          cases hbe : ((bytesF nm fs1).toList == (bytesF nm fs2).toList) with
          | false =>
            have hd : decide (fs1 = fs2) = false := by
              simp
              intro e
              rw [← e] at hbe
              simp at hbe
            rw [hbe] at HEQ
            go_wp2_with (at_lookup; refine wpList_lookup_own_ok _ rfl _ _ 55 rfl 9 45 keyed Tryz.underlying55 eR (zeroB _) .nil [] eR_nil m2 fs2.length D2 rfl hown3 _ _ rfl hkey ?_; intro v ps hv; have hv2 : v = vals2 nm := H2.out.look (n := nm) (fun e => e) hv; subst hv2; rw [H2.out.dom, HH.out]; clear hv)
            refine HEQ.out.mono ?_
            rintro e w4 ⟨rfl, rfl⟩
            go_wp2_with fail
            go_ret
            exact ⟨by rw [hd]; rfl, HB3.out⟩
          | true =>
            rw [hbe] at HEQ
            have HA2 : Hid (Alike fs1 fs2 (fun z => left z && !z.sameKey (keyN nm))) := Lib.hid (fun n hn hl => by
              by_cases e : n = nm
              · subst e
                exact ⟨HH.out, ((bytes_iff _ _).1 hbe).symm⟩
              · refine HA.out n hn ?_
                have hl' : (left (keyN n) && !(keyN n).sameKey (keyN nm)) = false := hl
                rw [HKK.out n e] at hl'
                simpa using hl')
            have HSUB2 : Hid (∀ n, (fun z => left z && !z.sameKey (keyN nm)) (keyN n) = true → hasF n fs1 = true) := Lib.hid (fun n hn => HSUB.out n (by simp at hn; exact hn.1))
            clear hbe
            go_wp2_with (at_lookup; refine wpList_lookup_own_ok _ rfl _ _ 55 rfl 9 45 keyed Tryz.underlying55 eR (zeroB _) .nil [] eR_nil m2 fs2.length D2 rfl hown3 _ _ rfl hkey ?_; intro v ps hv; have hv2 : v = vals2 nm := H2.out.look (n := nm) (fun e => e) hv; subst hv2; rw [H2.out.dom, HH.out]; clear hv)
            refine HEQ.out.mono ?_
            rintro e w4 ⟨rfl, rfl⟩
            go_wp2_with fail
            go_roundw
            case measure => rw [hrg2.left_eq, hrg.left_eq]; exact hlt
            refine ⟨(fun z => left z && !z.sameKey (keyN nm)), cnt2, ?_, HA2, HSUB2, HB3⟩
            rw [hsz]
            exact hrg2
  · have hz : ¬ ((fs1.length : Int) = (fs2.length : Int)) := by omega
    have hd : decide (fs1 = fs2) = false := by simp; intro e; exact hsz (by rw [e])
    rw [hd]
    go_enter Tryz.func35, Tryz.ntmps35
    go_wp2_with (first
      | (at_len; refine wpList_len_own _ rfl _ 55 rfl 9 45 Tryz.underlying55 _ m1 fs1.length _ rfl hown1 ?_)
      | (at_len; refine wpList_len_own _ rfl _ 55 rfl 9 45 Tryz.underlying55 _ m2 fs2.length _ rfl hown2 ?_))
    go_ret
    exact ⟨rfl, Below.refl _ _⟩
end DiskP
end Go.Proofs.YtfbdhlpgklkjmaaGreatDoor
namespace Go.Proofs.YtfbdhlpgklkjmaaGreatDoor
open Go.RowKit Go.Maps Go.Sort
namespace DiskP
open DiskM DiskC ErrC

theorem Files.drew {B b m : Nat} {F : Nat → Prop} {fs : FL} {D : DataW Unit} {vals : ByteArray → Value} {w : World} (h : Files NoEx w B b m F fs D vals) : Files NoEx w.drew B b m F fs D vals :=
  h.keeps (S := fun _ => False) ⟨rfl, rfl, rfl, Nat.le_refl _, fun _ _ _ => rfl⟩ (fun _ _ h => h) (fun _ h => h.elim)

set_option maxRecDepth 100000 in
set_option maxHeartbeats 4000000 in
theorem same_files {a b B1 b1 m1 B2 b2 m2 : Nat} {F1 F2 : Nat → Prop} {fs1 fs2 : FL} {D1 D2 : DataW Unit} {vals1 vals2 : ByteArray → Value} {w : World}
    (h1 : Files NoEx w B1 b1 m1 F1 fs1 D1 vals1) (h2 : Files NoEx w B2 b2 m2 F2 fs2 D2 vals2)
    (ca : w.cell? ⟨a, 0, none⟩ = some (.map (some m1))) (cb : w.cell? ⟨b, 0, none⟩ = some (.map (some m2))) :
    Calls Tryz.prog 19 #[.pointer (some ⟨a, 0, none⟩), .pointer (some ⟨b, 0, none⟩)] w fun e w' => e = .returned (.bool (decide (fs1 = fs2))) ∧ Below w.heap.size w w' := by
  have HT1 := Lib.hid (there_any a m1 w.drew (by simpa using ca))
  have HT2 := Lib.hid (there_any b m2 w.drew (by simpa using cb))
  have HEQ := Lib.hid (eqf_any h1.drew h2.drew)
  have q0 : w.drew.cell? ⟨a, 0, none⟩ = some (.map (some m1)) := by simpa using ca
  have q1 : w.drew.cell? ⟨b, 0, none⟩ = some (.map (some m2)) := by simpa using cb
  have hla := Lib.hid (World.block_lt_of_cell? _ _ ca)
  have hlb := Lib.hid (World.block_lt_of_cell? _ _ cb)
  clear h1 h2 ca cb
  go_enter Tryz.func19, Tryz.ntmps19
  go_wp2_with fail
  have TK := Lib.hid trivial
  go_region_held3 (fun w' => w'.cell? ⟨a, 0, none⟩ = some (.map (some m1)) ∧ w'.cell? ⟨b, 0, none⟩ = some (.map (some m2))) (first | exact ⟨q0, q1⟩ | exact ⟨r0, r1⟩)
    (first
      | (go_at_call 17
         first
           | (have _t := TK
              refine HT1.out.mono ?_
              rintro e w5 ⟨rfl, rfl⟩
              clear TK _t)
           | (refine HT2.out.mono ?_
              rintro e w5 ⟨rfl, rfl⟩))
      | (go_at_call 35
         refine HEQ.out.mono ?_
         rintro e w6 ⟨rfl, hb⟩
         have r0 : w6.cell? ⟨a, 0, none⟩ = some (.map (some m1)) := by rw [hb.cell hla.out]; exact q0
         have r1 : w6.cell? ⟨b, 0, none⟩ = some (.map (some m2)) := by rw [hb.cell hlb.out]; exact q1
         have HB6 : Hid (Below w.heap.size w w6) := Lib.hid ⟨hb.os, hb.tape, hb.output, hb.size, hb.block⟩
         clear hb))
  go_wp2_with fail
  go_ret
  exact ⟨rfl, HB6.out⟩
end DiskP
end Go.Proofs.YtfbdhlpgklkjmaaGreatDoor
