/-
  The plain mathematics of layer 12: which names are blobs', their order, the search for bytes. It names nothing of the program.
  The plain mathematics of layer 12: what Put leaves on a disk, cut or not. It names nothing of the program.
-/
import Derived.Test.YtfbdhlpgklkjmaaGreatDoorPathMath
import Derived.Test.YtfbdhlpgklkjmaaGreatDoorNameMath
import Derived.Test.YtfbdhlpgklkjmaaGreatDoorDiskMath3
import Derived.Test.YtfbdhlpgklkjmaaGreatDoorDiskFit
import Derived.Sort.Statements
import Derived.Test.YtfbdhlpgklkjmaaGreatDoorSumMath
namespace Go.Proofs.YtfbdhlpgklkjmaaGreatDoor
namespace BlobM
open PathM DiskM DiskC
open VerM (B)

abbrev Bl := Nat × Nat
/-- a list of bytes as a text -/
def tx (l : B) : ByteArray := ⟨l.toArray⟩
theorem tx_list (l : B) : (tx l).data.toList = l := rfl
theorem tx_of (s : ByteArray) : s = tx s.data.toList := by apply ByteArray.ext; simp [tx]
theorem tx_inj {a b : B} (h : tx a = tx b) : a = b := by have := congrArg (fun s : ByteArray => s.data.toList) h; simpa [tx] using this
theorem tx_size (l : B) : (tx l).size = l.length := by show l.toArray.size = _; simp
/-- the blob that a name speaks of -/
def blobOf (l : B) : Option Bl := match readP NameM.isN l with | some p => if p.kind = 2 then some (p.sum.toNat, p.part) else none | none => none
def nameB (x : Bl) : ByteArray := tx (blobN x.1 x.2)
/-- what a blob may be -/
structure Ok (x : Bl) : Prop where
  sum : x.1 < 18446744073709551616
  lo : 1 ≤ x.2
  hi : x.2 ≤ 4294967295
theorem read_blob2 {l : B} {p : Pth} (h : readP NameM.isN l = some p) (hk : p.kind = 2) : ∃ s n : Int, p = ⟨2, 0, s, n.toNat, []⟩ ∧ BlobD (bhd 47 l) s n ∧ l = blobN s.toNat n.toNat := by
  unfold readP at h
  split at h
  · unfold logR at h; split at h <;> cases h; simp at hk
  split at h
  · rename_i hb
    obtain ⟨s, n, e, hd⟩ := blob_some h
    refine ⟨s, n, e, hd, ?_⟩
    rw [hd.2.2.2.2.2]
    rcases VerM.firstAt 47 l with hl | ⟨x, r, e2, hx⟩
    · rw [(ahd_none hl).2] at hd
      exact absurd hd.1 (by simp)
    · subst e2
      rw [(ahd_hit r hx).1] at hb
      rw [(ahd_hit r hx).2, hb]
  split at h
  · unfold pageR at h; split at h <;> cases h; simp at hk
  split at h
  · unfold stageR at h; split at h <;> cases h; simp at hk
  · cases h
theorem blobOf_some {l : B} {x : Bl} (h : blobOf l = some x) : l = blobN x.1 x.2 ∧ Ok x ∧ readP NameM.isN l = some ⟨2, 0, x.1, x.2, []⟩ := by
  unfold blobOf at h
  split at h
  · rename_i p hp
    split at h
    · rename_i hk
      obtain ⟨s, n, e, hd, hl⟩ := read_blob2 hp hk
      cases h
      subst e
      have hr := read_back hd.2.1
      obtain ⟨h1, h2, h3, h4, h5, h6⟩ := hd
      refine ⟨hl, ⟨?_, ?_, ?_⟩, ?_⟩
      · show s.toNat < _; omega
      · show 1 ≤ n.toNat; omega
      · show n.toNat ≤ _; omega
      · rw [hp]
        show some (⟨2, 0, s, n.toNat, []⟩ : Pth) = some ⟨2, 0, ((s.toNat : Nat) : Int), n.toNat, []⟩
        rw [Int.toNat_of_nonneg hr.2.1]
    · cases h
  · cases h
theorem blobOf_blobN {x : Bl} (h : Ok x) : blobOf (blobN x.1 x.2) = some x := by
  unfold blobOf
  rw [read_blobN NameM.isN x.1 x.2 h.sum h.lo h.hi]
  rfl
theorem nameB_inj {x y : Bl} (hx : Ok x) (hy : Ok y) (h : nameB x = nameB y) : x = y := by
  have h1 := blobOf_blobN hx
  rw [tx_inj h, blobOf_blobN hy] at h1
  exact (Option.some.inj h1).symm
theorem blobN_length {x : Bl} (h : Ok x) : 1 ≤ (blobN x.1 x.2).length ∧ (blobN x.1 x.2).length ≤ 64 := by
  unfold blobN
  rw [if_neg (by have := h.lo; omega)]
  have h1 := SumM.digits_length x.1 16
  have h2 := dec_length x.2 9 (by have := h.hi; omega)
  have h3 : blobH.length = 4 := rfl
  simp only [List.length_append, List.length_cons]
  omega
theorem nameB_may {x : Bl} (h : Ok x) : mayB (nameB x) = true := by
  have := blobN_length h
  unfold mayB nameB
  rw [tx_size]
  simp only [Bool.and_eq_true, decide_eq_true_eq]
  omega
/-- the file where bytes are staged -/
def stageB : ByteArray := tx (stageN 1)
theorem stageB_may : mayB stageB = true := by decide +kernel
theorem stageB_ne {x : Bl} (h : Ok x) : stageB ≠ nameB x := by
  intro e
  have h1 := blobOf_blobN h
  rw [← tx_inj e] at h1
  have h2 := read_stageN NameM.isN 1 (by decide) (by decide)
  unfold blobOf at h1
  rw [show ((1 : Nat) : Int) = 1 from rfl] at h2
  rw [h2] at h1
  simp at h1
theorem blobOf_stage : blobOf (stageN 1) = none := by
  have h2 := read_stageN NameM.isN 1 (by decide) (by decide)
  rw [show ((1 : Nat) : Int) = 1 from rfl] at h2
  unfold blobOf
  rw [h2]
  rfl

/-! ### the order -/
def cmpN (a b : Nat) : Int := if a < b then -1 else if b < a then 1 else 0
def cmpB (x y : Bl) : Int := if cmpN x.1 y.1 ≠ 0 then cmpN x.1 y.1 else cmpN x.2 y.2
theorem cmpN_lt {a b : Nat} : cmpN a b < 0 ↔ a < b := by unfold cmpN; split <;> (try split) <;> omega
theorem cmpN_zero {a b : Nat} : cmpN a b = 0 ↔ a = b := by unfold cmpN; split <;> (try split) <;> omega
theorem cmpB_lt {x y : Bl} : cmpB x y < 0 ↔ (x.1 < y.1 ∨ (x.1 = y.1 ∧ x.2 < y.2)) := by
  unfold cmpB
  split
  · rename_i h
    rw [cmpN_lt]
    have : x.1 ≠ y.1 := fun e => h (cmpN_zero.2 e)
    omega
  · rename_i h
    have h : cmpN x.1 y.1 = 0 := by simpa using h
    rw [cmpN_lt]
    have := cmpN_zero.1 h
    omega
def ltB (x y : Bl) : Bool := decide (cmpB x y < 0)
theorem swoB : Go.Sort.SWO ltB where
  irrefl x := by unfold ltB; rw [decide_eq_false_iff_not, cmpB_lt]; omega
  trans x y z h1 h2 := by
    unfold ltB at *
    rw [decide_eq_true_eq, cmpB_lt] at *
    omega
  ntrans x y z h1 h2 := by
    unfold ltB at *
    rw [decide_eq_false_iff_not, cmpB_lt] at *
    omega

/-! ### the blobs among names -/
structure AllP (names : List ByteArray) (L : List Bl) : Prop where
  mem : ∀ x, x ∈ L ↔ ∃ n ∈ names, blobOf n.data.toList = some x
  rise : L.Pairwise (fun a b => ¬ cmpB b a < 0)
  len : L.length ≤ names.length
theorem AllP.ok {names : List ByteArray} {L : List Bl} (h : AllP names L) {x : Bl} (hx : x ∈ L) : Ok x := by
  obtain ⟨n, _, hn⟩ := (h.mem x).1 hx
  exact (blobOf_some hn).2.1
theorem AllP.name {names : List ByteArray} {L : List Bl} (h : AllP names L) {x : Bl} (hx : Ok x) : x ∈ L ↔ nameB x ∈ names := by
  rw [h.mem]
  constructor
  · rintro ⟨n, hn, e⟩
    have := (blobOf_some e).1
    rw [tx_of n, this] at hn
    exact hn
  · intro hn
    exact ⟨nameB x, hn, by rw [show (nameB x).data.toList = blobN x.1 x.2 from rfl]; exact blobOf_blobN hx⟩

/-! ### the search -/
/-- the first of the sum that has the bytes; else the first that is free -/
def lookL (P : Bl → Bool) (sm : Nat) : List Bl → Nat → Bl × Bool
  | [], n => ((sm, n), false)
  | b :: r, n => if b.1 < sm then lookL P sm r n else if sm < b.1 then ((sm, n), false) else if P b then (b, true) else lookL P sm r (if b = (sm, n) then n + 1 else n)
theorem look_drop {P : Bl → Bool} {sm : Nat} {L : List Bl} {n k : Nat} (h : k < L.length) : lookL P sm (L.drop k) n = if (L[k]).1 < sm then lookL P sm (L.drop (k + 1)) n else if sm < (L[k]).1 then ((sm, n), false) else if P L[k] then (L[k], true) else lookL P sm (L.drop (k + 1)) (if L[k] = (sm, n) then n + 1 else n) := by
  rw [List.drop_eq_getElem_cons h, lookL]
theorem look_yes {P : Bl → Bool} {sm : Nat} : ∀ {L : List Bl} {n : Nat}, (lookL P sm L n).2 = true → (lookL P sm L n).1 ∈ L ∧ (lookL P sm L n).1.1 = sm ∧ P (lookL P sm L n).1 = true
  | [], n, h => by simp [lookL] at h
  | b :: r, n, h => by
    rw [lookL] at h ⊢
    by_cases h1 : b.1 < sm
    · rw [if_pos h1] at h ⊢
      have := look_yes h
      exact ⟨List.mem_cons_of_mem _ this.1, this.2⟩
    rw [if_neg h1] at h ⊢
    by_cases h2 : sm < b.1
    · rw [if_pos h2] at h; cases h
    rw [if_neg h2] at h ⊢
    by_cases h3 : P b = true
    · rw [if_pos h3] at h ⊢
      exact ⟨List.mem_cons_self, by show b.1 = sm; omega, h3⟩
    · rw [if_neg h3] at h ⊢
      have := look_yes h
      exact ⟨List.mem_cons_of_mem _ this.1, this.2⟩
theorem look_no {P : Bl → Bool} {sm : Nat} : ∀ {L : List Bl} {n : Nat}, L.Pairwise (fun a b => ¬ cmpB b a < 0) → (lookL P sm L n).2 = false →
    (lookL P sm L n).1.1 = sm ∧ n ≤ (lookL P sm L n).1.2 ∧ (lookL P sm L n).1.2 ≤ n + L.length ∧ (∀ x ∈ L, x.1 = sm → P x = false) ∧ (lookL P sm L n).1 ∉ L ∧ ((∀ x ∈ L, x.1 = sm → n < x.2) → (lookL P sm L n).1.2 = n)
  | [], n, _, _ => by simp [lookL]
  | b :: r, n, hp, h => by
    obtain ⟨hb, hr⟩ := List.pairwise_cons.1 hp
    rw [lookL] at h ⊢
    by_cases h1 : b.1 < sm
    · rw [if_pos h1] at h ⊢
      obtain ⟨a1, a2, a3, a4, a5, a6⟩ := look_no hr h
      refine ⟨a1, a2, by rw [List.length_cons]; omega, fun x hx e => ?_, fun hm => ?_, fun hall => a6 (fun x hx => hall x (List.mem_cons_of_mem _ hx))⟩
      · rcases List.mem_cons.1 hx with rfl | hx
        · omega
        · exact a4 x hx e
      · rcases List.mem_cons.1 hm with hm | hm
        · rw [hm] at a1; omega
        · exact a5 hm
    rw [if_neg h1] at h ⊢
    by_cases h2 : sm < b.1
    · rw [if_pos h2] at h ⊢
      have hbig : ∀ x ∈ b :: r, sm < x.1 := fun x hx => by
        rcases List.mem_cons.1 hx with rfl | hx
        · exact h2
        · have := hb x hx
          rw [cmpB_lt] at this
          omega
      refine ⟨rfl, Nat.le_refl _, Nat.le_add_right _ _, fun x hx e => ?_, fun hm => ?_, fun _ => rfl⟩
      · have := hbig x hx; omega
      · have := hbig _ hm
        simp at this
    rw [if_neg h2] at h ⊢
    by_cases h3 : P b = true
    · rw [if_pos h3] at h; cases h
    rw [if_neg h3] at h ⊢
    have h3 : P b = false := by simpa using h3
    obtain ⟨a1, a2, a3, a4, a5, a6⟩ := look_no hr h
    have hsm : b.1 = sm := by omega
    have hn : n ≤ (if b = (sm, n) then n + 1 else n) ∧ (if b = (sm, n) then n + 1 else n) ≤ n + 1 := by split <;> omega
    refine ⟨a1, by omega, by rw [List.length_cons]; omega, fun x hx e => ?_, fun hm => ?_, fun hall => ?_⟩
    · rcases List.mem_cons.1 hx with rfl | hx
      · exact h3
      · exact a4 x hx e
    · rcases List.mem_cons.1 hm with hm | hm
      · by_cases e : b = (sm, n)
        · rw [if_pos e] at a2 hm
          rw [hm, e] at a2
          simp at a2
          omega
        · rw [if_neg e] at a2 hm a6
          rw [hm] at a2 a6
          have hlt : n < b.2 := by
            rcases Nat.lt_or_ge n b.2 with h | h
            · exact h
            · exact absurd (Prod.ext hsm (Nat.le_antisymm h a2)) e
          have h6 := a6 (fun x hx e2 => by
            have := hb x hx
            rw [cmpB_lt] at this
            omega)
          omega
      · exact a5 hm
    · have hlt := hall b List.mem_cons_self hsm
      have e : ¬ b = (sm, n) := fun e => by rw [e] at hlt; simp at hlt
      rw [if_neg e] at a6 ⊢
      exact a6 (fun x hx => hall x (List.mem_cons_of_mem _ hx))
end BlobM
end Go.Proofs.YtfbdhlpgklkjmaaGreatDoor
namespace Go.Proofs.YtfbdhlpgklkjmaaGreatDoor
namespace BlobM
open PathM DiskM DiskC
open VerM (B)

/-! ### pieces, one by one -/
def fl (n : ByteArray) (fs : FL) : B := (bytesF n fs).data.toList
theorem ext_list (x : ByteArray) (a b : Nat) : (x.extract a b).data.toList = (x.data.toList.drop a).take (b - a) := Lib.extract_data x a b
theorem dl (x : ByteArray) : x.data.toList.length = x.size := Array.length_toList
theorem app_list (a b : ByteArray) : (a ++ b).data.toList = a.data.toList ++ b.data.toList := by rw [ByteArray.data_append, Array.toList_append]
/-- what pieces leave: all of them, or a beginning of them -/
structure Adds (name : ByteArray) (x : B) (s : DS) (r : Bool × DS) : Prop where
  sorted : Sorted r.2.fs
  other : ∀ m, m ≠ name → hasF m r.2.fs = hasF m s.fs ∧ bytesF m r.2.fs = bytesF m s.fs
  len : r.2.fs.length ≤ s.fs.length + 1
  has : hasF name s.fs = true → hasF name r.2.fs = true
  res : (r.1 = true ∧ r.2.dead = false ∧ hasF name r.2.fs = true ∧ fl name r.2.fs = fl name s.fs ++ x) ∨ (r.1 = false ∧ r.2.dead = true ∧ ∃ q, q < x.length ∧ fl name r.2.fs = fl name s.fs ++ x.take q)
theorem lay_fl (name y : ByteArray) (fs : FL) : fl name (layF name y fs) = y.data.toList := by unfold fl; rw [(has_lay name y fs).2]
theorem room_le (name : ByteArray) (fs : FL) : room name fs ≤ fs.length + 1 := by unfold room; split <;> omega
theorem adds_len (cut : Int) (name : ByteArray) : ∀ (fuel : Nat) (x : ByteArray) (s : DS), hasF name s.fs = true → (addsS cut name fuel x s).2.fs.length = s.fs.length
  | 0, x, s, _ => rfl
  | k + 1, x, s, h => by
    have hl : ∀ y, (layF name y s.fs).length = s.fs.length := fun y => by rw [lay_len]; unfold room; rw [if_pos h]; rfl
    cases hr : rawB cut s.count s.dead with
    | false => rw [addsS_no hr]
    | true =>
      by_cases hx : x.size ≤ 32
      · rw [addsS_last hr hx]; exact hl _
      · rw [addsS_more hr hx, adds_len cut name k _ _ (has_lay _ _ _).1]; exact hl _
theorem adds_gen (cut : Int) (name : ByteArray) : ∀ (fuel : Nat) (x : ByteArray) (s : DS), x.size < fuel → 0 < x.size → Sorted s.fs → s.dead = false → Adds name x.data.toList s (addsS cut name fuel x s)
  | 0, x, s, h, _, _, _ => by omega
  | k + 1, x, s, h, h0, hs, hd => by
    cases hr : rawB cut s.count s.dead with
    | false =>
      rw [addsS_no hr]
      exact ⟨hs, fun m _ => ⟨rfl, rfl⟩, by show s.fs.length ≤ _; omega, fun h => h, .inr ⟨rfl, rfl, 0, by rw [dl]; exact h0, by simp⟩⟩
    | true =>
      have hsl : Sorted (layF name (bytesF name s.fs ++ x.extract 0 (min x.size 32)) s.fs) := hs.lay
      have hoth : ∀ m, m ≠ name → hasF m (layF name (bytesF name s.fs ++ x.extract 0 (min x.size 32)) s.fs) = hasF m s.fs ∧ bytesF m (layF name (bytesF name s.fs ++ x.extract 0 (min x.size 32)) s.fs) = bytesF m s.fs := fun m hm => has_lay_other hm hs
      have hfl : fl name (layF name (bytesF name s.fs ++ x.extract 0 (min x.size 32)) s.fs) = fl name s.fs ++ x.data.toList.take 32 := by
        rw [lay_fl, app_list, ext_list, List.drop_zero, Nat.sub_zero]
        congr 1
        rcases Nat.le_total x.size 32 with h1 | h1
        · rw [Nat.min_eq_left h1, List.take_of_length_le (by rw [dl]; omega), List.take_of_length_le (by rw [dl]; omega)]
        · rw [Nat.min_eq_right h1]
      by_cases hx : x.size ≤ 32
      · rw [addsS_last hr hx]
        refine ⟨hsl, hoth, ?_, fun _ => (has_lay _ _ _).1, .inl ⟨rfl, hd, (has_lay _ _ _).1, ?_⟩⟩
        · show (layF _ _ _).length ≤ _; rw [lay_len]; exact room_le name s.fs
        · show fl name (layF _ _ _) = _
          rw [hfl, List.take_of_length_le (by rw [dl]; exact hx)]
      · rw [addsS_more hr hx]
        have ih := adds_gen cut name k (x.extract 32 x.size) ⟨layF name (bytesF name s.fs ++ x.extract 0 (min x.size 32)) s.fs, s.count + 1, s.dead⟩ (by rw [rest_size]; omega) (by rw [rest_size]; omega) hsl hd
        have e32 : (x.extract 32 x.size).data.toList = x.data.toList.drop 32 := by
          rw [ext_list, List.take_of_length_le (by rw [List.length_drop, dl]; omega)]
        refine ⟨ih.sorted, fun m hm => ?_, ?_, fun _ => ih.has (has_lay _ _ _).1, ?_⟩
        · have h1 := ih.other m hm
          have h2 := hoth m hm
          exact ⟨h1.1.trans h2.1, h1.2.trans h2.2⟩
        · have h1 := adds_len cut name k (x.extract 32 x.size) ⟨layF name (bytesF name s.fs ++ x.extract 0 (min x.size 32)) s.fs, s.count + 1, s.dead⟩ (has_lay _ _ _).1
          rw [h1]
          show (layF _ _ _).length ≤ _
          rw [lay_len]
          exact room_le name s.fs
        · rcases ih.res with ⟨h1, h2, h3, h4⟩ | ⟨h1, h2, q, hq, h4⟩
          · refine .inl ⟨h1, h2, h3, ?_⟩
            rw [h4]
            show fl name (layF _ _ _) ++ _ = _
            rw [hfl, e32, List.append_assoc, List.take_append_drop]
          · refine .inr ⟨h1, h2, 32 + q, ?_, ?_⟩
            · rw [e32, List.length_drop] at hq; omega
            · rw [h4]
              show fl name (layF _ _ _) ++ _ = _
              rw [hfl, e32, List.append_assoc, List.take_add]

/-! ### Put of bytes by a name -/
structure PutP (name : ByteArray) (x : ByteArray) (s : DS) (r : Nat × DS) : Prop where
  sorted : Sorted r.2.fs
  other : ∀ m, m ≠ name → hasF m r.2.fs = hasF m s.fs ∧ bytesF m r.2.fs = bytesF m s.fs
  len : r.2.fs.length ≤ s.fs.length + 1
  small : (bytesF name r.2.fs).size ≤ x.size ∨ r.2.fs = s.fs
  res : (r.1 = 0 ∧ r.2.dead = false ∧ hasF name r.2.fs = true ∧ bytesF name r.2.fs = x) ∨ (r.1 = 5 ∧ r.2.dead = true)
theorem bytes_ext {a b : ByteArray} (h : a.data.toList = b.data.toList) : a = b := ByteArray.ext (Array.toList_inj.1 h)
theorem put_gen (cut : Int) (name x : ByteArray) (s : DS) (hn : mayB name = true) (hs : Sorted s.fs) (hd : s.dead = false) (hx : x.size ≤ 16777216) (hl : s.fs.length < 65536) : PutP name x s (putS cut name x s) := by
  unfold putS
  rw [if_neg (by simp [hn]), if_neg (by simp [hd]), if_neg (by omega)]
  cases hr : rawB cut s.count s.dead with
  | false =>
    rw [if_pos rfl]
    exact ⟨hs, fun m _ => ⟨rfl, rfl⟩, by show s.fs.length ≤ _; omega, .inr rfl, .inr ⟨rfl, rfl⟩⟩
  | true =>
    rw [if_neg (by decide)]
    by_cases h0 : x.size = 0
    · rw [if_pos h0]
      refine ⟨hs.lay, fun m hm => has_lay_other hm hs, ?_, .inl ?_, .inl ⟨rfl, hd, (has_lay _ _ _).1, ?_⟩⟩
      · show (layF _ _ _).length ≤ _; rw [lay_len]; exact room_le name s.fs
      · show (bytesF name (layF _ _ _)).size ≤ _; rw [(has_lay _ _ _).2]; exact Nat.zero_le _
      · show bytesF name (layF _ _ _) = x
        rw [(has_lay _ _ _).2]
        refine bytes_ext (List.eq_nil_of_length_eq_zero ?_).symm
        rw [dl]; exact h0
    · rw [if_neg h0]
      have g := adds_gen cut name (x.size + 1) x ⟨layF name ⟨#[]⟩ s.fs, s.count + 1, s.dead⟩ (by omega) (by omega) hs.lay hd
      have e0 : fl name (layF name ⟨#[]⟩ s.fs) = [] := by rw [lay_fl]
      refine ⟨g.sorted, fun m hm => ?_, ?_, .inl ?_, ?_⟩
      · have h1 := g.other m hm
        have h2 := has_lay_other (x := ⟨#[]⟩) hm hs
        exact ⟨h1.1.trans h2.1, h1.2.trans h2.2⟩
      · have := adds_len cut name (x.size + 1) x ⟨layF name ⟨#[]⟩ s.fs, s.count + 1, s.dead⟩ (has_lay _ _ _).1
        show (addsS _ _ _ _ _).2.fs.length ≤ _
        rw [this]
        show (layF _ _ _).length ≤ _; rw [lay_len]; exact room_le name s.fs
      · have hh : (bytesF name (addsR cut name x ⟨layF name ⟨#[]⟩ s.fs, s.count + 1, s.dead⟩).2.fs).size = (fl name (addsR cut name x ⟨layF name ⟨#[]⟩ s.fs, s.count + 1, s.dead⟩).2.fs).length := (dl _).symm
        show (bytesF name (addsR _ _ _ _).2.fs).size ≤ _
        rw [hh]
        unfold addsR
        rcases g.res with ⟨h1, h2, h3, h4⟩ | ⟨h1, h2, q, hq, h4⟩
        · rw [h4, e0, List.nil_append, dl]; exact Nat.le_refl _
        · rw [h4, e0, List.nil_append, List.length_take]; rw [dl] at hq ⊢; omega
      · rcases g.res with ⟨h1, h2, h3, h4⟩ | ⟨h1, h2, q, hq, h4⟩
        · refine .inl ⟨?_, h2, h3, ?_⟩
          · show code5 (addsR _ _ _ _).1 = 0
            unfold addsR; rw [h1]; rfl
          · refine bytes_ext ?_
            show fl name (addsS _ _ _ _ _).2.fs = _
            rw [h4, e0, List.nil_append]
        · refine .inr ⟨?_, h2⟩
          show code5 (addsR _ _ _ _).1 = 5
          unfold addsR; rw [h1]; rfl

/-! ### the sum of bytes, in plain numbers -/
def sumN (l : B) : Nat := SumM.nfnv 14695981039346656037 l
theorem sumN_lt (l : B) : sumN l < 18446744073709551616 := SumM.nfnv_lt l _ (by decide)
theorem sumN_fnv (l : B) : SumM.fnv 14695981039346656037 l = (sumN l : Int) := SumM.fnv_nat l _ (by decide)
def hasB (fs : FL) (x : Bl) (bytes : ByteArray) : Bool := hasF (nameB x) fs && decide (bytesF (nameB x) fs = bytes)
/-- the blob that Put finds, or makes -/
def lookB (fs : FL) (bytes : ByteArray) (L : List Bl) : Bl × Bool := lookL (fun x => hasB fs x bytes) (sumN bytes.data.toList) L 1
/-- Put, where nothing is amiss: a number (0: none), what it is of, the blob, the disk -/
structure StP where
  code : Nat
  what : ByteArray
  b : Bl
  s : DS
def storeS (cut : Int) (bytes : ByteArray) (x : Bl) (s : DS) : StP :=
  let p := putS cut stageB bytes s
  if p.1 ≠ 0 then ⟨p.1, stageB, x, p.2⟩ else
    let r := renameS cut stageB (nameB x) p.2
    ⟨r.1, r.2.1, x, r.2.2⟩
/-- what a disk has that is written by Put alone -/
structure Inv (Z : Nat) (fs : FL) (k : Nat) : Prop where
  sorted : Sorted fs
  len : fs.length ≤ k + 1
  kind : ∀ n, hasF n fs = true → n = stageB ∨ ∃ x, Ok x ∧ n = nameB x ∧ x.1 = sumN (fl n fs)
  size : ∀ n, hasF n fs = true → (bytesF n fs).size ≤ Z
  one : ∀ x y, Ok x → Ok y → hasF (nameB x) fs = true → hasF (nameB y) fs = true → bytesF (nameB x) fs = bytesF (nameB y) fs → x = y
theorem Inv.nil (Z k : Nat) : Inv Z [] k := ⟨Sorted.nil, by simp, fun n h => by simp [hasF, fnd] at h, fun n h => by simp [hasF, fnd] at h, fun x y _ _ h => by simp [hasF, fnd] at h⟩
theorem Inv.mono {Z : Nat} {fs : FL} {k m : Nat} (h : Inv Z fs k) (hm : k ≤ m) : Inv Z fs m := ⟨h.sorted, by have := h.len; omega, h.kind, h.size, h.one⟩
theorem Inv.may {Z : Nat} {fs : FL} {k : Nat} (h : Inv Z fs k) : ∀ f ∈ fs, mayB f.1 = true := fun f hf => by
  have hh := (has_mem h.sorted).2 ⟨f, hf, rfl⟩
  rcases h.kind f.1 hh with e | ⟨x, hx, e, _⟩
  · rw [e]; exact stageB_may
  · rw [e]; exact nameB_may hx
theorem Inv.good {Z : Nat} {fs : FL} {k : Nat} (h : Inv Z fs k) (hk : k ≤ 60000) (hz : Z ≤ 16777216) : DiskC.Good fs := ⟨by have := h.len; omega, fun f hf => by
  have hh := (has_mem h.sorted).2 ⟨f, hf, rfl⟩
  have := h.size f.1 hh
  rw [bytes_mem h.sorted f hf rfl] at this
  omega⟩
/-- another stage, the blobs as they were -/
theorem Inv.same {Z : Nat} {fs fs2 : FL} {k m : Nat} (h : Inv Z fs k) (hs : Sorted fs2) (hl : fs2.length ≤ m + 1) (hsz : hasF stageB fs2 = true → (bytesF stageB fs2).size ≤ Z)
    (ho : ∀ n, n ≠ stageB → hasF n fs2 = hasF n fs ∧ bytesF n fs2 = bytesF n fs) : Inv Z fs2 m := by
  refine ⟨hs, hl, fun n hn => ?_, fun n hn => ?_, fun x y hx hy h1 h2 e => ?_⟩
  · by_cases he : n = stageB
    · exact .inl he
    · rw [(ho n he).1] at hn
      rcases h.kind n hn with e | ⟨x, hx, e, h3⟩
      · exact .inl e
      · exact .inr ⟨x, hx, e, by unfold fl; rw [(ho n he).2]; exact h3⟩
  · by_cases he : n = stageB
    · rw [he] at hn ⊢; exact hsz hn
    · rw [(ho n he).1] at hn
      rw [(ho n he).2]; exact h.size n hn
  · have nx := (stageB_ne hx).symm
    have ny := (stageB_ne hy).symm
    rw [(ho _ nx).1] at h1
    rw [(ho _ ny).1] at h2
    rw [(ho _ nx).2, (ho _ ny).2] at e
    exact h.one x y hx hy h1 h2 e
/-- the blobs that stand on a disk -/
theorem names_of {fs : FL} (hs : Sorted fs) {n : ByteArray} : n ∈ fs.map (·.1) ↔ hasF n fs = true := by
  rw [has_mem hs, List.mem_map]
theorem look_found {fs : FL} {bytes : ByteArray} {L : List Bl} (hL : AllP (fs.map (·.1)) L) (hf : (lookB fs bytes L).2 = true) :
    Ok (lookB fs bytes L).1 ∧ hasF (nameB (lookB fs bytes L).1) fs = true ∧ bytesF (nameB (lookB fs bytes L).1) fs = bytes := by
  obtain ⟨h1, h2, h3⟩ := look_yes (P := fun x => hasB fs x bytes) hf
  have := hL.ok h1
  have h3 : hasB fs (lookB fs bytes L).1 bytes = true := h3
  unfold hasB at h3
  rw [Bool.and_eq_true, decide_eq_true_eq] at h3
  exact ⟨this, h3⟩
theorem look_free {Z : Nat} {fs : FL} {k : Nat} {bytes : ByteArray} {L : List Bl} (h : Inv Z fs k) (hk : k ≤ 60000) (hL : AllP (fs.map (·.1)) L) (hf : (lookB fs bytes L).2 = false) :
    Ok (lookB fs bytes L).1 ∧ (lookB fs bytes L).1.1 = sumN bytes.data.toList ∧ hasF (nameB (lookB fs bytes L).1) fs = false ∧ ∀ y, Ok y → hasF (nameB y) fs = true → bytesF (nameB y) fs ≠ bytes := by
  obtain ⟨a1, a2, a3, a4, a5, _⟩ := look_no (P := fun x => hasB fs x bytes) hL.rise hf
  have hlen := hL.len
  rw [List.length_map] at hlen
  have hlen2 := h.len
  have hok : Ok (lookB fs bytes L).1 := by
    refine ⟨?_, a2, ?_⟩
    · show (lookL _ _ _ _).1.1 < _
      rw [a1]
      exact sumN_lt _
    · show (lookL _ _ _ _).1.2 ≤ _
      omega
  refine ⟨hok, a1, ?_, fun y hy hh he => ?_⟩
  · cases e : hasF (nameB (lookB fs bytes L).1) fs
    · rfl
    · exact absurd ((hL.name hok).2 ((names_of h.sorted).2 e)) a5
  · have hm := (hL.name hy).2 ((names_of h.sorted).2 hh)
    have hs : y.1 = sumN bytes.data.toList := by
      rcases h.kind _ hh with e | ⟨x, hx, e, h3⟩
      · exact absurd e.symm (stageB_ne hy)
      · rw [nameB_inj hy hx e, h3]
        unfold fl
        rw [he]
    have := a4 y hm hs
    simp [hasB, hh, he] at this
theorem stageB_size : stageB.size ≤ 128 := by decide +kernel
/-- what Put of new bytes leaves -/
structure StoreP (Z : Nat) (bytes : ByteArray) (x : Bl) (fs : FL) (k : Nat) (r : StP) : Prop where
  inv : Inv Z r.s.fs (k + 1)
  old : ∀ y, Ok y → hasF (nameB y) fs = true → hasF (nameB y) r.s.fs = true ∧ bytesF (nameB y) r.s.fs = bytesF (nameB y) fs
  only : ∀ n, hasF n r.s.fs = true → n = stageB ∨ n = nameB x ∨ hasF n fs = true
  stage : r.code = 0 → hasF stageB r.s.fs = false
  res : (r.code = 0 ∧ r.s.dead = false ∧ hasF (nameB x) r.s.fs = true ∧ bytesF (nameB x) r.s.fs = bytes) ∨ (r.code = 5 ∧ r.s.dead = true ∧ r.what.size ≤ 128)
theorem store_gen {Z : Nat} {cut : Int} {bytes : ByteArray} {x : Bl} {s : DS} {k : Nat} (h : Inv Z s.fs k) (hk : k ≤ 60000) (hd : s.dead = false) (hz : Z ≤ 16777216) (hb : bytes.size ≤ Z) (hx : Ok x) (hs : x.1 = sumN bytes.data.toList) (hn : hasF (nameB x) s.fs = false)
    (hno : ∀ y, Ok y → hasF (nameB y) s.fs = true → bytesF (nameB y) s.fs ≠ bytes) (hno2 : hasF stageB s.fs = false) : StoreP Z bytes x s.fs k (storeS cut bytes x s) := by
  have hlen := h.len
  have g := put_gen cut stageB bytes s stageB_may h.sorted hd (by omega) (by omega)
  have h1 : Inv Z (putS cut stageB bytes s).2.fs (k + 1) := h.same g.sorted (by have := g.len; omega) (fun hh => by
    rcases g.small with h2 | h2
    · omega
    · rw [h2, hno2] at hh; cases hh) g.other
  have hold : ∀ y, Ok y → hasF (nameB y) s.fs = true → hasF (nameB y) (putS cut stageB bytes s).2.fs = true ∧ bytesF (nameB y) (putS cut stageB bytes s).2.fs = bytesF (nameB y) s.fs := fun y hy hh => by
    have := g.other _ (stageB_ne hy).symm
    exact ⟨this.1.trans hh, this.2⟩
  have honly : ∀ n, hasF n (putS cut stageB bytes s).2.fs = true → n = stageB ∨ n = nameB x ∨ hasF n s.fs = true := fun n hn => by
    by_cases e : n = stageB
    · exact .inl e
    · rw [(g.other n e).1] at hn
      exact .inr (.inr hn)
  unfold storeS
  rcases g.res with ⟨e1, e2, e3, e4⟩ | ⟨e1, e2⟩
  · simp only [e1, ne_eq, not_true_eq_false, if_false]
    have gs := g.sorted
    have go := g.other
    have gl := g.len
    clear g
    generalize (putS cut stageB bytes s).2 = p at *
    unfold renameS
    rw [if_neg (by rw [stageB_may]; decide), if_neg (by rw [nameB_may hx]; decide), if_neg (by rw [e2]; decide), if_neg (by rw [e3]; decide)]
    cases hr : rawB cut p.count p.dead with
    | false =>
      rw [if_pos rfl]
      exact ⟨h1, hold, honly, fun h => (by cases h), .inr ⟨rfl, rfl, stageB_size⟩⟩
    | true =>
      rw [if_neg (by decide)]
      have nx := (stageB_ne hx).symm
      have hst : Sorted (takeF stageB p.fs) := gs.take
      rw [e4]
      have hoth : ∀ m, m ≠ nameB x → m ≠ stageB → hasF m (layF (nameB x) bytes (takeF stageB p.fs)) = hasF m s.fs ∧ bytesF m (layF (nameB x) bytes (takeF stageB p.fs)) = bytesF m s.fs := fun m h1 h2 => by
        have a := has_lay_other (x := bytes) h1 hst
        have b := has_take_other h2 gs
        have c := go m h2
        exact ⟨a.1.trans (b.1.trans c.1), a.2.trans (b.2.trans c.2)⟩
      have hstage : hasF stageB (layF (nameB x) bytes (takeF stageB p.fs)) = false := by
        have a := has_lay_other (x := bytes) (stageB_ne hx) hst
        rw [a.1]; exact (has_take gs).1
      have hnew := has_lay (nameB x) bytes (takeF stageB p.fs)
      refine ⟨⟨hst.lay, ?_, fun n hn => ?_, fun n hn => ?_, fun a b ha hb' h3 h4 e => ?_⟩, fun y hy hh => ?_, fun n hn => ?_, fun _ => hstage, .inl ⟨rfl, e2, ?_, ?_⟩⟩
      · show (layF _ _ _).length ≤ _
        have h3 := lay_len (nameB x) bytes (takeF stageB p.fs)
        have h4 := room_le (nameB x) (takeF stageB p.fs)
        have h5 := take_len1 (m := stageB) p.fs
        rw [e3] at h5
        have h6 := gl
        simp only [if_true] at h5
        omega
      · by_cases ha : n = nameB x
        · refine .inr ⟨x, hx, ha, ?_⟩
          rw [ha]
          unfold fl
          rw [hnew.2]
          exact hs
        · by_cases hb' : n = stageB
          · exact .inl hb'
          · have := hoth n ha hb'
            rw [this.1] at hn
            rcases h.kind n hn with e | ⟨y, hy, e, h3⟩
            · exact .inl e
            · exact .inr ⟨y, hy, e, by unfold fl; rw [this.2]; exact h3⟩
      · by_cases ha : n = nameB x
        · rw [ha, hnew.2]; exact hb
        · by_cases hb' : n = stageB
          · rw [hb', hstage] at hn; cases hn
          · have := hoth n ha hb'
            rw [this.1] at hn
            rw [this.2]; exact h.size n hn
      · by_cases ea : a = x
        · by_cases eb : b = x
          · rw [ea, eb]
          · exfalso
            have hn1 : nameB b ≠ nameB x := fun e => eb (nameB_inj hb' hx e)
            have := hoth _ hn1 (stageB_ne hb').symm
            rw [this.1] at h4
            rw [ea, hnew.2, this.2] at e
            exact hno b hb' h4 e.symm
        · have hn1 : nameB a ≠ nameB x := fun e => ea (nameB_inj ha hx e)
          have h5 := hoth _ hn1 (stageB_ne ha).symm
          rw [h5.1] at h3
          rw [h5.2] at e
          by_cases eb : b = x
          · exfalso
            rw [eb, hnew.2] at e
            exact hno a ha h3 e
          · have hn2 : nameB b ≠ nameB x := fun e => eb (nameB_inj hb' hx e)
            have h6 := hoth _ hn2 (stageB_ne hb').symm
            rw [h6.1] at h4
            rw [h6.2] at e
            exact h.one a b ha hb' h3 h4 e
      · have hn1 : nameB y ≠ nameB x := fun e => by rw [e, hn] at hh; cases hh
        have := hoth _ hn1 (stageB_ne hy).symm
        exact ⟨this.1.trans hh, this.2⟩
      · by_cases e : n = stageB
        · exact .inl e
        · by_cases e2 : n = nameB x
          · exact .inr (.inl e2)
          · have := (hoth n e2 e).1
            have hn : hasF n (layF (nameB x) bytes (takeF stageB p.fs)) = true := hn
            rw [this] at hn
            exact .inr (.inr hn)
      · show hasF _ (layF _ _ _) = true
        exact hnew.1
      · show bytesF _ (layF _ _ _) = bytes
        exact hnew.2
  · simp only [e1, ne_eq, not_false_eq_true, if_true, show ¬ (5 = 0) by decide]
    exact ⟨h1, hold, honly, fun h => (by cases h), .inr ⟨rfl, e2, stageB_size⟩⟩

/-! ### Put and Open, over a disk -/
/-- Put: its error (0: none), what that is of, the blob, the disk -/
def putR (cut : Int) (bytes : ByteArray) (L : List Bl) (s : DS) : StP :=
  if 65536 < bytes.size then ⟨4, ⟨#[]⟩, (0, 0), s⟩ else if s.dead = true then ⟨5, ⟨#[]⟩, (0, 0), s⟩
  else if (lookB s.fs bytes L).2 = true then ⟨0, ⟨#[]⟩, (lookB s.fs bytes L).1, s⟩
  else if (storeS cut bytes (lookB s.fs bytes L).1 s).code ≠ 0 then ⟨(storeS cut bytes (lookB s.fs bytes L).1 s).code, (storeS cut bytes (lookB s.fs bytes L).1 s).what, (0, 0), (storeS cut bytes (lookB s.fs bytes L).1 s).s⟩
  else ⟨0, ⟨#[]⟩, (lookB s.fs bytes L).1, (storeS cut bytes (lookB s.fs bytes L).1 s).s⟩
/-- what Put leaves on a disk that is written by Put alone -/
structure PutQ (Z : Nat) (bytes : ByteArray) (s : DS) (k : Nat) (r : StP) : Prop where
  inv : Inv Z r.s.fs (k + 1)
  old : ∀ y, Ok y → hasF (nameB y) s.fs = true → hasF (nameB y) r.s.fs = true ∧ bytesF (nameB y) r.s.fs = bytesF (nameB y) s.fs
  only : ∀ n, hasF n r.s.fs = true → n = stageB ∨ n = nameB r.b ∨ hasF n s.fs = true ∨ r.code ≠ 0
  stage : r.code = 0 → hasF stageB r.s.fs = false
  res : (r.code = 0 ∧ r.s.dead = false ∧ Ok r.b ∧ hasF (nameB r.b) r.s.fs = true ∧ bytesF (nameB r.b) r.s.fs = bytes ∧ r.b.1 = sumN bytes.data.toList ∧ (s.fs = [] → r.b.2 = 1)) ∨ (r.code = 5 ∧ r.s.dead = true)
theorem put_all {Z : Nat} {cut : Int} {bytes : ByteArray} {s : DS} {k : Nat} {L : List Bl} (h : Inv Z s.fs k) (hk : k ≤ 60000) (hd : s.dead = false) (hz : Z ≤ 65536) (hb : bytes.size ≤ Z) (hno2 : hasF stageB s.fs = false) (hL : AllP (s.fs.map (·.1)) L) : PutQ Z bytes s k (putR cut bytes L s) := by
  unfold putR
  rw [if_neg (by omega), if_neg (by rw [hd]; decide)]
  by_cases hf : (lookB s.fs bytes L).2 = true
  · rw [if_pos hf]
    obtain ⟨h1, h2, h3⟩ := look_found hL hf
    refine ⟨h.mono (by omega), fun y _ hy => ⟨hy, rfl⟩, fun n hn => .inr (.inr (.inl hn)), fun _ => hno2, .inl ⟨rfl, hd, h1, h2, h3, ?_, fun e => ?_⟩⟩
    · obtain ⟨_, h5, _⟩ := look_yes (P := fun x => hasB s.fs x bytes) hf
      exact h5
    · show (lookB s.fs bytes L).1.2 = 1
      rw [e] at h2
      simp [hasF, fnd] at h2
  · rw [if_neg hf]
    have hf : (lookB s.fs bytes L).2 = false := by simpa using hf
    obtain ⟨h1, h2, h3, h4⟩ := look_free h hk hL hf
    have g := store_gen (cut := cut) h hk hd (by omega) hb h1 h2 h3 h4 hno2
    rcases g.res with ⟨e1, e2, e3, e4⟩ | ⟨e1, e2, e3⟩
    · rw [if_neg (by rw [e1]; decide)]
      refine ⟨g.inv, g.old, fun n hn => ?_, fun _ => g.stage e1, .inl ⟨rfl, e2, h1, e3, e4, h2, fun e => ?_⟩⟩
      · rcases g.only n hn with h | h | h
        · exact .inl h
        · exact .inr (.inl h)
        · exact .inr (.inr (.inl h))
      · have hL0 : L = [] := by
          have := hL.len
          rw [e] at this
          exact List.length_eq_zero_iff.1 (by simpa using this)
        show (lookB s.fs bytes L).1.2 = 1
        rw [hL0]; rfl
    · rw [if_pos (by rw [e1]; decide)]
      exact ⟨g.inv, g.old, fun n _ => .inr (.inr (.inr (by show _ ≠ 0; rw [e1]; decide))), fun h => absurd (e1.symm.trans h) (by decide), .inr ⟨e1, e2⟩⟩
/-! ### power that is never lost -/
theorem adds_alive {cut : Int} (hcut : cut < 0) {name : ByteArray} : ∀ (fuel : Nat) (x : ByteArray) (s : DS), s.dead = false → (addsS cut name fuel x s).2.dead = false
  | 0, x, s, hd => hd
  | k + 1, x, s, hd => by
    have hr : rawB cut s.count s.dead = true := by unfold rawB; rw [hd]; simp; omega
    by_cases hx : x.size ≤ 32
    · rw [addsS_last hr hx]; exact hd
    · rw [addsS_more hr hx]; exact adds_alive hcut k _ _ hd
theorem put_alive {cut : Int} (hcut : cut < 0) (name x : ByteArray) (s : DS) (hd : s.dead = false) : (putS cut name x s).2.dead = false := by
  have hr : rawB cut s.count s.dead = true := by unfold rawB; rw [hd]; simp; omega
  unfold putS
  split
  · exact hd
  rw [if_neg (by rw [hd]; decide)]
  split
  · exact hd
  rw [if_neg (by rw [hr]; decide)]
  split
  · exact hd
  · exact adds_alive hcut _ _ _ hd
theorem rename_alive {cut : Int} (hcut : cut < 0) (a b : ByteArray) (s : DS) (hd : s.dead = false) : (renameS cut a b s).2.2.dead = false := by
  have hr : rawB cut s.count s.dead = true := by unfold rawB; rw [hd]; simp; omega
  unfold renameS
  split
  · exact hd
  split
  · exact hd
  rw [if_neg (by rw [hd]; decide)]
  split
  · exact hd
  rw [if_neg (by rw [hr]; decide)]
  exact hd
theorem putR_alive {cut : Int} (hcut : cut < 0) (bytes : ByteArray) (L : List Bl) (s : DS) (hd : s.dead = false) : (putR cut bytes L s).s.dead = false := by
  have hs : ∀ x, (storeS cut bytes x s).s.dead = false := fun x => by
    unfold storeS
    dsimp only
    split
    · exact put_alive hcut _ _ _ hd
    · exact rename_alive hcut _ _ _ (put_alive hcut _ _ _ hd)
  unfold putR
  split
  · exact hd
  split
  · exact hd
  split
  · exact hd
  split
  · exact hs _
  · exact hs _
/-- what is staged goes -/
def sweepS (cut : Int) : List ByteArray → DS → Nat × ByteArray × DS
  | [], s => (0, ⟨#[]⟩, s)
  | f :: r, s => if (removeS cut f s).1 ≠ 0 then ((removeS cut f s).1, f, (removeS cut f s).2) else sweepS cut r (removeS cut f s).2
theorem sweep_inv {Z : Nat} {cut : Int} {s : DS} {k : Nat} (h : Inv Z s.fs k) (hd : s.dead = false) (hc : cut = -1) :
    ∃ s2, sweepS cut (if hasF stageB s.fs = true then [stageB] else []) s = (0, ⟨#[]⟩, s2) ∧ Inv Z s2.fs k ∧ s2.dead = false ∧ hasF stageB s2.fs = false ∧ ∀ n, n ≠ stageB → hasF n s2.fs = hasF n s.fs ∧ bytesF n s2.fs = bytesF n s.fs := by
  by_cases hh : hasF stageB s.fs = true
  · rw [if_pos hh]
    have e : removeS cut stageB s = (0, ⟨takeF stageB s.fs, s.count + 1, s.dead⟩) := by
      unfold removeS
      rw [if_neg (by rw [stageB_may]; decide), if_neg (by rw [hd]; decide), if_neg (by rw [hh]; decide), if_neg (by rw [hc, hd]; simp [rawB])]
    have hoth : ∀ n, n ≠ stageB → hasF n (takeF stageB s.fs) = hasF n s.fs ∧ bytesF n (takeF stageB s.fs) = bytesF n s.fs := fun n hn => has_take_other hn h.sorted
    refine ⟨⟨takeF stageB s.fs, s.count + 1, s.dead⟩, by rw [sweepS, e]; rfl, ?_, hd, (has_take h.sorted).1, hoth⟩
    refine h.same h.sorted.take ?_ (fun hx => ?_) hoth
    · have h1 := take_len1 (m := stageB) s.fs
      have h2 := h.len
      show (takeF stageB s.fs).length ≤ _
      omega
    · rw [(has_take h.sorted).1] at hx; cases hx
  · rw [if_neg hh]
    exact ⟨s, rfl, h, hd, by simpa using hh, fun n _ => ⟨rfl, rfl⟩⟩
end BlobM
end Go.Proofs.YtfbdhlpgklkjmaaGreatDoor
