/-
  The document's own answers for layer 7: the text of a version, a text cut at each sign: one contract a function.
-/
import Derived.Test.YtgoocnmbihjmlaaGreatDoorVerMem
import Derived.Test.YtgoocnmbihjmlaaGreatDoorTextWide
namespace Go.Proofs.YtgoocnmbihjmlaaGreatDoor
open Go.RowKit
namespace VerC
open VerM StrC TextR
set_option linter.unusedSimpArgs false

theorem str_extract (l : List UInt8) (a b : Nat) : (str l).extract a b = str ((l.take b).drop a) := by
  apply ByteArray.ext
  simp [str, List.extract_eq_take_drop, List.drop_take]
theorem sl_mid (l : List UInt8) (x y : Int) (a b : Nat) (hx : x = a) (hy : y = b) (h1 : a ≤ b) (h2 : b ≤ l.length) (w : World) :
    (Instr.slice 9 (.string (str l)) (some (.int .i64 x)) (some (.int .i64 y)) none).run Tryz.prog w = .ok (.string (str ((l.take b).drop a))) w := by
  subst hx; subst hy
  rw [run_slice_string w 9 (str l) .i64 .i64 _ _ Tryz.underlying9 (by omega) (by omega) (by rw [str_size]; omega), Int.toNat_natCast, Int.toNat_natCast, str_extract]
theorem sl_from (l : List UInt8) (x : Int) (a : Nat) (hx : x = a) (h1 : a ≤ l.length) (w : World) :
    (Instr.slice 9 (.string (str l)) (some (.int .i64 x)) none none).run Tryz.prog w = .ok (.string (str (l.drop a))) w := by
  subst hx
  rw [run_slice_string_l w 9 (str l) Tryz.underlying9 .i64 _ (by omega) (by rw [str_size]; omega), Int.toNat_natCast, str_extract, str_size, List.take_of_length_le (Nat.le_refl _)]
theorem sl_to (l : List UInt8) (x : Int) (a : Nat) (hx : x = a) (h1 : a ≤ l.length) (w : World) :
    (Instr.slice 9 (.string (str l)) none (some (.int .i64 x)) none).run Tryz.prog w = .ok (.string (str (l.take a))) w := by
  subst hx
  rw [run_slice_string_h w 9 (str l) Tryz.underlying9 .i64 _ (by omega) (by rw [str_size]; omega), Int.toNat_natCast, str_extract]; rfl
theorem below_own {w w' : World} {B : Nat} {v : Value} {L : List ByteArray} (h : OwnT w B v L) (hb : Below w.heap.size w w') : OwnT w' B v L :=
  World.ownsRow.kept h (row := none) ⟨hb.os, hb.tape, hb.output, hb.size, fun k hk _ => hb.block k hk⟩ (by cases v.ownBlock <;> simp)
theorem own_lt {w : World} {B : Nat} {v : Value} {L : List ByteArray} (h : OwnT w B v L) : ∀ k, v.ownBlock = some k → B ≤ k := fun k hk => (World.ownsRow.lt h k hk).1
theorem snoc_str {w : World} {K n : Nat} {v : Value} {ms : TL} {m : B} (h : w.ownsRow K 9 1 v (n + 1) ((ms.map str).map Value.string ++ [Value.string (str m)])) (hn : n = (ms.map str).length) : OwnT w K v ((ms ++ [m]).map str) := by
  rw [List.map_append, List.map_singleton]
  exact snoc h hn
/-- texts of a call's own, as memory holds them -/
theorem own_txs {w : World} {K : Nat} {v : Value} {p : TL} (h : OwnT w K v (p.map str)) (hs : ∀ s ∈ p, s.length ≤ 9223372036854775807) (hf : p.length ≤ 281474976710656) : ∃ a cap, v = .slice a p.length cap ∧ Txs w a cap p := by
  have hn : (p.map str).length = p.length := List.length_map ..
  obtain ⟨a, cp, e, hc⟩ := h.open_
  rw [hn] at e
  refine ⟨a, cp, e, ?_, hs, hf, fun h0 => ?_⟩
  · rcases h.2 with ⟨e1, e2⟩ | ⟨g, cap, cur, e1, hb, hg, hle, rest⟩
    · rw [hn] at e2; omega
    · rw [hn] at e1 hle
      rw [e1] at e
      injection e with _ _ e3
      omega
  · obtain ⟨g, ea, _, _, hcell⟩ := hc (by omega)
    refine ⟨g, 0, ea, fun i hi => ?_⟩
    rw [Nat.zero_add, hcell i (by omega)]
    simp [hi]

/-! ### the text of a version -/
theorem preL_succ (p : TL) (k : Nat) (h : k < p.length) : preL (p.take (k + 1)) = (preL (p.take k) ++ (if k = 0 then [45] else [46])) ++ p.getD k [] := by
  match p, h with
  | x :: r, h =>
    cases k with
    | zero => simp [preL, Lib.join, List.intercalate]
    | succ k =>
      have hk : k < r.length := by simpa using h
      rw [List.take_succ_cons, List.take_succ_cons]
      show 45 :: Lib.join (x :: r.take (k + 1)) [46] = (45 :: Lib.join (x :: r.take k) [46] ++ _) ++ _
      rw [Lib.join_cons, Lib.join_cons, Lib.joinTail_take_succ [46] r k (r.getD k []) (by rw [List.getD_eq_getElem?_getD, List.getElem?_eq_getElem hk]; rfl)]
      simp
theorem preL_len (p : TL) (n : Nat) (h : ∀ s ∈ p, s.length ≤ n) : ∀ k, k ≤ p.length → (preL (p.take k)).length ≤ (n + 1) * k
  | 0, _ => by simp [preL]
  | k + 1, hk => by
    have ih := preL_len p n h k (by omega)
    rw [preL_succ p k (by omega)]
    have : (p.getD k []).length ≤ n := by rw [List.getD_eq_getElem?_getD, List.getElem?_eq_getElem (by omega)]; exact h _ (List.getElem_mem (by omega))
    rw [Nat.mul_succ]
    split <;> simp at * <;> omega
theorem may_parts {v : Ver} (h : may v = true) : v.a ≤ mx ∧ v.b ≤ mx ∧ v.c ≤ mx ∧ v.pre.length ≤ 8 ∧ ∀ s ∈ v.pre, ident s = true := by
  unfold may at h
  simp only [Bool.and_eq_true, decide_eq_true_eq] at h
  exact ⟨h.1.1.1.1, h.1.1.1.2, h.1.1.2, h.1.2, fun s hs => List.all_eq_true.1 h.2 s hs⟩
theorem ident_size {s : B} (h : ident s = true) : 1 ≤ s.length ∧ s.length ≤ 16 := by
  unfold ident at h
  simp only [Bool.and_eq_true, decide_eq_true_eq] at h
  exact ⟨h.1.1.1, h.1.1.2⟩
theorem dec_size {n : Nat} (h : n ≤ mx) : (Lib.decDigits n).length ≤ 10 := dec_len 9 n (by unfold mx at h; omega)
theorem text_size {v : Ver} (h : may v = true) : (text v).length ≤ 200 := by
  obtain ⟨h1, h2, h3, h4, h5⟩ := may_parts h
  have e1 := dec_size h1
  have e2 := dec_size h2
  have e3 := dec_size h3
  have e4 := preL_len v.pre 16 (fun s hs => (ident_size (h5 s hs)).2) v.pre.length (Nat.le_refl _)
  rw [List.take_length] at e4
  unfold text
  simp
  omega
theorem wrap_u64 (n : Nat) (h : n ≤ 2147483647) : IntKind.u64.wrap (n : Int) = n := by simp [IntKind.wrap, IntKind.bits, IntKind.signed]; omega
/-! ### cut at each sign -/
theorem cut_on {l : B} {k q : Nat} (hq : q ≤ k) (hk : k < l.length) : (l.take (k + 1)).drop q = (l.take k).drop q ++ [l.getD k 0] := by
  rw [List.take_add_one, List.getElem?_eq_getElem hk, List.drop_append_of_le_length (by rw [List.length_take]; omega)]
  simp [hk]
theorem cut_hit {l : B} {d : UInt8} {k q : Nat} (hq : q ≤ k) (hk : k < l.length) (hc : l.getD k 0 = d) (hn : ∀ c ∈ (l.take k).drop q, c ≠ d) : pieces d (l.drop q) = (l.take k).drop q :: pieces d (l.drop (k + 1)) := by
  have e : l.drop q = (l.take k).drop q ++ d :: l.drop (k + 1) := by
    have h0 : l = l.take k ++ l.drop k := (List.take_append_drop k l).symm
    have h1 : l.drop k = d :: l.drop (k + 1) := by rw [List.drop_eq_getElem_cons hk, ← hc]; simp [hk]
    conv => lhs; rw [h0, h1]
    rw [List.drop_append_of_le_length (by rw [List.length_take]; omega)]
  rw [e, pieces_hit _ hn]
theorem cut_end {l : B} {d : UInt8} {q : Nat} (hn : ∀ c ∈ (l.take l.length).drop q, c ≠ d) : pieces d (l.drop q) = [(l.take l.length).drop q] := by
  rw [List.take_length] at *
  exact pieces_none hn
structure CutI (l : B) (d : UInt8) (k q : Nat) (done : TL) : Prop where
  le : k ≤ l.length + 1
  few : done.length ≤ k
  on : k ≤ l.length → q ≤ k ∧ (∀ c ∈ (l.take k).drop q, c ≠ d) ∧ pieces d l = done ++ pieces d (l.drop q)
  out : k = l.length + 1 → pieces d l = done
theorem CutI.start (l : B) (d : UInt8) : CutI l d 0 0 [] := ⟨by omega, by simp, fun _ => ⟨Nat.le_refl _, by simp, by simp⟩, fun h => by omega⟩
theorem CutI.hit {l : B} {d : UInt8} {k q : Nat} {done : TL} (h : CutI l d k q done) (hk : k < l.length) (hc : l.getD k 0 = d) : CutI l d (k + 1) (k + 1) (done ++ [(l.take k).drop q]) := by
  obtain ⟨h1, h2, h3⟩ := h.on (by omega)
  have hf := h.few
  refine ⟨by omega, by simp; omega, fun _ => ⟨Nat.le_refl _, ?_, ?_⟩, fun e => by omega⟩
  · intro c hc2
    rw [List.drop_eq_nil_of_le (by rw [List.length_take]; omega)] at hc2
    simp at hc2
  · rw [h3, cut_hit h1 hk hc h2]; simp
theorem CutI.last {l : B} {d : UInt8} {q : Nat} {done : TL} (h : CutI l d l.length q done) : CutI l d (l.length + 1) (l.length + 1) (done ++ [(l.take l.length).drop q]) := by
  obtain ⟨h1, h2, h3⟩ := h.on (by omega)
  have hf := h.few
  refine ⟨by omega, by simp; omega, fun e => by omega, fun _ => ?_⟩
  rw [h3, cut_end h2]
theorem CutI.next {l : B} {d : UInt8} {k q : Nat} {done : TL} (h : CutI l d k q done) (hk : k < l.length) (hc : l.getD k 0 ≠ d) : CutI l d (k + 1) q done := by
  obtain ⟨h1, h2, h3⟩ := h.on (by omega)
  have hf := h.few
  refine ⟨by omega, by omega, fun _ => ⟨by omega, ?_, h3⟩, fun e => by omega⟩
  rw [cut_on h1 hk]
  intro c hcm
  rcases List.mem_append.1 hcm with e | e
  · exact h2 c e
  · rw [List.mem_singleton] at e; rw [e]; exact hc
set_option maxHeartbeats 4000000 in
set_option maxRecDepth 100000 in
theorem rCut_any (l : B) (d : UInt8) (w : World) (hl : l.length ≤ 1000000) :
    Calls Tryz.prog 66 #[.string (str l), .int .u8 (d.toNat : Int)] w fun e w' => ∃ v, e = .returned v ∧ OwnT w' w.heap.size v ((pieces d l).map str) ∧ Below w.heap.size w w' := by
  have hs := str_size l
  obtain ⟨i0, hi, hz0, hz1, hz2⟩ := info_parts info_text
  have HX := Lib.hid (fun a (h : a < l.length) => idx_any l a a rfl h)
  have hd := d.toNat_lt
  go_enter Tryz.func66, Tryz.ntmps66
  go_wp2_with fail
  go_loopw [5, 6, 7] (fun vl vq vk wr => ∃ (k q : Nat) (ms : TL), vq = .int .i64 q ∧ vk = .int .i64 k ∧ Hid (CutI l d k q ms) ∧ Hid (OwnT wr w.heap.size vl (ms.map str)) ∧ Hid (Below w.heap.size w wr)) (fun _ _ vk _ => l.length + 1 - (intOf vk).toNat)
  case atStart => exact ⟨0, 0, [], rfl, rfl, Lib.hid (CutI.start l d), Lib.hid (OwnT.nil _ _), Lib.hid (Below.refl _ _)⟩
  case round =>
    obtain ⟨k, q, ms, rfl, rfl, HI, HO, HB⟩ := hrel
    rename World => wr
    have hle := HI.out.le
    have hfew := HI.out.few
    by_cases hk : k ≤ l.length
    · have hdec : decide ((k : Int) ≤ (l.length : Int)) = true := decide_eq_true (by omega)
      obtain ⟨hq, hon1, hon2⟩ := HI.out.on hk
      have hsl := sl_mid l q k q k rfl rfl hq hk
      clear hon1 hon2
      obtain ⟨L, hL⟩ : ∃ L, L = ms.map str := ⟨_, rfl⟩
      have hLl : L.length = ms.length := by rw [hL, List.length_map]
      have HO1 := HO.out
      rw [← hL] at HO1
      have HL := Lib.hid hL; clear hL
      obtain ⟨P, hP⟩ : ∃ P, P = (l.take k).drop q := ⟨_, rfl⟩
      rw [← hP] at hsl
      have HPP := Lib.hid hP; clear hP
      have HLL := Lib.hid hLl; clear hLl
      have HL2 : L.length ≤ 1000001 := by rw [HLL.out]; omega
      rcases Nat.lt_or_ge k l.length with hlt | hge
      · have hx := HX.out k hlt
        have HHIT := Lib.hid (fun h => HI.out.hit hlt h)
        have HNEXT := Lib.hid (fun h => HI.out.next hlt h)
        have hkl : ((k : Int) == (l.length : Int)) = false := beq_eq_false_iff_ne.2 (by omega)
        generalize l.getD k 0 = c at *
        by_cases hc : c = d
        · have HH := Lib.hid (HHIT.out hc)
          subst hc
          clear HHIT HNEXT
          go_wp2_with (at_builtin; refine wpList_one rfl _ _ 41 rfl w.heap.size 9 i0 (.string ⟨#[]⟩) Tryz.underlying41 hi hz0 hz1 hz2 rfl _ _ _ rfl (World.ownsRow.alloc HO1 _) ⟨wr.heap.size, 0, none⟩ 1 (.string (str P)) rfl (text_cell _ _ _) rfl ?c1 ?c2 ?_)
          case c1 => omega
          case c2 => have := HB.out.size; simp; omega
          intro v' w2 hown' hg
          have HB2 : Hid (Below w.heap.size w w2) := Lib.hid ((HB.out.alloc HB.out.size _).grown hg (by have := HB.out.size; simp; omega) (own_lt HO1))
          have HO2 := Lib.hid (snoc hown' rfl)
          clear hown' hg HO1 HB
          go_wp2_with fail
          go_roundw
          case rel => exact ⟨k + 1, k + 1, ms ++ [P], by go_num, by go_num, by rw [HPP.out]; exact HH, by rw [List.map_append, List.map_singleton, ← HL.out]; exact HO2, HB2⟩
          case measure => (simp [intOf]; try omega)
        · have HH := Lib.hid (HNEXT.out hc)
          have hcn : ((c.toNat : Int) == (d.toNat : Int)) = false := beq_eq_false_iff_ne.2 (fun e => hc (UInt8.toNat_inj.1 (by omega)))
          clear HHIT HNEXT hc
          go_wp2_with fail
          go_roundw
          case rel => exact ⟨k + 1, q, ms, rfl, by go_num, HH, HO, HB⟩
          case measure => (simp [intOf]; try omega)
      · obtain rfl : k = l.length := by omega
        have HH := Lib.hid HI.out.last
        go_wp2_with (at_builtin; refine wpList_one rfl _ _ 41 rfl w.heap.size 9 i0 (.string ⟨#[]⟩) Tryz.underlying41 hi hz0 hz1 hz2 rfl _ _ _ rfl (World.ownsRow.alloc HO1 _) ⟨wr.heap.size, 0, none⟩ 1 (.string (str P)) rfl (text_cell _ _ _) rfl ?c1 ?c2 ?_)
        case c1 => omega
        case c2 => have := HB.out.size; simp; omega
        intro v' w2 hown' hg
        have HB2 : Hid (Below w.heap.size w w2) := Lib.hid ((HB.out.alloc HB.out.size _).grown hg (by have := HB.out.size; simp; omega) (own_lt HO1))
        have HO2 := Lib.hid (snoc hown' rfl)
        clear hown' hg HO1 HB
        go_wp2_with fail
        go_roundw
        case rel => exact ⟨l.length + 1, l.length + 1, ms ++ [P], by go_num, by go_num, by rw [HPP.out]; exact HH, by rw [List.map_append, List.map_singleton, ← HL.out]; exact HO2, HB2⟩
        case measure => (simp [intOf]; try omega)
    · have hdec : decide ((k : Int) ≤ (l.length : Int)) = false := decide_eq_false (by omega)
      have HH := Lib.hid (HI.out.out (by omega))
      go_wp2_with fail
      go_ret
      exact ⟨_, rfl, by rw [HH.out]; exact HO.out, HB.out⟩
end VerC
end Go.Proofs.YtgoocnmbihjmlaaGreatDoor
