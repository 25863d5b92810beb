/-
  The document's own disk of layer 3: Copy.
-/
import Derived.Test.YtpmbokklpidohaaGreatDoorDiskRef8
import Derived.Deep.RegionHeldLaw
import Derived.Laws.OwnMore
import Derived.Maps.AppendAt
namespace Go.Proofs.YtpmbokklpidohaaGreatDoor
open Go.RowKit
namespace DiskC
open DiskM

section
variable {P : Program}
/-- a whole row behind a row of one's own, at a step of a region that draws: what is appended may be nil -/
theorem step_append_row {w : World} {ops : Array Oper} {o : Oper} {a : Act} {K : Act → World → Prop} {Q : Exit → Act → World → Prop} {E : Prop} (hgd : o.guard = none) (s x : Operand) (t : TypeId)
    (ho : o.op = .call { callee := .builtin .append, args := #[s, x], argTypes := #[t, t] })
    (base : Nat) (e : TypeId) (i : TypeInfo) (z : Value) (size bytes : Nat) (ht : P.underlying t = some (.slice e)) (hi : P.info? e = some i) (hz : i.zero = some z)
    (hsize : i.size = size) (hby : i.bytes = bytes) (hzs : z.cells.size = size) (hsz : 0 < size)
    (v : Value) (n : Nat) (xs : List Value) (hs : a.eval s = v) (hown : w.ownsRow base e size v n xs)
    (src : Value) (m : Nat) (news : List Value) (hx : a.eval x = src) (hsrc : (src = .slice none 0 0 ∧ m = 0) ∨ ∃ ad c, src = .slice (some ad) m c ∧ ∀ j u, news[j]? = some u → w.cell? (ad.add j) = some u)
    (hl : news.length = m * size) (h1 : ∀ u ∈ news, u.oneCell' = true) (h63 : n + m ≤ maxLen) (hbytes : (n + m) * bytes ≤ 140737488355328) (hbase : base ≤ w.heap.size)
    (h : ∀ ao cap w', w'.ownsRow base e size (.slice ao (n + m) cap) (n + m) (xs ++ news) → w.grownBy w' v.ownBlock → ((Value.slice ao (n + m) cap).ownBlock = v.ownBlock ∨ (Value.slice ao (n + m) cap).ownBlock = some w.heap.size) →
      K (a.put o.dst (.slice ao (n + m) cap)) w') :
    if Region.wanted o (yielded ops a.tmps) = true then Oper.wp P o a w K Q else E := by
  have hw : Region.wanted o (yielded ops a.tmps) = true := by simp [Region.wanted, hgd]
  rw [if_pos hw]
  have key : ∃ v' w', (Builtin.append_ #[t, t] o.type #[v, src]).run P w = .ok v' w' ∧ w'.ownsRow base e size v' (n + m) (xs ++ news) ∧ w.grownBy w' v.ownBlock ∧ (v'.ownBlock = v.ownBlock ∨ v'.ownBlock = some w.heap.size) := by
    rcases hsrc with ⟨rfl, rfl⟩ | ⟨ad, c, rfl, hnews⟩
    · have hn0 : news = [] := List.eq_nil_of_length_eq_zero (by omega)
      refine ⟨v, w, run_append_owned_none (P := P) (w := w) base t o.type e i size ht hi v n xs hown, ?_, ⟨rfl, rfl, rfl, Nat.le_refl _, fun _ _ _ => rfl⟩, Or.inl rfl⟩
      rw [hn0, List.append_nil]; exact hown
    · obtain ⟨v', w', hr, h2, h3, _, h5⟩ := run_append_own_at (P := P) w base t o.type e i z size bytes ht hi hz hsize hby hzs hsz v n xs hown ad m c news hl hnews h1 h63 hbytes hbase
      exact ⟨v', w', hr, h2, h3, h5⟩
  obtain ⟨v', w', hr, h2, h3, h5⟩ := key
  obtain ⟨ao, cap, rfl⟩ : ∃ ao cap, v' = .slice ao (n + m) cap := by
    rcases h2.2 with ⟨rfl, h0⟩ | ⟨g, cap, cur, rfl, -⟩
    · exact ⟨none, 0, by rw [h0]⟩
    · exact ⟨_, _, rfl⟩
  unfold Oper.wp execOp
  simp only [ho, resolve, invoke, builtin, Sem.run_bind, Sem.run_pure, Result.andThen_ok, List.map_toArray, List.map_cons, List.map_nil, hs, hx, hr]
  exact h ao cap w' h2 h3 h5
end

theorem flatF_one (fs : FL) : ∀ u ∈ flatF fs, u.oneCell' = true := by
  induction fs with
  | nil => intro u hu; cases hu
  | cons f r ih =>
    intro u hu
    simp only [flatF, List.mem_cons] at hu
    rcases hu with rfl | rfl | hu
    · rfl
    · rfl
    · exact ih u hu
/-- the row's cells, as what is appended -/
theorem IsDsk.news {w : World} {b : Nat} {v : Value} {fs : FL} {cut count : Int} {dead : Bool} (h : IsDsk w b v fs cut count dead) : (v = .slice none 0 0 ∧ fs.length = 0) ∨ ∃ ad c, v = .slice (some ad) fs.length c ∧ ∀ j u, (flatF fs)[j]? = some u → w.cell? (ad.add j) = some u := by
  rcases row_val h.row with ⟨e, e2⟩ | ⟨g, cap, e, -⟩
  · exact Or.inl ⟨e, by rw [e2]; rfl⟩
  · exact Or.inr ⟨_, cap, e, h.row.cells (g := g) (by rw [e]; rfl)⟩

set_option maxHeartbeats 4000000 in
theorem dcopy_any (b : Nat) (v : Value) (fs : FL) (cut count : Int) (dead : Bool) (w : World) (h : IsDsk w b v fs cut count dead) (hl : fs.length ≤ 1048576) :
    Calls Tryz.prog 8 #[.pointer (some ⟨b, 0, none⟩)] w fun e w' => ∃ p u, e = .returned (.pointer (some ⟨p, 0, none⟩)) ∧ w.heap.size ≤ p ∧ IsDsk w' p u fs cut count dead ∧ (∀ g, u.ownBlock = some g → w.heap.size ≤ g) ∧ Keeps (fun _ => False) w w' := by
  obtain ⟨i0, hi, hz0, hz1, hz2⟩ := info_parts info_file
  have a0 := h.files
  have a1 := h.cut
  have a2 := h.count
  have a3 := h.dead
  have hbw := h.lt
  have HD := Lib.hid h
  obtain ⟨vo, vc, rfl⟩ := h.val
  have HN := Lib.hid h.news
  clear h
  have hmade : Hid (((w.alloc (.cells #[] 71)).drew).ownsRow w.heap.size 71 2 (.slice (some ⟨w.heap.size, 0, none⟩) 0 0) 0 []) :=
    Lib.hid (World.ownsRow_made w #[] 0 (Nat.le_refl _) (Nat.zero_le _) rfl).drew
  have hsrc : Hid ((Value.slice vo fs.length vc = .slice none 0 0 ∧ fs.length = 0) ∨ ∃ ad c, Value.slice vo fs.length vc = .slice (some ad) fs.length c ∧ ∀ j u, (flatF fs)[j]? = some u → ((w.alloc (.cells #[] 71)).drew).cell? (ad.add j) = some u) := by
    apply Lib.hid
    rcases HN.out with h | ⟨ad, c, h1, h2⟩
    · exact Or.inl h
    · exact Or.inr ⟨ad, c, h1, fun j u hu => (World.cell?_alloc_some _ _ _ (by rw [h2 j u hu]; rfl)).trans (h2 j u hu)⟩
  have s1 : Hid ((flatF fs).length = fs.length * 2) := Lib.hid HD.out.row.1
  have s2 : Hid (∀ u ∈ flatF fs, u.oneCell' = true) := Lib.hid (flatF_one fs)
  have s3 : Hid (0 + fs.length ≤ maxLen) := Lib.hid (by unfold maxLen; omega)
  have s4 : Hid ((0 + fs.length) * 32 ≤ 140737488355328) := Lib.hid (by omega)
  have s5 : Hid (w.heap.size ≤ ((w.alloc (.cells #[] 71)).drew).heap.size) := Lib.hid (by simp)
  go_enter Tryz.func8, Tryz.ntmps8
  go_wp2_with fail
  go_region_held_law (fun w' => w'.cell? ⟨b, 0, none⟩ = some (.slice vo fs.length vc) ∧ w'.cell? ⟨b, 1, none⟩ = some (.int .i64 cut) ∧ w'.cell? ⟨b, 2, none⟩ = some (.int .i64 count) ∧ w'.cell? ⟨b, 3, none⟩ = some (.bool dead)) (go_keep)
    ((refine step_append_row rfl (.tmp 3) (.tmp 7) 35 rfl w.heap.size 71 i0 (.agg #[.string ⟨#[]⟩, .string ⟨#[]⟩]) 2 32 Tryz.underlying35 hi hz0 hz1 hz2 rfl (by decide) (.slice (some ⟨w.heap.size, 0, none⟩) 0 0) 0 [] (by simp [Act.eval]) hmade.out (.slice vo fs.length vc) fs.length (flatF fs) (by simp [Act.eval]) hsrc.out s1.out s2.out s3.out s4.out s5.out ?_
      intro ao cap w1 hown hgrow hat
      rw [Nat.zero_add] at hown hat ⊢
      obtain ⟨k0, k1, k2, k3⟩ : w1.cell? ⟨b, 0, none⟩ = some (.slice vo fs.length vc) ∧ w1.cell? ⟨b, 1, none⟩ = some (.int .i64 cut) ∧ w1.cell? ⟨b, 2, none⟩ = some (.int .i64 count) ∧ w1.cell? ⟨b, 3, none⟩ = some (.bool dead) := by
        have e : w1.heap[b]? = w.heap[b]? := (hgrow.block b (by simp; omega) (by simp [Value.ownBlock]; omega)).trans (Below.heap_alloc _ _ _ hbw)
        have ec : ∀ j, w1.cell? ⟨b, j, none⟩ = w.cell? ⟨b, j, none⟩ := fun j => World.cell?_of_block (a := ⟨b, j, none⟩) e
        exact ⟨(ec 0).trans a0, (ec 1).trans a1, (ec 2).trans a2, (ec 3).trans a3⟩
      have HO := Lib.hid hown
      have HG := Lib.hid hgrow
      have HA := Lib.hid hat
      clear hown hgrow hat))
  go_wp2_with fail
  go_ret
  have hz : w.heap.size ≤ w1.heap.size := Nat.le_trans s5.out HG.out.size
  have hrow : w1.ownsRow 0 71 2 (.slice ao fs.length cap) fs.length (flatF fs) := by
    obtain ⟨r1, r2⟩ := HO.out
    rw [List.nil_append] at r1 r2
    refine ⟨r1, ?_⟩
    rcases r2 with r2 | ⟨g, c, cur, e1, -, e3⟩
    · exact Or.inl r2
    · exact Or.inr ⟨g, c, cur, e1, Nat.zero_le _, e3⟩
  refine ⟨_, .slice ao fs.length cap, rfl, hz, ⟨by simp, by simp, by simp, by simp, fun j => by simp, hrow.alloc _, fun e => ?_⟩, fun g hg => (HO.out.lt g hg).1, ?_⟩
  · have := (HO.out.lt _ e).2; omega
  · have hK : Keeps (fun _ => False) w w1 := ⟨HG.out.os, HG.out.tape, HG.out.output, hz, fun k hk _ =>
      (HG.out.block k (by simp; omega) (by simp [Value.ownBlock]; omega)).trans (Below.heap_alloc _ _ _ hk)⟩
    exact hK.alloc _

set_option maxHeartbeats 1000000 in
theorem dsame_empty (a b cu cv : Nat) (u v : Option Addr) (w : World) (a0 : w.cell? ⟨a, 0, none⟩ = some (.slice u 0 cu)) (b0 : w.cell? ⟨b, 0, none⟩ = some (.slice v 0 cv)) :
    Calls Tryz.prog 13 #[.pointer (some ⟨a, 0, none⟩), .pointer (some ⟨b, 0, none⟩)] w fun e w' => e = .returned (.bool true) ∧ ∃ q, w' = w.drewN q := by
  go_enter Tryz.func13, Tryz.ntmps13
  go_wp2_with fail
  go_quiet (fail)
  go_wp2_with fail
  refine wp_loop_rounds 1 ?_; rw [rounds_succ]; go_wp2_with fail
  go_ret
  exact ⟨rfl, _, rfl⟩
theorem dsame_any (a b : Nat) (u v : Value) (fs gs : FL) (cut count cut' count' : Int) (dead dead' : Bool) (w : World)
    (h : IsDsk w a u fs cut count dead) (k : IsDsk w b v gs cut' count' dead') (hl : fs.length ≤ 65536) :
    Calls Tryz.prog 13 #[.pointer (some ⟨a, 0, none⟩), .pointer (some ⟨b, 0, none⟩)] w fun e w' => e = .returned (.bool (sameL fs gs)) ∧ ∃ q, w' = w.drewN q := by
  by_cases hne : gs.length = fs.length
  · by_cases h0 : fs.length = 0
    · obtain ⟨x, cx, rfl⟩ := h.val
      obtain ⟨y, cy, rfl⟩ := k.val
      have e1 : fs = [] := List.eq_nil_of_length_eq_zero h0
      have e2 : gs = [] := List.eq_nil_of_length_eq_zero (hne.trans h0)
      subst e1 e2
      exact dsame_empty a b cx cy x y w h.files k.files
    · rcases row_val h.row with ⟨-, e⟩ | ⟨g, c, rfl, -⟩
      · exact absurd (by rw [e]; rfl) h0
      · rcases row_val k.row with ⟨-, e⟩ | ⟨g2, c2, rfl, -⟩
        · exact absurd (hne.symm.trans (by rw [e]; rfl)) h0
        · exact dsame_some a b g g2 c c2 fs gs cut count cut' count' dead dead' w h k hl hne
  · have e : sameL fs gs = false := by
      unfold sameL
      rw [decide_eq_false (fun e => hne e.symm)]
      rfl
    rw [e]
    exact dsame_none a b u v fs gs cut count cut' count' dead dead' w h k hne
end DiskC
end Go.Proofs.YtpmbokklpidohaaGreatDoor
