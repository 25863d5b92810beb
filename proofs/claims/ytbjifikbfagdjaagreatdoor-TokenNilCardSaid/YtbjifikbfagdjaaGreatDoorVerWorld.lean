/-
  What package version's library calls read of memory: MaxLen is some number, the two errors of package strconv are errors or nil, the table of ten's powers reads as its text; worlds that keep it.
-/
import Derived.Test.YtbjifikbfagdjaaGreatDoorVerP
import Derived.Test.YtbjifikbfagdjaaGreatDoorVerLay
import Derived.Lib.AtoiErrMem
import Derived.Lib.AppendIntMem
namespace Go.Proofs.YtbjifikbfagdjaaGreatDoor
open Go.RowKit
namespace VerC
open VerM StrC TextR

theorem g_max : Tryz.prog.globals.findIdx? (·.name == "internal/bytealg.MaxLen") = some 2 := by kernel_rfl
def isErr (v : Value) : Prop := v = .nilIface ∨ ∃ t p, v = .iface t p
structure Vw (w : World) : Prop where
  max : ∃ m : Int, w.cell? ⟨2, 0, none⟩ = some (.int .i64 m)
  syn : ∃ v, w.cell? ⟨3, 0, none⟩ = some v ∧ isErr v
  ran : ∃ v, w.cell? ⟨4, 0, none⟩ = some v ∧ isErr v
  pow : Lib.TabIs Tryz.prog w "internal/strconv.uint64pow10" .u64 Lib.pow10Tab
theorem Vw.gr {w w' : World} (h : Vw w) (g : Below w.heap.size w w') : Vw w' := by
  obtain ⟨⟨m, hm⟩, ⟨v, hv, ev⟩, ⟨u, hu, eu⟩, hp⟩ := h
  refine ⟨⟨m, by rw [g.cell (World.block_lt_of_cell? _ _ hm)]; exact hm⟩, ⟨v, by rw [g.cell (World.block_lt_of_cell? _ _ hv)]; exact hv, ev⟩, ⟨u, by rw [g.cell (World.block_lt_of_cell? _ _ hu)]; exact hu, eu⟩, ?_⟩
  exact Lib.tabBelow_of_tabIs hp _ g
theorem str_ab (l : B) : (str l).data.toList = l := by simp [str]
theorem cut_head {l : B} : Lib.cut l [45] = (head l, l.drop ((head l).length + 1), decide (ids l ≠ [])) := by
  unfold Lib.cut
  rcases firstAt 45 l with h | ⟨x, r, e, hx⟩
  · have e1 := index_none' h
    rw [if_neg (by rw [e1]; decide), (head_none h).1, (head_none h).2]
    simp
  · subst e
    have e1 := index_hit' r hx
    rw [if_pos (by rw [e1]; omega), (head_hit r hx).1, (head_hit r hx).2, e1]
    have : pieces 46 r ≠ [] := pieces_ne 46 r
    simp [this]
theorem drop_ids {l : B} (h : ids l ≠ []) : pieces 46 (l.drop ((head l).length + 1)) = ids l := by
  rcases firstAt 45 l with h2 | ⟨x, r, e, hx⟩
  · exact absurd (head_none h2).2 h
  · subst e
    rw [(head_hit r hx).1, (head_hit r hx).2, ← List.drop_drop]
    simp
/-- strings.Cut at the first hyphen -/
theorem pcut_any (l : B) (w : World) (hv : Vw w) (hl : l.length ≤ 128) :
    Calls Tryz.prog 183 #[.string (str l), .string ⟨#[45]⟩] w fun e w' => e = .returned (.tuple #[.string (str (head l)), .string (str (l.drop ((head l).length + 1))), .bool (decide (ids l ≠ []))]) ∧ ∃ n, w' = w.drewN n := by
  obtain ⟨m, hm⟩ := hv.max
  have h := Tryz.strings_Cut (str l) ⟨#[45]⟩ m w (by rw [str_size]; omega) hm
  rw [str_ab, show (⟨#[45]⟩ : ByteArray).data.toList = [45] from rfl, cut_head] at h
  exact h
theorem pieces_count (l : B) : (pieces 46 l).length = Lib.countB (str l) ⟨#[46]⟩ + 1 := by
  have h := Lib.splitB_all (⟨#[46]⟩ : ByteArray) (by decide) 0 _ (str l) rfl
  have h2 := congrArg List.length (Lib.splitB_data ⟨#[46]⟩ 0 (Lib.countB (str l) ⟨#[46]⟩) (str l))
  rw [List.length_map, h] at h2
  rw [h2]
  rw [str_ab, ← split_pieces]
  show _ = (Lib.split l [46]).length
  unfold Lib.split
  have e : Lib.countB (str l) ⟨#[46]⟩ = Lib.count l [46] := by unfold Lib.countB; rw [str_ab]
  first | rw [e]; rfl | rfl
theorem split_cells (l : B) : (Lib.splitB ⟨#[46]⟩ 0 (Lib.countB (str l) ⟨#[46]⟩) (str l)).map Value.string = (pieces 46 l).map (fun s => Value.string (str s)) := by
  have h2 := Lib.splitB_data ⟨#[46]⟩ 0 (Lib.countB (str l) ⟨#[46]⟩) (str l)
  rw [str_ab, show (⟨#[46]⟩ : ByteArray).data.toList = [46] from rfl] at h2
  have h3 : (Lib.splitB ⟨#[46]⟩ 0 (Lib.countB (str l) ⟨#[46]⟩) (str l)).map (·.data.toList) = pieces 46 l := by
    rw [h2, ← split_pieces]
    unfold Lib.split Lib.countB
    rw [str_ab]
  rw [← h3, List.map_map]
  apply List.map_congr_left
  intro s _
  simp [str]
set_option maxHeartbeats 1000000 in
theorem psplit_any (l : B) (w : World) (hv : Vw w) (hl : l.length ≤ 1000000) :
    Calls Tryz.prog 184 #[.string (str l), .string ⟨#[46]⟩] w fun e w' => e = .returned (.slice (some ⟨w.heap.size, 0, none⟩) (pieces 46 l).length (pieces 46 l).length) ∧ w' = w.alloc (.cells ((pieces 46 l).map (fun s => Value.string (str s))).toArray 9) := by
  obtain ⟨m, hm⟩ := hv.max
  have h := Tryz.strings_Split (str l) ⟨#[46]⟩ m w (by rw [str_size]; omega) hm (by decide)
  rw [split_cells] at h
  refine h.mono fun e w' ⟨he, hw⟩ => ⟨?_, hw⟩
  rw [he, pieces_count]
theorem split_txs (l : B) (w : World) (hl : l.length ≤ 1000000) : Txs (w.alloc (.cells ((pieces 46 l).map (fun s => Value.string (str s))).toArray 9)) (some ⟨w.heap.size, 0, none⟩) (pieces 46 l).length (pieces 46 l) := by
  have h1 := pieces_length 46 l
  refine ⟨Nat.le_refl _, fun s hs => ?_, by omega, fun h0 => ⟨w.heap.size, 0, rfl, fun i hi => ?_⟩⟩
  · have := pieces_mem_length 46 l s hs; omega
  · have hn := heap_alloc_new w (.cells ((pieces 46 l).map (fun s => Value.string (str s))).toArray 9)
    rw [Nat.zero_add]
    unfold World.cell?
    rw [hn]
    simp [hi]
/-- package strconv's ParseUint, as a number or none -/
theorem pparse_any (l : B) (w : World) (hv : Vw w) (hl : l.length ≤ 1000000) :
    Calls Tryz.prog 208 #[.string (str l), .int .i64 10, .int .i64 32] w fun e w' => (∃ (n : Nat) (q : Value), e = .returned (.tuple #[.int .u64 n, q]) ∧ (∀ u, Lib.parseUintB 32 l = .ok u → n = u ∧ q = .nilIface) ∧ ((∀ u, Lib.parseUintB 32 l ≠ .ok u) → ∃ t p, q = .iface t p)) ∧ Below w.heap.size w w' := by
  have hd : (str l).data.toList = l := str_ab l
  cases hp : Lib.parseUintB 32 l with
  | ok u =>
    refine (Tryz.strconv_ParseUint_10_at32_ok (str l) (by rw [str_size]; omega) u (by rw [hd]; exact hp) w).mono fun e w' ⟨he, hw⟩ => ⟨⟨u, _, he, ⟨fun u2 h2 => ?_, fun h => absurd rfl (h u)⟩⟩, ?_⟩
    · cases h2; exact ⟨rfl, rfl⟩
    · rcases hw with rfl | rfl
      · exact Below.refl _ _
      · exact Lib.bytesWorld_below _ _ _
  | range =>
    obtain ⟨v, hc, hev⟩ := hv.ran
    refine (Tryz.strconv_ParseUint_10_at32_range (str l) (by rw [str_size]; omega) (by rw [hd]; exact hp) v w hc hev).mono fun e w' ⟨N, he, _, _, hb⟩ => ⟨⟨4294967295, _, he, ⟨fun u2 h2 => (by cases h2), fun _ => ⟨_, _, rfl⟩⟩⟩, hb⟩
  | _ =>
    obtain ⟨v, hc, hev⟩ := hv.syn
    refine (Tryz.strconv_ParseUint_10_at32_bad (str l) (by rw [str_size]; omega) (Lib.parseUintB 32 l) (by rw [hd]) (fun u h => by rw [hp] at h; cases h) (fun h => by rw [hp] at h; cases h) v w hc hev).mono fun e w' ⟨N, he, _, _, hb⟩ => ⟨⟨0, _, he, ⟨fun u2 h2 => (by cases h2), fun _ => ⟨_, _, rfl⟩⟩⟩, hb⟩
set_option maxHeartbeats 1000000 in
/-- package version's number -/
theorem pnumber_any (l : B) (w : World) (hv : Vw w) (hl : l.length ≤ 1000000) :
    Calls Tryz.prog 185 #[.string (str l)] w fun e w' => (∃ x : Int, e = .returned (.tuple #[.int .u32 x, .bool (pnum l).isSome]) ∧ ∀ n, pnum l = some n → x = n) ∧ Below w.heap.size w w' := by
  have HP := Lib.hid (pparse_any l w hv hl)
  have HQ := Lib.hid (fun w => ppadded_any l w (by omega))
  by_cases hok : ∃ u, Lib.parseUintB 32 l = .ok u
  · obtain ⟨u, hu⟩ := hok
    have HE := Lib.hid (pnum_ok hu)
    have hu2 := ((parseB_ok l u).1 hu).2.1
    have hu3 := ((parseB_ok l u).1 hu).2.2
    have hw : IntKind.u32.wrap (u : Int) = u := by simp [IntKind.wrap, IntKind.bits, IntKind.signed]; omega
    have HU := Lib.hid hu
    generalize padded l = pd at *
    clear hv hu2 hu3 hu
    go_enter Tryz.func185, Tryz.ntmps185
    go_wp2_with (go_at_call 208; refine HP.out.mono ?_; rintro e w1 ⟨⟨n, q, rfl, h1, h2⟩, hb⟩; refine Hid.out ?_)
    refine Lib.hid ?_
    obtain ⟨rfl, rfl⟩ := h1 u HU.out
    have HB := Lib.hid hb
    clear h1 h2 hb HP
    go_wp2_with (go_at_call 209; refine (HQ.out _).mono ?_; rintro e w2 ⟨rfl, rfl⟩)
    go_ret2
    refine ⟨⟨(n : Int), ?_, fun m hm => ?_⟩, HB.out⟩
    · rw [HE.out]; cases pd <;> rfl
    · rw [HE.out] at hm
      cases pd
      · simp at hm; rw [hm]
      · simp at hm
  · have HNO := Lib.hid (fun u h => hok ⟨u, h⟩)
    have HE := Lib.hid (pnum_no (fun u h => hok ⟨u, h⟩))
    clear hv hok
    go_enter Tryz.func185, Tryz.ntmps185
    go_wp2_with (go_at_call 208; refine HP.out.mono ?_; rintro e w1 ⟨⟨n, q, rfl, h1, h2⟩, hb⟩; refine Hid.out ?_)
    refine Lib.hid ?_
    obtain ⟨tq, pq, rfl⟩ := h2 (fun u h => HNO.out u h)
    have HB := Lib.hid hb
    clear h1 h2 hb HP
    go_wp2_with (go_at_call 209; refine (HQ.out _).mono ?_; rintro e w2 ⟨rfl, rfl⟩)
    go_ret2
    exact ⟨⟨_, by rw [HE.out]; rfl, fun m hm => (by rw [HE.out] at hm; cases hm)⟩, HB.out⟩
end VerC
end Go.Proofs.YtbjifikbfagdjaaGreatDoor
