/-
  What the document's own answers for layer 2 write: numbers, words, texts, lists as bytes: one contract a function.
-/
import Derived.Test.YtnkednjklfpblaaGreatDoorRefWord
import Derived.WalkKit
import Derived.Lib.Hide
import Derived.Laws.BytesArg
import Derived.WalkSmall
namespace Go.Proofs.YtnkednjklfpblaaGreatDoor
open Go.RowKit
namespace CodeC
open CodeM

theorem info_u8 : (Tryz.prog.info? 5).map (fun i => (i.zero, i.size, i.bytes)) = some (some (.int .u8 0), 1, 1) := by kernel_rfl

theorem cell_one (w : World) (v : Value) (t : TypeId) : ∀ j u, [v][j]? = some u → (w.alloc (.cells #[v] t)).cell? ((⟨w.heap.size, 0, none⟩ : Addr).add j) = some u := by
  intro j u hu
  match j with
  | 0 =>
    rw [Go.WideShapes.add_plain, World.cell?_alloc_at _ _ _ _ rfl]
    simpa using hu
  | j + 1 => simp at hu
theorem one_int (n : Int) : ∀ u ∈ [Value.int .u8 n], u.oneCell' = true := by
  intro u hu
  rw [List.mem_singleton] at hu
  subst hu
  rfl
/-- an owned row of bytes, as a text -/
theorem text_of_own {w : World} {B n : Nat} {v : Value} {l : List UInt8} (h : w.ownsRow B 5 1 v n (l.map byteV)) (hn : 0 < n) :
    (convert 78 9 v).run Tryz.prog w = .ok (.string ⟨l.toArray⟩) w := by
  have hcs : ∀ g, v.ownBlock = some g → _ := fun g hg => h.cells hg
  have hl : l.length = n := by have := h.1; simpa using this
  obtain ⟨_, ⟨rfl, h0⟩ | ⟨g, cp, cur, rfl, hg0, hblk, hle, hcm, hsz, htk⟩⟩ := h
  · omega
  · have e := run_convert_bytes_arg (P := Tryz.prog) w 78 5 Tryz.underlying78 Tryz.underlying5 g 0 n cp (l.map fun c => (c.toNat : Int)) (by simp [hl]) (fun i hi => by
      have := hcs g rfl i (.int .u8 ((l.map fun c => (c.toNat : Int)).getD i 0)) (by
        have hi' : i < l.length := by omega
        simp [hi', byteV])
      rw [Go.WideShapes.add_plain] at this
      exact this) 9 Tryz.underlying9
    rw [e, nums_text]
/-- one byte more behind an owned row -/
theorem own_snoc {w : World} {B n : Nat} {v : Value} {l : List UInt8} {m : Nat} {x : Int} (h : w.ownsRow B 5 1 v (n + 1) (l.map byteV ++ [Value.int .u8 x])) (hx : x = (m : Int)) (hm : m < 256) :
    w.ownsRow B 5 1 v (n + 1) ((l ++ [UInt8.ofNat m]).map byteV) := by
  subst hx
  rw [List.map_append, List.map_singleton, byteV_ofNat m hm]
  exact h

theorem uintB_le : ∀ (n x : Nat), x < 128 ^ n → 0 < n → (uintB x).length ≤ n
  | 0, _, _, h => absurd h (by omega)
  | 1, x, h, _ => by rw [uintB_small x (by omega)]; simp
  | n + 2, x, h, _ => by
    by_cases hb : 127 < x
    · rw [uintB_big x hb]
      have : x / 128 < 128 ^ (n + 1) := by
        rw [Nat.div_lt_iff_lt_mul (by decide), ← Nat.pow_succ]
        exact h
      have := uintB_le (n + 1) (x / 128) this (by omega)
      simp; omega
    · rw [uintB_small x hb]; simp
theorem uintB_ten (x : Nat) (h : x < 18446744073709551616) : (uintB x).length ≤ 10 := by
  have h3 : (128 : Nat) ^ 10 = 1180591620717411303424 := by decide
  exact uintB_le 10 x (by omega) (by omega)
theorem takes_le (zs : List ByteArray) (k len : Nat) (h : k ≤ len) : (textsB (zs.take k)).length ≤ (textsB (zs.take len)).length := by
  have e : zs.take len = zs.take k ++ (zs.take len).drop k := by
    have := List.take_append_drop k (zs.take len)
    rw [List.take_take, Nat.min_eq_left h] at this
    exact this.symm
  rw [e, textsB_append]; simp

end CodeC
end Go.Proofs.YtnkednjklfpblaaGreatDoor
