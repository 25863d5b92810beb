/-
  A version that came in as an argument, as the walks want it.
-/
import Derived.Test.YtcbgndpbkcjhnaaDoorVerArg
import Derived.Test.YtcbgndpbkcjhnaaDoorVerTwin
namespace Go.Proofs.YtcbgndpbkcjhnaaDoor
open Go.RowKit
namespace VerC
open VerM StrC TextR

/-- the texts of a slice that came in, as lists of bytes -/
def lists (zs : List ByteArray) (len : Nat) : TL := (zs.take len).map (·.data.toList)
theorem u32_nat {x : Int} (h : (Lit.int .u32 x).wf = true) : ((x.toNat : Nat) : Int) = x := by
  have h2 : 0 ≤ x := by
    simp [Lit.wf, IntKind.min, IntKind.max, IntKind.signed, IntKind.bits] at h
    omega
  omega
theorem arg_of {w : World} {a : Option Addr} {len cap : Nat} {zs : List ByteArray} (h : VerArg.TextsIn w a len cap zs) (hr : cap * 16 ≤ 140737488351232) : Arg w a cap (lists zs len) ∧ (lists zs len).length = len := by
  rcases h with ⟨rfl, rfl, rfl, rfl⟩ | ⟨x, rfl, hl, hm, hz, hcell, hsz⟩
  · exact ⟨⟨Txs.nil _ _ _, fun _ => ⟨rfl, rfl⟩, by decide⟩, rfl⟩
  · have hlen : (lists zs len).length = len := by unfold lists; simp; omega
    refine ⟨⟨⟨by rw [hlen]; exact hl, fun s hs => ?_, by rw [hlen]; omega, fun h0 => ?_⟩, fun h => (by cases h), by rw [hlen]; omega⟩, hlen⟩
    · unfold lists at hs
      rw [List.mem_map] at hs
      obtain ⟨t, ht, rfl⟩ := hs
      have := hsz t (List.mem_of_mem_take ht)
      unfold maxLen at this
      simpa using this
    · rw [hlen] at h0
      obtain ⟨b, off, spot⟩ := x
      have hspot : spot = none := by simpa [Addr.add] using World.cell?_spot (hcell 0 (by omega))
      subst hspot
      refine ⟨b, off, rfl, fun i hi => ?_⟩
      rw [hlen] at hi
      have h1 : i < zs.length := by omega
      rw [← Go.WideShapes.add_plain, hcell i h1]
      have e : (lists zs len).getD i [] = zs[i].data.toList := by
        unfold lists
        rw [List.getD_eq_getElem?_getD, List.getElem?_map, List.getElem?_take_of_lt hi, List.getElem?_eq_getElem h1]
        rfl
      rw [e, List.getD_eq_getElem?_getD, List.getElem?_eq_getElem h1]
      congr 2
end VerC
end Go.Proofs.YtcbgndpbkcjhnaaDoor
