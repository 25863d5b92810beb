/-
  strconv.Itoa at numbers from 0 on, whatever the table of powers of ten holds: it answers some text, and writes nothing that was there. (Which text does not matter where it is only asked whether an error's text is empty.)
-/
import Derived.Test.YtpmbokklpidohaaDoorChecked
import Derived.WalkKit
import Derived.Lib.Hide
import Derived.Lib.ItoaWalk
import Derived.WalkSpells
import Derived.Shelf.Strconv.Itoa0
namespace Go.Proofs.YtpmbokklpidohaaDoor
open Go.RowKit
namespace ErrC

def SomeText (w : World) (e : Ending) (w' : World) : Prop := ∃ s : ByteArray, e = .returned (.string s) ∧ s.size ≤ 64 ∧ Below w.heap.size w w'
def SomeLen (w : World) (e : Ending) (w' : World) : Prop := ∃ d : Nat, e = .returned (.int .i64 d) ∧ d ≤ 64 ∧ w = w'
def SomeDigits (w : World) (e : Ending) (w' : World) : Prop := ∃ d : Nat, e = .returned (.int .i64 d) ∧ d ≤ 20 ∧ w = w'
/-- the table of powers of ten holds some numbers -/
def PowTab (w : World) : Prop := ∀ i, i < 20 → ∃ x : Int, w.cell? ⟨1, i, none⟩ = some (.int .u64 x)

set_option maxHeartbeats 400000 in
set_option maxRecDepth 100000 in
theorem small_any (i : Nat) (w : World) (h : i < 100) : Calls Tryd.prog 62 #[.int .i64 i] w (SomeText w) := by
  go_enter Tryd.func62, Tryd.ntmps62
  go_name_bytes_deep 45 SM hSM
  have hs : SM.size = 200 := by rw [← hSM]; decide +kernel
  clear hSM
  go_name_bytes_deep 30 DG hDG
  have hd : DG.size = 36 := by rw [← hDG]; decide +kernel
  clear hDG
  by_cases h1 : i < 10
  · go_wp2
    go_ret
    exact ⟨_, rfl, by simp [ByteArray.size_extract]; omega, Below.refl _ _⟩
  · go_wp2
    go_ret
    exact ⟨_, rfl, by simp [ByteArray.size_extract]; omega, Below.refl _ _⟩

theorem tab_le {T : ByteArray} (hv : ∀ i : Fin 256, T.data.toList.getD i.val 0 ≤ 8) (hs : T.size = 256) (i : Nat) (h : i < T.size) : T[i].toNat ≤ 8 := by
  have := hv ⟨i, by omega⟩
  rw [Lib.getD_at T i h]
  exact UInt8.le_iff_toNat_le.1 this
theorem len_end (w : World) (k : Int) (c : UInt8) (h0 : 0 ≤ k) (hk : k ≤ 56) (hc : c.toNat ≤ 8) : SomeLen w (.returned (.int .i64 (wrap64 (k + wrap64 (c.toNat : Int))))) w := by
  have e1 : wrap64 (c.toNat : Int) = (c.toNat : Int) := IntWalk.wrap64_in _ ⟨by omega, by omega⟩
  refine ⟨(k + (c.toNat : Int)).toNat, ?_, by omega, rfl⟩
  rw [e1, IntWalk.wrap64_in _ ⟨by omega, by omega⟩]
  congr 2
  omega
theorem len_end0 (w : World) (c : UInt8) (hc : c.toNat ≤ 8) : SomeLen w (.returned (.int .i64 (wrap64 (c.toNat : Int)))) w := by
  have e1 : wrap64 (c.toNat : Int) = (c.toNat : Int) := IntWalk.wrap64_in _ ⟨by omega, by omega⟩
  exact ⟨c.toNat, by rw [e1], by omega, rfl⟩
theorem len_end1 (w : World) (c : UInt8) (hc : c.toNat ≤ 8) : SomeLen w (.returned (.int .i64 (wrap64 (wrap64 (c.toNat : Int))))) w := by
  have e1 : wrap64 (c.toNat : Int) = (c.toNat : Int) := IntWalk.wrap64_in _ ⟨by omega, by omega⟩
  exact ⟨c.toNat, by rw [e1, e1], by omega, rfl⟩

set_option maxHeartbeats 4000000 in
set_option maxRecDepth 100000 in
theorem len64_any (x : Int) (w : World) (h0 : 0 ≤ x) (h1 : x ≤ 18446744073709551615) : Calls Tryd.prog 67 #[.int .u64 x] w (SomeLen w) := by
  go_enter Tryd.func67, Tryd.ntmps67
  go_name_bytes T hT
  have hs : T.size = 256 := by rw [← hT]; decide +kernel
  have hv : ∀ i : Fin 256, T.data.toList.getD i.val 0 ≤ 8 := by rw [← hT]; decide +kernel
  have HV := Lib.hid hv
  clear hT hv
  go_wp2
  all_goals go_ret
  all_goals first
    | exact len_end w _ _ (by omega) (by omega) (tab_le HV.out hs _ _)
    | exact len_end0 w _ (tab_le HV.out hs _ _)
    | exact len_end1 w _ (tab_le HV.out hs _ _)

theorem pow2_any (d : Nat) (w : World) (h : d ≤ 64) : Calls Tryd.prog 66 #[.int .i64 d] w fun e w' => e = .returned (.int .i64 ((d * 78913 / 262144 : Nat) : Int)) ∧ w = w' := by
  go_enter Tryd.func66, Tryd.ntmps66
  go_wp2
  go_ret
  exact ⟨by go_num, rfl⟩
theorem bool2_any (b : Bool) (w : World) : Calls Tryd.prog 68 #[.bool b] w fun e w' => e = .returned (.int .i64 (if b then 1 else 0)) ∧ w = w' := by
  cases b <;>
  · go_enter Tryd.func68, Tryd.ntmps68
    go_wp2
    go_ret
    exact ⟨rfl, rfl⟩
theorem digits_any (x : Int) (w : World) (h0 : 0 ≤ x) (h1 : x ≤ 18446744073709551615) (ht : PowTab w) : Calls Tryd.prog 63 #[.int .u64 x] w (SomeDigits w) := by
  go_enter Tryd.func63, Tryd.ntmps63
  go_wp2_with fail
  refine (len64_any x _ h0 h1).mono ?_
  rintro e w' ⟨d, rfl, hd, rfl⟩
  go_wp2_with fail
  refine (pow2_any d _ hd).mono ?_
  rintro e w' ⟨rfl, rfl⟩
  have hk : d * 78913 / 262144 ≤ 19 := by omega
  generalize d * 78913 / 262144 = k at *
  obtain ⟨y, hy⟩ := ht k (by omega)
  go_wp2_with (go_at_call 68; refine (bool2_any _ _).mono ?_; rintro e w' ⟨rfl, rfl⟩)
  · go_ret
    exact ⟨k + 1, by go_num, by omega, rfl⟩
  · go_ret
    exact ⟨k, rfl, by omega, rfl⟩
end ErrC
end Go.Proofs.YtpmbokklpidohaaDoor
