/-
  What the proof of EvBoth stands on, part 14.
-/
import Derived.Below
import Derived.ChangeArms
import Derived.ChangeSame
import Derived.Deep.DeepHandedRow
import Derived.Deep.Fields
import Derived.Deep.Slices
import Derived.LaidHandle
import Derived.LaidLaws
import Derived.LaidSub
import Derived.Lay
import Derived.Lib.CountLaws
import Derived.Lib.LaidTab
import Derived.Lib.Replace
import Derived.MakeChecks
import Derived.SizedLaws
import Derived.SliceStrings
import Derived.StillTailTactics
import Derived.Stop.Joined
import Derived.Stop.LaidErr
import Derived.Test.YtfbegbmjmhnplaaGreatDoorRows
import Derived.Test.YtfbegbmjmhnplaaGreatDoorT13
set_option linter.unusedSimpArgs false
set_option linter.unusedVariables false
set_option maxHeartbeats 16000000
namespace Go.Proofs.YtfbegbmjmhnplaaGreatDoor
open Go.Lib (hid)
section
open Go.RowKit
namespace VerC
open VerM StrC TextR
end VerC
open Go.RowKit
namespace VerC
open VerM StrC TextR
end VerC
namespace SpanC
open VerM StrC TextR VerC
end SpanC
open Go.RowKit
namespace SpanC
open VerM SpanM StrC TextR VerC
variable {K : Prop}
end SpanC
open Go.RowKit
namespace SpanC
open VerM SpanM StrC TextR VerC
variable {K : Prop}
end SpanC
open Go.RowKit
namespace SpanC
open VerM SpanM StrC TextR VerC
end SpanC
open Go.RowKit
namespace SpanC
open VerM SpanM StrC TextR VerC
end SpanC
open Go.RowKit
namespace SpanC
open VerM SpanM StrC TextR VerC
end SpanC
open Go.RowKit
namespace SpanC
open VerM SpanM StrC TextR VerC
end SpanC
open Go.RowKit
namespace SpanC
open VerM SpanM StrC TextR VerC
end SpanC
open Go.RowKit
namespace SpanC
open VerM SpanM StrC TextR VerC
variable {K : Prop}
end SpanC
open Go.RowKit
namespace SpanC
open VerM SpanM StrC TextR VerC
end SpanC
open Go.RowKit
namespace VerC
theorem zlx {P : Program} {w : World} {g n : Nat} {t e : TypeId} {zero : Array Value} {k : IntKind} (h : w.ShapedOpen P) (hg : g < P.globals.size)
 (h0 : ((begin P (fun _ _ => 0) default).world.heap[g]?).bind Obj.row? = some (zero, t)) (hz : zero.size = n) (hb : P.buildable t = true) (hc : P.cellTypes P.depth t = some (List.replicate n e)) (hu : P.underlying e = some (.int k)) (i : Nat) (hi : i < n) :
 ∃ m, w.cell? ⟨g, i, none⟩ = some (.int k m) := by
 obtain ⟨cs, hh, hs, hr⟩ := h.1 g zero t hg h0
 obtain ⟨ts, hts, _, hall⟩ := hr hb
 rw [hc] at hts
 cases hts
 have h1 : i < cs.size := by omega
 obtain ⟨u, hu', hok⟩ := hall i cs[i] (by simp [h1])
 have hu2 : u = e := by
  have hl : (List.replicate n e)[i % (List.replicate n e).length]? = some u := hu'
  rw [List.getElem?_replicate] at hl
  split at hl
  · exact (Option.some.inj hl).symm
  · cases hl
 subst hu2
 have hcell : w.cell? ⟨g, i, none⟩ = some cs[i] := by simp [World.cell?, hh, h1]
 rw [hcell]
 unfold Cell.ok at hok
 rw [hu] at hok
 cases hv : cs[i] <;> rw [hv] at hok <;> simp at hok
 case int k' m => exact ⟨m, by rw [hok.1]⟩
theorem g_syn : Tryz.prog.globalNamed "strconv.ErrSyntax" = some 3 := by kernel_rfl
theorem g_ran : Tryz.prog.globalNamed "strconv.ErrRange" = some 4 := by kernel_rfl
theorem zly : "*" ++ "errors.errorString" = "*errors.errorString" := by decide
theorem zlz (u : TypeId) (h : Tryz.prog.typeName? 3 u = some "*errors.errorString") : u = 275 :=
 typeName_ptr_named (nm := "errors.errorString") (by rw [zly]; kernel_rfl) (by kernel_rfl) (by decide) u (by rw [zly]; exact h)
theorem zma : Tryz.prog.cellsOf 277 = 1 := by kernel_rfl
theorem zmb : Tryz.prog.cellsOf 9 = 1 := by kernel_rfl
theorem g_pow : Tryz.prog.globalNamed "internal/strconv.uint64pow10" = some 2 := by kernel_rfl
def laidL : List (String × DataW Unit) := [("math/bits.deBruijn32tab", Rows.laid_math_bits_deBruijn32tab), ("math/bits.deBruijn64tab", Rows.laid_math_bits_deBruijn64tab), ("internal/strconv.uint64pow10", Rows.laid_internal_strconv_uint64pow10), ("unicode/utf8.acceptRanges", Rows.laid_unicode_utf8_acceptRanges), ("strconv.ErrRange", Rows.laid_strconv_ErrRange), ("strconv.ErrSyntax", Rows.laid_strconv_ErrSyntax), ("unicode/utf8.first", Rows.laid_unicode_utf8_first)]
theorem vw_of {W : World} (h : laidMetH Tryz.prog laidL W) (hs : W.ShapedOpen Tryz.prog) : Vw W := by
 refine ⟨zlx (g := 1) (n := 1) (zero := #[.int .i64 0]) (t := 3) (e := 3) hs (of_decide_eq_true (by kernel_rfl)) (by kernel_rfl) (by kernel_rfl) (by kernel_rfl) (by kernel_rfl) Tryz.underlying3 0 (by decide),
?_, ?_, ?_⟩
 rotate_left 2
 have h1 := h.filter (fun x => x.1 == "internal/strconv.uint64pow10")
 have h2 : laidMet Tryz.prog [("internal/strconv.uint64pow10", Rows.laid_internal_strconv_uint64pow10)] W := by
  rw [← MakeChecks.laidMetH_plain _ _ _ (by kernel_rfl)]
  exact h1
 · exact Lib.tabIs_of_head (t := 236) (e := 24) (n := 20) g_pow (by kernel_rfl) Tryz.underlying236 Tryz.underlying24 (by kernel_rfl) (by kernel_rfl) h2
 · have h3 := h.filter (fun x => x.1 == "strconv.ErrSyntax")
   have h4 : laidMet Tryz.prog [("strconv.ErrSyntax", Rows.laid_strconv_ErrSyntax)] W := by
    rw [← MakeChecks.laidMetH_plain _ _ _ (by kernel_rfl)]
    exact h3
   obtain ⟨a0, s0, hv0, -, -, -⟩ := laid_sentinel h4 g_syn (ti := 40) (by kernel_rfl) Tryz.underlying40 zlz Tryz.underlying275 Tryz.underlying277 rfl rfl Tryz.underlying9 zma zmb
   have h0 := World.var?_cell g_syn hv0 0
   exact ⟨_, by simpa using h0, .inr ⟨_, _, rfl⟩⟩
 · have h3 := h.filter (fun x => x.1 == "strconv.ErrRange")
   have h4 : laidMet Tryz.prog [("strconv.ErrRange", Rows.laid_strconv_ErrRange)] W := by
    rw [← MakeChecks.laidMetH_plain _ _ _ (by kernel_rfl)]
    exact h3
   obtain ⟨a0, s0, hv0, -, -, -⟩ := laid_sentinel h4 g_ran (ti := 40) (by kernel_rfl) Tryz.underlying40 zlz Tryz.underlying275 Tryz.underlying277 rfl rfl Tryz.underlying9 zma zmb
   have h0 := World.var?_cell g_ran hv0 0
   exact ⟨_, by simpa using h0, .inr ⟨_, _, rfl⟩⟩
def laidD : List (String × DataW Unit) := laidL.filter fun x => x.2.handleName?.isNone
noncomputable def laidW (os : Os) : World := (World.holding Tryz.prog os ⟨#[], #[], []⟩).layVars Tryz.prog laidD
theorem laidW_os (os : Os) : (laidW os).os = os := World.layVars_os _ _ _
set_option maxRecDepth 100000 in
theorem laidW_met (os : Os) (args : Array Value) : laidMetH Tryz.prog laidL ((laidW os).forCall (fun _ _ => 0) ⟨#[], args, []⟩).memory :=
 laidMetH_of_parts (laidMet_layVars (w0 := World.holding Tryz.prog os ⟨#[], #[], []⟩) (laidL.map (·.1)) [] (by kernel_rfl) (by kernel_rfl) (by kernel_rfl) LaidIn.none) (by kernel_rfl)
end VerC
open Go.RowKit
namespace SpanC
open VerM SpanM StrC TextR VerC
variable {K : Prop}
end SpanC
open Go.RowKit
namespace SpanC
open VerM SpanM StrC TextR VerC
variable {K : Prop}
end SpanC
end
section
open Go.RowKit
namespace EvN
open StrC
open VerC (Vw)
theorem zmc {H : Type} {enc : TypeId × Value → H} {P : Program} {w : World} {base : Nat} {sp : Nat → Bool} {held : Bool} {fuel : Nat} {t e : TypeId} {n : Nat} {cs : List Value} {zs : List (List UInt8)} {p : List MemPlace}
 (ht : P.underlying t = some (.array n e)) (he : P.underlying e = some .string) (hce : P.cellsOf e = 1) (hct : P.cellsOf t = n)
 (h : DataW.trod enc P w base sp held fuel t cs = some (.agg (zs.map fun z => .lit (.string z)), p)) : cs = zs.map fun z => Value.string (str z) := by
 cases fuel with
 | zero => simp [DataW.trod] at h
 | succ fuel =>
   simp only [DataW.trod, ht, hce, hct, Nat.mul_one] at h
   split at h
   · rename_i hl
     obtain ⟨xs, hm, hx⟩ := Option.map_eq_some_iff.1 h
     have hxs : xs.map (·.1) = zs.map fun z => (DataW.lit (.string z) : DataW H) := by
      have := congrArg Prod.fst hx
      simpa using this
     have hxl : xs.length = n := by simpa using Lib.mapM_length hm
     have hzl : zs.length = n := by
      have := congrArg List.length hxs
      simp at this
      omega
     apply List.ext_getElem?
     intro i
     by_cases hi : i < n
     · obtain ⟨b, hb, hf⟩ := Lib.mapM_at hm i i (by simp [hi])
       obtain ⟨z, hc, rfl, _⟩ := DataW.trod_string he hf
       have h1 : cs[i]? = some (.string z) := by
        have := congrArg (·[0]?) hc
        simpa [List.getElem?_take, List.getElem?_drop] using this
       have h2 : (xs.map (·.1))[i]? = some (DataW.lit (.string z.data.toList) : DataW H) := by simp [hb]
       rw [hxs] at h2
       simp only [List.getElem?_map, Option.map_eq_some_iff, DataW.lit.injEq, Lit.string.injEq] at h2
       obtain ⟨z', hz', rfl⟩ := h2
       simp [h1, hz', str]
     · rw [List.getElem?_eq_none (by omega), List.getElem?_eq_none (by simp; omega)]
   · cases h
theorem zmd : Tryz.prog.globalNamed "yankline/event.words" = some 0 := by kernel_rfl
def wordsL : List (List UInt8) := [[], [97, 99, 99, 111, 117, 110, 116], [112, 117, 98, 108, 105, 115, 104], [121, 97, 110, 107], [117, 110, 121, 97, 110, 107], [100, 101, 112, 114, 101, 99, 97, 116, 101], [111, 119, 110], [100, 105, 115, 111, 119, 110], [116, 101, 97, 109], [106, 111, 105, 110], [108, 101, 97, 118, 101]]
theorem zme {W : World} {rest : List (String × DataW Unit)} (h : laidMet Tryz.prog (("yankline/event.words", Rows.laid_yankline_event_words) :: rest) W) (i : Nat) (hi : i < 11) : W.cell? ⟨0, i, none⟩ = some (.string (str (wordsL.getD i []))) := by
 obtain ⟨ps, ⟨g', t', cs, fuel, p, q, hg', ht', hvar, hd, _, _⟩, _⟩ := h
 obtain rfl := Option.some.inj (zmd.symm.trans hg')
 obtain rfl := Option.some.inj ((show (Tryz.prog.globals[0]?).map (·.type) = some 133 by kernel_rfl).symm.trans ht')
 have hcs := zmc (zs := wordsL) Tryz.underlying133 Tryz.underlying9 (by kernel_rfl) (by kernel_rfl) hd
 have := World.var?_cell zmd hvar i
 rw [this]
 have hi' : i < wordsL.length := hi
 have h2 : cs[i]? = cs.toList[i]? := by simp
 rw [h2, hcs]
 simp [hi']
structure VarsE (w : World) : Prop where
 vw : Vw w
 yank : w.cell? ⟨0, 3, none⟩ = some (.string (str [121, 97, 110, 107]))
 words : ∀ k, k < 11 → w.cell? ⟨0, k, none⟩ = some (.string (str (wordsL.getD k [])))
def laidL : List (String × DataW Unit) := [("math/bits.deBruijn32tab", Rows.laid_math_bits_deBruijn32tab), ("math/bits.deBruijn64tab", Rows.laid_math_bits_deBruijn64tab), ("internal/strconv.uint64pow10", Rows.laid_internal_strconv_uint64pow10), ("unicode/utf8.acceptRanges", Rows.laid_unicode_utf8_acceptRanges), ("strconv.ErrRange", Rows.laid_strconv_ErrRange), ("strconv.ErrSyntax", Rows.laid_strconv_ErrSyntax), ("yankline/event.words", Rows.laid_yankline_event_words), ("unicode/utf8.first", Rows.laid_unicode_utf8_first)]
theorem varsE_of {W : World} (h : laidMetH Tryz.prog laidL W) (hs : W.ShapedOpen Tryz.prog) : VarsE W := by
 suffices hq : ∀ k, k < 11 → W.cell? ⟨0, k, none⟩ = some (.string (str (wordsL.getD k []))) from ⟨VerC.vw_of (h.filter (fun x => x.1 != "yankline/event.words")) hs, hq 3 (by decide), hq⟩
 intro k hk
 have h1 := h.filter (fun x => x.1 == "yankline/event.words")
 have h2 : laidMet Tryz.prog [("yankline/event.words", Rows.laid_yankline_event_words)] W := by
  rw [← MakeChecks.laidMetH_plain _ _ _ (by kernel_rfl)]
  exact h1
 exact zme h2 k hk
def laidD : List (String × DataW Unit) := laidL.filter fun x => x.2.handleName?.isNone
noncomputable def laidW (os : Os) : World := (World.holding Tryz.prog os ⟨#[], #[], []⟩).layVars Tryz.prog laidD
theorem laidW_os (os : Os) : (laidW os).os = os := World.layVars_os _ _ _
set_option maxRecDepth 100000 in
theorem laidW_met (os : Os) (args : Array Value) : laidMetH Tryz.prog laidL ((laidW os).forCall (fun _ _ => 0) ⟨#[], args, []⟩).memory :=
 laidMetH_of_parts (laidMet_layVars (w0 := World.holding Tryz.prog os ⟨#[], #[], []⟩) (laidL.map (·.1)) [] (by kernel_rfl) (by kernel_rfl) (by kernel_rfl) LaidIn.none) (by kernel_rfl)
end EvN
end
section
namespace SumM
def hexs : List UInt8 := [48, 49, 50, 51, 52, 53, 54, 55, 56, 57, 97, 98, 99, 100, 101, 102]
def hd (d : Nat) : UInt8 := hexs.getD d 0
def digits (n : Nat) : Nat → List UInt8
 | 0 => []
 | k + 1 => hd (n / 16 ^ k % 16) :: digits n k
theorem zmf (n k : Nat) : (digits n k).length = k := by
 induction k with
 | zero => rfl
 | succ k ih => simp [digits, ih]
def byteV (c : UInt8) : Value := .int .u8 (c.toNat : Int)
theorem and15 (x : Nat) (h : x ≤ 18446744073709551615) : bits .and .u64 (x : Int) 15 = (x : Int) % 16 :=
 bits_mask .u64 64 (by decide) (fun n h0 h1 => by rw [IntKind.wrap_u64]; omega) 4 (by decide) x (by omega) (by omega)
def dval (c : Int) : Int := if 48 ≤ c ∧ c ≤ 57 then c - 48 else if 97 ≤ c ∧ c ≤ 102 then c - 97 + 10 else -1
def rst (x d : Int) : Int := bits .or .u64 (IntKind.u64.wrap (x * 16)) d
def rd : Int → List UInt8 → Option Int
 | x, [] => some x
 | x, c :: r => if dval c.toNat < 0 then none else rd (rst x (dval c.toNat)) r
def read (l : List UInt8) : Option Int := if l.length = 16 then rd 0 l else none
end SumM
end
section
namespace CodeM
def uintB (x : Nat) : List UInt8 := if h : 127 < x then UInt8.ofNat (x % 128 + 128) :: uintB (x / 128) else [UInt8.ofNat x]
termination_by x
decreasing_by omega
def byteV (c : UInt8) : Value := .int .u8 (c.toNat : Int)
theorem zmg (x : Nat) (h : 127 < x) : uintB x = UInt8.ofNat (x % 128 + 128) :: uintB (x / 128) := by rw [uintB, dif_pos h]
theorem zmh (x : Nat) (h : ¬ 127 < x) : uintB x = [UInt8.ofNat x] := by rw [uintB, dif_neg h]
theorem zmi (n : Nat) (h : n < 256) : byteV (UInt8.ofNat n) = .int .u8 (n : Int) := by
 unfold byteV; rw [UInt8.toNat_ofNat_of_lt' h]
theorem zmj (n x x0 : Nat) (h : x * 128 ^ n ≤ x0) (hx : 1 ≤ x) (h0 : x0 < 18446744073709551616) : n ≤ 9 := by
 apply Classical.byContradiction
 intro hn
 have h1 : 128 ^ 10 ≤ 128 ^ n := Nat.pow_le_pow_right (by decide) (by omega)
 have h2 : 128 ^ n ≤ x * 128 ^ n := Nat.le_mul_of_pos_left _ hx
 have h3 : (128 : Nat) ^ 10 = 1180591620717411303424 := by decide
 omega
theorem zmk (n x x0 : Nat) (h : x * 128 ^ n ≤ x0) : x / 128 * 128 ^ (n + 1) ≤ x0 := by
 have h1 : x / 128 * 128 ^ (n + 1) = x / 128 * 128 * 128 ^ n := by rw [Nat.pow_succ, Nat.mul_assoc, Nat.mul_comm 128]
 have h2 : x / 128 * 128 * 128 ^ n ≤ x * 128 ^ n := Nat.mul_le_mul_right _ (Nat.div_mul_le_self x 128)
 omega
def wordB (x : Nat) : Nat → List UInt8
 | 0 => []
 | k + 1 => UInt8.ofNat (x / 256 ^ k % 256) :: wordB x k
theorem zml (x k : Nat) : (wordB x k).length = k := by
 induction k with
 | zero => rfl
 | succ k ih => simp [wordB, ih]
def textB (s : List UInt8) : List UInt8 := uintB s.length ++ s
def ur : Nat → Nat → List UInt8 → Nat ⊕ (Nat × Nat)
 | n, _, [] => if n = 10 then .inl 21 else .inl 20
 | n, x, c :: r =>
   if n = 10 then .inl 21
   else if n = 9 ∧ 1 < c.toNat then .inl 21
   else if c.toNat < 128 then (if c.toNat = 0 ∧ 0 < n then .inl 21 else .inr (x + c.toNat % 128 * 128 ^ n, n + 1))
   else ur (n + 1) (x + c.toNat % 128 * 128 ^ n) r
theorem zmm (s : ByteArray) (k : Nat) (h : k < s.size) : s.data.toList.drop k = s[k] :: s.data.toList.drop (k + 1) := by
 rw [List.drop_eq_getElem_cons (by simpa using h)]; rfl
theorem zmn (s : ByteArray) (k : Nat) (h : s.size ≤ k) : s.data.toList.drop k = [] := List.drop_of_length_le (by simpa using h)
theorem pow7 (n : Nat) : 2 ^ (7 * n) = 128 ^ n := by rw [Nat.pow_mul]
theorem zmo (n d : Nat) (hn : n ≤ 9) (hd : d < 128) (h9 : n = 9 → d ≤ 1) : (d + 1) * 128 ^ n ≤ 18446744073709551616 := by
 rcases (by omega : n = 0 ∨ n = 1 ∨ n = 2 ∨ n = 3 ∨ n = 4 ∨ n = 5 ∨ n = 6 ∨ n = 7 ∨ n = 8 ∨ n = 9) with rfl | rfl | rfl | rfl | rfl | rfl | rfl | rfl | rfl | rfl <;> simp only [Nat.reducePow] <;> omega
theorem zmp (x n c : Nat) (hx : x < 128 ^ n) (hn : n ≤ 9) (h9 : n = 9 → c % 128 ≤ 1) :
 bits .or .u64 (x : Int) (IntKind.u64.wrap ((c : Int) % 128 * 2 ^ (7 * n))) = ((x + c % 128 * 128 ^ n : Nat) : Int) := by
 have hd : c % 128 < 128 := Nat.mod_lt _ (by decide)
 have hb := zmo n (c % 128) hn hd h9
 rw [Nat.add_mul, Nat.one_mul] at hb
 have e1 : (c : Int) % 128 * 2 ^ (7 * n) = ((c % 128 * 128 ^ n : Nat) : Int) := by rw [← pow7]; simp
 have e2 : IntKind.u64.wrap ((c % 128 * 128 ^ n : Nat) : Int) = ((c % 128 * 128 ^ n : Nat) : Int) := by rw [IntKind.wrap_u64]; omega
 rw [e1, e2, bits_or_u64_nat _ _ (by omega) (by omega)]
 congr 1
 have e3 : c % 128 * 128 ^ n = (c % 128) <<< (7 * n) := by rw [Nat.shiftLeft_eq, pow7]
 rw [e3, Nat.or_comm, ← Nat.shiftLeft_add_eq_or_of_lt (by rw [pow7]; exact hx), Nat.add_comm]
theorem zmq (x n d : Nat) (hx : x < 128 ^ n) (hd : d < 128) : x + d * 128 ^ n < 128 ^ (n + 1) := by
 have : d * 128 ^ n ≤ 127 * 128 ^ n := Nat.mul_le_mul_right _ (by omega)
 rw [Nat.pow_succ]
 omega
def uRes (most k : Nat) (l : List UInt8) : Nat × Nat × Nat × Nat :=
 match ur 0 0 l with
 | .inl e => (0, e, k, k)
 | .inr (x, n) => if most < x then (0, 22, k, k) else (x, 0, 0, k + n)
theorem zmr {most k e : Nat} {l : List UInt8} (h : ur 0 0 l = .inl e) : uRes most k l = (0, e, k, k) := by simp [uRes, h]
theorem zms {most k x n : Nat} {l : List UInt8} (h : ur 0 0 l = .inr (x, n)) (hm : most < x) : uRes most k l = (0, 22, k, k) := by simp [uRes, h, hm]
theorem zmt {most k x n : Nat} {l : List UInt8} (h : ur 0 0 l = .inr (x, n)) (hm : ¬ most < x) : uRes most k l = (x, 0, 0, k + n) := by simp [uRes, h, hm]
theorem zmu : ∀ (l : List UInt8) (n x v m : Nat), ur n x l = .inr (v, m) → m ≤ n + l.length
 | [], n, x, v, m, h => by rw [ur] at h; split at h <;> cases h
 | c :: r, n, x, v, m, h => by
   rw [ur] at h
   split at h
   · cases h
   · split at h
     · cases h
     · split at h
       · split at h
         · cases h
         · cases h; simp
       · have := zmu r _ _ _ _ h
         simp; omega
theorem zmv (most k : Nat) (s : ByteArray) (hk : k ≤ s.size) :
 (∃ e, e ≠ 0 ∧ e ≤ 22 ∧ uRes most k (s.data.toList.drop k) = (0, e, k, k)) ∨
 (∃ v n, v ≤ most ∧ k + n ≤ s.size ∧ uRes most k (s.data.toList.drop k) = (v, 0, 0, k + n)) := by
 have hl : ∀ (l : List UInt8) (n x e : Nat), ur n x l = .inl e → e ≠ 0 ∧ e ≤ 22 := by
  intro l
  induction l with
  | nil => intro n x e h; rw [ur] at h; split at h <;> (cases h; decide)
  | cons c r ih =>
    intro n x e h
    rw [ur] at h
    split at h
    · cases h; decide
    · split at h
      · cases h; decide
      · split at h
        · split at h
          · cases h; decide
          · cases h
        · exact ih _ _ _ h
 cases hu : ur 0 0 (s.data.toList.drop k) with
 | inl e => exact Or.inl ⟨e, (hl _ _ _ _ hu).1, (hl _ _ _ _ hu).2, zmr hu⟩
 | inr p =>
   obtain ⟨v, n⟩ := p
   by_cases hm : most < v
   · exact Or.inl ⟨22, by decide, by decide, zms hu hm⟩
   · have := zmu _ _ _ _ _ hu
     rw [List.length_drop, Array.length_toList] at this
     have e : s.data.size = s.size := rfl
     exact Or.inr ⟨v, n, by omega, by omega, zmt hu hm⟩
def tRes (most k : Nat) (s : ByteArray) : Nat × Nat × Nat × Nat × Nat :=
 let u := uRes most k (s.data.toList.drop k)
 if u.2.1 = 0 then (if s.size - u.2.2.2 < u.1 then (0, 0, 20, k, k) else (u.2.2.2, u.2.2.2 + u.1, 0, 0, u.2.2.2 + u.1)) else (0, 0, u.2.1, k, k)
theorem zmw {most k e : Nat} {s : ByteArray} (h : uRes most k (s.data.toList.drop k) = (0, e, k, k)) (he : e ≠ 0) : tRes most k s = (0, 0, e, k, k) := by simp [tRes, h, he]
theorem zmx {most k v q : Nat} {s : ByteArray} (h : uRes most k (s.data.toList.drop k) = (v, 0, 0, q)) (hq : s.size - q < v) : tRes most k s = (0, 0, 20, k, k) := by simp [tRes, h, hq]
theorem zmy {most k v q : Nat} {s : ByteArray} (h : uRes most k (s.data.toList.drop k) = (v, 0, 0, q)) (hq : ¬ s.size - q < v) : tRes most k s = (q, q + v, 0, 0, q + v) := by simp [tRes, h, hq]
end CodeM
end
section
namespace NameM
def letter (c : UInt8) : Bool := (decide (97 ≤ c.toNat) && decide (c.toNat ≤ 122)) || (decide (65 ≤ c.toNat) && decide (c.toNat ≤ 90)) || (decide (48 ≤ c.toNat) && decide (c.toNat ≤ 57))
def sign (c : UInt8) : Bool := decide (c.toNat = 45) || decide (c.toNat = 95) || decide (c.toNat = 46)
def okB (c : UInt8) : Bool := letter c || sign c
def low (c : UInt8) : UInt8 := if 65 ≤ c.toNat ∧ c.toNat ≤ 90 then c + 32 else c
def step (s : List UInt8) (a : List UInt8 × Bool) (c : UInt8) : List UInt8 × Bool :=
 if letter c then (a.1 ++ (if a.2 then s else []) ++ [low c], false) else (a.1, true)
def st (s l : List UInt8) : List UInt8 × Bool := l.foldl (step s) ([], false)
def formD (s l : List UInt8) : List UInt8 := (st s l).1
def may (l : List UInt8) : Bool := decide (1 ≤ l.length) && decide (l.length ≤ 64) && letter (l.getD 0 0) && letter (l.getD (l.length - 1) 0) && l.all okB
def norm (l : List UInt8) : List UInt8 := if may l then formD [45] l else []
def code (l : List UInt8) : Int := if may l then 0 else 60
def isN (l : List UInt8) : Bool := may l && decide (formD [45] l = l)
def words : List (List UInt8) := [[121, 97, 110, 107, 108, 105, 110, 101], [114, 101, 103, 105, 115, 116, 114, 121], [105, 110, 100, 101, 120], [108, 111, 103], [112, 97, 103, 101], [98, 108, 111, 98]]
def holdB (c : UInt8) : Bool := (decide (97 ≤ c.toNat) && decide (c.toNat ≤ 122)) || (decide (48 ≤ c.toNat) && decide (c.toNat ≤ 57))
def holder (l : List UInt8) : Bool := decide (1 ≤ l.length) && decide (l.length ≤ 64) && (decide (97 ≤ (l.getD 0 0).toNat) && decide ((l.getD 0 0).toNat ≤ 122)) && l.all holdB
theorem zmz {motive : List UInt8 → Prop} (nil : motive []) (snoc : ∀ a c, motive a → motive (a ++ [c])) (l : List UInt8) : motive l := by
 have h : ∀ n (l : List UInt8), l.length = n → motive l := by
  intro n
  induction n with
  | zero => intro l hl; rw [List.eq_nil_of_length_eq_zero hl]; exact nil
  | succ n ih =>
    intro l hl
    have hne : l ≠ [] := by intro e; subst e; simp at hl
    have e := List.dropLast_concat_getLast hne
    rw [← e]
    exact snoc _ _ (ih _ (by simp [hl]))
 exact h _ l rfl
theorem zna (s a : List UInt8) (c : UInt8) : st s (a ++ [c]) = step s (st s a) c := by unfold st; rw [List.foldl_append]; rfl
theorem znb (c : UInt8) : (low c).toNat = if 65 ≤ c.toNat ∧ c.toNat ≤ 90 then c.toNat + 32 else c.toNat := by
 unfold low
 split
 · rename_i h
   rw [UInt8.toNat_add]
   show (c.toNat + 32) % 256 = _
   omega
 · rfl
theorem znc {c : UInt8} (h : letter c = true) : letter (low c) = true ∧ low (low c) = low c ∧ low c ≠ 45 := by
 have hn := znb c
 have hl : letter c = true := h
 simp only [letter, Bool.or_eq_true, Bool.and_eq_true, decide_eq_true_eq] at h
 have h2 : 97 ≤ (low c).toNat ∧ (low c).toNat ≤ 122 ∨ 48 ≤ (low c).toNat ∧ (low c).toNat ≤ 57 := by
  rw [hn]; split <;> omega
 refine ⟨?_, ?_, ?_⟩
 · simp only [letter, Bool.or_eq_true, Bool.and_eq_true, decide_eq_true_eq]; omega
 · apply UInt8.toNat_inj.1
   rw [znb (low c), if_neg (by omega)]
 · intro e; rw [e] at h2; revert h2; decide
theorem znd (s l : List UInt8) (hs : s.length ≤ 1) : (st s l).1.length + (if (st s l).2 then 1 else 0) ≤ l.length := by
 induction l using zmz with
 | nil => simp [st]
 | snoc a c ih =>
   rw [zna]
   unfold step
   split
   · simp only [List.length_append, List.length_cons, List.length_nil]
     by_cases h : (st s a).2 = true
     · simp only [h, if_true] at ih ⊢; simp; omega
     · simp only [h] at ih ⊢; simp at ih ⊢; omega
   · simp only [List.length_append, List.length_cons, List.length_nil, if_true]
     have : (st s a).1.length ≤ a.length := by omega
     omega
theorem zne {b c : UInt8} (l : List UInt8) (h : b ≠ c) : Lib.index (b :: l) [c] = if Lib.index l [c] = -1 then -1 else Lib.index l [c] + 1 := by
 rw [Lib.index, if_neg (by simp [List.isPrefixOf, Ne.symm h])]
 by_cases e : Lib.index l [c] = -1
 · rw [if_pos (by rw [e]; rfl), if_pos e]
 · rw [if_neg (by simpa using e), if_neg e]
def prog (l : List UInt8) : List UInt8 := (st [45] l).1 ++ (if (st [45] l).2 then [45] else [])
theorem znf {l : List UInt8} {c : UInt8} (h : letter c = true) : prog (l ++ [c]) = prog l ++ [low c] := by
 unfold prog; rw [zna]; unfold step; rw [if_pos h]; simp
theorem zng {l : List UInt8} {c : UInt8} (h : letter c = false) : prog (l ++ [c]) = if (st [45] l).2 then prog l else prog l ++ [45] := by
 unfold prog; rw [zna]; unfold step; rw [if_neg (by rw [h]; decide)]
 by_cases e : (st [45] l).2 = true
 · simp [e]
 · simp [e]
theorem znh {l : List UInt8} (h : l ≠ []) : ∃ r c, prog l = r ++ [c] ∧ (c = 45 ↔ (st [45] l).2 = true) := by
 induction l using zmz with
 | nil => exact absurd rfl h
 | snoc a c _ =>
   by_cases hc : letter c = true
   · refine ⟨prog a, low c, znf hc, ?_⟩
     rw [zna]; unfold step; rw [if_pos hc]
     simp [(znc hc).2.2]
   · refine ⟨(st [45] a).1, 45, ?_, ?_⟩
     · unfold prog; rw [zna]; unfold step; rw [if_neg hc]; simp
     · rw [zna]; unfold step; rw [if_neg hc]; simp
theorem zni {l : List UInt8} (h1 : l ≠ []) (h2 : letter (l.getD (l.length - 1) 0) = true) : prog l = formD [45] l := by
 induction l using zmz with
 | nil => exact absurd rfl h1
 | snoc a c _ =>
   have hc : letter c = true := by simpa using h2
   unfold prog formD; rw [zna]; unfold step; rw [if_pos hc]; simp
theorem znj (l : List UInt8) : (prog l).length ≤ l.length := by
 have := znd [45] l (by decide)
 unfold prog
 by_cases e : (st [45] l).2 = true
 · simp only [e, if_true] at this ⊢; simp; omega
 · simp only [e] at this ⊢; simp at this ⊢; omega
theorem znk (l : List UInt8) (k : Nat) (h : k < l.length) : l.take (k + 1) = l.take k ++ [l.getD k 0] := by
 rw [List.take_add_one]; simp [h]
theorem znl {c : UInt8} (h : sign c = true) : letter c = false := by
 simp only [sign, Bool.or_eq_true, decide_eq_true_eq] at h
 simp only [letter, Bool.or_eq_false_iff, Bool.and_eq_false_iff, decide_eq_false_iff_not]
 omega
theorem znm (s l : List UInt8) (h1 : l ≠ []) (h : letter (l.getD 0 0) = true) : (st s l).1 ≠ [] ∧ (st s l).1.getD 0 0 = low (l.getD 0 0) := by
 induction l using zmz with
 | nil => exact absurd rfl h1
 | snoc a c ih =>
   rw [zna]; unfold step
   by_cases ha : a = []
   · subst ha
     have hc : letter c = true := by simpa using h
     rw [if_pos hc]
     simp [st]
   · have hl : 0 < a.length := List.length_pos_iff.2 ha
     have h0 : (a ++ [c]).getD 0 0 = a.getD 0 0 := by simp [List.getD, hl]
     rw [h0] at h ⊢
     obtain ⟨i1, i2⟩ := ih ha h
     have hp : 0 < (st s a).1.length := List.length_pos_iff.2 i1
     split
     · refine ⟨by simp, ?_⟩
       rw [← i2, List.append_assoc]
       simp [List.getD, List.getElem?_append_left hp, hp]
     · exact ⟨i1, i2⟩
theorem znn {l : List UInt8} : may l = true ↔ (1 ≤ l.length ∧ l.length ≤ 64 ∧ letter (l.getD 0 0) = true ∧ letter (l.getD (l.length - 1) 0) = true ∧ l.all okB = true) := by
 unfold may; simp only [Bool.and_eq_true, decide_eq_true_eq]
 constructor
 · rintro ⟨⟨⟨⟨a, b⟩, c⟩, d⟩, e⟩; exact ⟨a, b, c, d, e⟩
 · rintro ⟨a, b, c, d, e⟩; exact ⟨⟨⟨⟨a, b⟩, c⟩, d⟩, e⟩
end NameM
end
section
namespace EvA
open Go.ChangeShapes Go.WideShapes Go.Deep Go.RowKit
open StrC
abbrev B := List UInt8
theorem chW {a b c : World} (h : Below a.heap.size a b) (k : Below b.heap.size b c) : Below a.heap.size a c := h.trans (k.mono h.size)
theorem alW (w : World) (o : Obj) : Below w.heap.size w (w.alloc o) := (Below.refl _ _).alloc (Nat.le_refl _) o
structure EvG where
 k : Nat
 who : B
 name : B
 ver : B
 na : Option Addr
 nc : Nat
 needs : List (B × B)
 sum : Nat
 n : Nat
 size : Nat
 holder : B
 note : B
abbrev evL (e : EvG) : List Value := [.int .u8 e.k, .string (str e.who), .string (str e.name), .string (str e.ver), .slice e.na e.needs.length e.nc, .int .u64 e.sum, .int .u32 e.n, .int .u32 e.size, .string (str e.holder), .string (str e.note)]
abbrev evO (e : EvG) : Obj := .cells (evL e).toArray 27
abbrev evV (e : EvG) : Value := .agg (evL e).toArray
abbrev needL (x : B × B) : List Value := [.string (str x.1), .string (str x.2)]
structure NeIn (w : World) (a : Option Addr) (c : Nat) (L : List (B × B)) : Prop where
 le : L.length ≤ c
 few : L.length * 32 ≤ 140737488351232
 short : ∀ x ∈ L, x.1.length ≤ 140737488351232 ∧ x.2.length ≤ 140737488351232
 cells : 0 < L.length → ∃ g o, a = some ⟨g, o, none⟩ ∧ ∀ i, i < L.length → ∀ j, j < 2 → w.cell? ⟨g, o + i * 2 + j, none⟩ = some ((needL L[i]!)[j]!)
theorem NeIn.no (w : World) : NeIn w none 0 [] := ⟨Nat.le_refl _, by simp, fun x h => (by cases h), fun h => absurd h (by simp)⟩
theorem NeIn.gr {w w' : World} {a : Option Addr} {c : Nat} {L : List (B × B)} (h : NeIn w a c L) (g : Below w.heap.size w w') : NeIn w' a c L :=
 ⟨h.le, h.few, h.short, fun h0 => by
  obtain ⟨b, o, e, hc⟩ := h.cells h0
  exact ⟨b, o, e, fun i hi j hj => by rw [g.cell (World.block_lt_of_cell? _ _ (hc i hi j hj))]; exact hc i hi j hj⟩⟩
theorem NeIn.at {w : World} {a : Option Addr} {c : Nat} {L : List (B × B)} (h : NeIn w a c L) (i : Nat) (hi : i < L.length) : ∃ (g o : Nat) (x : B × B), x ∈ L ∧ L[i]? = some x ∧ a = some ⟨g, o, none⟩ ∧
 w.cell? ⟨g, o + i * 2, none⟩ = some (.string (str x.1)) ∧ w.cell? ⟨g, o + i * 2 + 1, none⟩ = some (.string (str x.2)) := by
 obtain ⟨g, o, rfl, key⟩ := h.cells (by omega)
 have hx : L[i]? = some L[i]! := by rw [List.getElem?_eq_getElem hi, getElem!_pos L i hi]
 have k := key i hi
 exact ⟨g, o, L[i]!, List.mem_of_getElem? hx, hx, rfl, k 0 (by omega), k 1 (by omega)⟩
structure EvIn (w : World) (e : EvG) : Prop where
 k : e.k ≤ 255
 sum : e.sum ≤ 18446744073709551615
 n : e.n ≤ 4294967295
 size : e.size ≤ 4294967295
 who : e.who.length ≤ 140737488351232
 name : e.name.length ≤ 140737488351232
 ver : e.ver.length ≤ 140737488351232
 holder : e.holder.length ≤ 140737488351232
 note : e.note.length ≤ 140737488351232
 needs : NeIn w e.na e.nc e.needs
theorem EvIn.gr {w w' : World} {e : EvG} (h : EvIn w e) (g : Below w.heap.size w w') : EvIn w' e := ⟨h.k, h.sum, h.n, h.size, h.who, h.name, h.ver, h.holder, h.note, h.needs.gr g⟩
def OkW {H : Type} (P : Program) (t : TypeId) (d : DataW H) : Prop := ∀ n ∈ d.weights P t, n ≤ reachBytes
theorem zno {H : Type} {P : Program} {e : TypeId} {d : DataW H} {n : Nat} : ∀ {ds : List (DataW H)}, d ∈ ds → n ∈ d.weights P e → n ∈ DataW.weightsAll P e ds
 | x :: r, hd, hn => by
   rw [DataW.weightsAll]
   rcases List.mem_cons.1 hd with rfl | h
   · exact List.mem_append_left _ hn
   · exact List.mem_append_right _ (zno h hn)
theorem OkW.top {H : Type} {P : Program} {ts : List TypeId} {ds : List (DataW H)} (h : (DataW.weightsEach P ts ds).all (· ≤ reachBytes) = true) {j : Nat} {t : TypeId} {d : DataW H} (ht : ts[j]? = some t) (hd : ds[j]? = some d) : OkW P t d := fun n hn => by
 have := List.all_eq_true.1 h _ (DataW.weights_mem_each ht hd n hn)
 simpa using this
theorem OkW.elem {H : Type} {P : Program} {t e : TypeId} {ds sp : List (DataW H)} (h : OkW P t (.slice ds sp)) (hu : P.underlying t = some (.slice e)) {d : DataW H} (hd : d ∈ ds ∨ d ∈ sp) : OkW P e d := fun n hn => by
 refine h n ?_
 simp only [DataW.weights, hu]
 refine List.mem_cons_of_mem _ (List.mem_append.2 ?_)
 rcases hd with hd | hd
 · exact Or.inl (zno hd hn)
 · exact Or.inr (zno hd hn)
theorem OkW.room {H : Type} {P : Program} {t e : TypeId} {ds sp : List (DataW H)} (h : OkW P t (.slice ds sp)) (hu : P.underlying t = some (.slice e)) : (ds.length + sp.length) * P.bytesOf e ≤ reachBytes :=
 h _ (by simp [DataW.weights, hu])
theorem OkW.field {H : Type} {P : Program} {t : TypeId} {fs : Array Field} {zs : List (DataW H)} (h : OkW P t (.agg zs)) (hu : P.underlying t = some (.struct fs)) {j : Nat} {f : Field} {d : DataW H} (hj : fs[j]? = some f) (hd : zs[j]? = some d) : OkW P f.type d := fun n hn => by
 refine h n ?_
 simp only [DataW.weights, hu]
 exact DataW.weights_mem_each (j := j) (by simp; exact ⟨f, hj, rfl⟩) hd n hn
section
variable {H : Type} {enc : TypeId × Value → H} {w : World} {base : Nat} {held : Bool}
theorem znp {k : IntKind} {m : Int} {b : Int} (h : (Lit.int k m).wf = true) (h0 : k.min = 0) (hb : k.max = b) : ∃ n : Nat, m = (n : Int) ∧ (n : Int) ≤ b := by
 simp only [Lit.wf, Bool.and_eq_true, decide_eq_true_eq, h0, hb] at h
 exact ⟨m.toNat, by omega, by omega⟩
theorem znq {t : TypeId} {n : Nat} {v : Value} {y : DataW H × List MemPlace} (ht : Tryz.prog.underlying t = some .string) (h : DataW.trod enc Tryz.prog w base (fun _ => true) held n t [v] = some y) (hw : OkW Tryz.prog t y.1) :
 ∃ s : B, v = .string (str s) ∧ s.length ≤ 140737488351232 := by
 obtain ⟨s, hv, rfl, hs⟩ := DataW.trod_string ht h
 simp only [List.cons.injEq, and_true] at hv
 refine ⟨s.data.toList, by rw [hv, ← zbo], ?_⟩
 have := hw s.data.toList.length (by simp [DataW.weights])
 unfold reachBytes at this
 omega
set_option maxRecDepth 100000 in
theorem need_in {n : Nat} {cs : List Value} {y : DataW H × List MemPlace} (h : DataW.trod enc Tryz.prog w base (fun _ => true) held n 63 cs = some y) (hw : OkW Tryz.prog 63 y.1) :
 ∃ x : B × B, cs = needL x ∧ x.1.length ≤ 140737488351232 ∧ x.2.length ≤ 140737488351232 := by
 obtain ⟨ys, n', -, hy, hl, hyl, hf⟩ := DataW.trod_struct Tryz.underlying63 h
 have hl2 : cs.length = 2 := hl.trans (by kernel_rfl)
 have k1 : Tryz.prog.cellsOf 9 = 1 := by kernel_rfl
 match cs, hl2 with
 | [c0, c1], _ =>
   match ys, hyl with
   | [y0, y1], _ =>
     have h0 := hf 0 _ rfl
     have h1 := hf 1 _ rfl
     simp [k1] at h0 h1
     rw [hy] at hw
     obtain ⟨s, rfl, hs⟩ := znq Tryz.underlying9 h0 (hw.field Tryz.underlying63 (j := 0) rfl (by simp))
     obtain ⟨t, rfl, ht⟩ := znq Tryz.underlying9 h1 (hw.field Tryz.underlying63 (j := 1) rfl (by simp))
     exact ⟨(s, t), rfl, hs, ht⟩
theorem znr {fuel : Nat} {v : Value} {x : DataW H × List MemPlace} (h : DataW.trod enc Tryz.prog w base (fun _ => true) held fuel 23 [v] = some x) (hw : OkW Tryz.prog 23 x.1) :
 ∃ (a : Option Addr) (cap : Nat) (L : List (B × B)), v = .slice a L.length cap ∧ NeIn w a cap L := by
 rcases open_slice Tryz.underlying23 h with ⟨hc, hx⟩ | ⟨a, len, cap, m, n, D, Pl, hcs, hb, hl, hm, hmm, hx, hi⟩
 · simp only [List.cons.injEq, and_true] at hc
   exact ⟨none, 0, [], hc, NeIn.no w⟩
 · simp only [if_true] at hmm
   subst hmm
   simp only [List.cons.injEq, and_true] at hcs
   have hC : Tryz.prog.cellsOf 63 = 2 := by kernel_rfl
   rw [hx] at hw
   have hs := hw.room Tryz.underlying23
   rw [show Tryz.prog.bytesOf 63 = 32 from by kernel_rfl] at hs
   have each : ∀ i, i < len → ∃ x : B × B, (x.1.length ≤ 140737488351232 ∧ x.2.length ≤ 140737488351232) ∧ ∀ c, c < 2 → w.cell? (a.add (i * 2 + c)) = some ((needL x)[c]!) := by
    intro i hil
    obtain ⟨cs', hc, ht'⟩ := hi i (by omega)
    rw [hC] at hc
    obtain ⟨x, e, hT⟩ := need_in ht' (hw.elem Tryz.underlying23 (Or.inl (List.mem_map.2 ⟨i, List.mem_range.2 hil, rfl⟩)))
    obtain ⟨-, hcl, hat⟩ := World.cells?_some hc
    refine ⟨x, hT, fun c hc2 => ?_⟩
    have h1 := hat c hc2
    rw [← add_add, h1, e]
    have : c < (needL x).length := hc2
    rw [List.getElem?_eq_getElem this]; exact congrArg some (getElem!_pos (needL x) c this).symm
   have rows : ∃ L : List (B × B), L.length = len ∧ ∀ i, (h : i < L.length) → (L[i].1.length ≤ 140737488351232 ∧ L[i].2.length ≤ 140737488351232) ∧ ∀ c, c < 2 → w.cell? (a.add (i * 2 + c)) = some ((needL L[i])[c]!) := by
    have build : ∀ q, q ≤ len → ∃ L : List (B × B), L.length = q ∧ ∀ i, (h : i < L.length) → (L[i].1.length ≤ 140737488351232 ∧ L[i].2.length ≤ 140737488351232) ∧ ∀ c, c < 2 → w.cell? (a.add (i * 2 + c)) = some ((needL L[i])[c]!) := by
     intro q
     induction q with
     | zero => exact fun _ => ⟨[], rfl, fun i h => by cases h⟩
     | succ q ih =>
       intro hq
       obtain ⟨L, hz, hall⟩ := ih (by omega)
       obtain ⟨x, h1, h2⟩ := each q (by omega)
       refine ⟨L ++ [x], by simp [hz], fun i h => ?_⟩
       by_cases hi2 : i < L.length
       · rw [List.getElem_append_left hi2]; exact hall i hi2
       · have : i = q := by simp [hz] at h; omega
         subst this
         rw [List.getElem_append_right (by omega)]
         simp only [hz, Nat.sub_self, List.getElem_singleton]
         exact ⟨h1, h2⟩
    exact build len (Nat.le_refl _)
   obtain ⟨L, rfl, hall⟩ := rows
   refine ⟨some a, m, L, hcs, hl, ?_, fun x hx => ?_, fun h0 => ?_⟩
   · have : L.length + (m - L.length) = m := by omega
     simp [this, reachBytes] at hs
     omega
   · obtain ⟨i, hi, rfl⟩ := List.getElem_of_mem hx
     exact (hall i hi).1
   · obtain ⟨b, off, spot⟩ := a
     have hspot : spot = none := by simpa [Addr.add] using World.cell?_spot ((hall 0 h0).2 0 (by omega))
     subst hspot
     refine ⟨b, off, rfl, fun i hi c hc => ?_⟩
     have := (hall i hi).2 c hc
     rw [Go.WideShapes.add_plain] at this
     rw [Nat.add_assoc, this, getElem!_pos L i hi]
set_option maxRecDepth 100000 in
theorem zns {n : Nat} {cs : List Value} {y : DataW H × List MemPlace} (h : DataW.trod enc Tryz.prog w base (fun _ => true) held n 27 cs = some y) (hw : OkW Tryz.prog 27 y.1) :
 ∃ e : EvG, cs = evL e ∧ EvIn w e := by
 obtain ⟨ys, n', -, hy, hl, hyl, hf⟩ := DataW.trod_struct Tryz.underlying27 h
 have hl10 : cs.length = 10 := hl.trans (by kernel_rfl)
 have k0 : Tryz.prog.cellsOf 22 = 1 := by kernel_rfl
 have k1 : Tryz.prog.cellsOf 9 = 1 := by kernel_rfl
 have k2 : Tryz.prog.cellsOf 23 = 1 := by kernel_rfl
 have k3 : Tryz.prog.cellsOf 24 = 1 := by kernel_rfl
 have k4 : Tryz.prog.cellsOf 25 = 1 := by kernel_rfl
 match cs, hl10 with
 | [c0, c1, c2, c3, c4, c5, c6, c7, c8, c9], _ =>
   match ys, hyl with
   | [y0, y1, y2, y3, y4, y5, y6, y7, y8, y9], _ =>
     have h0 := hf 0 _ rfl
     have h1 := hf 1 _ rfl
     have h2 := hf 2 _ rfl
     have h3 := hf 3 _ rfl
     have h4 := hf 4 _ rfl
     have h5 := hf 5 _ rfl
     have h6 := hf 6 _ rfl
     have h7 := hf 7 _ rfl
     have h8 := hf 8 _ rfl
     have h9 := hf 9 _ rfl
     simp [k0] at h0
     simp [k1] at h1 h2 h3 h8 h9
     simp [k2] at h4
     simp [k3] at h5
     simp [k4] at h6 h7
     rw [hy] at hw
     obtain ⟨m0, hv0, -, hw0⟩ := DataW.trod_int Tryz.underlying22 h0
     obtain ⟨m5, hv5, -, hw5⟩ := DataW.trod_int Tryz.underlying24 h5
     obtain ⟨m6, hv6, -, hw6⟩ := DataW.trod_int Tryz.underlying25 h6
     obtain ⟨m7, hv7, -, hw7⟩ := DataW.trod_int Tryz.underlying25 h7
     simp only [List.cons.injEq, and_true] at hv0 hv5 hv6 hv7
     obtain ⟨x0, rfl, b0⟩ := znp hw0 rfl (b := 255) rfl
     obtain ⟨x5, rfl, b5⟩ := znp hw5 rfl (b := 18446744073709551615) rfl
     obtain ⟨x6, rfl, b6⟩ := znp hw6 rfl (b := 4294967295) rfl
     obtain ⟨x7, rfl, b7⟩ := znp hw7 rfl (b := 4294967295) rfl
     have wf := fun {j : Nat} {f : Field} {d : DataW H} (hj) (hd) => hw.field Tryz.underlying27 (j := j) (f := f) (d := d) hj hd
     obtain ⟨s1, rfl, g1⟩ := znq Tryz.underlying9 h1 (wf (j := 1) rfl (by simp))
     obtain ⟨s2, rfl, g2⟩ := znq Tryz.underlying9 h2 (wf (j := 2) rfl (by simp))
     obtain ⟨s3, rfl, g3⟩ := znq Tryz.underlying9 h3 (wf (j := 3) rfl (by simp))
     obtain ⟨a, cap, L, rfl, hN⟩ := znr h4 (wf (j := 4) rfl (by simp))
     obtain ⟨s8, rfl, g8⟩ := znq Tryz.underlying9 h8 (wf (j := 8) rfl (by simp))
     obtain ⟨s9, rfl, g9⟩ := znq Tryz.underlying9 h9 (wf (j := 9) rfl (by simp))
     exact ⟨⟨x0, s1, s2, s3, a, cap, L, x5, x6, x7, s8, s9⟩, by rw [hv0, hv5, hv6, hv7], ⟨show x0 ≤ 255 by omega, show x5 ≤ 18446744073709551615 by omega, show x6 ≤ 4294967295 by omega, show x7 ≤ 4294967295 by omega, g1, g2, g3, g8, g9, hN⟩⟩
set_option maxRecDepth 100000 in
/-- the argument, opened -/
theorem open_event {r : Reach} {b0 : Nat} {v : Value} {d : DataW H} {p : List MemPlace} (hv : Value.okWide Tryz.prog w r b0 27 v) (h : DataW.Trod enc Tryz.prog w 0 (fun _ => true) true 27 v d p) (hw : OkW Tryz.prog 27 d) :
 ∃ e : EvG, v = evV e ∧ EvIn w e := by
 obtain ⟨cs, rfl, hsz⟩ := okWide_struct Tryz.underlying27 hv
 obtain ⟨fuel, hf⟩ := h
 obtain ⟨e, he, hE⟩ := zns (by simpa [Value.cells] using hf) hw
 exact ⟨e, by congr 1; exact Array.toList_inj.1 (by simpa using he), hE⟩
end
end EvA
end
end Go.Proofs.YtfbegbmjmhnplaaGreatDoor
