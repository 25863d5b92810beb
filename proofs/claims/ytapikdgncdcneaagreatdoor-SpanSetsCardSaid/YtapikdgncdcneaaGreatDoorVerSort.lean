/-
  Package version's Sort: the comparison that it hands to slices.SortFunc, and the contract of that.
-/
import Derived.Test.YtapikdgncdcneaaGreatDoorVerP3
import Derived.Test.YtapikdgncdcneaaGreatDoorVerRise
import Derived.Test.YtapikdgncdcneaaGreatDoorVerSortLay
namespace Go.Proofs.YtapikdgncdcneaaGreatDoor
open Go.RowKit
namespace VerC
open VerM StrC TextR Go.Sort Go.Shelf
set_option linter.unusedSimpArgs false

/-- a text and what it says, as five cells -/
def toldL (s : B) (v : Ver) (a : Option Addr) (c : Nat) : List Value := [.string (str s), .int .u32 v.a, .int .u32 v.b, .int .u32 v.c, .slice a v.pre.length c]
theorem told_agg (w : World) : (isAgg 112).run Tryz.prog w = .ok true w := by kernel_rfl
theorem told_size (w : World) : (Go.sizeOf 112).run Tryz.prog w = .ok 5 w := by kernel_rfl
set_option maxHeartbeats 4000000 in
set_option maxRecDepth 100000 in
theorem prising_any (s t : B) (v u : Ver) (a1 : Option Addr) (c1 : Nat) (a2 : Option Addr) (c2 : Nat) (w : World) (hT1 : Txs w a1 c1 v.pre) (hT2 : Txs w a2 c2 u.pre) (m1 : may v = true) (m2 : may u = true) :
    Calls Tryz.prog 72 #[.agg (toldL s v a1 c1).toArray, .agg (toldL t u a2 c2).toArray] w fun e w' => e = .returned (.int .i64 (cmpV v u)) ∧ Gr w w' := by
  have HC := Lib.hid (fun w' h1 h2 => pcompare_any v u a1 c1 a2 c2 w' h1 h2 m1 m2)
  have HT1 := Lib.hid hT1
  have HT2 := Lib.hid hT2
  have HG := Lib.hid (Gr.refl w)
  clear hT1 hT2 m1 m2
  unfold toldL
  go_enter Tryz.func72, Tryz.ntmps72
  go_wp2_with (go_at_call 73; refine (HC.out _ ((HT1.out.alloc _).alloc _) ((HT2.out.alloc _).alloc _)).mono ?_; rintro e w2 ⟨rfl, hg2⟩)
  go_ret
  exact ⟨rfl, ((HG.out.alloc _).alloc _).trans hg2⟩
/-- a text that was read: the texts of its version lie in the world ahead of the sort, in another block than the sorted row -/
structure TD (w : World) (blk : Nat) where
  s : B
  v : Ver
  a : Option Addr
  c : Nat
  read : readB s = some v
  txs : Txs w a c v.pre
  far : ∀ b o, a = some ⟨b, o, none⟩ → b ≠ blk
instance (w : World) (blk : Nat) : Inhabited (TD w blk) := ⟨⟨[48, 46, 48, 46, 48], ⟨0, 0, 0, []⟩, none, 0, by rfl, Txs.nil _ _ _, fun b o h => by cases h⟩⟩
def encTD {w : World} {blk : Nat} (x : TD w blk) : List Value := toldL x.s x.v x.a x.c
def cmpTD {w : World} {blk : Nat} (x y : TD w blk) : Int := cmpV x.v y.v
theorem swoTD (w : World) (blk : Nat) : Go.Sort.SWO (ltOf (cmpTD (w := w) (blk := blk))) where
  irrefl x := by unfold ltOf cmpTD; rw [cmpV_self]; rfl
  trans x y z h1 h2 := by
    unfold ltOf cmpTD at *
    rw [decide_eq_true_eq] at *
    by_cases h : cmpV x.v z.v < 0
    · exact h
    · have h3 := cmpV_pre.anti z.v x.v
      have h4 := cmpV_pre.trans z.v x.v y.v (by omega) (by omega)
      have h5 := cmpV_pre.anti z.v y.v
      omega
  ntrans x y z h1 h2 := by
    unfold ltOf cmpTD at *
    rw [decide_eq_false_iff_not] at *
    have h3 := cmpV_pre.anti z.v y.v
    have h4 := cmpV_pre.anti y.v x.v
    have h5 := cmpV_pre.trans z.v y.v x.v (by omega) (by omega)
    have h6 := cmpV_pre.anti z.v x.v
    omega
theorem cell_sorted {α : Type} [Inhabited α] (enc : α → List Value) (k : Nat) (w : World) (blk off m : Nat) (dk : Array α) (os : Array Obj) {b o : Nat} {x : Value} (h : w.cell? ⟨b, o, none⟩ = some x) (hne : b ≠ blk) : (sortWorldK enc k w blk off m dk os).cell? ⟨b, o, none⟩ = some x := by
  have hl : b < w.heap.size := World.block_lt_of_cell? _ _ h
  have h1 : (putRowK enc k (Sort.ahead w m) blk off dk).cell? ⟨b, o, none⟩ = some x := by rw [cell?_putRowK_other _ _ _ _ _ _ _ hne]; exact h
  have hl1 : b < (putRowK enc k (Sort.ahead w m) blk off dk).heap.size := World.block_lt_of_cell? _ _ h1
  unfold sortWorldK
  unfold World.cell? at h1 ⊢
  have e : (grow (putRowK enc k (Sort.ahead w m) blk off dk) os).heap[b]? = (putRowK enc k (Sort.ahead w m) blk off dk).heap[b]? := by simp [grow, Array.getElem?_append, hl1]
  rw [show (⟨b, o, none⟩ : Addr).block = b from rfl] at h1 ⊢
  rw [e]
  exact h1
theorem TD.txsAt {w : World} {blk : Nat} (x : TD w blk) {α : Type} [Inhabited α] (enc : α → List Value) (k off m : Nat) (dk : Array α) (os : Array Obj) : Txs (sortWorldK enc k w blk off m dk os) x.a x.c x.v.pre := by
  refine ⟨x.txs.cap, x.txs.short, x.txs.few, fun h0 => ?_⟩
  obtain ⟨b, o, e, hc⟩ := x.txs.cells h0
  exact ⟨b, o, e, fun i hi => cell_sorted enc k w blk off m dk os (hc i hi) (x.far b o e)⟩
theorem psortFunc_any (blk off cap : Nat) (w : World) (d : Array (TD w blk)) (hH : HoldsK encTD 5 w blk off d) (hblk : blk < w.heap.size) (hsz : d.size < 4611686018427387904) :
    Calls Tryz.prog 74 #[.slice (some ⟨blk, off, none⟩) d.size cap, .func (.func 72) #[] #[]] w fun e w' =>
      e = .returned (.tuple #[]) ∧ ∃ d' n os, Go.Sort.PermIn 0 d.size d d' ∧ Go.Sort.SortedIn (ltOf cmpTD) 0 d.size d' ∧ w' = sortWorldK encTD 5 w blk off n d' os := by
  have eg : ∀ args w, (callFunc 72 args).run Tryz.prog w = .ok (.enter 72 args) w := enters_of Tryz.func72 (by kernel_rfl) rfl
  exact AnyQ.slices_SortFunc Tryz.sortTold 5 told_agg told_size encTD (fun _ => rfl) (fun x v hv => by simp only [encTD, toldL, List.mem_cons, List.not_mem_nil, or_false] at hv; rcases hv with rfl | rfl | rfl | rfl | rfl <;> rfl) cmpTD (swoTD w blk) 72 #[] blk off cap d w eg
    (fun m os dk _ x y => (prising_any x.s y.s x.v y.v x.a x.c y.a y.c _ (x.txsAt _ _ _ _ _ _) (y.txsAt _ _ _ _ _ _) (read_text x.read).2.2 (read_text y.read).2.2).mono fun _ _ h => ⟨h.1, h.2.grow⟩) hH hblk hsz
end VerC
end Go.Proofs.YtapikdgncdcneaaGreatDoor
