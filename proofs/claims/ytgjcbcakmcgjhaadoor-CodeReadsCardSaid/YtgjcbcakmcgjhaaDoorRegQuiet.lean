/-
  A region that draws its order, from some point on: what is left only reads: one walk, in the order of the text.
-/
import Derived.Test.YtgjcbcakmcgjhaaDoorChecked
import Derived.WalkKit
import Derived.BigQuiet
import Derived.Deep.QuietTactic
import Derived.RegionCalls
namespace Go.Proofs.YtgjcbcakmcgjhaaDoor
namespace RegQ
theorem tail {P : Program} {md : Region.Mode} {ops : Array Oper} {Q : Exit → Act → World → Prop} {a : Act} {w : World} (k : Nat) {fuel : Nat} {listed : Array Bool} (hs : Region.noSelect ops = true) (hf : fuel = (ops.toList.drop k).length)
    (hB : Region.lexFrom md ops (ops.toList.drop k).length k listed = true)
    (h : wpQuiet P ops (fun w' => ∃ n, w' = w.drewN n) (fun a' => ∀ w', (∃ n, w' = w.drewN n) → Q .normal a' w') (ops.toList.drop k) a) : wpAny P md ops Q fuel listed a w := by
  subst hf
  exact wpAny_of_quiet (C := fun w' => ∃ n, w' = w.drewN n) (Q := fun a' => ∀ w', (∃ n, w' = w.drewN n) → Q .normal a' w') (fun _ w' hw h => h w' hw) _ _ _ _ ⟨0, rfl⟩
    (wpAnyQ_lex hs (ops.toList.drop k) k listed a (fun j => by rw [List.getElem?_drop, Array.getElem?_toList]) hB h)
end RegQ
end Go.Proofs.YtgjcbcakmcgjhaaDoor
