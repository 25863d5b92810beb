/-
  What package sum's Of and More, and the document's own, answer: one contract a function.
-/
import Derived.Test.YtkngdhchjofleaaRows
import Derived.Test.YtkngdhchjofleaaSumMath
import Derived.WalkKit
import Derived.Lib.Hide
namespace Go.Proofs.Ytkngdhchjofleaa
open Go.RowKit
namespace SumC
open SumM

theorem ret_int {k : IntKind} {a b : Int} (h : a = b) : Ending.returned (.int k a) = .returned (.int k b) := by rw [h]

def ofNone : Int := 14695981039346656037

end SumC
end Go.Proofs.Ytkngdhchjofleaa
