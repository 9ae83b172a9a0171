/-
  The walks of the exact laws of GoodTerm and KindOf, out of what the program's own two functions do.
-/
import Derived.Test.YthamdefkcjfjpaaNodes
namespace Go.Proofs.Ythamdefkcjfjpaa
open Go Go.RowKit
open M
set_option linter.unusedVariables false

theorem Below.step {B : Nat} {u v w : World} (h : Below B u v) (hB : B ≤ v.heap.size) (k : Below v.heap.size v w) : Below B u w := h.trans (k.mono hB)
end Go.Proofs.Ythamdefkcjfjpaa
