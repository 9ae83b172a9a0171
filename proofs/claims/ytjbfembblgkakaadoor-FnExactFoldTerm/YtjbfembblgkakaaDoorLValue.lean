/-
  The walk of the exact law of ValueOf, out of what the program's own function does.
-/
import Derived.Test.YtjbfembblgkakaaDoorLGood
import Derived.Test.YtjbfembblgkakaaDoorU64
namespace Go.Proofs.YtjbfembblgkakaaDoor
open Go Go.RowKit
open M
set_option linter.unusedVariables false

/-- what the program's ValueOf is to do -/
def DoesValueOf : Prop := ∀ (wide : Int) (v sv : Value) (t : List Nd) (st : List Int) (w : World), Tab w → NodesAt w v t → t.length ≤ 1048576 → StAt w sv st → StOk st →
  Calls Tryd.prog 20 #[.int .i64 wide, v, sv] w fun e w' => e = .returned (.tuple #[.int .u64 (valueL wide t st), .bool (saidV wide t st)]) ∧ Below w.heap.size w w'
end Go.Proofs.YtjbfembblgkakaaDoor
