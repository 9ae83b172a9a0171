/-
  Terms that are joined: the model's JoinTerms.
-/
import Derived.Test.YtpgojamabmpjnaaDoorTurn
namespace Go.Proofs.YtpgojamabmpjnaaDoor
open Go Go.RowKit
open M
set_option linter.unusedVariables false

def saidJoin (wide vars op : Int) (a b : List Nd) : Bool := decide (manyOf op = 2 ∧ kindL wide vars a = partOf op ∧ kindL wide vars b = partOf op ∧ 0 < kindL wide vars (a ++ b ++ [(op, 0)]))
end Go.Proofs.YtpgojamabmpjnaaDoor
