/-
  A folded tree whole, and a folded term: the model's l2Fold, FoldTerm.
-/
import Derived.Test.YtjbolpfilgkbfaaDoorFold3
namespace Go.Proofs.YtjbolpfilgkbfaaDoor
open Go Go.RowKit
open M
set_option linter.unusedVariables false

section
variable {k : Nat} {vars : Int} {t : List Nd} {b off cap : Nat} {p : List (Ent Int)}
end
end Go.Proofs.YtjbolpfilgkbfaaDoor
