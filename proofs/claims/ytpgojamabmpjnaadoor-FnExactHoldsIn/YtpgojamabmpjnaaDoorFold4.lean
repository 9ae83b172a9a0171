/-
  A folded tree whole, and a folded term: the model's l2Fold, FoldTerm.
-/
import Derived.Test.YtpgojamabmpjnaaDoorFold3
namespace Go.Proofs.YtpgojamabmpjnaaDoor
open Go Go.RowKit
open M
set_option linter.unusedVariables false

section
variable {k : Nat} {vars : Int} {t : List Nd} {b off cap : Nat} {p : List (Ent Int)}
end
end Go.Proofs.YtpgojamabmpjnaaDoor
