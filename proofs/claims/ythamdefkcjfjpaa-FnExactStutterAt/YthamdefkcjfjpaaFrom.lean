/-
  Where the tree of a node begins: the model's l2From.
-/
import Derived.Test.YthamdefkcjfjpaaNodes
import Derived.Test.YthamdefkcjfjpaaValue
namespace Go.Proofs.Ythamdefkcjfjpaa
open Go Go.RowKit
open M
set_option linter.unusedVariables false

/-- the cells of a row of nodes -/
def Cells (w : World) (b off : Nat) (t : List Nd) : Prop := ∀ (i : Nat) (x : Nd), t[i]? = some x → w.cell? ⟨b, off + i * 2, none⟩ = some (.int .i64 x.1) ∧ w.cell? ⟨b, off + i * 2 + 1, none⟩ = some (.int .u64 x.2)
section
variable {α : Type} {wide vars : Int} {f0 : Nd → α} {f1 : Nd → α → α} {f2 : Nd → α → α → α}
end
end Go.Proofs.Ythamdefkcjfjpaa
