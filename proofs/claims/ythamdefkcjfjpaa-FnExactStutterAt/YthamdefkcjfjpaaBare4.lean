/-
  A world to begin with, where a row lists no package-level variable.
-/
import Derived.Test.YthamdefkcjfjpaaRows
import Derived.ProofKit
import Derived.OpenShut
import Derived.Deep.DeepHandedRow
import Derived.OpenVars
import Derived.ChangeOld
import Derived.WalkSmall
import Derived.LaidLaws
namespace Go.Proofs.Ythamdefkcjfjpaa
open Go Go.ChangeShapes Go.WideShapes Go.ChangeAt Go.RowKit

theorem own : ownKnob Try.prog.godebug = none := by kernel_rfl
theorem laidOut : laidOutB Try.prog = true := by kernel_rfl
def laidWorld (P : Program) (os : Os) : World := World.holding P os ⟨#[], #[], []⟩
end Go.Proofs.Ythamdefkcjfjpaa
