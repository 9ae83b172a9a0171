/-
  A folded tree: the model's l2Fold.
-/
import Derived.Test.YtmhpnkfibecnmaaDoorFoldM
import Derived.Test.YtmhpnkfibecnmaaDoorVars
import Derived.Test.YtmhpnkfibecnmaaDoorTurn
namespace Go.Proofs.YtmhpnkfibecnmaaDoor
open Go Go.RowKit
open M
set_option linter.unusedVariables false

theorem own_single (w : World) (B : Nat) (op z : Int) (hB : B ≤ w.heap.size) : OwnNodes (w.alloc (.cells #[.int .i64 op, .int .u64 z] 159)) B (.slice (some ⟨w.heap.size, 0, none⟩) 1 1) [(op, z)] := by
  refine ⟨rfl, Or.inr ⟨w.heap.size, 1, #[.int .i64 op, .int .u64 z], rfl, hB, ?_, Nat.le_refl _, by unfold maxLen; omega, rfl, rfl⟩⟩
  show (w.heap.push _)[w.heap.size]? = _
  simp
end Go.Proofs.YtmhpnkfibecnmaaDoor
