/-
  The walks of the exact laws of GoodTerm and KindOf, out of what the program's own two functions do.
-/
import Derived.Test.YtmhpnkfibecnmaaDoorNodes
namespace Go.Proofs.YtmhpnkfibecnmaaDoor
open Go Go.RowKit
open M
set_option linter.unusedVariables false

theorem Tab.below {w w' : World} (h : Tab w) (hb : Below w.heap.size w w') (h0 : 0 < w.heap.size) : Tab w' := by
  intro k hk
  rw [hb.cell (p := ⟨0, k, none⟩) h0]
  exact h k hk
theorem Tab.some {w : World} (h : Tab w) : 0 < w.heap.size := by
  have h0 := h 0 (by omega)
  by_cases hb : 0 < w.heap.size
  · exact hb
  · have e : w.heap[0]? = none := Array.getElem?_eq_none (by omega)
    simp [World.cell?, e] at h0
theorem Below.step {B : Nat} {u v w : World} (h : Below B u v) (hB : B ≤ v.heap.size) (k : Below v.heap.size v w) : Below B u w := h.trans (k.mono hB)
end Go.Proofs.YtmhpnkfibecnmaaDoor
