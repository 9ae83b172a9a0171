/-
  The shapes of what a call owns.
-/
import Derived.Test.YtmhpnkfibecnmaaDoorOwn3
namespace Go.Proofs.YtmhpnkfibecnmaaDoor
open Go Go.RowKit
open M
set_option linter.unusedVariables false

theorem AtCirc.shape {w : World} {v : Value} {c : Ci} (h : AtCirc w v c) : ∃ ga gn gc oa on oc, v = .agg #[.int .i64 c.1, .slice ga gn gc, .slice oa on oc] := by
  obtain ⟨_, g, o, hv, h1, h2⟩ := h
  obtain ⟨ga, gc, rfl⟩ := h1.shape
  obtain ⟨oa, oc, rfl⟩ := h2.shape
  exact ⟨ga, _, gc, oa, _, oc, hv⟩
theorem OwnIS.shape {w : World} {lo hi : Nat} {v : Value} {c : List Int} (h : OwnIS w lo hi v c) : ∃ a n cap, v = .slice a n cap := by
  obtain ⟨a, cap, e⟩ := own_shape h.1
  exact ⟨a, _, cap, e⟩
theorem OwnBS.shape {w : World} {lo hi : Nat} {v : Value} {c : List Bool} (h : OwnBS w lo hi v c) : ∃ a n cap, v = .slice a n cap := by
  obtain ⟨a, cap, e⟩ := own_shape h.1
  exact ⟨a, _, cap, e⟩
end Go.Proofs.YtmhpnkfibecnmaaDoor
