/-
  Names: the program's NameOf, and the walk of its exact law.
-/
import Derived.Test.YtkfplichekebdaaDoorReadN
namespace Go.Proofs.YtkfplichekebdaaDoor
open Go Go.RowKit
open M
set_option linter.unusedVariables false

theorem iNameOf_any (k : Int) (w : World) : Calls Tryd.prog 92 #[.int .i64 k] w fun e w' => e = .returned (.tuple #[tx (nameT k), .bool (decide (0 ≤ k ∧ k ≤ 3))]) ∧ w' = w := by
  unfold nameT
  by_cases h : 0 ≤ k ∧ k ≤ 3
  · rw [if_pos h, decide_eq_true h]
    have hk : k = 0 ∨ k = 1 ∨ k = 2 ∨ k = 3 := by omega
    clear h
    rcases hk with rfl | rfl | rfl | rfl
    all_goals
      go_enter Tryd.func92, Tryd.ntmps92
      go_wp2_with fail
      go_ret2
      exact ⟨rfl, rfl⟩
  · rw [if_neg h, decide_eq_false h]
    by_cases h0 : k < 0
    · clear h
      go_enter Tryd.func92, Tryd.ntmps92
      go_wp2_with fail
      go_ret2
      exact ⟨rfl, rfl⟩
    · have h1 : ¬ k < 0 := h0
      have h2 : 4 ≤ k := by omega
      clear h
      go_enter Tryd.func92, Tryd.ntmps92
      go_wp2_with fail
      go_ret2
      exact ⟨rfl, rfl⟩
end Go.Proofs.YtkfplichekebdaaDoor
