/-
  Which wides can be laid out: the program's and the model's word for it.
-/
import Derived.Test.YtpjllhlbdcanlaaWords
import Derived.Test.YtpjllhlbdcanlaaGood
namespace Go.Proofs.Ytpjllhlbdcanlaa
open Go Go.RowKit
open M
set_option linter.unusedVariables false

theorem goodLaid_any (wide : Int) (w : World) :
    Calls Try.prog 145 #[.int .i64 wide] w fun e w' => e = .returned (.bool (decide (1 ≤ wide ∧ wide ≤ 4))) ∧ w' = w := by
  by_cases h1 : 1 ≤ wide
  · by_cases h2 : wide ≤ 4
    · rw [decide_eq_true ⟨h1, h2⟩]
      go_enter Try.func145, Try.ntmps145
      go_wp2_with fail
      go_ret
      exact ⟨rfl, rfl⟩
    · rw [decide_eq_false (fun h => h2 h.2)]
      go_enter Try.func145, Try.ntmps145
      go_wp2_with fail
      go_ret
      exact ⟨rfl, rfl⟩
  · rw [decide_eq_false (fun h => h1 h.1)]
    go_enter Try.func145, Try.ntmps145
    go_wp2_with fail
    go_ret
    exact ⟨rfl, rfl⟩
set_option maxRecDepth 100000 in
theorem l5Wide_any (wide : Int) (w : World) : Calls Try.prog 144 #[.int .i64 wide] w fun e w' => e = .returned (.bool (decide (1 ≤ wide ∧ wide ≤ 4))) ∧ w' = w := by
  have g := l1In_any wide 1 4 w
  go_enter Try.func144, Try.ntmps144
  go_wp2_with fail
  refine g.mono ?_
  rintro e w1 ⟨rfl, rfl⟩
  go_wp2_with fail
  go_ret
  exact ⟨congrArg (fun z => Ending.returned (Value.bool z)) (Bool.decide_and _ _).symm, rfl⟩
end Go.Proofs.Ytpjllhlbdcanlaa
