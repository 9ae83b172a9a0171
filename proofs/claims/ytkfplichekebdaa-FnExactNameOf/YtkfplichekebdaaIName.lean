/-
  Names: the program's NameOf, and the walk of its exact law.
-/
import Derived.Test.YtkfplichekebdaaReadN
namespace Go.Proofs.Ytkfplichekebdaa
open Go Go.RowKit
open M
set_option linter.unusedVariables false

theorem iNameOf_any (k : Int) (w : World) : Calls Try.prog 5 #[.int .i64 k] w fun e w' => e = .returned (.tuple #[tx (nameT k), .bool (decide (0 ≤ k ∧ k ≤ 3))]) ∧ w' = w := by
  unfold nameT
  by_cases h : 0 ≤ k ∧ k ≤ 3
  · rw [if_pos h, decide_eq_true h]
    have hk : k = 0 ∨ k = 1 ∨ k = 2 ∨ k = 3 := by omega
    clear h
    rcases hk with rfl | rfl | rfl | rfl
    all_goals
      go_enter Try.func5, Try.ntmps5
      go_wp2_with fail
      go_ret2
      exact ⟨rfl, rfl⟩
  · rw [if_neg h, decide_eq_false h]
    by_cases h0 : k < 0
    · clear h
      go_enter Try.func5, Try.ntmps5
      go_wp2_with fail
      go_ret2
      exact ⟨rfl, rfl⟩
    · have h1 : ¬ k < 0 := h0
      have h2 : 4 ≤ k := by omega
      clear h
      go_enter Try.func5, Try.ntmps5
      go_wp2_with fail
      go_ret2
      exact ⟨rfl, rfl⟩
theorem nameOf_law (k : Int) (w : World) : Calls Try.prog 3 #[.int .i64 k] w fun e w' => e = .returned (.bool true) ∧ Below w.heap.size w w' := by
  have g1 := sNameOf_any k w
  have GI : Hid (∀ w1 : World, Calls Try.prog 5 #[.int .i64 k] w1 fun e w' => e = .returned (.tuple #[tx (nameT k), .bool (decide (0 ≤ k ∧ k ≤ 3))]) ∧ w' = w1) := fun w1 => iNameOf_any k w1
  generalize nameT k = m at *
  generalize decide (0 ≤ k ∧ k ≤ 3) = z at *
  go_enter Try.func3, Try.ntmps3
  go_wp2_with fail
  refine g1.mono ?_
  rintro e w1 ⟨rfl, hb⟩
  have HB : Hid _ := hb
  have g2 := GI.out w1
  clear g1 hb GI
  go_wp2_with fail
  refine g2.mono ?_
  rintro e w2 ⟨rfl, rfl⟩
  clear g2
  go_wp2_with fail
  go_ret
  exact ⟨rfl, HB.out⟩
end Go.Proofs.Ytkfplichekebdaa
