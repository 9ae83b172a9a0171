/-
  What an op takes and is, whether a node's number is as its op wants it, how many variables there may be: the program's shapeOf, goodN, goodVars.
-/
import Derived.Test.YtpjllhlbdcanlaaIHeap
namespace Go.Proofs.Ytpjllhlbdcanlaa
open Go Go.RowKit
open M
set_option linter.unusedVariables false

/-- the kind of an op's parts; 0 where it has none -/
def wantOf (op : Int) : Int := if manyOf op = 0 then 0 else partOf op
theorem wantOf_part {op : Int} (h : manyOf op ≠ 0) : wantOf op = partOf op := by unfold wantOf; rw [if_neg h]
theorem goodVars_yes (vars : Int) (h : 1 ≤ vars ∧ vars ≤ 4) (w : World) :
    Calls Try.prog 146 #[.int .i64 vars] w fun e w' => e = .returned (.bool true) ∧ w' = w := by
  obtain ⟨h1, h2⟩ := h
  have hd : decide (vars ≤ 4) = true := decide_eq_true h2
  go_enter Try.func146, Try.ntmps146
  go_wp2
  go_ret
  exact ⟨ret_bool (by first | rfl | exact hd), rfl⟩
theorem goodVars_no (vars : Int) (h : ¬ (1 ≤ vars ∧ vars ≤ 4)) (w : World) :
    Calls Try.prog 146 #[.int .i64 vars] w fun e w' => e = .returned (.bool false) ∧ w' = w := by
  by_cases h1 : 1 ≤ vars
  · have hd : decide (vars ≤ 4) = false := decide_eq_false (by omega)
    go_enter Try.func146, Try.ntmps146
    go_wp2
    go_ret
    exact ⟨ret_bool (by first | rfl | exact hd), rfl⟩
  · go_enter Try.func146, Try.ntmps146
    go_wp2
    go_ret
    exact ⟨rfl, rfl⟩
end Go.Proofs.Ytpjllhlbdcanlaa
