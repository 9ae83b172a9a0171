/-
  What an op takes and is, and whether a node's number is as its op wants it: the model's l2Need and l2N.
-/
import Derived.Test.YtmhpnkfibecnmaaDoorWords
import Derived.Test.YtmhpnkfibecnmaaDoorTerm

namespace Go.Proofs.YtmhpnkfibecnmaaDoor
open Go Go.RowKit
open M
set_option linter.unusedVariables false

theorem l1In_yes (n lo hi : Int) (h : lo ≤ n ∧ n ≤ hi) (w : World) :
    Calls Tryd.prog 59 #[.int .i64 n, .int .i64 lo, .int .i64 hi] w fun e w' => e = .returned (.bool true) ∧ w' = w := by
  obtain ⟨h1, h2⟩ := h
  have hd : decide (n ≤ hi) = true := decide_eq_true h2
  go_enter Tryd.func59, Tryd.ntmps59
  go_wp2
  go_ret
  exact ⟨ret_bool (by first | rfl | exact hd), rfl⟩
theorem l1In_no (n lo hi : Int) (h : ¬ (lo ≤ n ∧ n ≤ hi)) (w : World) :
    Calls Tryd.prog 59 #[.int .i64 n, .int .i64 lo, .int .i64 hi] w fun e w' => e = .returned (.bool false) ∧ w' = w := by
  by_cases h1 : lo ≤ n
  · have hd : decide (n ≤ hi) = false := decide_eq_false (by omega)
    go_enter Tryd.func59, Tryd.ntmps59
    go_wp2
    go_ret
    exact ⟨ret_bool (by first | rfl | exact hd), rfl⟩
  · go_enter Tryd.func59, Tryd.ntmps59
    go_wp2
    go_ret
    exact ⟨rfl, rfl⟩
theorem ret3 {a b c a' b' c' : Int} (h1 : a = a') (h2 : b = b') (h3 : c = c') : Ending.returned (.tuple #[.int .i64 a, .int .i64 b, .int .i64 c]) = .returned (.tuple #[.int .i64 a', .int .i64 b', .int .i64 c']) := by rw [h1, h2, h3]
set_option maxHeartbeats 1000000 in
theorem l2Need_any (op : Int) (w : World) :
    Calls Tryd.prog 130 #[.int .i64 op] w fun e w' => e = .returned (.tuple #[.int .i64 (manyOf op), .int .i64 (partOf op), .int .i64 (ownOf op)]) ∧ w' = w := by
  by_cases c0 : op = 1
  · have hm : (0 : Nat) = manyOf op := by unfold manyOf; (repeat' split) <;> omega
    have hp : (1 : Int) = partOf op := by unfold partOf; (repeat' split) <;> omega
    have ho : (1 : Int) = ownOf op := by unfold ownOf; (repeat' split) <;> omega
    generalize manyOf op = mm at *
    generalize partOf op = pp at *
    generalize ownOf op = oo at *
    subst hm hp ho
    subst c0
    go_enter Tryd.func130, Tryd.ntmps130
    go_wp2
    go_ret3
    exact ⟨rfl, rfl⟩
  by_cases c1 : op = 2
  · have hm : (0 : Nat) = manyOf op := by unfold manyOf; (repeat' split) <;> omega
    have hp : (1 : Int) = partOf op := by unfold partOf; (repeat' split) <;> omega
    have ho : (1 : Int) = ownOf op := by unfold ownOf; (repeat' split) <;> omega
    generalize manyOf op = mm at *
    generalize partOf op = pp at *
    generalize ownOf op = oo at *
    subst hm hp ho
    subst c1
    go_enter Tryd.func130, Tryd.ntmps130
    go_wp2
    go_ret3
    exact ⟨rfl, rfl⟩
  by_cases c2 : op = 20
  · have hm : (0 : Nat) = manyOf op := by unfold manyOf; (repeat' split) <;> omega
    have hp : (2 : Int) = partOf op := by unfold partOf; (repeat' split) <;> omega
    have ho : (2 : Int) = ownOf op := by unfold ownOf; (repeat' split) <;> omega
    generalize manyOf op = mm at *
    generalize partOf op = pp at *
    generalize ownOf op = oo at *
    subst hm hp ho
    subst c2
    go_enter Tryd.func130, Tryd.ntmps130
    go_wp2
    go_ret3
    exact ⟨rfl, rfl⟩
  by_cases c3 : op = 13
  · have hm : (1 : Nat) = manyOf op := by unfold manyOf; (repeat' split) <;> omega
    have hp : (1 : Int) = partOf op := by unfold partOf; (repeat' split) <;> omega
    have ho : (1 : Int) = ownOf op := by unfold ownOf; (repeat' split) <;> omega
    generalize manyOf op = mm at *
    generalize partOf op = pp at *
    generalize ownOf op = oo at *
    subst hm hp ho
    subst c3
    go_enter Tryd.func130, Tryd.ntmps130
    go_wp2
    go_ret3
    exact ⟨rfl, rfl⟩
  by_cases c4 : op = 19
  · have hm : (1 : Nat) = manyOf op := by unfold manyOf; (repeat' split) <;> omega
    have hp : (2 : Int) = partOf op := by unfold partOf; (repeat' split) <;> omega
    have ho : (2 : Int) = ownOf op := by unfold ownOf; (repeat' split) <;> omega
    generalize manyOf op = mm at *
    generalize partOf op = pp at *
    generalize ownOf op = oo at *
    subst hm hp ho
    subst c4
    go_enter Tryd.func130, Tryd.ntmps130
    go_wp2
    go_ret3
    exact ⟨rfl, rfl⟩
  by_cases c5 : 3 ≤ op ∧ op ≤ 12
  · have hm : (2 : Nat) = manyOf op := by unfold manyOf; (repeat' split) <;> omega
    have hp : (1 : Int) = partOf op := by unfold partOf; (repeat' split) <;> omega
    have ho : (1 : Int) = ownOf op := by unfold ownOf; (repeat' split) <;> omega
    generalize manyOf op = mm at *
    generalize partOf op = pp at *
    generalize ownOf op = oo at *
    subst hm hp ho
    obtain ⟨d1, d2⟩ := c5
    have e1 : (op == 1) = false := beq_eq_false_iff_ne.2 (by omega)
    have e2 : (op == 2) = false := beq_eq_false_iff_ne.2 (by omega)
    have e20 : (op == 20) = false := beq_eq_false_iff_ne.2 (by omega)
    have e13 : (op == 13) = false := beq_eq_false_iff_ne.2 (by omega)
    have e19 : (op == 19) = false := beq_eq_false_iff_ne.2 (by omega)
    clear c0 c1 c2 c3 c4
    go_enter Tryd.func130, Tryd.ntmps130
    go_wp2
    go_ret3
    exact ⟨rfl, rfl⟩
  by_cases c6 : 14 ≤ op ∧ op ≤ 16
  · have hm : (2 : Nat) = manyOf op := by unfold manyOf; (repeat' split) <;> omega
    have hp : (1 : Int) = partOf op := by unfold partOf; (repeat' split) <;> omega
    have ho : (2 : Int) = ownOf op := by unfold ownOf; (repeat' split) <;> omega
    generalize manyOf op = mm at *
    generalize partOf op = pp at *
    generalize ownOf op = oo at *
    subst hm hp ho
    obtain ⟨d1, d2⟩ := c6
    have e1 : (op == 1) = false := beq_eq_false_iff_ne.2 (by omega)
    have e2 : (op == 2) = false := beq_eq_false_iff_ne.2 (by omega)
    have e20 : (op == 20) = false := beq_eq_false_iff_ne.2 (by omega)
    have e13 : (op == 13) = false := beq_eq_false_iff_ne.2 (by omega)
    have e19 : (op == 19) = false := beq_eq_false_iff_ne.2 (by omega)
    clear c0 c1 c2 c3 c4 c5
    go_enter Tryd.func130, Tryd.ntmps130
    go_wp2
    go_ret3
    exact ⟨rfl, rfl⟩
  by_cases c7 : op = 17
  · have hm : (2 : Nat) = manyOf op := by unfold manyOf; (repeat' split) <;> omega
    have hp : (2 : Int) = partOf op := by unfold partOf; (repeat' split) <;> omega
    have ho : (2 : Int) = ownOf op := by unfold ownOf; (repeat' split) <;> omega
    generalize manyOf op = mm at *
    generalize partOf op = pp at *
    generalize ownOf op = oo at *
    subst hm hp ho
    subst c7
    go_enter Tryd.func130, Tryd.ntmps130
    go_wp2
    go_ret3
    exact ⟨rfl, rfl⟩
  by_cases c8 : op = 18
  · have hm : (2 : Nat) = manyOf op := by unfold manyOf; (repeat' split) <;> omega
    have hp : (2 : Int) = partOf op := by unfold partOf; (repeat' split) <;> omega
    have ho : (2 : Int) = ownOf op := by unfold ownOf; (repeat' split) <;> omega
    generalize manyOf op = mm at *
    generalize partOf op = pp at *
    generalize ownOf op = oo at *
    subst hm hp ho
    subst c8
    go_enter Tryd.func130, Tryd.ntmps130
    go_wp2
    go_ret3
    exact ⟨rfl, rfl⟩
  have hm : (0 : Nat) = manyOf op := by unfold manyOf; (repeat' split) <;> omega
  have hp : (0 : Int) = partOf op := by unfold partOf; (repeat' split) <;> omega
  have ho : (0 : Int) = ownOf op := by unfold ownOf; (repeat' split) <;> omega
  generalize manyOf op = mm at *
  generalize partOf op = pp at *
  generalize ownOf op = oo at *
  subst hm hp ho
  rcases (show op < 1 ∨ 20 < op by omega) with d | d
  all_goals
    have e1 : (op == 1) = false := beq_eq_false_iff_ne.2 (by omega)
    have e2 : (op == 2) = false := beq_eq_false_iff_ne.2 (by omega)
    have e20 : (op == 20) = false := beq_eq_false_iff_ne.2 (by omega)
    have e13 : (op == 13) = false := beq_eq_false_iff_ne.2 (by omega)
    have e19 : (op == 19) = false := beq_eq_false_iff_ne.2 (by omega)
    have e17 : (op == 17) = false := beq_eq_false_iff_ne.2 (by omega)
    have e18 : (op == 18) = false := beq_eq_false_iff_ne.2 (by omega)
    clear c0 c1 c2 c3 c4 c5 c6 c7 c8
    go_enter Tryd.func130, Tryd.ntmps130
    go_wp2
    go_ret3
    exact ⟨rfl, rfl⟩
end Go.Proofs.YtmhpnkfibecnmaaDoor
