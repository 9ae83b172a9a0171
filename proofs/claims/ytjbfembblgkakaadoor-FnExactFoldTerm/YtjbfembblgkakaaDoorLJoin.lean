/-
  The walk of the exact law of JoinTerms, out of what the program's own function does.
-/
import Derived.Test.YtjbfembblgkakaaDoorJoin
import Derived.Test.YtjbfembblgkakaaDoorLTurn
namespace Go.Proofs.YtjbfembblgkakaaDoor
open Go Go.RowKit
open M
set_option linter.unusedVariables false

theorem joinTerms_reads0 (wide vars op : Int) (a b : List Nd) (hwide0 : -9223372036854775808 ≤ wide) (hwide1 : wide ≤ 9223372036854775807) (hvars0 : -9223372036854775808 ≤ vars) (hvars1 : vars ≤ 9223372036854775807) (ho0 : -9223372036854775808 ≤ op) (ho1 : op ≤ 9223372036854775807) (hok : ∀ x ∈ a, NdOk x) (hl : a.length ≤ 1048576) (hokb : ∀ x ∈ b, NdOk x) (hlb : b.length ≤ 1048576) :
    ∀ (w1 : World) (B : Nat) (v1 : Value), OwnNodes w1 B v1 (joinL wide vars op a b) → NodesAt w1 v1 (joinL wide vars op a b) := by
  intro w1 B v1 ho
  refine nodes_of_own ?_ ?_ ho
  · intro x hx
    unfold joinL madeL at hx
    split at hx
    · split at hx
      · rcases List.mem_append.1 hx with h | h
        · rcases List.mem_append.1 h with h | h
          · exact hok x h
          · exact hokb x h
        · simp at h
          subst h
          exact ⟨ho0, ho1, by simp, by simp⟩
      · cases hx
    · cases hx
  · unfold joinL madeL
    split
    · split
      · simp
        omega
      · simp
    · simp
theorem joinTerms_len0 (wide vars op : Int) (a b : List Nd) : (joinL wide vars op a b).length ≤ a.length + b.length + 1 := by
  unfold joinL madeL
  split
  · split
    · simp
      omega
    · simp
  · simp
end Go.Proofs.YtjbfembblgkakaaDoor
