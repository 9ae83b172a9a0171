/-
  The walk of the exact law of TurnTerm, out of what the program's own function does.
-/
import Derived.Test.YtmhpnkfibecnmaaDoorTurn
import Derived.Test.YtmhpnkfibecnmaaDoorLGood
namespace Go.Proofs.YtmhpnkfibecnmaaDoor
open Go Go.RowKit
open M
set_option linter.unusedVariables false

theorem own_block {w : World} {B : Nat} {e : TypeId} {s : Nat} {v : Value} {n : Nat} {xs : List Value} (h : w.ownsRow B e s v n xs) {k : Nat} (hk : v.ownBlock = some k) : B ≤ k ∧ k < w.heap.size := by
  rcases h.2 with ⟨rfl, _⟩ | ⟨g, cap, cur, rfl, hg, hh, _⟩
  · cases hk
  · cases hk
    refine ⟨hg, ?_⟩
    by_cases hg' : g < w.heap.size
    · exact hg'
    · rw [Array.getElem?_eq_none (by omega)] at hh
      cases hh
theorem own_other {w w' : World} {B : Nat} {e : TypeId} {s : Nat} {v : Value} {n : Nat} {xs : List Value} {row : Option Nat} (h : w.ownsRow B e s v n xs) (hg : w.grownBy w' row) (hr : ∀ k, row = some k → k < B) : w'.ownsRow B e s v n xs := by
  obtain ⟨h1, h2⟩ := h
  refine ⟨h1, ?_⟩
  rcases h2 with h2 | ⟨g, cap, cur, hv, hB, hh, r⟩
  · exact Or.inl h2
  · have hlt : g < w.heap.size := by
      by_cases hg' : g < w.heap.size
      · exact hg'
      · rw [Array.getElem?_eq_none (by omega)] at hh
        cases hh
    refine Or.inr ⟨g, cap, cur, hv, hB, ?_, r⟩
    rw [hg.block g hlt (fun e => by have := hr g e.symm; omega)]
    exact hh
/-- the same, of nodes that lie in blocks below B -/
def NodesIn (B : Nat) (w : World) (v : Value) (t : List Nd) : Prop := ∀ w' : World, Below B w w' → NodesAt w' v t
theorem NodesAt.inn {w : World} {v : Value} {t : List Nd} (h : NodesAt w v t) : NodesIn w.heap.size w v t := fun w' hb => h.below hb
theorem turnL_ok {wide vars op : Int} {a : List Nd} (hok : ∀ x ∈ a, NdOk x) (ho0 : -9223372036854775808 ≤ op) (ho1 : op ≤ 9223372036854775807) : ∀ x ∈ turnL wide vars op a, NdOk x := by
  intro x hx
  unfold turnL madeL at hx
  split at hx
  · split at hx
    · rcases List.mem_append.1 hx with h | h
      · exact hok x h
      · simp at h
        subst h
        exact ⟨ho0, ho1, by simp, by simp⟩
    · cases hx
  · cases hx
theorem turnL_len (wide vars op : Int) (a : List Nd) : (turnL wide vars op a).length ≤ a.length + 1 := by
  unfold turnL madeL
  split
  · split
    · simp
    · simp
  · simp
end Go.Proofs.YtmhpnkfibecnmaaDoor
