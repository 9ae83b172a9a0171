/-
  The value of the tree of a node: the model's l2Value.
-/
import Derived.Test.YthamdefkcjfjpaaVal2
import Derived.Deep.RegionWith
import Derived.Outline
namespace Go.Proofs.Ythamdefkcjfjpaa
open Go Go.RowKit
open M
set_option linter.unusedVariables false

/-- a slice whose elements are these words -/
def StAt (w : World) (sv : Value) (st : List Int) : Prop :=
  (st = [] ∧ ∃ (a : Option Addr) (cap : Nat), sv = .slice a 0 cap) ∨
  ∃ b off cap : Nat, sv = .slice (some ⟨b, off, none⟩) st.length cap ∧ b < w.heap.size ∧ ∀ (i : Nat) (s : Int), st[i]? = some s → w.cell? ⟨b, off + i, none⟩ = some (.int .u64 s)
theorem StAt.below {w w' : World} {v : Value} {t : List Int} (h : StAt w v t) (hb : Below w.heap.size w w') : StAt w' v t := by
  rcases h with h | ⟨b, off, cap, hv, hlt, hc⟩
  · exact Or.inl h
  · refine Or.inr ⟨b, off, cap, hv, Nat.lt_of_lt_of_le hlt hb.size, fun i x hx => ?_⟩
    rw [hb.cell (p := ⟨b, off + i, none⟩) hlt]
    exact hc i x hx
theorem Cells.below {w w' : World} {b off : Nat} {t : List Nd} (h : Cells w b off t) (hlt : b < w.heap.size) (hb : Below w.heap.size w w') : Cells w' b off t := by
  intro i x hx
  rw [hb.cell (p := ⟨b, off + i * 2, none⟩) hlt, hb.cell (p := ⟨b, off + i * 2 + 1, none⟩) hlt]
  exact h i x hx
section
variable {k : Nat} {vars : Int} {st : List Int} {t : List Nd} {b off cap : Nat} {sv : Value}
theorem below_keep {w w1 w2 : World} (h : Below w.heap.size w w1) (h2 : Below w1.heap.size w1 w2) : Below w.heap.size w w2 := h.trans (h2.mono h.size)
end
end Go.Proofs.Ythamdefkcjfjpaa
