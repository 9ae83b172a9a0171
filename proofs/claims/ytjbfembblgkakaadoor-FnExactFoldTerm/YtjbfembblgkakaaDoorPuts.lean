/-
  What is put for variables: the model's PutAll.
-/
import Derived.Test.YtjbfembblgkakaaDoorFold5
namespace Go.Proofs.YtjbfembblgkakaaDoor
open Go Go.RowKit
open M
set_option linter.unusedVariables false

/-- a slice of slices of nodes -/
def NodesSS (w : World) (v : Value) (bs : List (List Nd)) : Prop :=
  bs.length ≤ 9223372036854775807 ∧ ((bs = [] ∧ ∃ (a : Option Addr) (cap : Nat), v = .slice a 0 cap) ∨
  ∃ b off cap : Nat, v = .slice (some ⟨b, off, none⟩) bs.length cap ∧ b < w.heap.size ∧ ∀ (i : Nat) (t : List Nd), bs[i]? = some t → ∃ u : Value, w.cell? ⟨b, off + i, none⟩ = some u ∧ NodesAt w u t)
theorem NodesSS.below {w w' : World} {v : Value} {bs : List (List Nd)} (h : NodesSS w v bs) (hb : Below w.heap.size w w') : NodesSS w' v bs := by
  obtain ⟨h1, h2⟩ := h
  refine ⟨h1, ?_⟩
  rcases h2 with h2 | ⟨b, off, cap, hv, hlt, hc⟩
  · exact Or.inl h2
  · refine Or.inr ⟨b, off, cap, hv, Nat.lt_of_lt_of_le hlt hb.size, fun i t ht => ?_⟩
    obtain ⟨u, h3, h4⟩ := hc i t ht
    refine ⟨u, ?_, h4.below hb⟩
    rw [hb.cell (p := ⟨b, off + i, none⟩) hlt]
    exact h3
/-- for each variable its nodes, for any other node itself -/
def putsL (bs : List (List Nd)) (t : List Nd) : List Nd := t.flatMap fun x => if x.1 = 2 then bs.getD x.2.toNat [] else [x]
theorem putsL_snoc (bs : List (List Nd)) (t : List Nd) (x : Nd) : putsL bs (t ++ [x]) = putsL bs t ++ (if x.1 = 2 then bs.getD x.2.toNat [] else [x]) := by
  unfold putsL
  rw [List.flatMap_append]
  simp
end Go.Proofs.YtjbfembblgkakaaDoor
